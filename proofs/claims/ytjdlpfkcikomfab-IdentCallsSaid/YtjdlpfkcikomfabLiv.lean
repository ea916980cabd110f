/-
  The contract of ServerOf of package ident, and that of the chapter's example in the statements.
-/
import Derived.Test.YtjdlpfkcikomfabLow
namespace Go.Proofs.Ytjdlpfkcikomfab
open Go.RowKit

def serverOfL (l : List UInt8) : List UInt8 × Bool := if (cutC l).2.2 = true ∧ userB l = true then (lowL (cutC l).2.1, true) else ([], false)

/-- A call that answers a text and a bool and leaves all that was there as it was. -/
def RetSB (r : List UInt8 × Bool) (w : World) (e : Ending) (w' : World) : Prop := e = .returned (.tuple #[.string (S r.1), .bool r.2]) ∧ Keeps w w'

set_option maxHeartbeats 1000000 in
theorem serverOf_any (s : ByteArray) (w : World) (hs : s.size ≤ maxLen) : Calls Try.prog 12 #[.string s] w (RetSB (serverOfL s.data.toList) w) := by
  have hl : s.data.toList.length = s.size := by simp
  obtain ⟨k1, k2⟩ := cutC_le s.data.toList
  have cC := Lib.hid (fun w => cut28 s w hs)
  have cU := Lib.hid (fun w => user_any s w hs)
  have cL : Hid (∀ w, Calls Try.prog 11 #[.string (S (cutC s.data.toList).2.1)] w (RetS (lowL (cutC s.data.toList).2.1) w)) := fun w => lower_any (S (cutC s.data.toList).2.1) w (by rw [S_size]; omega)
  have hE : S [] = ⟨#[]⟩ := rfl
  unfold maxLen at hs
  unfold serverOfL
  clear k1 k2 hl
  generalize userB s.data.toList = u at cU ⊢
  generalize lowL (cutC s.data.toList).2.1 = q at cL ⊢
  generalize S (cutC s.data.toList).1 = t1 at cC
  generalize S (cutC s.data.toList).2.1 = t2 at cC cL
  generalize (cutC s.data.toList).2.2 = h at cC ⊢
  cases h
  · rw [if_neg (fun h => Bool.noConfusion h.1)]
    go_enter Try.func12, Try.ntmps12
    go_wp2_with fail
    refine (cC.out _).mono ?_
    rintro e w1 ⟨rfl, n, rfl⟩
    go_wp2
    go_ret2
    exact ⟨rfl, (Keeps.refl _).drewN n⟩
  · cases u
    · rw [if_neg (fun h => Bool.noConfusion h.2)]
      go_enter Try.func12, Try.ntmps12
      go_wp2_with fail
      refine (cC.out _).mono ?_
      rintro e w1 ⟨rfl, n, rfl⟩
      go_wp2_with fail
      refine (cU.out _).mono ?_
      rintro e w1 ⟨rfl, hk⟩
      go_wp2
      go_ret2
      exact ⟨rfl, ((Keeps.refl _).drewN n).trans hk⟩
    · rw [if_pos ⟨rfl, rfl⟩]
      go_enter Try.func12, Try.ntmps12
      go_wp2_with fail
      refine (cC.out _).mono ?_
      rintro e w1 ⟨rfl, n, rfl⟩
      go_wp2_with fail
      refine (cU.out _).mono ?_
      rintro e w1 ⟨rfl, hk⟩
      go_wp2_with fail
      refine (cL.out _).mono ?_
      rintro e w2 ⟨rfl, hk2⟩
      go_wp2
      go_ret2
      exact ⟨rfl, (((Keeps.refl _).drewN n).trans hk).trans hk2⟩

set_option maxHeartbeats 1000000 in
theorem lives_any (w : World) : Calls Try.prog 8 #[] w (RetQ true w) := by
  have cS := Lib.hid (fun w => (serverOf_any ⟨#[64, 97, 58, 66, 46, 111, 114, 103]⟩ w (by unfold maxLen; decide)).mono (fun e w' h => (⟨h.1.trans (by rw [show serverOfL (⟨#[64, 97, 58, 66, 46, 111, 114, 103]⟩ : ByteArray).data.toList = ([98, 46, 111, 114, 103], true) from by decide +kernel]; rfl), h.2⟩ : e = .returned (.tuple #[.string ⟨#[98, 46, 111, 114, 103]⟩, .bool true]) ∧ Keeps w w')))
  have cK := Lib.hid (fun w => (kind_any ⟨#[33, 114, 58, 120, 58, 56, 48]⟩ w (by unfold maxLen; decide)).mono (fun e w' h => (⟨h.1.trans (by rw [show kindI (⟨#[33, 114, 58, 120, 58, 56, 48]⟩ : ByteArray).data.toList = 2 from by decide +kernel]), h.2⟩ : e = .returned (.int .i64 2) ∧ Keeps w w')))
  go_enter Try.func8, Try.ntmps8
  go_wp2_with fail
  refine (cS.out _).mono ?_
  rintro e w1 ⟨rfl, hk⟩
  go_wp2_with fail
  refine (cK.out _).mono ?_
  rintro e w2 ⟨rfl, hk2⟩
  go_wp2
  go_ret
  exact RetQ.of rfl (hk.trans hk2)
end Go.Proofs.Ytjdlpfkcikomfab
