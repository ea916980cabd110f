/-
  The contracts of named, User, Room and Kind of package ident.
-/
import Derived.Test.YtpcfcbaapnkanaaSrv
namespace Go.Proofs.Ytpcfcbaapnkanaa
open Go.RowKit

def namedB (sign : UInt8) (p : UInt8 → Bool) (l : List UInt8) : Bool :=
  if Lib.hasPrefix l [sign] = true ∧ l.length ≤ 255 then
    (if (cutC (Lib.trimPrefix l [sign])).2.2 = true ∧ ofB p (cutC (Lib.trimPrefix l [sign])).1 = true then serverB (cutC (Lib.trimPrefix l [sign])).2.1 else false)
  else false

set_option maxHeartbeats 1000000 in
set_option maxRecDepth 10000 in
theorem named_any (s : ByteArray) (sign : UInt8) (cap : Bool) (more : ByteArray) (a b : Addr) (w : World) (hs : s.size ≤ maxLen) (hI : IsClass cap more a b w) :
    Calls Try.prog 49 #[.string s, .string ⟨#[sign]⟩, .func (.func 67) #[] #[.pointer (some a), .pointer (some b)]] w (RetQ (namedB sign (classB cap more.data.toList) s.data.toList) w) := by
  have cP : Calls Try.prog 63 #[.string s, .string ⟨#[sign]⟩] w (fun e w' => e = .returned (.tuple #[.string (S (Lib.trimPrefix s.data.toList [sign])), .bool (Lib.hasPrefix s.data.toList [sign])]) ∧ w = w') :=
    (Try.strings_CutPrefix s ⟨#[sign]⟩ w).mono (fun e w' h => ⟨h.1, h.2.symm⟩)
  have hl : s.data.toList.length = s.size := by simp
  have hr : (Lib.trimPrefix s.data.toList [sign]).length ≤ maxLen := Nat.le_trans (Lib.trimPrefix_le _ _) (by rw [hl]; exact hs)
  have hB : namedB sign (classB cap more.data.toList) s.data.toList = if Lib.hasPrefix s.data.toList [sign] = true ∧ s.size ≤ 255 then
    (if (cutC (Lib.trimPrefix s.data.toList [sign])).2.2 = true ∧ ofB (classB cap more.data.toList) (cutC (Lib.trimPrefix s.data.toList [sign])).1 = true then serverB (cutC (Lib.trimPrefix s.data.toList [sign])).2.1 else false)
  else false := by unfold namedB; rw [hl]
  rw [hB]
  clear hB hl
  generalize Lib.trimPrefix s.data.toList [sign] = r at cP hr ⊢
  obtain ⟨k1, k2⟩ := cutC_le r
  have cC : ∀ w, Calls Try.prog 64 #[.string (S r), .string ⟨#[58]⟩] w fun e w' => e = .returned (.tuple #[.string (S (cutC r).1), .string (S (cutC r).2.1), .bool (cutC r).2.2]) ∧ ∃ n, w' = w.drewN n := fun w => cut28 (S r) w hr
  have cO : ∀ w, IsClass cap more a b w → Calls Try.prog 65 #[.string (S (cutC r).1), .func (.func 67) #[] #[.pointer (some a), .pointer (some b)]] w (RetB (ofB (classB cap more.data.toList) (cutC r).1) w) := fun w h => of_cl (S (cutC r).1) cap more a b w (by rw [S_size]; omega) h
  have cS : ∀ w, Calls Try.prog 66 #[.string (S (cutC r).2.1)] w (RetQ (serverB (cutC r).2.1) w) := fun w => server_any (S (cutC r).2.1) w (by rw [S_size]; omega)
  unfold maxLen at hs
  generalize Lib.hasPrefix s.data.toList [sign] = ip at cP ⊢
  generalize S r = t0 at cP cC
  generalize ofB (classB cap more.data.toList) (cutC r).1 = q at cO ⊢
  generalize serverB (cutC r).2.1 = z at cS ⊢
  generalize S (cutC r).1 = t1 at cC cO
  generalize S (cutC r).2.1 = t2 at cC cS
  generalize (cutC r).2.2 = ha at cC ⊢
  clear k1 k2 hr
  have HI := Lib.hid hI
  clear hI
  have CC := Lib.hid cC
  have CO := Lib.hid cO
  have CS := Lib.hid cS
  clear cC cO cS
  by_cases h1 : ip = true ∧ s.size ≤ 255
  · rw [if_pos h1]
    obtain ⟨rfl, h2⟩ := h1
    cases ha
    · rw [if_neg (fun h => Bool.noConfusion h.1)]
      go_enter Try.func49, Try.ntmps49
      go_wp2_with (go_at_call 63; refine cP.mono ?_; rintro e w' ⟨rfl, rfl⟩)
      refine (CC.out _).mono ?_
      rintro e w2 ⟨rfl, n, rfl⟩
      go_wp2
      go_ret
      exact RetQ.of rfl ((Keeps.refl _).drewN n)
    · cases q
      · rw [if_neg (fun h => Bool.noConfusion h.2)]
        go_enter Try.func49, Try.ntmps49
        go_wp2_with (go_at_call 63; refine cP.mono ?_; rintro e w' ⟨rfl, rfl⟩)
        refine (CC.out _).mono ?_
        rintro e w2 ⟨rfl, n, rfl⟩
        go_wp2_with fail
        refine (CO.out _ (HI.out.drewN n)).mono ?_
        rintro e w2 ⟨rfl, rfl⟩
        go_wp2
        go_ret
        exact RetQ.of rfl ((Keeps.refl _).drewN n)
      · rw [if_pos ⟨rfl, rfl⟩]
        go_enter Try.func49, Try.ntmps49
        go_wp2_with (go_at_call 63; refine cP.mono ?_; rintro e w' ⟨rfl, rfl⟩)
        refine (CC.out _).mono ?_
        rintro e w2 ⟨rfl, n, rfl⟩
        go_wp2_with fail
        refine (CO.out _ (HI.out.drewN n)).mono ?_
        rintro e w2 ⟨rfl, rfl⟩
        go_wp2_with fail
        refine (CS.out _).mono ?_
        rintro e w2 ⟨rfl, hk⟩
        go_wp2
        go_ret
        exact RetQ.of rfl (((Keeps.refl _).drewN n).trans hk)
  · rw [if_neg h1]
    cases ip
    · go_enter Try.func49, Try.ntmps49
      go_wp2_with (go_at_call 63; refine cP.mono ?_; rintro e w' ⟨rfl, rfl⟩)
      go_ret
      exact RetQ.of rfl (Keeps.refl _)
    · have h2 : 255 < s.size := by simp at h1; exact h1
      clear h1
      go_enter Try.func49, Try.ntmps49
      go_wp2_with (go_at_call 63; refine cP.mono ?_; rintro e w' ⟨rfl, rfl⟩)
      go_ret
      exact RetQ.of rfl (Keeps.refl _)

def userB (l : List UInt8) : Bool := namedB 64 (classB false [46, 95, 61, 45, 47, 43]) l
def roomB (l : List UInt8) : Bool := namedB 33 (classB true [46, 95, 45]) l

set_option maxHeartbeats 1000000 in
set_option maxRecDepth 10000 in
theorem user_any (s : ByteArray) (w : World) (hs : s.size ≤ maxLen) : Calls Try.prog 28 #[.string s] w (RetQ (userB s.data.toList) w) := by
  have cN : ∀ a b w, IsClass false ⟨#[46, 95, 61, 45, 47, 43]⟩ a b w → Calls Try.prog 49 #[.string s, .string ⟨#[64]⟩, .func (.func 67) #[] #[.pointer (some a), .pointer (some b)]] w (RetQ (userB s.data.toList) w) := fun a b w h => named_any s 64 false ⟨#[46, 95, 61, 45, 47, 43]⟩ a b w hs h
  generalize userB s.data.toList = r at cN ⊢
  have CN := Lib.hid cN
  clear cN hs
  go_enter Try.func28, Try.ntmps28
  go_wp2_with fail
  refine (class_any false ⟨#[46, 95, 61, 45, 47, 43]⟩ _).mono ?_
  rintro e w1 ⟨a, b, rfl, hcl, hk⟩
  go_wp2_with fail
  refine (CN.out a b _ hcl).mono ?_
  rintro e w2 ⟨rfl, hk2⟩
  go_wp2
  go_ret
  exact RetQ.of rfl (hk.trans hk2)

end Go.Proofs.Ytpcfcbaapnkanaa
