/-
  The contracts of strings.Cut at a colon, of class, Server, EventID and named of package ident.
-/
import Derived.Test.YtpcfcbaapnkanaaOf
import Derived.Test.YtpcfcbaapnkanaaBase
import Derived.RegionTactic
import Derived.ChangeAlike
import Derived.Deep.Draws
import Derived.Lib.Split
namespace Go.Proofs.Ytpcfcbaapnkanaa
open Go.RowKit

/-- A call that answers a bool and leaves all that was there as it was. -/
def RetQ (b : Bool) (w : World) (e : Ending) (w' : World) : Prop := e = .returned (.bool b) ∧ Keeps w w'
theorem RetQ.of {b b' : Bool} {w w' : World} (h : b' = b) (k : Keeps w w') : RetQ b w (.returned (.bool b')) w' := ⟨by rw [h], k⟩

/-- What a text is cut into at its first colon. -/
def cutC (l : List UInt8) : List UInt8 × List UInt8 × Bool :=
  if 0 ≤ Lib.indexByte l 58 then (l.take (Lib.indexByte l 58).toNat, l.drop ((Lib.indexByte l 58).toNat + 1), true) else (l, [], false)

theorem indexByte_lt (l : List UInt8) (c : UInt8) : Lib.indexByte l c < l.length ∨ Lib.indexByte l c = -1 := by
  induction l with
  | nil => right; rfl
  | cons b l ih =>
    unfold Lib.indexByte
    split
    · left; simp
    · split
      · right; rfl
      · rename_i h1 h2
        left
        rcases ih with h | h
        · simp; omega
        · rw [h] at h2; exact absurd rfl h2


set_option maxHeartbeats 1000000 in
set_option maxRecDepth 100000 in
theorem cut41 (s : ByteArray) (w : World) (hs : s.size ≤ maxLen) :
    Calls Try.prog 80 #[.string s, .string ⟨#[58]⟩] w fun e w' => e = .returned (.tuple #[.string (S (cutC s.data.toList).1), .string (S (cutC s.data.toList).2.1), .bool (cutC s.data.toList).2.2]) ∧ ∃ n, w' = w.drewN n := by
  unfold maxLen at hs
  have cI := (Try.stringslite_Index_one s 58 w).mono (fun e w' h => (⟨h.1, h.2.symm⟩ : e = .returned (.int .i64 (Lib.indexByte s.data.toList 58)) ∧ w = w'))
  have hge := Lib.indexByte_ge s.data.toList 58
  have hlt := indexByte_lt s.data.toList 58
  have hsz : s.data.toList.length = s.size := by simp
  rcases (show Lib.indexByte s.data.toList 58 = -1 ∨ ∃ i : Nat, Lib.indexByte s.data.toList 58 = i ∧ i < s.size from by
    rcases hlt with h | h
    · by_cases h' : Lib.indexByte s.data.toList 58 = -1
      · exact Or.inl h'
      · exact Or.inr ⟨(Lib.indexByte s.data.toList 58).toNat, by omega, by omega⟩
    · exact Or.inl h) with h | ⟨i, h, hi⟩
  · have e1 : cutC s.data.toList = (s.data.toList, [], false) := by unfold cutC; rw [h, if_neg (by omega)]
    rw [e1]; rw [h] at cI
    simp only [S_of]
    have e2 : S [] = ⟨#[]⟩ := rfl
    rw [e2]
    clear e2
    clear hge hlt hsz h e1
    go_enter Try.func80, Try.ntmps80
    go_wp2_with (go_at_call 89; refine cI.mono ?_; rintro e w' ⟨rfl, rfl⟩)
    go_ret3
    exact ⟨rfl, 0, rfl⟩
  · have e1 : cutC s.data.toList = (s.data.toList.take i, s.data.toList.drop (i + 1), true) := by unfold cutC; rw [h, if_pos (by omega)]; simp
    have e2 : S (s.data.toList.take i) = s.extract 0 i := by rw [Lib.extract_eq]; simp [S]
    have e3 : S (s.data.toList.drop (i + 1)) = s.extract (i + 1) s.size := by
      rw [Lib.extract_eq, List.take_of_length_le (by simp)]; rfl
    rw [e1] ; rw [h] at cI
    simp only [e2, e3]
    have c1 : (0 : Int) ≤ ↑i := by omega
    have c2 : (↑i : Int) ≤ ↑s.size := by omega
    have c3 : (0 : Int) ≤ ↑i + 1 := by omega
    have c4 : (↑i + 1 : Int) ≤ ↑s.size := by omega
    clear hge hlt hsz h e1 e2 e3
    go_enter Try.func80, Try.ntmps80
    go_wp2_with (go_at_call 89; refine cI.mono ?_; rintro e w' ⟨rfl, rfl⟩)
    go_region
    go_wp2
    go_ret3
    exact ⟨rfl, 1, rfl⟩

set_option maxHeartbeats 1000000 in
set_option maxRecDepth 10000 in
theorem cut28 (s : ByteArray) (w : World) (hs : s.size ≤ maxLen) :
    Calls Try.prog 64 #[.string s, .string ⟨#[58]⟩] w fun e w' => e = .returned (.tuple #[.string (S (cutC s.data.toList).1), .string (S (cutC s.data.toList).2.1), .bool (cutC s.data.toList).2.2]) ∧ ∃ n, w' = w.drewN n := by
  have cC := cut41 s w hs
  generalize cutC s.data.toList = r at cC ⊢
  go_enter Try.func64, Try.ntmps64
  go_wp2_with (go_at_call 80; refine cC.mono ?_; rintro e w' ⟨rfl, n, rfl⟩)
  go_ret3
  exact ⟨rfl, n, rfl⟩
end Go.Proofs.Ytpcfcbaapnkanaa
