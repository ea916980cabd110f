/-
  The contracts of the byte classes of package ident: the closure that class returns, the closure in Server, and 'of', which goes through a text with either.
-/
import Derived.Test.YtpcfcbaapnkanaaShelf
import Derived.WalkKit
import Derived.WalkSpells
import Derived.WalkLawsBesides
import Derived.BigQuiet
import Derived.Lib.Hide
import Derived.Outline
namespace Go.Proofs.Ytpcfcbaapnkanaa
open Go.RowKit

/-- Is a byte of a class: letters, digits, capitals if they count, and some more. -/
def classB (cap : Bool) (more : List UInt8) (c : UInt8) : Bool :=
  if 97 ≤ c.toNat ∧ c.toNat ≤ 122 then true else if 48 ≤ c.toNat ∧ c.toNat ≤ 57 then true else if 65 ≤ c.toNat ∧ c.toNat ≤ 90 then cap else decide (0 ≤ Lib.indexByte more c)

set_option maxHeartbeats 1000000 in
set_option maxRecDepth 10000 in
theorem class1_any (cap : Bool) (more : ByteArray) (c : UInt8) (a b : Addr) (w : World) (ha : w.cell? a = some (.bool cap)) (hb : w.cell? b = some (.string more)) :
    Calls Try.prog 67 #[.int .u8 c.toNat, .pointer (some a), .pointer (some b)] w fun e w' => e = .returned (.bool (classB cap more.data.toList c)) ∧ w = w' := by
  have hc := c.toNat_lt
  have cI : Calls Try.prog 68 #[.string more, .int .u8 c.toNat] w fun e w' => e = .returned (.int .i64 (Lib.indexByte more.data.toList c)) ∧ w = w' := by
    refine (Try.strings_IndexByte more c.toNat w).mono fun e w' h => ⟨?_, h.2.symm⟩
    rw [h.1]; simp
  by_cases h1 : 97 ≤ c.toNat ∧ c.toNat ≤ 122
  · have hB : classB cap more.data.toList c = true := by unfold classB; rw [if_pos h1]
    rw [hB]
    obtain ⟨h1, h2⟩ := h1
    go_enter Try.func67, Try.ntmps67
    go_wp2
    go_ret
    exact ⟨rfl, rfl⟩
  · by_cases h2 : 48 ≤ c.toNat ∧ c.toNat ≤ 57
    · have hB : classB cap more.data.toList c = true := by unfold classB; rw [if_neg h1, if_pos h2]
      rw [hB]
      obtain ⟨h2, h3⟩ := h2
      go_enter Try.func67, Try.ntmps67
      go_wp2
      go_ret
      exact ⟨rfl, rfl⟩
    · by_cases h3 : 65 ≤ c.toNat ∧ c.toNat ≤ 90
      · have hB : classB cap more.data.toList c = cap := by unfold classB; rw [if_neg h1, if_neg h2, if_pos h3]
        rw [hB]
        obtain ⟨h3, h4⟩ := h3
        go_enter Try.func67, Try.ntmps67
        go_wp2
        go_ret
        exact ⟨rfl, rfl⟩
      · have hB : classB cap more.data.toList c = decide (0 ≤ Lib.indexByte more.data.toList c) := by unfold classB; rw [if_neg h1, if_neg h2, if_neg h3]
        rw [hB]
        have g : c.toNat < 48 ∨ (57 < c.toNat ∧ c.toNat < 65) ∨ (90 < c.toNat ∧ c.toNat < 97) ∨ 122 < c.toNat := by omega
        clear hB h1 h2 h3
        generalize Lib.indexByte more.data.toList c = k at cI ⊢
        rcases g with g | ⟨g, g'⟩ | ⟨g, g'⟩ | g
        all_goals
          go_enter Try.func67, Try.ntmps67
          go_wp2_with (go_at_call 68; refine cI.mono ?_; rintro e w' ⟨rfl, rfl⟩)
          go_ret
          exact ⟨rfl, rfl⟩
end Go.Proofs.Ytpcfcbaapnkanaa
