/-
  The contract of Bytes of package record for every input, and that of the chapter's example in the statements.
-/
import Derived.Test.YtepbbdeolplhfaaDoorByu
import Derived.Test.YtepbbdeolplhfaaDoorTim
namespace Go.Proofs.YtepbbdeolplhfaaDoor
open Go.RowKit

set_option maxHeartbeats 2000000 in
theorem bytes_bad (k code n : Int) (ok : Bool) (text : ByteArray) (w : World) (ht : text.size ≤ maxLen) (hc : chk k code n ok text.size ≠ 0) :
    Calls Tryd.prog 13 #[inV k code n ok text] w (fun e w' => e = .returned (.tuple #[.string ⟨#[]⟩, .int .i64 (chk k code n ok text.size)]) ∧ Keeps w w') := by
  have cC := Lib.hid (fun w => check_any k code n ok text w ht)
  have hne : (chk k code n ok text.size == 0) = false := by simpa using hc
  clear hc
  generalize chk k code n ok text.size = r at cC hne ⊢
  unfold inV at cC ⊢
  have hk0 := Lib.hid ((Keeps.refl w).alloc (.cells #[.int .i64 k, .int .i64 code, .int .i64 n, .bool ok, .string text] 24))
  go_enter Tryd.func13, Tryd.ntmps13
  go_wp2_with fail
  refine (cC.out _).mono ?_
  rintro e w1 ⟨rfl, hk⟩
  go_wp2
  go_ret2
  exact ⟨rfl, hk0.out.trans hk⟩

theorem bytes_good (k code n : Int) (ok : Bool) (text : ByteArray) (w : World) (hs : text.size ≤ 5000) (hc : chk k code n ok text.size = 0) :
    Calls Tryd.prog 13 #[inV k code n ok text] w (fun e w' => e = .returned (.tuple #[.string (S (recL k code n ok text.data.toList)), .int .i64 0]) ∧ Keeps w w') := by
  have ht : text.size ≤ maxLen := by unfold maxLen; omega
  have hc0 := hc
  unfold chk at hc0
  by_cases h1 : k = 1
  · subst h1; exact bytes_one code n ok text w ht hc hs
  · rw [if_neg h1] at hc0
    by_cases h2 : k = 2
    · subst h2
      rw [if_pos rfl] at hc0
      split at hc0
      · cases hc0
      · exact bytes_two code n ok text w ht hc (by omega) (by omega)
    · rw [if_neg h2] at hc0
      by_cases h3 : k = 3
      · subst h3
        rw [if_pos rfl] at hc0
        split at hc0
        · cases hc0
        · exact bytes_three code n ok text w ht hc (by omega) (by omega)
      · rw [if_neg h3] at hc0
        by_cases h4 : k = 4
        · subst h4
          rw [if_pos rfl] at hc0
          split at hc0
          · cases hc0
          · exact bytes_four code n ok text w ht hc (by omega) (by omega)
        · rw [if_neg h4] at hc0
          by_cases h5 : k = 5
          · subst h5
            rw [if_pos rfl] at hc0
            split at hc0
            · cases hc0
            · exact bytes_five code n ok text w ht hc hs (by omega) (by omega)
          · rw [if_neg h5] at hc0
            by_cases h6 : k = 6
            · subst h6; exact bytes_six code n ok text w ht hc
            · rw [if_neg h6] at hc0; cases hc0

set_option maxHeartbeats 2000000 in
theorem lives_any (w : World) : Calls Tryd.prog 5 #[] w (Ret (.bool true) w) := by
  have c1 : Hid (∀ w, Calls Tryd.prog 13 #[.agg #[.int .i64 3, .int .i64 0, .int .i64 258, .bool true, .string ⟨#[]⟩]] w (fun e w' => e = .returned (.tuple #[.string ⟨#[3, 0, 0, 0, 0, 0, 0, 1, 2, 1]⟩, .int .i64 0]) ∧ Keeps w w')) := fun w => by
    have := bytes_good 3 0 258 true ⟨#[]⟩ w (by decide) (by decide +kernel)
    rw [show S (recL 3 0 258 true (⟨#[]⟩ : ByteArray).data.toList) = ⟨#[3, 0, 0, 0, 0, 0, 0, 1, 2, 1]⟩ from by decide +kernel] at this
    exact this
  have c2 : Hid (∀ w, Calls Tryd.prog 13 #[.agg #[.int .i64 6, .int .i64 0, .int .i64 0, .bool false, .string ⟨#[]⟩]] w (fun e w' => e = .returned (.tuple #[.string ⟨#[6]⟩, .int .i64 0]) ∧ Keeps w w')) := fun w => by
    have := bytes_good 6 0 0 false ⟨#[]⟩ w (by decide) (by decide +kernel)
    rw [show S (recL 6 0 0 false (⟨#[]⟩ : ByteArray).data.toList) = ⟨#[6]⟩ from by decide +kernel] at this
    exact this
  go_enter Tryd.func5, Tryd.ntmps5
  go_wp2_with fail
  refine (c1.out _).mono ?_
  rintro e w1 ⟨rfl, h1⟩
  go_wp2_with fail
  refine (c2.out _).mono ?_
  rintro e w2 ⟨rfl, h2⟩
  go_wp2
  go_ret
  exact Ret.of rfl (h1.trans h2)

theorem inV'_eq : inV' = inV := rfl

end Go.Proofs.YtepbbdeolplhfaaDoor
