/-
  The contract of Bytes of package record for every input, and that of the chapter's example in the statements.
-/
import Derived.Test.YtepbbdeolplhfaaByu
import Derived.Test.YtepbbdeolplhfaaTim
namespace Go.Proofs.Ytepbbdeolplhfaa
open Go.RowKit

set_option maxHeartbeats 2000000 in
theorem bytes_bad (k code n : Int) (ok : Bool) (text : ByteArray) (w : World) (ht : text.size ≤ maxLen) (hc : chk k code n ok text.size ≠ 0) :
    Calls Try.prog 8 #[inV k code n ok text] w (fun e w' => e = .returned (.tuple #[.string ⟨#[]⟩, .int .i64 (chk k code n ok text.size)]) ∧ Keeps w w') := by
  have cC := Lib.hid (fun w => check_any k code n ok text w ht)
  have hne : (chk k code n ok text.size == 0) = false := by simpa using hc
  clear hc
  generalize chk k code n ok text.size = r at cC hne ⊢
  unfold inV at cC ⊢
  have hk0 := Lib.hid ((Keeps.refl w).alloc (.cells #[.int .i64 k, .int .i64 code, .int .i64 n, .bool ok, .string text] 23))
  go_enter Try.func8, Try.ntmps8
  go_wp2_with fail
  refine (cC.out _).mono ?_
  rintro e w1 ⟨rfl, hk⟩
  go_wp2
  go_ret2
  exact ⟨rfl, hk0.out.trans hk⟩

theorem bytes_good (k code n : Int) (ok : Bool) (text : ByteArray) (w : World) (hs : text.size ≤ 5000) (hc : chk k code n ok text.size = 0) :
    Calls Try.prog 8 #[inV k code n ok text] w (fun e w' => e = .returned (.tuple #[.string (S (recL k code n ok text.data.toList)), .int .i64 0]) ∧ Keeps w w') := by
  have ht : text.size ≤ maxLen := by unfold maxLen; omega
  have hc0 := hc
  unfold chk at hc0
  by_cases h1 : k = 1
  · subst h1; exact bytes_one code n ok text w ht hc hs
  · rw [if_neg h1] at hc0
    by_cases h2 : k = 2
    · subst h2
      rw [if_pos rfl] at hc0
      split at hc0
      · cases hc0
      · exact bytes_two code n ok text w ht hc (by omega) (by omega)
    · rw [if_neg h2] at hc0
      by_cases h3 : k = 3
      · subst h3
        rw [if_pos rfl] at hc0
        split at hc0
        · cases hc0
        · exact bytes_three code n ok text w ht hc (by omega) (by omega)
      · rw [if_neg h3] at hc0
        by_cases h4 : k = 4
        · subst h4
          rw [if_pos rfl] at hc0
          split at hc0
          · cases hc0
          · exact bytes_four code n ok text w ht hc (by omega) (by omega)
        · rw [if_neg h4] at hc0
          by_cases h5 : k = 5
          · subst h5
            rw [if_pos rfl] at hc0
            split at hc0
            · cases hc0
            · exact bytes_five code n ok text w ht hc hs (by omega) (by omega)
          · rw [if_neg h5] at hc0
            by_cases h6 : k = 6
            · subst h6; exact bytes_six code n ok text w ht hc
            · rw [if_neg h6] at hc0; cases hc0

set_option maxHeartbeats 2000000 in
theorem lives_any (w : World) : Calls Try.prog 6 #[] w (Ret (.bool true) w) := by
  have c1 : Hid (∀ w, Calls Try.prog 8 #[.agg #[.int .i64 3, .int .i64 0, .int .i64 258, .bool true, .string ⟨#[]⟩]] w (fun e w' => e = .returned (.tuple #[.string ⟨#[3, 0, 0, 0, 0, 0, 0, 1, 2, 1]⟩, .int .i64 0]) ∧ Keeps w w')) := fun w => by
    have := bytes_good 3 0 258 true ⟨#[]⟩ w (by decide) (by decide +kernel)
    rw [show S (recL 3 0 258 true (⟨#[]⟩ : ByteArray).data.toList) = ⟨#[3, 0, 0, 0, 0, 0, 0, 1, 2, 1]⟩ from by decide +kernel] at this
    exact this
  have c2 : Hid (∀ w, Calls Try.prog 8 #[.agg #[.int .i64 6, .int .i64 0, .int .i64 0, .bool false, .string ⟨#[]⟩]] w (fun e w' => e = .returned (.tuple #[.string ⟨#[6]⟩, .int .i64 0]) ∧ Keeps w w')) := fun w => by
    have := bytes_good 6 0 0 false ⟨#[]⟩ w (by decide) (by decide +kernel)
    rw [show S (recL 6 0 0 false (⟨#[]⟩ : ByteArray).data.toList) = ⟨#[6]⟩ from by decide +kernel] at this
    exact this
  go_enter Try.func6, Try.ntmps6
  go_wp2_with fail
  refine (c1.out _).mono ?_
  rintro e w1 ⟨rfl, h1⟩
  go_wp2_with fail
  refine (c2.out _).mono ?_
  rintro e w2 ⟨rfl, h2⟩
  go_wp2
  go_ret
  exact Ret.of rfl (h1.trans h2)

theorem inV'_eq : inV' = inV := rfl

set_option maxHeartbeats 4000000 in
theorem takes_short (s : ByteArray) (more : Int) (w : World) (hs : s.size ≤ 5000) (hm : s.size + pickI more 5001 ≤ 4096) :
    Calls Try.prog 4 #[.string s, .int .i64 more] w (Ret (.bool true) w) := by
  obtain ⟨r1, r2⟩ := pickI_range more 5001 (by omega)
  obtain ⟨k, hk⟩ : ∃ k : Nat, pickI more 5001 = k := ⟨(pickI more 5001).toNat, by omega⟩
  have cL := Lib.hid (fun w => lives_any w)
  have cP : Hid (∀ w, Calls Try.prog 12 #[.int .i64 more, .int .i64 5001] w (RetN k w)) := fun w => by rw [← hk]; exact pick_any more 5001 w (by omega) (by omega)
  have cT : Hid (∀ w, Calls Try.prog 11 #[.string ⟨#[120]⟩, .int .i64 k] w (RetL k w)) := fun w => by
    have h1 : (⟨#[120]⟩ : ByteArray).size = 1 := rfl
    have := times_any ⟨#[120]⟩ k w (by rw [h1]; omega) (by rw [h1]; omega) (by omega)
    rw [h1, Nat.one_mul] at this
    exact this
  have hk5 : k ≤ 5000 := by omega
  rw [hk] at hm
  clear r1 r2 hk
  go_enter Try.func4, Try.ntmps4
  go_wp2_with fail
  refine (cL.out _).mono ?_
  rintro e w1 ⟨rfl, h1⟩
  go_wp2_with fail
  refine (cP.out _).mono ?_
  rintro e w2 ⟨rfl, rfl⟩
  go_wp2_with fail
  refine (cT.out _).mono ?_
  rintro e w2 ⟨t, rfl, ht, rfl⟩
  have hsz : s.size + t.size ≤ 4096 := by omega
  have hsz' : (s ++ t).size ≤ 100000 := by rw [ByteArray.size_append]; omega
  have hi1 : (s.size : Int) + (t.size : Int) ≤ 4096 := by omega
  have hi2 : (s.size : Int) + (t.size : Int) ≤ 100000 := by omega
  have cK : Hid (∀ w, Calls Try.prog 13 #[.string (s ++ t)] w (fun e w' => e = .returned (.agg #[.int .i64 1, .int .i64 0, .int .i64 0, .bool false, .string (s ++ t)]) ∧ Keeps w w')) := fun w => take_short (s ++ t) w (by rw [ByteArray.size_append]; exact hsz)
  have cC : Hid (∀ w, Calls Try.prog 9 #[.agg #[.int .i64 1, .int .i64 0, .int .i64 0, .bool false, .string (s ++ t)]] w (Ret (.int .i64 0) w)) := fun w => by
    have := check_any 1 0 0 false (s ++ t) w (by unfold maxLen; omega)
    rw [show chk 1 0 0 false (s ++ t).size = 0 from by rw [ByteArray.size_append]; simp [chk]; omega] at this
    exact this
  clear ht hm hk5
  go_wp2_with fail
  refine (cK.out _).mono ?_
  rintro e w3 ⟨rfl, h3⟩
  go_wp2_with fail
  refine (cC.out _).mono ?_
  rintro e w4 ⟨rfl, h4⟩
  have hcel := InCells.later (inCells_new w3 1 0 0 false (s ++ t)) h4 (by simp)
  obtain ⟨d0, d1, d2, d3, d4⟩ := hcel
  have hlt : w3.heap.size < w4.heap.size := by have := h4.size; simp at this; omega
  go_wp2
  go_ret
  exact Ret.of rfl ((h1.trans (h3.trans (((Keeps.refl w3).alloc _).trans h4))))

set_option maxHeartbeats 4000000 in
theorem takes_long (s : ByteArray) (more : Int) (w : World) (hs : s.size ≤ 5000) (hm : 4096 < s.size + pickI more 5001) :
    Calls Try.prog 4 #[.string s, .int .i64 more] w (Ret (.bool true) w) := by
  obtain ⟨r1, r2⟩ := pickI_range more 5001 (by omega)
  obtain ⟨k, hk⟩ : ∃ k : Nat, pickI more 5001 = k := ⟨(pickI more 5001).toNat, by omega⟩
  have cL := Lib.hid (fun w => lives_any w)
  have cP : Hid (∀ w, Calls Try.prog 12 #[.int .i64 more, .int .i64 5001] w (RetN k w)) := fun w => by rw [← hk]; exact pick_any more 5001 w (by omega) (by omega)
  have cT : Hid (∀ w, Calls Try.prog 11 #[.string ⟨#[120]⟩, .int .i64 k] w (RetL k w)) := fun w => by
    have h1 : (⟨#[120]⟩ : ByteArray).size = 1 := rfl
    have := times_any ⟨#[120]⟩ k w (by rw [h1]; omega) (by rw [h1]; omega) (by omega)
    rw [h1, Nat.one_mul] at this
    exact this
  have hk5 : k ≤ 5000 := by omega
  rw [hk] at hm
  clear r1 r2 hk
  go_enter Try.func4, Try.ntmps4
  go_wp2_with fail
  refine (cL.out _).mono ?_
  rintro e w1 ⟨rfl, h1⟩
  go_wp2_with fail
  refine (cP.out _).mono ?_
  rintro e w2 ⟨rfl, rfl⟩
  go_wp2_with fail
  refine (cT.out _).mono ?_
  rintro e w2 ⟨t, rfl, ht, rfl⟩
  have hsz : 4096 < s.size + t.size := by omega
  have hsz' : (s ++ t).size ≤ 100000 := by rw [ByteArray.size_append]; omega
  have hi1 : (4096 : Int) < (s.size : Int) + (t.size : Int) := by omega
  have hi2 : (s.size : Int) + (t.size : Int) ≤ 100000 := by omega
  have cK : Hid (∀ w, Calls Try.prog 13 #[.string (s ++ t)] w (fun e w' => e = .returned (.agg #[.int .i64 2, .int .i64 0, .int .i64 ((s.size : Int) + (t.size : Int)), .bool false, .string ⟨#[]⟩]) ∧ Keeps w w')) := fun w => by
    have := take_long (s ++ t) w (by rw [ByteArray.size_append]; exact hsz) hsz'
    rw [ByteArray.size_append, Int.natCast_add] at this
    exact this
  have cC : Hid (∀ w, Calls Try.prog 9 #[.agg #[.int .i64 2, .int .i64 0, .int .i64 ((s.size : Int) + (t.size : Int)), .bool false, .string ⟨#[]⟩]] w (Ret (.int .i64 0) w)) := fun w => by
    have := check_any 2 0 ((s.size : Int) + (t.size : Int)) false ⟨#[]⟩ w (by unfold maxLen; decide)
    rw [show chk 2 0 ((s.size : Int) + (t.size : Int)) false (⟨#[]⟩ : ByteArray).size = 0 from by have h0 : (⟨#[]⟩ : ByteArray).size = 0 := rfl; simp [chk, h0]; omega] at this
    exact this
  clear ht hm hk5
  go_wp2_with fail
  refine (cK.out _).mono ?_
  rintro e w3 ⟨rfl, h3⟩
  go_wp2_with fail
  refine (cC.out _).mono ?_
  rintro e w4 ⟨rfl, h4⟩
  have hcel := InCells.later (inCells_new w3 2 0 ((s.size : Int) + (t.size : Int)) false ⟨#[]⟩) h4 (by simp)
  obtain ⟨d0, d1, d2, d3, d4⟩ := hcel
  have hlt : w3.heap.size < w4.heap.size := by have := h4.size; simp at this; omega
  go_wp2
  go_ret
  exact Ret.of rfl ((h1.trans (h3.trans (((Keeps.refl w3).alloc _).trans h4))))

set_option maxHeartbeats 1000000 in
theorem takes_any (s : ByteArray) (more : Int) (w : World) (hs : s.size ≤ maxLen) : Calls Try.prog 4 #[.string s, .int .i64 more] w (Ret (.bool true) w) := by
  by_cases h : s.size ≤ 5000
  · by_cases h2 : s.size + pickI more 5001 ≤ 4096
    · exact takes_short s more w h h2
    · exact takes_long s more w h (by omega)
  · have cL := Lib.hid (fun w => lives_any w)
    unfold maxLen at hs
    go_enter Try.func4, Try.ntmps4
    go_wp2_with fail
    refine (cL.out _).mono ?_
    rintro e w1 ⟨rfl, h1⟩
    go_wp2
    go_ret
    exact Ret.of rfl h1
end Go.Proofs.Ytepbbdeolplhfaa
