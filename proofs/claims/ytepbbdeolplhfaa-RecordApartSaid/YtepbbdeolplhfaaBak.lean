/-
  The walk of RecordBack.
-/
import Derived.Test.YtepbbdeolplhfaaMat
import Derived.Test.YtepbbdeolplhfaaOpn
import Derived.Test.YtepbbdeolplhfaaLiv
namespace Go.Proofs.Ytepbbdeolplhfaa
open Go.RowKit

theorem InCells.keeps {w w' : World} {g : Nat} {k code n : Int} {ok : Bool} {text : ByteArray} (h : InCells w g k code n ok text) (hb : Keeps w w') : InCells w' g k code n ok text :=
  h.later hb (World.block_lt_of_cell? w _ h.1)

set_option maxHeartbeats 1000000 in
theorem back_heavy (k code n : Int) (ok : Bool) (t s : ByteArray) (w : World) (h : ¬ (t.size : Int) ≤ 5000) : Calls Try.prog 3 #[inV k code n ok t, .string s] w (Ret (.bool true) w) := by
  have cV := Lib.hid (fun w => lives_any w)
  have cL : Hid (∀ w, Calls Try.prog 7 #[inV k code n ok t] w (Ret (.bool false) w)) := Lib.hid (fun w => by have := light_any k code n ok t w; rw [decide_eq_false h] at this; exact this)
  unfold inV at *
  clear h
  have hC := inCells_new w k code n ok t
  have HC := Lib.hid hC
  clear hC
  go_enter Try.func3, Try.ntmps3
  go_wp2_with fail
  refine (cV.out _).mono ?_
  rintro e w1 ⟨rfl, h1⟩
  obtain ⟨a0, a1, a2, a3, a4⟩ := HC.out.later h1 (by simp)
  go_wp2_with fail
  refine (cL.out _).mono ?_
  rintro e w2 ⟨rfl, h2⟩
  go_wp2
  go_ret
  exact Ret.bool rfl (((Keeps.refl w).alloc _).trans (h1.trans h2))

set_option maxHeartbeats 1000000 in
theorem back_long (k code n : Int) (ok : Bool) (t s : ByteArray) (w : World) (h : (t.size : Int) ≤ 5000) (hs : 5000 < (s.size : Int)) : Calls Try.prog 3 #[inV k code n ok t, .string s] w (Ret (.bool true) w) := by
  have cV := Lib.hid (fun w => lives_any w)
  have cL : Hid (∀ w, Calls Try.prog 7 #[inV k code n ok t] w (Ret (.bool true) w)) := Lib.hid (fun w => by have := light_any k code n ok t w; rw [decide_eq_true h] at this; exact this)
  unfold inV at *
  clear h
  have hC := inCells_new w k code n ok t
  have HC := Lib.hid hC
  clear hC
  go_enter Try.func3, Try.ntmps3
  go_wp2_with fail
  refine (cV.out _).mono ?_
  rintro e w1 ⟨rfl, h1⟩
  obtain ⟨a0, a1, a2, a3, a4⟩ := HC.out.later h1 (by simp)
  go_wp2_with fail
  refine (cL.out _).mono ?_
  rintro e w2 ⟨rfl, h2⟩
  go_wp2
  go_ret
  exact Ret.bool rfl (((Keeps.refl w).alloc _).trans (h1.trans h2))

set_option maxHeartbeats 1000000 in
theorem back_bad_err (k code n : Int) (ok : Bool) (t s : ByteArray) (c : Int) (m : Int) (w : World) (h : (t.size : Int) ≤ 5000) (hs : (s.size : Int) ≤ 5000) (hc : chk k code n ok t.size = c) (hne : c ≠ 0) (hr : readL s.data.toList = (Inp.zero, m)) (hm : m ≠ 0) :
    Calls Try.prog 3 #[inV k code n ok t, .string s] w (Ret (.bool true) w) := by
  have cV := Lib.hid (fun w => lives_any w)
  have cL : Hid (∀ w, Calls Try.prog 7 #[inV k code n ok t] w (Ret (.bool true) w)) := Lib.hid (fun w => by have := light_any k code n ok t w; rw [decide_eq_true h] at this; exact this)
  have cB : Hid (∀ w, Calls Try.prog 8 #[inV k code n ok t] w (fun e w' => e = .returned (.tuple #[.string ⟨#[]⟩, .int .i64 c]) ∧ Keeps w w')) := Lib.hid (fun w => by have := bytes_bad k code n ok t w (by unfold maxLen; omega) (by rw [hc]; exact hne); rw [hc] at this; exact this)
  have cC : Hid (∀ w, Calls Try.prog 9 #[inV k code n ok t] w (Ret (.int .i64 c) w)) := Lib.hid (fun w => by have := check_any k code n ok t w (by unfold maxLen; omega); rw [hc] at this; exact this)
  have cR : Hid (∀ w, Calls Try.prog 10 #[.string s] w (fun e w' => e = .returned (.tuple #[.agg #[.int .i64 0, .int .i64 0, .int .i64 0, .bool false, .string ⟨#[]⟩], .int .i64 m]) ∧ Keeps w w')) := Lib.hid (fun w => by have := read_any s.data.toList w (by simp; omega); unfold Reads at this; rw [hr] at this; exact this)
  clear h hc hr
  have HC := Lib.hid (inCells_new w k code n ok t)
  unfold inV at *
  go_enter Try.func3, Try.ntmps3
  go_wp2_with fail
  refine (cV.out _).mono ?_
  rintro e w1 ⟨rfl, h1⟩
  have HC1 := HC.out.keeps h1
  have hk1 := ((Keeps.refl w).alloc (.cells #[.int .i64 k, .int .i64 code, .int .i64 n, .bool ok, .string t] 23)).trans h1
  clear HC h1 cV
  obtain ⟨a0, a1, a2, a3, a4⟩ := HC1
  have HC1 := Lib.hid (show InCells w1 w.heap.size k code n ok t from ⟨a0, a1, a2, a3, a4⟩)
  go_wp2_with fail
  refine (cL.out _).mono ?_
  rintro e w2 ⟨rfl, h2⟩
  clear a0 a1 a2 a3 a4
  obtain ⟨a0, a1, a2, a3, a4⟩ := HC1.out.keeps h2
  have hk2 := hk1.trans h2
  clear HC1 cL hk1 h2
  have HC2 := Lib.hid (show InCells w2 w.heap.size k code n ok t from ⟨a0, a1, a2, a3, a4⟩)
  go_wp2_with fail
  refine (cB.out _).mono ?_
  rintro e w3 ⟨rfl, h3⟩
  clear a0 a1 a2 a3 a4
  obtain ⟨a0, a1, a2, a3, a4⟩ := HC2.out.keeps h3
  have hk3 := hk2.trans h3
  clear HC2 cB hk2 h3
  have HC3 := Lib.hid (show InCells w3 w.heap.size k code n ok t from ⟨a0, a1, a2, a3, a4⟩)
  go_wp2_with fail
  refine (cC.out _).mono ?_
  rintro e w4 ⟨rfl, h4⟩
  clear a0 a1 a2 a3 a4
  obtain ⟨a0, a1, a2, a3, a4⟩ := HC3.out.keeps h4
  have hk4 := hk3.trans h4
  clear HC3 cC hk3 h4
  have hlt : w.heap.size < w4.heap.size := World.block_lt_of_cell? w4 _ a0
  go_wp2_with fail
  refine (cR.out _).mono ?_
  rintro e w6 ⟨rfl, h6⟩
  have hk6 := hk4.trans h6
  clear a0 a1 a2 a3 a4
  go_wp2
  go_ret
  exact Ret.bool rfl (hk6.alloc _)

set_option maxHeartbeats 1000000 in
theorem back_bad_ok (k code n : Int) (ok : Bool) (t s : ByteArray) (c : Int) (k2 code2 n2 : Int) (ok2 : Bool) (t2 : ByteArray) (w : World) (h : (t.size : Int) ≤ 5000) (hs : (s.size : Int) ≤ 5000) (hc : chk k code n ok t.size = c) (hne : c ≠ 0) (hr : readL s.data.toList = (⟨k2, code2, n2, ok2, t2.data.toList⟩, 0)) (hc2 : chk k2 code2 n2 ok2 t2.size = 0) (hb2 : S (recL k2 code2 n2 ok2 t2.data.toList) = s) (ht2 : t2.size ≤ 5000) :
    Calls Try.prog 3 #[inV k code n ok t, .string s] w (Ret (.bool true) w) := by
  have cV := Lib.hid (fun w => lives_any w)
  have cL : Hid (∀ w, Calls Try.prog 7 #[inV k code n ok t] w (Ret (.bool true) w)) := Lib.hid (fun w => by have := light_any k code n ok t w; rw [decide_eq_true h] at this; exact this)
  have cB : Hid (∀ w, Calls Try.prog 8 #[inV k code n ok t] w (fun e w' => e = .returned (.tuple #[.string ⟨#[]⟩, .int .i64 c]) ∧ Keeps w w')) := Lib.hid (fun w => by have := bytes_bad k code n ok t w (by unfold maxLen; omega) (by rw [hc]; exact hne); rw [hc] at this; exact this)
  have cC : Hid (∀ w, Calls Try.prog 9 #[inV k code n ok t] w (Ret (.int .i64 c) w)) := Lib.hid (fun w => by have := check_any k code n ok t w (by unfold maxLen; omega); rw [hc] at this; exact this)
  have cR : Hid (∀ w, Calls Try.prog 10 #[.string s] w (fun e w' => e = .returned (.tuple #[inV k2 code2 n2 ok2 t2, .int .i64 0]) ∧ Keeps w w')) := Lib.hid (fun w => by have := read_any s.data.toList w (by simp; omega); unfold Reads at this; rw [hr] at this; exact this)
  have cD : Hid (∀ w, Calls Try.prog 8 #[inV k2 code2 n2 ok2 t2] w (fun e w' => e = .returned (.tuple #[.string s, .int .i64 0]) ∧ Keeps w w')) := Lib.hid (fun w => by have := bytes_good k2 code2 n2 ok2 t2 w ht2 hc2; rw [hb2] at this; exact this)
  have cE : Hid (∀ w, Calls Try.prog 9 #[inV k2 code2 n2 ok2 t2] w (Ret (.int .i64 0) w)) := Lib.hid (fun w => by have := check_any k2 code2 n2 ok2 t2 w (by unfold maxLen; omega); rw [hc2] at this; exact this)
  clear hc2 hb2 ht2
  clear h hc hr
  have HC := Lib.hid (inCells_new w k code n ok t)
  unfold inV at *
  go_enter Try.func3, Try.ntmps3
  go_wp2_with fail
  refine (cV.out _).mono ?_
  rintro e w1 ⟨rfl, h1⟩
  have HC1 := HC.out.keeps h1
  have hk1 := ((Keeps.refl w).alloc (.cells #[.int .i64 k, .int .i64 code, .int .i64 n, .bool ok, .string t] 23)).trans h1
  clear HC h1 cV
  obtain ⟨a0, a1, a2, a3, a4⟩ := HC1
  have HC1 := Lib.hid (show InCells w1 w.heap.size k code n ok t from ⟨a0, a1, a2, a3, a4⟩)
  go_wp2_with fail
  refine (cL.out _).mono ?_
  rintro e w2 ⟨rfl, h2⟩
  clear a0 a1 a2 a3 a4
  obtain ⟨a0, a1, a2, a3, a4⟩ := HC1.out.keeps h2
  have hk2 := hk1.trans h2
  clear HC1 cL hk1 h2
  have HC2 := Lib.hid (show InCells w2 w.heap.size k code n ok t from ⟨a0, a1, a2, a3, a4⟩)
  go_wp2_with fail
  refine (cB.out _).mono ?_
  rintro e w3 ⟨rfl, h3⟩
  clear a0 a1 a2 a3 a4
  obtain ⟨a0, a1, a2, a3, a4⟩ := HC2.out.keeps h3
  have hk3 := hk2.trans h3
  clear HC2 cB hk2 h3
  have HC3 := Lib.hid (show InCells w3 w.heap.size k code n ok t from ⟨a0, a1, a2, a3, a4⟩)
  go_wp2_with fail
  refine (cC.out _).mono ?_
  rintro e w4 ⟨rfl, h4⟩
  clear a0 a1 a2 a3 a4
  obtain ⟨a0, a1, a2, a3, a4⟩ := HC3.out.keeps h4
  have hk4 := hk3.trans h4
  clear HC3 cC hk3 h4
  have hlt : w.heap.size < w4.heap.size := World.block_lt_of_cell? w4 _ a0
  go_wp2_with fail
  refine (cR.out _).mono ?_
  rintro e w6 ⟨rfl, h6⟩
  have hk6 := hk4.trans h6
  clear a0 a1 a2 a3 a4
  have HE := Lib.hid (inCells_new w6 k2 code2 n2 ok2 t2)
  go_wp2_with fail
  refine (cD.out _).mono ?_
  rintro e w7 ⟨rfl, h7⟩
  obtain ⟨a0, a1, a2, a3, a4⟩ := HE.out.keeps h7
  have hk7 := (hk6.alloc (.cells #[.int .i64 k2, .int .i64 code2, .int .i64 n2, .bool ok2, .string t2] 23)).trans h7
  go_wp2_with fail
  refine (cE.out _).mono ?_
  rintro e w8 ⟨rfl, h8⟩
  go_wp2
  go_ret
  exact Ret.bool rfl (hk7.trans h8)

set_option maxHeartbeats 1000000 in
theorem back_good_err (k code n : Int) (ok : Bool) (t s : ByteArray) (m : Int) (w : World) (h : (t.size : Int) ≤ 5000) (hs : (s.size : Int) ≤ 5000) (hc : chk k code n ok t.size = 0) (hr : readL s.data.toList = (Inp.zero, m)) (hm : m ≠ 0) :
    Calls Try.prog 3 #[inV k code n ok t, .string s] w (Ret (.bool true) w) := by
  have cV := Lib.hid (fun w => lives_any w)
  have cL : Hid (∀ w, Calls Try.prog 7 #[inV k code n ok t] w (Ret (.bool true) w)) := Lib.hid (fun w => by have := light_any k code n ok t w; rw [decide_eq_true h] at this; exact this)
  obtain ⟨hlen, hnn⟩ := rec_len ⟨k, code, n, ok, t.data.toList⟩ hc
  have hrr := readL_rec ⟨k, code, n, ok, t.data.toList⟩ hc
  unfold Inp.bytes at hlen hnn hrr
  dsimp only at hlen hnn hrr
  have cB : Hid (∀ w, Calls Try.prog 8 #[inV k code n ok t] w (fun e w' => e = .returned (.tuple #[.string (S (recL k code n ok t.data.toList)), .int .i64 0]) ∧ Keeps w w')) := Lib.hid (fun w => bytes_good k code n ok t w (by omega) hc)
  have cA : Hid (∀ w, Calls Try.prog 10 #[.string (S (recL k code n ok t.data.toList))] w (fun e w' => e = .returned (.tuple #[inV k code n ok t, .int .i64 0]) ∧ Keeps w w')) := Lib.hid (fun w => by have := read_any (recL k code n ok t.data.toList) w (by omega); unfold Reads at this; rw [hrr] at this; exact this)
  generalize hq : recL k code n ok t.data.toList = q at *
  have hq1 : ((S q).size : Int) ≤ 4400 := by rw [S_size]; omega
  have hq2 : (S q).toList.isEmpty = false := by rw [ByteArray.toList_eq, S_data]; cases q with
    | nil => exact absurd rfl hnn
    | cons _ _ => rfl
  generalize S q = b at *
  clear hq hrr hlen hnn
  have cC : Hid (∀ w, Calls Try.prog 9 #[inV k code n ok t] w (Ret (.int .i64 0) w)) := Lib.hid (fun w => by have := check_any k code n ok t w (by unfold maxLen; omega); rw [hc] at this; exact this)
  have cR : Hid (∀ w, Calls Try.prog 10 #[.string s] w (fun e w' => e = .returned (.tuple #[.agg #[.int .i64 0, .int .i64 0, .int .i64 0, .bool false, .string ⟨#[]⟩], .int .i64 m]) ∧ Keeps w w')) := Lib.hid (fun w => by have := read_any s.data.toList w (by simp; omega); unfold Reads at this; rw [hr] at this; exact this)
  clear h hc hr
  have HC := Lib.hid (inCells_new w k code n ok t)
  unfold inV at *
  go_enter Try.func3, Try.ntmps3
  go_wp2_with fail
  refine (cV.out _).mono ?_
  rintro e w1 ⟨rfl, h1⟩
  have HC1 := HC.out.keeps h1
  have hk1 := ((Keeps.refl w).alloc (.cells #[.int .i64 k, .int .i64 code, .int .i64 n, .bool ok, .string t] 23)).trans h1
  clear HC h1 cV
  obtain ⟨a0, a1, a2, a3, a4⟩ := HC1
  have HC1 := Lib.hid (show InCells w1 w.heap.size k code n ok t from ⟨a0, a1, a2, a3, a4⟩)
  go_wp2_with fail
  refine (cL.out _).mono ?_
  rintro e w2 ⟨rfl, h2⟩
  clear a0 a1 a2 a3 a4
  obtain ⟨a0, a1, a2, a3, a4⟩ := HC1.out.keeps h2
  have hk2 := hk1.trans h2
  clear HC1 cL hk1 h2
  have HC2 := Lib.hid (show InCells w2 w.heap.size k code n ok t from ⟨a0, a1, a2, a3, a4⟩)
  go_wp2_with fail
  refine (cB.out _).mono ?_
  rintro e w3 ⟨rfl, h3⟩
  clear a0 a1 a2 a3 a4
  obtain ⟨a0, a1, a2, a3, a4⟩ := HC2.out.keeps h3
  have hk3 := hk2.trans h3
  clear HC2 cB hk2 h3
  have HC3 := Lib.hid (show InCells w3 w.heap.size k code n ok t from ⟨a0, a1, a2, a3, a4⟩)
  go_wp2_with fail
  refine (cC.out _).mono ?_
  rintro e w4 ⟨rfl, h4⟩
  clear a0 a1 a2 a3 a4
  obtain ⟨a0, a1, a2, a3, a4⟩ := HC3.out.keeps h4
  have hk4 := hk3.trans h4
  clear HC3 cC hk3 h4
  have HC4 := Lib.hid (show InCells w4 w.heap.size k code n ok t from ⟨a0, a1, a2, a3, a4⟩)
  go_wp2_with fail
  refine (cA.out _).mono ?_
  rintro e w5 ⟨rfl, h5⟩
  clear a0 a1 a2 a3 a4
  obtain ⟨a0, a1, a2, a3, a4⟩ := HC4.out.keeps h5
  have hk5 := hk4.trans h5
  have hlt : w.heap.size < w5.heap.size := World.block_lt_of_cell? w5 _ a0
  clear HC4 cA hk4 h5
  go_wp2_with fail
  refine (cR.out _).mono ?_
  rintro e w6 ⟨rfl, h6⟩
  have hk6 := (hk5.alloc (.cells #[.int .i64 k, .int .i64 code, .int .i64 n, .bool ok, .string t] 23)).trans h6
  clear a0 a1 a2 a3 a4
  go_wp2
  go_ret
  exact Ret.bool rfl (hk6.alloc _)

set_option maxHeartbeats 1000000 in
theorem back_good_ok (k code n : Int) (ok : Bool) (t s : ByteArray) (k2 code2 n2 : Int) (ok2 : Bool) (t2 : ByteArray) (w : World) (h : (t.size : Int) ≤ 5000) (hs : (s.size : Int) ≤ 5000) (hc : chk k code n ok t.size = 0) (hr : readL s.data.toList = (⟨k2, code2, n2, ok2, t2.data.toList⟩, 0)) (hc2 : chk k2 code2 n2 ok2 t2.size = 0) (hb2 : S (recL k2 code2 n2 ok2 t2.data.toList) = s) (ht2 : t2.size ≤ 5000) :
    Calls Try.prog 3 #[inV k code n ok t, .string s] w (Ret (.bool true) w) := by
  have cV := Lib.hid (fun w => lives_any w)
  have cL : Hid (∀ w, Calls Try.prog 7 #[inV k code n ok t] w (Ret (.bool true) w)) := Lib.hid (fun w => by have := light_any k code n ok t w; rw [decide_eq_true h] at this; exact this)
  obtain ⟨hlen, hnn⟩ := rec_len ⟨k, code, n, ok, t.data.toList⟩ hc
  have hrr := readL_rec ⟨k, code, n, ok, t.data.toList⟩ hc
  unfold Inp.bytes at hlen hnn hrr
  dsimp only at hlen hnn hrr
  have cB : Hid (∀ w, Calls Try.prog 8 #[inV k code n ok t] w (fun e w' => e = .returned (.tuple #[.string (S (recL k code n ok t.data.toList)), .int .i64 0]) ∧ Keeps w w')) := Lib.hid (fun w => bytes_good k code n ok t w (by omega) hc)
  have cA : Hid (∀ w, Calls Try.prog 10 #[.string (S (recL k code n ok t.data.toList))] w (fun e w' => e = .returned (.tuple #[inV k code n ok t, .int .i64 0]) ∧ Keeps w w')) := Lib.hid (fun w => by have := read_any (recL k code n ok t.data.toList) w (by omega); unfold Reads at this; rw [hrr] at this; exact this)
  generalize hq : recL k code n ok t.data.toList = q at *
  have hq1 : ((S q).size : Int) ≤ 4400 := by rw [S_size]; omega
  have hq2 : (S q).toList.isEmpty = false := by rw [ByteArray.toList_eq, S_data]; cases q with
    | nil => exact absurd rfl hnn
    | cons _ _ => rfl
  generalize S q = b at *
  clear hq hrr hlen hnn
  have cC : Hid (∀ w, Calls Try.prog 9 #[inV k code n ok t] w (Ret (.int .i64 0) w)) := Lib.hid (fun w => by have := check_any k code n ok t w (by unfold maxLen; omega); rw [hc] at this; exact this)
  have cR : Hid (∀ w, Calls Try.prog 10 #[.string s] w (fun e w' => e = .returned (.tuple #[inV k2 code2 n2 ok2 t2, .int .i64 0]) ∧ Keeps w w')) := Lib.hid (fun w => by have := read_any s.data.toList w (by simp; omega); unfold Reads at this; rw [hr] at this; exact this)
  have cD : Hid (∀ w, Calls Try.prog 8 #[inV k2 code2 n2 ok2 t2] w (fun e w' => e = .returned (.tuple #[.string s, .int .i64 0]) ∧ Keeps w w')) := Lib.hid (fun w => by have := bytes_good k2 code2 n2 ok2 t2 w ht2 hc2; rw [hb2] at this; exact this)
  have cE : Hid (∀ w, Calls Try.prog 9 #[inV k2 code2 n2 ok2 t2] w (Ret (.int .i64 0) w)) := Lib.hid (fun w => by have := check_any k2 code2 n2 ok2 t2 w (by unfold maxLen; omega); rw [hc2] at this; exact this)
  clear hc2 hb2 ht2
  clear h hc hr
  have HC := Lib.hid (inCells_new w k code n ok t)
  unfold inV at *
  go_enter Try.func3, Try.ntmps3
  go_wp2_with fail
  refine (cV.out _).mono ?_
  rintro e w1 ⟨rfl, h1⟩
  have HC1 := HC.out.keeps h1
  have hk1 := ((Keeps.refl w).alloc (.cells #[.int .i64 k, .int .i64 code, .int .i64 n, .bool ok, .string t] 23)).trans h1
  clear HC h1 cV
  obtain ⟨a0, a1, a2, a3, a4⟩ := HC1
  have HC1 := Lib.hid (show InCells w1 w.heap.size k code n ok t from ⟨a0, a1, a2, a3, a4⟩)
  go_wp2_with fail
  refine (cL.out _).mono ?_
  rintro e w2 ⟨rfl, h2⟩
  clear a0 a1 a2 a3 a4
  obtain ⟨a0, a1, a2, a3, a4⟩ := HC1.out.keeps h2
  have hk2 := hk1.trans h2
  clear HC1 cL hk1 h2
  have HC2 := Lib.hid (show InCells w2 w.heap.size k code n ok t from ⟨a0, a1, a2, a3, a4⟩)
  go_wp2_with fail
  refine (cB.out _).mono ?_
  rintro e w3 ⟨rfl, h3⟩
  clear a0 a1 a2 a3 a4
  obtain ⟨a0, a1, a2, a3, a4⟩ := HC2.out.keeps h3
  have hk3 := hk2.trans h3
  clear HC2 cB hk2 h3
  have HC3 := Lib.hid (show InCells w3 w.heap.size k code n ok t from ⟨a0, a1, a2, a3, a4⟩)
  go_wp2_with fail
  refine (cC.out _).mono ?_
  rintro e w4 ⟨rfl, h4⟩
  clear a0 a1 a2 a3 a4
  obtain ⟨a0, a1, a2, a3, a4⟩ := HC3.out.keeps h4
  have hk4 := hk3.trans h4
  clear HC3 cC hk3 h4
  have HC4 := Lib.hid (show InCells w4 w.heap.size k code n ok t from ⟨a0, a1, a2, a3, a4⟩)
  go_wp2_with fail
  refine (cA.out _).mono ?_
  rintro e w5 ⟨rfl, h5⟩
  clear a0 a1 a2 a3 a4
  obtain ⟨a0, a1, a2, a3, a4⟩ := HC4.out.keeps h5
  have hk5 := hk4.trans h5
  have hlt : w.heap.size < w5.heap.size := World.block_lt_of_cell? w5 _ a0
  clear HC4 cA hk4 h5
  go_wp2_with fail
  refine (cR.out _).mono ?_
  rintro e w6 ⟨rfl, h6⟩
  have hk6 := (hk5.alloc (.cells #[.int .i64 k, .int .i64 code, .int .i64 n, .bool ok, .string t] 23)).trans h6
  clear a0 a1 a2 a3 a4
  have HE := Lib.hid (inCells_new w6 k2 code2 n2 ok2 t2)
  go_wp2_with fail
  refine (cD.out _).mono ?_
  rintro e w7 ⟨rfl, h7⟩
  obtain ⟨a0, a1, a2, a3, a4⟩ := HE.out.keeps h7
  have hk7 := (hk6.alloc (.cells #[.int .i64 k2, .int .i64 code2, .int .i64 n2, .bool ok2, .string t2] 23)).trans h7
  go_wp2_with fail
  refine (cE.out _).mono ?_
  rintro e w8 ⟨rfl, h8⟩
  go_wp2
  go_ret
  exact Ret.bool rfl (hk7.trans h8)

end Go.Proofs.Ytepbbdeolplhfaa
