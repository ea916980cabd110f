/-
  The walk of the statement on numbers of package scan.
-/
import Derived.Test.YtbhgfdgdbbfeoaaDoorNup
import Derived.Test.YtbhgfdgdbbfeoaaDoorLNam
namespace Go.Proofs.YtbhgfdgdbbfeoaaDoor
open Go.RowKit

theorem wf_i64 {n : Int} (h : (Lit.int .i64 n).wf = true) : -9223372036854775808 ≤ n ∧ n ≤ 9223372036854775807 := by
  simp [Lit.wf, IntKind.min, IntKind.max, IntKind.bits, IntKind.signed] at h
  exact h
theorem S_ne {f g : List UInt8} (h : ¬ f = g) : ¬ S f = S g := fun e => h (by
  have := congrArg (fun b : ByteArray => b.data.toList) e
  simpa [S] using this)
theorem bytes_of_list {p t : ByteArray} (e : p.toList = t.toList) : p = t := by
  rw [ByteArray.toList_eq, ByteArray.toList_eq] at e
  cases p; cases t; simp at e; rw [e]
theorem list_ne {p t : ByteArray} (h : ¬ p = t) : (p.toList == t.toList) = false := beq_eq_false_iff_ne.2 (fun e => h (bytes_of_list e))
theorem app_data (a b : ByteArray) : (a ++ b).data.toList = a.data.toList ++ b.data.toList := by rw [ByteArray.toList_data_append]

set_option maxHeartbeats 1000000 in
/-- Behind the guard nothing is asked. -/
theorem num_long (m n : Int) (b : ByteArray) (w : World) (hb : 2000 < b.size) (hm : b.size ≤ maxLen) : Calls Tryd.prog 8 #[.int .i64 m, .int .i64 n, .string b] w (RetQ true w) := by
  have cL := Lib.hid (fun w1 => lives_any w1)
  unfold maxLen at hm
  have f1 : decide ((2000 : Int) < (b.size : Int)) = true := by simp; omega
  clear hb
  go_enter Tryd.func8, Tryd.ntmps8
  go_wp2_with fail
  refine (cL.out _).mono ?_
  rintro e w2 ⟨rfl, k2⟩
  go_wp2
  go_ret
  exact RetQ.of rfl k2

set_option maxHeartbeats 1000000 in
theorem num_digit (m n : Int) (b : ByteArray) (w : World) (hb : b.size ≤ 2000) (p0 : 0 < b.size) (hd : digB (b[0]'p0) = true) : Calls Tryd.prog 8 #[.int .i64 m, .int .i64 n, .string b] w (RetQ true w) := by
  have cL := Lib.hid (fun w1 => lives_any w1)
  have hd2 : 48 ≤ (b[0]'p0).toNat ∧ (b[0]'p0).toNat ≤ 57 := of_decide_eq_true hd
  have f1 : decide ((2000 : Int) < (b.size : Int)) = false := by simp; omega
  have f2 : decide ((48 : Int) ≤ ((b[0]'p0).toNat : Int)) = true := by simp; omega
  have f3 : decide (((b[0]'p0).toNat : Int) ≤ 57) = true := by simp; omega
  have f4 : b.toList.isEmpty = false := by
    rw [ByteArray.toList_eq, Bool.eq_false_iff, Ne, List.isEmpty_iff]
    intro e; have : b.data.toList.length = b.size := by simp
    rw [e] at this; simp at this; omega
  clear hd hd2
  go_enter Tryd.func8, Tryd.ntmps8
  go_wp2_with fail
  refine (cL.out _).mono ?_
  rintro e w2 ⟨rfl, k2⟩
  go_wp2
  go_ret
  exact RetQ.of rfl k2

set_option maxHeartbeats 2000000 in
theorem num_lo_e (m n : Int) (b : ByteArray) (w : World) (hb : b.size ≤ 2000) (f4 : b.toList.isEmpty = true)
    (cL : Hid (∀ w1, Calls Tryd.prog 11 #[] w1 (RetQ true w1)))
    (cN : Hid (∀ w1, Tab w1 → Calls Tryd.prog 19 #[.int .i64 n] w1 (fun e w' => RetT ([], 2) w1 e w' ∧ decide (n < -9007199254740991) = true))) (hT : Hid (Tab w)) :
    Calls Tryd.prog 8 #[.int .i64 m, .int .i64 n, .string b] w (RetQ true w) := by
  have f1 : decide ((2000 : Int) < (b.size : Int)) = false := by simp; omega
  go_enter Tryd.func8, Tryd.ntmps8
  go_wp2_with fail
  refine (cL.out _).mono ?_
  rintro e w2 ⟨rfl, k2⟩
  have K2 := Lib.hid k2
  clear k2
  go_wp2_with fail
  refine (cN.out _ (hT.out.keeps K2.out)).mono ?_
  rintro e w3 ⟨⟨rfl, k3⟩, d0⟩
  have K3 := Lib.hid (K2.out.trans k3)
  clear k3
  go_wp2
  go_ret
  exact RetQ.of (by first | rfl | (simp [ByteArray.toList_eq, S_data]; done) | simp) K3.out

set_option maxHeartbeats 2000000 in
theorem num_hi_e (m n : Int) (b : ByteArray) (w : World) (hb : b.size ≤ 2000) (f4 : b.toList.isEmpty = true)
    (cL : Hid (∀ w1, Calls Tryd.prog 11 #[] w1 (RetQ true w1)))
    (cN : Hid (∀ w1, Tab w1 → Calls Tryd.prog 19 #[.int .i64 n] w1 (fun e w' => RetT ([], 2) w1 e w' ∧ decide (n < -9007199254740991) = false ∧ decide ((9007199254740991 : Int) < n) = true))) (hT : Hid (Tab w)) :
    Calls Tryd.prog 8 #[.int .i64 m, .int .i64 n, .string b] w (RetQ true w) := by
  have f1 : decide ((2000 : Int) < (b.size : Int)) = false := by simp; omega
  go_enter Tryd.func8, Tryd.ntmps8
  go_wp2_with fail
  refine (cL.out _).mono ?_
  rintro e w2 ⟨rfl, k2⟩
  have K2 := Lib.hid k2
  clear k2
  go_wp2_with fail
  refine (cN.out _ (hT.out.keeps K2.out)).mono ?_
  rintro e w3 ⟨⟨rfl, k3⟩, d0, d1⟩
  have K3 := Lib.hid (K2.out.trans k3)
  clear k3
  go_wp2
  go_ret
  exact RetQ.of (by first | rfl | (simp [ByteArray.toList_eq, S_data]; done) | simp) K3.out

set_option maxHeartbeats 4000000 in
theorem num_bad_e (m n : Int) (b s : ByteArray) (f : Nat) (t : ByteArray) (w : World) (hb : b.size ≤ 2000) (f4 : b.toList.isEmpty = true) (hs : s.size ≤ 100)
    (cL : Hid (∀ w1, Calls Tryd.prog 11 #[] w1 (RetQ true w1)))
    (cN : Hid (∀ w1, Tab w1 → Calls Tryd.prog 19 #[.int .i64 n] w1 (fun e w' => (e = .returned (.tuple #[.string s, .int .i64 0]) ∧ Keeps w1 w') ∧ decide (n < -9007199254740991) = false ∧ decide ((9007199254740991 : Int) < n) = false))) (hT : Hid (Tab w))
    (cM : Hid (∀ w1 : World, Tab w1 → Calls Tryd.prog 19 #[.int .i64 m] w1 (fun e w' => e = .returned (.tuple #[.string t, .int .i64 2]) ∧ Keeps w1 w')))
    (cR : Hid (∀ w1, Calls Tryd.prog 10 #[.string (s ++ b)] w1 (fun e w' => e = .returned (.tuple #[.int .i64 n, .int .i64 (s.size : Int), .int .i64 0]) ∧ w' = w1))) :
    Calls Tryd.prog 8 #[.int .i64 m, .int .i64 n, .string b] w (RetQ true w) := by
  have f1 : decide ((2000 : Int) < (b.size : Int)) = false := by simp; omega
  go_enter Tryd.func8, Tryd.ntmps8
  go_wp2_with fail
  refine (cL.out _).mono ?_
  rintro e w2 ⟨rfl, k2⟩
  have K2 := Lib.hid k2
  clear k2
  go_wp2_with fail
  refine (cN.out _ (hT.out.keeps K2.out)).mono ?_
  rintro e w3 ⟨⟨rfl, k3⟩, d0, d1⟩
  have K3 := Lib.hid (K2.out.trans k3)
  clear k3
  go_wp2_with fail
  refine (cM.out _ (hT.out.keeps K3.out)).mono ?_
  rintro e w4 ⟨rfl, k4⟩
  have K4 := Lib.hid (K3.out.trans k4)
  clear k4 d0 d1
  go_wp2_with fail
  refine (cR.out _).mono ?_
  rintro e w5 ⟨rfl, rfl⟩
  go_wp2
  go_ret
  exact RetQ.of (by first | rfl | simp | simp_all) K4.out

set_option maxHeartbeats 4000000 in
theorem num_same_e (m n : Int) (b s : ByteArray) (w : World) (hb : b.size ≤ 2000) (f4 : b.toList.isEmpty = true) (hs : s.size ≤ 100)
    (cL : Hid (∀ w1, Calls Tryd.prog 11 #[] w1 (RetQ true w1)))
    (cN : Hid (∀ w1, Tab w1 → Calls Tryd.prog 19 #[.int .i64 n] w1 (fun e w' => (e = .returned (.tuple #[.string s, .int .i64 0]) ∧ Keeps w1 w') ∧ decide (n < -9007199254740991) = false ∧ decide ((9007199254740991 : Int) < n) = false))) (hT : Hid (Tab w))
    (cM : Hid (∀ w1 : World, True))
    (cR : Hid (∀ w1, Calls Tryd.prog 10 #[.string (s ++ b)] w1 (fun e w' => e = .returned (.tuple #[.int .i64 n, .int .i64 (s.size : Int), .int .i64 0]) ∧ w' = w1))) :
    Calls Tryd.prog 8 #[.int .i64 n, .int .i64 n, .string b] w (RetQ true w) := by
  have f1 : decide ((2000 : Int) < (b.size : Int)) = false := by simp; omega
  go_enter Tryd.func8, Tryd.ntmps8
  go_wp2_with fail
  refine (cL.out _).mono ?_
  rintro e w2 ⟨rfl, k2⟩
  have K2 := Lib.hid k2
  clear k2
  go_wp2_with fail
  refine (cN.out _ (hT.out.keeps K2.out)).mono ?_
  rintro e w3 ⟨⟨rfl, k3⟩, d0, d1⟩
  have K3 := Lib.hid (K2.out.trans k3)
  clear k3
  go_wp2_with fail
  refine (cN.out _ (hT.out.keeps K3.out)).mono ?_
  rintro e w4 ⟨⟨rfl, k4⟩, _, _⟩
  have K4 := Lib.hid (K3.out.trans k4)
  clear k4 d0 d1
  go_wp2_with fail
  refine (cR.out _).mono ?_
  rintro e w5 ⟨rfl, rfl⟩
  go_wp2
  go_ret
  exact RetQ.of (by first | rfl | simp | simp_all) K4.out

set_option maxHeartbeats 4000000 in
theorem num_other_e (m n : Int) (b s : ByteArray) (t : ByteArray) (w : World) (hb : b.size ≤ 2000) (f4 : b.toList.isEmpty = true) (hs : s.size ≤ 100) (hst : ¬ s.toList = t.toList) (hst2 : (s.toList == t.toList) = false) (hmn : (m == n) = false)
    (cL : Hid (∀ w1, Calls Tryd.prog 11 #[] w1 (RetQ true w1)))
    (cN : Hid (∀ w1, Tab w1 → Calls Tryd.prog 19 #[.int .i64 n] w1 (fun e w' => (e = .returned (.tuple #[.string s, .int .i64 0]) ∧ Keeps w1 w') ∧ decide (n < -9007199254740991) = false ∧ decide ((9007199254740991 : Int) < n) = false))) (hT : Hid (Tab w))
    (cM : Hid (∀ w1 : World, Tab w1 → Calls Tryd.prog 19 #[.int .i64 m] w1 (fun e w' => e = .returned (.tuple #[.string t, .int .i64 0]) ∧ Keeps w1 w')))
    (cR : Hid (∀ w1, Calls Tryd.prog 10 #[.string (s ++ b)] w1 (fun e w' => e = .returned (.tuple #[.int .i64 n, .int .i64 (s.size : Int), .int .i64 0]) ∧ w' = w1))) :
    Calls Tryd.prog 8 #[.int .i64 m, .int .i64 n, .string b] w (RetQ true w) := by
  have f1 : decide ((2000 : Int) < (b.size : Int)) = false := by simp; omega
  go_enter Tryd.func8, Tryd.ntmps8
  go_wp2_with fail
  refine (cL.out _).mono ?_
  rintro e w2 ⟨rfl, k2⟩
  have K2 := Lib.hid k2
  clear k2
  go_wp2_with fail
  refine (cN.out _ (hT.out.keeps K2.out)).mono ?_
  rintro e w3 ⟨⟨rfl, k3⟩, d0, d1⟩
  have K3 := Lib.hid (K2.out.trans k3)
  clear k3
  go_wp2_with fail
  refine (cM.out _ (hT.out.keeps K3.out)).mono ?_
  rintro e w4 ⟨rfl, k4⟩
  have K4 := Lib.hid (K3.out.trans k4)
  clear k4 d0 d1
  go_wp2_with fail
  refine (cR.out _).mono ?_
  rintro e w5 ⟨rfl, rfl⟩
  go_wp2
  go_ret
  exact RetQ.of (by first | rfl | simp | simp_all) K4.out

set_option maxHeartbeats 2000000 in
theorem num_lo_l (m n : Int) (b : ByteArray) (w : World) (hb : b.size ≤ 2000) (p0 : 0 < b.size) (f4 : b.toList.isEmpty = false) (g0 : decide ((48 : Int) ≤ ((b[0]'p0).toNat : Int)) = false)
    (cL : Hid (∀ w1, Calls Tryd.prog 11 #[] w1 (RetQ true w1)))
    (cN : Hid (∀ w1, Tab w1 → Calls Tryd.prog 19 #[.int .i64 n] w1 (fun e w' => RetT ([], 2) w1 e w' ∧ decide (n < -9007199254740991) = true))) (hT : Hid (Tab w)) :
    Calls Tryd.prog 8 #[.int .i64 m, .int .i64 n, .string b] w (RetQ true w) := by
  have f1 : decide ((2000 : Int) < (b.size : Int)) = false := by simp; omega
  go_enter Tryd.func8, Tryd.ntmps8
  go_wp2_with fail
  refine (cL.out _).mono ?_
  rintro e w2 ⟨rfl, k2⟩
  have K2 := Lib.hid k2
  clear k2
  go_wp2_with fail
  refine (cN.out _ (hT.out.keeps K2.out)).mono ?_
  rintro e w3 ⟨⟨rfl, k3⟩, d0⟩
  have K3 := Lib.hid (K2.out.trans k3)
  clear k3
  go_wp2
  go_ret
  exact RetQ.of (by first | rfl | (simp [ByteArray.toList_eq, S_data]; done) | simp) K3.out

set_option maxHeartbeats 2000000 in
theorem num_hi_l (m n : Int) (b : ByteArray) (w : World) (hb : b.size ≤ 2000) (p0 : 0 < b.size) (f4 : b.toList.isEmpty = false) (g0 : decide ((48 : Int) ≤ ((b[0]'p0).toNat : Int)) = false)
    (cL : Hid (∀ w1, Calls Tryd.prog 11 #[] w1 (RetQ true w1)))
    (cN : Hid (∀ w1, Tab w1 → Calls Tryd.prog 19 #[.int .i64 n] w1 (fun e w' => RetT ([], 2) w1 e w' ∧ decide (n < -9007199254740991) = false ∧ decide ((9007199254740991 : Int) < n) = true))) (hT : Hid (Tab w)) :
    Calls Tryd.prog 8 #[.int .i64 m, .int .i64 n, .string b] w (RetQ true w) := by
  have f1 : decide ((2000 : Int) < (b.size : Int)) = false := by simp; omega
  go_enter Tryd.func8, Tryd.ntmps8
  go_wp2_with fail
  refine (cL.out _).mono ?_
  rintro e w2 ⟨rfl, k2⟩
  have K2 := Lib.hid k2
  clear k2
  go_wp2_with fail
  refine (cN.out _ (hT.out.keeps K2.out)).mono ?_
  rintro e w3 ⟨⟨rfl, k3⟩, d0, d1⟩
  have K3 := Lib.hid (K2.out.trans k3)
  clear k3
  go_wp2
  go_ret
  exact RetQ.of (by first | rfl | (simp [ByteArray.toList_eq, S_data]; done) | simp) K3.out

set_option maxHeartbeats 4000000 in
theorem num_bad_l (m n : Int) (b s : ByteArray) (f : Nat) (t : ByteArray) (w : World) (hb : b.size ≤ 2000) (p0 : 0 < b.size) (f4 : b.toList.isEmpty = false) (g0 : decide ((48 : Int) ≤ ((b[0]'p0).toNat : Int)) = false) (hs : s.size ≤ 100)
    (cL : Hid (∀ w1, Calls Tryd.prog 11 #[] w1 (RetQ true w1)))
    (cN : Hid (∀ w1, Tab w1 → Calls Tryd.prog 19 #[.int .i64 n] w1 (fun e w' => (e = .returned (.tuple #[.string s, .int .i64 0]) ∧ Keeps w1 w') ∧ decide (n < -9007199254740991) = false ∧ decide ((9007199254740991 : Int) < n) = false))) (hT : Hid (Tab w))
    (cM : Hid (∀ w1 : World, Tab w1 → Calls Tryd.prog 19 #[.int .i64 m] w1 (fun e w' => e = .returned (.tuple #[.string t, .int .i64 2]) ∧ Keeps w1 w')))
    (cR : Hid (∀ w1, Calls Tryd.prog 10 #[.string (s ++ b)] w1 (fun e w' => e = .returned (.tuple #[.int .i64 n, .int .i64 (s.size : Int), .int .i64 0]) ∧ w' = w1))) :
    Calls Tryd.prog 8 #[.int .i64 m, .int .i64 n, .string b] w (RetQ true w) := by
  have f1 : decide ((2000 : Int) < (b.size : Int)) = false := by simp; omega
  go_enter Tryd.func8, Tryd.ntmps8
  go_wp2_with fail
  refine (cL.out _).mono ?_
  rintro e w2 ⟨rfl, k2⟩
  have K2 := Lib.hid k2
  clear k2
  go_wp2_with fail
  refine (cN.out _ (hT.out.keeps K2.out)).mono ?_
  rintro e w3 ⟨⟨rfl, k3⟩, d0, d1⟩
  have K3 := Lib.hid (K2.out.trans k3)
  clear k3
  go_wp2_with fail
  refine (cM.out _ (hT.out.keeps K3.out)).mono ?_
  rintro e w4 ⟨rfl, k4⟩
  have K4 := Lib.hid (K3.out.trans k4)
  clear k4 d0 d1
  go_wp2_with fail
  refine (cR.out _).mono ?_
  rintro e w5 ⟨rfl, rfl⟩
  go_wp2
  go_ret
  exact RetQ.of (by first | rfl | simp | simp_all) K4.out

set_option maxHeartbeats 4000000 in
theorem num_same_l (m n : Int) (b s : ByteArray) (w : World) (hb : b.size ≤ 2000) (p0 : 0 < b.size) (f4 : b.toList.isEmpty = false) (g0 : decide ((48 : Int) ≤ ((b[0]'p0).toNat : Int)) = false) (hs : s.size ≤ 100)
    (cL : Hid (∀ w1, Calls Tryd.prog 11 #[] w1 (RetQ true w1)))
    (cN : Hid (∀ w1, Tab w1 → Calls Tryd.prog 19 #[.int .i64 n] w1 (fun e w' => (e = .returned (.tuple #[.string s, .int .i64 0]) ∧ Keeps w1 w') ∧ decide (n < -9007199254740991) = false ∧ decide ((9007199254740991 : Int) < n) = false))) (hT : Hid (Tab w))
    (cM : Hid (∀ w1 : World, True))
    (cR : Hid (∀ w1, Calls Tryd.prog 10 #[.string (s ++ b)] w1 (fun e w' => e = .returned (.tuple #[.int .i64 n, .int .i64 (s.size : Int), .int .i64 0]) ∧ w' = w1))) :
    Calls Tryd.prog 8 #[.int .i64 n, .int .i64 n, .string b] w (RetQ true w) := by
  have f1 : decide ((2000 : Int) < (b.size : Int)) = false := by simp; omega
  go_enter Tryd.func8, Tryd.ntmps8
  go_wp2_with fail
  refine (cL.out _).mono ?_
  rintro e w2 ⟨rfl, k2⟩
  have K2 := Lib.hid k2
  clear k2
  go_wp2_with fail
  refine (cN.out _ (hT.out.keeps K2.out)).mono ?_
  rintro e w3 ⟨⟨rfl, k3⟩, d0, d1⟩
  have K3 := Lib.hid (K2.out.trans k3)
  clear k3
  go_wp2_with fail
  refine (cN.out _ (hT.out.keeps K3.out)).mono ?_
  rintro e w4 ⟨⟨rfl, k4⟩, _, _⟩
  have K4 := Lib.hid (K3.out.trans k4)
  clear k4 d0 d1
  go_wp2_with fail
  refine (cR.out _).mono ?_
  rintro e w5 ⟨rfl, rfl⟩
  go_wp2
  go_ret
  exact RetQ.of (by first | rfl | simp | simp_all) K4.out

set_option maxHeartbeats 4000000 in
theorem num_other_l (m n : Int) (b s : ByteArray) (t : ByteArray) (w : World) (hb : b.size ≤ 2000) (p0 : 0 < b.size) (f4 : b.toList.isEmpty = false) (g0 : decide ((48 : Int) ≤ ((b[0]'p0).toNat : Int)) = false) (hs : s.size ≤ 100) (hst : ¬ s.toList = t.toList) (hst2 : (s.toList == t.toList) = false) (hmn : (m == n) = false)
    (cL : Hid (∀ w1, Calls Tryd.prog 11 #[] w1 (RetQ true w1)))
    (cN : Hid (∀ w1, Tab w1 → Calls Tryd.prog 19 #[.int .i64 n] w1 (fun e w' => (e = .returned (.tuple #[.string s, .int .i64 0]) ∧ Keeps w1 w') ∧ decide (n < -9007199254740991) = false ∧ decide ((9007199254740991 : Int) < n) = false))) (hT : Hid (Tab w))
    (cM : Hid (∀ w1 : World, Tab w1 → Calls Tryd.prog 19 #[.int .i64 m] w1 (fun e w' => e = .returned (.tuple #[.string t, .int .i64 0]) ∧ Keeps w1 w')))
    (cR : Hid (∀ w1, Calls Tryd.prog 10 #[.string (s ++ b)] w1 (fun e w' => e = .returned (.tuple #[.int .i64 n, .int .i64 (s.size : Int), .int .i64 0]) ∧ w' = w1))) :
    Calls Tryd.prog 8 #[.int .i64 m, .int .i64 n, .string b] w (RetQ true w) := by
  have f1 : decide ((2000 : Int) < (b.size : Int)) = false := by simp; omega
  go_enter Tryd.func8, Tryd.ntmps8
  go_wp2_with fail
  refine (cL.out _).mono ?_
  rintro e w2 ⟨rfl, k2⟩
  have K2 := Lib.hid k2
  clear k2
  go_wp2_with fail
  refine (cN.out _ (hT.out.keeps K2.out)).mono ?_
  rintro e w3 ⟨⟨rfl, k3⟩, d0, d1⟩
  have K3 := Lib.hid (K2.out.trans k3)
  clear k3
  go_wp2_with fail
  refine (cM.out _ (hT.out.keeps K3.out)).mono ?_
  rintro e w4 ⟨rfl, k4⟩
  have K4 := Lib.hid (K3.out.trans k4)
  clear k4 d0 d1
  go_wp2_with fail
  refine (cR.out _).mono ?_
  rintro e w5 ⟨rfl, rfl⟩
  go_wp2
  go_ret
  exact RetQ.of (by first | rfl | simp | simp_all) K4.out

set_option maxHeartbeats 2000000 in
theorem num_lo_h (m n : Int) (b : ByteArray) (w : World) (hb : b.size ≤ 2000) (p0 : 0 < b.size) (f4 : b.toList.isEmpty = false) (g0 : decide ((48 : Int) ≤ ((b[0]'p0).toNat : Int)) = true) (g1 : decide (((b[0]'p0).toNat : Int) ≤ 57) = false)
    (cL : Hid (∀ w1, Calls Tryd.prog 11 #[] w1 (RetQ true w1)))
    (cN : Hid (∀ w1, Tab w1 → Calls Tryd.prog 19 #[.int .i64 n] w1 (fun e w' => RetT ([], 2) w1 e w' ∧ decide (n < -9007199254740991) = true))) (hT : Hid (Tab w)) :
    Calls Tryd.prog 8 #[.int .i64 m, .int .i64 n, .string b] w (RetQ true w) := by
  have f1 : decide ((2000 : Int) < (b.size : Int)) = false := by simp; omega
  go_enter Tryd.func8, Tryd.ntmps8
  go_wp2_with fail
  refine (cL.out _).mono ?_
  rintro e w2 ⟨rfl, k2⟩
  have K2 := Lib.hid k2
  clear k2
  go_wp2_with fail
  refine (cN.out _ (hT.out.keeps K2.out)).mono ?_
  rintro e w3 ⟨⟨rfl, k3⟩, d0⟩
  have K3 := Lib.hid (K2.out.trans k3)
  clear k3
  go_wp2
  go_ret
  exact RetQ.of (by first | rfl | (simp [ByteArray.toList_eq, S_data]; done) | simp) K3.out

set_option maxHeartbeats 2000000 in
theorem num_hi_h (m n : Int) (b : ByteArray) (w : World) (hb : b.size ≤ 2000) (p0 : 0 < b.size) (f4 : b.toList.isEmpty = false) (g0 : decide ((48 : Int) ≤ ((b[0]'p0).toNat : Int)) = true) (g1 : decide (((b[0]'p0).toNat : Int) ≤ 57) = false)
    (cL : Hid (∀ w1, Calls Tryd.prog 11 #[] w1 (RetQ true w1)))
    (cN : Hid (∀ w1, Tab w1 → Calls Tryd.prog 19 #[.int .i64 n] w1 (fun e w' => RetT ([], 2) w1 e w' ∧ decide (n < -9007199254740991) = false ∧ decide ((9007199254740991 : Int) < n) = true))) (hT : Hid (Tab w)) :
    Calls Tryd.prog 8 #[.int .i64 m, .int .i64 n, .string b] w (RetQ true w) := by
  have f1 : decide ((2000 : Int) < (b.size : Int)) = false := by simp; omega
  go_enter Tryd.func8, Tryd.ntmps8
  go_wp2_with fail
  refine (cL.out _).mono ?_
  rintro e w2 ⟨rfl, k2⟩
  have K2 := Lib.hid k2
  clear k2
  go_wp2_with fail
  refine (cN.out _ (hT.out.keeps K2.out)).mono ?_
  rintro e w3 ⟨⟨rfl, k3⟩, d0, d1⟩
  have K3 := Lib.hid (K2.out.trans k3)
  clear k3
  go_wp2
  go_ret
  exact RetQ.of (by first | rfl | (simp [ByteArray.toList_eq, S_data]; done) | simp) K3.out

set_option maxHeartbeats 4000000 in
theorem num_bad_h (m n : Int) (b s : ByteArray) (f : Nat) (t : ByteArray) (w : World) (hb : b.size ≤ 2000) (p0 : 0 < b.size) (f4 : b.toList.isEmpty = false) (g0 : decide ((48 : Int) ≤ ((b[0]'p0).toNat : Int)) = true) (g1 : decide (((b[0]'p0).toNat : Int) ≤ 57) = false) (hs : s.size ≤ 100)
    (cL : Hid (∀ w1, Calls Tryd.prog 11 #[] w1 (RetQ true w1)))
    (cN : Hid (∀ w1, Tab w1 → Calls Tryd.prog 19 #[.int .i64 n] w1 (fun e w' => (e = .returned (.tuple #[.string s, .int .i64 0]) ∧ Keeps w1 w') ∧ decide (n < -9007199254740991) = false ∧ decide ((9007199254740991 : Int) < n) = false))) (hT : Hid (Tab w))
    (cM : Hid (∀ w1 : World, Tab w1 → Calls Tryd.prog 19 #[.int .i64 m] w1 (fun e w' => e = .returned (.tuple #[.string t, .int .i64 2]) ∧ Keeps w1 w')))
    (cR : Hid (∀ w1, Calls Tryd.prog 10 #[.string (s ++ b)] w1 (fun e w' => e = .returned (.tuple #[.int .i64 n, .int .i64 (s.size : Int), .int .i64 0]) ∧ w' = w1))) :
    Calls Tryd.prog 8 #[.int .i64 m, .int .i64 n, .string b] w (RetQ true w) := by
  have f1 : decide ((2000 : Int) < (b.size : Int)) = false := by simp; omega
  go_enter Tryd.func8, Tryd.ntmps8
  go_wp2_with fail
  refine (cL.out _).mono ?_
  rintro e w2 ⟨rfl, k2⟩
  have K2 := Lib.hid k2
  clear k2
  go_wp2_with fail
  refine (cN.out _ (hT.out.keeps K2.out)).mono ?_
  rintro e w3 ⟨⟨rfl, k3⟩, d0, d1⟩
  have K3 := Lib.hid (K2.out.trans k3)
  clear k3
  go_wp2_with fail
  refine (cM.out _ (hT.out.keeps K3.out)).mono ?_
  rintro e w4 ⟨rfl, k4⟩
  have K4 := Lib.hid (K3.out.trans k4)
  clear k4 d0 d1
  go_wp2_with fail
  refine (cR.out _).mono ?_
  rintro e w5 ⟨rfl, rfl⟩
  go_wp2
  go_ret
  exact RetQ.of (by first | rfl | simp | simp_all) K4.out

set_option maxHeartbeats 4000000 in
theorem num_same_h (m n : Int) (b s : ByteArray) (w : World) (hb : b.size ≤ 2000) (p0 : 0 < b.size) (f4 : b.toList.isEmpty = false) (g0 : decide ((48 : Int) ≤ ((b[0]'p0).toNat : Int)) = true) (g1 : decide (((b[0]'p0).toNat : Int) ≤ 57) = false) (hs : s.size ≤ 100)
    (cL : Hid (∀ w1, Calls Tryd.prog 11 #[] w1 (RetQ true w1)))
    (cN : Hid (∀ w1, Tab w1 → Calls Tryd.prog 19 #[.int .i64 n] w1 (fun e w' => (e = .returned (.tuple #[.string s, .int .i64 0]) ∧ Keeps w1 w') ∧ decide (n < -9007199254740991) = false ∧ decide ((9007199254740991 : Int) < n) = false))) (hT : Hid (Tab w))
    (cM : Hid (∀ w1 : World, True))
    (cR : Hid (∀ w1, Calls Tryd.prog 10 #[.string (s ++ b)] w1 (fun e w' => e = .returned (.tuple #[.int .i64 n, .int .i64 (s.size : Int), .int .i64 0]) ∧ w' = w1))) :
    Calls Tryd.prog 8 #[.int .i64 n, .int .i64 n, .string b] w (RetQ true w) := by
  have f1 : decide ((2000 : Int) < (b.size : Int)) = false := by simp; omega
  go_enter Tryd.func8, Tryd.ntmps8
  go_wp2_with fail
  refine (cL.out _).mono ?_
  rintro e w2 ⟨rfl, k2⟩
  have K2 := Lib.hid k2
  clear k2
  go_wp2_with fail
  refine (cN.out _ (hT.out.keeps K2.out)).mono ?_
  rintro e w3 ⟨⟨rfl, k3⟩, d0, d1⟩
  have K3 := Lib.hid (K2.out.trans k3)
  clear k3
  go_wp2_with fail
  refine (cN.out _ (hT.out.keeps K3.out)).mono ?_
  rintro e w4 ⟨⟨rfl, k4⟩, _, _⟩
  have K4 := Lib.hid (K3.out.trans k4)
  clear k4 d0 d1
  go_wp2_with fail
  refine (cR.out _).mono ?_
  rintro e w5 ⟨rfl, rfl⟩
  go_wp2
  go_ret
  exact RetQ.of (by first | rfl | simp | simp_all) K4.out

set_option maxHeartbeats 4000000 in
theorem num_other_h (m n : Int) (b s : ByteArray) (t : ByteArray) (w : World) (hb : b.size ≤ 2000) (p0 : 0 < b.size) (f4 : b.toList.isEmpty = false) (g0 : decide ((48 : Int) ≤ ((b[0]'p0).toNat : Int)) = true) (g1 : decide (((b[0]'p0).toNat : Int) ≤ 57) = false) (hs : s.size ≤ 100) (hst : ¬ s.toList = t.toList) (hst2 : (s.toList == t.toList) = false) (hmn : (m == n) = false)
    (cL : Hid (∀ w1, Calls Tryd.prog 11 #[] w1 (RetQ true w1)))
    (cN : Hid (∀ w1, Tab w1 → Calls Tryd.prog 19 #[.int .i64 n] w1 (fun e w' => (e = .returned (.tuple #[.string s, .int .i64 0]) ∧ Keeps w1 w') ∧ decide (n < -9007199254740991) = false ∧ decide ((9007199254740991 : Int) < n) = false))) (hT : Hid (Tab w))
    (cM : Hid (∀ w1 : World, Tab w1 → Calls Tryd.prog 19 #[.int .i64 m] w1 (fun e w' => e = .returned (.tuple #[.string t, .int .i64 0]) ∧ Keeps w1 w')))
    (cR : Hid (∀ w1, Calls Tryd.prog 10 #[.string (s ++ b)] w1 (fun e w' => e = .returned (.tuple #[.int .i64 n, .int .i64 (s.size : Int), .int .i64 0]) ∧ w' = w1))) :
    Calls Tryd.prog 8 #[.int .i64 m, .int .i64 n, .string b] w (RetQ true w) := by
  have f1 : decide ((2000 : Int) < (b.size : Int)) = false := by simp; omega
  go_enter Tryd.func8, Tryd.ntmps8
  go_wp2_with fail
  refine (cL.out _).mono ?_
  rintro e w2 ⟨rfl, k2⟩
  have K2 := Lib.hid k2
  clear k2
  go_wp2_with fail
  refine (cN.out _ (hT.out.keeps K2.out)).mono ?_
  rintro e w3 ⟨⟨rfl, k3⟩, d0, d1⟩
  have K3 := Lib.hid (K2.out.trans k3)
  clear k3
  go_wp2_with fail
  refine (cM.out _ (hT.out.keeps K3.out)).mono ?_
  rintro e w4 ⟨rfl, k4⟩
  have K4 := Lib.hid (K3.out.trans k4)
  clear k4 d0 d1
  go_wp2_with fail
  refine (cR.out _).mono ?_
  rintro e w5 ⟨rfl, rfl⟩
  go_wp2
  go_ret
  exact RetQ.of (by first | rfl | simp | simp_all) K4.out

end Go.Proofs.YtbhgfdgdbbfeoaaDoor
