/-
  The walks of the statements on fronts of literals, and on reading back, of package scan.
-/
import Derived.Test.YtbhgfdgdbbfeoaaDoorPck
import Derived.Test.YtbhgfdgdbbfeoaaDoorFrp
import Derived.Test.YtbhgfdgdbbfeoaaDoorLNum
namespace Go.Proofs.YtbhgfdgdbbfeoaaDoor
open Go.RowKit

/-- Behind the guard nothing is asked. -/
def big2 (s b : ByteArray) : Bool := decide (2000 < s.size) || decide (2000 < b.size)

set_option maxHeartbeats 1000000 in
theorem fr_big1 (s b : ByteArray) (c : Int) (w : World) (hs : 2000 < s.size) (ms : s.size ≤ maxLen) : Calls Tryd.prog 6 #[.string s, .string b, .int .i64 c] w (RetQ true w) := by
  have cL := Lib.hid (fun w1 => lives_any w1)
  unfold maxLen at ms
  have f1 : decide ((2000 : Int) < (s.size : Int)) = true := by simp; omega
  clear hs
  go_enter Tryd.func6, Tryd.ntmps6
  go_wp2_with fail
  refine (cL.out _).mono ?_
  rintro e w2 ⟨rfl, k2⟩
  go_wp2
  go_ret
  exact RetQ.of rfl k2
set_option maxHeartbeats 1000000 in
theorem fr_big2 (s b : ByteArray) (c : Int) (w : World) (hs : s.size ≤ 2000) (hb : 2000 < b.size) (mb : b.size ≤ maxLen) : Calls Tryd.prog 6 #[.string s, .string b, .int .i64 c] w (RetQ true w) := by
  have cL := Lib.hid (fun w1 => lives_any w1)
  unfold maxLen at mb
  have f1 : decide ((2000 : Int) < (s.size : Int)) = false := by simp; omega
  have f2 : decide ((2000 : Int) < (b.size : Int)) = true := by simp; omega
  clear hb
  go_enter Tryd.func6, Tryd.ntmps6
  go_wp2_with fail
  refine (cL.out _).mono ?_
  rintro e w2 ⟨rfl, k2⟩
  go_wp2
  go_ret
  exact RetQ.of rfl k2
set_option maxHeartbeats 1000000 in
theorem bk_big1 (s b : ByteArray) (w : World) (hs : 2000 < s.size) (ms : s.size ≤ maxLen) : Calls Tryd.prog 5 #[.string s, .string b] w (RetQ true w) := by
  have cL := Lib.hid (fun w1 => lives_any w1)
  unfold maxLen at ms
  have f1 : decide ((2000 : Int) < (s.size : Int)) = true := by simp; omega
  clear hs
  go_enter Tryd.func5, Tryd.ntmps5
  go_wp2_with fail
  refine (cL.out _).mono ?_
  rintro e w2 ⟨rfl, k2⟩
  go_wp2
  go_ret
  exact RetQ.of rfl k2
set_option maxHeartbeats 1000000 in
theorem bk_big2 (s b : ByteArray) (w : World) (hs : s.size ≤ 2000) (hb : 2000 < b.size) (mb : b.size ≤ maxLen) : Calls Tryd.prog 5 #[.string s, .string b] w (RetQ true w) := by
  have cL := Lib.hid (fun w1 => lives_any w1)
  unfold maxLen at mb
  have f1 : decide ((2000 : Int) < (s.size : Int)) = false := by simp; omega
  have f2 : decide ((2000 : Int) < (b.size : Int)) = true := by simp; omega
  clear hb
  go_enter Tryd.func5, Tryd.ntmps5
  go_wp2_with fail
  refine (cL.out _).mono ?_
  rintro e w2 ⟨rfl, k2⟩
  go_wp2
  go_ret
  exact RetQ.of rfl k2

/-- Unquote at a string, whatever the world that has the tables. -/
abbrev CU (s : ByteArray) (o : ByteArray) (n e : Int) : Prop := Hid (∀ w1, Utf w1 → Calls Tryd.prog 9 #[.string s] w1 (fun e' w' => e' = .returned (.tuple #[.string o, .int .i64 n, .int .i64 e]) ∧ Keeps w1 w'))

set_option maxHeartbeats 2000000 in
theorem fr_err (s b o : ByteArray) (c n e : Int) (w : World) (hs : s.size ≤ 2000) (hb : b.size ≤ 2000) (he : (e != 0) = true) (HU : Hid (Utf w)) (cU : CU s o n e) :
    Calls Tryd.prog 6 #[.string s, .string b, .int .i64 c] w (RetQ true w) := by
  have cL := Lib.hid (fun w1 => lives_any w1)
  have f1 : decide ((2000 : Int) < (s.size : Int)) = false := by simp; omega
  have f2 : decide ((2000 : Int) < (b.size : Int)) = false := by simp; omega
  go_enter Tryd.func6, Tryd.ntmps6
  go_wp2_with fail
  refine (cL.out _).mono ?_
  rintro e1 w2 ⟨rfl, k2⟩
  have K2 := Lib.hid k2
  clear k2
  go_wp2_with fail
  refine (cU.out _ (HU.out.keeps K2.out)).mono ?_
  rintro e1 w3 ⟨rfl, k3⟩
  have K3 := Lib.hid (K2.out.trans k3)
  clear k3
  go_wp2
  go_ret
  exact RetQ.of rfl K3.out

set_option maxHeartbeats 4000000 in
theorem fr_ok3 (s b o o2 : ByteArray) (c m : Int) (n j : Nat) (w : World) (hs : s.size ≤ 2000) (hb : b.size ≤ 2000) (h2 : 2 ≤ n) (hn : n ≤ s.size) (hj : j < n) (HU : Hid (Utf w)) (cU : CU s o n 0)
    (cV : CU (s.extract 0 n ++ b) o n 0) (cX : CU (s.extract 0 j) o2 m 3)
    (cP : Hid (∀ w1, Calls Tryd.prog 24 #[.int .i64 c, .int .i64 (n : Int)] w1 (fun e w' => e = .returned (.int .i64 (j : Int)) ∧ w' = w1))) :
    Calls Tryd.prog 6 #[.string s, .string b, .int .i64 c] w (RetQ true w) := by
  have cL := Lib.hid (fun w1 => lives_any w1)
  have f1 : decide ((2000 : Int) < (s.size : Int)) = false := by simp; omega
  have f2 : decide ((2000 : Int) < (b.size : Int)) = false := by simp; omega
  have f3 : decide ((n : Int) < 2) = false := by simp; omega
  have f4 : decide (s.size < n) = false := by simp; omega
  have q1 : j ≤ s.size := by omega
  go_enter Tryd.func6, Tryd.ntmps6
  go_wp2_with fail
  refine (cL.out _).mono ?_
  rintro e1 w2 ⟨rfl, k2⟩
  have K2 := Lib.hid k2
  clear k2
  go_wp2_with fail
  refine (cU.out _ (HU.out.keeps K2.out)).mono ?_
  rintro e1 w3 ⟨rfl, k3⟩
  have K3 := Lib.hid (K2.out.trans k3)
  clear k3
  go_wp2_with fail
  refine (cV.out _ (HU.out.keeps K3.out)).mono ?_
  rintro e1 w4 ⟨rfl, k4⟩
  have K4 := Lib.hid (K3.out.trans k4)
  clear k4
  go_wp2_with fail
  refine (cP.out _).mono ?_
  rintro e1 wx ⟨rfl, rfl⟩
  go_wp2_with fail
  refine (cX.out _ (HU.out.keeps K4.out)).mono ?_
  rintro e1 w5 ⟨rfl, k5⟩
  have K5 := Lib.hid (K4.out.trans k5)
  clear k5
  go_wp2
  go_ret
  exact RetQ.of (by first | rfl | simp) K5.out

set_option maxHeartbeats 4000000 in
theorem fr_ok6 (s b o o2 : ByteArray) (c m : Int) (n j : Nat) (w : World) (hs : s.size ≤ 2000) (hb : b.size ≤ 2000) (h2 : 2 ≤ n) (hn : n ≤ s.size) (hj : j < n) (HU : Hid (Utf w)) (cU : CU s o n 0)
    (cV : CU (s.extract 0 n ++ b) o n 0) (cX : CU (s.extract 0 j) o2 m 6)
    (cP : Hid (∀ w1, Calls Tryd.prog 24 #[.int .i64 c, .int .i64 (n : Int)] w1 (fun e w' => e = .returned (.int .i64 (j : Int)) ∧ w' = w1))) :
    Calls Tryd.prog 6 #[.string s, .string b, .int .i64 c] w (RetQ true w) := by
  have cL := Lib.hid (fun w1 => lives_any w1)
  have f1 : decide ((2000 : Int) < (s.size : Int)) = false := by simp; omega
  have f2 : decide ((2000 : Int) < (b.size : Int)) = false := by simp; omega
  have f3 : decide ((n : Int) < 2) = false := by simp; omega
  have f4 : decide (s.size < n) = false := by simp; omega
  have q1 : j ≤ s.size := by omega
  go_enter Tryd.func6, Tryd.ntmps6
  go_wp2_with fail
  refine (cL.out _).mono ?_
  rintro e1 w2 ⟨rfl, k2⟩
  have K2 := Lib.hid k2
  clear k2
  go_wp2_with fail
  refine (cU.out _ (HU.out.keeps K2.out)).mono ?_
  rintro e1 w3 ⟨rfl, k3⟩
  have K3 := Lib.hid (K2.out.trans k3)
  clear k3
  go_wp2_with fail
  refine (cV.out _ (HU.out.keeps K3.out)).mono ?_
  rintro e1 w4 ⟨rfl, k4⟩
  have K4 := Lib.hid (K3.out.trans k4)
  clear k4
  go_wp2_with fail
  refine (cP.out _).mono ?_
  rintro e1 wx ⟨rfl, rfl⟩
  go_wp2_with fail
  refine (cX.out _ (HU.out.keeps K4.out)).mono ?_
  rintro e1 w5 ⟨rfl, k5⟩
  have K5 := Lib.hid (K4.out.trans k5)
  clear k5
  go_wp2
  go_ret
  exact RetQ.of (by first | rfl | simp) K5.out

set_option maxHeartbeats 8000000 in
theorem bk_v_ok (s b q o1 y z : ByteArray) (n1 e1 e2 nz : Int) (k : Nat) (w : World) (hs : s.size ≤ 2000) (hb : b.size ≤ 2000) (hq : q.size ≤ 20000) (hk0 : k ≤ s.size) (HU : Hid (Utf w)) (cQ : Hid (∀ w1, Calls Tryd.prog 15 #[.string s] w1 (fun e w' => e = .returned (.tuple #[.string q, .int .i64 0]) ∧ Keeps w1 w')))
    (cV : Hid (∀ w1, Calls Tryd.prog 14 #[.string s] w1 (RetQ true w1)))
    (cU : CU (q ++ b) s (q.size : Int) 0)
    (HG : Hid (∀ k (hk : k < q.size), decide (((q[k]'hk).toNat : Int) < 32) = false))
    (cY : CU s y (k : Int) 0) (cW : Hid (∀ w1, Calls Tryd.prog 15 #[.string y] w1 (fun e w' => e = .returned (.tuple #[.string z, .int .i64 0]) ∧ Keeps w1 w'))) (cZ : CU z y nz 0) :
    Calls Tryd.prog 5 #[.string s, .string b] w (RetQ true w) := by
  have cL := Lib.hid (fun w1 => lives_any w1)
  have f1 : decide ((2000 : Int) < (s.size : Int)) = false := by simp; omega
  have f2 : decide ((2000 : Int) < (b.size : Int)) = false := by simp; omega
  go_enter Tryd.func5, Tryd.ntmps5
  go_wp2_with fail
  refine (cL.out _).mono ?_
  rintro e w2 ⟨rfl, k2⟩
  have K2 := Lib.hid k2
  clear k2
  go_wp2_with fail
  refine (cQ.out _).mono ?_
  rintro e w3 ⟨rfl, k3⟩
  have K3 := Lib.hid (K2.out.trans k3)
  clear k3
  go_wp2_with fail
  refine (cV.out _).mono ?_
  rintro e w4 ⟨rfl, k4⟩
  have K4 := Lib.hid (K3.out.trans k4)
  clear k4
  go_wp2_with fail
  refine (cU.out _ (HU.out.keeps K4.out)).mono ?_
  rintro e w5 ⟨rfl, k5⟩
  have K5 := Lib.hid (K4.out.trans k5)
  clear k5
  go_wp2
  go_loop [10] (fun i => ∃ k : Nat, k ≤ q.size ∧ i = .int .i64 (k : Int)) (fun i => q.size - (intOf i).toNat)
  case atStart => exact ⟨0, Nat.zero_le _, rfl⟩
  case round =>
    obtain ⟨k', hk, rfl⟩ := hrel
    by_cases hlt : k' < q.size
    · have g1 := HG.out k' hlt
      go_wp2
      go_round
      case rel => exact ⟨k' + 1, by omega, by go_num⟩
      case measure => simp [intOf]; omega
    · go_wp2_with fail
      refine (cY.out _ (HU.out.keeps K5.out)).mono ?_
      rintro e w6 ⟨rfl, k6⟩
      have K6 := Lib.hid (K5.out.trans k6)
      clear k6
      go_wp2_with fail
      refine (cW.out _).mono ?_
      rintro e w7 ⟨rfl, k7⟩
      have K7 := Lib.hid (K6.out.trans k7)
      clear k7
      go_wp2_with fail
      refine (cZ.out _ (HU.out.keeps K7.out)).mono ?_
      rintro e w8 ⟨rfl, k8⟩
      have K8 := Lib.hid (K7.out.trans k8)
      clear k8
      go_wp2
      go_ret
      exact RetQ.of (by first | rfl | (simp; omega) | simp) K8.out

set_option maxHeartbeats 8000000 in
theorem bk_v_er (s b q o1 y z : ByteArray) (n1 e1 e2 nz : Int) (k : Nat) (w : World) (hs : s.size ≤ 2000) (hb : b.size ≤ 2000) (hq : q.size ≤ 20000) (HU : Hid (Utf w)) (cQ : Hid (∀ w1, Calls Tryd.prog 15 #[.string s] w1 (fun e w' => e = .returned (.tuple #[.string q, .int .i64 0]) ∧ Keeps w1 w')))
    (cV : Hid (∀ w1, Calls Tryd.prog 14 #[.string s] w1 (RetQ true w1)))
    (cU : CU (q ++ b) s (q.size : Int) 0)
    (HG : Hid (∀ k (hk : k < q.size), decide (((q[k]'hk).toNat : Int) < 32) = false))
    (cY : CU s ⟨#[]⟩ 0 e2) (he2 : (e2 != 0) = true) :
    Calls Tryd.prog 5 #[.string s, .string b] w (RetQ true w) := by
  have cL := Lib.hid (fun w1 => lives_any w1)
  have f1 : decide ((2000 : Int) < (s.size : Int)) = false := by simp; omega
  have f2 : decide ((2000 : Int) < (b.size : Int)) = false := by simp; omega
  go_enter Tryd.func5, Tryd.ntmps5
  go_wp2_with fail
  refine (cL.out _).mono ?_
  rintro e w2 ⟨rfl, k2⟩
  have K2 := Lib.hid k2
  clear k2
  go_wp2_with fail
  refine (cQ.out _).mono ?_
  rintro e w3 ⟨rfl, k3⟩
  have K3 := Lib.hid (K2.out.trans k3)
  clear k3
  go_wp2_with fail
  refine (cV.out _).mono ?_
  rintro e w4 ⟨rfl, k4⟩
  have K4 := Lib.hid (K3.out.trans k4)
  clear k4
  go_wp2_with fail
  refine (cU.out _ (HU.out.keeps K4.out)).mono ?_
  rintro e w5 ⟨rfl, k5⟩
  have K5 := Lib.hid (K4.out.trans k5)
  clear k5
  go_wp2
  go_loop [10] (fun i => ∃ k : Nat, k ≤ q.size ∧ i = .int .i64 (k : Int)) (fun i => q.size - (intOf i).toNat)
  case atStart => exact ⟨0, Nat.zero_le _, rfl⟩
  case round =>
    obtain ⟨k', hk, rfl⟩ := hrel
    by_cases hlt : k' < q.size
    · have g1 := HG.out k' hlt
      go_wp2
      go_round
      case rel => exact ⟨k' + 1, by omega, by go_num⟩
      case measure => simp [intOf]; omega
    · go_wp2_with fail
      refine (cY.out _ (HU.out.keeps K5.out)).mono ?_
      rintro e w6 ⟨rfl, k6⟩
      have K6 := Lib.hid (K5.out.trans k6)
      clear k6
      go_wp2
      go_ret
      exact RetQ.of (by first | rfl | (simp [ByteArray.toList_eq]; done) | simp) K6.out

set_option maxHeartbeats 8000000 in
theorem bk_n_ok (s b q o1 y z : ByteArray) (n1 e1 e2 nz : Int) (k : Nat) (w : World) (hs : s.size ≤ 2000) (hb : b.size ≤ 2000) (hq : q.size ≤ 20000) (hk0 : k ≤ s.size) (hqe : q.toList.isEmpty = true) (HU : Hid (Utf w)) (cQ : Hid (∀ w1, Calls Tryd.prog 15 #[.string s] w1 (fun e w' => e = .returned (.tuple #[.string q, .int .i64 6]) ∧ Keeps w1 w')))
    (cV : Hid (∀ w1, Calls Tryd.prog 14 #[.string s] w1 (RetQ false w1)))
    (cU : CU (q ++ b) o1 n1 e1)
    (HG : Hid (∀ k (hk : k < q.size), decide (((q[k]'hk).toNat : Int) < 32) = false))
    (cY : CU s y (k : Int) 0) (cW : Hid (∀ w1, Calls Tryd.prog 15 #[.string y] w1 (fun e w' => e = .returned (.tuple #[.string z, .int .i64 0]) ∧ Keeps w1 w'))) (cZ : CU z y nz 0) :
    Calls Tryd.prog 5 #[.string s, .string b] w (RetQ true w) := by
  have cL := Lib.hid (fun w1 => lives_any w1)
  have f1 : decide ((2000 : Int) < (s.size : Int)) = false := by simp; omega
  have f2 : decide ((2000 : Int) < (b.size : Int)) = false := by simp; omega
  have f3 : q.toList.isEmpty = true := hqe
  go_enter Tryd.func5, Tryd.ntmps5
  go_wp2_with fail
  refine (cL.out _).mono ?_
  rintro e w2 ⟨rfl, k2⟩
  have K2 := Lib.hid k2
  clear k2
  go_wp2_with fail
  refine (cQ.out _).mono ?_
  rintro e w3 ⟨rfl, k3⟩
  have K3 := Lib.hid (K2.out.trans k3)
  clear k3
  go_wp2_with fail
  refine (cV.out _).mono ?_
  rintro e w4 ⟨rfl, k4⟩
  have K4 := Lib.hid (K3.out.trans k4)
  clear k4
  go_wp2_with fail
  refine (cU.out _ (HU.out.keeps K4.out)).mono ?_
  rintro e w5 ⟨rfl, k5⟩
  have K5 := Lib.hid (K4.out.trans k5)
  clear k5
  go_wp2
  go_loop [10] (fun i => ∃ k : Nat, k ≤ q.size ∧ i = .int .i64 (k : Int)) (fun i => q.size - (intOf i).toNat)
  case atStart => exact ⟨0, Nat.zero_le _, rfl⟩
  case round =>
    obtain ⟨k', hk, rfl⟩ := hrel
    by_cases hlt : k' < q.size
    · have g1 := HG.out k' hlt
      go_wp2
      go_round
      case rel => exact ⟨k' + 1, by omega, by go_num⟩
      case measure => simp [intOf]; omega
    · go_wp2_with fail
      refine (cY.out _ (HU.out.keeps K5.out)).mono ?_
      rintro e w6 ⟨rfl, k6⟩
      have K6 := Lib.hid (K5.out.trans k6)
      clear k6
      go_wp2_with fail
      refine (cW.out _).mono ?_
      rintro e w7 ⟨rfl, k7⟩
      have K7 := Lib.hid (K6.out.trans k7)
      clear k7
      go_wp2_with fail
      refine (cZ.out _ (HU.out.keeps K7.out)).mono ?_
      rintro e w8 ⟨rfl, k8⟩
      have K8 := Lib.hid (K7.out.trans k8)
      clear k8
      go_wp2
      go_ret
      exact RetQ.of (by first | rfl | (simp; omega) | simp) K8.out

set_option maxHeartbeats 8000000 in
theorem bk_n_er (s b q o1 y z : ByteArray) (n1 e1 e2 nz : Int) (k : Nat) (w : World) (hs : s.size ≤ 2000) (hb : b.size ≤ 2000) (hq : q.size ≤ 20000) (hqe : q.toList.isEmpty = true) (HU : Hid (Utf w)) (cQ : Hid (∀ w1, Calls Tryd.prog 15 #[.string s] w1 (fun e w' => e = .returned (.tuple #[.string q, .int .i64 6]) ∧ Keeps w1 w')))
    (cV : Hid (∀ w1, Calls Tryd.prog 14 #[.string s] w1 (RetQ false w1)))
    (cU : CU (q ++ b) o1 n1 e1)
    (HG : Hid (∀ k (hk : k < q.size), decide (((q[k]'hk).toNat : Int) < 32) = false))
    (cY : CU s ⟨#[]⟩ 0 e2) (he2 : (e2 != 0) = true) :
    Calls Tryd.prog 5 #[.string s, .string b] w (RetQ true w) := by
  have cL := Lib.hid (fun w1 => lives_any w1)
  have f1 : decide ((2000 : Int) < (s.size : Int)) = false := by simp; omega
  have f2 : decide ((2000 : Int) < (b.size : Int)) = false := by simp; omega
  have f3 : q.toList.isEmpty = true := hqe
  go_enter Tryd.func5, Tryd.ntmps5
  go_wp2_with fail
  refine (cL.out _).mono ?_
  rintro e w2 ⟨rfl, k2⟩
  have K2 := Lib.hid k2
  clear k2
  go_wp2_with fail
  refine (cQ.out _).mono ?_
  rintro e w3 ⟨rfl, k3⟩
  have K3 := Lib.hid (K2.out.trans k3)
  clear k3
  go_wp2_with fail
  refine (cV.out _).mono ?_
  rintro e w4 ⟨rfl, k4⟩
  have K4 := Lib.hid (K3.out.trans k4)
  clear k4
  go_wp2_with fail
  refine (cU.out _ (HU.out.keeps K4.out)).mono ?_
  rintro e w5 ⟨rfl, k5⟩
  have K5 := Lib.hid (K4.out.trans k5)
  clear k5
  go_wp2
  go_loop [10] (fun i => ∃ k : Nat, k ≤ q.size ∧ i = .int .i64 (k : Int)) (fun i => q.size - (intOf i).toNat)
  case atStart => exact ⟨0, Nat.zero_le _, rfl⟩
  case round =>
    obtain ⟨k', hk, rfl⟩ := hrel
    by_cases hlt : k' < q.size
    · have g1 := HG.out k' hlt
      go_wp2
      go_round
      case rel => exact ⟨k' + 1, by omega, by go_num⟩
      case measure => simp [intOf]; omega
    · go_wp2_with fail
      refine (cY.out _ (HU.out.keeps K5.out)).mono ?_
      rintro e w6 ⟨rfl, k6⟩
      have K6 := Lib.hid (K5.out.trans k6)
      clear k6
      go_wp2
      go_ret
      exact RetQ.of (by first | rfl | (simp [ByteArray.toList_eq]; done) | simp) K6.out

end Go.Proofs.YtbhgfdgdbbfeoaaDoor
