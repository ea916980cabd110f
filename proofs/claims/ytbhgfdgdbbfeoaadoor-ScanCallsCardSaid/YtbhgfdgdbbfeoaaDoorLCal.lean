/-
  The walk of the statement on all calls of package scan.
-/
import Derived.Test.YtbhgfdgdbbfeoaaDoorRfj
import Derived.Test.YtbhgfdgdbbfeoaaDoorLNum
import Derived.Test.YtbhgfdgdbbfeoaaDoorPck
namespace Go.Proofs.YtbhgfdgdbbfeoaaDoor
open Go.RowKit

set_option maxHeartbeats 1000000 in
theorem cal_big (s : ByteArray) (n : Int) (w : World) (hs : 2000 < s.size) (hm : s.size ≤ maxLen) : Calls Tryd.prog 4 #[.string s, .int .i64 n] w (RetQ true w) := by
  have cL := Lib.hid (fun w1 => lives_any w1)
  unfold maxLen at hm
  have f1 : decide ((2000 : Int) < (s.size : Int)) = true := by simp; omega
  clear hs
  go_enter Tryd.func4, Tryd.ntmps4
  go_wp2_with fail
  refine (cL.out _).mono ?_
  rintro e w2 ⟨rfl, k2⟩
  go_wp2
  go_ret
  exact RetQ.of rfl k2

set_option maxHeartbeats 8000000 in
set_option maxRecDepth 100000 in
theorem cal_at (s : ByteArray) (n : Int) (A C P W : ByteArray) (e i g x j l q sp : Int) (v : Bool) (w : World) (hs : s.size ≤ 2000) (HU : Hid (Utf w)) (HT : Hid (Tab w))
    (c15 : Hid (∀ w1, Calls Tryd.prog 15 #[.string s] w1 (fun z w' => z = .returned (.tuple #[.string A, .int .i64 e]) ∧ Keeps w1 w')))
    (c16 : Hid (∀ w1, Calls Tryd.prog 16 #[.string s] w1 (fun z w' => z = .returned (.tuple #[.string A, .int .i64 e]) ∧ Keeps w1 w')))
    (c9 : Hid (∀ w1, Utf w1 → Calls Tryd.prog 9 #[.string s] w1 (fun z w' => z = .returned (.tuple #[.string C, .int .i64 i, .int .i64 g]) ∧ Keeps w1 w')))
    (c17 : Hid (∀ w1, Calls Tryd.prog 17 #[.string s] w1 (fun z w' => z = .returned (.tuple #[.string C, .int .i64 i, .int .i64 g]) ∧ Keeps w1 w')))
    (c10 : Hid (∀ w1, Calls Tryd.prog 10 #[.string s] w1 (fun z w' => z = .returned (.tuple #[.int .i64 x, .int .i64 j, .int .i64 l]) ∧ w' = w1)))
    (c18 : Hid (∀ w1, Calls Tryd.prog 18 #[.string s] w1 (fun z w' => z = .returned (.tuple #[.int .i64 x, .int .i64 j, .int .i64 l]) ∧ w' = w1)))
    (c19 : Hid (∀ w1, Tab w1 → Calls Tryd.prog 19 #[.int .i64 n] w1 (fun z w' => z = .returned (.tuple #[.string P, .int .i64 q]) ∧ Keeps w1 w')))
    (c20 : Hid (∀ w1, Calls Tryd.prog 20 #[.int .i64 n] w1 (fun z w' => z = .returned (.tuple #[.string P, .int .i64 q]) ∧ Keeps w1 w')))
    (c12 : Hid (∀ w1, Calls Tryd.prog 12 #[.string s] w1 (fun z w' => z = .returned (.int .i64 sp) ∧ w' = w1)))
    (c21 : Hid (∀ w1, Calls Tryd.prog 21 #[.string s] w1 (fun z w' => z = .returned (.int .i64 sp) ∧ w' = w1)))
    (c13 : Hid (∀ w1, Calls Tryd.prog 13 #[.string s] w1 (fun z w' => z = .returned (.string W) ∧ w' = w1)))
    (c22 : Hid (∀ w1, Calls Tryd.prog 22 #[.string s] w1 (fun z w' => z = .returned (.string W) ∧ Keeps w1 w')))
    (c14 : Hid (∀ w1, Calls Tryd.prog 14 #[.string s] w1 (fun z w' => z = .returned (.bool v) ∧ Keeps w1 w')))
    (c23 : Hid (∀ w1, Calls Tryd.prog 23 #[.string s] w1 (fun z w' => z = .returned (.bool v) ∧ Keeps w1 w'))) :
    Calls Tryd.prog 4 #[.string s, .int .i64 n] w (RetQ true w) := by
  have cL := Lib.hid (fun w1 => lives_any w1)
  have f1 : decide ((2000 : Int) < (s.size : Int)) = false := by simp; omega
  have K0 := Lib.hid (Keeps.refl w)
  go_enter Tryd.func4, Tryd.ntmps4
  go_wp2_with fail
  refine (cL.out _).mono ?_
  rintro e0 v0 ⟨rfl, h⟩
  have K1 := Lib.hid (Keeps.trans K0.out h)
  clear h
  go_wp2_with fail
  refine (c15.out _).mono ?_
  rintro e1 v1 ⟨rfl, h⟩
  have K2 := Lib.hid (Keeps.trans K1.out h)
  clear h
  go_wp2_with fail
  refine (c16.out _).mono ?_
  rintro e2 v2 ⟨rfl, h⟩
  have K3 := Lib.hid (Keeps.trans K2.out h)
  clear h
  go_wp2_with fail
  refine (c9.out _ (HU.out.keeps K3.out)).mono ?_
  rintro e3 v3 ⟨rfl, h⟩
  have K4 := Lib.hid (Keeps.trans K3.out h)
  clear h
  go_wp2_with fail
  refine (c17.out _).mono ?_
  rintro e4 v4 ⟨rfl, h⟩
  have K5 := Lib.hid (Keeps.trans K4.out h)
  clear h
  go_wp2_with fail
  refine (c10.out _).mono ?_
  rintro e5 v5 ⟨rfl, rfl⟩
  go_wp2_with fail
  refine (c18.out _).mono ?_
  rintro e6 v6 ⟨rfl, rfl⟩
  go_wp2_with fail
  refine (c19.out _ (HT.out.keeps K5.out)).mono ?_
  rintro e7 v7 ⟨rfl, h⟩
  have K8 := Lib.hid (Keeps.trans K5.out h)
  clear h
  go_wp2_with fail
  refine (c20.out _).mono ?_
  rintro e8 v8 ⟨rfl, h⟩
  have K9 := Lib.hid (Keeps.trans K8.out h)
  clear h
  go_wp2_with fail
  refine (c12.out _).mono ?_
  rintro e9 v9 ⟨rfl, rfl⟩
  go_wp2_with fail
  refine (c21.out _).mono ?_
  rintro e10 v10 ⟨rfl, rfl⟩
  go_wp2_with fail
  refine (c13.out _).mono ?_
  rintro e11 v11 ⟨rfl, rfl⟩
  go_wp2_with fail
  refine (c22.out _).mono ?_
  rintro e12 v12 ⟨rfl, h⟩
  have K13 := Lib.hid (Keeps.trans K9.out h)
  clear h
  go_wp2_with fail
  refine (c14.out _).mono ?_
  rintro e13 v13 ⟨rfl, h⟩
  have K14 := Lib.hid (Keeps.trans K13.out h)
  clear h
  go_wp2_with fail
  refine (c23.out _).mono ?_
  rintro e14 v14 ⟨rfl, h⟩
  have K15 := Lib.hid (Keeps.trans K14.out h)
  clear h
  go_wp2
  go_ret
  exact RetQ.of (by first | rfl | (simp; done)) K15.out

theorem calls_any (s : ByteArray) (n : Int) (w : World) (ms : s.size ≤ maxLen) (hn : (Lit.int .i64 n).wf = true) (hu : Utf w) (ht : Tab w) : Calls Tryd.prog 4 #[.string s, .int .i64 n] w (RetQ true w) := by
  obtain ⟨n0, n1⟩ := wf_i64 hn
  by_cases hs : 2000 < s.size
  · exact cal_big s n w hs ms
  have h2 : s.size ≤ 2000 := by omega
  exact cal_at s n _ _ _ _ _ _ _ _ _ _ _ _ _ w h2 (Lib.hid hu) (Lib.hid ht)
    (Lib.hid fun w1 => quote_any s w1 (by omega)) (Lib.hid fun w1 => rquo_any s w1 (by omega))
    (Lib.hid fun w1 h => unq_any s w1 h (by omega)) (Lib.hid fun w1 => runq_any s w1 (by omega))
    (Lib.hid fun w1 => rn_any s w1 (by omega)) (Lib.hid fun w1 => rrn_any s w1 (by omega))
    (Lib.hid fun w1 h => number_any n n0 n1 w1 h) (Lib.hid fun w1 => rnum_any n w1)
    (Lib.hid fun w1 => space_any s w1 (by omega)) (Lib.hid fun w1 => rspace_any s w1 (by omega))
    (Lib.hid fun w1 => word_any s w1) (Lib.hid fun w1 => rword_any s w1)
    (Lib.hid fun w1 => valid_any s w1 (by omega)) (Lib.hid fun w1 => rvalid_any s w1 (by omega))
end Go.Proofs.YtbhgfdgdbbfeoaaDoor
