/-
  More walks of the statement on normal forms of globs.
-/
import Derived.Test.YtolfpkjohlbfdaaDoorLNra
namespace Go.Proofs.YtolfpkjohlbfdaaDoor
open Go.RowKit

set_option maxHeartbeats 1000000 in
theorem nw_A0_ct (p n : ByteArray) (k : Nat) (w : World) (hp : p.size ≤ 300) (ht : p.size ≤ 300) (hn : n.size ≤ p.size) (hk : k ≤ p.size) (hk1 : k ≤ 1000)
    (cL : Hid (∀ w1, Calls Tryd.prog 9 #[] w1 (RetQ true w1)))
    (cF : Hid (∀ w1 : World, Calls Tryd.prog 15 #[.slice (some ⟨w1.heap.size, 0, none⟩) 2 2] (w1.alloc (two p p)) (RetQ true (w1.alloc (two p p)))))
    (cN : Hid (∀ w1, Calls Tryd.prog 10 #[.string p] w1 (fun e w' => e = .returned (.string n) ∧ Keeps w1 w')))
    (cO : Hid (∀ w1, Calls Tryd.prog 10 #[.string n] w1 (fun e w' => e = .returned (.string n) ∧ Keeps w1 w')))
    (cM : Hid (∀ w1, Calls Tryd.prog 13 #[.string p, .string p, .bool false] w1 (RetQ true w1)))
    (cR : Hid (∀ w1, Calls Tryd.prog 13 #[.string n, .string p, .bool false] w1 (RetQ true w1)))
    (cK : Hid (∀ w1, Calls Tryd.prog 11 #[.string p] w1 (fun e w' => e = .returned (.int .i64 (k : Int)) ∧ w' = w1)))
    (cJ : Hid (∀ w1, Calls Tryd.prog 11 #[.string n] w1 (fun e w' => e = .returned (.int .i64 (k : Int)) ∧ w' = w1)))
    (cI : Hid (∀ w1, Calls Tryd.prog 8 #[.string p] w1 (RetL ⟨#[]⟩ false w1))) :
    Calls Tryd.prog 5 #[.string p, .string p, .bool false] w (RetQ true w) := by
  have h0 := none_empty
  go_enter Tryd.func5, Tryd.ntmps5
  go_wp2_with fail
  refine (cL.out _).mono ?_
  rintro e w2 ⟨rfl, h⟩
  have K2 := Lib.hid h
  clear h
  go_wp2_with fail
  refine (cF.out w2).mono ?_
  rintro e w3 ⟨rfl, h⟩
  have K3 := Lib.hid ((K2.out.alloc _).trans h)
  clear h
  go_wp2_with fail
  refine (cN.out _).mono ?_
  rintro e w4 ⟨rfl, h⟩
  have K4 := Lib.hid (K3.out.trans h)
  clear h
  go_wp2_with fail
  refine (cM.out _).mono ?_
  rintro e w5 ⟨rfl, h⟩
  have K5 := Lib.hid (K4.out.trans h)
  clear h
  go_wp2_with fail
  refine (cO.out _).mono ?_
  rintro e w6 ⟨rfl, h⟩
  have K6 := Lib.hid (K5.out.trans h)
  clear h
  go_wp2_with fail
  refine (cJ.out _).mono ?_
  rintro e wx ⟨rfl, rfl⟩
  go_wp2_with fail
  refine (cK.out _).mono ?_
  rintro e wx ⟨rfl, rfl⟩
  go_wp2_with fail
  refine (cR.out _).mono ?_
  rintro e w7 ⟨rfl, h⟩
  have K7 := Lib.hid (K6.out.trans h)
  clear h
  go_wp2_with fail
  refine (cK.out _).mono ?_
  rintro e wx ⟨rfl, rfl⟩
  go_wp2_with fail
  refine (cI.out _).mono ?_
  rintro e w8 ⟨rfl, h⟩
  have K8 := Lib.hid (K7.out.trans h)
  clear h
  go_wp2
  go_ret
  exact RetQ.of (by first | rfl | simp | simp_all) K8.out

set_option maxHeartbeats 1000000 in
theorem nw_A0_cf (p n : ByteArray) (k : Nat) (w : World) (hp : p.size ≤ 300) (ht : p.size ≤ 300) (hn : n.size ≤ p.size) (hk1 : k ≤ 1000)
    (cL : Hid (∀ w1, Calls Tryd.prog 9 #[] w1 (RetQ true w1)))
    (cF : Hid (∀ w1 : World, Calls Tryd.prog 15 #[.slice (some ⟨w1.heap.size, 0, none⟩) 2 2] (w1.alloc (two p p)) (RetQ true (w1.alloc (two p p)))))
    (cN : Hid (∀ w1, Calls Tryd.prog 10 #[.string p] w1 (fun e w' => e = .returned (.string n) ∧ Keeps w1 w')))
    (cO : Hid (∀ w1, Calls Tryd.prog 10 #[.string n] w1 (fun e w' => e = .returned (.string n) ∧ Keeps w1 w')))
    (cM : Hid (∀ w1, Calls Tryd.prog 13 #[.string p, .string p, .bool false] w1 (RetQ false w1)))
    (cR : Hid (∀ w1, Calls Tryd.prog 13 #[.string n, .string p, .bool false] w1 (RetQ false w1)))
    (cK : Hid (∀ w1, Calls Tryd.prog 11 #[.string p] w1 (fun e w' => e = .returned (.int .i64 (k : Int)) ∧ w' = w1)))
    (cJ : Hid (∀ w1, Calls Tryd.prog 11 #[.string n] w1 (fun e w' => e = .returned (.int .i64 (k : Int)) ∧ w' = w1)))
    (cI : Hid (∀ w1, Calls Tryd.prog 8 #[.string p] w1 (RetL ⟨#[]⟩ false w1))) :
    Calls Tryd.prog 5 #[.string p, .string p, .bool false] w (RetQ true w) := by
  have h0 := none_empty
  go_enter Tryd.func5, Tryd.ntmps5
  go_wp2_with fail
  refine (cL.out _).mono ?_
  rintro e w2 ⟨rfl, h⟩
  have K2 := Lib.hid h
  clear h
  go_wp2_with fail
  refine (cF.out w2).mono ?_
  rintro e w3 ⟨rfl, h⟩
  have K3 := Lib.hid ((K2.out.alloc _).trans h)
  clear h
  go_wp2_with fail
  refine (cN.out _).mono ?_
  rintro e w4 ⟨rfl, h⟩
  have K4 := Lib.hid (K3.out.trans h)
  clear h
  go_wp2_with fail
  refine (cM.out _).mono ?_
  rintro e w5 ⟨rfl, h⟩
  have K5 := Lib.hid (K4.out.trans h)
  clear h
  go_wp2_with fail
  refine (cO.out _).mono ?_
  rintro e w6 ⟨rfl, h⟩
  have K6 := Lib.hid (K5.out.trans h)
  clear h
  go_wp2_with fail
  refine (cJ.out _).mono ?_
  rintro e wx ⟨rfl, rfl⟩
  go_wp2_with fail
  refine (cK.out _).mono ?_
  rintro e wx ⟨rfl, rfl⟩
  go_wp2_with fail
  refine (cR.out _).mono ?_
  rintro e w7 ⟨rfl, h⟩
  have K7 := Lib.hid (K6.out.trans h)
  clear h
  go_wp2_with fail
  refine (cI.out _).mono ?_
  rintro e w8 ⟨rfl, h⟩
  have K8 := Lib.hid (K7.out.trans h)
  clear h
  go_wp2
  go_ret
  exact RetQ.of (by first | rfl | simp | simp_all) K8.out

set_option maxHeartbeats 1000000 in
theorem nw_A0_lt (p n : ByteArray) (k : Nat) (w : World) (hp : p.size ≤ 300) (ht : p.size ≤ 300) (hn : n.size ≤ p.size) (hk : k ≤ p.size) (hk1 : k ≤ 1000)
    (cL : Hid (∀ w1, Calls Tryd.prog 9 #[] w1 (RetQ true w1)))
    (cF : Hid (∀ w1 : World, Calls Tryd.prog 15 #[.slice (some ⟨w1.heap.size, 0, none⟩) 2 2] (w1.alloc (two p p)) (RetQ true (w1.alloc (two p p)))))
    (cN : Hid (∀ w1, Calls Tryd.prog 10 #[.string p] w1 (fun e w' => e = .returned (.string n) ∧ Keeps w1 w')))
    (cO : Hid (∀ w1, Calls Tryd.prog 10 #[.string n] w1 (fun e w' => e = .returned (.string n) ∧ Keeps w1 w')))
    (cM : Hid (∀ w1, Calls Tryd.prog 13 #[.string p, .string p, .bool false] w1 (RetQ true w1)))
    (cR : Hid (∀ w1, Calls Tryd.prog 13 #[.string n, .string p, .bool false] w1 (RetQ true w1)))
    (cK : Hid (∀ w1, Calls Tryd.prog 11 #[.string p] w1 (fun e w' => e = .returned (.int .i64 (k : Int)) ∧ w' = w1)))
    (cJ : Hid (∀ w1, Calls Tryd.prog 11 #[.string n] w1 (fun e w' => e = .returned (.int .i64 (k : Int)) ∧ w' = w1)))
    (cI : Hid (∀ w1, Calls Tryd.prog 8 #[.string p] w1 (RetL p true w1))) :
    Calls Tryd.prog 5 #[.string p, .string p, .bool false] w (RetQ true w) := by
  have h0 := none_empty
  go_enter Tryd.func5, Tryd.ntmps5
  go_wp2_with fail
  refine (cL.out _).mono ?_
  rintro e w2 ⟨rfl, h⟩
  have K2 := Lib.hid h
  clear h
  go_wp2_with fail
  refine (cF.out w2).mono ?_
  rintro e w3 ⟨rfl, h⟩
  have K3 := Lib.hid ((K2.out.alloc _).trans h)
  clear h
  go_wp2_with fail
  refine (cN.out _).mono ?_
  rintro e w4 ⟨rfl, h⟩
  have K4 := Lib.hid (K3.out.trans h)
  clear h
  go_wp2_with fail
  refine (cM.out _).mono ?_
  rintro e w5 ⟨rfl, h⟩
  have K5 := Lib.hid (K4.out.trans h)
  clear h
  go_wp2_with fail
  refine (cO.out _).mono ?_
  rintro e w6 ⟨rfl, h⟩
  have K6 := Lib.hid (K5.out.trans h)
  clear h
  go_wp2_with fail
  refine (cJ.out _).mono ?_
  rintro e wx ⟨rfl, rfl⟩
  go_wp2_with fail
  refine (cK.out _).mono ?_
  rintro e wx ⟨rfl, rfl⟩
  go_wp2_with fail
  refine (cR.out _).mono ?_
  rintro e w7 ⟨rfl, h⟩
  have K7 := Lib.hid (K6.out.trans h)
  clear h
  go_wp2_with fail
  refine (cK.out _).mono ?_
  rintro e wx ⟨rfl, rfl⟩
  go_wp2_with fail
  refine (cI.out _).mono ?_
  rintro e w8 ⟨rfl, h⟩
  have K8 := Lib.hid (K7.out.trans h)
  clear h
  go_wp2
  go_ret
  exact RetQ.of (by first | rfl | simp | simp_all) K8.out

set_option maxHeartbeats 1000000 in
theorem nw_A1_ct (p n : ByteArray) (k : Nat) (w : World) (hp : p.size ≤ 300) (ht : p.size ≤ 300) (hn : n.size ≤ p.size) (hk : k ≤ p.size) (hk1 : k ≤ 1000)
    (cL : Hid (∀ w1, Calls Tryd.prog 9 #[] w1 (RetQ true w1)))
    (cF : Hid (∀ w1 : World, Calls Tryd.prog 15 #[.slice (some ⟨w1.heap.size, 0, none⟩) 2 2] (w1.alloc (two p p)) (RetQ true (w1.alloc (two p p)))))
    (cN : Hid (∀ w1, Calls Tryd.prog 10 #[.string p] w1 (fun e w' => e = .returned (.string n) ∧ Keeps w1 w')))
    (cO : Hid (∀ w1, Calls Tryd.prog 10 #[.string n] w1 (fun e w' => e = .returned (.string n) ∧ Keeps w1 w')))
    (cM : Hid (∀ w1, Calls Tryd.prog 13 #[.string p, .string p, .bool true] w1 (RetQ true w1)))
    (cR : Hid (∀ w1, Calls Tryd.prog 13 #[.string n, .string p, .bool true] w1 (RetQ true w1)))
    (cK : Hid (∀ w1, Calls Tryd.prog 11 #[.string p] w1 (fun e w' => e = .returned (.int .i64 (k : Int)) ∧ w' = w1)))
    (cJ : Hid (∀ w1, Calls Tryd.prog 11 #[.string n] w1 (fun e w' => e = .returned (.int .i64 (k : Int)) ∧ w' = w1)))
    (cI : Hid (∀ w1, Calls Tryd.prog 8 #[.string p] w1 (RetL ⟨#[]⟩ false w1))) :
    Calls Tryd.prog 5 #[.string p, .string p, .bool true] w (RetQ true w) := by
  have h0 := none_empty
  go_enter Tryd.func5, Tryd.ntmps5
  go_wp2_with fail
  refine (cL.out _).mono ?_
  rintro e w2 ⟨rfl, h⟩
  have K2 := Lib.hid h
  clear h
  go_wp2_with fail
  refine (cF.out w2).mono ?_
  rintro e w3 ⟨rfl, h⟩
  have K3 := Lib.hid ((K2.out.alloc _).trans h)
  clear h
  go_wp2_with fail
  refine (cN.out _).mono ?_
  rintro e w4 ⟨rfl, h⟩
  have K4 := Lib.hid (K3.out.trans h)
  clear h
  go_wp2_with fail
  refine (cM.out _).mono ?_
  rintro e w5 ⟨rfl, h⟩
  have K5 := Lib.hid (K4.out.trans h)
  clear h
  go_wp2_with fail
  refine (cO.out _).mono ?_
  rintro e w6 ⟨rfl, h⟩
  have K6 := Lib.hid (K5.out.trans h)
  clear h
  go_wp2_with fail
  refine (cJ.out _).mono ?_
  rintro e wx ⟨rfl, rfl⟩
  go_wp2_with fail
  refine (cK.out _).mono ?_
  rintro e wx ⟨rfl, rfl⟩
  go_wp2_with fail
  refine (cR.out _).mono ?_
  rintro e w7 ⟨rfl, h⟩
  have K7 := Lib.hid (K6.out.trans h)
  clear h
  go_wp2_with fail
  refine (cK.out _).mono ?_
  rintro e wx ⟨rfl, rfl⟩
  go_wp2_with fail
  refine (cI.out _).mono ?_
  rintro e w8 ⟨rfl, h⟩
  have K8 := Lib.hid (K7.out.trans h)
  clear h
  go_wp2
  go_ret
  exact RetQ.of (by first | rfl | simp | simp_all) K8.out

set_option maxHeartbeats 1000000 in
theorem nw_A1_cf (p n : ByteArray) (k : Nat) (w : World) (hp : p.size ≤ 300) (ht : p.size ≤ 300) (hn : n.size ≤ p.size) (hk1 : k ≤ 1000)
    (cL : Hid (∀ w1, Calls Tryd.prog 9 #[] w1 (RetQ true w1)))
    (cF : Hid (∀ w1 : World, Calls Tryd.prog 15 #[.slice (some ⟨w1.heap.size, 0, none⟩) 2 2] (w1.alloc (two p p)) (RetQ true (w1.alloc (two p p)))))
    (cN : Hid (∀ w1, Calls Tryd.prog 10 #[.string p] w1 (fun e w' => e = .returned (.string n) ∧ Keeps w1 w')))
    (cO : Hid (∀ w1, Calls Tryd.prog 10 #[.string n] w1 (fun e w' => e = .returned (.string n) ∧ Keeps w1 w')))
    (cM : Hid (∀ w1, Calls Tryd.prog 13 #[.string p, .string p, .bool true] w1 (RetQ false w1)))
    (cR : Hid (∀ w1, Calls Tryd.prog 13 #[.string n, .string p, .bool true] w1 (RetQ false w1)))
    (cK : Hid (∀ w1, Calls Tryd.prog 11 #[.string p] w1 (fun e w' => e = .returned (.int .i64 (k : Int)) ∧ w' = w1)))
    (cJ : Hid (∀ w1, Calls Tryd.prog 11 #[.string n] w1 (fun e w' => e = .returned (.int .i64 (k : Int)) ∧ w' = w1)))
    (cI : Hid (∀ w1, Calls Tryd.prog 8 #[.string p] w1 (RetL ⟨#[]⟩ false w1))) :
    Calls Tryd.prog 5 #[.string p, .string p, .bool true] w (RetQ true w) := by
  have h0 := none_empty
  go_enter Tryd.func5, Tryd.ntmps5
  go_wp2_with fail
  refine (cL.out _).mono ?_
  rintro e w2 ⟨rfl, h⟩
  have K2 := Lib.hid h
  clear h
  go_wp2_with fail
  refine (cF.out w2).mono ?_
  rintro e w3 ⟨rfl, h⟩
  have K3 := Lib.hid ((K2.out.alloc _).trans h)
  clear h
  go_wp2_with fail
  refine (cN.out _).mono ?_
  rintro e w4 ⟨rfl, h⟩
  have K4 := Lib.hid (K3.out.trans h)
  clear h
  go_wp2_with fail
  refine (cM.out _).mono ?_
  rintro e w5 ⟨rfl, h⟩
  have K5 := Lib.hid (K4.out.trans h)
  clear h
  go_wp2_with fail
  refine (cO.out _).mono ?_
  rintro e w6 ⟨rfl, h⟩
  have K6 := Lib.hid (K5.out.trans h)
  clear h
  go_wp2_with fail
  refine (cJ.out _).mono ?_
  rintro e wx ⟨rfl, rfl⟩
  go_wp2_with fail
  refine (cK.out _).mono ?_
  rintro e wx ⟨rfl, rfl⟩
  go_wp2_with fail
  refine (cR.out _).mono ?_
  rintro e w7 ⟨rfl, h⟩
  have K7 := Lib.hid (K6.out.trans h)
  clear h
  go_wp2_with fail
  refine (cI.out _).mono ?_
  rintro e w8 ⟨rfl, h⟩
  have K8 := Lib.hid (K7.out.trans h)
  clear h
  go_wp2
  go_ret
  exact RetQ.of (by first | rfl | simp | simp_all) K8.out

set_option maxHeartbeats 1000000 in
theorem nw_A1_lt (p n : ByteArray) (k : Nat) (w : World) (hp : p.size ≤ 300) (ht : p.size ≤ 300) (hn : n.size ≤ p.size) (hk : k ≤ p.size) (hk1 : k ≤ 1000)
    (cL : Hid (∀ w1, Calls Tryd.prog 9 #[] w1 (RetQ true w1)))
    (cF : Hid (∀ w1 : World, Calls Tryd.prog 15 #[.slice (some ⟨w1.heap.size, 0, none⟩) 2 2] (w1.alloc (two p p)) (RetQ true (w1.alloc (two p p)))))
    (cN : Hid (∀ w1, Calls Tryd.prog 10 #[.string p] w1 (fun e w' => e = .returned (.string n) ∧ Keeps w1 w')))
    (cO : Hid (∀ w1, Calls Tryd.prog 10 #[.string n] w1 (fun e w' => e = .returned (.string n) ∧ Keeps w1 w')))
    (cM : Hid (∀ w1, Calls Tryd.prog 13 #[.string p, .string p, .bool true] w1 (RetQ true w1)))
    (cR : Hid (∀ w1, Calls Tryd.prog 13 #[.string n, .string p, .bool true] w1 (RetQ true w1)))
    (cK : Hid (∀ w1, Calls Tryd.prog 11 #[.string p] w1 (fun e w' => e = .returned (.int .i64 (k : Int)) ∧ w' = w1)))
    (cJ : Hid (∀ w1, Calls Tryd.prog 11 #[.string n] w1 (fun e w' => e = .returned (.int .i64 (k : Int)) ∧ w' = w1)))
    (cI : Hid (∀ w1, Calls Tryd.prog 8 #[.string p] w1 (RetL p true w1))) :
    Calls Tryd.prog 5 #[.string p, .string p, .bool true] w (RetQ true w) := by
  have h0 := none_empty
  go_enter Tryd.func5, Tryd.ntmps5
  go_wp2_with fail
  refine (cL.out _).mono ?_
  rintro e w2 ⟨rfl, h⟩
  have K2 := Lib.hid h
  clear h
  go_wp2_with fail
  refine (cF.out w2).mono ?_
  rintro e w3 ⟨rfl, h⟩
  have K3 := Lib.hid ((K2.out.alloc _).trans h)
  clear h
  go_wp2_with fail
  refine (cN.out _).mono ?_
  rintro e w4 ⟨rfl, h⟩
  have K4 := Lib.hid (K3.out.trans h)
  clear h
  go_wp2_with fail
  refine (cM.out _).mono ?_
  rintro e w5 ⟨rfl, h⟩
  have K5 := Lib.hid (K4.out.trans h)
  clear h
  go_wp2_with fail
  refine (cO.out _).mono ?_
  rintro e w6 ⟨rfl, h⟩
  have K6 := Lib.hid (K5.out.trans h)
  clear h
  go_wp2_with fail
  refine (cJ.out _).mono ?_
  rintro e wx ⟨rfl, rfl⟩
  go_wp2_with fail
  refine (cK.out _).mono ?_
  rintro e wx ⟨rfl, rfl⟩
  go_wp2_with fail
  refine (cR.out _).mono ?_
  rintro e w7 ⟨rfl, h⟩
  have K7 := Lib.hid (K6.out.trans h)
  clear h
  go_wp2_with fail
  refine (cK.out _).mono ?_
  rintro e wx ⟨rfl, rfl⟩
  go_wp2_with fail
  refine (cI.out _).mono ?_
  rintro e w8 ⟨rfl, h⟩
  have K8 := Lib.hid (K7.out.trans h)
  clear h
  go_wp2
  go_ret
  exact RetQ.of (by first | rfl | simp | simp_all) K8.out

set_option maxHeartbeats 1000000 in
theorem nw_B_ct (p t n : ByteArray) (k : Nat) (w : World) (hp : p.size ≤ 300) (ht : t.size ≤ 300) (hn : n.size ≤ p.size) (hpt : ¬ p.toList = t.toList) (hpu : (p.toList == t.toList) = false) (hk : k ≤ t.size) (hk1 : k ≤ 1000)
    (cL : Hid (∀ w1, Calls Tryd.prog 9 #[] w1 (RetQ true w1)))
    (cF : Hid (∀ w1 : World, Calls Tryd.prog 15 #[.slice (some ⟨w1.heap.size, 0, none⟩) 2 2] (w1.alloc (two p t)) (RetQ true (w1.alloc (two p t)))))
    (cN : Hid (∀ w1, Calls Tryd.prog 10 #[.string p] w1 (fun e w' => e = .returned (.string n) ∧ Keeps w1 w')))
    (cO : Hid (∀ w1, Calls Tryd.prog 10 #[.string n] w1 (fun e w' => e = .returned (.string n) ∧ Keeps w1 w')))
    (cM : Hid (∀ w1, Calls Tryd.prog 13 #[.string p, .string t, .bool false] w1 (RetQ true w1)))
    (cR : Hid (∀ w1, Calls Tryd.prog 13 #[.string n, .string t, .bool false] w1 (RetQ true w1)))
    (cK : Hid (∀ w1, Calls Tryd.prog 11 #[.string p] w1 (fun e w' => e = .returned (.int .i64 (k : Int)) ∧ w' = w1)))
    (cJ : Hid (∀ w1, Calls Tryd.prog 11 #[.string n] w1 (fun e w' => e = .returned (.int .i64 (k : Int)) ∧ w' = w1)))
    (cI : Hid (∀ w1, Calls Tryd.prog 8 #[.string p] w1 (RetL ⟨#[]⟩ false w1))) :
    Calls Tryd.prog 5 #[.string p, .string t, .bool false] w (RetQ true w) := by
  have h0 := none_empty
  go_enter Tryd.func5, Tryd.ntmps5
  go_wp2_with fail
  refine (cL.out _).mono ?_
  rintro e w2 ⟨rfl, h⟩
  have K2 := Lib.hid h
  clear h
  go_wp2_with fail
  refine (cF.out w2).mono ?_
  rintro e w3 ⟨rfl, h⟩
  have K3 := Lib.hid ((K2.out.alloc _).trans h)
  clear h
  go_wp2_with fail
  refine (cN.out _).mono ?_
  rintro e w4 ⟨rfl, h⟩
  have K4 := Lib.hid (K3.out.trans h)
  clear h
  go_wp2_with fail
  refine (cM.out _).mono ?_
  rintro e w5 ⟨rfl, h⟩
  have K5 := Lib.hid (K4.out.trans h)
  clear h
  go_wp2_with fail
  refine (cO.out _).mono ?_
  rintro e w6 ⟨rfl, h⟩
  have K6 := Lib.hid (K5.out.trans h)
  clear h
  go_wp2_with fail
  refine (cJ.out _).mono ?_
  rintro e wx ⟨rfl, rfl⟩
  go_wp2_with fail
  refine (cK.out _).mono ?_
  rintro e wx ⟨rfl, rfl⟩
  go_wp2_with fail
  refine (cR.out _).mono ?_
  rintro e w7 ⟨rfl, h⟩
  have K7 := Lib.hid (K6.out.trans h)
  clear h
  go_wp2_with fail
  refine (cK.out _).mono ?_
  rintro e wx ⟨rfl, rfl⟩
  go_wp2_with fail
  refine (cI.out _).mono ?_
  rintro e w8 ⟨rfl, h⟩
  have K8 := Lib.hid (K7.out.trans h)
  clear h
  go_wp2
  go_ret
  exact RetQ.of (by first | rfl | simp | simp_all) K8.out

set_option maxHeartbeats 1000000 in
theorem nw_B_cf (p t n : ByteArray) (k : Nat) (w : World) (hp : p.size ≤ 300) (ht : t.size ≤ 300) (hn : n.size ≤ p.size) (hpt : ¬ p.toList = t.toList) (hpu : (p.toList == t.toList) = false) (hk1 : k ≤ 1000)
    (cL : Hid (∀ w1, Calls Tryd.prog 9 #[] w1 (RetQ true w1)))
    (cF : Hid (∀ w1 : World, Calls Tryd.prog 15 #[.slice (some ⟨w1.heap.size, 0, none⟩) 2 2] (w1.alloc (two p t)) (RetQ true (w1.alloc (two p t)))))
    (cN : Hid (∀ w1, Calls Tryd.prog 10 #[.string p] w1 (fun e w' => e = .returned (.string n) ∧ Keeps w1 w')))
    (cO : Hid (∀ w1, Calls Tryd.prog 10 #[.string n] w1 (fun e w' => e = .returned (.string n) ∧ Keeps w1 w')))
    (cM : Hid (∀ w1, Calls Tryd.prog 13 #[.string p, .string t, .bool false] w1 (RetQ false w1)))
    (cR : Hid (∀ w1, Calls Tryd.prog 13 #[.string n, .string t, .bool false] w1 (RetQ false w1)))
    (cK : Hid (∀ w1, Calls Tryd.prog 11 #[.string p] w1 (fun e w' => e = .returned (.int .i64 (k : Int)) ∧ w' = w1)))
    (cJ : Hid (∀ w1, Calls Tryd.prog 11 #[.string n] w1 (fun e w' => e = .returned (.int .i64 (k : Int)) ∧ w' = w1)))
    (cI : Hid (∀ w1, Calls Tryd.prog 8 #[.string p] w1 (RetL ⟨#[]⟩ false w1))) :
    Calls Tryd.prog 5 #[.string p, .string t, .bool false] w (RetQ true w) := by
  have h0 := none_empty
  go_enter Tryd.func5, Tryd.ntmps5
  go_wp2_with fail
  refine (cL.out _).mono ?_
  rintro e w2 ⟨rfl, h⟩
  have K2 := Lib.hid h
  clear h
  go_wp2_with fail
  refine (cF.out w2).mono ?_
  rintro e w3 ⟨rfl, h⟩
  have K3 := Lib.hid ((K2.out.alloc _).trans h)
  clear h
  go_wp2_with fail
  refine (cN.out _).mono ?_
  rintro e w4 ⟨rfl, h⟩
  have K4 := Lib.hid (K3.out.trans h)
  clear h
  go_wp2_with fail
  refine (cM.out _).mono ?_
  rintro e w5 ⟨rfl, h⟩
  have K5 := Lib.hid (K4.out.trans h)
  clear h
  go_wp2_with fail
  refine (cO.out _).mono ?_
  rintro e w6 ⟨rfl, h⟩
  have K6 := Lib.hid (K5.out.trans h)
  clear h
  go_wp2_with fail
  refine (cJ.out _).mono ?_
  rintro e wx ⟨rfl, rfl⟩
  go_wp2_with fail
  refine (cK.out _).mono ?_
  rintro e wx ⟨rfl, rfl⟩
  go_wp2_with fail
  refine (cR.out _).mono ?_
  rintro e w7 ⟨rfl, h⟩
  have K7 := Lib.hid (K6.out.trans h)
  clear h
  go_wp2_with fail
  refine (cI.out _).mono ?_
  rintro e w8 ⟨rfl, h⟩
  have K8 := Lib.hid (K7.out.trans h)
  clear h
  go_wp2
  go_ret
  exact RetQ.of (by first | rfl | simp | simp_all) K8.out

set_option maxHeartbeats 1000000 in
theorem nw_B_lf (p t n : ByteArray) (k : Nat) (w : World) (hp : p.size ≤ 300) (ht : t.size ≤ 300) (hn : n.size ≤ p.size) (hpt : ¬ p.toList = t.toList) (hpu : (p.toList == t.toList) = false) (hk1 : k ≤ 1000)
    (cL : Hid (∀ w1, Calls Tryd.prog 9 #[] w1 (RetQ true w1)))
    (cF : Hid (∀ w1 : World, Calls Tryd.prog 15 #[.slice (some ⟨w1.heap.size, 0, none⟩) 2 2] (w1.alloc (two p t)) (RetQ true (w1.alloc (two p t)))))
    (cN : Hid (∀ w1, Calls Tryd.prog 10 #[.string p] w1 (fun e w' => e = .returned (.string n) ∧ Keeps w1 w')))
    (cO : Hid (∀ w1, Calls Tryd.prog 10 #[.string n] w1 (fun e w' => e = .returned (.string n) ∧ Keeps w1 w')))
    (cM : Hid (∀ w1, Calls Tryd.prog 13 #[.string p, .string t, .bool false] w1 (RetQ false w1)))
    (cR : Hid (∀ w1, Calls Tryd.prog 13 #[.string n, .string t, .bool false] w1 (RetQ false w1)))
    (cK : Hid (∀ w1, Calls Tryd.prog 11 #[.string p] w1 (fun e w' => e = .returned (.int .i64 (k : Int)) ∧ w' = w1)))
    (cJ : Hid (∀ w1, Calls Tryd.prog 11 #[.string n] w1 (fun e w' => e = .returned (.int .i64 (k : Int)) ∧ w' = w1)))
    (cI : Hid (∀ w1, Calls Tryd.prog 8 #[.string p] w1 (RetL p true w1))) :
    Calls Tryd.prog 5 #[.string p, .string t, .bool false] w (RetQ true w) := by
  have h0 := none_empty
  go_enter Tryd.func5, Tryd.ntmps5
  go_wp2_with fail
  refine (cL.out _).mono ?_
  rintro e w2 ⟨rfl, h⟩
  have K2 := Lib.hid h
  clear h
  go_wp2_with fail
  refine (cF.out w2).mono ?_
  rintro e w3 ⟨rfl, h⟩
  have K3 := Lib.hid ((K2.out.alloc _).trans h)
  clear h
  go_wp2_with fail
  refine (cN.out _).mono ?_
  rintro e w4 ⟨rfl, h⟩
  have K4 := Lib.hid (K3.out.trans h)
  clear h
  go_wp2_with fail
  refine (cM.out _).mono ?_
  rintro e w5 ⟨rfl, h⟩
  have K5 := Lib.hid (K4.out.trans h)
  clear h
  go_wp2_with fail
  refine (cO.out _).mono ?_
  rintro e w6 ⟨rfl, h⟩
  have K6 := Lib.hid (K5.out.trans h)
  clear h
  go_wp2_with fail
  refine (cJ.out _).mono ?_
  rintro e wx ⟨rfl, rfl⟩
  go_wp2_with fail
  refine (cK.out _).mono ?_
  rintro e wx ⟨rfl, rfl⟩
  go_wp2_with fail
  refine (cR.out _).mono ?_
  rintro e w7 ⟨rfl, h⟩
  have K7 := Lib.hid (K6.out.trans h)
  clear h
  go_wp2_with fail
  refine (cI.out _).mono ?_
  rintro e w8 ⟨rfl, h⟩
  have K8 := Lib.hid (K7.out.trans h)
  clear h
  go_wp2
  go_ret
  exact RetQ.of (by first | rfl | simp | simp_all) K8.out
end Go.Proofs.YtolfpkjohlbfdaaDoor
