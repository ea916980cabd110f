/-
  The walk of the statement on calls of package glob.
-/
import Derived.Test.YtolfpkjohlbfdaaDoorLNra
import Derived.Test.YtolfpkjohlbfdaaDoorGrb
import Derived.Test.YtolfpkjohlbfdaaDoorGrc
import Derived.Test.YtolfpkjohlbfdaaDoorGre
namespace Go.Proofs.YtolfpkjohlbfdaaDoor
open Go.RowKit

set_option maxHeartbeats 1000000 in
theorem calls_big (p t : ByteArray) (fo : Bool) (w : World) (hp : p.size ≤ maxLen) (ht : t.size ≤ maxLen) (g : light2 p t = false) :
    Calls Tryd.prog 4 #[.string p, .string t, .bool fo] w (RetQ true w) := by
  have cL := Lib.hid (fun w => lives_any w)
  have cF : Hid (∀ w1 : World, Calls Tryd.prog 15 #[.slice (some ⟨w1.heap.size, 0, none⟩) 2 2] (w1.alloc (two p t)) (RetQ false (w1.alloc (two p t)))) := Lib.hid (fun w1 => by rw [← g]; exact light_two p t w1 hp ht)
  clear hp ht g
  go_enter Tryd.func4, Tryd.ntmps4
  go_wp2_with fail
  refine (cL.out _).mono ?_
  rintro e w2 ⟨rfl, h⟩
  have K2 := Lib.hid h
  clear h
  go_wp2_with fail
  refine (cF.out w2).mono ?_
  rintro e w3 ⟨rfl, h⟩
  have k3 := (K2.out.alloc _).trans h
  clear h
  go_wp2
  go_ret
  exact RetQ.of rfl k3

set_option maxHeartbeats 2000000 in
theorem calls_at (p t n a f : ByteArray) (k : Nat) (c : Int) (is m fo : Bool) (w : World) (hp : p.size ≤ 300) (ht : t.size ≤ 300) (hk : k ≤ 1000)
    (cL : Hid (∀ w1, Calls Tryd.prog 9 #[] w1 (RetQ true w1)))
    (cF : Hid (∀ w1 : World, Calls Tryd.prog 15 #[.slice (some ⟨w1.heap.size, 0, none⟩) 2 2] (w1.alloc (two p t)) (RetQ true (w1.alloc (two p t)))))
    (cI : Hid (∀ w1, Calls Tryd.prog 8 #[.string p] w1 (RetL a is w1)))
    (rI : Hid (∀ w1, Calls Tryd.prog 16 #[.string p] w1 (RetL a is w1)))
    (cC : Hid (∀ w1, Calls Tryd.prog 12 #[.string p] w1 (RetI c w1)))
    (rC : Hid (∀ w1, Calls Tryd.prog 17 #[.string p] w1 (RetI c w1)))
    (cM : Hid (∀ w1, Calls Tryd.prog 13 #[.string p, .string t, .bool fo] w1 (RetQ m w1)))
    (rM : Hid (∀ w1, Calls Tryd.prog 18 #[.string p, .string t, .bool fo] w1 (RetQ m w1)))
    (cN : Hid (∀ w1, Calls Tryd.prog 10 #[.string p] w1 (fun e w' => e = .returned (.string n) ∧ Keeps w1 w')))
    (rN : Hid (∀ w1, Calls Tryd.prog 19 #[.string p] w1 (fun e w' => e = .returned (.string n) ∧ Keeps w1 w')))
    (cK : Hid (∀ w1, Calls Tryd.prog 11 #[.string p] w1 (fun e w' => e = .returned (.int .i64 (k : Int)) ∧ w' = w1)))
    (rK : Hid (∀ w1, Calls Tryd.prog 20 #[.string p] w1 (fun e w' => e = .returned (.int .i64 (k : Int)) ∧ w' = w1)))
    (cB : Hid (∀ w1, Calls Tryd.prog 14 #[.string t] w1 (fun e w' => e = .returned (.string f) ∧ Keeps w1 w')))
    (rB : Hid (∀ w1, Calls Tryd.prog 21 #[.string t] w1 (fun e w' => e = .returned (.string f) ∧ Keeps w1 w'))) :
    Calls Tryd.prog 4 #[.string p, .string t, .bool fo] w (RetQ true w) := by
  go_enter Tryd.func4, Tryd.ntmps4
  go_wp2_with fail
  refine (cL.out _).mono ?_
  rintro e w2 ⟨rfl, h⟩
  have K2 := Lib.hid (h)
  clear h
  go_wp2_with fail
  refine (cF.out w2).mono ?_
  rintro e w3 ⟨rfl, h⟩
  have K3 := Lib.hid ((K2.out.alloc _).trans h)
  clear h
  go_wp2_with fail
  refine (cI.out _).mono ?_
  rintro e w4 ⟨rfl, h⟩
  have K4 := Lib.hid (K3.out.trans h)
  clear h
  go_wp2_with fail
  refine (rI.out _).mono ?_
  rintro e w5 ⟨rfl, h⟩
  have K5 := Lib.hid (K4.out.trans h)
  clear h
  go_wp2_with fail
  refine (cC.out _).mono ?_
  rintro e w6 ⟨rfl, h⟩
  have K6 := Lib.hid (K5.out.trans h)
  clear h
  go_wp2_with fail
  refine (rC.out _).mono ?_
  rintro e w7 ⟨rfl, h⟩
  have K7 := Lib.hid (K6.out.trans h)
  clear h
  go_wp2_with fail
  refine (cM.out _).mono ?_
  rintro e w8 ⟨rfl, h⟩
  have K8 := Lib.hid (K7.out.trans h)
  clear h
  go_wp2_with fail
  refine (rM.out _).mono ?_
  rintro e w9 ⟨rfl, h⟩
  have K9 := Lib.hid (K8.out.trans h)
  clear h
  go_wp2_with fail
  refine (cN.out _).mono ?_
  rintro e w10 ⟨rfl, h⟩
  have K10 := Lib.hid (K9.out.trans h)
  clear h
  go_wp2_with fail
  refine (rN.out _).mono ?_
  rintro e w11 ⟨rfl, h⟩
  have K11 := Lib.hid (K10.out.trans h)
  clear h
  go_wp2_with fail
  refine (cK.out _).mono ?_
  rintro e wx ⟨rfl, rfl⟩
  go_wp2_with fail
  refine (rK.out _).mono ?_
  rintro e wx ⟨rfl, rfl⟩
  go_wp2_with fail
  refine (cB.out _).mono ?_
  rintro e w12 ⟨rfl, h⟩
  have K12 := Lib.hid (K11.out.trans h)
  clear h
  go_wp2_with fail
  refine (rB.out _).mono ?_
  rintro e w13 ⟨rfl, h⟩
  have K13 := Lib.hid (K12.out.trans h)
  clear h
  go_wp2
  go_ret
  exact RetQ.of (by first | rfl | simp | simp_all) K13.out
end Go.Proofs.YtolfpkjohlbfdaaDoor
