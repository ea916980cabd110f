/-
  The walk of RecordApart behind both records: ok1.
-/
import Derived.Test.YtepbbdeolplhfaaApr
namespace Go.Proofs.Ytepbbdeolplhfaa
open Go.RowKit

set_option maxHeartbeats 1000000 in
theorem apart_ok1_0 (code cut : Int) (t : ByteArray) (b : ByteArray) (j : Nat) (u : ByteArray) (w : World) (h1 : (t.size : Int) ≤ 5000) (h2 : (t.size : Int) ≤ 5000) (hB : ∀ w, Calls Try.prog 8 #[inV 1 code 0 false t] w (fun e w' => e = .returned (.tuple #[.string b, .int .i64 0]) ∧ Keeps w w')) (hD : ∀ w, Calls Try.prog 8 #[inV 1 code 0 false t] w (fun e w' => e = .returned (.tuple #[.string b, .int .i64 0]) ∧ Keeps w w')) (hu : (u.size : Int) ≤ t.size) (hx : t.extract 0 u.size = u) (hne : b.toList.isEmpty = false) (hj : j ≤ b.size) (_hbs : (b.size : Int) ≤ 4400) (hP : ∀ w, Calls Try.prog 12 #[.int .i64 cut, .int .i64 b.size] w (RetN j w)) (hR : ∀ w, Calls Try.prog 10 #[.string (b.extract 0 j)] w (fun e w' => e = .returned (.tuple #[.agg #[.int .i64 1, .int .i64 code, .int .i64 0, .bool false, .string u], .int .i64 0]) ∧ Keeps w w')) :
    Calls Try.prog 5 #[inV 1 code 0 false t, inV 1 code 0 false t, .int .i64 cut] w (Ret (.bool true) w) := by
  have cV := Lib.hid (fun w => lives_any w)
  have cL : Hid (∀ w, Calls Try.prog 7 #[inV 1 code 0 false t] w (Ret (.bool true) w)) := Lib.hid (fun w => by have := light_any 1 code 0 false t w; rw [decide_eq_true h1] at this; exact this)
  have cM : Hid (∀ w, Calls Try.prog 7 #[inV 1 code 0 false t] w (Ret (.bool true) w)) := Lib.hid (fun w => by have := light_any 1 code 0 false t w; rw [decide_eq_true h2] at this; exact this)
  have cB := Lib.hid hB
  have cD := Lib.hid hD
  have cP := Lib.hid hP
  have cR := Lib.hid hR
  have c1 : (0 : Int) ≤ j := by omega
  have c2 : (j : Int) ≤ b.size := by omega
  clear h1 h2 hB hD hP hR hj
  have HC := Lib.hid (two_new w 1 code 0 false t 1 code 0 false t)
  have hk0 := ((Keeps.refl w).alloc (.cells #[.int .i64 1, .int .i64 code, .int .i64 0, .bool false, .string t] 23)).alloc (.cells #[.int .i64 1, .int .i64 code, .int .i64 0, .bool false, .string t] 23)
  unfold inV at *
  go_enter Try.func5, Try.ntmps5
  go_wp2_with fail
  refine (cV.out _).mono ?_
  rintro e w1 ⟨rfl, h1⟩
  have HC1 := Lib.hid (And.intro (HC.out.1.keeps h1) (HC.out.2.keeps h1))
  have hk1 := hk0.trans h1
  clear HC hk0 h1 cV
  obtain ⟨⟨a0, a1, a2, a3, a4⟩, ⟨d0, d1, d2, d3, d4⟩⟩ := HC1.out
  go_wp2_with fail
  refine (cL.out _).mono ?_
  rintro e w2 ⟨rfl, h2⟩
  have HC2 := Lib.hid (And.intro (HC1.out.1.keeps h2) (HC1.out.2.keeps h2))
  have hk2 := hk1.trans h2
  clear HC1 hk1 h2 a0 a1 a2 a3 a4 d0 d1 d2 d3 d4
  obtain ⟨⟨a0, a1, a2, a3, a4⟩, ⟨d0, d1, d2, d3, d4⟩⟩ := HC2.out
  go_wp2_with fail
  refine (cM.out _).mono ?_
  rintro e w3 ⟨rfl, h3⟩
  have HC3 := Lib.hid (And.intro (HC2.out.1.keeps h3) (HC2.out.2.keeps h3))
  have hk3 := hk2.trans h3
  clear HC2 hk2 h3 a0 a1 a2 a3 a4 d0 d1 d2 d3 d4
  obtain ⟨⟨a0, a1, a2, a3, a4⟩, ⟨d0, d1, d2, d3, d4⟩⟩ := HC3.out
  go_wp2_with fail
  refine (cB.out _).mono ?_
  rintro e w4 ⟨rfl, h4⟩
  have HC4 := Lib.hid (And.intro (HC3.out.1.keeps h4) (HC3.out.2.keeps h4))
  have hk4 := hk3.trans h4
  clear HC3 hk3 h4 a0 a1 a2 a3 a4 d0 d1 d2 d3 d4
  obtain ⟨⟨a0, a1, a2, a3, a4⟩, ⟨d0, d1, d2, d3, d4⟩⟩ := HC4.out
  go_wp2_with fail
  refine (cD.out _).mono ?_
  rintro e w5 ⟨rfl, h5⟩
  have HC5 := Lib.hid (And.intro (HC4.out.1.keeps h5) (HC4.out.2.keeps h5))
  have hk5 := hk4.trans h5
  clear HC4 hk4 h5 a0 a1 a2 a3 a4 d0 d1 d2 d3 d4
  obtain ⟨⟨a0, a1, a2, a3, a4⟩, ⟨d0, d1, d2, d3, d4⟩⟩ := HC5.out
  go_wp2_with fail
  refine (cP.out _).mono ?_
  rintro e wp ⟨rfl, rfl⟩
  go_wp2_with fail
  refine (cR.out _).mono ?_
  rintro e w6 ⟨rfl, h6⟩
  have HC6 := (HC5.out.1.keeps h6)
  have hk6 := hk5.trans h6
  have hlt : w.heap.size < w6.heap.size := World.block_lt_of_cell? w6 _ HC6.1
  clear HC5 hk5 h6 a0 a1 a2 a3 a4 d0 d1 d2 d3 d4
  obtain ⟨a0, a1, a2, a3, a4⟩ := HC6
  go_wp2_with fail
  go_quiet (fail)
  go_wp2
  go_ret
  exact Ret.bool rfl ((hk6.alloc _).drewN _)

set_option maxHeartbeats 1000000 in
theorem apart_ok1_1 (code k2 code2 n2 cut : Int) (ok2 : Bool) (t t2 : ByteArray) (b b2 : ByteArray) (j : Nat) (u : ByteArray) (w : World) (h1 : (t.size : Int) ≤ 5000) (h2 : (t2.size : Int) ≤ 5000) (hB : ∀ w, Calls Try.prog 8 #[inV 1 code 0 false t] w (fun e w' => e = .returned (.tuple #[.string b, .int .i64 0]) ∧ Keeps w w')) (hD : ∀ w, Calls Try.prog 8 #[inV k2 code2 n2 ok2 t2] w (fun e w' => e = .returned (.tuple #[.string b2, .int .i64 0]) ∧ Keeps w w')) (hu : (u.size : Int) ≤ t.size) (hx : t.extract 0 u.size = u) (hd : ¬ (1 : Int) = k2) (E1 : (b.toList == b2.toList) = false) (hne : b.toList.isEmpty = false) (hj : j ≤ b.size) (_hbs : (b.size : Int) ≤ 4400) (hP : ∀ w, Calls Try.prog 12 #[.int .i64 cut, .int .i64 b.size] w (RetN j w)) (hR : ∀ w, Calls Try.prog 10 #[.string (b.extract 0 j)] w (fun e w' => e = .returned (.tuple #[.agg #[.int .i64 1, .int .i64 code, .int .i64 0, .bool false, .string u], .int .i64 0]) ∧ Keeps w w')) :
    Calls Try.prog 5 #[inV 1 code 0 false t, inV k2 code2 n2 ok2 t2, .int .i64 cut] w (Ret (.bool true) w) := by
  have cV := Lib.hid (fun w => lives_any w)
  have cL : Hid (∀ w, Calls Try.prog 7 #[inV 1 code 0 false t] w (Ret (.bool true) w)) := Lib.hid (fun w => by have := light_any 1 code 0 false t w; rw [decide_eq_true h1] at this; exact this)
  have cM : Hid (∀ w, Calls Try.prog 7 #[inV k2 code2 n2 ok2 t2] w (Ret (.bool true) w)) := Lib.hid (fun w => by have := light_any k2 code2 n2 ok2 t2 w; rw [decide_eq_true h2] at this; exact this)
  have cB := Lib.hid hB
  have cD := Lib.hid hD
  have cP := Lib.hid hP
  have cR := Lib.hid hR
  have c1 : (0 : Int) ≤ j := by omega
  have c2 : (j : Int) ≤ b.size := by omega
  clear h1 h2 hB hD hP hR hj
  have HC := Lib.hid (two_new w 1 code 0 false t k2 code2 n2 ok2 t2)
  have hk0 := ((Keeps.refl w).alloc (.cells #[.int .i64 1, .int .i64 code, .int .i64 0, .bool false, .string t] 23)).alloc (.cells #[.int .i64 k2, .int .i64 code2, .int .i64 n2, .bool ok2, .string t2] 23)
  unfold inV at *
  go_enter Try.func5, Try.ntmps5
  go_wp2_with fail
  refine (cV.out _).mono ?_
  rintro e w1 ⟨rfl, h1⟩
  have HC1 := Lib.hid (And.intro (HC.out.1.keeps h1) (HC.out.2.keeps h1))
  have hk1 := hk0.trans h1
  clear HC hk0 h1 cV
  obtain ⟨⟨a0, a1, a2, a3, a4⟩, ⟨d0, d1, d2, d3, d4⟩⟩ := HC1.out
  go_wp2_with fail
  refine (cL.out _).mono ?_
  rintro e w2 ⟨rfl, h2⟩
  have HC2 := Lib.hid (And.intro (HC1.out.1.keeps h2) (HC1.out.2.keeps h2))
  have hk2 := hk1.trans h2
  clear HC1 hk1 h2 a0 a1 a2 a3 a4 d0 d1 d2 d3 d4
  obtain ⟨⟨a0, a1, a2, a3, a4⟩, ⟨d0, d1, d2, d3, d4⟩⟩ := HC2.out
  go_wp2_with fail
  refine (cM.out _).mono ?_
  rintro e w3 ⟨rfl, h3⟩
  have HC3 := Lib.hid (And.intro (HC2.out.1.keeps h3) (HC2.out.2.keeps h3))
  have hk3 := hk2.trans h3
  clear HC2 hk2 h3 a0 a1 a2 a3 a4 d0 d1 d2 d3 d4
  obtain ⟨⟨a0, a1, a2, a3, a4⟩, ⟨d0, d1, d2, d3, d4⟩⟩ := HC3.out
  go_wp2_with fail
  refine (cB.out _).mono ?_
  rintro e w4 ⟨rfl, h4⟩
  have HC4 := Lib.hid (And.intro (HC3.out.1.keeps h4) (HC3.out.2.keeps h4))
  have hk4 := hk3.trans h4
  clear HC3 hk3 h4 a0 a1 a2 a3 a4 d0 d1 d2 d3 d4
  obtain ⟨⟨a0, a1, a2, a3, a4⟩, ⟨d0, d1, d2, d3, d4⟩⟩ := HC4.out
  go_wp2_with fail
  refine (cD.out _).mono ?_
  rintro e w5 ⟨rfl, h5⟩
  have HC5 := Lib.hid (And.intro (HC4.out.1.keeps h5) (HC4.out.2.keeps h5))
  have hk5 := hk4.trans h5
  clear HC4 hk4 h5 a0 a1 a2 a3 a4 d0 d1 d2 d3 d4
  obtain ⟨⟨a0, a1, a2, a3, a4⟩, ⟨d0, d1, d2, d3, d4⟩⟩ := HC5.out
  go_wp2_with fail
  refine (cP.out _).mono ?_
  rintro e wp ⟨rfl, rfl⟩
  go_wp2_with fail
  refine (cR.out _).mono ?_
  rintro e w6 ⟨rfl, h6⟩
  have HC6 := (HC5.out.1.keeps h6)
  have hk6 := hk5.trans h6
  have hlt : w.heap.size < w6.heap.size := World.block_lt_of_cell? w6 _ HC6.1
  clear HC5 hk5 h6 a0 a1 a2 a3 a4 d0 d1 d2 d3 d4
  obtain ⟨a0, a1, a2, a3, a4⟩ := HC6
  go_wp2_with fail
  go_quiet (fail)
  go_wp2
  go_ret
  exact Ret.bool rfl ((hk6.alloc _).drewN _)

set_option maxHeartbeats 1000000 in
theorem apart_ok1_2 (code code2 n2 cut : Int) (ok2 : Bool) (t t2 : ByteArray) (b b2 : ByteArray) (j : Nat) (u : ByteArray) (w : World) (h1 : (t.size : Int) ≤ 5000) (h2 : (t2.size : Int) ≤ 5000) (hB : ∀ w, Calls Try.prog 8 #[inV 1 code 0 false t] w (fun e w' => e = .returned (.tuple #[.string b, .int .i64 0]) ∧ Keeps w w')) (hD : ∀ w, Calls Try.prog 8 #[inV 1 code2 n2 ok2 t2] w (fun e w' => e = .returned (.tuple #[.string b2, .int .i64 0]) ∧ Keeps w w')) (hu : (u.size : Int) ≤ t.size) (hx : t.extract 0 u.size = u) (hd : ¬ (code : Int) = code2) (E1 : (b.toList == b2.toList) = false) (hne : b.toList.isEmpty = false) (hj : j ≤ b.size) (_hbs : (b.size : Int) ≤ 4400) (hP : ∀ w, Calls Try.prog 12 #[.int .i64 cut, .int .i64 b.size] w (RetN j w)) (hR : ∀ w, Calls Try.prog 10 #[.string (b.extract 0 j)] w (fun e w' => e = .returned (.tuple #[.agg #[.int .i64 1, .int .i64 code, .int .i64 0, .bool false, .string u], .int .i64 0]) ∧ Keeps w w')) :
    Calls Try.prog 5 #[inV 1 code 0 false t, inV 1 code2 n2 ok2 t2, .int .i64 cut] w (Ret (.bool true) w) := by
  have cV := Lib.hid (fun w => lives_any w)
  have cL : Hid (∀ w, Calls Try.prog 7 #[inV 1 code 0 false t] w (Ret (.bool true) w)) := Lib.hid (fun w => by have := light_any 1 code 0 false t w; rw [decide_eq_true h1] at this; exact this)
  have cM : Hid (∀ w, Calls Try.prog 7 #[inV 1 code2 n2 ok2 t2] w (Ret (.bool true) w)) := Lib.hid (fun w => by have := light_any 1 code2 n2 ok2 t2 w; rw [decide_eq_true h2] at this; exact this)
  have cB := Lib.hid hB
  have cD := Lib.hid hD
  have cP := Lib.hid hP
  have cR := Lib.hid hR
  have c1 : (0 : Int) ≤ j := by omega
  have c2 : (j : Int) ≤ b.size := by omega
  clear h1 h2 hB hD hP hR hj
  have HC := Lib.hid (two_new w 1 code 0 false t 1 code2 n2 ok2 t2)
  have hk0 := ((Keeps.refl w).alloc (.cells #[.int .i64 1, .int .i64 code, .int .i64 0, .bool false, .string t] 23)).alloc (.cells #[.int .i64 1, .int .i64 code2, .int .i64 n2, .bool ok2, .string t2] 23)
  unfold inV at *
  go_enter Try.func5, Try.ntmps5
  go_wp2_with fail
  refine (cV.out _).mono ?_
  rintro e w1 ⟨rfl, h1⟩
  have HC1 := Lib.hid (And.intro (HC.out.1.keeps h1) (HC.out.2.keeps h1))
  have hk1 := hk0.trans h1
  clear HC hk0 h1 cV
  obtain ⟨⟨a0, a1, a2, a3, a4⟩, ⟨d0, d1, d2, d3, d4⟩⟩ := HC1.out
  go_wp2_with fail
  refine (cL.out _).mono ?_
  rintro e w2 ⟨rfl, h2⟩
  have HC2 := Lib.hid (And.intro (HC1.out.1.keeps h2) (HC1.out.2.keeps h2))
  have hk2 := hk1.trans h2
  clear HC1 hk1 h2 a0 a1 a2 a3 a4 d0 d1 d2 d3 d4
  obtain ⟨⟨a0, a1, a2, a3, a4⟩, ⟨d0, d1, d2, d3, d4⟩⟩ := HC2.out
  go_wp2_with fail
  refine (cM.out _).mono ?_
  rintro e w3 ⟨rfl, h3⟩
  have HC3 := Lib.hid (And.intro (HC2.out.1.keeps h3) (HC2.out.2.keeps h3))
  have hk3 := hk2.trans h3
  clear HC2 hk2 h3 a0 a1 a2 a3 a4 d0 d1 d2 d3 d4
  obtain ⟨⟨a0, a1, a2, a3, a4⟩, ⟨d0, d1, d2, d3, d4⟩⟩ := HC3.out
  go_wp2_with fail
  refine (cB.out _).mono ?_
  rintro e w4 ⟨rfl, h4⟩
  have HC4 := Lib.hid (And.intro (HC3.out.1.keeps h4) (HC3.out.2.keeps h4))
  have hk4 := hk3.trans h4
  clear HC3 hk3 h4 a0 a1 a2 a3 a4 d0 d1 d2 d3 d4
  obtain ⟨⟨a0, a1, a2, a3, a4⟩, ⟨d0, d1, d2, d3, d4⟩⟩ := HC4.out
  go_wp2_with fail
  refine (cD.out _).mono ?_
  rintro e w5 ⟨rfl, h5⟩
  have HC5 := Lib.hid (And.intro (HC4.out.1.keeps h5) (HC4.out.2.keeps h5))
  have hk5 := hk4.trans h5
  clear HC4 hk4 h5 a0 a1 a2 a3 a4 d0 d1 d2 d3 d4
  obtain ⟨⟨a0, a1, a2, a3, a4⟩, ⟨d0, d1, d2, d3, d4⟩⟩ := HC5.out
  go_wp2_with fail
  refine (cP.out _).mono ?_
  rintro e wp ⟨rfl, rfl⟩
  go_wp2_with fail
  refine (cR.out _).mono ?_
  rintro e w6 ⟨rfl, h6⟩
  have HC6 := (HC5.out.1.keeps h6)
  have hk6 := hk5.trans h6
  have hlt : w.heap.size < w6.heap.size := World.block_lt_of_cell? w6 _ HC6.1
  clear HC5 hk5 h6 a0 a1 a2 a3 a4 d0 d1 d2 d3 d4
  obtain ⟨a0, a1, a2, a3, a4⟩ := HC6
  go_wp2_with fail
  go_quiet (fail)
  go_wp2
  go_ret
  exact Ret.bool rfl ((hk6.alloc _).drewN _)

set_option maxHeartbeats 1000000 in
theorem apart_ok1_3 (code n2 cut : Int) (ok2 : Bool) (t t2 : ByteArray) (b b2 : ByteArray) (j : Nat) (u : ByteArray) (w : World) (h1 : (t.size : Int) ≤ 5000) (h2 : (t2.size : Int) ≤ 5000) (hB : ∀ w, Calls Try.prog 8 #[inV 1 code 0 false t] w (fun e w' => e = .returned (.tuple #[.string b, .int .i64 0]) ∧ Keeps w w')) (hD : ∀ w, Calls Try.prog 8 #[inV 1 code n2 ok2 t2] w (fun e w' => e = .returned (.tuple #[.string b2, .int .i64 0]) ∧ Keeps w w')) (hu : (u.size : Int) ≤ t.size) (hx : t.extract 0 u.size = u) (hd : ¬ (0 : Int) = n2) (E1 : (b.toList == b2.toList) = false) (hne : b.toList.isEmpty = false) (hj : j ≤ b.size) (_hbs : (b.size : Int) ≤ 4400) (hP : ∀ w, Calls Try.prog 12 #[.int .i64 cut, .int .i64 b.size] w (RetN j w)) (hR : ∀ w, Calls Try.prog 10 #[.string (b.extract 0 j)] w (fun e w' => e = .returned (.tuple #[.agg #[.int .i64 1, .int .i64 code, .int .i64 0, .bool false, .string u], .int .i64 0]) ∧ Keeps w w')) :
    Calls Try.prog 5 #[inV 1 code 0 false t, inV 1 code n2 ok2 t2, .int .i64 cut] w (Ret (.bool true) w) := by
  have cV := Lib.hid (fun w => lives_any w)
  have cL : Hid (∀ w, Calls Try.prog 7 #[inV 1 code 0 false t] w (Ret (.bool true) w)) := Lib.hid (fun w => by have := light_any 1 code 0 false t w; rw [decide_eq_true h1] at this; exact this)
  have cM : Hid (∀ w, Calls Try.prog 7 #[inV 1 code n2 ok2 t2] w (Ret (.bool true) w)) := Lib.hid (fun w => by have := light_any 1 code n2 ok2 t2 w; rw [decide_eq_true h2] at this; exact this)
  have cB := Lib.hid hB
  have cD := Lib.hid hD
  have cP := Lib.hid hP
  have cR := Lib.hid hR
  have c1 : (0 : Int) ≤ j := by omega
  have c2 : (j : Int) ≤ b.size := by omega
  clear h1 h2 hB hD hP hR hj
  have HC := Lib.hid (two_new w 1 code 0 false t 1 code n2 ok2 t2)
  have hk0 := ((Keeps.refl w).alloc (.cells #[.int .i64 1, .int .i64 code, .int .i64 0, .bool false, .string t] 23)).alloc (.cells #[.int .i64 1, .int .i64 code, .int .i64 n2, .bool ok2, .string t2] 23)
  unfold inV at *
  go_enter Try.func5, Try.ntmps5
  go_wp2_with fail
  refine (cV.out _).mono ?_
  rintro e w1 ⟨rfl, h1⟩
  have HC1 := Lib.hid (And.intro (HC.out.1.keeps h1) (HC.out.2.keeps h1))
  have hk1 := hk0.trans h1
  clear HC hk0 h1 cV
  obtain ⟨⟨a0, a1, a2, a3, a4⟩, ⟨d0, d1, d2, d3, d4⟩⟩ := HC1.out
  go_wp2_with fail
  refine (cL.out _).mono ?_
  rintro e w2 ⟨rfl, h2⟩
  have HC2 := Lib.hid (And.intro (HC1.out.1.keeps h2) (HC1.out.2.keeps h2))
  have hk2 := hk1.trans h2
  clear HC1 hk1 h2 a0 a1 a2 a3 a4 d0 d1 d2 d3 d4
  obtain ⟨⟨a0, a1, a2, a3, a4⟩, ⟨d0, d1, d2, d3, d4⟩⟩ := HC2.out
  go_wp2_with fail
  refine (cM.out _).mono ?_
  rintro e w3 ⟨rfl, h3⟩
  have HC3 := Lib.hid (And.intro (HC2.out.1.keeps h3) (HC2.out.2.keeps h3))
  have hk3 := hk2.trans h3
  clear HC2 hk2 h3 a0 a1 a2 a3 a4 d0 d1 d2 d3 d4
  obtain ⟨⟨a0, a1, a2, a3, a4⟩, ⟨d0, d1, d2, d3, d4⟩⟩ := HC3.out
  go_wp2_with fail
  refine (cB.out _).mono ?_
  rintro e w4 ⟨rfl, h4⟩
  have HC4 := Lib.hid (And.intro (HC3.out.1.keeps h4) (HC3.out.2.keeps h4))
  have hk4 := hk3.trans h4
  clear HC3 hk3 h4 a0 a1 a2 a3 a4 d0 d1 d2 d3 d4
  obtain ⟨⟨a0, a1, a2, a3, a4⟩, ⟨d0, d1, d2, d3, d4⟩⟩ := HC4.out
  go_wp2_with fail
  refine (cD.out _).mono ?_
  rintro e w5 ⟨rfl, h5⟩
  have HC5 := Lib.hid (And.intro (HC4.out.1.keeps h5) (HC4.out.2.keeps h5))
  have hk5 := hk4.trans h5
  clear HC4 hk4 h5 a0 a1 a2 a3 a4 d0 d1 d2 d3 d4
  obtain ⟨⟨a0, a1, a2, a3, a4⟩, ⟨d0, d1, d2, d3, d4⟩⟩ := HC5.out
  go_wp2_with fail
  refine (cP.out _).mono ?_
  rintro e wp ⟨rfl, rfl⟩
  go_wp2_with fail
  refine (cR.out _).mono ?_
  rintro e w6 ⟨rfl, h6⟩
  have HC6 := (HC5.out.1.keeps h6)
  have hk6 := hk5.trans h6
  have hlt : w.heap.size < w6.heap.size := World.block_lt_of_cell? w6 _ HC6.1
  clear HC5 hk5 h6 a0 a1 a2 a3 a4 d0 d1 d2 d3 d4
  obtain ⟨a0, a1, a2, a3, a4⟩ := HC6
  go_wp2_with fail
  go_quiet (fail)
  go_wp2
  go_ret
  exact Ret.bool rfl ((hk6.alloc _).drewN _)

set_option maxHeartbeats 1000000 in
theorem apart_ok1_5 (code cut : Int) (t t2 : ByteArray) (b b2 : ByteArray) (j : Nat) (u : ByteArray) (w : World) (h1 : (t.size : Int) ≤ 5000) (h2 : (t2.size : Int) ≤ 5000) (hB : ∀ w, Calls Try.prog 8 #[inV 1 code 0 false t] w (fun e w' => e = .returned (.tuple #[.string b, .int .i64 0]) ∧ Keeps w w')) (hD : ∀ w, Calls Try.prog 8 #[inV 1 code 0 false t2] w (fun e w' => e = .returned (.tuple #[.string b2, .int .i64 0]) ∧ Keeps w w')) (hu : (u.size : Int) ≤ t.size) (hx : t.extract 0 u.size = u) (hd : ¬ t.toList = t2.toList) (E1 : (b.toList == b2.toList) = false) (hne : b.toList.isEmpty = false) (hj : j ≤ b.size) (_hbs : (b.size : Int) ≤ 4400) (hP : ∀ w, Calls Try.prog 12 #[.int .i64 cut, .int .i64 b.size] w (RetN j w)) (hR : ∀ w, Calls Try.prog 10 #[.string (b.extract 0 j)] w (fun e w' => e = .returned (.tuple #[.agg #[.int .i64 1, .int .i64 code, .int .i64 0, .bool false, .string u], .int .i64 0]) ∧ Keeps w w')) :
    Calls Try.prog 5 #[inV 1 code 0 false t, inV 1 code 0 false t2, .int .i64 cut] w (Ret (.bool true) w) := by
  have cV := Lib.hid (fun w => lives_any w)
  have cL : Hid (∀ w, Calls Try.prog 7 #[inV 1 code 0 false t] w (Ret (.bool true) w)) := Lib.hid (fun w => by have := light_any 1 code 0 false t w; rw [decide_eq_true h1] at this; exact this)
  have cM : Hid (∀ w, Calls Try.prog 7 #[inV 1 code 0 false t2] w (Ret (.bool true) w)) := Lib.hid (fun w => by have := light_any 1 code 0 false t2 w; rw [decide_eq_true h2] at this; exact this)
  have cB := Lib.hid hB
  have cD := Lib.hid hD
  have cP := Lib.hid hP
  have cR := Lib.hid hR
  have c1 : (0 : Int) ≤ j := by omega
  have c2 : (j : Int) ≤ b.size := by omega
  clear h1 h2 hB hD hP hR hj
  have HC := Lib.hid (two_new w 1 code 0 false t 1 code 0 false t2)
  have hk0 := ((Keeps.refl w).alloc (.cells #[.int .i64 1, .int .i64 code, .int .i64 0, .bool false, .string t] 23)).alloc (.cells #[.int .i64 1, .int .i64 code, .int .i64 0, .bool false, .string t2] 23)
  unfold inV at *
  go_enter Try.func5, Try.ntmps5
  go_wp2_with fail
  refine (cV.out _).mono ?_
  rintro e w1 ⟨rfl, h1⟩
  have HC1 := Lib.hid (And.intro (HC.out.1.keeps h1) (HC.out.2.keeps h1))
  have hk1 := hk0.trans h1
  clear HC hk0 h1 cV
  obtain ⟨⟨a0, a1, a2, a3, a4⟩, ⟨d0, d1, d2, d3, d4⟩⟩ := HC1.out
  go_wp2_with fail
  refine (cL.out _).mono ?_
  rintro e w2 ⟨rfl, h2⟩
  have HC2 := Lib.hid (And.intro (HC1.out.1.keeps h2) (HC1.out.2.keeps h2))
  have hk2 := hk1.trans h2
  clear HC1 hk1 h2 a0 a1 a2 a3 a4 d0 d1 d2 d3 d4
  obtain ⟨⟨a0, a1, a2, a3, a4⟩, ⟨d0, d1, d2, d3, d4⟩⟩ := HC2.out
  go_wp2_with fail
  refine (cM.out _).mono ?_
  rintro e w3 ⟨rfl, h3⟩
  have HC3 := Lib.hid (And.intro (HC2.out.1.keeps h3) (HC2.out.2.keeps h3))
  have hk3 := hk2.trans h3
  clear HC2 hk2 h3 a0 a1 a2 a3 a4 d0 d1 d2 d3 d4
  obtain ⟨⟨a0, a1, a2, a3, a4⟩, ⟨d0, d1, d2, d3, d4⟩⟩ := HC3.out
  go_wp2_with fail
  refine (cB.out _).mono ?_
  rintro e w4 ⟨rfl, h4⟩
  have HC4 := Lib.hid (And.intro (HC3.out.1.keeps h4) (HC3.out.2.keeps h4))
  have hk4 := hk3.trans h4
  clear HC3 hk3 h4 a0 a1 a2 a3 a4 d0 d1 d2 d3 d4
  obtain ⟨⟨a0, a1, a2, a3, a4⟩, ⟨d0, d1, d2, d3, d4⟩⟩ := HC4.out
  go_wp2_with fail
  refine (cD.out _).mono ?_
  rintro e w5 ⟨rfl, h5⟩
  have HC5 := Lib.hid (And.intro (HC4.out.1.keeps h5) (HC4.out.2.keeps h5))
  have hk5 := hk4.trans h5
  clear HC4 hk4 h5 a0 a1 a2 a3 a4 d0 d1 d2 d3 d4
  obtain ⟨⟨a0, a1, a2, a3, a4⟩, ⟨d0, d1, d2, d3, d4⟩⟩ := HC5.out
  go_wp2_with fail
  refine (cP.out _).mono ?_
  rintro e wp ⟨rfl, rfl⟩
  go_wp2_with fail
  refine (cR.out _).mono ?_
  rintro e w6 ⟨rfl, h6⟩
  have HC6 := (HC5.out.1.keeps h6)
  have hk6 := hk5.trans h6
  have hlt : w.heap.size < w6.heap.size := World.block_lt_of_cell? w6 _ HC6.1
  clear HC5 hk5 h6 a0 a1 a2 a3 a4 d0 d1 d2 d3 d4
  obtain ⟨a0, a1, a2, a3, a4⟩ := HC6
  go_wp2_with fail
  go_quiet (fail)
  go_wp2
  go_ret
  exact Ret.bool rfl ((hk6.alloc _).drewN _)

end Go.Proofs.Ytepbbdeolplhfaa
