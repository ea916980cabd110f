/-
  The walk of RecordApart.
-/
import Derived.Test.YtepbbdeolplhfaaPre
import Derived.Test.YtepbbdeolplhfaaOpn
import Derived.Test.YtepbbdeolplhfaaLiv
import Derived.Test.YtepbbdeolplhfaaBak
import Derived.Deep.QuietTactic
namespace Go.Proofs.Ytepbbdeolplhfaa
open Go.RowKit

theorem two_new (w : World) (k code n : Int) (ok : Bool) (t : ByteArray) (k2 code2 n2 : Int) (ok2 : Bool) (t2 : ByteArray) :
    InCells ((w.alloc (.cells #[.int .i64 k, .int .i64 code, .int .i64 n, .bool ok, .string t] 23)).alloc (.cells #[.int .i64 k2, .int .i64 code2, .int .i64 n2, .bool ok2, .string t2] 23)) w.heap.size k code n ok t ∧ InCells ((w.alloc (.cells #[.int .i64 k, .int .i64 code, .int .i64 n, .bool ok, .string t] 23)).alloc (.cells #[.int .i64 k2, .int .i64 code2, .int .i64 n2, .bool ok2, .string t2] 23)) (w.heap.size + 1) k2 code2 n2 ok2 t2 := by
  refine ⟨(inCells_new w k code n ok t).keeps ((Keeps.refl _).alloc _), ?_⟩
  have h := inCells_new (w.alloc (.cells #[.int .i64 k, .int .i64 code, .int .i64 n, .bool ok, .string t] 23)) k2 code2 n2 ok2 t2
  have e : (w.alloc (.cells #[.int .i64 k, .int .i64 code, .int .i64 n, .bool ok, .string t] 23)).heap.size = w.heap.size + 1 := by simp
  rw [e] at h
  exact h

set_option maxHeartbeats 1000000 in
theorem apart_heavy (k code n : Int) (ok : Bool) (t : ByteArray) (k2 code2 n2 : Int) (ok2 : Bool) (t2 : ByteArray) (cut : Int) (w : World) (h1 : ¬ (t.size : Int) ≤ 5000) :
    Calls Try.prog 5 #[inV k code n ok t, inV k2 code2 n2 ok2 t2, .int .i64 cut] w (Ret (.bool true) w) := by
  have cV := Lib.hid (fun w => lives_any w)
  have cL : Hid (∀ w, Calls Try.prog 7 #[inV k code n ok t] w (Ret (.bool false) w)) := Lib.hid (fun w => by have := light_any k code n ok t w; rw [decide_eq_false h1] at this; exact this)
  clear h1
  have HC := Lib.hid (two_new w k code n ok t k2 code2 n2 ok2 t2)
  have hk0 := ((Keeps.refl w).alloc (.cells #[.int .i64 k, .int .i64 code, .int .i64 n, .bool ok, .string t] 23)).alloc (.cells #[.int .i64 k2, .int .i64 code2, .int .i64 n2, .bool ok2, .string t2] 23)
  unfold inV at *
  go_enter Try.func5, Try.ntmps5
  go_wp2_with fail
  refine (cV.out _).mono ?_
  rintro e w1 ⟨rfl, h1⟩
  have HC1 := Lib.hid (And.intro (HC.out.1.keeps h1) (HC.out.2.keeps h1))
  have hk1 := hk0.trans h1
  clear HC hk0 h1 cV
  obtain ⟨⟨a0, a1, a2, a3, a4⟩, ⟨d0, d1, d2, d3, d4⟩⟩ := HC1.out
  go_wp2_with fail
  refine (cL.out _).mono ?_
  rintro e w2 ⟨rfl, h2⟩
  go_wp2
  go_ret
  exact Ret.bool rfl (hk1.trans h2)

set_option maxHeartbeats 1000000 in
theorem apart_heavy2 (k code n : Int) (ok : Bool) (t : ByteArray) (k2 code2 n2 : Int) (ok2 : Bool) (t2 : ByteArray) (cut : Int) (w : World) (h1 : (t.size : Int) ≤ 5000) (h2 : ¬ (t2.size : Int) ≤ 5000) :
    Calls Try.prog 5 #[inV k code n ok t, inV k2 code2 n2 ok2 t2, .int .i64 cut] w (Ret (.bool true) w) := by
  have cV := Lib.hid (fun w => lives_any w)
  have cL : Hid (∀ w, Calls Try.prog 7 #[inV k code n ok t] w (Ret (.bool true) w)) := Lib.hid (fun w => by have := light_any k code n ok t w; rw [decide_eq_true h1] at this; exact this)
  have cM : Hid (∀ w, Calls Try.prog 7 #[inV k2 code2 n2 ok2 t2] w (Ret (.bool false) w)) := Lib.hid (fun w => by have := light_any k2 code2 n2 ok2 t2 w; rw [decide_eq_false h2] at this; exact this)
  clear h1 h2
  have HC := Lib.hid (two_new w k code n ok t k2 code2 n2 ok2 t2)
  have hk0 := ((Keeps.refl w).alloc (.cells #[.int .i64 k, .int .i64 code, .int .i64 n, .bool ok, .string t] 23)).alloc (.cells #[.int .i64 k2, .int .i64 code2, .int .i64 n2, .bool ok2, .string t2] 23)
  unfold inV at *
  go_enter Try.func5, Try.ntmps5
  go_wp2_with fail
  refine (cV.out _).mono ?_
  rintro e w1 ⟨rfl, h1⟩
  have HC1 := Lib.hid (And.intro (HC.out.1.keeps h1) (HC.out.2.keeps h1))
  have hk1 := hk0.trans h1
  clear HC hk0 h1 cV
  obtain ⟨⟨a0, a1, a2, a3, a4⟩, ⟨d0, d1, d2, d3, d4⟩⟩ := HC1.out
  go_wp2_with fail
  refine (cL.out _).mono ?_
  rintro e w2 ⟨rfl, h2⟩
  have HC2 := Lib.hid (And.intro (HC1.out.1.keeps h2) (HC1.out.2.keeps h2))
  have hk2 := hk1.trans h2
  clear HC1 hk1 h2 a0 a1 a2 a3 a4 d0 d1 d2 d3 d4
  obtain ⟨⟨a0, a1, a2, a3, a4⟩, ⟨d0, d1, d2, d3, d4⟩⟩ := HC2.out
  go_wp2_with fail
  refine (cM.out _).mono ?_
  rintro e w3 ⟨rfl, h3⟩
  go_wp2
  go_ret
  exact Ret.bool rfl (hk2.trans h3)

set_option maxHeartbeats 1000000 in
theorem apart_bad (k code n : Int) (ok : Bool) (t : ByteArray) (k2 code2 n2 : Int) (ok2 : Bool) (t2 : ByteArray) (cut : Int) (b b2 : ByteArray) (c f : Int) (w : World) (h1 : (t.size : Int) ≤ 5000) (h2 : (t2.size : Int) ≤ 5000) (hB : ∀ w, Calls Try.prog 8 #[inV k code n ok t] w (fun e w' => e = .returned (.tuple #[.string b, .int .i64 c]) ∧ Keeps w w')) (hD : ∀ w, Calls Try.prog 8 #[inV k2 code2 n2 ok2 t2] w (fun e w' => e = .returned (.tuple #[.string b2, .int .i64 f]) ∧ Keeps w w')) (hc : c ≠ 0) :
    Calls Try.prog 5 #[inV k code n ok t, inV k2 code2 n2 ok2 t2, .int .i64 cut] w (Ret (.bool true) w) := by
  have cV := Lib.hid (fun w => lives_any w)
  have cL : Hid (∀ w, Calls Try.prog 7 #[inV k code n ok t] w (Ret (.bool true) w)) := Lib.hid (fun w => by have := light_any k code n ok t w; rw [decide_eq_true h1] at this; exact this)
  have cM : Hid (∀ w, Calls Try.prog 7 #[inV k2 code2 n2 ok2 t2] w (Ret (.bool true) w)) := Lib.hid (fun w => by have := light_any k2 code2 n2 ok2 t2 w; rw [decide_eq_true h2] at this; exact this)
  have cB : Hid (∀ w, Calls Try.prog 8 #[inV k code n ok t] w (fun e w' => e = .returned (.tuple #[.string b, .int .i64 c]) ∧ Keeps w w')) := Lib.hid hB
  have cD : Hid (∀ w, Calls Try.prog 8 #[inV k2 code2 n2 ok2 t2] w (fun e w' => e = .returned (.tuple #[.string b2, .int .i64 f]) ∧ Keeps w w')) := Lib.hid hD
  clear h1 h2 hB hD
  have HC := Lib.hid (two_new w k code n ok t k2 code2 n2 ok2 t2)
  have hk0 := ((Keeps.refl w).alloc (.cells #[.int .i64 k, .int .i64 code, .int .i64 n, .bool ok, .string t] 23)).alloc (.cells #[.int .i64 k2, .int .i64 code2, .int .i64 n2, .bool ok2, .string t2] 23)
  unfold inV at *
  go_enter Try.func5, Try.ntmps5
  go_wp2_with fail
  refine (cV.out _).mono ?_
  rintro e w1 ⟨rfl, h1⟩
  have HC1 := Lib.hid (And.intro (HC.out.1.keeps h1) (HC.out.2.keeps h1))
  have hk1 := hk0.trans h1
  clear HC hk0 h1 cV
  obtain ⟨⟨a0, a1, a2, a3, a4⟩, ⟨d0, d1, d2, d3, d4⟩⟩ := HC1.out
  go_wp2_with fail
  refine (cL.out _).mono ?_
  rintro e w2 ⟨rfl, h2⟩
  have HC2 := Lib.hid (And.intro (HC1.out.1.keeps h2) (HC1.out.2.keeps h2))
  have hk2 := hk1.trans h2
  clear HC1 hk1 h2 a0 a1 a2 a3 a4 d0 d1 d2 d3 d4
  obtain ⟨⟨a0, a1, a2, a3, a4⟩, ⟨d0, d1, d2, d3, d4⟩⟩ := HC2.out
  go_wp2_with fail
  refine (cM.out _).mono ?_
  rintro e w3 ⟨rfl, h3⟩
  have HC3 := Lib.hid (And.intro (HC2.out.1.keeps h3) (HC2.out.2.keeps h3))
  have hk3 := hk2.trans h3
  clear HC2 hk2 h3 a0 a1 a2 a3 a4 d0 d1 d2 d3 d4
  obtain ⟨⟨a0, a1, a2, a3, a4⟩, ⟨d0, d1, d2, d3, d4⟩⟩ := HC3.out
  go_wp2_with fail
  refine (cB.out _).mono ?_
  rintro e w4 ⟨rfl, h4⟩
  have HC4 := Lib.hid (And.intro (HC3.out.1.keeps h4) (HC3.out.2.keeps h4))
  have hk4 := hk3.trans h4
  clear HC3 hk3 h4 a0 a1 a2 a3 a4 d0 d1 d2 d3 d4
  obtain ⟨⟨a0, a1, a2, a3, a4⟩, ⟨d0, d1, d2, d3, d4⟩⟩ := HC4.out
  go_wp2_with fail
  refine (cD.out _).mono ?_
  rintro e w5 ⟨rfl, h5⟩
  go_wp2
  go_ret
  exact Ret.bool rfl (hk4.trans h5)

set_option maxHeartbeats 1000000 in
theorem apart_bad2 (k code n : Int) (ok : Bool) (t : ByteArray) (k2 code2 n2 : Int) (ok2 : Bool) (t2 : ByteArray) (cut : Int) (b b2 : ByteArray) (f : Int) (w : World) (h1 : (t.size : Int) ≤ 5000) (h2 : (t2.size : Int) ≤ 5000) (hB : ∀ w, Calls Try.prog 8 #[inV k code n ok t] w (fun e w' => e = .returned (.tuple #[.string b, .int .i64 0]) ∧ Keeps w w')) (hD : ∀ w, Calls Try.prog 8 #[inV k2 code2 n2 ok2 t2] w (fun e w' => e = .returned (.tuple #[.string b2, .int .i64 f]) ∧ Keeps w w')) (hc : f ≠ 0) :
    Calls Try.prog 5 #[inV k code n ok t, inV k2 code2 n2 ok2 t2, .int .i64 cut] w (Ret (.bool true) w) := by
  have cV := Lib.hid (fun w => lives_any w)
  have cL : Hid (∀ w, Calls Try.prog 7 #[inV k code n ok t] w (Ret (.bool true) w)) := Lib.hid (fun w => by have := light_any k code n ok t w; rw [decide_eq_true h1] at this; exact this)
  have cM : Hid (∀ w, Calls Try.prog 7 #[inV k2 code2 n2 ok2 t2] w (Ret (.bool true) w)) := Lib.hid (fun w => by have := light_any k2 code2 n2 ok2 t2 w; rw [decide_eq_true h2] at this; exact this)
  have cB : Hid (∀ w, Calls Try.prog 8 #[inV k code n ok t] w (fun e w' => e = .returned (.tuple #[.string b, .int .i64 0]) ∧ Keeps w w')) := Lib.hid hB
  have cD : Hid (∀ w, Calls Try.prog 8 #[inV k2 code2 n2 ok2 t2] w (fun e w' => e = .returned (.tuple #[.string b2, .int .i64 f]) ∧ Keeps w w')) := Lib.hid hD
  clear h1 h2 hB hD
  have HC := Lib.hid (two_new w k code n ok t k2 code2 n2 ok2 t2)
  have hk0 := ((Keeps.refl w).alloc (.cells #[.int .i64 k, .int .i64 code, .int .i64 n, .bool ok, .string t] 23)).alloc (.cells #[.int .i64 k2, .int .i64 code2, .int .i64 n2, .bool ok2, .string t2] 23)
  unfold inV at *
  go_enter Try.func5, Try.ntmps5
  go_wp2_with fail
  refine (cV.out _).mono ?_
  rintro e w1 ⟨rfl, h1⟩
  have HC1 := Lib.hid (And.intro (HC.out.1.keeps h1) (HC.out.2.keeps h1))
  have hk1 := hk0.trans h1
  clear HC hk0 h1 cV
  obtain ⟨⟨a0, a1, a2, a3, a4⟩, ⟨d0, d1, d2, d3, d4⟩⟩ := HC1.out
  go_wp2_with fail
  refine (cL.out _).mono ?_
  rintro e w2 ⟨rfl, h2⟩
  have HC2 := Lib.hid (And.intro (HC1.out.1.keeps h2) (HC1.out.2.keeps h2))
  have hk2 := hk1.trans h2
  clear HC1 hk1 h2 a0 a1 a2 a3 a4 d0 d1 d2 d3 d4
  obtain ⟨⟨a0, a1, a2, a3, a4⟩, ⟨d0, d1, d2, d3, d4⟩⟩ := HC2.out
  go_wp2_with fail
  refine (cM.out _).mono ?_
  rintro e w3 ⟨rfl, h3⟩
  have HC3 := Lib.hid (And.intro (HC2.out.1.keeps h3) (HC2.out.2.keeps h3))
  have hk3 := hk2.trans h3
  clear HC2 hk2 h3 a0 a1 a2 a3 a4 d0 d1 d2 d3 d4
  obtain ⟨⟨a0, a1, a2, a3, a4⟩, ⟨d0, d1, d2, d3, d4⟩⟩ := HC3.out
  go_wp2_with fail
  refine (cB.out _).mono ?_
  rintro e w4 ⟨rfl, h4⟩
  have HC4 := Lib.hid (And.intro (HC3.out.1.keeps h4) (HC3.out.2.keeps h4))
  have hk4 := hk3.trans h4
  clear HC3 hk3 h4 a0 a1 a2 a3 a4 d0 d1 d2 d3 d4
  obtain ⟨⟨a0, a1, a2, a3, a4⟩, ⟨d0, d1, d2, d3, d4⟩⟩ := HC4.out
  go_wp2_with fail
  refine (cD.out _).mono ?_
  rintro e w5 ⟨rfl, h5⟩
  go_wp2
  go_ret
  exact Ret.bool rfl (hk4.trans h5)

end Go.Proofs.Ytepbbdeolplhfaa
