/-
  The walk of the statement that inputs, their records and lines are what the document says.
-/
import Derived.Test.YtepbbdeolplhfaaDoorRfk
namespace Go.Proofs.YtepbbdeolplhfaaDoor
open Go.RowKit

set_option maxHeartbeats 1000000 in
theorem light_any (k code n : Int) (ok : Bool) (t : ByteArray) (w : World) (ht : t.size ≤ maxLen) : Calls Tryd.prog 12 #[inV k code n ok t] w (Ret (.bool (decide (t.size ≤ 5000))) w) := by
  unfold maxLen at ht
  unfold inV
  by_cases h : t.size ≤ 5000
  · rw [decide_eq_true h]
    go_enter Tryd.func12, Tryd.ntmps12
    go_wp2
    go_ret
    exact Ret.bool (by simp; omega) (by repeat (first | exact Keeps.refl _ | refine Keeps.alloc ?_ _))
  · rw [decide_eq_false h]
    go_enter Tryd.func12, Tryd.ntmps12
    go_wp2
    go_ret
    exact Ret.bool (by simp; omega) (by repeat (first | exact Keeps.refl _ | refine Keeps.alloc ?_ _))

set_option maxHeartbeats 1000000 in
theorem calls_heavy (k code n : Int) (ok : Bool) (t s : ByteArray) (cd : Int) (text : ByteArray) (w : World) (ht : t.size ≤ maxLen) (hs : s.size ≤ maxLen) (hx : text.size ≤ maxLen) (g : 5000 < t.size ∨ (t.size ≤ 5000 ∧ 5000 < s.size) ∨ (t.size ≤ 5000 ∧ s.size ≤ 5000 ∧ 5000 < text.size)) :
    Calls Tryd.prog 4 #[inV k code n ok t, .string s, .int .i64 cd, .string text] w (Ret (.bool true) w) := by
  have cL := Lib.hid (fun w1 => lives_any w1)
  have cG := Lib.hid (fun w1 => light_any k code n ok t w1 ht)
  unfold maxLen at hs hx
  have X0 := Lib.hid (inCells_new w k code n ok t)
  unfold inV at cG ⊢
  rcases g with g | ⟨g, g'⟩ | ⟨g, g', g''⟩
  all_goals
    first
      | rw [decide_eq_true g] at cG
      | rw [decide_eq_false (by omega)] at cG
    clear g ht
    go_enter Tryd.func4, Tryd.ntmps4
    go_wp2_with fail
    refine (cL.out _).mono ?_
    rintro e w1 ⟨rfl, h⟩
    have K1 := Lib.hid (((Keeps.refl w).alloc _).trans h)
    have X1 := Lib.hid (X0.out.keeps h)
    clear h
    obtain ⟨x0, x1, x2, x3, x4⟩ := X1.out
    go_wp2_with fail
    refine (cG.out _).mono ?_
    rintro e w2 ⟨rfl, h⟩
    have K2 := Lib.hid (K1.out.trans h)
    clear h x0 x1 x2 x3 x4
    go_wp2
    go_ret
    exact Ret.bool rfl K2.out

set_option maxHeartbeats 16000000 in
set_option maxRecDepth 100000 in
theorem calls_walk (k code n : Int) (ok : Bool) (t s : ByteArray) (cd : Int) (text : ByteArray) (c e0 : Int) (r : ByteArray) (xk xc xn : Int) (xo : Bool) (xt : ByteArray) (g : Int) (tk tc tn : Int) (tb : Bool) (tt : ByteArray) (l : ByteArray) (w : World)
    (hs : s.size ≤ 5000) (hx : text.size ≤ 5000)
    (cV : Hid (∀ w1, Calls Tryd.prog 5 #[] w1 (Ret (.bool true) w1)))
    (cG : Hid (∀ w1, Calls Tryd.prog 12 #[.agg #[.int .i64 k, .int .i64 code, .int .i64 n, .bool ok, .string t]] w1 (Ret (.bool true) w1)))
    (cB : Hid (∀ w1, Calls Tryd.prog 13 #[.agg #[.int .i64 k, .int .i64 code, .int .i64 n, .bool ok, .string t]] w1 (fun e w' => e = .returned (.tuple #[.string r, .int .i64 e0]) ∧ Keeps w1 w')))
    (cE : Hid (∀ w1, Calls Tryd.prog 14 #[.agg #[.int .i64 k, .int .i64 code, .int .i64 n, .bool ok, .string t]] w1 (fun e w' => e = .returned (.tuple #[.string r, .int .i64 e0]) ∧ Keeps w1 w')))
    (cF : Hid (∀ w1, Calls Tryd.prog 6 #[.string s] w1 (fun e w' => e = .returned (.tuple #[.agg #[.int .i64 xk, .int .i64 xc, .int .i64 xn, .bool xo, .string xt], .int .i64 g]) ∧ Keeps w1 w')))
    (cH : Hid (∀ w1, Calls Tryd.prog 15 #[.string s] w1 (fun e w' => e = .returned (.tuple #[.agg #[.int .i64 xk, .int .i64 xc, .int .i64 xn, .bool xo, .string xt], .int .i64 g]) ∧ Keeps w1 w')))
    (cC : Hid (∀ w1, Calls Tryd.prog 11 #[.agg #[.int .i64 k, .int .i64 code, .int .i64 n, .bool ok, .string t]] w1 (Ret (.int .i64 c) w1)))
    (cD : Hid (∀ w1, Calls Tryd.prog 16 #[.agg #[.int .i64 k, .int .i64 code, .int .i64 n, .bool ok, .string t]] w1 (Ret (.int .i64 c) w1)))
    (cT : Hid (∀ w1, Calls Tryd.prog 7 #[.string text] w1 (fun e w' => e = .returned (.agg #[.int .i64 tk, .int .i64 tc, .int .i64 tn, .bool tb, .string tt]) ∧ Keeps w1 w')))
    (cU : Hid (∀ w1, Calls Tryd.prog 17 #[.string text] w1 (fun e w' => e = .returned (.agg #[.int .i64 tk, .int .i64 tc, .int .i64 tn, .bool tb, .string tt]) ∧ Keeps w1 w')))
    (cM : Hid (∀ w1, Calls Tryd.prog 9 #[.int .i64 cd, .string text] w1 (fun e w' => e = .returned (.agg #[.int .i64 5, .int .i64 cd, .int .i64 0, .bool false, .string text]) ∧ Keeps w1 w')))
    (cL : Hid (∀ w1, Keeps w w1 → Calls Tryd.prog 10 #[.agg #[.int .i64 k, .int .i64 code, .int .i64 n, .bool ok, .string t]] w1 (fun e w' => e = .returned (.string l) ∧ Keeps w1 w')))
    (cR : Hid (∀ w1, Calls Tryd.prog 18 #[.agg #[.int .i64 k, .int .i64 code, .int .i64 n, .bool ok, .string t]] w1 (fun e w' => e = .returned (.string l) ∧ Keeps w1 w'))) :
    Calls Tryd.prog 4 #[.agg #[.int .i64 k, .int .i64 code, .int .i64 n, .bool ok, .string t], .string s, .int .i64 cd, .string text] w (Ret (.bool true) w) := by
  have X0 := Lib.hid (inCells_new w k code n ok t)
  unfold Ret at cC cD
  go_enter Tryd.func4, Tryd.ntmps4
  go_wp2_with fail
  refine (cV.out _).mono ?_
  rintro e w1 ⟨rfl, h⟩
  have K1 := Lib.hid (((Keeps.refl w).alloc _).trans h)
  have X1 := Lib.hid (X0.out.keeps h)
  clear h
  obtain ⟨x0, x1, x2, x3, x4⟩ := X1.out
  go_wp2_with fail
  refine (cG.out _).mono ?_
  rintro e w2 ⟨rfl, h⟩
  have K2 := Lib.hid (K1.out.trans h)
  have X2 := Lib.hid (X1.out.keeps h)
  clear h x0 x1 x2 x3 x4 K1 X1
  obtain ⟨x0, x1, x2, x3, x4⟩ := X2.out
  go_wp2_with fail
  refine (cB.out _).mono ?_
  rintro e w3 ⟨rfl, h⟩
  have K3 := Lib.hid (K2.out.trans h)
  have X3 := Lib.hid (X2.out.keeps h)
  clear h x0 x1 x2 x3 x4 K2 X2
  obtain ⟨x0, x1, x2, x3, x4⟩ := X3.out
  go_wp2_with fail
  refine (cE.out _).mono ?_
  rintro e w4 ⟨rfl, h⟩
  have K4 := Lib.hid (K3.out.trans h)
  have X4 := Lib.hid (X3.out.keeps h)
  clear h x0 x1 x2 x3 x4 K3 X3
  obtain ⟨x0, x1, x2, x3, x4⟩ := X4.out
  go_wp2_with fail
  refine (cF.out _).mono ?_
  rintro e w5 ⟨rfl, h⟩
  have K5 := Lib.hid (K4.out.trans h)
  have X5 := Lib.hid (X4.out.keeps h)
  clear h x0 x1 x2 x3 x4 K4 X4
  obtain ⟨x0, x1, x2, x3, x4⟩ := X5.out
  have K5b := Lib.hid (K5.out.alloc (.cells #[.int .i64 xk, .int .i64 xc, .int .i64 xn, .bool xo, .string xt] 24))
  have X5b := Lib.hid (X5.out.keeps (Keeps.alloc (Keeps.refl w5) (.cells #[.int .i64 xk, .int .i64 xc, .int .i64 xn, .bool xo, .string xt] 24)))
  have Z5b := Lib.hid (inCells_new w5 xk xc xn xo xt)
  clear x0 x1 x2 x3 x4
  go_wp2_with fail
  refine (cH.out _).mono ?_
  rintro e w6 ⟨rfl, h⟩
  have K6b := Lib.hid (((K5b.out.trans h).alloc (.cells #[.int .i64 xk, .int .i64 xc, .int .i64 xn, .bool xo, .string xt] 24)).drew)
  have X6b : Hid (InCells (w6.alloc (.cells #[.int .i64 xk, .int .i64 xc, .int .i64 xn, .bool xo, .string xt] 24)).drew w.heap.size k code n ok t) := Lib.hid ((X5b.out.keeps h).keeps ((Keeps.alloc (Keeps.refl w6) (.cells #[.int .i64 xk, .int .i64 xc, .int .i64 xn, .bool xo, .string xt] 24)).drew))
  have Z6b : Hid (InCells (w6.alloc (.cells #[.int .i64 xk, .int .i64 xc, .int .i64 xn, .bool xo, .string xt] 24)).drew w5.heap.size xk xc xn xo xt) := Lib.hid ((Z5b.out.keeps h).keeps ((Keeps.alloc (Keeps.refl w6) (.cells #[.int .i64 xk, .int .i64 xc, .int .i64 xn, .bool xo, .string xt] 24)).drew))
  have Y6b : Hid (InCells (w6.alloc (.cells #[.int .i64 xk, .int .i64 xc, .int .i64 xn, .bool xo, .string xt] 24)).drew w6.heap.size xk xc xn xo xt) := Lib.hid ((inCells_new w6 xk xc xn xo xt).keeps ((Keeps.refl _).drew))
  have hlt1 : w.heap.size < w5.heap.size := World.block_lt_of_cell? w5 _ X5.out.1
  have hlt2 : w5.heap.size < w6.heap.size := World.block_lt_of_cell? w6 _ (Z5b.out.keeps h).1
  clear h K5 X5 K5b X5b Z5b
  go_wp2_with fail
  have K7 := K6b
  have I7 := X6b.out
  have X7 := Z6b.out
  have Y7 := Y6b.out
  clear K6b X6b Z6b Y6b cV cG cB cE cF cH X0
  obtain ⟨a70, a71, a72, a73, a74⟩ := id I7
  obtain ⟨b70, b71, b72, b73, b74⟩ := id X7
  obtain ⟨d70, d71, d72, d73, d74⟩ := id Y7
  generalize hI : w.heap.size = I at *
  generalize hX : w5.heap.size = X at *
  generalize hY : w6.heap.size = Y at *
  have q1 : (c == c) = true := by simp
  have q2 : (r.toList == r.toList) = true := by simp
  have q3 : (e0 == e0) = true := by simp
  have q4 : (g == g) = true := by simp
  have q5 : (l.toList == l.toList) = true := by simp
  go_region_held3 (fun w' => w'.cell? ⟨I, 0, none⟩ = some (.int .i64 k) ∧ w'.cell? ⟨I, 1, none⟩ = some (.int .i64 code) ∧ w'.cell? ⟨I, 2, none⟩ = some (.int .i64 n) ∧ w'.cell? ⟨I, 3, none⟩ = some (.bool ok) ∧ w'.cell? ⟨I, 4, none⟩ = some (.string t) ∧ w'.cell? ⟨X, 0, none⟩ = some (.int .i64 xk) ∧ w'.cell? ⟨X, 1, none⟩ = some (.int .i64 xc) ∧ w'.cell? ⟨X, 2, none⟩ = some (.int .i64 xn) ∧ w'.cell? ⟨X, 3, none⟩ = some (.bool xo) ∧ w'.cell? ⟨X, 4, none⟩ = some (.string xt) ∧ w'.cell? ⟨Y, 0, none⟩ = some (.int .i64 xk) ∧ w'.cell? ⟨Y, 1, none⟩ = some (.int .i64 xc) ∧ w'.cell? ⟨Y, 2, none⟩ = some (.int .i64 xn) ∧ w'.cell? ⟨Y, 3, none⟩ = some (.bool xo) ∧ w'.cell? ⟨Y, 4, none⟩ = some (.string xt)) (exact ⟨by assumption, by assumption, by assumption, by assumption, by assumption, by assumption, by assumption, by assumption, by assumption, by assumption, by assumption, by assumption, by assumption, by assumption, by assumption⟩)
    (first | (go_at_call 11; refine (cC.out _).mono ?_; rintro e w8 ⟨rfl, h⟩; have K8 := Lib.hid (K7.out.trans h); have I8 := InCells.keeps I7 h; have X8 := InCells.keeps X7 h; have Y8 := InCells.keeps Y7 h; clear h a70 a71 a72 a73 a74 b70 b71 b72 b73 b74 d70 d71 d72 d73 d74; obtain ⟨a80, a81, a82, a83, a84⟩ := id I8; obtain ⟨b80, b81, b82, b83, b84⟩ := id X8; obtain ⟨d80, d81, d82, d83, d84⟩ := id Y8) | (go_at_call 16; refine (cD.out _).mono ?_; rintro e w9 ⟨rfl, h⟩; have K9 := Lib.hid (K8.out.trans h); have I9 := InCells.keeps I8 h; have X9 := InCells.keeps X8 h; have Y9 := InCells.keeps Y8 h; clear h a80 a81 a82 a83 a84 b80 b81 b82 b83 b84 d80 d81 d82 d83 d84; obtain ⟨a90, a91, a92, a93, a94⟩ := id I9; obtain ⟨b90, b91, b92, b93, b94⟩ := id X9; obtain ⟨d90, d91, d92, d93, d94⟩ := id Y9) | (go_at_call 7; refine (cT.out _).mono ?_; rintro e w10 ⟨rfl, h⟩; have K10 := Lib.hid (K9.out.trans h); have I10 := InCells.keeps I9 h; have X10 := InCells.keeps X9 h; have Y10 := InCells.keeps Y9 h; clear h a90 a91 a92 a93 a94 b90 b91 b92 b93 b94 d90 d91 d92 d93 d94; obtain ⟨a100, a101, a102, a103, a104⟩ := id I10; obtain ⟨b100, b101, b102, b103, b104⟩ := id X10; obtain ⟨d100, d101, d102, d103, d104⟩ := id Y10) | (go_at_call 17; refine (cU.out _).mono ?_; rintro e w11 ⟨rfl, h⟩; have K11 := Lib.hid (K10.out.trans h); have I11 := InCells.keeps I10 h; have X11 := InCells.keeps X10 h; have Y11 := InCells.keeps Y10 h; clear h a100 a101 a102 a103 a104 b100 b101 b102 b103 b104 d100 d101 d102 d103 d104; obtain ⟨a110, a111, a112, a113, a114⟩ := id I11; obtain ⟨b110, b111, b112, b113, b114⟩ := id X11; obtain ⟨d110, d111, d112, d113, d114⟩ := id Y11) | (go_at_call 9; refine (cM.out _).mono ?_; rintro e w12 ⟨rfl, h⟩; have K12 := Lib.hid (K11.out.trans h); have I12 := InCells.keeps I11 h; have X12 := InCells.keeps X11 h; have Y12 := InCells.keeps Y11 h; clear h a110 a111 a112 a113 a114 b110 b111 b112 b113 b114 d110 d111 d112 d113 d114; obtain ⟨a120, a121, a122, a123, a124⟩ := id I12; obtain ⟨b120, b121, b122, b123, b124⟩ := id X12; obtain ⟨d120, d121, d122, d123, d124⟩ := id Y12) | (go_at_call 10; refine (cL.out _ K12.out).mono ?_; rintro e w13 ⟨rfl, h⟩; have K13 := Lib.hid (K12.out.trans h); have I13 := InCells.keeps I12 h; have X13 := InCells.keeps X12 h; have Y13 := InCells.keeps Y12 h; clear h a120 a121 a122 a123 a124 b120 b121 b122 b123 b124 d120 d121 d122 d123 d124; obtain ⟨a130, a131, a132, a133, a134⟩ := id I13; obtain ⟨b130, b131, b132, b133, b134⟩ := id X13; obtain ⟨d130, d131, d132, d133, d134⟩ := id Y13) | (go_at_call 18; refine (cR.out _).mono ?_; rintro e w14 ⟨rfl, h⟩; have K14 := Lib.hid (K13.out.trans h); have I14 := InCells.keeps I13 h; have X14 := InCells.keeps X13 h; have Y14 := InCells.keeps Y13 h; clear h a130 a131 a132 a133 a134 b130 b131 b132 b133 b134 d130 d131 d132 d133 d134; obtain ⟨a140, a141, a142, a143, a144⟩ := id I14; obtain ⟨b140, b141, b142, b143, b144⟩ := id X14; obtain ⟨d140, d141, d142, d143, d144⟩ := id Y14))
  all_goals go_wp2
  all_goals go_ret
  all_goals exact Ret.bool (by first | rfl | simp) K14.out
end Go.Proofs.YtepbbdeolplhfaaDoor
