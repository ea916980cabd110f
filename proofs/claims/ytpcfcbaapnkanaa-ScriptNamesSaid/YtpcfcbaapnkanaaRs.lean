/-
  The reader's step.
-/
import Derived.Test.YtpcfcbaapnkanaaRl
namespace Go.Proofs.Ytpcfcbaapnkanaa
open Go.RowKit

/-- A block of cells that may be written. -/
def Blk (w : World) (q : Nat) (cs : Array Value) (t : TypeId) : Prop := w.heap[q]? = some (.cells cs t (0, 0))
theorem Blk.new (w : World) (cs : Array Value) (t : TypeId) : Blk (w.alloc (.cells cs t)) w.heap.size cs t := heap_alloc_new w _
theorem Blk.keeps {w w' : World} {q : Nat} {cs : Array Value} {t : TypeId} (h : Blk w q cs t) (k : Keeps w w') : Blk w' q cs t := (k.block q (blk_lt h)).trans h
theorem Blk.alloc {w : World} {q : Nat} {cs : Array Value} {t : TypeId} (h : Blk w q cs t) (o : Obj) : Blk (w.alloc o) q cs t := h.keeps ((Keeps.refl w).alloc o)
theorem Blk.only {g : Nat} {w w' : World} {q : Nat} {cs : Array Value} {t : TypeId} (h : Blk w q cs t) (k : Only g w w') (hq : q ≠ g) : Blk w' q cs t := (k.block q (blk_lt h) hq).trans h
theorem Blk.set {w : World} {q : Nat} {cs : Array Value} {t : TypeId} (h : Blk w q cs t) (j : Nat) (v : Value) : Blk (w.setCell ⟨q, j, none⟩ v) q (cs.setIfInBounds j v) t := by
  unfold Blk World.setCell at *
  simp only [Array.getElem?_modify, h]
  simp
theorem Blk.far {w : World} {q r : Nat} {cs : Array Value} {t : TypeId} (h : Blk w q cs t) (hq : q ≠ r) (j : Nat) (v : Value) : Blk (w.setCell ⟨r, j, none⟩ v) q cs t := by
  unfold Blk at *
  rw [Below.heap_setCell w ⟨r, j, none⟩ v q hq]
  exact h
theorem Blk.cell {w : World} {q : Nat} {cs : Array Value} {t : TypeId} (h : Blk w q cs t) {j : Nat} {v : Value} (hj : cs[j]? = some v) : w.cell? ⟨q, j, none⟩ = some v := by
  rw [Lib.cell_of_heap h]; exact hj
theorem Blk.frozen {w : World} {q : Nat} {cs : Array Value} {t : TypeId} (h : Blk w q cs t) (j : Nat) : w.frozen? ⟨q, j, none⟩ = false := by
  unfold Blk at h
  simp [World.frozen?, h]
theorem Blk.seven {w : World} {q : Nat} {a0 a1 a2 a3 a4 a5 a6 : Value} {t : TypeId} (h : Blk w q #[a0, a1, a2, a3, a4, a5, a6] t) :
    w.cell? ⟨q, 0, none⟩ = some a0 ∧ w.cell? ⟨q, 1, none⟩ = some a1 ∧ w.cell? ⟨q, 2, none⟩ = some a2 ∧ w.cell? ⟨q, 3, none⟩ = some a3 ∧ w.cell? ⟨q, 4, none⟩ = some a4 ∧ w.cell? ⟨q, 5, none⟩ = some a5 ∧ w.cell? ⟨q, 6, none⟩ = some a6 :=
  ⟨h.cell rfl, h.cell rfl, h.cell rfl, h.cell rfl, h.cell rfl, h.cell rfl, h.cell rfl⟩
theorem Blk.sets {w : World} {q : Nat} {a0 a1 a2 a3 a4 a5 a6 : Value} {t : TypeId} (h : Blk w q #[a0, a1, a2, a3, a4, a5, a6] t) (b0 b1 b2 b3 b4 b5 b6 : Value) :
    Blk (((((((w.setCell ⟨q, 0, none⟩ b0).setCell ⟨q, 1, none⟩ b1).setCell ⟨q, 2, none⟩ b2).setCell ⟨q, 3, none⟩ b3).setCell ⟨q, 4, none⟩ b4).setCell ⟨q, 5, none⟩ b5).setCell ⟨q, 6, none⟩ b6) q #[b0, b1, b2, b3, b4, b5, b6] t := by
  have h7 := ((((((h.set 0 b0).set 1 b1).set 2 b2).set 3 b3).set 4 b4).set 5 b5).set 6 b6
  have e : (((((((#[a0, a1, a2, a3, a4, a5, a6].setIfInBounds 0 b0).setIfInBounds 1 b1).setIfInBounds 2 b2).setIfInBounds 3 b3).setIfInBounds 4 b4).setIfInBounds 5 b5).setIfInBounds 6 b6 : Array Value) = #[b0, b1, b2, b3, b4, b5, b6] := by simp
  rw [e] at h7
  exact h7
theorem Blk.set6 {w : World} {q : Nat} {a0 a1 a2 a3 a4 a5 a6 : Value} {t : TypeId} (h : Blk w q #[a0, a1, a2, a3, a4, a5, a6] t) (b6 : Value) : Blk (w.setCell ⟨q, 6, none⟩ b6) q #[a0, a1, a2, a3, a4, a5, b6] t := by
  have h7 := h.set 6 b6
  have e : (#[a0, a1, a2, a3, a4, a5, a6].setIfInBounds 6 b6 : Array Value) = #[a0, a1, a2, a3, a4, a5, b6] := by simp
  rw [e] at h7
  exact h7
theorem Blk.fz7 {w : World} {q : Nat} {cs : Array Value} {t : TypeId} (h : Blk w q cs t) :
    w.frozen? ⟨q, 0, none⟩ = false ∧ w.frozen? ⟨q, 1, none⟩ = false ∧ w.frozen? ⟨q, 2, none⟩ = false ∧ w.frozen? ⟨q, 3, none⟩ = false ∧ w.frozen? ⟨q, 4, none⟩ = false ∧ w.frozen? ⟨q, 5, none⟩ = false ∧ w.frozen? ⟨q, 6, none⟩ = false :=
  ⟨h.frozen _, h.frozen _, h.frozen _, h.frozen _, h.frozen _, h.frozen _, h.frozen _⟩
theorem Only.sets {g : Nat} {a w : World} {q : Nat} (h : Only g a w) (hq : a.heap.size ≤ q) (b0 b1 b2 b3 b4 b5 b6 : Value) :
    Only g a (((((((w.setCell ⟨q, 0, none⟩ b0).setCell ⟨q, 1, none⟩ b1).setCell ⟨q, 2, none⟩ b2).setCell ⟨q, 3, none⟩ b3).setCell ⟨q, 4, none⟩ b4).setCell ⟨q, 5, none⟩ b5).setCell ⟨q, 6, none⟩ b6) :=
  ((((((h.set _ (.inr hq) b0).set _ (.inr hq) b1).set _ (.inr hq) b2).set _ (.inr hq) b3).set _ (.inr hq) b4).set _ (.inr hq) b5).set _ (.inr hq) b6
/-- Cells of block q are set: what is elsewhere stands. -/
theorem Only.of_sets (q : Nat) (w : World) (b0 b1 b2 b3 b4 b5 b6 : Value) :
    Only q w (((((((w.setCell ⟨q, 0, none⟩ b0).setCell ⟨q, 1, none⟩ b1).setCell ⟨q, 2, none⟩ b2).setCell ⟨q, 3, none⟩ b3).setCell ⟨q, 4, none⟩ b4).setCell ⟨q, 5, none⟩ b5).setCell ⟨q, 6, none⟩ b6) :=
  (((((((Only.refl q w).set _ (.inl rfl) b0).set _ (.inl rfl) b1).set _ (.inl rfl) b2).set _ (.inl rfl) b3).set _ (.inl rfl) b4).set _ (.inl rfl) b5).set _ (.inl rfl) b6
theorem HasRest.only {w w' : World} {g q : Nat} {s : ByteArray} (h : HasRest w g s) (k : Only q w w') (hq : g ≠ q) : HasRest w' g s := h.blk (k.block g h.lt hq)
theorem Only.row_ne {q : Nat} {w w' : World} (h : Only q w w') {B e s n : Nat} {v : Value} {xs : List Value} (hr : w.ownsRow B e s v n xs) (hne : v.ownBlock ≠ some q) : w'.ownsRow B e s v n xs :=
  ⟨hr.1, hr.2.imp id (fun ⟨g0, cap, cur, e, hb, hg, r⟩ => ⟨g0, cap, cur, e, hb, (h.block _ (blk_lt hg) (fun e2 => hne (by rw [e]; simp [Value.ownBlock, e2]))).trans hg, r⟩)⟩

/-- A step that was read. -/
def Vm (B : Nat) (s : St) (w : World) (v : Value) : Prop := ∃ m : Ms, v = .agg (msC m) ∧ m.s = s ∧ MsOwn w B m
theorem rd_bad {t : List UInt8} {n : Int} (hn : n ≠ 0) (h : readL t = (Inp.zero, n)) : K0.rd t = .error n := by
  show (if (readL t).2 = 0 then _ else _) = _
  rw [h, if_neg hn]
theorem rd_good {t : List UInt8} {x : Inp} (h : readL t = (x, 0)) : K0.rd t = .ok x := by
  show (if (readL t).2 = 0 then _ else _) = _
  rw [h, if_pos rfl]
theorem PS.take_len {n : Nat} {l a r : List UInt8} (h : PS.takeR n l = .ok (a, r)) : r.length ≤ l.length ∧ a.length = n := by
  obtain ⟨rfl, h2⟩ := PS.take_back h
  exact ⟨by rw [List.length_append]; omega, h2⟩
theorem PS.byte_len {n : Nat} {l r : List UInt8} (h : PS.byteR l = .ok (n, r)) : r.length ≤ l.length ∧ n < 256 := by
  obtain ⟨rfl, h2⟩ := PS.byte_back h
  exact ⟨by rw [List.length_append]; omega, h2⟩

set_option maxHeartbeats 8000000 in
set_option maxRecDepth 100000 in
theorem step_any (g : Nat) (l : List UInt8) (w : World) (hs : l.length ≤ 6000000) (h : HasRest w g (S l)) : Calls Try.prog 48 #[.pointer (some ⟨g, 0, none⟩)] w (Rds (PS.stepR K0) (Vm w.heap.size) g l w) := by
  have hgl := h.lt
  have hmf : ∀ (fn : Fn) (first cap : Array Value) (w : World), (Instr.makeFunc fn first cap).run Try.prog w = .ok (.func fn first cap) w := fun _ _ _ _ => rfl
  have c1 := Lib.hid (byte_any g l (w.alloc (.cells #[.bool false, .int .i64 0, .int .i64 0, .int .i64 0, .bool false, .string ⟨#[]⟩, .slice none 0 0] 31)) hs (h.alloc _))
  have R0 := Lib.hid (Blk.new w #[.bool false, .int .i64 0, .int .i64 0, .int .i64 0, .bool false, .string ⟨#[]⟩, .slice none 0 0] 31)
  have O0 := Lib.hid ((Only.refl g w).alloc (.cells #[.bool false, .int .i64 0, .int .i64 0, .int .i64 0, .bool false, .string ⟨#[]⟩, .slice none 0 0] 31))
  have hne : w.heap.size ≠ g := by omega
  clear h
  go_enter Try.func48, Try.ntmps48
  go_wp2_with fail
  refine c1.out.mono ?_
  rintro e w1 hR
  cases hb : PS.byteR l with
  | error e0 =>
    obtain ⟨ho, rfl⟩ := Rds.of_error hb hR
    have HE := Lib.hid (show PS.stepR K0 l = .error e0 from by unfold PS.stepR PS.Rd.bind; rw [hb])
    have HO := Lib.hid (O0.out.trans ho)
    clear hR ho hb
    go_wp2
    exact ⟨rfl, Rds.fault (V := Vm w.heap.size) HE.out HO.out⟩
  | ok q =>
    obtain ⟨c, l1⟩ := q
    obtain ⟨ho, v, rfl, rfl, hr⟩ := Rds.of_ok hb hR
    have HO1 := Lib.hid (O0.out.trans ho)
    have R1 := Lib.hid (R0.out.only ho hne)
    have hl1 := PS.byte_len hb
    have HB := Lib.hid hb
    by_cases hc : 1 < c
    · have HE := Lib.hid (show PS.stepR K0 l = .error 5 from by unfold PS.stepR PS.Rd.bind; rw [hb]; simp only; rw [if_pos hc]; rfl)
      have f1 : decide ((1 : Int) < (c : Int)) = true := by simp; omega
      have f1' : decide (1 < c) = true := by simpa using hc
      clear hR ho hb hr
      go_wp2
      exact ⟨rfl, Rds.fault (V := Vm w.heap.size) HE.out HO1.out⟩
    · have c2 := Lib.hid (numS_any g l1 w1 (Nat.le_trans hl1.1 hs) hr)
      have f1 : decide ((1 : Int) < (c : Int)) = false := by simp; omega
      have f1' : decide (1 < c) = false := by simpa using hc
      have HC := Lib.hid hc
      have hcc : c = 0 ∨ c = 1 := by omega
      have HCC := Lib.hid hcc
      clear hR ho hb hr hc hcc
      go_wp2_with fail
      refine c2.out.mono ?_
      rintro e w2 hR
      cases hb : PS.numR l1 with
      | error e0 =>
        obtain ⟨ho, rfl⟩ := Rds.of_error hb hR
        have HE := Lib.hid (show PS.stepR K0 l = .error e0 from by unfold PS.stepR PS.Rd.bind; rw [HB.out]; simp only; rw [if_neg HC.out, hb])
        have HO := Lib.hid (HO1.out.trans ho)
        clear hR ho hb
        go_wp2
        exact ⟨rfl, Rds.fault (V := Vm w.heap.size) HE.out HO.out⟩
      | ok q =>
        obtain ⟨n, l2⟩ := q
        obtain ⟨ho, v, rfl, rfl, hr⟩ := Rds.of_ok hb hR
        have HO2 := Lib.hid (HO1.out.trans ho)
        have R2 := Lib.hid (R1.out.only ho hne)
        have hl2 := PS.numR_len hb
        have hn2 := (PS.num_back hb).2
        have HB2 := Lib.hid hb
        have c3 := Lib.hid (take_any g n l2 w2 (Nat.le_trans hl2 (Nat.le_trans hl1.1 hs)) hr)
        clear hR ho hb hr
        go_wp2_with fail
        refine c3.out.mono ?_
        rintro e w3 hR
        cases hb : PS.takeR n l2 with
        | error e0 =>
          obtain ⟨ho, rfl⟩ := Rds.of_error hb hR
          have HE := Lib.hid (show PS.stepR K0 l = .error e0 from by unfold PS.stepR PS.Rd.bind; rw [HB.out]; simp only; rw [if_neg HC.out, HB2.out]; simp only; rw [hb])
          have HO := Lib.hid (HO2.out.trans ho)
          clear hR ho hb
          go_wp2
          exact ⟨rfl, Rds.fault (V := Vm w.heap.size) HE.out HO.out⟩
        | ok q =>
          obtain ⟨t, l3⟩ := q
          obtain ⟨ho, v, rfl, rfl, hr⟩ := Rds.of_ok hb hR
          have HO3 := Lib.hid (HO2.out.trans ho)
          have R3 := Lib.hid (R2.out.only ho hne)
          have hl3 := PS.take_len hb
          have HB3 := Lib.hid hb
          have c4 := Lib.hid (read_any t w3 (by rw [hl3.2]; omega))
          have HR3 := Lib.hid hr
          clear hR ho hb hr
          go_wp2_with fail
          refine c4.out.mono ?_
          rintro e w4 ⟨rfl, k4⟩
          have HO4 := Lib.hid (HO3.out.keeps k4)
          have R4 := Lib.hid (R3.out.keeps k4)
          have HR4 := Lib.hid (HR3.out.keeps k4)
          clear k4 c4
          rcases readL_cases t with ⟨n4, hn4, e4⟩ | ⟨x, e4, x1, x2, x3⟩
          · have HE := Lib.hid (show PS.stepR K0 l = .error n4 from by unfold PS.stepR PS.Rd.bind; rw [HB.out]; simp only; rw [if_neg HC.out, HB2.out]; simp only; rw [HB3.out]; simp only; unfold PS.recR; rw [rd_bad hn4 e4])
            have HO5 := Lib.hid (HO4.out.alloc (.cells #[.int .i64 0, .int .i64 0, .int .i64 0, .bool false, .string ⟨#[]⟩] 28))
            rw [e4, zero_v]
            have f4 : (n4 != 0) = true := by simpa using hn4
            clear e4
            go_wp2
            exact ⟨rfl, Rds.fault (V := Vm w.heap.size) HE.out HO5.out⟩
          · have HE0 := Lib.hid (show PS.stepR K0 l = (if c = 1 then PS.Rd.bind PS.cutsR fun y => PS.Rd.pure ⟨true, x, y⟩ else PS.Rd.pure ⟨false, x, []⟩ : PS.Rd St) l3 from by unfold PS.stepR; unfold PS.Rd.bind; rw [HB.out]; simp only; rw [if_neg HC.out, HB2.out]; simp only; rw [HB3.out]; simp only; unfold PS.recR; rw [rd_good e4])
            rw [e4]
            clear e4 x1 x2 x3 f1 f1'
            obtain ⟨xk, xc, xn, xo, xt⟩ := x
            unfold Inp.v inV
            simp only
            have HO5 := Lib.hid (HO4.out.alloc (.cells #[.int .i64 xk, .int .i64 xc, .int .i64 xn, .bool xo, .string (S xt)] 28))
            have R5 := Lib.hid (R4.out.alloc (.cells #[.int .i64 xk, .int .i64 xc, .int .i64 xn, .bool xo, .string (S xt)] 28))
            have HR5 := Lib.hid (HR4.out.alloc (.cells #[.int .i64 xk, .int .i64 xc, .int .i64 xn, .bool xo, .string (S xt)] 28))
            rcases HCC.out with rfl | rfl
            · have HE := Lib.hid (show PS.stepR K0 l = .ok (⟨false, ⟨xk, xc, xn, xo, xt⟩, []⟩, l3) from by rw [HE0.out, if_neg (by decide)]; rfl)
              have HO6 := Lib.hid (HO5.out.alloc (.cells #[.bool false, .int .i64 xk, .int .i64 xc, .int .i64 xn, .bool xo, .string (S xt), .slice none 0 0] 31))
              have R6 := Lib.hid (R5.out.alloc (.cells #[.bool false, .int .i64 xk, .int .i64 xc, .int .i64 xn, .bool xo, .string (S xt), .slice none 0 0] 31))
              have HR6 := Lib.hid (HR5.out.alloc (.cells #[.bool false, .int .i64 xk, .int .i64 xc, .int .i64 xn, .bool xo, .string (S xt), .slice none 0 0] 31))
              obtain ⟨a0, a1, a2, a3, a4, a5, a6⟩ := R6.out.seven
              obtain ⟨z0, z1, z2, z3, z4, z5, z6⟩ := R6.out.fz7
              go_wp2
              obtain ⟨y0, y1, y2, y3, y4, y5, y6⟩ := (R6.out.sets (.bool false) (.int .i64 xk) (.int .i64 xc) (.int .i64 xn) (.bool xo) (.string (S xt)) (.slice none 0 0)).seven
              exact bodyPost_ret (v := .agg (msC ⟨⟨false, ⟨xk, xc, xn, xo, xt⟩, []⟩, none, 0⟩)) (by simp [results, Try.results48, go_sem, msC, y0, y1, y2, y3, y4, y5, y6]) rfl (Rds.ok HE.out (HO6.out.sets (Nat.le_refl _) _ _ _ _ _ _ _) ⟨_, rfl, rfl, SRow.nil _ _ _ _ _⟩ (HR6.out.only (Only.of_sets _ _ _ _ _ _ _ _ _) (Ne.symm hne)))
            · have HE1 := Lib.hid (show PS.stepR K0 l = PS.Rd.bind PS.cutsR (fun y => PS.Rd.pure ⟨true, ⟨xk, xc, xn, xo, xt⟩, y⟩) l3 from by rw [HE0.out, if_pos rfl])
              have HO6 := Lib.hid (HO5.out.alloc (.cells #[.bool true, .int .i64 xk, .int .i64 xc, .int .i64 xn, .bool xo, .string (S xt), .slice none 0 0] 31))
              have R6 := Lib.hid (R5.out.alloc (.cells #[.bool true, .int .i64 xk, .int .i64 xc, .int .i64 xn, .bool xo, .string (S xt), .slice none 0 0] 31))
              have T6 := Lib.hid (Blk.new (w4.alloc (.cells #[.int .i64 xk, .int .i64 xc, .int .i64 xn, .bool xo, .string (S xt)] 28)) #[.bool true, .int .i64 xk, .int .i64 xc, .int .i64 xn, .bool xo, .string (S xt), .slice none 0 0] 31)
              have HR6 := Lib.hid (HR5.out.alloc (.cells #[.bool true, .int .i64 xk, .int .i64 xc, .int .i64 xn, .bool xo, .string (S xt), .slice none 0 0] 31))
              have hl3' : l3.length ≤ 6000000 := by omega
              have hsz4 : w.heap.size ≤ w4.heap.size := HO4.out.size
              have c5 := Lib.hid (byte_any g l3 _ hl3' HR6.out)
              go_wp2_with fail
              refine c5.out.mono ?_
              rintro e w7 hR
              cases hb : PS.byteR l3 with
              | error e0 =>
                obtain ⟨ho, rfl⟩ := Rds.of_error hb hR
                have HE := Lib.hid (show PS.stepR K0 l = .error e0 from by rw [HE1.out]; unfold PS.Rd.bind PS.cutsR PS.Rd.bind; rw [hb])
                have HO := Lib.hid (HO6.out.trans ho)
                clear hR ho hb
                go_wp2
                exact ⟨rfl, Rds.fault (V := Vm w.heap.size) HE.out HO.out⟩
              | ok q =>
                obtain ⟨nc, l4⟩ := q
                obtain ⟨ho, v, rfl, rfl, hr⟩ := Rds.of_ok hb hR
                have HO7 := Lib.hid (HO6.out.trans ho)
                have R7 := Lib.hid (R6.out.only ho hne)
                have T7 := Lib.hid (T6.out.only ho (by simp; omega))
                have hl4 := PS.byte_len hb
                have HB7 := Lib.hid hb
                have c6 := Lib.hid (listI_any g nc l4 w7 (Nat.le_trans hl4.1 hl3') (by omega) hr)
                have hsz7 : w4.heap.size + 1 < w7.heap.size := by have := blk_lt T7.out; simpa using this
                clear hR ho hb hr c5
                go_wp2_with fail
                refine c6.out.mono ?_
                rintro e w8 hR
                cases hb : PS.listR PS.numR nc l4 with
                | error e0 =>
                  obtain ⟨ho, rfl⟩ := Rds.of_error hb hR
                  have HE := Lib.hid (show PS.stepR K0 l = .error e0 from by rw [HE1.out]; unfold PS.Rd.bind PS.cutsR PS.Rd.bind; rw [HB7.out]; simp only; rw [hb])
                  have HO := Lib.hid (HO7.out.trans ho)
                  clear hR ho hb
                  go_wp2
                  exact ⟨rfl, Rds.fault (V := Vm w.heap.size) HE.out HO.out⟩
                | ok q =>
                  obtain ⟨ys, l5⟩ := q
                  obtain ⟨ho, v, rfl, hcr, hr⟩ := Rds.of_ok hb hR
                  have HE2 := Lib.hid (show PS.stepR K0 l = .ok (⟨true, ⟨xk, xc, xn, xo, xt⟩, ys.map Int.ofNat⟩, l5) from by rw [HE1.out]; unfold PS.Rd.bind PS.cutsR PS.Rd.bind; rw [HB7.out]; simp only; rw [hb]; rfl)
                  unfold Vc at hcr
                  generalize ys.map Int.ofNat = cs at *
                  obtain ⟨A, cc, rfl, -⟩ := CutRow.cuts hcr
                  have HO8 := Lib.hid (HO7.out.trans ho)
                  have R8 := Lib.hid (R7.out.only ho hne)
                  have T8 := Lib.hid (T7.out.only ho (by simp; omega))
                  have HCR := Lib.hid hcr
                  have HR8 := Lib.hid hr
                  have hln := (World.ownsRow.lt hcr)
                  clear hR ho hb hr hcr c6
                  have e9 : (w4.alloc (.cells #[.int .i64 xk, .int .i64 xc, .int .i64 xn, .bool xo, .string (S xt)] 28)).heap.size = w4.heap.size + 1 := by simp
                  rw [e9] at T8
                  have T9 := Lib.hid (T8.out.set6 (.slice A cs.length cc))
                  have R9 := Lib.hid (R8.out.far (r := w4.heap.size + 1) (by omega) 6 (.slice A cs.length cc))
                  have HO9 := Lib.hid (HO8.out.set ⟨w4.heap.size + 1, 6, none⟩ (.inr (by show w.heap.size ≤ w4.heap.size + 1; omega)) (.slice A cs.length cc))
                  have HR9 := Lib.hid (HR8.out.only ((Only.refl (w4.heap.size + 1) w8).set ⟨w4.heap.size + 1, 6, none⟩ (.inl rfl) (.slice A cs.length cc)) (by omega))
                  have hq1 : ∀ k, (Value.slice A cs.length cc).ownBlock = some k → k ≠ w4.heap.size + 1 := fun k hk => by have := (hln k hk).1; omega
                  have HCR9 := Lib.hid (((Only.refl (w4.heap.size + 1) w8).set ⟨w4.heap.size + 1, 6, none⟩ (.inl rfl) (.slice A cs.length cc)).row_ne HCR.out (fun e => hq1 _ e rfl))
                  have HCRz := Lib.hid ((Only.of_sets w.heap.size (w8.setCell ⟨w4.heap.size + 1, 6, none⟩ (.slice A cs.length cc)) (.bool true) (.int .i64 xk) (.int .i64 xc) (.int .i64 xn) (.bool xo) (.string (S xt)) (.slice A cs.length cc)).row_ne HCR9.out (fun e => by have := (hln _ e).1; omega))
                  generalize hnl : cs.length = nl at *
                  have HNL := Lib.hid hnl
                  clear hnl
                  obtain ⟨t0, t1, t2, t3, t4, t5, t6⟩ := T8.out.seven
                  obtain ⟨s0, s1, s2, s3, s4, s5, s6⟩ := T8.out.fz7
                  obtain ⟨u0, u1, u2, u3, u4, u5, u6⟩ := T9.out.seven
                  obtain ⟨a0, a1, a2, a3, a4, a5, a6⟩ := R9.out.seven
                  obtain ⟨z0, z1, z2, z3, z4, z5, z6⟩ := R9.out.fz7
                  clear hln hq1
                  go_wp2
                  obtain ⟨y0, y1, y2, y3, y4, y5, y6⟩ := (R9.out.sets (.bool true) (.int .i64 xk) (.int .i64 xc) (.int .i64 xn) (.bool xo) (.string (S xt)) (.slice A nl cc)).seven
                  refine bodyPost_ret (v := .agg #[.bool true, .int .i64 xk, .int .i64 xc, .int .i64 xn, .bool xo, .string (S xt), .slice A nl cc]) (by simp [results, Try.results48, go_sem, y0, y1, y2, y3, y4, y5, y6]) rfl (Rds.ok HE2.out (HO9.out.sets (Nat.le_refl _) _ _ _ _ _ _ _) ⟨⟨⟨true, ⟨xk, xc, xn, xo, xt⟩, cs⟩, A, cc⟩, ?_, rfl, ?_⟩ (HR9.out.only (Only.of_sets _ _ _ _ _ _ _ _ _) (Ne.symm hne)))
                  · unfold msC
                    simp only
                    rw [HNL.out]
                  · unfold MsOwn CutRow SRow
                    simp only
                    rw [HNL.out]
                    have h9 := HCRz.out
                    refine ⟨h9.1, h9.2.imp id ?_⟩
                    rintro ⟨g0, cap, cur, e1, hb0, hg0, r0⟩
                    exact ⟨g0, cap, cur, e1, by have := hsz7; omega, hg0, r0⟩
end Go.Proofs.Ytpcfcbaapnkanaa
