/-
  The contract of Read of package record.
-/
import Derived.Test.YtpcfcbaapnkanaaIny
import Derived.Test.YtpcfcbaapnkanaaRdc
namespace Go.Proofs.Ytpcfcbaapnkanaa
open Go.RowKit

/-- No input. -/
def Inp.zero : Inp := ⟨0, 0, 0, false, []⟩
def Inp.chk (x : Inp) : Int := Ytpcfcbaapnkanaa.chk x.k x.code x.n x.ok x.t.length
/-- What Read answers. -/
def readL (l : List UInt8) : Inp × Int :=
  match readI l with
  | .inl n => (Inp.zero, n)
  | .inr x => if x.chk = 0 then (x, 0) else (Inp.zero, x.chk)
def Reads (l : List UInt8) (w : World) (e : Ending) (w' : World) : Prop := e = .returned (.tuple #[(readL l).1.v, .int .i64 (readL l).2]) ∧ Keeps w w'

theorem zero_v : Inp.zero.v = .agg #[.int .i64 0, .int .i64 0, .int .i64 0, .bool false, .string ⟨#[]⟩] := rfl

/-- The world in which the reader works. -/
def inside (w : World) (s : ByteArray) : World := ((w.alloc (.cells #[.int .i64 0, .int .i64 0, .int .i64 0, .bool false, .string ⟨#[]⟩] 28)).alloc (.cells #[.int .i64 0] 32)).alloc (.cells #[.string s] 109)
theorem inside_rest (w : World) (s : ByteArray) : HasRest (inside w s) (w.heap.size + 1 + 1) s :=
  ⟨World.cell?_alloc_at _ _ _ _ (by simp), World.frozen?_alloc_at _ _ _ _ (by simp)⟩
theorem inside_own (w : World) (s : ByteArray) : Own5 (inside w s) w.heap.size 0 0 0 false ⟨#[]⟩ :=
  (own5_new w 0 0 0 false ⟨#[]⟩).keeps (((Keeps.refl _).alloc _).alloc _)
/-- A cell of a number. -/
def Own1 (w : World) (q : Nat) (n : Int) : Prop := w.cell? ⟨q, 0, none⟩ = some (.int .i64 n) ∧ w.frozen? ⟨q, 0, none⟩ = false
theorem Own1.lt {w : World} {q : Nat} {n : Int} (h : Own1 w q n) : q < w.heap.size := World.block_lt_of_cell? w _ h.1
theorem Own1.below {w w' : World} {B q : Nat} {n : Int} (h : Own1 w q n) (hk : Below B w w') (hq : q < B) : Own1 w' q n := ⟨(hk.cell hq).trans h.1, (hk.frozen hq).trans h.2⟩
theorem Own1.far {w : World} {q r j : Nat} {n : Int} (h : Own1 w q n) (hq : q ≠ r) (u : Value) : Own1 (w.setCell ⟨r, j, none⟩ u) q n := ⟨far_set w u hq h.1, (World.frozen?_setCell _ _ _ _).trans h.2⟩
theorem Own5.below {w w' : World} {B q : Nat} {k code n : Int} {ok : Bool} {t : ByteArray} (h : Own5 w q k code n ok t) (hk : Below B w w') (hq : q < B) : Own5 w' q k code n ok t :=
  ⟨h.1.later hk hq, (Below.frozen hk hq).trans h.2.1, (Below.frozen hk hq).trans h.2.2.1, (Below.frozen hk hq).trans h.2.2.2.1, (Below.frozen hk hq).trans h.2.2.2.2.1, (Below.frozen hk hq).trans h.2.2.2.2.2⟩
theorem inside_err (w : World) (s : ByteArray) : Own1 (inside w s) (w.heap.size + 1) 0 := by
  have h : Own1 ((w.alloc (.cells #[.int .i64 0, .int .i64 0, .int .i64 0, .bool false, .string ⟨#[]⟩] 28)).alloc (.cells #[.int .i64 0] 32)) (w.heap.size + 1) 0 :=
    ⟨World.cell?_alloc_at _ _ _ _ (by simp), World.frozen?_alloc_at _ _ _ _ (by simp)⟩
  exact h.below ((Keeps.refl _).alloc _) h.lt
theorem inside_below (w : World) (s : ByteArray) : Keeps w (inside w s) := (((Keeps.refl _).alloc _).alloc _).alloc _
theorem Own5.put {w : World} {q : Nat} {k code n : Int} {ok : Bool} {t : ByteArray} (h : Own5 w q k code n ok t) (k' code' n' : Int) (ok' : Bool) (t' : ByteArray) :
    Own5 (((((w.setCell ⟨q, 0, none⟩ (.int .i64 k')).setCell ⟨q, 1, none⟩ (.int .i64 code')).setCell ⟨q, 2, none⟩ (.int .i64 n')).setCell ⟨q, 3, none⟩ (.bool ok')).setCell ⟨q, 4, none⟩ (.string t')) q k' code' n' ok' t' := by
  obtain ⟨⟨a0, a1, a2, a3, a4⟩, b0, b1, b2, b3, b4⟩ := h
  refine ⟨five_set w q _ _ _ _ _ a0 a1 a2 a3 a4, ?_, ?_, ?_, ?_, ?_⟩
  all_goals simp only [World.frozen?_setCell]; assumption

set_option maxHeartbeats 1000000 in
set_option maxRecDepth 10000 in
/-- Behind the closure that caught a fault. -/
theorem caught (w w2 : World) (k code n : Int) (ok : Bool) (t : ByteArray) (m y : Int) (l : List UInt8) (hB : Keeps w w2) (hO : Own5 w2 w.heap.size k code n ok t) (hE : Own1 w2 (w.heap.size + 1) y) (hL : Hid (readL l = (Inp.zero, m))) (x0 x1 x4 x5 x6 x7 x8 x9 x10 x11 x12 x13 x14 x15 x16 x17 x18 : Value) :
    bodyPostD Try.prog Try.f61 (Reads l w) (Exit.panic [{ v := .iface 105 (.int .i64 m), recovered := false }]) { tmps := #[x0, x1, .pointer (some ⟨w.heap.size, 0, none⟩), .pointer (some ⟨w.heap.size + 1, 0, none⟩), x4, x5, x6, x7, x8, x9, x10, x11, x12, x13, x14, x15, x16, x17, x18], defers := [{ target := Target.fn (Fn.func 77) #[.pointer (some ⟨w.heap.size, 0, none⟩), .pointer (some ⟨w.heap.size + 1, 0, none⟩)], args := #[] }] } w2 := by
  obtain ⟨⟨a0, a1, a2, a3, a4⟩, b0, b1, b2, b3, b4⟩ := hO
  have hb0 : Below w.heap.size w w2 := hB
  obtain ⟨c0, c1, c2, c3, c4⟩ := five_set w2 w.heap.size (.int .i64 0) (.int .i64 0) (.int .i64 0) (.bool false) (.string ⟨#[]⟩) a0 a1 a2 a3 a4
  have hE2 := ((((hE.far (j := 0) (r := w.heap.size) (by omega) (.int .i64 0)).far (j := 1) (r := w.heap.size) (by omega) (.int .i64 0)).far (j := 2) (r := w.heap.size) (by omega) (.int .i64 0)).far (j := 3) (r := w.heap.size) (by omega) (.bool false)).far (j := 4) (r := w.heap.size) (by omega) (.string ⟨#[]⟩)
  have hB5 := bset (bset5 hb0 (Nat.le_refl w.heap.size) (.int .i64 0) (.int .i64 0) (.int .i64 0) (.bool false) (.string ⟨#[]⟩)) (b := w.heap.size + 1) (i := 0) (by omega) (.int .i64 m)
  have hne : w.heap.size ≠ w.heap.size + 1 := by omega
  have d0 := far_set _ (q := w.heap.size + 1) (j := 0) (.int .i64 m) hne c0
  have d1 := far_set _ (q := w.heap.size + 1) (j := 0) (.int .i64 m) hne c1
  have d2 := far_set _ (q := w.heap.size + 1) (j := 0) (.int .i64 m) hne c2
  have d3 := far_set _ (q := w.heap.size + 1) (j := 0) (.int .i64 m) hne c3
  have d4 := far_set _ (q := w.heap.size + 1) (j := 0) (.int .i64 m) hne c4
  have d5 := World.cell?_setCell_same _ ⟨w.heap.size + 1, 0, none⟩ (.int .i64 m) hE2.1
  clear c0 c1 c2 c3 c4 hE2
  refine leaves_cons (f := 77) (args := #[.pointer (some ⟨w.heap.size, 0, none⟩), .pointer (some ⟨w.heap.size + 1, 0, none⟩)]) (by simp) (by simp [go_sem]) ?_
  refine (catch_panicking w.heap.size _ _ _ _ _ _ m w2 a0 a1 a2 a3 a4 b0 b1 b2 b3 b4 hE.1 hE.2).mono ?_
  rintro e u' w'' ⟨rfl, rfl, rfl⟩
  clear a0 a1 a2 a3 a4 b0 b1 b2 b3 b4 hE hb0 hB
  generalize (((((w2.setCell ⟨w.heap.size, 0, none⟩ (.int .i64 0)).setCell ⟨w.heap.size, 1, none⟩ (.int .i64 0)).setCell ⟨w.heap.size, 2, none⟩ (.int .i64 0)).setCell ⟨w.heap.size, 3, none⟩ (.bool false)).setCell ⟨w.heap.size, 4, none⟩ (.string ⟨#[]⟩)).setCell ⟨w.heap.size + 1, 0, none⟩ (.int .i64 m) = W at *
  simp [Leaves, settle, results, Try.results61, go_sem, d0, d1, d2, d3, d4, d5]
  exact ⟨by rw [hL.out]; rfl, hB5⟩

set_option maxHeartbeats 1000000 in
set_option maxRecDepth 10000 in
theorem read_fault (l : List UInt8) (n : Int) (w : World) (hl : l.length ≤ 80000) (h : readI l = .inl n) : Calls Try.prog 61 #[.string (S l)] w (Reads l w) := by
  have hmf : ∀ (fn : Fn) (first cap : Array Value) (w : World), (Instr.makeFunc fn first cap).run Try.prog w = .ok (.func fn first cap) w := fun _ _ _ _ => rfl
  have cI := Lib.hid (input_any (w.heap.size + 1 + 1) l (inside w (S l)) hl (inside_rest w (S l)))
  rw [h] at cI
  have HL : Hid (readL l = (Inp.zero, n)) := Lib.hid (by unfold readL; rw [h])
  have O := Lib.hid (inside_own w (S l))
  have E := Lib.hid (inside_err w (S l))
  have K := Lib.hid (inside_below w (S l))
  generalize hs : S l = s at *
  unfold inside at *
  clear h hs
  go_enter_defers Try.func61, Try.ntmps61
  go_wp2_with fail
  refine cI.out.mono ?_
  rintro e w2 ⟨rfl, hb⟩
  have hO := O.out.below hb (by omega)
  have hE := E.out.below hb (by omega)
  have hB : Keeps w w2 := Below.trans K.out (Below.mono hb (by omega))
  clear cI O E K hb
  go_wp2_with fail
  exact caught w w2 _ _ _ _ _ n _ l hB hO hE HL _ _ _ _ _ _ _ _ _ _ _ _ _ _ _ _ _

set_option maxHeartbeats 1000000 in
set_option maxRecDepth 10000 in
theorem read_some (l : List UInt8) (k code n : Int) (ok : Bool) (t : List UInt8) (c : Int) (w : World) (hl : l.length ≤ 80000) (ht : t.length ≤ 80000) (h : readI l = .inr ⟨k, code, n, ok, t⟩) (hc : chk k code n ok t.length = c) (hne : c ≠ 0) : Calls Try.prog 61 #[.string (S l)] w (Reads l w) := by
  have hmf : ∀ (fn : Fn) (first cap : Array Value) (w : World), (Instr.makeFunc fn first cap).run Try.prog w = .ok (.func fn first cap) w := fun _ _ _ _ => rfl
  have cI := Lib.hid (input_any (w.heap.size + 1 + 1) l (inside w (S l)) hl (inside_rest w (S l)))
  rw [h] at cI
  have HL : Hid (readL l = (Inp.zero, c)) := Lib.hid (by unfold readL; rw [h]; unfold Inp.chk; simp only [hc, if_neg hne])
  have cC : Hid (∀ w, Calls Try.prog 51 #[inV k code n ok (S t)] w (Ret (.int .i64 c) w)) := Lib.hid (fun w => by have := check_any k code n ok (S t) w (by rw [S_size]; unfold maxLen; omega); rw [S_size, hc] at this; exact this)
  have O := Lib.hid (inside_own w (S l))
  have E := Lib.hid (inside_err w (S l))
  have K := Lib.hid (inside_below w (S l))
  generalize hs : S l = s at *
  unfold inside at *
  clear h hs hc
  unfold Tells Inp.v at cI
  unfold inV at cI cC
  dsimp only at cI
  generalize hs : S t = u at *
  clear hs ht
  go_enter_defers Try.func61, Try.ntmps61
  go_wp2_with fail
  refine cI.out.mono ?_
  rintro e w2 ⟨rfl, hb⟩
  have hO := O.out.below hb (by omega)
  have hE := E.out.below hb (by omega)
  have hB : Keeps w w2 := Below.trans K.out (Below.mono hb (by omega))
  have hO2 := Lib.hid (hO.put k code n ok u)
  have hlt := hE.lt
  have hE2 := Lib.hid (((((hE.far (j := 0) (r := w.heap.size) (by omega) (.int .i64 k)).far (j := 1) (r := w.heap.size) (by omega) (.int .i64 code)).far (j := 2) (r := w.heap.size) (by omega) (.int .i64 n)).far (j := 3) (r := w.heap.size) (by omega) (.bool ok)).far (j := 4) (r := w.heap.size) (by omega) (.string u))
  clear cI O E K hb
  obtain ⟨⟨a0, a1, a2, a3, a4⟩, b0, b1, b2, b3, b4⟩ := hO
  go_wp2_with fail
  refine (cC.out _).mono ?_
  rintro e w3 ⟨rfl, hk⟩
  have hB3 : Keeps w w3 := Below.trans (bset5 hB (Nat.le_refl w.heap.size) (.int .i64 k) (.int .i64 code) (.int .i64 n) (.bool ok) (.string u)) (Below.mono hk (by simp; omega))
  have hE3 := hE2.out.below hk hE2.out.lt
  have hO3 := hO2.out.keeps hk
  clear hO2 hE2 hk cC hB hE a0 a1 a2 a3 a4 b0 b1 b2 b3 b4 hlt
  have hcn : ¬ c = 0 := hne
  go_wp2_with fail
  exact caught w w3 _ _ _ _ _ c _ l hB3 hO3 hE3 HL _ _ _ _ _ _ _ _ _ _ _ _ _ _ _ _ _

set_option maxHeartbeats 1000000 in
set_option maxRecDepth 10000 in
theorem read_good (l : List UInt8) (k code n : Int) (ok : Bool) (t : List UInt8) (w : World) (hl : l.length ≤ 80000) (ht : t.length ≤ 80000) (h : readI l = .inr ⟨k, code, n, ok, t⟩) (hc : chk k code n ok t.length = 0) : Calls Try.prog 61 #[.string (S l)] w (Reads l w) := by
  have hmf : ∀ (fn : Fn) (first cap : Array Value) (w : World), (Instr.makeFunc fn first cap).run Try.prog w = .ok (.func fn first cap) w := fun _ _ _ _ => rfl
  have cI := Lib.hid (input_any (w.heap.size + 1 + 1) l (inside w (S l)) hl (inside_rest w (S l)))
  rw [h] at cI
  have HL : Hid (readL l = (⟨k, code, n, ok, t⟩, 0)) := Lib.hid (by unfold readL; rw [h]; unfold Inp.chk; simp only [hc, if_true])
  have cC : Hid (∀ w, Calls Try.prog 51 #[inV k code n ok (S t)] w (Ret (.int .i64 0) w)) := Lib.hid (fun w => by have := check_any k code n ok (S t) w (by rw [S_size]; unfold maxLen; omega); rw [S_size, hc] at this; exact this)
  have O := Lib.hid (inside_own w (S l))
  have E := Lib.hid (inside_err w (S l))
  have K := Lib.hid (inside_below w (S l))
  generalize hs : S l = s at *
  unfold inside at *
  clear h hs hc
  unfold Tells Inp.v at cI
  unfold inV at cI cC
  dsimp only at cI
  generalize hs : S t = u at *
  clear ht
  have HU := Lib.hid hs
  clear hs
  go_enter_defers Try.func61, Try.ntmps61
  go_wp2_with fail
  refine cI.out.mono ?_
  rintro e w2 ⟨rfl, hb⟩
  have hO := O.out.below hb (by omega)
  have hE := E.out.below hb (by omega)
  have hB : Keeps w w2 := Below.trans K.out (Below.mono hb (by omega))
  have hO2 := Lib.hid (hO.put k code n ok u)
  have hlt := hE.lt
  have hE2 := Lib.hid (((((hE.far (j := 0) (r := w.heap.size) (by omega) (.int .i64 k)).far (j := 1) (r := w.heap.size) (by omega) (.int .i64 code)).far (j := 2) (r := w.heap.size) (by omega) (.int .i64 n)).far (j := 3) (r := w.heap.size) (by omega) (.bool ok)).far (j := 4) (r := w.heap.size) (by omega) (.string u))
  clear cI O E K hb
  obtain ⟨⟨a0, a1, a2, a3, a4⟩, b0, b1, b2, b3, b4⟩ := hO
  go_wp2_with fail
  refine (cC.out _).mono ?_
  rintro e w3 ⟨rfl, hk⟩
  have hB3 : Keeps w w3 := Below.trans (bset5 hB (Nat.le_refl w.heap.size) (.int .i64 k) (.int .i64 code) (.int .i64 n) (.bool ok) (.string u)) (Below.mono hk (by simp; omega))
  have hE3 := hE2.out.below hk hE2.out.lt
  have hO3 := hO2.out.keeps hk
  clear hO2 hE2 hk cC hB hE a0 a1 a2 a3 a4 b0 b1 b2 b3 b4 hlt
  obtain ⟨⟨a0, a1, a2, a3, a4⟩, b0, b1, b2, b3, b4⟩ := hO3
  obtain ⟨e0, e1⟩ := hE3
  have hb0 : Below w.heap.size w w3 := hB3
  have hE4 := far_set w3 (r := w.heap.size + 1) (q := w.heap.size) (j := 0) (.int .i64 k) (by omega) e0
  have hE5 := far_set _ (r := w.heap.size + 1) (q := w.heap.size) (j := 1) (.int .i64 code) (by omega) hE4
  have hE6 := far_set _ (r := w.heap.size + 1) (q := w.heap.size) (j := 2) (.int .i64 n) (by omega) hE5
  have hE7 := far_set _ (r := w.heap.size + 1) (q := w.heap.size) (j := 3) (.bool ok) (by omega) hE6
  have hE8 := far_set _ (r := w.heap.size + 1) (q := w.heap.size) (j := 4) (.string u) (by omega) hE7
  obtain ⟨c0, c1, c2, c3, c4⟩ := five_set w3 w.heap.size (.int .i64 k) (.int .i64 code) (.int .i64 n) (.bool ok) (.string u) a0 a1 a2 a3 a4
  have hB5 := bset (bset5 hb0 (Nat.le_refl w.heap.size) (.int .i64 k) (.int .i64 code) (.int .i64 n) (.bool ok) (.string u)) (b := w.heap.size + 1) (i := 0) (by omega) (.int .i64 0)
  have hne : w.heap.size ≠ w.heap.size + 1 := by omega
  have d0 := far_set _ (q := w.heap.size + 1) (j := 0) (.int .i64 0) hne c0
  have d1 := far_set _ (q := w.heap.size + 1) (j := 0) (.int .i64 0) hne c1
  have d2 := far_set _ (q := w.heap.size + 1) (j := 0) (.int .i64 0) hne c2
  have d3 := far_set _ (q := w.heap.size + 1) (j := 0) (.int .i64 0) hne c3
  have d4 := far_set _ (q := w.heap.size + 1) (j := 0) (.int .i64 0) hne c4
  have d5 := World.cell?_setCell_same _ ⟨w.heap.size + 1, 0, none⟩ (.int .i64 0) hE8
  have D := Lib.hid (And.intro hB5 (And.intro d0 (And.intro d1 (And.intro d2 (And.intro d3 (And.intro d4 d5))))))
  clear hB5 d0 d1 d2 d3 d4 d5 c0 c1 c2 c3 c4 hE4 hE5 hE6 hE7 hE8 hne hb0 hB3
  go_wp2_with fail
  refine leaves_cons (f := 77) (args := #[.pointer (some ⟨w.heap.size, 0, none⟩), .pointer (some ⟨w.heap.size + 1, 0, none⟩)]) (by simp) (by simp [go_sem]) ?_
  refine (catch_idle ⟨w.heap.size, 0, none⟩ ⟨w.heap.size + 1, 0, none⟩ _).mono ?_
  rintro e u' w'' ⟨rfl, rfl, rfl⟩
  obtain ⟨hB5, d0, d1, d2, d3, d4, d5⟩ := D.out
  clear a0 a1 a2 a3 a4 b0 b1 b2 b3 b4 e0 e1 D
  generalize (((((w3.setCell ⟨w.heap.size, 0, none⟩ (.int .i64 k)).setCell ⟨w.heap.size, 1, none⟩ (.int .i64 code)).setCell ⟨w.heap.size, 2, none⟩ (.int .i64 n)).setCell ⟨w.heap.size, 3, none⟩ (.bool ok)).setCell ⟨w.heap.size, 4, none⟩ (.string u)).setCell ⟨w.heap.size + 1, 0, none⟩ (.int .i64 0) = W at *
  simp [Leaves, settle, results, Try.results61, go_sem, d0, d1, d2, d3, d4, d5]
  exact ⟨by rw [HL.out, ← HU.out]; rfl, hB5⟩

theorem readI_len (l : List UInt8) {x : Inp} (h : readI l = .inr x) : x.t.length ≤ l.length := by
  unfold readI at h
  split at h
  · cases h
  · rename_i c r
    split at h
    · injection h with h; subst h; simp
    split at h
    · unfold numI at h
      split at h
      · cases h
      split at h
      · cases h
      injection h with h; subst h; simp
    split at h
    · unfold replyI at h
      split at h
      · cases h
      split at h
      · cases h
      split at h
      · cases h
      split at h
      · cases h
      injection h with h; subst h; simp
    split at h
    · unfold numI at h
      split at h
      · cases h
      split at h
      · cases h
      injection h with h; subst h; simp
    split at h
    · split at h
      · cases h
      · injection h with h; subst h; simp; omega
    split at h
    · split at h
      · injection h with h; subst h; simp
      · cases h
    · cases h

theorem read_any (l : List UInt8) (w : World) (hl : l.length ≤ 80000) : Calls Try.prog 61 #[.string (S l)] w (Reads l w) := by
  cases h : readI l with
  | inl n => exact read_fault l n w hl h
  | inr x =>
    have ht : x.t.length ≤ 80000 := Nat.le_trans (readI_len l h) hl
    obtain ⟨k, code, n, ok, t⟩ := x
    by_cases hc : chk k code n ok t.length = 0
    · exact read_good l k code n ok t w hl ht h hc
    · exact read_some l k code n ok t _ w hl ht h rfl hc
end Go.Proofs.Ytpcfcbaapnkanaa
