/-
  A transaction begins.
-/
import Derived.Test.YtfapilgmgjmfeaaGreatDoorSml
namespace Go.Proofs.YtfapilgmgjmfeaaGreatDoor
open Go.RowKit

/-- A reading in memory. -/
def RdgAt (w : World) (r m N : Nat) (rd : Rdg) : Prop := w.heap[r]? = some (.cells #[.map (some m), .int .i64 rd.last] 54 (0, 0)) ∧ IsMapI lifeE w m N rd.lives
theorem RdgAt.ne {w : World} {r m N : Nat} {rd : Rdg} (h : RdgAt w r m N rd) : r ≠ m := fun e => by
  obtain ⟨h1, D, ⟨es, clock, hb, _⟩, _⟩ := h
  rw [e, hb] at h1
  cases h1
theorem RdgAt.only {X : List Nat} {w w' : World} {r m N : Nat} {rd : Rdg} (h : RdgAt w r m N rd) (k : Only X w w') (h1 : r ∉ X) (h2 : m ∉ X) : RdgAt w' r m N rd := ⟨(k.block r (blk_lt h.1) h1).trans h.1, h.2.only k h2⟩
theorem RdgAt.keeps {w w' : World} {r m N : Nat} {rd : Rdg} (h : RdgAt w r m N rd) (k : Keeps w w') : RdgAt w' r m N rd := ⟨(k.block r (blk_lt h.1)).trans h.1, h.2.keeps k⟩
theorem RdgAt.cells {w : World} {r m N : Nat} {rd : Rdg} (h : RdgAt w r m N rd) : w.cell? ⟨r, 0, none⟩ = some (.map (some m)) ∧ w.cell? ⟨r, 1, none⟩ = some (.int .i64 rd.last) ∧ w.frozen? ⟨r, 1, none⟩ = false :=
  ⟨by rw [Lib.cell_of_heap h.1]; rfl, by rw [Lib.cell_of_heap h.1]; rfl, Lib.frozen_of_heap h.1 1⟩
/-- What a step of a reading leaves. -/
def RetT (r m N : Nat) (p : Bool × Rdg) (w : World) (e : Ending) (w' : World) : Prop := e = .returned (.bool p.1) ∧ (∃ M, M ≤ N + 1 ∧ RdgAt w' r m M p.2) ∧ Only [r, m] w w'
theorem Keeps.toOnly {w w' : World} (k : Keeps w w') (X : List Nat) : Only X w w' := (Only.refl X w).keeps k

set_option maxHeartbeats 4000000 in
set_option maxRecDepth 100000 in
theorem begins_no (r m N : Nat) (rd : Rdg) (n : Nt) (w : World) (h : RdgAt w r m N rd) (hl : 0 ≤ rd.last) (hl2 : rd.last ≤ 1000000000000000000) (hb : ¬ (n.txn = rd.last + 1 ∧ isAct n.act.kind = true)) :
    Calls Tryz.prog 59 #[.pointer (some ⟨r, 0, none⟩), .agg (ntC n)] w (RetT r m N (false, rd) w) := by
  obtain ⟨c0, c1, -⟩ := h.cells
  have HH := Lib.hid h
  have K1 := Lib.hid ((Keeps.refl w).alloc (.cells (ntC n) 29))
  have d0 := cell_al c0 (.cells (ntC n) 29)
  have d1 := cell_al c1 (.cells (ntC n) 29)
  obtain ⟨k, t, ⟨ak, ro, s, c, d⟩, co, x⟩ := n
  unfold ntC at *
  simp only at *
  have cA := Lib.hid (fun w => isAct_any ak w)
  have hw : IntKind.i64.wrap (rd.last + 1) = rd.last + 1 := IntWalk.i64_in _ (by omega)
  clear h c0 c1
  generalize rd.last = la at *
  by_cases h1 : t = la + 1
  · have h2 : isAct ak = false := by simpa [h1] using hb
    rw [h2] at cA
    subst h1
    have f1 : ((la + 1 : Int) != la + 1) = false := by simp
    have f2 : ((la + 1 : Int) == la + 1) = true := by simp
    clear hb h2
    go_enter Tryz.func59, Tryz.ntmps59
    go_wp2
    go_quiet ((go_at_call 77; exact Calls.quiet_of_same (cA.out _)))
    go_wp2
    go_ret
    exact ⟨rfl, ⟨N, by omega, HH.out.keeps (K1.out.drewN _)⟩, (K1.out.drewN _).toOnly _⟩
  · have f1 : ((t : Int) != la + 1) = true := by simpa using h1
    have f2 : ((t : Int) == la + 1) = false := by simpa using h1
    clear hb h1
    go_enter Tryz.func59, Tryz.ntmps59
    go_wp2
    go_quiet (fail)
    go_wp2
    go_ret
    exact ⟨rfl, ⟨N, by omega, HH.out.keeps (K1.out.drewN _)⟩, (K1.out.drewN _).toOnly _⟩
set_option maxHeartbeats 4000000 in
set_option maxRecDepth 100000 in
theorem begins_yes (r m N : Nat) (rd : Rdg) (n : Nt) (w : World) (h : RdgAt w r m N rd) (hl : 0 ≤ rd.last) (hl2 : rd.last ≤ 1000000000000000000) (hN : N < maxLen) (hok : NtOk n) (h1 : n.txn = rd.last + 1) (h2 : isAct n.act.kind = true) :
    Calls Tryz.prog 59 #[.pointer (some ⟨r, 0, none⟩), .agg (ntC n)] w (RetT r m N (true, ⟨rd.lives.put n.txn (some (n.act, false)), n.txn⟩) w) := by
  obtain ⟨c0, c1, -⟩ := h.cells
  have HH := Lib.hid h
  have K1 := Lib.hid ((Keeps.refl w).alloc (.cells (ntC n) 29))
  have d0 := cell_al c0 (.cells (ntC n) 29)
  have d1 := cell_al c1 (.cells (ntC n) 29)
  have NB := Lib.hid (NtB.new w n)
  obtain ⟨k, t, ⟨ak, ro, s, c, d⟩, co, x⟩ := n
  unfold NtB at NB
  unfold ntC at *
  simp only at *
  have cA := Lib.hid (fun w => isAct_any ak w)
  have hw : IntKind.i64.wrap (rd.last + 1) = rd.last + 1 := IntWalk.i64_in _ (by omega)
  rw [h2] at cA
  clear h c0 c1 h2
  generalize hla : rd.last = la at *
  subst h1
  have HLA := Lib.hid hla
  clear hla
  have f1 : ((la + 1 : Int) != la + 1) = false := by simp
  have f2 : ((la + 1 : Int) == la + 1) = true := by simp
  go_enter Tryz.func59, Tryz.ntmps59
  go_wp2
  go_quiet ((go_at_call 77; exact Calls.quiet_of_same (cA.out _)))
  go_wp2
  have hR2 : RdgAt ((w.alloc (.cells #[.int .i64 k, .int .i64 (la + 1), .int .i64 ak, .string (S ro), .string (S s), .string (S c), .string (S d), .int .i64 co, .string (S x)] 29)).drewN nq) r m N rd := HH.out.keeps (K1.out.drewN _)
  have hB2 : NtB ((w.alloc (.cells #[.int .i64 k, .int .i64 (la + 1), .int .i64 ak, .string (S ro), .string (S s), .string (S c), .string (S d), .int .i64 co, .string (S x)] 29)).drewN nq) w.heap.size ⟨k, la + 1, ⟨ak, ro, s, c, d⟩, co, x⟩ := (NtB.new w ⟨k, la + 1, ⟨ak, ro, s, c, d⟩, co, x⟩).keeps ((Keeps.refl _).drewN _)
  have K2 := Lib.hid (K1.out.drewN nq)
  have hlt : r < w.heap.size := blk_lt HH.out.1
  have hmt : m < w.heap.size := HH.out.2.lt
  clear d0 d1 f1 f2 hw
  generalize ((w.alloc (.cells #[.int .i64 k, .int .i64 (la + 1), .int .i64 ak, .string (S ro), .string (S s), .string (S c), .string (S d), .int .i64 co, .string (S x)] 29)).drewN nq) = X at *
  obtain ⟨e0, e1, e2, e3, e4, e5, e6, e7, e8⟩ := hB2.cells
  obtain ⟨d0, d1, -⟩ := hR2.cells
  rw [HLA.out] at d1
  obtain ⟨w3, hr, hM, hg⟩ := (hR2.2.block (w' := X.drew) rfl).put Tryz.underlying52 hN hok (⟨ak, ro, s, c, d⟩, false)
  rw [lifeE_enc] at hr
  unfold lifeC at hr
  simp only at hr
  have hrm : r ≠ m := hR2.ne
  have hX : r < X.heap.size := blk_lt hR2.1
  have hXn : w.heap.size < X.heap.size := blk_lt hB2
  have b3 : w3.heap[r]? = some (.cells #[.map (some m), .int .i64 la] 54 (0, 0)) := (hg.block r hX (by simpa using hrm)).trans (show X.heap[r]? = _ by rw [hR2.1, HLA.out])
  have n3 : NtB w3 w.heap.size ⟨k, la + 1, ⟨ak, ro, s, c, d⟩, co, x⟩ := (hg.block _ hXn (by simp; omega)).trans hB2
  have y1 := n3.cells.2.1
  have x1 : w3.cell? ⟨r, 1, none⟩ = some (.int .i64 la) := by rw [Lib.cell_of_heap b3]; rfl
  have x2 : w3.frozen? ⟨r, 1, none⟩ = false := Lib.frozen_of_heap b3 1
  have hfin : RdgAt (w3.setCell ⟨r, 1, none⟩ (.int .i64 (la + 1))) r m (N + 1) ⟨rd.lives.put (la + 1) (some (⟨ak, ro, s, c, d⟩, false)), la + 1⟩ ∧ Only [r, m] w (w3.setCell ⟨r, 1, none⟩ (.int .i64 (la + 1))) :=
    ⟨⟨by rw [heap_setCell_same w3 r 1 _ 54 _ b3]; rfl, hM.block (Below.heap_setCell w3 _ _ m (fun e => hrm e.symm))⟩,
      ((K2.out.drew.toOnly [r, m]).grown hg (fun k hk => .inl (by simp at hk; simp [hk]))).set _ (.inl (by simp)) _⟩
  have FIN := Lib.hid hfin
  clear hfin
  clear b3 n3 hX hXn hrm
  have HB2 := Lib.hid hB2
  have HR2 := Lib.hid hR2
  have HM := Lib.hid hM
  have HG := Lib.hid hg
  clear hB2 hR2 hM hg
  go_region
  all_goals go_wp2
  all_goals go_ret
  all_goals exact ⟨rfl, ⟨N + 1, Nat.le_refl _, FIN.out.1⟩, FIN.out.2⟩
end Go.Proofs.YtfapilgmgjmfeaaGreatDoor
