/-
  A transaction goes on.
-/
import Derived.Test.YtfapilgmgjmfeaaGreatDoorBeg
namespace Go.Proofs.YtfapilgmgjmfeaaGreatDoor
open Go.RowKit

set_option maxHeartbeats 8000000 in
set_option maxRecDepth 100000 in
theorem follows_none (r m N : Nat) (rd : Rdg) (n : Nt) (w : World) (h : RdgAt w r m N rd) (hN : N < maxLen) (hok : NtOk n) (hl : rd.lives n.txn = none) :
    Calls Tryz.prog 60 #[.pointer (some ⟨r, 0, none⟩), .agg (ntC n)] w (RetT r m N (false, rd) w) := by
  have hR : RdgAt (w.alloc (.cells (ntC n) 29)) r m N rd := h.keeps ((Keeps.refl w).alloc _)
  have hB := NtB.new w n
  have K1 := Lib.hid ((Keeps.refl w).alloc (.cells (ntC n) 29))
  have hlw : r < w.heap.size := blk_lt h.1
  have hmw : m < w.heap.size := h.2.lt
  obtain ⟨k, t, ⟨ak, ro, s, c, d⟩, co, x⟩ := n
  simp only at *
  unfold NtOk at hok
  simp only at hok
  unfold ntC at hR hB K1 ⊢
  simp only at hR hB K1 ⊢
  clear h
  have hr := fun (X : World) (hX : RdgAt X r m N rd) => (hX.2.block (w' := X.drew) rfl).look_ok Tryz.underlying52 (z := (Act.zero, false)) (by kernel_rfl) hok
  rw [hl] at hr
  simp only [Option.getD_some, Option.getD_none, Option.isSome_some, Option.isSome_none, lifeE_enc] at hr
  unfold lifeC at hr
  simp only [Act.zero, S_nil] at hr
  clear hl
  have hr1 := hr _ hR
  have hr2 := hr _ (hR.keeps ((Keeps.refl _).alloc (.cells #[.int .i64 0, .string ⟨#[]⟩, .string ⟨#[]⟩, .string ⟨#[]⟩, .string ⟨#[]⟩, .bool false] 102)))
  clear hr
  have hg0 : (w.alloc (.cells #[.int .i64 k, .int .i64 t, .int .i64 ak, .string (S ro), .string (S s), .string (S c), .string (S d), .int .i64 co, .string (S x)] 29)).heap.size = w.heap.size + 1 := by simp
  go_enter Tryz.func60, Tryz.ntmps60
  go_wp2
  generalize w.alloc (.cells #[.int .i64 k, .int .i64 t, .int .i64 ak, .string (S ro), .string (S s), .string (S c), .string (S d), .int .i64 co, .string (S x)] 29) = X at *
  obtain ⟨e0, e1, e2, e3, e4, e5, e6, e7, e8⟩ := hB.cells
  obtain ⟨d0, -, -⟩ := hR.cells
  have q1 := cell_al e1 (.cells #[.int .i64 0, .string ⟨#[]⟩, .string ⟨#[]⟩, .string ⟨#[]⟩, .string ⟨#[]⟩, .bool false] 102)
  have q0 := cell_al d0 (.cells #[.int .i64 0, .string ⟨#[]⟩, .string ⟨#[]⟩, .string ⟨#[]⟩, .string ⟨#[]⟩, .bool false] 102)
  have HB := Lib.hid hB
  have HR := Lib.hid hR
  have HG0 := Lib.hid hg0
  clear hB hR hg0
  go_region
  all_goals
    go_wp2
    go_ret
    exact ⟨rfl, ⟨N, by omega, HR.out.keeps (((Keeps.refl X).alloc _).drew)⟩, (K1.out.trans (((Keeps.refl X).alloc _).drew)).toOnly _⟩

set_option maxHeartbeats 8000000 in
set_option maxRecDepth 100000 in
theorem follows_diff (r m N : Nat) (rd : Rdg) (n : Nt) (w : World) (h : RdgAt w r m N rd) (hN : N < maxLen) (hok : NtOk n) (a : Act) (sb : Bool) (hl : rd.lives n.txn = some (a, sb)) (hne : a ≠ n.act) :
    Calls Tryz.prog 60 #[.pointer (some ⟨r, 0, none⟩), .agg (ntC n)] w (RetT r m N (false, rd) w) := by
  have hR : RdgAt (w.alloc (.cells (ntC n) 29)) r m N rd := h.keeps ((Keeps.refl w).alloc _)
  have hB := NtB.new w n
  have K1 := Lib.hid ((Keeps.refl w).alloc (.cells (ntC n) 29))
  have hlw : r < w.heap.size := blk_lt h.1
  have hmw : m < w.heap.size := h.2.lt
  obtain ⟨k, t, ⟨ak, ro, s, c, d⟩, co, x⟩ := n
  simp only at *
  obtain ⟨ak', ro', s', c', d'⟩ := a
  unfold NtOk at hok
  simp only at hok
  unfold ntC at hR hB K1 ⊢
  simp only at hR hB K1 ⊢
  clear h
  have hr := fun (X : World) (hX : RdgAt X r m N rd) => (hX.2.block (w' := X.drew) rfl).look_ok Tryz.underlying52 (z := (Act.zero, false)) (by kernel_rfl) hok
  rw [hl] at hr
  simp only [Option.getD_some, Option.getD_none, Option.isSome_some, Option.isSome_none, lifeE_enc] at hr
  unfold lifeC at hr
  simp only at hr
  have hq := fun w => neq_act ⟨ak', ro', s', c', d'⟩ ⟨ak, ro, s, c, d⟩ w
  rw [decide_eq_false (by simpa using hne)] at hq
  unfold actC at hq
  simp only [Bool.not_false] at hq
  clear hne
  clear hl
  have hr1 := hr _ hR
  have hr2 := hr _ (hR.keeps ((Keeps.refl _).alloc (.cells #[.int .i64 0, .string ⟨#[]⟩, .string ⟨#[]⟩, .string ⟨#[]⟩, .string ⟨#[]⟩, .bool false] 102)))
  clear hr
  have hg0 : (w.alloc (.cells #[.int .i64 k, .int .i64 t, .int .i64 ak, .string (S ro), .string (S s), .string (S c), .string (S d), .int .i64 co, .string (S x)] 29)).heap.size = w.heap.size + 1 := by simp
  go_enter Tryz.func60, Tryz.ntmps60
  go_wp2
  generalize w.alloc (.cells #[.int .i64 k, .int .i64 t, .int .i64 ak, .string (S ro), .string (S s), .string (S c), .string (S d), .int .i64 co, .string (S x)] 29) = X at *
  obtain ⟨e0, e1, e2, e3, e4, e5, e6, e7, e8⟩ := hB.cells
  obtain ⟨d0, -, -⟩ := hR.cells
  have q1 := cell_al e1 (.cells #[.int .i64 0, .string ⟨#[]⟩, .string ⟨#[]⟩, .string ⟨#[]⟩, .string ⟨#[]⟩, .bool false] 102)
  have q0 := cell_al d0 (.cells #[.int .i64 0, .string ⟨#[]⟩, .string ⟨#[]⟩, .string ⟨#[]⟩, .string ⟨#[]⟩, .bool false] 102)
  have HB := Lib.hid hB
  have HR := Lib.hid hR
  have HG0 := Lib.hid hg0
  clear hB hR hg0
  have v0 := cell_al e0 (.cells #[.int .i64 ak', .string (S ro'), .string (S s'), .string (S c'), .string (S d'), .bool sb] 102)
  have v2 := cell_al e2 (.cells #[.int .i64 ak', .string (S ro'), .string (S s'), .string (S c'), .string (S d'), .bool sb] 102)
  have v3 := cell_al e3 (.cells #[.int .i64 ak', .string (S ro'), .string (S s'), .string (S c'), .string (S d'), .bool sb] 102)
  have v4 := cell_al e4 (.cells #[.int .i64 ak', .string (S ro'), .string (S s'), .string (S c'), .string (S d'), .bool sb] 102)
  have v5 := cell_al e5 (.cells #[.int .i64 ak', .string (S ro'), .string (S s'), .string (S c'), .string (S d'), .bool sb] 102)
  have v6 := cell_al e6 (.cells #[.int .i64 ak', .string (S ro'), .string (S s'), .string (S c'), .string (S d'), .bool sb] 102)
  go_region
  all_goals
    go_wp2
    go_ret
    exact ⟨rfl, ⟨N, by omega, HR.out.keeps (((Keeps.refl X).alloc _).drew)⟩, (K1.out.trans (((Keeps.refl X).alloc _).drew)).toOnly _⟩

set_option maxHeartbeats 8000000 in
set_option maxRecDepth 100000 in
theorem follows_sent (r m N : Nat) (rd : Rdg) (n : Nt) (w : World) (h : RdgAt w r m N rd) (hN : N < maxLen) (hok : NtOk n) (sb : Bool) (hl : rd.lives n.txn = some (n.act, sb)) (hk : n.kind = 4) :
    Calls Tryz.prog 60 #[.pointer (some ⟨r, 0, none⟩), .agg (ntC n)] w (RetT r m N (true, ⟨rd.lives.put n.txn (some (n.act, true)), rd.last⟩) w) := by
  have hR : RdgAt (w.alloc (.cells (ntC n) 29)) r m N rd := h.keeps ((Keeps.refl w).alloc _)
  have hB := NtB.new w n
  have K1 := Lib.hid ((Keeps.refl w).alloc (.cells (ntC n) 29))
  have hlw : r < w.heap.size := blk_lt h.1
  have hmw : m < w.heap.size := h.2.lt
  obtain ⟨k, t, ⟨ak, ro, s, c, d⟩, co, x⟩ := n
  simp only at *
  subst hk
  unfold NtOk at hok
  simp only at hok
  unfold ntC at hR hB K1 ⊢
  simp only at hR hB K1 ⊢
  clear h
  have hr := fun (X : World) (hX : RdgAt X r m N rd) => (hX.2.block (w' := X.drew) rfl).look_ok Tryz.underlying52 (z := (Act.zero, false)) (by kernel_rfl) hok
  rw [hl] at hr
  simp only [Option.getD_some, Option.getD_none, Option.isSome_some, Option.isSome_none, lifeE_enc] at hr
  unfold lifeC at hr
  simp only at hr
  have hq := fun w => neq_act ⟨ak, ro, s, c, d⟩ ⟨ak, ro, s, c, d⟩ w
  rw [decide_eq_true rfl] at hq
  unfold actC at hq
  simp only [Bool.not_true] at hq
  clear hl
  have hr1 := hr _ hR
  have hr2 := hr _ (hR.keeps ((Keeps.refl _).alloc (.cells #[.int .i64 0, .string ⟨#[]⟩, .string ⟨#[]⟩, .string ⟨#[]⟩, .string ⟨#[]⟩, .bool false] 102)))
  clear hr
  have hg0 : (w.alloc (.cells #[.int .i64 4, .int .i64 t, .int .i64 ak, .string (S ro), .string (S s), .string (S c), .string (S d), .int .i64 co, .string (S x)] 29)).heap.size = w.heap.size + 1 := by simp
  go_enter Tryz.func60, Tryz.ntmps60
  go_wp2
  generalize w.alloc (.cells #[.int .i64 4, .int .i64 t, .int .i64 ak, .string (S ro), .string (S s), .string (S c), .string (S d), .int .i64 co, .string (S x)] 29) = X at *
  obtain ⟨e0, e1, e2, e3, e4, e5, e6, e7, e8⟩ := hB.cells
  obtain ⟨d0, -, -⟩ := hR.cells
  have q1 := cell_al e1 (.cells #[.int .i64 0, .string ⟨#[]⟩, .string ⟨#[]⟩, .string ⟨#[]⟩, .string ⟨#[]⟩, .bool false] 102)
  have q0 := cell_al d0 (.cells #[.int .i64 0, .string ⟨#[]⟩, .string ⟨#[]⟩, .string ⟨#[]⟩, .string ⟨#[]⟩, .bool false] 102)
  have HB := Lib.hid hB
  have HR := Lib.hid hR
  have HG0 := Lib.hid hg0
  clear hB hR hg0
  have v0 := cell_al e0 (.cells #[.int .i64 ak, .string (S ro), .string (S s), .string (S c), .string (S d), .bool sb] 102)
  have v2 := cell_al e2 (.cells #[.int .i64 ak, .string (S ro), .string (S s), .string (S c), .string (S d), .bool sb] 102)
  have v3 := cell_al e3 (.cells #[.int .i64 ak, .string (S ro), .string (S s), .string (S c), .string (S d), .bool sb] 102)
  have v4 := cell_al e4 (.cells #[.int .i64 ak, .string (S ro), .string (S s), .string (S c), .string (S d), .bool sb] 102)
  have v5 := cell_al e5 (.cells #[.int .i64 ak, .string (S ro), .string (S s), .string (S c), .string (S d), .bool sb] 102)
  have v6 := cell_al e6 (.cells #[.int .i64 ak, .string (S ro), .string (S s), .string (S c), .string (S d), .bool sb] 102)
  go_region
  all_goals
    go_wp2
    have hY : RdgAt ((X.alloc (.cells #[.int .i64 ak, .string (S ro), .string (S s), .string (S c), .string (S d), .bool sb] 102)).drew) r m N rd := HR.out.keeps (((Keeps.refl X).alloc _).drew)
    have hBY : NtB ((X.alloc (.cells #[.int .i64 ak, .string (S ro), .string (S s), .string (S c), .string (S d), .bool sb] 102)).drew) w.heap.size ⟨4, t, ⟨ak, ro, s, c, d⟩, co, x⟩ := HB.out.keeps (((Keeps.refl X).alloc _).drew)
    have hLY : ((X.alloc (.cells #[.int .i64 ak, .string (S ro), .string (S s), .string (S c), .string (S d), .bool sb] 102)).drew).heap[X.heap.size]? = some (.cells #[.int .i64 ak, .string (S ro), .string (S s), .string (S c), .string (S d), .bool sb] 102 (0, 0)) := heap_alloc_new X _
    have hKY := Lib.hid (K1.out.trans (((Keeps.refl X).alloc (.cells #[.int .i64 ak, .string (S ro), .string (S s), .string (S c), .string (S d), .bool sb] 102)).drew))
    have hXs : X.heap.size = w.heap.size + 1 := HG0.out
    clear d0 e0 e1 e2 e3 e4 e5 e6 e7 e8 hr1 hr2 q0 q1 v0 v2 v3 v4 v5 v6
    generalize (X.alloc (.cells #[.int .i64 ak, .string (S ro), .string (S s), .string (S c), .string (S d), .bool sb] 102)).drew = Y at *
    generalize X.heap.size = xs at *
    subst hXs
    obtain ⟨e0, e1, e2, e3, e4, e5, e6, e7, e8⟩ := hBY.cells
    obtain ⟨d0, -, -⟩ := hY.cells
    have hl0 : Y.cell? ⟨w.heap.size + 1, 0, none⟩ = some (.int .i64 ak) := by rw [Lib.cell_of_heap hLY]; rfl
    have hl1 : Y.cell? ⟨w.heap.size + 1, 1, none⟩ = some (.string (S ro)) := by rw [Lib.cell_of_heap hLY]; rfl
    have hl2 : Y.cell? ⟨w.heap.size + 1, 2, none⟩ = some (.string (S s)) := by rw [Lib.cell_of_heap hLY]; rfl
    have hl3 : Y.cell? ⟨w.heap.size + 1, 3, none⟩ = some (.string (S c)) := by rw [Lib.cell_of_heap hLY]; rfl
    have hl4 : Y.cell? ⟨w.heap.size + 1, 4, none⟩ = some (.string (S d)) := by rw [Lib.cell_of_heap hLY]; rfl
    have hl5 : Y.cell? ⟨w.heap.size + 1, 5, none⟩ = some (.bool sb) := by rw [Lib.cell_of_heap hLY]; rfl
    obtain ⟨w3, hr, hM, hg⟩ := (hY.2.block (w' := Y.drew) rfl).put Tryz.underlying52 hN hok (⟨ak, ro, s, c, d⟩, true)
    rw [lifeE_enc] at hr
    unfold lifeC at hr
    simp only at hr
    have hrm : r ≠ m := hY.ne
    have hmx : w.heap.size + 1 ≠ m := by omega
    have hX : r < Y.heap.size := blk_lt hY.1
    have hXl : w.heap.size + 1 < Y.heap.size := blk_lt hLY
    have b3 : w3.heap[r]? = some (.cells #[.map (some m), .int .i64 rd.last] 54 (0, 0)) := (hg.block r hX (by simpa using hrm)).trans hY.1
    have l3 : w3.heap[w.heap.size + 1]? = some (.cells #[.int .i64 ak, .string (S ro), .string (S s), .string (S c), .string (S d), .bool sb] 102 (0, 0)) := (hg.block (w.heap.size + 1) hXl (by simpa using hmx)).trans hLY
    have hl5' : w3.cell? ⟨w.heap.size + 1, 5, none⟩ = some (.bool sb) := by rw [Lib.cell_of_heap l3]; rfl
    have hfin : RdgAt w3 r m (N + 1) ⟨rd.lives.put t (some (⟨ak, ro, s, c, d⟩, true)), rd.last⟩ ∧ Only [r, m] w w3 :=
      ⟨⟨b3, hM⟩, (hKY.out.drew.toOnly [r, m]).grown hg (fun k hk => .inl (by simp at hk; simp [hk]))⟩
    have FIN := Lib.hid hfin
    have HR2 := Lib.hid hr
    clear hfin b3 l3 hM hg hBY hY hLY hX hXl hrm hmx hr
    have hr := HR2.out
    go_region
    all_goals
      go_wp2
      go_ret
      exact ⟨rfl, ⟨(N + 1), by omega, FIN.out.1⟩, FIN.out.2⟩

set_option maxHeartbeats 8000000 in
set_option maxRecDepth 100000 in
theorem follows_again (r m N : Nat) (rd : Rdg) (n : Nt) (w : World) (h : RdgAt w r m N rd) (hN : N < maxLen) (hok : NtOk n) (sb : Bool) (hl : rd.lives n.txn = some (n.act, sb)) (hk : n.kind = 6) :
    Calls Tryz.prog 60 #[.pointer (some ⟨r, 0, none⟩), .agg (ntC n)] w (RetT r m N (sb, ⟨rd.lives.put n.txn (some (n.act, false)), rd.last⟩) w) := by
  have hR : RdgAt (w.alloc (.cells (ntC n) 29)) r m N rd := h.keeps ((Keeps.refl w).alloc _)
  have hB := NtB.new w n
  have K1 := Lib.hid ((Keeps.refl w).alloc (.cells (ntC n) 29))
  have hlw : r < w.heap.size := blk_lt h.1
  have hmw : m < w.heap.size := h.2.lt
  obtain ⟨k, t, ⟨ak, ro, s, c, d⟩, co, x⟩ := n
  simp only at *
  subst hk
  unfold NtOk at hok
  simp only at hok
  unfold ntC at hR hB K1 ⊢
  simp only at hR hB K1 ⊢
  clear h
  have hr := fun (X : World) (hX : RdgAt X r m N rd) => (hX.2.block (w' := X.drew) rfl).look_ok Tryz.underlying52 (z := (Act.zero, false)) (by kernel_rfl) hok
  rw [hl] at hr
  simp only [Option.getD_some, Option.getD_none, Option.isSome_some, Option.isSome_none, lifeE_enc] at hr
  unfold lifeC at hr
  simp only at hr
  have hq := fun w => neq_act ⟨ak, ro, s, c, d⟩ ⟨ak, ro, s, c, d⟩ w
  rw [decide_eq_true rfl] at hq
  unfold actC at hq
  simp only [Bool.not_true] at hq
  clear hl
  have hr1 := hr _ hR
  have hr2 := hr _ (hR.keeps ((Keeps.refl _).alloc (.cells #[.int .i64 0, .string ⟨#[]⟩, .string ⟨#[]⟩, .string ⟨#[]⟩, .string ⟨#[]⟩, .bool false] 102)))
  clear hr
  have hg0 : (w.alloc (.cells #[.int .i64 6, .int .i64 t, .int .i64 ak, .string (S ro), .string (S s), .string (S c), .string (S d), .int .i64 co, .string (S x)] 29)).heap.size = w.heap.size + 1 := by simp
  go_enter Tryz.func60, Tryz.ntmps60
  go_wp2
  generalize w.alloc (.cells #[.int .i64 6, .int .i64 t, .int .i64 ak, .string (S ro), .string (S s), .string (S c), .string (S d), .int .i64 co, .string (S x)] 29) = X at *
  obtain ⟨e0, e1, e2, e3, e4, e5, e6, e7, e8⟩ := hB.cells
  obtain ⟨d0, -, -⟩ := hR.cells
  have q1 := cell_al e1 (.cells #[.int .i64 0, .string ⟨#[]⟩, .string ⟨#[]⟩, .string ⟨#[]⟩, .string ⟨#[]⟩, .bool false] 102)
  have q0 := cell_al d0 (.cells #[.int .i64 0, .string ⟨#[]⟩, .string ⟨#[]⟩, .string ⟨#[]⟩, .string ⟨#[]⟩, .bool false] 102)
  have HB := Lib.hid hB
  have HR := Lib.hid hR
  have HG0 := Lib.hid hg0
  clear hB hR hg0
  have v0 := cell_al e0 (.cells #[.int .i64 ak, .string (S ro), .string (S s), .string (S c), .string (S d), .bool sb] 102)
  have v2 := cell_al e2 (.cells #[.int .i64 ak, .string (S ro), .string (S s), .string (S c), .string (S d), .bool sb] 102)
  have v3 := cell_al e3 (.cells #[.int .i64 ak, .string (S ro), .string (S s), .string (S c), .string (S d), .bool sb] 102)
  have v4 := cell_al e4 (.cells #[.int .i64 ak, .string (S ro), .string (S s), .string (S c), .string (S d), .bool sb] 102)
  have v5 := cell_al e5 (.cells #[.int .i64 ak, .string (S ro), .string (S s), .string (S c), .string (S d), .bool sb] 102)
  have v6 := cell_al e6 (.cells #[.int .i64 ak, .string (S ro), .string (S s), .string (S c), .string (S d), .bool sb] 102)
  go_region
  all_goals
    go_wp2
    have hY : RdgAt ((X.alloc (.cells #[.int .i64 ak, .string (S ro), .string (S s), .string (S c), .string (S d), .bool sb] 102)).drew) r m N rd := HR.out.keeps (((Keeps.refl X).alloc _).drew)
    have hBY : NtB ((X.alloc (.cells #[.int .i64 ak, .string (S ro), .string (S s), .string (S c), .string (S d), .bool sb] 102)).drew) w.heap.size ⟨6, t, ⟨ak, ro, s, c, d⟩, co, x⟩ := HB.out.keeps (((Keeps.refl X).alloc _).drew)
    have hLY : ((X.alloc (.cells #[.int .i64 ak, .string (S ro), .string (S s), .string (S c), .string (S d), .bool sb] 102)).drew).heap[X.heap.size]? = some (.cells #[.int .i64 ak, .string (S ro), .string (S s), .string (S c), .string (S d), .bool sb] 102 (0, 0)) := heap_alloc_new X _
    have hKY := Lib.hid (K1.out.trans (((Keeps.refl X).alloc (.cells #[.int .i64 ak, .string (S ro), .string (S s), .string (S c), .string (S d), .bool sb] 102)).drew))
    have hXs : X.heap.size = w.heap.size + 1 := HG0.out
    clear d0 e0 e1 e2 e3 e4 e5 e6 e7 e8 hr1 hr2 q0 q1 v0 v2 v3 v4 v5 v6
    generalize (X.alloc (.cells #[.int .i64 ak, .string (S ro), .string (S s), .string (S c), .string (S d), .bool sb] 102)).drew = Y at *
    generalize X.heap.size = xs at *
    subst hXs
    obtain ⟨e0, e1, e2, e3, e4, e5, e6, e7, e8⟩ := hBY.cells
    obtain ⟨d0, -, -⟩ := hY.cells
    have hl0 : Y.cell? ⟨w.heap.size + 1, 0, none⟩ = some (.int .i64 ak) := by rw [Lib.cell_of_heap hLY]; rfl
    have hl1 : Y.cell? ⟨w.heap.size + 1, 1, none⟩ = some (.string (S ro)) := by rw [Lib.cell_of_heap hLY]; rfl
    have hl2 : Y.cell? ⟨w.heap.size + 1, 2, none⟩ = some (.string (S s)) := by rw [Lib.cell_of_heap hLY]; rfl
    have hl3 : Y.cell? ⟨w.heap.size + 1, 3, none⟩ = some (.string (S c)) := by rw [Lib.cell_of_heap hLY]; rfl
    have hl4 : Y.cell? ⟨w.heap.size + 1, 4, none⟩ = some (.string (S d)) := by rw [Lib.cell_of_heap hLY]; rfl
    have hl5 : Y.cell? ⟨w.heap.size + 1, 5, none⟩ = some (.bool sb) := by rw [Lib.cell_of_heap hLY]; rfl
    obtain ⟨w3, hr, hM, hg⟩ := (hY.2.block (w' := Y.drew) rfl).put Tryz.underlying52 hN hok (⟨ak, ro, s, c, d⟩, false)
    rw [lifeE_enc] at hr
    unfold lifeC at hr
    simp only at hr
    have hrm : r ≠ m := hY.ne
    have hmx : w.heap.size + 1 ≠ m := by omega
    have hX : r < Y.heap.size := blk_lt hY.1
    have hXl : w.heap.size + 1 < Y.heap.size := blk_lt hLY
    have b3 : w3.heap[r]? = some (.cells #[.map (some m), .int .i64 rd.last] 54 (0, 0)) := (hg.block r hX (by simpa using hrm)).trans hY.1
    have l3 : w3.heap[w.heap.size + 1]? = some (.cells #[.int .i64 ak, .string (S ro), .string (S s), .string (S c), .string (S d), .bool sb] 102 (0, 0)) := (hg.block (w.heap.size + 1) hXl (by simpa using hmx)).trans hLY
    have hl5' : w3.cell? ⟨w.heap.size + 1, 5, none⟩ = some (.bool sb) := by rw [Lib.cell_of_heap l3]; rfl
    have hfin : RdgAt w3 r m (N + 1) ⟨rd.lives.put t (some (⟨ak, ro, s, c, d⟩, false)), rd.last⟩ ∧ Only [r, m] w w3 :=
      ⟨⟨b3, hM⟩, (hKY.out.drew.toOnly [r, m]).grown hg (fun k hk => .inl (by simp at hk; simp [hk]))⟩
    have FIN := Lib.hid hfin
    have HR2 := Lib.hid hr
    clear hfin b3 l3 hM hg hBY hY hLY hX hXl hrm hmx hr
    have hr := HR2.out
    go_region
    all_goals
      go_wp2
      go_ret
      exact ⟨rfl, ⟨(N + 1), by omega, FIN.out.1⟩, FIN.out.2⟩

set_option maxHeartbeats 8000000 in
set_option maxRecDepth 100000 in
theorem follows_gone (r m N : Nat) (rd : Rdg) (n : Nt) (w : World) (h : RdgAt w r m N rd) (hN : N < maxLen) (hok : NtOk n) (sb : Bool) (hl : rd.lives n.txn = some (n.act, sb)) (hk : n.kind = 8) :
    Calls Tryz.prog 60 #[.pointer (some ⟨r, 0, none⟩), .agg (ntC n)] w (RetT r m N (!sb, ⟨rd.lives.put n.txn none, rd.last⟩) w) := by
  have hR : RdgAt (w.alloc (.cells (ntC n) 29)) r m N rd := h.keeps ((Keeps.refl w).alloc _)
  have hB := NtB.new w n
  have K1 := Lib.hid ((Keeps.refl w).alloc (.cells (ntC n) 29))
  have hlw : r < w.heap.size := blk_lt h.1
  have hmw : m < w.heap.size := h.2.lt
  obtain ⟨k, t, ⟨ak, ro, s, c, d⟩, co, x⟩ := n
  simp only at *
  subst hk
  unfold NtOk at hok
  simp only at hok
  unfold ntC at hR hB K1 ⊢
  simp only at hR hB K1 ⊢
  clear h
  have hr := fun (X : World) (hX : RdgAt X r m N rd) => (hX.2.block (w' := X.drew) rfl).look_ok Tryz.underlying52 (z := (Act.zero, false)) (by kernel_rfl) hok
  rw [hl] at hr
  simp only [Option.getD_some, Option.getD_none, Option.isSome_some, Option.isSome_none, lifeE_enc] at hr
  unfold lifeC at hr
  simp only at hr
  have hq := fun w => neq_act ⟨ak, ro, s, c, d⟩ ⟨ak, ro, s, c, d⟩ w
  rw [decide_eq_true rfl] at hq
  unfold actC at hq
  simp only [Bool.not_true] at hq
  clear hl
  have hr1 := hr _ hR
  have hr2 := hr _ (hR.keeps ((Keeps.refl _).alloc (.cells #[.int .i64 0, .string ⟨#[]⟩, .string ⟨#[]⟩, .string ⟨#[]⟩, .string ⟨#[]⟩, .bool false] 102)))
  clear hr
  have hg0 : (w.alloc (.cells #[.int .i64 8, .int .i64 t, .int .i64 ak, .string (S ro), .string (S s), .string (S c), .string (S d), .int .i64 co, .string (S x)] 29)).heap.size = w.heap.size + 1 := by simp
  go_enter Tryz.func60, Tryz.ntmps60
  go_wp2
  generalize w.alloc (.cells #[.int .i64 8, .int .i64 t, .int .i64 ak, .string (S ro), .string (S s), .string (S c), .string (S d), .int .i64 co, .string (S x)] 29) = X at *
  obtain ⟨e0, e1, e2, e3, e4, e5, e6, e7, e8⟩ := hB.cells
  obtain ⟨d0, -, -⟩ := hR.cells
  have q1 := cell_al e1 (.cells #[.int .i64 0, .string ⟨#[]⟩, .string ⟨#[]⟩, .string ⟨#[]⟩, .string ⟨#[]⟩, .bool false] 102)
  have q0 := cell_al d0 (.cells #[.int .i64 0, .string ⟨#[]⟩, .string ⟨#[]⟩, .string ⟨#[]⟩, .string ⟨#[]⟩, .bool false] 102)
  have HB := Lib.hid hB
  have HR := Lib.hid hR
  have HG0 := Lib.hid hg0
  clear hB hR hg0
  have v0 := cell_al e0 (.cells #[.int .i64 ak, .string (S ro), .string (S s), .string (S c), .string (S d), .bool sb] 102)
  have v2 := cell_al e2 (.cells #[.int .i64 ak, .string (S ro), .string (S s), .string (S c), .string (S d), .bool sb] 102)
  have v3 := cell_al e3 (.cells #[.int .i64 ak, .string (S ro), .string (S s), .string (S c), .string (S d), .bool sb] 102)
  have v4 := cell_al e4 (.cells #[.int .i64 ak, .string (S ro), .string (S s), .string (S c), .string (S d), .bool sb] 102)
  have v5 := cell_al e5 (.cells #[.int .i64 ak, .string (S ro), .string (S s), .string (S c), .string (S d), .bool sb] 102)
  have v6 := cell_al e6 (.cells #[.int .i64 ak, .string (S ro), .string (S s), .string (S c), .string (S d), .bool sb] 102)
  go_region
  all_goals
    go_wp2
    have hY : RdgAt ((X.alloc (.cells #[.int .i64 ak, .string (S ro), .string (S s), .string (S c), .string (S d), .bool sb] 102)).drew) r m N rd := HR.out.keeps (((Keeps.refl X).alloc _).drew)
    have hBY : NtB ((X.alloc (.cells #[.int .i64 ak, .string (S ro), .string (S s), .string (S c), .string (S d), .bool sb] 102)).drew) w.heap.size ⟨8, t, ⟨ak, ro, s, c, d⟩, co, x⟩ := HB.out.keeps (((Keeps.refl X).alloc _).drew)
    have hLY : ((X.alloc (.cells #[.int .i64 ak, .string (S ro), .string (S s), .string (S c), .string (S d), .bool sb] 102)).drew).heap[X.heap.size]? = some (.cells #[.int .i64 ak, .string (S ro), .string (S s), .string (S c), .string (S d), .bool sb] 102 (0, 0)) := heap_alloc_new X _
    have hKY := Lib.hid (K1.out.trans (((Keeps.refl X).alloc (.cells #[.int .i64 ak, .string (S ro), .string (S s), .string (S c), .string (S d), .bool sb] 102)).drew))
    have hXs : X.heap.size = w.heap.size + 1 := HG0.out
    clear d0 e0 e1 e2 e3 e4 e5 e6 e7 e8 hr1 hr2 q0 q1 v0 v2 v3 v4 v5 v6
    generalize (X.alloc (.cells #[.int .i64 ak, .string (S ro), .string (S s), .string (S c), .string (S d), .bool sb] 102)).drew = Y at *
    generalize X.heap.size = xs at *
    subst hXs
    obtain ⟨e0, e1, e2, e3, e4, e5, e6, e7, e8⟩ := hBY.cells
    obtain ⟨d0, -, -⟩ := hY.cells
    have hl0 : Y.cell? ⟨w.heap.size + 1, 0, none⟩ = some (.int .i64 ak) := by rw [Lib.cell_of_heap hLY]; rfl
    have hl1 : Y.cell? ⟨w.heap.size + 1, 1, none⟩ = some (.string (S ro)) := by rw [Lib.cell_of_heap hLY]; rfl
    have hl2 : Y.cell? ⟨w.heap.size + 1, 2, none⟩ = some (.string (S s)) := by rw [Lib.cell_of_heap hLY]; rfl
    have hl3 : Y.cell? ⟨w.heap.size + 1, 3, none⟩ = some (.string (S c)) := by rw [Lib.cell_of_heap hLY]; rfl
    have hl4 : Y.cell? ⟨w.heap.size + 1, 4, none⟩ = some (.string (S d)) := by rw [Lib.cell_of_heap hLY]; rfl
    have hl5 : Y.cell? ⟨w.heap.size + 1, 5, none⟩ = some (.bool sb) := by rw [Lib.cell_of_heap hLY]; rfl
    obtain ⟨w3, hr, hM, hg⟩ := (hY.2.block (w' := Y.drew) rfl).del Tryz.underlying52 hok 0
    have hrm : r ≠ m := hY.ne
    have hmx : w.heap.size + 1 ≠ m := by omega
    have hX : r < Y.heap.size := blk_lt hY.1
    have hXl : w.heap.size + 1 < Y.heap.size := blk_lt hLY
    have b3 : w3.heap[r]? = some (.cells #[.map (some m), .int .i64 rd.last] 54 (0, 0)) := (hg.block r hX (by simpa using hrm)).trans hY.1
    have l3 : w3.heap[w.heap.size + 1]? = some (.cells #[.int .i64 ak, .string (S ro), .string (S s), .string (S c), .string (S d), .bool sb] 102 (0, 0)) := (hg.block (w.heap.size + 1) hXl (by simpa using hmx)).trans hLY
    have hl5' : w3.cell? ⟨w.heap.size + 1, 5, none⟩ = some (.bool sb) := by rw [Lib.cell_of_heap l3]; rfl
    have hfin : RdgAt w3 r m N ⟨rd.lives.put t none, rd.last⟩ ∧ Only [r, m] w w3 :=
      ⟨⟨b3, hM⟩, (hKY.out.drew.toOnly [r, m]).grown hg (fun k hk => .inl (by simp at hk; simp [hk]))⟩
    have FIN := Lib.hid hfin
    have HR2 := Lib.hid hr
    clear hfin b3 l3 hM hg hBY hY hLY hX hXl hrm hmx hr
    have hr := HR2.out
    go_region
    all_goals
      go_wp2
      go_ret
      exact ⟨rfl, ⟨N, by omega, FIN.out.1⟩, FIN.out.2⟩

set_option maxHeartbeats 8000000 in
set_option maxRecDepth 100000 in
theorem follows_end (r m N : Nat) (rd : Rdg) (n : Nt) (w : World) (h : RdgAt w r m N rd) (hN : N < maxLen) (hok : NtOk n) (sb : Bool) (hl : rd.lives n.txn = some (n.act, sb)) (hk : n.kind ≠ 4 ∧ n.kind ≠ 6 ∧ n.kind ≠ 8) :
    Calls Tryz.prog 60 #[.pointer (some ⟨r, 0, none⟩), .agg (ntC n)] w (RetT r m N (sb, ⟨rd.lives.put n.txn none, rd.last⟩) w) := by
  have hR : RdgAt (w.alloc (.cells (ntC n) 29)) r m N rd := h.keeps ((Keeps.refl w).alloc _)
  have hB := NtB.new w n
  have K1 := Lib.hid ((Keeps.refl w).alloc (.cells (ntC n) 29))
  have hlw : r < w.heap.size := blk_lt h.1
  have hmw : m < w.heap.size := h.2.lt
  obtain ⟨k, t, ⟨ak, ro, s, c, d⟩, co, x⟩ := n
  simp only at *
  unfold NtOk at hok
  simp only at hok
  unfold ntC at hR hB K1 ⊢
  simp only at hR hB K1 ⊢
  clear h
  have hr := fun (X : World) (hX : RdgAt X r m N rd) => (hX.2.block (w' := X.drew) rfl).look_ok Tryz.underlying52 (z := (Act.zero, false)) (by kernel_rfl) hok
  rw [hl] at hr
  simp only [Option.getD_some, Option.getD_none, Option.isSome_some, Option.isSome_none, lifeE_enc] at hr
  unfold lifeC at hr
  simp only at hr
  have hq := fun w => neq_act ⟨ak, ro, s, c, d⟩ ⟨ak, ro, s, c, d⟩ w
  rw [decide_eq_true rfl] at hq
  unfold actC at hq
  simp only [Bool.not_true] at hq
  clear hl
  have g4 : (k == 4) = false := by simpa using hk.1
  have g6 : (k == 6) = false := by simpa using hk.2.1
  have g8 : (k == 8) = false := by simpa using hk.2.2
  clear hk
  have hr1 := hr _ hR
  have hr2 := hr _ (hR.keeps ((Keeps.refl _).alloc (.cells #[.int .i64 0, .string ⟨#[]⟩, .string ⟨#[]⟩, .string ⟨#[]⟩, .string ⟨#[]⟩, .bool false] 102)))
  clear hr
  have hg0 : (w.alloc (.cells #[.int .i64 k, .int .i64 t, .int .i64 ak, .string (S ro), .string (S s), .string (S c), .string (S d), .int .i64 co, .string (S x)] 29)).heap.size = w.heap.size + 1 := by simp
  go_enter Tryz.func60, Tryz.ntmps60
  go_wp2
  generalize w.alloc (.cells #[.int .i64 k, .int .i64 t, .int .i64 ak, .string (S ro), .string (S s), .string (S c), .string (S d), .int .i64 co, .string (S x)] 29) = X at *
  obtain ⟨e0, e1, e2, e3, e4, e5, e6, e7, e8⟩ := hB.cells
  obtain ⟨d0, -, -⟩ := hR.cells
  have q1 := cell_al e1 (.cells #[.int .i64 0, .string ⟨#[]⟩, .string ⟨#[]⟩, .string ⟨#[]⟩, .string ⟨#[]⟩, .bool false] 102)
  have q0 := cell_al d0 (.cells #[.int .i64 0, .string ⟨#[]⟩, .string ⟨#[]⟩, .string ⟨#[]⟩, .string ⟨#[]⟩, .bool false] 102)
  have HB := Lib.hid hB
  have HR := Lib.hid hR
  have HG0 := Lib.hid hg0
  clear hB hR hg0
  have v0 := cell_al e0 (.cells #[.int .i64 ak, .string (S ro), .string (S s), .string (S c), .string (S d), .bool sb] 102)
  have v2 := cell_al e2 (.cells #[.int .i64 ak, .string (S ro), .string (S s), .string (S c), .string (S d), .bool sb] 102)
  have v3 := cell_al e3 (.cells #[.int .i64 ak, .string (S ro), .string (S s), .string (S c), .string (S d), .bool sb] 102)
  have v4 := cell_al e4 (.cells #[.int .i64 ak, .string (S ro), .string (S s), .string (S c), .string (S d), .bool sb] 102)
  have v5 := cell_al e5 (.cells #[.int .i64 ak, .string (S ro), .string (S s), .string (S c), .string (S d), .bool sb] 102)
  have v6 := cell_al e6 (.cells #[.int .i64 ak, .string (S ro), .string (S s), .string (S c), .string (S d), .bool sb] 102)
  go_region
  all_goals
    go_wp2
    have hY : RdgAt ((X.alloc (.cells #[.int .i64 ak, .string (S ro), .string (S s), .string (S c), .string (S d), .bool sb] 102)).drew) r m N rd := HR.out.keeps (((Keeps.refl X).alloc _).drew)
    have hBY : NtB ((X.alloc (.cells #[.int .i64 ak, .string (S ro), .string (S s), .string (S c), .string (S d), .bool sb] 102)).drew) w.heap.size ⟨k, t, ⟨ak, ro, s, c, d⟩, co, x⟩ := HB.out.keeps (((Keeps.refl X).alloc _).drew)
    have hLY : ((X.alloc (.cells #[.int .i64 ak, .string (S ro), .string (S s), .string (S c), .string (S d), .bool sb] 102)).drew).heap[X.heap.size]? = some (.cells #[.int .i64 ak, .string (S ro), .string (S s), .string (S c), .string (S d), .bool sb] 102 (0, 0)) := heap_alloc_new X _
    have hKY := Lib.hid (K1.out.trans (((Keeps.refl X).alloc (.cells #[.int .i64 ak, .string (S ro), .string (S s), .string (S c), .string (S d), .bool sb] 102)).drew))
    have hXs : X.heap.size = w.heap.size + 1 := HG0.out
    clear d0 e0 e1 e2 e3 e4 e5 e6 e7 e8 hr1 hr2 q0 q1 v0 v2 v3 v4 v5 v6
    generalize (X.alloc (.cells #[.int .i64 ak, .string (S ro), .string (S s), .string (S c), .string (S d), .bool sb] 102)).drew = Y at *
    generalize X.heap.size = xs at *
    subst hXs
    obtain ⟨e0, e1, e2, e3, e4, e5, e6, e7, e8⟩ := hBY.cells
    obtain ⟨d0, -, -⟩ := hY.cells
    have hl0 : Y.cell? ⟨w.heap.size + 1, 0, none⟩ = some (.int .i64 ak) := by rw [Lib.cell_of_heap hLY]; rfl
    have hl1 : Y.cell? ⟨w.heap.size + 1, 1, none⟩ = some (.string (S ro)) := by rw [Lib.cell_of_heap hLY]; rfl
    have hl2 : Y.cell? ⟨w.heap.size + 1, 2, none⟩ = some (.string (S s)) := by rw [Lib.cell_of_heap hLY]; rfl
    have hl3 : Y.cell? ⟨w.heap.size + 1, 3, none⟩ = some (.string (S c)) := by rw [Lib.cell_of_heap hLY]; rfl
    have hl4 : Y.cell? ⟨w.heap.size + 1, 4, none⟩ = some (.string (S d)) := by rw [Lib.cell_of_heap hLY]; rfl
    have hl5 : Y.cell? ⟨w.heap.size + 1, 5, none⟩ = some (.bool sb) := by rw [Lib.cell_of_heap hLY]; rfl
    obtain ⟨w3, hr, hM, hg⟩ := (hY.2.block (w' := Y.drew) rfl).del Tryz.underlying52 hok 0
    have hrm : r ≠ m := hY.ne
    have hmx : w.heap.size + 1 ≠ m := by omega
    have hX : r < Y.heap.size := blk_lt hY.1
    have hXl : w.heap.size + 1 < Y.heap.size := blk_lt hLY
    have b3 : w3.heap[r]? = some (.cells #[.map (some m), .int .i64 rd.last] 54 (0, 0)) := (hg.block r hX (by simpa using hrm)).trans hY.1
    have l3 : w3.heap[w.heap.size + 1]? = some (.cells #[.int .i64 ak, .string (S ro), .string (S s), .string (S c), .string (S d), .bool sb] 102 (0, 0)) := (hg.block (w.heap.size + 1) hXl (by simpa using hmx)).trans hLY
    have hl5' : w3.cell? ⟨w.heap.size + 1, 5, none⟩ = some (.bool sb) := by rw [Lib.cell_of_heap l3]; rfl
    have hfin : RdgAt w3 r m N ⟨rd.lives.put t none, rd.last⟩ ∧ Only [r, m] w w3 :=
      ⟨⟨b3, hM⟩, (hKY.out.drew.toOnly [r, m]).grown hg (fun k hk => .inl (by simp at hk; simp [hk]))⟩
    have FIN := Lib.hid hfin
    have HR2 := Lib.hid hr
    clear hfin b3 l3 hM hg hBY hY hLY hX hXl hrm hmx hr
    have hr := HR2.out
    go_region
    all_goals
      go_wp2
      go_ret
      exact ⟨rfl, ⟨N, by omega, FIN.out.1⟩, FIN.out.2⟩

end Go.Proofs.YtfapilgmgjmfeaaGreatDoor