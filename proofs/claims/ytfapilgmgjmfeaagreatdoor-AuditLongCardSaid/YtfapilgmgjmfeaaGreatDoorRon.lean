/-
  The document's own one.
-/
import Derived.Test.YtfapilgmgjmfeaaGreatDoorRba
import Derived.Test.YtfapilgmgjmfeaaGreatDoorRma
import Derived.Deep.RegionLaw
namespace Go.Proofs.YtfapilgmgjmfeaaGreatDoor
open Go.RowKit

set_option maxHeartbeats 4000000 in
set_option maxRecDepth 100000 in
theorem one_b1 (A : Option Addr) (c : Nat) (p : List Nt) (n : Nt) (w : World) (hA : NotesAt w A p) (hl : p.length ≤ 1000000) (h : n.kind = 1) :
    Calls Tryz.prog 38 #[.slice A p.length c, .agg (ntC n)] w (Ret (.bool (n.txn == 0)) w) := by
  have K0 := Lib.hid ((Keeps.refl w).alloc (.cells (ntC n) 29))
  have B0 := Lib.hid (NtB.new w n)
  have HA := Lib.hid hA
  have k1 : (n.kind == 1) = true := by simp; omega
  clear h
  generalize p.length = L at *
  clear hA
  generalize hW : w.alloc (.cells (ntC n) 29) = W at *
  obtain ⟨e0, e1, e2, e3, e4, e5, e6, e7, e8⟩ := B0.out.cells
  unfold ntC at hW ⊢
  go_enter Tryz.func38, Tryz.ntmps38
  go_wp2
  go_ret
  exact ⟨rfl, K0.out⟩
set_option maxHeartbeats 4000000 in
set_option maxRecDepth 100000 in
theorem one_b2 (A : Option Addr) (c : Nat) (p : List Nt) (n : Nt) (w : World) (hA : NotesAt w A p) (hl : p.length ≤ 1000000) (h : n.kind = 2) :
    Calls Tryz.prog 38 #[.slice A p.length c, .agg (ntC n)] w (Ret (.bool (n.txn == 0)) w) := by
  have K0 := Lib.hid ((Keeps.refl w).alloc (.cells (ntC n) 29))
  have B0 := Lib.hid (NtB.new w n)
  have HA := Lib.hid hA
  have k1 : (n.kind == 1) = false := by simp; omega
  have k2 : (n.kind == 2) = true := by simp; omega
  clear h
  generalize p.length = L at *
  clear hA
  generalize hW : w.alloc (.cells (ntC n) 29) = W at *
  obtain ⟨e0, e1, e2, e3, e4, e5, e6, e7, e8⟩ := B0.out.cells
  unfold ntC at hW ⊢
  go_enter Tryz.func38, Tryz.ntmps38
  go_wp2
  go_ret
  exact ⟨rfl, K0.out⟩
set_option maxHeartbeats 4000000 in
set_option maxRecDepth 100000 in
theorem one_b9 (A : Option Addr) (c : Nat) (p : List Nt) (n : Nt) (w : World) (hA : NotesAt w A p) (hl : p.length ≤ 1000000) (h : n.kind = 9) :
    Calls Tryz.prog 38 #[.slice A p.length c, .agg (ntC n)] w (Ret (.bool (n.txn == 0)) w) := by
  have K0 := Lib.hid ((Keeps.refl w).alloc (.cells (ntC n) 29))
  have B0 := Lib.hid (NtB.new w n)
  have HA := Lib.hid hA
  have k1 : (n.kind == 1) = false := by simp; omega
  have k2 : (n.kind == 2) = false := by simp; omega
  have k9 : (n.kind == 9) = true := by simp; omega
  clear h
  generalize p.length = L at *
  clear hA
  generalize hW : w.alloc (.cells (ntC n) 29) = W at *
  obtain ⟨e0, e1, e2, e3, e4, e5, e6, e7, e8⟩ := B0.out.cells
  unfold ntC at hW ⊢
  go_enter Tryz.func38, Tryz.ntmps38
  go_wp2
  go_ret
  exact ⟨rfl, K0.out⟩
set_option maxHeartbeats 4000000 in
set_option maxRecDepth 100000 in
theorem one_q0 (A : Option Addr) (c : Nat) (p : List Nt) (n : Nt) (w : World) (hA : NotesAt w A p) (hl : p.length ≤ 1000000) (h : n.kind = 3) (ht : n.txn ≠ queuedZ p + 1) :
    Calls Tryz.prog 38 #[.slice A p.length c, .agg (ntC n)] w (Ret (.bool (false)) w) := by
  have K0 := Lib.hid ((Keeps.refl w).alloc (.cells (ntC n) 29))
  have B0 := Lib.hid (NtB.new w n)
  have HA := Lib.hid hA
  have k1 : (n.kind == 1) = false := by simp; omega
  have k2 : (n.kind == 2) = false := by simp; omega
  have k9 : (n.kind == 9) = false := by simp; omega
  have k3 : (n.kind == 3) = true := by simp; omega
  have hq := queuedZ_bound p
  have cQ := Lib.hid (fun wx (k : Keeps w wx) => queued_any A c p wx (hA.keeps k) hl)
  have q1 : queuedZ p ≤ 1000000 := by omega
  have q2 : 0 ≤ queuedZ p := hq.1
  have t1 : (n.txn == queuedZ p + 1) = false := by simpa using ht
  clear ht
  clear h hq
  generalize queuedZ p = q at *
  generalize p.length = L at *
  clear hA
  generalize hW : w.alloc (.cells (ntC n) 29) = W at *
  obtain ⟨e0, e1, e2, e3, e4, e5, e6, e7, e8⟩ := B0.out.cells
  unfold ntC at hW ⊢
  go_enter Tryz.func38, Tryz.ntmps38
  go_wp2_with fail
  clear hW
  have q0 : ∀ kx : Wl W, kx.x.cell? ⟨w.heap.size, 1, none⟩ = some (.int .i64 n.txn) := fun kx => (B0.out.keeps kx.k).cells.2.1
  have a0 : ∀ kx : Wl W, kx.x.cell? ⟨w.heap.size, 2, none⟩ = some (.int .i64 n.act.kind) := fun kx => (B0.out.keeps kx.k).cells.2.2.1
  have cQ2 : Hid (∀ kx : Wl W, Calls Tryz.prog 61 #[.slice A L c] kx.x fun e w'' => e = .returned (.int .i64 q) ∧ ∃ k' : Wl W, w'' = k'.x) := Lib.hid (fun kx => (cQ.out kx.x (K0.out.trans kx.k)).mono (fun e w' h => ⟨h.1, kx, h.2⟩))
  clear cQ
  refine wp_region_keeps (by kernel_rfl) (by kernel_rfl) ?_
  repeat (go_big_quiet_step (with_reducible exact cQ2.out _))
  refine wpQuiet_nil ?_
  rintro x ⟨kq, hq⟩
  have KY : Hid (Keeps w x) := Lib.hid (K0.out.trans (by rw [hq]; exact kq.k))
  clear hq kq
  go_wp2
  go_ret
  exact ⟨rfl, KY.out⟩
set_option maxHeartbeats 4000000 in
set_option maxRecDepth 100000 in
theorem one_q1 (A : Option Addr) (c : Nat) (p : List Nt) (n : Nt) (w : World) (hA : NotesAt w A p) (hl : p.length ≤ 1000000) (h : n.kind = 3) (ht : n.txn = queuedZ p + 1) (ha : n.act.kind < 1) :
    Calls Tryz.prog 38 #[.slice A p.length c, .agg (ntC n)] w (Ret (.bool (false)) w) := by
  have K0 := Lib.hid ((Keeps.refl w).alloc (.cells (ntC n) 29))
  have B0 := Lib.hid (NtB.new w n)
  have HA := Lib.hid hA
  have k1 : (n.kind == 1) = false := by simp; omega
  have k2 : (n.kind == 2) = false := by simp; omega
  have k9 : (n.kind == 9) = false := by simp; omega
  have k3 : (n.kind == 3) = true := by simp; omega
  have hq := queuedZ_bound p
  have cQ := Lib.hid (fun wx (k : Keeps w wx) => queued_any A c p wx (hA.keeps k) hl)
  have q1 : queuedZ p ≤ 1000000 := by omega
  have q2 : 0 ≤ queuedZ p := hq.1
  have t1 : (n.txn == queuedZ p + 1) = true := by simpa using ht
  have a1 : decide (1 ≤ n.act.kind) = false := decide_eq_false (by omega)
  clear ht ha
  clear h hq
  generalize queuedZ p = q at *
  generalize p.length = L at *
  clear hA
  generalize hW : w.alloc (.cells (ntC n) 29) = W at *
  obtain ⟨e0, e1, e2, e3, e4, e5, e6, e7, e8⟩ := B0.out.cells
  unfold ntC at hW ⊢
  go_enter Tryz.func38, Tryz.ntmps38
  go_wp2_with fail
  clear hW
  have q0 : ∀ kx : Wl W, kx.x.cell? ⟨w.heap.size, 1, none⟩ = some (.int .i64 n.txn) := fun kx => (B0.out.keeps kx.k).cells.2.1
  have a0 : ∀ kx : Wl W, kx.x.cell? ⟨w.heap.size, 2, none⟩ = some (.int .i64 n.act.kind) := fun kx => (B0.out.keeps kx.k).cells.2.2.1
  have cQ2 : Hid (∀ kx : Wl W, Calls Tryz.prog 61 #[.slice A L c] kx.x fun e w'' => e = .returned (.int .i64 q) ∧ ∃ k' : Wl W, w'' = k'.x) := Lib.hid (fun kx => (cQ.out kx.x (K0.out.trans kx.k)).mono (fun e w' h => ⟨h.1, kx, h.2⟩))
  clear cQ
  refine wp_region_keeps (by kernel_rfl) (by kernel_rfl) ?_
  repeat (go_big_quiet_step (with_reducible exact cQ2.out _))
  refine wpQuiet_nil ?_
  rintro x ⟨kq, hq⟩
  have KY : Hid (Keeps w x) := Lib.hid (K0.out.trans (by rw [hq]; exact kq.k))
  clear hq kq
  go_wp2
  go_ret
  exact ⟨rfl, KY.out⟩
set_option maxHeartbeats 4000000 in
set_option maxRecDepth 100000 in
theorem one_q2 (A : Option Addr) (c : Nat) (p : List Nt) (n : Nt) (w : World) (hA : NotesAt w A p) (hl : p.length ≤ 1000000) (h : n.kind = 3) (ht : n.txn = queuedZ p + 1) (ha : 4 < n.act.kind) :
    Calls Tryz.prog 38 #[.slice A p.length c, .agg (ntC n)] w (Ret (.bool (false)) w) := by
  have K0 := Lib.hid ((Keeps.refl w).alloc (.cells (ntC n) 29))
  have B0 := Lib.hid (NtB.new w n)
  have HA := Lib.hid hA
  have k1 : (n.kind == 1) = false := by simp; omega
  have k2 : (n.kind == 2) = false := by simp; omega
  have k9 : (n.kind == 9) = false := by simp; omega
  have k3 : (n.kind == 3) = true := by simp; omega
  have hq := queuedZ_bound p
  have cQ := Lib.hid (fun wx (k : Keeps w wx) => queued_any A c p wx (hA.keeps k) hl)
  have q1 : queuedZ p ≤ 1000000 := by omega
  have q2 : 0 ≤ queuedZ p := hq.1
  have t1 : (n.txn == queuedZ p + 1) = true := by simpa using ht
  have a1 : decide (1 ≤ n.act.kind) = true := decide_eq_true (by omega)
  have a4 : decide (n.act.kind ≤ 4) = false := decide_eq_false (by omega)
  clear ht ha
  clear h hq
  generalize queuedZ p = q at *
  generalize p.length = L at *
  clear hA
  generalize hW : w.alloc (.cells (ntC n) 29) = W at *
  obtain ⟨e0, e1, e2, e3, e4, e5, e6, e7, e8⟩ := B0.out.cells
  unfold ntC at hW ⊢
  go_enter Tryz.func38, Tryz.ntmps38
  go_wp2_with fail
  clear hW
  have q0 : ∀ kx : Wl W, kx.x.cell? ⟨w.heap.size, 1, none⟩ = some (.int .i64 n.txn) := fun kx => (B0.out.keeps kx.k).cells.2.1
  have a0 : ∀ kx : Wl W, kx.x.cell? ⟨w.heap.size, 2, none⟩ = some (.int .i64 n.act.kind) := fun kx => (B0.out.keeps kx.k).cells.2.2.1
  have cQ2 : Hid (∀ kx : Wl W, Calls Tryz.prog 61 #[.slice A L c] kx.x fun e w'' => e = .returned (.int .i64 q) ∧ ∃ k' : Wl W, w'' = k'.x) := Lib.hid (fun kx => (cQ.out kx.x (K0.out.trans kx.k)).mono (fun e w' h => ⟨h.1, kx, h.2⟩))
  clear cQ
  refine wp_region_keeps (by kernel_rfl) (by kernel_rfl) ?_
  repeat (go_big_quiet_step (with_reducible exact cQ2.out _))
  refine wpQuiet_nil ?_
  rintro x ⟨kq, hq⟩
  have KY : Hid (Keeps w x) := Lib.hid (K0.out.trans (by rw [hq]; exact kq.k))
  clear hq kq
  go_wp2
  go_ret
  exact ⟨rfl, KY.out⟩
set_option maxHeartbeats 4000000 in
set_option maxRecDepth 100000 in
theorem one_q3 (A : Option Addr) (c : Nat) (p : List Nt) (n : Nt) (w : World) (hA : NotesAt w A p) (hl : p.length ≤ 1000000) (h : n.kind = 3) (ht : n.txn = queuedZ p + 1) (ha : 1 ≤ n.act.kind ∧ n.act.kind ≤ 4) :
    Calls Tryz.prog 38 #[.slice A p.length c, .agg (ntC n)] w (Ret (.bool (true)) w) := by
  have K0 := Lib.hid ((Keeps.refl w).alloc (.cells (ntC n) 29))
  have B0 := Lib.hid (NtB.new w n)
  have HA := Lib.hid hA
  have k1 : (n.kind == 1) = false := by simp; omega
  have k2 : (n.kind == 2) = false := by simp; omega
  have k9 : (n.kind == 9) = false := by simp; omega
  have k3 : (n.kind == 3) = true := by simp; omega
  have hq := queuedZ_bound p
  have cQ := Lib.hid (fun wx (k : Keeps w wx) => queued_any A c p wx (hA.keeps k) hl)
  have q1 : queuedZ p ≤ 1000000 := by omega
  have q2 : 0 ≤ queuedZ p := hq.1
  have t1 : (n.txn == queuedZ p + 1) = true := by simpa using ht
  have a1 : decide (1 ≤ n.act.kind) = true := decide_eq_true (by omega)
  have a4 : decide (n.act.kind ≤ 4) = true := decide_eq_true (by omega)
  clear ht ha
  clear h hq
  generalize queuedZ p = q at *
  generalize p.length = L at *
  clear hA
  generalize hW : w.alloc (.cells (ntC n) 29) = W at *
  obtain ⟨e0, e1, e2, e3, e4, e5, e6, e7, e8⟩ := B0.out.cells
  unfold ntC at hW ⊢
  go_enter Tryz.func38, Tryz.ntmps38
  go_wp2_with fail
  clear hW
  have q0 : ∀ kx : Wl W, kx.x.cell? ⟨w.heap.size, 1, none⟩ = some (.int .i64 n.txn) := fun kx => (B0.out.keeps kx.k).cells.2.1
  have a0 : ∀ kx : Wl W, kx.x.cell? ⟨w.heap.size, 2, none⟩ = some (.int .i64 n.act.kind) := fun kx => (B0.out.keeps kx.k).cells.2.2.1
  have cQ2 : Hid (∀ kx : Wl W, Calls Tryz.prog 61 #[.slice A L c] kx.x fun e w'' => e = .returned (.int .i64 q) ∧ ∃ k' : Wl W, w'' = k'.x) := Lib.hid (fun kx => (cQ.out kx.x (K0.out.trans kx.k)).mono (fun e w' h => ⟨h.1, kx, h.2⟩))
  clear cQ
  refine wp_region_keeps (by kernel_rfl) (by kernel_rfl) ?_
  repeat (go_big_quiet_step (with_reducible exact cQ2.out _))
  refine wpQuiet_nil ?_
  rintro x ⟨kq, hq⟩
  have KY : Hid (Keeps w x) := Lib.hid (K0.out.trans (by rw [hq]; exact kq.k))
  clear hq kq
  go_wp2
  go_ret
  exact ⟨rfl, KY.out⟩
set_option maxHeartbeats 4000000 in
set_option maxRecDepth 100000 in
theorem one_n (A : Option Addr) (c : Nat) (p : List Nt) (n : Nt) (w : World) (hA : NotesAt w A p) (hl : p.length ≤ 1000000) (h : n.kind ≠ 1 ∧ n.kind ≠ 2 ∧ n.kind ≠ 9 ∧ n.kind ≠ 3) (ht : ¬ 0 < n.txn) :
    Calls Tryz.prog 38 #[.slice A p.length c, .agg (ntC n)] w (Ret (.bool (false)) w) := by
  have K0 := Lib.hid ((Keeps.refl w).alloc (.cells (ntC n) 29))
  have B0 := Lib.hid (NtB.new w n)
  have HA := Lib.hid hA
  have k1 : (n.kind == 1) = false := by simp; omega
  have k2 : (n.kind == 2) = false := by simp; omega
  have k9 : (n.kind == 9) = false := by simp; omega
  have k3 : (n.kind == 3) = false := by simp; omega
  have t0 : decide (0 < n.txn) = false := decide_eq_false ht
  clear h ht
  generalize p.length = L at *
  clear hA
  generalize hW : w.alloc (.cells (ntC n) 29) = W at *
  obtain ⟨e0, e1, e2, e3, e4, e5, e6, e7, e8⟩ := B0.out.cells
  unfold ntC at hW ⊢
  go_enter Tryz.func38, Tryz.ntmps38
  go_wp2_with fail
  clear hW
  have q0 : ∀ kx : Wl W, kx.x.cell? ⟨w.heap.size, 1, none⟩ = some (.int .i64 n.txn) := fun kx => (B0.out.keeps kx.k).cells.2.1
  refine wp_region_keeps (by kernel_rfl) (by kernel_rfl) ?_
  repeat (go_big_quiet_step (fail))
  refine wpQuiet_nil ?_
  rintro x ⟨kq, hq⟩
  have KY : Hid (Keeps w x) := Lib.hid (K0.out.trans (by rw [hq]; exact kq.k))
  clear hq kq
  go_wp2
  go_ret
  exact ⟨rfl, KY.out⟩
set_option maxHeartbeats 4000000 in
set_option maxRecDepth 100000 in
theorem one_m (A : Option Addr) (c : Nat) (p : List Nt) (n : Nt) (w : World) (hA : NotesAt w A p) (hl : p.length ≤ 1000000) (h : n.kind ≠ 1 ∧ n.kind ≠ 2 ∧ n.kind ≠ 9 ∧ n.kind ≠ 3) (ht : 0 < n.txn) :
    Calls Tryz.prog 38 #[.slice A p.length c, .agg (ntC n)] w (Ret (.bool (mayB (ofL p n.txn) n)) w) := by
  have K0 := Lib.hid ((Keeps.refl w).alloc (.cells (ntC n) 29))
  have B0 := Lib.hid (NtB.new w n)
  have HA := Lib.hid hA
  have k1 : (n.kind == 1) = false := by simp; omega
  have k2 : (n.kind == 2) = false := by simp; omega
  have k9 : (n.kind == 9) = false := by simp; omega
  have k3 : (n.kind == 3) = false := by simp; omega
  have cO := Lib.hid (fun wx (k : Keeps w wx) => rof_any A c p n.txn wx (hA.keeps k) hl)
  have hlo : (ofL p n.txn).length ≤ 1000000 := Nat.le_trans (List.length_filter_le _ _) hl
  have cM := Lib.hid (fun A' c' wx (h : NotesAt wx A' (ofL p n.txn)) => may_any A' c' (ofL p n.txn) n wx h hlo)
  generalize hres : mayB (ofL p n.txn) n = res at *
  have t0 : decide (0 < n.txn) = true := decide_eq_true ht
  clear hlo hres h ht
  unfold ntC at cM
  generalize p.length = L at *
  clear hA
  generalize hW : w.alloc (.cells (ntC n) 29) = W at *
  obtain ⟨e0, e1, e2, e3, e4, e5, e6, e7, e8⟩ := B0.out.cells
  unfold ntC at hW ⊢
  go_enter Tryz.func38, Tryz.ntmps38
  have J : Hid (Keeps W W) := Lib.hid (Keeps.refl W)
  go_wp2_with fail
  clear hW
  go_region_law (first
    | (go_simp; go_at_call 18; refine (cO.out _ (K0.out.trans (by (first | with_reducible exact J.out | with_reducible exact J.out.drew)))).mono ?_; rintro e x1 ⟨v, rfl, hrow, k⟩; obtain ⟨A', c', rfl, hN⟩ := hrow.notes; have HN := Lib.hid hN; (first | have j := J.out.trans k | have j := J.out.drew.trans k); clear J; have J := Lib.hid j; have B5 := B0.out.keeps j; clear e0 e1 e2 e3 e4 e5 e6 e7 e8; obtain ⟨e0, e1, e2, e3, e4, e5, e6, e7, e8⟩ := B5.cells; clear B5 j k hN hrow)
    | (go_simp; go_at_call 62; refine (cM.out A' c' _ HN.out).mono ?_; rintro e x2 ⟨rfl, k⟩; have j := J.out.trans k; clear J; have J := Lib.hid j; clear k j e0 e1 e2 e3 e4 e5 e6 e7 e8))
  all_goals
    have KY := Lib.hid (K0.out.trans J.out)
    go_wp2
    go_ret
    exact ⟨rfl, KY.out⟩
theorem one_any (A : Option Addr) (c : Nat) (p : List Nt) (n : Nt) (w : World) (hA : NotesAt w A p) (hl : p.length ≤ 1000000) : Calls Tryz.prog 38 #[.slice A p.length c, .agg (ntC n)] w (Ret (.bool (oneB p n)) w) := by
  unfold oneB
  by_cases hk : n.kind = 1 ∨ n.kind = 2 ∨ n.kind = 9
  · rw [if_pos hk]
    rcases hk with hk | hk | hk
    · exact one_b1 A c p n w hA hl hk
    · exact one_b2 A c p n w hA hl hk
    · exact one_b9 A c p n w hA hl hk
  · rw [if_neg hk]
    by_cases h3 : n.kind = 3
    · rw [if_pos h3]
      by_cases ht : n.txn = queuedZ p + 1
      · rw [show (n.txn == queuedZ p + 1) = true by simpa using ht, Bool.true_and]
        by_cases a1 : n.act.kind < 1
        · rw [decide_eq_false (show ¬ 1 ≤ n.act.kind by omega), Bool.false_and]
          exact one_q1 A c p n w hA hl h3 ht a1
        · by_cases a4 : 4 < n.act.kind
          · rw [decide_eq_false (show ¬ n.act.kind ≤ 4 by omega), Bool.and_false]
            exact one_q2 A c p n w hA hl h3 ht a4
          · rw [decide_eq_true (show 1 ≤ n.act.kind by omega), decide_eq_true (show n.act.kind ≤ 4 by omega), Bool.true_and]
            exact one_q3 A c p n w hA hl h3 ht ⟨by omega, by omega⟩
      · rw [show (n.txn == queuedZ p + 1) = false by simpa using ht, Bool.false_and]
        exact one_q0 A c p n w hA hl h3 ht
    · rw [if_neg h3]
      have hk' : n.kind ≠ 1 ∧ n.kind ≠ 2 ∧ n.kind ≠ 9 ∧ n.kind ≠ 3 := ⟨fun e => hk (.inl e), fun e => hk (.inr (.inl e)), fun e => hk (.inr (.inr e)), h3⟩
      by_cases ht : 0 < n.txn
      · rw [decide_eq_true ht, Bool.true_and]
        exact one_m A c p n w hA hl hk' ht
      · rw [decide_eq_false ht, Bool.false_and]
        exact one_n A c p n w hA hl hk' ht
end Go.Proofs.YtfapilgmgjmfeaaGreatDoor
