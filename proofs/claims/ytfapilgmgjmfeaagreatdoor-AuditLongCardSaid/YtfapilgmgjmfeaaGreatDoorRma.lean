/-
  The document's own may.
-/
import Derived.Test.YtfapilgmgjmfeaaGreatDoorApe
import Derived.Test.YtfapilgmgjmfeaaGreatDoorQk
namespace Go.Proofs.YtfapilgmgjmfeaaGreatDoor
open Go.RowKit

theorem may_nil (n : Nt) : mayB [] n = false := rfl
theorem may_cons (f : Nt) (r : List Nt) (n : Nt) : mayB (f :: r) n = ((f.kind == 3) && (!endsB ((f :: r).getLast (by simp)).kind && (decide (f.act = n.act) && (if n.kind = 4 then true else if n.kind = 5 ∨ n.kind = 7 ∨ n.kind = 6 then (((f :: r).getLast (by simp)).kind == 4) else (n.kind == 8 && !(((f :: r).getLast (by simp)).kind == 4)))))) := by
  unfold mayB liveOf
  simp only
  by_cases h3 : f.kind = 3
  · cases he : endsB ((f :: r).getLast (by simp)).kind with
    | true => simp [h3]
    | false => simp [h3]
  · have : (f.kind == 3) = false := by simpa using h3
    simp [h3]
set_option maxHeartbeats 4000000 in
set_option maxRecDepth 100000 in
theorem may_k (g o c m : Nat) (f z n : Nt) (w : World) (hf : CellsAt w g o (ntC f).toList) (hz : CellsAt w g (o + m * 9) (ntC z).toList) (hm : m ≤ 1000000) (h3 : f.kind ≠ 3) :
    Calls Tryz.prog 62 #[.slice (some ⟨g, o, none⟩) (m + 1) c, .agg (ntC n)] w (Ret (.bool (false)) w) := by
  have K0 := Lib.hid ((Keeps.refl w).alloc (.cells (ntC n) 29))
  have B0 := Lib.hid (NtB.new w n)
  have F0 := Lib.hid (hf.keeps K0.out)
  have Z0 := Lib.hid (hz.keeps K0.out)
  have cE := Lib.hid (fun wx => ends_any z.kind wx)
  have pA := fun wx => neq_act f.act n.act wx
  unfold actC at pA
  have m1 : ((m : Int) + 1) - 1 = (m : Int) := by omega
  have m2 : (m : Int) < (m : Int) + 1 := by omega
  have m3 : (0 : Int) ≤ (m : Int) := by omega
  have m4 : ((m : Int) + 1 == 0) = false := by simp; omega
  have m5 : (0 : Int) < (m : Int) + 1 := by omega
  have cE2 : Hid (∀ kx : World, True) := Lib.hid (fun _ => trivial)
  have f3 : (f.kind != 3) = true := by simp [h3]
  clear h3
  clear hf hz
  generalize hW : w.alloc (.cells (ntC n) 29) = W at *
  unfold ntC at hW ⊢
  go_enter Tryz.func62, Tryz.ntmps62
  go_wp2_with fail
  clear hW
  have q0 : ∀ kx : Wl W, kx.x.cell? ⟨g, o, none⟩ = some (.int .i64 f.kind) := fun kx => (F0.out.keeps kx.k).nine.1
  have a0 : ∀ kx : Wl W, kx.x.cell? ⟨g, o + 2, none⟩ = some (.int .i64 f.act.kind) := fun kx => (F0.out.keeps kx.k).nine.2.2.1
  have a1 : ∀ kx : Wl W, kx.x.cell? ⟨g, o + 3, none⟩ = some (.string (S f.act.room)) := fun kx => (F0.out.keeps kx.k).nine.2.2.2.1
  have a2 : ∀ kx : Wl W, kx.x.cell? ⟨g, o + 4, none⟩ = some (.string (S f.act.subj)) := fun kx => (F0.out.keeps kx.k).nine.2.2.2.2.1
  have a3 : ∀ kx : Wl W, kx.x.cell? ⟨g, o + 5, none⟩ = some (.string (S f.act.reason)) := fun kx => (F0.out.keeps kx.k).nine.2.2.2.2.2.1
  have a4 : ∀ kx : Wl W, kx.x.cell? ⟨g, o + 6, none⟩ = some (.string (S f.act.deny)) := fun kx => (F0.out.keeps kx.k).nine.2.2.2.2.2.2.1
  have z0 : ∀ kx : Wl W, kx.x.cell? ⟨g, o + m * 9, none⟩ = some (.int .i64 z.kind) := fun kx => (Z0.out.keeps kx.k).nine.1
  have b0 : ∀ kx : Wl W, kx.x.cell? ⟨w.heap.size, 2, none⟩ = some (.int .i64 n.act.kind) := fun kx => (B0.out.keeps kx.k).cells.2.2.1
  have b1 : ∀ kx : Wl W, kx.x.cell? ⟨w.heap.size, 3, none⟩ = some (.string (S n.act.room)) := fun kx => (B0.out.keeps kx.k).cells.2.2.2.1
  have b2 : ∀ kx : Wl W, kx.x.cell? ⟨w.heap.size, 4, none⟩ = some (.string (S n.act.subj)) := fun kx => (B0.out.keeps kx.k).cells.2.2.2.2.1
  have b3 : ∀ kx : Wl W, kx.x.cell? ⟨w.heap.size, 5, none⟩ = some (.string (S n.act.reason)) := fun kx => (B0.out.keeps kx.k).cells.2.2.2.2.2.1
  have b4 : ∀ kx : Wl W, kx.x.cell? ⟨w.heap.size, 6, none⟩ = some (.string (S n.act.deny)) := fun kx => (B0.out.keeps kx.k).cells.2.2.2.2.2.2.1
  refine wp_region_keeps (by kernel_rfl) (by kernel_rfl) ?_
  repeat (go_big_quiet_step (exact cE2.out _))
  refine wpQuiet_nil ?_
  rintro x ⟨kq, hq⟩
  have KX : Hid (Keeps W x) := Lib.hid (by rw [hq]; exact kq.k)
  have KY := Lib.hid (K0.out.trans KX.out)
  clear hq kq q0 a0 a1 a2 a3 a4 z0 b0 b1 b2 b3 b4
  go_wp2
  go_ret
  exact ⟨rfl, KY.out⟩
set_option maxHeartbeats 4000000 in
set_option maxRecDepth 100000 in
theorem may_e (g o c m : Nat) (f z n : Nt) (w : World) (hf : CellsAt w g o (ntC f).toList) (hz : CellsAt w g (o + m * 9) (ntC z).toList) (hm : m ≤ 1000000) (h3 : f.kind = 3) (he : endsB z.kind = true) :
    Calls Tryz.prog 62 #[.slice (some ⟨g, o, none⟩) (m + 1) c, .agg (ntC n)] w (Ret (.bool (false)) w) := by
  have K0 := Lib.hid ((Keeps.refl w).alloc (.cells (ntC n) 29))
  have B0 := Lib.hid (NtB.new w n)
  have F0 := Lib.hid (hf.keeps K0.out)
  have Z0 := Lib.hid (hz.keeps K0.out)
  have cE := Lib.hid (fun wx => ends_any z.kind wx)
  have pA := fun wx => neq_act f.act n.act wx
  unfold actC at pA
  have m1 : ((m : Int) + 1) - 1 = (m : Int) := by omega
  have m2 : (m : Int) < (m : Int) + 1 := by omega
  have m3 : (0 : Int) ≤ (m : Int) := by omega
  have m4 : ((m : Int) + 1 == 0) = false := by simp; omega
  have m5 : (0 : Int) < (m : Int) + 1 := by omega
  rw [he] at cE
  have cE2 : Hid (∀ kx : Wl (w.alloc (.cells (ntC n) 29)), Calls Tryz.prog 70 #[.int .i64 z.kind] kx.x fun e w'' => e = .returned (.bool true) ∧ ∃ k' : Wl (w.alloc (.cells (ntC n) 29)), w'' = k'.x) := Lib.hid (fun kx => (cE.out kx.x).mono (fun e w' h => ⟨h.1, kx, h.2⟩))
  have f3 : (f.kind != 3) = false := by simp [h3]
  clear h3 he cE
  clear hf hz
  generalize hW : w.alloc (.cells (ntC n) 29) = W at *
  unfold ntC at hW ⊢
  go_enter Tryz.func62, Tryz.ntmps62
  go_wp2_with fail
  clear hW
  have q0 : ∀ kx : Wl W, kx.x.cell? ⟨g, o, none⟩ = some (.int .i64 f.kind) := fun kx => (F0.out.keeps kx.k).nine.1
  have a0 : ∀ kx : Wl W, kx.x.cell? ⟨g, o + 2, none⟩ = some (.int .i64 f.act.kind) := fun kx => (F0.out.keeps kx.k).nine.2.2.1
  have a1 : ∀ kx : Wl W, kx.x.cell? ⟨g, o + 3, none⟩ = some (.string (S f.act.room)) := fun kx => (F0.out.keeps kx.k).nine.2.2.2.1
  have a2 : ∀ kx : Wl W, kx.x.cell? ⟨g, o + 4, none⟩ = some (.string (S f.act.subj)) := fun kx => (F0.out.keeps kx.k).nine.2.2.2.2.1
  have a3 : ∀ kx : Wl W, kx.x.cell? ⟨g, o + 5, none⟩ = some (.string (S f.act.reason)) := fun kx => (F0.out.keeps kx.k).nine.2.2.2.2.2.1
  have a4 : ∀ kx : Wl W, kx.x.cell? ⟨g, o + 6, none⟩ = some (.string (S f.act.deny)) := fun kx => (F0.out.keeps kx.k).nine.2.2.2.2.2.2.1
  have z0 : ∀ kx : Wl W, kx.x.cell? ⟨g, o + m * 9, none⟩ = some (.int .i64 z.kind) := fun kx => (Z0.out.keeps kx.k).nine.1
  have b0 : ∀ kx : Wl W, kx.x.cell? ⟨w.heap.size, 2, none⟩ = some (.int .i64 n.act.kind) := fun kx => (B0.out.keeps kx.k).cells.2.2.1
  have b1 : ∀ kx : Wl W, kx.x.cell? ⟨w.heap.size, 3, none⟩ = some (.string (S n.act.room)) := fun kx => (B0.out.keeps kx.k).cells.2.2.2.1
  have b2 : ∀ kx : Wl W, kx.x.cell? ⟨w.heap.size, 4, none⟩ = some (.string (S n.act.subj)) := fun kx => (B0.out.keeps kx.k).cells.2.2.2.2.1
  have b3 : ∀ kx : Wl W, kx.x.cell? ⟨w.heap.size, 5, none⟩ = some (.string (S n.act.reason)) := fun kx => (B0.out.keeps kx.k).cells.2.2.2.2.2.1
  have b4 : ∀ kx : Wl W, kx.x.cell? ⟨w.heap.size, 6, none⟩ = some (.string (S n.act.deny)) := fun kx => (B0.out.keeps kx.k).cells.2.2.2.2.2.2.1
  refine wp_region_keeps (by kernel_rfl) (by kernel_rfl) ?_
  repeat (go_big_quiet_step (exact cE2.out _))
  refine wpQuiet_nil ?_
  rintro x ⟨kq, hq⟩
  have KX : Hid (Keeps W x) := Lib.hid (by rw [hq]; exact kq.k)
  have KY := Lib.hid (K0.out.trans KX.out)
  clear hq kq q0 a0 a1 a2 a3 a4 z0 b0 b1 b2 b3 b4
  go_wp2
  go_ret
  exact ⟨rfl, KY.out⟩
set_option maxHeartbeats 4000000 in
set_option maxRecDepth 100000 in
theorem may_a (g o c m : Nat) (f z n : Nt) (w : World) (hf : CellsAt w g o (ntC f).toList) (hz : CellsAt w g (o + m * 9) (ntC z).toList) (hm : m ≤ 1000000) (h3 : f.kind = 3) (he : endsB z.kind = false) (ha : f.act ≠ n.act) :
    Calls Tryz.prog 62 #[.slice (some ⟨g, o, none⟩) (m + 1) c, .agg (ntC n)] w (Ret (.bool (false)) w) := by
  have K0 := Lib.hid ((Keeps.refl w).alloc (.cells (ntC n) 29))
  have B0 := Lib.hid (NtB.new w n)
  have F0 := Lib.hid (hf.keeps K0.out)
  have Z0 := Lib.hid (hz.keeps K0.out)
  have cE := Lib.hid (fun wx => ends_any z.kind wx)
  have pA := fun wx => neq_act f.act n.act wx
  unfold actC at pA
  have m1 : ((m : Int) + 1) - 1 = (m : Int) := by omega
  have m2 : (m : Int) < (m : Int) + 1 := by omega
  have m3 : (0 : Int) ≤ (m : Int) := by omega
  have m4 : ((m : Int) + 1 == 0) = false := by simp; omega
  have m5 : (0 : Int) < (m : Int) + 1 := by omega
  rw [he] at cE
  have cE2 : Hid (∀ kx : Wl (w.alloc (.cells (ntC n) 29)), Calls Tryz.prog 70 #[.int .i64 z.kind] kx.x fun e w'' => e = .returned (.bool false) ∧ ∃ k' : Wl (w.alloc (.cells (ntC n) 29)), w'' = k'.x) := Lib.hid (fun kx => (cE.out kx.x).mono (fun e w' h => ⟨h.1, kx, h.2⟩))
  have f3 : (f.kind != 3) = false := by simp [h3]
  have ha2 : (!decide (f.act = n.act)) = true := by simp [ha]
  rw [ha2] at pA
  clear h3 he cE ha ha2
  clear hf hz
  generalize hW : w.alloc (.cells (ntC n) 29) = W at *
  unfold ntC at hW ⊢
  go_enter Tryz.func62, Tryz.ntmps62
  go_wp2_with fail
  clear hW
  have q0 : ∀ kx : Wl W, kx.x.cell? ⟨g, o, none⟩ = some (.int .i64 f.kind) := fun kx => (F0.out.keeps kx.k).nine.1
  have a0 : ∀ kx : Wl W, kx.x.cell? ⟨g, o + 2, none⟩ = some (.int .i64 f.act.kind) := fun kx => (F0.out.keeps kx.k).nine.2.2.1
  have a1 : ∀ kx : Wl W, kx.x.cell? ⟨g, o + 3, none⟩ = some (.string (S f.act.room)) := fun kx => (F0.out.keeps kx.k).nine.2.2.2.1
  have a2 : ∀ kx : Wl W, kx.x.cell? ⟨g, o + 4, none⟩ = some (.string (S f.act.subj)) := fun kx => (F0.out.keeps kx.k).nine.2.2.2.2.1
  have a3 : ∀ kx : Wl W, kx.x.cell? ⟨g, o + 5, none⟩ = some (.string (S f.act.reason)) := fun kx => (F0.out.keeps kx.k).nine.2.2.2.2.2.1
  have a4 : ∀ kx : Wl W, kx.x.cell? ⟨g, o + 6, none⟩ = some (.string (S f.act.deny)) := fun kx => (F0.out.keeps kx.k).nine.2.2.2.2.2.2.1
  have z0 : ∀ kx : Wl W, kx.x.cell? ⟨g, o + m * 9, none⟩ = some (.int .i64 z.kind) := fun kx => (Z0.out.keeps kx.k).nine.1
  have b0 : ∀ kx : Wl W, kx.x.cell? ⟨w.heap.size, 2, none⟩ = some (.int .i64 n.act.kind) := fun kx => (B0.out.keeps kx.k).cells.2.2.1
  have b1 : ∀ kx : Wl W, kx.x.cell? ⟨w.heap.size, 3, none⟩ = some (.string (S n.act.room)) := fun kx => (B0.out.keeps kx.k).cells.2.2.2.1
  have b2 : ∀ kx : Wl W, kx.x.cell? ⟨w.heap.size, 4, none⟩ = some (.string (S n.act.subj)) := fun kx => (B0.out.keeps kx.k).cells.2.2.2.2.1
  have b3 : ∀ kx : Wl W, kx.x.cell? ⟨w.heap.size, 5, none⟩ = some (.string (S n.act.reason)) := fun kx => (B0.out.keeps kx.k).cells.2.2.2.2.2.1
  have b4 : ∀ kx : Wl W, kx.x.cell? ⟨w.heap.size, 6, none⟩ = some (.string (S n.act.deny)) := fun kx => (B0.out.keeps kx.k).cells.2.2.2.2.2.2.1
  refine wp_region_keeps (by kernel_rfl) (by kernel_rfl) ?_
  repeat (go_big_quiet_step (exact cE2.out _))
  refine wpQuiet_nil ?_
  rintro x ⟨kq, hq⟩
  have KX : Hid (Keeps W x) := Lib.hid (by rw [hq]; exact kq.k)
  have KY := Lib.hid (K0.out.trans KX.out)
  clear hq kq q0 a0 a1 a2 a3 a4 z0 b0 b1 b2 b3 b4
  go_wp2
  go_ret
  exact ⟨rfl, KY.out⟩
set_option maxHeartbeats 4000000 in
set_option maxRecDepth 100000 in
theorem may_ok4 (g o c m : Nat) (f z n : Nt) (w : World) (hf : CellsAt w g o (ntC f).toList) (hz : CellsAt w g (o + m * 9) (ntC z).toList) (hm : m ≤ 1000000) (h3 : f.kind = 3) (he : endsB z.kind = false) (ha : f.act = n.act) (h4 : n.kind = 4) :
    Calls Tryz.prog 62 #[.slice (some ⟨g, o, none⟩) (m + 1) c, .agg (ntC n)] w (Ret (.bool (true)) w) := by
  have K0 := Lib.hid ((Keeps.refl w).alloc (.cells (ntC n) 29))
  have B0 := Lib.hid (NtB.new w n)
  have F0 := Lib.hid (hf.keeps K0.out)
  have Z0 := Lib.hid (hz.keeps K0.out)
  have cE := Lib.hid (fun wx => ends_any z.kind wx)
  have pA := fun wx => neq_act f.act n.act wx
  unfold actC at pA
  have m1 : ((m : Int) + 1) - 1 = (m : Int) := by omega
  have m2 : (m : Int) < (m : Int) + 1 := by omega
  have m3 : (0 : Int) ≤ (m : Int) := by omega
  have m4 : ((m : Int) + 1 == 0) = false := by simp; omega
  have m5 : (0 : Int) < (m : Int) + 1 := by omega
  rw [he] at cE
  have cE2 : Hid (∀ kx : Wl (w.alloc (.cells (ntC n) 29)), Calls Tryz.prog 70 #[.int .i64 z.kind] kx.x fun e w'' => e = .returned (.bool false) ∧ ∃ k' : Wl (w.alloc (.cells (ntC n) 29)), w'' = k'.x) := Lib.hid (fun kx => (cE.out kx.x).mono (fun e w' h => ⟨h.1, kx, h.2⟩))
  have f3 : (f.kind != 3) = false := by simp [h3]
  have ha2 : (!decide (f.act = n.act)) = false := by simp [ha]
  rw [ha2] at pA
  have k4 : (n.kind == 4) = true := by simp; omega
  clear h3 he cE ha ha2 h4
  clear hf hz
  generalize hW : w.alloc (.cells (ntC n) 29) = W at *
  unfold ntC at hW ⊢
  go_enter Tryz.func62, Tryz.ntmps62
  go_wp2_with fail
  clear hW
  have q0 : ∀ kx : Wl W, kx.x.cell? ⟨g, o, none⟩ = some (.int .i64 f.kind) := fun kx => (F0.out.keeps kx.k).nine.1
  have a0 : ∀ kx : Wl W, kx.x.cell? ⟨g, o + 2, none⟩ = some (.int .i64 f.act.kind) := fun kx => (F0.out.keeps kx.k).nine.2.2.1
  have a1 : ∀ kx : Wl W, kx.x.cell? ⟨g, o + 3, none⟩ = some (.string (S f.act.room)) := fun kx => (F0.out.keeps kx.k).nine.2.2.2.1
  have a2 : ∀ kx : Wl W, kx.x.cell? ⟨g, o + 4, none⟩ = some (.string (S f.act.subj)) := fun kx => (F0.out.keeps kx.k).nine.2.2.2.2.1
  have a3 : ∀ kx : Wl W, kx.x.cell? ⟨g, o + 5, none⟩ = some (.string (S f.act.reason)) := fun kx => (F0.out.keeps kx.k).nine.2.2.2.2.2.1
  have a4 : ∀ kx : Wl W, kx.x.cell? ⟨g, o + 6, none⟩ = some (.string (S f.act.deny)) := fun kx => (F0.out.keeps kx.k).nine.2.2.2.2.2.2.1
  have z0 : ∀ kx : Wl W, kx.x.cell? ⟨g, o + m * 9, none⟩ = some (.int .i64 z.kind) := fun kx => (Z0.out.keeps kx.k).nine.1
  have b0 : ∀ kx : Wl W, kx.x.cell? ⟨w.heap.size, 2, none⟩ = some (.int .i64 n.act.kind) := fun kx => (B0.out.keeps kx.k).cells.2.2.1
  have b1 : ∀ kx : Wl W, kx.x.cell? ⟨w.heap.size, 3, none⟩ = some (.string (S n.act.room)) := fun kx => (B0.out.keeps kx.k).cells.2.2.2.1
  have b2 : ∀ kx : Wl W, kx.x.cell? ⟨w.heap.size, 4, none⟩ = some (.string (S n.act.subj)) := fun kx => (B0.out.keeps kx.k).cells.2.2.2.2.1
  have b3 : ∀ kx : Wl W, kx.x.cell? ⟨w.heap.size, 5, none⟩ = some (.string (S n.act.reason)) := fun kx => (B0.out.keeps kx.k).cells.2.2.2.2.2.1
  have b4 : ∀ kx : Wl W, kx.x.cell? ⟨w.heap.size, 6, none⟩ = some (.string (S n.act.deny)) := fun kx => (B0.out.keeps kx.k).cells.2.2.2.2.2.2.1
  refine wp_region_keeps (by kernel_rfl) (by kernel_rfl) ?_
  repeat (go_big_quiet_step (exact cE2.out _))
  refine wpQuiet_nil ?_
  rintro x ⟨kq, hq⟩
  have KX : Hid (Keeps W x) := Lib.hid (by rw [hq]; exact kq.k)
  have KY := Lib.hid (K0.out.trans KX.out)
  clear hq kq q0 a0 a1 a2 a3 a4 z0 b0 b1 b2 b3 b4
  have F1 := Lib.hid (F0.out.keeps KX.out)
  obtain ⟨y0, y1, y2, y3, y4, y5, y6, y7, y8⟩ := (Z0.out.keeps KX.out).nine
  obtain ⟨d0, d1, d2, d3, d4, d5, d6, d7, d8⟩ := (B0.out.keeps KX.out).cells
  go_wp2
  go_ret
  exact ⟨rfl, KY.out⟩
set_option maxHeartbeats 4000000 in
set_option maxRecDepth 100000 in
theorem may_ok5 (g o c m : Nat) (f z n : Nt) (w : World) (hf : CellsAt w g o (ntC f).toList) (hz : CellsAt w g (o + m * 9) (ntC z).toList) (hm : m ≤ 1000000) (h3 : f.kind = 3) (he : endsB z.kind = false) (ha : f.act = n.act) (h4 : n.kind = 5) :
    Calls Tryz.prog 62 #[.slice (some ⟨g, o, none⟩) (m + 1) c, .agg (ntC n)] w (Ret (.bool (z.kind == 4)) w) := by
  have K0 := Lib.hid ((Keeps.refl w).alloc (.cells (ntC n) 29))
  have B0 := Lib.hid (NtB.new w n)
  have F0 := Lib.hid (hf.keeps K0.out)
  have Z0 := Lib.hid (hz.keeps K0.out)
  have cE := Lib.hid (fun wx => ends_any z.kind wx)
  have pA := fun wx => neq_act f.act n.act wx
  unfold actC at pA
  have m1 : ((m : Int) + 1) - 1 = (m : Int) := by omega
  have m2 : (m : Int) < (m : Int) + 1 := by omega
  have m3 : (0 : Int) ≤ (m : Int) := by omega
  have m4 : ((m : Int) + 1 == 0) = false := by simp; omega
  have m5 : (0 : Int) < (m : Int) + 1 := by omega
  rw [he] at cE
  have cE2 : Hid (∀ kx : Wl (w.alloc (.cells (ntC n) 29)), Calls Tryz.prog 70 #[.int .i64 z.kind] kx.x fun e w'' => e = .returned (.bool false) ∧ ∃ k' : Wl (w.alloc (.cells (ntC n) 29)), w'' = k'.x) := Lib.hid (fun kx => (cE.out kx.x).mono (fun e w' h => ⟨h.1, kx, h.2⟩))
  have f3 : (f.kind != 3) = false := by simp [h3]
  have ha2 : (!decide (f.act = n.act)) = false := by simp [ha]
  rw [ha2] at pA
  have k4 : (n.kind == 4) = false := by simp; omega
  have k5 : (n.kind == 5) = true := by simp; omega
  clear h3 he cE ha ha2 h4
  clear hf hz
  generalize hW : w.alloc (.cells (ntC n) 29) = W at *
  unfold ntC at hW ⊢
  go_enter Tryz.func62, Tryz.ntmps62
  go_wp2_with fail
  clear hW
  have q0 : ∀ kx : Wl W, kx.x.cell? ⟨g, o, none⟩ = some (.int .i64 f.kind) := fun kx => (F0.out.keeps kx.k).nine.1
  have a0 : ∀ kx : Wl W, kx.x.cell? ⟨g, o + 2, none⟩ = some (.int .i64 f.act.kind) := fun kx => (F0.out.keeps kx.k).nine.2.2.1
  have a1 : ∀ kx : Wl W, kx.x.cell? ⟨g, o + 3, none⟩ = some (.string (S f.act.room)) := fun kx => (F0.out.keeps kx.k).nine.2.2.2.1
  have a2 : ∀ kx : Wl W, kx.x.cell? ⟨g, o + 4, none⟩ = some (.string (S f.act.subj)) := fun kx => (F0.out.keeps kx.k).nine.2.2.2.2.1
  have a3 : ∀ kx : Wl W, kx.x.cell? ⟨g, o + 5, none⟩ = some (.string (S f.act.reason)) := fun kx => (F0.out.keeps kx.k).nine.2.2.2.2.2.1
  have a4 : ∀ kx : Wl W, kx.x.cell? ⟨g, o + 6, none⟩ = some (.string (S f.act.deny)) := fun kx => (F0.out.keeps kx.k).nine.2.2.2.2.2.2.1
  have z0 : ∀ kx : Wl W, kx.x.cell? ⟨g, o + m * 9, none⟩ = some (.int .i64 z.kind) := fun kx => (Z0.out.keeps kx.k).nine.1
  have b0 : ∀ kx : Wl W, kx.x.cell? ⟨w.heap.size, 2, none⟩ = some (.int .i64 n.act.kind) := fun kx => (B0.out.keeps kx.k).cells.2.2.1
  have b1 : ∀ kx : Wl W, kx.x.cell? ⟨w.heap.size, 3, none⟩ = some (.string (S n.act.room)) := fun kx => (B0.out.keeps kx.k).cells.2.2.2.1
  have b2 : ∀ kx : Wl W, kx.x.cell? ⟨w.heap.size, 4, none⟩ = some (.string (S n.act.subj)) := fun kx => (B0.out.keeps kx.k).cells.2.2.2.2.1
  have b3 : ∀ kx : Wl W, kx.x.cell? ⟨w.heap.size, 5, none⟩ = some (.string (S n.act.reason)) := fun kx => (B0.out.keeps kx.k).cells.2.2.2.2.2.1
  have b4 : ∀ kx : Wl W, kx.x.cell? ⟨w.heap.size, 6, none⟩ = some (.string (S n.act.deny)) := fun kx => (B0.out.keeps kx.k).cells.2.2.2.2.2.2.1
  refine wp_region_keeps (by kernel_rfl) (by kernel_rfl) ?_
  repeat (go_big_quiet_step (exact cE2.out _))
  refine wpQuiet_nil ?_
  rintro x ⟨kq, hq⟩
  have KX : Hid (Keeps W x) := Lib.hid (by rw [hq]; exact kq.k)
  have KY := Lib.hid (K0.out.trans KX.out)
  clear hq kq q0 a0 a1 a2 a3 a4 z0 b0 b1 b2 b3 b4
  have F1 := Lib.hid (F0.out.keeps KX.out)
  obtain ⟨y0, y1, y2, y3, y4, y5, y6, y7, y8⟩ := (Z0.out.keeps KX.out).nine
  obtain ⟨d0, d1, d2, d3, d4, d5, d6, d7, d8⟩ := (B0.out.keeps KX.out).cells
  go_wp2
  go_ret
  exact ⟨rfl, KY.out⟩
set_option maxHeartbeats 4000000 in
set_option maxRecDepth 100000 in
theorem may_ok7 (g o c m : Nat) (f z n : Nt) (w : World) (hf : CellsAt w g o (ntC f).toList) (hz : CellsAt w g (o + m * 9) (ntC z).toList) (hm : m ≤ 1000000) (h3 : f.kind = 3) (he : endsB z.kind = false) (ha : f.act = n.act) (h4 : n.kind = 7) :
    Calls Tryz.prog 62 #[.slice (some ⟨g, o, none⟩) (m + 1) c, .agg (ntC n)] w (Ret (.bool (z.kind == 4)) w) := by
  have K0 := Lib.hid ((Keeps.refl w).alloc (.cells (ntC n) 29))
  have B0 := Lib.hid (NtB.new w n)
  have F0 := Lib.hid (hf.keeps K0.out)
  have Z0 := Lib.hid (hz.keeps K0.out)
  have cE := Lib.hid (fun wx => ends_any z.kind wx)
  have pA := fun wx => neq_act f.act n.act wx
  unfold actC at pA
  have m1 : ((m : Int) + 1) - 1 = (m : Int) := by omega
  have m2 : (m : Int) < (m : Int) + 1 := by omega
  have m3 : (0 : Int) ≤ (m : Int) := by omega
  have m4 : ((m : Int) + 1 == 0) = false := by simp; omega
  have m5 : (0 : Int) < (m : Int) + 1 := by omega
  rw [he] at cE
  have cE2 : Hid (∀ kx : Wl (w.alloc (.cells (ntC n) 29)), Calls Tryz.prog 70 #[.int .i64 z.kind] kx.x fun e w'' => e = .returned (.bool false) ∧ ∃ k' : Wl (w.alloc (.cells (ntC n) 29)), w'' = k'.x) := Lib.hid (fun kx => (cE.out kx.x).mono (fun e w' h => ⟨h.1, kx, h.2⟩))
  have f3 : (f.kind != 3) = false := by simp [h3]
  have ha2 : (!decide (f.act = n.act)) = false := by simp [ha]
  rw [ha2] at pA
  have k4 : (n.kind == 4) = false := by simp; omega
  have k5 : (n.kind == 5) = false := by simp; omega
  have k7 : (n.kind == 7) = true := by simp; omega
  clear h3 he cE ha ha2 h4
  clear hf hz
  generalize hW : w.alloc (.cells (ntC n) 29) = W at *
  unfold ntC at hW ⊢
  go_enter Tryz.func62, Tryz.ntmps62
  go_wp2_with fail
  clear hW
  have q0 : ∀ kx : Wl W, kx.x.cell? ⟨g, o, none⟩ = some (.int .i64 f.kind) := fun kx => (F0.out.keeps kx.k).nine.1
  have a0 : ∀ kx : Wl W, kx.x.cell? ⟨g, o + 2, none⟩ = some (.int .i64 f.act.kind) := fun kx => (F0.out.keeps kx.k).nine.2.2.1
  have a1 : ∀ kx : Wl W, kx.x.cell? ⟨g, o + 3, none⟩ = some (.string (S f.act.room)) := fun kx => (F0.out.keeps kx.k).nine.2.2.2.1
  have a2 : ∀ kx : Wl W, kx.x.cell? ⟨g, o + 4, none⟩ = some (.string (S f.act.subj)) := fun kx => (F0.out.keeps kx.k).nine.2.2.2.2.1
  have a3 : ∀ kx : Wl W, kx.x.cell? ⟨g, o + 5, none⟩ = some (.string (S f.act.reason)) := fun kx => (F0.out.keeps kx.k).nine.2.2.2.2.2.1
  have a4 : ∀ kx : Wl W, kx.x.cell? ⟨g, o + 6, none⟩ = some (.string (S f.act.deny)) := fun kx => (F0.out.keeps kx.k).nine.2.2.2.2.2.2.1
  have z0 : ∀ kx : Wl W, kx.x.cell? ⟨g, o + m * 9, none⟩ = some (.int .i64 z.kind) := fun kx => (Z0.out.keeps kx.k).nine.1
  have b0 : ∀ kx : Wl W, kx.x.cell? ⟨w.heap.size, 2, none⟩ = some (.int .i64 n.act.kind) := fun kx => (B0.out.keeps kx.k).cells.2.2.1
  have b1 : ∀ kx : Wl W, kx.x.cell? ⟨w.heap.size, 3, none⟩ = some (.string (S n.act.room)) := fun kx => (B0.out.keeps kx.k).cells.2.2.2.1
  have b2 : ∀ kx : Wl W, kx.x.cell? ⟨w.heap.size, 4, none⟩ = some (.string (S n.act.subj)) := fun kx => (B0.out.keeps kx.k).cells.2.2.2.2.1
  have b3 : ∀ kx : Wl W, kx.x.cell? ⟨w.heap.size, 5, none⟩ = some (.string (S n.act.reason)) := fun kx => (B0.out.keeps kx.k).cells.2.2.2.2.2.1
  have b4 : ∀ kx : Wl W, kx.x.cell? ⟨w.heap.size, 6, none⟩ = some (.string (S n.act.deny)) := fun kx => (B0.out.keeps kx.k).cells.2.2.2.2.2.2.1
  refine wp_region_keeps (by kernel_rfl) (by kernel_rfl) ?_
  repeat (go_big_quiet_step (exact cE2.out _))
  refine wpQuiet_nil ?_
  rintro x ⟨kq, hq⟩
  have KX : Hid (Keeps W x) := Lib.hid (by rw [hq]; exact kq.k)
  have KY := Lib.hid (K0.out.trans KX.out)
  clear hq kq q0 a0 a1 a2 a3 a4 z0 b0 b1 b2 b3 b4
  have F1 := Lib.hid (F0.out.keeps KX.out)
  obtain ⟨y0, y1, y2, y3, y4, y5, y6, y7, y8⟩ := (Z0.out.keeps KX.out).nine
  obtain ⟨d0, d1, d2, d3, d4, d5, d6, d7, d8⟩ := (B0.out.keeps KX.out).cells
  go_wp2
  go_ret
  exact ⟨rfl, KY.out⟩
set_option maxHeartbeats 4000000 in
set_option maxRecDepth 100000 in
theorem may_ok6 (g o c m : Nat) (f z n : Nt) (w : World) (hf : CellsAt w g o (ntC f).toList) (hz : CellsAt w g (o + m * 9) (ntC z).toList) (hm : m ≤ 1000000) (h3 : f.kind = 3) (he : endsB z.kind = false) (ha : f.act = n.act) (h4 : n.kind = 6) :
    Calls Tryz.prog 62 #[.slice (some ⟨g, o, none⟩) (m + 1) c, .agg (ntC n)] w (Ret (.bool (z.kind == 4)) w) := by
  have K0 := Lib.hid ((Keeps.refl w).alloc (.cells (ntC n) 29))
  have B0 := Lib.hid (NtB.new w n)
  have F0 := Lib.hid (hf.keeps K0.out)
  have Z0 := Lib.hid (hz.keeps K0.out)
  have cE := Lib.hid (fun wx => ends_any z.kind wx)
  have pA := fun wx => neq_act f.act n.act wx
  unfold actC at pA
  have m1 : ((m : Int) + 1) - 1 = (m : Int) := by omega
  have m2 : (m : Int) < (m : Int) + 1 := by omega
  have m3 : (0 : Int) ≤ (m : Int) := by omega
  have m4 : ((m : Int) + 1 == 0) = false := by simp; omega
  have m5 : (0 : Int) < (m : Int) + 1 := by omega
  rw [he] at cE
  have cE2 : Hid (∀ kx : Wl (w.alloc (.cells (ntC n) 29)), Calls Tryz.prog 70 #[.int .i64 z.kind] kx.x fun e w'' => e = .returned (.bool false) ∧ ∃ k' : Wl (w.alloc (.cells (ntC n) 29)), w'' = k'.x) := Lib.hid (fun kx => (cE.out kx.x).mono (fun e w' h => ⟨h.1, kx, h.2⟩))
  have f3 : (f.kind != 3) = false := by simp [h3]
  have ha2 : (!decide (f.act = n.act)) = false := by simp [ha]
  rw [ha2] at pA
  have k4 : (n.kind == 4) = false := by simp; omega
  have k5 : (n.kind == 5) = false := by simp; omega
  have k7 : (n.kind == 7) = false := by simp; omega
  have k6 : (n.kind == 6) = true := by simp; omega
  clear h3 he cE ha ha2 h4
  clear hf hz
  generalize hW : w.alloc (.cells (ntC n) 29) = W at *
  unfold ntC at hW ⊢
  go_enter Tryz.func62, Tryz.ntmps62
  go_wp2_with fail
  clear hW
  have q0 : ∀ kx : Wl W, kx.x.cell? ⟨g, o, none⟩ = some (.int .i64 f.kind) := fun kx => (F0.out.keeps kx.k).nine.1
  have a0 : ∀ kx : Wl W, kx.x.cell? ⟨g, o + 2, none⟩ = some (.int .i64 f.act.kind) := fun kx => (F0.out.keeps kx.k).nine.2.2.1
  have a1 : ∀ kx : Wl W, kx.x.cell? ⟨g, o + 3, none⟩ = some (.string (S f.act.room)) := fun kx => (F0.out.keeps kx.k).nine.2.2.2.1
  have a2 : ∀ kx : Wl W, kx.x.cell? ⟨g, o + 4, none⟩ = some (.string (S f.act.subj)) := fun kx => (F0.out.keeps kx.k).nine.2.2.2.2.1
  have a3 : ∀ kx : Wl W, kx.x.cell? ⟨g, o + 5, none⟩ = some (.string (S f.act.reason)) := fun kx => (F0.out.keeps kx.k).nine.2.2.2.2.2.1
  have a4 : ∀ kx : Wl W, kx.x.cell? ⟨g, o + 6, none⟩ = some (.string (S f.act.deny)) := fun kx => (F0.out.keeps kx.k).nine.2.2.2.2.2.2.1
  have z0 : ∀ kx : Wl W, kx.x.cell? ⟨g, o + m * 9, none⟩ = some (.int .i64 z.kind) := fun kx => (Z0.out.keeps kx.k).nine.1
  have b0 : ∀ kx : Wl W, kx.x.cell? ⟨w.heap.size, 2, none⟩ = some (.int .i64 n.act.kind) := fun kx => (B0.out.keeps kx.k).cells.2.2.1
  have b1 : ∀ kx : Wl W, kx.x.cell? ⟨w.heap.size, 3, none⟩ = some (.string (S n.act.room)) := fun kx => (B0.out.keeps kx.k).cells.2.2.2.1
  have b2 : ∀ kx : Wl W, kx.x.cell? ⟨w.heap.size, 4, none⟩ = some (.string (S n.act.subj)) := fun kx => (B0.out.keeps kx.k).cells.2.2.2.2.1
  have b3 : ∀ kx : Wl W, kx.x.cell? ⟨w.heap.size, 5, none⟩ = some (.string (S n.act.reason)) := fun kx => (B0.out.keeps kx.k).cells.2.2.2.2.2.1
  have b4 : ∀ kx : Wl W, kx.x.cell? ⟨w.heap.size, 6, none⟩ = some (.string (S n.act.deny)) := fun kx => (B0.out.keeps kx.k).cells.2.2.2.2.2.2.1
  refine wp_region_keeps (by kernel_rfl) (by kernel_rfl) ?_
  repeat (go_big_quiet_step (exact cE2.out _))
  refine wpQuiet_nil ?_
  rintro x ⟨kq, hq⟩
  have KX : Hid (Keeps W x) := Lib.hid (by rw [hq]; exact kq.k)
  have KY := Lib.hid (K0.out.trans KX.out)
  clear hq kq q0 a0 a1 a2 a3 a4 z0 b0 b1 b2 b3 b4
  have F1 := Lib.hid (F0.out.keeps KX.out)
  obtain ⟨y0, y1, y2, y3, y4, y5, y6, y7, y8⟩ := (Z0.out.keeps KX.out).nine
  obtain ⟨d0, d1, d2, d3, d4, d5, d6, d7, d8⟩ := (B0.out.keeps KX.out).cells
  go_wp2
  go_ret
  exact ⟨rfl, KY.out⟩
set_option maxHeartbeats 4000000 in
set_option maxRecDepth 100000 in
theorem may_okx (g o c m : Nat) (f z n : Nt) (w : World) (hf : CellsAt w g o (ntC f).toList) (hz : CellsAt w g (o + m * 9) (ntC z).toList) (hm : m ≤ 1000000) (h3 : f.kind = 3) (he : endsB z.kind = false) (ha : f.act = n.act) (h4 : n.kind ≠ 4 ∧ n.kind ≠ 5 ∧ n.kind ≠ 7 ∧ n.kind ≠ 6 ∧ n.kind ≠ 8) :
    Calls Tryz.prog 62 #[.slice (some ⟨g, o, none⟩) (m + 1) c, .agg (ntC n)] w (Ret (.bool (false)) w) := by
  have K0 := Lib.hid ((Keeps.refl w).alloc (.cells (ntC n) 29))
  have B0 := Lib.hid (NtB.new w n)
  have F0 := Lib.hid (hf.keeps K0.out)
  have Z0 := Lib.hid (hz.keeps K0.out)
  have cE := Lib.hid (fun wx => ends_any z.kind wx)
  have pA := fun wx => neq_act f.act n.act wx
  unfold actC at pA
  have m1 : ((m : Int) + 1) - 1 = (m : Int) := by omega
  have m2 : (m : Int) < (m : Int) + 1 := by omega
  have m3 : (0 : Int) ≤ (m : Int) := by omega
  have m4 : ((m : Int) + 1 == 0) = false := by simp; omega
  have m5 : (0 : Int) < (m : Int) + 1 := by omega
  rw [he] at cE
  have cE2 : Hid (∀ kx : Wl (w.alloc (.cells (ntC n) 29)), Calls Tryz.prog 70 #[.int .i64 z.kind] kx.x fun e w'' => e = .returned (.bool false) ∧ ∃ k' : Wl (w.alloc (.cells (ntC n) 29)), w'' = k'.x) := Lib.hid (fun kx => (cE.out kx.x).mono (fun e w' h => ⟨h.1, kx, h.2⟩))
  have f3 : (f.kind != 3) = false := by simp [h3]
  have ha2 : (!decide (f.act = n.act)) = false := by simp [ha]
  rw [ha2] at pA
  have k4 : (n.kind == 4) = false := by simp; omega
  have k5 : (n.kind == 5) = false := by simp; omega
  have k7 : (n.kind == 7) = false := by simp; omega
  have k6 : (n.kind == 6) = false := by simp; omega
  have k8 : (n.kind == 8) = false := by simp; omega
  clear h3 he cE ha ha2 h4
  clear hf hz
  generalize hW : w.alloc (.cells (ntC n) 29) = W at *
  unfold ntC at hW ⊢
  go_enter Tryz.func62, Tryz.ntmps62
  go_wp2_with fail
  clear hW
  have q0 : ∀ kx : Wl W, kx.x.cell? ⟨g, o, none⟩ = some (.int .i64 f.kind) := fun kx => (F0.out.keeps kx.k).nine.1
  have a0 : ∀ kx : Wl W, kx.x.cell? ⟨g, o + 2, none⟩ = some (.int .i64 f.act.kind) := fun kx => (F0.out.keeps kx.k).nine.2.2.1
  have a1 : ∀ kx : Wl W, kx.x.cell? ⟨g, o + 3, none⟩ = some (.string (S f.act.room)) := fun kx => (F0.out.keeps kx.k).nine.2.2.2.1
  have a2 : ∀ kx : Wl W, kx.x.cell? ⟨g, o + 4, none⟩ = some (.string (S f.act.subj)) := fun kx => (F0.out.keeps kx.k).nine.2.2.2.2.1
  have a3 : ∀ kx : Wl W, kx.x.cell? ⟨g, o + 5, none⟩ = some (.string (S f.act.reason)) := fun kx => (F0.out.keeps kx.k).nine.2.2.2.2.2.1
  have a4 : ∀ kx : Wl W, kx.x.cell? ⟨g, o + 6, none⟩ = some (.string (S f.act.deny)) := fun kx => (F0.out.keeps kx.k).nine.2.2.2.2.2.2.1
  have z0 : ∀ kx : Wl W, kx.x.cell? ⟨g, o + m * 9, none⟩ = some (.int .i64 z.kind) := fun kx => (Z0.out.keeps kx.k).nine.1
  have b0 : ∀ kx : Wl W, kx.x.cell? ⟨w.heap.size, 2, none⟩ = some (.int .i64 n.act.kind) := fun kx => (B0.out.keeps kx.k).cells.2.2.1
  have b1 : ∀ kx : Wl W, kx.x.cell? ⟨w.heap.size, 3, none⟩ = some (.string (S n.act.room)) := fun kx => (B0.out.keeps kx.k).cells.2.2.2.1
  have b2 : ∀ kx : Wl W, kx.x.cell? ⟨w.heap.size, 4, none⟩ = some (.string (S n.act.subj)) := fun kx => (B0.out.keeps kx.k).cells.2.2.2.2.1
  have b3 : ∀ kx : Wl W, kx.x.cell? ⟨w.heap.size, 5, none⟩ = some (.string (S n.act.reason)) := fun kx => (B0.out.keeps kx.k).cells.2.2.2.2.2.1
  have b4 : ∀ kx : Wl W, kx.x.cell? ⟨w.heap.size, 6, none⟩ = some (.string (S n.act.deny)) := fun kx => (B0.out.keeps kx.k).cells.2.2.2.2.2.2.1
  refine wp_region_keeps (by kernel_rfl) (by kernel_rfl) ?_
  repeat (go_big_quiet_step (exact cE2.out _))
  refine wpQuiet_nil ?_
  rintro x ⟨kq, hq⟩
  have KX : Hid (Keeps W x) := Lib.hid (by rw [hq]; exact kq.k)
  have KY := Lib.hid (K0.out.trans KX.out)
  clear hq kq q0 a0 a1 a2 a3 a4 z0 b0 b1 b2 b3 b4
  have F1 := Lib.hid (F0.out.keeps KX.out)
  obtain ⟨y0, y1, y2, y3, y4, y5, y6, y7, y8⟩ := (Z0.out.keeps KX.out).nine
  obtain ⟨d0, d1, d2, d3, d4, d5, d6, d7, d8⟩ := (B0.out.keeps KX.out).cells
  go_wp2
  go_ret
  exact ⟨rfl, KY.out⟩
set_option maxHeartbeats 4000000 in
set_option maxRecDepth 100000 in
theorem may_ok8 (g o c m : Nat) (f z n : Nt) (w : World) (hf : CellsAt w g o (ntC f).toList) (hz : CellsAt w g (o + m * 9) (ntC z).toList) (hm : m ≤ 1000000) (h3 : f.kind = 3) (he : endsB z.kind = false) (ha : f.act = n.act) (h4 : n.kind = 8) :
    Calls Tryz.prog 62 #[.slice (some ⟨g, o, none⟩) (m + 1) c, .agg (ntC n)] w (Ret (.bool (!(z.kind == 4))) w) := by
  have K0 := Lib.hid ((Keeps.refl w).alloc (.cells (ntC n) 29))
  have B0 := Lib.hid (NtB.new w n)
  have F0 := Lib.hid (hf.keeps K0.out)
  have Z0 := Lib.hid (hz.keeps K0.out)
  have cE := Lib.hid (fun wx => ends_any z.kind wx)
  have pA := fun wx => neq_act f.act n.act wx
  unfold actC at pA
  have m1 : ((m : Int) + 1) - 1 = (m : Int) := by omega
  have m2 : (m : Int) < (m : Int) + 1 := by omega
  have m3 : (0 : Int) ≤ (m : Int) := by omega
  have m4 : ((m : Int) + 1 == 0) = false := by simp; omega
  have m5 : (0 : Int) < (m : Int) + 1 := by omega
  rw [he] at cE
  have cE2 : Hid (∀ kx : Wl (w.alloc (.cells (ntC n) 29)), Calls Tryz.prog 70 #[.int .i64 z.kind] kx.x fun e w'' => e = .returned (.bool false) ∧ ∃ k' : Wl (w.alloc (.cells (ntC n) 29)), w'' = k'.x) := Lib.hid (fun kx => (cE.out kx.x).mono (fun e w' h => ⟨h.1, kx, h.2⟩))
  have f3 : (f.kind != 3) = false := by simp [h3]
  have ha2 : (!decide (f.act = n.act)) = false := by simp [ha]
  rw [ha2] at pA
  have k4 : (n.kind == 4) = false := by simp; omega
  have k5 : (n.kind == 5) = false := by simp; omega
  have k7 : (n.kind == 7) = false := by simp; omega
  have k6 : (n.kind == 6) = false := by simp; omega
  have k8 : (n.kind == 8) = true := by simp; omega
  clear h3 he cE ha ha2 h4
  clear hf hz
  generalize hW : w.alloc (.cells (ntC n) 29) = W at *
  unfold ntC at hW ⊢
  go_enter Tryz.func62, Tryz.ntmps62
  go_wp2_with fail
  clear hW
  have q0 : ∀ kx : Wl W, kx.x.cell? ⟨g, o, none⟩ = some (.int .i64 f.kind) := fun kx => (F0.out.keeps kx.k).nine.1
  have a0 : ∀ kx : Wl W, kx.x.cell? ⟨g, o + 2, none⟩ = some (.int .i64 f.act.kind) := fun kx => (F0.out.keeps kx.k).nine.2.2.1
  have a1 : ∀ kx : Wl W, kx.x.cell? ⟨g, o + 3, none⟩ = some (.string (S f.act.room)) := fun kx => (F0.out.keeps kx.k).nine.2.2.2.1
  have a2 : ∀ kx : Wl W, kx.x.cell? ⟨g, o + 4, none⟩ = some (.string (S f.act.subj)) := fun kx => (F0.out.keeps kx.k).nine.2.2.2.2.1
  have a3 : ∀ kx : Wl W, kx.x.cell? ⟨g, o + 5, none⟩ = some (.string (S f.act.reason)) := fun kx => (F0.out.keeps kx.k).nine.2.2.2.2.2.1
  have a4 : ∀ kx : Wl W, kx.x.cell? ⟨g, o + 6, none⟩ = some (.string (S f.act.deny)) := fun kx => (F0.out.keeps kx.k).nine.2.2.2.2.2.2.1
  have z0 : ∀ kx : Wl W, kx.x.cell? ⟨g, o + m * 9, none⟩ = some (.int .i64 z.kind) := fun kx => (Z0.out.keeps kx.k).nine.1
  have b0 : ∀ kx : Wl W, kx.x.cell? ⟨w.heap.size, 2, none⟩ = some (.int .i64 n.act.kind) := fun kx => (B0.out.keeps kx.k).cells.2.2.1
  have b1 : ∀ kx : Wl W, kx.x.cell? ⟨w.heap.size, 3, none⟩ = some (.string (S n.act.room)) := fun kx => (B0.out.keeps kx.k).cells.2.2.2.1
  have b2 : ∀ kx : Wl W, kx.x.cell? ⟨w.heap.size, 4, none⟩ = some (.string (S n.act.subj)) := fun kx => (B0.out.keeps kx.k).cells.2.2.2.2.1
  have b3 : ∀ kx : Wl W, kx.x.cell? ⟨w.heap.size, 5, none⟩ = some (.string (S n.act.reason)) := fun kx => (B0.out.keeps kx.k).cells.2.2.2.2.2.1
  have b4 : ∀ kx : Wl W, kx.x.cell? ⟨w.heap.size, 6, none⟩ = some (.string (S n.act.deny)) := fun kx => (B0.out.keeps kx.k).cells.2.2.2.2.2.2.1
  refine wp_region_keeps (by kernel_rfl) (by kernel_rfl) ?_
  repeat (go_big_quiet_step (exact cE2.out _))
  refine wpQuiet_nil ?_
  rintro x ⟨kq, hq⟩
  have KX : Hid (Keeps W x) := Lib.hid (by rw [hq]; exact kq.k)
  have KY := Lib.hid (K0.out.trans KX.out)
  clear hq kq q0 a0 a1 a2 a3 a4 z0 b0 b1 b2 b3 b4
  have F1 := Lib.hid (F0.out.keeps KX.out)
  obtain ⟨y0, y1, y2, y3, y4, y5, y6, y7, y8⟩ := (Z0.out.keeps KX.out).nine
  obtain ⟨d0, d1, d2, d3, d4, d5, d6, d7, d8⟩ := (B0.out.keeps KX.out).cells
  go_wp2
  go_ret
  exact ⟨rfl, KY.out⟩
set_option maxHeartbeats 4000000 in
set_option maxRecDepth 100000 in
theorem may_empty (A : Option Addr) (c : Nat) (n : Nt) (w : World) : Calls Tryz.prog 62 #[.slice A 0 c, .agg (ntC n)] w (Ret (.bool false) w) := by
  have K0 := Lib.hid ((Keeps.refl w).alloc (.cells (ntC n) 29))
  generalize hW : w.alloc (.cells (ntC n) 29) = W at *
  unfold ntC at hW ⊢
  go_enter Tryz.func62, Tryz.ntmps62
  go_wp2_with fail
  clear hW
  refine wp_region_keeps (by kernel_rfl) (by kernel_rfl) ?_
  repeat (go_big_quiet_step (fail))
  refine wpQuiet_nil ?_
  rintro x ⟨kq, hq⟩
  have KY : Hid (Keeps w x) := Lib.hid (K0.out.trans (by rw [hq]; exact kq.k))
  clear hq kq
  go_wp2
  go_ret
  exact ⟨rfl, KY.out⟩
theorem may_any (A : Option Addr) (c : Nat) (l : List Nt) (n : Nt) (w : World) (hA : NotesAt w A l) (hl : l.length ≤ 1000000) : Calls Tryz.prog 62 #[.slice A l.length c, .agg (ntC n)] w (Ret (.bool (mayB l n)) w) := by
  cases l with
  | nil => exact may_empty A c n w
  | cons f r =>
    obtain ⟨g, o, hAe, h0⟩ := hA 0 (by simp)
    obtain ⟨g', o', hAe', h1⟩ := hA r.length (by simp)
    rw [hAe] at hAe'
    injection hAe' with e
    injection e with e1 e2 _
    subst e1 e2 hAe
    have hz : (f :: r)[r.length]'(by simp) = (f :: r).getLast (by simp) := by rw [List.getLast_eq_getElem]; simp
    rw [hz] at h1
    rw [may_cons]
    generalize (f :: r).getLast (by simp) = z at *
    have h0' : CellsAt w g o (ntC f).toList := by simpa using h0
    have hm : r.length ≤ 1000000 := by simp at hl; omega
    show Calls Tryz.prog 62 #[.slice (some ⟨g, o, none⟩) (r.length + 1) c, .agg (ntC n)] w _
    by_cases h3 : f.kind = 3
    · cases he : endsB z.kind with
      | true =>
        rw [show (f.kind == 3) = true by simpa using h3]
        exact may_e g o c r.length f z n w h0' h1 hm h3 he
      | false =>
        by_cases ha : f.act = n.act
        · rw [show (f.kind == 3) = true by simpa using h3, decide_eq_true ha]
          simp only [Bool.true_and, Bool.not_false]
          by_cases k4 : n.kind = 4
          · rw [if_pos k4]; exact may_ok4 g o c r.length f z n w h0' h1 hm h3 he ha k4
          · rw [if_neg k4]
            by_cases k5 : n.kind = 5
            · rw [if_pos (.inl k5)]; exact may_ok5 g o c r.length f z n w h0' h1 hm h3 he ha k5
            · by_cases k7 : n.kind = 7
              · rw [if_pos (.inr (.inl k7))]; exact may_ok7 g o c r.length f z n w h0' h1 hm h3 he ha k7
              · by_cases k6 : n.kind = 6
                · rw [if_pos (.inr (.inr k6))]; exact may_ok6 g o c r.length f z n w h0' h1 hm h3 he ha k6
                · rw [if_neg (by omega)]
                  by_cases k8 : n.kind = 8
                  · rw [show (n.kind == 8) = true by simpa using k8, Bool.true_and]
                    exact may_ok8 g o c r.length f z n w h0' h1 hm h3 he ha k8
                  · rw [show (n.kind == 8) = false by simpa using k8, Bool.false_and]
                    exact may_okx g o c r.length f z n w h0' h1 hm h3 he ha ⟨k4, k5, k7, k6, k8⟩
        · rw [decide_eq_false ha]
          simp only [Bool.false_and, Bool.and_false]
          exact may_a g o c r.length f z n w h0' h1 hm h3 he ha
    · rw [show (f.kind == 3) = false by simpa using h3, Bool.false_and]
      exact may_k g o c r.length f z n w h0' h1 hm h3
end Go.Proofs.YtfapilgmgjmfeaaGreatDoor
