/-
  The document's own Line.
-/
import Derived.Test.YtfapilgmgjmfeaaGreatDoorRfa
import Derived.Test.YtfapilgmgjmfeaaGreatDoorQt
import Derived.Deep.Cut
namespace Go.Proofs.YtfapilgmgjmfeaaGreatDoor
open Go.RowKit

theorem nw_list (j : Nat) (h : j < 9) : [Value.string ⟨#[114, 101, 102, 117, 115, 101, 100]⟩, Value.string ⟨#[99, 111, 109, 109, 97, 110, 100]⟩, Value.string ⟨#[113, 117, 101, 117, 101, 100]⟩, Value.string ⟨#[115, 101, 110, 116]⟩, Value.string ⟨#[100, 111, 110, 101]⟩, Value.string ⟨#[97, 103, 97, 105, 110]⟩, Value.string ⟨#[102, 97, 105, 108, 101, 100]⟩, Value.string ⟨#[103, 111, 110, 101]⟩, Value.string ⟨#[102, 117, 108, 108]⟩][j]? = some (Value.string (S (nwL ((j : Int) + 1)))) := by
  match j, h with
  | 0, _ => rfl
  | 1, _ => rfl
  | 2, _ => rfl
  | 3, _ => rfl
  | 4, _ => rfl
  | 5, _ => rfl
  | 6, _ => rfl
  | 7, _ => rfl
  | 8, _ => rfl
theorem aw_list (j : Nat) (h : j < 4) : [Value.string ⟨#[98, 97, 110]⟩, Value.string ⟨#[117, 110, 98, 97, 110]⟩, Value.string ⟨#[97, 99, 108]⟩, Value.string ⟨#[114, 101, 100, 97, 99, 116]⟩][j]? = some (Value.string (S (awL ((j : Int) + 1)))) := by
  match j, h with
  | 0, _ => rfl
  | 1, _ => rfl
  | 2, _ => rfl
  | 3, _ => rfl
theorem join_two (a b : List UInt8) : S a ++ ⟨#[32]⟩ ++ S b = S (Lib.join [a, b] [32]) := by
  rw [show (⟨#[32]⟩ : ByteArray) = S [32] from rfl, ← S_app, ← S_app]
  congr 1
  simp [Lib.join_cons, Lib.joinTail]
theorem join_three (a b c : List UInt8) : S a ++ ⟨#[32]⟩ ++ S b ++ ⟨#[32]⟩ ++ S c = S (Lib.join [a, b, c] [32]) := by
  rw [show (⟨#[32]⟩ : ByteArray) = S [32] from rfl]
  simp only [← S_app]
  congr 1
  simp [Lib.join_cons, Lib.joinTail]
theorem join_seven (a b c d e f g : List UInt8) : S a ++ ⟨#[32]⟩ ++ S b ++ ⟨#[32]⟩ ++ S c ++ ⟨#[32]⟩ ++ S d ++ ⟨#[32]⟩ ++ S e ++ ⟨#[32]⟩ ++ S f ++ ⟨#[32]⟩ ++ S g = S (Lib.join [a, b, c, d, e, f, g] [32]) := by
  rw [show (⟨#[32]⟩ : ByteArray) = S [32] from rfl]
  simp only [← S_app]
  congr 1
  simp [Lib.join_cons, Lib.joinTail]
set_option maxHeartbeats 4000000 in
set_option maxRecDepth 100000 in
theorem rline_low (n : Nt) (w : World) (h : n.kind < 1) : Calls Tryz.prog 8 #[.agg (ntC n)] w (Ret (.string (S [63])) w) := by
  have K0 := Lib.hid ((Keeps.refl w).alloc (.cells (ntC n) 29))
  have B0 := Lib.hid (NtB.new w n)

  generalize hW : w.alloc (.cells (ntC n) 29) = W at *
  have hw1 : w.heap.size < W.heap.size := blk_lt B0.out
  obtain ⟨e0, e1, e2, e3, e4, e5, e6, e7, e8⟩ := B0.out.cells
  unfold ntC at hW ⊢
  go_enter Tryz.func8, Tryz.ntmps8
  go_wp2
  go_ret
  exact ⟨rfl, K0.out⟩
set_option maxHeartbeats 4000000 in
set_option maxRecDepth 100000 in
theorem rline_high (n : Nt) (w : World) (h : 9 < n.kind) : Calls Tryz.prog 8 #[.agg (ntC n)] w (Ret (.string (S [63])) w) := by
  have K0 := Lib.hid ((Keeps.refl w).alloc (.cells (ntC n) 29))
  have B0 := Lib.hid (NtB.new w n)
  have g1 : ¬ n.kind < 1 := by omega
  generalize hW : w.alloc (.cells (ntC n) 29) = W at *
  have hw1 : w.heap.size < W.heap.size := blk_lt B0.out
  obtain ⟨e0, e1, e2, e3, e4, e5, e6, e7, e8⟩ := B0.out.cells
  unfold ntC at hW ⊢
  go_enter Tryz.func8, Tryz.ntmps8
  go_wp2
  go_ret
  exact ⟨rfl, K0.out⟩
set_option maxHeartbeats 4000000 in
set_option maxRecDepth 100000 in
theorem rline_nine (n : Nt) (w : World) (j : Nat) (hj : n.kind = (j : Int) + 1) (h : j = 8) : Calls Tryz.prog 8 #[.agg (ntC n)] w (Ret (.string (S (Lib.join [nwL n.kind] [32]))) w) := by
  have K0 := Lib.hid ((Keeps.refl w).alloc (.cells (ntC n) 29))
  have B0 := Lib.hid (NtB.new w n)
  rw [Lib.join_one]
  have f1 : (n.kind == 1) = false := by simp; omega
  have f2 : (n.kind == 2) = false := by simp; omega
  have f9 : (n.kind == 9) = true := by simp; omega
  have hword := nw_list j (by omega)
  rw [← hj] at hword
  have g1 : ¬ n.kind < 1 := by omega
  have g9 : ¬ 9 < n.kind := by omega
  have g2 : n.kind - 1 = (j : Int) := by omega
  have g3 : (j : Int) < 9 := by omega
  have z1 : (S (nwL n.kind)).size ≤ 8 := by rw [S_size]; exact nwL_len _
  generalize nwL n.kind = word at *
  clear hj h
  generalize hW : w.alloc (.cells (ntC n) 29) = W at *
  have hw1 : w.heap.size < W.heap.size := blk_lt B0.out
  obtain ⟨e0, e1, e2, e3, e4, e5, e6, e7, e8⟩ := B0.out.cells
  unfold ntC at hW ⊢
  go_enter Tryz.func8, Tryz.ntmps8
  have KZ := Lib.hid (K0.out.alloc (.cells #[.string ⟨#[114, 101, 102, 117, 115, 101, 100]⟩, .string ⟨#[99, 111, 109, 109, 97, 110, 100]⟩, .string ⟨#[113, 117, 101, 117, 101, 100]⟩, .string ⟨#[115, 101, 110, 116]⟩, .string ⟨#[100, 111, 110, 101]⟩, .string ⟨#[97, 103, 97, 105, 110]⟩, .string ⟨#[102, 97, 105, 108, 101, 100]⟩, .string ⟨#[103, 111, 110, 101]⟩, .string ⟨#[102, 117, 108, 108]⟩] 9))
  go_wp2
  go_ret
  exact ⟨rfl, KZ.out⟩
set_option maxHeartbeats 4000000 in
set_option maxRecDepth 100000 in
theorem rline_one (n : Nt) (w : World) (j : Nat) (hj : n.kind = (j : Int) + 1) (h : j = 0) (hc : (Lit.int .i64 n.code).wf = true) : Calls Tryz.prog 8 #[.agg (ntC n)] w (Ret (.string (S (Lib.join [nwL n.kind, Lib.itoa n.code] [32]))) w) := by
  have K0 := Lib.hid ((Keeps.refl w).alloc (.cells (ntC n) 29))
  have B0 := Lib.hid (NtB.new w n)
  have f1 : (n.kind == 1) = true := by simp; omega
  have f2 : (n.kind == 2) = false := by simp; omega
  have f9 : (n.kind == 9) = false := by simp; omega
  have hword := nw_list j (by omega)
  rw [← hj] at hword
  have g1 : ¬ n.kind < 1 := by omega
  have g9 : ¬ 9 < n.kind := by omega
  have g2 : n.kind - 1 = (j : Int) := by omega
  have g3 : (j : Int) < 9 := by omega
  have z1 : (S (nwL n.kind)).size ≤ 8 := by rw [S_size]; exact nwL_len _
  generalize nwL n.kind = word at *
  have cD := Lib.hid (fun wx => rdigits_any n.code (wf_i64 hc).1 (wf_i64 hc).2 wx)
  have z2 : (S (Lib.itoa n.code)).size ≤ 21 := by rw [S_size]; exact itoa_len _ hc
  rw [← join_two]
  generalize Lib.itoa n.code = num at *
  clear hj h hc
  generalize hW : w.alloc (.cells (ntC n) 29) = W at *
  have hw1 : w.heap.size < W.heap.size := blk_lt B0.out
  obtain ⟨e0, e1, e2, e3, e4, e5, e6, e7, e8⟩ := B0.out.cells
  unfold ntC at hW ⊢
  go_enter Tryz.func8, Tryz.ntmps8
  have KZ := Lib.hid (K0.out.alloc (.cells #[.string ⟨#[114, 101, 102, 117, 115, 101, 100]⟩, .string ⟨#[99, 111, 109, 109, 97, 110, 100]⟩, .string ⟨#[113, 117, 101, 117, 101, 100]⟩, .string ⟨#[115, 101, 110, 116]⟩, .string ⟨#[100, 111, 110, 101]⟩, .string ⟨#[97, 103, 97, 105, 110]⟩, .string ⟨#[102, 97, 105, 108, 101, 100]⟩, .string ⟨#[103, 111, 110, 101]⟩, .string ⟨#[102, 117, 108, 108]⟩] 9))
  go_wp2_with fail
  refine (cD.out _).mono ?_
  rintro e x ⟨rfl, k⟩
  have KX := Lib.hid (KZ.out.trans k)
  clear k
  go_wp2
  go_ret
  exact ⟨rfl, KX.out⟩
set_option maxHeartbeats 4000000 in
set_option maxRecDepth 100000 in
theorem rline_two (n : Nt) (w : World) (j : Nat) (hj : n.kind = (j : Int) + 1) (h : j = 1) (hc : (Lit.int .i64 n.code).wf = true) (ht : n.text.length ≤ 400) : Calls Tryz.prog 8 #[.agg (ntC n)] w (Ret (.string (S (Lib.join [nwL n.kind, Lib.itoa n.code, n.text] [32]))) w) := by
  have K0 := Lib.hid ((Keeps.refl w).alloc (.cells (ntC n) 29))
  have B0 := Lib.hid (NtB.new w n)
  have f1 : (n.kind == 1) = false := by simp; omega
  have f2 : (n.kind == 2) = true := by simp; omega
  have f9 : (n.kind == 9) = false := by simp; omega
  have hword := nw_list j (by omega)
  rw [← hj] at hword
  have g1 : ¬ n.kind < 1 := by omega
  have g9 : ¬ 9 < n.kind := by omega
  have g2 : n.kind - 1 = (j : Int) := by omega
  have g3 : (j : Int) < 9 := by omega
  have z1 : (S (nwL n.kind)).size ≤ 8 := by rw [S_size]; exact nwL_len _
  generalize nwL n.kind = word at *
  have cD := Lib.hid (fun wx => rdigits_any n.code (wf_i64 hc).1 (wf_i64 hc).2 wx)
  have z2 : (S (Lib.itoa n.code)).size ≤ 21 := by rw [S_size]; exact itoa_len _ hc
  have z3 : (S n.text).size ≤ 400 := by rw [S_size]; exact ht
  rw [← join_three]
  generalize Lib.itoa n.code = num at *
  clear hj h hc ht
  generalize hW : w.alloc (.cells (ntC n) 29) = W at *
  have hw1 : w.heap.size < W.heap.size := blk_lt B0.out
  obtain ⟨e0, e1, e2, e3, e4, e5, e6, e7, e8⟩ := B0.out.cells
  unfold ntC at hW ⊢
  go_enter Tryz.func8, Tryz.ntmps8
  have KZ := Lib.hid (K0.out.alloc (.cells #[.string ⟨#[114, 101, 102, 117, 115, 101, 100]⟩, .string ⟨#[99, 111, 109, 109, 97, 110, 100]⟩, .string ⟨#[113, 117, 101, 117, 101, 100]⟩, .string ⟨#[115, 101, 110, 116]⟩, .string ⟨#[100, 111, 110, 101]⟩, .string ⟨#[97, 103, 97, 105, 110]⟩, .string ⟨#[102, 97, 105, 108, 101, 100]⟩, .string ⟨#[103, 111, 110, 101]⟩, .string ⟨#[102, 117, 108, 108]⟩] 9))
  have BZ := Lib.hid (B0.out.keeps ((Keeps.refl W).alloc (.cells #[.string ⟨#[114, 101, 102, 117, 115, 101, 100]⟩, .string ⟨#[99, 111, 109, 109, 97, 110, 100]⟩, .string ⟨#[113, 117, 101, 117, 101, 100]⟩, .string ⟨#[115, 101, 110, 116]⟩, .string ⟨#[100, 111, 110, 101]⟩, .string ⟨#[97, 103, 97, 105, 110]⟩, .string ⟨#[102, 97, 105, 108, 101, 100]⟩, .string ⟨#[103, 111, 110, 101]⟩, .string ⟨#[102, 117, 108, 108]⟩] 9)))
  go_upto_region 8 with fail
  generalize (W).alloc (.cells #[.string ⟨#[114, 101, 102, 117, 115, 101, 100]⟩, .string ⟨#[99, 111, 109, 109, 97, 110, 100]⟩, .string ⟨#[113, 117, 101, 117, 101, 100]⟩, .string ⟨#[115, 101, 110, 116]⟩, .string ⟨#[100, 111, 110, 101]⟩, .string ⟨#[97, 103, 97, 105, 110]⟩, .string ⟨#[102, 97, 105, 108, 101, 100]⟩, .string ⟨#[103, 111, 110, 101]⟩, .string ⟨#[102, 117, 108, 108]⟩] 9) = Z at *
  have q0 : ∀ kx : Wl Z, kx.x.cell? ⟨w.heap.size, 7, none⟩ = some (.int .i64 n.code) := fun kx => (BZ.out.keeps kx.k).cells.2.2.2.2.2.2.2.1
  have q1 : ∀ kx : Wl Z, kx.x.cell? ⟨w.heap.size, 8, none⟩ = some (.string (S n.text)) := fun kx => (BZ.out.keeps kx.k).cells.2.2.2.2.2.2.2.2
  have cD2 : Hid (∀ kx : Wl Z, Calls Tryz.prog 33 #[.int .i64 n.code] kx.x fun e w'' => e = .returned (.string (S num)) ∧ ∃ k' : Wl Z, w'' = k'.x) := Lib.hid (fun kx => quiet_call kx.k (cD.out _))
  clear cD BZ e0 e1 e2 e3 e4 e5 e6 e7 e8
  refine wp_region_keeps (by kernel_rfl) (by kernel_rfl) ?_
  repeat (go_big_quiet_step (with_reducible exact cD2.out _))
  refine wpQuiet_nil ?_
  rintro x ⟨kq, hq⟩
  have KX := Lib.hid (KZ.out.trans (show Keeps Z x by rw [hq]; exact kq.k))
  clear hq kq
  go_wp2
  go_ret
  exact ⟨rfl, KX.out⟩
set_option maxHeartbeats 4000000 in
set_option maxRecDepth 100000 in
theorem rline_txlow (n : Nt) (w : World) (j : Nat) (hj : n.kind = (j : Int) + 1) (h : 2 ≤ j ∧ j ≤ 7) (hc : (Lit.int .i64 n.txn).wf = true) (hlt : lightA n.act = true) (ha : n.act.kind < 1) : Calls Tryz.prog 8 #[.agg (ntC n)] w (Ret (.string (S (Lib.join [nwL n.kind, Lib.itoa n.txn, awL n.act.kind, n.act.room, n.act.subj, n.act.reason, n.act.deny] [32]))) w) := by
  have K0 := Lib.hid ((Keeps.refl w).alloc (.cells (ntC n) 29))
  have B0 := Lib.hid (NtB.new w n)
  have f1 : (n.kind == 1) = false := by simp; omega
  have f2 : (n.kind == 2) = false := by simp; omega
  have f9 : (n.kind == 9) = false := by simp; omega
  have hword := nw_list j (by omega)
  rw [← hj] at hword
  have g1 : ¬ n.kind < 1 := by omega
  have g9 : ¬ 9 < n.kind := by omega
  have g2 : n.kind - 1 = (j : Int) := by omega
  have g3 : (j : Int) < 9 := by omega
  have z1 : (S (nwL n.kind)).size ≤ 8 := by rw [S_size]; exact nwL_len _
  generalize nwL n.kind = word at *
  have cD := Lib.hid (fun wx => rdigits_any n.txn (wf_i64 hc).1 (wf_i64 hc).2 wx)
  have z2 : (S (Lib.itoa n.txn)).size ≤ 21 := by rw [S_size]; exact itoa_len _ hc
  have z3 : (S (awL n.act.kind)).size ≤ 8 := by rw [S_size]; exact awL_len _
  unfold lightA at hlt
  simp only [Bool.and_eq_true, decide_eq_true_eq] at hlt
  have z4 : (S n.act.room).size ≤ 300 := by rw [S_size]; exact hlt.1.1.1
  have z5 : (S n.act.subj).size ≤ 300 := by rw [S_size]; exact hlt.1.1.2
  have z6 : (S n.act.reason).size ≤ 300 := by rw [S_size]; exact hlt.1.2
  have z7 : (S n.act.deny).size ≤ 3000 := by rw [S_size]; exact hlt.2
  have a1 : ¬ (1 : Int) ≤ n.act.kind := by omega
  have hawl : awL n.act.kind = [63] := by unfold awL; rw [if_neg (by omega)]
  rw [← join_seven]
  rw [hawl] at *
  generalize Lib.itoa n.txn = num at *
  clear hj h hc hlt ha hawl
  generalize hW : w.alloc (.cells (ntC n) 29) = W at *
  have hw1 : w.heap.size < W.heap.size := blk_lt B0.out
  obtain ⟨e0, e1, e2, e3, e4, e5, e6, e7, e8⟩ := B0.out.cells
  unfold ntC at hW ⊢
  go_enter Tryz.func8, Tryz.ntmps8
  have KZ := Lib.hid ((K0.out.alloc (.cells #[.string ⟨#[114, 101, 102, 117, 115, 101, 100]⟩, .string ⟨#[99, 111, 109, 109, 97, 110, 100]⟩, .string ⟨#[113, 117, 101, 117, 101, 100]⟩, .string ⟨#[115, 101, 110, 116]⟩, .string ⟨#[100, 111, 110, 101]⟩, .string ⟨#[97, 103, 97, 105, 110]⟩, .string ⟨#[102, 97, 105, 108, 101, 100]⟩, .string ⟨#[103, 111, 110, 101]⟩, .string ⟨#[102, 117, 108, 108]⟩] 9)).alloc (.cells (actC n.act) 27))
  have BZ := Lib.hid (B0.out.keeps (((Keeps.refl W).alloc (.cells #[.string ⟨#[114, 101, 102, 117, 115, 101, 100]⟩, .string ⟨#[99, 111, 109, 109, 97, 110, 100]⟩, .string ⟨#[113, 117, 101, 117, 101, 100]⟩, .string ⟨#[115, 101, 110, 116]⟩, .string ⟨#[100, 111, 110, 101]⟩, .string ⟨#[97, 103, 97, 105, 110]⟩, .string ⟨#[102, 97, 105, 108, 101, 100]⟩, .string ⟨#[103, 111, 110, 101]⟩, .string ⟨#[102, 117, 108, 108]⟩] 9)).alloc (.cells (actC n.act) 27)))
  have AZ0 := heap_alloc_new ((W).alloc (.cells #[.string ⟨#[114, 101, 102, 117, 115, 101, 100]⟩, .string ⟨#[99, 111, 109, 109, 97, 110, 100]⟩, .string ⟨#[113, 117, 101, 117, 101, 100]⟩, .string ⟨#[115, 101, 110, 116]⟩, .string ⟨#[100, 111, 110, 101]⟩, .string ⟨#[97, 103, 97, 105, 110]⟩, .string ⟨#[102, 97, 105, 108, 101, 100]⟩, .string ⟨#[103, 111, 110, 101]⟩, .string ⟨#[102, 117, 108, 108]⟩] 9)) (.cells (actC n.act) 27)
  rw [World.size_alloc] at AZ0
  have AZ := Lib.hid AZ0
  clear AZ0
  unfold actC at AZ BZ KZ
  go_upto_region 15 with fail
  generalize ((W).alloc (.cells #[.string ⟨#[114, 101, 102, 117, 115, 101, 100]⟩, .string ⟨#[99, 111, 109, 109, 97, 110, 100]⟩, .string ⟨#[113, 117, 101, 117, 101, 100]⟩, .string ⟨#[115, 101, 110, 116]⟩, .string ⟨#[100, 111, 110, 101]⟩, .string ⟨#[97, 103, 97, 105, 110]⟩, .string ⟨#[102, 97, 105, 108, 101, 100]⟩, .string ⟨#[103, 111, 110, 101]⟩, .string ⟨#[102, 117, 108, 108]⟩] 9)).alloc (.cells #[.int .i64 n.act.kind, .string (S n.act.room), .string (S n.act.subj), .string (S n.act.reason), .string (S n.act.deny)] 27) = Z at *
  have q0 : ∀ kx : Wl Z, kx.x.cell? ⟨w.heap.size, 1, none⟩ = some (.int .i64 n.txn) := fun kx => (BZ.out.keeps kx.k).cells.2.1
  have AK : ∀ kx : Wl Z, kx.x.heap[W.heap.size + 1]? = some (.cells #[.int .i64 n.act.kind, .string (S n.act.room), .string (S n.act.subj), .string (S n.act.reason), .string (S n.act.deny)] 27) := fun kx => (kx.k.block _ (blk_lt AZ.out)).trans AZ.out
  have q1 : ∀ kx : Wl Z, kx.x.cell? ⟨W.heap.size + 1, 1, none⟩ = some (.string (S n.act.room)) := fun kx => by rw [Lib.cell_of_heap (AK kx)]; rfl
  have q2 : ∀ kx : Wl Z, kx.x.cell? ⟨W.heap.size + 1, 2, none⟩ = some (.string (S n.act.subj)) := fun kx => by rw [Lib.cell_of_heap (AK kx)]; rfl
  have q3 : ∀ kx : Wl Z, kx.x.cell? ⟨W.heap.size + 1, 3, none⟩ = some (.string (S n.act.reason)) := fun kx => by rw [Lib.cell_of_heap (AK kx)]; rfl
  have q4 : ∀ kx : Wl Z, kx.x.cell? ⟨W.heap.size + 1, 4, none⟩ = some (.string (S n.act.deny)) := fun kx => by rw [Lib.cell_of_heap (AK kx)]; rfl
  have cD2 : Hid (∀ kx : Wl Z, Calls Tryz.prog 33 #[.int .i64 n.txn] kx.x fun e w'' => e = .returned (.string (S num)) ∧ ∃ k' : Wl Z, w'' = k'.x) := Lib.hid (fun kx => quiet_call kx.k (cD.out _))
  clear cD BZ AZ AK e0 e1 e2 e3 e4 e5 e6 e7 e8
  refine wp_region_keeps (by kernel_rfl) (by kernel_rfl) ?_
  repeat (go_big_quiet_step (with_reducible exact cD2.out _))
  refine wpQuiet_nil ?_
  rintro x ⟨kq, hq⟩
  have KX := Lib.hid (KZ.out.trans (show Keeps Z x by rw [hq]; exact kq.k))
  clear hq kq
  go_wp2
  go_ret
  exact ⟨rfl, KX.out⟩
set_option maxHeartbeats 4000000 in
set_option maxRecDepth 100000 in
theorem rline_txhigh (n : Nt) (w : World) (j : Nat) (hj : n.kind = (j : Int) + 1) (h : 2 ≤ j ∧ j ≤ 7) (hc : (Lit.int .i64 n.txn).wf = true) (hlt : lightA n.act = true) (ha : 4 < n.act.kind) : Calls Tryz.prog 8 #[.agg (ntC n)] w (Ret (.string (S (Lib.join [nwL n.kind, Lib.itoa n.txn, awL n.act.kind, n.act.room, n.act.subj, n.act.reason, n.act.deny] [32]))) w) := by
  have K0 := Lib.hid ((Keeps.refl w).alloc (.cells (ntC n) 29))
  have B0 := Lib.hid (NtB.new w n)
  have f1 : (n.kind == 1) = false := by simp; omega
  have f2 : (n.kind == 2) = false := by simp; omega
  have f9 : (n.kind == 9) = false := by simp; omega
  have hword := nw_list j (by omega)
  rw [← hj] at hword
  have g1 : ¬ n.kind < 1 := by omega
  have g9 : ¬ 9 < n.kind := by omega
  have g2 : n.kind - 1 = (j : Int) := by omega
  have g3 : (j : Int) < 9 := by omega
  have z1 : (S (nwL n.kind)).size ≤ 8 := by rw [S_size]; exact nwL_len _
  generalize nwL n.kind = word at *
  have cD := Lib.hid (fun wx => rdigits_any n.txn (wf_i64 hc).1 (wf_i64 hc).2 wx)
  have z2 : (S (Lib.itoa n.txn)).size ≤ 21 := by rw [S_size]; exact itoa_len _ hc
  have z3 : (S (awL n.act.kind)).size ≤ 8 := by rw [S_size]; exact awL_len _
  unfold lightA at hlt
  simp only [Bool.and_eq_true, decide_eq_true_eq] at hlt
  have z4 : (S n.act.room).size ≤ 300 := by rw [S_size]; exact hlt.1.1.1
  have z5 : (S n.act.subj).size ≤ 300 := by rw [S_size]; exact hlt.1.1.2
  have z6 : (S n.act.reason).size ≤ 300 := by rw [S_size]; exact hlt.1.2
  have z7 : (S n.act.deny).size ≤ 3000 := by rw [S_size]; exact hlt.2
  have a1 : (1 : Int) ≤ n.act.kind := by omega
  have a4 : ¬ n.act.kind ≤ 4 := by omega
  have hawl : awL n.act.kind = [63] := by unfold awL; rw [if_neg (by omega)]
  rw [← join_seven]
  rw [hawl] at *
  generalize Lib.itoa n.txn = num at *
  clear hj h hc hlt ha hawl
  generalize hW : w.alloc (.cells (ntC n) 29) = W at *
  have hw1 : w.heap.size < W.heap.size := blk_lt B0.out
  obtain ⟨e0, e1, e2, e3, e4, e5, e6, e7, e8⟩ := B0.out.cells
  unfold ntC at hW ⊢
  go_enter Tryz.func8, Tryz.ntmps8
  have KZ := Lib.hid ((K0.out.alloc (.cells #[.string ⟨#[114, 101, 102, 117, 115, 101, 100]⟩, .string ⟨#[99, 111, 109, 109, 97, 110, 100]⟩, .string ⟨#[113, 117, 101, 117, 101, 100]⟩, .string ⟨#[115, 101, 110, 116]⟩, .string ⟨#[100, 111, 110, 101]⟩, .string ⟨#[97, 103, 97, 105, 110]⟩, .string ⟨#[102, 97, 105, 108, 101, 100]⟩, .string ⟨#[103, 111, 110, 101]⟩, .string ⟨#[102, 117, 108, 108]⟩] 9)).alloc (.cells (actC n.act) 27))
  have BZ := Lib.hid (B0.out.keeps (((Keeps.refl W).alloc (.cells #[.string ⟨#[114, 101, 102, 117, 115, 101, 100]⟩, .string ⟨#[99, 111, 109, 109, 97, 110, 100]⟩, .string ⟨#[113, 117, 101, 117, 101, 100]⟩, .string ⟨#[115, 101, 110, 116]⟩, .string ⟨#[100, 111, 110, 101]⟩, .string ⟨#[97, 103, 97, 105, 110]⟩, .string ⟨#[102, 97, 105, 108, 101, 100]⟩, .string ⟨#[103, 111, 110, 101]⟩, .string ⟨#[102, 117, 108, 108]⟩] 9)).alloc (.cells (actC n.act) 27)))
  have AZ0 := heap_alloc_new ((W).alloc (.cells #[.string ⟨#[114, 101, 102, 117, 115, 101, 100]⟩, .string ⟨#[99, 111, 109, 109, 97, 110, 100]⟩, .string ⟨#[113, 117, 101, 117, 101, 100]⟩, .string ⟨#[115, 101, 110, 116]⟩, .string ⟨#[100, 111, 110, 101]⟩, .string ⟨#[97, 103, 97, 105, 110]⟩, .string ⟨#[102, 97, 105, 108, 101, 100]⟩, .string ⟨#[103, 111, 110, 101]⟩, .string ⟨#[102, 117, 108, 108]⟩] 9)) (.cells (actC n.act) 27)
  rw [World.size_alloc] at AZ0
  have AZ := Lib.hid AZ0
  clear AZ0
  unfold actC at AZ BZ KZ
  go_upto_region 15 with fail
  generalize ((W).alloc (.cells #[.string ⟨#[114, 101, 102, 117, 115, 101, 100]⟩, .string ⟨#[99, 111, 109, 109, 97, 110, 100]⟩, .string ⟨#[113, 117, 101, 117, 101, 100]⟩, .string ⟨#[115, 101, 110, 116]⟩, .string ⟨#[100, 111, 110, 101]⟩, .string ⟨#[97, 103, 97, 105, 110]⟩, .string ⟨#[102, 97, 105, 108, 101, 100]⟩, .string ⟨#[103, 111, 110, 101]⟩, .string ⟨#[102, 117, 108, 108]⟩] 9)).alloc (.cells #[.int .i64 n.act.kind, .string (S n.act.room), .string (S n.act.subj), .string (S n.act.reason), .string (S n.act.deny)] 27) = Z at *
  have q0 : ∀ kx : Wl Z, kx.x.cell? ⟨w.heap.size, 1, none⟩ = some (.int .i64 n.txn) := fun kx => (BZ.out.keeps kx.k).cells.2.1
  have AK : ∀ kx : Wl Z, kx.x.heap[W.heap.size + 1]? = some (.cells #[.int .i64 n.act.kind, .string (S n.act.room), .string (S n.act.subj), .string (S n.act.reason), .string (S n.act.deny)] 27) := fun kx => (kx.k.block _ (blk_lt AZ.out)).trans AZ.out
  have q1 : ∀ kx : Wl Z, kx.x.cell? ⟨W.heap.size + 1, 1, none⟩ = some (.string (S n.act.room)) := fun kx => by rw [Lib.cell_of_heap (AK kx)]; rfl
  have q2 : ∀ kx : Wl Z, kx.x.cell? ⟨W.heap.size + 1, 2, none⟩ = some (.string (S n.act.subj)) := fun kx => by rw [Lib.cell_of_heap (AK kx)]; rfl
  have q3 : ∀ kx : Wl Z, kx.x.cell? ⟨W.heap.size + 1, 3, none⟩ = some (.string (S n.act.reason)) := fun kx => by rw [Lib.cell_of_heap (AK kx)]; rfl
  have q4 : ∀ kx : Wl Z, kx.x.cell? ⟨W.heap.size + 1, 4, none⟩ = some (.string (S n.act.deny)) := fun kx => by rw [Lib.cell_of_heap (AK kx)]; rfl
  have cD2 : Hid (∀ kx : Wl Z, Calls Tryz.prog 33 #[.int .i64 n.txn] kx.x fun e w'' => e = .returned (.string (S num)) ∧ ∃ k' : Wl Z, w'' = k'.x) := Lib.hid (fun kx => quiet_call kx.k (cD.out _))
  clear cD BZ AZ AK e0 e1 e2 e3 e4 e5 e6 e7 e8
  refine wp_region_keeps (by kernel_rfl) (by kernel_rfl) ?_
  repeat (go_big_quiet_step (with_reducible exact cD2.out _))
  refine wpQuiet_nil ?_
  rintro x ⟨kq, hq⟩
  have KX := Lib.hid (KZ.out.trans (show Keeps Z x by rw [hq]; exact kq.k))
  clear hq kq
  go_wp2
  go_ret
  exact ⟨rfl, KX.out⟩
set_option maxHeartbeats 4000000 in
set_option maxRecDepth 100000 in
theorem rline_txin (n : Nt) (w : World) (j : Nat) (hj : n.kind = (j : Int) + 1) (h : 2 ≤ j ∧ j ≤ 7) (hc : (Lit.int .i64 n.txn).wf = true) (hlt : lightA n.act = true) (m : Nat) (hm : n.act.kind = (m : Int) + 1) (ha : m < 4) : Calls Tryz.prog 8 #[.agg (ntC n)] w (Ret (.string (S (Lib.join [nwL n.kind, Lib.itoa n.txn, awL n.act.kind, n.act.room, n.act.subj, n.act.reason, n.act.deny] [32]))) w) := by
  have K0 := Lib.hid ((Keeps.refl w).alloc (.cells (ntC n) 29))
  have B0 := Lib.hid (NtB.new w n)
  have f1 : (n.kind == 1) = false := by simp; omega
  have f2 : (n.kind == 2) = false := by simp; omega
  have f9 : (n.kind == 9) = false := by simp; omega
  have hword := nw_list j (by omega)
  rw [← hj] at hword
  have g1 : ¬ n.kind < 1 := by omega
  have g9 : ¬ 9 < n.kind := by omega
  have g2 : n.kind - 1 = (j : Int) := by omega
  have g3 : (j : Int) < 9 := by omega
  have z1 : (S (nwL n.kind)).size ≤ 8 := by rw [S_size]; exact nwL_len _
  generalize nwL n.kind = word at *
  have cD := Lib.hid (fun wx => rdigits_any n.txn (wf_i64 hc).1 (wf_i64 hc).2 wx)
  have z2 : (S (Lib.itoa n.txn)).size ≤ 21 := by rw [S_size]; exact itoa_len _ hc
  have z3 : (S (awL n.act.kind)).size ≤ 8 := by rw [S_size]; exact awL_len _
  unfold lightA at hlt
  simp only [Bool.and_eq_true, decide_eq_true_eq] at hlt
  have z4 : (S n.act.room).size ≤ 300 := by rw [S_size]; exact hlt.1.1.1
  have z5 : (S n.act.subj).size ≤ 300 := by rw [S_size]; exact hlt.1.1.2
  have z6 : (S n.act.reason).size ≤ 300 := by rw [S_size]; exact hlt.1.2
  have z7 : (S n.act.deny).size ≤ 3000 := by rw [S_size]; exact hlt.2
  have haw := aw_list m ha
  rw [← hm] at haw
  have a1 : (1 : Int) ≤ n.act.kind := by omega
  have a4 : n.act.kind ≤ 4 := by omega
  have a2 : n.act.kind - 1 = (m : Int) := by omega
  have a3 : (m : Int) < 4 := by omega
  rw [← join_seven]
  generalize awL n.act.kind = aw at *
  generalize Lib.itoa n.txn = num at *
  clear hj h hc hlt ha hm
  generalize hW : w.alloc (.cells (ntC n) 29) = W at *
  have hw1 : w.heap.size < W.heap.size := blk_lt B0.out
  obtain ⟨e0, e1, e2, e3, e4, e5, e6, e7, e8⟩ := B0.out.cells
  unfold ntC at hW ⊢
  go_enter Tryz.func8, Tryz.ntmps8
  have KZ := Lib.hid ((K0.out.alloc (.cells #[.string ⟨#[114, 101, 102, 117, 115, 101, 100]⟩, .string ⟨#[99, 111, 109, 109, 97, 110, 100]⟩, .string ⟨#[113, 117, 101, 117, 101, 100]⟩, .string ⟨#[115, 101, 110, 116]⟩, .string ⟨#[100, 111, 110, 101]⟩, .string ⟨#[97, 103, 97, 105, 110]⟩, .string ⟨#[102, 97, 105, 108, 101, 100]⟩, .string ⟨#[103, 111, 110, 101]⟩, .string ⟨#[102, 117, 108, 108]⟩] 9)).alloc (.cells (actC n.act) 27))
  have BZ := Lib.hid (B0.out.keeps (((Keeps.refl W).alloc (.cells #[.string ⟨#[114, 101, 102, 117, 115, 101, 100]⟩, .string ⟨#[99, 111, 109, 109, 97, 110, 100]⟩, .string ⟨#[113, 117, 101, 117, 101, 100]⟩, .string ⟨#[115, 101, 110, 116]⟩, .string ⟨#[100, 111, 110, 101]⟩, .string ⟨#[97, 103, 97, 105, 110]⟩, .string ⟨#[102, 97, 105, 108, 101, 100]⟩, .string ⟨#[103, 111, 110, 101]⟩, .string ⟨#[102, 117, 108, 108]⟩] 9)).alloc (.cells (actC n.act) 27)))
  have AZ0 := heap_alloc_new ((W).alloc (.cells #[.string ⟨#[114, 101, 102, 117, 115, 101, 100]⟩, .string ⟨#[99, 111, 109, 109, 97, 110, 100]⟩, .string ⟨#[113, 117, 101, 117, 101, 100]⟩, .string ⟨#[115, 101, 110, 116]⟩, .string ⟨#[100, 111, 110, 101]⟩, .string ⟨#[97, 103, 97, 105, 110]⟩, .string ⟨#[102, 97, 105, 108, 101, 100]⟩, .string ⟨#[103, 111, 110, 101]⟩, .string ⟨#[102, 117, 108, 108]⟩] 9)) (.cells (actC n.act) 27)
  rw [World.size_alloc] at AZ0
  have AZ := Lib.hid AZ0
  clear AZ0
  have AZ1 := Lib.hid ((((Keeps.refl (((W).alloc (.cells #[.string ⟨#[114, 101, 102, 117, 115, 101, 100]⟩, .string ⟨#[99, 111, 109, 109, 97, 110, 100]⟩, .string ⟨#[113, 117, 101, 117, 101, 100]⟩, .string ⟨#[115, 101, 110, 116]⟩, .string ⟨#[100, 111, 110, 101]⟩, .string ⟨#[97, 103, 97, 105, 110]⟩, .string ⟨#[102, 97, 105, 108, 101, 100]⟩, .string ⟨#[103, 111, 110, 101]⟩, .string ⟨#[102, 117, 108, 108]⟩] 9)).alloc (.cells (actC n.act) 27))).alloc (.cells #[.string ⟨#[98, 97, 110]⟩, .string ⟨#[117, 110, 98, 97, 110]⟩, .string ⟨#[97, 99, 108]⟩, .string ⟨#[114, 101, 100, 97, 99, 116]⟩] 9)).block _ (blk_lt AZ.out)).trans AZ.out)
  have BZ1 := Lib.hid (BZ.out.keeps ((Keeps.refl (((W).alloc (.cells #[.string ⟨#[114, 101, 102, 117, 115, 101, 100]⟩, .string ⟨#[99, 111, 109, 109, 97, 110, 100]⟩, .string ⟨#[113, 117, 101, 117, 101, 100]⟩, .string ⟨#[115, 101, 110, 116]⟩, .string ⟨#[100, 111, 110, 101]⟩, .string ⟨#[97, 103, 97, 105, 110]⟩, .string ⟨#[102, 97, 105, 108, 101, 100]⟩, .string ⟨#[103, 111, 110, 101]⟩, .string ⟨#[102, 117, 108, 108]⟩] 9)).alloc (.cells (actC n.act) 27))).alloc (.cells #[.string ⟨#[98, 97, 110]⟩, .string ⟨#[117, 110, 98, 97, 110]⟩, .string ⟨#[97, 99, 108]⟩, .string ⟨#[114, 101, 100, 97, 99, 116]⟩] 9)))
  have KZ1 := Lib.hid (KZ.out.alloc (.cells #[.string ⟨#[98, 97, 110]⟩, .string ⟨#[117, 110, 98, 97, 110]⟩, .string ⟨#[97, 99, 108]⟩, .string ⟨#[114, 101, 100, 97, 99, 116]⟩] 9))
  clear AZ BZ KZ
  have AZ := AZ1
  have BZ := BZ1
  have KZ := KZ1
  clear AZ1 BZ1 KZ1
  unfold actC at AZ BZ KZ
  go_upto_region 15 with fail
  generalize (((W).alloc (.cells #[.string ⟨#[114, 101, 102, 117, 115, 101, 100]⟩, .string ⟨#[99, 111, 109, 109, 97, 110, 100]⟩, .string ⟨#[113, 117, 101, 117, 101, 100]⟩, .string ⟨#[115, 101, 110, 116]⟩, .string ⟨#[100, 111, 110, 101]⟩, .string ⟨#[97, 103, 97, 105, 110]⟩, .string ⟨#[102, 97, 105, 108, 101, 100]⟩, .string ⟨#[103, 111, 110, 101]⟩, .string ⟨#[102, 117, 108, 108]⟩] 9)).alloc (.cells #[.int .i64 n.act.kind, .string (S n.act.room), .string (S n.act.subj), .string (S n.act.reason), .string (S n.act.deny)] 27)).alloc (.cells #[.string ⟨#[98, 97, 110]⟩, .string ⟨#[117, 110, 98, 97, 110]⟩, .string ⟨#[97, 99, 108]⟩, .string ⟨#[114, 101, 100, 97, 99, 116]⟩] 9) = Z at *
  have q0 : ∀ kx : Wl Z, kx.x.cell? ⟨w.heap.size, 1, none⟩ = some (.int .i64 n.txn) := fun kx => (BZ.out.keeps kx.k).cells.2.1
  have AK : ∀ kx : Wl Z, kx.x.heap[W.heap.size + 1]? = some (.cells #[.int .i64 n.act.kind, .string (S n.act.room), .string (S n.act.subj), .string (S n.act.reason), .string (S n.act.deny)] 27) := fun kx => (kx.k.block _ (blk_lt AZ.out)).trans AZ.out
  have q1 : ∀ kx : Wl Z, kx.x.cell? ⟨W.heap.size + 1, 1, none⟩ = some (.string (S n.act.room)) := fun kx => by rw [Lib.cell_of_heap (AK kx)]; rfl
  have q2 : ∀ kx : Wl Z, kx.x.cell? ⟨W.heap.size + 1, 2, none⟩ = some (.string (S n.act.subj)) := fun kx => by rw [Lib.cell_of_heap (AK kx)]; rfl
  have q3 : ∀ kx : Wl Z, kx.x.cell? ⟨W.heap.size + 1, 3, none⟩ = some (.string (S n.act.reason)) := fun kx => by rw [Lib.cell_of_heap (AK kx)]; rfl
  have q4 : ∀ kx : Wl Z, kx.x.cell? ⟨W.heap.size + 1, 4, none⟩ = some (.string (S n.act.deny)) := fun kx => by rw [Lib.cell_of_heap (AK kx)]; rfl
  have cD2 : Hid (∀ kx : Wl Z, Calls Tryz.prog 33 #[.int .i64 n.txn] kx.x fun e w'' => e = .returned (.string (S num)) ∧ ∃ k' : Wl Z, w'' = k'.x) := Lib.hid (fun kx => quiet_call kx.k (cD.out _))
  clear cD BZ AZ AK e0 e1 e2 e3 e4 e5 e6 e7 e8
  refine wp_region_keeps (by kernel_rfl) (by kernel_rfl) ?_
  repeat (go_big_quiet_step (with_reducible exact cD2.out _))
  refine wpQuiet_nil ?_
  rintro x ⟨kq, hq⟩
  have KX := Lib.hid (KZ.out.trans (show Keeps Z x by rw [hq]; exact kq.k))
  clear hq kq
  go_wp2
  go_ret
  exact ⟨rfl, KX.out⟩
theorem rline_any (n : Nt) (w : World) (h : NtLine n) : Calls Tryz.prog 8 #[.agg (ntC n)] w (Ret (.string (S (lineL n))) w) := by
  obtain ⟨h1, h2, h3⟩ := h
  have hl := h1
  unfold lightN1 at hl
  simp only [Bool.and_eq_true, decide_eq_true_eq] at hl
  by_cases k0 : n.kind < 1
  · have e : lineL n = [63] := by
      unfold lineL partsL nwL
      rw [if_neg (by omega), if_neg (by omega), if_neg (by omega), if_neg (by omega)]
      rfl
    rw [e]
    exact rline_low n w k0
  by_cases k9 : 9 < n.kind
  · have e : lineL n = [63] := by
      unfold lineL partsL nwL
      rw [if_neg (by omega), if_neg (by omega), if_neg (by omega), if_neg (by omega)]
      rfl
    rw [e]
    exact rline_high n w k9
  obtain ⟨j, hj⟩ : ∃ j : Nat, n.kind = (j : Int) + 1 := ⟨(n.kind - 1).toNat, by omega⟩
  unfold lineL partsL
  by_cases k1 : n.kind = 1
  · rw [if_pos k1]
    exact rline_one n w j hj (by omega) h3
  rw [if_neg k1]
  by_cases k2 : n.kind = 2
  · rw [if_pos k2]
    exact rline_two n w j hj (by omega) h3 hl.2
  rw [if_neg k2]
  by_cases k3 : 3 ≤ n.kind ∧ n.kind ≤ 8
  · rw [if_pos k3]
    by_cases a0 : n.act.kind < 1
    · exact rline_txlow n w j hj (by omega) h2 hl.1 a0
    by_cases a4 : 4 < n.act.kind
    · exact rline_txhigh n w j hj (by omega) h2 hl.1 a4
    · obtain ⟨m, hm⟩ : ∃ m : Nat, n.act.kind = (m : Int) + 1 := ⟨(n.act.kind - 1).toNat, by omega⟩
      exact rline_txin n w j hj (by omega) h2 hl.1 m hm (by omega)
  · rw [if_neg k3]
    exact rline_nine n w j hj (by omega)
end Go.Proofs.YtfapilgmgjmfeaaGreatDoor
