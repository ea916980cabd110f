/-
  The line of a note.
-/
import Derived.Test.YtfapilgmgjmfeaaGreatDoorLnb
import Derived.Test.YtfapilgmgjmfeaaGreatDoorQt
import Derived.Deep.AppendLies
import Derived.Deep.RegionLaw
namespace Go.Proofs.YtfapilgmgjmfeaaGreatDoor
open Go.RowKit

set_option maxHeartbeats 400000 in
set_option maxRecDepth 100000 in
theorem line_txn (n : Nt) (w : World) (ht : Tab w) (h1 : 3 ≤ n.kind ∧ n.kind ≤ 8) (hc : (Lit.int .i64 n.txn).wf = true) (hj : (Lib.join [nwL n.kind, Lib.itoa n.txn, awL n.act.kind, n.act.room, n.act.subj, n.act.reason, n.act.deny] [32]).length ≤ 1000000) : Calls Tryz.prog 7 #[.agg (ntC n)] w (Ret (.string (S (Lib.join [nwL n.kind, Lib.itoa n.txn, awL n.act.kind, n.act.room, n.act.subj, n.act.reason, n.act.deny] [32]))) w) := by
  have K0 := Lib.hid ((Keeps.refl w).alloc (.cells (ntC n) 29))
  have B0 := Lib.hid (NtB.new w n)
  have cN := Lib.hid (nw_any n.kind (w.alloc (.cells (ntC n) 29)))
  have HT := Lib.hid ht
  obtain ⟨i0, hi, hz0, hz1, hz2⟩ := info_parts info9
  have HJ := Lib.hid hj
  have cF := Lib.hid (fun wx (k : Keeps w wx) => fint_any n.txn hc wx (HT.out.keeps k))
  have cA := Lib.hid (fun wx => aw_any n.act.kind wx)
  have cT := Lib.hid (fun wx => ofTx_any n.kind wx)
  have f0 : ofTx n.kind = true := by unfold ofTx; simp; omega
  rw [f0] at cT
  have f1 : (n.kind == 1) = false := by simp; omega
  have f2 : (n.kind == 2) = false := by simp; omega
  clear hj h1 f0 hc
  clear ht
  generalize hW : w.alloc (.cells (ntC n) 29) = W at *
  obtain ⟨e0, e1, e2, e3, e4, e5, e6, e7, e8⟩ := B0.out.cells
  unfold ntC at hW ⊢
  go_enter Tryz.func7, Tryz.ntmps7
  go_wp2_with fail
  clear hW
  refine cN.out.mono ?_
  rintro e w1 ⟨rfl, k1⟩
  have K1 := Lib.hid (K0.out.trans k1)
  have B1 : Hid (NtB w1 w.heap.size n) := Lib.hid (B0.out.keeps k1)
  have hw1 : w.heap.size < w1.heap.size := blk_lt B1.out
  have R1 : Hid (StrRow (w1.alloc (.cells #[.string (S (nwL n.kind))] 9)) w1.heap.size (.slice (some ⟨w1.heap.size, 0, none⟩) 1 1) [nwL n.kind]) := Lib.hid (StrRow.one w1 (Nat.le_refl _) (nwL n.kind))
  have J1 : Hid (Keeps w1 (w1.alloc (.cells #[.string (S (nwL n.kind))] 9))) := Lib.hid ((Keeps.refl w1).alloc _)
  obtain ⟨d0, d1, d2, d3, d4, d5, d6, d7, d8⟩ := B1.out.cells
  clear k1 K0 B0 cN e0 e1 e2 e3 e4 e5 e6 e7 e8
  generalize nwL n.kind = word at *
  generalize Lib.itoa n.txn = num at *
  generalize awL n.act.kind = aw at *
  go_wp2_with fail
  refine (cT.out _).mono ?_
  rintro e y0 ⟨rfl, hy⟩
  have JY : Hid (Keeps w1 y0) := Lib.hid (by rw [hy]; exact J1.out)
  have RY : Hid (StrRow y0 w1.heap.size (.slice (some ⟨w1.heap.size, 0, none⟩) 1 1) [word]) := Lib.hid (R1.out.keeps (by rw [hy]; exact Keeps.refl _))
  clear hy
  clear J1 R1 d0 d1 d2 d3 d4 d5 d6 d7 d8
  have Cy : Hid (NtB y0 w.heap.size n) := Lib.hid (B1.out.keeps JY.out)
  obtain ⟨d0, d1, d2, d3, d4, d5, d6, d7, d8⟩ := Cy.out.cells
  have hy1 : w.heap.size < y0.heap.size := blk_lt Cy.out
  have JZ := Lib.hid (JY.out.alloc (.cells (actC n.act) 27))
  have RZ := Lib.hid (RY.out.keeps ((Keeps.refl y0).alloc (.cells (actC n.act) 27)))
  have CZ := Lib.hid (Cy.out.keeps ((Keeps.refl y0).alloc (.cells (actC n.act) 27)))
  have AZ := Lib.hid (heap_alloc_new y0 (.cells (actC n.act) 27))
  generalize hZ : y0.alloc (.cells (actC n.act) 27) = Z at *
  unfold actC at hZ AZ
  go_wp2_with fail
  clear hZ d0 d1 d2 d3 d4 d5 d6 d7 d8 Cy JY RY
  have q0 : ∀ kx : Wl Z, kx.x.cell? ⟨w.heap.size, 1, none⟩ = some (.int .i64 n.txn) := fun kx => (CZ.out.keeps kx.k).cells.2.1
  have AK : ∀ kx : Wl Z, kx.x.heap[y0.heap.size]? = some (.cells #[.int .i64 n.act.kind, .string (S n.act.room), .string (S n.act.subj), .string (S n.act.reason), .string (S n.act.deny)] 27) := fun kx => (kx.k.block _ (blk_lt AZ.out)).trans AZ.out
  have q1 : ∀ kx : Wl Z, kx.x.cell? ⟨y0.heap.size, 0, none⟩ = some (.int .i64 n.act.kind) := fun kx => by rw [Lib.cell_of_heap (AK kx)]; rfl
  have q2 : ∀ kx : Wl Z, kx.x.cell? ⟨y0.heap.size, 1, none⟩ = some (.string (S n.act.room)) := fun kx => by rw [Lib.cell_of_heap (AK kx)]; rfl
  have q3 : ∀ kx : Wl Z, kx.x.cell? ⟨y0.heap.size, 2, none⟩ = some (.string (S n.act.subj)) := fun kx => by rw [Lib.cell_of_heap (AK kx)]; rfl
  have q4 : ∀ kx : Wl Z, kx.x.cell? ⟨y0.heap.size, 3, none⟩ = some (.string (S n.act.reason)) := fun kx => by rw [Lib.cell_of_heap (AK kx)]; rfl
  have q5 : ∀ kx : Wl Z, kx.x.cell? ⟨y0.heap.size, 4, none⟩ = some (.string (S n.act.deny)) := fun kx => by rw [Lib.cell_of_heap (AK kx)]; rfl
  have cF2 : Hid (∀ kx : Wl Z, Calls Tryz.prog 30 #[.int .i64 n.txn, .int .i64 10] kx.x fun e w'' => e = .returned (.string (S num)) ∧ ∃ k' : Wl Z, w'' = k'.x) := Lib.hid (fun kx => quiet_call kx.k (cF.out _ (K1.out.trans (JZ.out.trans kx.k))))
  have cA2 : Hid (∀ kx : Wl Z, Calls Tryz.prog 31 #[.int .i64 n.act.kind] kx.x fun e w'' => e = .returned (.string (S aw)) ∧ ∃ k' : Wl Z, w'' = k'.x) := Lib.hid (fun kx => quiet_call kx.k (cA.out _))
  clear AK AZ cF cA cT
  refine wp_region_keeps_tail1 15 (.slice (some ⟨w1.heap.size, 0, none⟩) 1 1) (by kernel_rfl) (by kernel_rfl) (by kernel_rfl) (by kernel_rfl) (fun _ _ _ h => h) (Or.inl ⟨by kernel_rfl, fun wz => by go_simp⟩) ?_
  simp only [List.take_succ_cons, List.take_zero, List.drop_succ_cons, List.drop_zero, Act.put, List.setIfInBounds_toArray, List.set_cons_succ, List.set_cons_zero]
  repeat (go_big_quiet_step (first | exact cF2.out _ | exact cA2.out _))
  refine wpQuiet_nil ?_
  rintro x ⟨kq, hq⟩
  have kx : Keeps Z x := by rw [hq]; exact kq.k
  clear hq kq
  have JX := Lib.hid (JZ.out.trans kx)
  have RX := Lib.hid (RZ.out.keeps kx)
  have CX : Hid (NtB x w.heap.size n) := Lib.hid (CZ.out.keeps kx)
  clear q0 q1 q2 q3 q4 q5 cF2 cA2 kx JZ RZ CZ
  obtain ⟨d0, d1, d2, d3, d4, d5, d6, d7, d8⟩ := CX.out.cells
  have RA : Hid (StrRow (x.alloc (.cells #[.string (S num), .string (S aw), .string (S n.act.room), .string (S n.act.subj), .string (S n.act.reason), .string (S n.act.deny)] 9)) w1.heap.size _ [word]) := Lib.hid (RX.out.keeps ((Keeps.refl x).alloc _))
  have JA := Lib.hid (JX.out.alloc (.cells #[.string (S num), .string (S aw), .string (S n.act.room), .string (S n.act.subj), .string (S n.act.reason), .string (S n.act.deny)] 9))
  have ls : ([word]).length ≤ 100 := by simp
  go_wp2_with (at_builtin; refine wpList_append_own _ rfl (.tmp 36) (.tmp 51) 33 rfl w1.heap.size 9 i0 (.string ⟨#[]⟩) 1 16 Tryz.underlying33 hi hz0 hz1 hz2 rfl (by decide) _ _ _ rfl RA.out ⟨x.heap.size, 0, none⟩ 6 6 [.string (S num), .string (S aw), .string (S n.act.room), .string (S n.act.subj), .string (S n.act.reason), .string (S n.act.deny)] rfl rfl ?c1 ?c2 ?c3 ?c4 ?c5 ?_)
  case c1 => exact World.news_of_block (cs := #[.string (S num), .string (S aw), .string (S n.act.room), .string (S n.act.subj), .string (S n.act.reason), .string (S n.act.deny)]) (t := 9) (fr := (0, 0)) (heap_alloc_new _ _)
  case c2 => simp [Value.oneCell']
  case c3 => unfold maxLen; omega
  case c4 => omega
  case c5 => exact Below.size JA.out
  intro v5 y1 hown' hgrow _
  have J5 : Hid (Keeps w1 y1) := Lib.hid (JA.out.grown hgrow (Below.size JA.out) (fun q hq => (World.ownsRow.lt RA.out q hq).1))
  have R5 : Hid (StrRow y1 w1.heap.size v5 [word, num, aw, n.act.room, n.act.subj, n.act.reason, n.act.deny]) := Lib.hid hown'
  have Cy1 : Hid (NtB y1 w.heap.size n) := Lib.hid (B1.out.keeps J5.out)
  clear hown' hgrow RA JA JX RX ls
  clear d0 d1 d2 d3 d4 d5 d6 d7 d8
  obtain ⟨d0, d1, d2, d3, d4, d5, d6, d7, d8⟩ := Cy1.out.cells
  go_wp2_with fail
  obtain ⟨g, c, hv, cJ⟩ := join_any y1 R5.out (by simp) (by simp) HJ.out
  refine cJ.mono ?_
  rintro e z ⟨rfl, k⟩
  have KZ := Lib.hid (K1.out.trans (J5.out.trans k))
  clear k cJ
  go_wp2
  go_ret
  exact ⟨rfl, KZ.out⟩
end Go.Proofs.YtfapilgmgjmfeaaGreatDoor
