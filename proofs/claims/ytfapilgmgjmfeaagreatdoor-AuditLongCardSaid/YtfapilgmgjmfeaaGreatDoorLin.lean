/-
  The line of a note.
-/
import Derived.Test.YtfapilgmgjmfeaaGreatDoorLnb
import Derived.Test.YtfapilgmgjmfeaaGreatDoorQt
import Derived.Deep.AppendLies
import Derived.Deep.RegionLaw
namespace Go.Proofs.YtfapilgmgjmfeaaGreatDoor
open Go.RowKit

set_option maxHeartbeats 400000 in
set_option maxRecDepth 100000 in
theorem line_one (n : Nt) (w : World) (ht : Tab w) (h1 : n.kind = 1) (hc : (Lit.int .i64 n.code).wf = true) (hj : (Lib.join [nwL n.kind, Lib.itoa n.code] [32]).length ≤ 1000000) : Calls Tryz.prog 7 #[.agg (ntC n)] w (Ret (.string (S (Lib.join [nwL n.kind, Lib.itoa n.code] [32]))) w) := by
  have K0 := Lib.hid ((Keeps.refl w).alloc (.cells (ntC n) 29))
  have B0 := Lib.hid (NtB.new w n)
  have cN := Lib.hid (nw_any n.kind (w.alloc (.cells (ntC n) 29)))
  have HT := Lib.hid ht
  obtain ⟨i0, hi, hz0, hz1, hz2⟩ := info_parts info9
  have HJ := Lib.hid hj
  have cI := Lib.hid (fun wx (k : Keeps w wx) => itoa_any n.code hc wx (HT.out.keeps k))
  have cT := Lib.hid (fun wx => ofTx_any n.kind wx)
  have f0 : ofTx n.kind = false := by unfold ofTx; rw [h1]; rfl
  rw [f0] at cT
  have f1 : (n.kind == 1) = true := by simp; omega
  have f2 : (n.kind == 2) = false := by simp; omega
  clear hj h1 f0 hc
  clear ht
  generalize hW : w.alloc (.cells (ntC n) 29) = W at *
  obtain ⟨e0, e1, e2, e3, e4, e5, e6, e7, e8⟩ := B0.out.cells
  unfold ntC at hW ⊢
  go_enter Tryz.func7, Tryz.ntmps7
  go_wp2_with fail
  clear hW
  refine cN.out.mono ?_
  rintro e w1 ⟨rfl, k1⟩
  have K1 := Lib.hid (K0.out.trans k1)
  have B1 : Hid (NtB w1 w.heap.size n) := Lib.hid (B0.out.keeps k1)
  have hw1 : w.heap.size < w1.heap.size := blk_lt B1.out
  have R1 : Hid (StrRow (w1.alloc (.cells #[.string (S (nwL n.kind))] 9)) w1.heap.size (.slice (some ⟨w1.heap.size, 0, none⟩) 1 1) [nwL n.kind]) := Lib.hid (StrRow.one w1 (Nat.le_refl _) (nwL n.kind))
  have J1 : Hid (Keeps w1 (w1.alloc (.cells #[.string (S (nwL n.kind))] 9))) := Lib.hid ((Keeps.refl w1).alloc _)
  obtain ⟨d0, d1, d2, d3, d4, d5, d6, d7, d8⟩ := B1.out.cells
  clear k1 K0 B0 cN e0 e1 e2 e3 e4 e5 e6 e7 e8
  generalize nwL n.kind = word at *
  go_wp2_with fail
  refine (cI.out _ (K1.out.trans J1.out)).mono ?_
  rintro e x2 ⟨rfl, k⟩
  have J2 := Lib.hid (J1.out.trans k)
  have R2 := Lib.hid (R1.out.keeps k)
  have Cx2 : Hid (NtB x2 w.heap.size n) := Lib.hid (B1.out.keeps J2.out)
  clear k J1 R1
  clear d0 d1 d2 d3 d4 d5 d6 d7 d8
  obtain ⟨d0, d1, d2, d3, d4, d5, d6, d7, d8⟩ := Cx2.out.cells
  generalize Lib.itoa n.code = num at *
  have RA : Hid (StrRow (x2.alloc (.cells #[.string (S num)] 9)) w1.heap.size _ [word]) := Lib.hid (R2.out.keeps ((Keeps.refl x2).alloc _))
  have JA := Lib.hid (J2.out.alloc (.cells #[.string (S num)] 9))
  have ls : ([word]).length ≤ 100 := by simp
  go_wp2_with (at_builtin; refine wpList_append_own _ rfl (.tmp 17) (.tmp 21) 33 rfl w1.heap.size 9 i0 (.string ⟨#[]⟩) 1 16 Tryz.underlying33 hi hz0 hz1 hz2 rfl (by decide) _ _ _ rfl RA.out ⟨x2.heap.size, 0, none⟩ 1 1 [.string (S num)] rfl rfl ?c1 ?c2 ?c3 ?c4 ?c5 ?_)
  case c1 => exact World.news_of_block (cs := #[.string (S num)]) (t := 9) (fr := (0, 0)) (heap_alloc_new _ _)
  case c2 => simp [Value.oneCell']
  case c3 => unfold maxLen; omega
  case c4 => omega
  case c5 => exact Below.size JA.out
  intro v3 x3 hown' hgrow _
  have J3 : Hid (Keeps w1 x3) := Lib.hid (JA.out.grown hgrow (Below.size JA.out) (fun q hq => (World.ownsRow.lt RA.out q hq).1))
  have R3 : Hid (StrRow x3 w1.heap.size v3 [word, num]) := Lib.hid hown'
  have Cx3 : Hid (NtB x3 w.heap.size n) := Lib.hid (B1.out.keeps J3.out)
  clear hown' hgrow RA JA J2 R2 ls
  clear d0 d1 d2 d3 d4 d5 d6 d7 d8
  obtain ⟨d0, d1, d2, d3, d4, d5, d6, d7, d8⟩ := Cx3.out.cells
  go_wp2_with fail
  refine (cT.out _).mono ?_
  rintro e y0 ⟨rfl, hy⟩
  have JY : Hid (Keeps w1 y0) := Lib.hid (by rw [hy]; exact J3.out)
  have RY : Hid (StrRow y0 w1.heap.size v3 [word, num]) := Lib.hid (R3.out.keeps (by rw [hy]; exact Keeps.refl _))
  clear hy
  go_wp2_with fail
  obtain ⟨g, c, hv, cJ⟩ := join_any y0 RY.out (by simp) (by simp) HJ.out
  refine cJ.mono ?_
  rintro e z ⟨rfl, k⟩
  have KZ := Lib.hid (K1.out.trans (JY.out.trans k))
  clear k cJ
  go_wp2
  go_ret
  exact ⟨rfl, KZ.out⟩
set_option maxHeartbeats 400000 in
set_option maxRecDepth 100000 in
theorem line_two (n : Nt) (w : World) (ht : Tab w) (h1 : n.kind = 2) (hc : (Lit.int .i64 n.code).wf = true) (hj : (Lib.join [nwL n.kind, Lib.itoa n.code, n.text] [32]).length ≤ 1000000) : Calls Tryz.prog 7 #[.agg (ntC n)] w (Ret (.string (S (Lib.join [nwL n.kind, Lib.itoa n.code, n.text] [32]))) w) := by
  have K0 := Lib.hid ((Keeps.refl w).alloc (.cells (ntC n) 29))
  have B0 := Lib.hid (NtB.new w n)
  have cN := Lib.hid (nw_any n.kind (w.alloc (.cells (ntC n) 29)))
  have HT := Lib.hid ht
  obtain ⟨i0, hi, hz0, hz1, hz2⟩ := info_parts info9
  have HJ := Lib.hid hj
  have cI := Lib.hid (fun wx (k : Keeps w wx) => itoa_any n.code hc wx (HT.out.keeps k))
  have cT := Lib.hid (fun wx => ofTx_any n.kind wx)
  have f0 : ofTx n.kind = false := by unfold ofTx; rw [h1]; rfl
  rw [f0] at cT
  have f1 : (n.kind == 1) = false := by simp; omega
  have f2 : (n.kind == 2) = true := by simp; omega
  clear hj h1 f0 hc
  clear ht
  generalize hW : w.alloc (.cells (ntC n) 29) = W at *
  obtain ⟨e0, e1, e2, e3, e4, e5, e6, e7, e8⟩ := B0.out.cells
  unfold ntC at hW ⊢
  go_enter Tryz.func7, Tryz.ntmps7
  go_wp2_with fail
  clear hW
  refine cN.out.mono ?_
  rintro e w1 ⟨rfl, k1⟩
  have K1 := Lib.hid (K0.out.trans k1)
  have B1 : Hid (NtB w1 w.heap.size n) := Lib.hid (B0.out.keeps k1)
  have hw1 : w.heap.size < w1.heap.size := blk_lt B1.out
  have R1 : Hid (StrRow (w1.alloc (.cells #[.string (S (nwL n.kind))] 9)) w1.heap.size (.slice (some ⟨w1.heap.size, 0, none⟩) 1 1) [nwL n.kind]) := Lib.hid (StrRow.one w1 (Nat.le_refl _) (nwL n.kind))
  have J1 : Hid (Keeps w1 (w1.alloc (.cells #[.string (S (nwL n.kind))] 9))) := Lib.hid ((Keeps.refl w1).alloc _)
  obtain ⟨d0, d1, d2, d3, d4, d5, d6, d7, d8⟩ := B1.out.cells
  clear k1 K0 B0 cN e0 e1 e2 e3 e4 e5 e6 e7 e8
  generalize nwL n.kind = word at *
  go_wp2_with fail
  refine (cI.out _ (K1.out.trans J1.out)).mono ?_
  rintro e x2 ⟨rfl, k⟩
  have J2 := Lib.hid (J1.out.trans k)
  have R2 := Lib.hid (R1.out.keeps k)
  have Cx2 : Hid (NtB x2 w.heap.size n) := Lib.hid (B1.out.keeps J2.out)
  clear k J1 R1
  clear d0 d1 d2 d3 d4 d5 d6 d7 d8
  obtain ⟨d0, d1, d2, d3, d4, d5, d6, d7, d8⟩ := Cx2.out.cells
  generalize Lib.itoa n.code = num at *
  have RA : Hid (StrRow (x2.alloc (.cells #[.string (S num)] 9)) w1.heap.size _ [word]) := Lib.hid (R2.out.keeps ((Keeps.refl x2).alloc _))
  have JA := Lib.hid (J2.out.alloc (.cells #[.string (S num)] 9))
  have ls : ([word]).length ≤ 100 := by simp
  go_wp2_with (at_builtin; refine wpList_append_own _ rfl (.tmp 17) (.tmp 21) 33 rfl w1.heap.size 9 i0 (.string ⟨#[]⟩) 1 16 Tryz.underlying33 hi hz0 hz1 hz2 rfl (by decide) _ _ _ rfl RA.out ⟨x2.heap.size, 0, none⟩ 1 1 [.string (S num)] rfl rfl ?c1 ?c2 ?c3 ?c4 ?c5 ?_)
  case c1 => exact World.news_of_block (cs := #[.string (S num)]) (t := 9) (fr := (0, 0)) (heap_alloc_new _ _)
  case c2 => simp [Value.oneCell']
  case c3 => unfold maxLen; omega
  case c4 => omega
  case c5 => exact Below.size JA.out
  intro v3 x3 hown' hgrow _
  have J3 : Hid (Keeps w1 x3) := Lib.hid (JA.out.grown hgrow (Below.size JA.out) (fun q hq => (World.ownsRow.lt RA.out q hq).1))
  have R3 : Hid (StrRow x3 w1.heap.size v3 [word, num]) := Lib.hid hown'
  have Cx3 : Hid (NtB x3 w.heap.size n) := Lib.hid (B1.out.keeps J3.out)
  clear hown' hgrow RA JA J2 R2 ls
  clear d0 d1 d2 d3 d4 d5 d6 d7 d8
  obtain ⟨d0, d1, d2, d3, d4, d5, d6, d7, d8⟩ := Cx3.out.cells
  have RA : Hid (StrRow (x3.alloc (.cells #[.string (S n.text)] 9)) w1.heap.size _ [word, num]) := Lib.hid (R3.out.keeps ((Keeps.refl x3).alloc _))
  have JA := Lib.hid (J3.out.alloc (.cells #[.string (S n.text)] 9))
  have ls : ([word, num]).length ≤ 100 := by simp
  go_wp2_with (at_builtin; refine wpList_append_own _ rfl (.tmp 26) (.tmp 29) 33 rfl w1.heap.size 9 i0 (.string ⟨#[]⟩) 1 16 Tryz.underlying33 hi hz0 hz1 hz2 rfl (by decide) _ _ _ rfl RA.out ⟨x3.heap.size, 0, none⟩ 1 1 [.string (S n.text)] rfl rfl ?c1 ?c2 ?c3 ?c4 ?c5 ?_)
  case c1 => exact World.news_of_block (cs := #[.string (S n.text)]) (t := 9) (fr := (0, 0)) (heap_alloc_new _ _)
  case c2 => simp [Value.oneCell']
  case c3 => unfold maxLen; omega
  case c4 => omega
  case c5 => exact Below.size JA.out
  intro v4 x4 hown' hgrow _
  have J4 : Hid (Keeps w1 x4) := Lib.hid (JA.out.grown hgrow (Below.size JA.out) (fun q hq => (World.ownsRow.lt RA.out q hq).1))
  have R4 : Hid (StrRow x4 w1.heap.size v4 [word, num, n.text]) := Lib.hid hown'
  have Cx4 : Hid (NtB x4 w.heap.size n) := Lib.hid (B1.out.keeps J4.out)
  clear hown' hgrow RA JA J3 R3 ls
  clear d0 d1 d2 d3 d4 d5 d6 d7 d8
  obtain ⟨d0, d1, d2, d3, d4, d5, d6, d7, d8⟩ := Cx4.out.cells
  go_wp2_with fail
  refine (cT.out _).mono ?_
  rintro e y0 ⟨rfl, hy⟩
  have JY : Hid (Keeps w1 y0) := Lib.hid (by rw [hy]; exact J4.out)
  have RY : Hid (StrRow y0 w1.heap.size v4 [word, num, n.text]) := Lib.hid (R4.out.keeps (by rw [hy]; exact Keeps.refl _))
  clear hy
  go_wp2_with fail
  obtain ⟨g, c, hv, cJ⟩ := join_any y0 RY.out (by simp) (by simp) HJ.out
  refine cJ.mono ?_
  rintro e z ⟨rfl, k⟩
  have KZ := Lib.hid (K1.out.trans (JY.out.trans k))
  clear k cJ
  go_wp2
  go_ret
  exact ⟨rfl, KZ.out⟩
set_option maxHeartbeats 400000 in
set_option maxRecDepth 100000 in
theorem line_oth (n : Nt) (w : World) (ht : Tab w) (h1 : ¬ n.kind = 1) (h2 : ¬ n.kind = 2) (h3 : ¬ (3 ≤ n.kind ∧ n.kind ≤ 8)) (hj : (Lib.join [nwL n.kind] [32]).length ≤ 1000000) : Calls Tryz.prog 7 #[.agg (ntC n)] w (Ret (.string (S (Lib.join [nwL n.kind] [32]))) w) := by
  have K0 := Lib.hid ((Keeps.refl w).alloc (.cells (ntC n) 29))
  have B0 := Lib.hid (NtB.new w n)
  have cN := Lib.hid (nw_any n.kind (w.alloc (.cells (ntC n) 29)))
  have HT := Lib.hid ht
  obtain ⟨i0, hi, hz0, hz1, hz2⟩ := info_parts info9
  have HJ := Lib.hid hj
  have cT := Lib.hid (fun wx => ofTx_any n.kind wx)
  have f0 : ofTx n.kind = false := by unfold ofTx; simp; omega
  rw [f0] at cT
  have f1 : (n.kind == 1) = false := by simp; omega
  have f2 : (n.kind == 2) = false := by simp; omega
  clear hj h1 f0 h2 h3
  clear ht
  generalize hW : w.alloc (.cells (ntC n) 29) = W at *
  obtain ⟨e0, e1, e2, e3, e4, e5, e6, e7, e8⟩ := B0.out.cells
  unfold ntC at hW ⊢
  go_enter Tryz.func7, Tryz.ntmps7
  go_wp2_with fail
  clear hW
  refine cN.out.mono ?_
  rintro e w1 ⟨rfl, k1⟩
  have K1 := Lib.hid (K0.out.trans k1)
  have B1 : Hid (NtB w1 w.heap.size n) := Lib.hid (B0.out.keeps k1)
  have hw1 : w.heap.size < w1.heap.size := blk_lt B1.out
  have R1 : Hid (StrRow (w1.alloc (.cells #[.string (S (nwL n.kind))] 9)) w1.heap.size (.slice (some ⟨w1.heap.size, 0, none⟩) 1 1) [nwL n.kind]) := Lib.hid (StrRow.one w1 (Nat.le_refl _) (nwL n.kind))
  have J1 : Hid (Keeps w1 (w1.alloc (.cells #[.string (S (nwL n.kind))] 9))) := Lib.hid ((Keeps.refl w1).alloc _)
  obtain ⟨d0, d1, d2, d3, d4, d5, d6, d7, d8⟩ := B1.out.cells
  clear k1 K0 B0 cN e0 e1 e2 e3 e4 e5 e6 e7 e8
  generalize nwL n.kind = word at *
  go_wp2_with fail
  refine (cT.out _).mono ?_
  rintro e y0 ⟨rfl, hy⟩
  have J2 : Hid (Keeps w1 y0) := Lib.hid (by rw [hy]; exact J1.out)
  have R2 : Hid (StrRow y0 w1.heap.size _ [word]) := Lib.hid (R1.out.keeps (by rw [hy]; exact Keeps.refl _))
  clear hy J1 R1
  go_wp2_with fail
  obtain ⟨g, c, hv, cJ⟩ := join_any y0 R2.out (by simp) (by simp) HJ.out
  refine cJ.mono ?_
  rintro e z ⟨rfl, k⟩
  have KZ := Lib.hid (K1.out.trans (J2.out.trans k))
  clear k cJ
  go_wp2
  go_ret
  exact ⟨rfl, KZ.out⟩
end Go.Proofs.YtfapilgmgjmfeaaGreatDoor
