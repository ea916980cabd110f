/-
  The law JsonBlanks, walked.
-/
import Derived.Test.YtljkeladdplhlaaDoorBks
import Derived.Test.YtljkeladdplhlaaDoorSmc
import Derived.Test.YtljkeladdplhlaaDoorLNam
namespace Go.Proofs.YtljkeladdplhlaaDoor
open Go.RowKit

set_option maxHeartbeats 1000000 in
theorem blk_big1 (s : ByteArray) (A B : Option Addr) (ca cb : Nat) (za zb : List Int) (c : UInt8) (w : World) (hu : Utf w) (ms : s.size ≤ maxLen) (ma : za.length ≤ maxLen) (mb : zb.length ≤ maxLen) (h : 1000 < s.size) : Calls Tryd.prog 6 #[.string s, .slice A za.length ca, .slice B zb.length cb, .int .u8 (c.toNat : Int)] w (Ret (.bool true) w) := by
  have cL := Lib.hid (lives_any w hu)
  unfold maxLen at ms ma mb
  have f1 : decide ((1000 : Int) < (s.size : Int)) = true := by simp; omega
  generalize za.length = na at *
  generalize zb.length = nb at *
  clear h
  go_enter Tryd.func6, Tryd.ntmps6
  go_wp2_with fail
  refine cL.out.mono ?_
  rintro e w2 ⟨rfl, k2⟩
  go_wp2
  go_ret
  exact ⟨rfl, k2⟩
set_option maxHeartbeats 1000000 in
theorem blk_big2 (s : ByteArray) (A B : Option Addr) (ca cb : Nat) (za zb : List Int) (c : UInt8) (w : World) (hu : Utf w) (ms : s.size ≤ maxLen) (ma : za.length ≤ maxLen) (mb : zb.length ≤ maxLen) (h : s.size ≤ 1000 ∧ 40 < za.length) : Calls Tryd.prog 6 #[.string s, .slice A za.length ca, .slice B zb.length cb, .int .u8 (c.toNat : Int)] w (Ret (.bool true) w) := by
  have cL := Lib.hid (lives_any w hu)
  unfold maxLen at ms ma mb
  have f1 : decide ((1000 : Int) < (s.size : Int)) = false := by simp; omega
  have f2 : decide ((40 : Int) < (za.length : Int)) = true := by simp; omega
  generalize za.length = na at *
  generalize zb.length = nb at *
  clear h
  go_enter Tryd.func6, Tryd.ntmps6
  go_wp2_with fail
  refine cL.out.mono ?_
  rintro e w2 ⟨rfl, k2⟩
  go_wp2
  go_ret
  exact ⟨rfl, k2⟩
set_option maxHeartbeats 1000000 in
theorem blk_big3 (s : ByteArray) (A B : Option Addr) (ca cb : Nat) (za zb : List Int) (c : UInt8) (w : World) (hu : Utf w) (ms : s.size ≤ maxLen) (ma : za.length ≤ maxLen) (mb : zb.length ≤ maxLen) (h : s.size ≤ 1000 ∧ za.length ≤ 40 ∧ 40 < zb.length) : Calls Tryd.prog 6 #[.string s, .slice A za.length ca, .slice B zb.length cb, .int .u8 (c.toNat : Int)] w (Ret (.bool true) w) := by
  have cL := Lib.hid (lives_any w hu)
  unfold maxLen at ms ma mb
  have f1 : decide ((1000 : Int) < (s.size : Int)) = false := by simp; omega
  have f2 : decide ((40 : Int) < (za.length : Int)) = false := by simp; omega
  have f3 : decide ((40 : Int) < (zb.length : Int)) = true := by simp; omega
  generalize za.length = na at *
  generalize zb.length = nb at *
  clear h
  go_enter Tryd.func6, Tryd.ntmps6
  go_wp2_with fail
  refine cL.out.mono ?_
  rintro e w2 ⟨rfl, k2⟩
  go_wp2
  go_ret
  exact ⟨rfl, k2⟩
theorem zero_isJ (w : World) (F : Nat → Prop) : IsJ w F J.zero zeroV := by
  unfold J.zero zeroV IsJ
  exact ⟨_, _, rfl, .inl ⟨rfl, rfl⟩, .inl ⟨rfl, rfl⟩⟩
theorem zero_sm : SmJ J.zero := by
  unfold J.zero SmJ SmL
  exact ⟨Nat.zero_le _, Nat.zero_le _, fun k hk => by simp at hk, trivial⟩
theorem zero_nodes : nodesJ J.zero ≤ 900000 := by decide +kernel
set_option maxHeartbeats 2000000 in
set_option maxRecDepth 100000 in
theorem blk_err (s : ByteArray) (A B : Option Addr) (ca cb : Nat) (za zb : List Int) (c : UInt8) (w : World) (hu : Utf w) (h : s.size ≤ 1000 ∧ za.length ≤ 40 ∧ zb.length ≤ 40) (he : (parseJ s.data.toList).2 ≠ 0) : Calls Tryd.prog 6 #[.string s, .slice A za.length ca, .slice B zb.length cb, .int .u8 (c.toNat : Int)] w (Ret (.bool true) w) := by
  have HU := Lib.hid hu
  have cL := Lib.hid (lives_any w hu)
  have cP := Lib.hid (fun wx h1 => parse_any s wx h1 (by omega))
  have cS := Lib.hid (fun wx => same_any J.zero J.zero zeroV zeroV (fun _ => False) wx (zero_isJ _ _) (zero_isJ _ _) (fun i hi => hi.elim) zero_sm zero_sm zero_nodes)
  unfold zeroV at cS
  generalize parseJ s.data.toList = p at *
  obtain ⟨pj, pe⟩ := p
  have hb : ((pe : Int) != 0) = true := by simp; exact he
  have HE := Lib.hid he
  have f1 : decide ((1000 : Int) < (s.size : Int)) = false := by simp; omega
  have f2 : decide ((40 : Int) < (za.length : Int)) = false := by simp; omega
  have f3 : decide ((40 : Int) < (zb.length : Int)) = false := by simp; omega
  generalize za.length = na at *
  generalize zb.length = nb at *
  clear h hu he
  go_enter Tryd.func6, Tryd.ntmps6
  go_wp2_with fail
  refine cL.out.mono ?_
  rintro e w2 ⟨rfl, k2⟩
  have K2 := Lib.hid k2
  clear k2
  go_wp2_with fail
  refine (cP.out _ (HU.out.keeps K2.out)).mono ?_
  rintro e w3 ⟨k3, -, h3⟩
  obtain rfl := h3 HE.out
  clear h3
  have K3 := Lib.hid (K2.out.trans k3)
  have hc := (cells5 (heap_alloc_new w3 (.cells #[.int .i64 0, .int .i64 0, .string ⟨#[]⟩, .slice none 0 0, .slice none 0 0] 25))).1
  obtain ⟨x0, x1, x2, x3, x4⟩ := hc
  clear k3
  unfold zeroV
  go_wp2_with fail
  refine (cS.out _).mono ?_
  rintro e w4 ⟨r, rfl, hr, k4⟩
  obtain rfl : r = true := hr.2 (by first | rfl | trivial)
  have K4 := Lib.hid ((K3.out.alloc _).trans k4)
  clear hr k4 x0 x1 x2 x3 x4
  go_wp2
  go_ret
  exact ⟨rfl, K4.out⟩
set_option maxHeartbeats 8000000 in
set_option maxRecDepth 100000 in
theorem blk_ok9 (s : ByteArray) (A B : Option Addr) (ca cb : Nat) (za zb : List Int) (w : World) (j : J) (hu : Utf w) (h : s.size ≤ 1000 ∧ za.length ≤ 40 ∧ zb.length ≤ 40) (h1 : IntsAt w A za) (h2 : IntsAt w B zb) (hp : parseJ s.data.toList = (j, 0)) : Calls Tryd.prog 6 #[.string s, .slice A za.length ca, .slice B zb.length cb, .int .u8 9] w (Ret (.bool true) w) := by
  have HU := Lib.hid hu
  have cL := Lib.hid (lives_any w hu)
  have cP := Lib.hid (fun wx h1 => parse_any s wx h1 (by omega))
  rw [hp] at cP
  have cA : Hid (∀ wx, Keeps w wx → Calls Tryd.prog 25 #[.slice A za.length ca] wx (fun e w' => e = .returned (.string (S (blankL za))) ∧ Keeps wx w')) := Lib.hid (fun wx k => blanks_any A ca za wx (h1.keeps k) h.2.1)
  have cB : Hid (∀ wx, Keeps w wx → Calls Tryd.prog 25 #[.slice B zb.length cb] wx (fun e w' => e = .returned (.string (S (blankL zb))) ∧ Keeps wx w')) := Lib.hid (fun wx k => blanks_any B cb zb wx (h2.keeps k) h.2.2)
  have la : (blankL za).length = za.length := by simp [blankL]
  have lb : (blankL zb).length = zb.length := by simp [blankL]
  have hW : parseJ ((S (blankL za) ++ s) ++ S (blankL zb)).data.toList = (j, 0) := by
    rw [show ((S (blankL za) ++ s) ++ S (blankL zb)).data.toList = blankL za ++ (s.data.toList ++ blankL zb) by simp [S, ByteArray.data_append]]
    exact parse_wide hp (blankL_blank za) (blankL_blank zb)
  have cW := Lib.hid (fun wx h1 => parse_any ((S (blankL za) ++ s) ++ S (blankL zb)) wx h1 (by simp [S_size]; omega))
  rw [hW] at cW
  have hC : (parseJ ((s ++ ⟨#[32]⟩) ++ S [9]).data.toList).2 = 0 := by
    rw [show ((s ++ ⟨#[32]⟩) ++ S [9]).data.toList = s.data.toList ++ [32, 9] by simp [S, ByteArray.data_append]]
    exact congrArg Prod.snd (parse_blank hp (by decide))
  have q1 : (⟨#[32]⟩ : ByteArray).size = 1 := rfl
  have q2 : (S [9]).size = 1 := rfl
  have cC := Lib.hid (fun wx h1 => parse_any ((s ++ ⟨#[32]⟩) ++ S [9]) wx h1 (by simp [S_size, q1]; omega))
  have HC := Lib.hid hC
  obtain ⟨v1, v2, v3⟩ := parse_valid (by simp; omega) hp
  have cK := Lib.hid (fun (v : Value) (F : Nat → Prop) (wx : World) (hj : IsJ wx F j v) (hF : ∀ i, F i → i < wx.heap.size) => check_any j v F wx hj hF v2 (by omega))
  rw [v1] at cK
  have cS := Lib.hid (fun (va vb : Value) (F : Nat → Prop) (wx : World) (ha : IsJ wx F j va) (hb : IsJ wx F j vb) (hF : ∀ i, F i → i < wx.heap.size) => same_any j j va vb F wx ha hb hF v2 v2 (by omega))
  have hsz : (S (blankL za)).size ≤ 40 ∧ (S (blankL zb)).size ≤ 40 := by rw [S_size, S_size]; omega
  have hcv := Lib.hid (fun wx : World => run_convert_bytes_back (P := Tryd.prog) (wx.alloc (.cells #[.int .u8 9] 5)) 42 9 5 ⟨wx.heap.size, 0, none⟩ 1 [9] Tryd.underlying42 Tryd.underlying5 Tryd.underlying9 (fun q hq => by
    match q, hq with
    | 0, _ => simp [Addr.add]))
  have f1 : decide ((1000 : Int) < (s.size : Int)) = false := by simp; omega
  have f2 : decide ((40 : Int) < (za.length : Int)) = false := by simp; omega
  have f3 : decide ((40 : Int) < (zb.length : Int)) = false := by simp; omega
  have hs := h.1
  generalize S (blankL za) = sa at *
  generalize S (blankL zb) = sb at *
  generalize za.length = na at *
  generalize zb.length = nb at *
  have HV3 := Lib.hid v3
  clear h hu hp h1 h2 la lb hW hC v1 v2 v3
  obtain ⟨hsa, hsb⟩ := hsz
  go_enter Tryd.func6, Tryd.ntmps6
  go_wp2_with fail
  refine cL.out.mono ?_
  rintro e w2 ⟨rfl, k2⟩
  have K2 := Lib.hid k2
  clear k2
  go_wp2_with fail
  refine (cP.out _ (HU.out.keeps K2.out)).mono ?_
  rintro e w3 ⟨k3, hg, -⟩
  obtain ⟨v, rfl, hj⟩ := hg rfl
  clear hg
  obtain ⟨jk, jn, jt, jks, jis, kv, iv, hje, rfl, hkv, hiv⟩ := hj.parts
  obtain ⟨ka, kc, rfl⟩ := hkv.form
  obtain ⟨ia, ic, rfl⟩ := hiv.form
  have HJ := Lib.hid hj
  have K3 := Lib.hid (K2.out.trans k3)
  have B3 := Lib.hid (heap_alloc_new w3 (.cells #[.int .i64 jk, .int .i64 jn, .string (S jt), .slice ka jks.length kc, .slice ia jis.length ic] 25))
  have KA := Lib.hid ((Keeps.refl w3).alloc (.cells #[.int .i64 jk, .int .i64 jn, .string (S jt), .slice ka jks.length kc, .slice ia jis.length ic] 25))
  clear k3 hj hje hkv hiv
  go_wp2_with fail
  refine (cA.out _ (K3.out.alloc _)).mono ?_
  rintro e w4 ⟨rfl, k4⟩
  have K4 := Lib.hid (KA.out.trans k4)
  have L4 := Lib.hid k4
  clear k4
  go_wp2_with fail
  refine (cB.out _ (K3.out.trans K4.out)).mono ?_
  rintro e w5 ⟨rfl, k5⟩
  have K5 := Lib.hid (K4.out.trans k5)
  have L5 := Lib.hid (L4.out.trans k5)
  clear k5
  go_wp2_with fail
  refine (cW.out _ (HU.out.keeps (K3.out.trans K5.out))).mono ?_
  rintro e w6 ⟨k6, hg, -⟩
  obtain ⟨v, rfl, hq⟩ := hg rfl
  clear hg
  obtain ⟨qk, qn, qt, qks, qis, kv, iv, hje, rfl, hkv, hiv⟩ := hq.parts
  obtain ⟨la, lc, rfl⟩ := hkv.form
  obtain ⟨ma, mc, rfl⟩ := hiv.form
  have HQ := Lib.hid hq
  have K6 := Lib.hid (K5.out.trans k6)
  have L6 := Lib.hid (L5.out.trans k6)
  have Z5 := Lib.hid k6.size
  have B6 := Lib.hid (heap_alloc_new w6 (.cells #[.int .i64 qk, .int .i64 qn, .string (S qt), .slice la qks.length lc, .slice ma qis.length mc] 25))
  have KB := Lib.hid ((Keeps.refl w6).alloc (.cells #[.int .i64 qk, .int .i64 qn, .string (S qt), .slice la qks.length lc, .slice ma qis.length mc] 25))
  have hcx : (convert 42 9 (.slice (some ⟨w6.heap.size + 1, 0, none⟩) 1 1)).run Tryd.prog ((w6.alloc (.cells #[.int .i64 qk, .int .i64 qn, .string (S qt), .slice la qks.length lc, .slice ma qis.length mc] 25)).alloc (.cells #[.int .u8 9] 5)) = .ok (.string (S [9])) ((w6.alloc (.cells #[.int .i64 qk, .int .i64 qn, .string (S qt), .slice la qks.length lc, .slice ma qis.length mc] 25)).alloc (.cells #[.int .u8 9] 5)) := by
    have := hcv.out (w6.alloc (.cells #[.int .i64 qk, .int .i64 qn, .string (S qt), .slice la qks.length lc, .slice ma qis.length mc] 25))
    rw [World.size_alloc] at this
    exact this
  clear k6 hq hje hkv hiv
  go_wp2_with fail
  refine (cC.out _ (HU.out.keeps (((K3.out.trans K6.out).alloc _).alloc _))).mono ?_
  rintro e w7 hr
  obtain ⟨rk, rn, rt, oa, ol, oc, pa, pl, pc, rfl⟩ := hr.form
  rw [HC.out]
  have K7 : Hid (Keeps (w6.alloc (.cells #[.int .i64 qk, .int .i64 qn, .string (S qt), .slice la qks.length lc, .slice ma qis.length mc] 25)) w7) := Lib.hid (((Keeps.refl _).alloc _).trans hr.1)
  have hz6 := K6.out.size
  have hz7 := K7.out.size
  have hz3 := L6.out.size
  simp only [World.size_alloc] at hz7 hz3
  have b1 := ((L6.out.trans (KB.out.trans K7.out)).block w3.heap.size (by simp)).trans B3.out
  have b2 := (K7.out.block w6.heap.size (by simp)).trans B6.out
  obtain ⟨x0, x1, x2, x3, x4⟩ := (cells5 b1).1
  obtain ⟨y0, y1, y2, y3, y4⟩ := (cells5 b2).1
  have x0' := cell_al x0 (.cells #[.int .i64 rk, .int .i64 rn, .string rt, .slice oa ol oc, .slice pa pl pc] 25)
  have x1' := cell_al x1 (.cells #[.int .i64 rk, .int .i64 rn, .string rt, .slice oa ol oc, .slice pa pl pc] 25)
  have x2' := cell_al x2 (.cells #[.int .i64 rk, .int .i64 rn, .string rt, .slice oa ol oc, .slice pa pl pc] 25)
  have x3' := cell_al x3 (.cells #[.int .i64 rk, .int .i64 rn, .string rt, .slice oa ol oc, .slice pa pl pc] 25)
  have x4' := cell_al x4 (.cells #[.int .i64 rk, .int .i64 rn, .string rt, .slice oa ol oc, .slice pa pl pc] 25)
  have BB1 := Lib.hid b1
  have BB2 := Lib.hid b2
  have K8 := Lib.hid ((K6.out.trans (KB.out.trans K7.out)).alloc (.cells #[.int .i64 rk, .int .i64 rn, .string rt, .slice oa ol oc, .slice pa pl pc] 25))
  have M8 := Lib.hid ((KB.out.trans K7.out).alloc (.cells #[.int .i64 rk, .int .i64 rn, .string rt, .slice oa ol oc, .slice pa pl pc] 25))
  have N8 := Lib.hid ((Keeps.refl w7).alloc (.cells #[.int .i64 rk, .int .i64 rn, .string rt, .slice oa ol oc, .slice pa pl pc] 25))
  clear hr hcx b1 b2 x0 x1 x2 x3 x4 y0 y1 y2 y3 y4
  go_wp2_with fail
  refine (cK.out _ (fun i => i < w3.heap.size) _ ((IsJ.keeps (fun i hi => K8.out.block i (by omega)) _ _ HJ.out).mono (fun i hi => by omega)) (fun i hi => by simp; omega)).mono ?_
  rintro e w9 ⟨rfl, k9⟩
  have K9 := Lib.hid (K8.out.trans k9)
  have M9 := Lib.hid (M8.out.trans k9)
  have N9 := Lib.hid (N8.out.trans k9)
  have hz9 := N9.out.size
  obtain ⟨x0, x1, x2, x3, x4⟩ := (cells5 ((N9.out.block w3.heap.size (by omega)).trans BB1.out)).1
  obtain ⟨y0, y1, y2, y3, y4⟩ := (cells5 ((N9.out.block w6.heap.size (by omega)).trans BB2.out)).1
  clear k9 x0' x1' x2' x3' x4'
  go_wp2_with fail
  refine (cS.out _ _ (fun i => i < w6.heap.size) _ ((IsJ.keeps (fun i hi => K9.out.block i (by omega)) _ _ HJ.out).mono (fun i hi => by omega)) ((IsJ.keeps (fun i hi => M9.out.block i (by omega)) _ _ HQ.out).mono (fun i hi => by omega)) (fun i hi => by omega)).mono ?_
  rintro e w10 ⟨r, rfl, hr, k10⟩
  obtain rfl : r = true := hr.2 (by first | rfl | trivial)
  have K10 := Lib.hid ((K3.out.trans K9.out).trans k10)
  clear hr k10 x0 x1 x2 x3 x4 y0 y1 y2 y3 y4
  go_wp2
  go_ret
  exact ⟨rfl, K10.out⟩
set_option maxHeartbeats 8000000 in
set_option maxRecDepth 100000 in
theorem blk_ok10 (s : ByteArray) (A B : Option Addr) (ca cb : Nat) (za zb : List Int) (w : World) (j : J) (hu : Utf w) (h : s.size ≤ 1000 ∧ za.length ≤ 40 ∧ zb.length ≤ 40) (h1 : IntsAt w A za) (h2 : IntsAt w B zb) (hp : parseJ s.data.toList = (j, 0)) : Calls Tryd.prog 6 #[.string s, .slice A za.length ca, .slice B zb.length cb, .int .u8 10] w (Ret (.bool true) w) := by
  have HU := Lib.hid hu
  have cL := Lib.hid (lives_any w hu)
  have cP := Lib.hid (fun wx h1 => parse_any s wx h1 (by omega))
  rw [hp] at cP
  have cA : Hid (∀ wx, Keeps w wx → Calls Tryd.prog 25 #[.slice A za.length ca] wx (fun e w' => e = .returned (.string (S (blankL za))) ∧ Keeps wx w')) := Lib.hid (fun wx k => blanks_any A ca za wx (h1.keeps k) h.2.1)
  have cB : Hid (∀ wx, Keeps w wx → Calls Tryd.prog 25 #[.slice B zb.length cb] wx (fun e w' => e = .returned (.string (S (blankL zb))) ∧ Keeps wx w')) := Lib.hid (fun wx k => blanks_any B cb zb wx (h2.keeps k) h.2.2)
  have la : (blankL za).length = za.length := by simp [blankL]
  have lb : (blankL zb).length = zb.length := by simp [blankL]
  have hW : parseJ ((S (blankL za) ++ s) ++ S (blankL zb)).data.toList = (j, 0) := by
    rw [show ((S (blankL za) ++ s) ++ S (blankL zb)).data.toList = blankL za ++ (s.data.toList ++ blankL zb) by simp [S, ByteArray.data_append]]
    exact parse_wide hp (blankL_blank za) (blankL_blank zb)
  have cW := Lib.hid (fun wx h1 => parse_any ((S (blankL za) ++ s) ++ S (blankL zb)) wx h1 (by simp [S_size]; omega))
  rw [hW] at cW
  have hC : (parseJ ((s ++ ⟨#[32]⟩) ++ S [10]).data.toList).2 = 0 := by
    rw [show ((s ++ ⟨#[32]⟩) ++ S [10]).data.toList = s.data.toList ++ [32, 10] by simp [S, ByteArray.data_append]]
    exact congrArg Prod.snd (parse_blank hp (by decide))
  have q1 : (⟨#[32]⟩ : ByteArray).size = 1 := rfl
  have q2 : (S [10]).size = 1 := rfl
  have cC := Lib.hid (fun wx h1 => parse_any ((s ++ ⟨#[32]⟩) ++ S [10]) wx h1 (by simp [S_size, q1]; omega))
  have HC := Lib.hid hC
  obtain ⟨v1, v2, v3⟩ := parse_valid (by simp; omega) hp
  have cK := Lib.hid (fun (v : Value) (F : Nat → Prop) (wx : World) (hj : IsJ wx F j v) (hF : ∀ i, F i → i < wx.heap.size) => check_any j v F wx hj hF v2 (by omega))
  rw [v1] at cK
  have cS := Lib.hid (fun (va vb : Value) (F : Nat → Prop) (wx : World) (ha : IsJ wx F j va) (hb : IsJ wx F j vb) (hF : ∀ i, F i → i < wx.heap.size) => same_any j j va vb F wx ha hb hF v2 v2 (by omega))
  have hsz : (S (blankL za)).size ≤ 40 ∧ (S (blankL zb)).size ≤ 40 := by rw [S_size, S_size]; omega
  have hcv := Lib.hid (fun wx : World => run_convert_bytes_back (P := Tryd.prog) (wx.alloc (.cells #[.int .u8 10] 5)) 42 9 5 ⟨wx.heap.size, 0, none⟩ 1 [10] Tryd.underlying42 Tryd.underlying5 Tryd.underlying9 (fun q hq => by
    match q, hq with
    | 0, _ => simp [Addr.add]))
  have f1 : decide ((1000 : Int) < (s.size : Int)) = false := by simp; omega
  have f2 : decide ((40 : Int) < (za.length : Int)) = false := by simp; omega
  have f3 : decide ((40 : Int) < (zb.length : Int)) = false := by simp; omega
  have hs := h.1
  generalize S (blankL za) = sa at *
  generalize S (blankL zb) = sb at *
  generalize za.length = na at *
  generalize zb.length = nb at *
  have HV3 := Lib.hid v3
  clear h hu hp h1 h2 la lb hW hC v1 v2 v3
  obtain ⟨hsa, hsb⟩ := hsz
  go_enter Tryd.func6, Tryd.ntmps6
  go_wp2_with fail
  refine cL.out.mono ?_
  rintro e w2 ⟨rfl, k2⟩
  have K2 := Lib.hid k2
  clear k2
  go_wp2_with fail
  refine (cP.out _ (HU.out.keeps K2.out)).mono ?_
  rintro e w3 ⟨k3, hg, -⟩
  obtain ⟨v, rfl, hj⟩ := hg rfl
  clear hg
  obtain ⟨jk, jn, jt, jks, jis, kv, iv, hje, rfl, hkv, hiv⟩ := hj.parts
  obtain ⟨ka, kc, rfl⟩ := hkv.form
  obtain ⟨ia, ic, rfl⟩ := hiv.form
  have HJ := Lib.hid hj
  have K3 := Lib.hid (K2.out.trans k3)
  have B3 := Lib.hid (heap_alloc_new w3 (.cells #[.int .i64 jk, .int .i64 jn, .string (S jt), .slice ka jks.length kc, .slice ia jis.length ic] 25))
  have KA := Lib.hid ((Keeps.refl w3).alloc (.cells #[.int .i64 jk, .int .i64 jn, .string (S jt), .slice ka jks.length kc, .slice ia jis.length ic] 25))
  clear k3 hj hje hkv hiv
  go_wp2_with fail
  refine (cA.out _ (K3.out.alloc _)).mono ?_
  rintro e w4 ⟨rfl, k4⟩
  have K4 := Lib.hid (KA.out.trans k4)
  have L4 := Lib.hid k4
  clear k4
  go_wp2_with fail
  refine (cB.out _ (K3.out.trans K4.out)).mono ?_
  rintro e w5 ⟨rfl, k5⟩
  have K5 := Lib.hid (K4.out.trans k5)
  have L5 := Lib.hid (L4.out.trans k5)
  clear k5
  go_wp2_with fail
  refine (cW.out _ (HU.out.keeps (K3.out.trans K5.out))).mono ?_
  rintro e w6 ⟨k6, hg, -⟩
  obtain ⟨v, rfl, hq⟩ := hg rfl
  clear hg
  obtain ⟨qk, qn, qt, qks, qis, kv, iv, hje, rfl, hkv, hiv⟩ := hq.parts
  obtain ⟨la, lc, rfl⟩ := hkv.form
  obtain ⟨ma, mc, rfl⟩ := hiv.form
  have HQ := Lib.hid hq
  have K6 := Lib.hid (K5.out.trans k6)
  have L6 := Lib.hid (L5.out.trans k6)
  have Z5 := Lib.hid k6.size
  have B6 := Lib.hid (heap_alloc_new w6 (.cells #[.int .i64 qk, .int .i64 qn, .string (S qt), .slice la qks.length lc, .slice ma qis.length mc] 25))
  have KB := Lib.hid ((Keeps.refl w6).alloc (.cells #[.int .i64 qk, .int .i64 qn, .string (S qt), .slice la qks.length lc, .slice ma qis.length mc] 25))
  have hcx : (convert 42 9 (.slice (some ⟨w6.heap.size + 1, 0, none⟩) 1 1)).run Tryd.prog ((w6.alloc (.cells #[.int .i64 qk, .int .i64 qn, .string (S qt), .slice la qks.length lc, .slice ma qis.length mc] 25)).alloc (.cells #[.int .u8 10] 5)) = .ok (.string (S [10])) ((w6.alloc (.cells #[.int .i64 qk, .int .i64 qn, .string (S qt), .slice la qks.length lc, .slice ma qis.length mc] 25)).alloc (.cells #[.int .u8 10] 5)) := by
    have := hcv.out (w6.alloc (.cells #[.int .i64 qk, .int .i64 qn, .string (S qt), .slice la qks.length lc, .slice ma qis.length mc] 25))
    rw [World.size_alloc] at this
    exact this
  clear k6 hq hje hkv hiv
  go_wp2_with fail
  refine (cC.out _ (HU.out.keeps (((K3.out.trans K6.out).alloc _).alloc _))).mono ?_
  rintro e w7 hr
  obtain ⟨rk, rn, rt, oa, ol, oc, pa, pl, pc, rfl⟩ := hr.form
  rw [HC.out]
  have K7 : Hid (Keeps (w6.alloc (.cells #[.int .i64 qk, .int .i64 qn, .string (S qt), .slice la qks.length lc, .slice ma qis.length mc] 25)) w7) := Lib.hid (((Keeps.refl _).alloc _).trans hr.1)
  have hz6 := K6.out.size
  have hz7 := K7.out.size
  have hz3 := L6.out.size
  simp only [World.size_alloc] at hz7 hz3
  have b1 := ((L6.out.trans (KB.out.trans K7.out)).block w3.heap.size (by simp)).trans B3.out
  have b2 := (K7.out.block w6.heap.size (by simp)).trans B6.out
  obtain ⟨x0, x1, x2, x3, x4⟩ := (cells5 b1).1
  obtain ⟨y0, y1, y2, y3, y4⟩ := (cells5 b2).1
  have x0' := cell_al x0 (.cells #[.int .i64 rk, .int .i64 rn, .string rt, .slice oa ol oc, .slice pa pl pc] 25)
  have x1' := cell_al x1 (.cells #[.int .i64 rk, .int .i64 rn, .string rt, .slice oa ol oc, .slice pa pl pc] 25)
  have x2' := cell_al x2 (.cells #[.int .i64 rk, .int .i64 rn, .string rt, .slice oa ol oc, .slice pa pl pc] 25)
  have x3' := cell_al x3 (.cells #[.int .i64 rk, .int .i64 rn, .string rt, .slice oa ol oc, .slice pa pl pc] 25)
  have x4' := cell_al x4 (.cells #[.int .i64 rk, .int .i64 rn, .string rt, .slice oa ol oc, .slice pa pl pc] 25)
  have BB1 := Lib.hid b1
  have BB2 := Lib.hid b2
  have K8 := Lib.hid ((K6.out.trans (KB.out.trans K7.out)).alloc (.cells #[.int .i64 rk, .int .i64 rn, .string rt, .slice oa ol oc, .slice pa pl pc] 25))
  have M8 := Lib.hid ((KB.out.trans K7.out).alloc (.cells #[.int .i64 rk, .int .i64 rn, .string rt, .slice oa ol oc, .slice pa pl pc] 25))
  have N8 := Lib.hid ((Keeps.refl w7).alloc (.cells #[.int .i64 rk, .int .i64 rn, .string rt, .slice oa ol oc, .slice pa pl pc] 25))
  clear hr hcx b1 b2 x0 x1 x2 x3 x4 y0 y1 y2 y3 y4
  go_wp2_with fail
  refine (cK.out _ (fun i => i < w3.heap.size) _ ((IsJ.keeps (fun i hi => K8.out.block i (by omega)) _ _ HJ.out).mono (fun i hi => by omega)) (fun i hi => by simp; omega)).mono ?_
  rintro e w9 ⟨rfl, k9⟩
  have K9 := Lib.hid (K8.out.trans k9)
  have M9 := Lib.hid (M8.out.trans k9)
  have N9 := Lib.hid (N8.out.trans k9)
  have hz9 := N9.out.size
  obtain ⟨x0, x1, x2, x3, x4⟩ := (cells5 ((N9.out.block w3.heap.size (by omega)).trans BB1.out)).1
  obtain ⟨y0, y1, y2, y3, y4⟩ := (cells5 ((N9.out.block w6.heap.size (by omega)).trans BB2.out)).1
  clear k9 x0' x1' x2' x3' x4'
  go_wp2_with fail
  refine (cS.out _ _ (fun i => i < w6.heap.size) _ ((IsJ.keeps (fun i hi => K9.out.block i (by omega)) _ _ HJ.out).mono (fun i hi => by omega)) ((IsJ.keeps (fun i hi => M9.out.block i (by omega)) _ _ HQ.out).mono (fun i hi => by omega)) (fun i hi => by omega)).mono ?_
  rintro e w10 ⟨r, rfl, hr, k10⟩
  obtain rfl : r = true := hr.2 (by first | rfl | trivial)
  have K10 := Lib.hid ((K3.out.trans K9.out).trans k10)
  clear hr k10 x0 x1 x2 x3 x4 y0 y1 y2 y3 y4
  go_wp2
  go_ret
  exact ⟨rfl, K10.out⟩
set_option maxHeartbeats 8000000 in
set_option maxRecDepth 100000 in
theorem blk_ok13 (s : ByteArray) (A B : Option Addr) (ca cb : Nat) (za zb : List Int) (w : World) (j : J) (hu : Utf w) (h : s.size ≤ 1000 ∧ za.length ≤ 40 ∧ zb.length ≤ 40) (h1 : IntsAt w A za) (h2 : IntsAt w B zb) (hp : parseJ s.data.toList = (j, 0)) : Calls Tryd.prog 6 #[.string s, .slice A za.length ca, .slice B zb.length cb, .int .u8 13] w (Ret (.bool true) w) := by
  have HU := Lib.hid hu
  have cL := Lib.hid (lives_any w hu)
  have cP := Lib.hid (fun wx h1 => parse_any s wx h1 (by omega))
  rw [hp] at cP
  have cA : Hid (∀ wx, Keeps w wx → Calls Tryd.prog 25 #[.slice A za.length ca] wx (fun e w' => e = .returned (.string (S (blankL za))) ∧ Keeps wx w')) := Lib.hid (fun wx k => blanks_any A ca za wx (h1.keeps k) h.2.1)
  have cB : Hid (∀ wx, Keeps w wx → Calls Tryd.prog 25 #[.slice B zb.length cb] wx (fun e w' => e = .returned (.string (S (blankL zb))) ∧ Keeps wx w')) := Lib.hid (fun wx k => blanks_any B cb zb wx (h2.keeps k) h.2.2)
  have la : (blankL za).length = za.length := by simp [blankL]
  have lb : (blankL zb).length = zb.length := by simp [blankL]
  have hW : parseJ ((S (blankL za) ++ s) ++ S (blankL zb)).data.toList = (j, 0) := by
    rw [show ((S (blankL za) ++ s) ++ S (blankL zb)).data.toList = blankL za ++ (s.data.toList ++ blankL zb) by simp [S, ByteArray.data_append]]
    exact parse_wide hp (blankL_blank za) (blankL_blank zb)
  have cW := Lib.hid (fun wx h1 => parse_any ((S (blankL za) ++ s) ++ S (blankL zb)) wx h1 (by simp [S_size]; omega))
  rw [hW] at cW
  have hC : (parseJ ((s ++ ⟨#[32]⟩) ++ S [13]).data.toList).2 = 0 := by
    rw [show ((s ++ ⟨#[32]⟩) ++ S [13]).data.toList = s.data.toList ++ [32, 13] by simp [S, ByteArray.data_append]]
    exact congrArg Prod.snd (parse_blank hp (by decide))
  have q1 : (⟨#[32]⟩ : ByteArray).size = 1 := rfl
  have q2 : (S [13]).size = 1 := rfl
  have cC := Lib.hid (fun wx h1 => parse_any ((s ++ ⟨#[32]⟩) ++ S [13]) wx h1 (by simp [S_size, q1]; omega))
  have HC := Lib.hid hC
  obtain ⟨v1, v2, v3⟩ := parse_valid (by simp; omega) hp
  have cK := Lib.hid (fun (v : Value) (F : Nat → Prop) (wx : World) (hj : IsJ wx F j v) (hF : ∀ i, F i → i < wx.heap.size) => check_any j v F wx hj hF v2 (by omega))
  rw [v1] at cK
  have cS := Lib.hid (fun (va vb : Value) (F : Nat → Prop) (wx : World) (ha : IsJ wx F j va) (hb : IsJ wx F j vb) (hF : ∀ i, F i → i < wx.heap.size) => same_any j j va vb F wx ha hb hF v2 v2 (by omega))
  have hsz : (S (blankL za)).size ≤ 40 ∧ (S (blankL zb)).size ≤ 40 := by rw [S_size, S_size]; omega
  have hcv := Lib.hid (fun wx : World => run_convert_bytes_back (P := Tryd.prog) (wx.alloc (.cells #[.int .u8 13] 5)) 42 9 5 ⟨wx.heap.size, 0, none⟩ 1 [13] Tryd.underlying42 Tryd.underlying5 Tryd.underlying9 (fun q hq => by
    match q, hq with
    | 0, _ => simp [Addr.add]))
  have f1 : decide ((1000 : Int) < (s.size : Int)) = false := by simp; omega
  have f2 : decide ((40 : Int) < (za.length : Int)) = false := by simp; omega
  have f3 : decide ((40 : Int) < (zb.length : Int)) = false := by simp; omega
  have hs := h.1
  generalize S (blankL za) = sa at *
  generalize S (blankL zb) = sb at *
  generalize za.length = na at *
  generalize zb.length = nb at *
  have HV3 := Lib.hid v3
  clear h hu hp h1 h2 la lb hW hC v1 v2 v3
  obtain ⟨hsa, hsb⟩ := hsz
  go_enter Tryd.func6, Tryd.ntmps6
  go_wp2_with fail
  refine cL.out.mono ?_
  rintro e w2 ⟨rfl, k2⟩
  have K2 := Lib.hid k2
  clear k2
  go_wp2_with fail
  refine (cP.out _ (HU.out.keeps K2.out)).mono ?_
  rintro e w3 ⟨k3, hg, -⟩
  obtain ⟨v, rfl, hj⟩ := hg rfl
  clear hg
  obtain ⟨jk, jn, jt, jks, jis, kv, iv, hje, rfl, hkv, hiv⟩ := hj.parts
  obtain ⟨ka, kc, rfl⟩ := hkv.form
  obtain ⟨ia, ic, rfl⟩ := hiv.form
  have HJ := Lib.hid hj
  have K3 := Lib.hid (K2.out.trans k3)
  have B3 := Lib.hid (heap_alloc_new w3 (.cells #[.int .i64 jk, .int .i64 jn, .string (S jt), .slice ka jks.length kc, .slice ia jis.length ic] 25))
  have KA := Lib.hid ((Keeps.refl w3).alloc (.cells #[.int .i64 jk, .int .i64 jn, .string (S jt), .slice ka jks.length kc, .slice ia jis.length ic] 25))
  clear k3 hj hje hkv hiv
  go_wp2_with fail
  refine (cA.out _ (K3.out.alloc _)).mono ?_
  rintro e w4 ⟨rfl, k4⟩
  have K4 := Lib.hid (KA.out.trans k4)
  have L4 := Lib.hid k4
  clear k4
  go_wp2_with fail
  refine (cB.out _ (K3.out.trans K4.out)).mono ?_
  rintro e w5 ⟨rfl, k5⟩
  have K5 := Lib.hid (K4.out.trans k5)
  have L5 := Lib.hid (L4.out.trans k5)
  clear k5
  go_wp2_with fail
  refine (cW.out _ (HU.out.keeps (K3.out.trans K5.out))).mono ?_
  rintro e w6 ⟨k6, hg, -⟩
  obtain ⟨v, rfl, hq⟩ := hg rfl
  clear hg
  obtain ⟨qk, qn, qt, qks, qis, kv, iv, hje, rfl, hkv, hiv⟩ := hq.parts
  obtain ⟨la, lc, rfl⟩ := hkv.form
  obtain ⟨ma, mc, rfl⟩ := hiv.form
  have HQ := Lib.hid hq
  have K6 := Lib.hid (K5.out.trans k6)
  have L6 := Lib.hid (L5.out.trans k6)
  have Z5 := Lib.hid k6.size
  have B6 := Lib.hid (heap_alloc_new w6 (.cells #[.int .i64 qk, .int .i64 qn, .string (S qt), .slice la qks.length lc, .slice ma qis.length mc] 25))
  have KB := Lib.hid ((Keeps.refl w6).alloc (.cells #[.int .i64 qk, .int .i64 qn, .string (S qt), .slice la qks.length lc, .slice ma qis.length mc] 25))
  have hcx : (convert 42 9 (.slice (some ⟨w6.heap.size + 1, 0, none⟩) 1 1)).run Tryd.prog ((w6.alloc (.cells #[.int .i64 qk, .int .i64 qn, .string (S qt), .slice la qks.length lc, .slice ma qis.length mc] 25)).alloc (.cells #[.int .u8 13] 5)) = .ok (.string (S [13])) ((w6.alloc (.cells #[.int .i64 qk, .int .i64 qn, .string (S qt), .slice la qks.length lc, .slice ma qis.length mc] 25)).alloc (.cells #[.int .u8 13] 5)) := by
    have := hcv.out (w6.alloc (.cells #[.int .i64 qk, .int .i64 qn, .string (S qt), .slice la qks.length lc, .slice ma qis.length mc] 25))
    rw [World.size_alloc] at this
    exact this
  clear k6 hq hje hkv hiv
  go_wp2_with fail
  refine (cC.out _ (HU.out.keeps (((K3.out.trans K6.out).alloc _).alloc _))).mono ?_
  rintro e w7 hr
  obtain ⟨rk, rn, rt, oa, ol, oc, pa, pl, pc, rfl⟩ := hr.form
  rw [HC.out]
  have K7 : Hid (Keeps (w6.alloc (.cells #[.int .i64 qk, .int .i64 qn, .string (S qt), .slice la qks.length lc, .slice ma qis.length mc] 25)) w7) := Lib.hid (((Keeps.refl _).alloc _).trans hr.1)
  have hz6 := K6.out.size
  have hz7 := K7.out.size
  have hz3 := L6.out.size
  simp only [World.size_alloc] at hz7 hz3
  have b1 := ((L6.out.trans (KB.out.trans K7.out)).block w3.heap.size (by simp)).trans B3.out
  have b2 := (K7.out.block w6.heap.size (by simp)).trans B6.out
  obtain ⟨x0, x1, x2, x3, x4⟩ := (cells5 b1).1
  obtain ⟨y0, y1, y2, y3, y4⟩ := (cells5 b2).1
  have x0' := cell_al x0 (.cells #[.int .i64 rk, .int .i64 rn, .string rt, .slice oa ol oc, .slice pa pl pc] 25)
  have x1' := cell_al x1 (.cells #[.int .i64 rk, .int .i64 rn, .string rt, .slice oa ol oc, .slice pa pl pc] 25)
  have x2' := cell_al x2 (.cells #[.int .i64 rk, .int .i64 rn, .string rt, .slice oa ol oc, .slice pa pl pc] 25)
  have x3' := cell_al x3 (.cells #[.int .i64 rk, .int .i64 rn, .string rt, .slice oa ol oc, .slice pa pl pc] 25)
  have x4' := cell_al x4 (.cells #[.int .i64 rk, .int .i64 rn, .string rt, .slice oa ol oc, .slice pa pl pc] 25)
  have BB1 := Lib.hid b1
  have BB2 := Lib.hid b2
  have K8 := Lib.hid ((K6.out.trans (KB.out.trans K7.out)).alloc (.cells #[.int .i64 rk, .int .i64 rn, .string rt, .slice oa ol oc, .slice pa pl pc] 25))
  have M8 := Lib.hid ((KB.out.trans K7.out).alloc (.cells #[.int .i64 rk, .int .i64 rn, .string rt, .slice oa ol oc, .slice pa pl pc] 25))
  have N8 := Lib.hid ((Keeps.refl w7).alloc (.cells #[.int .i64 rk, .int .i64 rn, .string rt, .slice oa ol oc, .slice pa pl pc] 25))
  clear hr hcx b1 b2 x0 x1 x2 x3 x4 y0 y1 y2 y3 y4
  go_wp2_with fail
  refine (cK.out _ (fun i => i < w3.heap.size) _ ((IsJ.keeps (fun i hi => K8.out.block i (by omega)) _ _ HJ.out).mono (fun i hi => by omega)) (fun i hi => by simp; omega)).mono ?_
  rintro e w9 ⟨rfl, k9⟩
  have K9 := Lib.hid (K8.out.trans k9)
  have M9 := Lib.hid (M8.out.trans k9)
  have N9 := Lib.hid (N8.out.trans k9)
  have hz9 := N9.out.size
  obtain ⟨x0, x1, x2, x3, x4⟩ := (cells5 ((N9.out.block w3.heap.size (by omega)).trans BB1.out)).1
  obtain ⟨y0, y1, y2, y3, y4⟩ := (cells5 ((N9.out.block w6.heap.size (by omega)).trans BB2.out)).1
  clear k9 x0' x1' x2' x3' x4'
  go_wp2_with fail
  refine (cS.out _ _ (fun i => i < w6.heap.size) _ ((IsJ.keeps (fun i hi => K9.out.block i (by omega)) _ _ HJ.out).mono (fun i hi => by omega)) ((IsJ.keeps (fun i hi => M9.out.block i (by omega)) _ _ HQ.out).mono (fun i hi => by omega)) (fun i hi => by omega)).mono ?_
  rintro e w10 ⟨r, rfl, hr, k10⟩
  obtain rfl : r = true := hr.2 (by first | rfl | trivial)
  have K10 := Lib.hid ((K3.out.trans K9.out).trans k10)
  clear hr k10 x0 x1 x2 x3 x4 y0 y1 y2 y3 y4
  go_wp2
  go_ret
  exact ⟨rfl, K10.out⟩
set_option maxHeartbeats 8000000 in
set_option maxRecDepth 100000 in
theorem blk_ok32 (s : ByteArray) (A B : Option Addr) (ca cb : Nat) (za zb : List Int) (w : World) (j : J) (hu : Utf w) (h : s.size ≤ 1000 ∧ za.length ≤ 40 ∧ zb.length ≤ 40) (h1 : IntsAt w A za) (h2 : IntsAt w B zb) (hp : parseJ s.data.toList = (j, 0)) : Calls Tryd.prog 6 #[.string s, .slice A za.length ca, .slice B zb.length cb, .int .u8 32] w (Ret (.bool true) w) := by
  have HU := Lib.hid hu
  have cL := Lib.hid (lives_any w hu)
  have cP := Lib.hid (fun wx h1 => parse_any s wx h1 (by omega))
  rw [hp] at cP
  have cA : Hid (∀ wx, Keeps w wx → Calls Tryd.prog 25 #[.slice A za.length ca] wx (fun e w' => e = .returned (.string (S (blankL za))) ∧ Keeps wx w')) := Lib.hid (fun wx k => blanks_any A ca za wx (h1.keeps k) h.2.1)
  have cB : Hid (∀ wx, Keeps w wx → Calls Tryd.prog 25 #[.slice B zb.length cb] wx (fun e w' => e = .returned (.string (S (blankL zb))) ∧ Keeps wx w')) := Lib.hid (fun wx k => blanks_any B cb zb wx (h2.keeps k) h.2.2)
  have la : (blankL za).length = za.length := by simp [blankL]
  have lb : (blankL zb).length = zb.length := by simp [blankL]
  have hW : parseJ ((S (blankL za) ++ s) ++ S (blankL zb)).data.toList = (j, 0) := by
    rw [show ((S (blankL za) ++ s) ++ S (blankL zb)).data.toList = blankL za ++ (s.data.toList ++ blankL zb) by simp [S, ByteArray.data_append]]
    exact parse_wide hp (blankL_blank za) (blankL_blank zb)
  have cW := Lib.hid (fun wx h1 => parse_any ((S (blankL za) ++ s) ++ S (blankL zb)) wx h1 (by simp [S_size]; omega))
  rw [hW] at cW
  have hC : (parseJ ((s ++ ⟨#[32]⟩) ++ S [32]).data.toList).2 = 0 := by
    rw [show ((s ++ ⟨#[32]⟩) ++ S [32]).data.toList = s.data.toList ++ [32, 32] by simp [S, ByteArray.data_append]]
    exact congrArg Prod.snd (parse_blank hp (by decide))
  have q1 : (⟨#[32]⟩ : ByteArray).size = 1 := rfl
  have q2 : (S [32]).size = 1 := rfl
  have cC := Lib.hid (fun wx h1 => parse_any ((s ++ ⟨#[32]⟩) ++ S [32]) wx h1 (by simp [S_size, q1]; omega))
  have HC := Lib.hid hC
  obtain ⟨v1, v2, v3⟩ := parse_valid (by simp; omega) hp
  have cK := Lib.hid (fun (v : Value) (F : Nat → Prop) (wx : World) (hj : IsJ wx F j v) (hF : ∀ i, F i → i < wx.heap.size) => check_any j v F wx hj hF v2 (by omega))
  rw [v1] at cK
  have cS := Lib.hid (fun (va vb : Value) (F : Nat → Prop) (wx : World) (ha : IsJ wx F j va) (hb : IsJ wx F j vb) (hF : ∀ i, F i → i < wx.heap.size) => same_any j j va vb F wx ha hb hF v2 v2 (by omega))
  have hsz : (S (blankL za)).size ≤ 40 ∧ (S (blankL zb)).size ≤ 40 := by rw [S_size, S_size]; omega
  have hcv := Lib.hid (fun wx : World => run_convert_bytes_back (P := Tryd.prog) (wx.alloc (.cells #[.int .u8 32] 5)) 42 9 5 ⟨wx.heap.size, 0, none⟩ 1 [32] Tryd.underlying42 Tryd.underlying5 Tryd.underlying9 (fun q hq => by
    match q, hq with
    | 0, _ => simp [Addr.add]))
  have f1 : decide ((1000 : Int) < (s.size : Int)) = false := by simp; omega
  have f2 : decide ((40 : Int) < (za.length : Int)) = false := by simp; omega
  have f3 : decide ((40 : Int) < (zb.length : Int)) = false := by simp; omega
  have hs := h.1
  generalize S (blankL za) = sa at *
  generalize S (blankL zb) = sb at *
  generalize za.length = na at *
  generalize zb.length = nb at *
  have HV3 := Lib.hid v3
  clear h hu hp h1 h2 la lb hW hC v1 v2 v3
  obtain ⟨hsa, hsb⟩ := hsz
  go_enter Tryd.func6, Tryd.ntmps6
  go_wp2_with fail
  refine cL.out.mono ?_
  rintro e w2 ⟨rfl, k2⟩
  have K2 := Lib.hid k2
  clear k2
  go_wp2_with fail
  refine (cP.out _ (HU.out.keeps K2.out)).mono ?_
  rintro e w3 ⟨k3, hg, -⟩
  obtain ⟨v, rfl, hj⟩ := hg rfl
  clear hg
  obtain ⟨jk, jn, jt, jks, jis, kv, iv, hje, rfl, hkv, hiv⟩ := hj.parts
  obtain ⟨ka, kc, rfl⟩ := hkv.form
  obtain ⟨ia, ic, rfl⟩ := hiv.form
  have HJ := Lib.hid hj
  have K3 := Lib.hid (K2.out.trans k3)
  have B3 := Lib.hid (heap_alloc_new w3 (.cells #[.int .i64 jk, .int .i64 jn, .string (S jt), .slice ka jks.length kc, .slice ia jis.length ic] 25))
  have KA := Lib.hid ((Keeps.refl w3).alloc (.cells #[.int .i64 jk, .int .i64 jn, .string (S jt), .slice ka jks.length kc, .slice ia jis.length ic] 25))
  clear k3 hj hje hkv hiv
  go_wp2_with fail
  refine (cA.out _ (K3.out.alloc _)).mono ?_
  rintro e w4 ⟨rfl, k4⟩
  have K4 := Lib.hid (KA.out.trans k4)
  have L4 := Lib.hid k4
  clear k4
  go_wp2_with fail
  refine (cB.out _ (K3.out.trans K4.out)).mono ?_
  rintro e w5 ⟨rfl, k5⟩
  have K5 := Lib.hid (K4.out.trans k5)
  have L5 := Lib.hid (L4.out.trans k5)
  clear k5
  go_wp2_with fail
  refine (cW.out _ (HU.out.keeps (K3.out.trans K5.out))).mono ?_
  rintro e w6 ⟨k6, hg, -⟩
  obtain ⟨v, rfl, hq⟩ := hg rfl
  clear hg
  obtain ⟨qk, qn, qt, qks, qis, kv, iv, hje, rfl, hkv, hiv⟩ := hq.parts
  obtain ⟨la, lc, rfl⟩ := hkv.form
  obtain ⟨ma, mc, rfl⟩ := hiv.form
  have HQ := Lib.hid hq
  have K6 := Lib.hid (K5.out.trans k6)
  have L6 := Lib.hid (L5.out.trans k6)
  have Z5 := Lib.hid k6.size
  have B6 := Lib.hid (heap_alloc_new w6 (.cells #[.int .i64 qk, .int .i64 qn, .string (S qt), .slice la qks.length lc, .slice ma qis.length mc] 25))
  have KB := Lib.hid ((Keeps.refl w6).alloc (.cells #[.int .i64 qk, .int .i64 qn, .string (S qt), .slice la qks.length lc, .slice ma qis.length mc] 25))
  have hcx : (convert 42 9 (.slice (some ⟨w6.heap.size + 1, 0, none⟩) 1 1)).run Tryd.prog ((w6.alloc (.cells #[.int .i64 qk, .int .i64 qn, .string (S qt), .slice la qks.length lc, .slice ma qis.length mc] 25)).alloc (.cells #[.int .u8 32] 5)) = .ok (.string (S [32])) ((w6.alloc (.cells #[.int .i64 qk, .int .i64 qn, .string (S qt), .slice la qks.length lc, .slice ma qis.length mc] 25)).alloc (.cells #[.int .u8 32] 5)) := by
    have := hcv.out (w6.alloc (.cells #[.int .i64 qk, .int .i64 qn, .string (S qt), .slice la qks.length lc, .slice ma qis.length mc] 25))
    rw [World.size_alloc] at this
    exact this
  clear k6 hq hje hkv hiv
  go_wp2_with fail
  refine (cC.out _ (HU.out.keeps (((K3.out.trans K6.out).alloc _).alloc _))).mono ?_
  rintro e w7 hr
  obtain ⟨rk, rn, rt, oa, ol, oc, pa, pl, pc, rfl⟩ := hr.form
  rw [HC.out]
  have K7 : Hid (Keeps (w6.alloc (.cells #[.int .i64 qk, .int .i64 qn, .string (S qt), .slice la qks.length lc, .slice ma qis.length mc] 25)) w7) := Lib.hid (((Keeps.refl _).alloc _).trans hr.1)
  have hz6 := K6.out.size
  have hz7 := K7.out.size
  have hz3 := L6.out.size
  simp only [World.size_alloc] at hz7 hz3
  have b1 := ((L6.out.trans (KB.out.trans K7.out)).block w3.heap.size (by simp)).trans B3.out
  have b2 := (K7.out.block w6.heap.size (by simp)).trans B6.out
  obtain ⟨x0, x1, x2, x3, x4⟩ := (cells5 b1).1
  obtain ⟨y0, y1, y2, y3, y4⟩ := (cells5 b2).1
  have x0' := cell_al x0 (.cells #[.int .i64 rk, .int .i64 rn, .string rt, .slice oa ol oc, .slice pa pl pc] 25)
  have x1' := cell_al x1 (.cells #[.int .i64 rk, .int .i64 rn, .string rt, .slice oa ol oc, .slice pa pl pc] 25)
  have x2' := cell_al x2 (.cells #[.int .i64 rk, .int .i64 rn, .string rt, .slice oa ol oc, .slice pa pl pc] 25)
  have x3' := cell_al x3 (.cells #[.int .i64 rk, .int .i64 rn, .string rt, .slice oa ol oc, .slice pa pl pc] 25)
  have x4' := cell_al x4 (.cells #[.int .i64 rk, .int .i64 rn, .string rt, .slice oa ol oc, .slice pa pl pc] 25)
  have BB1 := Lib.hid b1
  have BB2 := Lib.hid b2
  have K8 := Lib.hid ((K6.out.trans (KB.out.trans K7.out)).alloc (.cells #[.int .i64 rk, .int .i64 rn, .string rt, .slice oa ol oc, .slice pa pl pc] 25))
  have M8 := Lib.hid ((KB.out.trans K7.out).alloc (.cells #[.int .i64 rk, .int .i64 rn, .string rt, .slice oa ol oc, .slice pa pl pc] 25))
  have N8 := Lib.hid ((Keeps.refl w7).alloc (.cells #[.int .i64 rk, .int .i64 rn, .string rt, .slice oa ol oc, .slice pa pl pc] 25))
  clear hr hcx b1 b2 x0 x1 x2 x3 x4 y0 y1 y2 y3 y4
  go_wp2_with fail
  refine (cK.out _ (fun i => i < w3.heap.size) _ ((IsJ.keeps (fun i hi => K8.out.block i (by omega)) _ _ HJ.out).mono (fun i hi => by omega)) (fun i hi => by simp; omega)).mono ?_
  rintro e w9 ⟨rfl, k9⟩
  have K9 := Lib.hid (K8.out.trans k9)
  have M9 := Lib.hid (M8.out.trans k9)
  have N9 := Lib.hid (N8.out.trans k9)
  have hz9 := N9.out.size
  obtain ⟨x0, x1, x2, x3, x4⟩ := (cells5 ((N9.out.block w3.heap.size (by omega)).trans BB1.out)).1
  obtain ⟨y0, y1, y2, y3, y4⟩ := (cells5 ((N9.out.block w6.heap.size (by omega)).trans BB2.out)).1
  clear k9 x0' x1' x2' x3' x4'
  go_wp2_with fail
  refine (cS.out _ _ (fun i => i < w6.heap.size) _ ((IsJ.keeps (fun i hi => K9.out.block i (by omega)) _ _ HJ.out).mono (fun i hi => by omega)) ((IsJ.keeps (fun i hi => M9.out.block i (by omega)) _ _ HQ.out).mono (fun i hi => by omega)) (fun i hi => by omega)).mono ?_
  rintro e w10 ⟨r, rfl, hr, k10⟩
  obtain rfl : r = true := hr.2 (by first | rfl | trivial)
  have K10 := Lib.hid ((K3.out.trans K9.out).trans k10)
  clear hr k10 x0 x1 x2 x3 x4 y0 y1 y2 y3 y4
  go_wp2
  go_ret
  exact ⟨rfl, K10.out⟩
set_option maxHeartbeats 8000000 in
set_option maxRecDepth 100000 in
theorem blk_no (s : ByteArray) (A B : Option Addr) (ca cb : Nat) (za zb : List Int) (c : UInt8) (w : World) (j : J) (hu : Utf w) (h : s.size ≤ 1000 ∧ za.length ≤ 40 ∧ zb.length ≤ 40) (h1 : IntsAt w A za) (h2 : IntsAt w B zb) (hp : parseJ s.data.toList = (j, 0)) (hcn : blankB c = false) : Calls Tryd.prog 6 #[.string s, .slice A za.length ca, .slice B zb.length cb, .int .u8 (c.toNat : Int)] w (Ret (.bool true) w) := by
  have HU := Lib.hid hu
  have cL := Lib.hid (lives_any w hu)
  have cP := Lib.hid (fun wx h1 => parse_any s wx h1 (by omega))
  rw [hp] at cP
  have cA : Hid (∀ wx, Keeps w wx → Calls Tryd.prog 25 #[.slice A za.length ca] wx (fun e w' => e = .returned (.string (S (blankL za))) ∧ Keeps wx w')) := Lib.hid (fun wx k => blanks_any A ca za wx (h1.keeps k) h.2.1)
  have cB : Hid (∀ wx, Keeps w wx → Calls Tryd.prog 25 #[.slice B zb.length cb] wx (fun e w' => e = .returned (.string (S (blankL zb))) ∧ Keeps wx w')) := Lib.hid (fun wx k => blanks_any B cb zb wx (h2.keeps k) h.2.2)
  have la : (blankL za).length = za.length := by simp [blankL]
  have lb : (blankL zb).length = zb.length := by simp [blankL]
  have hW : parseJ ((S (blankL za) ++ s) ++ S (blankL zb)).data.toList = (j, 0) := by
    rw [show ((S (blankL za) ++ s) ++ S (blankL zb)).data.toList = blankL za ++ (s.data.toList ++ blankL zb) by simp [S, ByteArray.data_append]]
    exact parse_wide hp (blankL_blank za) (blankL_blank zb)
  have cW := Lib.hid (fun wx h1 => parse_any ((S (blankL za) ++ s) ++ S (blankL zb)) wx h1 (by simp [S_size]; omega))
  rw [hW] at cW
  have hC : (parseJ ((s ++ ⟨#[32]⟩) ++ S [c]).data.toList).2 = 5 := by
    rw [show ((s ++ ⟨#[32]⟩) ++ S [c]).data.toList = s.data.toList ++ [32, c] by simp [S, ByteArray.data_append]]
    exact parse_more hp hcn
  have q1 : (⟨#[32]⟩ : ByteArray).size = 1 := rfl
  have q2 : (S [c]).size = 1 := rfl
  have cC := Lib.hid (fun wx h1 => parse_any ((s ++ ⟨#[32]⟩) ++ S [c]) wx h1 (by simp [S_size, q1]; omega))
  have HC := Lib.hid hC
  obtain ⟨v1, v2, v3⟩ := parse_valid (by simp; omega) hp
  have cK := Lib.hid (fun (v : Value) (F : Nat → Prop) (wx : World) (hj : IsJ wx F j v) (hF : ∀ i, F i → i < wx.heap.size) => check_any j v F wx hj hF v2 (by omega))
  rw [v1] at cK
  have cS := Lib.hid (fun (va vb : Value) (F : Nat → Prop) (wx : World) (ha : IsJ wx F j va) (hb : IsJ wx F j vb) (hF : ∀ i, F i → i < wx.heap.size) => same_any j j va vb F wx ha hb hF v2 v2 (by omega))
  have hsz : (S (blankL za)).size ≤ 40 ∧ (S (blankL zb)).size ≤ 40 := by rw [S_size, S_size]; omega
  have hcv := Lib.hid (fun wx : World => run_convert_bytes_back (P := Tryd.prog) (wx.alloc (.cells #[.int .u8 (c.toNat : Int)] 5)) 42 9 5 ⟨wx.heap.size, 0, none⟩ 1 [c] Tryd.underlying42 Tryd.underlying5 Tryd.underlying9 (fun q hq => by
    match q, hq with
    | 0, _ => simp [Addr.add]))
  have f1 : decide ((1000 : Int) < (s.size : Int)) = false := by simp; omega
  have f2 : decide ((40 : Int) < (za.length : Int)) = false := by simp; omega
  have f3 : decide ((40 : Int) < (zb.length : Int)) = false := by simp; omega
  have g9 : ((c.toNat : Int) == 9) = false := by
    have := hcn
    unfold blankB at this
    simp at this ⊢
    omega
  have g10 : ((c.toNat : Int) == 10) = false := by
    have := hcn
    unfold blankB at this
    simp at this ⊢
    omega
  have g13 : ((c.toNat : Int) == 13) = false := by
    have := hcn
    unfold blankB at this
    simp at this ⊢
    omega
  have g32 : ((c.toNat : Int) == 32) = false := by
    have := hcn
    unfold blankB at this
    simp at this ⊢
    omega
  clear hcn
  have hs := h.1
  generalize S (blankL za) = sa at *
  generalize S (blankL zb) = sb at *
  generalize za.length = na at *
  generalize zb.length = nb at *
  have HV3 := Lib.hid v3
  clear h hu hp h1 h2 la lb hW hC v1 v2 v3
  obtain ⟨hsa, hsb⟩ := hsz
  go_enter Tryd.func6, Tryd.ntmps6
  go_wp2_with fail
  refine cL.out.mono ?_
  rintro e w2 ⟨rfl, k2⟩
  have K2 := Lib.hid k2
  clear k2
  go_wp2_with fail
  refine (cP.out _ (HU.out.keeps K2.out)).mono ?_
  rintro e w3 ⟨k3, hg, -⟩
  obtain ⟨v, rfl, hj⟩ := hg rfl
  clear hg
  obtain ⟨jk, jn, jt, jks, jis, kv, iv, hje, rfl, hkv, hiv⟩ := hj.parts
  obtain ⟨ka, kc, rfl⟩ := hkv.form
  obtain ⟨ia, ic, rfl⟩ := hiv.form
  have HJ := Lib.hid hj
  have K3 := Lib.hid (K2.out.trans k3)
  have B3 := Lib.hid (heap_alloc_new w3 (.cells #[.int .i64 jk, .int .i64 jn, .string (S jt), .slice ka jks.length kc, .slice ia jis.length ic] 25))
  have KA := Lib.hid ((Keeps.refl w3).alloc (.cells #[.int .i64 jk, .int .i64 jn, .string (S jt), .slice ka jks.length kc, .slice ia jis.length ic] 25))
  clear k3 hj hje hkv hiv
  go_wp2_with fail
  refine (cA.out _ (K3.out.alloc _)).mono ?_
  rintro e w4 ⟨rfl, k4⟩
  have K4 := Lib.hid (KA.out.trans k4)
  have L4 := Lib.hid k4
  clear k4
  go_wp2_with fail
  refine (cB.out _ (K3.out.trans K4.out)).mono ?_
  rintro e w5 ⟨rfl, k5⟩
  have K5 := Lib.hid (K4.out.trans k5)
  have L5 := Lib.hid (L4.out.trans k5)
  clear k5
  go_wp2_with fail
  refine (cW.out _ (HU.out.keeps (K3.out.trans K5.out))).mono ?_
  rintro e w6 ⟨k6, hg, -⟩
  obtain ⟨v, rfl, hq⟩ := hg rfl
  clear hg
  obtain ⟨qk, qn, qt, qks, qis, kv, iv, hje, rfl, hkv, hiv⟩ := hq.parts
  obtain ⟨la, lc, rfl⟩ := hkv.form
  obtain ⟨ma, mc, rfl⟩ := hiv.form
  have HQ := Lib.hid hq
  have K6 := Lib.hid (K5.out.trans k6)
  have L6 := Lib.hid (L5.out.trans k6)
  have Z5 := Lib.hid k6.size
  have B6 := Lib.hid (heap_alloc_new w6 (.cells #[.int .i64 qk, .int .i64 qn, .string (S qt), .slice la qks.length lc, .slice ma qis.length mc] 25))
  have KB := Lib.hid ((Keeps.refl w6).alloc (.cells #[.int .i64 qk, .int .i64 qn, .string (S qt), .slice la qks.length lc, .slice ma qis.length mc] 25))
  have hcx : (convert 42 9 (.slice (some ⟨w6.heap.size + 1, 0, none⟩) 1 1)).run Tryd.prog ((w6.alloc (.cells #[.int .i64 qk, .int .i64 qn, .string (S qt), .slice la qks.length lc, .slice ma qis.length mc] 25)).alloc (.cells #[.int .u8 (c.toNat : Int)] 5)) = .ok (.string (S [c])) ((w6.alloc (.cells #[.int .i64 qk, .int .i64 qn, .string (S qt), .slice la qks.length lc, .slice ma qis.length mc] 25)).alloc (.cells #[.int .u8 (c.toNat : Int)] 5)) := by
    have := hcv.out (w6.alloc (.cells #[.int .i64 qk, .int .i64 qn, .string (S qt), .slice la qks.length lc, .slice ma qis.length mc] 25))
    rw [World.size_alloc] at this
    exact this
  clear k6 hq hje hkv hiv
  go_wp2_with fail
  refine (cC.out _ (HU.out.keeps (((K3.out.trans K6.out).alloc _).alloc _))).mono ?_
  rintro e w7 hr
  obtain ⟨rk, rn, rt, oa, ol, oc, pa, pl, pc, rfl⟩ := hr.form
  rw [HC.out]
  have K7 : Hid (Keeps (w6.alloc (.cells #[.int .i64 qk, .int .i64 qn, .string (S qt), .slice la qks.length lc, .slice ma qis.length mc] 25)) w7) := Lib.hid (((Keeps.refl _).alloc _).trans hr.1)
  have hz6 := K6.out.size
  have hz7 := K7.out.size
  have hz3 := L6.out.size
  simp only [World.size_alloc] at hz7 hz3
  have b1 := ((L6.out.trans (KB.out.trans K7.out)).block w3.heap.size (by simp)).trans B3.out
  have b2 := (K7.out.block w6.heap.size (by simp)).trans B6.out
  obtain ⟨x0, x1, x2, x3, x4⟩ := (cells5 b1).1
  obtain ⟨y0, y1, y2, y3, y4⟩ := (cells5 b2).1
  have x0' := cell_al x0 (.cells #[.int .i64 rk, .int .i64 rn, .string rt, .slice oa ol oc, .slice pa pl pc] 25)
  have x1' := cell_al x1 (.cells #[.int .i64 rk, .int .i64 rn, .string rt, .slice oa ol oc, .slice pa pl pc] 25)
  have x2' := cell_al x2 (.cells #[.int .i64 rk, .int .i64 rn, .string rt, .slice oa ol oc, .slice pa pl pc] 25)
  have x3' := cell_al x3 (.cells #[.int .i64 rk, .int .i64 rn, .string rt, .slice oa ol oc, .slice pa pl pc] 25)
  have x4' := cell_al x4 (.cells #[.int .i64 rk, .int .i64 rn, .string rt, .slice oa ol oc, .slice pa pl pc] 25)
  have BB1 := Lib.hid b1
  have BB2 := Lib.hid b2
  have K8 := Lib.hid ((K6.out.trans (KB.out.trans K7.out)).alloc (.cells #[.int .i64 rk, .int .i64 rn, .string rt, .slice oa ol oc, .slice pa pl pc] 25))
  have M8 := Lib.hid ((KB.out.trans K7.out).alloc (.cells #[.int .i64 rk, .int .i64 rn, .string rt, .slice oa ol oc, .slice pa pl pc] 25))
  have N8 := Lib.hid ((Keeps.refl w7).alloc (.cells #[.int .i64 rk, .int .i64 rn, .string rt, .slice oa ol oc, .slice pa pl pc] 25))
  clear hr hcx b1 b2 x0 x1 x2 x3 x4 y0 y1 y2 y3 y4
  go_wp2_with fail
  refine (cK.out _ (fun i => i < w3.heap.size) _ ((IsJ.keeps (fun i hi => K8.out.block i (by omega)) _ _ HJ.out).mono (fun i hi => by omega)) (fun i hi => by simp; omega)).mono ?_
  rintro e w9 ⟨rfl, k9⟩
  have K9 := Lib.hid (K8.out.trans k9)
  have M9 := Lib.hid (M8.out.trans k9)
  have N9 := Lib.hid (N8.out.trans k9)
  have hz9 := N9.out.size
  obtain ⟨x0, x1, x2, x3, x4⟩ := (cells5 ((N9.out.block w3.heap.size (by omega)).trans BB1.out)).1
  obtain ⟨y0, y1, y2, y3, y4⟩ := (cells5 ((N9.out.block w6.heap.size (by omega)).trans BB2.out)).1
  clear k9 x0' x1' x2' x3' x4'
  go_wp2_with fail
  refine (cS.out _ _ (fun i => i < w6.heap.size) _ ((IsJ.keeps (fun i hi => K9.out.block i (by omega)) _ _ HJ.out).mono (fun i hi => by omega)) ((IsJ.keeps (fun i hi => M9.out.block i (by omega)) _ _ HQ.out).mono (fun i hi => by omega)) (fun i hi => by omega)).mono ?_
  rintro e w10 ⟨r, rfl, hr, k10⟩
  obtain rfl : r = true := hr.2 (by first | rfl | trivial)
  have K10 := Lib.hid ((K3.out.trans K9.out).trans k10)
  clear hr k10 x0 x1 x2 x3 x4 y0 y1 y2 y3 y4
  go_wp2
  go_ret
  exact ⟨rfl, K10.out⟩
end Go.Proofs.YtljkeladdplhlaaDoor
