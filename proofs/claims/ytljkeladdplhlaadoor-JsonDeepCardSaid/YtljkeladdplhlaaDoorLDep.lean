/-
  The law JsonDeep, walked.
-/
import Derived.Test.YtljkeladdplhlaaDoorDpx
import Derived.Test.YtljkeladdplhlaaDoorCnd
import Derived.Test.YtljkeladdplhlaaDoorSmc
import Derived.Test.YtljkeladdplhlaaDoorPck
import Derived.Test.YtljkeladdplhlaaDoorLNam
namespace Go.Proofs.YtljkeladdplhlaaDoor
open Go.RowKit

theorem zj_isJ (w : World) (F : Nat → Prop) : IsJ w F J.zero zeroV := by
  unfold J.zero zeroV IsJ
  exact ⟨_, _, rfl, .inl ⟨rfl, rfl⟩, .inl ⟨rfl, rfl⟩⟩
theorem zj_sm : SmJ J.zero := by
  unfold J.zero SmJ SmL
  exact ⟨Nat.zero_le _, Nat.zero_le _, fun k hk => by simp at hk, trivial⟩
theorem zj_nodes : nodesJ J.zero ≤ 900000 := by decide +kernel
/-- A value in memory, whole. -/
def Has (w : World) (j : J) (v : Value) : Prop := IsJ w (fun i => i < w.heap.size) j v
theorem Has.keeps {w w' : World} {j : J} {v : Value} (h : Has w j v) (k : Keeps w w') : Has w' j v := (IsJ.keeps (fun i hi => k.block i hi) _ _ h).mono fun i hi => Nat.lt_of_lt_of_le hi k.size
theorem Has.of {w w' : World} {j : J} {v : Value} (h : IsJ w' (fun i => w.heap.size ≤ i ∧ i < w'.heap.size) j v) : Has w' j v := IsJ.mono (fun i hi => hi.2) _ _ h
/-- The cells of a value in a block of its own. -/
def Cel (w : World) (g : Nat) (cs : Array Value) : Prop := w.heap[g]? = some (.cells cs 25 (0, 0))
theorem Cel.lt {w : World} {g : Nat} {cs : Array Value} (h : Cel w g cs) : g < w.heap.size := by
  unfold Cel at h
  by_cases hg : g < w.heap.size
  · exact hg
  · rw [Array.getElem?_eq_none (by omega)] at h; cases h
theorem Cel.keeps {w w' : World} {g : Nat} {cs : Array Value} (h : Cel w g cs) (k : Keeps w w') : Cel w' g cs := (k.block g h.lt).trans h
theorem Cel.new (w : World) (cs : Array Value) : Cel (w.alloc (.cells cs 25)) w.heap.size cs := heap_alloc_new w (.cells cs 25)
theorem isJ_form {jk jn : Int} {jt : List UInt8} {jks : List (List UInt8)} {jis : List J} {w : World} {F : Nat → Prop} {v : Value} (h : IsJ w F (.mk jk jn jt jks jis) v) : ∃ ka kc ia ic, v = .agg #[.int .i64 jk, .int .i64 jn, .string (S jt), .slice ka jks.length kc, .slice ia jis.length ic] := by
  obtain ⟨k, n, t, ks, is, kv, iv, hje, rfl, hkv, hiv⟩ := h.parts
  obtain ⟨ka, kc, rfl⟩ := hkv.form
  obtain ⟨ia, ic, rfl⟩ := hiv.form
  simp only [J.mk.injEq] at hje
  obtain ⟨rfl, rfl, rfl, rfl, rfl⟩ := hje
  exact ⟨_, _, _, _, rfl⟩

set_option maxHeartbeats 1000000 in
theorem deep_big1 (s t : ByteArray) (dp : Int) (w : World) (hu : Utf w) (ms : s.size ≤ maxLen) (mt : t.size ≤ maxLen) (h : 1000 < s.size) : Calls Tryd.prog 5 #[.string s, .int .i64 dp, .string t] w (Ret (.bool true) w) := by
  have cL := Lib.hid (lives_any w hu)
  unfold maxLen at ms mt
  have f1 : decide ((1000 : Int) < (s.size : Int)) = true := by simp; omega
  clear h
  go_enter Tryd.func5, Tryd.ntmps5
  go_wp2_with fail
  refine cL.out.mono ?_
  rintro e w2 ⟨rfl, k2⟩
  go_wp2
  go_ret
  exact ⟨rfl, k2⟩

set_option maxHeartbeats 1000000 in
theorem deep_big2 (s t : ByteArray) (dp : Int) (w : World) (hu : Utf w) (ms : s.size ≤ maxLen) (mt : t.size ≤ maxLen) (h : s.size ≤ 1000 ∧ 1000 < t.size) : Calls Tryd.prog 5 #[.string s, .int .i64 dp, .string t] w (Ret (.bool true) w) := by
  have cL := Lib.hid (lives_any w hu)
  unfold maxLen at ms mt
  have f1 : decide ((1000 : Int) < (s.size : Int)) = false := by simp; omega
  have f2 : decide ((1000 : Int) < (t.size : Int)) = true := by simp; omega
  clear h
  go_enter Tryd.func5, Tryd.ntmps5
  go_wp2_with fail
  refine cL.out.mono ?_
  rintro e w2 ⟨rfl, k2⟩
  go_wp2
  go_ret
  exact ⟨rfl, k2⟩

set_option maxHeartbeats 2000000 in
set_option maxRecDepth 100000 in
theorem deep_err (s t : ByteArray) (dp : Int) (w : World) (d : Nat) (hu : Utf w) (hs : s.size ≤ 1000) (ht : t.size ≤ 1000) (hd : dp % 9 = (d : Int)) (hd8 : d ≤ 8) (he : (valueJ d s.data.toList).2.2 ≠ 0) : Calls Tryd.prog 5 #[.string s, .int .i64 dp, .string t] w (Ret (.bool true) w) := by
  have HU := Lib.hid hu
  have cL := Lib.hid (lives_any w hu)
  have cK : Hid (∀ wx, Calls Tryd.prog 24 #[.int .i64 dp, .int .i64 9] wx (fun e w' => e = .returned (.int .i64 (d : Int)) ∧ w' = wx)) := Lib.hid (fun wx => by have := pick_any dp 9 wx (by omega) (by omega); rwa [hd] at this)
  have cP : Hid (∀ wx, Utf wx → Calls Tryd.prog 10 #[.string s, .int .i64 (d : Int)] wx (RetR wx (valueJ d s.data.toList))) := Lib.hid (fun wx h1 => read_good s d wx h1 hd8 (by omega))
  have cS := Lib.hid (fun wx => same_any J.zero J.zero zeroV zeroV (fun _ => False) wx (zj_isJ _ _) (zj_isJ _ _) (fun i hi => hi.elim) zj_sm zj_sm zj_nodes)
  unfold zeroV at cS
  have hz := value_none he
  generalize valueJ d s.data.toList = p at *
  obtain ⟨pj, pn, pe⟩ := p
  have hb : ((pe : Int) != 0) = true := by simp; exact he
  have HE := Lib.hid he
  have f1 : decide ((1000 : Int) < (s.size : Int)) = false := by simp; omega
  have f2 : decide ((1000 : Int) < (t.size : Int)) = false := by simp; omega
  clear hu he hd hz
  go_enter Tryd.func5, Tryd.ntmps5
  go_wp2_with fail
  refine cL.out.mono ?_
  rintro e w2 ⟨rfl, k2⟩
  have K2 := Lib.hid k2
  clear k2
  go_wp2_with fail
  refine (cK.out _).mono ?_
  rintro e w2' ⟨rfl, rfl⟩
  go_wp2_with fail
  refine (cP.out _ (HU.out.keeps K2.out)).mono ?_
  rintro e w3 ⟨k3, -, h3⟩
  obtain rfl := h3 HE.out
  clear h3
  have K3 := Lib.hid (K2.out.trans k3)
  have hc := (cells5 (heap_alloc_new w3 (.cells #[.int .i64 0, .int .i64 0, .string ⟨#[]⟩, .slice none 0 0, .slice none 0 0] 25))).1
  obtain ⟨x0, x1, x2, x3, x4⟩ := hc
  clear k3
  unfold zeroV
  go_wp2_with fail
  refine (cS.out _).mono ?_
  rintro e w4 ⟨r, rfl, hr, k4⟩
  obtain rfl : r = true := hr.2 (by first | rfl | trivial)
  have K4 := Lib.hid ((K3.out.alloc _).trans k4)
  clear hr k4 x0 x1 x2 x3 x4
  go_wp2
  go_ret
  exact ⟨rfl, K4.out⟩

def numOf : J → Int
  | .mk _ n _ _ _ => n
def textOf : J → List UInt8
  | .mk _ _ t _ _ => t
def keysOf : J → List (List UInt8)
  | .mk _ _ _ ks _ => ks
theorem has_form {w : World} {j : J} {v : Value} (h : Has w j v) : ∃ ka kc ia ic, v = .agg #[.int .i64 (kindJ j), .int .i64 (numOf j), .string (S (textOf j)), .slice ka (keysOf j).length kc, .slice ia (J.items j).length ic] := by
  cases j
  exact isJ_form h
theorem ext_take (s : ByteArray) (n : Nat) (h : n ≤ s.size) (t : ByteArray) : (s.extract 0 n ++ t).data.toList = s.data.toList.take n ++ t.data.toList := by
  simp [ByteArray.data_append, ByteArray.data_extract]
theorem nd_emp {t : ByteArray} (h : t.toList.isEmpty = true) : ND t.data.toList := by
  rw [ByteArray.toList_eq] at h
  simp at h
  intro c u e
  rw [h] at e
  simp at e
theorem nd_of {t : ByteArray} (p0 : 0 < t.size) (h : (t[0]'p0).toNat < 48 ∨ 57 < (t[0]'p0).toNat) : ND t.data.toList := by
  intro c u e
  have hc : t[0]'p0 = c := by
    have : t.data.toList[0]? = some c := by rw [e]; rfl
    rw [List.getElem?_eq_some_iff] at this
    obtain ⟨_, h2⟩ := this
    rw [← h2]
    rfl
  rw [hc] at h
  unfold digB
  simp
  omega

set_option maxHeartbeats 8000000 in
set_option maxRecDepth 100000 in
theorem deep_fzk (s t : ByteArray) (dp : Int) (w : World) (j : J) (n d : Nat) (hu : Utf w) (hs : s.size ≤ 1000) (ht : t.size ≤ 1000) (hd : dp % 9 = (d : Int)) (hd8 : d ≤ 8) (h : valueJ d s.data.toList = (j, n, 0)) (hn : nodesJ j ≤ 400) (hdp : depthJ j = 0) (hk : kindJ j ≠ 3) : Calls Tryd.prog 5 #[.string s, .int .i64 dp, .string t] w (Ret (.bool true) w) := by
  have HU := Lib.hid hu
  have cL := Lib.hid (lives_any w hu)
  have cK : Hid (∀ wx, Calls Tryd.prog 24 #[.int .i64 dp, .int .i64 9] wx (fun e w' => e = .returned (.int .i64 (d : Int)) ∧ w' = wx)) := Lib.hid (fun wx => by have := pick_any dp 9 wx (by omega) (by omega); rwa [hd] at this)
  have hD := value_deep (by simp; omega) h
  have hnn := valueJ_nodes d s.data.toList
  rw [h] at hnn
  simp only at hnn
  have hns : n ≤ s.size := by have := hD.n_le; simpa using this
  have hle := hD.le
  have cR1 : Hid (∀ wx, Utf wx → Calls Tryd.prog 10 #[.string s, .int .i64 (d : Int)] wx (RetR wx (j, n, 0))) := Lib.hid (fun wx h1 => by have := read_good s d wx h1 hd8 (by omega); rwa [h] at this)
  have cR2 : Hid (∀ wx, Utf wx → Calls Tryd.prog 10 #[.string s, .int .i64 8] wx (RetR wx (j, n, 0))) := Lib.hid (fun wx h1 => by have := read_good8 s wx h1 (by omega); rwa [hD.more 8 (by omega)] at this)
  have cR4 : Hid (∀ wx, Utf wx → Calls Tryd.prog 10 #[.string (s.extract 0 n ++ t), .int .i64 (d : Int)] wx (RetR wx (j, n, 0))) := Lib.hid (fun wx h1 => by
    have := read_good (s.extract 0 n ++ t) d wx h1 hd8 (by simp; omega)
    rwa [ext_take s n hns t, hD.any t.data.toList (fun e => absurd e hk)] at this)
  have cD := Lib.hid (fun (v : Value) (wx : World) (hj : Has wx j v) => Depth_any j v _ wx hj (fun i hi => hi) (by omega))
  have cC := Lib.hid (fun (v : Value) (wx : World) (hj : Has wx j v) => Count_any j v _ wx hj (fun i hi => hi) (by omega))
  have cS := Lib.hid (fun (va vb : Value) (wx : World) (ha : Has wx j va) (hb : Has wx j vb) => same_any j j va vb _ wx ha hb (fun i hi => hi) hD.sm hD.sm (by omega))
  have cX : Hid (∀ (v : Value) (wx : World) (hj : Has wx j v), Calls Tryd.prog 8 #[v] wx (RetE 0 wx)) := Lib.hid (fun v wx hj => by have := check_any j v _ wx hj (fun i hi => hi) hD.sm (by omega); rwa [deep_check hD hd8 hn] at this)
  have HF := Lib.hid (fun (w : World) (v : Value) (hj : Has w j v) => (show ∃ ka kc ia ic, v = .agg #[.int .i64 (kindJ j), .int .i64 (numOf j), .string (S (textOf j)), .slice ka (keysOf j).length kc, .slice ia (J.items j).length ic] from has_form hj))
  have f1 : decide ((1000 : Int) < (s.size : Int)) = false := by simp; omega
  have f2 : decide ((1000 : Int) < (t.size : Int)) = false := by simp; omega
  have b1 : decide ((d : Int) < (depthJ j : Int)) = false := by simp; omega
  have b2 : decide (d < depthJ j) = false := by simp; omega
  have b3 : decide ((s.size : Int) < (n : Int)) = false := by simp; omega
  have b4 : decide (s.size < n) = false := by simp; omega
  have b5 : decide ((nodesJ j : Int) ≤ 400) = true := by simp; omega
  have b6 : decide ((0 : Int) < (depthJ j : Int)) = false := by simp; omega
  have b7 : decide (0 < depthJ j) = false := by simp; omega
  have q3 : depthJ j ≤ 8 := by omega
  have q4 : nodesJ j ≤ 1001 := by omega
  clear hD hnn hle h hd
  generalize hjk : kindJ j = jk at *
  generalize numOf j = jn at *
  generalize textOf j = jt at *
  generalize (keysOf j).length = nk at *
  generalize (J.items j).length = ni at *
  generalize depthJ j = D at *
  generalize nodesJ j = C at *
  clear hjk
  have g1 : (jk == 3) = false := by simpa using hk
  clear hu hn hk hd8
  go_enter Tryd.func5, Tryd.ntmps5
  go_wp2_with fail
  refine cL.out.mono ?_
  rintro e w2 ⟨rfl, k2⟩
  have K2 := Lib.hid k2
  clear k2
  go_wp2_with fail
  refine (cK.out _).mono ?_
  rintro e w2' ⟨rfl, rfl⟩
  go_wp2_with fail
  refine (cR1.out _ (HU.out.keeps K2.out)).mono ?_
  rintro e w3 ⟨k3, hg, -⟩
  obtain ⟨v, rfl, hj⟩ := hg rfl
  obtain ⟨ka, kc, ia, ic, rfl⟩ := HF.out _ _ (Has.of hj)
  have HV := Lib.hid ((Has.of hj).keeps ((Keeps.refl _).alloc (.cells #[.int .i64 jk, .int .i64 jn, .string (S jt), .slice ka nk kc, .slice ia ni ic] 25)))
  have BV := Lib.hid (Cel.new w3 #[.int .i64 jk, .int .i64 jn, .string (S jt), .slice ka nk kc, .slice ia ni ic])
  have K3 := Lib.hid ((K2.out.trans k3).alloc (.cells #[.int .i64 jk, .int .i64 jn, .string (S jt), .slice ka nk kc, .slice ia ni ic] 25))
  clear hg hj k3
  go_wp2_with fail
  refine (cR2.out _ (HU.out.keeps K3.out)).mono ?_
  rintro e w4 ⟨k4, hg, -⟩
  obtain ⟨u, rfl, hj⟩ := hg rfl
  obtain ⟨la, lc, ma, mc, rfl⟩ := HF.out _ _ (Has.of hj)
  have a4 : Keeps w4 (w4.alloc (.cells #[.int .i64 jk, .int .i64 jn, .string (S jt), .slice la nk lc, .slice ma ni mc] 25)) := (Keeps.refl _).alloc _
  have HX := Lib.hid ((Has.of hj).keeps a4)
  have BX := Lib.hid (Cel.new w4 #[.int .i64 jk, .int .i64 jn, .string (S jt), .slice la nk lc, .slice ma ni mc])
  have HV4 := Lib.hid (HV.out.keeps (k4.trans a4))
  have BV4 := Lib.hid (BV.out.keeps (k4.trans a4))
  have K4 := Lib.hid ((K3.out.trans k4).trans a4)
  clear hg hj k4 a4 HV BV
  obtain ⟨x0, x1, x2, x3, x4⟩ := (cells5 BV4.out).1
  go_wp2_with fail
  refine (cD.out _ _ HV4.out).mono ?_
  rintro e w5 ⟨rfl, k5⟩
  have HV5 := Lib.hid (HV4.out.keeps k5)
  have BV5 := Lib.hid (BV4.out.keeps k5)
  have HX5 := Lib.hid (HX.out.keeps k5)
  have BX5 := Lib.hid (BX.out.keeps k5)
  have K5 := Lib.hid (K4.out.trans k5)
  clear k5 x0 x1 x2 x3 x4 HV4 BV4 HX BX K4
  obtain ⟨x0, x1, x2, x3, x4⟩ := (cells5 BV5.out).1
  obtain ⟨y0, y1, y2, y3, y4⟩ := (cells5 BX5.out).1
  go_wp2_with fail
  refine (cS.out _ _ _ HX5.out HV5.out).mono ?_
  rintro e w6 ⟨r, rfl, hr, k6⟩
  obtain rfl : r = true := hr.2 (by first | rfl | trivial)
  have HV6 := Lib.hid (HV5.out.keeps k6)
  have BV6 := Lib.hid (BV5.out.keeps k6)
  have K6 := Lib.hid (K5.out.trans k6)
  clear hr k6 x0 x1 x2 x3 x4 y0 y1 y2 y3 y4 HV5 BV5 HX5 BX5
  obtain ⟨x0, x1, x2, x3, x4⟩ := (cells5 BV6.out).1
  go_wp2_with fail
  refine (cC.out _ _ HV6.out).mono ?_
  rintro e w7 ⟨rfl, k7⟩
  have HV7 := Lib.hid (HV6.out.keeps k7)
  have BV7 := Lib.hid (BV6.out.keeps k7)
  have K7 := Lib.hid (K6.out.trans k7)
  clear k7 x0 x1 x2 x3 x4 HV6 BV6
  obtain ⟨x0, x1, x2, x3, x4⟩ := (cells5 BV7.out).1
  go_wp2_with fail
  refine (cX.out _ _ HV7.out).mono ?_
  rintro e w8 ⟨rfl, k8⟩
  have HV8 := Lib.hid (HV7.out.keeps k8)
  have BV8 := Lib.hid (BV7.out.keeps k8)
  have K8 := Lib.hid (K7.out.trans k8)
  clear k8 x0 x1 x2 x3 x4 HV7 BV7
  obtain ⟨x0, x1, x2, x3, x4⟩ := (cells5 BV8.out).1
  go_wp2_with fail
  refine (cD.out _ _ HV8.out).mono ?_
  rintro e w9 ⟨rfl, k9⟩
  have HV9 := Lib.hid (HV8.out.keeps k9)
  have BV9 := Lib.hid (BV8.out.keeps k9)
  have K9 := Lib.hid (K8.out.trans k9)
  clear k9 x0 x1 x2 x3 x4 HV8 BV8
  obtain ⟨x0, x1, x2, x3, x4⟩ := (cells5 BV9.out).1
  go_wp2_with fail
  refine (cR4.out _ (HU.out.keeps K9.out)).mono ?_
  rintro e w12 ⟨k12, hg, -⟩
  obtain ⟨u, rfl, hj⟩ := hg rfl
  obtain ⟨oa, oc, pa, pc, rfl⟩ := HF.out _ _ (Has.of hj)
  have a12 : Keeps w12 (w12.alloc (.cells #[.int .i64 jk, .int .i64 jn, .string (S jt), .slice oa nk oc, .slice pa ni pc] 25)) := (Keeps.refl _).alloc _
  have HZ := Lib.hid ((Has.of hj).keeps a12)
  have BZ := Lib.hid (Cel.new w12 #[.int .i64 jk, .int .i64 jn, .string (S jt), .slice oa nk oc, .slice pa ni pc])
  have HV12 := Lib.hid (HV9.out.keeps (k12.trans a12))
  have BV12 := Lib.hid (BV9.out.keeps (k12.trans a12))
  have K12 := Lib.hid ((K9.out.trans k12).trans a12)
  clear hg hj k12 a12 x0 x1 x2 x3 x4
  obtain ⟨x0, x1, x2, x3, x4⟩ := (cells5 BV12.out).1
  obtain ⟨y0, y1, y2, y3, y4⟩ := (cells5 BZ.out).1
  go_wp2_with fail
  refine (cS.out _ _ _ HZ.out HV12.out).mono ?_
  rintro e w13 ⟨r, rfl, hr, k13⟩
  obtain rfl : r = true := hr.2 (by first | rfl | trivial)
  have K13 := Lib.hid (K12.out.trans k13)
  clear hr k13 x0 x1 x2 x3 x4 y0 y1 y2 y3 y4
  go_wp2
  go_ret
  exact ⟨rfl, K13.out⟩

set_option maxHeartbeats 8000000 in
set_option maxRecDepth 100000 in
theorem deep_fdk (s t : ByteArray) (dp : Int) (w : World) (j : J) (n d : Nat) (hu : Utf w) (hs : s.size ≤ 1000) (ht : t.size ≤ 1000) (hd : dp % 9 = (d : Int)) (hd8 : d ≤ 8) (h : valueJ d s.data.toList = (j, n, 0)) (hn : nodesJ j ≤ 400) (hdp : 0 < depthJ j) (hk : kindJ j ≠ 3) : Calls Tryd.prog 5 #[.string s, .int .i64 dp, .string t] w (Ret (.bool true) w) := by
  have HU := Lib.hid hu
  have cL := Lib.hid (lives_any w hu)
  have cK : Hid (∀ wx, Calls Tryd.prog 24 #[.int .i64 dp, .int .i64 9] wx (fun e w' => e = .returned (.int .i64 (d : Int)) ∧ w' = wx)) := Lib.hid (fun wx => by have := pick_any dp 9 wx (by omega) (by omega); rwa [hd] at this)
  have hD := value_deep (by simp; omega) h
  have hnn := valueJ_nodes d s.data.toList
  rw [h] at hnn
  simp only at hnn
  have hns : n ≤ s.size := by have := hD.n_le; simpa using this
  have hle := hD.le
  have cR1 : Hid (∀ wx, Utf wx → Calls Tryd.prog 10 #[.string s, .int .i64 (d : Int)] wx (RetR wx (j, n, 0))) := Lib.hid (fun wx h1 => by have := read_good s d wx h1 hd8 (by omega); rwa [h] at this)
  have cR2 : Hid (∀ wx, Utf wx → Calls Tryd.prog 10 #[.string s, .int .i64 8] wx (RetR wx (j, n, 0))) := Lib.hid (fun wx h1 => by have := read_good8 s wx h1 (by omega); rwa [hD.more 8 (by omega)] at this)
  have cR3 : Hid (∀ wx, Utf wx → Calls Tryd.prog 10 #[.string s, .int .i64 ((depthJ j : Int) - 1)] wx (RetR wx (jerr 7))) := Lib.hid (fun wx h1 => by
    have := read_good s (depthJ j - 1) wx h1 (by omega) (by omega)
    rwa [hD.less _ (by omega), show ((depthJ j - 1 : Nat) : Int) = (depthJ j : Int) - 1 by omega] at this)
  have cR4 : Hid (∀ wx, Utf wx → Calls Tryd.prog 10 #[.string (s.extract 0 n ++ t), .int .i64 (d : Int)] wx (RetR wx (j, n, 0))) := Lib.hid (fun wx h1 => by
    have := read_good (s.extract 0 n ++ t) d wx h1 hd8 (by simp; omega)
    rwa [ext_take s n hns t, hD.any t.data.toList (fun e => absurd e hk)] at this)
  have cD := Lib.hid (fun (v : Value) (wx : World) (hj : Has wx j v) => Depth_any j v _ wx hj (fun i hi => hi) (by omega))
  have cC := Lib.hid (fun (v : Value) (wx : World) (hj : Has wx j v) => Count_any j v _ wx hj (fun i hi => hi) (by omega))
  have cS := Lib.hid (fun (va vb : Value) (wx : World) (ha : Has wx j va) (hb : Has wx j vb) => same_any j j va vb _ wx ha hb (fun i hi => hi) hD.sm hD.sm (by omega))
  have cX : Hid (∀ (v : Value) (wx : World) (hj : Has wx j v), Calls Tryd.prog 8 #[v] wx (RetE 0 wx)) := Lib.hid (fun v wx hj => by have := check_any j v _ wx hj (fun i hi => hi) hD.sm (by omega); rwa [deep_check hD hd8 hn] at this)
  have HF := Lib.hid (fun (w : World) (v : Value) (hj : Has w j v) => (show ∃ ka kc ia ic, v = .agg #[.int .i64 (kindJ j), .int .i64 (numOf j), .string (S (textOf j)), .slice ka (keysOf j).length kc, .slice ia (J.items j).length ic] from has_form hj))
  have f1 : decide ((1000 : Int) < (s.size : Int)) = false := by simp; omega
  have f2 : decide ((1000 : Int) < (t.size : Int)) = false := by simp; omega
  have b1 : decide ((d : Int) < (depthJ j : Int)) = false := by simp; omega
  have b2 : decide (d < depthJ j) = false := by simp; omega
  have b3 : decide ((s.size : Int) < (n : Int)) = false := by simp; omega
  have b4 : decide (s.size < n) = false := by simp; omega
  have b5 : decide ((nodesJ j : Int) ≤ 400) = true := by simp; omega
  have b6 : decide ((0 : Int) < (depthJ j : Int)) = true := by simp; omega
  have b7 : decide (0 < depthJ j) = true := by simp; omega
  have q3 : depthJ j ≤ 8 := by omega
  have q4 : nodesJ j ≤ 1001 := by omega
  clear hD hnn hle h hd
  generalize hjk : kindJ j = jk at *
  generalize numOf j = jn at *
  generalize textOf j = jt at *
  generalize (keysOf j).length = nk at *
  generalize (J.items j).length = ni at *
  generalize depthJ j = D at *
  generalize nodesJ j = C at *
  clear hjk
  have g1 : (jk == 3) = false := by simpa using hk
  clear hu hn hk hd8
  go_enter Tryd.func5, Tryd.ntmps5
  go_wp2_with fail
  refine cL.out.mono ?_
  rintro e w2 ⟨rfl, k2⟩
  have K2 := Lib.hid k2
  clear k2
  go_wp2_with fail
  refine (cK.out _).mono ?_
  rintro e w2' ⟨rfl, rfl⟩
  go_wp2_with fail
  refine (cR1.out _ (HU.out.keeps K2.out)).mono ?_
  rintro e w3 ⟨k3, hg, -⟩
  obtain ⟨v, rfl, hj⟩ := hg rfl
  obtain ⟨ka, kc, ia, ic, rfl⟩ := HF.out _ _ (Has.of hj)
  have HV := Lib.hid ((Has.of hj).keeps ((Keeps.refl _).alloc (.cells #[.int .i64 jk, .int .i64 jn, .string (S jt), .slice ka nk kc, .slice ia ni ic] 25)))
  have BV := Lib.hid (Cel.new w3 #[.int .i64 jk, .int .i64 jn, .string (S jt), .slice ka nk kc, .slice ia ni ic])
  have K3 := Lib.hid ((K2.out.trans k3).alloc (.cells #[.int .i64 jk, .int .i64 jn, .string (S jt), .slice ka nk kc, .slice ia ni ic] 25))
  clear hg hj k3
  go_wp2_with fail
  refine (cR2.out _ (HU.out.keeps K3.out)).mono ?_
  rintro e w4 ⟨k4, hg, -⟩
  obtain ⟨u, rfl, hj⟩ := hg rfl
  obtain ⟨la, lc, ma, mc, rfl⟩ := HF.out _ _ (Has.of hj)
  have a4 : Keeps w4 (w4.alloc (.cells #[.int .i64 jk, .int .i64 jn, .string (S jt), .slice la nk lc, .slice ma ni mc] 25)) := (Keeps.refl _).alloc _
  have HX := Lib.hid ((Has.of hj).keeps a4)
  have BX := Lib.hid (Cel.new w4 #[.int .i64 jk, .int .i64 jn, .string (S jt), .slice la nk lc, .slice ma ni mc])
  have HV4 := Lib.hid (HV.out.keeps (k4.trans a4))
  have BV4 := Lib.hid (BV.out.keeps (k4.trans a4))
  have K4 := Lib.hid ((K3.out.trans k4).trans a4)
  clear hg hj k4 a4 HV BV
  obtain ⟨x0, x1, x2, x3, x4⟩ := (cells5 BV4.out).1
  go_wp2_with fail
  refine (cD.out _ _ HV4.out).mono ?_
  rintro e w5 ⟨rfl, k5⟩
  have HV5 := Lib.hid (HV4.out.keeps k5)
  have BV5 := Lib.hid (BV4.out.keeps k5)
  have HX5 := Lib.hid (HX.out.keeps k5)
  have BX5 := Lib.hid (BX.out.keeps k5)
  have K5 := Lib.hid (K4.out.trans k5)
  clear k5 x0 x1 x2 x3 x4 HV4 BV4 HX BX K4
  obtain ⟨x0, x1, x2, x3, x4⟩ := (cells5 BV5.out).1
  obtain ⟨y0, y1, y2, y3, y4⟩ := (cells5 BX5.out).1
  go_wp2_with fail
  refine (cS.out _ _ _ HX5.out HV5.out).mono ?_
  rintro e w6 ⟨r, rfl, hr, k6⟩
  obtain rfl : r = true := hr.2 (by first | rfl | trivial)
  have HV6 := Lib.hid (HV5.out.keeps k6)
  have BV6 := Lib.hid (BV5.out.keeps k6)
  have K6 := Lib.hid (K5.out.trans k6)
  clear hr k6 x0 x1 x2 x3 x4 y0 y1 y2 y3 y4 HV5 BV5 HX5 BX5
  obtain ⟨x0, x1, x2, x3, x4⟩ := (cells5 BV6.out).1
  go_wp2_with fail
  refine (cC.out _ _ HV6.out).mono ?_
  rintro e w7 ⟨rfl, k7⟩
  have HV7 := Lib.hid (HV6.out.keeps k7)
  have BV7 := Lib.hid (BV6.out.keeps k7)
  have K7 := Lib.hid (K6.out.trans k7)
  clear k7 x0 x1 x2 x3 x4 HV6 BV6
  obtain ⟨x0, x1, x2, x3, x4⟩ := (cells5 BV7.out).1
  go_wp2_with fail
  refine (cX.out _ _ HV7.out).mono ?_
  rintro e w8 ⟨rfl, k8⟩
  have HV8 := Lib.hid (HV7.out.keeps k8)
  have BV8 := Lib.hid (BV7.out.keeps k8)
  have K8 := Lib.hid (K7.out.trans k8)
  clear k8 x0 x1 x2 x3 x4 HV7 BV7
  obtain ⟨x0, x1, x2, x3, x4⟩ := (cells5 BV8.out).1
  go_wp2_with fail
  refine (cD.out _ _ HV8.out).mono ?_
  rintro e w9 ⟨rfl, k9⟩
  have HV9 := Lib.hid (HV8.out.keeps k9)
  have BV9 := Lib.hid (BV8.out.keeps k9)
  have K9 := Lib.hid (K8.out.trans k9)
  clear k9 x0 x1 x2 x3 x4 HV8 BV8
  obtain ⟨x0, x1, x2, x3, x4⟩ := (cells5 BV9.out).1
  go_wp2_with fail
  refine (cD.out _ _ HV9.out).mono ?_
  rintro e w10 ⟨rfl, k10⟩
  have HV10 := Lib.hid (HV9.out.keeps k10)
  have BV10 := Lib.hid (BV9.out.keeps k10)
  have K10 := Lib.hid (K9.out.trans k10)
  clear k10 x0 x1 x2 x3 x4 HV9 BV9
  obtain ⟨x0, x1, x2, x3, x4⟩ := (cells5 BV10.out).1
  go_wp2_with fail
  refine (cR3.out _ (HU.out.keeps K10.out)).mono ?_
  rintro e w11 ⟨k11', -, h11⟩
  obtain rfl := h11 (by decide)
  have k11 : Keeps w10 (w11.alloc (.cells #[.int .i64 0, .int .i64 0, .string ⟨#[]⟩, .slice none 0 0, .slice none 0 0] 25)) := k11'.alloc _
  clear h11 k11'
  have HV11 := Lib.hid (HV10.out.keeps k11)
  have BV11 := Lib.hid (BV10.out.keeps k11)
  have K11 := Lib.hid (K10.out.trans k11)
  clear k11 x0 x1 x2 x3 x4 HV10 BV10
  obtain ⟨x0, x1, x2, x3, x4⟩ := (cells5 BV11.out).1
  unfold zeroV jerr
  go_wp2_with fail
  refine (cR4.out _ (HU.out.keeps K11.out)).mono ?_
  rintro e w12 ⟨k12, hg, -⟩
  obtain ⟨u, rfl, hj⟩ := hg rfl
  obtain ⟨oa, oc, pa, pc, rfl⟩ := HF.out _ _ (Has.of hj)
  have a12 : Keeps w12 (w12.alloc (.cells #[.int .i64 jk, .int .i64 jn, .string (S jt), .slice oa nk oc, .slice pa ni pc] 25)) := (Keeps.refl _).alloc _
  have HZ := Lib.hid ((Has.of hj).keeps a12)
  have BZ := Lib.hid (Cel.new w12 #[.int .i64 jk, .int .i64 jn, .string (S jt), .slice oa nk oc, .slice pa ni pc])
  have HV12 := Lib.hid (HV11.out.keeps (k12.trans a12))
  have BV12 := Lib.hid (BV11.out.keeps (k12.trans a12))
  have K12 := Lib.hid ((K11.out.trans k12).trans a12)
  clear hg hj k12 a12 x0 x1 x2 x3 x4
  obtain ⟨x0, x1, x2, x3, x4⟩ := (cells5 BV12.out).1
  obtain ⟨y0, y1, y2, y3, y4⟩ := (cells5 BZ.out).1
  go_wp2_with fail
  refine (cS.out _ _ _ HZ.out HV12.out).mono ?_
  rintro e w13 ⟨r, rfl, hr, k13⟩
  obtain rfl : r = true := hr.2 (by first | rfl | trivial)
  have K13 := Lib.hid (K12.out.trans k13)
  clear hr k13 x0 x1 x2 x3 x4 y0 y1 y2 y3 y4
  go_wp2
  go_ret
  exact ⟨rfl, K13.out⟩

set_option maxHeartbeats 8000000 in
set_option maxRecDepth 100000 in
theorem deep_mzk (s t : ByteArray) (dp : Int) (w : World) (j : J) (n d : Nat) (hu : Utf w) (hs : s.size ≤ 1000) (ht : t.size ≤ 1000) (hd : dp % 9 = (d : Int)) (hd8 : d ≤ 8) (h : valueJ d s.data.toList = (j, n, 0)) (hn : 400 < nodesJ j) (hdp : depthJ j = 0) (hk : kindJ j ≠ 3) : Calls Tryd.prog 5 #[.string s, .int .i64 dp, .string t] w (Ret (.bool true) w) := by
  have HU := Lib.hid hu
  have cL := Lib.hid (lives_any w hu)
  have cK : Hid (∀ wx, Calls Tryd.prog 24 #[.int .i64 dp, .int .i64 9] wx (fun e w' => e = .returned (.int .i64 (d : Int)) ∧ w' = wx)) := Lib.hid (fun wx => by have := pick_any dp 9 wx (by omega) (by omega); rwa [hd] at this)
  have hD := value_deep (by simp; omega) h
  have hnn := valueJ_nodes d s.data.toList
  rw [h] at hnn
  simp only at hnn
  have hns : n ≤ s.size := by have := hD.n_le; simpa using this
  have hle := hD.le
  have cR1 : Hid (∀ wx, Utf wx → Calls Tryd.prog 10 #[.string s, .int .i64 (d : Int)] wx (RetR wx (j, n, 0))) := Lib.hid (fun wx h1 => by have := read_good s d wx h1 hd8 (by omega); rwa [h] at this)
  have cR2 : Hid (∀ wx, Utf wx → Calls Tryd.prog 10 #[.string s, .int .i64 8] wx (RetR wx (j, n, 0))) := Lib.hid (fun wx h1 => by have := read_good8 s wx h1 (by omega); rwa [hD.more 8 (by omega)] at this)
  have cR4 : Hid (∀ wx, Utf wx → Calls Tryd.prog 10 #[.string (s.extract 0 n ++ t), .int .i64 (d : Int)] wx (RetR wx (j, n, 0))) := Lib.hid (fun wx h1 => by
    have := read_good (s.extract 0 n ++ t) d wx h1 hd8 (by simp; omega)
    rwa [ext_take s n hns t, hD.any t.data.toList (fun e => absurd e hk)] at this)
  have cD := Lib.hid (fun (v : Value) (wx : World) (hj : Has wx j v) => Depth_any j v _ wx hj (fun i hi => hi) (by omega))
  have cC := Lib.hid (fun (v : Value) (wx : World) (hj : Has wx j v) => Count_any j v _ wx hj (fun i hi => hi) (by omega))
  have cS := Lib.hid (fun (va vb : Value) (wx : World) (ha : Has wx j va) (hb : Has wx j vb) => same_any j j va vb _ wx ha hb (fun i hi => hi) hD.sm hD.sm (by omega))
  have HF := Lib.hid (fun (w : World) (v : Value) (hj : Has w j v) => (show ∃ ka kc ia ic, v = .agg #[.int .i64 (kindJ j), .int .i64 (numOf j), .string (S (textOf j)), .slice ka (keysOf j).length kc, .slice ia (J.items j).length ic] from has_form hj))
  have f1 : decide ((1000 : Int) < (s.size : Int)) = false := by simp; omega
  have f2 : decide ((1000 : Int) < (t.size : Int)) = false := by simp; omega
  have b1 : decide ((d : Int) < (depthJ j : Int)) = false := by simp; omega
  have b2 : decide (d < depthJ j) = false := by simp; omega
  have b3 : decide ((s.size : Int) < (n : Int)) = false := by simp; omega
  have b4 : decide (s.size < n) = false := by simp; omega
  have b5 : decide ((nodesJ j : Int) ≤ 400) = false := by simp; omega
  have b6 : decide ((0 : Int) < (depthJ j : Int)) = false := by simp; omega
  have b7 : decide (0 < depthJ j) = false := by simp; omega
  have q3 : depthJ j ≤ 8 := by omega
  have q4 : nodesJ j ≤ 1001 := by omega
  clear hD hnn hle h hd
  generalize hjk : kindJ j = jk at *
  generalize numOf j = jn at *
  generalize textOf j = jt at *
  generalize (keysOf j).length = nk at *
  generalize (J.items j).length = ni at *
  generalize depthJ j = D at *
  generalize nodesJ j = C at *
  clear hjk
  have g1 : (jk == 3) = false := by simpa using hk
  clear hu hn hk hd8
  go_enter Tryd.func5, Tryd.ntmps5
  go_wp2_with fail
  refine cL.out.mono ?_
  rintro e w2 ⟨rfl, k2⟩
  have K2 := Lib.hid k2
  clear k2
  go_wp2_with fail
  refine (cK.out _).mono ?_
  rintro e w2' ⟨rfl, rfl⟩
  go_wp2_with fail
  refine (cR1.out _ (HU.out.keeps K2.out)).mono ?_
  rintro e w3 ⟨k3, hg, -⟩
  obtain ⟨v, rfl, hj⟩ := hg rfl
  obtain ⟨ka, kc, ia, ic, rfl⟩ := HF.out _ _ (Has.of hj)
  have HV := Lib.hid ((Has.of hj).keeps ((Keeps.refl _).alloc (.cells #[.int .i64 jk, .int .i64 jn, .string (S jt), .slice ka nk kc, .slice ia ni ic] 25)))
  have BV := Lib.hid (Cel.new w3 #[.int .i64 jk, .int .i64 jn, .string (S jt), .slice ka nk kc, .slice ia ni ic])
  have K3 := Lib.hid ((K2.out.trans k3).alloc (.cells #[.int .i64 jk, .int .i64 jn, .string (S jt), .slice ka nk kc, .slice ia ni ic] 25))
  clear hg hj k3
  go_wp2_with fail
  refine (cR2.out _ (HU.out.keeps K3.out)).mono ?_
  rintro e w4 ⟨k4, hg, -⟩
  obtain ⟨u, rfl, hj⟩ := hg rfl
  obtain ⟨la, lc, ma, mc, rfl⟩ := HF.out _ _ (Has.of hj)
  have a4 : Keeps w4 (w4.alloc (.cells #[.int .i64 jk, .int .i64 jn, .string (S jt), .slice la nk lc, .slice ma ni mc] 25)) := (Keeps.refl _).alloc _
  have HX := Lib.hid ((Has.of hj).keeps a4)
  have BX := Lib.hid (Cel.new w4 #[.int .i64 jk, .int .i64 jn, .string (S jt), .slice la nk lc, .slice ma ni mc])
  have HV4 := Lib.hid (HV.out.keeps (k4.trans a4))
  have BV4 := Lib.hid (BV.out.keeps (k4.trans a4))
  have K4 := Lib.hid ((K3.out.trans k4).trans a4)
  clear hg hj k4 a4 HV BV
  obtain ⟨x0, x1, x2, x3, x4⟩ := (cells5 BV4.out).1
  go_wp2_with fail
  refine (cD.out _ _ HV4.out).mono ?_
  rintro e w5 ⟨rfl, k5⟩
  have HV5 := Lib.hid (HV4.out.keeps k5)
  have BV5 := Lib.hid (BV4.out.keeps k5)
  have HX5 := Lib.hid (HX.out.keeps k5)
  have BX5 := Lib.hid (BX.out.keeps k5)
  have K5 := Lib.hid (K4.out.trans k5)
  clear k5 x0 x1 x2 x3 x4 HV4 BV4 HX BX K4
  obtain ⟨x0, x1, x2, x3, x4⟩ := (cells5 BV5.out).1
  obtain ⟨y0, y1, y2, y3, y4⟩ := (cells5 BX5.out).1
  go_wp2_with fail
  refine (cS.out _ _ _ HX5.out HV5.out).mono ?_
  rintro e w6 ⟨r, rfl, hr, k6⟩
  obtain rfl : r = true := hr.2 (by first | rfl | trivial)
  have HV6 := Lib.hid (HV5.out.keeps k6)
  have BV6 := Lib.hid (BV5.out.keeps k6)
  have K6 := Lib.hid (K5.out.trans k6)
  clear hr k6 x0 x1 x2 x3 x4 y0 y1 y2 y3 y4 HV5 BV5 HX5 BX5
  obtain ⟨x0, x1, x2, x3, x4⟩ := (cells5 BV6.out).1
  go_wp2_with fail
  refine (cC.out _ _ HV6.out).mono ?_
  rintro e w7 ⟨rfl, k7⟩
  have HV7 := Lib.hid (HV6.out.keeps k7)
  have BV7 := Lib.hid (BV6.out.keeps k7)
  have K7 := Lib.hid (K6.out.trans k7)
  clear k7 x0 x1 x2 x3 x4 HV6 BV6
  obtain ⟨x0, x1, x2, x3, x4⟩ := (cells5 BV7.out).1
  go_wp2_with fail
  refine (cD.out _ _ HV7.out).mono ?_
  rintro e w9 ⟨rfl, k9⟩
  have HV9 := Lib.hid (HV7.out.keeps k9)
  have BV9 := Lib.hid (BV7.out.keeps k9)
  have K9 := Lib.hid (K7.out.trans k9)
  clear k9 x0 x1 x2 x3 x4 HV7 BV7
  obtain ⟨x0, x1, x2, x3, x4⟩ := (cells5 BV9.out).1
  go_wp2_with fail
  refine (cR4.out _ (HU.out.keeps K9.out)).mono ?_
  rintro e w12 ⟨k12, hg, -⟩
  obtain ⟨u, rfl, hj⟩ := hg rfl
  obtain ⟨oa, oc, pa, pc, rfl⟩ := HF.out _ _ (Has.of hj)
  have a12 : Keeps w12 (w12.alloc (.cells #[.int .i64 jk, .int .i64 jn, .string (S jt), .slice oa nk oc, .slice pa ni pc] 25)) := (Keeps.refl _).alloc _
  have HZ := Lib.hid ((Has.of hj).keeps a12)
  have BZ := Lib.hid (Cel.new w12 #[.int .i64 jk, .int .i64 jn, .string (S jt), .slice oa nk oc, .slice pa ni pc])
  have HV12 := Lib.hid (HV9.out.keeps (k12.trans a12))
  have BV12 := Lib.hid (BV9.out.keeps (k12.trans a12))
  have K12 := Lib.hid ((K9.out.trans k12).trans a12)
  clear hg hj k12 a12 x0 x1 x2 x3 x4
  obtain ⟨x0, x1, x2, x3, x4⟩ := (cells5 BV12.out).1
  obtain ⟨y0, y1, y2, y3, y4⟩ := (cells5 BZ.out).1
  go_wp2_with fail
  refine (cS.out _ _ _ HZ.out HV12.out).mono ?_
  rintro e w13 ⟨r, rfl, hr, k13⟩
  obtain rfl : r = true := hr.2 (by first | rfl | trivial)
  have K13 := Lib.hid (K12.out.trans k13)
  clear hr k13 x0 x1 x2 x3 x4 y0 y1 y2 y3 y4
  go_wp2
  go_ret
  exact ⟨rfl, K13.out⟩

set_option maxHeartbeats 8000000 in
set_option maxRecDepth 100000 in
theorem deep_mdk (s t : ByteArray) (dp : Int) (w : World) (j : J) (n d : Nat) (hu : Utf w) (hs : s.size ≤ 1000) (ht : t.size ≤ 1000) (hd : dp % 9 = (d : Int)) (hd8 : d ≤ 8) (h : valueJ d s.data.toList = (j, n, 0)) (hn : 400 < nodesJ j) (hdp : 0 < depthJ j) (hk : kindJ j ≠ 3) : Calls Tryd.prog 5 #[.string s, .int .i64 dp, .string t] w (Ret (.bool true) w) := by
  have HU := Lib.hid hu
  have cL := Lib.hid (lives_any w hu)
  have cK : Hid (∀ wx, Calls Tryd.prog 24 #[.int .i64 dp, .int .i64 9] wx (fun e w' => e = .returned (.int .i64 (d : Int)) ∧ w' = wx)) := Lib.hid (fun wx => by have := pick_any dp 9 wx (by omega) (by omega); rwa [hd] at this)
  have hD := value_deep (by simp; omega) h
  have hnn := valueJ_nodes d s.data.toList
  rw [h] at hnn
  simp only at hnn
  have hns : n ≤ s.size := by have := hD.n_le; simpa using this
  have hle := hD.le
  have cR1 : Hid (∀ wx, Utf wx → Calls Tryd.prog 10 #[.string s, .int .i64 (d : Int)] wx (RetR wx (j, n, 0))) := Lib.hid (fun wx h1 => by have := read_good s d wx h1 hd8 (by omega); rwa [h] at this)
  have cR2 : Hid (∀ wx, Utf wx → Calls Tryd.prog 10 #[.string s, .int .i64 8] wx (RetR wx (j, n, 0))) := Lib.hid (fun wx h1 => by have := read_good8 s wx h1 (by omega); rwa [hD.more 8 (by omega)] at this)
  have cR3 : Hid (∀ wx, Utf wx → Calls Tryd.prog 10 #[.string s, .int .i64 ((depthJ j : Int) - 1)] wx (RetR wx (jerr 7))) := Lib.hid (fun wx h1 => by
    have := read_good s (depthJ j - 1) wx h1 (by omega) (by omega)
    rwa [hD.less _ (by omega), show ((depthJ j - 1 : Nat) : Int) = (depthJ j : Int) - 1 by omega] at this)
  have cR4 : Hid (∀ wx, Utf wx → Calls Tryd.prog 10 #[.string (s.extract 0 n ++ t), .int .i64 (d : Int)] wx (RetR wx (j, n, 0))) := Lib.hid (fun wx h1 => by
    have := read_good (s.extract 0 n ++ t) d wx h1 hd8 (by simp; omega)
    rwa [ext_take s n hns t, hD.any t.data.toList (fun e => absurd e hk)] at this)
  have cD := Lib.hid (fun (v : Value) (wx : World) (hj : Has wx j v) => Depth_any j v _ wx hj (fun i hi => hi) (by omega))
  have cC := Lib.hid (fun (v : Value) (wx : World) (hj : Has wx j v) => Count_any j v _ wx hj (fun i hi => hi) (by omega))
  have cS := Lib.hid (fun (va vb : Value) (wx : World) (ha : Has wx j va) (hb : Has wx j vb) => same_any j j va vb _ wx ha hb (fun i hi => hi) hD.sm hD.sm (by omega))
  have HF := Lib.hid (fun (w : World) (v : Value) (hj : Has w j v) => (show ∃ ka kc ia ic, v = .agg #[.int .i64 (kindJ j), .int .i64 (numOf j), .string (S (textOf j)), .slice ka (keysOf j).length kc, .slice ia (J.items j).length ic] from has_form hj))
  have f1 : decide ((1000 : Int) < (s.size : Int)) = false := by simp; omega
  have f2 : decide ((1000 : Int) < (t.size : Int)) = false := by simp; omega
  have b1 : decide ((d : Int) < (depthJ j : Int)) = false := by simp; omega
  have b2 : decide (d < depthJ j) = false := by simp; omega
  have b3 : decide ((s.size : Int) < (n : Int)) = false := by simp; omega
  have b4 : decide (s.size < n) = false := by simp; omega
  have b5 : decide ((nodesJ j : Int) ≤ 400) = false := by simp; omega
  have b6 : decide ((0 : Int) < (depthJ j : Int)) = true := by simp; omega
  have b7 : decide (0 < depthJ j) = true := by simp; omega
  have q3 : depthJ j ≤ 8 := by omega
  have q4 : nodesJ j ≤ 1001 := by omega
  clear hD hnn hle h hd
  generalize hjk : kindJ j = jk at *
  generalize numOf j = jn at *
  generalize textOf j = jt at *
  generalize (keysOf j).length = nk at *
  generalize (J.items j).length = ni at *
  generalize depthJ j = D at *
  generalize nodesJ j = C at *
  clear hjk
  have g1 : (jk == 3) = false := by simpa using hk
  clear hu hn hk hd8
  go_enter Tryd.func5, Tryd.ntmps5
  go_wp2_with fail
  refine cL.out.mono ?_
  rintro e w2 ⟨rfl, k2⟩
  have K2 := Lib.hid k2
  clear k2
  go_wp2_with fail
  refine (cK.out _).mono ?_
  rintro e w2' ⟨rfl, rfl⟩
  go_wp2_with fail
  refine (cR1.out _ (HU.out.keeps K2.out)).mono ?_
  rintro e w3 ⟨k3, hg, -⟩
  obtain ⟨v, rfl, hj⟩ := hg rfl
  obtain ⟨ka, kc, ia, ic, rfl⟩ := HF.out _ _ (Has.of hj)
  have HV := Lib.hid ((Has.of hj).keeps ((Keeps.refl _).alloc (.cells #[.int .i64 jk, .int .i64 jn, .string (S jt), .slice ka nk kc, .slice ia ni ic] 25)))
  have BV := Lib.hid (Cel.new w3 #[.int .i64 jk, .int .i64 jn, .string (S jt), .slice ka nk kc, .slice ia ni ic])
  have K3 := Lib.hid ((K2.out.trans k3).alloc (.cells #[.int .i64 jk, .int .i64 jn, .string (S jt), .slice ka nk kc, .slice ia ni ic] 25))
  clear hg hj k3
  go_wp2_with fail
  refine (cR2.out _ (HU.out.keeps K3.out)).mono ?_
  rintro e w4 ⟨k4, hg, -⟩
  obtain ⟨u, rfl, hj⟩ := hg rfl
  obtain ⟨la, lc, ma, mc, rfl⟩ := HF.out _ _ (Has.of hj)
  have a4 : Keeps w4 (w4.alloc (.cells #[.int .i64 jk, .int .i64 jn, .string (S jt), .slice la nk lc, .slice ma ni mc] 25)) := (Keeps.refl _).alloc _
  have HX := Lib.hid ((Has.of hj).keeps a4)
  have BX := Lib.hid (Cel.new w4 #[.int .i64 jk, .int .i64 jn, .string (S jt), .slice la nk lc, .slice ma ni mc])
  have HV4 := Lib.hid (HV.out.keeps (k4.trans a4))
  have BV4 := Lib.hid (BV.out.keeps (k4.trans a4))
  have K4 := Lib.hid ((K3.out.trans k4).trans a4)
  clear hg hj k4 a4 HV BV
  obtain ⟨x0, x1, x2, x3, x4⟩ := (cells5 BV4.out).1
  go_wp2_with fail
  refine (cD.out _ _ HV4.out).mono ?_
  rintro e w5 ⟨rfl, k5⟩
  have HV5 := Lib.hid (HV4.out.keeps k5)
  have BV5 := Lib.hid (BV4.out.keeps k5)
  have HX5 := Lib.hid (HX.out.keeps k5)
  have BX5 := Lib.hid (BX.out.keeps k5)
  have K5 := Lib.hid (K4.out.trans k5)
  clear k5 x0 x1 x2 x3 x4 HV4 BV4 HX BX K4
  obtain ⟨x0, x1, x2, x3, x4⟩ := (cells5 BV5.out).1
  obtain ⟨y0, y1, y2, y3, y4⟩ := (cells5 BX5.out).1
  go_wp2_with fail
  refine (cS.out _ _ _ HX5.out HV5.out).mono ?_
  rintro e w6 ⟨r, rfl, hr, k6⟩
  obtain rfl : r = true := hr.2 (by first | rfl | trivial)
  have HV6 := Lib.hid (HV5.out.keeps k6)
  have BV6 := Lib.hid (BV5.out.keeps k6)
  have K6 := Lib.hid (K5.out.trans k6)
  clear hr k6 x0 x1 x2 x3 x4 y0 y1 y2 y3 y4 HV5 BV5 HX5 BX5
  obtain ⟨x0, x1, x2, x3, x4⟩ := (cells5 BV6.out).1
  go_wp2_with fail
  refine (cC.out _ _ HV6.out).mono ?_
  rintro e w7 ⟨rfl, k7⟩
  have HV7 := Lib.hid (HV6.out.keeps k7)
  have BV7 := Lib.hid (BV6.out.keeps k7)
  have K7 := Lib.hid (K6.out.trans k7)
  clear k7 x0 x1 x2 x3 x4 HV6 BV6
  obtain ⟨x0, x1, x2, x3, x4⟩ := (cells5 BV7.out).1
  go_wp2_with fail
  refine (cD.out _ _ HV7.out).mono ?_
  rintro e w9 ⟨rfl, k9⟩
  have HV9 := Lib.hid (HV7.out.keeps k9)
  have BV9 := Lib.hid (BV7.out.keeps k9)
  have K9 := Lib.hid (K7.out.trans k9)
  clear k9 x0 x1 x2 x3 x4 HV7 BV7
  obtain ⟨x0, x1, x2, x3, x4⟩ := (cells5 BV9.out).1
  go_wp2_with fail
  refine (cD.out _ _ HV9.out).mono ?_
  rintro e w10 ⟨rfl, k10⟩
  have HV10 := Lib.hid (HV9.out.keeps k10)
  have BV10 := Lib.hid (BV9.out.keeps k10)
  have K10 := Lib.hid (K9.out.trans k10)
  clear k10 x0 x1 x2 x3 x4 HV9 BV9
  obtain ⟨x0, x1, x2, x3, x4⟩ := (cells5 BV10.out).1
  go_wp2_with fail
  refine (cR3.out _ (HU.out.keeps K10.out)).mono ?_
  rintro e w11 ⟨k11', -, h11⟩
  obtain rfl := h11 (by decide)
  have k11 : Keeps w10 (w11.alloc (.cells #[.int .i64 0, .int .i64 0, .string ⟨#[]⟩, .slice none 0 0, .slice none 0 0] 25)) := k11'.alloc _
  clear h11 k11'
  have HV11 := Lib.hid (HV10.out.keeps k11)
  have BV11 := Lib.hid (BV10.out.keeps k11)
  have K11 := Lib.hid (K10.out.trans k11)
  clear k11 x0 x1 x2 x3 x4 HV10 BV10
  obtain ⟨x0, x1, x2, x3, x4⟩ := (cells5 BV11.out).1
  unfold zeroV jerr
  go_wp2_with fail
  refine (cR4.out _ (HU.out.keeps K11.out)).mono ?_
  rintro e w12 ⟨k12, hg, -⟩
  obtain ⟨u, rfl, hj⟩ := hg rfl
  obtain ⟨oa, oc, pa, pc, rfl⟩ := HF.out _ _ (Has.of hj)
  have a12 : Keeps w12 (w12.alloc (.cells #[.int .i64 jk, .int .i64 jn, .string (S jt), .slice oa nk oc, .slice pa ni pc] 25)) := (Keeps.refl _).alloc _
  have HZ := Lib.hid ((Has.of hj).keeps a12)
  have BZ := Lib.hid (Cel.new w12 #[.int .i64 jk, .int .i64 jn, .string (S jt), .slice oa nk oc, .slice pa ni pc])
  have HV12 := Lib.hid (HV11.out.keeps (k12.trans a12))
  have BV12 := Lib.hid (BV11.out.keeps (k12.trans a12))
  have K12 := Lib.hid ((K11.out.trans k12).trans a12)
  clear hg hj k12 a12 x0 x1 x2 x3 x4
  obtain ⟨x0, x1, x2, x3, x4⟩ := (cells5 BV12.out).1
  obtain ⟨y0, y1, y2, y3, y4⟩ := (cells5 BZ.out).1
  go_wp2_with fail
  refine (cS.out _ _ _ HZ.out HV12.out).mono ?_
  rintro e w13 ⟨r, rfl, hr, k13⟩
  obtain rfl : r = true := hr.2 (by first | rfl | trivial)
  have K13 := Lib.hid (K12.out.trans k13)
  clear hr k13 x0 x1 x2 x3 x4 y0 y1 y2 y3 y4
  go_wp2
  go_ret
  exact ⟨rfl, K13.out⟩

end Go.Proofs.YtljkeladdplhlaaDoor