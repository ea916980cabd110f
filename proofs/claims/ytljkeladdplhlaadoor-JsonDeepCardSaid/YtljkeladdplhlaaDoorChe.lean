/-
  Check, of package json.
-/
import Derived.Test.YtljkeladdplhlaaDoorChb
namespace Go.Proofs.YtljkeladdplhlaaDoor
open Go.RowKit

mutual
/-- Texts and lists that are not too long. -/
def SmJ : J → Prop
  | .mk _ _ t ks is => t.length ≤ 1000000 ∧ ks.length ≤ 1000000 ∧ (∀ k, k ∈ ks → k.length ≤ 1000000) ∧ SmL is
def SmL : List J → Prop
  | [] => True
  | j :: t => SmJ j ∧ SmL t
end
theorem SmL.get : ∀ (l : List J) (i : Nat) (h : i < l.length), SmL l → SmJ (l[i]'h)
  | [], _, h, _ => by simp at h
  | j :: t, 0, _, h => by unfold SmL at h; exact h.1
  | j :: t, i + 1, h, k => by unfold SmL at k; exact SmL.get t i (by simpa using h) k.2
def aloneC : J → Nat
  | .mk k n t ks is => if k < 1 ∨ 6 < k then 9 else if numB k n = false ∨ fldB k t ks.length is.length = false then 2 else if validL t = false then 6 else keysC ks
mutual
def allC : J → Nat
  | .mk k n t ks is => if aloneC (.mk k n t ks is) ≠ 0 then aloneC (.mk k n t ks is) else allCL is
def allCL : List J → Nat
  | [] => 0
  | j :: t => if allC j ≠ 0 then allC j else allCL t
end
def checkC (j : J) : Nat := if 8 < depthJ j then 7 else if 400 < nodesJ j then 4 else allC j
def RetE (x : Nat) (w : World) (e : Ending) (w' : World) : Prop := e = .returned (.int .i64 (x : Int)) ∧ Keeps w w'

set_option maxHeartbeats 8000000 in
set_option maxRecDepth 100000 in
theorem alone_any (j : J) (v : Value) (F : Nat → Prop) (w : World) (hj : IsJ w F j v) (hF : ∀ i, F i → i < w.heap.size) (hs : SmJ j) : Calls Tryd.prog 45 #[v] w (RetE (aloneC j) w) := by
  obtain ⟨jk, jn, jt, jks, jis, kv, iv, rfl, rfl, hkv, hiv⟩ := hj.parts
  unfold SmJ at hs
  obtain ⟨s1, s2, s3, s4⟩ := hs
  have cK := Lib.hid (fun (wx : World) (k : Keeps w wx) => keys_any jks kv F wx (hkv.keeps (fun i hi => k.block i (hF i hi))) s2 s3)
  obtain ⟨ka, kc, rfl⟩ := hkv.form
  obtain ⟨ia, ic, rfl⟩ := hiv.form
  have cN := Lib.hid (fun wx => num_any jk jn (S jt) ka ia jks.length kc jis.length ic wx)
  have cF := Lib.hid (fun wx => fld_any jk jn jt ka ia jks.length kc jis.length ic wx)
  have cV := Lib.hid (fun wx => valid_any (S jt) wx (by rw [S_size]; exact s1))
  rw [S_data] at cV
  obtain ⟨b0, b1, b2, b3, b4⟩ := (cells5 (al_at (w := w) (.cells #[.int .i64 jk, .int .i64 jn, .string (S jt), .slice ka jks.length kc, .slice ia jis.length ic] 25) rfl)).1
  have K1 := Lib.hid ((Keeps.refl w).alloc (.cells #[.int .i64 jk, .int .i64 jn, .string (S jt), .slice ka jks.length kc, .slice ia jis.length ic] 25))
  rw [aloneC]
  generalize hnk : jks.length = nk at *
  generalize hni : jis.length = ni at *
  clear hj hkv hiv hF s1 s2 s3 s4 hnk hni
  generalize hP : (if jk < 1 ∨ 6 < jk then 9 else if numB jk jn = false ∨ fldB jk jt nk ni = false then 2 else if validL jt = false then 6 else keysC jks : Nat) = P
  by_cases hr : jk < 1 ∨ 6 < jk
  · rw [if_pos hr] at hP
    subst hP
    by_cases h1 : jk < 1
    · have f1 : decide (jk < 1) = true := decide_eq_true h1
      clear hr h1
      go_enter Tryd.func45, Tryd.ntmps45
      go_wp2
      go_ret
      exact ⟨rfl, K1.out⟩
    · have f1 : decide (jk < 1) = false := decide_eq_false h1
      have f2 : decide (6 < jk) = true := decide_eq_true (by omega)
      clear hr h1
      go_enter Tryd.func45, Tryd.ntmps45
      go_wp2
      go_ret
      exact ⟨rfl, K1.out⟩
  · rw [if_neg hr] at hP
    have f1 : decide (jk < 1) = false := decide_eq_false (by omega)
    have f2 : decide (6 < jk) = false := decide_eq_false (by omega)
    clear hr
    have HP := Lib.hid hP
    clear hP
    cases hN : numB jk jn
    · rw [hN] at cN HP
      have hPv : P = 2 := by rw [← HP.out, if_pos (.inl rfl)]
      subst hPv
      clear hN HP
      go_enter Tryd.func45, Tryd.ntmps45
      go_wp2_with fail
      refine (cN.out _).mono ?_
      rintro e w2 ⟨rfl, k2⟩
      have K2 := Lib.hid (K1.out.trans k2)
      clear k2
      go_wp2
      go_ret
      exact ⟨rfl, K2.out⟩
    · rw [hN] at cN HP
      cases hFl : fldB jk jt nk ni
      · rw [hFl] at cF HP
        have hPv : P = 2 := by rw [← HP.out, if_pos (.inr rfl)]
        subst hPv
        clear hN HP hFl
        go_enter Tryd.func45, Tryd.ntmps45
        go_wp2_with fail
        refine (cN.out _).mono ?_
        rintro e w2 ⟨rfl, k2⟩
        have K2 := Lib.hid (K1.out.trans k2)
        have y0 := k2.cell b0
        have y1 := k2.cell b1
        have y2 := k2.cell b2
        have y3 := k2.cell b3
        have y4 := k2.cell b4
        clear k2 b0 b1 b2 b3 b4
        go_wp2_with fail
        refine (cF.out _).mono ?_
        rintro e w3 ⟨rfl, k3⟩
        have K3 := Lib.hid (K2.out.trans k3)
        clear k3 y0 y1 y2 y3 y4
        go_wp2
        go_ret
        exact ⟨rfl, K3.out⟩
      · rw [hFl] at cF HP
        cases hV : validL jt
        · rw [hV] at cV HP
          have hPv : P = 6 := by rw [← HP.out, if_neg (by simp), if_pos rfl]
          subst hPv
          clear hN HP hFl hV
          go_enter Tryd.func45, Tryd.ntmps45
          go_wp2_with fail
          refine (cN.out _).mono ?_
          rintro e w2 ⟨rfl, k2⟩
          have K2 := Lib.hid (K1.out.trans k2)
          have y0 := k2.cell b0
          have y1 := k2.cell b1
          have y2 := k2.cell b2
          have y3 := k2.cell b3
          have y4 := k2.cell b4
          clear k2 b0 b1 b2 b3 b4
          go_wp2_with fail
          refine (cF.out _).mono ?_
          rintro e w3 ⟨rfl, k3⟩
          have K3 := Lib.hid (K2.out.trans k3)
          have x2 := k3.cell y2
          clear k3 y0 y1 y2 y3 y4
          go_wp2_with fail
          refine (cV.out _).mono ?_
          rintro e w4 ⟨rfl, k4⟩
          have K4 := Lib.hid (K3.out.trans k4)
          clear k4 x2
          go_wp2
          go_ret
          exact ⟨rfl, K4.out⟩
        · rw [hV] at cV HP
          have hPv : P = keysC jks := by rw [← HP.out, if_neg (by simp), if_neg (by simp)]
          subst hPv
          clear hN HP hFl hV
          go_enter Tryd.func45, Tryd.ntmps45
          go_wp2_with fail
          refine (cN.out _).mono ?_
          rintro e w2 ⟨rfl, k2⟩
          have K2 := Lib.hid (K1.out.trans k2)
          have y0 := k2.cell b0
          have y1 := k2.cell b1
          have y2 := k2.cell b2
          have y3 := k2.cell b3
          have y4 := k2.cell b4
          clear k2 b0 b1 b2 b3 b4
          go_wp2_with fail
          refine (cF.out _).mono ?_
          rintro e w3 ⟨rfl, k3⟩
          have K3 := Lib.hid (K2.out.trans k3)
          have x2 := k3.cell y2
          have x3 := k3.cell y3
          clear k3 y0 y1 y2 y3 y4
          go_wp2_with fail
          refine (cV.out _).mono ?_
          rintro e w4 ⟨rfl, k4⟩
          have K4 := Lib.hid (K3.out.trans k4)
          have z3 := k4.cell x3
          clear k4 x2 x3
          go_wp2_with fail
          refine (cK.out _ K4.out).mono ?_
          rintro e w5 ⟨rfl, k5⟩
          have K5 := Lib.hid (K4.out.trans k5)
          clear k5 z3
          go_wp2
          go_ret
          exact ⟨rfl, K5.out⟩

end Go.Proofs.YtljkeladdplhlaaDoor
namespace Go.Proofs.YtljkeladdplhlaaDoor
open Go.RowKit

theorem allCL_drop (l : List J) (k : Nat) (h : k < l.length) : allCL (l.drop k) = if allC (l[k]'h) ≠ 0 then allC (l[k]'h) else allCL (l.drop (k + 1)) := by
  rw [List.drop_eq_getElem_cons h, allCL]
theorem nodesJ_get : ∀ (l : List J) (i : Nat) (h : i < l.length), nodesJ (l[i]'h) ≤ nodesL l
  | [], _, h => by simp at h
  | j :: t, 0, _ => by simp only [List.getElem_cons_zero, nodesL]; omega
  | j :: t, i + 1, h => by have := nodesJ_get t i (by simpa using h); simp only [List.getElem_cons_succ, nodesL]; omega

set_option maxHeartbeats 8000000 in
set_option maxRecDepth 100000 in
theorem all_any : ∀ (n : Nat) (j : J) (v : Value) (F : Nat → Prop) (w : World), nodesJ j ≤ n → n ≤ 1000000 → IsJ w F j v → (∀ i, F i → i < w.heap.size) → SmJ j → Calls Tryd.prog 28 #[v] w (RetE (allC j) w) := by
  intro n
  induction n with
  | zero => intro j v F w h; rw [nodesJ_eq] at h; omega
  | succ n ih =>
    intro j v F w hn hn6 hj hF hs
    have cA := Lib.hid (fun (wx : World) (k : Keeps w wx) => alone_any j v F wx (IsJ.keeps (fun i hi => k.block i (hF i hi)) _ _ hj) (fun i hi => Nat.lt_of_lt_of_le (hF i hi) k.size) hs)
    obtain ⟨jk, jn, jt, jks, jis, kv, iv, rfl, rfl, hkv, hiv⟩ := hj.parts
    have hsm := hs
    unfold SmJ at hsm
    obtain ⟨s1, s2, s3, s4⟩ := hsm
    obtain ⟨ka, kc, rfl⟩ := hkv.form
    obtain ⟨ia, ic, rfl⟩ := hiv.form
    rw [nodesJ] at hn
    have hlen := nodesL_len jis
    obtain ⟨b0, b1, b2, b3, b4⟩ := (cells5 (al_at (w := w) (.cells #[.int .i64 jk, .int .i64 jn, .string (S jt), .slice ka jks.length kc, .slice ia jis.length ic] 25) rfl)).1
    have K1 := Lib.hid ((Keeps.refl w).alloc (.cells #[.int .i64 jk, .int .i64 jn, .string (S jt), .slice ka jks.length kc, .slice ia jis.length ic] 25))
    rw [allC]
    have HIV := Lib.hid hiv
    have HF := Lib.hid hF
    have HS4 := Lib.hid s4
    have IH := Lib.hid ih
    generalize aloneC (.mk jk jn jt jks jis) = A at *
    have hnn := hn
    generalize hM : jis.length = M at *
    have HM := Lib.hid hM
    clear hj hkv hiv hF hs s1 s2 s3 s4 ih hM
    by_cases hA : A ≠ 0
    · rw [if_pos hA]
      have f1 : ((A : Int) != 0) = true := by simp; omega
      clear hA
      go_enter Tryd.func28, Tryd.ntmps28
      go_wp2_with fail
      refine (cA.out _ K1.out).mono ?_
      rintro e w2 ⟨rfl, k2⟩
      have K2 := Lib.hid (K1.out.trans k2)
      clear k2
      go_wp2
      go_ret
      exact ⟨rfl, K2.out⟩
    · rw [if_neg hA]
      have f1 : ((A : Int) != 0) = false := by simp; omega
      clear hA
      go_enter Tryd.func28, Tryd.ntmps28
      go_wp2_with fail
      refine (cA.out _ K1.out).mono ?_
      rintro e w2 ⟨rfl, k2⟩
      have K2 := Lib.hid (K1.out.trans k2)
      have y4 := k2.cell b4
      clear k2 b0 b1 b2 b3 b4 cA
      go_wp2
      clear y4
      go_loopg [15] (M + 1) (fun g i wr => ∃ k : Nat, i = .int .i64 (k : Int) ∧ k ≤ M ∧ M - k < g ∧ Hid (Keeps w wr ∧ allCL jis = allCL (jis.drop k)))
      case atStart => exact ⟨0, rfl, Nat.zero_le _, by omega, Lib.hid ⟨K2.out, rfl⟩⟩
      case round =>
        obtain ⟨k, rfl, hkM, hkg, hA⟩ := hrel
        by_cases hlt : k < M
        · have hlt' : k < jis.length := by rw [HM.out]; exact hlt
          obtain ⟨gx, ox, cx, hxe, jk2, jn2, jt2, jks2, its, kv2, jv2, hitem, hkt2, hit2, x0, x1, x2, x3, x4⟩ := HIV.out.get k hlt'
          have hitJ : IsJ w F (jis[k]'hlt') (.agg #[.int .i64 jk2, .int .i64 jn2, .string (S jt2), kv2, jv2]) := by
            rw [hitem]; unfold IsJ; exact ⟨kv2, jv2, rfl, hkt2, hit2⟩
          obtain ⟨ka2, kc2, rfl⟩ := hkt2.form
          obtain ⟨ja2, jc2, rfl⟩ := hit2.form
          obtain ⟨rfl, -, rfl⟩ : ia = some ⟨gx, ox, none⟩ ∧ M = jis.length ∧ ic = cx := by simpa using hxe
          have hkk := hA.out.1
          have y0 := hkk.cell x0
          have y1 := hkk.cell x1
          have y2 := hkk.cell x2
          have y3 := hkk.cell x3
          have y4 := hkk.cell x4
          have hdr := allCL_drop jis k hlt'
          have hnj := nodesJ_get jis k hlt'
          have hsj := SmL.get jis k hlt' HS4.out
          have cI := Lib.hid (fun (wx : World) (kx : Keeps w wx) => IH.out (jis[k]'hlt') _ F wx (by omega) (by omega) (IsJ.keeps (fun i hi => kx.block i (HF.out i hi)) _ _ hitJ) (fun i hi => Nat.lt_of_lt_of_le (HF.out i hi) kx.size) hsj)
          generalize jis[k]'hlt' = jx at *
          have HD := Lib.hid hdr
          have HA2 := Lib.hid hA.out.2
          have KK := Lib.hid hkk
          have q1 : (0 : Int) ≤ (k : Int) := by omega
          have q2 : (k : Int) < (M : Int) := by omega
          clear hxe hitem hkt2 hit2 x0 x1 x2 x3 x4 hitJ hdr hnj hsj hA hkk
          generalize hX : allC jx = X at *
          have HX := Lib.hid hX
          clear hX
          go_wp2_with fail
          refine (cI.out _ (KK.out.alloc _)).mono ?_
          rintro e w4 ⟨rfl, k4⟩
          have K4 := Lib.hid ((KK.out.alloc _).trans k4)
          clear k4
          by_cases hX0 : X ≠ 0
          · have f3 : ((X : Int) != 0) = true := by simp; omega
            have hres : allCL jis = X := by rw [HA2.out, HD.out, if_pos hX0]
            have HR := Lib.hid hres
            clear hres hX0
            go_wp2
            go_ret
            exact ⟨by rw [HR.out]; rfl, K4.out⟩
          · have f3 : ((X : Int) != 0) = false := by simp; omega
            have hres : allCL jis = allCL (jis.drop (k + 1)) := by rw [HA2.out, HD.out, if_neg hX0]
            have HR := Lib.hid hres
            clear hres hX0
            go_wp2
            cases gk with
            | zero => omega
            | succ g2 =>
              go_roundg g2
              case measure => omega
              case rel => exact ⟨k + 1, by go_num, by omega, by omega, Lib.hid ⟨K4.out, HR.out⟩⟩
        · have hres : allCL jis = 0 := by rw [hA.out.2, List.drop_eq_nil_of_le (by rw [HM.out]; omega), allCL]
          have HR := Lib.hid hres
          have KK := Lib.hid hA.out.1
          clear hres hA
          go_wp2
          go_ret
          exact ⟨by rw [HR.out]; rfl, KK.out⟩

end Go.Proofs.YtljkeladdplhlaaDoor
namespace Go.Proofs.YtljkeladdplhlaaDoor
open Go.RowKit

set_option maxHeartbeats 8000000 in
set_option maxRecDepth 100000 in
theorem check_any (j : J) (v : Value) (F : Nat → Prop) (w : World) (hj : IsJ w F j v) (hF : ∀ i, F i → i < w.heap.size) (hs : SmJ j) (hb : nodesJ j ≤ 900000) : Calls Tryd.prog 8 #[v] w (RetE (checkC j) w) := by
  have hK : ∀ wx, Keeps w wx → IsJ wx F j v := fun wx k => IsJ.keeps (fun i hi => k.block i (hF i hi)) _ _ hj
  have hFK : ∀ wx, Keeps w wx → ∀ i, F i → i < wx.heap.size := fun wx k i hi => Nat.lt_of_lt_of_le (hF i hi) k.size
  have cD := Lib.hid (fun wx k => depth_any j v F 8 wx (hK wx k) (hFK wx k) hb (by omega) (by omega))
  have cC := Lib.hid (fun wx k => count_any j v F 400 wx (hK wx k) (hFK wx k) (by omega) (by omega) (by omega))
  have cA := Lib.hid (fun wx k => all_any (nodesJ j) j v F wx (Nat.le_refl _) (by omega) (hK wx k) (hFK wx k) hs)
  unfold checkC
  generalize allC j = A at *
  generalize depthJ j = D at *
  generalize nodesJ j = C at *
  obtain ⟨jk, jn, jt, jks, jis, kv, iv, rfl, rfl, hkv, hiv⟩ := hj.parts
  obtain ⟨ka, kc, rfl⟩ := hkv.form
  obtain ⟨ia, ic, rfl⟩ := hiv.form
  obtain ⟨b0, b1, b2, b3, b4⟩ := (cells5 (al_at (w := w) (.cells #[.int .i64 jk, .int .i64 jn, .string (S jt), .slice ka jks.length kc, .slice ia jis.length ic] 25) rfl)).1
  have K1 := Lib.hid ((Keeps.refl w).alloc (.cells #[.int .i64 jk, .int .i64 jn, .string (S jt), .slice ka jks.length kc, .slice ia jis.length ic] 25))
  clear hj hkv hiv hF hs hK hFK
  generalize hP : (if 8 < D then 7 else if 400 < C then 4 else A : Nat) = P
  have HP := Lib.hid hP
  clear hP
  go_enter Tryd.func8, Tryd.ntmps8
  go_wp2_with fail
  refine (cD.out _ K1.out).mono ?_
  rintro e w2 ⟨d, rfl, hd1, hd2, hd3, k2⟩
  have K2 := Lib.hid (K1.out.trans k2)
  have y0 := k2.cell b0
  have y1 := k2.cell b1
  have y2 := k2.cell b2
  have y3 := k2.cell b3
  have y4 := k2.cell b4
  clear k2 b0 b1 b2 b3 b4
  by_cases h8 : 8 < D
  · have f1 : decide ((8 : Int) < (d : Int)) = true := decide_eq_true (hd2 (by omega))
    have hPv : P = 7 := by rw [← HP.out, if_pos h8]
    subst hPv
    clear h8 hd1 hd2 hd3 HP
    go_wp2
    go_ret
    exact ⟨rfl, K2.out⟩
  · have f1 : decide ((8 : Int) < (d : Int)) = false := decide_eq_false (by omega)
    have HP2 := Lib.hid (by have := HP.out; rwa [if_neg h8] at this : (if 400 < C then 4 else A : Nat) = P)
    clear h8 hd1 hd2 hd3 HP
    go_wp2_with fail
    refine (cC.out _ K2.out).mono ?_
    rintro e w3 ⟨c, rfl, hc1, hc2, hc3, k3⟩
    have K3 := Lib.hid (K2.out.trans k3)
    have x0 := k3.cell y0
    have x1 := k3.cell y1
    have x2 := k3.cell y2
    have x3 := k3.cell y3
    have x4 := k3.cell y4
    clear k3 y0 y1 y2 y3 y4
    by_cases h4 : 400 < C
    · have f2 : decide ((400 : Int) < (c : Int)) = true := decide_eq_true (hc2 (by omega))
      have hPv : P = 4 := by rw [← HP2.out, if_pos h4]
      subst hPv
      clear h4 hc1 hc2 hc3 HP2
      go_wp2
      go_ret
      exact ⟨rfl, K3.out⟩
    · have f2 : decide ((400 : Int) < (c : Int)) = false := decide_eq_false (by omega)
      have hPv : P = A := by rw [← HP2.out, if_neg h4]
      subst hPv
      clear h4 hc1 hc2 hc3 HP2
      go_wp2_with fail
      refine (cA.out _ K3.out).mono ?_
      rintro e w4 ⟨rfl, k4⟩
      have K4 := Lib.hid (K3.out.trans k4)
      clear k4
      go_wp2
      go_ret
      exact ⟨rfl, K4.out⟩
end Go.Proofs.YtljkeladdplhlaaDoor
