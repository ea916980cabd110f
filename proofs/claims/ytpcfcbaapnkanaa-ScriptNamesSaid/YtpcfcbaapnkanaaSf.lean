/-
  Scripts compared: EqualFunc of steps, Same.
-/
import Derived.Test.YtpcfcbaapnkanaaSm
namespace Go.Proofs.Ytpcfcbaapnkanaa
open Go.RowKit

set_option maxHeartbeats 8000000 in
set_option maxRecDepth 100000 in
theorem same_steps (A B : Option Addr) (ca cb : Nat) (za zb : List Ms) (w : World) (ha : StepsAt w A za) (hb : StepsAt w B zb) (hl : za.length ≤ 1000000000) (hfit : ∀ m, m ∈ za → m.s.cuts.length ≤ 1000000000) :
    Calls Try.prog 30 #[.slice A za.length ca, .slice B zb.length cb, .func (.func 31) #[] #[]] w (Ret (.bool (decide (steps za = steps zb))) w) := by
  have la : (steps za).length = za.length := by simp [steps]
  have lb : (steps zb).length = zb.length := by simp [steps]
  by_cases hne : za.length = zb.length
  · have HA := Lib.hid ha
    have HB := Lib.hid hb
    have HFIT := Lib.hid hfit
    generalize hR : decide (steps za = steps zb) = R
    have HR := Lib.hid hR
    generalize hL : za.length = L at *
    have HLa := Lib.hid hL
    have HLb := Lib.hid hne
    have HSa := Lib.hid la
    have HSb := Lib.hid lb
    rw [← hne]
    have f0 : ((L : Int) != (L : Int)) = false := by simp
    clear ha hb hR hL hne la lb hfit
    go_enter Try.func30, Try.ntmps30
    go_wp2
    clear f0
    go_loopg [17] (L + 1) (fun g i wr => ∃ k : Nat, i = .int .i64 (k : Int) ∧ k ≤ L ∧ L - k < g ∧ Hid (Keeps w wr ∧ (steps za).take k = (steps zb).take k))
    case atStart => exact ⟨0, rfl, Nat.zero_le _, by omega, Lib.hid ⟨Keeps.refl w, rfl⟩⟩
    case round =>
      obtain ⟨k, rfl, hkL, hkg, hI⟩ := hrel
      by_cases hlt : k < L
      · have h1 : k < za.length := by rw [HLa.out]; exact hlt
        have h2 : k < zb.length := by rw [← HLb.out]; exact hlt
        have s1 : k < (steps za).length := by rw [HSa.out]; exact hlt
        have s2 : k < (steps zb).length := by rw [HSb.out]; exact h2
        obtain ⟨hK, htk⟩ := hI.out
        obtain ⟨⟨g1, o1, hA1, c1⟩, m1⟩ := (HA.out.keeps hK) k h1
        obtain ⟨⟨g2, o2, hB1, c2⟩, m2⟩ := (HB.out.keeps hK) k h2
        subst hA1 hB1
        have t1 := List.take_succ_eq_append_getElem s1
        have t2 := List.take_succ_eq_append_getElem s2
        have x1 : (steps za)[k]'s1 = (za[k]'h1).s := by simp [steps]
        have x2 : (steps zb)[k]'s2 = (zb[k]'h2).s := by simp [steps]
        have HT : Hid ((za[k]'h1).s = (zb[k]'h2).s → (steps za).take (k + 1) = (steps zb).take (k + 1)) := Lib.hid (fun e => by rw [t1, t2, htk, x1, x2, e])
        have HF : Hid ((za[k]'h1).s ≠ (zb[k]'h2).s → R = false) := Lib.hid (fun e => by
          rw [← HR.out]
          refine decide_eq_false (fun e2 => e ?_)
          rw [← x1, ← x2]
          exact List.getElem_of_eq e2 s1)
        have hfx := HFIT.out _ (List.getElem_mem h1)
        have HK := Lib.hid hK
        clear t1 t2 x1 x2 s1 s2
        generalize za[k]'h1 = x at *
        generalize zb[k]'h2 = y at *
        have K2 := Lib.hid (((Keeps.refl wr).alloc (.cells (msC x) 31)).alloc (.cells (msC y) 31))
        have cS := Lib.hid (same_step x y _ (CutsAt.keeps m1 K2.out) (CutsAt.keeps m2 K2.out) hfx)
        obtain ⟨d0, d1, d2, d3, d4, d5, d6⟩ := c1.seven
        obtain ⟨e0, e1, e2, e3, e4, e5, e6⟩ := c2.seven
        have b1 : g1 < wr.heap.size := World.block_lt_of_cell? _ _ d0
        have b2 : g2 < wr.heap.size := World.block_lt_of_cell? _ _ e0
        have f1 : decide ((k : Int) < (L : Int)) = true := by simp; omega
        have f1' : decide (k < L) = true := by simpa using hlt
        have q1 : (0 : Int) ≤ (k : Int) := by omega
        have q2 : (k : Int) < (L : Int) := by omega
        clear htk hI hK m1 m2 c1 c2
        unfold msC at *
        by_cases hxy : x.s = y.s
        · rw [decide_eq_true hxy] at cS
          have hT := Lib.hid (HT.out hxy)
          clear hxy
          go_wp2_with fail
          refine cS.out.mono ?_
          rintro e w4 ⟨rfl, k4⟩
          have K4 := Lib.hid ((HK.out.trans K2.out).trans k4)
          clear k4 d0 d1 d2 d3 d4 d5 d6 e0 e1 e2 e3 e4 e5 e6
          go_wp2
          cases gk with
          | zero => omega
          | succ g2 =>
            go_roundg g2
            case measure => omega
            case rel => exact ⟨k + 1, by go_num, by omega, by omega, Lib.hid ⟨K4.out, hT.out⟩⟩
        · rw [decide_eq_false hxy] at cS
          have hF := Lib.hid (HF.out hxy)
          clear hxy
          go_wp2_with fail
          refine cS.out.mono ?_
          rintro e w4 ⟨rfl, k4⟩
          have K4 := Lib.hid ((HK.out.trans K2.out).trans k4)
          clear k4 d0 d1 d2 d3 d4 d5 d6 e0 e1 e2 e3 e4 e5 e6
          go_wp2
          go_ret
          exact ⟨by rw [hF.out]; rfl, K4.out⟩
      · obtain ⟨hK, htk⟩ := hI.out
        rw [List.take_of_length_le (by rw [HSa.out]; omega), List.take_of_length_le (by rw [HSb.out, ← HLb.out]; omega)] at htk
        have hR : R = true := by rw [← HR.out]; exact decide_eq_true htk
        have HR2 := Lib.hid hR
        have HK := Lib.hid hK
        have f1 : decide ((k : Int) < (L : Int)) = false := by simp; omega
        have f1' : decide (k < L) = false := by simpa using hlt
        clear htk hI hR hK
        go_wp2
        go_ret
        exact ⟨by rw [HR2.out]; rfl, HK.out⟩
  · have hz : steps za ≠ steps zb := fun e => hne (by rw [← la, ← lb, e])
    rw [decide_eq_false hz]
    have f0 : ((za.length : Int) != (zb.length : Int)) = true := by simp; omega
    clear la lb hz ha hb
    generalize za.length = la at *
    generalize zb.length = lb at *
    go_enter Try.func30, Try.ntmps30
    go_wp2
    go_ret
    exact ⟨rfl, Keeps.refl _⟩

set_option maxHeartbeats 8000000 in
set_option maxRecDepth 100000 in
theorem same_scr (bot bot' : List UInt8) (q q' : Int) (A B : Option Addr) (ca cb : Nat) (za zb : List Ms) (w : World) (ha : StepsAt w A za) (hb : StepsAt w B zb) (hl : za.length ≤ 1000000000) (hfit : ∀ m, m ∈ za → m.s.cuts.length ≤ 1000000000) :
    Calls Try.prog 13 #[.agg (scC bot q A za.length ca), .agg (scC bot' q' B zb.length cb)] w (Ret (.bool (decide (bot = bot' ∧ q = q' ∧ steps za = steps zb))) w) := by
  have KX := Lib.hid (((Keeps.refl w).alloc (.cells (scC bot q A za.length ca) 25)).alloc (.cells (scC bot' q' B zb.length cb) 25))
  have cE := Lib.hid (same_steps A B ca cb za zb _ (ha.keeps KX.out) (hb.keeps KX.out) hl hfit)
  clear ha hb hl hfit
  unfold scC at *
  generalize za.length = L at *
  generalize zb.length = L' at *
  by_cases h1 : bot = bot'
  · have f2 : ((S bot).toList == (S bot').toList) = true := by rw [S_eq]; simpa using h1
    by_cases h2 : q = q'
    · have f3 : (q == q') = true := by simpa using h2
      have e0 : decide (bot = bot' ∧ q = q' ∧ steps za = steps zb) = decide (steps za = steps zb) := by simp [h1, h2]
      rw [e0]
      clear e0 h1 h2
      generalize decide (steps za = steps zb) = R at *
      go_enter Try.func13, Try.ntmps13
      go_wp2_with fail
      refine cE.out.mono ?_
      rintro e w1 ⟨rfl, k1⟩
      have K1 := Lib.hid (KX.out.trans k1)
      clear k1
      go_wp2
      go_ret
      exact ⟨rfl, K1.out⟩
    · have f3 : (q == q') = false := by simpa using h2
      rw [decide_eq_false (fun h => h2 h.2.1)]
      clear h1 h2
      go_enter Try.func13, Try.ntmps13
      go_wp2
      go_ret
      exact ⟨rfl, KX.out⟩
  · have f2 : ((S bot).toList == (S bot').toList) = false := by rw [S_eq]; simpa using h1
    rw [decide_eq_false (fun h => h1 h.1)]
    clear h1
    go_enter Try.func13, Try.ntmps13
    go_wp2
    go_ret
    exact ⟨rfl, KX.out⟩
end Go.Proofs.Ytpcfcbaapnkanaa
