/-
  What is wrong with a script, and at which step: Check.
-/
import Derived.Test.YtpcfcbaapnkanaaChs
namespace Go.Proofs.Ytpcfcbaapnkanaa
open Go.RowKit

theorem PS.stepsC_at {I : Type} (K : PS.Kit I) : ∀ (j : Nat) (l : List (PS.Stp I)) (k : Nat) (hk : k < l.length), (∀ s, s ∈ l.take k → PS.stepC K s = 0) → PS.stepC K (l[k]'hk) ≠ 0 → PS.stepsC K j l = (j + k, PS.stepC K (l[k]'hk))
  | j, [], k, hk, _, _ => by simp at hk
  | j, a :: r, 0, _, _, h => by
    show (if PS.stepC K a ≠ 0 then _ else _) = _
    rw [if_pos (by simpa using h)]
    rfl
  | j, a :: r, k + 1, hk, h, hn => by
    show (if PS.stepC K a ≠ 0 then _ else _) = _
    rw [if_neg (by simpa using h a (by simp))]
    rw [PS.stepsC_at K (j + 1) r k (by simpa using hk) (fun s hs => h s (by rw [List.take_succ_cons]; exact List.mem_cons_of_mem _ hs)) (by simpa using hn)]
    have : j + 1 + k = j + (k + 1) := by omega
    rw [this]
    simp

/-- What fits into memory. -/
def MsFit (m : Ms) : Prop := m.s.cuts.length ≤ maxLen ∧ m.s.inp.t.length ≤ maxLen
def steps (l : List Ms) : List St := l.map Ms.s
def retC (p : Nat × Int) : Value := .tuple #[.int .i64 (p.1 : Int), .int .i64 p.2]

set_option maxHeartbeats 8000000 in
set_option maxRecDepth 100000 in
theorem check_scr (bot : List UInt8) (q : Int) (A : Option Addr) (c : Nat) (l : List Ms) (w : World) (hA : StepsAt w A l) (hlen : l.length ≤ maxLen) (hb : bot.length ≤ maxLen) (hfit : ∀ m, m ∈ l → MsFit m) :
    Calls Try.prog 12 #[.agg (scC bot q A l.length c)] w (Ret (retC (PS.scrC K0 ⟨bot, q, steps l⟩)) w) := by
  have cU := Lib.hid (fun wx => user_any (S bot) wx hb)
  have KX := Lib.hid ((Keeps.refl w).alloc (.cells (scC bot q A l.length c) 25))
  have HB := Lib.hid (ScB.new w bot q A l.length c)
  have hsl : (steps l).length = l.length := by simp [steps]
  have e0 : PS.scrC K0 ⟨bot, q, steps l⟩ = (if userB bot = false then (0, 11) else if q < 1 ∨ 1024 < q then (0, 2) else if 300 < l.length then (0, 4) else PS.stepsC K0 0 (steps l)) := by rw [← hsl]; rfl
  rw [e0]
  rw [S_data] at cU
  clear e0 hsl hb
  unfold maxLen at hlen
  have HA := Lib.hid hA
  have HF := Lib.hid hfit
  clear hA hfit
  generalize userB bot = u at *
  generalize hR : PS.stepsC K0 0 (steps l) = R
  have HR := Lib.hid hR
  clear hR
  generalize hL : l.length = L at *
  have HL := Lib.hid hL
  clear hL
  obtain ⟨d0, d1, d2⟩ := HB.out.cells
  generalize hW : w.alloc (.cells (scC bot q A L c) 25) = W at *
  unfold scC at hW ⊢
  cases u with
  | false =>
    rw [if_pos rfl]
    go_enter Try.func12, Try.ntmps12
    go_wp2_with fail
    clear hW
    refine (cU.out _).mono ?_
    rintro e w1 ⟨rfl, k1⟩
    have K1 := Lib.hid (KX.out.trans k1)
    have B1 := Lib.hid (HB.out.keeps k1)
    clear k1 d0 d1 d2
    obtain ⟨d0, d1, d2⟩ := B1.out.cells
    go_wp2
    go_ret2
    exact ⟨rfl, K1.out⟩
  | true =>
    rw [if_neg (by simp)]
    by_cases h1 : q < 1
    · rw [if_pos (.inl h1)]
      go_enter Try.func12, Try.ntmps12
      go_wp2_with fail
      clear hW
      refine (cU.out _).mono ?_
      rintro e w1 ⟨rfl, k1⟩
      have K1 := Lib.hid (KX.out.trans k1)
      have B1 := Lib.hid (HB.out.keeps k1)
      clear k1 d0 d1 d2
      obtain ⟨d0, d1, d2⟩ := B1.out.cells
      go_wp2
      go_ret2
      exact ⟨rfl, K1.out⟩
    · have g1 : 1 ≤ q := by omega
      by_cases h2 : 1024 < q
      · rw [if_pos (.inr h2)]
        clear h1
        go_enter Try.func12, Try.ntmps12
        go_wp2_with fail
        clear hW
        refine (cU.out _).mono ?_
        rintro e w1 ⟨rfl, k1⟩
        have K1 := Lib.hid (KX.out.trans k1)
        have B1 := Lib.hid (HB.out.keeps k1)
        clear k1 d0 d1 d2
        obtain ⟨d0, d1, d2⟩ := B1.out.cells
        go_wp2
        go_ret2
        exact ⟨rfl, K1.out⟩
      · rw [if_neg (by omega)]
        have g2 : q ≤ 1024 := by omega
        clear h1 h2
        by_cases h3 : 300 < L
        · rw [if_pos h3]
          have g3 : (300 : Int) < (L : Int) := by omega
          go_enter Try.func12, Try.ntmps12
          go_wp2_with fail
          clear hW
          refine (cU.out _).mono ?_
          rintro e w1 ⟨rfl, k1⟩
          have K1 := Lib.hid (KX.out.trans k1)
          have B1 := Lib.hid (HB.out.keeps k1)
          clear k1 d0 d1 d2
          obtain ⟨d0, d1, d2⟩ := B1.out.cells
          go_wp2
          go_ret2
          exact ⟨rfl, K1.out⟩
        · rw [if_neg h3]
          have g3 : (L : Int) ≤ 300 := by omega
          clear h3
          go_enter Try.func12, Try.ntmps12
          go_wp2_with fail
          clear hW
          refine (cU.out _).mono ?_
          rintro e w1 ⟨rfl, k1⟩
          have K1 := Lib.hid (KX.out.trans k1)
          have B1 := Lib.hid (HB.out.keeps k1)
          clear k1 d0 d1 d2
          obtain ⟨d0, d1, d2⟩ := B1.out.cells
          go_wp2
          go_loopg [26] (L + 1) (fun g i wr => ∃ k : Nat, i = .int .i64 (k : Int) ∧ k ≤ L ∧ L - k < g ∧ Hid (Keeps w wr ∧ ∀ s, s ∈ (steps l).take k → PS.stepC K0 s = 0))
          case atStart => exact ⟨0, rfl, Nat.zero_le _, by omega, Lib.hid ⟨K1.out, fun s hs => by simp at hs⟩⟩
          case round =>
            obtain ⟨k, rfl, hkL, hkg, hI⟩ := hrel
            clear d0 d1 d2
            by_cases hlt : k < L
            · have hlt' : k < l.length := by rw [HL.out]; exact hlt
              have hls : k < (steps l).length := by simpa [steps] using hlt'
              obtain ⟨hK, hall⟩ := hI.out
              obtain ⟨⟨g, o, hAe, hc⟩, hm⟩ := (HA.out.keeps hK) k hlt'
              have hgs : (steps l)[k]'hls = (l[k]'hlt').s := by simp [steps]
              have hfm := HF.out _ (List.getElem_mem hlt')
              have hgood : Hid (PS.stepC K0 (l[k]'hlt').s = 0 → ∀ s, s ∈ (steps l).take (k + 1) → PS.stepC K0 s = 0) := Lib.hid (fun h s hs => by
                rw [List.take_succ_eq_append_getElem hls, List.mem_append] at hs
                rcases hs with hs | hs
                · exact hall s hs
                · obtain rfl : s = _ := by simpa using hs
                  rw [hgs]; exact h)
              have hbad : Hid (PS.stepC K0 (l[k]'hlt').s ≠ 0 → R = (k, PS.stepC K0 (l[k]'hlt').s)) := Lib.hid (fun h => by
                rw [← HR.out, PS.stepsC_at K0 0 (steps l) k hls hall (by rw [hgs]; exact h), hgs]; simp)
              clear hls hgs
              generalize l[k]'hlt' = m at *
              have cS := Lib.hid (fun wx (kx : Keeps wr wx) => checkStep_any m wx (CutsAt.keeps hm kx) hfm.1 hfm.2)
              have HK := Lib.hid hK
              have K2 := Lib.hid (hK.alloc (.cells (msC m) 31))
              have C2 := Lib.hid (cS.out _ ((Keeps.refl wr).alloc (.cells (msC m) 31)))
              generalize PS.stepC K0 m.s = r at *
              subst hAe
              obtain ⟨e0, e1, e2, e3, e4, e5, e6⟩ := hc.seven
              have f1 : decide ((k : Int) < (L : Int)) = true := by simp; omega
              have f1' : decide (k < L) = true := by simpa using hlt
              have q1 : (0 : Int) ≤ (k : Int) := by omega
              have q2 : (k : Int) < (L : Int) := by omega
              clear hK hall hc hm hfm hI
              unfold msC at *
              by_cases hr : r = 0
              · subst hr
                have HG := Lib.hid (hgood.out rfl)
                clear hgood hbad
                go_wp2_with fail
                refine C2.out.mono ?_
                rintro e w4 ⟨rfl, k4⟩
                have K4 := Lib.hid (K2.out.trans k4)
                clear k4 e0 e1 e2 e3 e4 e5 e6
                go_wp2
                cases gk with
                | zero => omega
                | succ g2 =>
                  go_roundg g2
                  case measure => omega
                  case rel => exact ⟨k + 1, by go_num, by omega, by omega, Lib.hid ⟨K4.out, HG.out⟩⟩
              · have hb := Lib.hid (hbad.out hr)
                have f0 : (r != 0) = true := by simpa using hr
                clear hgood hbad hr
                go_wp2_with fail
                refine C2.out.mono ?_
                rintro e w4 ⟨rfl, k4⟩
                have K4 := Lib.hid (K2.out.trans k4)
                clear k4 e0 e1 e2 e3 e4 e5 e6
                go_wp2
                go_ret2
                exact ⟨by rw [hb.out]; rfl, K4.out⟩
            · have hRe : Hid (R = (0, 0)) := Lib.hid (by
                rw [← HR.out]
                refine PS.stepsC_of K0 0 _ fun s hs => (hI.out).2 s ?_
                rw [List.take_of_length_le (by simp [steps]; rw [HL.out]; omega)]
                exact hs)
              have HK := Lib.hid hI.out.1
              have f1 : decide ((k : Int) < (L : Int)) = false := by simp; omega
              have f1' : decide (k < L) = false := by simpa using hlt
              clear hI
              go_wp2
              go_ret2
              exact ⟨by rw [hRe.out]; rfl, HK.out⟩
end Go.Proofs.Ytpcfcbaapnkanaa
