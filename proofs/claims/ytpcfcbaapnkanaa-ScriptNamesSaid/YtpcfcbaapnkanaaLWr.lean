/-
  The law ScriptWrong, walked.
-/
import Derived.Test.YtpcfcbaapnkanaaLBk
import Derived.Test.YtpcfcbaapnkanaaOwl
namespace Go.Proofs.Ytpcfcbaapnkanaa
open Go.RowKit

theorem light_40 {bot : List UInt8} {l : List Ms} (h : lightB bot l = true) : l.length ≤ 310 ∧ ∀ m, m ∈ l → m.s.cuts.length ≤ 1000000 := by
  unfold lightB at h
  simp only [Bool.and_eq_true, decide_eq_true_eq] at h
  refine ⟨h.1.1.1, fun m hm => ?_⟩
  have := List.all_eq_true.1 h.2 m hm
  simp only [decide_eq_true_eq] at this
  omega
theorem head_zero (bot : List UInt8) (q : Int) : (PS.scrC K0 ⟨bot, q, []⟩).1 = 0 := by
  unfold PS.scrC
  split
  · rfl
  · split
    · rfl
    · split
      · rfl
      · rfl
/-- A part of a row of the call's own. -/
theorem MsRow.part {w : World} {B g n c : Nat} {l : List Ms} (h : MsRow w B (.slice (some ⟨g, 0, none⟩) n c) l) (ho : ∀ m, m ∈ l → MsOk w m) (i : Nat) (k : List Ms) (hk : ∀ j (hj : j < k.length), ∃ h2 : i + j < l.length, k[j]'hj = l[i + j]'h2) : StepsAt w (some ⟨g, i * 7, none⟩) k := fun j hj => by
  obtain ⟨h2, e⟩ := hk j hj
  obtain ⟨⟨g2, o2, e2, hc⟩, hm⟩ := (MsRow.stand h ho) (i + j) h2
  injection e2 with e2
  injection e2 with e3 e4
  subst e3 e4
  rw [e]
  refine ⟨⟨g, i * 7, rfl, ?_⟩, hm⟩
  have e5 : 0 + (i + j) * 7 = i * 7 + j * 7 := by rw [Nat.add_mul]; omega
  rw [e5] at hc
  exact hc
theorem MsRow.cap {w : World} {B g n c : Nat} {l : List Ms} (h : MsRow w B (.slice (some ⟨g, 0, none⟩) n c) l) : l.length ≤ c := by
  rcases h.2 with ⟨h2, _⟩ | ⟨g0, cap, cur, e, hB, hb, hc, _⟩
  · cases h2
  · injection e with e1 e2 e3
    subst e3
    exact hc
theorem MsRow.some_ {w : World} {B n c : Nat} {A : Option Addr} {l : List Ms} (h : MsRow w B (.slice A n c) l) (hl : l ≠ []) : ∃ g, A = some ⟨g, 0, none⟩ := by
  rcases h.2 with ⟨_, h2⟩ | ⟨g0, cap, cur, e, _⟩
  · exact absurd (List.eq_nil_of_length_eq_zero h2) hl
  · injection e with e1 e2 e3
    exact ⟨g0, e1⟩

theorem fit_steps {l l5 : List Ms} (h : steps l5 = steps l) (hf : ∀ m, m ∈ l → MsFit m) : ∀ m, m ∈ l5 → MsFit m := fun m hm => by
  have h1 : m.s ∈ steps l := by rw [← h]; exact List.mem_map_of_mem hm
  obtain ⟨m2, h2, e⟩ := List.mem_map.1 h1
  have h3 := hf m2 h2
  unfold MsFit at h3 ⊢
  rw [← e]
  exact h3
theorem check_front (bot : List UInt8) (q : Int) (l l5 : List Ms) (g c : Nat) (i B : Nat) (w : World) (hst : steps l5 = steps l) (hrow : MsRow w B (.slice (some ⟨g, 0, none⟩) l5.length c) l5) (ho : ∀ m, m ∈ l5 → MsOwn w B m) (hi : i < l.length) (hb : bot.length ≤ maxLen) (hf : ∀ m, m ∈ l → MsFit m) (hl : l.length ≤ 310)
    (hc : (PS.scrC K0 ⟨bot, q, List.take i (steps l)⟩).2 = 0) (wx : World) (k : Keeps w wx) : Calls Try.prog 12 #[.agg #[.string (S bot), .int .i64 q, .slice (some ⟨g, 0, none⟩) i c]] wx (Ret (.tuple #[.int .i64 0, .int .i64 0]) wx) := by
  have hll : l5.length = l.length := by have := congrArg List.length hst; simpa [steps] using this
  have hS : StepsAt wx (some ⟨g, 0 * 7, none⟩) (l5.take i) := StepsAt.keeps (MsRow.part hrow (fun m hm => (ho m hm).ok) 0 (l5.take i) (fun j hj => ⟨by rw [List.length_take] at hj; omega, by rw [List.getElem_take]; congr 1; omega⟩)) k
  have h := check_scr bot q (some ⟨g, 0 * 7, none⟩) c (l5.take i) wx hS (by rw [List.length_take]; unfold maxLen; omega) hb (fun m hm => fit_steps hst hf m (List.mem_of_mem_take hm))
  have e1 : steps (l5.take i) = List.take i (steps l) := by rw [← hst]; unfold steps; rw [List.map_take]
  have e2 : (l5.take i).length = i := by rw [List.length_take]; omega
  rw [e1, PS.scrC_good K0 _ hc, e2] at h
  exact h
theorem check_one (bot : List UInt8) (q : Int) (l l5 : List Ms) (g c : Nat) (i B : Nat) (r : Int) (w : World) (hst : steps l5 = steps l) (hrow : MsRow w B (.slice (some ⟨g, 0, none⟩) l5.length c) l5) (ho : ∀ m, m ∈ l5 → MsOwn w B m) (hi : i < l.length) (hb : bot.length ≤ maxLen) (hf : ∀ m, m ∈ l → MsFit m)
    (hc : PS.scrC K0 ⟨bot, q, List.take 1 (List.drop i (steps l))⟩ = (0, r)) (c2 : Nat) (wx : World) (k : Keeps w wx) : Calls Try.prog 12 #[.agg #[.string (S bot), .int .i64 q, .slice (some ⟨g, i * 7, none⟩) 1 c2]] wx (Ret (.tuple #[.int .i64 0, .int .i64 r]) wx) := by
  have hll : l5.length = l.length := by have := congrArg List.length hst; simpa [steps] using this
  have e2 : ((l5.drop i).take 1).length = 1 := by rw [List.length_take, List.length_drop]; omega
  have hS : StepsAt wx (some ⟨g, i * 7, none⟩) ((l5.drop i).take 1) := StepsAt.keeps (MsRow.part hrow (fun m hm => (ho m hm).ok) i ((l5.drop i).take 1) (fun j hj => ⟨by omega, by rw [List.getElem_take, List.getElem_drop]⟩)) k
  have h := check_scr bot q (some ⟨g, i * 7, none⟩) c2 ((l5.drop i).take 1) wx hS (by rw [e2]; decide) hb (fun m hm => fit_steps hst hf m (List.mem_of_mem_drop (List.mem_of_mem_take hm)))
  have e1 : steps ((l5.drop i).take 1) = List.take 1 (List.drop i (steps l)) := by rw [← hst]; unfold steps; rw [List.map_take, List.map_drop]
  rw [e1, hc, e2] at h
  exact h

set_option maxHeartbeats 8000000 in
set_option maxRecDepth 100000 in
theorem wrong_any (bot : List UInt8) (q : Int) (A : Option Addr) (c : Nat) (l : List Ms) (w : World) (hO : Opened w bot A l c) :
    Calls Try.prog 7 #[.agg (scC bot q A l.length c)] w (Ret (.bool true) w) := by
  have KX := Lib.hid ((Keeps.refl w).alloc (.cells (scC bot q A l.length c) 25))
  have HB := Lib.hid (ScB.new w bot q A l.length c)
  have cV := Lib.hid (lives_any (w.alloc (.cells (scC bot q A l.length c) 25)))
  have cL := Lib.hid (fun wx (k : Keeps w wx) => light_any bot q A c l wx (hO.at_.keeps k) hO.len hO.bot_)
  have cC := Lib.hid (fun wx (k : Keeps w wx) => check_scr bot q A c l wx (hO.at_.keeps k) hO.len hO.bot_ hO.fit)
  have cN : Hid (∀ wx, Calls Try.prog 12 #[.agg #[.string (S bot), .int .i64 q, .slice none 0 0]] wx (Ret (.tuple #[.int .i64 0, .int .i64 (PS.scrC K0 ⟨bot, q, []⟩).2]) wx)) := Lib.hid (fun wx => by
    have h := check_scr bot q none 0 [] wx (fun i hi => by simp at hi) (by simp) hO.bot_ (fun m hm => by simp at hm)
    unfold retC at h
    have e : steps [] = [] := rfl
    rw [e, head_zero] at h
    exact h)
  have HOP := Lib.hid hO
  have HLT := Lib.hid (fun h => light_40 (bot := bot) (l := l) h)
  have hlm := hO.len
  unfold maxLen at hlm
  clear hO
  generalize lightB bot l = lb at *
  generalize hL : l.length = L at *
  have HL := Lib.hid hL
  clear hL
  generalize hW : w.alloc (.cells (scC bot q A L c) 25) = W at *
  have HW := Lib.hid hW
  obtain ⟨d0, d1, d2⟩ := HB.out.cells
  unfold scC at hW cL cC ⊢
  unfold retC at cC
  cases lb with
  | false =>
    clear cC
    go_enter Try.func7, Try.ntmps7
    go_wp2_with fail
    clear hW
    refine cV.out.mono ?_
    rintro e w1 ⟨rfl, k1⟩
    have K1 := Lib.hid (KX.out.trans k1)
    have B1 := Lib.hid (HB.out.keeps k1)
    clear k1 d0 d1 d2
    obtain ⟨d0, d1, d2⟩ := B1.out.cells
    go_wp2_with fail
    refine (cL.out _ K1.out).mono ?_
    rintro e w2 ⟨rfl, k2⟩
    have K2 := Lib.hid (K1.out.trans k2)
    have B2 := Lib.hid (B1.out.keeps k2)
    clear k2 d0 d1 d2
    go_wp2
    go_ret
    exact ⟨rfl, K2.out⟩
  | true =>
    have HLO := Lib.hid (HLT.out rfl)
    by_cases hr : (PS.scrC K0 ⟨bot, q, steps l⟩).2 = 0
    · rw [PS.scrC_good K0 _ hr] at cC
      clear hr
      go_enter Try.func7, Try.ntmps7
      go_wp2_with fail
      clear hW
      refine cV.out.mono ?_
      rintro e w1 ⟨rfl, k1⟩
      have K1 := Lib.hid (KX.out.trans k1)
      have B1 := Lib.hid (HB.out.keeps k1)
      clear k1 d0 d1 d2
      obtain ⟨d0, d1, d2⟩ := B1.out.cells
      go_wp2_with fail
      refine (cL.out _ K1.out).mono ?_
      rintro e w2 ⟨rfl, k2⟩
      have K2 := Lib.hid (K1.out.trans k2)
      have B2 := Lib.hid (B1.out.keeps k2)
      clear k2 d0 d1 d2

      obtain ⟨d0, d1, d2⟩ := B2.out.cells
      go_wp2_with fail
      refine (cC.out _ K2.out).mono ?_
      rintro e w3 ⟨rfl, k3⟩
      have K3 := Lib.hid (K2.out.trans k3)
      have B3 := Lib.hid (B2.out.keeps k3)
      clear k3 d0 d1 d2
      obtain ⟨d0, d1, d2⟩ := B3.out.cells
      go_wp2
      go_ret
      exact ⟨rfl, K3.out⟩
    · have f0 : ((PS.scrC K0 ⟨bot, q, steps l⟩).2 != 0) = true := by simpa using hr
      have f0' : ((PS.scrC K0 ⟨bot, q, steps l⟩).2 == 0) = false := by simpa using hr
      have hsl : (steps l).length = L := by simp [steps, HL.out]
      by_cases hh : (PS.scrC K0 ⟨bot, q, []⟩).2 = 0
      · by_cases h3 : 300 < L
        · have hp := PS.scrC_long K0 ⟨bot, q, steps l⟩ hh (by simp only; omega)
          rw [hp] at cC f0 f0'
          rw [hh] at cN
          have g3 : (300 : Int) < (L : Int) := by omega
          have g4 : ¬ (L : Int) < 0 := by omega
          have g5 : ((0 : Int) == (L : Int)) = false := by simp; omega
          have g6 : ((L : Int) == 0) = false := by simp; omega
          clear hp hh hr hsl h3
          go_enter Try.func7, Try.ntmps7
          go_wp2_with fail
          clear hW
          refine cV.out.mono ?_
          rintro e w1 ⟨rfl, k1⟩
          have K1 := Lib.hid (KX.out.trans k1)
          have B1 := Lib.hid (HB.out.keeps k1)
          clear k1 d0 d1 d2
          obtain ⟨d0, d1, d2⟩ := B1.out.cells
          go_wp2_with fail
          refine (cL.out _ K1.out).mono ?_
          rintro e w2 ⟨rfl, k2⟩
          have K2 := Lib.hid (K1.out.trans k2)
          have B2 := Lib.hid (B1.out.keeps k2)
          clear k2 d0 d1 d2

          obtain ⟨d0, d1, d2⟩ := B2.out.cells
          go_wp2_with fail
          refine (cC.out _ K2.out).mono ?_
          rintro e w3 ⟨rfl, k3⟩
          have K3 := Lib.hid (K2.out.trans k3)
          have B3 := Lib.hid (B2.out.keeps k3)
          clear k3 d0 d1 d2
          obtain ⟨d0, d1, d2⟩ := B3.out.cells

          have N3 := Lib.hid (cN.out (w3.alloc (.cells #[.string (S bot), .int .i64 q, .slice none 0 0] 25)))
          have KN := Lib.hid ((Keeps.refl w3).alloc (.cells #[.string (S bot), .int .i64 q, .slice none 0 0] 25))
          go_wp2_with fail
          refine N3.out.mono ?_
          rintro e w4 ⟨rfl, k4⟩
          have K4 := Lib.hid (K3.out.trans (KN.out.trans k4))
          have B4 := Lib.hid (B3.out.keeps (KN.out.trans k4))
          clear k4 d0 d1 d2 N3
          obtain ⟨d0, d1, d2⟩ := B4.out.cells
          go_wp2
          go_ret
          exact ⟨rfl, K4.out⟩
        · obtain ⟨i, hi, hp1, hfr, hone⟩ := PS.scrC_wrong K0 ⟨bot, q, steps l⟩ hr hh (by simp only; omega)
          rw [hp1] at cC
          rw [hh] at cN
          simp only at hi hfr hone
          generalize (PS.scrC K0 ⟨bot, q, steps l⟩).2 = r at *
          have hiL : i < L := by omega
          have g1 : ¬ (L : Int) < (i : Int) := by omega
          have g2 : ((i : Int) == (L : Int)) = false := by simp; omega
          have g3 : ¬ (300 : Int) < (L : Int) := by omega
          have g4 : ¬ (i : Int) < 0 := by omega
          have g6 : ((L : Int) == 0) = false := by simp; omega
          have HFR := Lib.hid hfr
          have HONE := Lib.hid hone
          have cOw := Lib.hid (fun wx (k : Keeps w wx) => own_any bot q A c l wx ⟨HOP.out.at_.keeps k, HOP.out.fit, HOP.out.aok, HOP.out.maok, HOP.out.len, HOP.out.bot_⟩ (by rw [HL.out]; omega) HLO.out.2)
          rw [HL.out] at cOw
          unfold scC at cOw
          clear hp1 hh hr hsl h3 hfr hone hi
          go_enter Try.func7, Try.ntmps7
          go_wp2_with fail
          clear hW
          refine cV.out.mono ?_
          rintro e w1 ⟨rfl, k1⟩
          have K1 := Lib.hid (KX.out.trans k1)
          have B1 := Lib.hid (HB.out.keeps k1)
          clear k1 d0 d1 d2
          obtain ⟨d0, d1, d2⟩ := B1.out.cells
          go_wp2_with fail
          refine (cL.out _ K1.out).mono ?_
          rintro e w2 ⟨rfl, k2⟩
          have K2 := Lib.hid (K1.out.trans k2)
          have B2 := Lib.hid (B1.out.keeps k2)
          clear k2 d0 d1 d2

          obtain ⟨d0, d1, d2⟩ := B2.out.cells
          go_wp2_with fail
          refine (cC.out _ K2.out).mono ?_
          rintro e w3 ⟨rfl, k3⟩
          have K3 := Lib.hid (K2.out.trans k3)
          have B3 := Lib.hid (B2.out.keeps k3)
          clear k3 d0 d1 d2
          obtain ⟨d0, d1, d2⟩ := B3.out.cells

          have N3 := Lib.hid (cN.out (w3.alloc (.cells #[.string (S bot), .int .i64 q, .slice none 0 0] 25)))
          have KN := Lib.hid ((Keeps.refl w3).alloc (.cells #[.string (S bot), .int .i64 q, .slice none 0 0] 25))
          go_wp2_with fail
          refine N3.out.mono ?_
          rintro e w4 ⟨rfl, k4⟩
          have K4 := Lib.hid (K3.out.trans (KN.out.trans k4))
          have B4 := Lib.hid (B3.out.keeps (KN.out.trans k4))
          clear k4 d0 d1 d2 N3
          obtain ⟨d0, d1, d2⟩ := B4.out.cells
          go_wp2_with fail
          refine (cOw.out _ K4.out).mono ?_
          rintro e w5 ⟨A5, c5, l5, rfl, hst5, hrow5, hmo5, k5⟩
          have hll5 : l5.length = L := by have := congrArg List.length hst5; rw [← HL.out]; simpa [steps] using this
          obtain ⟨g5, rfl⟩ := hrow5.some_ (fun e => by rw [e] at hll5; simp at hll5; omega)
          have hc5 := hrow5.cap
          rw [hll5] at hc5
          have cF := Lib.hid (check_front bot q l l5 g5 c5 i _ w5 hst5 hrow5 hmo5 (by rw [HL.out]; exact hiL) HOP.out.bot_ HOP.out.fit (by rw [HL.out]; exact HLO.out.1) HFR.out)
          have K5 := Lib.hid (K4.out.trans k5)
          have B5 := Lib.hid (B4.out.keeps k5)
          have KF := Lib.hid ((Keeps.refl w5).alloc (.cells #[.string (S bot), .int .i64 q, .slice (some ⟨g5, 0, none⟩) i c5] 25))
          have cF1 := Lib.hid (cF.out _ KF.out)
          have q5 : (i : Int) ≤ (c5 : Int) := by omega
          have q5' : i ≤ c5 := by omega
          have q6 : i ≤ L := by omega
          rw [hll5]
          unfold scC
          clear hst5 hrow5 hmo5 k5 hll5 hc5 d0 d1 d2 cF
          go_wp2_with fail
          refine cF1.out.mono ?_
          rintro e w6 ⟨rfl, k6⟩
          have K6 := Lib.hid (K5.out.trans (KF.out.trans k6))
          have B6 := Lib.hid (B5.out.keeps (KF.out.trans k6))
          clear k6 cF1 q5 q5' KF
          obtain ⟨d0, d1, d2⟩ := B6.out.cells
          go_wp2_with fail
          refine (cOw.out _ K6.out).mono ?_
          rintro e w7 ⟨A7, c7, l7, rfl, hst7, hrow7, hmo7, k7⟩
          have hll7 : l7.length = L := by have := congrArg List.length hst7; rw [← HL.out]; simpa [steps] using this
          obtain ⟨g7, rfl⟩ := hrow7.some_ (fun e => by rw [e] at hll7; simp at hll7; omega)
          have hc7 := hrow7.cap
          rw [hll7] at hc7
          have cG := Lib.hid (check_one bot q l l7 g7 c7 i _ r w7 hst7 hrow7 hmo7 (by rw [HL.out]; exact hiL) HOP.out.bot_ HOP.out.fit HONE.out)
          have K7 := Lib.hid (K6.out.trans k7)
          have q5 : (i : Int) + 1 ≤ (c7 : Int) := by omega
          have q5' : i + 1 ≤ c7 := by omega
          have q6' : i + 1 ≤ L := by omega
          rw [hll7]
          unfold scC
          clear hst7 hrow7 hmo7 k7 hll7 hc7 d0 d1 d2
          go_wp2_with fail
          refine (cG.out (c7 - i) _ ((Keeps.refl w7).alloc _)).mono ?_
          rintro e w8 ⟨rfl, k8⟩
          have K8 := Lib.hid (K7.out.trans (((Keeps.refl w7).alloc _).trans k8))
          have frr : (r == r) = true := by simp
          clear k8
          go_wp2
          go_ret
          exact ⟨rfl, K8.out⟩
      · have hp := PS.scrC_head K0 ⟨bot, q, steps l⟩ hh
        rw [hp] at cC f0 f0'
        simp only at cC f0 f0'
        generalize (PS.scrC K0 ⟨bot, q, []⟩).2 = r at *
        have g4 : ¬ (L : Int) < 0 := by omega
        by_cases hz : L = 0
        · subst hz
          clear hp hh hr hsl
          go_enter Try.func7, Try.ntmps7
          go_wp2_with fail
          clear hW
          refine cV.out.mono ?_
          rintro e w1 ⟨rfl, k1⟩
          have K1 := Lib.hid (KX.out.trans k1)
          have B1 := Lib.hid (HB.out.keeps k1)
          clear k1 d0 d1 d2
          obtain ⟨d0, d1, d2⟩ := B1.out.cells
          go_wp2_with fail
          refine (cL.out _ K1.out).mono ?_
          rintro e w2 ⟨rfl, k2⟩
          have K2 := Lib.hid (K1.out.trans k2)
          have B2 := Lib.hid (B1.out.keeps k2)
          clear k2 d0 d1 d2

          obtain ⟨d0, d1, d2⟩ := B2.out.cells
          go_wp2_with fail
          refine (cC.out _ K2.out).mono ?_
          rintro e w3 ⟨rfl, k3⟩
          have K3 := Lib.hid (K2.out.trans k3)
          have B3 := Lib.hid (B2.out.keeps k3)
          clear k3 d0 d1 d2
          obtain ⟨d0, d1, d2⟩ := B3.out.cells

          have N3 := Lib.hid (cN.out (w3.alloc (.cells #[.string (S bot), .int .i64 q, .slice none 0 0] 25)))
          have KN := Lib.hid ((Keeps.refl w3).alloc (.cells #[.string (S bot), .int .i64 q, .slice none 0 0] 25))
          go_wp2_with fail
          refine N3.out.mono ?_
          rintro e w4 ⟨rfl, k4⟩
          have K4 := Lib.hid (K3.out.trans (KN.out.trans k4))
          have B4 := Lib.hid (B3.out.keeps (KN.out.trans k4))
          clear k4 d0 d1 d2 N3
          obtain ⟨d0, d1, d2⟩ := B4.out.cells
          go_wp2
          go_ret
          exact ⟨rfl, K4.out⟩
        · have g5 : ((0 : Int) == (L : Int)) = false := by simp; omega
          have g6 : ((L : Int) == 0) = false := by simp; omega
          clear hp hh hr hsl
          go_enter Try.func7, Try.ntmps7
          go_wp2_with fail
          clear hW
          refine cV.out.mono ?_
          rintro e w1 ⟨rfl, k1⟩
          have K1 := Lib.hid (KX.out.trans k1)
          have B1 := Lib.hid (HB.out.keeps k1)
          clear k1 d0 d1 d2
          obtain ⟨d0, d1, d2⟩ := B1.out.cells
          go_wp2_with fail
          refine (cL.out _ K1.out).mono ?_
          rintro e w2 ⟨rfl, k2⟩
          have K2 := Lib.hid (K1.out.trans k2)
          have B2 := Lib.hid (B1.out.keeps k2)
          clear k2 d0 d1 d2

          obtain ⟨d0, d1, d2⟩ := B2.out.cells
          go_wp2_with fail
          refine (cC.out _ K2.out).mono ?_
          rintro e w3 ⟨rfl, k3⟩
          have K3 := Lib.hid (K2.out.trans k3)
          have B3 := Lib.hid (B2.out.keeps k3)
          clear k3 d0 d1 d2
          obtain ⟨d0, d1, d2⟩ := B3.out.cells

          have N3 := Lib.hid (cN.out (w3.alloc (.cells #[.string (S bot), .int .i64 q, .slice none 0 0] 25)))
          have KN := Lib.hid ((Keeps.refl w3).alloc (.cells #[.string (S bot), .int .i64 q, .slice none 0 0] 25))
          go_wp2_with fail
          refine N3.out.mono ?_
          rintro e w4 ⟨rfl, k4⟩
          have K4 := Lib.hid (K3.out.trans (KN.out.trans k4))
          have B4 := Lib.hid (B3.out.keeps (KN.out.trans k4))
          clear k4 d0 d1 d2 N3
          obtain ⟨d0, d1, d2⟩ := B4.out.cells
          go_wp2
          go_ret
          exact ⟨rfl, K4.out⟩
end Go.Proofs.Ytpcfcbaapnkanaa
