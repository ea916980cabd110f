/-
  The law ScriptBack, walked.
-/
import Derived.Test.YtpcfcbaapnkanaaOp
namespace Go.Proofs.Ytpcfcbaapnkanaa
open Go.RowKit

theorem S_nil0 : S [] = ⟨#[]⟩ := rfl
/-- No reader gives up by nought. -/
def NE {α : Type} (p : PS.Rd α) : Prop := ∀ l e, p l = .error e → e ≠ 0
theorem NE.bind {α β : Type} {p : PS.Rd α} {q : α → PS.Rd β} (h : NE p) (k : ∀ a, NE (q a)) : NE (PS.Rd.bind p q) := fun l e he => by
  unfold PS.Rd.bind at he
  split at he
  · next e0 h0 => injection he with he; subst he; exact h l _ h0
  · next a r h0 => exact k a r e he
theorem NE.pure {α : Type} (a : α) : NE (PS.Rd.pure a) := fun l e he => by cases he
theorem NE.byte : NE PS.byteR := fun l e he => by
  cases l with
  | nil => injection he with he; subst he; decide
  | cons c r => cases he
theorem NE.num : NE PS.numR := NE.bind NE.byte fun a => NE.bind NE.byte fun b => NE.pure _
theorem NE.take (n : Nat) : NE (PS.takeR n) := fun l e he => by
  unfold PS.takeR at he
  split at he
  · cases he
  · injection he with he; subst he; decide
theorem NE.list {α : Type} {p : PS.Rd α} (h : NE p) : ∀ n, NE (PS.listR p n)
  | 0 => NE.pure _
  | n + 1 => NE.bind h fun a => NE.bind (NE.list h n) fun t => NE.pure _
theorem NE.rec (t : List UInt8) : NE (PS.recR K0 t) := fun l e he => by
  unfold PS.recR at he
  split at he
  · next e0 h0 =>
    injection he with he
    subst he
    have h1 : (if (readL t).2 = 0 then Except.ok (readL t).1 else Except.error (readL t).2) = Except.error e0 := h0
    split at h1
    · cases h1
    · next h2 => injection h1 with h1; rw [← h1]; exact h2
  · cases he
theorem NE.step : NE (PS.stepR K0) := NE.bind NE.byte fun c => by
  split
  · intro l e he
    injection he with he; subst he; decide
  · refine NE.bind NE.num fun n => NE.bind (NE.take n) fun t => NE.bind (NE.rec t) fun x => ?_
    split
    · exact NE.bind (NE.bind NE.byte fun n => NE.bind (NE.list NE.num n) fun l => NE.pure _) fun l => NE.pure _
    · exact NE.pure _
theorem NE.scr : NE (PS.scrR K0) := NE.bind NE.byte fun n => NE.bind (NE.take n) fun b => NE.bind NE.num fun q => NE.bind NE.num fun m => NE.bind (NE.list NE.step m) fun l => NE.pure _
theorem readS_ne {l : List UInt8} {n : Int} (h : PS.readS K0 l = .error n) : n ≠ 0 := by
  unfold PS.readS at h
  split at h
  · next e h0 => injection h with h; subst h; exact NE.scr l _ h0
  · split at h
    · injection h with h; subst h; decide
    · split at h
      · next h1 => injection h with h; subst h; exact h1
      · cases h
theorem same_zero (w : World) : Calls Try.prog 13 #[.agg #[.string ⟨#[]⟩, .int .i64 0, .slice none 0 0], .agg #[.string ⟨#[]⟩, .int .i64 0, .slice none 0 0]] w (Ret (.bool true) w) := by
  have h := same_scr [] [] 0 0 none none 0 0 [] [] w (fun i hi => by simp at hi) (fun i hi => by simp at hi) (by simp) (fun m hm => by simp at hm)
  rw [decide_eq_true (show ([] : List UInt8) = [] ∧ (0 : Int) = 0 ∧ steps [] = steps [] from ⟨rfl, rfl, rfl⟩)] at h
  exact h
theorem fits_of {bot : List UInt8} {q : Int} {ms : List Ms} (h : (PS.scrC K0 ⟨bot, q, steps ms⟩).2 = 0) : bot.length ≤ maxLen ∧ ms.length ≤ maxLen ∧ ∀ m, m ∈ ms → MsFit m := by
  obtain ⟨h1, h2, h3, h4, h5⟩ := PS.scrC_ok K0 h
  have hb := userB_len h1
  have hl : ms.length ≤ 300 := by simpa [steps] using h4
  refine ⟨by unfold maxLen; simp only at hb; omega, by unfold maxLen; omega, fun m hm => ?_⟩
  obtain ⟨g1, g2, _, _⟩ := PS.stepC_ok K0 (h5 m.s (List.mem_map_of_mem hm))
  have h6 := chk_len g1
  exact ⟨by unfold maxLen; omega, by unfold maxLen; omega⟩
theorem scB_len {bot : List UInt8} {q : Int} {ms : List Ms} (h : (PS.scrC K0 ⟨bot, q, steps ms⟩).2 = 0) : (scB bot q ms).length ≤ 2000000 := by
  obtain ⟨h1, h2, h3, h4, h5⟩ := PS.scrC_ok K0 h
  have hb : bot.length ≤ 255 := userB_len h1
  have hl : (steps ms).length ≤ 300 := h4
  have h6 := steps_len (steps ms) h5
  unfold scB PS.scrB
  simp only [List.length_append, PS.num2, List.length_cons, List.length_nil]
  have : 4500 * (steps ms).length ≤ 4500 * 300 := Nat.mul_le_mul_left _ hl
  omega
theorem light_of {bot : List UInt8} {l : List Ms} (h : lightB bot l = true) : l.length ≤ 310 ∧ ∀ m, m ∈ l → m.s.cuts.length ≤ 1000000000 := by
  unfold lightB at h
  simp only [Bool.and_eq_true, decide_eq_true_eq] at h
  refine ⟨h.1.1.1, fun m hm => ?_⟩
  have := List.all_eq_true.1 h.2 m hm
  simp only [decide_eq_true_eq] at this
  omega

set_option maxHeartbeats 8000000 in
set_option maxRecDepth 100000 in
theorem back_any (bot : List UInt8) (q : Int) (A : Option Addr) (c : Nat) (l : List Ms) (b : List UInt8) (w : World) (hO : Opened w bot A l c) (hbm : b.length ≤ maxLen) :
    Calls Try.prog 5 #[.agg (scC bot q A l.length c), .string (S b)] w (Ret (.bool true) w) := by
  have KX := Lib.hid ((Keeps.refl w).alloc (.cells (scC bot q A l.length c) 25))
  have HB := Lib.hid (ScB.new w bot q A l.length c)
  have cV := Lib.hid (lives_any (w.alloc (.cells (scC bot q A l.length c) 25)))
  have cL := Lib.hid (fun wx (k : Keeps w wx) => light_any bot q A c l wx (hO.at_.keeps k) hO.len hO.bot_)
  have cC := Lib.hid (fun wx (k : Keeps w wx) => check_scr bot q A c l wx (hO.at_.keeps k) hO.len hO.bot_ hO.fit)
  have cBad := Lib.hid (fun wx (k : Keeps w wx) h => bytes_bad bot q A c l wx (hO.at_.keeps k) hO.len hO.bot_ hO.fit h)
  have cGood := Lib.hid (fun wx (k : Keeps w wx) h => bytes_scr bot q A c l wx (hO.at_.keeps k) hO.len hO.bot_ hO.fit h)
  have HA := Lib.hid hO.at_
  have HLT := Lib.hid (fun h => light_of (bot := bot) (l := l) h)
  have sb := S_size b
  unfold maxLen at hbm
  clear hO
  generalize lightB bot l = lb at *
  generalize hL : l.length = L at *
  have HL := Lib.hid hL
  clear hL
  generalize hW : w.alloc (.cells (scC bot q A L c) 25) = W at *
  have HW := Lib.hid hW
  obtain ⟨d0, d1, d2⟩ := HB.out.cells
  unfold scC at hW cL cC cBad cGood ⊢
  unfold retC at cC
  cases lb with
  | false =>
    clear cC cBad cGood
    go_enter Try.func5, Try.ntmps5
    go_wp2_with fail
    clear hW
    refine cV.out.mono ?_
    rintro e w1 ⟨rfl, k1⟩
    have K1 := Lib.hid (KX.out.trans k1)
    have B1 := Lib.hid (HB.out.keeps k1)
    clear k1 d0 d1 d2
    obtain ⟨d0, d1, d2⟩ := B1.out.cells
    go_wp2_with fail
    refine (cL.out _ K1.out).mono ?_
    rintro e w2 ⟨rfl, k2⟩
    have K2 := Lib.hid (K1.out.trans k2)
    clear k2 d0 d1 d2
    go_wp2
    go_ret
    exact ⟨rfl, K2.out⟩
  | true =>
    have HLO := Lib.hid (HLT.out rfl)
    by_cases hbl : 40000 < b.length
    · have g1 : (40000 : Int) < ((S b).size : Int) := by rw [sb]; omega
      clear cC cBad cGood sb hbl
      go_enter Try.func5, Try.ntmps5
      go_wp2_with fail
      clear hW
      refine cV.out.mono ?_
      rintro e w1 ⟨rfl, k1⟩
      have K1 := Lib.hid (KX.out.trans k1)
      have B1 := Lib.hid (HB.out.keeps k1)
      clear k1 d0 d1 d2
      obtain ⟨d0, d1, d2⟩ := B1.out.cells
      go_wp2_with fail
      refine (cL.out _ K1.out).mono ?_
      rintro e w2 ⟨rfl, k2⟩
      have K2 := Lib.hid (K1.out.trans k2)
      clear k2 d0 d1 d2
      go_wp2
      go_ret
      exact ⟨rfl, K2.out⟩
    · have g1 : ¬ (40000 : Int) < ((S b).size : Int) := by rw [sb]; omega
      have cRb := Lib.hid (fun wx => readS_any b wx (by omega))
      clear sb hbl
      by_cases hr : (PS.scrC K0 ⟨bot, q, steps l⟩).2 = 0
      · have hp := PS.scrC_good K0 _ hr
        have cGood1 := Lib.hid (fun wx k => cGood.out wx k hr)
        have hys := scB_len hr
        have cRy := Lib.hid (fun wx => readS_any (scB bot q l) wx (by omega))
        have HRY : Hid (PS.readS K0 (scB bot q l) = .ok ⟨bot, q, steps l⟩) := Lib.hid (PS.read_scr K0 _ hr)
        rw [hp] at cC
        clear hp hr hys cBad cGood
        generalize hY : scB bot q l = Y at *
        clear hY
        go_enter Try.func5, Try.ntmps5
        go_wp2_with fail
        clear hW
        refine cV.out.mono ?_
        rintro e w1 ⟨rfl, k1⟩
        have K1 := Lib.hid (KX.out.trans k1)
        have B1 := Lib.hid (HB.out.keeps k1)
        clear k1 d0 d1 d2
        obtain ⟨d0, d1, d2⟩ := B1.out.cells
        go_wp2_with fail
        refine (cL.out _ K1.out).mono ?_
        rintro e w2 ⟨rfl, k2⟩
        have K2 := Lib.hid (K1.out.trans k2)
        have B2 := Lib.hid (B1.out.keeps k2)
        clear k2 d0 d1 d2
        obtain ⟨d0, d1, d2⟩ := B2.out.cells
        go_wp2_with fail
        refine (cC.out _ K2.out).mono ?_
        rintro e w3 ⟨rfl, k3⟩
        have K3 := Lib.hid (K2.out.trans k3)
        have B3 := Lib.hid (B2.out.keeps k3)
        clear k3 d0 d1 d2
        obtain ⟨d0, d1, d2⟩ := B3.out.cells
        go_wp2_with fail
        refine (cGood1.out _ K3.out).mono ?_
        rintro e w4 ⟨rfl, k4⟩
        have K4 := Lib.hid (K3.out.trans k4)
        have B4 := Lib.hid (B3.out.keeps k4)
        clear k4 d0 d1 d2
        go_wp2_with fail
        refine (cRy.out _).mono ?_
        rintro e w5 ⟨k5, hm⟩
        rw [HRY.out] at hm
        obtain ⟨A5, c5, ms5, rfl, hst5, hA5⟩ := hm
        simp only at hst5
        have K5 := Lib.hid ((K4.out.trans k5).alloc (.cells (scC bot q A5 ms5.length c5) 25))
        have B5 := Lib.hid (B4.out.keeps (k5.alloc (.cells (scC bot q A5 ms5.length c5) 25)))
        have T5 := Lib.hid (Blk.new w5 (scC bot q A5 ms5.length c5) 25)
        have HA5 := Lib.hid (hA5.keeps ((Keeps.refl w5).alloc (.cells (scC bot q A5 ms5.length c5) 25)))
        have cS := Lib.hid (same_scr bot bot q q A A5 c c5 l ms5 _ (HA.out.keeps K5.out) HA5.out (by have := HLO.out.1; rw [HL.out]; omega) HLO.out.2)
        rw [decide_eq_true (show bot = bot ∧ q = q ∧ steps l = steps ms5 from ⟨rfl, rfl, hst5.symm⟩), HL.out] at cS
        clear hst5 hA5 k5
        unfold scC at K5 B5 T5 HA5 cS ⊢
        generalize ms5.length = n5 at *
        generalize hW : w5.alloc (.cells #[.string (S bot), .int .i64 q, .slice A5 n5 c5] 25) = W5 at *
        obtain ⟨d0, d1, d2⟩ := B5.out.cells
        obtain ⟨t0, t1, t2, -, -, -⟩ := T5.out.three
        go_wp2_with fail
        clear hW
        refine cS.out.mono ?_
        rintro e w6 ⟨rfl, k6⟩
        have K6 := Lib.hid (K5.out.trans k6)
        clear k6 t0 t1 t2 d0 d1 d2
        go_wp2_with fail
        refine (cRb.out _).mono ?_
        rintro e w7 ⟨k7, hm⟩
        have K7 := Lib.hid (K6.out.trans k7)
        cases hrd : PS.readS K0 b with
        | error n =>
          rw [hrd] at hm
          obtain rfl := hm
          have hn := readS_ne hrd
          have f7 : (n != 0) = true := by simpa using hn
          have K8 := Lib.hid (K7.out.alloc (.cells #[.string ⟨#[]⟩, .int .i64 0, .slice none 0 0] 25))
          have cZ := Lib.hid (same_zero (w7.alloc (.cells #[.string ⟨#[]⟩, .int .i64 0, .slice none 0 0] 25)))
          clear hrd hn k7
          unfold scC
          simp only [S_nil0]
          go_wp2_with fail
          refine cZ.out.mono ?_
          rintro e w8 ⟨rfl, k8⟩
          have K9 := Lib.hid (K8.out.trans k8)
          clear k8
          go_wp2
          go_ret
          exact ⟨rfl, K9.out⟩
        | ok t =>
          rw [hrd] at hm
          obtain ⟨A7, c7, ms7, rfl, hst7, hA7⟩ := hm
          obtain ⟨rb1, rb2⟩ := PS.read_back K0 hrd
          obtain ⟨tb, tq, ts⟩ := t
          simp only at hst7
          subst hst7
          have fit7 := fits_of rb1
          have K8 := Lib.hid (K7.out.alloc (.cells (scC tb tq A7 ms7.length c7) 25))
          have HA8 := Lib.hid (hA7.keeps ((Keeps.refl w7).alloc (.cells (scC tb tq A7 ms7.length c7) 25)))
          have T8 := Lib.hid (Blk.new w7 (scC tb tq A7 ms7.length c7) 25)
          have cC8 := Lib.hid (fun wx h => check_scr tb tq A7 c7 ms7 wx h fit7.2.1 fit7.1 fit7.2.2)
          have cB8 := Lib.hid (fun wx h => bytes_scr tb tq A7 c7 ms7 wx h fit7.2.1 fit7.1 fit7.2.2 rb1)
          rw [PS.scrC_good K0 _ rb1] at cC8
          have hyb : scB tb tq ms7 = b := rb2
          rw [hyb] at cB8
          clear hrd hyb rb1 rb2 fit7 hA7 k7
          unfold retC at cC8
          unfold scC at *
          generalize ms7.length = n7 at *
          generalize hW : w7.alloc (.cells #[.string (S tb), .int .i64 tq, .slice A7 n7 c7] 25) = W8 at *
          have cC9 := Lib.hid (cC8.out W8 HA8.out)
          obtain ⟨t0, t1, t2, -, -, -⟩ := T8.out.three
          go_wp2_with fail
          clear hW
          refine cC9.out.mono ?_
          rintro e w9 ⟨rfl, k9⟩
          have K9 := Lib.hid (K8.out.trans k9)
          have T9 := Lib.hid (T8.out.keeps k9)
          have cB9 := Lib.hid (cB8.out w9 (HA8.out.keeps k9))
          clear k9 t0 t1 t2 cC9
          obtain ⟨t0, t1, t2, -, -, -⟩ := T9.out.three
          go_wp2_with fail
          refine cB9.out.mono ?_
          rintro e w10 ⟨rfl, k10⟩
          have K10 := Lib.hid (K9.out.trans k10)
          clear k10 t0 t1 t2
          have fbb : ((S b).toList == (S b).toList) = true := by simp
          go_wp2
          go_ret
          exact ⟨rfl, K10.out⟩
      · have cBad1 := Lib.hid (fun wx k => cBad.out wx k hr)
        generalize (PS.scrC K0 ⟨bot, q, steps l⟩).2 = r at *
        generalize (PS.scrC K0 ⟨bot, q, steps l⟩).1 = ri at *
        have f0 : (r != 0) = true := by simpa using hr
        have f0' : (r == 0) = false := by simpa using hr
        have f1 : (r != r) = false := by simp
        have fe : (⟨#[]⟩ : ByteArray).toList.isEmpty = true := by rw [ByteArray.toList_eq]; rfl
        clear cBad cGood hr
        go_enter Try.func5, Try.ntmps5
        go_wp2_with fail
        clear hW
        refine cV.out.mono ?_
        rintro e w1 ⟨rfl, k1⟩
        have K1 := Lib.hid (KX.out.trans k1)
        have B1 := Lib.hid (HB.out.keeps k1)
        clear k1 d0 d1 d2
        obtain ⟨d0, d1, d2⟩ := B1.out.cells
        go_wp2_with fail
        refine (cL.out _ K1.out).mono ?_
        rintro e w2 ⟨rfl, k2⟩
        have K2 := Lib.hid (K1.out.trans k2)
        have B2 := Lib.hid (B1.out.keeps k2)
        clear k2 d0 d1 d2
        obtain ⟨d0, d1, d2⟩ := B2.out.cells
        go_wp2_with fail
        refine (cC.out _ K2.out).mono ?_
        rintro e w3 ⟨rfl, k3⟩
        have K3 := Lib.hid (K2.out.trans k3)
        have B3 := Lib.hid (B2.out.keeps k3)
        clear k3 d0 d1 d2
        obtain ⟨d0, d1, d2⟩ := B3.out.cells
        go_wp2_with fail
        refine (cBad1.out _ K3.out).mono ?_
        rintro e w4 ⟨rfl, k4⟩
        have K4 := Lib.hid (K3.out.trans k4)
        clear k4 d0 d1 d2
        go_wp2_with fail
        refine (cRb.out _).mono ?_
        rintro e w7 ⟨k7, hm⟩
        have K7 := Lib.hid (K4.out.trans k7)
        cases hrd : PS.readS K0 b with
        | error n =>
          rw [hrd] at hm
          obtain rfl := hm
          have hn := readS_ne hrd
          have f7 : (n != 0) = true := by simpa using hn
          have K8 := Lib.hid (K7.out.alloc (.cells #[.string ⟨#[]⟩, .int .i64 0, .slice none 0 0] 25))
          have cZ := Lib.hid (same_zero (w7.alloc (.cells #[.string ⟨#[]⟩, .int .i64 0, .slice none 0 0] 25)))
          clear hrd hn k7
          unfold scC
          simp only [S_nil0]
          go_wp2_with fail
          refine cZ.out.mono ?_
          rintro e w8 ⟨rfl, k8⟩
          have K9 := Lib.hid (K8.out.trans k8)
          clear k8
          go_wp2
          go_ret
          exact ⟨rfl, K9.out⟩
        | ok t =>
          rw [hrd] at hm
          obtain ⟨A7, c7, ms7, rfl, hst7, hA7⟩ := hm
          obtain ⟨rb1, rb2⟩ := PS.read_back K0 hrd
          obtain ⟨tb, tq, ts⟩ := t
          simp only at hst7
          subst hst7
          have fit7 := fits_of rb1
          have K8 := Lib.hid (K7.out.alloc (.cells (scC tb tq A7 ms7.length c7) 25))
          have HA8 := Lib.hid (hA7.keeps ((Keeps.refl w7).alloc (.cells (scC tb tq A7 ms7.length c7) 25)))
          have T8 := Lib.hid (Blk.new w7 (scC tb tq A7 ms7.length c7) 25)
          have cC8 := Lib.hid (fun wx h => check_scr tb tq A7 c7 ms7 wx h fit7.2.1 fit7.1 fit7.2.2)
          have cB8 := Lib.hid (fun wx h => bytes_scr tb tq A7 c7 ms7 wx h fit7.2.1 fit7.1 fit7.2.2 rb1)
          rw [PS.scrC_good K0 _ rb1] at cC8
          have hyb : scB tb tq ms7 = b := rb2
          rw [hyb] at cB8
          clear hrd hyb rb1 rb2 fit7 hA7 k7
          unfold retC at cC8
          unfold scC at *
          generalize ms7.length = n7 at *
          generalize hW : w7.alloc (.cells #[.string (S tb), .int .i64 tq, .slice A7 n7 c7] 25) = W8 at *
          have cC9 := Lib.hid (cC8.out W8 HA8.out)
          obtain ⟨t0, t1, t2, -, -, -⟩ := T8.out.three
          go_wp2_with fail
          clear hW
          refine cC9.out.mono ?_
          rintro e w9 ⟨rfl, k9⟩
          have K9 := Lib.hid (K8.out.trans k9)
          have T9 := Lib.hid (T8.out.keeps k9)
          have cB9 := Lib.hid (cB8.out w9 (HA8.out.keeps k9))
          clear k9 t0 t1 t2 cC9
          obtain ⟨t0, t1, t2, -, -, -⟩ := T9.out.three
          go_wp2_with fail
          refine cB9.out.mono ?_
          rintro e w10 ⟨rfl, k10⟩
          have K10 := Lib.hid (K9.out.trans k10)
          clear k10 t0 t1 t2
          have fbb : ((S b).toList == (S b).toList) = true := by simp
          go_wp2
          go_ret
          exact ⟨rfl, K10.out⟩
end Go.Proofs.Ytpcfcbaapnkanaa
