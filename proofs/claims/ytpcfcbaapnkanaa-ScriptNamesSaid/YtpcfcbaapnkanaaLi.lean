/-
  The law's light: inputs, LightInputs, light.
-/
import Derived.Test.YtpcfcbaapnkanaaLv
namespace Go.Proofs.Ytpcfcbaapnkanaa
open Go.RowKit

def insOf (l : List Ms) : List Inp := l.map fun m => m.s.inp
set_option maxHeartbeats 8000000 in
set_option maxRecDepth 100000 in
theorem inputs_any (bot : List UInt8) (q : Int) (A : Option Addr) (c : Nat) (l : List Ms) (w : World) (hA : StepsAt w A l) (hlen : l.length ≤ 1000000) :
    Calls Try.prog 22 #[.agg (scC bot q A l.length c)] w (fun e w' => ∃ v, e = .returned v ∧ InRow w' w.heap.size v (insOf l) ∧ Keeps w w') := by
  obtain ⟨i, hi, ⟨z, hz, hzs⟩, hz1, hz2⟩ := info28
  have KX := Lib.hid ((Keeps.refl w).alloc (.cells (scC bot q A l.length c) 25))
  have HB := Lib.hid (ScB.new w bot q A l.length c)
  have HA := Lib.hid (hA.keeps KX.out)
  have hsz : w.heap.size < (w.alloc (.cells (scC bot q A l.length c) 25)).heap.size := by simp
  clear hA
  generalize hL : l.length = L at *
  have HL := Lib.hid hL
  clear hL
  generalize hW : w.alloc (.cells (scC bot q A L c) 25) = W at *
  unfold scC at hW ⊢
  go_enter Try.func22, Try.ntmps22
  go_wp2
  clear hW
  go_loopg [3, 4] (L + 1) (fun g v i wr => ∃ k : Nat, i = .int .i64 (k : Int) ∧ k ≤ L ∧ L - k < g ∧ Hid (Keeps W wr ∧ InRow wr W.heap.size v (insOf (l.take k))))
  case atStart => exact ⟨0, rfl, Nat.zero_le _, by omega, Lib.hid ⟨Keeps.refl _, SRow.nil _ _ _ _ _⟩⟩
  case round =>
    obtain ⟨k, rfl, hkL, hkg, hI⟩ := hrel
    have HK := Lib.hid hI.out.1
    have HRow := Lib.hid hI.out.2
    have BK := Lib.hid (HB.out.keeps HK.out)
    obtain ⟨d0, d1, d2⟩ := BK.out.cells
    by_cases hlt : k < L
    · have hlt' : k < l.length := by rw [HL.out]; exact hlt
      obtain ⟨⟨g, o, hAe, hc⟩, -⟩ := (HA.out.keeps HK.out) k hlt'
      have htk : insOf (l.take (k + 1)) = insOf (l.take k) ++ [(l[k]'hlt').s.inp] := by
        unfold insOf
        rw [List.take_succ_eq_append_getElem hlt', List.map_append]; rfl
      have hil : (insOf (l.take k)).length ≤ 1000000 := by unfold insOf; rw [List.length_map, List.length_take]; omega
      generalize l[k]'hlt' = m at *
      obtain ⟨e0, e1, e2, e3, e4, e5, e6⟩ := hc.seven
      have HTK := Lib.hid htk
      have HIL := Lib.hid hil
      subst hAe
      obtain ⟨⟨mcr, ⟨xk, xc, xn, xo, xt⟩, mcu⟩, mA, mc⟩ := m
      simp only at e0 e1 e2 e3 e4 e5 e6
      have RA : Hid (World.ownsRow _ _ _ _ _ _ _) := Lib.hid (World.ownsRow.alloc HRow.out (.cells #[.int .i64 xk, .int .i64 xc, .int .i64 xn, .bool xo, .string (S xt)] 28))
      have HNW := news_of_block (cs := #[.int .i64 xk, .int .i64 xc, .int .i64 xn, .bool xo, .string (S xt)]) (t := 28) (heap_alloc_new wr (.cells #[.int .i64 xk, .int .i64 xc, .int .i64 xn, .bool xo, .string (S xt)] 28))
      have HNWH := Lib.hid HNW
      have HS2 := Lib.hid HK.out.size
      have f1' : decide (k < L) = true := by simpa using hlt
      have f1 : decide ((k : Int) < (L : Int)) = true := by simp; omega
      have p1 : (0 : Int) ≤ (k : Int) := by omega
      have p2 : (k : Int) < (L : Int) := by omega
      clear hI HNW htk hil hc
      go_wp2_with (at_builtin; refine wpList_append_own _ rfl (.tmp 12) (.tmp 19) 40 rfl W.heap.size 28 i z 5 48 Try.underlying40 hi hz hz1 hz2 hzs (by decide) _ _ _ rfl RA.out ⟨wr.heap.size, 0, none⟩ 1 1 [.int .i64 xk, .int .i64 xc, .int .i64 xn, .bool xo, .string (S xt)] rfl rfl ?c1 ?c2 ?c3 ?c4 ?c5 ?_)
      case c2 => simp [Value.oneCell']
      case c3 => have := HIL.out; unfold maxLen; omega
      case c4 => have := HIL.out; omega
      case c5 => have := HS2.out; simp; omega
      intro v3 w3 hown hgrow hjunk
      clear hjunk d0 d1 d2 e0 e1 e2 e3 e4 e5 e6
      have HK3 := Lib.hid ((HK.out.alloc (.cells #[.int .i64 xk, .int .i64 xc, .int .i64 xn, .bool xo, .string (S xt)] 28)).grown hgrow (by have := HS2.out; simp; omega) (fun q hq => (World.ownsRow.lt RA.out q hq).1))
      have HR3 : Hid (InRow w3 W.heap.size v3 (insOf (l.take (k + 1)))) := Lib.hid (by
        rw [HTK.out]
        unfold InRow SRow at *
        rw [flatF_app, List.length_append]
        exact hown)
      clear hown hgrow
      go_wp2
      cases gk with
      | zero => omega
      | succ g2 =>
        go_roundg g2
        case measure => omega
        case rel => exact ⟨k + 1, by go_num, by omega, by omega, Lib.hid ⟨HK3.out, HR3.out⟩⟩
    · have htk : l.take k = l := List.take_of_length_le (by rw [HL.out]; omega)
      have HR := HRow.out
      rw [htk] at HR
      have HRH := Lib.hid HR
      have HKz := Lib.hid (KX.out.trans HK.out)
      have f1' : decide (k < L) = false := by simpa using hlt
      have f1 : decide ((k : Int) < (L : Int)) = false := by simp; omega
      clear hI htk HR
      go_wp2
      go_ret
      refine ⟨_, rfl, ⟨HRH.out.1, HRH.out.2.imp id ?_⟩, HKz.out⟩
      rintro ⟨g0, cap, cur, e1, hb0, r0⟩
      exact ⟨g0, cap, cur, e1, by omega, r0⟩

/-- Inputs in memory. -/
def InsAt (w : World) (A : Option Addr) (l : List Inp) : Prop := ∀ (i : Nat) (hi : i < l.length), ∃ g o, A = some ⟨g, o, none⟩ ∧ CellsAt w g (o + i * 5) (inC (l[i]'hi)).toList
def sumI (l : List Inp) : Nat := (l.map fun x => min x.t.length 30001).sum
def lightI (l : List Inp) : Bool := decide (sumI l ≤ 30000) && decide (l.length ≤ 310)
theorem sumI_take (l : List Inp) (k : Nat) (h : k < l.length) : sumI (l.take (k + 1)) = sumI (l.take k) + min (l[k]'h).t.length 30001 := by
  unfold sumI
  rw [List.take_succ_eq_append_getElem h, List.map_append, List.sum_append]
  simp only [List.map_cons, List.map_nil, List.sum_cons, List.sum_nil, Nat.add_zero]
theorem sumI_le : ∀ (l : List Inp) (k : Nat), sumI (l.take k) ≤ sumI l
  | [], k => by simp
  | a :: r, 0 => by simp [sumI]
  | a :: r, k + 1 => by
    have := sumI_le r k
    unfold sumI at this ⊢
    simp only [List.take_succ_cons, List.map_cons, List.sum_cons]
    omega
set_option maxHeartbeats 8000000 in
set_option maxRecDepth 100000 in
theorem lightI_any (A : Option Addr) (c : Nat) (l : List Inp) (w : World) (hA : InsAt w A l) (hlen : l.length ≤ 1000000) :
    Calls Try.prog 33 #[.slice A l.length c, .int .i64 310] w (Ret (.bool (lightI l)) w) := by
  have HA := Lib.hid hA
  unfold lightI
  generalize hL : l.length = L at *
  have HL := Lib.hid hL
  generalize hR : (decide (sumI l ≤ 30000) && decide (L ≤ 310)) = R
  have HR := Lib.hid hR
  clear hA hL hR
  go_enter Try.func33, Try.ntmps33
  go_wp2
  go_loopg [5, 6] (L + 1) (fun g n i wr => ∃ k : Nat, i = .int .i64 (k : Int) ∧ k ≤ L ∧ L - k < g ∧ ∃ s : Nat, n = .int .i64 (s : Int) ∧ s ≤ 30000 ∧ Hid (Keeps w wr ∧ s = sumI (l.take k)))
  case atStart => exact ⟨0, rfl, Nat.zero_le _, by omega, 0, rfl, by omega, Lib.hid ⟨Keeps.refl _, rfl⟩⟩
  case round =>
    obtain ⟨k, rfl, hkL, hkg, s, rfl, hs, hI⟩ := hrel
    by_cases hlt : k < L
    · have hlt' : k < l.length := by rw [HL.out]; exact hlt
      obtain ⟨hK, hsum⟩ := hI.out
      obtain ⟨g, o, hAe, hc⟩ := (fun i hi => by
        obtain ⟨g, o, e, h⟩ := HA.out i hi
        exact ⟨g, o, e, h.keeps hK⟩ : InsAt wr A l) k hlt'
      have h2 := sumI_take l k hlt'
      rw [← hsum] at h2
      have h3 := sumI_le l (k + 1)
      rw [h2] at h3
      have HK := Lib.hid hK
      generalize l[k]'hlt' = x at *
      have e4 : wr.cell? ⟨g, o + k * 5 + 4, none⟩ = some (.string (S x.t)) := hc 4 _ rfl
      have zt := S_size x.t
      have H2 := Lib.hid h2
      have H3 := Lib.hid h3
      have HZ := Lib.hid zt
      subst hAe
      have f1 : decide ((k : Int) < (L : Int)) = true := by simp; omega
      have f1' : decide (k < L) = true := by simpa using hlt
      have q1 : (0 : Int) ≤ (k : Int) := by omega
      have q2 : (k : Int) < (L : Int) := by omega
      clear hI hK hsum hc h2 h3 zt
      generalize S x.t = bt at *
      by_cases hb : bt.size ≤ 30001
      · have m1 : min ((bt.size : Nat) : Int) 30001 = (bt.size : Int) := by omega
        have hmn : Hid (min x.t.length 30001 = bt.size) := Lib.hid (by rw [← HZ.out]; omega)
        have hb' : (bt.size : Int) ≤ 30001 := by omega
        have w1 : IntKind.i64.wrap ((s : Int) + (bt.size : Int)) = (s : Int) + (bt.size : Int) := IntWalk.i64_in _ (by omega)
        by_cases ht : s + bt.size ≤ 30000
        · have f2 : decide ((30000 : Int) < (s : Int) + (bt.size : Int)) = false := by simp; omega
          go_wp2
          cases gk with
          | zero => omega
          | succ g2 =>
            go_roundg g2
            case measure => omega
            case rel => exact ⟨k + 1, by go_num, by omega, by omega, s + bt.size, by go_num, ht, Lib.hid ⟨HK.out, by rw [H2.out, hmn.out]⟩⟩
        · have f2 : decide ((30000 : Int) < (s : Int) + (bt.size : Int)) = true := by simp; omega
          have hRf : Hid (R = false) := Lib.hid (by
            rw [← HR.out, decide_eq_false (by have := H3.out; rw [hmn.out] at this; omega), Bool.false_and])
          go_wp2
          go_ret
          exact ⟨by rw [hRf.out]; rfl, HK.out⟩
      · have m1 : min ((bt.size : Nat) : Int) 30001 = 30001 := by omega
        have f2 : decide ((30000 : Int) < (s : Int) + 30001) = true := by simp; omega
        have w1 : IntKind.i64.wrap ((s : Int) + 30001) = (s : Int) + 30001 := IntWalk.i64_in _ (by omega)
        have hRf : Hid (R = false) := Lib.hid (by
          rw [← HR.out, decide_eq_false (by have := H3.out; have := HZ.out; omega), Bool.false_and])
        go_wp2
        go_ret
        exact ⟨by rw [hRf.out]; rfl, HK.out⟩
    · obtain ⟨hK, hsum⟩ := hI.out
      rw [List.take_of_length_le (by rw [HL.out]; omega)] at hsum
      have hRR : R = decide (L ≤ 310) := by rw [← HR.out, decide_eq_true (by omega), Bool.true_and]
      have HRR := Lib.hid hRR
      have HK := Lib.hid hK
      have f1 : decide ((k : Int) < (L : Int)) = false := by simp; omega
      have f1' : decide (k < L) = false := by simpa using hlt
      clear hI hsum hRR hK
      by_cases h310 : L ≤ 310
      · have f3 : (L : Int) ≤ 310 := by omega
        have hRt : Hid (R = true) := Lib.hid (by rw [HRR.out]; simpa using h310)
        go_wp2
        go_ret
        exact ⟨by rw [hRt.out]; simp [f3], HK.out⟩
      · have f3 : ¬ (L : Int) ≤ 310 := by omega
        have hRt : Hid (R = false) := Lib.hid (by rw [HRR.out]; simpa using h310)
        go_wp2
        go_ret
        exact ⟨by rw [hRt.out]; simp [f3], HK.out⟩
theorem lightI_row (v : Value) (B : Nat) (l : List Inp) (w : World) (h : InRow w B v l) (hlen : l.length ≤ 1000000) : Calls Try.prog 33 #[v, .int .i64 310] w (Ret (.bool (lightI l)) w) := by
  obtain ⟨A, c, rfl, h2⟩ := SRow.rows inC_size h
  exact lightI_any A c l w h2 hlen
/-- Is a script gone through? -/
def lightB (bot : List UInt8) (l : List Ms) : Bool := decide (l.length ≤ 310) && decide (bot.length ≤ 400) && lightI (insOf l) && l.all fun m => decide (m.s.cuts.length ≤ 40)
set_option maxHeartbeats 8000000 in
set_option maxRecDepth 100000 in
theorem light_any (bot : List UInt8) (q : Int) (A : Option Addr) (c : Nat) (l : List Ms) (w : World) (hA : StepsAt w A l) (hlen : l.length ≤ maxLen) (hb : bot.length ≤ maxLen) :
    Calls Try.prog 15 #[.agg (scC bot q A l.length c)] w (Ret (.bool (lightB bot l)) w) := by
  have KX := Lib.hid ((Keeps.refl w).alloc (.cells (scC bot q A l.length c) 25))
  have HB := Lib.hid (ScB.new w bot q A l.length c)
  have HA := Lib.hid (hA.keeps KX.out)
  have cI := Lib.hid (fun (h : l.length ≤ 310) => inputs_any bot q A c l _ (hA.keeps KX.out) (by omega))
  have cL := Lib.hid (fun (h : l.length ≤ 310) v B wx hx => lightI_row v B (insOf l) wx hx (by unfold insOf; rw [List.length_map]; omega))
  have sb := S_size bot
  unfold lightB
  clear hA
  unfold maxLen at hlen hb
  generalize hL : l.length = L at *
  have HL := Lib.hid hL
  clear hL
  generalize hW : w.alloc (.cells (scC bot q A L c) 25) = W at *
  obtain ⟨d0, d1, d2⟩ := HB.out.cells
  unfold scC at hW cI ⊢
  by_cases h1 : L ≤ 310
  · have g1 : ¬ (310 : Int) < (L : Int) := by omega
    rw [decide_eq_true h1, Bool.true_and]
    by_cases h2 : bot.length ≤ 400
    · rw [decide_eq_true h2, Bool.true_and]
      have g2 : ¬ (400 : Int) < ((S bot).size : Int) := by rw [sb]; omega
      have cI1 := Lib.hid (cI.out h1)
      have cL1 := Lib.hid (cL.out h1)
      generalize lightI (insOf l) = li at *
      generalize hR : (li && l.all fun m => decide (m.s.cuts.length ≤ 40)) = R
      have HR := Lib.hid hR
      clear sb hR h2 h1 cI cL
      go_enter Try.func15, Try.ntmps15
      go_wp2_with fail
      clear hW
      refine cI1.out.mono ?_
      rintro e w1 ⟨v, rfl, hrow, k1⟩
      have cL2 := Lib.hid (cL1.out v _ w1 hrow)
      have K1 := Lib.hid (KX.out.trans k1)
      have KW1 := Lib.hid k1
      clear hrow k1 d0 d1 d2 cI1 cL1
      go_wp2_with fail
      refine cL2.out.mono ?_
      rintro e w2 ⟨rfl, k2⟩
      have K2 := Lib.hid (K1.out.trans k2)
      have KW2 := Lib.hid (KW1.out.trans k2)
      clear k2
      cases li with
      | false =>
        have hRf : Hid (R = false) := Lib.hid (by rw [← HR.out]; rfl)
        go_wp2
        go_ret
        exact ⟨by rw [hRf.out]; rfl, K2.out⟩
      | true =>
        go_wp2
        go_loopg [3] (L + 1) (fun g i wr => ∃ k : Nat, i = .int .i64 (k : Int) ∧ k ≤ L ∧ L - k < g ∧ Hid (Keeps W wr ∧ (l.take k).all (fun m => decide (m.s.cuts.length ≤ 40)) = true))
        case atStart => exact ⟨0, rfl, Nat.zero_le _, by omega, Lib.hid ⟨KW2.out, rfl⟩⟩
        case round =>
          obtain ⟨k, rfl, hkL, hkg, hI⟩ := hrel
          have HK := Lib.hid hI.out.1
          have BK := Lib.hid (HB.out.keeps HK.out)
          obtain ⟨d0, d1, d2⟩ := BK.out.cells
          by_cases hlt : k < L
          · have hlt' : k < l.length := by rw [HL.out]; exact hlt
            obtain ⟨⟨g, o, hAe, hc⟩, -⟩ := (HA.out.keeps HK.out) k hlt'
            have htk : (l.take (k + 1)).all (fun m => decide (m.s.cuts.length ≤ 40)) = decide ((l[k]'hlt').s.cuts.length ≤ 40) := by
              rw [List.take_succ_eq_append_getElem hlt', List.all_append, hI.out.2]; simp
            have hmem := List.getElem_mem hlt'
            generalize l[k]'hlt' = m at *
            obtain ⟨e0, e1, e2, e3, e4, e5, e6⟩ := hc.seven
            have HTK := Lib.hid htk
            subst hAe
            have f1' : decide (k < L) = true := by simpa using hlt
            have f1 : decide ((k : Int) < (L : Int)) = true := by simp; omega
            have p1 : (0 : Int) ≤ (k : Int) := by omega
            have p2 : (k : Int) < (L : Int) := by omega
            have hbad : m.s.cuts.length ≤ 40 ∨ R = false := by
              by_cases h : m.s.cuts.length ≤ 40
              · exact .inl h
              · refine .inr ?_
                rw [← HR.out, Bool.true_and]
                exact List.all_eq_false.2 ⟨m, hmem, by simpa using h⟩
            have HBAD := Lib.hid hbad
            clear hI htk hc hmem hbad e0 e1 e2 e3 e4 e5
            generalize m.s.cuts.length = lc at *
            by_cases h40 : lc ≤ 40
            · have f2 : ¬ (40 : Int) < (lc : Int) := by omega
              have hok : Hid ((l.take (k + 1)).all (fun m => decide (m.s.cuts.length ≤ 40)) = true) := Lib.hid (by rw [HTK.out]; simpa using h40)
              clear h40
              go_wp2
              cases gk with
              | zero => omega
              | succ g2 =>
                go_roundg g2
                case measure => omega
                case rel => exact ⟨k + 1, by go_num, by omega, by omega, Lib.hid ⟨HK.out, hok.out⟩⟩
            · have f2 : (40 : Int) < (lc : Int) := by omega
              have hRf : Hid (R = false) := Lib.hid (by
                rcases HBAD.out with h | h
                · exact absurd h h40
                · exact h)
              have HKz := Lib.hid (KX.out.trans HK.out)
              clear h40
              go_wp2
              go_ret
              exact ⟨by rw [hRf.out]; rfl, HKz.out⟩
          · have hall := hI.out.2
            rw [List.take_of_length_le (by rw [HL.out]; omega)] at hall
            have hRt : Hid (R = true) := Lib.hid (by rw [← HR.out, hall]; rfl)
            have HKz := Lib.hid (KX.out.trans HK.out)
            have f1' : decide (k < L) = false := by simpa using hlt
            have f1 : decide ((k : Int) < (L : Int)) = false := by simp; omega
            clear hI hall
            go_wp2
            go_ret
            exact ⟨by rw [hRt.out]; rfl, HKz.out⟩
    · rw [decide_eq_false h2, Bool.false_and, Bool.false_and]
      have g2 : (400 : Int) < ((S bot).size : Int) := by rw [sb]; omega
      clear sb h2 cI cL
      go_enter Try.func15, Try.ntmps15
      go_wp2
      go_ret
      exact ⟨rfl, KX.out⟩
  · rw [decide_eq_false h1, Bool.false_and, Bool.false_and, Bool.false_and]
    have g1 : (310 : Int) < (L : Int) := by omega
    clear sb h1 cI cL
    go_enter Try.func15, Try.ntmps15
    go_wp2
    go_ret
    exact ⟨rfl, KX.out⟩
end Go.Proofs.Ytpcfcbaapnkanaa
