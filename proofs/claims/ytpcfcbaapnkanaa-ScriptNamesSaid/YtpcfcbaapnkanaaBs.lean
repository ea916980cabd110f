/-
  A script is written: Bytes.
-/
import Derived.Test.YtpcfcbaapnkanaaAs
namespace Go.Proofs.Ytpcfcbaapnkanaa
open Go.RowKit

def scB (bot : List UInt8) (q : Int) (l : List Ms) : List UInt8 := PS.scrB K0 ⟨bot, q, steps l⟩
theorem stepB_len {s : St} (h : PS.stepC K0 s = 0) : (PS.stepB K0 s).length ≤ 4500 := by
  obtain ⟨h1, h2, _, _⟩ := PS.stepC_ok K0 h
  have h3 := PS.stepB_len K0 s
  have h4 : (K0.enc s.inp).length ≤ 4400 := (rec_len s.inp h1).1
  omega
theorem steps_len : ∀ (l : List St), (∀ s, s ∈ l → PS.stepC K0 s = 0) → (l.flatMap (PS.stepB K0)).length ≤ 4500 * l.length
  | [], _ => by simp
  | a :: r, h => by
    have h1 := stepB_len (h a (List.mem_cons_self ..))
    have h2 := steps_len r fun s hs => h s (List.mem_cons_of_mem _ hs)
    rw [List.flatMap_cons, List.length_append, List.length_cons]
    omega

set_option maxHeartbeats 4000000 in
set_option maxRecDepth 100000 in
theorem bytes_bad (bot : List UInt8) (q : Int) (A : Option Addr) (c : Nat) (l : List Ms) (w : World) (hA : StepsAt w A l) (hlen : l.length ≤ maxLen) (hb : bot.length ≤ maxLen) (hfit : ∀ m, m ∈ l → MsFit m) (hc : (PS.scrC K0 ⟨bot, q, steps l⟩).2 ≠ 0) :
    Calls Try.prog 10 #[.agg (scC bot q A l.length c)] w (Ret (.tuple #[.string ⟨#[]⟩, .int .i64 (PS.scrC K0 ⟨bot, q, steps l⟩).2]) w) := by
  have KX := Lib.hid ((Keeps.refl w).alloc (.cells (scC bot q A l.length c) 25))
  have cC := Lib.hid (check_scr bot q A c l (w.alloc (.cells (scC bot q A l.length c) 25)) (hA.keeps KX.out) hlen hb hfit)
  unfold retC at cC
  have f0 : ((PS.scrC K0 ⟨bot, q, steps l⟩).2 != 0) = true := by simpa using hc
  generalize (PS.scrC K0 ⟨bot, q, steps l⟩).2 = r at *
  generalize (PS.scrC K0 ⟨bot, q, steps l⟩).1 = i at *
  generalize l.length = L at *
  unfold scC at *
  clear hA hfit hlen hb hc
  go_enter Try.func10, Try.ntmps10
  go_wp2_with fail
  refine cC.out.mono ?_
  rintro e w1 ⟨rfl, k1⟩
  have K1 := Lib.hid (KX.out.trans k1)
  clear k1
  go_wp2
  go_ret2
  exact ⟨rfl, K1.out⟩

set_option maxHeartbeats 8000000 in
set_option maxRecDepth 100000 in
theorem bytes_scr (bot : List UInt8) (q : Int) (A : Option Addr) (c : Nat) (l : List Ms) (w : World) (hA : StepsAt w A l) (hlen : l.length ≤ maxLen) (hb : bot.length ≤ maxLen) (hfit : ∀ m, m ∈ l → MsFit m) (hc : (PS.scrC K0 ⟨bot, q, steps l⟩).2 = 0) :
    Calls Try.prog 10 #[.agg (scC bot q A l.length c)] w (Ret (.tuple #[.string (S (scB bot q l)), .int .i64 0]) w) := by
  have KX := Lib.hid ((Keeps.refl w).alloc (.cells (scC bot q A l.length c) 25))
  have HB := Lib.hid (ScB.new w bot q A l.length c)
  have cC : Hid (Calls Try.prog 12 #[.agg (scC bot q A l.length c)] (w.alloc (.cells (scC bot q A l.length c) 25)) (Ret (.tuple #[.int .i64 0, .int .i64 0]) (w.alloc (.cells (scC bot q A l.length c) 25)))) := Lib.hid (by
    have h := check_scr bot q A c l (w.alloc (.cells (scC bot q A l.length c) 25)) (hA.keeps KX.out) hlen hb hfit
    rw [PS.scrC_good K0 _ hc] at h
    exact h)
  obtain ⟨g1, g2, g3, g4, g5⟩ := PS.scrC_ok K0 hc
  have h1 : bot.length ≤ 255 := userB_len g1
  have h4 : l.length ≤ 300 := by simpa [steps] using g4
  simp only at g2 g3
  have HG5 := Lib.hid g5
  have HA := Lib.hid hA
  obtain ⟨qn, rfl⟩ := Int.eq_ofNat_of_zero_le (show 0 ≤ q by omega)
  have hF : scB bot qn l = [UInt8.ofNat bot.length] ++ bot ++ PS.num2 qn ++ PS.num2 l.length ++ (steps l).flatMap (PS.stepB K0) := by
    unfold scB PS.scrB
    simp [steps]
  rw [hF]
  clear hF g5 g4 g1 hc hfit hlen hb hA
  generalize hF : [UInt8.ofNat bot.length] ++ bot ++ PS.num2 qn ++ PS.num2 l.length ++ (steps l).flatMap (PS.stepB K0) = F
  have HF := Lib.hid hF
  clear hF
  obtain ⟨i0, hi, hz0, hz1, hz2⟩ := info_parts info5
  generalize hL : l.length = L at *
  have HL := Lib.hid hL
  obtain ⟨d0, d1, d2⟩ := HB.out.cells
  have sb := S_size bot
  generalize hW : w.alloc (.cells (scC bot qn A L c) 25) = W at *
  have HW := Lib.hid hW
  unfold scC at hW cC ⊢
  clear hL
  go_enter Try.func10, Try.ntmps10
  go_wp2_with fail
  clear hW
  refine cC.out.mono ?_
  rintro e w1 ⟨rfl, k1⟩
  have K1 := Lib.hid (KX.out.trans k1)
  have B1 := Lib.hid (HB.out.keeps k1)
  have SA1 := Lib.hid (HA.out.keeps K1.out)
  clear k1 d0 d1 d2
  obtain ⟨d0, d1, d2⟩ := B1.out.cells
  have hltw : w.heap.size < w1.heap.size := blk_lt B1.out
  have hu := Lib.hid (show ((UInt8.ofNat bot.length).toNat : Int) = ((S bot).size : Int) from by rw [S_size]; rw [UInt8.toNat_ofNat_of_lt' (by show bot.length < 256; omega)])
  generalize UInt8.ofNat bot.length = cb at *
  have q0 : (0 : Int) ≤ ((S bot).size : Int) := by omega
  have q1 : ((S bot).size : Int) ≤ 255 := by rw [sb]; omega
  have ho1 : Hid (Owns (w1.alloc (.cells #[.int .u8 ((S bot).size : Int)] 5)) w1.heap.size (.slice (some ⟨w1.heap.size, 0, none⟩) 1 1) [cb]) := Lib.hid (owns_one w1 cb _ hu.out.symm)
  have HG1 := Lib.hid ((Gr.refl w1.heap.size w1).alloc (Nat.le_refl _) (.cells #[.int .u8 ((S bot).size : Int)] 5))
  clear sb
  go_wp2_with (at_builtin; refine Lib.wpList_append_own_string _ rfl (.tmp 22) (.tmp 24) 48 9 rfl w1.heap.size 5 i0 Try.underlying48 Try.underlying9 hi hz0 hz1 hz2 _ _ _ rfl ho1.out (S bot) rfl ?d1 ?d2 ?d3 ?_)
  case d1 => rw [S_size]; unfold maxLen; simp; omega
  case d2 => rw [S_size]; simp; omega
  case d3 => simp
  intro v2 w2 hown hgrow hjunk
  clear hjunk
  obtain ⟨l2, hl2, ho2⟩ : ∃ l2, Hid (l2 = [cb] ++ bot) ∧ Hid (Owns w2 w1.heap.size v2 l2) := ⟨_, Lib.hid rfl, Lib.hid (own_text (w := w1) (v := v2) hown)⟩
  have hlen2 : l2.length ≤ 256 := by rw [hl2.out]; simp; omega
  have HG2 := Lib.hid (HG1.out.grown ho1.out (by simp) hgrow)
  have B2 := Lib.hid (B1.out.gr HG2.out)
  clear hown hgrow d0 d1 d2
  obtain ⟨d0, d1, d2⟩ := B2.out.cells
  have cN := Lib.hid (num2_any v2 l2 qn w1.heap.size w2 (by omega) (by omega) HG2.out.size ho2.out)
  go_wp2_with fail
  refine cN.out.mono ?_
  rintro e w3 ⟨v3, rfl, hown, hg3⟩
  obtain ⟨l3, hl3, ho3⟩ : ∃ l3, Hid (l3 = l2 ++ PS.num2 qn) ∧ Hid (Owns w3 w1.heap.size v3 l3) := ⟨_, Lib.hid rfl, Lib.hid hown⟩
  have hlen3 : l3.length ≤ 258 := by rw [hl3.out]; simp [PS.num2]; omega
  have HG3 := Lib.hid (HG2.out.trans hg3)
  have B3 := Lib.hid (B1.out.gr HG3.out)
  clear hown hg3 d0 d1 d2 cN
  obtain ⟨d0, d1, d2⟩ := B3.out.cells
  have cN := Lib.hid (num2_any v3 l3 L w1.heap.size w3 (by omega) (by omega) HG3.out.size ho3.out)
  go_wp2_with fail
  refine cN.out.mono ?_
  rintro e w4 ⟨v4, rfl, hown, hg4⟩
  obtain ⟨l4, hl4, ho4⟩ : ∃ l4, Hid (l4 = l3 ++ PS.num2 L) ∧ Hid (Owns w4 w1.heap.size v4 l4) := ⟨_, Lib.hid rfl, Lib.hid hown⟩
  have hlen4 : l4.length ≤ 260 := by rw [hl4.out]; simp [PS.num2]; omega
  have HG4 := Lib.hid (HG3.out.trans hg4)
  have B4 := Lib.hid (B1.out.gr HG4.out)
  clear hown hg4 d0 d1 d2 cN
  obtain ⟨d0, d1, d2⟩ := B4.out.cells
  have HF2 : Hid (F = l4 ++ (steps l).flatMap (PS.stepB K0)) := Lib.hid (by rw [← HF.out, hl4.out, hl3.out, hl2.out])
  have hpos : 0 < l4.length := by rw [hl4.out]; simp [PS.num2]
  go_wp2
  go_loopg [6, 38] (L + 1) (fun g b i wr => ∃ k : Nat, i = .int .i64 (k : Int) ∧ k ≤ L ∧ L - k < g ∧ Hid (Owns wr w1.heap.size b (l4 ++ ((steps l).take k).flatMap (PS.stepB K0)) ∧ Gr w1.heap.size w1 wr))
  case atStart => exact ⟨0, rfl, Nat.zero_le _, by omega, Lib.hid ⟨by simpa using ho4.out, HG4.out⟩⟩
  case round =>
    obtain ⟨k, rfl, hkL, hkg, hI⟩ := hrel
    clear d0 d1 d2
    by_cases hlt : k < L
    · have hlt' : k < l.length := by rw [HL.out]; exact hlt
      have hls : k < (steps l).length := by simpa [steps] using hlt'
      have HOw := Lib.hid hI.out.1
      have HGw := Lib.hid hI.out.2
      obtain ⟨⟨g, o, hAe, hcc⟩, hm⟩ := (SA1.out.keeps HGw.out.b) k hlt'
      have hm1 := (SA1.out k hlt').2
      have hgs : (steps l)[k]'hls = (l[k]'hlt').s := by simp [steps]
      have hgood : PS.stepC K0 (l[k]'hlt').s = 0 := by
        rw [← hgs]; exact HG5.out _ (List.getElem_mem hls)
      have htk : ((steps l).take (k + 1)).flatMap (PS.stepB K0) = ((steps l).take k).flatMap (PS.stepB K0) ++ PS.stepB K0 (l[k]'hlt').s := by
        rw [List.take_succ_eq_append_getElem hls, List.flatMap_append, hgs]
        simp only [List.flatMap_cons, List.flatMap_nil, List.append_nil]
      have hll : (((steps l).take k).flatMap (PS.stepB K0)).length ≤ 1400000 := by
        have h1 := steps_len ((steps l).take k) fun s hs => HG5.out s (List.mem_of_mem_take hs)
        have h2 : ((steps l).take k).length ≤ k := by rw [List.length_take]; omega
        have h3 : 4500 * ((steps l).take k).length ≤ 4500 * 300 := Nat.mul_le_mul_left _ (by omega)
        omega
      clear hls hgs
      generalize l[k]'hlt' = m at *
      have HTK := Lib.hid htk
      generalize ((steps l).take k).flatMap (PS.stepB K0) = lk at *
      have hsw := Lib.hid HGw.out.size
      have HGx := Lib.hid (HGw.out.alloc hsw.out (.cells (msC m) 31))
      have cN := Lib.hid (appendStep_any w1 (wr.alloc (.cells (msC m) 31)) u6 (l4 ++ lk) m HGx.out.b (World.ownsRow.alloc HOw.out _) hm1 hgood (by simp; omega))
      subst hAe
      obtain ⟨e0, e1, e2, e3, e4, e5, e6⟩ := hcc.seven
      have f1' : decide (k < L) = true := by simpa using hlt
      have f1 : decide ((k : Int) < (L : Int)) = true := by simp; omega
      have p1 : (0 : Int) ≤ (k : Int) := by omega
      have p2 : (k : Int) < (L : Int) := by omega
      clear hI htk hll hcc hm hm1 hgood
      unfold msC at cN HGx
      go_wp2_with fail
      refine cN.out.mono ?_
      rintro e w6 ⟨v6, rfl, hown, hg6⟩
      have HG6 := Lib.hid (HGx.out.trans hg6)
      have ho6 : Hid (Owns w6 w1.heap.size v6 (l4 ++ ((steps l).take (k + 1)).flatMap (PS.stepB K0))) := Lib.hid (by rw [HTK.out, ← List.append_assoc]; exact hown)
      clear hown hg6 e0 e1 e2 e3 e4 e5 e6
      go_wp2
      cases gk with
      | zero => omega
      | succ g2 =>
        go_roundg g2
        case measure => omega
        case rel => exact ⟨k + 1, by go_num, by omega, by omega, Lib.hid ⟨ho6.out, HG6.out⟩⟩
    · have htk : (steps l).take k = steps l := List.take_of_length_le (by simp [steps]; rw [HL.out]; omega)
      have HI := Lib.hid hI.out
      rw [htk, ← HF2.out] at HI
      have f1' : decide (k < L) = false := by simpa using hlt
      have f1 : decide ((k : Int) < (L : Int)) = false := by simp; omega
      have hcv := conv_owned HI.out.1 (by rw [HF2.out]; simp; omega)
      have HK := Lib.hid (K1.out.trans HI.out.2.b)
      clear hI htk
      go_wp2
      go_ret2
      exact ⟨rfl, HK.out⟩
end Go.Proofs.Ytpcfcbaapnkanaa
