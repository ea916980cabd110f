/-
  A step is written: appendStep.
-/
import Derived.Test.YtpcfcbaapnkanaaAp
namespace Go.Proofs.Ytpcfcbaapnkanaa
open Go.RowKit

theorem bytes_good (k code n : Int) (ok : Bool) (text : ByteArray) (w : World) (hs : text.size ≤ 5000) (hc : chk k code n ok text.size = 0) :
    Calls Try.prog 43 #[inV k code n ok text] w (fun e w' => e = .returned (.tuple #[.string (S (recL k code n ok text.data.toList)), .int .i64 0]) ∧ Keeps w w') := by
  have ht : text.size ≤ maxLen := by unfold maxLen; omega
  have hc0 := hc
  unfold chk at hc0
  by_cases h1 : k = 1
  · subst h1; exact bytes_one code n ok text w ht hc hs
  · rw [if_neg h1] at hc0
    by_cases h2 : k = 2
    · subst h2
      rw [if_pos rfl] at hc0
      split at hc0
      · cases hc0
      · exact bytes_two code n ok text w ht hc (by omega) (by omega)
    · rw [if_neg h2] at hc0
      by_cases h3 : k = 3
      · subst h3
        rw [if_pos rfl] at hc0
        split at hc0
        · cases hc0
        · exact bytes_three code n ok text w ht hc (by omega) (by omega)
      · rw [if_neg h3] at hc0
        by_cases h4 : k = 4
        · subst h4
          rw [if_pos rfl] at hc0
          split at hc0
          · cases hc0
          · exact bytes_four code n ok text w ht hc (by omega) (by omega)
        · rw [if_neg h4] at hc0
          by_cases h5 : k = 5
          · subst h5
            rw [if_pos rfl] at hc0
            split at hc0
            · cases hc0
            · exact bytes_five code n ok text w ht hc hs (by omega) (by omega)
          · rw [if_neg h5] at hc0
            by_cases h6 : k = 6
            · subst h6; exact bytes_six code n ok text w ht hc
            · rw [if_neg h6] at hc0; cases hc0


theorem owns_keeps {w w' : World} {B : Nat} {v : Value} {l : List UInt8} (h : Owns w B v l) (k : Keeps w w') : Owns w' B v l :=
  ⟨h.1, h.2.imp id (fun ⟨g, cap, cur, e, hb, hg, r⟩ => ⟨g, cap, cur, e, hb, (k.block g (blk_lt hg)).trans hg, r⟩)⟩
theorem chk_len {x : Inp} (h : x.chk = 0) : x.t.length ≤ 5000 := by
  unfold Inp.chk chk at h
  split at h
  · split at h
    · cases h
    · split at h
      · cases h
      · omega
  · split at h
    · split at h
      · cases h
      · omega
    · split at h
      · split at h
        · cases h
        · omega
      · split at h
        · split at h
          · cases h
          · omega
        · split at h
          · split at h
            · cases h
            · split at h
              · cases h
              · omega
          · split at h
            · split at h
              · cases h
              · omega
            · cases h
theorem rec_any (x : Inp) (h : x.chk = 0) (w : World) : Calls Try.prog 43 #[x.v] w (fun e w' => e = .returned (.tuple #[.string (S x.bytes), .int .i64 0]) ∧ Keeps w w') :=
  bytes_good x.k x.code x.n x.ok (S x.t) w (chk_len h) h

set_option maxHeartbeats 8000000 in
set_option maxRecDepth 100000 in
theorem appendStep_any (w0 w : World) (v : Value) (l : List UInt8) (m : Ms) (hK : Keeps w0 w) (hv : Owns w w0.heap.size v l) (hm : MsOk w0 m) (hg : PS.stepC K0 m.s = 0) (hl : l.length ≤ 5000000) :
    Calls Try.prog 25 #[v, .agg (msC m)] w (Apd w0.heap.size w (l ++ PS.stepB K0 m.s)) := by
  obtain ⟨g1, g2, g3, g4⟩ := PS.stepC_ok K0 hg
  clear hg
  have cR := Lib.hid (fun wx => rec_any m.s.inp g1 wx)
  have hr := (rec_len m.s.inp g1).1
  have hs0 := Lib.hid hK.size
  have hsB : PS.stepB K0 m.s = [UInt8.ofNat (if m.s.crash = true then 1 else 0)] ++ (PS.num2 m.s.inp.bytes.length ++ (m.s.inp.bytes ++ if m.s.crash = true then PS.cutsB m.s.cuts else [])) := rfl
  rw [hsB]
  clear hsB g1
  have KX := Lib.hid ((Keeps.refl w).alloc (.cells (msC m) 31))
  have HB := Lib.hid (MsB.new w m)
  generalize m.s.inp.bytes = r at *
  obtain ⟨i0, hi, hz0, hz1, hz2⟩ := info_parts info5
  obtain ⟨d0, d1, d2, d3, d4, d5, d6⟩ := HB.out.cells
  have HV := Lib.hid hv
  have HK := Lib.hid hK
  have HM := Lib.hid hm
  clear hv hK hm
  generalize hW : w.alloc (.cells (msC m) 31) = W at *
  have HW := Lib.hid hW
  generalize hL : m.s.cuts.length = L at *
  have HL := Lib.hid hL
  unfold msC at hW ⊢
  unfold Inp.v inV at cR
  rw [hL] at hW ⊢
  clear hL
  cases hcr : m.s.crash with
  | false =>
    rw [hcr] at hW d0
    have hfin : l ++ ([UInt8.ofNat (if false = true then 1 else 0)] ++ (PS.num2 r.length ++ (r ++ if false = true then PS.cutsB m.s.cuts else []))) = l ++ [0] ++ PS.num2 r.length ++ r := by simp
    rw [hfin]
    generalize hF : l ++ [0] ++ PS.num2 r.length ++ r = F
    have HF := Lib.hid hF
    clear hF
    have HCR := Lib.hid hcr
    clear hfin hcr g4 g3
    go_enter Try.func25, Try.ntmps25
    go_wp2_with fail
    clear hW
    refine (cR.out _).mono ?_
    rintro e w1 ⟨rfl, k1⟩
    have K1 := Lib.hid (KX.out.trans k1)
    have B1 := Lib.hid (HB.out.keeps k1)
    clear k1 d0 d1 d2 d3 d4 d5 d6
    obtain ⟨d0, d1, d2, d3, d4, d5, d6⟩ := B1.out.cells
    rw [HCR.out] at d0
    rw [HL.out] at d6
    have HG0 := Lib.hid (Gr.of_keeps hs0.out K1.out)
    have HG1 := Lib.hid (Gr.refl w0.heap.size w1)
    have hs1 := Lib.hid (Nat.le_trans hs0.out K1.out.size)
    have ho1 := Lib.hid (owns_keeps HV.out K1.out)
    go_wp2_with (at_builtin; refine wpList_append_own _ rfl (.tmp 18) (.tmp 19) 48 rfl w0.heap.size 5 i0 (.int .u8 0) 1 1 Try.underlying48 hi hz0 hz1 hz2 rfl (by decide) _ _ _ rfl (World.ownsRow.alloc ho1.out _) ⟨w1.heap.size, 0, none⟩ 1 1 [.int .u8 0] rfl rfl ?c1 ?c2 ?c3 ?c4 ?c5 ?_)
    case c1 => exact cell_new w1 0 0 rfl
    case c2 => exact one_cell _
    case c3 => unfold maxLen; omega
    case c4 => omega
    case c5 => have := hs1.out; simp; omega
    intro v2 w2 hown hgrow hjunk
    clear hjunk
    have HG2 := Lib.hid ((HG1.out.alloc hs1.out _).grown (World.ownsRow.alloc ho1.out _) (by have := hs1.out; simp; omega) hgrow)
    have ho2 : Hid (Owns w2 w0.heap.size v2 (l ++ [0])) := Lib.hid (by simpa [Owns, bv] using hown)
    have hs2 := Lib.hid (Nat.le_trans hs1.out HG2.out.size)
    have cN := Lib.hid (num2_any v2 (l ++ [0]) r.length w0.heap.size w2 (by omega) (by simp; omega) hs2.out ho2.out)
    clear hown hgrow d0 d1 d2 d3 d4 d5 d6
    go_wp2_with fail
    refine cN.out.mono ?_
    rintro e w3 ⟨v3, rfl, hown, hg3⟩
    have HG3 := Lib.hid (HG2.out.trans hg3)
    obtain ⟨l3, hl3, ho3⟩ : ∃ l3, Hid (l3 = l ++ [0] ++ PS.num2 r.length) ∧ Hid (Owns w3 w0.heap.size v3 l3) := ⟨_, Lib.hid rfl, Lib.hid hown⟩
    have hlen3 : l3.length ≤ 5000003 := by rw [hl3.out]; simp [PS.num2]; omega
    have hs3 := Lib.hid (Nat.le_trans hs1.out HG3.out.size)
    clear hown hg3 cN
    go_wp2_with (at_builtin; refine Lib.wpList_append_own_string _ rfl (.tmp 23) (.tmp 24) 48 9 rfl w0.heap.size 5 i0 Try.underlying48 Try.underlying9 hi hz0 hz1 hz2 _ _ _ rfl ho3.out (S r) rfl ?d1 ?d2 ?d3 ?_)
    case d1 => rw [S_size]; unfold maxLen; omega
    case d2 => rw [S_size]; omega
    case d3 => exact hs3.out
    intro v4 w4 hown hgrow hjunk
    clear hjunk
    have ho4 := Lib.hid (own_text (w := w3) (v := v4) hown)
    have HG4 := Lib.hid (HG3.out.grown ho3.out hs3.out hgrow)
    have hs4 := Lib.hid (Nat.le_trans hs1.out HG4.out.size)
    clear hown hgrow
    go_wp2
    go_ret
    refine ⟨_, rfl, ?_, HG0.out.trans HG4.out⟩
    rw [← HF.out, ← hl3.out]; exact ho4.out
  | true =>
    rw [hcr] at hW d0
    have hfin : l ++ ([UInt8.ofNat (if true = true then 1 else 0)] ++ (PS.num2 r.length ++ (r ++ if true = true then PS.cutsB m.s.cuts else []))) = l ++ [1] ++ PS.num2 r.length ++ r ++ [UInt8.ofNat m.s.cuts.length] ++ (m.s.cuts.map Int.toNat).flatMap PS.num2 := by simp [PS.cutsB]
    rw [hfin, HL.out]
    generalize hF : l ++ [1] ++ PS.num2 r.length ++ r ++ [UInt8.ofNat L] ++ (m.s.cuts.map Int.toNat).flatMap PS.num2 = F
    have HF := Lib.hid hF
    clear hF
    have HCR := Lib.hid hcr
    have HC3 := Lib.hid g3
    clear hfin hcr g4 g3
    go_enter Try.func25, Try.ntmps25
    go_wp2_with fail
    clear hW
    refine (cR.out _).mono ?_
    rintro e w1 ⟨rfl, k1⟩
    have K1 := Lib.hid (KX.out.trans k1)
    have B1 := Lib.hid (HB.out.keeps k1)
    clear k1 d0 d1 d2 d3 d4 d5 d6
    obtain ⟨d0, d1, d2, d3, d4, d5, d6⟩ := B1.out.cells
    rw [HCR.out] at d0
    rw [HL.out] at d6
    have HG0 := Lib.hid (Gr.of_keeps hs0.out K1.out)
    have HG1 := Lib.hid (Gr.refl w0.heap.size w1)
    have hs1 := Lib.hid (Nat.le_trans hs0.out K1.out.size)
    have ho1 := Lib.hid (owns_keeps HV.out K1.out)
    go_wp2_with (at_builtin; refine wpList_append_own _ rfl (.tmp 26) (.tmp 27) 48 rfl w0.heap.size 5 i0 (.int .u8 0) 1 1 Try.underlying48 hi hz0 hz1 hz2 rfl (by decide) _ _ _ rfl (World.ownsRow.alloc ho1.out _) ⟨w1.heap.size, 0, none⟩ 1 1 [.int .u8 1] rfl rfl ?c1 ?c2 ?c3 ?c4 ?c5 ?_)
    case c1 => exact cell_new w1 1 1 rfl
    case c2 => exact one_cell _
    case c3 => unfold maxLen; omega
    case c4 => omega
    case c5 => have := hs1.out; simp; omega
    intro v2 w2 hown hgrow hjunk
    clear hjunk
    have HG2 := Lib.hid ((HG1.out.alloc hs1.out _).grown (World.ownsRow.alloc ho1.out _) (by have := hs1.out; simp; omega) hgrow)
    have ho2 : Hid (Owns w2 w0.heap.size v2 (l ++ [1])) := Lib.hid (by simpa [Owns, bv] using hown)
    have hs2 := Lib.hid (Nat.le_trans hs1.out HG2.out.size)
    have cN := Lib.hid (num2_any v2 (l ++ [1]) r.length w0.heap.size w2 (by omega) (by simp; omega) hs2.out ho2.out)
    clear hown hgrow d0 d1 d2 d3 d4 d5 d6
    go_wp2_with fail
    refine cN.out.mono ?_
    rintro e w3 ⟨v3, rfl, hown, hg3⟩
    have HG3 := Lib.hid (HG2.out.trans hg3)
    obtain ⟨l3, hl3, ho3⟩ : ∃ l3, Hid (l3 = l ++ [1] ++ PS.num2 r.length) ∧ Hid (Owns w3 w0.heap.size v3 l3) := ⟨_, Lib.hid rfl, Lib.hid hown⟩
    have hlen3 : l3.length ≤ 5000003 := by rw [hl3.out]; simp [PS.num2]; omega
    have hs3 := Lib.hid (Nat.le_trans hs1.out HG3.out.size)
    clear hown hg3 cN
    go_wp2_with (at_builtin; refine Lib.wpList_append_own_string _ rfl (.tmp 31) (.tmp 32) 48 9 rfl w0.heap.size 5 i0 Try.underlying48 Try.underlying9 hi hz0 hz1 hz2 _ _ _ rfl ho3.out (S r) rfl ?d1 ?d2 ?d3 ?_)
    case d1 => rw [S_size]; unfold maxLen; omega
    case d2 => rw [S_size]; omega
    case d3 => exact hs3.out
    intro v4 w4 hown hgrow hjunk
    clear hjunk
    have ho4 := Lib.hid (own_text (w := w3) (v := v4) hown)
    have HG4 := Lib.hid (HG3.out.grown ho3.out hs3.out hgrow)
    have hs4 := Lib.hid (Nat.le_trans hs1.out HG4.out.size)
    clear hown hgrow
    generalize hl4 : l3 ++ r = l4 at *
    have hl4' : l4.length ≤ 5005000 := by rw [← hl4]; simp; omega
    have ho4' : Hid (Owns w4 w0.heap.size v4 l4) := Lib.hid (by have h4 := ho4.out; rw [S_data, hl4] at h4; exact h4)
    have B4 := Lib.hid (B1.out.gr HG4.out)
    have HL4 := Lib.hid hl4
    clear hl4 ho4
    obtain ⟨d0, d1, d2, d3, d4, d5, d6⟩ := B4.out.cells
    rw [HL.out] at d6
    clear d0 d1 d2 d3 d4 d5
    have hu := Lib.hid (show ((UInt8.ofNat L).toNat : Int) = (L : Int) from by rw [UInt8.toNat_ofNat_of_lt' (by show L < 256; omega)])
    have HF2 : Hid (F = l4 ++ [UInt8.ofNat L] ++ (m.s.cuts.map Int.toNat).flatMap PS.num2) := Lib.hid (by rw [← HF.out, ← HL4.out, hl3.out])
    generalize UInt8.ofNat L = cL at *
    have q0 : (0 : Int) ≤ (L : Int) := by omega
    have q1 : (L : Int) ≤ 255 := by omega
    go_wp2_with (at_builtin; refine wpList_append_own _ rfl (.tmp 34) (.tmp 39) 48 rfl w0.heap.size 5 i0 (.int .u8 0) 1 1 Try.underlying48 hi hz0 hz1 hz2 rfl (by decide) _ _ _ rfl (World.ownsRow.alloc ho4'.out _) ⟨w4.heap.size, 0, none⟩ 1 1 [.int .u8 (cL.toNat : Int)] rfl rfl ?e1 ?e2 ?e3 ?e4 ?e5 ?_)
    case e1 => exact cell_new w4 _ _ (by rw [hu.out])
    case e2 => exact one_cell _
    case e3 => unfold maxLen; omega
    case e4 => omega
    case e5 => have := hs4.out; simp; omega
    intro v5 w5 hown hgrow hjunk
    clear hjunk
    have HG5 := Lib.hid ((HG4.out.alloc hs4.out _).grown (World.ownsRow.alloc ho4'.out _) (by have := hs4.out; simp; omega) hgrow)
    have ho5 : Hid (Owns w5 w0.heap.size v5 (l4 ++ [cL])) := Lib.hid (by simpa [Owns, bv] using hown)
    have B5 := Lib.hid (B1.out.gr HG5.out)
    clear hown hgrow d6
    obtain ⟨d0, d1, d2, d3, d4, d5, d6⟩ := B5.out.cells
    rw [HL.out] at d6
    clear d0 d1 d2 d3 d4 d5
    go_wp2
    clear d6
    go_loopg [0, 44] (L + 1) (fun g b i wr => ∃ k : Nat, i = .int .i64 (k : Int) ∧ k ≤ L ∧ L - k < g ∧ Hid (Owns wr w0.heap.size b (l4 ++ [cL] ++ ((m.s.cuts.take k).map Int.toNat).flatMap PS.num2) ∧ Gr w0.heap.size w1 wr))
    case atStart => exact ⟨0, rfl, Nat.zero_le _, by omega, Lib.hid ⟨by simpa using ho5.out, HG5.out⟩⟩
    case round =>
      obtain ⟨k, rfl, hkL, hkg, hI⟩ := hrel
      by_cases hlt : k < L
      · have hlt' : k < m.s.cuts.length := by rw [HL.out]; exact hlt
        have HOw := Lib.hid hI.out.1
        have HGw := Lib.hid hI.out.2
        have hkw := (HK.out.trans K1.out).gr HGw.out
        obtain ⟨g, o, hAe, hc⟩ := (CutsAt.keeps HM.out hkw) k hlt'
        have hcut : 0 ≤ m.s.cuts[k]'hlt' ∧ m.s.cuts[k]'hlt' ≤ 600 := by
          have h1 := List.any_eq_false.1 HC3.out _ (List.getElem_mem hlt')
          unfold PS.cutOut at h1
          simp at h1
          omega
        have htk : ((m.s.cuts.take (k + 1)).map Int.toNat).flatMap PS.num2 = ((m.s.cuts.take k).map Int.toNat).flatMap PS.num2 ++ PS.num2 (m.s.cuts[k]'hlt').toNat := by
          rw [List.take_succ_eq_append_getElem hlt', List.map_append, List.flatMap_append]
          simp only [List.map_cons, List.map_nil, List.flatMap_cons, List.flatMap_nil, List.append_nil]
        have hll : (((m.s.cuts.take k).map Int.toNat).flatMap PS.num2).length ≤ 32 := by
          have h0 : ∀ q : List Nat, (q.flatMap PS.num2).length = 2 * q.length := fun q => by
            induction q with
            | nil => rfl
            | cons a r ih => rw [List.flatMap_cons, List.length_append, ih]; simp [PS.num2]; omega
          rw [h0, List.length_map, List.length_take]
          omega
        generalize m.s.cuts[k]'hlt' = c at *
        obtain ⟨n, rfl⟩ := Int.eq_ofNat_of_zero_le hcut.1
        rw [Int.toNat_natCast] at htk
        have HTK := Lib.hid htk
        generalize ((m.s.cuts.take k).map Int.toNat).flatMap PS.num2 = lk at *
        have hsw := Lib.hid (Nat.le_trans hs1.out HGw.out.size)
        have cN := Lib.hid (num2_any u0 (l4 ++ [cL] ++ lk) n w0.heap.size wr (by omega) (by simp; omega) hsw.out HOw.out)
        rw [hAe]
        have HAE := Lib.hid hAe
        clear hAe
        have f1' : decide (k < L) = true := by simpa using hlt
        have f1 : decide ((k : Int) < (L : Int)) = true := by simp; omega
        have p1 : (0 : Int) ≤ (k : Int) := by omega
        have p2 : (k : Int) < (L : Int) := by omega
        clear hI hkw hcut htk hll hlt'
        go_wp2_with fail
        refine cN.out.mono ?_
        rintro e w6 ⟨v6, rfl, hown, hg6⟩
        have HG6 := Lib.hid (HGw.out.trans hg6)
        have ho6 : Hid (Owns w6 w0.heap.size v6 (l4 ++ [cL] ++ ((m.s.cuts.take (k + 1)).map Int.toNat).flatMap PS.num2)) := Lib.hid (by rw [HTK.out, ← List.append_assoc]; exact hown)
        clear hown hg6 hc
        go_wp2
        rw [← HAE.out]
        cases gk with
        | zero => omega
        | succ g2 =>
          go_roundg g2
          case measure => omega
          case rel => exact ⟨k + 1, by go_num, by omega, by omega, Lib.hid ⟨ho6.out, HG6.out⟩⟩
      · have htk : m.s.cuts.take k = m.s.cuts := List.take_of_length_le (by rw [HL.out]; omega)
        have HI := Lib.hid hI.out
        rw [htk] at HI
        have f1' : decide (k < L) = false := by simpa using hlt
        have f1 : decide ((k : Int) < (L : Int)) = false := by simp; omega
        clear hI htk
        go_wp2
        go_ret
        refine ⟨_, rfl, ?_, HG0.out.trans HI.out.2⟩
        rw [HF2.out]; exact HI.out.1
end Go.Proofs.Ytpcfcbaapnkanaa
