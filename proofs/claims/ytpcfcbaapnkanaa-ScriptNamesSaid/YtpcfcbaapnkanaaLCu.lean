/-
  The law ScriptCuts, walked.
-/
import Derived.Test.YtpcfcbaapnkanaaEr
namespace Go.Proofs.Ytpcfcbaapnkanaa
open Go.RowKit

theorem wf_u8 {n : Int} (h : (Lit.int .u8 n).wf = true) : 0 ≤ n ∧ n < 256 := by
  simp [Lit.wf, IntKind.min, IntKind.max, IntKind.bits, IntKind.signed] at h
  omega
theorem S_append (a b : List UInt8) : S a ++ S b = S (a ++ b) := by
  apply ByteArray.ext
  simp [S]

set_option maxHeartbeats 8000000 in
set_option maxRecDepth 100000 in
theorem cuts_any (bot : List UInt8) (q : Int) (A : Option Addr) (c : Nat) (l : List Ms) (cut x : Int) (w : World) (hO : Opened w bot A l c) (hx0 : 0 ≤ x) (hx1 : x < 256) :
    Calls Try.prog 6 #[.agg (scC bot q A l.length c), .int .i64 cut, .int .u8 x] w (Ret (.bool true) w) := by
  have KX := Lib.hid ((Keeps.refl w).alloc (.cells (scC bot q A l.length c) 25))
  have HB := Lib.hid (ScB.new w bot q A l.length c)
  have cV := Lib.hid (lives_any (w.alloc (.cells (scC bot q A l.length c) 25)))
  have cL := Lib.hid (fun wx (k : Keeps w wx) => light_any bot q A c l wx (hO.at_.keeps k) hO.len hO.bot_)
  have cBad := Lib.hid (fun wx (k : Keeps w wx) h => bytes_bad bot q A c l wx (hO.at_.keeps k) hO.len hO.bot_ hO.fit h)
  have cGood := Lib.hid (fun wx (k : Keeps w wx) h => bytes_scr bot q A c l wx (hO.at_.keeps k) hO.len hO.bot_ hO.fit h)
  have HOP := Lib.hid hO
  have HLT := Lib.hid (fun h => light_40 (bot := bot) (l := l) h)
  have hlm := hO.len
  unfold maxLen at hlm
  have cZ := Lib.hid (fun wx => same_zero wx)
  clear hO
  generalize lightB bot l = lb at *
  generalize hL : l.length = L at *
  have HL := Lib.hid hL
  clear hL
  generalize hW : w.alloc (.cells (scC bot q A L c) 25) = W at *
  have HW := Lib.hid hW
  obtain ⟨d0, d1, d2⟩ := HB.out.cells
  unfold scC at hW cL cBad cGood ⊢
  cases lb with
  | false =>
    clear cBad cGood
    go_enter Try.func6, Try.ntmps6
    go_wp2_with fail
    clear hW
    refine cV.out.mono ?_
    rintro e w1 ⟨rfl, k1⟩
    have K1 := Lib.hid (KX.out.trans k1)
    have B1 := Lib.hid (HB.out.keeps k1)
    clear k1 d0 d1 d2
    obtain ⟨d0, d1, d2⟩ := B1.out.cells
    go_wp2_with fail
    refine (cL.out _ K1.out).mono ?_
    rintro e w2 ⟨rfl, k2⟩
    have K2 := Lib.hid (K1.out.trans k2)
    have B2 := Lib.hid (B1.out.keeps k2)
    clear k2 d0 d1 d2
    go_wp2
    go_ret
    exact ⟨rfl, K2.out⟩
  | true =>
    have HLO := Lib.hid (HLT.out rfl)
    by_cases hr : (PS.scrC K0 ⟨bot, q, steps l⟩).2 = 0
    · have cBy := Lib.hid (fun wx k => cGood.out wx k hr)
      have HR := Lib.hid hr
      have hyl := scB_len hr
      have hy0 : 1 ≤ (scB bot q l).length := by unfold scB PS.scrB; simp
      have hfront := fun j hj => PS.read_front K0 ⟨bot, q, steps l⟩ hr j hj
      have hmore := fun cb => PS.read_more K0 ⟨bot, q, steps l⟩ hr cb
      have hsb : PS.scrB K0 ⟨bot, q, steps l⟩ = scB bot q l := rfl
      rw [hsb] at hfront hmore
      have HLESS : Hid (∀ (k : Nat) (lE : List Ms), k < L → steps lE = (steps l).eraseIdx k → (scB bot q lE).length < (scB bot q l).length) := Lib.hid (fun k lE hk he => by
        have := PS.scrB_less K0 ⟨bot, q, steps l⟩ k (by simp [steps, HL.out]; exact hk)
        unfold scB
        rw [he]
        exact this)
      generalize hY : scB bot q l = Y at *
      have HY := Lib.hid hY
      clear hsb hY hr cGood cBad
      obtain ⟨j, hj, hP1⟩ := pick_nat cut (S Y).size (by rw [S_size]; exact hy0) (by rw [S_size]; omega)
      have cP1 := Lib.hid hP1
      have sy := S_size Y
      have hjs : j ≤ (S Y).size := by omega
      have hjs' : (j : Int) ≤ ((S Y).size : Int) := by omega
      have cRF : Hid (∀ wx, Calls Try.prog 11 #[.string ((S Y).extract 0 j)] wx (Ret (.tuple #[.agg #[.string ⟨#[]⟩, .int .i64 0, .slice none 0 0], .int .i64 3]) wx)) := Lib.hid (fun wx => by
        rw [S_take]
        refine (readS_any (Y.take j) wx (by rw [List.length_take]; omega)).mono ?_
        rintro e w' ⟨hk, hm⟩
        rw [hfront j (by rw [← sy]; exact hj)] at hm
        exact ⟨hm, hk⟩)
      obtain ⟨cb, hcb⟩ : ∃ cb : UInt8, (cb.toNat : Int) = x := ⟨UInt8.ofNat x.toNat, by rw [UInt8.toNat_ofNat_of_lt' (by show x.toNat < 256; omega)]; omega⟩
      have hcx := Lib.hid hcb
      have cRM : Hid (∀ wx, Calls Try.prog 11 #[.string (S Y ++ S [cb])] wx (Ret (.tuple #[.agg #[.string ⟨#[]⟩, .int .i64 0, .slice none 0 0], .int .i64 5]) wx)) := Lib.hid (fun wx => by
        rw [S_append]
        refine (readS_any (Y ++ [cb]) wx (by simp; omega)).mono ?_
        rintro e w' ⟨hk, hm⟩
        rw [hmore cb] at hm
        exact ⟨hm, hk⟩)
      have fne : (S Y).toList.isEmpty = false := by
        rw [ByteArray.toList_eq, S_data]
        cases Y with
        | nil => simp at hy0
        | cons a r => rfl
      have hbs : ((S Y).size : Int) ≤ 3000000 := by omega
      clear hfront hmore hP1 hj hcb sy hyl hy0
      by_cases hz : L = 0
      · subst hz
        go_enter Try.func6, Try.ntmps6
        go_wp2_with fail
        clear hW
        refine cV.out.mono ?_
        rintro e w1 ⟨rfl, k1⟩
        have K1 := Lib.hid (KX.out.trans k1)
        have B1 := Lib.hid (HB.out.keeps k1)
        clear k1 d0 d1 d2
        obtain ⟨d0, d1, d2⟩ := B1.out.cells
        go_wp2_with fail
        refine (cL.out _ K1.out).mono ?_
        rintro e w2 ⟨rfl, k2⟩
        have K2 := Lib.hid (K1.out.trans k2)
        have B2 := Lib.hid (B1.out.keeps k2)
        clear k2 d0 d1 d2

        obtain ⟨d0, d1, d2⟩ := B2.out.cells
        go_wp2_with fail
        refine (cBy.out _ K2.out).mono ?_
        rintro e w3 ⟨rfl, k3⟩
        have K3 := Lib.hid (K2.out.trans k3)
        have B3 := Lib.hid (B2.out.keeps k3)
        clear k3 d0 d1 d2

        go_wp2_with fail
        refine (cP1.out _).mono ?_
        rintro e w3' ⟨rfl, rfl⟩
        go_wp2_with fail
        refine (cRF.out _).mono ?_
        rintro e w4 ⟨rfl, k4⟩
        have K4 := Lib.hid ((K3.out.trans k4).alloc (.cells #[.string ⟨#[]⟩, .int .i64 0, .slice none 0 0] 25))
        have B4 := Lib.hid (B3.out.keeps (k4.alloc (.cells #[.string ⟨#[]⟩, .int .i64 0, .slice none 0 0] 25)))
        have T4 := Lib.hid (Blk.new w4 #[.string ⟨#[]⟩, .int .i64 0, .slice none 0 0] 25)
        clear k4
        have HO4 := Lib.hid (owns_one (w4.alloc (.cells #[.string ⟨#[]⟩, .int .i64 0, .slice none 0 0] 25)) cb x hcx.out.symm)
        have hcv := conv_owned HO4.out (Nat.zero_lt_succ _)
        simp only [World.size_alloc] at hcv
        have K4b := Lib.hid (K4.out.alloc (.cells #[.int .u8 x] 5))
        have B4b := Lib.hid (B4.out.keeps ((Keeps.refl _).alloc (.cells #[.int .u8 x] 5)))
        have T4b := Lib.hid (T4.out.alloc (.cells #[.int .u8 x] 5))
        have hc1 : (S [cb]).size = 1 := rfl
        have hc2 : (S Y).size + 1 ≤ 9223372036854775807 := by omega
        go_wp2_with fail
        clear hcv hc1 hc2
        refine (cRM.out _).mono ?_
        rintro e w5 ⟨rfl, k5⟩
        have T5w := Lib.hid (T4b.out.keeps k5)
        have hlt5 : w4.heap.size < w5.heap.size := blk_lt T5w.out
        have K5 := Lib.hid ((K4b.out.trans k5).alloc (.cells #[.string ⟨#[]⟩, .int .i64 0, .slice none 0 0] 25))
        have B5 := Lib.hid (B4b.out.keeps (k5.alloc (.cells #[.string ⟨#[]⟩, .int .i64 0, .slice none 0 0] 25)))
        have U5 := Lib.hid (Blk.new w5 #[.string ⟨#[]⟩, .int .i64 0, .slice none 0 0] 25)
        clear k5
        obtain ⟨t0, t1, t2, -, -, -⟩ := T5w.out.three
        go_wp2_with fail
        refine (cZ.out _).mono ?_
        rintro e w6 ⟨rfl, k6⟩
        have K6 := Lib.hid (K5.out.trans k6)
        have B6 := Lib.hid (B5.out.keeps k6)
        have U6 := Lib.hid (U5.out.keeps k6)
        clear k6 t0 t1 t2
        obtain ⟨t0, t1, t2, -, -, -⟩ := U6.out.three
        go_wp2_with fail
        refine (cZ.out _).mono ?_
        rintro e w7 ⟨rfl, k7⟩
        have K7 := Lib.hid (K6.out.trans k7)
        have B7 := Lib.hid (B6.out.keeps k7)
        clear k7 t0 t1 t2
        obtain ⟨d0, d1, d2⟩ := B7.out.cells
        go_wp2
        go_ret
        exact ⟨rfl, K7.out⟩
      · have g6 : ((L : Int) == 0) = false := by simp; omega
        obtain ⟨k, hk, hP2⟩ := pick_nat cut L (by omega) (by have := HLO.out.1; omega)
        have cP2 := Lib.hid hP2
        have cOw := Lib.hid (fun wx (kx : Keeps w wx) => own_any bot q A c l wx ⟨HOP.out.at_.keeps kx, HOP.out.fit, HOP.out.aok, HOP.out.maok, HOP.out.len, HOP.out.bot_⟩ (by rw [HL.out]; have := HLO.out.1; omega) HLO.out.2)
        rw [HL.out] at cOw
        clear hP2
        go_enter Try.func6, Try.ntmps6
        go_wp2_with fail
        clear hW
        refine cV.out.mono ?_
        rintro e w1 ⟨rfl, k1⟩
        have K1 := Lib.hid (KX.out.trans k1)
        have B1 := Lib.hid (HB.out.keeps k1)
        clear k1 d0 d1 d2
        obtain ⟨d0, d1, d2⟩ := B1.out.cells
        go_wp2_with fail
        refine (cL.out _ K1.out).mono ?_
        rintro e w2 ⟨rfl, k2⟩
        have K2 := Lib.hid (K1.out.trans k2)
        have B2 := Lib.hid (B1.out.keeps k2)
        clear k2 d0 d1 d2

        obtain ⟨d0, d1, d2⟩ := B2.out.cells
        go_wp2_with fail
        refine (cBy.out _ K2.out).mono ?_
        rintro e w3 ⟨rfl, k3⟩
        have K3 := Lib.hid (K2.out.trans k3)
        have B3 := Lib.hid (B2.out.keeps k3)
        clear k3 d0 d1 d2

        go_wp2_with fail
        refine (cP1.out _).mono ?_
        rintro e w3' ⟨rfl, rfl⟩
        go_wp2_with fail
        refine (cRF.out _).mono ?_
        rintro e w4 ⟨rfl, k4⟩
        have K4 := Lib.hid ((K3.out.trans k4).alloc (.cells #[.string ⟨#[]⟩, .int .i64 0, .slice none 0 0] 25))
        have B4 := Lib.hid (B3.out.keeps (k4.alloc (.cells #[.string ⟨#[]⟩, .int .i64 0, .slice none 0 0] 25)))
        have T4 := Lib.hid (Blk.new w4 #[.string ⟨#[]⟩, .int .i64 0, .slice none 0 0] 25)
        clear k4
        have HO4 := Lib.hid (owns_one (w4.alloc (.cells #[.string ⟨#[]⟩, .int .i64 0, .slice none 0 0] 25)) cb x hcx.out.symm)
        have hcv := conv_owned HO4.out (Nat.zero_lt_succ _)
        simp only [World.size_alloc] at hcv
        have K4b := Lib.hid (K4.out.alloc (.cells #[.int .u8 x] 5))
        have B4b := Lib.hid (B4.out.keeps ((Keeps.refl _).alloc (.cells #[.int .u8 x] 5)))
        have T4b := Lib.hid (T4.out.alloc (.cells #[.int .u8 x] 5))
        have hc1 : (S [cb]).size = 1 := rfl
        have hc2 : (S Y).size + 1 ≤ 9223372036854775807 := by omega
        go_wp2_with fail
        clear hcv hc1 hc2
        refine (cRM.out _).mono ?_
        rintro e w5 ⟨rfl, k5⟩
        have T5w := Lib.hid (T4b.out.keeps k5)
        have hlt5 : w4.heap.size < w5.heap.size := blk_lt T5w.out
        have K5 := Lib.hid ((K4b.out.trans k5).alloc (.cells #[.string ⟨#[]⟩, .int .i64 0, .slice none 0 0] 25))
        have B5 := Lib.hid (B4b.out.keeps (k5.alloc (.cells #[.string ⟨#[]⟩, .int .i64 0, .slice none 0 0] 25)))
        have U5 := Lib.hid (Blk.new w5 #[.string ⟨#[]⟩, .int .i64 0, .slice none 0 0] 25)
        clear k5
        obtain ⟨t0, t1, t2, -, -, -⟩ := T5w.out.three
        go_wp2_with fail
        refine (cZ.out _).mono ?_
        rintro e w6 ⟨rfl, k6⟩
        have K6 := Lib.hid (K5.out.trans k6)
        have B6 := Lib.hid (B5.out.keeps k6)
        have U6 := Lib.hid (U5.out.keeps k6)
        clear k6 t0 t1 t2
        obtain ⟨t0, t1, t2, -, -, -⟩ := U6.out.three
        go_wp2_with fail
        refine (cZ.out _).mono ?_
        rintro e w7 ⟨rfl, k7⟩
        have K7 := Lib.hid (K6.out.trans k7)
        have B7 := Lib.hid (B6.out.keeps k7)
        clear k7 t0 t1 t2
        obtain ⟨d0, d1, d2⟩ := B7.out.cells
        go_wp2_with fail
        refine (cOw.out _ K7.out).mono ?_
        rintro e w8 ⟨A8, c8, l8, rfl, hst8, hrow8, hmo8, k8⟩
        have hll8 : l8.length = L := by have := congrArg List.length hst8; rw [← HL.out]; simpa [steps] using this
        obtain ⟨g8, rfl⟩ := hrow8.some_ (fun e => by rw [e] at hll8; simp at hll8; omega)
        rw [hll8]
        unfold scC
        have K8 := Lib.hid ((K7.out.trans k8).alloc (.cells #[.string (S bot), .int .i64 q, .slice (some ⟨g8, 0, none⟩) L c8] 25))
        have B8 := Lib.hid (B7.out.keeps (k8.alloc (.cells #[.string (S bot), .int .i64 q, .slice (some ⟨g8, 0, none⟩) L c8] 25)))
        have K78 := Lib.hid (k8.size)
        have X8 := Lib.hid (Blk.new w8 #[.string (S bot), .int .i64 q, .slice (some ⟨g8, 0, none⟩) L c8] 25)
        have hrow9 : MsRow (w8.alloc (.cells #[.string (S bot), .int .i64 q, .slice (some ⟨g8, 0, none⟩) L c8] 25)) w7.heap.size (.slice (some ⟨g8, 0, none⟩) l8.length c8) l8 := World.ownsRow.alloc hrow8 _
        have hmo9 : ∀ m, m ∈ l8 → MsOwn (w8.alloc (.cells #[.string (S bot), .int .i64 q, .slice (some ⟨g8, 0, none⟩) L c8] 25)) w7.heap.size m := fun m hm => World.ownsRow.alloc (hmo8 m hm) _
        have hX : w8.heap.size < (w8.alloc (.cells #[.string (S bot), .int .i64 q, .slice (some ⟨g8, 0, none⟩) L c8] 25)).heap.size := by simp
        clear hrow8 hmo8 k8 d0 d1 d2
        generalize hW9 : w8.alloc (.cells #[.string (S bot), .int .i64 q, .slice (some ⟨g8, 0, none⟩) L c8] 25) = W9 at *
        obtain ⟨d0, d1, d2⟩ := B8.out.cells
        go_wp2_with fail
        clear hW9
        refine (cP2.out _).mono ?_
        rintro e w9' ⟨rfl, rfl⟩
        have hk8 : k < l8.length := by rw [hll8]; exact hk
        obtain ⟨s3, Ad, hAd, hnews⟩ := moved_facts hrow9 k hk8
        have S3 := Lib.hid s3
        have HNEWS := Lib.hid hnews
        have s1 := tailF_len l8 k hk8
        rw [hll8] at s1
        have S1 := Lib.hid s1
        have S2 : Hid (∀ u ∈ tailF l8 k, u.oneCell' = true) := Lib.hid (steps_one _)
        obtain ⟨i0, hi0, -, hz1, -⟩ := info31
        obtain ⟨t0, t1, t2, z0, z1, z2⟩ := X8.out.three
        have hc8 := hrow9.cap
        rw [hll8] at hc8
        have hic : k ≤ c8 := by omega
        have hwr : IntKind.i64.wrap ((k : Int) + 1) = (k : Int) + 1 := IntWalk.i64_in _ (by have := HLO.out.1; omega)
        have hp0 : (0 : Int) ≤ (k : Int) + 1 := by omega
        have hp1 : (k : Int) + 1 ≤ (L : Int) := by omega
        have hp2 : ((k : Int) + 1).toNat = k + 1 := by omega
        have hp3 : (k : Int) ≤ (c8 : Int) := by omega
        obtain ⟨cur, hcur, hg8⟩ := hrow9.blk
        have hgx : w8.heap.size ≠ g8 := fun e => by
          have h1 := X8.out
          rw [e] at h1
          unfold Blk at h1 hcur
          rw [hcur] at h1
          injection h1 with h1
          injection h1 with _ h1 _
          cases h1
        have HE := Lib.hid (erased (w := W9.drew) hrow9 hmo9 k hk8)
        have HEO := Lib.hid (erased_own (w := W9.drew) hrow9 hmo9 k)
        have HGX := Lib.hid hgx
        have X9 : Hid (Blk (W9.drew.setCells g8 (k * 7) (tailF l8 k)) w8.heap.size #[.string (S bot), .int .i64 q, .slice (some ⟨g8, 0, none⟩) L c8] 25) := Lib.hid (Blk.only (g := g8) (w := W9.drew) X8.out (Only.setCells g8 _ _ _) hgx)
        obtain ⟨m0, m1, m2, n0, n1, n2⟩ := X9.out.three
        have HST8 := Lib.hid hst8
        have HLL8 := Lib.hid hll8
        have K9 : Hid (Keeps w (W9.drew.setCells g8 (k * 7) (tailF l8 k))) := Lib.hid (Only.toKeeps K8.out (Only.ofDrew (Only.setCells g8 _ _ _)) (Nat.le_trans K7.out.size hg8))
        have B9 : Hid (ScB (W9.drew.setCells g8 (k * 7) (tailF l8 k)) w.heap.size bot q A L c) := Lib.hid (Blk.only (g := g8) (w := W9.drew) B8.out (Only.setCells g8 _ _ _) (by have h1 := blk_lt B7.out; omega))
        clear s3 hnews s1 hst8 hrow9 hmo9 hll8 hk8 hcur hg8 d0 d1 d2
        have hn' : k + (L - (k + 1)) = L - 1 := by omega
        have hlE : (l8.eraseIdx k).length = k + (L - (k + 1)) := by rw [List.length_eraseIdx_of_lt (by rw [HLL8.out]; exact hk), HLL8.out]; omega
        have hstE : steps (l8.eraseIdx k) = (steps l).eraseIdx k := by rw [← HST8.out]; exact map_erase _ _ _
        have HNE := Lib.hid (show steps (l8.eraseIdx k) ≠ steps l from by rw [hstE]; exact PS.scr_less_ne ⟨bot, q, steps l⟩ k (by simp [steps, HL.out]; exact hk))
        have hlessc : (PS.scrC K0 ⟨bot, q, steps (l8.eraseIdx k)⟩).2 = 0 := by rw [hstE]; exact PS.scrC_less K0 ⟨bot, q, steps l⟩ HR.out k
        have HLC := Lib.hid hlessc
        have hzl := HLESS.out k (l8.eraseIdx k) hk hstE
        have fitE := Lib.hid (fun m (hm : m ∈ l8.eraseIdx k) => fit_steps HST8.out HOP.out.fit m (List.mem_of_mem_eraseIdx hm))
        have HcE := Lib.hid (fun m (hm : m ∈ l8.eraseIdx k) => show m.s.cuts.length ≤ 1000000000 from by
          have h1 : m.s ∈ steps l := by rw [← HST8.out]; exact List.mem_map_of_mem (List.mem_of_mem_eraseIdx hm)
          obtain ⟨m2, h2, e⟩ := List.mem_map.1 h1
          have := HLO.out.2 m2 h2
          rw [e] at this
          omega)
        have HSE := Lib.hid (StepsAt.only HE.out HEO.out (Only.set1 w8.heap.size 2 _ (.slice (some ⟨g8, 0, none⟩) (k + (L - (k + 1))) c8)) (Ne.symm HGX.out) X9.out)
        have T10 := Lib.hid (X9.out.set32 (.slice (some ⟨g8, 0, none⟩) (k + (L - (k + 1))) c8))
        have K10 := Lib.hid (Only.toKeeps K9.out (Only.set1 w8.heap.size 2 _ (.slice (some ⟨g8, 0, none⟩) (k + (L - (k + 1))) c8)) (by have h1 := K7.out.size; have h2 := blk_lt B7.out; have h3 : w7.heap.size ≤ w8.heap.size := K78.out; omega))
        have B10 : Hid (ScB _ w.heap.size bot q A L c) := Lib.hid (Blk.only (g := w8.heap.size) B9.out (Only.set1 w8.heap.size 2 _ (.slice (some ⟨g8, 0, none⟩) (k + (L - (k + 1))) c8)) (by have h2 := blk_lt B7.out; have h3 : w7.heap.size ≤ w8.heap.size := K78.out; omega))
        clear hstE hlessc hn'
        have hlE5 : (l8.eraseIdx k).length ≤ 1000000 := by rw [hlE]; have := HLO.out.1; omega
        have cBZ := Lib.hid (bytes_scr bot q (some ⟨g8, 0, none⟩) c8 (l8.eraseIdx k) _ HSE.out (by unfold maxLen; omega) HOP.out.bot_ fitE.out HLC.out)
        have cSZ := Lib.hid (fun wx (kx : Keeps ((W9.drew.setCells g8 (k * 7) (tailF l8 k)).setCell ⟨w8.heap.size, 2, none⟩ (.slice (some ⟨g8, 0, none⟩) (k + (L - (k + 1))) c8)) wx) => same_scr bot bot q q (some ⟨g8, 0, none⟩) A c8 c (l8.eraseIdx k) l wx (HSE.out.keeps kx) (HOP.out.at_.keeps (K10.out.trans kx)) (by omega) HcE.out)
        rw [decide_eq_false (fun h => HNE.out h.2.2), hlE, HL.out] at cSZ
        rw [hlE] at cBZ
        unfold scC at cBZ cSZ
        generalize hZ : scB bot q (l8.eraseIdx k) = Z at *
        have sz1 := S_size Z
        have sy1 := S_size Y
        have hzy : ((S Z).size : Int) < ((S Y).size : Int) := by omega
        have hzy' : (S Z).size < (S Y).size := by omega
        clear hZ hzl sz1 sy1 hlE hlE5
        obtain ⟨a0, a1, a2, -, -, -⟩ := T10.out.three
        go_wp2_with fail
        go_region_law (refine step_append_room rfl (.tmp 82) (.tmp 87) 23 rfl 31 i0 7 Try.underlying23 hi0 hz1 g8 0 k c8 (by simp [Act.eval, Act.put]) Ad (L - (k + 1)) (c8 - (k + 1)) (tailF l8 k) (by simp [Act.eval, Act.put]) S1.out HNEWS.out S2.out (by omega) S3.out ?_)
        all_goals
          go_wp2_with fail
          refine cBZ.out.mono ?_
          rintro e w10 ⟨rfl, k10⟩
          have T11 := Lib.hid (T10.out.keeps k10)
          have B11 := Lib.hid (B10.out.keeps k10)
          have cS11 := Lib.hid (cSZ.out _ k10)
          have K11 := Lib.hid (K10.out.trans k10)
          clear k10 a0 a1 a2
          obtain ⟨a0, a1, a2, -, -, -⟩ := T11.out.three
          obtain ⟨d0, d1, d2⟩ := B11.out.cells
          go_wp2_with fail
          refine cS11.out.mono ?_
          rintro e w11 ⟨rfl, k11⟩
          have K12 := Lib.hid (K11.out.trans k11)
          clear k11 a0 a1 a2 d0 d1 d2
          go_wp2
          go_ret
          exact ⟨rfl, K12.out⟩
    · have cBy := Lib.hid (fun wx k => cBad.out wx k hr)
      have f0 : ((PS.scrC K0 ⟨bot, q, steps l⟩).2 != 0) = true := by simpa using hr
      clear hr cGood cBad
      go_enter Try.func6, Try.ntmps6
      go_wp2_with fail
      clear hW
      refine cV.out.mono ?_
      rintro e w1 ⟨rfl, k1⟩
      have K1 := Lib.hid (KX.out.trans k1)
      have B1 := Lib.hid (HB.out.keeps k1)
      clear k1 d0 d1 d2
      obtain ⟨d0, d1, d2⟩ := B1.out.cells
      go_wp2_with fail
      refine (cL.out _ K1.out).mono ?_
      rintro e w2 ⟨rfl, k2⟩
      have K2 := Lib.hid (K1.out.trans k2)
      have B2 := Lib.hid (B1.out.keeps k2)
      clear k2 d0 d1 d2

      obtain ⟨d0, d1, d2⟩ := B2.out.cells
      go_wp2_with fail
      refine (cBy.out _ K2.out).mono ?_
      rintro e w3 ⟨rfl, k3⟩
      have K3 := Lib.hid (K2.out.trans k3)
      have B3 := Lib.hid (B2.out.keeps k3)
      clear k3 d0 d1 d2
      go_wp2
      go_ret
      exact ⟨rfl, K3.out⟩
end Go.Proofs.Ytpcfcbaapnkanaa
