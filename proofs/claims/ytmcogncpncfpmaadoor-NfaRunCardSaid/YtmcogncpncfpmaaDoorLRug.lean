/-
  The walk of the statement that a run matches what the glob matches, step by step: a glob that is one.
-/
import Derived.Test.YtmcogncpncfpmaaDoorLRun
namespace Go.Proofs.YtmcogncpncfpmaaDoor
open Go.RowKit

theorem memZ_lst (f : Nat → Bool) (n j : Nat) (h : j < n) : memZ (zl (lstN f n)) j = f j := by
  rw [Bool.eq_iff_iff]
  simp only [memZ, zl, List.any_map, List.any_eq_true, Function.comp, beq_iff_eq]
  constructor
  · rintro ⟨x, h1, h2⟩
    have : x = j := by have : (x : Int) = (j : Int) := h2; omega
    subst this
    exact ((lstN_mem _ _ _).1 h1).2
  · intro hf; exact ⟨j, (lstN_mem _ _ _).2 ⟨h, hf⟩, rfl⟩
theorem stepZ_lst (N : List UInt8) (fo : Bool) (f : Nat → Bool) (c : UInt8) : stepZ N fo (zl (lstN f (N.length + 1))) c = lstN (stepS N fo f c) (N.length + 1) := by
  unfold stepZ stepS
  rw [lstN_congr (memZ (zl (lstN f (N.length + 1)))) f (N.length + 1) (fun j hj => memZ_lst f _ j hj)]
/-- The list of states rises. -/
theorem lstN_rise (f : Nat → Bool) (n : Nat) : (lstN f n).Pairwise (· < ·) := by
  rw [lstN_filter]
  exact List.Pairwise.filter _ List.pairwise_lt_range
theorem zl_getD (l : List Nat) (j : Nat) (h : j < l.length) : (zl l).getD j 0 = ((l[j]'h : Nat) : Int) := by
  simp [zl, List.getD, h]
theorem zl_range (f : Nat → Bool) (n j : Nat) (h : j < (zl (lstN f n)).length) : 0 ≤ (zl (lstN f n)).getD j 0 ∧ (zl (lstN f n)).getD j 0 < n := by
  have h' : j < (lstN f n).length := by simpa [zl] using h
  rw [zl_getD _ _ h']
  have := ((lstN_mem f n ((lstN f n)[j]'h')).1 (List.getElem_mem h')).1
  omega
theorem zl_rise (f : Nat → Bool) (n j : Nat) (h : j + 1 < (zl (lstN f n)).length) : (zl (lstN f n)).getD j 0 < (zl (lstN f n)).getD (j + 1) 0 := by
  have h' : j + 1 < (lstN f n).length := by simpa [zl] using h
  rw [zl_getD _ _ h', zl_getD _ _ (by omega)]
  have := List.pairwise_iff_getElem.1 (lstN_rise f n) j (j + 1) (by omega) h' (by omega)
  omega

theorem front_list (t : ByteArray) (i : Nat) : (t.extract 0 i).data.toList = t.data.toList.take i := by
  simp only [ByteArray.data_extract, Array.toList_extract, List.extract]; simp
theorem NfaAt.drewN {w : World} {P : Nat} {N : List UInt8} {fo : Bool} (h : NfaAt w P N fo) (n : Nat) : NfaAt (w.drewN n) P N fo := h.keeps ((Keeps.refl _).drewN _)

def Zat (N : List UInt8) (fo : Bool) (l : List UInt8) (k : Nat) : List Int := zl (lstN (runTo N fo l k) (N.length + 1))

set_option maxHeartbeats 16000000 in
set_option maxRecDepth 100000 in
theorem nrun_good (p t : ByteArray) (fo : Bool) (w : World) (hp : p.size ≤ 300) (ht : t.size ≤ 260) (hc : checkI p.data.toList = 0) :
    Calls Tryd.prog 3 #[.string p, .bool fo, .string t] w (RetQ true w) := by
  have cL := Lib.hid (fun w => lives_any w)
  have cG := Lib.hid (fun w => light_any p t w (by unfold maxLen; omega) (by unfold maxLen; omega))
  rw [decide_eq_true (And.intro hp ht)] at cG
  have hpl : p.data.toList.length = p.size := by simp
  have htl : t.data.toList.length = t.size := by simp
  have hNl : (normL p.data.toList).length ≤ 300 := by have := normL_len p.data.toList; omega
  have cN : Hid (∀ w1, Calls Tryd.prog 6 #[.string p, .bool fo] w1 (fun e w' => ∃ P, e = .returned (.tuple #[.pointer (some ⟨P, 0, none⟩), .int .i64 0]) ∧ NfaAt w' P (normL p.data.toList) fo ∧ Keeps w1 w')) := Lib.hid (fun w1 => (new_any p fo w1 (by unfold maxLen; omega)).mono (by
    rintro e w' (⟨h, _⟩ | ⟨_, P, _, h1, h2, h3⟩)
    · exact absurd hc h
    · exact ⟨P, h1, h2, h3⟩))
  have cM : Hid (∀ (k : Nat) (w1 : World), k ≤ t.size → Calls Tryd.prog 10 #[.string p, .string (t.extract 0 k), .bool fo] w1 (RetQ (runTo (normL p.data.toList) fo t.data.toList k (normL p.data.toList).length) w1)) := Lib.hid (fun k w1 hk => by
    have h := match_any p (t.extract 0 k) fo w1 (by omega) (by simp; omega)
    rw [front_list, ← mt_norm, ← run_mt fo _ _ k (by omega)] at h
    exact h)
  have cW : Hid (∀ (w1 : World), Calls Tryd.prog 10 #[.string p, .string t, .bool fo] w1 (RetQ (runB (normL p.data.toList) fo t.data.toList) w1)) := Lib.hid (fun w1 => by
    have h := match_any p t fo w1 (by omega) (by omega)
    have e := run_mt fo (normL p.data.toList) t.data.toList t.data.toList.length (Nat.le_refl _)
    rw [List.take_length, mt_norm] at e
    unfold runB
    rw [e]; exact h)
  have HA := Lib.hid (fun k (hk : k < t.size) => getD_at t k hk)
  have HSU := Lib.hid (fun k (hk : k < t.size) => runTo_succ (normL p.data.toList) fo t.data.toList k (by omega))
  have H0 : Hid (Zat (normL p.data.toList) fo t.data.toList 0 = zl (startL (normL p.data.toList))) := Lib.hid (by unfold Zat startL; rw [runTo_zero])
  have HST : Hid (∀ k, k < t.size → Zat (normL p.data.toList) fo t.data.toList (k + 1) = zl (stepZ (normL p.data.toList) fo (Zat (normL p.data.toList) fo t.data.toList k) (t.data.toList.getD k 0))) := Lib.hid (fun k hk => by
    unfold Zat
    rw [stepZ_lst, runTo_succ _ _ _ _ (by omega)])
  have HMZ : Hid (∀ k, memZ (Zat (normL p.data.toList) fo t.data.toList k) (normL p.data.toList).length = runTo (normL p.data.toList) fo t.data.toList k (normL p.data.toList).length) := Lib.hid (fun k => memZ_lst _ _ _ (by omega))
  have HZL : Hid (∀ k, (Zat (normL p.data.toList) fo t.data.toList k).length ≤ 301) := Lib.hid (fun k => by
    unfold Zat; rw [zl_len]; have := lstN_len (runTo (normL p.data.toList) fo t.data.toList k) ((normL p.data.toList).length + 1); omega)
  have HZR : Hid (∀ k j, j < (Zat (normL p.data.toList) fo t.data.toList k).length → 0 ≤ (Zat (normL p.data.toList) fo t.data.toList k).getD j 0 ∧ (Zat (normL p.data.toList) fo t.data.toList k).getD j 0 < ((normL p.data.toList).length : Int) + 1) := Lib.hid (fun k j hj => by
    have := zl_range (runTo (normL p.data.toList) fo t.data.toList k) ((normL p.data.toList).length + 1) j hj
    exact ⟨this.1, by have := this.2; unfold Zat; omega⟩)
  have HZS : Hid (∀ k j, j + 1 < (Zat (normL p.data.toList) fo t.data.toList k).length → (Zat (normL p.data.toList) fo t.data.toList k).getD j 0 < (Zat (normL p.data.toList) fo t.data.toList k).getD (j + 1) 0) := Lib.hid (fun k j hj => zl_rise _ _ _ hj)
  have cR := Lib.hid (fun P w1 h1 => Run_any P (normL p.data.toList) fo t w1 hNl (by unfold maxLen; omega) h1)
  clear hpl htl hc
  generalize normL p.data.toList = N at *
  generalize t.data.toList = tl at *
  have cS := Lib.hid (fun P w1 h => Start_any P N fo w1 hNl h)
  have cA := Lib.hid (fun P A cp zs w1 h1 h2 h3 => Accepts_any P N fo A cp zs w1 hNl h1 h2 h3)
  have cT := Lib.hid (fun P A cp zs c w1 h1 h2 h3 => Step_any P N fo A cp zs c w1 hNl h1 h2 h3)
  have cU := Lib.hid (fun P w1 h1 => states_any P N fo w1 hNl h1)
  clear hp
  go_enter Tryd.func3, Tryd.ntmps3
  go_wp2_with fail
  refine (cL.out _).mono ?_
  rintro e w2 ⟨rfl, h⟩
  have K2 := Lib.hid h
  clear h
  go_wp2_with fail
  refine (cG.out _).mono ?_
  rintro e w3 ⟨rfl, h⟩
  have K3 := Lib.hid (K2.out.trans h)
  clear h
  go_wp2_with fail
  refine (cN.out _).mono ?_
  rintro e w4 ⟨P, rfl, hA, h⟩
  have K4 := Lib.hid (K3.out.trans h)
  have HA4 := Lib.hid hA
  clear h hA
  go_wp2_with fail
  refine (cS.out P _ HA4.out).mono ?_
  rintro e w5 ⟨⟨v, rfl, ho⟩, h⟩
  rw [← H0.out] at ho
  obtain ⟨A0, q0, rfl, hi, _⟩ := IntsAt.own ho
  have HI5 := Lib.hid hi
  have K5 := Lib.hid (K4.out.trans h)
  have HA5 := Lib.hid (HA4.out.keeps h)
  clear h ho hi K2 K3 K4 HA4 cL cG cN cS H0
  go_wp2
  go_loopw [9, 10] (fun l i wr => ∃ (k : Nat) (A : Option Addr) (cp : Nat) (zs : List Int) (n : Nat), k ≤ t.size + 1 ∧ l = .slice A n cp ∧ i = .int .i64 (k : Int) ∧ Hid (n = zs.length) ∧ Hid (IntsAt wr A zs) ∧ Hid (NfaAt wr P N fo) ∧ Hid (Keeps w wr) ∧ Hid (k ≤ t.size → zs = Zat N fo tl k)) (fun _ i _ => t.size + 1 - (intOf i).toNat)
  case atStart => exact ⟨0, A0, q0, _, _, Nat.zero_le _, rfl, rfl, Lib.hid rfl, HI5, HA5, K5, Lib.hid (fun _ => rfl)⟩
  case round =>
    obtain ⟨k, A, cp, zs, n, hk, rfl, rfl, hn, hi, ha, hkp, hz⟩ := hrel
    by_cases hkt : k ≤ t.size
    · have hzk := hz.out hkt
      have HB := Lib.hid (HMZ.out k)
      have HL := Lib.hid (HZL.out k)
      have HR := Lib.hid (HZR.out k)
      have HS := Lib.hid (HZS.out k)
      have HT := Lib.hid (HST.out k)
      rw [← hzk] at HB HL HR HS HT
      have cM1 := Lib.hid (fun w1 => cM.out k w1 hkt)
      have cA1 : Hid (∀ w1, NfaAt w1 P N fo → IntsAt w1 A zs → Calls Tryd.prog 9 #[.pointer (some ⟨P, 0, none⟩), .slice A n cp] w1 (RetQ (runTo N fo tl k N.length) w1)) := Lib.hid (fun w1 h1 h2 => by
        have h := cA.out P A cp zs w1 h1 h2 (by have := HL.out; omega)
        rw [HB.out, ← hn.out] at h
        exact h)
      clear hzk
      generalize runTo N fo tl k N.length = m at cM1 cA1
      have hmm : (m != m) = false := by simp
      have ia : IntsAt wr.drew A zs := hi.out.keeps ((Keeps.refl _).drew)
      have na : NfaAt wr.drew P N fo := ha.out.keeps ((Keeps.refl _).drew)
      have ka : Keeps w wr.drew := hkp.out.drew
      go_wp2_with fail
      go_region_with (first | (go_at_call 9; refine (cA1.out _ (by assumption) (by assumption)).mono ?_; rintro e w6 ⟨rfl, h⟩; replace ia := ia.keeps h; replace na := na.keeps h; replace ka := ka.trans h; clear h) | (go_at_call 10; refine (cM1.out _).mono ?_; rintro e w6 ⟨rfl, h⟩; replace ia := ia.keeps h; replace na := na.keeps h; replace ka := ka.trans h; clear h))
      all_goals
        have IA := Lib.hid ia
        have NA := Lib.hid na
        have KA := Lib.hid ka
        clear ia na ka cA1 cM1
        go_wp2
        go_loopw [11] (fun j wx => ∃ (j' : Nat), j' ≤ n ∧ j = .int .i64 (j' : Int) ∧ Hid (IntsAt wx A zs) ∧ Hid (NfaAt wx P N fo) ∧ Hid (Keeps w wx)) (fun j _ => n - (intOf j).toNat)
        case atStart => exact ⟨0, Nat.zero_le _, rfl, IA, NA, KA⟩
        case round =>
          obtain ⟨j, hj, rfl, ix, nx, kx⟩ := hrel
          by_cases hjn : j < n
          · obtain ⟨ad, rfl, c1⟩ := ix.out j (by rw [← hn.out]; exact hjn)
            obtain ⟨g1, g2⟩ := HR.out j (by rw [← hn.out]; exact hjn)
            have hn301 : n ≤ 301 := by rw [hn.out]; exact HL.out
            cases j with
            | zero =>
              rw [Addr.add_zero'] at c1
              generalize zs.getD 0 0 = z at c1 g1 g2
              have f1 : decide (z < 0) = false := by simp; omega
              have f2 : decide ((N.length : Int) + 1 ≤ z) = false := by simp; omega
              go_wp2
              go_quiet ((go_at_call 11; exact Calls.quiet_of_same (cU.out P _ (nx.out.drewN _))))
              go_wp2
              go_roundw
              case rel => exact ⟨1, by omega, by go_num, Lib.hid (ix.out.keeps ((Keeps.refl _).drewN _)), Lib.hid (nx.out.drewN _), Lib.hid (kx.out.drewN _)⟩
              case measure => simp [intOf]; omega
            | succ j0 =>
              have g3 := HS.out j0 (by rw [← hn.out]; exact hjn)
              obtain ⟨ad', e', c0⟩ := ix.out j0 (by rw [← hn.out]; omega)
              obtain rfl : ad = ad' := Option.some.inj e'
              rw [Addr.add_succ'] at c1
              generalize zs.getD (j0 + 1) 0 = z at c1 g1 g2 g3
              generalize zs.getD j0 0 = z0 at c0 g3
              have f1 : decide (z < 0) = false := by simp; omega
              have f2 : decide ((N.length : Int) + 1 ≤ z) = false := by simp; omega
              have f3 : decide (z ≤ z0) = false := by simp; omega
              have f4 : IntKind.i64.wrap ((j0 : Int) + 1 - 1) = (j0 : Int) := by rw [IntWalk.i64_in ((j0 : Int) + 1 - 1) (by constructor <;> omega)]; omega
              have f5 : IntKind.i64.wrap (j0 : Int) = (j0 : Int) := IntWalk.i64_in (j0 : Int) (by constructor <;> omega)
              have f6 : ((j0 : Int) + 1).toNat = j0 + 1 := by omega
              go_wp2
              go_quiet ((go_at_call 11; exact Calls.quiet_of_same (cU.out P _ (nx.out.drewN _))))
              go_wp2
              go_roundw
              case rel => exact ⟨j0 + 1 + 1, by omega, by go_num, Lib.hid (ix.out.keeps ((Keeps.refl _).drewN _)), Lib.hid (nx.out.drewN _), Lib.hid (kx.out.drewN _)⟩
              case measure => simp [intOf]; omega
          · obtain rfl : j = n := by omega
            by_cases hlt : k < t.size
            · have hak := Lib.hid (HA.out k hlt)
              have hst := Lib.hid (HT.out hlt)
              have cT1 : Hid (∀ w1, NfaAt w1 P N fo → IntsAt w1 A zs → Calls Tryd.prog 12 #[.pointer (some ⟨P, 0, none⟩), .slice A j cp, .int .u8 (t[k]'hlt).toNat] w1 (RetZ (Zat N fo tl (k + 1)) w1)) := Lib.hid (fun w1 h1 h2 => by
                have h := cT.out P A cp zs (t[k]'hlt) w1 h1 h2 (by have := HL.out; omega)
                have e : zl (stepZ N fo zs (t[k]'hlt)) = Zat N fo tl (k + 1) := by rw [← hak.out]; exact hst.out.symm
                rw [← hn.out, e] at h
                exact h)
              go_wp2_with fail
              refine (cT1.out _ nx.out ix.out).mono ?_
              rintro e w7 ⟨⟨v, rfl, ho⟩, h⟩
              obtain ⟨A7, q7, rfl, i7, _⟩ := IntsAt.own ho
              have I7 := Lib.hid i7
              have N7 := Lib.hid (nx.out.keeps h)
              have K7 := Lib.hid (kx.out.trans h)
              clear ho i7 h
              go_wp2
              go_roundw
              case rel => exact ⟨k + 1, A7, q7, _, _, by omega, rfl, by go_num, Lib.hid rfl, I7, N7, K7, Lib.hid (fun _ => rfl)⟩
              case measure => simp [intOf]; omega
            · go_wp2
              go_roundw
              case rel => exact ⟨k + 1, A, cp, zs, j, by omega, rfl, by go_num, hn, ix, nx, kx, Lib.hid (fun h => absurd h (by omega))⟩
              case measure => simp [intOf]; omega
    · obtain rfl : k = t.size + 1 := by omega
      go_wp2_with fail
      refine (cR.out P _ ha.out).mono ?_
      rintro e w7 ⟨rfl, h⟩
      have K7 := Lib.hid (hkp.out.trans h)
      clear h
      go_wp2_with fail
      refine (cW.out _).mono ?_
      rintro e w8 ⟨rfl, h⟩
      have k8 := K7.out.trans h
      clear h
      go_wp2
      go_ret
      exact RetQ.of (by simp) k8
end Go.Proofs.YtmcogncpncfpmaaDoor
