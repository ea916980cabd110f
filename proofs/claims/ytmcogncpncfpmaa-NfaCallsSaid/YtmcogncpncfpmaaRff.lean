/-
  The contracts of the document's own automaton: Accepts, Run.
-/
import Derived.Test.YtmcogncpncfpmaaRfe
namespace Go.Proofs.Ytmcogncpncfpmaa
open Go.RowKit

set_option maxHeartbeats 1000000 in
theorem rAccepts_any (P : Nat) (N : List UInt8) (fo : Bool) (A : Option Addr) (cp : Nat) (zs : List Int) (w : World) (hN : N.length ≤ 300) (h : RefAt w P N fo) (hz : IntsAt w A zs) (hl : zs.length ≤ 100000) :
    Calls Try.prog 21 #[.pointer (some ⟨P, 0, none⟩), .slice A zs.length cp] w (RetQ (memZ zs N.length) w) := by
  have c0 := h.c0
  have hs := S_size N
  rw [← hs] at hN ⊢
  generalize S N = s at *
  clear hs h
  have HS := Lib.hid (fun k hk => take_snocZ zs k hk)
  have HE : Hid (memZ (zs.take zs.length) = memZ zs) := Lib.hid (by rw [List.take_length])
  have HZ := Lib.hid hz
  have h0 : memZ (zs.take 0) s.size = false := by simp [memZ]
  have hit : Hid (∀ k, k < zs.length → zs.getD k 0 = (s.size : Int) → memZ zs s.size = true) := Lib.hid (fun k hk e => by
    unfold memZ
    rw [List.any_eq_true]
    exact ⟨zs.getD k 0, by rw [List.getD_eq_getElem?_getD, List.getElem?_eq_getElem hk]; exact List.getElem_mem _, by simp only [e]; simp⟩)
  have hmi : Hid (∀ l (z : Int), memZ l s.size = false → z ≠ (s.size : Int) → memZ (l ++ [z]) s.size = false) := Lib.hid (fun l z e1 e2 => by
    unfold memZ at e1 ⊢
    rw [List.any_append, e1]
    simp [e2])
  clear hz
  generalize hn : zs.length = n at hl HS HE hit ⊢
  have HNN := Lib.hid hn
  clear hn
  have H0 := Lib.hid h0
  clear h0
  go_enter Try.func21, Try.ntmps21
  go_wp2
  go_loopw [5] (fun i wr => ∃ k : Nat, k ≤ n ∧ i = .int .i64 k ∧ memZ (zs.take k) s.size = false ∧ Keeps w wr) (fun i _ => n - (intOf i).toNat)
  case atStart => exact ⟨0, Nat.zero_le _, rfl, H0.out, Keeps.refl _⟩
  case round =>
    obtain ⟨k, hk, rfl, hf, hkp⟩ := hrel
    have HF := Lib.hid hf
    have d0 := hkp.cell c0
    clear hf c0
    by_cases hlt : k < n
    · obtain ⟨ad, rfl, c1⟩ := (HZ.out.keeps hkp) k (by rw [HNN.out]; exact hlt)
      have hsk := Lib.hid (HS.out k hlt)
      have hik := Lib.hid (hit.out k hlt)
      generalize zs.getD k 0 = z at c1 hsk hik
      by_cases hzs : z = (s.size : Int)
      · subst hzs
        go_wp2
        go_quiet (fail)
        go_wp2
        go_ret
        exact RetQ.of (hik.out trivial).symm (hkp.drewN _)
      · go_wp2
        go_quiet (fail)
        go_wp2
        go_roundw
        case rel => exact ⟨k + 1, by omega, by go_num, by rw [hsk.out]; exact hmi.out _ _ HF.out hzs, hkp.drewN _⟩
        case measure => simp [intOf]; omega
    · obtain rfl : k = n := by omega
      go_wp2
      go_ret
      exact RetQ.of (by rw [← HE.out, HF.out]) hkp

theorem memZ_zl (l : List Nat) (j : Nat) : memZ (zl l) j = memN l j := by
  rw [Bool.eq_iff_iff]
  simp only [memZ, memN, zl, List.any_map, List.any_eq_true, Function.comp, beq_iff_eq]
  constructor
  · rintro ⟨x, h1, h2⟩; exact ⟨x, h1, by have : (x : Int) = (j : Int) := h2; omega⟩
  · rintro ⟨x, h1, h2⟩; exact ⟨x, h1, by subst h2; rfl⟩
theorem stepZ_lst (N : List UInt8) (fo : Bool) (f : Nat → Bool) (c : UInt8) : stepZ N fo (zl (lstN f (N.length + 1))) c = lstN (stepS N fo f c) (N.length + 1) := by
  unfold stepZ stepS
  rw [lstN_congr (memZ (zl (lstN f (N.length + 1)))) f (N.length + 1) (fun j hj => by rw [memZ_zl, memN_lst]; simp [hj])]

set_option maxRecDepth 100000 in
set_option maxHeartbeats 2000000 in
theorem rRun_any (P : Nat) (N : List UInt8) (fo : Bool) (s : ByteArray) (w : World) (hN : N.length ≤ 300) (hs : s.size ≤ maxLen) (h : RefAt w P N fo) :
    Calls Try.prog 22 #[.pointer (some ⟨P, 0, none⟩), .string s] w (RetQ (runB N fo s.data.toList) w) := by
  have cS := Lib.hid (fun w1 h1 => rStart_any P N fo w1 hN h1)
  have cT := Lib.hid (fun A cp zs c w1 h1 h2 h3 => rStep_any P N fo A cp zs c w1 hN h1 h2 h3)
  have cA := Lib.hid (fun A cp zs w1 h1 h2 h3 => rAccepts_any P N fo A cp zs w1 hN h1 h2 h3)
  have hl : s.data.toList.length = s.size := by simp
  have HA := Lib.hid (fun k (hk : k < s.size) => getD_at s k hk)
  have HSU := Lib.hid (fun k (hk : k < s.size) => runTo_succ N fo s.data.toList k (by rw [hl]; exact hk))
  have HG : Hid (memZ (zl (lstN (runTo N fo s.data.toList s.size) (N.length + 1))) N.length = runB N fo s.data.toList) := Lib.hid (by rw [memZ_zl, memN_lst]; unfold runB; rw [hl]; simp)
  have H0 : Hid (startL N = lstN (runTo N fo s.data.toList 0) (N.length + 1)) := Lib.hid (by rw [runTo_zero]; rfl)
  have HST := Lib.hid (fun f c => stepZ_lst N fo f c)
  have HLN : Hid (∀ f, (zl (lstN f (N.length + 1))).length ≤ 301) := Lib.hid (fun f => by rw [zl_len]; exact Nat.le_trans (lstN_len _ _) (by omega))
  rw [← HG.out]
  generalize s.data.toList = l at *
  clear hl HG
  unfold maxLen at hs
  have HN := Lib.hid h
  clear h hN
  go_enter Try.func22, Try.ntmps22
  go_wp2_with fail
  refine (cS.out _ HN.out).mono ?_
  rintro e w2 ⟨⟨v, rfl, ho⟩, k2⟩
  rw [H0.out] at ho
  have HO := Lib.hid ho
  have K2 := Lib.hid k2
  clear ho k2
  go_wp2
  go_loopw [5, 6] (fun v i wr => ∃ k : Nat, k ≤ s.size ∧ i = .int .i64 k ∧ wr.ownsRow 0 3 1 v (zl (lstN (runTo N fo l k) (N.length + 1))).length (ivals (zl (lstN (runTo N fo l k) (N.length + 1)))) ∧ Keeps w wr) (fun _ i _ => s.size - (intOf i).toNat)
  case atStart => exact ⟨0, Nat.zero_le _, rfl, ownsRow_less HO.out (Nat.zero_le _), K2.out⟩
  case round =>
    obtain ⟨k, hk, rfl, ho, hkp⟩ := hrel
    have hln := HLN.out (runTo N fo l k)
    by_cases hlt : k < s.size
    · have HSK := Lib.hid (HSU.out k hlt)
      have HAK := Lib.hid (HA.out k hlt)
      have HSZ := Lib.hid (HST.out (runTo N fo l k) s[k])
      have HNW := Lib.hid (HN.out.keeps hkp)
      generalize zl (lstN (runTo N fo l k) (N.length + 1)) = zs at ho hln HSZ
      obtain ⟨A, c, rfl, hi, _⟩ := IntsAt.own ho
      have HI := Lib.hid hi
      have HK := Lib.hid hkp
      clear ho hi hkp
      go_wp2_with fail
      refine (cT.out A c zs s[k] _ HNW.out HI.out (by omega)).mono ?_
      rintro e w3 ⟨⟨v, rfl, ho3⟩, k3⟩
      rw [HSZ.out] at ho3
      have HO3 := Lib.hid (ownsRow_less ho3 (Nat.zero_le _))
      have HK3 := Lib.hid (Keeps.trans HK.out k3)
      clear ho3 k3
      go_wp2
      go_roundw
      case rel => exact ⟨k + 1, by omega, by go_num, by rw [HSK.out, HAK.out]; exact HO3.out, HK3.out⟩
      case measure => simp [intOf]; omega
    · obtain rfl : k = s.size := by omega
      generalize hzs : zl (lstN (runTo N fo l s.size) (N.length + 1)) = zs at ho hln
      have HZS := Lib.hid hzs
      clear hzs
      obtain ⟨A, c, rfl, hi, _⟩ := IntsAt.own ho
      have HI := Lib.hid hi
      have HNW := Lib.hid (HN.out.keeps hkp)
      have HK := Lib.hid hkp
      clear ho hi hkp
      go_wp2_with fail
      refine (cA.out A c zs _ HNW.out HI.out (by omega)).mono ?_
      rintro e w3 ⟨rfl, k3⟩
      go_wp2
      go_ret
      exact RetQ.of (by rw [HZS.out]) (Keeps.trans HK.out k3)
end Go.Proofs.Ytmcogncpncfpmaa
