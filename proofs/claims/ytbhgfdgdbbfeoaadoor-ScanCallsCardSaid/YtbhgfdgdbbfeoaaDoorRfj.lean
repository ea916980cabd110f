/-
  The document's own ReadNumber of package scan.
-/
import Derived.Test.YtbhgfdgdbbfeoaaDoorRfi
namespace Go.Proofs.YtbhgfdgdbbfeoaaDoor
open Go.RowKit

theorem capN_stay (l : List UInt8) (n : Int) (h : 9007199254740991 < n) : l.foldl capS n = n := by
  induction l with
  | nil => rfl
  | cons c t ih => rw [List.foldl_cons, capS_big _ _ h, ih]
theorem DigRel.big {l : List UInt8} {st k : Nat} {n : Int} (h : DigRel l st k n) (hn : 9007199254740991 < n) : 9007199254740991 < capN (digs (l.drop st)) := by
  obtain ⟨T, h1, _, h3, _, _⟩ := h
  unfold capN at h3 ⊢
  rw [h1, List.foldl_append, ← h3, capN_stay _ _ hn]
  exact hn
theorem pre_minus (s : ByteArray) (p0 : 0 < s.size) : Lib.hasPrefix s.data.toList [45] = decide ((s[0]'p0).toNat = 45) := by
  have h := drop_at s 0 p0
  rw [List.drop_zero] at h
  rw [h]
  unfold Lib.hasPrefix
  simp only [List.isPrefixOf_cons_cons, List.isPrefixOf_nil_left, Bool.and_true]
  rw [Bool.eq_iff_iff]
  simp only [beq_iff_eq, decide_eq_true_eq]
  constructor
  · intro e; rw [← e]; rfl
  · intro e; exact UInt8.toNat_inj.1 (by rw [e]; rfl)

set_option maxHeartbeats 8000000 in
set_option maxRecDepth 100000 in
theorem rrn_0 (s : ByteArray) (w : World) (hs : s.size ≤ 1000000) (hp : Lib.hasPrefix s.data.toList [45] = false) : Calls Tryd.prog 18 #[.string s] w (RetN (readS 0 s.data.toList) w) := by
  have hsl : s.data.toList.length = s.size := by simp
  have hz : s.toList.isEmpty = s.data.toList.isEmpty := by rw [ByteArray.toList_eq]
  by_cases h0 : 0 = s.size
  · have he : s.toList.isEmpty = true := by rw [hz, List.isEmpty_iff]; exact List.eq_nil_of_length_eq_zero (by omega)
    have hr : readS 0 s.data.toList = (0, 0, 3) := by unfold readS; rw [if_pos (by omega)]
    rw [hr]
    have f1 : ((0 : Int) == (s.size : Int)) = true := by simp; omega
    clear hr hsl h0 hz hp
    go_enter Tryd.func18, Tryd.ntmps18
    go_wp2
    go_ret3
    exact RetN.of rfl (by decide) (by decide)
  have pz : 0 < s.size := by omega
  have p0 : 0 < s.size := pz
  have he : s.toList.isEmpty = false := by
    rw [hz, Bool.eq_false_iff, Ne, List.isEmpty_iff]
    intro e; rw [e] at hsl; simp at hsl; omega
  rw [pre_minus s pz] at hp
  have f45 : (((s[0]'pz).toNat : Int) == 45) = false := by have := of_decide_eq_false hp; simp; omega
  have f0 : ((0 : Int) == (s.size : Int)) = false := by simp; omega
  have q0 : (0 : Int) < (s.size : Int) := by omega
  clear hz hp
  cases hd : digB (s[0]'p0)
  · have hr : readS 0 s.data.toList = (0, 0, 5) := by unfold readS; rw [if_neg (by omega), getD_at s _ p0, if_pos hd]
    rw [hr]
    have cD : Hid (∀ w1, Calls Tryd.prog 38 #[.int .u8 ((s[0]'p0).toNat : Int)] w1 (fun e w' => e = .returned (.bool false) ∧ w' = w1)) := Lib.hid (fun w1 => by have := rdigit_any (s[0]'p0) w1; rwa [hd] at this)
    clear hr hsl hd h0
    go_enter Tryd.func18, Tryd.ntmps18
    go_wp2_with fail
    refine (cD.out _).mono ?_
    rintro e w2 ⟨rfl, rfl⟩
    go_wp2
    go_ret3
    exact RetN.of rfl (by decide) (by decide)
  have HR : Hid (∀ (k : Nat) (n : Int), DigRel s.data.toList 0 k n → digs (s.data.toList.drop k) = [] → readS 0 s.data.toList = if (s[0]'p0).toNat = 48 ∧ 1 < k then (0, 0, 5) else if 9007199254740991 < n then (0, 0, 4) else (n, k, 0)) := Lib.hid (fun k n h1 h2 => by
    obtain ⟨g1, g2⟩ := h1.stop h2
    unfold readS
    rw [if_neg (by omega), getD_at s _ p0, hd, if_neg (by decide), ← g1, ← g2]
    rfl)
  have HB : Hid (∀ (k : Nat) (n : Int), DigRel s.data.toList 0 k n → digs (s.data.toList.drop k) = [] → ¬ ((s[0]'p0).toNat = 48 ∧ 1 < k) → ∀ j m, DigRel s.data.toList 0 j m → 9007199254740991 < m → readS 0 s.data.toList = (0, 0, 4)) := Lib.hid (fun k n h1 h2 h3 j m h4 h5 => by
    obtain ⟨g1, g2⟩ := h1.stop h2
    have := h4.big h5
    unfold readS
    rw [if_neg (by omega), getD_at s _ p0, hd, if_neg (by decide), ← g2, if_neg h3, if_pos this])
  have HK : Hid (∀ (k : Nat) (n : Int), DigRel s.data.toList 0 k n → digs (s.data.toList.drop k) = [] → 0 < k) := Lib.hid (fun k n h1 h2 => by
    obtain ⟨g1, g2⟩ := h1.stop h2
    have : 1 ≤ (digs (s.data.toList.drop 0)).length := by rw [drop_at s 0 p0, digs_step _ _ hd]; simp
    omega)
  have cD0 : Hid (∀ w1, Calls Tryd.prog 38 #[.int .u8 ((s[0]'p0).toNat : Int)] w1 (fun e w' => e = .returned (.bool true) ∧ w' = w1)) := Lib.hid (fun w1 => by have := rdigit_any (s[0]'p0) w1; rwa [hd] at this)
  have cD := Lib.hid (fun c w1 => rdigit_any c w1)
  have HA := Lib.hid (fun k (hk : k < s.size) => drop_at s k hk)
  have HE : Hid (s.data.toList.drop s.size = []) := Lib.hid (by rw [← hsl]; exact List.drop_length)
  have H0 := Lib.hid (DigRel.start s.data.toList 0)
  generalize hp9 : readS 0 s.data.toList = p at HR HB ⊢
  generalize s.data.toList = l at *
  clear hsl hd h0 hp9
  go_enter Tryd.func18, Tryd.ntmps18
  go_wp2_with fail
  refine (cD0.out _).mono ?_
  rintro e w2 ⟨rfl, rfl⟩
  go_wp2
  go_loopw [6] (fun i wr => ∃ (k : Nat) (n : Int), 0 ≤ k ∧ k ≤ s.size ∧ i = .int .i64 (k : Int) ∧ Hid (DigRel l 0 k n) ∧ Hid (∀ j, 0 ≤ j → j < k → ∀ hj : j < s.size, digB (s[j]'hj) = true) ∧ wr = w2) (fun i _ => s.size - (intOf i).toNat)
  case atStart => exact ⟨0, 0, by omega, by omega, rfl, H0, Lib.hid (fun j h1 h2 => absurd h2 (by omega)), rfl⟩
  case round =>
    obtain ⟨k, n, hk0, hk, rfl, hD, hall, rfl⟩ := hrel
    by_cases hlt : k < s.size
    · have hA := HA.out k hlt
      have cDk := Lib.hid (fun w1 => cD.out (s[k]'hlt) w1)
      cases hb : digB (s[k]'hlt)
      · have hend : digs (l.drop k) = [] := by rw [hA, digs_stop _ _ hb]
        rw [hb] at cDk
        clear hA hb
        have hgt := HK.out k n hD.out hend
        have HR1 := HR.out k n hD.out hend
        have HB1 := HB.out k n hD.out hend
        by_cases hzz : (s[0]'p0).toNat = 48 ∧ 1 < k
        · have dC : (((s[0]'p0).toNat : Int) == 48) = true := by simp; omega
          have dK : decide ((1 : Int) < (k : Int)) = true := by simp; omega
          have HX := Lib.hid (HR1.trans (if_pos hzz))
          clear HR1 HB1 hzz hgt hend HR HB HK hD hall
          go_wp2_with fail
          refine (cDk.out _).mono ?_
          rintro e w3 ⟨rfl, rfl⟩
          go_wp2
          go_ret3
          exact RetN.of HX.out (by decide) (by decide)
        have hr2 := HR1.trans (if_neg hzz)
        have hb2 := HB1 hzz
        by_cases c48 : (s[0]'p0).toNat = 48
        · have dC : (((s[0]'p0).toNat : Int) == 48) = true := by simp; omega
          have dK : decide ((1 : Int) < (k : Int)) = false := by simp; omega
          have HX2 := Lib.hid hr2
          have HB2 := Lib.hid hb2
          have HS := Lib.hid (DigRel.start l 0)
          have HEQ := Lib.hid hend
          have HDs := hD
          clear hr2 hb2 HR1 HB1 hzz hend HR HB HK c48
          go_wp2_with fail
          refine (cDk.out _).mono ?_
          rintro e w3 ⟨rfl, rfl⟩
          go_wp2
          go_loopw [7, 8] (fun nv i wq => ∃ (j : Nat) (m : Int), 0 ≤ j ∧ j ≤ k ∧ i = .int .i64 (j : Int) ∧ nv = .int .i64 m ∧ Hid (DigRel l 0 j m) ∧ Hid (0 ≤ m ∧ m ≤ 9007199254740991) ∧ wq = w3) (fun _ i _ => k - (intOf i).toNat)
          case atStart => exact ⟨0, 0, by omega, by omega, rfl, rfl, HS, Lib.hid ⟨by omega, by omega⟩, rfl⟩
          case round =>
            obtain ⟨j, m, hj0, hjk, rfl, rfl, hJ, hM, rfl⟩ := hrel
            by_cases hjlt : j < k
            · have hjs : j < s.size := by omega
              have hjb := hall.out j hj0 hjlt hjs
              have hjA := HA.out j hjs
              have hN := hJ.out.next hjA hjb
              have hm := hM.out
              rw [capS_small _ _ (by omega)] at hN
              have hd2 : 48 ≤ (s[j]'hjs).toNat ∧ (s[j]'hjs).toNat ≤ 57 := of_decide_eq_true hjb
              have g1 : (48 : Int) ≤ ((s[j]'hjs).toNat : Int) := by omega
              have g2 : ((s[j]'hjs).toNat : Int) ≤ 57 := by omega
              have g3 : (0 : Int) ≤ m := by omega
              have g4 : m ≤ 9007199254740991 := by omega
              have hcm : 10 * m = m * 10 := by omega
              rw [hcm] at hN
              clear hjA hjb hd2
              by_cases hbig : 9007199254740991 < m * 10 + (((s[j]'hjs).toNat : Int) - 48)
              · have HX := Lib.hid (HB2.out _ _ hN hbig)
                have db : decide ((9007199254740991 : Int) < m * 10 + (((s[j]'hjs).toNat : Int) - 48)) = true := by simp; omega
                clear hN hbig hm hcm
                go_wp2
                go_ret3
                exact RetN.of HX.out (by decide) (by decide)
              · have HN := Lib.hid hN
                have HM2 : Hid (0 ≤ m * 10 + (((s[j]'hjs).toNat : Int) - 48) ∧ m * 10 + (((s[j]'hjs).toNat : Int) - 48) ≤ 9007199254740991) := Lib.hid ⟨by omega, by omega⟩
                have db : decide ((9007199254740991 : Int) < m * 10 + (((s[j]'hjs).toNat : Int) - 48)) = false := by simp; omega
                clear hN hbig hm hcm
                go_wp2
                go_roundw
                case rel => exact ⟨j + 1, _, by omega, by omega, by go_num, rfl, HN, HM2, by first | rfl | trivial⟩
                case measure => simp [intOf]; omega
            · obtain rfl : j = k := by omega
              have hJD := (hJ.out.stop HEQ.out).1
              have hDD := (HDs.out.stop HEQ.out).1
              have hmn : m = n := by rw [hJD, hDD]
              subst hmn
              have hm := hM.out
              have HX := Lib.hid (HX2.out.trans (if_neg (by omega)))
              have g3 : (0 : Int) ≤ m := by omega
              have g4 : m ≤ 9007199254740991 := by omega
              clear hm hJD hDD
              go_wp2
              go_ret3
              exact RetN.of (by rw [HX.out]; rfl) (by omega) (by decide)
        · have dC : (((s[0]'p0).toNat : Int) == 48) = false := by simp; omega
          have HX2 := Lib.hid hr2
          have HB2 := Lib.hid hb2
          have HS := Lib.hid (DigRel.start l 0)
          have HEQ := Lib.hid hend
          have HDs := hD
          clear hr2 hb2 HR1 HB1 hzz hend HR HB HK c48
          go_wp2_with fail
          refine (cDk.out _).mono ?_
          rintro e w3 ⟨rfl, rfl⟩
          go_wp2
          go_loopw [7, 8] (fun nv i wq => ∃ (j : Nat) (m : Int), 0 ≤ j ∧ j ≤ k ∧ i = .int .i64 (j : Int) ∧ nv = .int .i64 m ∧ Hid (DigRel l 0 j m) ∧ Hid (0 ≤ m ∧ m ≤ 9007199254740991) ∧ wq = w3) (fun _ i _ => k - (intOf i).toNat)
          case atStart => exact ⟨0, 0, by omega, by omega, rfl, rfl, HS, Lib.hid ⟨by omega, by omega⟩, rfl⟩
          case round =>
            obtain ⟨j, m, hj0, hjk, rfl, rfl, hJ, hM, rfl⟩ := hrel
            by_cases hjlt : j < k
            · have hjs : j < s.size := by omega
              have hjb := hall.out j hj0 hjlt hjs
              have hjA := HA.out j hjs
              have hN := hJ.out.next hjA hjb
              have hm := hM.out
              rw [capS_small _ _ (by omega)] at hN
              have hd2 : 48 ≤ (s[j]'hjs).toNat ∧ (s[j]'hjs).toNat ≤ 57 := of_decide_eq_true hjb
              have g1 : (48 : Int) ≤ ((s[j]'hjs).toNat : Int) := by omega
              have g2 : ((s[j]'hjs).toNat : Int) ≤ 57 := by omega
              have g3 : (0 : Int) ≤ m := by omega
              have g4 : m ≤ 9007199254740991 := by omega
              have hcm : 10 * m = m * 10 := by omega
              rw [hcm] at hN
              clear hjA hjb hd2
              by_cases hbig : 9007199254740991 < m * 10 + (((s[j]'hjs).toNat : Int) - 48)
              · have HX := Lib.hid (HB2.out _ _ hN hbig)
                have db : decide ((9007199254740991 : Int) < m * 10 + (((s[j]'hjs).toNat : Int) - 48)) = true := by simp; omega
                clear hN hbig hm hcm
                go_wp2
                go_ret3
                exact RetN.of HX.out (by decide) (by decide)
              · have HN := Lib.hid hN
                have HM2 : Hid (0 ≤ m * 10 + (((s[j]'hjs).toNat : Int) - 48) ∧ m * 10 + (((s[j]'hjs).toNat : Int) - 48) ≤ 9007199254740991) := Lib.hid ⟨by omega, by omega⟩
                have db : decide ((9007199254740991 : Int) < m * 10 + (((s[j]'hjs).toNat : Int) - 48)) = false := by simp; omega
                clear hN hbig hm hcm
                go_wp2
                go_roundw
                case rel => exact ⟨j + 1, _, by omega, by omega, by go_num, rfl, HN, HM2, by first | rfl | trivial⟩
                case measure => simp [intOf]; omega
            · obtain rfl : j = k := by omega
              have hJD := (hJ.out.stop HEQ.out).1
              have hDD := (HDs.out.stop HEQ.out).1
              have hmn : m = n := by rw [hJD, hDD]
              subst hmn
              have hm := hM.out
              have HX := Lib.hid (HX2.out.trans (if_neg (by omega)))
              have g3 : (0 : Int) ≤ m := by omega
              have g4 : m ≤ 9007199254740991 := by omega
              clear hm hJD hDD
              go_wp2
              go_ret3
              exact RetN.of (by rw [HX.out]; rfl) (by omega) (by decide)
      · have hN := Lib.hid (hD.out.next hA hb)
        have hall2 : Hid (∀ j, 0 ≤ j → j < k + 1 → ∀ hj : j < s.size, digB (s[j]'hj) = true) := Lib.hid (fun j h1 h2 hj => by
          by_cases e : j = k
          · subst e; exact hb
          · exact hall.out j h1 (by omega) hj)
        rw [hb] at cDk
        clear hA hb hall hD HR HB HK
        go_wp2_with fail
        refine (cDk.out _).mono ?_
        rintro e w3 ⟨rfl, rfl⟩
        go_wp2
        go_roundw
        case rel => exact ⟨k + 1, _, by omega, by omega, by go_num, hN, hall2, by first | rfl | trivial⟩
        case measure => simp [intOf]; omega
    · obtain rfl : k = s.size := by omega
      have hend : digs (l.drop s.size) = [] := by rw [HE.out]; rfl
      have hgt := HK.out s.size n hD.out hend
      have HR1 := HR.out s.size n hD.out hend
      have HB1 := HB.out s.size n hD.out hend
      by_cases hzz : (s[0]'p0).toNat = 48 ∧ 1 < s.size
      · have dC : (((s[0]'p0).toNat : Int) == 48) = true := by simp; omega
        have dK : decide ((1 : Int) < (s.size : Int)) = true := by simp; omega
        have HX := Lib.hid (HR1.trans (if_pos hzz))
        clear HR1 HB1 hzz hgt hend HR HB HK hD hall
        go_wp2
        go_ret3
        exact RetN.of HX.out (by decide) (by decide)
      have hr2 := HR1.trans (if_neg hzz)
      have hb2 := HB1 hzz
      by_cases c48 : (s[0]'p0).toNat = 48
      · have dC : (((s[0]'p0).toNat : Int) == 48) = true := by simp; omega
        have dK : decide ((1 : Int) < (s.size : Int)) = false := by simp; omega
        have HX2 := Lib.hid hr2
        have HB2 := Lib.hid hb2
        have HS := Lib.hid (DigRel.start l 0)
        have HEQ := Lib.hid hend
        have HDs := hD
        clear hr2 hb2 HR1 HB1 hzz hend HR HB HK c48
        go_wp2
        go_loopw [7, 8] (fun nv i wq => ∃ (j : Nat) (m : Int), 0 ≤ j ∧ j ≤ s.size ∧ i = .int .i64 (j : Int) ∧ nv = .int .i64 m ∧ Hid (DigRel l 0 j m) ∧ Hid (0 ≤ m ∧ m ≤ 9007199254740991) ∧ wq = wr) (fun _ i _ => s.size - (intOf i).toNat)
        case atStart => exact ⟨0, 0, by omega, by omega, rfl, rfl, HS, Lib.hid ⟨by omega, by omega⟩, rfl⟩
        case round =>
          obtain ⟨j, m, hj0, hjk, rfl, rfl, hJ, hM, rfl⟩ := hrel
          by_cases hjlt : j < s.size
          · have hjs : j < s.size := by omega
            have hjb := hall.out j hj0 hjlt hjs
            have hjA := HA.out j hjs
            have hN := hJ.out.next hjA hjb
            have hm := hM.out
            rw [capS_small _ _ (by omega)] at hN
            have hd2 : 48 ≤ (s[j]'hjs).toNat ∧ (s[j]'hjs).toNat ≤ 57 := of_decide_eq_true hjb
            have g1 : (48 : Int) ≤ ((s[j]'hjs).toNat : Int) := by omega
            have g2 : ((s[j]'hjs).toNat : Int) ≤ 57 := by omega
            have g3 : (0 : Int) ≤ m := by omega
            have g4 : m ≤ 9007199254740991 := by omega
            have hcm : 10 * m = m * 10 := by omega
            rw [hcm] at hN
            clear hjA hjb hd2
            by_cases hbig : 9007199254740991 < m * 10 + (((s[j]'hjs).toNat : Int) - 48)
            · have HX := Lib.hid (HB2.out _ _ hN hbig)
              have db : decide ((9007199254740991 : Int) < m * 10 + (((s[j]'hjs).toNat : Int) - 48)) = true := by simp; omega
              clear hN hbig hm hcm
              go_wp2
              go_ret3
              exact RetN.of HX.out (by decide) (by decide)
            · have HN := Lib.hid hN
              have HM2 : Hid (0 ≤ m * 10 + (((s[j]'hjs).toNat : Int) - 48) ∧ m * 10 + (((s[j]'hjs).toNat : Int) - 48) ≤ 9007199254740991) := Lib.hid ⟨by omega, by omega⟩
              have db : decide ((9007199254740991 : Int) < m * 10 + (((s[j]'hjs).toNat : Int) - 48)) = false := by simp; omega
              clear hN hbig hm hcm
              go_wp2
              go_roundw
              case rel => exact ⟨j + 1, _, by omega, by omega, by go_num, rfl, HN, HM2, by first | rfl | trivial⟩
              case measure => simp [intOf]; omega
          · obtain rfl : j = s.size := by omega
            have hJD := (hJ.out.stop HEQ.out).1
            have hDD := (HDs.out.stop HEQ.out).1
            have hmn : m = n := by rw [hJD, hDD]
            subst hmn
            have hm := hM.out
            have HX := Lib.hid (HX2.out.trans (if_neg (by omega)))
            have g3 : (0 : Int) ≤ m := by omega
            have g4 : m ≤ 9007199254740991 := by omega
            clear hm hJD hDD
            go_wp2
            go_ret3
            exact RetN.of (by rw [HX.out]; rfl) (by omega) (by decide)
      · have dC : (((s[0]'p0).toNat : Int) == 48) = false := by simp; omega
        have HX2 := Lib.hid hr2
        have HB2 := Lib.hid hb2
        have HS := Lib.hid (DigRel.start l 0)
        have HEQ := Lib.hid hend
        have HDs := hD
        clear hr2 hb2 HR1 HB1 hzz hend HR HB HK c48
        go_wp2
        go_loopw [7, 8] (fun nv i wq => ∃ (j : Nat) (m : Int), 0 ≤ j ∧ j ≤ s.size ∧ i = .int .i64 (j : Int) ∧ nv = .int .i64 m ∧ Hid (DigRel l 0 j m) ∧ Hid (0 ≤ m ∧ m ≤ 9007199254740991) ∧ wq = wr) (fun _ i _ => s.size - (intOf i).toNat)
        case atStart => exact ⟨0, 0, by omega, by omega, rfl, rfl, HS, Lib.hid ⟨by omega, by omega⟩, rfl⟩
        case round =>
          obtain ⟨j, m, hj0, hjk, rfl, rfl, hJ, hM, rfl⟩ := hrel
          by_cases hjlt : j < s.size
          · have hjs : j < s.size := by omega
            have hjb := hall.out j hj0 hjlt hjs
            have hjA := HA.out j hjs
            have hN := hJ.out.next hjA hjb
            have hm := hM.out
            rw [capS_small _ _ (by omega)] at hN
            have hd2 : 48 ≤ (s[j]'hjs).toNat ∧ (s[j]'hjs).toNat ≤ 57 := of_decide_eq_true hjb
            have g1 : (48 : Int) ≤ ((s[j]'hjs).toNat : Int) := by omega
            have g2 : ((s[j]'hjs).toNat : Int) ≤ 57 := by omega
            have g3 : (0 : Int) ≤ m := by omega
            have g4 : m ≤ 9007199254740991 := by omega
            have hcm : 10 * m = m * 10 := by omega
            rw [hcm] at hN
            clear hjA hjb hd2
            by_cases hbig : 9007199254740991 < m * 10 + (((s[j]'hjs).toNat : Int) - 48)
            · have HX := Lib.hid (HB2.out _ _ hN hbig)
              have db : decide ((9007199254740991 : Int) < m * 10 + (((s[j]'hjs).toNat : Int) - 48)) = true := by simp; omega
              clear hN hbig hm hcm
              go_wp2
              go_ret3
              exact RetN.of HX.out (by decide) (by decide)
            · have HN := Lib.hid hN
              have HM2 : Hid (0 ≤ m * 10 + (((s[j]'hjs).toNat : Int) - 48) ∧ m * 10 + (((s[j]'hjs).toNat : Int) - 48) ≤ 9007199254740991) := Lib.hid ⟨by omega, by omega⟩
              have db : decide ((9007199254740991 : Int) < m * 10 + (((s[j]'hjs).toNat : Int) - 48)) = false := by simp; omega
              clear hN hbig hm hcm
              go_wp2
              go_roundw
              case rel => exact ⟨j + 1, _, by omega, by omega, by go_num, rfl, HN, HM2, by first | rfl | trivial⟩
              case measure => simp [intOf]; omega
          · obtain rfl : j = s.size := by omega
            have hJD := (hJ.out.stop HEQ.out).1
            have hDD := (HDs.out.stop HEQ.out).1
            have hmn : m = n := by rw [hJD, hDD]
            subst hmn
            have hm := hM.out
            have HX := Lib.hid (HX2.out.trans (if_neg (by omega)))
            have g3 : (0 : Int) ≤ m := by omega
            have g4 : m ≤ 9007199254740991 := by omega
            clear hm hJD hDD
            go_wp2
            go_ret3
            exact RetN.of (by rw [HX.out]; rfl) (by omega) (by decide)
set_option maxHeartbeats 8000000 in
set_option maxRecDepth 100000 in
theorem rrn_1 (s : ByteArray) (w : World) (hs : s.size ≤ 1000000) (hp : Lib.hasPrefix s.data.toList [45] = true) : Calls Tryd.prog 18 #[.string s] w (RetN (readS 1 s.data.toList) w) := by
  have hsl : s.data.toList.length = s.size := by simp
  have hz : s.toList.isEmpty = s.data.toList.isEmpty := by rw [ByteArray.toList_eq]
  have hge : 1 ≤ s.size := by
    by_cases e : s.data.toList = []
    · rw [e] at hp; exact absurd hp (by decide)
    · rw [← hsl]; exact List.length_pos_iff.2 e
  have pz : 0 < s.size := by omega
  have he : s.toList.isEmpty = false := by
    rw [hz, Bool.eq_false_iff, Ne, List.isEmpty_iff]
    intro e; rw [e] at hsl; simp at hsl; omega
  rw [pre_minus s pz] at hp
  have f45 : (((s[0]'pz).toNat : Int) == 45) = true := by have := of_decide_eq_true hp; simp; omega
  clear hz hp
  by_cases h0 : 1 = s.size
  · have hr : readS 1 s.data.toList = (0, 0, 3) := by unfold readS; rw [if_pos (by omega)]
    rw [hr]
    have f1 : ((1 : Int) == (s.size : Int)) = true := by simp; omega
    clear hr hsl h0
    go_enter Tryd.func18, Tryd.ntmps18
    go_wp2
    go_ret3
    exact RetN.of rfl (by decide) (by decide)
  have p0 : 1 < s.size := by omega
  have f0 : ((1 : Int) == (s.size : Int)) = false := by simp; omega
  have q0 : (1 : Int) < (s.size : Int) := by omega
  cases hd : digB (s[1]'p0)
  · have hr : readS 1 s.data.toList = (0, 0, 5) := by unfold readS; rw [if_neg (by omega), getD_at s _ p0, if_pos hd]
    rw [hr]
    have cD : Hid (∀ w1, Calls Tryd.prog 38 #[.int .u8 ((s[1]'p0).toNat : Int)] w1 (fun e w' => e = .returned (.bool false) ∧ w' = w1)) := Lib.hid (fun w1 => by have := rdigit_any (s[1]'p0) w1; rwa [hd] at this)
    clear hr hsl hd h0
    go_enter Tryd.func18, Tryd.ntmps18
    go_wp2_with fail
    refine (cD.out _).mono ?_
    rintro e w2 ⟨rfl, rfl⟩
    go_wp2
    go_ret3
    exact RetN.of rfl (by decide) (by decide)
  have HR : Hid (∀ (k : Nat) (n : Int), DigRel s.data.toList 1 k n → digs (s.data.toList.drop k) = [] → readS 1 s.data.toList = if (s[1]'p0).toNat = 48 ∧ 1 < k then (0, 0, 5) else if 9007199254740991 < n then (0, 0, 4) else (-n, k, 0)) := Lib.hid (fun k n h1 h2 => by
    obtain ⟨g1, g2⟩ := h1.stop h2
    unfold readS
    rw [if_neg (by omega), getD_at s _ p0, hd, if_neg (by decide), ← g1, ← g2]
    rfl)
  have HB : Hid (∀ (k : Nat) (n : Int), DigRel s.data.toList 1 k n → digs (s.data.toList.drop k) = [] → ¬ ((s[1]'p0).toNat = 48 ∧ 1 < k) → ∀ j m, DigRel s.data.toList 1 j m → 9007199254740991 < m → readS 1 s.data.toList = (0, 0, 4)) := Lib.hid (fun k n h1 h2 h3 j m h4 h5 => by
    obtain ⟨g1, g2⟩ := h1.stop h2
    have := h4.big h5
    unfold readS
    rw [if_neg (by omega), getD_at s _ p0, hd, if_neg (by decide), ← g2, if_neg h3, if_pos this])
  have HK : Hid (∀ (k : Nat) (n : Int), DigRel s.data.toList 1 k n → digs (s.data.toList.drop k) = [] → 1 < k) := Lib.hid (fun k n h1 h2 => by
    obtain ⟨g1, g2⟩ := h1.stop h2
    have : 1 ≤ (digs (s.data.toList.drop 1)).length := by rw [drop_at s 1 p0, digs_step _ _ hd]; simp
    omega)
  have cD0 : Hid (∀ w1, Calls Tryd.prog 38 #[.int .u8 ((s[1]'p0).toNat : Int)] w1 (fun e w' => e = .returned (.bool true) ∧ w' = w1)) := Lib.hid (fun w1 => by have := rdigit_any (s[1]'p0) w1; rwa [hd] at this)
  have cD := Lib.hid (fun c w1 => rdigit_any c w1)
  have HA := Lib.hid (fun k (hk : k < s.size) => drop_at s k hk)
  have HE : Hid (s.data.toList.drop s.size = []) := Lib.hid (by rw [← hsl]; exact List.drop_length)
  have H0 := Lib.hid (DigRel.start s.data.toList 1)
  generalize hp9 : readS 1 s.data.toList = p at HR HB ⊢
  generalize s.data.toList = l at *
  clear hsl hd h0 hp9
  go_enter Tryd.func18, Tryd.ntmps18
  go_wp2_with fail
  refine (cD0.out _).mono ?_
  rintro e w2 ⟨rfl, rfl⟩
  go_wp2
  go_loopw [6] (fun i wr => ∃ (k : Nat) (n : Int), 1 ≤ k ∧ k ≤ s.size ∧ i = .int .i64 (k : Int) ∧ Hid (DigRel l 1 k n) ∧ Hid (∀ j, 1 ≤ j → j < k → ∀ hj : j < s.size, digB (s[j]'hj) = true) ∧ wr = w2) (fun i _ => s.size - (intOf i).toNat)
  case atStart => exact ⟨1, 0, by omega, by omega, rfl, H0, Lib.hid (fun j h1 h2 => absurd h2 (by omega)), rfl⟩
  case round =>
    obtain ⟨k, n, hk0, hk, rfl, hD, hall, rfl⟩ := hrel
    by_cases hlt : k < s.size
    · have hA := HA.out k hlt
      have cDk := Lib.hid (fun w1 => cD.out (s[k]'hlt) w1)
      cases hb : digB (s[k]'hlt)
      · have hend : digs (l.drop k) = [] := by rw [hA, digs_stop _ _ hb]
        rw [hb] at cDk
        clear hA hb
        have hgt := HK.out k n hD.out hend
        have HR1 := HR.out k n hD.out hend
        have HB1 := HB.out k n hD.out hend
        by_cases hzz : (s[1]'p0).toNat = 48 ∧ 1 < k
        · have dC : (((s[1]'p0).toNat : Int) == 48) = true := by simp; omega
          by_cases h2k : 2 < k
          · have dK : decide ((2 : Int) < (k : Int)) = true := by simp; omega
            have HX := Lib.hid (HR1.trans (if_pos hzz))
            clear HR1 HB1 hzz hgt hend HR HB HK hD hall h2k
            go_wp2_with fail
            refine (cDk.out _).mono ?_
            rintro e w3 ⟨rfl, rfl⟩
            go_wp2
            go_ret3
            exact RetN.of HX.out (by decide) (by decide)
          · have dK : decide ((2 : Int) < (k : Int)) = false := by simp; omega
            have HX := Lib.hid (HR1.trans (if_pos hzz))
            clear HR1 HB1 hzz hgt hend HR HB HK hD hall h2k
            go_wp2_with fail
            refine (cDk.out _).mono ?_
            rintro e w3 ⟨rfl, rfl⟩
            go_wp2
            go_ret3
            exact RetN.of HX.out (by decide) (by decide)
        have hr2 := HR1.trans (if_neg hzz)
        have hb2 := HB1 hzz
        have dC : (((s[1]'p0).toNat : Int) == 48) = false := by simp; omega
        have HX2 := Lib.hid hr2
        have HB2 := Lib.hid hb2
        have HS := Lib.hid (DigRel.start l 1)
        have HEQ := Lib.hid hend
        have HDs := hD
        clear hr2 hb2 HR1 HB1 hzz hend HR HB HK
        go_wp2_with fail
        refine (cDk.out _).mono ?_
        rintro e w3 ⟨rfl, rfl⟩
        go_wp2
        go_loopw [7, 8] (fun nv i wq => ∃ (j : Nat) (m : Int), 1 ≤ j ∧ j ≤ k ∧ i = .int .i64 (j : Int) ∧ nv = .int .i64 m ∧ Hid (DigRel l 1 j m) ∧ Hid (0 ≤ m ∧ m ≤ 9007199254740991) ∧ wq = w3) (fun _ i _ => k - (intOf i).toNat)
        case atStart => exact ⟨1, 0, by omega, by omega, rfl, rfl, HS, Lib.hid ⟨by omega, by omega⟩, rfl⟩
        case round =>
          obtain ⟨j, m, hj0, hjk, rfl, rfl, hJ, hM, rfl⟩ := hrel
          by_cases hjlt : j < k
          · have hjs : j < s.size := by omega
            have hjb := hall.out j hj0 hjlt hjs
            have hjA := HA.out j hjs
            have hN := hJ.out.next hjA hjb
            have hm := hM.out
            rw [capS_small _ _ (by omega)] at hN
            have hd2 : 48 ≤ (s[j]'hjs).toNat ∧ (s[j]'hjs).toNat ≤ 57 := of_decide_eq_true hjb
            have g1 : (48 : Int) ≤ ((s[j]'hjs).toNat : Int) := by omega
            have g2 : ((s[j]'hjs).toNat : Int) ≤ 57 := by omega
            have g3 : (0 : Int) ≤ m := by omega
            have g4 : m ≤ 9007199254740991 := by omega
            have hcm : 10 * m = m * 10 := by omega
            rw [hcm] at hN
            clear hjA hjb hd2
            by_cases hbig : 9007199254740991 < m * 10 + (((s[j]'hjs).toNat : Int) - 48)
            · have HX := Lib.hid (HB2.out _ _ hN hbig)
              have db : decide ((9007199254740991 : Int) < m * 10 + (((s[j]'hjs).toNat : Int) - 48)) = true := by simp; omega
              clear hN hbig hm hcm
              go_wp2
              go_ret3
              exact RetN.of HX.out (by decide) (by decide)
            · have HN := Lib.hid hN
              have HM2 : Hid (0 ≤ m * 10 + (((s[j]'hjs).toNat : Int) - 48) ∧ m * 10 + (((s[j]'hjs).toNat : Int) - 48) ≤ 9007199254740991) := Lib.hid ⟨by omega, by omega⟩
              have db : decide ((9007199254740991 : Int) < m * 10 + (((s[j]'hjs).toNat : Int) - 48)) = false := by simp; omega
              clear hN hbig hm hcm
              go_wp2
              go_roundw
              case rel => exact ⟨j + 1, _, by omega, by omega, by go_num, rfl, HN, HM2, by first | rfl | trivial⟩
              case measure => simp [intOf]; omega
          · obtain rfl : j = k := by omega
            have hJD := (hJ.out.stop HEQ.out).1
            have hDD := (HDs.out.stop HEQ.out).1
            have hmn : m = n := by rw [hJD, hDD]
            subst hmn
            have hm := hM.out
            have HX := Lib.hid (HX2.out.trans (if_neg (by omega)))
            have g3 : (0 : Int) ≤ m := by omega
            have g4 : m ≤ 9007199254740991 := by omega
            clear hm hJD hDD
            go_wp2
            go_ret3
            exact RetN.of (by rw [HX.out]; rfl) (by omega) (by decide)
      · have hN := Lib.hid (hD.out.next hA hb)
        have hall2 : Hid (∀ j, 1 ≤ j → j < k + 1 → ∀ hj : j < s.size, digB (s[j]'hj) = true) := Lib.hid (fun j h1 h2 hj => by
          by_cases e : j = k
          · subst e; exact hb
          · exact hall.out j h1 (by omega) hj)
        rw [hb] at cDk
        clear hA hb hall hD HR HB HK
        go_wp2_with fail
        refine (cDk.out _).mono ?_
        rintro e w3 ⟨rfl, rfl⟩
        go_wp2
        go_roundw
        case rel => exact ⟨k + 1, _, by omega, by omega, by go_num, hN, hall2, by first | rfl | trivial⟩
        case measure => simp [intOf]; omega
    · obtain rfl : k = s.size := by omega
      have hend : digs (l.drop s.size) = [] := by rw [HE.out]; rfl
      have hgt := HK.out s.size n hD.out hend
      have HR1 := HR.out s.size n hD.out hend
      have HB1 := HB.out s.size n hD.out hend
      by_cases hzz : (s[1]'p0).toNat = 48 ∧ 1 < s.size
      · have dC : (((s[1]'p0).toNat : Int) == 48) = true := by simp; omega
        by_cases h2k : 2 < s.size
        · have dK : decide ((2 : Int) < (s.size : Int)) = true := by simp; omega
          have HX := Lib.hid (HR1.trans (if_pos hzz))
          clear HR1 HB1 hzz hgt hend HR HB HK hD hall h2k
          go_wp2
          go_ret3
          exact RetN.of HX.out (by decide) (by decide)
        · have dK : decide ((2 : Int) < (s.size : Int)) = false := by simp; omega
          have HX := Lib.hid (HR1.trans (if_pos hzz))
          clear HR1 HB1 hzz hgt hend HR HB HK hD hall h2k
          go_wp2
          go_ret3
          exact RetN.of HX.out (by decide) (by decide)
      have hr2 := HR1.trans (if_neg hzz)
      have hb2 := HB1 hzz
      have dC : (((s[1]'p0).toNat : Int) == 48) = false := by simp; omega
      have HX2 := Lib.hid hr2
      have HB2 := Lib.hid hb2
      have HS := Lib.hid (DigRel.start l 1)
      have HEQ := Lib.hid hend
      have HDs := hD
      clear hr2 hb2 HR1 HB1 hzz hend HR HB HK
      go_wp2
      go_loopw [7, 8] (fun nv i wq => ∃ (j : Nat) (m : Int), 1 ≤ j ∧ j ≤ s.size ∧ i = .int .i64 (j : Int) ∧ nv = .int .i64 m ∧ Hid (DigRel l 1 j m) ∧ Hid (0 ≤ m ∧ m ≤ 9007199254740991) ∧ wq = wr) (fun _ i _ => s.size - (intOf i).toNat)
      case atStart => exact ⟨1, 0, by omega, by omega, rfl, rfl, HS, Lib.hid ⟨by omega, by omega⟩, rfl⟩
      case round =>
        obtain ⟨j, m, hj0, hjk, rfl, rfl, hJ, hM, rfl⟩ := hrel
        by_cases hjlt : j < s.size
        · have hjs : j < s.size := by omega
          have hjb := hall.out j hj0 hjlt hjs
          have hjA := HA.out j hjs
          have hN := hJ.out.next hjA hjb
          have hm := hM.out
          rw [capS_small _ _ (by omega)] at hN
          have hd2 : 48 ≤ (s[j]'hjs).toNat ∧ (s[j]'hjs).toNat ≤ 57 := of_decide_eq_true hjb
          have g1 : (48 : Int) ≤ ((s[j]'hjs).toNat : Int) := by omega
          have g2 : ((s[j]'hjs).toNat : Int) ≤ 57 := by omega
          have g3 : (0 : Int) ≤ m := by omega
          have g4 : m ≤ 9007199254740991 := by omega
          have hcm : 10 * m = m * 10 := by omega
          rw [hcm] at hN
          clear hjA hjb hd2
          by_cases hbig : 9007199254740991 < m * 10 + (((s[j]'hjs).toNat : Int) - 48)
          · have HX := Lib.hid (HB2.out _ _ hN hbig)
            have db : decide ((9007199254740991 : Int) < m * 10 + (((s[j]'hjs).toNat : Int) - 48)) = true := by simp; omega
            clear hN hbig hm hcm
            go_wp2
            go_ret3
            exact RetN.of HX.out (by decide) (by decide)
          · have HN := Lib.hid hN
            have HM2 : Hid (0 ≤ m * 10 + (((s[j]'hjs).toNat : Int) - 48) ∧ m * 10 + (((s[j]'hjs).toNat : Int) - 48) ≤ 9007199254740991) := Lib.hid ⟨by omega, by omega⟩
            have db : decide ((9007199254740991 : Int) < m * 10 + (((s[j]'hjs).toNat : Int) - 48)) = false := by simp; omega
            clear hN hbig hm hcm
            go_wp2
            go_roundw
            case rel => exact ⟨j + 1, _, by omega, by omega, by go_num, rfl, HN, HM2, by first | rfl | trivial⟩
            case measure => simp [intOf]; omega
        · obtain rfl : j = s.size := by omega
          have hJD := (hJ.out.stop HEQ.out).1
          have hDD := (HDs.out.stop HEQ.out).1
          have hmn : m = n := by rw [hJD, hDD]
          subst hmn
          have hm := hM.out
          have HX := Lib.hid (HX2.out.trans (if_neg (by omega)))
          have g3 : (0 : Int) ≤ m := by omega
          have g4 : m ≤ 9007199254740991 := by omega
          clear hm hJD hDD
          go_wp2
          go_ret3
          exact RetN.of (by rw [HX.out]; rfl) (by omega) (by decide)
theorem rrn_any (s : ByteArray) (w : World) (hs : s.size ≤ 1000000) : Calls Tryd.prog 18 #[.string s] w (RetN (readL s.data.toList) w) := by
  unfold readL
  cases h : Lib.hasPrefix s.data.toList [45]
  · rw [if_neg (by decide)]; exact rrn_0 s w hs h
  · rw [if_pos rfl]; exact rrn_1 s w hs h
end Go.Proofs.YtbhgfdgdbbfeoaaDoor
