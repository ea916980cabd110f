/-
  The document's own Unquote of package scan.
-/
import Derived.Test.YtbhgfdgdbbfeoaaDoorRfh
namespace Go.Proofs.YtbhgfdgdbbfeoaaDoor
open Go.RowKit

theorem ext_mid (s : ByteArray) (a n : Nat) : s.extract a (a + n) = S ((s.data.toList.drop a).take n) := by
  have e : ∀ x : ByteArray, x = S x.data.toList := fun _ => rfl
  rw [e (s.extract a (a + n)), Lib.extract_data]
  congr 2
  omega

set_option maxHeartbeats 8000000 in
set_option maxRecDepth 100000 in
theorem runq_any (s : ByteArray) (w : World) (hs : s.size ≤ 100000) : Calls Tryd.prog 17 #[.string s] w (RetU (unqL s.data.toList) w) := by
  have hsl : s.data.toList.length = s.size := by simp
  have hz : s.toList.isEmpty = s.data.toList.isEmpty := by rw [ByteArray.toList_eq]
  unfold unqL
  rw [hsl]
  by_cases h0 : s.size = 0
  · have he : s.toList.isEmpty = true := by rw [hz, List.isEmpty_iff]; exact List.eq_nil_of_length_eq_zero (by omega)
    rw [if_pos h0]
    clear hz hsl h0
    go_enter Tryd.func17, Tryd.ntmps17
    go_wp2
    go_ret3
    exact RetU.of rfl rfl rfl (Keeps.refl _)
  have he : s.toList.isEmpty = false := by
    rw [hz, Bool.eq_false_iff, Ne, List.isEmpty_iff]
    intro e; rw [e] at hsl; simp at hsl; omega
  have p0 : 0 < s.size := by omega
  rw [if_neg h0, getD_at s 0 p0]
  by_cases h1 : (s[0]'p0).toNat = 34
  · rw [if_neg (by simpa using h1)]
    have f1 : (((s[0]'p0).toNat : Int) != 34) = false := by simp; omega
    have cE : Hid (∀ (a : Nat) w1, a < s.size → Calls Tryd.prog 36 #[.string (s.extract a s.size)] w1 (RetU (escL (s.data.toList.drop a)) w1)) := Lib.hid (fun a w1 h3 => by
      have := resc_any (s.extract a s.size) w1 (by simp; omega) (by simp; omega)
      rwa [ext_drop] at this)
    have cP : Hid (∀ (a : Nat) w1, a < s.size → Calls Tryd.prog 37 #[.string (s.extract a s.size)] w1 (RetPt (pointR (s.data.toList.drop a)) w1)) := Lib.hid (fun a w1 h3 => by
      have := point_any (s.extract a s.size) w1 (by simp; omega)
      rwa [ext_drop] at this)
    have HM : Hid (∀ a n, s.extract a (a + n) = S ((s.data.toList.drop a).take n)) := Lib.hid (fun a n => ext_mid s a n)
    have HLn : Hid (∀ a, (s.data.toList.drop a).length = s.size - a) := Lib.hid (fun a => by simp)
    have HA := Lib.hid (fun k (hk : k < s.size) => drop_at s k hk)
    have HE : Hid (∀ a, s.size ≤ a → s.data.toList.drop a = []) := Lib.hid (fun a h => List.drop_eq_nil_of_le (by omega))
    obtain ⟨p, hp0⟩ : ∃ p, joinU [] 1 (unqF s.size (s.data.toList.drop 1)) = p := ⟨_, rfl⟩
    rw [hp0]
    have H0 := Lib.hid hp0
    clear hp0
    generalize s.data.toList = l at *
    clear hz hsl h0 h1
    go_enter Tryd.func17, Tryd.ntmps17
    go_wp2
    go_loopw [5, 6, 7, 8, 9, 10, 11] (fun o i _ _ _ _ _ wr => ∃ (a k : Nat) (acc : List UInt8), a ≤ s.size + 12 ∧ i = .int .i64 (a : Int) ∧ o = .string (S acc) ∧ Hid (joinU acc a (unqF k (l.drop a)) = p) ∧ s.size ≤ a + k ∧ acc.length ≤ 4 * a ∧ Hid (Keeps w wr)) (fun _ i _ _ _ _ _ _ => s.size + 12 - (intOf i).toNat)
    case atStart => exact ⟨1, s.size, [], by omega, rfl, rfl, H0, by omega, by simp, Lib.hid (Keeps.refl _)⟩
    case round =>
      obtain ⟨a, k, acc, ha, rfl, rfl, hp, hk, hacc, hK⟩ := hrel
      by_cases hlt : a < s.size
      · have hx := hp.out
        have hdr := HA.out a hlt
        obtain ⟨k', rfl⟩ : ∃ j, k = j + 1 := ⟨k - 1, by omega⟩
        rw [hdr] at hx
        by_cases hq : (s[a]'hlt).toNat = 34
        · rw [joinU_end _ _ _ _ _ hq] at hx
          have HX := Lib.hid hx
          have f2 : (((s[a]'hlt).toNat : Int) == 34) = true := by simp; omega
          clear hx hdr hq hp
          go_wp2
          go_ret3
          exact RetU.of (by rw [← HX.out]) (by rw [← HX.out]; simp) (by rw [← HX.out]; rfl) hK.out
        · have f2 : (((s[a]'hlt).toNat : Int) == 34) = false := by simp; omega
          have hw := piece_w (l.drop a)
          have hpos : (pieceL (l.drop a)).2.2 = 0 → 1 ≤ (pieceL (l.drop a)).2.1 := piece_pos _ (by rw [hdr]; simp)
          have hsz : (S acc).size ≤ 400048 := by rw [S_size]; omega
          have hg0 : (l.drop a).getD 0 0 = s[a]'hlt := by rw [hdr]; rfl
          by_cases hlow : (s[a]'hlt).toNat < 32
          · have hpl : pieceL (l.drop a) = ([], 0, 5) := by unfold pieceL; rw [hg0, if_pos hlow]
            have hs2 := joinU_bad acc a k' _ _ hq (by rw [← hdr, hpl]; decide)
            rw [hx, ← hdr, hpl] at hs2
            have HX := Lib.hid hs2
            have f3 : decide (((s[a]'hlt).toNat : Int) < 32) = true := by simp; omega
            clear hx hdr hq hp hpos hs2 hw hg0 hlow hpl
            go_wp2
            go_ret3
            exact RetU.of (by rw [HX.out]; rfl) (by rw [HX.out]; rfl) (by rw [HX.out]; rfl) hK.out
          have f3 : decide (((s[a]'hlt).toNat : Int) < 32) = false := by simp; omega
          by_cases hbs : (s[a]'hlt).toNat = 92
          · have hpl : pieceL (l.drop a) = escL (l.drop a) := by unfold pieceL; rw [hg0, if_neg hlow, if_pos hbs]
            have f4 : (((s[a]'hlt).toNat : Int) == 92) = true := by simp; omega
            have cE1 := Lib.hid (fun w1 => cE.out a w1 hlt)
            rw [← hpl] at cE1
            by_cases he : (pieceL (l.drop a)).2.2 = 0
            · have hs2 := joinU_step acc a k' _ _ hq (by rw [← hdr]; exact he)
              rw [hx, ← hdr, List.drop_drop] at hs2
              have HX := Lib.hid hs2.symm
              have hps := hpos he
              generalize pieceL (l.drop a) = pc at *
              obtain ⟨po, pn, pe⟩ := pc
              simp only at he hw hps
              subst he
              have hzp : (S po).size ≤ 48 := by rw [S_size]; omega
              have HJ := Lib.hid (rdig_app acc po)
              clear hx hdr hq hp hpos hs2 hg0 hlow hbs hpl
              go_wp2_with fail
              refine (cE1.out _).mono ?_
              rintro e w2 ⟨rfl, k2⟩
              have HK2 := Lib.hid (hK.out.trans k2)
              clear k2
              go_wp2
              go_roundw
              case rel => exact ⟨a + pn, k', acc ++ po, by omega, by go_num, by first | rw [HJ.out] | (rw [← HJ.out]), HX, by omega, by rw [List.length_append]; omega, HK2⟩
              case measure => simp [intOf]; omega
            · have hs2 := joinU_bad acc a k' _ _ hq (by rw [← hdr]; exact he)
              rw [hx, ← hdr] at hs2
              have HX := Lib.hid hs2
              generalize pieceL (l.drop a) = pc at *
              obtain ⟨po, pn, pe⟩ := pc
              simp only at he hw
              have d1 : ((pe : Int) != 0) = true := by simp; omega
              clear hx hdr hq hp hpos hs2 hw he hg0 hlow hbs hpl
              go_wp2_with fail
              refine (cE1.out _).mono ?_
              rintro e w2 ⟨rfl, k2⟩
              have HK2 := Lib.hid (hK.out.trans k2)
              clear k2
              go_wp2
              go_ret3
              exact RetU.of (by rw [HX.out]; rfl) (by rw [HX.out]; rfl) (by rw [HX.out]) HK2.out
          · have f4 : (((s[a]'hlt).toNat : Int) == 92) = false := by simp; omega
            have cP1 := Lib.hid (fun w1 => cP.out a w1 hlt)
            cases hb : badD (decL (l.drop a))
            · have hpl : pieceL (l.drop a) = (Lib.encodeRune ((decL (l.drop a)).1 : Int), (decL (l.drop a)).2, 0) := by unfold pieceL; rw [hg0, if_neg hlow, if_neg hbs, if_neg (by rw [hb]; decide)]
              have hne : l.drop a ≠ [] := by rw [hdr]; simp
              have hg := dec_good (l.drop a) hne hb
              have hpt : pointR (l.drop a) = decL (l.drop a) := by unfold pointR; rw [if_neg (by rw [hb, HLn.out]; simp only [Bool.false_eq_true, or_false]; omega)]
              rw [hpt] at cP1
              have hs2 := joinU_step acc a k' _ _ hq (by rw [← hdr, hpl])
              rw [hx, ← hdr, List.drop_drop, hpl] at hs2
              have hd1 := dec_pos (l.drop a)
              have hd2 := decL_w (l.drop a)
              have hd3 := hg.2.1
              have hd4 : S ((l.drop a).take (decL (l.drop a)).2) = S (Lib.encodeRune ((decL (l.drop a)).1 : Int)) := congrArg S hg.2.2
              have hd5 := HM.out a (decL (l.drop a)).2
              rw [hd4] at hd5
              have hd6 := (enc_len ((decL (l.drop a)).1 : Int)).2
              have HX := Lib.hid hs2.symm
              have hll := HLn.out a
              rw [hll] at hd3
              have HJ := Lib.hid (rdig_app acc (Lib.encodeRune ((decL (l.drop a)).1 : Int)))
              generalize Lib.encodeRune ((decL (l.drop a)).1 : Int) = po at *
              generalize decL (l.drop a) = d at *
              obtain ⟨r, n⟩ := d
              simp only at hd1 hd2 hd3 hd5 HX
              have f5 : ((n : Int) == 0) = false := by simp; omega
              have q1 : (a : Int) + (n : Int) ≤ (s.size : Int) := by omega
              have q2 : (a : Int) ≤ (a : Int) + (n : Int) := by omega
              have q3 : ((a : Int) + (n : Int)).toNat = a + n := by omega
              have q4 : (s.extract a (a + n)).size ≤ 4 := by rw [hd5, S_size]; exact hd6
              have HD5 := Lib.hid hd5
              clear hx hdr hq hp hpos hs2 hg0 hlow hbs hpl hg hpt hb hne hd4 hd5 hll hw
              go_wp2_with fail
              refine (cP1.out _).mono ?_
              rintro e w2 ⟨rfl, k2⟩
              have HK2 := Lib.hid (hK.out.trans k2)
              clear k2
              go_wp2
              go_roundw
              case rel => exact ⟨a + n, k', acc ++ po, by omega, by go_num, by rw [HD5.out, HJ.out], HX, by omega, by rw [List.length_append]; omega, HK2⟩
              case measure => simp [intOf]; omega
            · have hpl : pieceL (l.drop a) = ([], 0, 6) := by unfold pieceL; rw [hg0, if_neg hlow, if_neg hbs, if_pos hb]
              have hpt : pointR (l.drop a) = (0, 0) := by unfold pointR; rw [if_pos (.inr hb)]
              rw [hpt] at cP1
              have hs2 := joinU_bad acc a k' _ _ hq (by rw [← hdr, hpl]; decide)
              rw [hx, ← hdr, hpl] at hs2
              have HX := Lib.hid hs2
              clear hx hdr hq hp hpos hs2 hw hg0 hlow hbs hpl hpt hb
              go_wp2_with fail
              refine (cP1.out _).mono ?_
              rintro e w2 ⟨rfl, k2⟩
              have HK2 := Lib.hid (hK.out.trans k2)
              clear k2
              go_wp2
              go_ret3
              exact RetU.of (by rw [HX.out]; rfl) (by rw [HX.out]; rfl) (by rw [HX.out]; rfl) HK2.out
      · have hx := hp.out
        rw [HE.out a (by omega), unqF_none _ _ rfl] at hx
        have HX := Lib.hid hx
        clear hx hp
        go_wp2
        go_ret3
        exact RetU.of (by rw [← HX.out]; rfl) (by rw [← HX.out]; rfl) (by rw [← HX.out]; rfl) hK.out
  · rw [if_pos (by simpa using h1)]
    have f1 : (((s[0]'p0).toNat : Int) != 34) = true := by simp; omega
    clear hz hsl h0 h1
    go_enter Tryd.func17, Tryd.ntmps17
    go_wp2
    go_ret3
    exact RetU.of rfl rfl rfl (Keeps.refl _)
end Go.Proofs.YtbhgfdgdbbfeoaaDoor
