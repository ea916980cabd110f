/-
  The document's own Read of records answers what the program's does.
-/
import Derived.Test.YtepbbdeolplhfaaDoorRfg
import Derived.Test.YtepbbdeolplhfaaDoorRfh
import Derived.Test.YtepbbdeolplhfaaDoorRfi
import Derived.Test.YtepbbdeolplhfaaDoorRfj
namespace Go.Proofs.YtepbbdeolplhfaaDoor
open Go.RowKit

theorem Sh_size (c : UInt8) (r : List UInt8) : (S (c :: r)).size = (S r).size + 1 := by rw [S_size, S_size]; rfl
theorem Sh_ne (c : UInt8) (r : List UInt8) : (S (c :: r)).toList.isEmpty = false := by rw [ByteArray.toList_eq]; rfl
theorem Sh_at (c : UInt8) (r : List UInt8) (n : Nat) (h : c.toNat = n) : ∀ g : 0 < (S (c :: r)).size, ((S (c :: r))[0]'g).toNat = n := fun g => by
  rw [← h]; rfl
theorem Sh_tail (c : UInt8) (r : List UInt8) : (S (c :: r)).extract 1 ((S r).size + 1) = S r := by
  rw [← Sh_size c r, S_drop]; rfl
theorem S_idx (l : List UInt8) (i : Nat) : ∀ g : i < (S l).size, ((S l)[i]'g).toNat = (l.getD i 0).toNat := fun g => by
  have hi : i < l.length := by rw [S_size] at g; exact g
  show ((S l).data[i]).toNat = _
  simp [S, hi]
theorem nay_of {l : List UInt8} {c : Int} {w : World} (h : readL l = (Inp.zero, c)) {e : Ending} {w' : World} (k : Nay c w e w') : Reads l w e w' := by
  unfold Reads; rw [h]; exact k
theorem yea_of {l : List UInt8} {x : Inp} {w : World} (h : readL l = (x, 0)) {e : Ending} {w' : World} (k : e = .returned (.tuple #[inV x.k x.code x.n x.ok (S x.t), .int .i64 0]) ∧ Keeps w w') : Reads l w e w' := by
  unfold Reads; rw [h]; exact k
theorem chk_at (k code n : Int) (ok : Bool) (u : List UInt8) (w1 : World) (hu : u.length ≤ 5000) : Calls Tryd.prog 16 #[.agg #[.int .i64 k, .int .i64 code, .int .i64 n, .bool ok, .string (S u)]] w1 (Ret (.int .i64 (chk k code n ok u.length)) w1) := by
  have h := rcheck_any k code n ok (S u) w1 (by rw [S_size]; unfold maxLen; omega)
  rw [S_size] at h
  exact h
theorem num_at (r : List UInt8) (h : 8 ≤ r.length) (w1 : World) : Calls Tryd.prog 28 #[.string ((S r).extract 0 8)] w1 (fun e w' => e = .returned (.int .u64 ((val (r.take 8) : Nat) : Int)) ∧ w' = w1) := by
  rw [S_take]
  exact rnumber_any (r.take 8) w1 (by rw [List.length_take]; omega)
theorem val8_lt (r : List UInt8) : val (r.take 8) < 18446744073709551616 := by
  have h1 := val_bound (r.take 8)
  have h2 : (r.take 8).length ≤ 8 := List.length_take_le _ _
  have h3 : 256 ^ (r.take 8).length ≤ 256 ^ 8 := Nat.pow_le_pow_right (by decide) h2
  have h4 : (256 : Nat) ^ 8 = 18446744073709551616 := by decide
  omega
theorem drop8 {r : List UInt8} (h : r.length = 8) : r.drop 8 = [] := List.drop_eq_nil_of_le (by omega)
theorem drop8_ne {r : List UInt8} (h : 8 < r.length) : r.drop 8 ≠ [] := fun e => by
  have := congrArg List.length e
  simp at this; omega

theorem readL_good {l : List UInt8} {x : Inp} (h : readI l = .inr x) (hc : x.chk = 0) : readL l = (x, 0) := by
  unfold readL; rw [h]; simp only [hc, if_true]
theorem readL_bad {l : List UInt8} {x : Inp} {c : Int} (h : readI l = .inr x) (hc : x.chk = c) (hn : c ≠ 0) : readL l = (Inp.zero, c) := by
  unfold readL; rw [h]; simp only [hc, hn, if_false]

theorem rread_any (l : List UInt8) (w : World) (hl : l.length ≤ 5000) : Calls Tryd.prog 15 #[.string (S l)] w (Reads l w) := by
  cases l with
  | nil => exact (rr_empty w).mono fun e w' k => nay_of rfl k
  | cons c r =>
    have hr : r.length < 5000 := by simp at hl; omega
    have hb : (S r).size ≤ 5000 := by rw [S_size]; omega
    have A1 := Sh_size c r
    have A2 := Sh_ne c r
    have A3 := Sh_tail c r
    by_cases h1 : c = 1
    · subst h1
      have hR : readI (1 :: r) = .inr ⟨1, 0, 0, false, r⟩ := rfl
      by_cases hc : chk 1 0 0 false r.length = 0
      · refine (rr_full1 (S (1 :: r)) (S r) w A1 hb A2 (Sh_at 1 r 1 rfl) A3 (Lib.hid fun w1 => by have := chk_at 1 0 0 false r w1 (by omega); rw [hc] at this; exact this)).mono fun e w' k => ?_
        exact yea_of (x := ⟨1, 0, 0, false, r⟩) (readL_good hR hc) k
      · refine (rr_full1n (S (1 :: r)) (S r) (chk 1 0 0 false r.length) w A1 hb A2 (Sh_at 1 r 1 rfl) A3 hc (Lib.hid fun w1 => chk_at 1 0 0 false r w1 (by omega))).mono fun e w' k => ?_
        exact nay_of (readL_bad hR rfl hc) k
    · by_cases h5 : c = 5
      · subst h5
        cases r with
        | nil => exact (rr_short5 (S [5]) (S []) w A1 hb A2 (Sh_at 5 [] 5 rfl) A3 (by decide)).mono fun e w' k => nay_of rfl k
        | cons d t =>
          have hR : readI (5 :: d :: t) = .inr ⟨5, d.toNat, 0, false, t⟩ := rfl
          have hd := d.toNat_lt
          have ht : t.length ≤ 5000 := by simp at hr; omega
          have e1 : (S (d :: t)).extract 1 (S (d :: t)).size = S t := by rw [S_drop]; rfl
          by_cases hc : chk 5 d.toNat 0 false t.length = 0
          · refine (rr_full5 (S (5 :: d :: t)) (S (d :: t)) d.toNat (S t) w A1 hb A2 (Sh_at 5 _ 5 rfl) A3 (by rw [S_size]; simp) (Sh_at d t _ rfl) (by omega) e1 (Lib.hid fun w1 => by have := chk_at 5 d.toNat 0 false t w1 ht; rw [hc] at this; exact this)).mono fun e w' k => ?_
            exact yea_of (x := ⟨5, d.toNat, 0, false, t⟩) (readL_good hR hc) k
          · refine (rr_full5n (S (5 :: d :: t)) (S (d :: t)) d.toNat (S t) (chk 5 d.toNat 0 false t.length) w A1 hb A2 (Sh_at 5 _ 5 rfl) A3 (by rw [S_size]; simp) (Sh_at d t _ rfl) (by omega) e1 hc (Lib.hid fun w1 => chk_at 5 d.toNat 0 false t w1 ht)).mono fun e w' k => ?_
            exact nay_of (readL_bad hR rfl hc) k
      · by_cases h6 : c = 6
        · subst h6
          cases r with
          | nil =>
            refine (rr_full6 (S [6]) (S []) w A1 hb A2 (Sh_at 6 [] 6 rfl) A3 (by decide) (Lib.hid fun w1 => chk_at 6 0 0 false [] w1 (by decide))).mono fun e w' k => ?_
            exact yea_of (x := ⟨6, 0, 0, false, []⟩) rfl k
          | cons d t => exact (rr_bad6 (S (6 :: d :: t)) (S (d :: t)) w A1 hb A2 (Sh_at 6 _ 6 rfl) A3 (by rw [S_size]; simp)).mono fun e w' k => nay_of rfl k
        · have hv := val8_lt r
          by_cases h2 : c = 2
          · subst h2
            have hR : readI (2 :: r) = numI 2 r := rfl
            by_cases hs : r.length < 8
            · refine (rr_short2 (S (2 :: r)) (S r) w A1 hb A2 (Sh_at 2 r 2 rfl) A3 (by rw [S_size]; omega)).mono fun e w' k => nay_of ?_ k
              unfold readL; rw [hR]; unfold numI; rw [if_pos hs]
            · by_cases hg : 8 < r.length
              · refine (rr_bad2 (S (2 :: r)) (S r) w A1 hb A2 (Sh_at 2 r 2 rfl) A3 (by rw [S_size]; omega)).mono fun e w' k => nay_of ?_ k
                unfold readL; rw [hR]; unfold numI; rw [if_neg hs, if_pos (drop8_ne hg)]
              · have hlen : r.length = 8 := by omega
                have hI : readI (2 :: r) = .inr ⟨2, 0, ((min (val (r.take 8)) 9223372036854775807 : Nat) : Int), false, []⟩ := by
                  rw [hR]; unfold numI; rw [if_neg hs, if_neg (by rw [drop8 hlen]; simp)]
                by_cases hov : val (r.take 8) ≤ 1152921504606846976
                · have hmin : min (val (r.take 8)) 9223372036854775807 = val (r.take 8) := by omega
                  rw [hmin] at hI
                  by_cases hc : chk 2 0 ((val (r.take 8) : Nat) : Int) false 0 = 0
                  · refine (rr_full2 (S (2 :: r)) (S r) ((val (r.take 8) : Nat) : Int) _ w A1 hb A2 (Sh_at 2 r 2 rfl) A3 (by rw [S_size]; omega) (by rw [S_size]; omega) rfl (by omega) (by omega) (Lib.hid fun w1 => num_at r (by omega) w1) (Lib.hid fun w1 => by have := chk_at 2 0 ((val (r.take 8) : Nat) : Int) false [] w1 (by decide); rw [show chk 2 0 ((val (r.take 8) : Nat) : Int) false (List.length ([] : List UInt8)) = 0 from hc] at this; exact this)).mono fun e w' k => ?_
                    exact yea_of (x := ⟨2, 0, ((val (r.take 8) : Nat) : Int), false, []⟩) (readL_good hI hc) k
                  · refine (rr_full2n (S (2 :: r)) (S r) ((val (r.take 8) : Nat) : Int) _ (chk 2 0 ((val (r.take 8) : Nat) : Int) false 0) w A1 hb A2 (Sh_at 2 r 2 rfl) A3 (by rw [S_size]; omega) (by rw [S_size]; omega) rfl (by omega) (by omega) (Lib.hid fun w1 => num_at r (by omega) w1) hc (Lib.hid fun w1 => chk_at 2 0 ((val (r.take 8) : Nat) : Int) false [] w1 (by decide))).mono fun e w' k => ?_
                    exact nay_of (readL_bad hI rfl hc) k
                · refine (rr_over2 (S (2 :: r)) (S r) ((val (r.take 8) : Nat) : Int) _ w A1 hb A2 (Sh_at 2 r 2 rfl) A3 (by rw [S_size]; omega) (by rw [S_size]; omega) rfl (by omega) (Lib.hid fun w1 => num_at r (by omega) w1) (Lib.hid (by omega))).mono fun e w' k => nay_of ?_ k
                  have hz : chk 2 0 ((min (val (r.take 8)) 9223372036854775807 : Nat) : Int) false 0 = 2 := by unfold chk; rw [if_neg (by decide), if_pos rfl, if_pos (by omega)]
                  exact readL_bad hI hz (by decide)
          · by_cases h4 : c = 4
            · subst h4
              have hR : readI (4 :: r) = numI 4 r := rfl
              by_cases hs : r.length < 8
              · refine (rr_short4 (S (4 :: r)) (S r) w A1 hb A2 (Sh_at 4 r 4 rfl) A3 (by rw [S_size]; omega)).mono fun e w' k => nay_of ?_ k
                unfold readL; rw [hR]; unfold numI; rw [if_pos hs]
              · by_cases hg : 8 < r.length
                · refine (rr_bad4 (S (4 :: r)) (S r) w A1 hb A2 (Sh_at 4 r 4 rfl) A3 (by rw [S_size]; omega)).mono fun e w' k => nay_of ?_ k
                  unfold readL; rw [hR]; unfold numI; rw [if_neg hs, if_pos (drop8_ne hg)]
                · have hlen : r.length = 8 := by omega
                  have hI : readI (4 :: r) = .inr ⟨4, 0, ((min (val (r.take 8)) 9223372036854775807 : Nat) : Int), false, []⟩ := by
                    rw [hR]; unfold numI; rw [if_neg hs, if_neg (by rw [drop8 hlen]; simp)]
                  by_cases hov : val (r.take 8) ≤ 1152921504606846976
                  · have hmin : min (val (r.take 8)) 9223372036854775807 = val (r.take 8) := by omega
                    rw [hmin] at hI
                    by_cases hc : chk 4 0 ((val (r.take 8) : Nat) : Int) false 0 = 0
                    · refine (rr_full4 (S (4 :: r)) (S r) ((val (r.take 8) : Nat) : Int) _ w A1 hb A2 (Sh_at 4 r 4 rfl) A3 (by rw [S_size]; omega) (by rw [S_size]; omega) rfl (by omega) (by omega) (Lib.hid fun w1 => num_at r (by omega) w1) (Lib.hid fun w1 => by have := chk_at 4 0 ((val (r.take 8) : Nat) : Int) false [] w1 (by decide); rw [show chk 4 0 ((val (r.take 8) : Nat) : Int) false (List.length ([] : List UInt8)) = 0 from hc] at this; exact this)).mono fun e w' k => ?_
                      exact yea_of (x := ⟨4, 0, ((val (r.take 8) : Nat) : Int), false, []⟩) (readL_good hI hc) k
                    · refine (rr_full4n (S (4 :: r)) (S r) ((val (r.take 8) : Nat) : Int) _ (chk 4 0 ((val (r.take 8) : Nat) : Int) false 0) w A1 hb A2 (Sh_at 4 r 4 rfl) A3 (by rw [S_size]; omega) (by rw [S_size]; omega) rfl (by omega) (by omega) (Lib.hid fun w1 => num_at r (by omega) w1) hc (Lib.hid fun w1 => chk_at 4 0 ((val (r.take 8) : Nat) : Int) false [] w1 (by decide))).mono fun e w' k => ?_
                      exact nay_of (readL_bad hI rfl hc) k
                  · refine (rr_over4 (S (4 :: r)) (S r) ((val (r.take 8) : Nat) : Int) _ w A1 hb A2 (Sh_at 4 r 4 rfl) A3 (by rw [S_size]; omega) (by rw [S_size]; omega) rfl (by omega) (Lib.hid fun w1 => num_at r (by omega) w1) (Lib.hid (by omega))).mono fun e w' k => nay_of ?_ k
                    have hz : chk 4 0 ((min (val (r.take 8)) 9223372036854775807 : Nat) : Int) false 0 = 2 := by unfold chk; rw [if_neg (by decide), if_neg (by decide), if_neg (by decide), if_pos rfl, if_pos (by omega)]
                    exact readL_bad hI hz (by decide)
            · by_cases h3 : c = 3
              · subst h3
                have hR : readI (3 :: r) = replyI r := rfl
                by_cases hs : r.length < 9
                · refine (rr_short3 (S (3 :: r)) (S r) w A1 hb A2 (Sh_at 3 r 3 rfl) A3 (by rw [S_size]; omega)).mono fun e w' k => nay_of ?_ k
                  unfold readL; rw [hR]; unfold replyI
                  by_cases h8 : r.length < 8
                  · rw [if_pos h8]
                  · rw [if_neg h8, drop8 (by omega)]
                · have h8 : ¬ r.length < 8 := by omega
                  obtain ⟨d, t, hd⟩ : ∃ d t, r.drop 8 = d :: t := by
                    cases e : r.drop 8 with
                    | nil => exact absurd e (drop8_ne (by omega))
                    | cons d t => exact ⟨d, t, rfl⟩
                  have hdl := congrArg List.length hd
                  rw [List.length_drop, List.length_cons] at hdl
                  have hg : r.getD 8 0 = d := by
                    have : (r.drop 8)[0]? = some d := by rw [hd]; rfl
                    rw [List.getElem?_drop] at this
                    rw [List.getD_eq_getElem?_getD, this]; rfl
                  have B8 : ∀ g : 8 < (S r).size, ((S r)[8]'g).toNat = d.toNat := fun g => by rw [S_idx r 8 g, hg]
                  have hdt := d.toNat_lt
                  by_cases hd1 : 1 < d.toNat
                  · refine (rr_bad3a (S (3 :: r)) (S r) d.toNat w A1 hb A2 (Sh_at 3 r 3 rfl) A3 (by rw [S_size]; omega) B8 hd1 (by omega)).mono fun e w' k => nay_of ?_ k
                    unfold readL; rw [hR]; unfold replyI; rw [if_neg h8, hd]; simp only [hd1, if_true]
                  · by_cases ht : t = []
                    · subst ht
                      have hlen : r.length = 9 := by simp at hdl; omega
                      by_cases hov : val (r.take 8) ≤ 1152921504606846976
                      · have hmin : min (val (r.take 8)) 9223372036854775807 = val (r.take 8) := by omega
                        have hI : readI (3 :: r) = .inr ⟨3, 0, ((val (r.take 8) : Nat) : Int), d == 1, []⟩ := by
                          rw [hR]; unfold replyI; rw [if_neg h8, hd]; simp only [hd1, if_false, ne_eq, not_true, hmin]
                        have hz : chk 3 0 ((val (r.take 8) : Nat) : Int) (d == 1) 0 = 0 := by unfold chk; rw [if_neg (by decide), if_neg (by decide), if_pos rfl, if_neg (by omega)]
                        have hL : readL (3 :: r) = (⟨3, 0, ((val (r.take 8) : Nat) : Int), d == 1, []⟩, 0) := readL_good hI hz
                        rcases (show d.toNat = 0 ∨ d.toNat = 1 by omega) with h0 | h0
                        · have hdd : d = 0 := UInt8.toNat_inj.1 h0
                          subst hdd
                          refine (rr_full3 (S (3 :: r)) (S r) 0 ((val (r.take 8) : Nat) : Int) _ w A1 hb A2 (Sh_at 3 r 3 rfl) A3 (by rw [S_size]; omega) (by rw [S_size]; omega) B8 (by omega) rfl (by omega) (by omega) (Lib.hid fun w1 => num_at r (by omega) w1) rfl (Lib.hid fun w1 => by have := chk_at 3 0 ((val (r.take 8) : Nat) : Int) false [] w1 (by decide); rw [show chk 3 0 ((val (r.take 8) : Nat) : Int) false (List.length ([] : List UInt8)) = 0 from hz] at this; exact this)).mono fun e w' k => yea_of hL k
                        · have hdd : d = 1 := UInt8.toNat_inj.1 h0
                          subst hdd
                          refine (rr_full3t (S (3 :: r)) (S r) 1 ((val (r.take 8) : Nat) : Int) _ w A1 hb A2 (Sh_at 3 r 3 rfl) A3 (by rw [S_size]; omega) (by rw [S_size]; omega) B8 (by omega) rfl (by omega) (by omega) (Lib.hid fun w1 => num_at r (by omega) w1) rfl (Lib.hid fun w1 => by have := chk_at 3 0 ((val (r.take 8) : Nat) : Int) true [] w1 (by decide); rw [show chk 3 0 ((val (r.take 8) : Nat) : Int) true (List.length ([] : List UInt8)) = 0 from hz] at this; exact this)).mono fun e w' k => yea_of hL k
                      · refine (rr_over3 (S (3 :: r)) (S r) d.toNat ((val (r.take 8) : Nat) : Int) _ w A1 hb A2 (Sh_at 3 r 3 rfl) A3 (by rw [S_size]; omega) (by rw [S_size]; omega) B8 (by omega) rfl (by omega) (Lib.hid fun w1 => num_at r (by omega) w1) (Lib.hid (by omega))).mono fun e w' k => nay_of ?_ k
                        have hI : readI (3 :: r) = .inr ⟨3, 0, ((min (val (r.take 8)) 9223372036854775807 : Nat) : Int), d == 1, []⟩ := by
                          rw [hR]; unfold replyI; rw [if_neg h8, hd]; simp only [hd1, if_false, ne_eq, not_true]
                        have hz : chk 3 0 ((min (val (r.take 8)) 9223372036854775807 : Nat) : Int) (d == 1) 0 = 2 := by unfold chk; rw [if_neg (by decide), if_neg (by decide), if_pos rfl, if_pos (by omega)]
                        exact readL_bad hI hz (by decide)
                    · refine (rr_bad3b (S (3 :: r)) (S r) d.toNat w A1 hb A2 (Sh_at 3 r 3 rfl) A3 (by rw [S_size]; cases t with | nil => exact absurd rfl ht | cons x t => simp at hdl; omega) B8 (by omega)).mono fun e w' k => nay_of ?_ k
                      unfold readL; rw [hR]; unfold replyI; rw [if_neg h8, hd]; simp only [hd1, if_false, ne_eq, ht, not_false_iff, if_true]
              · have hk : c.toNat = 0 ∨ 6 < c.toNat := by
                  have n1 : c.toNat ≠ 1 := fun e => h1 (UInt8.toNat_inj.1 e)
                  have n2 : c.toNat ≠ 2 := fun e => h2 (UInt8.toNat_inj.1 e)
                  have n3 : c.toNat ≠ 3 := fun e => h3 (UInt8.toNat_inj.1 e)
                  have n4 : c.toNat ≠ 4 := fun e => h4 (UInt8.toNat_inj.1 e)
                  have n5 : c.toNat ≠ 5 := fun e => h5 (UInt8.toNat_inj.1 e)
                  have n6 : c.toNat ≠ 6 := fun e => h6 (UInt8.toNat_inj.1 e)
                  omega
                have hct := c.toNat_lt
                refine (rr_kind (S (c :: r)) (S r) c.toNat w A1 hb A2 (Sh_at c r _ rfl) A3 hk (by omega)).mono fun e w' k => nay_of ?_ k
                unfold readL readI
                simp only [h1, h2, h3, h4, h5, h6, if_false]
end Go.Proofs.YtepbbdeolplhfaaDoor
