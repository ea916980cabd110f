/-
  The contract of Match of package glob: what a glob matches.
-/
import Derived.Test.YtolfpkjohlbfdaaDoorMrl
import Derived.Test.YtolfpkjohlbfdaaDoorShelf
import Derived.Deep.QuietTactic
import Derived.WalkMore
namespace Go.Proofs.YtolfpkjohlbfdaaDoor
open Go.RowKit

def RetQ (b : Bool) (w : World) (e : Ending) (w' : World) : Prop := e = .returned (.bool b) ∧ Keeps w w'
theorem RetQ.of {k k' : Bool} {w w' : World} (h : k' = k) (q : Keeps w w') : RetQ k w (.returned (.bool k')) w' := ⟨by rw [h], q⟩
def lowC (c : UInt8) : UInt8 := if 65 ≤ c.toNat ∧ c.toNat ≤ 90 then c + 32 else c
theorem low_nat (c : UInt8) (h1 : 65 ≤ c.toNat) (h2 : c.toNat ≤ 90) : ((lowC c).toNat : Int) = c.toNat + 32 := by
  unfold lowC; rw [if_pos ⟨h1, h2⟩, UInt8.toNat_add]; simp; omega
def eqB (fo : Bool) (a b : UInt8) : Bool := if fo = true then lowC a == lowC b else a == b
def sameF (fo : Bool) : Nat := if fo = true then 27 else 26

theorem foldB_any (c : UInt8) (w : World) : Calls Tryd.prog 28 #[.int .u8 c.toNat] w (fun e w' => e = .returned (.int .u8 (lowC c).toNat) ∧ w' = w) := by
  have hc := c.toNat_lt
  have g : c.toNat < 65 ∨ (65 ≤ c.toNat ∧ c.toNat ≤ 90) ∨ 90 < c.toNat := by omega
  rcases g with g | ⟨g, g'⟩ | g
  · have e : lowC c = c := by unfold lowC; rw [if_neg (by omega)]
    rw [e]
    go_enter Tryd.func28, Tryd.ntmps28
    go_wp2
    go_ret
    exact ⟨rfl, rfl⟩
  · rw [low_nat c g g']
    go_enter Tryd.func28, Tryd.ntmps28
    go_wp2
    go_ret
    exact ⟨by go_num, rfl⟩
  · have e : lowC c = c := by unfold lowC; rw [if_neg (by omega)]
    rw [e]
    go_enter Tryd.func28, Tryd.ntmps28
    go_wp2
    go_ret
    exact ⟨rfl, rfl⟩

theorem nat_eq (a b : UInt8) : ((a.toNat : Int) == (b.toNat : Int)) = (a == b) := by
  rw [Bool.eq_iff_iff]
  simp only [beq_iff_eq]
  constructor
  · intro h; exact UInt8.toNat_inj.1 (by omega)
  · intro h; rw [h]

theorem same26 (a b : UInt8) (w : World) : Calls Tryd.prog 26 #[.int .u8 a.toNat, .int .u8 b.toNat] w (fun e w' => e = .returned (.bool (a == b)) ∧ w' = w) := by
  rw [← nat_eq]
  go_enter Tryd.func26, Tryd.ntmps26
  go_wp2
  go_ret
  exact ⟨rfl, rfl⟩
set_option maxHeartbeats 1000000 in
theorem same27 (a b : UInt8) (w : World) : Calls Tryd.prog 27 #[.int .u8 a.toNat, .int .u8 b.toNat] w (fun e w' => e = .returned (.bool (lowC a == lowC b)) ∧ w' = w) := by
  have cA := Lib.hid (foldB_any a w)
  have cB := Lib.hid (foldB_any b w)
  rw [← nat_eq]
  go_enter Tryd.func27, Tryd.ntmps27
  go_wp2_with fail
  refine cA.out.mono ?_
  rintro e w2 ⟨rfl, rfl⟩
  go_wp2_with fail
  refine cB.out.mono ?_
  rintro e w3 ⟨rfl, rfl⟩
  go_wp2
  go_ret
  exact ⟨rfl, rfl⟩

theorem dw_nil (p : UInt8 → Bool) (l : List UInt8) : l.dropWhile p = [] ↔ ∀ x ∈ l, p x = true := by
  induction l with
  | nil => simp
  | cons a l ih =>
    rw [List.dropWhile_cons]
    by_cases h : p a = true
    · rw [if_pos h, ih]; simp [h]
    · rw [if_neg h]; simp [h]
theorem dw_dw (p : UInt8 → Bool) (l : List UInt8) (h : ∀ x ∈ l.dropWhile p, p x = true) : l.dropWhile p = [] := by
  induction l with
  | nil => rfl
  | cons a l ih =>
    rw [List.dropWhile_cons] at h ⊢
    by_cases hp : p a = true
    · rw [if_pos hp] at h ⊢; exact ih h
    · rw [if_neg hp] at h; exact absurd (h a (by simp)) hp
theorem trim_empty (l : List UInt8) : (S (Lib.trimB l 42)).toList.isEmpty = l.all (fun x => x.toNat == 42) := by
  rw [ByteArray.toList_eq, S_data, Bool.eq_iff_iff, List.isEmpty_iff, List.all_eq_true]
  unfold Lib.trimB Lib.trimLeftB Lib.trimRightB
  have e : ∀ x : UInt8, (x == (42 : UInt8)) = true ↔ (x.toNat == 42) = true := fun x => by
    simp only [beq_iff_eq]
    exact ⟨fun h => by rw [h]; rfl, fun h => UInt8.toNat_inj.1 (by rw [h]; rfl)⟩
  rw [dw_nil]
  constructor
  · intro h
    have h1 := dw_dw (fun x => x == (42 : UInt8)) l.reverse (fun x hx => h x (by simpa using hx))
    rw [dw_nil] at h1
    intro x hx
    exact (e x).1 (h1 x (by simpa using hx))
  · intro h x hx
    have h1 : l.reverse.dropWhile (fun x => x == (42 : UInt8)) = [] := (dw_nil _ _).2 (fun y hy => (e y).2 (h y (by simpa using hy)))
    rw [h1] at hx; cases hx

theorem getD_at (s : ByteArray) (k : Nat) (h : k < s.size) : s.data.toList.getD k 0 = s[k] := by
  rw [List.getD_eq_getElem?_getD, List.getElem?_eq_getElem (by simpa using h)]
  rfl

theorem meas_back' (T P k a s : Nat) (z : Int) (hz : z = (k : Int) + 1) (h1 : k < T) : (T + 1 - (intOf (.int .i64 z)).toNat) * (P + 2) + (P + 1 - (intOf (.int .i64 (s : Int))).toNat) < (T + 1 - (intOf (.int .i64 (k : Int))).toNat) * (P + 2) + (P + 1 - (intOf (.int .i64 (a : Int))).toNat) := by
  subst hz
  have e : ((k : Int) + 1).toNat = k + 1 := by omega
  simp only [intOf, e, Int.toNat_natCast]
  exact meas_back T P k a s h1

/-- The four variables of the loop. -/
def MRel (eq : UInt8 → UInt8 → Bool) (p t : List UInt8) (a i : Nat) (s k : Value) : Prop :=
  (s = .int .i64 (-1) ∧ k = .int .i64 0 ∧ NoStar eq p t a i) ∨ (∃ s' k' : Nat, s = .int .i64 s' ∧ k = .int .i64 k' ∧ s' ≤ p.length ∧ Star eq p t a i s' k')

set_option maxRecDepth 100000 in
set_option maxHeartbeats 2000000 in
theorem match_any (p t : ByteArray) (fo : Bool) (w : World) (hp : p.size ≤ 100000) (ht : t.size ≤ 100000) : Calls Tryd.prog 13 #[.string p, .string t, .bool fo] w (RetQ (mt (eqB fo) p.data.toList t.data.toList) w) := by
  have hpl : p.data.toList.length = p.size := by simp
  have htl : t.data.toList.length = t.size := by simp
  have HA := Lib.hid (fun k (hk : k < p.size) => getD_at p k hk)
  have HB := Lib.hid (fun k (hk : k < t.size) => getD_at t k hk)
  have H0 : Hid (NoStar (eqB fo) p.data.toList t.data.toList 0 0) := Lib.hid NoStar.start
  obtain ⟨pl, hpl0⟩ : ∃ pl, pl = p.data.toList := ⟨_, rfl⟩
  rw [← hpl0] at hpl HA H0 ⊢
  have HPL := Lib.hid hpl0.symm
  clear hpl0
  generalize t.data.toList = tl at *
  have PL := Lib.hid hpl
  have TL := Lib.hid htl
  clear hpl htl
  cases fo
  · skip
    have cS : Hid (∀ (x y : UInt8) (w1 : World), Calls Tryd.prog 26 #[.int .u8 x.toNat, .int .u8 y.toNat] w1 (fun e w' => e = .returned (.bool (eqB false x y)) ∧ w' = w1)) := Lib.hid (fun x y w1 => same26 x y w1)
    go_enter Tryd.func13, Tryd.ntmps13
    go_wp2
    go_step3
    go_wp2
    go_step3
    go_wp2
    go_loopw [8, 9, 10, 11] (fun a i s k wr => ∃ a' i' : Nat, a = .int .i64 a' ∧ i = .int .i64 i' ∧ a' ≤ p.size ∧ i' ≤ t.size ∧ MRel (eqB false) pl tl a' i' s k ∧ Keeps w wr) (fun a _ _ k _ => (t.size + 1 - (intOf k).toNat) * (p.size + 2) + (p.size + 1 - (intOf a).toNat))
    case atStart => exact ⟨0, 0, rfl, rfl, Nat.zero_le _, Nat.zero_le _, .inl ⟨rfl, rfl, H0.out⟩, Keeps.refl _⟩
    case round =>
      obtain ⟨a, i, rfl, rfl, ha, hi, hm, hkp⟩ := hrel
      by_cases hit : i < t.size
      · by_cases hap : a < p.size
        · by_cases h42 : p[a].toNat = 42
          · rcases hm with ⟨rfl, rfl, hn⟩ | ⟨s', k', rfl, rfl, hs, hst⟩
            · have HN := Lib.hid (hn.star (by rw [PL.out]; exact hap) (by rw [HA.out a hap]; exact h42))
              clear hn
              go_wp2
              go_roundw
              case rel => exact ⟨a + 1, i, by go_num, rfl, by omega, by omega, .inr ⟨a + 1, i, by go_num, rfl, by rw [PL.out]; omega, HN.out⟩, hkp⟩
              case measure => simp only [intOf]; exact meas_on _ _ _ _ _ _ (by omega) (by omega) (by omega)
            · have HN := Lib.hid (hst.star (by rw [PL.out]; exact hap) (by rw [HA.out a hap]; exact h42))
              have hki := hst.1
              clear hst
              go_wp2
              go_roundw
              case rel => exact ⟨a + 1, i, by go_num, rfl, by omega, by omega, .inr ⟨a + 1, i, by go_num, rfl, by rw [PL.out]; omega, HN.out⟩, hkp⟩
              case measure => simp only [intOf]; exact meas_on _ _ _ _ _ _ (by omega) (by omega) (by omega)
          · by_cases h63 : p[a].toNat = 63
            · have hone : one (eqB false) (pl.getD a 0) (tl.getD i 0) = true := by
                unfold one; rw [HA.out a hap]; exact decide_eq_true ⟨h42, .inl h63⟩
              rcases hm with ⟨rfl, rfl, hn⟩ | ⟨s', k', rfl, rfl, hs, hst⟩
              · have HN := Lib.hid (hn.on (by rw [PL.out]; exact hap) (by rw [TL.out]; exact hit) hone)
                clear hn hone
                go_wp2
                go_quiet (fail)
                go_wp2
                go_roundw
                case rel => exact ⟨a + 1, i + 1, by go_num, by go_num, by omega, by omega, .inl ⟨rfl, rfl, HN.out⟩, hkp.drewN _⟩
                case measure => simp only [intOf]; exact meas_on _ _ _ _ _ _ (by omega) (by omega) (by omega)
              · have HN := Lib.hid (hst.on (by rw [PL.out]; exact hap) (by rw [TL.out]; exact hit) hone)
                clear hst hone
                go_wp2
                go_quiet (fail)
                go_wp2
                go_roundw
                case rel => exact ⟨a + 1, i + 1, by go_num, by go_num, by omega, by omega, .inr ⟨s', k', rfl, rfl, hs, HN.out⟩, hkp.drewN _⟩
                case measure => simp only [intOf]; exact meas_on _ _ _ _ _ _ (by omega) (by omega) (by omega)
            · have hg63 : ((p[a].toNat : Int) == 63) = false := by simp; omega
              cases hq : eqB false p[a] t[i]
              · have cq : Hid (∀ w1 : World, Calls Tryd.prog 26 #[.int .u8 p[a].toNat, .int .u8 t[i].toNat] w1 (fun e w' => e = .returned (.bool false) ∧ w' = w1)) := Lib.hid (fun w1 => by rw [← hq]; exact cS.out _ _ w1)
                have hmiss : Miss (eqB false) pl tl a i := miss_none (by rw [PL.out]; exact hap) (by rw [TL.out]; exact hit) (by rw [HA.out a hap]; exact h42) (by
                  unfold one; rw [HA.out a hap, HB.out i hit]; exact decide_eq_false (fun h => by rcases h.2 with h | h; exact h63 h; rw [hq] at h; cases h))
                clear hq
                rcases hm with ⟨rfl, rfl, hn⟩ | ⟨s', k', rfl, rfl, hs, hst⟩
                · have HN := Lib.hid (hn.no hmiss)
                  clear hn hmiss
                  go_wp2
                  go_quiet (first | (go_at_call 26; exact Calls.quiet_of_same (cq.out _)))
                  go_wp2
                  go_ret
                  exact RetQ.of HN.out.symm (hkp.drewN _)
                · have HN := Lib.hid (hst.back (by rw [TL.out]; exact hit) hmiss)
                  have hki := hst.1
                  have hsp : s' ≤ p.size := by rw [← PL.out]; exact hs
                  clear hst hmiss
                  go_wp2
                  go_quiet (first | (go_at_call 26; exact Calls.quiet_of_same (cq.out _)))
                  go_wp2
                  go_roundw
                  case rel => exact ⟨s', k' + 1, rfl, by go_num, hsp, by omega, .inr ⟨s', k' + 1, rfl, by go_num, hs, HN.out⟩, hkp.drewN _⟩
                  case measure => exact meas_back' _ _ _ _ _ _ (by go_num) (by omega)
              · have cq : Hid (∀ w1 : World, Calls Tryd.prog 26 #[.int .u8 p[a].toNat, .int .u8 t[i].toNat] w1 (fun e w' => e = .returned (.bool true) ∧ w' = w1)) := Lib.hid (fun w1 => by rw [← hq]; exact cS.out _ _ w1)
                have hone : one (eqB false) (pl.getD a 0) (tl.getD i 0) = true := by
                  unfold one; rw [HA.out a hap, HB.out i hit]; exact decide_eq_true ⟨h42, .inr hq⟩
                clear hq
                rcases hm with ⟨rfl, rfl, hn⟩ | ⟨s', k', rfl, rfl, hs, hst⟩
                · have HN := Lib.hid (hn.on (by rw [PL.out]; exact hap) (by rw [TL.out]; exact hit) hone)
                  clear hn hone
                  go_wp2
                  go_quiet (first | (go_at_call 26; exact Calls.quiet_of_same (cq.out _)))
                  go_wp2
                  go_roundw
                  case rel => exact ⟨a + 1, i + 1, by go_num, by go_num, by omega, by omega, .inl ⟨rfl, rfl, HN.out⟩, hkp.drewN _⟩
                  case measure => simp only [intOf]; exact meas_on _ _ _ _ _ _ (by omega) (by omega) (by omega)
                · have HN := Lib.hid (hst.on (by rw [PL.out]; exact hap) (by rw [TL.out]; exact hit) hone)
                  clear hst hone
                  go_wp2
                  go_quiet (first | (go_at_call 26; exact Calls.quiet_of_same (cq.out _)))
                  go_wp2
                  go_roundw
                  case rel => exact ⟨a + 1, i + 1, by go_num, by go_num, by omega, by omega, .inr ⟨s', k', rfl, rfl, hs, HN.out⟩, hkp.drewN _⟩
                  case measure => simp only [intOf]; exact meas_on _ _ _ _ _ _ (by omega) (by omega) (by omega)
        · have hmiss : Miss (eqB false) pl tl a i := miss_end (by rw [PL.out]; omega) (by rw [TL.out]; exact hit)
          rcases hm with ⟨rfl, rfl, hn⟩ | ⟨s', k', rfl, rfl, hs, hst⟩
          · have HN := Lib.hid (hn.no hmiss)
            clear hn hmiss
            go_wp2
            go_quiet (fail)
            go_wp2
            go_ret
            exact RetQ.of HN.out.symm (hkp.drewN _)
          · have HN := Lib.hid (hst.back (by rw [TL.out]; exact hit) hmiss)
            have hki := hst.1
            have hsp : s' ≤ p.size := by rw [← PL.out]; exact hs
            clear hst hmiss
            go_wp2
            go_quiet (fail)
            go_wp2
            go_roundw
            case rel => exact ⟨s', k' + 1, rfl, by go_num, hsp, by omega, .inr ⟨s', k' + 1, rfl, by go_num, hs, HN.out⟩, hkp.drewN _⟩
            case measure => exact meas_back' _ _ _ _ _ _ (by go_num) (by omega)
      · obtain rfl : i = t.size := by omega
        have he : mt (eqB false) pl tl = (pl.drop a).all (fun x => x.toNat == 42) := by
          rcases hm with ⟨_, _, hn⟩ | ⟨s', k', _, _, _, hst⟩
          · rw [← TL.out] at hn; exact hn.last
          · rw [← TL.out] at hst; exact hst.last
        clear hm
        have hts : (p.extract a p.size).data.toList = pl.drop a := by
          rw [← HPL.out]; simp only [ByteArray.data_extract, Array.toList_extract, List.extract]
          exact List.take_of_length_le (by simp)
        have cT := Lib.hid (Tryd.strings_Trim_one (p.extract a p.size) 42 (by decide) wr (by
          have e : (p.extract a p.size).size ≤ p.size := by simp
          omega))
        rw [hts] at cT
        have hem := trim_empty (pl.drop a)
        rw [← he, ByteArray.toList_eq, S_data] at hem
        clear he hts
        have HM := Lib.hid hem
        go_wp2_with fail
        refine cT.out.mono ?_
        rintro e w2 ⟨rfl, hw2⟩
        have hk2 : Keeps w w2 := by
          rcases hw2 with rfl | rfl
          · exact hkp
          · exact hkp.drew
        clear hw2
        go_wp2
        go_ret
        exact RetQ.of rfl hk2
  · skip
    have cS : Hid (∀ (x y : UInt8) (w1 : World), Calls Tryd.prog 27 #[.int .u8 x.toNat, .int .u8 y.toNat] w1 (fun e w' => e = .returned (.bool (eqB true x y)) ∧ w' = w1)) := Lib.hid (fun x y w1 => same27 x y w1)
    go_enter Tryd.func13, Tryd.ntmps13
    go_wp2
    go_step3
    go_wp2
    go_step3
    go_wp2
    go_loopw [8, 9, 10, 11] (fun a i s k wr => ∃ a' i' : Nat, a = .int .i64 a' ∧ i = .int .i64 i' ∧ a' ≤ p.size ∧ i' ≤ t.size ∧ MRel (eqB true) pl tl a' i' s k ∧ Keeps w wr) (fun a _ _ k _ => (t.size + 1 - (intOf k).toNat) * (p.size + 2) + (p.size + 1 - (intOf a).toNat))
    case atStart => exact ⟨0, 0, rfl, rfl, Nat.zero_le _, Nat.zero_le _, .inl ⟨rfl, rfl, H0.out⟩, Keeps.refl _⟩
    case round =>
      obtain ⟨a, i, rfl, rfl, ha, hi, hm, hkp⟩ := hrel
      by_cases hit : i < t.size
      · by_cases hap : a < p.size
        · by_cases h42 : p[a].toNat = 42
          · rcases hm with ⟨rfl, rfl, hn⟩ | ⟨s', k', rfl, rfl, hs, hst⟩
            · have HN := Lib.hid (hn.star (by rw [PL.out]; exact hap) (by rw [HA.out a hap]; exact h42))
              clear hn
              go_wp2
              go_roundw
              case rel => exact ⟨a + 1, i, by go_num, rfl, by omega, by omega, .inr ⟨a + 1, i, by go_num, rfl, by rw [PL.out]; omega, HN.out⟩, hkp⟩
              case measure => simp only [intOf]; exact meas_on _ _ _ _ _ _ (by omega) (by omega) (by omega)
            · have HN := Lib.hid (hst.star (by rw [PL.out]; exact hap) (by rw [HA.out a hap]; exact h42))
              have hki := hst.1
              clear hst
              go_wp2
              go_roundw
              case rel => exact ⟨a + 1, i, by go_num, rfl, by omega, by omega, .inr ⟨a + 1, i, by go_num, rfl, by rw [PL.out]; omega, HN.out⟩, hkp⟩
              case measure => simp only [intOf]; exact meas_on _ _ _ _ _ _ (by omega) (by omega) (by omega)
          · by_cases h63 : p[a].toNat = 63
            · have hone : one (eqB true) (pl.getD a 0) (tl.getD i 0) = true := by
                unfold one; rw [HA.out a hap]; exact decide_eq_true ⟨h42, .inl h63⟩
              rcases hm with ⟨rfl, rfl, hn⟩ | ⟨s', k', rfl, rfl, hs, hst⟩
              · have HN := Lib.hid (hn.on (by rw [PL.out]; exact hap) (by rw [TL.out]; exact hit) hone)
                clear hn hone
                go_wp2
                go_quiet (fail)
                go_wp2
                go_roundw
                case rel => exact ⟨a + 1, i + 1, by go_num, by go_num, by omega, by omega, .inl ⟨rfl, rfl, HN.out⟩, hkp.drewN _⟩
                case measure => simp only [intOf]; exact meas_on _ _ _ _ _ _ (by omega) (by omega) (by omega)
              · have HN := Lib.hid (hst.on (by rw [PL.out]; exact hap) (by rw [TL.out]; exact hit) hone)
                clear hst hone
                go_wp2
                go_quiet (fail)
                go_wp2
                go_roundw
                case rel => exact ⟨a + 1, i + 1, by go_num, by go_num, by omega, by omega, .inr ⟨s', k', rfl, rfl, hs, HN.out⟩, hkp.drewN _⟩
                case measure => simp only [intOf]; exact meas_on _ _ _ _ _ _ (by omega) (by omega) (by omega)
            · have hg63 : ((p[a].toNat : Int) == 63) = false := by simp; omega
              cases hq : eqB true p[a] t[i]
              · have cq : Hid (∀ w1 : World, Calls Tryd.prog 27 #[.int .u8 p[a].toNat, .int .u8 t[i].toNat] w1 (fun e w' => e = .returned (.bool false) ∧ w' = w1)) := Lib.hid (fun w1 => by rw [← hq]; exact cS.out _ _ w1)
                have hmiss : Miss (eqB true) pl tl a i := miss_none (by rw [PL.out]; exact hap) (by rw [TL.out]; exact hit) (by rw [HA.out a hap]; exact h42) (by
                  unfold one; rw [HA.out a hap, HB.out i hit]; exact decide_eq_false (fun h => by rcases h.2 with h | h; exact h63 h; rw [hq] at h; cases h))
                clear hq
                rcases hm with ⟨rfl, rfl, hn⟩ | ⟨s', k', rfl, rfl, hs, hst⟩
                · have HN := Lib.hid (hn.no hmiss)
                  clear hn hmiss
                  go_wp2
                  go_quiet (first | (go_at_call 27; exact Calls.quiet_of_same (cq.out _)))
                  go_wp2
                  go_ret
                  exact RetQ.of HN.out.symm (hkp.drewN _)
                · have HN := Lib.hid (hst.back (by rw [TL.out]; exact hit) hmiss)
                  have hki := hst.1
                  have hsp : s' ≤ p.size := by rw [← PL.out]; exact hs
                  clear hst hmiss
                  go_wp2
                  go_quiet (first | (go_at_call 27; exact Calls.quiet_of_same (cq.out _)))
                  go_wp2
                  go_roundw
                  case rel => exact ⟨s', k' + 1, rfl, by go_num, hsp, by omega, .inr ⟨s', k' + 1, rfl, by go_num, hs, HN.out⟩, hkp.drewN _⟩
                  case measure => exact meas_back' _ _ _ _ _ _ (by go_num) (by omega)
              · have cq : Hid (∀ w1 : World, Calls Tryd.prog 27 #[.int .u8 p[a].toNat, .int .u8 t[i].toNat] w1 (fun e w' => e = .returned (.bool true) ∧ w' = w1)) := Lib.hid (fun w1 => by rw [← hq]; exact cS.out _ _ w1)
                have hone : one (eqB true) (pl.getD a 0) (tl.getD i 0) = true := by
                  unfold one; rw [HA.out a hap, HB.out i hit]; exact decide_eq_true ⟨h42, .inr hq⟩
                clear hq
                rcases hm with ⟨rfl, rfl, hn⟩ | ⟨s', k', rfl, rfl, hs, hst⟩
                · have HN := Lib.hid (hn.on (by rw [PL.out]; exact hap) (by rw [TL.out]; exact hit) hone)
                  clear hn hone
                  go_wp2
                  go_quiet (first | (go_at_call 27; exact Calls.quiet_of_same (cq.out _)))
                  go_wp2
                  go_roundw
                  case rel => exact ⟨a + 1, i + 1, by go_num, by go_num, by omega, by omega, .inl ⟨rfl, rfl, HN.out⟩, hkp.drewN _⟩
                  case measure => simp only [intOf]; exact meas_on _ _ _ _ _ _ (by omega) (by omega) (by omega)
                · have HN := Lib.hid (hst.on (by rw [PL.out]; exact hap) (by rw [TL.out]; exact hit) hone)
                  clear hst hone
                  go_wp2
                  go_quiet (first | (go_at_call 27; exact Calls.quiet_of_same (cq.out _)))
                  go_wp2
                  go_roundw
                  case rel => exact ⟨a + 1, i + 1, by go_num, by go_num, by omega, by omega, .inr ⟨s', k', rfl, rfl, hs, HN.out⟩, hkp.drewN _⟩
                  case measure => simp only [intOf]; exact meas_on _ _ _ _ _ _ (by omega) (by omega) (by omega)
        · have hmiss : Miss (eqB true) pl tl a i := miss_end (by rw [PL.out]; omega) (by rw [TL.out]; exact hit)
          rcases hm with ⟨rfl, rfl, hn⟩ | ⟨s', k', rfl, rfl, hs, hst⟩
          · have HN := Lib.hid (hn.no hmiss)
            clear hn hmiss
            go_wp2
            go_quiet (fail)
            go_wp2
            go_ret
            exact RetQ.of HN.out.symm (hkp.drewN _)
          · have HN := Lib.hid (hst.back (by rw [TL.out]; exact hit) hmiss)
            have hki := hst.1
            have hsp : s' ≤ p.size := by rw [← PL.out]; exact hs
            clear hst hmiss
            go_wp2
            go_quiet (fail)
            go_wp2
            go_roundw
            case rel => exact ⟨s', k' + 1, rfl, by go_num, hsp, by omega, .inr ⟨s', k' + 1, rfl, by go_num, hs, HN.out⟩, hkp.drewN _⟩
            case measure => exact meas_back' _ _ _ _ _ _ (by go_num) (by omega)
      · obtain rfl : i = t.size := by omega
        have he : mt (eqB true) pl tl = (pl.drop a).all (fun x => x.toNat == 42) := by
          rcases hm with ⟨_, _, hn⟩ | ⟨s', k', _, _, _, hst⟩
          · rw [← TL.out] at hn; exact hn.last
          · rw [← TL.out] at hst; exact hst.last
        clear hm
        have hts : (p.extract a p.size).data.toList = pl.drop a := by
          rw [← HPL.out]; simp only [ByteArray.data_extract, Array.toList_extract, List.extract]
          exact List.take_of_length_le (by simp)
        have cT := Lib.hid (Tryd.strings_Trim_one (p.extract a p.size) 42 (by decide) wr (by
          have e : (p.extract a p.size).size ≤ p.size := by simp
          omega))
        rw [hts] at cT
        have hem := trim_empty (pl.drop a)
        rw [← he, ByteArray.toList_eq, S_data] at hem
        clear he hts
        have HM := Lib.hid hem
        go_wp2_with fail
        refine cT.out.mono ?_
        rintro e w2 ⟨rfl, hw2⟩
        have hk2 : Keeps w w2 := by
          rcases hw2 with rfl | rfl
          · exact hkp
          · exact hkp.drew
        clear hw2
        go_wp2
        go_ret
        exact RetQ.of rfl hk2
end Go.Proofs.YtolfpkjohlbfdaaDoor
