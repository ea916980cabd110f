/-
  The document's own Norm of globs.
-/
import Derived.Test.YtolfpkjohlbfdaaDoorGrb
import Derived.Lib.SmallJoins
namespace Go.Proofs.YtolfpkjohlbfdaaDoor
open Go.RowKit

def bv (l : List UInt8) : List Value := l.map fun c => .int .u8 (c.toNat : Int)
def Owns (w : World) (B : Nat) (v : Value) (l : List UInt8) : Prop := w.ownsRow B 5 1 v l.length (bv l)
theorem bv_app (l : List UInt8) (c : UInt8) : bv l ++ [.int .u8 (c.toNat : Int)] = bv (l ++ [c]) := by simp [bv]
theorem cell_new (w : World) (x y : Int) (h : x = y) : ∀ j u, ([Value.int .u8 y] : List Value)[j]? = some u → (w.alloc (.cells #[.int .u8 x] 5)).cell? ((⟨w.heap.size, 0, none⟩ : Addr).add j) = some u := by
  intro j u hj
  subst h
  match j, hj with
  | 0, hj => simp at hj; subst hj; simp [Addr.add]
theorem one_cell (y : Int) : ∀ u ∈ ([Value.int .u8 y] : List Value), u.oneCell' = true := by intro u hu; simp at hu; subst hu; rfl
theorem Owns.more {w' : World} {B : Nat} {v' : Value} {l : List UInt8} {c : UInt8} (h : w'.ownsRow B 5 1 v' (l.length + 1) (bv l ++ [.int .u8 (c.toNat : Int)])) : Owns w' B v' (l ++ [c]) := by
  rw [bv_app] at h
  simpa [Owns] using h
theorem conv_owns {w : World} {B : Nat} {v : Value} {l : List UInt8} (h : Owns w B v l) : (convert 35 9 v).run Tryd.prog w = .ok (.string (S l)) w := by
  rcases Go.Joins.ownsRow_forms h with ⟨rfl, h0⟩ | ⟨g, cap, rfl⟩
  · obtain rfl := List.eq_nil_of_length_eq_zero h0
    have := run_convert_bytes_back (P := Tryd.prog) w 35 9 5 ⟨0, 0, none⟩ 0 [] Tryd.underlying35 Tryd.underlying5 Tryd.underlying9 (by intro j hj; simp at hj)
    exact (run_convert_bytes_string (P := Tryd.prog) w 35 9 5 none 0 0 Tryd.underlying35 Tryd.underlying5 Tryd.underlying9).trans this
  · refine conv_back w g cap _ l rfl ?_
    intro j hj
    refine ⟨?_, World.ownsRow.frozenAt h j⟩
    rw [World.ownsRow.cellAt h j (by omega)]
    simp [bv, hj, List.getD]

/-- What holds in the loop of the document's Norm. -/
def NmAt (w : World) (l : List UInt8) (n k : Nat) (st : Bool) (v : Value) (wr : World) : Prop :=
  ∃ o, Owns wr w.heap.size v o ∧ o.length ≤ k ∧ Keeps w wr ∧ (k ≤ n → normTo l k = (o, st)) ∧ (n < k → o = normL l)

set_option maxHeartbeats 8000000 in
theorem rnorm_any (s : ByteArray) (w : World) (hs : s.size ≤ 100000) : Calls Tryd.prog 19 #[.string s] w (RetS (normL s.data.toList) w) := by
  have hl : s.data.toList.length = s.size := by simp
  obtain ⟨i0, hi, hz0, hz1, hz2⟩ := info_parts infoByte
  have HA := Lib.hid (fun k (hk : k < s.size) => getD_at s k hk)
  have HSU := Lib.hid (fun k (hk : k < s.size) => normTo_succ s.data.toList k (by rw [hl]; exact hk))
  have HW := Lib.hid (fun k (hk : k ≤ s.size) => normTo_wt s.data.toList k (by rw [hl]; exact hk))
  have HN : Hid (normL s.data.toList = nfin (normTo s.data.toList s.size)) := Lib.hid (by unfold normL; rw [hl])
  have H0 : Hid (NmAt w s.data.toList s.size 0 false (.slice none 0 0) w) := Lib.hid ⟨[], World.ownsRow_nil w w.heap.size 5 1, Nat.le_refl _, Keeps.refl _, fun _ => normTo_zero _, fun h => absurd h (Nat.not_lt_zero _)⟩
  generalize s.data.toList = l at *
  clear hl
  have cW := Lib.hid (fun (c : UInt8) (w1 : World) => wild_any c w1)
  go_enter Tryd.func19, Tryd.ntmps19
  go_wp2
  go_loopw [5, 3, 4] (fun i v b wr => ∃ (k : Nat) (st : Bool), k ≤ s.size + 1 ∧ i = .int .i64 (k : Int) ∧ b = .bool st ∧ Hid (NmAt w l s.size k st v wr)) (fun i _ _ _ => s.size + 1 - (intOf i).toNat)
  case atStart => exact ⟨0, false, Nat.zero_le _, rfl, rfl, H0⟩
  case round =>
    obtain ⟨k, st, hk, rfl, rfl, hr⟩ := hrel
    obtain ⟨o, hown, hol, hkp, hto, hend⟩ := hr.out
    clear hr
    have hz := hkp.size
    by_cases hlt : k < s.size
    · have hsk := HSU.out k hlt
      have hto' := hto (by omega)
      rw [HA.out k hlt, hto'] at hsk
      have hwk := HW.out k (by omega)
      rw [hto'] at hwk
      clear hto hend hto'
      cases st
      · by_cases h42 : (s[k]'hlt).toNat = 42
        · rw [nstep_star _ _ _ h42] at hsk
          have HK := Lib.hid hsk
          have HO := Lib.hid (And.intro hown hkp)
          clear hsk hown hkp hwk
          go_wp2
          go_roundw
          case rel => exact ⟨k + 1, true, by omega, by go_num, rfl, Lib.hid ⟨o, HO.out.1, by omega, HO.out.2, fun _ => HK.out, fun h => by omega⟩⟩
          case measure => simp [intOf] <;> omega
        · rw [nstep_plain _ _ h42] at hsk
          have HK := Lib.hid hsk
          clear hsk hwk
          have HO := Lib.hid hkp
          clear hkp
          go_wp2_with (at_builtin; refine wpList_append_own _ rfl _ _ 35 rfl w.heap.size 5 i0 (.int .u8 0) 1 1 Tryd.underlying35 hi hz0 hz1 hz2 rfl (by decide) _ _ _ rfl (World.ownsRow.alloc hown _) ⟨wr.heap.size, 0, none⟩ 1 1 [.int .u8 ((s[k]'hlt).toNat : Int)] rfl rfl ?c11 ?c21 ?c31 ?c41 ?c51 ?_)
          case c11 => exact cell_new _ _ _ (by first | rfl | (rw [h63]; rfl))
          case c21 => exact one_cell _
          case c31 => unfold maxLen; omega
          case c41 => have := hol; simp [bv]; omega
          case c51 => have := hz; simp; omega
          intro v2 w3 hown1 hgrow1 _
          have HO2 := Lib.hid (And.intro (Owns.more (c := (s[k]'hlt)) (by first | exact hown1 | (rw [h63]; exact hown1))) (show Keeps w w3 from ((HO.out).alloc _).grown hgrow1 (by have := hz; simp; omega) (fun k hk => (World.ownsRow.lt hown k hk).1)))
          clear hown1 hgrow1
          go_wp2
          go_roundw
          case rel => exact ⟨k + 1, false, by omega, by go_num, rfl, Lib.hid ⟨o ++ [s[k]'hlt], HO2.out.1, by simp; omega, HO2.out.2, fun _ => HK.out, fun h => by omega⟩⟩
          case measure => simp [intOf] <;> omega
      · by_cases h42 : (s[k]'hlt).toNat = 42
        · rw [nstep_star _ _ _ h42] at hsk
          have HK := Lib.hid hsk
          have HO := Lib.hid (And.intro hown hkp)
          have cW1 : Hid (∀ w1 : World, Calls Tryd.prog 31 #[.int .u8 42] w1 (fun e w' => e = .returned (.bool true) ∧ w' = w1)) := Lib.hid (fun w1 => by have := cW.out 42 w1; exact this)
          clear hsk hown hkp hwk
          go_wp2_with fail
          refine (cW1.out _).mono ?_
          rintro e w2 ⟨rfl, rfl⟩
          go_wp2
          go_roundw
          case rel => exact ⟨k + 1, true, by omega, by go_num, rfl, Lib.hid ⟨o, HO.out.1, by omega, HO.out.2, fun _ => HK.out, fun h => by omega⟩⟩
          case measure => simp [intOf] <;> omega
        · by_cases h63 : (s[k]'hlt).toNat = 63
          · rw [nstep_q _ _ _ h63] at hsk
            have HK := Lib.hid hsk
            have HO := Lib.hid hkp
            have cW1 : Hid (∀ w1 : World, Calls Tryd.prog 31 #[.int .u8 63] w1 (fun e w' => e = .returned (.bool true) ∧ w' = w1)) := Lib.hid (fun w1 => by have := cW.out 63 w1; exact this)
            clear hsk hwk hkp
            go_wp2_with fail
            refine (cW1.out _).mono ?_
            rintro e w2 ⟨rfl, rfl⟩
            go_wp2_with (at_builtin; refine wpList_append_own _ rfl _ _ 35 rfl w.heap.size 5 i0 (.int .u8 0) 1 1 Tryd.underlying35 hi hz0 hz1 hz2 rfl (by decide) _ _ _ rfl (World.ownsRow.alloc hown _) ⟨w2.heap.size, 0, none⟩ 1 1 [.int .u8 ((s[k]'hlt).toNat : Int)] rfl rfl ?c12 ?c22 ?c32 ?c42 ?c52 ?_)
            case c12 => exact cell_new _ _ _ (by first | rfl | (rw [h63]; rfl))
            case c22 => exact one_cell _
            case c32 => unfold maxLen; omega
            case c42 => have := hol; simp [bv]; omega
            case c52 => have := hz; simp; omega
            intro v2 w3 hown2 hgrow2 _
            have HO2 := Lib.hid (And.intro (Owns.more (c := (s[k]'hlt)) (by first | exact hown2 | (rw [h63]; exact hown2))) (show Keeps w w3 from ((HO.out).alloc _).grown hgrow2 (by have := hz; simp; omega) (fun k hk => (World.ownsRow.lt hown k hk).1)))
            clear hown2 hgrow2
            go_wp2
            go_roundw
            case rel => exact ⟨k + 1, true, by omega, by go_num, rfl, Lib.hid ⟨o ++ [s[k]'hlt], HO2.out.1, by simp; omega, HO2.out.2, fun _ => HK.out, fun h => by omega⟩⟩
            case measure => simp [intOf] <;> omega
          · rw [nstep_flush _ _ h42 h63] at hsk
            have HK := Lib.hid hsk
            have HO := Lib.hid hkp
            have hol2 : o.length + 1 ≤ k := by simpa [wt] using hwk
            have cW1 : Hid (∀ w1 : World, Calls Tryd.prog 31 #[.int .u8 (s[k]'hlt).toNat] w1 (fun e w' => e = .returned (.bool false) ∧ w' = w1)) := Lib.hid (fun w1 => by have := cW.out (s[k]'hlt) w1; rwa [show wildB (s[k]'hlt) = false from by simp [wildB, h42, h63]] at this)
            clear hsk hwk hkp
            go_wp2_with fail
            refine (cW1.out _).mono ?_
            rintro e w2 ⟨rfl, rfl⟩
            go_wp2_with (at_builtin; refine wpList_append_own _ rfl _ _ 35 rfl w.heap.size 5 i0 (.int .u8 0) 1 1 Tryd.underlying35 hi hz0 hz1 hz2 rfl (by decide) _ _ _ rfl (World.ownsRow.alloc hown _) ⟨w2.heap.size, 0, none⟩ 1 1 [.int .u8 ((42 : UInt8).toNat : Int)] rfl rfl ?c13 ?c23 ?c33 ?c43 ?c53 ?_)
            case c13 => exact cell_new _ _ _ (by first | rfl | (rw [h63]; rfl))
            case c23 => exact one_cell _
            case c33 => unfold maxLen; omega
            case c43 => have := hol; simp [bv]; omega
            case c53 => have := hz; simp; omega
            intro v2 w3 hown3 hgrow3 _
            have HO2 := Lib.hid (And.intro (Owns.more (c := (42 : UInt8)) (by first | exact hown3 | (rw [h63]; exact hown3))) (show Keeps w w3 from ((HO.out).alloc _).grown hgrow3 (by have := hz; simp; omega) (fun k hk => (World.ownsRow.lt hown k hk).1)))
            clear hown3 hgrow3
            clear hown
            have hown := HO2.out.1
            have hz := HO2.out.2.size
            have hol3 : (o ++ [42]).length ≤ k := by simp; omega
            have HO4 := HO2
            generalize o ++ [42] = o2 at *
            go_wp2_with (at_builtin; refine wpList_append_own _ rfl _ _ 35 rfl w.heap.size 5 i0 (.int .u8 0) 1 1 Tryd.underlying35 hi hz0 hz1 hz2 rfl (by decide) _ _ _ rfl (World.ownsRow.alloc hown _) ⟨w3.heap.size, 0, none⟩ 1 1 [.int .u8 ((s[k]'hlt).toNat : Int)] rfl rfl ?c15 ?c25 ?c35 ?c45 ?c55 ?_)
            case c15 => exact cell_new _ _ _ (by first | rfl | (rw [h63]; rfl))
            case c25 => exact one_cell _
            case c35 => unfold maxLen; omega
            case c45 => have := hol; simp [bv]; omega
            case c55 => have := hz; simp; omega
            intro v4 w4 hown5 hgrow5 _
            have HO3 := Lib.hid (And.intro (Owns.more (c := (s[k]'hlt)) (by first | exact hown5 | (rw [h63]; exact hown5))) (show Keeps w w4 from ((HO4.out.2).alloc _).grown hgrow5 (by have := hz; simp; omega) (fun k hk => (World.ownsRow.lt hown k hk).1)))
            clear hown5 hgrow5
            go_wp2
            go_roundw
            case rel => exact ⟨k + 1, false, by omega, by go_num, rfl, Lib.hid ⟨o2 ++ [s[k]'hlt], HO3.out.1, by simp; omega, HO3.out.2, fun _ => HK.out, fun h => by omega⟩⟩
            case measure => simp [intOf] <;> omega
    · by_cases hle : k = s.size
      · subst hle
        have hto' := hto (Nat.le_refl _)
        have hwk := HW.out s.size (Nat.le_refl _)
        rw [hto'] at hwk
        have hn := HN.out
        rw [hto'] at hn
        clear hto hend hto'
        cases st
        · have HNN : Hid (normL l = o) := Lib.hid (by rw [hn]; simp [nfin])
          clear hn hwk
          have HO := Lib.hid (And.intro hown hkp)
          clear hown hkp
          go_wp2
          go_roundw
          case rel => exact ⟨s.size + 1, false, by omega, by go_num, rfl, Lib.hid ⟨o, HO.out.1, by omega, HO.out.2, fun h => by omega, fun _ => HNN.out.symm⟩⟩
          case measure => simp [intOf] <;> omega
        · have HNN : Hid (normL l = o ++ [42]) := Lib.hid (by rw [hn]; simp [nfin])
          clear hn hwk
          have HO := Lib.hid hkp
          clear hkp
          go_wp2_with (at_builtin; refine wpList_append_own _ rfl _ _ 35 rfl w.heap.size 5 i0 (.int .u8 0) 1 1 Tryd.underlying35 hi hz0 hz1 hz2 rfl (by decide) _ _ _ rfl (World.ownsRow.alloc hown _) ⟨wr.heap.size, 0, none⟩ 1 1 [.int .u8 ((42 : UInt8).toNat : Int)] rfl rfl ?c14 ?c24 ?c34 ?c44 ?c54 ?_)
          case c14 => exact cell_new _ _ _ (by first | rfl | (rw [h63]; rfl))
          case c24 => exact one_cell _
          case c34 => unfold maxLen; omega
          case c44 => have := hol; simp [bv]; omega
          case c54 => have := hz; simp; omega
          intro v2 w3 hown4 hgrow4 _
          have HO2 := Lib.hid (And.intro (Owns.more (c := (42 : UInt8)) (by first | exact hown4 | (rw [h63]; exact hown4))) (show Keeps w w3 from ((HO.out).alloc _).grown hgrow4 (by have := hz; simp; omega) (fun k hk => (World.ownsRow.lt hown k hk).1)))
          clear hown4 hgrow4
          go_wp2
          go_roundw
          case rel => exact ⟨s.size + 1, false, by omega, by go_num, rfl, Lib.hid ⟨o ++ [42], HO2.out.1, by simp; omega, HO2.out.2, fun h => by omega, fun _ => HNN.out.symm⟩⟩
          case measure => simp [intOf] <;> omega
      · obtain rfl := hend (by omega)
        have hcv := conv_owns hown
        have HO := Lib.hid hkp
        clear hkp hto hend hown
        go_wp2
        go_ret
        exact RetS.of rfl HO.out
end Go.Proofs.YtolfpkjohlbfdaaDoor
