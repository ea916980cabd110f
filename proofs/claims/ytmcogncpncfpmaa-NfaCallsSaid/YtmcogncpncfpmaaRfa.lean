/-
  The contracts of the document's own answers on globs: Check, Wild, Fold, Norm.
-/
import Derived.Test.YtmcogncpncfpmaaInt
namespace Go.Proofs.Ytmcogncpncfpmaa
open Go.RowKit

set_option maxHeartbeats 1000000 in
theorem rcheck_any (s : ByteArray) (w : World) : Calls Try.prog 31 #[.string s] w (RetI (checkI s.data.toList) w) := by
  have hl : s.data.toList.length = s.size := by simp
  unfold checkI
  rw [hl]
  by_cases h1 : s.size = 0
  · have he : s.toList.isEmpty = true := by
      rw [ByteArray.toList_eq, List.isEmpty_iff]; exact List.eq_nil_of_length_eq_zero (by rw [hl]; exact h1)
    rw [if_pos h1]
    go_enter Try.func31, Try.ntmps31
    go_wp2
    go_ret
    exact RetI.of rfl (Keeps.refl _)
  · have he : s.toList.isEmpty = false := by
      rw [ByteArray.toList_eq]
      rw [List.isEmpty_eq_false_iff]; intro e; apply h1; rw [← hl, e]; rfl
    rw [if_neg h1]
    by_cases h2 : 255 < s.size
    · rw [if_pos h2]
      go_enter Try.func31, Try.ntmps31
      go_wp2
      go_ret
      exact RetI.of rfl (Keeps.refl _)
    · rw [if_neg h2]
      go_enter Try.func31, Try.ntmps31
      go_wp2
      go_ret
      exact RetI.of rfl (Keeps.refl _)

def wildB (c : UInt8) : Bool := decide (c.toNat = 42) || decide (c.toNat = 63)
set_option maxHeartbeats 1000000 in
theorem wild_any (c : UInt8) (w : World) : Calls Try.prog 40 #[.int .u8 c.toNat] w (fun e w' => e = .returned (.bool (wildB c)) ∧ w' = w) := by
  have hc := c.toNat_lt
  unfold wildB
  by_cases h1 : c.toNat = 42
  · rw [h1]
    go_enter Try.func40, Try.ntmps40
    go_wp2
    go_ret
    exact ⟨rfl, rfl⟩
  · by_cases h2 : c.toNat = 63
    · rw [h2]
      go_enter Try.func40, Try.ntmps40
      go_wp2
      go_ret
      exact ⟨rfl, rfl⟩
    · have e1 : decide (c.toNat = 42) = false := decide_eq_false h1
      have e2 : decide (c.toNat = 63) = false := decide_eq_false h2
      rw [e1, e2]
      clear e1 e2
      go_enter Try.func40, Try.ntmps40
      go_wp2
      go_ret
      exact ⟨by simp; omega, rfl⟩

set_option maxHeartbeats 1000000 in
theorem rfold_any (s : ByteArray) (w : World) (hs : s.size ≤ maxLen) : Calls Try.prog 41 #[.string s] w (RetS (lowL s.data.toList) w) := by
  have hl : s.data.toList.length = s.size := by simp
  unfold maxLen at hs
  obtain ⟨W1, cap, hconv, hrow, hk1⟩ := conv_to s w
  have HR : LowRel w w.heap.size s.data.toList 0 W1 := ⟨by simpa [lowTo] using hrow, hk1⟩
  clear hrow hk1
  generalize s.data.toList = l at HR hl ⊢
  have HL := Lib.hid hl
  clear hl
  generalize hB : w.heap.size = B at HR hconv
  have HB := Lib.hid hB
  clear hB
  go_enter Try.func41, Try.ntmps41
  go_wp2
  go_loopw [4] (fun i wr => ∃ k : Nat, k ≤ s.size ∧ i = .int .i64 k ∧ LowRel w B l k wr) (fun i _ => s.size - (intOf i).toNat)
  case atStart => exact ⟨0, Nat.zero_le _, rfl, HR⟩
  case round =>
    obtain ⟨k, hk, rfl, hrow, hkp⟩ := hrel
    by_cases hlt : k < s.size
    · have hc := (hrow k (by rw [lowTo_len, HL.out]; exact hlt)).1
      have hf := (hrow k (by rw [lowTo_len, HL.out]; exact hlt)).2
      rw [lowTo_at] at hc
      have HW := Lib.hid hrow
      clear hrow
      have hb := (l.getD k 0).toNat_lt
      have hst := Lib.hid (lowTo_stay l k (by rw [HL.out]; exact hlt))
      have hsu := Lib.hid (lowTo_succ l k (by rw [HL.out]; exact hlt))
      have hlo := Lib.hid (low_nat (l.getD k 0))
      generalize hcv : l.getD k 0 = c at hc hb hst hsu hlo
      clear hcv
      have g : c.toNat < 65 ∨ (65 ≤ c.toNat ∧ c.toNat ≤ 90) ∨ 90 < c.toNat := by omega
      rcases g with g | ⟨g, g'⟩ | g
      · go_wp2
        go_roundw
        case rel => exact ⟨k + 1, by omega, by go_num, by rw [LowRel, hst.out (by omega)]; exact ⟨HW.out, hkp⟩⟩
        case measure => simp [intOf]; omega
      · go_wp2
        go_roundw
        case rel =>
          refine ⟨k + 1, by omega, by go_num, ?_⟩
          rw [LowRel, hsu.out]
          exact ⟨HW.out.set (by rw [lowTo_len, HL.out]; exact hlt) (by rw [hlo.out g g']), hkp.setCell (by rw [HB.out]; exact Nat.le_refl _) _⟩
        case measure => simp [intOf]; omega
      · go_wp2
        go_roundw
        case rel => exact ⟨k + 1, by omega, by go_num, by rw [LowRel, hst.out (by omega)]; exact ⟨HW.out, hkp⟩⟩
        case measure => simp [intOf]; omega
    · have hb := conv_back wr B cap s.size (lowTo l k) (by rw [lowTo_len, HL.out]) hrow
      rw [lowTo_end l k (by rw [HL.out]; omega)] at hb
      clear hrow
      go_wp2
      go_ret
      exact RetS.of rfl hkp

theorem conv_own (B : Nat) (w : World) (v : Value) (o : List UInt8) (h : w.ownsRow B 5 1 v o.length (Lib.byteCells o)) : (convert 58 9 v).run Try.prog w = .ok (.string (S o)) w := by
  rcases h.2 with ⟨rfl, h0⟩ | ⟨g, cap, cur, rfl, hb, hg, hle, hm, hs, ht⟩
  · have e : o = [] := List.eq_nil_of_length_eq_zero h0
    subst e
    rw [run_convert_bytes_string w 58 9 5 none 0 0 Try.underlying58 Try.underlying5 Try.underlying9]
    rfl
  · refine run_convert_bytes_back (P := Try.prog) w 58 9 5 ⟨g, 0, none⟩ cap o Try.underlying58 Try.underlying5 Try.underlying9 ?_
    intro j hj
    refine h.cells (g := g) rfl j _ ?_
    simp [Lib.byteCells, hj]

theorem app_byte (B : Nat) (w : World) (v : Value) (o : List UInt8) (c : UInt8) (z : Int) (hz : z = c.toNat) (h : w.ownsRow B 5 1 v o.length (Lib.byteCells o)) (hl : o.length ≤ 100000) (hB : B ≤ w.heap.size) :
    ∃ v' w', (Builtin.append_ #[58, 58] 58 #[v, .slice (some ⟨w.heap.size, 0, none⟩) 1 1]).run Try.prog (w.alloc (.cells #[.int .u8 z] 5)) = .ok v' w' ∧ w'.ownsRow B 5 1 v' (o ++ [c]).length (Lib.byteCells (o ++ [c])) ∧ Below B w w' := by
  subst hz
  obtain ⟨i0, hi, hz0, hz1, hz2⟩ := info_parts infoByte
  have ho := h.alloc (.cells #[.int .u8 c.toNat] 5)
  obtain ⟨v', w', h1, h2, h3, _⟩ := run_append_own (P := Try.prog) (w.alloc (.cells #[.int .u8 c.toNat] 5)) B 58 58 5 i0 (.int .u8 0) 1 1 Try.underlying58 hi hz0 hz1 hz2 rfl (by decide) v o.length (Lib.byteCells o) ho ⟨w.heap.size, 0, none⟩ 1 1 [.int .u8 c.toNat] rfl (by
      intro j u hj
      match j, hj with
      | 0, hj => simp at hj; subst hj; simp [Addr.add]) (by intro u hu; simp at hu; subst hu; rfl) (by unfold maxLen; omega) (by omega) (by simp; omega)
  refine ⟨v', w', h1, ?_, ((Below.refl B w).alloc hB _).grown h3 (by simp; omega) (fun k e => (h.lt k e).1)⟩
  rw [List.length_append, ← byteCells_app]
  exact h2

/-- The state of the document's Norm ahead of round k. -/
def rnTo (l : List UInt8) (k : Nat) : List UInt8 × Bool := if k ≤ l.length then normTo l k else (nfin (normTo l l.length), false)
theorem rnTo_zero (l : List UInt8) : rnTo l 0 = ([], false) := by unfold rnTo; rw [if_pos (Nat.zero_le _), normTo_zero]
theorem rnTo_succ (l : List UInt8) (k : Nat) (h : k < l.length) : rnTo l (k + 1) = nstep (rnTo l k) (l.getD k 0) := by
  unfold rnTo; rw [if_pos (by omega), if_pos (by omega), normTo_succ l k h]
theorem rnTo_last (l : List UInt8) : rnTo l (l.length + 1) = (nfin (rnTo l l.length), false) := by
  unfold rnTo; rw [if_neg (by omega), if_pos (Nat.le_refl _)]
theorem rnTo_len (l : List UInt8) (k : Nat) : (rnTo l k).1.length ≤ l.length := by
  unfold rnTo
  split
  · rename_i h
    have := normTo_wt l k h
    unfold wt at this
    omega
  · dsimp only
    rw [nfin_len]; exact normTo_wt l _ (Nat.le_refl _)

set_option maxHeartbeats 2000000 in
theorem rnorm_any (s : ByteArray) (w : World) (hs : s.size ≤ 90000) : Calls Try.prog 32 #[.string s] w (RetS (normL s.data.toList) w) := by
  have hl : s.data.toList.length = s.size := by simp
  have HA := Lib.hid (fun k (hk : k < s.size) => getD_at s k hk)
  have hgoal : normL s.data.toList = (rnTo s.data.toList (s.size + 1)).1 := by unfold normL; rw [← hl, rnTo_last]; unfold rnTo; rw [if_pos (Nat.le_refl _)]
  rw [hgoal]
  have HSU := Lib.hid (fun k (hk : k < s.size) => rnTo_succ s.data.toList k (by rw [hl]; exact hk))
  have HLA : Hid (rnTo s.data.toList (s.size + 1) = (nfin (rnTo s.data.toList s.size), false)) := Lib.hid (by rw [← hl]; exact rnTo_last _)
  have HLN := Lib.hid (fun k => rnTo_len s.data.toList k)
  have h0 := Lib.hid (rnTo_zero s.data.toList)
  rw [hl] at HLN
  generalize s.data.toList = l at *
  clear hgoal hl
  have cW := Lib.hid (fun c w1 => wild_any c w1)
  go_enter Try.func32, Try.ntmps32
  go_wp2
  go_loopw [3, 4, 5] (fun v st i wr => ∃ k : Nat, k ≤ s.size + 1 ∧ i = .int .i64 k ∧ st = .bool (rnTo l k).2 ∧ wr.ownsRow w.heap.size 5 1 v (rnTo l k).1.length (Lib.byteCells (rnTo l k).1) ∧ Keeps w wr) (fun _ _ i _ => s.size + 1 - (intOf i).toNat)
  case atStart => exact ⟨0, Nat.zero_le _, rfl, by rw [h0.out], by rw [h0.out]; exact World.ownsRow_nil _ _ _ _, Keeps.refl _⟩
  case round =>
    obtain ⟨k, hk, rfl, rfl, ho, hkp⟩ := hrel
    have hz := hkp.size
    have hln := HLN.out k
    by_cases hlt : k < s.size
    · have hsk := HSU.out k hlt
      rw [HA.out k hlt] at hsk
      generalize rnTo l k = st at ho hln hsk ⊢
      obtain ⟨o, b⟩ := st
      dsimp only at ho hln
      have HSK := Lib.hid hsk
      clear hsk
      by_cases h1 : s[k].toNat = 42
      · have HO := Lib.hid ho
        clear ho
        cases b
        · go_wp2
          go_roundw
          case rel => exact ⟨k + 1, by omega, by go_num, by rw [HSK.out, nstep_star _ _ _ h1], by rw [HSK.out, nstep_star _ _ _ h1]; exact HO.out, hkp⟩
          case measure => simp [intOf]; omega
        · have cw : Hid (Calls Try.prog 40 #[.int .u8 42] wr (fun e w' => e = .returned (.bool true) ∧ w' = wr)) := Lib.hid (cW.out 42 wr)
          go_wp2_with fail
          refine cw.out.mono ?_
          rintro e w2 ⟨rfl, rfl⟩
          go_wp2
          go_roundw
          case rel => exact ⟨k + 1, by omega, by go_num, by rw [HSK.out, nstep_star _ _ _ h1], by rw [HSK.out, nstep_star _ _ _ h1]; exact HO.out, hkp⟩
          case measure => simp [intOf]; omega
      · by_cases h2 : s[k].toNat = 63
        · cases b
          · skip
            obtain ⟨v2, w2, hrun, ho2, hb2⟩ := app_byte w.heap.size wr _ o s[k] 63 (by omega) ho (by omega) hz
            have HO2 := Lib.hid ho2
            have hk2 : Keeps w w2 := Below.trans hkp hb2
            clear ho ho2
            go_wp2_with (at_builtin; refine wpList_app rfl _ _ 58 rfl _ _ _ rfl rfl hrun ?_)
            clear hrun
            go_wp2
            go_roundw
            case rel => exact ⟨k + 1, by omega, by go_num, by rw [HSK.out, nstep_q _ _ _ h2], by rw [HSK.out, nstep_q _ _ _ h2]; exact HO2.out, hk2⟩
            case measure => simp [intOf]; omega
          · have cw : Hid (Calls Try.prog 40 #[.int .u8 63] wr (fun e w' => e = .returned (.bool true) ∧ w' = wr)) := Lib.hid (cW.out 63 wr)
            obtain ⟨v2, w2, hrun, ho2, hb2⟩ := app_byte w.heap.size wr _ o s[k] 63 (by omega) ho (by omega) hz
            have HO2 := Lib.hid ho2
            have hk2 : Keeps w w2 := Below.trans hkp hb2
            clear ho ho2
            go_wp2_with fail
            refine cw.out.mono ?_
            rintro e w3 ⟨rfl, rfl⟩
            go_wp2_with (at_builtin; refine wpList_app rfl _ _ 58 rfl _ _ _ rfl rfl hrun ?_)
            clear hrun
            go_wp2
            go_roundw
            case rel => exact ⟨k + 1, by omega, by go_num, by rw [HSK.out, nstep_q _ _ _ h2], by rw [HSK.out, nstep_q _ _ _ h2]; exact HO2.out, hk2⟩
            case measure => simp [intOf]; omega
        · cases b
          · skip
            obtain ⟨v2, w2, hrun, ho2, hb2⟩ := app_byte w.heap.size wr _ o s[k] s[k].toNat rfl ho (by omega) hz
            have HO2 := Lib.hid ho2
            have hk2 : Keeps w w2 := Below.trans hkp hb2
            clear ho ho2
            go_wp2_with (at_builtin; refine wpList_app rfl _ _ 58 rfl _ _ _ rfl rfl hrun ?_)
            clear hrun
            go_wp2
            go_roundw
            case rel => exact ⟨k + 1, by omega, by go_num, by rw [HSK.out, nstep_plain _ _ h1], by rw [HSK.out, nstep_plain _ _ h1]; exact HO2.out, hk2⟩
            case measure => simp [intOf]; omega
          · have cw : Hid (Calls Try.prog 40 #[.int .u8 s[k].toNat] wr (fun e w' => e = .returned (.bool false) ∧ w' = wr)) := Lib.hid (by
              have h := cW.out s[k] wr
              have e : wildB s[k] = false := by unfold wildB; simp [h1, h2]
              rw [e] at h
              exact h)
            obtain ⟨v1, w1, hrun1, ho1, hb1⟩ := app_byte w.heap.size wr _ o 42 42 rfl ho (by omega) hz
            have hk1 : Keeps w w1 := Below.trans hkp hb1
            obtain ⟨v2, w2, hrun, ho2, hb2⟩ := app_byte w.heap.size w1 v1 (o ++ [42]) s[k] s[k].toNat rfl ho1 (by rw [List.length_append, List.length_singleton]; omega) hk1.size
            have HO2 := Lib.hid ho2
            have hk2 : Keeps w w2 := Below.trans hk1 hb2
            clear ho ho2 ho1
            go_wp2_with fail
            refine cw.out.mono ?_
            rintro e w3 ⟨rfl, rfl⟩
            go_wp2_with (at_builtin; first | refine wpList_app rfl _ _ 58 rfl _ _ _ rfl rfl hrun1 ?_ | refine wpList_app rfl _ _ 58 rfl _ _ _ rfl rfl hrun ?_)
            clear hrun hrun1
            go_wp2
            go_roundw
            case rel => exact ⟨k + 1, by omega, by go_num, by rw [HSK.out, nstep_flush _ _ h1 h2], by rw [HSK.out, nstep_flush _ _ h1 h2]; exact HO2.out, hk2⟩
            case measure => simp [intOf]; omega
    · by_cases hend : k = s.size
      · subst hend
        generalize hst : rnTo l s.size = st at ho hln HLA ⊢
        have HST := Lib.hid hst
        clear hst
        obtain ⟨o, b⟩ := st
        dsimp only at ho hln
        cases b
        · have HO := Lib.hid ho
          clear ho
          go_wp2
          go_roundw
          case rel => exact ⟨s.size + 1, by omega, by go_num, by rw [HLA.out], by rw [HLA.out]; exact HO.out, hkp⟩
          case measure => simp [intOf]
        · obtain ⟨v2, w2, hrun, ho2, hb2⟩ := app_byte w.heap.size wr _ o 42 42 rfl ho (by omega) hz
          have HO2 := Lib.hid ho2
          have hk2 : Keeps w w2 := Below.trans hkp hb2
          clear ho ho2
          go_wp2_with (at_builtin; refine wpList_app rfl _ _ 58 rfl _ _ _ rfl rfl hrun ?_)
          clear hrun
          go_wp2
          go_roundw
          case rel => exact ⟨s.size + 1, by omega, by go_num, by rw [HLA.out], by rw [HLA.out]; exact HO2.out, hk2⟩
          case measure => simp [intOf]
      · obtain rfl : k = s.size + 1 := by omega
        generalize hst : rnTo l (s.size + 1) = st at ho hln HLA ⊢
        have HST := Lib.hid hst
        clear hst
        obtain ⟨o, b⟩ := st
        dsimp only at ho hln
        have hconv := conv_own w.heap.size wr _ o ho
        clear ho
        go_wp2
        go_ret
        exact RetS.of (by rw [HST.out]) hkp
end Go.Proofs.Ytmcogncpncfpmaa
