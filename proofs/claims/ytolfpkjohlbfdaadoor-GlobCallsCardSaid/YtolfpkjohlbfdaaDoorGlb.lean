/-
  The contracts of Check, Norm and Fold of package glob.
-/
import Derived.Test.YtolfpkjohlbfdaaDoorPur
import Derived.Test.YtolfpkjohlbfdaaDoorBld
import Derived.Lib.ConvBytes
import Derived.Laws.IdiomStrings
namespace Go.Proofs.YtolfpkjohlbfdaaDoor
open Go.RowKit

/-- A call that answers v and leaves all that was there as it was: a whole number. -/
def RetI (k : Int) (w : World) (e : Ending) (w' : World) : Prop := e = .returned (.int .i64 k) ∧ Keeps w w'
def RetS (l : List UInt8) (w : World) (e : Ending) (w' : World) : Prop := e = .returned (.string (S l)) ∧ Keeps w w'
theorem RetI.of {k k' : Int} {w w' : World} (h : k' = k) (q : Keeps w w') : RetI k w (.returned (.int .i64 k')) w' := ⟨by rw [h], q⟩
theorem RetS.of {l : List UInt8} {s : ByteArray} {w w' : World} (h : s = S l) (q : Keeps w w') : RetS l w (.returned (.string s)) w' := ⟨by rw [h], q⟩

set_option maxHeartbeats 1000000 in
theorem check_any (s : ByteArray) (w : World) : Calls Tryd.prog 12 #[.string s] w (RetI (checkI s.data.toList) w) := by
  have hl : s.data.toList.length = s.size := by simp
  unfold checkI
  rw [hl]
  by_cases h1 : s.size = 0
  · have he : s.toList.isEmpty = true := by
      rw [ByteArray.toList_eq, List.isEmpty_iff]; exact List.eq_nil_of_length_eq_zero (by rw [hl]; exact h1)
    rw [if_pos h1]
    go_enter Tryd.func12, Tryd.ntmps12
    go_wp2
    go_ret
    exact RetI.of rfl (Keeps.refl _)
  · have he : s.toList.isEmpty = false := by
      rw [ByteArray.toList_eq]
      rw [List.isEmpty_eq_false_iff]; intro e; apply h1; rw [← hl, e]; rfl
    rw [if_neg h1]
    by_cases h2 : 255 < s.size
    · rw [if_pos h2]
      go_enter Tryd.func12, Tryd.ntmps12
      go_wp2
      go_ret
      exact RetI.of rfl (Keeps.refl _)
    · rw [if_neg h2]
      go_enter Tryd.func12, Tryd.ntmps12
      go_wp2
      go_ret
      exact RetI.of rfl (Keeps.refl _)

theorem nstep_star (o : List UInt8) (b : Bool) (c : UInt8) (h : c.toNat = 42) : nstep (o, b) c = (o, true) := by simp [nstep, h]
theorem nstep_q (o : List UInt8) (b : Bool) (c : UInt8) (h : c.toNat = 63) : nstep (o, b) c = (o ++ [c], b) := by simp [nstep, h]
theorem nstep_plain (o : List UInt8) (c : UInt8) (h : ¬ c.toNat = 42) : nstep (o, false) c = (o ++ [c], false) := by simp [nstep, h]
theorem nstep_flush (o : List UInt8) (c : UInt8) (h : ¬ c.toNat = 42) (h' : ¬ c.toNat = 63) : nstep (o, true) c = ((o ++ [42]) ++ [c], false) := by simp [nstep, h, h']

/-- What holds in the loop of Norm. -/
def NormRel (w : World) (l : List UInt8) (k : Nat) (wr : World) : Prop := Lib.IsBuilder 37 5 w.heap.size w.heap.size (Lib.byteCells (normTo l k).1) wr ∧ Keeps w wr

theorem byteCells_len (l : List UInt8) : (Lib.byteCells l).length = l.length := by simp [Lib.byteCells]
theorem byteCells_app (l : List UInt8) (c : UInt8) : Lib.byteCells l ++ [.int .u8 (c.toNat : Int)] = Lib.byteCells (l ++ [c]) := by simp [Lib.byteCells]


set_option maxHeartbeats 2000000 in
theorem norm_any (s : ByteArray) (w : World) (hs : s.size ≤ 100000) : Calls Tryd.prog 10 #[.string s] w (RetS (normL s.data.toList) w) := by
  have hl : s.data.toList.length = s.size := by simp
  have HA := Lib.hid (fun k (hk : k < s.size) => getD_at s k hk)
  unfold normL
  rw [hl]
  have HSU := Lib.hid (fun k (hk : k < s.size) => normTo_succ s.data.toList k (by rw [hl]; exact hk))
  have HW := Lib.hid (fun k (hk : k ≤ s.size) => normTo_wt s.data.toList k (by rw [hl]; exact hk))
  have HH : Hid (NormRel w s.data.toList 0 (w.alloc (.cells #[.pointer none, .slice none 0 0] 37))) := by
    refine Lib.hid ⟨?_, (Keeps.refl _).alloc _⟩
    rw [normTo_zero]
    exact Lib.fresh_isBuilder 37 5 w
  have h00 : (normTo s.data.toList 0).2 = false := by rw [normTo_zero]
  generalize s.data.toList = l at *
  clear hl
  have cW := Lib.hid (fun (bs : List Value) (c : Int) (w1 : World) => wb_any w.heap.size w.heap.size bs c w1)
  have cS := Lib.hid (fun (r : List UInt8) (w1 : World) => Tryd.Builder_String_any w.heap.size w.heap.size r w1)
  go_enter Tryd.func10, Tryd.ntmps10
  go_wp2
  go_loopw [8, 4] (fun i st wr => ∃ k : Nat, k ≤ s.size ∧ i = .int .i64 k ∧ st = .bool (normTo l k).2 ∧ NormRel w l k wr) (fun i _ _ => s.size - (intOf i).toNat)
  case atStart => exact ⟨0, Nat.zero_le _, rfl, by rw [h00], HH.out⟩
  case round =>
    obtain ⟨k, hk, rfl, rfl, hI, hkp⟩ := hrel
    have hwk := HW.out k hk
    have hz := hkp.size
    by_cases hlt : k < s.size
    · have hsk := HSU.out k hlt
      rw [HA.out k hlt] at hsk
      generalize normTo l k = st at hI hwk hsk ⊢
      obtain ⟨o, b⟩ := st
      have hol : (Lib.byteCells o).length ≤ k := by rw [byteCells_len]; simp [wt] at hwk; omega
      have HSK := Lib.hid hsk
      clear hsk
      by_cases h1 : s[k].toNat = 42
      · go_wp2
        go_roundw
        case rel => exact ⟨k + 1, by omega, by go_num, by rw [HSK.out, nstep_star _ _ _ h1], by rw [NormRel, HSK.out, nstep_star _ _ _ h1]; exact ⟨hI, hkp⟩⟩
        case measure => simp [intOf]; omega
      · by_cases h2 : s[k].toNat = 63
        · have HI := Lib.hid hI
          clear hI
          go_wp2_with fail
          refine (cW.out (Lib.byteCells o) _ _ HI.out (by omega) hz).mono ?_
          rintro e w2 ⟨rfl, hI2, hb2⟩
          have HI2 := Lib.hid hI2
          have hkp2 : Keeps w w2 := Below.trans hkp hb2
          go_wp2
          go_roundw
          case rel => exact ⟨k + 1, by omega, by go_num, by rw [HSK.out, nstep_q _ _ _ h2], by rw [NormRel, HSK.out, nstep_q _ _ _ h2]; exact ⟨by rw [← byteCells_app, show ((s[k].toNat : Nat) : Int) = 63 by omega]; exact HI2.out, hkp2⟩⟩
          case measure => simp [intOf]; omega
        · cases b
          · have HI := Lib.hid hI
            clear hI
            go_wp2_with fail
            refine (cW.out (Lib.byteCells o) _ _ HI.out (by omega) hz).mono ?_
            rintro e w2 ⟨rfl, hI2, hb2⟩
            have HI2 := Lib.hid hI2
            have hkp2 : Keeps w w2 := Below.trans hkp hb2
            go_wp2
            go_roundw
            case rel => exact ⟨k + 1, by omega, by go_num, by rw [HSK.out, nstep_plain _ _ h1], by rw [NormRel, HSK.out, nstep_plain _ _ h1]; exact ⟨by rw [← byteCells_app]; exact HI2.out, hkp2⟩⟩
            case measure => simp [intOf]; omega
          · have HI := Lib.hid hI
            clear hI
            go_wp2_with fail
            refine (cW.out (Lib.byteCells o) _ _ HI.out (by omega) hz).mono ?_
            rintro e w2 ⟨rfl, hI2, hb2⟩
            have HI2 := Lib.hid hI2
            have hkp2 : Keeps w w2 := Below.trans hkp hb2
            have hz2 := hkp2.size
            clear hI2
            go_wp2_with fail
            refine (cW.out _ _ _ HI2.out (by simp only [List.length_append, List.length_singleton]; omega) hz2).mono ?_
            rintro e w3 ⟨rfl, hI3, hb3⟩
            have HI3 := Lib.hid hI3
            have hkp3 : Keeps w w3 := Below.trans hkp2 hb3
            clear hI3
            go_wp2
            go_roundw
            case rel => exact ⟨k + 1, by omega, by go_num, by rw [HSK.out, nstep_flush _ _ h1 h2], by rw [NormRel, HSK.out, nstep_flush _ _ h1 h2]; exact ⟨by rw [← byteCells_app, ← byteCells_app]; exact HI3.out, hkp3⟩⟩
            case measure => simp [intOf]; omega
    · obtain rfl : k = s.size := by omega
      generalize hst : normTo l s.size = st at hI hwk ⊢
      have HST := Lib.hid hst
      clear hst
      obtain ⟨o, b⟩ := st
      have hol : (Lib.byteCells o).length ≤ s.size := by rw [byteCells_len]; simp [wt] at hwk; omega
      have HI := Lib.hid hI
      clear hI
      cases b
      · go_wp2_with fail
        refine (cS.out o _ HI.out hz).mono ?_
        rintro e w2 ⟨rfl, hb2⟩
        go_wp2
        go_ret
        exact RetS.of (by rw [HST.out]; rfl) (Below.trans hkp hb2)
      · go_wp2_with fail
        refine (cW.out (Lib.byteCells o) _ _ HI.out (by omega) hz).mono ?_
        rintro e w2 ⟨rfl, hI2, hb2⟩
        have HI2 := Lib.hid hI2
        have hkp2 : Keeps w w2 := Below.trans hkp hb2
        have hz2 := hkp2.size
        clear hI2
        go_wp2_with fail
        refine (cS.out (o ++ [42]) _ (by rw [← byteCells_app]; exact HI2.out) hz2).mono ?_
        rintro e w3 ⟨rfl, hb3⟩
        go_wp2
        go_ret
        exact RetS.of (by rw [HST.out]; rfl) (Below.trans hkp2 hb3)
/-- A row of bytes of the call's own. -/
def RowIs (w : World) (B : Nat) (l : List UInt8) : Prop := ∀ j, j < l.length → w.cell? ⟨B, j, none⟩ = some (.int .u8 ((l.getD j 0).toNat : Int)) ∧ w.frozen? ⟨B, j, none⟩ = false

theorem getD_set (l : List UInt8) (k j : Nat) (c : UInt8) (hk : k < l.length) : (l.set k c).getD j 0 = if k = j then c else l.getD j 0 := by
  simp only [List.getD, List.getElem?_set, hk]
  by_cases h : k = j
  · subst h; simp
  · simp [h]

theorem RowIs.set {w : World} {B : Nat} {l : List UInt8} (h : RowIs w B l) {k : Nat} (hk : k < l.length) {v : Int} {c : UInt8} (hv : v = (c.toNat : Int)) : RowIs (w.setCell ⟨B, k, none⟩ (.int .u8 v)) B (l.set k c) := by
  intro j hj
  rw [List.length_set] at hj
  rw [getD_set l k j c hk]
  refine ⟨?_, (World.frozen?_setCell _ _ _ _).trans (h j hj).2⟩
  by_cases e : k = j
  · subst e
    rw [if_pos rfl, World.cell?_setCell_same _ _ _ (h k hk).1, hv]
  · rw [if_neg e, World.cell?_setCell_other _ _ _ _ (by simp [e])]
    exact (h j hj).1

theorem conv_to (s : ByteArray) (w : World) : ∃ W1 cap, (convert 9 35 (.string s)).run Tryd.prog w = .ok (.slice (some ⟨w.heap.size, 0, none⟩) s.size cap) W1 ∧ RowIs W1 w.heap.size s.data.toList ∧ Keeps w W1 := by
  refine ⟨_, _, Lib.run_convert_string_bytes (P := Tryd.prog) w 9 35 5 s Tryd.underlying9 Tryd.underlying35 Tryd.underlying5, ?_, ?_⟩
  · intro j hj
    refine ⟨Lib.bytesWorld_cell w 5 s j (by simpa using hj), ?_⟩
    have hz : s.size ≤ (Lib.bytesCells w 5 s).size := by simp [Lib.bytesCells]
    have hj' : j < s.size := by simpa using hj
    simp [World.frozen?, Lib.bytesWorld_at_new]
    omega
  · refine ⟨rfl, rfl, rfl, by rw [Lib.bytesWorld_size]; omega, fun k hk => Lib.bytesWorld_at_old w 5 s k hk⟩

def lowTo (l : List UInt8) (k : Nat) : List UInt8 := (l.take k).map lowC ++ l.drop k
theorem lowTo_len (l : List UInt8) (k : Nat) : (lowTo l k).length = l.length := by
  unfold lowTo; simp only [List.length_append, List.length_map, List.length_take, List.length_drop]; omega
theorem lowTo_at (l : List UInt8) (k : Nat) : (lowTo l k).getD k 0 = l.getD k 0 := by
  unfold lowTo
  by_cases h : k < l.length
  · rw [List.getD_eq_getElem?_getD, List.getD_eq_getElem?_getD, List.getElem?_append_right (by simp; omega)]
    simp [Nat.min_eq_left (Nat.le_of_lt h)]
  · have e1 : l.take k = l := List.take_of_length_le (by omega)
    have e2 : l.drop k = [] := List.drop_eq_nil_of_le (by omega)
    rw [e1, e2, List.append_nil, List.getD_eq_getElem?_getD, List.getD_eq_getElem?_getD]
    simp [List.getElem?_eq_none (show l.length ≤ k by omega)]
theorem lowTo_succ (l : List UInt8) (k : Nat) (h : k < l.length) : lowTo l (k + 1) = (lowTo l k).set k (lowC (l.getD k 0)) := by
  have e : l.drop k = l.getD k 0 :: l.drop (k + 1) := by
    rw [List.drop_eq_getElem_cons h]; simp [h]
  unfold lowTo
  rw [e, List.take_succ_eq_append_getElem h, List.map_append]
  have hk : ((l.take k).map lowC).length = k := by simp; omega
  rw [List.set_append, if_neg (by omega), hk, Nat.sub_self]
  simp [h]
  rw [List.drop_eq_getElem_cons h]; rfl
theorem lowTo_stay (l : List UInt8) (k : Nat) (h : k < l.length) (hc : ¬ (65 ≤ (l.getD k 0).toNat ∧ (l.getD k 0).toNat ≤ 90)) : lowTo l (k + 1) = lowTo l k := by
  rw [lowTo_succ l k h]
  have e : lowC (l.getD k 0) = (lowTo l k).getD k 0 := by rw [lowTo_at]; unfold lowC; rw [if_neg hc]
  rw [e]
  apply List.ext_getElem?
  intro j
  have hl := lowTo_len l k
  rw [List.getElem?_set]
  by_cases h1 : k = j
  · subst h1
    simp [hl, h, List.getD]
  · simp [h1]
theorem lowTo_end (l : List UInt8) (k : Nat) (h : l.length ≤ k) : lowTo l k = lowL l := by
  unfold lowTo lowL; rw [List.take_of_length_le h, List.drop_eq_nil_of_le h, List.append_nil]
theorem conv_back (w : World) (B cap n : Nat) (l : List UInt8) (hn : n = l.length) (h : RowIs w B l) : (convert 35 9 (.slice (some ⟨B, 0, none⟩) n cap)).run Tryd.prog w = .ok (.string (S l)) w := by
  subst hn
  refine run_convert_bytes_back (P := Tryd.prog) w 35 9 5 ⟨B, 0, none⟩ cap l Tryd.underlying35 Tryd.underlying5 Tryd.underlying9 ?_
  intro j hj
  have := (h j hj).1
  have ea : (⟨B, 0, none⟩ : Addr).add j = ⟨B, j, none⟩ := by
    unfold Addr.add; split <;> simp_all
  rw [ea, this]
  simp [hj]

/-- What holds in the loop of Lower. -/
def LowRel (w : World) (B : Nat) (l : List UInt8) (k : Nat) (wr : World) : Prop := RowIs wr B (lowTo l k) ∧ Keeps w wr


set_option maxHeartbeats 1000000 in
theorem fold_any (s : ByteArray) (w : World) (hs : s.size ≤ maxLen) : Calls Tryd.prog 14 #[.string s] w (RetS (lowL s.data.toList) w) := by
  have hl : s.data.toList.length = s.size := by simp
  unfold maxLen at hs
  obtain ⟨W1, cap, hconv, hrow, hk1⟩ := conv_to s w
  have HR : LowRel w w.heap.size s.data.toList 0 W1 := ⟨by simpa [lowTo] using hrow, hk1⟩
  clear hrow hk1
  generalize s.data.toList = l at HR hl ⊢
  have HL := Lib.hid hl
  clear hl
  generalize hB : w.heap.size = B at HR hconv
  have HB := Lib.hid hB
  clear hB
  have cF := Lib.hid (fun (c : UInt8) (w1 : World) => foldB_any c w1)
  go_enter Tryd.func14, Tryd.ntmps14
  go_wp2
  go_loopw [10] (fun i wr => ∃ k : Nat, k ≤ s.size ∧ i = .int .i64 k ∧ LowRel w B l k wr) (fun i _ => s.size - (intOf i).toNat)
  case atStart => exact ⟨0, Nat.zero_le _, rfl, HR⟩
  case round =>
    obtain ⟨k, hk, rfl, hrow, hkp⟩ := hrel
    by_cases hlt : k < s.size
    · have hc := (hrow k (by rw [lowTo_len, HL.out]; exact hlt)).1
      have hf := (hrow k (by rw [lowTo_len, HL.out]; exact hlt)).2
      rw [lowTo_at] at hc
      have HW := Lib.hid hrow
      clear hrow
      have hsu := Lib.hid (lowTo_succ l k (by rw [HL.out]; exact hlt))
      generalize hcv : l.getD k 0 = c at hc hsu
      clear hcv
      go_wp2_with fail
      refine (cF.out c _).mono ?_
      rintro e w2 ⟨rfl, rfl⟩
      go_wp2
      go_roundw
      case rel =>
        refine ⟨k + 1, by omega, by go_num, ?_⟩
        rw [LowRel, hsu.out]
        exact ⟨HW.out.set (by rw [lowTo_len, HL.out]; exact hlt) rfl, hkp.setCell (by rw [HB.out]; exact Nat.le_refl _) _⟩
      case measure => simp [intOf]; omega
    · have hb := conv_back wr B cap s.size (lowTo l k) (by rw [lowTo_len, HL.out]) hrow
      rw [lowTo_end l k (by rw [HL.out]; omega)] at hb
      clear hrow
      go_wp2
      go_ret
      exact RetS.of rfl hkp
end Go.Proofs.YtolfpkjohlbfdaaDoor
