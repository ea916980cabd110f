/-
  The contract of Lower of package ident, and that of the document's answer: A to Z become a to z.
-/
import Derived.Test.YtjdlpfkcikomfabNam
import Derived.Lib.ConvBytes
import Derived.Laws.IdiomStrings
namespace Go.Proofs.Ytjdlpfkcikomfab
open Go.RowKit

/-- A row of bytes of the call's own. -/
def RowIs (w : World) (B : Nat) (l : List UInt8) : Prop := ∀ j, j < l.length → w.cell? ⟨B, j, none⟩ = some (.int .u8 ((l.getD j 0).toNat : Int)) ∧ w.frozen? ⟨B, j, none⟩ = false

theorem getD_set (l : List UInt8) (k j : Nat) (c : UInt8) (hk : k < l.length) : (l.set k c).getD j 0 = if k = j then c else l.getD j 0 := by
  simp only [List.getD, List.getElem?_set, hk]
  by_cases h : k = j
  · subst h; simp
  · simp [h]

theorem RowIs.set {w : World} {B : Nat} {l : List UInt8} (h : RowIs w B l) {k : Nat} (hk : k < l.length) {v : Int} {c : UInt8} (hv : v = (c.toNat : Int)) : RowIs (w.setCell ⟨B, k, none⟩ (.int .u8 v)) B (l.set k c) := by
  intro j hj
  rw [List.length_set] at hj
  rw [getD_set l k j c hk]
  refine ⟨?_, (World.frozen?_setCell _ _ _ _).trans (h j hj).2⟩
  by_cases e : k = j
  · subst e
    rw [if_pos rfl, World.cell?_setCell_same _ _ _ (h k hk).1, hv]
  · rw [if_neg e, World.cell?_setCell_other _ _ _ _ (by simp [e])]
    exact (h j hj).1

theorem Keeps.setCell {a b : World} (h : Keeps a b) {p : Addr} (hp : a.heap.size ≤ p.block) (u : Value) : Keeps a (b.setCell p u) := Below.setCell h hp u

theorem conv_to (s : ByteArray) (w : World) : ∃ W1 cap, (convert 9 31 (.string s)).run Try.prog w = .ok (.slice (some ⟨w.heap.size, 0, none⟩) s.size cap) W1 ∧ RowIs W1 w.heap.size s.data.toList ∧ Keeps w W1 := by
  refine ⟨_, _, Lib.run_convert_string_bytes (P := Try.prog) w 9 31 5 s Try.underlying9 Try.underlying31 Try.underlying5, ?_, ?_⟩
  · intro j hj
    refine ⟨Lib.bytesWorld_cell w 5 s j (by simpa using hj), ?_⟩
    have hz : s.size ≤ (Lib.bytesCells w 5 s).size := by simp [Lib.bytesCells]
    have hj' : j < s.size := by simpa using hj
    simp [World.frozen?, Lib.bytesWorld_at_new]
    omega
  · refine ⟨rfl, rfl, rfl, by rw [Lib.bytesWorld_size]; omega, fun k hk => Lib.bytesWorld_at_old w 5 s k hk⟩

def lowC (c : UInt8) : UInt8 := if 65 ≤ c.toNat ∧ c.toNat ≤ 90 then c + 32 else c
def lowTo (l : List UInt8) (k : Nat) : List UInt8 := (l.take k).map lowC ++ l.drop k
def lowL (l : List UInt8) : List UInt8 := l.map lowC

theorem lowTo_len (l : List UInt8) (k : Nat) : (lowTo l k).length = l.length := by
  unfold lowTo; simp only [List.length_append, List.length_map, List.length_take, List.length_drop]; omega
theorem lowTo_at (l : List UInt8) (k : Nat) : (lowTo l k).getD k 0 = l.getD k 0 := by
  unfold lowTo
  by_cases h : k < l.length
  · rw [List.getD_eq_getElem?_getD, List.getD_eq_getElem?_getD, List.getElem?_append_right (by simp; omega)]
    simp [Nat.min_eq_left (Nat.le_of_lt h)]
  · have e1 : l.take k = l := List.take_of_length_le (by omega)
    have e2 : l.drop k = [] := List.drop_eq_nil_of_le (by omega)
    rw [e1, e2, List.append_nil, List.getD_eq_getElem?_getD, List.getD_eq_getElem?_getD]
    simp [List.getElem?_eq_none (show l.length ≤ k by omega)]
theorem lowTo_succ (l : List UInt8) (k : Nat) (h : k < l.length) : lowTo l (k + 1) = (lowTo l k).set k (lowC (l.getD k 0)) := by
  have e : l.drop k = l.getD k 0 :: l.drop (k + 1) := by
    rw [List.drop_eq_getElem_cons h]; simp [h]
  unfold lowTo
  rw [e, List.take_succ_eq_append_getElem h, List.map_append]
  have hk : ((l.take k).map lowC).length = k := by simp; omega
  rw [List.set_append, if_neg (by omega), hk, Nat.sub_self]
  simp [h]
  rw [List.drop_eq_getElem_cons h]; rfl
theorem lowTo_stay (l : List UInt8) (k : Nat) (h : k < l.length) (hc : ¬ (65 ≤ (l.getD k 0).toNat ∧ (l.getD k 0).toNat ≤ 90)) : lowTo l (k + 1) = lowTo l k := by
  rw [lowTo_succ l k h]
  have e : lowC (l.getD k 0) = (lowTo l k).getD k 0 := by rw [lowTo_at]; unfold lowC; rw [if_neg hc]
  rw [e]
  apply List.ext_getElem?
  intro j
  have hl := lowTo_len l k
  rw [List.getElem?_set]
  by_cases h1 : k = j
  · subst h1
    simp [hl, h, List.getD]
  · simp [h1]
theorem lowTo_end (l : List UInt8) (k : Nat) (h : l.length ≤ k) : lowTo l k = lowL l := by
  unfold lowTo lowL; rw [List.take_of_length_le h, List.drop_eq_nil_of_le h, List.append_nil]
theorem low_nat (c : UInt8) (h1 : 65 ≤ c.toNat) (h2 : c.toNat ≤ 90) : ((lowC c).toNat : Int) = c.toNat + 32 := by
  unfold lowC; rw [if_pos ⟨h1, h2⟩, UInt8.toNat_add]; simp; omega

/-- A call that answers a text and leaves all that was there as it was. -/
def RetS (l : List UInt8) (w : World) (e : Ending) (w' : World) : Prop := e = .returned (.string (S l)) ∧ Keeps w w'
theorem RetS.of {l : List UInt8} {s : ByteArray} {w w' : World} (h : s = S l) (k : Keeps w w') : RetS l w (.returned (.string s)) w' := ⟨by rw [h], k⟩

theorem conv_back (w : World) (B cap n : Nat) (l : List UInt8) (hn : n = l.length) (h : RowIs w B l) : (convert 31 9 (.slice (some ⟨B, 0, none⟩) n cap)).run Try.prog w = .ok (.string (S l)) w := by
  subst hn
  refine run_convert_bytes_back (P := Try.prog) w 31 9 5 ⟨B, 0, none⟩ cap l Try.underlying31 Try.underlying5 Try.underlying9 ?_
  intro j hj
  have := (h j hj).1
  have ea : (⟨B, 0, none⟩ : Addr).add j = ⟨B, j, none⟩ := by
    unfold Addr.add; split <;> simp_all
  rw [ea, this]
  simp [hj]

/-- What holds in the loop of Lower. -/
def LowRel (w : World) (B : Nat) (l : List UInt8) (k : Nat) (wr : World) : Prop := RowIs wr B (lowTo l k) ∧ Keeps w wr

set_option maxHeartbeats 1000000 in
theorem lower_any (s : ByteArray) (w : World) (hs : s.size ≤ maxLen) : Calls Try.prog 11 #[.string s] w (RetS (lowL s.data.toList) w) := by
  have hl : s.data.toList.length = s.size := by simp
  unfold maxLen at hs
  obtain ⟨W1, cap, hconv, hrow, hk1⟩ := conv_to s w
  have HR : LowRel w w.heap.size s.data.toList 0 W1 := ⟨by simpa [lowTo] using hrow, hk1⟩
  clear hrow hk1
  generalize s.data.toList = l at HR hl ⊢
  have HL := Lib.hid hl
  clear hl
  generalize hB : w.heap.size = B at HR hconv
  have HB := Lib.hid hB
  clear hB
  go_enter Try.func11, Try.ntmps11
  go_wp2
  go_loopw [10] (fun i wr => ∃ k : Nat, k ≤ s.size ∧ i = .int .i64 k ∧ LowRel w B l k wr) (fun i _ => s.size - (intOf i).toNat)
  case atStart => exact ⟨0, Nat.zero_le _, rfl, HR⟩
  case round =>
    obtain ⟨k, hk, rfl, hrow, hkp⟩ := hrel
    by_cases hlt : k < s.size
    · have hc := (hrow k (by rw [lowTo_len, HL.out]; exact hlt)).1
      have hf := (hrow k (by rw [lowTo_len, HL.out]; exact hlt)).2
      rw [lowTo_at] at hc
      have HW := Lib.hid hrow
      clear hrow
      have hb := (l.getD k 0).toNat_lt
      have hst := Lib.hid (lowTo_stay l k (by rw [HL.out]; exact hlt))
      have hsu := Lib.hid (lowTo_succ l k (by rw [HL.out]; exact hlt))
      have hlo := Lib.hid (low_nat (l.getD k 0))
      generalize hcv : l.getD k 0 = c at hc hb hst hsu hlo
      clear hcv
      have g : c.toNat < 65 ∨ (65 ≤ c.toNat ∧ c.toNat ≤ 90) ∨ 90 < c.toNat := by omega
      rcases g with g | ⟨g, g'⟩ | g
      · go_wp2
        go_roundw
        case rel => exact ⟨k + 1, by omega, by go_num, by rw [LowRel, hst.out (by omega)]; exact ⟨HW.out, hkp⟩⟩
        case measure => simp [intOf]; omega
      · go_wp2
        go_roundw
        case rel =>
          refine ⟨k + 1, by omega, by go_num, ?_⟩
          rw [LowRel, hsu.out]
          exact ⟨HW.out.set (by rw [lowTo_len, HL.out]; exact hlt) (by rw [hlo.out g g']; omega), hkp.setCell (by rw [HB.out]; exact Nat.le_refl _) _⟩
        case measure => simp [intOf]; omega
      · go_wp2
        go_roundw
        case rel => exact ⟨k + 1, by omega, by go_num, by rw [LowRel, hst.out (by omega)]; exact ⟨HW.out, hkp⟩⟩
        case measure => simp [intOf]; omega
    · have hb := conv_back wr B cap s.size (lowTo l k) (by rw [lowTo_len, HL.out]) hrow
      rw [lowTo_end l k (by rw [HL.out]; omega)] at hb
      clear hrow
      go_wp2
      go_ret
      exact RetS.of rfl hkp
end Go.Proofs.Ytjdlpfkcikomfab
