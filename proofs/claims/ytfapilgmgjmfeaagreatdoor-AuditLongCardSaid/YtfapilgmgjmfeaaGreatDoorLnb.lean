/-
  Rows of strings, numbers in words, and what a line of a note is.
-/
import Derived.Test.YtfapilgmgjmfeaaGreatDoorWds
import Derived.Test.YtfapilgmgjmfeaaGreatDoorQk
import Derived.Test.YtfapilgmgjmfeaaGreatDoorOwe
import Derived.Laws.AppendOwn
import Derived.OwnWalk
import Derived.Lib.SmallJoins
namespace Go.Proofs.YtfapilgmgjmfeaaGreatDoor
open Go.RowKit

def Tab (w : World) : Prop := Lib.TabIs Tryz.prog w "internal/strconv.uint64pow10" .u64 Lib.pow10Tab
theorem tab_g : Tryz.prog.globalNamed "internal/strconv.uint64pow10" = some 0 := by kernel_rfl
theorem Tab.keeps {w w' : World} (h : Tab w) (k : Keeps w w') : Tab w' := by
  exact Go.Joins.tab_stays tab_g h k (Nat.le_refl _)
theorem grow_keeps (w : World) (k : Nat) (os : Array Obj) : Keeps w (Sort.grow (w.drewN k) os) := by
  have h1 : Keeps w (w.drewN k) := (Keeps.refl w).drewN k
  refine h1.trans ?_
  generalize w.drewN k = v
  exact ⟨rfl, rfl, rfl, by simp [Sort.grow], fun i hi => by
    show (v.heap ++ os)[i]? = _
    rw [Array.getElem?_append_left hi]⟩
theorem wf_i64 {n : Int} (h : (Lit.int .i64 n).wf = true) : -9223372036854775808 ≤ n ∧ n ≤ 9223372036854775807 := by
  simp [Lit.wf, IntKind.min, IntKind.max, IntKind.bits, IntKind.signed] at h
  exact h
theorem itoa_any (n : Int) (hn : (Lit.int .i64 n).wf = true) (w : World) (ht : Tab w) : Calls Tryz.prog 28 #[.int .i64 n] w (Ret (.string (S (Lib.itoa n))) w) := by
  obtain ⟨h0, h1⟩ := wf_i64 hn
  refine (Tryz.strconv_Itoa n h0 h1 w ht).mono ?_
  rintro e w' ⟨rfl, k, os, rfl⟩
  exact ⟨rfl, grow_keeps w k os⟩
theorem fint_any (n : Int) (hn : (Lit.int .i64 n).wf = true) (w : World) (ht : Tab w) : Calls Tryz.prog 30 #[.int .i64 n, .int .i64 10] w (Ret (.string (S (Lib.itoa n))) w) := by
  obtain ⟨h0, h1⟩ := wf_i64 hn
  refine (Tryz.strconv_FormatInt_10 n h0 h1 w ht).mono ?_
  rintro e w' ⟨rfl, k, os, rfl⟩
  exact ⟨rfl, grow_keeps w k os⟩
theorem dec_len (u : Nat) (k : Nat) (h : u < 10 ^ k) (hk : 1 ≤ k) : (Lib.decDigits u).length ≤ k := by
  induction k generalizing u with
  | zero => omega
  | succ k ih =>
    rw [Lib.decDigits]
    split
    · simp
    · rename_i h1
      by_cases hk0 : k = 0
      · subst hk0; simp at h; omega
      · have := ih (u / 10) (by rw [Nat.pow_succ] at h; omega) (by omega)
        rw [List.length_append, List.length_singleton]; omega
theorem itoa_len (n : Int) (hn : (Lit.int .i64 n).wf = true) : (Lib.itoa n).length ≤ 21 := by
  obtain ⟨h0, h1⟩ := wf_i64 hn
  unfold Lib.itoa
  split
  · have := dec_len n.natAbs 20 (by omega) (by omega)
    rw [List.length_cons]; omega
  · have := dec_len n.toNat 20 (by omega) (by omega)
    omega

/-- A slice of strings of the call's own. -/
def StrRow (w : World) (B : Nat) (v : Value) (ss : List (List UInt8)) : Prop := w.ownsRow B 9 1 v ss.length (ss.map fun u => Value.string (S u))
theorem StrRow.keeps {w w' : World} {B : Nat} {v : Value} {ss : List (List UInt8)} (h : StrRow w B v ss) (k : Keeps w w') : StrRow w' B v ss := by
  obtain ⟨h1, h2 | ⟨g, cap, cur, rfl, hB, hb, hc, hm, hs, ht⟩⟩ := h
  · exact ⟨h1, .inl h2⟩
  · exact ⟨h1, .inr ⟨g, cap, cur, rfl, hB, (k.block _ (blk_lt hb)).trans hb, hc, hm, hs, ht⟩⟩
theorem StrRow.one (w : World) {B : Nat} (hB : B ≤ w.heap.size) (u : List UInt8) : StrRow (w.alloc (.cells #[.string (S u)] 9)) B (.slice (some ⟨w.heap.size, 0, none⟩) 1 1) [u] :=
  ⟨rfl, .inr ⟨w.heap.size, 1, #[.string (S u)], rfl, hB, heap_alloc_new w _, Nat.le_refl _, by unfold maxLen; omega, rfl, rfl⟩⟩
theorem info9 : (Tryz.prog.info? 9).map (fun i => (i.zero, i.size, i.bytes)) = some (some (.string ⟨#[]⟩), 1, 16) := by kernel_rfl
/-- What joins a row's strings. -/
theorem join_any {B : Nat} {v : Value} {ss : List (List UInt8)} (w : World) (h : StrRow w B v ss) (hne : ss ≠ []) (hl : ss.length ≤ 100) (hj : (Lib.join ss [32]).length ≤ 1000000) :
    ∃ g c, v = .slice (some ⟨g, 0, none⟩) ss.length c ∧ Calls Tryz.prog 32 #[v, .string ⟨#[32]⟩] w (Ret (.string (S (Lib.join ss [32]))) w) := by
  have h' := h
  obtain ⟨h1, ⟨rfl, h2⟩ | ⟨g, cap, cur, rfl, hB, hb, hc, hm, hs, ht⟩⟩ := h
  · exact absurd (List.eq_nil_of_length_eq_zero h2) hne
  refine ⟨g, cap, rfl, ?_⟩
  have e1 : (ss.map S).map (·.data.toList) = ss := by simp [Function.comp_def, S_data]
  have hj2 : (Lib.join ((ss.map S).map (·.data.toList)) (⟨#[32]⟩ : ByteArray).data.toList).length ≤ 140737488355328 := by
    rw [e1]; exact Nat.le_trans hj (by omega)
  have hc2 := Tryz.strings_Join g 0 cap (ss.map S) ⟨#[32]⟩ w (fun j x hx => by
    have hj : j < ss.length := by
      have := (List.getElem?_eq_some_iff.1 hx).1
      simpa using this
    have hh : StrRow w B (.slice (some ⟨g, 0, none⟩) ss.length cap) ss := h'
    have := World.ownsRow.cellAt hh j (by omega)
    rw [Nat.zero_add, this]
    rw [List.getElem?_map] at hx ⊢
    cases hq : ss[j]? with
    | none => rw [hq] at hx; cases hx
    | some u => rw [hq] at hx; cases hx; rfl) (blk_lt hb) (by simp; omega) (by simpa using hc) hj2
  rw [e1, List.length_map] at hc2
  exact hc2.mono fun e w' ⟨he, hk⟩ => ⟨he, hk⟩
/-- The parts of a line. -/
def partsL (n : Nt) : List (List UInt8) :=
  if n.kind = 1 then [nwL n.kind, Lib.itoa n.code]
  else if n.kind = 2 then [nwL n.kind, Lib.itoa n.code, n.text]
  else if 3 ≤ n.kind ∧ n.kind ≤ 8 then [nwL n.kind, Lib.itoa n.txn, awL n.act.kind, n.act.room, n.act.subj, n.act.reason, n.act.deny]
  else [nwL n.kind]
def lineL (n : Nt) : List UInt8 := Lib.join (partsL n) [32]
end Go.Proofs.YtfapilgmgjmfeaaGreatDoor
