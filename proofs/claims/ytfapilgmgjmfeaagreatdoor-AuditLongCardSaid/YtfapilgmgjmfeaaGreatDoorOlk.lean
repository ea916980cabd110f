/-
  Own of notes: a copy, and one more behind it.
-/
import Derived.Test.YtfapilgmgjmfeaaGreatDoorOwe
import Derived.Laws.AppendOwn
namespace Go.Proofs.YtfapilgmgjmfeaaGreatDoor
open Go.RowKit

def flatN (l : List Nt) : List Value := l.flatMap fun n => (ntC n).toList
theorem flatN_len : ∀ l : List Nt, (flatN l).length = l.length * 9
  | [] => rfl
  | n :: r => by
    unfold flatN
    rw [List.flatMap_cons, List.length_append]
    have := flatN_len r
    unfold flatN at this
    rw [this, List.length_cons]
    simp [ntC]; omega
theorem flatN_at : ∀ (l : List Nt) (i j : Nat) (hi : i < l.length) (v : Value), (ntC (l[i]'hi)).toList[j]? = some v → (flatN l)[i * 9 + j]? = some v
  | [], i, j, hi, v, h => by simp at hi
  | n :: r, 0, j, hi, v, h => by
    have hj : j < 9 := by
      have := (List.getElem?_eq_some_iff.1 h).1
      simpa [ntC] using this
    unfold flatN
    rw [List.flatMap_cons, Nat.zero_mul, Nat.zero_add, List.getElem?_append_left (by simpa [ntC] using hj)]
    exact h
  | n :: r, i + 1, j, hi, v, h => by
    have hi' : i < r.length := by simpa using hi
    have := flatN_at r i j hi' v (by simpa using h)
    unfold flatN at this ⊢
    rw [List.flatMap_cons, List.getElem?_append_right (by simp [ntC]; omega), show (i + 1) * 9 + j - (ntC n).toList.length = i * 9 + j by simp [ntC]; omega]
    exact this
theorem flatN_back (l : List Nt) (j : Nat) (v : Value) (h : (flatN l)[j]? = some v) : ∃ (hi : j / 9 < l.length), (ntC (l[j / 9]'hi)).toList[j % 9]? = some v := by
  have hj : j < l.length * 9 := by
    have := (List.getElem?_eq_some_iff.1 h).1
    rwa [flatN_len] at this
  have hi : j / 9 < l.length := by omega
  refine ⟨hi, ?_⟩
  have hl : (ntC (l[j / 9]'hi)).toList.length = 9 := rfl
  have h9 : j % 9 < (ntC (l[j / 9]'hi)).toList.length := by rw [hl]; omega
  have := flatN_at l (j / 9) (j % 9) hi _ (List.getElem?_eq_getElem h9)
  rw [show j / 9 * 9 + j % 9 = j by omega, h] at this
  rw [List.getElem?_eq_getElem h9, ← this]
theorem flatN_one (l : List Nt) : ∀ u ∈ flatN l, u.oneCell' = true := fun u hu => by
  unfold flatN at hu
  obtain ⟨n, _, h⟩ := List.mem_flatMap.1 hu
  simp [ntC] at h
  rcases h with rfl | rfl | rfl | rfl | rfl | rfl | rfl | rfl | rfl <;> rfl
theorem flatN_app (l r : List Nt) : flatN (l ++ r) = flatN l ++ flatN r := List.flatMap_append
/-- A row of notes of the call's own. -/
def NtRow (w : World) (B : Nat) (v : Value) (l : List Nt) : Prop := w.ownsRow B 29 9 v l.length (flatN l)
theorem NtRow.notes {w : World} {B : Nat} {v : Value} {l : List Nt} (h : NtRow w B v l) : ∃ A c, v = .slice A l.length c ∧ NotesAt w A l := by
  obtain ⟨h1, ⟨rfl, h2⟩ | ⟨g, cap, cur, rfl, hB, hb, hc, hm, hs, ht⟩⟩ := h
  · exact ⟨none, 0, by rw [h2], fun k hk => by omega⟩
  · refine ⟨some ⟨g, 0, none⟩, cap, rfl, fun k hk => ⟨g, 0, rfl, fun j v hj => ?_⟩⟩
    have h9 : j < 9 := by
      have := (List.getElem?_eq_some_iff.1 hj).1
      simpa [ntC] using this
    have := flatN_at l k j hk v hj
    rw [← ht, List.getElem?_take, if_pos (by omega)] at this
    rw [Lib.cell_of_heap hb, Nat.zero_add, ← Array.getElem?_toList, this]
theorem notes_news {w : World} {A : Addr} {l : List Nt} (h : NotesAt w (some A) l) (hsp : l = [] ∨ A.spot = none) : ∀ j u, (flatN l)[j]? = some u → w.cell? (A.add j) = some u := fun j u hj => by
  obtain ⟨hi, hv⟩ := flatN_back l j u hj
  obtain ⟨g, o, e, hc⟩ := h _ hi
  injection e with e
  subst e
  have := hc _ _ hv
  have e2 : (⟨g, o, none⟩ : Addr).add j = ⟨g, o + j / 9 * 9 + j % 9, none⟩ := by
    rw [show o + j / 9 * 9 + j % 9 = o + j by omega]
    simp [Addr.add]
  rw [e2]
  exact this
def OwnNRet (l : List Nt) (w : World) (e : Ending) (w' : World) : Prop := ∃ v, e = .returned v ∧ NtRow w' w.heap.size v l ∧ Keeps w w'
theorem row_nil (w : World) : NtRow (w.alloc (.cells #[] 29)) w.heap.size (.slice (some ⟨w.heap.size, 0, none⟩) 0 0) [] :=
  ⟨rfl, .inr ⟨w.heap.size, 0, #[], rfl, Nat.le_refl _, heap_alloc_new w _, Nat.le_refl _, Nat.zero_le _, rfl, rfl⟩⟩
set_option maxRecDepth 100000 in
theorem info31 : ∃ i, Tryz.prog.info? 29 = some i ∧ (∃ z, i.zero = some z ∧ z.cells.size = 9) ∧ i.size = 9 ∧ i.bytes = 112 := by
  refine ⟨_, rfl, ⟨_, rfl, ?_⟩, ?_, ?_⟩ <;> kernel_rfl
/-- append of notes onto a row of the call's own. -/
theorem append_notes {w : World} {B : Nat} {v : Value} {l r : List Nt} {A : Addr} {c : Nat} (h : NtRow w B v l) (hr : NotesAt w (some A) r) (hsp : r = [] ∨ A.spot = none) (hl : l.length + r.length ≤ 1000000) (hB : B ≤ w.heap.size) :
    ∃ v' w', (Builtin.append_ #[22, 22] 22 #[v, .slice (some A) r.length c]).run Tryz.prog w = .ok v' w' ∧ NtRow w' B v' (l ++ r) ∧ w.grownBy w' v.ownBlock := by
  obtain ⟨i, hi, ⟨z, hz, hzs⟩, h1, h2⟩ := info31
  obtain ⟨v', w', e1, e2, e3, e4⟩ := run_append_own (P := Tryz.prog) w B 22 22 29 i z 9 112 Tryz.underlying22 hi hz h1 h2 hzs (by decide) v l.length (flatN l) h A r.length c (flatN r) (flatN_len r) (notes_news hr hsp) (flatN_one r) (by unfold maxLen; omega) (by omega) hB
  refine ⟨v', w', e1, ?_, e3⟩
  unfold NtRow
  rw [flatN_app, List.length_append]
  exact e2
theorem append_none (w : World) : (Builtin.append_ #[22, 22] 22 #[.slice (some ⟨w.heap.size, 0, none⟩) 0 0, .slice none 0 0]).run Tryz.prog (w.alloc (.cells #[] 29)) = .ok (.slice (some ⟨w.heap.size, 0, none⟩) 0 0) (w.alloc (.cells #[] 29)) := by
  kernel_rfl

set_option maxHeartbeats 4000000 in
set_option maxRecDepth 100000 in
theorem clone_any (g o : Nat) (s : Option Nat) (c : Nat) (l : List Nt) (w : World) (hA : NotesAt w (some ⟨g, o, s⟩) l) (hlen : l.length ≤ 1000000) (hs : l = [] ∨ s = none) : Calls Tryz.prog 46 #[.slice (some ⟨g, o, s⟩) l.length c] w (OwnNRet l w) := by
  obtain ⟨i, hi, ⟨z, hz, hzs⟩, hz1, hz2⟩ := info31
  have HN := Lib.hid (notes_news (hA.keeps ((Keeps.refl w).alloc (.cells #[] 29))) hs)
  have HF := Lib.hid (flatN_len l)
  have HL := Lib.hid hlen
  have ho := row_nil w
  unfold NtRow at ho
  have HO := Lib.hid ho
  clear hA hlen ho
  generalize hL : l.length = L at *
  have HLL := Lib.hid hL
  clear hL
  have hq : ∀ wx : World, (binOp .eql 22 (.slice (some ⟨g, o, s⟩) L c) (.slice none 0 0)).run Tryz.prog wx = .ok (.bool false) wx := fun wx => by kernel_rfl
  go_enter Tryz.func46, Tryz.ntmps46
  go_wp2_with (at_builtin; refine wpList_append_own _ rfl (.tmp 5) (.tmp 6) 22 rfl w.heap.size 29 i z 9 112 Tryz.underlying22 hi hz hz1 hz2 hzs (by decide) _ _ _ rfl HO.out ⟨g, o, s⟩ L c (flatN l) rfl HF.out ?a1 ?a2 ?a3 ?a4 ?a5 ?_)
  case a1 => exact HN.out
  case a2 => exact flatN_one l
  case a3 => have := HL.out; simp only [maxLen, List.length_nil]; omega
  case a4 => have := HL.out; simp only [List.length_nil]; omega
  case a5 => simp
  intro v2 w2 hown hgrow _
  have HR : Hid (OwnNRet l w (.returned v2) w2) := Lib.hid ⟨v2, rfl, (by
    have e : (flatN [] ++ flatN l) = flatN l := rfl
    rw [e] at hown
    unfold NtRow
    rw [HLL.out]
    simpa using hown), ((Keeps.refl w).alloc (.cells #[] 29)).grown hgrow (by simp) (fun j hj => by simp [Value.ownBlock] at hj; omega)⟩
  clear hown hgrow
  go_wp2
  go_ret
  exact HR.out
end Go.Proofs.YtfapilgmgjmfeaaGreatDoor
