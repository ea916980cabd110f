/-
  The law's own: a script in memory of its own.
-/
import Derived.Test.YtpcfcbaapnkanaaOp
namespace Go.Proofs.Ytpcfcbaapnkanaa
open Go.RowKit

theorem flatF_set {α : Type} (f : α → Array Value) (s : Nat) (hf : ∀ a, (f a).size = s) (u : Value) (j : Nat) (hj : j < s) : ∀ (l : List α) (k : Nat) (hk : k < l.length) (a' : α), (f a').toList = (f (l[k]'hk)).toList.set j u → flatF f (l.set k a') = (flatF f l).set (k * s + j) u
  | [], k, hk, a', h => by simp at hk
  | a :: r, 0, hk, a', h => by
    have hl : j < (f a).toList.length := by rw [Array.length_toList, hf]; exact hj
    unfold flatF
    rw [List.set_cons_zero, List.flatMap_cons, List.flatMap_cons, Nat.zero_mul, Nat.zero_add, List.set_append_left _ _ hl, h]
    rfl
  | a :: r, k + 1, hk, a', h => by
    have hk' : k < r.length := by simpa using hk
    have ih := flatF_set f s hf u j hj r k hk' a' (by simpa using h)
    have hl : (f a).toList.length = s := by rw [Array.length_toList, hf]
    unfold flatF at ih ⊢
    rw [List.set_cons_succ, List.flatMap_cons, List.flatMap_cons, ih, List.set_append_right _ _ (by rw [hl, Nat.add_mul]; omega), hl]
    congr 2
    rw [Nat.add_mul]; omega
theorem rows_news {α : Type} (f : α → Array Value) (s : Nat) (hf : ∀ a, (f a).size = s) (hs : 0 < s) {w : World} {A : Addr} {l : List α} (h : ∀ (i : Nat) (hi : i < l.length), ∃ g o, some A = some ⟨g, o, none⟩ ∧ CellsAt w g (o + i * s) (f (l[i]'hi)).toList) : ∀ j u, (flatF f l)[j]? = some u → w.cell? (A.add j) = some u := fun j u hj => by
  obtain ⟨hi, hv⟩ := flatF_back f s hf hs l j u hj
  obtain ⟨g, o, e, hc⟩ := h _ hi
  injection e with e
  subst e
  have h2 := hc _ _ hv
  have e3 : o + j / s * s + j % s = o + j := by
    have := Nat.div_add_mod j s
    rw [Nat.mul_comm] at this
    omega
  have e2 : (⟨g, o, none⟩ : Addr).add j = ⟨g, o + j / s * s + j % s, none⟩ := by
    rw [e3]
    simp [Addr.add]
  rw [e2]
  exact h2
theorem cuts_news {w : World} {A : Addr} {l : List Int} (h : CutsAt w (some A) l) (_ : l = [] ∨ A.spot = none) : ∀ j u, (flatF ciC l)[j]? = some u → w.cell? (A.add j) = some u :=
  rows_news ciC 1 ciC_size (by decide) fun i hi => by
    obtain ⟨g, o, e, hc⟩ := h i hi
    refine ⟨g, o, e, fun j v hj => ?_⟩
    have hj0 : j = 0 := by
      have := (List.getElem?_eq_some_iff.1 hj).1
      simp [ciC] at this
      exact this
    subst hj0
    have e3 : v = .int .i64 (l[i]'hi) := by simpa [ciC] using hj.symm
    rw [e3, Nat.mul_one]
    exact hc
theorem steps_news {w : World} {A : Addr} {l : List Ms} (h : StepsAt w (some A) l) (_ : l = [] ∨ A.spot = none) : ∀ j u, (flatF msC l)[j]? = some u → w.cell? (A.add j) = some u :=
  rows_news msC 7 msC_size (by decide) fun i hi => (h i hi).1
theorem cuts_one (l : List Int) : ∀ u ∈ flatF ciC l, u.oneCell' = true := fun u hu => by
  unfold flatF at hu
  obtain ⟨n, _, h⟩ := List.mem_flatMap.1 hu
  simp [ciC] at h
  subst h
  rfl
theorem steps_one (l : List Ms) : ∀ u ∈ flatF msC l, u.oneCell' = true := fun u hu => by
  unfold flatF at hu
  obtain ⟨n, _, h⟩ := List.mem_flatMap.1 hu
  simp [msC] at h
  rcases h with rfl | rfl | rfl | rfl | rfl | rfl | rfl <;> rfl
set_option maxRecDepth 100000 in
theorem append_none35 (w : World) : (Builtin.append_ #[29, 29] 29 #[.slice (some ⟨w.heap.size, 0, none⟩) 0 0, .slice none 0 0]).run Try.prog (w.alloc (.cells #[] 3)) = .ok (.slice (some ⟨w.heap.size, 0, none⟩) 0 0) (w.alloc (.cells #[] 3)) := by
  kernel_rfl
theorem row_nil35 (w : World) : CutRow (w.alloc (.cells #[] 3)) w.heap.size (.slice (some ⟨w.heap.size, 0, none⟩) 0 0) [] :=
  ⟨rfl, .inr ⟨w.heap.size, 0, #[], rfl, Nat.le_refl _, heap_alloc_new w _, Nat.le_refl _, Nat.zero_le _, rfl, rfl⟩⟩
set_option maxHeartbeats 4000000 in
set_option maxRecDepth 100000 in
theorem ownI_any (A : Option Addr) (c : Nat) (l : List Int) (w : World) (hA : CutsAt w A l) (hlen : l.length ≤ 1000000) (had : AOk A l c) : Calls Try.prog 35 #[.slice A l.length c] w (fun e w' => ∃ v, e = .returned v ∧ CutRow w' w.heap.size v l ∧ Keeps w w') := by
  rcases had with ⟨rfl, rfl, rfl⟩ | ⟨g, o, s, rfl, hs⟩
  · have hap := append_none35 w
    have HR := Lib.hid (row_nil35 w)
    simp only [List.length_nil]
    go_enter Try.func35, Try.ntmps35
    go_wp2
    go_ret
    exact ⟨_, rfl, HR.out, (Keeps.refl w).alloc _⟩
  · obtain ⟨i, hi, hz, hz1, hz2⟩ := info_parts info3; obtain ⟨z, hz, hzs⟩ : ∃ z, i.zero = some z ∧ z.cells.size = 1 := ⟨_, hz, rfl⟩
    have HN := Lib.hid (cuts_news (hA.keeps ((Keeps.refl w).alloc (.cells #[] 3))) hs)
    have HF := Lib.hid (flatF_len ciC 1 (fun _ => rfl) l)
    have HL := Lib.hid hlen
    have ho := row_nil35 w
    unfold CutRow SRow at ho
    have HO := Lib.hid ho
    clear hA hlen ho
    generalize hL : l.length = L at *
    have HLL := Lib.hid hL
    clear hL
    go_enter Try.func35, Try.ntmps35
    go_wp2_with (at_builtin; refine wpList_append_own _ rfl (.tmp 3) (.tmp 4) 29 rfl w.heap.size 3 i z 1 8 Try.underlying29 hi hz hz1 hz2 hzs (by decide) _ _ _ rfl HO.out ⟨g, o, s⟩ L c (flatF ciC l) rfl HF.out ?a1 ?a2 ?a3 ?a4 ?a5 ?_)
    case a1 => exact HN.out
    case a2 => exact cuts_one l
    case a3 => have := HL.out; simp only [maxLen, List.length_nil]; omega
    case a4 => have := HL.out; simp only [List.length_nil]; omega
    case a5 => simp
    intro v2 w2 hown hgrow hjunk
    clear hjunk
    have HR : Hid (CutRow w2 w.heap.size v2 l ∧ Keeps w w2) := Lib.hid ⟨by
      unfold CutRow SRow
      rw [HLL.out]
      simpa [flatF] using hown, ((Keeps.refl w).alloc (.cells #[] 3)).grown hgrow (by simp) (fun j hj => by simp [Value.ownBlock] at hj; omega)⟩
    clear hown hgrow
    go_wp2
    go_ret
    exact ⟨_, rfl, HR.out⟩
set_option maxRecDepth 100000 in
theorem append_none34 (w : World) : (Builtin.append_ #[23, 23] 23 #[.slice (some ⟨w.heap.size, 0, none⟩) 0 0, .slice none 0 0]).run Try.prog (w.alloc (.cells #[] 31)) = .ok (.slice (some ⟨w.heap.size, 0, none⟩) 0 0) (w.alloc (.cells #[] 31)) := by
  kernel_rfl
theorem row_nil34 (w : World) : MsRow (w.alloc (.cells #[] 31)) w.heap.size (.slice (some ⟨w.heap.size, 0, none⟩) 0 0) [] :=
  ⟨rfl, .inr ⟨w.heap.size, 0, #[], rfl, Nat.le_refl _, heap_alloc_new w _, Nat.le_refl _, Nat.zero_le _, rfl, rfl⟩⟩
set_option maxHeartbeats 4000000 in
set_option maxRecDepth 100000 in
theorem ownS_any (A : Option Addr) (c : Nat) (l : List Ms) (w : World) (hA : StepsAt w A l) (hlen : l.length ≤ 1000000) (had : AOk A l c) : Calls Try.prog 34 #[.slice A l.length c] w (fun e w' => ∃ v, e = .returned v ∧ MsRow w' w.heap.size v l ∧ Keeps w w') := by
  rcases had with ⟨rfl, rfl, rfl⟩ | ⟨g, o, s, rfl, hs⟩
  · have hap := append_none34 w
    have HR := Lib.hid (row_nil34 w)
    simp only [List.length_nil]
    go_enter Try.func34, Try.ntmps34
    go_wp2
    go_ret
    exact ⟨_, rfl, HR.out, (Keeps.refl w).alloc _⟩
  · obtain ⟨i, hi, ⟨z, hz, hzs⟩, hz1, hz2⟩ := info31
    have HN := Lib.hid (steps_news (hA.keeps ((Keeps.refl w).alloc (.cells #[] 31))) hs)
    have HF := Lib.hid (flatF_len msC 7 (fun _ => rfl) l)
    have HL := Lib.hid hlen
    have ho := row_nil34 w
    unfold MsRow SRow at ho
    have HO := Lib.hid ho
    clear hA hlen ho
    generalize hL : l.length = L at *
    have HLL := Lib.hid hL
    clear hL
    go_enter Try.func34, Try.ntmps34
    go_wp2_with (at_builtin; refine wpList_append_own _ rfl (.tmp 3) (.tmp 4) 23 rfl w.heap.size 31 i z 7 80 Try.underlying23 hi hz hz1 hz2 hzs (by decide) _ _ _ rfl HO.out ⟨g, o, s⟩ L c (flatF msC l) rfl HF.out ?a1 ?a2 ?a3 ?a4 ?a5 ?_)
    case a1 => exact HN.out
    case a2 => exact steps_one l
    case a3 => have := HL.out; simp only [maxLen, List.length_nil]; omega
    case a4 => have := HL.out; simp only [List.length_nil]; omega
    case a5 => simp
    intro v2 w2 hown hgrow hjunk
    clear hjunk
    have HR : Hid (MsRow w2 w.heap.size v2 l ∧ Keeps w w2) := Lib.hid ⟨by
      unfold MsRow SRow
      rw [HLL.out]
      simpa [flatF] using hown, ((Keeps.refl w).alloc (.cells #[] 31)).grown hgrow (by simp) (fun j hj => by simp [Value.ownBlock] at hj; omega)⟩
    clear hown hgrow
    go_wp2
    go_ret
    exact ⟨_, rfl, HR.out⟩

/-- A step of a row of the call's own gets other cuts. -/
theorem MsRow.put {w : World} {B g n c : Nat} {l : List Ms} (h : MsRow w B (.slice (some ⟨g, 0, none⟩) n c) l) (k : Nat) (hk : k < l.length) (A' : Option Addr) (c' : Nat) :
    MsRow (w.setCell ⟨g, k * 7 + 6, none⟩ (.slice A' (l[k]'hk).s.cuts.length c')) B (.slice (some ⟨g, 0, none⟩) n c) (l.set k ⟨(l[k]'hk).s, A', c'⟩) := by
  obtain ⟨h1, ⟨h2, _⟩ | ⟨g0, cap, cur, e, hB, hb, hc, hm, hs, ht⟩⟩ := h
  · cases h2
  · injection e with e1 e2 e3
    injection e1 with e1
    injection e1 with e1
    subst e1 e2 e3
    have hset := flatF_set msC 7 msC_size (.slice A' (l[k]'hk).s.cuts.length c') 6 (by decide) l k hk ⟨(l[k]'hk).s, A', c'⟩ rfl
    unfold MsRow SRow
    rw [hset, List.length_set]
    refine ⟨by rw [List.length_set]; exact h1, .inr ⟨g, c, cur.setIfInBounds (k * 7 + 6) (.slice A' (l[k]'hk).s.cuts.length c'), rfl, hB, ?_, hc, hm, by rw [Array.size_setIfInBounds]; exact hs, ?_⟩⟩
    · exact Blk.set (t := 31) hb (k * 7 + 6) _
    · rw [← ht, Array.toList_setIfInBounds, List.take_set]
theorem MsOwn.far {w : World} {B g : Nat} {m : Ms} {cur : Array Value} (h : MsOwn w B m) (hg : Blk w g cur 31) (j : Nat) (v : Value) : MsOwn (w.setCell ⟨g, j, none⟩ v) B m := by
  refine (Only.set1 g j w v).row_ne h fun e => ?_
  rcases h.2 with ⟨e2, _⟩ | ⟨g1, cap1, cur1, e2, _, hg1, _⟩
  · rw [e2] at e; cases e
  · rw [e2] at e
    injection e with e
    have e3 : g1 = g := e
    subst e3
    unfold Blk at hg
    rw [hg] at hg1
    injection hg1 with hg1
    injection hg1 with _ h31 _
    cases h31
/-- What own has done so far. -/
structure OwnInv (w : World) (bot : List UInt8) (q : Int) (g c0 : Nat) (l : List Ms) (k : Nat) (wr : World) : Prop where
  keeps : Keeps w wr
  box : Blk wr w.heap.size #[.string (S bot), .int .i64 q, .slice (some ⟨g, 0, none⟩) l.length c0] 25
  res : Blk wr (w.heap.size + 1) #[.string ⟨#[]⟩, .int .i64 0, .slice none 0 0] 25
  row : ∃ lk : List Ms, steps lk = steps l ∧ MsRow wr w.heap.size (.slice (some ⟨g, 0, none⟩) l.length c0) lk ∧ (∀ i (hi : i < lk.length), i < k → MsOwn wr w.heap.size (lk[i]'hi)) ∧ ∀ i, k ≤ i → lk[i]? = l[i]?
theorem MsRow.blk {w : World} {B g n c : Nat} {l : List Ms} (h : MsRow w B (.slice (some ⟨g, 0, none⟩) n c) l) : ∃ cur, Blk w g cur 31 ∧ B ≤ g := by
  obtain ⟨h1, ⟨h2, _⟩ | ⟨g0, cap, cur, e, hB, hb, hc, hm, hs, ht⟩⟩ := h
  · cases h2
  · injection e with e1 e2 e3
    injection e1 with e1
    injection e1 with e1
    subst e1
    exact ⟨cur, hb, hB⟩
/-- A round: the cuts are copied, and their copy is put in their place. -/
theorem OwnInv.next {w : World} {bot : List UInt8} {q : Int} {g c0 : Nat} {l : List Ms} {k : Nat} {wr w5 : World} (h : OwnInv w bot q g c0 l k wr) (hk : k < l.length) {A' : Option Addr} {c' n : Nat} {B5 : Nat} (k5 : Keeps wr w5) (hB5 : w.heap.size ≤ B5) (hn : n = (l[k]'hk).s.cuts.length)
    (hrow : CutRow w5 B5 (.slice A' n c') (l[k]'hk).s.cuts) : OwnInv w bot q g c0 l (k + 1) (w5.setCell ⟨g, k * 7 + 6, none⟩ (.slice A' n c')) := by
  obtain ⟨h1, h2, h3, lk, e1, hr, ho, hs⟩ := h
  subst hn
  have hr5 : MsRow w5 w.heap.size _ lk := k5.row hr
  obtain ⟨cur, hcur, hg⟩ := hr5.blk
  have hll : lk.length = l.length := by have := congrArg List.length e1; simpa [steps] using this
  have hkl : k < lk.length := by omega
  have hel : lk[k]'hkl = l[k]'hk := by
    have := hs k (Nat.le_refl k)
    rw [List.getElem?_eq_getElem hkl, List.getElem?_eq_getElem hk] at this
    injection this
  have hbox5 := h2.keeps k5
  have hres5 := h3.keeps k5
  have hgx : w.heap.size ≠ g := fun e => by
    rw [e] at hbox5
    unfold Blk at hbox5 hcur
    rw [hcur] at hbox5
    injection hbox5 with hb
    injection hb with _ hb _
    cases hb
  have hgx1 : w.heap.size + 1 ≠ g := fun e => by
    rw [e] at hres5
    unfold Blk at hres5 hcur
    rw [hcur] at hres5
    injection hres5 with hb
    injection hb with _ hb _
    cases hb
  have hput := hr5.put k hkl A' c'
  rw [hel] at hput
  refine ⟨Only.toKeeps (h1.trans k5) (Only.set1 g _ w5 _) hg, hbox5.far hgx _ _, hres5.far hgx1 _ _, _, ?_, hput, fun i hi hik => ?_, fun i hi => ?_⟩
  · rw [← e1]
    unfold steps
    rw [List.map_set]
    have e9 : (l[k]'hk).s = (lk.map Ms.s)[k]'(by simpa using hkl) := by rw [List.getElem_map, hel]
    show (lk.map Ms.s).set k (l[k]'hk).s = _
    rw [e9, List.set_getElem_self]
  · by_cases e : i = k
    · subst e
      have e8 : (lk.set i ⟨(l[i]'hk).s, A', c'⟩)[i]'hi = ⟨(l[i]'hk).s, A', c'⟩ := by simp
      rw [e8]
      have h9 : MsOwn w5 w.heap.size ⟨(l[i]'hk).s, A', c'⟩ := ⟨hrow.1, hrow.2.imp id (fun ⟨a, b, c, d, x, y⟩ => ⟨a, b, c, d, by omega, y⟩)⟩
      exact h9.far hcur _ _
    · have hi' : i < lk.length := by simpa using hi
      have e8 : (lk.set k ⟨(l[k]'hk).s, A', c'⟩)[i]'hi = lk[i]'hi' := by rw [List.getElem_set_ne (Ne.symm e)]
      rw [e8]
      have h9 : MsOwn w5 w.heap.size (lk[i]'hi') := k5.row (ho i hi' (by omega))
      exact h9.far hcur _ _
  · rw [List.getElem?_set_ne (by omega)]
    exact hs i (by omega)
end Go.Proofs.Ytpcfcbaapnkanaa
