/-
  A region that draws its order, whose first operations only read (their callees leave all that was there as it was) and whose last ones wait for all of them, one for the other: walked once, in the order of the text.
-/
import Derived.Test.YtfapilgmgjmfeaaGreatDoorQk
import Derived.StillTail
namespace Go.Proofs.YtfapilgmgjmfeaaGreatDoor
open Go.RowKit

section
variable {P : Program} {ops : Array Oper} {md : Region.Mode} {C : World → Prop}
/-- Each operation from m to n has one that waits for it, up to the n-th. -/
def sinkFrom (md : Region.Mode) (ops : Array Oper) (m n : Nat) : Bool :=
  (List.range n).all fun i => decide (i < m) || (List.range (n + 1)).any fun j => decide (i < j) && Region.waitsFor md ops j i
/-- The first m have come up. -/
structure HeadM (md : Region.Mode) (ops : Array Oper) (m n : Nat) (ls : Array Bool) : Prop where
  inv : HeadInv md ops n ls
  past : ∀ i, i < m → ls.getD i false = true
theorem HeadM.set {m n i : Nat} {ls : Array Bool} (h : HeadM md ops m n ls) (hi : i ∈ Region.ready md ops ls) (hin : i < n) : HeadM md ops m n (ls.setIfInBounds i true) :=
  ⟨h.inv.set hi hin, fun j hj => by
    rcases Nat.decEq i j with e | e
    · rw [getD_set_ne false e]; exact h.past j hj
    · rw [← e]; exact getD_set_true (by have := h.past j hj; rw [← e] at this; exact this)⟩
theorem late_waits {m n : Nat} {ls : Array Bool} (hs : sinkFrom md ops m n = true) (hc : Region.chainB md ops n = true) (hn : n < ops.size) (h : HeadM md ops m n ls) (d : Nat) :
    ∀ i, n - i = d → i < n → ls.getD i true = false → ∀ t, n ≤ t → t ∉ Region.ready md ops ls := by
  induction d using Nat.strongRecOn with
  | _ d ih =>
    intro i hd hin hun t ht hr
    obtain ⟨_, ot, hot, hall⟩ := mem_ready.1 hr
    have hts : t < ops.size := (Array.getElem?_eq_some_iff.1 hot).1
    -- what waits for something that has not come up is not ready
    have no : ∀ j u oj, ops[j]? = some oj → Region.waitsFor md ops j u = true → ls.getD u false = false → (∀ e ∈ oj.after, Region.binds md e = true → ls.getD e.on false = true) → False := fun j u oj hj hw hu hl => by
      obtain ⟨o', ho', e, he, hb, hon⟩ := Region.waitsFor_spec hw
      obtain rfl : o' = oj := Option.some.inj (ho'.symm.trans hj)
      have := hl e he hb
      rw [hon, hu] at this
      cases this
    rcases Nat.lt_or_ge n t with h1 | h1
    · have hq := List.all_eq_true.1 hc t (List.mem_range.2 hts)
      simp only [Bool.or_eq_true, decide_eq_true_eq] at hq
      rcases hq with hq | hq
      · omega
      · exact no t (t - 1) ot hot hq (getD_both (h.inv.tail (t - 1) (by omega) (by omega))) hall
    · obtain rfl : t = n := by omega
      have hq := List.all_eq_true.1 hs i (List.mem_range.2 hin)
      simp only [Bool.or_eq_true, decide_eq_true_eq] at hq
      rcases hq with hq | hq
      · have := h.past i hq
        rw [getD_both hun] at this
        cases this
      obtain ⟨j, hj, hj2⟩ := List.any_eq_true.1 hq
      simp only [Bool.and_eq_true, decide_eq_true_eq] at hj2
      have hjn := List.mem_range.1 hj
      rcases Nat.lt_or_ge j t with h2 | h2
      · obtain ⟨oj, hoj, _⟩ := Region.waitsFor_spec hj2.2
        cases hl : ls.getD j false with
        | true => exact no j i oj hoj hj2.2 (getD_both hun) (h.inv.closed j oj hoj hl)
        | false => exact ih (t - j) (by omega) j rfl h2 (getD_in (by rw [h.inv.size]; omega) hl) t (Nat.le_refl _) hr
      · obtain rfl : j = t := by omega
        exact no j i ot hot hj2.2 (getD_both hun) hall
/-- Whatever order the operations before the n-th are picked in. -/
def headQ (P : Program) (md : Region.Mode) (ops : Array Oper) (C : World → Prop) (n : Nat) (G : Array Bool → Go.Act → Prop) : Nat → Array Bool → Go.Act → Prop
  | 0, ls, a => G ls a
  | f + 1, ls, a => Region.ready md ops ls ≠ [] ∧ ∀ i, i ∈ Region.ready md ops ls → i < n ∧ qOp P ops C i (headQ P md ops C n G f (ls.setIfInBounds i true)) a

theorem headQ_run {n g : Nat} {G : Array Bool → Go.Act → Prop} {Q' : Exit → Go.Act → World → Prop} (hG : ∀ ls a w, C w → G ls a → wpAny P md ops Q' g ls a w) (f : Nat) :
    ∀ (ls : Array Bool) (a : Go.Act) (w : World), C w → headQ P md ops C n G f ls a → wpAny P md ops Q' (f + g) ls a w := by
  induction f with
  | zero =>
    intro ls a w hw h
    rw [Nat.zero_add]
    exact hG ls a w hw h
  | succ f ih =>
    intro ls a w hw h
    have e : f + 1 + g = (f + g) + 1 := by omega
    rw [e]
    refine ⟨fun h0 => (h.1 h0).elim, fun i hi => ?_⟩
    exact wpOp_of_qOp hw (fun a' w' hw' h' => ih _ a' w' hw' h') (h.2 i hi).2

/-- One that may come up now may be taken first. -/
theorem headQ_first {m n i : Nat} {oi : Oper} {v : Value} {G : Array Bool → Go.Act → Prop} (hi : ops[i]? = some oi) (hsel : ∀ (j : Nat) (o : Oper) cs b, ops[j]? = some o → o.op ≠ .select cs b)
    (hs : sinkFrom md ops m n = true) (hc : Region.chainB md ops n = true) (hn : n < ops.size) (hin : i < n) (hG : ∀ ls a, G ls a → ∀ j, j ∈ Region.ready md ops ls → n ≤ j) (f : Nat) :
    ∀ (ls : Array Bool) (a : Go.Act), HeadM md ops m n ls →
      (∀ j oj, ops[j]? = some oj → j ≠ i → ls.getD j true = false → (∀ e ∈ oj.after, Region.binds md e = true → e.on ≠ i) → oi.apart ops oj = true) →
      i ∈ Region.ready md ops ls → YieldsIn P ops C oi v a → headQ P md ops C n G f (ls.setIfInBounds i true) (a.put oi.dst v) → headQ P md ops C n G (f + 1) ls a := by
  induction f with
  | zero =>
    intro ls a inv _ hr hy H
    have low : ∀ j, j ∈ Region.ready md ops ls → j < n := fun j hj => Nat.lt_of_not_le fun h => late_waits hs hc hn inv _ i rfl hin (mem_ready.1 hr).1 j h hj
    refine ⟨List.ne_nil_of_mem hr, fun j hj => ⟨low j hj, ?_⟩⟩
    by_cases e : j = i
    · rw [e]; exact hy.qOp hi H
    · exact absurd (low j hj) (Nat.not_lt.2 (hG _ _ H j (ready_mono hj e)))
  | succ f ih =>
    intro ls a inv hap hr hy H
    have low : ∀ j, j ∈ Region.ready md ops ls → j < n := fun j hj => Nat.lt_of_not_le fun h => late_waits hs hc hn inv _ i rfl hin (mem_ready.1 hr).1 j h hj
    refine ⟨List.ne_nil_of_mem hr, fun j hj => ⟨low j hj, ?_⟩⟩
    by_cases e : j = i
    · rw [e]; exact hy.qOp hi H
    obtain ⟨hun, oj, hoj, hall⟩ := mem_ready.1 hj
    have free : ∀ x ∈ oj.after, Region.binds md x = true → x.on ≠ i := fun x hx hb hxi => by
      have hl := hall x hx hb
      rw [hxi, getD_both (mem_ready.1 hr).1] at hl
      cases hl
    have H2 := qOp_put hoj (hap j oj hoj e hun free) (fun cs b => hsel i oi cs b hi) (fun cs b => hsel j oj cs b hoj) hy (H.2 j (ready_mono hj e)).2
    refine qOp_mono (fun a' ha => ih _ a' (inv.set hj (low j hj)) ?_ (ready_mono hr fun h => e h.symm) ha.1 ?_) H2
    · intro k ok hk hki hk2 hno
      refine hap k ok hk hki ?_ hno
      rcases Nat.decEq j k with hjk | hjk
      · rwa [getD_set_ne true hjk] at hk2
      · rw [← hjk]; exact hun
    · rw [Array.setIfInBounds_comm _ _ e]
      exact ha.2

/-- The order of the text serves. -/
theorem headQ_text {m n g : Nat} {G : Go.Act → Prop} (hsel : Region.noSelect ops = true) (hs : sinkFrom md ops m n = true) (hc : Region.chainB md ops n = true) (hn : n < ops.size) (l : List Oper) :
    ∀ (k : Nat) (ls : Array Bool) (a : Go.Act), (∀ j, j < l.length → l[j]? = ops[k + j]?) → k + l.length = n → HeadM md ops m n ls →
      Region.lexHead md ops g l.length k ls = true → wpQuiet P ops C G l a → headQ P md ops C n (fun ls' a' => Region.seqB md ops g n ls' = true ∧ G a') l.length ls a := by
  induction l with
  | nil =>
    intro k ls a _ hk _ hB h
    obtain rfl : k = n := by simpa using hk
    exact ⟨by simpa [Region.lexHead] using hB, h⟩
  | cons o l ih =>
    intro k ls a hl hk inv hB h
    simp only [List.length_cons, Region.lexHead, Bool.and_eq_true] at hB hk
    have h0 : ops[k]? = some o := by simpa using (hl 0 (by simp)).symm
    have hr : k ∈ Region.ready md ops ls := by simpa using hB.1.1
    have hkn : k < n := by omega
    have hq : qOp P ops C k (wpQuiet P ops C G l) a := by unfold qOp; simp only [h0]; exact h
    obtain ⟨v, hy, hK⟩ := yieldsIn_of_qOp h0 hq
    refine headQ_first h0 (Region.noSelect_spec hsel) hs hc hn hkn (fun ls' a' hL => seqB_ready hL.1) _ ls a inv (Region.free_spec h0 hB.1.2) hr hy ?_
    refine ih (k + 1) _ _ (fun j hj => ?_) (by omega) (inv.set hr hkn) hB.2 hK
    have := hl (j + 1) (by simpa using hj)
    rw [List.getElem?_cons_succ] at this
    rw [this]
    congr 1
    omega
end

/-- What is asked of such a region, its first m operations having come up. -/
def tailB (md : Region.Mode) (ops : Array Oper) (m n : Nat) (ls : Array Bool) : Bool :=
  Region.noSelect ops && decide (n < ops.size) && decide (m ≤ n) && sinkFrom md ops m n && Region.chainB md ops n && Region.lexHead md ops (ops.size - n) (n - m) m ls
theorem any_keeps_tail {P : Program} {Q : Exit → Go.Act → World → Prop} {a : Go.Act} {w x : World} {l : List Oper} (m n : Nat) (ls : Array Bool) (hB : tailB .any l.toArray m n ls = true) (inv : HeadM .any l.toArray m n ls) (hx : Keeps w x)
    (h : wpQuiet P l.toArray (fun w' => ∃ k : Wl w, w' = k.x) (fun a' => ∀ w', (∃ k : Wl w, w' = k.x) → wpList P l.toArray Q (l.drop n) a' w') ((l.drop m).take (n - m)) a) : wpAny P .any l.toArray Q ((n - m) + (l.drop n).length) ls a x := by
  simp only [tailB, Bool.and_eq_true, decide_eq_true_eq] at hB
  obtain ⟨⟨⟨⟨⟨hsel, hn⟩, hmn⟩, hs⟩, hc⟩, hlex⟩ := hB
  have hn' : n < l.length := by simpa using hn
  have e1 : ((l.drop m).take (n - m)).length = n - m := by simp; omega
  have e3 : l.toArray.size - n = (l.drop n).length := by simp
  rw [e3] at hlex
  have H := headQ_text (P := P) (C := fun w' => ∃ k : Wl w, w' = k.x) (md := .any) (g := (l.drop n).length) hsel hs hc hn ((l.drop m).take (n - m)) m ls a (fun j hj => by
    have hj' : j < n - m := by rw [e1] at hj; exact hj
    rw [List.getElem?_take, if_pos hj', List.getElem?_drop]
    simp) (by rw [e1]; omega) inv (by rw [e1]; exact hlex) h
  rw [e1] at H
  exact headQ_run (Q' := Q) (g := (l.drop n).length) (fun ls a' w' hw hL =>
    wpAny_of_seq (md := .any) (Q' := Q) (l.drop n) n ls a' w' (fun j => by simp [List.getElem?_drop]) hL.1 (hL.2 w' hw)) _ _ _ x ⟨⟨x, hx⟩, rfl⟩ H
theorem wp_region_keeps_tail {P : Program} {id : Nat} {Q : Exit → Go.Act → World → Prop} {a : Go.Act} {w : World} {l : List Oper} (n : Nat) (hm : P.follows .mixedOrders = true) (hB : tailB .any l.toArray 0 n (Array.replicate l.toArray.size false) = true)
    (h : wpQuiet P l.toArray (fun w' => ∃ k : Wl w, w' = k.x) (fun a' => ∀ w', (∃ k : Wl w, w' = k.x) → wpList P l.toArray Q (l.drop n) a' w') (l.take n) a) : (Code.region id l.toArray true).wp P Q a w := by
  have inv : HeadInv .any l.toArray n (Array.replicate l.toArray.size false) :=
    ⟨by simp, fun j oj _ hl => (by rw [getD_replicate_false] at hl; cases hl), fun t _ ht => getD_in (by simpa using ht) (getD_replicate_false _ _)⟩
  have hn : n < l.length := by
    have hB' := hB
    simp only [tailB, Bool.and_eq_true, decide_eq_true_eq] at hB'
    simpa using hB'.1.1.1.1.2
  have R := any_keeps_tail (P := P) (Q := Q) (a := a) (w := w) (x := w.drew) (l := l) 0 n _ hB ⟨inv, fun i hi => absurd hi (by omega)⟩ (Keeps.refl w).drew (by simpa using h)
  refine wp_region_any hm ?_
  have e2 : l.toArray.size = (n - 0) + (l.drop n).length := by simp; omega
  have R2 : ∀ f, f = (n - 0) + (l.drop n).length → wpAny P .any l.toArray Q f (Array.replicate l.toArray.size false) a w.drew := by rintro f rfl; exact R
  exact R2 _ e2
/-- The same where the first operation, on which only the end waits, is taken ahead. -/
theorem wp_region_keeps_tail1 {P : Program} {id : Nat} {Q : Exit → Go.Act → World → Prop} {a : Go.Act} {w : World} {o : Oper} {l : List Oper} (n : Nat) (v : Value) (hm : P.follows .mixedOrders = true)
    (hf : Region.free .any (o :: l).toArray (Array.replicate (o :: l).toArray.size false) 0 = true) (hr : (Region.ready .any (o :: l).toArray (Array.replicate (o :: l).toArray.size false)).contains 0 = true)
    (hB : tailB .any (o :: l).toArray 1 n ((Array.replicate (o :: l).toArray.size false).setIfInBounds 0 true) = true)
    (hQ : ∀ c a w, Q (.panic c) (a.put o.dst v) w → Q (.panic c) a w) (hy : Yields P (o :: l).toArray o v a)
    (h : wpQuiet P (o :: l).toArray (fun w' => ∃ k : Wl w, w' = k.x) (fun a' => ∀ w', (∃ k : Wl w, w' = k.x) → wpList P (o :: l).toArray Q ((o :: l).drop n) a' w') (l.take (n - 1)) (a.put o.dst v)) : (Code.region id (o :: l).toArray true).wp P Q a w := by
  have hB' := hB
  simp only [tailB, Bool.and_eq_true, decide_eq_true_eq] at hB'
  obtain ⟨⟨⟨⟨⟨hsel, hn⟩, hmn⟩, _⟩, _⟩, _⟩ := hB'
  have hn' : n < l.length + 1 := by simpa using hn
  have inv : HeadInv .any (o :: l).toArray n (Array.replicate (o :: l).toArray.size false) :=
    ⟨by simp, fun j oj _ hl => (by rw [getD_replicate_false] at hl; cases hl), fun t _ ht => getD_in (by simpa using ht) (getD_replicate_false _ _)⟩
  have inv1 : HeadM .any (o :: l).toArray 1 n ((Array.replicate (o :: l).toArray.size false).setIfInBounds 0 true) :=
    ⟨inv.set (by simpa using hr) (by omega), fun i hi => by
      obtain rfl : i = 0 := by omega
      simp⟩
  have R := any_keeps_tail (P := P) (Q := Q) (a := a.put o.dst v) (w := w) (x := w.drew) (l := o :: l) 1 n _ hB inv1 (Keeps.refl w).drew (by simpa using h)
  refine wp_region_any hm ?_
  have e2 : (o :: l).toArray.size = ((n - 1) + ((o :: l).drop n).length) + 1 := by simp; omega
  have R2 : ∀ f, f = ((n - 1) + ((o :: l).drop n).length) + 1 → wpAny P .any (o :: l).toArray Q f (Array.replicate (o :: l).toArray.size false) a w.drew := by
    rintro f rfl
    exact wpAny_take (i := 0) (v := v) (by simp) hsel hf hr hQ hy R
  exact R2 _ e2
end Go.Proofs.YtfapilgmgjmfeaaGreatDoor
