/-
  A piece of a list, of package json.
-/
import Derived.Test.YtljkeladdplhlaaDoorKnd
import Derived.Deep.RegionHeld3
import Derived.Deep.RegionLaw
import Derived.Deep.AppendLies
import Derived.Laws.OwnMore
namespace Go.Proofs.YtljkeladdplhlaaDoor
open Go.RowKit

theorem info25 : (Tryd.prog.info? 25).map (fun i => (i.zero, i.size, i.bytes)) = some (some (.agg #[.int .i64 0, .int .i64 0, .string ⟨#[]⟩, .slice none 0 0, .slice none 0 0]), 5, 80) := by kernel_rfl

theorem heap_two' (w : World) (o o2 : Obj) : ((w.alloc o).alloc o2).heap[w.heap.size + 1]? = some o2 := by
  have e : (w.alloc o).heap.size = w.heap.size + 1 := by simp
  rw [← e]; exact heap_alloc_new _ _
theorem own_set {w : World} {base e size g cap n : Nat} {xs : List Value} (h : w.ownsRow base e size (.slice (some ⟨g, 0, none⟩) n cap) n xs) (i : Nat) (v : Value) : (w.setCell ⟨g, i, none⟩ v).ownsRow base e size (.slice (some ⟨g, 0, none⟩) n cap) n (xs.set i v) := by
  rcases h with ⟨hl, ⟨h1, h2⟩ | ⟨g', cap', cur, h1, h2, h3, h4, h5, h6, h7⟩⟩
  · simp at h1
  · simp only [Value.slice.injEq, Option.some.injEq, Addr.mk.injEq, and_true, true_and] at h1
    obtain ⟨rfl, rfl⟩ := h1
    refine ⟨by simpa using hl, .inr ⟨g, cap, cur.setIfInBounds i v, rfl, h2, heap_setCell_same w g i _ e v h3, h4, h5, by simpa using h6, ?_⟩⟩
    rw [Array.toList_setIfInBounds, List.take_set, h7]
theorem own_far {w : World} {base e size n : Nat} {u : Value} {xs : List Value} (h : w.ownsRow base e size u n xs) {q : Nat} (hq : u.ownBlock ≠ some q) (i : Nat) (v : Value) : (w.setCell ⟨q, i, none⟩ v).ownsRow base e size u n xs := by
  rcases h with ⟨hl, ⟨h1, h2⟩ | ⟨g', cap', cur, h1, h2, h3, h4⟩⟩
  · exact ⟨hl, .inl ⟨h1, h2⟩⟩
  · exact ⟨hl, .inr ⟨g', cap', cur, h1, h2, (heap_setCell_other w ⟨q, i, none⟩ g' v (fun e => hq (by rw [h1]; exact congrArg some e))).trans h3, h4⟩⟩
/-- Five cells of a row, from a place on. -/
def fiveAt (w : World) (g o : Nat) (v0 v1 v2 v3 v4 : Value) : World := ((((w.setCell ⟨g, o, none⟩ v0).setCell ⟨g, o + 1, none⟩ v1).setCell ⟨g, o + 2, none⟩ v2).setCell ⟨g, o + 3, none⟩ v3).setCell ⟨g, o + 4, none⟩ v4
theorem own_five {w : World} {base e g cap n : Nat} {xs : List Value} {z0 z1 z2 z3 z4 : Value} (h : w.ownsRow base e 5 (.slice (some ⟨g, 0, none⟩) (n + 1) cap) (n + 1) (xs ++ [z0, z1, z2, z3, z4])) (hx : xs.length = n * 5) (v0 v1 v2 v3 v4 : Value) :
    (fiveAt w g (n * 5) v0 v1 v2 v3 v4).ownsRow base e 5 (.slice (some ⟨g, 0, none⟩) (n + 1) cap) (n + 1) (xs ++ [v0, v1, v2, v3, v4]) := by
  have h0 := own_set h (n * 5) v0
  have h1 := own_set h0 (n * 5 + 1) v1
  have h2 := own_set h1 (n * 5 + 2) v2
  have h3 := own_set h2 (n * 5 + 3) v3
  have h4 := own_set h3 (n * 5 + 4) v4
  rw [← hx] at h0 h1 h2 h3 h4 ⊢
  simp [List.set_append_right] at h4
  simpa [fiveAt] using h4
theorem fiveAt_far (w : World) {g i : Nat} (h : i ≠ g) (o : Nat) (v0 v1 v2 v3 v4 : Value) : (fiveAt w g o v0 v1 v2 v3 v4).heap[i]? = w.heap[i]? := by
  unfold fiveAt
  rw [heap_setCell_other _ ⟨g, o + 4, none⟩ i _ h, heap_setCell_other _ ⟨g, o + 3, none⟩ i _ h, heap_setCell_other _ ⟨g, o + 2, none⟩ i _ h, heap_setCell_other _ ⟨g, o + 1, none⟩ i _ h, heap_setCell_other _ ⟨g, o, none⟩ i _ h]
theorem Only.fiveAt {X : List Nat} {a b : World} (h : Only X a b) (g : Nat) (hg : g ∈ X ∨ a.heap.size ≤ g) (o : Nat) (v0 v1 v2 v3 v4 : Value) : Only X a (fiveAt b g o v0 v1 v2 v3 v4) :=
  ((((h.set ⟨g, o, none⟩ hg v0).set ⟨g, o + 1, none⟩ hg v1).set ⟨g, o + 2, none⟩ hg v2).set ⟨g, o + 3, none⟩ hg v3).set ⟨g, o + 4, none⟩ hg v4
theorem own_fiveAt_far {w : World} {base e size n : Nat} {u : Value} {xs : List Value} (h : w.ownsRow base e size u n xs) {q : Nat} (hq : u.ownBlock ≠ some q) (o : Nat) (v0 v1 v2 v3 v4 : Value) : (fiveAt w q o v0 v1 v2 v3 v4).ownsRow base e size u n xs :=
  own_far (own_far (own_far (own_far (own_far h hq _ _) hq _ _) hq _ _) hq _ _) hq _ _

theorem row_new_or {o : Option Nat} {gg H H' : Nat} (h : o = some gg ∨ gg = H) (hh : H' ≤ H) : o = some gg ∨ H' ≤ gg := by
  rcases h with h | h
  · exact .inl h
  · exact .inr (by omega)
/-- What a piece of a list leaves: the row is longer by it, the list's variable has it, nothing else has turned but the reader. -/
structure PieceOK (base n vb : Nat) (oa : Option Addr) (oc : Nat) (xs vs : List Value) (w2 X : World) : Prop where
  at_ : ∃ gg cap, X.ownsRow base 25 5 (.slice (some ⟨gg, 0, none⟩) (n + 1) cap) (n + 1) (xs ++ vs) ∧ X.heap[vb]? = some (.cells #[.int .i64 5, .int .i64 0, .string ⟨#[]⟩, .slice none 0 0, .slice (some ⟨gg, 0, none⟩) (n + 1) cap] 25 (0, 0)) ∧ ((Value.slice oa n oc).ownBlock = some gg ∨ w2.heap.size ≤ gg) ∧ gg ≠ vb
  os : X.os = w2.os
  tape : X.tape = w2.tape
  output : X.output = w2.output
  size : w2.heap.size ≤ X.heap.size
  block : ∀ i, i < w2.heap.size → i ≠ vb → (Value.slice oa n oc).ownBlock ≠ some i → X.heap[i]? = w2.heap[i]?
theorem vb_put {w : World} {vb : Nat} {a b c d e : Value} (h : w.heap[vb]? = some (.cells #[a, b, c, d, e] 25 (0, 0))) (v : Value) : (w.setCell ⟨vb, 4, none⟩ v).heap[vb]? = some (.cells #[a, b, c, d, v] 25 (0, 0)) := heap_setCell_same w vb 4 _ 25 v h
theorem PieceOK.mk_a {base n vb gg cap : Nat} {oa : Option Addr} {oc : Nat} {xs : List Value} {z0 z1 z2 z3 z4 v0 v1 v2 v3 v4 : Value} {w2 w3 w4 : World} (hg : w3.grownBy w4 (Value.slice oa n oc).ownBlock) (h3 : Keeps w2 w3) (hx : xs.length = n * 5)
    (hown : w4.ownsRow base 25 5 (.slice (some ⟨gg, 0, none⟩) (n + 1) cap) (n + 1) (xs ++ [z0, z1, z2, z3, z4])) (hvb : w4.heap[vb]? = some (.cells #[.int .i64 5, .int .i64 0, .string ⟨#[]⟩, .slice none 0 0, .slice oa n oc] 25 (0, 0)))
    (hat : (Value.slice oa n oc).ownBlock = some gg ∨ w2.heap.size ≤ gg) (hgv : gg ≠ vb) :
    PieceOK base n vb oa oc xs [v0, v1, v2, v3, v4] w2 (fiveAt (w4.setCell ⟨vb, 4, none⟩ (.slice (some ⟨gg, 0, none⟩) (n + 1) cap)) gg (n * 5) v0 v1 v2 v3 v4) := by
  have hof := own_five (own_far hown (q := vb) (fun e => hgv (Option.some.inj e)) 4 (.slice (some ⟨gg, 0, none⟩) (n + 1) cap)) hx v0 v1 v2 v3 v4
  have hvf := (fiveAt_far (w4.setCell ⟨vb, 4, none⟩ (.slice (some ⟨gg, 0, none⟩) (n + 1) cap)) (Ne.symm hgv) (n * 5) v0 v1 v2 v3 v4).trans (vb_put hvb (.slice (some ⟨gg, 0, none⟩) (n + 1) cap))
  have hO : Only [gg, vb] w4 (fiveAt (w4.setCell ⟨vb, 4, none⟩ (.slice (some ⟨gg, 0, none⟩) (n + 1) cap)) gg (n * 5) v0 v1 v2 v3 v4) := ((Only.refl [gg, vb] w4).set ⟨vb, 4, none⟩ (.inl (by simp)) (.slice (some ⟨gg, 0, none⟩) (n + 1) cap)).fiveAt gg (.inl (by simp)) (n * 5) v0 v1 v2 v3 v4
  generalize fiveAt (w4.setCell ⟨vb, 4, none⟩ (.slice (some ⟨gg, 0, none⟩) (n + 1) cap)) gg (n * 5) v0 v1 v2 v3 v4 = X at *
  refine ⟨⟨gg, cap, hof, hvf, hat, hgv⟩, hO.os.trans (hg.os.trans h3.os), hO.tape.trans (hg.tape.trans h3.tape), hO.output.trans (hg.output.trans h3.output), Nat.le_trans h3.size (Nat.le_trans hg.size hO.size), fun i hi hv ho => ?_⟩
  have hi3 := Nat.lt_of_lt_of_le hi h3.size
  have hig : i ≠ gg := fun e => by
    subst e
    rcases hat with h | h
    · exact ho h
    · omega
  rw [hO.block i (Nat.lt_of_lt_of_le hi3 hg.size) (by simp; exact ⟨hig, hv⟩), hg.block i hi3 (fun e => ho e.symm), h3.block i hi]
theorem PieceOK.mk_b {base n vb gg cap : Nat} {oa : Option Addr} {oc : Nat} {xs : List Value} {z0 z1 z2 z3 z4 v0 v1 v2 v3 v4 : Value} {w2 w3 w4 : World} (hg : w3.grownBy w4 (Value.slice oa n oc).ownBlock) (h3 : Keeps w2 w3) (hx : xs.length = n * 5)
    (hown : w4.ownsRow base 25 5 (.slice (some ⟨gg, 0, none⟩) (n + 1) cap) (n + 1) (xs ++ [z0, z1, z2, z3, z4])) (hvb : w4.heap[vb]? = some (.cells #[.int .i64 5, .int .i64 0, .string ⟨#[]⟩, .slice none 0 0, .slice oa n oc] 25 (0, 0)))
    (hat : (Value.slice oa n oc).ownBlock = some gg ∨ w2.heap.size ≤ gg) (hgv : gg ≠ vb) :
    PieceOK base n vb oa oc xs [v0, v1, v2, v3, v4] w2 ((fiveAt w4 gg (n * 5) v0 v1 v2 v3 v4).setCell ⟨vb, 4, none⟩ (.slice (some ⟨gg, 0, none⟩) (n + 1) cap)) := by
  have hof := own_far (own_five hown hx v0 v1 v2 v3 v4) (q := vb) (fun e => hgv (Option.some.inj e)) 4 (.slice (some ⟨gg, 0, none⟩) (n + 1) cap)
  have hvf := vb_put ((fiveAt_far w4 (Ne.symm hgv) (n * 5) v0 v1 v2 v3 v4).trans hvb) (.slice (some ⟨gg, 0, none⟩) (n + 1) cap)
  have hO : Only [gg, vb] w4 ((fiveAt w4 gg (n * 5) v0 v1 v2 v3 v4).setCell ⟨vb, 4, none⟩ (.slice (some ⟨gg, 0, none⟩) (n + 1) cap)) := ((Only.refl [gg, vb] w4).fiveAt gg (.inl (by simp)) (n * 5) v0 v1 v2 v3 v4).set ⟨vb, 4, none⟩ (.inl (by simp)) (.slice (some ⟨gg, 0, none⟩) (n + 1) cap)
  generalize (fiveAt w4 gg (n * 5) v0 v1 v2 v3 v4).setCell ⟨vb, 4, none⟩ (.slice (some ⟨gg, 0, none⟩) (n + 1) cap) = X at *
  refine ⟨⟨gg, cap, hof, hvf, hat, hgv⟩, hO.os.trans (hg.os.trans h3.os), hO.tape.trans (hg.tape.trans h3.tape), hO.output.trans (hg.output.trans h3.output), Nat.le_trans h3.size (Nat.le_trans hg.size hO.size), fun i hi hv ho => ?_⟩
  have hi3 := Nat.lt_of_lt_of_le hi h3.size
  have hig : i ≠ gg := fun e => by
    subst e
    rcases hat with h | h
    · exact ho h
    · omega
  rw [hO.block i (Nat.lt_of_lt_of_le hi3 hg.size) (by simp; exact ⟨hig, hv⟩), hg.block i hi3 (fun e => ho e.symm), h3.block i hi]
theorem PieceOK.mk_a2 {base n vb gg cap : Nat} {oa : Option Addr} {oc : Nat} {xs : List Value} {z0 z1 z2 z3 z4 v0 v1 v2 v3 v4 : Value} {w2 w3 w4 : World} (hg : w3.grownBy w4 (Value.slice oa n oc).ownBlock) (h3 : Keeps w2 w3) (hx : xs.length = n * 5)
    (hown : w4.ownsRow base 25 5 (.slice (some ⟨gg, 0, none⟩) (n + 1) cap) (n + 1) (xs ++ [z0, z1, z2, z3, z4])) (hvb : w4.heap[vb]? = some (.cells #[.int .i64 5, .int .i64 0, .string ⟨#[]⟩, .slice none 0 0, .slice oa n oc] 25 (0, 0)))
    (hat : (Value.slice oa n oc).ownBlock = some gg ∨ w2.heap.size ≤ gg) (hgv : gg ≠ vb) :
    PieceOK base n vb oa oc xs [v0, v1, v2, v3, v4] w2 ((((((w4.setCell ⟨vb, 4, none⟩ (.slice (some ⟨gg, 0, none⟩) (n + 1) cap)).setCell ⟨gg, n * 5, none⟩ v0).setCell ⟨gg, n * 5 + 1, none⟩ v1).setCell ⟨gg, n * 5 + 2, none⟩ v2).setCell ⟨gg, n * 5 + 3, none⟩ v3).setCell ⟨gg, n * 5 + 4, none⟩ v4) := PieceOK.mk_a hg h3 hx hown hvb hat hgv
theorem PieceOK.mk_b2 {base n vb gg cap : Nat} {oa : Option Addr} {oc : Nat} {xs : List Value} {z0 z1 z2 z3 z4 v0 v1 v2 v3 v4 : Value} {w2 w3 w4 : World} (hg : w3.grownBy w4 (Value.slice oa n oc).ownBlock) (h3 : Keeps w2 w3) (hx : xs.length = n * 5)
    (hown : w4.ownsRow base 25 5 (.slice (some ⟨gg, 0, none⟩) (n + 1) cap) (n + 1) (xs ++ [z0, z1, z2, z3, z4])) (hvb : w4.heap[vb]? = some (.cells #[.int .i64 5, .int .i64 0, .string ⟨#[]⟩, .slice none 0 0, .slice oa n oc] 25 (0, 0)))
    (hat : (Value.slice oa n oc).ownBlock = some gg ∨ w2.heap.size ≤ gg) (hgv : gg ≠ vb) :
    PieceOK base n vb oa oc xs [v0, v1, v2, v3, v4] w2 (((((((w4).setCell ⟨gg, n * 5, none⟩ v0).setCell ⟨gg, n * 5 + 1, none⟩ v1).setCell ⟨gg, n * 5 + 2, none⟩ v2).setCell ⟨gg, n * 5 + 3, none⟩ v3).setCell ⟨gg, n * 5 + 4, none⟩ v4).setCell ⟨vb, 4, none⟩ (.slice (some ⟨gg, 0, none⟩) (n + 1) cap)) := PieceOK.mk_b hg h3 hx hown hvb hat hgv
theorem ne_row {o : Option Nat} {gg vb H : Nat} (h1 : o ≠ some vb) (h2 : o = some gg ∨ gg = H) (h3 : vb < H) : gg ≠ vb := by
  rcases h2 with h | h
  · exact fun e => h1 (by rw [h, e])
  · omega
theorem row_new {w : World} {base gg n cap : Nat} {xs ys : List Value} (h : w.ownsRow base 25 5 (.slice (some ⟨gg, 0, none⟩) (n + 1) cap) (n + 1) (xs ++ ys)) (hx : xs.length = n * 5) (k : Nat) (hk : k < 5) : w.cell? ⟨gg, n * 5 + k, none⟩ = ys[k]? := by
  rw [World.ownsRow.cellAt h _ (by omega), List.getElem?_append_right (by omega), hx, Nat.add_sub_cancel_left]

end Go.Proofs.YtljkeladdplhlaaDoor
namespace Go.Proofs.YtljkeladdplhlaaDoor
open Go.RowKit

set_option maxHeartbeats 3000000 in
set_option maxRecDepth 100000 in
theorem listpiece_any (r : Nat) (ib vb cb db base n : Nat) (ov : Value) (xs : List Value) (x : Int) (G : World → List Value → Prop) (w : World)
    (hib : w.cell? ⟨ib, 0, none⟩ = some (.func (.func 50) #[] #[.pointer (some ⟨cb, 0, none⟩), .pointer (some ⟨db, 0, none⟩)]))
    (hvb : w.heap[vb]? = some (.cells #[.int .i64 5, .int .i64 0, .string ⟨#[]⟩, .slice none 0 0, ov] 25 (0, 0)))
    (hown : w.ownsRow base 25 5 ov n xs) (hn : n ≤ 1000000) (hrv : r ≠ vb) (hvo : ov.ownBlock ≠ some vb) (hro : ov.ownBlock ≠ some r) (hbase : base ≤ w.heap.size)
    (cI : Hid (Calls Tryd.prog 50 #[.pointer (some ⟨cb, 0, none⟩), .pointer (some ⟨db, 0, none⟩)] w (fun e w2 => Only [r] w w2 ∧ ∃ jk jn jt ka kl kc ia il ic, e = .returned (.tuple #[.agg #[.int .i64 jk, .int .i64 jn, .string jt, .slice ka kl kc, .slice ia il ic], .int .i64 x]) ∧ G w2 [.int .i64 jk, .int .i64 jn, .string jt, .slice ka kl kc, .slice ia il ic]))) :
    Calls Tryd.prog 81 #[.pointer (some ⟨ib, 0, none⟩), .pointer (some ⟨vb, 0, none⟩)] w (fun e X => e = .returned (.int .i64 x) ∧ ∃ w2 vs, Only [r] w w2 ∧ G w2 vs ∧ ∃ oa oc, ov = .slice oa n oc ∧ PieceOK base n vb oa oc xs vs w2 X) := by
  obtain ⟨i0, hi0, hz0, hz1, hz2⟩ := info_parts info25
  have hxl : xs.length = n * 5 := hown.1
  obtain ⟨oa, oc, rfl⟩ : ∃ oa oc, ov = .slice oa n oc := by
    rcases hown.2 with ⟨h1, h2⟩ | ⟨g, cap, cur, h1, _⟩
    · exact ⟨none, 0, by rw [h1, h2]⟩
    · exact ⟨_, _, h1⟩
  have lv := (Array.getElem?_eq_some_iff.1 hvb).1
  go_enter Tryd.func81, Tryd.ntmps81
  go_wp2_with fail
  refine cI.out.mono ?_
  rintro e w2 ⟨ho, jk, jn, jt, ka, kl, kc, ia, il, ic, rfl, hG⟩
  have HG := Lib.hid hG
  clear hG
  have hvb2 : w2.heap[vb]? = some (.cells #[.int .i64 5, .int .i64 0, .string ⟨#[]⟩, .slice none 0 0, .slice oa n oc] 25 (0, 0)) := (ho.block vb lv (by simp; exact fun e => hrv e.symm)).trans hvb
  have hown2 : w2.ownsRow base 25 5 (.slice oa n oc) n xs := by
    rcases hown.2 with ⟨h1, h2⟩ | ⟨g, cap, cur, h1, h2, h3, h4⟩
    · exact ⟨hown.1, .inl ⟨h1, h2⟩⟩
    · have hg : g ≠ r := fun e => hro (by rw [h1, e]; rfl)
      exact ⟨hown.1, .inr ⟨g, cap, cur, h1, h2, (ho.block g (Array.getElem?_eq_some_iff.1 h3).1 (by simp; exact hg)).trans h3, h4⟩⟩
  have hz := ho.size
  clear hib hvb hown
  have e1 : (w2.alloc (.cells #[.int .i64 jk, .int .i64 jn, .string jt, .slice ka kl kc, .slice ia il ic] 25)).heap[vb]? = some (.cells #[.int .i64 5, .int .i64 0, .string ⟨#[]⟩, .slice none 0 0, .slice oa n oc] 25 (0, 0)) := (Below.heap_alloc _ _ _ (by omega)).trans hvb2
  have hown3 := hown2.alloc (.cells #[.int .i64 jk, .int .i64 jn, .string jt, .slice ka kl kc, .slice ia il ic] 25)
  have hcx := (cells5 (heap_alloc_new w2 (.cells #[.int .i64 jk, .int .i64 jn, .string jt, .slice ka kl kc, .slice ia il ic] 25))).1
  have hcv4 := (cells5 e1).1.2.2.2.2
  have hfv4 := (cells5 e1).2.2.2.2.2
  have e2 : ((w2.alloc (.cells #[.int .i64 jk, .int .i64 jn, .string jt, .slice ka kl kc, .slice ia il ic] 25)).alloc (.cells #[.int .i64 0, .int .i64 0, .string ⟨#[]⟩, .slice none 0 0, .slice none 0 0] 25)).heap[vb]? = some (.cells #[.int .i64 5, .int .i64 0, .string ⟨#[]⟩, .slice none 0 0, .slice oa n oc] 25 (0, 0)) := (Below.heap_alloc _ _ _ (by simp; omega)).trans e1
  have hcv5 := (cells5 e2).1.2.2.2.2
  have hfv5 := (cells5 e2).2.2.2.2.2
  have E2 := Lib.hid e2
  clear e2
  have newsH : ((w2.alloc (.cells #[.int .i64 jk, .int .i64 jn, .string jt, .slice ka kl kc, .slice ia il ic] 25)).alloc (.cells #[.int .i64 0, .int .i64 0, .string ⟨#[]⟩, .slice none 0 0, .slice none 0 0] 25)).heap[w2.heap.size + 1]? = some (.cells #[.int .i64 0, .int .i64 0, .string ⟨#[]⟩, .slice none 0 0, .slice none 0 0] 25 (0, 0)) := heap_two' w2 _ _
  have hs3 : (w2.alloc (.cells #[.int .i64 jk, .int .i64 jn, .string jt, .slice ka kl kc, .slice ia il ic] 25)).heap.size = w2.heap.size + 1 := by simp
  go_wp2
  go_region_law ((refine step_append_lies _ (by rfl) _ _ _ (by rfl) base 25 i0 _ 5 80 Tryd.underlying22 hi0 hz0 hz1 hz2 rfl (by omega) (.slice oa n oc) n xs (by rfl) (by first | exact hown3.alloc _ | exact (hown3.alloc _).drew | exact hown3.drew.alloc _ | exact (hown3.drew.alloc _).drew) (⟨w2.heap.size + 1, 0, none⟩) 1 1 [.int .i64 0, .int .i64 0, .string ⟨#[]⟩, .slice none 0 0, .slice none 0 0] (by rfl) (by rfl) (World.news_of_block (cs := #[.int .i64 0, .int .i64 0, .string ⟨#[]⟩, .slice none 0 0, .slice none 0 0]) (t := 25) (fr := (0, 0)) (by first | exact newsH | exact (heap_alloc_new _ _))) (by simp [Value.oneCell']) (by omega) (by unfold maxLen; omega) (by omega) (by simp; omega) (w2.heap.size + 2) (by simp) ?_; intro gg cap w4 hown4 hgrow hat hlt; have hgv : gg ≠ vb := ne_row hvo hat (by omega); have hvg : vb ≠ gg := Ne.symm hgv; have hq : (n : Int) < (n : Int) + 1 := (by omega); have u0 := row_new hown4 hxl 0 (by omega); have v0 : w4.frozen? ⟨gg, n * 5, none⟩ = false := World.ownsRow.frozenAt hown4 _; have u1 := row_new hown4 hxl 1 (by omega); have v1 : w4.frozen? ⟨gg, n * 5 + 1, none⟩ = false := World.ownsRow.frozenAt hown4 _; have u2 := row_new hown4 hxl 2 (by omega); have v2 : w4.frozen? ⟨gg, n * 5 + 2, none⟩ = false := World.ownsRow.frozenAt hown4 _; have u3 := row_new hown4 hxl 3 (by omega); have v3 : w4.frozen? ⟨gg, n * 5 + 3, none⟩ = false := World.ownsRow.frozenAt hown4 _; have u4 := row_new hown4 hxl 4 (by omega); have v4 : w4.frozen? ⟨gg, n * 5 + 4, none⟩ = false := World.ownsRow.frozenAt hown4 _; have y4 : w4.cell? ⟨vb, 4, none⟩ = some (.slice oa n oc) := (hgrow.cell_far _ (by first | (simp; done) | (simp; omega)) (Ne.symm hvo)).trans (by exact hcv5); have y5 : w4.frozen? ⟨vb, 4, none⟩ = false := (hgrow.frozen_far _ (by first | (simp; done) | (simp; omega)) (Ne.symm hvo)).trans (by exact hfv5); simp only [List.getElem?_cons_zero, List.getElem?_cons_succ, Nat.add_zero] at u0 u1 u2 u3 u4))
  all_goals (have hvb4 : w4.heap[vb]? = some (.cells #[.int .i64 5, .int .i64 0, .string ⟨#[]⟩, .slice none 0 0, .slice oa n oc] 25 (0, 0)) := (hgrow.block vb (by first | (simp; omega) | (simp; done)) (Ne.symm hvo)).trans (by exact E2.out))
  all_goals (have hat2 := row_new_or hat (by omega : w2.heap.size ≤ w2.heap.size + 2))
  all_goals (have hk3 := (by first | exact ((Keeps.refl w2).alloc _).alloc _ : Keeps w2 ((w2.alloc (.cells #[.int .i64 jk, .int .i64 jn, .string jt, .slice ka kl kc, .slice ia il ic] 25)).alloc (.cells #[.int .i64 0, .int .i64 0, .string ⟨#[]⟩, .slice none 0 0, .slice none 0 0] 25))))
  all_goals (clear u0 u1 u2 u3 u4 v0 v1 v2 v3 v4 y4 y5)
  all_goals go_wp2
  all_goals go_ret
  all_goals (refine ⟨rfl, w2, _, ho, HG.out, oa, oc, rfl, ?_⟩)
  all_goals (have hgr : ((w2.alloc (.cells #[.int .i64 jk, .int .i64 jn, .string jt, .slice ka kl kc, .slice ia il ic] 25)).alloc (.cells #[.int .i64 0, .int .i64 0, .string ⟨#[]⟩, .slice none 0 0, .slice none 0 0] 25)).grownBy w4 (Value.slice oa n oc).ownBlock := ⟨hgrow.os, hgrow.tape, hgrow.output, hgrow.size, hgrow.block⟩)
  all_goals (first | (with_reducible exact PieceOK.mk_a2 hgr hk3 hxl hown4 hvb4 hat2 hgv) | (with_reducible exact PieceOK.mk_b2 hgr hk3 hxl hown4 hvb4 hat2 hgv))
end Go.Proofs.YtljkeladdplhlaaDoor
