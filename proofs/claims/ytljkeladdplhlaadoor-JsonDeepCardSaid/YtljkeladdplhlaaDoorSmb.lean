/-
  Same, of package json: pairs of lists still to come.
-/
import Derived.Test.YtljkeladdplhlaaDoorSam
import Derived.Deep.LoopGhost
import Derived.Deep.AppendLies
namespace Go.Proofs.YtljkeladdplhlaaDoor
open Go.RowKit

theorem info58 : (Tryd.prog.info? 58).map (fun i => (i.zero, i.size, i.bytes)) = some (some (.agg #[.slice none 0 0, .slice none 0 0]), 2, 48) := by kernel_rfl
/-- Two lists that are as long as one another, and hold nothing too long. -/
def PG (p : List J × List J) : Prop := p.1.length = p.2.length ∧ SmL p.1 ∧ SmL p.2
/-- Pairs of lists, in a row. -/
def PStk (w : World) (F : Nat → Prop) : List (List J × List J) → List Value → Prop
  | [], xs => xs = []
  | p :: ps, xs => ∃ u v vs, xs = u :: v :: vs ∧ IsItems w F u p.1 ∧ IsItems w F v p.2 ∧ PG p ∧ PStk w F ps vs
theorem PStk.snoc {w : World} {F : Nat → Prop} {p : List J × List J} {u v : Value} (h1 : IsItems w F u p.1) (h2 : IsItems w F v p.2) (h3 : PG p) : ∀ (ps : List (List J × List J)) (xs : List Value), PStk w F ps xs → PStk w F (ps ++ [p]) (xs ++ [u, v])
  | [], _, e => by
    have e : _ = [] := e
    subst e
    exact ⟨u, v, [], rfl, h1, h2, h3, rfl⟩
  | q :: ps, _, ⟨a, b, vs, e, k1, k2, k3, k4⟩ => by
    subst e
    exact ⟨a, b, vs ++ [u, v], rfl, k1, k2, k3, PStk.snoc h1 h2 h3 ps vs k4⟩
theorem PStk.unsnoc {w : World} {F : Nat → Prop} {p : List J × List J} : ∀ (ps : List (List J × List J)) (xs : List Value), PStk w F (ps ++ [p]) xs → ∃ ys u v, xs = ys ++ [u, v] ∧ PStk w F ps ys ∧ IsItems w F u p.1 ∧ IsItems w F v p.2 ∧ PG p
  | [], _, ⟨a, b, vs, e, k1, k2, k3, k4⟩ => by
    have k4 : vs = [] := k4
    subst k4
    exact ⟨[], a, b, e, rfl, k1, k2, k3⟩
  | q :: ps, _, ⟨a, b, vs, e, k1, k2, k3, k4⟩ => by
    obtain ⟨ys, u, v, e2, h1, h2⟩ := PStk.unsnoc ps vs k4
    exact ⟨a :: b :: ys, u, v, by rw [e, e2]; rfl, ⟨a, b, ys, rfl, k1, k2, k3, h1⟩, h2⟩
theorem own_pop2 {w : World} {B e g n cap : Nat} {xs : List Value} {x y : Value} (h : w.ownsRow B e 2 (.slice (some ⟨g, 0, none⟩) (n + 1) cap) (n + 1) (xs ++ [x, y])) :
    w.ownsRow B e 2 (.slice (some ⟨g, 0, none⟩) n cap) n xs ∧ w.cell? ⟨g, n * 2, none⟩ = some x ∧ w.cell? ⟨g, n * 2 + 1, none⟩ = some y ∧ n + 1 ≤ cap := by
  obtain ⟨hl, h1⟩ := h
  have hx : xs.length = n * 2 := by simp at hl; omega
  have hc0 := World.ownsRow.cellAt ⟨hl, h1⟩ (n * 2) (by omega)
  have hc1 := World.ownsRow.cellAt ⟨hl, h1⟩ (n * 2 + 1) (by omega)
  rw [List.getElem?_append_right (by omega), hx, Nat.sub_self] at hc0
  rw [List.getElem?_append_right (by omega), hx, Nat.add_sub_cancel_left] at hc1
  rcases h1 with ⟨h1, _⟩ | ⟨g', cap', cur, h1, h2, h3, h4, h5, h6, h7⟩
  · simp at h1
  · simp only [Value.slice.injEq, Option.some.injEq, Addr.mk.injEq, and_true, true_and] at h1
    obtain ⟨rfl, rfl⟩ := h1
    refine ⟨⟨by omega, .inr ⟨g, cap, cur, rfl, h2, h3, by omega, h5, h6, ?_⟩⟩, by simpa using hc0, by simpa using hc1, h4⟩
    have : cur.toList.take (n * 2) = (cur.toList.take ((n + 1) * 2)).take (n * 2) := by rw [List.take_take]; congr 1; omega
    rw [this, h7, List.take_append_of_le_length (by omega), List.take_of_length_le (by omega)]
def AllEq (ps : List (List J × List J)) : Prop := ∀ p, p ∈ ps → p.1 = p.2
def muP : List (List J × List J) → Nat
  | [] => 0
  | p :: t => 1 + nodesL p.1 + muP t
theorem muP_snoc (ps : List (List J × List J)) (p : List J × List J) : muP (ps ++ [p]) = muP ps + (1 + nodesL p.1) := by
  induction ps with
  | nil => simp [muP]
  | cons x t ih => simp only [List.cons_append, muP, ih]; omega
theorem muP_len : ∀ ps : List (List J × List J), ps.length ≤ muP ps
  | [] => Nat.le_refl _
  | p :: t => by have := muP_len t; simp only [muP, List.length_cons]; omega
theorem AllEq.snoc (ps : List (List J × List J)) (p : List J × List J) : AllEq (ps ++ [p]) ↔ AllEq ps ∧ p.1 = p.2 := by
  unfold AllEq
  constructor
  · intro h
    exact ⟨fun q hq => h q (by simp [hq]), h p (by simp)⟩
  · rintro ⟨h1, h2⟩ q hq
    rcases List.mem_append.1 hq with h | h
    · exact h1 q h
    · rw [List.mem_singleton.1 h]; exact h2
theorem J_eq (k1 n1 k2 n2 : Int) (t1 t2 : List UInt8) (ks1 ks2 : List (List UInt8)) (i1 i2 : List J) : (J.mk k1 n1 t1 ks1 i1 = J.mk k2 n2 t2 ks2 i2) ↔ (sameB k1 n1 t1 ks1 i1.length k2 n2 t2 ks2 i2.length = true ∧ i1 = i2) := by
  unfold sameB
  rw [decide_eq_true_iff, J.mk.injEq]
  constructor
  · rintro ⟨a, b, c, d, e⟩; exact ⟨⟨a, b, c, d, by rw [e]⟩, e⟩
  · rintro ⟨⟨a, b, c, d, _⟩, e⟩; exact ⟨a, b, c, d, e⟩

/-- A call of Same. -/
def SameRet (T : Prop) (w : World) (e : Ending) (w' : World) : Prop := ∃ r : Bool, e = .returned (.bool r) ∧ (r = true ↔ T) ∧ Keeps w w'
/-- Where the outer loop stands. -/
def SamAt (T : Prop) (w W : World) (F : Nat → Prop) (B : Nat) (ps : List (List J × List J)) (v5 : Value) (wr : World) : Prop :=
  Keeps w wr ∧ Below B W wr ∧ B ≤ wr.heap.size ∧ (∃ xs, wr.ownsRow B 58 2 v5 ps.length xs ∧ PStk W F ps xs) ∧ (T ↔ AllEq ps)
/-- Where the inner loop stands. -/
def SamIn (T : Prop) (w W : World) (F : Nat → Prop) (B : Nat) (la lb : List J) (k : Nat) (ps : List (List J × List J)) (v5 : Value) (wr : World) : Prop :=
  Keeps w wr ∧ Below B W wr ∧ B ≤ wr.heap.size ∧ (∃ xs, wr.ownsRow B 58 2 v5 ps.length xs ∧ PStk W F ps xs) ∧ (T ↔ AllEq ps ∧ la.drop k = lb.drop k)
theorem Below.cellB {B : Nat} {W wr : World} (h : Below B W wr) {p : Addr} {v : Value} (hc : W.cell? p = some v) (hp : p.block < B) : wr.cell? p = some v := (Below.cell h hp).trans hc
end Go.Proofs.YtljkeladdplhlaaDoor
