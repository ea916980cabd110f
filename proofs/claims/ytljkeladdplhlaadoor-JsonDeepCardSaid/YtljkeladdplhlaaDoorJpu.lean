/-
  What package json reads, as plain functions on bytes; what a value in memory is.
-/
import Derived.Test.YtljkeladdplhlaaDoorPur
import Derived.Test.YtljkeladdplhlaaDoorBase
namespace Go.Proofs.YtljkeladdplhlaaDoor
open Go.RowKit

/-- A JSON value: its kind, number, text, keys, items. -/
inductive J where
  | mk (kind n : Int) (text : List UInt8) (keys : List (List UInt8)) (items : List J) : J
def J.zero : J := .mk 0 0 [] [] []
def J.items : J → List J
  | .mk _ _ _ _ is => is
abbrev JR := J × Nat × Nat
def jerr (e : Nat) : JR := (J.zero, 0, e)

def textJ (l : List UInt8) : JR := if (unqL l).2.2 ≠ 0 then jerr (unqL l).2.2 else (.mk 4 0 (unqL l).1 [] [], (unqL l).2.1, 0)
def numJ (l : List UInt8) : JR := if (readL l).2.2 ≠ 0 then jerr (readL l).2.2 else (.mk 3 (readL l).1 [] [] [], (readL l).2.1, 0)
def trueL : List UInt8 := [116, 114, 117, 101]
def falseL : List UInt8 := [102, 97, 108, 115, 101]
def nullL : List UInt8 := [110, 117, 108, 108]
def wordJ (l : List UInt8) : JR :=
  if wordL l = trueL then (.mk 2 1 [] [] [], 4, 0) else if wordL l = falseL then (.mk 2 0 [] [] [], 5, 0) else if wordL l = nullL then (.mk 1 0 [] [] [], 4, 0)
  else if Lib.hasPrefix trueL l = true ∨ Lib.hasPrefix falseL l = true ∨ Lib.hasPrefix nullL l = true then jerr 3 else jerr 5

/-- The pieces of a list: the items, how far, the error. -/
def loopL (rd : List UInt8 → JR) : Nat → List UInt8 → List J → Nat → List J × Nat × Nat
  | 0, _, _, _ => ([], 0, 3)
  | k + 1, l, acc, n =>
    if (rd l).2.2 ≠ 0 then ([], 0, (rd l).2.2)
    else match (l.drop (rd l).2.1).drop (spaceL (l.drop (rd l).2.1)) with
      | [] => ([], 0, 3)
      | c :: t =>
        if c.toNat = 44 then loopL rd k (t.drop (spaceL t)) (acc ++ [(rd l).1]) (n + (rd l).2.1 + spaceL (l.drop (rd l).2.1) + 1 + spaceL t)
        else if c.toNat = 93 then (acc ++ [(rd l).1], n + (rd l).2.1 + spaceL (l.drop (rd l).2.1) + 1, 0)
        else ([], 0, 5)
def listJ (rd : List UInt8 → JR) (l : List UInt8) : JR :=
  let r := (l.drop 1).drop (spaceL (l.drop 1))
  if (r.getD 0 0).toNat = 93 then (.mk 5 0 [] [] [], 2 + spaceL (l.drop 1), 0)
  else if (loopL rd (l.length + 1) r [] (1 + spaceL (l.drop 1))).2.2 ≠ 0 then jerr (loopL rd (l.length + 1) r [] (1 + spaceL (l.drop 1))).2.2
  else (.mk 5 0 [] [] (loopL rd (l.length + 1) r [] (1 + spaceL (l.drop 1))).1, (loopL rd (l.length + 1) r [] (1 + spaceL (l.drop 1))).2.1, 0)

/-- A colon behind a key: how far, the error. -/
def colonL (l : List UInt8) : Nat × Nat :=
  match l.drop (spaceL l) with
  | [] => (0, 3)
  | c :: t => if c.toNat = 58 then (spaceL l + 1 + spaceL t, 0) else (0, 5)
/-- The pieces of an object: the keys, the items, how far, the error. -/
def loopO (rd : List UInt8 → JR) : Nat → List UInt8 → List (List UInt8) → List J → Nat → List (List UInt8) × List J × Nat × Nat
  | 0, _, _, _, _ => ([], [], 0, 3)
  | k + 1, l, keys, acc, n =>
    if (unqL l).2.2 ≠ 0 then ([], [], 0, (unqL l).2.2)
    else if (unqL l).1 ∈ keys then ([], [], 0, 8)
    else if (colonL (l.drop (unqL l).2.1)).2 ≠ 0 then ([], [], 0, (colonL (l.drop (unqL l).2.1)).2)
    else
      let u := l.drop ((unqL l).2.1 + (colonL (l.drop (unqL l).2.1)).1)
      let at_ := n + (unqL l).2.1 + (colonL (l.drop (unqL l).2.1)).1
      if (rd u).2.2 ≠ 0 then ([], [], 0, (rd u).2.2)
      else match (u.drop (rd u).2.1).drop (spaceL (u.drop (rd u).2.1)) with
        | [] => ([], [], 0, 3)
        | c :: t =>
          if c.toNat = 44 then loopO rd k (t.drop (spaceL t)) (keys ++ [(unqL l).1]) (acc ++ [(rd u).1]) (at_ + (rd u).2.1 + spaceL (u.drop (rd u).2.1) + 1 + spaceL t)
          else if c.toNat = 125 then (keys ++ [(unqL l).1], acc ++ [(rd u).1], at_ + (rd u).2.1 + spaceL (u.drop (rd u).2.1) + 1, 0)
          else ([], [], 0, 5)
def objJ (rd : List UInt8 → JR) (l : List UInt8) : JR :=
  let r := (l.drop 1).drop (spaceL (l.drop 1))
  if (r.getD 0 0).toNat = 125 then (.mk 6 0 [] [] [], 2 + spaceL (l.drop 1), 0)
  else if (loopO rd (l.length + 1) r [] [] (1 + spaceL (l.drop 1))).2.2.2 ≠ 0 then jerr (loopO rd (l.length + 1) r [] [] (1 + spaceL (l.drop 1))).2.2.2
  else (.mk 6 0 [] (loopO rd (l.length + 1) r [] [] (1 + spaceL (l.drop 1))).1 (loopO rd (l.length + 1) r [] [] (1 + spaceL (l.drop 1))).2.1, (loopO rd (l.length + 1) r [] [] (1 + spaceL (l.drop 1))).2.2.1, 0)

def headJ (li ob : List UInt8 → JR) : List UInt8 → JR
  | [] => jerr 3
  | c :: t =>
    if c.toNat = 34 then textJ (c :: t) else if c.toNat = 45 ∨ digB c = true then numJ (c :: t)
    else if c.toNat = 116 ∨ c.toNat = 102 ∨ c.toNat = 110 then wordJ (c :: t)
    else if c.toNat = 91 then li (c :: t) else if c.toNat = 123 then ob (c :: t) else jerr 5
def valueJ : Nat → List UInt8 → JR
  | 0, l => headJ (fun _ => jerr 7) (fun _ => jerr 7) l
  | d + 1, l => headJ (listJ (valueJ d)) (objJ (valueJ d)) l

/-- Cells, one after the other. -/
def CellsAt (w : World) (g o : Nat) (vs : List Value) : Prop := ∀ (j : Nat) (v : Value), vs[j]? = some v → w.cell? ⟨g, o + j, none⟩ = some v
/-- A list of texts in memory, in blocks of a kind. -/
def IsTexts (w : World) (F : Nat → Prop) (v : Value) (ks : List (List UInt8)) : Prop :=
  (v = .slice none 0 0 ∧ ks = []) ∨ ∃ g o cap, v = .slice (some ⟨g, o, none⟩) ks.length cap ∧ F g ∧ CellsAt w g o (ks.map fun k => .string (S k))

mutual
/-- A value in memory, in blocks of a kind. -/
def IsJ (w : World) (F : Nat → Prop) : J → Value → Prop
  | .mk k n t ks is, v => ∃ kv iv, v = .agg #[.int .i64 k, .int .i64 n, .string (S t), kv, iv] ∧ IsTexts w F kv ks ∧
      ((iv = .slice none 0 0 ∧ is = []) ∨ ∃ g o cap, iv = .slice (some ⟨g, o, none⟩) is.length cap ∧ F g ∧ AreJ w F g o is)
/-- Values in memory, one after the other. -/
def AreJ (w : World) (F : Nat → Prop) (g o : Nat) : List J → Prop
  | [] => True
  | j :: t => (∃ c0 c1 c2 c3 c4 : Value, CellsAt w g o [c0, c1, c2, c3, c4] ∧ IsJ w F j (.agg #[c0, c1, c2, c3, c4])) ∧ AreJ w F g (o + 5) t
end

theorem CellsAt.block {w w' : World} {g o : Nat} {vs : List Value} (h : CellsAt w g o vs) (k : w'.heap[g]? = w.heap[g]?) : CellsAt w' g o vs := fun j v hj => (World.cell?_of_block (w := w) k).trans (h j v hj)
theorem IsTexts.keeps {w w' : World} {F : Nat → Prop} {v : Value} {ks : List (List UInt8)} (h : IsTexts w F v ks) (k : ∀ i, F i → w'.heap[i]? = w.heap[i]?) : IsTexts w' F v ks := by
  rcases h with h | ⟨g, o, cap, h1, hf, h2⟩
  · exact .inl h
  · exact .inr ⟨g, o, cap, h1, hf, h2.block (k g hf)⟩
theorem IsTexts.mono {w : World} {F G : Nat → Prop} {v : Value} {ks : List (List UInt8)} (h : IsTexts w F v ks) (k : ∀ i, F i → G i) : IsTexts w G v ks := by
  rcases h with h | ⟨g, o, cap, h1, hf, h2⟩
  · exact .inl h
  · exact .inr ⟨g, o, cap, h1, k g hf, h2⟩
mutual
theorem IsJ.keeps {w w' : World} {F : Nat → Prop} (k : ∀ i, F i → w'.heap[i]? = w.heap[i]?) : ∀ (j : J) (v : Value), IsJ w F j v → IsJ w' F j v
  | .mk a n t ks is, v, h => by
    unfold IsJ at h ⊢
    obtain ⟨kv, iv, h1, h2, h3⟩ := h
    refine ⟨kv, iv, h1, h2.keeps k, ?_⟩
    rcases h3 with h3 | ⟨g, o, cap, h4, hf, h5⟩
    · exact .inl h3
    · exact .inr ⟨g, o, cap, h4, hf, AreJ.keeps k g o (k g hf) is h5⟩
theorem AreJ.keeps {w w' : World} {F : Nat → Prop} (k : ∀ i, F i → w'.heap[i]? = w.heap[i]?) (g o : Nat) (hg : w'.heap[g]? = w.heap[g]?) : ∀ (is : List J), AreJ w F g o is → AreJ w' F g o is
  | [], _ => by unfold AreJ; trivial
  | j :: t, h => by
    unfold AreJ at h ⊢
    obtain ⟨⟨c0, c1, c2, c3, c4, h2, h3⟩, h4⟩ := h
    exact ⟨⟨c0, c1, c2, c3, c4, h2.block hg, IsJ.keeps k j _ h3⟩, AreJ.keeps k g (o + 5) hg t h4⟩
end
mutual
theorem IsJ.mono {w : World} {F G : Nat → Prop} (k : ∀ i, F i → G i) : ∀ (j : J) (v : Value), IsJ w F j v → IsJ w G j v
  | .mk a n t ks is, v, h => by
    unfold IsJ at h ⊢
    obtain ⟨kv, iv, h1, h2, h3⟩ := h
    refine ⟨kv, iv, h1, h2.mono k, ?_⟩
    rcases h3 with h3 | ⟨g, o, cap, h4, hf, h5⟩
    · exact .inl h3
    · exact .inr ⟨g, o, cap, h4, k g hf, AreJ.mono k g o is h5⟩
theorem AreJ.mono {w : World} {F G : Nat → Prop} (k : ∀ i, F i → G i) (g o : Nat) : ∀ (is : List J), AreJ w F g o is → AreJ w G g o is
  | [], _ => by unfold AreJ; trivial
  | j :: t, h => by
    unfold AreJ at h ⊢
    obtain ⟨⟨c0, c1, c2, c3, c4, h2, h3⟩, h4⟩ := h
    exact ⟨⟨c0, c1, c2, c3, c4, h2, IsJ.mono k j _ h3⟩, AreJ.mono k g (o + 5) t h4⟩
end
/-- The json zero, as a value. -/
def zeroV : Value := .agg #[.int .i64 0, .int .i64 0, .string ⟨#[]⟩, .slice none 0 0, .slice none 0 0]
theorem IsJ.plain (w : World) (F : Nat → Prop) (k n : Int) (t : List UInt8) : IsJ w F (.mk k n t [] []) (.agg #[.int .i64 k, .int .i64 n, .string (S t), .slice none 0 0, .slice none 0 0]) := by
  unfold IsJ
  exact ⟨_, _, rfl, .inl ⟨rfl, rfl⟩, .inl ⟨rfl, rfl⟩⟩
end Go.Proofs.YtljkeladdplhlaaDoor
