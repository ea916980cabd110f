/-
  What package scan answers, as plain functions on bytes.
-/
import Derived.Test.YtljkeladdplhlaaDoorBase
import Derived.Test.YtljkeladdplhlaaDoorDec
import Derived.Lib.Strings
namespace Go.Proofs.YtljkeladdplhlaaDoor
open Go.RowKit

def blankB (c : UInt8) : Bool := c.toNat == 32 || c.toNat == 9 || c.toNat == 10 || c.toNat == 13
def digB (c : UInt8) : Bool := decide (48 ≤ c.toNat ∧ c.toNat ≤ 57)
def hexB (c : UInt8) : Bool := decide (48 ≤ c.toNat ∧ c.toNat ≤ 57) || decide (97 ≤ c.toNat ∧ c.toNat ≤ 102) || decide (65 ≤ c.toNat ∧ c.toNat ≤ 70)
def hexV (c : UInt8) : Nat := if 48 ≤ c.toNat ∧ c.toNat ≤ 57 then c.toNat - 48 else if 97 ≤ c.toNat ∧ c.toNat ≤ 102 then c.toNat - 87 else if 65 ≤ c.toNat ∧ c.toNat ≤ 70 then c.toNat - 55 else 0

def spaceL (l : List UInt8) : Nat := (l.takeWhile blankB).length

/-- Digits to the base 16: the number, the error. -/
def hexF : Nat → List UInt8 → Nat → Nat × Nat
  | 0, _, r => (r, 0)
  | _ + 1, [], _ => (0, 3)
  | k + 1, c :: t, r => if hexB c = true then hexF k t (r * 16 + hexV c) else (0, 5)
def hex4 (l : List UInt8) : Nat × Nat := hexF 4 l 0
def lowT (l : List UInt8) : Nat × Nat :=
  if (hex4 l).2 ≠ 0 then (0, (hex4 l).2) else if (hex4 l).1 < 56320 ∨ 57343 < (hex4 l).1 then (0, 6) else ((hex4 l).1, 0)
def lowS (l : List UInt8) : Nat × Nat :=
  if l.length = 0 then (0, 3) else if (l.getD 0 0).toNat ≠ 92 then (0, 6) else if l.length = 1 then (0, 3) else if (l.getD 1 0).toNat ≠ 117 then (0, 6) else lowT (l.drop 2)

/-- What a piece of a literal stands for, how many bytes it has, the error. -/
abbrev Piece := List UInt8 × Nat × Nat
def codeL (l : List UInt8) : Piece :=
  if (hex4 (l.drop 2)).2 ≠ 0 then ([], 0, (hex4 (l.drop 2)).2)
  else if (hex4 (l.drop 2)).1 < 55296 ∨ 57343 < (hex4 (l.drop 2)).1 then (Lib.encodeRune ((hex4 (l.drop 2)).1 : Int), 6, 0)
  else if 56320 ≤ (hex4 (l.drop 2)).1 then ([], 0, 6)
  else if (lowS (l.drop 6)).2 ≠ 0 then ([], 0, (lowS (l.drop 6)).2)
  else (Lib.encodeRune ((65536 + ((hex4 (l.drop 2)).1 - 55296) * 1024 + ((lowS (l.drop 6)).1 - 56320) : Nat) : Int), 12, 0)
def escB (c : UInt8) : Bool := [34, 92, 47, 98, 102, 110, 114, 116].contains c.toNat
def escV (c : UInt8) : UInt8 := if c.toNat = 98 then 8 else if c.toNat = 102 then 12 else if c.toNat = 110 then 10 else if c.toNat = 114 then 13 else if c.toNat = 116 then 9 else if escB c = true then c else 0
def escL (l : List UInt8) : Piece :=
  if l.length < 2 then ([], 0, 3) else if (l.getD 1 0).toNat = 117 then codeL l else if escB (l.getD 1 0) = true then ([escV (l.getD 1 0)], 2, 0) else ([], 0, 5)
def pieceL (l : List UInt8) : Piece :=
  if (l.getD 0 0).toNat < 32 then ([], 0, 5) else if (l.getD 0 0).toNat = 92 then escL l else if badD (decL l) = true then ([], 0, 6) else (Lib.encodeRune ((decL l).1 : Int), (decL l).2, 0)

/-- What stands behind the opening quote. -/
def unqF : Nat → List UInt8 → Piece
  | 0, _ => ([], 0, 3)
  | _ + 1, [] => ([], 0, 3)
  | k + 1, c :: t =>
    if c.toNat = 34 then ([], 1, 0)
    else if (pieceL (c :: t)).2.2 ≠ 0 then ([], 0, (pieceL (c :: t)).2.2)
    else if (unqF k ((c :: t).drop (pieceL (c :: t)).2.1)).2.2 ≠ 0 then ([], 0, (unqF k ((c :: t).drop (pieceL (c :: t)).2.1)).2.2)
    else ((pieceL (c :: t)).1 ++ (unqF k ((c :: t).drop (pieceL (c :: t)).2.1)).1, (pieceL (c :: t)).2.1 + (unqF k ((c :: t).drop (pieceL (c :: t)).2.1)).2.1, 0)
def joinU (acc : List UInt8) (at_ : Nat) (u : Piece) : Piece := if u.2.2 ≠ 0 then ([], 0, u.2.2) else (acc ++ u.1, at_ + u.2.1, 0)
def unqL (l : List UInt8) : Piece :=
  if l.length = 0 then ([], 0, 3) else if (l.getD 0 0).toNat ≠ 34 then ([], 0, 5) else joinU [] 1 (unqF l.length (l.drop 1))

theorem piece_pos (l : List UInt8) (h : l ≠ []) (e : (pieceL l).2.2 = 0) : 1 ≤ (pieceL l).2.1 := by
  revert e
  unfold pieceL
  split
  · simp
  · split
    · unfold escL
      split
      · simp
      · split
        · unfold codeL
          split
          · intro e; simp at e; contradiction
          · split
            · simp
            · split
              · simp
              · split
                · intro e; simp at e; contradiction
                · simp
        · split <;> simp
    · split
      · simp
      · rename_i hb
        intro _
        have hg := dec_good l h (by simpa using hb)
        have := congrArg List.length hg.2.2
        have h1 := Lib.encodeRuneZ_length ((decL l).1 : Int)
        have h2 : (Lib.encodeRune ((decL l).1 : Int)).length = (Lib.encodeRuneZ ((decL l).1 : Int)).length := by simp [Lib.encodeRune]
        simp only [List.length_take] at this
        show 1 ≤ (decL l).2
        omega

theorem joinU_err (acc : List UInt8) (a : Nat) (u : Piece) (h : u.2.2 ≠ 0) : joinU acc a u = ([], 0, u.2.2) := by simp [joinU, h]
theorem joinU_end (acc : List UInt8) (a k : Nat) (c : UInt8) (t : List UInt8) (h : c.toNat = 34) : joinU acc a (unqF (k + 1) (c :: t)) = (acc, a + 1, 0) := by
  simp [joinU, unqF, h]
theorem joinU_bad (acc : List UInt8) (a k : Nat) (c : UInt8) (t : List UInt8) (h : c.toNat ≠ 34) (e : (pieceL (c :: t)).2.2 ≠ 0) : joinU acc a (unqF (k + 1) (c :: t)) = ([], 0, (pieceL (c :: t)).2.2) := by
  rw [unqF, if_neg h, if_pos e]; exact joinU_err _ _ _ e
theorem joinU_step (acc : List UInt8) (a k : Nat) (c : UInt8) (t : List UInt8) (h : c.toNat ≠ 34) (e : (pieceL (c :: t)).2.2 = 0) : joinU acc a (unqF (k + 1) (c :: t)) = joinU (acc ++ (pieceL (c :: t)).1) (a + (pieceL (c :: t)).2.1) (unqF k ((c :: t).drop (pieceL (c :: t)).2.1)) := by
  rw [unqF, if_neg h, if_neg (by simpa using e)]
  generalize unqF k ((c :: t).drop (pieceL (c :: t)).2.1) = u
  generalize pieceL (c :: t) = p
  unfold joinU
  by_cases hu : u.2.2 = 0
  · simp [hu, List.append_assoc, Nat.add_assoc]
  · simp [hu]
theorem unqF_none (k : Nat) (l : List UInt8) (h : l = []) : unqF k l = ([], 0, 3) := by
  subst h; cases k <;> rfl

/-- Validity of a text. -/
def validF : Nat → List UInt8 → Bool
  | 0, _ => true
  | _ + 1, [] => true
  | k + 1, c :: t => if badD (decL (c :: t)) = true then false else validF k ((c :: t).drop (decL (c :: t)).2)
def validL (l : List UInt8) : Bool := validF l.length l
theorem dec_pos (l : List UInt8) : 1 ≤ (decL l).2 := by
  unfold decL Lib.decodeN
  repeat' split
  all_goals simp
theorem prefix_bad (l : List UInt8) (h : l ≠ []) (e : (decL l).1 = 65533) : Lib.hasPrefix l [239, 191, 189] = !badD (decL l) := by
  cases hb : badD (decL l)
  · have hg := (dec_good l h hb).2.2
    rw [e] at hg
    have hx : Lib.encodeRune ((65533 : Nat) : Int) = [239, 191, 189] := by decide
    rw [hx] at hg
    have hl : l = [239, 191, 189] ++ l.drop (decL l).2 := by rw [← hg]; simp
    rw [hl]; rfl
  · cases hp : Lib.hasPrefix l [239, 191, 189]
    · rfl
    · exfalso
      have hl : ∃ t, l = [239, 191, 189] ++ t := by
        match l, hp with
        | [], hp => simp [Lib.hasPrefix] at hp
        | [a], hp => simp [Lib.hasPrefix] at hp
        | [a, b], hp => simp [Lib.hasPrefix] at hp
        | a :: b :: c :: t, hp =>
          simp [Lib.hasPrefix] at hp
          exact ⟨t, by simp [hp]⟩
      obtain ⟨t, rfl⟩ := hl
      have hd := dec_enc 65533 (by unfold scalar; omega) t
      have hx : Lib.encodeRune ((65533 : Nat) : Int) = [239, 191, 189] := by decide
      rw [hx] at hd
      rw [hd] at hb
      simp [badD] at hb

/-- A byte in a literal, in its one form. -/
def hexD (n : Nat) : UInt8 := [48, 49, 50, 51, 52, 53, 54, 55, 56, 57, 97, 98, 99, 100, 101, 102].getD n 0
def toldN (n : Nat) : List UInt8 :=
  if n = 34 then [92, 34] else if n = 92 then [92, 92] else if n = 8 then [92, 98] else if n = 12 then [92, 102] else if n = 10 then [92, 110] else if n = 13 then [92, 114] else if n = 9 then [92, 116]
  else if n < 32 then [92, 117, 48, 48, hexD (n / 16), hexD (n % 16)] else [n.toUInt8]
def told (c : UInt8) : List UInt8 := toldN c.toNat
/-- What is written for a code point. -/
def qrun (r : Nat) : List UInt8 := if r < 128 then toldN r else Lib.encodeRune (r : Int)
def quoteL (l : List UInt8) : List UInt8 := 34 :: (l.flatMap told ++ [34])
theorem told_high (c : UInt8) (h : 128 ≤ c.toNat) : told c = [c] := by
  unfold told toldN
  rw [if_neg (by omega), if_neg (by omega), if_neg (by omega), if_neg (by omega), if_neg (by omega), if_neg (by omega), if_neg (by omega), if_neg (by omega)]
  simp
theorem enc_high (r : Nat) (h : 128 ≤ r) : ∀ c ∈ Lib.encodeRune (r : Int), 128 ≤ c.toNat := by
  intro c hc
  by_cases h2 : r ≤ 2047
  · rw [enc_two h h2] at hc
    simp only [List.mem_cons, List.not_mem_nil, or_false] at hc
    rcases hc with rfl | rfl <;> (rw [u8n (by omega)]; omega)
  · by_cases h3 : (2048 ≤ r ∧ r < 55296) ∨ (57343 < r ∧ r ≤ 65535)
    · rw [enc_three h3] at hc
      simp only [List.mem_cons, List.not_mem_nil, or_false] at hc
      rcases hc with rfl | rfl | rfl <;> (rw [u8n (by omega)]; omega)
    · by_cases h4 : 65536 ≤ r ∧ r ≤ 1114111
      · rw [enc_four h4.1 h4.2] at hc
        simp only [List.mem_cons, List.not_mem_nil, or_false] at hc
        rcases hc with rfl | rfl | rfl | rfl <;> (rw [u8n (by omega)]; omega)
      · unfold Lib.encodeRune at hc
        rw [Lib.encodeRuneZ_bad (by omega)] at hc
        simp at hc
        rcases hc with rfl | rfl | rfl <;> decide
theorem flat_high (l : List UInt8) (h : ∀ c ∈ l, 128 ≤ c.toNat) : l.flatMap told = l := by
  induction l with
  | nil => rfl
  | cons c t ih =>
    rw [List.flatMap_cons, told_high c (h c (by simp)), ih (fun x hx => h x (by simp [hx]))]
    rfl
theorem qrun_enc (r : Nat) : (Lib.encodeRune (r : Int)).flatMap told = qrun r := by
  unfold qrun
  by_cases h : r < 128
  · rw [if_pos h, enc_one (by omega)]
    simp only [List.flatMap_cons, List.flatMap_nil, List.append_nil, told]
    rw [u8n (by omega)]
  · rw [if_neg h]; exact flat_high _ (enc_high r (by omega))
theorem toldN_len (n : Nat) : (toldN n).length ≤ 6 := by
  unfold toldN
  repeat' split
  all_goals simp
theorem enc_len (r : Int) : 1 ≤ (Lib.encodeRune r).length ∧ (Lib.encodeRune r).length ≤ 4 := by
  have h1 := Lib.encodeRuneZ_length r
  have h2 : (Lib.encodeRune r).length = (Lib.encodeRuneZ r).length := by simp [Lib.encodeRune]
  omega
theorem qrun_len (r : Nat) : (qrun r).length ≤ 6 := by
  unfold qrun
  split
  · exact toldN_len r
  · have := (enc_len (r : Int)).2; omega

/-- Digits: how many, and the number, which stops growing beyond the greatest. -/
def capS (n : Int) (c : UInt8) : Int := if 9007199254740991 < n then n else 10 * n + ((c.toNat : Int) - 48)
def capN (l : List UInt8) : Int := l.foldl capS 0
def digs (l : List UInt8) : List UInt8 := l.takeWhile digB
/-- The number that bytes begin with, how many bytes it has, the error. -/
def readS (start : Nat) (l : List UInt8) : Int × Nat × Nat :=
  if start = l.length then (0, 0, 3) else if digB (l.getD start 0) = false then (0, 0, 5)
  else if (l.getD start 0).toNat = 48 ∧ 1 < start + (digs (l.drop start)).length then (0, 0, 5)
  else if 9007199254740991 < capN (digs (l.drop start)) then (0, 0, 4)
  else (if start = 1 then - capN (digs (l.drop start)) else capN (digs (l.drop start)), start + (digs (l.drop start)).length, 0)
def readL (l : List UInt8) : Int × Nat × Nat := readS (if Lib.hasPrefix l [45] = true then 1 else 0) l

def wordL (l : List UInt8) : List UInt8 :=
  if Lib.hasPrefix l [116, 114, 117, 101] = true then [116, 114, 117, 101] else if Lib.hasPrefix l [102, 97, 108, 115, 101] = true then [102, 97, 108, 115, 101] else if Lib.hasPrefix l [110, 117, 108, 108] = true then [110, 117, 108, 108] else []
end Go.Proofs.YtljkeladdplhlaaDoor
