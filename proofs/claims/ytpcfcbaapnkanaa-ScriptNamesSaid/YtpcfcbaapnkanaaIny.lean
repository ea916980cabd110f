/-
  The contract of the reader's input of package record, in one.
-/
import Derived.Test.YtpcfcbaapnkanaaInr
namespace Go.Proofs.Ytpcfcbaapnkanaa
open Go.RowKit

/-- An input. -/
structure Inp where
  k : Int
  code : Int
  n : Int
  ok : Bool
  t : List UInt8
deriving DecidableEq

/-- As a value. -/
def Inp.v (x : Inp) : Value := inV x.k x.code x.n x.ok (S x.t)

def numI (k : Int) (r : List UInt8) : Int ⊕ Inp :=
  if r.length < 8 then .inl 3 else if r.drop 8 ≠ [] then .inl 5 else .inr ⟨k, 0, ((min (val (r.take 8)) 9223372036854775807 : Nat) : Int), false, []⟩
def replyI (r : List UInt8) : Int ⊕ Inp :=
  if r.length < 8 then .inl 3 else match r.drop 8 with
    | [] => .inl 3
    | c :: t => if 1 < c.toNat then .inl 5 else if t ≠ [] then .inl 5 else .inr ⟨3, 0, ((min (val (r.take 8)) 9223372036854775807 : Nat) : Int), c == 1, []⟩
/-- What a record says, before it is checked. -/
def readI (s : List UInt8) : Int ⊕ Inp :=
  match s with
  | [] => .inl 3
  | c :: r => if c = 1 then .inr ⟨1, 0, 0, false, r⟩ else if c = 2 then numI 2 r else if c = 3 then replyI r else if c = 4 then numI 4 r
    else if c = 5 then (match r with | [] => .inl 3 | d :: t => .inr ⟨5, d.toNat, 0, false, t⟩)
    else if c = 6 then (match r with | [] => .inr ⟨6, 0, 0, false, []⟩ | _ :: _ => .inl 5) else .inl 9

/-- What the reader does. -/
def Tells (g : Nat) (w : World) (o : Int ⊕ Inp) (e : Ending) (w' : World) : Prop :=
  (match o with | .inl n => Faults n e | .inr x => e = .returned x.v) ∧ Below g w w'

theorem byte_of {c : UInt8} {d : UInt8} (h : c.toNat = d.toNat) : c = d := UInt8.toNat_inj.1 h

theorem input_any (g : Nat) (l : List UInt8) (w : World) (hl : l.length ≤ 80000) (h : HasRest w g (S l)) :
    Calls Try.prog 78 #[.pointer (some ⟨g, 0, none⟩)] w (Tells g w (readI l)) := by
  cases l with
  | nil => exact (input_empty g w h).mono (fun e w' k => k)
  | cons c r =>
    have hr : r.length < 80000 := by simp at hl; omega
    by_cases c1 : c = 1
    · subst c1; exact (input_event g r w (by omega) h).mono (fun e w' k => k)
    by_cases c2 : c = 2
    · subst c2
      have e : readI (2 :: r) = numI 2 r := rfl
      rw [e]; unfold numI
      by_cases h8 : r.length < 8
      · rw [if_pos h8]; exact (input_long_short g r w h8 h).mono (fun e w' k => k)
      · rw [if_neg h8]
        by_cases he : r.drop 8 = []
        · rw [if_neg (fun k => k he)]; exact (input_long g r w (by omega) (by omega) he h).mono (fun e w' k => k)
        · rw [if_pos he]; exact (input_long_more g r w (by omega) (by omega) he h).mono (fun e w' k => k)
    by_cases c3 : c = 3
    · subst c3
      have e : readI (3 :: r) = replyI r := rfl
      rw [e]; unfold replyI
      by_cases h8 : r.length < 8
      · rw [if_pos h8]; exact (input_reply_short g r w h8 h).mono (fun e w' k => k)
      · rw [if_neg h8]
        cases he : r.drop 8 with
        | nil => exact (input_reply_none g r w (by omega) (by omega) he h).mono (fun e w' k => k)
        | cons d t =>
          have ht : t.length ≤ 80000 := by
            have := congrArg List.length he
            simp at this; omega
          show Calls Try.prog 78 #[.pointer (some ⟨g, 0, none⟩)] w (Tells g w (if 1 < d.toNat then .inl 5 else if t ≠ [] then .inl 5 else .inr ⟨3, 0, ((min (val (r.take 8)) 9223372036854775807 : Nat) : Int), d == 1, []⟩))
          by_cases hd : 1 < d.toNat
          · rw [if_pos hd]; exact (input_reply_bad g r w (by omega) (by omega) d t he hd ht h).mono (fun e w' k => k)
          · rw [if_neg hd]
            by_cases hn : t = []
            · subst hn
              rw [if_neg (fun k => k rfl)]; exact (input_reply g r w (by omega) (by omega) d he (by omega) h).mono (fun e w' k => k)
            · rw [if_pos hn]; exact (input_reply_more g r w (by omega) (by omega) d t he (by omega) ht hn h).mono (fun e w' k => k)
    by_cases c4 : c = 4
    · subst c4
      have e : readI (4 :: r) = numI 4 r := rfl
      rw [e]; unfold numI
      by_cases h8 : r.length < 8
      · rw [if_pos h8]; exact (input_tick_short g r w h8 h).mono (fun e w' k => k)
      · rw [if_neg h8]
        by_cases he : r.drop 8 = []
        · rw [if_neg (fun k => k he)]; exact (input_tick g r w (by omega) (by omega) he h).mono (fun e w' k => k)
        · rw [if_pos he]; exact (input_tick_more g r w (by omega) (by omega) he h).mono (fun e w' k => k)
    by_cases c5 : c = 5
    · subst c5
      cases r with
      | nil => exact (input_command_short g w h).mono (fun e w' k => k)
      | cons d t => exact (input_command g d t w (by simp at hr; omega) h).mono (fun e w' k => k)
    by_cases c6 : c = 6
    · subst c6
      cases r with
      | nil => exact (input_restart g w h).mono (fun e w' k => k)
      | cons d t => exact (input_restart_more g d t w (by simp at hr; omega) h).mono (fun e w' k => k)
    · have e : readI (c :: r) = .inl 9 := by simp [readI, c1, c2, c3, c4, c5, c6]
      rw [e]
      refine (input_kind g c r w (by omega) ?_ h).mono (fun e w' k => k)
      have n1 : c.toNat ≠ 1 := fun k => c1 (byte_of k)
      have n2 : c.toNat ≠ 2 := fun k => c2 (byte_of k)
      have n3 : c.toNat ≠ 3 := fun k => c3 (byte_of k)
      have n4 : c.toNat ≠ 4 := fun k => c4 (byte_of k)
      have n5 : c.toNat ≠ 5 := fun k => c5 (byte_of k)
      have n6 : c.toNat ≠ 6 := fun k => c6 (byte_of k)
      omega
end Go.Proofs.Ytpcfcbaapnkanaa
