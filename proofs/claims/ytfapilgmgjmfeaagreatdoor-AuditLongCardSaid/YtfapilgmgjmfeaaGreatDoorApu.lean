/-
  The audit log, as plain functions on lists: what a note is, which logs are valid, what is open.
-/
import Derived.WalkKit
namespace Go.Proofs.YtfapilgmgjmfeaaGreatDoor

structure Act where
  kind : Int
  room : List UInt8
  subj : List UInt8
  reason : List UInt8
  deny : List UInt8
deriving DecidableEq
structure Nt where
  kind : Int
  txn : Int
  act : Act
  code : Int
  text : List UInt8
deriving DecidableEq
def Act.zero : Act := ⟨0, [], [], [], []⟩
def ofTx (k : Int) : Bool := decide (3 ≤ k) && decide (k ≤ 8)
def isAct (k : Int) : Bool := decide (1 ≤ k) && decide (k ≤ 4)
/-- A note without a transaction, as it must be. -/
def standsB (n : Nt) : Bool :=
  if n.kind = 1 then decide ((⟨1, n.txn, n.act, 0, n.text⟩ : Nt) = ⟨1, 0, Act.zero, 0, []⟩)
  else if n.kind = 2 then decide ((⟨2, n.txn, n.act, 0, []⟩ : Nt) = ⟨2, 0, Act.zero, 0, []⟩)
  else if n.kind = 9 then decide (n = ⟨9, 0, Act.zero, 0, []⟩)
  else false

/-- Which transactions have not ended: their action, and whether they were sent. -/
abbrev Lives := Int → Option (Act × Bool)
def Lives.put (f : Lives) (t : Int) (v : Option (Act × Bool)) : Lives := fun u => if u = t then v else f u
structure Rdg where
  lives : Lives
  last : Int
def Rdg.zero : Rdg := ⟨fun _ => none, 0⟩
def beginsR (r : Rdg) (n : Nt) : Bool × Rdg := if n.txn = r.last + 1 ∧ isAct n.act.kind = true then (true, ⟨r.lives.put n.txn (some (n.act, false)), n.txn⟩) else (false, r)
def followsR (r : Rdg) (n : Nt) : Bool × Rdg :=
  match r.lives n.txn with
  | none => (false, r)
  | some (a, s) =>
    if a ≠ n.act then (false, r)
    else if n.kind = 4 then (true, ⟨r.lives.put n.txn (some (a, true)), r.last⟩)
    else if n.kind = 6 then (s, ⟨r.lives.put n.txn (some (a, false)), r.last⟩)
    else if n.kind = 8 then (!s, ⟨r.lives.put n.txn none, r.last⟩)
    else (s, ⟨r.lives.put n.txn none, r.last⟩)
def takesR (r : Rdg) (n : Nt) : Bool × Rdg :=
  if ofTx n.kind = false then (standsB n, r)
  else if n.code ≠ 0 ∨ n.text ≠ [] then (false, r)
  else if n.kind = 3 then beginsR r n
  else followsR r n
/-- The first note that is not allowed. -/
def lifeF : Rdg → List Nt → Nat → Option Nat
  | _, [], _ => none
  | r, n :: t, i => if (takesR r n).1 = true then lifeF (takesR r n).2 t (i + 1) else some i
def lifeN (l : List Nt) : Option Nat := lifeF Rdg.zero l 0
def lifeI (l : List Nt) : Int := match lifeN l with | none => -1 | some i => (i : Int)

theorem lifeF_le : ∀ (l : List Nt) (r : Rdg) (i k : Nat), lifeF r l i = some k → i ≤ k ∧ k < i + l.length
  | [], _, _, _, h => by cases h
  | n :: t, r, i, k, h => by
    unfold lifeF at h
    split at h
    · have := lifeF_le t _ _ _ h; simp; omega
    · have := Option.some.inj h; simp; omega
theorem lifeF_take : ∀ (l : List Nt) (r : Rdg) (i k : Nat), lifeF r (l.take k) i = match lifeF r l i with | none => none | some at_ => if i + k ≤ at_ then none else some at_
  | [], r, i, k => by simp [lifeF]
  | n :: t, r, i, 0 => by
    cases h : lifeF r (n :: t) i with
    | none => rfl
    | some a => have := (lifeF_le _ _ _ _ h).1; simp [lifeF, this]
  | n :: t, r, i, k + 1 => by
    rw [List.take_succ_cons]
    unfold lifeF
    by_cases h : (takesR r n).1 = true
    · rw [if_pos h, if_pos h, lifeF_take t _ (i + 1) k]
      rw [show i + 1 + k = i + (k + 1) by omega]
    · rw [if_neg h, if_neg h]
      simp
/-- The reading behind some notes. -/
def readF : Rdg → List Nt → Rdg
  | r, [] => r
  | r, n :: t => readF (takesR r n).2 t
theorem readF_app : ∀ (l m : List Nt) (r : Rdg), readF r (l ++ m) = readF (readF r l) m
  | [], _, _ => rfl
  | n :: t, m, r => readF_app t m _
theorem lifeF_app : ∀ (l m : List Nt) (r : Rdg) (i : Nat), lifeF r l i = none → lifeF r (l ++ m) i = lifeF (readF r l) m (i + l.length)
  | [], m, r, i, _ => by simp [readF]
  | n :: t, m, r, i, h => by
    unfold lifeF at h
    rw [List.cons_append]
    split at h
    · rename_i hx
      rw [lifeF, if_pos hx, lifeF_app t m _ _ h, readF, List.length_cons, show i + 1 + t.length = i + (t.length + 1) by omega]
    · cases h
end Go.Proofs.YtfapilgmgjmfeaaGreatDoor
