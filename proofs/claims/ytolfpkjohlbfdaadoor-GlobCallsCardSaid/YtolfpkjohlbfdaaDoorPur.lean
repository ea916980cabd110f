/-
  Plain functions: the normal form of a glob, folding.
-/
import Derived.Test.YtolfpkjohlbfdaaDoorMch
namespace Go.Proofs.YtolfpkjohlbfdaaDoor
open Go.RowKit

def nstep (s : List UInt8 × Bool) (c : UInt8) : List UInt8 × Bool :=
  if c.toNat = 42 then (s.1, true) else if c.toNat ≠ 63 ∧ s.2 = true then (s.1 ++ [42, c], false) else (s.1 ++ [c], s.2)
def nfin (s : List UInt8 × Bool) : List UInt8 := if s.2 = true then s.1 ++ [42] else s.1
def normTo (l : List UInt8) (k : Nat) : List UInt8 × Bool := (l.take k).foldl nstep ([], false)
def normL (l : List UInt8) : List UInt8 := nfin (normTo l l.length)
def wt (s : List UInt8 × Bool) : Nat := s.1.length + (if s.2 = true then 1 else 0)
theorem normTo_zero (l : List UInt8) : normTo l 0 = ([], false) := by simp [normTo]
theorem normTo_succ (l : List UInt8) (k : Nat) (h : k < l.length) : normTo l (k + 1) = nstep (normTo l k) (l.getD k 0) := by
  unfold normTo
  rw [List.take_succ_eq_append_getElem h, List.foldl_append]
  simp [h]
theorem nstep_wt (s : List UInt8 × Bool) (c : UInt8) : wt (nstep s c) ≤ wt s + 1 := by
  obtain ⟨o, b⟩ := s
  unfold nstep wt
  by_cases h1 : c.toNat = 42
  · cases b <;> simp [h1]
  · by_cases h2 : c.toNat = 63 <;> cases b <;> simp [h1, h2] <;> omega
theorem normTo_wt (l : List UInt8) (k : Nat) (h : k ≤ l.length) : wt (normTo l k) ≤ k := by
  induction k with
  | zero => rw [normTo_zero]; simp [wt]
  | succ k ih =>
    rw [normTo_succ l k (by omega)]
    have := nstep_wt (normTo l k) (l.getD k 0)
    have := ih (by omega)
    omega
theorem nfin_len (s : List UInt8 × Bool) : (nfin s).length = wt s := by
  obtain ⟨o, b⟩ := s; cases b <;> simp [nfin, wt]
theorem normL_len (l : List UInt8) : (normL l).length ≤ l.length := by
  unfold normL; rw [nfin_len]; exact normTo_wt l _ (Nat.le_refl _)

def lowL (l : List UInt8) : List UInt8 := l.map lowC
def foldL (b : Bool) (l : List UInt8) : List UInt8 := if b = true then lowL l else l
theorem foldL_len (b : Bool) (l : List UInt8) : (foldL b l).length = l.length := by cases b <;> simp [foldL, lowL]

def checkI (l : List UInt8) : Int := if l.length = 0 then 2 else if 255 < l.length then 4 else 0

end Go.Proofs.YtolfpkjohlbfdaaDoor
