/-
  Plain functions: the normal form of a glob, folding, the closure of a set of states, a step, the list of a set.
-/
import Derived.Test.YtmcogncpncfpmaaDoorBase
namespace Go.Proofs.YtmcogncpncfpmaaDoor
open Go.RowKit

def nstep (s : List UInt8 × Bool) (c : UInt8) : List UInt8 × Bool :=
  if c.toNat = 42 then (s.1, true) else if c.toNat ≠ 63 ∧ s.2 = true then (s.1 ++ [42, c], false) else (s.1 ++ [c], s.2)
def nfin (s : List UInt8 × Bool) : List UInt8 := if s.2 = true then s.1 ++ [42] else s.1
def normTo (l : List UInt8) (k : Nat) : List UInt8 × Bool := (l.take k).foldl nstep ([], false)
def normL (l : List UInt8) : List UInt8 := nfin (normTo l l.length)
def wt (s : List UInt8 × Bool) : Nat := s.1.length + (if s.2 = true then 1 else 0)
theorem normTo_zero (l : List UInt8) : normTo l 0 = ([], false) := by simp [normTo]
theorem normTo_succ (l : List UInt8) (k : Nat) (h : k < l.length) : normTo l (k + 1) = nstep (normTo l k) (l.getD k 0) := by
  unfold normTo
  rw [List.take_succ_eq_append_getElem h, List.foldl_append]
  simp [h]
theorem nstep_wt (s : List UInt8 × Bool) (c : UInt8) : wt (nstep s c) ≤ wt s + 1 := by
  obtain ⟨o, b⟩ := s
  unfold nstep wt
  by_cases h1 : c.toNat = 42
  · cases b <;> simp [h1]
  · by_cases h2 : c.toNat = 63 <;> cases b <;> simp [h1, h2] <;> omega
theorem normTo_wt (l : List UInt8) (k : Nat) (h : k ≤ l.length) : wt (normTo l k) ≤ k := by
  induction k with
  | zero => rw [normTo_zero]; simp [wt]
  | succ k ih =>
    rw [normTo_succ l k (by omega)]
    have := nstep_wt (normTo l k) (l.getD k 0)
    have := ih (by omega)
    omega
theorem nfin_len (s : List UInt8 × Bool) : (nfin s).length = wt s := by
  obtain ⟨o, b⟩ := s; cases b <;> simp [nfin, wt]
theorem normL_len (l : List UInt8) : (normL l).length ≤ l.length := by
  unfold normL; rw [nfin_len]; exact normTo_wt l _ (Nat.le_refl _)

def lowC (c : UInt8) : UInt8 := if 65 ≤ c.toNat ∧ c.toNat ≤ 90 then c + 32 else c
def lowL (l : List UInt8) : List UInt8 := l.map lowC
def foldL (b : Bool) (l : List UInt8) : List UInt8 := if b = true then lowL l else l
theorem foldL_len (b : Bool) (l : List UInt8) : (foldL b l).length = l.length := by cases b <;> simp [foldL, lowL]

def checkI (l : List UInt8) : Int := if l.length = 0 then 2 else if 255 < l.length then 4 else 0

/-- A set with one more state. -/
def upd (f : Nat → Bool) (k : Nat) : Nat → Bool := fun j => j == k || f j
def starB (N : List UInt8) (i : Nat) : Bool := (N.getD i 0).toNat == 42
def cloF (N : List UInt8) (f : Nat → Bool) : Nat → Bool
  | 0 => f 0
  | i + 1 => f (i + 1) || (cloF N f i && starB N i)
def clTo (N : List UInt8) (f : Nat → Bool) (k : Nat) : Nat → Bool := fun j => if j ≤ k then cloF N f j else f j
theorem clTo_zero (N : List UInt8) (f : Nat → Bool) : clTo N f 0 = f := by
  funext j
  unfold clTo
  by_cases h : j ≤ 0
  · obtain rfl : j = 0 := by omega
    simp [cloF]
  · rw [if_neg h]
theorem clTo_at (N : List UInt8) (f : Nat → Bool) (k : Nat) : clTo N f k k = cloF N f k := by simp [clTo]
theorem clTo_hit (N : List UInt8) (f : Nat → Bool) (k : Nat) (h1 : cloF N f k = true) (h2 : starB N k = true) : clTo N f (k + 1) = upd (clTo N f k) (k + 1) := by
  funext j
  unfold clTo upd
  by_cases e : j = k + 1
  · subst e; simp [cloF, h1, h2]
  · by_cases h : j ≤ k
    · simp [h, e, show j ≤ k + 1 by omega]
    · simp [h, e, show ¬ j ≤ k + 1 by omega]
theorem clTo_miss (N : List UInt8) (f : Nat → Bool) (k : Nat) (h : (cloF N f k && starB N k) = false) : clTo N f (k + 1) = clTo N f k := by
  funext j
  unfold clTo
  by_cases e : j = k + 1
  · subst e; simp [cloF, h]
  · by_cases h' : j ≤ k
    · simp [h', show j ≤ k + 1 by omega]
    · simp [h', show ¬ j ≤ k + 1 by omega]
theorem clTo_end (N : List UInt8) (f : Nat → Bool) (k j : Nat) (h : j ≤ k) : clTo N f k j = cloF N f j := by simp [clTo, h]

/-- Where the state x leads by a byte: is it the state j? -/
def hits (M : List UInt8) (c : UInt8) (x j : Nat) : Bool :=
  if x < M.length then (if (M.getD x 0).toNat = 42 then j == x else if (M.getD x 0).toNat = 63 ∨ M.getD x 0 = c then j == x + 1 else false) else false
def stepL (M : List UInt8) (c : UInt8) (l : List Nat) : Nat → Bool := fun j => l.any (fun x => hits M c x j)
theorem stepL_nil (M : List UInt8) (c : UInt8) : stepL M c [] = fun _ => false := by funext j; simp [stepL]
theorem stepL_snoc (M : List UInt8) (c : UInt8) (l : List Nat) (x j : Nat) : stepL M c (l ++ [x]) j = (stepL M c l j || hits M c x j) := by simp [stepL]
theorem stepL_star (M : List UInt8) (c : UInt8) (l : List Nat) (x : Nat) (h : x < M.length) (h1 : (M.getD x 0).toNat = 42) : stepL M c (l ++ [x]) = upd (stepL M c l) x := by
  funext j; rw [stepL_snoc]; simp only [hits, h, h1, upd, if_true]; rw [Bool.or_comm]
theorem stepL_on (M : List UInt8) (c : UInt8) (l : List Nat) (x : Nat) (h : x < M.length) (h1 : (M.getD x 0).toNat ≠ 42) (h2 : (M.getD x 0).toNat = 63 ∨ M.getD x 0 = c) : stepL M c (l ++ [x]) = upd (stepL M c l) (x + 1) := by
  funext j; rw [stepL_snoc]; simp only [hits, h, h1, h2, upd, if_true, if_false]; rw [Bool.or_comm]
theorem stepL_off (M : List UInt8) (c : UInt8) (l : List Nat) (x : Nat) (h2 : x < M.length → (M.getD x 0).toNat ≠ 42 ∧ ¬ ((M.getD x 0).toNat = 63 ∨ M.getD x 0 = c)) : stepL M c (l ++ [x]) = stepL M c l := by
  funext j; rw [stepL_snoc]
  by_cases h : x < M.length
  · simp only [hits, h, (h2 h).1, (h2 h).2, if_true, if_false, Bool.or_false]
  · simp [hits, h]

/-- The states below k that are in a set. -/
def lstN (f : Nat → Bool) : Nat → List Nat
  | 0 => []
  | k + 1 => if f k = true then lstN f k ++ [k] else lstN f k
theorem lstN_filter (f : Nat → Bool) (k : Nat) : lstN f k = (List.range k).filter f := by
  induction k with
  | zero => rfl
  | succ k ih =>
    rw [lstN, ih, List.range_succ, List.filter_append]
    cases h : f k <;> simp [h]
theorem lstN_len (f : Nat → Bool) (k : Nat) : (lstN f k).length ≤ k := by
  rw [lstN_filter]; exact Nat.le_trans (List.length_filter_le _ _) (by simp)
theorem lstN_mem (f : Nat → Bool) (k x : Nat) : x ∈ lstN f k ↔ x < k ∧ f x = true := by
  rw [lstN_filter]; simp
theorem lstN_congr (f g : Nat → Bool) (k : Nat) (h : ∀ j, j < k → f j = g j) : lstN f k = lstN g k := by
  rw [lstN_filter, lstN_filter]; apply List.filter_congr; intro x hx; exact h x (by simpa using hx)
theorem cloF_congr (N : List UInt8) (f g : Nat → Bool) (k : Nat) (h : ∀ j, j < k → f j = g j) : ∀ j, j < k → cloF N f j = cloF N g j := by
  intro j
  induction j with
  | zero => intro hj; exact h 0 hj
  | succ j ih => intro hj; simp only [cloF]; rw [h _ hj, ih (by omega)]

/-- .. as members of a bounded type (what an iterator hands over). -/
def lstF (f : Nat → Bool) (m : Nat) : Nat → List (Fin m)
  | 0 => []
  | k + 1 => if h : k < m then (if f k = true then lstF f m k ++ [⟨k, h⟩] else lstF f m k) else lstF f m k
theorem lstF_val (f : Nat → Bool) (m k : Nat) (h : k ≤ m) : (lstF f m k).map (·.1) = lstN f k := by
  induction k with
  | zero => rfl
  | succ k ih =>
    have h' : k < m := by omega
    rw [lstF, lstN, dif_pos h']
    cases f k <;> simp [ih (by omega)]
theorem lstF_len (f : Nat → Bool) (m k : Nat) : (lstF f m k).length ≤ k := by
  induction k with
  | zero => simp [lstF]
  | succ k ih =>
    rw [lstF]
    split
    · split
      · simp; omega
      · omega
    · omega

/-- A row of truth values of the call's own. -/
def RowB (w : World) (B m : Nat) (f : Nat → Bool) : Prop := ∀ j, j < m → w.cell? ⟨B, j, none⟩ = some (.bool (f j)) ∧ w.frozen? ⟨B, j, none⟩ = false
theorem RowB.set {w : World} {B m : Nat} {f : Nat → Bool} (h : RowB w B m f) {k : Nat} (hk : k < m) : RowB (w.setCell ⟨B, k, none⟩ (.bool true)) B m (upd f k) := by
  intro j hj
  refine ⟨?_, (World.frozen?_setCell _ _ _ _).trans (h j hj).2⟩
  by_cases e : k = j
  · subst e
    rw [World.cell?_setCell_same _ _ _ (h k hk).1]
    simp [upd]
  · rw [World.cell?_setCell_other _ _ _ _ (by simp [e])]
    simp [upd, show (j == k) = false by simp; omega, (h j hj).1]
theorem RowB.below {w w' : World} {B m n : Nat} {f : Nat → Bool} (h : RowB w B m f) (hb : Below n w w') (hB : B < n) : RowB w' B m f :=
  fun j hj => ⟨(hb.cell (p := ⟨B, j, none⟩) hB).trans (h j hj).1, (hb.frozen (p := ⟨B, j, none⟩) hB).trans (h j hj).2⟩
theorem RowB.congr {w : World} {B m : Nat} {f g : Nat → Bool} (h : RowB w B m f) (e : ∀ j, j < m → f j = g j) : RowB w B m g := fun j hj => by rw [← e j hj]; exact h j hj
theorem RowB.lt {w : World} {B m : Nat} {f : Nat → Bool} (h : RowB w B m f) (hm : 0 < m) : B < w.heap.size := World.block_lt_of_cell? _ _ (h 0 hm).1
end Go.Proofs.YtmcogncpncfpmaaDoor
