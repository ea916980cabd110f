/-
  Plain facts for the statement that a step of lists together is the union of their steps.
-/
import Derived.Test.YtmcogncpncfpmaaApi
namespace Go.Proofs.Ytmcogncpncfpmaa
open Go.RowKit

def memN (l : List Nat) : Nat → Bool := fun j => l.any (fun x => x == j)
def cntN (n : Nat) (l : List Nat) : Nat := (lstN (memN l) n).length
theorem memN_nil : memN [] = fun _ => false := by funext j; simp [memN]
theorem memN_snoc (l : List Nat) (x : Nat) : memN (l ++ [x]) = upd (memN l) x := by
  funext j
  simp only [memN, List.any_append, List.any_cons, List.any_nil, Bool.or_false, upd]
  rw [Bool.or_comm]
  congr 1
  rw [Bool.eq_iff_iff]; simp; omega
theorem upd_same (f : Nat → Bool) (x : Nat) (h : f x = true) : upd f x = f := by
  funext j
  unfold upd
  by_cases e : j = x
  · subst e; simp [h]
  · simp [e]
theorem lstN_upd_past (f : Nat → Bool) (x n : Nat) (h : n ≤ x) : lstN (upd f x) n = lstN f n :=
  lstN_congr _ _ _ (fun j hj => by unfold upd; rw [show (j == x) = false by simp; omega]; rfl)
theorem lstN_upd_len (f : Nat → Bool) (x n : Nat) (h : x < n) (hf : f x = false) : (lstN (upd f x) n).length = (lstN f n).length + 1 := by
  induction n with
  | zero => omega
  | succ n ih =>
    by_cases e : x = n
    · subst e
      rw [lstN, lstN, lstN_upd_past f x x (Nat.le_refl _), hf]
      simp [upd]
    · have := ih (by omega)
      have hu : upd f x n = f n := by unfold upd; rw [show (n == x) = false by simp; omega]; rfl
      rw [lstN, lstN, hu]
      cases f n <;> simp [this]
theorem cntN_nil (n : Nat) : cntN n [] = 0 := by
  unfold cntN; rw [memN_nil, lstN_filter]; simp
theorem cntN_old (n : Nat) (l : List Nat) (x : Nat) (h : memN l x = true) : cntN n (l ++ [x]) = cntN n l := by
  unfold cntN; rw [memN_snoc, upd_same _ _ h]
theorem cntN_new (n : Nat) (l : List Nat) (x : Nat) (h : memN l x = false) (hx : x < n) : cntN n (l ++ [x]) = cntN n l + 1 := by
  unfold cntN; rw [memN_snoc, lstN_upd_len _ _ _ hx h]
theorem memN_old (l : List Nat) (x : Nat) (h : memN l x = true) : memN (l ++ [x]) = memN l := by rw [memN_snoc, upd_same _ _ h]
theorem cntN_le (n : Nat) (l : List Nat) : cntN n l ≤ n := lstN_len _ _

theorem stepL_or (M : List UInt8) (c : UInt8) (f g : Nat → Bool) (n j : Nat) : stepL M c (lstN (fun x => f x || g x) n) j = (stepL M c (lstN f n) j || stepL M c (lstN g n) j) := by
  rw [Bool.eq_iff_iff]
  simp only [stepL, Bool.or_eq_true, List.any_eq_true, lstN_mem]
  constructor
  · rintro ⟨x, ⟨h1, h2⟩, h3⟩
    rcases h2 with h2 | h2
    · exact .inl ⟨x, ⟨h1, h2⟩, h3⟩
    · exact .inr ⟨x, ⟨h1, h2⟩, h3⟩
  · rintro (⟨x, ⟨h1, h2⟩, h3⟩ | ⟨x, ⟨h1, h2⟩, h3⟩)
    · exact ⟨x, ⟨h1, .inl h2⟩, h3⟩
    · exact ⟨x, ⟨h1, .inr h2⟩, h3⟩
theorem cloF_or (N : List UInt8) (f g : Nat → Bool) (j : Nat) : cloF N (fun x => f x || g x) j = (cloF N f j || cloF N g j) := by
  induction j with
  | zero => rfl
  | succ j ih =>
    simp only [cloF]
    rw [ih]
    cases f (j + 1) <;> cases g (j + 1) <;> cases cloF N f j <;> cases cloF N g j <;> cases starB N j <;> rfl
theorem memZ_app (l m : List Int) (j : Nat) : memZ (l ++ m) j = (memZ l j || memZ m j) := by simp [memZ]
theorem stepS_or (N : List UInt8) (fo : Bool) (l m : List Int) (c : UInt8) (j : Nat) : stepS N fo (memZ (m ++ l)) c j = (stepS N fo (memZ l) c j || stepS N fo (memZ m) c j) := by
  unfold stepS
  have e : memZ (m ++ l) = fun x => memZ l x || memZ m x := by funext x; rw [memZ_app, Bool.or_comm]
  rw [e, ← cloF_or]
  congr 1
  funext x
  exact stepL_or _ _ _ _ _ _
theorem memN_lst (f : Nat → Bool) (n j : Nat) : memN (lstN f n) j = (decide (j < n) && f j) := by
  rw [Bool.eq_iff_iff]
  simp only [memN, List.any_eq_true, lstN_mem, Bool.and_eq_true, decide_eq_true_eq, beq_iff_eq]
  constructor
  · rintro ⟨x, ⟨h1, h2⟩, rfl⟩; exact ⟨h1, h2⟩
  · rintro ⟨h1, h2⟩; exact ⟨j, ⟨h1, h2⟩, rfl⟩
theorem memN_app (l m : List Nat) (j : Nat) : memN (l ++ m) j = (memN l j || memN m j) := by simp [memN]

/-- Both steps' states together are those of the step together. -/
theorem join_mem (N : List UInt8) (fo : Bool) (l m : List Int) (c : UInt8) (j : Nat) (hj : j < N.length + 1) : memN (stepZ N fo l c ++ stepZ N fo m c) j = stepS N fo (memZ (m ++ l)) c j := by
  rw [memN_app, stepS_or]
  unfold stepZ
  rw [memN_lst, memN_lst]
  simp [hj]
theorem join_cnt (N : List UInt8) (fo : Bool) (l m : List Int) (c : UInt8) : cntN (N.length + 1) (stepZ N fo l c ++ stepZ N fo m c) = (stepZ N fo (m ++ l) c).length := by
  show _ = (lstN _ _).length
  unfold cntN
  rw [lstN_congr _ _ _ (fun j hj => join_mem N fo l m c j hj)]
theorem stepZ_lt (N : List UInt8) (fo : Bool) (l : List Int) (c : UInt8) : ∀ x ∈ stepZ N fo l c, x < N.length + 1 := fun x hx => by
  unfold stepZ at hx
  rw [lstN_mem] at hx; exact hx.1
theorem join_in (N : List UInt8) (fo : Bool) (l m : List Int) (c : UInt8) : ∀ x ∈ stepZ N fo (m ++ l) c, memN (stepZ N fo l c ++ stepZ N fo m c) x = true := fun x hx => by
  have h1 := stepZ_lt N fo _ c x hx
  rw [join_mem N fo l m c x h1]
  unfold stepZ at hx
  rw [lstN_mem] at hx; exact hx.2
theorem zl_app (l m : List Nat) : zl (l ++ m) = zl l ++ zl m := by simp [zl]
theorem zl_getD (l : List Nat) (k : Nat) (h : k < l.length) : (zl l).getD k 0 = ((l.getD k 0 : Nat) : Int) := by
  simp [zl, h]
theorem getD_memN (l : List Nat) (k : Nat) (h : k < l.length) : l.getD k 0 ∈ l := by
  rw [List.getD_eq_getElem?_getD, List.getElem?_eq_getElem h]; exact List.getElem_mem _
theorem take_snocN (l : List Nat) (k : Nat) (h : k < l.length) : l.take (k + 1) = l.take k ++ [l.getD k 0] := by
  rw [List.take_succ_eq_append_getElem h]; simp [h]
end Go.Proofs.Ytmcogncpncfpmaa
