/-
  The contracts of the document's own automaton: Start, Step, Accepts, Run.
-/
import Derived.Test.YtmcogncpncfpmaaRfc
import Derived.Test.YtmcogncpncfpmaaRun
import Derived.Test.YtmcogncpncfpmaaJoi
namespace Go.Proofs.Ytmcogncpncfpmaa
open Go.RowKit

theorem lowC_small (p : UInt8) (k : Nat) (hk : k < 65) : (lowC p).toNat = k ↔ p.toNat = k := by
  unfold lowC
  split
  · rename_i h
    rw [UInt8.toNat_add]
    simp
    omega
  · exact Iff.rfl
def rh (N : List UInt8) (fo : Bool) (c : UInt8) (x j : Nat) : Bool :=
  if (N.getD x 0).toNat = 42 then j == x else if (N.getD x 0).toNat = 63 ∨ sameB fo (N.getD x 0) c = true then j == x + 1 else false
theorem hits_eq (N : List UInt8) (fo : Bool) (c : UInt8) (x j : Nat) (hx : x < N.length) : hits (foldL fo N) ((foldL fo [c]).getD 0 0) x j = rh N fo c x j := by
  unfold hits rh
  rw [foldL_len, if_pos hx]
  cases fo
  · simp [foldL, sameB]
  · have e : (foldL true N).getD x 0 = lowC (N.getD x 0) := by simp [foldL, lowL, hx]
    have e2 : (foldL true [c]).getD 0 0 = lowC c := rfl
    rw [e, e2]
    have s : sameB true (N.getD x 0) c = (lowC (N.getD x 0) == lowC c) := by
      unfold sameB
      rw [Bool.true_and]
      by_cases h : N.getD x 0 = c
      · rw [h]; simp
      · simp only [show (N.getD x 0 == c) = false by simpa using h, Bool.false_or]
    rw [s]
    simp only [lowC_small _ 42 (by omega), lowC_small _ 63 (by omega), beq_iff_eq]
def rstepF (N : List UInt8) (fo : Bool) (c : UInt8) (l : List Int) : Nat → Bool := fun j => l.any (fun z => decide (0 ≤ z ∧ z < (N.length : Int)) && rh N fo c z.toNat j)
theorem rstepF_nil (N : List UInt8) (fo : Bool) (c : UInt8) : rstepF N fo c [] = fun _ => false := by funext j; simp [rstepF]
theorem rstepF_snoc (N : List UInt8) (fo : Bool) (c : UInt8) (l : List Int) (z : Int) (j : Nat) : rstepF N fo c (l ++ [z]) j = (rstepF N fo c l j || (decide (0 ≤ z ∧ z < (N.length : Int)) && rh N fo c z.toNat j)) := by simp [rstepF]
theorem rstepF_out (N : List UInt8) (fo : Bool) (c : UInt8) (l : List Int) (z : Int) (h : z < 0 ∨ (N.length : Int) ≤ z) : rstepF N fo c (l ++ [z]) = rstepF N fo c l := by
  funext j; rw [rstepF_snoc, show decide (0 ≤ z ∧ z < (N.length : Int)) = false from decide_eq_false (by omega), Bool.false_and, Bool.or_false]
theorem rstepF_in (N : List UInt8) (fo : Bool) (c : UInt8) (l : List Int) (x : Nat) (h : x < N.length) (j : Nat) : rstepF N fo c (l ++ [(x : Int)]) j = (rstepF N fo c l j || rh N fo c x j) := by
  rw [rstepF_snoc, show decide (0 ≤ (x : Int) ∧ (x : Int) < (N.length : Int)) = true from decide_eq_true (by omega), Bool.true_and]; rfl
theorem rstepF_star (N : List UInt8) (fo : Bool) (c : UInt8) (l : List Int) (x : Nat) (h : x < N.length) (h1 : (N.getD x 0).toNat = 42) : rstepF N fo c (l ++ [(x : Int)]) = upd (rstepF N fo c l) x := by
  funext j; rw [rstepF_in _ _ _ _ _ h]; unfold rh upd; rw [if_pos h1, Bool.or_comm]
theorem rstepF_on (N : List UInt8) (fo : Bool) (c : UInt8) (l : List Int) (x : Nat) (h : x < N.length) (h1 : ¬ (N.getD x 0).toNat = 42) (h2 : (N.getD x 0).toNat = 63 ∨ sameB fo (N.getD x 0) c = true) : rstepF N fo c (l ++ [(x : Int)]) = upd (rstepF N fo c l) (x + 1) := by
  funext j; rw [rstepF_in _ _ _ _ _ h]; unfold rh upd; rw [if_neg h1, if_pos h2, Bool.or_comm]
theorem rstepF_off (N : List UInt8) (fo : Bool) (c : UInt8) (l : List Int) (x : Nat) (h : x < N.length) (h1 : ¬ (N.getD x 0).toNat = 42) (h2 : ¬ ((N.getD x 0).toNat = 63 ∨ sameB fo (N.getD x 0) c = true)) : rstepF N fo c (l ++ [(x : Int)]) = rstepF N fo c l := by
  funext j; rw [rstepF_in _ _ _ _ _ h]; unfold rh; rw [if_neg h1, if_neg h2, Bool.or_false]
theorem rstepF_eq (N : List UInt8) (fo : Bool) (c : UInt8) (l : List Int) : rstepF N fo c l = stepL (foldL fo N) ((foldL fo [c]).getD 0 0) (lstN (memZ l) (N.length + 1)) := by
  funext j
  rw [Bool.eq_iff_iff]
  simp only [rstepF, stepL, List.any_eq_true, lstN_mem, Bool.and_eq_true, decide_eq_true_eq]
  constructor
  · rintro ⟨z, hz, ⟨h1, h2⟩, h3⟩
    refine ⟨z.toNat, ⟨by omega, ?_⟩, by rw [hits_eq N fo c _ j (by omega)]; exact h3⟩
    unfold memZ; rw [List.any_eq_true]; exact ⟨z, hz, by simp; omega⟩
  · rintro ⟨x, ⟨h1, h2⟩, h3⟩
    unfold memZ at h2; rw [List.any_eq_true] at h2
    obtain ⟨z, hz, h4⟩ := h2
    have h5 : z = (x : Int) := by simpa using h4
    subst h5
    have hx : x < N.length := by
      unfold hits at h3; rw [foldL_len] at h3
      by_cases q : x < N.length
      · exact q
      · rw [if_neg q] at h3; cases h3
    exact ⟨(x : Int), hz, ⟨by omega, by omega⟩, by rw [hits_eq N fo c x j hx] at h3; exact h3⟩

set_option maxHeartbeats 1000000 in
theorem rStart_any (P : Nat) (N : List UInt8) (fo : Bool) (w : World) (hN : N.length ≤ 300) (h : RefAt w P N fo) : Calls Try.prog 18 #[.pointer (some ⟨P, 0, none⟩)] w (RetZ (zl (startL N)) w) := by
  have hP := h.lt
  have c0 := h.c0
  have cO := Lib.hid (fun (B c : Nat) (f : Nat → Bool) (w1 : World) => on_any P B c N f w1 hN)
  have hz := S_size N
  have hs : (S N).size ≤ 300 := by rw [hz]; exact hN
  obtain ⟨W1, hmk, hrow, hk1⟩ := make_set 44 Try.underlying44 w (N.length + 1) (by omega)
  have hmk' := hmk (((S N).size : Int) + 1) (by omega)
  unfold startL
  clear hmk h
  have HZ := Lib.hid hz
  have HZ' : Hid ((S N).size + 1 = N.length + 1) := Lib.hid (by rw [hz])
  clear hz
  have hc0 := (hrow 0 (by omega)).1
  have hf0 := (hrow 0 (by omega)).2
  have hB := hrow.lt (by omega)
  have HR := Lib.hid (hrow.set (k := 0) (by omega))
  have K1 := Lib.hid (hk1.setCell (p := ⟨w.heap.size, 0, none⟩) (Nat.le_refl _) (.bool true))
  have e1 := K1.out.cell c0
  have E1 := Lib.hid e1
  clear hrow hk1 e1
  go_enter Try.func18, Try.ntmps18
  go_wp2_with fail
  refine (cO.out _ _ _ _ E1.out HR.out hP).mono ?_
  rintro e w3 ⟨⟨v, rfl, ho⟩, hb3⟩
  have eu : upd (fun _ => false) 0 = fun j => j == 0 := by funext j; simp [upd]
  rw [eu] at ho
  obtain ⟨A, c, rfl, _⟩ := IntsAt.own ho
  have HO := Lib.hid ho
  clear ho
  go_wp2
  go_ret
  exact ⟨⟨_, rfl, ownsRow_less HO.out K1.out.size⟩, Below.trans K1.out (hb3.mono (by exact Nat.le_refl _))⟩
end Go.Proofs.Ytmcogncpncfpmaa
