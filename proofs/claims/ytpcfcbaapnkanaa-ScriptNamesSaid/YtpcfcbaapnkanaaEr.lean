/-
  A step taken out of a row of the call's own; the kit's Pick.
-/
import Derived.Test.YtpcfcbaapnkanaaLWr
import Derived.Deep.RegionLaw
import Derived.Laws.IdiomCopy
import Derived.Deep.Upon
namespace Go.Proofs.Ytpcfcbaapnkanaa
open Go.RowKit

/-- n modulo m, from 0 on; 0 of m below 1. -/
def pickI (n m : Int) : Int := if m < 1 then 0 else if n.tmod m < 0 then n.tmod m + m else n.tmod m
theorem pickI_range (n m : Int) (h : 1 ≤ m) : 0 ≤ pickI n m ∧ pickI n m < m := by
  unfold pickI
  rw [if_neg (by omega)]
  have h1 := Int.tmod_lt_of_pos n (show 0 < m by omega)
  have h2 := Int.lt_tmod_of_pos n (show 0 < m by omega)
  split
  · omega
  · omega
def RetN (n : Int) (w : World) (e : Ending) (w' : World) : Prop := e = .returned (.int .i64 n) ∧ w = w'
theorem RetN.of {b b' : Int} {w : World} (h : b' = b) : RetN b w (.returned (.int .i64 b')) w := ⟨by rw [h], rfl⟩
set_option maxHeartbeats 1000000 in
set_option maxRecDepth 10000 in
theorem pick_any (n m : Int) (w : World) (h : 1 ≤ m) (hm : m ≤ 10000000) : Calls Try.prog 23 #[.int .i64 n, .int .i64 m] w (RetN (pickI n m) w) := by
  have h1 := Int.tmod_lt_of_pos n (show 0 < m by omega)
  have h2 := Int.lt_tmod_of_pos n (show 0 < m by omega)
  have hp : Hid (pickI n m = if n.tmod m < 0 then n.tmod m + m else n.tmod m) := by unfold pickI; rw [if_neg (by omega)]; rfl
  have hw : IntKind.i64.wrap (n.tmod m) = n.tmod m := IntWalk.i64_in _ (by omega)
  have h0 : (m == 0) = false := by simp; omega
  by_cases hn : n.tmod m < 0
  · go_enter Try.func23, Try.ntmps23
    go_wp2
    go_ret
    refine RetN.of ?_
    rw [hp.out, if_pos hn]
  · go_enter Try.func23, Try.ntmps23
    go_wp2
    go_ret
    refine RetN.of ?_
    rw [hp.out, if_neg (by omega)]
theorem pick_nat (n : Int) (m : Nat) (h : 1 ≤ m) (hm : m ≤ 10000000) : ∃ k : Nat, k < m ∧ ∀ w, Calls Try.prog 23 #[.int .i64 n, .int .i64 m] w (RetN k w) := by
  obtain ⟨r1, r2⟩ := pickI_range n m (by omega)
  obtain ⟨k, hk⟩ := Int.eq_ofNat_of_zero_le r1
  refine ⟨k, by omega, fun w => ?_⟩
  have := pick_any n m w (by omega) (by omega)
  rw [hk] at this
  exact this

theorem Only.setCells (g : Nat) : ∀ (vs : List Value) (o : Nat) (w : World), Only g w (w.setCells g o vs)
  | [], _, w => Only.refl g w
  | v :: r, o, w => (Only.set1 g o w v).trans (Only.setCells g r (o + 1) _)
theorem Only.ofDrew {g : Nat} {w w2 : World} (k : Only g w.drew w2) : Only g w w2 := ⟨k.os, k.tape, k.output, k.size, k.block⟩
/-- What stands behind step k. -/
def tailF (l : List Ms) (k : Nat) : List Value := flatF msC (l.drop (k + 1))
theorem tailF_len (l : List Ms) (k : Nat) (hk : k < l.length) : (tailF l k).length = (l.length - (k + 1)) * 7 := by
  unfold tailF
  rw [flatF_len msC 7 msC_size, List.length_drop]
theorem blk_row {w : World} {B g n c : Nat} {l : List Ms} (h : MsRow w B (.slice (some ⟨g, 0, none⟩) n c) l) : ∃ cur, Blk w g cur 31 ∧ B ≤ g ∧ cur.size = c * 7 ∧ l.length ≤ c ∧ cur.toList.take (l.length * 7) = flatF msC l := by
  obtain ⟨h1, ⟨h2, _⟩ | ⟨g0, cap, cur, e, hB, hb, hc, hm, hs, ht⟩⟩ := h
  · cases h2
  · injection e with e1 e2 e3
    injection e1 with e1
    injection e1 with e1
    subst e1 e2 e3
    exact ⟨cur, hb, hB, hs, hc, ht⟩
theorem row_cell {w : World} {B g n c : Nat} {l : List Ms} (h : MsRow w B (.slice (some ⟨g, 0, none⟩) n c) l) (j : Nat) (u : Value) (hj : (flatF msC l)[j]? = some u) : w.cell? ⟨g, j, none⟩ = some u := by
  obtain ⟨cur, hcur, -, -, -, ht⟩ := blk_row h
  have hl : j < l.length * 7 := by
    have := (List.getElem?_eq_some_iff.1 hj).1
    rwa [flatF_len msC 7 msC_size] at this
  rw [← ht, List.getElem?_take, if_pos hl] at hj
  exact hcur.cell (by rw [← Array.getElem?_toList]; exact hj)
theorem drop_flat (l : List Ms) (k j : Nat) : (tailF l k)[j]? = (flatF msC l)[(k + 1) * 7 + j]? := by
  unfold tailF
  by_cases hk : k + 1 ≤ l.length
  · have e : flatF msC l = flatF msC (l.take (k + 1)) ++ flatF msC (l.drop (k + 1)) := by rw [← flatF_app, List.take_append_drop]
    have hl : (flatF msC (l.take (k + 1))).length = (k + 1) * 7 := by rw [flatF_len msC 7 msC_size, List.length_take, Nat.min_eq_left hk]
    rw [e, List.getElem?_append_right (by rw [hl]; omega), hl]
    congr 1
    omega
  · have e1 : l.drop (k + 1) = [] := List.drop_eq_nil_of_le (by omega)
    rw [e1]
    have e2 : (flatF msC l).length ≤ (k + 1) * 7 + j := by
      rw [flatF_len msC 7 msC_size]
      have : l.length * 7 ≤ (k + 1) * 7 := Nat.mul_le_mul_right _ (by omega)
      omega
    rw [List.getElem?_eq_none e2]
    rfl
theorem getElem_erase (l : List Ms) (k i : Nat) (hi : i < (l.eraseIdx k).length) : (l.eraseIdx k)[i]? = if i < k then l[i]? else l[i + 1]? := by
  rw [List.getElem?_eraseIdx]
/-- Behind the move of what stood behind step k: the steps but that one. -/
theorem erased {w : World} {B g n c : Nat} {l : List Ms} (h : MsRow w B (.slice (some ⟨g, 0, none⟩) n c) l) (ho : ∀ m, m ∈ l → MsOwn w B m) (k : Nat) (hk : k < l.length) :
    StepsAt (w.setCells g (k * 7) (tailF l k)) (some ⟨g, 0, none⟩) (l.eraseIdx k) := fun i hi => by
  obtain ⟨cur, hcur, hB, hs, hc, ht⟩ := blk_row h
  have hO := Only.setCells g (tailF l k) (k * 7) w
  have hel : (l.eraseIdx k).length = l.length - 1 := List.length_eraseIdx_of_lt hk
  have hi2 : i < l.length - 1 := by rw [← hel]; exact hi
  refine ⟨⟨g, 0, rfl, fun j v hj => ?_⟩, ?_⟩
  · have hj7 : j < 7 := by
      have := (List.getElem?_eq_some_iff.1 hj).1
      simpa [msC] using this
    rw [Nat.zero_add]
    by_cases hik : i < k
    · have e1 : (l.eraseIdx k)[i]'hi = l[i]'(by omega) := by
        have := getElem_erase l k i hi
        rw [if_pos hik, List.getElem?_eq_getElem hi, List.getElem?_eq_getElem (by omega)] at this
        injection this
      rw [e1] at hj
      rw [World.cell?_setCells_out g _ _ _ _ (fun _ _ => Or.inl (by show i * 7 + j < k * 7; have : (i + 1) * 7 ≤ k * 7 := Nat.mul_le_mul_right _ hik; omega))]
      exact row_cell h _ _ (flatF_at msC 7 msC_size l i j (by omega) v hj)
    · have e1 : (l.eraseIdx k)[i]'hi = l[i + 1]'(by omega) := by
        have := getElem_erase l k i hi
        rw [if_neg hik, List.getElem?_eq_getElem hi, List.getElem?_eq_getElem (by omega)] at this
        injection this
      rw [e1] at hj
      have h1 := flatF_at msC 7 msC_size l (i + 1) j (by omega) v hj
      have e2 : (i + 1) * 7 + j = (k + 1) * 7 + ((i - k) * 7 + j) := by omega
      rw [e2, ← drop_flat] at h1
      have hlt := (List.getElem?_eq_some_iff.1 h1).1
      have h2 := World.cell?_setCells_in g (tailF l k) (k * 7) w (fun q hq => by
        rw [tailF_len l k hk] at hq
        have h3 : k * 7 + q < l.length * 7 := by omega
        have h4 : k * 7 + q < (flatF msC l).length := by rw [flatF_len msC 7 msC_size]; exact h3
        rw [row_cell h _ _ (List.getElem?_eq_getElem h4)]
        rfl) ((i - k) * 7 + j) hlt
      have e3 : k * 7 + ((i - k) * 7 + j) = i * 7 + j := by omega
      rw [e3] at h2
      rw [h2]
      rw [List.getElem?_eq_getElem hlt] at h1
      exact h1
  · have hm : (l.eraseIdx k)[i]'hi ∈ l := List.mem_of_mem_eraseIdx (List.getElem_mem hi)
    have h5 := ho _ hm
    refine MsOwn.ok (B := B) (hO.row_ne h5 ?_)
    exact off_row h5 hcur (by decide)
theorem map_erase {α β : Type} (f : α → β) : ∀ (l : List α) (k : Nat), (l.eraseIdx k).map f = (l.map f).eraseIdx k
  | [], k => by simp
  | a :: r, 0 => rfl
  | a :: r, k + 1 => by
    simp only [List.eraseIdx_cons_succ, List.map_cons]
    rw [map_erase f r k]
theorem erased_own {w : World} {B g n c : Nat} {l : List Ms} (h : MsRow w B (.slice (some ⟨g, 0, none⟩) n c) l) (ho : ∀ m, m ∈ l → MsOwn w B m) (k : Nat) : ∀ m, m ∈ l.eraseIdx k → MsOwn (w.setCells g (k * 7) (tailF l k)) B m := fun m hm => by
  obtain ⟨cur, hcur, hB, hs, hc, ht⟩ := blk_row h
  have h5 := ho _ (List.mem_of_mem_eraseIdx hm)
  exact (Only.setCells g (tailF l k) (k * 7) w).row_ne h5 (off_row h5 hcur (by decide))
theorem StepsAt.only {w w' : World} {g X B : Nat} {l : List Ms} {cs : Array Value} (h : StepsAt w (some ⟨g, 0, none⟩) l) (ho : ∀ m, m ∈ l → MsOwn w B m) (k : Only X w w') (hX : g ≠ X) (hb : Blk w X cs 25) : StepsAt w' (some ⟨g, 0, none⟩) l := fun i hi => by
  obtain ⟨⟨g2, o, e, hc⟩, -⟩ := h i hi
  injection e with e
  injection e with e1 e2
  subst e1 e2
  refine ⟨⟨g, 0, rfl, fun j v hj => k.cell (p := ⟨g, 0 + i * 7 + j, none⟩) hX (hc j v hj)⟩, ?_⟩
  have h5 := ho _ (List.getElem_mem hi)
  exact MsOwn.ok (B := B) (k.row_ne h5 (off_row h5 hb (by decide)))
theorem moved_facts {w : World} {B g n c : Nat} {l : List Ms} (h : MsRow w B (.slice (some ⟨g, 0, none⟩) n c) l) (k : Nat) (hk : k < l.length) :
    (∀ j, j < (tailF l k).length → (w.drew.cell? ⟨g, 0 + k * 7 + j, none⟩).isSome = true ∧ w.drew.frozen? ⟨g, 0 + k * 7 + j, none⟩ = false) ∧
    ∃ Ad : Addr, (if c = k + 1 then some (⟨g, 0, none⟩ : Addr) else some ⟨g, (k + 1) * 7, none⟩) = some Ad ∧ ∀ j u, (tailF l k)[j]? = some u → w.drew.cell? (Ad.add j) = some u := by
  obtain ⟨cur, hcur, hB, hs, hc, ht⟩ := blk_row h
  refine ⟨fun j hj => ?_, ?_⟩
  · rw [tailF_len l k hk] at hj
    have h3 : k * 7 + j < l.length * 7 := by omega
    have h4 : k * 7 + j < (flatF msC l).length := by rw [flatF_len msC 7 msC_size]; exact h3
    rw [Nat.zero_add]
    refine ⟨?_, hcur.frozen _⟩
    show (w.cell? ⟨g, k * 7 + j, none⟩).isSome = true
    rw [row_cell h _ _ (List.getElem?_eq_getElem h4)]
    rfl
  · by_cases hck : c = k + 1
    · refine ⟨⟨g, 0, none⟩, by rw [if_pos hck], fun j u hj => ?_⟩
      have := (List.getElem?_eq_some_iff.1 hj).1
      rw [tailF_len l k hk] at this
      omega
    · refine ⟨⟨g, (k + 1) * 7, none⟩, by rw [if_neg hck], fun j u hj => ?_⟩
      rw [drop_flat] at hj
      have ea : (⟨g, (k + 1) * 7, none⟩ : Addr).add j = ⟨g, (k + 1) * 7 + j, none⟩ := by simp [Addr.add]
      rw [ea]
      exact row_cell h _ _ hj
end Go.Proofs.Ytpcfcbaapnkanaa
