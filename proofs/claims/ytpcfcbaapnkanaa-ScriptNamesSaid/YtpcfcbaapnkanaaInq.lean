/-
  The contract of the reader's input of package record, for the kinds with a number.
-/
import Derived.Test.YtpcfcbaapnkanaaInp
namespace Go.Proofs.Ytpcfcbaapnkanaa
open Go.RowKit

theorem five_set (W : World) (r : Nat) {x0 x1 x2 x3 x4 : Value} (v0 v1 v2 v3 v4 : Value) (h0 : W.cell? ⟨r, 0, none⟩ = some x0) (h1 : W.cell? ⟨r, 1, none⟩ = some x1) (h2 : W.cell? ⟨r, 2, none⟩ = some x2) (h3 : W.cell? ⟨r, 3, none⟩ = some x3) (h4 : W.cell? ⟨r, 4, none⟩ = some x4) :
    ((((((W.setCell ⟨r, 0, none⟩ v0).setCell ⟨r, 1, none⟩ v1).setCell ⟨r, 2, none⟩ v2).setCell ⟨r, 3, none⟩ v3).setCell ⟨r, 4, none⟩ v4).cell? ⟨r, 0, none⟩ = some v0) ∧
    ((((((W.setCell ⟨r, 0, none⟩ v0).setCell ⟨r, 1, none⟩ v1).setCell ⟨r, 2, none⟩ v2).setCell ⟨r, 3, none⟩ v3).setCell ⟨r, 4, none⟩ v4).cell? ⟨r, 1, none⟩ = some v1) ∧
    ((((((W.setCell ⟨r, 0, none⟩ v0).setCell ⟨r, 1, none⟩ v1).setCell ⟨r, 2, none⟩ v2).setCell ⟨r, 3, none⟩ v3).setCell ⟨r, 4, none⟩ v4).cell? ⟨r, 2, none⟩ = some v2) ∧
    ((((((W.setCell ⟨r, 0, none⟩ v0).setCell ⟨r, 1, none⟩ v1).setCell ⟨r, 2, none⟩ v2).setCell ⟨r, 3, none⟩ v3).setCell ⟨r, 4, none⟩ v4).cell? ⟨r, 3, none⟩ = some v3) ∧
    ((((((W.setCell ⟨r, 0, none⟩ v0).setCell ⟨r, 1, none⟩ v1).setCell ⟨r, 2, none⟩ v2).setCell ⟨r, 3, none⟩ v3).setCell ⟨r, 4, none⟩ v4).cell? ⟨r, 4, none⟩ = some v4) := by
  have o : ∀ (X : World) (i j : Nat) (v : Value), i ≠ j → (X.setCell ⟨r, j, none⟩ v).cell? ⟨r, i, none⟩ = X.cell? ⟨r, i, none⟩ := fun X i j v h => World.cell?_setCell_other _ _ _ _ (by simp [Ne.symm h])
  refine ⟨?_, ?_, ?_, ?_, ?_⟩
  · rw [o _ 0 4 _ (by decide), o _ 0 3 _ (by decide), o _ 0 2 _ (by decide), o _ 0 1 _ (by decide)]; exact World.cell?_setCell_same _ _ _ h0
  · rw [o _ 1 4 _ (by decide), o _ 1 3 _ (by decide), o _ 1 2 _ (by decide)]; exact World.cell?_setCell_same _ _ _ (by rw [o _ 1 0 _ (by decide)]; exact h1)
  · rw [o _ 2 4 _ (by decide), o _ 2 3 _ (by decide)]; exact World.cell?_setCell_same _ _ _ (by rw [o _ 2 1 _ (by decide), o _ 2 0 _ (by decide)]; exact h2)
  · rw [o _ 3 4 _ (by decide)]; exact World.cell?_setCell_same _ _ _ (by rw [o _ 3 2 _ (by decide), o _ 3 1 _ (by decide), o _ 3 0 _ (by decide)]; exact h3)
  · exact World.cell?_setCell_same _ _ _ (by rw [o _ 4 3 _ (by decide), o _ 4 2 _ (by decide), o _ 4 1 _ (by decide), o _ 4 0 _ (by decide)]; exact h4)
theorem bset {g : Nat} {a w : World} (h : Below g a w) {b i : Nat} (hb : g ≤ b) (u : Value) : Below g a (w.setCell ⟨b, i, none⟩ u) := Below.setCell h hb u
theorem bset5 {g : Nat} {a w : World} (h : Below g a w) {b : Nat} (hb : g ≤ b) (v0 v1 v2 v3 v4 : Value) : Below g a (((((w.setCell ⟨b, 0, none⟩ v0).setCell ⟨b, 1, none⟩ v1).setCell ⟨b, 2, none⟩ v2).setCell ⟨b, 3, none⟩ v3).setCell ⟨b, 4, none⟩ v4) :=
  bset (bset (bset (bset (bset h hb v0) hb v1) hb v2) hb v3) hb v4
theorem far_set (W : World) {r q i j : Nat} {v : Value} (u : Value) (h : r ≠ q) (hc : W.cell? ⟨r, i, none⟩ = some v) : (W.setCell ⟨q, j, none⟩ u).cell? ⟨r, i, none⟩ = some v := (World.cell?_setCell_other _ _ _ _ (by simp [Ne.symm h])).trans hc

set_option maxHeartbeats 1000000 in
set_option maxRecDepth 10000 in
theorem input_long_short (g : Nat) (r : List UInt8) (w : World) (h8 : r.length < 8) (h : HasRest w g (S (2 :: r))) :
    Calls Try.prog 78 #[.pointer (some ⟨g, 0, none⟩)] w (fun e w' => Faults 3 e ∧ Below g w w') := by
  have hg := h.lt
  have cT := Lib.hid (take_first g 2 r _ (by omega) (h.alloc zIn))
  have h1 := ((h.set (S r)).alloc zIn).alloc (.cells #[.int .i64 2, .int .i64 0, .int .i64 0, .bool false, .string ⟨#[]⟩] 28)
  unfold zIn at cT h1
  have hix : ∀ h, (⟨#[2]⟩ : ByteArray)[0]'h = 2 := fun _ => rfl
  obtain ⟨hc, hf⟩ := h
  have H1 := Lib.hid h1
  clear h1
  have cN := Lib.hid (fun w h => number_short g r w h8 h)
  go_enter Try.func78, Try.ntmps78
  go_wp2_with fail
  refine cT.out.mono ?_
  rintro e w' ⟨rfl, rfl⟩
  go_wp2_with fail
  refine (cN.out _ H1.out).mono ?_
  rintro e w' ⟨rfl, rfl⟩
  exact ⟨rfl, rfl, by repeat (first | exact Below.refl _ _ | refine Below.alloc ?_ (by first | omega | (simp; omega)) _ | refine Below.setCell ?_ (by simp) _ | refine Below.drew ?_)⟩

set_option maxHeartbeats 1000000 in
set_option maxRecDepth 10000 in
theorem input_long (g : Nat) (r : List UInt8) (w : World) (hl : r.length ≤ 80000) (h8 : 8 ≤ r.length) (he : r.drop 8 = []) (h : HasRest w g (S (2 :: r))) :
    Calls Try.prog 78 #[.pointer (some ⟨g, 0, none⟩)] w (fun e w' => e = .returned (inV 2 0 ((min (val (r.take 8)) 9223372036854775807 : Nat) : Int) false ⟨#[]⟩) ∧ Below g w w') := by
  have hg := h.lt
  have cT := Lib.hid (take_first g 2 r _ (by first | exact hl | simp) (h.alloc zIn))
  have h1 := ((h.set (S r)).alloc zIn).alloc (.cells #[.int .i64 2, .int .i64 0, .int .i64 0, .bool false, .string ⟨#[]⟩] 28)
  unfold zIn at cT h1
  have hix : ∀ h, (⟨#[2]⟩ : ByteArray)[0]'h = 2 := fun _ => rfl
  obtain ⟨hc, hf⟩ := h
  have H1 := Lib.hid h1
  clear h1
  have cN := Lib.hid (fun w h => number_at g r w hl h8 h)
  have hne : g ≠ w.heap.size := by have := World.block_lt_of_cell? w _ hc; simp at this; omega
  have hne2 : g ≠ w.heap.size + 1 := by have := World.block_lt_of_cell? w _ hc; simp at this; omega
  have hR0 := (own5_new (w.setCell ⟨g, 0, none⟩ (.string (S r))) 0 0 0 false ⟨#[]⟩)
  have hR1 := hR0.keeps ((Keeps.refl _).alloc (.cells #[.int .i64 2, .int .i64 0, .int .i64 0, .bool false, .string ⟨#[]⟩] 28))
  have hQ1 := own5_new ((w.setCell ⟨g, 0, none⟩ (.string (S r))).alloc (.cells #[.int .i64 0, .int .i64 0, .int .i64 0, .bool false, .string ⟨#[]⟩] 28)) 2 0 0 false ⟨#[]⟩
  have hz1 : (w.setCell ⟨g, 0, none⟩ (.string (S r))).heap.size = w.heap.size := by simp
  rw [hz1] at hR1
  have hz2 : ((w.setCell ⟨g, 0, none⟩ (.string (S r))).alloc (.cells #[.int .i64 0, .int .i64 0, .int .i64 0, .bool false, .string ⟨#[]⟩] 28)).heap.size = w.heap.size + 1 := by simp
  rw [hz2] at hQ1
  have hB1 : Below g w (((w.setCell ⟨g, 0, none⟩ (.string (S r))).alloc (.cells #[.int .i64 0, .int .i64 0, .int .i64 0, .bool false, .string ⟨#[]⟩] 28)).alloc (.cells #[.int .i64 2, .int .i64 0, .int .i64 0, .bool false, .string ⟨#[]⟩] 28)) := by repeat (first | exact Below.refl _ _ | refine Below.alloc ?_ (by first | omega | (simp; omega)) _ | refine Below.setCell ?_ (by simp) _ | refine Below.drew ?_)
  have hR2 := hR1.rest hne (S (r.drop 8))
  have hQ2 := hQ1.rest hne2 (S (r.drop 8))
  have hB2 := below_rest hB1 (S (r.drop 8))
  have hH2 := H1.out.set (S (r.drop 8))
  have HX := Lib.hid (And.intro hR2 (And.intro hQ2 (And.intro hB2 hH2)))
  clear hR0 hR1 hQ1 hz1 hz2 hB1 hR2 hQ2 hB2 hH2
  go_enter Try.func78, Try.ntmps78
  go_wp2_with fail
  refine cT.out.mono ?_
  rintro e w' ⟨rfl, rfl⟩
  go_wp2_with fail
  refine (cN.out _ H1.out).mono ?_
  rintro e w2 ⟨rfl, hk⟩
  obtain ⟨hR, hQ, hB, hH⟩ := HX.out
  have hR := hR.keeps hk
  have hQ := hQ.keeps hk
  have hH := hH.keeps hk
  have hsz : w.heap.size + 1 < w2.heap.size := World.block_lt_of_cell? w2 _ hQ.1.1
  have hBB : Below g w w2 := Below.trans hB (Below.mono hk (by simp; omega))
  clear hB HX hk cT cN H1
  obtain ⟨⟨q0, q1, q2, q3, q4⟩, f0, f1, f2, f3, f4⟩ := hQ
  obtain ⟨⟨r0, r1, r2, r3, r4⟩, e0, e1, e2, e3, e4⟩ := hR
  obtain ⟨hc2, hf2⟩ := hH
  rw [he, show S [] = ⟨#[]⟩ from rfl] at hc2
  clear hc hf
  generalize hm : ((min (val (r.take 8)) 9223372036854775807 : Nat) : Int) = m
  have HM := Lib.hid hm
  clear hm
  go_wp2
  have hrq : w.heap.size ≠ w.heap.size + 1 := by omega
  obtain ⟨a0, a1, a2, a3, a4⟩ := five_set (w2.setCell ⟨w.heap.size + 1, 2, none⟩ (.int .i64 m)) w.heap.size (.int .i64 2) (.int .i64 0) (.int .i64 m) (.bool false) (.string ⟨#[]⟩) (far_set w2 _ hrq r0) (far_set w2 _ hrq r1) (far_set w2 _ hrq r2) (far_set w2 _ hrq r3) (far_set w2 _ hrq r4)
  exact bodyPost_ret (v := inV 2 0 m false ⟨#[]⟩) (by simp [results, Try.results78, go_sem, inV, a0, a1, a2, a3, a4]) rfl ⟨by rw [HM.out], bset5 (bset hBB (by omega) _) (by omega) _ _ _ _ _⟩

set_option maxHeartbeats 1000000 in
set_option maxRecDepth 10000 in
theorem input_long_more (g : Nat) (r : List UInt8) (w : World) (hl : r.length ≤ 80000) (h8 : 8 ≤ r.length) (he : r.drop 8 ≠ []) (h : HasRest w g (S (2 :: r))) :
    Calls Try.prog 78 #[.pointer (some ⟨g, 0, none⟩)] w (fun e w' => Faults 5 e ∧ Below g w w') := by
  have hg := h.lt
  have cT := Lib.hid (take_first g 2 r _ (by first | exact hl | simp) (h.alloc zIn))
  have h1 := ((h.set (S r)).alloc zIn).alloc (.cells #[.int .i64 2, .int .i64 0, .int .i64 0, .bool false, .string ⟨#[]⟩] 28)
  unfold zIn at cT h1
  have hix : ∀ h, (⟨#[2]⟩ : ByteArray)[0]'h = 2 := fun _ => rfl
  obtain ⟨hc, hf⟩ := h
  have H1 := Lib.hid h1
  clear h1
  have cN := Lib.hid (fun w h => number_at g r w hl h8 h)
  have hne : g ≠ w.heap.size := by have := World.block_lt_of_cell? w _ hc; simp at this; omega
  have hne2 : g ≠ w.heap.size + 1 := by have := World.block_lt_of_cell? w _ hc; simp at this; omega
  have hR0 := (own5_new (w.setCell ⟨g, 0, none⟩ (.string (S r))) 0 0 0 false ⟨#[]⟩)
  have hR1 := hR0.keeps ((Keeps.refl _).alloc (.cells #[.int .i64 2, .int .i64 0, .int .i64 0, .bool false, .string ⟨#[]⟩] 28))
  have hQ1 := own5_new ((w.setCell ⟨g, 0, none⟩ (.string (S r))).alloc (.cells #[.int .i64 0, .int .i64 0, .int .i64 0, .bool false, .string ⟨#[]⟩] 28)) 2 0 0 false ⟨#[]⟩
  have hz1 : (w.setCell ⟨g, 0, none⟩ (.string (S r))).heap.size = w.heap.size := by simp
  rw [hz1] at hR1
  have hz2 : ((w.setCell ⟨g, 0, none⟩ (.string (S r))).alloc (.cells #[.int .i64 0, .int .i64 0, .int .i64 0, .bool false, .string ⟨#[]⟩] 28)).heap.size = w.heap.size + 1 := by simp
  rw [hz2] at hQ1
  have hB1 : Below g w (((w.setCell ⟨g, 0, none⟩ (.string (S r))).alloc (.cells #[.int .i64 0, .int .i64 0, .int .i64 0, .bool false, .string ⟨#[]⟩] 28)).alloc (.cells #[.int .i64 2, .int .i64 0, .int .i64 0, .bool false, .string ⟨#[]⟩] 28)) := by repeat (first | exact Below.refl _ _ | refine Below.alloc ?_ (by first | omega | (simp; omega)) _ | refine Below.setCell ?_ (by simp) _ | refine Below.drew ?_)
  have hR2 := hR1.rest hne (S (r.drop 8))
  have hQ2 := hQ1.rest hne2 (S (r.drop 8))
  have hB2 := below_rest hB1 (S (r.drop 8))
  have hH2 := H1.out.set (S (r.drop 8))
  have HX := Lib.hid (And.intro hR2 (And.intro hQ2 (And.intro hB2 hH2)))
  clear hR0 hR1 hQ1 hz1 hz2 hB1 hR2 hQ2 hB2 hH2
  go_enter Try.func78, Try.ntmps78
  go_wp2_with fail
  refine cT.out.mono ?_
  rintro e w' ⟨rfl, rfl⟩
  go_wp2_with fail
  refine (cN.out _ H1.out).mono ?_
  rintro e w2 ⟨rfl, hk⟩
  obtain ⟨hR, hQ, hB, hH⟩ := HX.out
  have hR := hR.keeps hk
  have hQ := hQ.keeps hk
  have hH := hH.keeps hk
  have hsz : w.heap.size + 1 < w2.heap.size := World.block_lt_of_cell? w2 _ hQ.1.1
  have hBB : Below g w w2 := Below.trans hB (Below.mono hk (by simp; omega))
  clear hB HX hk cT cN H1
  obtain ⟨⟨q0, q1, q2, q3, q4⟩, f0, f1, f2, f3, f4⟩ := hQ
  obtain ⟨⟨r0, r1, r2, r3, r4⟩, e0, e1, e2, e3, e4⟩ := hR
  obtain ⟨hc2, hf2⟩ := hH
  clear hc hf
  generalize hm : ((min (val (r.take 8)) 9223372036854775807 : Nat) : Int) = m
  have HM := Lib.hid hm
  clear hm
  have hne : (S (r.drop 8)).toList.isEmpty = false := by
    rw [ByteArray.toList_eq, S_data]; cases hd : r.drop 8 with | nil => exact absurd hd he | cons a b => rfl
  clear he
  generalize S (r.drop 8) = t at hc2 hne
  go_wp2
  exact ⟨rfl, rfl, bset hBB (by omega) _⟩

set_option maxHeartbeats 1000000 in
set_option maxRecDepth 10000 in
theorem input_tick_short (g : Nat) (r : List UInt8) (w : World) (h8 : r.length < 8) (h : HasRest w g (S (4 :: r))) :
    Calls Try.prog 78 #[.pointer (some ⟨g, 0, none⟩)] w (fun e w' => Faults 3 e ∧ Below g w w') := by
  have hg := h.lt
  have cT := Lib.hid (take_first g 4 r _ (by omega) (h.alloc zIn))
  have h1 := ((h.set (S r)).alloc zIn).alloc (.cells #[.int .i64 4, .int .i64 0, .int .i64 0, .bool false, .string ⟨#[]⟩] 28)
  unfold zIn at cT h1
  have hix : ∀ h, (⟨#[4]⟩ : ByteArray)[0]'h = 4 := fun _ => rfl
  obtain ⟨hc, hf⟩ := h
  have H1 := Lib.hid h1
  clear h1
  have cN := Lib.hid (fun w h => number_short g r w h8 h)
  go_enter Try.func78, Try.ntmps78
  go_wp2_with fail
  refine cT.out.mono ?_
  rintro e w' ⟨rfl, rfl⟩
  go_wp2_with fail
  refine (cN.out _ H1.out).mono ?_
  rintro e w' ⟨rfl, rfl⟩
  exact ⟨rfl, rfl, by repeat (first | exact Below.refl _ _ | refine Below.alloc ?_ (by first | omega | (simp; omega)) _ | refine Below.setCell ?_ (by simp) _ | refine Below.drew ?_)⟩

set_option maxHeartbeats 1000000 in
set_option maxRecDepth 10000 in
theorem input_tick (g : Nat) (r : List UInt8) (w : World) (hl : r.length ≤ 80000) (h8 : 8 ≤ r.length) (he : r.drop 8 = []) (h : HasRest w g (S (4 :: r))) :
    Calls Try.prog 78 #[.pointer (some ⟨g, 0, none⟩)] w (fun e w' => e = .returned (inV 4 0 ((min (val (r.take 8)) 9223372036854775807 : Nat) : Int) false ⟨#[]⟩) ∧ Below g w w') := by
  have hg := h.lt
  have cT := Lib.hid (take_first g 4 r _ (by first | exact hl | simp) (h.alloc zIn))
  have h1 := ((h.set (S r)).alloc zIn).alloc (.cells #[.int .i64 4, .int .i64 0, .int .i64 0, .bool false, .string ⟨#[]⟩] 28)
  unfold zIn at cT h1
  have hix : ∀ h, (⟨#[4]⟩ : ByteArray)[0]'h = 4 := fun _ => rfl
  obtain ⟨hc, hf⟩ := h
  have H1 := Lib.hid h1
  clear h1
  have cN := Lib.hid (fun w h => number_at g r w hl h8 h)
  have hne : g ≠ w.heap.size := by have := World.block_lt_of_cell? w _ hc; simp at this; omega
  have hne2 : g ≠ w.heap.size + 1 := by have := World.block_lt_of_cell? w _ hc; simp at this; omega
  have hR0 := (own5_new (w.setCell ⟨g, 0, none⟩ (.string (S r))) 0 0 0 false ⟨#[]⟩)
  have hR1 := hR0.keeps ((Keeps.refl _).alloc (.cells #[.int .i64 4, .int .i64 0, .int .i64 0, .bool false, .string ⟨#[]⟩] 28))
  have hQ1 := own5_new ((w.setCell ⟨g, 0, none⟩ (.string (S r))).alloc (.cells #[.int .i64 0, .int .i64 0, .int .i64 0, .bool false, .string ⟨#[]⟩] 28)) 4 0 0 false ⟨#[]⟩
  have hz1 : (w.setCell ⟨g, 0, none⟩ (.string (S r))).heap.size = w.heap.size := by simp
  rw [hz1] at hR1
  have hz2 : ((w.setCell ⟨g, 0, none⟩ (.string (S r))).alloc (.cells #[.int .i64 0, .int .i64 0, .int .i64 0, .bool false, .string ⟨#[]⟩] 28)).heap.size = w.heap.size + 1 := by simp
  rw [hz2] at hQ1
  have hB1 : Below g w (((w.setCell ⟨g, 0, none⟩ (.string (S r))).alloc (.cells #[.int .i64 0, .int .i64 0, .int .i64 0, .bool false, .string ⟨#[]⟩] 28)).alloc (.cells #[.int .i64 4, .int .i64 0, .int .i64 0, .bool false, .string ⟨#[]⟩] 28)) := by repeat (first | exact Below.refl _ _ | refine Below.alloc ?_ (by first | omega | (simp; omega)) _ | refine Below.setCell ?_ (by simp) _ | refine Below.drew ?_)
  have hR2 := hR1.rest hne (S (r.drop 8))
  have hQ2 := hQ1.rest hne2 (S (r.drop 8))
  have hB2 := below_rest hB1 (S (r.drop 8))
  have hH2 := H1.out.set (S (r.drop 8))
  have HX := Lib.hid (And.intro hR2 (And.intro hQ2 (And.intro hB2 hH2)))
  clear hR0 hR1 hQ1 hz1 hz2 hB1 hR2 hQ2 hB2 hH2
  go_enter Try.func78, Try.ntmps78
  go_wp2_with fail
  refine cT.out.mono ?_
  rintro e w' ⟨rfl, rfl⟩
  go_wp2_with fail
  refine (cN.out _ H1.out).mono ?_
  rintro e w2 ⟨rfl, hk⟩
  obtain ⟨hR, hQ, hB, hH⟩ := HX.out
  have hR := hR.keeps hk
  have hQ := hQ.keeps hk
  have hH := hH.keeps hk
  have hsz : w.heap.size + 1 < w2.heap.size := World.block_lt_of_cell? w2 _ hQ.1.1
  have hBB : Below g w w2 := Below.trans hB (Below.mono hk (by simp; omega))
  clear hB HX hk cT cN H1
  obtain ⟨⟨q0, q1, q2, q3, q4⟩, f0, f1, f2, f3, f4⟩ := hQ
  obtain ⟨⟨r0, r1, r2, r3, r4⟩, e0, e1, e2, e3, e4⟩ := hR
  obtain ⟨hc2, hf2⟩ := hH
  rw [he, show S [] = ⟨#[]⟩ from rfl] at hc2
  clear hc hf
  generalize hm : ((min (val (r.take 8)) 9223372036854775807 : Nat) : Int) = m
  have HM := Lib.hid hm
  clear hm
  go_wp2
  have hrq : w.heap.size ≠ w.heap.size + 1 := by omega
  obtain ⟨a0, a1, a2, a3, a4⟩ := five_set (w2.setCell ⟨w.heap.size + 1, 2, none⟩ (.int .i64 m)) w.heap.size (.int .i64 4) (.int .i64 0) (.int .i64 m) (.bool false) (.string ⟨#[]⟩) (far_set w2 _ hrq r0) (far_set w2 _ hrq r1) (far_set w2 _ hrq r2) (far_set w2 _ hrq r3) (far_set w2 _ hrq r4)
  exact bodyPost_ret (v := inV 4 0 m false ⟨#[]⟩) (by simp [results, Try.results78, go_sem, inV, a0, a1, a2, a3, a4]) rfl ⟨by rw [HM.out], bset5 (bset hBB (by omega) _) (by omega) _ _ _ _ _⟩

set_option maxHeartbeats 1000000 in
set_option maxRecDepth 10000 in
theorem input_tick_more (g : Nat) (r : List UInt8) (w : World) (hl : r.length ≤ 80000) (h8 : 8 ≤ r.length) (he : r.drop 8 ≠ []) (h : HasRest w g (S (4 :: r))) :
    Calls Try.prog 78 #[.pointer (some ⟨g, 0, none⟩)] w (fun e w' => Faults 5 e ∧ Below g w w') := by
  have hg := h.lt
  have cT := Lib.hid (take_first g 4 r _ (by first | exact hl | simp) (h.alloc zIn))
  have h1 := ((h.set (S r)).alloc zIn).alloc (.cells #[.int .i64 4, .int .i64 0, .int .i64 0, .bool false, .string ⟨#[]⟩] 28)
  unfold zIn at cT h1
  have hix : ∀ h, (⟨#[4]⟩ : ByteArray)[0]'h = 4 := fun _ => rfl
  obtain ⟨hc, hf⟩ := h
  have H1 := Lib.hid h1
  clear h1
  have cN := Lib.hid (fun w h => number_at g r w hl h8 h)
  have hne : g ≠ w.heap.size := by have := World.block_lt_of_cell? w _ hc; simp at this; omega
  have hne2 : g ≠ w.heap.size + 1 := by have := World.block_lt_of_cell? w _ hc; simp at this; omega
  have hR0 := (own5_new (w.setCell ⟨g, 0, none⟩ (.string (S r))) 0 0 0 false ⟨#[]⟩)
  have hR1 := hR0.keeps ((Keeps.refl _).alloc (.cells #[.int .i64 4, .int .i64 0, .int .i64 0, .bool false, .string ⟨#[]⟩] 28))
  have hQ1 := own5_new ((w.setCell ⟨g, 0, none⟩ (.string (S r))).alloc (.cells #[.int .i64 0, .int .i64 0, .int .i64 0, .bool false, .string ⟨#[]⟩] 28)) 4 0 0 false ⟨#[]⟩
  have hz1 : (w.setCell ⟨g, 0, none⟩ (.string (S r))).heap.size = w.heap.size := by simp
  rw [hz1] at hR1
  have hz2 : ((w.setCell ⟨g, 0, none⟩ (.string (S r))).alloc (.cells #[.int .i64 0, .int .i64 0, .int .i64 0, .bool false, .string ⟨#[]⟩] 28)).heap.size = w.heap.size + 1 := by simp
  rw [hz2] at hQ1
  have hB1 : Below g w (((w.setCell ⟨g, 0, none⟩ (.string (S r))).alloc (.cells #[.int .i64 0, .int .i64 0, .int .i64 0, .bool false, .string ⟨#[]⟩] 28)).alloc (.cells #[.int .i64 4, .int .i64 0, .int .i64 0, .bool false, .string ⟨#[]⟩] 28)) := by repeat (first | exact Below.refl _ _ | refine Below.alloc ?_ (by first | omega | (simp; omega)) _ | refine Below.setCell ?_ (by simp) _ | refine Below.drew ?_)
  have hR2 := hR1.rest hne (S (r.drop 8))
  have hQ2 := hQ1.rest hne2 (S (r.drop 8))
  have hB2 := below_rest hB1 (S (r.drop 8))
  have hH2 := H1.out.set (S (r.drop 8))
  have HX := Lib.hid (And.intro hR2 (And.intro hQ2 (And.intro hB2 hH2)))
  clear hR0 hR1 hQ1 hz1 hz2 hB1 hR2 hQ2 hB2 hH2
  go_enter Try.func78, Try.ntmps78
  go_wp2_with fail
  refine cT.out.mono ?_
  rintro e w' ⟨rfl, rfl⟩
  go_wp2_with fail
  refine (cN.out _ H1.out).mono ?_
  rintro e w2 ⟨rfl, hk⟩
  obtain ⟨hR, hQ, hB, hH⟩ := HX.out
  have hR := hR.keeps hk
  have hQ := hQ.keeps hk
  have hH := hH.keeps hk
  have hsz : w.heap.size + 1 < w2.heap.size := World.block_lt_of_cell? w2 _ hQ.1.1
  have hBB : Below g w w2 := Below.trans hB (Below.mono hk (by simp; omega))
  clear hB HX hk cT cN H1
  obtain ⟨⟨q0, q1, q2, q3, q4⟩, f0, f1, f2, f3, f4⟩ := hQ
  obtain ⟨⟨r0, r1, r2, r3, r4⟩, e0, e1, e2, e3, e4⟩ := hR
  obtain ⟨hc2, hf2⟩ := hH
  clear hc hf
  generalize hm : ((min (val (r.take 8)) 9223372036854775807 : Nat) : Int) = m
  have HM := Lib.hid hm
  clear hm
  have hne : (S (r.drop 8)).toList.isEmpty = false := by
    rw [ByteArray.toList_eq, S_data]; cases hd : r.drop 8 with | nil => exact absurd hd he | cons a b => rfl
  clear he
  generalize S (r.drop 8) = t at hc2 hne
  go_wp2
  exact ⟨rfl, rfl, bset hBB (by omega) _⟩

set_option maxHeartbeats 1000000 in
set_option maxRecDepth 10000 in
theorem input_reply_short (g : Nat) (r : List UInt8) (w : World) (h8 : r.length < 8) (h : HasRest w g (S (3 :: r))) :
    Calls Try.prog 78 #[.pointer (some ⟨g, 0, none⟩)] w (fun e w' => Faults 3 e ∧ Below g w w') := by
  have hg := h.lt
  have cT := Lib.hid (take_first g 3 r _ (by omega) (h.alloc zIn))
  have h1 := ((h.set (S r)).alloc zIn).alloc (.cells #[.int .i64 3, .int .i64 0, .int .i64 0, .bool false, .string ⟨#[]⟩] 28)
  unfold zIn at cT h1
  have hix : ∀ h, (⟨#[3]⟩ : ByteArray)[0]'h = 3 := fun _ => rfl
  obtain ⟨hc, hf⟩ := h
  have H1 := Lib.hid h1
  clear h1
  have cN := Lib.hid (fun w h => number_short g r w h8 h)
  go_enter Try.func78, Try.ntmps78
  go_wp2_with fail
  refine cT.out.mono ?_
  rintro e w' ⟨rfl, rfl⟩
  go_wp2_with fail
  refine (cN.out _ H1.out).mono ?_
  rintro e w' ⟨rfl, rfl⟩
  exact ⟨rfl, rfl, by repeat (first | exact Below.refl _ _ | refine Below.alloc ?_ (by first | omega | (simp; omega)) _ | refine Below.setCell ?_ (by simp) _ | refine Below.drew ?_)⟩

end Go.Proofs.Ytpcfcbaapnkanaa
