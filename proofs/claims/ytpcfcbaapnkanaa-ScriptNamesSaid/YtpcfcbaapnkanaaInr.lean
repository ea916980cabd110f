/-
  The contract of the reader's input of package record, for a reply.
-/
import Derived.Test.YtpcfcbaapnkanaaInq
namespace Go.Proofs.Ytpcfcbaapnkanaa
open Go.RowKit

theorem restAt {w : World} {g q j : Nat} {s : ByteArray} (h1 : w.cell? ⟨g, 0, none⟩ = some (.string s)) (h2 : w.frozen? ⟨g, 0, none⟩ = false) (h : g ≠ q) (u : Value) : HasRest (w.setCell ⟨q, j, none⟩ u) g s :=
  ⟨far_set w u h h1, (World.frozen?_setCell _ _ _ _).trans h2⟩

set_option maxHeartbeats 1000000 in
set_option maxRecDepth 10000 in
theorem input_reply_none (g : Nat) (r : List UInt8) (w : World) (hl : r.length ≤ 80000) (h8 : 8 ≤ r.length) (he : r.drop 8 = []) (h : HasRest w g (S (3 :: r))) :
    Calls Try.prog 78 #[.pointer (some ⟨g, 0, none⟩)] w (fun e w' => Faults 3 e ∧ Below g w w') := by
  have hg := h.lt
  have cT := Lib.hid (take_first g 3 r _ (by first | exact hl | simp) (h.alloc zIn))
  have h1 := ((h.set (S r)).alloc zIn).alloc (.cells #[.int .i64 3, .int .i64 0, .int .i64 0, .bool false, .string ⟨#[]⟩] 28)
  unfold zIn at cT h1
  have hix : ∀ h, (⟨#[3]⟩ : ByteArray)[0]'h = 3 := fun _ => rfl
  obtain ⟨hc, hf⟩ := h
  have H1 := Lib.hid h1
  clear h1
  have cN := Lib.hid (fun w h => number_at g r w hl h8 h)
  have hne : g ≠ w.heap.size := by have := World.block_lt_of_cell? w _ hc; simp at this; omega
  have hne2 : g ≠ w.heap.size + 1 := by have := World.block_lt_of_cell? w _ hc; simp at this; omega
  have hR0 := (own5_new (w.setCell ⟨g, 0, none⟩ (.string (S r))) 0 0 0 false ⟨#[]⟩)
  have hR1 := hR0.keeps ((Keeps.refl _).alloc (.cells #[.int .i64 3, .int .i64 0, .int .i64 0, .bool false, .string ⟨#[]⟩] 28))
  have hQ1 := own5_new ((w.setCell ⟨g, 0, none⟩ (.string (S r))).alloc (.cells #[.int .i64 0, .int .i64 0, .int .i64 0, .bool false, .string ⟨#[]⟩] 28)) 3 0 0 false ⟨#[]⟩
  have hz1 : (w.setCell ⟨g, 0, none⟩ (.string (S r))).heap.size = w.heap.size := by simp
  rw [hz1] at hR1
  have hz2 : ((w.setCell ⟨g, 0, none⟩ (.string (S r))).alloc (.cells #[.int .i64 0, .int .i64 0, .int .i64 0, .bool false, .string ⟨#[]⟩] 28)).heap.size = w.heap.size + 1 := by simp
  rw [hz2] at hQ1
  have hB1 : Below g w (((w.setCell ⟨g, 0, none⟩ (.string (S r))).alloc (.cells #[.int .i64 0, .int .i64 0, .int .i64 0, .bool false, .string ⟨#[]⟩] 28)).alloc (.cells #[.int .i64 3, .int .i64 0, .int .i64 0, .bool false, .string ⟨#[]⟩] 28)) := by repeat (first | exact Below.refl _ _ | refine Below.alloc ?_ (by first | omega | (simp; omega)) _ | refine Below.setCell ?_ (by simp) _ | refine Below.drew ?_)
  have hR2 := hR1.rest hne (S (r.drop 8))
  have hQ2 := hQ1.rest hne2 (S (r.drop 8))
  have hB2 := below_rest hB1 (S (r.drop 8))
  have hH2 := H1.out.set (S (r.drop 8))
  have HX := Lib.hid (And.intro hR2 (And.intro hQ2 (And.intro hB2 hH2)))
  clear hR0 hR1 hQ1 hz1 hz2 hB1 hR2 hQ2 hB2 hH2
  go_enter Try.func78, Try.ntmps78
  go_wp2_with fail
  refine cT.out.mono ?_
  rintro e w' ⟨rfl, rfl⟩
  go_wp2_with fail
  refine (cN.out _ H1.out).mono ?_
  rintro e w2 ⟨rfl, hk⟩
  obtain ⟨hR, hQ, hB, hH⟩ := HX.out
  have hR := hR.keeps hk
  have hQ := hQ.keeps hk
  have hH := hH.keeps hk
  have hsz : w.heap.size + 1 < w2.heap.size := World.block_lt_of_cell? w2 _ hQ.1.1
  have hBB : Below g w w2 := Below.trans hB (Below.mono hk (by simp; omega))
  clear hB HX hk cT cN H1
  obtain ⟨⟨q0, q1, q2, q3, q4⟩, f0, f1, f2, f3, f4⟩ := hQ
  obtain ⟨⟨r0, r1, r2, r3, r4⟩, e0, e1, e2, e3, e4⟩ := hR
  obtain ⟨hc2, hf2⟩ := hH
  clear hc hf
  generalize hm : ((min (val (r.take 8)) 9223372036854775807 : Nat) : Int) = m
  have HM := Lib.hid hm
  clear hm
  rw [he, show S [] = ⟨#[]⟩ from rfl] at hc2
  have cF := Lib.hid (flag_empty g _ (restAt (j := 2) hc2 hf2 hne2 (.int .i64 m)))
  go_wp2_with fail
  refine cF.out.mono ?_
  rintro e w' ⟨rfl, rfl⟩
  exact ⟨rfl, rfl, bset hBB (by omega) _⟩

set_option maxHeartbeats 1000000 in
set_option maxRecDepth 10000 in
theorem input_reply_bad (g : Nat) (r : List UInt8) (w : World) (hl : r.length ≤ 80000) (h8 : 8 ≤ r.length) (c : UInt8) (t : List UInt8) (he : r.drop 8 = c :: t) (hc1 : 1 < c.toNat) (ht : t.length ≤ 80000) (h : HasRest w g (S (3 :: r))) :
    Calls Try.prog 78 #[.pointer (some ⟨g, 0, none⟩)] w (fun e w' => Faults 5 e ∧ Below g w w') := by
  have hg := h.lt
  have cT := Lib.hid (take_first g 3 r _ (by first | exact hl | simp) (h.alloc zIn))
  have h1 := ((h.set (S r)).alloc zIn).alloc (.cells #[.int .i64 3, .int .i64 0, .int .i64 0, .bool false, .string ⟨#[]⟩] 28)
  unfold zIn at cT h1
  have hix : ∀ h, (⟨#[3]⟩ : ByteArray)[0]'h = 3 := fun _ => rfl
  obtain ⟨hc, hf⟩ := h
  have H1 := Lib.hid h1
  clear h1
  have cN := Lib.hid (fun w h => number_at g r w hl h8 h)
  have hne : g ≠ w.heap.size := by have := World.block_lt_of_cell? w _ hc; simp at this; omega
  have hne2 : g ≠ w.heap.size + 1 := by have := World.block_lt_of_cell? w _ hc; simp at this; omega
  have hR0 := (own5_new (w.setCell ⟨g, 0, none⟩ (.string (S r))) 0 0 0 false ⟨#[]⟩)
  have hR1 := hR0.keeps ((Keeps.refl _).alloc (.cells #[.int .i64 3, .int .i64 0, .int .i64 0, .bool false, .string ⟨#[]⟩] 28))
  have hQ1 := own5_new ((w.setCell ⟨g, 0, none⟩ (.string (S r))).alloc (.cells #[.int .i64 0, .int .i64 0, .int .i64 0, .bool false, .string ⟨#[]⟩] 28)) 3 0 0 false ⟨#[]⟩
  have hz1 : (w.setCell ⟨g, 0, none⟩ (.string (S r))).heap.size = w.heap.size := by simp
  rw [hz1] at hR1
  have hz2 : ((w.setCell ⟨g, 0, none⟩ (.string (S r))).alloc (.cells #[.int .i64 0, .int .i64 0, .int .i64 0, .bool false, .string ⟨#[]⟩] 28)).heap.size = w.heap.size + 1 := by simp
  rw [hz2] at hQ1
  have hB1 : Below g w (((w.setCell ⟨g, 0, none⟩ (.string (S r))).alloc (.cells #[.int .i64 0, .int .i64 0, .int .i64 0, .bool false, .string ⟨#[]⟩] 28)).alloc (.cells #[.int .i64 3, .int .i64 0, .int .i64 0, .bool false, .string ⟨#[]⟩] 28)) := by repeat (first | exact Below.refl _ _ | refine Below.alloc ?_ (by first | omega | (simp; omega)) _ | refine Below.setCell ?_ (by simp) _ | refine Below.drew ?_)
  have hR2 := hR1.rest hne (S (r.drop 8))
  have hQ2 := hQ1.rest hne2 (S (r.drop 8))
  have hB2 := below_rest hB1 (S (r.drop 8))
  have hH2 := H1.out.set (S (r.drop 8))
  have HX := Lib.hid (And.intro hR2 (And.intro hQ2 (And.intro hB2 hH2)))
  clear hR0 hR1 hQ1 hz1 hz2 hB1 hR2 hQ2 hB2 hH2
  go_enter Try.func78, Try.ntmps78
  go_wp2_with fail
  refine cT.out.mono ?_
  rintro e w' ⟨rfl, rfl⟩
  go_wp2_with fail
  refine (cN.out _ H1.out).mono ?_
  rintro e w2 ⟨rfl, hk⟩
  obtain ⟨hR, hQ, hB, hH⟩ := HX.out
  have hR := hR.keeps hk
  have hQ := hQ.keeps hk
  have hH := hH.keeps hk
  have hsz : w.heap.size + 1 < w2.heap.size := World.block_lt_of_cell? w2 _ hQ.1.1
  have hBB : Below g w w2 := Below.trans hB (Below.mono hk (by simp; omega))
  clear hB HX hk cT cN H1
  obtain ⟨⟨q0, q1, q2, q3, q4⟩, f0, f1, f2, f3, f4⟩ := hQ
  obtain ⟨⟨r0, r1, r2, r3, r4⟩, e0, e1, e2, e3, e4⟩ := hR
  obtain ⟨hc2, hf2⟩ := hH
  clear hc hf
  generalize hm : ((min (val (r.take 8)) 9223372036854775807 : Nat) : Int) = m
  have HM := Lib.hid hm
  clear hm
  rw [he] at hc2
  have cF := Lib.hid (flag_bad g c t _ (by omega) hc1 (restAt (j := 2) hc2 hf2 hne2 (.int .i64 m)))
  go_wp2_with fail
  refine cF.out.mono ?_
  rintro e w' ⟨rfl, rfl⟩
  exact ⟨rfl, rfl, bset (bset hBB (by omega) _) (Nat.le_refl _) _⟩

set_option maxHeartbeats 1000000 in
set_option maxRecDepth 10000 in
theorem input_reply_more (g : Nat) (r : List UInt8) (w : World) (hl : r.length ≤ 80000) (h8 : 8 ≤ r.length) (c : UInt8) (t : List UInt8) (he : r.drop 8 = c :: t) (hc1 : c.toNat ≤ 1) (ht : t.length ≤ 80000) (hnt : t ≠ []) (h : HasRest w g (S (3 :: r))) :
    Calls Try.prog 78 #[.pointer (some ⟨g, 0, none⟩)] w (fun e w' => Faults 5 e ∧ Below g w w') := by
  have hg := h.lt
  have cT := Lib.hid (take_first g 3 r _ (by first | exact hl | simp) (h.alloc zIn))
  have h1 := ((h.set (S r)).alloc zIn).alloc (.cells #[.int .i64 3, .int .i64 0, .int .i64 0, .bool false, .string ⟨#[]⟩] 28)
  unfold zIn at cT h1
  have hix : ∀ h, (⟨#[3]⟩ : ByteArray)[0]'h = 3 := fun _ => rfl
  obtain ⟨hc, hf⟩ := h
  have H1 := Lib.hid h1
  clear h1
  have cN := Lib.hid (fun w h => number_at g r w hl h8 h)
  have hne : g ≠ w.heap.size := by have := World.block_lt_of_cell? w _ hc; simp at this; omega
  have hne2 : g ≠ w.heap.size + 1 := by have := World.block_lt_of_cell? w _ hc; simp at this; omega
  have hR0 := (own5_new (w.setCell ⟨g, 0, none⟩ (.string (S r))) 0 0 0 false ⟨#[]⟩)
  have hR1 := hR0.keeps ((Keeps.refl _).alloc (.cells #[.int .i64 3, .int .i64 0, .int .i64 0, .bool false, .string ⟨#[]⟩] 28))
  have hQ1 := own5_new ((w.setCell ⟨g, 0, none⟩ (.string (S r))).alloc (.cells #[.int .i64 0, .int .i64 0, .int .i64 0, .bool false, .string ⟨#[]⟩] 28)) 3 0 0 false ⟨#[]⟩
  have hz1 : (w.setCell ⟨g, 0, none⟩ (.string (S r))).heap.size = w.heap.size := by simp
  rw [hz1] at hR1
  have hz2 : ((w.setCell ⟨g, 0, none⟩ (.string (S r))).alloc (.cells #[.int .i64 0, .int .i64 0, .int .i64 0, .bool false, .string ⟨#[]⟩] 28)).heap.size = w.heap.size + 1 := by simp
  rw [hz2] at hQ1
  have hB1 : Below g w (((w.setCell ⟨g, 0, none⟩ (.string (S r))).alloc (.cells #[.int .i64 0, .int .i64 0, .int .i64 0, .bool false, .string ⟨#[]⟩] 28)).alloc (.cells #[.int .i64 3, .int .i64 0, .int .i64 0, .bool false, .string ⟨#[]⟩] 28)) := by repeat (first | exact Below.refl _ _ | refine Below.alloc ?_ (by first | omega | (simp; omega)) _ | refine Below.setCell ?_ (by simp) _ | refine Below.drew ?_)
  have hR2 := hR1.rest hne (S (r.drop 8))
  have hQ2 := hQ1.rest hne2 (S (r.drop 8))
  have hB2 := below_rest hB1 (S (r.drop 8))
  have hH2 := H1.out.set (S (r.drop 8))
  have HX := Lib.hid (And.intro hR2 (And.intro hQ2 (And.intro hB2 hH2)))
  clear hR0 hR1 hQ1 hz1 hz2 hB1 hR2 hQ2 hB2 hH2
  go_enter Try.func78, Try.ntmps78
  go_wp2_with fail
  refine cT.out.mono ?_
  rintro e w' ⟨rfl, rfl⟩
  go_wp2_with fail
  refine (cN.out _ H1.out).mono ?_
  rintro e w2 ⟨rfl, hk⟩
  obtain ⟨hR, hQ, hB, hH⟩ := HX.out
  have hR := hR.keeps hk
  have hQ := hQ.keeps hk
  have hH := hH.keeps hk
  have hsz : w.heap.size + 1 < w2.heap.size := World.block_lt_of_cell? w2 _ hQ.1.1
  have hBB : Below g w w2 := Below.trans hB (Below.mono hk (by simp; omega))
  clear hB HX hk cT cN H1
  obtain ⟨⟨q0, q1, q2, q3, q4⟩, f0, f1, f2, f3, f4⟩ := hQ
  obtain ⟨⟨r0, r1, r2, r3, r4⟩, e0, e1, e2, e3, e4⟩ := hR
  obtain ⟨hc2, hf2⟩ := hH
  clear hc hf
  generalize hm : ((min (val (r.take 8)) 9223372036854775807 : Nat) : Int) = m
  have HM := Lib.hid hm
  clear hm
  rw [he] at hc2
  have hR3 := restAt (j := 2) hc2 hf2 hne2 (.int .i64 m)
  have cF := Lib.hid (flag_ok g c t _ (by omega) hc1 hR3)
  have h5 := (hR3.set (S t)).1
  have hne3 : (S t).toList.isEmpty = false := by
    rw [ByteArray.toList_eq, S_data]; cases hd : t with | nil => exact absurd hd hnt | cons a b => rfl
  clear hnt hR3
  generalize S t = tt at hne3 cF h5
  generalize (c == 1) = cb at cF
  go_wp2_with fail
  refine cF.out.mono ?_
  rintro e w' ⟨rfl, rfl⟩
  go_wp2
  exact ⟨rfl, rfl, bset (bset (bset hBB (by omega) _) (Nat.le_refl _) _) (by omega) _⟩

set_option maxHeartbeats 1000000 in
set_option maxRecDepth 10000 in
theorem input_reply (g : Nat) (r : List UInt8) (w : World) (hl : r.length ≤ 80000) (h8 : 8 ≤ r.length) (c : UInt8) (he : r.drop 8 = [c]) (hc1 : c.toNat ≤ 1) (h : HasRest w g (S (3 :: r))) :
    Calls Try.prog 78 #[.pointer (some ⟨g, 0, none⟩)] w (fun e w' => e = .returned (inV 3 0 ((min (val (r.take 8)) 9223372036854775807 : Nat) : Int) (c == 1) ⟨#[]⟩) ∧ Below g w w') := by
  have hg := h.lt
  have cT := Lib.hid (take_first g 3 r _ (by first | exact hl | simp) (h.alloc zIn))
  have h1 := ((h.set (S r)).alloc zIn).alloc (.cells #[.int .i64 3, .int .i64 0, .int .i64 0, .bool false, .string ⟨#[]⟩] 28)
  unfold zIn at cT h1
  have hix : ∀ h, (⟨#[3]⟩ : ByteArray)[0]'h = 3 := fun _ => rfl
  obtain ⟨hc, hf⟩ := h
  have H1 := Lib.hid h1
  clear h1
  have cN := Lib.hid (fun w h => number_at g r w hl h8 h)
  have hne : g ≠ w.heap.size := by have := World.block_lt_of_cell? w _ hc; simp at this; omega
  have hne2 : g ≠ w.heap.size + 1 := by have := World.block_lt_of_cell? w _ hc; simp at this; omega
  have hR0 := (own5_new (w.setCell ⟨g, 0, none⟩ (.string (S r))) 0 0 0 false ⟨#[]⟩)
  have hR1 := hR0.keeps ((Keeps.refl _).alloc (.cells #[.int .i64 3, .int .i64 0, .int .i64 0, .bool false, .string ⟨#[]⟩] 28))
  have hQ1 := own5_new ((w.setCell ⟨g, 0, none⟩ (.string (S r))).alloc (.cells #[.int .i64 0, .int .i64 0, .int .i64 0, .bool false, .string ⟨#[]⟩] 28)) 3 0 0 false ⟨#[]⟩
  have hz1 : (w.setCell ⟨g, 0, none⟩ (.string (S r))).heap.size = w.heap.size := by simp
  rw [hz1] at hR1
  have hz2 : ((w.setCell ⟨g, 0, none⟩ (.string (S r))).alloc (.cells #[.int .i64 0, .int .i64 0, .int .i64 0, .bool false, .string ⟨#[]⟩] 28)).heap.size = w.heap.size + 1 := by simp
  rw [hz2] at hQ1
  have hB1 : Below g w (((w.setCell ⟨g, 0, none⟩ (.string (S r))).alloc (.cells #[.int .i64 0, .int .i64 0, .int .i64 0, .bool false, .string ⟨#[]⟩] 28)).alloc (.cells #[.int .i64 3, .int .i64 0, .int .i64 0, .bool false, .string ⟨#[]⟩] 28)) := by repeat (first | exact Below.refl _ _ | refine Below.alloc ?_ (by first | omega | (simp; omega)) _ | refine Below.setCell ?_ (by simp) _ | refine Below.drew ?_)
  have hR2 := hR1.rest hne (S (r.drop 8))
  have hQ2 := hQ1.rest hne2 (S (r.drop 8))
  have hB2 := below_rest hB1 (S (r.drop 8))
  have hH2 := H1.out.set (S (r.drop 8))
  have HX := Lib.hid (And.intro hR2 (And.intro hQ2 (And.intro hB2 hH2)))
  clear hR0 hR1 hQ1 hz1 hz2 hB1 hR2 hQ2 hB2 hH2
  go_enter Try.func78, Try.ntmps78
  go_wp2_with fail
  refine cT.out.mono ?_
  rintro e w' ⟨rfl, rfl⟩
  go_wp2_with fail
  refine (cN.out _ H1.out).mono ?_
  rintro e w2 ⟨rfl, hk⟩
  obtain ⟨hR, hQ, hB, hH⟩ := HX.out
  have hR := hR.keeps hk
  have hQ := hQ.keeps hk
  have hH := hH.keeps hk
  have hsz : w.heap.size + 1 < w2.heap.size := World.block_lt_of_cell? w2 _ hQ.1.1
  have hBB : Below g w w2 := Below.trans hB (Below.mono hk (by simp; omega))
  clear hB HX hk cT cN H1
  obtain ⟨⟨q0, q1, q2, q3, q4⟩, f0, f1, f2, f3, f4⟩ := hQ
  obtain ⟨⟨r0, r1, r2, r3, r4⟩, e0, e1, e2, e3, e4⟩ := hR
  obtain ⟨hc2, hf2⟩ := hH
  clear hc hf
  generalize hm : ((min (val (r.take 8)) 9223372036854775807 : Nat) : Int) = m
  have HM := Lib.hid hm
  clear hm
  rw [he] at hc2
  have hR3 := restAt (j := 2) hc2 hf2 hne2 (.int .i64 m)
  have cF : Hid (Calls Try.prog 87 #[.pointer (some ⟨g, 0, none⟩)] (w2.setCell ⟨w.heap.size + 1, 2, none⟩ (.int .i64 m)) (fun e w' => e = .returned (.bool (c == 1)) ∧ w' = (w2.setCell ⟨w.heap.size + 1, 2, none⟩ (.int .i64 m)).setCell ⟨g, 0, none⟩ (.string ⟨#[]⟩))) := flag_ok g c [] _ (by simp) hc1 hR3
  have h5 := (hR3.set ⟨#[]⟩).1
  clear hR3
  generalize hcb : (c == 1) = cb at cF
  have HCB := Lib.hid hcb
  clear hcb
  go_wp2_with fail
  refine cF.out.mono ?_
  rintro e w' ⟨rfl, rfl⟩
  go_wp2
  have hrq : w.heap.size ≠ w.heap.size + 1 := by omega
  have hrg : w.heap.size ≠ g := fun h => hne h.symm
  obtain ⟨a0, a1, a2, a3, a4⟩ := five_set (((w2.setCell ⟨w.heap.size + 1, 2, none⟩ (.int .i64 m)).setCell ⟨g, 0, none⟩ (.string ⟨#[]⟩)).setCell ⟨w.heap.size + 1, 3, none⟩ (.bool cb)) w.heap.size (.int .i64 3) (.int .i64 0) (.int .i64 m) (.bool cb) (.string ⟨#[]⟩) (far_set _ _ hrq (far_set _ _ hrg (far_set w2 _ hrq r0))) (far_set _ _ hrq (far_set _ _ hrg (far_set w2 _ hrq r1))) (far_set _ _ hrq (far_set _ _ hrg (far_set w2 _ hrq r2))) (far_set _ _ hrq (far_set _ _ hrg (far_set w2 _ hrq r3))) (far_set _ _ hrq (far_set _ _ hrg (far_set w2 _ hrq r4)))
  exact bodyPost_ret (v := inV 3 0 m cb ⟨#[]⟩) (by simp [results, Try.results78, go_sem, inV, a0, a1, a2, a3, a4]) rfl ⟨by rw [HM.out, HCB.out], bset5 (bset (bset (bset hBB (by omega) _) (Nat.le_refl _) _) (by omega) _) (by omega) _ _ _ _ _⟩

end Go.Proofs.Ytpcfcbaapnkanaa
