/-
  The reader's methods of package json: a number, a word.
-/
import Derived.Test.YtljkeladdplhlaaDoorRdv
namespace Go.Proofs.YtljkeladdplhlaaDoor
open Go.RowKit

theorem five_cell {w : World} {g r i : Nat} (v0 v1 v2 v3 v4 : Value) (h : r ≠ g) : (five w g v0 v1 v2 v3 v4).cell? ⟨r, i, none⟩ = w.cell? ⟨r, i, none⟩ := by
  unfold five
  have o : ∀ (X : World) (j : Nat) (v : Value), (X.setCell ⟨g, j, none⟩ v).cell? ⟨r, i, none⟩ = X.cell? ⟨r, i, none⟩ := fun X j v => World.cell?_setCell_other _ _ _ _ (by simp [Ne.symm h])
  rw [o, o, o, o, o]

set_option maxHeartbeats 4000000 in
theorem numberJ_any (r : Nat) (s : ByteArray) (a : Nat) (f : Value) (w : World) (h : Rd w r s a) (ha : a ≤ s.size) (hs : s.size ≤ 100000) (hn : (readL (s.data.toList.drop a)).2.1 ≤ s.size) : Calls Tryd.prog 66 #[.pointer (some ⟨r, 0, none⟩), f] w (RetJ r s a w (numJ (s.data.toList.drop a))) := by
  have cN : Hid (∀ w1, Calls Tryd.prog 77 #[.string (s.extract a s.size)] w1 (RetN (readL (s.data.toList.drop a)) w1)) := Lib.hid (fun w1 => by
    have := rn_any (s.extract a s.size) w1 (by simp; omega)
    rwa [ext_drop] at this)
  have hne : w.heap.size ≠ r := fun e => by have := h.lt; omega
  have hne2 : r ≠ w.heap.size := fun e => hne e.symm
  unfold numJ
  generalize readL (s.data.toList.drop a) = p at *
  obtain ⟨p0, p1, p2⟩ := p
  simp only at hn
  have hB : (w.alloc (.cells #[.int .i64 0, .int .i64 0, .string ⟨#[]⟩, .slice none 0 0, .slice none 0 0] 25)).heap[w.heap.size]? = some (.cells #[.int .i64 0, .int .i64 0, .string ⟨#[]⟩, .slice none 0 0, .slice none 0 0] 25 (0, 0)) := heap_alloc_new w _
  have HB := Lib.hid hB
  have H1 := Lib.hid (h.keeps ((Keeps.refl _).alloc (.cells #[.int .i64 0, .int .i64 0, .string ⟨#[]⟩, .slice none 0 0, .slice none 0 0] 25)))
  have O1 := Lib.hid ((Only.refl [r] w).alloc (.cells #[.int .i64 0, .int .i64 0, .string ⟨#[]⟩, .slice none 0 0, .slice none 0 0] 25))
  have q0 : (0 : Int) ≤ (a : Int) := by omega
  have q1 : (a : Int) ≤ (s.size : Int) := by omega
  have c0 := H1.out.text
  have c1 := H1.out.at
  clear hB h
  by_cases hp : p2 = 0
  · subst hp
    rw [if_neg (by simp)]
    go_enter Tryd.func66, Tryd.ntmps66
    go_wp2
    go_quiet ((go_at_call 77; exact Calls.quiet_of_same (cN.out _)))
    have H2 : Hid (Rd ((w.alloc (.cells #[.int .i64 0, .int .i64 0, .string ⟨#[]⟩, .slice none 0 0, .slice none 0 0] 25)).drewN nq) r s a) := Lib.hid H1.out
    have O2 : Hid (Only [r] w ((w.alloc (.cells #[.int .i64 0, .int .i64 0, .string ⟨#[]⟩, .slice none 0 0, .slice none 0 0] 25)).drewN nq)) := Lib.hid (O1.out.drewN nq)
    have HB2 : Hid (((w.alloc (.cells #[.int .i64 0, .int .i64 0, .string ⟨#[]⟩, .slice none 0 0, .slice none 0 0] 25)).drewN nq).heap[w.heap.size]? = some (.cells #[.int .i64 0, .int .i64 0, .string ⟨#[]⟩, .slice none 0 0, .slice none 0 0] 25 (0, 0))) := Lib.hid HB.out
    clear c0 c1
    generalize (w.alloc (.cells #[.int .i64 0, .int .i64 0, .string ⟨#[]⟩, .slice none 0 0, .slice none 0 0] 25)).drewN nq = w2 at *
    have d1 := H2.out.at
    have d2 := H2.out.free
    obtain ⟨⟨c0, c1, c2, c3, c4⟩, f0, f1, f2, f3, f4⟩ := cells5 HB2.out
    go_wp2
    (try simp only [Exit.inBlock, Exit.then])
    have H3 : Rd (w2.setCell ⟨r, 1, none⟩ (.int .i64 ((a : Int) + (p1 : Int)))) r s (a + p1) := H2.out.putI (by omega)
    have HB3 : (w2.setCell ⟨r, 1, none⟩ (.int .i64 ((a : Int) + (p1 : Int)))).heap[w.heap.size]? = some (.cells #[.int .i64 0, .int .i64 0, .string ⟨#[]⟩, .slice none 0 0, .slice none 0 0] 25 (0, 0)) := (heap_setCell_other w2 ⟨r, 1, none⟩ w.heap.size _ hne).trans HB2.out
    refine ret_j w.heap.size _ rfl rfl (five_heap _ _ _ _ _ HB3) rfl rfl ?_
    exact RetJ.good ((O2.out.set _ (.inl (List.mem_singleton.2 rfl)) _).five _ (.inr (Nat.le_refl _)) _ _ _ _ _) (IsJ.plain _ _ _ _ _) (H3.five hne2 _ _ _ _ _)
  · rw [if_pos hp]
    have f9 : ((p2 : Int) != 0) = true := by simp; omega
    go_enter Tryd.func66, Tryd.ntmps66
    go_wp2
    go_quiet ((go_at_call 77; exact Calls.quiet_of_same (cN.out _)))
    have O2 : Hid (Only [r] w ((w.alloc (.cells #[.int .i64 0, .int .i64 0, .string ⟨#[]⟩, .slice none 0 0, .slice none 0 0] 25)).drewN nq)) := Lib.hid (O1.out.drewN nq)
    have HB2 : Hid (((w.alloc (.cells #[.int .i64 0, .int .i64 0, .string ⟨#[]⟩, .slice none 0 0, .slice none 0 0] 25)).drewN nq).heap[w.heap.size]? = some (.cells #[.int .i64 0, .int .i64 0, .string ⟨#[]⟩, .slice none 0 0, .slice none 0 0] 25 (0, 0))) := Lib.hid HB.out
    clear c0 c1 H1 O1 HB
    generalize (w.alloc (.cells #[.int .i64 0, .int .i64 0, .string ⟨#[]⟩, .slice none 0 0, .slice none 0 0] 25)).drewN nq = w2 at *
    obtain ⟨⟨c0, c1, c2, c3, c4⟩, f0, f1, f2, f3, f4⟩ := cells5 HB2.out
    go_wp2
    (try simp only [Exit.inBlock, Exit.then])
    refine ret_j w.heap.size _ rfl rfl (five_heap _ _ _ _ _ HB2.out) rfl rfl ?_
    exact RetJ.bad (O2.out.five _ (.inr (Nat.le_refl _)) _ _ _ _ _) hp

theorem wordL_four (l : List UInt8) : wordL l = trueL ∨ wordL l = falseL ∨ wordL l = nullL ∨ wordL l = [] := by
  unfold wordL
  repeat' split
  · exact .inl rfl
  · exact .inr (.inl rfl)
  · exact .inr (.inr (.inl rfl))
  · exact .inr (.inr (.inr rfl))

set_option maxHeartbeats 4000000 in
set_option maxRecDepth 100000 in
theorem wordJ_t (r : Nat) (s : ByteArray) (a : Nat) (f : Value) (w : World) (h : Rd w r s a) (ha : a ≤ s.size) (hs : s.size ≤ 100000) (hw : wordL (s.data.toList.drop a) = [116, 114, 117, 101]) : Calls Tryd.prog 67 #[.pointer (some ⟨r, 0, none⟩), f] w (RetJ r s a w (.mk 2 1 [] [] [], 4, 0)) := by
  have cW : Hid (∀ w1, Calls Tryd.prog 78 #[.string (s.extract a s.size)] w1 (fun e w' => e = .returned (.string ⟨#[116, 114, 117, 101]⟩) ∧ w' = w1)) := Lib.hid (fun w1 => by
    have := word_any (s.extract a s.size) w1
    rwa [ext_drop, hw] at this)
  have hne : w.heap.size ≠ r := fun e => by have := h.lt; omega
  have hne2 : r ≠ w.heap.size := fun e => hne e.symm
  have hB : (w.alloc (.cells #[.int .i64 0, .int .i64 0, .string ⟨#[]⟩, .slice none 0 0, .slice none 0 0] 25)).heap[w.heap.size]? = some (.cells #[.int .i64 0, .int .i64 0, .string ⟨#[]⟩, .slice none 0 0, .slice none 0 0] 25 (0, 0)) := heap_alloc_new w _
  have HB := Lib.hid hB
  have H1 := Lib.hid (h.keeps ((Keeps.refl _).alloc (.cells #[.int .i64 0, .int .i64 0, .string ⟨#[]⟩, .slice none 0 0, .slice none 0 0] 25)))
  have O1 := Lib.hid ((Only.refl [r] w).alloc (.cells #[.int .i64 0, .int .i64 0, .string ⟨#[]⟩, .slice none 0 0, .slice none 0 0] 25))
  have q0 : (0 : Int) ≤ (a : Int) := by omega
  have q1 : (a : Int) ≤ (s.size : Int) := by omega
  have c0 := H1.out.text
  have c1 := H1.out.at
  clear hB h hw
  go_enter Tryd.func67, Tryd.ntmps67
  go_wp2
  go_quiet (fail)
  have H2 : Hid (Rd ((w.alloc (.cells #[.int .i64 0, .int .i64 0, .string ⟨#[]⟩, .slice none 0 0, .slice none 0 0] 25)).drewN nq) r s a) := Lib.hid H1.out
  have O2 : Hid (Only [r] w ((w.alloc (.cells #[.int .i64 0, .int .i64 0, .string ⟨#[]⟩, .slice none 0 0, .slice none 0 0] 25)).drewN nq)) := Lib.hid (O1.out.drewN nq)
  have HB2 : Hid (((w.alloc (.cells #[.int .i64 0, .int .i64 0, .string ⟨#[]⟩, .slice none 0 0, .slice none 0 0] 25)).drewN nq).heap[w.heap.size]? = some (.cells #[.int .i64 0, .int .i64 0, .string ⟨#[]⟩, .slice none 0 0, .slice none 0 0] 25 (0, 0))) := Lib.hid HB.out
  clear c0 c1
  generalize (w.alloc (.cells #[.int .i64 0, .int .i64 0, .string ⟨#[]⟩, .slice none 0 0, .slice none 0 0] 25)).drewN nq = w2 at *
  have d1 := H2.out.at
  have d2 := H2.out.free
  obtain ⟨⟨c0, c1, c2, c3, c4⟩, f0, f1, f2, f3, f4⟩ := cells5 HB2.out
  go_wp2_with fail
  refine (cW.out _).mono ?_
  rintro e w3 ⟨rfl, rfl⟩
  go_wp2
  (try simp only [Exit.inBlock, Exit.then])
  have H3 : Rd (w3.setCell ⟨r, 1, none⟩ (.int .i64 ((a : Int) + 4))) r s (a + 4) := H2.out.putI (by omega)
  have HB3 : (w3.setCell ⟨r, 1, none⟩ (.int .i64 ((a : Int) + 4))).heap[w.heap.size]? = some (.cells #[.int .i64 0, .int .i64 0, .string ⟨#[]⟩, .slice none 0 0, .slice none 0 0] 25 (0, 0)) := (heap_setCell_other w3 ⟨r, 1, none⟩ w.heap.size _ hne).trans HB2.out
  refine ret_j w.heap.size _ rfl rfl (five_heap _ _ _ _ _ HB3) rfl rfl ?_
  exact RetJ.good ((O2.out.set _ (.inl (List.mem_singleton.2 rfl)) _).five _ (.inr (Nat.le_refl _)) _ _ _ _ _) (IsJ.plain _ _ _ _ _) (H3.five hne2 _ _ _ _ _)
set_option maxHeartbeats 4000000 in
set_option maxRecDepth 100000 in
theorem wordJ_f (r : Nat) (s : ByteArray) (a : Nat) (f : Value) (w : World) (h : Rd w r s a) (ha : a ≤ s.size) (hs : s.size ≤ 100000) (hw : wordL (s.data.toList.drop a) = [102, 97, 108, 115, 101]) : Calls Tryd.prog 67 #[.pointer (some ⟨r, 0, none⟩), f] w (RetJ r s a w (.mk 2 0 [] [] [], 5, 0)) := by
  have cW : Hid (∀ w1, Calls Tryd.prog 78 #[.string (s.extract a s.size)] w1 (fun e w' => e = .returned (.string ⟨#[102, 97, 108, 115, 101]⟩) ∧ w' = w1)) := Lib.hid (fun w1 => by
    have := word_any (s.extract a s.size) w1
    rwa [ext_drop, hw] at this)
  have hne : w.heap.size ≠ r := fun e => by have := h.lt; omega
  have hne2 : r ≠ w.heap.size := fun e => hne e.symm
  have hB : (w.alloc (.cells #[.int .i64 0, .int .i64 0, .string ⟨#[]⟩, .slice none 0 0, .slice none 0 0] 25)).heap[w.heap.size]? = some (.cells #[.int .i64 0, .int .i64 0, .string ⟨#[]⟩, .slice none 0 0, .slice none 0 0] 25 (0, 0)) := heap_alloc_new w _
  have HB := Lib.hid hB
  have H1 := Lib.hid (h.keeps ((Keeps.refl _).alloc (.cells #[.int .i64 0, .int .i64 0, .string ⟨#[]⟩, .slice none 0 0, .slice none 0 0] 25)))
  have O1 := Lib.hid ((Only.refl [r] w).alloc (.cells #[.int .i64 0, .int .i64 0, .string ⟨#[]⟩, .slice none 0 0, .slice none 0 0] 25))
  have q0 : (0 : Int) ≤ (a : Int) := by omega
  have q1 : (a : Int) ≤ (s.size : Int) := by omega
  have c0 := H1.out.text
  have c1 := H1.out.at
  clear hB h hw
  go_enter Tryd.func67, Tryd.ntmps67
  go_wp2
  go_quiet (fail)
  have H2 : Hid (Rd ((w.alloc (.cells #[.int .i64 0, .int .i64 0, .string ⟨#[]⟩, .slice none 0 0, .slice none 0 0] 25)).drewN nq) r s a) := Lib.hid H1.out
  have O2 : Hid (Only [r] w ((w.alloc (.cells #[.int .i64 0, .int .i64 0, .string ⟨#[]⟩, .slice none 0 0, .slice none 0 0] 25)).drewN nq)) := Lib.hid (O1.out.drewN nq)
  have HB2 : Hid (((w.alloc (.cells #[.int .i64 0, .int .i64 0, .string ⟨#[]⟩, .slice none 0 0, .slice none 0 0] 25)).drewN nq).heap[w.heap.size]? = some (.cells #[.int .i64 0, .int .i64 0, .string ⟨#[]⟩, .slice none 0 0, .slice none 0 0] 25 (0, 0))) := Lib.hid HB.out
  clear c0 c1
  generalize (w.alloc (.cells #[.int .i64 0, .int .i64 0, .string ⟨#[]⟩, .slice none 0 0, .slice none 0 0] 25)).drewN nq = w2 at *
  have d1 := H2.out.at
  have d2 := H2.out.free
  obtain ⟨⟨c0, c1, c2, c3, c4⟩, f0, f1, f2, f3, f4⟩ := cells5 HB2.out
  go_wp2_with fail
  refine (cW.out _).mono ?_
  rintro e w3 ⟨rfl, rfl⟩
  go_wp2
  (try simp only [Exit.inBlock, Exit.then])
  have H3 : Rd (w3.setCell ⟨r, 1, none⟩ (.int .i64 ((a : Int) + 5))) r s (a + 5) := H2.out.putI (by omega)
  have HB3 : (w3.setCell ⟨r, 1, none⟩ (.int .i64 ((a : Int) + 5))).heap[w.heap.size]? = some (.cells #[.int .i64 0, .int .i64 0, .string ⟨#[]⟩, .slice none 0 0, .slice none 0 0] 25 (0, 0)) := (heap_setCell_other w3 ⟨r, 1, none⟩ w.heap.size _ hne).trans HB2.out
  refine ret_j w.heap.size _ rfl rfl (five_heap _ _ _ _ _ HB3) rfl rfl ?_
  exact RetJ.good ((O2.out.set _ (.inl (List.mem_singleton.2 rfl)) _).five _ (.inr (Nat.le_refl _)) _ _ _ _ _) (IsJ.plain _ _ _ _ _) (H3.five hne2 _ _ _ _ _)
set_option maxHeartbeats 4000000 in
set_option maxRecDepth 100000 in
theorem wordJ_n (r : Nat) (s : ByteArray) (a : Nat) (f : Value) (w : World) (h : Rd w r s a) (ha : a ≤ s.size) (hs : s.size ≤ 100000) (hw : wordL (s.data.toList.drop a) = [110, 117, 108, 108]) : Calls Tryd.prog 67 #[.pointer (some ⟨r, 0, none⟩), f] w (RetJ r s a w (.mk 1 0 [] [] [], 4, 0)) := by
  have cW : Hid (∀ w1, Calls Tryd.prog 78 #[.string (s.extract a s.size)] w1 (fun e w' => e = .returned (.string ⟨#[110, 117, 108, 108]⟩) ∧ w' = w1)) := Lib.hid (fun w1 => by
    have := word_any (s.extract a s.size) w1
    rwa [ext_drop, hw] at this)
  have hne : w.heap.size ≠ r := fun e => by have := h.lt; omega
  have hne2 : r ≠ w.heap.size := fun e => hne e.symm
  have hB : (w.alloc (.cells #[.int .i64 0, .int .i64 0, .string ⟨#[]⟩, .slice none 0 0, .slice none 0 0] 25)).heap[w.heap.size]? = some (.cells #[.int .i64 0, .int .i64 0, .string ⟨#[]⟩, .slice none 0 0, .slice none 0 0] 25 (0, 0)) := heap_alloc_new w _
  have HB := Lib.hid hB
  have H1 := Lib.hid (h.keeps ((Keeps.refl _).alloc (.cells #[.int .i64 0, .int .i64 0, .string ⟨#[]⟩, .slice none 0 0, .slice none 0 0] 25)))
  have O1 := Lib.hid ((Only.refl [r] w).alloc (.cells #[.int .i64 0, .int .i64 0, .string ⟨#[]⟩, .slice none 0 0, .slice none 0 0] 25))
  have q0 : (0 : Int) ≤ (a : Int) := by omega
  have q1 : (a : Int) ≤ (s.size : Int) := by omega
  have c0 := H1.out.text
  have c1 := H1.out.at
  clear hB h hw
  go_enter Tryd.func67, Tryd.ntmps67
  go_wp2
  go_quiet (fail)
  have H2 : Hid (Rd ((w.alloc (.cells #[.int .i64 0, .int .i64 0, .string ⟨#[]⟩, .slice none 0 0, .slice none 0 0] 25)).drewN nq) r s a) := Lib.hid H1.out
  have O2 : Hid (Only [r] w ((w.alloc (.cells #[.int .i64 0, .int .i64 0, .string ⟨#[]⟩, .slice none 0 0, .slice none 0 0] 25)).drewN nq)) := Lib.hid (O1.out.drewN nq)
  have HB2 : Hid (((w.alloc (.cells #[.int .i64 0, .int .i64 0, .string ⟨#[]⟩, .slice none 0 0, .slice none 0 0] 25)).drewN nq).heap[w.heap.size]? = some (.cells #[.int .i64 0, .int .i64 0, .string ⟨#[]⟩, .slice none 0 0, .slice none 0 0] 25 (0, 0))) := Lib.hid HB.out
  clear c0 c1
  generalize (w.alloc (.cells #[.int .i64 0, .int .i64 0, .string ⟨#[]⟩, .slice none 0 0, .slice none 0 0] 25)).drewN nq = w2 at *
  have d1 := H2.out.at
  have d2 := H2.out.free
  obtain ⟨⟨c0, c1, c2, c3, c4⟩, f0, f1, f2, f3, f4⟩ := cells5 HB2.out
  go_wp2_with fail
  refine (cW.out _).mono ?_
  rintro e w3 ⟨rfl, rfl⟩
  go_wp2
  (try simp only [Exit.inBlock, Exit.then])
  have H3 : Rd (w3.setCell ⟨r, 1, none⟩ (.int .i64 ((a : Int) + 4))) r s (a + 4) := H2.out.putI (by omega)
  have HB3 : (w3.setCell ⟨r, 1, none⟩ (.int .i64 ((a : Int) + 4))).heap[w.heap.size]? = some (.cells #[.int .i64 0, .int .i64 0, .string ⟨#[]⟩, .slice none 0 0, .slice none 0 0] 25 (0, 0)) := (heap_setCell_other w3 ⟨r, 1, none⟩ w.heap.size _ hne).trans HB2.out
  refine ret_j w.heap.size _ rfl rfl (five_heap _ _ _ _ _ HB3) rfl rfl ?_
  exact RetJ.good ((O2.out.set _ (.inl (List.mem_singleton.2 rfl)) _).five _ (.inr (Nat.le_refl _)) _ _ _ _ _) (IsJ.plain _ _ _ _ _) (H3.five hne2 _ _ _ _ _)
set_option maxHeartbeats 4000000 in
set_option maxRecDepth 100000 in
theorem wordJ_z0 (r : Nat) (s : ByteArray) (a : Nat) (f : Value) (w : World) (h : Rd w r s a) (ha : a ≤ s.size) (hs : s.size ≤ 100000) (hw : wordL (s.data.toList.drop a) = []) (b0 : Lib.hasPrefix [116, 114, 117, 101] (s.data.toList.drop a) = true) : Calls Tryd.prog 67 #[.pointer (some ⟨r, 0, none⟩), f] w (RetJ r s a w (jerr 3)) := by
  have cW : Hid (∀ w1, Calls Tryd.prog 78 #[.string (s.extract a s.size)] w1 (fun e w' => e = .returned (.string ⟨#[]⟩) ∧ w' = w1)) := Lib.hid (fun w1 => by
    have := word_any (s.extract a s.size) w1
    rwa [ext_drop, hw] at this)
  have cP0 : Hid (∀ w1, Calls Tryd.prog 79 #[.string ⟨#[116, 114, 117, 101]⟩, .string (s.extract a s.size)] w1 (fun e w' => e = .returned (.bool true) ∧ w' = w1)) := Lib.hid (fun w1 => by
    have := Tryd.strings_HasPrefix ⟨#[116, 114, 117, 101]⟩ (s.extract a s.size) w1
    rw [ext_drop] at this
    rwa [show (⟨#[116, 114, 117, 101]⟩ : ByteArray).data.toList = [116, 114, 117, 101] from rfl, b0] at this)
  clear b0
  have i0 : ∀ w, (Instr.index 95 (.agg #[.string ⟨#[116, 114, 117, 101]⟩, .string ⟨#[102, 97, 108, 115, 101]⟩, .string ⟨#[110, 117, 108, 108]⟩]) (.int .i64 0)).run Tryd.prog w = .ok (.string ⟨#[116, 114, 117, 101]⟩) w := fun _ => by kernel_rfl
  have i1 : ∀ w, (Instr.index 95 (.agg #[.string ⟨#[116, 114, 117, 101]⟩, .string ⟨#[102, 97, 108, 115, 101]⟩, .string ⟨#[110, 117, 108, 108]⟩]) (.int .i64 1)).run Tryd.prog w = .ok (.string ⟨#[102, 97, 108, 115, 101]⟩) w := fun _ => by kernel_rfl
  have i2 : ∀ w, (Instr.index 95 (.agg #[.string ⟨#[116, 114, 117, 101]⟩, .string ⟨#[102, 97, 108, 115, 101]⟩, .string ⟨#[110, 117, 108, 108]⟩]) (.int .i64 2)).run Tryd.prog w = .ok (.string ⟨#[110, 117, 108, 108]⟩) w := fun _ => by kernel_rfl
  have hne : w.heap.size ≠ r := fun e => by have := h.lt; omega
  have hne2 : r ≠ w.heap.size := fun e => hne e.symm
  have hB : (w.alloc (.cells #[.int .i64 0, .int .i64 0, .string ⟨#[]⟩, .slice none 0 0, .slice none 0 0] 25)).heap[w.heap.size]? = some (.cells #[.int .i64 0, .int .i64 0, .string ⟨#[]⟩, .slice none 0 0, .slice none 0 0] 25 (0, 0)) := heap_alloc_new w _
  have HB := Lib.hid hB
  have H1 := Lib.hid (h.keeps ((Keeps.refl _).alloc (.cells #[.int .i64 0, .int .i64 0, .string ⟨#[]⟩, .slice none 0 0, .slice none 0 0] 25)))
  have O1 := Lib.hid ((Only.refl [r] w).alloc (.cells #[.int .i64 0, .int .i64 0, .string ⟨#[]⟩, .slice none 0 0, .slice none 0 0] 25))
  have q0 : (0 : Int) ≤ (a : Int) := by omega
  have q1 : (a : Int) ≤ (s.size : Int) := by omega
  have c0 := H1.out.text
  have c1 := H1.out.at
  clear hB h hw
  go_enter Tryd.func67, Tryd.ntmps67
  go_wp2
  go_quiet (fail)
  have H2 : Hid (Rd ((w.alloc (.cells #[.int .i64 0, .int .i64 0, .string ⟨#[]⟩, .slice none 0 0, .slice none 0 0] 25)).drewN nq) r s a) := Lib.hid H1.out
  have O2 : Hid (Only [r] w ((w.alloc (.cells #[.int .i64 0, .int .i64 0, .string ⟨#[]⟩, .slice none 0 0, .slice none 0 0] 25)).drewN nq)) := Lib.hid (O1.out.drewN nq)
  have HB2 : Hid (((w.alloc (.cells #[.int .i64 0, .int .i64 0, .string ⟨#[]⟩, .slice none 0 0, .slice none 0 0] 25)).drewN nq).heap[w.heap.size]? = some (.cells #[.int .i64 0, .int .i64 0, .string ⟨#[]⟩, .slice none 0 0, .slice none 0 0] 25 (0, 0))) := Lib.hid HB.out
  clear c0 c1
  generalize (w.alloc (.cells #[.int .i64 0, .int .i64 0, .string ⟨#[]⟩, .slice none 0 0, .slice none 0 0] 25)).drewN nq = w2 at *
  have d1 := H2.out.at
  have d2 := H2.out.free
  obtain ⟨⟨c0, c1, c2, c3, c4⟩, f0, f1, f2, f3, f4⟩ := cells5 HB2.out
  go_wp2_with fail
  refine (cW.out _).mono ?_
  rintro e w3 ⟨rfl, rfl⟩
  go_wp2
  refine wp_loop_rounds 4 ?_
  rw [rounds_succ]
  go_wp2_with fail
  refine (cP0.out _).mono ?_
  rintro e v0 ⟨rfl, rfl⟩
  go_wp2
  (try simp only [Exit.inBlock, Exit.then])
  have HB3 : (w3.setCell ⟨r, 1, none⟩ (.int .i64 (a : Int))).heap[w.heap.size]? = some (.cells #[.int .i64 0, .int .i64 0, .string ⟨#[]⟩, .slice none 0 0, .slice none 0 0] 25 (0, 0)) := (heap_setCell_other w3 ⟨r, 1, none⟩ w.heap.size _ hne).trans HB2.out
  refine ret_j w.heap.size _ rfl rfl (five_heap _ _ _ _ _ HB3) rfl rfl ?_
  exact RetJ.bad ((O2.out.set _ (.inl (List.mem_singleton.2 rfl)) _).five _ (.inr (Nat.le_refl _)) _ _ _ _ _) (by decide)
set_option maxHeartbeats 4000000 in
set_option maxRecDepth 100000 in
theorem wordJ_z1 (r : Nat) (s : ByteArray) (a : Nat) (f : Value) (w : World) (h : Rd w r s a) (ha : a ≤ s.size) (hs : s.size ≤ 100000) (hw : wordL (s.data.toList.drop a) = []) (b0 : Lib.hasPrefix [116, 114, 117, 101] (s.data.toList.drop a) = false) (b1 : Lib.hasPrefix [102, 97, 108, 115, 101] (s.data.toList.drop a) = true) : Calls Tryd.prog 67 #[.pointer (some ⟨r, 0, none⟩), f] w (RetJ r s a w (jerr 3)) := by
  have cW : Hid (∀ w1, Calls Tryd.prog 78 #[.string (s.extract a s.size)] w1 (fun e w' => e = .returned (.string ⟨#[]⟩) ∧ w' = w1)) := Lib.hid (fun w1 => by
    have := word_any (s.extract a s.size) w1
    rwa [ext_drop, hw] at this)
  have cP0 : Hid (∀ w1, Calls Tryd.prog 79 #[.string ⟨#[116, 114, 117, 101]⟩, .string (s.extract a s.size)] w1 (fun e w' => e = .returned (.bool false) ∧ w' = w1)) := Lib.hid (fun w1 => by
    have := Tryd.strings_HasPrefix ⟨#[116, 114, 117, 101]⟩ (s.extract a s.size) w1
    rw [ext_drop] at this
    rwa [show (⟨#[116, 114, 117, 101]⟩ : ByteArray).data.toList = [116, 114, 117, 101] from rfl, b0] at this)
  clear b0
  have cP1 : Hid (∀ w1, Calls Tryd.prog 79 #[.string ⟨#[102, 97, 108, 115, 101]⟩, .string (s.extract a s.size)] w1 (fun e w' => e = .returned (.bool true) ∧ w' = w1)) := Lib.hid (fun w1 => by
    have := Tryd.strings_HasPrefix ⟨#[102, 97, 108, 115, 101]⟩ (s.extract a s.size) w1
    rw [ext_drop] at this
    rwa [show (⟨#[102, 97, 108, 115, 101]⟩ : ByteArray).data.toList = [102, 97, 108, 115, 101] from rfl, b1] at this)
  clear b1
  have i0 : ∀ w, (Instr.index 95 (.agg #[.string ⟨#[116, 114, 117, 101]⟩, .string ⟨#[102, 97, 108, 115, 101]⟩, .string ⟨#[110, 117, 108, 108]⟩]) (.int .i64 0)).run Tryd.prog w = .ok (.string ⟨#[116, 114, 117, 101]⟩) w := fun _ => by kernel_rfl
  have i1 : ∀ w, (Instr.index 95 (.agg #[.string ⟨#[116, 114, 117, 101]⟩, .string ⟨#[102, 97, 108, 115, 101]⟩, .string ⟨#[110, 117, 108, 108]⟩]) (.int .i64 1)).run Tryd.prog w = .ok (.string ⟨#[102, 97, 108, 115, 101]⟩) w := fun _ => by kernel_rfl
  have i2 : ∀ w, (Instr.index 95 (.agg #[.string ⟨#[116, 114, 117, 101]⟩, .string ⟨#[102, 97, 108, 115, 101]⟩, .string ⟨#[110, 117, 108, 108]⟩]) (.int .i64 2)).run Tryd.prog w = .ok (.string ⟨#[110, 117, 108, 108]⟩) w := fun _ => by kernel_rfl
  have hne : w.heap.size ≠ r := fun e => by have := h.lt; omega
  have hne2 : r ≠ w.heap.size := fun e => hne e.symm
  have hB : (w.alloc (.cells #[.int .i64 0, .int .i64 0, .string ⟨#[]⟩, .slice none 0 0, .slice none 0 0] 25)).heap[w.heap.size]? = some (.cells #[.int .i64 0, .int .i64 0, .string ⟨#[]⟩, .slice none 0 0, .slice none 0 0] 25 (0, 0)) := heap_alloc_new w _
  have HB := Lib.hid hB
  have H1 := Lib.hid (h.keeps ((Keeps.refl _).alloc (.cells #[.int .i64 0, .int .i64 0, .string ⟨#[]⟩, .slice none 0 0, .slice none 0 0] 25)))
  have O1 := Lib.hid ((Only.refl [r] w).alloc (.cells #[.int .i64 0, .int .i64 0, .string ⟨#[]⟩, .slice none 0 0, .slice none 0 0] 25))
  have q0 : (0 : Int) ≤ (a : Int) := by omega
  have q1 : (a : Int) ≤ (s.size : Int) := by omega
  have c0 := H1.out.text
  have c1 := H1.out.at
  clear hB h hw
  go_enter Tryd.func67, Tryd.ntmps67
  go_wp2
  go_quiet (fail)
  have H2 : Hid (Rd ((w.alloc (.cells #[.int .i64 0, .int .i64 0, .string ⟨#[]⟩, .slice none 0 0, .slice none 0 0] 25)).drewN nq) r s a) := Lib.hid H1.out
  have O2 : Hid (Only [r] w ((w.alloc (.cells #[.int .i64 0, .int .i64 0, .string ⟨#[]⟩, .slice none 0 0, .slice none 0 0] 25)).drewN nq)) := Lib.hid (O1.out.drewN nq)
  have HB2 : Hid (((w.alloc (.cells #[.int .i64 0, .int .i64 0, .string ⟨#[]⟩, .slice none 0 0, .slice none 0 0] 25)).drewN nq).heap[w.heap.size]? = some (.cells #[.int .i64 0, .int .i64 0, .string ⟨#[]⟩, .slice none 0 0, .slice none 0 0] 25 (0, 0))) := Lib.hid HB.out
  clear c0 c1
  generalize (w.alloc (.cells #[.int .i64 0, .int .i64 0, .string ⟨#[]⟩, .slice none 0 0, .slice none 0 0] 25)).drewN nq = w2 at *
  have d1 := H2.out.at
  have d2 := H2.out.free
  obtain ⟨⟨c0, c1, c2, c3, c4⟩, f0, f1, f2, f3, f4⟩ := cells5 HB2.out
  go_wp2_with fail
  refine (cW.out _).mono ?_
  rintro e w3 ⟨rfl, rfl⟩
  go_wp2
  refine wp_loop_rounds 4 ?_
  rw [rounds_succ]
  go_wp2_with fail
  refine (cP0.out _).mono ?_
  rintro e v0 ⟨rfl, rfl⟩
  go_wp2
  rw [rounds_succ]
  go_wp2_with fail
  refine (cP1.out _).mono ?_
  rintro e v1 ⟨rfl, rfl⟩
  go_wp2
  (try simp only [Exit.inBlock, Exit.then])
  have HB3 : (w3.setCell ⟨r, 1, none⟩ (.int .i64 (a : Int))).heap[w.heap.size]? = some (.cells #[.int .i64 0, .int .i64 0, .string ⟨#[]⟩, .slice none 0 0, .slice none 0 0] 25 (0, 0)) := (heap_setCell_other w3 ⟨r, 1, none⟩ w.heap.size _ hne).trans HB2.out
  refine ret_j w.heap.size _ rfl rfl (five_heap _ _ _ _ _ HB3) rfl rfl ?_
  exact RetJ.bad ((O2.out.set _ (.inl (List.mem_singleton.2 rfl)) _).five _ (.inr (Nat.le_refl _)) _ _ _ _ _) (by decide)
set_option maxHeartbeats 4000000 in
set_option maxRecDepth 100000 in
theorem wordJ_z2 (r : Nat) (s : ByteArray) (a : Nat) (f : Value) (w : World) (h : Rd w r s a) (ha : a ≤ s.size) (hs : s.size ≤ 100000) (hw : wordL (s.data.toList.drop a) = []) (b0 : Lib.hasPrefix [116, 114, 117, 101] (s.data.toList.drop a) = false) (b1 : Lib.hasPrefix [102, 97, 108, 115, 101] (s.data.toList.drop a) = false) (b2 : Lib.hasPrefix [110, 117, 108, 108] (s.data.toList.drop a) = true) : Calls Tryd.prog 67 #[.pointer (some ⟨r, 0, none⟩), f] w (RetJ r s a w (jerr 3)) := by
  have cW : Hid (∀ w1, Calls Tryd.prog 78 #[.string (s.extract a s.size)] w1 (fun e w' => e = .returned (.string ⟨#[]⟩) ∧ w' = w1)) := Lib.hid (fun w1 => by
    have := word_any (s.extract a s.size) w1
    rwa [ext_drop, hw] at this)
  have cP0 : Hid (∀ w1, Calls Tryd.prog 79 #[.string ⟨#[116, 114, 117, 101]⟩, .string (s.extract a s.size)] w1 (fun e w' => e = .returned (.bool false) ∧ w' = w1)) := Lib.hid (fun w1 => by
    have := Tryd.strings_HasPrefix ⟨#[116, 114, 117, 101]⟩ (s.extract a s.size) w1
    rw [ext_drop] at this
    rwa [show (⟨#[116, 114, 117, 101]⟩ : ByteArray).data.toList = [116, 114, 117, 101] from rfl, b0] at this)
  clear b0
  have cP1 : Hid (∀ w1, Calls Tryd.prog 79 #[.string ⟨#[102, 97, 108, 115, 101]⟩, .string (s.extract a s.size)] w1 (fun e w' => e = .returned (.bool false) ∧ w' = w1)) := Lib.hid (fun w1 => by
    have := Tryd.strings_HasPrefix ⟨#[102, 97, 108, 115, 101]⟩ (s.extract a s.size) w1
    rw [ext_drop] at this
    rwa [show (⟨#[102, 97, 108, 115, 101]⟩ : ByteArray).data.toList = [102, 97, 108, 115, 101] from rfl, b1] at this)
  clear b1
  have cP2 : Hid (∀ w1, Calls Tryd.prog 79 #[.string ⟨#[110, 117, 108, 108]⟩, .string (s.extract a s.size)] w1 (fun e w' => e = .returned (.bool true) ∧ w' = w1)) := Lib.hid (fun w1 => by
    have := Tryd.strings_HasPrefix ⟨#[110, 117, 108, 108]⟩ (s.extract a s.size) w1
    rw [ext_drop] at this
    rwa [show (⟨#[110, 117, 108, 108]⟩ : ByteArray).data.toList = [110, 117, 108, 108] from rfl, b2] at this)
  clear b2
  have i0 : ∀ w, (Instr.index 95 (.agg #[.string ⟨#[116, 114, 117, 101]⟩, .string ⟨#[102, 97, 108, 115, 101]⟩, .string ⟨#[110, 117, 108, 108]⟩]) (.int .i64 0)).run Tryd.prog w = .ok (.string ⟨#[116, 114, 117, 101]⟩) w := fun _ => by kernel_rfl
  have i1 : ∀ w, (Instr.index 95 (.agg #[.string ⟨#[116, 114, 117, 101]⟩, .string ⟨#[102, 97, 108, 115, 101]⟩, .string ⟨#[110, 117, 108, 108]⟩]) (.int .i64 1)).run Tryd.prog w = .ok (.string ⟨#[102, 97, 108, 115, 101]⟩) w := fun _ => by kernel_rfl
  have i2 : ∀ w, (Instr.index 95 (.agg #[.string ⟨#[116, 114, 117, 101]⟩, .string ⟨#[102, 97, 108, 115, 101]⟩, .string ⟨#[110, 117, 108, 108]⟩]) (.int .i64 2)).run Tryd.prog w = .ok (.string ⟨#[110, 117, 108, 108]⟩) w := fun _ => by kernel_rfl
  have hne : w.heap.size ≠ r := fun e => by have := h.lt; omega
  have hne2 : r ≠ w.heap.size := fun e => hne e.symm
  have hB : (w.alloc (.cells #[.int .i64 0, .int .i64 0, .string ⟨#[]⟩, .slice none 0 0, .slice none 0 0] 25)).heap[w.heap.size]? = some (.cells #[.int .i64 0, .int .i64 0, .string ⟨#[]⟩, .slice none 0 0, .slice none 0 0] 25 (0, 0)) := heap_alloc_new w _
  have HB := Lib.hid hB
  have H1 := Lib.hid (h.keeps ((Keeps.refl _).alloc (.cells #[.int .i64 0, .int .i64 0, .string ⟨#[]⟩, .slice none 0 0, .slice none 0 0] 25)))
  have O1 := Lib.hid ((Only.refl [r] w).alloc (.cells #[.int .i64 0, .int .i64 0, .string ⟨#[]⟩, .slice none 0 0, .slice none 0 0] 25))
  have q0 : (0 : Int) ≤ (a : Int) := by omega
  have q1 : (a : Int) ≤ (s.size : Int) := by omega
  have c0 := H1.out.text
  have c1 := H1.out.at
  clear hB h hw
  go_enter Tryd.func67, Tryd.ntmps67
  go_wp2
  go_quiet (fail)
  have H2 : Hid (Rd ((w.alloc (.cells #[.int .i64 0, .int .i64 0, .string ⟨#[]⟩, .slice none 0 0, .slice none 0 0] 25)).drewN nq) r s a) := Lib.hid H1.out
  have O2 : Hid (Only [r] w ((w.alloc (.cells #[.int .i64 0, .int .i64 0, .string ⟨#[]⟩, .slice none 0 0, .slice none 0 0] 25)).drewN nq)) := Lib.hid (O1.out.drewN nq)
  have HB2 : Hid (((w.alloc (.cells #[.int .i64 0, .int .i64 0, .string ⟨#[]⟩, .slice none 0 0, .slice none 0 0] 25)).drewN nq).heap[w.heap.size]? = some (.cells #[.int .i64 0, .int .i64 0, .string ⟨#[]⟩, .slice none 0 0, .slice none 0 0] 25 (0, 0))) := Lib.hid HB.out
  clear c0 c1
  generalize (w.alloc (.cells #[.int .i64 0, .int .i64 0, .string ⟨#[]⟩, .slice none 0 0, .slice none 0 0] 25)).drewN nq = w2 at *
  have d1 := H2.out.at
  have d2 := H2.out.free
  obtain ⟨⟨c0, c1, c2, c3, c4⟩, f0, f1, f2, f3, f4⟩ := cells5 HB2.out
  go_wp2_with fail
  refine (cW.out _).mono ?_
  rintro e w3 ⟨rfl, rfl⟩
  go_wp2
  refine wp_loop_rounds 4 ?_
  rw [rounds_succ]
  go_wp2_with fail
  refine (cP0.out _).mono ?_
  rintro e v0 ⟨rfl, rfl⟩
  go_wp2
  rw [rounds_succ]
  go_wp2_with fail
  refine (cP1.out _).mono ?_
  rintro e v1 ⟨rfl, rfl⟩
  go_wp2
  rw [rounds_succ]
  go_wp2_with fail
  refine (cP2.out _).mono ?_
  rintro e v2 ⟨rfl, rfl⟩
  go_wp2
  (try simp only [Exit.inBlock, Exit.then])
  have HB3 : (w3.setCell ⟨r, 1, none⟩ (.int .i64 (a : Int))).heap[w.heap.size]? = some (.cells #[.int .i64 0, .int .i64 0, .string ⟨#[]⟩, .slice none 0 0, .slice none 0 0] 25 (0, 0)) := (heap_setCell_other w3 ⟨r, 1, none⟩ w.heap.size _ hne).trans HB2.out
  refine ret_j w.heap.size _ rfl rfl (five_heap _ _ _ _ _ HB3) rfl rfl ?_
  exact RetJ.bad ((O2.out.set _ (.inl (List.mem_singleton.2 rfl)) _).five _ (.inr (Nat.le_refl _)) _ _ _ _ _) (by decide)
set_option maxHeartbeats 4000000 in
set_option maxRecDepth 100000 in
theorem wordJ_z3 (r : Nat) (s : ByteArray) (a : Nat) (f : Value) (w : World) (h : Rd w r s a) (ha : a ≤ s.size) (hs : s.size ≤ 100000) (hw : wordL (s.data.toList.drop a) = []) (b0 : Lib.hasPrefix [116, 114, 117, 101] (s.data.toList.drop a) = false) (b1 : Lib.hasPrefix [102, 97, 108, 115, 101] (s.data.toList.drop a) = false) (b2 : Lib.hasPrefix [110, 117, 108, 108] (s.data.toList.drop a) = false) : Calls Tryd.prog 67 #[.pointer (some ⟨r, 0, none⟩), f] w (RetJ r s a w (jerr 5)) := by
  have cW : Hid (∀ w1, Calls Tryd.prog 78 #[.string (s.extract a s.size)] w1 (fun e w' => e = .returned (.string ⟨#[]⟩) ∧ w' = w1)) := Lib.hid (fun w1 => by
    have := word_any (s.extract a s.size) w1
    rwa [ext_drop, hw] at this)
  have cP0 : Hid (∀ w1, Calls Tryd.prog 79 #[.string ⟨#[116, 114, 117, 101]⟩, .string (s.extract a s.size)] w1 (fun e w' => e = .returned (.bool false) ∧ w' = w1)) := Lib.hid (fun w1 => by
    have := Tryd.strings_HasPrefix ⟨#[116, 114, 117, 101]⟩ (s.extract a s.size) w1
    rw [ext_drop] at this
    rwa [show (⟨#[116, 114, 117, 101]⟩ : ByteArray).data.toList = [116, 114, 117, 101] from rfl, b0] at this)
  clear b0
  have cP1 : Hid (∀ w1, Calls Tryd.prog 79 #[.string ⟨#[102, 97, 108, 115, 101]⟩, .string (s.extract a s.size)] w1 (fun e w' => e = .returned (.bool false) ∧ w' = w1)) := Lib.hid (fun w1 => by
    have := Tryd.strings_HasPrefix ⟨#[102, 97, 108, 115, 101]⟩ (s.extract a s.size) w1
    rw [ext_drop] at this
    rwa [show (⟨#[102, 97, 108, 115, 101]⟩ : ByteArray).data.toList = [102, 97, 108, 115, 101] from rfl, b1] at this)
  clear b1
  have cP2 : Hid (∀ w1, Calls Tryd.prog 79 #[.string ⟨#[110, 117, 108, 108]⟩, .string (s.extract a s.size)] w1 (fun e w' => e = .returned (.bool false) ∧ w' = w1)) := Lib.hid (fun w1 => by
    have := Tryd.strings_HasPrefix ⟨#[110, 117, 108, 108]⟩ (s.extract a s.size) w1
    rw [ext_drop] at this
    rwa [show (⟨#[110, 117, 108, 108]⟩ : ByteArray).data.toList = [110, 117, 108, 108] from rfl, b2] at this)
  clear b2
  have i0 : ∀ w, (Instr.index 95 (.agg #[.string ⟨#[116, 114, 117, 101]⟩, .string ⟨#[102, 97, 108, 115, 101]⟩, .string ⟨#[110, 117, 108, 108]⟩]) (.int .i64 0)).run Tryd.prog w = .ok (.string ⟨#[116, 114, 117, 101]⟩) w := fun _ => by kernel_rfl
  have i1 : ∀ w, (Instr.index 95 (.agg #[.string ⟨#[116, 114, 117, 101]⟩, .string ⟨#[102, 97, 108, 115, 101]⟩, .string ⟨#[110, 117, 108, 108]⟩]) (.int .i64 1)).run Tryd.prog w = .ok (.string ⟨#[102, 97, 108, 115, 101]⟩) w := fun _ => by kernel_rfl
  have i2 : ∀ w, (Instr.index 95 (.agg #[.string ⟨#[116, 114, 117, 101]⟩, .string ⟨#[102, 97, 108, 115, 101]⟩, .string ⟨#[110, 117, 108, 108]⟩]) (.int .i64 2)).run Tryd.prog w = .ok (.string ⟨#[110, 117, 108, 108]⟩) w := fun _ => by kernel_rfl
  have hne : w.heap.size ≠ r := fun e => by have := h.lt; omega
  have hne2 : r ≠ w.heap.size := fun e => hne e.symm
  have hB : (w.alloc (.cells #[.int .i64 0, .int .i64 0, .string ⟨#[]⟩, .slice none 0 0, .slice none 0 0] 25)).heap[w.heap.size]? = some (.cells #[.int .i64 0, .int .i64 0, .string ⟨#[]⟩, .slice none 0 0, .slice none 0 0] 25 (0, 0)) := heap_alloc_new w _
  have HB := Lib.hid hB
  have H1 := Lib.hid (h.keeps ((Keeps.refl _).alloc (.cells #[.int .i64 0, .int .i64 0, .string ⟨#[]⟩, .slice none 0 0, .slice none 0 0] 25)))
  have O1 := Lib.hid ((Only.refl [r] w).alloc (.cells #[.int .i64 0, .int .i64 0, .string ⟨#[]⟩, .slice none 0 0, .slice none 0 0] 25))
  have q0 : (0 : Int) ≤ (a : Int) := by omega
  have q1 : (a : Int) ≤ (s.size : Int) := by omega
  have c0 := H1.out.text
  have c1 := H1.out.at
  clear hB h hw
  go_enter Tryd.func67, Tryd.ntmps67
  go_wp2
  go_quiet (fail)
  have H2 : Hid (Rd ((w.alloc (.cells #[.int .i64 0, .int .i64 0, .string ⟨#[]⟩, .slice none 0 0, .slice none 0 0] 25)).drewN nq) r s a) := Lib.hid H1.out
  have O2 : Hid (Only [r] w ((w.alloc (.cells #[.int .i64 0, .int .i64 0, .string ⟨#[]⟩, .slice none 0 0, .slice none 0 0] 25)).drewN nq)) := Lib.hid (O1.out.drewN nq)
  have HB2 : Hid (((w.alloc (.cells #[.int .i64 0, .int .i64 0, .string ⟨#[]⟩, .slice none 0 0, .slice none 0 0] 25)).drewN nq).heap[w.heap.size]? = some (.cells #[.int .i64 0, .int .i64 0, .string ⟨#[]⟩, .slice none 0 0, .slice none 0 0] 25 (0, 0))) := Lib.hid HB.out
  clear c0 c1
  generalize (w.alloc (.cells #[.int .i64 0, .int .i64 0, .string ⟨#[]⟩, .slice none 0 0, .slice none 0 0] 25)).drewN nq = w2 at *
  have d1 := H2.out.at
  have d2 := H2.out.free
  obtain ⟨⟨c0, c1, c2, c3, c4⟩, f0, f1, f2, f3, f4⟩ := cells5 HB2.out
  go_wp2_with fail
  refine (cW.out _).mono ?_
  rintro e w3 ⟨rfl, rfl⟩
  go_wp2
  refine wp_loop_rounds 4 ?_
  rw [rounds_succ]
  go_wp2_with fail
  refine (cP0.out _).mono ?_
  rintro e v0 ⟨rfl, rfl⟩
  go_wp2
  rw [rounds_succ]
  go_wp2_with fail
  refine (cP1.out _).mono ?_
  rintro e v1 ⟨rfl, rfl⟩
  go_wp2
  rw [rounds_succ]
  go_wp2_with fail
  refine (cP2.out _).mono ?_
  rintro e v2 ⟨rfl, rfl⟩
  go_wp2
  rw [rounds_succ]
  go_wp2
  (try simp only [Exit.inBlock, Exit.then])
  have HB3 : (w3.setCell ⟨r, 1, none⟩ (.int .i64 (a : Int))).heap[w.heap.size]? = some (.cells #[.int .i64 0, .int .i64 0, .string ⟨#[]⟩, .slice none 0 0, .slice none 0 0] 25 (0, 0)) := (heap_setCell_other w3 ⟨r, 1, none⟩ w.heap.size _ hne).trans HB2.out
  refine ret_j w.heap.size _ rfl rfl (five_heap _ _ _ _ _ HB3) rfl rfl ?_
  exact RetJ.bad ((O2.out.set _ (.inl (List.mem_singleton.2 rfl)) _).five _ (.inr (Nat.le_refl _)) _ _ _ _ _) (by decide)

theorem wordJ_any (r : Nat) (s : ByteArray) (a : Nat) (f : Value) (w : World) (h : Rd w r s a) (ha : a ≤ s.size) (hs : s.size ≤ 100000) : Calls Tryd.prog 67 #[.pointer (some ⟨r, 0, none⟩), f] w (RetJ r s a w (wordJ (s.data.toList.drop a))) := by
  unfold wordJ
  rcases wordL_four (s.data.toList.drop a) with e | e | e | e
  · rw [if_pos e]; exact wordJ_t r s a f w h ha hs e
  · rw [e, if_neg (by decide), if_pos rfl]; exact wordJ_f r s a f w h ha hs e
  · rw [e, if_neg (by decide), if_neg (by decide), if_pos rfl]; exact wordJ_n r s a f w h ha hs e
  · rw [e, if_neg (by decide), if_neg (by decide), if_neg (by decide)]
    cases b0 : Lib.hasPrefix trueL (s.data.toList.drop a)
    · cases b1 : Lib.hasPrefix falseL (s.data.toList.drop a)
      · cases b2 : Lib.hasPrefix nullL (s.data.toList.drop a)
        · rw [if_neg (by simp)]; exact wordJ_z3 r s a f w h ha hs e b0 b1 b2
        · rw [if_pos (by simp)]; exact wordJ_z2 r s a f w h ha hs e b0 b1 b2
      · rw [if_pos (by simp)]; exact wordJ_z1 r s a f w h ha hs e b0 b1
    · rw [if_pos (by simp)]; exact wordJ_z0 r s a f w h ha hs e b0
end Go.Proofs.YtljkeladdplhlaaDoor
