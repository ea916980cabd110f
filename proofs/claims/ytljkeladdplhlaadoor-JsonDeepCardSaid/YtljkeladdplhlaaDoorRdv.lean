/-
  The reader's methods of package json: a colon, a literal, a number, a word.
-/
import Derived.Test.YtljkeladdplhlaaDoorRdr
import Derived.Laws.ResultCell
import Derived.Laws.Rows
namespace Go.Proofs.YtljkeladdplhlaaDoor
open Go.RowKit

set_option maxHeartbeats 4000000 in
theorem colon_any (r : Nat) (s : ByteArray) (a : Nat) (w : World) (h : Rd w r s a) (ha : a ≤ s.size) (hs : s.size ≤ 100000) : Calls Tryd.prog 83 #[.pointer (some ⟨r, 0, none⟩)] w (fun e w' => e = .returned (.int .i64 ((colonL (s.data.toList.drop a)).2 : Int)) ∧ ((colonL (s.data.toList.drop a)).2 = 0 → Rd w' r s (a + (colonL (s.data.toList.drop a)).1)) ∧ Only [r] w w') := by
  have hsp := spaceL_le (s.data.toList.drop a)
  have hll : (s.data.toList.drop a).length = s.size - a := by simp
  have cS := Lib.hid (fun a w1 h1 h2 => skip_any r s a w1 h1 h2 (by omega))
  have cE := Lib.hid (fun a w1 h1 => ended_any r s a w1 h1)
  have HH := Lib.hid h
  have hdd : (s.data.toList.drop a).drop (spaceL (s.data.toList.drop a)) = s.data.toList.drop (a + spaceL (s.data.toList.drop a)) := List.drop_drop
  unfold colonL
  rw [hdd]
  obtain ⟨n, hn⟩ : ∃ n, spaceL (s.data.toList.drop a) = n := ⟨_, rfl⟩
  have HN := Lib.hid hn
  rw [hn] at hsp ⊢
  clear h hdd hn
  obtain ⟨b, hb⟩ : ∃ b, a + n = b := ⟨_, rfl⟩
  rw [hb]
  have hbs : b ≤ s.size := by omega
  by_cases hlt : b < s.size
  · have hda := drop_at s b hlt
    rw [hda]
    simp only
    obtain ⟨m, hm⟩ : ∃ m, spaceL (s.data.toList.drop (b + 1)) = m := ⟨_, rfl⟩
    have HM := Lib.hid hm
    rw [hm]
    clear hm hda
    have fE : ((b : Int) == (s.size : Int)) = false := by simp; omega
    have q0 : (0 : Int) ≤ (b : Int) := by omega
    have q1 : (b : Int) < (s.size : Int) := by omega
    have q2 : (b : Int).toNat = b := by omega
    by_cases hc : (s[b]'hlt).toNat = 58
    · rw [if_pos hc]
      have f1 : (((s[b]'hlt).toNat : Int) != 58) = false := by simp; omega
      clear hc
      go_enter Tryd.func83, Tryd.ntmps83
      go_wp2_with fail
      refine (cS.out a _ HH.out ha).mono ?_
      rintro e w2 ⟨rfl, hr2, ho2⟩
      rw [HN.out, hb] at hr2
      have R2 := Lib.hid hr2
      have O2 := Lib.hid ho2
      clear ho2 hr2
      go_wp2_with fail
      refine (cE.out b _ R2.out).mono ?_
      rintro e w3 ⟨rfl, kk, hw3⟩
      have R3 : Hid (Rd w3 r s b) := Lib.hid (by rw [hw3]; exact R2.out)
      have O3 : Hid (Only [r] w w3) := Lib.hid (by rw [hw3]; exact O2.out.drewN kk)
      rw [fE]
      clear hw3
      have c0 := R3.out.text
      have c1 := R3.out.at
      go_wp2
      go_quiet (fail)
      clear c0 c1
      have d1 : (w3.drewN nq).cell? ⟨r, 1, none⟩ = some (.int .i64 (b : Int)) := R3.out.at
      have d2 : (w3.drewN nq).frozen? ⟨r, 1, none⟩ = false := R3.out.free
      have R4 : Hid (Rd (w3.drewN nq) r s b) := Lib.hid R3.out
      have O4 : Hid (Only [r] w (w3.drewN nq)) := Lib.hid (O3.out.drewN nq)
      clear R3 O3
      generalize w3.drewN nq = w4 at *
      go_wp2_with fail
      refine (cS.out (b + 1) _ (R4.out.putI (by omega)) (by omega)).mono ?_
      rintro e w5 ⟨rfl, hr5, ho5⟩
      rw [HM.out] at hr5
      have R5 := Lib.hid hr5
      have O5 := Lib.hid ((O4.out.set _ (.inl (List.mem_singleton.2 rfl)) _).trans ho5)
      clear hr5 ho5
      go_wp2
      go_ret
      exact ⟨rfl, fun _ => by rw [show a + (n + 1 + m) = b + 1 + m by omega]; exact R5.out, O5.out⟩
    · rw [if_neg hc]
      have f1 : (((s[b]'hlt).toNat : Int) != 58) = true := by simp; omega
      clear hc
      go_enter Tryd.func83, Tryd.ntmps83
      go_wp2_with fail
      refine (cS.out a _ HH.out ha).mono ?_
      rintro e w2 ⟨rfl, hr2, ho2⟩
      rw [HN.out, hb] at hr2
      have R2 := Lib.hid hr2
      have O2 := Lib.hid ho2
      clear ho2 hr2
      go_wp2_with fail
      refine (cE.out b _ R2.out).mono ?_
      rintro e w3 ⟨rfl, kk, hw3⟩
      have R3 : Hid (Rd w3 r s b) := Lib.hid (by rw [hw3]; exact R2.out)
      have O3 : Hid (Only [r] w w3) := Lib.hid (by rw [hw3]; exact O2.out.drewN kk)
      rw [fE]
      clear hw3
      have c0 := R3.out.text
      have c1 := R3.out.at
      go_wp2
      go_quiet (fail)
      go_wp2
      go_ret
      exact ⟨rfl, fun h => absurd h (by decide), O3.out.drewN _⟩
  · obtain rfl : b = s.size := by omega
    rw [List.drop_eq_nil_of_le (by simp)]
    simp only
    have fE : ((s.size : Int) == (s.size : Int)) = true := by simp
    go_enter Tryd.func83, Tryd.ntmps83
    go_wp2_with fail
    refine (cS.out a _ HH.out ha).mono ?_
    rintro e w2 ⟨rfl, hr2, ho2⟩
    rw [HN.out, hb] at hr2
    have R2 := Lib.hid hr2
    have O2 := Lib.hid ho2
    clear ho2 hr2
    go_wp2_with fail
    refine (cE.out s.size _ R2.out).mono ?_
    rintro e w3 ⟨rfl, kk, hw3⟩
    have O3 : Hid (Only [r] w w3) := Lib.hid (by rw [hw3]; exact O2.out.drewN kk)
    rw [fE]
    clear hw3
    go_wp2
    go_ret
    exact ⟨rfl, fun h => absurd h (by decide), O3.out⟩

theorem sizeJ : (Tryd.prog.info? 25).map (·.size) = some 5 := by kernel_rfl
theorem Only.row {X : List Nat} {a b : World} (h : Only X a b) (g : Nat) (hg : g ∈ X ∨ a.heap.size ≤ g) (cs : Array Value) : Only X a (b.setRow g cs) :=
  ⟨h.os, h.tape, h.output, by simpa using h.size, fun i hi hx => by
    rw [setRow_other b g i cs (fun e => by rcases hg with hg | hg
                                           · exact hx (e ▸ hg)
                                           · omega)]
    exact h.block i hi hx⟩
theorem Rd.row {w : World} {r g : Nat} {s : ByteArray} {a : Nat} (h : Rd w r s a) (hg : r ≠ g) (cs : Array Value) : Rd (w.setRow g cs) r s a := (setRow_other w g r cs hg).trans h
theorem ret_j {fn : Func} {p u : Tmp} {R : Ending → World → Prop} {a : Act} {w : World} (g : Nat) (cs : Array Value) (hf : fn.results = #[.cell p 25, .tmp u]) (hp : a.tmps.getD p undef = .pointer (some ⟨g, 0, none⟩))
    (hg : w.heap[g]? = some (.cells cs 25 (0, 0))) (hc : cs.size = 5) (hd : a.defers = []) (hR : R (.returned (.tuple #[.agg cs, a.tmps.getD u undef])) w) : bodyPost Tryd.prog fn R .ret a w := by
  refine bodyPost_ret (v := .tuple #[.agg cs, a.tmps.getD u undef]) ?_ hd hR
  rw [results_cell_tmp hf, hp]
  simp only [asAddr, Sem.run_pure, Result.andThen_ok]
  rw [run_loadVar_row w g 25 25 cs (0, 0) _ hg Tryd.underlying25 rfl (by rw [hc]; exact sizeJ)]
  rfl

/-- Five cells of a block set. -/
def five (w : World) (g : Nat) (v0 v1 v2 v3 v4 : Value) : World := ((((w.setCell ⟨g, 0, none⟩ v0).setCell ⟨g, 1, none⟩ v1).setCell ⟨g, 2, none⟩ v2).setCell ⟨g, 3, none⟩ v3).setCell ⟨g, 4, none⟩ v4
theorem five_heap {w : World} {g : Nat} {x0 x1 x2 x3 x4 : Value} (v0 v1 v2 v3 v4 : Value) (h : w.heap[g]? = some (.cells #[x0, x1, x2, x3, x4] 25 (0, 0))) : (five w g v0 v1 v2 v3 v4).heap[g]? = some (.cells #[v0, v1, v2, v3, v4] 25 (0, 0)) := by
  unfold five
  have h0 := heap_setCell_same w g 0 _ 25 v0 h
  have h1 := heap_setCell_same _ g 1 _ 25 v1 h0
  have h2 := heap_setCell_same _ g 2 _ 25 v2 h1
  have h3 := heap_setCell_same _ g 3 _ 25 v3 h2
  exact heap_setCell_same _ g 4 _ 25 v4 h3
theorem Only.five {X : List Nat} {a b : World} (h : Only X a b) (g : Nat) (hg : g ∈ X ∨ a.heap.size ≤ g) (v0 v1 v2 v3 v4 : Value) : Only X a (five b g v0 v1 v2 v3 v4) :=
  ((((h.set ⟨g, 0, none⟩ hg v0).set ⟨g, 1, none⟩ hg v1).set ⟨g, 2, none⟩ hg v2).set ⟨g, 3, none⟩ hg v3).set ⟨g, 4, none⟩ hg v4
theorem Rd.set {w : World} {r g i : Nat} {s : ByteArray} {a : Nat} (h : Rd w r s a) (hg : r ≠ g) (v : Value) : Rd (w.setCell ⟨g, i, none⟩ v) r s a := (heap_setCell_other w ⟨g, i, none⟩ r v hg).trans h
theorem Rd.five {w : World} {r g : Nat} {s : ByteArray} {a : Nat} (h : Rd w r s a) (hg : r ≠ g) (v0 v1 v2 v3 v4 : Value) : Rd (five w g v0 v1 v2 v3 v4) r s a := ((((h.set hg v0).set hg v1).set hg v2).set hg v3).set hg v4
/-- The cells of a result's block, as the walk wants them. -/
theorem cells5 {w : World} {g : Nat} {x0 x1 x2 x3 x4 : Value} (h : w.heap[g]? = some (.cells #[x0, x1, x2, x3, x4] 25 (0, 0))) :
    (w.cell? ⟨g, 0, none⟩ = some x0 ∧ w.cell? ⟨g, 1, none⟩ = some x1 ∧ w.cell? ⟨g, 2, none⟩ = some x2 ∧ w.cell? ⟨g, 3, none⟩ = some x3 ∧ w.cell? ⟨g, 4, none⟩ = some x4) ∧
    (w.frozen? ⟨g, 0, none⟩ = false ∧ w.frozen? ⟨g, 1, none⟩ = false ∧ w.frozen? ⟨g, 2, none⟩ = false ∧ w.frozen? ⟨g, 3, none⟩ = false ∧ w.frozen? ⟨g, 4, none⟩ = false) := by
  refine ⟨⟨?_, ?_, ?_, ?_, ?_⟩, Lib.frozen_of_heap h 0, Lib.frozen_of_heap h 1, Lib.frozen_of_heap h 2, Lib.frozen_of_heap h 3, Lib.frozen_of_heap h 4⟩ <;> (rw [Lib.cell_of_heap h]; rfl)

/-- A call that reads a value. -/
def RetJ (r : Nat) (s : ByteArray) (a : Nat) (w : World) (p : JR) (e : Ending) (w' : World) : Prop :=
  Only [r] w w' ∧ (p.2.2 = 0 → ∃ v, e = .returned (.tuple #[v, .int .i64 0]) ∧ IsJ w' (fun i => w.heap.size ≤ i ∧ i < w'.heap.size) p.1 v ∧ Rd w' r s (a + p.2.1)) ∧ (p.2.2 ≠ 0 → e = .returned (.tuple #[zeroV, .int .i64 (p.2.2 : Int)]))
theorem RetJ.good {r : Nat} {s : ByteArray} {a : Nat} {w w' : World} {j : J} {n : Nat} {v : Value} (o : Only [r] w w') (h : IsJ w' (fun i => w.heap.size ≤ i ∧ i < w'.heap.size) j v) (k : Rd w' r s (a + n)) : RetJ r s a w (j, n, 0) (.returned (.tuple #[v, .int .i64 0])) w' :=
  ⟨o, fun _ => ⟨v, rfl, h, k⟩, fun h => absurd rfl h⟩
theorem RetJ.bad {r : Nat} {s : ByteArray} {a : Nat} {w w' : World} {x : Nat} (o : Only [r] w w') (hx : x ≠ 0) : RetJ r s a w (jerr x) (.returned (.tuple #[zeroV, .int .i64 (x : Int)])) w' :=
  ⟨o, fun h => absurd h hx, fun _ => rfl⟩

set_option maxHeartbeats 4000000 in
theorem literal_any (r : Nat) (s : ByteArray) (a : Nat) (f : Value) (w : World) (h : Rd w r s a) (hu : Utf w) (ha : a ≤ s.size) (hs : s.size ≤ 100000) (hn : (unqL (s.data.toList.drop a)).2.1 ≤ s.size) : Calls Tryd.prog 65 #[.pointer (some ⟨r, 0, none⟩), f] w (RetJ r s a w (textJ (s.data.toList.drop a))) := by
  have cK := Lib.hid (fun w1 h1 h2 => key_any r s a w1 h1 h2 ha hs hn)
  have HU := Lib.hid hu
  have HH := Lib.hid h
  have hne : w.heap.size ≠ r := fun e => by have := h.lt; omega
  unfold textJ
  generalize unqL (s.data.toList.drop a) = p at *
  obtain ⟨p0, p1, p2⟩ := p
  simp only at hn
  clear h hu
  have hB : (w.alloc (.cells #[.int .i64 0, .int .i64 0, .string ⟨#[]⟩, .slice none 0 0, .slice none 0 0] 25)).heap[w.heap.size]? = some (.cells #[.int .i64 0, .int .i64 0, .string ⟨#[]⟩, .slice none 0 0, .slice none 0 0] 25 (0, 0)) := heap_alloc_new w _
  have HB := Lib.hid hB
  clear hB
  by_cases hp : p2 = 0
  · subst hp
    rw [if_neg (by simp)]
    go_enter Tryd.func65, Tryd.ntmps65
    go_wp2_with fail
    refine (cK.out _ (HH.out.keeps ((Keeps.refl _).alloc _)) (HU.out.keeps ((Keeps.refl _).alloc _))).mono ?_
    rintro e w2 ⟨rfl, hr, ho⟩
    have hb2 : w2.heap[w.heap.size]? = some (.cells #[.int .i64 0, .int .i64 0, .string ⟨#[]⟩, .slice none 0 0, .slice none 0 0] 25 (0, 0)) := (ho.block _ (by simp) (by simpa using hne)).trans HB.out
    have HR := Lib.hid hr
    have HO := Lib.hid (show Only [r] w w2 from ((Only.refl [r] w).alloc _).trans ho)
    have HB2 := Lib.hid hb2
    clear hr ho hb2
    obtain ⟨⟨c0, c1, c2, c3, c4⟩, f0, f1, f2, f3, f4⟩ := cells5 HB2.out
    go_wp2
    (try simp only [Exit.inBlock, Exit.then])
    refine ret_j w.heap.size _ rfl rfl (five_heap _ _ _ _ _ HB2.out) rfl rfl ?_
    exact RetJ.good (HO.out.five _ (.inr (Nat.le_refl _)) _ _ _ _ _) (IsJ.plain _ _ _ _ _) (HR.out.five hne.symm _ _ _ _ _)
  · rw [if_pos hp]
    have f9 : ((p2 : Int) != 0) = true := by simp; omega
    go_enter Tryd.func65, Tryd.ntmps65
    go_wp2_with fail
    refine (cK.out _ (HH.out.keeps ((Keeps.refl _).alloc _)) (HU.out.keeps ((Keeps.refl _).alloc _))).mono ?_
    rintro e w2 ⟨rfl, hr, ho⟩
    have hb2 : w2.heap[w.heap.size]? = some (.cells #[.int .i64 0, .int .i64 0, .string ⟨#[]⟩, .slice none 0 0, .slice none 0 0] 25 (0, 0)) := (ho.block _ (by simp) (by simpa using hne)).trans HB.out
    have HO := Lib.hid (show Only [r] w w2 from ((Only.refl [r] w).alloc _).trans ho)
    have HB2 := Lib.hid hb2
    clear hr ho hb2
    obtain ⟨⟨c0, c1, c2, c3, c4⟩, f0, f1, f2, f3, f4⟩ := cells5 HB2.out
    go_wp2
    (try simp only [Exit.inBlock, Exit.then])
    refine ret_j w.heap.size _ rfl rfl (five_heap _ _ _ _ _ HB2.out) rfl rfl ?_
    exact RetJ.bad (HO.out.five _ (.inr (Nat.le_refl _)) _ _ _ _ _) hp
end Go.Proofs.YtljkeladdplhlaaDoor
