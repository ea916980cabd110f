/-
  The contract of step of package nfa: where a byte leads from a set of states.
-/
import Derived.Test.YtmcogncpncfpmaaDoorItr
import Derived.Test.YtmcogncpncfpmaaDoorRnd
namespace Go.Proofs.YtmcogncpncfpmaaDoor
open Go.RowKit Go.Shelf

attribute [local go_sem] Oper.semAt_some

/-- What holds between two rounds of step's loop: the boxes of n, to and is; the row of to. -/
def StepI (w : World) (P rb tb ib m : Nat) (M : List UInt8) (c : UInt8) (pre : List (Fin m)) (W : World) : Prop :=
  W.cell? ⟨w.heap.size, 0, none⟩ = some (.pointer (some ⟨P, 0, none⟩)) ∧ W.cell? ⟨P, 3, none⟩ = some (.string (S M)) ∧
  W.cell? ⟨tb, 0, none⟩ = some (.slice (some ⟨rb, 0, none⟩) m m) ∧ W.cell? ⟨ib, 0, none⟩ = some (.int .u8 c.toNat) ∧ RowB W rb m (stepL M c (pre.map (·.1)))
theorem stepI_own (w : World) (P rb tb ib m : Nat) (M : List UInt8) (c : UInt8) : Own (StepI w P rb tb ib m M c) := by
  rintro s A B row ⟨h1, h2, h3, h4, h5⟩ hg hr
  exact ⟨cell_kept h1 hg hr, cell_kept h2 hg hr, cell_kept h3 hg hr, cell_kept h4 hg hr, fun j hj => ⟨cell_kept (h5 j hj).1 hg hr, (frozen_kept (h5 j hj).1 hg hr).trans (h5 j hj).2⟩⟩

theorem four (w W : World) (P m : Nat) (c : UInt8) (hW : W = ((((w.alloc (Obj.cells #[Value.pointer (some { block := P, off := 0 })] 24)).alloc (Obj.cells (madeCells #[Value.bool false] m) 4)).alloc (Obj.cells #[Value.slice (some { block := w.heap.size + 1, off := 0 }) m m] 42)).alloc (Obj.cells #[Value.int IntKind.u8 ↑c.toNat] 5))) :
    Keeps w W ∧ W.heap.size = w.heap.size + 4 ∧ W.cell? ⟨w.heap.size, 0, none⟩ = some (.pointer (some ⟨P, 0, none⟩)) ∧ RowB W (w.heap.size + 1) m (fun _ => false) ∧
    W.cell? ⟨w.heap.size + 1 + 1, 0, none⟩ = some (.slice (some ⟨w.heap.size + 1, 0, none⟩) m m) ∧ RowIs W (w.heap.size + 1 + 1 + 1) [c] := by
  obtain ⟨w1, h1⟩ : ∃ w1, w1 = w.alloc (Obj.cells #[Value.pointer (some { block := P, off := 0 })] 24) := ⟨_, rfl⟩
  rw [← h1] at hW
  obtain ⟨w2, h2⟩ : ∃ w2, w2 = w1.alloc (Obj.cells (madeCells #[Value.bool false] m) 4) := ⟨_, rfl⟩
  rw [← h2] at hW
  obtain ⟨w3, h3⟩ : ∃ w3, w3 = w2.alloc (Obj.cells #[Value.slice (some { block := w.heap.size + 1, off := 0 }) m m] 42) := ⟨_, rfl⟩
  rw [← h3] at hW
  have s1 : w1.heap.size = w.heap.size + 1 := by rw [h1]; simp
  have s2 : w2.heap.size = w.heap.size + 1 + 1 := by rw [h2, ← s1]; simp
  have s3 : w3.heap.size = w.heap.size + 1 + 1 + 1 := by rw [h3, ← s2]; simp
  have s4 : W.heap.size = w.heap.size + 4 := by rw [hW]; simp [s3]
  have o : ∀ i, i < w.heap.size + 1 → W.heap[i]? = w1.heap[i]? := fun i hi => by rw [hW, Lib.alloc_old _ _ _ (by omega), h3, Lib.alloc_old _ _ _ (by omega), h2, Lib.alloc_old _ _ _ (by omega)]
  have e0 : W.heap[w.heap.size]? = some (.cells #[Value.pointer (some { block := P, off := 0 })] 24 (0, 0)) := by rw [o _ (by omega), h1]; exact heap_alloc_new w _
  have e1 : W.heap[w.heap.size + 1]? = some (.cells (madeCells #[Value.bool false] m) 4 (0, 0)) := by
    rw [hW, Lib.alloc_old _ _ _ (by omega), h3, Lib.alloc_old _ _ _ (by omega), h2, ← s1]; exact heap_alloc_new w1 _
  have e2 : W.heap[w.heap.size + 1 + 1]? = some (.cells #[Value.slice (some { block := w.heap.size + 1, off := 0 }) m m] 42 (0, 0)) := by
    rw [hW, Lib.alloc_old _ _ _ (by omega), h3, ← s2]; exact heap_alloc_new w2 _
  have e3 : W.heap[w.heap.size + 1 + 1 + 1]? = some (.cells #[Value.int IntKind.u8 ↑c.toNat] 5 (0, 0)) := by
    rw [hW, ← s3]; exact heap_alloc_new w3 _
  refine ⟨by rw [hW, h3, h2, h1]; exact ((((Keeps.refl w).alloc _).alloc _).alloc _).alloc _, s4, by rw [Lib.cell_of_heap e0]; rfl, row_at e1, by rw [Lib.cell_of_heap e2]; rfl, ?_⟩
  intro j hj
  obtain rfl : j = 0 := by simpa using hj
  exact ⟨by rw [Lib.cell_of_heap e3]; rfl, Lib.frozen_of_heap e3 0⟩

theorem oth (w : World) {a b k j : Nat} (u : Value) (h : a ≠ b) : (w.setCell ⟨b, k, none⟩ u).cell? ⟨a, j, none⟩ = w.cell? ⟨a, j, none⟩ := World.cell?_setCell_other _ _ _ _ (by simp [h.symm])

theorem KeepsOthers.drewN' (W : World) (n : Nat) : KeepsOthers W (W.drewN n) := ⟨Nat.le_refl _, fun _ _ h _ => h⟩

theorem foldL_one (fo : Bool) (c : UInt8) : foldL fo [c] = [(foldL fo [c]).getD 0 0] := by cases fo <;> rfl

set_option maxRecDepth 100000 in
set_option maxHeartbeats 4000000 in
theorem step_in (P b cap : Nat) (N : List UInt8) (fo : Bool) (f : Nat → Bool) (c : UInt8) (hN : N.length ≤ 300) (w : World) (h : NfaAt w P N fo) (hr : RowB w b (N.length + 1) f) :
    CallsIn Fence.wide 3 Tryd.prog 24 #[.pointer (some ⟨P, 0, none⟩), .slice (some ⟨b, 0, none⟩) (N.length + 1) cap, .int .u8 c.toNat] w fun e W' => ∃ v, e = .returned v ∧ IsSet w W' v (N.length + 1) (cloF N (stepL (foldL fo N) ((foldL fo [c]).getD 0 0) (lstN f (N.length + 1)))) ∧ Keeps w W' := by
  have h1 : 1 ≤ 3 := by omega
  have hF : ∀ k, Fence.wide.fn k := fun _ => trivial
  have hro : Fence.wide.round = none := rfl
  have hb : b < w.heap.size := hr.lt (by omega)
  have hP : P < w.heap.size := h.lt
  obtain ⟨m, hm⟩ : ∃ m, m = N.length + 1 := ⟨_, rfl⟩
  rw [← hm] at hr ⊢
  have hm1 : m ≤ 301 := by omega
  have HM := Lib.hid hm
  clear hm hN
  have cF := Lib.hid (fun (s : ByteArray) (w1 : World) (hs : s.size ≤ maxLen) => folded_any P fo s w1 hs)
  obtain ⟨d, hd⟩ : ∃ d, d = (foldL fo [c]).getD 0 0 := ⟨_, rfl⟩
  rw [← hd]
  have hmk := make_at 42 Tryd.underlying42 m (by omega) (w.alloc (.cells #[.pointer (some ⟨P, 0, none⟩)] 24))
  refine callsIn_of_wp_marks Tryd.func24 rfl trivial ?_ hro
  simp only [Tryd.ntmps24, List.size_toArray, List.length_cons, List.length_nil, Nat.reduceAdd, Nat.reduceSub, Array.replicate_succ, Array.replicate_zero, List.push_toArray, List.append_toArray, List.nil_append, List.cons_append]
  gi_wp2_with fail
  obtain ⟨W4, hW4⟩ : ∃ W4, W4 = ((((w.alloc (Obj.cells #[Value.pointer (some { block := P, off := 0 })] 24)).alloc (Obj.cells (madeCells #[Value.bool false] m) 4)).alloc (Obj.cells #[Value.slice (some { block := w.heap.size + 1, off := 0 }) m m] 42)).alloc (Obj.cells #[Value.int IntKind.u8 ↑c.toNat] 5)) := ⟨_, rfl⟩
  obtain ⟨k4, z4, b0, br, b2, b3⟩ := four w W4 P m c hW4
  rw [← hW4]
  have hconv := conv_back W4 (w.heap.size + 1 + 1 + 1) 1 1 [c] rfl b3
  have H4 := h.keeps k4
  have hc2 := H4.c2
  have B0 := Lib.hid b0
  have BR := Lib.hid br
  have B2 := Lib.hid b2
  have HW4 := Lib.hid hW4
  have HH := Lib.hid h
  clear b0 br b2 b3 hW4 h hmk H4
  have hcF : Calls Tryd.prog 16 #[.pointer (some ⟨P, 0, none⟩), .string (S [c])] W4 (RetS [d] W4) := by
    rw [hd, ← foldL_one]
    exact cF.out (S [c]) W4 (by unfold maxLen; rw [S_size]; simp) hc2
  have HCF := Lib.hid hcF
  clear hcF cF
  have HD := Lib.hid hd
  clear hd hc2
  rw [hconv]
  clear hconv
  gi_wp2_with fail

  refine (callsIn_wide.2 HCF.out).mono ?_
  rintro e w5 ⟨rfl, k5⟩
  have hz1 : (S [d]).size = 1 := rfl
  have hd1 : (S [d])[0] = d := rfl
  gi_wp2_with fail
  refine (states_in Fence.wide 2 trivial rfl _ ⟨_, _, _, rfl⟩ _).mono ?_
  rintro e w6 ⟨rfl, rfl⟩
  obtain ⟨w6, hw6⟩ : ∃ w6, w6 = w5.alloc (Obj.cells #[Value.int IntKind.u8 ↑d.toNat] 5) := ⟨_, rfl⟩
  obtain ⟨w7, hw7⟩ : ∃ w7, w7 = w6.alloc (.cells #[.slice (some ⟨b, 0, none⟩) m cap] 42) := ⟨_, rfl⟩
  rw [← hw6, ← hw7]
  have HW6 := Lib.hid hw6
  have HW7 := Lib.hid hw7
  clear hw6 hw7
  gi_wp2_with fail
  have hw6 := HW6.out
  have hw7 := HW7.out
  have s6 : w6.heap.size = w5.heap.size + 1 := by rw [hw6]; simp
  have s7 : w7.heap.size = w6.heap.size + 1 := by rw [hw7]; simp
  have k57 : Keeps w5 w7 := by rw [hw7, hw6]; exact ((Keeps.refl _).alloc _).alloc _
  have k47 := Keeps.trans k5 k57
  have kw7 := Keeps.trans k4 k47
  have z5 := k5.size
  have hI8 : w7.cell? ⟨w5.heap.size, 0, none⟩ = some (.int .u8 d.toNat) := by
    rw [hw7, hw6]
    exact (World.cell?_alloc_lt _ _ _ (by simp)).trans (by rw [Lib.cell_of_heap (heap_alloc_new w5 _)]; rfl)
  have hBs : w7.cell? ⟨w6.heap.size, 0, none⟩ = some (.slice (some ⟨b, 0, none⟩) m cap) := by
    rw [hw7, Lib.cell_of_heap (heap_alloc_new w6 _)]; rfl
  have hM : w7.cell? ⟨P, 3, none⟩ = some (.string (S (foldL fo N))) := kw7.cell HH.out.c3
  have hMl : (foldL fo N).length + 1 = m := by rw [foldL_len, HM.out]
  have hr7 : RowB w7 b m f := hr.below kw7 hb
  have h0 : StepI w P (w.heap.size + 1) (w.heap.size + 1 + 1) w5.heap.size m (foldL fo N) d [] w7 :=
    ⟨k47.cell B0.out, hM, k47.cell B2.out, hI8, by rw [List.map_nil, stepL_nil]; exact BR.out.below k47 (by omega)⟩
  have q67 : w6.heap.size < w7.heap.size := by omega
  have q6 := Lib.hid (show w.heap.size + 2 < w7.heap.size by omega)
  generalize hMM : foldL fo N = M at h0 hM hMl
  have HMM := Lib.hid hMM
  clear hMM
  have n5 := Lib.hid (show w5.heap.size ≠ w.heap.size + 1 by omega)
  have nP := Lib.hid (show P ≠ w.heap.size + 1 by omega)
  clear s6 s7 z5 z4 hw6 hw7
  refine wpIn_rangeFunc_ownG hro h1 (gf := 39) (lb := #[.pointer (some ⟨w6.heap.size, 0, none⟩)]) rfl trivial (enters_of Tryd.func39 (by kernel_rfl) rfl)
    (itr_stops Fence.wide 2 trivial hro (by omega) w6.heap.size w.heap.size b m cap f (by omega) w7 q67 kw7.size hb hBs (fun j hj => (hr7 j hj).1)) belowK_t (belowK_b kw7.size) (Below.refl _ _) (fun _ => rfl)
    (fun pre W => StepI w P (w.heap.size + 1) (w.heap.size + 1 + 1) w5.heap.size m M d pre W ∧ Below w.heap.size w W)
    (fun _ _ _ => False)
    (OwnFrom.and (Own.from (stepI_own w P _ _ _ m M d) _) (ownFrom_below (Nat.le_refl _) kw7.size))
    (fun _ _ _ _ _ hs _ _ => hs)
    ⟨h0, kw7⟩
    (fun x => { tmps := #[.pointer (some ⟨P, 0, none⟩), .slice (some ⟨b, 0, none⟩) m cap, .int .u8 c.toNat, .pointer (some ⟨w.heap.size, 0, none⟩), undef, undef, .slice none 0 0, .pointer (some ⟨w.heap.size + 1 + 1, 0, none⟩), .pointer (some ⟨w5.heap.size, 0, none⟩), .int .i64 (x.1 : Int), .slice (some ⟨b, 0, none⟩) m cap, .int .i64 m, .slice (some ⟨w.heap.size + 1, 0, none⟩) m m, .pointer (some ⟨P, 0, none⟩), .int .u8 c.toNat, .slice (some ⟨w.heap.size + 1 + 1 + 1, 0, none⟩) 1 1, .string (S [c]), .string (S [d]), .int .u8 d.toNat, .slice (some ⟨b, 0, none⟩) m cap, .func (.func 39) #[] #[.pointer (some ⟨w6.heap.size, 0, none⟩)], .int .i64 (x.1 : Int), undef, undef, undef, undef, undef, undef, undef, undef, undef, undef, undef, undef, undef, undef, undef, undef, undef, undef, undef, undef, undef, undef, undef, undef, undef, undef, undef, undef, undef, undef, undef, undef, undef, undef, undef, undef, undef, undef, undef, undef, undef, undef, undef], defers := [] }) ?assign ?body ?done ?stop
  case assign =>
    intro l x W K hK
    gi_wp2
    exact hK
  case body =>
    rintro l pre x W ⟨⟨c0, cM, c2, c3, hrow⟩, hB⟩ hlt
    have HR := Lib.hid hrow
    clear hrow
    have hmx : Tryd.prog.follows .mixedOrders = true := by kernel_rfl
    have hx := x.2
    have HS := Lib.hid (stepI_own w P (w.heap.size + 1) (w.heap.size + 1 + 1) w5.heap.size m M d)
    have HE := Lib.hid hMl
    have hz : (S M).size = M.length := S_size M
    have hlen : (S M).size + 1 = m := by omega
    have HA := Lib.hid (fun k (hk : k < (S M).size) => getD_at (S M) k hk)
    simp only [S_data] at HA
    have eoff := Lib.hid (fun h2 => stepL_off M d (pre.map (·.1)) x.1 h2)
    have eon := Lib.hid (fun h h1 h2 => stepL_on M d (pre.map (·.1)) x.1 h h1 h2)
    have est := Lib.hid (fun h h1 => stepL_star M d (pre.map (·.1)) x.1 h h1)
    have HZ := Lib.hid hz
    have hmap : (pre ++ [x]).map (·.1) = pre.map (·.1) ++ [x.1] := by simp
    clear hMl hz hM h0
    by_cases hxe : x.1 = (S M).size
    · gi_wp2
      exact ⟨KeepsFrom.refl _ _, Below.refl _ _, ⟨c0, cM, c2, c3, by rw [hmap, eoff.out (fun h => absurd h (by rw [← HZ.out]; omega))]; exact HR.out⟩, hB⟩
    · have hxl : x.1 < (S M).size := by omega
      have hxl' : x.1 < M.length := by rw [← HZ.out]; exact hxl
      have ha := HA.out x.1 hxl
      have HXL := Lib.hid hxl'
      clear hxl'
      by_cases h42 : (S M)[x.1].toNat = 42
      · have r1 := (HR.out x.1 hx).1
        have r2 := (HR.out x.1 hx).2
        generalize stepL M d (pre.map (·.1)) x.1 = b1 at r1
        gi_wp2
        exact ⟨(KeepsOthers.setCell _ _ _).from _, (Below.refl _ W).setCell (p := ⟨w.heap.size + 1, x.1, none⟩) (by simp) _, ⟨(oth _ _ (by omega)).trans c0, (oth _ _ nP.out).trans cM, (oth _ _ (by omega)).trans c2, (oth _ _ n5.out).trans c3, by rw [hmap, est.out HXL.out (by rw [ha]; exact h42)]; exact HR.out.set hx⟩, hB.setCell (p := ⟨w.heap.size + 1, x.1, none⟩) (by simp) _⟩
      · by_cases h63 : (S M)[x.1].toNat = 63
        · have r1 := (HR.out (x.1 + 1) (by omega)).1
          have r2 := (HR.out (x.1 + 1) (by omega)).2
          generalize stepL M d (pre.map (·.1)) (x.1 + 1) = b1 at r1
          gi_wp2
          exact ⟨(KeepsOthers.setCell _ _ _).from _, (Below.refl _ W).setCell (p := ⟨w.heap.size + 1, x.1 + 1, none⟩) (by simp) _, ⟨(oth _ _ (by omega)).trans c0, (oth _ _ nP.out).trans cM, (oth _ _ (by omega)).trans c2, (oth _ _ n5.out).trans c3, by rw [hmap, eon.out HXL.out (by rw [ha]; exact h42) (.inl (by rw [ha]; exact h63))]; exact HR.out.set (by omega)⟩, hB.setCell (p := ⟨w.heap.size + 1, x.1 + 1, none⟩) (by simp) _⟩
        · by_cases hcd : (S M)[x.1].toNat = d.toNat
          · have r1 := (HR.out (x.1 + 1) (by omega)).1
            have r2 := (HR.out (x.1 + 1) (by omega)).2
            generalize stepL M d (pre.map (·.1)) (x.1 + 1) = b1 at r1
            gi_wp2
            refine quiet_round rfl (by kernel_rfl) (by kernel_rfl) (by kernel_rfl) ?_
            repeat (gi_big_quiet_step (fail))
            refine wpQuietIn_nil ?_
            intro _ hw'
            obtain ⟨nq, hw''⟩ := hw'
            subst hw''
            gi_wp2
            exact ⟨(KeepsOthers.trans (KeepsOthers.drewN' W nq) (KeepsOthers.setCell _ _ _)).from _, ((below_drewN (Below.refl _ W) nq).setCell (p := ⟨w.heap.size + 1, x.1 + 1, none⟩) (by simp) _), ⟨(oth _ _ (by omega)).trans c0, (oth _ _ nP.out).trans cM, (oth _ _ (by omega)).trans c2, (oth _ _ n5.out).trans c3, by rw [hmap, eon.out HXL.out (by rw [ha]; exact h42) (.inr (by rw [ha]; exact UInt8.toNat_inj.1 hcd))]; exact RowB.set (w := W.drewN nq) HR.out (by omega)⟩, ((below_drewN hB nq).setCell (p := ⟨w.heap.size + 1, x.1 + 1, none⟩) (by simp) _)⟩
          · gi_wp2
            refine quiet_round rfl (by kernel_rfl) (by kernel_rfl) (by kernel_rfl) ?_
            repeat (gi_big_quiet_step (fail))
            refine wpQuietIn_nil ?_
            intro _ hw'
            obtain ⟨nq, hw''⟩ := hw'
            subst hw''
            gi_wp2
            exact ⟨(KeepsOthers.drewN' W nq).from _, below_drewN (Below.refl _ W) nq, ⟨c0, cM, c2, c3, by rw [hmap, eoff.out (fun _ => ⟨by rw [ha]; exact h42, by rw [ha]; intro hh; rcases hh with hh | hh; exact h63 hh; exact hcd (congrArg UInt8.toNat hh)⟩)]; exact HR.out⟩, below_drewN hB nq⟩
  case done =>
    rintro D ys W hD rfl ⟨⟨c0, cM, c2, c3, hrow⟩, hB⟩ hK
    have hrb : w.heap.size + 1 < W.heap.size := by have := hrow.lt (by omega); exact this
    rw [lstF_val f m m (Nat.le_refl _)] at hrow
    have d1 : W.cell? ⟨P, 1, none⟩ = some (.string (S N)) := (hB.cell (p := ⟨P, 1, none⟩) hP).trans HH.out.c1
    have cC : ∀ g w1, w1.cell? ⟨P, 1, none⟩ = some (.string (S N)) → RowB w1 (w.heap.size + 1) m g → Calls Tryd.prog 29 #[.pointer (some ⟨P, 0, none⟩), .slice (some ⟨w.heap.size + 1, 0, none⟩) m m] w1 (fun e w' => e = .returned (.tuple #[]) ∧ RowB w' (w.heap.size + 1) m (cloF N g) ∧ w1.grownBy w' (some (w.heap.size + 1))) := by
      intro g w1 e1 e2
      rw [HM.out] at e2 ⊢
      exact close_any P (w.heap.size + 1) _ N g w1 (by have := HM.out; omega) e1 e2 (by omega)
    have CC := Lib.hid (cC _ _ d1 hrow)
    have q6' := q6.out
    have hDn : D ≠ w.heap.size + 1 := by omega
    have HR := Lib.hid hrow
    clear hrow cC d1
    gi_wp2_with fail
    refine (callsIn_wide.2 CC.out).mono ?_
    rintro e w8 ⟨rfl, hr8, hg8⟩
    have e2 := hg8.cell c2 (by simp)
    have hK8 := (hg8.block D (Array.getElem?_eq_some_iff.1 hK).1 (by simp; exact hDn)).trans hK
    have HR8 := Lib.hid hr8
    have HB8 : Hid (Keeps w w8) := Lib.hid (Below.trans hB ((grow_below hg8 (by omega)).mono (by omega)))
    clear hr8
    gi_wp2
    refine ⟨by simp, .inl ⟨_, _, rfl, run_takeDeferred hK8, ?_⟩⟩
    refine ⟨_, results_tmp rfl _ _ _, _, rfl, ⟨w.heap.size + 1, _, rfl, by omega, fun j hj => ?_⟩, Below.trans HB8.out (belowK_b (w := w) (Nat.le_refl _) w8 D _ _ (by omega) hK8 rfl rfl)⟩
    rw [HMM.out]
    have q1 := (HR8.out j hj).1
    have q2 := (HR8.out j hj).2
    exact ⟨cell_kept q1 (grownBy_putObj' _ D (.deferred none)) (fun r e => by cases e; exact ⟨_, hK8, rfl⟩), (frozen_kept q1 (grownBy_putObj' _ D (.deferred none)) (fun r e => by cases e; exact ⟨_, hK8, rfl⟩)).trans q2⟩
  case stop =>
    rintro D c pre W _ _ h _
    exact h.elim
end Go.Proofs.YtmcogncpncfpmaaDoor
