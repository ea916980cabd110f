/-
  audit's Of, walked.
-/
import Derived.Test.YtfapilgmgjmfeaaGreatDoorDel
namespace Go.Proofs.YtfapilgmgjmfeaaGreatDoor
open Go.RowKit

theorem keeps_only {w w1 w2 : World} {g : Nat} (h : Keeps w w1) (k : Only [g] w1 w2) (hg : w.heap.size ≤ g) : Keeps w w2 :=
  ⟨k.os.trans h.os, k.tape.trans h.tape, k.output.trans h.output, Nat.le_trans h.size k.size, fun i hi => (k.block i (Nat.lt_of_lt_of_le hi h.size) (by simp; omega)).trans (h.block i hi)⟩
def OfRet (l : List Nt) (t : Int) (w : World) (e : Ending) (w' : World) : Prop := ∃ A c, e = .returned (.slice A (ofL l t).length c) ∧ NotesAt w' A (ofL l t) ∧ Keeps w w'
theorem row_blk {w : World} {B : Nat} {v : Value} {l : List Nt} (h : NtRow w B v l) : (v = .slice none 0 0 ∧ l = []) ∨ ∃ g cap, v = .slice (some ⟨g, 0, none⟩) l.length cap ∧ B ≤ g ∧ l.length ≤ cap ∧ NBlk w g l.length l := by
  have h0 := h
  obtain ⟨h1, ⟨rfl, h2⟩ | ⟨g, cap, cur, rfl, hB, hb, hc, hm, hs, ht⟩⟩ := h
  · exact .inl ⟨rfl, List.eq_nil_of_length_eq_zero h2⟩
  · refine .inr ⟨g, cap, rfl, hB, hc, rfl, ?_, cur, hb, by rw [hs]; exact Nat.mul_le_mul_right 9 hc⟩
    obtain ⟨A', c', e, hN⟩ := h0.notes
    injection e with e1 _ _
    subst e1
    exact hN
set_option maxHeartbeats 4000000 in
set_option maxRecDepth 100000 in
theorem of_nil (t : Int) (w : World) : Calls Tryz.prog 17 #[.slice none 0 0, .int .i64 t] w (OfRet [] t w) := by
  have K0 := Lib.hid ((Keeps.refl w).alloc (.cells #[.int .i64 t] 2))
  have HT : Hid (TxnAt (w.alloc (.cells #[.int .i64 t] 2)) w.heap.size t) := Lib.hid (heap_alloc_new w _)
  have hq : ∀ wx : World, (binOp .eql 22 (.slice none 0 0) (.slice none 0 0)).run Tryz.prog wx = .ok (.bool true) wx := fun wx => by kernel_rfl
  have cC : Hid (∀ wx, Calls Tryz.prog 46 #[.slice none 0 0] wx (fun e w' => e = .returned (.slice none 0 0) ∧ w' = wx)) := Lib.hid (fun wx => by
    go_enter Tryz.func46, Tryz.ntmps46
    go_wp2
    go_ret
    exact ⟨rfl, rfl⟩)
  have cD : Hid (∀ wx, Keeps (w.alloc (.cells #[.int .i64 t] 2)) wx → Calls Tryz.prog 45 #[.slice none 0 0, .func (.func 47) #[] #[.pointer (some ⟨w.heap.size, 0, none⟩)]] wx (Ret (.slice none 0 0) wx)) := Lib.hid (fun wx kx => deln_none none 0 [] w.heap.size t wx (fun i hi => by simp at hi) (HT.out.keeps kx) (by simp) (by simp))
  clear hq
  go_enter Tryz.func17, Tryz.ntmps17
  go_wp2_with fail
  refine (cC.out _).mono ?_
  rintro e w1 ⟨rfl, hw1⟩
  have k1 : Keeps (w.alloc (.cells #[.int .i64 t] 2)) w1 := by rw [hw1]; exact Keeps.refl _
  have cE := Lib.hid (cD.out w1 k1)
  have K1 := Lib.hid (K0.out.trans k1)
  clear k1 hw1 cC cD
  go_wp2_with fail
  refine cE.out.mono ?_
  rintro e w2 ⟨rfl, k2⟩
  have HFIN := Lib.hid (show OfRet [] t w (.returned (.slice none 0 0)) w2 from ⟨none, 0, rfl, fun i hi => by simp [ofL] at hi, K1.out.trans k2⟩)
  clear k2
  go_wp2
  go_ret
  exact HFIN.out
set_option maxHeartbeats 4000000 in
set_option maxRecDepth 100000 in
theorem of_some (g o : Nat) (s : Option Nat) (c : Nat) (l : List Nt) (t : Int) (w : World) (hA : NotesAt w (some ⟨g, o, s⟩) l) (hlen : l.length ≤ 1000000) (hs : l = [] ∨ s = none) : Calls Tryz.prog 17 #[.slice (some ⟨g, o, s⟩) l.length c, .int .i64 t] w (OfRet l t w) := by
  have K0 := Lib.hid ((Keeps.refl w).alloc (.cells #[.int .i64 t] 2))
  have cC := Lib.hid (clone_any g o s c l (w.alloc (.cells #[.int .i64 t] 2)) (hA.keeps K0.out) hlen hs)
  have HT : Hid (TxnAt (w.alloc (.cells #[.int .i64 t] 2)) w.heap.size t) := Lib.hid (heap_alloc_new w _)
  have hsz : (w.alloc (.cells #[.int .i64 t] 2)).heap.size = w.heap.size + 1 := by simp
  have HSZ := Lib.hid hsz
  have cD := Lib.hid (fun g' cap wx (kx : Keeps (w.alloc (.cells #[.int .i64 t] 2)) wx) (hx : NBlk wx g' l.length l) (hg : w.heap.size + 1 ≤ g') (hc : l.length ≤ cap) => deln_any g' cap l w.heap.size t wx hx (HT.out.keeps kx) (by omega) hlen hc)
  have cN : Hid (∀ wx, l = [] → Keeps (w.alloc (.cells #[.int .i64 t] 2)) wx → Calls Tryz.prog 45 #[.slice none 0 0, .func (.func 47) #[] #[.pointer (some ⟨w.heap.size, 0, none⟩)]] wx (Ret (.slice none 0 0) wx)) := Lib.hid (fun wx _ kx => deln_none none 0 [] w.heap.size t wx (fun i hi => by simp at hi) (HT.out.keeps kx) (by simp) (by simp))
  have HOF : Hid (∀ e w', OfRet l t w e w' → OfRet l t w e w') := Lib.hid (fun _ _ h => h)
  obtain ⟨L, hL⟩ : ∃ L, l.length = L := ⟨_, rfl⟩
  have HLL := Lib.hid hL
  rw [hL] at cC cD ⊢
  clear hA hlen hs hL hsz
  go_enter Tryz.func17, Tryz.ntmps17
  go_wp2_with fail
  refine cC.out.mono ?_
  rintro e w1 ⟨v, rfl, hrow, k1⟩
  have K1 := Lib.hid (K0.out.trans k1)
  rcases row_blk hrow with ⟨rfl, hnil⟩ | ⟨g', cap, rfl, hBg, hcap, hblk⟩
  · have cE := Lib.hid (cN.out w1 hnil k1)
    have HE := Lib.hid hnil
    clear k1 hrow hnil cC cD cN
    go_wp2_with fail
    refine cE.out.mono ?_
    rintro e w2 ⟨rfl, k2⟩
    have HFIN := Lib.hid (show OfRet l t w (.returned (.slice none 0 0)) w2 from by
      have e := HE.out
      subst e
      exact ⟨none, 0, rfl, fun i hi => by simp [ofL] at hi, K1.out.trans k2⟩)
    clear k2
    go_wp2
    go_ret
    exact HFIN.out
  · rw [HSZ.out] at hBg
    have cE := Lib.hid (cD.out g' cap w1 k1 (by rw [HLL.out] at hblk; exact hblk) hBg (by rw [HLL.out] at hcap; exact hcap))
    have HG := Lib.hid hBg
    clear k1 hrow hblk cC cD cN hBg hcap
    rw [HLL.out]
    go_wp2_with fail
    refine cE.out.mono ?_
    rintro e w2 ⟨rfl, hN, hO⟩
    have HFIN := Lib.hid (show OfRet l t w (.returned (.slice (some ⟨g', 0, none⟩) (ofL l t).length cap)) w2 from ⟨_, _, rfl, hN, keeps_only K1.out hO (by have := HG.out; omega)⟩)
    clear hN hO
    generalize (ofL l t).length = ln at *
    go_wp2
    go_ret
    exact HFIN.out
end Go.Proofs.YtfapilgmgjmfeaaGreatDoor
