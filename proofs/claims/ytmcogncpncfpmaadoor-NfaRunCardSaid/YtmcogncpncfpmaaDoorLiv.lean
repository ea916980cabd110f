/-
  The chapter's example of package nfa; the methods of a nil receiver.
-/
import Derived.Test.YtmcogncpncfpmaaDoorApi
namespace Go.Proofs.YtmcogncpncfpmaaDoor
open Go.RowKit

set_option maxHeartbeats 1000000 in
theorem start_nil (w : World) : Calls Tryd.prog 8 #[.pointer none] w (fun e w' => e = .returned (.slice none 0 0) ∧ w' = w) := by
  have cM := Lib.hid (fun w => made_nil w)
  go_enter Tryd.func8, Tryd.ntmps8
  go_wp2_with fail
  refine (cM.out _).mono ?_
  rintro e w2 ⟨rfl, rfl⟩
  go_wp2
  go_ret
  exact ⟨rfl, rfl⟩

set_option maxHeartbeats 1000000 in
theorem step_nil (A : Option Addr) (n c : Nat) (b : Int) (w : World) : Calls Tryd.prog 12 #[.pointer none, .slice A n c, .int .u8 b] w (fun e w' => e = .returned (.slice none 0 0) ∧ w' = w) := by
  have cM := Lib.hid (fun w => made_nil w)
  go_enter Tryd.func12, Tryd.ntmps12
  go_wp2_with fail
  refine (cM.out _).mono ?_
  rintro e w2 ⟨rfl, rfl⟩
  go_wp2
  go_ret
  exact ⟨rfl, rfl⟩

set_option maxHeartbeats 1000000 in
theorem accepts_nil (A : Option Addr) (n c : Nat) (w : World) : Calls Tryd.prog 9 #[.pointer none, .slice A n c] w (fun e w' => e = .returned (.bool false) ∧ w' = w) := by
  have cM := Lib.hid (fun w => made_nil w)
  go_enter Tryd.func9, Tryd.ntmps9
  go_wp2_with fail
  refine (cM.out _).mono ?_
  rintro e w2 ⟨rfl, rfl⟩
  go_wp2
  go_ret
  exact ⟨rfl, rfl⟩

set_option maxHeartbeats 1000000 in
theorem run_nil (s : ByteArray) (w : World) : Calls Tryd.prog 13 #[.pointer none, .string s] w (fun e w' => e = .returned (.bool false) ∧ w' = w) := by
  have cM := Lib.hid (fun w => made_nil w)
  go_enter Tryd.func13, Tryd.ntmps13
  go_wp2_with fail
  refine (cM.out _).mono ?_
  rintro e w2 ⟨rfl, rfl⟩
  go_wp2
  go_ret
  exact ⟨rfl, rfl⟩

/-- A row of whole numbers in a new block. -/
theorem ints_new (w : World) (zs : List Int) (o : Obj) (ho : o = .cells (ivals zs).toArray 3) : IntsAt (w.alloc o) (some ⟨w.heap.size, 0, none⟩) zs := by
  subst ho
  intro k hk
  refine ⟨_, rfl, ?_⟩
  rw [add_zero, Lib.cell_of_heap (heap_alloc_new w _)]
  simp [ivals, hk]

theorem ex1 : checkI [42, 120] = 0 := by decide
theorem ex2 : normL [42, 120] = [42, 120] := by decide
theorem ex3 : zl (startL [42, 120]) = [0, 1] := by decide
theorem ex4 : zl (stepZ [42, 120] false [0, 1] 120) = [0, 1, 2] := by decide

set_option maxHeartbeats 2000000 in
theorem lives_any (w : World) : Calls Tryd.prog 4 #[] w (RetQ true w) := by
  have cN := Lib.hid (fun w1 => new_any ⟨#[42, 120]⟩ false w1 (by unfold maxLen; decide))
  go_enter Tryd.func4, Tryd.ntmps4
  go_wp2_with fail
  refine (cN.out _).mono ?_
  rintro e w2 (⟨h, _⟩ | ⟨_, P, hP, rfl, hA, hk⟩)
  · exact absurd ex1 h
  have hA' : NfaAt w2 P [42, 120] false := hA
  have cS := Lib.hid (fun w1 h => Start_any P [42, 120] false w1 (by decide) h)
  have cT := Lib.hid (fun A cp zs c w1 h1 h2 h3 => Step_any P [42, 120] false A cp zs c w1 (by decide) h1 h2 h3)
  have cE := Lib.hid (fun A B c d xs ys w1 h1 h2 h3 h4 => same_any A B c d xs ys w1 h1 h2 h3 h4)
  have HA := Lib.hid hA'
  clear hA hA'
  go_wp2_with fail
  refine (cS.out _ HA.out).mono ?_
  rintro e w3 ⟨⟨v, rfl, ho⟩, hk3⟩
  rw [ex3] at ho
  obtain ⟨A, c, rfl, hi, _⟩ := IntsAt.own ho
  have HI := Lib.hid hi
  have K3 := Lib.hid (Keeps.trans hk hk3)
  have HA3 := Lib.hid (HA.out.keeps hk3)
  clear ho hi hk3 hk
  go_wp2_with fail
  refine (cE.out A (some ⟨w3.heap.size, 0, none⟩) c 2 [0, 1] [0, 1] _ (HI.out.keeps ((Keeps.refl _).alloc _)) (ints_new w3 [0, 1] _ rfl) (by decide) (by decide)).mono ?_
  rintro e w4 ⟨rfl, hk4⟩
  have K4 := Lib.hid (Keeps.trans (K3.out.alloc _) hk4)
  have HA4 := Lib.hid ((HA3.out.keeps ((Keeps.refl _).alloc _)).keeps hk4)
  clear hk4 HA3 HI
  go_wp2_with fail
  refine (cS.out _ HA4.out).mono ?_
  rintro e w5 ⟨⟨v, rfl, ho⟩, hk5⟩
  rw [ex3] at ho
  obtain ⟨A5, c5, rfl, hi, _⟩ := IntsAt.own ho
  have HI := Lib.hid hi
  have K5 := Lib.hid (Keeps.trans K4.out hk5)
  have HA5 := Lib.hid (HA4.out.keeps hk5)
  clear ho hi hk5
  go_wp2_with fail
  refine (cT.out A5 c5 [0, 1] 120 _ HA5.out HI.out (by decide)).mono ?_
  rintro e w6 ⟨⟨v, rfl, ho⟩, hk6⟩
  rw [ex4] at ho
  obtain ⟨A6, c6, rfl, hi, _⟩ := IntsAt.own ho
  have HI6 := Lib.hid hi
  have K6 := Lib.hid (Keeps.trans K5.out hk6)
  clear ho hi hk6
  go_wp2_with fail
  refine (cE.out A6 (some ⟨w6.heap.size, 0, none⟩) c6 3 [0, 1, 2] [0, 1, 2] _ (HI6.out.keeps ((Keeps.refl _).alloc _)) (ints_new w6 [0, 1, 2] _ rfl) (by decide) (by decide)).mono ?_
  rintro e w7 ⟨rfl, hk7⟩
  have K7 := Keeps.trans (K6.out.alloc _) hk7
  clear hk7
  go_wp2
  go_ret
  exact RetQ.of rfl K7
end Go.Proofs.YtmcogncpncfpmaaDoor
