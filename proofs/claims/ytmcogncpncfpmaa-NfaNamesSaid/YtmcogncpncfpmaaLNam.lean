/-
  The walk of the statement on the chapter's example of package nfa.
-/
import Derived.Test.YtmcogncpncfpmaaLiv
import Derived.Test.YtmcogncpncfpmaaRun
namespace Go.Proofs.Ytmcogncpncfpmaa
open Go.RowKit

theorem n1 : checkI [97, 63, 42, 42] = 0 := by decide
theorem n2 : normL [97, 63, 42, 42] = [97, 63, 42] := by decide
theorem n3 : checkI [] = 2 := by decide
theorem n4 : zl (startL [97, 63, 42]) = [0] := by decide
theorem n5 : zl (stepZ [97, 63, 42] true [0] 65) = [1] := by decide
theorem n6 : zl (stepZ [97, 63, 42] true [1] 65) = [2, 3] := by decide
theorem n7 : memZ [9, 3] 3 = true := by decide
theorem n8 : runB [97, 63, 42] true [65, 98, 99] = true := by decide +kernel
theorem n9 : runB [97, 63, 42] true [97] = false := by decide +kernel

theorem new_empty (w : World) : Calls Try.prog 7 #[.string ⟨#[]⟩, .bool false] w (fun e w' => e = .returned (.tuple #[.pointer none, .int .i64 2]) ∧ Keeps w w') := by
  refine (new_any ⟨#[]⟩ false w (by unfold maxLen; decide)).mono ?_
  rintro e w' (⟨h, rfl, hk⟩ | ⟨h, _⟩)
  · exact ⟨rfl, hk⟩
  · exact absurd (h.symm.trans n3) (by decide)

theorem acc_ex (P : Nat) (A : Option Addr) (cp : Nat) (w1 : World) (h1 : NfaAt w1 P [97, 63, 42] true) (h2 : IntsAt w1 A [9, 3]) : Calls Try.prog 14 #[.pointer (some ⟨P, 0, none⟩), .slice A 2 cp] w1 (RetQ true w1) := by
  have h := Accepts_any P [97, 63, 42] true A cp [9, 3] w1 (by decide) h1 h2 (by decide)
  rw [show memZ [9, 3] (List.length [(97 : UInt8), 63, 42]) = true from n7] at h
  exact h
theorem run_ex1 (P : Nat) (w1 : World) (h1 : NfaAt w1 P [97, 63, 42] true) : Calls Try.prog 15 #[.pointer (some ⟨P, 0, none⟩), .string ⟨#[65, 98, 99]⟩] w1 (RetQ true w1) := by
  have h := Run_any P [97, 63, 42] true ⟨#[65, 98, 99]⟩ w1 (by decide) (by unfold maxLen; decide) h1
  have e : runB [97, 63, 42] true (⟨#[65, 98, 99]⟩ : ByteArray).data.toList = true := n8
  rw [e] at h
  exact h
theorem run_ex2 (P : Nat) (w1 : World) (h1 : NfaAt w1 P [97, 63, 42] true) : Calls Try.prog 15 #[.pointer (some ⟨P, 0, none⟩), .string ⟨#[97]⟩] w1 (RetQ false w1) := by
  have h := Run_any P [97, 63, 42] true ⟨#[97]⟩ w1 (by decide) (by unfold maxLen; decide) h1
  have e : runB [97, 63, 42] true (⟨#[97]⟩ : ByteArray).data.toList = false := n9
  rw [e] at h
  exact h

set_option maxHeartbeats 4000000 in
theorem names_any (w : World) : Calls Try.prog 3 #[] w (RetQ true w) := by
  have cL := Lib.hid (fun w => lives_any w)
  have cN := Lib.hid (fun w1 => new_any ⟨#[97, 63, 42, 42]⟩ true w1 (by unfold maxLen; decide))
  have cN2 := Lib.hid (fun w1 => new_empty w1)
  have cE := Lib.hid (fun A B c d xs ys w1 h1 h2 h3 h4 => same_any A B c d xs ys w1 h1 h2 h3 h4)
  go_enter Try.func3, Try.ntmps3
  go_wp2_with fail
  refine (cN.out _).mono ?_
  rintro e w2 (⟨h, _⟩ | ⟨_, P, hP, rfl, hA, hk⟩)
  · exact absurd n1 h
  have hA' : NfaAt w2 P [97, 63, 42] true := hA
  have cS := Lib.hid (fun w1 h => Start_any P [97, 63, 42] true w1 (by decide) h)
  have cT := Lib.hid (fun A cp zs c w1 h1 h2 h3 => Step_any P [97, 63, 42] true A cp zs c w1 (by decide) h1 h2 h3)
  have cA := Lib.hid (fun A cp w1 h1 h2 => acc_ex P A cp w1 h1 h2)
  have cR := Lib.hid (fun w1 h1 => run_ex1 P w1 h1)
  have cR2 := Lib.hid (fun w1 h1 => run_ex2 P w1 h1)
  have cP : Hid (∀ w1, NfaAt w1 P [97, 63, 42] true → Calls Try.prog 9 #[.pointer (some ⟨P, 0, none⟩)] w1 (fun e w' => e = .returned (.tuple #[.string ⟨#[97, 63, 42]⟩, .bool true]) ∧ Keeps w1 w')) := Lib.hid (fun w1 h1 => pattern_any P [97, 63, 42] true w1 h1)
  have cQ : Hid (∀ w1, NfaAt w1 P [97, 63, 42] true → Calls Try.prog 10 #[.pointer (some ⟨P, 0, none⟩)] w1 (fun e w' => e = .returned (.int .i64 4) ∧ w' = w1)) := Lib.hid (fun w1 h1 => states_any P [97, 63, 42] true w1 (by decide) h1)
  have HA := Lib.hid hA'
  clear hA hA'
  go_wp2_with fail
  refine (cN2.out _).mono ?_
  rintro e w3 ⟨rfl, hk3⟩
  have HA3 := Lib.hid (HA.out.keeps hk3)
  have K3 := Lib.hid (Keeps.trans hk hk3)
  clear hk hk3
  go_wp2_with fail
  refine (cL.out _).mono ?_
  rintro e w4 ⟨rfl, hk4⟩
  have HA4 := Lib.hid (HA3.out.keeps hk4)
  have K4 := Lib.hid (Keeps.trans K3.out hk4)
  clear hk4
  go_wp2_with fail
  refine (cP.out _ HA4.out).mono ?_
  rintro e w5 ⟨rfl, hk5⟩
  have HA5 := Lib.hid (HA4.out.keeps hk5)
  have K5 := Lib.hid (Keeps.trans K4.out hk5)
  clear hk5
  go_wp2_with fail
  refine (cQ.out _ HA5.out).mono ?_
  rintro e w6 ⟨rfl, rfl⟩
  go_wp2_with fail
  refine (cS.out _ HA5.out).mono ?_
  rintro e w7 ⟨⟨v, rfl, ho⟩, hk7⟩
  rw [n4] at ho
  obtain ⟨A, c, rfl, hi, _⟩ := IntsAt.own ho
  have HI := Lib.hid hi
  have K7 := Lib.hid (Keeps.trans K5.out hk7)
  have HA7 := Lib.hid (HA5.out.keeps hk7)
  clear ho hi hk7
  go_wp2_with fail
  refine (cE.out A (some ⟨w7.heap.size, 0, none⟩) c 1 [0] [0] _ (HI.out.keeps ((Keeps.refl _).alloc _)) (ints_new w7 [0] _ rfl) (by decide) (by decide)).mono ?_
  rintro e w8 ⟨rfl, hk8⟩
  have K8 := Lib.hid (Keeps.trans (K7.out.alloc _) hk8)
  have HA8 := Lib.hid ((HA7.out.keeps ((Keeps.refl _).alloc _)).keeps hk8)
  clear hk8 HA7 HI
  go_wp2_with fail
  refine (cT.out (some ⟨w8.heap.size, 0, none⟩) 1 [0] 65 _ (HA8.out.keeps ((Keeps.refl _).alloc _)) (ints_new w8 [0] _ rfl) (by decide)).mono ?_
  rintro e w9 ⟨⟨v, rfl, ho⟩, hk9⟩
  rw [n5] at ho
  obtain ⟨A9, c9, rfl, hi, _⟩ := IntsAt.own ho
  have HI := Lib.hid hi
  have K9 := Lib.hid (Keeps.trans (K8.out.alloc _) hk9)
  have HA9 := Lib.hid ((HA8.out.keeps ((Keeps.refl _).alloc _)).keeps hk9)
  clear ho hi hk9 HA8
  go_wp2_with fail
  refine (cE.out A9 (some ⟨w9.heap.size, 0, none⟩) c9 1 [1] [1] _ (HI.out.keeps ((Keeps.refl _).alloc _)) (ints_new w9 [1] _ rfl) (by decide) (by decide)).mono ?_
  rintro e w10 ⟨rfl, hk10⟩
  have K10 := Lib.hid (Keeps.trans (K9.out.alloc _) hk10)
  have HA10 := Lib.hid ((HA9.out.keeps ((Keeps.refl _).alloc _)).keeps hk10)
  clear hk10 HA9 HI
  go_wp2_with fail
  refine (cT.out (some ⟨w10.heap.size, 0, none⟩) 1 [1] 65 _ (HA10.out.keeps ((Keeps.refl _).alloc _)) (ints_new w10 [1] _ rfl) (by decide)).mono ?_
  rintro e w11 ⟨⟨v, rfl, ho⟩, hk11⟩
  rw [n6] at ho
  obtain ⟨A11, c11, rfl, hi, _⟩ := IntsAt.own ho
  have HI := Lib.hid hi
  have K11 := Lib.hid (Keeps.trans (K10.out.alloc _) hk11)
  have HA11 := Lib.hid ((HA10.out.keeps ((Keeps.refl _).alloc _)).keeps hk11)
  clear ho hi hk11 HA10
  go_wp2_with fail
  refine (cE.out A11 (some ⟨w11.heap.size, 0, none⟩) c11 2 [2, 3] [2, 3] _ (HI.out.keeps ((Keeps.refl _).alloc _)) (ints_new w11 [2, 3] _ rfl) (by decide) (by decide)).mono ?_
  rintro e w12 ⟨rfl, hk12⟩
  have K12 := Lib.hid (Keeps.trans (K11.out.alloc _) hk12)
  have HA12 := Lib.hid ((HA11.out.keeps ((Keeps.refl _).alloc _)).keeps hk12)
  clear hk12 HA11 HI
  go_wp2_with fail
  refine (cA.out (some ⟨w12.heap.size, 0, none⟩) 2 _ (HA12.out.keeps ((Keeps.refl _).alloc _)) (ints_new w12 [9, 3] _ rfl)).mono ?_
  rintro e w13 ⟨rfl, hk13⟩
  have K13 := Lib.hid (Keeps.trans (K12.out.alloc _) hk13)
  have HA13 := Lib.hid ((HA12.out.keeps ((Keeps.refl _).alloc _)).keeps hk13)
  clear hk13 HA12
  go_wp2_with fail
  refine (cR.out _ HA13.out).mono ?_
  rintro e w14 ⟨rfl, hk14⟩
  have K14 := Lib.hid (Keeps.trans K13.out hk14)
  have HA14 := Lib.hid (HA13.out.keeps hk14)
  clear hk14 HA13
  go_wp2_with fail
  refine (cR2.out _ HA14.out).mono ?_
  rintro e w15 ⟨rfl, hk15⟩
  have K15 := Keeps.trans K14.out hk15
  clear hk15
  go_wp2
  go_ret
  exact RetQ.of (by simp) K15
end Go.Proofs.Ytmcogncpncfpmaa
