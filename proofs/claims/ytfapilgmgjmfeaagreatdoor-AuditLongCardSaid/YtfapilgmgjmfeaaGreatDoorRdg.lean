/-
  The document's own digits.
-/
import Derived.Test.YtfapilgmgjmfeaaGreatDoorTxt
import Derived.Deep.QuietTactic
import Derived.IntWalk
namespace Go.Proofs.YtfapilgmgjmfeaaGreatDoor
open Go.RowKit

theorem S_app (a b : List UInt8) : S (a ++ b) = S a ++ S b := by
  apply ByteArray.ext
  rw [ByteArray.data_append]
  simp [S]
theorem quiet_add_s {P : Program} {f : FuncId} {args : Array Value} {w : World} {n : Nat} {v : Value}
    (h : Calls P f args (w.drewN n) fun e w' => e = .returned v ∧ ∃ m, w' = (w.drewN n).drewN m) : Calls P f args (w.drewN n) fun e w'' => e = .returned v ∧ ∃ m, w'' = w.drewN m := Calls.quiet_of h

def dig10 : ByteArray := ⟨#[48, 49, 50, 51, 52, 53, 54, 55, 56, 57]⟩
theorem digit_cut (d : Nat) (h : d < 10) (w : World) : (Instr.slice 9 (.string ⟨#[48, 49, 50, 51, 52, 53, 54, 55, 56, 57]⟩) (some (.int .u64 (d : Int))) (some (.int .u64 ((d : Int) + 1))) none).run Tryz.prog w = .ok (.string (S [UInt8.ofNat (48 + d)])) w := by
  rcases (show d = 0 ∨ d = 1 ∨ d = 2 ∨ d = 3 ∨ d = 4 ∨ d = 5 ∨ d = 6 ∨ d = 7 ∨ d = 8 ∨ d = 9 by omega) with rfl | rfl | rfl | rfl | rfl | rfl | rfl | rfl | rfl | rfl
  all_goals kernel_rfl

def Dig (u : Nat) (w : World) (e : Ending) (w' : World) : Prop := e = .returned (.string (S (Lib.decDigits u))) ∧ ∃ m, w' = w.drewN m
set_option maxHeartbeats 4000000 in
theorem digits_any : ∀ (u : Nat), u < 18446744073709551616 → ∀ w : World, Calls Tryz.prog 57 #[.int .u64 (u : Int)] w (Dig u w) := by
  intro u
  induction u using Nat.strongRecOn with
  | _ u ih =>
    intro hu w
    by_cases h : u < 10
    · have hd : Hid (Lib.decDigits u = [UInt8.ofNat (48 + u)]) := Lib.hid (by rw [Lib.decDigits, dif_pos h])
      have hc := digit_cut u h
      have hw : IntKind.u64.wrap ((u : Int) + 1) = (u : Int) + 1 := IntWalk.u64_in _ (by omega)
      generalize UInt8.ofNat (48 + u) = c at hd hc
      go_enter Tryz.func57, Tryz.ntmps57
      go_wp2
      go_ret
      exact ⟨by rw [hd.out]; rfl, 0, rfl⟩
    · obtain ⟨q, hq⟩ : ∃ q, u / 10 = q := ⟨_, rfl⟩
      obtain ⟨d, hd⟩ : ∃ d, u % 10 = d := ⟨_, rfl⟩
      have hdd : d < 10 := by omega
      have hqu : q < u := by omega
      have HD : Hid (Lib.decDigits u = Lib.decDigits q ++ [UInt8.ofNat (48 + d)]) := Lib.hid (by rw [Lib.decDigits, dif_neg h, hq, hd])
      have hc := digit_cut d hdd
      have cQ : Hid (∀ w1 : World, Calls Tryz.prog 57 #[.int .u64 (q : Int)] w1 (fun e w' => e = .returned (.string (S (Lib.decDigits q))) ∧ ∃ m, w' = w1.drewN m)) := Lib.hid (fun w1 => ih q hqu (by omega) w1)
      have hz : (S (Lib.decDigits q)).size ≤ 20 := by rw [S_size]; exact dec_len q 20 (by omega) (by omega)
      have hz1 : (S [UInt8.ofNat (48 + d)]).size = 1 := rfl
      have HE : Hid (S (Lib.decDigits q) ++ S [UInt8.ofNat (48 + d)] = S (Lib.decDigits u)) := Lib.hid (by rw [← S_app, HD.out])
      have h1 : (u : Int).tdiv 10 = (q : Int) := by rw [Int.tdiv_eq_ediv_of_nonneg (by omega)]; omega
      have h2 : (u : Int).tmod 10 = (d : Int) := by rw [Int.tmod_eq_emod_of_nonneg (by omega)]; omega
      have h1' : (u : Int) / 10 = (q : Int) := by omega
      have h2' : (u : Int) % 10 = (d : Int) := by omega
      have h3 : IntKind.u64.wrap (q : Int) = (q : Int) := IntWalk.u64_in _ (by omega)
      have h4 : IntKind.u64.wrap (d : Int) = (d : Int) := IntWalk.u64_in _ (by omega)
      have h5 : IntKind.u64.wrap ((d : Int) + 1) = (d : Int) + 1 := IntWalk.u64_in _ (by omega)
      have h6 : ¬ (u : Int) < 10 := by omega
      unfold Dig
      clear ih hq hd HD hqu h
      generalize S (Lib.decDigits q) = s at cQ hz HE
      generalize S [UInt8.ofNat (48 + d)] = c1 at hc hz1 HE
      generalize S (Lib.decDigits u) = r at HE ⊢
      go_enter Tryz.func57, Tryz.ntmps57
      go_wp2
      go_quiet ((go_at_call 57; exact Calls.quiet_of (cQ.out _)))
      go_wp2
      go_ret
      exact ⟨by rw [← HE.out]; rfl, _, rfl⟩

set_option maxHeartbeats 1000000 in
theorem rdigits_any (n : Int) (h0 : -9223372036854775808 ≤ n) (h1 : n ≤ 9223372036854775807) (w : World) : Calls Tryz.prog 33 #[.int .i64 n] w (fun e w' => e = .returned (.string (S (Lib.itoa n))) ∧ Keeps w w') := by
  by_cases hn : n < 0
  · obtain ⟨u, hu⟩ : ∃ u : Nat, n = -(u : Int) := ⟨n.natAbs, by omega⟩
    have hi : Hid (S (Lib.itoa n) = S [45] ++ S (Lib.decDigits u)) := Lib.hid (by
      rw [← S_app]; unfold Lib.itoa; rw [if_pos hn]
      rw [show n.natAbs = u by omega]; rfl)
    have cD := Lib.hid (fun w1 => digits_any u (by omega) w1)
    unfold Dig at cD
    have hz : (S (Lib.decDigits u)).size ≤ 20 := by rw [S_size]; exact dec_len u 20 (by omega) (by omega)
    have e1 : IntKind.u64.wrap n = 18446744073709551616 - (u : Int) := by rw [IntKind.wrap_u64]; omega
    have e2 : IntKind.u64.wrap (-(18446744073709551616 - (u : Int))) = (u : Int) := by rw [IntKind.wrap_u64]; omega
    have e3 : IntKind.u64.wrap (-(IntKind.u64.wrap n)) = (u : Int) := by rw [e1]; exact e2
    have z1 : (⟨#[45]⟩ : ByteArray).size = 1 := rfl
    clear e1 e2 hu
    generalize S (Lib.decDigits u) = s at cD hz hi
    generalize S (Lib.itoa n) = r at hi ⊢
    go_enter Tryz.func33, Tryz.ntmps33
    go_wp2_with fail
    refine (cD.out _).mono ?_
    rintro e w' ⟨rfl, m, rfl⟩
    go_wp2
    go_ret
    exact ⟨by rw [hi.out]; rfl, (Keeps.refl _).drewN _⟩
  · obtain ⟨u, hu⟩ : ∃ u : Nat, n = (u : Int) := ⟨n.toNat, by omega⟩
    subst hu
    have hi : Hid (S (Lib.itoa (u : Int)) = S (Lib.decDigits u)) := Lib.hid (by
      unfold Lib.itoa; rw [if_neg hn]; rfl)
    have cD := Lib.hid (fun w1 => digits_any u (by omega) w1)
    unfold Dig at cD
    have e1 : IntKind.u64.wrap (u : Int) = (u : Int) := IntWalk.u64_in _ (by omega)
    have e2 : ¬ (u : Int) < 0 := by omega
    clear hn
    generalize S (Lib.decDigits u) = s at cD hi
    generalize S (Lib.itoa (u : Int)) = r at hi ⊢
    go_enter Tryz.func33, Tryz.ntmps33
    go_wp2_with fail
    refine (cD.out _).mono ?_
    rintro e w' ⟨rfl, m, rfl⟩
    go_wp2
    go_ret
    exact ⟨by rw [hi.out]; rfl, (Keeps.refl _).drewN _⟩
end Go.Proofs.YtfapilgmgjmfeaaGreatDoor
