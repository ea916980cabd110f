/-
  The document's own Take, fixed, Number, digits and Digits of records.
-/
import Derived.Test.YtepbbdeolplhfaaDoorLin
import Derived.Test.YtepbbdeolplhfaaDoorMat
import Derived.Deep.QuietTactic
namespace Go.Proofs.YtepbbdeolplhfaaDoor
open Go.RowKit

set_option maxHeartbeats 1000000 in
theorem rtake_short (s : ByteArray) (w : World) (h : s.size ≤ 4096) : Calls Tryd.prog 17 #[.string s] w (fun e w' => e = .returned (inV 1 0 0 false s) ∧ Keeps w w') := by
  go_enter Tryd.func17, Tryd.ntmps17
  go_wp2
  exact bodyPost_ret (v := inV 1 0 0 false s) (by simp [results, Tryd.results17, go_sem, inV]) rfl ⟨rfl, by repeat (first | exact Keeps.refl _ | refine Keeps.alloc ?_ _)⟩
set_option maxHeartbeats 1000000 in
theorem rtake_long (s : ByteArray) (w : World) (h : 4096 < s.size) (hm : s.size ≤ 100000) : Calls Tryd.prog 17 #[.string s] w (fun e w' => e = .returned (inV 2 0 s.size false ⟨#[]⟩) ∧ Keeps w w') := by
  go_enter Tryd.func17, Tryd.ntmps17
  go_wp2
  exact bodyPost_ret (v := inV 2 0 s.size false ⟨#[]⟩) (by simp [results, Tryd.results17, go_sem, inV]) rfl ⟨rfl, by repeat (first | exact Keeps.refl _ | refine Keeps.alloc ?_ _)⟩

/-- How many bytes there are behind the kind; how many just so. -/
def fixN (k : Int) : Nat := if k = 2 ∨ k = 4 then 8 else if k = 3 then 9 else if k = 5 then 1 else 0
def fixB (k : Int) : Bool := decide (k = 2 ∨ k = 4 ∨ k = 3 ∨ k = 6)
set_option maxHeartbeats 1000000 in
theorem fixed_any (k : Int) (w : World) (h : 1 ≤ k) (h' : k ≤ 6) : Calls Tryd.prog 27 #[.int .i64 k] w (fun e w' => e = .returned (.tuple #[.int .i64 (fixN k : Int), .bool (fixB k)]) ∧ w' = w) := by
  rcases (show k = 1 ∨ k = 2 ∨ k = 3 ∨ k = 4 ∨ k = 5 ∨ k = 6 by omega) with rfl | rfl | rfl | rfl | rfl | rfl
  all_goals
    go_enter Tryd.func27, Tryd.ntmps27
    go_wp2
    go_ret2
    exact ⟨rfl, rfl⟩

set_option maxHeartbeats 2000000 in
theorem rnumber_any (t : List UInt8) (w : World) (hl : t.length = 8) : Calls Tryd.prog 28 #[.string (S t)] w (fun e w' => e = .returned (.int .u64 (val t : Nat)) ∧ w' = w) := by
  have hsz : (S t).size = 8 := hl
  have HL := Lib.hid hl
  have hat : ∀ j (h : j < (S t).size), (S t)[j] = t.getD j 0 := fun j h => by
    have hj : j < t.length := by rw [S_size] at h; exact h
    show (S t).data[j] = _
    simp [S, hj]
  have HAT := Lib.hid hat
  clear hat hl
  generalize S t = s at hsz HAT
  go_enter Tryd.func28, Tryd.ntmps28
  go_wp2
  go_loop [3, 4] (fun n x => ∃ j : Nat, j ≤ 8 ∧ x = .int .i64 j ∧ n = .int .u64 (val (t.take j) : Nat)) (fun _ x => 8 - (intOf x).toNat)
  case atStart => exact ⟨0, by omega, rfl, rfl⟩
  case round =>
    obtain ⟨j, hj, rfl, rfl⟩ := hrel
    by_cases hlt : j < 8
    · have hvt := Lib.hid (val_take t j (by rw [HL.out]; exact hlt))
      have hjs : j < s.size := by omega
      have hg := HAT.out j hjs
      have hvb : val (t.take j) < 72057594037927936 := by
        have h1 := val_bound (t.take j)
        have h2 : (t.take j).length ≤ 7 := by rw [List.length_take]; omega
        have h3 : 256 ^ (t.take j).length ≤ 256 ^ 7 := Nat.pow_le_pow_right (by decide) h2
        have h4 : (256 : Nat) ^ 7 = 72057594037927936 := by decide
        omega
      generalize hv : val (t.take j) = v at hvt hvb
      generalize hcc : t.getD j 0 = c at hg hvt
      have hcb := c.toNat_lt
      have ho := Lib.hid (or_add v c hvb)
      have HG := Lib.hid hg
      have hcw := Lib.hid (IntWalk.u64_in (c.toNat : Int) (by omega))
      clear hcc hv hg
      go_wp2
      go_round
      case rel => exact ⟨j + 1, by omega, by go_num, by rw [HG.out, hcw.out, ho.out, hvt.out]⟩
      case measure => simp [intOf]; omega
    · obtain rfl : j = 8 := by omega
      have e : t.take 8 = t := List.take_of_length_le (by rw [HL.out]; exact Nat.le_refl _)
      rw [e]
      go_wp2
      go_ret
      exact ⟨rfl, rfl⟩

theorem quiet_add_s {P : Program} {f : FuncId} {args : Array Value} {w : World} {n : Nat} {v : Value}
    (h : Calls P f args (w.drewN n) fun e w' => e = .returned v ∧ ∃ m, w' = (w.drewN n).drewN m) : Calls P f args (w.drewN n) fun e w'' => e = .returned v ∧ ∃ m, w'' = w.drewN m := Calls.quiet_of h

def dig10 : ByteArray := ⟨#[48, 49, 50, 51, 52, 53, 54, 55, 56, 57]⟩
theorem digit_cut (d : Nat) (h : d < 10) (w : World) : (Instr.slice 9 (.string ⟨#[48, 49, 50, 51, 52, 53, 54, 55, 56, 57]⟩) (some (.int .u64 (d : Int))) (some (.int .u64 ((d : Int) + 1))) none).run Tryd.prog w = .ok (.string (S [UInt8.ofNat (48 + d)])) w := by
  rcases (show d = 0 ∨ d = 1 ∨ d = 2 ∨ d = 3 ∨ d = 4 ∨ d = 5 ∨ d = 6 ∨ d = 7 ∨ d = 8 ∨ d = 9 by omega) with rfl | rfl | rfl | rfl | rfl | rfl | rfl | rfl | rfl | rfl
  all_goals kernel_rfl

def Dig (u : Nat) (w : World) (e : Ending) (w' : World) : Prop := e = .returned (.string (S (Lib.decDigits u))) ∧ ∃ m, w' = w.drewN m
set_option maxHeartbeats 4000000 in
theorem digits_any : ∀ (u : Nat), u < 18446744073709551616 → ∀ w : World, Calls Tryd.prog 35 #[.int .u64 (u : Int)] w (Dig u w) := by
  intro u
  induction u using Nat.strongRecOn with
  | _ u ih =>
    intro hu w
    by_cases h : u < 10
    · have hd : Hid (Lib.decDigits u = [UInt8.ofNat (48 + u)]) := Lib.hid (by rw [Lib.decDigits, dif_pos h])
      have hc := digit_cut u h
      have hw : IntKind.u64.wrap ((u : Int) + 1) = (u : Int) + 1 := IntWalk.u64_in _ (by omega)
      generalize UInt8.ofNat (48 + u) = c at hd hc
      go_enter Tryd.func35, Tryd.ntmps35
      go_wp2
      go_ret
      exact ⟨by rw [hd.out]; rfl, 0, rfl⟩
    · obtain ⟨q, hq⟩ : ∃ q, u / 10 = q := ⟨_, rfl⟩
      obtain ⟨d, hd⟩ : ∃ d, u % 10 = d := ⟨_, rfl⟩
      have hdd : d < 10 := by omega
      have hqu : q < u := by omega
      have HD : Hid (Lib.decDigits u = Lib.decDigits q ++ [UInt8.ofNat (48 + d)]) := Lib.hid (by rw [Lib.decDigits, dif_neg h, hq, hd])
      have hc := digit_cut d hdd
      have cQ : Hid (∀ w1 : World, Calls Tryd.prog 35 #[.int .u64 (q : Int)] w1 (fun e w' => e = .returned (.string (S (Lib.decDigits q))) ∧ ∃ m, w' = w1.drewN m)) := Lib.hid (fun w1 => ih q hqu (by omega) w1)
      have hz : (S (Lib.decDigits q)).size ≤ 20 := by rw [S_size, Lib.decDigits_length]; exact Lib.nDigits_le20 q (by omega)
      have hz1 : (S [UInt8.ofNat (48 + d)]).size = 1 := rfl
      have HE : Hid (S (Lib.decDigits q) ++ S [UInt8.ofNat (48 + d)] = S (Lib.decDigits u)) := Lib.hid (by rw [S_app, HD.out])
      have h1 : (u : Int).tdiv 10 = (q : Int) := by rw [Int.tdiv_eq_ediv_of_nonneg (by omega)]; omega
      have h2 : (u : Int).tmod 10 = (d : Int) := by rw [Int.tmod_eq_emod_of_nonneg (by omega)]; omega
      have h1' : (u : Int) / 10 = (q : Int) := by omega
      have h2' : (u : Int) % 10 = (d : Int) := by omega
      have h3 : IntKind.u64.wrap (q : Int) = (q : Int) := IntWalk.u64_in _ (by omega)
      have h4 : IntKind.u64.wrap (d : Int) = (d : Int) := IntWalk.u64_in _ (by omega)
      have h5 : IntKind.u64.wrap ((d : Int) + 1) = (d : Int) + 1 := IntWalk.u64_in _ (by omega)
      have h6 : ¬ (u : Int) < 10 := by omega
      unfold Dig
      clear ih hq hd HD hqu h
      generalize S (Lib.decDigits q) = s at cQ hz HE
      generalize S [UInt8.ofNat (48 + d)] = c1 at hc hz1 HE
      generalize S (Lib.decDigits u) = r at HE ⊢
      go_enter Tryd.func35, Tryd.ntmps35
      go_wp2
      go_quiet ((go_at_call 35; exact Calls.quiet_of (cQ.out _)))
      go_wp2
      go_ret
      exact ⟨by rw [← HE.out]; rfl, _, rfl⟩

set_option maxHeartbeats 1000000 in
theorem rdigits_any (n : Int) (h0 : -9223372036854775808 ≤ n) (h1 : n ≤ 9223372036854775807) (w : World) : Calls Tryd.prog 29 #[.int .i64 n] w (fun e w' => e = .returned (.string (S (Lib.itoa n))) ∧ Keeps w w') := by
  by_cases hn : n < 0
  · obtain ⟨u, hu⟩ : ∃ u : Nat, n = -(u : Int) := ⟨n.natAbs, by omega⟩
    have hi : Hid (S (Lib.itoa n) = S [45] ++ S (Lib.decDigits u)) := Lib.hid (by
      rw [S_app]; unfold Lib.itoa; rw [if_pos hn]
      rw [show n.natAbs = u by omega]; rfl)
    have cD := Lib.hid (fun w1 => digits_any u (by omega) w1)
    unfold Dig at cD
    have hz : (S (Lib.decDigits u)).size ≤ 20 := by rw [S_size, Lib.decDigits_length]; exact Lib.nDigits_le20 u (by omega)
    have e1 : IntKind.u64.wrap n = 18446744073709551616 - (u : Int) := by rw [IntKind.wrap_u64]; omega
    have e2 : IntKind.u64.wrap (-(18446744073709551616 - (u : Int))) = (u : Int) := by rw [IntKind.wrap_u64]; omega
    have e3 : IntKind.u64.wrap (-(IntKind.u64.wrap n)) = (u : Int) := by rw [e1]; exact e2
    have z1 : (⟨#[45]⟩ : ByteArray).size = 1 := rfl
    clear e1 e2 hu
    generalize S (Lib.decDigits u) = s at cD hz hi
    generalize S (Lib.itoa n) = r at hi ⊢
    go_enter Tryd.func29, Tryd.ntmps29
    go_wp2_with fail
    refine (cD.out _).mono ?_
    rintro e w' ⟨rfl, m, rfl⟩
    go_wp2
    go_ret
    exact ⟨by rw [hi.out]; rfl, (Keeps.refl _).drewN _⟩
  · obtain ⟨u, hu⟩ : ∃ u : Nat, n = (u : Int) := ⟨n.toNat, by omega⟩
    subst hu
    have hi : Hid (S (Lib.itoa (u : Int)) = S (Lib.decDigits u)) := Lib.hid (by
      unfold Lib.itoa; rw [if_neg hn]; rfl)
    have cD := Lib.hid (fun w1 => digits_any u (by omega) w1)
    unfold Dig at cD
    have e1 : IntKind.u64.wrap (u : Int) = (u : Int) := IntWalk.u64_in _ (by omega)
    have e2 : ¬ (u : Int) < 0 := by omega
    clear hn
    generalize S (Lib.decDigits u) = s at cD hi
    generalize S (Lib.itoa (u : Int)) = r at hi ⊢
    go_enter Tryd.func29, Tryd.ntmps29
    go_wp2_with fail
    refine (cD.out _).mono ?_
    rintro e w' ⟨rfl, m, rfl⟩
    go_wp2
    go_ret
    exact ⟨by rw [hi.out]; rfl, (Keeps.refl _).drewN _⟩
end Go.Proofs.YtepbbdeolplhfaaDoor
