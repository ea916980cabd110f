/-
  The document's own Word, Digits and Number of package scan.
-/
import Derived.Test.YtbhgfdgdbbfeoaaDoorRfe
import Derived.Test.YtbhgfdgdbbfeoaaDoorNup
import Derived.Deep.QuietTactic
import Derived.BigQuiet
import Derived.IntWalk
namespace Go.Proofs.YtbhgfdgdbbfeoaaDoor
open Go.RowKit

theorem rword_any (s : ByteArray) (w : World) : Calls Tryd.prog 22 #[.string s] w (Ret (.string (S (wordL s.data.toList))) w) := by
  have p0 := pre_cases s ⟨#[116, 114, 117, 101]⟩
  have p1 := pre_cases s ⟨#[102, 97, 108, 115, 101]⟩
  have p2 := pre_cases s ⟨#[110, 117, 108, 108]⟩
  have e0 : (⟨#[116, 114, 117, 101]⟩ : ByteArray).data.toList = [116, 114, 117, 101] := rfl
  have e1 : (⟨#[102, 97, 108, 115, 101]⟩ : ByteArray).data.toList = [102, 97, 108, 115, 101] := rfl
  have e2 : (⟨#[110, 117, 108, 108]⟩ : ByteArray).data.toList = [110, 117, 108, 108] := rfl
  have z0 : (⟨#[116, 114, 117, 101]⟩ : ByteArray).size = 4 := rfl
  have z1 : (⟨#[102, 97, 108, 115, 101]⟩ : ByteArray).size = 5 := rfl
  have z2 : (⟨#[110, 117, 108, 108]⟩ : ByteArray).size = 4 := rfl
  rw [e0, z0] at p0
  rw [e1, z1] at p1
  rw [e2, z2] at p2
  unfold wordL
  rcases p0 with ⟨h0, a0, b0⟩ | ⟨h0, a0⟩ | ⟨h0, a0, b0⟩
  · rw [if_pos h0]; exact rword_T s w a0 b0
  · rw [if_neg (by rw [h0]; decide)]
    rcases p1 with ⟨h1, a1, b1⟩ | ⟨h1, a1⟩ | ⟨h1, a1, b1⟩
    · omega
    · rw [if_neg (by rw [h1]; decide)]
      rcases p2 with ⟨h2, a2, b2⟩ | ⟨h2, a2⟩ | ⟨h2, a2, b2⟩
      · omega
      · rw [if_neg (by rw [h2]; decide)]; exact rword_SSS s w a0 a1 a2
      · omega
    · omega
  · rw [if_neg (by rw [h0]; decide)]
    rcases p1 with ⟨h1, a1, b1⟩ | ⟨h1, a1⟩ | ⟨h1, a1, b1⟩
    · rw [if_pos h1]; exact rword_MT s w a0 b0 a1 b1
    · rw [if_neg (by rw [h1]; decide)]
      rcases p2 with ⟨h2, a2, b2⟩ | ⟨h2, a2⟩ | ⟨h2, a2, b2⟩
      · rw [if_pos h2]; exact rword_MST s w a0 b0 a1 a2 b2
      · omega
      · rw [if_neg (by rw [h2]; decide)]; exact rword_MSM s w a0 b0 a1 a2 b2
    · rw [if_neg (by rw [h1]; decide)]
      rcases p2 with ⟨h2, a2, b2⟩ | ⟨h2, a2⟩ | ⟨h2, a2, b2⟩
      · rw [if_pos h2]; exact rword_MMT s w a0 b0 a1 b1 a2 b2
      · omega
      · rw [if_neg (by rw [h2]; decide)]; exact rword_MMM s w a0 b0 a1 b1 a2 b2

def tens : ByteArray := ⟨#[48, 49, 50, 51, 52, 53, 54, 55, 56, 57]⟩
theorem dig_ext (n : Nat) (h : n < 10) : (⟨#[48, 49, 50, 51, 52, 53, 54, 55, 56, 57]⟩ : ByteArray).extract n (n + 1) = S [UInt8.ofNat (48 + n)] := by
  have : n = 0 ∨ n = 1 ∨ n = 2 ∨ n = 3 ∨ n = 4 ∨ n = 5 ∨ n = 6 ∨ n = 7 ∨ n = 8 ∨ n = 9 := by omega
  rcases this with rfl | rfl | rfl | rfl | rfl | rfl | rfl | rfl | rfl | rfl <;> decide
theorem rdig_app (a b : List UInt8) : S a ++ S b = S (a ++ b) := by
  have h : (S a ++ S b).data.toList = a ++ b := by rw [ByteArray.toList_data_append]; rfl
  have e : ∀ x : ByteArray, x = S x.data.toList := fun _ => rfl
  rw [e (S a ++ S b), h]
theorem ret_s {x y : ByteArray} (h : x = y) : Ending.returned (.string x) = .returned (.string y) := by rw [h]

set_option maxHeartbeats 2000000 in
set_option maxRecDepth 100000 in
theorem rdig_one (n : Nat) (w : World) (h : n < 10) : Calls Tryd.prog 40 #[.int .i64 (n : Int)] w (fun e w' => e = .returned (.string (S (Lib.decDigits n))) ∧ ∃ k, w' = w.drewN k) := by
  have hx := Lib.hid ((congrArg S (Lib.decDigits_one h)).trans (dig_ext n h).symm)
  have f0 : decide ((n : Int) < 10) = true := by simp; omega
  have b0 : (0 : Int) ≤ (n : Int) := by omega
  have b1 : (n : Int) + 1 ≤ 10 := by omega
  have b2 : (n : Int) ≤ (n : Int) + 1 := by omega
  have b3 : ((n : Int) + 1).toNat = n + 1 := by omega
  clear h
  go_enter Tryd.func40, Tryd.ntmps40
  go_wp2
  go_ret
  exact ⟨ret_s hx.out.symm, 0, rfl⟩

set_option maxHeartbeats 4000000 in
set_option maxRecDepth 100000 in
theorem rdig_more (n : Nat) (w : World) (h : 10 ≤ n) (hn : n ≤ 9007199254740991) (ih : ∀ w, Calls Tryd.prog 40 #[.int .i64 ((n / 10 : Nat) : Int)] w (fun e w' => e = .returned (.string (S (Lib.decDigits (n / 10)))) ∧ ∃ k, w' = w.drewN k)) : Calls Tryd.prog 40 #[.int .i64 (n : Int)] w (fun e w' => e = .returned (.string (S (Lib.decDigits n))) ∧ ∃ k, w' = w.drewN k) := by
  have hx : S (Lib.decDigits n) = S (Lib.decDigits (n / 10)) ++ (⟨#[48, 49, 50, 51, 52, 53, 54, 55, 56, 57]⟩ : ByteArray).extract (n % 10) (n % 10 + 1) := by
    rw [dig_ext _ (by omega), rdig_app, Lib.decDigits, dif_neg (by omega)]
  have HX := Lib.hid hx
  have hz : (S (Lib.decDigits (n / 10))).size ≤ 20 := by
    rw [S_size]; exact dec_len _ _ (by omega) (by omega)
  have f0 : decide ((n : Int) < 10) = false := by simp; omega
  have IH := Lib.hid ih
  have t0 : Int.tdiv (n : Int) 10 = ((n / 10 : Nat) : Int) := by rw [Int.tdiv_eq_ediv_of_nonneg (by omega)]; omega
  have t1 : Int.tmod (n : Int) 10 = ((n % 10 : Nat) : Int) := by rw [Int.tmod_eq_emod_of_nonneg (by omega)]; omega
  have t2 : (n : Int) / 10 = ((n / 10 : Nat) : Int) := by omega
  have t3 : (n : Int) % 10 = ((n % 10 : Nat) : Int) := by omega
  have t4 : IntKind.i64.wrap ((n / 10 : Nat) : Int) = ((n / 10 : Nat) : Int) := IntWalk.i64_in _ (by omega)
  have t5 : IntKind.i64.wrap ((n % 10 : Nat) : Int) = ((n % 10 : Nat) : Int) := IntWalk.i64_in _ (by omega)
  generalize n / 10 = q at *
  have r0 : n % 10 < 10 := by omega
  generalize n % 10 = r at *
  generalize S (Lib.decDigits q) = R at *
  have b0 : (0 : Int) ≤ (r : Int) := by omega
  have b1 : (r : Int) + 1 ≤ 10 := by omega
  have b2 : (r : Int) ≤ (r : Int) + 1 := by omega
  have b3 : ((r : Int) + 1).toNat = r + 1 := by omega
  have b4 : IntKind.i64.wrap ((r : Int) + 1) = (r : Int) + 1 := IntWalk.i64_in _ (by omega)
  clear h hn hx ih
  go_enter Tryd.func40, Tryd.ntmps40
  go_wp2
  go_quiet ((go_at_call 40; exact Calls.quiet_of (IH.out _)))
  go_wp2
  go_ret
  exact ⟨ret_s HX.out.symm, _, rfl⟩

theorem rdig_any : ∀ (n : Nat) (_ : n ≤ 9007199254740991) (w : World), Calls Tryd.prog 40 #[.int .i64 (n : Int)] w (fun e w' => e = .returned (.string (S (Lib.decDigits n))) ∧ ∃ k, w' = w.drewN k) := by
  intro n
  induction n using Nat.strongRecOn with
  | ind n ih =>
    intro hn w
    by_cases h : n < 10
    · exact rdig_one n w h
    · exact rdig_more n w (by omega) hn (ih (n / 10) (by omega) (by omega))

set_option maxHeartbeats 2000000 in
theorem rnum_any (n : Int) (w : World) : Calls Tryd.prog 20 #[.int .i64 n] w (RetT (numR n) w) := by
  have hr1 : n < -9007199254740991 → numR n = ([], 2) := fun h => if_pos (.inl h)
  have hr2 : 9007199254740991 < n → numR n = ([], 2) := fun h => if_pos (.inr h)
  have hr3 : ¬ n < -9007199254740991 → ¬ 9007199254740991 < n → numR n = (Lib.itoa n, 0) := fun h h' => if_neg (by omega)
  by_cases g1 : n < -9007199254740991
  · rw [hr1 g1]
    have d1 : decide (n < -9007199254740991) = true := by simp; omega
    clear g1 hr1 hr2 hr3
    go_enter Tryd.func20, Tryd.ntmps20
    go_wp2
    go_ret2
    exact RetT.of rfl rfl (Keeps.refl _)
  have d1 : decide (n < -9007199254740991) = false := by simp; omega
  by_cases g2 : 9007199254740991 < n
  · rw [hr2 g2]
    have d2 : decide ((9007199254740991 : Int) < n) = true := by simp; omega
    clear g1 g2 hr1 hr2 hr3
    go_enter Tryd.func20, Tryd.ntmps20
    go_wp2
    go_ret2
    exact RetT.of rfl rfl (Keeps.refl _)
  have d2 : decide ((9007199254740991 : Int) < n) = false := by simp; omega
  rw [hr3 g1 g2]
  clear hr1 hr2 hr3
  obtain ⟨k, hk, hkn⟩ : ∃ k : Nat, (n = (k : Int) ∨ (n = -(k : Int) ∧ 1 ≤ k)) ∧ k ≤ 9007199254740991 := ⟨n.natAbs, by omega, by omega⟩
  have cD := Lib.hid (rdig_any k hkn)
  have hz : (S (Lib.decDigits k)).size ≤ 20 := by
    rw [S_size]; exact dec_len _ _ (by omega) (by omega)
  rcases hk with rfl | ⟨rfl, h1⟩
  · have HX : Hid (S (Lib.itoa (k : Int)) = S (Lib.decDigits k)) := Lib.hid (by rw [Lib.itoa_nonneg])
    generalize S (Lib.decDigits k) = R at *
    have d3 : decide ((k : Int) < 0) = false := by simp
    clear g1 g2 hkn
    go_enter Tryd.func20, Tryd.ntmps20
    go_wp2_with fail
    refine (cD.out _).mono ?_
    rintro e w2 ⟨rfl, k2, rfl⟩
    go_wp2
    go_ret2
    exact RetT.of HX.out.symm rfl ((Keeps.refl _).drewN _)
  · have HX : Hid (S (Lib.itoa (-(k : Int))) = (⟨#[45]⟩ : ByteArray) ++ S (Lib.decDigits k)) := Lib.hid (by
      rw [show (⟨#[45]⟩ : ByteArray) = S [45] from rfl, rdig_app, Lib.itoa_neg k h1]; rfl)
    generalize S (Lib.decDigits k) = R at *
    have d3 : decide (-(k : Int) < 0) = true := by simp; omega
    have w0 : IntKind.i64.wrap (- -(k : Int)) = (k : Int) := by rw [Int.neg_neg]; exact IntWalk.i64_in _ (by omega)
    have w1 : (- -(k : Int)) = (k : Int) := Int.neg_neg _
    have q0 : (0 : Int) ≤ (k : Int) := by omega
    have q1 : (k : Int) ≤ 9007199254740991 := by omega
    clear g1 g2 hkn
    go_enter Tryd.func20, Tryd.ntmps20
    go_wp2_with fail
    refine (cD.out _).mono ?_
    rintro e w2 ⟨rfl, k2, rfl⟩
    go_wp2
    go_ret2
    exact RetT.of HX.out.symm rfl ((Keeps.refl _).drewN _)
end Go.Proofs.YtbhgfdgdbbfeoaaDoor
