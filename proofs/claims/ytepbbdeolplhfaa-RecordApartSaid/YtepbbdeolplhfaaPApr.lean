/-
  Whatever two inputs and cut: their records are apart, and no proper prefix of a record is read as another of its kind, but of an event and a command.
-/
import Derived.Test.YtepbbdeolplhfaaRows
import Derived.Test.YtepbbdeolplhfaaAerr1
import Derived.Test.YtepbbdeolplhfaaAerr5
import Derived.Test.YtepbbdeolplhfaaAerrx
import Derived.Test.YtepbbdeolplhfaaAok1
import Derived.Test.YtepbbdeolplhfaaAok5
import Derived.WalkKit
import Derived.ProofKit
import Derived.OpenShut
import Derived.ShutString
import Derived.Carry
namespace Go.Proofs.Ytepbbdeolplhfaa

theorem dis_err1 (code n k2 code2 n2 cut : Int) (ok ok2 : Bool) (t t2 b b2 : ByteArray) (j : Nat) (w : World) (h1 : (t.size : Int) ≤ 5000) (h2 : (t2.size : Int) ≤ 5000) (hB : ∀ w, Calls Try.prog 8 #[inV 1 code n ok t] w (fun e w' => e = .returned (.tuple #[.string b, .int .i64 0]) ∧ Keeps w w')) (hD : ∀ w, Calls Try.prog 8 #[inV k2 code2 n2 ok2 t2] w (fun e w' => e = .returned (.tuple #[.string b2, .int .i64 0]) ∧ Keeps w w')) (hS : ((1 : Int) = k2) → ((code : Int) = code2) → ((n : Int) = n2) → ((ok : Bool) = ok2) → ((t : ByteArray) = t2) → b = b2) (hE : ¬ (((1 : Int) = k2) ∧ ((code : Int) = code2) ∧ ((n : Int) = n2) ∧ ((ok : Bool) = ok2) ∧ ((t : ByteArray) = t2)) → (b.toList == b2.toList) = false) (hne : b.toList.isEmpty = false) (hj : j ≤ b.size) (hbs : (b.size : Int) ≤ 4400) (hP : ∀ w, Calls Try.prog 12 #[.int .i64 cut, .int .i64 b.size] w (RetN j w)) (hR : ∀ w, Calls Try.prog 10 #[.string (b.extract 0 j)] w (fun e w' => e = .returned (.tuple #[.agg #[.int .i64 0, .int .i64 0, .int .i64 0, .bool false, .string ⟨#[]⟩], .int .i64 3]) ∧ Keeps w w')) :
    Calls Try.prog 5 #[inV 1 code n ok t, inV k2 code2 n2 ok2 t2, .int .i64 cut] w (Ret (.bool true) w) := by
  by_cases hd : (1 : Int) = k2
  case neg =>
    have hE := hE (fun ⟨g1, g2, g3, g4, g5⟩ => hd g1)
    exact apart_err1_1 code n k2 code2 n2 cut ok ok2 t t2 b b2 j w h1 h2 hB hD hd hE hne hj hbs hP hR
  subst hd
  by_cases hd : (code : Int) = code2
  case neg =>
    have hE := hE (fun ⟨g1, g2, g3, g4, g5⟩ => hd g2)
    exact apart_err1_2 code n code2 n2 cut ok ok2 t t2 b b2 j w h1 h2 hB hD hd hE hne hj hbs hP hR
  subst hd
  by_cases hd : (n : Int) = n2
  case neg =>
    have hE := hE (fun ⟨g1, g2, g3, g4, g5⟩ => hd g3)
    exact apart_err1_3 code n n2 cut ok ok2 t t2 b b2 j w h1 h2 hB hD hd hE hne hj hbs hP hR
  subst hd
  by_cases hd : (ok : Bool) = ok2
  case neg =>
    have hE := hE (fun ⟨g1, g2, g3, g4, g5⟩ => hd g4)
    exact apart_err1_4 code n cut ok ok2 t t2 b b2 j w h1 h2 hB hD hd hE hne hj hbs hP hR
  subst hd
  by_cases hd : (t : ByteArray) = t2
  case neg =>
    have hE := hE (fun ⟨g1, g2, g3, g4, g5⟩ => hd g5)
    have hd : ¬ t.toList = t2.toList := fun e => hd (by rw [ByteArray.toList_eq, ByteArray.toList_eq] at e; exact ByteArray.ext (Array.ext' e))
    exact apart_err1_5 code n cut ok t t2 b b2 j w h1 h2 hB hD hd hE hne hj hbs hP hR
  subst hd
  obtain rfl : b = b2 := hS rfl rfl rfl rfl rfl
  exact apart_err1_0 code n cut ok t b j w h1 h2 hB hD hne hj hbs hP hR

theorem dis_err5 (code n k2 code2 n2 cut : Int) (ok ok2 : Bool) (t t2 b b2 : ByteArray) (j : Nat) (w : World) (h1 : (t.size : Int) ≤ 5000) (h2 : (t2.size : Int) ≤ 5000) (hB : ∀ w, Calls Try.prog 8 #[inV 5 code n ok t] w (fun e w' => e = .returned (.tuple #[.string b, .int .i64 0]) ∧ Keeps w w')) (hD : ∀ w, Calls Try.prog 8 #[inV k2 code2 n2 ok2 t2] w (fun e w' => e = .returned (.tuple #[.string b2, .int .i64 0]) ∧ Keeps w w')) (hS : ((5 : Int) = k2) → ((code : Int) = code2) → ((n : Int) = n2) → ((ok : Bool) = ok2) → ((t : ByteArray) = t2) → b = b2) (hE : ¬ (((5 : Int) = k2) ∧ ((code : Int) = code2) ∧ ((n : Int) = n2) ∧ ((ok : Bool) = ok2) ∧ ((t : ByteArray) = t2)) → (b.toList == b2.toList) = false) (hne : b.toList.isEmpty = false) (hj : j ≤ b.size) (hbs : (b.size : Int) ≤ 4400) (hP : ∀ w, Calls Try.prog 12 #[.int .i64 cut, .int .i64 b.size] w (RetN j w)) (hR : ∀ w, Calls Try.prog 10 #[.string (b.extract 0 j)] w (fun e w' => e = .returned (.tuple #[.agg #[.int .i64 0, .int .i64 0, .int .i64 0, .bool false, .string ⟨#[]⟩], .int .i64 3]) ∧ Keeps w w')) :
    Calls Try.prog 5 #[inV 5 code n ok t, inV k2 code2 n2 ok2 t2, .int .i64 cut] w (Ret (.bool true) w) := by
  by_cases hd : (5 : Int) = k2
  case neg =>
    have hE := hE (fun ⟨g1, g2, g3, g4, g5⟩ => hd g1)
    exact apart_err5_1 code n k2 code2 n2 cut ok ok2 t t2 b b2 j w h1 h2 hB hD hd hE hne hj hbs hP hR
  subst hd
  by_cases hd : (code : Int) = code2
  case neg =>
    have hE := hE (fun ⟨g1, g2, g3, g4, g5⟩ => hd g2)
    exact apart_err5_2 code n code2 n2 cut ok ok2 t t2 b b2 j w h1 h2 hB hD hd hE hne hj hbs hP hR
  subst hd
  by_cases hd : (n : Int) = n2
  case neg =>
    have hE := hE (fun ⟨g1, g2, g3, g4, g5⟩ => hd g3)
    exact apart_err5_3 code n n2 cut ok ok2 t t2 b b2 j w h1 h2 hB hD hd hE hne hj hbs hP hR
  subst hd
  by_cases hd : (ok : Bool) = ok2
  case neg =>
    have hE := hE (fun ⟨g1, g2, g3, g4, g5⟩ => hd g4)
    exact apart_err5_4 code n cut ok ok2 t t2 b b2 j w h1 h2 hB hD hd hE hne hj hbs hP hR
  subst hd
  by_cases hd : (t : ByteArray) = t2
  case neg =>
    have hE := hE (fun ⟨g1, g2, g3, g4, g5⟩ => hd g5)
    have hd : ¬ t.toList = t2.toList := fun e => hd (by rw [ByteArray.toList_eq, ByteArray.toList_eq] at e; exact ByteArray.ext (Array.ext' e))
    exact apart_err5_5 code n cut ok t t2 b b2 j w h1 h2 hB hD hd hE hne hj hbs hP hR
  subst hd
  obtain rfl : b = b2 := hS rfl rfl rfl rfl rfl
  exact apart_err5_0 code n cut ok t b j w h1 h2 hB hD hne hj hbs hP hR

theorem dis_errx (k code n k2 code2 n2 cut : Int) (ok ok2 : Bool) (t t2 b b2 : ByteArray) (j : Nat) (w : World) (h1 : (t.size : Int) ≤ 5000) (h2 : (t2.size : Int) ≤ 5000) (hB : ∀ w, Calls Try.prog 8 #[inV k code n ok t] w (fun e w' => e = .returned (.tuple #[.string b, .int .i64 0]) ∧ Keeps w w')) (hD : ∀ w, Calls Try.prog 8 #[inV k2 code2 n2 ok2 t2] w (fun e w' => e = .returned (.tuple #[.string b2, .int .i64 0]) ∧ Keeps w w')) (hK1 : (k == 1) = false) (hK5 : (k == 5) = false) (hS : ((k : Int) = k2) → ((code : Int) = code2) → ((n : Int) = n2) → ((ok : Bool) = ok2) → ((t : ByteArray) = t2) → b = b2) (hE : ¬ (((k : Int) = k2) ∧ ((code : Int) = code2) ∧ ((n : Int) = n2) ∧ ((ok : Bool) = ok2) ∧ ((t : ByteArray) = t2)) → (b.toList == b2.toList) = false) (hne : b.toList.isEmpty = false) (hj : j ≤ b.size) (hbs : (b.size : Int) ≤ 4400) (hP : ∀ w, Calls Try.prog 12 #[.int .i64 cut, .int .i64 b.size] w (RetN j w)) (hR : ∀ w, Calls Try.prog 10 #[.string (b.extract 0 j)] w (fun e w' => e = .returned (.tuple #[.agg #[.int .i64 0, .int .i64 0, .int .i64 0, .bool false, .string ⟨#[]⟩], .int .i64 3]) ∧ Keeps w w')) :
    Calls Try.prog 5 #[inV k code n ok t, inV k2 code2 n2 ok2 t2, .int .i64 cut] w (Ret (.bool true) w) := by
  by_cases hd : (k : Int) = k2
  case neg =>
    have hE := hE (fun ⟨g1, g2, g3, g4, g5⟩ => hd g1)
    exact apart_errx_1 k code n k2 code2 n2 cut ok ok2 t t2 b b2 j w h1 h2 hB hD hK1 hK5 hd hE hne hj hbs hP hR
  subst hd
  by_cases hd : (code : Int) = code2
  case neg =>
    have hE := hE (fun ⟨g1, g2, g3, g4, g5⟩ => hd g2)
    exact apart_errx_2 k code n code2 n2 cut ok ok2 t t2 b b2 j w h1 h2 hB hD hK1 hK5 hd hE hne hj hbs hP hR
  subst hd
  by_cases hd : (n : Int) = n2
  case neg =>
    have hE := hE (fun ⟨g1, g2, g3, g4, g5⟩ => hd g3)
    exact apart_errx_3 k code n n2 cut ok ok2 t t2 b b2 j w h1 h2 hB hD hK1 hK5 hd hE hne hj hbs hP hR
  subst hd
  by_cases hd : (ok : Bool) = ok2
  case neg =>
    have hE := hE (fun ⟨g1, g2, g3, g4, g5⟩ => hd g4)
    exact apart_errx_4 k code n cut ok ok2 t t2 b b2 j w h1 h2 hB hD hK1 hK5 hd hE hne hj hbs hP hR
  subst hd
  by_cases hd : (t : ByteArray) = t2
  case neg =>
    have hE := hE (fun ⟨g1, g2, g3, g4, g5⟩ => hd g5)
    have hd : ¬ t.toList = t2.toList := fun e => hd (by rw [ByteArray.toList_eq, ByteArray.toList_eq] at e; exact ByteArray.ext (Array.ext' e))
    exact apart_errx_5 k code n cut ok t t2 b b2 j w h1 h2 hB hD hK1 hK5 hd hE hne hj hbs hP hR
  subst hd
  obtain rfl : b = b2 := hS rfl rfl rfl rfl rfl
  exact apart_errx_0 k code n cut ok t b j w h1 h2 hB hD hK1 hK5 hne hj hbs hP hR

theorem dis_ok1 (code k2 code2 n2 cut : Int) (ok2 : Bool) (t t2 b b2 : ByteArray) (j : Nat) (u : ByteArray) (w : World) (h1 : (t.size : Int) ≤ 5000) (h2 : (t2.size : Int) ≤ 5000) (hB : ∀ w, Calls Try.prog 8 #[inV 1 code 0 false t] w (fun e w' => e = .returned (.tuple #[.string b, .int .i64 0]) ∧ Keeps w w')) (hD : ∀ w, Calls Try.prog 8 #[inV k2 code2 n2 ok2 t2] w (fun e w' => e = .returned (.tuple #[.string b2, .int .i64 0]) ∧ Keeps w w')) (hu : (u.size : Int) ≤ t.size) (hx : t.extract 0 u.size = u) (hv : (1 : Int) = k2 → ok2 = false) (hS : ((1 : Int) = k2) → ((code : Int) = code2) → ((0 : Int) = n2) → ((false : Bool) = ok2) → ((t : ByteArray) = t2) → b = b2) (hE : ¬ (((1 : Int) = k2) ∧ ((code : Int) = code2) ∧ ((0 : Int) = n2) ∧ ((false : Bool) = ok2) ∧ ((t : ByteArray) = t2)) → (b.toList == b2.toList) = false) (hne : b.toList.isEmpty = false) (hj : j ≤ b.size) (hbs : (b.size : Int) ≤ 4400) (hP : ∀ w, Calls Try.prog 12 #[.int .i64 cut, .int .i64 b.size] w (RetN j w)) (hR : ∀ w, Calls Try.prog 10 #[.string (b.extract 0 j)] w (fun e w' => e = .returned (.tuple #[.agg #[.int .i64 1, .int .i64 code, .int .i64 0, .bool false, .string u], .int .i64 0]) ∧ Keeps w w')) :
    Calls Try.prog 5 #[inV 1 code 0 false t, inV k2 code2 n2 ok2 t2, .int .i64 cut] w (Ret (.bool true) w) := by
  by_cases hd : (1 : Int) = k2
  case neg =>
    have hE := hE (fun ⟨g1, g2, g3, g4, g5⟩ => hd g1)
    exact apart_ok1_1 code k2 code2 n2 cut ok2 t t2 b b2 j u w h1 h2 hB hD hu hx hd hE hne hj hbs hP hR
  subst hd
  by_cases hd : (code : Int) = code2
  case neg =>
    have hE := hE (fun ⟨g1, g2, g3, g4, g5⟩ => hd g2)
    exact apart_ok1_2 code code2 n2 cut ok2 t t2 b b2 j u w h1 h2 hB hD hu hx hd hE hne hj hbs hP hR
  subst hd
  by_cases hd : (0 : Int) = n2
  case neg =>
    have hE := hE (fun ⟨g1, g2, g3, g4, g5⟩ => hd g3)
    exact apart_ok1_3 code n2 cut ok2 t t2 b b2 j u w h1 h2 hB hD hu hx hd hE hne hj hbs hP hR
  subst hd
  by_cases hd : (false : Bool) = ok2
  case neg =>
    exact absurd (hv rfl).symm hd
  subst hd
  by_cases hd : (t : ByteArray) = t2
  case neg =>
    have hE := hE (fun ⟨g1, g2, g3, g4, g5⟩ => hd g5)
    have hd : ¬ t.toList = t2.toList := fun e => hd (by rw [ByteArray.toList_eq, ByteArray.toList_eq] at e; exact ByteArray.ext (Array.ext' e))
    exact apart_ok1_5 code cut t t2 b b2 j u w h1 h2 hB hD hu hx hd hE hne hj hbs hP hR
  subst hd
  obtain rfl : b = b2 := hS rfl rfl rfl rfl rfl
  exact apart_ok1_0 code cut t b j u w h1 h2 hB hD hu hx hne hj hbs hP hR

theorem dis_ok5 (code k2 code2 n2 cut : Int) (ok2 : Bool) (t t2 b b2 : ByteArray) (j : Nat) (u : ByteArray) (w : World) (h1 : (t.size : Int) ≤ 5000) (h2 : (t2.size : Int) ≤ 5000) (hB : ∀ w, Calls Try.prog 8 #[inV 5 code 0 false t] w (fun e w' => e = .returned (.tuple #[.string b, .int .i64 0]) ∧ Keeps w w')) (hD : ∀ w, Calls Try.prog 8 #[inV k2 code2 n2 ok2 t2] w (fun e w' => e = .returned (.tuple #[.string b2, .int .i64 0]) ∧ Keeps w w')) (hu : (u.size : Int) ≤ t.size) (hx : t.extract 0 u.size = u) (hv : (5 : Int) = k2 → ok2 = false) (hS : ((5 : Int) = k2) → ((code : Int) = code2) → ((0 : Int) = n2) → ((false : Bool) = ok2) → ((t : ByteArray) = t2) → b = b2) (hE : ¬ (((5 : Int) = k2) ∧ ((code : Int) = code2) ∧ ((0 : Int) = n2) ∧ ((false : Bool) = ok2) ∧ ((t : ByteArray) = t2)) → (b.toList == b2.toList) = false) (hne : b.toList.isEmpty = false) (hj : j ≤ b.size) (hbs : (b.size : Int) ≤ 4400) (hP : ∀ w, Calls Try.prog 12 #[.int .i64 cut, .int .i64 b.size] w (RetN j w)) (hR : ∀ w, Calls Try.prog 10 #[.string (b.extract 0 j)] w (fun e w' => e = .returned (.tuple #[.agg #[.int .i64 5, .int .i64 code, .int .i64 0, .bool false, .string u], .int .i64 0]) ∧ Keeps w w')) :
    Calls Try.prog 5 #[inV 5 code 0 false t, inV k2 code2 n2 ok2 t2, .int .i64 cut] w (Ret (.bool true) w) := by
  by_cases hd : (5 : Int) = k2
  case neg =>
    have hE := hE (fun ⟨g1, g2, g3, g4, g5⟩ => hd g1)
    exact apart_ok5_1 code k2 code2 n2 cut ok2 t t2 b b2 j u w h1 h2 hB hD hu hx hd hE hne hj hbs hP hR
  subst hd
  by_cases hd : (code : Int) = code2
  case neg =>
    have hE := hE (fun ⟨g1, g2, g3, g4, g5⟩ => hd g2)
    exact apart_ok5_2 code code2 n2 cut ok2 t t2 b b2 j u w h1 h2 hB hD hu hx hd hE hne hj hbs hP hR
  subst hd
  by_cases hd : (0 : Int) = n2
  case neg =>
    have hE := hE (fun ⟨g1, g2, g3, g4, g5⟩ => hd g3)
    exact apart_ok5_3 code n2 cut ok2 t t2 b b2 j u w h1 h2 hB hD hu hx hd hE hne hj hbs hP hR
  subst hd
  by_cases hd : (false : Bool) = ok2
  case neg =>
    exact absurd (hv rfl).symm hd
  subst hd
  by_cases hd : (t : ByteArray) = t2
  case neg =>
    have hE := hE (fun ⟨g1, g2, g3, g4, g5⟩ => hd g5)
    have hd : ¬ t.toList = t2.toList := fun e => hd (by rw [ByteArray.toList_eq, ByteArray.toList_eq] at e; exact ByteArray.ext (Array.ext' e))
    exact apart_ok5_5 code cut t t2 b b2 j u w h1 h2 hB hD hu hx hd hE hne hj hbs hP hR
  subst hd
  obtain rfl : b = b2 := hS rfl rfl rfl rfl rfl
  exact apart_ok5_0 code cut t b j u w h1 h2 hB hD hu hx hne hj hbs hP hR

theorem apart_any (k code n : Int) (ok : Bool) (t : ByteArray) (k2 code2 n2 : Int) (ok2 : Bool) (t2 : ByteArray) (cut : Int) (w : World) : Calls Try.prog 5 #[inV k code n ok t, inV k2 code2 n2 ok2 t2, .int .i64 cut] w (Ret (.bool true) w) := by
  by_cases h1 : (t.size : Int) ≤ 5000
  case neg => exact apart_heavy k code n ok t k2 code2 n2 ok2 t2 cut w h1
  by_cases h2 : (t2.size : Int) ≤ 5000
  case neg => exact apart_heavy2 k code n ok t k2 code2 n2 ok2 t2 cut w h1 h2
  have m1 : t.size ≤ maxLen := by unfold maxLen; omega
  have m2 : t2.size ≤ maxLen := by unfold maxLen; omega
  by_cases hc : chk k code n ok t.size = 0
  case neg =>
    by_cases hc2 : chk k2 code2 n2 ok2 t2.size = 0
    · exact apart_bad k code n ok t k2 code2 n2 ok2 t2 cut _ _ _ _ w h1 h2 (fun w => bytes_bad k code n ok t w m1 hc) (fun w => bytes_good k2 code2 n2 ok2 t2 w (by omega) hc2) hc
    · exact apart_bad k code n ok t k2 code2 n2 ok2 t2 cut _ _ _ _ w h1 h2 (fun w => bytes_bad k code n ok t w m1 hc) (fun w => bytes_bad k2 code2 n2 ok2 t2 w m2 hc2) hc
  by_cases hc2 : chk k2 code2 n2 ok2 t2.size = 0
  case neg => exact apart_bad2 k code n ok t k2 code2 n2 ok2 t2 cut _ _ _ w h1 h2 (fun w => bytes_good k code n ok t w (by omega) hc) (fun w => bytes_bad k2 code2 n2 ok2 t2 w m2 hc2) hc2
  have hB := fun w => bytes_good k code n ok t w (by omega) hc
  have hD := fun w => bytes_good k2 code2 n2 ok2 t2 w (by omega) hc2
  have hx : (Inp.mk k code n ok t.data.toList).chk = 0 := hc
  have hy : (Inp.mk k2 code2 n2 ok2 t2.data.toList).chk = 0 := hc2
  obtain ⟨hl, hn⟩ := rec_len _ hx
  have hpre := prefix_cases _ hx
  have hinj := bytes_inj _ _ hx hy
  unfold Inp.bytes at hl hn hpre hinj
  dsimp only at hl hn hpre hinj
  have hS : (k = k2) → (code = code2) → (n = n2) → (ok = ok2) → (t = t2) → S (recL k code n ok t.data.toList) = S (recL k2 code2 n2 ok2 t2.data.toList) := by
    intro a b c d e; rw [a, b, c, d, e]
  have hE : ¬ ((k = k2) ∧ (code = code2) ∧ (n = n2) ∧ (ok = ok2) ∧ (t = t2)) → ((S (recL k code n ok t.data.toList)).toList == (S (recL k2 code2 n2 ok2 t2.data.toList)).toList) = false := by
    intro h
    rw [ByteArray.toList_eq, ByteArray.toList_eq, S_data, S_data]
    refine Bool.eq_false_iff.2 (fun e => h ?_)
    have := hinj (by simpa using e)
    injection this with a b c d e
    exact ⟨a, b, c, d, ByteArray.ext (Array.ext' e)⟩
  have hv : k2 = 1 ∨ k2 = 5 → ok2 = false := by
    intro h
    unfold chk at hc2
    rcases h with rfl | rfl
    · rw [if_pos rfl] at hc2
      cases ok2
      · rfl
      · simp at hc2
    · rw [if_neg (by decide), if_neg (by decide), if_neg (by decide), if_neg (by decide), if_pos rfl] at hc2
      cases ok2
      · rfl
      · simp at hc2
  clear hinj hx hy hc2
  generalize hq : recL k code n ok t.data.toList = q at *
  generalize S (recL k2 code2 n2 ok2 t2.data.toList) = b2 at *
  have hq0 : 1 ≤ q.length := by cases q with
    | nil => exact absurd rfl hn
    | cons _ _ => simp
  obtain ⟨r1, r2⟩ := pickI_range cut ((S q).size : Int) (by rw [S_size]; omega)
  obtain ⟨j, hj⟩ : ∃ j : Nat, pickI cut ((S q).size : Int) = j := ⟨(pickI cut ((S q).size : Int)).toNat, by omega⟩
  have hP : ∀ w, Calls Try.prog 12 #[.int .i64 cut, .int .i64 (S q).size] w (RetN j w) := fun w => by rw [← hj]; exact pick_any cut _ w (by rw [S_size]; omega) (by rw [S_size]; omega)
  have hjq : j < q.length := by rw [S_size] at *; omega
  have hne : (S q).toList.isEmpty = false := by rw [ByteArray.toList_eq, S_data]; cases q with
    | nil => exact absurd rfl hn
    | cons _ _ => rfl
  have hjs : j ≤ (S q).size := by rw [S_size]; omega
  have hbs : ((S q).size : Int) ≤ 4400 := by rw [S_size]; omega
  have hRd : ∀ w, Calls Try.prog 10 #[.string ((S q).extract 0 j)] w (Reads (q.take j) w) := fun w => by
    rw [S_take]; exact read_any _ w (by have := List.length_take_le j q; simp; omega)
  unfold Reads at hRd
  rcases hpre j hjq with hr | ⟨hk, rfl, rfl, m, hm, hr⟩
  · rw [hr] at hRd
    by_cases k1 : k = 1
    · subst k1; exact dis_err1 code n k2 code2 n2 cut ok ok2 t t2 _ b2 j w h1 h2 hB hD hS hE hne hjs hbs hP hRd
    by_cases k5 : k = 5
    · subst k5; exact dis_err5 code n k2 code2 n2 cut ok ok2 t t2 _ b2 j w h1 h2 hB hD hS hE hne hjs hbs hP hRd
    exact dis_errx k code n k2 code2 n2 cut ok ok2 t t2 _ b2 j w h1 h2 hB hD (by simpa using k1) (by simpa using k5) hS hE hne hjs hbs hP hRd
  · rw [hr] at hRd
    have hsz : (S (t.data.toList.take m)).size = m := by rw [S_size, List.length_take]; omega
    have hu : ((S (t.data.toList.take m)).size : Int) ≤ t.size := by rw [hsz]; simp at hm; omega
    have hx : t.extract 0 (S (t.data.toList.take m)).size = S (t.data.toList.take m) := by
      rw [hsz, ← S_take]; rfl
    rcases hk with rfl | rfl
    · exact dis_ok1 code k2 code2 n2 cut ok2 t t2 _ b2 j _ w h1 h2 hB hD hu hx (fun e => hv (.inl e.symm)) hS hE hne hjs hbs hP hRd
    · exact dis_ok5 code k2 code2 n2 cut ok2 t t2 _ b2 j _ w h1 h2 hB hD hu hx (fun e => hv (.inr e.symm)) hS hE hne hjs hbs hP hRd
end Go.Proofs.Ytepbbdeolplhfaa

namespace Go.Proofs.Ytepbbdeolplhfaa.recordApart
open Go.ChangeShapes Go.WideShapes Go.ChangeAt Go.RowKit
open Go.ChangeMaps (open_string shut_string)
set_option linter.unusedVariables false

theorem own : ownKnob Try.prog.godebug = none := by kernel_rfl
theorem laid : laidOutB Try.prog = true := by kernel_rfl

set_option maxRecDepth 100000 in
theorem lifted (os : Os) (started : os.Started) (H : Type) (enc : TypeId × Value → H) :
    ReturnsInHanded {} Try.checked os 5 .any (Rows.recordApartSpec.pre6 enc Try.prog Try.f5 Rows.recordApartRow.domain false) (Rows.recordApartSpec.post enc Try.prog Try.f5 false true false false) := by
  refine returnsInHanded_of_change (C := Try.checked) own started (by kernel_rfl) Try.func5
    (ChangeSpec.witness6 (enc := enc) (C := Try.checked) false ⟨#[], #[.agg #[.int .i64 0, .int .i64 0, .int .i64 0, .bool false, .string ByteArray.empty], .agg #[.int .i64 0, .int .i64 0, .int .i64 0, .bool false, .string ByteArray.empty], .int .i64 0], []⟩ 8 (by kernel_rfl) (by kernel_rfl) (by kernel_rfl) (by kernel_rfl)) ?_
  intro W base args ds gs before hval0 hW hcnd _
  have hval : ∀ (j : Nat) t v, Try.f5.params[j]? = some t → args[j]? = some v → Value.okWide Try.prog W .any base t v := hval0
  have hW' := hW
  obtain ⟨p, q, hA0, hV, rfl, hfz, hnd⟩ := hW
  have hA : DataW.TrodAll enc Try.prog W 0 (fun _ => true) true Try.f5.params.toList args.toList ds p := hA0
  rw [Try.params5] at hA hval
  obtain ⟨v0, vs0, d0, ds0, p0, q0, hargs, rfl, rfl, h0, r0⟩ := trodAll_cons hA
  obtain ⟨v1, vs1, d1, ds1, p1, q1, rfl, rfl, rfl, h1, r1⟩ := trodAll_cons r0
  obtain ⟨v2, vs2, d2, ds2, p2, q2, rfl, rfl, rfl, h2, r2⟩ := trodAll_cons r1
  obtain ⟨rfl, rfl, rfl⟩ := trodAll_nil r2
  obtain rfl : args = #[v0, v1, v2] := by cases args; simp_all
  obtain ⟨rfl, rfl⟩ := trodVars_none hV
  have h0k := h0
  have h1k := h1
  obtain ⟨k, code, n, ok, t, rfl⟩ := open_in (hval 0 23 v0 rfl rfl) h0
  obtain ⟨k', code', n', ok', t', rfl⟩ := open_in (hval 1 23 v1 rfl rfl) h1
  obtain ⟨a2, rfl, rfl, rfl, w2⟩ := open_int Try.underlying3 (hval 2 3 v2 rfl rfl) h2
  clear hA0 hval0
  have hlt : ∀ x ∈ p0, x.block < W.heap.size := fun x hx => by
    have := hW'.lt x (by simp [hx])
    simpa using this
  have hlt1 : ∀ x ∈ p1, x.block < W.heap.size := fun x hx => by
    have := hW'.lt x (by simp [hx])
    simpa using this
  simp only [List.append_nil] at hW'
  refine (apart_any k code n ok t k' code' n' ok' t' a2 W).mono fun e W' ⟨he, hg⟩ => ?_
  subst he
  have hA' := trodAll_cons_mk (Below.trod laid (by kernel_rfl) (of_decide_eq_true (by kernel_rfl)) h0k hg hlt) (trodAll_cons_mk (Below.trod laid (by kernel_rfl) (of_decide_eq_true (by kernel_rfl)) h1k hg hlt1) (trodAll_cons_mk (shut_int Try.underlying3 w2) trodAll_mk0))
  simp only [List.append_nil] at hA'
  exact ⟨_, rfl, _, _, _, [], p0 ++ p1, [], hW', (trodAll_cons_mk (shut_bool Try.underlying4 _) trodAll_mk0), hA', rfl, hg.frame _, fun h => by cases h⟩

theorem over : Rows.recordApartRow.holds Try.pinned (OpenSpec.ofChange Rows.recordApartSpec) :=
  OpenClaim.holds_of_wide 5 Try.f5 rfl rfl rfl rfl rfl rfl rfl ⟨rfl, rfl, rfl, rfl, rfl⟩ rfl rfl rfl rfl rfl (by kernel_rfl) Try.func5 (by kernel_rfl)
    (of_decide_eq_true (by kernel_rfl)) (by unfold Func.isWrapper; first | (rw [if_pos (by decide +kernel)]; kernel_rfl) | (rw [if_neg (by decide +kernel)]; exact ⟨rfl, rfl⟩))
    (fun os started H enc _ => lifted os started H enc)

theorem proved : Rows.RecordApartSaid :=
  over
#print axioms proved
end Go.Proofs.Ytepbbdeolplhfaa.recordApart
