/-
  The document's own Read of records: more of its ways (numbers that are too great).
-/
import Derived.Test.YtepbbdeolplhfaaDoorRff
namespace Go.Proofs.YtepbbdeolplhfaaDoor
open Go.RowKit
set_option maxHeartbeats 4000000 in
theorem rr_over2 (s b : ByteArray) (x : Int) (t : ByteArray) (w : World) (hsz : s.size = b.size + 1) (hb : b.size ≤ 5000) (he : s.toList.isEmpty = false) (h0 : ∀ h : 0 < s.size, (s[0]'h).toNat = 2) (hx : s.extract 1 (b.size + 1) = b) (hlt : 8 ≤ b.size) (hlu : b.size ≤ 8) (ht : b.extract 0 8 = t) (hx2 : 0 ≤ x) (cN : Hid (∀ w1 : World, Calls Tryd.prog 28 #[.string t] w1 (fun e w' => e = .returned (.int .u64 x) ∧ w' = w1))) (HOV : Hid (1152921504606846976 < x)) : Calls Tryd.prog 15 #[.string s] w (Nay 2 w) := by
  have cF : Hid (∀ w1 : World, Calls Tryd.prog 27 #[.int .i64 2] w1 (fun e w' => e = .returned (.tuple #[.int .i64 8, .bool true]) ∧ w' = w1)) := Lib.hid (fun w1 => fixed_any 2 w1 (by decide) (by decide))
  go_enter Tryd.func15, Tryd.ntmps15
  go_wp2_with fail
  refine (cF.out _).mono ?_
  rintro e wx ⟨rfl, rfl⟩
  go_wp2_with fail
  refine (cN.out _).mono ?_
  rintro e wx ⟨rfl, rfl⟩
  have hov := HOV.out
  go_wp2
  exact bodyPost_ret (v := .tuple #[.agg #[.int .i64 0, .int .i64 0, .int .i64 0, .bool false, .string ⟨#[]⟩], .int .i64 2]) (by simp [results, Tryd.results15, go_sem]) rfl ⟨rfl, ((Keeps.refl _).alloc _).alloc _⟩

set_option maxHeartbeats 4000000 in
theorem rr_over4 (s b : ByteArray) (x : Int) (t : ByteArray) (w : World) (hsz : s.size = b.size + 1) (hb : b.size ≤ 5000) (he : s.toList.isEmpty = false) (h0 : ∀ h : 0 < s.size, (s[0]'h).toNat = 4) (hx : s.extract 1 (b.size + 1) = b) (hlt : 8 ≤ b.size) (hlu : b.size ≤ 8) (ht : b.extract 0 8 = t) (hx2 : 0 ≤ x) (cN : Hid (∀ w1 : World, Calls Tryd.prog 28 #[.string t] w1 (fun e w' => e = .returned (.int .u64 x) ∧ w' = w1))) (HOV : Hid (1152921504606846976 < x)) : Calls Tryd.prog 15 #[.string s] w (Nay 2 w) := by
  have cF : Hid (∀ w1 : World, Calls Tryd.prog 27 #[.int .i64 4] w1 (fun e w' => e = .returned (.tuple #[.int .i64 8, .bool true]) ∧ w' = w1)) := Lib.hid (fun w1 => fixed_any 4 w1 (by decide) (by decide))
  go_enter Tryd.func15, Tryd.ntmps15
  go_wp2_with fail
  refine (cF.out _).mono ?_
  rintro e wx ⟨rfl, rfl⟩
  go_wp2_with fail
  refine (cN.out _).mono ?_
  rintro e wx ⟨rfl, rfl⟩
  have hov := HOV.out
  go_wp2
  exact bodyPost_ret (v := .tuple #[.agg #[.int .i64 0, .int .i64 0, .int .i64 0, .bool false, .string ⟨#[]⟩], .int .i64 2]) (by simp [results, Tryd.results15, go_sem]) rfl ⟨rfl, ((Keeps.refl _).alloc _).alloc _⟩

set_option maxHeartbeats 4000000 in
theorem rr_over3 (s b : ByteArray) (d : Nat) (x : Int) (t : ByteArray) (w : World) (hsz : s.size = b.size + 1) (hb : b.size ≤ 5000) (he : s.toList.isEmpty = false) (h0 : ∀ h : 0 < s.size, (s[0]'h).toNat = 3) (hx : s.extract 1 (b.size + 1) = b) (hlt : 9 ≤ b.size) (hlu : b.size ≤ 9) (h8 : ∀ h : 8 < b.size, (b[8]'h).toNat = d) (hd : d ≤ 1) (ht : b.extract 0 8 = t) (hx2 : 0 ≤ x) (cN : Hid (∀ w1 : World, Calls Tryd.prog 28 #[.string t] w1 (fun e w' => e = .returned (.int .u64 x) ∧ w' = w1))) (HOV : Hid (1152921504606846976 < x)) : Calls Tryd.prog 15 #[.string s] w (Nay 2 w) := by
  rcases (show d = 0 ∨ d = 1 by omega) with rfl | rfl
  all_goals
    have cF : Hid (∀ w1 : World, Calls Tryd.prog 27 #[.int .i64 3] w1 (fun e w' => e = .returned (.tuple #[.int .i64 9, .bool true]) ∧ w' = w1)) := Lib.hid (fun w1 => fixed_any 3 w1 (by decide) (by decide))
    go_enter Tryd.func15, Tryd.ntmps15
    go_wp2_with fail
    refine (cF.out _).mono ?_
    rintro e wx ⟨rfl, rfl⟩
    go_wp2_with fail
    refine (cN.out _).mono ?_
    rintro e wx ⟨rfl, rfl⟩
    have hov := HOV.out
    go_wp2
    exact bodyPost_ret (v := .tuple #[.agg #[.int .i64 0, .int .i64 0, .int .i64 0, .bool false, .string ⟨#[]⟩], .int .i64 2]) (by simp [results, Tryd.results15, go_sem]) rfl ⟨rfl, ((Keeps.refl _).alloc _).alloc _⟩
end Go.Proofs.YtepbbdeolplhfaaDoor
