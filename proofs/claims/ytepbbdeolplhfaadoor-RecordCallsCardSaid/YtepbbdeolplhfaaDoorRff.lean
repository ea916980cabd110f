/-
  The document's own Read of records: its ways.
-/
import Derived.Test.YtepbbdeolplhfaaDoorRfe
namespace Go.Proofs.YtepbbdeolplhfaaDoor
open Go.RowKit

/-- No input, and why. -/
def Nay (c : Int) (w : World) (e : Ending) (w' : World) : Prop := e = .returned (.tuple #[.agg #[.int .i64 0, .int .i64 0, .int .i64 0, .bool false, .string ⟨#[]⟩], .int .i64 c]) ∧ Keeps w w'
theorem none_nil : ((⟨#[]⟩ : ByteArray).toList.isEmpty) = true := by rw [ByteArray.toList_eq]; rfl

set_option maxHeartbeats 1000000 in
theorem rr_empty (w : World) : Calls Tryd.prog 15 #[.string ⟨#[]⟩] w (Nay 3 w) := by
  have h0 := none_nil
  go_enter Tryd.func15, Tryd.ntmps15
  go_wp2
  exact bodyPost_ret (v := .tuple #[.agg #[.int .i64 0, .int .i64 0, .int .i64 0, .bool false, .string ⟨#[]⟩], .int .i64 3]) (by simp [results, Tryd.results15, go_sem]) rfl ⟨rfl, (Keeps.refl _).alloc _⟩

set_option maxHeartbeats 4000000 in
theorem rr_kind (s b : ByteArray) (K : Nat) (w : World) (hsz : s.size = b.size + 1) (hb : b.size ≤ 5000) (he : s.toList.isEmpty = false) (h0 : ∀ h : 0 < s.size, (s[0]'h).toNat = K) (hx : s.extract 1 (b.size + 1) = b) (hk : K = 0 ∨ 6 < K) (hk2 : K ≤ 255) : Calls Tryd.prog 15 #[.string s] w (Nay 9 w) := by
  rcases hk with rfl | hk
  · go_enter Tryd.func15, Tryd.ntmps15
    go_wp2
    exact bodyPost_ret (v := .tuple #[.agg #[.int .i64 0, .int .i64 0, .int .i64 0, .bool false, .string ⟨#[]⟩], .int .i64 9]) (by simp [results, Tryd.results15, go_sem]) rfl ⟨rfl, ((Keeps.refl _).alloc _).alloc _⟩
  · go_enter Tryd.func15, Tryd.ntmps15
    go_wp2
    exact bodyPost_ret (v := .tuple #[.agg #[.int .i64 0, .int .i64 0, .int .i64 0, .bool false, .string ⟨#[]⟩], .int .i64 9]) (by simp [results, Tryd.results15, go_sem]) rfl ⟨rfl, ((Keeps.refl _).alloc _).alloc _⟩

set_option maxHeartbeats 4000000 in
theorem rr_short2 (s b : ByteArray) (w : World) (hsz : s.size = b.size + 1) (hb : b.size ≤ 5000) (he : s.toList.isEmpty = false) (h0 : ∀ h : 0 < s.size, (s[0]'h).toNat = 2) (hx : s.extract 1 (b.size + 1) = b) (hlt : b.size < 8) : Calls Tryd.prog 15 #[.string s] w (Nay 3 w) := by
  have cF : Hid (∀ w1 : World, Calls Tryd.prog 27 #[.int .i64 2] w1 (fun e w' => e = .returned (.tuple #[.int .i64 8, .bool true]) ∧ w' = w1)) := Lib.hid (fun w1 => fixed_any 2 w1 (by decide) (by decide))
  go_enter Tryd.func15, Tryd.ntmps15
  go_wp2_with fail
  refine (cF.out _).mono ?_
  rintro e wx ⟨rfl, rfl⟩
  go_wp2
  exact bodyPost_ret (v := .tuple #[.agg #[.int .i64 0, .int .i64 0, .int .i64 0, .bool false, .string ⟨#[]⟩], .int .i64 3]) (by simp [results, Tryd.results15, go_sem]) rfl ⟨rfl, ((Keeps.refl _).alloc _).alloc _⟩

set_option maxHeartbeats 4000000 in
theorem rr_short3 (s b : ByteArray) (w : World) (hsz : s.size = b.size + 1) (hb : b.size ≤ 5000) (he : s.toList.isEmpty = false) (h0 : ∀ h : 0 < s.size, (s[0]'h).toNat = 3) (hx : s.extract 1 (b.size + 1) = b) (hlt : b.size < 9) : Calls Tryd.prog 15 #[.string s] w (Nay 3 w) := by
  have cF : Hid (∀ w1 : World, Calls Tryd.prog 27 #[.int .i64 3] w1 (fun e w' => e = .returned (.tuple #[.int .i64 9, .bool true]) ∧ w' = w1)) := Lib.hid (fun w1 => fixed_any 3 w1 (by decide) (by decide))
  go_enter Tryd.func15, Tryd.ntmps15
  go_wp2_with fail
  refine (cF.out _).mono ?_
  rintro e wx ⟨rfl, rfl⟩
  go_wp2
  exact bodyPost_ret (v := .tuple #[.agg #[.int .i64 0, .int .i64 0, .int .i64 0, .bool false, .string ⟨#[]⟩], .int .i64 3]) (by simp [results, Tryd.results15, go_sem]) rfl ⟨rfl, ((Keeps.refl _).alloc _).alloc _⟩

set_option maxHeartbeats 4000000 in
theorem rr_short4 (s b : ByteArray) (w : World) (hsz : s.size = b.size + 1) (hb : b.size ≤ 5000) (he : s.toList.isEmpty = false) (h0 : ∀ h : 0 < s.size, (s[0]'h).toNat = 4) (hx : s.extract 1 (b.size + 1) = b) (hlt : b.size < 8) : Calls Tryd.prog 15 #[.string s] w (Nay 3 w) := by
  have cF : Hid (∀ w1 : World, Calls Tryd.prog 27 #[.int .i64 4] w1 (fun e w' => e = .returned (.tuple #[.int .i64 8, .bool true]) ∧ w' = w1)) := Lib.hid (fun w1 => fixed_any 4 w1 (by decide) (by decide))
  go_enter Tryd.func15, Tryd.ntmps15
  go_wp2_with fail
  refine (cF.out _).mono ?_
  rintro e wx ⟨rfl, rfl⟩
  go_wp2
  exact bodyPost_ret (v := .tuple #[.agg #[.int .i64 0, .int .i64 0, .int .i64 0, .bool false, .string ⟨#[]⟩], .int .i64 3]) (by simp [results, Tryd.results15, go_sem]) rfl ⟨rfl, ((Keeps.refl _).alloc _).alloc _⟩

set_option maxHeartbeats 4000000 in
theorem rr_short5 (s b : ByteArray) (w : World) (hsz : s.size = b.size + 1) (hb : b.size ≤ 5000) (he : s.toList.isEmpty = false) (h0 : ∀ h : 0 < s.size, (s[0]'h).toNat = 5) (hx : s.extract 1 (b.size + 1) = b) (hlt : b.size < 1) : Calls Tryd.prog 15 #[.string s] w (Nay 3 w) := by
  have cF : Hid (∀ w1 : World, Calls Tryd.prog 27 #[.int .i64 5] w1 (fun e w' => e = .returned (.tuple #[.int .i64 1, .bool false]) ∧ w' = w1)) := Lib.hid (fun w1 => fixed_any 5 w1 (by decide) (by decide))
  go_enter Tryd.func15, Tryd.ntmps15
  go_wp2_with fail
  refine (cF.out _).mono ?_
  rintro e wx ⟨rfl, rfl⟩
  go_wp2
  exact bodyPost_ret (v := .tuple #[.agg #[.int .i64 0, .int .i64 0, .int .i64 0, .bool false, .string ⟨#[]⟩], .int .i64 3]) (by simp [results, Tryd.results15, go_sem]) rfl ⟨rfl, ((Keeps.refl _).alloc _).alloc _⟩

set_option maxHeartbeats 4000000 in
theorem rr_bad2 (s b : ByteArray) (w : World) (hsz : s.size = b.size + 1) (hb : b.size ≤ 5000) (he : s.toList.isEmpty = false) (h0 : ∀ h : 0 < s.size, (s[0]'h).toNat = 2) (hx : s.extract 1 (b.size + 1) = b) (hlt : 8 < b.size) : Calls Tryd.prog 15 #[.string s] w (Nay 5 w) := by
  have cF : Hid (∀ w1 : World, Calls Tryd.prog 27 #[.int .i64 2] w1 (fun e w' => e = .returned (.tuple #[.int .i64 8, .bool true]) ∧ w' = w1)) := Lib.hid (fun w1 => fixed_any 2 w1 (by decide) (by decide))
  go_enter Tryd.func15, Tryd.ntmps15
  go_wp2_with fail
  refine (cF.out _).mono ?_
  rintro e wx ⟨rfl, rfl⟩
  go_wp2
  exact bodyPost_ret (v := .tuple #[.agg #[.int .i64 0, .int .i64 0, .int .i64 0, .bool false, .string ⟨#[]⟩], .int .i64 5]) (by simp [results, Tryd.results15, go_sem]) rfl ⟨rfl, ((Keeps.refl _).alloc _).alloc _⟩

set_option maxHeartbeats 4000000 in
theorem rr_bad4 (s b : ByteArray) (w : World) (hsz : s.size = b.size + 1) (hb : b.size ≤ 5000) (he : s.toList.isEmpty = false) (h0 : ∀ h : 0 < s.size, (s[0]'h).toNat = 4) (hx : s.extract 1 (b.size + 1) = b) (hlt : 8 < b.size) : Calls Tryd.prog 15 #[.string s] w (Nay 5 w) := by
  have cF : Hid (∀ w1 : World, Calls Tryd.prog 27 #[.int .i64 4] w1 (fun e w' => e = .returned (.tuple #[.int .i64 8, .bool true]) ∧ w' = w1)) := Lib.hid (fun w1 => fixed_any 4 w1 (by decide) (by decide))
  go_enter Tryd.func15, Tryd.ntmps15
  go_wp2_with fail
  refine (cF.out _).mono ?_
  rintro e wx ⟨rfl, rfl⟩
  go_wp2
  exact bodyPost_ret (v := .tuple #[.agg #[.int .i64 0, .int .i64 0, .int .i64 0, .bool false, .string ⟨#[]⟩], .int .i64 5]) (by simp [results, Tryd.results15, go_sem]) rfl ⟨rfl, ((Keeps.refl _).alloc _).alloc _⟩

set_option maxHeartbeats 4000000 in
theorem rr_bad6 (s b : ByteArray) (w : World) (hsz : s.size = b.size + 1) (hb : b.size ≤ 5000) (he : s.toList.isEmpty = false) (h0 : ∀ h : 0 < s.size, (s[0]'h).toNat = 6) (hx : s.extract 1 (b.size + 1) = b) (hlt : 0 < b.size) : Calls Tryd.prog 15 #[.string s] w (Nay 5 w) := by
  have cF : Hid (∀ w1 : World, Calls Tryd.prog 27 #[.int .i64 6] w1 (fun e w' => e = .returned (.tuple #[.int .i64 0, .bool true]) ∧ w' = w1)) := Lib.hid (fun w1 => fixed_any 6 w1 (by decide) (by decide))
  go_enter Tryd.func15, Tryd.ntmps15
  go_wp2_with fail
  refine (cF.out _).mono ?_
  rintro e wx ⟨rfl, rfl⟩
  go_wp2
  exact bodyPost_ret (v := .tuple #[.agg #[.int .i64 0, .int .i64 0, .int .i64 0, .bool false, .string ⟨#[]⟩], .int .i64 5]) (by simp [results, Tryd.results15, go_sem]) rfl ⟨rfl, ((Keeps.refl _).alloc _).alloc _⟩

set_option maxHeartbeats 4000000 in
theorem rr_bad3a (s b : ByteArray) (d : Nat) (w : World) (hsz : s.size = b.size + 1) (hb : b.size ≤ 5000) (he : s.toList.isEmpty = false) (h0 : ∀ h : 0 < s.size, (s[0]'h).toNat = 3) (hx : s.extract 1 (b.size + 1) = b) (hlt : 9 ≤ b.size) (h8 : ∀ h : 8 < b.size, (b[8]'h).toNat = d) (hd : 1 < d) (hd2 : d ≤ 255) : Calls Tryd.prog 15 #[.string s] w (Nay 5 w) := by
  have cF : Hid (∀ w1 : World, Calls Tryd.prog 27 #[.int .i64 3] w1 (fun e w' => e = .returned (.tuple #[.int .i64 9, .bool true]) ∧ w' = w1)) := Lib.hid (fun w1 => fixed_any 3 w1 (by decide) (by decide))
  go_enter Tryd.func15, Tryd.ntmps15
  go_wp2_with fail
  refine (cF.out _).mono ?_
  rintro e wx ⟨rfl, rfl⟩
  go_wp2
  exact bodyPost_ret (v := .tuple #[.agg #[.int .i64 0, .int .i64 0, .int .i64 0, .bool false, .string ⟨#[]⟩], .int .i64 5]) (by simp [results, Tryd.results15, go_sem]) rfl ⟨rfl, ((Keeps.refl _).alloc _).alloc _⟩

set_option maxHeartbeats 4000000 in
theorem rr_bad3b (s b : ByteArray) (d : Nat) (w : World) (hsz : s.size = b.size + 1) (hb : b.size ≤ 5000) (he : s.toList.isEmpty = false) (h0 : ∀ h : 0 < s.size, (s[0]'h).toNat = 3) (hx : s.extract 1 (b.size + 1) = b) (hlt : 9 < b.size) (h8 : ∀ h : 8 < b.size, (b[8]'h).toNat = d) (hd : d ≤ 1) : Calls Tryd.prog 15 #[.string s] w (Nay 5 w) := by
  have cF : Hid (∀ w1 : World, Calls Tryd.prog 27 #[.int .i64 3] w1 (fun e w' => e = .returned (.tuple #[.int .i64 9, .bool true]) ∧ w' = w1)) := Lib.hid (fun w1 => fixed_any 3 w1 (by decide) (by decide))
  go_enter Tryd.func15, Tryd.ntmps15
  go_wp2_with fail
  refine (cF.out _).mono ?_
  rintro e wx ⟨rfl, rfl⟩
  go_wp2
  exact bodyPost_ret (v := .tuple #[.agg #[.int .i64 0, .int .i64 0, .int .i64 0, .bool false, .string ⟨#[]⟩], .int .i64 5]) (by simp [results, Tryd.results15, go_sem]) rfl ⟨rfl, ((Keeps.refl _).alloc _).alloc _⟩

end Go.Proofs.YtepbbdeolplhfaaDoor
