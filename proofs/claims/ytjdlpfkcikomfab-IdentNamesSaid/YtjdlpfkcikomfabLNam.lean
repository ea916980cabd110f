/-
  The walk of the statement on the chapter's examples of identifiers.
-/
import Derived.Test.YtjdlpfkcikomfabLiv
namespace Go.Proofs.Ytjdlpfkcikomfab
open Go.RowKit

theorem kind_at (l : ByteArray) (k : Int) (w : World) (h : l.size ≤ maxLen) (hk : kindI l.data.toList = k) : Calls Try.prog 9 #[.string l] w (RetI k w) := by
  rw [← hk]; exact kind_any l w h
theorem server_at (l : ByteArray) (k : Bool) (w : World) (h : l.size ≤ maxLen) (hk : serverB l.data.toList = k) : Calls Try.prog 10 #[.string l] w (RetQ k w) := by
  rw [← hk]; exact server_any l w h
theorem lower_at (l r : ByteArray) (w : World) (h : l.size ≤ maxLen) (hk : lowL l.data.toList = r.data.toList) : Calls Try.prog 11 #[.string l] w (fun e w' => e = .returned (.string r) ∧ Keeps w w') := by
  refine (lower_any l w h).mono fun e w' h => ⟨h.1.trans ?_, h.2⟩
  rw [hk, S_of]

set_option maxHeartbeats 1000000 in
theorem names_any (w : World) : Calls Try.prog 3 #[] w (RetQ true w) := by
  have k1 := Lib.hid (fun w => kind_at ⟨#[64, 97, 58, 66, 46, 111, 114, 103]⟩ 1 w (by unfold maxLen; decide) (by decide +kernel))
  have k2 := Lib.hid (fun w => kind_at ⟨#[36, 101]⟩ 3 w (by unfold maxLen; decide) (by decide +kernel))
  have k3 := Lib.hid (fun w => kind_at ⟨#[120, 46, 111, 114, 103]⟩ 4 w (by unfold maxLen; decide) (by decide +kernel))
  have k4 := Lib.hid (fun w => kind_at ⟨#[64, 65, 58, 98]⟩ 0 w (by unfold maxLen; decide) (by decide +kernel))
  have k5 := Lib.hid (fun w => kind_at ⟨#[64, 97, 58]⟩ 0 w (by unfold maxLen; decide) (by decide +kernel))
  have k6 := Lib.hid (fun w => kind_at ⟨#[]⟩ 0 w (by unfold maxLen; decide) (by decide +kernel))
  have s1 := Lib.hid (fun w => server_at ⟨#[120, 58, 48, 48, 48, 48, 49]⟩ true w (by unfold maxLen; decide) (by decide +kernel))
  have s2 := Lib.hid (fun w => server_at ⟨#[120, 58]⟩ false w (by unfold maxLen; decide) (by decide +kernel))
  have s3 := Lib.hid (fun w => server_at ⟨#[120, 58, 49, 50, 51, 52, 53, 54]⟩ false w (by unfold maxLen; decide) (by decide +kernel))
  have l1 := Lib.hid (fun w => lower_at ⟨#[65, 46, 98, 45, 90, 91]⟩ ⟨#[97, 46, 98, 45, 122, 91]⟩ w (by unfold maxLen; decide) (by decide +kernel))
  go_enter Try.func3, Try.ntmps3
  go_wp2_with fail
  refine (lives_any _).mono ?_
  rintro e w1 ⟨rfl, h1⟩
  go_wp2_with fail
  refine (k1.out _).mono ?_
  rintro e w2 ⟨rfl, h2⟩
  have h := h1.trans h2; clear h1 h2
  go_wp2_with fail
  refine (k2.out _).mono ?_
  rintro e w2 ⟨rfl, h2⟩
  have h1 := h.trans h2; clear h h2
  go_wp2_with fail
  refine (k3.out _).mono ?_
  rintro e w2 ⟨rfl, h2⟩
  have h := h1.trans h2; clear h1 h2
  go_wp2_with fail
  refine (k4.out _).mono ?_
  rintro e w2 ⟨rfl, h2⟩
  have h1 := h.trans h2; clear h h2
  go_wp2_with fail
  refine (k5.out _).mono ?_
  rintro e w2 ⟨rfl, h2⟩
  have h := h1.trans h2; clear h1 h2
  go_wp2_with fail
  refine (k6.out _).mono ?_
  rintro e w2 ⟨rfl, h2⟩
  have h1 := h.trans h2; clear h h2
  go_wp2_with fail
  refine (s1.out _).mono ?_
  rintro e w2 ⟨rfl, h2⟩
  have h := h1.trans h2; clear h1 h2
  go_wp2_with fail
  refine (s2.out _).mono ?_
  rintro e w2 ⟨rfl, h2⟩
  have h1 := h.trans h2; clear h h2
  go_wp2_with fail
  refine (s3.out _).mono ?_
  rintro e w2 ⟨rfl, h2⟩
  have h := h1.trans h2; clear h1 h2
  go_wp2_with fail
  refine (l1.out _).mono ?_
  rintro e w2 ⟨rfl, h2⟩
  have h1 := h.trans h2; clear h h2
  go_wp2
  go_ret
  exact RetQ.of rfl h1
end Go.Proofs.Ytjdlpfkcikomfab
