/-
  The chapter's examples of globs.
-/
import Derived.Test.YtolfpkjohlbfdaaDoorMch
namespace Go.Proofs.YtolfpkjohlbfdaaDoor
open Go.RowKit

theorem match_at (p t : ByteArray) (fo b : Bool) (w : World) (hp : p.size ≤ 100000) (ht : t.size ≤ 100000) (h : mt (eqB fo) p.data.toList t.data.toList = b) : Calls Tryd.prog 13 #[.string p, .string t, .bool fo] w (RetQ b w) := by
  rw [← h]; exact match_any p t fo w hp ht

theorem x1 : mt (eqB false) [64, 42, 58, 120, 46, 111, 114, 103] [64, 97, 58, 120, 46, 111, 114, 103] = true := by simp [mt, eqB]
theorem x2 : mt (eqB false) [97, 63, 99] [97, 99] = false := by simp [mt, eqB]
theorem x3 : mt (eqB false) [63, 42, 63] [97, 98] = true := by simp [mt]

set_option maxHeartbeats 1000000 in
theorem lives_any (w : World) : Calls Tryd.prog 9 #[] w (RetQ true w) := by
  have c1 := Lib.hid (fun w1 => match_at ⟨#[64, 42, 58, 120, 46, 111, 114, 103]⟩ ⟨#[64, 97, 58, 120, 46, 111, 114, 103]⟩ false true w1 (by decide) (by decide) x1)
  have c2 := Lib.hid (fun w1 => match_at ⟨#[97, 63, 99]⟩ ⟨#[97, 99]⟩ false false w1 (by decide) (by decide) x2)
  have c3 := Lib.hid (fun w1 => match_at ⟨#[63, 42, 63]⟩ ⟨#[97, 98]⟩ false true w1 (by decide) (by decide) x3)
  go_enter Tryd.func9, Tryd.ntmps9
  go_wp2_with fail
  refine (c1.out _).mono ?_
  rintro e w1 ⟨rfl, h⟩
  go_wp2_with fail
  refine (c2.out _).mono ?_
  rintro e w2 ⟨rfl, h2⟩
  have k2 := Keeps.trans h h2
  clear h h2
  go_wp2_with fail
  refine (c3.out _).mono ?_
  rintro e w3 ⟨rfl, h3⟩
  have k3 := Keeps.trans k2 h3
  clear k2 h3
  go_wp2
  go_ret
  exact RetQ.of rfl k3
end Go.Proofs.YtolfpkjohlbfdaaDoor
