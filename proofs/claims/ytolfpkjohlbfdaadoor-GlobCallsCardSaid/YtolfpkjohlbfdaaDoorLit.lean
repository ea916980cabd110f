/-
  The contracts of Literal and Least of package glob, given what strings.ContainsAny answers.
-/
import Derived.Test.YtolfpkjohlbfdaaDoorGlb
import Derived.Test.YtolfpkjohlbfdaaDoorLiv
namespace Go.Proofs.YtolfpkjohlbfdaaDoor
open Go.RowKit

/-- A call that answers a text and whether there is one. -/
def RetL (s : ByteArray) (b : Bool) (w : World) (e : Ending) (w' : World) : Prop := e = .returned (.tuple #[.string s, .bool b]) ∧ Keeps w w'
theorem RetL.of {s s' : ByteArray} {b b' : Bool} {w w' : World} (h : s' = s) (h' : b' = b) (q : Keeps w w') : RetL s b w (.returned (.tuple #[.string s', .bool b'])) w' := ⟨by rw [h, h'], q⟩

set_option maxHeartbeats 1000000 in
theorem lit_of (s : ByteArray) (c : Bool) (w : World) (h : Calls Tryd.prog 22 #[.string s, .string ⟨#[42, 63]⟩] w (RetQ c w)) : Calls Tryd.prog 8 #[.string s] w (RetL (if c = true then ⟨#[]⟩ else s) (!c) w) := by
  have cC := Lib.hid h
  clear h
  cases c
  · go_enter Tryd.func8, Tryd.ntmps8
    go_wp2_with fail
    refine cC.out.mono ?_
    rintro e w2 ⟨rfl, hk⟩
    go_wp2
    go_ret2
    exact RetL.of rfl rfl hk
  · go_enter Tryd.func8, Tryd.ntmps8
    go_wp2_with fail
    refine cC.out.mono ?_
    rintro e w2 ⟨rfl, hk⟩
    go_wp2
    go_ret2
    exact RetL.of rfl rfl hk

theorem count_le (l : List UInt8) : Lib.countByte l 42 ≤ l.length := by unfold Lib.countByte; exact List.count_le_length

set_option maxHeartbeats 1000000 in
theorem least_any (s : ByteArray) (w : World) (hs : s.size ≤ maxLen) : Calls Tryd.prog 11 #[.string s] w (fun e w' => e = .returned (.int .i64 ((s.size - Lib.countByte s.data.toList 42 : Nat) : Int)) ∧ w' = w) := by
  have cC := Lib.hid (fun w1 => Tryd.strings_Count_one s 42 w1)
  have hn : Lib.countByte s.data.toList 42 ≤ s.size := by have := count_le s.data.toList; simpa using this
  unfold maxLen at hs
  generalize Lib.countByte s.data.toList 42 = n at cC hn ⊢
  go_enter Tryd.func11, Tryd.ntmps11
  go_wp2_with fail
  refine (cC.out _).mono ?_
  rintro e w2 ⟨rfl, rfl⟩
  go_wp2
  go_ret
  exact ⟨by go_num, rfl⟩
end Go.Proofs.YtolfpkjohlbfdaaDoor
