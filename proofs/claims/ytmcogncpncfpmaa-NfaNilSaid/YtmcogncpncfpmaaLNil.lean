/-
  The walk of the statement on a nil object of package nfa.
-/
import Derived.Test.YtmcogncpncfpmaaLiv
namespace Go.Proofs.Ytmcogncpncfpmaa
open Go.RowKit

set_option maxHeartbeats 2000000 in
theorem nil_any (A : Option Addr) (n cp : Nat) (c : Int) (s : ByteArray) (w : World) (hn : n ≤ maxLen) (hs : s.size ≤ maxLen) : Calls Try.prog 6 #[.slice A n cp, .int .u8 c, .string s] w (RetQ true w) := by
  have cL := Lib.hid (fun w => lives_any w)
  have cP := Lib.hid (fun w => pattern_nil w)
  have cN := Lib.hid (fun w => states_nil w)
  have cS := Lib.hid (fun w => start_nil w)
  have cT := Lib.hid (fun w => step_nil A n cp c w)
  have cA := Lib.hid (fun w => accepts_nil A n cp w)
  have cR := Lib.hid (fun w => run_nil s w)
  unfold maxLen at hn hs
  by_cases h1 : 200 < n
  · go_enter Try.func6, Try.ntmps6
    go_wp2_with fail
    refine (cL.out _).mono ?_
    rintro e w2 ⟨rfl, h⟩
    go_wp2
    go_ret
    exact RetQ.of rfl h
  · by_cases h2 : 200 < s.size
    · go_enter Try.func6, Try.ntmps6
      go_wp2_with fail
      refine (cL.out _).mono ?_
      rintro e w2 ⟨rfl, h⟩
      go_wp2
      go_ret
      exact RetQ.of rfl h
    · go_enter Try.func6, Try.ntmps6
      go_wp2_with fail
      refine (cL.out _).mono ?_
      rintro e w2 ⟨rfl, h⟩
      go_wp2_with fail
      refine (cP.out _).mono ?_
      rintro e w3 ⟨rfl, h3⟩
      have H3 := Lib.hid (Keeps.trans h h3)
      clear h h3
      go_wp2_with fail
      refine (cN.out _).mono ?_
      rintro e w4 ⟨rfl, rfl⟩
      go_wp2_with fail
      refine (cS.out _).mono ?_
      rintro e w4 ⟨rfl, rfl⟩
      go_wp2_with fail
      refine (cT.out _).mono ?_
      rintro e w4 ⟨rfl, rfl⟩
      go_wp2_with fail
      refine (cA.out _).mono ?_
      rintro e w4 ⟨rfl, rfl⟩
      go_wp2_with fail
      refine (cR.out _).mono ?_
      rintro e w4 ⟨rfl, rfl⟩
      go_wp2
      go_ret
      exact RetQ.of (by simp) H3.out
end Go.Proofs.Ytmcogncpncfpmaa
