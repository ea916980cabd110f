/-
  The walk of the statement that a run matches what the glob matches, step by step.
-/
import Derived.Test.YtmcogncpncfpmaaDoorCor
import Derived.Test.YtmcogncpncfpmaaDoorNrm
import Derived.Test.YtmcogncpncfpmaaDoorLiv
namespace Go.Proofs.YtmcogncpncfpmaaDoor
open Go.RowKit

set_option maxHeartbeats 1000000 in
theorem light_any (p t : ByteArray) (w : World) (hp : p.size ≤ maxLen) (ht : t.size ≤ maxLen) : Calls Tryd.prog 5 #[.string p, .string t] w (RetQ (decide (p.size ≤ 300 ∧ t.size ≤ 260)) w) := by
  unfold maxLen at hp ht
  by_cases h1 : p.size ≤ 300
  · by_cases h2 : t.size ≤ 260
    · rw [decide_eq_true (And.intro h1 h2)]
      go_enter Tryd.func5, Tryd.ntmps5
      go_wp2
      go_ret
      exact RetQ.of (by simp; omega) (Keeps.refl _)
    · rw [decide_eq_false (fun h => h2 h.2)]
      go_enter Tryd.func5, Tryd.ntmps5
      go_wp2
      go_ret
      exact RetQ.of (by simp; omega) (Keeps.refl _)
  · rw [decide_eq_false (fun h => h1 h.1)]
    go_enter Tryd.func5, Tryd.ntmps5
    go_wp2
    go_ret
    exact RetQ.of (by first | rfl | (simp; omega)) (Keeps.refl _)

set_option maxHeartbeats 1000000 in
theorem nrun_big (p t : ByteArray) (fo : Bool) (w : World) (hp : p.size ≤ maxLen) (ht : t.size ≤ maxLen) (g : ¬ (p.size ≤ 300 ∧ t.size ≤ 260)) :
    Calls Tryd.prog 3 #[.string p, .bool fo, .string t] w (RetQ true w) := by
  have cL := Lib.hid (fun w => lives_any w)
  have cG := Lib.hid (fun w => light_any p t w hp ht)
  rw [decide_eq_false g] at cG
  clear hp ht g
  go_enter Tryd.func3, Tryd.ntmps3
  go_wp2_with fail
  refine (cL.out _).mono ?_
  rintro e w2 ⟨rfl, h⟩
  have K2 := Lib.hid h
  clear h
  go_wp2_with fail
  refine (cG.out _).mono ?_
  rintro e w3 ⟨rfl, h⟩
  have k3 := K2.out.trans h
  clear h
  go_wp2
  go_ret
  exact RetQ.of rfl k3

set_option maxHeartbeats 1000000 in
theorem nrun_bad (p t : ByteArray) (fo : Bool) (w : World) (hp : p.size ≤ 300) (ht : t.size ≤ 260) (hc : checkI p.data.toList ≠ 0) :
    Calls Tryd.prog 3 #[.string p, .bool fo, .string t] w (RetQ true w) := by
  have cL := Lib.hid (fun w => lives_any w)
  have cG := Lib.hid (fun w => light_any p t w (by unfold maxLen; omega) (by unfold maxLen; omega))
  rw [decide_eq_true (And.intro hp ht)] at cG
  have cN : Hid (∀ w1, Calls Tryd.prog 6 #[.string p, .bool fo] w1 (fun e w' => e = .returned (.tuple #[.pointer none, .int .i64 (checkI p.data.toList)]) ∧ Keeps w1 w')) := Lib.hid (fun w1 => (new_any p fo w1 (by unfold maxLen; omega)).mono (by
    rintro e w' (⟨_, h, k⟩ | ⟨h, _⟩)
    · exact ⟨h, k⟩
    · exact absurd h hc))
  have cC := Lib.hid (fun w1 => check_any p w1)
  unfold RetI at cC
  have hc' : (checkI p.data.toList == 0) = false := by simpa using hc
  clear hp ht hc
  generalize checkI p.data.toList = c at cN cC hc'
  go_enter Tryd.func3, Tryd.ntmps3
  go_wp2_with fail
  refine (cL.out _).mono ?_
  rintro e w2 ⟨rfl, h⟩
  have K2 := Lib.hid h
  clear h
  go_wp2_with fail
  refine (cG.out _).mono ?_
  rintro e w3 ⟨rfl, h⟩
  have K3 := Lib.hid (K2.out.trans h)
  clear h
  go_wp2_with fail
  refine (cN.out _).mono ?_
  rintro e w4 ⟨rfl, h⟩
  have K4 := Lib.hid (K3.out.trans h)
  clear h
  go_wp2_with fail
  refine (cC.out _).mono ?_
  rintro e w5 ⟨rfl, h⟩
  have k5 := K4.out.trans h
  clear h
  go_wp2
  go_ret
  exact RetQ.of (by simp) k5
end Go.Proofs.YtmcogncpncfpmaaDoor
