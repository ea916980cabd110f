/-
  The document's own Check, Take, fixed, Number, digits and Digits of records.
-/
import Derived.Test.YtepbbdeolplhfaaDoorLin
import Derived.Test.YtepbbdeolplhfaaDoorMat
namespace Go.Proofs.YtepbbdeolplhfaaDoor
open Go.RowKit

set_option maxHeartbeats 8000000 in
theorem rcheck1 (code n : Int) (ok : Bool) (text : ByteArray) (w : World) (_ht : text.size ≤ maxLen) : Calls Tryd.prog 16 #[inV 1 code n ok text] w (Ret (.int .i64 (chk 1 code n ok text.size)) w) := by
  unfold inV
  unfold maxLen at _ht
  have he : (text.toList.isEmpty = true ∧ (text.size : Int) = 0) ∨ (text.toList.isEmpty = false ∧ 0 < (text.size : Int)) := empty_or text
  rcases he with ⟨he, hz⟩ | ⟨he, hz⟩
  all_goals
    have HZ := Lib.hid hz
    clear hz
    by_cases hn : n = 0
    all_goals by_cases hc : code = 0
    all_goals cases ok
    all_goals
      go_enter Tryd.func16, Tryd.ntmps16
      go_wp2
      all_goals
        have hz := HZ.out
        go_ret
        refine Ret.int ?_ (by repeat (first | exact Keeps.refl _ | refine Keeps.alloc ?_ _))
        clear he HZ _ht
        generalize text.size = m at *
        simp [chk] at * <;> omega

set_option maxHeartbeats 8000000 in
theorem rcheck2 (code n : Int) (ok : Bool) (text : ByteArray) (w : World) (_ht : text.size ≤ maxLen) : Calls Tryd.prog 16 #[inV 2 code n ok text] w (Ret (.int .i64 (chk 2 code n ok text.size)) w) := by
  unfold inV
  unfold maxLen at _ht
  have he : (text.toList.isEmpty = true ∧ (text.size : Int) = 0) ∨ (text.toList.isEmpty = false ∧ 0 < (text.size : Int)) := empty_or text
  rcases he with ⟨he, hz⟩ | ⟨he, hz⟩
  all_goals
    have HZ := Lib.hid hz
    clear hz
    by_cases hn : n = 0
    all_goals by_cases hc : code = 0
    all_goals cases ok
    all_goals
      go_enter Tryd.func16, Tryd.ntmps16
      go_wp2
      all_goals
        have hz := HZ.out
        go_ret
        refine Ret.int ?_ (by repeat (first | exact Keeps.refl _ | refine Keeps.alloc ?_ _))
        clear he HZ _ht
        generalize text.size = m at *
        simp [chk] at * <;> omega

set_option maxHeartbeats 8000000 in
theorem rcheck3 (code n : Int) (ok : Bool) (text : ByteArray) (w : World) (_ht : text.size ≤ maxLen) : Calls Tryd.prog 16 #[inV 3 code n ok text] w (Ret (.int .i64 (chk 3 code n ok text.size)) w) := by
  unfold inV
  unfold maxLen at _ht
  have he : (text.toList.isEmpty = true ∧ (text.size : Int) = 0) ∨ (text.toList.isEmpty = false ∧ 0 < (text.size : Int)) := empty_or text
  rcases he with ⟨he, hz⟩ | ⟨he, hz⟩
  all_goals
    have HZ := Lib.hid hz
    clear hz
    by_cases hn : n = 0
    all_goals by_cases hc : code = 0
    all_goals cases ok
    all_goals
      go_enter Tryd.func16, Tryd.ntmps16
      go_wp2
      all_goals
        have hz := HZ.out
        go_ret
        refine Ret.int ?_ (by repeat (first | exact Keeps.refl _ | refine Keeps.alloc ?_ _))
        clear he HZ _ht
        generalize text.size = m at *
        simp [chk] at * <;> omega

set_option maxHeartbeats 8000000 in
theorem rcheck4 (code n : Int) (ok : Bool) (text : ByteArray) (w : World) (_ht : text.size ≤ maxLen) : Calls Tryd.prog 16 #[inV 4 code n ok text] w (Ret (.int .i64 (chk 4 code n ok text.size)) w) := by
  unfold inV
  unfold maxLen at _ht
  have he : (text.toList.isEmpty = true ∧ (text.size : Int) = 0) ∨ (text.toList.isEmpty = false ∧ 0 < (text.size : Int)) := empty_or text
  rcases he with ⟨he, hz⟩ | ⟨he, hz⟩
  all_goals
    have HZ := Lib.hid hz
    clear hz
    by_cases hn : n = 0
    all_goals by_cases hc : code = 0
    all_goals cases ok
    all_goals
      go_enter Tryd.func16, Tryd.ntmps16
      go_wp2
      all_goals
        have hz := HZ.out
        go_ret
        refine Ret.int ?_ (by repeat (first | exact Keeps.refl _ | refine Keeps.alloc ?_ _))
        clear he HZ _ht
        generalize text.size = m at *
        simp [chk] at * <;> omega

set_option maxHeartbeats 8000000 in
theorem rcheck5 (code n : Int) (ok : Bool) (text : ByteArray) (w : World) (_ht : text.size ≤ maxLen) : Calls Tryd.prog 16 #[inV 5 code n ok text] w (Ret (.int .i64 (chk 5 code n ok text.size)) w) := by
  unfold inV
  unfold maxLen at _ht
  have he : (text.toList.isEmpty = true ∧ (text.size : Int) = 0) ∨ (text.toList.isEmpty = false ∧ 0 < (text.size : Int)) := empty_or text
  rcases he with ⟨he, hz⟩ | ⟨he, hz⟩
  all_goals
    have HZ := Lib.hid hz
    clear hz
    by_cases hn : n = 0
    all_goals by_cases hc : code = 0
    all_goals cases ok
    all_goals
      go_enter Tryd.func16, Tryd.ntmps16
      go_wp2
      all_goals
        have hz := HZ.out
        go_ret
        refine Ret.int ?_ (by repeat (first | exact Keeps.refl _ | refine Keeps.alloc ?_ _))
        clear he HZ _ht
        generalize text.size = m at *
        simp [chk] at * <;> omega

set_option maxHeartbeats 8000000 in
theorem rcheck6 (code n : Int) (ok : Bool) (text : ByteArray) (w : World) (_ht : text.size ≤ maxLen) : Calls Tryd.prog 16 #[inV 6 code n ok text] w (Ret (.int .i64 (chk 6 code n ok text.size)) w) := by
  unfold inV
  unfold maxLen at _ht
  have he : (text.toList.isEmpty = true ∧ (text.size : Int) = 0) ∨ (text.toList.isEmpty = false ∧ 0 < (text.size : Int)) := empty_or text
  rcases he with ⟨he, hz⟩ | ⟨he, hz⟩
  all_goals
    have HZ := Lib.hid hz
    clear hz
    by_cases hn : n = 0
    all_goals by_cases hc : code = 0
    all_goals cases ok
    all_goals
      go_enter Tryd.func16, Tryd.ntmps16
      go_wp2
      all_goals
        have hz := HZ.out
        go_ret
        refine Ret.int ?_ (by repeat (first | exact Keeps.refl _ | refine Keeps.alloc ?_ _))
        clear he HZ _ht
        generalize text.size = m at *
        simp [chk] at * <;> omega

set_option maxHeartbeats 2000000 in
theorem rcheckNone (k code n : Int) (ok : Bool) (text : ByteArray) (w : World) (h : k < 1 ∨ 6 < k) : Calls Tryd.prog 16 #[inV k code n ok text] w (Ret (.int .i64 9) w) := by
  unfold inV
  rcases h with h | h
  all_goals
    go_enter Tryd.func16, Tryd.ntmps16
    go_wp2
    go_ret
    exact Ret.of rfl ((Keeps.refl _).alloc _)
theorem rcheck_any (k code n : Int) (ok : Bool) (text : ByteArray) (w : World) (ht : text.size ≤ maxLen) : Calls Tryd.prog 16 #[inV k code n ok text] w (Ret (.int .i64 (chk k code n ok text.size)) w) := by
  by_cases h : k < 1 ∨ 6 < k
  · have e : chk k code n ok text.size = 9 := by unfold chk; rw [if_neg (by omega), if_neg (by omega), if_neg (by omega), if_neg (by omega), if_neg (by omega), if_neg (by omega)]
    rw [e]; exact rcheckNone k code n ok text w h
  · rcases (show k = 1 ∨ k = 2 ∨ k = 3 ∨ k = 4 ∨ k = 5 ∨ k = 6 by omega) with rfl | rfl | rfl | rfl | rfl | rfl
    · exact rcheck1 code n ok text w ht
    · exact rcheck2 code n ok text w ht
    · exact rcheck3 code n ok text w ht
    · exact rcheck4 code n ok text w ht
    · exact rcheck5 code n ok text w ht
    · exact rcheck6 code n ok text w ht
end Go.Proofs.YtepbbdeolplhfaaDoor
