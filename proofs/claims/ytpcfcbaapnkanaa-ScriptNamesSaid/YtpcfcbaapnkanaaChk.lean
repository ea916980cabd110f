/-
  The contracts of formOf and Check of package record.
-/
import Derived.Test.YtpcfcbaapnkanaaBase
namespace Go.Proofs.Ytpcfcbaapnkanaa
open Go.RowKit

/-- An input as a value. -/
def inV (kind code n : Int) (ok : Bool) (text : ByteArray) : Value := .agg #[.int .i64 kind, .int .i64 code, .int .i64 n, .bool ok, .string text]
/-- A form as a value. -/
def formV (text low high code : Int) (ok : Bool) : Value := .agg #[.int .i64 text, .int .i64 low, .int .i64 high, .int .i64 code, .bool ok]

set_option maxHeartbeats 2000000 in
theorem form1 (w : World) : Calls Try.prog 69 #[.int .i64 1] w (fun e w' => e = .returned (.tuple #[formV 4096 0 0 0 false, .bool true]) ∧ w' = w.alloc (.cells #[.int .i64 4096, .int .i64 0, .int .i64 0, .int .i64 0, .bool false] 97)) := by
  go_enter Try.func69, Try.ntmps69
  go_wp2
  exact bodyPost_ret (v := .tuple #[formV 4096 0 0 0 false, .bool true]) (by simp [results, Try.results69, go_sem, formV]) rfl ⟨rfl, rfl⟩

set_option maxHeartbeats 2000000 in
theorem form2 (w : World) : Calls Try.prog 69 #[.int .i64 2] w (fun e w' => e = .returned (.tuple #[formV 0 4097 1152921504606846975 0 false, .bool true]) ∧ w' = w.alloc (.cells #[.int .i64 0, .int .i64 4097, .int .i64 1152921504606846975, .int .i64 0, .bool false] 97)) := by
  go_enter Try.func69, Try.ntmps69
  go_wp2
  exact bodyPost_ret (v := .tuple #[formV 0 4097 1152921504606846975 0 false, .bool true]) (by simp [results, Try.results69, go_sem, formV]) rfl ⟨rfl, rfl⟩

set_option maxHeartbeats 2000000 in
theorem form3 (w : World) : Calls Try.prog 69 #[.int .i64 3] w (fun e w' => e = .returned (.tuple #[formV 0 0 1152921504606846976 0 true, .bool true]) ∧ w' = w.alloc (.cells #[.int .i64 0, .int .i64 0, .int .i64 1152921504606846976, .int .i64 0, .bool true] 97)) := by
  go_enter Try.func69, Try.ntmps69
  go_wp2
  exact bodyPost_ret (v := .tuple #[formV 0 0 1152921504606846976 0 true, .bool true]) (by simp [results, Try.results69, go_sem, formV]) rfl ⟨rfl, rfl⟩

set_option maxHeartbeats 2000000 in
theorem form4 (w : World) : Calls Try.prog 69 #[.int .i64 4] w (fun e w' => e = .returned (.tuple #[formV 0 0 1152921504606846976 0 false, .bool true]) ∧ w' = w.alloc (.cells #[.int .i64 0, .int .i64 0, .int .i64 1152921504606846976, .int .i64 0, .bool false] 97)) := by
  go_enter Try.func69, Try.ntmps69
  go_wp2
  exact bodyPost_ret (v := .tuple #[formV 0 0 1152921504606846976 0 false, .bool true]) (by simp [results, Try.results69, go_sem, formV]) rfl ⟨rfl, rfl⟩

set_option maxHeartbeats 2000000 in
theorem form5 (w : World) : Calls Try.prog 69 #[.int .i64 5] w (fun e w' => e = .returned (.tuple #[formV 300 0 0 255 false, .bool true]) ∧ w' = w.alloc (.cells #[.int .i64 300, .int .i64 0, .int .i64 0, .int .i64 255, .bool false] 97)) := by
  go_enter Try.func69, Try.ntmps69
  go_wp2
  exact bodyPost_ret (v := .tuple #[formV 300 0 0 255 false, .bool true]) (by simp [results, Try.results69, go_sem, formV]) rfl ⟨rfl, rfl⟩

set_option maxHeartbeats 2000000 in
theorem form6 (w : World) : Calls Try.prog 69 #[.int .i64 6] w (fun e w' => e = .returned (.tuple #[formV 0 0 0 0 false, .bool true]) ∧ w' = w.alloc (.cells #[.int .i64 0, .int .i64 0, .int .i64 0, .int .i64 0, .bool false] 97)) := by
  go_enter Try.func69, Try.ntmps69
  go_wp2
  exact bodyPost_ret (v := .tuple #[formV 0 0 0 0 false, .bool true]) (by simp [results, Try.results69, go_sem, formV]) rfl ⟨rfl, rfl⟩

set_option maxHeartbeats 2000000 in
theorem formNone (k : Int) (w : World) (h : k < 1 ∨ 6 < k) : Calls Try.prog 69 #[.int .i64 k] w (fun e w' => e = .returned (.tuple #[formV 0 0 0 0 false, .bool false]) ∧ w' = w.alloc (.cells #[.int .i64 0, .int .i64 0, .int .i64 0, .int .i64 0, .bool false] 97)) := by
  rcases h with h | h
  all_goals
    go_enter Try.func69, Try.ntmps69
    go_wp2
    exact bodyPost_ret (v := .tuple #[formV 0 0 0 0 false, .bool false]) (by simp [results, Try.results69, go_sem, formV]) rfl ⟨rfl, rfl⟩

/-- What is wrong with an input. -/
def chk (kind code n : Int) (ok : Bool) (len : Int) : Int :=
  if kind = 1 then (if n < 0 ∨ n > 0 ∨ code < 0 ∨ code > 0 ∨ ok = true then 2 else if len > 4096 then 4 else 0)
  else if kind = 2 then (if n < 4097 ∨ n > 1152921504606846975 ∨ code < 0 ∨ code > 0 ∨ ok = true ∨ len ≠ 0 then 2 else 0)
  else if kind = 3 then (if n < 0 ∨ n > 1152921504606846976 ∨ code < 0 ∨ code > 0 ∨ len ≠ 0 then 2 else 0)
  else if kind = 4 then (if n < 0 ∨ n > 1152921504606846976 ∨ code < 0 ∨ code > 0 ∨ ok = true ∨ len ≠ 0 then 2 else 0)
  else if kind = 5 then (if n < 0 ∨ n > 0 ∨ code < 0 ∨ code > 255 ∨ ok = true then 2 else if len > 300 then 4 else 0)
  else if kind = 6 then (if n < 0 ∨ n > 0 ∨ code < 0 ∨ code > 0 ∨ ok = true ∨ len ≠ 0 then 2 else 0)
  else 9

set_option maxHeartbeats 4000000 in
theorem checkNone (k code n : Int) (ok : Bool) (text : ByteArray) (w : World) (h : k < 1 ∨ 6 < k) : Calls Try.prog 51 #[inV k code n ok text] w (Ret (.int .i64 9) w) := by
  have cF := Lib.hid (fun w => formNone k w h)
  clear h
  unfold inV
  unfold formV at cF
  go_enter Try.func51, Try.ntmps51
  go_wp2_with fail
  refine (cF.out _).mono ?_
  rintro e w1 ⟨rfl, rfl⟩
  go_wp2
  go_ret
  exact Ret.of rfl (by repeat (first | exact Keeps.refl _ | refine Keeps.alloc ?_ _))

theorem empty_or (text : ByteArray) : (text.toList.isEmpty = true ∧ (text.size : Int) = 0) ∨ (text.toList.isEmpty = false ∧ 0 < (text.size : Int)) := by
  rw [ByteArray.toList_eq]
  have hl : text.data.toList.length = text.size := by simp
  cases h : text.data.toList with
  | nil => left; rw [h] at hl; rw [← hl]; exact ⟨rfl, rfl⟩
  | cons a l => right; rw [h] at hl; rw [← hl]; exact ⟨rfl, by simp⟩

set_option maxHeartbeats 8000000 in
theorem check1 (code n : Int) (ok : Bool) (text : ByteArray) (w : World) (_ht : text.size ≤ maxLen) : Calls Try.prog 51 #[inV 1 code n ok text] w (Ret (.int .i64 (chk 1 code n ok text.size)) w) := by
  have cF := Lib.hid (fun w => form1 w)
  unfold inV
  unfold formV at cF
  unfold maxLen at _ht
  have he : (text.toList.isEmpty = true ∧ (text.size : Int) = 0) ∨ (text.toList.isEmpty = false ∧ 0 < (text.size : Int)) := empty_or text
  rcases he with ⟨he, hz⟩ | ⟨he, hz⟩
  all_goals
    have HZ := Lib.hid hz
    clear hz
    go_enter Try.func51, Try.ntmps51
    go_wp2_with fail
    refine (cF.out _).mono ?_
    rintro e w1 ⟨rfl, rfl⟩
    go_wp2
    all_goals
      have hz := HZ.out
      go_ret
      refine Ret.int ?_ (by repeat (first | exact Keeps.refl _ | refine Keeps.alloc ?_ _))
      clear he HZ cF _ht
      generalize text.size = m at *
      cases ok <;> simp [chk] at * <;> omega

set_option maxHeartbeats 8000000 in
theorem check2 (code n : Int) (ok : Bool) (text : ByteArray) (w : World) (_ht : text.size ≤ maxLen) : Calls Try.prog 51 #[inV 2 code n ok text] w (Ret (.int .i64 (chk 2 code n ok text.size)) w) := by
  have cF := Lib.hid (fun w => form2 w)
  unfold inV
  unfold formV at cF
  unfold maxLen at _ht
  have he : (text.toList.isEmpty = true ∧ (text.size : Int) = 0) ∨ (text.toList.isEmpty = false ∧ 0 < (text.size : Int)) := empty_or text
  rcases he with ⟨he, hz⟩ | ⟨he, hz⟩
  all_goals
    have HZ := Lib.hid hz
    clear hz
    go_enter Try.func51, Try.ntmps51
    go_wp2_with fail
    refine (cF.out _).mono ?_
    rintro e w1 ⟨rfl, rfl⟩
    go_wp2
    all_goals
      have hz := HZ.out
      go_ret
      refine Ret.int ?_ (by repeat (first | exact Keeps.refl _ | refine Keeps.alloc ?_ _))
      clear he HZ cF _ht
      generalize text.size = m at *
      cases ok <;> simp [chk] at * <;> omega

set_option maxHeartbeats 8000000 in
theorem check3 (code n : Int) (ok : Bool) (text : ByteArray) (w : World) (_ht : text.size ≤ maxLen) : Calls Try.prog 51 #[inV 3 code n ok text] w (Ret (.int .i64 (chk 3 code n ok text.size)) w) := by
  have cF := Lib.hid (fun w => form3 w)
  unfold inV
  unfold formV at cF
  unfold maxLen at _ht
  have he : (text.toList.isEmpty = true ∧ (text.size : Int) = 0) ∨ (text.toList.isEmpty = false ∧ 0 < (text.size : Int)) := empty_or text
  rcases he with ⟨he, hz⟩ | ⟨he, hz⟩
  all_goals
    have HZ := Lib.hid hz
    clear hz
    go_enter Try.func51, Try.ntmps51
    go_wp2_with fail
    refine (cF.out _).mono ?_
    rintro e w1 ⟨rfl, rfl⟩
    go_wp2
    all_goals
      have hz := HZ.out
      go_ret
      refine Ret.int ?_ (by repeat (first | exact Keeps.refl _ | refine Keeps.alloc ?_ _))
      clear he HZ cF _ht
      generalize text.size = m at *
      cases ok <;> simp [chk] at * <;> omega

set_option maxHeartbeats 8000000 in
theorem check4 (code n : Int) (ok : Bool) (text : ByteArray) (w : World) (_ht : text.size ≤ maxLen) : Calls Try.prog 51 #[inV 4 code n ok text] w (Ret (.int .i64 (chk 4 code n ok text.size)) w) := by
  have cF := Lib.hid (fun w => form4 w)
  unfold inV
  unfold formV at cF
  unfold maxLen at _ht
  have he : (text.toList.isEmpty = true ∧ (text.size : Int) = 0) ∨ (text.toList.isEmpty = false ∧ 0 < (text.size : Int)) := empty_or text
  rcases he with ⟨he, hz⟩ | ⟨he, hz⟩
  all_goals
    have HZ := Lib.hid hz
    clear hz
    go_enter Try.func51, Try.ntmps51
    go_wp2_with fail
    refine (cF.out _).mono ?_
    rintro e w1 ⟨rfl, rfl⟩
    go_wp2
    all_goals
      have hz := HZ.out
      go_ret
      refine Ret.int ?_ (by repeat (first | exact Keeps.refl _ | refine Keeps.alloc ?_ _))
      clear he HZ cF _ht
      generalize text.size = m at *
      cases ok <;> simp [chk] at * <;> omega

set_option maxHeartbeats 8000000 in
theorem check5 (code n : Int) (ok : Bool) (text : ByteArray) (w : World) (_ht : text.size ≤ maxLen) : Calls Try.prog 51 #[inV 5 code n ok text] w (Ret (.int .i64 (chk 5 code n ok text.size)) w) := by
  have cF := Lib.hid (fun w => form5 w)
  unfold inV
  unfold formV at cF
  unfold maxLen at _ht
  have he : (text.toList.isEmpty = true ∧ (text.size : Int) = 0) ∨ (text.toList.isEmpty = false ∧ 0 < (text.size : Int)) := empty_or text
  rcases he with ⟨he, hz⟩ | ⟨he, hz⟩
  all_goals
    have HZ := Lib.hid hz
    clear hz
    go_enter Try.func51, Try.ntmps51
    go_wp2_with fail
    refine (cF.out _).mono ?_
    rintro e w1 ⟨rfl, rfl⟩
    go_wp2
    all_goals
      have hz := HZ.out
      go_ret
      refine Ret.int ?_ (by repeat (first | exact Keeps.refl _ | refine Keeps.alloc ?_ _))
      clear he HZ cF _ht
      generalize text.size = m at *
      cases ok <;> simp [chk] at * <;> omega

set_option maxHeartbeats 8000000 in
theorem check6 (code n : Int) (ok : Bool) (text : ByteArray) (w : World) (_ht : text.size ≤ maxLen) : Calls Try.prog 51 #[inV 6 code n ok text] w (Ret (.int .i64 (chk 6 code n ok text.size)) w) := by
  have cF := Lib.hid (fun w => form6 w)
  unfold inV
  unfold formV at cF
  unfold maxLen at _ht
  have he : (text.toList.isEmpty = true ∧ (text.size : Int) = 0) ∨ (text.toList.isEmpty = false ∧ 0 < (text.size : Int)) := empty_or text
  rcases he with ⟨he, hz⟩ | ⟨he, hz⟩
  all_goals
    have HZ := Lib.hid hz
    clear hz
    go_enter Try.func51, Try.ntmps51
    go_wp2_with fail
    refine (cF.out _).mono ?_
    rintro e w1 ⟨rfl, rfl⟩
    go_wp2
    all_goals
      have hz := HZ.out
      go_ret
      refine Ret.int ?_ (by repeat (first | exact Keeps.refl _ | refine Keeps.alloc ?_ _))
      clear he HZ cF _ht
      generalize text.size = m at *
      cases ok <;> simp [chk] at * <;> omega

theorem check_any (k code n : Int) (ok : Bool) (text : ByteArray) (w : World) (ht : text.size ≤ maxLen) : Calls Try.prog 51 #[inV k code n ok text] w (Ret (.int .i64 (chk k code n ok text.size)) w) := by
  rcases (show k = 1 ∨ k = 2 ∨ k = 3 ∨ k = 4 ∨ k = 5 ∨ k = 6 ∨ (k < 1 ∨ 6 < k) by omega) with rfl | rfl | rfl | rfl | rfl | rfl | h
  · exact check1 code n ok text w ht
  · exact check2 code n ok text w ht
  · exact check3 code n ok text w ht
  · exact check4 code n ok text w ht
  · exact check5 code n ok text w ht
  · exact check6 code n ok text w ht
  · have : chk k code n ok text.size = 9 := by unfold chk; rw [if_neg (by omega), if_neg (by omega), if_neg (by omega), if_neg (by omega), if_neg (by omega), if_neg (by omega)]
    rw [this]; exact checkNone k code n ok text w h
end Go.Proofs.Ytpcfcbaapnkanaa
