/-
  The contract of 'of': whether a text is not empty and all its bytes are of a class; for the closure of class, and for that of Server.
-/
import Derived.Test.YtpcfcbaapnkanaaCls
namespace Go.Proofs.Ytpcfcbaapnkanaa
open Go.RowKit

/-- A call that only answers a bool. -/
def RetB (b : Bool) (w : World) (e : Ending) (w' : World) : Prop := e = .returned (.bool b) ∧ w = w'
theorem RetB.of {b b' : Bool} {w : World} (h : b' = b) : RetB b w (.returned (.bool b')) w := ⟨by rw [h], rfl⟩

def ofB (p : UInt8 → Bool) (l : List UInt8) : Bool := l.all p && !l.isEmpty
def digB (c : UInt8) : Bool := decide (48 ≤ c.toNat ∧ c.toNat ≤ 57)

theorem take_snoc (s : ByteArray) (k : Nat) (h : k < s.size) : s.data.toList.take (k + 1) = s.data.toList.take k ++ [s[k]] := by
  rw [List.take_succ_eq_append_getElem (by simpa using h)]; rfl
theorem all_step {p : UInt8 → Bool} {s : ByteArray} {k : Nat} (h : k < s.size) (h1 : (s.data.toList.take k).all p = true) (h2 : p s[k] = true) : (s.data.toList.take (k + 1)).all p = true := by
  rw [take_snoc s k h, List.all_append, h1]; simp [h2]
theorem ofB_stop {p : UInt8 → Bool} {s : ByteArray} {k : Nat} (h : k < s.size) (h2 : p s[k] = false) : ofB p s.data.toList = false := by
  have hm : s[k] ∈ s.data.toList := by
    have : s.data.toList[k]'(by simpa using h) = s[k] := rfl
    rw [← this]; exact List.getElem_mem _
  have : s.data.toList.all p = false := by
    rw [Bool.eq_false_iff]; intro hc; rw [List.all_eq_true] at hc; have := hc _ hm; rw [h2] at this; cases this
  unfold ofB; rw [this]; rfl
theorem ofB_last {p : UInt8 → Bool} {s : ByteArray} {k : Nat} (h : ¬ k < s.size) (h1 : (s.data.toList.take k).all p = true) : (!s.toList.isEmpty) = ofB p s.data.toList := by
  rw [List.take_of_length_le (by simp; omega)] at h1
  unfold ofB; rw [h1, ByteArray.toList_eq]; rfl

set_option maxHeartbeats 1000000 in
set_option maxRecDepth 10000 in
theorem of_class (s : ByteArray) (cap : Bool) (more : ByteArray) (a b : Addr) (w : World) (hs : s.size ≤ maxLen) (ha : w.cell? a = some (.bool cap)) (hb : w.cell? b = some (.string more)) :
    Calls Try.prog 65 #[.string s, .func (.func 67) #[] #[.pointer (some a), .pointer (some b)]] w (RetB (ofB (classB cap more.data.toList) s.data.toList) w) := by
  unfold maxLen at hs
  have hcl : ∀ c : UInt8, Calls Try.prog 67 #[.int .u8 c.toNat, .pointer (some a), .pointer (some b)] w fun e w' => e = .returned (.bool (classB cap more.data.toList c)) ∧ w = w' := fun c => class1_any cap more c a b w ha hb
  have Hcl := Lib.hid hcl
  clear hcl ha hb
  generalize classB cap more.data.toList = p at Hcl ⊢
  go_enter Try.func65, Try.ntmps65
  go_wp2
  go_loop [8] (fun i => ∃ k : Nat, k ≤ s.size ∧ i = .int .i64 k ∧ (s.data.toList.take k).all p = true) (fun i => s.size - (intOf i).toNat)
  case atStart => exact ⟨0, Nat.zero_le _, rfl, rfl⟩
  case round =>
    obtain ⟨k, hk, rfl, hall⟩ := hrel
    have HA := Lib.hid hall
    clear hall
    by_cases hlt : k < s.size
    · cases hp : p s[k]
      · go_wp2_with (go_at_call 67; refine (Hcl.out _).mono ?_; rintro e w' ⟨rfl, rfl⟩)
        go_ret
        exact RetB.of (ofB_stop hlt hp).symm
      · go_wp2_with (go_at_call 67; refine (Hcl.out _).mono ?_; rintro e w' ⟨rfl, rfl⟩)
        go_round
        case rel => exact ⟨k + 1, by omega, by go_num, all_step hlt HA.out hp⟩
        case measure => simp [intOf]; omega
    · go_wp2
      go_ret
      exact RetB.of (ofB_last hlt HA.out)

set_option maxHeartbeats 1000000 in
set_option maxRecDepth 10000 in
theorem digit_any (c : UInt8) (w : World) : Calls Try.prog 81 #[.int .u8 c.toNat] w (RetB (digB c) w) := by
  have hc := c.toNat_lt
  by_cases h1 : 48 ≤ c.toNat ∧ c.toNat ≤ 57
  · have hB : digB c = true := by unfold digB; exact decide_eq_true h1
    rw [hB]
    obtain ⟨h1, h2⟩ := h1
    go_enter Try.func81, Try.ntmps81
    go_wp2
    go_ret
    exact RetB.of (by simp; try omega)
  · have hB : digB c = false := by unfold digB; exact decide_eq_false h1
    rw [hB]
    have g : c.toNat < 48 ∨ 57 < c.toNat := by omega
    clear hB h1
    rcases g with g | g
    all_goals
      go_enter Try.func81, Try.ntmps81
      go_wp2
      go_ret
      exact RetB.of (by simp; try omega)

set_option maxHeartbeats 1000000 in
set_option maxRecDepth 10000 in
theorem of_digit (s : ByteArray) (w : World) (hs : s.size ≤ maxLen) :
    Calls Try.prog 65 #[.string s, .func (.func 81) #[] #[]] w (RetB (ofB digB s.data.toList) w) := by
  unfold maxLen at hs
  have hcl : ∀ c : UInt8, Calls Try.prog 81 #[.int .u8 c.toNat] w fun e w' => e = .returned (.bool (digB c)) ∧ w = w' := fun c => digit_any c w
  have Hcl := Lib.hid hcl
  clear hcl
  generalize digB = p at Hcl ⊢
  go_enter Try.func65, Try.ntmps65
  go_wp2
  go_loop [8] (fun i => ∃ k : Nat, k ≤ s.size ∧ i = .int .i64 k ∧ (s.data.toList.take k).all p = true) (fun i => s.size - (intOf i).toNat)
  case atStart => exact ⟨0, Nat.zero_le _, rfl, rfl⟩
  case round =>
    obtain ⟨k, hk, rfl, hall⟩ := hrel
    have HA := Lib.hid hall
    clear hall
    by_cases hlt : k < s.size
    · cases hp : p s[k]
      · go_wp2_with (go_at_call 81; refine (Hcl.out _).mono ?_; rintro e w' ⟨rfl, rfl⟩)
        go_ret
        exact RetB.of (ofB_stop hlt hp).symm
      · go_wp2_with (go_at_call 81; refine (Hcl.out _).mono ?_; rintro e w' ⟨rfl, rfl⟩)
        go_round
        case rel => exact ⟨k + 1, by omega, by go_num, all_step hlt HA.out hp⟩
        case measure => simp [intOf]; omega
    · go_wp2
      go_ret
      exact RetB.of (ofB_last hlt HA.out)
end Go.Proofs.Ytpcfcbaapnkanaa
