/-
  The contracts of the document's own answers on identifiers: letters, digits, among, colon, host, port, Server.
-/
import Derived.Test.YtjdlpfkcikomfabLPar
namespace Go.Proofs.Ytjdlpfkcikomfab
open Go.RowKit

def letterB (c : UInt8) : Bool := decide (97 ≤ c.toNat ∧ c.toNat ≤ 122) || decide (65 ≤ c.toNat ∧ c.toNat ≤ 90)
def amongB (l : List UInt8) (c : UInt8) : Bool := l.any fun x => x.toNat == c.toNat

set_option maxHeartbeats 1000000 in
theorem letter_any (c : UInt8) (w : World) : Calls Try.prog 36 #[.int .u8 c.toNat] w (RetB (letterB c) w) := by
  have hc := c.toNat_lt
  have g : (c.toNat < 65 ∧ letterB c = false) ∨ ((65 ≤ c.toNat ∧ c.toNat ≤ 90) ∧ letterB c = true) ∨ ((90 < c.toNat ∧ c.toNat < 97) ∧ letterB c = false) ∨ ((97 ≤ c.toNat ∧ c.toNat ≤ 122) ∧ letterB c = true) ∨ (122 < c.toNat ∧ letterB c = false) := by
    unfold letterB
    rcases (show c.toNat < 65 ∨ (65 ≤ c.toNat ∧ c.toNat ≤ 90) ∨ (90 < c.toNat ∧ c.toNat < 97) ∨ (97 ≤ c.toNat ∧ c.toNat ≤ 122) ∨ 122 < c.toNat by omega) with h | h | h | h | h
    · left; exact ⟨h, by simp; omega⟩
    · right; left; exact ⟨h, by simp; omega⟩
    · right; right; left; exact ⟨h, by simp; omega⟩
    · right; right; right; left; exact ⟨h, by simp; omega⟩
    · right; right; right; right; exact ⟨h, by simp; omega⟩
  rcases g with ⟨h, hl⟩ | ⟨⟨h, h'⟩, hl⟩ | ⟨⟨h, h'⟩, hl⟩ | ⟨⟨h, h'⟩, hl⟩ | ⟨h, hl⟩
  all_goals
    rw [hl]
    clear hl
    go_enter Try.func36, Try.ntmps36
    go_wp2
    go_ret
    exact RetB.of (by simp; try omega)

set_option maxHeartbeats 1000000 in
theorem digit37 (c : UInt8) (w : World) : Calls Try.prog 37 #[.int .u8 c.toNat] w (RetB (digB c) w) := by
  have hc := c.toNat_lt
  by_cases h1 : 48 ≤ c.toNat ∧ c.toNat ≤ 57
  · have hB : digB c = true := by unfold digB; exact decide_eq_true h1
    rw [hB]
    obtain ⟨h1, h2⟩ := h1
    clear hB
    go_enter Try.func37, Try.ntmps37
    go_wp2
    go_ret
    exact RetB.of (by simp; try omega)
  · have hB : digB c = false := by unfold digB; exact decide_eq_false h1
    rw [hB]
    have g : c.toNat < 48 ∨ 57 < c.toNat := by omega
    clear hB h1
    rcases g with g | g
    all_goals
      go_enter Try.func37, Try.ntmps37
      go_wp2
      go_ret
      exact RetB.of (by simp; try omega)

theorem among_succ {s : ByteArray} {c : UInt8} {k : Nat} (h : k < s.size) (h0 : amongB (s.data.toList.take k) c = false) (h1 : ¬ s[k].toNat = c.toNat) : amongB (s.data.toList.take (k + 1)) c = false := by
  unfold amongB at h0 ⊢
  rw [take_snoc s k h, List.any_append, h0]; simp [h1]
theorem among_hit {s : ByteArray} {c : UInt8} {k : Nat} (h : k < s.size) (h1 : s[k].toNat = c.toNat) : amongB s.data.toList c = true := by
  unfold amongB
  rw [List.any_eq_true]
  refine ⟨s[k], ?_, by simp [h1]⟩
  have : s.data.toList[k]'(by simpa using h) = s[k] := rfl
  rw [← this]; exact List.getElem_mem _
theorem among_end {s : ByteArray} {c : UInt8} {k : Nat} (h : ¬ k < s.size) (h0 : amongB (s.data.toList.take k) c = false) : amongB s.data.toList c = false := by
  rw [List.take_of_length_le (by simp; omega)] at h0; exact h0

set_option maxHeartbeats 1000000 in
theorem among_any (s : ByteArray) (c : UInt8) (w : World) (hs : s.size ≤ maxLen) : Calls Try.prog 38 #[.int .u8 c.toNat, .string s] w (RetB (amongB s.data.toList c) w) := by
  unfold maxLen at hs
  go_enter Try.func38, Try.ntmps38
  go_wp2
  go_loop [5] (fun i => ∃ k : Nat, k ≤ s.size ∧ i = .int .i64 k ∧ Hid (amongB (s.data.toList.take k) c = false)) (fun i => s.size - (intOf i).toNat)
  case atStart => exact ⟨0, Nat.zero_le _, rfl, rfl⟩
  case round =>
    obtain ⟨k, hk, rfl, hall⟩ := hrel
    by_cases hlt : k < s.size
    · by_cases h58 : s[k].toNat = c.toNat
      · have H := Lib.hid (among_hit hlt h58)
        have hb : ((s[k].toNat : Int) == (c.toNat : Int)) = true := by simp; omega
        clear h58
        go_wp2
        go_ret
        exact RetB.of H.out.symm
      · have H := Lib.hid (among_succ hlt hall.out h58)
        have hb : ((s[k].toNat : Int) == (c.toNat : Int)) = false := by simp; omega
        clear h58
        go_wp2
        go_round
        case rel => exact ⟨k + 1, by omega, by go_num, H⟩
        case measure => simp [intOf]; omega
    · have H := Lib.hid (among_end hlt hall.out)
      go_wp2
      go_ret
      exact RetB.of H.out.symm

def RetN (n : Int) (w : World) (e : Ending) (w' : World) : Prop := e = .returned (.int .i64 n) ∧ w = w'
theorem RetN.of {b b' : Int} {w : World} (h : b' = b) : RetN b w (.returned (.int .i64 b')) w := ⟨by rw [h], rfl⟩

theorem index_hit {s : ByteArray} {k : Nat} (h : k < s.size) (h0 : colB (s.data.toList.take k) = false) (h1 : s[k].toNat = 58) : Lib.indexByte s.data.toList 58 = k := by
  have hk : k < s.data.toList.length := by simpa using h
  have e : s.data.toList = s.data.toList.take k ++ 58 :: s.data.toList.drop (k + 1) := by
    have h2 : s.data.toList[k] = 58 := UInt8.toNat_inj.1 h1
    rw [← h2, List.getElem_cons_drop, List.take_append_drop]
  have := index_at (s.data.toList.take k) (s.data.toList.drop (k + 1)) h0
  rw [← e] at this
  rw [this, List.length_take]; omega
theorem index_none {l : List UInt8} (h : colB l = false) : Lib.indexByte l 58 = -1 := by
  induction l with
  | nil => rfl
  | cons c l ih =>
    unfold colB at h ih
    simp only [List.any_cons, Bool.or_eq_false_iff] at h
    have ih := ih h.2
    have hc : (c == 58) = false := by
      have := h.1
      rw [beq_eq_false_iff_ne] at this ⊢
      intro e; subst e; exact this rfl
    simp [Lib.indexByte, hc, ih]

set_option maxHeartbeats 1000000 in
theorem colon30 (s : ByteArray) (w : World) (hs : s.size ≤ maxLen) : Calls Try.prog 30 #[.string s] w (RetN (Lib.indexByte s.data.toList 58) w) := by
  unfold maxLen at hs
  go_enter Try.func30, Try.ntmps30
  go_wp2
  go_loop [3] (fun i => ∃ k : Nat, k ≤ s.size ∧ i = .int .i64 k ∧ Hid (colB (s.data.toList.take k) = false)) (fun i => s.size - (intOf i).toNat)
  case atStart => exact ⟨0, Nat.zero_le _, rfl, rfl⟩
  case round =>
    obtain ⟨k, hk, rfl, hall⟩ := hrel
    by_cases hlt : k < s.size
    · by_cases h58 : s[k].toNat = 58
      · have H := Lib.hid (index_hit hlt hall.out h58)
        have hb : ((s[k].toNat : Int) == 58) = true := by simp; omega
        clear h58
        go_wp2
        go_ret
        exact RetN.of H.out.symm
      · have H := Lib.hid (colB_succ s k hlt hall.out h58)
        have hb : ((s[k].toNat : Int) == 58) = false := by simp; omega
        clear h58
        go_wp2
        go_round
        case rel => exact ⟨k + 1, by omega, by go_num, H⟩
        case measure => simp [intOf]; omega
    · have H := Lib.hid (index_none (colB_end s k hlt hall.out))
      go_wp2
      go_ret
      exact RetN.of H.out.symm
end Go.Proofs.Ytjdlpfkcikomfab
