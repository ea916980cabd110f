/-
  The contracts of the statements' own small and colon, and plain facts on a user's parts.
-/
import Derived.Test.YtjdlpfkcikomfabMth
import Derived.Deep.DeepCutAuto
namespace Go.Proofs.Ytjdlpfkcikomfab
open Go.RowKit

def colB (l : List UInt8) : Bool := l.any fun c => c.toNat == 58
theorem colB_succ (s : ByteArray) (k : Nat) (h : k < s.size) (h0 : colB (s.data.toList.take k) = false) (h1 : ¬ s[k].toNat = 58) : colB (s.data.toList.take (k + 1)) = false := by
  unfold colB at h0 ⊢
  rw [take_snoc s k h, List.any_append, h0]; simp [h1]
theorem colB_hit (s : ByteArray) (k : Nat) (h : k < s.size) (h1 : s[k].toNat = 58) : colB s.data.toList = true := by
  unfold colB
  rw [List.any_eq_true]
  refine ⟨s[k], ?_, by simp [h1]⟩
  have : s.data.toList[k]'(by simpa using h) = s[k] := rfl
  rw [← this]; exact List.getElem_mem _
theorem colB_end (s : ByteArray) (k : Nat) (h : ¬ k < s.size) (h0 : colB (s.data.toList.take k) = false) : colB s.data.toList = false := by
  rw [List.take_of_length_le (by simp; omega)] at h0; exact h0

set_option maxHeartbeats 1000000 in
theorem colon_any (s : ByteArray) (w : World) (hs : s.size ≤ maxLen) : Calls Try.prog 23 #[.string s] w (RetB (colB s.data.toList) w) := by
  unfold maxLen at hs
  go_enter Try.func23, Try.ntmps23
  go_wp2
  go_loop [3] (fun i => ∃ k : Nat, k ≤ s.size ∧ i = .int .i64 k ∧ Hid (colB (s.data.toList.take k) = false)) (fun i => s.size - (intOf i).toNat)
  case atStart => exact ⟨0, Nat.zero_le _, rfl, rfl⟩
  case round =>
    obtain ⟨k, hk, rfl, hall⟩ := hrel
    by_cases hlt : k < s.size
    · by_cases h58 : s[k].toNat = 58
      · have H := Lib.hid (colB_hit s k hlt h58)
        have hb : ((s[k].toNat : Int) == 58) = true := by simp; omega
        clear h58
        go_wp2
        go_ret
        exact RetB.of H.out.symm
      · have H := Lib.hid (colB_succ s k hlt hall.out h58)
        have hb : ((s[k].toNat : Int) == 58) = false := by simp; omega
        clear h58
        go_wp2
        go_round
        case rel => exact ⟨k + 1, by omega, by go_num, H⟩
        case measure => simp [intOf]; omega
    · have H := Lib.hid (colB_end s k hlt hall.out)
      go_wp2
      go_ret
      exact RetB.of H.out.symm

def smallC (c : UInt8) : Bool := classB false [46, 95, 61, 45, 47, 43] c
theorem small_cases (c : UInt8) :
    (smallC c = true ∧ ((97 ≤ c.toNat ∧ c.toNat ≤ 122) ∨ (48 ≤ c.toNat ∧ c.toNat ≤ 57) ∨ c = 46 ∨ c = 95 ∨ c = 61 ∨ c = 45 ∨ c = 47 ∨ c = 43)) ∨
    (smallC c = false ∧ ((0 ≤ c.toNat ∧ c.toNat ≤ 42) ∨ c = 44 ∨ (58 ≤ c.toNat ∧ c.toNat ≤ 60) ∨ (62 ≤ c.toNat ∧ c.toNat ≤ 94) ∨ c = 96 ∨ (123 ≤ c.toNat ∧ c.toNat ≤ 255))) := by
  revert c; exact each_byte (by decide +kernel)

set_option maxHeartbeats 8000000 in
set_option maxRecDepth 100000 in
theorem small_any (s : ByteArray) (w : World) (hs : s.size ≤ maxLen) : Calls Try.prog 24 #[.string s] w (RetB (ofB smallC s.data.toList) w) := by
  unfold maxLen at hs
  go_enter Try.func24, Try.ntmps24
  go_wp2
  go_loop [3] (fun i => ∃ k : Nat, k ≤ s.size ∧ i = .int .i64 k ∧ Hid ((s.data.toList.take k).all smallC = true)) (fun i => s.size - (intOf i).toNat)
  case atStart => exact ⟨0, Nat.zero_le _, rfl, rfl⟩
  case round =>
    obtain ⟨k, hk, rfl, hall⟩ := hrel
    by_cases hlt : k < s.size
    · have H1 := Lib.hid (fun h => all_step (p := smallC) hlt hall.out h)
      have H2 := Lib.hid (fun h => ofB_stop (p := smallC) hlt h)
      have hcs := Lib.hid (small_cases s[k])
      generalize hc : s[k] = c at H1 H2 hcs
      have HC := Lib.hid hc
      go_upto_region 5 with fail
      clear hc HC
      generalize hb : smallC c = b at H1 H2 hcs
      clear hb
      go_cut [52] (fun t wx => t = .bool (!b) ∧ wx = w)
      case first =>
        rcases hcs.out with ⟨hm, hr⟩ | ⟨hm, hr⟩
        · clear hcs H1 H2
          subst hm
          rcases hr with ⟨g1, g2⟩ | ⟨g1, g2⟩ | rfl | rfl | rfl | rfl | rfl | rfl
          all_goals
            go_wp2_with fail
            go_meet
            first | exact ⟨rfl, rfl⟩ | exact ⟨by simp; omega, rfl⟩
        · clear hcs H1 H2
          subst hm
          rcases hr with ⟨g1, g2⟩ | rfl | ⟨g1, g2⟩ | ⟨g1, g2⟩ | rfl | ⟨g1, g2⟩
          all_goals
            go_wp2_with fail
            go_meet
            first | exact ⟨rfl, rfl⟩ | exact ⟨by simp; omega, rfl⟩
      case rest =>
        obtain ⟨rfl, rfl⟩ := hcut
        clear hcs
        cases b
        · go_wp2
          go_ret
          exact RetB.of (H2.out (by simp)).symm
        · go_wp2
          go_round
          case rel => exact ⟨k + 1, by omega, by go_num, H1.out (by simp)⟩
          case measure => simp [intOf]; omega
    · have H := Lib.hid (ofB_last hlt hall.out)
      go_wp2
      go_ret
      exact RetB.of H.out
end Go.Proofs.Ytjdlpfkcikomfab
