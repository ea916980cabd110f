/-
  The walk of the statement on kinds.
-/
import Derived.Test.YtjdlpfkcikomfabMth
import Derived.Deep.RegionHeld3
namespace Go.Proofs.Ytjdlpfkcikomfab
open Go.RowKit

/-- The five answers in memory, the true one at the place of the kind. -/
def Five (w : World) (B K : Nat) : Prop := ∀ j, j < 5 → w.cell? ⟨B, j, none⟩ = some (.bool (j == K))
theorem Five.later {w w' : World} {B K : Nat} (h : Five w B K) (k : Keeps w w') : Five w' B K := fun j hj => k.cell (h j hj)

def cnt (K k : Nat) : Int := if K < k then 1 else 0
theorem cnt_at (K : Nat) : cnt K K = 0 := by unfold cnt; rw [if_neg (by omega)]
theorem cnt_succ_at (K : Nat) : cnt K (K + 1) = 1 := by unfold cnt; rw [if_pos (by omega)]
theorem cnt_succ {K k : Nat} (h : ¬ k = K) : cnt K (k + 1) = cnt K k := by
  unfold cnt
  by_cases h1 : K < k
  · rw [if_pos h1, if_pos (by omega)]
  · rw [if_neg h1, if_neg (by omega)]
theorem cnt_end {K : Nat} (h : K < 5) : cnt K 5 = 1 := by unfold cnt; rw [if_pos h]

set_option maxHeartbeats 2000000 in
theorem kinds_none (s : ByteArray) (w : World) (hs : s.size ≤ 600) (he : (s.toList.isEmpty) = false) (hu : userB s.data.toList = false) (hr : roomB s.data.toList = false) (hv : eventB s.data.toList = false) (hz : serverB s.data.toList = false) :
    Calls Try.prog 6 #[.string s] w (RetQ true w) := by
  have hm : s.size ≤ maxLen := by unfold maxLen; omega
  have hl : (S (lowL s.data.toList)).size = s.size := by rw [S_size, lowL_len]; simp
  have hm2 : (S (lowL s.data.toList)).size ≤ maxLen := by rw [hl]; exact hm
  have cL := Lib.hid (fun w => lives_any w)
  have cU : Hid (∀ w, Calls Try.prog 15 #[.string s] w (RetQ false w)) := fun w => by rw [← hu]; exact user_any s w hm
  have cR : Hid (∀ w, Calls Try.prog 17 #[.string s] w (RetQ false w)) := fun w => by rw [← hr]; exact room_any s w hm
  have cV : Hid (∀ w, Calls Try.prog 19 #[.string s] w (RetQ false w)) := fun w => by rw [← hv]; exact event_any s w hm
  have cZ : Hid (∀ w, Calls Try.prog 10 #[.string s] w (RetQ false w)) := fun w => by rw [← hz]; exact server_any s w hm
  have cK : Hid (∀ w, Calls Try.prog 9 #[.string s] w (RetI 0 w)) := fun w => by
    have : kindI s.data.toList = 0 := by unfold kindI; rw [hu, hr, hv, hz]; rfl
    rw [← this]; exact kind_any s w hm
  have cW : Hid (∀ w, Calls Try.prog 11 #[.string s] w (RetS (lowL s.data.toList) w)) := fun w => lower_any s w hm
  have dW : Hid (∀ w, Calls Try.prog 11 #[.string (S (lowL s.data.toList))] w (RetS (lowL s.data.toList) w)) := fun w => by
    have := lower_any (S (lowL s.data.toList)) w hm2; rw [S_data, lowL_lowL] at this; exact this
  have dR : Hid (∀ w, Calls Try.prog 17 #[.string (S (lowL s.data.toList))] w (RetQ false w)) := fun w => by
    have := room_any (S (lowL s.data.toList)) w hm2; rw [S_data, room_low, hr] at this; exact this
  have dV : Hid (∀ w, Calls Try.prog 19 #[.string (S (lowL s.data.toList))] w (RetQ false w)) := fun w => by
    have := event_any (S (lowL s.data.toList)) w hm2; rw [S_data, event_low, hv] at this; exact this
  have dZ : Hid (∀ w, Calls Try.prog 10 #[.string (S (lowL s.data.toList))] w (RetQ false w)) := fun w => by
    have := server_any (S (lowL s.data.toList)) w hm2; rw [S_data, server_low, hz] at this; exact this
  clear hu hr hv hz hm hm2
  unfold RetS at cW dW
  have hq : (((S (lowL s.data.toList)).size : Int) == (s.size : Int)) = true := by rw [hl]; simp
  clear hl
  generalize S (lowL s.data.toList) = t at hq cW dW dR dV dZ
  go_enter Try.func6, Try.ntmps6
  go_wp2_with fail
  refine (cL.out _).mono ?_
  rintro e w2 ⟨rfl, h⟩
  go_wp2_with fail
  refine (cU.out _).mono ?_
  rintro e w2 ⟨rfl, h2⟩
  have h1 := h.trans h2; clear h h2
  go_wp2_with fail
  refine (cR.out _).mono ?_
  rintro e w2 ⟨rfl, h2⟩
  have h := h1.trans h2; clear h1 h2
  go_wp2_with fail
  refine (cV.out _).mono ?_
  rintro e w2 ⟨rfl, h2⟩
  have h1 := h.trans h2; clear h h2
  go_wp2_with fail
  refine (cZ.out _).mono ?_
  rintro e w2 ⟨rfl, h2⟩
  have h := h1.trans h2; clear h1 h2
  go_wp2_with fail
  refine (cU.out _).mono ?_
  rintro e w2 ⟨rfl, h2⟩
  have h1 := h.trans h2; clear h h2
  go_wp2_with fail
  refine (cR.out _).mono ?_
  rintro e w2 ⟨rfl, h2⟩
  have h := h1.trans h2; clear h1 h2
  go_wp2_with fail
  refine (cV.out _).mono ?_
  rintro e w2 ⟨rfl, h2⟩
  have h1 := h.trans h2; clear h h2
  go_wp2_with fail
  refine (cZ.out _).mono ?_
  rintro e w2 ⟨rfl, h2⟩
  have h := h1.trans h2; clear h1 h2
  go_wp2_with fail
  have hF : Five (w2.alloc (.cells #[.bool true, .bool false, .bool false, .bool false, .bool false] 4)) w2.heap.size 0 := by
    intro j hj
    rw [World.cell?_alloc_at _ _ _ _ rfl]
    rcases (show j = 0 ∨ j = 1 ∨ j = 2 ∨ j = 3 ∨ j = 4 by omega) with rfl | rfl | rfl | rfl | rfl <;> rfl
  have hk0 := h.alloc (.cells #[.bool true, .bool false, .bool false, .bool false, .bool false] 4)
  clear h
  have HF := Lib.hid hF
  clear hF
  generalize hW : w2.alloc (.cells #[.bool true, .bool false, .bool false, .bool false, .bool false] 4) = W0 at HF hk0
  clear hW
  generalize w2.heap.size = B at HF
  go_loopw [4, 5] (fun n i wr => ∃ k : Nat, k ≤ 5 ∧ i = .int .i64 k ∧ n = .int .i64 (cnt 0 k) ∧ Hid (Five wr B 0) ∧ Keeps w wr) (fun _ i _ => 5 - (intOf i).toNat)
  case atStart => exact ⟨0, by omega, rfl, rfl, HF, hk0⟩
  case round =>
    obtain ⟨k, hk, rfl, rfl, hfive, hkp⟩ := hrel
    by_cases hlt : k < 5
    · have hc := hfive.out k hlt
      by_cases hK : k = 0
      · subst hK
        rw [cnt_at]
        have hc1 : wr.cell? ⟨B, 0, none⟩ = some (.bool true) := hc
        clear hc
        go_wp2_with fail
        go_region_held3 (fun w' => w'.cell? ⟨B, 0, none⟩ = some (.bool true) ∧ Keeps wr w') (first | exact ⟨hc1, (Keeps.refl _).drew⟩ | exact ⟨hk3.cell (show wr.drew.cell? _ = _ from hc1), (Keeps.refl _).drew.trans hk3⟩)
          (first | (go_at_call 9; refine (cK.out _).mono ?_; rintro e w' ⟨rfl, hk3⟩))
        have hkk : Keeps wr w' := And.right (by assumption)
        clear hc1
        go_wp2
        go_roundw
        case rel => exact ⟨0 + 1, by omega, by first | rfl | go_num, by rw [cnt_succ_at], hfive.out.later hkk, hkp.trans hkk⟩
        case measure => simp [intOf]
      · have hb1 : (k == 0) = false := by simpa using hK
        have hb2 : ((0 : Int) == (k : Int)) = false := by simp; omega
        rw [hb1] at hc
        have hcs := Lib.hid (cnt_succ hK)
        clear hb1 hK
        go_wp2_with fail
        go_region_held3 (fun w' => w'.cell? ⟨B, k, none⟩ = some (.bool false) ∧ Keeps wr w') (first | exact ⟨hc, (Keeps.refl _).drew⟩ | exact ⟨hk3.cell (show wr.drew.cell? _ = _ from hc), (Keeps.refl _).drew.trans hk3⟩)
          (first | (go_at_call 9; refine (cK.out _).mono ?_; rintro e w' ⟨rfl, hk3⟩))
        have hkk : Keeps wr w' := And.right (by assumption)
        clear hc
        go_wp2
        go_roundw
        case rel => exact ⟨k + 1, by omega, by go_num, by rw [hcs.out], hfive.out.later hkk, hkp.trans hkk⟩
        case measure => simp [intOf]; omega
    · obtain rfl : k = 5 := by omega
      rw [cnt_end (by omega)]
      clear hfive hlt
      go_wp2_with fail
      refine (cW.out _).mono ?_
      rintro e w2 ⟨rfl, h2⟩
      have h1 := hkp.trans h2; clear hkp h2
      go_wp2_with fail
      refine (dW.out _).mono ?_
      rintro e w2 ⟨rfl, h2⟩
      have h := h1.trans h2; clear h1 h2
      go_wp2_with fail
      refine (dZ.out _).mono ?_
      rintro e w2 ⟨rfl, h2⟩
      have h1 := h.trans h2; clear h h2
      go_wp2_with fail
      refine (cZ.out _).mono ?_
      rintro e w2 ⟨rfl, h2⟩
      have h := h1.trans h2; clear h1 h2
      go_wp2_with fail
      refine (dR.out _).mono ?_
      rintro e w2 ⟨rfl, h2⟩
      have h1 := h.trans h2; clear h h2
      go_wp2_with fail
      refine (cR.out _).mono ?_
      rintro e w2 ⟨rfl, h2⟩
      have h := h1.trans h2; clear h1 h2
      go_wp2_with fail
      refine (dV.out _).mono ?_
      rintro e w2 ⟨rfl, h2⟩
      have h1 := h.trans h2; clear h h2
      go_wp2_with fail
      refine (cV.out _).mono ?_
      rintro e w2 ⟨rfl, h2⟩
      have h := h1.trans h2; clear h1 h2
      go_wp2_with fail
      refine (cU.out _).mono ?_
      rintro e w2 ⟨rfl, h2⟩
      have h1 := h.trans h2; clear h h2
      go_wp2
      go_ret
      exact RetQ.of rfl h1

set_option maxHeartbeats 2000000 in
theorem kinds_empty (s : ByteArray) (w : World) (hs : s.size ≤ 600) (he : (s.toList.isEmpty) = true) (hu : userB s.data.toList = false) (hr : roomB s.data.toList = false) (hv : eventB s.data.toList = false) (hz : serverB s.data.toList = false) :
    Calls Try.prog 6 #[.string s] w (RetQ true w) := by
  have hm : s.size ≤ maxLen := by unfold maxLen; omega
  have hl : (S (lowL s.data.toList)).size = s.size := by rw [S_size, lowL_len]; simp
  have hm2 : (S (lowL s.data.toList)).size ≤ maxLen := by rw [hl]; exact hm
  have cL := Lib.hid (fun w => lives_any w)
  have cU : Hid (∀ w, Calls Try.prog 15 #[.string s] w (RetQ false w)) := fun w => by rw [← hu]; exact user_any s w hm
  have cR : Hid (∀ w, Calls Try.prog 17 #[.string s] w (RetQ false w)) := fun w => by rw [← hr]; exact room_any s w hm
  have cV : Hid (∀ w, Calls Try.prog 19 #[.string s] w (RetQ false w)) := fun w => by rw [← hv]; exact event_any s w hm
  have cZ : Hid (∀ w, Calls Try.prog 10 #[.string s] w (RetQ false w)) := fun w => by rw [← hz]; exact server_any s w hm
  have cK : Hid (∀ w, Calls Try.prog 9 #[.string s] w (RetI 0 w)) := fun w => by
    have : kindI s.data.toList = 0 := by unfold kindI; rw [hu, hr, hv, hz]; rfl
    rw [← this]; exact kind_any s w hm
  have cW : Hid (∀ w, Calls Try.prog 11 #[.string s] w (RetS (lowL s.data.toList) w)) := fun w => lower_any s w hm
  have dW : Hid (∀ w, Calls Try.prog 11 #[.string (S (lowL s.data.toList))] w (RetS (lowL s.data.toList) w)) := fun w => by
    have := lower_any (S (lowL s.data.toList)) w hm2; rw [S_data, lowL_lowL] at this; exact this
  have dR : Hid (∀ w, Calls Try.prog 17 #[.string (S (lowL s.data.toList))] w (RetQ false w)) := fun w => by
    have := room_any (S (lowL s.data.toList)) w hm2; rw [S_data, room_low, hr] at this; exact this
  have dV : Hid (∀ w, Calls Try.prog 19 #[.string (S (lowL s.data.toList))] w (RetQ false w)) := fun w => by
    have := event_any (S (lowL s.data.toList)) w hm2; rw [S_data, event_low, hv] at this; exact this
  have dZ : Hid (∀ w, Calls Try.prog 10 #[.string (S (lowL s.data.toList))] w (RetQ false w)) := fun w => by
    have := server_any (S (lowL s.data.toList)) w hm2; rw [S_data, server_low, hz] at this; exact this
  clear hu hr hv hz hm hm2
  unfold RetS at cW dW
  have hq : (((S (lowL s.data.toList)).size : Int) == (s.size : Int)) = true := by rw [hl]; simp
  clear hl
  generalize S (lowL s.data.toList) = t at hq cW dW dR dV dZ
  go_enter Try.func6, Try.ntmps6
  go_wp2_with fail
  refine (cL.out _).mono ?_
  rintro e w2 ⟨rfl, h⟩
  go_wp2_with fail
  refine (cU.out _).mono ?_
  rintro e w2 ⟨rfl, h2⟩
  have h1 := h.trans h2; clear h h2
  go_wp2_with fail
  refine (cR.out _).mono ?_
  rintro e w2 ⟨rfl, h2⟩
  have h := h1.trans h2; clear h1 h2
  go_wp2_with fail
  refine (cV.out _).mono ?_
  rintro e w2 ⟨rfl, h2⟩
  have h1 := h.trans h2; clear h h2
  go_wp2_with fail
  refine (cZ.out _).mono ?_
  rintro e w2 ⟨rfl, h2⟩
  have h := h1.trans h2; clear h1 h2
  go_wp2_with fail
  have hF : Five (w2.alloc (.cells #[.bool true, .bool false, .bool false, .bool false, .bool false] 4)) w2.heap.size 0 := by
    intro j hj
    rw [World.cell?_alloc_at _ _ _ _ rfl]
    rcases (show j = 0 ∨ j = 1 ∨ j = 2 ∨ j = 3 ∨ j = 4 by omega) with rfl | rfl | rfl | rfl | rfl <;> rfl
  have hk0 := h.alloc (.cells #[.bool true, .bool false, .bool false, .bool false, .bool false] 4)
  clear h
  have HF := Lib.hid hF
  clear hF
  generalize hW : w2.alloc (.cells #[.bool true, .bool false, .bool false, .bool false, .bool false] 4) = W0 at HF hk0
  clear hW
  generalize w2.heap.size = B at HF
  go_loopw [4, 5] (fun n i wr => ∃ k : Nat, k ≤ 5 ∧ i = .int .i64 k ∧ n = .int .i64 (cnt 0 k) ∧ Hid (Five wr B 0) ∧ Keeps w wr) (fun _ i _ => 5 - (intOf i).toNat)
  case atStart => exact ⟨0, by omega, rfl, rfl, HF, hk0⟩
  case round =>
    obtain ⟨k, hk, rfl, rfl, hfive, hkp⟩ := hrel
    by_cases hlt : k < 5
    · have hc := hfive.out k hlt
      by_cases hK : k = 0
      · subst hK
        rw [cnt_at]
        have hc1 : wr.cell? ⟨B, 0, none⟩ = some (.bool true) := hc
        clear hc
        go_wp2_with fail
        go_region_held3 (fun w' => w'.cell? ⟨B, 0, none⟩ = some (.bool true) ∧ Keeps wr w') (first | exact ⟨hc1, (Keeps.refl _).drew⟩ | exact ⟨hk3.cell (show wr.drew.cell? _ = _ from hc1), (Keeps.refl _).drew.trans hk3⟩)
          (first | (go_at_call 9; refine (cK.out _).mono ?_; rintro e w' ⟨rfl, hk3⟩))
        have hkk : Keeps wr w' := And.right (by assumption)
        clear hc1
        go_wp2
        go_roundw
        case rel => exact ⟨0 + 1, by omega, by first | rfl | go_num, by rw [cnt_succ_at], hfive.out.later hkk, hkp.trans hkk⟩
        case measure => simp [intOf]
      · have hb1 : (k == 0) = false := by simpa using hK
        have hb2 : ((0 : Int) == (k : Int)) = false := by simp; omega
        rw [hb1] at hc
        have hcs := Lib.hid (cnt_succ hK)
        clear hb1 hK
        go_wp2_with fail
        go_region_held3 (fun w' => w'.cell? ⟨B, k, none⟩ = some (.bool false) ∧ Keeps wr w') (first | exact ⟨hc, (Keeps.refl _).drew⟩ | exact ⟨hk3.cell (show wr.drew.cell? _ = _ from hc), (Keeps.refl _).drew.trans hk3⟩)
          (first | (go_at_call 9; refine (cK.out _).mono ?_; rintro e w' ⟨rfl, hk3⟩))
        have hkk : Keeps wr w' := And.right (by assumption)
        clear hc
        go_wp2
        go_roundw
        case rel => exact ⟨k + 1, by omega, by go_num, by rw [hcs.out], hfive.out.later hkk, hkp.trans hkk⟩
        case measure => simp [intOf]; omega
    · obtain rfl : k = 5 := by omega
      rw [cnt_end (by omega)]
      clear hfive hlt
      go_wp2_with fail
      refine (cW.out _).mono ?_
      rintro e w2 ⟨rfl, h2⟩
      have h1 := hkp.trans h2; clear hkp h2
      go_wp2_with fail
      refine (dW.out _).mono ?_
      rintro e w2 ⟨rfl, h2⟩
      have h := h1.trans h2; clear h1 h2
      go_wp2_with fail
      refine (dZ.out _).mono ?_
      rintro e w2 ⟨rfl, h2⟩
      have h1 := h.trans h2; clear h h2
      go_wp2_with fail
      refine (cZ.out _).mono ?_
      rintro e w2 ⟨rfl, h2⟩
      have h := h1.trans h2; clear h1 h2
      go_wp2_with fail
      refine (dR.out _).mono ?_
      rintro e w2 ⟨rfl, h2⟩
      have h1 := h.trans h2; clear h h2
      go_wp2_with fail
      refine (cR.out _).mono ?_
      rintro e w2 ⟨rfl, h2⟩
      have h := h1.trans h2; clear h1 h2
      go_wp2_with fail
      refine (dV.out _).mono ?_
      rintro e w2 ⟨rfl, h2⟩
      have h1 := h.trans h2; clear h h2
      go_wp2_with fail
      refine (cV.out _).mono ?_
      rintro e w2 ⟨rfl, h2⟩
      have h := h1.trans h2; clear h1 h2
      go_wp2_with fail
      refine (cU.out _).mono ?_
      rintro e w2 ⟨rfl, h2⟩
      have h1 := h.trans h2; clear h h2
      go_wp2
      go_ret
      exact RetQ.of rfl h1

set_option maxHeartbeats 2000000 in
theorem kinds_user (s : ByteArray) (w : World) (hs : s.size ≤ 600) (he : (s.toList.isEmpty) = false) (hu : userB s.data.toList = true) (hr : roomB s.data.toList = false) (hv : eventB s.data.toList = false) (hz : serverB s.data.toList = false) :
    Calls Try.prog 6 #[.string s] w (RetQ true w) := by
  have hm : s.size ≤ maxLen := by unfold maxLen; omega
  have hl : (S (lowL s.data.toList)).size = s.size := by rw [S_size, lowL_len]; simp
  have hm2 : (S (lowL s.data.toList)).size ≤ maxLen := by rw [hl]; exact hm
  have cL := Lib.hid (fun w => lives_any w)
  have cU : Hid (∀ w, Calls Try.prog 15 #[.string s] w (RetQ true w)) := fun w => by rw [← hu]; exact user_any s w hm
  have cR : Hid (∀ w, Calls Try.prog 17 #[.string s] w (RetQ false w)) := fun w => by rw [← hr]; exact room_any s w hm
  have cV : Hid (∀ w, Calls Try.prog 19 #[.string s] w (RetQ false w)) := fun w => by rw [← hv]; exact event_any s w hm
  have cZ : Hid (∀ w, Calls Try.prog 10 #[.string s] w (RetQ false w)) := fun w => by rw [← hz]; exact server_any s w hm
  have cK : Hid (∀ w, Calls Try.prog 9 #[.string s] w (RetI 1 w)) := fun w => by
    have : kindI s.data.toList = 1 := by unfold kindI; rw [hu]; rfl
    rw [← this]; exact kind_any s w hm
  have cW : Hid (∀ w, Calls Try.prog 11 #[.string s] w (RetS (lowL s.data.toList) w)) := fun w => lower_any s w hm
  have dW : Hid (∀ w, Calls Try.prog 11 #[.string (S (lowL s.data.toList))] w (RetS (lowL s.data.toList) w)) := fun w => by
    have := lower_any (S (lowL s.data.toList)) w hm2; rw [S_data, lowL_lowL] at this; exact this
  have dU : Hid (∀ w, Calls Try.prog 15 #[.string (S (lowL s.data.toList))] w (RetQ true w)) := fun w => by
    have := user_any (S (lowL s.data.toList)) w hm2; rw [S_data, user_low _ hu] at this; exact this
  have dR : Hid (∀ w, Calls Try.prog 17 #[.string (S (lowL s.data.toList))] w (RetQ false w)) := fun w => by
    have := room_any (S (lowL s.data.toList)) w hm2; rw [S_data, room_low, hr] at this; exact this
  have dV : Hid (∀ w, Calls Try.prog 19 #[.string (S (lowL s.data.toList))] w (RetQ false w)) := fun w => by
    have := event_any (S (lowL s.data.toList)) w hm2; rw [S_data, event_low, hv] at this; exact this
  have dZ : Hid (∀ w, Calls Try.prog 10 #[.string (S (lowL s.data.toList))] w (RetQ false w)) := fun w => by
    have := server_any (S (lowL s.data.toList)) w hm2; rw [S_data, server_low, hz] at this; exact this
  clear hu hr hv hz hm hm2
  unfold RetS at cW dW
  have hq : (((S (lowL s.data.toList)).size : Int) == (s.size : Int)) = true := by rw [hl]; simp
  clear hl
  generalize S (lowL s.data.toList) = t at hq cW dW dU dR dV dZ
  go_enter Try.func6, Try.ntmps6
  go_wp2_with fail
  refine (cL.out _).mono ?_
  rintro e w2 ⟨rfl, h⟩
  go_wp2_with fail
  refine (cU.out _).mono ?_
  rintro e w2 ⟨rfl, h2⟩
  have h1 := h.trans h2; clear h h2
  go_wp2_with fail
  refine (cU.out _).mono ?_
  rintro e w2 ⟨rfl, h2⟩
  have h := h1.trans h2; clear h1 h2
  go_wp2_with fail
  refine (cR.out _).mono ?_
  rintro e w2 ⟨rfl, h2⟩
  have h1 := h.trans h2; clear h h2
  go_wp2_with fail
  refine (cV.out _).mono ?_
  rintro e w2 ⟨rfl, h2⟩
  have h := h1.trans h2; clear h1 h2
  go_wp2_with fail
  refine (cZ.out _).mono ?_
  rintro e w2 ⟨rfl, h2⟩
  have h1 := h.trans h2; clear h h2
  go_wp2_with fail
  have hF : Five (w2.alloc (.cells #[.bool false, .bool true, .bool false, .bool false, .bool false] 4)) w2.heap.size 1 := by
    intro j hj
    rw [World.cell?_alloc_at _ _ _ _ rfl]
    rcases (show j = 0 ∨ j = 1 ∨ j = 2 ∨ j = 3 ∨ j = 4 by omega) with rfl | rfl | rfl | rfl | rfl <;> rfl
  have hk0 := h1.alloc (.cells #[.bool false, .bool true, .bool false, .bool false, .bool false] 4)
  clear h1
  have HF := Lib.hid hF
  clear hF
  generalize hW : w2.alloc (.cells #[.bool false, .bool true, .bool false, .bool false, .bool false] 4) = W0 at HF hk0
  clear hW
  generalize w2.heap.size = B at HF
  go_loopw [4, 5] (fun n i wr => ∃ k : Nat, k ≤ 5 ∧ i = .int .i64 k ∧ n = .int .i64 (cnt 1 k) ∧ Hid (Five wr B 1) ∧ Keeps w wr) (fun _ i _ => 5 - (intOf i).toNat)
  case atStart => exact ⟨0, by omega, rfl, rfl, HF, hk0⟩
  case round =>
    obtain ⟨k, hk, rfl, rfl, hfive, hkp⟩ := hrel
    by_cases hlt : k < 5
    · have hc := hfive.out k hlt
      by_cases hK : k = 1
      · subst hK
        rw [cnt_at]
        have hc1 : wr.cell? ⟨B, 1, none⟩ = some (.bool true) := hc
        clear hc
        go_wp2_with fail
        go_region_held3 (fun w' => w'.cell? ⟨B, 1, none⟩ = some (.bool true) ∧ Keeps wr w') (first | exact ⟨hc1, (Keeps.refl _).drew⟩ | exact ⟨hk3.cell (show wr.drew.cell? _ = _ from hc1), (Keeps.refl _).drew.trans hk3⟩)
          (first | (go_at_call 9; refine (cK.out _).mono ?_; rintro e w' ⟨rfl, hk3⟩))
        have hkk : Keeps wr w' := And.right (by assumption)
        clear hc1
        go_wp2
        go_roundw
        case rel => exact ⟨1 + 1, by omega, by first | rfl | go_num, by rw [cnt_succ_at], hfive.out.later hkk, hkp.trans hkk⟩
        case measure => simp [intOf]
      · have hb1 : (k == 1) = false := by simpa using hK
        have hb2 : ((1 : Int) == (k : Int)) = false := by simp; omega
        rw [hb1] at hc
        have hcs := Lib.hid (cnt_succ hK)
        clear hb1 hK
        go_wp2_with fail
        go_region_held3 (fun w' => w'.cell? ⟨B, k, none⟩ = some (.bool false) ∧ Keeps wr w') (first | exact ⟨hc, (Keeps.refl _).drew⟩ | exact ⟨hk3.cell (show wr.drew.cell? _ = _ from hc), (Keeps.refl _).drew.trans hk3⟩)
          (first | (go_at_call 9; refine (cK.out _).mono ?_; rintro e w' ⟨rfl, hk3⟩))
        have hkk : Keeps wr w' := And.right (by assumption)
        clear hc
        go_wp2
        go_roundw
        case rel => exact ⟨k + 1, by omega, by go_num, by rw [hcs.out], hfive.out.later hkk, hkp.trans hkk⟩
        case measure => simp [intOf]; omega
    · obtain rfl : k = 5 := by omega
      rw [cnt_end (by omega)]
      clear hfive hlt
      go_wp2_with fail
      refine (cW.out _).mono ?_
      rintro e w2 ⟨rfl, h2⟩
      have h1 := hkp.trans h2; clear hkp h2
      go_wp2_with fail
      refine (dW.out _).mono ?_
      rintro e w2 ⟨rfl, h2⟩
      have h := h1.trans h2; clear h1 h2
      go_wp2_with fail
      refine (dZ.out _).mono ?_
      rintro e w2 ⟨rfl, h2⟩
      have h1 := h.trans h2; clear h h2
      go_wp2_with fail
      refine (cZ.out _).mono ?_
      rintro e w2 ⟨rfl, h2⟩
      have h := h1.trans h2; clear h1 h2
      go_wp2_with fail
      refine (dR.out _).mono ?_
      rintro e w2 ⟨rfl, h2⟩
      have h1 := h.trans h2; clear h h2
      go_wp2_with fail
      refine (cR.out _).mono ?_
      rintro e w2 ⟨rfl, h2⟩
      have h := h1.trans h2; clear h1 h2
      go_wp2_with fail
      refine (dV.out _).mono ?_
      rintro e w2 ⟨rfl, h2⟩
      have h1 := h.trans h2; clear h h2
      go_wp2_with fail
      refine (cV.out _).mono ?_
      rintro e w2 ⟨rfl, h2⟩
      have h := h1.trans h2; clear h1 h2
      go_wp2_with fail
      refine (cU.out _).mono ?_
      rintro e w2 ⟨rfl, h2⟩
      have h1 := h.trans h2; clear h h2
      go_wp2_with fail
      refine (dU.out _).mono ?_
      rintro e w2 ⟨rfl, h2⟩
      have h := h1.trans h2; clear h1 h2
      go_wp2
      go_ret
      exact RetQ.of rfl h

set_option maxHeartbeats 2000000 in
theorem kinds_room (s : ByteArray) (w : World) (hs : s.size ≤ 600) (he : (s.toList.isEmpty) = false) (hu : userB s.data.toList = false) (hr : roomB s.data.toList = true) (hv : eventB s.data.toList = false) (hz : serverB s.data.toList = false) :
    Calls Try.prog 6 #[.string s] w (RetQ true w) := by
  have hm : s.size ≤ maxLen := by unfold maxLen; omega
  have hl : (S (lowL s.data.toList)).size = s.size := by rw [S_size, lowL_len]; simp
  have hm2 : (S (lowL s.data.toList)).size ≤ maxLen := by rw [hl]; exact hm
  have cL := Lib.hid (fun w => lives_any w)
  have cU : Hid (∀ w, Calls Try.prog 15 #[.string s] w (RetQ false w)) := fun w => by rw [← hu]; exact user_any s w hm
  have cR : Hid (∀ w, Calls Try.prog 17 #[.string s] w (RetQ true w)) := fun w => by rw [← hr]; exact room_any s w hm
  have cV : Hid (∀ w, Calls Try.prog 19 #[.string s] w (RetQ false w)) := fun w => by rw [← hv]; exact event_any s w hm
  have cZ : Hid (∀ w, Calls Try.prog 10 #[.string s] w (RetQ false w)) := fun w => by rw [← hz]; exact server_any s w hm
  have cK : Hid (∀ w, Calls Try.prog 9 #[.string s] w (RetI 2 w)) := fun w => by
    have : kindI s.data.toList = 2 := by unfold kindI; rw [hu, hr]; rfl
    rw [← this]; exact kind_any s w hm
  have cW : Hid (∀ w, Calls Try.prog 11 #[.string s] w (RetS (lowL s.data.toList) w)) := fun w => lower_any s w hm
  have dW : Hid (∀ w, Calls Try.prog 11 #[.string (S (lowL s.data.toList))] w (RetS (lowL s.data.toList) w)) := fun w => by
    have := lower_any (S (lowL s.data.toList)) w hm2; rw [S_data, lowL_lowL] at this; exact this
  have dR : Hid (∀ w, Calls Try.prog 17 #[.string (S (lowL s.data.toList))] w (RetQ true w)) := fun w => by
    have := room_any (S (lowL s.data.toList)) w hm2; rw [S_data, room_low, hr] at this; exact this
  have dV : Hid (∀ w, Calls Try.prog 19 #[.string (S (lowL s.data.toList))] w (RetQ false w)) := fun w => by
    have := event_any (S (lowL s.data.toList)) w hm2; rw [S_data, event_low, hv] at this; exact this
  have dZ : Hid (∀ w, Calls Try.prog 10 #[.string (S (lowL s.data.toList))] w (RetQ false w)) := fun w => by
    have := server_any (S (lowL s.data.toList)) w hm2; rw [S_data, server_low, hz] at this; exact this
  clear hu hr hv hz hm hm2
  unfold RetS at cW dW
  have hq : (((S (lowL s.data.toList)).size : Int) == (s.size : Int)) = true := by rw [hl]; simp
  clear hl
  generalize S (lowL s.data.toList) = t at hq cW dW dR dV dZ
  go_enter Try.func6, Try.ntmps6
  go_wp2_with fail
  refine (cL.out _).mono ?_
  rintro e w2 ⟨rfl, h⟩
  go_wp2_with fail
  refine (cU.out _).mono ?_
  rintro e w2 ⟨rfl, h2⟩
  have h1 := h.trans h2; clear h h2
  go_wp2_with fail
  refine (cR.out _).mono ?_
  rintro e w2 ⟨rfl, h2⟩
  have h := h1.trans h2; clear h1 h2
  go_wp2_with fail
  refine (cU.out _).mono ?_
  rintro e w2 ⟨rfl, h2⟩
  have h1 := h.trans h2; clear h h2
  go_wp2_with fail
  refine (cR.out _).mono ?_
  rintro e w2 ⟨rfl, h2⟩
  have h := h1.trans h2; clear h1 h2
  go_wp2_with fail
  refine (cV.out _).mono ?_
  rintro e w2 ⟨rfl, h2⟩
  have h1 := h.trans h2; clear h h2
  go_wp2_with fail
  refine (cZ.out _).mono ?_
  rintro e w2 ⟨rfl, h2⟩
  have h := h1.trans h2; clear h1 h2
  go_wp2_with fail
  have hF : Five (w2.alloc (.cells #[.bool false, .bool false, .bool true, .bool false, .bool false] 4)) w2.heap.size 2 := by
    intro j hj
    rw [World.cell?_alloc_at _ _ _ _ rfl]
    rcases (show j = 0 ∨ j = 1 ∨ j = 2 ∨ j = 3 ∨ j = 4 by omega) with rfl | rfl | rfl | rfl | rfl <;> rfl
  have hk0 := h.alloc (.cells #[.bool false, .bool false, .bool true, .bool false, .bool false] 4)
  clear h
  have HF := Lib.hid hF
  clear hF
  generalize hW : w2.alloc (.cells #[.bool false, .bool false, .bool true, .bool false, .bool false] 4) = W0 at HF hk0
  clear hW
  generalize w2.heap.size = B at HF
  go_loopw [4, 5] (fun n i wr => ∃ k : Nat, k ≤ 5 ∧ i = .int .i64 k ∧ n = .int .i64 (cnt 2 k) ∧ Hid (Five wr B 2) ∧ Keeps w wr) (fun _ i _ => 5 - (intOf i).toNat)
  case atStart => exact ⟨0, by omega, rfl, rfl, HF, hk0⟩
  case round =>
    obtain ⟨k, hk, rfl, rfl, hfive, hkp⟩ := hrel
    by_cases hlt : k < 5
    · have hc := hfive.out k hlt
      by_cases hK : k = 2
      · subst hK
        rw [cnt_at]
        have hc1 : wr.cell? ⟨B, 2, none⟩ = some (.bool true) := hc
        clear hc
        go_wp2_with fail
        go_region_held3 (fun w' => w'.cell? ⟨B, 2, none⟩ = some (.bool true) ∧ Keeps wr w') (first | exact ⟨hc1, (Keeps.refl _).drew⟩ | exact ⟨hk3.cell (show wr.drew.cell? _ = _ from hc1), (Keeps.refl _).drew.trans hk3⟩)
          (first | (go_at_call 9; refine (cK.out _).mono ?_; rintro e w' ⟨rfl, hk3⟩))
        have hkk : Keeps wr w' := And.right (by assumption)
        clear hc1
        go_wp2
        go_roundw
        case rel => exact ⟨2 + 1, by omega, by first | rfl | go_num, by rw [cnt_succ_at], hfive.out.later hkk, hkp.trans hkk⟩
        case measure => simp [intOf]
      · have hb1 : (k == 2) = false := by simpa using hK
        have hb2 : ((2 : Int) == (k : Int)) = false := by simp; omega
        rw [hb1] at hc
        have hcs := Lib.hid (cnt_succ hK)
        clear hb1 hK
        go_wp2_with fail
        go_region_held3 (fun w' => w'.cell? ⟨B, k, none⟩ = some (.bool false) ∧ Keeps wr w') (first | exact ⟨hc, (Keeps.refl _).drew⟩ | exact ⟨hk3.cell (show wr.drew.cell? _ = _ from hc), (Keeps.refl _).drew.trans hk3⟩)
          (first | (go_at_call 9; refine (cK.out _).mono ?_; rintro e w' ⟨rfl, hk3⟩))
        have hkk : Keeps wr w' := And.right (by assumption)
        clear hc
        go_wp2
        go_roundw
        case rel => exact ⟨k + 1, by omega, by go_num, by rw [hcs.out], hfive.out.later hkk, hkp.trans hkk⟩
        case measure => simp [intOf]; omega
    · obtain rfl : k = 5 := by omega
      rw [cnt_end (by omega)]
      clear hfive hlt
      go_wp2_with fail
      refine (cW.out _).mono ?_
      rintro e w2 ⟨rfl, h2⟩
      have h1 := hkp.trans h2; clear hkp h2
      go_wp2_with fail
      refine (dW.out _).mono ?_
      rintro e w2 ⟨rfl, h2⟩
      have h := h1.trans h2; clear h1 h2
      go_wp2_with fail
      refine (dZ.out _).mono ?_
      rintro e w2 ⟨rfl, h2⟩
      have h1 := h.trans h2; clear h h2
      go_wp2_with fail
      refine (cZ.out _).mono ?_
      rintro e w2 ⟨rfl, h2⟩
      have h := h1.trans h2; clear h1 h2
      go_wp2_with fail
      refine (dR.out _).mono ?_
      rintro e w2 ⟨rfl, h2⟩
      have h1 := h.trans h2; clear h h2
      go_wp2_with fail
      refine (cR.out _).mono ?_
      rintro e w2 ⟨rfl, h2⟩
      have h := h1.trans h2; clear h1 h2
      go_wp2_with fail
      refine (dV.out _).mono ?_
      rintro e w2 ⟨rfl, h2⟩
      have h1 := h.trans h2; clear h h2
      go_wp2_with fail
      refine (cV.out _).mono ?_
      rintro e w2 ⟨rfl, h2⟩
      have h := h1.trans h2; clear h1 h2
      go_wp2_with fail
      refine (cU.out _).mono ?_
      rintro e w2 ⟨rfl, h2⟩
      have h1 := h.trans h2; clear h h2
      go_wp2
      go_ret
      exact RetQ.of rfl h1

set_option maxHeartbeats 2000000 in
theorem kinds_event (s : ByteArray) (w : World) (hs : s.size ≤ 600) (he : (s.toList.isEmpty) = false) (hu : userB s.data.toList = false) (hr : roomB s.data.toList = false) (hv : eventB s.data.toList = true) (hz : serverB s.data.toList = false) :
    Calls Try.prog 6 #[.string s] w (RetQ true w) := by
  have hm : s.size ≤ maxLen := by unfold maxLen; omega
  have hl : (S (lowL s.data.toList)).size = s.size := by rw [S_size, lowL_len]; simp
  have hm2 : (S (lowL s.data.toList)).size ≤ maxLen := by rw [hl]; exact hm
  have cL := Lib.hid (fun w => lives_any w)
  have cU : Hid (∀ w, Calls Try.prog 15 #[.string s] w (RetQ false w)) := fun w => by rw [← hu]; exact user_any s w hm
  have cR : Hid (∀ w, Calls Try.prog 17 #[.string s] w (RetQ false w)) := fun w => by rw [← hr]; exact room_any s w hm
  have cV : Hid (∀ w, Calls Try.prog 19 #[.string s] w (RetQ true w)) := fun w => by rw [← hv]; exact event_any s w hm
  have cZ : Hid (∀ w, Calls Try.prog 10 #[.string s] w (RetQ false w)) := fun w => by rw [← hz]; exact server_any s w hm
  have cK : Hid (∀ w, Calls Try.prog 9 #[.string s] w (RetI 3 w)) := fun w => by
    have : kindI s.data.toList = 3 := by unfold kindI; rw [hu, hr, hv]; rfl
    rw [← this]; exact kind_any s w hm
  have cW : Hid (∀ w, Calls Try.prog 11 #[.string s] w (RetS (lowL s.data.toList) w)) := fun w => lower_any s w hm
  have dW : Hid (∀ w, Calls Try.prog 11 #[.string (S (lowL s.data.toList))] w (RetS (lowL s.data.toList) w)) := fun w => by
    have := lower_any (S (lowL s.data.toList)) w hm2; rw [S_data, lowL_lowL] at this; exact this
  have dR : Hid (∀ w, Calls Try.prog 17 #[.string (S (lowL s.data.toList))] w (RetQ false w)) := fun w => by
    have := room_any (S (lowL s.data.toList)) w hm2; rw [S_data, room_low, hr] at this; exact this
  have dV : Hid (∀ w, Calls Try.prog 19 #[.string (S (lowL s.data.toList))] w (RetQ true w)) := fun w => by
    have := event_any (S (lowL s.data.toList)) w hm2; rw [S_data, event_low, hv] at this; exact this
  have dZ : Hid (∀ w, Calls Try.prog 10 #[.string (S (lowL s.data.toList))] w (RetQ false w)) := fun w => by
    have := server_any (S (lowL s.data.toList)) w hm2; rw [S_data, server_low, hz] at this; exact this
  clear hu hr hv hz hm hm2
  unfold RetS at cW dW
  have hq : (((S (lowL s.data.toList)).size : Int) == (s.size : Int)) = true := by rw [hl]; simp
  clear hl
  generalize S (lowL s.data.toList) = t at hq cW dW dR dV dZ
  go_enter Try.func6, Try.ntmps6
  go_wp2_with fail
  refine (cL.out _).mono ?_
  rintro e w2 ⟨rfl, h⟩
  go_wp2_with fail
  refine (cU.out _).mono ?_
  rintro e w2 ⟨rfl, h2⟩
  have h1 := h.trans h2; clear h h2
  go_wp2_with fail
  refine (cR.out _).mono ?_
  rintro e w2 ⟨rfl, h2⟩
  have h := h1.trans h2; clear h1 h2
  go_wp2_with fail
  refine (cV.out _).mono ?_
  rintro e w2 ⟨rfl, h2⟩
  have h1 := h.trans h2; clear h h2
  go_wp2_with fail
  refine (cU.out _).mono ?_
  rintro e w2 ⟨rfl, h2⟩
  have h := h1.trans h2; clear h1 h2
  go_wp2_with fail
  refine (cR.out _).mono ?_
  rintro e w2 ⟨rfl, h2⟩
  have h1 := h.trans h2; clear h h2
  go_wp2_with fail
  refine (cV.out _).mono ?_
  rintro e w2 ⟨rfl, h2⟩
  have h := h1.trans h2; clear h1 h2
  go_wp2_with fail
  refine (cZ.out _).mono ?_
  rintro e w2 ⟨rfl, h2⟩
  have h1 := h.trans h2; clear h h2
  go_wp2_with fail
  have hF : Five (w2.alloc (.cells #[.bool false, .bool false, .bool false, .bool true, .bool false] 4)) w2.heap.size 3 := by
    intro j hj
    rw [World.cell?_alloc_at _ _ _ _ rfl]
    rcases (show j = 0 ∨ j = 1 ∨ j = 2 ∨ j = 3 ∨ j = 4 by omega) with rfl | rfl | rfl | rfl | rfl <;> rfl
  have hk0 := h1.alloc (.cells #[.bool false, .bool false, .bool false, .bool true, .bool false] 4)
  clear h1
  have HF := Lib.hid hF
  clear hF
  generalize hW : w2.alloc (.cells #[.bool false, .bool false, .bool false, .bool true, .bool false] 4) = W0 at HF hk0
  clear hW
  generalize w2.heap.size = B at HF
  go_loopw [4, 5] (fun n i wr => ∃ k : Nat, k ≤ 5 ∧ i = .int .i64 k ∧ n = .int .i64 (cnt 3 k) ∧ Hid (Five wr B 3) ∧ Keeps w wr) (fun _ i _ => 5 - (intOf i).toNat)
  case atStart => exact ⟨0, by omega, rfl, rfl, HF, hk0⟩
  case round =>
    obtain ⟨k, hk, rfl, rfl, hfive, hkp⟩ := hrel
    by_cases hlt : k < 5
    · have hc := hfive.out k hlt
      by_cases hK : k = 3
      · subst hK
        rw [cnt_at]
        have hc1 : wr.cell? ⟨B, 3, none⟩ = some (.bool true) := hc
        clear hc
        go_wp2_with fail
        go_region_held3 (fun w' => w'.cell? ⟨B, 3, none⟩ = some (.bool true) ∧ Keeps wr w') (first | exact ⟨hc1, (Keeps.refl _).drew⟩ | exact ⟨hk3.cell (show wr.drew.cell? _ = _ from hc1), (Keeps.refl _).drew.trans hk3⟩)
          (first | (go_at_call 9; refine (cK.out _).mono ?_; rintro e w' ⟨rfl, hk3⟩))
        have hkk : Keeps wr w' := And.right (by assumption)
        clear hc1
        go_wp2
        go_roundw
        case rel => exact ⟨3 + 1, by omega, by first | rfl | go_num, by rw [cnt_succ_at], hfive.out.later hkk, hkp.trans hkk⟩
        case measure => simp [intOf]
      · have hb1 : (k == 3) = false := by simpa using hK
        have hb2 : ((3 : Int) == (k : Int)) = false := by simp; omega
        rw [hb1] at hc
        have hcs := Lib.hid (cnt_succ hK)
        clear hb1 hK
        go_wp2_with fail
        go_region_held3 (fun w' => w'.cell? ⟨B, k, none⟩ = some (.bool false) ∧ Keeps wr w') (first | exact ⟨hc, (Keeps.refl _).drew⟩ | exact ⟨hk3.cell (show wr.drew.cell? _ = _ from hc), (Keeps.refl _).drew.trans hk3⟩)
          (first | (go_at_call 9; refine (cK.out _).mono ?_; rintro e w' ⟨rfl, hk3⟩))
        have hkk : Keeps wr w' := And.right (by assumption)
        clear hc
        go_wp2
        go_roundw
        case rel => exact ⟨k + 1, by omega, by go_num, by rw [hcs.out], hfive.out.later hkk, hkp.trans hkk⟩
        case measure => simp [intOf]; omega
    · obtain rfl : k = 5 := by omega
      rw [cnt_end (by omega)]
      clear hfive hlt
      go_wp2_with fail
      refine (cW.out _).mono ?_
      rintro e w2 ⟨rfl, h2⟩
      have h1 := hkp.trans h2; clear hkp h2
      go_wp2_with fail
      refine (dW.out _).mono ?_
      rintro e w2 ⟨rfl, h2⟩
      have h := h1.trans h2; clear h1 h2
      go_wp2_with fail
      refine (dZ.out _).mono ?_
      rintro e w2 ⟨rfl, h2⟩
      have h1 := h.trans h2; clear h h2
      go_wp2_with fail
      refine (cZ.out _).mono ?_
      rintro e w2 ⟨rfl, h2⟩
      have h := h1.trans h2; clear h1 h2
      go_wp2_with fail
      refine (dR.out _).mono ?_
      rintro e w2 ⟨rfl, h2⟩
      have h1 := h.trans h2; clear h h2
      go_wp2_with fail
      refine (cR.out _).mono ?_
      rintro e w2 ⟨rfl, h2⟩
      have h := h1.trans h2; clear h1 h2
      go_wp2_with fail
      refine (dV.out _).mono ?_
      rintro e w2 ⟨rfl, h2⟩
      have h1 := h.trans h2; clear h h2
      go_wp2_with fail
      refine (cV.out _).mono ?_
      rintro e w2 ⟨rfl, h2⟩
      have h := h1.trans h2; clear h1 h2
      go_wp2_with fail
      refine (cU.out _).mono ?_
      rintro e w2 ⟨rfl, h2⟩
      have h1 := h.trans h2; clear h h2
      go_wp2
      go_ret
      exact RetQ.of rfl h1

set_option maxHeartbeats 2000000 in
theorem kinds_server (s : ByteArray) (w : World) (hs : s.size ≤ 600) (he : (s.toList.isEmpty) = false) (hu : userB s.data.toList = false) (hr : roomB s.data.toList = false) (hv : eventB s.data.toList = false) (hz : serverB s.data.toList = true) :
    Calls Try.prog 6 #[.string s] w (RetQ true w) := by
  have hm : s.size ≤ maxLen := by unfold maxLen; omega
  have hl : (S (lowL s.data.toList)).size = s.size := by rw [S_size, lowL_len]; simp
  have hm2 : (S (lowL s.data.toList)).size ≤ maxLen := by rw [hl]; exact hm
  have cL := Lib.hid (fun w => lives_any w)
  have cU : Hid (∀ w, Calls Try.prog 15 #[.string s] w (RetQ false w)) := fun w => by rw [← hu]; exact user_any s w hm
  have cR : Hid (∀ w, Calls Try.prog 17 #[.string s] w (RetQ false w)) := fun w => by rw [← hr]; exact room_any s w hm
  have cV : Hid (∀ w, Calls Try.prog 19 #[.string s] w (RetQ false w)) := fun w => by rw [← hv]; exact event_any s w hm
  have cZ : Hid (∀ w, Calls Try.prog 10 #[.string s] w (RetQ true w)) := fun w => by rw [← hz]; exact server_any s w hm
  have cK : Hid (∀ w, Calls Try.prog 9 #[.string s] w (RetI 4 w)) := fun w => by
    have : kindI s.data.toList = 4 := by unfold kindI; rw [hu, hr, hv, hz]; rfl
    rw [← this]; exact kind_any s w hm
  have cW : Hid (∀ w, Calls Try.prog 11 #[.string s] w (RetS (lowL s.data.toList) w)) := fun w => lower_any s w hm
  have dW : Hid (∀ w, Calls Try.prog 11 #[.string (S (lowL s.data.toList))] w (RetS (lowL s.data.toList) w)) := fun w => by
    have := lower_any (S (lowL s.data.toList)) w hm2; rw [S_data, lowL_lowL] at this; exact this
  have dR : Hid (∀ w, Calls Try.prog 17 #[.string (S (lowL s.data.toList))] w (RetQ false w)) := fun w => by
    have := room_any (S (lowL s.data.toList)) w hm2; rw [S_data, room_low, hr] at this; exact this
  have dV : Hid (∀ w, Calls Try.prog 19 #[.string (S (lowL s.data.toList))] w (RetQ false w)) := fun w => by
    have := event_any (S (lowL s.data.toList)) w hm2; rw [S_data, event_low, hv] at this; exact this
  have dZ : Hid (∀ w, Calls Try.prog 10 #[.string (S (lowL s.data.toList))] w (RetQ true w)) := fun w => by
    have := server_any (S (lowL s.data.toList)) w hm2; rw [S_data, server_low, hz] at this; exact this
  clear hu hr hv hz hm hm2
  unfold RetS at cW dW
  have hq : (((S (lowL s.data.toList)).size : Int) == (s.size : Int)) = true := by rw [hl]; simp
  clear hl
  generalize S (lowL s.data.toList) = t at hq cW dW dR dV dZ
  go_enter Try.func6, Try.ntmps6
  go_wp2_with fail
  refine (cL.out _).mono ?_
  rintro e w2 ⟨rfl, h⟩
  go_wp2_with fail
  refine (cU.out _).mono ?_
  rintro e w2 ⟨rfl, h2⟩
  have h1 := h.trans h2; clear h h2
  go_wp2_with fail
  refine (cR.out _).mono ?_
  rintro e w2 ⟨rfl, h2⟩
  have h := h1.trans h2; clear h1 h2
  go_wp2_with fail
  refine (cV.out _).mono ?_
  rintro e w2 ⟨rfl, h2⟩
  have h1 := h.trans h2; clear h h2
  go_wp2_with fail
  refine (cZ.out _).mono ?_
  rintro e w2 ⟨rfl, h2⟩
  have h := h1.trans h2; clear h1 h2
  go_wp2_with fail
  refine (cU.out _).mono ?_
  rintro e w2 ⟨rfl, h2⟩
  have h1 := h.trans h2; clear h h2
  go_wp2_with fail
  refine (cR.out _).mono ?_
  rintro e w2 ⟨rfl, h2⟩
  have h := h1.trans h2; clear h1 h2
  go_wp2_with fail
  refine (cV.out _).mono ?_
  rintro e w2 ⟨rfl, h2⟩
  have h1 := h.trans h2; clear h h2
  go_wp2_with fail
  refine (cZ.out _).mono ?_
  rintro e w2 ⟨rfl, h2⟩
  have h := h1.trans h2; clear h1 h2
  go_wp2_with fail
  have hF : Five (w2.alloc (.cells #[.bool false, .bool false, .bool false, .bool false, .bool true] 4)) w2.heap.size 4 := by
    intro j hj
    rw [World.cell?_alloc_at _ _ _ _ rfl]
    rcases (show j = 0 ∨ j = 1 ∨ j = 2 ∨ j = 3 ∨ j = 4 by omega) with rfl | rfl | rfl | rfl | rfl <;> rfl
  have hk0 := h.alloc (.cells #[.bool false, .bool false, .bool false, .bool false, .bool true] 4)
  clear h
  have HF := Lib.hid hF
  clear hF
  generalize hW : w2.alloc (.cells #[.bool false, .bool false, .bool false, .bool false, .bool true] 4) = W0 at HF hk0
  clear hW
  generalize w2.heap.size = B at HF
  go_loopw [4, 5] (fun n i wr => ∃ k : Nat, k ≤ 5 ∧ i = .int .i64 k ∧ n = .int .i64 (cnt 4 k) ∧ Hid (Five wr B 4) ∧ Keeps w wr) (fun _ i _ => 5 - (intOf i).toNat)
  case atStart => exact ⟨0, by omega, rfl, rfl, HF, hk0⟩
  case round =>
    obtain ⟨k, hk, rfl, rfl, hfive, hkp⟩ := hrel
    by_cases hlt : k < 5
    · have hc := hfive.out k hlt
      by_cases hK : k = 4
      · subst hK
        rw [cnt_at]
        have hc1 : wr.cell? ⟨B, 4, none⟩ = some (.bool true) := hc
        clear hc
        go_wp2_with fail
        go_region_held3 (fun w' => w'.cell? ⟨B, 4, none⟩ = some (.bool true) ∧ Keeps wr w') (first | exact ⟨hc1, (Keeps.refl _).drew⟩ | exact ⟨hk3.cell (show wr.drew.cell? _ = _ from hc1), (Keeps.refl _).drew.trans hk3⟩)
          (first | (go_at_call 9; refine (cK.out _).mono ?_; rintro e w' ⟨rfl, hk3⟩))
        have hkk : Keeps wr w' := And.right (by assumption)
        clear hc1
        go_wp2
        go_roundw
        case rel => exact ⟨4 + 1, by omega, by first | rfl | go_num, by rw [cnt_succ_at], hfive.out.later hkk, hkp.trans hkk⟩
        case measure => simp [intOf]
      · have hb1 : (k == 4) = false := by simpa using hK
        have hb2 : ((4 : Int) == (k : Int)) = false := by simp; omega
        rw [hb1] at hc
        have hcs := Lib.hid (cnt_succ hK)
        clear hb1 hK
        go_wp2_with fail
        go_region_held3 (fun w' => w'.cell? ⟨B, k, none⟩ = some (.bool false) ∧ Keeps wr w') (first | exact ⟨hc, (Keeps.refl _).drew⟩ | exact ⟨hk3.cell (show wr.drew.cell? _ = _ from hc), (Keeps.refl _).drew.trans hk3⟩)
          (first | (go_at_call 9; refine (cK.out _).mono ?_; rintro e w' ⟨rfl, hk3⟩))
        have hkk : Keeps wr w' := And.right (by assumption)
        clear hc
        go_wp2
        go_roundw
        case rel => exact ⟨k + 1, by omega, by go_num, by rw [hcs.out], hfive.out.later hkk, hkp.trans hkk⟩
        case measure => simp [intOf]; omega
    · obtain rfl : k = 5 := by omega
      rw [cnt_end (by omega)]
      clear hfive hlt
      go_wp2_with fail
      refine (cW.out _).mono ?_
      rintro e w2 ⟨rfl, h2⟩
      have h1 := hkp.trans h2; clear hkp h2
      go_wp2_with fail
      refine (dW.out _).mono ?_
      rintro e w2 ⟨rfl, h2⟩
      have h := h1.trans h2; clear h1 h2
      go_wp2_with fail
      refine (dZ.out _).mono ?_
      rintro e w2 ⟨rfl, h2⟩
      have h1 := h.trans h2; clear h h2
      go_wp2_with fail
      refine (cZ.out _).mono ?_
      rintro e w2 ⟨rfl, h2⟩
      have h := h1.trans h2; clear h1 h2
      go_wp2_with fail
      refine (dR.out _).mono ?_
      rintro e w2 ⟨rfl, h2⟩
      have h1 := h.trans h2; clear h h2
      go_wp2_with fail
      refine (cR.out _).mono ?_
      rintro e w2 ⟨rfl, h2⟩
      have h := h1.trans h2; clear h1 h2
      go_wp2_with fail
      refine (dV.out _).mono ?_
      rintro e w2 ⟨rfl, h2⟩
      have h1 := h.trans h2; clear h h2
      go_wp2_with fail
      refine (cV.out _).mono ?_
      rintro e w2 ⟨rfl, h2⟩
      have h := h1.trans h2; clear h1 h2
      go_wp2_with fail
      refine (cU.out _).mono ?_
      rintro e w2 ⟨rfl, h2⟩
      have h1 := h.trans h2; clear h h2
      go_wp2
      go_ret
      exact RetQ.of rfl h1


/-- Whatever the text is. -/
theorem kinds_all (s : ByteArray) (w : World) (hs : s.size ≤ 600) : Calls Try.prog 6 #[.string s] w (RetQ true w) := by
  cases he : s.toList.isEmpty
  · rcases one_kind s.data.toList with ⟨h1, h2, h3, h4⟩ | ⟨h1, h2, h3, h4⟩ | ⟨h1, h2, h3, h4⟩ | ⟨h1, h2, h3, h4⟩ | ⟨h1, h2, h3, h4⟩
    · exact kinds_user s w hs he h1 h2 h3 h4
    · exact kinds_room s w hs he h1 h2 h3 h4
    · exact kinds_event s w hs he h1 h2 h3 h4
    · exact kinds_server s w hs he h1 h2 h3 h4
    · exact kinds_none s w hs he h1 h2 h3 h4
  · have e : s.data.toList = [] := by rw [ByteArray.toList_eq] at he; simpa using he
    obtain ⟨h1, h2, h3, h4⟩ := empty_kinds
    exact kinds_empty s w hs he (by rw [e]; exact h1) (by rw [e]; exact h2) (by rw [e]; exact h3) (by rw [e]; exact h4)

set_option maxHeartbeats 1000000 in
theorem kinds_long (s : ByteArray) (w : World) (hs : 600 < s.size) (hm : s.size ≤ maxLen) : Calls Try.prog 6 #[.string s] w (RetQ true w) := by
  have cL := Lib.hid (fun w => lives_any w)
  unfold maxLen at hm
  go_enter Try.func6, Try.ntmps6
  go_wp2_with fail
  refine (cL.out _).mono ?_
  rintro e w2 ⟨rfl, h⟩
  go_wp2
  go_ret
  exact RetQ.of rfl h

theorem kinds_any (s : ByteArray) (w : World) (hm : s.size ≤ maxLen) : Calls Try.prog 6 #[.string s] w (RetQ true w) := by
  by_cases hs : s.size ≤ 600
  · exact kinds_all s w hs
  · exact kinds_long s w (by omega) hm
end Go.Proofs.Ytjdlpfkcikomfab
