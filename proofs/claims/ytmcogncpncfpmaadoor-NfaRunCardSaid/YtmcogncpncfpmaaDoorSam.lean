/-
  Whether two slices of whole numbers are the same: the kit's Same.
-/
import Derived.Test.YtmcogncpncfpmaaDoorInt
namespace Go.Proofs.YtmcogncpncfpmaaDoor
open Go.RowKit

theorem take_more (xs ys : List Int) (k : Nat) (h : xs.take k = ys.take k) (h1 : k < xs.length) (h2 : k < ys.length) (e : xs.getD k 0 = ys.getD k 0) : xs.take (k + 1) = ys.take (k + 1) := by
  rw [List.take_succ_eq_append_getElem h1, List.take_succ_eq_append_getElem h2, h]
  simp [h1, h2] at e
  rw [e]
theorem take_whole (xs ys : List Int) (k : Nat) (h : xs.take k = ys.take k) (h1 : xs.length ≤ k) (h2 : xs.length = ys.length) : xs = ys := by
  rw [List.take_of_length_le h1, List.take_of_length_le (by omega)] at h; exact h
theorem differ (xs ys : List Int) (k : Nat) (e : xs.getD k 0 ≠ ys.getD k 0) : xs ≠ ys := fun h => e (by rw [h])

set_option maxHeartbeats 1000000 in
theorem same_any (A B : Option Addr) (c d : Nat) (xs ys : List Int) (w : World) (hx : IntsAt w A xs) (hy : IntsAt w B ys) (hl : xs.length ≤ 100000) (hl2 : ys.length ≤ 100000) :
    Calls Tryd.prog 14 #[.slice A xs.length c, .slice B ys.length d] w (RetQ (decide (xs = ys)) w) := by
  by_cases hn : xs.length = ys.length
  · have HN := Lib.hid hn
    rw [← hn]
    have hm := Lib.hid (fun k => take_more xs ys k)
    have hw := Lib.hid (fun k => take_whole xs ys k)
    have hd := Lib.hid (fun k => differ xs ys k)
    generalize hq : decide (xs = ys) = q
    have HQ := Lib.hid hq
    clear hq hl2 hn
    generalize hnn : xs.length = n at *
    have HX := Lib.hid hx
    have HY := Lib.hid hy
    have HNN := Lib.hid hnn
    clear hx hy hnn
    go_enter Tryd.func14, Tryd.ntmps14
    go_wp2
    go_loopw [5] (fun i wr => ∃ k : Nat, k ≤ n ∧ i = .int .i64 k ∧ xs.take k = ys.take k ∧ Keeps w wr) (fun i _ => n - (intOf i).toNat)
    case atStart => exact ⟨0, Nat.zero_le _, rfl, by simp, Keeps.refl _⟩
    case round =>
      obtain ⟨k, hk, rfl, ht, hkp⟩ := hrel
      have HT := Lib.hid ht
      clear ht
      by_cases hlt : k < n
      · obtain ⟨ad1, rfl, c1⟩ := (HX.out.keeps hkp) k (by rw [HNN.out]; exact hlt)
        obtain ⟨ad2, rfl, c2⟩ := (HY.out.keeps hkp) k (by rw [← HN.out]; exact hlt)
        have hmk := Lib.hid (hm.out k HT.out hlt (by rw [← HN.out]; exact hlt))
        have hdk := Lib.hid (hd.out k)
        generalize xs.getD k 0 = x at c1 hmk hdk
        generalize ys.getD k 0 = y at c2 hmk hdk
        by_cases hxy : x = y
        · subst hxy
          go_wp2
          go_quiet (fail)
          go_wp2
          go_roundw
          case rel => exact ⟨k + 1, by omega, by go_num, hmk.out trivial, hkp.drewN _⟩
          case measure => simp [intOf]; omega
        · go_wp2
          go_quiet (fail)
          go_wp2
          go_ret
          refine RetQ.of ?_ (hkp.drewN _)
          rw [← HQ.out]; exact (decide_eq_false (hdk.out hxy)).symm
      · go_wp2
        go_ret
        refine RetQ.of ?_ hkp
        rw [← HQ.out]; exact (decide_eq_true (hw.out k HT.out (by omega) HN.out)).symm
  · have e : decide (xs = ys) = false := decide_eq_false (fun h => hn (by rw [h]))
    rw [e]
    generalize xs.length = n at *
    generalize ys.length = m at *
    clear hx hy e
    go_enter Tryd.func14, Tryd.ntmps14
    go_wp2
    go_ret
    exact RetQ.of rfl (Keeps.refl _)
end Go.Proofs.YtmcogncpncfpmaaDoor
