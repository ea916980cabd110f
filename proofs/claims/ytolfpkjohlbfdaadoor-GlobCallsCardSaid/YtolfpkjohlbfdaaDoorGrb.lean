/-
  The document's own Fold of globs.
-/
import Derived.Test.YtolfpkjohlbfdaaDoorGra
namespace Go.Proofs.YtolfpkjohlbfdaaDoor
open Go.RowKit

theorem RetS.ext {l : List UInt8} {w : World} {e : Ending} {w' : World} (h : e = .returned (.string (S l))) (k : Keeps w w') : RetS l w e w' := ⟨h, k⟩

set_option maxHeartbeats 2000000 in
theorem rfold_any (s : ByteArray) (w : World) (hs : s.size ≤ 100000) : Calls Tryd.prog 21 #[.string s] w (RetS (lowL s.data.toList) w) := by
  have hl : s.data.toList.length = s.size := by simp
  obtain ⟨W1, cap, hconv, hrow, hk1⟩ := conv_to s w
  have HR : LowRel w w.heap.size s.data.toList 0 W1 := ⟨by simpa [lowTo] using hrow, hk1⟩
  clear hrow hk1
  generalize s.data.toList = l at HR hl ⊢
  have HL := Lib.hid hl
  clear hl
  generalize hB : w.heap.size = B at HR hconv
  have HB := Lib.hid hB
  clear hB
  go_enter Tryd.func21, Tryd.ntmps21
  go_wp2
  go_loopw [4] (fun i wr => ∃ k : Nat, k ≤ s.size ∧ i = .int .i64 k ∧ Hid (LowRel w B l k wr)) (fun i _ => s.size - (intOf i).toNat)
  case atStart => exact ⟨0, Nat.zero_le _, rfl, Lib.hid HR⟩
  case round =>
    obtain ⟨k, hk, rfl, hr⟩ := hrel
    obtain ⟨hrow, hkp⟩ := hr.out
    have HW := Lib.hid hrow
    have HK := Lib.hid hkp
    clear hkp
    by_cases hlt : k < s.size
    · have hc := (hrow k (by rw [lowTo_len, HL.out]; exact hlt)).1
      have hf := (hrow k (by rw [lowTo_len, HL.out]; exact hlt)).2
      rw [lowTo_at] at hc
      clear hrow
      have hsu := Lib.hid (lowTo_succ l k (by rw [HL.out]; exact hlt))
      have hst := Lib.hid (lowTo_stay l k (by rw [HL.out]; exact hlt))
      have hlen := Lib.hid (show k < (lowTo l k).length by rw [lowTo_len, HL.out]; exact hlt)
      generalize hcv : l.getD k 0 = c at hc hsu hst
      clear hcv
      have hct := c.toNat_lt
      by_cases g1 : c.toNat < 65
      · have e := Lib.hid (hst.out (by omega))
        go_wp2
        go_roundw
        case rel => exact ⟨k + 1, by omega, by go_num, Lib.hid ⟨by rw [e.out]; exact HW.out, HK.out⟩⟩
        case measure => simp [intOf]; omega
      · by_cases g2 : c.toNat ≤ 90
        · have hv := Lib.hid (low_nat c (by omega) g2)
          have hwr : IntKind.u8.wrap ((c.toNat : Int) + 32) = (c.toNat : Int) + 32 := IntWalk.u8_in _ (by omega)
          go_wp2
          go_roundw
          case rel =>
            refine ⟨k + 1, by omega, by go_num, Lib.hid ?_⟩
            rw [LowRel, hsu.out]
            exact ⟨HW.out.set hlen.out (by rw [hv.out]), HK.out.setCell (by rw [HB.out]; exact Nat.le_refl _) _⟩
          case measure => simp [intOf]; omega
        · have e := Lib.hid (hst.out (by omega))
          go_wp2
          go_roundw
          case rel => exact ⟨k + 1, by omega, by go_num, Lib.hid ⟨by rw [e.out]; exact HW.out, HK.out⟩⟩
          case measure => simp [intOf]; omega
    · have hb := conv_back wr B cap s.size (lowTo l k) (by rw [lowTo_len, HL.out]) hrow
      rw [lowTo_end l k (by rw [HL.out]; omega)] at hb
      clear hrow
      go_wp2
      go_ret
      exact RetS.of rfl HK.out
end Go.Proofs.YtolfpkjohlbfdaaDoor
