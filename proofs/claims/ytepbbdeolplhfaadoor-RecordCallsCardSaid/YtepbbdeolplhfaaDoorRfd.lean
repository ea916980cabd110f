/-
  The document's own Big of records.
-/
import Derived.Test.YtepbbdeolplhfaaDoorRfc
namespace Go.Proofs.YtepbbdeolplhfaaDoor
open Go.RowKit

set_option maxHeartbeats 4000000 in
theorem big_any (n : Nat) (w : World) (hn : n ≤ 9223372036854775807) : Calls Tryd.prog 26 #[.int .u64 (n : Int)] w (fun e w' => e = .returned (.string (S (be8 n))) ∧ Keeps w w') := by
  have hmk := hmk8 w
  have HR := Lib.hid (big_row w n)
  have HK : Hid (Keeps w (w.alloc (.cells #[.int .u8 0, .int .u8 0, .int .u8 0, .int .u8 0, .int .u8 0, .int .u8 0, .int .u8 0, .int .u8 0] 5))) := Lib.hid ((Keeps.refl w).alloc _)
  generalize (w.alloc (.cells #[.int .u8 0, .int .u8 0, .int .u8 0, .int .u8 0, .int .u8 0, .int .u8 0, .int .u8 0, .int .u8 0] 5)) = W1 at hmk HR HK
  generalize hB : w.heap.size = B at hmk HR
  have HB := Lib.hid hB
  clear hB
  go_enter Tryd.func26, Tryd.ntmps26
  go_wp2
  go_loopw [4] (fun i wr => ∃ (k : Nat) (z : Int), k ≤ 8 ∧ i = .int .i64 z ∧ z = (k : Int) ∧ Hid (RowIs wr B (bigTo n k)) ∧ Hid (Keeps w wr)) (fun i _ => 8 - (intOf i).toNat)
  case atStart => exact ⟨0, 0, by omega, rfl, rfl, HR, HK⟩
  case round =>
    obtain ⟨k, z, hk, rfl, hz, hr, hkp⟩ := hrel
    rcases (show k = 0 ∨ k = 1 ∨ k = 2 ∨ k = 3 ∨ k = 4 ∨ k = 5 ∨ k = 6 ∨ k = 7 ∨ k = 8 by omega) with rfl | rfl | rfl | rfl | rfl | rfl | rfl | rfl | rfl
    · obtain rfl : z = 0 := hz
      obtain ⟨c1, f1⟩ := hr.out 0 (by rw [bigTo_len n 0 (by omega)]; omega)
      have hb := Lib.hid (byteAt_nat (n : Int) 56)
      have he : Hid (bigTo n (0 + 1) = (bigTo n 0).set 0 (byteAt n 56)) := Lib.hid rfl
      go_wp2
      go_roundw
      case rel =>
        refine ⟨0 + 1, _, by omega, rfl, rfl, Lib.hid ?_, Lib.hid (hkp.out.setCell (by rw [HB.out]; exact Nat.le_refl _) _)⟩
        rw [he.out]
        exact hr.out.set (by rw [bigTo_len n 0 (by omega)]; omega) (by rw [hb.out]; omega)
      case measure => simp [intOf]
    · obtain rfl : z = 1 := hz
      obtain ⟨c1, f1⟩ := hr.out 1 (by rw [bigTo_len n 1 (by omega)]; omega)
      have hb := Lib.hid (byteAt_nat (n : Int) 48)
      have he : Hid (bigTo n (1 + 1) = (bigTo n 1).set 1 (byteAt n 48)) := Lib.hid rfl
      go_wp2
      go_roundw
      case rel =>
        refine ⟨1 + 1, _, by omega, rfl, rfl, Lib.hid ?_, Lib.hid (hkp.out.setCell (by rw [HB.out]; exact Nat.le_refl _) _)⟩
        rw [he.out]
        exact hr.out.set (by rw [bigTo_len n 1 (by omega)]; omega) (by rw [hb.out]; omega)
      case measure => simp [intOf]
    · obtain rfl : z = 2 := hz
      obtain ⟨c1, f1⟩ := hr.out 2 (by rw [bigTo_len n 2 (by omega)]; omega)
      have hb := Lib.hid (byteAt_nat (n : Int) 40)
      have he : Hid (bigTo n (2 + 1) = (bigTo n 2).set 2 (byteAt n 40)) := Lib.hid rfl
      go_wp2
      go_roundw
      case rel =>
        refine ⟨2 + 1, _, by omega, rfl, rfl, Lib.hid ?_, Lib.hid (hkp.out.setCell (by rw [HB.out]; exact Nat.le_refl _) _)⟩
        rw [he.out]
        exact hr.out.set (by rw [bigTo_len n 2 (by omega)]; omega) (by rw [hb.out]; omega)
      case measure => simp [intOf]
    · obtain rfl : z = 3 := hz
      obtain ⟨c1, f1⟩ := hr.out 3 (by rw [bigTo_len n 3 (by omega)]; omega)
      have hb := Lib.hid (byteAt_nat (n : Int) 32)
      have he : Hid (bigTo n (3 + 1) = (bigTo n 3).set 3 (byteAt n 32)) := Lib.hid rfl
      go_wp2
      go_roundw
      case rel =>
        refine ⟨3 + 1, _, by omega, rfl, rfl, Lib.hid ?_, Lib.hid (hkp.out.setCell (by rw [HB.out]; exact Nat.le_refl _) _)⟩
        rw [he.out]
        exact hr.out.set (by rw [bigTo_len n 3 (by omega)]; omega) (by rw [hb.out]; omega)
      case measure => simp [intOf]
    · obtain rfl : z = 4 := hz
      obtain ⟨c1, f1⟩ := hr.out 4 (by rw [bigTo_len n 4 (by omega)]; omega)
      have hb := Lib.hid (byteAt_nat (n : Int) 24)
      have he : Hid (bigTo n (4 + 1) = (bigTo n 4).set 4 (byteAt n 24)) := Lib.hid rfl
      go_wp2
      go_roundw
      case rel =>
        refine ⟨4 + 1, _, by omega, rfl, rfl, Lib.hid ?_, Lib.hid (hkp.out.setCell (by rw [HB.out]; exact Nat.le_refl _) _)⟩
        rw [he.out]
        exact hr.out.set (by rw [bigTo_len n 4 (by omega)]; omega) (by rw [hb.out]; omega)
      case measure => simp [intOf]
    · obtain rfl : z = 5 := hz
      obtain ⟨c1, f1⟩ := hr.out 5 (by rw [bigTo_len n 5 (by omega)]; omega)
      have hb := Lib.hid (byteAt_nat (n : Int) 16)
      have he : Hid (bigTo n (5 + 1) = (bigTo n 5).set 5 (byteAt n 16)) := Lib.hid rfl
      go_wp2
      go_roundw
      case rel =>
        refine ⟨5 + 1, _, by omega, rfl, rfl, Lib.hid ?_, Lib.hid (hkp.out.setCell (by rw [HB.out]; exact Nat.le_refl _) _)⟩
        rw [he.out]
        exact hr.out.set (by rw [bigTo_len n 5 (by omega)]; omega) (by rw [hb.out]; omega)
      case measure => simp [intOf]
    · obtain rfl : z = 6 := hz
      obtain ⟨c1, f1⟩ := hr.out 6 (by rw [bigTo_len n 6 (by omega)]; omega)
      have hb := Lib.hid (byteAt_nat (n : Int) 8)
      have he : Hid (bigTo n (6 + 1) = (bigTo n 6).set 6 (byteAt n 8)) := Lib.hid rfl
      go_wp2
      go_roundw
      case rel =>
        refine ⟨6 + 1, _, by omega, rfl, rfl, Lib.hid ?_, Lib.hid (hkp.out.setCell (by rw [HB.out]; exact Nat.le_refl _) _)⟩
        rw [he.out]
        exact hr.out.set (by rw [bigTo_len n 6 (by omega)]; omega) (by rw [hb.out]; omega)
      case measure => simp [intOf]
    · obtain rfl : z = 7 := hz
      obtain ⟨c1, f1⟩ := hr.out 7 (by rw [bigTo_len n 7 (by omega)]; omega)
      have hb := Lib.hid (byteAt_nat (n : Int) 0)
      have he : Hid (bigTo n (7 + 1) = (bigTo n 7).set 7 (byteAt n 0)) := Lib.hid rfl
      go_wp2
      go_roundw
      case rel =>
        refine ⟨7 + 1, _, by omega, rfl, rfl, Lib.hid ?_, Lib.hid (hkp.out.setCell (by rw [HB.out]; exact Nat.le_refl _) _)⟩
        rw [he.out]
        exact hr.out.set (by rw [bigTo_len n 7 (by omega)]; omega) (by rw [hb.out]; omega)
      case measure => simp [intOf]
    · obtain rfl : z = 8 := hz
      have hb := conv_back wr B 8 8 (bigTo n 8) (by rw [bigTo_len n 8 (by omega)]) hr.out
      rw [show bigTo n 8 = be8 n by unfold bigTo; simp [be8]] at hb
      go_wp2
      go_ret
      exact ⟨rfl, hkp.out⟩
end Go.Proofs.YtepbbdeolplhfaaDoor
