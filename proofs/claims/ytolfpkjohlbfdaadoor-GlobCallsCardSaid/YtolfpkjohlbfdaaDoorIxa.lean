/-
  strings.IndexAny of both wildcards in a text of at most eight bytes, whatever they are; given what IndexRune answers beyond ASCII.
-/
import Derived.Test.YtolfpkjohlbfdaaDoorDec
import Derived.Test.YtolfpkjohlbfdaaDoorIxr
import Derived.Test.YtolfpkjohlbfdaaDoorShlb
import Derived.Lib.OthersKept
import Derived.Lib.IndexBytes
namespace Go.Proofs.YtolfpkjohlbfdaaDoor
open Go.RowKit

theorem iter_at_new (w : World) (s : ByteArray) (p : Nat) : (w.iter s p).heap[w.heap.size]? = some (.stringIter s p) := World.iter_heap w s p

theorem keeps_iterAt {w wr : World} {s : ByteArray} {p : Nat} (h : Keeps w wr) : Keeps w (wr.iterAt w.heap.size s p) := by
  refine ⟨h.1, h.2, h.3, ?_, ?_⟩
  · simpa [World.iterAt] using h.4
  · intro k hk
    have := h.5 k hk
    rw [← this]
    simp only [World.iterAt]
    rw [Array.getElem?_setIfInBounds_ne (by omega)]

set_option maxHeartbeats 1000000 in
set_option maxRecDepth 1000000 in
theorem ixa_short (s : ByteArray) (w : World) (h8 : s.size ≤ 8) (hR : ∀ (r : Nat) (w1 : World), 128 ≤ r → r ≤ 2147483647 → Calls Tryd.prog 44 #[.string ⟨#[42, 63]⟩, .int .i32 r] w1 (RetM w1)) :
    Calls Tryd.prog 32 #[.string s, .string ⟨#[42, 63]⟩] w fun e w' => e = .returned (.int .i64 (Lib.indexAny s.data.toList [42, 63])) ∧ Keeps w w' := by
  have cU := Lib.hid (fun n w1 => Tryd.strings_shouldUseASCIISet n w1)
  have cR := Lib.hid hR
  have cA := Lib.hid (fun r w1 h0 h1 => Tryd.strings_IndexRune_ascii ⟨#[42, 63]⟩ r w1 h0 h1)
  have h8z : decide ((8 : Int) < (s.size : Int)) = false := decide_eq_false (by omega)
  have h0 : (w.iter s 0).heap[w.heap.size]? = some (.stringIter s 0) := iter_at_new w s 0
  have k0 : Keeps w (w.iter s 0) := by exact (Keeps.refl w).alloc _
  have H0 := Lib.hid (And.intro h0 k0)
  clear h0 k0 hR
  have HN0 := Lib.hid (Lib.NoAny.zero s.data.toList [42, 63])
  go_enter Tryd.func32, Tryd.ntmps32
  go_wp2_with fail
  refine (cU.out _ _).mono ?_
  rintro e w2 ⟨rfl, rfl⟩
  rw [h8z]
  go_wp2
  go_loopw [9, 10] (fun _ _ wx => ∃ i : Nat, i ≤ s.size ∧ wx.heap[w2.heap.size]? = some (.stringIter s i) ∧ Keeps w2 wx ∧ Hid (Lib.NoAny s.data.toList [42, 63] i)) (fun _ _ wx => s.size - wx.iterPos w2.heap.size)
  case atStart => exact ⟨0, Nat.zero_le _, H0.out.1, H0.out.2, HN0⟩
  case round =>
    obtain ⟨i, hi, hit, hkp, HN⟩ := hrel
    have HK := Lib.hid hkp
    by_cases hlt : i < s.size
    · have hnx := fun ty => Lib.run_next_any_at (P := Tryd.prog) wr w2.heap.size s i ty hit hlt
      have hi2 := fun p => Lib.iterAt_heap wr w2.heap.size s i p hit
      have HI2 := Lib.hid hi2
      have HIT := Lib.hid hit
      have HLT : Hid (∀ p, w2.heap.size < (wr.iterAt w2.heap.size s p).heap.size) := Lib.hid (fun p => (Array.getElem?_eq_some_iff.1 (hi2 p)).1)
      have HK2 : Hid (∀ p, Keeps w2 (wr.iterAt w2.heap.size s p)) := Lib.hid (fun p => keeps_iterAt hkp)
      clear hit hkp hi2
      have HP : Hid (∀ p, (wr.iterAt w2.heap.size s p).iterPos w2.heap.size = p) := Lib.hid (fun p => by simp [World.iterPos, HI2.out p])
      have HP0 : Hid (wr.iterPos w2.heap.size = i) := Lib.hid (by simp [World.iterPos, HIT.out])
      by_cases ha : (s[i]'hlt).toNat < 128
      · have hd := decode_ascii s i hlt ha
        rw [hd] at hnx
        obtain ⟨x, hx⟩ : ∃ x : UInt8, s[i]'hlt = x := ⟨_, rfl⟩
        have hxl : s.data.toList[i]? = some x := by rw [← hx]; exact Lib.data_getElem? s i hlt
        rw [hx] at hnx ha
        have hback : ((x.toNat : Int)).toNat.toUInt8 = x := by simp
        have hcon := Lib.contains_iff_indexByte [42, 63] x
        have cA1 := Lib.hid (fun w1 => cA.out x.toNat w1 (by omega) (by omega))
        rw [hback] at cA1
        have HX := Lib.hid hxl
        clear hxl hx hd hback
        cases hin : ([42, 63] : List UInt8).contains x
        · rw [hin] at hcon
          have hlt0 : ¬ ((0 : Int) ≤ Lib.indexByte [42, 63] x) := of_decide_eq_false hcon.symm
          clear hcon
          generalize Lib.indexByte [42, 63] x = z at cA1 hlt0
          have HNN := Lib.hid (HN.out.succ HX.out hin)
          go_wp2_with fail
          refine (cA1.out _).mono ?_
          rintro e w3 ⟨rfl, rfl⟩
          go_wp2
          go_roundw
          case rel => exact ⟨i + 1, by omega, HI2.out _, HK2.out _, HNN⟩
          case measure => rw [HP.out, HP0.out]; omega
        · rw [hin] at hcon
          have hge : (0 : Int) ≤ Lib.indexByte [42, 63] x := of_decide_eq_true hcon.symm
          clear hcon
          generalize Lib.indexByte [42, 63] x = z at cA1 hge
          have HR := Lib.hid (Lib.indexAny_hit HN.out HX.out hin)
          go_wp2_with fail
          refine (cA1.out _).mono ?_
          rintro e w3 ⟨rfl, rfl⟩
          go_wp2
          go_ret
          exact ⟨by rw [HR.out]; rfl, HK2.out _⟩
      · have hd := decode_high s i hlt (by omega)
        have hle := decode_le s i
        have hin := decode_in s i hlt (by omega)
        have HNN := Lib.hid (noany_skip s i hlt (by omega) HN.out)
        have cR1 := Lib.hid (fun w1 => cR.out (Utf8.decode s i).1 w1 hd.1 hle)
        generalize (Utf8.decode s i).1 = r at cR1 hnx hle hd
        generalize (Utf8.decode s i).2 = n at hnx hd hin HNN
        go_wp2_with fail
        refine (cR1.out _).mono ?_
        rintro e w3 ⟨rfl, hk3⟩
        have HI3 := Lib.hid ((hk3.5 _ (HLT.out _)).trans (HI2.out (i + n)))
        have HK3 := Lib.hid (Keeps.trans (HK2.out _) hk3)
        clear hk3
        go_wp2
        go_roundw
        case rel => exact ⟨i + n, hin, HI3.out, HK3.out, HNN⟩
        case measure =>
          have e3 : w3.iterPos w2.heap.size = i + n := by simp [World.iterPos, HI3.out]
          rw [e3, HP0.out]; omega
    · obtain rfl : i = s.size := by omega
      have hnx := fun ty => Lib.run_next_end_at (P := Tryd.prog) wr w2.heap.size s s.size ty hit (by omega)
      have HR : Hid (Lib.indexAny s.data.toList [42, 63] = -1) := Lib.hid (Lib.indexAny_none (by rw [← Lib.size_eq]; exact HN.out))
      clear hit hkp
      go_wp2
      go_ret
      exact ⟨by rw [HR.out]; rfl, HK.out⟩
end Go.Proofs.YtolfpkjohlbfdaaDoor
