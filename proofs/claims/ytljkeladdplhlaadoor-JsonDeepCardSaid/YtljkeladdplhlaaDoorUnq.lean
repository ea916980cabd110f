/-
  The contract of Unquote of package scan.
-/
import Derived.Test.YtljkeladdplhlaaDoorEsc
namespace Go.Proofs.YtljkeladdplhlaaDoor
open Go.RowKit

theorem codeL_w (l : List UInt8) : (codeL l).2.1 ≤ 12 ∧ (codeL l).1.length ≤ 4 * (codeL l).2.1 := by
  unfold codeL
  repeat' split
  all_goals first | (constructor <;> simp; done) | skip
  · have := (enc_len ((hex4 (l.drop 2)).1 : Int)).2
    constructor
    · simp
    · simp only; omega
  · have := (enc_len ((65536 + ((hex4 (l.drop 2)).1 - 55296) * 1024 + ((lowS (l.drop 6)).1 - 56320) : Nat) : Int)).2
    constructor
    · simp
    · simp only; omega
theorem decL_w (l : List UInt8) : (decL l).2 ≤ 4 := by
  unfold decL Lib.decodeN
  repeat' split
  all_goals simp
theorem piece_w (l : List UInt8) : (pieceL l).2.1 ≤ 12 ∧ (pieceL l).1.length ≤ 4 * (pieceL l).2.1 := by
  unfold pieceL
  split
  · simp
  · split
    · unfold escL
      split
      · simp
      · split
        · exact codeL_w l
        · split <;> simp
    · split
      · simp
      · have h1 := decL_w l
        have h2 := dec_pos l
        have h3 := (enc_len ((decL l).1 : Int)).2
        constructor
        · simp only; omega
        · simp only; omega

/-- A call that answers a text, a size and an error. -/
def RetU (p : Piece) (w : World) (e : Ending) (w' : World) : Prop := e = .returned (.tuple #[.string (S p.1), .int .i64 (p.2.1 : Int), .int .i64 (p.2.2 : Int)]) ∧ Keeps w w'
theorem RetU.of {p : Piece} {s : ByteArray} {x y : Int} {w w' : World} (h0 : s = S p.1) (h1 : x = (p.2.1 : Int)) (h2 : y = (p.2.2 : Int)) (k : Keeps w w') : RetU p w (.returned (.tuple #[.string s, .int .i64 x, .int .i64 y])) w' := ⟨by rw [h0, h1, h2], k⟩

set_option maxHeartbeats 4000000 in
theorem unq_any (s : ByteArray) (w : World) (hu : Utf w) (hs : s.size ≤ 100000) : Calls Tryd.prog 85 #[.string s] w (RetU (unqL s.data.toList) w) := by
  have hsl : s.data.toList.length = s.size := by simp
  have hz : s.toList.isEmpty = s.data.toList.isEmpty := by rw [ByteArray.toList_eq]
  unfold unqL
  rw [hsl]
  by_cases h0 : s.size = 0
  · have he : s.toList.isEmpty = true := by rw [hz, List.isEmpty_iff]; exact List.eq_nil_of_length_eq_zero (by omega)
    rw [if_pos h0]
    clear hz hsl h0 hu
    go_enter Tryd.func85, Tryd.ntmps85
    go_wp2
    go_ret3
    exact RetU.of rfl rfl rfl (Keeps.refl _)
  have he : s.toList.isEmpty = false := by
    rw [hz, Bool.eq_false_iff, Ne, List.isEmpty_iff]
    intro e; rw [e] at hsl; simp at hsl; omega
  have p0 : 0 < s.size := by omega
  rw [if_neg h0, getD_at s 0 p0]
  by_cases h1 : (s[0]'p0).toNat = 34
  · rw [if_neg (by simpa using h1)]
    have f1 : (((s[0]'p0).toNat : Int) != 34) = false := by simp; omega
    have cP : Hid (∀ (a : Nat) acc w1, Bd w.heap.size w.heap.size acc w1 → Utf w1 → a < s.size → acc.length ≤ 1000000 → w.heap.size ≤ w1.heap.size → Calls Tryd.prog 90 #[.pointer (some ⟨w.heap.size, 0, none⟩), .string (s.extract a s.size)] w1 (RetP w.heap.size w.heap.size acc (pieceL (s.data.toList.drop a)) w1)) := Lib.hid (fun a acc w1 h1 h2 h3 h4 h5 => by
      have := piece_any _ _ acc (s.extract a s.size) w1 h1 h2 (by simp; omega) (by simp; omega) h4 h5
      rwa [ext_drop] at this)
    have cS := Lib.hid (fun (r : List UInt8) (w1 : World) => Tryd.Builder_String_any w.heap.size w.heap.size r w1)
    have HA := Lib.hid (fun k (hk : k < s.size) => drop_at s k hk)
    have HE : Hid (∀ a, s.size ≤ a → s.data.toList.drop a = []) := Lib.hid (fun a h => List.drop_eq_nil_of_le (by omega))
    obtain ⟨p, hp0⟩ : ∃ p, joinU [] 1 (unqF s.size (s.data.toList.drop 1)) = p := ⟨_, rfl⟩
    rw [hp0]
    have H0 := Lib.hid hp0
    clear hp0
    have HU := Lib.hid hu
    have HB0 : Hid (Bd w.heap.size w.heap.size [] (w.alloc (.cells #[.pointer none, .slice none 0 0] 101))) := Lib.hid (Lib.fresh_isBuilder 101 5 w)
    generalize s.data.toList = l at *
    clear hz hsl h0 h1 hu
    go_enter Tryd.func85, Tryd.ntmps85
    go_wp2
    go_loopw [6, 7, 8] (fun i _ _ wr => ∃ (a k : Nat) (acc : List UInt8), a ≤ s.size + 12 ∧ i = .int .i64 (a : Int) ∧ Hid (joinU acc a (unqF k (l.drop a)) = p) ∧ s.size ≤ a + k ∧ acc.length ≤ 4 * a ∧ Hid (Bd w.heap.size w.heap.size acc wr) ∧ Hid (Keeps w wr)) (fun i _ _ _ => s.size + 12 - (intOf i).toNat)
    case atStart => exact ⟨1, s.size, [], by omega, rfl, H0, by omega, by simp, HB0, Lib.hid ((Keeps.refl _).alloc _)⟩
    case round =>
      obtain ⟨a, k, acc, ha, rfl, hp, hk, hacc, hB, hK⟩ := hrel
      by_cases hlt : a < s.size
      · have hx := hp.out
        have hdr := HA.out a hlt
        obtain ⟨k', rfl⟩ : ∃ j, k = j + 1 := ⟨k - 1, by omega⟩
        rw [hdr] at hx
        by_cases hq : (s[a]'hlt).toNat = 34
        · rw [joinU_end _ _ _ _ _ hq] at hx
          have HX := Lib.hid hx
          have f2 : (((s[a]'hlt).toNat : Int) == 34) = true := by simp; omega
          have hz := hK.out.size
          clear hx hdr hq hp
          go_wp2_with fail
          refine (cS.out acc _ hB.out hz).mono ?_
          rintro e w2 ⟨rfl, hb2⟩
          have HK2 := Lib.hid (Below.trans hK.out hb2)
          go_wp2
          go_ret3
          exact RetU.of (by rw [← HX.out]; rfl) (by rw [← HX.out]; simp) (by rw [← HX.out]; rfl) HK2.out
        · have f2 : (((s[a]'hlt).toNat : Int) == 34) = false := by simp; omega
          have hw := piece_w (l.drop a)
          have hpos : (pieceL (l.drop a)).2.2 = 0 → 1 ≤ (pieceL (l.drop a)).2.1 := piece_pos _ (by rw [hdr]; simp)
          have cP1 := Lib.hid (cP.out a acc wr hB.out (HU.out.keeps hK.out) hlt (by omega) hK.out.size)
          by_cases he : (pieceL (l.drop a)).2.2 = 0
          · have hs2 := joinU_step acc a k' _ _ hq (by rw [← hdr]; exact he)
            rw [hx, ← hdr, List.drop_drop] at hs2
            have HX := Lib.hid hs2.symm
            have hps := hpos he
            generalize pieceL (l.drop a) = pc at *
            obtain ⟨po, pn, pe⟩ := pc
            simp only at he hw hps
            subst he
            clear hx hdr hq hp hpos hs2
            go_wp2_with fail
            refine cP1.out.mono ?_
            rintro e w2 ⟨rfl, hB2, hK2⟩
            have HK2 := Lib.hid (Below.trans hK.out hK2.1)
            have HB2 := Lib.hid hB2
            clear hB2 hK2
            go_wp2
            go_roundw
            case rel => exact ⟨a + pn, k', acc ++ po, by omega, by go_num, HX, by omega, by rw [List.length_append]; omega, HB2, HK2⟩
            case measure => simp [intOf]; omega
          · have hs2 := joinU_bad acc a k' _ _ hq (by rw [← hdr]; exact he)
            rw [hx, ← hdr] at hs2
            have HX := Lib.hid hs2
            generalize pieceL (l.drop a) = pc at *
            obtain ⟨po, pn, pe⟩ := pc
            simp only at he hw
            have d1 : ((pe : Int) != 0) = true := by simp; omega
            clear hx hdr hq hp hpos hs2 hw he
            go_wp2_with fail
            refine cP1.out.mono ?_
            rintro e w2 ⟨rfl, hB2, hK2⟩
            have HK2 := Lib.hid (Below.trans hK.out hK2.1)
            clear hB2 hK2
            go_wp2
            go_ret3
            exact RetU.of (by rw [HX.out]; rfl) (by rw [HX.out]; rfl) (by rw [HX.out]) HK2.out
      · have hx := hp.out
        rw [HE.out a (by omega), unqF_none _ _ rfl] at hx
        have HX := Lib.hid hx
        clear hx hp
        go_wp2
        go_ret3
        exact RetU.of (by rw [← HX.out]; rfl) (by rw [← HX.out]; rfl) (by rw [← HX.out]; rfl) hK.out
  · rw [if_pos (by simpa using h1)]
    have f1 : (((s[0]'p0).toNat : Int) != 34) = true := by simp; omega
    clear hz hsl h0 h1 hu
    go_enter Tryd.func85, Tryd.ntmps85
    go_wp2
    go_ret3
    exact RetU.of rfl rfl rfl (Keeps.refl _)
end Go.Proofs.YtljkeladdplhlaaDoor
