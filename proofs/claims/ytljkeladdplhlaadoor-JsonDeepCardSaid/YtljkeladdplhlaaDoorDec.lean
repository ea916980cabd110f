/-
  Code points in bytes: what is decoded is what was encoded, and the other way round.
-/
import Derived.Lib.DecodeN
import Derived.Lib.DecodeNEq
import Derived.Lib.RuneBytes
import Derived.Laws.RangeAny
namespace Go.Proofs.YtljkeladdplhlaaDoor

def scalar (r : Nat) : Prop := r < 55296 ∨ (57344 ≤ r ∧ r ≤ 1114111)
instance (r : Nat) : Decidable (scalar r) := by unfold scalar; infer_instance
/-- The code point that bytes begin with, and how many bytes it has. -/
def decL (l : List UInt8) : Nat × Nat := Lib.decodeN l.length (l.getD 0 0).toNat (l.getD 1 0).toNat (l.getD 2 0).toNat (l.getD 3 0).toNat
def badD (d : Nat × Nat) : Bool := d.1 == 65533 && d.2 == 1

theorem byteOf {x : Int} {b : UInt8} (h : x = (b.toNat : Int)) : x.toNat.toUInt8 = b := by
  subst h; simp
theorem toByte {x : Int} (h0 : 0 ≤ x) (h1 : x < 256) : (x.toNat.toUInt8).toNat = x.toNat := by
  simp; omega

theorem enc_one {r : Nat} (h : r ≤ 127) : Lib.encodeRune (r : Int) = [r.toUInt8] := by
  unfold Lib.encodeRune; rw [Lib.encodeRuneZ_one (by omega) (by omega)]; simp
theorem enc_two {r : Nat} (h : 128 ≤ r) (h' : r ≤ 2047) : Lib.encodeRune (r : Int) = [(192 + r / 64).toUInt8, (128 + r % 64).toUInt8] := by
  unfold Lib.encodeRune; rw [Lib.encodeRuneZ_two (by omega) (by omega)]
  simp only [List.map_cons, List.map_nil]
  rw [show ((192 : Int) + (r : Int) / 64).toNat = 192 + r / 64 by omega, show ((128 : Int) + (r : Int) % 64).toNat = 128 + r % 64 by omega]
theorem enc_three {r : Nat} (h : (2048 ≤ r ∧ r < 55296) ∨ (57343 < r ∧ r ≤ 65535)) : Lib.encodeRune (r : Int) = [(224 + r / 4096).toUInt8, (128 + r / 64 % 64).toUInt8, (128 + r % 64).toUInt8] := by
  unfold Lib.encodeRune; rw [Lib.encodeRuneZ_three (by omega)]
  simp only [List.map_cons, List.map_nil]
  rw [show ((224 : Int) + (r : Int) / 4096).toNat = 224 + r / 4096 by omega, show ((128 : Int) + (r : Int) / 64 % 64).toNat = 128 + r / 64 % 64 by omega, show ((128 : Int) + (r : Int) % 64).toNat = 128 + r % 64 by omega]
theorem enc_four {r : Nat} (h : 65536 ≤ r) (h' : r ≤ 1114111) : Lib.encodeRune (r : Int) = [(240 + r / 262144).toUInt8, (128 + r / 4096 % 64).toUInt8, (128 + r / 64 % 64).toUInt8, (128 + r % 64).toUInt8] := by
  unfold Lib.encodeRune; rw [Lib.encodeRuneZ_four (by omega) (by omega)]
  simp only [List.map_cons, List.map_nil]
  rw [show ((240 : Int) + (r : Int) / 262144).toNat = 240 + r / 262144 by omega, show ((128 : Int) + (r : Int) / 4096 % 64).toNat = 128 + r / 4096 % 64 by omega, show ((128 : Int) + (r : Int) / 64 % 64).toNat = 128 + r / 64 % 64 by omega, show ((128 : Int) + (r : Int) % 64).toNat = 128 + r % 64 by omega]

theorem u8n {n : Nat} (h : n < 256) : n.toUInt8.toNat = n := by simp; omega

set_option maxHeartbeats 1000000 in
/-- A code point is decoded from its bytes, whatever follows. -/
theorem dec_enc (r : Nat) (h : scalar r) (t : List UInt8) : decL (Lib.encodeRune (r : Int) ++ t) = (r, (Lib.encodeRune (r : Int)).length) := by
  unfold scalar at h
  by_cases h1 : r ≤ 127
  · rw [enc_one h1]
    simp only [decL, List.cons_append, List.nil_append, List.getD_cons_zero, List.length_cons, List.length_nil]
    rw [u8n (by omega)]
    unfold Lib.decodeN; rw [if_pos (by omega)]
  · by_cases h2 : r ≤ 2047
    · rw [enc_two (by omega) h2]
      simp only [decL, List.cons_append, List.nil_append, List.getD_cons_zero, List.getD_cons_succ, List.length_cons, List.length_nil]
      rw [u8n (by omega), u8n (by omega)]
      unfold Lib.decodeN; rw [if_neg (by omega), if_pos (by omega), if_pos (by omega)]
      congr 1; omega
    · by_cases h3 : r ≤ 65535
      · rw [enc_three (by omega)]
        simp only [decL, List.cons_append, List.nil_append, List.getD_cons_zero, List.getD_cons_succ, List.length_cons, List.length_nil]
        rw [u8n (by omega), u8n (by omega), u8n (by omega)]
        unfold Lib.decodeN; rw [if_neg (by omega), if_neg (by omega), if_pos (by omega)]
        have e : (224 + r / 4096) % 16 * 4096 + (128 + r / 64 % 64) % 64 * 64 + (128 + r % 64) % 64 = r := by omega
        rw [e, if_pos (by omega)]
      · rw [enc_four (by omega) (by omega)]
        simp only [decL, List.cons_append, List.nil_append, List.getD_cons_zero, List.getD_cons_succ, List.length_cons, List.length_nil]
        rw [u8n (by omega), u8n (by omega), u8n (by omega), u8n (by omega)]
        unfold Lib.decodeN; rw [if_neg (by omega), if_neg (by omega), if_neg (by omega), if_pos (by omega)]
        have e : (240 + r / 262144) % 8 * 262144 + (128 + r / 4096 % 64) % 64 * 4096 + (128 + r / 64 % 64) % 64 * 64 + (128 + r % 64) % 64 = r := by omega
        rw [e, if_pos (by omega)]

theorem byteEq {b : UInt8} {n : Nat} (h : n = b.toNat) : n.toUInt8 = b := by subst h; simp

set_option maxHeartbeats 1000000 in
/-- What is decoded, and is no mark of broken bytes, are the bytes of a code point. -/
theorem dec_good (l : List UInt8) (hl : l ≠ []) (hb : badD (decL l) = false) : scalar (decL l).1 ∧ (decL l).2 ≤ l.length ∧ l.take (decL l).2 = Lib.encodeRune ((decL l).1 : Int) := by
  have hb' : ¬ ((decL l).1 = 65533 ∧ (decL l).2 = 1) := by simpa [badD] using hb
  clear hb
  revert hb'
  match l, hl with
  | [], hl => exact absurd rfl hl
  | b0 :: t, _ =>
    have l0 := b0.toNat_lt
    unfold decL Lib.decodeN scalar
    simp only [List.getD_cons_zero]
    split
    · rename_i h
      intro _
      refine ⟨.inl (by simp; omega), by simp, ?_⟩
      rw [enc_one (by omega)]
      simp
    · split
      · rename_i h
        match t, h with
        | [], h => simp at h
        | b1 :: t, h =>
          have l1 := b1.toNat_lt
          simp only [List.getD_cons_zero, List.getD_cons_succ] at h ⊢
          split
          · rename_i g
            intro _
            refine ⟨.inl (by simp only; omega), by simp, ?_⟩
            rw [enc_two (by simp only; omega) (by simp only; omega)]
            simp only [List.take_succ_cons, List.take_zero]
            rw [byteEq (b := b0) (by omega), byteEq (b := b1) (by omega)]
          · intro h; exact absurd ⟨rfl, rfl⟩ h
      · split
        · rename_i h
          match t, h with
          | [], h => simp at h
          | [b1], h => simp at h
          | b1 :: b2 :: t, h =>
            have l1 := b1.toNat_lt
            have l2 := b2.toNat_lt
            simp only [List.getD_cons_zero, List.getD_cons_succ] at h ⊢
            split
            · rename_i g
              intro _
              refine ⟨by simp only; omega, by simp, ?_⟩
              rw [enc_three (by simp only; omega)]
              simp only [List.take_succ_cons, List.take_zero]
              rw [byteEq (b := b0) (by omega), byteEq (b := b1) (by omega), byteEq (b := b2) (by omega)]
            · intro h; exact absurd ⟨rfl, rfl⟩ h
        · split
          · rename_i h
            match t, h with
            | [], h => simp at h
            | [b1], h => simp at h
            | [b1, b2], h => simp at h
            | b1 :: b2 :: b3 :: t, h =>
              have l1 := b1.toNat_lt
              have l2 := b2.toNat_lt
              have l3 := b3.toNat_lt
              simp only [List.getD_cons_zero, List.getD_cons_succ] at h ⊢
              split
              · rename_i g
                intro _
                refine ⟨by simp only; omega, by simp, ?_⟩
                rw [enc_four (by simp only; omega) (by simp only; omega)]
                simp only [List.take_succ_cons, List.take_zero]
                rw [byteEq (b := b0) (by omega), byteEq (b := b1) (by omega), byteEq (b := b2) (by omega), byteEq (b := b3) (by omega)]
              · intro h; exact absurd ⟨rfl, rfl⟩ h
          · intro h; exact absurd ⟨rfl, rfl⟩ h

theorem get_getD (s : ByteArray) (i : Nat) : s.get! i = s.data.toList.getD i 0 := by
  by_cases h : i < s.size
  · have h1 := get_at s i h
    have h2 : i < s.data.toList.length := by simpa using h
    rw [show i + 0 = i from rfl] at h1
    rw [h1, List.getD_eq_getElem?_getD, List.getElem?_eq_getElem h2]
    rfl
  · have h2 : ¬ i < s.data.toList.length := by simpa using h
    rw [List.getD_eq_getElem?_getD, List.getElem?_eq_none (by omega)]
    simp only [ByteArray.get!]
    rw [getElem!_neg _ _ (by simpa using h)]
    rfl
/-- The model's decoding at a place is that of the bytes from there on. -/
theorem decode_drop (s : ByteArray) (i : Nat) : Utf8.decode s i = decL (s.data.toList.drop i) := by
  rw [Lib.decode_at]
  simp only [decL, get_getD, List.getD_eq_getElem?_getD, List.getElem?_drop, List.length_drop, Nat.add_zero]
  rfl
end Go.Proofs.YtljkeladdplhlaaDoor
