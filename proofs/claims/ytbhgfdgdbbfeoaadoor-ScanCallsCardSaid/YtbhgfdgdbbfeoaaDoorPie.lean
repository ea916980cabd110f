/-
  What is read of a literal is what was written, whatever follows; what is read is valid.
-/
import Derived.Test.YtbhgfdgdbbfeoaaDoorPur
import Derived.Test.YtbhgfdgdbbfeoaaDoorQuo
import Derived.Test.YtbhgfdgdbbfeoaaDoorUnq
namespace Go.Proofs.YtbhgfdgdbbfeoaaDoor
open Go.RowKit

theorem piece_low (l : List UInt8) (h : (l.getD 0 0).toNat < 32) : pieceL l = ([], 0, 5) := if_pos h
theorem piece_esc (l : List UInt8) (h : (l.getD 0 0).toNat = 92) : pieceL l = escL l := by
  unfold pieceL; rw [if_neg (by omega), if_pos h]
theorem piece_bad (l : List UInt8) (h : 32 ≤ (l.getD 0 0).toNat) (h' : (l.getD 0 0).toNat ≠ 92) (b : badD (decL l) = true) : pieceL l = ([], 0, 6) := by
  unfold pieceL; rw [if_neg (by omega), if_neg h', if_pos b]
theorem piece_good (l : List UInt8) (h : 32 ≤ (l.getD 0 0).toNat) (h' : (l.getD 0 0).toNat ≠ 92) (b : badD (decL l) = false) : pieceL l = (Lib.encodeRune ((decL l).1 : Int), (decL l).2, 0) := by
  unfold pieceL; rw [if_neg (by omega), if_neg h', if_neg (by rw [b]; decide)]
theorem hexF_step (k : Nat) (c : UInt8) (t : List UInt8) (r : Nat) (h : hexB c = true) : hexF (k + 1) (c :: t) r = hexF k t (r * 16 + hexV c) := by
  rw [hexF, if_pos h]

/-- A code point's form in a literal is read as its bytes, whatever follows. -/
theorem enc_ne (r : Int) : Lib.encodeRune r ≠ [] := fun e => by
  have := (enc_len r).1
  rw [e] at this; simp at this
theorem enc_head (r : Nat) (h : scalar r) (t : List UInt8) : ((Lib.encodeRune (r : Int) ++ t).getD 0 0).toNat = if r < 128 then r else ((Lib.encodeRune (r : Int)).getD 0 0).toNat := by
  split
  · rename_i h1
    rw [enc_one (by omega)]
    show r.toUInt8.toNat = r
    exact u8n (by omega)
  · have hn := enc_ne (r : Int)
    match Lib.encodeRune (r : Int), hn with
    | [], hn => exact absurd rfl hn
    | c :: _, _ => rfl
theorem enc_head_high (r : Nat) (h1 : ¬ r < 128) (t : List UInt8) : 128 ≤ ((Lib.encodeRune (r : Int) ++ t).getD 0 0).toNat := by
  have hn := enc_ne (r : Int)
  have hh := enc_high r (by omega)
  match Lib.encodeRune (r : Int), hn, hh with
  | [], hn, _ => exact absurd rfl hn
  | c :: _, _, hh => exact hh c (by simp)
theorem enc_badD (r : Nat) (h : scalar r) (t : List UInt8) : badD (decL (Lib.encodeRune (r : Int) ++ t)) = false := by
  rw [dec_enc r h t]
  unfold badD
  by_cases e : r = 65533
  · subst e
    have : (Lib.encodeRune (65533 : Int)).length = 3 := by decide
    simp [this]
  · simp [e]

theorem told_cases (r : Nat) (h : r < 128) : (toldN r = [92, r.toUInt8] ∧ (r = 34 ∨ r = 92)) ∨ (toldN r = [92, 98] ∧ r = 8) ∨ (toldN r = [92, 102] ∧ r = 12) ∨ (toldN r = [92, 110] ∧ r = 10) ∨ (toldN r = [92, 114] ∧ r = 13) ∨ (toldN r = [92, 116] ∧ r = 9)
    ∨ (r < 32 ∧ toldN r = [92, 117, 48, 48, hexD (r / 16), hexD (r % 16)]) ∨ (32 ≤ r ∧ r ≠ 34 ∧ r ≠ 92 ∧ toldN r = [r.toUInt8]) := by
  unfold toldN
  by_cases h1 : r = 34
  · subst h1; left; decide
  by_cases h2 : r = 92
  · subst h2; left; decide
  rw [if_neg h1, if_neg h2]
  by_cases h3 : r = 8
  · subst h3; right; left; decide
  by_cases h4 : r = 12
  · subst h4; right; right; left; decide
  by_cases h5 : r = 10
  · subst h5; right; right; right; left; decide
  by_cases h6 : r = 13
  · subst h6; right; right; right; right; left; decide
  by_cases h7 : r = 9
  · subst h7; right; right; right; right; right; left; decide
  rw [if_neg h3, if_neg h4, if_neg h5, if_neg h6, if_neg h7]
  by_cases h8 : r < 32
  · rw [if_pos h8]; right; right; right; right; right; right; left; exact ⟨h8, rfl⟩
  · rw [if_neg h8]; right; right; right; right; right; right; right; exact ⟨by omega, h1, h2, rfl⟩
theorem hexD_val : ∀ k, k < 16 → hexB (hexD k) = true ∧ hexV (hexD k) = k := by decide
theorem esc_at (c : UInt8) (t : List UInt8) (h : c.toNat ≠ 117) (h' : escB c = true) : pieceL (92 :: c :: t) = ([escV c], 2, 0) := by
  rw [piece_esc _ rfl]
  unfold escL
  have e : (92 :: c :: t).getD 1 0 = c := rfl
  rw [if_neg (by simp), e, if_neg h, if_pos h']
theorem hex4_at (a b c d : UInt8) (t : List UInt8) (ha : hexB a = true) (hb : hexB b = true) (hc : hexB c = true) (hd : hexB d = true) : hex4 (a :: b :: c :: d :: t) = (((hexV a * 16 + hexV b) * 16 + hexV c) * 16 + hexV d, 0) := by
  unfold hex4
  rw [hexF_step _ _ _ _ ha, hexF_step _ _ _ _ hb, hexF_step _ _ _ _ hc, hexF_step _ _ _ _ hd, hexF]
  simp
theorem code_at (t : List UInt8) (v : Nat) (hx : hex4 t = (v, 0)) (hv : v < 55296 ∨ 57343 < v) : pieceL (92 :: 117 :: t) = (Lib.encodeRune (v : Int), 6, 0) := by
  rw [piece_esc _ rfl]
  unfold escL
  have e : (92 :: 117 :: t).getD 1 0 = 117 := rfl
  rw [if_neg (by simp), e, if_pos (by rfl)]
  unfold codeL
  have e2 : (92 :: 117 :: t).drop 2 = t := rfl
  rw [e2, hx, if_neg (by simp), if_pos hv]
theorem enc_small (r : Nat) (h : r < 128) : Lib.encodeRune (r : Int) = [r.toUInt8] := enc_one (by omega)

theorem piece_told (r : Nat) (h : scalar r) (t : List UInt8) : pieceL (qrun r ++ t) = (Lib.encodeRune (r : Int), (qrun r).length, 0) := by
  unfold qrun
  by_cases h1 : r < 128
  · rw [if_pos h1, enc_small r h1]
    rcases told_cases r h1 with ⟨e, hr⟩ | ⟨e, hr⟩ | ⟨e, hr⟩ | ⟨e, hr⟩ | ⟨e, hr⟩ | ⟨e, hr⟩ | ⟨hr, e⟩ | ⟨hr, g1, g2, e⟩
    · rw [e]
      rcases hr with rfl | rfl
      · exact esc_at 34 t (by decide) (by decide)
      · exact esc_at 92 t (by decide) (by decide)
    · rw [e]; subst hr; exact esc_at 98 t (by decide) (by decide)
    · rw [e]; subst hr; exact esc_at 102 t (by decide) (by decide)
    · rw [e]; subst hr; exact esc_at 110 t (by decide) (by decide)
    · rw [e]; subst hr; exact esc_at 114 t (by decide) (by decide)
    · rw [e]; subst hr; exact esc_at 116 t (by decide) (by decide)
    · rw [e]
      have a := hexD_val (r / 16) (by omega)
      have b := hexD_val (r % 16) (by omega)
      have hx := hex4_at 48 48 (hexD (r / 16)) (hexD (r % 16)) t (by decide) (by decide) a.1 b.1
      rw [a.2, b.2] at hx
      have hv : (((hexV 48 * 16 + hexV 48) * 16 + r / 16) * 16 + r % 16) = r := by
        have : hexV 48 = 0 := by decide
        rw [this]; omega
      rw [hv] at hx
      have := code_at (48 :: 48 :: hexD (r / 16) :: hexD (r % 16) :: t) r hx (by omega)
      rw [enc_small r h1] at this
      exact this
    · rw [e]
      have hd := dec_enc r h t
      have hb := enc_badD r h t
      rw [enc_small r h1] at hd hb
      have hh : (([r.toUInt8] ++ t).getD 0 0).toNat = r := u8n (by omega)
      rw [piece_good _ (by rw [hh]; exact hr) (by rw [hh]; exact g2) hb, hd, enc_small r h1]
  · rw [if_neg h1]
    have hd := dec_enc r h t
    have hb := enc_badD r h t
    have hh := enc_head_high r h1 t
    rw [piece_good _ (by omega) (by omega) hb, hd]
theorem qrun_head (r : Nat) (t : List UInt8) : ∃ c u, qrun r ++ t = c :: u ∧ c.toNat ≠ 34 := by
  unfold qrun
  by_cases h1 : r < 128
  · rw [if_pos h1]
    rcases told_cases r h1 with ⟨e, hr⟩ | ⟨e, hr⟩ | ⟨e, hr⟩ | ⟨e, hr⟩ | ⟨e, hr⟩ | ⟨e, hr⟩ | ⟨hr, e⟩ | ⟨hr, g1, g2, e⟩
    all_goals rw [e]
    all_goals refine ⟨_, _, rfl, ?_⟩
    all_goals first | decide | (rw [u8n (by omega)]; exact g1)
  · rw [if_neg h1]
    have hn := enc_ne (r : Int)
    have hh := enc_high r (by omega)
    match Lib.encodeRune (r : Int), hn, hh with
    | [], hn, _ => exact absurd rfl hn
    | c :: u, _, hh => exact ⟨c, u ++ t, rfl, by have := hh c (by simp); omega⟩
theorem qrun_pos (r : Nat) : 1 ≤ (qrun r).length := by
  obtain ⟨c, u, h, _⟩ := qrun_head r []
  rw [List.append_nil] at h; rw [h]; simp

/-- Texts that are code points one behind the other. -/
inductive Pts : List UInt8 → Prop
  | nil : Pts []
  | cons (r : Nat) (l : List UInt8) : scalar r → Pts l → Pts (Lib.encodeRune (r : Int) ++ l)
theorem Pts.of_valid (k : Nat) : ∀ l : List UInt8, l.length ≤ k → validF k l = true → Pts l := by
  induction k with
  | zero =>
            intro l hl _
            obtain rfl : l = [] := List.eq_nil_of_length_eq_zero (by omega)
            exact .nil
  | succ k ih =>
    intro l hl hv
    by_cases hn : l = []
    · subst hn; exact .nil
    cases hb : badD (decL l)
    · rw [validF_good k l hn hb] at hv
      obtain ⟨g1, g2, g3⟩ := dec_good l hn hb
      have hp := dec_pos l
      have hs := ih (l.drop (decL l).2) (by rw [List.length_drop]; omega) hv
      have := Pts.cons (decL l).1 _ g1 hs
      rwa [← g3, List.take_append_drop] at this
    · rw [validF_bad k l hn hb] at hv; exact absurd hv (by decide)
theorem Pts.valid {l : List UInt8} (h : Pts l) : ∀ k, l.length ≤ k → validF k l = true := by
  induction h with
  | nil => intro k _; exact validF_nil _ _ rfl
  | cons r l hr _ ih =>
    intro k hk
    have hn := (enc_len (r : Int)).1
    rw [List.length_append] at hk
    obtain ⟨k, rfl⟩ : ∃ j, k = j + 1 := ⟨k - 1, by omega⟩
    have hne : Lib.encodeRune (r : Int) ++ l ≠ [] := by simp [enc_ne]
    rw [validF_good k _ hne (enc_badD r hr l), dec_enc r hr l, List.drop_append_of_le_length (Nat.le_refl _), List.drop_length, List.nil_append]
    exact ih k (by omega)
theorem Pts.app {a b : List UInt8} (h : Pts a) (k : Pts b) : Pts (a ++ b) := by
  induction h with
  | nil => exact k
  | cons r l hr _ ih => rw [List.append_assoc]; exact .cons r _ hr ih
theorem valid_iff (l : List UInt8) : validL l = true ↔ Pts l := ⟨Pts.of_valid _ l (Nat.le_refl _), fun h => h.valid _ (Nat.le_refl _)⟩

theorem unqF_text {l : List UInt8} (h : Pts l) (t : List UInt8) : ∀ k, (l.flatMap told).length < k → unqF k (l.flatMap told ++ 34 :: t) = (l, (l.flatMap told).length + 1, 0) := by
  induction h with
  | nil => intro k hk; obtain ⟨k, rfl⟩ : ∃ j, k = j + 1 := ⟨k - 1, by omega⟩; rfl
  | cons r l hr _ ih =>
    intro k hk
    rw [List.flatMap_append, qrun_enc, List.length_append] at hk
    rw [List.flatMap_append, qrun_enc, List.append_assoc]
    have hp := piece_told r hr (l.flatMap told ++ 34 :: t)
    obtain ⟨c, u, hc, hne⟩ := qrun_head r (l.flatMap told ++ 34 :: t)
    have hq := qrun_pos r
    obtain ⟨k, rfl⟩ : ∃ j, k = j + 1 := ⟨k - 1, by omega⟩
    have hd : (qrun r ++ (l.flatMap told ++ 34 :: t)).drop (qrun r).length = l.flatMap told ++ 34 :: t := by
      rw [List.drop_append_of_le_length (Nat.le_refl _), List.drop_length, List.nil_append]
    have hi := ih k (by omega)
    rw [hc] at hp hd ⊢
    rw [unqF, if_neg hne, hp, if_neg (by simp), hd, hi, if_neg (by simp)]
    simp only [List.length_append, Nat.add_assoc]
theorem unq_quote {l : List UInt8} (h : Pts l) (t : List UInt8) : unqL (quoteL l ++ t) = (l, (quoteL l).length, 0) := by
  unfold quoteL unqL
  have e1 : (34 :: (l.flatMap told ++ [34]) ++ t) = 34 :: (l.flatMap told ++ 34 :: t) := by simp
  rw [e1, if_neg (by simp), if_neg (by simp)]
  have e2 : (34 :: (l.flatMap told ++ 34 :: t)).drop 1 = l.flatMap told ++ 34 :: t := rfl
  rw [e2, unqF_text h t _ (by simp; omega)]
  simp [joinU]; omega
end Go.Proofs.YtbhgfdgdbbfeoaaDoor
