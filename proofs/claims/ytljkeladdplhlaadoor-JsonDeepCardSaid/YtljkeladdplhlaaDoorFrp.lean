/-
  What is read of a literal is what was written, whatever follows; what is read is valid.
-/
import Derived.Test.YtljkeladdplhlaaDoorPur
import Derived.Test.YtljkeladdplhlaaDoorVal
import Derived.Test.YtljkeladdplhlaaDoorUnq
namespace Go.Proofs.YtljkeladdplhlaaDoor
open Go.RowKit

theorem piece_low (l : List UInt8) (h : (l.getD 0 0).toNat < 32) : pieceL l = ([], 0, 5) := if_pos h
theorem piece_esc (l : List UInt8) (h : (l.getD 0 0).toNat = 92) : pieceL l = escL l := by
  unfold pieceL; rw [if_neg (by omega), if_pos h]
theorem piece_bad (l : List UInt8) (h : 32 ≤ (l.getD 0 0).toNat) (h' : (l.getD 0 0).toNat ≠ 92) (b : badD (decL l) = true) : pieceL l = ([], 0, 6) := by
  unfold pieceL; rw [if_neg (by omega), if_neg h', if_pos b]
theorem piece_good (l : List UInt8) (h : 32 ≤ (l.getD 0 0).toNat) (h' : (l.getD 0 0).toNat ≠ 92) (b : badD (decL l) = false) : pieceL l = (Lib.encodeRune ((decL l).1 : Int), (decL l).2, 0) := by
  unfold pieceL; rw [if_neg (by omega), if_neg h', if_neg (by rw [b]; decide)]
theorem hexF_step (k : Nat) (c : UInt8) (t : List UInt8) (r : Nat) (h : hexB c = true) : hexF (k + 1) (c :: t) r = hexF k t (r * 16 + hexV c) := by
  rw [hexF, if_pos h]

/-- A code point's form in a literal is read as its bytes, whatever follows. -/
theorem enc_ne (r : Int) : Lib.encodeRune r ≠ [] := fun e => by
  have := (enc_len r).1
  rw [e] at this; simp at this
theorem enc_head (r : Nat) (h : scalar r) (t : List UInt8) : ((Lib.encodeRune (r : Int) ++ t).getD 0 0).toNat = if r < 128 then r else ((Lib.encodeRune (r : Int)).getD 0 0).toNat := by
  split
  · rename_i h1
    rw [enc_one (by omega)]
    show r.toUInt8.toNat = r
    exact u8n (by omega)
  · have hn := enc_ne (r : Int)
    match Lib.encodeRune (r : Int), hn with
    | [], hn => exact absurd rfl hn
    | c :: _, _ => rfl
theorem enc_head_high (r : Nat) (h1 : ¬ r < 128) (t : List UInt8) : 128 ≤ ((Lib.encodeRune (r : Int) ++ t).getD 0 0).toNat := by
  have hn := enc_ne (r : Int)
  have hh := enc_high r (by omega)
  match Lib.encodeRune (r : Int), hn, hh with
  | [], hn, _ => exact absurd rfl hn
  | c :: _, _, hh => exact hh c (by simp)
theorem enc_badD (r : Nat) (h : scalar r) (t : List UInt8) : badD (decL (Lib.encodeRune (r : Int) ++ t)) = false := by
  rw [dec_enc r h t]
  unfold badD
  by_cases e : r = 65533
  · subst e
    have : (Lib.encodeRune (65533 : Int)).length = 3 := by decide
    simp [this]
  · simp [e]

theorem told_cases (r : Nat) (h : r < 128) : (toldN r = [92, r.toUInt8] ∧ (r = 34 ∨ r = 92)) ∨ (toldN r = [92, 98] ∧ r = 8) ∨ (toldN r = [92, 102] ∧ r = 12) ∨ (toldN r = [92, 110] ∧ r = 10) ∨ (toldN r = [92, 114] ∧ r = 13) ∨ (toldN r = [92, 116] ∧ r = 9)
    ∨ (r < 32 ∧ toldN r = [92, 117, 48, 48, hexD (r / 16), hexD (r % 16)]) ∨ (32 ≤ r ∧ r ≠ 34 ∧ r ≠ 92 ∧ toldN r = [r.toUInt8]) := by
  unfold toldN
  by_cases h1 : r = 34
  · subst h1; left; decide
  by_cases h2 : r = 92
  · subst h2; left; decide
  rw [if_neg h1, if_neg h2]
  by_cases h3 : r = 8
  · subst h3; right; left; decide
  by_cases h4 : r = 12
  · subst h4; right; right; left; decide
  by_cases h5 : r = 10
  · subst h5; right; right; right; left; decide
  by_cases h6 : r = 13
  · subst h6; right; right; right; right; left; decide
  by_cases h7 : r = 9
  · subst h7; right; right; right; right; right; left; decide
  rw [if_neg h3, if_neg h4, if_neg h5, if_neg h6, if_neg h7]
  by_cases h8 : r < 32
  · rw [if_pos h8]; right; right; right; right; right; right; left; exact ⟨h8, rfl⟩
  · rw [if_neg h8]; right; right; right; right; right; right; right; exact ⟨by omega, h1, h2, rfl⟩
theorem hexD_val : ∀ k, k < 16 → hexB (hexD k) = true ∧ hexV (hexD k) = k := by decide
theorem esc_at (c : UInt8) (t : List UInt8) (h : c.toNat ≠ 117) (h' : escB c = true) : pieceL (92 :: c :: t) = ([escV c], 2, 0) := by
  rw [piece_esc _ rfl]
  unfold escL
  have e : (92 :: c :: t).getD 1 0 = c := rfl
  rw [if_neg (by simp), e, if_neg h, if_pos h']
theorem hex4_at (a b c d : UInt8) (t : List UInt8) (ha : hexB a = true) (hb : hexB b = true) (hc : hexB c = true) (hd : hexB d = true) : hex4 (a :: b :: c :: d :: t) = (((hexV a * 16 + hexV b) * 16 + hexV c) * 16 + hexV d, 0) := by
  unfold hex4
  rw [hexF_step _ _ _ _ ha, hexF_step _ _ _ _ hb, hexF_step _ _ _ _ hc, hexF_step _ _ _ _ hd, hexF]
  simp
theorem code_at (t : List UInt8) (v : Nat) (hx : hex4 t = (v, 0)) (hv : v < 55296 ∨ 57343 < v) : pieceL (92 :: 117 :: t) = (Lib.encodeRune (v : Int), 6, 0) := by
  rw [piece_esc _ rfl]
  unfold escL
  have e : (92 :: 117 :: t).getD 1 0 = 117 := rfl
  rw [if_neg (by simp), e, if_pos (by rfl)]
  unfold codeL
  have e2 : (92 :: 117 :: t).drop 2 = t := rfl
  rw [e2, hx, if_neg (by simp), if_pos hv]
theorem enc_small (r : Nat) (h : r < 128) : Lib.encodeRune (r : Int) = [r.toUInt8] := enc_one (by omega)

theorem piece_told (r : Nat) (h : scalar r) (t : List UInt8) : pieceL (qrun r ++ t) = (Lib.encodeRune (r : Int), (qrun r).length, 0) := by
  unfold qrun
  by_cases h1 : r < 128
  · rw [if_pos h1, enc_small r h1]
    rcases told_cases r h1 with ⟨e, hr⟩ | ⟨e, hr⟩ | ⟨e, hr⟩ | ⟨e, hr⟩ | ⟨e, hr⟩ | ⟨e, hr⟩ | ⟨hr, e⟩ | ⟨hr, g1, g2, e⟩
    · rw [e]
      rcases hr with rfl | rfl
      · exact esc_at 34 t (by decide) (by decide)
      · exact esc_at 92 t (by decide) (by decide)
    · rw [e]; subst hr; exact esc_at 98 t (by decide) (by decide)
    · rw [e]; subst hr; exact esc_at 102 t (by decide) (by decide)
    · rw [e]; subst hr; exact esc_at 110 t (by decide) (by decide)
    · rw [e]; subst hr; exact esc_at 114 t (by decide) (by decide)
    · rw [e]; subst hr; exact esc_at 116 t (by decide) (by decide)
    · rw [e]
      have a := hexD_val (r / 16) (by omega)
      have b := hexD_val (r % 16) (by omega)
      have hx := hex4_at 48 48 (hexD (r / 16)) (hexD (r % 16)) t (by decide) (by decide) a.1 b.1
      rw [a.2, b.2] at hx
      have hv : (((hexV 48 * 16 + hexV 48) * 16 + r / 16) * 16 + r % 16) = r := by
        have : hexV 48 = 0 := by decide
        rw [this]; omega
      rw [hv] at hx
      have := code_at (48 :: 48 :: hexD (r / 16) :: hexD (r % 16) :: t) r hx (by omega)
      rw [enc_small r h1] at this
      exact this
    · rw [e]
      have hd := dec_enc r h t
      have hb := enc_badD r h t
      rw [enc_small r h1] at hd hb
      have hh : (([r.toUInt8] ++ t).getD 0 0).toNat = r := u8n (by omega)
      rw [piece_good _ (by rw [hh]; exact hr) (by rw [hh]; exact g2) hb, hd, enc_small r h1]
  · rw [if_neg h1]
    have hd := dec_enc r h t
    have hb := enc_badD r h t
    have hh := enc_head_high r h1 t
    rw [piece_good _ (by omega) (by omega) hb, hd]
theorem qrun_head (r : Nat) (t : List UInt8) : ∃ c u, qrun r ++ t = c :: u ∧ c.toNat ≠ 34 := by
  unfold qrun
  by_cases h1 : r < 128
  · rw [if_pos h1]
    rcases told_cases r h1 with ⟨e, hr⟩ | ⟨e, hr⟩ | ⟨e, hr⟩ | ⟨e, hr⟩ | ⟨e, hr⟩ | ⟨e, hr⟩ | ⟨hr, e⟩ | ⟨hr, g1, g2, e⟩
    all_goals rw [e]
    all_goals refine ⟨_, _, rfl, ?_⟩
    all_goals first | decide | (rw [u8n (by omega)]; exact g1)
  · rw [if_neg h1]
    have hn := enc_ne (r : Int)
    have hh := enc_high r (by omega)
    match Lib.encodeRune (r : Int), hn, hh with
    | [], hn, _ => exact absurd rfl hn
    | c :: u, _, hh => exact ⟨c, u ++ t, rfl, by have := hh c (by simp); omega⟩
theorem qrun_pos (r : Nat) : 1 ≤ (qrun r).length := by
  obtain ⟨c, u, h, _⟩ := qrun_head r []
  rw [List.append_nil] at h; rw [h]; simp

/-- Texts that are code points one behind the other. -/
inductive Pts : List UInt8 → Prop
  | nil : Pts []
  | cons (r : Nat) (l : List UInt8) : scalar r → Pts l → Pts (Lib.encodeRune (r : Int) ++ l)
theorem Pts.of_valid (k : Nat) : ∀ l : List UInt8, l.length ≤ k → validF k l = true → Pts l := by
  induction k with
  | zero =>
            intro l hl _
            obtain rfl : l = [] := List.eq_nil_of_length_eq_zero (by omega)
            exact .nil
  | succ k ih =>
    intro l hl hv
    by_cases hn : l = []
    · subst hn; exact .nil
    cases hb : badD (decL l)
    · rw [validF_good k l hn hb] at hv
      obtain ⟨g1, g2, g3⟩ := dec_good l hn hb
      have hp := dec_pos l
      have hs := ih (l.drop (decL l).2) (by rw [List.length_drop]; omega) hv
      have := Pts.cons (decL l).1 _ g1 hs
      rwa [← g3, List.take_append_drop] at this
    · rw [validF_bad k l hn hb] at hv; exact absurd hv (by decide)
theorem Pts.valid {l : List UInt8} (h : Pts l) : ∀ k, l.length ≤ k → validF k l = true := by
  induction h with
  | nil => intro k _; exact validF_nil _ _ rfl
  | cons r l hr _ ih =>
    intro k hk
    have hn := (enc_len (r : Int)).1
    rw [List.length_append] at hk
    obtain ⟨k, rfl⟩ : ∃ j, k = j + 1 := ⟨k - 1, by omega⟩
    have hne : Lib.encodeRune (r : Int) ++ l ≠ [] := by simp [enc_ne]
    rw [validF_good k _ hne (enc_badD r hr l), dec_enc r hr l, List.drop_append_of_le_length (Nat.le_refl _), List.drop_length, List.nil_append]
    exact ih k (by omega)
theorem Pts.app {a b : List UInt8} (h : Pts a) (k : Pts b) : Pts (a ++ b) := by
  induction h with
  | nil => exact k
  | cons r l hr _ ih => rw [List.append_assoc]; exact .cons r _ hr ih
theorem valid_iff (l : List UInt8) : validL l = true ↔ Pts l := ⟨Pts.of_valid _ l (Nat.le_refl _), fun h => h.valid _ (Nat.le_refl _)⟩

theorem unqF_text {l : List UInt8} (h : Pts l) (t : List UInt8) : ∀ k, (l.flatMap told).length < k → unqF k (l.flatMap told ++ 34 :: t) = (l, (l.flatMap told).length + 1, 0) := by
  induction h with
  | nil => intro k hk; obtain ⟨k, rfl⟩ : ∃ j, k = j + 1 := ⟨k - 1, by omega⟩; rfl
  | cons r l hr _ ih =>
    intro k hk
    rw [List.flatMap_append, qrun_enc, List.length_append] at hk
    rw [List.flatMap_append, qrun_enc, List.append_assoc]
    have hp := piece_told r hr (l.flatMap told ++ 34 :: t)
    obtain ⟨c, u, hc, hne⟩ := qrun_head r (l.flatMap told ++ 34 :: t)
    have hq := qrun_pos r
    obtain ⟨k, rfl⟩ : ∃ j, k = j + 1 := ⟨k - 1, by omega⟩
    have hd : (qrun r ++ (l.flatMap told ++ 34 :: t)).drop (qrun r).length = l.flatMap told ++ 34 :: t := by
      rw [List.drop_append_of_le_length (Nat.le_refl _), List.drop_length, List.nil_append]
    have hi := ih k (by omega)
    rw [hc] at hp hd ⊢
    rw [unqF, if_neg hne, hp, if_neg (by simp), hd, hi, if_neg (by simp)]
    simp only [List.length_append, Nat.add_assoc]
theorem unq_quote {l : List UInt8} (h : Pts l) (t : List UInt8) : unqL (quoteL l ++ t) = (l, (quoteL l).length, 0) := by
  unfold quoteL unqL
  have e1 : (34 :: (l.flatMap told ++ [34]) ++ t) = 34 :: (l.flatMap told ++ 34 :: t) := by simp
  rw [e1, if_neg (by simp), if_neg (by simp)]
  have e2 : (34 :: (l.flatMap told ++ 34 :: t)).drop 1 = l.flatMap told ++ 34 :: t := rfl
  rw [e2, unqF_text h t _ (by simp; omega)]
  simp [joinU]; omega
end Go.Proofs.YtljkeladdplhlaaDoor
namespace Go.Proofs.YtljkeladdplhlaaDoor
open Go.RowKit

theorem byte_eq {a b : UInt8} (h : a.toNat = b.toNat) : a = b := UInt8.toNat_inj.1 h
theorem hex4_ok (l : List UInt8) (h : (hex4 l).2 = 0) : ∃ a b c d t, l = a :: b :: c :: d :: t ∧ hexB a = true ∧ hexB b = true ∧ hexB c = true ∧ hexB d = true := by
  unfold hex4 at h
  match l, h with
  | [], h => simp [hexF] at h
  | a :: l, h =>
    rw [hexF] at h
    split at h
    · rename_i ha
      match l, h with
      | [], h => simp [hexF] at h
      | b :: l, h =>
        rw [hexF] at h
        split at h
        · rename_i hb
          match l, h with
          | [], h => simp [hexF] at h
          | c :: l, h =>
            rw [hexF] at h
            split at h
            · rename_i hc
              match l, h with
              | [], h => simp [hexF] at h
              | d :: l, h =>
                rw [hexF] at h
                split at h
                · rename_i hd
                  exact ⟨a, b, c, d, l, rfl, ha, hb, hc, hd⟩
                · simp at h
            · simp at h
        · simp at h
    · simp at h
theorem hex4_0 : hex4 [] = (0, 3) := rfl
theorem hex4_1 (a : UInt8) (ha : hexB a = true) : hex4 [a] = (0, 3) := by unfold hex4; rw [hexF_step _ _ _ _ ha]; rfl
theorem hex4_2 (a b : UInt8) (ha : hexB a = true) (hb : hexB b = true) : hex4 [a, b] = (0, 3) := by unfold hex4; rw [hexF_step _ _ _ _ ha, hexF_step _ _ _ _ hb]; rfl
theorem hex4_3 (a b c : UInt8) (ha : hexB a = true) (hb : hexB b = true) (hc : hexB c = true) : hex4 [a, b, c] = (0, 3) := by unfold hex4; rw [hexF_step _ _ _ _ ha, hexF_step _ _ _ _ hb, hexF_step _ _ _ _ hc]; rfl

theorem piece_u (s : List UInt8) : pieceL (92 :: 117 :: s) = codeL (92 :: 117 :: s) := by
  rw [piece_esc _ rfl]
  unfold escL
  have e : (92 :: 117 :: s).getD 1 0 = 117 := rfl
  rw [if_neg (by simp), e, if_pos (by rfl)]
theorem code_err (s : List UInt8) (h : (hex4 s).2 ≠ 0) : pieceL (92 :: 117 :: s) = ([], 0, (hex4 s).2) := by
  rw [piece_u]
  unfold codeL
  have e2 : (92 :: 117 :: s).drop 2 = s := rfl
  rw [e2, if_pos h]
theorem piece_1 : pieceL [92] = ([], 0, 3) := by decide
theorem lowS_u (s : List UInt8) : lowS (92 :: 117 :: s) = lowT s := by
  unfold lowS
  have e : (92 :: 117 :: s).getD 1 0 = 117 := rfl
  have e0 : (92 :: 117 :: s).getD 0 0 = 92 := rfl
  have e2 : (92 :: 117 :: s).drop 2 = s := rfl
  rw [if_neg (by simp), e0, if_neg (by decide), if_neg (by simp), e, if_neg (by decide), e2]
theorem lowS_ok (l : List UInt8) (h : (lowS l).2 = 0) : ∃ s, l = 92 :: 117 :: s ∧ (hex4 s).2 = 0 := by
  match l, h with
  | [], h => simp [lowS] at h
  | [a], h =>
    unfold lowS at h
    rw [if_neg (by simp)] at h
    split at h
    · simp at h
    · simp at h
  | a :: b :: s, h =>
    have h' := h
    unfold lowS at h
    rw [if_neg (by simp)] at h
    split at h
    · simp at h
    · rename_i ha
      rw [if_neg (by simp)] at h
      split at h
      · simp at h
      · rename_i hb
        have e0 : a = 92 := byte_eq (by simpa using ha)
        have e1 : b = 117 := byte_eq (by simpa using hb)
        subst e0; subst e1
        refine ⟨s, rfl, ?_⟩
        rw [lowS_u] at h'
        unfold lowT at h'
        split at h'
        · rename_i hx; exact absurd h' hx
        · rename_i hx; simpa using hx
theorem low_err (s : List UInt8) (h : (hex4 s).2 ≠ 0) : lowS (92 :: 117 :: s) = (0, (hex4 s).2) := by
  rw [lowS_u]; unfold lowT; rw [if_pos h]
/-- A first half of a code point: what follows decides. -/
theorem code_sur (a b c d : UInt8) (s : List UInt8) (v : Nat) (hx : hex4 (a :: b :: c :: d :: s) = (v, 0)) (h1 : 55296 ≤ v) (h2 : v < 56320) :
    pieceL (92 :: 117 :: a :: b :: c :: d :: s) = if (lowS s).2 ≠ 0 then ([], 0, (lowS s).2) else (Lib.encodeRune ((65536 + (v - 55296) * 1024 + ((lowS s).1 - 56320) : Nat) : Int), 12, 0) := by
  rw [piece_u]
  unfold codeL
  have e2 : (92 :: 117 :: a :: b :: c :: d :: s).drop 2 = a :: b :: c :: d :: s := rfl
  have e6 : (92 :: 117 :: a :: b :: c :: d :: s).drop 6 = s := rfl
  rw [e2, e6, hx, if_neg (by simp), if_neg (by simp only; omega), if_neg (by simp only; omega)]

/-- What a piece is that was read well. -/
structure Well (l : List UInt8) : Prop where
  pts : ∃ r, scalar r ∧ (pieceL l).1 = Lib.encodeRune (r : Int)
  pos : 1 ≤ (pieceL l).2.1
  le : (pieceL l).2.1 ≤ l.length
  same : ∀ t, pieceL (l.take (pieceL l).2.1 ++ t) = pieceL l
  cut : ∀ j, 0 < j → j < (pieceL l).2.1 → (pieceL (l.take j)).2.2 = 3 ∨ (pieceL (l.take j)).2.2 = 6

theorem escV_small (c : UInt8) (h : escB c = true) : (escV c).toNat < 128 := by
  have : c.toNat = 34 ∨ c.toNat = 92 ∨ c.toNat = 47 ∨ c.toNat = 98 ∨ c.toNat = 102 ∨ c.toNat = 110 ∨ c.toNat = 114 ∨ c.toNat = 116 := by simpa [escB] using h
  unfold escV
  repeat' split
  all_goals first | decide | omega

theorem well_esc (c : UInt8) (t : List UInt8) (h : c.toNat ≠ 117) (h' : escB c = true) : Well (92 :: c :: t) := by
  have hp := esc_at c t h h'
  have hs := escV_small c h'
  refine ⟨⟨(escV c).toNat, .inl (by omega), ?_⟩, ?_, ?_, ?_, ?_⟩
  · rw [hp, enc_small _ hs]; simp
  · rw [hp]; simp
  · rw [hp]; simp
  · intro u; rw [hp]; exact esc_at c u h h'
  · intro j h0 h1
    rw [hp] at h1
    obtain rfl : j = 1 := by simp only at h1; omega
    left; show (pieceL [92]).2.2 = 3; rw [piece_1]
theorem well_code (a b c d : UInt8) (t : List UInt8) (v : Nat) (ha : hexB a = true) (hb : hexB b = true) (hc : hexB c = true) (hd : hexB d = true) (hx : ∀ u, hex4 (a :: b :: c :: d :: u) = (v, 0)) (hv : v < 55296 ∨ 57343 < v) (hv2 : v < 65536) : Well (92 :: 117 :: a :: b :: c :: d :: t) := by
  have hp : ∀ u, pieceL (92 :: 117 :: a :: b :: c :: d :: u) = (Lib.encodeRune (v : Int), 6, 0) := fun u => code_at _ v (hx u) hv
  refine ⟨⟨v, by unfold scalar; omega, by rw [hp]⟩, by rw [hp]; simp, by rw [hp]; simp, fun u => by rw [hp]; exact hp u, ?_⟩
  intro j h0 h1
  rw [hp] at h1
  simp only at h1
  have : j = 1 ∨ j = 2 ∨ j = 3 ∨ j = 4 ∨ j = 5 := by omega
  left
  rcases this with rfl | rfl | rfl | rfl | rfl
  · show (pieceL [92]).2.2 = 3; rw [piece_1]
  · show (pieceL (92 :: 117 :: [])).2.2 = 3
    rw [code_err _ (by rw [hex4_0]; decide), hex4_0]
  · show (pieceL (92 :: 117 :: [a])).2.2 = 3
    rw [code_err _ (by rw [hex4_1 _ ha]; decide), hex4_1 _ ha]
  · show (pieceL (92 :: 117 :: [a, b])).2.2 = 3
    rw [code_err _ (by rw [hex4_2 _ _ ha hb]; decide), hex4_2 _ _ ha hb]
  · show (pieceL (92 :: 117 :: [a, b, c])).2.2 = 3
    rw [code_err _ (by rw [hex4_3 _ _ _ ha hb hc]; decide), hex4_3 _ _ _ ha hb hc]
theorem well_sur (a b c d : UInt8) (s : List UInt8) (v : Nat) (ha : hexB a = true) (hb : hexB b = true) (hc : hexB c = true) (hd : hexB d = true) (hx : ∀ u, hex4 (a :: b :: c :: d :: u) = (v, 0)) (h1 : 55296 ≤ v) (h2 : v < 56320) (hl : (lowS s).2 = 0) : Well (92 :: 117 :: a :: b :: c :: d :: s) := by
  obtain ⟨s', rfl, hx'⟩ := lowS_ok s hl
  obtain ⟨a', b', c', d', t, rfl, ha', hb', hc', hd'⟩ := hex4_ok s' hx'
  have hr := lowS_range _ hl
  obtain ⟨u0, hu0⟩ : ∃ u0, (lowS (92 :: 117 :: a' :: b' :: c' :: d' :: t)).1 = u0 := ⟨_, rfl⟩
  rw [hu0] at hr
  have hls : ∀ u, lowS (92 :: 117 :: a' :: b' :: c' :: d' :: u) = (u0, 0) := by
    intro u
    have e : ∀ u, lowS (92 :: 117 :: a' :: b' :: c' :: d' :: u) = lowS (92 :: 117 :: a' :: b' :: c' :: d' :: t) := fun u => by
      rw [lowS_u, lowS_u]; unfold lowT; rw [hex4_at _ _ _ _ u ha' hb' hc' hd', hex4_at _ _ _ _ t ha' hb' hc' hd']
    rw [e u, ← hu0, ← hl]
  have hp : ∀ u, pieceL (92 :: 117 :: a :: b :: c :: d :: 92 :: 117 :: a' :: b' :: c' :: d' :: u) = (Lib.encodeRune ((65536 + (v - 55296) * 1024 + (u0 - 56320) : Nat) : Int), 12, 0) := fun u => by
    rw [code_sur a b c d _ v (hx _) h1 h2, hls u, if_neg (by simp)]
  have cut : ∀ s, (lowS s).2 = 3 → (pieceL (92 :: 117 :: a :: b :: c :: d :: s)).2.2 = 3 := fun s hs => by
    rw [code_sur a b c d s v (hx _) h1 h2, if_pos (by omega)]; exact hs
  refine ⟨⟨_, ?_, by rw [hp]⟩, by rw [hp]; simp, by rw [hp]; simp, fun u => by rw [hp]; exact hp u, ?_⟩
  · unfold scalar; omega
  intro j h0 h1
  rw [hp] at h1
  simp only at h1
  have : j = 1 ∨ j = 2 ∨ j = 3 ∨ j = 4 ∨ j = 5 ∨ j = 6 ∨ j = 7 ∨ j = 8 ∨ j = 9 ∨ j = 10 ∨ j = 11 := by omega
  left
  rcases this with rfl | rfl | rfl | rfl | rfl | rfl | rfl | rfl | rfl | rfl | rfl
  · show (pieceL [92]).2.2 = 3; rw [piece_1]
  · show (pieceL (92 :: 117 :: [])).2.2 = 3
    rw [code_err _ (by rw [hex4_0]; decide), hex4_0]
  · show (pieceL (92 :: 117 :: [a])).2.2 = 3
    rw [code_err _ (by rw [hex4_1 _ ha]; decide), hex4_1 _ ha]
  · show (pieceL (92 :: 117 :: [a, b])).2.2 = 3
    rw [code_err _ (by rw [hex4_2 _ _ ha hb]; decide), hex4_2 _ _ ha hb]
  · show (pieceL (92 :: 117 :: [a, b, c])).2.2 = 3
    rw [code_err _ (by rw [hex4_3 _ _ _ ha hb hc]; decide), hex4_3 _ _ _ ha hb hc]
  · exact cut [] rfl
  · exact cut [92] rfl
  · exact cut [92, 117] (by rw [low_err _ (by rw [hex4_0]; decide), hex4_0])
  · exact cut [92, 117, a'] (by rw [low_err _ (by rw [hex4_1 _ ha']; decide), hex4_1 _ ha'])
  · exact cut [92, 117, a', b'] (by rw [low_err _ (by rw [hex4_2 _ _ ha' hb']; decide), hex4_2 _ _ ha' hb'])
  · exact cut [92, 117, a', b', c'] (by rw [low_err _ (by rw [hex4_3 _ _ _ ha' hb' hc']; decide), hex4_3 _ _ _ ha' hb' hc'])
theorem well_plain (l : List UInt8) (hn : l ≠ []) (h : 32 ≤ (l.getD 0 0).toNat) (h' : (l.getD 0 0).toNat ≠ 92) (b : badD (decL l) = false) : Well l := by
  have hp := piece_good l h h' b
  obtain ⟨g1, g2, g3⟩ := dec_good l hn b
  have hpos := dec_pos l
  have hlen : (Lib.encodeRune ((decL l).1 : Int)).length = (decL l).2 := by rw [← g3, List.length_take]; omega
  have hd0 : ∀ (m : List UInt8) j, 0 < j → (l.take j ++ m).getD 0 0 = l.getD 0 0 := fun m j hj => by
    match l, hn, j, hj with
    | [], hn, _, _ => exact absurd rfl hn
    | c :: r, _, j + 1, _ => rfl
  refine ⟨⟨_, g1, by rw [hp]⟩, by rw [hp]; exact hpos, by rw [hp]; exact g2, ?_, ?_⟩
  · intro t
    have e0 := hd0 t _ hpos
    rw [hp]
    show pieceL (l.take (decL l).2 ++ t) = _
    have hd := dec_enc (decL l).1 g1 t
    have hb := enc_badD (decL l).1 g1 t
    rw [← g3] at hd hb
    rw [piece_good _ (by rw [e0]; exact h) (by rw [e0]; exact h') hb, hd]
    simp only [List.length_take]
    congr 2
    omega
  · intro j j0 j1
    rw [hp] at j1
    simp only at j1
    have e0 := hd0 [] j j0
    rw [List.append_nil] at e0
    cases hb : badD (decL (l.take j))
    · exfalso
      have hnj : l.take j ≠ [] := fun e => by
        have h5 := congrArg List.length e
        rw [List.length_take, List.length_nil] at h5
        have h6 : 0 < l.length := List.length_pos_iff.2 hn
        omega
      obtain ⟨k1, k2, k3⟩ := dec_good _ hnj hb
      have hl : (decL (l.take j)).2 ≤ j := by rw [List.length_take] at k2; omega
      rw [List.take_take, Nat.min_eq_left hl] at k3
      have e : l = Lib.encodeRune ((decL (l.take j)).1 : Int) ++ l.drop (decL (l.take j)).2 := by rw [← k3, List.take_append_drop]
      have hd := dec_enc (decL (l.take j)).1 k1 (l.drop (decL (l.take j)).2)
      rw [← e] at hd
      have : (decL l).2 = (Lib.encodeRune ((decL (l.take j)).1 : Int)).length := by rw [hd]
      rw [← k3, List.length_take] at this
      omega
    · right
      rw [piece_bad _ (by rw [e0]; exact h) (by rw [e0]; exact h') hb]

theorem well (l : List UInt8) (hn : l ≠ []) (e : (pieceL l).2.2 = 0) : Well l := by
  by_cases h1 : (l.getD 0 0).toNat < 32
  · rw [piece_low l h1] at e; simp at e
  by_cases h2 : (l.getD 0 0).toNat = 92
  · rw [piece_esc l h2] at e
    match l, hn, h2, e with
    | [], hn, _, _ => exact absurd rfl hn
    | [a], _, _, e => simp [escL] at e
    | a :: c :: t, _, h2, e =>
      have ea : a = 92 := byte_eq h2
      subst ea
      by_cases h3 : c.toNat = 117
      · have ec : c = 117 := byte_eq h3
        subst ec
        have e' : (codeL (92 :: 117 :: t)).2.2 = 0 := by rw [← piece_u, piece_esc _ rfl]; exact e
        unfold codeL at e'
        have e2 : (92 :: 117 :: t).drop 2 = t := rfl
        rw [e2] at e'
        split at e'
        · rename_i hx; exact absurd e' hx
        · rename_i hx
          obtain ⟨x, y, z, d, t, rfl, hx1, hx2, hx3, hx4⟩ := hex4_ok t (by simpa using hx)
          have hbd := hex4_bound (x :: y :: z :: d :: t)
          obtain ⟨v, hv⟩ : ∃ v, (hex4 (x :: y :: z :: d :: t)).1 = v := ⟨_, rfl⟩
          have hall : ∀ u, hex4 (x :: y :: z :: d :: u) = (v, 0) := fun u => by
            have a1 := hex4_at x y z d t hx1 hx2 hx3 hx4
            have a2 := hex4_at x y z d u hx1 hx2 hx3 hx4
            rw [a2, ← hv, a1]
          rw [hv] at e' hbd
          split at e'
          · rename_i hr; exact well_code x y z d t v hx1 hx2 hx3 hx4 hall hr hbd
          · rename_i hr
            split at e'
            · simp at e'
            · rename_i hr2
              split at e'
              · rename_i hl; exact absurd e' hl
              · rename_i hl
                have e6 : (92 :: 117 :: x :: y :: z :: d :: t).drop 6 = t := rfl
                rw [e6] at hl
                exact well_sur x y z d t v hx1 hx2 hx3 hx4 hall (by omega) (by omega) (by simpa using hl)
      · unfold escL at e
        have e1 : (92 :: c :: t).getD 1 0 = c := rfl
        rw [if_neg (by simp), e1, if_neg h3] at e
        split at e
        · rename_i hb; exact well_esc c t h3 hb
        · simp at e
  cases hb : badD (decL l)
  · exact well_plain l hn (by omega) h2 hb
  · rw [piece_bad l (by omega) h2 hb] at e; simp at e
end Go.Proofs.YtljkeladdplhlaaDoor
namespace Go.Proofs.YtljkeladdplhlaaDoor
open Go.RowKit

theorem take_add' (l : List UInt8) (n j : Nat) (h : n ≤ j) : l.take j = l.take n ++ (l.drop n).take (j - n) := by
  rw [← List.take_add, show n + (j - n) = j by omega]

structure WellU (k : Nat) (l : List UInt8) : Prop where
  pts : Pts (unqF k l).1
  pos : 1 ≤ (unqF k l).2.1
  le : (unqF k l).2.1 ≤ l.length
  same : ∀ t i, (unqF k l).2.1 ≤ i → unqF i (l.take (unqF k l).2.1 ++ t) = unqF k l
  cut : ∀ j, j < (unqF k l).2.1 → ∀ i, (unqF i (l.take j)).2.2 = 3 ∨ (unqF i (l.take j)).2.2 = 6

theorem unqF_end (k : Nat) (c : UInt8) (t : List UInt8) (h : c.toNat = 34) : unqF (k + 1) (c :: t) = ([], 1, 0) := by rw [unqF, if_pos h]
theorem unqF_bad (k : Nat) (l : List UInt8) (hn : l ≠ []) (h : (l.getD 0 0).toNat ≠ 34) (e : (pieceL l).2.2 ≠ 0) : unqF (k + 1) l = ([], 0, (pieceL l).2.2) := by
  match l, hn with
  | [], hn => exact absurd rfl hn
  | c :: t, _ =>
    have h' : ¬ c.toNat = 34 := h
    rw [unqF, if_neg h', if_pos e]
theorem unqF_more (k : Nat) (l : List UInt8) (hn : l ≠ []) (h : (l.getD 0 0).toNat ≠ 34) (e : (pieceL l).2.2 = 0) :
    unqF (k + 1) l = if (unqF k (l.drop (pieceL l).2.1)).2.2 ≠ 0 then ([], 0, (unqF k (l.drop (pieceL l).2.1)).2.2) else ((pieceL l).1 ++ (unqF k (l.drop (pieceL l).2.1)).1, (pieceL l).2.1 + (unqF k (l.drop (pieceL l).2.1)).2.1, 0) := by
  match l, hn with
  | [], hn => exact absurd rfl hn
  | c :: t, _ =>
    have h' : ¬ c.toNat = 34 := h
    rw [unqF, if_neg h', if_neg (by rw [e]; decide)]
theorem unqF_err (i : Nat) : ∀ l : List UInt8, (unqF i l).2.2 ≠ 0 → (unqF i l).1 = [] ∧ (unqF i l).2.1 = 0 := by
  induction i with
  | zero => intro l _; exact ⟨rfl, rfl⟩
  | succ i ih =>
    intro l h
    by_cases hn : l = []
    · rw [unqF_none _ _ hn]; exact ⟨rfl, rfl⟩
    by_cases h34 : (l.getD 0 0).toNat = 34
    · match l, hn, h34, h with
      | [], hn, _, _ => exact absurd rfl hn
      | c :: t, _, h34, h => rw [unqF_end i c t h34] at h; simp at h
    by_cases e : (pieceL l).2.2 = 0
    · rw [unqF_more i l hn h34 e] at h ⊢
      split
      · exact ⟨rfl, rfl⟩
      · rename_i g; rw [if_neg g] at h; simp at h
    · rw [unqF_bad i l hn h34 e]; exact ⟨rfl, rfl⟩
theorem ne_take {l : List UInt8} (hn : l ≠ []) (j : Nat) (hj : 0 < j) : l.take j ≠ [] := by
  match l, hn, j, hj with
  | [], hn, _, _ => exact absurd rfl hn
  | c :: t, _, j + 1, _ => simp
theorem head_take {l : List UInt8} (hn : l ≠ []) (j : Nat) (hj : 0 < j) (m : List UInt8) : (l.take j ++ m).getD 0 0 = l.getD 0 0 := by
  match l, hn, j, hj with
  | [], hn, _, _ => exact absurd rfl hn
  | c :: t, _, j + 1, _ => rfl

theorem wellU (k : Nat) : ∀ l : List UInt8, (unqF k l).2.2 = 0 → WellU k l := by
  induction k with
  | zero => intro l h; simp [unqF] at h
  | succ k ih =>
    intro l h
    by_cases hn : l = []
    · rw [unqF_none _ _ hn] at h; simp at h
    by_cases h34 : (l.getD 0 0).toNat = 34
    · match l, hn, h34 with
      | [], hn, _ => exact absurd rfl hn
      | c :: t, _, h34 =>
        have e := unqF_end k c t h34
        refine ⟨by rw [e]; exact .nil, by rw [e]; simp, by rw [e]; simp, ?_, ?_⟩
        · intro u i hi
          rw [e] at hi ⊢
          obtain ⟨i, rfl⟩ : ∃ j, i = j + 1 := ⟨i - 1, by simp only at hi; omega⟩
          exact unqF_end i c _ h34
        · intro j hj i
          rw [e] at hj
          obtain rfl : j = 0 := by simp only at hj; omega
          left; rw [List.take_zero, unqF_none _ _ rfl]
    by_cases e : (pieceL l).2.2 = 0
    · have w := well l hn e
      obtain ⟨r, hr, ho⟩ := w.pts
      have hm := unqF_more k l hn h34 e
      by_cases hu : (unqF k (l.drop (pieceL l).2.1)).2.2 = 0
      · rw [if_neg (by rw [hu]; decide)] at hm
        have i0 := ih _ hu
        have hle : (pieceL l).2.1 + (unqF k (l.drop (pieceL l).2.1)).2.1 ≤ l.length := by
          have := i0.le; rw [List.length_drop] at this; have := w.le; omega
        refine ⟨?_, ?_, ?_, ?_, ?_⟩
        · rw [hm]; show Pts (_ ++ _); rw [ho]; exact .cons r _ hr i0.pts
        · rw [hm]; show 1 ≤ _ + _; have := w.pos; omega
        · rw [hm]; exact hle
        · intro t i hi
          rw [hm] at hi ⊢
          simp only at hi ⊢
          have hpos := w.pos
          obtain ⟨i, rfl⟩ : ∃ j, i = j + 1 := ⟨i - 1, by omega⟩
          have e1 : l.take ((pieceL l).2.1 + (unqF k (l.drop (pieceL l).2.1)).2.1) ++ t = l.take (pieceL l).2.1 ++ ((l.drop (pieceL l).2.1).take (unqF k (l.drop (pieceL l).2.1)).2.1 ++ t) := by
            rw [List.take_add, List.append_assoc]
          have hlen : (l.take (pieceL l).2.1).length = (pieceL l).2.1 := by rw [List.length_take]; have := w.le; omega
          rw [e1]
          have e2 := w.same ((l.drop (pieceL l).2.1).take (unqF k (l.drop (pieceL l).2.1)).2.1 ++ t)
          have hne : l.take (pieceL l).2.1 ++ ((l.drop (pieceL l).2.1).take (unqF k (l.drop (pieceL l).2.1)).2.1 ++ t) ≠ [] := by
            simp [ne_take hn _ hpos]
          have hh := head_take hn _ hpos ((l.drop (pieceL l).2.1).take (unqF k (l.drop (pieceL l).2.1)).2.1 ++ t)
          rw [unqF_more i _ hne (by rw [hh]; exact h34) (by rw [e2]; exact e), e2]
          have e3 : (l.take (pieceL l).2.1 ++ ((l.drop (pieceL l).2.1).take (unqF k (l.drop (pieceL l).2.1)).2.1 ++ t)).drop (pieceL l).2.1 = (l.drop (pieceL l).2.1).take (unqF k (l.drop (pieceL l).2.1)).2.1 ++ t := by
            rw [List.drop_append_of_le_length (by omega), List.drop_of_length_le (by omega), List.nil_append]
          rw [e3, i0.same t i (by omega), if_neg (by rw [hu]; decide)]
        · intro j hj i
          rw [hm] at hj
          simp only at hj
          cases i with
          | zero => left; rfl
          | succ i =>
            by_cases hj0 : j = 0
            · subst hj0; left; rw [List.take_zero, unqF_none _ _ rfl]
            have hnj := ne_take hn j (by omega)
            have hh := head_take hn j (by omega) []
            rw [List.append_nil] at hh
            by_cases hjp : j < (pieceL l).2.1
            · have c := w.cut j (by omega) hjp
              have : (pieceL (l.take j)).2.2 ≠ 0 := by omega
              rw [unqF_bad i _ hnj (by rw [hh]; exact h34) this]; exact c
            · have e1 := take_add' l (pieceL l).2.1 j (by omega)
              have e2 := w.same ((l.drop (pieceL l).2.1).take (j - (pieceL l).2.1))
              rw [← e1] at e2
              have hlen : (l.take (pieceL l).2.1).length = (pieceL l).2.1 := by rw [List.length_take]; have := w.le; omega
              rw [unqF_more i _ hnj (by rw [hh]; exact h34) (by rw [e2]; exact e), e2]
              have e3 : (l.take j).drop (pieceL l).2.1 = (l.drop (pieceL l).2.1).take (j - (pieceL l).2.1) := by
                rw [e1, List.drop_append_of_le_length (by omega), List.drop_of_length_le (by omega), List.nil_append]
              rw [e3]
              have c := i0.cut (j - (pieceL l).2.1) (by omega) i
              rw [if_pos (by omega)]
              exact c
      · rw [if_pos hu] at hm
        rw [hm] at h; exact absurd h hu
    · rw [unqF_bad k l hn h34 e] at h; exact absurd h e

theorem unqL_err (l : List UInt8) (h : (unqL l).2.2 ≠ 0) : (unqL l).1 = [] ∧ (unqL l).2.1 = 0 := by
  revert h
  unfold unqL
  split
  · intro _; exact ⟨rfl, rfl⟩
  · split
    · intro _; exact ⟨rfl, rfl⟩
    · unfold joinU
      split
      · intro _; exact ⟨rfl, rfl⟩
      · intro h; simp at h
structure WellL (l : List UInt8) : Prop where
  pts : Pts (unqL l).1
  pos : 2 ≤ (unqL l).2.1
  le : (unqL l).2.1 ≤ l.length
  same : ∀ t, unqL (l.take (unqL l).2.1 ++ t) = unqL l
  cut : ∀ j, j < (unqL l).2.1 → (unqL (l.take j)).2.2 = 3 ∨ (unqL (l.take j)).2.2 = 6
theorem unqL_cons (c : UInt8) (t : List UInt8) (h : c.toNat = 34) : unqL (c :: t) = joinU [] 1 (unqF (t.length + 1) t) := by
  unfold unqL
  rw [if_neg (by simp), if_neg (by simpa using h)]; rfl
theorem wellL (l : List UInt8) (h : (unqL l).2.2 = 0) : WellL l := by
  match l, h with
  | [], h => simp [unqL] at h
  | c :: t, h =>
    by_cases h34 : c.toNat = 34
    · have e := unqL_cons c t h34
      by_cases hu : (unqF (t.length + 1) t).2.2 = 0
      · have w := wellU _ t hu
        have ej : joinU [] 1 (unqF (t.length + 1) t) = ((unqF (t.length + 1) t).1, 1 + (unqF (t.length + 1) t).2.1, 0) := by
          unfold joinU; rw [if_neg (by rw [hu]; decide)]; simp
        rw [ej] at e
        refine ⟨by rw [e]; exact w.pts, ?_, ?_, ?_, ?_⟩
        · have h1 := w.pos
          rw [e]; simp only; omega
        · have h1 := w.le
          rw [e]; simp only [List.length_cons]; omega
        · intro u
          rw [e]
          show unqL ((c :: t).take (1 + _) ++ u) = _
          rw [Nat.add_comm, List.take_succ_cons, List.cons_append, unqL_cons c _ h34]
          have hs := w.same u ((t.take (unqF (t.length + 1) t).2.1 ++ u).length + 1) (by
            rw [List.length_append, List.length_take]; have := w.le; omega)
          rw [hs, ej, Nat.add_comm 1]
        · intro j hj
          rw [e] at hj
          simp only at hj
          cases j with
          | zero => left; rfl
          | succ j =>
            rw [List.take_succ_cons, unqL_cons c _ h34]
            have hc := w.cut j (by omega) ((t.take j).length + 1)
            rw [joinU_err _ _ _ (by omega)]
            exact hc
      · rw [e, joinU_err _ _ _ hu] at h; exact absurd h hu
    · unfold unqL at h
      rw [if_neg (by simp), if_pos (by simpa using h34)] at h
      simp at h

/-- The bytes of a literal. -/
theorem told_ge (c : UInt8) : ∀ x ∈ told c, 32 ≤ x.toNat := by
  have hc := c.toNat_lt
  unfold told
  by_cases h : c.toNat < 128
  · rcases told_cases c.toNat h with ⟨e, hr⟩ | ⟨e, hr⟩ | ⟨e, hr⟩ | ⟨e, hr⟩ | ⟨e, hr⟩ | ⟨e, hr⟩ | ⟨hr, e⟩ | ⟨hr, g1, g2, e⟩
    · rw [e]; intro x hx; simp only [List.mem_cons, List.not_mem_nil, or_false] at hx; rcases hx with rfl | rfl
      · decide
      · rw [u8n (by omega)]; omega
    · rw [e]; decide
    · rw [e]; decide
    · rw [e]; decide
    · rw [e]; decide
    · rw [e]; decide
    · rw [e]
      have hh : ∀ k, k < 16 → 32 ≤ (hexD k).toNat := by decide
      intro x hx; simp only [List.mem_cons, List.not_mem_nil, or_false] at hx
      rcases hx with rfl | rfl | rfl | rfl | rfl | rfl
      · decide
      · decide
      · decide
      · decide
      · exact hh _ (by omega)
      · exact hh _ (by omega)
    · rw [e]; intro x hx; simp only [List.mem_singleton] at hx; rw [hx, u8n (by omega)]; omega
  · have e : toldN c.toNat = [c] := told_high c (by omega)
    rw [e]; intro x hx; simp only [List.mem_singleton] at hx; rw [hx]; omega
theorem quote_ge (l : List UInt8) : ∀ x ∈ quoteL l, 32 ≤ x.toNat := by
  intro x hx
  unfold quoteL at hx
  simp only [List.mem_cons, List.mem_append, List.mem_flatMap, List.not_mem_nil, or_false] at hx
  rcases hx with rfl | ⟨c, _, hc⟩ | rfl
  · decide
  · exact told_ge c x hc
  · decide
end Go.Proofs.YtljkeladdplhlaaDoor
