/-
  A literal does not depend on what follows it; cut anywhere it ends too early, or in the middle of a code point.
-/
import Derived.Test.YtbhgfdgdbbfeoaaDoorPie
namespace Go.Proofs.YtbhgfdgdbbfeoaaDoor
open Go.RowKit

theorem byte_eq {a b : UInt8} (h : a.toNat = b.toNat) : a = b := UInt8.toNat_inj.1 h
theorem hex4_ok (l : List UInt8) (h : (hex4 l).2 = 0) : ∃ a b c d t, l = a :: b :: c :: d :: t ∧ hexB a = true ∧ hexB b = true ∧ hexB c = true ∧ hexB d = true := by
  unfold hex4 at h
  match l, h with
  | [], h => simp [hexF] at h
  | a :: l, h =>
    rw [hexF] at h
    split at h
    · rename_i ha
      match l, h with
      | [], h => simp [hexF] at h
      | b :: l, h =>
        rw [hexF] at h
        split at h
        · rename_i hb
          match l, h with
          | [], h => simp [hexF] at h
          | c :: l, h =>
            rw [hexF] at h
            split at h
            · rename_i hc
              match l, h with
              | [], h => simp [hexF] at h
              | d :: l, h =>
                rw [hexF] at h
                split at h
                · rename_i hd
                  exact ⟨a, b, c, d, l, rfl, ha, hb, hc, hd⟩
                · simp at h
            · simp at h
        · simp at h
    · simp at h
theorem hex4_0 : hex4 [] = (0, 3) := rfl
theorem hex4_1 (a : UInt8) (ha : hexB a = true) : hex4 [a] = (0, 3) := by unfold hex4; rw [hexF_step _ _ _ _ ha]; rfl
theorem hex4_2 (a b : UInt8) (ha : hexB a = true) (hb : hexB b = true) : hex4 [a, b] = (0, 3) := by unfold hex4; rw [hexF_step _ _ _ _ ha, hexF_step _ _ _ _ hb]; rfl
theorem hex4_3 (a b c : UInt8) (ha : hexB a = true) (hb : hexB b = true) (hc : hexB c = true) : hex4 [a, b, c] = (0, 3) := by unfold hex4; rw [hexF_step _ _ _ _ ha, hexF_step _ _ _ _ hb, hexF_step _ _ _ _ hc]; rfl

theorem piece_u (s : List UInt8) : pieceL (92 :: 117 :: s) = codeL (92 :: 117 :: s) := by
  rw [piece_esc _ rfl]
  unfold escL
  have e : (92 :: 117 :: s).getD 1 0 = 117 := rfl
  rw [if_neg (by simp), e, if_pos (by rfl)]
theorem code_err (s : List UInt8) (h : (hex4 s).2 ≠ 0) : pieceL (92 :: 117 :: s) = ([], 0, (hex4 s).2) := by
  rw [piece_u]
  unfold codeL
  have e2 : (92 :: 117 :: s).drop 2 = s := rfl
  rw [e2, if_pos h]
theorem piece_1 : pieceL [92] = ([], 0, 3) := by decide
theorem lowS_u (s : List UInt8) : lowS (92 :: 117 :: s) = lowT s := by
  unfold lowS
  have e : (92 :: 117 :: s).getD 1 0 = 117 := rfl
  have e0 : (92 :: 117 :: s).getD 0 0 = 92 := rfl
  have e2 : (92 :: 117 :: s).drop 2 = s := rfl
  rw [if_neg (by simp), e0, if_neg (by decide), if_neg (by simp), e, if_neg (by decide), e2]
theorem lowS_ok (l : List UInt8) (h : (lowS l).2 = 0) : ∃ s, l = 92 :: 117 :: s ∧ (hex4 s).2 = 0 := by
  match l, h with
  | [], h => simp [lowS] at h
  | [a], h =>
    unfold lowS at h
    rw [if_neg (by simp)] at h
    split at h
    · simp at h
    · simp at h
  | a :: b :: s, h =>
    have h' := h
    unfold lowS at h
    rw [if_neg (by simp)] at h
    split at h
    · simp at h
    · rename_i ha
      rw [if_neg (by simp)] at h
      split at h
      · simp at h
      · rename_i hb
        have e0 : a = 92 := byte_eq (by simpa using ha)
        have e1 : b = 117 := byte_eq (by simpa using hb)
        subst e0; subst e1
        refine ⟨s, rfl, ?_⟩
        rw [lowS_u] at h'
        unfold lowT at h'
        split at h'
        · rename_i hx; exact absurd h' hx
        · rename_i hx; simpa using hx
theorem low_err (s : List UInt8) (h : (hex4 s).2 ≠ 0) : lowS (92 :: 117 :: s) = (0, (hex4 s).2) := by
  rw [lowS_u]; unfold lowT; rw [if_pos h]
/-- A first half of a code point: what follows decides. -/
theorem code_sur (a b c d : UInt8) (s : List UInt8) (v : Nat) (hx : hex4 (a :: b :: c :: d :: s) = (v, 0)) (h1 : 55296 ≤ v) (h2 : v < 56320) :
    pieceL (92 :: 117 :: a :: b :: c :: d :: s) = if (lowS s).2 ≠ 0 then ([], 0, (lowS s).2) else (Lib.encodeRune ((65536 + (v - 55296) * 1024 + ((lowS s).1 - 56320) : Nat) : Int), 12, 0) := by
  rw [piece_u]
  unfold codeL
  have e2 : (92 :: 117 :: a :: b :: c :: d :: s).drop 2 = a :: b :: c :: d :: s := rfl
  have e6 : (92 :: 117 :: a :: b :: c :: d :: s).drop 6 = s := rfl
  rw [e2, e6, hx, if_neg (by simp), if_neg (by simp only; omega), if_neg (by simp only; omega)]

/-- What a piece is that was read well. -/
structure Well (l : List UInt8) : Prop where
  pts : ∃ r, scalar r ∧ (pieceL l).1 = Lib.encodeRune (r : Int)
  pos : 1 ≤ (pieceL l).2.1
  le : (pieceL l).2.1 ≤ l.length
  same : ∀ t, pieceL (l.take (pieceL l).2.1 ++ t) = pieceL l
  cut : ∀ j, 0 < j → j < (pieceL l).2.1 → (pieceL (l.take j)).2.2 = 3 ∨ (pieceL (l.take j)).2.2 = 6

theorem escV_small (c : UInt8) (h : escB c = true) : (escV c).toNat < 128 := by
  have : c.toNat = 34 ∨ c.toNat = 92 ∨ c.toNat = 47 ∨ c.toNat = 98 ∨ c.toNat = 102 ∨ c.toNat = 110 ∨ c.toNat = 114 ∨ c.toNat = 116 := by simpa [escB] using h
  unfold escV
  repeat' split
  all_goals first | decide | omega

theorem well_esc (c : UInt8) (t : List UInt8) (h : c.toNat ≠ 117) (h' : escB c = true) : Well (92 :: c :: t) := by
  have hp := esc_at c t h h'
  have hs := escV_small c h'
  refine ⟨⟨(escV c).toNat, .inl (by omega), ?_⟩, ?_, ?_, ?_, ?_⟩
  · rw [hp, enc_small _ hs]; simp
  · rw [hp]; simp
  · rw [hp]; simp
  · intro u; rw [hp]; exact esc_at c u h h'
  · intro j h0 h1
    rw [hp] at h1
    obtain rfl : j = 1 := by simp only at h1; omega
    left; show (pieceL [92]).2.2 = 3; rw [piece_1]
theorem well_code (a b c d : UInt8) (t : List UInt8) (v : Nat) (ha : hexB a = true) (hb : hexB b = true) (hc : hexB c = true) (hd : hexB d = true) (hx : ∀ u, hex4 (a :: b :: c :: d :: u) = (v, 0)) (hv : v < 55296 ∨ 57343 < v) (hv2 : v < 65536) : Well (92 :: 117 :: a :: b :: c :: d :: t) := by
  have hp : ∀ u, pieceL (92 :: 117 :: a :: b :: c :: d :: u) = (Lib.encodeRune (v : Int), 6, 0) := fun u => code_at _ v (hx u) hv
  refine ⟨⟨v, by unfold scalar; omega, by rw [hp]⟩, by rw [hp]; simp, by rw [hp]; simp, fun u => by rw [hp]; exact hp u, ?_⟩
  intro j h0 h1
  rw [hp] at h1
  simp only at h1
  have : j = 1 ∨ j = 2 ∨ j = 3 ∨ j = 4 ∨ j = 5 := by omega
  left
  rcases this with rfl | rfl | rfl | rfl | rfl
  · show (pieceL [92]).2.2 = 3; rw [piece_1]
  · show (pieceL (92 :: 117 :: [])).2.2 = 3
    rw [code_err _ (by rw [hex4_0]; decide), hex4_0]
  · show (pieceL (92 :: 117 :: [a])).2.2 = 3
    rw [code_err _ (by rw [hex4_1 _ ha]; decide), hex4_1 _ ha]
  · show (pieceL (92 :: 117 :: [a, b])).2.2 = 3
    rw [code_err _ (by rw [hex4_2 _ _ ha hb]; decide), hex4_2 _ _ ha hb]
  · show (pieceL (92 :: 117 :: [a, b, c])).2.2 = 3
    rw [code_err _ (by rw [hex4_3 _ _ _ ha hb hc]; decide), hex4_3 _ _ _ ha hb hc]
theorem well_sur (a b c d : UInt8) (s : List UInt8) (v : Nat) (ha : hexB a = true) (hb : hexB b = true) (hc : hexB c = true) (hd : hexB d = true) (hx : ∀ u, hex4 (a :: b :: c :: d :: u) = (v, 0)) (h1 : 55296 ≤ v) (h2 : v < 56320) (hl : (lowS s).2 = 0) : Well (92 :: 117 :: a :: b :: c :: d :: s) := by
  obtain ⟨s', rfl, hx'⟩ := lowS_ok s hl
  obtain ⟨a', b', c', d', t, rfl, ha', hb', hc', hd'⟩ := hex4_ok s' hx'
  have hr := lowS_range _ hl
  obtain ⟨u0, hu0⟩ : ∃ u0, (lowS (92 :: 117 :: a' :: b' :: c' :: d' :: t)).1 = u0 := ⟨_, rfl⟩
  rw [hu0] at hr
  have hls : ∀ u, lowS (92 :: 117 :: a' :: b' :: c' :: d' :: u) = (u0, 0) := by
    intro u
    have e : ∀ u, lowS (92 :: 117 :: a' :: b' :: c' :: d' :: u) = lowS (92 :: 117 :: a' :: b' :: c' :: d' :: t) := fun u => by
      rw [lowS_u, lowS_u]; unfold lowT; rw [hex4_at _ _ _ _ u ha' hb' hc' hd', hex4_at _ _ _ _ t ha' hb' hc' hd']
    rw [e u, ← hu0, ← hl]
  have hp : ∀ u, pieceL (92 :: 117 :: a :: b :: c :: d :: 92 :: 117 :: a' :: b' :: c' :: d' :: u) = (Lib.encodeRune ((65536 + (v - 55296) * 1024 + (u0 - 56320) : Nat) : Int), 12, 0) := fun u => by
    rw [code_sur a b c d _ v (hx _) h1 h2, hls u, if_neg (by simp)]
  have cut : ∀ s, (lowS s).2 = 3 → (pieceL (92 :: 117 :: a :: b :: c :: d :: s)).2.2 = 3 := fun s hs => by
    rw [code_sur a b c d s v (hx _) h1 h2, if_pos (by omega)]; exact hs
  refine ⟨⟨_, ?_, by rw [hp]⟩, by rw [hp]; simp, by rw [hp]; simp, fun u => by rw [hp]; exact hp u, ?_⟩
  · unfold scalar; omega
  intro j h0 h1
  rw [hp] at h1
  simp only at h1
  have : j = 1 ∨ j = 2 ∨ j = 3 ∨ j = 4 ∨ j = 5 ∨ j = 6 ∨ j = 7 ∨ j = 8 ∨ j = 9 ∨ j = 10 ∨ j = 11 := by omega
  left
  rcases this with rfl | rfl | rfl | rfl | rfl | rfl | rfl | rfl | rfl | rfl | rfl
  · show (pieceL [92]).2.2 = 3; rw [piece_1]
  · show (pieceL (92 :: 117 :: [])).2.2 = 3
    rw [code_err _ (by rw [hex4_0]; decide), hex4_0]
  · show (pieceL (92 :: 117 :: [a])).2.2 = 3
    rw [code_err _ (by rw [hex4_1 _ ha]; decide), hex4_1 _ ha]
  · show (pieceL (92 :: 117 :: [a, b])).2.2 = 3
    rw [code_err _ (by rw [hex4_2 _ _ ha hb]; decide), hex4_2 _ _ ha hb]
  · show (pieceL (92 :: 117 :: [a, b, c])).2.2 = 3
    rw [code_err _ (by rw [hex4_3 _ _ _ ha hb hc]; decide), hex4_3 _ _ _ ha hb hc]
  · exact cut [] rfl
  · exact cut [92] rfl
  · exact cut [92, 117] (by rw [low_err _ (by rw [hex4_0]; decide), hex4_0])
  · exact cut [92, 117, a'] (by rw [low_err _ (by rw [hex4_1 _ ha']; decide), hex4_1 _ ha'])
  · exact cut [92, 117, a', b'] (by rw [low_err _ (by rw [hex4_2 _ _ ha' hb']; decide), hex4_2 _ _ ha' hb'])
  · exact cut [92, 117, a', b', c'] (by rw [low_err _ (by rw [hex4_3 _ _ _ ha' hb' hc']; decide), hex4_3 _ _ _ ha' hb' hc'])
theorem well_plain (l : List UInt8) (hn : l ≠ []) (h : 32 ≤ (l.getD 0 0).toNat) (h' : (l.getD 0 0).toNat ≠ 92) (b : badD (decL l) = false) : Well l := by
  have hp := piece_good l h h' b
  obtain ⟨g1, g2, g3⟩ := dec_good l hn b
  have hpos := dec_pos l
  have hlen : (Lib.encodeRune ((decL l).1 : Int)).length = (decL l).2 := by rw [← g3, List.length_take]; omega
  have hd0 : ∀ (m : List UInt8) j, 0 < j → (l.take j ++ m).getD 0 0 = l.getD 0 0 := fun m j hj => by
    match l, hn, j, hj with
    | [], hn, _, _ => exact absurd rfl hn
    | c :: r, _, j + 1, _ => rfl
  refine ⟨⟨_, g1, by rw [hp]⟩, by rw [hp]; exact hpos, by rw [hp]; exact g2, ?_, ?_⟩
  · intro t
    have e0 := hd0 t _ hpos
    rw [hp]
    show pieceL (l.take (decL l).2 ++ t) = _
    have hd := dec_enc (decL l).1 g1 t
    have hb := enc_badD (decL l).1 g1 t
    rw [← g3] at hd hb
    rw [piece_good _ (by rw [e0]; exact h) (by rw [e0]; exact h') hb, hd]
    simp only [List.length_take]
    congr 2
    omega
  · intro j j0 j1
    rw [hp] at j1
    simp only at j1
    have e0 := hd0 [] j j0
    rw [List.append_nil] at e0
    cases hb : badD (decL (l.take j))
    · exfalso
      have hnj : l.take j ≠ [] := fun e => by
        have h5 := congrArg List.length e
        rw [List.length_take, List.length_nil] at h5
        have h6 : 0 < l.length := List.length_pos_iff.2 hn
        omega
      obtain ⟨k1, k2, k3⟩ := dec_good _ hnj hb
      have hl : (decL (l.take j)).2 ≤ j := by rw [List.length_take] at k2; omega
      rw [List.take_take, Nat.min_eq_left hl] at k3
      have e : l = Lib.encodeRune ((decL (l.take j)).1 : Int) ++ l.drop (decL (l.take j)).2 := by rw [← k3, List.take_append_drop]
      have hd := dec_enc (decL (l.take j)).1 k1 (l.drop (decL (l.take j)).2)
      rw [← e] at hd
      have : (decL l).2 = (Lib.encodeRune ((decL (l.take j)).1 : Int)).length := by rw [hd]
      rw [← k3, List.length_take] at this
      omega
    · right
      rw [piece_bad _ (by rw [e0]; exact h) (by rw [e0]; exact h') hb]

theorem well (l : List UInt8) (hn : l ≠ []) (e : (pieceL l).2.2 = 0) : Well l := by
  by_cases h1 : (l.getD 0 0).toNat < 32
  · rw [piece_low l h1] at e; simp at e
  by_cases h2 : (l.getD 0 0).toNat = 92
  · rw [piece_esc l h2] at e
    match l, hn, h2, e with
    | [], hn, _, _ => exact absurd rfl hn
    | [a], _, _, e => simp [escL] at e
    | a :: c :: t, _, h2, e =>
      have ea : a = 92 := byte_eq h2
      subst ea
      by_cases h3 : c.toNat = 117
      · have ec : c = 117 := byte_eq h3
        subst ec
        have e' : (codeL (92 :: 117 :: t)).2.2 = 0 := by rw [← piece_u, piece_esc _ rfl]; exact e
        unfold codeL at e'
        have e2 : (92 :: 117 :: t).drop 2 = t := rfl
        rw [e2] at e'
        split at e'
        · rename_i hx; exact absurd e' hx
        · rename_i hx
          obtain ⟨x, y, z, d, t, rfl, hx1, hx2, hx3, hx4⟩ := hex4_ok t (by simpa using hx)
          have hbd := hex4_bound (x :: y :: z :: d :: t)
          obtain ⟨v, hv⟩ : ∃ v, (hex4 (x :: y :: z :: d :: t)).1 = v := ⟨_, rfl⟩
          have hall : ∀ u, hex4 (x :: y :: z :: d :: u) = (v, 0) := fun u => by
            have a1 := hex4_at x y z d t hx1 hx2 hx3 hx4
            have a2 := hex4_at x y z d u hx1 hx2 hx3 hx4
            rw [a2, ← hv, a1]
          rw [hv] at e' hbd
          split at e'
          · rename_i hr; exact well_code x y z d t v hx1 hx2 hx3 hx4 hall hr hbd
          · rename_i hr
            split at e'
            · simp at e'
            · rename_i hr2
              split at e'
              · rename_i hl; exact absurd e' hl
              · rename_i hl
                have e6 : (92 :: 117 :: x :: y :: z :: d :: t).drop 6 = t := rfl
                rw [e6] at hl
                exact well_sur x y z d t v hx1 hx2 hx3 hx4 hall (by omega) (by omega) (by simpa using hl)
      · unfold escL at e
        have e1 : (92 :: c :: t).getD 1 0 = c := rfl
        rw [if_neg (by simp), e1, if_neg h3] at e
        split at e
        · rename_i hb; exact well_esc c t h3 hb
        · simp at e
  cases hb : badD (decL l)
  · exact well_plain l hn (by omega) h2 hb
  · rw [piece_bad l (by omega) h2 hb] at e; simp at e
end Go.Proofs.YtbhgfdgdbbfeoaaDoor
