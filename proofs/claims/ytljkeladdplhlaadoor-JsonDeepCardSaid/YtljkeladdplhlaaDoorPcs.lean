/-
  The pieces between two brackets, of package json, as a plain function: of a list and of an object alike.
-/
import Derived.Test.YtljkeladdplhlaaDoorBne
import Derived.Test.YtljkeladdplhlaaDoorRdv
import Derived.Deep.LoopGhost
namespace Go.Proofs.YtljkeladdplhlaaDoor
open Go.RowKit

/-- The pieces, one after the other: what they leave, how far, the error. -/
def loopP {σ : Type} (step : List UInt8 → σ → σ × Nat × Nat) (endc : Nat) : Nat → List UInt8 → σ → Nat → σ × Nat × Nat
  | 0, _, st, _ => (st, 0, 3)
  | k + 1, l, st, n =>
    if (step l st).2.2 ≠ 0 then (st, 0, (step l st).2.2)
    else match (l.drop (step l st).2.1).drop (spaceL (l.drop (step l st).2.1)) with
      | [] => (st, 0, 3)
      | c :: t =>
        if c.toNat = 44 then loopP step endc k (t.drop (spaceL t)) (step l st).1 (n + (step l st).2.1 + spaceL (l.drop (step l st).2.1) + 1 + spaceL t)
        else if c.toNat = endc then ((step l st).1, n + (step l st).2.1 + spaceL (l.drop (step l st).2.1) + 1, 0)
        else (st, 0, 5)
def piecesP {σ : Type} (step : List UInt8 → σ → σ × Nat × Nat) (endc : Nat) (l : List UInt8) (st : σ) : σ × Nat × Nat :=
  if (((l.drop 1).drop (spaceL (l.drop 1))).getD 0 0).toNat = endc then (st, 2 + spaceL (l.drop 1), 0)
  else loopP step endc (l.length + 1) ((l.drop 1).drop (spaceL (l.drop 1))) st (1 + spaceL (l.drop 1))

def stepL (rd : List UInt8 → JR) (l : List UInt8) (acc : List J) : List J × Nat × Nat := (acc ++ [(rd l).1], (rd l).2.1, (rd l).2.2)
def stepO (rd : List UInt8 → JR) (l : List UInt8) (st : List (List UInt8) × List J) : (List (List UInt8) × List J) × Nat × Nat :=
  if (unqL l).2.2 ≠ 0 then (st, 0, (unqL l).2.2)
  else if (unqL l).1 ∈ st.1 then (st, 0, 8)
  else if (colonL (l.drop (unqL l).2.1)).2 ≠ 0 then (st, 0, (colonL (l.drop (unqL l).2.1)).2)
  else ((st.1 ++ [(unqL l).1], st.2 ++ [(rd (l.drop ((unqL l).2.1 + (colonL (l.drop (unqL l).2.1)).1))).1]), (unqL l).2.1 + (colonL (l.drop (unqL l).2.1)).1 + (rd (l.drop ((unqL l).2.1 + (colonL (l.drop (unqL l).2.1)).1))).2.1, (rd (l.drop ((unqL l).2.1 + (colonL (l.drop (unqL l).2.1)).1))).2.2)

theorem loopL_is (rd : List UInt8 → JR) : ∀ (k : Nat) (l : List UInt8) (acc : List J) (n : Nat),
    (loopL rd k l acc n).2.2 = (loopP (stepL rd) 93 k l acc n).2.2 ∧ ((loopP (stepL rd) 93 k l acc n).2.2 = 0 → loopL rd k l acc n = loopP (stepL rd) 93 k l acc n) := by
  intro k
  induction k with
  | zero => intro l acc n; exact ⟨rfl, fun h => absurd (show (3 : Nat) = 0 from h) (by decide)⟩
  | succ k ih =>
    intro l acc n
    unfold loopL loopP
    have e1 : (stepL rd l acc).2.1 = (rd l).2.1 := rfl
    have e2 : (stepL rd l acc).2.2 = (rd l).2.2 := rfl
    have e3 : (stepL rd l acc).1 = acc ++ [(rd l).1] := rfl
    rw [e1, e2, e3]
    by_cases h : (rd l).2.2 ≠ 0
    · rw [if_pos h, if_pos h]; exact ⟨rfl, fun h2 => absurd h2 h⟩
    · rw [if_neg h, if_neg h]
      cases (l.drop (rd l).2.1).drop (spaceL (l.drop (rd l).2.1)) with
      | nil => exact ⟨rfl, fun h => absurd (show (3 : Nat) = 0 from h) (by decide)⟩
      | cons c t =>
        simp only
        by_cases h2 : c.toNat = 44
        · rw [if_pos h2, if_pos h2]; exact ih _ _ _
        · rw [if_neg h2, if_neg h2]
          by_cases h3 : c.toNat = 93
          · rw [if_pos h3, if_pos h3]; exact ⟨rfl, fun _ => rfl⟩
          · rw [if_neg h3, if_neg h3]; exact ⟨rfl, fun h => absurd h (Nat.succ_ne_zero _)⟩
theorem listJ_is (rd : List UInt8 → JR) (l : List UInt8) :
    ((piecesP (stepL rd) 93 l []).2.2 = 0 → listJ rd l = (.mk 5 0 [] [] (piecesP (stepL rd) 93 l []).1, (piecesP (stepL rd) 93 l []).2.1, 0)) ∧ ((piecesP (stepL rd) 93 l []).2.2 ≠ 0 → listJ rd l = jerr (piecesP (stepL rd) 93 l []).2.2) := by
  obtain ⟨h1, h2⟩ := loopL_is rd (l.length + 1) ((l.drop 1).drop (spaceL (l.drop 1))) [] (1 + spaceL (l.drop 1))
  unfold listJ piecesP
  simp only
  by_cases h : (((l.drop 1).drop (spaceL (l.drop 1))).getD 0 0).toNat = 93
  · rw [if_pos h, if_pos h]; exact ⟨fun _ => rfl, fun h => absurd rfl h⟩
  · rw [if_neg h, if_neg h, h1]
    by_cases h3 : (loopP (stepL rd) 93 (l.length + 1) ((l.drop 1).drop (spaceL (l.drop 1))) [] (1 + spaceL (l.drop 1))).2.2 = 0
    · rw [if_neg (fun hn => hn h3), h2 h3]; exact ⟨fun _ => rfl, fun h => absurd h3 h⟩
    · rw [if_pos h3]; exact ⟨fun h => absurd h h3, fun _ => rfl⟩

theorem loopO_is (rd : List UInt8 → JR) : ∀ (k : Nat) (l : List UInt8) (st : List (List UInt8) × List J) (n : Nat),
    (loopO rd k l st.1 st.2 n).2.2.2 = (loopP (stepO rd) 125 k l st n).2.2 ∧ ((loopP (stepO rd) 125 k l st n).2.2 = 0 → loopO rd k l st.1 st.2 n = ((loopP (stepO rd) 125 k l st n).1.1, (loopP (stepO rd) 125 k l st n).1.2, (loopP (stepO rd) 125 k l st n).2.1, 0)) := by
  intro k
  induction k with
  | zero => intro l st n; exact ⟨by trivial, fun h => absurd (show (3 : Nat) = 0 from h) (by decide)⟩
  | succ k ih =>
    intro l st n
    unfold loopO loopP stepO
    by_cases h : (unqL l).2.2 ≠ 0
    · simp only [if_pos h]; exact ⟨by trivial, fun h2 => absurd h2 h⟩
    · simp only [if_neg h]
      by_cases h4 : (unqL l).1 ∈ st.1
      · simp only [if_pos h4]; exact ⟨by trivial, fun h => absurd h (Nat.succ_ne_zero _)⟩
      · simp only [if_neg h4]
        by_cases h5 : (colonL (l.drop (unqL l).2.1)).2 ≠ 0
        · simp only [if_pos h5]; exact ⟨by trivial, fun h2 => absurd h2 h5⟩
        · simp only [if_neg h5]
          generalize (unqL l).1 = key
          generalize (colonL (l.drop (unqL l).2.1)).1 = m
          generalize (unqL l).2.1 = q
          generalize hu : rd (l.drop (q + m)) = p
          have e : (l.drop (q + m)).drop p.2.1 = l.drop (q + m + p.2.1) := List.drop_drop
          rw [e]
          by_cases h6 : p.2.2 ≠ 0
          · simp only [if_pos h6]; exact ⟨by trivial, fun h2 => absurd h2 h6⟩
          · simp only [if_neg h6]
            cases (l.drop (q + m + p.2.1)).drop (spaceL (l.drop (q + m + p.2.1))) with
            | nil => exact ⟨by trivial, fun h => absurd (show (3 : Nat) = 0 from h) (by decide)⟩
            | cons c t =>
              simp only
              by_cases h2 : c.toNat = 44
              · simp only [if_pos h2]
                rw [show n + (q + m + p.2.1) + spaceL (l.drop (q + m + p.2.1)) + 1 + spaceL t = n + q + m + p.2.1 + spaceL (l.drop (q + m + p.2.1)) + 1 + spaceL t by omega]
                exact ih _ (st.1 ++ [key], st.2 ++ [p.1]) _
              · simp only [if_neg h2]
                by_cases h3 : c.toNat = 125
                · simp only [if_pos h3]
                  rw [show n + (q + m + p.2.1) + spaceL (l.drop (q + m + p.2.1)) + 1 = n + q + m + p.2.1 + spaceL (l.drop (q + m + p.2.1)) + 1 by omega]
                  exact ⟨by trivial, fun _ => by trivial⟩
                · simp only [if_neg h3]; exact ⟨by trivial, fun h => absurd h (Nat.succ_ne_zero _)⟩
theorem objJ_is (rd : List UInt8 → JR) (l : List UInt8) :
    ((piecesP (stepO rd) 125 l ([], [])).2.2 = 0 → objJ rd l = (.mk 6 0 [] (piecesP (stepO rd) 125 l ([], [])).1.1 (piecesP (stepO rd) 125 l ([], [])).1.2, (piecesP (stepO rd) 125 l ([], [])).2.1, 0)) ∧ ((piecesP (stepO rd) 125 l ([], [])).2.2 ≠ 0 → objJ rd l = jerr (piecesP (stepO rd) 125 l ([], [])).2.2) := by
  obtain ⟨h1, h2⟩ := loopO_is rd (l.length + 1) ((l.drop 1).drop (spaceL (l.drop 1))) ([], []) (1 + spaceL (l.drop 1))
  unfold objJ piecesP
  simp only at h1 h2 ⊢
  by_cases h : (((l.drop 1).drop (spaceL (l.drop 1))).getD 0 0).toNat = 125
  · rw [if_pos h, if_pos h]; exact ⟨fun _ => rfl, fun h => absurd rfl h⟩
  · rw [if_neg h, if_neg h, h1]
    by_cases h3 : (loopP (stepO rd) 125 (l.length + 1) ((l.drop 1).drop (spaceL (l.drop 1))) ([], []) (1 + spaceL (l.drop 1))).2.2 = 0
    · rw [if_neg (fun hn => hn h3), h2 h3]; exact ⟨fun _ => rfl, fun h => absurd h3 h⟩
    · rw [if_pos h3]; exact ⟨fun h => absurd h h3, fun _ => rfl⟩

theorem stepL_le (rd : List UInt8 → JR) (h : ∀ l, (rd l).2.1 ≤ l.length) (l : List UInt8) (st : List J) : (stepL rd l st).2.1 ≤ l.length := h l
theorem stepO_le (rd : List UInt8 → JR) (h : ∀ l, (rd l).2.1 ≤ l.length) (l : List UInt8) (st : List (List UInt8) × List J) : (stepO rd l st).2.1 ≤ l.length := by
  unfold stepO
  split
  · exact Nat.zero_le _
  · split
    · exact Nat.zero_le _
    · split
      · exact Nat.zero_le _
      · have h0 := unqL_le l
        have h1 := colonL_le (l.drop (unqL l).2.1)
        rw [List.length_drop] at h1
        generalize (colonL (l.drop (unqL l).2.1)).1 = m at *
        have h2 := h (l.drop ((unqL l).2.1 + m))
        rw [List.length_drop] at h2
        simp only
        omega
end Go.Proofs.YtljkeladdplhlaaDoor
namespace Go.Proofs.YtljkeladdplhlaaDoor
open Go.RowKit

/-- What a call of a piece leaves. -/
def PieceRet {σ : Type} (r : Nat) (s : ByteArray) (X : List Nat) (w1 : World) (Inv : World → σ → Nat → Prop) (k a : Nat) (p : σ × Nat × Nat) (e : Ending) (w' : World) : Prop :=
  e = .returned (.int .i64 (p.2.2 : Int)) ∧ Only X w1 w' ∧ (p.2.2 = 0 → Rd w' r s (a + p.2.1) ∧ Inv w' p.1 (a + p.2.1 + k))

/-- A round's state: how far, what is left. -/
def AtRound {σ : Type} (r : Nat) (s : ByteArray) (X : List Nat) (w1 : World) (Inv : World → σ → Nat → Prop) (step : List UInt8 → σ → σ × Nat × Nat) (endn a : Nat) (p : σ × Nat × Nat) (g b : Nat) (st : σ) (w : World) : Prop :=
  Only X w1 w ∧ Rd w r s b ∧ Inv w st b ∧ ∃ n, a + n = b ∧ p = loopP step endn g (s.data.toList.drop b) st n

section
variable {σ : Type} {r : Nat} {s : ByteArray} {X : List Nat} {w1 : World} {Inv : World → σ → Nat → Prop} {step : List UInt8 → σ → σ × Nat × Nat} {endn a : Nat} {p : σ × Nat × Nat} {g b : Nat} {st : σ} {w : World}
theorem AtRound.err (h : AtRound r s X w1 Inv step endn a p (g + 1) b st w) (hx : (step (s.data.toList.drop b) st).2.2 ≠ 0) : p.2.2 = (step (s.data.toList.drop b) st).2.2 := by
  obtain ⟨_, _, _, n, _, e⟩ := h
  unfold loopP at e
  rw [if_pos hx] at e
  rw [e]
theorem AtRound.short (h : AtRound r s X w1 Inv step endn a p (g + 1) b st w) (hx : (step (s.data.toList.drop b) st).2.2 = 0) (hd : b + (step (s.data.toList.drop b) st).2.1 + spaceL (s.data.toList.drop (b + (step (s.data.toList.drop b) st).2.1)) = s.size) : p.2.2 = 3 := by
  obtain ⟨_, _, _, n, _, e⟩ := h
  unfold loopP at e
  have q1 : (s.data.toList.drop b).drop (step (s.data.toList.drop b) st).2.1 = s.data.toList.drop (b + (step (s.data.toList.drop b) st).2.1) := List.drop_drop
  rw [if_neg (fun hn => hn hx), q1, List.drop_drop, hd, List.drop_eq_nil_of_le (by simp)] at e
  rw [e]
theorem AtRound.step_ (h : AtRound r s X w1 Inv step endn a p (g + 1) b st w) (hx : (step (s.data.toList.drop b) st).2.2 = 0) {d : Nat} (hd : b + (step (s.data.toList.drop b) st).2.1 + spaceL (s.data.toList.drop (b + (step (s.data.toList.drop b) st).2.1)) = d) (hlt : d < s.size) :
    ((s[d]'hlt).toNat ≠ 44 → (s[d]'hlt).toNat ≠ endn → p.2.2 = 5) ∧ ((s[d]'hlt).toNat ≠ 44 → (s[d]'hlt).toNat = endn → p.2.2 = 0 ∧ p.1 = (step (s.data.toList.drop b) st).1 ∧ a + p.2.1 = d + 1) ∧
    ((s[d]'hlt).toNat = 44 → ∀ w', Only X w1 w' → Rd w' r s (d + 1 + spaceL (s.data.toList.drop (d + 1))) → Inv w' (step (s.data.toList.drop b) st).1 (d + 1 + spaceL (s.data.toList.drop (d + 1))) → AtRound r s X w1 Inv step endn a p g (d + 1 + spaceL (s.data.toList.drop (d + 1))) (step (s.data.toList.drop b) st).1 w') := by
  obtain ⟨_, _, _, n, hn, e⟩ := h
  unfold loopP at e
  have q1 : (s.data.toList.drop b).drop (step (s.data.toList.drop b) st).2.1 = s.data.toList.drop (b + (step (s.data.toList.drop b) st).2.1) := List.drop_drop
  rw [if_neg (fun hn => hn hx), q1, List.drop_drop, hd, drop_at s d hlt] at e
  simp only at e
  refine ⟨fun h1 h2 => ?_, fun h1 h2 => ?_, fun h1 w' o' r' i' => ?_⟩
  · rw [if_neg h1, if_neg h2] at e; rw [e]
  · rw [if_neg h1, if_pos h2] at e
    rw [e]
    exact ⟨rfl, rfl, by simp only; omega⟩
  · rw [if_pos h1, List.drop_drop] at e
    exact ⟨o', r', i', _, by omega, e⟩
end

theorem ByteArray_len (s : ByteArray) : s.data.toList.length = s.size := by simp
set_option maxHeartbeats 8000000 in
set_option maxRecDepth 100000 in
theorem pieces_any {σ : Type} (r : Nat) (s : ByteArray) (a : Nat) (X : List Nat) (w1 : World) (fid : Nat) (cs : Array Value) (endn : Nat) (ec : Int) (Inv : World → σ → Nat → Prop) (step : List UInt8 → σ → σ × Nat × Nat) (st0 : σ) (w : World)
    (h : Rd w r s a) (hlt : a < s.size) (hs : s.size ≤ 100000) (hX : r ∈ X) (ho : Only X w1 w) (hi : Inv w st0 a) (hec : ec = (endn : Int)) (he44 : endn ≠ 44) (he0 : endn ≠ 0)
    (eg : ∀ w, (callFunc fid cs).run Tryd.prog w = .ok (.enter fid cs) w)
    (turn : ∀ w w' st b c, Inv w st b → b ≤ c → Only [r] w w' → Inv w' st c) (le : ∀ l st, (step l st).2.1 ≤ l.length)
    (call : ∀ w st b, b ≤ s.size → Only X w1 w → Rd w r s b → Inv w st b → Calls Tryd.prog fid cs w (PieceRet r s X w1 Inv 1 b (step (s.data.toList.drop b) st))) :
    Calls Tryd.prog 80 #[.pointer (some ⟨r, 0, none⟩), .int .u8 ec, .func (.func fid) #[] cs] w (PieceRet r s X w1 Inv 0 a (piecesP step endn (s.data.toList.drop a) st0)) := by
  have cC := Lib.hid call
  have cT := Lib.hid turn
  have cL := Lib.hid le
  have hsp1 := spaceL_le (s.data.toList.drop (a + 1))
  have hll1 : (s.data.toList.drop (a + 1)).length = s.size - (a + 1) := by simp
  have cS := Lib.hid (fun a w1 h1 h2 => skip_any r s a w1 h1 h2 (by omega))
  have cE := Lib.hid (fun a w1 h1 => ended_any r s a w1 h1)
  have HO := Lib.hid ho
  have HI := Lib.hid hi
  have HH := Lib.hid h
  have HX := Lib.hid (show ∀ i, i ∈ [r] → i ∈ X from fun i hi => by simp at hi; exact hi ▸ hX)
  have c1 := h.at
  have f1 := h.free
  have hdd : ((s.data.toList.drop a).drop 1) = s.data.toList.drop (a + 1) := List.drop_drop
  have hlen : (s.data.toList.drop a).length = s.size - a := by simp
  unfold piecesP
  rw [hdd, List.drop_drop]
  rw [hlen]
  obtain ⟨m, hm⟩ : ∃ m, spaceL (s.data.toList.drop (a + 1)) = m := ⟨_, rfl⟩
  have HM := Lib.hid hm
  rw [hm] at hsp1 ⊢
  obtain ⟨b, hb⟩ : ∃ b, a + 1 + m = b := ⟨_, rfl⟩
  have HB := Lib.hid hb
  rw [hb]
  have hbs : b ≤ s.size := by omega
  have hab : a ≤ b := by omega
  have hec' : Hid (ec = (endn : Int)) := Lib.hid hec
  clear call turn le h ho hi hX hdd hm hlen hsp1 hll1 hec
  by_cases hq : b < s.size ∧ ((s.data.toList.drop b).getD 0 0).toNat = endn
  · obtain ⟨hbl, hq⟩ := hq
    rw [if_pos hq]
    rw [drop_at s b hbl] at hq
    have hq' : (s[b]'hbl).toNat = endn := hq
    have fE : ((b : Int) == (s.size : Int)) = false := by simp; omega
    have cF : Hid (∀ wx, Rd wx r s b → Calls Tryd.prog 49 #[.pointer (some ⟨r, 0, none⟩)] wx (fun e w' => e = .returned (.bool false) ∧ ∃ k, w' = wx.drewN k)) := Lib.hid (fun wx hx => by have := cE.out b wx hx; rwa [fE] at this)
    clear fE
    have f2 : (((s[b]'hbl).toNat : Int) == ec) = true := by rw [hec'.out]; simp; omega
    have q0 : (0 : Int) ≤ (b : Int) := by omega
    have q1 : (b : Int) < (s.size : Int) := by omega
    have q2 : (b : Int).toNat = b := by omega
    have hb' : b = a + 1 + m := hb.symm
    have HB2 := Lib.hid hb'
    clear hq hq' hb hb'
    go_enter Tryd.func80, Tryd.ntmps80
    go_wp2_with fail
    refine (cS.out (a + 1) _ (HH.out.putI (by omega)) (by omega)).mono ?_
    rintro e w2 ⟨rfl, hr2, ho2⟩
    rw [HM.out, HB.out] at hr2
    have R2 := Lib.hid hr2
    have O2 := Lib.hid ((HO.out.set _ (.inl (HX.out _ (List.mem_singleton.2 rfl))) _).trans (ho2.mono HX.out))
    have I2 : Hid (Inv w2 st0 b) := Lib.hid (cT.out _ _ _ _ _ HI.out hab (((Only.refl [r] w).set _ (.inl (List.mem_singleton.2 rfl)) _).trans ho2))
    have c0 := hr2.text
    have c1 := hr2.at
    have f1 := hr2.free
    clear ho2 hr2
    go_wp2
    go_quiet ((go_at_call 49; exact Calls.quiet_of (cF.out _ R2.out)))
    have R3 : Hid (Rd (w2.drewN nq) r s b) := Lib.hid R2.out
    have O3 : Hid (Only X w1 (w2.drewN nq)) := Lib.hid (O2.out.drewN nq)
    have I3 : Hid (Inv (w2.drewN nq) st0 b) := Lib.hid (cT.out _ _ _ _ _ I2.out (Nat.le_refl _) ((Only.refl [r] w2).drewN nq))
    clear c0 c1 f1 R2 O2 I2
    generalize w2.drewN nq = w3 at *
    have c1 := R3.out.at
    have f1 := R3.out.free
    go_wp2
    go_ret
    have hbo := HB2.out
    exact ⟨rfl, O3.out.set _ (.inl (HX.out _ (List.mem_singleton.2 rfl))) _, fun _ => ⟨by rw [show a + (2 + m) = b + 1 by omega]; exact R3.out.putI (by omega), cT.out _ _ _ _ _ I3.out (by show b ≤ a + (2 + m) + 0; omega) ((Only.refl [r] w3).set _ (.inl (List.mem_singleton.2 rfl)) _)⟩⟩
  · have hnq : ¬ ((s.data.toList.drop b).getD 0 0).toNat = endn := fun e => hq ⟨by
      rcases Nat.lt_or_ge b s.size with h | h
      · exact h
      · rw [List.drop_eq_nil_of_le (by simp; omega)] at e
        exact absurd e.symm he0, e⟩
    rw [if_neg hnq]
    obtain ⟨P, hP⟩ : ∃ P, loopP step endn (s.size - a + 1) (s.data.toList.drop b) st0 (1 + m) = P := ⟨_, rfl⟩
    rw [hP]
    have HP := Lib.hid hP
    clear hq hP
    by_cases hbl : b < s.size
    · have fE : ((b : Int) == (s.size : Int)) = false := by simp; omega
      have cF : Hid (∀ wx, Rd wx r s b → Calls Tryd.prog 49 #[.pointer (some ⟨r, 0, none⟩)] wx (fun e w' => e = .returned (.bool false) ∧ ∃ k, w' = wx.drewN k)) := Lib.hid (fun wx hx => by have := cE.out b wx hx; rwa [fE] at this)
      clear fE
      have f2 : (((s[b]'hbl).toNat : Int) == ec) = false := by
        rw [drop_at s b hbl] at hnq
        have : (s[b]'hbl).toNat ≠ endn := hnq
        rw [hec'.out]; simp; omega
      have q0 : (0 : Int) ≤ (b : Int) := by omega
      have q1 : (b : Int) < (s.size : Int) := by omega
      have q2 : (b : Int).toNat = b := by omega
      have hb' : b = a + 1 + m := hb.symm
      have HB2 := Lib.hid hb'
      clear hnq hb hb'
      go_enter Tryd.func80, Tryd.ntmps80
      go_wp2_with fail
      refine (cS.out (a + 1) _ (HH.out.putI (by omega)) (by omega)).mono ?_
      rintro e w2 ⟨rfl, hr2, ho2⟩
      rw [HM.out, HB.out] at hr2
      have R2 := Lib.hid hr2
      have O2 := Lib.hid ((HO.out.set _ (.inl (HX.out _ (List.mem_singleton.2 rfl))) _).trans (ho2.mono HX.out))
      have I2 : Hid (Inv w2 st0 b) := Lib.hid (cT.out _ _ _ _ _ HI.out hab (((Only.refl [r] w).set _ (.inl (List.mem_singleton.2 rfl)) _).trans ho2))
      have c0 := hr2.text
      have c1 := hr2.at
      have f1 := hr2.free
      clear ho2 hr2
      go_wp2
      go_quiet ((go_at_call 49; exact Calls.quiet_of (cF.out _ R2.out)))
      have R3 : Hid (Rd (w2.drewN nq) r s b) := Lib.hid R2.out
      have O3 : Hid (Only X w1 (w2.drewN nq)) := Lib.hid (O2.out.drewN nq)
      have I3 : Hid (Inv (w2.drewN nq) st0 b) := Lib.hid (cT.out _ _ _ _ _ I2.out (Nat.le_refl _) ((Only.refl [r] w2).drewN nq))
      clear c0 c1 f1 R2 O2 I2 f2 cF
      generalize w2.drewN nq = w3 at *
      have H0 : Hid (AtRound r s X w1 Inv step endn a P (s.size - a + 1) b st0 w3) := Lib.hid ⟨O3.out, R3.out, I3.out, 1 + m, by have := HB2.out; omega, HP.out.symm⟩
      have hba : s.size - b < s.size - a + 1 := by have := HB2.out; omega
      clear HP R3 O3 I3
      clear HB2
      go_wp2
      go_loopg [7] (s.size - a + 1) (fun g _ wr => ∃ (st : σ) (c : Nat), c ≤ s.size ∧ s.size - c < g ∧ Hid (AtRound r s X w1 Inv step endn a P g c st wr))
      case atStart => exact ⟨st0, b, by omega, by omega, H0⟩
      case round =>
        obtain ⟨st, c, hc, hg, HR⟩ := hrel
        clear H0 hba hbs
        cases gk with
        | zero => omega
        | succ g =>
          have cc := Lib.hid (cC.out wr st c hc HR.out.1 HR.out.2.1 HR.out.2.2.1)
          have hle := cL.out (s.data.toList.drop c) st
          have e1 := Lib.hid (HR.out.err)
          have e2 := Lib.hid (HR.out.short)
          have e3 := Lib.hid (fun hx d hd hlt => HR.out.step_ hx (d := d) hd hlt)
          obtain ⟨E, hE⟩ : ∃ E, step (s.data.toList.drop c) st = E := ⟨_, rfl⟩
          rw [hE] at cc hle e1 e2 e3
          obtain ⟨E1, p1, x⟩ := E
          have hcl : (s.data.toList.drop c).length = s.size - c := by simp
          rw [hcl] at hle
          simp only at hle
          clear hE hcl HR
          by_cases hx : x = 0
          · subst hx
            go_wp2_with fail
            refine cc.out.mono ?_
            rintro e w2 ⟨rfl, ho2, hk2⟩
            have R2 := Lib.hid (hk2 rfl).1
            have I2 := Lib.hid (hk2 rfl).2
            have O2 := Lib.hid ho2
            clear ho2 hk2 cc e1
            go_wp2_with fail
            refine (cS.out (c + p1) _ R2.out (by omega)).mono ?_
            rintro e w3 ⟨rfl, hr3, ho3⟩
            have hsp := spaceL_le (s.data.toList.drop (c + p1))
            rw [List.length_drop, ByteArray_len] at hsp
            obtain ⟨d, hd⟩ : ∃ d, c + p1 + spaceL (s.data.toList.drop (c + p1)) = d := ⟨_, rfl⟩
            rw [hd] at hr3
            have hcd2 : c + p1 ≤ d := by omega
            have hds : d ≤ s.size := by omega
            have hcd : c ≤ d := by omega
            have R3 := Lib.hid hr3
            have O3 := Lib.hid (O2.out.trans (ho3.mono HX.out))
            have I3 : Hid (Inv w3 E1 (d + 1)) := Lib.hid (cT.out _ _ _ _ _ I2.out (by show c + p1 + 1 ≤ d + 1; omega) ho3)
            have HD := Lib.hid hd
            clear hr3 ho3 R2 O2 I2 hd hsp
            go_wp2_with fail
            refine (cE.out d _ R3.out).mono ?_
            rintro e w4 ⟨rfl, kk, hw4⟩
            have R4 : Hid (Rd w4 r s d) := Lib.hid (by rw [hw4]; exact R3.out)
            have O4 : Hid (Only X w1 w4) := Lib.hid (by rw [hw4]; exact O3.out.drewN kk)
            have I4 : Hid (Inv w4 E1 (d + 1)) := Lib.hid (by rw [hw4]; exact cT.out _ _ _ _ _ I3.out (Nat.le_refl _) ((Only.refl [r] w3).drewN kk))
            clear hw4 R3 O3 I3
            by_cases hdl : d < s.size
            · obtain ⟨h1, h2, h3⟩ := e3.out (by trivial) d HD.out hdl
              have h1 := Lib.hid h1
              have h2 := Lib.hid h2
              have h3 := Lib.hid h3
              have fE : ((d : Int) == (s.size : Int)) = false := by simp; omega
              rw [fE]
              have q0 : (0 : Int) ≤ (d : Int) := by omega
              have q1 : (d : Int) < (s.size : Int) := by omega
              have q2 : (d : Int).toNat = d := by omega
              have c0 := R4.out.text
              have c1 := R4.out.at
              clear e2 e3 fE
              by_cases h44 : (s[d]'hdl).toNat = 44
              · have f3 : (((s[d]'hdl).toNat : Int) != 44) = false := by simp; omega
                have f4 : (((s[d]'hdl).toNat : Int) == ec) = false := by rw [hec'.out]; simp; omega
                have h3 := Lib.hid (h3.out h44)
                clear h44 h1 h2
                go_wp2
                go_quiet (fail)
                have R5 : Hid (Rd (w4.drewN nq) r s d) := Lib.hid R4.out
                have O5 : Hid (Only X w1 (w4.drewN nq)) := Lib.hid (O4.out.drewN nq)
                have I5 : Hid (Inv (w4.drewN nq) E1 (d + 1)) := Lib.hid (cT.out _ _ _ _ _ I4.out (Nat.le_refl _) ((Only.refl [r] w4).drewN nq))
                clear c0 c1 R4 O4 I4
                generalize w4.drewN nq = w5 at *
                have c1 := R5.out.at
                have f1 := R5.out.free
                go_wp2_with fail
                refine (cS.out (d + 1) _ (R5.out.putI (by omega)) (by omega)).mono ?_
                rintro e w6 ⟨rfl, hr6, ho6⟩
                have hsp := spaceL_le (s.data.toList.drop (d + 1))
                rw [List.length_drop, ByteArray_len] at hsp
                have hrel2 := h3.out w6 ((O5.out.set _ (.inl (HX.out _ (List.mem_singleton.2 rfl))) _).trans (ho6.mono HX.out)) hr6 (cT.out _ _ _ _ _ I5.out (Nat.le_add_right _ _) (((Only.refl [r] w5).set _ (.inl (List.mem_singleton.2 rfl)) _).trans ho6))
                have HR2 := Lib.hid hrel2
                obtain ⟨dd, hdd⟩ : ∃ dd, d + 1 + spaceL (s.data.toList.drop (d + 1)) = dd := ⟨_, rfl⟩
                rw [hdd] at HR2
                have hdd1 : d < dd := by omega
                have hdd2 : dd ≤ s.size := by omega
                clear hsp hrel2 hr6 ho6 c1 f1 f3 f4 h3 hdd
                go_wp2
                go_roundg g
                case measure => omega
                case rel => exact ⟨E1, dd, by omega, by omega, HR2⟩
              · have f3 : (((s[d]'hdl).toNat : Int) != 44) = true := by simp; omega
                by_cases hen : (s[d]'hdl).toNat = endn
                · have f4 : (((s[d]'hdl).toNat : Int) != ec) = false := by rw [hec'.out]; simp; omega
                  have f5 : (((s[d]'hdl).toNat : Int) == ec) = true := by rw [hec'.out]; simp; omega
                  have h2 := Lib.hid (h2.out h44 hen)
                  clear h44 hen h1 h3
                  go_wp2
                  go_quiet (fail)
                  have R5 : Hid (Rd (w4.drewN nq) r s d) := Lib.hid R4.out
                  have O5 : Hid (Only X w1 (w4.drewN nq)) := Lib.hid (O4.out.drewN nq)
                  have I5 : Hid (Inv (w4.drewN nq) E1 (d + 1)) := Lib.hid (cT.out _ _ _ _ _ I4.out (Nat.le_refl _) ((Only.refl [r] w4).drewN nq))
                  clear c0 c1 R4 O4 I4
                  generalize w4.drewN nq = w5 at *
                  have c1 := R5.out.at
                  have f1 := R5.out.free
                  go_wp2
                  go_ret
                  obtain ⟨g1, g2, g3⟩ := h2.out
                  exact ⟨by rw [g1]; rfl, O5.out.set _ (.inl (HX.out _ (List.mem_singleton.2 rfl))) _, fun _ => ⟨by rw [g3]; exact R5.out.putI (by omega), by rw [g2, g3]; exact cT.out _ _ _ _ _ I5.out (Nat.le_refl _) ((Only.refl [r] w5).set _ (.inl (List.mem_singleton.2 rfl)) _)⟩⟩
                · have f4 : (((s[d]'hdl).toNat : Int) != ec) = true := by rw [hec'.out]; simp; omega
                  have h1 := Lib.hid (h1.out h44 hen)
                  clear h44 hen h2 h3
                  go_wp2
                  go_quiet (fail)
                  go_wp2
                  go_ret
                  exact ⟨by rw [h1.out]; rfl, O4.out.drewN _, fun h => absurd (h1.out.symm.trans h) (by decide)⟩
            · obtain rfl : d = s.size := by omega
              have h2 := Lib.hid (e2.out (by trivial) HD.out)
              have fE : ((s.size : Int) == (s.size : Int)) = true := by simp
              rw [fE]
              clear e2 e3 fE
              go_wp2
              go_ret
              exact ⟨by rw [h2.out]; rfl, O4.out, fun h => absurd (h2.out.symm.trans h) (by decide)⟩
          · have f9 : ((x : Int) != 0) = true := by simp; omega
            have h1 := Lib.hid (e1.out hx)
            have hx' := Lib.hid hx
            clear e1 e2 e3 hx
            go_wp2_with fail
            refine cc.out.mono ?_
            rintro e w2 ⟨rfl, ho2, hk2⟩
            have O2 := Lib.hid ho2
            clear ho2 hk2 cc
            go_wp2
            go_ret
            exact ⟨by rw [h1.out]; rfl, O2.out, fun h => absurd (h1.out.symm.trans h) hx'.out⟩
    · obtain rfl : b = s.size := by omega
      have fE : ((s.size : Int) == (s.size : Int)) = true := by simp
      have cF : Hid (∀ wx, Rd wx r s s.size → Calls Tryd.prog 49 #[.pointer (some ⟨r, 0, none⟩)] wx (fun e w' => e = .returned (.bool true) ∧ ∃ k, w' = wx.drewN k)) := Lib.hid (fun wx hx => by have := cE.out s.size wx hx; rwa [fE] at this)
      clear fE hnq hb
      go_enter Tryd.func80, Tryd.ntmps80
      go_wp2_with fail
      refine (cS.out (a + 1) _ (HH.out.putI (by omega)) (by omega)).mono ?_
      rintro e w2 ⟨rfl, hr2, ho2⟩
      rw [HM.out, HB.out] at hr2
      have R2 := Lib.hid hr2
      have O2 := Lib.hid ((HO.out.set _ (.inl (HX.out _ (List.mem_singleton.2 rfl))) _).trans (ho2.mono HX.out))
      have I2 : Hid (Inv w2 st0 s.size) := Lib.hid (cT.out _ _ _ _ _ HI.out hab (((Only.refl [r] w).set _ (.inl (List.mem_singleton.2 rfl)) _).trans ho2))
      have c0 := hr2.text
      have c1 := hr2.at
      have f1 := hr2.free
      clear ho2 hr2
      go_wp2
      go_quiet ((go_at_call 49; exact Calls.quiet_of (cF.out _ R2.out)))
      have R3 : Hid (Rd (w2.drewN nq) r s s.size) := Lib.hid R2.out
      have O3 : Hid (Only X w1 (w2.drewN nq)) := Lib.hid (O2.out.drewN nq)
      have I3 : Hid (Inv (w2.drewN nq) st0 s.size) := Lib.hid (cT.out _ _ _ _ _ I2.out (Nat.le_refl _) ((Only.refl [r] w2).drewN nq))
      clear c0 c1 f1 R2 O2 I2 cF
      generalize w2.drewN nq = w3 at *
      have H0 : Hid (AtRound r s X w1 Inv step endn a P (s.size - a + 1) s.size st0 w3) := Lib.hid ⟨O3.out, R3.out, I3.out, 1 + m, by have := HB.out; omega, HP.out.symm⟩
      have hba : s.size - s.size < s.size - a + 1 := by omega
      clear HP R3 O3 I3
      go_wp2
      go_loopg [7] (s.size - a + 1) (fun g _ wr => ∃ (st : σ) (c : Nat), c ≤ s.size ∧ s.size - c < g ∧ Hid (AtRound r s X w1 Inv step endn a P g c st wr))
      case atStart => exact ⟨st0, s.size, by omega, by omega, H0⟩
      case round =>
        obtain ⟨st, c, hc, hg, HR⟩ := hrel
        clear H0 hba hbs
        cases gk with
        | zero => omega
        | succ g =>
          have cc := Lib.hid (cC.out wr st c hc HR.out.1 HR.out.2.1 HR.out.2.2.1)
          have hle := cL.out (s.data.toList.drop c) st
          have e1 := Lib.hid (HR.out.err)
          have e2 := Lib.hid (HR.out.short)
          have e3 := Lib.hid (fun hx d hd hlt => HR.out.step_ hx (d := d) hd hlt)
          obtain ⟨E, hE⟩ : ∃ E, step (s.data.toList.drop c) st = E := ⟨_, rfl⟩
          rw [hE] at cc hle e1 e2 e3
          obtain ⟨E1, p1, x⟩ := E
          have hcl : (s.data.toList.drop c).length = s.size - c := by simp
          rw [hcl] at hle
          simp only at hle
          clear hE hcl HR
          by_cases hx : x = 0
          · subst hx
            go_wp2_with fail
            refine cc.out.mono ?_
            rintro e w2 ⟨rfl, ho2, hk2⟩
            have R2 := Lib.hid (hk2 rfl).1
            have I2 := Lib.hid (hk2 rfl).2
            have O2 := Lib.hid ho2
            clear ho2 hk2 cc e1
            go_wp2_with fail
            refine (cS.out (c + p1) _ R2.out (by omega)).mono ?_
            rintro e w3 ⟨rfl, hr3, ho3⟩
            have hsp := spaceL_le (s.data.toList.drop (c + p1))
            rw [List.length_drop, ByteArray_len] at hsp
            obtain ⟨d, hd⟩ : ∃ d, c + p1 + spaceL (s.data.toList.drop (c + p1)) = d := ⟨_, rfl⟩
            rw [hd] at hr3
            have hcd2 : c + p1 ≤ d := by omega
            have hds : d ≤ s.size := by omega
            have hcd : c ≤ d := by omega
            have R3 := Lib.hid hr3
            have O3 := Lib.hid (O2.out.trans (ho3.mono HX.out))
            have I3 : Hid (Inv w3 E1 (d + 1)) := Lib.hid (cT.out _ _ _ _ _ I2.out (by show c + p1 + 1 ≤ d + 1; omega) ho3)
            have HD := Lib.hid hd
            clear hr3 ho3 R2 O2 I2 hd hsp
            go_wp2_with fail
            refine (cE.out d _ R3.out).mono ?_
            rintro e w4 ⟨rfl, kk, hw4⟩
            have R4 : Hid (Rd w4 r s d) := Lib.hid (by rw [hw4]; exact R3.out)
            have O4 : Hid (Only X w1 w4) := Lib.hid (by rw [hw4]; exact O3.out.drewN kk)
            have I4 : Hid (Inv w4 E1 (d + 1)) := Lib.hid (by rw [hw4]; exact cT.out _ _ _ _ _ I3.out (Nat.le_refl _) ((Only.refl [r] w3).drewN kk))
            clear hw4 R3 O3 I3
            by_cases hdl : d < s.size
            · obtain ⟨h1, h2, h3⟩ := e3.out (by trivial) d HD.out hdl
              have h1 := Lib.hid h1
              have h2 := Lib.hid h2
              have h3 := Lib.hid h3
              have fE : ((d : Int) == (s.size : Int)) = false := by simp; omega
              rw [fE]
              have q0 : (0 : Int) ≤ (d : Int) := by omega
              have q1 : (d : Int) < (s.size : Int) := by omega
              have q2 : (d : Int).toNat = d := by omega
              have c0 := R4.out.text
              have c1 := R4.out.at
              clear e2 e3 fE
              by_cases h44 : (s[d]'hdl).toNat = 44
              · have f3 : (((s[d]'hdl).toNat : Int) != 44) = false := by simp; omega
                have f4 : (((s[d]'hdl).toNat : Int) == ec) = false := by rw [hec'.out]; simp; omega
                have h3 := Lib.hid (h3.out h44)
                clear h44 h1 h2
                go_wp2
                go_quiet (fail)
                have R5 : Hid (Rd (w4.drewN nq) r s d) := Lib.hid R4.out
                have O5 : Hid (Only X w1 (w4.drewN nq)) := Lib.hid (O4.out.drewN nq)
                have I5 : Hid (Inv (w4.drewN nq) E1 (d + 1)) := Lib.hid (cT.out _ _ _ _ _ I4.out (Nat.le_refl _) ((Only.refl [r] w4).drewN nq))
                clear c0 c1 R4 O4 I4
                generalize w4.drewN nq = w5 at *
                have c1 := R5.out.at
                have f1 := R5.out.free
                go_wp2_with fail
                refine (cS.out (d + 1) _ (R5.out.putI (by omega)) (by omega)).mono ?_
                rintro e w6 ⟨rfl, hr6, ho6⟩
                have hsp := spaceL_le (s.data.toList.drop (d + 1))
                rw [List.length_drop, ByteArray_len] at hsp
                have hrel2 := h3.out w6 ((O5.out.set _ (.inl (HX.out _ (List.mem_singleton.2 rfl))) _).trans (ho6.mono HX.out)) hr6 (cT.out _ _ _ _ _ I5.out (Nat.le_add_right _ _) (((Only.refl [r] w5).set _ (.inl (List.mem_singleton.2 rfl)) _).trans ho6))
                have HR2 := Lib.hid hrel2
                obtain ⟨dd, hdd⟩ : ∃ dd, d + 1 + spaceL (s.data.toList.drop (d + 1)) = dd := ⟨_, rfl⟩
                rw [hdd] at HR2
                have hdd1 : d < dd := by omega
                have hdd2 : dd ≤ s.size := by omega
                clear hsp hrel2 hr6 ho6 c1 f1 f3 f4 h3 hdd
                go_wp2
                go_roundg g
                case measure => omega
                case rel => exact ⟨E1, dd, by omega, by omega, HR2⟩
              · have f3 : (((s[d]'hdl).toNat : Int) != 44) = true := by simp; omega
                by_cases hen : (s[d]'hdl).toNat = endn
                · have f4 : (((s[d]'hdl).toNat : Int) != ec) = false := by rw [hec'.out]; simp; omega
                  have f5 : (((s[d]'hdl).toNat : Int) == ec) = true := by rw [hec'.out]; simp; omega
                  have h2 := Lib.hid (h2.out h44 hen)
                  clear h44 hen h1 h3
                  go_wp2
                  go_quiet (fail)
                  have R5 : Hid (Rd (w4.drewN nq) r s d) := Lib.hid R4.out
                  have O5 : Hid (Only X w1 (w4.drewN nq)) := Lib.hid (O4.out.drewN nq)
                  have I5 : Hid (Inv (w4.drewN nq) E1 (d + 1)) := Lib.hid (cT.out _ _ _ _ _ I4.out (Nat.le_refl _) ((Only.refl [r] w4).drewN nq))
                  clear c0 c1 R4 O4 I4
                  generalize w4.drewN nq = w5 at *
                  have c1 := R5.out.at
                  have f1 := R5.out.free
                  go_wp2
                  go_ret
                  obtain ⟨g1, g2, g3⟩ := h2.out
                  exact ⟨by rw [g1]; rfl, O5.out.set _ (.inl (HX.out _ (List.mem_singleton.2 rfl))) _, fun _ => ⟨by rw [g3]; exact R5.out.putI (by omega), by rw [g2, g3]; exact cT.out _ _ _ _ _ I5.out (Nat.le_refl _) ((Only.refl [r] w5).set _ (.inl (List.mem_singleton.2 rfl)) _)⟩⟩
                · have f4 : (((s[d]'hdl).toNat : Int) != ec) = true := by rw [hec'.out]; simp; omega
                  have h1 := Lib.hid (h1.out h44 hen)
                  clear h44 hen h2 h3
                  go_wp2
                  go_quiet (fail)
                  go_wp2
                  go_ret
                  exact ⟨by rw [h1.out]; rfl, O4.out.drewN _, fun h => absurd (h1.out.symm.trans h) (by decide)⟩
            · obtain rfl : d = s.size := by omega
              have h2 := Lib.hid (e2.out (by trivial) HD.out)
              have fE : ((s.size : Int) == (s.size : Int)) = true := by simp
              rw [fE]
              clear e2 e3 fE
              go_wp2
              go_ret
              exact ⟨by rw [h2.out]; rfl, O4.out, fun h => absurd (h2.out.symm.trans h) (by decide)⟩
          · have f9 : ((x : Int) != 0) = true := by simp; omega
            have h1 := Lib.hid (e1.out hx)
            have hx' := Lib.hid hx
            clear e1 e2 e3 hx
            go_wp2_with fail
            refine cc.out.mono ?_
            rintro e w2 ⟨rfl, ho2, hk2⟩
            have O2 := Lib.hid ho2
            clear ho2 hk2 cc
            go_wp2
            go_ret
            exact ⟨by rw [h1.out]; rfl, O2.out, fun h => absurd (h1.out.symm.trans h) hx'.out⟩
end Go.Proofs.YtljkeladdplhlaaDoor
