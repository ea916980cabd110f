/-
  How many values a text may hold; what Parse answers, of package json, as plain functions.
-/
import Derived.Test.YtljkeladdplhlaaDoorDep
namespace Go.Proofs.YtljkeladdplhlaaDoor
open Go.RowKit

theorem loopP_grow {σ : Type} (step : List UInt8 → σ → σ × Nat × Nat) (endc : Nat) (φ : σ → Nat) (h : ∀ l st, (step l st).2.2 = 0 → φ (step l st).1 ≤ φ st + (step l st).2.1 + 1) :
    ∀ (k : Nat) (l : List UInt8) (st : σ) (n : Nat), (loopP step endc k l st n).2.2 = 0 → φ (loopP step endc k l st n).1 + n ≤ φ st + (loopP step endc k l st n).2.1 := by
  intro k
  induction k with
  | zero => intro l st n e; exact absurd e (by simp [loopP])
  | succ k ih =>
    intro l st n
    unfold loopP
    by_cases h0 : (step l st).2.2 ≠ 0
    · rw [if_pos h0]; intro e; exact absurd e h0
    · rw [if_neg h0]
      have h1 := h l st (Classical.not_not.1 h0)
      cases (l.drop (step l st).2.1).drop (spaceL (l.drop (step l st).2.1)) with
      | nil => intro e; exact absurd e (by simp)
      | cons c t =>
        simp only
        by_cases h2 : c.toNat = 44
        · rw [if_pos h2]
          intro e
          have := ih _ _ _ e
          omega
        · rw [if_neg h2]
          by_cases h3 : c.toNat = endc
          · rw [if_pos h3]; intro _; simp only; omega
          · rw [if_neg h3]; intro e; exact absurd e (by simp)
theorem piecesP_grow {σ : Type} (step : List UInt8 → σ → σ × Nat × Nat) (endc : Nat) (φ : σ → Nat) (h : ∀ l st, (step l st).2.2 = 0 → φ (step l st).1 ≤ φ st + (step l st).2.1 + 1) (l : List UInt8) (st : σ) (e : (piecesP step endc l st).2.2 = 0) :
    φ (piecesP step endc l st).1 + 1 ≤ φ st + (piecesP step endc l st).2.1 := by
  unfold piecesP at e ⊢
  split
  · simp only; omega
  · rename_i hne
    rw [if_neg hne] at e
    have := loopP_grow step endc φ h _ _ _ _ e
    omega
theorem nodesL_snoc (l : List J) (j : J) : nodesL (l ++ [j]) = nodesL l + nodesJ j := by
  induction l with
  | nil => simp [nodesL]
  | cons x t ih => simp only [List.cons_append, nodesL, ih]; omega
theorem jerr_nodes (e : Nat) : nodesJ (jerr e).1 ≤ (jerr e).2.1 + 1 := by
  unfold jerr J.zero
  rw [nodesJ]; simp [nodesL]
theorem listJ_nodes (rd : List UInt8 → JR) (h : ∀ l, nodesJ (rd l).1 ≤ (rd l).2.1 + 1) (l : List UInt8) : nodesJ (listJ rd l).1 ≤ (listJ rd l).2.1 + 1 := by
  obtain ⟨h1, h2⟩ := listJ_is rd l
  by_cases e : (piecesP (stepL rd) 93 l []).2.2 = 0
  · have hg := piecesP_grow (stepL rd) 93 nodesL (fun l st _ => by show nodesL (st ++ [(rd l).1]) ≤ nodesL st + (rd l).2.1 + 1; rw [nodesL_snoc]; have := h l; omega) l [] e
    rw [h1 e]
    simp only [nodesJ, nodesL] at hg ⊢
    omega
  · rw [h2 e]; exact jerr_nodes _
theorem objJ_nodes (rd : List UInt8 → JR) (h : ∀ l, nodesJ (rd l).1 ≤ (rd l).2.1 + 1) (l : List UInt8) : nodesJ (objJ rd l).1 ≤ (objJ rd l).2.1 + 1 := by
  obtain ⟨h1, h2⟩ := objJ_is rd l
  by_cases e : (piecesP (stepO rd) 125 l ([], [])).2.2 = 0
  · have hg := piecesP_grow (stepO rd) 125 (fun st => nodesL st.2) (fun l st => by
      unfold stepO
      split
      · intro e; exact absurd e (by assumption)
      · split
        · intro e; exact absurd e (by simp)
        · split
          · intro e; exact absurd e (by assumption)
          · intro _
            have := h (l.drop ((unqL l).2.1 + (colonL (l.drop (unqL l).2.1)).1))
            simp only [nodesL_snoc]
            omega) l ([], []) e
    rw [h1 e]
    simp only [nodesJ, nodesL] at hg ⊢
    omega
  · rw [h2 e]; exact jerr_nodes _
theorem one_nodes (k n : Int) (t : List UInt8) (m : Nat) : nodesJ (J.mk k n t [] []) ≤ m + 1 := by rw [nodesJ]; simp [nodesL]
theorem headJ_nodes (li ob : List UInt8 → JR) (hl : ∀ l, nodesJ (li l).1 ≤ (li l).2.1 + 1) (ho : ∀ l, nodesJ (ob l).1 ≤ (ob l).2.1 + 1) (l : List UInt8) : nodesJ (headJ li ob l).1 ≤ (headJ li ob l).2.1 + 1 := by
  match l with
  | [] => exact jerr_nodes _
  | c :: t =>
    simp only [headJ]
    split
    · unfold textJ; split
      · exact jerr_nodes _
      · exact one_nodes _ _ _ _
    · split
      · unfold numJ; split
        · exact jerr_nodes _
        · exact one_nodes _ _ _ _
      · split
        · unfold wordJ; split
          · exact one_nodes _ _ _ _
          · split
            · exact one_nodes _ _ _ _
            · split
              · exact one_nodes _ _ _ _
              · split <;> exact jerr_nodes _
        · split
          · exact hl _
          · split
            · exact ho _
            · exact jerr_nodes _
theorem valueJ_nodes : ∀ (d : Nat) (l : List UInt8), nodesJ (valueJ d l).1 ≤ (valueJ d l).2.1 + 1 := by
  intro d
  induction d with
  | zero => intro l; exact headJ_nodes _ _ (fun _ => jerr_nodes _) (fun _ => jerr_nodes _) l
  | succ d ih => intro l; exact headJ_nodes _ _ (listJ_nodes _ ih) (objJ_nodes _ ih) l

/-- What Parse answers: the value, the error. -/
def parseJ (l : List UInt8) : J × Nat :=
  if (valueJ 8 (l.drop (spaceL l))).2.2 ≠ 0 then (J.zero, (valueJ 8 (l.drop (spaceL l))).2.2)
  else if spaceL ((l.drop (spaceL l)).drop (valueJ 8 (l.drop (spaceL l))).2.1) < ((l.drop (spaceL l)).drop (valueJ 8 (l.drop (spaceL l))).2.1).length then (J.zero, 5)
  else if 400 < nodesJ (valueJ 8 (l.drop (spaceL l))).1 then (J.zero, 4)
  else ((valueJ 8 (l.drop (spaceL l))).1, 0)
/-- A call of Parse. -/
def RetPa (w : World) (p : J × Nat) (e : Ending) (w' : World) : Prop :=
  Keeps w w' ∧ (p.2 = 0 → ∃ v, e = .returned (.tuple #[v, .int .i64 0]) ∧ IsJ w' (fun i => w.heap.size ≤ i ∧ i < w'.heap.size) p.1 v) ∧ (p.2 ≠ 0 → e = .returned (.tuple #[zeroV, .int .i64 (p.2 : Int)]))
theorem RetPa.bad {w w' : World} {p : J × Nat} (k : Keeps w w') (hx : p.2 ≠ 0) : RetPa w p (.returned (.tuple #[zeroV, .int .i64 (p.2 : Int)])) w' := ⟨k, fun h => absurd h hx, fun _ => rfl⟩
theorem RetPa.good {w w' : World} {j : J} {v : Value} (k : Keeps w w') (h : IsJ w' (fun i => w.heap.size ≤ i ∧ i < w'.heap.size) j v) : RetPa w (j, 0) (.returned (.tuple #[v, .int .i64 0])) w' := ⟨k, fun _ => ⟨v, rfl, h⟩, fun h => absurd rfl h⟩
end Go.Proofs.YtljkeladdplhlaaDoor
namespace Go.Proofs.YtljkeladdplhlaaDoor
open Go.RowKit

theorem RetR.form {w w2 : World} {p : JR} {e : Ending} (h : RetR w p e w2) :
    ∃ jk jn jt ka kl kc ia il ic, e = .returned (.tuple #[.agg #[.int .i64 jk, .int .i64 jn, .string jt, .slice ka kl kc, .slice ia il ic], .int .i64 ((if p.2.2 = 0 then p.2.1 else 0 : Nat) : Int), .int .i64 (p.2.2 : Int)]) := by
  obtain ⟨_, h1, h2⟩ := h
  by_cases hp : p.2.2 = 0
  · obtain ⟨v, rfl, hj⟩ := h1 hp
    obtain ⟨k, n, t, ks, is, kv, iv, _, rfl, hkv, hiv⟩ := hj.parts
    obtain ⟨ka, kc, rfl⟩ := hkv.form
    obtain ⟨ia, ic, rfl⟩ := hiv.form
    rw [if_pos hp, hp]
    exact ⟨_, _, _, _, _, _, _, _, _, rfl⟩
  · rw [h2 hp, if_neg hp]
    exact ⟨_, _, _, _, _, _, _, _, _, rfl⟩

theorem Keeps.five2 {w w' : World} (h : Keeps w w') (o : Obj) (v0 v1 v2 v3 v4 : Value) : Keeps w (five (w'.alloc o) w.heap.size v0 v1 v2 v3 v4) :=
  (h.alloc o).only ((Only.refl [w.heap.size] _).five _ (.inl (by simp)) _ _ _ _ _) (fun i hi => by simp at hi; omega)
theorem Keeps.five3 {w w' : World} (h : Keeps w w') (v0 v1 v2 v3 v4 : Value) : Keeps w (five w' w.heap.size v0 v1 v2 v3 v4) :=
  h.only ((Only.refl [w.heap.size] _).five _ (.inl (by simp)) _ _ _ _ _) (fun i hi => by simp at hi; omega)
theorem read_good8 (s : ByteArray) (w : World) (hu : Utf w) (hs : s.size ≤ 100000) : Calls Tryd.prog 10 #[.string s, .int .i64 8] w (RetR w (valueJ 8 s.data.toList)) := read_good s 8 w hu (by omega) hs
set_option maxHeartbeats 8000000 in
set_option maxRecDepth 100000 in
theorem parse_any (s : ByteArray) (w : World) (hu : Utf w) (hs : s.size ≤ 100000) : Calls Tryd.prog 9 #[.string s] w (RetPa w (parseJ s.data.toList)) := by
  have hsl := spaceL_le s.data.toList
  rw [ByteArray_len] at hsl
  have cS := Lib.hid (fun (x : ByteArray) (w1 : World) h => space_any x w1 h)
  have cR := Lib.hid (fun (x : ByteArray) (w1 : World) h1 h2 => read_good8 x w1 h1 h2)
  have cC := Lib.hid (fun j v F w1 h1 h2 h3 => count_any j v F 400 w1 h1 h2 h3 (by omega) (by omega))
  unfold parseJ
  obtain ⟨a, ha⟩ : ∃ a, spaceL s.data.toList = a := ⟨_, rfl⟩
  rw [ha] at hsl ⊢
  have hsp : Hid (∀ w1, Calls Tryd.prog 29 #[.string s] w1 (fun e w' => e = .returned (.int .i64 (a : Int)) ∧ w' = w1)) := Lib.hid (fun w1 => by have := cS.out s w1 (by omega); rwa [ha] at this)
  have hex : (s.extract a s.size).data.toList = s.data.toList.drop a := ext_drop s a
  have hexs : (s.extract a s.size).size = s.size - a := by simp
  have hrd := cR.out (s.extract a s.size)
  rw [hex] at hrd
  have HRD := Lib.hid hrd
  have hn := valueJ_le 8 (s.data.toList.drop a)
  have hnn := valueJ_nodes 8 (s.data.toList.drop a)
  rw [List.length_drop, ByteArray_len] at hn
  have hs2 : Hid (∀ m w1, Calls Tryd.prog 29 #[.string ((s.extract a s.size).extract m (s.extract a s.size).size)] w1 (fun e w' => e = .returned (.int .i64 (spaceL ((s.data.toList.drop a).drop m) : Int)) ∧ w' = w1)) := Lib.hid (fun m w1 => by
    have := cS.out ((s.extract a s.size).extract m (s.extract a s.size).size) w1 (by simp; omega)
    rwa [ext_drop, hex] at this)
  have hdl : ∀ m, ((s.data.toList.drop a).drop m).length = s.size - a - m := fun m => by simp; omega
  have HDL := Lib.hid hdl
  generalize hL : s.data.toList.drop a = L at *
  have HU := Lib.hid hu
  have q0 : (0 : Int) ≤ (a : Int) := by omega
  have q1 : (a : Int) ≤ (s.size : Int) := by omega
  have HB := Lib.hid (heap_alloc_new w (.cells #[.int .i64 0, .int .i64 0, .string ⟨#[]⟩, .slice none 0 0, .slice none 0 0] 25))
  have K1 := Lib.hid ((Keeps.refl w).alloc (.cells #[.int .i64 0, .int .i64 0, .string ⟨#[]⟩, .slice none 0 0, .slice none 0 0] 25))
  have HEX := Lib.hid hexs
  clear hrd hex ha hL hdl hu hexs
  generalize valueJ 8 L = p at *
  generalize hP : (if p.2.2 ≠ 0 then (J.zero, p.2.2) else if spaceL (L.drop p.2.1) < (L.drop p.2.1).length then (J.zero, 5) else if 400 < nodesJ p.1 then (J.zero, 4) else (p.1, 0) : J × Nat) = P
  have HP := Lib.hid hP
  clear hP
  go_enter Tryd.func9, Tryd.ntmps9
  go_wp2_with fail
  refine (hsp.out _).mono ?_
  rintro e w2 ⟨rfl, rfl⟩
  go_wp2_with fail
  generalize s.extract a s.size = t at *
  refine (HRD.out _ (HU.out.keeps K1.out) (by have := HEX.out; omega)).mono ?_
  intro e w2 hr
  obtain ⟨jk, jn, jt, ka, kl, kc, ia, il, ic, rfl⟩ := hr.form
  have HR := Lib.hid hr
  have hk2 := hr.1
  have HK2 := Lib.hid (K1.out.trans hk2)
  have HB2 : Hid (w2.heap[w.heap.size]? = some (.cells #[.int .i64 0, .int .i64 0, .string ⟨#[]⟩, .slice none 0 0, .slice none 0 0] 25 (0, 0))) := Lib.hid ((hk2.block _ (by simp)).trans HB.out)
  have hz2 : w.heap.size < w2.heap.size := (Array.getElem?_eq_some_iff.1 HB2.out).1
  have hsz2 := hz2
  clear hr hk2 K1 HB
  obtain ⟨j, n, x⟩ := p
  simp only at hn hnn HP HR ⊢
  by_cases hx : x = 0
  · subst hx
    rw [if_pos rfl]
    have hl := HDL.out n
    have q2 : (0 : Int) ≤ (n : Int) := by omega
    have q3 : (n : Int) ≤ (t.size : Int) := by have := HEX.out; omega
    have hsn := spaceL_le (L.drop n)
    obtain ⟨b, hb⟩ : ∃ b, spaceL (L.drop n) = b := ⟨_, rfl⟩
    have cSb := Lib.hid (hs2.out n)
    rw [hb] at cSb hsn
    rw [hl] at hsn
    have HBb := Lib.hid hb
    have HLn := Lib.hid hl
    clear hb hl
    by_cases hlt : b < s.size - a - n
    · have f9 : decide (b < t.size - n) = true := decide_eq_true (by have := HEX.out; omega)
      have hPv : P = (J.zero, 5) := by rw [← HP.out, if_neg (by simp), if_pos (by rw [HBb.out, HLn.out]; exact hlt)]
      have HPV := Lib.hid hPv
      clear hPv hlt
      go_wp2_with fail
      refine (cSb.out _).mono ?_
      rintro e w3 ⟨rfl, hw3⟩
      have B3 : Hid (w3.heap[w.heap.size]? = some (.cells #[.int .i64 0, .int .i64 0, .string ⟨#[]⟩, .slice none 0 0, .slice none 0 0] 25 (0, 0))) := Lib.hid (by rw [hw3]; exact (al_lt _ hz2).trans HB2.out)
      have K3 : Hid (Keeps w w3) := Lib.hid (by rw [hw3]; exact HK2.out.alloc _)
      obtain ⟨⟨c0, c1, c2, c3, c4⟩, f0, f1, f2, f3, f4⟩ := cells5 B3.out
      clear hw3
      go_wp2
      (try simp only [Exit.inBlock, Exit.then])
      refine ret_j w.heap.size _ rfl rfl (five_heap _ _ _ _ _ B3.out) rfl rfl ?_
      rw [HPV.out]
      exact RetPa.bad (K3.out.five3 _ _ _ _ _) (by decide)
    · have f9 : decide (b < t.size - n) = false := decide_eq_false (by have := HEX.out; omega)
      have hnot : ¬ spaceL (L.drop n) < (L.drop n).length := by rw [HBb.out, HLn.out]; exact hlt
      have HNOT := Lib.hid hnot
      have hj := HR.out.2.1 rfl
      obtain ⟨v, hv1, hv2⟩ := hj
      have hv1' : v = .agg #[.int .i64 jk, .int .i64 jn, .string jt, .slice ka kl kc, .slice ia il ic] := by
        have := congrArg (fun e : Ending => match e with | .returned (.tuple a) => a[0]? | _ => none) hv1
        simpa using this.symm
      subst hv1'
      simp only at hv2
      have hz1 : ((w.alloc (.cells #[.int .i64 0, .int .i64 0, .string ⟨#[]⟩, .slice none 0 0, .slice none 0 0] 25))).heap.size = w.heap.size + 1 := by simp
      rw [hz1] at hv2
      have HV := Lib.hid hv2
      have cC2 := Lib.hid (cC.out j _ (fun i => w.heap.size + 1 ≤ i ∧ i < w2.heap.size) (w2.alloc (.cells #[.int .i64 jk, .int .i64 jn, .string jt, .slice ka kl kc, .slice ia il ic] 25)) (hv2.keeps (fun i hi => al_lt _ hi.2)) (fun i hi => by simp; omega) (by omega))
      have HVB := Lib.hid (al_at (w := w2) (.cells #[.int .i64 jk, .int .i64 jn, .string jt, .slice ka kl kc, .slice ia il ic] 25) rfl)
      clear hv1 hv2 hz1 hlt hnot
      go_wp2_with fail
      refine (cSb.out _).mono ?_
      rintro e w3 ⟨rfl, hw3⟩
      rw [← hw3] at cC2
      have B3 : Hid (w3.heap[w.heap.size]? = some (.cells #[.int .i64 0, .int .i64 0, .string ⟨#[]⟩, .slice none 0 0, .slice none 0 0] 25 (0, 0))) := Lib.hid (by rw [hw3]; exact (al_lt _ hz2).trans HB2.out)
      have V3 : Hid (w3.heap[w2.heap.size]? = some (.cells #[.int .i64 jk, .int .i64 jn, .string jt, .slice ka kl kc, .slice ia il ic] 25 (0, 0))) := Lib.hid (by rw [hw3]; exact HVB.out)
      have E3 : Hid (Keeps w2 w3) := Lib.hid (by rw [hw3]; exact (Keeps.refl w2).alloc _)
      obtain ⟨v0, v1, v2, v3, v4⟩ := (cells5 V3.out).1
      clear hw3 HVB
      go_wp2_with fail
      refine cC2.out.mono ?_
      rintro e w4 ⟨rr, rfl, hr1, hr2, hr3, hk4⟩
      have hl4 : w2.heap.size < w3.heap.size := (Array.getElem?_eq_some_iff.1 V3.out).1
      have B4 : Hid (w4.heap[w.heap.size]? = some (.cells #[.int .i64 0, .int .i64 0, .string ⟨#[]⟩, .slice none 0 0, .slice none 0 0] 25 (0, 0))) := Lib.hid ((hk4.block _ (by omega)).trans B3.out)
      have V4 : Hid (w4.heap[w2.heap.size]? = some (.cells #[.int .i64 jk, .int .i64 jn, .string jt, .slice ka kl kc, .slice ia il ic] 25 (0, 0))) := Lib.hid ((hk4.block _ hl4).trans V3.out)
      have E4 := Lib.hid (E3.out.trans hk4)
      obtain ⟨⟨c0, c1, c2, c3, c4⟩, f0, f1, f2, f3, f4⟩ := cells5 B4.out
      clear v0 v1 v2 v3 v4 hk4 cC2
      obtain ⟨v0, v1, v2, v3, v4⟩ := (cells5 V4.out).1
      by_cases hbig : 400 < nodesJ j
      · have f9 : decide ((400 : Int) < (rr : Int)) = true := decide_eq_true (hr2 (by omega))
        have hPv : P = (J.zero, 4) := by rw [← HP.out, if_neg (by simp), if_neg HNOT.out, if_pos hbig]
        have HPV := Lib.hid hPv
        clear hPv hbig hr1 hr2 hr3
        go_wp2
        (try simp only [Exit.inBlock, Exit.then])
        refine ret_j w.heap.size _ rfl rfl (five_heap _ _ _ _ _ B4.out) rfl rfl ?_
        rw [HPV.out]
        exact RetPa.bad ((HK2.out.trans E4.out).five3 _ _ _ _ _) (by decide)
      · have f9 : decide ((400 : Int) < (rr : Int)) = false := decide_eq_false (by omega)
        have hPv : P = (j, 0) := by rw [← HP.out, if_neg (by simp), if_neg HNOT.out, if_neg hbig]
        have HPV := Lib.hid hPv
        clear hPv hbig hr1 hr2 hr3
        go_wp2
        (try simp only [Exit.inBlock, Exit.then])
        refine ret_j w.heap.size _ rfl rfl (five_heap _ _ _ _ _ B4.out) rfl rfl ?_
        rw [HPV.out]
        have hO : Only [w.heap.size] w4 (five w4 w.heap.size (.int .i64 jk) (.int .i64 jn) (.string jt) (.slice ka kl kc) (.slice ia il ic)) := (Only.refl _ w4).five _ (.inl (by simp)) _ _ _ _ _
        have hE := E4.out.size
        exact RetPa.good ((HK2.out.trans E4.out).five3 _ _ _ _ _) ((IsJ.keeps (fun i hi => (hO.block i (by omega) (by simp; omega)).trans (E4.out.block i hi.2)) _ _ HV.out).mono (fun i hi => ⟨by omega, Nat.lt_of_lt_of_le hi.2 (Nat.le_trans hE hO.size)⟩))
  · have f9 : ((x : Int) != 0) = true := by simp; omega
    have hPv : P = (J.zero, x) := by rw [← HP.out, if_pos hx]
    have HPV := Lib.hid hPv
    have hx' := Lib.hid hx
    rw [if_neg hx]
    obtain ⟨⟨c0, c1, c2, c3, c4⟩, f0, f1, f2, f3, f4⟩ := cells5 HB2.out
    clear hPv hx
    go_wp2
    (try simp only [Exit.inBlock, Exit.then])
    refine ret_j w.heap.size _ rfl rfl ((al_lt _ (by have := hz2; simpa using this)).trans (five_heap _ _ _ _ _ HB2.out)) rfl rfl ?_
    rw [HPV.out]
    exact RetPa.bad ((HK2.out.five3 _ _ _ _ _).alloc _) hx'.out
end Go.Proofs.YtljkeladdplhlaaDoor
