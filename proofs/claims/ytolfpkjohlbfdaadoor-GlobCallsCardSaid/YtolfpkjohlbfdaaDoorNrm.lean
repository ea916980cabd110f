/-
  Plain facts on the normal form of a glob: it matches the same, is its own normal form, asks for as many bytes; and on globs without wildcards.
-/
import Derived.Test.YtolfpkjohlbfdaaDoorPur
import Derived.Lib.IndexAny
import Derived.Lib.Bytealg
namespace Go.Proofs.YtolfpkjohlbfdaaDoor
open Go.RowKit

theorem byte_eq {c : UInt8} {n : Nat} (h : c.toNat = n) : c = UInt8.ofNat n := by
  rw [← h]; simp
theorem mt_under (eq : UInt8 → UInt8 → Bool) (P A B : List UInt8) (h : ∀ T, mt eq A T = mt eq B T) (T : List UInt8) : mt eq (P ++ A) T = mt eq (P ++ B) T := by
  rw [Bool.eq_iff_iff, mt_app, mt_app]
  simp only [h]
theorem mt_twice (eq : UInt8 → UInt8 → Bool) (Q T : List UInt8) : mt eq (42 :: 42 :: Q) T = mt eq (42 :: Q) T := by
  rw [Bool.eq_iff_iff, mt_star eq 42 _ rfl, mt_star eq 42 _ rfl]
  constructor
  · rintro ⟨k, hk, q⟩
    rw [mt_star eq 42 _ rfl] at q
    obtain ⟨j, hj, q⟩ := q
    rw [List.length_drop] at hj
    rw [List.drop_drop] at q
    exact ⟨k + j, by omega, q⟩
  · rintro ⟨k, hk, q⟩
    refine ⟨0, Nat.zero_le _, ?_⟩
    rw [mt_star eq 42 _ rfl]
    exact ⟨k, by simpa using hk, by simpa using q⟩
theorem one_q (eq : UInt8 → UInt8 → Bool) (c : UInt8) : one eq 63 c = true := by
  unfold one
  exact decide_eq_true ⟨by decide, Or.inl rfl⟩
theorem mt_swap (eq : UInt8 → UInt8 → Bool) (Q T : List UInt8) : mt eq (42 :: 63 :: Q) T = mt eq (63 :: 42 :: Q) T := by
  cases T with
  | nil =>
    rw [mt_star_nil eq 42 _ rfl, mt_plain_nil eq 63 _ (by decide), mt_plain_nil eq 63 _ (by decide)]
  | cons c T =>
    rw [mt_one eq 63 c _ _ (one_q eq c), Bool.eq_iff_iff, mt_star eq 42 _ rfl, mt_star eq 42 _ rfl]
    constructor
    · rintro ⟨k, hk, q⟩
      cases hd : (c :: T).drop k with
      | nil => rw [hd, mt_plain_nil eq 63 _ (by decide)] at q; cases q
      | cons d D =>
        rw [hd, mt_one eq 63 d _ _ (one_q eq d)] at q
        have hl := congrArg List.length hd
        simp only [List.length_drop, List.length_cons] at hl hk
        refine ⟨k, by omega, ?_⟩
        have : T.drop k = D := by
          have h2 := congrArg List.tail hd
          rw [List.tail_drop] at h2
          simpa using h2
        rw [this]; exact q
    · rintro ⟨k, hk, q⟩
      refine ⟨k, by simp only [List.length_cons]; omega, ?_⟩
      cases hd : (c :: T).drop k with
      | nil =>
        have hl := congrArg List.length hd
        simp only [List.length_drop, List.length_cons, List.length_nil] at hl
        omega
      | cons d D =>
        rw [mt_one eq 63 d _ _ (one_q eq d)]
        have : T.drop k = D := by
          have h2 := congrArg List.tail hd
          rw [List.tail_drop] at h2
          simpa using h2
        rw [← this]; exact q

def bp (b : Bool) : List UInt8 := if b = true then [42] else []
theorem nfin_bp (s : List UInt8 × Bool) : nfin s = s.1 ++ bp s.2 := by
  obtain ⟨o, b⟩ := s; cases b <;> simp [nfin, bp]
theorem mt_norm_go (eq : UInt8 → UInt8 → Bool) (T : List UInt8) : ∀ (rest : List UInt8) (o : List UInt8) (b : Bool), mt eq (nfin (rest.foldl nstep (o, b))) T = mt eq (o ++ (bp b ++ rest)) T := by
  intro rest
  induction rest with
  | nil => intro o b; rw [List.foldl_nil, nfin_bp, List.append_nil]
  | cons c rest ih =>
    intro o b
    rw [List.foldl_cons]
    by_cases h1 : c.toNat = 42
    · have hc : c = 42 := byte_eq h1
      subst hc
      rw [show nstep (o, b) 42 = (o, true) from by simp [nstep], ih]
      cases b
      · rfl
      · exact mt_under eq o _ _ (fun T => (mt_twice eq rest T).symm) T
    · by_cases h2 : c.toNat = 63
      · have hc : c = 63 := byte_eq h2
        subst hc
        rw [show nstep (o, b) 63 = (o ++ [63], b) from by simp [nstep], ih]
        cases b
        · simp [bp]
        · rw [List.append_assoc]
          exact mt_under eq o _ _ (fun T => (mt_swap eq rest T).symm) T
      · cases b
        · rw [show nstep (o, false) c = (o ++ [c], false) from by simp [nstep, h1], ih]
          simp [bp]
        · rw [show nstep (o, true) c = (o ++ [42, c], false) from by simp [nstep, h1, h2], ih]
          simp [bp]
theorem normL_fold (l : List UInt8) : normL l = nfin (l.foldl nstep ([], false)) := by
  unfold normL normTo; rw [List.take_length]
theorem mt_norm (eq : UInt8 → UInt8 → Bool) (l T : List UInt8) : mt eq (normL l) T = mt eq l T := by
  rw [normL_fold, mt_norm_go]; simp [bp]

theorem norm_inv (rest : List UInt8) : ∀ (o : List UInt8) (b : Bool), o.foldl nstep ([], false) = (o, false) → (rest.foldl nstep (o, b)).1.foldl nstep ([], false) = ((rest.foldl nstep (o, b)).1, false) := by
  induction rest with
  | nil => intro o b h; exact h
  | cons c rest ih =>
    intro o b h
    rw [List.foldl_cons]
    by_cases h1 : c.toNat = 42
    · rw [show nstep (o, b) c = (o, true) from by simp [nstep, h1]]
      exact ih o true h
    · by_cases h2 : c.toNat = 63
      · rw [show nstep (o, b) c = (o ++ [c], b) from by simp [nstep, h1, h2]]
        exact ih _ _ (by rw [List.foldl_append, h]; simp [nstep, h1, h2])
      · cases b
        · rw [show nstep (o, false) c = (o ++ [c], false) from by simp [nstep, h1]]
          exact ih _ _ (by rw [List.foldl_append, h]; simp [nstep, h1])
        · rw [show nstep (o, true) c = (o ++ [42, c], false) from by simp [nstep, h1, h2]]
          exact ih _ _ (by rw [List.foldl_append, h]; simp [nstep, h1, h2])
theorem norm_norm (l : List UInt8) : normL (normL l) = normL l := by
  have h := norm_inv l [] false rfl
  rw [normL_fold l]
  generalize l.foldl nstep ([], false) = s at h ⊢
  obtain ⟨o, b⟩ := s
  simp only at h
  rw [normL_fold]
  cases b
  · rw [show nfin (o, false) = o from rfl, h]; rfl
  · rw [show nfin (o, true) = o ++ [42] from rfl, List.foldl_append, h]
    rfl

theorem least_go (rest : List UInt8) : ∀ (o : List UInt8) (b : Bool), leastN (nfin (rest.foldl nstep (o, b))) = leastN o + leastN rest := by
  induction rest with
  | nil => intro o b; cases b <;> simp [nfin, leastN]
  | cons c rest ih =>
    intro o b
    rw [List.foldl_cons]
    by_cases h1 : c.toNat = 42
    · rw [show nstep (o, b) c = (o, true) from by simp [nstep, h1], ih]
      simp [leastN, h1]
    · by_cases h2 : c.toNat = 63
      · rw [show nstep (o, b) c = (o ++ [c], b) from by simp [nstep, h1, h2], ih]
        simp [leastN, h1]; omega
      · cases b
        · rw [show nstep (o, false) c = (o ++ [c], false) from by simp [nstep, h1], ih]
          simp [leastN, h1]; omega
        · rw [show nstep (o, true) c = (o ++ [42, c], false) from by simp [nstep, h1, h2], ih]
          simp [leastN, h1]; omega
theorem least_norm (l : List UInt8) : leastN (normL l) = leastN l := by
  rw [normL_fold, least_go]; simp [leastN]
theorem least_count (l : List UInt8) : l.length - Lib.countByte l 42 = leastN l := by
  unfold Lib.countByte leastN
  rw [List.count_eq_countP, ← List.countP_eq_length_filter]
  have h := List.length_eq_countP_add_countP (fun x : UInt8 => x == 42) (l := l)
  have e : List.countP (fun a : UInt8 => decide ¬(a == 42) = true) l = List.countP (fun p : UInt8 => p.toNat != 42) l := by
    apply List.countP_congr
    intro x _
    simp only [decide_eq_true_eq, bne_iff_ne, beq_iff_eq]
    constructor
    · intro hx hn; exact hx (byte_eq hn)
    · intro hx hn; subst hn; exact hx rfl
  omega

/-- Letter by letter. -/
def eqs (eq : UInt8 → UInt8 → Bool) : List UInt8 → List UInt8 → Bool
  | [], [] => true
  | a :: l, b :: m => eq a b && eqs eq l m
  | _, _ => false
theorem mt_lit (eq : UInt8 → UInt8 → Bool) : ∀ (l T : List UInt8), (∀ x ∈ l, x.toNat ≠ 42 ∧ x.toNat ≠ 63) → mt eq l T = eqs eq l T
  | [], T, _ => by cases T <;> simp [mt, eqs]
  | a :: l, [], h => by rw [mt_plain_nil _ _ _ (h a (by simp)).1]; simp [eqs]
  | a :: l, c :: T, h => by
    have ha := h a (by simp)
    cases ho : one eq a c
    · rw [mt_none _ _ _ _ _ ha.1 ho]
      have : eq a c = false := by
        cases he : eq a c
        · rfl
        · unfold one at ho
          exact absurd ⟨ha.1, Or.inr he⟩ (of_decide_eq_false ho)
      simp [eqs, this]
    · rw [mt_one _ _ _ _ _ ho, mt_lit eq l T (fun x hx => h x (by simp [hx]))]
      have : eq a c = true := by
        unfold one at ho
        have := (of_decide_eq_true ho).2
        rcases this with h1 | h1
        · exact absurd h1 ha.2
        · exact h1
      simp [eqs, this]
theorem eqs_same : ∀ (l T : List UInt8), eqs (fun a b => a == b) l T = (l == T)
  | [], [] => rfl
  | [], b :: T => rfl
  | a :: l, [] => rfl
  | a :: l, b :: T => by
    simp only [eqs, eqs_same l T]
    rw [Bool.eq_iff_iff]; simp
theorem eqs_low : ∀ (l T : List UInt8), eqs (fun a b => lowC a == lowC b) l T = (lowL l == lowL T)
  | [], [] => rfl
  | [], b :: T => rfl
  | a :: l, [] => rfl
  | a :: l, b :: T => by
    simp only [eqs, eqs_low l T, lowL, List.map_cons]
    rw [Bool.eq_iff_iff]; simp
theorem not_any : ∀ (l : List UInt8), Lib.containsAny l [42, 63] = false → ∀ x ∈ l, x.toNat ≠ 42 ∧ x.toNat ≠ 63
  | [], _ => fun x hx => by cases hx
  | b :: l, h => by
    unfold Lib.containsAny at h
    have h := of_decide_eq_false h
    have hg := Lib.indexAny_ge [42, 63] l
    rw [Lib.indexAny] at h
    split at h
    · exact absurd (Int.le_refl 0) h
    · rename_i hc
      split at h
      · rename_i h1
        have h1 : Lib.indexAny l [42, 63] = -1 := by simpa using h1
        have ih := not_any l (by unfold Lib.containsAny; rw [h1]; rfl)
        intro x hx
        rcases List.mem_cons.1 hx with rfl | hx
        · refine ⟨fun e => hc ?_, fun e => hc ?_⟩
          · rw [byte_eq e]; decide
          · rw [byte_eq e]; decide
        · exact ih x hx
      · rename_i h1
        have h1 : Lib.indexAny l [42, 63] ≠ -1 := by simpa using h1
        omega
theorem lit_false (l T : List UInt8) (h : Lib.containsAny l [42, 63] = false) : mt (eqB false) l T = (l == T) := by
  rw [mt_lit _ _ _ (not_any l h)]
  exact eqs_same l T
theorem lit_true (l T : List UInt8) (h : Lib.containsAny l [42, 63] = false) : mt (eqB true) l T = (lowL l == lowL T) := by
  rw [mt_lit _ _ _ (not_any l h)]
  exact eqs_low l T
end Go.Proofs.YtolfpkjohlbfdaaDoor
