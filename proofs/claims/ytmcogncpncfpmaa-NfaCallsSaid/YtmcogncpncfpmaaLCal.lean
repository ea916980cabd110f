/-
  The walk of the statement that the automaton answers as the document says.
-/
import Derived.Test.YtmcogncpncfpmaaRff
import Derived.Test.YtmcogncpncfpmaaLJoi
namespace Go.Proofs.Ytmcogncpncfpmaa
open Go.RowKit

def GoodRef (s : ByteArray) (fo : Bool) (N : List UInt8) : Prop := ∀ w1 : World, Calls Try.prog 17 #[.string s, .bool fo] w1 (fun e w' => ∃ P, w1.heap.size ≤ P ∧ e = .returned (.tuple #[.pointer (some ⟨P, 0, none⟩), .int .i64 0]) ∧ RefAt w' P N fo ∧ Keeps w1 w')
def BadRef (s : ByteArray) (fo : Bool) (x : Int) : Prop := ∀ w1 : World, Calls Try.prog 17 #[.string s, .bool fo] w1 (fun e w' => e = .returned (.tuple #[.pointer none, .int .i64 x]) ∧ Keeps w1 w')
theorem both_cases (s : ByteArray) (fo : Bool) (hs : s.size ≤ maxLen) : (∃ x, x ≠ 0 ∧ BadNew s fo x ∧ BadRef s fo x) ∨ (GoodNew s fo (normL s.data.toList) ∧ GoodRef s fo (normL s.data.toList) ∧ (normL s.data.toList).length ≤ 255) := by
  have hl : s.data.toList.length = s.size := by simp
  by_cases h : checkI s.data.toList = 0
  · refine .inr ⟨fun w1 => (new_any s fo w1 hs).mono ?_, fun w1 => (rnew_any s fo w1).mono ?_, ?_⟩
    · rintro e w' (⟨h', _⟩ | ⟨_, h'⟩)
      · exact absurd h h'
      · exact h'
    · rintro e w' (⟨h', _⟩ | ⟨_, h'⟩)
      · exact absurd h h'
      · exact h'
    · have := normL_len s.data.toList
      unfold checkI at h
      split at h
      · cases h
      · split at h
        · cases h
        · omega
  · refine .inl ⟨_, h, fun w1 => (new_any s fo w1 hs).mono ?_, fun w1 => (rnew_any s fo w1).mono ?_⟩
    · rintro e w' (⟨_, h1, h2⟩ | ⟨h', _⟩)
      · exact ⟨h1, h2⟩
      · exact absurd h' h
    · rintro e w' (⟨_, h1, h2⟩ | ⟨h', _⟩)
      · exact ⟨h1, h2⟩
      · exact absurd h' h

set_option maxHeartbeats 1000000 in
theorem light_any (p t : ByteArray) (w : World) (hp : p.size ≤ maxLen) (ht : t.size ≤ maxLen) : Calls Try.prog 16 #[.string p, .string t] w (fun e w' => e = .returned (.bool (decide (p.size ≤ 300 ∧ t.size ≤ 260))) ∧ w' = w) := by
  unfold maxLen at hp ht
  by_cases h1 : p.size ≤ 300
  · by_cases h2 : t.size ≤ 260
    · rw [show decide (p.size ≤ 300 ∧ t.size ≤ 260) = true from decide_eq_true ⟨h1, h2⟩]
      go_enter Try.func16, Try.ntmps16
      go_wp2
      go_ret
      exact ⟨by simp; omega, rfl⟩
    · rw [show decide (p.size ≤ 300 ∧ t.size ≤ 260) = false from decide_eq_false (fun h => h2 h.2)]
      go_enter Try.func16, Try.ntmps16
      go_wp2
      go_ret
      exact ⟨by simp; omega, rfl⟩
  · rw [show decide (p.size ≤ 300 ∧ t.size ≤ 260) = false from decide_eq_false (fun h => h1 h.1)]
    have h1' : 300 < p.size := by omega
    go_enter Try.func16, Try.ntmps16
    go_wp2
    go_ret
    exact ⟨by simp, rfl⟩

set_option maxHeartbeats 1000000 in
theorem calls_heavy (s : ByteArray) (fo : Bool) (A : Option Addr) (ca n : Nat) (c : Int) (t : ByteArray) (w : World) (hs : s.size ≤ maxLen) (ht : t.size ≤ maxLen) (hn : n ≤ maxLen) (g : ¬ (s.size ≤ 300 ∧ t.size ≤ 260) ∨ ((s.size ≤ 300 ∧ t.size ≤ 260) ∧ 400 < n)) :
    Calls Try.prog 4 #[.string s, .bool fo, .slice A n ca, .int .u8 c, .string t] w (RetQ true w) := by
  have cL := Lib.hid (fun w => lives_any w)
  have cG := Lib.hid (fun w1 => light_any s t w1 hs ht)
  unfold maxLen at hn
  rcases g with g | ⟨g, g'⟩
  · rw [show decide (s.size ≤ 300 ∧ t.size ≤ 260) = false from decide_eq_false g] at cG
    clear g
    go_enter Try.func4, Try.ntmps4
    go_wp2_with fail
    refine (cL.out _).mono ?_
    rintro e w2 ⟨rfl, h⟩
    go_wp2_with fail
    refine (cG.out _).mono ?_
    rintro e w3 ⟨rfl, rfl⟩
    go_wp2
    go_ret
    exact RetQ.of rfl h
  · rw [show decide (s.size ≤ 300 ∧ t.size ≤ 260) = true from decide_eq_true g] at cG
    clear g
    go_enter Try.func4, Try.ntmps4
    go_wp2_with fail
    refine (cL.out _).mono ?_
    rintro e w2 ⟨rfl, h⟩
    go_wp2_with fail
    refine (cG.out _).mono ?_
    rintro e w3 ⟨rfl, rfl⟩
    go_wp2
    go_ret
    exact RetQ.of rfl h

set_option maxHeartbeats 1000000 in
theorem calls_bad (s : ByteArray) (fo : Bool) (A : Option Addr) (ca n : Nat) (c : Int) (t : ByteArray) (w : World) (hs : s.size ≤ maxLen) (ht : t.size ≤ maxLen) (hn : n ≤ 400) (g : s.size ≤ 300 ∧ t.size ≤ 260) (x : Int) (hx : x ≠ 0) (hb : BadNew s fo x) (hr : BadRef s fo x) :
    Calls Try.prog 4 #[.string s, .bool fo, .slice A n ca, .int .u8 c, .string t] w (RetQ true w) := by
  have cL := Lib.hid (fun w => lives_any w)
  have cG := Lib.hid (fun w1 => light_any s t w1 hs ht)
  have cN := Lib.hid hb
  have cR := Lib.hid hr
  unfold BadNew at cN
  unfold BadRef at cR
  rw [show decide (s.size ≤ 300 ∧ t.size ≤ 260) = true from decide_eq_true g] at cG
  clear g hb hr hs ht
  go_enter Try.func4, Try.ntmps4
  go_wp2_with fail
  refine (cL.out _).mono ?_
  rintro e w2 ⟨rfl, h⟩
  go_wp2_with fail
  refine (cG.out _).mono ?_
  rintro e w3 ⟨rfl, rfl⟩
  go_wp2_with fail
  refine (cN.out _).mono ?_
  rintro e w4 ⟨rfl, h4⟩
  have k4 := Keeps.trans h h4
  clear h h4
  go_wp2_with fail
  refine (cR.out _).mono ?_
  rintro e w5 ⟨rfl, h5⟩
  have k5 := Keeps.trans k4 h5
  clear k4 h5
  go_wp2
  go_ret
  exact RetQ.of rfl k5

theorem same_true (A B : Option Addr) (c d : Nat) (xs : List Int) (w : World) (hx : IntsAt w A xs) (hy : IntsAt w B xs) (hl : xs.length ≤ 100000) : Calls Try.prog 11 #[.slice A xs.length c, .slice B xs.length d] w (RetQ true w) := by
  have h := same_any A B c d xs xs w hx hy hl hl
  rw [show decide (xs = xs) = true from decide_eq_true rfl] at h
  exact h

set_option maxRecDepth 100000 in
set_option maxHeartbeats 2000000 in
theorem calls_good (s : ByteArray) (fo : Bool) (A : Option Addr) (ca : Nat) (ls : List Int) (c : UInt8) (t : ByteArray) (w : World) (N : List UInt8) (hs : s.size ≤ maxLen) (ht : t.size ≤ maxLen) (hn : ls.length ≤ 400) (g : s.size ≤ 300 ∧ t.size ≤ 260) (hb : GoodNew s fo N) (hr : GoodRef s fo N) (hN : N.length ≤ 255) (h1 : IntsAt w A ls) (n1 : ls = [] ∨ A ≠ none) :
    Calls Try.prog 4 #[.string s, .bool fo, .slice A ls.length ca, .int .u8 c.toNat, .string t] w (RetQ true w) := by
  have cL := Lib.hid (fun w => lives_any w)
  have cG := Lib.hid (fun w1 => light_any s t w1 hs ht)
  have cN := Lib.hid hb
  have cR := Lib.hid hr
  unfold GoodNew at cN
  unfold GoodRef at cR
  rw [show decide (s.size ≤ 300 ∧ t.size ≤ 260) = true from decide_eq_true g] at cG
  have H1 := Lib.hid h1
  have HT := Lib.hid ht
  clear g hb hr hs ht h1
  go_enter Try.func4, Try.ntmps4
  go_wp2_with fail
  refine (cL.out _).mono ?_
  rintro e w2 ⟨rfl, h⟩
  go_wp2_with fail
  refine (cG.out _).mono ?_
  rintro e w3 ⟨rfl, rfl⟩
  go_wp2_with fail
  refine (cN.out _).mono ?_
  rintro e w4 ⟨P, hP, rfl, hA, h4⟩
  have K4 := Lib.hid (Keeps.trans h h4)
  have HA4 := Lib.hid hA
  clear h h4 hA hP
  go_wp2_with fail
  refine (cR.out _).mono ?_
  rintro e w5 ⟨R, hR, rfl, hQ, h5⟩
  have K5 := Lib.hid (Keeps.trans K4.out h5)
  have HA5 := Lib.hid (HA4.out.keeps h5)
  have HR5 := Lib.hid hQ
  clear K4 h5 HA4 hQ hR
  have cP := Lib.hid (fun w1 h1 => pattern_any P N fo w1 h1)
  go_wp2_with fail
  refine (cP.out _ HA5.out).mono ?_
  rintro e w6 ⟨rfl, h6⟩
  have K6 := Lib.hid (Keeps.trans K5.out h6)
  have HA6 := Lib.hid (HA5.out.keeps h6)
  have HR6 := Lib.hid (HR5.out.keeps h6)
  clear K5 h6 HA5 HR5
  have HA7 : Hid (NfaAt w6.drew P N fo) := Lib.hid ⟨HA6.out.c0, HA6.out.c1, HA6.out.c2, HA6.out.c3⟩
  have HR7 : Hid (RefAt w6.drew R N fo) := Lib.hid ⟨HR6.out.c0, HR6.out.c1⟩
  have K7 : Hid (Keeps w w6.drew) := Lib.hid (K6.out.drew)
  have HI7 := Lib.hid (H1.out.keeps K7.out)
  have e0 : w6.drew.cell? ⟨R, 0, none⟩ = some (.string (S N)) := HR6.out.c0
  have e1 : w6.drew.cell? ⟨R, 1, none⟩ = some (.bool fo) := HR6.out.c1
  have hwr : IntKind.i64.wrap ((N.length : Int) + 1) = (N.length : Int) + 1 := by simp [IntKind.wrap, IntKind.bits, IntKind.signed]; omega
  have hself : ((((N.length : Nat) : Int) + 1) == IntKind.i64.wrap (((S N).size : Int) + 1)) = true := by rw [S_size, hwr]; simp
  clear hwr
  have hstr : ((S N).toList == (S N).toList) = true := by simp
  have c10 := Lib.hid (fun w1 (k : Keeps w6.drew w1) => states_any P N fo w1 (by omega) (HA7.out.keeps k))
  have c12 := Lib.hid (fun w1 (k : Keeps w6.drew w1) => Start_any P N fo w1 (by omega) (HA7.out.keeps k))
  have c18 := Lib.hid (fun w1 (k : Keeps w6.drew w1) => rStart_any R N fo w1 (by omega) (HR7.out.keeps k))
  have c19 := Lib.hid (fun w1 (k : Keeps w6.drew w1) => own_any A ca ls w1 (HI7.out.keeps k) n1 (by omega))
  have c13 := Lib.hid (fun A cp w1 (k : Keeps w6.drew w1) h2 => Step_any P N fo A cp ls c w1 (by omega) (HA7.out.keeps k) h2 (by omega))
  have c20 := Lib.hid (fun w1 (k : Keeps w6.drew w1) => rStep_any R N fo A ca ls c w1 (by omega) (HR7.out.keeps k) (HI7.out.keeps k) (by omega))
  have c14 := Lib.hid (fun A cp w1 (k : Keeps w6.drew w1) h2 => Accepts_any P N fo A cp ls w1 (by omega) (HA7.out.keeps k) h2 (by omega))
  have c21 := Lib.hid (fun w1 (k : Keeps w6.drew w1) => rAccepts_any R N fo A ca ls w1 (by omega) (HR7.out.keeps k) (HI7.out.keeps k) (by omega))
  have c15 := Lib.hid (fun w1 (k : Keeps w6.drew w1) => Run_any P N fo t w1 (by omega) HT.out (HA7.out.keeps k))
  have c22 := Lib.hid (fun w1 (k : Keeps w6.drew w1) => rRun_any R N fo t w1 (by omega) HT.out (HR7.out.keeps k))
  have b1 : (zl (startL N)).length ≤ 100000 := by rw [zl_len]; exact Nat.le_trans (lstN_len _ _) (by omega)
  have b2 : (zl (stepZ N fo ls c)).length ≤ 100000 := by rw [zl_len]; exact Nat.le_trans (lstN_len _ _) (by omega)
  generalize zl (startL N) = z1 at c12 c18 b1
  generalize zl (stepZ N fo ls c) = z2 at c13 c20 b2
  generalize memZ ls N.length = qa at c14 c21
  generalize runB N fo t.data.toList = qr at c15 c22
  have hqa : (qa == qa) = true := by simp
  have hqr : (qr == qr) = true := by simp
  have hfo : (fo == fo) = true := by simp
  clear HA6 HR6 K6 H1 cN cR cG cL cP HT
  go_wp2_with fail
  go_region_held3 (fun w' => w'.cell? ⟨R, 0, none⟩ = some (.string (S N)) ∧ w'.cell? ⟨R, 1, none⟩ = some (.bool fo)) (exact ⟨by assumption, by assumption⟩)
    (first | (go_at_call 10; refine (c10.out _ (Keeps.refl _)).mono ?_; rintro e w' ⟨rfl, rfl⟩) | (go_at_call 12; refine (c12.out _ (Keeps.refl _)).mono ?_; rintro e w21 ⟨⟨v, rfl, ho⟩, k⟩; obtain ⟨A21, q21, rfl, i21, _⟩ := IntsAt.own ho; have I21 := Lib.hid i21; clear ho i21; have K21 := Lib.hid (k); have sa21 := K21.out.cell e0; have sb21 := K21.out.cell e1; clear k) | (go_at_call 18; refine (c18.out _ K21.out).mono ?_; rintro e w22 ⟨⟨v, rfl, ho⟩, k⟩; obtain ⟨A22, q22, rfl, i22, _⟩ := IntsAt.own ho; have I22 := Lib.hid i22; have J21 := Lib.hid (I21.out.keeps k); clear ho i22; have K22 := Lib.hid (Keeps.trans K21.out k); have sa22 := K22.out.cell e0; have sb22 := K22.out.cell e1; clear k) | (go_at_call 11; refine (same_true A25 A26 q25 q26 z2 _ J25.out I26.out b2).mono ?_; rintro e w27 ⟨rfl, k⟩; have K27 := Lib.hid (Keeps.trans K26.out k); have sa27 := K27.out.cell e0; have sb27 := K27.out.cell e1; clear k) | (go_at_call 11; refine (same_true A21 A22 q21 q22 z1 _ J21.out I22.out b1).mono ?_; rintro e w23 ⟨rfl, k⟩; have K23 := Lib.hid (Keeps.trans K22.out k); have sa23 := K23.out.cell e0; have sb23 := K23.out.cell e1; clear k) | (go_at_call 19; refine (c19.out _ K27.out).mono ?_; rintro e w28 ⟨⟨v, rfl, ho⟩, k⟩; obtain ⟨A28, q28, rfl, i28, _⟩ := IntsAt.own ho; have I28 := Lib.hid i28; clear ho i28; have K28 := Lib.hid (Keeps.trans K27.out k); have sa28 := K28.out.cell e0; have sb28 := K28.out.cell e1; clear k) | (go_at_call 19; refine (c19.out _ K23.out).mono ?_; rintro e w24 ⟨⟨v, rfl, ho⟩, k⟩; obtain ⟨A24, q24, rfl, i24, _⟩ := IntsAt.own ho; have I24 := Lib.hid i24; clear ho i24; have K24 := Lib.hid (Keeps.trans K23.out k); have sa24 := K24.out.cell e0; have sb24 := K24.out.cell e1; clear k) | (go_at_call 13; refine (c13.out A24 q24 _ K24.out I24.out).mono ?_; rintro e w25 ⟨⟨v, rfl, ho⟩, k⟩; obtain ⟨A25, q25, rfl, i25, _⟩ := IntsAt.own ho; have I25 := Lib.hid i25; clear ho i25; have K25 := Lib.hid (Keeps.trans K24.out k); have sa25 := K25.out.cell e0; have sb25 := K25.out.cell e1; clear k) | (go_at_call 20; refine (c20.out _ K25.out).mono ?_; rintro e w26 ⟨⟨v, rfl, ho⟩, k⟩; obtain ⟨A26, q26, rfl, i26, _⟩ := IntsAt.own ho; have I26 := Lib.hid i26; have J25 := Lib.hid (I25.out.keeps k); clear ho i26; have K26 := Lib.hid (Keeps.trans K25.out k); have sa26 := K26.out.cell e0; have sb26 := K26.out.cell e1; clear k) | (go_at_call 14; refine (c14.out A28 q28 _ K28.out I28.out).mono ?_; rintro e w29 ⟨rfl, k⟩; have K29 := Lib.hid (Keeps.trans K28.out k); have sa29 := K29.out.cell e0; have sb29 := K29.out.cell e1; clear k) | (go_at_call 21; refine (c21.out _ K29.out).mono ?_; rintro e w30 ⟨rfl, k⟩; have K30 := Lib.hid (Keeps.trans K29.out k); have sa30 := K30.out.cell e0; have sb30 := K30.out.cell e1; clear k) | (go_at_call 15; refine (c15.out _ K30.out).mono ?_; rintro e w31 ⟨rfl, k⟩; have K31 := Lib.hid (Keeps.trans K30.out k); have sa31 := K31.out.cell e0; have sb31 := K31.out.cell e1; clear k) | (go_at_call 22; refine (c22.out _ K31.out).mono ?_; rintro e w32 ⟨rfl, k⟩; have K32 := Lib.hid (Keeps.trans K31.out k); have sa32 := K32.out.cell e0; have sb32 := K32.out.cell e1; clear k))
  all_goals go_wp2
  all_goals go_ret
  all_goals exact RetQ.of rfl (Keeps.trans K7.out K32.out)
end Go.Proofs.Ytmcogncpncfpmaa
