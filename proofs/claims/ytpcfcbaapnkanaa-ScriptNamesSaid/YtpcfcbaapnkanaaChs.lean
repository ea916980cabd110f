/-
  What is wrong with a step: IndexFunc, ContainsFunc, checkStep.
-/
import Derived.Test.YtpcfcbaapnkanaaSba
namespace Go.Proofs.Ytpcfcbaapnkanaa
open Go.RowKit

set_option maxHeartbeats 1000000 in
set_option maxRecDepth 10000 in
theorem cut_any (c : Int) (w : World) : Calls Try.prog 53 #[.int .i64 c] w (RetB (PS.cutOut c) w) := by
  have e : PS.cutOut c = (decide (c < 0) || decide (600 < c)) := rfl
  rw [e]
  by_cases h0 : c < 0
  · have f : decide (c < 0) = true := by simpa using h0
    rw [f]
    go_enter Try.func53, Try.ntmps53
    go_wp2
    go_ret
    exact ⟨rfl, rfl⟩
  · have f : decide (c < 0) = false := by simpa using h0
    rw [f, Bool.false_or]
    go_enter Try.func53, Try.ntmps53
    go_wp2
    go_ret
    exact ⟨rfl, rfl⟩

/-- A number, and nothing else: not below nought if a cut is out. -/
def IdxPost (b : Bool) (w : World) (e : Ending) (w' : World) : Prop := ∃ k : Int, e = .returned (.int .i64 k) ∧ decide (0 ≤ k) = b ∧ w = w'

set_option maxHeartbeats 4000000 in
set_option maxRecDepth 10000 in
theorem index_any (A : Option Addr) (c : Nat) (l : List Int) (w : World) (h : CutsAt w A l) (hlen : l.length ≤ maxLen) :
    Calls Try.prog 70 #[.slice A l.length c, .func (.func 53) #[] #[]] w (IdxPost (l.any PS.cutOut) w) := by
  unfold maxLen at hlen
  have HA := Lib.hid h
  generalize hL : l.length = L at *
  generalize hR : l.any PS.cutOut = R
  have HL := Lib.hid hL
  have HR := Lib.hid hR
  clear h hL hR
  go_enter Try.func70, Try.ntmps70
  go_wp2
  go_loop [8] (fun i => ∃ k : Nat, k ≤ L ∧ i = .int .i64 k ∧ (l.take k).any PS.cutOut = false) (fun i => L - (intOf i).toNat)
  case atStart => exact ⟨0, Nat.zero_le _, rfl, rfl⟩
  case round =>
    obtain ⟨k, hk, rfl, hall⟩ := hrel
    have HALL := Lib.hid hall
    clear hall
    by_cases hlt : k < L
    · have hlt' : k < l.length := by rw [HL.out]; exact hlt
      obtain ⟨g, o, hAe, hc⟩ := HA.out k hlt'
      subst hAe
      have htk : (l.take (k + 1)).any PS.cutOut = PS.cutOut (l[k]'hlt') := by
        rw [List.take_succ_eq_append_getElem hlt', List.any_append, HALL.out]; simp
      have hmem := List.getElem_mem hlt'
      generalize l[k]'hlt' = x at *
      have HTK := Lib.hid htk
      have cX := cut_any x w
      cases hp : PS.cutOut x
      · rw [hp] at cX
        have hok : Hid ((l.take (k + 1)).any PS.cutOut = false) := Lib.hid (by rw [HTK.out, hp])
        clear htk hp hmem
        go_wp2_with (go_at_call 53; refine cX.mono ?_; rintro e w' ⟨rfl, rfl⟩)
        go_round
        case rel => exact ⟨k + 1, by omega, by go_num, hok.out⟩
        case measure => simp [intOf]; omega
      · rw [hp] at cX
        have hok : Hid (R = true) := Lib.hid (by rw [← HR.out]; exact List.any_eq_true.2 ⟨x, hmem, hp⟩)
        clear htk hp hmem
        go_wp2_with (go_at_call 53; refine cX.mono ?_; rintro e w' ⟨rfl, rfl⟩)
        go_ret
        exact ⟨(k : Int), rfl, by rw [hok.out]; simp, rfl⟩
    · have hok : Hid (R = false) := Lib.hid (by rw [← HR.out, ← HALL.out, List.take_of_length_le (by rw [HL.out]; omega)])
      go_wp2
      go_ret
      exact ⟨-1, rfl, by rw [hok.out]; rfl, rfl⟩

set_option maxHeartbeats 1000000 in
set_option maxRecDepth 10000 in
theorem contains_any (A : Option Addr) (c : Nat) (l : List Int) (w : World) (h : CutsAt w A l) (hlen : l.length ≤ maxLen) :
    Calls Try.prog 52 #[.slice A l.length c, .func (.func 53) #[] #[]] w (RetB (l.any PS.cutOut) w) := by
  have cI := Lib.hid (index_any A c l w h hlen)
  generalize l.any PS.cutOut = R at *
  generalize l.length = L at *
  clear h hlen
  go_enter Try.func52, Try.ntmps52
  go_wp2_with fail
  refine cI.out.mono ?_
  rintro e w' ⟨k, rfl, hk, rfl⟩
  have HK := Lib.hid hk
  clear hk
  go_wp2
  go_ret
  refine ⟨?_, rfl⟩
  show Ending.returned (.bool (decide (0 ≤ k))) = _
  rw [HK.out]

set_option maxHeartbeats 8000000 in
set_option maxRecDepth 10000 in
theorem checkStep_any (m : Ms) (w : World) (h : MsOk w m) (hl : m.s.cuts.length ≤ maxLen) (ht : m.s.inp.t.length ≤ maxLen) :
    Calls Try.prog 29 #[.agg (msC m)] w (Ret (.int .i64 (PS.stepC K0 m.s)) w) := by
  have cK := Lib.hid (fun wx => check_any m.s.inp.k m.s.inp.code m.s.inp.n m.s.inp.ok (S m.s.inp.t) wx ht)
  have cC := Lib.hid (fun wx (k : Keeps w wx) => contains_any m.A m.c m.s.cuts wx (CutsAt.keeps h k) hl)
  have KX := Lib.hid ((Keeps.refl w).alloc (.cells (msC m) 31))
  have HB := Lib.hid (MsB.new w m)
  unfold maxLen at hl
  have e0 : PS.stepC K0 m.s = (if m.s.inp.chk ≠ 0 then m.s.inp.chk else if 0 < m.s.cuts.length ∧ m.s.crash = false then 2 else if 16 < m.s.cuts.length then 4 else if m.s.cuts.any PS.cutOut = true then 2 else 0) := rfl
  have e1 : m.s.inp.chk = chk m.s.inp.k m.s.inp.code m.s.inp.n m.s.inp.ok (S m.s.inp.t).size := rfl
  rw [e0, e1]
  clear e0 e1 h ht
  generalize chk m.s.inp.k m.s.inp.code m.s.inp.n m.s.inp.ok (S m.s.inp.t).size = r at *
  generalize m.s.cuts.any PS.cutOut = o at *
  generalize hL : m.s.cuts.length = L at *
  generalize hW : w.alloc (.cells (msC m) 31) = W at *
  have HW := Lib.hid hW
  have HL := Lib.hid hL
  unfold msC at hW ⊢
  unfold inV at cK
  rw [hL] at hW ⊢
  clear hL
  obtain ⟨d0, d1, d2, d3, d4, d5, d6⟩ := HB.out.cells
  generalize hCR : m.s.crash = cr at *
  have HCR := Lib.hid hCR
  clear hCR
  by_cases hr : r = 0
  · subst hr
    rw [if_neg (by simp)]
    by_cases h1 : 0 < L ∧ cr = false
    · rw [if_pos h1]
      obtain ⟨h1, rfl⟩ := h1
      have f1 : 0 < L := by omega
      go_enter Try.func29, Try.ntmps29
      go_wp2_with fail
      clear hW
      refine (cK.out _).mono ?_
      rintro e w1 ⟨rfl, k1⟩
      have K1 := Lib.hid (KX.out.trans k1)
      have B1 := Lib.hid (HB.out.keeps k1)
      clear k1 d0 d1 d2 d3 d4 d5 d6
      obtain ⟨d0, d1, d2, d3, d4, d5, d6⟩ := B1.out.cells
      rw [HL.out] at d6
      rw [HCR.out] at d0
      have cC1 := Lib.hid (cC.out w1 K1.out)
      clear d1 d2 d3 d4 d5
      go_wp2
      go_ret
      exact ⟨rfl, K1.out⟩
    · rw [if_neg h1]
      have key : (0 < L ∧ cr = true) ∨ L = 0 := by
        rcases Nat.eq_zero_or_pos L with h | h
        · exact .inr h
        · refine .inl ⟨h, ?_⟩
          cases cr
          · exact absurd ⟨h, rfl⟩ h1
          · rfl
      clear h1
      by_cases h2 : 16 < L
      · rw [if_pos h2]
        have hcr : cr = true := by
          rcases key with ⟨_, h⟩ | h
          · exact h
          · omega
        subst hcr
        have f1 : 0 < L := by omega
        have f2 : (16 : Int) < (L : Int) := by omega
        clear key h2
        go_enter Try.func29, Try.ntmps29
        go_wp2_with fail
        clear hW
        refine (cK.out _).mono ?_
        rintro e w1 ⟨rfl, k1⟩
        have K1 := Lib.hid (KX.out.trans k1)
        have B1 := Lib.hid (HB.out.keeps k1)
        clear k1 d0 d1 d2 d3 d4 d5 d6
        obtain ⟨d0, d1, d2, d3, d4, d5, d6⟩ := B1.out.cells
        rw [HL.out] at d6
        rw [HCR.out] at d0
        have cC1 := Lib.hid (cC.out w1 K1.out)
        clear d1 d2 d3 d4 d5
        go_wp2
        go_ret
        exact ⟨rfl, K1.out⟩
      · rw [if_neg h2]
        have f2 : (L : Int) ≤ 16 := by omega
        rcases key with ⟨hp, rfl⟩ | hz
        · have f1 : 0 < L := by omega
          clear hp h2
          cases o
          all_goals
            simp only [if_true, if_false, Bool.false_eq_true]
            go_enter Try.func29, Try.ntmps29
            go_wp2_with fail
            clear hW
            refine (cK.out _).mono ?_
            rintro e w1 ⟨rfl, k1⟩
            have K1 := Lib.hid (KX.out.trans k1)
            have B1 := Lib.hid (HB.out.keeps k1)
            clear k1 d0 d1 d2 d3 d4 d5 d6
            obtain ⟨d0, d1, d2, d3, d4, d5, d6⟩ := B1.out.cells
            rw [HL.out] at d6
            rw [HCR.out] at d0
            have cC1 := Lib.hid (cC.out w1 K1.out)
            clear d1 d2 d3 d4 d5
            go_wp2_with fail
            refine cC1.out.mono ?_
            rintro e w2 ⟨rfl, rfl⟩
            go_wp2
            go_ret
            exact ⟨rfl, K1.out⟩
        · have f1 : ¬ 0 < L := by omega
          clear hz h2
          cases o
          all_goals
            simp only [if_true, if_false, Bool.false_eq_true]
            go_enter Try.func29, Try.ntmps29
            go_wp2_with fail
            clear hW
            refine (cK.out _).mono ?_
            rintro e w1 ⟨rfl, k1⟩
            have K1 := Lib.hid (KX.out.trans k1)
            have B1 := Lib.hid (HB.out.keeps k1)
            clear k1 d0 d1 d2 d3 d4 d5 d6
            obtain ⟨d0, d1, d2, d3, d4, d5, d6⟩ := B1.out.cells
            rw [HL.out] at d6
            rw [HCR.out] at d0
            have cC1 := Lib.hid (cC.out w1 K1.out)
            clear d1 d2 d3 d4 d5
            go_wp2_with fail
            refine cC1.out.mono ?_
            rintro e w2 ⟨rfl, rfl⟩
            go_wp2
            go_ret
            exact ⟨rfl, K1.out⟩
  · rw [if_pos hr]
    have f0 : (r != 0) = true := by simpa using hr
    clear hr
    go_enter Try.func29, Try.ntmps29
    go_wp2_with fail
    clear hW
    refine (cK.out _).mono ?_
    rintro e w1 ⟨rfl, k1⟩
    have K1 := Lib.hid (KX.out.trans k1)
    clear k1 d0 d1 d2 d3 d4 d5 d6
    go_wp2
    go_ret
    exact ⟨rfl, K1.out⟩
end Go.Proofs.Ytpcfcbaapnkanaa
