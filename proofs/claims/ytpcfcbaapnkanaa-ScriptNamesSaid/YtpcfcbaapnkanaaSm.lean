/-
  Scripts compared: Equal of cuts, the closure in Same, EqualFunc of steps, Same.
-/
import Derived.Test.YtpcfcbaapnkanaaBs
import Derived.Deep.LoopGhost
namespace Go.Proofs.Ytpcfcbaapnkanaa
open Go.RowKit

theorem S_list (l : List UInt8) : (S l).toList = l := by rw [ByteArray.toList_eq]; rfl
theorem S_eq (a b : List UInt8) : ((S a).toList == (S b).toList) = decide (a = b) := by
  rw [ByteArray.toList_eq, ByteArray.toList_eq, S_data, S_data]
  by_cases h : a = b <;> simp [h]
set_option maxRecDepth 100000 in
theorem eq_inp_in (d : Nat) (a b : Inp) (w : World) : (Op.equalIn (d + 2) 28 (.agg (inC a)) (.agg (inC b))).run Try.prog w = .ok (decide (a = b)) w := by
  have u3 := Try.underlying3
  have u2 := Try.underlying2
  have u4 := Try.underlying4
  have u9 := Try.underlying9
  have hS : Try.prog.underlying 28 = some (.struct (Try.prog.fieldsOf 28)) := by kernel_rfl
  have hp : Try.prog.stoodInHeld 28 = false := by kernel_rfl
  have a3 := Try.isAgg3
  have a2 := Try.isAgg2
  have a4 := Try.isAgg4
  have a9 := Try.isAgg9
  have z3 := Try.sizeOf3
  have z2 := Try.sizeOf2
  have z4 := Try.sizeOf4
  have z9 := Try.sizeOf9
  obtain ⟨k, c, n, o, t⟩ := a
  obtain ⟨k', c', n', o', t'⟩ := b
  rw [run_equalIn_agg w (d + 1) 28 _ _ hS hp]
  simp only [Program.fieldsOf, Try.underlying28, inC]
  go_simp
  by_cases h1 : k = k' <;> by_cases h2 : c = c' <;> by_cases h3 : n = n' <;> by_cases h4 : o = o' <;> by_cases h5 : t = t' <;> simp [h1, h2, h3, h4, h5, S_list]
theorem eql_inp (a b : Inp) (w : World) : (binOp .eql 28 (.agg (inC a)) (.agg (inC b))).run Try.prog w = .ok (.bool (decide (a = b))) w := by
  rw [run_eql_struct, show (10000 : Nat) = 9998 + 2 from rfl, eq_inp_in]
  rfl

set_option maxHeartbeats 4000000 in
set_option maxRecDepth 100000 in
theorem same_ints (A B : Option Addr) (ca cb : Nat) (za zb : List Int) (w : World) (ha : CutsAt w A za) (hb : CutsAt w B zb) (hl : za.length ≤ 1000000000) :
    Calls Try.prog 32 #[.slice A za.length ca, .slice B zb.length cb] w (Ret (.bool (decide (za = zb))) w) := by
  by_cases hne : za.length = zb.length
  · have HA := Lib.hid ha
    have HB := Lib.hid hb
    generalize hR : decide (za = zb) = R
    have HR := Lib.hid hR
    generalize hL : za.length = L at *
    have HLa := Lib.hid hL
    have HLb := Lib.hid hne
    rw [← hne]
    have f0 : ((L : Int) != (L : Int)) = false := by simp
    clear ha hb hR hL hne
    go_enter Try.func32, Try.ntmps32
    go_wp2
    clear f0
    go_loopg [13] (L + 1) (fun g i wr => ∃ k : Nat, i = .int .i64 (k : Int) ∧ k ≤ L ∧ L - k < g ∧ Hid (Keeps w wr ∧ za.take k = zb.take k))
    case atStart => exact ⟨0, rfl, Nat.zero_le _, by omega, Lib.hid ⟨Keeps.refl w, rfl⟩⟩
    case round =>
      obtain ⟨k, rfl, hkL, hkg, hI⟩ := hrel
      by_cases hlt : k < L
      · have h1 : k < za.length := by rw [HLa.out]; exact hlt
        have h2 : k < zb.length := by rw [← HLb.out]; exact hlt
        obtain ⟨hK, htk⟩ := hI.out
        obtain ⟨g1, o1, hA1, c1⟩ := (CutsAt.keeps HA.out hK) k h1
        obtain ⟨g2, o2, hB1, c2⟩ := (CutsAt.keeps HB.out hK) k h2
        subst hA1 hB1
        have t1 := List.take_succ_eq_append_getElem h1
        have t2 := List.take_succ_eq_append_getElem h2
        have HT : Hid (za[k]'h1 = zb[k]'h2 → za.take (k + 1) = zb.take (k + 1)) := Lib.hid (fun e => by rw [t1, t2, htk, e])
        have HF : Hid (za[k]'h1 ≠ zb[k]'h2 → R = false) := Lib.hid (fun e => by
          rw [← HR.out]
          exact decide_eq_false (fun e2 => e (by subst e2; rfl)))
        have HK := Lib.hid hK
        generalize za[k]'h1 = x at *
        generalize zb[k]'h2 = y at *
        have f1 : decide ((k : Int) < (L : Int)) = true := by simp; omega
        have f1' : decide (k < L) = true := by simpa using hlt
        have q1 : (0 : Int) ≤ (k : Int) := by omega
        have q2 : (k : Int) < (L : Int) := by omega
        clear t1 t2 htk hI hK
        by_cases hxy : x = y
        · have f2 : (x == y) = true := by simpa using hxy
          have f2' : (x != y) = false := by simp only [bne, f2]; rfl
          have hT := Lib.hid (HT.out hxy)
          clear hxy
          go_wp2
          go_quiet (fail)
          go_wp2
          cases gk with
          | zero => omega
          | succ g2 =>
            go_roundg g2
            case measure => omega
            case rel => exact ⟨k + 1, by go_num, by omega, by omega, Lib.hid ⟨HK.out.drewN _, hT.out⟩⟩
        · have f2 : (x == y) = false := by simpa using hxy
          have f2' : (x != y) = true := by simp only [bne, f2]; rfl
          have hF := Lib.hid (HF.out hxy)
          clear hxy
          go_wp2
          go_quiet (fail)
          go_wp2
          go_ret
          exact ⟨by rw [hF.out]; rfl, HK.out.drewN _⟩
      · obtain ⟨hK, htk⟩ := hI.out
        rw [List.take_of_length_le (by rw [HLa.out]; omega), List.take_of_length_le (by rw [← HLb.out]; omega)] at htk
        have hR : R = true := by rw [← HR.out]; exact decide_eq_true htk
        have HR2 := Lib.hid hR
        have HK := Lib.hid hK
        have f1 : decide ((k : Int) < (L : Int)) = false := by simp; omega
        have f1' : decide (k < L) = false := by simpa using hlt
        clear htk hI hR hK
        go_wp2
        go_ret
        exact ⟨by rw [HR2.out]; rfl, HK.out⟩
  · have hz : za ≠ zb := fun e => hne (by rw [e])
    rw [decide_eq_false hz]
    have f0 : ((za.length : Int) != (zb.length : Int)) = true := by simp; omega
    generalize za.length = la at *
    generalize zb.length = lb at *
    clear hz ha hb
    go_enter Try.func32, Try.ntmps32
    go_wp2
    go_ret
    exact ⟨rfl, Keeps.refl _⟩

set_option maxHeartbeats 4000000 in
set_option maxRecDepth 100000 in
theorem same_step (m m' : Ms) (w : World) (h : MsOk w m) (h' : MsOk w m') (hl : m.s.cuts.length ≤ 1000000000) :
    Calls Try.prog 31 #[.agg (msC m), .agg (msC m')] w (Ret (.bool (decide (m.s = m'.s))) w) := by
  have KX := Lib.hid (((Keeps.refl w).alloc (.cells (msC m) 31)).alloc (.cells (msC m') 31))
  have cE := Lib.hid (same_ints m.A m'.A m.c m'.c m.s.cuts m'.s.cuts _ (CutsAt.keeps h KX.out) (CutsAt.keeps h' KX.out) hl)
  have pE := fun wx => eql_inp m.s.inp m'.s.inp wx
  have e0 : decide (m.s = m'.s) = (decide (m.s.crash = m'.s.crash) && decide (m.s.inp = m'.s.inp) && decide (m.s.cuts = m'.s.cuts)) := by
    obtain ⟨⟨a, b, c⟩, A, n⟩ := m
    obtain ⟨⟨a', b', c'⟩, A', n'⟩ := m'
    by_cases h1 : a = a' <;> by_cases h2 : b = b' <;> by_cases h3 : c = c' <;> simp [h1, h2, h3]
  rw [e0]
  clear e0 h h' hl
  generalize decide (m.s.cuts = m'.s.cuts) = rc at *
  generalize decide (m.s.inp = m'.s.inp) = ri at *
  unfold msC at *
  unfold inC at pE
  generalize m.s.cuts.length = L at *
  generalize m'.s.cuts.length = L' at *
  have f : (m.s.crash == m'.s.crash) = decide (m.s.crash = m'.s.crash) := rfl
  generalize decide (m.s.crash = m'.s.crash) = rr at *
  cases rr with
  | false =>
    simp only [Bool.false_and]
    go_enter Try.func31, Try.ntmps31
    go_wp2
    go_ret
    exact ⟨rfl, KX.out⟩
  | true =>
    cases ri with
    | false =>
      simp only [Bool.and_false, Bool.false_and]
      go_enter Try.func31, Try.ntmps31
      go_wp2
      go_ret
      exact ⟨rfl, KX.out⟩
    | true =>
      simp only [Bool.true_and]
      go_enter Try.func31, Try.ntmps31
      go_wp2_with fail
      refine cE.out.mono ?_
      rintro e w1 ⟨rfl, k1⟩
      have K1 := Lib.hid (KX.out.trans k1)
      clear k1
      go_wp2
      go_ret
      exact ⟨rfl, K1.out⟩
end Go.Proofs.Ytpcfcbaapnkanaa
