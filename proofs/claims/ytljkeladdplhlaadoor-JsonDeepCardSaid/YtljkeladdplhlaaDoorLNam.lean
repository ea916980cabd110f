/-
  The law JsonNames, walked.
-/
import Derived.Test.YtljkeladdplhlaaDoorMan
namespace Go.Proofs.YtljkeladdplhlaaDoor
open Go.RowKit

set_option maxRecDepth 100000 in
theorem res0 : (parseJ [123, 34, 97, 34, 58, 49, 44, 34, 97, 34, 58, 50, 125]).2 = 8 := by decide +kernel
theorem call0 (w : World) (hu : Utf w) : Calls Tryd.prog 9 #[.string ⟨#[123, 34, 97, 34, 58, 49, 44, 34, 97, 34, 58, 50, 125]⟩] w (fun e w' => Keeps w w' ∧ ∃ jk jn jt ka kl kc ia il ic, e = .returned (.tuple #[.agg #[.int .i64 jk, .int .i64 jn, .string jt, .slice ka kl kc, .slice ia il ic], .int .i64 8])) := by
  refine (parse_any ⟨#[123, 34, 97, 34, 58, 49, 44, 34, 97, 34, 58, 50, 125]⟩ w hu (by decide)).mono fun e w' h => ⟨h.1, ?_⟩
  obtain ⟨jk, jn, jt, ka, kl, kc, ia, il, ic, rfl⟩ := h.form
  rw [show (⟨#[123, 34, 97, 34, 58, 49, 44, 34, 97, 34, 58, 50, 125]⟩ : ByteArray).data.toList = [123, 34, 97, 34, 58, 49, 44, 34, 97, 34, 58, 50, 125] from rfl, res0]
  exact ⟨_, _, _, _, _, _, _, _, _, rfl⟩
set_option maxRecDepth 100000 in
theorem res1 : (readJ 1 [91, 91, 93, 93]).2.2 = 7 := by decide +kernel
theorem call1 (w : World) (hu : Utf w) : Calls Tryd.prog 10 #[.string ⟨#[91, 91, 93, 93]⟩, .int .i64 1] w (fun e w' => Keeps w w' ∧ ∃ jk jn jt ka kl kc ia il ic m, e = .returned (.tuple #[.agg #[.int .i64 jk, .int .i64 jn, .string jt, .slice ka kl kc, .slice ia il ic], .int .i64 m, .int .i64 7])) := by
  refine (read_any ⟨#[91, 91, 93, 93]⟩ 1 w hu (by decide)).mono fun e w' h => ⟨h.1, ?_⟩
  obtain ⟨jk, jn, jt, ka, kl, kc, ia, il, ic, rfl⟩ := h.form
  rw [show (⟨#[91, 91, 93, 93]⟩ : ByteArray).data.toList = [91, 91, 93, 93] from rfl, res1]
  exact ⟨_, _, _, _, _, _, _, _, _, _, rfl⟩
set_option maxRecDepth 100000 in
theorem res2 : (readJ 2 [91, 91, 93, 93]).2.2 = 0 := by decide +kernel
theorem call2 (w : World) (hu : Utf w) : Calls Tryd.prog 10 #[.string ⟨#[91, 91, 93, 93]⟩, .int .i64 2] w (fun e w' => Keeps w w' ∧ ∃ jk jn jt ka kl kc ia il ic m, e = .returned (.tuple #[.agg #[.int .i64 jk, .int .i64 jn, .string jt, .slice ka kl kc, .slice ia il ic], .int .i64 m, .int .i64 0])) := by
  refine (read_any ⟨#[91, 91, 93, 93]⟩ 2 w hu (by decide)).mono fun e w' h => ⟨h.1, ?_⟩
  obtain ⟨jk, jn, jt, ka, kl, kc, ia, il, ic, rfl⟩ := h.form
  rw [show (⟨#[91, 91, 93, 93]⟩ : ByteArray).data.toList = [91, 91, 93, 93] from rfl, res2]
  exact ⟨_, _, _, _, _, _, _, _, _, _, rfl⟩
set_option maxRecDepth 100000 in
theorem res3 : (parseJ [116, 114, 117]).2 = 3 := by decide +kernel
theorem call3 (w : World) (hu : Utf w) : Calls Tryd.prog 9 #[.string ⟨#[116, 114, 117]⟩] w (fun e w' => Keeps w w' ∧ ∃ jk jn jt ka kl kc ia il ic, e = .returned (.tuple #[.agg #[.int .i64 jk, .int .i64 jn, .string jt, .slice ka kl kc, .slice ia il ic], .int .i64 3])) := by
  refine (parse_any ⟨#[116, 114, 117]⟩ w hu (by decide)).mono fun e w' h => ⟨h.1, ?_⟩
  obtain ⟨jk, jn, jt, ka, kl, kc, ia, il, ic, rfl⟩ := h.form
  rw [show (⟨#[116, 114, 117]⟩ : ByteArray).data.toList = [116, 114, 117] from rfl, res3]
  exact ⟨_, _, _, _, _, _, _, _, _, rfl⟩
set_option maxRecDepth 100000 in
theorem res4 : (parseJ [116, 114, 117, 120]).2 = 5 := by decide +kernel
theorem call4 (w : World) (hu : Utf w) : Calls Tryd.prog 9 #[.string ⟨#[116, 114, 117, 120]⟩] w (fun e w' => Keeps w w' ∧ ∃ jk jn jt ka kl kc ia il ic, e = .returned (.tuple #[.agg #[.int .i64 jk, .int .i64 jn, .string jt, .slice ka kl kc, .slice ia il ic], .int .i64 5])) := by
  refine (parse_any ⟨#[116, 114, 117, 120]⟩ w hu (by decide)).mono fun e w' h => ⟨h.1, ?_⟩
  obtain ⟨jk, jn, jt, ka, kl, kc, ia, il, ic, rfl⟩ := h.form
  rw [show (⟨#[116, 114, 117, 120]⟩ : ByteArray).data.toList = [116, 114, 117, 120] from rfl, res4]
  exact ⟨_, _, _, _, _, _, _, _, _, rfl⟩
set_option maxRecDepth 100000 in
theorem res5 : (parseJ [91, 49, 44, 93]).2 = 5 := by decide +kernel
theorem call5 (w : World) (hu : Utf w) : Calls Tryd.prog 9 #[.string ⟨#[91, 49, 44, 93]⟩] w (fun e w' => Keeps w w' ∧ ∃ jk jn jt ka kl kc ia il ic, e = .returned (.tuple #[.agg #[.int .i64 jk, .int .i64 jn, .string jt, .slice ka kl kc, .slice ia il ic], .int .i64 5])) := by
  refine (parse_any ⟨#[91, 49, 44, 93]⟩ w hu (by decide)).mono fun e w' h => ⟨h.1, ?_⟩
  obtain ⟨jk, jn, jt, ka, kl, kc, ia, il, ic, rfl⟩ := h.form
  rw [show (⟨#[91, 49, 44, 93]⟩ : ByteArray).data.toList = [91, 49, 44, 93] from rfl, res5]
  exact ⟨_, _, _, _, _, _, _, _, _, rfl⟩
set_option maxRecDepth 100000 in
theorem res6 : (parseJ [32, 91, 32, 93, 32]).2 = 0 := by decide +kernel
theorem call6 (w : World) (hu : Utf w) : Calls Tryd.prog 9 #[.string ⟨#[32, 91, 32, 93, 32]⟩] w (fun e w' => Keeps w w' ∧ ∃ jk jn jt ka kl kc ia il ic, e = .returned (.tuple #[.agg #[.int .i64 jk, .int .i64 jn, .string jt, .slice ka kl kc, .slice ia il ic], .int .i64 0])) := by
  refine (parse_any ⟨#[32, 91, 32, 93, 32]⟩ w hu (by decide)).mono fun e w' h => ⟨h.1, ?_⟩
  obtain ⟨jk, jn, jt, ka, kl, kc, ia, il, ic, rfl⟩ := h.form
  rw [show (⟨#[32, 91, 32, 93, 32]⟩ : ByteArray).data.toList = [32, 91, 32, 93, 32] from rfl, res6]
  exact ⟨_, _, _, _, _, _, _, _, _, rfl⟩
set_option maxRecDepth 100000 in
theorem res7 : (parseJ [91, 93, 120]).2 = 5 := by decide +kernel
theorem call7 (w : World) (hu : Utf w) : Calls Tryd.prog 9 #[.string ⟨#[91, 93, 120]⟩] w (fun e w' => Keeps w w' ∧ ∃ jk jn jt ka kl kc ia il ic, e = .returned (.tuple #[.agg #[.int .i64 jk, .int .i64 jn, .string jt, .slice ka kl kc, .slice ia il ic], .int .i64 5])) := by
  refine (parse_any ⟨#[91, 93, 120]⟩ w hu (by decide)).mono fun e w' h => ⟨h.1, ?_⟩
  obtain ⟨jk, jn, jt, ka, kl, kc, ia, il, ic, rfl⟩ := h.form
  rw [show (⟨#[91, 93, 120]⟩ : ByteArray).data.toList = [91, 93, 120] from rfl, res7]
  exact ⟨_, _, _, _, _, _, _, _, _, rfl⟩

set_option maxHeartbeats 16000000 in
set_option maxRecDepth 100000 in
theorem names_any (w : World) (hu : Utf w) : Calls Tryd.prog 3 #[] w (Ret (.bool true) w) := by
  have hmk := fun w => hmk400 w
  have c0 := Lib.hid (fun wx h => call0 wx h)
  have c1 := Lib.hid (fun wx h => call1 wx h)
  have c2 := Lib.hid (fun wx h => call2 wx h)
  have c3 := Lib.hid (fun wx h => call3 wx h)
  have c4 := Lib.hid (fun wx h => call4 wx h)
  have c5 := Lib.hid (fun wx h => call5 wx h)
  have c6 := Lib.hid (fun wx h => call6 wx h)
  have c7 := Lib.hid (fun wx h => call7 wx h)
  have cL := Lib.hid (fun wx h => lives_any wx h)
  have HU := Lib.hid hu
  have R0 : Hid (Row4 ((w.alloc (.cells MC 25)).alloc (.cells #[.int .i64 5, .int .i64 0, .string ⟨#[]⟩, .slice none 0 0, .slice (some ⟨w.heap.size, 0, none⟩) 400 400] 25)) w.heap.size 0) := Lib.hid ((Row4.made w).keeps (al_lt _ (by simp)))
  have B0 : Hid (((w.alloc (.cells MC 25)).alloc (.cells #[.int .i64 5, .int .i64 0, .string ⟨#[]⟩, .slice none 0 0, .slice (some ⟨w.heap.size, 0, none⟩) 400 400] 25)).heap[w.heap.size + 1]? = some (.cells #[.int .i64 5, .int .i64 0, .string ⟨#[]⟩, .slice none 0 0, .slice (some ⟨w.heap.size, 0, none⟩) 400 400] 25 (0, 0))) := Lib.hid (al_at _ (by simp))
  have K0 : Hid (Keeps w ((w.alloc (.cells MC 25)).alloc (.cells #[.int .i64 5, .int .i64 0, .string ⟨#[]⟩, .slice none 0 0, .slice (some ⟨w.heap.size, 0, none⟩) 400 400] 25))) := Lib.hid (((Keeps.refl w).alloc _).alloc _)
  have hz1 : ((w.alloc (.cells MC 25)).alloc (.cells #[.int .i64 5, .int .i64 0, .string ⟨#[]⟩, .slice none 0 0, .slice (some ⟨w.heap.size, 0, none⟩) 400 400] 25)).heap.size = w.heap.size + 2 := by simp
  have HZ1 := Lib.hid hz1
  clear hu hz1
  go_enter Tryd.func3, Tryd.ntmps3
  go_wp2
  clear hmk
  generalize ((w.alloc (.cells MC 25)).alloc (.cells #[.int .i64 5, .int .i64 0, .string ⟨#[]⟩, .slice none 0 0, .slice (some ⟨w.heap.size, 0, none⟩) 400 400] 25)) = W at *
  go_loopg [2] 401 (fun g i wr => ∃ k : Nat, i = .int .i64 (k : Int) ∧ k ≤ 400 ∧ 400 - k < g ∧ Hid (Row4 wr w.heap.size k ∧ Only [w.heap.size] W wr))
  case atStart => exact ⟨0, rfl, Nat.zero_le _, by omega, Lib.hid ⟨R0.out, Only.refl _ _⟩⟩
  case round =>
    obtain ⟨k, rfl, hk4, hkg, hA⟩ := hrel
    have hb := (hA.out.2.block (w.heap.size + 1) (by rw [HZ1.out]; omega) (by simp)).trans B0.out
    obtain ⟨b0, b1, b2, b3, b4⟩ := (cells5 hb).1
    by_cases hlt : k < 400
    · obtain ⟨y0, y1⟩ := hA.out.1.cell hlt
      have hR := hA.out.1.set hlt
      have hO := hA.out.2.set ⟨w.heap.size, k * 5, none⟩ (.inl (by simp)) (.int .i64 1)
      have HR := Lib.hid (And.intro hR hO)
      have q1 : (0 : Int) ≤ (k : Int) := by omega
      have q2 : (k : Int) < 400 := by omega
      have f1 : decide ((k : Int) < 400) = true := decide_eq_true q2
      have f2 : decide (k < 400) = true := decide_eq_true hlt
      clear hR hO hA hb
      go_wp2
      cases gk with
      | zero => omega
      | succ g2 =>
        go_roundg g2
        case measure => omega
        case rel => exact ⟨k + 1, by go_num, by omega, by omega, HR⟩
    · obtain rfl : k = 400 := by omega
      have HR := Lib.hid hA.out.1
      have HO := Lib.hid hA.out.2
      have HB := Lib.hid hb
      clear hA hb hlt hkg hk4
      have d4 := cell_al b4 (.cells #[.int .i64 5, .int .i64 0, .string ⟨#[]⟩, .slice none 0 0, .slice (some ⟨w.heap.size, 0, none⟩) 400 400] 25)
      have e0 := cell_al b0 (.cells #[.int .i64 5, .int .i64 0, .string ⟨#[]⟩, .slice none 0 0, .slice (some ⟨w.heap.size, 5, none⟩) 399 399] 25)
      have e1 := cell_al b1 (.cells #[.int .i64 5, .int .i64 0, .string ⟨#[]⟩, .slice none 0 0, .slice (some ⟨w.heap.size, 5, none⟩) 399 399] 25)
      have e2 := cell_al b2 (.cells #[.int .i64 5, .int .i64 0, .string ⟨#[]⟩, .slice none 0 0, .slice (some ⟨w.heap.size, 5, none⟩) 399 399] 25)
      have e3 := cell_al b3 (.cells #[.int .i64 5, .int .i64 0, .string ⟨#[]⟩, .slice none 0 0, .slice (some ⟨w.heap.size, 5, none⟩) 399 399] 25)
      have e4 := cell_al b4 (.cells #[.int .i64 5, .int .i64 0, .string ⟨#[]⟩, .slice none 0 0, .slice (some ⟨w.heap.size, 5, none⟩) 399 399] 25)
      have hwr : w.heap.size + 1 < wr.heap.size := World.block_lt_of_cell? _ _ b0
      have k2 : Keeps wr (wr.alloc (.cells #[.int .i64 5, .int .i64 0, .string ⟨#[]⟩, .slice none 0 0, .slice (some ⟨w.heap.size, 5, none⟩) 399 399] 25)) := (Keeps.refl wr).alloc _
      have hrow := HR.out.keeps (k2.block _ (by omega))
      have cM := Lib.hid (check_any (manyJ 400) _ (fun i => i = w.heap.size) (wr.alloc (.cells #[.int .i64 5, .int .i64 0, .string ⟨#[]⟩, .slice none 0 0, .slice (some ⟨w.heap.size, 5, none⟩) 399 399] 25)) (hrow.isJ (fun i => i = w.heap.size) rfl 0 400 400 (by omega)) (fun i hi => by simp; omega) (many_sm 400) (by rw [many_nodes]; omega))
      have cFw := Lib.hid (fun wx (k : Keeps (wr.alloc (.cells #[.int .i64 5, .int .i64 0, .string ⟨#[]⟩, .slice none 0 0, .slice (some ⟨w.heap.size, 5, none⟩) 399 399] 25)) wx) => check_any (manyJ 399) _ (fun i => i = w.heap.size) wx ((hrow.keeps (k.block _ (by simp; omega))).isJ (fun i => i = w.heap.size) rfl 1 399 399 (by omega)) (fun i hi => by have := k.size; simp at this; omega) (many_sm 399) (by rw [many_nodes]; omega))
      rw [check_400] at cM
      rw [check_399] at cFw
      have HV2 := Lib.hid (heap_alloc_new wr (.cells #[.int .i64 5, .int .i64 0, .string ⟨#[]⟩, .slice none 0 0, .slice (some ⟨w.heap.size, 5, none⟩) 399 399] 25))
      have KW : Hid (Keeps w (wr.alloc (.cells #[.int .i64 5, .int .i64 0, .string ⟨#[]⟩, .slice none 0 0, .slice (some ⟨w.heap.size, 5, none⟩) 399 399] 25))) := Lib.hid ((K0.out.only HO.out (fun i hi => by simp at hi; omega)).alloc _)
      clear k2 hrow
      go_wp2_with fail
      refine cM.out.mono ?_
      rintro e w2 ⟨rfl, k2⟩
      have K2 := Lib.hid k2
      have KK := Lib.hid (KW.out.trans k2)
      have hv2 := (k2.block _ (by simp)).trans HV2.out
      obtain ⟨a0, a1, a2, a3, a4⟩ := (cells5 hv2).1
      clear k2 hv2 b0 b1 b2 b3 b4 d4 e0 e1 e2 e3 e4 cM
      go_wp2_with fail
      refine (cFw.out _ K2.out).mono ?_
      rintro e w3 ⟨rfl, k3⟩
      have KK0 := Lib.hid (KK.out.trans k3)
      clear k3 a0 a1 a2 a3 a4 cFw
      go_wp2_with fail
      refine (c0.out _ (HU.out.keeps (KK0.out))).mono ?_
      rintro e x0 ⟨k0, jk, jn, jt, ka, kl, kc, ia, il, ic, rfl⟩
      have KK1 := Lib.hid ((KK0.out.trans k0).alloc (.cells #[.int .i64 jk, .int .i64 jn, .string jt, .slice ka kl kc, .slice ia il ic] 25))
      clear k0 c0
      go_wp2_with fail
      refine (c1.out _ (HU.out.keeps (KK1.out))).mono ?_
      rintro e x1 ⟨k1, jk, jn, jt, ka, kl, kc, ia, il, ic, m, rfl⟩
      have KK2 := Lib.hid ((KK1.out.trans k1).alloc (.cells #[.int .i64 jk, .int .i64 jn, .string jt, .slice ka kl kc, .slice ia il ic] 25))
      clear k1 c1
      go_wp2_with fail
      refine (c2.out _ (HU.out.keeps (KK2.out))).mono ?_
      rintro e x2 ⟨k2, jk, jn, jt, ka, kl, kc, ia, il, ic, m, rfl⟩
      have KK3 := Lib.hid ((KK2.out.trans k2).alloc (.cells #[.int .i64 jk, .int .i64 jn, .string jt, .slice ka kl kc, .slice ia il ic] 25))
      clear k2 c2
      go_wp2_with fail
      refine (c3.out _ (HU.out.keeps (KK3.out))).mono ?_
      rintro e x3 ⟨k3, jk, jn, jt, ka, kl, kc, ia, il, ic, rfl⟩
      have KK4 := Lib.hid ((KK3.out.trans k3).alloc (.cells #[.int .i64 jk, .int .i64 jn, .string jt, .slice ka kl kc, .slice ia il ic] 25))
      clear k3 c3
      go_wp2_with fail
      refine (c4.out _ (HU.out.keeps (KK4.out))).mono ?_
      rintro e x4 ⟨k4, jk, jn, jt, ka, kl, kc, ia, il, ic, rfl⟩
      have KK5 := Lib.hid ((KK4.out.trans k4).alloc (.cells #[.int .i64 jk, .int .i64 jn, .string jt, .slice ka kl kc, .slice ia il ic] 25))
      clear k4 c4
      go_wp2_with fail
      refine (c5.out _ (HU.out.keeps (KK5.out))).mono ?_
      rintro e x5 ⟨k5, jk, jn, jt, ka, kl, kc, ia, il, ic, rfl⟩
      have KK6 := Lib.hid ((KK5.out.trans k5).alloc (.cells #[.int .i64 jk, .int .i64 jn, .string jt, .slice ka kl kc, .slice ia il ic] 25))
      clear k5 c5
      go_wp2_with fail
      refine (c6.out _ (HU.out.keeps (KK6.out))).mono ?_
      rintro e x6 ⟨k6, jk, jn, jt, ka, kl, kc, ia, il, ic, rfl⟩
      have KK7 := Lib.hid ((KK6.out.trans k6).alloc (.cells #[.int .i64 jk, .int .i64 jn, .string jt, .slice ka kl kc, .slice ia il ic] 25))
      clear k6 c6
      go_wp2_with fail
      refine (c7.out _ (HU.out.keeps (KK7.out))).mono ?_
      rintro e x7 ⟨k7, jk, jn, jt, ka, kl, kc, ia, il, ic, rfl⟩
      have KK8 := Lib.hid ((KK7.out.trans k7).alloc (.cells #[.int .i64 jk, .int .i64 jn, .string jt, .slice ka kl kc, .slice ia il ic] 25))
      clear k7 c7
      go_wp2_with fail
      refine (cL.out _ (HU.out.keeps KK8.out)).mono ?_
      rintro e w9 ⟨rfl, k9⟩
      have K9 := Lib.hid (KK8.out.trans k9)
      clear k9
      go_wp2
      go_ret
      exact ⟨rfl, K9.out⟩
end Go.Proofs.YtljkeladdplhlaaDoor
