/-
  Each code point is read from its escape, with letters of either case; two have the same string only if they are equal; nothing else is a code point: for any two numbers, no condition.
-/
import Derived.Test.YtbhgfdgdbbfeoaaDoorRows
import Derived.Test.YtbhgfdgdbbfeoaaDoorCards
import Derived.Test.YtbhgfdgdbbfeoaaDoorTie
import Derived.Test.YtbhgfdgdbbfeoaaDoorLEsc
import Derived.Test.YtbhgfdgdbbfeoaaDoorLai
import Derived.WalkKit
import Derived.ProofKit
import Derived.OpenShut
import Derived.ShutString
import Derived.LaidMore
import Derived.Lay
import Derived.SevenTiedAt
import Derived.Stop.Joined
import Derived.Carry
import Derived.PinnedBridge
import Derived.Lib.LaidU8T
import Derived.Lib.LaidTab
import Derived.Stop.LaidErr
namespace Go.Proofs.YtbhgfdgdbbfeoaaDoor
open Go.RowKit
theorem utf_scanEscapes {W : World} (h : laidMetH Tryd.prog Rows.scanEscapesRow.laid W) : Utf W := by
  rw [MakeChecks.laidMetH_plain _ _ _ (by kernel_rfl)] at h
  exact utf_reads h (by simp [Rows.scanEscapesRow]) (by simp [Rows.scanEscapesRow])
end Go.Proofs.YtbhgfdgdbbfeoaaDoor
namespace Go.Proofs.YtbhgfdgdbbfeoaaDoor
open Go.RowKit
theorem cu_of3 (s : ByteArray) (p : Piece) (hs : s.size ≤ 100000) (h : unqL s.data.toList = p) : CU' s (S p.1) (p.2.1 : Int) (p.2.2 : Int) := Lib.hid (fun w1 hu => by
  rw [← h]; exact unq_any s w1 hu hs)
theorem empty_enc (n : Nat) : (S (Lib.encodeRune (n : Int))).toList.isEmpty = false := by
  rw [ByteArray.toList_eq, S_data, Bool.eq_false_iff, Ne, List.isEmpty_iff]
  exact enc_ne _
theorem half_any (c d : Int) (g : Bool) (w : World) (HU : Hid (Utf w)) (hno : (escR g c).2 = false ∨ ((escR g c).2 = true ∧ (escR (!g) d).2 = false)) : Calls Tryd.prog 7 #[.int .i64 c, .int .i64 d, .bool g] w (RetQ true w) := by
  have h0 := Int.emod_nonneg c (show (2048 : Int) ≠ 0 by omega)
  have h1 := Int.emod_lt_of_pos c (show (0 : Int) < 2048 by omega)
  obtain ⟨h, hh⟩ : ∃ h : Nat, c % 2048 = (h : Int) := ⟨(c % 2048).toNat, by omega⟩
  have hh2 : h < 2048 := by omega
  have cP : Hid (∀ w1, Calls Tryd.prog 24 #[.int .i64 c, .int .i64 2048] w1 (fun e w' => (e = .returned (.int .i64 (h : Int)) ∧ (h : Int) < 2048) ∧ w' = w1)) := Lib.hid (fun w1 => (pick_any c 2048 w1 (by omega) (by omega)).mono fun e w' ⟨he, hw⟩ => ⟨⟨by rw [he, hh], by omega⟩, hw⟩)
  have cD : Hid (∀ w1, Calls Tryd.prog 26 #[.int .i64 ((h : Int) + 55296), .bool g] w1 (fun e w' => e = .returned (.string (S (digL g (h + 55296)))) ∧ Keeps w1 w')) := Lib.hid (fun w1 => digits_any (h + 55296) g w1 (by omega))
  have hs4 : (S (digL g (h + 55296))).size ≤ 4 := by simp [S_size, digL]
  have cU : CU' ((⟨#[34, 92, 117]⟩ : ByteArray) ++ S (digL g (h + 55296)) ++ ⟨#[34]⟩) ⟨#[]⟩ 0 6 := by
    have e : (⟨#[34, 92, 117]⟩ : ByteArray) ++ S (digL g (h + 55296)) ++ ⟨#[34]⟩ = S ([34, 92, 117] ++ digL g (h + 55296) ++ [34]) := by rw [← S_app, ← S_app]; rfl
    rw [e]
    exact cu_of3 _ ([], 0, 6) (by simp [S_size, digL]) (by rw [S_data]; exact unq_half g _ (by omega) (by omega))
  have cA : CE c g (S (escR g c).1) (escR g c).2 := Lib.hid (fun w1 => esc_all c g w1)
  have cB : CE d (!g) (S (escR (!g) d).1) (escR (!g) d).2 := Lib.hid (fun w1 => esc_all d (!g) w1)
  rcases hno with h1 | ⟨h1, h2⟩
  · rw [h1] at cA
    cases g
    · exact le_n1_false c d _ _ _ h ⟨#[]⟩ _ w HU hs4 cA cB cP cD cU
    · exact le_n1_true c d _ _ _ h ⟨#[]⟩ _ w HU hs4 cA cB cP cD cU
  · rw [h1] at cA
    rw [h2] at cB
    cases g
    · exact le_n2_false c d _ _ false h ⟨#[]⟩ _ w HU hs4 cA cB cP cD cU
    · exact le_n2_true c d _ _ false h ⟨#[]⟩ _ w HU hs4 cA cB cP cD cU
theorem escapes_any (c d : Int) (g : Bool) (w : World) (hu : Utf w) : Calls Tryd.prog 7 #[.int .i64 c, .int .i64 d, .bool g] w (RetQ true w) := by
  have HU := Lib.hid hu
  cases h1 : (escR g c).2
  · exact half_any c d g w HU (.inl h1)
  cases h2 : (escR (!g) d).2
  · exact half_any c d g w HU (.inr ⟨h1, h2⟩)
  obtain ⟨m, rfl, hm, um, lm⟩ := escR_read g c h1
  obtain ⟨n, rfl, hn, un, ln⟩ := escR_read (!g) d h2
  have cA : CE (m : Int) g (S (escR g m).1) true := by rw [← h1]; exact Lib.hid (fun w1 => esc_all m g w1)
  have cB : CE (n : Int) (!g) (S (escR (!g) n).1) true := by rw [← h2]; exact Lib.hid (fun w1 => esc_all n (!g) w1)
  have cU : CU' (S (escR g m).1) (S (Lib.encodeRune (m : Int))) ((S (escR g m).1).size : Int) 0 := cu_of3 _ (Lib.encodeRune (m : Int), (escR g m).1.length, 0) (by rw [S_size]; omega) um
  have cV : CU' (S (escR (!g) n).1) (S (Lib.encodeRune (n : Int))) ((S (escR (!g) n).1).size : Int) 0 := cu_of3 _ (Lib.encodeRune (n : Int), (escR (!g) n).1.length, 0) (by rw [S_size]; omega) un
  have pm := Pts.one m hm
  have pn := Pts.one n hn
  have em := (enc_len (m : Int)).2
  have en := (enc_len (n : Int)).2
  have sm : (S (Lib.encodeRune (m : Int))).size ≤ 4 := em
  have sn : (S (Lib.encodeRune (n : Int))).size ≤ 4 := en
  have cX : Hid (∀ w1, Calls Tryd.prog 14 #[.string (S (Lib.encodeRune (m : Int)))] w1 (RetQ true w1)) := Lib.hid (fun w1 => by
    have := valid_any (S (Lib.encodeRune (m : Int))) w1 (by omega)
    rwa [S_data, (valid_iff _).2 pm] at this)
  have cY : Hid (∀ w1, Calls Tryd.prog 14 #[.string (S (Lib.encodeRune (m : Int)) ++ S (Lib.encodeRune (n : Int)))] w1 (RetQ true w1)) := Lib.hid (fun w1 => by
    have := valid_any (S (Lib.encodeRune (m : Int)) ++ S (Lib.encodeRune (n : Int))) w1 (by rw [ByteArray.size_append]; omega)
    rwa [app_data, S_data, S_data, (valid_iff _).2 (pm.app pn)] at this)
  have la : (S (escR g m).1).size ≤ 14 := lm
  have lb : (S (escR (!g) n).1).size ≤ 14 := ln
  by_cases hmn : m = n
  · subst hmn
    cases g
    · exact le_s_false m m _ _ _ ⟨#[]⟩ w HU la lb sm (by decide) (empty_enc m) cA cB cU cV cX cY
    · exact le_s_true m m _ _ _ ⟨#[]⟩ w HU la lb sm (by decide) (empty_enc m) cA cB cU cV cX cY
  · have hne := S_ne (fun e => hmn (enc_inj m n hm hn e))
    have hne2 : ¬ (S (Lib.encodeRune (m : Int))).toList = (S (Lib.encodeRune (n : Int))).toList := fun e => hne (bytes_of_list e)
    have hcd : ((m : Int) == (n : Int)) = false := by simp; omega
    cases g
    · exact le_o_false m n _ _ _ _ w HU la lb sm sn (list_ne hne) hne2 hcd (empty_enc m) cA cB cU cV cX cY
    · exact le_o_true m n _ _ _ _ w HU la lb sm sn (list_ne hne) hne2 hcd (empty_enc m) cA cB cU cV cX cY
end Go.Proofs.YtbhgfdgdbbfeoaaDoor

namespace Go.Proofs.YtbhgfdgdbbfeoaaDoor.scanEscapes
open Go.ChangeShapes Go.WideShapes Go.ChangeAt Go.RowKit
open Go.ChangeMaps (open_string shut_string)
set_option linter.unusedVariables false

theorem own : ownKnob Tryd.prog.godebug = none := by kernel_rfl

set_option maxRecDepth 100000 in
theorem lifted (os : Os) (started : os.Started) (H : Type) (enc : TypeId × Value → H) :
    ReturnsInHanded {} Tryd.checked os 7 .any (fun w args => (Rows.scanEscapesSpec.pre enc Tryd.prog Tryd.f7 Rows.scanEscapesRow.domain false w args ∧ laidMetH Tryd.prog Rows.scanEscapesRow.laid w) ∧ sizedMet enc Tryd.prog Tryd.f7 (OpenSpec.ofChange Rows.scanEscapesSpec) false w args)
      (Rows.scanEscapesSpec.post enc Tryd.prog Tryd.f7 false true false false) := by
  refine returnsInHanded_of_change_and (C := Tryd.checked) (X := fun w _ => laidMetH Tryd.prog Rows.scanEscapesRow.laid w) (fun _ _ _ hh h => h.of_heap hh) own started (by kernel_rfl) Tryd.func7
    (ChangeSpec.witness_shaped (enc := enc) (C := Tryd.checked) (os := os) (X := fun w _ => laidMetH Tryd.prog Rows.scanEscapesRow.laid w) false (World.laidAll Tryd.prog os Rows.scanEscapesRow.laid) #[.int .i64 0, .int .i64 0, .bool false] 8 (World.laidAll_os _ _ _)
      (World.shaped_of_ZipB (by kernel_rfl) (by kernel_rfl)) (by kernel_rfl) (by kernel_rfl) (by kernel_rfl)
      (by rw [MakeChecks.laidMetH_plain _ _ _ (by kernel_rfl)]; exact laidMet_laidAll _ (by kernel_rfl) (by kernel_rfl))) ?_
  intro W base args ds gs before hval0 hW hcnd _ hL _
  have hval : ∀ (j : Nat) t v, Tryd.f7.params[j]? = some t → args[j]? = some v → Value.okWide Tryd.prog W .any base t v := hval0
  have hW' := hW
  obtain ⟨p, q, hA0, hV, rfl, hfz, hnd⟩ := hW
  have hA : DataW.TrodAll enc Tryd.prog W 0 (fun _ => true) true Tryd.f7.params.toList args.toList ds p := hA0
  rw [Tryd.params7] at hA hval
  obtain ⟨v0, vs0, d0, ds0, p0, q0, hargs, rfl, rfl, h0, r0⟩ := trodAll_cons hA
  obtain ⟨v1, vs1, d1, ds1, p1, q1, rfl, rfl, rfl, h1, r1⟩ := trodAll_cons r0
  obtain ⟨v2, vs2, d2, ds2, p2, q2, rfl, rfl, rfl, h2, r2⟩ := trodAll_cons r1
  obtain ⟨rfl, rfl, rfl⟩ := trodAll_nil r2
  obtain rfl : args = #[v0, v1, v2] := by cases args; simp_all
  obtain ⟨rfl, rfl⟩ := trodVars_none hV
  obtain ⟨a0, rfl, rfl, rfl, w0⟩ := open_int Tryd.underlying3 (hval 0 3 v0 rfl rfl) h0
  obtain ⟨a1, rfl, rfl, rfl, w1⟩ := open_int Tryd.underlying3 (hval 1 3 v1 rfl rfl) h1
  obtain ⟨a2, rfl, rfl, rfl⟩ := open_bool Tryd.underlying4 (hval 2 4 v2 rfl rfl) h2
  clear hA0 hval0
  simp only [List.append_nil] at hW'
  refine (escapes_any a0 a1 a2 W (utf_scanEscapes hL)).mono fun e W' ⟨he, hg⟩ => ?_
  subst he
  exact ⟨_, rfl, _, _, _, [], [], [], hW', (trodAll_cons_mk (shut_bool Tryd.underlying4 _) trodAll_mk0), (trodAll_cons_mk (p := []) (p' := []) (shut_int Tryd.underlying3 w0) (trodAll_cons_mk (p := []) (p' := []) (shut_int Tryd.underlying3 w1) (trodAll_cons_mk (p := []) (p' := []) (shut_bool Tryd.underlying4 a2) trodAll_mk0))), rfl, hg.frame _, fun h => by cases h⟩

theorem over : Rows.scanEscapesRow.holds Tryd.pinned (OpenSpec.ofChange Rows.scanEscapesSpec) :=
  OpenClaim.holds_of_wide 7 Tryd.f7 rfl rfl rfl rfl rfl rfl rfl ⟨rfl, rfl, rfl, rfl, rfl⟩ rfl rfl rfl rfl rfl (by kernel_rfl) Tryd.func7 (by kernel_rfl)
    (of_decide_eq_true (by kernel_rfl)) (by unfold Func.isWrapper; first | (rw [if_pos (by decide +kernel)]; kernel_rfl) | (rw [if_neg (by decide +kernel)]; exact ⟨rfl, rfl⟩))
    (fun os started H enc _ => lifted os started H enc)

set_option maxRecDepth 100000 in
theorem proved : Rows.ScanEscapesCardSaid :=
  Claim7.holds_tied_plain_at .later [] [.data, .pinned] true (true, "f2b3eafc29d0279b62e37aa68ad3ff1bea54c8056a58230ebe0d1e1cf0871150") false over (fun _ h => by cases h) (by kernel_rfl) (fun _ h => by cases h) scanEscapes_row_tie rfl ⟨rfl, rfl⟩ (by kernel_rfl) rfl
    (fun f fn hf hfn => by
      obtain rfl : f = 7 := Option.some.inj ((show Tryd.prog.funcNamed "outlaw/outlawlaw01.ScanEscapes" = some 7 by kernel_rfl).symm.trans hf) |>.symm
      obtain rfl : fn = Tryd.f7 := (Option.some.inj (Tryd.func7.symm.trans hfn)).symm
      exact ⟨by kernel_rfl, fun j t ht => by
        rw [Tryd.params7] at ht
        have hm : t ∈ [3, 3, 4] := by simpa using Array.mem_of_getElem? ht
        have hall : ([3, 3, 4].all fun u => !Tryd.prog.wantsStandIn u) = true := by kernel_rfl
        exact (show Tryd.prog.wantsStandIn t = false by simpa using List.all_eq_true.1 hall t hm)⟩)
    (by kernel_rfl)
#print axioms proved
end Go.Proofs.YtbhgfdgdbbfeoaaDoor.scanEscapes
