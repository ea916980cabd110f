/-
  What is read by package json is not deeper than allowed, is the same for each greater depth, and does not depend on what follows, except a digit after a number; with a smaller depth than it has it is too deep: for any string, depth, and bytes that follow, no condition.
-/
import Derived.Test.YtljkeladdplhlaaDoorRows
import Derived.Test.YtljkeladdplhlaaDoorCards
import Derived.Test.YtljkeladdplhlaaDoorTie
import Derived.Test.YtljkeladdplhlaaDoorLDeq
import Derived.Test.YtljkeladdplhlaaDoorLai
import Derived.WalkKit
import Derived.ProofKit
import Derived.OpenShut
import Derived.ShutString
import Derived.LaidMore
import Derived.Lay
import Derived.SevenTiedAt
import Derived.Stop.Joined
import Derived.Carry
import Derived.PinnedBridge
import Derived.Lib.LaidU8T
import Derived.Lib.LaidTab
import Derived.Stop.LaidErr
namespace Go.Proofs.YtljkeladdplhlaaDoor
open Go.RowKit
theorem utf_jsonDeep {W : World} (h : laidMetH Tryd.prog Rows.jsonDeepRow.laid W) : Utf W := by
  rw [MakeChecks.laidMetH_plain _ _ _ (by kernel_rfl)] at h
  exact utf_reads h (by simp [Rows.jsonDeepRow]) (by simp [Rows.jsonDeepRow])
end Go.Proofs.YtljkeladdplhlaaDoor
namespace Go.Proofs.YtljkeladdplhlaaDoor
open Go.RowKit
theorem deep_any (s t : ByteArray) (dp : Int) (w : World) (hu : Utf w) (ms : s.size ≤ maxLen) (mt : t.size ≤ maxLen) :
    Calls Tryd.prog 5 #[.string s, .int .i64 dp, .string t] w (Ret (.bool true) w) := by
  by_cases g1 : s.size ≤ 1000
  · by_cases g2 : t.size ≤ 1000
    · have m0 := Int.emod_nonneg dp (show (9 : Int) ≠ 0 by decide)
      have m1 := Int.emod_lt_of_pos dp (show (0 : Int) < 9 by decide)
      obtain ⟨d, hd⟩ : ∃ d : Nat, dp % 9 = (d : Int) := ⟨(dp % 9).toNat, by omega⟩
      have hd8 : d ≤ 8 := by omega
      by_cases he : (valueJ d s.data.toList).2.2 = 0
      · have h : valueJ d s.data.toList = ((valueJ d s.data.toList).1, (valueJ d s.data.toList).2.1, 0) := by rw [← he]
        generalize (valueJ d s.data.toList).1 = j at h
        generalize (valueJ d s.data.toList).2.1 = n at h
        have hD := value_deep (by simp; omega) h
        by_cases hk : kindJ j = 3
        · have hz : depthJ j = 0 := by
            cases j with
            | mk k n t ks is =>
              have hk' : k = 3 := hk
              rw [depthJ, if_neg (by omega)]
          by_cases hx : t.toList.isEmpty = true
          · by_cases hn : nodesJ j ≤ 400
            · exact deep_fze s t dp w j n d hu g1 g2 hd hd8 h hn hz hk hx
            · exact deep_mze s t dp w j n d hu g1 g2 hd hd8 h (by omega) hz hk hx
          · have hx' : t.toList.isEmpty = false := by simpa using hx
            have p0 : 0 < t.size := by
              rcases Nat.eq_zero_or_pos t.size with h0 | h0
              · exfalso
                apply hx
                rw [ByteArray.toList_eq]
                have : t.data.toList = [] := List.eq_nil_of_length_eq_zero (by simpa using h0)
                rw [this]; rfl
              · exact h0
            by_cases hn : nodesJ j ≤ 400
            · by_cases hy : (t[0]'p0).toNat < 48
              · exact deep_fzl s t dp w j n d hu g1 g2 hd hd8 h hn hz hk hx' p0 hy
              · by_cases hy2 : 57 < (t[0]'p0).toNat
                · exact deep_fzg s t dp w j n d hu g1 g2 hd hd8 h hn hz hk hx' p0 hy2
                · exact deep_fzd s t dp w j n d hu g1 g2 hd hd8 h hn hz hk hx' p0 ⟨by omega, by omega⟩
            · by_cases hy : (t[0]'p0).toNat < 48
              · exact deep_mzl s t dp w j n d hu g1 g2 hd hd8 h (by omega) hz hk hx' p0 hy
              · by_cases hy2 : 57 < (t[0]'p0).toNat
                · exact deep_mzg s t dp w j n d hu g1 g2 hd hd8 h (by omega) hz hk hx' p0 hy2
                · exact deep_mzd s t dp w j n d hu g1 g2 hd hd8 h (by omega) hz hk hx' p0 ⟨by omega, by omega⟩
        · by_cases hn : nodesJ j ≤ 400
          · by_cases hz : depthJ j = 0
            · exact deep_fzk s t dp w j n d hu g1 g2 hd hd8 h hn hz hk
            · exact deep_fdk s t dp w j n d hu g1 g2 hd hd8 h hn (by omega) hk
          · by_cases hz : depthJ j = 0
            · exact deep_mzk s t dp w j n d hu g1 g2 hd hd8 h (by omega) hz hk
            · exact deep_mdk s t dp w j n d hu g1 g2 hd hd8 h (by omega) (by omega) hk
      · exact deep_err s t dp w d hu g1 g2 hd hd8 he
    · exact deep_big2 s t dp w hu ms mt ⟨g1, by omega⟩
  · exact deep_big1 s t dp w hu ms mt (by omega)
end Go.Proofs.YtljkeladdplhlaaDoor

namespace Go.Proofs.YtljkeladdplhlaaDoor.jsonDeep
open Go.ChangeShapes Go.WideShapes Go.ChangeAt Go.RowKit
open Go.ChangeMaps (open_string shut_string)
set_option linter.unusedVariables false

theorem own : ownKnob Tryd.prog.godebug = none := by kernel_rfl
theorem laid : laidOutB Tryd.prog = true := by kernel_rfl

set_option maxRecDepth 100000 in
theorem lifted (os : Os) (started : os.Started) (H : Type) (enc : TypeId × Value → H) :
    ReturnsInHanded {} Tryd.checked os 5 .any (fun w args => (Rows.jsonDeepSpec.pre enc Tryd.prog Tryd.f5 Rows.jsonDeepRow.domain false w args ∧ laidMetH Tryd.prog Rows.jsonDeepRow.laid w) ∧ sizedMet enc Tryd.prog Tryd.f5 (OpenSpec.ofChange Rows.jsonDeepSpec) false w args)
      (Rows.jsonDeepSpec.post enc Tryd.prog Tryd.f5 false true false false) := by
  refine returnsInHanded_of_change_and (C := Tryd.checked) (X := fun w _ => laidMetH Tryd.prog Rows.jsonDeepRow.laid w) (fun _ _ _ hh h => h.of_heap hh) own started (by kernel_rfl) Tryd.func5
    (ChangeSpec.witness_shaped (enc := enc) (C := Tryd.checked) (os := os) (X := fun w _ => laidMetH Tryd.prog Rows.jsonDeepRow.laid w) false (World.laidAll Tryd.prog os Rows.jsonDeepRow.laid) #[.string ByteArray.empty, .int .i64 0, .string ByteArray.empty] 8 (World.laidAll_os _ _ _)
      (World.shaped_of_ZipB (by kernel_rfl) (by kernel_rfl)) (by kernel_rfl) (by kernel_rfl) (by kernel_rfl)
      (by rw [MakeChecks.laidMetH_plain _ _ _ (by kernel_rfl)]; exact laidMet_laidAll _ (by kernel_rfl) (by kernel_rfl))) ?_
  intro W base args ds gs before hval0 hW hcnd _ hL _
  have hval : ∀ (j : Nat) t v, Tryd.f5.params[j]? = some t → args[j]? = some v → Value.okWide Tryd.prog W .any base t v := hval0
  have hW' := hW
  obtain ⟨p, q, hA0, hV, rfl, hfz, hnd⟩ := hW
  have hA : DataW.TrodAll enc Tryd.prog W 0 (fun _ => true) true Tryd.f5.params.toList args.toList ds p := hA0
  rw [Tryd.params5] at hA hval
  obtain ⟨v0, vs0, d0, ds0, p0, q0, hargs, rfl, rfl, h0, r0⟩ := trodAll_cons hA
  obtain ⟨v1, vs1, d1, ds1, p1, q1, rfl, rfl, rfl, h1, r1⟩ := trodAll_cons r0
  obtain ⟨v2, vs2, d2, ds2, p2, q2, rfl, rfl, rfl, h2, r2⟩ := trodAll_cons r1
  obtain ⟨rfl, rfl, rfl⟩ := trodAll_nil r2
  obtain rfl : args = #[v0, v1, v2] := by cases args; simp_all
  obtain ⟨rfl, rfl⟩ := trodVars_none hV
  obtain ⟨a0, rfl, rfl, rfl, w0⟩ := open_string Tryd.underlying9 (hval 0 9 v0 rfl rfl) h0
  obtain ⟨a1, rfl, rfl, rfl, w1⟩ := open_int Tryd.underlying3 (hval 1 3 v1 rfl rfl) h1
  obtain ⟨a2, rfl, rfl, rfl, w2⟩ := open_string Tryd.underlying9 (hval 2 9 v2 rfl rfl) h2
  clear hA0 hval0
  simp only [List.append_nil] at hW'
  refine (deep_any a0 a2 a1 W (utf_jsonDeep hL) w0 w2).mono fun e W' ⟨he, hg⟩ => ?_
  subst he
  exact ⟨_, rfl, _, _, _, [], [], [], hW', (trodAll_cons_mk (shut_bool Tryd.underlying4 _) trodAll_mk0), (trodAll_cons_mk (p := []) (p' := []) (shut_string Tryd.underlying9 w0) (trodAll_cons_mk (p := []) (p' := []) (shut_int Tryd.underlying3 w1) (trodAll_cons_mk (p := []) (p' := []) (shut_string Tryd.underlying9 w2) trodAll_mk0))), rfl, hg.frame _, fun h => by cases h⟩

theorem over : Rows.jsonDeepRow.holds Tryd.pinned (OpenSpec.ofChange Rows.jsonDeepSpec) :=
  OpenClaim.holds_of_wide 5 Tryd.f5 rfl rfl rfl rfl rfl rfl rfl ⟨rfl, rfl, rfl, rfl, rfl⟩ rfl rfl rfl rfl rfl (by kernel_rfl) Tryd.func5 (by kernel_rfl)
    (of_decide_eq_true (by kernel_rfl)) (by unfold Func.isWrapper; first | (rw [if_pos (by decide +kernel)]; kernel_rfl) | (rw [if_neg (by decide +kernel)]; exact ⟨rfl, rfl⟩))
    (fun os started H enc _ => lifted os started H enc)

set_option maxRecDepth 100000 in
theorem proved : Rows.JsonDeepCardSaid :=
  Claim7.holds_tied_plain_at .later [] [.data, .pinned] true (true, "a280120bc95e45437d36fee85d174c47de599d8d553701e97f4d33c3a45683bc") false over (fun _ h => by cases h) (by kernel_rfl) (fun _ h => by cases h) jsonDeep_row_tie rfl ⟨rfl, rfl⟩ (by kernel_rfl) rfl
    (fun f fn hf hfn => by
      obtain rfl : f = 5 := Option.some.inj ((show Tryd.prog.funcNamed "outlaw/outlawlaw02.JsonDeep" = some 5 by kernel_rfl).symm.trans hf) |>.symm
      obtain rfl : fn = Tryd.f5 := (Option.some.inj (Tryd.func5.symm.trans hfn)).symm
      exact ⟨by kernel_rfl, fun j t ht => by
        rw [Tryd.params5] at ht
        have hm : t ∈ [9, 3, 9] := by simpa using Array.mem_of_getElem? ht
        have hall : ([9, 3, 9].all fun u => !Tryd.prog.wantsStandIn u) = true := by kernel_rfl
        exact (show Tryd.prog.wantsStandIn t = false by simpa using List.all_eq_true.1 hall t hm)⟩)
    (by kernel_rfl)
#print axioms proved
end Go.Proofs.YtljkeladdplhlaaDoor.jsonDeep
