/-
  What a glob matches, its normal form, and the rest, are what the document says: for every glob, text and fold, no condition.
-/
import Derived.Test.YtolfpkjohlbfdaaDoorRows
import Derived.Test.YtolfpkjohlbfdaaDoorCards
import Derived.Test.YtolfpkjohlbfdaaDoorTie
import Derived.Test.YtolfpkjohlbfdaaDoorLCal
import Derived.Test.YtolfpkjohlbfdaaDoorIx2
import Derived.Test.YtolfpkjohlbfdaaDoorLia
import Derived.WalkKit
import Derived.ProofKit
import Derived.OpenShut
import Derived.ShutString
import Derived.LaidMore
import Derived.Lay
import Derived.SevenTiedAt
import Derived.Stop.Joined
import Derived.Carry
namespace Go.Proofs.YtolfpkjohlbfdaaDoor
open Go.RowKit

theorem calls_two_ok : TwoOk := fun r rs w h1 h2 h3 hv hs hn hb => ixr_two r rs w h1 h2 h3 hv hs hn hb

theorem calls_small (p t : ByteArray) (fo : Bool) (w : World) (hp : p.size ≤ 300) (ht : t.size ≤ 300) :
    Calls Tryd.prog 4 #[.string p, .string t, .bool fo] w (RetQ true w) := by
  have hp' : p.size ≤ maxLen := by unfold maxLen; omega
  have ht' : t.size ≤ maxLen := by unfold maxLen; omega
  have hpl : p.data.toList.length = p.size := by simp
  have hk0 : p.size - Lib.countByte p.data.toList 42 = leastN p.data.toList := by rw [← least_count, hpl]
  have hkb : leastN p.data.toList ≤ 1000 := by
    have : leastN p.data.toList ≤ p.data.toList.length := by unfold leastN; exact List.length_filter_le _ _
    omega
  exact calls_at p t (S (normL p.data.toList)) (if Lib.containsAny p.data.toList [42, 63] = true then ⟨#[]⟩ else p) (S (lowL t.data.toList)) (leastN p.data.toList) (checkI p.data.toList) (!Lib.containsAny p.data.toList [42, 63]) (mt (eqB fo) p.data.toList t.data.toList) fo w hp ht hkb
    (Lib.hid (fun w1 => lives_any w1))
    (Lib.hid (fun w1 => by
      have h := light_two p t w1 hp' ht'
      rwa [show light2 p t = true by simp [light2, hp, ht]] at h))
    (Lib.hid (fun w1 => lit_any calls_two_ok p w1 (by omega)))
    (Lib.hid (fun w1 => rlit_any p w1 (by omega)))
    (Lib.hid (fun w1 => check_any p w1))
    (Lib.hid (fun w1 => rcheck_any p w1 (by omega)))
    (Lib.hid (fun w1 => match_any p t fo w1 (by omega) (by omega)))
    (Lib.hid (fun w1 => rmatch_any p t fo w1 (by omega) (by omega)))
    (Lib.hid (fun w1 => norm_any p w1 (by omega)))
    (Lib.hid (fun w1 => rnorm_any p w1 (by omega)))
    (Lib.hid (fun w1 => by
      have h := least_any p w1 hp'
      rwa [hk0] at h))
    (Lib.hid (fun w1 => rleast_any p w1 (by omega)))
    (Lib.hid (fun w1 => fold_any t w1 ht'))
    (Lib.hid (fun w1 => rfold_any t w1 (by omega)))

theorem calls_any (p t : ByteArray) (fo : Bool) (w : World) (hp : p.size ≤ maxLen) (ht : t.size ≤ maxLen) :
    Calls Tryd.prog 4 #[.string p, .string t, .bool fo] w (RetQ true w) := by
  by_cases g : light2 p t = true
  · have g' : p.size ≤ 300 ∧ t.size ≤ 300 := by simpa [light2] using g
    exact calls_small p t fo w g'.1 g'.2
  · exact calls_big p t fo w hp ht (by simpa using g)
end Go.Proofs.YtolfpkjohlbfdaaDoor

namespace Go.Proofs.YtolfpkjohlbfdaaDoor.globCalls
open Go.ChangeShapes Go.WideShapes Go.ChangeAt Go.RowKit
open Go.ChangeMaps (open_string shut_string)
set_option linter.unusedVariables false

theorem own : ownKnob Tryd.prog.godebug = none := by kernel_rfl

set_option maxRecDepth 100000 in
theorem lifted (os : Os) (started : os.Started) (H : Type) (enc : TypeId × Value → H) :
    ReturnsInHanded {} Tryd.checked os 4 .any (fun w args => (Rows.globCallsSpec.pre enc Tryd.prog Tryd.f4 Rows.globCallsRow.domain false w args ∧ laidMetH Tryd.prog Rows.globCallsRow.laid w) ∧ sizedMet enc Tryd.prog Tryd.f4 (OpenSpec.ofChange Rows.globCallsSpec) false w args)
      (Rows.globCallsSpec.post enc Tryd.prog Tryd.f4 false true false false) := by
  refine returnsInHanded_of_change_and (C := Tryd.checked) (X := fun w _ => laidMetH Tryd.prog Rows.globCallsRow.laid w) (fun _ _ _ hh h => h.of_heap hh) own started (by kernel_rfl) Tryd.func4
    (ChangeSpec.witness_shaped (enc := enc) (C := Tryd.checked) (os := os) (X := fun w _ => laidMetH Tryd.prog Rows.globCallsRow.laid w) false (World.laidAll Tryd.prog os Rows.globCallsRow.laid) #[.string ByteArray.empty, .string ByteArray.empty, .bool false] 8 (World.laidAll_os _ _ _)
      (World.shaped_of_ZipB (by kernel_rfl) (by kernel_rfl)) (by kernel_rfl) (by kernel_rfl) (by kernel_rfl)
      (by rw [MakeChecks.laidMetH_plain _ _ _ (by kernel_rfl)]; exact laidMet_laidAll _ (by kernel_rfl) (by kernel_rfl))) ?_
  intro W base args ds gs before hval0 hW hcnd _ hL _
  have hval : ∀ (j : Nat) t v, Tryd.f4.params[j]? = some t → args[j]? = some v → Value.okWide Tryd.prog W .any base t v := hval0
  have hW' := hW
  obtain ⟨p, q, hA0, hV, rfl, hfz, hnd⟩ := hW
  have hA : DataW.TrodAll enc Tryd.prog W 0 (fun _ => true) true Tryd.f4.params.toList args.toList ds p := hA0
  rw [Tryd.params4] at hA hval
  obtain ⟨v0, vs0, d0, ds0, p0, q0, hargs, rfl, rfl, h0, r0⟩ := trodAll_cons hA
  obtain ⟨v1, vs1, d1, ds1, p1, q1, rfl, rfl, rfl, h1, r1⟩ := trodAll_cons r0
  obtain ⟨v2, vs2, d2, ds2, p2, q2, rfl, rfl, rfl, h2, r2⟩ := trodAll_cons r1
  obtain ⟨rfl, rfl, rfl⟩ := trodAll_nil r2
  obtain rfl : args = #[v0, v1, v2] := by cases args; simp_all
  obtain ⟨rfl, rfl⟩ := trodVars_none hV
  obtain ⟨a0, rfl, rfl, rfl, w0⟩ := open_string Tryd.underlying9 (hval 0 9 v0 rfl rfl) h0
  obtain ⟨a1, rfl, rfl, rfl, w1⟩ := open_string Tryd.underlying9 (hval 1 9 v1 rfl rfl) h1
  obtain ⟨a2, rfl, rfl, rfl⟩ := open_bool Tryd.underlying4 (hval 2 4 v2 rfl rfl) h2
  clear hA0 hval0
  simp only [List.append_nil] at hW'
  refine (calls_any a0 a1 a2 W w0 w1).mono fun e W' ⟨he, hg⟩ => ?_
  subst he
  exact ⟨_, rfl, _, _, _, [], [], [], hW', (trodAll_cons_mk (shut_bool Tryd.underlying4 _) trodAll_mk0), (trodAll_cons_mk (p := []) (p' := []) (shut_string Tryd.underlying9 w0) (trodAll_cons_mk (p := []) (p' := []) (shut_string Tryd.underlying9 w1) (trodAll_cons_mk (p := []) (p' := []) (shut_bool Tryd.underlying4 a2) trodAll_mk0))), rfl, hg.frame _, fun h => by cases h⟩

theorem over : Rows.globCallsRow.holds Tryd.pinned (OpenSpec.ofChange Rows.globCallsSpec) :=
  OpenClaim.holds_of_wide 4 Tryd.f4 rfl rfl rfl rfl rfl rfl rfl ⟨rfl, rfl, rfl, rfl, rfl⟩ rfl rfl rfl rfl rfl (by kernel_rfl) Tryd.func4 (by kernel_rfl)
    (of_decide_eq_true (by kernel_rfl)) (by unfold Func.isWrapper; first | (rw [if_pos (by decide +kernel)]; kernel_rfl) | (rw [if_neg (by decide +kernel)]; exact ⟨rfl, rfl⟩))
    (fun os started H enc _ => lifted os started H enc)

theorem proved : Rows.GlobCallsCardSaid :=
  Claim7.holds_tied_plain_at .later [] [.data, .pinned] true (true, "a885945aa99acde39e11cf8c044cd11c4e763325019daa1910f36f424d87e1a9") false over (fun _ h => by cases h) (by kernel_rfl) (fun _ h => by cases h) globCalls_row_tie rfl ⟨rfl, rfl⟩ (by kernel_rfl) rfl
    (fun f fn hf hfn => by
      obtain rfl : f = 4 := Option.some.inj ((show Tryd.prog.funcNamed "outlaw/outlawlaw07.GlobCalls" = some 4 by kernel_rfl).symm.trans hf) |>.symm
      obtain rfl : fn = Tryd.f4 := (Option.some.inj (Tryd.func4.symm.trans hfn)).symm
      exact ⟨by kernel_rfl, fun j t ht => by
        rw [Tryd.params4] at ht
        have hm : t ∈ [9, 9, 4] := by simpa using Array.mem_of_getElem? ht
        have hall : ([9, 9, 4].all fun u => !Tryd.prog.wantsStandIn u) = true := by kernel_rfl
        exact (show Tryd.prog.wantsStandIn t = false by simpa using List.all_eq_true.1 hall t hm)⟩)
    (by kernel_rfl)
#print axioms proved
end Go.Proofs.YtolfpkjohlbfdaaDoor.globCalls
