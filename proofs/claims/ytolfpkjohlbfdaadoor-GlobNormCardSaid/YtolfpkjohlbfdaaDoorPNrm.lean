/-
  The normal form of a glob matches what the glob does, is its own normal form, asks for as many bytes; a glob without wildcards matches only itself: for every glob, text and fold, no condition.
-/
import Derived.Test.YtolfpkjohlbfdaaDoorRows
import Derived.Test.YtolfpkjohlbfdaaDoorCards
import Derived.Test.YtolfpkjohlbfdaaDoorTie
import Derived.Test.YtolfpkjohlbfdaaDoorLNrb
import Derived.Test.YtolfpkjohlbfdaaDoorLNrc
import Derived.Test.YtolfpkjohlbfdaaDoorIx2
import Derived.Test.YtolfpkjohlbfdaaDoorLia
import Derived.WalkKit
import Derived.ProofKit
import Derived.OpenShut
import Derived.ShutString
import Derived.LaidMore
import Derived.Lay
import Derived.SevenTiedAt
import Derived.Stop.Joined
import Derived.Carry
namespace Go.Proofs.YtolfpkjohlbfdaaDoor
open Go.RowKit

theorem two_ok : TwoOk := fun r rs w h1 h2 h3 hv hs hn hb => ixr_two r rs w h1 h2 h3 hv hs hn hb
theorem bytes_ne {p t : ByteArray} (h : ¬ p = t) : (p.data.toList == t.data.toList) = false := by
  rw [beq_eq_false_iff_ne]
  intro e
  apply h
  cases p; cases t; simp at e; rw [e]
theorem bytes_of_list {p t : ByteArray} (e : p.toList = t.toList) : p = t := by
  rw [ByteArray.toList_eq, ByteArray.toList_eq] at e
  cases p; cases t; simp at e; rw [e]
theorem S_ne {f g : List UInt8} (h : ¬ f = g) : ¬ S f = S g := fun e => h (by
  have := congrArg (fun b : ByteArray => b.data.toList) e
  simpa [S] using this)

set_option maxHeartbeats 1000000 in
theorem norm_small (p t : ByteArray) (fo : Bool) (w : World) (hp : p.size ≤ 300) (ht : t.size ≤ 300) :
    Calls Tryd.prog 5 #[.string p, .string t, .bool fo] w (RetQ true w) := by
  have hp' : p.size ≤ maxLen := by unfold maxLen; omega
  have ht' : t.size ≤ maxLen := by unfold maxLen; omega
  have hpl : p.data.toList.length = p.size := by simp
  have htl : t.data.toList.length = t.size := by simp
  have hnl : (S (normL p.data.toList)).size ≤ p.size := by rw [S_size, ← hpl]; exact normL_len _
  have cL : Hid (∀ w1, Calls Tryd.prog 9 #[] w1 (RetQ true w1)) := Lib.hid (fun w1 => lives_any w1)
  have cF : Hid (∀ w1 : World, Calls Tryd.prog 15 #[.slice (some ⟨w1.heap.size, 0, none⟩) 2 2] (w1.alloc (two p t)) (RetQ true (w1.alloc (two p t)))) := Lib.hid (fun w1 => by
    have h := light_two p t w1 hp' ht'
    rwa [show light2 p t = true by simp [light2, hp, ht]] at h)
  have cN : Hid (∀ w1, Calls Tryd.prog 10 #[.string p] w1 (fun e w' => e = .returned (.string (S (normL p.data.toList))) ∧ Keeps w1 w')) := Lib.hid (fun w1 => norm_any p w1 (by omega))
  have cO : Hid (∀ w1, Calls Tryd.prog 10 #[.string (S (normL p.data.toList))] w1 (fun e w' => e = .returned (.string (S (normL p.data.toList))) ∧ Keeps w1 w')) := Lib.hid (fun w1 => by
    have h := norm_any (S (normL p.data.toList)) w1 (by omega)
    rw [S_data, norm_norm] at h
    exact h)
  have hk0 : p.size - Lib.countByte p.data.toList 42 = leastN p.data.toList := by rw [← least_count, hpl]
  have hk2 : (S (normL p.data.toList)).size - Lib.countByte (S (normL p.data.toList)).data.toList 42 = leastN p.data.toList := by rw [S_data, S_size, least_count, least_norm]
  have cK : Hid (∀ w1, Calls Tryd.prog 11 #[.string p] w1 (fun e w' => e = .returned (.int .i64 ((leastN p.data.toList : Nat) : Int)) ∧ w' = w1)) := Lib.hid (fun w1 => by
    have h := least_any p w1 hp'
    rwa [hk0] at h)
  have cJ : Hid (∀ w1, Calls Tryd.prog 11 #[.string (S (normL p.data.toList))] w1 (fun e w' => e = .returned (.int .i64 ((leastN p.data.toList : Nat) : Int)) ∧ w' = w1)) := Lib.hid (fun w1 => by
    have h := least_any (S (normL p.data.toList)) w1 (by unfold maxLen; omega)
    rwa [hk2] at h)
  have cM : ∀ m, mt (eqB fo) p.data.toList t.data.toList = m → Hid (∀ w1, Calls Tryd.prog 13 #[.string p, .string t, .bool fo] w1 (RetQ m w1)) := fun m e => Lib.hid (fun w1 => match_at p t fo m w1 (by omega) (by omega) e)
  have cR : ∀ m, mt (eqB fo) p.data.toList t.data.toList = m → Hid (∀ w1, Calls Tryd.prog 13 #[.string (S (normL p.data.toList)), .string t, .bool fo] w1 (RetQ m w1)) := fun m e => Lib.hid (fun w1 => match_at (S (normL p.data.toList)) t fo m w1 (by omega) (by omega) (by rw [S_data, mt_norm]; exact e))
  have cI : ∀ c, Lib.containsAny p.data.toList [42, 63] = c → Hid (∀ w1, Calls Tryd.prog 8 #[.string p] w1 (RetL (if c = true then ⟨#[]⟩ else p) (!c) w1)) := fun c e => Lib.hid (fun w1 => by
    have h := lit_any two_ok p w1 (by omega)
    rwa [e] at h)
  have cA : Hid (∀ w1, Calls Tryd.prog 14 #[.string p] w1 (fun e w' => e = .returned (.string (S (lowL p.data.toList))) ∧ Keeps w1 w')) := Lib.hid (fun w1 => fold_any p w1 hp')
  have cB : Hid (∀ w1, Calls Tryd.prog 14 #[.string t] w1 (fun e w' => e = .returned (.string (S (lowL t.data.toList))) ∧ Keeps w1 w')) := Lib.hid (fun w1 => fold_any t w1 ht')
  have hkb : leastN p.data.toList ≤ 1000 := by
    have : leastN p.data.toList ≤ p.data.toList.length := by unfold leastN; exact List.length_filter_le _ _
    omega
  have hle : mt (eqB fo) p.data.toList t.data.toList = true → leastN p.data.toList ≤ t.size := fun e => by rw [← htl]; exact mt_least _ _ _ _ (Nat.le_refl _) e
  have hF : fo = false → Lib.containsAny p.data.toList [42, 63] = false → mt (eqB fo) p.data.toList t.data.toList = (p.data.toList == t.data.toList) := fun e h => by subst e; exact lit_false _ _ h
  have hT : fo = true → Lib.containsAny p.data.toList [42, 63] = false → mt (eqB fo) p.data.toList t.data.toList = (lowL p.data.toList == lowL t.data.toList) := fun e h => by subst e; exact lit_true _ _ h
  by_cases hpt : p = t
  · subst hpt
    have hT' : Lib.containsAny p.data.toList [42, 63] = false → mt (eqB fo) p.data.toList p.data.toList = true := fun h => by
      cases fo
      · rw [hF rfl h]; simp
      · rw [hT rfl h]; simp
    cases hc : Lib.containsAny p.data.toList [42, 63]
    · have hm := hT' hc
      cases fo
      · exact nw_A0_lt p _ _ w hp ht hnl (hle hm) hkb cL cF cN cO (cM _ hm) (cR _ hm) cK cJ (cI _ hc)
      · exact nw_A1_lt p _ _ w hp ht hnl (hle hm) hkb cL cF cN cO (cM _ hm) (cR _ hm) cK cJ (cI _ hc)
    · cases hm : mt (eqB fo) p.data.toList p.data.toList
      · cases fo
        · exact nw_A0_cf p _ _ w hp ht hnl hkb cL cF cN cO (cM _ hm) (cR _ hm) cK cJ (cI _ hc)
        · exact nw_A1_cf p _ _ w hp ht hnl hkb cL cF cN cO (cM _ hm) (cR _ hm) cK cJ (cI _ hc)
      · cases fo
        · exact nw_A0_ct p _ _ w hp ht hnl (hle hm) hkb cL cF cN cO (cM _ hm) (cR _ hm) cK cJ (cI _ hc)
        · exact nw_A1_ct p _ _ w hp ht hnl (hle hm) hkb cL cF cN cO (cM _ hm) (cR _ hm) cK cJ (cI _ hc)
  · have hpl1 : ¬ p.toList = t.toList := fun e => hpt (bytes_of_list e)
    have hpl2 : (p.toList == t.toList) = false := beq_eq_false_iff_ne.2 hpl1
    cases fo
    · cases hc : Lib.containsAny p.data.toList [42, 63]
      · have hm := hF rfl hc
        rw [bytes_ne hpt] at hm
        exact nw_B_lf p t _ _ w hp ht hnl hpl1 hpl2 hkb cL cF cN cO (cM _ hm) (cR _ hm) cK cJ (cI _ hc)
      · cases hm : mt (eqB false) p.data.toList t.data.toList
        · exact nw_B_cf p t _ _ w hp ht hnl hpl1 hpl2 hkb cL cF cN cO (cM _ hm) (cR _ hm) cK cJ (cI _ hc)
        · exact nw_B_ct p t _ _ w hp ht hnl hpl1 hpl2 (hle hm) hkb cL cF cN cO (cM _ hm) (cR _ hm) cK cJ (cI _ hc)
    · by_cases hfg : lowL p.data.toList = lowL t.data.toList
      · rw [← hfg] at cB
        cases hc : Lib.containsAny p.data.toList [42, 63]
        · have hm := hT rfl hc
          rw [hfg, beq_self_eq_true] at hm
          exact nw_C_lt p t _ _ _ w hp ht hnl hpl1 hpl2 (hle hm) hkb cL cF cN cO (cM _ hm) (cR _ hm) cK cJ (cI _ hc) cA cB
        · cases hm : mt (eqB true) p.data.toList t.data.toList
          · exact nw_C_cf p t _ _ _ w hp ht hnl hpl1 hpl2 hkb cL cF cN cO (cM _ hm) (cR _ hm) cK cJ (cI _ hc) cA cB
          · exact nw_C_ct p t _ _ _ w hp ht hnl hpl1 hpl2 (hle hm) hkb cL cF cN cO (cM _ hm) (cR _ hm) cK cJ (cI _ hc) cA cB
      · have hS1 : ¬ (S (lowL p.data.toList)).toList = (S (lowL t.data.toList)).toList := fun e => S_ne hfg (bytes_of_list e)
        have hS2 : ((S (lowL p.data.toList)).toList == (S (lowL t.data.toList)).toList) = false := beq_eq_false_iff_ne.2 hS1
        cases hc : Lib.containsAny p.data.toList [42, 63]
        · have hm := hT rfl hc
          rw [beq_eq_false_iff_ne.2 hfg] at hm
          exact nw_D_lf p t _ _ _ _ w hp ht hnl hpl1 hpl2 hS1 hS2 hkb cL cF cN cO (cM _ hm) (cR _ hm) cK cJ (cI _ hc) cA cB
        · cases hm : mt (eqB true) p.data.toList t.data.toList
          · exact nw_D_cf p t _ _ _ _ w hp ht hnl hpl1 hpl2 hS1 hS2 hkb cL cF cN cO (cM _ hm) (cR _ hm) cK cJ (cI _ hc) cA cB
          · exact nw_D_ct p t _ _ _ _ w hp ht hnl hpl1 hpl2 hS1 hS2 (hle hm) hkb cL cF cN cO (cM _ hm) (cR _ hm) cK cJ (cI _ hc) cA cB

theorem law_any (p t : ByteArray) (fo : Bool) (w : World) (hp : p.size ≤ maxLen) (ht : t.size ≤ maxLen) :
    Calls Tryd.prog 5 #[.string p, .string t, .bool fo] w (RetQ true w) := by
  by_cases g : light2 p t = true
  · have g' : p.size ≤ 300 ∧ t.size ≤ 300 := by simpa [light2] using g
    exact norm_small p t fo w g'.1 g'.2
  · exact norm_big p t fo w hp ht (by simpa using g)
end Go.Proofs.YtolfpkjohlbfdaaDoor

namespace Go.Proofs.YtolfpkjohlbfdaaDoor.globNorm
open Go.ChangeShapes Go.WideShapes Go.ChangeAt Go.RowKit
open Go.ChangeMaps (open_string shut_string)
set_option linter.unusedVariables false

theorem own : ownKnob Tryd.prog.godebug = none := by kernel_rfl

set_option maxRecDepth 100000 in
theorem lifted (os : Os) (started : os.Started) (H : Type) (enc : TypeId × Value → H) :
    ReturnsInHanded {} Tryd.checked os 5 .any (fun w args => (Rows.globNormSpec.pre enc Tryd.prog Tryd.f5 Rows.globNormRow.domain false w args ∧ laidMetH Tryd.prog Rows.globNormRow.laid w) ∧ sizedMet enc Tryd.prog Tryd.f5 (OpenSpec.ofChange Rows.globNormSpec) false w args)
      (Rows.globNormSpec.post enc Tryd.prog Tryd.f5 false true false false) := by
  refine returnsInHanded_of_change_and (C := Tryd.checked) (X := fun w _ => laidMetH Tryd.prog Rows.globNormRow.laid w) (fun _ _ _ hh h => h.of_heap hh) own started (by kernel_rfl) Tryd.func5
    (ChangeSpec.witness_shaped (enc := enc) (C := Tryd.checked) (os := os) (X := fun w _ => laidMetH Tryd.prog Rows.globNormRow.laid w) false (World.laidAll Tryd.prog os Rows.globNormRow.laid) #[.string ByteArray.empty, .string ByteArray.empty, .bool false] 8 (World.laidAll_os _ _ _)
      (World.shaped_of_ZipB (by kernel_rfl) (by kernel_rfl)) (by kernel_rfl) (by kernel_rfl) (by kernel_rfl)
      (by rw [MakeChecks.laidMetH_plain _ _ _ (by kernel_rfl)]; exact laidMet_laidAll _ (by kernel_rfl) (by kernel_rfl))) ?_
  intro W base args ds gs before hval0 hW hcnd _ hL _
  have hval : ∀ (j : Nat) t v, Tryd.f5.params[j]? = some t → args[j]? = some v → Value.okWide Tryd.prog W .any base t v := hval0
  have hW' := hW
  obtain ⟨p, q, hA0, hV, rfl, hfz, hnd⟩ := hW
  have hA : DataW.TrodAll enc Tryd.prog W 0 (fun _ => true) true Tryd.f5.params.toList args.toList ds p := hA0
  rw [Tryd.params5] at hA hval
  obtain ⟨v0, vs0, d0, ds0, p0, q0, hargs, rfl, rfl, h0, r0⟩ := trodAll_cons hA
  obtain ⟨v1, vs1, d1, ds1, p1, q1, rfl, rfl, rfl, h1, r1⟩ := trodAll_cons r0
  obtain ⟨v2, vs2, d2, ds2, p2, q2, rfl, rfl, rfl, h2, r2⟩ := trodAll_cons r1
  obtain ⟨rfl, rfl, rfl⟩ := trodAll_nil r2
  obtain rfl : args = #[v0, v1, v2] := by cases args; simp_all
  obtain ⟨rfl, rfl⟩ := trodVars_none hV
  obtain ⟨a0, rfl, rfl, rfl, w0⟩ := open_string Tryd.underlying9 (hval 0 9 v0 rfl rfl) h0
  obtain ⟨a1, rfl, rfl, rfl, w1⟩ := open_string Tryd.underlying9 (hval 1 9 v1 rfl rfl) h1
  obtain ⟨a2, rfl, rfl, rfl⟩ := open_bool Tryd.underlying4 (hval 2 4 v2 rfl rfl) h2
  clear hA0 hval0
  simp only [List.append_nil] at hW'
  refine (law_any a0 a1 a2 W w0 w1).mono fun e W' ⟨he, hg⟩ => ?_
  subst he
  exact ⟨_, rfl, _, _, _, [], [], [], hW', (trodAll_cons_mk (shut_bool Tryd.underlying4 _) trodAll_mk0), (trodAll_cons_mk (p := []) (p' := []) (shut_string Tryd.underlying9 w0) (trodAll_cons_mk (p := []) (p' := []) (shut_string Tryd.underlying9 w1) (trodAll_cons_mk (p := []) (p' := []) (shut_bool Tryd.underlying4 a2) trodAll_mk0))), rfl, hg.frame _, fun h => by cases h⟩

theorem over : Rows.globNormRow.holds Tryd.pinned (OpenSpec.ofChange Rows.globNormSpec) :=
  OpenClaim.holds_of_wide 5 Tryd.f5 rfl rfl rfl rfl rfl rfl rfl ⟨rfl, rfl, rfl, rfl, rfl⟩ rfl rfl rfl rfl rfl (by kernel_rfl) Tryd.func5 (by kernel_rfl)
    (of_decide_eq_true (by kernel_rfl)) (by unfold Func.isWrapper; first | (rw [if_pos (by decide +kernel)]; kernel_rfl) | (rw [if_neg (by decide +kernel)]; exact ⟨rfl, rfl⟩))
    (fun os started H enc _ => lifted os started H enc)

theorem proved : Rows.GlobNormCardSaid :=
  Claim7.holds_tied_plain_at .later [] [.data, .pinned] true (true, "a885945aa99acde39e11cf8c044cd11c4e763325019daa1910f36f424d87e1a9") false over (fun _ h => by cases h) (by kernel_rfl) (fun _ h => by cases h) globNorm_row_tie rfl ⟨rfl, rfl⟩ (by kernel_rfl) rfl
    (fun f fn hf hfn => by
      obtain rfl : f = 5 := Option.some.inj ((show Tryd.prog.funcNamed "outlaw/outlawlaw07.GlobNorm" = some 5 by kernel_rfl).symm.trans hf) |>.symm
      obtain rfl : fn = Tryd.f5 := (Option.some.inj (Tryd.func5.symm.trans hfn)).symm
      exact ⟨by kernel_rfl, fun j t ht => by
        rw [Tryd.params5] at ht
        have hm : t ∈ [9, 9, 4] := by simpa using Array.mem_of_getElem? ht
        have hall : ([9, 9, 4].all fun u => !Tryd.prog.wantsStandIn u) = true := by kernel_rfl
        exact (show Tryd.prog.wantsStandIn t = false by simpa using List.all_eq_true.1 hall t hm)⟩)
    (by kernel_rfl)
#print axioms proved
end Go.Proofs.YtolfpkjohlbfdaaDoor.globNorm
