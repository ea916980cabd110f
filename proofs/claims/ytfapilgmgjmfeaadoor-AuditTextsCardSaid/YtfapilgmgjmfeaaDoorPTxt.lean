/-
  The text of notes consists of the lines of the notes, each followed by a line end, and that of a prefix followed by that of the rest is the text of all: for every list of notes and every cut, no condition.
-/
import Derived.Test.YtfapilgmgjmfeaaDoorRows
import Derived.Test.YtfapilgmgjmfeaaDoorCards
import Derived.Test.YtfapilgmgjmfeaaDoorTie
import Derived.Test.YtfapilgmgjmfeaaDoorLTxt
import Derived.Test.YtfapilgmgjmfeaaDoorOpn
import Derived.WalkKit
import Derived.ProofKit
import Derived.OpenShut
import Derived.ShutString
import Derived.LaidMore
import Derived.Lay
import Derived.SevenTiedAt
import Derived.Stop.Joined
import Derived.Carry
import Derived.PinnedBridge
import Derived.Lib.LaidU8T
import Derived.Lib.LaidTab
import Derived.Stop.LaidErr
namespace Go.Proofs.YtfapilgmgjmfeaaDoor
open Go.RowKit
/-- The table of powers of ten, out of what the row lists. -/
theorem tab_auditTexts {W : World} (h : laidMetH Tryd.prog Rows.auditTextsRow.laid W) : Tab W := by
  rw [MakeChecks.laidMetH_plain _ _ _ (by kernel_rfl)] at h
  have h2 := laidMet.tail (laidMet.tail h)
  exact Lib.tabIs_of_head (rest := []) (g := 0) (t := 116) (e := 94) (n := 20) tab_g (by kernel_rfl) (by kernel_rfl) (by kernel_rfl) (by kernel_rfl) (by kernel_rfl) h2
theorem texts_any (A : Option Addr) (c : Nat) (l : List Nt) (cut : Int) (w : World) (ht : Tab w) (hA : NotesAt w A l) (hok : ∀ n, n ∈ l → NtFit n) (hm : l.length ≤ maxLen) (hcap : l.length ≤ c) (had : (A = none ∧ l = [] ∧ c = 0) ∨ ∃ g o s, A = some ⟨g, o, s⟩) :
    Calls Tryd.prog 4 #[.slice A l.length c, .int .i64 cut] w (Ret (.bool true) w) := by
  rcases had with ⟨rfl, rfl, rfl⟩ | ⟨g, o, s, rfl⟩
  · exact texts_nil cut w ht
  · cases hli : lightNs l 60 with
    | false => exact texts_big _ c l cut w hA hm hli
    | true =>
      have hk : cut % ((l.length : Int) + 1) = ((cut % ((l.length : Int) + 1)).toNat : Int) := by
        rw [Int.toNat_of_nonneg (Int.emod_nonneg _ (by omega))]
      exact texts_main g o s c l cut _ w ht hA hli (fun n hn => ⟨lightNs_one hli n hn, (hok n hn).1, (hok n hn).2.2.2⟩) hcap hk
end Go.Proofs.YtfapilgmgjmfeaaDoor

namespace Go.Proofs.YtfapilgmgjmfeaaDoor.auditTexts
open Go.ChangeShapes Go.WideShapes Go.ChangeAt Go.RowKit
open Go.ChangeMaps (open_string shut_string)
set_option linter.unusedVariables false

theorem own : ownKnob Tryd.prog.godebug = none := by kernel_rfl
theorem laid : laidOutB Tryd.prog = true := by kernel_rfl

set_option maxRecDepth 100000 in
theorem lifted (os : Os) (started : os.Started) (H : Type) (enc : TypeId × Value → H) :
    ReturnsInHanded {} Tryd.checked os 4 .any (fun w args => (Rows.auditTextsSpec.pre enc Tryd.prog Tryd.f4 Rows.auditTextsRow.domain false w args ∧ laidMetH Tryd.prog Rows.auditTextsRow.laid w) ∧ sizedMet enc Tryd.prog Tryd.f4 (OpenSpec.ofChange Rows.auditTextsSpec) false w args)
      (Rows.auditTextsSpec.post enc Tryd.prog Tryd.f4 false true false false) := by
  refine returnsInHanded_of_change_and (C := Tryd.checked) (X := fun w _ => laidMetH Tryd.prog Rows.auditTextsRow.laid w) (fun _ _ _ hh h => h.of_heap hh) own started (by kernel_rfl) Tryd.func4
    (ChangeSpec.witness_shaped (enc := enc) (C := Tryd.checked) (os := os) (X := fun w _ => laidMetH Tryd.prog Rows.auditTextsRow.laid w) false (World.laidAll Tryd.prog os Rows.auditTextsRow.laid) #[.slice none 0 0, .int .i64 0] 8 (World.laidAll_os _ _ _)
      (World.shaped_of_ZipB (by kernel_rfl) (by kernel_rfl)) (by kernel_rfl) (by kernel_rfl) (by kernel_rfl)
      (by rw [MakeChecks.laidMetH_plain _ _ _ (by kernel_rfl)]; exact laidMet_laidAll _ (by kernel_rfl) (by kernel_rfl))) ?_
  intro W base args ds gs before hval0 hW hcnd _ hL _
  have hval : ∀ (j : Nat) t v, Tryd.f4.params[j]? = some t → args[j]? = some v → Value.okWide Tryd.prog W .any base t v := hval0
  have hW' := hW
  obtain ⟨p, q, hA0, hV, rfl, hfz, hnd⟩ := hW
  have hA : DataW.TrodAll enc Tryd.prog W 0 (fun _ => true) true Tryd.f4.params.toList args.toList ds p := hA0
  rw [Tryd.params4] at hA hval
  obtain ⟨v0, vs0, d0, ds0, p0, q0, hargs, rfl, rfl, h0, r0⟩ := trodAll_cons hA
  obtain ⟨v1, vs1, d1, ds1, p1, q1, rfl, rfl, rfl, h1, r1⟩ := trodAll_cons r0
  obtain ⟨rfl, rfl, rfl⟩ := trodAll_nil r1
  obtain rfl : args = #[v0, v1] := by cases args; simp_all
  obtain ⟨rfl, rfl⟩ := trodVars_none hV
  have h0k := h0
  obtain ⟨A, l, ca, rfl, hi, hok, hll, hcap, had⟩ := open_notes (hval 0 28 v0 rfl rfl) h0
  obtain ⟨a1, rfl, rfl, rfl, w1⟩ := open_int Tryd.underlying3 (hval 1 3 v1 rfl rfl) h1
  clear hA0 hval0
  have hlt0 : ∀ x ∈ p0, x.block < W.heap.size := fun x hx => by
    have := hW'.lt x (by simp [hx])
    simpa using this
  simp only [List.append_nil] at hW'
  refine (texts_any A ca l a1 W (tab_auditTexts hL) hi hok hll hcap had).mono fun e W' ⟨he, hg⟩ => ?_
  subst he
  have hA' := trodAll_cons_mk (Below.trod laid (by kernel_rfl) (of_decide_eq_true (by kernel_rfl)) h0k hg hlt0) (trodAll_cons_mk (shut_int Tryd.underlying3 w1) trodAll_mk0)
  simp only [List.append_nil, List.nil_append] at hA' hW'
  exact ⟨_, rfl, _, _, _, [], p0, [], hW', (trodAll_cons_mk (shut_bool Tryd.underlying4 _) trodAll_mk0), hA', rfl, hg.frame _, fun h => by cases h⟩

theorem over : Rows.auditTextsRow.holds Tryd.pinned (OpenSpec.ofChange Rows.auditTextsSpec) :=
  OpenClaim.holds_of_wide 4 Tryd.f4 rfl rfl rfl rfl rfl rfl rfl ⟨rfl, rfl, rfl, rfl, rfl⟩ rfl rfl rfl rfl rfl (by kernel_rfl) Tryd.func4 (by kernel_rfl)
    (of_decide_eq_true (by kernel_rfl)) (by unfold Func.isWrapper; first | (rw [if_pos (by decide +kernel)]; kernel_rfl) | (rw [if_neg (by decide +kernel)]; exact ⟨rfl, rfl⟩))
    (fun os started H enc _ => lifted os started H enc)

set_option maxRecDepth 100000 in
theorem proved : Rows.AuditTextsCardSaid :=
  Claim7.holds_tied_plain_at .later [] [.data, .data, .data] true (true, "d031d823a695a61a8eacdc34e69eac73c7efa9fb5ad80a937db0cd696ca30a89") false over (fun _ h => by cases h) (by kernel_rfl) (fun _ h => by cases h) auditTexts_row_tie rfl ⟨rfl, rfl⟩ (by kernel_rfl) rfl
    (fun f fn hf hfn => by
      obtain rfl : f = 4 := Option.some.inj ((show Tryd.prog.funcNamed "outlaw/outlawlaw23.AuditTexts" = some 4 by kernel_rfl).symm.trans hf) |>.symm
      obtain rfl : fn = Tryd.f4 := (Option.some.inj (Tryd.func4.symm.trans hfn)).symm
      exact ⟨by kernel_rfl, fun j t ht => by
        rw [Tryd.params4] at ht
        have hm : t ∈ [28, 3] := by simpa using Array.mem_of_getElem? ht
        have hall : ([28, 3].all fun u => !Tryd.prog.wantsStandIn u) = true := by kernel_rfl
        exact (show Tryd.prog.wantsStandIn t = false by simpa using List.all_eq_true.1 hall t hm)⟩)
    (by kernel_rfl)
#print axioms proved
end Go.Proofs.YtfapilgmgjmfeaaDoor.auditTexts
