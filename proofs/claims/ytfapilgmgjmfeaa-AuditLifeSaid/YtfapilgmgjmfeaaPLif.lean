/-
  The length of a life is what the document says, for every list of notes and every cut, no condition.
-/
import Derived.Test.YtfapilgmgjmfeaaRows
import Derived.Test.YtfapilgmgjmfeaaLLin
import Derived.Test.YtfapilgmgjmfeaaOpn
import Derived.WalkKit
import Derived.ProofKit
import Derived.OpenShut
import Derived.Carry
namespace Go.Proofs.Ytfapilgmgjmfeaa
open Go.RowKit

theorem auditLife_any (A : Option Addr) (c : Nat) (l : List Nt) (cut : Int) (w : World) (hA : NotesAt w A l) (hok : ∀ n, n ∈ l → NtFit n) (hm : l.length ≤ maxLen) (hcap : l.length ≤ c) (had : (A = none ∧ l = [] ∧ c = 0) ∨ ∃ g o s, A = some ⟨g, o, s⟩) :
    Calls Try.prog 3 #[.slice A l.length c, .int .i64 cut] w (Ret (.bool true) w) := by
  rcases had with ⟨rfl, rfl, rfl⟩ | had
  · exact life_nil cut w
  · cases hli : lightNs l 60 with
    | false => exact life_big A c l cut w hA hm hli
    | true =>
      have hk : cut % ((l.length : Int) + 1) = ((cut % ((l.length : Int) + 1)).toNat : Int) := by
        rw [Int.toNat_of_nonneg (Int.emod_nonneg _ (by omega))]
      generalize (cut % ((l.length : Int) + 1)).toNat = k0 at hk
      have hok' : ∀ n, n ∈ l → NtOk n := fun n hn => (hok n hn).1
      cases hv : lifeN l with
      | none => exact life_none A c l cut k0 w hA hok' hcap had hli hk hv
      | some pp =>
        by_cases h : k0 ≤ pp
        · exact life_low A c l cut k0 w hA hok' hcap had hli hk pp hv h
        · exact life_high A c l cut k0 w hA hok' hcap had hli hk pp hv (by omega)
end Go.Proofs.Ytfapilgmgjmfeaa

namespace Go.Proofs.Ytfapilgmgjmfeaa.auditLife
open Go.ChangeShapes Go.WideShapes Go.ChangeAt Go.RowKit
set_option linter.unusedVariables false

theorem own : ownKnob Try.prog.godebug = none := by kernel_rfl
theorem laid : laidOutB Try.prog = true := by kernel_rfl

set_option maxRecDepth 100000 in
theorem lifted (os : Os) (started : os.Started) (H : Type) (enc : TypeId × Value → H) :
    ReturnsInHanded {} Try.checked os 3 .any (Rows.auditLifeSpec.pre6 enc Try.prog Try.f3 Rows.auditLifeRow.domain false) (Rows.auditLifeSpec.post enc Try.prog Try.f3 false true false false) := by
  refine returnsInHanded_of_change (C := Try.checked) own started (by kernel_rfl) Try.func3
    (ChangeSpec.witness6 (enc := enc) (C := Try.checked) false ⟨#[], #[.slice none 0 0, .int .i64 0], []⟩ 8 (by kernel_rfl) (by kernel_rfl) (by kernel_rfl) (by kernel_rfl)) ?_
  intro W base args ds gs before hval0 hW hcnd _
  have hval : ∀ (j : Nat) t v, Try.f3.params[j]? = some t → args[j]? = some v → Value.okWide Try.prog W .any base t v := hval0
  have hW' := hW
  obtain ⟨p, q, hA0, hV, rfl, hfz, hnd⟩ := hW
  have hA : DataW.TrodAll enc Try.prog W 0 (fun _ => true) true Try.f3.params.toList args.toList ds p := hA0
  rw [Try.params3] at hA hval
  obtain ⟨v0, vs0, d0, ds0, p0, q0, hargs, rfl, rfl, h0, r0⟩ := trodAll_cons hA
  obtain ⟨v1, vs1, d1, ds1, p1, q1, rfl, rfl, rfl, h1, r1⟩ := trodAll_cons r0
  obtain ⟨rfl, rfl, rfl⟩ := trodAll_nil r1
  obtain rfl : args = #[v0, v1] := by cases args; simp_all
  obtain ⟨rfl, rfl⟩ := trodVars_none hV
  have h0k := h0
  obtain ⟨A, l, ca, rfl, hi, hok, hll, hcap, had⟩ := open_notes (hval 0 22 v0 rfl rfl) h0
  obtain ⟨a1, rfl, rfl, rfl, w1⟩ := open_int Try.underlying3 (hval 1 3 v1 rfl rfl) h1
  clear hA0 hval0
  have hlt0 : ∀ x ∈ p0, x.block < W.heap.size := fun x hx => by
    have := hW'.lt x (by simp [hx])
    simpa using this
  simp only [List.append_nil] at hW'
  refine (auditLife_any A ca l a1 W hi hok hll hcap had).mono fun e W' ⟨he, hg⟩ => ?_
  subst he
  have hA' := trodAll_cons_mk (Below.trod laid (by kernel_rfl) (of_decide_eq_true (by kernel_rfl)) h0k hg hlt0) (trodAll_cons_mk (shut_int Try.underlying3 w1) trodAll_mk0)
  simp only [List.append_nil, List.nil_append] at hA' hW'
  exact ⟨_, rfl, _, _, _, [], p0, [], hW', (trodAll_cons_mk (shut_bool Try.underlying4 _) trodAll_mk0), hA', rfl, hg.frame _, fun h => by cases h⟩

theorem over : Rows.auditLifeRow.holds Try.pinned (OpenSpec.ofChange Rows.auditLifeSpec) :=
  OpenClaim.holds_of_wide 3 Try.f3 rfl rfl rfl rfl rfl rfl rfl ⟨rfl, rfl, rfl, rfl, rfl⟩ rfl rfl rfl rfl rfl (by kernel_rfl) Try.func3 (by kernel_rfl)
    (of_decide_eq_true (by kernel_rfl)) (by unfold Func.isWrapper; first | (rw [if_pos (by decide +kernel)]; kernel_rfl) | (rw [if_neg (by decide +kernel)]; exact ⟨rfl, rfl⟩))
    (fun os started H enc _ => lifted os started H enc)

theorem proved : Rows.AuditLifeSaid :=
  over
#print axioms proved
end Go.Proofs.Ytfapilgmgjmfeaa.auditLife
