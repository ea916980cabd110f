/-
  A valid input is read from its record, and what is read has exactly this record: for every input and string, no condition.
-/
import Derived.Test.YtepbbdeolplhfaaRows
import Derived.Test.YtepbbdeolplhfaaBak
import Derived.WalkKit
import Derived.ProofKit
import Derived.OpenShut
import Derived.ShutString
import Derived.Carry
namespace Go.Proofs.Ytepbbdeolplhfaa

theorem back_any (k code n : Int) (ok : Bool) (t s : ByteArray) (w : World) : Calls Try.prog 3 #[inV k code n ok t, .string s] w (Ret (.bool true) w) := by
  by_cases h : (t.size : Int) ≤ 5000
  · by_cases hs : (s.size : Int) ≤ 5000
    · rcases readL_cases s.data.toList with ⟨m, hm, hr⟩ | ⟨⟨k2, code2, n2, ok2, t2⟩, hr, hc2, hb2, ht2⟩
      · by_cases hc : chk k code n ok t.size = 0
        · exact back_good_err k code n ok t s m w h hs hc hr hm
        · exact back_bad_err k code n ok t s _ m w h hs rfl hc hr hm
      · have hb2' : S (recL k2 code2 n2 ok2 t2) = s := by
          unfold Inp.bytes at hb2
          dsimp only at hb2
          rw [hb2]; exact S_of s
        have ht2' : (S t2).size ≤ 5000 := by
          have e : s.data.toList.length = s.size := by simp
          rw [S_size]; dsimp only at ht2; omega
        by_cases hc : chk k code n ok t.size = 0
        · exact back_good_ok k code n ok t s k2 code2 n2 ok2 (S t2) w h hs hc hr hc2 hb2' ht2'
        · exact back_bad_ok k code n ok t s _ k2 code2 n2 ok2 (S t2) w h hs rfl hc hr hc2 hb2' ht2'
    · exact back_long k code n ok t s w h (by omega)
  · exact back_heavy k code n ok t s w h
end Go.Proofs.Ytepbbdeolplhfaa

namespace Go.Proofs.Ytepbbdeolplhfaa.recordBack
open Go.ChangeShapes Go.WideShapes Go.ChangeAt Go.RowKit
open Go.ChangeMaps (open_string shut_string)
set_option linter.unusedVariables false

theorem own : ownKnob Try.prog.godebug = none := by kernel_rfl
theorem laid : laidOutB Try.prog = true := by kernel_rfl

set_option maxRecDepth 100000 in
theorem lifted (os : Os) (started : os.Started) (H : Type) (enc : TypeId × Value → H) :
    ReturnsInHanded {} Try.checked os 3 .any (Rows.recordBackSpec.pre6 enc Try.prog Try.f3 Rows.recordBackRow.domain false) (Rows.recordBackSpec.post enc Try.prog Try.f3 false true false false) := by
  refine returnsInHanded_of_change (C := Try.checked) own started (by kernel_rfl) Try.func3
    (ChangeSpec.witness6 (enc := enc) (C := Try.checked) false ⟨#[], #[.agg #[.int .i64 0, .int .i64 0, .int .i64 0, .bool false, .string ByteArray.empty], .string ByteArray.empty], []⟩ 8 (by kernel_rfl) (by kernel_rfl) (by kernel_rfl) (by kernel_rfl)) ?_
  intro W base args ds gs before hval0 hW hcnd _
  have hval : ∀ (j : Nat) t v, Try.f3.params[j]? = some t → args[j]? = some v → Value.okWide Try.prog W .any base t v := hval0
  have hW' := hW
  obtain ⟨p, q, hA0, hV, rfl, hfz, hnd⟩ := hW
  have hA : DataW.TrodAll enc Try.prog W 0 (fun _ => true) true Try.f3.params.toList args.toList ds p := hA0
  rw [Try.params3] at hA hval
  obtain ⟨v0, vs0, d0, ds0, p0, q0, hargs, rfl, rfl, h0, r0⟩ := trodAll_cons hA
  obtain ⟨v1, vs1, d1, ds1, p1, q1, rfl, rfl, rfl, h1, r1⟩ := trodAll_cons r0
  obtain ⟨rfl, rfl, rfl⟩ := trodAll_nil r1
  obtain rfl : args = #[v0, v1] := by cases args; simp_all
  obtain ⟨rfl, rfl⟩ := trodVars_none hV
  have h0k := h0
  obtain ⟨k, code, n, ok, t, rfl⟩ := open_in (hval 0 23 v0 rfl rfl) h0
  obtain ⟨a1, rfl, rfl, rfl, w1⟩ := open_string Try.underlying9 (hval 1 9 v1 rfl rfl) h1
  clear hA0 hval0
  have hlt : ∀ x ∈ p0, x.block < W.heap.size := fun x hx => by
    have := hW'.lt x (by simp [hx])
    simpa using this
  simp only [List.append_nil] at hW'
  refine (back_any k code n ok t a1 W).mono fun e W' ⟨he, hg⟩ => ?_
  subst he
  have hA' := trodAll_cons_mk (Below.trod laid (by kernel_rfl) (of_decide_eq_true (by kernel_rfl)) h0k hg hlt) (trodAll_cons_mk (shut_string Try.underlying9 w1) trodAll_mk0)
  simp only [List.append_nil] at hA'
  exact ⟨_, rfl, _, _, _, [], p0, [], hW', (trodAll_cons_mk (shut_bool Try.underlying4 _) trodAll_mk0), hA', rfl, hg.frame _, fun h => by cases h⟩

theorem over : Rows.recordBackRow.holds Try.pinned (OpenSpec.ofChange Rows.recordBackSpec) :=
  OpenClaim.holds_of_wide 3 Try.f3 rfl rfl rfl rfl rfl rfl rfl ⟨rfl, rfl, rfl, rfl, rfl⟩ rfl rfl rfl rfl rfl (by kernel_rfl) Try.func3 (by kernel_rfl)
    (of_decide_eq_true (by kernel_rfl)) (by unfold Func.isWrapper; first | (rw [if_pos (by decide +kernel)]; kernel_rfl) | (rw [if_neg (by decide +kernel)]; exact ⟨rfl, rfl⟩))
    (fun os started H enc _ => lifted os started H enc)

theorem proved : Rows.RecordBackSaid :=
  over
#print axioms proved
end Go.Proofs.Ytepbbdeolplhfaa.recordBack
