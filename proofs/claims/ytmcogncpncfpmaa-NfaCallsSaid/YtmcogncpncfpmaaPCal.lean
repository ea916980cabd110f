/-
  States, steps and the result of runs of package nfa are what the document says: for every glob, fold, list of numbers, byte and string, no condition.
-/
import Derived.Test.YtmcogncpncfpmaaRows
import Derived.Test.YtmcogncpncfpmaaLCal
import Derived.Test.YtmcogncpncfpmaaOpn
import Derived.WalkKit
import Derived.ProofKit
import Derived.OpenShut
import Derived.ShutString
import Derived.Carry
namespace Go.Proofs.Ytmcogncpncfpmaa
open Go.RowKit

theorem calls_any (s : ByteArray) (fo : Bool) (A : Option Addr) (ca : Nat) (ls : List Int) (c : Nat) (hc : c < 256) (t : ByteArray) (w : World) (hs : s.size ≤ maxLen) (hl : ls.length ≤ maxLen) (ht : t.size ≤ maxLen)
    (h1 : IntsAt w A ls) (n1 : ls = [] ∨ A ≠ none) :
    Calls Try.prog 4 #[.string s, .bool fo, .slice A ls.length ca, .int .u8 c, .string t] w (RetQ true w) := by
  have e : ((c : Nat) : Int) = ((UInt8.ofNat c).toNat : Int) := by
    rw [UInt8.toNat_ofNat']; omega
  rw [e]
  by_cases g : s.size ≤ 300 ∧ t.size ≤ 260
  · by_cases g2 : ls.length ≤ 400
    · rcases both_cases s fo hs with ⟨x, hx, hb, hr⟩ | ⟨hb, hr, hN⟩
      · exact calls_bad s fo A ca _ _ t w hs ht g2 g x hx hb hr
      · exact calls_good s fo A ca ls _ t w _ hs ht g2 g hb hr hN h1 n1
    · exact calls_heavy s fo A ca _ _ t w hs ht hl (.inr ⟨g, by omega⟩)
  · exact calls_heavy s fo A ca _ _ t w hs ht hl (.inl g)
end Go.Proofs.Ytmcogncpncfpmaa

namespace Go.Proofs.Ytmcogncpncfpmaa.nfaCalls
open Go.ChangeShapes Go.WideShapes Go.ChangeAt Go.RowKit
open Go.ChangeMaps (open_string shut_string)
set_option linter.unusedVariables false

theorem own : ownKnob Try.prog.godebug = none := by kernel_rfl
theorem laid : laidOutB Try.prog = true := by kernel_rfl

set_option maxRecDepth 100000 in
theorem lifted (os : Os) (started : os.Started) (H : Type) (enc : TypeId × Value → H) :
    ReturnsInHanded {} Try.checked os 4 .any (Rows.nfaCallsSpec.pre6 enc Try.prog Try.f4 Rows.nfaCallsRow.domain false) (Rows.nfaCallsSpec.post enc Try.prog Try.f4 false true false false) := by
  refine returnsInHanded_of_change (C := Try.checked) own started (by kernel_rfl) Try.func4
    (ChangeSpec.witness6 (enc := enc) (C := Try.checked) false ⟨#[], #[.string ByteArray.empty, .bool false, .slice none 0 0, .int .u8 0, .string ByteArray.empty], []⟩ 8 (by kernel_rfl) (by kernel_rfl) (by kernel_rfl) (by kernel_rfl)) ?_
  intro W base args ds gs before hval0 hW hcnd _
  have hval : ∀ (j : Nat) t v, Try.f4.params[j]? = some t → args[j]? = some v → Value.okWide Try.prog W .any base t v := hval0
  have hW' := hW
  obtain ⟨p, q, hA0, hV, rfl, hfz, hnd⟩ := hW
  have hA : DataW.TrodAll enc Try.prog W 0 (fun _ => true) true Try.f4.params.toList args.toList ds p := hA0
  rw [Try.params4] at hA hval
  obtain ⟨v0, vs0, d0, ds0, p0, q0, hargs, rfl, rfl, h0, r0⟩ := trodAll_cons hA
  obtain ⟨v1, vs1, d1, ds1, p1, q1, rfl, rfl, rfl, h1, r1⟩ := trodAll_cons r0
  obtain ⟨v2, vs2, d2, ds2, p2, q2, rfl, rfl, rfl, h2, r2⟩ := trodAll_cons r1
  obtain ⟨v3, vs3, d3, ds3, p3, q3, rfl, rfl, rfl, h3, r3⟩ := trodAll_cons r2
  obtain ⟨v4, vs4, d4, ds4, p4, q4, rfl, rfl, rfl, h4, r4⟩ := trodAll_cons r3
  obtain ⟨rfl, rfl, rfl⟩ := trodAll_nil r4
  obtain rfl : args = #[v0, v1, v2, v3, v4] := by cases args; simp_all
  obtain ⟨rfl, rfl⟩ := trodVars_none hV
  have h2k := h2
  obtain ⟨a0, rfl, rfl, rfl, w0⟩ := open_string Try.underlying9 (hval 0 9 v0 rfl rfl) h0
  obtain ⟨a1, rfl, rfl, rfl⟩ := open_bool Try.underlying4 (hval 1 4 v1 rfl rfl) h1
  obtain ⟨A, ls, ca, rfl, hll, hi, hnl⟩ := open_il (hval 2 31 v2 rfl rfl) h2
  obtain ⟨a3, rfl, rfl, rfl, w3⟩ := open_int Try.underlying5 (hval 3 5 v3 rfl rfl) h3
  obtain ⟨a4, rfl, rfl, rfl, w4⟩ := open_string Try.underlying9 (hval 4 9 v4 rfl rfl) h4
  clear hA0 hval0
  have hlt2 : ∀ x ∈ p2, x.block < W.heap.size := fun x hx => by
    have := hW'.lt x (by simp [hx])
    simpa using this
  simp only [List.append_nil] at hW'
  obtain ⟨n3, rfl, hn3⟩ : ∃ n : Nat, a3 = n ∧ n < 256 := by
    simp [Lit.wf, IntKind.min, IntKind.max, IntKind.bits, IntKind.signed] at w3
    exact ⟨a3.toNat, by omega, by omega⟩
  refine (calls_any a0 a1 A ca ls n3 hn3 a4 W w0 hll w4 hi hnl).mono fun e W' ⟨he, hg⟩ => ?_
  subst he
  have hA' := trodAll_cons_mk (shut_string Try.underlying9 w0) (trodAll_cons_mk (shut_bool Try.underlying4 a1) (trodAll_cons_mk (Below.trod laid (by kernel_rfl) (of_decide_eq_true (by kernel_rfl)) h2k hg hlt2) (trodAll_cons_mk (shut_int Try.underlying5 w3) (trodAll_cons_mk (shut_string Try.underlying9 w4) trodAll_mk0))))
  simp only [List.append_nil, List.nil_append] at hA' hW'
  exact ⟨_, rfl, _, _, _, [], p2, [], hW', (trodAll_cons_mk (shut_bool Try.underlying4 _) trodAll_mk0), hA', rfl, hg.frame _, fun h => by cases h⟩

theorem over : Rows.nfaCallsRow.holds Try.pinned (OpenSpec.ofChange Rows.nfaCallsSpec) :=
  OpenClaim.holds_of_wide 4 Try.f4 rfl rfl rfl rfl rfl rfl rfl ⟨rfl, rfl, rfl, rfl, rfl⟩ rfl rfl rfl rfl rfl (by kernel_rfl) Try.func4 (by kernel_rfl)
    (of_decide_eq_true (by kernel_rfl)) (by unfold Func.isWrapper; first | (rw [if_pos (by decide +kernel)]; kernel_rfl) | (rw [if_neg (by decide +kernel)]; exact ⟨rfl, rfl⟩))
    (fun os started H enc _ => lifted os started H enc)

theorem proved : Rows.NfaCallsSaid :=
  over
#print axioms proved
end Go.Proofs.Ytmcogncpncfpmaa.nfaCalls
