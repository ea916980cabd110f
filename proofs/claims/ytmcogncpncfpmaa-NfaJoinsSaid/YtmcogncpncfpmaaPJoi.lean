/-
  From two lists of states together a step leads to the union of where it leads from each: for every glob, fold, two lists and a byte, no condition.
-/
import Derived.Test.YtmcogncpncfpmaaRows
import Derived.Test.YtmcogncpncfpmaaLJoi
import Derived.Test.YtmcogncpncfpmaaOpn
import Derived.WalkKit
import Derived.ProofKit
import Derived.OpenShut
import Derived.ShutString
import Derived.Carry
namespace Go.Proofs.Ytmcogncpncfpmaa
open Go.RowKit

theorem join_any (s : ByteArray) (fo : Bool) (A B : Option Addr) (ca cb : Nat) (ls ms : List Int) (c : Nat) (hc : c < 256) (w : World) (hs : s.size ≤ maxLen) (hl : ls.length ≤ maxLen) (hm : ms.length ≤ maxLen)
    (h1 : IntsAt w A ls) (h2 : IntsAt w B ms) (n1 : ls = [] ∨ A ≠ none) (n2 : ms = [] ∨ B ≠ none) :
    Calls Try.prog 5 #[.string s, .bool fo, .slice A ls.length ca, .slice B ms.length cb, .int .u8 c] w (RetQ true w) := by
  have e : ((c : Nat) : Int) = ((UInt8.ofNat c).toNat : Int) := by
    rw [UInt8.toNat_ofNat']; omega
  rw [e]
  by_cases g1 : s.size ≤ 300
  · by_cases g2 : ls.length ≤ 200
    · by_cases g3 : ms.length ≤ 200
      · rcases new_cases s fo hs with ⟨x, hx, hb⟩ | ⟨hg, hN⟩
        · exact join_bad s fo A B ca cb _ _ _ w x hx hb g1 g2 g3
        · exact join_good s fo A B ca cb ls ms _ w _ hg hN g1 g2 g3 h1 h2 n1 n2
      · exact join_big s fo A B ca cb _ _ _ w hs hl hm (.inr (.inr ⟨g1, g2, by omega⟩))
    · exact join_big s fo A B ca cb _ _ _ w hs hl hm (.inr (.inl ⟨g1, by omega⟩))
  · exact join_big s fo A B ca cb _ _ _ w hs hl hm (.inl (by omega))
end Go.Proofs.Ytmcogncpncfpmaa

namespace Go.Proofs.Ytmcogncpncfpmaa.nfaJoins
open Go.ChangeShapes Go.WideShapes Go.ChangeAt Go.RowKit
open Go.ChangeMaps (open_string shut_string)
set_option linter.unusedVariables false

theorem own : ownKnob Try.prog.godebug = none := by kernel_rfl
theorem laid : laidOutB Try.prog = true := by kernel_rfl

set_option maxRecDepth 100000 in
theorem lifted (os : Os) (started : os.Started) (H : Type) (enc : TypeId × Value → H) :
    ReturnsInHanded {} Try.checked os 5 .any (Rows.nfaJoinsSpec.pre6 enc Try.prog Try.f5 Rows.nfaJoinsRow.domain false) (Rows.nfaJoinsSpec.post enc Try.prog Try.f5 false true false false) := by
  refine returnsInHanded_of_change (C := Try.checked) own started (by kernel_rfl) Try.func5
    (ChangeSpec.witness6 (enc := enc) (C := Try.checked) false ⟨#[], #[.string ByteArray.empty, .bool false, .slice none 0 0, .slice none 0 0, .int .u8 0], []⟩ 8 (by kernel_rfl) (by kernel_rfl) (by kernel_rfl) (by kernel_rfl)) ?_
  intro W base args ds gs before hval0 hW hcnd _
  have hval : ∀ (j : Nat) t v, Try.f5.params[j]? = some t → args[j]? = some v → Value.okWide Try.prog W .any base t v := hval0
  have hW' := hW
  obtain ⟨p, q, hA0, hV, rfl, hfz, hnd⟩ := hW
  have hA : DataW.TrodAll enc Try.prog W 0 (fun _ => true) true Try.f5.params.toList args.toList ds p := hA0
  rw [Try.params5] at hA hval
  obtain ⟨v0, vs0, d0, ds0, p0, q0, hargs, rfl, rfl, h0, r0⟩ := trodAll_cons hA
  obtain ⟨v1, vs1, d1, ds1, p1, q1, rfl, rfl, rfl, h1, r1⟩ := trodAll_cons r0
  obtain ⟨v2, vs2, d2, ds2, p2, q2, rfl, rfl, rfl, h2, r2⟩ := trodAll_cons r1
  obtain ⟨v3, vs3, d3, ds3, p3, q3, rfl, rfl, rfl, h3, r3⟩ := trodAll_cons r2
  obtain ⟨v4, vs4, d4, ds4, p4, q4, rfl, rfl, rfl, h4, r4⟩ := trodAll_cons r3
  obtain ⟨rfl, rfl, rfl⟩ := trodAll_nil r4
  obtain rfl : args = #[v0, v1, v2, v3, v4] := by cases args; simp_all
  obtain ⟨rfl, rfl⟩ := trodVars_none hV
  have h2k := h2
  have h3k := h3
  obtain ⟨a0, rfl, rfl, rfl, w0⟩ := open_string Try.underlying9 (hval 0 9 v0 rfl rfl) h0
  obtain ⟨a1, rfl, rfl, rfl⟩ := open_bool Try.underlying4 (hval 1 4 v1 rfl rfl) h1
  obtain ⟨A, ls, ca, rfl, hll, hi, hnl⟩ := open_il (hval 2 31 v2 rfl rfl) h2
  obtain ⟨B, ms, cb, rfl, hml, hj, hnm⟩ := open_il (hval 3 31 v3 rfl rfl) h3
  obtain ⟨a4, rfl, rfl, rfl, w4⟩ := open_int Try.underlying5 (hval 4 5 v4 rfl rfl) h4
  clear hA0 hval0
  have hlt2 : ∀ x ∈ p2, x.block < W.heap.size := fun x hx => by
    have := hW'.lt x (by simp [hx])
    simpa using this
  have hlt3 : ∀ x ∈ p3, x.block < W.heap.size := fun x hx => by
    have := hW'.lt x (by simp [hx])
    simpa using this
  simp only [List.append_nil] at hW'
  obtain ⟨n4, rfl, hn4⟩ : ∃ n : Nat, a4 = n ∧ n < 256 := by
    simp [Lit.wf, IntKind.min, IntKind.max, IntKind.bits, IntKind.signed] at w4
    exact ⟨a4.toNat, by omega, by omega⟩
  refine (join_any a0 a1 A B ca cb ls ms n4 hn4 W w0 hll hml hi hj hnl hnm).mono fun e W' ⟨he, hg⟩ => ?_
  subst he
  have hA' := trodAll_cons_mk (shut_string Try.underlying9 w0) (trodAll_cons_mk (shut_bool Try.underlying4 a1) (trodAll_cons_mk (Below.trod laid (by kernel_rfl) (of_decide_eq_true (by kernel_rfl)) h2k hg hlt2) (trodAll_cons_mk (Below.trod laid (by kernel_rfl) (of_decide_eq_true (by kernel_rfl)) h3k hg hlt3) (trodAll_cons_mk (shut_int Try.underlying5 w4) trodAll_mk0))))
  simp only [List.append_nil, List.nil_append] at hA' hW'
  exact ⟨_, rfl, _, _, _, [], p2 ++ p3, [], hW', (trodAll_cons_mk (shut_bool Try.underlying4 _) trodAll_mk0), hA', rfl, hg.frame _, fun h => by cases h⟩

theorem over : Rows.nfaJoinsRow.holds Try.pinned (OpenSpec.ofChange Rows.nfaJoinsSpec) :=
  OpenClaim.holds_of_wide 5 Try.f5 rfl rfl rfl rfl rfl rfl rfl ⟨rfl, rfl, rfl, rfl, rfl⟩ rfl rfl rfl rfl rfl (by kernel_rfl) Try.func5 (by kernel_rfl)
    (of_decide_eq_true (by kernel_rfl)) (by unfold Func.isWrapper; first | (rw [if_pos (by decide +kernel)]; kernel_rfl) | (rw [if_neg (by decide +kernel)]; exact ⟨rfl, rfl⟩))
    (fun os started H enc _ => lifted os started H enc)

theorem proved : Rows.NfaJoinsSaid :=
  over
#print axioms proved
end Go.Proofs.Ytmcogncpncfpmaa.nfaJoins
