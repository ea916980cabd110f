/-
  Whose bans are the bot's own is what the document says, for every list of notes, every note, room and user, no condition.
-/
import Derived.Test.YtfapilgmgjmfeaaRows
import Derived.Test.YtfapilgmgjmfeaaLOwo
import Derived.Test.YtfapilgmgjmfeaaOpn
import Derived.WalkKit
import Derived.ProofKit
import Derived.OpenShut
import Derived.Carry
import Derived.ShutString
namespace Go.Proofs.Ytfapilgmgjmfeaa
open Go.RowKit

theorem auditOwn_any (A : Option Addr) (c : Nat) (l : List Nt) (n : Nt) (room user : List UInt8) (w : World) (hA : NotesAt w A l) (hok : ∀ n, n ∈ l → NtFit n) (hokn : NtFit n) (hm : l.length ≤ maxLen) (hr : room.length ≤ maxLen) (hu : user.length ≤ maxLen) (had : (A = none ∧ l = [] ∧ c = 0) ∨ ∃ g o s, A = some ⟨g, o, s⟩) :
    Calls Try.prog 4 #[.slice A l.length c, .agg (ntC n), .string (S room), .string (S user)] w (Ret (.bool true) w) := by
  by_cases h1 : lightNs l 60 = true
  · by_cases h2 : lightNs [n] 1 = true
    · by_cases h3 : room.length ≤ 300
      · by_cases h4 : user.length ≤ 300
        · refine own_main A c l n room user w hA h1 h2 h3 h4 (fun m hm' => (hok m hm').2.1.2.1) hokn.2.1.2.1 ?_
          rcases had with had | ⟨g, o, s, e⟩
          · exact .inl had
          · refine .inr ⟨g, o, s, e, ?_⟩
            cases l with
            | nil => exact .inl rfl
            | cons x t =>
              obtain ⟨g', o', e', _⟩ := hA 0 (by simp)
              rw [e] at e'
              injection e' with e'
              injection e' with _ _ e3
              exact .inr e3
        · exact own_big A c l n room user w hA hm hr hu (.user h1 h2 h3 (by omega))
      · exact own_big A c l n room user w hA hm hr hu (.room h1 h2 (by omega))
    · exact own_big A c l n room user w hA hm hr hu (.one h1 (by simpa using h2))
  · exact own_big A c l n room user w hA hm hr hu (.notes (by simpa using h1))
end Go.Proofs.Ytfapilgmgjmfeaa

namespace Go.Proofs.Ytfapilgmgjmfeaa.auditOwn
open Go.ChangeShapes Go.WideShapes Go.ChangeAt Go.RowKit
open Go.ChangeMaps (open_string shut_string)
set_option linter.unusedVariables false

theorem own : ownKnob Try.prog.godebug = none := by kernel_rfl
theorem laid : laidOutB Try.prog = true := by kernel_rfl

set_option maxRecDepth 100000 in
theorem lifted (os : Os) (started : os.Started) (H : Type) (enc : TypeId × Value → H) :
    ReturnsInHanded {} Try.checked os 4 .any (Rows.auditOwnSpec.pre6 enc Try.prog Try.f4 Rows.auditOwnRow.domain false) (Rows.auditOwnSpec.post enc Try.prog Try.f4 false true false false) := by
  refine returnsInHanded_of_change (C := Try.checked) own started (by kernel_rfl) Try.func4
    (ChangeSpec.witness6 (enc := enc) (C := Try.checked) false ⟨#[], #[.slice none 0 0, .agg (ntC ⟨0, 0, ⟨0, [], [], [], []⟩, 0, []⟩), .string (S []), .string (S [])], []⟩ 12 (by kernel_rfl) (by kernel_rfl) (by kernel_rfl) (by kernel_rfl)) ?_
  intro W base args ds gs before hval0 hW hcnd _
  have hval : ∀ (j : Nat) t v, Try.f4.params[j]? = some t → args[j]? = some v → Value.okWide Try.prog W .any base t v := hval0
  have hW' := hW
  obtain ⟨p, q, hA0, hV, rfl, hfz, hnd⟩ := hW
  have hA : DataW.TrodAll enc Try.prog W 0 (fun _ => true) true Try.f4.params.toList args.toList ds p := hA0
  rw [Try.params4] at hA hval
  obtain ⟨v0, vs0, d0, ds0, p0, q0, hargs, rfl, rfl, h0, r0⟩ := trodAll_cons hA
  obtain ⟨v1, vs1, d1, ds1, p1, q1, rfl, rfl, rfl, h1, r1⟩ := trodAll_cons r0
  obtain ⟨v2, vs2, d2, ds2, p2, q2, rfl, rfl, rfl, h2, r2⟩ := trodAll_cons r1
  obtain ⟨v3, vs3, d3, ds3, p3, q3, rfl, rfl, rfl, h3, r3⟩ := trodAll_cons r2
  obtain ⟨rfl, rfl, rfl⟩ := trodAll_nil r3
  obtain rfl : args = #[v0, v1, v2, v3] := by cases args; simp_all
  obtain ⟨rfl, rfl⟩ := trodVars_none hV
  have h0k := h0
  have h1k := h1
  obtain ⟨A, l, ca, rfl, hi, hok, hll, hcap, had⟩ := open_notes (hval 0 22 v0 rfl rfl) h0
  obtain ⟨n, rfl, hn⟩ := open_note (hval 1 31 v1 rfl rfl) h1
  obtain ⟨a2, rfl, rfl, rfl, w2⟩ := open_string Try.underlying9 (hval 2 9 v2 rfl rfl) h2
  obtain ⟨a3, rfl, rfl, rfl, w3⟩ := open_string Try.underlying9 (hval 3 9 v3 rfl rfl) h3
  clear hA0 hval0
  have hlt0 : ∀ x ∈ p0, x.block < W.heap.size := fun x hx => by
    have := hW'.lt x (by simp [hx])
    simpa using this
  have hlt1 : ∀ x ∈ p1, x.block < W.heap.size := fun x hx => by
    have := hW'.lt x (by simp [hx])
    simpa using this
  simp only [List.append_nil, List.nil_append] at hW'
  have hcall := auditOwn_any A ca l n a2.data.toList a3.data.toList W hi hok hn hll (by simpa using w2) (by simpa using w3) had
  rw [S_of, S_of] at hcall
  refine hcall.mono fun e W' ⟨he, hg⟩ => ?_
  subst he
  have hA' := trodAll_cons_mk (Below.trod laid (by kernel_rfl) (of_decide_eq_true (by kernel_rfl)) h0k hg hlt0) (trodAll_cons_mk (Below.trod laid (by kernel_rfl) (of_decide_eq_true (by kernel_rfl)) h1k hg hlt1) (trodAll_cons_mk (p := []) (p' := []) (shut_string Try.underlying9 w2) (trodAll_cons_mk (p := []) (p' := []) (shut_string Try.underlying9 w3) trodAll_mk0)))
  simp only [List.append_nil, List.nil_append] at hA' hW'
  exact ⟨_, rfl, _, _, _, [], p0 ++ p1, [], hW', (trodAll_cons_mk (shut_bool Try.underlying4 _) trodAll_mk0), hA', rfl, hg.frame _, fun h => by cases h⟩

theorem over : Rows.auditOwnRow.holds Try.pinned (OpenSpec.ofChange Rows.auditOwnSpec) :=
  OpenClaim.holds_of_wide 4 Try.f4 rfl rfl rfl rfl rfl rfl rfl ⟨rfl, rfl, rfl, rfl, rfl⟩ rfl rfl rfl rfl rfl (by kernel_rfl) Try.func4 (by kernel_rfl)
    (of_decide_eq_true (by kernel_rfl)) (by unfold Func.isWrapper; first | (rw [if_pos (by decide +kernel)]; kernel_rfl) | (rw [if_neg (by decide +kernel)]; exact ⟨rfl, rfl⟩))
    (fun os started H enc _ => lifted os started H enc)

theorem proved : Rows.AuditOwnSaid :=
  over
#print axioms proved
end Go.Proofs.Ytfapilgmgjmfeaa.auditOwn
