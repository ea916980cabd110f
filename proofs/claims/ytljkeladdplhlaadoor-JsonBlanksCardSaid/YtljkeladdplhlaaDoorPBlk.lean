/-
  What is parsed by package json is valid, and is the same with blanks before and after it; with anything else after it there is none: for any string, any numbers of blanks and any byte, no condition.
-/
import Derived.Test.YtljkeladdplhlaaDoorRows
import Derived.Test.YtljkeladdplhlaaDoorCards
import Derived.Test.YtljkeladdplhlaaDoorTie
import Derived.Test.YtljkeladdplhlaaDoorLBlk
import Derived.Test.YtljkeladdplhlaaDoorLai
import Derived.Test.YtljkeladdplhlaaDoorOpn
import Derived.WalkKit
import Derived.ProofKit
import Derived.OpenShut
import Derived.ShutString
import Derived.LaidMore
import Derived.Lay
import Derived.SevenTiedAt
import Derived.Stop.Joined
import Derived.Carry
import Derived.PinnedBridge
import Derived.Lib.LaidU8T
import Derived.Lib.LaidTab
import Derived.Stop.LaidErr
namespace Go.Proofs.YtljkeladdplhlaaDoor
open Go.RowKit
theorem utf_jsonBlanks {W : World} (h : laidMetH Tryd.prog Rows.jsonBlanksRow.laid W) : Utf W := by
  rw [MakeChecks.laidMetH_plain _ _ _ (by kernel_rfl)] at h
  exact utf_reads h (by simp [Rows.jsonBlanksRow]) (by simp [Rows.jsonBlanksRow])
end Go.Proofs.YtljkeladdplhlaaDoor
namespace Go.Proofs.YtljkeladdplhlaaDoor
open Go.RowKit
theorem blk_any (s : ByteArray) (A B : Option Addr) (ca cb : Nat) (za zb : List Int) (n : Nat) (hn : n < 256) (w : World) (hu : Utf w) (ms : s.size ≤ maxLen) (ma : za.length ≤ maxLen) (mb : zb.length ≤ maxLen) (h1 : IntsAt w A za) (h2 : IntsAt w B zb) :
    Calls Tryd.prog 6 #[.string s, .slice A za.length ca, .slice B zb.length cb, .int .u8 (n : Int)] w (Ret (.bool true) w) := by
  have e : n = (UInt8.ofNat n).toNat := by rw [UInt8.toNat_ofNat']; omega
  by_cases g1 : s.size ≤ 1000
  · by_cases g2 : za.length ≤ 40
    · by_cases g3 : zb.length ≤ 40
      · by_cases hp : (parseJ s.data.toList).2 = 0
        · have hp' : parseJ s.data.toList = ((parseJ s.data.toList).1, 0) := by rw [← hp]
          by_cases hb : blankB (UInt8.ofNat n) = true
          · have hc : n = 32 ∨ n = 9 ∨ n = 10 ∨ n = 13 := by
              unfold blankB at hb
              rw [← e] at hb
              simp at hb
              omega
            rcases hc with rfl | rfl | rfl | rfl
            · exact blk_ok32 s A B ca cb za zb w _ hu ⟨g1, g2, g3⟩ h1 h2 hp'
            · exact blk_ok9 s A B ca cb za zb w _ hu ⟨g1, g2, g3⟩ h1 h2 hp'
            · exact blk_ok10 s A B ca cb za zb w _ hu ⟨g1, g2, g3⟩ h1 h2 hp'
            · exact blk_ok13 s A B ca cb za zb w _ hu ⟨g1, g2, g3⟩ h1 h2 hp'
          · rw [e]
            exact blk_no s A B ca cb za zb (UInt8.ofNat n) w _ hu ⟨g1, g2, g3⟩ h1 h2 hp' (by simpa using hb)
        · rw [e]
          exact blk_err s A B ca cb za zb (UInt8.ofNat n) w hu ⟨g1, g2, g3⟩ hp
      · rw [e]
        exact blk_big3 s A B ca cb za zb (UInt8.ofNat n) w hu ms ma mb ⟨g1, g2, by omega⟩
    · rw [e]
      exact blk_big2 s A B ca cb za zb (UInt8.ofNat n) w hu ms ma mb ⟨g1, by omega⟩
  · rw [e]
    exact blk_big1 s A B ca cb za zb (UInt8.ofNat n) w hu ms ma mb (by omega)
end Go.Proofs.YtljkeladdplhlaaDoor

namespace Go.Proofs.YtljkeladdplhlaaDoor.jsonBlanks
open Go.ChangeShapes Go.WideShapes Go.ChangeAt Go.RowKit
open Go.ChangeMaps (open_string shut_string)
set_option linter.unusedVariables false

theorem own : ownKnob Tryd.prog.godebug = none := by kernel_rfl
theorem laid : laidOutB Tryd.prog = true := by kernel_rfl

set_option maxRecDepth 100000 in
theorem lifted (os : Os) (started : os.Started) (H : Type) (enc : TypeId × Value → H) :
    ReturnsInHanded {} Tryd.checked os 6 .any (fun w args => (Rows.jsonBlanksSpec.pre enc Tryd.prog Tryd.f6 Rows.jsonBlanksRow.domain false w args ∧ laidMetH Tryd.prog Rows.jsonBlanksRow.laid w) ∧ sizedMet enc Tryd.prog Tryd.f6 (OpenSpec.ofChange Rows.jsonBlanksSpec) false w args)
      (Rows.jsonBlanksSpec.post enc Tryd.prog Tryd.f6 false true false false) := by
  refine returnsInHanded_of_change_and (C := Tryd.checked) (X := fun w _ => laidMetH Tryd.prog Rows.jsonBlanksRow.laid w) (fun _ _ _ hh h => h.of_heap hh) own started (by kernel_rfl) Tryd.func6
    (ChangeSpec.witness_shaped (enc := enc) (C := Tryd.checked) (os := os) (X := fun w _ => laidMetH Tryd.prog Rows.jsonBlanksRow.laid w) false (World.laidAll Tryd.prog os Rows.jsonBlanksRow.laid) #[.string ByteArray.empty, .slice none 0 0, .slice none 0 0, .int .u8 0] 8 (World.laidAll_os _ _ _)
      (World.shaped_of_ZipB (by kernel_rfl) (by kernel_rfl)) (by kernel_rfl) (by kernel_rfl) (by kernel_rfl)
      (by rw [MakeChecks.laidMetH_plain _ _ _ (by kernel_rfl)]; exact laidMet_laidAll _ (by kernel_rfl) (by kernel_rfl))) ?_
  intro W base args ds gs before hval0 hW hcnd _ hL _
  have hval : ∀ (j : Nat) t v, Tryd.f6.params[j]? = some t → args[j]? = some v → Value.okWide Tryd.prog W .any base t v := hval0
  have hW' := hW
  obtain ⟨p, q, hA0, hV, rfl, hfz, hnd⟩ := hW
  have hA : DataW.TrodAll enc Tryd.prog W 0 (fun _ => true) true Tryd.f6.params.toList args.toList ds p := hA0
  rw [Tryd.params6] at hA hval
  obtain ⟨v0, vs0, d0, ds0, p0, q0, hargs, rfl, rfl, h0, r0⟩ := trodAll_cons hA
  obtain ⟨v1, vs1, d1, ds1, p1, q1, rfl, rfl, rfl, h1, r1⟩ := trodAll_cons r0
  obtain ⟨v2, vs2, d2, ds2, p2, q2, rfl, rfl, rfl, h2, r2⟩ := trodAll_cons r1
  obtain ⟨v3, vs3, d3, ds3, p3, q3, rfl, rfl, rfl, h3, r3⟩ := trodAll_cons r2
  obtain ⟨rfl, rfl, rfl⟩ := trodAll_nil r3
  obtain rfl : args = #[v0, v1, v2, v3] := by cases args; simp_all
  obtain ⟨rfl, rfl⟩ := trodVars_none hV
  have h1k := h1
  have h2k := h2
  obtain ⟨a0, rfl, rfl, rfl, w0⟩ := open_string Tryd.underlying9 (hval 0 9 v0 rfl rfl) h0
  obtain ⟨A, ls, ca, rfl, hll, hi, hnl⟩ := open_il (hval 1 40 v1 rfl rfl) h1
  obtain ⟨B, ms, cb, rfl, hml, hj, hnm⟩ := open_il (hval 2 40 v2 rfl rfl) h2
  obtain ⟨a3, rfl, rfl, rfl, w3⟩ := open_int Tryd.underlying5 (hval 3 5 v3 rfl rfl) h3
  clear hA0 hval0
  have hlt1 : ∀ x ∈ p1, x.block < W.heap.size := fun x hx => by
    have := hW'.lt x (by simp [hx])
    simpa using this
  have hlt2 : ∀ x ∈ p2, x.block < W.heap.size := fun x hx => by
    have := hW'.lt x (by simp [hx])
    simpa using this
  simp only [List.append_nil] at hW'
  obtain ⟨n4, rfl, hn4⟩ : ∃ n : Nat, a3 = n ∧ n < 256 := by
    simp [Lit.wf, IntKind.min, IntKind.max, IntKind.bits, IntKind.signed] at w3
    exact ⟨a3.toNat, by omega, by omega⟩
  refine (blk_any a0 A B ca cb ls ms n4 hn4 W (utf_jsonBlanks hL) w0 hll hml hi hj).mono fun e W' ⟨he, hg⟩ => ?_
  subst he
  have hA' := trodAll_cons_mk (shut_string Tryd.underlying9 w0) (trodAll_cons_mk (Below.trod laid (by kernel_rfl) (of_decide_eq_true (by kernel_rfl)) h1k hg hlt1) (trodAll_cons_mk (Below.trod laid (by kernel_rfl) (of_decide_eq_true (by kernel_rfl)) h2k hg hlt2) (trodAll_cons_mk (shut_int Tryd.underlying5 w3) trodAll_mk0)))
  simp only [List.append_nil, List.nil_append] at hA' hW'
  exact ⟨_, rfl, _, _, _, [], p1 ++ p2, [], hW', (trodAll_cons_mk (shut_bool Tryd.underlying4 _) trodAll_mk0), hA', rfl, hg.frame _, fun h => by cases h⟩

theorem over : Rows.jsonBlanksRow.holds Tryd.pinned (OpenSpec.ofChange Rows.jsonBlanksSpec) :=
  OpenClaim.holds_of_wide 6 Tryd.f6 rfl rfl rfl rfl rfl rfl rfl ⟨rfl, rfl, rfl, rfl, rfl⟩ rfl rfl rfl rfl rfl (by kernel_rfl) Tryd.func6 (by kernel_rfl)
    (of_decide_eq_true (by kernel_rfl)) (by unfold Func.isWrapper; first | (rw [if_pos (by decide +kernel)]; kernel_rfl) | (rw [if_neg (by decide +kernel)]; exact ⟨rfl, rfl⟩))
    (fun os started H enc _ => lifted os started H enc)

set_option maxRecDepth 100000 in
theorem proved : Rows.JsonBlanksCardSaid :=
  Claim7.holds_tied_plain_at .later [] [.data, .pinned] true (true, "a280120bc95e45437d36fee85d174c47de599d8d553701e97f4d33c3a45683bc") false over (fun _ h => by cases h) (by kernel_rfl) (fun _ h => by cases h) jsonBlanks_row_tie rfl ⟨rfl, rfl⟩ (by kernel_rfl) rfl
    (fun f fn hf hfn => by
      obtain rfl : f = 6 := Option.some.inj ((show Tryd.prog.funcNamed "outlaw/outlawlaw02.JsonBlanks" = some 6 by kernel_rfl).symm.trans hf) |>.symm
      obtain rfl : fn = Tryd.f6 := (Option.some.inj (Tryd.func6.symm.trans hfn)).symm
      exact ⟨by kernel_rfl, fun j t ht => by
        rw [Tryd.params6] at ht
        have hm : t ∈ [9, 40, 40, 5] := by simpa using Array.mem_of_getElem? ht
        have hall : ([9, 40, 40, 5].all fun u => !Tryd.prog.wantsStandIn u) = true := by kernel_rfl
        exact (show Tryd.prog.wantsStandIn t = false by simpa using List.all_eq_true.1 hall t hm)⟩)
    (by kernel_rfl)
#print axioms proved
end Go.Proofs.YtljkeladdplhlaaDoor.jsonBlanks
