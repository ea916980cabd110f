/-
  The same for long logs: for every number, every list of notes and every transaction, no condition.
-/
import Derived.Test.YtfapilgmgjmfeaaGreatDoorRows
import Derived.Test.YtfapilgmgjmfeaaGreatDoorCards
import Derived.Test.YtfapilgmgjmfeaaGreatDoorTie
import Derived.Test.YtfapilgmgjmfeaaGreatDoorLLng
import Derived.Test.YtfapilgmgjmfeaaGreatDoorOpn
import Derived.WalkKit
import Derived.ProofKit
import Derived.OpenShut
import Derived.ShutString
import Derived.LaidMore
import Derived.Lay
import Derived.SevenTiedAt
import Derived.Stop.Joined
import Derived.Carry
import Derived.PinnedBridge
import Derived.Lib.LaidU8T
import Derived.Lib.LaidTab
import Derived.Stop.LaidErr
namespace Go.Proofs.YtfapilgmgjmfeaaGreatDoor
open Go.RowKit
/-- The table of powers of ten, out of what the row lists. -/
theorem tab_auditLong {W : World} (h : laidMetH Tryz.prog Rows.auditLongRow.laid W) : Tab W := by
  rw [MakeChecks.laidMetH_plain _ _ _ (by kernel_rfl)] at h
  have h2 := laidMet.tail (laidMet.tail h)
  exact Lib.tabIs_of_head (rest := []) (g := 0) (t := 114) (e := 89) (n := 20) tab_g (by kernel_rfl) (by kernel_rfl) (by kernel_rfl) (by kernel_rfl) (by kernel_rfl) h2
theorem long_any (A : Option Addr) (c : Nat) (l : List Nt) (more txn : Int) (w : World) (ht : Tab w) (hA : NotesAt w A l) (hok : ∀ n, n ∈ l → NtFit n) (hm : l.length ≤ maxLen) (had : (A = none ∧ l = [] ∧ c = 0) ∨ ∃ g o s, A = some ⟨g, o, s⟩) :
    Calls Tryz.prog 4 #[.int .i64 more, .slice A l.length c, .int .i64 txn] w (Ret (.bool true) w) := by
  cases hli : lightNs l 60 with
  | false => exact long_big A c l more txn w hA hm hli
  | true =>
    have hok2 : ∀ n, n ∈ l → NtLine n := fun n hn => ⟨lightNs_one hli n hn, (hok n hn).1, (hok n hn).2.2.2⟩
    rcases had with ⟨rfl, rfl, rfl⟩ | ⟨g, o, s, rfl⟩
    · exact long_nil more txn w ht hA hli hok2
    · cases l with
      | nil => exact long_empty g o s c more txn w ht hA hli hok2
      | cons f r => exact long_cons _ c (f :: r) more txn w ht hA hli hok2 (by simp)
end Go.Proofs.YtfapilgmgjmfeaaGreatDoor

namespace Go.Proofs.YtfapilgmgjmfeaaGreatDoor.auditLong
open Go.ChangeShapes Go.WideShapes Go.ChangeAt Go.RowKit
open Go.ChangeMaps (open_string shut_string)
set_option linter.unusedVariables false

theorem own : ownKnob Tryz.prog.godebug = none := by kernel_rfl
theorem laid : laidOutB Tryz.prog = true := by kernel_rfl

set_option maxRecDepth 100000 in
theorem lifted (os : Os) (started : os.Started) (H : Type) (enc : TypeId × Value → H) :
    ReturnsInHanded {} Tryz.checked os 4 .any (fun w args => (Rows.auditLongSpec.pre enc Tryz.prog Tryz.f4 Rows.auditLongRow.domain false w args ∧ laidMetH Tryz.prog Rows.auditLongRow.laid w) ∧ sizedMet enc Tryz.prog Tryz.f4 (OpenSpec.ofChange Rows.auditLongSpec) false w args)
      (Rows.auditLongSpec.post enc Tryz.prog Tryz.f4 false true false false) := by
  refine returnsInHanded_of_change_and (C := Tryz.checked) (X := fun w _ => laidMetH Tryz.prog Rows.auditLongRow.laid w) (fun _ _ _ hh h => h.of_heap hh) own started (by kernel_rfl) Tryz.func4
    (ChangeSpec.witness_shaped (enc := enc) (C := Tryz.checked) (os := os) (X := fun w _ => laidMetH Tryz.prog Rows.auditLongRow.laid w) false (World.laidAll Tryz.prog os Rows.auditLongRow.laid) #[.int .i64 0, .slice none 0 0, .int .i64 0] 8 (World.laidAll_os _ _ _)
      (World.shaped_of_ZipB (by kernel_rfl) (by kernel_rfl)) (by kernel_rfl) (by kernel_rfl) (by kernel_rfl)
      (by rw [MakeChecks.laidMetH_plain _ _ _ (by kernel_rfl)]; exact laidMet_laidAll _ (by kernel_rfl) (by kernel_rfl))) ?_
  intro W base args ds gs before hval0 hW hcnd _ hL _
  have hval : ∀ (j : Nat) t v, Tryz.f4.params[j]? = some t → args[j]? = some v → Value.okWide Tryz.prog W .any base t v := hval0
  have hW' := hW
  obtain ⟨p, q, hA0, hV, rfl, hfz, hnd⟩ := hW
  have hA : DataW.TrodAll enc Tryz.prog W 0 (fun _ => true) true Tryz.f4.params.toList args.toList ds p := hA0
  rw [Tryz.params4] at hA hval
  obtain ⟨v0, vs0, d0, ds0, p0, q0, hargs, rfl, rfl, h0, r0⟩ := trodAll_cons hA
  obtain ⟨v1, vs1, d1, ds1, p1, q1, rfl, rfl, rfl, h1, r1⟩ := trodAll_cons r0
  obtain ⟨v2, vs2, d2, ds2, p2, q2, rfl, rfl, rfl, h2, r2⟩ := trodAll_cons r1
  obtain ⟨rfl, rfl, rfl⟩ := trodAll_nil r2
  obtain rfl : args = #[v0, v1, v2] := by cases args; simp_all
  obtain ⟨rfl, rfl⟩ := trodVars_none hV
  have h1k := h1
  obtain ⟨a0, rfl, rfl, rfl, w0⟩ := open_int Tryz.underlying3 (hval 0 3 v0 rfl rfl) h0
  obtain ⟨A, l, ca, rfl, hi, hok, hll, hcap, had⟩ := open_notes (hval 1 22 v1 rfl rfl) h1
  obtain ⟨a2, rfl, rfl, rfl, w2⟩ := open_int Tryz.underlying2 (hval 2 2 v2 rfl rfl) h2
  clear hA0 hval0
  have hlt0 : ∀ x ∈ p1, x.block < W.heap.size := fun x hx => by
    have := hW'.lt x (by simp [hx])
    simpa using this
  simp only [List.append_nil, List.nil_append] at hW'
  have hcall := long_any A ca l a0 a2 W (tab_auditLong hL) hi hok hll had
  refine hcall.mono fun e W' ⟨he, hg⟩ => ?_
  subst he
  have hA' := trodAll_cons_mk (p := []) (shut_int Tryz.underlying3 w0) (trodAll_cons_mk (Below.trod laid (by kernel_rfl) (of_decide_eq_true (by kernel_rfl)) h1k hg hlt0) (trodAll_cons_mk (shut_int Tryz.underlying2 w2) trodAll_mk0))
  simp only [List.append_nil, List.nil_append] at hA' hW'
  exact ⟨_, rfl, _, _, _, [], p1, [], hW', (trodAll_cons_mk (shut_bool Tryz.underlying4 _) trodAll_mk0), hA', rfl, hg.frame _, fun h => by cases h⟩

theorem over : Rows.auditLongRow.holds Tryz.pinned (OpenSpec.ofChange Rows.auditLongSpec) :=
  OpenClaim.holds_of_wide 4 Tryz.f4 rfl rfl rfl rfl rfl rfl rfl ⟨rfl, rfl, rfl, rfl, rfl⟩ rfl rfl rfl rfl rfl (by kernel_rfl) Tryz.func4 (by kernel_rfl)
    (of_decide_eq_true (by kernel_rfl)) (by unfold Func.isWrapper; first | (rw [if_pos (by decide +kernel)]; kernel_rfl) | (rw [if_neg (by decide +kernel)]; exact ⟨rfl, rfl⟩))
    (fun os started H enc _ => lifted os started H enc)

set_option maxRecDepth 100000 in
theorem proved : Rows.AuditLongCardSaid :=
  Claim7.holds_tied_plain_at .later [] [.data, .data, .data] true (true, "5ea39ce7111e691d7d46d441fe6995d6281ef3af9c30e0a48e3b46d530bf3128") false over (fun _ h => by cases h) (by kernel_rfl) (fun _ h => by cases h) auditLong_row_tie rfl ⟨rfl, rfl⟩ (by kernel_rfl) rfl
    (fun f fn hf hfn => by
      obtain rfl : f = 4 := Option.some.inj ((show Tryz.prog.funcNamed "outlaw/outlawlaw23.AuditLong" = some 4 by kernel_rfl).symm.trans hf) |>.symm
      obtain rfl : fn = Tryz.f4 := (Option.some.inj (Tryz.func4.symm.trans hfn)).symm
      exact ⟨by kernel_rfl, fun j t ht => by
        rw [Tryz.params4] at ht
        have hm : t ∈ [3, 22, 2] := by simpa using Array.mem_of_getElem? ht
        have hall : ([3, 22, 2].all fun u => !Tryz.prog.wantsStandIn u) = true := by kernel_rfl
        exact (show Tryz.prog.wantsStandIn t = false by simpa using List.all_eq_true.1 hall t hm)⟩)
    (by kernel_rfl)
#print axioms proved
end Go.Proofs.YtfapilgmgjmfeaaGreatDoor.auditLong
