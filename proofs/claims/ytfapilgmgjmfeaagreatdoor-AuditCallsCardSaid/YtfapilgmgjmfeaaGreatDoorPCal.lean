/-
  Which logs are valid, whose bans are those of the bot, what is open, the notes of a transaction, lines and the text are what the document says: for every list of notes, every room, user and transaction, no condition.
-/
import Derived.Test.YtfapilgmgjmfeaaGreatDoorRows
import Derived.Test.YtfapilgmgjmfeaaGreatDoorCards
import Derived.Test.YtfapilgmgjmfeaaGreatDoorTie
import Derived.Test.YtfapilgmgjmfeaaGreatDoorLCal
import Derived.Test.YtfapilgmgjmfeaaGreatDoorOpn
import Derived.WalkKit
import Derived.ProofKit
import Derived.OpenShut
import Derived.ShutString
import Derived.LaidMore
import Derived.Lay
import Derived.SevenTiedAt
import Derived.Stop.Joined
import Derived.Carry
import Derived.PinnedBridge
import Derived.Lib.LaidU8T
import Derived.Lib.LaidTab
import Derived.Stop.LaidErr
namespace Go.Proofs.YtfapilgmgjmfeaaGreatDoor
open Go.RowKit
/-- The table of powers of ten, out of what the row lists. -/
theorem tab_auditCalls {W : World} (h : laidMetH Tryz.prog Rows.auditCallsRow.laid W) : Tab W := by
  rw [MakeChecks.laidMetH_plain _ _ _ (by kernel_rfl)] at h
  have h2 := laidMet.tail (laidMet.tail h)
  exact Lib.tabIs_of_head (rest := []) (g := 0) (t := 114) (e := 89) (n := 20) tab_g (by kernel_rfl) (by kernel_rfl) (by kernel_rfl) (by kernel_rfl) (by kernel_rfl) h2
theorem calls_any (A : Option Addr) (c : Nat) (l : List Nt) (room user : List UInt8) (txn : Int) (w : World) (ht : Tab w) (hA : NotesAt w A l) (hok : ∀ n, n ∈ l → NtFit n) (hm : l.length ≤ maxLen) (hcap : l.length ≤ c) (had : (A = none ∧ l = [] ∧ c = 0) ∨ ∃ g o s, A = some ⟨g, o, s⟩) :
    Calls Tryz.prog 3 #[.slice A l.length c, .string (S room), .string (S user), .int .i64 txn] w (Ret (.bool true) w) := by
  cases hli : lightNs l 60 with
  | false => exact calls_b1 A c l room user txn w hA hm hli
  | true =>
    by_cases h3 : room.length ≤ 300
    · by_cases h4 : user.length ≤ 300
      · exact calls_main A c l room user txn w ht hA hli h3 h4 (fun n hn => ⟨lightNs_one hli n hn, (hok n hn).1, (hok n hn).2.2.2⟩) hcap had
      · exact calls_b3 A c l room user txn w hA hm hli h3 (by omega)
    · exact calls_b2 A c l room user txn w hA hm hli (by omega)
end Go.Proofs.YtfapilgmgjmfeaaGreatDoor

namespace Go.Proofs.YtfapilgmgjmfeaaGreatDoor.auditCalls
open Go.ChangeShapes Go.WideShapes Go.ChangeAt Go.RowKit
open Go.ChangeMaps (open_string shut_string)
set_option linter.unusedVariables false

theorem own : ownKnob Tryz.prog.godebug = none := by kernel_rfl
theorem laid : laidOutB Tryz.prog = true := by kernel_rfl

set_option maxRecDepth 100000 in
theorem lifted (os : Os) (started : os.Started) (H : Type) (enc : TypeId × Value → H) :
    ReturnsInHanded {} Tryz.checked os 3 .any (fun w args => (Rows.auditCallsSpec.pre enc Tryz.prog Tryz.f3 Rows.auditCallsRow.domain false w args ∧ laidMetH Tryz.prog Rows.auditCallsRow.laid w) ∧ sizedMet enc Tryz.prog Tryz.f3 (OpenSpec.ofChange Rows.auditCallsSpec) false w args)
      (Rows.auditCallsSpec.post enc Tryz.prog Tryz.f3 false true false false) := by
  refine returnsInHanded_of_change_and (C := Tryz.checked) (X := fun w _ => laidMetH Tryz.prog Rows.auditCallsRow.laid w) (fun _ _ _ hh h => h.of_heap hh) own started (by kernel_rfl) Tryz.func3
    (ChangeSpec.witness_shaped (enc := enc) (C := Tryz.checked) (os := os) (X := fun w _ => laidMetH Tryz.prog Rows.auditCallsRow.laid w) false (World.laidAll Tryz.prog os Rows.auditCallsRow.laid) #[.slice none 0 0, .string ByteArray.empty, .string ByteArray.empty, .int .i64 0] 8 (World.laidAll_os _ _ _)
      (World.shaped_of_ZipB (by kernel_rfl) (by kernel_rfl)) (by kernel_rfl) (by kernel_rfl) (by kernel_rfl)
      (by rw [MakeChecks.laidMetH_plain _ _ _ (by kernel_rfl)]; exact laidMet_laidAll _ (by kernel_rfl) (by kernel_rfl))) ?_
  intro W base args ds gs before hval0 hW hcnd _ hL _
  have hval : ∀ (j : Nat) t v, Tryz.f3.params[j]? = some t → args[j]? = some v → Value.okWide Tryz.prog W .any base t v := hval0
  have hW' := hW
  obtain ⟨p, q, hA0, hV, rfl, hfz, hnd⟩ := hW
  have hA : DataW.TrodAll enc Tryz.prog W 0 (fun _ => true) true Tryz.f3.params.toList args.toList ds p := hA0
  rw [Tryz.params3] at hA hval
  obtain ⟨v0, vs0, d0, ds0, p0, q0, hargs, rfl, rfl, h0, r0⟩ := trodAll_cons hA
  obtain ⟨v1, vs1, d1, ds1, p1, q1, rfl, rfl, rfl, h1, r1⟩ := trodAll_cons r0
  obtain ⟨v2, vs2, d2, ds2, p2, q2, rfl, rfl, rfl, h2, r2⟩ := trodAll_cons r1
  obtain ⟨v3, vs3, d3, ds3, p3, q3, rfl, rfl, rfl, h3, r3⟩ := trodAll_cons r2
  obtain ⟨rfl, rfl, rfl⟩ := trodAll_nil r3
  obtain rfl : args = #[v0, v1, v2, v3] := by cases args; simp_all
  obtain ⟨rfl, rfl⟩ := trodVars_none hV
  have h0k := h0
  obtain ⟨A, l, ca, rfl, hi, hok, hll, hcap, had⟩ := open_notes (hval 0 22 v0 rfl rfl) h0
  obtain ⟨a1, rfl, rfl, rfl, w1⟩ := open_string Tryz.underlying9 (hval 1 9 v1 rfl rfl) h1
  obtain ⟨a2, rfl, rfl, rfl, w2⟩ := open_string Tryz.underlying9 (hval 2 9 v2 rfl rfl) h2
  obtain ⟨a3, rfl, rfl, rfl, w3⟩ := open_int Tryz.underlying2 (hval 3 2 v3 rfl rfl) h3
  clear hA0 hval0
  have hlt0 : ∀ x ∈ p0, x.block < W.heap.size := fun x hx => by
    have := hW'.lt x (by simp [hx])
    simpa using this
  simp only [List.append_nil, List.nil_append] at hW'
  have hcall := calls_any A ca l a1.data.toList a2.data.toList a3 W (tab_auditCalls hL) hi hok hll hcap had
  rw [S_of, S_of] at hcall
  refine hcall.mono fun e W' ⟨he, hg⟩ => ?_
  subst he
  have hA' := trodAll_cons_mk (Below.trod laid (by kernel_rfl) (of_decide_eq_true (by kernel_rfl)) h0k hg hlt0) (trodAll_cons_mk (p := []) (p' := []) (shut_string Tryz.underlying9 w1) (trodAll_cons_mk (p := []) (p' := []) (shut_string Tryz.underlying9 w2) (trodAll_cons_mk (shut_int Tryz.underlying2 w3) trodAll_mk0)))
  simp only [List.append_nil, List.nil_append] at hA' hW'
  exact ⟨_, rfl, _, _, _, [], p0, [], hW', (trodAll_cons_mk (shut_bool Tryz.underlying4 _) trodAll_mk0), hA', rfl, hg.frame _, fun h => by cases h⟩

theorem over : Rows.auditCallsRow.holds Tryz.pinned (OpenSpec.ofChange Rows.auditCallsSpec) :=
  OpenClaim.holds_of_wide 3 Tryz.f3 rfl rfl rfl rfl rfl rfl rfl ⟨rfl, rfl, rfl, rfl, rfl⟩ rfl rfl rfl rfl rfl (by kernel_rfl) Tryz.func3 (by kernel_rfl)
    (of_decide_eq_true (by kernel_rfl)) (by unfold Func.isWrapper; first | (rw [if_pos (by decide +kernel)]; kernel_rfl) | (rw [if_neg (by decide +kernel)]; exact ⟨rfl, rfl⟩))
    (fun os started H enc _ => lifted os started H enc)

set_option maxRecDepth 100000 in
theorem proved : Rows.AuditCallsCardSaid :=
  Claim7.holds_tied_plain_at .later [] [.data, .data, .data] true (true, "5ea39ce7111e691d7d46d441fe6995d6281ef3af9c30e0a48e3b46d530bf3128") false over (fun _ h => by cases h) (by kernel_rfl) (fun _ h => by cases h) auditCalls_row_tie rfl ⟨rfl, rfl⟩ (by kernel_rfl) rfl
    (fun f fn hf hfn => by
      obtain rfl : f = 3 := Option.some.inj ((show Tryz.prog.funcNamed "outlaw/outlawlaw23.AuditCalls" = some 3 by kernel_rfl).symm.trans hf) |>.symm
      obtain rfl : fn = Tryz.f3 := (Option.some.inj (Tryz.func3.symm.trans hfn)).symm
      exact ⟨by kernel_rfl, fun j t ht => by
        rw [Tryz.params3] at ht
        have hm : t ∈ [22, 9, 9, 2] := by simpa using Array.mem_of_getElem? ht
        have hall : ([22, 9, 9, 2].all fun u => !Tryz.prog.wantsStandIn u) = true := by kernel_rfl
        exact (show Tryz.prog.wantsStandIn t = false by simpa using List.all_eq_true.1 hall t hm)⟩)
    (by kernel_rfl)
#print axioms proved
end Go.Proofs.YtfapilgmgjmfeaaGreatDoor.auditCalls
