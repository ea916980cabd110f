/-
  A literal does not depend on what follows it; cut anywhere it ends too early, or in the middle of a code point: for any bytes, no condition.
-/
import Derived.Test.YtbhgfdgdbbfeoaaDoorRows
import Derived.Test.YtbhgfdgdbbfeoaaDoorCards
import Derived.Test.YtbhgfdgdbbfeoaaDoorTie
import Derived.Test.YtbhgfdgdbbfeoaaDoorLFro
import Derived.Test.YtbhgfdgdbbfeoaaDoorLai
import Derived.WalkKit
import Derived.ProofKit
import Derived.OpenShut
import Derived.ShutString
import Derived.LaidMore
import Derived.Lay
import Derived.SevenTiedAt
import Derived.Stop.Joined
import Derived.Carry
import Derived.PinnedBridge
import Derived.Lib.LaidU8T
import Derived.Lib.LaidTab
import Derived.Stop.LaidErr
namespace Go.Proofs.YtbhgfdgdbbfeoaaDoor
open Go.RowKit
theorem utf_scanFronts {W : World} (h : laidMetH Tryd.prog Rows.scanFrontsRow.laid W) : Utf W := by
  rw [MakeChecks.laidMetH_plain _ _ _ (by kernel_rfl)] at h
  exact utf_reads h (by simp [Rows.scanFrontsRow]) (by simp [Rows.scanFrontsRow])
end Go.Proofs.YtbhgfdgdbbfeoaaDoor
namespace Go.Proofs.YtbhgfdgdbbfeoaaDoor
open Go.RowKit

theorem ext_take (s : ByteArray) (n : Nat) : (s.extract 0 n).data.toList = s.data.toList.take n := by
  rw [Lib.extract_data, List.drop_zero, Nat.sub_zero]
theorem cu_of (s : ByteArray) (p : Piece) (hs : s.size ≤ 100000) (h : unqL s.data.toList = p) : CU s (S p.1) (p.2.1 : Int) (p.2.2 : Int) := Lib.hid (fun w1 hu => by
  rw [← h]; exact unq_any s w1 hu hs)

theorem fronts_any (s b : ByteArray) (c : Int) (w : World) (ms : s.size ≤ maxLen) (mb : b.size ≤ maxLen) (hu : Utf w) :
    Calls Tryd.prog 6 #[.string s, .string b, .int .i64 c] w (RetQ true w) := by
  have HU := Lib.hid hu
  by_cases hs : 2000 < s.size
  · exact fr_big1 s b c w hs ms
  by_cases hb : 2000 < b.size
  · exact fr_big2 s b c w (by omega) hb mb
  have hsl : s.data.toList.length = s.size := by simp
  obtain ⟨p, hp⟩ : ∃ p, unqL s.data.toList = p := ⟨_, rfl⟩
  have cU := cu_of s p (by omega) hp
  by_cases he : p.2.2 = 0
  · have wl := wellL s.data.toList (by rw [hp]; exact he)
    have h2 := wl.pos
    have hn := wl.le
    rw [hp] at h2 hn
    rw [he] at cU
    have hj0 := Int.emod_nonneg c (show (p.2.1 : Int) ≠ 0 by omega)
    have hj1 := Int.emod_lt_of_pos c (show (0 : Int) < (p.2.1 : Int) by omega)
    have cP : Hid (∀ w1, Calls Tryd.prog 24 #[.int .i64 c, .int .i64 (p.2.1 : Int)] w1 (fun e w' => e = .returned (.int .i64 (((c % (p.2.1 : Int)).toNat : Nat) : Int)) ∧ w' = w1)) := Lib.hid (fun w1 => by
      rw [Int.toNat_of_nonneg hj0]; exact pick_any c _ w1 (by omega) (by omega))
    have hc := wl.cut (c % (p.2.1 : Int)).toNat (by rw [hp]; omega)
    have cV : CU (s.extract 0 p.2.1 ++ b) (S p.1) (p.2.1 : Int) 0 := by
      have := cu_of (s.extract 0 p.2.1 ++ b) p (by simp; omega) (by rw [app_data, ext_take, ← hp, wl.same])
      rwa [he] at this
    have cX := cu_of (s.extract 0 (c % (p.2.1 : Int)).toNat) _ (by simp; omega) rfl
    rw [ext_take] at cX
    rcases hc with h3 | h6
    · rw [h3] at cX
      exact fr_ok3 s b _ _ c _ p.2.1 _ w (by omega) (by omega) h2 (by omega) (by omega) HU cU cV cX cP
    · rw [h6] at cX
      exact fr_ok6 s b _ _ c _ p.2.1 _ w (by omega) (by omega) h2 (by omega) (by omega) HU cU cV cX cP
  · exact fr_err s b _ c _ _ w (by omega) (by omega) (by simp; omega) HU cU
end Go.Proofs.YtbhgfdgdbbfeoaaDoor

namespace Go.Proofs.YtbhgfdgdbbfeoaaDoor.scanFronts
open Go.ChangeShapes Go.WideShapes Go.ChangeAt Go.RowKit
open Go.ChangeMaps (open_string shut_string)
set_option linter.unusedVariables false

theorem own : ownKnob Tryd.prog.godebug = none := by kernel_rfl

set_option maxRecDepth 100000 in
theorem lifted (os : Os) (started : os.Started) (H : Type) (enc : TypeId × Value → H) :
    ReturnsInHanded {} Tryd.checked os 6 .any (fun w args => (Rows.scanFrontsSpec.pre enc Tryd.prog Tryd.f6 Rows.scanFrontsRow.domain false w args ∧ laidMetH Tryd.prog Rows.scanFrontsRow.laid w) ∧ sizedMet enc Tryd.prog Tryd.f6 (OpenSpec.ofChange Rows.scanFrontsSpec) false w args)
      (Rows.scanFrontsSpec.post enc Tryd.prog Tryd.f6 false true false false) := by
  refine returnsInHanded_of_change_and (C := Tryd.checked) (X := fun w _ => laidMetH Tryd.prog Rows.scanFrontsRow.laid w) (fun _ _ _ hh h => h.of_heap hh) own started (by kernel_rfl) Tryd.func6
    (ChangeSpec.witness_shaped (enc := enc) (C := Tryd.checked) (os := os) (X := fun w _ => laidMetH Tryd.prog Rows.scanFrontsRow.laid w) false (World.laidAll Tryd.prog os Rows.scanFrontsRow.laid) #[.string ByteArray.empty, .string ByteArray.empty, .int .i64 0] 8 (World.laidAll_os _ _ _)
      (World.shaped_of_ZipB (by kernel_rfl) (by kernel_rfl)) (by kernel_rfl) (by kernel_rfl) (by kernel_rfl)
      (by rw [MakeChecks.laidMetH_plain _ _ _ (by kernel_rfl)]; exact laidMet_laidAll _ (by kernel_rfl) (by kernel_rfl))) ?_
  intro W base args ds gs before hval0 hW hcnd _ hL _
  have hval : ∀ (j : Nat) t v, Tryd.f6.params[j]? = some t → args[j]? = some v → Value.okWide Tryd.prog W .any base t v := hval0
  have hW' := hW
  obtain ⟨p, q, hA0, hV, rfl, hfz, hnd⟩ := hW
  have hA : DataW.TrodAll enc Tryd.prog W 0 (fun _ => true) true Tryd.f6.params.toList args.toList ds p := hA0
  rw [Tryd.params6] at hA hval
  obtain ⟨v0, vs0, d0, ds0, p0, q0, hargs, rfl, rfl, h0, r0⟩ := trodAll_cons hA
  obtain ⟨v1, vs1, d1, ds1, p1, q1, rfl, rfl, rfl, h1, r1⟩ := trodAll_cons r0
  obtain ⟨v2, vs2, d2, ds2, p2, q2, rfl, rfl, rfl, h2, r2⟩ := trodAll_cons r1
  obtain ⟨rfl, rfl, rfl⟩ := trodAll_nil r2
  obtain rfl : args = #[v0, v1, v2] := by cases args; simp_all
  obtain ⟨rfl, rfl⟩ := trodVars_none hV
  obtain ⟨a0, rfl, rfl, rfl, w0⟩ := open_string Tryd.underlying9 (hval 0 9 v0 rfl rfl) h0
  obtain ⟨a1, rfl, rfl, rfl, w1⟩ := open_string Tryd.underlying9 (hval 1 9 v1 rfl rfl) h1
  obtain ⟨a2, rfl, rfl, rfl, w2⟩ := open_int Tryd.underlying3 (hval 2 3 v2 rfl rfl) h2
  clear hA0 hval0
  simp only [List.append_nil] at hW'
  refine (fronts_any a0 a1 a2 W w0 w1 (utf_scanFronts hL)).mono fun e W' ⟨he, hg⟩ => ?_
  subst he
  exact ⟨_, rfl, _, _, _, [], [], [], hW', (trodAll_cons_mk (shut_bool Tryd.underlying4 _) trodAll_mk0), (trodAll_cons_mk (p := []) (p' := []) (shut_string Tryd.underlying9 w0) (trodAll_cons_mk (p := []) (p' := []) (shut_string Tryd.underlying9 w1) (trodAll_cons_mk (p := []) (p' := []) (shut_int Tryd.underlying3 w2) trodAll_mk0))), rfl, hg.frame _, fun h => by cases h⟩

theorem over : Rows.scanFrontsRow.holds Tryd.pinned (OpenSpec.ofChange Rows.scanFrontsSpec) :=
  OpenClaim.holds_of_wide 6 Tryd.f6 rfl rfl rfl rfl rfl rfl rfl ⟨rfl, rfl, rfl, rfl, rfl⟩ rfl rfl rfl rfl rfl (by kernel_rfl) Tryd.func6 (by kernel_rfl)
    (of_decide_eq_true (by kernel_rfl)) (by unfold Func.isWrapper; first | (rw [if_pos (by decide +kernel)]; kernel_rfl) | (rw [if_neg (by decide +kernel)]; exact ⟨rfl, rfl⟩))
    (fun os started H enc _ => lifted os started H enc)

set_option maxRecDepth 100000 in
theorem proved : Rows.ScanFrontsCardSaid :=
  Claim7.holds_tied_plain_at .later [] [.data, .pinned] true (true, "f2b3eafc29d0279b62e37aa68ad3ff1bea54c8056a58230ebe0d1e1cf0871150") false over (fun _ h => by cases h) (by kernel_rfl) (fun _ h => by cases h) scanFronts_row_tie rfl ⟨rfl, rfl⟩ (by kernel_rfl) rfl
    (fun f fn hf hfn => by
      obtain rfl : f = 6 := Option.some.inj ((show Tryd.prog.funcNamed "outlaw/outlawlaw01.ScanFronts" = some 6 by kernel_rfl).symm.trans hf) |>.symm
      obtain rfl : fn = Tryd.f6 := (Option.some.inj (Tryd.func6.symm.trans hfn)).symm
      exact ⟨by kernel_rfl, fun j t ht => by
        rw [Tryd.params6] at ht
        have hm : t ∈ [9, 9, 3] := by simpa using Array.mem_of_getElem? ht
        have hall : ([9, 9, 3].all fun u => !Tryd.prog.wantsStandIn u) = true := by kernel_rfl
        exact (show Tryd.prog.wantsStandIn t = false by simpa using List.all_eq_true.1 hall t hm)⟩)
    (by kernel_rfl)
#print axioms proved
end Go.Proofs.YtbhgfdgdbbfeoaaDoor.scanFronts
