/-
  A number is read from its digits, whatever follows except a digit; numbers that are not valid have none; digits determine one number: for any two numbers and any bytes, no condition.
-/
import Derived.Test.YtbhgfdgdbbfeoaaDoorRows
import Derived.Test.YtbhgfdgdbbfeoaaDoorCards
import Derived.Test.YtbhgfdgdbbfeoaaDoorTie
import Derived.Test.YtbhgfdgdbbfeoaaDoorLNum
import Derived.WalkKit
import Derived.ProofKit
import Derived.OpenShut
import Derived.ShutString
import Derived.LaidMore
import Derived.Lay
import Derived.SevenTiedAt
import Derived.Stop.Joined
import Derived.Carry
import Derived.PinnedBridge
import Derived.Lib.LaidU8T
import Derived.Lib.LaidTab
import Derived.Stop.LaidErr
namespace Go.Proofs.YtbhgfdgdbbfeoaaDoor
open Go.RowKit
/-- The table of powers of ten, out of what the row lists. -/
theorem tab_numbers {W : World} (h : laidMetH Tryd.prog Rows.scanNumbersRow.laid W) : Tab W := by
  rw [MakeChecks.laidMetH_plain _ _ _ (by kernel_rfl)] at h
  have h2 := laidMet.tail (laidMet.tail h)
  exact Lib.tabIs_of_head (rest := []) (g := 2) (t := 94) (e := 80) (n := 20) tab_g (by kernel_rfl) (by kernel_rfl) (by kernel_rfl) (by kernel_rfl) (by kernel_rfl) h2

theorem numR_in (n : Int) (h0 : ¬ n < -9007199254740991) (h1 : ¬ 9007199254740991 < n) : numR n = (Lib.itoa n, 0) := if_neg (by omega)
theorem numR_out (n : Int) (h : n < -9007199254740991 ∨ 9007199254740991 < n) : numR n = ([], 2) := if_pos h

theorem numbers_any (m n : Int) (b : ByteArray) (w : World) (hm : (Lit.int .i64 m).wf = true) (hn : (Lit.int .i64 n).wf = true) (hb : b.size ≤ maxLen) (ht : Tab w) :
    Calls Tryd.prog 8 #[.int .i64 m, .int .i64 n, .string b] w (RetQ true w) := by
  obtain ⟨m0, m1⟩ := wf_i64 hm
  obtain ⟨n0, n1⟩ := wf_i64 hn
  have hT := Lib.hid ht
  by_cases h2 : 2000 < b.size
  · exact num_long m n b w h2 hb
  have h2' : b.size ≤ 2000 := by omega
  have cL : Hid (∀ w1, Calls Tryd.prog 11 #[] w1 (RetQ true w1)) := Lib.hid (fun w1 => lives_any w1)
  have cN : ∀ p, numR n = p → Hid (∀ w1, Tab w1 → Calls Tryd.prog 19 #[.int .i64 n] w1 (RetT p w1)) := fun p e => Lib.hid (fun w1 h => by rw [← e]; exact number_any n n0 n1 w1 h)
  have cM : ∀ p, numR m = p → Hid (∀ w1, Tab w1 → Calls Tryd.prog 19 #[.int .i64 m] w1 (RetT p w1)) := fun p e => Lib.hid (fun w1 h => by rw [← e]; exact number_any m m0 m1 w1 h)
  have both : ∀ {P : World → Ending → World → Prop} {F : Prop}, F → Hid (∀ w1, Tab w1 → Calls Tryd.prog 19 #[.int .i64 n] w1 (P w1)) → Hid (∀ w1, Tab w1 → Calls Tryd.prog 19 #[.int .i64 n] w1 (fun e w' => P w1 e w' ∧ F)) := fun hf c => Lib.hid (fun w1 h => (c.out w1 h).mono fun e w' hp => ⟨hp, hf⟩)
  -- the way by what follows
  have key : digs b.data.toList = [] → (∀ Q : Prop, (b.toList.isEmpty = true → Q) → (∀ p0 : 0 < b.size, b.toList.isEmpty = false → digB (b[0]'p0) = false → Q) → Q) → Calls Tryd.prog 8 #[.int .i64 m, .int .i64 n, .string b] w (RetQ true w) := by
    intro hdg hway
    by_cases hlo : n < -9007199254740991
    · have c := both (F := decide (n < -9007199254740991) = true) (by simp; omega) (cN _ (numR_out n (.inl hlo)))
      refine hway _ (fun f4 => num_lo_e m n b w h2' f4 cL c hT) (fun p0 f4 hd => ?_)
      by_cases g : 48 ≤ (b[0]'p0).toNat
      · exact num_lo_h m n b w h2' p0 f4 (by simp; omega) (by simp [digB] at hd; simp; omega) cL c hT
      · exact num_lo_l m n b w h2' p0 f4 (by simp; omega) cL c hT
    by_cases hhi : 9007199254740991 < n
    · have c := both (F := decide (n < -9007199254740991) = false ∧ decide ((9007199254740991 : Int) < n) = true) ⟨by simp; omega, by simp; omega⟩ (cN _ (numR_out n (.inr hhi)))
      refine hway _ (fun f4 => num_hi_e m n b w h2' f4 cL c hT) (fun p0 f4 hd => ?_)
      by_cases g : 48 ≤ (b[0]'p0).toNat
      · exact num_hi_h m n b w h2' p0 f4 (by simp; omega) (by simp [digB] at hd; simp; omega) cL c hT
      · exact num_hi_l m n b w h2' p0 f4 (by simp; omega) cL c hT
    have hs : (S (Lib.itoa n)).size ≤ 100 := by have := itoa_len n (by omega) (by omega); rw [S_size]; omega
    have c0 : Hid (∀ w1, Tab w1 → Calls Tryd.prog 19 #[.int .i64 n] w1 (fun e w' => e = .returned (.tuple #[.string (S (Lib.itoa n)), .int .i64 0]) ∧ Keeps w1 w')) := cN _ (numR_in n hlo hhi)
    have c := both (P := fun w1 e w' => e = .returned (.tuple #[.string (S (Lib.itoa n)), .int .i64 0]) ∧ Keeps w1 w') (F := decide (n < -9007199254740991) = false ∧ decide ((9007199254740991 : Int) < n) = false) ⟨by simp; omega, by simp; omega⟩ c0
    have cR : Hid (∀ w1, Calls Tryd.prog 10 #[.string (S (Lib.itoa n) ++ b)] w1 (fun e w' => e = .returned (.tuple #[.int .i64 n, .int .i64 ((S (Lib.itoa n)).size : Int), .int .i64 0]) ∧ w' = w1)) := Lib.hid (fun w1 => rn_at _ n (Lib.itoa n).length 0 _ _ w1 (by simp; omega) (by rw [app_data, S_data]; exact itoa_read n (by omega) (by omega) _ hdg) rfl rfl)
    by_cases hm1 : m < -9007199254740991 ∨ 9007199254740991 < m
    · have c2 := cM _ (numR_out m hm1)
      refine hway _ (fun f4 => num_bad_e m n b _ 0 (S []) w h2' f4 hs cL c hT c2 cR) (fun p0 f4 hd => ?_)
      by_cases g : 48 ≤ (b[0]'p0).toNat
      · exact num_bad_h m n b _ 0 (S []) w h2' p0 f4 (by simp; omega) (by simp [digB] at hd; simp; omega) hs cL c hT c2 cR
      · exact num_bad_l m n b _ 0 (S []) w h2' p0 f4 (by simp; omega) hs cL c hT c2 cR
    have c2 := cM _ (numR_in m (by omega) (by omega))
    by_cases hmn : m = n
    · subst hmn
      refine hway _ (fun f4 => num_same_e m m b _ w h2' f4 hs cL c hT (Lib.hid fun _ => trivial) cR) (fun p0 f4 hd => ?_)
      by_cases g : 48 ≤ (b[0]'p0).toNat
      · exact num_same_h m m b _ w h2' p0 f4 (by simp; omega) (by simp [digB] at hd; simp; omega) hs cL c hT (Lib.hid fun _ => trivial) cR
      · exact num_same_l m m b _ w h2' p0 f4 (by simp; omega) hs cL c hT (Lib.hid fun _ => trivial) cR
    · have hst : ¬ Lib.itoa n = Lib.itoa m := fun e => hmn (itoa_inj m n (by omega) (by omega) (by omega) (by omega) e.symm)
      have hst1 := S_ne hst
      have hst2 : ¬ (S (Lib.itoa n)).toList = (S (Lib.itoa m)).toList := fun e => hst1 (bytes_of_list e)
      have hmn2 : (m == n) = false := by simp [hmn]
      refine hway _ (fun f4 => num_other_e m n b _ _ w h2' f4 hs hst2 (list_ne hst1) hmn2 cL c hT c2 cR) (fun p0 f4 hd => ?_)
      by_cases g : 48 ≤ (b[0]'p0).toNat
      · exact num_other_h m n b _ _ w h2' p0 f4 (by simp; omega) (by simp [digB] at hd; simp; omega) hs hst2 (list_ne hst1) hmn2 cL c hT c2 cR
      · exact num_other_l m n b _ _ w h2' p0 f4 (by simp; omega) hs hst2 (list_ne hst1) hmn2 cL c hT c2 cR
  by_cases p0 : 0 < b.size
  · have f4 : b.toList.isEmpty = false := by
      rw [ByteArray.toList_eq, Bool.eq_false_iff, Ne, List.isEmpty_iff]
      intro e; have : b.data.toList.length = b.size := by simp
      rw [e] at this; simp at this; omega
    cases hd : digB (b[0]'p0)
    · refine key ?_ (fun Q _ h => h p0 f4 hd)
      have := drop_at b 0 p0
      rw [List.drop_zero] at this
      rw [this, digs_stop _ _ hd]
    · exact num_digit m n b w h2' p0 hd
  · have e1 : b.data.toList.length = b.size := by simp
    have e0 : b.data.toList = [] := List.eq_nil_of_length_eq_zero (by omega)
    refine key (by rw [e0]; rfl) (fun Q h _ => h (by rw [ByteArray.toList_eq, e0]; rfl))
end Go.Proofs.YtbhgfdgdbbfeoaaDoor

namespace Go.Proofs.YtbhgfdgdbbfeoaaDoor.scanNumbers
open Go.ChangeShapes Go.WideShapes Go.ChangeAt Go.RowKit
open Go.ChangeMaps (open_string shut_string)
set_option linter.unusedVariables false

theorem own : ownKnob Tryd.prog.godebug = none := by kernel_rfl

set_option maxRecDepth 100000 in
theorem lifted (os : Os) (started : os.Started) (H : Type) (enc : TypeId × Value → H) :
    ReturnsInHanded {} Tryd.checked os 8 .any (fun w args => (Rows.scanNumbersSpec.pre enc Tryd.prog Tryd.f8 Rows.scanNumbersRow.domain false w args ∧ laidMetH Tryd.prog Rows.scanNumbersRow.laid w) ∧ sizedMet enc Tryd.prog Tryd.f8 (OpenSpec.ofChange Rows.scanNumbersSpec) false w args)
      (Rows.scanNumbersSpec.post enc Tryd.prog Tryd.f8 false true false false) := by
  refine returnsInHanded_of_change_and (C := Tryd.checked) (X := fun w _ => laidMetH Tryd.prog Rows.scanNumbersRow.laid w) (fun _ _ _ hh h => h.of_heap hh) own started (by kernel_rfl) Tryd.func8
    (ChangeSpec.witness_shaped (enc := enc) (C := Tryd.checked) (os := os) (X := fun w _ => laidMetH Tryd.prog Rows.scanNumbersRow.laid w) false (World.laidAll Tryd.prog os Rows.scanNumbersRow.laid) #[.int .i64 0, .int .i64 0, .string ByteArray.empty] 8 (World.laidAll_os _ _ _)
      (World.shaped_of_ZipB (by kernel_rfl) (by kernel_rfl)) (by kernel_rfl) (by kernel_rfl) (by kernel_rfl)
      (by rw [MakeChecks.laidMetH_plain _ _ _ (by kernel_rfl)]; exact laidMet_laidAll _ (by kernel_rfl) (by kernel_rfl))) ?_
  intro W base args ds gs before hval0 hW hcnd _ hL _
  have hval : ∀ (j : Nat) t v, Tryd.f8.params[j]? = some t → args[j]? = some v → Value.okWide Tryd.prog W .any base t v := hval0
  have hW' := hW
  obtain ⟨p, q, hA0, hV, rfl, hfz, hnd⟩ := hW
  have hA : DataW.TrodAll enc Tryd.prog W 0 (fun _ => true) true Tryd.f8.params.toList args.toList ds p := hA0
  rw [Tryd.params8] at hA hval
  obtain ⟨v0, vs0, d0, ds0, p0, q0, hargs, rfl, rfl, h0, r0⟩ := trodAll_cons hA
  obtain ⟨v1, vs1, d1, ds1, p1, q1, rfl, rfl, rfl, h1, r1⟩ := trodAll_cons r0
  obtain ⟨v2, vs2, d2, ds2, p2, q2, rfl, rfl, rfl, h2, r2⟩ := trodAll_cons r1
  obtain ⟨rfl, rfl, rfl⟩ := trodAll_nil r2
  obtain rfl : args = #[v0, v1, v2] := by cases args; simp_all
  obtain ⟨rfl, rfl⟩ := trodVars_none hV
  obtain ⟨a0, rfl, rfl, rfl, w0⟩ := open_int Tryd.underlying2 (hval 0 2 v0 rfl rfl) h0
  obtain ⟨a1, rfl, rfl, rfl, w1⟩ := open_int Tryd.underlying2 (hval 1 2 v1 rfl rfl) h1
  obtain ⟨a2, rfl, rfl, rfl, w2⟩ := open_string Tryd.underlying9 (hval 2 9 v2 rfl rfl) h2
  clear hA0 hval0
  simp only [List.append_nil] at hW'
  refine (numbers_any a0 a1 a2 W w0 w1 w2 (tab_numbers hL)).mono fun e W' ⟨he, hg⟩ => ?_
  subst he
  exact ⟨_, rfl, _, _, _, [], [], [], hW', (trodAll_cons_mk (shut_bool Tryd.underlying4 _) trodAll_mk0), (trodAll_cons_mk (p := []) (p' := []) (shut_int Tryd.underlying2 w0) (trodAll_cons_mk (p := []) (p' := []) (shut_int Tryd.underlying2 w1) (trodAll_cons_mk (p := []) (p' := []) (shut_string Tryd.underlying9 w2) trodAll_mk0))), rfl, hg.frame _, fun h => by cases h⟩

theorem over : Rows.scanNumbersRow.holds Tryd.pinned (OpenSpec.ofChange Rows.scanNumbersSpec) :=
  OpenClaim.holds_of_wide 8 Tryd.f8 rfl rfl rfl rfl rfl rfl rfl ⟨rfl, rfl, rfl, rfl, rfl⟩ rfl rfl rfl rfl rfl (by kernel_rfl) Tryd.func8 (by kernel_rfl)
    (of_decide_eq_true (by kernel_rfl)) (by unfold Func.isWrapper; first | (rw [if_pos (by decide +kernel)]; kernel_rfl) | (rw [if_neg (by decide +kernel)]; exact ⟨rfl, rfl⟩))
    (fun os started H enc _ => lifted os started H enc)

set_option maxRecDepth 100000 in
theorem proved : Rows.ScanNumbersCardSaid :=
  Claim7.holds_tied_plain_at .later [] [.data, .data, .data] true (true, "f2b3eafc29d0279b62e37aa68ad3ff1bea54c8056a58230ebe0d1e1cf0871150") false over (fun _ h => by cases h) (by kernel_rfl) (fun _ h => by cases h) scanNumbers_row_tie rfl ⟨rfl, rfl⟩ (by kernel_rfl) rfl
    (fun f fn hf hfn => by
      obtain rfl : f = 8 := Option.some.inj ((show Tryd.prog.funcNamed "outlaw/outlawlaw01.ScanNumbers" = some 8 by kernel_rfl).symm.trans hf) |>.symm
      obtain rfl : fn = Tryd.f8 := (Option.some.inj (Tryd.func8.symm.trans hfn)).symm
      exact ⟨by kernel_rfl, fun j t ht => by
        rw [Tryd.params8] at ht
        have hm : t ∈ [2, 2, 9] := by simpa using Array.mem_of_getElem? ht
        have hall : ([2, 2, 9].all fun u => !Tryd.prog.wantsStandIn u) = true := by kernel_rfl
        exact (show Tryd.prog.wantsStandIn t = false by simpa using List.all_eq_true.1 hall t hm)⟩)
    (by kernel_rfl)
#print axioms proved
end Go.Proofs.YtbhgfdgdbbfeoaaDoor.scanNumbers
