/-
  The document's own Match of globs.
-/
import Derived.Test.YtolfpkjohlbfdaaDoorGrd
import Derived.StillTailTactics
namespace Go.Proofs.YtolfpkjohlbfdaaDoor
open Go.RowKit

structure Tab (p t : ByteArray) (F : Nat → Nat → Bool) (r : Bool) : Prop where
  z : ∀ k, k ≤ t.size → F 0 k = (k == 0)
  e : F p.size t.size = r
  s0 : ∀ i (h : i < p.size), p[i].toNat = 42 → F (i + 1) 0 = F i 0
  s : ∀ i k (h : i < p.size), k < t.size → p[i].toNat = 42 → F (i + 1) (k + 1) = (F i (k + 1) || F (i + 1) k)
  p0 : ∀ i (h : i < p.size), ¬ p[i].toNat = 42 → F (i + 1) 0 = false
  p63 : ∀ i k (h : i < p.size), k < t.size → p[i].toNat = 63 → F (i + 1) (k + 1) = F i k
  pe : ∀ i k (h : i < p.size) (hk : k < t.size), ¬ p[i].toNat = 42 → ¬ p[i].toNat = 63 → F (i + 1) (k + 1) = (((p[i].toNat : Int) == (t[k].toNat : Int)) && F i k)
theorem tab_of (p t : ByteArray) : Tab p t (Mf p.data.toList t.data.toList) (mt (eqB false) p.data.toList t.data.toList) := by
  have hp : p.data.toList.length = p.size := by simp
  have ht : t.data.toList.length = t.size := by simp
  refine ⟨fun k hk => Mf_zero _ _ _ (by omega), ?_, fun i h e => ?_, fun i k h hk e => ?_, fun i h e => ?_, fun i k h hk e => ?_, fun i k h hk e1 e2 => ?_⟩
  · rw [← hp, ← ht]; exact Mf_end _ _
  · exact Mf_star0 _ _ _ (by omega) (by rw [getD_at p i h]; exact e)
  · exact Mf_star _ _ _ _ (by omega) (by omega) (by rw [getD_at p i h]; exact e)
  · exact Mf_plain0 _ _ _ (by omega) (by rw [getD_at p i h]; exact e)
  · rw [Mf_plain _ _ _ _ (by omega) (by omega) (by rw [getD_at p i h]; omega), one_63 _ _ (by rw [getD_at p i h]; exact e), Bool.true_and]
  · rw [Mf_plain _ _ _ _ (by omega) (by omega) (by rw [getD_at p i h]; exact e1), getD_at p i h, getD_at t k hk, one_not _ _ e1 e2]
theorem preB_at (F : Nat → Bool) (m : Nat) : preB F (m + 1) m = F m := by simp [preB]

theorem start_row {W1 : World} {B n : Nat} {F : Nat → Bool} (h : RowB W1 B (n + 1) (fun _ => false)) (hz : ∀ k, k ≤ n → F k = (k == 0)) : RowB (W1.setCell ⟨B, 0, none⟩ (.bool true)) B (n + 1) F := by
  have h1 : RowB W1 B (n + 1) (preB F 0) := h.congr (fun j _ => by simp [preB])
  refine (h1.put (Nat.succ_pos n) (b := true) (by rw [hz 0 (Nat.zero_le _)]; rfl)).congr (fun j hj => ?_)
  unfold preB
  rw [hz j (by omega)]
  cases j with
  | zero => rfl
  | succ j => simp

attribute [local irreducible] wpStill in
set_option maxRecDepth 100000 in
set_option maxHeartbeats 8000000 in
theorem rmatch_any (p t : ByteArray) (fo : Bool) (w : World) (hp : p.size ≤ 1000) (ht : t.size ≤ 1000) : Calls Tryd.prog 18 #[.string p, .string t, .bool fo] w (RetQ (mt (eqB fo) p.data.toList t.data.toList) w) := by
  cases fo
  · obtain ⟨F, hF⟩ : ∃ F, Tab p t F (mt (eqB false) p.data.toList t.data.toList) := ⟨_, tab_of p t⟩
    have HF := Lib.hid hF
    clear hF
    generalize mt (eqB false) p.data.toList t.data.toList = r at HF ⊢
    have K0 := Lib.hid (Keeps.refl w)
    obtain ⟨W1, hmk, hrow, hk1⟩ := make_set 49 Tryd.underlying49 w (t.size + 1) (by omega)
    have hmk' := hmk ((t.size : Int) + 1) (by omega)
    have hc0 := (hrow 0 (by omega)).1
    have hf0 := (hrow 0 (by omega)).2
    have HR := Lib.hid (start_row hrow (HF.out.z))
    have HK1 := Lib.hid ((Keeps.trans K0.out hk1).setCell (p := ⟨w.heap.size, 0, none⟩) K0.out.size (.bool true))
    have hVw := K0.out.size
    clear hmk hrow hk1 K0
    go_enter Tryd.func18, Tryd.ntmps18
    go_wp2
    go_loopw [8, 7] (fun i a wr => ∃ (k B : Nat), k ≤ p.size ∧ i = .int .i64 (k : Int) ∧ a = .slice (some ⟨B, 0, none⟩) (t.size + 1) (t.size + 1) ∧ w.heap.size ≤ B ∧ Hid (RowB wr B (t.size + 1) (F k) ∧ Keeps w wr)) (fun i _ _ => p.size - (intOf i).toNat)
    case atStart => exact ⟨0, w.heap.size, Nat.zero_le _, rfl, rfl, hVw, Lib.hid ⟨HR.out, HK1.out⟩⟩
    case round =>
      clear hmk' hc0 hf0 HR HK1
      obtain ⟨k, B, hk, rfl, rfl, hB, hr⟩ := hrel
      by_cases hlt : k < p.size
      · obtain ⟨W2, hmk, hrow, hk2⟩ := make_set 49 Tryd.underlying49 wr (t.size + 1) (by omega)
        have hmk' := hmk ((t.size : Int) + 1) (by omega)
        have HB0 : B < wr.heap.size := hr.out.1.lt (by omega)
        have HC0 : w.heap.size ≤ wr.heap.size := hr.out.2.size
        have H0 : Hid (RowB W2 wr.heap.size (t.size + 1) (preB (F (k + 1)) 0) ∧ RowB W2 B (t.size + 1) (F k) ∧ Keeps w W2) := Lib.hid ⟨hrow.congr (fun j _ => by simp [preB]), hr.out.1.keeps hk2, Keeps.trans hr.out.2 hk2⟩
        clear hmk hrow hk2 hr
        generalize hC : wr.heap.size = C at *
        have hne : B ≠ C := by omega
        clear hC HB0
        go_wp2
        go_loopw [10] (fun x ws => ∃ (j : Nat) (y : Int), j ≤ t.size + 1 ∧ y = (j : Int) ∧ x = .int .i64 y ∧ Hid (RowB ws C (t.size + 1) (preB (F (k + 1)) j) ∧ RowB ws B (t.size + 1) (F k) ∧ Keeps w ws)) (fun x _ => t.size + 1 - (intOf x).toNat)
        case atStart => exact ⟨0, 0, Nat.zero_le _, rfl, rfl, H0⟩
        case round =>
          clear hmk' H0
          obtain ⟨j, y, hj, hy, rfl, hr⟩ := hrel
          by_cases hjt : j ≤ t.size
          · by_cases h42 : (p[k]'hlt).toNat = 42
            · rcases j with _ | m
              · obtain rfl : y = 0 := hy
                have hb := (hr.out.2.1 0 (by omega)).1
                have hcc := (hr.out.1 0 (by omega)).1
                have hcf := (hr.out.1 0 (by omega)).2
                have e0 := Lib.hid (HF.out.s0 k hlt h42)
                generalize preB (F (k + 1)) 0 0 = x0 at hcc
                generalize hb1 : F k 0 = b1 at hb
                have HB1 := Lib.hid hb1
                clear hb1
                cases b1
                · go_wp2
                  go_roundw
                  case rel => exact ⟨0 + 1, 0 + 1, by omega, by omega, by go_num, Lib.hid ⟨hr.out.1.put (by omega) (by rw [e0.out, HB1.out]), hr.out.2.1.other hne _ _, hr.out.2.2.setCell (p := ⟨C, 0, none⟩) HC0 _⟩⟩
                  case measure => simp [intOf] <;> omega
                · go_wp2
                  go_roundw
                  case rel => exact ⟨0 + 1, 0 + 1, by omega, by omega, by go_num, Lib.hid ⟨hr.out.1.put (by omega) (by rw [e0.out, HB1.out]), hr.out.2.1.other hne _ _, hr.out.2.2.setCell (p := ⟨C, 0, none⟩) HC0 _⟩⟩
                  case measure => simp [intOf] <;> omega
              · obtain rfl : y = (m : Int) + 1 := by omega
                clear hy
                have hb := (hr.out.2.1 (m + 1) (by omega)).1
                have hcc := (hr.out.1 (m + 1) (by omega)).1
                have hcf := (hr.out.1 (m + 1) (by omega)).2
                have hcm := (hr.out.1 m (by omega)).1
                rw [preB_at] at hcm
                have e0 := Lib.hid (HF.out.s k m hlt (by omega) h42)
                generalize preB (F (k + 1)) (m + 1) (m + 1) = x0 at hcc
                generalize hb1 : F k (m + 1) = b1 at hb
                have HB1 := Lib.hid hb1
                generalize hb2 : F (k + 1) m = b2 at hcm
                have HB2 := Lib.hid hb2
                clear hb1 hb2
                cases b1
                · go_wp2
                  go_roundw
                  case rel => exact ⟨m + 1 + 1, (m : Int) + 1 + 1, by omega, by omega, by go_num, Lib.hid ⟨hr.out.1.put (by omega) (by rw [e0.out, HB1.out, HB2.out]; rfl), hr.out.2.1.other hne _ _, hr.out.2.2.setCell (p := ⟨C, m + 1, none⟩) HC0 _⟩⟩
                  case measure => simp [intOf] <;> omega
                · go_wp2
                  go_roundw
                  case rel => exact ⟨m + 1 + 1, (m : Int) + 1 + 1, by omega, by omega, by go_num, Lib.hid ⟨hr.out.1.put (by omega) (by rw [e0.out, HB1.out]; rfl), hr.out.2.1.other hne _ _, hr.out.2.2.setCell (p := ⟨C, m + 1, none⟩) HC0 _⟩⟩
                  case measure => simp [intOf] <;> omega
            · have f42 : (((p[k]'hlt).toNat : Int) == 42) = false := by simp; omega
              rcases j with _ | m
              · obtain rfl : y = 0 := hy
                have e0 := Lib.hid (HF.out.p0 k hlt h42)
                go_wp2
                go_roundw
                case rel => exact ⟨0 + 1, 0 + 1, by omega, by omega, by go_num, Lib.hid ⟨hr.out.1.skip e0.out, hr.out.2.1, hr.out.2.2⟩⟩
                case measure => simp [intOf] <;> omega
              · have HY := Lib.hid (show y = (m : Int) + 1 by omega)
                have hyp : 0 < y := by omega
                have hy0 : 0 ≤ y := by omega
                have hyt : y < (t.size : Int) + 1 := by omega
                have hyn : y.toNat = m + 1 := by omega
                have hy1 : IntKind.i64.wrap (y - 1) = (m : Int) := by rw [HY.out]; exact (IntWalk.i64_in _ (by omega)).trans (by omega)
                have hmt : (m : Int) < (t.size : Int) + 1 := by omega
                clear hy
                have hb := (hr.out.2.1 m (by omega)).1
                have hcc := (hr.out.1 (m + 1) (by omega)).1
                have hcf := (hr.out.1 (m + 1) (by omega)).2
                generalize preB (F (k + 1)) (m + 1) (m + 1) = x0 at hcc
                generalize hb1 : F k m = b1 at hb
                have HB1 := Lib.hid hb1
                clear hb1
                have hm : m < t.size := by omega
                by_cases h63 : (p[k]'hlt).toNat = 63
                · have e0 := Lib.hid (HF.out.p63 k m hlt hm h63)
                  cases b1
                  · go_wp2
                    have hb' := (hr.out.2.1.drew m (by omega)).1
                    rw [HB1.out] at hb'
                    have hcc' := (hr.out.1.drew (m + 1) (by omega)).1
                    have hcf' := (hr.out.1.drew (m + 1) (by omega)).2
                    have HD : Hid (RowB wr.drew C (t.size + 1) (preB (F (k + 1)) (m + 1)) ∧ RowB wr.drew B (t.size + 1) (F k) ∧ Keeps w wr.drew) := Lib.hid ⟨hr.out.1.drew, hr.out.2.1.drew, hr.out.2.2.drew⟩
                    clear hb hcc hcf hr
                    refine wp_region_still_tail 24 (by kernel_rfl) (by kernel_rfl) ?_
                    simp only [List.take_succ_cons, List.take_zero, List.drop_succ_cons, List.drop_zero]
                    change wpStill _ _ wr.drew (fun a' => wpList _ _ _ _ a' wr.drew) _ _
                    generalize wr.drew = wd at *
                    generalize preB (F (k + 1)) (m + 1) (m + 1) = x1 at hcc'
                    iterate 24 still_step
                    refine wpStill_nil ?_
                    go_wp2
                    go_roundw
                    case rel => exact ⟨m + 1 + 1, y + 1, by omega, by have := HY.out; omega, by go_num, Lib.hid ⟨HD.out.1.put (by omega) (by rw [e0.out, HB1.out]), HD.out.2.1.other hne _ _, HD.out.2.2.setCell (p := ⟨C, m + 1, none⟩) HC0 _⟩⟩
                    case measure => simp [intOf] <;> omega
                  · go_wp2
                    have hb' := (hr.out.2.1.drew m (by omega)).1
                    rw [HB1.out] at hb'
                    have hcc' := (hr.out.1.drew (m + 1) (by omega)).1
                    have hcf' := (hr.out.1.drew (m + 1) (by omega)).2
                    have HD : Hid (RowB wr.drew C (t.size + 1) (preB (F (k + 1)) (m + 1)) ∧ RowB wr.drew B (t.size + 1) (F k) ∧ Keeps w wr.drew) := Lib.hid ⟨hr.out.1.drew, hr.out.2.1.drew, hr.out.2.2.drew⟩
                    clear hb hcc hcf hr
                    refine wp_region_still_tail 24 (by kernel_rfl) (by kernel_rfl) ?_
                    simp only [List.take_succ_cons, List.take_zero, List.drop_succ_cons, List.drop_zero]
                    change wpStill _ _ wr.drew (fun a' => wpList _ _ _ _ a' wr.drew) _ _
                    generalize wr.drew = wd at *
                    generalize preB (F (k + 1)) (m + 1) (m + 1) = x1 at hcc'
                    iterate 24 still_step
                    refine wpStill_nil ?_
                    go_wp2
                    go_roundw
                    case rel => exact ⟨m + 1 + 1, y + 1, by omega, by have := HY.out; omega, by go_num, Lib.hid ⟨HD.out.1.put (by omega) (by rw [e0.out, HB1.out]), HD.out.2.1.other hne _ _, HD.out.2.2.setCell (p := ⟨C, m + 1, none⟩) HC0 _⟩⟩
                    case measure => simp [intOf] <;> omega
                · have e0 := Lib.hid (HF.out.pe k m hlt hm h42 h63)
                  have f63 : (((p[k]'hlt).toNat : Int) == 63) = false := by simp; omega
                  cases b1
                  · go_wp2
                    have hb' := (hr.out.2.1.drew m (by omega)).1
                    rw [HB1.out] at hb'
                    have hcc' := (hr.out.1.drew (m + 1) (by omega)).1
                    have hcf' := (hr.out.1.drew (m + 1) (by omega)).2
                    have HD : Hid (RowB wr.drew C (t.size + 1) (preB (F (k + 1)) (m + 1)) ∧ RowB wr.drew B (t.size + 1) (F k) ∧ Keeps w wr.drew) := Lib.hid ⟨hr.out.1.drew, hr.out.2.1.drew, hr.out.2.2.drew⟩
                    clear hb hcc hcf hr
                    refine wp_region_still_tail 24 (by kernel_rfl) (by kernel_rfl) ?_
                    simp only [List.take_succ_cons, List.take_zero, List.drop_succ_cons, List.drop_zero]
                    change wpStill _ _ wr.drew (fun a' => wpList _ _ _ _ a' wr.drew) _ _
                    generalize wr.drew = wd at *
                    generalize preB (F (k + 1)) (m + 1) (m + 1) = x1 at hcc'
                    iterate 24 still_step
                    refine wpStill_nil ?_
                    go_wp2
                    go_roundw
                    case rel => exact ⟨m + 1 + 1, y + 1, by omega, by have := HY.out; omega, by go_num, Lib.hid ⟨HD.out.1.put (by omega) (by rw [e0.out, HB1.out, Bool.and_false]), HD.out.2.1.other hne _ _, HD.out.2.2.setCell (p := ⟨C, m + 1, none⟩) HC0 _⟩⟩
                    case measure => simp [intOf] <;> omega
                  · go_wp2
                    have hb' := (hr.out.2.1.drew m (by omega)).1
                    rw [HB1.out] at hb'
                    have hcc' := (hr.out.1.drew (m + 1) (by omega)).1
                    have hcf' := (hr.out.1.drew (m + 1) (by omega)).2
                    have HD : Hid (RowB wr.drew C (t.size + 1) (preB (F (k + 1)) (m + 1)) ∧ RowB wr.drew B (t.size + 1) (F k) ∧ Keeps w wr.drew) := Lib.hid ⟨hr.out.1.drew, hr.out.2.1.drew, hr.out.2.2.drew⟩
                    clear hb hcc hcf hr
                    refine wp_region_still_tail 24 (by kernel_rfl) (by kernel_rfl) ?_
                    simp only [List.take_succ_cons, List.take_zero, List.drop_succ_cons, List.drop_zero]
                    change wpStill _ _ wr.drew (fun a' => wpList _ _ _ _ a' wr.drew) _ _
                    generalize wr.drew = wd at *
                    generalize preB (F (k + 1)) (m + 1) (m + 1) = x1 at hcc'
                    iterate 24 still_step
                    refine wpStill_nil ?_
                    go_wp2
                    go_roundw
                    case rel => exact ⟨m + 1 + 1, y + 1, by omega, by have := HY.out; omega, by go_num, Lib.hid ⟨HD.out.1.put (by omega) (by rw [e0.out, HB1.out, Bool.and_true]), HD.out.2.1.other hne _ _, HD.out.2.2.setCell (p := ⟨C, m + 1, none⟩) HC0 _⟩⟩
                    case measure => simp [intOf] <;> omega
          · obtain rfl : j = t.size + 1 := by omega
            obtain rfl : y = (t.size : Int) + 1 := by omega
            clear hy
            go_wp2
            go_roundw
            case rel => exact ⟨k + 1, C, by omega, by go_num, rfl, HC0, Lib.hid ⟨hr.out.1.full (Nat.le_refl _), hr.out.2.2⟩⟩
            case measure => simp [intOf] <;> omega
      · obtain rfl : k = p.size := by omega
        have hb := (hr.out.1 t.size (by omega)).1
        rw [HF.out.e] at hb
        go_wp2
        go_ret
        exact RetQ.of rfl hr.out.2
  · have hF := tab_of (S (lowL p.data.toList)) (S (lowL t.data.toList))
    have cP := rfold_any p
    have cT := rfold_any t
    unfold RetS at cP cT
    rw [S_data, S_data, mt_fold] at hF
    have hps : (S (lowL p.data.toList)).size = p.size := by rw [S_size, lowL, List.length_map]; simp
    have hts : (S (lowL t.data.toList)).size = t.size := by rw [S_size, lowL, List.length_map]; simp
    generalize Mf (lowL p.data.toList) (lowL t.data.toList) = F at hF
    generalize mt (eqB true) p.data.toList t.data.toList = r at hF ⊢
    generalize S (lowL p.data.toList) = p' at *
    generalize S (lowL t.data.toList) = t' at *
    have CP := Lib.hid (fun w => cP w (by omega))
    have CT := Lib.hid (fun w => cT w (by omega))
    clear cP cT
    go_enter Tryd.func18, Tryd.ntmps18
    go_wp2_with fail
    refine (CP.out _).mono ?_
    rintro e w2 ⟨rfl, k2⟩
    have K2 := Lib.hid k2
    clear k2
    go_wp2_with fail
    refine (CT.out _).mono ?_
    rintro e v ⟨rfl, k3⟩
    have K0 := Lib.hid (Keeps.trans K2.out k3)
    clear k3 K2 CP CT
    rw [← hps] at hp
    rw [← hts] at ht
    have HF := Lib.hid hF
    clear hps hts hF
    obtain ⟨W1, hmk, hrow, hk1⟩ := make_set 49 Tryd.underlying49 v (t'.size + 1) (by omega)
    have hmk' := hmk ((t'.size : Int) + 1) (by omega)
    have hc0 := (hrow 0 (by omega)).1
    have hf0 := (hrow 0 (by omega)).2
    have HR := Lib.hid (start_row hrow (HF.out.z))
    have HK1 := Lib.hid ((Keeps.trans K0.out hk1).setCell (p := ⟨v.heap.size, 0, none⟩) K0.out.size (.bool true))
    have hVw := K0.out.size
    clear hmk hrow hk1 K0
    go_wp2
    go_loopw [8, 7] (fun i a wr => ∃ (k B : Nat), k ≤ p'.size ∧ i = .int .i64 (k : Int) ∧ a = .slice (some ⟨B, 0, none⟩) (t'.size + 1) (t'.size + 1) ∧ w.heap.size ≤ B ∧ Hid (RowB wr B (t'.size + 1) (F k) ∧ Keeps w wr)) (fun i _ _ => p'.size - (intOf i).toNat)
    case atStart => exact ⟨0, v.heap.size, Nat.zero_le _, rfl, rfl, hVw, Lib.hid ⟨HR.out, HK1.out⟩⟩
    case round =>
      clear hmk' hc0 hf0 HR HK1
      obtain ⟨k, B, hk, rfl, rfl, hB, hr⟩ := hrel
      by_cases hlt : k < p'.size
      · obtain ⟨W2, hmk, hrow, hk2⟩ := make_set 49 Tryd.underlying49 wr (t'.size + 1) (by omega)
        have hmk' := hmk ((t'.size : Int) + 1) (by omega)
        have HB0 : B < wr.heap.size := hr.out.1.lt (by omega)
        have HC0 : w.heap.size ≤ wr.heap.size := hr.out.2.size
        have H0 : Hid (RowB W2 wr.heap.size (t'.size + 1) (preB (F (k + 1)) 0) ∧ RowB W2 B (t'.size + 1) (F k) ∧ Keeps w W2) := Lib.hid ⟨hrow.congr (fun j _ => by simp [preB]), hr.out.1.keeps hk2, Keeps.trans hr.out.2 hk2⟩
        clear hmk hrow hk2 hr
        generalize hC : wr.heap.size = C at *
        have hne : B ≠ C := by omega
        clear hC HB0
        go_wp2
        go_loopw [10] (fun x ws => ∃ (j : Nat) (y : Int), j ≤ t'.size + 1 ∧ y = (j : Int) ∧ x = .int .i64 y ∧ Hid (RowB ws C (t'.size + 1) (preB (F (k + 1)) j) ∧ RowB ws B (t'.size + 1) (F k) ∧ Keeps w ws)) (fun x _ => t'.size + 1 - (intOf x).toNat)
        case atStart => exact ⟨0, 0, Nat.zero_le _, rfl, rfl, H0⟩
        case round =>
          clear hmk' H0
          obtain ⟨j, y, hj, hy, rfl, hr⟩ := hrel
          by_cases hjt : j ≤ t'.size
          · by_cases h42 : (p'[k]'hlt).toNat = 42
            · rcases j with _ | m
              · obtain rfl : y = 0 := hy
                have hb := (hr.out.2.1 0 (by omega)).1
                have hcc := (hr.out.1 0 (by omega)).1
                have hcf := (hr.out.1 0 (by omega)).2
                have e0 := Lib.hid (HF.out.s0 k hlt h42)
                generalize preB (F (k + 1)) 0 0 = x0 at hcc
                generalize hb1 : F k 0 = b1 at hb
                have HB1 := Lib.hid hb1
                clear hb1
                cases b1
                · go_wp2
                  go_roundw
                  case rel => exact ⟨0 + 1, 0 + 1, by omega, by omega, by go_num, Lib.hid ⟨hr.out.1.put (by omega) (by rw [e0.out, HB1.out]), hr.out.2.1.other hne _ _, hr.out.2.2.setCell (p := ⟨C, 0, none⟩) HC0 _⟩⟩
                  case measure => simp [intOf] <;> omega
                · go_wp2
                  go_roundw
                  case rel => exact ⟨0 + 1, 0 + 1, by omega, by omega, by go_num, Lib.hid ⟨hr.out.1.put (by omega) (by rw [e0.out, HB1.out]), hr.out.2.1.other hne _ _, hr.out.2.2.setCell (p := ⟨C, 0, none⟩) HC0 _⟩⟩
                  case measure => simp [intOf] <;> omega
              · obtain rfl : y = (m : Int) + 1 := by omega
                clear hy
                have hb := (hr.out.2.1 (m + 1) (by omega)).1
                have hcc := (hr.out.1 (m + 1) (by omega)).1
                have hcf := (hr.out.1 (m + 1) (by omega)).2
                have hcm := (hr.out.1 m (by omega)).1
                rw [preB_at] at hcm
                have e0 := Lib.hid (HF.out.s k m hlt (by omega) h42)
                generalize preB (F (k + 1)) (m + 1) (m + 1) = x0 at hcc
                generalize hb1 : F k (m + 1) = b1 at hb
                have HB1 := Lib.hid hb1
                generalize hb2 : F (k + 1) m = b2 at hcm
                have HB2 := Lib.hid hb2
                clear hb1 hb2
                cases b1
                · go_wp2
                  go_roundw
                  case rel => exact ⟨m + 1 + 1, (m : Int) + 1 + 1, by omega, by omega, by go_num, Lib.hid ⟨hr.out.1.put (by omega) (by rw [e0.out, HB1.out, HB2.out]; rfl), hr.out.2.1.other hne _ _, hr.out.2.2.setCell (p := ⟨C, m + 1, none⟩) HC0 _⟩⟩
                  case measure => simp [intOf] <;> omega
                · go_wp2
                  go_roundw
                  case rel => exact ⟨m + 1 + 1, (m : Int) + 1 + 1, by omega, by omega, by go_num, Lib.hid ⟨hr.out.1.put (by omega) (by rw [e0.out, HB1.out]; rfl), hr.out.2.1.other hne _ _, hr.out.2.2.setCell (p := ⟨C, m + 1, none⟩) HC0 _⟩⟩
                  case measure => simp [intOf] <;> omega
            · have f42 : (((p'[k]'hlt).toNat : Int) == 42) = false := by simp; omega
              rcases j with _ | m
              · obtain rfl : y = 0 := hy
                have e0 := Lib.hid (HF.out.p0 k hlt h42)
                go_wp2
                go_roundw
                case rel => exact ⟨0 + 1, 0 + 1, by omega, by omega, by go_num, Lib.hid ⟨hr.out.1.skip e0.out, hr.out.2.1, hr.out.2.2⟩⟩
                case measure => simp [intOf] <;> omega
              · have HY := Lib.hid (show y = (m : Int) + 1 by omega)
                have hyp : 0 < y := by omega
                have hy0 : 0 ≤ y := by omega
                have hyt : y < (t'.size : Int) + 1 := by omega
                have hyn : y.toNat = m + 1 := by omega
                have hy1 : IntKind.i64.wrap (y - 1) = (m : Int) := by rw [HY.out]; exact (IntWalk.i64_in _ (by omega)).trans (by omega)
                have hmt : (m : Int) < (t'.size : Int) + 1 := by omega
                clear hy
                have hb := (hr.out.2.1 m (by omega)).1
                have hcc := (hr.out.1 (m + 1) (by omega)).1
                have hcf := (hr.out.1 (m + 1) (by omega)).2
                generalize preB (F (k + 1)) (m + 1) (m + 1) = x0 at hcc
                generalize hb1 : F k m = b1 at hb
                have HB1 := Lib.hid hb1
                clear hb1
                have hm : m < t'.size := by omega
                by_cases h63 : (p'[k]'hlt).toNat = 63
                · have e0 := Lib.hid (HF.out.p63 k m hlt hm h63)
                  cases b1
                  · go_wp2
                    have hb' := (hr.out.2.1.drew m (by omega)).1
                    rw [HB1.out] at hb'
                    have hcc' := (hr.out.1.drew (m + 1) (by omega)).1
                    have hcf' := (hr.out.1.drew (m + 1) (by omega)).2
                    have HD : Hid (RowB wr.drew C (t'.size + 1) (preB (F (k + 1)) (m + 1)) ∧ RowB wr.drew B (t'.size + 1) (F k) ∧ Keeps w wr.drew) := Lib.hid ⟨hr.out.1.drew, hr.out.2.1.drew, hr.out.2.2.drew⟩
                    clear hb hcc hcf hr
                    refine wp_region_still_tail 24 (by kernel_rfl) (by kernel_rfl) ?_
                    simp only [List.take_succ_cons, List.take_zero, List.drop_succ_cons, List.drop_zero]
                    change wpStill _ _ wr.drew (fun a' => wpList _ _ _ _ a' wr.drew) _ _
                    generalize wr.drew = wd at *
                    generalize preB (F (k + 1)) (m + 1) (m + 1) = x1 at hcc'
                    iterate 24 still_step
                    refine wpStill_nil ?_
                    go_wp2
                    go_roundw
                    case rel => exact ⟨m + 1 + 1, y + 1, by omega, by have := HY.out; omega, by go_num, Lib.hid ⟨HD.out.1.put (by omega) (by rw [e0.out, HB1.out]), HD.out.2.1.other hne _ _, HD.out.2.2.setCell (p := ⟨C, m + 1, none⟩) HC0 _⟩⟩
                    case measure => simp [intOf] <;> omega
                  · go_wp2
                    have hb' := (hr.out.2.1.drew m (by omega)).1
                    rw [HB1.out] at hb'
                    have hcc' := (hr.out.1.drew (m + 1) (by omega)).1
                    have hcf' := (hr.out.1.drew (m + 1) (by omega)).2
                    have HD : Hid (RowB wr.drew C (t'.size + 1) (preB (F (k + 1)) (m + 1)) ∧ RowB wr.drew B (t'.size + 1) (F k) ∧ Keeps w wr.drew) := Lib.hid ⟨hr.out.1.drew, hr.out.2.1.drew, hr.out.2.2.drew⟩
                    clear hb hcc hcf hr
                    refine wp_region_still_tail 24 (by kernel_rfl) (by kernel_rfl) ?_
                    simp only [List.take_succ_cons, List.take_zero, List.drop_succ_cons, List.drop_zero]
                    change wpStill _ _ wr.drew (fun a' => wpList _ _ _ _ a' wr.drew) _ _
                    generalize wr.drew = wd at *
                    generalize preB (F (k + 1)) (m + 1) (m + 1) = x1 at hcc'
                    iterate 24 still_step
                    refine wpStill_nil ?_
                    go_wp2
                    go_roundw
                    case rel => exact ⟨m + 1 + 1, y + 1, by omega, by have := HY.out; omega, by go_num, Lib.hid ⟨HD.out.1.put (by omega) (by rw [e0.out, HB1.out]), HD.out.2.1.other hne _ _, HD.out.2.2.setCell (p := ⟨C, m + 1, none⟩) HC0 _⟩⟩
                    case measure => simp [intOf] <;> omega
                · have e0 := Lib.hid (HF.out.pe k m hlt hm h42 h63)
                  have f63 : (((p'[k]'hlt).toNat : Int) == 63) = false := by simp; omega
                  cases b1
                  · go_wp2
                    have hb' := (hr.out.2.1.drew m (by omega)).1
                    rw [HB1.out] at hb'
                    have hcc' := (hr.out.1.drew (m + 1) (by omega)).1
                    have hcf' := (hr.out.1.drew (m + 1) (by omega)).2
                    have HD : Hid (RowB wr.drew C (t'.size + 1) (preB (F (k + 1)) (m + 1)) ∧ RowB wr.drew B (t'.size + 1) (F k) ∧ Keeps w wr.drew) := Lib.hid ⟨hr.out.1.drew, hr.out.2.1.drew, hr.out.2.2.drew⟩
                    clear hb hcc hcf hr
                    refine wp_region_still_tail 24 (by kernel_rfl) (by kernel_rfl) ?_
                    simp only [List.take_succ_cons, List.take_zero, List.drop_succ_cons, List.drop_zero]
                    change wpStill _ _ wr.drew (fun a' => wpList _ _ _ _ a' wr.drew) _ _
                    generalize wr.drew = wd at *
                    generalize preB (F (k + 1)) (m + 1) (m + 1) = x1 at hcc'
                    iterate 24 still_step
                    refine wpStill_nil ?_
                    go_wp2
                    go_roundw
                    case rel => exact ⟨m + 1 + 1, y + 1, by omega, by have := HY.out; omega, by go_num, Lib.hid ⟨HD.out.1.put (by omega) (by rw [e0.out, HB1.out, Bool.and_false]), HD.out.2.1.other hne _ _, HD.out.2.2.setCell (p := ⟨C, m + 1, none⟩) HC0 _⟩⟩
                    case measure => simp [intOf] <;> omega
                  · go_wp2
                    have hb' := (hr.out.2.1.drew m (by omega)).1
                    rw [HB1.out] at hb'
                    have hcc' := (hr.out.1.drew (m + 1) (by omega)).1
                    have hcf' := (hr.out.1.drew (m + 1) (by omega)).2
                    have HD : Hid (RowB wr.drew C (t'.size + 1) (preB (F (k + 1)) (m + 1)) ∧ RowB wr.drew B (t'.size + 1) (F k) ∧ Keeps w wr.drew) := Lib.hid ⟨hr.out.1.drew, hr.out.2.1.drew, hr.out.2.2.drew⟩
                    clear hb hcc hcf hr
                    refine wp_region_still_tail 24 (by kernel_rfl) (by kernel_rfl) ?_
                    simp only [List.take_succ_cons, List.take_zero, List.drop_succ_cons, List.drop_zero]
                    change wpStill _ _ wr.drew (fun a' => wpList _ _ _ _ a' wr.drew) _ _
                    generalize wr.drew = wd at *
                    generalize preB (F (k + 1)) (m + 1) (m + 1) = x1 at hcc'
                    iterate 24 still_step
                    refine wpStill_nil ?_
                    go_wp2
                    go_roundw
                    case rel => exact ⟨m + 1 + 1, y + 1, by omega, by have := HY.out; omega, by go_num, Lib.hid ⟨HD.out.1.put (by omega) (by rw [e0.out, HB1.out, Bool.and_true]), HD.out.2.1.other hne _ _, HD.out.2.2.setCell (p := ⟨C, m + 1, none⟩) HC0 _⟩⟩
                    case measure => simp [intOf] <;> omega
          · obtain rfl : j = t'.size + 1 := by omega
            obtain rfl : y = (t'.size : Int) + 1 := by omega
            clear hy
            go_wp2
            go_roundw
            case rel => exact ⟨k + 1, C, by omega, by go_num, rfl, HC0, Lib.hid ⟨hr.out.1.full (Nat.le_refl _), hr.out.2.2⟩⟩
            case measure => simp [intOf] <;> omega
      · obtain rfl : k = p'.size := by omega
        have hb := (hr.out.1 t'.size (by omega)).1
        rw [HF.out.e] at hb
        go_wp2
        go_ret
        exact RetQ.of rfl hr.out.2
end Go.Proofs.YtolfpkjohlbfdaaDoor
