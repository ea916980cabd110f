/-
  The contracts of the document's own answers on identifiers: EventID, Kind, Lower, ServerOf.
-/
import Derived.Test.YtjdlpfkcikomfabReh
namespace Go.Proofs.Ytjdlpfkcikomfab
open Go.RowKit

set_option maxHeartbeats 1000000 in
theorem lower22 (s : ByteArray) (w : World) (hs : s.size ≤ maxLen) : Calls Try.prog 22 #[.string s] w (RetS (lowL s.data.toList) w) := by
  have hl : s.data.toList.length = s.size := by simp
  unfold maxLen at hs
  obtain ⟨W1, cap, hconv, hrow, hk1⟩ := conv_to s w
  have HR : LowRel w w.heap.size s.data.toList 0 W1 := ⟨by simpa [lowTo] using hrow, hk1⟩
  clear hrow hk1
  generalize s.data.toList = l at HR hl ⊢
  have HL := Lib.hid hl
  clear hl
  generalize hB : w.heap.size = B at HR hconv
  have HB := Lib.hid hB
  clear hB
  go_enter Try.func22, Try.ntmps22
  go_wp2
  go_loopw [4] (fun i wr => ∃ k : Nat, k ≤ s.size ∧ i = .int .i64 k ∧ LowRel w B l k wr) (fun i _ => s.size - (intOf i).toNat)
  case atStart => exact ⟨0, Nat.zero_le _, rfl, HR⟩
  case round =>
    obtain ⟨k, hk, rfl, hrow, hkp⟩ := hrel
    by_cases hlt : k < s.size
    · have hc := (hrow k (by rw [lowTo_len, HL.out]; exact hlt)).1
      have hf := (hrow k (by rw [lowTo_len, HL.out]; exact hlt)).2
      rw [lowTo_at] at hc
      have HW := Lib.hid hrow
      clear hrow
      have hb := (l.getD k 0).toNat_lt
      have hst := Lib.hid (lowTo_stay l k (by rw [HL.out]; exact hlt))
      have hsu := Lib.hid (lowTo_succ l k (by rw [HL.out]; exact hlt))
      have hlo := Lib.hid (low_nat (l.getD k 0))
      generalize hcv : l.getD k 0 = c at hc hb hst hsu hlo
      clear hcv
      have g : c.toNat < 65 ∨ (65 ≤ c.toNat ∧ c.toNat ≤ 90) ∨ 90 < c.toNat := by omega
      rcases g with g | ⟨g, g'⟩ | g
      · go_wp2
        go_roundw
        case rel => exact ⟨k + 1, by omega, by go_num, by rw [LowRel, hst.out (by omega)]; exact ⟨HW.out, hkp⟩⟩
        case measure => simp [intOf]; omega
      · go_wp2
        go_roundw
        case rel =>
          refine ⟨k + 1, by omega, by go_num, ?_⟩
          rw [LowRel, hsu.out]
          exact ⟨HW.out.set (by rw [lowTo_len, HL.out]; exact hlt) (by rw [hlo.out g g']), hkp.setCell (by rw [HB.out]; exact Nat.le_refl _) _⟩
        case measure => simp [intOf]; omega
      · go_wp2
        go_roundw
        case rel => exact ⟨k + 1, by omega, by go_num, by rw [LowRel, hst.out (by omega)]; exact ⟨HW.out, hkp⟩⟩
        case measure => simp [intOf]; omega
    · have hb := conv_back wr B cap s.size (lowTo l k) (by rw [lowTo_len, HL.out]) hrow
      rw [lowTo_end l k (by rw [HL.out]; omega)] at hb
      clear hrow
      go_wp2
      go_ret
      exact RetS.of rfl hkp

theorem event_cons (l : List UInt8) : eventB (36 :: l) = if l.length ≤ 64 then ofB (classB true [95, 45, 46, 126, 47]) l else false := by
  unfold eventB
  have hp : Lib.hasPrefix (36 :: l) [36] = true := by unfold Lib.hasPrefix; simp
  have ht : Lib.trimPrefix (36 :: l) [36] = l := by unfold Lib.trimPrefix; rw [hp]; rfl
  rw [hp, ht]
  by_cases h : l.length ≤ 64
  · rw [if_pos h, if_pos ⟨rfl, by simp; omega⟩]
  · rw [if_neg h, if_neg (by rintro ⟨_, h'⟩; simp at h'; omega)]

theorem event_eq (l : List UInt8) : eventB l = if l.length < 2 then false else if 65 < l.length then false else if l.head? = some 36 then (l.drop 1).all (classB true [95, 45, 46, 126, 47]) else false := by
  cases l with
  | nil => rfl
  | cons c r =>
    by_cases hc : c = 36
    · subst hc
      rw [event_cons]
      unfold ofB
      by_cases h : r.length ≤ 64
      · rw [if_pos h]
        cases r with
        | nil => simp
        | cons a r =>
          rw [if_neg (by simp), if_neg (by simp at h ⊢; omega), if_pos (show (36 :: a :: r : List UInt8).head? = some 36 from rfl)]; simp
      · rw [if_neg h, if_neg (by simp; omega), if_pos (by simp; omega)]
    · have hp : Lib.hasPrefix (c :: r) [36] = false := by
        unfold Lib.hasPrefix
        simp only [List.isPrefixOf, Bool.and_true, beq_eq_false_iff_ne]
        intro e; exact hc e.symm
      unfold eventB
      rw [hp, if_neg (fun h => Bool.noConfusion h.1)]
      have : ¬ (c :: r).head? = some 36 := by simp [hc]
      rw [if_neg this]
      simp

set_option maxHeartbeats 4000000 in
theorem event20_size (s : ByteArray) (w : World) (hs : s.size ≤ maxLen) (h : s.size < 2 ∨ 65 < s.size) : Calls Try.prog 20 #[.string s] w (RetB false w) := by
  unfold maxLen at hs
  rcases h with h | h
  all_goals
    go_enter Try.func20, Try.ntmps20
    go_wp2
    go_ret
    exact RetB.of rfl

set_option maxHeartbeats 4000000 in
theorem event20_sign (s : ByteArray) (w : World) (hs : s.size ≤ maxLen) (h1 : 2 ≤ s.size) (h2 : s.size ≤ 65) (hd : ¬ s[0].toNat = 36) : Calls Try.prog 20 #[.string s] w (RetB false w) := by
  have hb : ((s[0].toNat : Int) != 36) = true := by rw [bne_iff_ne]; omega
  clear hd
  unfold maxLen at hs
  go_enter Try.func20, Try.ntmps20
  go_wp2
  go_ret
  exact RetB.of rfl

set_option maxHeartbeats 4000000 in
theorem event20_all (s : ByteArray) (w : World) (hs : s.size ≤ maxLen) (h1 : 2 ≤ s.size) (h2 : s.size ≤ 65) (hd : s[0].toNat = 36) : Calls Try.prog 20 #[.string s] w (RetB ((s.data.toList.drop 1).all (classB true [95, 45, 46, 126, 47])) w) := by
  have hb : ((s[0].toNat : Int) != 36) = false := by rw [hd]; rfl
  clear hd
  have HP := Lib.hid (class_parts [95, 45, 46, 126, 47] (by decide +kernel))
  have hend : Hid ((s.data.toList.drop 1).take (s.size - 1) = s.data.toList.drop 1) := List.take_of_length_le (by simp)
  unfold maxLen at hs
  go_enter Try.func20, Try.ntmps20
  go_wp2_with fail
  clear hb
  go_loop [3] (fun x => ∃ k : Nat, 1 ≤ k ∧ k ≤ s.size ∧ x = .int .i64 k ∧ Hid (Gone (classB true [95, 45, 46, 126, 47]) s.data.toList k)) (fun x => s.size - (intOf x).toNat)
  case atStart => exact ⟨1, by omega, by omega, rfl, (by show Gone _ s.data.toList 1; unfold Gone; simp)⟩
  case round =>
    obtain ⟨k, hk1, hk, rfl, hall⟩ := hrel
    by_cases hks : k < s.size
    · have H1 : Hid (classB true [95, 45, 46, 126, 47] s[k] = true → Gone (classB true [95, 45, 46, 126, 47]) s.data.toList (k + 1)) := fun h => gone_succ hall.out hk1 hks h
      have H2 : Hid (classB true [95, 45, 46, 126, 47] s[k] = false → (s.data.toList.drop 1).all (classB true [95, 45, 46, 126, 47]) = false) := fun h => by
        have := gone_stop (i := s.size) hk1 hks hks h
        rw [hend.out] at this; exact this
      have hpk := Lib.hid (HP.out s[k])
      have cA := Lib.hid (letter_any s[k] w)
      have cD := Lib.hid (digit37 s[k] w)
      have cM : Hid (Calls Try.prog 38 #[.int .u8 s[k].toNat, .string ⟨#[95, 45, 46, 126, 47]⟩] w (RetB (amongB [95, 45, 46, 126, 47] s[k]) w)) := among_any ⟨#[95, 45, 46, 126, 47]⟩ s[k] w (by unfold maxLen; decide)
      generalize letterB s[k] = a at hpk cA
      generalize digB s[k] = d at hpk cD
      generalize amongB [95, 45, 46, 126, 47] s[k] = m at hpk cM
      cases a
      · cases d
        · cases m
          · go_wp2_with fail
            refine cA.out.mono ?_
            rintro e w2 ⟨rfl, rfl⟩
            go_wp2_with fail
            refine cD.out.mono ?_
            rintro e w2 ⟨rfl, rfl⟩
            go_wp2_with fail
            refine cM.out.mono ?_
            rintro e w2 ⟨rfl, rfl⟩
            go_wp2
            go_ret
            exact RetB.of (H2.out (by rw [hpk.out]; rfl)).symm
          · go_wp2_with fail
            refine cA.out.mono ?_
            rintro e w2 ⟨rfl, rfl⟩
            go_wp2_with fail
            refine cD.out.mono ?_
            rintro e w2 ⟨rfl, rfl⟩
            go_wp2_with fail
            refine cM.out.mono ?_
            rintro e w2 ⟨rfl, rfl⟩
            go_wp2
            go_round
            case rel => exact ⟨k + 1, by omega, by omega, by go_num, H1.out (by rw [hpk.out]; rfl)⟩
            case measure => simp [intOf]; omega
        · go_wp2_with fail
          refine cA.out.mono ?_
          rintro e w2 ⟨rfl, rfl⟩
          go_wp2_with fail
          refine cD.out.mono ?_
          rintro e w2 ⟨rfl, rfl⟩
          go_wp2
          go_round
          case rel => exact ⟨k + 1, by omega, by omega, by go_num, H1.out (by rw [hpk.out]; rfl)⟩
          case measure => simp [intOf]; omega
      · go_wp2_with fail
        refine cA.out.mono ?_
        rintro e w2 ⟨rfl, rfl⟩
        go_wp2
        go_round
        case rel => exact ⟨k + 1, by omega, by omega, by go_num, H1.out (by rw [hpk.out]; rfl)⟩
        case measure => simp [intOf]; omega
    · obtain rfl : k = s.size := by omega
      have H := Lib.hid hall.out
      go_wp2
      go_ret
      exact RetB.of (by have := H.out; unfold Gone at this; rw [hend.out] at this; simpa using this.symm)

theorem event20 (s : ByteArray) (w : World) (hs : s.size ≤ maxLen) : Calls Try.prog 20 #[.string s] w (RetB (eventB s.data.toList) w) := by
  have hl : s.data.toList.length = s.size := by simp
  rw [event_eq, hl]
  by_cases h1 : s.size < 2
  · rw [if_pos h1]; exact event20_size s w hs (Or.inl h1)
  · rw [if_neg h1]
    by_cases h2 : 65 < s.size
    · rw [if_pos h2]; exact event20_size s w hs (Or.inr h2)
    · rw [if_neg h2]
      have h0 : 0 < s.size := by omega
      have hh : s.data.toList.head? = some s[0] := by
        rw [List.head?_eq_getElem?, List.getElem?_eq_getElem (by rw [hl]; exact h0)]; rfl
      rw [hh]
      by_cases hd : s[0] = 36
      · rw [if_pos (by rw [hd])]; exact event20_all s w hs (by omega) (by omega) (by rw [hd]; rfl)
      · rw [if_neg (by simpa using hd)]; exact event20_sign s w hs (by omega) (by omega) (fun e => hd (UInt8.toNat_inj.1 e))

set_option maxHeartbeats 1000000 in
theorem kind21 (s : ByteArray) (w : World) (hs : s.size ≤ maxLen) : Calls Try.prog 21 #[.string s] w (RetN (kindI s.data.toList) w) := by
  have cU := Lib.hid (fun w => user16 s w hs)
  have cR := Lib.hid (fun w => room18 s w hs)
  have cE := Lib.hid (fun w => event20 s w hs)
  have cS := Lib.hid (fun w => server14 s w hs)
  unfold kindI
  clear hs
  generalize userB s.data.toList = u at cU ⊢
  generalize roomB s.data.toList = r at cR ⊢
  generalize eventB s.data.toList = v at cE ⊢
  generalize serverB s.data.toList = z at cS ⊢
  cases u
  · cases r
    · cases v
      · cases z
        · go_enter Try.func21, Try.ntmps21
          go_wp2_with fail
          refine (cU.out _).mono ?_
          rintro e w9 ⟨rfl, rfl⟩
          go_wp2_with fail
          refine (cR.out _).mono ?_
          rintro e w9 ⟨rfl, rfl⟩
          go_wp2_with fail
          refine (cE.out _).mono ?_
          rintro e w9 ⟨rfl, rfl⟩
          go_wp2_with fail
          refine (cS.out _).mono ?_
          rintro e w9 ⟨rfl, rfl⟩
          go_wp2
          go_ret
          exact RetN.of rfl
        · go_enter Try.func21, Try.ntmps21
          go_wp2_with fail
          refine (cU.out _).mono ?_
          rintro e w9 ⟨rfl, rfl⟩
          go_wp2_with fail
          refine (cR.out _).mono ?_
          rintro e w9 ⟨rfl, rfl⟩
          go_wp2_with fail
          refine (cE.out _).mono ?_
          rintro e w9 ⟨rfl, rfl⟩
          go_wp2_with fail
          refine (cS.out _).mono ?_
          rintro e w9 ⟨rfl, rfl⟩
          go_wp2
          go_ret
          exact RetN.of rfl
      · go_enter Try.func21, Try.ntmps21
        go_wp2_with fail
        refine (cU.out _).mono ?_
        rintro e w9 ⟨rfl, rfl⟩
        go_wp2_with fail
        refine (cR.out _).mono ?_
        rintro e w9 ⟨rfl, rfl⟩
        go_wp2_with fail
        refine (cE.out _).mono ?_
        rintro e w9 ⟨rfl, rfl⟩
        go_wp2
        go_ret
        exact RetN.of rfl
    · go_enter Try.func21, Try.ntmps21
      go_wp2_with fail
      refine (cU.out _).mono ?_
      rintro e w9 ⟨rfl, rfl⟩
      go_wp2_with fail
      refine (cR.out _).mono ?_
      rintro e w9 ⟨rfl, rfl⟩
      go_wp2
      go_ret
      exact RetN.of rfl
  · go_enter Try.func21, Try.ntmps21
    go_wp2_with fail
    refine (cU.out _).mono ?_
    rintro e w9 ⟨rfl, rfl⟩
    go_wp2
    go_ret
    exact RetN.of rfl

theorem user_index {l : List UInt8} (h : userB l = true) : ∃ i : Nat, Lib.indexByte l 58 = i ∧ i < l.length := by
  unfold userB at h
  rw [named_eq 64 (by decide)] at h
  have hlt := indexByte_lt l 58
  split at h
  · cases h
  · split at h
    · cases h
    · exact ⟨(Lib.indexByte l 58).toNat, by omega, by omega⟩

set_option maxHeartbeats 1000000 in
theorem serverOf13 (s : ByteArray) (w : World) (hs : s.size ≤ maxLen) : Calls Try.prog 13 #[.string s] w (RetSB (serverOfL s.data.toList) w) := by
  have hl : s.data.toList.length = s.size := by simp
  have hE : S [] = ⟨#[]⟩ := rfl
  have cU := Lib.hid (fun w => user16 s w hs)
  have cC := Lib.hid (fun w => colon30 s w hs)
  cases hu : userB s.data.toList
  · have e : serverOfL s.data.toList = ([], false) := by unfold serverOfL; rw [if_neg (fun h => by rw [hu] at h; cases h.2)]
    rw [e]
    rw [hu] at cU
    clear hu e hl
    go_enter Try.func13, Try.ntmps13
    go_wp2_with fail
    refine (cU.out _).mono ?_
    rintro e w2 ⟨rfl, rfl⟩
    go_wp2
    go_ret2
    exact ⟨rfl, Keeps.refl _⟩
  · obtain ⟨i, hi, hil⟩ := user_index hu
    have his : i < s.size := by omega
    have e2 : (s.extract (i + 1) s.size).data.toList = s.data.toList.drop (i + 1) := Lib.extract_to_end s (i + 1)
    have e : serverOfL s.data.toList = (lowL (s.data.toList.drop (i + 1)), true) := by
      unfold serverOfL cutC
      rw [hi, if_pos (show (0 : Int) ≤ i by omega), if_pos ⟨rfl, hu⟩]; rfl
    have cW : Hid (∀ w, Calls Try.prog 22 #[.string (s.extract (i + 1) s.size)] w (RetS (lowL (s.data.toList.drop (i + 1))) w)) := fun w => by rw [← e2]; exact lower22 _ w (by simp only [ByteArray.size_extract]; omega)
    rw [e]
    rw [hu] at cU
    rw [hi] at cC
    have c3 : (0 : Int) ≤ (i : Int) + 1 := by omega
    have c4 : (i : Int) + 1 ≤ s.size := by omega
    unfold maxLen at hs
    clear hu e hl hi hil e2
    unfold RetSB
    unfold RetS at cW
    generalize S (lowL (s.data.toList.drop (i + 1))) = q at cW
    go_enter Try.func13, Try.ntmps13
    go_wp2_with fail
    refine (cU.out _).mono ?_
    rintro e w2 ⟨rfl, rfl⟩
    go_wp2_with fail
    refine (cC.out _).mono ?_
    rintro e w2 ⟨rfl, rfl⟩
    go_wp2_with fail
    refine (cW.out _).mono ?_
    rintro e w2 ⟨rfl, hk⟩
    go_wp2
    go_ret2
    exact ⟨rfl, hk⟩
end Go.Proofs.Ytjdlpfkcikomfab
