/-
  The document's own Wild, Literal, Check, Least and Fold of globs.
-/
import Derived.Test.YtolfpkjohlbfdaaDoorLit
import Derived.Test.YtolfpkjohlbfdaaDoorNrm
namespace Go.Proofs.YtolfpkjohlbfdaaDoor
open Go.RowKit

def wildB (c : UInt8) : Bool := c.toNat == 42 || c.toNat == 63
set_option maxHeartbeats 1000000 in
theorem wild_any (c : UInt8) (w : World) : Calls Tryd.prog 31 #[.int .u8 c.toNat] w (fun e w' => e = .returned (.bool (wildB c)) ∧ w' = w) := by
  have hc := c.toNat_lt
  by_cases h1 : c.toNat = 42
  · have e : wildB c = true := by unfold wildB; rw [h1]; rfl
    rw [e, h1]
    go_enter Tryd.func31, Tryd.ntmps31
    go_wp2
    go_ret
    exact ⟨rfl, rfl⟩
  · by_cases h2 : c.toNat = 63
    · have e : wildB c = true := by unfold wildB; rw [h2]; rfl
      rw [e, h2]
      go_enter Tryd.func31, Tryd.ntmps31
      go_wp2
      go_ret
      exact ⟨rfl, rfl⟩
    · have e : wildB c = false := by unfold wildB; simp [h1, h2]
      rw [e]
      have f1 : ((c.toNat : Int) == 42) = false := by simp; omega
      have f2 : ((c.toNat : Int) == 63) = false := by simp; omega
      go_enter Tryd.func31, Tryd.ntmps31
      go_wp2
      go_ret
      exact ⟨by simp, rfl⟩

theorem wild_in (c : UInt8) : ([42, 63] : List UInt8).contains c = wildB c := by
  rw [Bool.eq_iff_iff]
  simp only [wildB, Bool.or_eq_true, beq_iff_eq]
  constructor
  · intro h
    have : c = 42 ∨ c = 63 := by simpa using h
    rcases this with rfl | rfl
    · exact .inl rfl
    · exact .inr rfl
  · rintro (h | h)
    · rw [byte_eq h]; decide
    · rw [byte_eq h]; decide

set_option maxHeartbeats 2000000 in
theorem rlit_any (s : ByteArray) (w : World) (hs : s.size ≤ 100000) : Calls Tryd.prog 16 #[.string s] w (RetL (if Lib.containsAny s.data.toList [42, 63] = true then ⟨#[]⟩ else s) (!Lib.containsAny s.data.toList [42, 63]) w) := by
  have hl : s.data.toList.length = s.size := by simp
  have HA := Lib.hid (fun k (hk : k < s.size) => getD_at s k hk)
  have H0 : Hid (Lib.NoAny s.data.toList [42, 63] 0) := Lib.hid (Lib.NoAny.zero _ _)
  have HE : Hid (∀ k (hk : k < s.size), s.data.toList[k]? = some (s[k])) := Lib.hid (fun k hk => by
    rw [List.getElem?_eq_getElem (by omega)]; rfl)
  have HY : Hid (Lib.NoAny s.data.toList [42, 63] s.size → Lib.containsAny s.data.toList [42, 63] = false) := Lib.hid (fun h => by
    rw [← hl] at h
    unfold Lib.containsAny; rw [Lib.indexAny_none h]; rfl)
  have HX : Hid (∀ k (hk : k < s.size), Lib.NoAny s.data.toList [42, 63] k → wildB s[k] = true → Lib.containsAny s.data.toList [42, 63] = true) := Lib.hid (fun k hk h hw => by
    unfold Lib.containsAny; rw [Lib.indexAny_hit h (HE.out k hk) (by rw [wild_in]; exact hw)]; exact decide_eq_true (by omega))
  have HS : Hid (∀ k (hk : k < s.size), Lib.NoAny s.data.toList [42, 63] k → wildB s[k] = false → Lib.NoAny s.data.toList [42, 63] (k + 1)) := Lib.hid (fun k hk h hw => h.succ (HE.out k hk) (by rw [wild_in]; exact hw))
  have cW := Lib.hid (fun (c : UInt8) (w1 : World) => wild_any c w1)
  have HR1 : Hid (Lib.containsAny s.data.toList [42, 63] = true → (if Lib.containsAny s.data.toList [42, 63] = true then (⟨#[]⟩ : ByteArray) else s) = ⟨#[]⟩ ∧ (!Lib.containsAny s.data.toList [42, 63]) = false) := Lib.hid (fun h => by rw [h]; exact ⟨rfl, rfl⟩)
  have HR0 : Hid (Lib.containsAny s.data.toList [42, 63] = false → (if Lib.containsAny s.data.toList [42, 63] = true then (⟨#[]⟩ : ByteArray) else s) = s ∧ (!Lib.containsAny s.data.toList [42, 63]) = true) := Lib.hid (fun h => by rw [h]; exact ⟨rfl, rfl⟩)
  generalize (if Lib.containsAny s.data.toList [42, 63] = true then (⟨#[]⟩ : ByteArray) else s) = R at *
  generalize (!Lib.containsAny s.data.toList [42, 63]) = NB at *
  generalize s.data.toList = l at *
  clear hl
  go_enter Tryd.func16, Tryd.ntmps16
  go_wp2
  go_loopw [4] (fun i wr => ∃ k : Nat, k ≤ s.size ∧ i = .int .i64 (k : Int) ∧ Hid (Lib.NoAny l [42, 63] k) ∧ wr = w) (fun i _ => s.size - (intOf i).toNat)
  case atStart => exact ⟨0, Nat.zero_le _, rfl, H0, rfl⟩
  case round =>
    obtain ⟨k, hk, rfl, hn, rfl⟩ := hrel
    by_cases hlt : k < s.size
    · have hx := Lib.hid (HX.out k hlt hn.out)
      have hy := Lib.hid (HS.out k hlt hn.out)
      cases hw : wildB s[k]
      · have cW1 : Hid (∀ w1 : World, Calls Tryd.prog 31 #[.int .u8 (s[k]'hlt).toNat] w1 (fun e w' => e = .returned (.bool false) ∧ w' = w1)) := Lib.hid (fun w1 => by have := cW.out (s[k]'hlt) w1; rwa [hw] at this)
        have hy2 := Lib.hid (hy.out hw)
        clear hw
        go_wp2_with fail
        refine (cW1.out _).mono ?_
        rintro e w2 ⟨rfl, rfl⟩
        go_wp2
        go_roundw
        case rel => exact ⟨k + 1, by omega, by go_num, hy2, by first | rfl | trivial⟩
        case measure => simp [intOf]; omega
      · have cW1 : Hid (∀ w1 : World, Calls Tryd.prog 31 #[.int .u8 (s[k]'hlt).toNat] w1 (fun e w' => e = .returned (.bool true) ∧ w' = w1)) := Lib.hid (fun w1 => by have := cW.out (s[k]'hlt) w1; rwa [hw] at this)
        have hc := Lib.hid (HR1.out (hx.out hw))
        clear hw
        go_wp2_with fail
        refine (cW1.out _).mono ?_
        rintro e w2 ⟨rfl, rfl⟩
        go_wp2
        go_ret2
        exact RetL.of hc.out.1.symm hc.out.2.symm (Keeps.refl _)
    · obtain rfl : k = s.size := by omega
      have hc := Lib.hid (HR0.out (HY.out hn.out))
      go_wp2
      go_ret2
      exact RetL.of hc.out.1.symm hc.out.2.symm (Keeps.refl _)

set_option maxHeartbeats 1000000 in
theorem rcheck_any (s : ByteArray) (w : World) (hs : s.size ≤ 100000) : Calls Tryd.prog 17 #[.string s] w (RetI (checkI s.data.toList) w) := by
  have hl : s.data.toList.length = s.size := by simp
  have hz : s.toList.isEmpty = s.data.toList.isEmpty := by rw [ByteArray.toList_eq]
  unfold checkI
  rw [hl]
  by_cases h0 : s.size = 0
  · have he : s.toList.isEmpty = true := by rw [hz]; rw [List.isEmpty_iff]; exact List.eq_nil_of_length_eq_zero (by omega)
    rw [if_pos h0]
    clear hl hz h0
    go_enter Tryd.func17, Tryd.ntmps17
    go_wp2
    go_ret
    exact RetI.of rfl (Keeps.refl _)
  · have he : s.toList.isEmpty = false := by
      rw [hz, Bool.eq_false_iff, Ne, List.isEmpty_iff]
      intro e; rw [e] at hl; simp at hl; omega
    rw [if_neg h0]
    clear hl hz
    by_cases h1 : 255 < s.size
    · rw [if_pos h1]
      go_enter Tryd.func17, Tryd.ntmps17
      go_wp2
      go_ret
      exact RetI.of rfl (Keeps.refl _)
    · rw [if_neg h1]
      go_enter Tryd.func17, Tryd.ntmps17
      go_wp2
      go_ret
      exact RetI.of rfl (Keeps.refl _)

theorem leastN_take (l : List UInt8) (k : Nat) (h : k < l.length) : leastN (l.take (k + 1)) = leastN (l.take k) + (if (l.getD k 0).toNat = 42 then 0 else 1) := by
  rw [List.take_succ_eq_append_getElem h]
  unfold leastN
  rw [List.filter_append, List.length_append]
  congr 1
  have : l.getD k 0 = l[k] := by simp [h, List.getD]
  rw [this]
  by_cases e : (l[k]).toNat = 42
  · rw [if_pos e]; simp [e]
  · rw [if_neg e]; simp [e]

set_option maxHeartbeats 2000000 in
theorem rleast_any (s : ByteArray) (w : World) (hs : s.size ≤ 100000) : Calls Tryd.prog 20 #[.string s] w (fun e w' => e = .returned (.int .i64 ((leastN s.data.toList : Nat) : Int)) ∧ w' = w) := by
  have hl : s.data.toList.length = s.size := by simp
  have HA := Lib.hid (fun k (hk : k < s.size) => getD_at s k hk)
  have HT := Lib.hid (fun k (hk : k < s.size) => leastN_take s.data.toList k (by omega))
  have HE : Hid (leastN (s.data.toList.take s.size) = leastN s.data.toList) := Lib.hid (by rw [← hl, List.take_length])
  have H0 : Hid (leastN (s.data.toList.take 0) = 0) := Lib.hid rfl
  have HB : Hid (∀ k, leastN (s.data.toList.take k) ≤ 100000) := Lib.hid (fun k => by
    have h1 : leastN (s.data.toList.take k) ≤ (s.data.toList.take k).length := by unfold leastN; exact List.length_filter_le _ _
    have h2 : (s.data.toList.take k).length ≤ s.data.toList.length := by rw [List.length_take]; omega
    omega)
  generalize s.data.toList = l at *
  clear hl
  go_enter Tryd.func20, Tryd.ntmps20
  go_wp2
  go_loopw [3, 4] (fun n i wr => ∃ (k m : Nat), k ≤ s.size ∧ i = .int .i64 (k : Int) ∧ n = .int .i64 (m : Int) ∧ Hid (m = leastN (l.take k)) ∧ wr = w) (fun _ i _ => s.size - (intOf i).toNat)
  case atStart => exact ⟨0, 0, Nat.zero_le _, rfl, rfl, H0, rfl⟩
  case round =>
    obtain ⟨k, m, hk, rfl, rfl, hm, rfl⟩ := hrel
    have hmb : m ≤ 100000 := by rw [hm.out]; exact HB.out k
    by_cases hlt : k < s.size
    · have ht := HT.out k hlt
      rw [HA.out k hlt] at ht
      by_cases h42 : (s[k]'hlt).toNat = 42
      · rw [if_pos h42] at ht
        have HT2 := Lib.hid ht
        clear ht
        go_wp2
        go_roundw
        case rel => exact ⟨k + 1, m, by omega, by go_num, rfl, Lib.hid (by rw [HT2.out, hm.out]; rfl), by first | rfl | trivial⟩
        case measure => simp [intOf]; omega
      · rw [if_neg h42] at ht
        have HT2 := Lib.hid ht
        clear ht
        have f1 : (((s[k]'hlt).toNat : Int) != 42) = true := by simp; omega
        go_wp2
        go_roundw
        case rel => exact ⟨k + 1, m + 1, by omega, by go_num, by go_num, Lib.hid (by rw [HT2.out, hm.out]), by first | rfl | trivial⟩
        case measure => simp [intOf]; omega
    · obtain rfl : k = s.size := by omega
      rw [HE.out] at hm
      have hm2 := hm.out
      go_wp2
      go_ret
      exact ⟨by first | (rw [HE.out, ← hm2]; rfl) | (rw [← hm2]; rfl), rfl⟩
end Go.Proofs.YtolfpkjohlbfdaaDoor
