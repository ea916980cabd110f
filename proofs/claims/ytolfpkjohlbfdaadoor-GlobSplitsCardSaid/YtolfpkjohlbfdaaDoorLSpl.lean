/-
  The walk of the statement that a concatenation of two globs matches exactly if the text can be split.
-/
import Derived.Test.YtolfpkjohlbfdaaDoorLiv
namespace Go.Proofs.YtolfpkjohlbfdaaDoor
open Go.RowKit

/-- Can the text be split before the place k? -/
def exT (eq : UInt8 → UInt8 → Bool) (p q t : List UInt8) (k : Nat) : Bool := (List.range k).any (fun j => mt eq p (t.take j) && mt eq q (t.drop j))
theorem exT_zero (eq : UInt8 → UInt8 → Bool) (p q t : List UInt8) : exT eq p q t 0 = false := by simp [exT]
theorem exT_succ (eq : UInt8 → UInt8 → Bool) (p q t : List UInt8) (k : Nat) : exT eq p q t (k + 1) = (exT eq p q t k || (mt eq p (t.take k) && mt eq q (t.drop k))) := by
  unfold exT; rw [List.range_succ, List.any_append]; simp
theorem exT_all (eq : UInt8 → UInt8 → Bool) (p q t : List UInt8) : exT eq p q t (t.length + 1) = mt eq (p ++ q) t := by
  rw [Bool.eq_iff_iff, mt_app]
  unfold exT
  simp only [List.any_eq_true, List.mem_range, Bool.and_eq_true]
  constructor
  · rintro ⟨k, hk, h1, h2⟩; exact ⟨k, by omega, h1, h2⟩
  · rintro ⟨k, hk, h1, h2⟩; exact ⟨k, by omega, h1, h2⟩

theorem front_list (t : ByteArray) (i : Nat) : (t.extract 0 i).data.toList = t.data.toList.take i := by
  simp only [ByteArray.data_extract, Array.toList_extract, List.extract]; simp
theorem back_list (t : ByteArray) (i : Nat) : (t.extract i t.size).data.toList = t.data.toList.drop i := by
  simp only [ByteArray.data_extract, Array.toList_extract, List.extract]
  exact List.take_of_length_le (by simp)

set_option maxHeartbeats 1000000 in
theorem split_big (p q t : ByteArray) (fo : Bool) (w : World) (hp : p.size ≤ maxLen) (hq : q.size ≤ maxLen) (ht : t.size ≤ maxLen) (g : 60 < p.size ∨ (p.size ≤ 60 ∧ 60 < q.size) ∨ (p.size ≤ 60 ∧ q.size ≤ 60 ∧ 60 < t.size)) :
    Calls Tryd.prog 7 #[.string p, .string q, .string t, .bool fo] w (RetQ true w) := by
  have cL := Lib.hid (fun w => lives_any w)
  unfold maxLen at hp hq ht
  rcases g with g | ⟨g, g'⟩ | ⟨g, g', g''⟩
  all_goals
    go_enter Tryd.func7, Tryd.ntmps7
    go_wp2_with fail
    refine (cL.out _).mono ?_
    rintro e w2 ⟨rfl, h⟩
    go_wp2
    go_ret
    exact RetQ.of rfl h

set_option maxHeartbeats 1000000 in
theorem split_small (p q t : ByteArray) (fo : Bool) (w : World) (hp : p.size ≤ 60) (hq : q.size ≤ 60) (ht : t.size ≤ 60) :
    Calls Tryd.prog 7 #[.string p, .string q, .string t, .bool fo] w (RetQ true w) := by
  have cL := Lib.hid (fun w => lives_any w)
  have cF : Hid (∀ (i : Nat) (w1 : World), i ≤ t.size → Calls Tryd.prog 13 #[.string p, .string (t.extract 0 i), .bool fo] w1 (RetQ (mt (eqB fo) p.data.toList (t.data.toList.take i)) w1)) := Lib.hid (fun i w1 hi => by
    have h := match_any p (t.extract 0 i) fo w1 (by omega) (by simp; omega)
    rw [front_list] at h
    exact h)
  have cB : Hid (∀ (i : Nat) (w1 : World), i ≤ t.size → Calls Tryd.prog 13 #[.string q, .string (t.extract i t.size), .bool fo] w1 (RetQ (mt (eqB fo) q.data.toList (t.data.toList.drop i)) w1)) := Lib.hid (fun i w1 hi => by
    have h := match_any q (t.extract i t.size) fo w1 (by omega) (by simp; omega)
    rw [back_list] at h
    exact h)
  have cJ : Hid (∀ w1 : World, Calls Tryd.prog 13 #[.string (p ++ q), .string t, .bool fo] w1 (RetQ (mt (eqB fo) (p.data.toList ++ q.data.toList) t.data.toList) w1)) := Lib.hid (fun w1 => by
    have h := match_any (p ++ q) t fo w1 (by simp; omega) (by omega)
    have e : (p ++ q).data.toList = p.data.toList ++ q.data.toList := by simp
    rw [e] at h
    exact h)
  have hl : t.data.toList.length = t.size := by simp
  have HS := Lib.hid (fun k => exT_succ (eqB fo) p.data.toList q.data.toList t.data.toList k)
  have H0 := Lib.hid (exT_zero (eqB fo) p.data.toList q.data.toList t.data.toList)
  have HE := Lib.hid (exT_all (eqB fo) p.data.toList q.data.toList t.data.toList)
  rw [hl] at HE
  generalize p.data.toList = pl at *
  generalize q.data.toList = ql at *
  generalize t.data.toList = tl at *
  clear hl
  go_enter Tryd.func7, Tryd.ntmps7
  go_wp2_with fail
  refine (cL.out _).mono ?_
  rintro e w2 ⟨rfl, h⟩
  have K2 := Lib.hid h
  clear h
  go_wp2
  go_loopw [9, 10] (fun s i wr => ∃ k : Nat, k ≤ t.size + 1 ∧ i = .int .i64 k ∧ s = .bool (exT (eqB fo) pl ql tl k) ∧ Keeps w wr) (fun _ i _ => t.size + 1 - (intOf i).toNat)
  case atStart => exact ⟨0, Nat.zero_le _, rfl, by rw [H0.out], K2.out⟩
  case round =>
    obtain ⟨k, hk, rfl, rfl, hkp⟩ := hrel
    have HK := Lib.hid hkp
    clear hkp
    by_cases hkt : k ≤ t.size
    · have HSK := Lib.hid (HS.out k)
      have cF1 := Lib.hid (fun w1 => cF.out k w1 hkt)
      have cB1 := Lib.hid (fun w1 => cB.out k w1 hkt)
      generalize exT (eqB fo) pl ql tl k = b0 at HSK
      generalize mt (eqB fo) pl (tl.take k) = b1 at cF1 HSK
      generalize mt (eqB fo) ql (tl.drop k) = b2 at cB1 HSK
      cases b0
      · cases b1
        · go_wp2_with fail
          refine (cF1.out _).mono ?_
          rintro e w3 ⟨rfl, h3⟩
          have k3 := Keeps.trans HK.out h3
          clear h3
          go_wp2
          go_roundw
          case rel => exact ⟨k + 1, by omega, by go_num, by rw [HSK.out]; simp, k3⟩
          case measure => simp [intOf]; omega
        · go_wp2_with fail
          refine (cF1.out _).mono ?_
          rintro e w3 ⟨rfl, h3⟩
          have K3 := Lib.hid (Keeps.trans HK.out h3)
          clear h3
          go_wp2_with fail
          refine (cB1.out _).mono ?_
          rintro e w4 ⟨rfl, h4⟩
          have k4 := Keeps.trans K3.out h4
          clear h4
          go_wp2
          go_roundw
          case rel => exact ⟨k + 1, by omega, by go_num, by rw [HSK.out]; simp, k4⟩
          case measure => simp [intOf]; omega
      · go_wp2
        go_roundw
        case rel => exact ⟨k + 1, by omega, by go_num, by rw [HSK.out]; simp, HK.out⟩
        case measure => simp [intOf]; omega
    · obtain rfl : k = t.size + 1 := by omega
      rw [HE.out]
      generalize mt (eqB fo) (pl ++ ql) tl = b at cJ
      go_wp2_with fail
      refine (cJ.out _).mono ?_
      rintro e w3 ⟨rfl, h3⟩
      have k3 := Keeps.trans HK.out h3
      clear h3
      go_wp2
      go_ret
      exact RetQ.of (by simp) k3
end Go.Proofs.YtolfpkjohlbfdaaDoor
