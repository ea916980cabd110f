/-
  The contracts of the small functions of package scan: blanks, digits, hexadecimal digits.
-/
import Derived.Test.YtljkeladdplhlaaDoorPur
import Derived.Test.YtljkeladdplhlaaDoorShelf
namespace Go.Proofs.YtljkeladdplhlaaDoor
open Go.RowKit

/-- A call that answers v, the world as it was. -/
def Same (v : Value) (w : World) (e : Ending) (w' : World) : Prop := e = .returned v ∧ w' = w

set_option maxHeartbeats 1000000 in
theorem blank_any (c : UInt8) (w : World) : Calls Tryd.prog 46 #[.int .u8 (c.toNat : Int)] w (fun e w' => e = .returned (.bool (blankB c)) ∧ w' = w) := by
  have hc := c.toNat_lt
  by_cases h1 : c.toNat = 32
  · rw [show blankB c = true by simp [blankB, h1], h1]
    go_enter Tryd.func46, Tryd.ntmps46
    go_wp2
    go_ret
    exact ⟨rfl, rfl⟩
  · by_cases h2 : c.toNat = 9
    · rw [show blankB c = true by simp [blankB, h2], h2]
      go_enter Tryd.func46, Tryd.ntmps46
      go_wp2
      go_ret
      exact ⟨rfl, rfl⟩
    · by_cases h3 : c.toNat = 10
      · rw [show blankB c = true by simp [blankB, h3], h3]
        go_enter Tryd.func46, Tryd.ntmps46
        go_wp2
        go_ret
        exact ⟨rfl, rfl⟩
      · by_cases h4 : c.toNat = 13
        · rw [show blankB c = true by simp [blankB, h4], h4]
          go_enter Tryd.func46, Tryd.ntmps46
          go_wp2
          go_ret
          exact ⟨rfl, rfl⟩
        · rw [show blankB c = false by simp [blankB, h1, h2, h3, h4]]
          have f1 : ((c.toNat : Int) == 32) = false := by simp; omega
          have f2 : ((c.toNat : Int) == 9) = false := by simp; omega
          have f3 : ((c.toNat : Int) == 10) = false := by simp; omega
          have f4 : ((c.toNat : Int) == 13) = false := by simp; omega
          clear h1 h2 h3 h4
          go_enter Tryd.func46, Tryd.ntmps46
          go_wp2
          go_ret
          exact ⟨rfl, rfl⟩

set_option maxHeartbeats 1000000 in
theorem digit_any (c : UInt8) (w : World) : Calls Tryd.prog 86 #[.int .u8 (c.toNat : Int)] w (fun e w' => e = .returned (.bool (digB c)) ∧ w' = w) := by
  have hc := c.toNat_lt
  by_cases h1 : 48 ≤ c.toNat
  · by_cases h2 : c.toNat ≤ 57
    · rw [show digB c = true by simp [digB, h1, h2]]
      go_enter Tryd.func86, Tryd.ntmps86
      go_wp2
      go_ret
      exact ⟨by first | rfl | (simp; done) | (simp; omega), rfl⟩
    · rw [show digB c = false by simp [digB]; omega]
      have f2 : decide ((c.toNat : Int) ≤ 57) = false := by simp; omega
      go_enter Tryd.func86, Tryd.ntmps86
      go_wp2
      go_ret
      exact ⟨by first | rfl | (simp; done) | (simp; omega), rfl⟩
  · rw [show digB c = false by simp [digB]; omega]
    have f1 : decide ((48 : Int) ≤ (c.toNat : Int)) = false := by simp; omega
    go_enter Tryd.func86, Tryd.ntmps86
    go_wp2
    go_ret
    exact ⟨rfl, rfl⟩

theorem hexV_le (c : UInt8) : hexV c ≤ 15 := by
  unfold hexV
  repeat' split
  all_goals omega

theorem ret_i {k : IntKind} {x y : Int} (h : x = y) : Ending.returned (.int k x) = .returned (.int k y) := by rw [h]
theorem ret_pair {x y : Int} {a b : Bool} (h : x = y) (h' : a = b) : Ending.returned (.tuple #[.int .i32 x, .bool a]) = .returned (.tuple #[.int .i32 y, .bool b]) := by rw [h, h']

set_option maxHeartbeats 1000000 in
theorem hexdig_any (c : UInt8) (w : World) : Calls Tryd.prog 104 #[.int .u8 (c.toNat : Int)] w (fun e w' => e = .returned (.tuple #[.int .i32 (hexV c : Int), .bool (hexB c)]) ∧ w' = w) := by
  have hc := c.toNat_lt
  have cD := Lib.hid (fun w1 => digit_any c w1)
  by_cases h1 : 48 ≤ c.toNat ∧ c.toNat ≤ 57
  · have hB : hexB c = true := by simp [hexB, h1]
    have hV : hexV c = c.toNat - 48 := by simp only [hexV, if_pos h1]
    rw [hB, hV]
    rw [show digB c = true by simp [digB, h1]] at cD
    obtain ⟨a, b⟩ := h1
    clear hB hV
    go_enter Tryd.func104, Tryd.ntmps104
    go_wp2_with fail
    refine (cD.out _).mono ?_
    rintro e w2 ⟨rfl, rfl⟩
    go_wp2
    go_ret2
    exact ⟨ret_pair (by omega) rfl, rfl⟩
  · rw [show digB c = false by simp only [digB]; exact decide_eq_false h1] at cD
    by_cases h2 : 97 ≤ c.toNat ∧ c.toNat ≤ 102
    · have hB : hexB c = true := by simp [hexB, h2]
      have hV : hexV c = c.toNat - 87 := by simp only [hexV, if_neg h1, if_pos h2]
      rw [hB, hV]
      obtain ⟨a, b⟩ := h2
      have f1 : decide ((97 : Int) ≤ (c.toNat : Int)) = true := by simp; omega
      have f2 : decide ((c.toNat : Int) ≤ 102) = true := by simp; omega
      clear hB hV h1
      go_enter Tryd.func104, Tryd.ntmps104
      go_wp2_with fail
      refine (cD.out _).mono ?_
      rintro e w2 ⟨rfl, rfl⟩
      go_wp2
      go_ret2
      exact ⟨ret_pair (by omega) rfl, rfl⟩
    · by_cases h3 : 65 ≤ c.toNat ∧ c.toNat ≤ 70
      · have hB : hexB c = true := by simp [hexB, h3]
        have hV : hexV c = c.toNat - 55 := by simp only [hexV, if_neg h1, if_neg h2, if_pos h3]
        rw [hB, hV]
        obtain ⟨a, b⟩ := h3
        have f1 : decide ((97 : Int) ≤ (c.toNat : Int)) = false := by simp; omega
        have f2 : decide ((65 : Int) ≤ (c.toNat : Int)) = true := by simp; omega
        have f3 : decide ((c.toNat : Int) ≤ 70) = true := by simp; omega
        clear hB hV h1 h2
        go_enter Tryd.func104, Tryd.ntmps104
        go_wp2_with fail
        refine (cD.out _).mono ?_
        rintro e w2 ⟨rfl, rfl⟩
        go_wp2
        go_ret2
        exact ⟨ret_pair (by omega) rfl, rfl⟩
      · have hB : hexB c = false := by simp [hexB]; omega
        have hV : hexV c = 0 := by simp only [hexV, if_neg h1, if_neg h2, if_neg h3]
        rw [hB, hV]
        clear hB hV
        by_cases g1 : 97 ≤ c.toNat
        · have f1 : decide ((97 : Int) ≤ (c.toNat : Int)) = true := by simp; omega
          have f2 : decide ((c.toNat : Int) ≤ 102) = false := by simp; omega
          have f3 : decide ((65 : Int) ≤ (c.toNat : Int)) = true := by simp; omega
          have f4 : decide ((c.toNat : Int) ≤ 70) = false := by simp; omega
          clear h1 h2 h3 g1
          go_enter Tryd.func104, Tryd.ntmps104
          go_wp2_with fail
          refine (cD.out _).mono ?_
          rintro e w2 ⟨rfl, rfl⟩
          go_wp2
          go_ret2
          exact ⟨rfl, rfl⟩
        · by_cases g2 : 65 ≤ c.toNat
          · have f1 : decide ((97 : Int) ≤ (c.toNat : Int)) = false := by simp; omega
            have f3 : decide ((65 : Int) ≤ (c.toNat : Int)) = true := by simp; omega
            have f4 : decide ((c.toNat : Int) ≤ 70) = false := by simp; omega
            clear h1 h2 h3 g1 g2
            go_enter Tryd.func104, Tryd.ntmps104
            go_wp2_with fail
            refine (cD.out _).mono ?_
            rintro e w2 ⟨rfl, rfl⟩
            go_wp2
            go_ret2
            exact ⟨rfl, rfl⟩
          · have f1 : decide ((97 : Int) ≤ (c.toNat : Int)) = false := by simp; omega
            have f3 : decide ((65 : Int) ≤ (c.toNat : Int)) = false := by simp; omega
            clear h1 h2 h3 g1 g2
            go_enter Tryd.func104, Tryd.ntmps104
            go_wp2_with fail
            refine (cD.out _).mono ?_
            rintro e w2 ⟨rfl, rfl⟩
            go_wp2
            go_ret2
            exact ⟨rfl, rfl⟩

set_option maxHeartbeats 1000000 in
theorem replacement_any (s : ByteArray) (w : World) : Calls Tryd.prog 75 #[.string s] w (fun e w' => e = .returned (.bool (Lib.hasPrefix s.data.toList [239, 191, 189])) ∧ w' = w) := by
  have cH := Lib.hid (fun w1 => Tryd.strings_HasPrefix s ⟨#[239, 191, 189]⟩ w1)
  go_enter Tryd.func75, Tryd.ntmps75
  go_wp2_with fail
  refine (cH.out _).mono ?_
  rintro e w2 ⟨rfl, rfl⟩
  go_wp2
  go_ret
  exact ⟨rfl, rfl⟩

theorem getD_at (s : ByteArray) (k : Nat) (hk : k < s.size) : s.data.toList.getD k 0 = s[k]'hk := by
  rw [List.getD_eq_getElem?_getD, List.getElem?_eq_getElem (by simpa using hk)]; rfl
theorem drop_at (s : ByteArray) (k : Nat) (hk : k < s.size) : s.data.toList.drop k = s[k]'hk :: s.data.toList.drop (k + 1) := by
  rw [List.drop_eq_getElem_cons (by simpa using hk)]; rfl

set_option maxHeartbeats 1000000 in
theorem space_any (s : ByteArray) (w : World) (hs : s.size ≤ 1000000) : Calls Tryd.prog 29 #[.string s] w (fun e w' => e = .returned (.int .i64 (spaceL s.data.toList : Int)) ∧ w' = w) := by
  have cB := Lib.hid (fun c w1 => blank_any c w1)
  have HA := Lib.hid (fun k (hk : k < s.size) => drop_at s k hk)
  have hl : s.data.toList.length = s.size := by simp
  have HE : Hid (s.data.toList.drop s.size = []) := Lib.hid (by rw [← hl]; exact List.drop_length)
  have H0 : Hid (0 + spaceL (s.data.toList.drop 0) = spaceL s.data.toList) := Lib.hid (by simp)
  generalize spaceL s.data.toList = n at *
  generalize s.data.toList = l at *
  clear hl
  go_enter Tryd.func29, Tryd.ntmps29
  go_wp2
  go_loop [3, 6] (fun _ i => ∃ k : Nat, k ≤ s.size ∧ i = .int .i64 (k : Int) ∧ Hid (k + spaceL (l.drop k) = n)) (fun _ i => s.size - (intOf i).toNat)
  case atStart => exact ⟨0, Nat.zero_le _, rfl, H0⟩
  case round =>
    obtain ⟨k, hk, rfl, hn⟩ := hrel
    by_cases hlt : k < s.size
    · have hA := HA.out k hlt
      have hx := hn.out
      rw [hA] at hx
      cases hb : blankB (s[k]'hlt)
      · have hy := Lib.hid (show k = n by simpa [spaceL, List.takeWhile_cons, hb] using hx)
        have cB1 : Hid (∀ w1 : World, Calls Tryd.prog 46 #[.int .u8 ((s[k]'hlt).toNat : Int)] w1 (fun e w' => e = .returned (.bool false) ∧ w' = w1)) := Lib.hid (fun w1 => by have := cB.out (s[k]'hlt) w1; rwa [hb] at this)
        clear hx hA hb
        go_wp2_with fail
        refine (cB1.out _).mono ?_
        rintro e w2 ⟨rfl, rfl⟩
        go_wp2
        go_ret
        exact ⟨ret_i (by rw [hy.out]), rfl⟩
      · have hy := Lib.hid (show (k + 1) + spaceL (l.drop (k + 1)) = n by
          rw [← hx]; simp [spaceL, List.takeWhile_cons, hb]; omega)
        have cB1 : Hid (∀ w1 : World, Calls Tryd.prog 46 #[.int .u8 ((s[k]'hlt).toNat : Int)] w1 (fun e w' => e = .returned (.bool true) ∧ w' = w1)) := Lib.hid (fun w1 => by have := cB.out (s[k]'hlt) w1; rwa [hb] at this)
        clear hx hA hb
        go_wp2_with fail
        refine (cB1.out _).mono ?_
        rintro e w2 ⟨rfl, rfl⟩
        go_wp2
        go_round
        case rel => exact ⟨k + 1, by omega, by go_num, hy⟩
        case measure => simp [intOf]; omega
    · obtain rfl : k = s.size := by omega
      have hx := hn.out
      rw [HE.out] at hx
      have hy := Lib.hid (show s.size = n by simpa [spaceL] using hx)
      clear hx
      go_wp2
      go_ret
      exact ⟨ret_i (by rw [← hy.out]), rfl⟩
end Go.Proofs.YtljkeladdplhlaaDoor
