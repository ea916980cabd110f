/-
  The document's own small functions of package scan: digit, short, hex, wide, four, second.
-/
import Derived.Test.YtbhgfdgdbbfeoaaDoorLEsc
namespace Go.Proofs.YtbhgfdgdbbfeoaaDoor
open Go.RowKit

set_option maxHeartbeats 1000000 in
theorem rdigit_any (c : UInt8) (w : World) : Calls Tryd.prog 38 #[.int .u8 (c.toNat : Int)] w (fun e w' => e = .returned (.bool (digB c)) ∧ w' = w) := by
  have hc := c.toNat_lt
  by_cases h1 : 48 ≤ c.toNat
  · by_cases h2 : c.toNat ≤ 57
    · rw [show digB c = true by simp [digB, h1, h2]]
      go_enter Tryd.func38, Tryd.ntmps38
      go_wp2
      go_ret
      exact ⟨by first | rfl | (simp; done) | (simp; omega), rfl⟩
    · rw [show digB c = false by simp [digB]; omega]
      have f2 : decide ((c.toNat : Int) ≤ 57) = false := by simp; omega
      go_enter Tryd.func38, Tryd.ntmps38
      go_wp2
      go_ret
      exact ⟨by first | rfl | (simp; done) | (simp; omega), rfl⟩
  · rw [show digB c = false by simp [digB]; omega]
    have f1 : decide ((48 : Int) ≤ (c.toNat : Int)) = false := by simp; omega
    go_enter Tryd.func38, Tryd.ntmps38
    go_wp2
    go_ret
    exact ⟨rfl, rfl⟩

set_option maxHeartbeats 2000000 in
theorem short_any (c : UInt8) (w : World) : Calls Tryd.prog 47 #[.int .u8 (c.toNat : Int)] w (fun e w' => e = .returned (.tuple #[.int .u8 ((escV c).toNat : Int), .bool (escB c)]) ∧ w' = w) := by
  have hc := c.toNat_lt
  have go : ∀ (n m : Nat) (b : Bool), c.toNat = n → (escV c).toNat = m → escB c = b → Calls Tryd.prog 47 #[.int .u8 (n : Int)] w (fun e w' => e = .returned (.tuple #[.int .u8 (m : Int), .bool b]) ∧ w' = w) → Calls Tryd.prog 47 #[.int .u8 (c.toNat : Int)] w (fun e w' => e = .returned (.tuple #[.int .u8 ((escV c).toNat : Int), .bool (escB c)]) ∧ w' = w) := by
    intro n m b h1 h2 h3 h; rw [h1, h2, h3]; exact h
  by_cases h1 : c.toNat = 34
  · refine go 34 34 true h1 (by simp [escV, escB, h1]) (by simp [escB, h1]) ?_
    go_enter Tryd.func47, Tryd.ntmps47
    go_wp2
    go_ret2
    exact ⟨rfl, rfl⟩
  by_cases h2 : c.toNat = 92
  · refine go 92 92 true h2 (by simp [escV, escB, h2]) (by simp [escB, h2]) ?_
    go_enter Tryd.func47, Tryd.ntmps47
    go_wp2
    go_ret2
    exact ⟨rfl, rfl⟩
  by_cases h3 : c.toNat = 47
  · refine go 47 47 true h3 (by simp [escV, escB, h3]) (by simp [escB, h3]) ?_
    go_enter Tryd.func47, Tryd.ntmps47
    go_wp2
    go_ret2
    exact ⟨rfl, rfl⟩
  by_cases h4 : c.toNat = 98
  · refine go 98 8 true h4 (by simp [escV, escB, h4]) (by simp [escB, h4]) ?_
    go_enter Tryd.func47, Tryd.ntmps47
    go_wp2
    go_ret2
    exact ⟨rfl, rfl⟩
  by_cases h5 : c.toNat = 102
  · refine go 102 12 true h5 (by simp [escV, escB, h5]) (by simp [escB, h5]) ?_
    go_enter Tryd.func47, Tryd.ntmps47
    go_wp2
    go_ret2
    exact ⟨rfl, rfl⟩
  by_cases h6 : c.toNat = 110
  · refine go 110 10 true h6 (by simp [escV, escB, h6]) (by simp [escB, h6]) ?_
    go_enter Tryd.func47, Tryd.ntmps47
    go_wp2
    go_ret2
    exact ⟨rfl, rfl⟩
  by_cases h7 : c.toNat = 114
  · refine go 114 13 true h7 (by simp [escV, escB, h7]) (by simp [escB, h7]) ?_
    go_enter Tryd.func47, Tryd.ntmps47
    go_wp2
    go_ret2
    exact ⟨rfl, rfl⟩
  by_cases h8 : c.toNat = 116
  · refine go 116 9 true h8 (by simp [escV, escB, h8]) (by simp [escB, h8]) ?_
    go_enter Tryd.func47, Tryd.ntmps47
    go_wp2
    go_ret2
    exact ⟨rfl, rfl⟩
  have hb : escB c = false := by simp [escB, h1, h2, h3, h4, h5, h6, h7, h8]
  refine go c.toNat 0 false rfl (by simp [escV, hb, h4, h5, h6, h7, h8]) hb ?_
  have f1 : ((c.toNat : Int) == 34) = false := by simp; omega
  have f2 : ((c.toNat : Int) == 92) = false := by simp; omega
  have f3 : ((c.toNat : Int) == 47) = false := by simp; omega
  have f4 : ((c.toNat : Int) == 98) = false := by simp; omega
  have f5 : ((c.toNat : Int) == 102) = false := by simp; omega
  have f6 : ((c.toNat : Int) == 110) = false := by simp; omega
  have f7 : ((c.toNat : Int) == 114) = false := by simp; omega
  have f8 : ((c.toNat : Int) == 116) = false := by simp; omega
  clear go h1 h2 h3 h4 h5 h6 h7 h8 hb
  go_enter Tryd.func47, Tryd.ntmps47
  go_wp2
  go_ret2
  exact ⟨rfl, rfl⟩

/-- A digit to the base 16; -1. -/
def hexI (c : UInt8) : Int := if hexB c = true then (hexV c : Int) else -1
set_option maxHeartbeats 1000000 in
theorem rhex_d (c : UInt8) (w : World) (h : 48 ≤ c.toNat ∧ c.toNat ≤ 57) : Calls Tryd.prog 58 #[.int .u8 (c.toNat : Int)] w (fun e w' => e = .returned (.int .i64 ((c.toNat : Int) - 48)) ∧ w' = w) := by
  obtain ⟨a, b⟩ := h
  have f0 : decide ((48 : Int) ≤ (c.toNat : Int)) = true := by simp; omega
  have f1 : decide ((c.toNat : Int) ≤ 57) = true := by simp; omega
  go_enter Tryd.func58, Tryd.ntmps58
  go_wp2
  go_ret
  exact ⟨ret_i (by omega), rfl⟩
set_option maxHeartbeats 1000000 in
theorem rhex_l (c : UInt8) (w : World) (h : 97 ≤ c.toNat ∧ c.toNat ≤ 102) : Calls Tryd.prog 58 #[.int .u8 (c.toNat : Int)] w (fun e w' => e = .returned (.int .i64 ((c.toNat : Int) - 87)) ∧ w' = w) := by
  obtain ⟨a, b⟩ := h
  have f0 : decide ((48 : Int) ≤ (c.toNat : Int)) = true := by simp; omega
  have f1 : decide ((c.toNat : Int) ≤ 57) = false := by simp; omega
  have f2 : decide ((97 : Int) ≤ (c.toNat : Int)) = true := by simp; omega
  have f3 : decide ((c.toNat : Int) ≤ 102) = true := by simp; omega
  go_enter Tryd.func58, Tryd.ntmps58
  go_wp2
  go_ret
  exact ⟨ret_i (by omega), rfl⟩
set_option maxHeartbeats 1000000 in
theorem rhex_u (c : UInt8) (w : World) (h : 65 ≤ c.toNat ∧ c.toNat ≤ 70) : Calls Tryd.prog 58 #[.int .u8 (c.toNat : Int)] w (fun e w' => e = .returned (.int .i64 ((c.toNat : Int) - 55)) ∧ w' = w) := by
  obtain ⟨a, b⟩ := h
  have f0 : decide ((48 : Int) ≤ (c.toNat : Int)) = true := by simp; omega
  have f1 : decide ((c.toNat : Int) ≤ 57) = false := by simp; omega
  have f2 : decide ((97 : Int) ≤ (c.toNat : Int)) = false := by simp; omega
  have f3 : decide ((65 : Int) ≤ (c.toNat : Int)) = true := by simp; omega
  have f4 : decide ((c.toNat : Int) ≤ 70) = true := by simp; omega
  go_enter Tryd.func58, Tryd.ntmps58
  go_wp2
  go_ret
  exact ⟨ret_i (by omega), rfl⟩
set_option maxHeartbeats 1000000 in
theorem rhex_n0 (c : UInt8) (w : World) (h : c.toNat < 48) : Calls Tryd.prog 58 #[.int .u8 (c.toNat : Int)] w (fun e w' => e = .returned (.int .i64 (-1)) ∧ w' = w) := by
  have f0 : decide ((48 : Int) ≤ (c.toNat : Int)) = false := by simp; omega
  have f1 : decide ((97 : Int) ≤ (c.toNat : Int)) = false := by simp; omega
  have f2 : decide ((65 : Int) ≤ (c.toNat : Int)) = false := by simp; omega
  clear h
  go_enter Tryd.func58, Tryd.ntmps58
  go_wp2
  go_ret
  exact ⟨rfl, rfl⟩
set_option maxHeartbeats 1000000 in
theorem rhex_n1 (c : UInt8) (w : World) (h : 57 < c.toNat ∧ c.toNat < 65) : Calls Tryd.prog 58 #[.int .u8 (c.toNat : Int)] w (fun e w' => e = .returned (.int .i64 (-1)) ∧ w' = w) := by
  have f0 : decide ((48 : Int) ≤ (c.toNat : Int)) = true := by simp; omega
  have f1 : decide ((c.toNat : Int) ≤ 57) = false := by simp; omega
  have f2 : decide ((97 : Int) ≤ (c.toNat : Int)) = false := by simp; omega
  have f3 : decide ((65 : Int) ≤ (c.toNat : Int)) = false := by simp; omega
  clear h
  go_enter Tryd.func58, Tryd.ntmps58
  go_wp2
  go_ret
  exact ⟨rfl, rfl⟩
set_option maxHeartbeats 1000000 in
theorem rhex_n2 (c : UInt8) (w : World) (h : 70 < c.toNat ∧ c.toNat < 97) : Calls Tryd.prog 58 #[.int .u8 (c.toNat : Int)] w (fun e w' => e = .returned (.int .i64 (-1)) ∧ w' = w) := by
  have f0 : decide ((48 : Int) ≤ (c.toNat : Int)) = true := by simp; omega
  have f1 : decide ((c.toNat : Int) ≤ 57) = false := by simp; omega
  have f2 : decide ((97 : Int) ≤ (c.toNat : Int)) = false := by simp; omega
  have f3 : decide ((65 : Int) ≤ (c.toNat : Int)) = true := by simp; omega
  have f4 : decide ((c.toNat : Int) ≤ 70) = false := by simp; omega
  clear h
  go_enter Tryd.func58, Tryd.ntmps58
  go_wp2
  go_ret
  exact ⟨rfl, rfl⟩
set_option maxHeartbeats 1000000 in
theorem rhex_n3 (c : UInt8) (w : World) (h : 102 < c.toNat) : Calls Tryd.prog 58 #[.int .u8 (c.toNat : Int)] w (fun e w' => e = .returned (.int .i64 (-1)) ∧ w' = w) := by
  have f0 : decide ((48 : Int) ≤ (c.toNat : Int)) = true := by simp; omega
  have f1 : decide ((c.toNat : Int) ≤ 57) = false := by simp; omega
  have f2 : decide ((97 : Int) ≤ (c.toNat : Int)) = true := by simp; omega
  have f3 : decide ((c.toNat : Int) ≤ 102) = false := by simp; omega
  have f4 : decide ((65 : Int) ≤ (c.toNat : Int)) = true := by simp; omega
  have f5 : decide ((c.toNat : Int) ≤ 70) = false := by simp; omega
  clear h
  go_enter Tryd.func58, Tryd.ntmps58
  go_wp2
  go_ret
  exact ⟨rfl, rfl⟩
theorem rhex_any (c : UInt8) (w : World) : Calls Tryd.prog 58 #[.int .u8 (c.toNat : Int)] w (fun e w' => e = .returned (.int .i64 (hexI c)) ∧ w' = w) := by
  unfold hexI hexB hexV
  by_cases h1 : 48 ≤ c.toNat ∧ c.toNat ≤ 57
  · rw [if_pos (by simp [h1]), if_pos h1, show ((c.toNat - 48 : Nat) : Int) = (c.toNat : Int) - 48 by omega]; exact rhex_d c w h1
  by_cases h2 : 97 ≤ c.toNat ∧ c.toNat ≤ 102
  · rw [if_pos (by simp [h2]), if_neg h1, if_pos h2, show ((c.toNat - 87 : Nat) : Int) = (c.toNat : Int) - 87 by omega]; exact rhex_l c w h2
  by_cases h3 : 65 ≤ c.toNat ∧ c.toNat ≤ 70
  · rw [if_pos (by simp [h3]), if_neg h1, if_neg h2, if_pos h3, show ((c.toNat - 55 : Nat) : Int) = (c.toNat : Int) - 55 by omega]; exact rhex_u c w h3
  rw [if_neg (by simp; omega)]
  by_cases g0 : c.toNat < 48
  · exact rhex_n0 c w g0
  by_cases g1 : c.toNat < 65
  · exact rhex_n1 c w (by omega)
  by_cases g2 : c.toNat < 97
  · exact rhex_n2 c w (by omega)
  · exact rhex_n3 c w (by omega)

/-- How many bytes a code point has by its first one; 0: none begins so. -/
def widN (c : UInt8) : Nat := if c.toNat < 128 then 1 else if c.toNat < 192 then 0 else if c.toNat < 224 then 2 else if c.toNat < 240 then 3 else if c.toNat < 248 then 4 else 0
set_option maxHeartbeats 1000000 in
theorem wide_0 (c : UInt8) (w : World) (h : c.toNat < 128) : Calls Tryd.prog 51 #[.int .u8 (c.toNat : Int)] w (fun e w' => e = .returned (.int .i64 1) ∧ w' = w) := by
  have f0 : decide ((c.toNat : Int) < 128) = true := by simp; omega
  clear h
  go_enter Tryd.func51, Tryd.ntmps51
  go_wp2
  go_ret
  exact ⟨rfl, rfl⟩
set_option maxHeartbeats 1000000 in
theorem wide_1 (c : UInt8) (w : World) (h : 128 ≤ c.toNat ∧ c.toNat < 192) : Calls Tryd.prog 51 #[.int .u8 (c.toNat : Int)] w (fun e w' => e = .returned (.int .i64 0) ∧ w' = w) := by
  have f0 : decide ((c.toNat : Int) < 128) = false := by simp; omega
  have f1 : decide ((192 : Int) ≤ (c.toNat : Int)) = false := by simp; omega
  have f2 : decide ((224 : Int) ≤ (c.toNat : Int)) = false := by simp; omega
  have f3 : decide ((240 : Int) ≤ (c.toNat : Int)) = false := by simp; omega
  clear h
  go_enter Tryd.func51, Tryd.ntmps51
  go_wp2
  go_ret
  exact ⟨rfl, rfl⟩
set_option maxHeartbeats 1000000 in
theorem wide_2 (c : UInt8) (w : World) (h : 192 ≤ c.toNat ∧ c.toNat < 224) : Calls Tryd.prog 51 #[.int .u8 (c.toNat : Int)] w (fun e w' => e = .returned (.int .i64 2) ∧ w' = w) := by
  have f0 : decide ((c.toNat : Int) < 128) = false := by simp; omega
  have f1 : decide ((192 : Int) ≤ (c.toNat : Int)) = true := by simp; omega
  have f2 : decide ((c.toNat : Int) < 224) = true := by simp; omega
  clear h
  go_enter Tryd.func51, Tryd.ntmps51
  go_wp2
  go_ret
  exact ⟨rfl, rfl⟩
set_option maxHeartbeats 1000000 in
theorem wide_3 (c : UInt8) (w : World) (h : 224 ≤ c.toNat ∧ c.toNat < 240) : Calls Tryd.prog 51 #[.int .u8 (c.toNat : Int)] w (fun e w' => e = .returned (.int .i64 3) ∧ w' = w) := by
  have f0 : decide ((c.toNat : Int) < 128) = false := by simp; omega
  have f1 : decide ((192 : Int) ≤ (c.toNat : Int)) = true := by simp; omega
  have f2 : decide ((c.toNat : Int) < 224) = false := by simp; omega
  have f3 : decide ((224 : Int) ≤ (c.toNat : Int)) = true := by simp; omega
  have f4 : decide ((c.toNat : Int) < 240) = true := by simp; omega
  clear h
  go_enter Tryd.func51, Tryd.ntmps51
  go_wp2
  go_ret
  exact ⟨rfl, rfl⟩
set_option maxHeartbeats 1000000 in
theorem wide_4 (c : UInt8) (w : World) (h : 240 ≤ c.toNat ∧ c.toNat < 248) : Calls Tryd.prog 51 #[.int .u8 (c.toNat : Int)] w (fun e w' => e = .returned (.int .i64 4) ∧ w' = w) := by
  have f0 : decide ((c.toNat : Int) < 128) = false := by simp; omega
  have f1 : decide ((192 : Int) ≤ (c.toNat : Int)) = true := by simp; omega
  have f2 : decide ((c.toNat : Int) < 224) = false := by simp; omega
  have f3 : decide ((224 : Int) ≤ (c.toNat : Int)) = true := by simp; omega
  have f4 : decide ((c.toNat : Int) < 240) = false := by simp; omega
  have f5 : decide ((240 : Int) ≤ (c.toNat : Int)) = true := by simp; omega
  have f6 : decide ((c.toNat : Int) < 248) = true := by simp; omega
  clear h
  go_enter Tryd.func51, Tryd.ntmps51
  go_wp2
  go_ret
  exact ⟨rfl, rfl⟩
set_option maxHeartbeats 1000000 in
theorem wide_5 (c : UInt8) (w : World) (h : 248 ≤ c.toNat) : Calls Tryd.prog 51 #[.int .u8 (c.toNat : Int)] w (fun e w' => e = .returned (.int .i64 0) ∧ w' = w) := by
  have f0 : decide ((c.toNat : Int) < 128) = false := by simp; omega
  have f1 : decide ((192 : Int) ≤ (c.toNat : Int)) = true := by simp; omega
  have f2 : decide ((c.toNat : Int) < 224) = false := by simp; omega
  have f3 : decide ((224 : Int) ≤ (c.toNat : Int)) = true := by simp; omega
  have f4 : decide ((c.toNat : Int) < 240) = false := by simp; omega
  have f5 : decide ((240 : Int) ≤ (c.toNat : Int)) = true := by simp; omega
  have f6 : decide ((c.toNat : Int) < 248) = false := by simp; omega
  clear h
  go_enter Tryd.func51, Tryd.ntmps51
  go_wp2
  go_ret
  exact ⟨rfl, rfl⟩
theorem wide_any (c : UInt8) (w : World) : Calls Tryd.prog 51 #[.int .u8 (c.toNat : Int)] w (fun e w' => e = .returned (.int .i64 (widN c : Int)) ∧ w' = w) := by
  unfold widN
  split
  · exact wide_0 c w (by omega)
  · split
    · exact wide_1 c w (by omega)
    · split
      · exact wide_2 c w (by omega)
      · split
        · exact wide_3 c w (by omega)
        · split
          · exact wide_4 c w (by omega)
          · exact wide_5 c w (by omega)

set_option maxHeartbeats 2000000 in
theorem four_any (s : ByteArray) (w : World) (hs : s.size ≤ 1000000) : Calls Tryd.prog 48 #[.string s] w (Ret2 .i64 (hex4 s.data.toList) w) := by
  have cX := Lib.hid (fun c w1 => rhex_any c w1)
  have hl : s.data.toList.length = s.size := by simp
  have HA := Lib.hid (fun k (hk : k < s.size) => drop_at s k hk)
  have HN : Hid (s.data.toList.drop s.size = []) := Lib.hid (by rw [← hl]; exact List.drop_length)
  have H0 : Hid (hexF 4 (s.data.toList.drop 0) 0 = hex4 s.data.toList) := Lib.hid rfl
  generalize hex4 s.data.toList = p at *
  generalize s.data.toList = l at *
  clear hl
  go_enter Tryd.func48, Tryd.ntmps48
  go_wp2
  go_loop [4, 5] (fun rv i => ∃ k r : Nat, k ≤ 4 ∧ k ≤ s.size ∧ i = .int .i64 (k : Int) ∧ rv = .int .i64 (r : Int) ∧ r < 16 ^ k ∧ Hid (hexF (4 - k) (l.drop k) r = p)) (fun _ i => 4 - (intOf i).toNat)
  case atStart => exact ⟨0, 0, by omega, by omega, rfl, rfl, by simp, H0⟩
  case round =>
    obtain ⟨k, r, hk, hks, rfl, rfl, hr, hn⟩ := hrel
    have hr' : r < 65536 := by
      have : (16 : Nat) ^ k ≤ 16 ^ 4 := Nat.pow_le_pow_right (by omega) hk
      omega
    have HR := Lib.hid hr
    clear hr
    by_cases h4 : k < 4
    · by_cases hlt : k < s.size
      · have hx := hn.out
        rw [HA.out k hlt, show 4 - k = (3 - k) + 1 by omega, hexF] at hx
        have hv := hexV_le (s[k]'hlt)
        have hr3 : r < 4096 := by
          have h1 := HR.out
          have : (16 : Nat) ^ k ≤ 16 ^ 3 := Nat.pow_le_pow_right (by omega) (by omega)
          omega
        have hp : r * 16 + hexV (s[k]'hlt) < 16 ^ (k + 1) := by
          have h1 := HR.out
          rw [Nat.pow_succ]
          omega
        have HP := Lib.hid hp
        clear hp
        cases hb : hexB (s[k]'hlt)
        · rw [hb, if_neg (by decide)] at hx
          have HX := Lib.hid hx
          have cX1 : Hid (∀ w1 : World, Calls Tryd.prog 58 #[.int .u8 ((s[k]'hlt).toNat : Int)] w1 (fun e w' => e = .returned (.int .i64 (-1)) ∧ w' = w1)) := Lib.hid (fun w1 => by have := cX.out (s[k]'hlt) w1; rwa [hexI, hb, if_neg (by decide)] at this)
          clear hx hb hn
          generalize hexV (s[k]'hlt) = v at *
          go_wp2_with fail
          refine (cX1.out _).mono ?_
          rintro e w2 ⟨rfl, rfl⟩
          go_wp2
          go_ret2
          exact Ret2.of (by rw [← HX.out]; rfl) (by rw [← HX.out]; rfl) (Keeps.refl _)
        · rw [hb, if_pos rfl] at hx
          have HX := Lib.hid hx
          have cX1 : Hid (∀ w1 : World, Calls Tryd.prog 58 #[.int .u8 ((s[k]'hlt).toNat : Int)] w1 (fun e w' => e = .returned (.int .i64 (hexV (s[k]'hlt) : Int)) ∧ w' = w1)) := Lib.hid (fun w1 => by have := cX.out (s[k]'hlt) w1; rwa [hexI, hb, if_pos rfl] at this)
          clear hx hb hn
          generalize hexV (s[k]'hlt) = v at *
          go_wp2_with fail
          refine (cX1.out _).mono ?_
          rintro e w2 ⟨rfl, rfl⟩
          go_wp2_with fail
          refine (cX1.out _).mono ?_
          rintro e w2 ⟨rfl, rfl⟩
          go_wp2
          go_round
          case rel => exact ⟨k + 1, r * 16 + v, by omega, by omega, by go_num, by go_num, HP.out, Lib.hid (by rw [← HX.out, show 4 - (k + 1) = 3 - k by omega])⟩
          case measure => simp [intOf]; omega
      · obtain rfl : k = s.size := by omega
        have hx := hn.out
        rw [HN.out, show 4 - s.size = (3 - s.size) + 1 by omega, hexF] at hx
        have HX := Lib.hid hx
        clear hx hn
        go_wp2
        go_ret2
        exact Ret2.of (by rw [← HX.out]; rfl) (by rw [← HX.out]; rfl) (Keeps.refl _)
    · obtain rfl : k = 4 := by omega
      have hx := hn.out
      rw [show 4 - 4 = 0 from rfl, hexF] at hx
      have HX := Lib.hid hx
      clear hx hn
      go_wp2
      go_ret2
      exact Ret2.of (by rw [← HX.out]) (by rw [← HX.out]; rfl) (Keeps.refl _)

end Go.Proofs.YtbhgfdgdbbfeoaaDoor
