/-
  The contracts of package scan on escapes: hex, lowSurrogate, escaped.
-/
import Derived.Test.YtljkeladdplhlaaDoorSma
import Derived.WalkMore
namespace Go.Proofs.YtljkeladdplhlaaDoor
open Go.RowKit

/-- A call that answers a number and an error. -/
def Ret2 (K : IntKind) (p : Nat × Nat) (w : World) (e : Ending) (w' : World) : Prop := e = .returned (.tuple #[.int K (p.1 : Int), .int .i64 (p.2 : Int)]) ∧ Keeps w w'
theorem Ret2.of {K : IntKind} {p : Nat × Nat} {x y : Int} {w w' : World} (h1 : x = (p.1 : Int)) (h2 : y = (p.2 : Int)) (k : Keeps w w') : Ret2 K p w (.returned (.tuple #[.int K x, .int .i64 y])) w' := ⟨by rw [h1, h2], k⟩

theorem hexF_bound (k : Nat) : ∀ l r, (hexF k l r).1 < (r + 1) * 16 ^ k := by
  induction k with
  | zero => intro l r; simp [hexF]
  | succ k ih =>
    intro l r
    cases l with
    | nil => exact Nat.mul_pos (Nat.succ_pos r) (Nat.pow_pos (by decide))
    | cons c t =>
      unfold hexF
      split
      · have h1 := ih t (r * 16 + hexV c)
        have h2 := hexV_le c
        have h3 : (r * 16 + hexV c + 1) * 16 ^ k ≤ ((r + 1) * 16) * 16 ^ k := Nat.mul_le_mul_right _ (by omega)
        rw [Nat.pow_succ, Nat.mul_comm (16 ^ k) 16, ← Nat.mul_assoc]
        omega
      · exact Nat.mul_pos (Nat.succ_pos r) (Nat.pow_pos (by decide))
theorem hex4_bound (l : List UInt8) : (hex4 l).1 < 65536 := by
  have := hexF_bound 4 l 0
  simpa [hex4] using this

set_option maxHeartbeats 2000000 in
theorem hex_any (s : ByteArray) (w : World) (hs : s.size ≤ 1000000) : Calls Tryd.prog 100 #[.string s] w (Ret2 .i32 (hex4 s.data.toList) w) := by
  have cX := Lib.hid (fun c w1 => hexdig_any c w1)
  have hl : s.data.toList.length = s.size := by simp
  have HA := Lib.hid (fun k (hk : k < s.size) => drop_at s k hk)
  have HN : Hid (s.data.toList.drop s.size = []) := Lib.hid (by rw [← hl]; exact List.drop_length)
  have H0 : Hid (hexF 4 (s.data.toList.drop 0) 0 = hex4 s.data.toList) := Lib.hid rfl
  generalize hex4 s.data.toList = p at *
  generalize s.data.toList = l at *
  clear hl
  go_enter Tryd.func100, Tryd.ntmps100
  go_wp2
  go_loop [4, 5, 6, 7, 8] (fun rv _ _ _ i => ∃ k r : Nat, k ≤ 4 ∧ k ≤ s.size ∧ i = .int .i64 (k : Int) ∧ rv = .int .i32 (r : Int) ∧ r < 16 ^ k ∧ Hid (hexF (4 - k) (l.drop k) r = p)) (fun _ _ _ _ i => 4 - (intOf i).toNat)
  case atStart => exact ⟨0, 0, by omega, by omega, rfl, rfl, by simp, H0⟩
  case round =>
    obtain ⟨k, r, hk, hks, rfl, rfl, hr, hn⟩ := hrel
    have hr' : r < 65536 := by
      have : (16 : Nat) ^ k ≤ 16 ^ 4 := Nat.pow_le_pow_right (by omega) hk
      omega
    have HR := Lib.hid hr
    clear hr
    by_cases h4 : k < 4
    · by_cases hlt : k < s.size
      · have hx := hn.out
        rw [HA.out k hlt, show 4 - k = (3 - k) + 1 by omega, hexF] at hx
        have hv := hexV_le (s[k]'hlt)
        have hr3 : r < 4096 := by
          have h1 := HR.out
          have : (16 : Nat) ^ k ≤ 16 ^ 3 := Nat.pow_le_pow_right (by omega) (by omega)
          omega
        have hp : r * 16 + hexV (s[k]'hlt) < 16 ^ (k + 1) := by
          have h1 := HR.out
          rw [Nat.pow_succ]
          omega
        have HP := Lib.hid hp
        clear hp
        cases hb : hexB (s[k]'hlt)
        · rw [hb, if_neg (by decide)] at hx
          have HX := Lib.hid hx
          have cX1 : Hid (∀ w1 : World, Calls Tryd.prog 104 #[.int .u8 ((s[k]'hlt).toNat : Int)] w1 (fun e w' => e = .returned (.tuple #[.int .i32 (hexV (s[k]'hlt) : Int), .bool false]) ∧ w' = w1)) := Lib.hid (fun w1 => by have := cX.out (s[k]'hlt) w1; rwa [hb] at this)
          clear hx hb hn
          generalize hexV (s[k]'hlt) = v at *
          go_wp2_with fail
          refine (cX1.out _).mono ?_
          rintro e w2 ⟨rfl, rfl⟩
          go_wp2
          go_ret2
          exact Ret2.of (by rw [← HX.out]; rfl) (by rw [← HX.out]; rfl) (Keeps.refl _)
        · rw [hb, if_pos rfl] at hx
          have HX := Lib.hid hx
          have cX1 : Hid (∀ w1 : World, Calls Tryd.prog 104 #[.int .u8 ((s[k]'hlt).toNat : Int)] w1 (fun e w' => e = .returned (.tuple #[.int .i32 (hexV (s[k]'hlt) : Int), .bool true]) ∧ w' = w1)) := Lib.hid (fun w1 => by have := cX.out (s[k]'hlt) w1; rwa [hb] at this)
          clear hx hb hn
          generalize hexV (s[k]'hlt) = v at *
          go_wp2_with fail
          refine (cX1.out _).mono ?_
          rintro e w2 ⟨rfl, rfl⟩
          go_wp2
          go_round
          case rel => exact ⟨k + 1, r * 16 + v, by omega, by omega, by go_num, by go_num, HP.out, Lib.hid (by rw [← HX.out, show 4 - (k + 1) = 3 - k by omega])⟩
          case measure => simp [intOf]; omega
      · obtain rfl : k = s.size := by omega
        have hx := hn.out
        rw [HN.out, show 4 - s.size = (3 - s.size) + 1 by omega, hexF] at hx
        have HX := Lib.hid hx
        clear hx hn
        go_wp2
        go_ret2
        exact Ret2.of (by rw [← HX.out]; rfl) (by rw [← HX.out]; rfl) (Keeps.refl _)
    · obtain rfl : k = 4 := by omega
      have hx := hn.out
      rw [show 4 - 4 = 0 from rfl, hexF] at hx
      have HX := Lib.hid hx
      clear hx hn
      go_wp2
      go_ret2
      exact Ret2.of (by rw [← HX.out]) (by rw [← HX.out]; rfl) (Keeps.refl _)

set_option maxHeartbeats 2000000 in
theorem escaped_any (c : UInt8) (w : World) : Calls Tryd.prog 95 #[.int .u8 (c.toNat : Int)] w (fun e w' => e = .returned (.tuple #[.int .u8 ((escV c).toNat : Int), .bool (escB c)]) ∧ w' = w) := by
  have hc := c.toNat_lt
  have go : ∀ (n m : Nat) (b : Bool), c.toNat = n → (escV c).toNat = m → escB c = b → Calls Tryd.prog 95 #[.int .u8 (n : Int)] w (fun e w' => e = .returned (.tuple #[.int .u8 (m : Int), .bool b]) ∧ w' = w) → Calls Tryd.prog 95 #[.int .u8 (c.toNat : Int)] w (fun e w' => e = .returned (.tuple #[.int .u8 ((escV c).toNat : Int), .bool (escB c)]) ∧ w' = w) := by
    intro n m b h1 h2 h3 h; rw [h1, h2, h3]; exact h
  by_cases h1 : c.toNat = 34
  · refine go 34 34 true h1 (by simp [escV, escB, h1]) (by simp [escB, h1]) ?_
    go_enter Tryd.func95, Tryd.ntmps95
    go_wp2
    go_ret2
    exact ⟨rfl, rfl⟩
  by_cases h2 : c.toNat = 92
  · refine go 92 92 true h2 (by simp [escV, escB, h2]) (by simp [escB, h2]) ?_
    go_enter Tryd.func95, Tryd.ntmps95
    go_wp2
    go_ret2
    exact ⟨rfl, rfl⟩
  by_cases h3 : c.toNat = 47
  · refine go 47 47 true h3 (by simp [escV, escB, h3]) (by simp [escB, h3]) ?_
    go_enter Tryd.func95, Tryd.ntmps95
    go_wp2
    go_ret2
    exact ⟨rfl, rfl⟩
  by_cases h4 : c.toNat = 98
  · refine go 98 8 true h4 (by simp [escV, escB, h4]) (by simp [escB, h4]) ?_
    go_enter Tryd.func95, Tryd.ntmps95
    go_wp2
    go_ret2
    exact ⟨rfl, rfl⟩
  by_cases h5 : c.toNat = 102
  · refine go 102 12 true h5 (by simp [escV, escB, h5]) (by simp [escB, h5]) ?_
    go_enter Tryd.func95, Tryd.ntmps95
    go_wp2
    go_ret2
    exact ⟨rfl, rfl⟩
  by_cases h6 : c.toNat = 110
  · refine go 110 10 true h6 (by simp [escV, escB, h6]) (by simp [escB, h6]) ?_
    go_enter Tryd.func95, Tryd.ntmps95
    go_wp2
    go_ret2
    exact ⟨rfl, rfl⟩
  by_cases h7 : c.toNat = 114
  · refine go 114 13 true h7 (by simp [escV, escB, h7]) (by simp [escB, h7]) ?_
    go_enter Tryd.func95, Tryd.ntmps95
    go_wp2
    go_ret2
    exact ⟨rfl, rfl⟩
  by_cases h8 : c.toNat = 116
  · refine go 116 9 true h8 (by simp [escV, escB, h8]) (by simp [escB, h8]) ?_
    go_enter Tryd.func95, Tryd.ntmps95
    go_wp2
    go_ret2
    exact ⟨rfl, rfl⟩
  have hb : escB c = false := by simp [escB, h1, h2, h3, h4, h5, h6, h7, h8]
  refine go c.toNat 0 false rfl (by simp [escV, hb, h4, h5, h6, h7, h8]) hb ?_
  have f1 : ((c.toNat : Int) == 34) = false := by simp; omega
  have f2 : ((c.toNat : Int) == 92) = false := by simp; omega
  have f3 : ((c.toNat : Int) == 47) = false := by simp; omega
  have f4 : ((c.toNat : Int) == 98) = false := by simp; omega
  have f5 : ((c.toNat : Int) == 102) = false := by simp; omega
  have f6 : ((c.toNat : Int) == 110) = false := by simp; omega
  have f7 : ((c.toNat : Int) == 114) = false := by simp; omega
  have f8 : ((c.toNat : Int) == 116) = false := by simp; omega
  clear go h1 h2 h3 h4 h5 h6 h7 h8 hb
  go_enter Tryd.func95, Tryd.ntmps95
  go_wp2
  go_ret2
  exact ⟨rfl, rfl⟩

theorem ext_drop (s : ByteArray) (k : Nat) : (s.extract k s.size).data.toList = s.data.toList.drop k := by
  simp [ByteArray.data_extract]
  rw [List.take_of_length_le (by simp)]
/-- A mark on a byte that stands in the way of a loop of two rounds. -/
def surrAt (k : Nat) : Nat := if k = 0 then 92 else 117

set_option maxHeartbeats 4000000 in
set_option maxRecDepth 100000 in
theorem low_any (s : ByteArray) (w : World) (hs : s.size ≤ 1000000) : Calls Tryd.prog 101 #[.string s] w (Ret2 .i32 (lowS s.data.toList) w) := by
  have hl : s.data.toList.length = s.size := by simp
  have hb4 := hex4_bound (s.data.toList.drop 2)
  have cH := Lib.hid (fun (x : ByteArray) w1 hx => hex_any x w1 hx)
  have hsl : (s.extract 2 s.size).data.toList = s.data.toList.drop 2 := ext_drop s 2
  have hsz : (s.extract 2 s.size).size ≤ 1000000 := by simp; omega
  unfold lowS lowT
  rw [hl]
  by_cases h0 : s.size = 0
  · rw [if_pos h0]
    clear hb4 hl hsl hsz
    go_enter Tryd.func101, Tryd.ntmps101
    go_wp2
    refine wp_loop_rounds 1 ?_
    rw [rounds_succ]
    go_wp2
    go_ret2
    exact Ret2.of rfl rfl (Keeps.refl _)
  have p0 : 0 < s.size := by omega
  rw [if_neg h0, getD_at s 0 p0]
  by_cases h1 : (s[0]'p0).toNat = 92
  · rw [if_neg (by simpa using h1)]
    by_cases h2 : s.size = 1
    · rw [if_pos h2]
      clear hb4 hl hsl hsz h0
      have c1 : (((s[0]'p0).toNat : Int) != (((⟨#[92, 117]⟩ : ByteArray)[0]'(by decide)).toNat : Int)) = false := by show (((s[0]'p0).toNat : Int) != 92) = false; simp; omega
      go_enter Tryd.func101, Tryd.ntmps101
      go_wp2
      refine wp_loop_rounds 2 ?_
      rw [rounds_succ]
      go_wp2
      go_quiet (fail)
      go_wp2
      rw [rounds_succ]
      go_wp2
      go_ret2
      exact Ret2.of rfl rfl (by first | exact (Keeps.refl _).drew | exact (Keeps.refl _).drewN _)
    · have p1 : 1 < s.size := by omega
      have q1 : (1 : Int) < (s.size : Int) := by omega
      have q2 : ((1 : Int) == (s.size : Int)) = false := by simp; omega
      rw [if_neg h2, getD_at s 1 p1]
      by_cases h3 : (s[1]'p1).toNat = 117
      · rw [if_neg (by simpa using h3)]
        have cH1 : Hid (∀ w1, Calls Tryd.prog 100 #[.string (s.extract 2 s.size)] w1 (Ret2 .i32 (hex4 (s.data.toList.drop 2)) w1)) := Lib.hid (fun w1 => by have := cH.out _ w1 hsz; rwa [hsl] at this)
        have c1 : (((s[0]'p0).toNat : Int) != (((⟨#[92, 117]⟩ : ByteArray)[0]'(by decide)).toNat : Int)) = false := by show (((s[0]'p0).toNat : Int) != 92) = false; simp; omega
        have c2 : (((s[1]'p1).toNat : Int) != (((⟨#[92, 117]⟩ : ByteArray)[1]'(by decide)).toNat : Int)) = false := by show (((s[1]'p1).toNat : Int) != 117) = false; simp; omega
        generalize hex4 (s.data.toList.drop 2) = g at *
        obtain ⟨v, x⟩ := g
        clear hl hsl hsz h0 h2 cH h1 h3
        by_cases hx : x = 0
        · subst hx
          rw [if_neg (by simp)]
          clear hb4
          by_cases g2 : v < 56320
          · rw [if_pos (.inl g2)]
            have g1 := g2
            have cH2 : Hid (∀ w1, Calls Tryd.prog 100 #[.string (s.extract 2 s.size)] w1 (fun e w' => Ret2 .i32 (v, 0) w1 e w' ∧ decide ((v : Int) < 56320) = true ∧ True)) := Lib.hid (fun w1 => (cH1.out w1).mono (fun e w' h => ⟨h, by simp; omega, by trivial⟩))
            clear g1 cH1
            clear g2
            go_enter Tryd.func101, Tryd.ntmps101
            go_wp2
            refine wp_loop_rounds 3 ?_
            rw [rounds_succ]
            go_wp2
            go_quiet (fail)
            go_wp2
            rw [rounds_succ]
            go_wp2
            go_quiet (fail)
            go_wp2
            rw [rounds_succ]
            go_wp2_with fail
            refine (cH2.out _).mono ?_
            rintro e w2 ⟨⟨rfl, k2⟩, d2, d3⟩
            go_wp2
            go_ret2
            exact Ret2.of rfl rfl (by first | exact (((Keeps.refl _).drewN _).drewN _).trans k2 | exact ((Keeps.refl _).drewN _).trans k2)
          by_cases g1 : 57343 < v
          · rw [if_pos (.inr g1)]
            have cH2 : Hid (∀ w1, Calls Tryd.prog 100 #[.string (s.extract 2 s.size)] w1 (fun e w' => Ret2 .i32 (v, 0) w1 e w' ∧ decide ((v : Int) < 56320) = false ∧ decide ((57343 : Int) < (v : Int)) = true)) := Lib.hid (fun w1 => (cH1.out w1).mono (fun e w' h => ⟨h, by simp; omega, by simp; omega⟩))
            clear g1 cH1
            clear g2
            go_enter Tryd.func101, Tryd.ntmps101
            go_wp2
            refine wp_loop_rounds 3 ?_
            rw [rounds_succ]
            go_wp2
            go_quiet (fail)
            go_wp2
            rw [rounds_succ]
            go_wp2
            go_quiet (fail)
            go_wp2
            rw [rounds_succ]
            go_wp2_with fail
            refine (cH2.out _).mono ?_
            rintro e w2 ⟨⟨rfl, k2⟩, d2, d3⟩
            go_wp2
            go_ret2
            exact Ret2.of rfl rfl (by first | exact (((Keeps.refl _).drewN _).drewN _).trans k2 | exact ((Keeps.refl _).drewN _).trans k2)
          rw [if_neg (by simp only; omega)]
          have cH2 : Hid (∀ w1, Calls Tryd.prog 100 #[.string (s.extract 2 s.size)] w1 (fun e w' => Ret2 .i32 (v, 0) w1 e w' ∧ decide ((v : Int) < 56320) = false ∧ decide ((57343 : Int) < (v : Int)) = false)) := Lib.hid (fun w1 => (cH1.out w1).mono (fun e w' h => ⟨h, by simp; omega, by simp; omega⟩))
          clear g1 cH1
          clear g2
          go_enter Tryd.func101, Tryd.ntmps101
          go_wp2
          refine wp_loop_rounds 3 ?_
          rw [rounds_succ]
          go_wp2
          go_quiet (fail)
          go_wp2
          rw [rounds_succ]
          go_wp2
          go_quiet (fail)
          go_wp2
          rw [rounds_succ]
          go_wp2_with fail
          refine (cH2.out _).mono ?_
          rintro e w2 ⟨⟨rfl, k2⟩, d2, d3⟩
          go_wp2
          go_ret2
          exact Ret2.of rfl rfl (by first | exact (((Keeps.refl _).drewN _).drewN _).trans k2 | exact ((Keeps.refl _).drewN _).trans k2)
        · rw [if_pos (by simpa using hx)]
          have d1 : ((x : Int) != 0) = true := by simp; omega
          go_enter Tryd.func101, Tryd.ntmps101
          go_wp2
          refine wp_loop_rounds 3 ?_
          rw [rounds_succ]
          go_wp2
          go_quiet (fail)
          go_wp2
          rw [rounds_succ]
          go_wp2
          go_quiet (fail)
          go_wp2
          rw [rounds_succ]
          go_wp2_with fail
          refine (cH1.out _).mono ?_
          rintro e w2 ⟨rfl, k2⟩
          go_wp2
          go_ret2
          exact Ret2.of rfl rfl (by first | exact (((Keeps.refl _).drewN _).drewN _).trans k2 | exact ((Keeps.refl _).drewN _).trans k2)
      · rw [if_pos (by simpa using h3)]
        have c1 : (((s[0]'p0).toNat : Int) != (((⟨#[92, 117]⟩ : ByteArray)[0]'(by decide)).toNat : Int)) = false := by show (((s[0]'p0).toNat : Int) != 92) = false; simp; omega
        have c2 : (((s[1]'p1).toNat : Int) != (((⟨#[92, 117]⟩ : ByteArray)[1]'(by decide)).toNat : Int)) = true := by show (((s[1]'p1).toNat : Int) != 117) = true; simp; omega
        clear hb4 hl hsl hsz h0 h2 cH
        go_enter Tryd.func101, Tryd.ntmps101
        go_wp2
        refine wp_loop_rounds 3 ?_
        rw [rounds_succ]
        go_wp2
        go_quiet (fail)
        go_wp2
        rw [rounds_succ]
        go_wp2
        go_quiet (fail)
        go_wp2
        go_ret2
        exact Ret2.of rfl rfl (by first | exact ((Keeps.refl _).drewN _).drewN _ | exact (Keeps.refl _).drewN _)
  · rw [if_pos (by simpa using h1)]
    clear hb4 hl hsl hsz h0
    have c1 : (((s[0]'p0).toNat : Int) != (((⟨#[92, 117]⟩ : ByteArray)[0]'(by decide)).toNat : Int)) = true := by show (((s[0]'p0).toNat : Int) != 92) = true; simp; omega
    go_enter Tryd.func101, Tryd.ntmps101
    go_wp2
    refine wp_loop_rounds 2 ?_
    rw [rounds_succ]
    go_wp2
    go_quiet (fail)
    go_wp2
    go_ret2
    exact Ret2.of rfl rfl (by first | exact (Keeps.refl _).drew | exact (Keeps.refl _).drewN _)
end Go.Proofs.YtljkeladdplhlaaDoor
