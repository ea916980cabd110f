/-
  The document's own second: the code point of two halves.
-/
import Derived.Test.YtbhgfdgdbbfeoaaDoorRfa
namespace Go.Proofs.YtbhgfdgdbbfeoaaDoor
open Go.RowKit

def secP (h : Nat) (p : Nat × Nat) : Nat × Nat := if p.2 ≠ 0 then (0, p.2) else (65536 + (h - 55296) * 1024 + (p.1 - 56320), 0)
theorem secx_1 (h x : Nat) (hx : ¬ x = 0) : (0 : Int) = ((secP h (0, x)).1 : Int) := by unfold secP; rw [if_pos hx]; rfl
theorem secx_2 (h x : Nat) (hx : ¬ x = 0) : (x : Int) = ((secP h (0, x)).2 : Int) := by unfold secP; rw [if_pos hx]
theorem secx_3 (h v : Nat) (h1 : 55296 ≤ (h : Int)) (h2 : 56320 ≤ (v : Int)) : 65536 + ((h : Int) - 55296) * 1024 + (v : Int) - 56320 = ((secP h (v, 0)).1 : Int) := by
  unfold secP; rw [if_neg (by simp)]; simp only; omega

set_option maxHeartbeats 4000000 in
set_option maxRecDepth 100000 in
theorem sec_at (h : Nat) (s : ByteArray) (p : Nat × Nat) (w : World) (hs : s.size ≤ 1000000) (HV : ∃ u, h = 55296 + u ∧ u < 1024) (hp : lowS s.data.toList = p) : Calls Tryd.prog 50 #[.int .i64 (h : Int), .string s] w (Ret2 .i64 (secP h p) w) := by
  have hl : s.data.toList.length = s.size := by simp
  have hb4 := hex4_bound (s.data.toList.drop 2)
  have cH := Lib.hid (fun (x : ByteArray) w1 hx => four_any x w1 hx)
  have hsl : (s.extract 2 s.size).data.toList = s.data.toList.drop 2 := ext_drop s 2
  have hsz : (s.extract 2 s.size).size ≤ 1000000 := by simp; omega
  unfold lowS lowT at hp
  rw [hl] at hp
  by_cases h0 : s.size = 0
  · rw [if_pos h0] at hp
    clear hb4 hl hsl hsz
    subst hp
    go_enter Tryd.func50, Tryd.ntmps50
    go_wp2
    refine wp_loop_rounds 1 ?_
    rw [rounds_succ]
    go_wp2
    go_ret2
    exact Ret2.of rfl rfl (Keeps.refl _)
  have p0 : 0 < s.size := by omega
  rw [if_neg h0, getD_at s 0 p0] at hp
  by_cases h1 : (s[0]'p0).toNat = 92
  · rw [if_neg (by simpa using h1)] at hp
    by_cases h2 : s.size = 1
    · rw [if_pos h2] at hp
      clear hb4 hl hsl hsz h0
      have c1 : (((s[0]'p0).toNat : Int) != (((⟨#[92, 117]⟩ : ByteArray)[0]'(by decide)).toNat : Int)) = false := by show (((s[0]'p0).toNat : Int) != 92) = false; simp; omega
      subst hp
      go_enter Tryd.func50, Tryd.ntmps50
      go_wp2
      refine wp_loop_rounds 2 ?_
      rw [rounds_succ]
      go_wp2
      go_quiet (fail)
      go_wp2
      rw [rounds_succ]
      go_wp2
      go_ret2
      exact Ret2.of rfl rfl (by first | exact (Keeps.refl _).drew | exact (Keeps.refl _).drewN _)
    · have p1 : 1 < s.size := by omega
      have q1 : (1 : Int) < (s.size : Int) := by omega
      have q2 : ((1 : Int) == (s.size : Int)) = false := by simp; omega
      rw [if_neg h2, getD_at s 1 p1] at hp
      by_cases h3 : (s[1]'p1).toNat = 117
      · rw [if_neg (by simpa using h3)] at hp
        have cH1 : Hid (∀ w1, Calls Tryd.prog 48 #[.string (s.extract 2 s.size)] w1 (Ret2 .i64 (hex4 (s.data.toList.drop 2)) w1)) := Lib.hid (fun w1 => by have := cH.out _ w1 hsz; rwa [hsl] at this)
        have c1 : (((s[0]'p0).toNat : Int) != (((⟨#[92, 117]⟩ : ByteArray)[0]'(by decide)).toNat : Int)) = false := by show (((s[0]'p0).toNat : Int) != 92) = false; simp; omega
        have c2 : (((s[1]'p1).toNat : Int) != (((⟨#[92, 117]⟩ : ByteArray)[1]'(by decide)).toNat : Int)) = false := by show (((s[1]'p1).toNat : Int) != 117) = false; simp; omega
        generalize hex4 (s.data.toList.drop 2) = g at *
        obtain ⟨v, x⟩ := g
        clear hl hsl hsz h0 h2 cH h1 h3
        by_cases hx : x = 0
        · subst hx
          rw [if_neg (by simp)] at hp
          clear hb4
          by_cases g2 : v < 56320
          · rw [if_pos (.inl g2)] at hp
            have g1 := g2
            have cH2 : Hid (∀ w1, Calls Tryd.prog 48 #[.string (s.extract 2 s.size)] w1 (fun e w' => Ret2 .i64 (v, 0) w1 e w' ∧ decide ((v : Int) < 56320) = true ∧ True)) := Lib.hid (fun w1 => (cH1.out w1).mono (fun e w' h => ⟨h, by simp; omega, by trivial⟩))
            clear g1 cH1
            clear g2
            subst hp
            go_enter Tryd.func50, Tryd.ntmps50
            go_wp2
            refine wp_loop_rounds 3 ?_
            rw [rounds_succ]
            go_wp2
            go_quiet (fail)
            go_wp2
            rw [rounds_succ]
            go_wp2
            go_quiet (fail)
            go_wp2
            rw [rounds_succ]
            go_wp2_with fail
            refine (cH2.out _).mono ?_
            rintro e w2 ⟨⟨rfl, k2⟩, d2, d3⟩
            go_wp2
            go_ret2
            exact Ret2.of (by first | rfl | exact secx_1 _ _ hx | exact secx_3 _ _ b1) (by first | rfl | exact secx_2 _ _ hx) (by first | exact (((Keeps.refl _).drewN _).drewN _).trans k2 | exact ((Keeps.refl _).drewN _).trans k2)
          by_cases g1 : 57343 < v
          · rw [if_pos (.inr g1)] at hp
            have cH2 : Hid (∀ w1, Calls Tryd.prog 48 #[.string (s.extract 2 s.size)] w1 (fun e w' => Ret2 .i64 (v, 0) w1 e w' ∧ decide ((v : Int) < 56320) = false ∧ decide ((57343 : Int) < (v : Int)) = true)) := Lib.hid (fun w1 => (cH1.out w1).mono (fun e w' h => ⟨h, by simp; omega, by simp; omega⟩))
            clear g1 cH1
            clear g2
            subst hp
            go_enter Tryd.func50, Tryd.ntmps50
            go_wp2
            refine wp_loop_rounds 3 ?_
            rw [rounds_succ]
            go_wp2
            go_quiet (fail)
            go_wp2
            rw [rounds_succ]
            go_wp2
            go_quiet (fail)
            go_wp2
            rw [rounds_succ]
            go_wp2_with fail
            refine (cH2.out _).mono ?_
            rintro e w2 ⟨⟨rfl, k2⟩, d2, d3⟩
            go_wp2
            go_ret2
            exact Ret2.of (by first | rfl | exact secx_1 _ _ hx | exact secx_3 _ _ b1) (by first | rfl | exact secx_2 _ _ hx) (by first | exact (((Keeps.refl _).drewN _).drewN _).trans k2 | exact ((Keeps.refl _).drewN _).trans k2)
          rw [if_neg (by simp only; omega)] at hp
          obtain ⟨u, hu1, hu2⟩ := HV
          have cH2 : Hid (∀ w1, Calls Tryd.prog 48 #[.string (s.extract 2 s.size)] w1 (fun e w' => Ret2 .i64 (v, 0) w1 e w' ∧ decide ((v : Int) < 56320) = false ∧ decide ((57343 : Int) < (v : Int)) = false ∧ (55296 ≤ (h : Int) ∧ (h : Int) ≤ 56319 ∧ 56320 ≤ (v : Int) ∧ (v : Int) ≤ 57343))) := Lib.hid (fun w1 => (cH1.out w1).mono (fun e w' h => ⟨h, by simp; omega, by simp; omega, by omega, by omega, by omega, by omega⟩))
          clear hu1 hu2
          clear g1 cH1
          clear g2
          subst hp
          go_enter Tryd.func50, Tryd.ntmps50
          go_wp2
          refine wp_loop_rounds 3 ?_
          rw [rounds_succ]
          go_wp2
          go_quiet (fail)
          go_wp2
          rw [rounds_succ]
          go_wp2
          go_quiet (fail)
          go_wp2
          rw [rounds_succ]
          go_wp2_with fail
          refine (cH2.out _).mono ?_
          rintro e w2 ⟨⟨rfl, k2⟩, d2, d3, b1, b2, b3, b4⟩
          go_wp2
          go_ret2
          exact Ret2.of (secx_3 _ _ b1 b3) rfl (by first | exact (((Keeps.refl _).drewN _).drewN _).trans k2 | exact ((Keeps.refl _).drewN _).trans k2)
        · rw [if_pos (by simpa using hx)] at hp
          have d1 : ((x : Int) != 0) = true := by simp; omega
          subst hp
          go_enter Tryd.func50, Tryd.ntmps50
          go_wp2
          refine wp_loop_rounds 3 ?_
          rw [rounds_succ]
          go_wp2
          go_quiet (fail)
          go_wp2
          rw [rounds_succ]
          go_wp2
          go_quiet (fail)
          go_wp2
          rw [rounds_succ]
          go_wp2_with fail
          refine (cH1.out _).mono ?_
          rintro e w2 ⟨rfl, k2⟩
          go_wp2
          go_ret2
          exact Ret2.of (by first | rfl | exact secx_1 _ _ hx | exact secx_3 _ _ b1) (by first | rfl | exact secx_2 _ _ hx) (by first | exact (((Keeps.refl _).drewN _).drewN _).trans k2 | exact ((Keeps.refl _).drewN _).trans k2)
      · rw [if_pos (by simpa using h3)] at hp
        have c1 : (((s[0]'p0).toNat : Int) != (((⟨#[92, 117]⟩ : ByteArray)[0]'(by decide)).toNat : Int)) = false := by show (((s[0]'p0).toNat : Int) != 92) = false; simp; omega
        have c2 : (((s[1]'p1).toNat : Int) != (((⟨#[92, 117]⟩ : ByteArray)[1]'(by decide)).toNat : Int)) = true := by show (((s[1]'p1).toNat : Int) != 117) = true; simp; omega
        clear hb4 hl hsl hsz h0 h2 cH
        subst hp
        go_enter Tryd.func50, Tryd.ntmps50
        go_wp2
        refine wp_loop_rounds 3 ?_
        rw [rounds_succ]
        go_wp2
        go_quiet (fail)
        go_wp2
        rw [rounds_succ]
        go_wp2
        go_quiet (fail)
        go_wp2
        go_ret2
        exact Ret2.of rfl rfl (by first | exact ((Keeps.refl _).drewN _).drewN _ | exact (Keeps.refl _).drewN _)
  · rw [if_pos (by simpa using h1)] at hp
    clear hb4 hl hsl hsz h0
    have c1 : (((s[0]'p0).toNat : Int) != (((⟨#[92, 117]⟩ : ByteArray)[0]'(by decide)).toNat : Int)) = true := by show (((s[0]'p0).toNat : Int) != 92) = true; simp; omega
    subst hp
    go_enter Tryd.func50, Tryd.ntmps50
    go_wp2
    refine wp_loop_rounds 2 ?_
    rw [rounds_succ]
    go_wp2
    go_quiet (fail)
    go_wp2
    go_ret2
    exact Ret2.of rfl rfl (by first | exact (Keeps.refl _).drew | exact (Keeps.refl _).drewN _)
end Go.Proofs.YtbhgfdgdbbfeoaaDoor
