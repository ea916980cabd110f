/-
  The document's own escape of package scan.
-/
import Derived.Test.YtbhgfdgdbbfeoaaDoorRff
namespace Go.Proofs.YtbhgfdgdbbfeoaaDoor
open Go.RowKit

theorem low_scalar (v u : Nat) (h1 : 55296 ≤ v ∧ v ≤ 56319) (h2 : 56320 ≤ u ∧ u ≤ 57343) : scalar (65536 + (v - 55296) * 1024 + (u - 56320)) := by
  unfold scalar; omega

set_option maxHeartbeats 8000000 in
set_option maxRecDepth 100000 in
theorem resc_any (s : ByteArray) (w : World) (hs : s.size ≤ 1000000) (h1 : 1 ≤ s.size) : Calls Tryd.prog 36 #[.string s] w (RetU (escL s.data.toList) w) := by
  have hsl : s.data.toList.length = s.size := by simp
  unfold escL
  rw [hsl]
  by_cases h2 : s.size < 2
  · rw [if_pos h2]
    have f1 : ((s.size : Int) == 1) = true := by simp; omega
    clear hsl h2
    go_enter Tryd.func36, Tryd.ntmps36
    go_wp2
    go_ret3
    exact RetU.of rfl rfl rfl (Keeps.refl _)
  rw [if_neg h2]
  have f1 : ((s.size : Int) == 1) = false := by simp; omega
  have p1 : 1 < s.size := by omega
  have q2 : (2 : Int) ≤ (s.size : Int) := by omega
  rw [getD_at s 1 p1]
  by_cases hu : (s[1]'p1).toNat = 117
  · rw [if_pos hu]
    have f2 : (((s[1]'p1).toNat : Int) != 117) = false := by simp; omega
    have hb4 := hex4_bound (s.data.toList.drop 2)
    have h6 : 6 ≤ s.size ∨ (hex4 (s.data.toList.drop 2)).2 ≠ 0 := by
      by_cases e : (hex4 (s.data.toList.drop 2)).2 = 0
      · have := hexF_len 4 _ _ e
        simp at this; omega
      · exact .inr e
    have cH1 : Hid (∀ w1, Calls Tryd.prog 48 #[.string (s.extract 2 s.size)] w1 (Ret2 .i64 (hex4 (s.data.toList.drop 2)) w1)) := Lib.hid (fun w1 => by have := four_any (s.extract 2 s.size) w1 (by simp; omega); rwa [ext_drop] at this)
    have cL1 : Hid (∀ (h : Nat) w1, (∃ u, h = 55296 + u ∧ u < 1024) → Calls Tryd.prog 50 #[.int .i64 (h : Int), .string (s.extract 6 s.size)] w1 (Ret2 .i64 (secP h (lowS (s.data.toList.drop 6))) w1)) := Lib.hid (fun h w1 hv => sec_at h (s.extract 6 s.size) _ w1 (by simp; omega) hv (by rw [ext_drop]))
    have hlb : (lowS (s.data.toList.drop 6)).2 = 0 → 56320 ≤ (lowS (s.data.toList.drop 6)).1 ∧ (lowS (s.data.toList.drop 6)).1 ≤ 57343 := lowS_range _
    have cE := Lib.hid (fun r w1 h => encd_any r w1 h)
    unfold codeL
    generalize hex4 (s.data.toList.drop 2) = g at *
    generalize lowS (s.data.toList.drop 6) = d at *
    obtain ⟨v, x⟩ := g
    obtain ⟨u, y⟩ := d
    clear hsl h2 hu
    by_cases hx : x = 0
    · subst hx
      rw [if_neg (by simp)]
      have p6 : 6 ≤ s.size := by simpa using h6
      have q6 : (6 : Int) ≤ (s.size : Int) := by omega
      clear h6
      have H4 : v < 65536 := hb4
      clear hb4
      by_cases g1 : v < 55296
      · rw [if_pos (.inl g1)]
        have cH2 : Hid (∀ w1, Calls Tryd.prog 48 #[.string (s.extract 2 s.size)] w1 (fun e w' => Ret2 .i64 (v, 0) w1 e w' ∧ decide ((v : Int) < 55296) = true ∧ decide ((56320 : Int) ≤ (v : Int)) = false)) := Lib.hid (fun w1 => (cH1.out w1).mono (fun e w' h => ⟨h, by simp; omega, by simp; omega⟩))
        have cE2 := Lib.hid (fun w1 => cE.out v w1 (by unfold scalar; omega))
        clear g1 H4 cH1 cL1 hlb cE
        go_enter Tryd.func36, Tryd.ntmps36
        go_wp2_with fail
        refine (cH2.out _).mono ?_
        rintro e w2 ⟨⟨rfl, k2⟩, d1, d2⟩
        have HK := Lib.hid k2
        clear k2
        go_wp2_with fail
        refine (cE2.out _).mono ?_
        rintro e w3 ⟨rfl, k3⟩
        have HK3 := Lib.hid (HK.out.trans k3)
        clear k3
        go_wp2
        go_ret3
        exact RetU.of rfl rfl rfl HK3.out
      by_cases g2 : 57343 < v
      · rw [if_pos (.inr g2)]
        have cH2 : Hid (∀ w1, Calls Tryd.prog 48 #[.string (s.extract 2 s.size)] w1 (fun e w' => Ret2 .i64 (v, 0) w1 e w' ∧ decide ((v : Int) < 55296) = false ∧ decide ((56320 : Int) ≤ (v : Int)) = true ∧ decide ((v : Int) ≤ 57343) = false ∧ decide ((57343 : Int) < (v : Int)) = true)) := Lib.hid (fun w1 => (cH1.out w1).mono (fun e w' h => ⟨h, by simp; omega, by simp; omega, by simp; omega, by simp; omega⟩))
        have cE2 := Lib.hid (fun w1 => cE.out v w1 (by unfold scalar; omega))
        clear g1 g2 H4 cH1 cL1 hlb cE
        go_enter Tryd.func36, Tryd.ntmps36
        go_wp2_with fail
        refine (cH2.out _).mono ?_
        rintro e w2 ⟨⟨rfl, k2⟩, d1, d2, d3, d4⟩
        have HK := Lib.hid k2
        clear k2
        go_wp2_with fail
        refine (cE2.out _).mono ?_
        rintro e w3 ⟨rfl, k3⟩
        have HK3 := Lib.hid (HK.out.trans k3)
        clear k3
        go_wp2
        go_ret3
        exact RetU.of rfl rfl rfl HK3.out
      rw [if_neg (by simp only; omega)]
      by_cases g3 : 56320 ≤ v
      · rw [if_pos g3]
        have cH2 : Hid (∀ w1, Calls Tryd.prog 48 #[.string (s.extract 2 s.size)] w1 (fun e w' => Ret2 .i64 (v, 0) w1 e w' ∧ decide ((56320 : Int) ≤ (v : Int)) = true ∧ decide ((v : Int) ≤ 57343) = true)) := Lib.hid (fun w1 => (cH1.out w1).mono (fun e w' h => ⟨h, by simp; omega, by simp; omega⟩))
        clear g1 g2 g3 H4 cH1 cL1 hlb cE
        go_enter Tryd.func36, Tryd.ntmps36
        go_wp2_with fail
        refine (cH2.out _).mono ?_
        rintro e w2 ⟨⟨rfl, k2⟩, d1, d2⟩
        have HK := Lib.hid k2
        clear k2
        go_wp2
        go_ret3
        exact RetU.of rfl rfl rfl HK.out
      rw [if_neg g3]
      have cL2 := Lib.hid (fun w1 => cL1.out v w1 ⟨v - 55296, by omega, by omega⟩)
      have cH2 : Hid (∀ w1, Calls Tryd.prog 48 #[.string (s.extract 2 s.size)] w1 (fun e w' => Ret2 .i64 (v, 0) w1 e w' ∧ decide ((v : Int) < 55296) = false ∧ decide ((56320 : Int) ≤ (v : Int)) = false ∧ decide ((57343 : Int) < (v : Int)) = false)) := Lib.hid (fun w1 => (cH1.out w1).mono (fun e w' h => ⟨h, by simp; omega, by simp; omega, by simp; omega⟩))
      by_cases hy : y = 0
      · subst hy
        have hlb2 := hlb rfl
        have hsc : scalar (65536 + (v - 55296) * 1024 + (u - 56320)) := low_scalar v u (by omega) hlb2
        rw [if_neg (by simp)]
        have hse : secP v (u, 0) = (65536 + (v - 55296) * 1024 + (u - 56320), 0) := by unfold secP; rw [if_neg (by simp)]
        rw [hse] at cL2
        have cE2 := Lib.hid (fun w1 => cE.out _ w1 hsc)
        have hg : ∃ m, m = 65536 + (v - 55296) * 1024 + (u - 56320) := ⟨_, rfl⟩
        obtain ⟨m, hm⟩ := hg
        rw [← hm] at cL2 cE2
        have HR : Hid (RetU (Lib.encodeRune ((m : Nat) : Int), 12, 0) = RetU (Lib.encodeRune ((65536 + (v - 55296) * 1024 + (u - 56320) : Nat) : Int), 12, 0)) := Lib.hid (by rw [hm])
        show Calls _ _ _ _ (RetU (Lib.encodeRune ((65536 + (v - 55296) * 1024 + (u - 56320) : Nat) : Int), 12, 0) w)
        rw [← HR.out]
        clear g1 g2 g3 H4 cH1 cL1 hlb cE hlb2 hsc hse hm HR
        go_enter Tryd.func36, Tryd.ntmps36
        go_wp2_with fail
        refine (cH2.out _).mono ?_
        rintro e w2 ⟨⟨rfl, k2⟩, d1, d2, d3⟩
        have HK := Lib.hid k2
        clear k2
        go_wp2_with fail
        refine (cL2.out _).mono ?_
        rintro e w3 ⟨rfl, k3⟩
        have HK3 := Lib.hid (HK.out.trans k3)
        clear k3
        go_wp2_with fail
        refine (cE2.out _).mono ?_
        rintro e w4 ⟨rfl, k4⟩
        have HK4 := Lib.hid (HK3.out.trans k4)
        clear k4
        go_wp2
        go_ret3
        exact RetU.of rfl rfl rfl HK4.out
      · rw [if_pos hy]
        have hse : secP v (u, y) = (0, y) := by unfold secP; rw [if_pos hy]
        rw [hse] at cL2
        have f9 : ((y : Int) != 0) = true := by simp; omega
        clear g1 g2 g3 H4 cH1 cL1 hlb cE hse hy
        go_enter Tryd.func36, Tryd.ntmps36
        go_wp2_with fail
        refine (cH2.out _).mono ?_
        rintro e w2 ⟨⟨rfl, k2⟩, d1, d2, d3⟩
        have HK := Lib.hid k2
        clear k2
        go_wp2_with fail
        refine (cL2.out _).mono ?_
        rintro e w3 ⟨rfl, k3⟩
        have HK3 := Lib.hid (HK.out.trans k3)
        clear k3
        go_wp2
        go_ret3
        exact RetU.of rfl rfl rfl HK3.out
    · rw [if_pos hx]
      have f9 : ((x : Int) != 0) = true := by simp; omega
      clear h6 hb4 cL1 hlb cE hx
      go_enter Tryd.func36, Tryd.ntmps36
      go_wp2_with fail
      refine (cH1.out _).mono ?_
      rintro e w2 ⟨rfl, k2⟩
      have HK := Lib.hid k2
      clear k2
      go_wp2
      go_ret3
      exact RetU.of rfl rfl rfl HK.out
  · rw [if_neg hu]
    have f2 : (((s[1]'p1).toNat : Int) != 117) = true := by simp; omega
    have cS := Lib.hid (fun w1 => short_any (s[1]'p1) w1)
    clear hsl h2 hu
    cases hb : escB (s[1]'p1)
    · rw [if_neg (by decide)]
      rw [hb] at cS
      generalize escV (s[1]'p1) = v at *
      clear hb
      go_enter Tryd.func36, Tryd.ntmps36
      go_wp2_with fail
      refine (cS.out _).mono ?_
      rintro e w2 ⟨rfl, rfl⟩
      go_wp2
      go_ret3
      exact RetU.of rfl rfl rfl (Keeps.refl _)
    · rw [if_pos rfl]
      rw [hb] at cS
      generalize escV (s[1]'p1) = v at *
      clear hb
      have hcv := convG w.heap.size (w.alloc (.cells #[.int .u8 (v.toNat : Int)] 5)) [(v.toNat : Int)] [v] rfl (heap_alloc_new w _)
      simp only [List.length_cons, List.length_nil, Nat.zero_add] at hcv
      have HR : Hid (∃ R, R = S [v]) := Lib.hid ⟨_, rfl⟩
      obtain ⟨R, hR⟩ := HR.out
      rw [← hR] at hcv
      have HX := Lib.hid hR
      clear hR HR
      go_enter Tryd.func36, Tryd.ntmps36
      go_wp2_with fail
      refine (cS.out _).mono ?_
      rintro e w2 ⟨rfl, rfl⟩
      go_wp2
      go_ret3
      exact RetU.of HX.out rfl rfl ((Keeps.refl _).alloc _)
end Go.Proofs.YtbhgfdgdbbfeoaaDoor
