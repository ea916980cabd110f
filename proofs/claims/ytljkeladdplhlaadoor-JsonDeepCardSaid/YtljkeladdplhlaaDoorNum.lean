/-
  The contracts of ReadNumber, Word and Number of package scan.
-/
import Derived.Test.YtljkeladdplhlaaDoorVal
import Derived.WalkMore
import Derived.Lib.SmallJoins
namespace Go.Proofs.YtljkeladdplhlaaDoor
open Go.RowKit

theorem capN_snoc (l : List UInt8) (c : UInt8) : capN (l ++ [c]) = capS (capN l) c := by simp [capN]
theorem capS_range (n : Int) (c : UInt8) (h0 : 0 ≤ n) (h1 : n ≤ 90071992547409919) (hc : digB c = true) : 0 ≤ capS n c ∧ capS n c ≤ 90071992547409919 := by
  have hd : 48 ≤ c.toNat ∧ c.toNat ≤ 57 := of_decide_eq_true hc
  unfold capS
  split <;> omega
theorem digs_step (l : List UInt8) (c : UInt8) (h : digB c = true) : digs (c :: l) = c :: digs l := by simp [digs, List.takeWhile_cons, h]
theorem digs_stop (l : List UInt8) (c : UInt8) (h : digB c = false) : digs (c :: l) = [] := by simp [digs, List.takeWhile_cons, h]

/-- A call that answers a number, a size and an error. -/
def RetN (p : Int × Nat × Nat) (w : World) (e : Ending) (w' : World) : Prop := e = .returned (.tuple #[.int .i64 p.1, .int .i64 (p.2.1 : Int), .int .i64 (p.2.2 : Int)]) ∧ w' = w
theorem RetN.of {p : Int × Nat × Nat} {x y z : Int} {w : World} (h : p = (x, y.toNat, z.toNat)) (hy : 0 ≤ y) (hz : 0 ≤ z) : RetN p w (.returned (.tuple #[.int .i64 x, .int .i64 y, .int .i64 z])) w := by
  refine ⟨?_, rfl⟩
  rw [h]
  show _ = Ending.returned (.tuple #[.int .i64 x, .int .i64 ((y.toNat : Nat) : Int), .int .i64 ((z.toNat : Nat) : Int)])
  rw [Int.toNat_of_nonneg hy, Int.toNat_of_nonneg hz]
/-- What is known of the digits read so far. -/
def DigRel (l : List UInt8) (st k : Nat) (n : Int) : Prop := ∃ T : List UInt8, digs (l.drop st) = T ++ digs (l.drop k) ∧ T.length + st = k ∧ n = capN T ∧ 0 ≤ n ∧ n ≤ 90071992547409919
theorem DigRel.start (l : List UInt8) (st : Nat) : DigRel l st st 0 := ⟨[], rfl, by simp, rfl, by omega, by omega⟩
theorem DigRel.next {l : List UInt8} {st k : Nat} {n : Int} {c : UInt8} (h : DigRel l st k n) (hd : l.drop k = c :: l.drop (k + 1)) (hc : digB c = true) : DigRel l st (k + 1) (capS n c) := by
  obtain ⟨T, h1, h2, h3, h4, h5⟩ := h
  refine ⟨T ++ [c], ?_, by simp; omega, by rw [capN_snoc, h3], (capS_range n c h4 h5 hc).1, (capS_range n c h4 h5 hc).2⟩
  rw [h1, hd, digs_step _ _ hc]; simp
theorem DigRel.stop {l : List UInt8} {st k : Nat} {n : Int} (h : DigRel l st k n) (hd : digs (l.drop k) = []) : n = capN (digs (l.drop st)) ∧ k = st + (digs (l.drop st)).length := by
  obtain ⟨T, h1, h2, h3, _, _⟩ := h
  rw [hd, List.append_nil] at h1
  rw [h1]; exact ⟨h3, by omega⟩
theorem DigRel.range {l : List UInt8} {st k : Nat} {n : Int} (h : DigRel l st k n) : 0 ≤ n ∧ n ≤ 90071992547409919 := by
  obtain ⟨_, _, _, _, b0, b1⟩ := h; exact ⟨b0, b1⟩
theorem capS_big (n : Int) (c : UInt8) (h : 9007199254740991 < n) : capS n c = n := by unfold capS; rw [if_pos h]
theorem capS_small (n : Int) (c : UInt8) (h : ¬ 9007199254740991 < n) : capS n c = 10 * n + ((c.toNat : Int) - 48) := by unfold capS; rw [if_neg h]

set_option maxHeartbeats 8000000 in
set_option maxRecDepth 100000 in
theorem rn_0 (s : ByteArray) (w : World) (hs : s.size ≤ 1000000) (hp : Lib.hasPrefix s.data.toList [45] = false) : Calls Tryd.prog 77 #[.string s] w (RetN (readS 0 s.data.toList) w) := by
  have hsl : s.data.toList.length = s.size := by simp
  have cH : Hid (∀ w1, Calls Tryd.prog 79 #[.string s, .string ⟨#[45]⟩] w1 (fun e w' => e = .returned (.bool false) ∧ w' = w1)) := Lib.hid (fun w1 => by have := Tryd.strings_HasPrefix s ⟨#[45]⟩ w1; rwa [show (⟨#[45]⟩ : ByteArray).data.toList = [45] from rfl, hp] at this)
  skip
  clear hp
  by_cases h0 : 0 = s.size
  · have hr : readS 0 s.data.toList = (0, 0, 3) := by unfold readS; rw [if_pos (by omega)]
    rw [hr]
    have f1 : ((0 : Int) == (s.size : Int)) = true := by simp; omega
    clear hr hsl h0
    go_enter Tryd.func77, Tryd.ntmps77
    go_wp2
    go_step3
    go_wp2_with fail
    refine (cH.out _).mono ?_
    rintro e w2 ⟨rfl, rfl⟩
    go_wp2
    go_ret3
    exact RetN.of rfl (by decide) (by decide)
  have p0 : 0 < s.size := by omega
  have f0 : ((0 : Int) == (s.size : Int)) = false := by simp; omega
  have q0 : (0 : Int) < (s.size : Int) := by omega
  cases hd : digB (s[0]'p0)
  · have hr : readS 0 s.data.toList = (0, 0, 5) := by unfold readS; rw [if_neg (by omega), getD_at s _ p0, if_pos hd]
    rw [hr]
    have cD : Hid (∀ w1, Calls Tryd.prog 86 #[.int .u8 ((s[0]'p0).toNat : Int)] w1 (fun e w' => e = .returned (.bool false) ∧ w' = w1)) := Lib.hid (fun w1 => by have := digit_any (s[0]'p0) w1; rwa [hd] at this)
    clear hr hsl hd h0
    go_enter Tryd.func77, Tryd.ntmps77
    go_wp2
    go_step3
    go_wp2_with fail
    refine (cH.out _).mono ?_
    rintro e w2 ⟨rfl, rfl⟩
    go_wp2_with fail
    refine (cD.out _).mono ?_
    rintro e w2 ⟨rfl, rfl⟩
    go_wp2
    go_ret3
    exact RetN.of rfl (by decide) (by decide)
  have HR : Hid (∀ (k : Nat) (n : Int), DigRel s.data.toList 0 k n → digs (s.data.toList.drop k) = [] → readS 0 s.data.toList = if (s[0]'p0).toNat = 48 ∧ 1 < k then (0, 0, 5) else if 9007199254740991 < n then (0, 0, 4) else (n, k, 0)) := Lib.hid (fun k n h1 h2 => by
    obtain ⟨g1, g2⟩ := h1.stop h2
    unfold readS
    rw [if_neg (by omega), getD_at s _ p0, hd, if_neg (by decide), ← g1, ← g2]
    rfl)
  have cD0 : Hid (∀ w1, Calls Tryd.prog 86 #[.int .u8 ((s[0]'p0).toNat : Int)] w1 (fun e w' => e = .returned (.bool true) ∧ w' = w1)) := Lib.hid (fun w1 => by have := digit_any (s[0]'p0) w1; rwa [hd] at this)
  have cD := Lib.hid (fun c w1 => digit_any c w1)
  have HA := Lib.hid (fun k (hk : k < s.size) => drop_at s k hk)
  have HE : Hid (s.data.toList.drop s.size = []) := Lib.hid (by rw [← hsl]; exact List.drop_length)
  have H0 := Lib.hid (DigRel.start s.data.toList 0)
  generalize hp9 : readS 0 s.data.toList = p at HR ⊢
  generalize s.data.toList = l at *
  clear hsl hd h0 hp9
  go_enter Tryd.func77, Tryd.ntmps77
  go_wp2
  go_step3
  go_wp2_with fail
  refine (cH.out _).mono ?_
  rintro e w2 ⟨rfl, rfl⟩
  go_wp2_with fail
  refine (cD0.out _).mono ?_
  rintro e w2 ⟨rfl, rfl⟩
  go_wp2
  go_step3
  go_wp2
  go_loopw [2, 6] (fun nv i wr => ∃ (k : Nat) (n : Int), 0 ≤ k ∧ k ≤ s.size ∧ i = .int .i64 (k : Int) ∧ nv = .int .i64 n ∧ Hid (DigRel l 0 k n) ∧ wr = w2) (fun _ i _ => s.size - (intOf i).toNat)
  case atStart => exact ⟨0, 0, by omega, by omega, rfl, rfl, H0, rfl⟩
  case round =>
    obtain ⟨k, n, hk0, hk, rfl, rfl, hD, rfl⟩ := hrel
    by_cases hlt : k < s.size
    · have hA := HA.out k hlt
      have cDk := Lib.hid (fun w1 => cD.out (s[k]'hlt) w1)
      cases hb : digB (s[k]'hlt)
      · have HR1 := Lib.hid (HR.out k n hD.out (by rw [hA, digs_stop _ _ hb]))
        rw [hb] at cDk
        clear hA hb
        by_cases hz : (s[0]'p0).toNat = 48 ∧ 1 < k
        · have HX := Lib.hid (HR1.out.trans (if_pos hz))
          have cE := Lib.hid (fun w1 => (cDk.out w1).mono (fun e w' h => And.intro h (And.intro (show (((s[0]'p0).toNat : Int) == 48) = true by simp; omega) (show decide ((1 : Int) < (k : Int)) = true by simp; omega))))
          clear hz HR1 HR hD cDk
          go_wp2_with fail
          refine (cE.out _).mono ?_
          rintro e w3 ⟨⟨rfl, rfl⟩, d1, d2⟩
          go_wp2
          go_ret3
          exact RetN.of HX.out (by decide) (by decide)
        ·
          have hx := HR1.out.trans (if_neg hz)
          obtain ⟨b0, b1⟩ := hD.out.range
          by_cases hbig : 9007199254740991 < n
          · have HX := Lib.hid (hx.trans (if_pos hbig))
            clear hx
            by_cases c48 : (s[0]'p0).toNat = 48
            · have cE := Lib.hid (fun w1 => (cDk.out w1).mono (fun e w' h => And.intro h (And.intro (show (((s[0]'p0).toNat : Int) == 48) = true by simp; omega) (And.intro (show decide ((1 : Int) < (k : Int)) = false by simp; omega) (show decide ((9007199254740991 : Int) < n) = true by simp; omega)))))
              clear hz HR1 HR hD cDk hbig c48
              go_wp2_with fail
              refine (cE.out _).mono ?_
              rintro e w3 ⟨⟨rfl, rfl⟩, d1, d2, d3⟩
              go_wp2
              go_ret3
              exact RetN.of HX.out (by decide) (by decide)
            · have cE := Lib.hid (fun w1 => (cDk.out w1).mono (fun e w' h => And.intro h (And.intro (show (((s[0]'p0).toNat : Int) == 48) = false by simp; omega) (show decide ((9007199254740991 : Int) < n) = true by simp; omega))))
              clear hz HR1 HR hD cDk hbig c48
              go_wp2_with fail
              refine (cE.out _).mono ?_
              rintro e w3 ⟨⟨rfl, rfl⟩, d1, d2⟩
              go_wp2
              go_ret3
              exact RetN.of HX.out (by decide) (by decide)
          · have HX := Lib.hid (hx.trans (if_neg hbig))
            clear hx
            by_cases c48 : (s[0]'p0).toNat = 48
            · have cE := Lib.hid (fun w1 => (cDk.out w1).mono (fun e w' h => And.intro h (And.intro (show (((s[0]'p0).toNat : Int) == 48) = true by simp; omega) (And.intro (show decide ((1 : Int) < (k : Int)) = false by simp; omega) (And.intro (show decide ((9007199254740991 : Int) < n) = false by simp; omega) (And.intro (show (0 : Int) ≤ n by omega) (show n ≤ 9007199254740991 by omega)))))))
              clear hz HR1 HR hD cDk hbig c48
              go_wp2_with fail
              refine (cE.out _).mono ?_
              rintro e w3 ⟨⟨rfl, rfl⟩, d1, d2, d3, d4, d5⟩
              go_wp2
              go_ret3
              exact RetN.of (by rw [HX.out]; rfl) (by omega) (by decide)
            · have cE := Lib.hid (fun w1 => (cDk.out w1).mono (fun e w' h => And.intro h (And.intro (show (((s[0]'p0).toNat : Int) == 48) = false by simp; omega) (And.intro (show decide ((9007199254740991 : Int) < n) = false by simp; omega) (And.intro (show (0 : Int) ≤ n by omega) (show n ≤ 9007199254740991 by omega))))))
              clear hz HR1 HR hD cDk hbig c48
              go_wp2_with fail
              refine (cE.out _).mono ?_
              rintro e w3 ⟨⟨rfl, rfl⟩, d1, d2, d3, d4⟩
              go_wp2
              go_ret3
              exact RetN.of (by rw [HX.out]; rfl) (by omega) (by decide)
      · have hN := Lib.hid (hD.out.next hA hb)
        rw [hb] at cDk
        have hd2 : 48 ≤ (s[k]'hlt).toNat ∧ (s[k]'hlt).toNat ≤ 57 := of_decide_eq_true hb
        obtain ⟨b0, b1⟩ := hD.out.range
        clear hA hb
        by_cases hbig : 9007199254740991 < n
        · have HN := Lib.hid (by have := hN.out; rwa [capS_big _ _ hbig] at this)
          have cE := Lib.hid (fun w1 => (cDk.out w1).mono (fun e w' h => And.intro h (show decide ((9007199254740991 : Int) < n) = true by simp; omega)))
          clear hbig hN hD cDk hd2 b0 b1 HR
          go_wp2_with fail
          refine (cE.out _).mono ?_
          rintro e w3 ⟨⟨rfl, rfl⟩, d1⟩
          go_wp2
          go_roundw
          case rel => exact ⟨k + 1, n, by omega, by omega, by go_num, rfl, HN, by first | rfl | trivial⟩
          case measure => simp [intOf]; omega
        · have HN := Lib.hid (by have := hN.out; rwa [capS_small _ _ hbig] at this)
          have cE := Lib.hid (fun w1 => (cDk.out w1).mono (fun e w' h => And.intro h (And.intro (show decide ((9007199254740991 : Int) < n) = false by simp; omega) (And.intro (show (0 : Int) ≤ n by omega) (And.intro (show n ≤ 9007199254740991 by omega) (And.intro (show (48 : Int) ≤ ((s[k]'hlt).toNat : Int) by omega) (show ((s[k]'hlt).toNat : Int) ≤ 57 by omega)))))))
          clear hbig hN hD cDk hd2 b0 b1 HR
          go_wp2_with fail
          refine (cE.out _).mono ?_
          rintro e w3 ⟨⟨rfl, rfl⟩, d1, d2, d3, d4, d5⟩
          go_wp2
          go_roundw
          case rel => exact ⟨k + 1, _, by omega, by omega, by go_num, rfl, by simpa using HN, by first | rfl | trivial⟩
          case measure => simp [intOf]; omega
    · obtain rfl : k = s.size := by omega
      have HR1 := Lib.hid (HR.out s.size n hD.out (by rw [HE.out]; rfl))
      by_cases hz : (s[0]'p0).toNat = 48 ∧ 1 < s.size
      · have HX := Lib.hid (HR1.out.trans (if_pos hz))
        have d1 : (((s[0]'p0).toNat : Int) == 48) = true := by simp; omega
        have d2 : decide ((1 : Int) < (s.size : Int)) = true := by simp; omega
        clear hz HR1 HR hD HE
        go_wp2
        go_ret3
        exact RetN.of HX.out (by decide) (by decide)
      have hx := HR1.out.trans (if_neg hz)
      obtain ⟨b0, b1⟩ := hD.out.range
      by_cases hbig : 9007199254740991 < n
      · have HX := Lib.hid (hx.trans (if_pos hbig))
        clear hx
        by_cases c48 : (s[0]'p0).toNat = 48
        · have d1 : (((s[0]'p0).toNat : Int) == 48) = true := by simp; omega
          have d2 : decide ((1 : Int) < (s.size : Int)) = false := by simp; omega
          have d3 : decide ((9007199254740991 : Int) < n) = true := by simp; omega
          clear hz HR1 HR hD hbig c48 HE
          go_wp2
          go_ret3
          exact RetN.of HX.out (by decide) (by decide)
        · have d1 : (((s[0]'p0).toNat : Int) == 48) = false := by simp; omega
          have d2 : decide ((9007199254740991 : Int) < n) = true := by simp; omega
          clear hz HR1 HR hD hbig c48 HE
          go_wp2
          go_ret3
          exact RetN.of HX.out (by decide) (by decide)
      · have HX := Lib.hid (hx.trans (if_neg hbig))
        clear hx
        by_cases c48 : (s[0]'p0).toNat = 48
        · have d1 : (((s[0]'p0).toNat : Int) == 48) = true := by simp; omega
          have d2 : decide ((1 : Int) < (s.size : Int)) = false := by simp; omega
          have d3 : decide ((9007199254740991 : Int) < n) = false := by simp; omega
          have d4 : (0 : Int) ≤ n := by omega
          have d5 : n ≤ 9007199254740991 := by omega
          clear hz HR1 HR hD hbig c48 HE
          go_wp2
          go_ret3
          exact RetN.of (by rw [HX.out]; rfl) (by omega) (by decide)
        · have d1 : (((s[0]'p0).toNat : Int) == 48) = false := by simp; omega
          have d2 : decide ((9007199254740991 : Int) < n) = false := by simp; omega
          have d3 : (0 : Int) ≤ n := by omega
          have d4 : n ≤ 9007199254740991 := by omega
          clear hz HR1 HR hD hbig c48 HE
          go_wp2
          go_ret3
          exact RetN.of (by rw [HX.out]; rfl) (by omega) (by decide)
set_option maxHeartbeats 8000000 in
set_option maxRecDepth 100000 in
theorem rn_1 (s : ByteArray) (w : World) (hs : s.size ≤ 1000000) (hp : Lib.hasPrefix s.data.toList [45] = true) : Calls Tryd.prog 77 #[.string s] w (RetN (readS 1 s.data.toList) w) := by
  have hsl : s.data.toList.length = s.size := by simp
  have cH : Hid (∀ w1, Calls Tryd.prog 79 #[.string s, .string ⟨#[45]⟩] w1 (fun e w' => e = .returned (.bool true) ∧ w' = w1)) := Lib.hid (fun w1 => by have := Tryd.strings_HasPrefix s ⟨#[45]⟩ w1; rwa [show (⟨#[45]⟩ : ByteArray).data.toList = [45] from rfl, hp] at this)
  have hz : 1 ≤ s.size := by
    cases e : s.data.toList with
    | nil => rw [e] at hp; exact absurd hp (by decide)
    | cons c t => rw [e] at hsl; simp at hsl; omega
  clear hp
  by_cases h0 : 1 = s.size
  · have hr : readS 1 s.data.toList = (0, 0, 3) := by unfold readS; rw [if_pos (by omega)]
    rw [hr]
    have f1 : ((1 : Int) == (s.size : Int)) = true := by simp; omega
    clear hr hsl h0
    go_enter Tryd.func77, Tryd.ntmps77
    go_wp2
    go_step3
    go_wp2_with fail
    refine (cH.out _).mono ?_
    rintro e w2 ⟨rfl, rfl⟩
    go_wp2
    go_ret3
    exact RetN.of rfl (by decide) (by decide)
  have p0 : 1 < s.size := by omega
  have f0 : ((1 : Int) == (s.size : Int)) = false := by simp; omega
  have q0 : (1 : Int) < (s.size : Int) := by omega
  cases hd : digB (s[1]'p0)
  · have hr : readS 1 s.data.toList = (0, 0, 5) := by unfold readS; rw [if_neg (by omega), getD_at s _ p0, if_pos hd]
    rw [hr]
    have cD : Hid (∀ w1, Calls Tryd.prog 86 #[.int .u8 ((s[1]'p0).toNat : Int)] w1 (fun e w' => e = .returned (.bool false) ∧ w' = w1)) := Lib.hid (fun w1 => by have := digit_any (s[1]'p0) w1; rwa [hd] at this)
    clear hr hsl hd h0
    go_enter Tryd.func77, Tryd.ntmps77
    go_wp2
    go_step3
    go_wp2_with fail
    refine (cH.out _).mono ?_
    rintro e w2 ⟨rfl, rfl⟩
    go_wp2_with fail
    refine (cD.out _).mono ?_
    rintro e w2 ⟨rfl, rfl⟩
    go_wp2
    go_ret3
    exact RetN.of rfl (by decide) (by decide)
  have HR : Hid (∀ (k : Nat) (n : Int), DigRel s.data.toList 1 k n → digs (s.data.toList.drop k) = [] → readS 1 s.data.toList = if (s[1]'p0).toNat = 48 ∧ 1 < k then (0, 0, 5) else if 9007199254740991 < n then (0, 0, 4) else (-n, k, 0)) := Lib.hid (fun k n h1 h2 => by
    obtain ⟨g1, g2⟩ := h1.stop h2
    unfold readS
    rw [if_neg (by omega), getD_at s _ p0, hd, if_neg (by decide), ← g1, ← g2]
    rfl)
  have cD0 : Hid (∀ w1, Calls Tryd.prog 86 #[.int .u8 ((s[1]'p0).toNat : Int)] w1 (fun e w' => e = .returned (.bool true) ∧ w' = w1)) := Lib.hid (fun w1 => by have := digit_any (s[1]'p0) w1; rwa [hd] at this)
  have cD := Lib.hid (fun c w1 => digit_any c w1)
  have HA := Lib.hid (fun k (hk : k < s.size) => drop_at s k hk)
  have HE : Hid (s.data.toList.drop s.size = []) := Lib.hid (by rw [← hsl]; exact List.drop_length)
  have H0 := Lib.hid (DigRel.start s.data.toList 1)
  generalize hp9 : readS 1 s.data.toList = p at HR ⊢
  generalize s.data.toList = l at *
  clear hsl hd h0 hp9
  go_enter Tryd.func77, Tryd.ntmps77
  go_wp2
  go_step3
  go_wp2_with fail
  refine (cH.out _).mono ?_
  rintro e w2 ⟨rfl, rfl⟩
  go_wp2_with fail
  refine (cD0.out _).mono ?_
  rintro e w2 ⟨rfl, rfl⟩
  go_wp2
  go_step3
  go_wp2
  go_loopw [2, 6] (fun nv i wr => ∃ (k : Nat) (n : Int), 1 ≤ k ∧ k ≤ s.size ∧ i = .int .i64 (k : Int) ∧ nv = .int .i64 n ∧ Hid (DigRel l 1 k n) ∧ wr = w2) (fun _ i _ => s.size - (intOf i).toNat)
  case atStart => exact ⟨1, 0, by omega, by omega, rfl, rfl, H0, rfl⟩
  case round =>
    obtain ⟨k, n, hk0, hk, rfl, rfl, hD, rfl⟩ := hrel
    by_cases hlt : k < s.size
    · have hA := HA.out k hlt
      have cDk := Lib.hid (fun w1 => cD.out (s[k]'hlt) w1)
      cases hb : digB (s[k]'hlt)
      · have HR1 := Lib.hid (HR.out k n hD.out (by rw [hA, digs_stop _ _ hb]))
        rw [hb] at cDk
        clear hA hb
        by_cases hz : (s[1]'p0).toNat = 48 ∧ 1 < k
        · have HX := Lib.hid (HR1.out.trans (if_pos hz))
          have cE := Lib.hid (fun w1 => (cDk.out w1).mono (fun e w' h => And.intro h (And.intro (show (((s[1]'p0).toNat : Int) == 48) = true by simp; omega) (show decide ((1 : Int) < (k : Int)) = true by simp; omega))))
          clear hz HR1 HR hD cDk
          go_wp2_with fail
          refine (cE.out _).mono ?_
          rintro e w3 ⟨⟨rfl, rfl⟩, d1, d2⟩
          go_wp2
          go_ret3
          exact RetN.of HX.out (by decide) (by decide)
        ·
          have hx := HR1.out.trans (if_neg hz)
          obtain ⟨b0, b1⟩ := hD.out.range
          by_cases hbig : 9007199254740991 < n
          · have HX := Lib.hid (hx.trans (if_pos hbig))
            clear hx
            by_cases c48 : (s[1]'p0).toNat = 48
            · have cE := Lib.hid (fun w1 => (cDk.out w1).mono (fun e w' h => And.intro h (And.intro (show (((s[1]'p0).toNat : Int) == 48) = true by simp; omega) (And.intro (show decide ((1 : Int) < (k : Int)) = false by simp; omega) (show decide ((9007199254740991 : Int) < n) = true by simp; omega)))))
              clear hz HR1 HR hD cDk hbig c48
              go_wp2_with fail
              refine (cE.out _).mono ?_
              rintro e w3 ⟨⟨rfl, rfl⟩, d1, d2, d3⟩
              go_wp2
              go_ret3
              exact RetN.of HX.out (by decide) (by decide)
            · have cE := Lib.hid (fun w1 => (cDk.out w1).mono (fun e w' h => And.intro h (And.intro (show (((s[1]'p0).toNat : Int) == 48) = false by simp; omega) (show decide ((9007199254740991 : Int) < n) = true by simp; omega))))
              clear hz HR1 HR hD cDk hbig c48
              go_wp2_with fail
              refine (cE.out _).mono ?_
              rintro e w3 ⟨⟨rfl, rfl⟩, d1, d2⟩
              go_wp2
              go_ret3
              exact RetN.of HX.out (by decide) (by decide)
          · have HX := Lib.hid (hx.trans (if_neg hbig))
            clear hx
            by_cases c48 : (s[1]'p0).toNat = 48
            · have cE := Lib.hid (fun w1 => (cDk.out w1).mono (fun e w' h => And.intro h (And.intro (show (((s[1]'p0).toNat : Int) == 48) = true by simp; omega) (And.intro (show decide ((1 : Int) < (k : Int)) = false by simp; omega) (And.intro (show decide ((9007199254740991 : Int) < n) = false by simp; omega) (And.intro (show (0 : Int) ≤ n by omega) (show n ≤ 9007199254740991 by omega)))))))
              clear hz HR1 HR hD cDk hbig c48
              go_wp2_with fail
              refine (cE.out _).mono ?_
              rintro e w3 ⟨⟨rfl, rfl⟩, d1, d2, d3, d4, d5⟩
              go_wp2
              go_ret3
              exact RetN.of (by rw [HX.out]; rfl) (by omega) (by decide)
            · have cE := Lib.hid (fun w1 => (cDk.out w1).mono (fun e w' h => And.intro h (And.intro (show (((s[1]'p0).toNat : Int) == 48) = false by simp; omega) (And.intro (show decide ((9007199254740991 : Int) < n) = false by simp; omega) (And.intro (show (0 : Int) ≤ n by omega) (show n ≤ 9007199254740991 by omega))))))
              clear hz HR1 HR hD cDk hbig c48
              go_wp2_with fail
              refine (cE.out _).mono ?_
              rintro e w3 ⟨⟨rfl, rfl⟩, d1, d2, d3, d4⟩
              go_wp2
              go_ret3
              exact RetN.of (by rw [HX.out]; rfl) (by omega) (by decide)
      · have hN := Lib.hid (hD.out.next hA hb)
        rw [hb] at cDk
        have hd2 : 48 ≤ (s[k]'hlt).toNat ∧ (s[k]'hlt).toNat ≤ 57 := of_decide_eq_true hb
        obtain ⟨b0, b1⟩ := hD.out.range
        clear hA hb
        by_cases hbig : 9007199254740991 < n
        · have HN := Lib.hid (by have := hN.out; rwa [capS_big _ _ hbig] at this)
          have cE := Lib.hid (fun w1 => (cDk.out w1).mono (fun e w' h => And.intro h (show decide ((9007199254740991 : Int) < n) = true by simp; omega)))
          clear hbig hN hD cDk hd2 b0 b1 HR
          go_wp2_with fail
          refine (cE.out _).mono ?_
          rintro e w3 ⟨⟨rfl, rfl⟩, d1⟩
          go_wp2
          go_roundw
          case rel => exact ⟨k + 1, n, by omega, by omega, by go_num, rfl, HN, by first | rfl | trivial⟩
          case measure => simp [intOf]; omega
        · have HN := Lib.hid (by have := hN.out; rwa [capS_small _ _ hbig] at this)
          have cE := Lib.hid (fun w1 => (cDk.out w1).mono (fun e w' h => And.intro h (And.intro (show decide ((9007199254740991 : Int) < n) = false by simp; omega) (And.intro (show (0 : Int) ≤ n by omega) (And.intro (show n ≤ 9007199254740991 by omega) (And.intro (show (48 : Int) ≤ ((s[k]'hlt).toNat : Int) by omega) (show ((s[k]'hlt).toNat : Int) ≤ 57 by omega)))))))
          clear hbig hN hD cDk hd2 b0 b1 HR
          go_wp2_with fail
          refine (cE.out _).mono ?_
          rintro e w3 ⟨⟨rfl, rfl⟩, d1, d2, d3, d4, d5⟩
          go_wp2
          go_roundw
          case rel => exact ⟨k + 1, _, by omega, by omega, by go_num, rfl, by simpa using HN, by first | rfl | trivial⟩
          case measure => simp [intOf]; omega
    · obtain rfl : k = s.size := by omega
      have HR1 := Lib.hid (HR.out s.size n hD.out (by rw [HE.out]; rfl))
      by_cases hz : (s[1]'p0).toNat = 48 ∧ 1 < s.size
      · have HX := Lib.hid (HR1.out.trans (if_pos hz))
        have d1 : (((s[1]'p0).toNat : Int) == 48) = true := by simp; omega
        have d2 : decide ((1 : Int) < (s.size : Int)) = true := by simp; omega
        clear hz HR1 HR hD HE
        go_wp2
        go_ret3
        exact RetN.of HX.out (by decide) (by decide)
      have hx := HR1.out.trans (if_neg hz)
      obtain ⟨b0, b1⟩ := hD.out.range
      by_cases hbig : 9007199254740991 < n
      · have HX := Lib.hid (hx.trans (if_pos hbig))
        clear hx
        by_cases c48 : (s[1]'p0).toNat = 48
        · exact absurd ⟨c48, p0⟩ hz
        · have d1 : (((s[1]'p0).toNat : Int) == 48) = false := by simp; omega
          have d2 : decide ((9007199254740991 : Int) < n) = true := by simp; omega
          clear hz HR1 HR hD hbig c48 HE
          go_wp2
          go_ret3
          exact RetN.of HX.out (by decide) (by decide)
      · have HX := Lib.hid (hx.trans (if_neg hbig))
        clear hx
        by_cases c48 : (s[1]'p0).toNat = 48
        · exact absurd ⟨c48, p0⟩ hz
        · have d1 : (((s[1]'p0).toNat : Int) == 48) = false := by simp; omega
          have d2 : decide ((9007199254740991 : Int) < n) = false := by simp; omega
          have d3 : (0 : Int) ≤ n := by omega
          have d4 : n ≤ 9007199254740991 := by omega
          clear hz HR1 HR hD hbig c48 HE
          go_wp2
          go_ret3
          exact RetN.of (by rw [HX.out]; rfl) (by omega) (by decide)
end Go.Proofs.YtljkeladdplhlaaDoor
