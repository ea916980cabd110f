/-
  The walk of the statement on escapes of package scan.
-/
import Derived.Test.YtbhgfdgdbbfeoaaDoorDig
namespace Go.Proofs.YtbhgfdgdbbfeoaaDoor
open Go.RowKit

theorem dg_hex : ∀ g k, k < 16 → hexB (dg g k) = true ∧ hexV (dg g k) = k := by
  have h : ∀ g : Bool, ∀ k, k < 16 → hexB (dg g k) = true ∧ hexV (dg g k) = k := by decide
  exact h
theorem dig_hex (g : Bool) (n : Nat) (hn : n ≤ 65535) (t : List UInt8) : hex4 (digL g n ++ t) = (n, 0) := by
  have a := dg_hex g (n / 4096 % 16) (by omega)
  have b := dg_hex g (n / 256 % 16) (by omega)
  have c := dg_hex g (n / 16 % 16) (by omega)
  have d := dg_hex g (n % 16) (by omega)
  have := hex4_at _ _ _ _ t a.1 b.1 c.1 d.1
  rw [a.2, b.2, c.2, d.2] at this
  show hex4 (dg g (n / 4096 % 16) :: dg g (n / 256 % 16) :: dg g (n / 16 % 16) :: dg g (n % 16) :: t) = _
  rw [this]
  congr 1
  omega
theorem unq_one (l t o : List UInt8) (n : Nat) (hh : (l.getD 0 0).toNat ≠ 34) (hn : l ≠ []) (hp : pieceL l = (o, n, 0)) (hd : l.drop n = 34 :: t) : unqL (34 :: l) = (o, n + 2, 0) := by
  rw [unqL_cons 34 l rfl]
  have hl : 1 ≤ l.length := List.length_pos_iff.2 hn
  obtain ⟨k, hk⟩ : ∃ k, l.length = k + 1 := ⟨l.length - 1, by omega⟩
  rw [hk, unqF_more (k + 1) l hn hh (by rw [hp]), hp]
  simp only
  rw [hd, unqF_end k 34 t rfl, if_neg (by simp)]
  simp [joinU]; omega
theorem unq_oneE (l : List UInt8) (e : Nat) (hh : (l.getD 0 0).toNat ≠ 34) (hn : l ≠ []) (he : e ≠ 0) (hp : pieceL l = ([], 0, e)) : unqL (34 :: l) = ([], 0, e) := by
  rw [unqL_cons 34 l rfl, unqF_bad _ l hn hh (by rw [hp]; exact he), hp]
  simp [joinU, he]
theorem digs4 (g : Bool) (n : Nat) (hn : n ≤ 65535) : ∃ a b c d, digL g n = [a, b, c, d] ∧ ∀ t, hex4 (a :: b :: c :: d :: t) = (n, 0) :=
  ⟨_, _, _, _, rfl, fun t => dig_hex g n hn t⟩
theorem unq_bmp (g : Bool) (v : Nat) (h : v < 55296 ∨ 57343 < v) (h2 : v < 65536) : unqL ([34, 92, 117] ++ digL g v ++ [34]) = (Lib.encodeRune (v : Int), 8, 0) := by
  obtain ⟨a1, a2, a3, a4, ea, ha⟩ := digs4 g v (by omega)
  rw [ea]
  have hp := code_at (a1 :: a2 :: a3 :: a4 :: [34]) v (ha _) h
  exact unq_one (92 :: 117 :: a1 :: a2 :: a3 :: a4 :: [34]) [] _ 6 (by simp) (by simp) hp rfl
theorem unq_hi (g : Bool) (c : Nat) (h : 65536 ≤ c) (h2 : c ≤ 1114111) : unqL ([34, 92, 117] ++ digL g (55296 + (c - 65536) / 1024) ++ [92, 117] ++ digL g (56320 + (c - 65536) % 1024) ++ [34]) = (Lib.encodeRune (c : Int), 14, 0) := by
  obtain ⟨x, hx⟩ : ∃ x, 55296 + (c - 65536) / 1024 = x := ⟨_, rfl⟩
  obtain ⟨y, hy⟩ : ∃ y, 56320 + (c - 65536) % 1024 = y := ⟨_, rfl⟩
  rw [hx, hy]
  obtain ⟨a1, a2, a3, a4, ea, ha⟩ := digs4 g x (by omega)
  obtain ⟨b1, b2, b3, b4, eb, hb⟩ := digs4 g y (by omega)
  rw [ea, eb]
  have hl : lowS (92 :: 117 :: b1 :: b2 :: b3 :: b4 :: [34]) = (y, 0) := by
    rw [lowS_u]; unfold lowT
    rw [hb, if_neg (by simp), if_neg (by simp only; omega)]
  have hp := code_sur a1 a2 a3 a4 (92 :: 117 :: b1 :: b2 :: b3 :: b4 :: [34]) x (ha _) (by omega) (by omega)
  rw [hl, if_neg (by simp)] at hp
  have ec : 65536 + (x - 55296) * 1024 + (y - 56320) = c := by omega
  simp only [ec] at hp
  exact unq_one (92 :: 117 :: a1 :: a2 :: a3 :: a4 :: 92 :: 117 :: b1 :: b2 :: b3 :: b4 :: [34]) [] _ 12 (by simp) (by simp) hp rfl
theorem unq_half (g : Bool) (v : Nat) (h : 55296 ≤ v) (h2 : v ≤ 57343) : unqL ([34, 92, 117] ++ digL g v ++ [34]) = ([], 0, 6) := by
  obtain ⟨a1, a2, a3, a4, ea, ha⟩ := digs4 g v (by omega)
  rw [ea]
  refine unq_oneE (92 :: 117 :: a1 :: a2 :: a3 :: a4 :: [34]) 6 (by simp) (by simp) (by decide) ?_
  by_cases h3 : v < 56320
  · have hp := code_sur a1 a2 a3 a4 [34] v (ha _) h h3
    have hl : lowS [34] = (0, 6) := by decide
    rw [hl, if_pos (by decide)] at hp
    exact hp
  · rw [piece_u]
    unfold codeL
    have e2 : (92 :: 117 :: a1 :: a2 :: a3 :: a4 :: [34]).drop 2 = a1 :: a2 :: a3 :: a4 :: [34] := rfl
    rw [e2, ha, if_neg (by simp), if_neg (by simp only; omega), if_pos (by simp only; omega)]

/-- What is read of the literal of a code point. -/
theorem escR_read (g : Bool) (c : Int) (h : (escR g c).2 = true) : ∃ n : Nat, c = n ∧ scalar n ∧ unqL (escR g c).1 = (Lib.encodeRune (n : Int), (escR g c).1.length, 0) ∧ (escR g c).1.length ≤ 14 := by
  revert h
  unfold escR
  by_cases h1 : c < 0 ∨ 1114111 < c ∨ (55296 ≤ c ∧ c ≤ 57343)
  · rw [if_pos h1]; intro h; simp at h
  · rw [if_neg h1]
    obtain ⟨n, rfl⟩ : ∃ n : Nat, c = n := ⟨c.toNat, by omega⟩
    rw [Int.toNat_natCast]
    by_cases h4 : (n : Int) < 65536
    · rw [if_pos h4]; intro _
      refine ⟨n, rfl, by unfold scalar; omega, ?_, by simp [digL]⟩
      rw [unq_bmp g n (by omega) (by omega)]; simp [digL]
    · rw [if_neg h4]; intro _
      refine ⟨n, rfl, by unfold scalar; omega, ?_, by simp [digL]⟩
      rw [unq_hi g n (by omega) (by omega)]; simp [digL]
theorem enc_inj (a b : Nat) (ha : scalar a) (hb : scalar b) (h : Lib.encodeRune (a : Int) = Lib.encodeRune (b : Int)) : a = b := by
  have h1 := dec_enc a ha []
  rw [h, dec_enc b hb []] at h1
  exact (congrArg Prod.fst h1).symm
theorem Pts.one (r : Nat) (h : scalar r) : Pts (Lib.encodeRune (r : Int)) := by
  have := Pts.cons r [] h .nil
  rwa [List.append_nil] at this

abbrev CE (c : Int) (g : Bool) (a : ByteArray) (b : Bool) : Prop := Hid (∀ w1, Calls Tryd.prog 25 #[.int .i64 c, .bool g] w1 (fun e w' => e = .returned (.tuple #[.string a, .bool b]) ∧ Keeps w1 w'))
abbrev CU' (s : ByteArray) (o : ByteArray) (n e : Int) : Prop := Hid (∀ w1, Utf w1 → Calls Tryd.prog 9 #[.string s] w1 (fun e' w' => e' = .returned (.tuple #[.string o, .int .i64 n, .int .i64 e]) ∧ Keeps w1 w'))

set_option maxHeartbeats 4000000 in
theorem le_n1_false (c d : Int) (a b : ByteArray) (al : Bool) (h : Nat) (lit D : ByteArray) (w : World) (HU : Hid (Utf w)) (hD : D.size ≤ 4)
    (cA : CE c false a false) (cB : CE d true b al)
    (cP : Hid (∀ w1, Calls Tryd.prog 24 #[.int .i64 c, .int .i64 2048] w1 (fun e w' => (e = .returned (.int .i64 (h : Int)) ∧ (h : Int) < 2048) ∧ w' = w1)))
    (cD : Hid (∀ w1, Calls Tryd.prog 26 #[.int .i64 ((h : Int) + 55296), .bool false] w1 (fun e w' => e = .returned (.string D) ∧ Keeps w1 w')))
    (cU : CU' ((⟨#[34, 92, 117]⟩ : ByteArray) ++ D ++ ⟨#[34]⟩) ⟨#[]⟩ 0 6) :
    Calls Tryd.prog 7 #[.int .i64 c, .int .i64 d, .bool false] w (RetQ true w) := by
  have cL := Lib.hid (fun w1 => lives_any w1)
  go_enter Tryd.func7, Tryd.ntmps7
  go_wp2_with fail
  refine (cL.out _).mono ?_
  rintro e w2 ⟨rfl, k2⟩
  have K2 := Lib.hid k2
  clear k2
  go_wp2_with fail
  refine (cA.out _).mono ?_
  rintro e w3 ⟨rfl, k3⟩
  have K3 := Lib.hid (K2.out.trans k3)
  clear k3
  go_wp2_with fail
  refine (cB.out _).mono ?_
  rintro e w4 ⟨rfl, k4⟩
  have K4 := Lib.hid (K3.out.trans k4)
  clear k4
  go_wp2_with fail
  refine (cP.out _).mono ?_
  rintro e w5 ⟨⟨rfl, b0⟩, rfl⟩
  go_wp2_with fail
  refine (cD.out _).mono ?_
  rintro e w6 ⟨rfl, k6⟩
  have K6 := Lib.hid (K4.out.trans k6)
  clear k6 b0
  go_wp2_with fail
  refine (cU.out _ (HU.out.keeps K6.out)).mono ?_
  rintro e w7 ⟨rfl, k7⟩
  have K7 := Lib.hid (K6.out.trans k7)
  clear k7
  go_wp2
  go_ret
  exact RetQ.of (by first | rfl | simp) K7.out

set_option maxHeartbeats 4000000 in
theorem le_n2_false (c d : Int) (a b : ByteArray) (al : Bool) (h : Nat) (lit D : ByteArray) (w : World) (HU : Hid (Utf w)) (hD : D.size ≤ 4)
    (cA : CE c false a true) (cB : CE d true b false)
    (cP : Hid (∀ w1, Calls Tryd.prog 24 #[.int .i64 c, .int .i64 2048] w1 (fun e w' => (e = .returned (.int .i64 (h : Int)) ∧ (h : Int) < 2048) ∧ w' = w1)))
    (cD : Hid (∀ w1, Calls Tryd.prog 26 #[.int .i64 ((h : Int) + 55296), .bool false] w1 (fun e w' => e = .returned (.string D) ∧ Keeps w1 w')))
    (cU : CU' ((⟨#[34, 92, 117]⟩ : ByteArray) ++ D ++ ⟨#[34]⟩) ⟨#[]⟩ 0 6) :
    Calls Tryd.prog 7 #[.int .i64 c, .int .i64 d, .bool false] w (RetQ true w) := by
  have cL := Lib.hid (fun w1 => lives_any w1)
  go_enter Tryd.func7, Tryd.ntmps7
  go_wp2_with fail
  refine (cL.out _).mono ?_
  rintro e w2 ⟨rfl, k2⟩
  have K2 := Lib.hid k2
  clear k2
  go_wp2_with fail
  refine (cA.out _).mono ?_
  rintro e w3 ⟨rfl, k3⟩
  have K3 := Lib.hid (K2.out.trans k3)
  clear k3
  go_wp2_with fail
  refine (cB.out _).mono ?_
  rintro e w4 ⟨rfl, k4⟩
  have K4 := Lib.hid (K3.out.trans k4)
  clear k4
  go_wp2_with fail
  refine (cP.out _).mono ?_
  rintro e w5 ⟨⟨rfl, b0⟩, rfl⟩
  go_wp2_with fail
  refine (cD.out _).mono ?_
  rintro e w6 ⟨rfl, k6⟩
  have K6 := Lib.hid (K4.out.trans k6)
  clear k6 b0
  go_wp2_with fail
  refine (cU.out _ (HU.out.keeps K6.out)).mono ?_
  rintro e w7 ⟨rfl, k7⟩
  have K7 := Lib.hid (K6.out.trans k7)
  clear k7
  go_wp2
  go_ret
  exact RetQ.of (by first | rfl | simp) K7.out

set_option maxHeartbeats 8000000 in
theorem le_s_false (c d : Int) (a b x y : ByteArray) (w : World) (HU : Hid (Utf w)) (ha : a.size ≤ 14) (hb : b.size ≤ 14) (hx : x.size ≤ 4) (hy : y.size ≤ 4) (hne : x.toList.isEmpty = false)
    (cA : CE c false a true) (cB : CE c true b true) (cU : CU' a x (a.size : Int) 0) (cV : CU' b x (b.size : Int) 0)
    (cX : Hid (∀ w1, Calls Tryd.prog 14 #[.string x] w1 (RetQ true w1))) (cY : Hid (∀ w1, Calls Tryd.prog 14 #[.string (x ++ x)] w1 (RetQ true w1))) :
    Calls Tryd.prog 7 #[.int .i64 c, .int .i64 c, .bool false] w (RetQ true w) := by
  have cL := Lib.hid (fun w1 => lives_any w1)
  go_enter Tryd.func7, Tryd.ntmps7
  go_wp2_with fail
  refine (cL.out _).mono ?_
  rintro e w2 ⟨rfl, k2⟩
  have K2 := Lib.hid k2
  clear k2
  go_wp2_with fail
  refine (cA.out _).mono ?_
  rintro e w3 ⟨rfl, k3⟩
  have K3 := Lib.hid (K2.out.trans k3)
  clear k3
  go_wp2_with fail
  refine (cB.out _).mono ?_
  rintro e w4 ⟨rfl, k4⟩
  have K4 := Lib.hid (K3.out.trans k4)
  clear k4
  go_wp2_with fail
  refine (cU.out _ (HU.out.keeps K4.out)).mono ?_
  rintro e w5 ⟨rfl, k5⟩
  have K5 := Lib.hid (K4.out.trans k5)
  clear k5
  go_wp2_with fail
  refine (cV.out _ (HU.out.keeps K5.out)).mono ?_
  rintro e w6 ⟨rfl, k6⟩
  have K6 := Lib.hid (K5.out.trans k6)
  clear k6
  go_wp2_with fail
  refine (cX.out _).mono ?_
  rintro e w7 ⟨rfl, k7⟩
  have K7 := Lib.hid (K6.out.trans k7)
  clear k7
  go_wp2_with fail
  refine (cY.out _).mono ?_
  rintro e w8 ⟨rfl, k8⟩
  have K8 := Lib.hid (K7.out.trans k8)
  clear k8
  go_wp2
  go_ret
  exact RetQ.of (by first | rfl | simp | simp_all) K8.out

set_option maxHeartbeats 8000000 in
theorem le_o_false (c d : Int) (a b x y : ByteArray) (w : World) (HU : Hid (Utf w)) (ha : a.size ≤ 14) (hb : b.size ≤ 14) (hx : x.size ≤ 4) (hy : y.size ≤ 4) (hxy : (x.toList == y.toList) = false) (hxy2 : ¬ x.toList = y.toList) (hcd : (c == d) = false) (hne : x.toList.isEmpty = false)
    (cA : CE c false a true) (cB : CE d true b true) (cU : CU' a x (a.size : Int) 0) (cV : CU' b y (b.size : Int) 0)
    (cX : Hid (∀ w1, Calls Tryd.prog 14 #[.string x] w1 (RetQ true w1))) (cY : Hid (∀ w1, Calls Tryd.prog 14 #[.string (x ++ y)] w1 (RetQ true w1))) :
    Calls Tryd.prog 7 #[.int .i64 c, .int .i64 d, .bool false] w (RetQ true w) := by
  have cL := Lib.hid (fun w1 => lives_any w1)
  go_enter Tryd.func7, Tryd.ntmps7
  go_wp2_with fail
  refine (cL.out _).mono ?_
  rintro e w2 ⟨rfl, k2⟩
  have K2 := Lib.hid k2
  clear k2
  go_wp2_with fail
  refine (cA.out _).mono ?_
  rintro e w3 ⟨rfl, k3⟩
  have K3 := Lib.hid (K2.out.trans k3)
  clear k3
  go_wp2_with fail
  refine (cB.out _).mono ?_
  rintro e w4 ⟨rfl, k4⟩
  have K4 := Lib.hid (K3.out.trans k4)
  clear k4
  go_wp2_with fail
  refine (cU.out _ (HU.out.keeps K4.out)).mono ?_
  rintro e w5 ⟨rfl, k5⟩
  have K5 := Lib.hid (K4.out.trans k5)
  clear k5
  go_wp2_with fail
  refine (cV.out _ (HU.out.keeps K5.out)).mono ?_
  rintro e w6 ⟨rfl, k6⟩
  have K6 := Lib.hid (K5.out.trans k6)
  clear k6
  go_wp2_with fail
  refine (cX.out _).mono ?_
  rintro e w7 ⟨rfl, k7⟩
  have K7 := Lib.hid (K6.out.trans k7)
  clear k7
  go_wp2_with fail
  refine (cY.out _).mono ?_
  rintro e w8 ⟨rfl, k8⟩
  have K8 := Lib.hid (K7.out.trans k8)
  clear k8
  go_wp2
  go_ret
  exact RetQ.of (by first | rfl | simp | simp_all) K8.out

set_option maxHeartbeats 4000000 in
theorem le_n1_true (c d : Int) (a b : ByteArray) (al : Bool) (h : Nat) (lit D : ByteArray) (w : World) (HU : Hid (Utf w)) (hD : D.size ≤ 4)
    (cA : CE c true a false) (cB : CE d false b al)
    (cP : Hid (∀ w1, Calls Tryd.prog 24 #[.int .i64 c, .int .i64 2048] w1 (fun e w' => (e = .returned (.int .i64 (h : Int)) ∧ (h : Int) < 2048) ∧ w' = w1)))
    (cD : Hid (∀ w1, Calls Tryd.prog 26 #[.int .i64 ((h : Int) + 55296), .bool true] w1 (fun e w' => e = .returned (.string D) ∧ Keeps w1 w')))
    (cU : CU' ((⟨#[34, 92, 117]⟩ : ByteArray) ++ D ++ ⟨#[34]⟩) ⟨#[]⟩ 0 6) :
    Calls Tryd.prog 7 #[.int .i64 c, .int .i64 d, .bool true] w (RetQ true w) := by
  have cL := Lib.hid (fun w1 => lives_any w1)
  go_enter Tryd.func7, Tryd.ntmps7
  go_wp2_with fail
  refine (cL.out _).mono ?_
  rintro e w2 ⟨rfl, k2⟩
  have K2 := Lib.hid k2
  clear k2
  go_wp2_with fail
  refine (cA.out _).mono ?_
  rintro e w3 ⟨rfl, k3⟩
  have K3 := Lib.hid (K2.out.trans k3)
  clear k3
  go_wp2_with fail
  refine (cB.out _).mono ?_
  rintro e w4 ⟨rfl, k4⟩
  have K4 := Lib.hid (K3.out.trans k4)
  clear k4
  go_wp2_with fail
  refine (cP.out _).mono ?_
  rintro e w5 ⟨⟨rfl, b0⟩, rfl⟩
  go_wp2_with fail
  refine (cD.out _).mono ?_
  rintro e w6 ⟨rfl, k6⟩
  have K6 := Lib.hid (K4.out.trans k6)
  clear k6 b0
  go_wp2_with fail
  refine (cU.out _ (HU.out.keeps K6.out)).mono ?_
  rintro e w7 ⟨rfl, k7⟩
  have K7 := Lib.hid (K6.out.trans k7)
  clear k7
  go_wp2
  go_ret
  exact RetQ.of (by first | rfl | simp) K7.out

set_option maxHeartbeats 4000000 in
theorem le_n2_true (c d : Int) (a b : ByteArray) (al : Bool) (h : Nat) (lit D : ByteArray) (w : World) (HU : Hid (Utf w)) (hD : D.size ≤ 4)
    (cA : CE c true a true) (cB : CE d false b false)
    (cP : Hid (∀ w1, Calls Tryd.prog 24 #[.int .i64 c, .int .i64 2048] w1 (fun e w' => (e = .returned (.int .i64 (h : Int)) ∧ (h : Int) < 2048) ∧ w' = w1)))
    (cD : Hid (∀ w1, Calls Tryd.prog 26 #[.int .i64 ((h : Int) + 55296), .bool true] w1 (fun e w' => e = .returned (.string D) ∧ Keeps w1 w')))
    (cU : CU' ((⟨#[34, 92, 117]⟩ : ByteArray) ++ D ++ ⟨#[34]⟩) ⟨#[]⟩ 0 6) :
    Calls Tryd.prog 7 #[.int .i64 c, .int .i64 d, .bool true] w (RetQ true w) := by
  have cL := Lib.hid (fun w1 => lives_any w1)
  go_enter Tryd.func7, Tryd.ntmps7
  go_wp2_with fail
  refine (cL.out _).mono ?_
  rintro e w2 ⟨rfl, k2⟩
  have K2 := Lib.hid k2
  clear k2
  go_wp2_with fail
  refine (cA.out _).mono ?_
  rintro e w3 ⟨rfl, k3⟩
  have K3 := Lib.hid (K2.out.trans k3)
  clear k3
  go_wp2_with fail
  refine (cB.out _).mono ?_
  rintro e w4 ⟨rfl, k4⟩
  have K4 := Lib.hid (K3.out.trans k4)
  clear k4
  go_wp2_with fail
  refine (cP.out _).mono ?_
  rintro e w5 ⟨⟨rfl, b0⟩, rfl⟩
  go_wp2_with fail
  refine (cD.out _).mono ?_
  rintro e w6 ⟨rfl, k6⟩
  have K6 := Lib.hid (K4.out.trans k6)
  clear k6 b0
  go_wp2_with fail
  refine (cU.out _ (HU.out.keeps K6.out)).mono ?_
  rintro e w7 ⟨rfl, k7⟩
  have K7 := Lib.hid (K6.out.trans k7)
  clear k7
  go_wp2
  go_ret
  exact RetQ.of (by first | rfl | simp) K7.out

set_option maxHeartbeats 8000000 in
theorem le_s_true (c d : Int) (a b x y : ByteArray) (w : World) (HU : Hid (Utf w)) (ha : a.size ≤ 14) (hb : b.size ≤ 14) (hx : x.size ≤ 4) (hy : y.size ≤ 4) (hne : x.toList.isEmpty = false)
    (cA : CE c true a true) (cB : CE c false b true) (cU : CU' a x (a.size : Int) 0) (cV : CU' b x (b.size : Int) 0)
    (cX : Hid (∀ w1, Calls Tryd.prog 14 #[.string x] w1 (RetQ true w1))) (cY : Hid (∀ w1, Calls Tryd.prog 14 #[.string (x ++ x)] w1 (RetQ true w1))) :
    Calls Tryd.prog 7 #[.int .i64 c, .int .i64 c, .bool true] w (RetQ true w) := by
  have cL := Lib.hid (fun w1 => lives_any w1)
  go_enter Tryd.func7, Tryd.ntmps7
  go_wp2_with fail
  refine (cL.out _).mono ?_
  rintro e w2 ⟨rfl, k2⟩
  have K2 := Lib.hid k2
  clear k2
  go_wp2_with fail
  refine (cA.out _).mono ?_
  rintro e w3 ⟨rfl, k3⟩
  have K3 := Lib.hid (K2.out.trans k3)
  clear k3
  go_wp2_with fail
  refine (cB.out _).mono ?_
  rintro e w4 ⟨rfl, k4⟩
  have K4 := Lib.hid (K3.out.trans k4)
  clear k4
  go_wp2_with fail
  refine (cU.out _ (HU.out.keeps K4.out)).mono ?_
  rintro e w5 ⟨rfl, k5⟩
  have K5 := Lib.hid (K4.out.trans k5)
  clear k5
  go_wp2_with fail
  refine (cV.out _ (HU.out.keeps K5.out)).mono ?_
  rintro e w6 ⟨rfl, k6⟩
  have K6 := Lib.hid (K5.out.trans k6)
  clear k6
  go_wp2_with fail
  refine (cX.out _).mono ?_
  rintro e w7 ⟨rfl, k7⟩
  have K7 := Lib.hid (K6.out.trans k7)
  clear k7
  go_wp2_with fail
  refine (cY.out _).mono ?_
  rintro e w8 ⟨rfl, k8⟩
  have K8 := Lib.hid (K7.out.trans k8)
  clear k8
  go_wp2
  go_ret
  exact RetQ.of (by first | rfl | simp | simp_all) K8.out

set_option maxHeartbeats 8000000 in
theorem le_o_true (c d : Int) (a b x y : ByteArray) (w : World) (HU : Hid (Utf w)) (ha : a.size ≤ 14) (hb : b.size ≤ 14) (hx : x.size ≤ 4) (hy : y.size ≤ 4) (hxy : (x.toList == y.toList) = false) (hxy2 : ¬ x.toList = y.toList) (hcd : (c == d) = false) (hne : x.toList.isEmpty = false)
    (cA : CE c true a true) (cB : CE d false b true) (cU : CU' a x (a.size : Int) 0) (cV : CU' b y (b.size : Int) 0)
    (cX : Hid (∀ w1, Calls Tryd.prog 14 #[.string x] w1 (RetQ true w1))) (cY : Hid (∀ w1, Calls Tryd.prog 14 #[.string (x ++ y)] w1 (RetQ true w1))) :
    Calls Tryd.prog 7 #[.int .i64 c, .int .i64 d, .bool true] w (RetQ true w) := by
  have cL := Lib.hid (fun w1 => lives_any w1)
  go_enter Tryd.func7, Tryd.ntmps7
  go_wp2_with fail
  refine (cL.out _).mono ?_
  rintro e w2 ⟨rfl, k2⟩
  have K2 := Lib.hid k2
  clear k2
  go_wp2_with fail
  refine (cA.out _).mono ?_
  rintro e w3 ⟨rfl, k3⟩
  have K3 := Lib.hid (K2.out.trans k3)
  clear k3
  go_wp2_with fail
  refine (cB.out _).mono ?_
  rintro e w4 ⟨rfl, k4⟩
  have K4 := Lib.hid (K3.out.trans k4)
  clear k4
  go_wp2_with fail
  refine (cU.out _ (HU.out.keeps K4.out)).mono ?_
  rintro e w5 ⟨rfl, k5⟩
  have K5 := Lib.hid (K4.out.trans k5)
  clear k5
  go_wp2_with fail
  refine (cV.out _ (HU.out.keeps K5.out)).mono ?_
  rintro e w6 ⟨rfl, k6⟩
  have K6 := Lib.hid (K5.out.trans k6)
  clear k6
  go_wp2_with fail
  refine (cX.out _).mono ?_
  rintro e w7 ⟨rfl, k7⟩
  have K7 := Lib.hid (K6.out.trans k7)
  clear k7
  go_wp2_with fail
  refine (cY.out _).mono ?_
  rintro e w8 ⟨rfl, k8⟩
  have K8 := Lib.hid (K7.out.trans k8)
  clear k8
  go_wp2
  go_ret
  exact RetQ.of (by first | rfl | simp | simp_all) K8.out

end Go.Proofs.YtbhgfdgdbbfeoaaDoor
