/-
  The document's own point: the code point that a text begins with.
-/
import Derived.Test.YtbhgfdgdbbfeoaaDoorRfc
namespace Go.Proofs.YtbhgfdgdbbfeoaaDoor
open Go.RowKit

theorem rtold_any (c : UInt8) (w : World) : Calls Tryd.prog 35 #[.int .u8 (c.toNat : Int)] w (fun e w' => e = .returned (.string (S (told c))) ∧ Keeps w w') := by
  unfold told
  have go : ∀ (n : Nat), c.toNat = n → Calls Tryd.prog 35 #[.int .u8 (n : Int)] w (fun e w' => e = .returned (.string (S (toldN n))) ∧ Keeps w w') → Calls Tryd.prog 35 #[.int .u8 (c.toNat : Int)] w (fun e w' => e = .returned (.string (S (toldN c.toNat))) ∧ Keeps w w') := fun n h k => by rw [h]; exact k
  by_cases h34 : c.toNat = 34
  · exact go 34 h34 (rtold_34 w)
  by_cases h92 : c.toNat = 92
  · exact go 92 h92 (rtold_92 w)
  by_cases h8 : c.toNat = 8
  · exact go 8 h8 (rtold_8 w)
  by_cases h12 : c.toNat = 12
  · exact go 12 h12 (rtold_12 w)
  by_cases h10 : c.toNat = 10
  · exact go 10 h10 (rtold_10 w)
  by_cases h13 : c.toNat = 13
  · exact go 13 h13 (rtold_13 w)
  by_cases h9 : c.toNat = 9
  · exact go 9 h9 (rtold_9 w)
  have e : toldN c.toNat = if c.toNat < 32 then [92, 117, 48, 48, hexD (c.toNat / 16), hexD (c.toNat % 16)] else [c.toNat.toUInt8] := by
    unfold toldN
    rw [if_neg h34, if_neg h92, if_neg h8, if_neg h12, if_neg h10, if_neg h13, if_neg h9]
  rw [e]
  by_cases h32 : c.toNat < 32
  · rw [if_pos h32]; exact rtold_low c w h32 h34 h92 h8 h12 h10 h13 h9
  · rw [if_neg h32, show c.toNat.toUInt8 = c by simp]; exact rtold_plain c w (by omega) h34 h92 h8 h12 h10 h13 h9

/-- The code point that a text begins with, and how many bytes it has; 0: none. -/
def pointR (l : List UInt8) : Nat × Nat := if l.length = 0 ∨ badD (decL l) = true then (0, 0) else decL l
def RetPt (p : Nat × Nat) (w : World) (e : Ending) (w' : World) : Prop := e = .returned (.tuple #[.int .i64 (p.1 : Int), .int .i64 (p.2 : Int)]) ∧ Keeps w w'
theorem RetPt.of {p : Nat × Nat} {x y : Int} {w w' : World} (h : p = (x.toNat, y.toNat)) (hx : 0 ≤ x) (hy : 0 ≤ y) (k : Keeps w w') : RetPt p w (.returned (.tuple #[.int .i64 x, .int .i64 y])) w' := by
  refine ⟨?_, k⟩
  rw [h]
  show _ = Ending.returned (.tuple #[.int .i64 ((x.toNat : Nat) : Int), .int .i64 ((y.toNat : Nat) : Int)])
  rw [Int.toNat_of_nonneg hx, Int.toNat_of_nonneg hy]
theorem and_mask : (∀ n : Nat, n < 256 → bits BinOp.and IntKind.i64 (n : Int) 31 = (n : Int) % 32) ∧ (∀ n : Nat, n < 256 → bits BinOp.and IntKind.i64 (n : Int) 15 = (n : Int) % 16) ∧ (∀ n : Nat, n < 256 → bits BinOp.and IntKind.i64 (n : Int) 7 = (n : Int) % 8) := by
  refine ⟨?_, ?_, ?_⟩ <;> decide +kernel
theorem pt_bad (l : List UInt8) (h : decL l = (65533, 1)) : pointR l = (0, 0) := by unfold pointR; rw [if_pos (.inr (by rw [h]; rfl))]
theorem pt_good (l : List UInt8) (r n : Nat) (hl : l.length ≠ 0) (hn : n ≠ 1 ∨ r ≠ 65533) (h : decL l = (r, n)) : pointR l = (r, n) := by
  unfold pointR
  have hb : badD (decL l) = false := by
    rw [h]; unfold badD
    rcases hn with h1 | h1
    · simp [h1]
    · simp [h1]
  have hno : ¬ (l.length = 0 ∨ badD (decL l) = true) := by rw [hb]; simp only [Bool.false_eq_true, or_false]; exact hl
  rw [if_neg hno, h]
theorem decL_at (s : ByteArray) : decL s.data.toList = Lib.decodeN s.size (s.data.toList.getD 0 0).toNat (s.data.toList.getD 1 0).toNat (s.data.toList.getD 2 0).toNat (s.data.toList.getD 3 0).toNat := by
  unfold decL
  rw [show s.data.toList.length = s.size by simp]

set_option maxHeartbeats 1000000 in
theorem pt_nil (s : ByteArray) (w : World) (h : s.size = 0) : Calls Tryd.prog 37 #[.string s] w (RetPt (pointR s.data.toList) w) := by
  have hl : s.data.toList.length = s.size := by simp
  have hp : pointR s.data.toList = (0, 0) := by unfold pointR; rw [if_pos (.inl (by omega))]
  have he : s.toList.isEmpty = true := by rw [ByteArray.toList_eq, List.isEmpty_iff]; exact List.eq_nil_of_length_eq_zero (by omega)
  rw [hp]
  clear hl hp h
  go_enter Tryd.func37, Tryd.ntmps37
  go_wp2
  go_ret2
  exact RetPt.of rfl (by decide) (by decide) (Keeps.refl _)
set_option maxHeartbeats 1000000 in
theorem pt_z1 (s : ByteArray) (w : World) (p0 : 0 < s.size) (h : 128 ≤ (s[0]'p0).toNat ∧ (s[0]'p0).toNat < 192) : Calls Tryd.prog 37 #[.string s] w (RetPt (pointR s.data.toList) w) := by
  have hsl : s.data.toList.length = s.size := by simp
  have he : s.toList.isEmpty = false := by
    rw [ByteArray.toList_eq, Bool.eq_false_iff, Ne, List.isEmpty_iff]
    intro e; rw [e] at hsl; simp at hsl; omega
  have hc := (s[0]'p0).toNat_lt
  have hd : decL s.data.toList = (65533, 1) := by
    rw [decL_at, getD_at s 0 p0]; unfold Lib.decodeN
    rw [if_neg (by omega), if_neg (by omega), if_neg (by omega), if_neg (by omega)]
  rw [pt_bad _ hd]
  have cW : Hid (∀ w1, Calls Tryd.prog 51 #[.int .u8 ((s[0]'p0).toNat : Int)] w1 (fun e w' => e = .returned (.int .i64 0) ∧ w' = w1)) := Lib.hid (fun w1 => wide_1 _ w1 (by omega))
  clear h hd hsl hc
  go_enter Tryd.func37, Tryd.ntmps37
  go_wp2_with fail
  refine (cW.out _).mono ?_
  rintro e w2 ⟨rfl, rfl⟩
  go_wp2
  go_ret2
  exact RetPt.of rfl (by decide) (by decide) (Keeps.refl _)
set_option maxHeartbeats 1000000 in
theorem pt_z2 (s : ByteArray) (w : World) (p0 : 0 < s.size) (h : 248 ≤ (s[0]'p0).toNat) : Calls Tryd.prog 37 #[.string s] w (RetPt (pointR s.data.toList) w) := by
  have hsl : s.data.toList.length = s.size := by simp
  have he : s.toList.isEmpty = false := by
    rw [ByteArray.toList_eq, Bool.eq_false_iff, Ne, List.isEmpty_iff]
    intro e; rw [e] at hsl; simp at hsl; omega
  have hc := (s[0]'p0).toNat_lt
  have hd : decL s.data.toList = (65533, 1) := by
    rw [decL_at, getD_at s 0 p0]; unfold Lib.decodeN
    rw [if_neg (by omega), if_neg (by omega), if_neg (by omega), if_neg (by omega)]
  rw [pt_bad _ hd]
  have cW : Hid (∀ w1, Calls Tryd.prog 51 #[.int .u8 ((s[0]'p0).toNat : Int)] w1 (fun e w' => e = .returned (.int .i64 0) ∧ w' = w1)) := Lib.hid (fun w1 => wide_5 _ w1 (by omega))
  clear h hd hsl hc
  go_enter Tryd.func37, Tryd.ntmps37
  go_wp2_with fail
  refine (cW.out _).mono ?_
  rintro e w2 ⟨rfl, rfl⟩
  go_wp2
  go_ret2
  exact RetPt.of rfl (by decide) (by decide) (Keeps.refl _)
set_option maxHeartbeats 1000000 in
theorem pt_one (s : ByteArray) (w : World) (p0 : 0 < s.size) (hs : s.size ≤ 1000000) (h : (s[0]'p0).toNat < 128) : Calls Tryd.prog 37 #[.string s] w (RetPt (pointR s.data.toList) w) := by
  have hsl : s.data.toList.length = s.size := by simp
  have he : s.toList.isEmpty = false := by
    rw [ByteArray.toList_eq, Bool.eq_false_iff, Ne, List.isEmpty_iff]
    intro e; rw [e] at hsl; simp at hsl; omega
  have hc := (s[0]'p0).toNat_lt
  have hd : decL s.data.toList = ((s[0]'p0).toNat, 1) := by
    rw [decL_at, getD_at s 0 p0]; unfold Lib.decodeN
    rw [if_pos h]
  rw [pt_good s.data.toList (s[0]'p0).toNat 1 (by omega) (.inr (by omega)) hd]
  have cW : Hid (∀ w1, Calls Tryd.prog 51 #[.int .u8 ((s[0]'p0).toNat : Int)] w1 (fun e w' => e = .returned (.int .i64 1) ∧ w' = w1)) := Lib.hid (fun w1 => wide_0 _ w1 h)
  have q0 : (1 : Int) ≤ (s.size : Int) := by omega
  have f1 : decide ((s.size : Int) < 1) = false := decide_eq_false (by omega)
  clear h hd hsl
  go_enter Tryd.func37, Tryd.ntmps37
  go_wp2_with fail
  refine (cW.out _).mono ?_
  rintro e w2 ⟨rfl, rfl⟩
  go_wp2_with fail
  refine (cW.out _).mono ?_
  rintro e w2 ⟨rfl, rfl⟩
  go_wp2_with fail
  refine (cW.out _).mono ?_
  rintro e w2 ⟨rfl, rfl⟩
  go_wp2
  go_ret2
  exact RetPt.of (by simp) (by omega) (by decide) (Keeps.refl _)
set_option maxHeartbeats 1000000 in
set_option maxRecDepth 100000 in
theorem pt_2s (s : ByteArray) (w : World) (p0 : 0 < s.size) (hs : s.size ≤ 1000000) (h : 192 ≤ (s[0]'p0).toNat ∧ (s[0]'p0).toNat < 224) (hn : s.size < 2) : Calls Tryd.prog 37 #[.string s] w (RetPt (pointR s.data.toList) w) := by
  have hsl : s.data.toList.length = s.size := by simp
  have he : s.toList.isEmpty = false := by
    rw [ByteArray.toList_eq, Bool.eq_false_iff, Ne, List.isEmpty_iff]
    intro e; rw [e] at hsl; simp at hsl; omega
  have hc := (s[0]'p0).toNat_lt
  have hd : decL s.data.toList = (65533, 1) := by
    rw [decL_at, getD_at s 0 p0]; unfold Lib.decodeN
    rw [if_neg (by omega), if_neg (by omega), if_neg (by omega), if_neg (by omega)]
  rw [pt_bad _ hd]
  have cW : Hid (∀ w1, Calls Tryd.prog 51 #[.int .u8 ((s[0]'p0).toNat : Int)] w1 (fun e w' => e = .returned (.int .i64 2) ∧ w' = w1)) := Lib.hid (fun w1 => wide_2 _ w1 h)
  have f1 : decide ((s.size : Int) < 2) = true := decide_eq_true (by omega)
  clear h hd hsl hc hn
  go_enter Tryd.func37, Tryd.ntmps37
  go_wp2_with fail
  refine (cW.out _).mono ?_
  rintro e w2 ⟨rfl, rfl⟩
  go_wp2_with fail
  refine (cW.out _).mono ?_
  rintro e w2 ⟨rfl, rfl⟩
  go_wp2
  go_ret2
  exact RetPt.of rfl (by decide) (by decide) (Keeps.refl _)
set_option maxHeartbeats 2000000 in
set_option maxRecDepth 100000 in
theorem pt_2l1 (s : ByteArray) (w : World) (p0 : 0 < s.size) (hs : s.size ≤ 1000000) (h : 192 ≤ (s[0]'p0).toNat ∧ (s[0]'p0).toNat < 224) (hn : 2 ≤ s.size) (p1 : 1 < s.size) (hk : (s[1]'p1).toNat < 128) : Calls Tryd.prog 37 #[.string s] w (RetPt (pointR s.data.toList) w) := by
  have hsl : s.data.toList.length = s.size := by simp
  have he : s.toList.isEmpty = false := by
    rw [ByteArray.toList_eq, Bool.eq_false_iff, Ne, List.isEmpty_iff]
    intro e; rw [e] at hsl; simp at hsl; omega
  have hc := (s[0]'p0).toNat_lt
  have hd : decL s.data.toList = (65533, 1) := by
    rw [decL_at, getD_at s 0 p0, getD_at s 1 p1]; unfold Lib.decodeN
    rw [if_neg (by omega), if_neg (by omega), if_neg (by omega), if_neg (by omega)]
  rw [pt_bad _ hd]
  have cW : Hid (∀ w1, Calls Tryd.prog 51 #[.int .u8 ((s[0]'p0).toNat : Int)] w1 (fun e w' => e = .returned (.int .i64 2) ∧ w' = w1)) := Lib.hid (fun w1 => wide_2 _ w1 h)
  have f1 : decide ((s.size : Int) < 2) = false := decide_eq_false (by omega)
  have hm := and_mask.1 _ hc
  have k0 : decide (((s[1]'p1).toNat : Int) < 128) = true := by simp; omega
  have q0 : (2 : Int) ≤ (s.size : Int) := by omega
  clear h hd hsl hk
  go_enter Tryd.func37, Tryd.ntmps37
  go_wp2_with fail
  refine (cW.out _).mono ?_
  rintro e w2 ⟨rfl, rfl⟩
  go_wp2_with fail
  refine (cW.out _).mono ?_
  rintro e w2 ⟨rfl, rfl⟩
  go_wp2_with fail
  refine (cW.out _).mono ?_
  rintro e w2 ⟨rfl, rfl⟩
  go_wp2
  refine wp_loop_rounds 2 ?_
  rw [rounds_succ]
  go_wp2
  go_ret2
  exact RetPt.of rfl (by decide) (by decide) (Keeps.refl _)
set_option maxHeartbeats 2000000 in
set_option maxRecDepth 100000 in
theorem pt_2h1 (s : ByteArray) (w : World) (p0 : 0 < s.size) (hs : s.size ≤ 1000000) (h : 192 ≤ (s[0]'p0).toNat ∧ (s[0]'p0).toNat < 224) (hn : 2 ≤ s.size) (p1 : 1 < s.size) (hk : 191 < (s[1]'p1).toNat) : Calls Tryd.prog 37 #[.string s] w (RetPt (pointR s.data.toList) w) := by
  have hsl : s.data.toList.length = s.size := by simp
  have he : s.toList.isEmpty = false := by
    rw [ByteArray.toList_eq, Bool.eq_false_iff, Ne, List.isEmpty_iff]
    intro e; rw [e] at hsl; simp at hsl; omega
  have hc := (s[0]'p0).toNat_lt
  have hd : decL s.data.toList = (65533, 1) := by
    rw [decL_at, getD_at s 0 p0, getD_at s 1 p1]; unfold Lib.decodeN
    rw [if_neg (by omega), if_neg (by omega), if_neg (by omega), if_neg (by omega)]
  rw [pt_bad _ hd]
  have cW : Hid (∀ w1, Calls Tryd.prog 51 #[.int .u8 ((s[0]'p0).toNat : Int)] w1 (fun e w' => e = .returned (.int .i64 2) ∧ w' = w1)) := Lib.hid (fun w1 => wide_2 _ w1 h)
  have f1 : decide ((s.size : Int) < 2) = false := decide_eq_false (by omega)
  have hm := and_mask.1 _ hc
  have k0 : decide (((s[1]'p1).toNat : Int) < 128) = false := by simp; omega
  have k1 : decide ((191 : Int) < ((s[1]'p1).toNat : Int)) = true := by simp; omega
  have q0 : (2 : Int) ≤ (s.size : Int) := by omega
  clear h hd hsl hk
  go_enter Tryd.func37, Tryd.ntmps37
  go_wp2_with fail
  refine (cW.out _).mono ?_
  rintro e w2 ⟨rfl, rfl⟩
  go_wp2_with fail
  refine (cW.out _).mono ?_
  rintro e w2 ⟨rfl, rfl⟩
  go_wp2_with fail
  refine (cW.out _).mono ?_
  rintro e w2 ⟨rfl, rfl⟩
  go_wp2
  refine wp_loop_rounds 2 ?_
  rw [rounds_succ]
  go_wp2
  go_ret2
  exact RetPt.of rfl (by decide) (by decide) (Keeps.refl _)
set_option maxHeartbeats 8000000 in
set_option maxRecDepth 100000 in
theorem pt_2g (s : ByteArray) (w : World) (p0 : 0 < s.size) (hs : s.size ≤ 1000000) (h : 192 ≤ (s[0]'p0).toNat ∧ (s[0]'p0).toNat < 224) (hn : 2 ≤ s.size) (p1 : 1 < s.size) (g1 : 128 ≤ (s[1]'p1).toNat ∧ (s[1]'p1).toNat ≤ 191) : Calls Tryd.prog 37 #[.string s] w (RetPt (pointR s.data.toList) w) := by
  have hsl : s.data.toList.length = s.size := by simp
  have he : s.toList.isEmpty = false := by
    rw [ByteArray.toList_eq, Bool.eq_false_iff, Ne, List.isEmpty_iff]
    intro e; rw [e] at hsl; simp at hsl; omega
  have hc := (s[0]'p0).toNat_lt
  obtain ⟨p, hp⟩ : ∃ p, pointR s.data.toList = p := ⟨_, rfl⟩
  rw [hp]
  obtain ⟨R, hR⟩ : ∃ R : Int, R = ((s[0]'p0).toNat : Int) % 32 * 64 + ((s[1]'p1).toNat : Int) - 128 := ⟨_, rfl⟩
  have HG : 128 ≤ R → R ≤ 1114111 → (R < 55296 ∨ 57343 < R) → p = (R.toNat, 2) := fun h1 h2 h3 => by
    rw [← hp]
    refine pt_good _ _ _ (by omega) (.inl (by decide)) ?_
    rw [decL_at, getD_at s 0 p0, getD_at s 1 p1]; unfold Lib.decodeN
    rw [if_neg (by omega), if_pos (by omega), if_pos (by omega)]
    congr 1; omega
  have HB : (R < 128 ∨ 1114111 < R ∨ (55296 ≤ R ∧ R ≤ 57343)) → p = (0, 0) := fun h1 => by
    rw [← hp]
    refine pt_bad _ ?_
    rw [decL_at, getD_at s 0 p0, getD_at s 1 p1]; unfold Lib.decodeN
    rw [if_neg (by omega), if_pos (by omega), if_neg (by omega)]
  have HG2 := Lib.hid HG
  have HB2 := Lib.hid HB
  have HR := Lib.hid hR
  clear HG HB hp hR
  have cW : Hid (∀ w1, Calls Tryd.prog 51 #[.int .u8 ((s[0]'p0).toNat : Int)] w1 (fun e w' => e = .returned (.int .i64 2) ∧ w' = w1)) := Lib.hid (fun w1 => wide_2 _ w1 h)
  have f1 : decide ((s.size : Int) < 2) = false := decide_eq_false (by omega)
  have hm := and_mask.1 _ hc
  have d1 : decide (((s[1]'p1).toNat : Int) < 128) = false := by simp; omega
  have e1 : decide ((191 : Int) < ((s[1]'p1).toNat : Int)) = false := by simp; omega
  have q0 : (2 : Int) ≤ (s.size : Int) := by omega
  clear h hsl
  go_enter Tryd.func37, Tryd.ntmps37
  go_wp2_with fail
  refine (cW.out _).mono ?_
  rintro e w2 ⟨rfl, rfl⟩
  go_wp2_with fail
  refine (cW.out _).mono ?_
  rintro e w2 ⟨rfl, rfl⟩
  go_wp2_with fail
  refine (cW.out _).mono ?_
  rintro e w2 ⟨rfl, rfl⟩
  go_wp2
  refine wp_loop_rounds 2 ?_
  rw [rounds_succ]
  go_wp2
  rw [rounds_succ]
  go_wp2
  all_goals go_ret2
  all_goals (have hR := HR.out; subst hR)
  all_goals first
    | exact RetPt.of (x := 0) (y := 0) (HB2.out (by omega)) (by decide) (by decide) ((Keeps.refl _).alloc _)
    | exact RetPt.of (y := 2) (HG2.out (by omega) (by omega) (by omega)) (by omega) (by decide) ((Keeps.refl _).alloc _)
set_option maxHeartbeats 1000000 in
set_option maxRecDepth 100000 in
theorem pt_3s (s : ByteArray) (w : World) (p0 : 0 < s.size) (hs : s.size ≤ 1000000) (h : 224 ≤ (s[0]'p0).toNat ∧ (s[0]'p0).toNat < 240) (hn : s.size < 3) : Calls Tryd.prog 37 #[.string s] w (RetPt (pointR s.data.toList) w) := by
  have hsl : s.data.toList.length = s.size := by simp
  have he : s.toList.isEmpty = false := by
    rw [ByteArray.toList_eq, Bool.eq_false_iff, Ne, List.isEmpty_iff]
    intro e; rw [e] at hsl; simp at hsl; omega
  have hc := (s[0]'p0).toNat_lt
  have hd : decL s.data.toList = (65533, 1) := by
    rw [decL_at, getD_at s 0 p0]; unfold Lib.decodeN
    rw [if_neg (by omega), if_neg (by omega), if_neg (by omega), if_neg (by omega)]
  rw [pt_bad _ hd]
  have cW : Hid (∀ w1, Calls Tryd.prog 51 #[.int .u8 ((s[0]'p0).toNat : Int)] w1 (fun e w' => e = .returned (.int .i64 3) ∧ w' = w1)) := Lib.hid (fun w1 => wide_3 _ w1 h)
  have f1 : decide ((s.size : Int) < 3) = true := decide_eq_true (by omega)
  clear h hd hsl hc hn
  go_enter Tryd.func37, Tryd.ntmps37
  go_wp2_with fail
  refine (cW.out _).mono ?_
  rintro e w2 ⟨rfl, rfl⟩
  go_wp2_with fail
  refine (cW.out _).mono ?_
  rintro e w2 ⟨rfl, rfl⟩
  go_wp2
  go_ret2
  exact RetPt.of rfl (by decide) (by decide) (Keeps.refl _)
set_option maxHeartbeats 2000000 in
set_option maxRecDepth 100000 in
theorem pt_3l1 (s : ByteArray) (w : World) (p0 : 0 < s.size) (hs : s.size ≤ 1000000) (h : 224 ≤ (s[0]'p0).toNat ∧ (s[0]'p0).toNat < 240) (hn : 3 ≤ s.size) (p1 : 1 < s.size) (p2 : 2 < s.size) (hk : (s[1]'p1).toNat < 128) : Calls Tryd.prog 37 #[.string s] w (RetPt (pointR s.data.toList) w) := by
  have hsl : s.data.toList.length = s.size := by simp
  have he : s.toList.isEmpty = false := by
    rw [ByteArray.toList_eq, Bool.eq_false_iff, Ne, List.isEmpty_iff]
    intro e; rw [e] at hsl; simp at hsl; omega
  have hc := (s[0]'p0).toNat_lt
  have hd : decL s.data.toList = (65533, 1) := by
    rw [decL_at, getD_at s 0 p0, getD_at s 1 p1]; unfold Lib.decodeN
    rw [if_neg (by omega), if_neg (by omega), if_neg (by omega), if_neg (by omega)]
  rw [pt_bad _ hd]
  have cW : Hid (∀ w1, Calls Tryd.prog 51 #[.int .u8 ((s[0]'p0).toNat : Int)] w1 (fun e w' => e = .returned (.int .i64 3) ∧ w' = w1)) := Lib.hid (fun w1 => wide_3 _ w1 h)
  have f1 : decide ((s.size : Int) < 3) = false := decide_eq_false (by omega)
  have hm := and_mask.2.1 _ hc
  have k0 : decide (((s[1]'p1).toNat : Int) < 128) = true := by simp; omega
  have q0 : (3 : Int) ≤ (s.size : Int) := by omega
  clear h hd hsl hk
  go_enter Tryd.func37, Tryd.ntmps37
  go_wp2_with fail
  refine (cW.out _).mono ?_
  rintro e w2 ⟨rfl, rfl⟩
  go_wp2_with fail
  refine (cW.out _).mono ?_
  rintro e w2 ⟨rfl, rfl⟩
  go_wp2_with fail
  refine (cW.out _).mono ?_
  rintro e w2 ⟨rfl, rfl⟩
  go_wp2
  refine wp_loop_rounds 2 ?_
  rw [rounds_succ]
  go_wp2
  go_ret2
  exact RetPt.of rfl (by decide) (by decide) (Keeps.refl _)
set_option maxHeartbeats 2000000 in
set_option maxRecDepth 100000 in
theorem pt_3h1 (s : ByteArray) (w : World) (p0 : 0 < s.size) (hs : s.size ≤ 1000000) (h : 224 ≤ (s[0]'p0).toNat ∧ (s[0]'p0).toNat < 240) (hn : 3 ≤ s.size) (p1 : 1 < s.size) (p2 : 2 < s.size) (hk : 191 < (s[1]'p1).toNat) : Calls Tryd.prog 37 #[.string s] w (RetPt (pointR s.data.toList) w) := by
  have hsl : s.data.toList.length = s.size := by simp
  have he : s.toList.isEmpty = false := by
    rw [ByteArray.toList_eq, Bool.eq_false_iff, Ne, List.isEmpty_iff]
    intro e; rw [e] at hsl; simp at hsl; omega
  have hc := (s[0]'p0).toNat_lt
  have hd : decL s.data.toList = (65533, 1) := by
    rw [decL_at, getD_at s 0 p0, getD_at s 1 p1]; unfold Lib.decodeN
    rw [if_neg (by omega), if_neg (by omega), if_neg (by omega), if_neg (by omega)]
  rw [pt_bad _ hd]
  have cW : Hid (∀ w1, Calls Tryd.prog 51 #[.int .u8 ((s[0]'p0).toNat : Int)] w1 (fun e w' => e = .returned (.int .i64 3) ∧ w' = w1)) := Lib.hid (fun w1 => wide_3 _ w1 h)
  have f1 : decide ((s.size : Int) < 3) = false := decide_eq_false (by omega)
  have hm := and_mask.2.1 _ hc
  have k0 : decide (((s[1]'p1).toNat : Int) < 128) = false := by simp; omega
  have k1 : decide ((191 : Int) < ((s[1]'p1).toNat : Int)) = true := by simp; omega
  have q0 : (3 : Int) ≤ (s.size : Int) := by omega
  clear h hd hsl hk
  go_enter Tryd.func37, Tryd.ntmps37
  go_wp2_with fail
  refine (cW.out _).mono ?_
  rintro e w2 ⟨rfl, rfl⟩
  go_wp2_with fail
  refine (cW.out _).mono ?_
  rintro e w2 ⟨rfl, rfl⟩
  go_wp2_with fail
  refine (cW.out _).mono ?_
  rintro e w2 ⟨rfl, rfl⟩
  go_wp2
  refine wp_loop_rounds 2 ?_
  rw [rounds_succ]
  go_wp2
  go_ret2
  exact RetPt.of rfl (by decide) (by decide) (Keeps.refl _)
set_option maxHeartbeats 2000000 in
set_option maxRecDepth 100000 in
theorem pt_3l2 (s : ByteArray) (w : World) (p0 : 0 < s.size) (hs : s.size ≤ 1000000) (h : 224 ≤ (s[0]'p0).toNat ∧ (s[0]'p0).toNat < 240) (hn : 3 ≤ s.size) (p1 : 1 < s.size) (p2 : 2 < s.size) (g1 : 128 ≤ (s[1]'p1).toNat ∧ (s[1]'p1).toNat ≤ 191) (hk : (s[2]'p2).toNat < 128) : Calls Tryd.prog 37 #[.string s] w (RetPt (pointR s.data.toList) w) := by
  have hsl : s.data.toList.length = s.size := by simp
  have he : s.toList.isEmpty = false := by
    rw [ByteArray.toList_eq, Bool.eq_false_iff, Ne, List.isEmpty_iff]
    intro e; rw [e] at hsl; simp at hsl; omega
  have hc := (s[0]'p0).toNat_lt
  have hd : decL s.data.toList = (65533, 1) := by
    rw [decL_at, getD_at s 0 p0, getD_at s 1 p1, getD_at s 2 p2]; unfold Lib.decodeN
    rw [if_neg (by omega), if_neg (by omega), if_neg (by omega), if_neg (by omega)]
  rw [pt_bad _ hd]
  have cW : Hid (∀ w1, Calls Tryd.prog 51 #[.int .u8 ((s[0]'p0).toNat : Int)] w1 (fun e w' => e = .returned (.int .i64 3) ∧ w' = w1)) := Lib.hid (fun w1 => wide_3 _ w1 h)
  have f1 : decide ((s.size : Int) < 3) = false := decide_eq_false (by omega)
  have hm := and_mask.2.1 _ hc
  have d1 : decide (((s[1]'p1).toNat : Int) < 128) = false := by simp; omega
  have e1 : decide ((191 : Int) < ((s[1]'p1).toNat : Int)) = false := by simp; omega
  have u1 := g1
  have k0 : decide (((s[2]'p2).toNat : Int) < 128) = true := by simp; omega
  have q0 : (3 : Int) ≤ (s.size : Int) := by omega
  clear h hd hsl hk
  go_enter Tryd.func37, Tryd.ntmps37
  go_wp2_with fail
  refine (cW.out _).mono ?_
  rintro e w2 ⟨rfl, rfl⟩
  go_wp2_with fail
  refine (cW.out _).mono ?_
  rintro e w2 ⟨rfl, rfl⟩
  go_wp2_with fail
  refine (cW.out _).mono ?_
  rintro e w2 ⟨rfl, rfl⟩
  go_wp2
  refine wp_loop_rounds 3 ?_
  rw [rounds_succ]
  go_wp2
  rw [rounds_succ]
  go_wp2
  go_ret2
  exact RetPt.of rfl (by decide) (by decide) (Keeps.refl _)
set_option maxHeartbeats 2000000 in
set_option maxRecDepth 100000 in
theorem pt_3h2 (s : ByteArray) (w : World) (p0 : 0 < s.size) (hs : s.size ≤ 1000000) (h : 224 ≤ (s[0]'p0).toNat ∧ (s[0]'p0).toNat < 240) (hn : 3 ≤ s.size) (p1 : 1 < s.size) (p2 : 2 < s.size) (g1 : 128 ≤ (s[1]'p1).toNat ∧ (s[1]'p1).toNat ≤ 191) (hk : 191 < (s[2]'p2).toNat) : Calls Tryd.prog 37 #[.string s] w (RetPt (pointR s.data.toList) w) := by
  have hsl : s.data.toList.length = s.size := by simp
  have he : s.toList.isEmpty = false := by
    rw [ByteArray.toList_eq, Bool.eq_false_iff, Ne, List.isEmpty_iff]
    intro e; rw [e] at hsl; simp at hsl; omega
  have hc := (s[0]'p0).toNat_lt
  have hd : decL s.data.toList = (65533, 1) := by
    rw [decL_at, getD_at s 0 p0, getD_at s 1 p1, getD_at s 2 p2]; unfold Lib.decodeN
    rw [if_neg (by omega), if_neg (by omega), if_neg (by omega), if_neg (by omega)]
  rw [pt_bad _ hd]
  have cW : Hid (∀ w1, Calls Tryd.prog 51 #[.int .u8 ((s[0]'p0).toNat : Int)] w1 (fun e w' => e = .returned (.int .i64 3) ∧ w' = w1)) := Lib.hid (fun w1 => wide_3 _ w1 h)
  have f1 : decide ((s.size : Int) < 3) = false := decide_eq_false (by omega)
  have hm := and_mask.2.1 _ hc
  have d1 : decide (((s[1]'p1).toNat : Int) < 128) = false := by simp; omega
  have e1 : decide ((191 : Int) < ((s[1]'p1).toNat : Int)) = false := by simp; omega
  have u1 := g1
  have k0 : decide (((s[2]'p2).toNat : Int) < 128) = false := by simp; omega
  have k1 : decide ((191 : Int) < ((s[2]'p2).toNat : Int)) = true := by simp; omega
  have q0 : (3 : Int) ≤ (s.size : Int) := by omega
  clear h hd hsl hk
  go_enter Tryd.func37, Tryd.ntmps37
  go_wp2_with fail
  refine (cW.out _).mono ?_
  rintro e w2 ⟨rfl, rfl⟩
  go_wp2_with fail
  refine (cW.out _).mono ?_
  rintro e w2 ⟨rfl, rfl⟩
  go_wp2_with fail
  refine (cW.out _).mono ?_
  rintro e w2 ⟨rfl, rfl⟩
  go_wp2
  refine wp_loop_rounds 3 ?_
  rw [rounds_succ]
  go_wp2
  rw [rounds_succ]
  go_wp2
  go_ret2
  exact RetPt.of rfl (by decide) (by decide) (Keeps.refl _)
set_option maxHeartbeats 8000000 in
set_option maxRecDepth 100000 in
theorem pt_3g (s : ByteArray) (w : World) (p0 : 0 < s.size) (hs : s.size ≤ 1000000) (h : 224 ≤ (s[0]'p0).toNat ∧ (s[0]'p0).toNat < 240) (hn : 3 ≤ s.size) (p1 : 1 < s.size) (p2 : 2 < s.size) (g1 : 128 ≤ (s[1]'p1).toNat ∧ (s[1]'p1).toNat ≤ 191) (g2 : 128 ≤ (s[2]'p2).toNat ∧ (s[2]'p2).toNat ≤ 191) : Calls Tryd.prog 37 #[.string s] w (RetPt (pointR s.data.toList) w) := by
  have hsl : s.data.toList.length = s.size := by simp
  have he : s.toList.isEmpty = false := by
    rw [ByteArray.toList_eq, Bool.eq_false_iff, Ne, List.isEmpty_iff]
    intro e; rw [e] at hsl; simp at hsl; omega
  have hc := (s[0]'p0).toNat_lt
  obtain ⟨p, hp⟩ : ∃ p, pointR s.data.toList = p := ⟨_, rfl⟩
  rw [hp]
  obtain ⟨R, hR⟩ : ∃ R : Int, R = (((s[0]'p0).toNat : Int) % 16 * 64 + ((s[1]'p1).toNat : Int) - 128) * 64 + ((s[2]'p2).toNat : Int) - 128 := ⟨_, rfl⟩
  have HG : 2048 ≤ R → R ≤ 1114111 → (R < 55296 ∨ 57343 < R) → p = (R.toNat, 3) := fun h1 h2 h3 => by
    rw [← hp]
    refine pt_good _ _ _ (by omega) (.inl (by decide)) ?_
    rw [decL_at, getD_at s 0 p0, getD_at s 1 p1, getD_at s 2 p2]; unfold Lib.decodeN
    rw [if_neg (by omega), if_neg (by omega), if_pos (by omega), if_pos (by omega)]
    congr 1; omega
  have HB : (R < 2048 ∨ 1114111 < R ∨ (55296 ≤ R ∧ R ≤ 57343)) → p = (0, 0) := fun h1 => by
    rw [← hp]
    refine pt_bad _ ?_
    rw [decL_at, getD_at s 0 p0, getD_at s 1 p1, getD_at s 2 p2]; unfold Lib.decodeN
    rw [if_neg (by omega), if_neg (by omega), if_pos (by omega), if_neg (by omega)]
  have HG2 := Lib.hid HG
  have HB2 := Lib.hid HB
  have HR := Lib.hid hR
  clear HG HB hp hR
  have cW : Hid (∀ w1, Calls Tryd.prog 51 #[.int .u8 ((s[0]'p0).toNat : Int)] w1 (fun e w' => e = .returned (.int .i64 3) ∧ w' = w1)) := Lib.hid (fun w1 => wide_3 _ w1 h)
  have f1 : decide ((s.size : Int) < 3) = false := decide_eq_false (by omega)
  have hm := and_mask.2.1 _ hc
  have d1 : decide (((s[1]'p1).toNat : Int) < 128) = false := by simp; omega
  have e1 : decide ((191 : Int) < ((s[1]'p1).toNat : Int)) = false := by simp; omega
  have d2 : decide (((s[2]'p2).toNat : Int) < 128) = false := by simp; omega
  have e2 : decide ((191 : Int) < ((s[2]'p2).toNat : Int)) = false := by simp; omega
  have q0 : (3 : Int) ≤ (s.size : Int) := by omega
  clear h hsl
  go_enter Tryd.func37, Tryd.ntmps37
  go_wp2_with fail
  refine (cW.out _).mono ?_
  rintro e w2 ⟨rfl, rfl⟩
  go_wp2_with fail
  refine (cW.out _).mono ?_
  rintro e w2 ⟨rfl, rfl⟩
  go_wp2_with fail
  refine (cW.out _).mono ?_
  rintro e w2 ⟨rfl, rfl⟩
  go_wp2
  refine wp_loop_rounds 3 ?_
  rw [rounds_succ]
  go_wp2
  rw [rounds_succ]
  go_wp2
  rw [rounds_succ]
  go_wp2
  all_goals go_ret2
  all_goals (have hR := HR.out; subst hR)
  all_goals first
    | exact RetPt.of (x := 0) (y := 0) (HB2.out (by omega)) (by decide) (by decide) ((Keeps.refl _).alloc _)
    | exact RetPt.of (y := 3) (HG2.out (by omega) (by omega) (by omega)) (by omega) (by decide) ((Keeps.refl _).alloc _)
set_option maxHeartbeats 1000000 in
set_option maxRecDepth 100000 in
theorem pt_4s (s : ByteArray) (w : World) (p0 : 0 < s.size) (hs : s.size ≤ 1000000) (h : 240 ≤ (s[0]'p0).toNat ∧ (s[0]'p0).toNat < 248) (hn : s.size < 4) : Calls Tryd.prog 37 #[.string s] w (RetPt (pointR s.data.toList) w) := by
  have hsl : s.data.toList.length = s.size := by simp
  have he : s.toList.isEmpty = false := by
    rw [ByteArray.toList_eq, Bool.eq_false_iff, Ne, List.isEmpty_iff]
    intro e; rw [e] at hsl; simp at hsl; omega
  have hc := (s[0]'p0).toNat_lt
  have hd : decL s.data.toList = (65533, 1) := by
    rw [decL_at, getD_at s 0 p0]; unfold Lib.decodeN
    rw [if_neg (by omega), if_neg (by omega), if_neg (by omega), if_neg (by omega)]
  rw [pt_bad _ hd]
  have cW : Hid (∀ w1, Calls Tryd.prog 51 #[.int .u8 ((s[0]'p0).toNat : Int)] w1 (fun e w' => e = .returned (.int .i64 4) ∧ w' = w1)) := Lib.hid (fun w1 => wide_4 _ w1 h)
  have f1 : decide ((s.size : Int) < 4) = true := decide_eq_true (by omega)
  clear h hd hsl hc hn
  go_enter Tryd.func37, Tryd.ntmps37
  go_wp2_with fail
  refine (cW.out _).mono ?_
  rintro e w2 ⟨rfl, rfl⟩
  go_wp2_with fail
  refine (cW.out _).mono ?_
  rintro e w2 ⟨rfl, rfl⟩
  go_wp2
  go_ret2
  exact RetPt.of rfl (by decide) (by decide) (Keeps.refl _)
set_option maxHeartbeats 2000000 in
set_option maxRecDepth 100000 in
theorem pt_4l1 (s : ByteArray) (w : World) (p0 : 0 < s.size) (hs : s.size ≤ 1000000) (h : 240 ≤ (s[0]'p0).toNat ∧ (s[0]'p0).toNat < 248) (hn : 4 ≤ s.size) (p1 : 1 < s.size) (p2 : 2 < s.size) (p3 : 3 < s.size) (hk : (s[1]'p1).toNat < 128) : Calls Tryd.prog 37 #[.string s] w (RetPt (pointR s.data.toList) w) := by
  have hsl : s.data.toList.length = s.size := by simp
  have he : s.toList.isEmpty = false := by
    rw [ByteArray.toList_eq, Bool.eq_false_iff, Ne, List.isEmpty_iff]
    intro e; rw [e] at hsl; simp at hsl; omega
  have hc := (s[0]'p0).toNat_lt
  have hd : decL s.data.toList = (65533, 1) := by
    rw [decL_at, getD_at s 0 p0, getD_at s 1 p1]; unfold Lib.decodeN
    rw [if_neg (by omega), if_neg (by omega), if_neg (by omega), if_neg (by omega)]
  rw [pt_bad _ hd]
  have cW : Hid (∀ w1, Calls Tryd.prog 51 #[.int .u8 ((s[0]'p0).toNat : Int)] w1 (fun e w' => e = .returned (.int .i64 4) ∧ w' = w1)) := Lib.hid (fun w1 => wide_4 _ w1 h)
  have f1 : decide ((s.size : Int) < 4) = false := decide_eq_false (by omega)
  have hm := and_mask.2.2 _ hc
  have k0 : decide (((s[1]'p1).toNat : Int) < 128) = true := by simp; omega
  have q0 : (4 : Int) ≤ (s.size : Int) := by omega
  clear h hd hsl hk
  go_enter Tryd.func37, Tryd.ntmps37
  go_wp2_with fail
  refine (cW.out _).mono ?_
  rintro e w2 ⟨rfl, rfl⟩
  go_wp2_with fail
  refine (cW.out _).mono ?_
  rintro e w2 ⟨rfl, rfl⟩
  go_wp2_with fail
  refine (cW.out _).mono ?_
  rintro e w2 ⟨rfl, rfl⟩
  go_wp2
  refine wp_loop_rounds 2 ?_
  rw [rounds_succ]
  go_wp2
  go_ret2
  exact RetPt.of rfl (by decide) (by decide) (Keeps.refl _)
set_option maxHeartbeats 2000000 in
set_option maxRecDepth 100000 in
theorem pt_4h1 (s : ByteArray) (w : World) (p0 : 0 < s.size) (hs : s.size ≤ 1000000) (h : 240 ≤ (s[0]'p0).toNat ∧ (s[0]'p0).toNat < 248) (hn : 4 ≤ s.size) (p1 : 1 < s.size) (p2 : 2 < s.size) (p3 : 3 < s.size) (hk : 191 < (s[1]'p1).toNat) : Calls Tryd.prog 37 #[.string s] w (RetPt (pointR s.data.toList) w) := by
  have hsl : s.data.toList.length = s.size := by simp
  have he : s.toList.isEmpty = false := by
    rw [ByteArray.toList_eq, Bool.eq_false_iff, Ne, List.isEmpty_iff]
    intro e; rw [e] at hsl; simp at hsl; omega
  have hc := (s[0]'p0).toNat_lt
  have hd : decL s.data.toList = (65533, 1) := by
    rw [decL_at, getD_at s 0 p0, getD_at s 1 p1]; unfold Lib.decodeN
    rw [if_neg (by omega), if_neg (by omega), if_neg (by omega), if_neg (by omega)]
  rw [pt_bad _ hd]
  have cW : Hid (∀ w1, Calls Tryd.prog 51 #[.int .u8 ((s[0]'p0).toNat : Int)] w1 (fun e w' => e = .returned (.int .i64 4) ∧ w' = w1)) := Lib.hid (fun w1 => wide_4 _ w1 h)
  have f1 : decide ((s.size : Int) < 4) = false := decide_eq_false (by omega)
  have hm := and_mask.2.2 _ hc
  have k0 : decide (((s[1]'p1).toNat : Int) < 128) = false := by simp; omega
  have k1 : decide ((191 : Int) < ((s[1]'p1).toNat : Int)) = true := by simp; omega
  have q0 : (4 : Int) ≤ (s.size : Int) := by omega
  clear h hd hsl hk
  go_enter Tryd.func37, Tryd.ntmps37
  go_wp2_with fail
  refine (cW.out _).mono ?_
  rintro e w2 ⟨rfl, rfl⟩
  go_wp2_with fail
  refine (cW.out _).mono ?_
  rintro e w2 ⟨rfl, rfl⟩
  go_wp2_with fail
  refine (cW.out _).mono ?_
  rintro e w2 ⟨rfl, rfl⟩
  go_wp2
  refine wp_loop_rounds 2 ?_
  rw [rounds_succ]
  go_wp2
  go_ret2
  exact RetPt.of rfl (by decide) (by decide) (Keeps.refl _)
set_option maxHeartbeats 2000000 in
set_option maxRecDepth 100000 in
theorem pt_4l2 (s : ByteArray) (w : World) (p0 : 0 < s.size) (hs : s.size ≤ 1000000) (h : 240 ≤ (s[0]'p0).toNat ∧ (s[0]'p0).toNat < 248) (hn : 4 ≤ s.size) (p1 : 1 < s.size) (p2 : 2 < s.size) (p3 : 3 < s.size) (g1 : 128 ≤ (s[1]'p1).toNat ∧ (s[1]'p1).toNat ≤ 191) (hk : (s[2]'p2).toNat < 128) : Calls Tryd.prog 37 #[.string s] w (RetPt (pointR s.data.toList) w) := by
  have hsl : s.data.toList.length = s.size := by simp
  have he : s.toList.isEmpty = false := by
    rw [ByteArray.toList_eq, Bool.eq_false_iff, Ne, List.isEmpty_iff]
    intro e; rw [e] at hsl; simp at hsl; omega
  have hc := (s[0]'p0).toNat_lt
  have hd : decL s.data.toList = (65533, 1) := by
    rw [decL_at, getD_at s 0 p0, getD_at s 1 p1, getD_at s 2 p2]; unfold Lib.decodeN
    rw [if_neg (by omega), if_neg (by omega), if_neg (by omega), if_neg (by omega)]
  rw [pt_bad _ hd]
  have cW : Hid (∀ w1, Calls Tryd.prog 51 #[.int .u8 ((s[0]'p0).toNat : Int)] w1 (fun e w' => e = .returned (.int .i64 4) ∧ w' = w1)) := Lib.hid (fun w1 => wide_4 _ w1 h)
  have f1 : decide ((s.size : Int) < 4) = false := decide_eq_false (by omega)
  have hm := and_mask.2.2 _ hc
  have d1 : decide (((s[1]'p1).toNat : Int) < 128) = false := by simp; omega
  have e1 : decide ((191 : Int) < ((s[1]'p1).toNat : Int)) = false := by simp; omega
  have u1 := g1
  have k0 : decide (((s[2]'p2).toNat : Int) < 128) = true := by simp; omega
  have q0 : (4 : Int) ≤ (s.size : Int) := by omega
  clear h hd hsl hk
  go_enter Tryd.func37, Tryd.ntmps37
  go_wp2_with fail
  refine (cW.out _).mono ?_
  rintro e w2 ⟨rfl, rfl⟩
  go_wp2_with fail
  refine (cW.out _).mono ?_
  rintro e w2 ⟨rfl, rfl⟩
  go_wp2_with fail
  refine (cW.out _).mono ?_
  rintro e w2 ⟨rfl, rfl⟩
  go_wp2
  refine wp_loop_rounds 3 ?_
  rw [rounds_succ]
  go_wp2
  rw [rounds_succ]
  go_wp2
  go_ret2
  exact RetPt.of rfl (by decide) (by decide) (Keeps.refl _)
set_option maxHeartbeats 2000000 in
set_option maxRecDepth 100000 in
theorem pt_4h2 (s : ByteArray) (w : World) (p0 : 0 < s.size) (hs : s.size ≤ 1000000) (h : 240 ≤ (s[0]'p0).toNat ∧ (s[0]'p0).toNat < 248) (hn : 4 ≤ s.size) (p1 : 1 < s.size) (p2 : 2 < s.size) (p3 : 3 < s.size) (g1 : 128 ≤ (s[1]'p1).toNat ∧ (s[1]'p1).toNat ≤ 191) (hk : 191 < (s[2]'p2).toNat) : Calls Tryd.prog 37 #[.string s] w (RetPt (pointR s.data.toList) w) := by
  have hsl : s.data.toList.length = s.size := by simp
  have he : s.toList.isEmpty = false := by
    rw [ByteArray.toList_eq, Bool.eq_false_iff, Ne, List.isEmpty_iff]
    intro e; rw [e] at hsl; simp at hsl; omega
  have hc := (s[0]'p0).toNat_lt
  have hd : decL s.data.toList = (65533, 1) := by
    rw [decL_at, getD_at s 0 p0, getD_at s 1 p1, getD_at s 2 p2]; unfold Lib.decodeN
    rw [if_neg (by omega), if_neg (by omega), if_neg (by omega), if_neg (by omega)]
  rw [pt_bad _ hd]
  have cW : Hid (∀ w1, Calls Tryd.prog 51 #[.int .u8 ((s[0]'p0).toNat : Int)] w1 (fun e w' => e = .returned (.int .i64 4) ∧ w' = w1)) := Lib.hid (fun w1 => wide_4 _ w1 h)
  have f1 : decide ((s.size : Int) < 4) = false := decide_eq_false (by omega)
  have hm := and_mask.2.2 _ hc
  have d1 : decide (((s[1]'p1).toNat : Int) < 128) = false := by simp; omega
  have e1 : decide ((191 : Int) < ((s[1]'p1).toNat : Int)) = false := by simp; omega
  have u1 := g1
  have k0 : decide (((s[2]'p2).toNat : Int) < 128) = false := by simp; omega
  have k1 : decide ((191 : Int) < ((s[2]'p2).toNat : Int)) = true := by simp; omega
  have q0 : (4 : Int) ≤ (s.size : Int) := by omega
  clear h hd hsl hk
  go_enter Tryd.func37, Tryd.ntmps37
  go_wp2_with fail
  refine (cW.out _).mono ?_
  rintro e w2 ⟨rfl, rfl⟩
  go_wp2_with fail
  refine (cW.out _).mono ?_
  rintro e w2 ⟨rfl, rfl⟩
  go_wp2_with fail
  refine (cW.out _).mono ?_
  rintro e w2 ⟨rfl, rfl⟩
  go_wp2
  refine wp_loop_rounds 3 ?_
  rw [rounds_succ]
  go_wp2
  rw [rounds_succ]
  go_wp2
  go_ret2
  exact RetPt.of rfl (by decide) (by decide) (Keeps.refl _)
set_option maxHeartbeats 2000000 in
set_option maxRecDepth 100000 in
theorem pt_4l3 (s : ByteArray) (w : World) (p0 : 0 < s.size) (hs : s.size ≤ 1000000) (h : 240 ≤ (s[0]'p0).toNat ∧ (s[0]'p0).toNat < 248) (hn : 4 ≤ s.size) (p1 : 1 < s.size) (p2 : 2 < s.size) (p3 : 3 < s.size) (g1 : 128 ≤ (s[1]'p1).toNat ∧ (s[1]'p1).toNat ≤ 191) (g2 : 128 ≤ (s[2]'p2).toNat ∧ (s[2]'p2).toNat ≤ 191) (hk : (s[3]'p3).toNat < 128) : Calls Tryd.prog 37 #[.string s] w (RetPt (pointR s.data.toList) w) := by
  have hsl : s.data.toList.length = s.size := by simp
  have he : s.toList.isEmpty = false := by
    rw [ByteArray.toList_eq, Bool.eq_false_iff, Ne, List.isEmpty_iff]
    intro e; rw [e] at hsl; simp at hsl; omega
  have hc := (s[0]'p0).toNat_lt
  have hd : decL s.data.toList = (65533, 1) := by
    rw [decL_at, getD_at s 0 p0, getD_at s 1 p1, getD_at s 2 p2, getD_at s 3 p3]; unfold Lib.decodeN
    rw [if_neg (by omega), if_neg (by omega), if_neg (by omega), if_neg (by omega)]
  rw [pt_bad _ hd]
  have cW : Hid (∀ w1, Calls Tryd.prog 51 #[.int .u8 ((s[0]'p0).toNat : Int)] w1 (fun e w' => e = .returned (.int .i64 4) ∧ w' = w1)) := Lib.hid (fun w1 => wide_4 _ w1 h)
  have f1 : decide ((s.size : Int) < 4) = false := decide_eq_false (by omega)
  have hm := and_mask.2.2 _ hc
  have d1 : decide (((s[1]'p1).toNat : Int) < 128) = false := by simp; omega
  have e1 : decide ((191 : Int) < ((s[1]'p1).toNat : Int)) = false := by simp; omega
  have u1 := g1
  have d2 : decide (((s[2]'p2).toNat : Int) < 128) = false := by simp; omega
  have e2 : decide ((191 : Int) < ((s[2]'p2).toNat : Int)) = false := by simp; omega
  have u2 := g2
  have k0 : decide (((s[3]'p3).toNat : Int) < 128) = true := by simp; omega
  have q0 : (4 : Int) ≤ (s.size : Int) := by omega
  clear h hd hsl hk
  go_enter Tryd.func37, Tryd.ntmps37
  go_wp2_with fail
  refine (cW.out _).mono ?_
  rintro e w2 ⟨rfl, rfl⟩
  go_wp2_with fail
  refine (cW.out _).mono ?_
  rintro e w2 ⟨rfl, rfl⟩
  go_wp2_with fail
  refine (cW.out _).mono ?_
  rintro e w2 ⟨rfl, rfl⟩
  go_wp2
  refine wp_loop_rounds 4 ?_
  rw [rounds_succ]
  go_wp2
  rw [rounds_succ]
  go_wp2
  rw [rounds_succ]
  go_wp2
  go_ret2
  exact RetPt.of rfl (by decide) (by decide) (Keeps.refl _)
set_option maxHeartbeats 2000000 in
set_option maxRecDepth 100000 in
theorem pt_4h3 (s : ByteArray) (w : World) (p0 : 0 < s.size) (hs : s.size ≤ 1000000) (h : 240 ≤ (s[0]'p0).toNat ∧ (s[0]'p0).toNat < 248) (hn : 4 ≤ s.size) (p1 : 1 < s.size) (p2 : 2 < s.size) (p3 : 3 < s.size) (g1 : 128 ≤ (s[1]'p1).toNat ∧ (s[1]'p1).toNat ≤ 191) (g2 : 128 ≤ (s[2]'p2).toNat ∧ (s[2]'p2).toNat ≤ 191) (hk : 191 < (s[3]'p3).toNat) : Calls Tryd.prog 37 #[.string s] w (RetPt (pointR s.data.toList) w) := by
  have hsl : s.data.toList.length = s.size := by simp
  have he : s.toList.isEmpty = false := by
    rw [ByteArray.toList_eq, Bool.eq_false_iff, Ne, List.isEmpty_iff]
    intro e; rw [e] at hsl; simp at hsl; omega
  have hc := (s[0]'p0).toNat_lt
  have hd : decL s.data.toList = (65533, 1) := by
    rw [decL_at, getD_at s 0 p0, getD_at s 1 p1, getD_at s 2 p2, getD_at s 3 p3]; unfold Lib.decodeN
    rw [if_neg (by omega), if_neg (by omega), if_neg (by omega), if_neg (by omega)]
  rw [pt_bad _ hd]
  have cW : Hid (∀ w1, Calls Tryd.prog 51 #[.int .u8 ((s[0]'p0).toNat : Int)] w1 (fun e w' => e = .returned (.int .i64 4) ∧ w' = w1)) := Lib.hid (fun w1 => wide_4 _ w1 h)
  have f1 : decide ((s.size : Int) < 4) = false := decide_eq_false (by omega)
  have hm := and_mask.2.2 _ hc
  have d1 : decide (((s[1]'p1).toNat : Int) < 128) = false := by simp; omega
  have e1 : decide ((191 : Int) < ((s[1]'p1).toNat : Int)) = false := by simp; omega
  have u1 := g1
  have d2 : decide (((s[2]'p2).toNat : Int) < 128) = false := by simp; omega
  have e2 : decide ((191 : Int) < ((s[2]'p2).toNat : Int)) = false := by simp; omega
  have u2 := g2
  have k0 : decide (((s[3]'p3).toNat : Int) < 128) = false := by simp; omega
  have k1 : decide ((191 : Int) < ((s[3]'p3).toNat : Int)) = true := by simp; omega
  have q0 : (4 : Int) ≤ (s.size : Int) := by omega
  clear h hd hsl hk
  go_enter Tryd.func37, Tryd.ntmps37
  go_wp2_with fail
  refine (cW.out _).mono ?_
  rintro e w2 ⟨rfl, rfl⟩
  go_wp2_with fail
  refine (cW.out _).mono ?_
  rintro e w2 ⟨rfl, rfl⟩
  go_wp2_with fail
  refine (cW.out _).mono ?_
  rintro e w2 ⟨rfl, rfl⟩
  go_wp2
  refine wp_loop_rounds 4 ?_
  rw [rounds_succ]
  go_wp2
  rw [rounds_succ]
  go_wp2
  rw [rounds_succ]
  go_wp2
  go_ret2
  exact RetPt.of rfl (by decide) (by decide) (Keeps.refl _)
set_option maxHeartbeats 8000000 in
set_option maxRecDepth 100000 in
theorem pt_4g (s : ByteArray) (w : World) (p0 : 0 < s.size) (hs : s.size ≤ 1000000) (h : 240 ≤ (s[0]'p0).toNat ∧ (s[0]'p0).toNat < 248) (hn : 4 ≤ s.size) (p1 : 1 < s.size) (p2 : 2 < s.size) (p3 : 3 < s.size) (g1 : 128 ≤ (s[1]'p1).toNat ∧ (s[1]'p1).toNat ≤ 191) (g2 : 128 ≤ (s[2]'p2).toNat ∧ (s[2]'p2).toNat ≤ 191) (g3 : 128 ≤ (s[3]'p3).toNat ∧ (s[3]'p3).toNat ≤ 191) : Calls Tryd.prog 37 #[.string s] w (RetPt (pointR s.data.toList) w) := by
  have hsl : s.data.toList.length = s.size := by simp
  have he : s.toList.isEmpty = false := by
    rw [ByteArray.toList_eq, Bool.eq_false_iff, Ne, List.isEmpty_iff]
    intro e; rw [e] at hsl; simp at hsl; omega
  have hc := (s[0]'p0).toNat_lt
  obtain ⟨p, hp⟩ : ∃ p, pointR s.data.toList = p := ⟨_, rfl⟩
  rw [hp]
  obtain ⟨R, hR⟩ : ∃ R : Int, R = ((((s[0]'p0).toNat : Int) % 8 * 64 + ((s[1]'p1).toNat : Int) - 128) * 64 + ((s[2]'p2).toNat : Int) - 128) * 64 + ((s[3]'p3).toNat : Int) - 128 := ⟨_, rfl⟩
  have HG : 65536 ≤ R → R ≤ 1114111 → (R < 55296 ∨ 57343 < R) → p = (R.toNat, 4) := fun h1 h2 h3 => by
    rw [← hp]
    refine pt_good _ _ _ (by omega) (.inl (by decide)) ?_
    rw [decL_at, getD_at s 0 p0, getD_at s 1 p1, getD_at s 2 p2, getD_at s 3 p3]; unfold Lib.decodeN
    rw [if_neg (by omega), if_neg (by omega), if_neg (by omega), if_pos (by omega), if_pos (by omega)]
    congr 1; omega
  have HB : (R < 65536 ∨ 1114111 < R ∨ (55296 ≤ R ∧ R ≤ 57343)) → p = (0, 0) := fun h1 => by
    rw [← hp]
    refine pt_bad _ ?_
    rw [decL_at, getD_at s 0 p0, getD_at s 1 p1, getD_at s 2 p2, getD_at s 3 p3]; unfold Lib.decodeN
    rw [if_neg (by omega), if_neg (by omega), if_neg (by omega), if_pos (by omega), if_neg (by omega)]
  have HG2 := Lib.hid HG
  have HB2 := Lib.hid HB
  have HR := Lib.hid hR
  clear HG HB hp hR
  have cW : Hid (∀ w1, Calls Tryd.prog 51 #[.int .u8 ((s[0]'p0).toNat : Int)] w1 (fun e w' => e = .returned (.int .i64 4) ∧ w' = w1)) := Lib.hid (fun w1 => wide_4 _ w1 h)
  have f1 : decide ((s.size : Int) < 4) = false := decide_eq_false (by omega)
  have hm := and_mask.2.2 _ hc
  have d1 : decide (((s[1]'p1).toNat : Int) < 128) = false := by simp; omega
  have e1 : decide ((191 : Int) < ((s[1]'p1).toNat : Int)) = false := by simp; omega
  have d2 : decide (((s[2]'p2).toNat : Int) < 128) = false := by simp; omega
  have e2 : decide ((191 : Int) < ((s[2]'p2).toNat : Int)) = false := by simp; omega
  have d3 : decide (((s[3]'p3).toNat : Int) < 128) = false := by simp; omega
  have e3 : decide ((191 : Int) < ((s[3]'p3).toNat : Int)) = false := by simp; omega
  have q0 : (4 : Int) ≤ (s.size : Int) := by omega
  clear h hsl
  go_enter Tryd.func37, Tryd.ntmps37
  go_wp2_with fail
  refine (cW.out _).mono ?_
  rintro e w2 ⟨rfl, rfl⟩
  go_wp2_with fail
  refine (cW.out _).mono ?_
  rintro e w2 ⟨rfl, rfl⟩
  go_wp2_with fail
  refine (cW.out _).mono ?_
  rintro e w2 ⟨rfl, rfl⟩
  go_wp2
  refine wp_loop_rounds 4 ?_
  rw [rounds_succ]
  go_wp2
  rw [rounds_succ]
  go_wp2
  rw [rounds_succ]
  go_wp2
  rw [rounds_succ]
  go_wp2
  all_goals go_ret2
  all_goals (have hR := HR.out; subst hR)
  all_goals first
    | exact RetPt.of (x := 0) (y := 0) (HB2.out (by omega)) (by decide) (by decide) ((Keeps.refl _).alloc _)
    | exact RetPt.of (y := 4) (HG2.out (by omega) (by omega) (by omega)) (by omega) (by decide) ((Keeps.refl _).alloc _)
theorem point_any (s : ByteArray) (w : World) (hs : s.size ≤ 1000000) : Calls Tryd.prog 37 #[.string s] w (RetPt (pointR s.data.toList) w) := by
  by_cases h0 : s.size = 0
  · exact pt_nil s w h0
  have p0 : 0 < s.size := by omega
  by_cases h1 : (s[0]'p0).toNat < 128
  · exact pt_one s w p0 hs h1
  by_cases h2 : (s[0]'p0).toNat < 192
  · exact pt_z1 s w p0 ⟨by omega, h2⟩
  by_cases h3 : 248 ≤ (s[0]'p0).toNat
  · exact pt_z2 s w p0 h3
  by_cases c2 : (s[0]'p0).toNat < 224
  · have h : 192 ≤ (s[0]'p0).toNat ∧ (s[0]'p0).toNat < 224 := ⟨by omega, c2⟩
    by_cases hn : s.size < 2
    · exact pt_2s s w p0 hs h hn
    have p1 : 1 < s.size := by omega
    by_cases l1 : (s[1]'p1).toNat < 128
    · exact pt_2l1 s w p0 hs h (by omega) p1  l1
    by_cases m1 : 191 < (s[1]'p1).toNat
    · exact pt_2h1 s w p0 hs h (by omega) p1  m1
    have g1 : 128 ≤ (s[1]'p1).toNat ∧ (s[1]'p1).toNat ≤ 191 := ⟨by omega, by omega⟩
    exact pt_2g s w p0 hs h (by omega) p1 g1
  by_cases c3 : (s[0]'p0).toNat < 240
  · have h : 224 ≤ (s[0]'p0).toNat ∧ (s[0]'p0).toNat < 240 := ⟨by omega, c3⟩
    by_cases hn : s.size < 3
    · exact pt_3s s w p0 hs h hn
    have p1 : 1 < s.size := by omega
    have p2 : 2 < s.size := by omega
    by_cases l1 : (s[1]'p1).toNat < 128
    · exact pt_3l1 s w p0 hs h (by omega) p1 p2  l1
    by_cases m1 : 191 < (s[1]'p1).toNat
    · exact pt_3h1 s w p0 hs h (by omega) p1 p2  m1
    have g1 : 128 ≤ (s[1]'p1).toNat ∧ (s[1]'p1).toNat ≤ 191 := ⟨by omega, by omega⟩
    by_cases l2 : (s[2]'p2).toNat < 128
    · exact pt_3l2 s w p0 hs h (by omega) p1 p2 g1 l2
    by_cases m2 : 191 < (s[2]'p2).toNat
    · exact pt_3h2 s w p0 hs h (by omega) p1 p2 g1 m2
    have g2 : 128 ≤ (s[2]'p2).toNat ∧ (s[2]'p2).toNat ≤ 191 := ⟨by omega, by omega⟩
    exact pt_3g s w p0 hs h (by omega) p1 p2 g1 g2
  have c4 : (s[0]'p0).toNat < 248 := by omega
  have h : 240 ≤ (s[0]'p0).toNat ∧ (s[0]'p0).toNat < 248 := ⟨by omega, c4⟩
  by_cases hn : s.size < 4
  · exact pt_4s s w p0 hs h hn
  have p1 : 1 < s.size := by omega
  have p2 : 2 < s.size := by omega
  have p3 : 3 < s.size := by omega
  by_cases l1 : (s[1]'p1).toNat < 128
  · exact pt_4l1 s w p0 hs h (by omega) p1 p2 p3  l1
  by_cases m1 : 191 < (s[1]'p1).toNat
  · exact pt_4h1 s w p0 hs h (by omega) p1 p2 p3  m1
  have g1 : 128 ≤ (s[1]'p1).toNat ∧ (s[1]'p1).toNat ≤ 191 := ⟨by omega, by omega⟩
  by_cases l2 : (s[2]'p2).toNat < 128
  · exact pt_4l2 s w p0 hs h (by omega) p1 p2 p3 g1 l2
  by_cases m2 : 191 < (s[2]'p2).toNat
  · exact pt_4h2 s w p0 hs h (by omega) p1 p2 p3 g1 m2
  have g2 : 128 ≤ (s[2]'p2).toNat ∧ (s[2]'p2).toNat ≤ 191 := ⟨by omega, by omega⟩
  by_cases l3 : (s[3]'p3).toNat < 128
  · exact pt_4l3 s w p0 hs h (by omega) p1 p2 p3 g1 g2 l3
  by_cases m3 : 191 < (s[3]'p3).toNat
  · exact pt_4h3 s w p0 hs h (by omega) p1 p2 p3 g1 g2 m3
  have g3 : 128 ≤ (s[3]'p3).toNat ∧ (s[3]'p3).toNat ≤ 191 := ⟨by omega, by omega⟩
  exact pt_4g s w p0 hs h (by omega) p1 p2 p3 g1 g2 g3
end Go.Proofs.YtbhgfdgdbbfeoaaDoor
