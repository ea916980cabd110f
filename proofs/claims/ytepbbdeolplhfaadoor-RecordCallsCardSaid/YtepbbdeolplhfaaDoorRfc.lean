/-
  The document's own Line and Big of records.
-/
import Derived.Test.YtepbbdeolplhfaaDoorRfb
namespace Go.Proofs.YtepbbdeolplhfaaDoor
open Go.RowKit

set_option maxHeartbeats 1000000 in
theorem rline1 (code n : Int) (ok : Bool) (text : ByteArray) (w : World) (ht : text.size ≤ 100000) : Calls Tryd.prog 18 #[inV 1 code n ok text] w (Says (lineL 1 code n ok text.data.toList) w) := by
  have hl : text.data.toList.length = text.size := by simp
  have hL : Hid (lineL 1 code n ok text.data.toList = [101, 118, 101, 110, 116, 32] ++ Lib.itoa (text.size : Int)) := by
    show _ = _
    unfold lineL; rw [if_pos rfl, hl]
  obtain ⟨s, hs, hz⟩ := itoa_some (text.size : Int) (by omega) (by omega)
  have cI : Hid (∀ w1, Calls Tryd.prog 29 #[.int .i64 (text.size : Int)] w1 (fun e w' => e = .returned (.string s) ∧ Keeps w1 w')) := Lib.hid (fun w1 => by rw [hs]; exact rdigits_any (text.size : Int) (by omega) (by omega) w1)
  have HS := Lib.hid hs
  have z1 : (⟨#[101, 118, 101, 110, 116, 32]⟩ : ByteArray).size = 6 := rfl
  generalize Lib.itoa (text.size : Int) = L at hL HS hs
  clear hs hl
  unfold inV
  go_enter Tryd.func18, Tryd.ntmps18
  go_wp2_with fail
  refine (cI.out _).mono ?_
  rintro e w2 ⟨rfl, h⟩
  have K2 := Lib.hid (((Keeps.refl _).alloc _).trans h)
  go_wp2
  go_ret
  exact Says.of (by rw [hL.out, HS.out]; exact S_app _ _) K2.out

set_option maxHeartbeats 1000000 in
theorem rline2 (code n : Int) (ok : Bool) (text : ByteArray) (w : World) (ht : text.size ≤ 100000) (h0 : -9223372036854775808 ≤ n) (h1 : n ≤ 9223372036854775807) : Calls Tryd.prog 18 #[inV 2 code n ok text] w (Says (lineL 2 code n ok text.data.toList) w) := by
  have hl : text.data.toList.length = text.size := by simp
  have hL : Hid (lineL 2 code n ok text.data.toList = [108, 111, 110, 103, 32] ++ Lib.itoa (n : Int)) := by
    show _ = _
    unfold lineL; rw [if_neg (by decide)]; rw [if_pos rfl]
  obtain ⟨s, hs, hz⟩ := itoa_some (n : Int) h0 h1
  have cI : Hid (∀ w1, Calls Tryd.prog 29 #[.int .i64 (n : Int)] w1 (fun e w' => e = .returned (.string s) ∧ Keeps w1 w')) := Lib.hid (fun w1 => by rw [hs]; exact rdigits_any (n : Int) h0 h1 w1)
  have HS := Lib.hid hs
  have z1 : (⟨#[108, 111, 110, 103, 32]⟩ : ByteArray).size = 5 := rfl
  generalize Lib.itoa (n : Int) = L at hL HS hs
  clear hs hl
  unfold inV
  go_enter Tryd.func18, Tryd.ntmps18
  go_wp2_with fail
  refine (cI.out _).mono ?_
  rintro e w2 ⟨rfl, h⟩
  have K2 := Lib.hid (((Keeps.refl _).alloc _).trans h)
  go_wp2
  go_ret
  exact Says.of (by rw [hL.out, HS.out]; exact S_app _ _) K2.out

set_option maxHeartbeats 1000000 in
theorem rline3 (code n : Int) (ok : Bool) (text : ByteArray) (w : World) (ht : text.size ≤ 100000) (h0 : -9223372036854775808 ≤ n) (h1 : n ≤ 9223372036854775807) : Calls Tryd.prog 18 #[inV 3 code n ok text] w (Says (lineL 3 code n ok text.data.toList) w) := by
  have hl : text.data.toList.length = text.size := by simp
  have hL : Hid (lineL 3 code n ok text.data.toList = [114, 101, 112, 108, 121, 32] ++ Lib.itoa (n : Int) ++ [32] ++ yesL ok) := by
    show _ = _
    unfold lineL; rw [if_neg (by decide)]; rw [if_neg (by decide)]; rw [if_pos rfl]
  obtain ⟨s, hs, hz⟩ := itoa_some (n : Int) h0 h1
  have cI : Hid (∀ w1, Calls Tryd.prog 29 #[.int .i64 (n : Int)] w1 (fun e w' => e = .returned (.string s) ∧ Keeps w1 w')) := Lib.hid (fun w1 => by rw [hs]; exact rdigits_any (n : Int) h0 h1 w1)
  have HS := Lib.hid hs
  have z1 : (⟨#[114, 101, 112, 108, 121, 32]⟩ : ByteArray).size = 6 := rfl
  have z2 : (⟨#[32, 121, 101, 115]⟩ : ByteArray).size = 4 := rfl
  have z3 : (⟨#[32, 110, 111]⟩ : ByteArray).size = 3 := rfl
  generalize Lib.itoa (n : Int) = L at hL HS hs
  clear hs hl
  unfold inV
  cases ok
  all_goals
    go_enter Tryd.func18, Tryd.ntmps18
    go_wp2_with fail
    refine (cI.out _).mono ?_
    rintro e w2 ⟨rfl, h⟩
    have K2 := Lib.hid (((Keeps.refl _).alloc _).trans h)
    go_wp2
    go_ret
    exact Says.of (by rw [hL.out, HS.out]; simp only [S_app, S_one, yesL]; congr 1; simp) K2.out

set_option maxHeartbeats 1000000 in
theorem rline4 (code n : Int) (ok : Bool) (text : ByteArray) (w : World) (ht : text.size ≤ 100000) (h0 : -9223372036854775808 ≤ n) (h1 : n ≤ 9223372036854775807) : Calls Tryd.prog 18 #[inV 4 code n ok text] w (Says (lineL 4 code n ok text.data.toList) w) := by
  have hl : text.data.toList.length = text.size := by simp
  have hL : Hid (lineL 4 code n ok text.data.toList = [116, 105, 99, 107, 32] ++ Lib.itoa (n : Int)) := by
    show _ = _
    unfold lineL; rw [if_neg (by decide)]; rw [if_neg (by decide)]; rw [if_neg (by decide)]; rw [if_pos rfl]
  obtain ⟨s, hs, hz⟩ := itoa_some (n : Int) h0 h1
  have cI : Hid (∀ w1, Calls Tryd.prog 29 #[.int .i64 (n : Int)] w1 (fun e w' => e = .returned (.string s) ∧ Keeps w1 w')) := Lib.hid (fun w1 => by rw [hs]; exact rdigits_any (n : Int) h0 h1 w1)
  have HS := Lib.hid hs
  have z1 : (⟨#[116, 105, 99, 107, 32]⟩ : ByteArray).size = 5 := rfl
  generalize Lib.itoa (n : Int) = L at hL HS hs
  clear hs hl
  unfold inV
  go_enter Tryd.func18, Tryd.ntmps18
  go_wp2_with fail
  refine (cI.out _).mono ?_
  rintro e w2 ⟨rfl, h⟩
  have K2 := Lib.hid (((Keeps.refl _).alloc _).trans h)
  go_wp2
  go_ret
  exact Says.of (by rw [hL.out, HS.out]; exact S_app _ _) K2.out

set_option maxHeartbeats 1000000 in
theorem rline5 (code n : Int) (ok : Bool) (text : ByteArray) (w : World) (ht : text.size ≤ 100000) (h0 : -9223372036854775808 ≤ code) (h1 : code ≤ 9223372036854775807) : Calls Tryd.prog 18 #[inV 5 code n ok text] w (Says (lineL 5 code n ok text.data.toList) w) := by
  have hl : text.data.toList.length = text.size := by simp
  have hL : Hid (lineL 5 code n ok text.data.toList = [99, 111, 109, 109, 97, 110, 100, 32] ++ Lib.itoa (code : Int) ++ [32] ++ text.data.toList) := by
    show _ = _
    unfold lineL; rw [if_neg (by decide)]; rw [if_neg (by decide)]; rw [if_neg (by decide)]; rw [if_neg (by decide)]; rw [if_pos rfl]
  obtain ⟨s, hs, hz⟩ := itoa_some (code : Int) h0 h1
  have cI : Hid (∀ w1, Calls Tryd.prog 29 #[.int .i64 (code : Int)] w1 (fun e w' => e = .returned (.string s) ∧ Keeps w1 w')) := Lib.hid (fun w1 => by rw [hs]; exact rdigits_any (code : Int) h0 h1 w1)
  have HS := Lib.hid hs
  have z1 : (⟨#[99, 111, 109, 109, 97, 110, 100, 32]⟩ : ByteArray).size = 8 := rfl
  have z2 : (⟨#[32]⟩ : ByteArray).size = 1 := rfl
  generalize Lib.itoa (code : Int) = L at hL HS hs
  clear hs hl
  unfold inV
  have b4 : ((w.alloc (.cells #[.int .i64 5, .int .i64 code, .int .i64 n, .bool ok, .string text] 24)).drew).cell? ⟨w.heap.size, 4, none⟩ = some (.string text) := by
    have hh := heap_alloc_new w (.cells #[.int .i64 5, .int .i64 code, .int .i64 n, .bool ok, .string text] 24)
    show (w.alloc (.cells #[.int .i64 5, .int .i64 code, .int .i64 n, .bool ok, .string text] 24)).cell? _ = _
    rw [Lib.cell_of_heap hh]; rfl
  have B4 := Lib.hid b4
  clear b4
  go_enter Tryd.func18, Tryd.ntmps18
  go_wp2_with fail
  go_region_with (go_at_call 29; refine (cI.out _).mono ?_; rintro e w3 ⟨rfl, h⟩; have K3 := Lib.hid ((((Keeps.refl _).alloc _).drew).trans h); have e3 := h.cell B4.out; clear h)
  all_goals go_wp2
  all_goals go_ret
  all_goals exact Says.of (by rw [hL.out, HS.out]; simp only [S_app, S_one]; try rfl) K3.out

theorem rline6 (code n : Int) (ok : Bool) (text : ByteArray) (w : World) : Calls Tryd.prog 18 #[inV 6 code n ok text] w (Says (lineL 6 code n ok text.data.toList) w) := by
  unfold inV
  go_enter Tryd.func18, Tryd.ntmps18
  go_wp2
  go_ret
  exact Says.of rfl ((Keeps.refl _).alloc _)
theorem rlineNone (k code n : Int) (ok : Bool) (text : ByteArray) (w : World) (h : k < 1 ∨ 6 < k) : Calls Tryd.prog 18 #[inV k code n ok text] w (Says [63] w) := by
  unfold inV
  rcases h with h | h
  all_goals
    go_enter Tryd.func18, Tryd.ntmps18
    go_wp2
    go_ret
    exact Says.of rfl ((Keeps.refl _).alloc _)
theorem line6 (code n : Int) (ok : Bool) (text : ByteArray) (w : World) : Calls Tryd.prog 10 #[inV 6 code n ok text] w (Says (lineL 6 code n ok text.data.toList) w) := by
  unfold inV
  go_enter Tryd.func10, Tryd.ntmps10
  go_wp2
  go_ret
  exact Says.of rfl ((Keeps.refl _).alloc _)
theorem lineNone' (k code n : Int) (ok : Bool) (text : ByteArray) (w : World) (h : k < 1 ∨ 6 < k) : Calls Tryd.prog 10 #[inV k code n ok text] w (Says [63] w) := by
  unfold inV
  rcases h with h | h
  all_goals
    go_enter Tryd.func10, Tryd.ntmps10
    go_wp2
    go_ret
    exact Says.of rfl ((Keeps.refl _).alloc _)
theorem lineL_none (k code n : Int) (ok : Bool) (t : List UInt8) (h : k < 1 ∨ 6 < k) : lineL k code n ok t = [63] := by
  unfold lineL; rw [if_neg (by omega), if_neg (by omega), if_neg (by omega), if_neg (by omega), if_neg (by omega), if_neg (by omega)]
theorem rline_any (k code n : Int) (ok : Bool) (text : ByteArray) (w : World) (ht : text.size ≤ 100000) (h0 : -9223372036854775808 ≤ n) (h1 : n ≤ 9223372036854775807) (g0 : -9223372036854775808 ≤ code) (g1 : code ≤ 9223372036854775807) : Calls Tryd.prog 18 #[inV k code n ok text] w (Says (lineL k code n ok text.data.toList) w) := by
  by_cases h : k < 1 ∨ 6 < k
  · rw [lineL_none k code n ok _ h]; exact rlineNone k code n ok text w h
  · rcases (show k = 1 ∨ k = 2 ∨ k = 3 ∨ k = 4 ∨ k = 5 ∨ k = 6 by omega) with rfl | rfl | rfl | rfl | rfl | rfl
    · exact rline1 code n ok text w ht
    · exact rline2 code n ok text w ht h0 h1
    · exact rline3 code n ok text w ht h0 h1
    · exact rline4 code n ok text w ht h0 h1
    · exact rline5 code n ok text w ht g0 g1
    · exact rline6 code n ok text w
theorem line_any (k code n : Int) (ok : Bool) (text : ByteArray) (w : World) (ht : text.size ≤ 100000) (h0 : -9223372036854775808 ≤ n) (h1 : n ≤ 9223372036854775807) (g0 : -9223372036854775808 ≤ code) (g1 : code ≤ 9223372036854775807) (hT : Tab w) : Calls Tryd.prog 10 #[inV k code n ok text] w (Says (lineL k code n ok text.data.toList) w) := by
  by_cases h : k < 1 ∨ 6 < k
  · rw [lineL_none k code n ok _ h]; exact lineNone' k code n ok text w h
  · rcases (show k = 1 ∨ k = 2 ∨ k = 3 ∨ k = 4 ∨ k = 5 ∨ k = 6 by omega) with rfl | rfl | rfl | rfl | rfl | rfl
    · exact line1 code n ok text w ht hT
    · exact line2 code n ok text w ht h0 h1 hT
    · exact line3 code n ok text w ht h0 h1 hT
    · exact line4 code n ok text w ht h0 h1 hT
    · exact line5 code n ok text w ht g0 g1 hT
    · exact line6 code n ok text w

/-- The first k of eight bytes, then noughts. -/
def bigTo (n : Nat) (k : Nat) : List UInt8 := (be8 n).take k ++ List.replicate (8 - k) 0
theorem bigTo_len (n k : Nat) (h : k ≤ 8) : (bigTo n k).length = 8 := by
  have : (be8 n).length = 8 := rfl
  unfold bigTo; simp [this]; omega
theorem hmk8 : ∀ w : World, (Instr.makeSlice 50 (.int .i64 8) (.int .i64 8)).run Tryd.prog w = .ok (.slice (some ⟨w.heap.size, 0, none⟩) 8 8) (w.alloc (.cells #[.int .u8 0, .int .u8 0, .int .u8 0, .int .u8 0, .int .u8 0, .int .u8 0, .int .u8 0, .int .u8 0] 5)) := fun _ => by kernel_rfl
theorem big_row (w : World) (n : Nat) : RowIs (w.alloc (.cells #[.int .u8 0, .int .u8 0, .int .u8 0, .int .u8 0, .int .u8 0, .int .u8 0, .int .u8 0, .int .u8 0] 5)) w.heap.size (bigTo n 0) := by
  intro j hj
  rw [bigTo_len n 0 (by omega)] at hj
  have hh := heap_alloc_new w (.cells #[.int .u8 0, .int .u8 0, .int .u8 0, .int .u8 0, .int .u8 0, .int .u8 0, .int .u8 0, .int .u8 0] 5)
  refine ⟨?_, Lib.frozen_of_heap hh j⟩
  rw [Lib.cell_of_heap hh]
  rcases (show j = 0 ∨ j = 1 ∨ j = 2 ∨ j = 3 ∨ j = 4 ∨ j = 5 ∨ j = 6 ∨ j = 7 by omega) with rfl | rfl | rfl | rfl | rfl | rfl | rfl | rfl
  all_goals rfl
end Go.Proofs.YtepbbdeolplhfaaDoor
