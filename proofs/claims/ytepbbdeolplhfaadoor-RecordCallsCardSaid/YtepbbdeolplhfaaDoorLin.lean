/-
  The contracts of Command, yesNo and Line of package record: under the table of powers of ten.
-/
import Derived.Test.YtepbbdeolplhfaaDoorLiv
import Derived.Test.YtepbbdeolplhfaaDoorShelf
import Derived.Lib.SmallJoins
import Derived.Lib.ItoaLen
namespace Go.Proofs.YtepbbdeolplhfaaDoor
open Go.RowKit

/-- The table of powers of ten holds them. -/
def Tab (w : World) : Prop := Lib.TabIs Tryd.prog w "internal/strconv.uint64pow10" .u64 Lib.pow10Tab
theorem tab_g : Tryd.prog.globalNamed "internal/strconv.uint64pow10" = some 0 := by kernel_rfl
theorem Tab.keeps {w w' : World} (h : Tab w) (k : Keeps w w') : Tab w' := by
  exact Go.Joins.tab_stays tab_g h k (Nat.le_refl _)
theorem S_app (a b : List UInt8) : S a ++ S b = S (a ++ b) := by
  have h : (S a ++ S b).data.toList = a ++ b := by rw [ByteArray.toList_data_append]; rfl
  have e : ∀ x : ByteArray, x = S x.data.toList := fun _ => rfl
  rw [e (S a ++ S b), h]
theorem grow_keeps (w : World) (k : Nat) (os : Array Obj) : Keeps w (Sort.grow (w.drewN k) os) := by
  have h1 : Keeps w (w.drewN k) := (Keeps.refl w).drewN k
  refine h1.trans ?_
  generalize w.drewN k = v
  exact ⟨rfl, rfl, rfl, by simp [Sort.grow], fun i hi => by
    show (v.heap ++ os)[i]? = _
    rw [Array.getElem?_append_left hi]⟩

theorem itoa_any (n : Int) (h0 : -9223372036854775808 ≤ n) (h1 : n ≤ 9223372036854775807) (w : World) (ht : Tab w) :
    Calls Tryd.prog 21 #[.int .i64 n] w (fun e w' => e = .returned (.string (S (Lib.itoa n))) ∧ Keeps w w') :=
  (Tryd.strconv_Itoa n h0 h1 w ht).mono fun e w' ⟨he, k, os, hw⟩ => ⟨he, by rw [hw]; exact grow_keeps w k os⟩
theorem format_any (n : Int) (h0 : -9223372036854775808 ≤ n) (h1 : n ≤ 9223372036854775807) (w : World) (ht : Tab w) :
    Calls Tryd.prog 22 #[.int .i64 n, .int .i64 10] w (fun e w' => e = .returned (.string (S (Lib.itoa n))) ∧ Keeps w w') :=
  (Tryd.strconv_FormatInt_10 n h0 h1 w ht).mono fun e w' ⟨he, k, os, hw⟩ => ⟨he, by rw [hw]; exact grow_keeps w k os⟩

def yesL (b : Bool) : List UInt8 := if b = true then [121, 101, 115] else [110, 111]
theorem yes_any (b : Bool) (w : World) : Calls Tryd.prog 23 #[.bool b] w (fun e w' => e = .returned (.string (S (yesL b))) ∧ w' = w) := by
  cases b
  · go_enter Tryd.func23, Tryd.ntmps23
    go_wp2
    go_ret
    exact ⟨rfl, rfl⟩
  · go_enter Tryd.func23, Tryd.ntmps23
    go_wp2
    go_ret
    exact ⟨rfl, rfl⟩
set_option maxHeartbeats 1000000 in
theorem command_any (code : Int) (s : ByteArray) (w : World) : Calls Tryd.prog 9 #[.int .i64 code, .string s] w (fun e w' => e = .returned (inV 5 code 0 false s) ∧ Keeps w w') := by
  go_enter Tryd.func9, Tryd.ntmps9
  go_wp2
  exact bodyPost_ret (v := inV 5 code 0 false s) (by simp [results, Tryd.results9, go_sem, inV]) rfl ⟨rfl, by repeat (first | exact Keeps.refl _ | refine Keeps.alloc ?_ _)⟩

/-- An input in words. -/
def lineL (k code n : Int) (ok : Bool) (t : List UInt8) : List UInt8 :=
  if k = 1 then [101, 118, 101, 110, 116, 32] ++ Lib.itoa t.length
  else if k = 2 then [108, 111, 110, 103, 32] ++ Lib.itoa n
  else if k = 3 then [114, 101, 112, 108, 121, 32] ++ Lib.itoa n ++ [32] ++ yesL ok
  else if k = 4 then [116, 105, 99, 107, 32] ++ Lib.itoa n
  else if k = 5 then [99, 111, 109, 109, 97, 110, 100, 32] ++ Lib.itoa code ++ [32] ++ t
  else if k = 6 then [114, 101, 115, 116, 97, 114, 116] else [63]

def Says (l : List UInt8) (w : World) (e : Ending) (w' : World) : Prop := e = .returned (.string (S l)) ∧ Keeps w w'
theorem Says.of {l : List UInt8} {s : ByteArray} {w w' : World} (h : s = S l) (k : Keeps w w') : Says l w (.returned (.string s)) w' := ⟨by rw [h], k⟩

theorem S_one (l : List UInt8) : (⟨l.toArray⟩ : ByteArray) = S l := rfl
/-- A numeral, as a call answers it. -/
theorem itoa_some (n : Int) (h0 : -9223372036854775808 ≤ n) (h1 : n ≤ 9223372036854775807) : ∃ s : ByteArray, s = S (Lib.itoa n) ∧ s.size ≤ 21 := ⟨_, rfl, by rw [S_size]; exact Lib.itoa_length_le n h0 h1⟩

set_option maxHeartbeats 1000000 in
theorem line1 (code n : Int) (ok : Bool) (text : ByteArray) (w : World) (ht : text.size ≤ 100000) (hT : Tab w) : Calls Tryd.prog 10 #[inV 1 code n ok text] w (Says (lineL 1 code n ok text.data.toList) w) := by
  have hl : text.data.toList.length = text.size := by simp
  have hL : Hid (lineL 1 code n ok text.data.toList = [101, 118, 101, 110, 116, 32] ++ Lib.itoa (text.size : Int)) := by
    show _ = _
    unfold lineL; rw [if_pos rfl, hl]
  obtain ⟨s, hs, hz⟩ := itoa_some (text.size : Int) (by omega) (by omega)
  have cI : Hid (∀ w1, Keeps w w1 → Calls Tryd.prog 21 #[.int .i64 (text.size : Int)] w1 (fun e w' => e = .returned (.string s) ∧ Keeps w1 w')) := Lib.hid (fun w1 k => by rw [hs]; exact itoa_any (text.size : Int) (by omega) (by omega) w1 (hT.keeps k))
  have HS := Lib.hid hs
  have z1 : (⟨#[101, 118, 101, 110, 116, 32]⟩ : ByteArray).size = 6 := rfl
  generalize Lib.itoa (text.size : Int) = L at hL HS hs
  clear hs hT hl
  unfold inV
  go_enter Tryd.func10, Tryd.ntmps10
  go_wp2_with fail
  refine (cI.out _ (by exact (Keeps.refl _).alloc _)).mono ?_
  rintro e w2 ⟨rfl, h⟩
  have K2 := Lib.hid (((Keeps.refl _).alloc _).trans h)
  go_wp2
  go_ret
  exact Says.of (by rw [hL.out, HS.out]; exact S_app _ _) K2.out

set_option maxHeartbeats 1000000 in
theorem line2 (code n : Int) (ok : Bool) (text : ByteArray) (w : World) (ht : text.size ≤ 100000) (h0 : -9223372036854775808 ≤ n) (h1 : n ≤ 9223372036854775807) (hT : Tab w) : Calls Tryd.prog 10 #[inV 2 code n ok text] w (Says (lineL 2 code n ok text.data.toList) w) := by
  have hl : text.data.toList.length = text.size := by simp
  have hL : Hid (lineL 2 code n ok text.data.toList = [108, 111, 110, 103, 32] ++ Lib.itoa (n : Int)) := by
    show _ = _
    unfold lineL; rw [if_neg (by decide)]; rw [if_pos rfl]
  obtain ⟨s, hs, hz⟩ := itoa_some (n : Int) h0 h1
  have cI : Hid (∀ w1, Keeps w w1 → Calls Tryd.prog 22 #[.int .i64 (n : Int), .int .i64 10] w1 (fun e w' => e = .returned (.string s) ∧ Keeps w1 w')) := Lib.hid (fun w1 k => by rw [hs]; exact format_any (n : Int) h0 h1 w1 (hT.keeps k))
  have HS := Lib.hid hs
  have z1 : (⟨#[108, 111, 110, 103, 32]⟩ : ByteArray).size = 5 := rfl
  generalize Lib.itoa (n : Int) = L at hL HS hs
  clear hs hT hl
  unfold inV
  go_enter Tryd.func10, Tryd.ntmps10
  go_wp2_with fail
  refine (cI.out _ (by exact (Keeps.refl _).alloc _)).mono ?_
  rintro e w2 ⟨rfl, h⟩
  have K2 := Lib.hid (((Keeps.refl _).alloc _).trans h)
  go_wp2
  go_ret
  exact Says.of (by rw [hL.out, HS.out]; exact S_app _ _) K2.out

set_option maxHeartbeats 1000000 in
theorem line3 (code n : Int) (ok : Bool) (text : ByteArray) (w : World) (ht : text.size ≤ 100000) (h0 : -9223372036854775808 ≤ n) (h1 : n ≤ 9223372036854775807) (hT : Tab w) : Calls Tryd.prog 10 #[inV 3 code n ok text] w (Says (lineL 3 code n ok text.data.toList) w) := by
  have hl : text.data.toList.length = text.size := by simp
  have hL : Hid (lineL 3 code n ok text.data.toList = [114, 101, 112, 108, 121, 32] ++ Lib.itoa (n : Int) ++ [32] ++ yesL ok) := by
    show _ = _
    unfold lineL; rw [if_neg (by decide)]; rw [if_neg (by decide)]; rw [if_pos rfl]
  obtain ⟨s, hs, hz⟩ := itoa_some (n : Int) h0 h1
  have cI : Hid (∀ w1, Keeps w w1 → Calls Tryd.prog 22 #[.int .i64 (n : Int), .int .i64 10] w1 (fun e w' => e = .returned (.string s) ∧ Keeps w1 w')) := Lib.hid (fun w1 k => by rw [hs]; exact format_any (n : Int) h0 h1 w1 (hT.keeps k))
  have HS := Lib.hid hs
  have z1 : (⟨#[114, 101, 112, 108, 121, 32]⟩ : ByteArray).size = 6 := rfl
  have z2 : (⟨#[32]⟩ : ByteArray).size = 1 := rfl
  have cY : Hid (∃ y : ByteArray, y = S (yesL ok) ∧ y.size ≤ 3 ∧ ∀ w1, Calls Tryd.prog 23 #[.bool ok] w1 (fun e w' => e = .returned (.string y) ∧ w' = w1)) := Lib.hid ⟨_, rfl, by cases ok <;> decide, fun w1 => yes_any ok w1⟩
  obtain ⟨y, hy, hyz, cY⟩ := cY.out
  have HY := Lib.hid hy
  have cY := Lib.hid cY
  clear hy
  generalize Lib.itoa (n : Int) = L at hL HS hs
  clear hs hT hl
  unfold inV
  go_enter Tryd.func10, Tryd.ntmps10
  have b3 : ((w.alloc (.cells #[.int .i64 3, .int .i64 code, .int .i64 n, .bool ok, .string text] 24)).drew).cell? ⟨w.heap.size, 3, none⟩ = some (.bool ok) := by
    have hh := heap_alloc_new w (.cells #[.int .i64 3, .int .i64 code, .int .i64 n, .bool ok, .string text] 24)
    show (w.alloc (.cells #[.int .i64 3, .int .i64 code, .int .i64 n, .bool ok, .string text] 24)).cell? _ = _
    rw [Lib.cell_of_heap hh]; rfl
  have B3 := Lib.hid b3
  clear b3
  go_wp2_with fail
  go_region_with (first | (go_at_call 22; refine (cI.out _ (by exact ((Keeps.refl _).alloc _).drew)).mono ?_; rintro e w3 ⟨rfl, h⟩; have K3 := Lib.hid ((((Keeps.refl _).alloc _).drew).trans h); have e3 := h.cell B3.out; clear h) | (go_at_call 23; refine (cY.out _).mono ?_; rintro e w4 ⟨rfl, rfl⟩))
  all_goals go_wp2
  all_goals go_ret
  all_goals exact Says.of (by rw [hL.out, HS.out, HY.out]; simp only [S_app, S_one]; try rfl) K3.out

set_option maxHeartbeats 1000000 in
theorem line4 (code n : Int) (ok : Bool) (text : ByteArray) (w : World) (ht : text.size ≤ 100000) (h0 : -9223372036854775808 ≤ n) (h1 : n ≤ 9223372036854775807) (hT : Tab w) : Calls Tryd.prog 10 #[inV 4 code n ok text] w (Says (lineL 4 code n ok text.data.toList) w) := by
  have hl : text.data.toList.length = text.size := by simp
  have hL : Hid (lineL 4 code n ok text.data.toList = [116, 105, 99, 107, 32] ++ Lib.itoa (n : Int)) := by
    show _ = _
    unfold lineL; rw [if_neg (by decide)]; rw [if_neg (by decide)]; rw [if_neg (by decide)]; rw [if_pos rfl]
  obtain ⟨s, hs, hz⟩ := itoa_some (n : Int) h0 h1
  have cI : Hid (∀ w1, Keeps w w1 → Calls Tryd.prog 22 #[.int .i64 (n : Int), .int .i64 10] w1 (fun e w' => e = .returned (.string s) ∧ Keeps w1 w')) := Lib.hid (fun w1 k => by rw [hs]; exact format_any (n : Int) h0 h1 w1 (hT.keeps k))
  have HS := Lib.hid hs
  have z1 : (⟨#[116, 105, 99, 107, 32]⟩ : ByteArray).size = 5 := rfl
  generalize Lib.itoa (n : Int) = L at hL HS hs
  clear hs hT hl
  unfold inV
  go_enter Tryd.func10, Tryd.ntmps10
  go_wp2_with fail
  refine (cI.out _ (by exact (Keeps.refl _).alloc _)).mono ?_
  rintro e w2 ⟨rfl, h⟩
  have K2 := Lib.hid (((Keeps.refl _).alloc _).trans h)
  go_wp2
  go_ret
  exact Says.of (by rw [hL.out, HS.out]; exact S_app _ _) K2.out

set_option maxHeartbeats 1000000 in
theorem line5 (code n : Int) (ok : Bool) (text : ByteArray) (w : World) (ht : text.size ≤ 100000) (h0 : -9223372036854775808 ≤ code) (h1 : code ≤ 9223372036854775807) (hT : Tab w) : Calls Tryd.prog 10 #[inV 5 code n ok text] w (Says (lineL 5 code n ok text.data.toList) w) := by
  have hl : text.data.toList.length = text.size := by simp
  have hL : Hid (lineL 5 code n ok text.data.toList = [99, 111, 109, 109, 97, 110, 100, 32] ++ Lib.itoa (code : Int) ++ [32] ++ text.data.toList) := by
    show _ = _
    unfold lineL; rw [if_neg (by decide)]; rw [if_neg (by decide)]; rw [if_neg (by decide)]; rw [if_neg (by decide)]; rw [if_pos rfl]
  obtain ⟨s, hs, hz⟩ := itoa_some (code : Int) h0 h1
  have cI : Hid (∀ w1, Keeps w w1 → Calls Tryd.prog 21 #[.int .i64 (code : Int)] w1 (fun e w' => e = .returned (.string s) ∧ Keeps w1 w')) := Lib.hid (fun w1 k => by rw [hs]; exact itoa_any (code : Int) h0 h1 w1 (hT.keeps k))
  have HS := Lib.hid hs
  have z1 : (⟨#[99, 111, 109, 109, 97, 110, 100, 32]⟩ : ByteArray).size = 8 := rfl
  have z2 : (⟨#[32]⟩ : ByteArray).size = 1 := rfl
  generalize Lib.itoa (code : Int) = L at hL HS hs
  clear hs hT hl
  unfold inV
  go_enter Tryd.func10, Tryd.ntmps10
  have b4 : ((w.alloc (.cells #[.int .i64 5, .int .i64 code, .int .i64 n, .bool ok, .string text] 24)).drew).cell? ⟨w.heap.size, 4, none⟩ = some (.string text) := by
    have hh := heap_alloc_new w (.cells #[.int .i64 5, .int .i64 code, .int .i64 n, .bool ok, .string text] 24)
    show (w.alloc (.cells #[.int .i64 5, .int .i64 code, .int .i64 n, .bool ok, .string text] 24)).cell? _ = _
    rw [Lib.cell_of_heap hh]; rfl
  have B4 := Lib.hid b4
  clear b4
  go_wp2_with fail
  go_region_with (go_at_call 21; refine (cI.out _ (by exact ((Keeps.refl _).alloc _).drew)).mono ?_; rintro e w3 ⟨rfl, h⟩; have K3 := Lib.hid ((((Keeps.refl _).alloc _).drew).trans h); have e3 := h.cell B4.out; clear h)
  all_goals go_wp2
  all_goals go_ret
  all_goals exact Says.of (by rw [hL.out, HS.out]; simp only [S_app, S_one]; try rfl) K3.out
end Go.Proofs.YtepbbdeolplhfaaDoor
