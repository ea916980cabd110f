/-
  The contract of Bytes of package record, for the kinds of more parts.
-/
import Derived.Test.YtpcfcbaapnkanaaByt
namespace Go.Proofs.Ytpcfcbaapnkanaa
open Go.RowKit

set_option maxHeartbeats 8000000 in
set_option maxRecDepth 10000 in
theorem bytes_five (code n : Int) (ok : Bool) (text : ByteArray) (w : World) (ht : text.size ≤ maxLen) (hc : chk 5 code n ok text.size = 0) (hs : text.size ≤ 5000) (hc0 : 0 ≤ code) (hc1 : code ≤ 255) :
    Calls Try.prog 43 #[inV 5 code n ok text] w (fun e w' => e = .returned (.tuple #[.string (S (recL 5 code n ok text.data.toList)), .int .i64 0]) ∧ Keeps w w') := by
  have e : recL 5 code n ok text.data.toList = [5, UInt8.ofNat code.toNat] ++ text.data.toList := rfl
  rw [e]
  clear e
  have cC : Hid (∀ w, Calls Try.prog 51 #[inV 5 code n ok text] w (Ret (.int .i64 0) w)) := fun w => by rw [← hc]; exact check_any 5 code n ok text w ht
  clear hc
  unfold inV at cC ⊢
  have hx := inCells_new w 5 code n ok text
  have hk0 := (Keeps.refl w).alloc (.cells #[.int .i64 5, .int .i64 code, .int .i64 n, .bool ok, .string text] 28)
  have HX := Lib.hid (And.intro hx hk0)
  clear hx hk0
  go_enter Try.func43, Try.ntmps43
  go_wp2_with fail
  refine (cC.out _).mono ?_
  rintro e w1 ⟨rfl, hk⟩
  obtain ⟨hx, hk0⟩ := HX.out
  have hlt : w.heap.size < w1.heap.size := by have := hk.size; simp at this; omega
  have hx1 := hx.later hk (by simp)
  have hk1 := hk0.trans hk
  clear hx hk0 HX hk
  obtain ⟨c0, c1, c2, c3, c4⟩ := hx1
  obtain ⟨i0, hi, hz0, hz1, hz2⟩ := info_parts info5
  have hcd : (code.toNat : Int) = code := by omega
  have hu : ((UInt8.ofNat code.toNat).toNat : Int) = code := by simp; omega
  have ho := (owns_one w1 5 5 rfl).alloc (.cells #[.int .u8 code] 5)
  go_wp2_with (at_builtin; refine wpList_append_own _ rfl (.tmp 26) (.tmp 30) 48 rfl w1.heap.size 5 i0 (.int .u8 0) 1 1 Try.underlying48 hi hz0 hz1 hz2 rfl (by decide) _ _ _ rfl ho ⟨w1.heap.size + 1, 0, none⟩ 1 1 [.int .u8 code] rfl rfl ?a1 ?a2 ?a3 ?a4 ?a5 ?_)
  case a1 =>
    have := cell_new (w1.alloc (.cells #[.int .u8 5] 5)) code code rfl
    simpa using this
  case a2 => exact one_cell _
  case a3 => unfold maxLen; simp
  case a4 => simp
  case a5 => simp; omega
  intro v2 w2 hown hgrow _
  have hb2 : Below w1.heap.size w1 w2 := ((((Below.refl w1.heap.size w1).alloc (Nat.le_refl _) _).alloc (by simp) _).grown hgrow (by simp; omega) (fun k hk => (World.ownsRow.lt ho k hk).1))
  have ho2 : Owns w2 w1.heap.size v2 [5, UInt8.ofNat code.toNat] := by
    unfold Owns bv
    simp only [List.map_cons, List.map_nil, List.length_cons, List.length_nil, hu]
    exact hown
  have c42 := (hb2.cell (p := ⟨w.heap.size, 4, none⟩) hlt).trans c4
  have hz2' : w1.heap.size ≤ w2.heap.size := hb2.size
  clear hown hgrow ho c0 c1 c2 c3 c4
  go_wp2_with (at_builtin; refine Lib.wpList_append_own_string _ rfl (.tmp 32) (.tmp 34) 48 9 rfl w1.heap.size 5 i0 Try.underlying48 Try.underlying9 hi hz0 hz1 hz2 _ _ _ rfl ho2 text rfl ?d1 ?d2 ?d3 ?_)
  case d1 => unfold maxLen; simp; omega
  case d2 => simp; omega
  case d3 => exact hz2'
  intro v3 w3 hown hgrow _
  have hcv := conv_owned (own_text (w := w2) (v := v3) hown) (by simp)
  have hkk : Keeps w w3 := hk1.trans (hb2.grown hgrow hz2' (fun k hk => (World.ownsRow.lt ho2 k hk).1))
  clear hown hgrow ho2
  go_wp2
  go_ret2
  exact ⟨rfl, hkk⟩

set_option maxHeartbeats 8000000 in
set_option maxRecDepth 10000 in
theorem bytes_three (code n : Int) (ok : Bool) (text : ByteArray) (w : World) (ht : text.size ≤ maxLen) (hc : chk 3 code n ok text.size = 0) (hn0 : 0 ≤ n) (hn1 : n ≤ 9223372036854775807) :
    Calls Try.prog 43 #[inV 3 code n ok text] w (fun e w' => e = .returned (.tuple #[.string (S (recL 3 code n ok text.data.toList)), .int .i64 0]) ∧ Keeps w w') := by
  have e : recL 3 code n ok text.data.toList = [3] ++ be8 n ++ [if ok = true then 1 else 0] := rfl
  rw [e]
  clear e
  have cC : Hid (∀ w, Calls Try.prog 51 #[inV 3 code n ok text] w (Ret (.int .i64 0) w)) := fun w => by rw [← hc]; exact check_any 3 code n ok text w ht
  clear hc
  unfold inV at cC ⊢
  have hx := inCells_new w 3 code n ok text
  have hk0 := (Keeps.refl w).alloc (.cells #[.int .i64 3, .int .i64 code, .int .i64 n, .bool ok, .string text] 28)
  have HX := Lib.hid (And.intro hx hk0)
  clear hx hk0
  go_enter Try.func43, Try.ntmps43
  go_wp2_with fail
  refine (cC.out _).mono ?_
  rintro e w1 ⟨rfl, hk⟩
  obtain ⟨hx, hk0⟩ := HX.out
  have hlt : w.heap.size < w1.heap.size := by have := hk.size; simp at this; omega
  have hx1 := hx.later hk (by simp)
  have hk1 := hk0.trans hk
  clear hx hk0 HX hk
  obtain ⟨c0, c1, c2, c3, c4⟩ := hx1
  obtain ⟨i0, hi, hz0, hz1, hz2⟩ := info_parts info5
  have ho := owns_one w1 3 3 rfl
  have cN := Lib.hid (number_any (.slice (some ⟨w1.heap.size, 0, none⟩) 1 1) [3] n w1.heap.size (w1.alloc (.cells #[.int .u8 3] 5)) hn0 hn1 (by simp) (by simp) ho)
  clear ho
  go_wp2_with fail
  refine (cN.out).mono ?_
  rintro e w2 ⟨v, rfl, hown, hbel⟩
  have hb2 : Below w1.heap.size w1 w2 := ((Below.refl w1.heap.size w1).alloc (Nat.le_refl _) _).trans hbel
  have hz2' : w1.heap.size ≤ w2.heap.size := hb2.size
  have ho2 : Owns (w2.alloc (.cells #[.int .u8 0] 5)) w1.heap.size v ([3] ++ be8 n) := hown.alloc _
  clear hown hbel cN
  go_wp2_with (at_builtin; refine wpList_append_own _ rfl (.tmp 43) (.tmp 44) 48 rfl w1.heap.size 5 i0 (.int .u8 0) 1 1 Try.underlying48 hi hz0 hz1 hz2 rfl (by decide) _ _ _ rfl ho2 ⟨w2.heap.size, 0, none⟩ 1 1 [.int .u8 0] rfl rfl ?a1 ?a2 ?a3 ?a4 ?a5 ?_)
  case a1 => exact cell_new w2 0 0 rfl
  case a2 => exact one_cell _
  case a3 => unfold maxLen; simp [be8]
  case a4 => simp [be8]
  case a5 => simp; omega
  intro v3 w3 hown3 hgrow _
  have hb3 : Below w1.heap.size w1 w3 := (hb2.alloc hz2' _).grown hgrow (by simp; omega) (fun k hk => (World.ownsRow.lt ho2 k hk).1)
  have ho3 : Owns w3 w1.heap.size v3 ([3] ++ be8 n ++ [0]) := by
    unfold Owns bv at *
    simp only [List.map_append, List.length_append] at *
    exact hown3
  have c33 := (hb3.cell (p := ⟨w.heap.size, 3, none⟩) hlt).trans c3
  have hkk : Keeps w w3 := hk1.trans hb3
  obtain ⟨g, cap, hv3, hg, hgl, hrow⟩ := ho3.row (by simp)
  have h10 : ([3] ++ be8 n ++ [0] : List UInt8).length = 10 := rfl
  rw [h10] at hv3
  clear h10
  subst hv3
  clear hown3 hgrow ho2 c0 c1 c2 c3 c4 ho3
  cases ok
  · have hcv := conv_back w3 g cap 10 ([3] ++ be8 n ++ [0]) rfl hrow
    clear hrow
    go_wp2
    go_ret2
    exact ⟨rfl, hkk⟩
  · have hcell : w3.cell? ⟨g, 9, none⟩ = some (.int .u8 0) := (hrow 9 (by simp [be8])).1
    have hfr : w3.frozen? ⟨g, 9, none⟩ = false := (hrow 9 (by simp [be8])).2
    have hcv := conv_back (w3.setCell ⟨g, 9, none⟩ (.int .u8 1)) g cap 10 ([3] ++ be8 n ++ [1]) rfl (by have := hrow.set (k := 9) (v := 1) (c := 1) (by simp [be8]) rfl; exact this)
    clear hrow
    go_wp2
    go_ret2
    exact ⟨rfl, hkk.setCell (by have := hk1.size; show w.heap.size ≤ g; omega) _⟩

end Go.Proofs.Ytpcfcbaapnkanaa
