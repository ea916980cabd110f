/-
  The contract of Bytes of package record.
-/
import Derived.Test.YtpcfcbaapnkanaaRow
import Derived.Test.YtpcfcbaapnkanaaChk
namespace Go.Proofs.Ytpcfcbaapnkanaa
open Go.RowKit

/-- The record of an input. -/
def recL (k code n : Int) (ok : Bool) (t : List UInt8) : List UInt8 :=
  if k = 1 then 1 :: t else if k = 2 then 2 :: be8 n else if k = 3 then 3 :: (be8 n ++ [if ok = true then 1 else 0]) else if k = 4 then 4 :: be8 n
  else if k = 5 then 5 :: UInt8.ofNat code.toNat :: t else [6]

/-- The five cells of an input. -/
def InCells (w : World) (g : Nat) (k code n : Int) (ok : Bool) (text : ByteArray) : Prop :=
  w.cell? ⟨g, 0, none⟩ = some (.int .i64 k) ∧ w.cell? ⟨g, 1, none⟩ = some (.int .i64 code) ∧ w.cell? ⟨g, 2, none⟩ = some (.int .i64 n) ∧ w.cell? ⟨g, 3, none⟩ = some (.bool ok) ∧ w.cell? ⟨g, 4, none⟩ = some (.string text)
theorem InCells.later {w w' : World} {B g : Nat} {k code n : Int} {ok : Bool} {text : ByteArray} (h : InCells w g k code n ok text) (hb : Below B w w') (hg : g < B) : InCells w' g k code n ok text :=
  ⟨(hb.cell hg).trans h.1, (hb.cell hg).trans h.2.1, (hb.cell hg).trans h.2.2.1, (hb.cell hg).trans h.2.2.2.1, (hb.cell hg).trans h.2.2.2.2⟩
theorem inCells_new (w : World) (k code n : Int) (ok : Bool) (text : ByteArray) : InCells (w.alloc (.cells #[.int .i64 k, .int .i64 code, .int .i64 n, .bool ok, .string text] 28)) w.heap.size k code n ok text := by
  refine ⟨?_, ?_, ?_, ?_, ?_⟩
  all_goals rw [World.cell?_alloc_at _ _ _ _ rfl]; rfl

theorem own_text {w w' : World} {B : Nat} {v v' : Value} {l : List UInt8} {s : ByteArray} (h : w'.ownsRow B 5 1 v' (l.length + s.size) (bv l ++ Lib.strCells s)) : Owns w' B v' (l ++ s.data.toList) := by
  unfold Owns
  have e1 : (l ++ s.data.toList).length = l.length + s.size := by simp
  have e2 : bv (l ++ s.data.toList) = bv l ++ Lib.strCells s := by unfold bv; rw [List.map_append]; rfl
  rw [e1, e2]; exact h

set_option maxHeartbeats 8000000 in
theorem bytes_six (code n : Int) (ok : Bool) (text : ByteArray) (w : World) (ht : text.size ≤ maxLen) (hc : chk 6 code n ok text.size = 0) :
    Calls Try.prog 43 #[inV 6 code n ok text] w (fun e w' => e = .returned (.tuple #[.string (S (recL 6 code n ok text.data.toList)), .int .i64 0]) ∧ Keeps w w') := by
  have e : recL 6 code n ok text.data.toList = [6] := rfl
  rw [e]
  clear e
  have cC : Hid (∀ w, Calls Try.prog 51 #[inV 6 code n ok text] w (Ret (.int .i64 0) w)) := fun w => by rw [← hc]; exact check_any 6 code n ok text w ht
  clear hc
  unfold inV at cC ⊢
  have hx := inCells_new w 6 code n ok text
  have hk0 := (Keeps.refl w).alloc (.cells #[.int .i64 6, .int .i64 code, .int .i64 n, .bool ok, .string text] 28)
  have HX := Lib.hid (And.intro hx hk0)
  clear hx hk0
  go_enter Try.func43, Try.ntmps43
  go_wp2_with fail
  refine (cC.out _).mono ?_
  rintro e w1 ⟨rfl, hk⟩
  obtain ⟨hx, hk0⟩ := HX.out
  have hlt : w.heap.size < w1.heap.size := by have := hk.size; simp at this; omega
  have hx1 := hx.later hk (by simp)
  have hk1 := hk0.trans hk
  clear hx hk0 HX hk
  obtain ⟨c0, c1, c2, c3, c4⟩ := hx1
  obtain ⟨i0, hi, hz0, hz1, hz2⟩ := info_parts info5
  have ho := owns_one w1 6 6 rfl
  have hcv := conv_owned ho (by decide)
  clear ho
  go_wp2
  go_ret2
  exact ⟨rfl, hk1.alloc _⟩

set_option maxHeartbeats 8000000 in
theorem bytes_one (code n : Int) (ok : Bool) (text : ByteArray) (w : World) (ht : text.size ≤ maxLen) (hc : chk 1 code n ok text.size = 0) (hs : text.size ≤ 5000) :
    Calls Try.prog 43 #[inV 1 code n ok text] w (fun e w' => e = .returned (.tuple #[.string (S (recL 1 code n ok text.data.toList)), .int .i64 0]) ∧ Keeps w w') := by
  have e : recL 1 code n ok text.data.toList = [1] ++ text.data.toList := rfl
  rw [e]
  clear e
  have cC : Hid (∀ w, Calls Try.prog 51 #[inV 1 code n ok text] w (Ret (.int .i64 0) w)) := fun w => by rw [← hc]; exact check_any 1 code n ok text w ht
  clear hc
  unfold inV at cC ⊢
  have hx := inCells_new w 1 code n ok text
  have hk0 := (Keeps.refl w).alloc (.cells #[.int .i64 1, .int .i64 code, .int .i64 n, .bool ok, .string text] 28)
  have HX := Lib.hid (And.intro hx hk0)
  clear hx hk0
  go_enter Try.func43, Try.ntmps43
  go_wp2_with fail
  refine (cC.out _).mono ?_
  rintro e w1 ⟨rfl, hk⟩
  obtain ⟨hx, hk0⟩ := HX.out
  have hlt : w.heap.size < w1.heap.size := by have := hk.size; simp at this; omega
  have hx1 := hx.later hk (by simp)
  have hk1 := hk0.trans hk
  clear hx hk0 HX hk
  obtain ⟨c0, c1, c2, c3, c4⟩ := hx1
  obtain ⟨i0, hi, hz0, hz1, hz2⟩ := info_parts info5
  have ho := owns_one w1 1 1 rfl
  go_wp2_with (at_builtin; refine Lib.wpList_append_own_string _ rfl (.tmp 32) (.tmp 34) 48 9 rfl w1.heap.size 5 i0 Try.underlying48 Try.underlying9 hi hz0 hz1 hz2 _ _ _ rfl ho text rfl ?c1 ?c2 ?c3 ?_)
  case c1 => unfold maxLen; simp; omega
  case c2 => simp; omega
  case c3 => simp
  intro v' w2 hown hgrow _
  have hcv := conv_owned (own_text (w := w1) (v := v') hown) (by simp)
  have hkk : Keeps w w2 := hk1.trans (((Below.refl w1.heap.size w1).alloc (Nat.le_refl _) _).grown hgrow (by simp) (fun k hk => (World.ownsRow.lt ho k hk).1))
  clear hown hgrow ho
  go_wp2
  go_ret2
  exact ⟨rfl, hkk⟩

set_option maxHeartbeats 8000000 in
theorem bytes_two (code n : Int) (ok : Bool) (text : ByteArray) (w : World) (ht : text.size ≤ maxLen) (hc : chk 2 code n ok text.size = 0) (hn0 : 0 ≤ n) (hn1 : n ≤ 9223372036854775807) :
    Calls Try.prog 43 #[inV 2 code n ok text] w (fun e w' => e = .returned (.tuple #[.string (S (recL 2 code n ok text.data.toList)), .int .i64 0]) ∧ Keeps w w') := by
  have e : recL 2 code n ok text.data.toList = [2] ++ be8 n := rfl
  rw [e]
  clear e
  have cC : Hid (∀ w, Calls Try.prog 51 #[inV 2 code n ok text] w (Ret (.int .i64 0) w)) := fun w => by rw [← hc]; exact check_any 2 code n ok text w ht
  clear hc
  unfold inV at cC ⊢
  have hx := inCells_new w 2 code n ok text
  have hk0 := (Keeps.refl w).alloc (.cells #[.int .i64 2, .int .i64 code, .int .i64 n, .bool ok, .string text] 28)
  have HX := Lib.hid (And.intro hx hk0)
  clear hx hk0
  go_enter Try.func43, Try.ntmps43
  go_wp2_with fail
  refine (cC.out _).mono ?_
  rintro e w1 ⟨rfl, hk⟩
  obtain ⟨hx, hk0⟩ := HX.out
  have hlt : w.heap.size < w1.heap.size := by have := hk.size; simp at this; omega
  have hx1 := hx.later hk (by simp)
  have hk1 := hk0.trans hk
  clear hx hk0 HX hk
  obtain ⟨c0, c1, c2, c3, c4⟩ := hx1
  obtain ⟨i0, hi, hz0, hz1, hz2⟩ := info_parts info5
  have ho := owns_one w1 2 2 rfl
  have cN := Lib.hid (number_any (.slice (some ⟨w1.heap.size, 0, none⟩) 1 1) [2] n w1.heap.size (w1.alloc (.cells #[.int .u8 2] 5)) hn0 hn1 (by simp) (by simp) ho)
  clear ho
  go_wp2_with fail
  refine (cN.out).mono ?_
  rintro e w2 ⟨v, rfl, hown, hbel⟩
  have hcv := conv_owned hown (by simp)
  have hkk : Keeps w w2 := hk1.trans (((Below.refl w1.heap.size w1).alloc (Nat.le_refl _) _).trans hbel)
  clear hown hbel cN
  go_wp2
  go_ret2
  exact ⟨rfl, hkk⟩

set_option maxHeartbeats 8000000 in
theorem bytes_four (code n : Int) (ok : Bool) (text : ByteArray) (w : World) (ht : text.size ≤ maxLen) (hc : chk 4 code n ok text.size = 0) (hn0 : 0 ≤ n) (hn1 : n ≤ 9223372036854775807) :
    Calls Try.prog 43 #[inV 4 code n ok text] w (fun e w' => e = .returned (.tuple #[.string (S (recL 4 code n ok text.data.toList)), .int .i64 0]) ∧ Keeps w w') := by
  have e : recL 4 code n ok text.data.toList = [4] ++ be8 n := rfl
  rw [e]
  clear e
  have cC : Hid (∀ w, Calls Try.prog 51 #[inV 4 code n ok text] w (Ret (.int .i64 0) w)) := fun w => by rw [← hc]; exact check_any 4 code n ok text w ht
  clear hc
  unfold inV at cC ⊢
  have hx := inCells_new w 4 code n ok text
  have hk0 := (Keeps.refl w).alloc (.cells #[.int .i64 4, .int .i64 code, .int .i64 n, .bool ok, .string text] 28)
  have HX := Lib.hid (And.intro hx hk0)
  clear hx hk0
  go_enter Try.func43, Try.ntmps43
  go_wp2_with fail
  refine (cC.out _).mono ?_
  rintro e w1 ⟨rfl, hk⟩
  obtain ⟨hx, hk0⟩ := HX.out
  have hlt : w.heap.size < w1.heap.size := by have := hk.size; simp at this; omega
  have hx1 := hx.later hk (by simp)
  have hk1 := hk0.trans hk
  clear hx hk0 HX hk
  obtain ⟨c0, c1, c2, c3, c4⟩ := hx1
  obtain ⟨i0, hi, hz0, hz1, hz2⟩ := info_parts info5
  have ho := owns_one w1 4 4 rfl
  have cN := Lib.hid (number_any (.slice (some ⟨w1.heap.size, 0, none⟩) 1 1) [4] n w1.heap.size (w1.alloc (.cells #[.int .u8 4] 5)) hn0 hn1 (by simp) (by simp) ho)
  clear ho
  go_wp2_with fail
  refine (cN.out).mono ?_
  rintro e w2 ⟨v, rfl, hown, hbel⟩
  have hcv := conv_owned hown (by simp)
  have hkk : Keeps w w2 := hk1.trans (((Below.refl w1.heap.size w1).alloc (Nat.le_refl _) _).trans hbel)
  clear hown hbel cN
  go_wp2
  go_ret2
  exact ⟨rfl, hkk⟩

end Go.Proofs.Ytpcfcbaapnkanaa
