/-
  The walk of the statement on the chapter's examples of package record: under the table of powers of ten.
-/
import Derived.Test.YtepbbdeolplhfaaDoorLin
import Derived.Test.YtepbbdeolplhfaaDoorRd
namespace Go.Proofs.YtepbbdeolplhfaaDoor
open Go.RowKit

def zV : Value := .agg #[.int .i64 0, .int .i64 0, .int .i64 0, .bool false, .string ⟨#[]⟩]
theorem read_lit (l : List UInt8) (c : Int) (hl : l.length ≤ 80000) (h : readL l = (Inp.zero, c)) (w : World) :
    Calls Tryd.prog 6 #[.string (S l)] w (fun e w' => e = .returned (.tuple #[.agg #[.int .i64 0, .int .i64 0, .int .i64 0, .bool false, .string ⟨#[]⟩], .int .i64 c]) ∧ Keeps w w') := by
  have hr := read_any l w hl
  unfold Reads at hr
  rw [h] at hr
  exact hr
theorem line_lit (k code n : Int) (ok : Bool) (t : ByteArray) (l : List UInt8) (w : World) (hc : Calls Tryd.prog 10 #[inV k code n ok t] w (Says (lineL k code n ok t.data.toList) w)) (h : lineL k code n ok t.data.toList = l) :
    Calls Tryd.prog 10 #[inV k code n ok t] w (fun e w' => e = .returned (.string (S l)) ∧ Keeps w w') := by rw [h] at hc; exact hc
theorem r1 : readL [] = (Inp.zero, 3) := by decide +kernel
theorem r2 : readL [7] = (Inp.zero, 9) := by decide +kernel
theorem r3 : readL [3, 0] = (Inp.zero, 3) := by decide +kernel
theorem r4 : readL [3, 0, 0, 0, 0, 0, 0, 1, 2, 2] = (Inp.zero, 5) := by decide +kernel
theorem r5 : readL [6, 6] = (Inp.zero, 5) := by decide +kernel
theorem r6 : readL [2, 0, 0, 0, 0, 0, 0, 16, 0] = (Inp.zero, 2) := by decide +kernel
theorem r7 : readL [4, 255, 255, 255, 255, 255, 255, 255, 255] = (Inp.zero, 2) := by decide +kernel
theorem d5 : Lib.itoa 5 = [53] := by simp [Lib.itoa, Lib.decDigits]
theorem d4097 : Lib.itoa 4097 = [52, 48, 57, 55] := by simp [Lib.itoa, Lib.decDigits]
theorem d3 : Lib.itoa (-3) = [45, 51] := by simp [Lib.itoa, Lib.decDigits]
theorem l1 : lineL 5 5 0 false [64, 117, 58, 120] = [99, 111, 109, 109, 97, 110, 100, 32, 53, 32, 64, 117, 58, 120] := by simp [lineL, d5]
theorem l2 : lineL 2 0 4097 false [] = [108, 111, 110, 103, 32, 52, 48, 57, 55] := by simp [lineL, d4097]
theorem l3 : lineL 3 0 (-3) false [] = [114, 101, 112, 108, 121, 32, 45, 51, 32, 110, 111] := by simp [lineL, d3, yesL]
theorem lineNone (w : World) : Calls Tryd.prog 10 #[inV 0 0 0 false ⟨#[]⟩] w (fun e w' => e = .returned (.string (S [63])) ∧ Keeps w w') := by
  unfold inV
  go_enter Tryd.func10, Tryd.ntmps10
  go_wp2
  go_ret
  exact ⟨rfl, (Keeps.refl _).alloc _⟩
theorem times_at (n m : Nat) (hn : n ≤ 100000) (hm : m = n) (w : World) : Calls Tryd.prog 8 #[.string ⟨#[97]⟩, .int .i64 (n : Int)] w (fun e w' => ∃ t : ByteArray, e = .returned (.string t) ∧ t.size = m ∧ w = w') := by
  have h := times_any ⟨#[97]⟩ n w (by show 1 * n ≤ 100000; omega) (by decide) hn
  refine h.mono ?_
  rintro e w' ⟨t, rfl, hz, rfl⟩
  refine ⟨t, rfl, ?_, rfl⟩
  rw [hz, hm]
  show 1 * n = n
  omega

set_option maxHeartbeats 4000000 in
theorem names_any (w : World) (hT : Tab w) : Calls Tryd.prog 3 #[] w (Ret (.bool true) w) := by
  have cL := Lib.hid (fun w1 => lives_any w1)
  have c1 : Hid (∀ w1, Calls Tryd.prog 6 #[.string ⟨#[]⟩] w1 (fun e w' => e = .returned (.tuple #[.agg #[.int .i64 0, .int .i64 0, .int .i64 0, .bool false, .string ⟨#[]⟩], .int .i64 3]) ∧ Keeps w1 w')) := Lib.hid (fun w1 => read_lit [] 3 (by decide) r1 w1)
  have c2 : Hid (∀ w1, Calls Tryd.prog 6 #[.string ⟨#[7]⟩] w1 (fun e w' => e = .returned (.tuple #[.agg #[.int .i64 0, .int .i64 0, .int .i64 0, .bool false, .string ⟨#[]⟩], .int .i64 9]) ∧ Keeps w1 w')) := Lib.hid (fun w1 => read_lit [7] 9 (by decide) r2 w1)
  have c3 : Hid (∀ w1, Calls Tryd.prog 6 #[.string ⟨#[3, 0]⟩] w1 (fun e w' => e = .returned (.tuple #[.agg #[.int .i64 0, .int .i64 0, .int .i64 0, .bool false, .string ⟨#[]⟩], .int .i64 3]) ∧ Keeps w1 w')) := Lib.hid (fun w1 => read_lit [3, 0] 3 (by decide) r3 w1)
  have c4 : Hid (∀ w1, Calls Tryd.prog 6 #[.string ⟨#[3, 0, 0, 0, 0, 0, 0, 1, 2, 2]⟩] w1 (fun e w' => e = .returned (.tuple #[.agg #[.int .i64 0, .int .i64 0, .int .i64 0, .bool false, .string ⟨#[]⟩], .int .i64 5]) ∧ Keeps w1 w')) := Lib.hid (fun w1 => read_lit [3, 0, 0, 0, 0, 0, 0, 1, 2, 2] 5 (by decide) r4 w1)
  have c5 : Hid (∀ w1, Calls Tryd.prog 6 #[.string ⟨#[6, 6]⟩] w1 (fun e w' => e = .returned (.tuple #[.agg #[.int .i64 0, .int .i64 0, .int .i64 0, .bool false, .string ⟨#[]⟩], .int .i64 5]) ∧ Keeps w1 w')) := Lib.hid (fun w1 => read_lit [6, 6] 5 (by decide) r5 w1)
  have c6 : Hid (∀ w1, Calls Tryd.prog 6 #[.string ⟨#[2, 0, 0, 0, 0, 0, 0, 16, 0]⟩] w1 (fun e w' => e = .returned (.tuple #[.agg #[.int .i64 0, .int .i64 0, .int .i64 0, .bool false, .string ⟨#[]⟩], .int .i64 2]) ∧ Keeps w1 w')) := Lib.hid (fun w1 => read_lit [2, 0, 0, 0, 0, 0, 0, 16, 0] 2 (by decide) r6 w1)
  have c7 : Hid (∀ w1, Calls Tryd.prog 6 #[.string ⟨#[4, 255, 255, 255, 255, 255, 255, 255, 255]⟩] w1 (fun e w' => e = .returned (.tuple #[.agg #[.int .i64 0, .int .i64 0, .int .i64 0, .bool false, .string ⟨#[]⟩], .int .i64 2]) ∧ Keeps w1 w')) := Lib.hid (fun w1 => read_lit [4, 255, 255, 255, 255, 255, 255, 255, 255] 2 (by decide) r7 w1)
  have cT : Hid (∀ w1, Calls Tryd.prog 8 #[.string ⟨#[97]⟩, .int .i64 4097] w1 (fun e w' => ∃ t : ByteArray, e = .returned (.string t) ∧ t.size = 4097 ∧ w1 = w')) := Lib.hid (fun w1 => times_at 4097 4097 (by decide) rfl w1)
  have cU : Hid (∀ w1, Calls Tryd.prog 8 #[.string ⟨#[97]⟩, .int .i64 301] w1 (fun e w' => ∃ t : ByteArray, e = .returned (.string t) ∧ t.size = 301 ∧ w1 = w')) := Lib.hid (fun w1 => times_at 301 301 (by decide) rfl w1)
  have cX : Hid (∀ (t : ByteArray) w1, t.size = 4097 → Calls Tryd.prog 7 #[.string t] w1 (fun e w' => e = .returned (.agg #[.int .i64 2, .int .i64 0, .int .i64 4097, .bool false, .string ⟨#[]⟩]) ∧ Keeps w1 w')) := Lib.hid (fun t w1 h => by
    have := take_long t w1 (by omega) (by omega)
    rw [h] at this
    exact this)
  have cY : Hid (∀ w1, Calls Tryd.prog 7 #[.string ⟨#[97]⟩] w1 (fun e w' => e = .returned (.agg #[.int .i64 1, .int .i64 0, .int .i64 0, .bool false, .string ⟨#[97]⟩]) ∧ Keeps w1 w')) := Lib.hid (fun w1 => take_short ⟨#[97]⟩ w1 (by decide))
  have cC : Hid (∀ w1, Calls Tryd.prog 9 #[.int .i64 5, .string ⟨#[64, 117, 58, 120]⟩] w1 (fun e w' => e = .returned (.agg #[.int .i64 5, .int .i64 5, .int .i64 0, .bool false, .string ⟨#[64, 117, 58, 120]⟩]) ∧ Keeps w1 w')) := Lib.hid (fun w1 => command_any 5 ⟨#[64, 117, 58, 120]⟩ w1)
  have cA : Hid (∀ w1, Tab w1 → Calls Tryd.prog 10 #[.agg #[.int .i64 5, .int .i64 5, .int .i64 0, .bool false, .string ⟨#[64, 117, 58, 120]⟩]] w1 (fun e w' => e = .returned (.string ⟨#[99, 111, 109, 109, 97, 110, 100, 32, 53, 32, 64, 117, 58, 120]⟩) ∧ Keeps w1 w')) := Lib.hid (fun w1 h => line_lit 5 5 0 false ⟨#[64, 117, 58, 120]⟩ _ w1 (line5 5 0 false ⟨#[64, 117, 58, 120]⟩ w1 (by decide) (by decide) (by decide) h) l1)
  have cB : Hid (∀ w1, Tab w1 → Calls Tryd.prog 10 #[.agg #[.int .i64 2, .int .i64 0, .int .i64 4097, .bool false, .string ⟨#[]⟩]] w1 (fun e w' => e = .returned (.string ⟨#[108, 111, 110, 103, 32, 52, 48, 57, 55]⟩) ∧ Keeps w1 w')) := Lib.hid (fun w1 h => line_lit 2 0 4097 false ⟨#[]⟩ _ w1 (line2 0 4097 false ⟨#[]⟩ w1 (by decide) (by decide) (by decide) h) l2)
  have cD : Hid (∀ w1, Tab w1 → Calls Tryd.prog 10 #[.agg #[.int .i64 3, .int .i64 0, .int .i64 (-3), .bool false, .string ⟨#[]⟩]] w1 (fun e w' => e = .returned (.string ⟨#[114, 101, 112, 108, 121, 32, 45, 51, 32, 110, 111]⟩) ∧ Keeps w1 w')) := Lib.hid (fun w1 h => line_lit 3 0 (-3) false ⟨#[]⟩ _ w1 (line3 0 (-3) false ⟨#[]⟩ w1 (by decide) (by decide) (by decide) h) l3)
  have cE : Hid (∀ w1, Calls Tryd.prog 10 #[.agg #[.int .i64 0, .int .i64 0, .int .i64 0, .bool false, .string ⟨#[]⟩]] w1 (fun e w' => e = .returned (.string ⟨#[63]⟩) ∧ Keeps w1 w')) := Lib.hid (fun w1 => lineNone w1)
  have cF : Hid (∀ w1, Calls Tryd.prog 11 #[.agg #[.int .i64 4, .int .i64 0, .int .i64 0, .bool false, .string ⟨#[97]⟩]] w1 (fun e w' => e = .returned (.int .i64 2) ∧ Keeps w1 w')) := Lib.hid (fun w1 => check_any 4 0 0 false ⟨#[97]⟩ w1 (by unfold maxLen; decide))
  have cG : Hid (∀ (t : ByteArray) w1, t.size = 301 → Calls Tryd.prog 11 #[.agg #[.int .i64 5, .int .i64 0, .int .i64 0, .bool false, .string t]] w1 (fun e w' => e = .returned (.int .i64 4) ∧ Keeps w1 w')) := Lib.hid (fun t w1 h => by
    have := check_any 5 0 0 false t w1 (by unfold maxLen; omega)
    rw [h] at this
    exact this)
  have HT := Lib.hid hT
  clear hT
  go_enter Tryd.func3, Tryd.ntmps3
  go_wp2_with fail
  refine (cL.out _).mono ?_
  rintro e w1 ⟨rfl, h⟩
  have K1 := Lib.hid h
  clear h
  go_wp2_with fail
  refine (c1.out _).mono ?_
  rintro e w2 ⟨rfl, h⟩
  have K2 := Lib.hid (K1.out.trans h)
  clear h
  go_wp2_with fail
  refine (c2.out _).mono ?_
  rintro e w3 ⟨rfl, h⟩
  have K3 := Lib.hid ((K2.out.alloc (.cells #[.int .i64 0, .int .i64 0, .int .i64 0, .bool false, .string ⟨#[]⟩] 24)).trans h)
  clear h
  go_wp2_with fail
  refine (c3.out _).mono ?_
  rintro e w4 ⟨rfl, h⟩
  have K4 := Lib.hid ((K3.out.alloc (.cells #[.int .i64 0, .int .i64 0, .int .i64 0, .bool false, .string ⟨#[]⟩] 24)).trans h)
  clear h
  go_wp2_with fail
  refine (c4.out _).mono ?_
  rintro e w5 ⟨rfl, h⟩
  have K5 := Lib.hid ((K4.out.alloc (.cells #[.int .i64 0, .int .i64 0, .int .i64 0, .bool false, .string ⟨#[]⟩] 24)).trans h)
  clear h
  go_wp2_with fail
  refine (c5.out _).mono ?_
  rintro e w6 ⟨rfl, h⟩
  have K6 := Lib.hid ((K5.out.alloc (.cells #[.int .i64 0, .int .i64 0, .int .i64 0, .bool false, .string ⟨#[]⟩] 24)).trans h)
  clear h
  go_wp2_with fail
  refine (c6.out _).mono ?_
  rintro e w7 ⟨rfl, h⟩
  have K7 := Lib.hid ((K6.out.alloc (.cells #[.int .i64 0, .int .i64 0, .int .i64 0, .bool false, .string ⟨#[]⟩] 24)).trans h)
  clear h
  go_wp2_with fail
  refine (c7.out _).mono ?_
  rintro e w8 ⟨rfl, h⟩
  have K8 := Lib.hid ((K7.out.alloc (.cells #[.int .i64 0, .int .i64 0, .int .i64 0, .bool false, .string ⟨#[]⟩] 24)).trans h)
  clear h
  have K8b := Lib.hid ((K8.out.alloc (.cells #[.int .i64 0, .int .i64 0, .int .i64 0, .bool false, .string ⟨#[]⟩] 24)))
  go_wp2_with fail
  refine (cT.out _).mono ?_
  rintro e wt ⟨t, rfl, ht, rfl⟩
  go_wp2_with fail
  refine (cX.out t _ ht).mono ?_
  rintro e w9 ⟨rfl, h⟩
  have K9 := Lib.hid (K8b.out.trans h)
  clear h ht
  have K9b := Lib.hid (K9.out.alloc (.cells #[.int .i64 2, .int .i64 0, .int .i64 4097, .bool false, .string ⟨#[]⟩] 24))
  have X9 := Lib.hid (own5_new w9 2 0 4097 false ⟨#[]⟩)
  go_wp2_with fail
  refine (cC.out _).mono ?_
  rintro e w10 ⟨rfl, h⟩
  have K10 := Lib.hid (K9b.out.trans h)
  have X10 := Lib.hid (X9.out.keeps h)
  clear h
  have K10b := Lib.hid (K10.out.alloc (.cells #[.int .i64 5, .int .i64 5, .int .i64 0, .bool false, .string ⟨#[64, 117, 58, 120]⟩] 24))
  have Y10 := Lib.hid (own5_new w10 5 5 0 false ⟨#[64, 117, 58, 120]⟩)
  have X10b := Lib.hid (X10.out.keeps (Keeps.alloc (Keeps.refl w10) (.cells #[.int .i64 5, .int .i64 5, .int .i64 0, .bool false, .string ⟨#[64, 117, 58, 120]⟩] 24)))
  obtain ⟨⟨x0, x1, x2, x3, x4⟩, _⟩ := X10b.out
  have bX : w9.heap.size < w10.heap.size := World.block_lt_of_cell? w10 _ X10.out.1.1
  have HbX := Lib.hid bX
  clear bX
  go_wp2_with fail
  refine (cY.out _).mono ?_
  rintro e w11 ⟨rfl, h⟩
  have K11 := Lib.hid (K10b.out.trans h)
  have X11 := Lib.hid (X10b.out.keeps h)
  have Y11 := Lib.hid (Y10.out.keeps h)
  clear h x0 x1 x2 x3 x4
  obtain ⟨⟨y0, y1, y2, y3, y4⟩, _⟩ := Y11.out
  go_wp2_with fail
  refine (cA.out _ (HT.out.keeps K11.out)).mono ?_
  rintro e w12 ⟨rfl, h⟩
  have K12 := Lib.hid (K11.out.trans h)
  have X12 := Lib.hid (X11.out.keeps h)
  clear h y0 y1 y2 y3 y4
  obtain ⟨⟨x0, x1, x2, x3, x4⟩, _⟩ := X12.out
  go_wp2_with fail
  refine (cB.out _ (HT.out.keeps K12.out)).mono ?_
  rintro e w13 ⟨rfl, h⟩
  have K13 := Lib.hid (K12.out.trans h)
  clear h x0 x1 x2 x3 x4
  go_wp2_with fail
  refine (cD.out _ (HT.out.keeps K13.out)).mono ?_
  rintro e w14 ⟨rfl, h⟩
  have K14 := Lib.hid (K13.out.trans h)
  clear h
  go_wp2_with fail
  refine (cE.out _).mono ?_
  rintro e w15 ⟨rfl, h⟩
  have K15 := Lib.hid (K14.out.trans h)
  clear h
  go_wp2_with fail
  refine (cF.out _).mono ?_
  rintro e w16 ⟨rfl, h⟩
  have K16 := Lib.hid (K15.out.trans h)
  clear h
  go_wp2_with fail
  refine (cU.out _).mono ?_
  rintro e wt ⟨u, rfl, hu, rfl⟩
  go_wp2_with fail
  refine (cG.out u _ hu).mono ?_
  rintro e w17 ⟨rfl, h⟩
  have K17 := Lib.hid (K16.out.trans h)
  clear h hu
  go_wp2
  go_ret
  exact Ret.bool (by first | rfl | simp) K17.out
end Go.Proofs.YtepbbdeolplhfaaDoor
