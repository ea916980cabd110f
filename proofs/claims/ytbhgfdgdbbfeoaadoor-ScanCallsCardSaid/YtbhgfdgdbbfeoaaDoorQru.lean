/-
  The contract of quoteRune of package scan.
-/
import Derived.Test.YtbhgfdgdbbfeoaaDoorVal
namespace Go.Proofs.YtbhgfdgdbbfeoaaDoor
open Go.RowKit

/-- A call that writes bytes and answers nothing. -/
def RetW (B b : Nat) (acc : List UInt8) (w : World) (e : Ending) (w' : World) : Prop := e = .returned (.tuple #[]) ∧ (Bd B b acc w' ∧ Kept B b w w')

theorem toldN_plain (n : Nat) (h : 32 ≤ n) (h1 : n ≠ 34) (h2 : n ≠ 92) : toldN n = [n.toUInt8] := by
  unfold toldN
  rw [if_neg h1, if_neg h2, if_neg (by omega), if_neg (by omega), if_neg (by omega), if_neg (by omega), if_neg (by omega), if_neg (by omega)]
theorem qrun_plain (r : Nat) (h : 32 ≤ r) (h1 : r ≠ 34) (h2 : r ≠ 92) : qrun r = Lib.encodeRune (r : Int) := by
  unfold qrun
  by_cases h3 : r < 128
  · rw [if_pos h3, toldN_plain r h h1 h2, enc_one (by omega)]
  · rw [if_neg h3]

set_option maxHeartbeats 2000000 in
theorem qr_34 (B b : Nat) (acc : List UInt8) (w : World) (h : Bd B b acc w) (hl : acc.length ≤ 900000) (hBw : B ≤ w.heap.size) :
    Calls Tryd.prog 34 #[.pointer (some ⟨b, 0, none⟩), .int .i32 (34 : Int)] w (RetW B b (acc ++ qrun 34) w) := by
  have HA := Lib.hid h
  have cB := Lib.hid (fun w1 h1 h2 => wb_any B b acc 92 w1 h1 (by omega) h2)
  have cW := Lib.hid (fun w1 h1 h2 => wr_any B b (acc ++ [92]) (34 : Int) w1 h1 (by omega) (by omega) (by simp; omega) h2)
  clear h
  go_enter Tryd.func34, Tryd.ntmps34
  go_wp2_with fail
  refine (cB.out _ HA.out hBw).mono ?_
  rintro e w2 ⟨rfl, hB2, hK2⟩
  have HB := Lib.hid hB2
  have HK := Lib.hid hK2
  have hz : B ≤ w2.heap.size := Nat.le_trans hBw hK2.1.size
  clear hB2 hK2
  go_wp2_with fail
  refine (cW.out _ HB.out hz).mono ?_
  rintro e w3 ⟨⟨kk, rfl⟩, hB3, hK3⟩
  go_wp2
  go_end0
  exact ⟨rfl, by rw [show qrun 34 = [92] ++ Lib.encodeRune (34 : Int) by decide, ← List.append_assoc]; exact hB3, HK.out.trans hK3⟩

set_option maxHeartbeats 2000000 in
theorem qr_92 (B b : Nat) (acc : List UInt8) (w : World) (h : Bd B b acc w) (hl : acc.length ≤ 900000) (hBw : B ≤ w.heap.size) :
    Calls Tryd.prog 34 #[.pointer (some ⟨b, 0, none⟩), .int .i32 (92 : Int)] w (RetW B b (acc ++ qrun 92) w) := by
  have HA := Lib.hid h
  have cB := Lib.hid (fun w1 h1 h2 => wb_any B b acc 92 w1 h1 (by omega) h2)
  have cW := Lib.hid (fun w1 h1 h2 => wr_any B b (acc ++ [92]) (92 : Int) w1 h1 (by omega) (by omega) (by simp; omega) h2)
  clear h
  go_enter Tryd.func34, Tryd.ntmps34
  go_wp2_with fail
  refine (cB.out _ HA.out hBw).mono ?_
  rintro e w2 ⟨rfl, hB2, hK2⟩
  have HB := Lib.hid hB2
  have HK := Lib.hid hK2
  have hz : B ≤ w2.heap.size := Nat.le_trans hBw hK2.1.size
  clear hB2 hK2
  go_wp2_with fail
  refine (cW.out _ HB.out hz).mono ?_
  rintro e w3 ⟨⟨kk, rfl⟩, hB3, hK3⟩
  go_wp2
  go_end0
  exact ⟨rfl, by rw [show qrun 92 = [92] ++ Lib.encodeRune (92 : Int) by decide, ← List.append_assoc]; exact hB3, HK.out.trans hK3⟩

set_option maxHeartbeats 2000000 in
theorem qr_8 (B b : Nat) (acc : List UInt8) (w : World) (h : Bd B b acc w) (hl : acc.length ≤ 900000) (hBw : B ≤ w.heap.size) :
    Calls Tryd.prog 34 #[.pointer (some ⟨b, 0, none⟩), .int .i32 (8 : Int)] w (RetW B b (acc ++ qrun 8) w) := by
  have HA := Lib.hid h
  have cS := Lib.hid (fun w1 h1 h2 => ws_any B b acc ⟨#[92, 98]⟩ w1 h1 (by omega) (by decide) h2)
  clear h
  go_enter Tryd.func34, Tryd.ntmps34
  go_wp2_with fail
  refine (cS.out _ HA.out hBw).mono ?_
  rintro e w2 ⟨⟨kk, rfl⟩, hB3, hK3⟩
  go_wp2
  go_end0
  exact ⟨rfl, by rw [show qrun 8 = [92, 98] by decide]; exact hB3, hK3⟩

set_option maxHeartbeats 2000000 in
theorem qr_12 (B b : Nat) (acc : List UInt8) (w : World) (h : Bd B b acc w) (hl : acc.length ≤ 900000) (hBw : B ≤ w.heap.size) :
    Calls Tryd.prog 34 #[.pointer (some ⟨b, 0, none⟩), .int .i32 (12 : Int)] w (RetW B b (acc ++ qrun 12) w) := by
  have HA := Lib.hid h
  have cS := Lib.hid (fun w1 h1 h2 => ws_any B b acc ⟨#[92, 102]⟩ w1 h1 (by omega) (by decide) h2)
  clear h
  go_enter Tryd.func34, Tryd.ntmps34
  go_wp2_with fail
  refine (cS.out _ HA.out hBw).mono ?_
  rintro e w2 ⟨⟨kk, rfl⟩, hB3, hK3⟩
  go_wp2
  go_end0
  exact ⟨rfl, by rw [show qrun 12 = [92, 102] by decide]; exact hB3, hK3⟩

set_option maxHeartbeats 2000000 in
theorem qr_10 (B b : Nat) (acc : List UInt8) (w : World) (h : Bd B b acc w) (hl : acc.length ≤ 900000) (hBw : B ≤ w.heap.size) :
    Calls Tryd.prog 34 #[.pointer (some ⟨b, 0, none⟩), .int .i32 (10 : Int)] w (RetW B b (acc ++ qrun 10) w) := by
  have HA := Lib.hid h
  have cS := Lib.hid (fun w1 h1 h2 => ws_any B b acc ⟨#[92, 110]⟩ w1 h1 (by omega) (by decide) h2)
  clear h
  go_enter Tryd.func34, Tryd.ntmps34
  go_wp2_with fail
  refine (cS.out _ HA.out hBw).mono ?_
  rintro e w2 ⟨⟨kk, rfl⟩, hB3, hK3⟩
  go_wp2
  go_end0
  exact ⟨rfl, by rw [show qrun 10 = [92, 110] by decide]; exact hB3, hK3⟩

set_option maxHeartbeats 2000000 in
theorem qr_13 (B b : Nat) (acc : List UInt8) (w : World) (h : Bd B b acc w) (hl : acc.length ≤ 900000) (hBw : B ≤ w.heap.size) :
    Calls Tryd.prog 34 #[.pointer (some ⟨b, 0, none⟩), .int .i32 (13 : Int)] w (RetW B b (acc ++ qrun 13) w) := by
  have HA := Lib.hid h
  have cS := Lib.hid (fun w1 h1 h2 => ws_any B b acc ⟨#[92, 114]⟩ w1 h1 (by omega) (by decide) h2)
  clear h
  go_enter Tryd.func34, Tryd.ntmps34
  go_wp2_with fail
  refine (cS.out _ HA.out hBw).mono ?_
  rintro e w2 ⟨⟨kk, rfl⟩, hB3, hK3⟩
  go_wp2
  go_end0
  exact ⟨rfl, by rw [show qrun 13 = [92, 114] by decide]; exact hB3, hK3⟩

set_option maxHeartbeats 2000000 in
theorem qr_9 (B b : Nat) (acc : List UInt8) (w : World) (h : Bd B b acc w) (hl : acc.length ≤ 900000) (hBw : B ≤ w.heap.size) :
    Calls Tryd.prog 34 #[.pointer (some ⟨b, 0, none⟩), .int .i32 (9 : Int)] w (RetW B b (acc ++ qrun 9) w) := by
  have HA := Lib.hid h
  have cS := Lib.hid (fun w1 h1 h2 => ws_any B b acc ⟨#[92, 116]⟩ w1 h1 (by omega) (by decide) h2)
  clear h
  go_enter Tryd.func34, Tryd.ntmps34
  go_wp2_with fail
  refine (cS.out _ HA.out hBw).mono ?_
  rintro e w2 ⟨⟨kk, rfl⟩, hB3, hK3⟩
  go_wp2
  go_end0
  exact ⟨rfl, by rw [show qrun 9 = [92, 116] by decide]; exact hB3, hK3⟩

set_option maxHeartbeats 4000000 in
theorem qr_plain (B b : Nat) (acc : List UInt8) (r : Nat) (w : World) (h : Bd B b acc w) (hl : acc.length ≤ 900000) (hBw : B ≤ w.heap.size) (hr : r ≤ 2147483647) (h0 : 32 ≤ r) (h1 : r ≠ 34) (h2 : r ≠ 92) :
    Calls Tryd.prog 34 #[.pointer (some ⟨b, 0, none⟩), .int .i32 (r : Int)] w (RetW B b (acc ++ qrun r) w) := by
  rw [qrun_plain r h0 h1 h2]
  have HA := Lib.hid h
  have cW := Lib.hid (fun w1 h1 h2 => wr_any B b acc (r : Int) w1 h1 (by omega) (by omega) (by omega) h2)
  have f1 : ((r : Int) == 34) = false := by simp; omega
  have f2 : ((r : Int) == 92) = false := by simp; omega
  have f3 : ((r : Int) == 8) = false := by simp; omega
  have f4 : ((r : Int) == 12) = false := by simp; omega
  have f5 : ((r : Int) == 10) = false := by simp; omega
  have f6 : ((r : Int) == 13) = false := by simp; omega
  have f7 : ((r : Int) == 9) = false := by simp; omega
  have f8 : decide ((32 : Int) ≤ (r : Int)) = true := by simp; omega
  clear h h0 h1 h2 hr
  go_enter Tryd.func34, Tryd.ntmps34
  go_wp2_with fail
  refine (cW.out _ HA.out hBw).mono ?_
  rintro e w3 ⟨⟨kk, rfl⟩, hB3, hK3⟩
  go_wp2
  go_end0
  exact ⟨rfl, hB3, hK3⟩

set_option maxHeartbeats 40000000 in
theorem qr_low (B b : Nat) (acc : List UInt8) (r : Nat) (w : World) (h : Bd B b acc w) (hl : acc.length ≤ 900000) (hBw : B ≤ w.heap.size) (h0 : r < 32) (h1 : r ≠ 8) (h2 : r ≠ 12) (h3 : r ≠ 10) (h4 : r ≠ 13) (h5 : r ≠ 9) :
    Calls Tryd.prog 34 #[.pointer (some ⟨b, 0, none⟩), .int .i32 (r : Int)] w (RetW B b (acc ++ qrun r) w) := by
  have hq : qrun r = [92, 117, 48, 48] ++ [hexD (r / 16)] ++ [hexD (r % 16)] := by
    unfold qrun toldN
    rw [if_pos (by omega), if_neg (by omega), if_neg (by omega), if_neg h1, if_neg h2, if_neg h3, if_neg h4, if_neg h5, if_pos h0]; rfl
  have HA := Lib.hid h
  have cS := Lib.hid (fun w1 h1 h2 => ws_any B b acc ⟨#[92, 117, 48, 48]⟩ w1 h1 (by omega) (by decide) h2)
  have cB := Lib.hid (fun l (c : UInt8) w1 h1 h2 h3 => wb_any B b l c w1 h1 h2 h3)
  rw [hq]
  have f1 : ((r : Int) == 34) = false := by simp; omega
  have f2 : ((r : Int) == 92) = false := by simp; omega
  have f3 : ((r : Int) == 8) = false := by simp; omega
  have f4 : ((r : Int) == 12) = false := by simp; omega
  have f5 : ((r : Int) == 10) = false := by simp; omega
  have f6 : ((r : Int) == 13) = false := by simp; omega
  have f7 : ((r : Int) == 9) = false := by simp; omega
  have f8 : decide ((32 : Int) ≤ (r : Int)) = false := by simp; omega
  have f9 : (r : Int) < 32 := by omega
  have f10 : (0 : Int) ≤ (r : Int) := by omega
  have f11 : bits BinOp.and IntKind.i32 (r : Int) 15 = (r : Int) % 16 := by
    have : ∀ n : Nat, n < 32 → bits BinOp.and IntKind.i32 (n : Int) 15 = (n : Int) % 16 := by decide
    exact this r h0
  have f12 : (0 : Int) ≤ (r : Int) % 16 := by omega
  have f13 : (r : Int) % 16 < 16 := by omega
  have f14 : ((r : Int) % 16).toNat = r % 16 := by omega
  clear h hq h1 h2 h3 h4 h5
  go_enter Tryd.func34, Tryd.ntmps34
  go_wp2_with fail
  refine (cS.out _ HA.out hBw).mono ?_
  rintro e w2 ⟨⟨kk, rfl⟩, hB2, hK2⟩
  have HB := Lib.hid hB2
  have HK := Lib.hid hK2
  have hz : B ≤ w2.heap.size := Nat.le_trans hBw hK2.1.size
  clear hB2 hK2
  go_wp2_with fail
  refine (cB.out _ _ _ HB.out (by simp; omega) hz).mono ?_
  rintro e w3 ⟨rfl, hB2, hK2⟩
  have HB3 := Lib.hid hB2
  have HK3 := Lib.hid (HK.out.trans hK2)
  have hz3 : B ≤ w3.heap.size := Nat.le_trans hz hK2.1.size
  clear hB2 hK2 HB HK
  go_wp2_with fail
  refine (cB.out _ _ _ HB3.out (by simp; omega) hz3).mono ?_
  rintro e w4 ⟨rfl, hB2, hK2⟩
  go_wp2
  go_end0
  refine ⟨rfl, ?_, HK3.out.trans hK2⟩
  have e1 : hexD (r / 16) = (⟨#[48, 49, 50, 51, 52, 53, 54, 55, 56, 57, 97, 98, 99, 100, 101, 102]⟩ : ByteArray)[r / 16]'(by show r / 16 < 16; omega) := getD_at (⟨#[48, 49, 50, 51, 52, 53, 54, 55, 56, 57, 97, 98, 99, 100, 101, 102]⟩ : ByteArray) (r / 16) _
  have e2 : hexD (r % 16) = (⟨#[48, 49, 50, 51, 52, 53, 54, 55, 56, 57, 97, 98, 99, 100, 101, 102]⟩ : ByteArray)[r % 16]'(by show r % 16 < 16; omega) := getD_at (⟨#[48, 49, 50, 51, 52, 53, 54, 55, 56, 57, 97, 98, 99, 100, 101, 102]⟩ : ByteArray) (r % 16) _
  rw [e1, e2]
  simp only [List.append_assoc] at hB2
  exact hB2
end Go.Proofs.YtbhgfdgdbbfeoaaDoor
