/-
  The document's own Read of records: more of its ways (ticks, commands, restarts).
-/
import Derived.Test.YtepbbdeolplhfaaDoorRff
namespace Go.Proofs.YtepbbdeolplhfaaDoor
open Go.RowKit

set_option maxHeartbeats 4000000 in
theorem rr_full4 (s b : ByteArray) (x : Int) (t : ByteArray) (w : World) (hsz : s.size = b.size + 1) (hb : b.size ≤ 5000) (he : s.toList.isEmpty = false) (h0 : ∀ h : 0 < s.size, (s[0]'h).toNat = 4) (hx : s.extract 1 (b.size + 1) = b) (hlt : 8 ≤ b.size) (hlu : b.size ≤ 8) (ht : b.extract 0 8 = t) (hov : x ≤ 1152921504606846976) (hx2 : 0 ≤ x) (cN : Hid (∀ w1 : World, Calls Tryd.prog 28 #[.string t] w1 (fun e w' => e = .returned (.int .u64 x) ∧ w' = w1))) (cC : Hid (∀ w1 : World, Calls Tryd.prog 16 #[.agg #[.int .i64 4, .int .i64 0, .int .i64 x, .bool false, .string ⟨#[]⟩]] w1 (Ret (.int .i64 0) w1))) : Calls Tryd.prog 15 #[.string s] w (fun e w' => e = .returned (.tuple #[inV 4 0 x false ⟨#[]⟩, .int .i64 0]) ∧ Keeps w w') := by
  have e1 : IntKind.i64.wrap x = x := IntWalk.i64_in _ (by omega)
  have O1 : Hid (Own5 ((w.alloc (.cells #[.int .i64 0, .int .i64 0, .int .i64 0, .bool false, .string ⟨#[]⟩] 24)).alloc (.cells #[.int .i64 4, .int .i64 0, .int .i64 x, .bool false, .string ⟨#[]⟩] 24)) w.heap.size 0 0 0 false ⟨#[]⟩) := Lib.hid ((own5_new w 0 0 0 false ⟨#[]⟩).keeps ((Keeps.refl _).alloc _))
  have O2 : Hid (Own5 ((w.alloc (.cells #[.int .i64 0, .int .i64 0, .int .i64 0, .bool false, .string ⟨#[]⟩] 24)).alloc (.cells #[.int .i64 4, .int .i64 0, .int .i64 x, .bool false, .string ⟨#[]⟩] 24)) (w.heap.size + 1) 4 0 x false ⟨#[]⟩) := Lib.hid (by
    have := own5_new (w.alloc (.cells #[.int .i64 0, .int .i64 0, .int .i64 0, .bool false, .string ⟨#[]⟩] 24)) 4 0 x false ⟨#[]⟩
    rw [show (w.alloc (.cells #[.int .i64 0, .int .i64 0, .int .i64 0, .bool false, .string ⟨#[]⟩] 24)).heap.size = w.heap.size + 1 by simp] at this
    exact this)
  have KK : Hid (Keeps w ((w.alloc (.cells #[.int .i64 0, .int .i64 0, .int .i64 0, .bool false, .string ⟨#[]⟩] 24)).alloc (.cells #[.int .i64 4, .int .i64 0, .int .i64 x, .bool false, .string ⟨#[]⟩] 24))) := Lib.hid (((Keeps.refl _).alloc _).alloc _)
  have cF : Hid (∀ w1 : World, Calls Tryd.prog 27 #[.int .i64 4] w1 (fun e w' => e = .returned (.tuple #[.int .i64 8, .bool true]) ∧ w' = w1)) := Lib.hid (fun w1 => fixed_any 4 w1 (by decide) (by decide))
  go_enter Tryd.func15, Tryd.ntmps15
  go_wp2_with fail
  refine (cF.out _).mono ?_
  rintro e wx ⟨rfl, rfl⟩
  go_wp2_with fail
  refine (cN.out _).mono ?_
  rintro e wx ⟨rfl, rfl⟩
  go_wp2_with fail
  refine (cC.out _).mono ?_
  rintro e w2 ⟨rfl, hk⟩
  have hR := O1.out.keeps hk
  have hQ := O2.out.keeps hk
  have hBB : Below w.heap.size w w2 := KK.out.trans hk
  clear O1 O2 KK hk cC
  obtain ⟨⟨q0, q1, q2, q3, q4⟩, f0, f1, f2, f3, f4⟩ := hQ
  obtain ⟨⟨r0, r1, r2, r3, r4⟩, e0, e1, e2, e3, e4⟩ := hR
  go_wp2
  obtain ⟨a0, a1, a2, a3, a4⟩ := five_set w2 w.heap.size (.int .i64 4) (.int .i64 0) (.int .i64 x) (.bool false) (.string ⟨#[]⟩) r0 r1 r2 r3 r4
  exact bodyPost_ret (v := .tuple #[inV 4 0 x false ⟨#[]⟩, .int .i64 0]) (by simp [results, Tryd.results15, go_sem, inV, a0, a1, a2, a3, a4]) rfl ⟨rfl, bset5 hBB (Nat.le_refl _) _ _ _ _ _⟩

set_option maxHeartbeats 4000000 in
theorem rr_full4n (s b : ByteArray) (x : Int) (t : ByteArray) (c : Int) (w : World) (hsz : s.size = b.size + 1) (hb : b.size ≤ 5000) (he : s.toList.isEmpty = false) (h0 : ∀ h : 0 < s.size, (s[0]'h).toNat = 4) (hx : s.extract 1 (b.size + 1) = b) (hlt : 8 ≤ b.size) (hlu : b.size ≤ 8) (ht : b.extract 0 8 = t) (hov : x ≤ 1152921504606846976) (hx2 : 0 ≤ x) (cN : Hid (∀ w1 : World, Calls Tryd.prog 28 #[.string t] w1 (fun e w' => e = .returned (.int .u64 x) ∧ w' = w1))) (hc : c ≠ 0) (cC : Hid (∀ w1 : World, Calls Tryd.prog 16 #[.agg #[.int .i64 4, .int .i64 0, .int .i64 x, .bool false, .string ⟨#[]⟩]] w1 (Ret (.int .i64 c) w1))) : Calls Tryd.prog 15 #[.string s] w (Nay c w) := by
  have hc' : (c == 0) = false := by simpa using hc
  clear hc
  have e1 : IntKind.i64.wrap x = x := IntWalk.i64_in _ (by omega)
  have O1 : Hid (Own5 ((w.alloc (.cells #[.int .i64 0, .int .i64 0, .int .i64 0, .bool false, .string ⟨#[]⟩] 24)).alloc (.cells #[.int .i64 4, .int .i64 0, .int .i64 x, .bool false, .string ⟨#[]⟩] 24)) w.heap.size 0 0 0 false ⟨#[]⟩) := Lib.hid ((own5_new w 0 0 0 false ⟨#[]⟩).keeps ((Keeps.refl _).alloc _))
  have O2 : Hid (Own5 ((w.alloc (.cells #[.int .i64 0, .int .i64 0, .int .i64 0, .bool false, .string ⟨#[]⟩] 24)).alloc (.cells #[.int .i64 4, .int .i64 0, .int .i64 x, .bool false, .string ⟨#[]⟩] 24)) (w.heap.size + 1) 4 0 x false ⟨#[]⟩) := Lib.hid (by
    have := own5_new (w.alloc (.cells #[.int .i64 0, .int .i64 0, .int .i64 0, .bool false, .string ⟨#[]⟩] 24)) 4 0 x false ⟨#[]⟩
    rw [show (w.alloc (.cells #[.int .i64 0, .int .i64 0, .int .i64 0, .bool false, .string ⟨#[]⟩] 24)).heap.size = w.heap.size + 1 by simp] at this
    exact this)
  have KK : Hid (Keeps w ((w.alloc (.cells #[.int .i64 0, .int .i64 0, .int .i64 0, .bool false, .string ⟨#[]⟩] 24)).alloc (.cells #[.int .i64 4, .int .i64 0, .int .i64 x, .bool false, .string ⟨#[]⟩] 24))) := Lib.hid (((Keeps.refl _).alloc _).alloc _)
  have cF : Hid (∀ w1 : World, Calls Tryd.prog 27 #[.int .i64 4] w1 (fun e w' => e = .returned (.tuple #[.int .i64 8, .bool true]) ∧ w' = w1)) := Lib.hid (fun w1 => fixed_any 4 w1 (by decide) (by decide))
  go_enter Tryd.func15, Tryd.ntmps15
  go_wp2_with fail
  refine (cF.out _).mono ?_
  rintro e wx ⟨rfl, rfl⟩
  go_wp2_with fail
  refine (cN.out _).mono ?_
  rintro e wx ⟨rfl, rfl⟩
  go_wp2_with fail
  refine (cC.out _).mono ?_
  rintro e w2 ⟨rfl, hk⟩
  have hR := O1.out.keeps hk
  have hQ := O2.out.keeps hk
  have hBB : Below w.heap.size w w2 := KK.out.trans hk
  clear O1 O2 KK hk cC
  obtain ⟨⟨q0, q1, q2, q3, q4⟩, f0, f1, f2, f3, f4⟩ := hQ
  obtain ⟨⟨r0, r1, r2, r3, r4⟩, e0, e1, e2, e3, e4⟩ := hR
  go_wp2
  obtain ⟨a0, a1, a2, a3, a4⟩ := five_set w2 w.heap.size (.int .i64 0) (.int .i64 0) (.int .i64 0) (.bool false) (.string ⟨#[]⟩) r0 r1 r2 r3 r4
  exact bodyPost_ret (v := .tuple #[.agg #[.int .i64 0, .int .i64 0, .int .i64 0, .bool false, .string ⟨#[]⟩], .int .i64 c]) (by simp [results, Tryd.results15, go_sem, a0, a1, a2, a3, a4]) rfl ⟨rfl, bset5 hBB (Nat.le_refl _) _ _ _ _ _⟩

set_option maxHeartbeats 4000000 in
theorem rr_full5 (s b : ByteArray) (d : Nat) (t : ByteArray) (w : World) (hsz : s.size = b.size + 1) (hb : b.size ≤ 5000) (he : s.toList.isEmpty = false) (h0 : ∀ h : 0 < s.size, (s[0]'h).toNat = 5) (hx : s.extract 1 (b.size + 1) = b) (hlt : 1 ≤ b.size) (h8 : ∀ h : 0 < b.size, (b[0]'h).toNat = d) (hd : d ≤ 255) (ht : b.extract 1 b.size = t) (cC : Hid (∀ w1 : World, Calls Tryd.prog 16 #[.agg #[.int .i64 5, .int .i64 (d : Int), .int .i64 0, .bool false, .string t]] w1 (Ret (.int .i64 0) w1))) : Calls Tryd.prog 15 #[.string s] w (fun e w' => e = .returned (.tuple #[inV 5 (d : Int) 0 false t, .int .i64 0]) ∧ Keeps w w') := by
  have O1 : Hid (Own5 ((w.alloc (.cells #[.int .i64 0, .int .i64 0, .int .i64 0, .bool false, .string ⟨#[]⟩] 24)).alloc (.cells #[.int .i64 5, .int .i64 (d : Int), .int .i64 0, .bool false, .string t] 24)).drew w.heap.size 0 0 0 false ⟨#[]⟩) := Lib.hid ((own5_new w 0 0 0 false ⟨#[]⟩).keeps ((Keeps.refl _).alloc _).drew)
  have O2 : Hid (Own5 ((w.alloc (.cells #[.int .i64 0, .int .i64 0, .int .i64 0, .bool false, .string ⟨#[]⟩] 24)).alloc (.cells #[.int .i64 5, .int .i64 (d : Int), .int .i64 0, .bool false, .string t] 24)).drew (w.heap.size + 1) 5 (d : Int) 0 false t) := Lib.hid (by
    have := own5_new (w.alloc (.cells #[.int .i64 0, .int .i64 0, .int .i64 0, .bool false, .string ⟨#[]⟩] 24)) 5 (d : Int) 0 false t
    rw [show (w.alloc (.cells #[.int .i64 0, .int .i64 0, .int .i64 0, .bool false, .string ⟨#[]⟩] 24)).heap.size = w.heap.size + 1 by simp] at this
    exact this)
  have KK : Hid (Keeps w ((w.alloc (.cells #[.int .i64 0, .int .i64 0, .int .i64 0, .bool false, .string ⟨#[]⟩] 24)).alloc (.cells #[.int .i64 5, .int .i64 (d : Int), .int .i64 0, .bool false, .string t] 24)).drew) := Lib.hid ((((Keeps.refl _).alloc _).alloc _).drew)
  have cF : Hid (∀ w1 : World, Calls Tryd.prog 27 #[.int .i64 5] w1 (fun e w' => e = .returned (.tuple #[.int .i64 1, .bool false]) ∧ w' = w1)) := Lib.hid (fun w1 => fixed_any 5 w1 (by decide) (by decide))
  go_enter Tryd.func15, Tryd.ntmps15
  go_wp2_with fail
  refine (cF.out _).mono ?_
  rintro e wx ⟨rfl, rfl⟩
  go_wp2
  go_region_with (fail)
  all_goals
    go_wp2_with fail
    refine (cC.out _).mono ?_
    rintro e w2 ⟨rfl, hk⟩
    have hR := O1.out.keeps hk
    have hQ := O2.out.keeps hk
    have hBB : Below w.heap.size w w2 := KK.out.trans hk
    clear O1 O2 KK hk cC
    obtain ⟨⟨q0, q1, q2, q3, q4⟩, f0, f1, f2, f3, f4⟩ := hQ
    obtain ⟨⟨r0, r1, r2, r3, r4⟩, e0, e1, e2, e3, e4⟩ := hR
    go_wp2
    obtain ⟨a0, a1, a2, a3, a4⟩ := five_set w2 w.heap.size (.int .i64 5) (.int .i64 (d : Int)) (.int .i64 0) (.bool false) (.string t) r0 r1 r2 r3 r4
    exact bodyPost_ret (v := .tuple #[inV 5 (d : Int) 0 false t, .int .i64 0]) (by simp [results, Tryd.results15, go_sem, inV, a0, a1, a2, a3, a4]) rfl ⟨rfl, bset5 hBB (Nat.le_refl _) _ _ _ _ _⟩

set_option maxHeartbeats 4000000 in
theorem rr_full5n (s b : ByteArray) (d : Nat) (t : ByteArray) (c : Int) (w : World) (hsz : s.size = b.size + 1) (hb : b.size ≤ 5000) (he : s.toList.isEmpty = false) (h0 : ∀ h : 0 < s.size, (s[0]'h).toNat = 5) (hx : s.extract 1 (b.size + 1) = b) (hlt : 1 ≤ b.size) (h8 : ∀ h : 0 < b.size, (b[0]'h).toNat = d) (hd : d ≤ 255) (ht : b.extract 1 b.size = t) (hc : c ≠ 0) (cC : Hid (∀ w1 : World, Calls Tryd.prog 16 #[.agg #[.int .i64 5, .int .i64 (d : Int), .int .i64 0, .bool false, .string t]] w1 (Ret (.int .i64 c) w1))) : Calls Tryd.prog 15 #[.string s] w (Nay c w) := by
  have hc' : (c == 0) = false := by simpa using hc
  clear hc
  have O1 : Hid (Own5 ((w.alloc (.cells #[.int .i64 0, .int .i64 0, .int .i64 0, .bool false, .string ⟨#[]⟩] 24)).alloc (.cells #[.int .i64 5, .int .i64 (d : Int), .int .i64 0, .bool false, .string t] 24)).drew w.heap.size 0 0 0 false ⟨#[]⟩) := Lib.hid ((own5_new w 0 0 0 false ⟨#[]⟩).keeps ((Keeps.refl _).alloc _).drew)
  have O2 : Hid (Own5 ((w.alloc (.cells #[.int .i64 0, .int .i64 0, .int .i64 0, .bool false, .string ⟨#[]⟩] 24)).alloc (.cells #[.int .i64 5, .int .i64 (d : Int), .int .i64 0, .bool false, .string t] 24)).drew (w.heap.size + 1) 5 (d : Int) 0 false t) := Lib.hid (by
    have := own5_new (w.alloc (.cells #[.int .i64 0, .int .i64 0, .int .i64 0, .bool false, .string ⟨#[]⟩] 24)) 5 (d : Int) 0 false t
    rw [show (w.alloc (.cells #[.int .i64 0, .int .i64 0, .int .i64 0, .bool false, .string ⟨#[]⟩] 24)).heap.size = w.heap.size + 1 by simp] at this
    exact this)
  have KK : Hid (Keeps w ((w.alloc (.cells #[.int .i64 0, .int .i64 0, .int .i64 0, .bool false, .string ⟨#[]⟩] 24)).alloc (.cells #[.int .i64 5, .int .i64 (d : Int), .int .i64 0, .bool false, .string t] 24)).drew) := Lib.hid ((((Keeps.refl _).alloc _).alloc _).drew)
  have cF : Hid (∀ w1 : World, Calls Tryd.prog 27 #[.int .i64 5] w1 (fun e w' => e = .returned (.tuple #[.int .i64 1, .bool false]) ∧ w' = w1)) := Lib.hid (fun w1 => fixed_any 5 w1 (by decide) (by decide))
  go_enter Tryd.func15, Tryd.ntmps15
  go_wp2_with fail
  refine (cF.out _).mono ?_
  rintro e wx ⟨rfl, rfl⟩
  go_wp2
  go_region_with (fail)
  all_goals
    go_wp2_with fail
    refine (cC.out _).mono ?_
    rintro e w2 ⟨rfl, hk⟩
    have hR := O1.out.keeps hk
    have hQ := O2.out.keeps hk
    have hBB : Below w.heap.size w w2 := KK.out.trans hk
    clear O1 O2 KK hk cC
    obtain ⟨⟨q0, q1, q2, q3, q4⟩, f0, f1, f2, f3, f4⟩ := hQ
    obtain ⟨⟨r0, r1, r2, r3, r4⟩, e0, e1, e2, e3, e4⟩ := hR
    go_wp2
    obtain ⟨a0, a1, a2, a3, a4⟩ := five_set w2 w.heap.size (.int .i64 0) (.int .i64 0) (.int .i64 0) (.bool false) (.string ⟨#[]⟩) r0 r1 r2 r3 r4
    exact bodyPost_ret (v := .tuple #[.agg #[.int .i64 0, .int .i64 0, .int .i64 0, .bool false, .string ⟨#[]⟩], .int .i64 c]) (by simp [results, Tryd.results15, go_sem, a0, a1, a2, a3, a4]) rfl ⟨rfl, bset5 hBB (Nat.le_refl _) _ _ _ _ _⟩

set_option maxHeartbeats 4000000 in
theorem rr_full6 (s b : ByteArray) (w : World) (hsz : s.size = b.size + 1) (hb : b.size ≤ 5000) (he : s.toList.isEmpty = false) (h0 : ∀ h : 0 < s.size, (s[0]'h).toNat = 6) (hx : s.extract 1 (b.size + 1) = b) (hlt : b.size ≤ 0) (cC : Hid (∀ w1 : World, Calls Tryd.prog 16 #[.agg #[.int .i64 6, .int .i64 0, .int .i64 0, .bool false, .string ⟨#[]⟩]] w1 (Ret (.int .i64 0) w1))) : Calls Tryd.prog 15 #[.string s] w (fun e w' => e = .returned (.tuple #[inV 6 0 0 false ⟨#[]⟩, .int .i64 0]) ∧ Keeps w w') := by
  have O1 : Hid (Own5 ((w.alloc (.cells #[.int .i64 0, .int .i64 0, .int .i64 0, .bool false, .string ⟨#[]⟩] 24)).alloc (.cells #[.int .i64 6, .int .i64 0, .int .i64 0, .bool false, .string ⟨#[]⟩] 24)) w.heap.size 0 0 0 false ⟨#[]⟩) := Lib.hid ((own5_new w 0 0 0 false ⟨#[]⟩).keeps ((Keeps.refl _).alloc _))
  have O2 : Hid (Own5 ((w.alloc (.cells #[.int .i64 0, .int .i64 0, .int .i64 0, .bool false, .string ⟨#[]⟩] 24)).alloc (.cells #[.int .i64 6, .int .i64 0, .int .i64 0, .bool false, .string ⟨#[]⟩] 24)) (w.heap.size + 1) 6 0 0 false ⟨#[]⟩) := Lib.hid (by
    have := own5_new (w.alloc (.cells #[.int .i64 0, .int .i64 0, .int .i64 0, .bool false, .string ⟨#[]⟩] 24)) 6 0 0 false ⟨#[]⟩
    rw [show (w.alloc (.cells #[.int .i64 0, .int .i64 0, .int .i64 0, .bool false, .string ⟨#[]⟩] 24)).heap.size = w.heap.size + 1 by simp] at this
    exact this)
  have KK : Hid (Keeps w ((w.alloc (.cells #[.int .i64 0, .int .i64 0, .int .i64 0, .bool false, .string ⟨#[]⟩] 24)).alloc (.cells #[.int .i64 6, .int .i64 0, .int .i64 0, .bool false, .string ⟨#[]⟩] 24))) := Lib.hid (((Keeps.refl _).alloc _).alloc _)
  have cF : Hid (∀ w1 : World, Calls Tryd.prog 27 #[.int .i64 6] w1 (fun e w' => e = .returned (.tuple #[.int .i64 0, .bool true]) ∧ w' = w1)) := Lib.hid (fun w1 => fixed_any 6 w1 (by decide) (by decide))
  go_enter Tryd.func15, Tryd.ntmps15
  go_wp2_with fail
  refine (cF.out _).mono ?_
  rintro e wx ⟨rfl, rfl⟩
  go_wp2_with fail
  refine (cC.out _).mono ?_
  rintro e w2 ⟨rfl, hk⟩
  have hR := O1.out.keeps hk
  have hQ := O2.out.keeps hk
  have hBB : Below w.heap.size w w2 := KK.out.trans hk
  clear O1 O2 KK hk cC
  obtain ⟨⟨q0, q1, q2, q3, q4⟩, f0, f1, f2, f3, f4⟩ := hQ
  obtain ⟨⟨r0, r1, r2, r3, r4⟩, e0, e1, e2, e3, e4⟩ := hR
  go_wp2
  obtain ⟨a0, a1, a2, a3, a4⟩ := five_set w2 w.heap.size (.int .i64 6) (.int .i64 0) (.int .i64 0) (.bool false) (.string ⟨#[]⟩) r0 r1 r2 r3 r4
  exact bodyPost_ret (v := .tuple #[inV 6 0 0 false ⟨#[]⟩, .int .i64 0]) (by simp [results, Tryd.results15, go_sem, inV, a0, a1, a2, a3, a4]) rfl ⟨rfl, bset5 hBB (Nat.le_refl _) _ _ _ _ _⟩

set_option maxHeartbeats 4000000 in
theorem rr_full6n (s b : ByteArray) (c : Int) (w : World) (hsz : s.size = b.size + 1) (hb : b.size ≤ 5000) (he : s.toList.isEmpty = false) (h0 : ∀ h : 0 < s.size, (s[0]'h).toNat = 6) (hx : s.extract 1 (b.size + 1) = b) (hlt : b.size ≤ 0) (hc : c ≠ 0) (cC : Hid (∀ w1 : World, Calls Tryd.prog 16 #[.agg #[.int .i64 6, .int .i64 0, .int .i64 0, .bool false, .string ⟨#[]⟩]] w1 (Ret (.int .i64 c) w1))) : Calls Tryd.prog 15 #[.string s] w (Nay c w) := by
  have hc' : (c == 0) = false := by simpa using hc
  clear hc
  have O1 : Hid (Own5 ((w.alloc (.cells #[.int .i64 0, .int .i64 0, .int .i64 0, .bool false, .string ⟨#[]⟩] 24)).alloc (.cells #[.int .i64 6, .int .i64 0, .int .i64 0, .bool false, .string ⟨#[]⟩] 24)) w.heap.size 0 0 0 false ⟨#[]⟩) := Lib.hid ((own5_new w 0 0 0 false ⟨#[]⟩).keeps ((Keeps.refl _).alloc _))
  have O2 : Hid (Own5 ((w.alloc (.cells #[.int .i64 0, .int .i64 0, .int .i64 0, .bool false, .string ⟨#[]⟩] 24)).alloc (.cells #[.int .i64 6, .int .i64 0, .int .i64 0, .bool false, .string ⟨#[]⟩] 24)) (w.heap.size + 1) 6 0 0 false ⟨#[]⟩) := Lib.hid (by
    have := own5_new (w.alloc (.cells #[.int .i64 0, .int .i64 0, .int .i64 0, .bool false, .string ⟨#[]⟩] 24)) 6 0 0 false ⟨#[]⟩
    rw [show (w.alloc (.cells #[.int .i64 0, .int .i64 0, .int .i64 0, .bool false, .string ⟨#[]⟩] 24)).heap.size = w.heap.size + 1 by simp] at this
    exact this)
  have KK : Hid (Keeps w ((w.alloc (.cells #[.int .i64 0, .int .i64 0, .int .i64 0, .bool false, .string ⟨#[]⟩] 24)).alloc (.cells #[.int .i64 6, .int .i64 0, .int .i64 0, .bool false, .string ⟨#[]⟩] 24))) := Lib.hid (((Keeps.refl _).alloc _).alloc _)
  have cF : Hid (∀ w1 : World, Calls Tryd.prog 27 #[.int .i64 6] w1 (fun e w' => e = .returned (.tuple #[.int .i64 0, .bool true]) ∧ w' = w1)) := Lib.hid (fun w1 => fixed_any 6 w1 (by decide) (by decide))
  go_enter Tryd.func15, Tryd.ntmps15
  go_wp2_with fail
  refine (cF.out _).mono ?_
  rintro e wx ⟨rfl, rfl⟩
  go_wp2_with fail
  refine (cC.out _).mono ?_
  rintro e w2 ⟨rfl, hk⟩
  have hR := O1.out.keeps hk
  have hQ := O2.out.keeps hk
  have hBB : Below w.heap.size w w2 := KK.out.trans hk
  clear O1 O2 KK hk cC
  obtain ⟨⟨q0, q1, q2, q3, q4⟩, f0, f1, f2, f3, f4⟩ := hQ
  obtain ⟨⟨r0, r1, r2, r3, r4⟩, e0, e1, e2, e3, e4⟩ := hR
  go_wp2
  obtain ⟨a0, a1, a2, a3, a4⟩ := five_set w2 w.heap.size (.int .i64 0) (.int .i64 0) (.int .i64 0) (.bool false) (.string ⟨#[]⟩) r0 r1 r2 r3 r4
  exact bodyPost_ret (v := .tuple #[.agg #[.int .i64 0, .int .i64 0, .int .i64 0, .bool false, .string ⟨#[]⟩], .int .i64 c]) (by simp [results, Tryd.results15, go_sem, a0, a1, a2, a3, a4]) rfl ⟨rfl, bset5 hBB (Nat.le_refl _) _ _ _ _ _⟩
end Go.Proofs.YtepbbdeolplhfaaDoor
