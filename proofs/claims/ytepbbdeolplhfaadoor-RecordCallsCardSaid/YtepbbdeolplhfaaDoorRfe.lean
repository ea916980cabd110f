/-
  The document's own Bytes of records.
-/
import Derived.Test.YtepbbdeolplhfaaDoorRfa
import Derived.Test.YtepbbdeolplhfaaDoorRfd
namespace Go.Proofs.YtepbbdeolplhfaaDoor
open Go.RowKit

theorem InCells.keeps {w w' : World} {g : Nat} {k code n : Int} {ok : Bool} {text : ByteArray} (h : InCells w g k code n ok text) (hb : Keeps w w') : InCells w' g k code n ok text :=
  ⟨hb.cell h.1, hb.cell h.2.1, hb.cell h.2.2.1, hb.cell h.2.2.2.1, hb.cell h.2.2.2.2⟩
theorem conv_one (w : World) (x : Int) (c : UInt8) (h : x = (c.toNat : Int)) : (convert 50 9 (.slice (some ⟨w.heap.size, 0, none⟩) 1 1)).run Tryd.prog (w.alloc (.cells #[.int .u8 x] 5)) = .ok (.string (S [c])) (w.alloc (.cells #[.int .u8 x] 5)) := by
  refine conv_back _ w.heap.size 1 1 [c] rfl ?_
  intro j hj
  have hh := heap_alloc_new w (.cells #[.int .u8 x] 5)
  have : j = 0 := by simpa using hj
  subst this
  refine ⟨?_, Lib.frozen_of_heap hh 0⟩
  rw [Lib.cell_of_heap hh, h]; rfl

set_option maxHeartbeats 2000000 in
theorem rbytes_bad (k code n : Int) (ok : Bool) (text : ByteArray) (w : World) (ht : text.size ≤ maxLen) (hc : chk k code n ok text.size ≠ 0) :
    Calls Tryd.prog 14 #[inV k code n ok text] w (fun e w' => e = .returned (.tuple #[.string ⟨#[]⟩, .int .i64 (chk k code n ok text.size)]) ∧ Keeps w w') := by
  have cC := Lib.hid (fun w1 => rcheck_any k code n ok text w1 ht)
  generalize chk k code n ok text.size = c at cC hc ⊢
  unfold inV at cC ⊢
  have hc' : (c == 0) = false := by simpa using hc
  go_enter Tryd.func14, Tryd.ntmps14
  go_wp2_with fail
  refine (cC.out _).mono ?_
  rintro e w2 ⟨rfl, h⟩
  have K2 := Lib.hid (((Keeps.refl w).alloc _).trans h)
  clear h
  go_wp2
  go_ret2
  exact ⟨rfl, K2.out⟩

set_option maxHeartbeats 4000000 in
theorem rbytes1 (code n : Int) (ok : Bool) (text : ByteArray) (m : Nat) (c : UInt8) (w : World) (ht : text.size ≤ 5000) (hc : chk 1 code n ok text.size = 0) (hn : n = (m : Int)) (hm : m ≤ 1152921504606846976) :
    Calls Tryd.prog 14 #[inV 1 code n ok text] w (fun e w' => e = .returned (.tuple #[.string (S (recL 1 code n ok text.data.toList)), .int .i64 0]) ∧ Keeps w w') := by
  have cC := Lib.hid (fun w1 => rcheck_any 1 code n ok text w1 (by unfold maxLen; omega))
  rw [hc] at cC
  have cB := Lib.hid (fun w1 => big_any m w1 (by omega))
  have hz : (S (be8 (m : Int))).size = 8 := rfl
  subst hn
  have e1 : IntKind.u64.wrap (m : Int) = (m : Int) := IntWalk.u64_in _ (by omega)
  have hz1 : (S [1]).size = 1 := rfl
  have HE : Hid (S [1] ++ text = S (recL 1 code (m : Int) ok text.data.toList)) := Lib.hid (by show S [1] ++ S text.data.toList = _; rw [S_app]; rfl)
  have X0 := Lib.hid (inCells_new w 1 code (m : Int) ok text)
  generalize S (recL 1 code (m : Int) ok text.data.toList) = r at HE ⊢
  generalize S (be8 (m : Int)) = b8 at cB hz
  have hcv1 := Lib.hid (fun w1 => conv_one w1 1 1 rfl)
  generalize S [1] = o1 at hz1 HE hcv1
  unfold inV at cC ⊢
  clear hc
  go_enter Tryd.func14, Tryd.ntmps14
  go_wp2_with fail
  refine (cC.out _).mono ?_
  rintro e w2 ⟨rfl, h⟩
  have K2 := Lib.hid (((Keeps.refl w).alloc _).trans h)
  have X2 := Lib.hid ((X0.out.keeps h).keeps (Keeps.alloc (Keeps.refl w2) (.cells #[.int .u8 1] 5)))
  obtain ⟨y0, y1, y2, y3, y4⟩ := X0.out.keeps h
  obtain ⟨x0, x1, x2, x3, x4⟩ := X2.out
  have hcv := hcv1.out w2
  clear h
  go_wp2_with fail
  refine (cB.out _).mono ?_
  rintro e w3 ⟨rfl, h⟩
  have K3 := Lib.hid ((K2.out.alloc _).trans h)
  have X3 := Lib.hid (X2.out.keeps h)
  clear h x0 x1 x2 x3 x4 y0 y1 y2 y3 y4 hcv
  obtain ⟨x0, x1, x2, x3, x4⟩ := X3.out
  go_wp2
  go_ret2
  exact ⟨by rw [← HE.out]; first | rfl | simp, K3.out⟩

set_option maxHeartbeats 4000000 in
theorem rbytes2 (code n : Int) (ok : Bool) (text : ByteArray) (m : Nat) (c : UInt8) (w : World) (ht : text.size ≤ 5000) (hc : chk 2 code n ok text.size = 0) (hn : n = (m : Int)) (hm : m ≤ 1152921504606846976) :
    Calls Tryd.prog 14 #[inV 2 code n ok text] w (fun e w' => e = .returned (.tuple #[.string (S (recL 2 code n ok text.data.toList)), .int .i64 0]) ∧ Keeps w w') := by
  have cC := Lib.hid (fun w1 => rcheck_any 2 code n ok text w1 (by unfold maxLen; omega))
  rw [hc] at cC
  have cB := Lib.hid (fun w1 => big_any m w1 (by omega))
  have hz : (S (be8 (m : Int))).size = 8 := rfl
  subst hn
  have e1 : IntKind.u64.wrap (m : Int) = (m : Int) := IntWalk.u64_in _ (by omega)
  have hz1 : (S [2]).size = 1 := rfl
  have HE : Hid (S [2] ++ S (be8 (m : Int)) = S (recL 2 code (m : Int) ok text.data.toList)) := Lib.hid (by rw [S_app]; rfl)
  have X0 := Lib.hid (inCells_new w 2 code (m : Int) ok text)
  generalize S (recL 2 code (m : Int) ok text.data.toList) = r at HE ⊢
  generalize S (be8 (m : Int)) = b8 at cB hz HE
  have hcv1 := Lib.hid (fun w1 => conv_one w1 2 2 rfl)
  generalize S [2] = o1 at hz1 HE hcv1
  unfold inV at cC ⊢
  clear hc
  go_enter Tryd.func14, Tryd.ntmps14
  go_wp2_with fail
  refine (cC.out _).mono ?_
  rintro e w2 ⟨rfl, h⟩
  have K2 := Lib.hid (((Keeps.refl w).alloc _).trans h)
  have X2 := Lib.hid ((X0.out.keeps h).keeps (Keeps.alloc (Keeps.refl w2) (.cells #[.int .u8 2] 5)))
  obtain ⟨y0, y1, y2, y3, y4⟩ := X0.out.keeps h
  obtain ⟨x0, x1, x2, x3, x4⟩ := X2.out
  have hcv := hcv1.out w2
  clear h
  go_wp2_with fail
  refine (cB.out _).mono ?_
  rintro e w3 ⟨rfl, h⟩
  have K3 := Lib.hid ((K2.out.alloc _).trans h)
  have X3 := Lib.hid (X2.out.keeps h)
  clear h x0 x1 x2 x3 x4 y0 y1 y2 y3 y4 hcv
  obtain ⟨x0, x1, x2, x3, x4⟩ := X3.out
  go_wp2
  go_ret2
  exact ⟨by rw [← HE.out]; first | rfl | simp, K3.out⟩

set_option maxHeartbeats 4000000 in
theorem rbytes3 (code n : Int) (ok : Bool) (text : ByteArray) (m : Nat) (c : UInt8) (w : World) (ht : text.size ≤ 5000) (hc : chk 3 code n ok text.size = 0) (hn : n = (m : Int)) (hm : m ≤ 1152921504606846976) :
    Calls Tryd.prog 14 #[inV 3 code n ok text] w (fun e w' => e = .returned (.tuple #[.string (S (recL 3 code n ok text.data.toList)), .int .i64 0]) ∧ Keeps w w') := by
  have cC := Lib.hid (fun w1 => rcheck_any 3 code n ok text w1 (by unfold maxLen; omega))
  rw [hc] at cC
  have cB := Lib.hid (fun w1 => big_any m w1 (by omega))
  have hz : (S (be8 (m : Int))).size = 8 := rfl
  subst hn
  have e1 : IntKind.u64.wrap (m : Int) = (m : Int) := IntWalk.u64_in _ (by omega)
  have hz1 : (S [3]).size = 1 := rfl
  have z1 : (⟨#[1]⟩ : ByteArray).size = 1 := rfl
  have z0 : (⟨#[0]⟩ : ByteArray).size = 1 := rfl
  have HE : Hid (S [3] ++ S (be8 (m : Int)) ++ (if ok = true then (⟨#[1]⟩ : ByteArray) else ⟨#[0]⟩) = S (recL 3 code (m : Int) ok text.data.toList)) := Lib.hid (by
    cases ok
    · show S [3] ++ S (be8 (m : Int)) ++ S [0] = _; rw [S_app, S_app]; rfl
    · show S [3] ++ S (be8 (m : Int)) ++ S [1] = _; rw [S_app, S_app]; rfl)
  have X0 := Lib.hid (inCells_new w 3 code (m : Int) ok text)
  generalize S (recL 3 code (m : Int) ok text.data.toList) = r at HE ⊢
  generalize S (be8 (m : Int)) = b8 at cB hz HE
  have hcv1 := Lib.hid (fun w1 => conv_one w1 3 3 rfl)
  generalize S [3] = o1 at hz1 HE hcv1
  unfold inV at cC ⊢
  clear hc
  cases ok
  all_goals
    go_enter Tryd.func14, Tryd.ntmps14
    go_wp2_with fail
    refine (cC.out _).mono ?_
    rintro e w2 ⟨rfl, h⟩
    have K2 := Lib.hid (((Keeps.refl w).alloc _).trans h)
    have X2 := Lib.hid ((X0.out.keeps h).keeps (Keeps.alloc (Keeps.refl w2) (.cells #[.int .u8 3] 5)))
    obtain ⟨y0, y1, y2, y3, y4⟩ := X0.out.keeps h
    obtain ⟨x0, x1, x2, x3, x4⟩ := X2.out
    have hcv := hcv1.out w2
    clear h
    go_wp2_with fail
    refine (cB.out _).mono ?_
    rintro e w3 ⟨rfl, h⟩
    have K3 := Lib.hid ((K2.out.alloc _).trans h)
    have X3 := Lib.hid (X2.out.keeps h)
    clear h x0 x1 x2 x3 x4 y0 y1 y2 y3 y4 hcv
    obtain ⟨x0, x1, x2, x3, x4⟩ := X3.out
    go_wp2
    go_ret2
    exact ⟨by rw [← HE.out]; first | rfl | simp, K3.out⟩

set_option maxHeartbeats 4000000 in
theorem rbytes4 (code n : Int) (ok : Bool) (text : ByteArray) (m : Nat) (c : UInt8) (w : World) (ht : text.size ≤ 5000) (hc : chk 4 code n ok text.size = 0) (hn : n = (m : Int)) (hm : m ≤ 1152921504606846976) :
    Calls Tryd.prog 14 #[inV 4 code n ok text] w (fun e w' => e = .returned (.tuple #[.string (S (recL 4 code n ok text.data.toList)), .int .i64 0]) ∧ Keeps w w') := by
  have cC := Lib.hid (fun w1 => rcheck_any 4 code n ok text w1 (by unfold maxLen; omega))
  rw [hc] at cC
  have cB := Lib.hid (fun w1 => big_any m w1 (by omega))
  have hz : (S (be8 (m : Int))).size = 8 := rfl
  subst hn
  have e1 : IntKind.u64.wrap (m : Int) = (m : Int) := IntWalk.u64_in _ (by omega)
  have hz1 : (S [4]).size = 1 := rfl
  have HE : Hid (S [4] ++ S (be8 (m : Int)) = S (recL 4 code (m : Int) ok text.data.toList)) := Lib.hid (by rw [S_app]; rfl)
  have X0 := Lib.hid (inCells_new w 4 code (m : Int) ok text)
  generalize S (recL 4 code (m : Int) ok text.data.toList) = r at HE ⊢
  generalize S (be8 (m : Int)) = b8 at cB hz HE
  have hcv1 := Lib.hid (fun w1 => conv_one w1 4 4 rfl)
  generalize S [4] = o1 at hz1 HE hcv1
  unfold inV at cC ⊢
  clear hc
  go_enter Tryd.func14, Tryd.ntmps14
  go_wp2_with fail
  refine (cC.out _).mono ?_
  rintro e w2 ⟨rfl, h⟩
  have K2 := Lib.hid (((Keeps.refl w).alloc _).trans h)
  have X2 := Lib.hid ((X0.out.keeps h).keeps (Keeps.alloc (Keeps.refl w2) (.cells #[.int .u8 4] 5)))
  obtain ⟨y0, y1, y2, y3, y4⟩ := X0.out.keeps h
  obtain ⟨x0, x1, x2, x3, x4⟩ := X2.out
  have hcv := hcv1.out w2
  clear h
  go_wp2_with fail
  refine (cB.out _).mono ?_
  rintro e w3 ⟨rfl, h⟩
  have K3 := Lib.hid ((K2.out.alloc _).trans h)
  have X3 := Lib.hid (X2.out.keeps h)
  clear h x0 x1 x2 x3 x4 y0 y1 y2 y3 y4 hcv
  obtain ⟨x0, x1, x2, x3, x4⟩ := X3.out
  go_wp2
  go_ret2
  exact ⟨by rw [← HE.out]; first | rfl | simp, K3.out⟩

set_option maxHeartbeats 4000000 in
theorem rbytes5 (code n : Int) (ok : Bool) (text : ByteArray) (m : Nat) (c : UInt8) (w : World) (ht : text.size ≤ 5000) (hc : chk 5 code n ok text.size = 0) (hn : n = (m : Int)) (hm : m ≤ 1152921504606846976) (h0 : 0 ≤ code) (h1 : code ≤ 255) (hcc : code = (c.toNat : Int)) :
    Calls Tryd.prog 14 #[inV 5 code n ok text] w (fun e w' => e = .returned (.tuple #[.string (S (recL 5 code n ok text.data.toList)), .int .i64 0]) ∧ Keeps w w') := by
  have cC := Lib.hid (fun w1 => rcheck_any 5 code n ok text w1 (by unfold maxLen; omega))
  rw [hc] at cC
  have cB := Lib.hid (fun w1 => big_any m w1 (by omega))
  have hz : (S (be8 (m : Int))).size = 8 := rfl
  subst hn
  have e1 : IntKind.u64.wrap (m : Int) = (m : Int) := IntWalk.u64_in _ (by omega)
  have hz1 : (S [5]).size = 1 := rfl
  have e2 : IntKind.u8.wrap code = code := IntWalk.u8_in _ (by omega)
  have hz2 : (S [c]).size = 1 := rfl
  have HE : Hid (S [5] ++ S [c] ++ text = S (recL 5 code (m : Int) ok text.data.toList)) := Lib.hid (by
    have ec : UInt8.ofNat code.toNat = c := by rw [hcc]; simp
    show S [5] ++ S [c] ++ S text.data.toList = _; rw [S_app, S_app]; unfold recL; rw [ec]; rfl)
  have HC := Lib.hid hcc
  clear hcc
  have X0 := Lib.hid (inCells_new w 5 code (m : Int) ok text)
  generalize S (recL 5 code (m : Int) ok text.data.toList) = r at HE ⊢
  generalize S (be8 (m : Int)) = b8 at cB hz
  have hcv1 := Lib.hid (fun w1 => conv_one w1 5 5 rfl)
  generalize S [5] = o1 at hz1 HE hcv1
  have hcv2 := Lib.hid (fun w1 => conv_one w1 code c HC.out)
  generalize S [c] = o2 at hz2 HE hcv2
  unfold inV at cC ⊢
  clear hc
  go_enter Tryd.func14, Tryd.ntmps14
  go_wp2_with fail
  refine (cC.out _).mono ?_
  rintro e w2 ⟨rfl, h⟩
  have K2 := Lib.hid (((Keeps.refl w).alloc _).trans h)
  have X2 := Lib.hid ((X0.out.keeps h).keeps (Keeps.alloc (Keeps.refl w2) (.cells #[.int .u8 5] 5)))
  obtain ⟨y0, y1, y2, y3, y4⟩ := X0.out.keeps h
  obtain ⟨x0, x1, x2, x3, x4⟩ := X2.out
  have hcv := hcv1.out w2
  clear h
  go_wp2_with fail
  refine (cB.out _).mono ?_
  rintro e w3 ⟨rfl, h⟩
  have K3 := Lib.hid ((K2.out.alloc _).trans h)
  have X3 := Lib.hid (X2.out.keeps h)
  clear h x0 x1 x2 x3 x4 y0 y1 y2 y3 y4 hcv
  obtain ⟨x0, x1, x2, x3, x4⟩ := X3.out
  have hcv := hcv2.out w3
  have X4 := Lib.hid (X3.out.keeps (Keeps.alloc (Keeps.refl w3) (.cells #[.int .u8 code] 5)))
  obtain ⟨y0, y1, y2, y3, y4⟩ := X4.out
  go_wp2
  go_ret2
  exact ⟨by rw [← HE.out]; first | rfl | simp, (K3.out.alloc _)⟩

set_option maxHeartbeats 4000000 in
theorem rbytes6 (code n : Int) (ok : Bool) (text : ByteArray) (m : Nat) (c : UInt8) (w : World) (ht : text.size ≤ 5000) (hc : chk 6 code n ok text.size = 0) (hn : n = (m : Int)) (hm : m ≤ 1152921504606846976) :
    Calls Tryd.prog 14 #[inV 6 code n ok text] w (fun e w' => e = .returned (.tuple #[.string (S (recL 6 code n ok text.data.toList)), .int .i64 0]) ∧ Keeps w w') := by
  have cC := Lib.hid (fun w1 => rcheck_any 6 code n ok text w1 (by unfold maxLen; omega))
  rw [hc] at cC
  have cB := Lib.hid (fun w1 => big_any m w1 (by omega))
  have hz : (S (be8 (m : Int))).size = 8 := rfl
  subst hn
  have e1 : IntKind.u64.wrap (m : Int) = (m : Int) := IntWalk.u64_in _ (by omega)
  have hz1 : (S [6]).size = 1 := rfl
  have HE : Hid (S [6] = S (recL 6 code (m : Int) ok text.data.toList)) := Lib.hid rfl
  have X0 := Lib.hid (inCells_new w 6 code (m : Int) ok text)
  generalize S (recL 6 code (m : Int) ok text.data.toList) = r at HE ⊢
  generalize S (be8 (m : Int)) = b8 at cB hz
  have hcv1 := Lib.hid (fun w1 => conv_one w1 6 6 rfl)
  generalize S [6] = o1 at hz1 HE hcv1
  unfold inV at cC ⊢
  clear hc
  go_enter Tryd.func14, Tryd.ntmps14
  go_wp2_with fail
  refine (cC.out _).mono ?_
  rintro e w2 ⟨rfl, h⟩
  have K2 := Lib.hid (((Keeps.refl w).alloc _).trans h)
  have X2 := Lib.hid ((X0.out.keeps h).keeps (Keeps.alloc (Keeps.refl w2) (.cells #[.int .u8 6] 5)))
  obtain ⟨y0, y1, y2, y3, y4⟩ := X0.out.keeps h
  obtain ⟨x0, x1, x2, x3, x4⟩ := X2.out
  have hcv := hcv1.out w2
  clear h
  go_wp2_with fail
  refine (cB.out _).mono ?_
  rintro e w3 ⟨rfl, h⟩
  have K3 := Lib.hid ((K2.out.alloc _).trans h)
  have X3 := Lib.hid (X2.out.keeps h)
  clear h x0 x1 x2 x3 x4 y0 y1 y2 y3 y4 hcv
  obtain ⟨x0, x1, x2, x3, x4⟩ := X3.out
  go_wp2
  go_ret2
  exact ⟨by rw [← HE.out]; first | rfl | simp, K3.out⟩

theorem rbytes_good (k code n : Int) (ok : Bool) (text : ByteArray) (w : World) (hs : text.size ≤ 5000) (hc : chk k code n ok text.size = 0) :
    Calls Tryd.prog 14 #[inV k code n ok text] w (fun e w' => e = .returned (.tuple #[.string (S (recL k code n ok text.data.toList)), .int .i64 0]) ∧ Keeps w w') := by
  have hc0 := hc
  unfold chk at hc0
  by_cases h1 : k = 1
  · subst h1
    rw [if_pos rfl] at hc0
    split at hc0
    · cases hc0
    · exact rbytes1 code n ok text n.toNat 0 w hs hc (by omega) (by omega)
  · rw [if_neg h1] at hc0
    by_cases h2 : k = 2
    · subst h2
      rw [if_pos rfl] at hc0
      split at hc0
      · cases hc0
      · exact rbytes2 code n ok text n.toNat 0 w hs hc (by omega) (by omega)
    · rw [if_neg h2] at hc0
      by_cases h3 : k = 3
      · subst h3
        rw [if_pos rfl] at hc0
        split at hc0
        · cases hc0
        · exact rbytes3 code n ok text n.toNat 0 w hs hc (by omega) (by omega)
      · rw [if_neg h3] at hc0
        by_cases h4 : k = 4
        · subst h4
          rw [if_pos rfl] at hc0
          split at hc0
          · cases hc0
          · exact rbytes4 code n ok text n.toNat 0 w hs hc (by omega) (by omega)
        · rw [if_neg h4] at hc0
          by_cases h5 : k = 5
          · subst h5
            rw [if_pos rfl] at hc0
            split at hc0
            · cases hc0
            · exact rbytes5 code n ok text n.toNat (UInt8.ofNat code.toNat) w hs hc (by omega) (by omega) (by omega) (by omega) (by
                have : code.toNat < 256 := by omega
                simp; omega)
          · rw [if_neg h5] at hc0
            by_cases h6 : k = 6
            · subst h6
              rw [if_pos rfl] at hc0
              split at hc0
              · cases hc0
              · exact rbytes6 code n ok text n.toNat 0 w hs hc (by omega) (by omega)
            · rw [if_neg h6] at hc0; cases hc0
end Go.Proofs.YtepbbdeolplhfaaDoor
