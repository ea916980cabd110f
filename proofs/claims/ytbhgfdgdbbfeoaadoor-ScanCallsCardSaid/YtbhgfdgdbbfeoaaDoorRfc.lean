/-
  The document's own encoded and told.
-/
import Derived.Test.YtbhgfdgdbbfeoaaDoorRfb
import Derived.BigRegion
namespace Go.Proofs.YtbhgfdgdbbfeoaaDoor
open Go.RowKit

def zcells (zs : List Int) : Array Value := (zs.map (Value.int .u8)).toArray
theorem convG (B : Nat) (W : World) (zs : List Int) (l : List UInt8) (h : zs = l.map (fun c => (c.toNat : Int))) (hW : W.heap[B]? = some (.cells (zcells zs) 5 (0, 0))) :
    (convert 44 9 (.slice (some ⟨B, 0, none⟩) l.length l.length)).run Tryd.prog W = .ok (.string (S l)) W := by
  refine run_convert_bytes_back (P := Tryd.prog) _ 44 9 5 ⟨B, 0, none⟩ l.length l Tryd.underlying44 Tryd.underlying5 Tryd.underlying9 ?_
  intro j hj
  have ea : (⟨B, 0, none⟩ : Addr).add j = ⟨B, j, none⟩ := by
    unfold Addr.add; split <;> simp_all
  rw [ea, Lib.cell_of_heap hW, h]
  simp [zcells, hj]

theorem heap_two (w : World) (o o2 : Obj) : ((w.alloc o).alloc o2).heap[w.heap.size + 1]? = some o2 := by
  have e : (w.alloc o).heap.size = w.heap.size + 1 := by simp
  rw [← e]; exact heap_alloc_new _ _
theorem rs_of {l : List UInt8} {s : ByteArray} {w w' : World} (h : s = S l) (k : Keeps w w') : Ending.returned (.string s) = .returned (.string (S l)) ∧ Keeps w w' := ⟨by rw [h], k⟩

set_option maxHeartbeats 4000000 in
set_option maxRecDepth 100000 in
theorem encd_one (r : Nat) (w : World) (h : r ≤ 127) : Calls Tryd.prog 49 #[.int .i64 (r : Int)] w (fun e w' => e = .returned (.string (S (Lib.encodeRune (r : Int)))) ∧ Keeps w w') := by
  rw [enc_one h]
  have hcv := convG w.heap.size (w.alloc (.cells #[.int .u8 ((r : Int))] 5)) [(r : Int)] [r.toUInt8] (by simp only [List.map_cons, List.map_nil]; rw [u8n (by omega)]) (heap_alloc_new w _)
  simp only [List.length_cons, List.length_nil, Nat.zero_add] at hcv
  generalize S [r.toUInt8] = R at hcv ⊢
  have f0 : decide ((r : Int) < 128) = true := by simp; omega
  have g0 : IntKind.u8.wrap ((r : Int)) = (r : Int) := IntWalk.u8_in _ (by omega)
  have b0 : (0 : Int) ≤ (r : Int) := by omega
  have b1 : (r : Int) ≤ 1114111 := by omega
  clear h
  go_enter Tryd.func49, Tryd.ntmps49
  go_wp2
  go_ret
  exact rs_of rfl ((Keeps.refl _).alloc _)
set_option maxHeartbeats 4000000 in
set_option maxRecDepth 100000 in
theorem encd_two (r : Nat) (w : World) (h : 128 ≤ r ∧ r ≤ 2047) : Calls Tryd.prog 49 #[.int .i64 (r : Int)] w (fun e w' => e = .returned (.string (S (Lib.encodeRune (r : Int)))) ∧ Keeps w w') := by
  rw [enc_two h.1 h.2]
  have hcv := convG w.heap.size (w.alloc (.cells #[.int .u8 (192 + (r : Int) / 64), .int .u8 (128 + (r : Int) % 64)] 5)) [192 + (r : Int) / 64, 128 + (r : Int) % 64] [(192 + r / 64).toUInt8, (128 + r % 64).toUInt8] (by simp only [List.map_cons, List.map_nil]; rw [u8n (n := (192 + r / 64)) (by omega), u8n (n := (128 + r % 64)) (by omega)]; first | rfl | (simp only [List.cons.injEq, and_true]; omega)) (heap_alloc_new w _)
  simp only [List.length_cons, List.length_nil, Nat.zero_add] at hcv
  generalize S [(192 + r / 64).toUInt8, (128 + r % 64).toUInt8] = R at hcv ⊢
  have f0 : decide ((r : Int) < 128) = false := by simp; omega
  have f1 : decide ((r : Int) < 2048) = true := by simp; omega
  have g0 : IntKind.u8.wrap (192 + (r : Int) / 64) = 192 + (r : Int) / 64 := IntWalk.u8_in _ (by omega)
  have g1 : IntKind.u8.wrap (128 + (r : Int) % 64) = 128 + (r : Int) % 64 := IntWalk.u8_in _ (by omega)
  have b0 : (0 : Int) ≤ (r : Int) := by omega
  have b1 : (r : Int) ≤ 1114111 := by omega
  clear h
  go_enter Tryd.func49, Tryd.ntmps49
  go_wp2
  go_ret
  exact rs_of rfl ((Keeps.refl _).alloc _)
set_option maxHeartbeats 4000000 in
set_option maxRecDepth 100000 in
theorem encd_three (r : Nat) (w : World) (h : (2048 ≤ r ∧ r < 55296) ∨ (57343 < r ∧ r ≤ 65535)) : Calls Tryd.prog 49 #[.int .i64 (r : Int)] w (fun e w' => e = .returned (.string (S (Lib.encodeRune (r : Int)))) ∧ Keeps w w') := by
  rw [enc_three h]
  have hcv := convG w.heap.size (w.alloc (.cells #[.int .u8 (224 + (r : Int) / 4096), .int .u8 (128 + (r : Int) / 64 % 64), .int .u8 (128 + (r : Int) % 64)] 5)) [224 + (r : Int) / 4096, 128 + (r : Int) / 64 % 64, 128 + (r : Int) % 64] [(224 + r / 4096).toUInt8, (128 + r / 64 % 64).toUInt8, (128 + r % 64).toUInt8] (by simp only [List.map_cons, List.map_nil]; rw [u8n (n := (224 + r / 4096)) (by omega), u8n (n := (128 + r / 64 % 64)) (by omega), u8n (n := (128 + r % 64)) (by omega)]; first | rfl | (simp only [List.cons.injEq, and_true]; omega)) (heap_alloc_new w _)
  simp only [List.length_cons, List.length_nil, Nat.zero_add] at hcv
  generalize S [(224 + r / 4096).toUInt8, (128 + r / 64 % 64).toUInt8, (128 + r % 64).toUInt8] = R at hcv ⊢
  have f0 : decide ((r : Int) < 128) = false := by simp; omega
  have f1 : decide ((r : Int) < 2048) = false := by simp; omega
  have f2 : decide ((r : Int) < 65536) = true := by simp; omega
  have g0 : IntKind.u8.wrap (224 + (r : Int) / 4096) = 224 + (r : Int) / 4096 := IntWalk.u8_in _ (by omega)
  have g1 : IntKind.u8.wrap (128 + (r : Int) / 64 % 64) = 128 + (r : Int) / 64 % 64 := IntWalk.u8_in _ (by omega)
  have g2 : IntKind.u8.wrap (128 + (r : Int) % 64) = 128 + (r : Int) % 64 := IntWalk.u8_in _ (by omega)
  have b0 : (0 : Int) ≤ (r : Int) := by omega
  have b1 : (r : Int) ≤ 1114111 := by omega
  clear h
  go_enter Tryd.func49, Tryd.ntmps49
  go_wp2
  go_ret
  exact rs_of rfl ((Keeps.refl _).alloc _)
set_option maxHeartbeats 4000000 in
set_option maxRecDepth 100000 in
theorem encd_four (r : Nat) (w : World) (h : 65536 ≤ r ∧ r ≤ 1114111) : Calls Tryd.prog 49 #[.int .i64 (r : Int)] w (fun e w' => e = .returned (.string (S (Lib.encodeRune (r : Int)))) ∧ Keeps w w') := by
  rw [enc_four h.1 h.2]
  have hcv := convG w.heap.size (w.alloc (.cells #[.int .u8 (240 + (r : Int) / 262144), .int .u8 (128 + (r : Int) / 4096 % 64), .int .u8 (128 + (r : Int) / 64 % 64), .int .u8 (128 + (r : Int) % 64)] 5)) [240 + (r : Int) / 262144, 128 + (r : Int) / 4096 % 64, 128 + (r : Int) / 64 % 64, 128 + (r : Int) % 64] [(240 + r / 262144).toUInt8, (128 + r / 4096 % 64).toUInt8, (128 + r / 64 % 64).toUInt8, (128 + r % 64).toUInt8] (by simp only [List.map_cons, List.map_nil]; rw [u8n (n := (240 + r / 262144)) (by omega), u8n (n := (128 + r / 4096 % 64)) (by omega), u8n (n := (128 + r / 64 % 64)) (by omega), u8n (n := (128 + r % 64)) (by omega)]; first | rfl | (simp only [List.cons.injEq, and_true]; omega)) (heap_alloc_new w _)
  simp only [List.length_cons, List.length_nil, Nat.zero_add] at hcv
  generalize S [(240 + r / 262144).toUInt8, (128 + r / 4096 % 64).toUInt8, (128 + r / 64 % 64).toUInt8, (128 + r % 64).toUInt8] = R at hcv ⊢
  have f0 : decide ((r : Int) < 128) = false := by simp; omega
  have f1 : decide ((r : Int) < 2048) = false := by simp; omega
  have f2 : decide ((r : Int) < 65536) = false := by simp; omega
  have g0 : IntKind.u8.wrap (240 + (r : Int) / 262144) = 240 + (r : Int) / 262144 := IntWalk.u8_in _ (by omega)
  have g1 : IntKind.u8.wrap (128 + (r : Int) / 4096 % 64) = 128 + (r : Int) / 4096 % 64 := IntWalk.u8_in _ (by omega)
  have g2 : IntKind.u8.wrap (128 + (r : Int) / 64 % 64) = 128 + (r : Int) / 64 % 64 := IntWalk.u8_in _ (by omega)
  have g3 : IntKind.u8.wrap (128 + (r : Int) % 64) = 128 + (r : Int) % 64 := IntWalk.u8_in _ (by omega)
  have b0 : (0 : Int) ≤ (r : Int) := by omega
  have b1 : (r : Int) ≤ 1114111 := by omega
  clear h
  go_enter Tryd.func49, Tryd.ntmps49
  go_wp2
  go_ret
  exact rs_of rfl ((Keeps.refl _).alloc _)
theorem encd_any (r : Nat) (w : World) (h : scalar r) : Calls Tryd.prog 49 #[.int .i64 (r : Int)] w (fun e w' => e = .returned (.string (S (Lib.encodeRune (r : Int)))) ∧ Keeps w w') := by
  unfold scalar at h
  by_cases h1 : r ≤ 127
  · exact encd_one r w h1
  by_cases h2 : r ≤ 2047
  · exact encd_two r w ⟨by omega, h2⟩
  by_cases h3 : r ≤ 65535
  · exact encd_three r w (by omega)
  · exact encd_four r w ⟨by omega, by omega⟩
/-- A byte's short forms, tried one behind the other. -/
theorem sh_at (x v : Int) (c : UInt8) (h1 : x = (c.toNat : Int)) (h2 : v = ((escV c).toNat : Int)) (h3 : escB c = true) (w : World) : Calls Tryd.prog 47 #[.int .u8 x] w (fun e w' => e = .returned (.tuple #[.int .u8 v, .bool true]) ∧ w' = w) := by
  have := short_any c w
  rw [h3] at this
  rw [h1, h2]; exact this

set_option maxHeartbeats 8000000 in
set_option maxRecDepth 100000 in
theorem rtold_34 (w : World) : Calls Tryd.prog 35 #[.int .u8 34] w (fun e w' => e = .returned (.string (S [92, 34])) ∧ Keeps w w') := by
  have cS0 := Lib.hid (fun w1 => sh_at 34 34 34 rfl (by decide) (by decide) w1)
  have cS1 := Lib.hid (fun w1 => sh_at 92 92 92 rfl (by decide) (by decide) w1)
  have cS2 := Lib.hid (fun w1 => sh_at 98 8 98 rfl (by decide) (by decide) w1)
  have cS3 := Lib.hid (fun w1 => sh_at 102 12 102 rfl (by decide) (by decide) w1)
  have cS4 := Lib.hid (fun w1 => sh_at 110 10 110 rfl (by decide) (by decide) w1)
  have cS5 := Lib.hid (fun w1 => sh_at 114 13 114 rfl (by decide) (by decide) w1)
  have cS6 := Lib.hid (fun w1 => sh_at 116 9 116 rfl (by decide) (by decide) w1)
  have hcv := convG (w.heap.size + 1) ((w.alloc (.cells #[.int .u8 34, .int .u8 92, .int .u8 98, .int .u8 102, .int .u8 110, .int .u8 114, .int .u8 116] 5)).alloc (.cells #[.int .u8 92, .int .u8 34] 5)) [92, 34] [92, 34] rfl (heap_two w _ _)
  simp only [List.length_cons, List.length_nil, Nat.zero_add] at hcv
  generalize S [92, 34] = R at hcv ⊢
  go_enter Tryd.func35, Tryd.ntmps35
  go_wp2
  refine wp_loop_rounds 8 ?_
  rw [rounds_succ]
  go_wp2_with fail
  refine (cS0.out _).mono ?_
  rintro e v0 ⟨rfl, rfl⟩
  go_wp2
  go_ret
  exact rs_of rfl (((Keeps.refl _).alloc _).alloc _)
set_option maxHeartbeats 8000000 in
set_option maxRecDepth 100000 in
theorem rtold_92 (w : World) : Calls Tryd.prog 35 #[.int .u8 92] w (fun e w' => e = .returned (.string (S [92, 92])) ∧ Keeps w w') := by
  have cS0 := Lib.hid (fun w1 => sh_at 34 34 34 rfl (by decide) (by decide) w1)
  have cS1 := Lib.hid (fun w1 => sh_at 92 92 92 rfl (by decide) (by decide) w1)
  have cS2 := Lib.hid (fun w1 => sh_at 98 8 98 rfl (by decide) (by decide) w1)
  have cS3 := Lib.hid (fun w1 => sh_at 102 12 102 rfl (by decide) (by decide) w1)
  have cS4 := Lib.hid (fun w1 => sh_at 110 10 110 rfl (by decide) (by decide) w1)
  have cS5 := Lib.hid (fun w1 => sh_at 114 13 114 rfl (by decide) (by decide) w1)
  have cS6 := Lib.hid (fun w1 => sh_at 116 9 116 rfl (by decide) (by decide) w1)
  have hcv := convG (w.heap.size + 1) ((w.alloc (.cells #[.int .u8 34, .int .u8 92, .int .u8 98, .int .u8 102, .int .u8 110, .int .u8 114, .int .u8 116] 5)).alloc (.cells #[.int .u8 92, .int .u8 92] 5)) [92, 92] [92, 92] rfl (heap_two w _ _)
  simp only [List.length_cons, List.length_nil, Nat.zero_add] at hcv
  generalize S [92, 92] = R at hcv ⊢
  go_enter Tryd.func35, Tryd.ntmps35
  go_wp2
  refine wp_loop_rounds 8 ?_
  rw [rounds_succ]
  go_wp2_with fail
  refine (cS0.out _).mono ?_
  rintro e v0 ⟨rfl, rfl⟩
  go_wp2
  rw [rounds_succ]
  go_wp2_with fail
  refine (cS1.out _).mono ?_
  rintro e v1 ⟨rfl, rfl⟩
  go_wp2
  go_ret
  exact rs_of rfl (((Keeps.refl _).alloc _).alloc _)
set_option maxHeartbeats 8000000 in
set_option maxRecDepth 100000 in
theorem rtold_8 (w : World) : Calls Tryd.prog 35 #[.int .u8 8] w (fun e w' => e = .returned (.string (S [92, 98])) ∧ Keeps w w') := by
  have cS0 := Lib.hid (fun w1 => sh_at 34 34 34 rfl (by decide) (by decide) w1)
  have cS1 := Lib.hid (fun w1 => sh_at 92 92 92 rfl (by decide) (by decide) w1)
  have cS2 := Lib.hid (fun w1 => sh_at 98 8 98 rfl (by decide) (by decide) w1)
  have cS3 := Lib.hid (fun w1 => sh_at 102 12 102 rfl (by decide) (by decide) w1)
  have cS4 := Lib.hid (fun w1 => sh_at 110 10 110 rfl (by decide) (by decide) w1)
  have cS5 := Lib.hid (fun w1 => sh_at 114 13 114 rfl (by decide) (by decide) w1)
  have cS6 := Lib.hid (fun w1 => sh_at 116 9 116 rfl (by decide) (by decide) w1)
  have hcv := convG (w.heap.size + 1) ((w.alloc (.cells #[.int .u8 34, .int .u8 92, .int .u8 98, .int .u8 102, .int .u8 110, .int .u8 114, .int .u8 116] 5)).alloc (.cells #[.int .u8 92, .int .u8 98] 5)) [92, 98] [92, 98] rfl (heap_two w _ _)
  simp only [List.length_cons, List.length_nil, Nat.zero_add] at hcv
  generalize S [92, 98] = R at hcv ⊢
  go_enter Tryd.func35, Tryd.ntmps35
  go_wp2
  refine wp_loop_rounds 8 ?_
  rw [rounds_succ]
  go_wp2_with fail
  refine (cS0.out _).mono ?_
  rintro e v0 ⟨rfl, rfl⟩
  go_wp2
  rw [rounds_succ]
  go_wp2_with fail
  refine (cS1.out _).mono ?_
  rintro e v1 ⟨rfl, rfl⟩
  go_wp2
  rw [rounds_succ]
  go_wp2_with fail
  refine (cS2.out _).mono ?_
  rintro e v2 ⟨rfl, rfl⟩
  go_wp2
  go_ret
  exact rs_of rfl (((Keeps.refl _).alloc _).alloc _)
set_option maxHeartbeats 8000000 in
set_option maxRecDepth 100000 in
theorem rtold_12 (w : World) : Calls Tryd.prog 35 #[.int .u8 12] w (fun e w' => e = .returned (.string (S [92, 102])) ∧ Keeps w w') := by
  have cS0 := Lib.hid (fun w1 => sh_at 34 34 34 rfl (by decide) (by decide) w1)
  have cS1 := Lib.hid (fun w1 => sh_at 92 92 92 rfl (by decide) (by decide) w1)
  have cS2 := Lib.hid (fun w1 => sh_at 98 8 98 rfl (by decide) (by decide) w1)
  have cS3 := Lib.hid (fun w1 => sh_at 102 12 102 rfl (by decide) (by decide) w1)
  have cS4 := Lib.hid (fun w1 => sh_at 110 10 110 rfl (by decide) (by decide) w1)
  have cS5 := Lib.hid (fun w1 => sh_at 114 13 114 rfl (by decide) (by decide) w1)
  have cS6 := Lib.hid (fun w1 => sh_at 116 9 116 rfl (by decide) (by decide) w1)
  have hcv := convG (w.heap.size + 1) ((w.alloc (.cells #[.int .u8 34, .int .u8 92, .int .u8 98, .int .u8 102, .int .u8 110, .int .u8 114, .int .u8 116] 5)).alloc (.cells #[.int .u8 92, .int .u8 102] 5)) [92, 102] [92, 102] rfl (heap_two w _ _)
  simp only [List.length_cons, List.length_nil, Nat.zero_add] at hcv
  generalize S [92, 102] = R at hcv ⊢
  go_enter Tryd.func35, Tryd.ntmps35
  go_wp2
  refine wp_loop_rounds 8 ?_
  rw [rounds_succ]
  go_wp2_with fail
  refine (cS0.out _).mono ?_
  rintro e v0 ⟨rfl, rfl⟩
  go_wp2
  rw [rounds_succ]
  go_wp2_with fail
  refine (cS1.out _).mono ?_
  rintro e v1 ⟨rfl, rfl⟩
  go_wp2
  rw [rounds_succ]
  go_wp2_with fail
  refine (cS2.out _).mono ?_
  rintro e v2 ⟨rfl, rfl⟩
  go_wp2
  rw [rounds_succ]
  go_wp2_with fail
  refine (cS3.out _).mono ?_
  rintro e v3 ⟨rfl, rfl⟩
  go_wp2
  go_ret
  exact rs_of rfl (((Keeps.refl _).alloc _).alloc _)
set_option maxHeartbeats 8000000 in
set_option maxRecDepth 100000 in
theorem rtold_10 (w : World) : Calls Tryd.prog 35 #[.int .u8 10] w (fun e w' => e = .returned (.string (S [92, 110])) ∧ Keeps w w') := by
  have cS0 := Lib.hid (fun w1 => sh_at 34 34 34 rfl (by decide) (by decide) w1)
  have cS1 := Lib.hid (fun w1 => sh_at 92 92 92 rfl (by decide) (by decide) w1)
  have cS2 := Lib.hid (fun w1 => sh_at 98 8 98 rfl (by decide) (by decide) w1)
  have cS3 := Lib.hid (fun w1 => sh_at 102 12 102 rfl (by decide) (by decide) w1)
  have cS4 := Lib.hid (fun w1 => sh_at 110 10 110 rfl (by decide) (by decide) w1)
  have cS5 := Lib.hid (fun w1 => sh_at 114 13 114 rfl (by decide) (by decide) w1)
  have cS6 := Lib.hid (fun w1 => sh_at 116 9 116 rfl (by decide) (by decide) w1)
  have hcv := convG (w.heap.size + 1) ((w.alloc (.cells #[.int .u8 34, .int .u8 92, .int .u8 98, .int .u8 102, .int .u8 110, .int .u8 114, .int .u8 116] 5)).alloc (.cells #[.int .u8 92, .int .u8 110] 5)) [92, 110] [92, 110] rfl (heap_two w _ _)
  simp only [List.length_cons, List.length_nil, Nat.zero_add] at hcv
  generalize S [92, 110] = R at hcv ⊢
  go_enter Tryd.func35, Tryd.ntmps35
  go_wp2
  refine wp_loop_rounds 8 ?_
  rw [rounds_succ]
  go_wp2_with fail
  refine (cS0.out _).mono ?_
  rintro e v0 ⟨rfl, rfl⟩
  go_wp2
  rw [rounds_succ]
  go_wp2_with fail
  refine (cS1.out _).mono ?_
  rintro e v1 ⟨rfl, rfl⟩
  go_wp2
  rw [rounds_succ]
  go_wp2_with fail
  refine (cS2.out _).mono ?_
  rintro e v2 ⟨rfl, rfl⟩
  go_wp2
  rw [rounds_succ]
  go_wp2_with fail
  refine (cS3.out _).mono ?_
  rintro e v3 ⟨rfl, rfl⟩
  go_wp2
  rw [rounds_succ]
  go_wp2_with fail
  refine (cS4.out _).mono ?_
  rintro e v4 ⟨rfl, rfl⟩
  go_wp2
  go_ret
  exact rs_of rfl (((Keeps.refl _).alloc _).alloc _)
set_option maxHeartbeats 8000000 in
set_option maxRecDepth 100000 in
theorem rtold_13 (w : World) : Calls Tryd.prog 35 #[.int .u8 13] w (fun e w' => e = .returned (.string (S [92, 114])) ∧ Keeps w w') := by
  have cS0 := Lib.hid (fun w1 => sh_at 34 34 34 rfl (by decide) (by decide) w1)
  have cS1 := Lib.hid (fun w1 => sh_at 92 92 92 rfl (by decide) (by decide) w1)
  have cS2 := Lib.hid (fun w1 => sh_at 98 8 98 rfl (by decide) (by decide) w1)
  have cS3 := Lib.hid (fun w1 => sh_at 102 12 102 rfl (by decide) (by decide) w1)
  have cS4 := Lib.hid (fun w1 => sh_at 110 10 110 rfl (by decide) (by decide) w1)
  have cS5 := Lib.hid (fun w1 => sh_at 114 13 114 rfl (by decide) (by decide) w1)
  have cS6 := Lib.hid (fun w1 => sh_at 116 9 116 rfl (by decide) (by decide) w1)
  have hcv := convG (w.heap.size + 1) ((w.alloc (.cells #[.int .u8 34, .int .u8 92, .int .u8 98, .int .u8 102, .int .u8 110, .int .u8 114, .int .u8 116] 5)).alloc (.cells #[.int .u8 92, .int .u8 114] 5)) [92, 114] [92, 114] rfl (heap_two w _ _)
  simp only [List.length_cons, List.length_nil, Nat.zero_add] at hcv
  generalize S [92, 114] = R at hcv ⊢
  go_enter Tryd.func35, Tryd.ntmps35
  go_wp2
  refine wp_loop_rounds 8 ?_
  rw [rounds_succ]
  go_wp2_with fail
  refine (cS0.out _).mono ?_
  rintro e v0 ⟨rfl, rfl⟩
  go_wp2
  rw [rounds_succ]
  go_wp2_with fail
  refine (cS1.out _).mono ?_
  rintro e v1 ⟨rfl, rfl⟩
  go_wp2
  rw [rounds_succ]
  go_wp2_with fail
  refine (cS2.out _).mono ?_
  rintro e v2 ⟨rfl, rfl⟩
  go_wp2
  rw [rounds_succ]
  go_wp2_with fail
  refine (cS3.out _).mono ?_
  rintro e v3 ⟨rfl, rfl⟩
  go_wp2
  rw [rounds_succ]
  go_wp2_with fail
  refine (cS4.out _).mono ?_
  rintro e v4 ⟨rfl, rfl⟩
  go_wp2
  rw [rounds_succ]
  go_wp2_with fail
  refine (cS5.out _).mono ?_
  rintro e v5 ⟨rfl, rfl⟩
  go_wp2
  go_ret
  exact rs_of rfl (((Keeps.refl _).alloc _).alloc _)
set_option maxHeartbeats 8000000 in
set_option maxRecDepth 100000 in
theorem rtold_9 (w : World) : Calls Tryd.prog 35 #[.int .u8 9] w (fun e w' => e = .returned (.string (S [92, 116])) ∧ Keeps w w') := by
  have cS0 := Lib.hid (fun w1 => sh_at 34 34 34 rfl (by decide) (by decide) w1)
  have cS1 := Lib.hid (fun w1 => sh_at 92 92 92 rfl (by decide) (by decide) w1)
  have cS2 := Lib.hid (fun w1 => sh_at 98 8 98 rfl (by decide) (by decide) w1)
  have cS3 := Lib.hid (fun w1 => sh_at 102 12 102 rfl (by decide) (by decide) w1)
  have cS4 := Lib.hid (fun w1 => sh_at 110 10 110 rfl (by decide) (by decide) w1)
  have cS5 := Lib.hid (fun w1 => sh_at 114 13 114 rfl (by decide) (by decide) w1)
  have cS6 := Lib.hid (fun w1 => sh_at 116 9 116 rfl (by decide) (by decide) w1)
  have hcv := convG (w.heap.size + 1) ((w.alloc (.cells #[.int .u8 34, .int .u8 92, .int .u8 98, .int .u8 102, .int .u8 110, .int .u8 114, .int .u8 116] 5)).alloc (.cells #[.int .u8 92, .int .u8 116] 5)) [92, 116] [92, 116] rfl (heap_two w _ _)
  simp only [List.length_cons, List.length_nil, Nat.zero_add] at hcv
  generalize S [92, 116] = R at hcv ⊢
  go_enter Tryd.func35, Tryd.ntmps35
  go_wp2
  refine wp_loop_rounds 8 ?_
  rw [rounds_succ]
  go_wp2_with fail
  refine (cS0.out _).mono ?_
  rintro e v0 ⟨rfl, rfl⟩
  go_wp2
  rw [rounds_succ]
  go_wp2_with fail
  refine (cS1.out _).mono ?_
  rintro e v1 ⟨rfl, rfl⟩
  go_wp2
  rw [rounds_succ]
  go_wp2_with fail
  refine (cS2.out _).mono ?_
  rintro e v2 ⟨rfl, rfl⟩
  go_wp2
  rw [rounds_succ]
  go_wp2_with fail
  refine (cS3.out _).mono ?_
  rintro e v3 ⟨rfl, rfl⟩
  go_wp2
  rw [rounds_succ]
  go_wp2_with fail
  refine (cS4.out _).mono ?_
  rintro e v4 ⟨rfl, rfl⟩
  go_wp2
  rw [rounds_succ]
  go_wp2_with fail
  refine (cS5.out _).mono ?_
  rintro e v5 ⟨rfl, rfl⟩
  go_wp2
  rw [rounds_succ]
  go_wp2_with fail
  refine (cS6.out _).mono ?_
  rintro e v6 ⟨rfl, rfl⟩
  go_wp2
  go_ret
  exact rs_of rfl (((Keeps.refl _).alloc _).alloc _)
set_option maxHeartbeats 8000000 in
set_option maxRecDepth 100000 in
theorem rtold_plain (c : UInt8) (w : World) (h : 32 ≤ c.toNat) (h34 : c.toNat ≠ 34) (h92 : c.toNat ≠ 92) (h8 : c.toNat ≠ 8) (h12 : c.toNat ≠ 12) (h10 : c.toNat ≠ 10) (h13 : c.toNat ≠ 13) (h9 : c.toNat ≠ 9) : Calls Tryd.prog 35 #[.int .u8 (c.toNat : Int)] w (fun e w' => e = .returned (.string (S [c])) ∧ Keeps w w') := by
  have hc := c.toNat_lt
  have cS0 := Lib.hid (fun w1 => sh_at 34 34 34 rfl (by decide) (by decide) w1)
  have cS1 := Lib.hid (fun w1 => sh_at 92 92 92 rfl (by decide) (by decide) w1)
  have cS2 := Lib.hid (fun w1 => sh_at 98 8 98 rfl (by decide) (by decide) w1)
  have cS3 := Lib.hid (fun w1 => sh_at 102 12 102 rfl (by decide) (by decide) w1)
  have cS4 := Lib.hid (fun w1 => sh_at 110 10 110 rfl (by decide) (by decide) w1)
  have cS5 := Lib.hid (fun w1 => sh_at 114 13 114 rfl (by decide) (by decide) w1)
  have cS6 := Lib.hid (fun w1 => sh_at 116 9 116 rfl (by decide) (by decide) w1)
  have n0 : ((34 : Int) == (c.toNat : Int)) = false := by simp; omega
  have n1 : ((92 : Int) == (c.toNat : Int)) = false := by simp; omega
  have n2 : ((8 : Int) == (c.toNat : Int)) = false := by simp; omega
  have n3 : ((12 : Int) == (c.toNat : Int)) = false := by simp; omega
  have n4 : ((10 : Int) == (c.toNat : Int)) = false := by simp; omega
  have n5 : ((13 : Int) == (c.toNat : Int)) = false := by simp; omega
  have n6 : ((9 : Int) == (c.toNat : Int)) = false := by simp; omega
  have f1 : decide ((c.toNat : Int) < 32) = false := by simp; omega
  have hcv := convG (w.heap.size + 1) ((w.alloc (.cells #[.int .u8 34, .int .u8 92, .int .u8 98, .int .u8 102, .int .u8 110, .int .u8 114, .int .u8 116] 5)).alloc (.cells #[.int .u8 (c.toNat : Int)] 5)) [(c.toNat : Int)] [c] rfl (heap_two w _ _)
  simp only [List.length_cons, List.length_nil, Nat.zero_add] at hcv
  generalize S [c] = R at hcv ⊢
  clear h h34 h92 h8 h12 h10 h13 h9 hc
  go_enter Tryd.func35, Tryd.ntmps35
  go_wp2
  refine wp_loop_rounds 8 ?_
  rw [rounds_succ]
  go_wp2_with fail
  refine (cS0.out _).mono ?_
  rintro e v0 ⟨rfl, rfl⟩
  go_wp2
  rw [rounds_succ]
  go_wp2_with fail
  refine (cS1.out _).mono ?_
  rintro e v1 ⟨rfl, rfl⟩
  go_wp2
  rw [rounds_succ]
  go_wp2_with fail
  refine (cS2.out _).mono ?_
  rintro e v2 ⟨rfl, rfl⟩
  go_wp2
  rw [rounds_succ]
  go_wp2_with fail
  refine (cS3.out _).mono ?_
  rintro e v3 ⟨rfl, rfl⟩
  go_wp2
  rw [rounds_succ]
  go_wp2_with fail
  refine (cS4.out _).mono ?_
  rintro e v4 ⟨rfl, rfl⟩
  go_wp2
  rw [rounds_succ]
  go_wp2_with fail
  refine (cS5.out _).mono ?_
  rintro e v5 ⟨rfl, rfl⟩
  go_wp2
  rw [rounds_succ]
  go_wp2_with fail
  refine (cS6.out _).mono ?_
  rintro e v6 ⟨rfl, rfl⟩
  go_wp2
  rw [rounds_succ]
  go_wp2
  go_ret
  exact rs_of rfl (((Keeps.refl _).alloc _).alloc _)
set_option maxHeartbeats 8000000 in
set_option maxRecDepth 100000 in
theorem rtold_low (c : UInt8) (w : World) (h : c.toNat < 32) (h34 : c.toNat ≠ 34) (h92 : c.toNat ≠ 92) (h8 : c.toNat ≠ 8) (h12 : c.toNat ≠ 12) (h10 : c.toNat ≠ 10) (h13 : c.toNat ≠ 13) (h9 : c.toNat ≠ 9) : Calls Tryd.prog 35 #[.int .u8 (c.toNat : Int)] w (fun e w' => e = .returned (.string (S ([92, 117, 48, 48] ++ [hexD (c.toNat / 16), hexD (c.toNat % 16)]))) ∧ Keeps w w') := by
  have hc := c.toNat_lt
  have cS0 := Lib.hid (fun w1 => sh_at 34 34 34 rfl (by decide) (by decide) w1)
  have cS1 := Lib.hid (fun w1 => sh_at 92 92 92 rfl (by decide) (by decide) w1)
  have cS2 := Lib.hid (fun w1 => sh_at 98 8 98 rfl (by decide) (by decide) w1)
  have cS3 := Lib.hid (fun w1 => sh_at 102 12 102 rfl (by decide) (by decide) w1)
  have cS4 := Lib.hid (fun w1 => sh_at 110 10 110 rfl (by decide) (by decide) w1)
  have cS5 := Lib.hid (fun w1 => sh_at 114 13 114 rfl (by decide) (by decide) w1)
  have cS6 := Lib.hid (fun w1 => sh_at 116 9 116 rfl (by decide) (by decide) w1)
  have n0 : ((34 : Int) == (c.toNat : Int)) = false := by simp; omega
  have n1 : ((92 : Int) == (c.toNat : Int)) = false := by simp; omega
  have n2 : ((8 : Int) == (c.toNat : Int)) = false := by simp; omega
  have n3 : ((12 : Int) == (c.toNat : Int)) = false := by simp; omega
  have n4 : ((10 : Int) == (c.toNat : Int)) = false := by simp; omega
  have n5 : ((13 : Int) == (c.toNat : Int)) = false := by simp; omega
  have n6 : ((9 : Int) == (c.toNat : Int)) = false := by simp; omega
  have f1 : decide ((c.toNat : Int) < 32) = true := by simp; omega
  have r0 : (0 : Int) ≤ (c.toNat : Int) / 16 := by omega
  have r1 : (c.toNat : Int) / 16 < 2 := by omega
  have r2 : ((c.toNat : Int) / 16).toNat = c.toNat / 16 := by omega
  have s0 : (0 : Int) ≤ (c.toNat : Int) % 16 := by omega
  have s1 : (c.toNat : Int) % 16 < 16 := by omega
  have s2 : ((c.toNat : Int) % 16).toNat = c.toNat % 16 := by omega
  have z0 : c.toNat / 16 < (⟨#[48, 49]⟩ : ByteArray).size := by show c.toNat / 16 < 2; omega
  have z1 : c.toNat % 16 < (⟨#[48, 49, 50, 51, 52, 53, 54, 55, 56, 57, 97, 98, 99, 100, 101, 102]⟩ : ByteArray).size := by show c.toNat % 16 < 16; omega
  have e0 : hexD (c.toNat / 16) = (⟨#[48, 49]⟩ : ByteArray)[c.toNat / 16]'z0 := by
    rw [← getD_at]
    have : c.toNat / 16 = 0 ∨ c.toNat / 16 = 1 := by omega
    rcases this with e | e <;> (rw [e]; rfl)
  have e1 : hexD (c.toNat % 16) = (⟨#[48, 49, 50, 51, 52, 53, 54, 55, 56, 57, 97, 98, 99, 100, 101, 102]⟩ : ByteArray)[c.toNat % 16]'z1 := getD_at (⟨#[48, 49, 50, 51, 52, 53, 54, 55, 56, 57, 97, 98, 99, 100, 101, 102]⟩ : ByteArray) (c.toNat % 16) z1
  have hcv := convG (w.heap.size + 1) (((w.alloc (.cells #[.int .u8 34, .int .u8 92, .int .u8 98, .int .u8 102, .int .u8 110, .int .u8 114, .int .u8 116] 5)).alloc (.cells #[.int .u8 (((⟨#[48, 49]⟩ : ByteArray)[c.toNat / 16]'z0).toNat : Int), .int .u8 (((⟨#[48, 49, 50, 51, 52, 53, 54, 55, 56, 57, 97, 98, 99, 100, 101, 102]⟩ : ByteArray)[c.toNat % 16]'z1).toNat : Int)] 5)).drew) [_, _] [_, _] rfl (heap_two w _ _)
  simp only [List.length_cons, List.length_nil, Nat.zero_add] at hcv
  have h2 : (S [hexD (c.toNat / 16), hexD (c.toNat % 16)]).size ≤ 2 := by simp [S_size]
  have HS : Hid ((⟨#[92, 117, 48, 48]⟩ : ByteArray) ++ S [hexD (c.toNat / 16), hexD (c.toNat % 16)] = S ([92, 117, 48, 48] ++ [hexD (c.toNat / 16), hexD (c.toNat % 16)])) := Lib.hid (by rw [← S_app]; rfl)
  have hR : S [(⟨#[48, 49]⟩ : ByteArray)[c.toNat / 16]'z0, (⟨#[48, 49, 50, 51, 52, 53, 54, 55, 56, 57, 97, 98, 99, 100, 101, 102]⟩ : ByteArray)[c.toNat % 16]'z1] = S [hexD (c.toNat / 16), hexD (c.toNat % 16)] := by rw [e0, e1]
  rw [hR] at hcv
  generalize S ([92, 117, 48, 48] ++ [hexD (c.toNat / 16), hexD (c.toNat % 16)]) = L at HS ⊢
  generalize S [hexD (c.toNat / 16), hexD (c.toNat % 16)] = R at h2 HS hcv
  have w0 : IntKind.u8.wrap ((c.toNat : Int) / 16) = (c.toNat : Int) / 16 := IntWalk.u8_in _ (by omega)
  clear e0 e1 hR
  clear h h34 h92 h8 h12 h10 h13 h9 hc
  go_enter Tryd.func35, Tryd.ntmps35
  go_wp2
  refine wp_loop_rounds 8 ?_
  rw [rounds_succ]
  go_wp2_with fail
  refine (cS0.out _).mono ?_
  rintro e v0 ⟨rfl, rfl⟩
  go_wp2
  rw [rounds_succ]
  go_wp2_with fail
  refine (cS1.out _).mono ?_
  rintro e v1 ⟨rfl, rfl⟩
  go_wp2
  rw [rounds_succ]
  go_wp2_with fail
  refine (cS2.out _).mono ?_
  rintro e v2 ⟨rfl, rfl⟩
  go_wp2
  rw [rounds_succ]
  go_wp2_with fail
  refine (cS3.out _).mono ?_
  rintro e v3 ⟨rfl, rfl⟩
  go_wp2
  rw [rounds_succ]
  go_wp2_with fail
  refine (cS4.out _).mono ?_
  rintro e v4 ⟨rfl, rfl⟩
  go_wp2
  rw [rounds_succ]
  go_wp2_with fail
  refine (cS5.out _).mono ?_
  rintro e v5 ⟨rfl, rfl⟩
  go_wp2
  rw [rounds_succ]
  go_wp2_with fail
  refine (cS6.out _).mono ?_
  rintro e v6 ⟨rfl, rfl⟩
  go_wp2
  rw [rounds_succ]
  go_wp2
  go_region
  all_goals (go_wp2; go_ret; exact rs_of HS.out (by first | exact (((Keeps.refl _).alloc _).alloc _).drew | exact (((Keeps.refl _).alloc _).drew).alloc _))
end Go.Proofs.YtbhgfdgdbbfeoaaDoor
