/-
  The contract of digits: a number as four digits to the base 16.
-/
import Derived.Test.YtbhgfdgdbbfeoaaDoorPck
import Derived.Test.YtbhgfdgdbbfeoaaDoorFrp
import Derived.Test.YtbhgfdgdbbfeoaaDoorLNum
import Derived.StillTailTactics
import Derived.BigRegion
namespace Go.Proofs.YtbhgfdgdbbfeoaaDoor
open Go.RowKit

def dgA (g : Bool) : ByteArray := if g = true then ⟨#[48, 49, 50, 51, 52, 53, 54, 55, 56, 57, 65, 66, 67, 68, 69, 70]⟩ else ⟨#[48, 49, 50, 51, 52, 53, 54, 55, 56, 57, 97, 98, 99, 100, 101, 102]⟩
def dg (g : Bool) (k : Nat) : UInt8 := (dgA g).data.toList.getD k 0
def digL (g : Bool) (n : Nat) : List UInt8 := [dg g (n / 4096 % 16), dg g (n / 256 % 16), dg g (n / 16 % 16), dg g (n % 16)]

theorem conv4 (w : World) (x0 x1 x2 x3 : UInt8) : (convert 44 9 (.slice (some ⟨w.heap.size, 0, none⟩) 4 4)).run Tryd.prog (w.alloc (.cells #[.int .u8 (x0.toNat : Int), .int .u8 (x1.toNat : Int), .int .u8 (x2.toNat : Int), .int .u8 (x3.toNat : Int)] 5)).drew = .ok (.string (S [x0, x1, x2, x3])) (w.alloc (.cells #[.int .u8 (x0.toNat : Int), .int .u8 (x1.toNat : Int), .int .u8 (x2.toNat : Int), .int .u8 (x3.toNat : Int)] 5)).drew := by
  refine run_convert_bytes_back (P := Tryd.prog) _ 44 9 5 ⟨w.heap.size, 0, none⟩ 4 [x0, x1, x2, x3] Tryd.underlying44 Tryd.underlying5 Tryd.underlying9 ?_
  intro j hj
  have hj4 : j < 4 := by simpa using hj
  have ea : (⟨w.heap.size, 0, none⟩ : Addr).add j = ⟨w.heap.size, j, none⟩ := by
    unfold Addr.add; split <;> simp_all
  have hh : ((w.alloc (.cells #[.int .u8 (x0.toNat : Int), .int .u8 (x1.toNat : Int), .int .u8 (x2.toNat : Int), .int .u8 (x3.toNat : Int)] 5)).drew).heap[w.heap.size]? = some (.cells #[.int .u8 (x0.toNat : Int), .int .u8 (x1.toNat : Int), .int .u8 (x2.toNat : Int), .int .u8 (x3.toNat : Int)] 5 (0, 0)) := heap_alloc_new w _
  rw [ea, Lib.cell_of_heap hh]
  have : j = 0 ∨ j = 1 ∨ j = 2 ∨ j = 3 := by omega
  rcases this with rfl | rfl | rfl | rfl <;> rfl
theorem dg_eq (g : Bool) (k : Nat) (h : k < (dgA g).size) : dg g k = (dgA g)[k]'h := getD_at (dgA g) k h

set_option maxHeartbeats 8000000 in
set_option maxRecDepth 100000 in
theorem digits_false (n : Nat) (w : World) (hn : n ≤ 65535) : Calls Tryd.prog 26 #[.int .i64 (n : Int), .bool false] w (fun e w' => e = .returned (.string (S (digL false n))) ∧ Keeps w w') := by
  have z0 : n % 16 < 16 := by omega
  have z1 : n / 16 % 16 < 16 := by omega
  have z2 : n / 256 % 16 < 16 := by omega
  have z3 : n / 4096 % 16 < 16 := by omega
  have HD : Hid (S (digL false n) = S [(dgA false)[n / 4096 % 16]'z3, (dgA false)[n / 256 % 16]'z2, (dgA false)[n / 16 % 16]'z1, (dgA false)[n % 16]'z0]) := Lib.hid (by
    unfold digL; rw [dg_eq false _ z0, dg_eq false _ z1, dg_eq false _ z2, dg_eq false _ z3])
  have b0 : (0 : Int) ≤ (n : Int) := by omega
  have b1 : (n : Int) ≤ 65535 := by omega
  have r0 : (0 : Int) ≤ (n : Int) % 16 := by omega
  have r1 : (n : Int) % 16 < 16 := by omega
  have r2 : ((n : Int) % 16).toNat = n % 16 := by omega
  have s0 : (0 : Int) ≤ (n : Int) / 16 % 16 := by omega
  have t0 : (n : Int) / 16 % 16 < 16 := by omega
  have u0 : ((n : Int) / 16 % 16).toNat = n / 16 % 16 := by omega
  have s1 : (0 : Int) ≤ (n : Int) / 256 % 16 := by omega
  have t1 : (n : Int) / 256 % 16 < 16 := by omega
  have u1 : ((n : Int) / 256 % 16).toNat = n / 256 % 16 := by omega
  have s2 : (0 : Int) ≤ (n : Int) / 4096 % 16 := by omega
  have t2 : (n : Int) / 4096 % 16 < 16 := by omega
  have u2 : ((n : Int) / 4096 % 16).toNat = n / 4096 % 16 := by omega
  have hcv := fun x0 x1 x2 x3 => conv4 w x0 x1 x2 x3
  clear hn
  go_enter Tryd.func26, Tryd.ntmps26
  go_wp2
  go_region
  all_goals (go_wp2; go_ret; exact ⟨by rw [HD.out]; rfl, by first | exact ((Keeps.refl _).alloc _).drew | exact (Keeps.refl _).drew.alloc _⟩)

set_option maxHeartbeats 8000000 in
set_option maxRecDepth 100000 in
theorem digits_true (n : Nat) (w : World) (hn : n ≤ 65535) : Calls Tryd.prog 26 #[.int .i64 (n : Int), .bool true] w (fun e w' => e = .returned (.string (S (digL true n))) ∧ Keeps w w') := by
  have z0 : n % 16 < 16 := by omega
  have z1 : n / 16 % 16 < 16 := by omega
  have z2 : n / 256 % 16 < 16 := by omega
  have z3 : n / 4096 % 16 < 16 := by omega
  have HD : Hid (S (digL true n) = S [(dgA true)[n / 4096 % 16]'z3, (dgA true)[n / 256 % 16]'z2, (dgA true)[n / 16 % 16]'z1, (dgA true)[n % 16]'z0]) := Lib.hid (by
    unfold digL; rw [dg_eq true _ z0, dg_eq true _ z1, dg_eq true _ z2, dg_eq true _ z3])
  have b0 : (0 : Int) ≤ (n : Int) := by omega
  have b1 : (n : Int) ≤ 65535 := by omega
  have r0 : (0 : Int) ≤ (n : Int) % 16 := by omega
  have r1 : (n : Int) % 16 < 16 := by omega
  have r2 : ((n : Int) % 16).toNat = n % 16 := by omega
  have s0 : (0 : Int) ≤ (n : Int) / 16 % 16 := by omega
  have t0 : (n : Int) / 16 % 16 < 16 := by omega
  have u0 : ((n : Int) / 16 % 16).toNat = n / 16 % 16 := by omega
  have s1 : (0 : Int) ≤ (n : Int) / 256 % 16 := by omega
  have t1 : (n : Int) / 256 % 16 < 16 := by omega
  have u1 : ((n : Int) / 256 % 16).toNat = n / 256 % 16 := by omega
  have s2 : (0 : Int) ≤ (n : Int) / 4096 % 16 := by omega
  have t2 : (n : Int) / 4096 % 16 < 16 := by omega
  have u2 : ((n : Int) / 4096 % 16).toNat = n / 4096 % 16 := by omega
  have hcv := fun x0 x1 x2 x3 => conv4 w x0 x1 x2 x3
  clear hn
  go_enter Tryd.func26, Tryd.ntmps26
  go_wp2
  go_region
  all_goals (go_wp2; go_ret; exact ⟨by rw [HD.out]; rfl, by first | exact ((Keeps.refl _).alloc _).drew | exact (Keeps.refl _).drew.alloc _⟩)

theorem digits_any (n : Nat) (g : Bool) (w : World) (hn : n ≤ 65535) : Calls Tryd.prog 26 #[.int .i64 (n : Int), .bool g] w (fun e w' => e = .returned (.string (S (digL g n))) ∧ Keeps w w') := by
  cases g
  · exact digits_false n w hn
  · exact digits_true n w hn

theorem S_app (a b : List UInt8) : S a ++ S b = S (a ++ b) := by
  have h : (S a ++ S b).data.toList = a ++ b := by rw [ByteArray.toList_data_append]; rfl
  have e : ∀ x : ByteArray, x = S x.data.toList := fun _ => rfl
  rw [e (S a ++ S b), h]

/-- A literal of a code point, by its numbers; whether it is one. -/
def escR (g : Bool) (c : Int) : List UInt8 × Bool :=
  if c < 0 ∨ 1114111 < c ∨ (55296 ≤ c ∧ c ≤ 57343) then ([], false)
  else if c < 65536 then ([34, 92, 117] ++ digL g c.toNat ++ [34], true)
  else ([34, 92, 117] ++ digL g (55296 + (c.toNat - 65536) / 1024) ++ [92, 117] ++ digL g (56320 + (c.toNat - 65536) % 1024) ++ [34], true)
def RetE (p : List UInt8 × Bool) (w : World) (e : Ending) (w' : World) : Prop := e = .returned (.tuple #[.string (S p.1), .bool p.2]) ∧ Keeps w w'
theorem RetE.of {p : List UInt8 × Bool} {s : ByteArray} {b : Bool} {w w' : World} (h : s = S p.1) (h' : b = p.2) (k : Keeps w w') : RetE p w (.returned (.tuple #[.string s, .bool b])) w' := ⟨by rw [h, h'], k⟩
set_option maxHeartbeats 2000000 in
theorem esc_no_a (c : Int) (g : Bool) (w : World) (hc : c < 0) : Calls Tryd.prog 25 #[.int .i64 c, .bool g] w (RetE ([], false) w) := by
  have f0 : decide (c < 0) = true := by simp; omega
  clear hc
  go_enter Tryd.func25, Tryd.ntmps25
  go_wp2
  go_ret2
  exact RetE.of rfl rfl (Keeps.refl _)
set_option maxHeartbeats 2000000 in
theorem esc_no_b (c : Int) (g : Bool) (w : World) (hc : 1114111 < c) : Calls Tryd.prog 25 #[.int .i64 c, .bool g] w (RetE ([], false) w) := by
  have f0 : decide (c < 0) = false := by simp; omega
  have f1 : decide ((1114111 : Int) < c) = true := by simp; omega
  clear hc
  go_enter Tryd.func25, Tryd.ntmps25
  go_wp2
  go_ret2
  exact RetE.of rfl rfl (Keeps.refl _)
set_option maxHeartbeats 2000000 in
theorem esc_no_c (c : Int) (g : Bool) (w : World) (hc : 55296 ≤ c ∧ c ≤ 57343) : Calls Tryd.prog 25 #[.int .i64 c, .bool g] w (RetE ([], false) w) := by
  have f0 : decide (c < 0) = false := by simp; omega
  have f1 : decide ((1114111 : Int) < c) = false := by simp; omega
  have f2 : decide ((55296 : Int) ≤ c) = true := by simp; omega
  have f3 : decide (c ≤ 57343) = true := by simp; omega
  clear hc
  go_enter Tryd.func25, Tryd.ntmps25
  go_wp2
  go_ret2
  exact RetE.of rfl rfl (Keeps.refl _)
set_option maxHeartbeats 2000000 in
theorem esc_lo (c : Nat) (g : Bool) (w : World) (hc : c < 55296) : Calls Tryd.prog 25 #[.int .i64 (c : Int), .bool g] w (RetE ([34, 92, 117] ++ digL g c ++ [34], true) w) := by
  have cD := Lib.hid (fun w1 => digits_any c g w1 (by omega))
  have f0 : decide ((c : Int) < 0) = false := by simp
  have f1 : decide ((1114111 : Int) < (c : Int)) = false := by simp; omega
  have f2 : decide ((55296 : Int) ≤ (c : Int)) = false := by simp; omega
  have f3 : decide ((c : Int) < 65536) = true := by simp; omega
  have HS : Hid ((⟨#[34, 92, 117]⟩ : ByteArray) ++ S (digL g c) ++ ⟨#[34]⟩ = S ([34, 92, 117] ++ digL g c ++ [34])) := Lib.hid (by
    rw [← S_app, ← S_app]; rfl)
  clear hc
  generalize [34, 92, 117] ++ digL g c ++ [34] = L at HS ⊢
  have h4 : (S (digL g c)).size ≤ 4 := by simp [S_size, digL]
  generalize digL g c = D at *
  go_enter Tryd.func25, Tryd.ntmps25
  go_wp2_with fail
  refine (cD.out _).mono ?_
  rintro e w2 ⟨rfl, k2⟩
  clear f0 f1 f2 f3
  go_wp2
  go_ret2
  exact RetE.of HS.out rfl k2
set_option maxHeartbeats 2000000 in
theorem esc_mid (c : Nat) (g : Bool) (w : World) (hc : 57343 < c ∧ c < 65536) : Calls Tryd.prog 25 #[.int .i64 (c : Int), .bool g] w (RetE ([34, 92, 117] ++ digL g c ++ [34], true) w) := by
  have cD := Lib.hid (fun w1 => digits_any c g w1 (by omega))
  have f0 : decide ((c : Int) < 0) = false := by simp
  have f1 : decide ((1114111 : Int) < (c : Int)) = false := by simp; omega
  have f2 : decide ((55296 : Int) ≤ (c : Int)) = true := by simp; omega
  have f3 : decide ((c : Int) ≤ 57343) = false := by simp; omega
  have f4 : decide ((c : Int) < 65536) = true := by simp; omega
  have HS : Hid ((⟨#[34, 92, 117]⟩ : ByteArray) ++ S (digL g c) ++ ⟨#[34]⟩ = S ([34, 92, 117] ++ digL g c ++ [34])) := Lib.hid (by
    rw [← S_app, ← S_app]; rfl)
  clear hc
  generalize [34, 92, 117] ++ digL g c ++ [34] = L at HS ⊢
  have h4 : (S (digL g c)).size ≤ 4 := by simp [S_size, digL]
  generalize digL g c = D at *
  go_enter Tryd.func25, Tryd.ntmps25
  go_wp2_with fail
  refine (cD.out _).mono ?_
  rintro e w2 ⟨rfl, k2⟩
  clear f0 f1 f2 f3 f4
  go_wp2
  go_ret2
  exact RetE.of HS.out rfl k2
set_option maxHeartbeats 4000000 in
set_option maxRecDepth 100000 in
theorem esc_hi (c : Nat) (g : Bool) (w : World) (hc : 65536 ≤ c) (hc2 : c ≤ 1114111) : Calls Tryd.prog 25 #[.int .i64 (c : Int), .bool g] w (RetE ([34, 92, 117] ++ digL g (55296 + (c - 65536) / 1024) ++ [92, 117] ++ digL g (56320 + (c - 65536) % 1024) ++ [34], true) w) := by
  obtain ⟨d, rfl⟩ : ∃ d, c = d + 65536 := ⟨c - 65536, by omega⟩
  rw [show d + 65536 - 65536 = d by omega]
  have cD : Hid (∀ w1, Calls Tryd.prog 26 #[.int .i64 (55296 + (d : Int) / 1024), .bool g] w1 (fun e w' => e = .returned (.string (S (digL g (55296 + d / 1024)))) ∧ Keeps w1 w')) := Lib.hid (fun w1 => by
    have := digits_any (55296 + d / 1024) g w1 (by omega)
    rwa [show ((55296 + d / 1024 : Nat) : Int) = 55296 + (d : Int) / 1024 by omega] at this)
  have cE : Hid (∀ w1, Calls Tryd.prog 26 #[.int .i64 (56320 + (d : Int) % 1024), .bool g] w1 (fun e w' => e = .returned (.string (S (digL g (56320 + d % 1024)))) ∧ Keeps w1 w')) := Lib.hid (fun w1 => by
    have := digits_any (56320 + d % 1024) g w1 (by omega)
    rwa [show ((56320 + d % 1024 : Nat) : Int) = 56320 + (d : Int) % 1024 by omega] at this)
  have f0 : decide (((d + 65536 : Nat) : Int) < 0) = false := by simp; omega
  have f1 : decide ((1114111 : Int) < ((d + 65536 : Nat) : Int)) = false := by simp; omega
  have f2 : decide ((55296 : Int) ≤ ((d + 65536 : Nat) : Int)) = true := by simp; omega
  have f3 : decide (((d + 65536 : Nat) : Int) ≤ 57343) = false := by simp; omega
  have f4 : decide (((d + 65536 : Nat) : Int) < 65536) = false := by simp; omega
  have hd0 : (0 : Int) ≤ (d : Int) := by omega
  have hd1 : (d : Int) ≤ 1048575 := by omega
  have hx : ((d + 65536 : Nat) : Int) = (d : Int) + 65536 := by omega
  rw [hx] at f0 f1 f2 f3 f4 ⊢
  have HS : Hid ((⟨#[34, 92, 117]⟩ : ByteArray) ++ S (digL g (55296 + d / 1024)) ++ ⟨#[92, 117]⟩ ++ S (digL g (56320 + d % 1024)) ++ ⟨#[34]⟩ = S ([34, 92, 117] ++ digL g (55296 + d / 1024) ++ [92, 117] ++ digL g (56320 + d % 1024) ++ [34])) := Lib.hid (by
    rw [← S_app, ← S_app, ← S_app, ← S_app]; rfl)
  generalize [34, 92, 117] ++ digL g (55296 + d / 1024) ++ [92, 117] ++ digL g (56320 + d % 1024) ++ [34] = L at HS ⊢
  have h4 : (S (digL g (55296 + d / 1024))).size ≤ 4 := by simp [S_size, digL]
  have h5 : (S (digL g (56320 + d % 1024))).size ≤ 4 := by simp [S_size, digL]
  generalize digL g (55296 + d / 1024) = D1 at *
  generalize digL g (56320 + d % 1024) = D2 at *
  clear hc hc2 hx
  go_enter Tryd.func25, Tryd.ntmps25
  go_wp2_with fail
  refine (cD.out _).mono ?_
  rintro e w2 ⟨rfl, k2⟩
  have K2 := Lib.hid k2
  clear k2 f0 f1 f2 f3 f4
  go_wp2_with fail
  refine (cE.out _).mono ?_
  rintro e w3 ⟨rfl, k3⟩
  have K3 := Lib.hid (K2.out.trans k3)
  clear k3 hd0 hd1
  go_wp2
  go_ret2
  exact RetE.of HS.out rfl K3.out
theorem esc_all (c : Int) (g : Bool) (w : World) : Calls Tryd.prog 25 #[.int .i64 c, .bool g] w (RetE (escR g c) w) := by
  unfold escR
  by_cases h1 : c < 0
  · rw [if_pos (.inl h1)]; exact esc_no_a c g w h1
  by_cases h2 : 1114111 < c
  · rw [if_pos (.inr (.inl h2))]; exact esc_no_b c g w h2
  by_cases h3 : 55296 ≤ c ∧ c ≤ 57343
  · rw [if_pos (.inr (.inr h3))]; exact esc_no_c c g w h3
  rw [if_neg (by omega)]
  obtain ⟨n, rfl⟩ : ∃ n : Nat, c = n := ⟨c.toNat, by omega⟩
  rw [Int.toNat_natCast]
  by_cases h4 : (n : Int) < 65536
  · rw [if_pos h4]
    by_cases h5 : n < 55296
    · exact esc_lo n g w h5
    · exact esc_mid n g w (by omega)
  · rw [if_neg h4]; exact esc_hi n g w (by omega) (by omega)
end Go.Proofs.YtbhgfdgdbbfeoaaDoor
