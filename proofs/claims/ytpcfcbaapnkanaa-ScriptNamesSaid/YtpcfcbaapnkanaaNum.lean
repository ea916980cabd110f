/-
  The contract of appendNumber of package record.
-/
import Derived.Test.YtpcfcbaapnkanaaBase
namespace Go.Proofs.Ytpcfcbaapnkanaa
open Go.RowKit

/-- Bytes as values. -/
def bv (l : List UInt8) : List Value := l.map fun c => .int .u8 (c.toNat : Int)
/-- A slice of bytes of the call's own, in blocks from B on. -/
def Owns (w : World) (B : Nat) (v : Value) (l : List UInt8) : Prop := w.ownsRow B 5 1 v l.length (bv l)
theorem Owns.alloc {w : World} {B : Nat} {v : Value} {l : List UInt8} (h : Owns w B v l) (o : Obj) : Owns (w.alloc o) B v l := World.ownsRow.alloc h o

def byteAt (n : Int) (s : Nat) : UInt8 := UInt8.ofNat ((n / (2 ^ s : Nat)) % 256).toNat
def be8 (n : Int) : List UInt8 := [byteAt n 56, byteAt n 48, byteAt n 40, byteAt n 32, byteAt n 24, byteAt n 16, byteAt n 8, byteAt n 0]

def NumRel (w : World) (B : Nat) (l : List UInt8) (v : Value) (wr : World) : Prop := Owns wr B v l ∧ Below B w wr
def NumPost (w : World) (B : Nat) (l : List UInt8) (e : Ending) (w' : World) : Prop := ∃ v, e = .returned v ∧ Owns w' B v l ∧ Below B w w'

theorem info5 : (Try.prog.info? 5).map (fun i => (i.zero, i.size, i.bytes)) = some (some (.int .u8 0), 1, 1) := by kernel_rfl

theorem byteAt_nat (n : Int) (s : Nat) : ((byteAt n s).toNat : Int) = n / (2 ^ s : Nat) % 256 := by
  unfold byteAt
  have h1 : 0 ≤ n / (2 ^ s : Nat) % 256 := Int.emod_nonneg _ (by decide)
  have h2 : n / (2 ^ s : Nat) % 256 < 256 := Int.emod_lt_of_pos _ (by decide)
  generalize n / (2 ^ s : Nat) % 256 = x at h1 h2
  simp; omega
theorem cell_new (w : World) (x y : Int) (h : x = y) : ∀ j u, ([Value.int .u8 y] : List Value)[j]? = some u → (w.alloc (.cells #[.int .u8 x] 5)).cell? ((⟨w.heap.size, 0, none⟩ : Addr).add j) = some u := by
  intro j u hj
  subst h
  match j, hj with
  | 0, hj => simp at hj; subst hj; simp [Addr.add]
theorem one_cell (y : Int) : ∀ u ∈ ([Value.int .u8 y] : List Value), u.oneCell' = true := by intro u hu; simp at hu; subst hu; rfl
theorem NumRel.lt {w wr : World} {B : Nat} {l : List UInt8} {v : Value} (_h : NumRel w B l v wr) : w.heap.size ≤ wr.heap.size ∨ True := Or.inr trivial

set_option maxHeartbeats 8000000 in
theorem number_any (v : Value) (l : List UInt8) (n : Int) (B : Nat) (w : World) (h0 : 0 ≤ n) (h1 : n ≤ 9223372036854775807) (hl : l.length ≤ 5000) (hB : B ≤ w.heap.size) (hv : Owns w B v l) :
    Calls Try.prog 60 #[v, .int .i64 n] w (NumPost w B (l ++ be8 n)) := by
  obtain ⟨i0, hi, hz0, hz1, hz2⟩ := info_parts info5
  have HV : NumRel w B (l ++ (be8 n).take 0) v w := ⟨by simpa using hv, Below.refl _ _⟩
  clear hv
  go_enter Try.func60, Try.ntmps60
  go_wp2
  go_loopw [0, 5] (fun b s wr => ∃ j : Nat, j ≤ 8 ∧ s = .int .i64 (56 - 8 * (j : Int)) ∧ NumRel w B (l ++ (be8 n).take j) b wr ∧ w.heap.size ≤ wr.heap.size) (fun _ s _ => (intOf s + 8).toNat)
  case atStart => exact ⟨0, by omega, rfl, HV, Nat.le_refl _⟩
  case round =>
    obtain ⟨j, hj, rfl, hr, hsz⟩ := hrel
    rcases (show j = 0 ∨ j = 1 ∨ j = 2 ∨ j = 3 ∨ j = 4 ∨ j = 5 ∨ j = 6 ∨ j = 7 ∨ j = 8 by omega) with rfl | rfl | rfl | rfl | rfl | rfl | rfl | rfl | rfl
    · have hb := Lib.hid (byteAt_nat n 56)
      have hown := hr.1
      have hbel := hr.2
      clear hr
      rw [show (56 - 8 * ((0 : Nat) : Int)) = 56 from rfl]
      go_wp2_with (at_builtin; refine wpList_append_own _ rfl (.tmp 10) (.tmp 15) 48 rfl B 5 i0 (.int .u8 0) 1 1 Try.underlying48 hi hz0 hz1 hz2 rfl (by decide) _ _ _ rfl (World.ownsRow.alloc hown _) ⟨wr.heap.size, 0, none⟩ 1 1 [.int .u8 ((byteAt n 56).toNat : Int)] rfl rfl ?c10 ?c20 ?c30 ?c40 ?c50 ?_)
      case c10 => exact cell_new _ _ _ (by rw [hb.out]; omega)
      case c20 => exact one_cell _
      case c30 => unfold maxLen; simp [be8]; omega
      case c40 => simp [be8]; omega
      case c50 => simp; omega
      intro v' w' hown' hgrow _
      have hbel' : Below B w w' := (hbel.alloc (by omega) _).grown hgrow (by simp; omega) (fun k hk => (World.ownsRow.lt hown k hk).1)
      have hsz' : w.heap.size ≤ w'.heap.size := by have := hgrow.size; simp at this; omega
      have hown2 : Owns w' B v' (l ++ (be8 n).take (0 + 1)) := by
        have e : l ++ (be8 n).take (0 + 1) = l ++ (be8 n).take 0 ++ [byteAt n 56] := by rw [List.append_assoc]; rfl
        rw [e]; simpa [Owns, bv, be8] using hown'
      clear hown' hgrow hb
      go_wp2
      go_roundw
      case rel => exact ⟨0 + 1, by omega, by simp, ⟨hown2, hbel'⟩, hsz'⟩
      case measure => simp [intOf]
    · have hb := Lib.hid (byteAt_nat n 48)
      have hown := hr.1
      have hbel := hr.2
      clear hr
      rw [show (56 - 8 * ((1 : Nat) : Int)) = 48 from rfl]
      go_wp2_with (at_builtin; refine wpList_append_own _ rfl (.tmp 10) (.tmp 15) 48 rfl B 5 i0 (.int .u8 0) 1 1 Try.underlying48 hi hz0 hz1 hz2 rfl (by decide) _ _ _ rfl (World.ownsRow.alloc hown _) ⟨wr.heap.size, 0, none⟩ 1 1 [.int .u8 ((byteAt n 48).toNat : Int)] rfl rfl ?c11 ?c21 ?c31 ?c41 ?c51 ?_)
      case c11 => exact cell_new _ _ _ (by rw [hb.out]; omega)
      case c21 => exact one_cell _
      case c31 => unfold maxLen; simp [be8]; omega
      case c41 => simp [be8]; omega
      case c51 => simp; omega
      intro v' w' hown' hgrow _
      have hbel' : Below B w w' := (hbel.alloc (by omega) _).grown hgrow (by simp; omega) (fun k hk => (World.ownsRow.lt hown k hk).1)
      have hsz' : w.heap.size ≤ w'.heap.size := by have := hgrow.size; simp at this; omega
      have hown2 : Owns w' B v' (l ++ (be8 n).take (1 + 1)) := by
        have e : l ++ (be8 n).take (1 + 1) = l ++ (be8 n).take 1 ++ [byteAt n 48] := by rw [List.append_assoc]; rfl
        rw [e]; simpa [Owns, bv, be8] using hown'
      clear hown' hgrow hb
      go_wp2
      go_roundw
      case rel => exact ⟨1 + 1, by omega, by simp, ⟨hown2, hbel'⟩, hsz'⟩
      case measure => simp [intOf]
    · have hb := Lib.hid (byteAt_nat n 40)
      have hown := hr.1
      have hbel := hr.2
      clear hr
      rw [show (56 - 8 * ((2 : Nat) : Int)) = 40 from rfl]
      go_wp2_with (at_builtin; refine wpList_append_own _ rfl (.tmp 10) (.tmp 15) 48 rfl B 5 i0 (.int .u8 0) 1 1 Try.underlying48 hi hz0 hz1 hz2 rfl (by decide) _ _ _ rfl (World.ownsRow.alloc hown _) ⟨wr.heap.size, 0, none⟩ 1 1 [.int .u8 ((byteAt n 40).toNat : Int)] rfl rfl ?c12 ?c22 ?c32 ?c42 ?c52 ?_)
      case c12 => exact cell_new _ _ _ (by rw [hb.out]; omega)
      case c22 => exact one_cell _
      case c32 => unfold maxLen; simp [be8]; omega
      case c42 => simp [be8]; omega
      case c52 => simp; omega
      intro v' w' hown' hgrow _
      have hbel' : Below B w w' := (hbel.alloc (by omega) _).grown hgrow (by simp; omega) (fun k hk => (World.ownsRow.lt hown k hk).1)
      have hsz' : w.heap.size ≤ w'.heap.size := by have := hgrow.size; simp at this; omega
      have hown2 : Owns w' B v' (l ++ (be8 n).take (2 + 1)) := by
        have e : l ++ (be8 n).take (2 + 1) = l ++ (be8 n).take 2 ++ [byteAt n 40] := by rw [List.append_assoc]; rfl
        rw [e]; simpa [Owns, bv, be8] using hown'
      clear hown' hgrow hb
      go_wp2
      go_roundw
      case rel => exact ⟨2 + 1, by omega, by simp, ⟨hown2, hbel'⟩, hsz'⟩
      case measure => simp [intOf]
    · have hb := Lib.hid (byteAt_nat n 32)
      have hown := hr.1
      have hbel := hr.2
      clear hr
      rw [show (56 - 8 * ((3 : Nat) : Int)) = 32 from rfl]
      go_wp2_with (at_builtin; refine wpList_append_own _ rfl (.tmp 10) (.tmp 15) 48 rfl B 5 i0 (.int .u8 0) 1 1 Try.underlying48 hi hz0 hz1 hz2 rfl (by decide) _ _ _ rfl (World.ownsRow.alloc hown _) ⟨wr.heap.size, 0, none⟩ 1 1 [.int .u8 ((byteAt n 32).toNat : Int)] rfl rfl ?c13 ?c23 ?c33 ?c43 ?c53 ?_)
      case c13 => exact cell_new _ _ _ (by rw [hb.out]; omega)
      case c23 => exact one_cell _
      case c33 => unfold maxLen; simp [be8]; omega
      case c43 => simp [be8]; omega
      case c53 => simp; omega
      intro v' w' hown' hgrow _
      have hbel' : Below B w w' := (hbel.alloc (by omega) _).grown hgrow (by simp; omega) (fun k hk => (World.ownsRow.lt hown k hk).1)
      have hsz' : w.heap.size ≤ w'.heap.size := by have := hgrow.size; simp at this; omega
      have hown2 : Owns w' B v' (l ++ (be8 n).take (3 + 1)) := by
        have e : l ++ (be8 n).take (3 + 1) = l ++ (be8 n).take 3 ++ [byteAt n 32] := by rw [List.append_assoc]; rfl
        rw [e]; simpa [Owns, bv, be8] using hown'
      clear hown' hgrow hb
      go_wp2
      go_roundw
      case rel => exact ⟨3 + 1, by omega, by simp, ⟨hown2, hbel'⟩, hsz'⟩
      case measure => simp [intOf]
    · have hb := Lib.hid (byteAt_nat n 24)
      have hown := hr.1
      have hbel := hr.2
      clear hr
      rw [show (56 - 8 * ((4 : Nat) : Int)) = 24 from rfl]
      go_wp2_with (at_builtin; refine wpList_append_own _ rfl (.tmp 10) (.tmp 15) 48 rfl B 5 i0 (.int .u8 0) 1 1 Try.underlying48 hi hz0 hz1 hz2 rfl (by decide) _ _ _ rfl (World.ownsRow.alloc hown _) ⟨wr.heap.size, 0, none⟩ 1 1 [.int .u8 ((byteAt n 24).toNat : Int)] rfl rfl ?c14 ?c24 ?c34 ?c44 ?c54 ?_)
      case c14 => exact cell_new _ _ _ (by rw [hb.out]; omega)
      case c24 => exact one_cell _
      case c34 => unfold maxLen; simp [be8]; omega
      case c44 => simp [be8]; omega
      case c54 => simp; omega
      intro v' w' hown' hgrow _
      have hbel' : Below B w w' := (hbel.alloc (by omega) _).grown hgrow (by simp; omega) (fun k hk => (World.ownsRow.lt hown k hk).1)
      have hsz' : w.heap.size ≤ w'.heap.size := by have := hgrow.size; simp at this; omega
      have hown2 : Owns w' B v' (l ++ (be8 n).take (4 + 1)) := by
        have e : l ++ (be8 n).take (4 + 1) = l ++ (be8 n).take 4 ++ [byteAt n 24] := by rw [List.append_assoc]; rfl
        rw [e]; simpa [Owns, bv, be8] using hown'
      clear hown' hgrow hb
      go_wp2
      go_roundw
      case rel => exact ⟨4 + 1, by omega, by simp, ⟨hown2, hbel'⟩, hsz'⟩
      case measure => simp [intOf]
    · have hb := Lib.hid (byteAt_nat n 16)
      have hown := hr.1
      have hbel := hr.2
      clear hr
      rw [show (56 - 8 * ((5 : Nat) : Int)) = 16 from rfl]
      go_wp2_with (at_builtin; refine wpList_append_own _ rfl (.tmp 10) (.tmp 15) 48 rfl B 5 i0 (.int .u8 0) 1 1 Try.underlying48 hi hz0 hz1 hz2 rfl (by decide) _ _ _ rfl (World.ownsRow.alloc hown _) ⟨wr.heap.size, 0, none⟩ 1 1 [.int .u8 ((byteAt n 16).toNat : Int)] rfl rfl ?c15 ?c25 ?c35 ?c45 ?c55 ?_)
      case c15 => exact cell_new _ _ _ (by rw [hb.out]; omega)
      case c25 => exact one_cell _
      case c35 => unfold maxLen; simp [be8]; omega
      case c45 => simp [be8]; omega
      case c55 => simp; omega
      intro v' w' hown' hgrow _
      have hbel' : Below B w w' := (hbel.alloc (by omega) _).grown hgrow (by simp; omega) (fun k hk => (World.ownsRow.lt hown k hk).1)
      have hsz' : w.heap.size ≤ w'.heap.size := by have := hgrow.size; simp at this; omega
      have hown2 : Owns w' B v' (l ++ (be8 n).take (5 + 1)) := by
        have e : l ++ (be8 n).take (5 + 1) = l ++ (be8 n).take 5 ++ [byteAt n 16] := by rw [List.append_assoc]; rfl
        rw [e]; simpa [Owns, bv, be8] using hown'
      clear hown' hgrow hb
      go_wp2
      go_roundw
      case rel => exact ⟨5 + 1, by omega, by simp, ⟨hown2, hbel'⟩, hsz'⟩
      case measure => simp [intOf]
    · have hb := Lib.hid (byteAt_nat n 8)
      have hown := hr.1
      have hbel := hr.2
      clear hr
      rw [show (56 - 8 * ((6 : Nat) : Int)) = 8 from rfl]
      go_wp2_with (at_builtin; refine wpList_append_own _ rfl (.tmp 10) (.tmp 15) 48 rfl B 5 i0 (.int .u8 0) 1 1 Try.underlying48 hi hz0 hz1 hz2 rfl (by decide) _ _ _ rfl (World.ownsRow.alloc hown _) ⟨wr.heap.size, 0, none⟩ 1 1 [.int .u8 ((byteAt n 8).toNat : Int)] rfl rfl ?c16 ?c26 ?c36 ?c46 ?c56 ?_)
      case c16 => exact cell_new _ _ _ (by rw [hb.out]; omega)
      case c26 => exact one_cell _
      case c36 => unfold maxLen; simp [be8]; omega
      case c46 => simp [be8]; omega
      case c56 => simp; omega
      intro v' w' hown' hgrow _
      have hbel' : Below B w w' := (hbel.alloc (by omega) _).grown hgrow (by simp; omega) (fun k hk => (World.ownsRow.lt hown k hk).1)
      have hsz' : w.heap.size ≤ w'.heap.size := by have := hgrow.size; simp at this; omega
      have hown2 : Owns w' B v' (l ++ (be8 n).take (6 + 1)) := by
        have e : l ++ (be8 n).take (6 + 1) = l ++ (be8 n).take 6 ++ [byteAt n 8] := by rw [List.append_assoc]; rfl
        rw [e]; simpa [Owns, bv, be8] using hown'
      clear hown' hgrow hb
      go_wp2
      go_roundw
      case rel => exact ⟨6 + 1, by omega, by simp, ⟨hown2, hbel'⟩, hsz'⟩
      case measure => simp [intOf]
    · have hb := Lib.hid (byteAt_nat n 0)
      have hown := hr.1
      have hbel := hr.2
      clear hr
      rw [show (56 - 8 * ((7 : Nat) : Int)) = 0 from rfl]
      go_wp2_with (at_builtin; refine wpList_append_own _ rfl (.tmp 10) (.tmp 15) 48 rfl B 5 i0 (.int .u8 0) 1 1 Try.underlying48 hi hz0 hz1 hz2 rfl (by decide) _ _ _ rfl (World.ownsRow.alloc hown _) ⟨wr.heap.size, 0, none⟩ 1 1 [.int .u8 ((byteAt n 0).toNat : Int)] rfl rfl ?c17 ?c27 ?c37 ?c47 ?c57 ?_)
      case c17 => exact cell_new _ _ _ (by rw [hb.out]; omega)
      case c27 => exact one_cell _
      case c37 => unfold maxLen; simp [be8]; omega
      case c47 => simp [be8]; omega
      case c57 => simp; omega
      intro v' w' hown' hgrow _
      have hbel' : Below B w w' := (hbel.alloc (by omega) _).grown hgrow (by simp; omega) (fun k hk => (World.ownsRow.lt hown k hk).1)
      have hsz' : w.heap.size ≤ w'.heap.size := by have := hgrow.size; simp at this; omega
      have hown2 : Owns w' B v' (l ++ (be8 n).take (7 + 1)) := by
        have e : l ++ (be8 n).take (7 + 1) = l ++ (be8 n).take 7 ++ [byteAt n 0] := by rw [List.append_assoc]; rfl
        rw [e]; simpa [Owns, bv, be8] using hown'
      clear hown' hgrow hb
      go_wp2
      go_roundw
      case rel => exact ⟨7 + 1, by omega, by simp, ⟨hown2, hbel'⟩, hsz'⟩
      case measure => simp [intOf]
    · have hown := hr.1
      have hbel := hr.2
      have e : l ++ (be8 n).take 8 = l ++ be8 n := rfl
      rw [e] at hown
      clear hr
      rw [show (56 - 8 * ((8 : Nat) : Int)) = -8 from rfl]
      go_wp2
      go_ret
      exact ⟨_, rfl, hown, hbel⟩
end Go.Proofs.Ytpcfcbaapnkanaa
