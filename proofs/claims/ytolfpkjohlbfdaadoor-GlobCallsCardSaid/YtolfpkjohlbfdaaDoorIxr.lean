/-
  strings.IndexRune at the text of both wildcards and a rune beyond ASCII: none.
-/
import Derived.Test.YtolfpkjohlbfdaaDoorMch
import Derived.Test.YtolfpkjohlbfdaaDoorShlc
import Derived.Laws.RangeAny
import Derived.Laws.Runes
import Derived.Deep.LoopGhost
import Derived.WalkMore
namespace Go.Proofs.YtolfpkjohlbfdaaDoor
open Go.RowKit

def RetM (w : World) (e : Ending) (w' : World) : Prop := e = .returned (.int .i64 (-1)) ∧ Keeps w w'

set_option maxHeartbeats 4000000 in
set_option maxRecDepth 1000000 in
theorem ixr_bad (r : Nat) (w : World) (h1 : 128 ≤ r) (h2 : r ≤ 2147483647) (h3 : r ≠ 65533) (hv : Lib.validRune r = false) :
    Calls Tryd.prog 44 #[.string ⟨#[42, 63]⟩, .int .i32 r] w (RetM w) := by
  have cV := Lib.hid (fun w1 => Tryd.utf8_ValidRune r w1)
  rw [hv] at cV
  have e1 : ((r : Int) == 65533) = false := by simp; omega
  have e2 : ((r : Int) < 128) = False := by simp; omega
  go_enter Tryd.func44, Tryd.ntmps44
  go_wp2_with fail
  refine (cV.out _).mono ?_
  rintro e w2 ⟨rfl, rfl⟩
  go_wp2
  go_ret
  exact ⟨rfl, Keeps.refl _⟩

theorem at0 (h : 0 < (⟨#[42, 63]⟩ : ByteArray).size) : ((⟨#[42, 63]⟩ : ByteArray)[0]'h).toNat = 42 := rfl
theorem at1 (h : 1 < (⟨#[42, 63]⟩ : ByteArray).size) : ((⟨#[42, 63]⟩ : ByteArray)[1]'h).toNat = 63 := rfl
theorem two_size : (⟨#[42, 63]⟩ : ByteArray).size = 2 := rfl

set_option maxHeartbeats 4000000 in
set_option maxRecDepth 1000000 in
theorem ixr_err (w : World) : Calls Tryd.prog 44 #[.string ⟨#[42, 63]⟩, .int .i32 65533] w (RetM w) := by
  have n0 : ∀ ty, (Instr.next (.pointer (some ⟨w.heap.size, 0, none⟩)) true ty).run Tryd.prog (w.iter ⟨#[42, 63]⟩ 0) = .ok (.tuple #[.bool true, .int .i64 0, .int .i32 42]) (w.iter ⟨#[42, 63]⟩ 1) := fun ty => by
    have := run_next_ascii (P := Tryd.prog) w ⟨#[42, 63]⟩ 0 ty (by decide) (by decide)
    exact this
  have n1 : ∀ ty, (Instr.next (.pointer (some ⟨w.heap.size, 0, none⟩)) true ty).run Tryd.prog (w.iter ⟨#[42, 63]⟩ 1) = .ok (.tuple #[.bool true, .int .i64 1, .int .i32 63]) (w.iter ⟨#[42, 63]⟩ 2) := fun ty => by
    have := run_next_ascii (P := Tryd.prog) w ⟨#[42, 63]⟩ 1 ty (by decide) (by decide)
    exact this
  have n2 : ∀ ty, (Instr.next (.pointer (some ⟨w.heap.size, 0, none⟩)) true ty).run Tryd.prog (w.iter ⟨#[42, 63]⟩ 2) = .ok (.tuple #[.bool false]) (w.iter ⟨#[42, 63]⟩ 2) := fun ty => run_next_end (P := Tryd.prog) w ⟨#[42, 63]⟩ 2 ty (by decide)
  have hk : ∀ p, Keeps w (w.iter ⟨#[42, 63]⟩ p) := fun p => by exact (Keeps.refl w).alloc _
  have HK := Lib.hid hk
  clear hk
  go_enter Tryd.func44, Tryd.ntmps44
  go_wp2
  go_loopg [5, 6] 2 (fun g _ _ wx => ∃ i : Nat, i + g = 2 ∧ wx = w.iter ⟨#[42, 63]⟩ i)
  case atStart => exact ⟨0, by omega, rfl⟩
  case round =>
    obtain ⟨i, hig, rfl⟩ := hrel
    cases gk with
    | zero =>
      obtain rfl : i = 2 := by omega
      go_wp2
      go_ret
      exact ⟨rfl, HK.out _⟩
    | succ g =>
      cases g with
      | zero =>
        obtain rfl : i = 1 := by omega
        go_wp2
        go_roundg 0
        case measure => omega
        case rel => exact ⟨2, by omega, rfl⟩
      | succ g =>
        obtain rfl : i = 0 := by omega
        go_wp2
        go_roundg 1
        case measure => omega
        case rel => exact ⟨1, by omega, rfl⟩

set_option maxHeartbeats 4000000 in
set_option maxRecDepth 1000000 in
theorem ixr_long (r : Nat) (w : World) (h1 : 128 ≤ r) (h2 : r ≤ 2147483647) (h3 : r ≠ 65533) (hv : Lib.validRune r = true) (hn : 3 ≤ (Utf8.encode r).size) (hn4 : (Utf8.encode r).size ≤ 4) :
    Calls Tryd.prog 44 #[.string ⟨#[42, 63]⟩, .int .i32 r] w (RetM w) := by
  have cV := Lib.hid (fun w1 => Tryd.utf8_ValidRune r w1)
  rw [hv] at cV
  have e1 : ((r : Int) == 65533) = false := by simp; omega
  have e2 : ((r : Int) < 128) = False := by simp; omega
  generalize hs : Utf8.encode r = rs at hn hn4
  go_enter Tryd.func44, Tryd.ntmps44
  go_wp2_with fail
  refine (cV.out _).mono ?_
  rintro e w2 ⟨rfl, rfl⟩
  go_wp2
  go_step3
  go_wp2
  go_loopw [9] (fun i wx => i = .int .i64 ((rs.size : Int) - 1) ∧ wx = w2) (fun _ _ => 0)
  case atStart => exact ⟨by go_num, rfl⟩
  case round =>
    obtain ⟨rfl, rfl⟩ := hrel
    go_wp2
    go_ret
    exact ⟨rfl, Keeps.refl _⟩
end Go.Proofs.YtolfpkjohlbfdaaDoor
