/-
  strings.IndexRune at the text of both wildcards and a rune of two bytes: none.
-/
import Derived.Test.YtolfpkjohlbfdaaDoorIxr
import Derived.BigQuiet
namespace Go.Proofs.YtolfpkjohlbfdaaDoor
open Go.RowKit

theorem quiet_add_same {P : Program} {f : FuncId} {args : Array Value} {w : World} {a n : Nat} {v : Value}
    (h : Calls P f args (w.drewN (a + n)) fun e w' => e = .returned v ∧ w' = w.drewN (a + n)) : Calls P f args (w.drewN (a + n)) fun e w'' => e = .returned v ∧ ∃ m, w'' = (w.drewN a).drewN m :=
  h.mono fun _ _ ⟨he, hm⟩ => ⟨he, n, by rw [hm, World.drewN_drewN]⟩

theorem quiet_add_same' {P : Program} {f : FuncId} {args : Array Value} {w : World} {a n : Nat} {v : Value}
    (h : Calls P f args (w.drewN (a + n)) fun e w' => e = .returned v ∧ w' = w.drewN (a + n)) : Calls P f args (w.drewN (a + n)) fun e w'' => e = .returned v ∧ ∃ m, w'' = w.drewN (a + m) :=
  h.mono fun _ _ ⟨he, hm⟩ => ⟨he, n, hm⟩

set_option maxHeartbeats 4000000 in
set_option maxRecDepth 1000000 in
theorem ixr_two (r : Nat) (rs : ByteArray) (w : World) (h1 : 128 ≤ r) (h2 : r ≤ 2147483647) (h3 : r ≠ 65533) (hv : Lib.validRune r = true) (hs : Utf8.encode r = rs) (hn : rs.size = 2) (hb : ∀ h : 1 < rs.size, 128 ≤ (rs[1]'h).toNat) :
    Calls Tryd.prog 44 #[.string ⟨#[42, 63]⟩, .int .i32 r] w (RetM w) := by
  have cV := Lib.hid (fun w1 => Tryd.utf8_ValidRune r w1)
  have cI : Hid (∀ (c : Int) (w1 : World), Calls Tryd.prog 52 #[.string ⟨#[]⟩, .int .u8 c] w1 fun e w' => e = .returned (.int .i64 (-1)) ∧ w' = w1) := Lib.hid (fun c w1 => Tryd.strings_IndexByte ⟨#[]⟩ c w1)
  rw [hv] at cV
  have e1 : ((r : Int) == 65533) = false := by simp; omega
  have e2 : ((r : Int) < 128) = False := by simp; omega
  obtain ⟨c, hc⟩ : ∃ c : UInt8, rs[1]'(by omega) = c := ⟨_, rfl⟩
  have hc1 : 128 ≤ c.toNat := by rw [← hc]; exact hb _
  have e3 : ((63 : Int) == (c.toNat : Int)) = false := by simp; omega
  have at1' : ∀ (h : 1 < (⟨#[42, 63]⟩ : ByteArray).size), ((⟨#[42, 63]⟩ : ByteArray)[1]'h).toNat = 63 := fun _ => rfl
  have e4 : ((63 : Int) != (c.toNat : Int)) = true := by simp; omega
  have e5 : ¬ (63 : Int) = (c.toNat : Int) := by omega
  have hw2 : IntKind.i64.wrap 2 = 2 := by rfl
  have hsl : ∀ (w1 : World), (Instr.slice 9 (.string ⟨#[42, 63]⟩) (some (.int .i64 2)) none none).run Tryd.prog w1 = .ok (.string ⟨#[]⟩) w1 := fun w1 => by kernel_rfl
  go_enter Tryd.func44, Tryd.ntmps44
  go_wp2_with fail
  refine (cV.out _).mono ?_
  rintro e w2 ⟨rfl, rfl⟩
  go_wp2
  go_step3
  go_wp2
  go_loopw [9] (fun i wx => i = .int .i64 1 ∧ wx = w2) (fun _ _ => 0)
  case atStart => exact ⟨by go_num, rfl⟩
  case round =>
    obtain ⟨rfl, rfl⟩ := hrel
    go_wp2
    go_step3
    go_wp2
    go_quiet (fail)
    go_wp2
    go_quiet (first | (go_at_call 52; first | exact quiet_add_same' (cI.out _ _) | exact quiet_add_same (cI.out _ _) | exact Calls.quiet_of_same (cI.out _ _)))
    all_goals go_wp2
    all_goals go_ret
    all_goals exact ⟨rfl, by first | exact (Keeps.refl _).drewN _ | exact ((Keeps.refl _).drewN _).drewN _⟩
end Go.Proofs.YtolfpkjohlbfdaaDoor
