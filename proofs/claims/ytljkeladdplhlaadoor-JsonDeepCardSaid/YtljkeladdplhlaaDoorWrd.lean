/-
  The contracts of ReadNumber, Word and Number of package scan, whatever the bytes.
-/
import Derived.Test.YtljkeladdplhlaaDoorNum
namespace Go.Proofs.YtljkeladdplhlaaDoor
open Go.RowKit

theorem rn_any (s : ByteArray) (w : World) (hs : s.size ≤ 1000000) : Calls Tryd.prog 77 #[.string s] w (RetN (readL s.data.toList) w) := by
  unfold readL
  cases hp : Lib.hasPrefix s.data.toList [45]
  · rw [if_neg (by decide)]; exact rn_0 s w hs hp
  · rw [if_pos rfl]; exact rn_1 s w hs hp

/-- The table of powers of ten. -/
def wd (k : Nat) : ByteArray := if k = 0 then ⟨#[116, 114, 117, 101]⟩ else if k = 1 then ⟨#[102, 97, 108, 115, 101]⟩ else ⟨#[110, 117, 108, 108]⟩

set_option maxHeartbeats 2000000 in
set_option maxRecDepth 100000 in
theorem word_any (s : ByteArray) (w : World) : Calls Tryd.prog 78 #[.string s] w (fun e w' => e = .returned (.string (S (wordL s.data.toList))) ∧ w' = w) := by
  have cH := Lib.hid (fun p w1 => Tryd.strings_HasPrefix s p w1)
  unfold wordL
  have i0 : ∀ w, (Instr.index 95 (.agg #[.string ⟨#[116, 114, 117, 101]⟩, .string ⟨#[102, 97, 108, 115, 101]⟩, .string ⟨#[110, 117, 108, 108]⟩]) (.int .i64 0)).run Tryd.prog w = .ok (.string ⟨#[116, 114, 117, 101]⟩) w := fun _ => by kernel_rfl
  have i1 : ∀ w, (Instr.index 95 (.agg #[.string ⟨#[116, 114, 117, 101]⟩, .string ⟨#[102, 97, 108, 115, 101]⟩, .string ⟨#[110, 117, 108, 108]⟩]) (.int .i64 1)).run Tryd.prog w = .ok (.string ⟨#[102, 97, 108, 115, 101]⟩) w := fun _ => by kernel_rfl
  have i2 : ∀ w, (Instr.index 95 (.agg #[.string ⟨#[116, 114, 117, 101]⟩, .string ⟨#[102, 97, 108, 115, 101]⟩, .string ⟨#[110, 117, 108, 108]⟩]) (.int .i64 2)).run Tryd.prog w = .ok (.string ⟨#[110, 117, 108, 108]⟩) w := fun _ => by kernel_rfl
  have c1 : ∀ b, Lib.hasPrefix s.data.toList [116, 114, 117, 101] = b → Hid (∀ w1, Calls Tryd.prog 79 #[.string s, .string ⟨#[116, 114, 117, 101]⟩] w1 (fun e w' => e = .returned (.bool b) ∧ w' = w1)) := fun b hb => Lib.hid (fun w1 => by have := cH.out ⟨#[116, 114, 117, 101]⟩ w1; rwa [show (⟨#[116, 114, 117, 101]⟩ : ByteArray).data.toList = [116, 114, 117, 101] from rfl, hb] at this)
  have c2 : ∀ b, Lib.hasPrefix s.data.toList [102, 97, 108, 115, 101] = b → Hid (∀ w1, Calls Tryd.prog 79 #[.string s, .string ⟨#[102, 97, 108, 115, 101]⟩] w1 (fun e w' => e = .returned (.bool b) ∧ w' = w1)) := fun b hb => Lib.hid (fun w1 => by have := cH.out ⟨#[102, 97, 108, 115, 101]⟩ w1; rwa [show (⟨#[102, 97, 108, 115, 101]⟩ : ByteArray).data.toList = [102, 97, 108, 115, 101] from rfl, hb] at this)
  have c3 : ∀ b, Lib.hasPrefix s.data.toList [110, 117, 108, 108] = b → Hid (∀ w1, Calls Tryd.prog 79 #[.string s, .string ⟨#[110, 117, 108, 108]⟩] w1 (fun e w' => e = .returned (.bool b) ∧ w' = w1)) := fun b hb => Lib.hid (fun w1 => by have := cH.out ⟨#[110, 117, 108, 108]⟩ w1; rwa [show (⟨#[110, 117, 108, 108]⟩ : ByteArray).data.toList = [110, 117, 108, 108] from rfl, hb] at this)
  cases h1 : Lib.hasPrefix s.data.toList [116, 114, 117, 101]
  · have c1' := c1 _ h1
    rw [if_neg (by decide)]
    cases h2 : Lib.hasPrefix s.data.toList [102, 97, 108, 115, 101]
    · have c2' := c2 _ h2
      rw [if_neg (by decide)]
      cases h3 : Lib.hasPrefix s.data.toList [110, 117, 108, 108]
      · have c3' := c3 _ h3
        rw [if_neg (by decide)]
        clear c1 c2 c3 cH h1 h2 h3
        go_enter Tryd.func78, Tryd.ntmps78
        go_wp2
        refine wp_loop_rounds 4 ?_
        rw [rounds_succ]
        go_wp2_with fail
        refine (c1'.out _).mono ?_
        rintro e w2 ⟨rfl, rfl⟩
        go_wp2
        rw [rounds_succ]
        go_wp2_with fail
        refine (c2'.out _).mono ?_
        rintro e w2 ⟨rfl, rfl⟩
        go_wp2
        rw [rounds_succ]
        go_wp2_with fail
        refine (c3'.out _).mono ?_
        rintro e w2 ⟨rfl, rfl⟩
        go_wp2
        rw [rounds_succ]
        go_wp2
        go_ret
        exact ⟨rfl, rfl⟩
      · have c3' := c3 _ h3
        rw [if_pos rfl]
        clear c1 c2 c3 cH h1 h2 h3
        go_enter Tryd.func78, Tryd.ntmps78
        go_wp2
        refine wp_loop_rounds 4 ?_
        rw [rounds_succ]
        go_wp2_with fail
        refine (c1'.out _).mono ?_
        rintro e w2 ⟨rfl, rfl⟩
        go_wp2
        rw [rounds_succ]
        go_wp2_with fail
        refine (c2'.out _).mono ?_
        rintro e w2 ⟨rfl, rfl⟩
        go_wp2
        rw [rounds_succ]
        go_wp2_with fail
        refine (c3'.out _).mono ?_
        rintro e w2 ⟨rfl, rfl⟩
        go_wp2
        go_ret
        exact ⟨rfl, rfl⟩
    · have c2' := c2 _ h2
      rw [if_pos rfl]
      clear c1 c2 c3 cH h1 h2
      go_enter Tryd.func78, Tryd.ntmps78
      go_wp2
      refine wp_loop_rounds 4 ?_
      rw [rounds_succ]
      go_wp2_with fail
      refine (c1'.out _).mono ?_
      rintro e w2 ⟨rfl, rfl⟩
      go_wp2
      rw [rounds_succ]
      go_wp2_with fail
      refine (c2'.out _).mono ?_
      rintro e w2 ⟨rfl, rfl⟩
      go_wp2
      go_ret
      exact ⟨rfl, rfl⟩
  · have c1' := c1 _ h1
    rw [if_pos rfl]
    clear c1 c2 c3 cH h1
    go_enter Tryd.func78, Tryd.ntmps78
    go_wp2
    refine wp_loop_rounds 4 ?_
    rw [rounds_succ]
    go_wp2_with fail
    refine (c1'.out _).mono ?_
    rintro e w2 ⟨rfl, rfl⟩
    go_wp2
    go_ret
    exact ⟨rfl, rfl⟩
end Go.Proofs.YtljkeladdplhlaaDoor
