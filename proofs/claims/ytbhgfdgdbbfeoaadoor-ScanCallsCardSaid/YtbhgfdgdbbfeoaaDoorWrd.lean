/-
  The contracts of ReadNumber, Word and Number of package scan, whatever the bytes.
-/
import Derived.Test.YtbhgfdgdbbfeoaaDoorNum
namespace Go.Proofs.YtbhgfdgdbbfeoaaDoor
open Go.RowKit

theorem rn_any (s : ByteArray) (w : World) (hs : s.size ≤ 1000000) : Calls Tryd.prog 10 #[.string s] w (RetN (readL s.data.toList) w) := by
  unfold readL
  cases hp : Lib.hasPrefix s.data.toList [45]
  · rw [if_neg (by decide)]; exact rn_0 s w hs hp
  · rw [if_pos rfl]; exact rn_1 s w hs hp

/-- The table of powers of ten. -/
def Tab (w : World) : Prop := Lib.TabIs Tryd.prog w "internal/strconv.uint64pow10" .u64 Lib.pow10Tab
theorem tab_g : Tryd.prog.globalNamed "internal/strconv.uint64pow10" = some 2 := by kernel_rfl
theorem Tab.keeps {w w' : World} (h : Tab w) (k : Keeps w w') : Tab w' := by
  exact Go.Joins.tab_stays tab_g h k (Nat.le_refl _)
theorem grow_keeps (w : World) (k : Nat) (os : Array Obj) : Keeps w (Sort.grow (w.drewN k) os) := by
  have h1 : Keeps w (w.drewN k) := (Keeps.refl w).drewN k
  refine h1.trans ?_
  generalize w.drewN k = v
  exact ⟨rfl, rfl, rfl, by simp [Sort.grow], fun i hi => by
    show (v.heap ++ os)[i]? = _
    rw [Array.getElem?_append_left hi]⟩

def numR (n : Int) : List UInt8 × Nat := if n < -9007199254740991 ∨ 9007199254740991 < n then ([], 2) else (Lib.itoa n, 0)

set_option maxHeartbeats 2000000 in
theorem number_any (n : Int) (h0 : -9223372036854775808 ≤ n) (h1 : n ≤ 9223372036854775807) (w : World) (ht : Tab w) : Calls Tryd.prog 19 #[.int .i64 n] w (RetT (numR n) w) := by
  have cF := Lib.hid (Tryd.strconv_FormatInt_10 n h0 h1 w ht)
  have hr1 : n < -9007199254740991 → numR n = ([], 2) := fun h => if_pos (.inl h)
  have hr2 : 9007199254740991 < n → numR n = ([], 2) := fun h => if_pos (.inr h)
  have hr3 : ¬ n < -9007199254740991 → ¬ 9007199254740991 < n → numR n = (Lib.itoa n, 0) := fun h h' => if_neg (by omega)
  by_cases g1 : n < -9007199254740991
  · rw [hr1 g1]
    have d1 : decide (n < -9007199254740991) = true := by simp; omega
    clear g1 hr1 hr2 hr3 cF h0 h1 ht
    go_enter Tryd.func19, Tryd.ntmps19
    go_wp2
    go_ret2
    exact RetT.of rfl rfl (Keeps.refl _)
  have d1 : decide (n < -9007199254740991) = false := by simp; omega
  by_cases g2 : 9007199254740991 < n
  · rw [hr2 g2]
    have d2 : decide ((9007199254740991 : Int) < n) = true := by simp; omega
    clear g1 g2 hr1 hr2 hr3 cF h0 h1 ht
    go_enter Tryd.func19, Tryd.ntmps19
    go_wp2
    go_ret2
    exact RetT.of rfl rfl (Keeps.refl _)
  have d2 : decide ((9007199254740991 : Int) < n) = false := by simp; omega
  rw [hr3 g1 g2]
  clear g1 g2 hr1 hr2 hr3 h0 h1 ht
  go_enter Tryd.func19, Tryd.ntmps19
  go_wp2_with fail
  refine cF.out.mono ?_
  rintro e w2 ⟨rfl, k, os, hw⟩
  have HK : Hid (Keeps w w2) := Lib.hid (by rw [hw]; exact grow_keeps w k os)
  clear hw
  go_wp2
  go_ret2
  exact RetT.of rfl rfl HK.out

def wd (k : Nat) : ByteArray := if k = 0 then ⟨#[116, 114, 117, 101]⟩ else if k = 1 then ⟨#[102, 97, 108, 115, 101]⟩ else ⟨#[110, 117, 108, 108]⟩

set_option maxHeartbeats 2000000 in
set_option maxRecDepth 100000 in
theorem word_any (s : ByteArray) (w : World) : Calls Tryd.prog 13 #[.string s] w (fun e w' => e = .returned (.string (S (wordL s.data.toList))) ∧ w' = w) := by
  have cH := Lib.hid (fun p w1 => Tryd.strings_HasPrefix s p w1)
  unfold wordL
  have i0 : ∀ w, (Instr.index 51 (.agg #[.string ⟨#[116, 114, 117, 101]⟩, .string ⟨#[102, 97, 108, 115, 101]⟩, .string ⟨#[110, 117, 108, 108]⟩]) (.int .i64 0)).run Tryd.prog w = .ok (.string ⟨#[116, 114, 117, 101]⟩) w := fun _ => by kernel_rfl
  have i1 : ∀ w, (Instr.index 51 (.agg #[.string ⟨#[116, 114, 117, 101]⟩, .string ⟨#[102, 97, 108, 115, 101]⟩, .string ⟨#[110, 117, 108, 108]⟩]) (.int .i64 1)).run Tryd.prog w = .ok (.string ⟨#[102, 97, 108, 115, 101]⟩) w := fun _ => by kernel_rfl
  have i2 : ∀ w, (Instr.index 51 (.agg #[.string ⟨#[116, 114, 117, 101]⟩, .string ⟨#[102, 97, 108, 115, 101]⟩, .string ⟨#[110, 117, 108, 108]⟩]) (.int .i64 2)).run Tryd.prog w = .ok (.string ⟨#[110, 117, 108, 108]⟩) w := fun _ => by kernel_rfl
  have c1 : ∀ b, Lib.hasPrefix s.data.toList [116, 114, 117, 101] = b → Hid (∀ w1, Calls Tryd.prog 29 #[.string s, .string ⟨#[116, 114, 117, 101]⟩] w1 (fun e w' => e = .returned (.bool b) ∧ w' = w1)) := fun b hb => Lib.hid (fun w1 => by have := cH.out ⟨#[116, 114, 117, 101]⟩ w1; rwa [show (⟨#[116, 114, 117, 101]⟩ : ByteArray).data.toList = [116, 114, 117, 101] from rfl, hb] at this)
  have c2 : ∀ b, Lib.hasPrefix s.data.toList [102, 97, 108, 115, 101] = b → Hid (∀ w1, Calls Tryd.prog 29 #[.string s, .string ⟨#[102, 97, 108, 115, 101]⟩] w1 (fun e w' => e = .returned (.bool b) ∧ w' = w1)) := fun b hb => Lib.hid (fun w1 => by have := cH.out ⟨#[102, 97, 108, 115, 101]⟩ w1; rwa [show (⟨#[102, 97, 108, 115, 101]⟩ : ByteArray).data.toList = [102, 97, 108, 115, 101] from rfl, hb] at this)
  have c3 : ∀ b, Lib.hasPrefix s.data.toList [110, 117, 108, 108] = b → Hid (∀ w1, Calls Tryd.prog 29 #[.string s, .string ⟨#[110, 117, 108, 108]⟩] w1 (fun e w' => e = .returned (.bool b) ∧ w' = w1)) := fun b hb => Lib.hid (fun w1 => by have := cH.out ⟨#[110, 117, 108, 108]⟩ w1; rwa [show (⟨#[110, 117, 108, 108]⟩ : ByteArray).data.toList = [110, 117, 108, 108] from rfl, hb] at this)
  cases h1 : Lib.hasPrefix s.data.toList [116, 114, 117, 101]
  · have c1' := c1 _ h1
    rw [if_neg (by decide)]
    cases h2 : Lib.hasPrefix s.data.toList [102, 97, 108, 115, 101]
    · have c2' := c2 _ h2
      rw [if_neg (by decide)]
      cases h3 : Lib.hasPrefix s.data.toList [110, 117, 108, 108]
      · have c3' := c3 _ h3
        rw [if_neg (by decide)]
        clear c1 c2 c3 cH h1 h2 h3
        go_enter Tryd.func13, Tryd.ntmps13
        go_wp2
        refine wp_loop_rounds 4 ?_
        rw [rounds_succ]
        go_wp2_with fail
        refine (c1'.out _).mono ?_
        rintro e w2 ⟨rfl, rfl⟩
        go_wp2
        rw [rounds_succ]
        go_wp2_with fail
        refine (c2'.out _).mono ?_
        rintro e w2 ⟨rfl, rfl⟩
        go_wp2
        rw [rounds_succ]
        go_wp2_with fail
        refine (c3'.out _).mono ?_
        rintro e w2 ⟨rfl, rfl⟩
        go_wp2
        rw [rounds_succ]
        go_wp2
        go_ret
        exact ⟨rfl, rfl⟩
      · have c3' := c3 _ h3
        rw [if_pos rfl]
        clear c1 c2 c3 cH h1 h2 h3
        go_enter Tryd.func13, Tryd.ntmps13
        go_wp2
        refine wp_loop_rounds 4 ?_
        rw [rounds_succ]
        go_wp2_with fail
        refine (c1'.out _).mono ?_
        rintro e w2 ⟨rfl, rfl⟩
        go_wp2
        rw [rounds_succ]
        go_wp2_with fail
        refine (c2'.out _).mono ?_
        rintro e w2 ⟨rfl, rfl⟩
        go_wp2
        rw [rounds_succ]
        go_wp2_with fail
        refine (c3'.out _).mono ?_
        rintro e w2 ⟨rfl, rfl⟩
        go_wp2
        go_ret
        exact ⟨rfl, rfl⟩
    · have c2' := c2 _ h2
      rw [if_pos rfl]
      clear c1 c2 c3 cH h1 h2
      go_enter Tryd.func13, Tryd.ntmps13
      go_wp2
      refine wp_loop_rounds 4 ?_
      rw [rounds_succ]
      go_wp2_with fail
      refine (c1'.out _).mono ?_
      rintro e w2 ⟨rfl, rfl⟩
      go_wp2
      rw [rounds_succ]
      go_wp2_with fail
      refine (c2'.out _).mono ?_
      rintro e w2 ⟨rfl, rfl⟩
      go_wp2
      go_ret
      exact ⟨rfl, rfl⟩
  · have c1' := c1 _ h1
    rw [if_pos rfl]
    clear c1 c2 c3 cH h1
    go_enter Tryd.func13, Tryd.ntmps13
    go_wp2
    refine wp_loop_rounds 4 ?_
    rw [rounds_succ]
    go_wp2_with fail
    refine (c1'.out _).mono ?_
    rintro e w2 ⟨rfl, rfl⟩
    go_wp2
    go_ret
    exact ⟨rfl, rfl⟩
end Go.Proofs.YtbhgfdgdbbfeoaaDoor
