/-
  The document's own Own, Of, queued, over, ends.
-/
import Derived.Test.YtfapilgmgjmfeaaGreatDoorRdg
import Derived.Test.YtfapilgmgjmfeaaGreatDoorOlk
import Derived.Test.YtfapilgmgjmfeaaGreatDoorOwe
namespace Go.Proofs.YtfapilgmgjmfeaaGreatDoor
open Go.RowKit

def endsB (k : Int) : Bool := k == 5 || k == 7 || k == 8
theorem ends_any (k : Int) (w : World) : Calls Tryz.prog 70 #[.int .i64 k] w (fun e w' => e = .returned (.bool (endsB k)) ∧ w' = w) := by
  unfold endsB
  by_cases h5 : k = 5
  · subst h5
    go_enter Tryz.func70, Tryz.ntmps70
    go_wp2
    go_ret
    exact ⟨rfl, rfl⟩
  · have f5 : (k == 5) = false := by simpa using h5
    by_cases h7 : k = 7
    · subst h7
      go_enter Tryz.func70, Tryz.ntmps70
      go_wp2
      go_ret
      exact ⟨rfl, rfl⟩
    · have f7 : (k == 7) = false := by simpa using h7
      rw [f5, f7, Bool.false_or, Bool.false_or]
      clear h5 h7
      go_enter Tryz.func70, Tryz.ntmps70
      go_wp2
      go_ret
      exact ⟨rfl, rfl⟩
/-- A slice of notes, one by one. -/
theorem notes_at {w : World} {A : Option Addr} {l : List Nt} (h : NotesAt w A l) {k : Nat} (hk : k < l.length) : ∃ g o, A = some ⟨g, o, none⟩ ∧ CellsAt w g (o + k * 9) (ntC (l[k]'hk)).toList := h k hk
def queuedZ (l : List Nt) : Int := l.foldl (fun a n => if n.kind = 3 then a + 1 else a) 0
theorem queuedZ_snoc (l : List Nt) (n : Nt) : queuedZ (l ++ [n]) = if n.kind = 3 then queuedZ l + 1 else queuedZ l := by
  unfold queuedZ; rw [List.foldl_append]; rfl
theorem queuedZ_take (l : List Nt) (k : Nat) (hk : k < l.length) : queuedZ (l.take (k + 1)) = if (l[k]'hk).kind = 3 then queuedZ (l.take k) + 1 else queuedZ (l.take k) := by
  rw [List.take_succ_eq_append_getElem hk, queuedZ_snoc]
theorem queuedZ_bound (l : List Nt) : 0 ≤ queuedZ l ∧ queuedZ l ≤ l.length := by
  have key : ∀ (l : List Nt) (a : Int), a ≤ l.foldl (fun a n => if n.kind = 3 then a + 1 else a) a ∧ l.foldl (fun a n => if n.kind = 3 then a + 1 else a) a ≤ a + l.length := by
    intro l
    induction l with
    | nil => intro a; simp
    | cons x t ih =>
      intro a
      rw [List.foldl_cons, List.length_cons]
      split
      · have := ih (a + 1); omega
      · have := ih a; omega
  have := key l 0
  unfold queuedZ
  omega
set_option maxHeartbeats 4000000 in
set_option maxRecDepth 100000 in
theorem queued_any (A : Option Addr) (c : Nat) (l : List Nt) (w : World) (hA : NotesAt w A l) (hlen : l.length ≤ 1000000) : Calls Tryz.prog 61 #[.slice A l.length c] w (fun e w' => e = .returned (.int .i64 (queuedZ l)) ∧ w' = w) := by
  have HA := Lib.hid hA
  have HQ := Lib.hid (fun k hk => queuedZ_take l k hk)
  have HB := Lib.hid (fun k => queuedZ_bound (l.take k))
  have HT := Lib.hid (fun k => (List.length_take_le' k l))
  have HF := Lib.hid (show queuedZ (l.take l.length) = queuedZ l by rw [List.take_length])
  generalize queuedZ l = res at *
  obtain ⟨L, hL⟩ : ∃ L, l.length = L := ⟨_, rfl⟩
  have HL := Lib.hid hL
  rw [hL] at HF hlen ⊢
  clear hA hL
  go_enter Tryz.func61, Tryz.ntmps61
  go_wp2
  go_loopg [3, 4] (L + 1) (fun g q i wr => ∃ k : Nat, q = .int .i64 (queuedZ (l.take k)) ∧ i = .int .i64 (k : Int) ∧ k ≤ L ∧ L - k < g ∧ wr = w)
  case atStart => exact ⟨0, rfl, rfl, Nat.zero_le _, by omega, rfl⟩
  case round =>
    obtain ⟨k, rfl, rfl, hkL, hkg, rfl⟩ := hrel
    by_cases hlt : k < L
    · have hlt' : k < l.length := by rw [HL.out]; exact hlt
      obtain ⟨g, o, hAe, hc⟩ := HA.out k hlt'
      subst hAe
      obtain ⟨e0, e1, e2, e3, e4, e5, e6, e7, e8⟩ := hc.nine
      have hq := HQ.out k hlt'
      have hb := HB.out k
      have hb2 : ((l.take k).length : Int) ≤ 1000000 := by have := HT.out k; have := HL.out; omega
      generalize l[k]'hlt' = nn at *
      generalize queuedZ (l.take k) = q0 at *
      have HQ2 := Lib.hid hq
      have f1 : decide ((k : Int) < (L : Int)) = true := by simp; omega
      have f1' : decide (k < L) = true := by simpa using hlt
      have q1 : (0 : Int) ≤ (k : Int) := by omega
      have q2 : (k : Int) < (L : Int) := by omega
      have b1 : 0 ≤ q0 := hb.1
      have b2 : q0 ≤ 1000000 := by omega
      clear hc hq hb hb2
      by_cases h3 : nn.kind = 3
      · have f3 : (nn.kind == 3) = true := by simpa using h3
        have hr := HQ2.out
        rw [if_pos h3] at hr
        have HR := Lib.hid hr
        clear h3 hr
        go_wp2
        cases gk with
        | zero => omega
        | succ g2 =>
          go_roundg g2
          case measure => omega
          case rel => exact ⟨k + 1, by rw [HR.out], by go_num, by omega, by omega, rfl⟩
      · have f3 : (nn.kind == 3) = false := by simpa using h3
        have hr := HQ2.out
        rw [if_neg h3] at hr
        have HR := Lib.hid hr
        clear h3 hr
        go_wp2
        cases gk with
        | zero => omega
        | succ g2 =>
          go_roundg g2
          case measure => omega
          case rel => exact ⟨k + 1, by rw [HR.out], by go_num, by omega, by omega, rfl⟩
    · obtain rfl : k = L := by omega
      rw [HF.out]
      have f1 : decide ((k : Int) < (k : Int)) = false := by simp
      have f1' : decide (k < k) = false := by simp
      go_wp2
      go_ret
      exact ⟨rfl, rfl⟩
end Go.Proofs.YtfapilgmgjmfeaaGreatDoor
