/-
  The contracts of EventID, Server, named, User, Room and Kind of package ident.
-/
import Derived.Test.YtjdlpfkcikomfabCut
namespace Go.Proofs.Ytjdlpfkcikomfab
open Go.RowKit

/-- What the closure of class has captured. -/
def IsClass (cap : Bool) (more : ByteArray) (a b : Addr) (w : World) : Prop := w.cell? a = some (.bool cap) ∧ w.cell? b = some (.string more)
theorem IsClass.later {cap : Bool} {more : ByteArray} {a b : Addr} {w w' : World} (h : IsClass cap more a b w) (k : Keeps w w') : IsClass cap more a b w' := ⟨k.cell h.1, k.cell h.2⟩

/-- The function value that class returns. -/
def Closed (cap : Bool) (more : ByteArray) (w : World) (e : Ending) (w' : World) : Prop :=
  ∃ a b : Addr, e = .returned (.func (.func 39) #[] #[.pointer (some a), .pointer (some b)]) ∧ IsClass cap more a b w' ∧ Keeps w w'

theorem closed_of (cap : Bool) (more : ByteArray) (w : World) : IsClass cap more ⟨w.heap.size, 0, none⟩ ⟨w.heap.size + 1, 0, none⟩ ((w.alloc (.cells #[.bool cap] 4)).alloc (.cells #[.string more] 9)) := by
  refine ⟨?_, ?_⟩
  · rw [World.cell?_alloc_past _ _ _ (by simp), World.cell?_alloc_at _ _ _ _ rfl]; rfl
  · rw [World.cell?_alloc_at _ _ _ _ (by simp)]; rfl

set_option maxHeartbeats 1000000 in
theorem class_any (cap : Bool) (more : ByteArray) (w : World) : Calls Try.prog 26 #[.bool cap, .string more] w (Closed cap more w) := by
  have hmf : ∀ (fn : Fn) (first cap : Array Value) (w : World), (Instr.makeFunc fn first cap).run Try.prog w = .ok (.func fn first cap) w := fun _ _ _ _ => rfl
  have hc := Lib.hid (closed_of cap more w)
  go_enter Try.func26, Try.ntmps26
  go_wp2
  go_ret
  exact ⟨_, _, rfl, hc.out, ((Keeps.refl w).alloc _).alloc _⟩

theorem of_cl (s : ByteArray) (cap : Bool) (more : ByteArray) (a b : Addr) (w : World) (hs : s.size ≤ maxLen) (h : IsClass cap more a b w) :
    Calls Try.prog 29 #[.string s, .func (.func 39) #[] #[.pointer (some a), .pointer (some b)]] w (RetB (ofB (classB cap more.data.toList) s.data.toList) w) := of_class s cap more a b w hs h.1 h.2

def eventB (l : List UInt8) : Bool := if Lib.hasPrefix l [36] = true ∧ l.length ≤ 65 then ofB (classB true [95, 45, 46, 126, 47]) (Lib.trimPrefix l [36]) else false

set_option maxHeartbeats 1000000 in
theorem event_any (s : ByteArray) (w : World) (hs : s.size ≤ maxLen) : Calls Try.prog 19 #[.string s] w (RetQ (eventB s.data.toList) w) := by
  have cP := (Try.strings_CutPrefix s ⟨#[36]⟩ w).mono (fun e w' h => (⟨h.1, h.2.symm⟩ : e = .returned (.tuple #[.string (S (Lib.trimPrefix s.data.toList [36])), .bool (Lib.hasPrefix s.data.toList [36])]) ∧ w = w'))
  have hl : s.data.toList.length = s.size := by simp
  have hr : (S (Lib.trimPrefix s.data.toList [36])).size ≤ maxLen := by rw [S_size]; exact Nat.le_trans (Lib.trimPrefix_le _ _) (by rw [hl]; exact hs)
  have cO := fun a b (w : World) (h : IsClass true ⟨#[95, 45, 46, 126, 47]⟩ a b w) => of_cl (S (Lib.trimPrefix s.data.toList [36])) true ⟨#[95, 45, 46, 126, 47]⟩ a b w hr h
  unfold maxLen at hs
  by_cases hp : Lib.hasPrefix s.data.toList [36] = true ∧ s.data.toList.length ≤ 65
  · have hB : eventB s.data.toList = ofB (classB true [95, 45, 46, 126, 47]) (Lib.trimPrefix s.data.toList [36]) := by unfold eventB; rw [if_pos hp]
    rw [hB]
    obtain ⟨hp1, hp2⟩ := hp
    rw [hl] at hp2
    rw [hp1] at cP
    simp only [S_data] at cO
    generalize ofB (classB true [95, 45, 46, 126, 47]) (Lib.trimPrefix s.data.toList [36]) = r at cO ⊢
    have CO := Lib.hid cO
    clear cO hB hp1 hr hl
    generalize S (Lib.trimPrefix s.data.toList [36]) = t at cP CO
    go_enter Try.func19, Try.ntmps19
    go_wp2_with (go_at_call 35; refine cP.mono ?_; rintro e w' ⟨rfl, rfl⟩)
    go_wp2_with fail
    refine (class_any true ⟨#[95, 45, 46, 126, 47]⟩ _).mono ?_
    rintro e w1 ⟨a, b, rfl, hcl, hk⟩
    go_wp2_with fail
    refine (CO.out a b _ hcl).mono ?_
    rintro e w2 ⟨rfl, rfl⟩
    go_wp2
    go_ret
    exact RetQ.of rfl hk
  · have hB : eventB s.data.toList = false := by unfold eventB; rw [if_neg hp]
    rw [hB]
    cases hh : Lib.hasPrefix s.data.toList [36]
    · rw [hh] at cP
      generalize S (Lib.trimPrefix s.data.toList [36]) = t at cP
      clear hB hp hh cO hr hl
      go_enter Try.func19, Try.ntmps19
      go_wp2_with (go_at_call 35; refine cP.mono ?_; rintro e w' ⟨rfl, rfl⟩)
      go_ret
      exact RetQ.of rfl (Keeps.refl _)
    · have hp' : 65 < s.size := by
        rw [hl] at hp; rw [hh] at hp; simp at hp; exact hp
      rw [hh] at cP
      generalize S (Lib.trimPrefix s.data.toList [36]) = t at cP
      clear hB hp hh cO hr hl
      go_enter Try.func19, Try.ntmps19
      go_wp2_with (go_at_call 35; refine cP.mono ?_; rintro e w' ⟨rfl, rfl⟩)
      go_ret
      exact RetQ.of rfl (Keeps.refl _)
end Go.Proofs.Ytjdlpfkcikomfab
