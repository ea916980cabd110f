/-
  The walk of the statement on normal forms of globs.
-/
import Derived.Test.YtolfpkjohlbfdaaDoorLgt
import Derived.Test.YtolfpkjohlbfdaaDoorLit
import Derived.Test.YtolfpkjohlbfdaaDoorNrm
namespace Go.Proofs.YtolfpkjohlbfdaaDoor
open Go.RowKit

def two (p t : ByteArray) : Obj := .cells #[.string p, .string t] 9
theorem two_at (p t : ByteArray) (w : World) : TextsAt (w.alloc (two p t)) ⟨w.heap.size, 0, none⟩ [p, t] := by
  intro k hk
  have e : (⟨w.heap.size, 0, none⟩ : Addr).add k = ⟨w.heap.size, k, none⟩ := by
    unfold Addr.add
    split
    · simp_all
    · simp
  rw [e]
  have hh := heap_alloc_new w (two p t)
  have hk : k = 0 ∨ k = 1 := by simp at hk; omega
  rcases hk with rfl | rfl
  · rw [Lib.cell_of_heap hh]; rfl
  · rw [Lib.cell_of_heap hh]; rfl
def light2 (p t : ByteArray) : Bool := decide (p.size ≤ 300) && decide (t.size ≤ 300)
theorem light2_eq (p t : ByteArray) : lightB [p, t] 4 300 = light2 p t := by simp [lightB, light2]
theorem light_two (p t : ByteArray) (w : World) (hp : p.size ≤ maxLen) (ht : t.size ≤ maxLen) :
    Calls Tryd.prog 15 #[.slice (some ⟨w.heap.size, 0, none⟩) 2 2] (w.alloc (two p t)) (RetQ (light2 p t) (w.alloc (two p t))) := by
  rw [← light2_eq]
  exact light_any [p, t] ⟨w.heap.size, 0, none⟩ 2 (w.alloc (two p t)) (by simp) (by simp [hp, ht]) (two_at p t w)

set_option maxHeartbeats 1000000 in
theorem norm_big (p t : ByteArray) (fo : Bool) (w : World) (hp : p.size ≤ maxLen) (ht : t.size ≤ maxLen) (g : light2 p t = false) :
    Calls Tryd.prog 5 #[.string p, .string t, .bool fo] w (RetQ true w) := by
  have cL := Lib.hid (fun w => lives_any w)
  have cF : Hid (∀ w1 : World, Calls Tryd.prog 15 #[.slice (some ⟨w1.heap.size, 0, none⟩) 2 2] (w1.alloc (two p t)) (RetQ false (w1.alloc (two p t)))) := Lib.hid (fun w1 => by rw [← g]; exact light_two p t w1 hp ht)
  clear hp ht g
  go_enter Tryd.func5, Tryd.ntmps5
  go_wp2_with fail
  refine (cL.out _).mono ?_
  rintro e w2 ⟨rfl, h⟩
  have K2 := Lib.hid h
  clear h
  go_wp2_with fail
  refine (cF.out w2).mono ?_
  rintro e w3 ⟨rfl, h⟩
  have k3 := (K2.out.alloc _).trans h
  clear h
  go_wp2
  go_ret
  exact RetQ.of rfl k3

theorem none_empty : ((⟨#[]⟩ : ByteArray).toList.isEmpty) = true := by rw [ByteArray.toList_eq]; rfl
end Go.Proofs.YtolfpkjohlbfdaaDoor
