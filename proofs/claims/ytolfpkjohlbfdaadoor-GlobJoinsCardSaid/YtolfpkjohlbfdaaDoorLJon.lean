/-
  The walk of the statement that what matches two globs, put together, matches the globs put together.
-/
import Derived.Test.YtolfpkjohlbfdaaDoorLgt
namespace Go.Proofs.YtolfpkjohlbfdaaDoor
open Go.RowKit

def four (p q s t : ByteArray) : Obj := .cells #[.string p, .string q, .string s, .string t] 9

theorem four_at (p q s t : ByteArray) (w : World) : TextsAt (w.alloc (four p q s t)) ⟨w.heap.size, 0, none⟩ [p, q, s, t] := by
  intro k hk
  have e : (⟨w.heap.size, 0, none⟩ : Addr).add k = ⟨w.heap.size, k, none⟩ := by
    unfold Addr.add
    split
    · simp_all
    · simp
  rw [e]
  have hh := heap_alloc_new w (four p q s t)
  have hk : k = 0 ∨ k = 1 ∨ k = 2 ∨ k = 3 := by simp at hk; omega
  rcases hk with rfl | rfl | rfl | rfl
  · rw [Lib.cell_of_heap hh]; rfl
  · rw [Lib.cell_of_heap hh]; rfl
  · rw [Lib.cell_of_heap hh]; rfl
  · rw [Lib.cell_of_heap hh]; rfl

def lightF (p q s t : ByteArray) : Bool := decide (p.size ≤ 300) && decide (q.size ≤ 300) && decide (s.size ≤ 300) && decide (t.size ≤ 300)
theorem lightF_eq (p q s t : ByteArray) : lightB [p, q, s, t] 4 300 = lightF p q s t := by simp [lightB, lightF, Bool.and_assoc]

theorem light_four (p q s t : ByteArray) (w : World) (hp : p.size ≤ maxLen) (hq : q.size ≤ maxLen) (hs : s.size ≤ maxLen) (ht : t.size ≤ maxLen) :
    Calls Tryd.prog 15 #[.slice (some ⟨w.heap.size, 0, none⟩) 4 4] (w.alloc (four p q s t)) (RetQ (lightF p q s t) (w.alloc (four p q s t))) := by
  rw [← lightF_eq]
  exact light_any [p, q, s, t] ⟨w.heap.size, 0, none⟩ 4 (w.alloc (four p q s t)) (by simp) (by simp [hp, hq, hs, ht]) (four_at p q s t w)

set_option maxHeartbeats 1000000 in
theorem join_big (p q s t b : ByteArray) (fo : Bool) (w : World) (hp : p.size ≤ maxLen) (hq : q.size ≤ maxLen) (hs : s.size ≤ maxLen) (ht : t.size ≤ maxLen) (hb : b.size ≤ maxLen) (g : lightF p q s t = false ∨ 300 < b.size) :
    Calls Tryd.prog 6 #[.string p, .string q, .string s, .string t, .string b, .bool fo] w (RetQ true w) := by
  have cL := Lib.hid (fun w => lives_any w)
  have cF : Hid (∀ w1 : World, Calls Tryd.prog 15 #[.slice (some ⟨w1.heap.size, 0, none⟩) 4 4] (w1.alloc (four p q s t)) (RetQ (lightF p q s t) (w1.alloc (four p q s t)))) := Lib.hid (fun w1 => light_four p q s t w1 hp hq hs ht)
  unfold maxLen at hb
  generalize lightF p q s t = l at cF g
  cases l
  · go_enter Tryd.func6, Tryd.ntmps6
    go_wp2_with fail
    refine (cL.out _).mono ?_
    rintro e w2 ⟨rfl, h⟩
    have K2 := Lib.hid h
    clear h
    go_wp2_with fail
    refine (cF.out w2).mono ?_
    rintro e w3 ⟨rfl, h⟩
    have k3 := (K2.out.alloc _).trans h
    clear h
    go_wp2
    go_ret
    exact RetQ.of rfl k3
  · have g : 300 < b.size := by simpa using g
    go_enter Tryd.func6, Tryd.ntmps6
    go_wp2_with fail
    refine (cL.out _).mono ?_
    rintro e w2 ⟨rfl, h⟩
    have K2 := Lib.hid h
    clear h
    go_wp2_with fail
    refine (cF.out w2).mono ?_
    rintro e w3 ⟨rfl, h⟩
    have k3 := (K2.out.alloc _).trans h
    clear h
    go_wp2
    go_ret
    exact RetQ.of rfl k3

theorem star_size : (⟨#[42]⟩ : ByteArray).size = 1 := rfl

set_option maxHeartbeats 1000000 in
theorem join_small (p q s t b : ByteArray) (fo : Bool) (w : World) (hl : lightF p q s t = true) (hb : b.size ≤ 300) :
    Calls Tryd.prog 6 #[.string p, .string q, .string s, .string t, .string b, .bool fo] w (RetQ true w) := by
  have hl' : ((p.size ≤ 300 ∧ q.size ≤ 300) ∧ s.size ≤ 300) ∧ t.size ≤ 300 := by simpa [lightF] using hl
  obtain ⟨⟨⟨hp, hq⟩, hs⟩, ht⟩ := hl'
  have cL := Lib.hid (fun w => lives_any w)
  have cF : Hid (∀ w1 : World, Calls Tryd.prog 15 #[.slice (some ⟨w1.heap.size, 0, none⟩) 4 4] (w1.alloc (four p q s t)) (RetQ true (w1.alloc (four p q s t)))) := Lib.hid (fun w1 => by
    have := light_four p q s t w1 (by unfold maxLen; omega) (by unfold maxLen; omega) (by unfold maxLen; omega) (by unfold maxLen; omega)
    rwa [hl] at this)
  clear hl
  have h1 : ∀ m1, mt (eqB fo) p.data.toList s.data.toList = m1 → Hid (∀ w1 : World, Calls Tryd.prog 13 #[.string p, .string s, .bool fo] w1 (RetQ m1 w1)) := fun m1 e => Lib.hid (fun w1 => match_at p s fo m1 w1 (by omega) (by omega) e)
  have h2 : ∀ m2, mt (eqB fo) q.data.toList t.data.toList = m2 → Hid (∀ w1 : World, Calls Tryd.prog 13 #[.string q, .string t, .bool fo] w1 (RetQ m2 w1)) := fun m2 e => Lib.hid (fun w1 => match_at q t fo m2 w1 (by omega) (by omega) e)
  have h3 : mt (eqB fo) p.data.toList s.data.toList = true → mt (eqB fo) q.data.toList t.data.toList = true → Hid (∀ w1 : World, Calls Tryd.prog 13 #[.string (p ++ q), .string (s ++ t), .bool fo] w1 (RetQ true w1)) := fun e1 e2 => Lib.hid (fun w1 => match_at (p ++ q) (s ++ t) fo true w1 (by simp; omega) (by simp; omega) (by
    rw [ByteArray.toList_data_append, ByteArray.toList_data_append]; exact mt_both _ _ _ _ _ e1 e2))
  have h4 : mt (eqB fo) p.data.toList s.data.toList = true → mt (eqB fo) q.data.toList t.data.toList = true → Hid (∀ w1 : World, Calls Tryd.prog 13 #[.string (p ++ ⟨#[42]⟩ ++ q), .string (s ++ b ++ t), .bool fo] w1 (RetQ true w1)) := fun e1 e2 => Lib.hid (fun w1 => match_at (p ++ ⟨#[42]⟩ ++ q) (s ++ b ++ t) fo true w1 (by rw [ByteArray.size_append, ByteArray.size_append, star_size]; omega) (by simp; omega) (by
    rw [ByteArray.toList_data_append, ByteArray.toList_data_append, ByteArray.toList_data_append, ByteArray.toList_data_append]
    exact mt_both _ _ _ _ _ (mt_both _ _ _ _ _ e1 (mt_any _ 42 rfl _)) e2))
  have h5 : mt (eqB fo) p.data.toList s.data.toList = true → Hid (∀ w1 : World, Calls Tryd.prog 13 #[.string ((⟨#[42]⟩ : ByteArray) ++ p ++ ⟨#[42]⟩), .string (b ++ s ++ t), .bool fo] w1 (RetQ true w1)) := fun e1 => Lib.hid (fun w1 => match_at (⟨#[42]⟩ ++ p ++ ⟨#[42]⟩) (b ++ s ++ t) fo true w1 (by rw [ByteArray.size_append, ByteArray.size_append, star_size]; omega) (by simp; omega) (by
    rw [ByteArray.toList_data_append, ByteArray.toList_data_append, ByteArray.toList_data_append, ByteArray.toList_data_append]
    exact mt_both _ _ _ _ _ (mt_both _ _ _ _ _ (mt_any _ 42 rfl _) e1) (mt_any _ 42 rfl _)))
  cases e1 : mt (eqB fo) p.data.toList s.data.toList
  · have c1 := h1 _ e1
    clear h1 h2 h3 h4 h5 e1
    go_enter Tryd.func6, Tryd.ntmps6
    go_wp2_with fail
    refine (cL.out _).mono ?_
    rintro e w2 ⟨rfl, h⟩
    have K2 := Lib.hid h
    clear h
    go_wp2_with fail
    refine (cF.out w2).mono ?_
    rintro e w3 ⟨rfl, h⟩
    have K3 := Lib.hid ((K2.out.alloc _).trans h)
    clear h
    go_wp2_with fail
    refine (c1.out _).mono ?_
    rintro e w4 ⟨rfl, h⟩
    have K4 := Lib.hid (K3.out.trans h)
    clear h
    go_wp2_with fail
    refine (c1.out _).mono ?_
    rintro e w5 ⟨rfl, h⟩
    have k5 := K4.out.trans h
    clear h
    go_wp2
    go_ret
    exact RetQ.of rfl k5
  · have c1 := h1 _ e1
    have c5 := h5 e1
    cases e2 : mt (eqB fo) q.data.toList t.data.toList
    · have c2 := h2 _ e2
      clear h1 h2 h3 h4 h5 e1 e2
      go_enter Tryd.func6, Tryd.ntmps6
      go_wp2_with fail
      refine (cL.out _).mono ?_
      rintro e w2 ⟨rfl, h⟩
      have K2 := Lib.hid h
      clear h
      go_wp2_with fail
      refine (cF.out w2).mono ?_
      rintro e w3 ⟨rfl, h⟩
      have K3 := Lib.hid ((K2.out.alloc _).trans h)
      clear h
      go_wp2_with fail
      refine (c1.out _).mono ?_
      rintro e w4 ⟨rfl, h⟩
      have K4 := Lib.hid (K3.out.trans h)
      clear h
      go_wp2_with fail
      refine (c2.out _).mono ?_
      rintro e w5 ⟨rfl, h⟩
      have K5 := Lib.hid (K4.out.trans h)
      clear h
      go_wp2_with fail
      refine (c1.out _).mono ?_
      rintro e w6 ⟨rfl, h⟩
      have K6 := Lib.hid (K5.out.trans h)
      clear h
      go_wp2_with fail
      refine (c5.out _).mono ?_
      rintro e w7 ⟨rfl, h⟩
      have k7 := K6.out.trans h
      clear h
      go_wp2
      go_ret
      exact RetQ.of rfl k7
    · have c2 := h2 _ e2
      have c3 := h3 e1 e2
      have c4 := h4 e1 e2
      clear h1 h2 h3 h4 h5 e1 e2
      go_enter Tryd.func6, Tryd.ntmps6
      go_wp2_with fail
      refine (cL.out _).mono ?_
      rintro e w2 ⟨rfl, h⟩
      have K2 := Lib.hid h
      clear h
      go_wp2_with fail
      refine (cF.out w2).mono ?_
      rintro e w3 ⟨rfl, h⟩
      have K3 := Lib.hid ((K2.out.alloc _).trans h)
      clear h
      go_wp2_with fail
      refine (c1.out _).mono ?_
      rintro e w4 ⟨rfl, h⟩
      have K4 := Lib.hid (K3.out.trans h)
      clear h
      go_wp2_with fail
      refine (c2.out _).mono ?_
      rintro e w5 ⟨rfl, h⟩
      have K5 := Lib.hid (K4.out.trans h)
      clear h
      go_wp2_with fail
      refine (c3.out _).mono ?_
      rintro e w6 ⟨rfl, h⟩
      have K6 := Lib.hid (K5.out.trans h)
      clear h
      go_wp2_with fail
      refine (c4.out _).mono ?_
      rintro e w7 ⟨rfl, h⟩
      have K7 := Lib.hid (K6.out.trans h)
      clear h
      go_wp2_with fail
      refine (c1.out _).mono ?_
      rintro e w8 ⟨rfl, h⟩
      have K8 := Lib.hid (K7.out.trans h)
      clear h
      go_wp2_with fail
      refine (c5.out _).mono ?_
      rintro e w9 ⟨rfl, h⟩
      have k9 := K8.out.trans h
      clear h
      go_wp2
      go_ret
      exact RetQ.of rfl k9
end Go.Proofs.YtolfpkjohlbfdaaDoor
