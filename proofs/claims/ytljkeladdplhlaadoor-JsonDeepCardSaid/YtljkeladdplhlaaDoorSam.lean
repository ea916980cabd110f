/-
  Same, of package json: two values alone; two values whole.
-/
import Derived.Test.YtljkeladdplhlaaDoorChe
import Derived.Deep.QuietTactic
namespace Go.Proofs.YtljkeladdplhlaaDoor
open Go.RowKit

theorem S_inj {a b : List UInt8} (h : S a = S b) : a = b := by
  have := congrArg (fun x : ByteArray => x.data.toList) h
  simpa [S_data] using this
theorem map_S_inj : ∀ {a b : List (List UInt8)}, a.map S = b.map S → a = b
  | [], [], _ => rfl
  | [], _ :: _, h => by simp at h
  | _ :: _, [], h => by simp at h
  | x :: a, y :: b, h => by
    simp only [List.map_cons, List.cons.injEq] at h
    rw [S_inj h.1, map_S_inj h.2]
theorem texts_eq (k1 k2 : List (List UInt8)) (v1 v2 : Value) (F : Nat → Prop) (w : World) (h1 : IsTexts w F v1 k1) (h2 : IsTexts w F v2 k2) (n1 : k1.length ≤ 1000000) (n2 : k2.length ≤ 1000000) :
    Calls Tryd.prog 60 #[v1, v2] w (fun e w' => e = .returned (.bool (decide (k1 = k2))) ∧ ∃ q, w' = w.drewN q) := by
  by_cases hl : k1.length = k2.length
  · by_cases h0 : k1.length = 0
    · have e1 : k1 = [] := List.eq_nil_of_length_eq_zero h0
      have e2 : k2 = [] := List.eq_nil_of_length_eq_zero (by omega)
      obtain ⟨a1, c1, rfl⟩ := h1.form
      obtain ⟨a2, c2, rfl⟩ := h2.form
      rw [h0, ← hl, h0]
      refine (Tryd.slices_Equal_string_empty a1 a2 c1 0 c2 w (by omega)).mono ?_
      rintro e w' ⟨rfl, rfl⟩
      exact ⟨by rw [e1, e2]; rfl, 0, rfl⟩
    · rcases h1 with ⟨_, e⟩ | ⟨g1, o1, c1, rfl, _, d1⟩
      · rw [e] at h0; simp at h0
      rcases h2 with ⟨_, e⟩ | ⟨g2, o2, c2, rfl, _, d2⟩
      · rw [e] at hl; simp at hl; rw [hl] at h0; simp at h0
      have q : ∀ {g o : Nat} {ks : List (List UInt8)}, CellsAt w g o (ks.map fun k => Value.string (S k)) → ∀ j, j < (ks.map S).length → w.cell? ⟨g, o + j, none⟩ = some (.string ((ks.map S).getD j ByteArray.empty)) := fun {g o ks} d j hj => by
        refine d j _ ?_
        simp at hj
        simp [List.getD_eq_getElem?_getD, hj]
      refine (Tryd.slices_Equal_string g1 o1 k1.length c1 g2 o2 k2.length c2 (k1.map S) (k2.map S) w (by simp) (by simp) (by omega) (by omega) (q d1) (q d2)).mono ?_
      rintro e w' ⟨rfl, hq⟩
      refine ⟨?_, hq⟩
      rw [List.take_of_length_le (by simp), List.take_of_length_le (by simp)]
      congr 2
      exact decide_eq_decide.2 ⟨map_S_inj, fun h => by rw [h]⟩
  · obtain ⟨a1, c1, rfl⟩ := h1.form
    obtain ⟨a2, c2, rfl⟩ := h2.form
    refine (Tryd.slices_Equal_string_lens a1 a2 _ c1 _ c2 w hl).mono ?_
    rintro e w' ⟨rfl, rfl⟩
    exact ⟨by rw [decide_eq_false (fun h => hl (by rw [h]))], 0, rfl⟩

def sameB (k1 n1 : Int) (t1 : List UInt8) (ks1 : List (List UInt8)) (m1 : Nat) (k2 n2 : Int) (t2 : List UInt8) (ks2 : List (List UInt8)) (m2 : Nat) : Bool := decide (k1 = k2 ∧ n1 = n2 ∧ t1 = t2 ∧ ks1 = ks2 ∧ m1 = m2)

set_option maxHeartbeats 8000000 in
set_option maxRecDepth 100000 in
theorem alone_same (k1 n1 k2 n2 : Int) (t1 t2 : List UInt8) (ks1 ks2 : List (List UInt8)) (a1 a2 i1 i2 : Option Addr) (l1 l2 c1 c2 m1 m2 d1 d2 : Nat) (w : World)
    (cE : Hid (∀ wx, Keeps w wx → Calls Tryd.prog 60 #[.slice a1 l1 c1, .slice a2 l2 c2] wx (fun e w' => e = .returned (.bool (decide (ks1 = ks2))) ∧ ∃ q, w' = wx.drewN q))) :
    Calls Tryd.prog 40 #[.agg #[.int .i64 k1, .int .i64 n1, .string (S t1), .slice a1 l1 c1, .slice i1 m1 d1], .agg #[.int .i64 k2, .int .i64 n2, .string (S t2), .slice a2 l2 c2, .slice i2 m2 d2]] w (fun e w' => e = .returned (.bool (sameB k1 n1 t1 ks1 m1 k2 n2 t2 ks2 m2)) ∧ Keeps w w') := by
  have hz : (w.alloc (.cells #[.int .i64 k1, .int .i64 n1, .string (S t1), .slice a1 l1 c1, .slice i1 m1 d1] 25)).heap.size = w.heap.size + 1 := by simp
  have hA : ((w.alloc (.cells #[.int .i64 k1, .int .i64 n1, .string (S t1), .slice a1 l1 c1, .slice i1 m1 d1] 25)).alloc (.cells #[.int .i64 k2, .int .i64 n2, .string (S t2), .slice a2 l2 c2, .slice i2 m2 d2] 25)).heap[w.heap.size]? = some (.cells #[.int .i64 k1, .int .i64 n1, .string (S t1), .slice a1 l1 c1, .slice i1 m1 d1] 25 (0, 0)) := (al_lt _ (by simp)).trans (al_at _ rfl)
  have hB : ((w.alloc (.cells #[.int .i64 k1, .int .i64 n1, .string (S t1), .slice a1 l1 c1, .slice i1 m1 d1] 25)).alloc (.cells #[.int .i64 k2, .int .i64 n2, .string (S t2), .slice a2 l2 c2, .slice i2 m2 d2] 25)).heap[w.heap.size + 1]? = some (.cells #[.int .i64 k2, .int .i64 n2, .string (S t2), .slice a2 l2 c2, .slice i2 m2 d2] 25 (0, 0)) := al_at _ hz.symm
  have K := Lib.hid (((Keeps.refl w).alloc (.cells #[.int .i64 k1, .int .i64 n1, .string (S t1), .slice a1 l1 c1, .slice i1 m1 d1] 25)).alloc (.cells #[.int .i64 k2, .int .i64 n2, .string (S t2), .slice a2 l2 c2, .slice i2 m2 d2] 25))
  obtain ⟨x0, x1, x2, x3, x4⟩ := (cells5 hA).1
  obtain ⟨y0, y1, y2, y3, y4⟩ := (cells5 hB).1
  generalize hV : sameB k1 n1 t1 ks1 m1 k2 n2 t2 ks2 m2 = V
  unfold sameB at hV
  clear hA hB hz
  by_cases hk : k1 = k2
  · by_cases hn : n1 = n2
    · by_cases ht : t1 = t2
      · have g1 : (k1 == k2) = true := by simpa using hk
        have g2 : (n1 == n2) = true := by simpa using hn
        have HKN := Lib.hid (And.intro hk (And.intro hn ht))
        clear hk hn
        subst ht
        by_cases he : ks1 = ks2
        · have f3 : decide (ks1 = ks2) = true := decide_eq_true he
          rw [f3] at cE
          by_cases hm : m1 = m2
          · have f4 : ((m1 : Int) == (m2 : Int)) = true := by simp; omega
            have HV := Lib.hid (show V = true by rw [← hV]; exact decide_eq_true ⟨HKN.out.1, HKN.out.2.1, rfl, he, hm⟩)
            clear hV he hm f3
            go_enter Tryd.func40, Tryd.ntmps40
            go_wp2_with fail
            refine (cE.out _ K.out).mono ?_
            rintro e w2 ⟨rfl, q, hq⟩
            have k2' : Keeps ((w.alloc (.cells #[.int .i64 k1, .int .i64 n1, .string (S t1), .slice a1 l1 c1, .slice i1 m1 d1] 25)).alloc (.cells #[.int .i64 k2, .int .i64 n2, .string (S t1), .slice a2 l2 c2, .slice i2 m2 d2] 25)) w2 := by rw [hq]; exact (Keeps.refl _).drewN q
            have z4 := k2'.cell x4
            have u4 := k2'.cell y4
            have K2 := Lib.hid (K.out.trans k2')
            clear k2' hq x0 x1 x2 x3 x4 y0 y1 y2 y3 y4
            go_wp2
            go_ret
            exact ⟨by rw [HV.out]; rfl, K2.out⟩
          · have f4 : ((m1 : Int) == (m2 : Int)) = false := by simp; omega
            have HV := Lib.hid (show V = false by rw [← hV]; exact decide_eq_false (fun h => hm h.2.2.2.2))
            clear hV he hm f3
            go_enter Tryd.func40, Tryd.ntmps40
            go_wp2_with fail
            refine (cE.out _ K.out).mono ?_
            rintro e w2 ⟨rfl, q, hq⟩
            have k2' : Keeps ((w.alloc (.cells #[.int .i64 k1, .int .i64 n1, .string (S t1), .slice a1 l1 c1, .slice i1 m1 d1] 25)).alloc (.cells #[.int .i64 k2, .int .i64 n2, .string (S t1), .slice a2 l2 c2, .slice i2 m2 d2] 25)) w2 := by rw [hq]; exact (Keeps.refl _).drewN q
            have z4 := k2'.cell x4
            have u4 := k2'.cell y4
            have K2 := Lib.hid (K.out.trans k2')
            clear k2' hq x0 x1 x2 x3 x4 y0 y1 y2 y3 y4
            go_wp2
            go_ret
            exact ⟨by rw [HV.out]; rfl, K2.out⟩
        · have f3 : decide (ks1 = ks2) = false := decide_eq_false he
          rw [f3] at cE
          have HV := Lib.hid (show V = false by rw [← hV]; exact decide_eq_false (fun h => he h.2.2.2.1))
          clear hV he f3
          go_enter Tryd.func40, Tryd.ntmps40
          go_wp2_with fail
          refine (cE.out _ K.out).mono ?_
          rintro e w2 ⟨rfl, q, hq⟩
          have k2' : Keeps ((w.alloc (.cells #[.int .i64 k1, .int .i64 n1, .string (S t1), .slice a1 l1 c1, .slice i1 m1 d1] 25)).alloc (.cells #[.int .i64 k2, .int .i64 n2, .string (S t1), .slice a2 l2 c2, .slice i2 m2 d2] 25)) w2 := by rw [hq]; exact (Keeps.refl _).drewN q
          have K2 := Lib.hid (K.out.trans k2')
          clear k2' hq x0 x1 x2 x3 x4 y0 y1 y2 y3 y4
          go_wp2
          go_ret
          exact ⟨by rw [HV.out]; rfl, K2.out⟩
      · have g1 : (k1 == k2) = true := by simpa using hk
        have g2 : (n1 == n2) = true := by simpa using hn
        have g3 : ¬ (S t1).toList = (S t2).toList := fun h => ht (by rw [ByteArray.toList_eq, ByteArray.toList_eq] at h; exact h)
        have g4 : ((S t1).toList == (S t2).toList) = false := by simpa using g3
        have HV := Lib.hid (show V = false by rw [← hV]; exact decide_eq_false (fun h => ht h.2.2.1))
        clear hV hk hn ht
        go_enter Tryd.func40, Tryd.ntmps40
        go_wp2
        go_ret
        exact ⟨by rw [HV.out]; rfl, K.out⟩
    · have g1 : (k1 == k2) = true := by simpa using hk
      have g2 : (n1 == n2) = false := by simpa using hn
      have HV := Lib.hid (show V = false by rw [← hV]; exact decide_eq_false (fun h => hn h.2.1))
      clear hV hk hn
      go_enter Tryd.func40, Tryd.ntmps40
      go_wp2
      go_ret
      exact ⟨by rw [HV.out]; rfl, K.out⟩
  · have g1 : (k1 == k2) = false := by simpa using hk
    have HV := Lib.hid (show V = false by rw [← hV]; exact decide_eq_false (fun h => hk h.1))
    clear hV hk
    go_enter Tryd.func40, Tryd.ntmps40
    go_wp2
    go_ret
    exact ⟨by rw [HV.out]; rfl, K.out⟩
end Go.Proofs.YtljkeladdplhlaaDoor
