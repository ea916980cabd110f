/-
  The chapter's examples, of package audit.
-/
import Derived.Test.YtfapilgmgjmfeaaGreatDoorOpe
import Derived.Test.YtfapilgmgjmfeaaGreatDoorSam
namespace Go.Proofs.YtfapilgmgjmfeaaGreatDoor
open Go.RowKit

def L5 : List Nt := [noteL 3 1, noteL 4 1, noteL 4 1, noteL 5 1, noteL 3 2]
def M2 : List Nt := [noteL 3 1, noteL 5 1]
theorem life_L5 : lifeI L5 = -1 := by decide +kernel
theorem life_M2 : lifeI M2 = 1 := by decide +kernel
theorem open_L5 {ss : List Int} (h : OpenIs L5 ss) : ss = [2] := by
  refine rise_unique h.1 (by simp [Rise]) fun x => ?_
  rw [h.2]
  by_cases h1 : x = 1 <;> by_cases h2 : x = 2 <;> simp [openM, queuedM, L5, qF, eF, noteL, updI, h1, h2]
theorem open_M2 {ss : List Int} (h : OpenIs M2 ss) : ss = [] := by
  refine rise_unique h.1 (by simp [Rise]) fun x => ?_
  rw [h.2]
  by_cases h1 : x = 1 <;> simp [openM, queuedM, M2, qF, eF, noteL, updI, h1]
/-- Notes' cells, one after the other. -/
def cellsN (l : List Nt) : List Value := l.flatMap fun n => (ntC n).toList
theorem cellsN_at : ∀ (l : List Nt) (i : Nat) (hi : i < l.length) (j : Nat) (v : Value), (ntC (l[i]'hi)).toList[j]? = some v → (cellsN l)[i * 9 + j]? = some v
  | n :: t, 0, _, j, v, h => by
    unfold cellsN
    rw [List.flatMap_cons, List.getElem?_append_left]
    · simpa using h
    · have := (List.getElem?_eq_some_iff.1 h).1
      simpa using this
  | n :: t, i + 1, hi, j, v, h => by
    have ih := cellsN_at t i (by simpa using hi) j v (by simpa using h)
    unfold cellsN at ih ⊢
    have hn : (ntC n).toList.length = 9 := rfl
    rw [List.flatMap_cons, List.getElem?_append_right (by rw [hn]; omega), hn, show (i + 1) * 9 + j - 9 = i * 9 + j by omega]
    exact ih
theorem notes_block {w : World} {g : Nat} {l : List Nt} {cs : Array Value} (h : w.heap[g]? = some (.cells cs 29 (0, 0))) (e : cs.toList = cellsN l) : NotesAt w (some ⟨g, 0, none⟩) l := fun i hi => by
  refine ⟨g, 0, rfl, fun j v hj => ?_⟩
  have := cellsN_at l i hi j v hj
  rw [← e] at this
  rw [Nat.zero_add, Lib.cell_of_heap h]
  simpa using this
theorem own_ints {w : World} {B : Nat} {v : Value} {ss : List Int} (h : w.ownsRow B 2 1 v ss.length (ss.map encZ)) : ∃ A c, v = .slice A ss.length c ∧ IntsAt w A ss := by
  obtain ⟨h1, ⟨rfl, h2⟩ | ⟨g, cap, cur, rfl, hB, hb, hc, hm, hs, ht⟩⟩ := h
  · exact ⟨none, 0, by rw [h2], fun k hk => by omega⟩
  · refine ⟨some ⟨g, 0, none⟩, cap, rfl, fun k hk => ⟨g, 0, rfl, ?_⟩⟩
    rw [Lib.cell_of_heap hb]
    have : (cur.toList.take (ss.length * 1))[k]? = (ss.map encZ)[k]? := by rw [ht]
    rw [List.getElem?_take, if_pos (by omega)] at this
    simp only [Nat.zero_add]
    rw [← Array.getElem?_toList, this]
    simp [encZ, List.getElem?_map, hk]

theorem ok_all {l : List Nt} (h : l.all (fun n => decide ((Lit.int .i64 n.txn).wf = true)) = true) : ∀ n, n ∈ l → NtOk n := fun n hn => by
  have := List.all_eq_true.1 h n hn
  unfold NtOk
  simpa using this
theorem ok_L5 : ∀ n, n ∈ L5 → NtOk n := ok_all (by decide +kernel)
theorem ok_M2 : ∀ n, n ∈ M2 → NtOk n := ok_all (by decide +kernel)

set_option maxHeartbeats 8000000 in
set_option maxRecDepth 100000 in
theorem lives_any (w : World) : Calls Tryz.prog 5 #[] w (Ret (.bool true) w) := by
  have cN := Lib.hid (fun k t wx => note_any k t wx)
  unfold noteL actL ntC at cN
  simp only [S_nil] at cN
  go_enter Tryz.func5, Tryz.ntmps5
  go_wp2_with fail
  refine (cN.out _ _ _).mono ?_
  rintro e w1 ⟨rfl, k1⟩
  go_wp2_with fail
  refine (cN.out _ _ _).mono ?_
  rintro e w2 ⟨rfl, k2⟩
  have K2 := Lib.hid (k1.trans k2)
  clear k1 k2
  go_wp2_with fail
  refine (cN.out _ _ _).mono ?_
  rintro e w3 ⟨rfl, k3⟩
  go_wp2_with fail
  refine (cN.out _ _ _).mono ?_
  rintro e w4 ⟨rfl, k4⟩
  have K4 := Lib.hid ((K2.out.trans k3).trans k4)
  clear k3 k4
  go_wp2_with fail
  refine (cN.out _ _ _).mono ?_
  rintro e w5 ⟨rfl, k5⟩
  have K5 := Lib.hid (K4.out.trans k5)
  clear k5
  go_wp2
  have hb5 := heap_alloc_new w5 (.cells #[.int .i64 3, .int .i64 1, .int .i64 1, .string (S [33, 114, 58, 120]), .string (S [64, 97, 58, 98]), .string ⟨#[]⟩, .string ⟨#[]⟩, .int .i64 0, .string ⟨#[]⟩, .int .i64 4, .int .i64 1, .int .i64 1, .string (S [33, 114, 58, 120]), .string (S [64, 97, 58, 98]), .string ⟨#[]⟩, .string ⟨#[]⟩, .int .i64 0, .string ⟨#[]⟩, .int .i64 4, .int .i64 1, .int .i64 1, .string (S [33, 114, 58, 120]), .string (S [64, 97, 58, 98]), .string ⟨#[]⟩, .string ⟨#[]⟩, .int .i64 0, .string ⟨#[]⟩, .int .i64 5, .int .i64 1, .int .i64 1, .string (S [33, 114, 58, 120]), .string (S [64, 97, 58, 98]), .string ⟨#[]⟩, .string ⟨#[]⟩, .int .i64 0, .string ⟨#[]⟩, .int .i64 3, .int .i64 2, .int .i64 1, .string (S [33, 114, 58, 120]), .string (S [64, 97, 58, 98]), .string ⟨#[]⟩, .string ⟨#[]⟩, .int .i64 0, .string ⟨#[]⟩] 29)
  have n5 : NotesAt (w5.alloc (.cells #[.int .i64 3, .int .i64 1, .int .i64 1, .string (S [33, 114, 58, 120]), .string (S [64, 97, 58, 98]), .string ⟨#[]⟩, .string ⟨#[]⟩, .int .i64 0, .string ⟨#[]⟩, .int .i64 4, .int .i64 1, .int .i64 1, .string (S [33, 114, 58, 120]), .string (S [64, 97, 58, 98]), .string ⟨#[]⟩, .string ⟨#[]⟩, .int .i64 0, .string ⟨#[]⟩, .int .i64 4, .int .i64 1, .int .i64 1, .string (S [33, 114, 58, 120]), .string (S [64, 97, 58, 98]), .string ⟨#[]⟩, .string ⟨#[]⟩, .int .i64 0, .string ⟨#[]⟩, .int .i64 5, .int .i64 1, .int .i64 1, .string (S [33, 114, 58, 120]), .string (S [64, 97, 58, 98]), .string ⟨#[]⟩, .string ⟨#[]⟩, .int .i64 0, .string ⟨#[]⟩, .int .i64 3, .int .i64 2, .int .i64 1, .string (S [33, 114, 58, 120]), .string (S [64, 97, 58, 98]), .string ⟨#[]⟩, .string ⟨#[]⟩, .int .i64 0, .string ⟨#[]⟩] 29)) (some ⟨w5.heap.size, 0, none⟩) L5 := notes_block hb5 rfl
  have K6 := Lib.hid (K5.out.alloc (.cells #[.int .i64 3, .int .i64 1, .int .i64 1, .string (S [33, 114, 58, 120]), .string (S [64, 97, 58, 98]), .string ⟨#[]⟩, .string ⟨#[]⟩, .int .i64 0, .string ⟨#[]⟩, .int .i64 4, .int .i64 1, .int .i64 1, .string (S [33, 114, 58, 120]), .string (S [64, 97, 58, 98]), .string ⟨#[]⟩, .string ⟨#[]⟩, .int .i64 0, .string ⟨#[]⟩, .int .i64 4, .int .i64 1, .int .i64 1, .string (S [33, 114, 58, 120]), .string (S [64, 97, 58, 98]), .string ⟨#[]⟩, .string ⟨#[]⟩, .int .i64 0, .string ⟨#[]⟩, .int .i64 5, .int .i64 1, .int .i64 1, .string (S [33, 114, 58, 120]), .string (S [64, 97, 58, 98]), .string ⟨#[]⟩, .string ⟨#[]⟩, .int .i64 0, .string ⟨#[]⟩, .int .i64 3, .int .i64 2, .int .i64 1, .string (S [33, 114, 58, 120]), .string (S [64, 97, 58, 98]), .string ⟨#[]⟩, .string ⟨#[]⟩, .int .i64 0, .string ⟨#[]⟩] 29))
  generalize w5.alloc (.cells #[.int .i64 3, .int .i64 1, .int .i64 1, .string (S [33, 114, 58, 120]), .string (S [64, 97, 58, 98]), .string ⟨#[]⟩, .string ⟨#[]⟩, .int .i64 0, .string ⟨#[]⟩, .int .i64 4, .int .i64 1, .int .i64 1, .string (S [33, 114, 58, 120]), .string (S [64, 97, 58, 98]), .string ⟨#[]⟩, .string ⟨#[]⟩, .int .i64 0, .string ⟨#[]⟩, .int .i64 4, .int .i64 1, .int .i64 1, .string (S [33, 114, 58, 120]), .string (S [64, 97, 58, 98]), .string ⟨#[]⟩, .string ⟨#[]⟩, .int .i64 0, .string ⟨#[]⟩, .int .i64 5, .int .i64 1, .int .i64 1, .string (S [33, 114, 58, 120]), .string (S [64, 97, 58, 98]), .string ⟨#[]⟩, .string ⟨#[]⟩, .int .i64 0, .string ⟨#[]⟩, .int .i64 3, .int .i64 2, .int .i64 1, .string (S [33, 114, 58, 120]), .string (S [64, 97, 58, 98]), .string ⟨#[]⟩, .string ⟨#[]⟩, .int .i64 0, .string ⟨#[]⟩] 29) = W5 at *
  generalize w5.heap.size = g5 at *
  have c0 : W5.cell? ⟨g5, 0, none⟩ = some (.int .i64 3) := by rw [Lib.cell_of_heap hb5]; rfl
  have c1 : W5.cell? ⟨g5, 1, none⟩ = some (.int .i64 1) := by rw [Lib.cell_of_heap hb5]; rfl
  have c2 : W5.cell? ⟨g5, 2, none⟩ = some (.int .i64 1) := by rw [Lib.cell_of_heap hb5]; rfl
  have c3 : W5.cell? ⟨g5, 3, none⟩ = some (.string (S [33, 114, 58, 120])) := by rw [Lib.cell_of_heap hb5]; rfl
  have c4 : W5.cell? ⟨g5, 4, none⟩ = some (.string (S [64, 97, 58, 98])) := by rw [Lib.cell_of_heap hb5]; rfl
  have c5 : W5.cell? ⟨g5, 5, none⟩ = some (.string ⟨#[]⟩) := by rw [Lib.cell_of_heap hb5]; rfl
  have c6 : W5.cell? ⟨g5, 6, none⟩ = some (.string ⟨#[]⟩) := by rw [Lib.cell_of_heap hb5]; rfl
  have c7 : W5.cell? ⟨g5, 7, none⟩ = some (.int .i64 0) := by rw [Lib.cell_of_heap hb5]; rfl
  have c8 : W5.cell? ⟨g5, 8, none⟩ = some (.string ⟨#[]⟩) := by rw [Lib.cell_of_heap hb5]; rfl
  have c27 : W5.cell? ⟨g5, 27, none⟩ = some (.int .i64 5) := by rw [Lib.cell_of_heap hb5]; rfl
  have c28 : W5.cell? ⟨g5, 28, none⟩ = some (.int .i64 1) := by rw [Lib.cell_of_heap hb5]; rfl
  have c29 : W5.cell? ⟨g5, 29, none⟩ = some (.int .i64 1) := by rw [Lib.cell_of_heap hb5]; rfl
  have c30 : W5.cell? ⟨g5, 30, none⟩ = some (.string (S [33, 114, 58, 120])) := by rw [Lib.cell_of_heap hb5]; rfl
  have c31 : W5.cell? ⟨g5, 31, none⟩ = some (.string (S [64, 97, 58, 98])) := by rw [Lib.cell_of_heap hb5]; rfl
  have c32 : W5.cell? ⟨g5, 32, none⟩ = some (.string ⟨#[]⟩) := by rw [Lib.cell_of_heap hb5]; rfl
  have c33 : W5.cell? ⟨g5, 33, none⟩ = some (.string ⟨#[]⟩) := by rw [Lib.cell_of_heap hb5]; rfl
  have c34 : W5.cell? ⟨g5, 34, none⟩ = some (.int .i64 0) := by rw [Lib.cell_of_heap hb5]; rfl
  have c35 : W5.cell? ⟨g5, 35, none⟩ = some (.string ⟨#[]⟩) := by rw [Lib.cell_of_heap hb5]; rfl
  have N5 := Lib.hid n5
  clear n5 hb5
  go_region
  all_goals
    go_wp2_with fail
    have n2 : NotesAt ((W5.alloc (.cells #[.int .i64 3, .int .i64 1, .int .i64 1, .string (S [33, 114, 58, 120]), .string (S [64, 97, 58, 98]), .string ⟨#[]⟩, .string ⟨#[]⟩, .int .i64 0, .string ⟨#[]⟩, .int .i64 5, .int .i64 1, .int .i64 1, .string (S [33, 114, 58, 120]), .string (S [64, 97, 58, 98]), .string ⟨#[]⟩, .string ⟨#[]⟩, .int .i64 0, .string ⟨#[]⟩] 29)).drew) (some ⟨W5.heap.size, 0, none⟩) M2 := notes_block (heap_alloc_new W5 (.cells #[.int .i64 3, .int .i64 1, .int .i64 1, .string (S [33, 114, 58, 120]), .string (S [64, 97, 58, 98]), .string ⟨#[]⟩, .string ⟨#[]⟩, .int .i64 0, .string ⟨#[]⟩, .int .i64 5, .int .i64 1, .int .i64 1, .string (S [33, 114, 58, 120]), .string (S [64, 97, 58, 98]), .string ⟨#[]⟩, .string ⟨#[]⟩, .int .i64 0, .string ⟨#[]⟩] 29)) rfl
    have N2 := Lib.hid n2
    have K7 := Lib.hid ((Keeps.refl W5).alloc (.cells #[.int .i64 3, .int .i64 1, .int .i64 1, .string (S [33, 114, 58, 120]), .string (S [64, 97, 58, 98]), .string ⟨#[]⟩, .string ⟨#[]⟩, .int .i64 0, .string ⟨#[]⟩, .int .i64 5, .int .i64 1, .int .i64 1, .string (S [33, 114, 58, 120]), .string (S [64, 97, 58, 98]), .string ⟨#[]⟩, .string ⟨#[]⟩, .int .i64 0, .string ⟨#[]⟩] 29)).drew
    clear n2 c0 c1 c2 c3 c4 c5 c6 c7 c8 c27 c28 c29 c30 c31 c32 c33 c34 c35
    generalize (W5.alloc (.cells #[.int .i64 3, .int .i64 1, .int .i64 1, .string (S [33, 114, 58, 120]), .string (S [64, 97, 58, 98]), .string ⟨#[]⟩, .string ⟨#[]⟩, .int .i64 0, .string ⟨#[]⟩, .int .i64 5, .int .i64 1, .int .i64 1, .string (S [33, 114, 58, 120]), .string (S [64, 97, 58, 98]), .string ⟨#[]⟩, .string ⟨#[]⟩, .int .i64 0, .string ⟨#[]⟩] 29)).drew = X at *
    have hok5 : ∀ n, n ∈ L5 → NtOk n := ok_L5
    have hok2 : ∀ n, n ∈ M2 → NtOk n := ok_M2
    have cL := Lib.hid (life_any (some ⟨g5, 0, none⟩) 5 L5 X (N5.out.keeps K7.out) (by decide) hok5)
    rw [life_L5] at cL
    refine cL.out.mono ?_
    rintro e x1 ⟨rfl, j1⟩
    have cO := Lib.hid (open_any (some ⟨g5, 0, none⟩) 5 L5 x1 (N5.out.keeps (K7.out.trans j1)) (by decide) hok5)
    have J1 := Lib.hid j1
    clear j1
    go_wp2_with fail
    refine cO.out.mono ?_
    rintro e x2 ⟨v, ss, rfl, hO, hrow, hnil, j2⟩
    obtain rfl := open_L5 hO
    obtain ⟨A, cc, rfl, hI⟩ := own_ints hrow
    have J2 := Lib.hid (J1.out.trans j2)
    have cE := Lib.hid (same_ints A (some ⟨x2.heap.size, 0, none⟩) cc 1 [2] [2] (x2.alloc (.cells #[.int .i64 2] 2)) (hI.keeps ((Keeps.refl x2).alloc _)) (fun k hk => ⟨x2.heap.size, 0, rfl, by
      obtain rfl : k = 0 := by simpa using hk
      rw [Lib.cell_of_heap (heap_alloc_new x2 _)]; rfl⟩) (by simp))
    simp only [List.length_cons, List.length_nil, Nat.zero_add, decide_true] at cE
    clear hO hrow hnil j2 hI
    go_wp2_with fail
    refine cE.out.mono ?_
    rintro e x3 ⟨rfl, q, rfl⟩
    have J3 := Lib.hid ((J2.out.alloc (.cells #[.int .i64 2] 2)).drewN q)
    generalize (x2.alloc (.cells #[.int .i64 2] 2)).drewN q = X3 at *
    have cL2 := Lib.hid (life_any (some ⟨W5.heap.size, 0, none⟩) 2 M2 X3 (N2.out.keeps J3.out) (by decide) hok2)
    rw [life_M2] at cL2
    go_wp2_with fail
    refine cL2.out.mono ?_
    rintro e x4 ⟨rfl, j4⟩
    have J4 := Lib.hid (J3.out.trans j4)
    clear j4
    have cO2 := Lib.hid (open_any (some ⟨W5.heap.size, 0, none⟩) 2 M2 x4 (N2.out.keeps J4.out) (by decide) hok2)
    go_wp2_with fail
    refine cO2.out.mono ?_
    rintro e x5 ⟨v, ss, rfl, hO, hrow, hnil, j5⟩
    obtain rfl := open_M2 hO
    obtain rfl := hnil.2 rfl
    have J5 := Lib.hid (((K6.out.trans K7.out).trans J4.out).trans j5)
    clear hO hrow hnil j5
    go_wp2
    go_ret
    exact ⟨rfl, J5.out⟩
end Go.Proofs.YtfapilgmgjmfeaaGreatDoor
