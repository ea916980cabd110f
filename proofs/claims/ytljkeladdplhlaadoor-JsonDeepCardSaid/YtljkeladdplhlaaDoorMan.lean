/-
  The chapter's example, of package json.
-/
import Derived.Test.YtljkeladdplhlaaDoorChe
import Derived.Laws.MakeOwn
namespace Go.Proofs.YtljkeladdplhlaaDoor
open Go.RowKit

def live0 : List UInt8 := [123, 34, 97, 34, 58, 91, 49, 44, 116, 114, 117, 101, 93, 125]
def liveJ : J := .mk 6 0 [] [[97]] [.mk 5 0 [] [] [.mk 3 1 [] [] [], .mk 2 1 [] [] []]]
set_option maxRecDepth 100000 in
theorem live_parse : parseJ live0 = (liveJ, 0) := by kernel_rfl

set_option maxHeartbeats 8000000 in
set_option maxRecDepth 100000 in
theorem lives_any (w : World) (hu : Utf w) : Calls Tryd.prog 11 #[] w (Ret (.bool true) w) := by
  have hp := parse_any ⟨#[123, 34, 97, 34, 58, 91, 49, 44, 116, 114, 117, 101, 93, 125]⟩ w hu (by decide)
  rw [show (⟨#[123, 34, 97, 34, 58, 91, 49, 44, 116, 114, 117, 101, 93, 125]⟩ : ByteArray).data.toList = live0 from rfl, live_parse] at hp
  have HP := Lib.hid hp
  clear hp hu
  go_enter Tryd.func11, Tryd.ntmps11
  go_wp2_with fail
  refine HP.out.mono ?_
  rintro e w2 ⟨hk, h1, _⟩
  obtain ⟨v, rfl, hj⟩ := h1 rfl
  obtain ⟨jk, jn, jt, jks, jis, kv, iv, e1, rfl, hkv, hiv⟩ := hj.parts
  unfold liveJ at e1
  simp only [J.mk.injEq] at e1
  obtain ⟨rfl, rfl, rfl, rfl, rfl⟩ := e1
  obtain ⟨g1, o1, cap1, rfl, c1⟩ := hkv.get 0 (by decide)
  obtain ⟨g2, o2, cap2, rfl, k2, n2, t2, ks2, its2, kv2, jv2, e2, hkt2, hit2, a0, a1, a2, a3, a4⟩ := hiv.get 0 (by decide)
  simp only [List.getElem_cons_zero, J.mk.injEq] at e2
  obtain ⟨rfl, rfl, rfl, rfl, rfl⟩ := e2
  obtain ⟨g3, o3, cap3, rfl, k3, n3, t3, ks3, its3, kv3, jv3, e3, hkt3, hit3, b0, b1, b2, b3, b4⟩ := hit2.get 0 (by decide)
  simp only [List.getElem_cons_zero, J.mk.injEq] at e3
  obtain ⟨rfl, rfl, rfl, rfl, rfl⟩ := e3
  have K2 := Lib.hid hk
  simp only [Nat.zero_mul, Nat.add_zero, List.getElem_cons_zero, List.length_cons, List.length_nil] at c1 a0 a1 a2 a3 a4 b0 b1 b2 b3 b4 ⊢
  have c1' : w2.cell? ⟨g1, o1, none⟩ = some (.string ⟨#[97]⟩) := c1
  have d1 := cell_al c1' (.cells #[.int .i64 6, .int .i64 0, .string (S []), .slice (some ⟨g1, o1, none⟩) 1 cap1, .slice (some ⟨g2, o2, none⟩) 1 cap2] 25)
  have d4 := cell_al a4 (.cells #[.int .i64 6, .int .i64 0, .string (S []), .slice (some ⟨g1, o1, none⟩) 1 cap1, .slice (some ⟨g2, o2, none⟩) 1 cap2] 25)
  have d5 := cell_al b1 (.cells #[.int .i64 6, .int .i64 0, .string (S []), .slice (some ⟨g1, o1, none⟩) 1 cap1, .slice (some ⟨g2, o2, none⟩) 1 cap2] 25)
  clear hk hj hkv hiv hkt2 hit2 hkt3 hit3 h1
  go_wp2
  go_ret
  exact ⟨rfl, K2.out.alloc _⟩
end Go.Proofs.YtljkeladdplhlaaDoor
namespace Go.Proofs.YtljkeladdplhlaaDoor
open Go.RowKit

def nullJ : J := .mk 1 0 [] [] []
theorem allC_null : allC nullJ = 0 := by kernel_rfl
theorem depthL_rep : ∀ n, depthL (List.replicate n nullJ) = 0
  | 0 => rfl
  | n + 1 => by rw [List.replicate_succ, depthL, depthL_rep n]; rfl
theorem nodesL_rep : ∀ n, nodesL (List.replicate n nullJ) = n
  | 0 => rfl
  | n + 1 => by rw [List.replicate_succ, nodesL, nodesL_rep n, nodesJ_eq]; simp [nullJ, J.items, nodesL]; omega
theorem allCL_rep : ∀ n, allCL (List.replicate n nullJ) = 0
  | 0 => rfl
  | n + 1 => by rw [List.replicate_succ, allCL, allC_null, if_neg (by decide), allCL_rep n]
theorem SmL_rep : ∀ n, SmL (List.replicate n nullJ)
  | 0 => by unfold SmL; trivial
  | n + 1 => by
    rw [List.replicate_succ]
    unfold SmL
    refine ⟨?_, SmL_rep n⟩
    unfold nullJ SmJ SmL
    exact ⟨Nat.zero_le _, Nat.zero_le _, fun k hk => by simp at hk, trivial⟩
def manyJ (n : Nat) : J := .mk 5 0 [] [] (List.replicate n nullJ)
theorem many_depth (n : Nat) : depthJ (manyJ n) = 1 := by unfold manyJ; rw [depthJ, if_pos (.inl rfl), depthL_rep]
theorem many_nodes (n : Nat) : nodesJ (manyJ n) = 1 + n := by unfold manyJ; rw [nodesJ, nodesL_rep]
theorem many_all (n : Nat) : allC (manyJ n) = 0 := by
  unfold manyJ
  rw [allC, allCL_rep]
  have h : aloneC (.mk 5 0 [] [] (List.replicate n nullJ)) = 0 := by
    rw [aloneC, if_neg (by omega), if_neg (by simp [numB, fldB]), if_neg (by simp [validL, validF])]
    simp [keysC]
  rw [h, if_neg (by decide)]
theorem check_400 : checkC (manyJ 400) = 4 := by unfold checkC; rw [many_depth, many_nodes, if_neg (by decide), if_pos (by decide)]
theorem check_399 : checkC (manyJ 399) = 0 := by unfold checkC; rw [many_depth, many_nodes, if_neg (by decide), if_neg (by decide), many_all]
theorem many_sm (n : Nat) : SmJ (manyJ n) := by
  unfold manyJ SmJ
  exact ⟨Nat.zero_le _, Nat.zero_le _, fun k hk => by simp at hk, SmL_rep n⟩

/-- Four hundred values in a row, so many of them null, the rest nothing. -/
def Row4 (w : World) (g k : Nat) : Prop := ∃ cur : Array Value, w.heap[g]? = some (.cells cur 25 (0, 0)) ∧ cur.size = 2000 ∧
  ∀ i, i < 400 → cur[i * 5]? = some (.int .i64 (if i < k then 1 else 0)) ∧ cur[i * 5 + 1]? = some (.int .i64 0) ∧ cur[i * 5 + 2]? = some (.string ⟨#[]⟩) ∧ cur[i * 5 + 3]? = some (.slice none 0 0) ∧ cur[i * 5 + 4]? = some (.slice none 0 0)
def MC : Array Value := madeCells #[.int .i64 0, .int .i64 0, .string ⟨#[]⟩, .slice none 0 0, .slice none 0 0] 2000
theorem MC_at (j : Nat) (h : j < 2000) : MC[j]? = some (#[Value.int .i64 0, .int .i64 0, .string ⟨#[]⟩, .slice none 0 0, .slice none 0 0][j % 5]!) := by
  unfold MC madeCells
  simp [h]
theorem Row4.made (w : World) : Row4 (w.alloc (.cells MC 25)) w.heap.size 0 := by
  refine ⟨MC, heap_alloc_new _ _, size_madeCells _ _, fun i hi => ?_⟩
  rw [MC_at (i * 5) (by omega), MC_at (i * 5 + 1) (by omega), MC_at (i * 5 + 2) (by omega), MC_at (i * 5 + 3) (by omega), MC_at (i * 5 + 4) (by omega)]
  rw [show i * 5 % 5 = 0 by omega, show (i * 5 + 1) % 5 = 1 by omega, show (i * 5 + 2) % 5 = 2 by omega, show (i * 5 + 3) % 5 = 3 by omega, show (i * 5 + 4) % 5 = 4 by omega]
  exact ⟨rfl, rfl, rfl, rfl, rfl⟩
theorem Row4.set {w : World} {g k : Nat} (h : Row4 w g k) (hk : k < 400) : Row4 (w.setCell ⟨g, k * 5, none⟩ (.int .i64 1)) g (k + 1) := by
  obtain ⟨cur, h1, h2, h3⟩ := h
  refine ⟨_, heap_setCell_same w g (k * 5) _ 25 _ h1, by simpa using h2, fun i hi => ?_⟩
  obtain ⟨a0, a1, a2, a3, a4⟩ := h3 i hi
  have o : ∀ j, j ≠ k * 5 → (cur.setIfInBounds (k * 5) (.int .i64 1))[j]? = cur[j]? := fun j hj => by rw [Array.getElem?_setIfInBounds_ne (Ne.symm hj)]
  refine ⟨?_, by rw [o _ (by omega)]; exact a1, by rw [o _ (by omega)]; exact a2, by rw [o _ (by omega)]; exact a3, by rw [o _ (by omega)]; exact a4⟩
  by_cases e : i = k
  · subst e
    rw [Array.getElem?_setIfInBounds_self_of_lt (by omega), if_pos (by omega)]
  · rw [o _ (by omega), a0]
    by_cases hl : i < k
    · rw [if_pos hl, if_pos (by omega)]
    · rw [if_neg hl, if_neg (by omega)]
theorem Row4.cell {w : World} {g k : Nat} (h : Row4 w g k) (hk : k < 400) : w.cell? ⟨g, k * 5, none⟩ = some (.int .i64 0) ∧ w.frozen? ⟨g, k * 5, none⟩ = false := by
  obtain ⟨cur, h1, h2, h3⟩ := h
  refine ⟨?_, Lib.frozen_of_heap h1 _⟩
  rw [Lib.cell_of_heap h1, (h3 k hk).1, if_neg (by omega)]
theorem Row4.keeps {w w' : World} {g k : Nat} (h : Row4 w g k) (e : w'.heap[g]? = w.heap[g]?) : Row4 w' g k := by
  obtain ⟨cur, h1, h2⟩ := h
  exact ⟨cur, e.trans h1, h2⟩
theorem Row4.are {w : World} {g : Nat} (F : Nat → Prop) (h : Row4 w g 400) : ∀ n a, a + n ≤ 400 → AreJ w F g (a * 5) (List.replicate n nullJ)
  | 0, _, _ => by unfold AreJ; trivial
  | n + 1, a, ha => by
    have ih := Row4.are F h n (a + 1) (by omega)
    obtain ⟨cur, h1, h2, h3⟩ := h
    obtain ⟨a0, a1, a2, a3, a4⟩ := h3 a (by omega)
    rw [if_pos (by omega)] at a0
    rw [List.replicate_succ]
    unfold AreJ
    refine ⟨⟨_, _, _, _, _, fun j u hj => ?_, IsJ.plain w F 1 0 []⟩, by rwa [show a * 5 + 5 = (a + 1) * 5 by omega]⟩
    rw [Lib.cell_of_heap h1]
    rcases j with _ | _ | _ | _ | _ | j
    · rw [Nat.add_zero, a0]; simpa using hj
    · rw [a1]; simpa using hj
    · rw [a2]; exact hj
    · rw [a3]; simpa using hj
    · rw [a4]; simpa using hj
    · simp at hj
theorem Row4.isJ {w : World} {g : Nat} (F : Nat → Prop) (h : Row4 w g 400) (hF : F g) (a n cap : Nat) (ha : a + n ≤ 400) : IsJ w F (manyJ n) (.agg #[.int .i64 5, .int .i64 0, .string ⟨#[]⟩, .slice none 0 0, .slice (some ⟨g, a * 5, none⟩) n cap]) := by
  unfold manyJ IsJ
  refine ⟨_, _, rfl, .inl ⟨rfl, rfl⟩, .inr ⟨g, a * 5, cap, by rw [List.length_replicate], hF, Row4.are F h n a ha⟩⟩
theorem hmk400 (w : World) : (Instr.makeSlice 22 (.int .i64 400) (.int .i64 400)).run Tryd.prog w = .ok (.slice (some ⟨w.heap.size, 0, none⟩) 400 400) (w.alloc (.cells MC 25)) := by
  obtain ⟨i0, hi0, hz0, hz1, hz2⟩ := info_parts info25
  have h := run_make (P := Tryd.prog) w 22 25 i0 _ Tryd.underlying22 hi0 hz0 .i64 .i64 400 400 (by decide) (by decide) (by rw [hz2]; decide) (by decide)
  rw [hz1] at h
  exact h
theorem RetPa.form {w w2 : World} {p : J × Nat} {e : Ending} (h : RetPa w p e w2) :
    ∃ jk jn jt ka kl kc ia il ic, e = .returned (.tuple #[.agg #[.int .i64 jk, .int .i64 jn, .string jt, .slice ka kl kc, .slice ia il ic], .int .i64 (p.2 : Int)]) := by
  obtain ⟨_, h1, h2⟩ := h
  by_cases hp : p.2 = 0
  · obtain ⟨v, rfl, hj⟩ := h1 hp
    obtain ⟨k, n, t, ks, is, kv, iv, _, rfl, hkv, hiv⟩ := hj.parts
    obtain ⟨ka, kc, rfl⟩ := hkv.form
    obtain ⟨ia, ic, rfl⟩ := hiv.form
    rw [hp]
    exact ⟨_, _, _, _, _, _, _, _, _, rfl⟩
  · rw [h2 hp]
    exact ⟨_, _, _, _, _, _, _, _, _, rfl⟩
end Go.Proofs.YtljkeladdplhlaaDoor
