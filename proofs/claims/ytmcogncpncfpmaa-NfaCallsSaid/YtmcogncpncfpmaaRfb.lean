/-
  The contracts of the document's own automaton: New, on, same.
-/
import Derived.Test.YtmcogncpncfpmaaRfa
import Derived.Test.YtmcogncpncfpmaaApi
namespace Go.Proofs.Ytmcogncpncfpmaa
open Go.RowKit

/-- The document's automaton, in block P. -/
structure RefAt (w : World) (P : Nat) (N : List UInt8) (fo : Bool) : Prop where
  c0 : w.cell? ⟨P, 0, none⟩ = some (.string (S N))
  c1 : w.cell? ⟨P, 1, none⟩ = some (.bool fo)
theorem RefAt.keeps {w w' : World} {P : Nat} {N : List UInt8} {fo : Bool} (h : RefAt w P N fo) (k : Keeps w w') : RefAt w' P N fo := ⟨k.cell h.c0, k.cell h.c1⟩
theorem RefAt.lt {w : World} {P : Nat} {N : List UInt8} {fo : Bool} (h : RefAt w P N fo) : P < w.heap.size := World.block_lt_of_cell? _ _ h.c0
theorem RefAt.below {w w' : World} {P n : Nat} {N : List UInt8} {fo : Bool} (h : RefAt w P N fo) (k : Below n w w') (hP : P < n) : RefAt w' P N fo :=
  ⟨(k.cell (p := ⟨P, 0, none⟩) hP).trans h.c0, (k.cell (p := ⟨P, 1, none⟩) hP).trans h.c1⟩

def RNewPost (l : List UInt8) (fo : Bool) (w : World) (e : Ending) (w' : World) : Prop :=
  (checkI l ≠ 0 ∧ e = .returned (.tuple #[.pointer none, .int .i64 (checkI l)]) ∧ Keeps w w') ∨
  (checkI l = 0 ∧ ∃ P, w.heap.size ≤ P ∧ e = .returned (.tuple #[.pointer (some ⟨P, 0, none⟩), .int .i64 0]) ∧ RefAt w' P (normL l) fo ∧ Keeps w w')

set_option maxHeartbeats 1000000 in
theorem rnew_any (s : ByteArray) (fo : Bool) (w : World) : Calls Try.prog 17 #[.string s, .bool fo] w (RNewPost s.data.toList fo w) := by
  have hl : s.data.toList.length = s.size := by simp
  have cC := Lib.hid (fun (w1 : World) => rcheck_any s w1)
  unfold RNewPost
  by_cases h0 : checkI s.data.toList = 0
  · have hz : s.size ≤ 255 := by
      unfold checkI at h0
      rw [hl] at h0
      split at h0
      · cases h0
      · split at h0
        · cases h0
        · omega
    have cN := Lib.hid (fun (w1 : World) => rnorm_any s w1 (by omega))
    rw [h0] at cC
    simp only [h0]
    generalize normL s.data.toList = N at cN ⊢
    go_enter Try.func17, Try.ntmps17
    go_wp2_with fail
    refine (cC.out _).mono ?_
    rintro e w2 ⟨rfl, k2⟩
    have K2 := Lib.hid k2
    clear k2
    go_wp2_with fail
    refine (cN.out _).mono ?_
    rintro e w3 ⟨rfl, k3⟩
    have K3 := Lib.hid (Keeps.trans K2.out k3)
    clear k3 K2
    have hh : (w3.alloc (.cells #[.string (S N), .bool fo] 41)).heap[w3.heap.size]? = some (.cells #[.string (S N), .bool fo] 41 (0, 0)) := heap_alloc_new w3 _
    have HH := Lib.hid hh
    clear hh
    go_wp2
    go_ret2
    exact .inr ⟨trivial, w3.heap.size, K3.out.size, rfl, ⟨by rw [Lib.cell_of_heap HH.out]; rfl, by rw [Lib.cell_of_heap HH.out]; rfl⟩, K3.out.alloc _⟩
  · go_enter Try.func17, Try.ntmps17
    go_wp2_with fail
    refine (cC.out _).mono ?_
    rintro e w2 ⟨rfl, k2⟩
    have hne := h0
    go_wp2
    go_ret2
    exact .inl ⟨h0, rfl, k2⟩

theorem app_int (B : Nat) (w : World) (v : Value) (o : List Nat) (x : Nat) (h : w.ownsRow B 3 1 v (zl o).length (ivals (zl o))) (hl : (zl o).length ≤ 90000) (hB : B ≤ w.heap.size) :
    ∃ v' w', (Builtin.append_ #[31, 31] 31 #[v, .slice (some ⟨w.heap.size, 0, none⟩) 1 1]).run Try.prog (w.alloc (.cells #[.int .i64 (x : Int)] 3)) = .ok v' w' ∧ w'.ownsRow B 3 1 v' (zl (o ++ [x])).length (ivals (zl (o ++ [x]))) ∧ Below B w w' := by
  obtain ⟨v', w', h1, h2, h3⟩ := app_ints B (w.alloc (.cells #[.int .i64 (x : Int)] 3)) v (zl o) [(x : Int)] (some ⟨w.heap.size, 0, none⟩) 1 (h.alloc _) (fun k hk => by
    simp at hk; subst hk
    exact ⟨_, rfl, by rw [add_zero, Lib.cell_of_heap (heap_alloc_new w _)]; rfl⟩) (.inr (by simp)) (by simp only [List.length_singleton]; omega) (by simp; omega)
  have e : zl (o ++ [x]) = zl o ++ [(x : Int)] := by simp [zl]
  rw [e]
  exact ⟨v', w', h1, h2, ((Below.refl B w).alloc hB _).grown h3 (by simp; omega) (fun k e => (h.lt k e).1)⟩

set_option maxHeartbeats 2000000 in
theorem on_any (P B c : Nat) (N : List UInt8) (f : Nat → Bool) (w : World) (hN : N.length ≤ 300) (h1 : w.cell? ⟨P, 0, none⟩ = some (.string (S N))) (hr : RowB w B (N.length + 1) f) (hPB : P < B) :
    Calls Try.prog 33 #[.pointer (some ⟨P, 0, none⟩), .slice (some ⟨B, 0, none⟩) (N.length + 1) c] w (fun e w' => (∃ v, e = .returned v ∧ w'.ownsRow w.heap.size 3 1 v (zl (lstN (cloF N f) (N.length + 1))).length (ivals (zl (lstN (cloF N f) (N.length + 1))))) ∧ Below B w w') := by
  have hBw : B < w.heap.size := hr.lt (by omega)
  have HA := Lib.hid (fun k (hk : k < (S N).size) => getD_at (S N) k hk)
  simp only [S_data] at HA
  have hst0 : starB N (S N).size = false := by unfold starB; rw [S_size]; simp
  rw [← S_size N] at hN hr ⊢
  have hH := Lib.hid (fun k => clTo_hit N f k)
  have hM := Lib.hid (fun k => clTo_miss N f k)
  have h0 := Lib.hid (clTo_zero N f)
  have hAt := Lib.hid (fun k => clTo_at N f k)
  have hSt : Hid (∀ k (hk : k < (S N).size), starB N k = ((S N)[k].toNat == 42)) := Lib.hid (fun k hk => by unfold starB; rw [HA.out k hk])
  have hL : Hid (∀ k, lstN (cloF N f) (k + 1) = if cloF N f k = true then lstN (cloF N f) k ++ [k] else lstN (cloF N f) k) := Lib.hid (fun _ => rfl)
  have hLl : Hid (∀ k, (zl (lstN (cloF N f) k)).length ≤ k) := Lib.hid (fun k => by rw [zl_len]; exact lstN_len _ _)
  have HS0 := Lib.hid hst0
  have HR := Lib.hid hr
  clear hr hst0
  generalize S N = s at *
  go_enter Try.func33, Try.ntmps33
  go_wp2
  go_loopw [5, 6] (fun v i wr => ∃ k : Nat, k ≤ s.size + 1 ∧ i = .int .i64 k ∧ RowB wr B (s.size + 1) (clTo N f k) ∧ wr.ownsRow w.heap.size 3 1 v (zl (lstN (cloF N f) k)).length (ivals (zl (lstN (cloF N f) k))) ∧ Below B w wr) (fun _ i _ => s.size + 1 - (intOf i).toNat)
  case atStart => exact ⟨0, Nat.zero_le _, rfl, by rw [h0.out]; exact HR.out, World.ownsRow_nil _ _ _ _, Below.refl _ _⟩
  case round =>
    obtain ⟨k, hk, rfl, hrow, ho, hb⟩ := hrel
    have d1 := (hb.cell (p := ⟨P, 0, none⟩) hPB).trans h1
    have hz := hb.size
    clear h1
    by_cases hlt : k < s.size + 1
    · have hc := (hrow k (by omega)).1
      rw [hAt.out] at hc
      have HH := Lib.hid (hH.out k)
      have HM := Lib.hid (hM.out k)
      have HL := Lib.hid (hL.out k)
      have hll := hLl.out k
      have HW := Lib.hid hrow
      clear hrow
      generalize lstN (cloF N f) k = o at ho HL hll
      generalize cloF N f k = b at hc HH HM HL
      cases b
      · have HO := Lib.hid ho
        clear ho
        go_wp2
        go_roundw
        case rel => exact ⟨k + 1, by omega, by go_num, by rw [HM.out rfl]; exact HW.out, by rw [HL.out]; exact HO.out, hb⟩
        case measure => simp [intOf]; omega
      · obtain ⟨v2, w2, hrun, ho2, hb2⟩ := app_int w.heap.size wr _ o k ho (by omega) hz
        have HO2 := Lib.hid ho2
        have HW2 := Lib.hid (HW.out.below hb2 hBw)
        have hk2 : Below B w w2 := hb.trans (hb2.mono (by omega))
        have e1 := (hb2.cell (p := ⟨P, 0, none⟩) (by show P < _; omega)).trans d1
        clear ho ho2 d1
        by_cases hke : k = s.size
        · subst hke
          clear HH
          go_wp2_with (at_builtin; refine wpList_app rfl _ _ 31 rfl _ _ _ rfl rfl hrun ?_)
          clear hrun
          go_wp2
          go_roundw
          case rel => exact ⟨s.size + 1, Nat.le_refl _, by go_num, by rw [HM.out (by rw [HS0.out]; rfl)]; exact HW2.out, by rw [HL.out]; exact HO2.out, hk2⟩
          case measure => simp [intOf]
        · have hks : k < s.size := by omega
          have hst := hSt.out k hks
          have hc' := (HW2.out (k + 1) (by omega)).1
          have hf' := (HW2.out (k + 1) (by omega)).2
          generalize clTo N f k (k + 1) = b' at hc'
          by_cases h42 : s[k].toNat = 42
          · have e : starB N k = true := by rw [hst]; simp [h42]
            clear hst
            go_wp2_with (at_builtin; refine wpList_app rfl _ _ 31 rfl _ _ _ rfl rfl hrun ?_)
            clear hrun
            go_wp2
            go_roundw
            case rel => exact ⟨k + 1, by omega, by go_num, by rw [HH.out rfl e]; exact HW2.out.set (by omega), by rw [HL.out]; exact ownsRow_setCell_below HO2.out hBw _, hk2.setCell (p := ⟨B, k + 1, none⟩) (Nat.le_refl _) _⟩
            case measure => simp [intOf]; omega
          · have e : starB N k = false := by rw [hst]; simp [h42]
            clear hst
            go_wp2_with (at_builtin; refine wpList_app rfl _ _ 31 rfl _ _ _ rfl rfl hrun ?_)
            clear hrun
            go_wp2
            go_roundw
            case rel => exact ⟨k + 1, by omega, by go_num, by rw [HM.out (by rw [e]; rfl)]; exact HW2.out, by rw [HL.out]; exact HO2.out, hk2⟩
            case measure => simp [intOf]; omega
    · obtain rfl : k = s.size + 1 := by omega
      generalize hoo : lstN (cloF N f) (s.size + 1) = o at ho
      have HOO := Lib.hid hoo
      clear hoo
      obtain ⟨A, c', rfl, _⟩ := IntsAt.own ho
      have HO := Lib.hid ho
      clear ho hrow
      go_wp2
      go_ret
      exact ⟨⟨_, rfl, by rw [HOO.out]; exact HO.out⟩, hb⟩
end Go.Proofs.Ytmcogncpncfpmaa
