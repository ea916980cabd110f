/-
  The contracts of New, made, folded, States and Pattern of package nfa.
-/
import Derived.Test.YtmcogncpncfpmaaDoorGlb
namespace Go.Proofs.YtmcogncpncfpmaaDoor
open Go.RowKit

/-- The object of a normal form, in block P. -/
structure NfaAt (w : World) (P : Nat) (N : List UInt8) (fo : Bool) : Prop where
  c0 : w.cell? ⟨P, 0, none⟩ = some (.pointer (some ⟨P, 0, none⟩))
  c1 : w.cell? ⟨P, 1, none⟩ = some (.string (S N))
  c2 : w.cell? ⟨P, 2, none⟩ = some (.bool fo)
  c3 : w.cell? ⟨P, 3, none⟩ = some (.string (S (foldL fo N)))
theorem NfaAt.keeps {w w' : World} {P : Nat} {N : List UInt8} {fo : Bool} (h : NfaAt w P N fo) (k : Keeps w w') : NfaAt w' P N fo :=
  ⟨k.cell h.c0, k.cell h.c1, k.cell h.c2, k.cell h.c3⟩
theorem NfaAt.lt {w : World} {P : Nat} {N : List UInt8} {fo : Bool} (h : NfaAt w P N fo) : P < w.heap.size := World.block_lt_of_cell? _ _ h.c0
theorem NfaAt.below {w w' : World} {P n : Nat} {N : List UInt8} {fo : Bool} (h : NfaAt w P N fo) (k : Below n w w') (hP : P < n) : NfaAt w' P N fo :=
  ⟨(k.cell (p := ⟨P, 0, none⟩) hP).trans h.c0, (k.cell (p := ⟨P, 1, none⟩) hP).trans h.c1, (k.cell (p := ⟨P, 2, none⟩) hP).trans h.c2, (k.cell (p := ⟨P, 3, none⟩) hP).trans h.c3⟩

set_option maxHeartbeats 1000000 in
theorem folded_any (P : Nat) (fo : Bool) (s : ByteArray) (w : World) (hs : s.size ≤ maxLen) (h2 : w.cell? ⟨P, 2, none⟩ = some (.bool fo)) : Calls Tryd.prog 16 #[.pointer (some ⟨P, 0, none⟩), .string s] w (RetS (foldL fo s.data.toList) w) := by
  have cF := Lib.hid (fun (w1 : World) => fold_any s w1 hs)
  have hS : s = S s.data.toList := rfl
  unfold foldL
  generalize s.data.toList = l at cF hS ⊢
  have HS := Lib.hid hS
  clear hS
  cases fo
  · go_enter Tryd.func16, Tryd.ntmps16
    go_wp2
    go_ret
    exact RetS.of HS.out (Keeps.refl _)
  · go_enter Tryd.func16, Tryd.ntmps16
    go_wp2_with fail
    refine (cF.out _).mono ?_
    rintro e w2 ⟨rfl, h⟩
    go_wp2
    go_ret
    exact RetS.of rfl h

theorem run_eql_ptr_same {w : World} {tp te : TypeId} {j : TypeInfo} (a : Addr) (hp : Tryd.prog.underlying tp = some (.pointer te)) (hte : Tryd.prog.info? te = some j) :
    (binOp .eql tp (.pointer (some a)) (.pointer (some a))).run Tryd.prog w = .ok (.bool true) w := by
  have h : ∀ d : Nat, (Op.equalIn (d + 1) tp (.pointer (some a)) (.pointer (some a))).run Tryd.prog w = .ok true w := fun d => by
    simp [Op.equalIn, run_underlying hp, sizeOf, typeInfo, hte, run_sameAddr_same]
  simp only [binOp]
  simp [Op.equal, Op.maxDepth, h 9999]

theorem sizeN : (Tryd.prog.info? 40).map (·.size) = some 4 := by kernel_rfl

set_option maxHeartbeats 1000000 in
theorem made_any (P : Nat) (w : World) (h0 : w.cell? ⟨P, 0, none⟩ = some (.pointer (some ⟨P, 0, none⟩))) : Calls Tryd.prog 17 #[.pointer (some ⟨P, 0, none⟩)] w (fun e w' => e = .returned (.bool true) ∧ w' = w) := by
  obtain ⟨j, hj, _⟩ := Option.map_eq_some_iff.1 sizeN
  go_enter Tryd.func17, Tryd.ntmps17
  go_wp2
  rw [run_eql_ptr_same _ Tryd.underlying24 hj]
  simp only [Result.andThen]
  rw [Oper.upon_value]
  go_wp2
  go_ret
  exact ⟨rfl, rfl⟩

set_option maxHeartbeats 1000000 in
theorem made_nil (w : World) : Calls Tryd.prog 17 #[.pointer none] w (fun e w' => e = .returned (.bool false) ∧ w' = w) := by
  go_enter Tryd.func17, Tryd.ntmps17
  go_wp2
  go_ret
  exact ⟨rfl, rfl⟩

set_option maxHeartbeats 1000000 in
theorem states_any (P : Nat) (N : List UInt8) (fo : Bool) (w : World) (hN : N.length ≤ 300) (h : NfaAt w P N fo) : Calls Tryd.prog 11 #[.pointer (some ⟨P, 0, none⟩)] w (fun e w' => e = .returned (.int .i64 ((N.length : Int) + 1)) ∧ w' = w) := by
  have cM := Lib.hid (made_any P w h.c0)
  have c1 := h.c1
  have hz : (S N).size = N.length := S_size N
  have HZ := Lib.hid hz
  have hN' : (S N).size ≤ 300 := by rw [hz]; exact hN
  clear hz h
  rw [← HZ.out]
  generalize S N = s at c1 hN' ⊢
  go_enter Tryd.func11, Tryd.ntmps11
  go_wp2_with fail
  refine cM.out.mono ?_
  rintro e w2 ⟨rfl, rfl⟩
  go_wp2
  go_ret
  exact ⟨by go_num, rfl⟩

set_option maxHeartbeats 1000000 in
theorem states_nil (w : World) : Calls Tryd.prog 11 #[.pointer none] w (fun e w' => e = .returned (.int .i64 0) ∧ w' = w) := by
  have cM := Lib.hid (fun w => made_nil w)
  go_enter Tryd.func11, Tryd.ntmps11
  go_wp2_with fail
  refine (cM.out _).mono ?_
  rintro e w2 ⟨rfl, rfl⟩
  go_wp2
  go_ret
  exact ⟨rfl, rfl⟩

def NewPost (l : List UInt8) (fo : Bool) (w : World) (e : Ending) (w' : World) : Prop :=
  (checkI l ≠ 0 ∧ e = .returned (.tuple #[.pointer none, .int .i64 (checkI l)]) ∧ Keeps w w') ∨
  (checkI l = 0 ∧ ∃ P, w.heap.size ≤ P ∧ e = .returned (.tuple #[.pointer (some ⟨P, 0, none⟩), .int .i64 0]) ∧ NfaAt w' P (normL l) fo ∧ Keeps w w')

set_option maxHeartbeats 2000000 in
theorem new_any (s : ByteArray) (fo : Bool) (w : World) (hs : s.size ≤ maxLen) : Calls Tryd.prog 6 #[.string s, .bool fo] w (NewPost s.data.toList fo w) := by
  have hl : s.data.toList.length = s.size := by simp
  have cC := Lib.hid (fun (w1 : World) => check_any s w1)
  unfold NewPost
  by_cases h0 : checkI s.data.toList = 0
  · have hz : s.size ≤ 255 := by
      unfold checkI at h0
      rw [hl] at h0
      split at h0
      · cases h0
      · split at h0
        · cases h0
        · omega
    have hnl := normL_len s.data.toList
    have cN := Lib.hid (fun (w1 : World) => norm_any s w1 (by omega))
    have cF := Lib.hid (fun (P : Nat) (w1 : World) => folded_any P fo (S (normL s.data.toList)) w1 (by unfold maxLen; rw [S_size]; omega))
    simp only [S_data] at cF
    rw [h0] at cC
    simp only [h0]
    generalize normL s.data.toList = N at cN cF ⊢
    go_enter Tryd.func6, Tryd.ntmps6
    go_wp2_with fail
    refine (cC.out _).mono ?_
    rintro e w2 ⟨rfl, k2⟩
    have K2 := Lib.hid k2
    clear k2
    go_wp2_with fail
    refine (cN.out _).mono ?_
    rintro e w3 ⟨rfl, k3⟩
    have K3 := Lib.hid (Keeps.trans K2.out k3)
    clear k3 K2
    obtain ⟨o, ho⟩ : ∃ o, o = Obj.cells #[.pointer none, .string (S N), .bool fo, .string ⟨#[]⟩] 40 := ⟨_, rfl⟩
    have hh : (w3.alloc o).heap[w3.heap.size]? = some (.cells #[.pointer none, .string (S N), .bool fo, .string ⟨#[]⟩] 40 (0, 0)) := by rw [ho]; exact heap_alloc_new w3 _
    have a1 : (w3.alloc o).cell? ⟨w3.heap.size, 1, none⟩ = some (.string (S N)) := by rw [Lib.cell_of_heap hh]; rfl
    have a2 : (w3.alloc o).cell? ⟨w3.heap.size, 2, none⟩ = some (.bool fo) := by rw [Lib.cell_of_heap hh]; rfl
    have a3 : (w3.alloc o).cell? ⟨w3.heap.size, 3, none⟩ = some (.string ⟨#[]⟩) := by rw [Lib.cell_of_heap hh]; rfl
    have a0 : (w3.alloc o).cell? ⟨w3.heap.size, 0, none⟩ = some (.pointer none) := by rw [Lib.cell_of_heap hh]; rfl
    have f3 : (w3.alloc o).frozen? ⟨w3.heap.size, 3, none⟩ = false := Lib.frozen_of_heap hh 3
    have f0 : (w3.alloc o).frozen? ⟨w3.heap.size, 0, none⟩ = false := Lib.frozen_of_heap hh 0
    subst ho
    have hP := K3.out.size
    have HK := Lib.hid (K3.out.alloc (.cells #[.pointer none, .string (S N), .bool fo, .string ⟨#[]⟩] 40))
    clear K3 hh
    go_wp2_with fail
    refine (cF.out _ _ a2).mono ?_
    rintro e w4 ⟨rfl, k4⟩
    have A0 := k4.cell a0
    have A1 := k4.cell a1
    have A2 := k4.cell a2
    have A3 := k4.cell a3
    have F0 := (Below.frozen k4 (p := ⟨w3.heap.size, 0, none⟩) (World.block_lt_of_cell? _ _ a0)).trans f0
    have F3 := (Below.frozen k4 (p := ⟨w3.heap.size, 3, none⟩) (World.block_lt_of_cell? _ _ a3)).trans f3
    have HK4 := Lib.hid (Keeps.trans HK.out k4)
    clear k4 a0 a1 a2 a3 f0 f3 HK
    go_wp2
    go_ret2
    refine .inr ⟨trivial, w3.heap.size, hP, rfl, ⟨?_, ?_, ?_, ?_⟩, (HK4.out.setCell (p := ⟨w3.heap.size, 3, none⟩) hP _).setCell (p := ⟨w3.heap.size, 0, none⟩) hP _⟩
    · exact World.cell?_setCell_same' _ _ _ (by rw [World.cell?_setCell_other _ _ _ _ (by simp), A0]; rfl)
    · rw [World.cell?_setCell_other _ _ _ _ (by simp), World.cell?_setCell_other _ _ _ _ (by simp)]; exact A1
    · rw [World.cell?_setCell_other _ _ _ _ (by simp), World.cell?_setCell_other _ _ _ _ (by simp)]; exact A2
    · rw [World.cell?_setCell_other _ _ _ _ (by simp)]; exact World.cell?_setCell_same' _ _ _ (by rw [A3]; rfl)
  · go_enter Tryd.func6, Tryd.ntmps6
    go_wp2_with fail
    refine (cC.out _).mono ?_
    rintro e w2 ⟨rfl, k2⟩
    have hne := h0
    go_wp2
    go_ret2
    exact .inl ⟨h0, rfl, k2⟩
end Go.Proofs.YtmcogncpncfpmaaDoor
