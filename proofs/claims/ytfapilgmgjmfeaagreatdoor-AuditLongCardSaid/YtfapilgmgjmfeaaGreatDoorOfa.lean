/-
  Of, where every note is of the transaction.
-/
import Derived.Test.YtfapilgmgjmfeaaGreatDoorOlk
import Derived.Deep.LoopGhost
namespace Go.Proofs.YtfapilgmgjmfeaaGreatDoor
open Go.RowKit

/-- A variable that holds a transaction. -/
def TxnAt (w : World) (v : Nat) (t : Int) : Prop := w.heap[v]? = some (.cells #[.int .i64 t] 2 (0, 0))
theorem TxnAt.keeps {w w' : World} {v : Nat} {t : Int} (h : TxnAt w v t) (k : Keeps w w') : TxnAt w' v t := (k.block v (blk_lt h)).trans h
set_option maxHeartbeats 4000000 in
set_option maxRecDepth 100000 in
theorem other_any (v : Nat) (t : Int) (n : Nt) (w : World) (hv : TxnAt w v t) : Calls Tryz.prog 47 #[.agg (ntC n), .pointer (some ⟨v, 0, none⟩)] w (Ret (.bool (n.txn != t)) w) := by
  have K1 := Lib.hid ((Keeps.refl w).alloc (.cells (ntC n) 29))
  have c0 : w.cell? ⟨v, 0, none⟩ = some (.int .i64 t) := by rw [Lib.cell_of_heap hv]; rfl
  have hlt := blk_lt hv
  obtain ⟨nk, tt, ⟨ak, ro, s, c, d⟩, co, x⟩ := n
  unfold ntC at *
  simp only at *
  clear hv
  go_enter Tryz.func47, Tryz.ntmps47
  go_wp2
  go_ret
  exact ⟨rfl, K1.out⟩
set_option maxHeartbeats 4000000 in
set_option maxRecDepth 100000 in
theorem index_none (A : Option Addr) (c : Nat) (l : List Nt) (v : Nat) (t : Int) (w : World) (hA : NotesAt w A l) (hv : TxnAt w v t) (hlen : l.length ≤ 1000000) (hall : ∀ n, n ∈ l → n.txn = t) :
    Calls Tryz.prog 34 #[.slice A l.length c, .func (.func 47) #[] #[.pointer (some ⟨v, 0, none⟩)]] w (Ret (.int .i64 (-1)) w) := by
  have HA := Lib.hid hA
  have HV := Lib.hid hv
  have HALL := Lib.hid hall
  generalize hL : l.length = L at *
  have HL := Lib.hid hL
  clear hA hv hall hL
  go_enter Tryz.func34, Tryz.ntmps34
  go_wp2
  go_loopg [8] (L + 1) (fun g i wr => ∃ k : Nat, i = .int .i64 (k : Int) ∧ k ≤ L ∧ L - k < g ∧ Hid (Keeps w wr))
  case atStart => exact ⟨0, rfl, Nat.zero_le _, by omega, Lib.hid (Keeps.refl _)⟩
  case round =>
    obtain ⟨k, rfl, hkL, hkg, hI⟩ := hrel
    by_cases hlt : k < L
    · have hlt' : k < l.length := by rw [HL.out]; exact hlt
      obtain ⟨g, o, hAe, hc⟩ := (HA.out.keeps hI.out) k hlt'
      subst hAe
      obtain ⟨e0, e1, e2, e3, e4, e5, e6, e7, e8⟩ := hc.nine
      have hx := HALL.out _ (List.getElem_mem hlt')
      have cC := Lib.hid (other_any v t (l[k]'hlt') wr (HV.out.keeps hI.out))
      rw [hx, show (t != t) = false by simp] at cC
      generalize l[k]'hlt' = nn at *
      have f1 : decide ((k : Int) < (L : Int)) = true := by simp; omega
      have f1' : decide (k < L) = true := by simpa using hlt
      have q1 : (0 : Int) ≤ (k : Int) := by omega
      have q2 : (k : Int) < (L : Int) := by omega
      unfold ntC at cC
      clear hx hc
      go_wp2_with fail
      refine cC.out.mono ?_
      rintro e w4 ⟨rfl, k4⟩
      have K4 := Lib.hid (hI.out.trans k4)
      clear k4 e0 e1 e2 e3 e4 e5 e6 e7 e8
      go_wp2
      cases gk with
      | zero => omega
      | succ g2 =>
        go_roundg g2
        case measure => omega
        case rel => exact ⟨k + 1, by go_num, by omega, by omega, K4.out⟩
    · have HI := Lib.hid hI.out
      have f1 : decide ((k : Int) < (L : Int)) = false := by simp; omega
      have f1' : decide (k < L) = false := by simpa using hlt
      clear hI
      go_wp2
      go_ret
      exact ⟨rfl, HI.out⟩
/-- Nothing is deleted. -/
theorem deln_none (A : Option Addr) (c : Nat) (l : List Nt) (v : Nat) (t : Int) (w : World) (hA : NotesAt w A l) (hv : TxnAt w v t) (hlen : l.length ≤ 1000000) (hall : ∀ n, n ∈ l → n.txn = t) :
    Calls Tryz.prog 45 #[.slice A l.length c, .func (.func 47) #[] #[.pointer (some ⟨v, 0, none⟩)]] w (Ret (.slice A l.length c) w) := by
  have cI := Lib.hid (index_none A c l v t w hA hv hlen hall)
  generalize l.length = L at *
  clear hA hv hall
  go_enter Tryz.func45, Tryz.ntmps45
  go_wp2_with fail
  refine cI.out.mono ?_
  rintro e w1 ⟨rfl, k1⟩
  have K1 := Lib.hid k1
  clear k1
  go_wp2
  go_ret
  exact ⟨rfl, K1.out⟩
set_option maxHeartbeats 4000000 in
set_option maxRecDepth 100000 in
theorem of_all (g o : Nat) (s : Option Nat) (c : Nat) (l : List Nt) (t : Int) (w : World) (hA : NotesAt w (some ⟨g, o, s⟩) l) (hlen : l.length ≤ 1000000) (hs : l = [] ∨ s = none) (hall : ∀ n, n ∈ l → n.txn = t) :
    Calls Tryz.prog 17 #[.slice (some ⟨g, o, s⟩) l.length c, .int .i64 t] w (fun e w' => ∃ A' c', e = .returned (.slice A' l.length c') ∧ Keeps w w') := by
  have K0 := Lib.hid ((Keeps.refl w).alloc (.cells #[.int .i64 t] 2))
  have cC := Lib.hid (clone_any g o s c l (w.alloc (.cells #[.int .i64 t] 2)) (hA.keeps K0.out) hlen hs)
  have HT : Hid (TxnAt (w.alloc (.cells #[.int .i64 t] 2)) w.heap.size t) := Lib.hid (heap_alloc_new w _)
  have cD := Lib.hid (fun A' c' wx (kx : Keeps (w.alloc (.cells #[.int .i64 t] 2)) wx) (hx : NotesAt wx A' l) => deln_none A' c' l w.heap.size t wx hx (HT.out.keeps kx) hlen hall)
  have HL := Lib.hid hlen
  generalize hL : l.length = L at *
  have HLL := Lib.hid hL
  clear hA hall hlen hs hL
  go_enter Tryz.func17, Tryz.ntmps17
  go_wp2_with fail
  refine cC.out.mono ?_
  rintro e w1 ⟨v, rfl, hrow, k1⟩
  obtain ⟨A', c', rfl, hN⟩ := hrow.notes
  have cE := Lib.hid (cD.out A' c' w1 k1 hN)
  have K1 := Lib.hid (K0.out.trans k1)
  clear k1 hN hrow cC cD
  rw [HLL.out]
  go_wp2_with fail
  refine cE.out.mono ?_
  rintro e w2 ⟨rfl, k2⟩
  have K2 := Lib.hid (K1.out.trans k2)
  clear k2
  go_wp2
  go_ret
  exact ⟨_, _, rfl, K2.out⟩
end Go.Proofs.YtfapilgmgjmfeaaGreatDoor
