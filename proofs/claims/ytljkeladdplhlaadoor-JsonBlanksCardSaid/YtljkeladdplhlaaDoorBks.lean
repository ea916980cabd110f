/-
  The contract of the statements' blanks: bytes by their numbers.
-/
import Derived.Test.YtljkeladdplhlaaDoorBlk
import Derived.Test.YtljkeladdplhlaaDoorPck
namespace Go.Proofs.YtljkeladdplhlaaDoor
open Go.RowKit

def IntsAt (w : World) (A : Option Addr) (zs : List Int) : Prop := ∀ k, k < zs.length → ∃ ad, A = some ad ∧ w.cell? (ad.add k) = some (.int .i64 (zs.getD k 0))
theorem IntsAt.keeps {w w' : World} {A : Option Addr} {zs : List Int} (h : IntsAt w A zs) (k : Keeps w w') : IntsAt w' A zs := fun j hj => by
  obtain ⟨ad, e, hc⟩ := h j hj
  exact ⟨ad, e, k.cell hc⟩
theorem IntsAt.nil (w : World) (A : Option Addr) : IntsAt w A [] := fun k hk => absurd hk (by simp)
def blankN (n : Int) : UInt8 := if n % 4 = 0 then 9 else if n % 4 = 1 then 10 else if n % 4 = 2 then 13 else 32
theorem blankN_blank (n : Int) : blankB (blankN n) = true := by
  unfold blankN
  split
  · rfl
  · split
    · rfl
    · split <;> rfl
def blankL (zs : List Int) : List UInt8 := zs.map blankN
theorem blankL_blank (zs : List Int) : Blanks (blankL zs) := fun c hc => by
  obtain ⟨n, _, rfl⟩ := List.mem_map.1 hc
  exact blankN_blank n
theorem blankL_more (zs : List Int) (k : Nat) (h : k < zs.length) : blankL (zs.take (k + 1)) = blankL (zs.take k) ++ [blankN (zs.getD k 0)] := by
  rw [List.take_succ_eq_append_getElem h]
  rw [blankL, List.map_append, show zs.getD k 0 = zs[k] by simp [List.getD, h]]; rfl

theorem conv_own (B : Nat) (w : World) (v : Value) (o : List UInt8) (h : w.ownsRow B 5 1 v o.length (Lib.byteCells o)) : (convert 42 9 v).run Tryd.prog w = .ok (.string (S o)) w := by
  rcases h.2 with ⟨rfl, h0⟩ | ⟨g, cap, cur, rfl, hb, hg, hle, hm, hs, ht⟩
  · have e : o = [] := List.eq_nil_of_length_eq_zero h0
    subst e
    rw [run_convert_bytes_string w 42 9 5 none 0 0 Tryd.underlying42 Tryd.underlying5 Tryd.underlying9]
    rfl
  · refine run_convert_bytes_back (P := Tryd.prog) w 42 9 5 ⟨g, 0, none⟩ cap o Tryd.underlying42 Tryd.underlying5 Tryd.underlying9 ?_
    intro j hj
    refine h.cells (g := g) rfl j _ ?_
    simp [Lib.byteCells, hj]
def RetS (l : List UInt8) (w : World) (e : Ending) (w' : World) : Prop := e = .returned (.string (S l)) ∧ Keeps w w'

set_option maxHeartbeats 2000000 in
set_option maxRecDepth 100000 in
theorem blanks_any (A : Option Addr) (c : Nat) (zs : List Int) (w : World) (h : IntsAt w A zs) (hl : zs.length ≤ 40) : Calls Tryd.prog 25 #[.slice A zs.length c] w (RetS (blankL zs) w) := by
  obtain ⟨i0, hi, hz0, hz1, hz2⟩ := info_parts infoByte
  have cP := Lib.hid (fun (n : Int) (w1 : World) => pick_any n 4 w1 (by omega) (by omega))
  have HX := Lib.hid h
  have HM := Lib.hid (fun k hk => blankL_more zs k hk)
  have HE : Hid (blankL (zs.take zs.length) = blankL zs) := Lib.hid (by rw [List.take_length])
  have HL := Lib.hid (fun k (hk : k ≤ zs.length) => (show (blankL (zs.take k)).length = k by simp [blankL, hk]))
  generalize hnn : zs.length = n at *
  have HNN := Lib.hid hnn
  clear h hnn
  go_enter Tryd.func25, Tryd.ntmps25
  go_wp2
  go_loopw [3, 4] (fun v i wr => ∃ k : Nat, k ≤ n ∧ i = .int .i64 k ∧ wr.ownsRow w.heap.size 5 1 v (blankL (zs.take k)).length (Lib.byteCells (blankL (zs.take k))) ∧ Keeps w wr) (fun _ i _ => n - (intOf i).toNat)
  case atStart => exact ⟨0, Nat.zero_le _, rfl, World.ownsRow_nil _ _ _ _, Keeps.refl _⟩
  case round =>
    obtain ⟨k, hk, rfl, ho, hkp⟩ := hrel
    have hz := hkp.size
    by_cases hlt : k < n
    · obtain ⟨ad, rfl, c1⟩ := (HX.out.keeps hkp) k (by rw [HNN.out]; exact hlt)
      have hmk := Lib.hid (HM.out k hlt)
      have hlk := HL.out k hk
      generalize zs.getD k 0 = x at c1 hmk
      generalize blankL (zs.take k) = o at ho hmk hlk
      have HO := Lib.hid ho
      have K := Lib.hid hkp
      have hol : o.length ≤ 40 := by omega
      clear ho hkp
      have h0 := Int.emod_nonneg x (show (4 : Int) ≠ 0 by omega)
      have h1 := Int.emod_lt_of_pos x (show (0 : Int) < 4 by omega)
      obtain ⟨r, hr⟩ : ∃ r, x % 4 = r := ⟨_, rfl⟩
      have cQ := Lib.hid (cP.out x wr)
      have hb : blankN x = (if r = 0 then 9 else if r = 1 then 10 else if r = 2 then 13 else 32) := by rw [← hr]; rfl
      rw [hr] at cQ h0 h1
      have HB := Lib.hid hb
      clear hb hr
      have hcs : r = 0 ∨ r = 1 ∨ r = 2 ∨ r = 3 := by omega
      clear h0 h1
      rcases hcs with rfl | rfl | rfl | rfl
      · have hbx : blankN x = 9 := by rw [HB.out]; decide
        rw [hbx] at hmk
        have hba : Lib.byteCells (o ++ [9]) = Lib.byteCells o ++ [.int .u8 9] := by simp [Lib.byteCells]
        have hbl : (Lib.byteCells o).length = o.length := by simp [Lib.byteCells]
        have HBA := Lib.hid hba
        clear hba hbl
        go_wp2_with fail
        refine cQ.out.mono ?_
        rintro e w2 ⟨rfl, rfl⟩
        go_wp2_with (at_builtin; refine wpList_append_own _ rfl _ _ 42 rfl w.heap.size 5 i0 (.int .u8 0) 1 1 Tryd.underlying42 hi hz0 hz1 hz2 rfl (by decide) _ _ _ rfl (HO.out.alloc _) ⟨w2.heap.size, 0, none⟩ 1 1 [.int .u8 9] rfl rfl ?c1 ?c2 ?c3 ?c4 ?c5 ?_)
        case c1 =>
          intro j u hj
          match j, hj with
          | 0, hj => simp at hj; subst hj; simp [Addr.add]; rfl
        case c2 => intro u hu; simp at hu; subst hu; rfl
        case c3 => unfold maxLen; omega
        case c4 => omega
        case c5 => simp; omega
        intro v' w3 hown' hgrow _
        have hk3 : Keeps w w3 := (K.out.alloc _).grown hgrow (by simp; omega) (fun k e => (HO.out.lt k e).1)
        have HO3 : Hid (w3.ownsRow w.heap.size 5 1 v' (o ++ [9]).length (Lib.byteCells (o ++ [9]))) := Lib.hid (by rw [HBA.out, List.length_append, hlk]; exact hown')
        clear hown' hgrow
        go_wp2
        go_roundw
        case rel => exact ⟨k + 1, by omega, by go_num, by rw [hmk.out]; exact HO3.out, hk3⟩
        case measure => simp [intOf]; omega
      · have hbx : blankN x = 10 := by rw [HB.out]; decide
        rw [hbx] at hmk
        have hba : Lib.byteCells (o ++ [10]) = Lib.byteCells o ++ [.int .u8 10] := by simp [Lib.byteCells]
        have hbl : (Lib.byteCells o).length = o.length := by simp [Lib.byteCells]
        have HBA := Lib.hid hba
        clear hba hbl
        go_wp2_with fail
        refine cQ.out.mono ?_
        rintro e w2 ⟨rfl, rfl⟩
        go_wp2_with (at_builtin; refine wpList_append_own _ rfl _ _ 42 rfl w.heap.size 5 i0 (.int .u8 0) 1 1 Tryd.underlying42 hi hz0 hz1 hz2 rfl (by decide) _ _ _ rfl (HO.out.alloc _) ⟨w2.heap.size, 0, none⟩ 1 1 [.int .u8 10] rfl rfl ?c1 ?c2 ?c3 ?c4 ?c5 ?_)
        case c1 =>
          intro j u hj
          match j, hj with
          | 0, hj => simp at hj; subst hj; simp [Addr.add]; rfl
        case c2 => intro u hu; simp at hu; subst hu; rfl
        case c3 => unfold maxLen; omega
        case c4 => omega
        case c5 => simp; omega
        intro v' w3 hown' hgrow _
        have hk3 : Keeps w w3 := (K.out.alloc _).grown hgrow (by simp; omega) (fun k e => (HO.out.lt k e).1)
        have HO3 : Hid (w3.ownsRow w.heap.size 5 1 v' (o ++ [10]).length (Lib.byteCells (o ++ [10]))) := Lib.hid (by rw [HBA.out, List.length_append, hlk]; exact hown')
        clear hown' hgrow
        go_wp2
        go_roundw
        case rel => exact ⟨k + 1, by omega, by go_num, by rw [hmk.out]; exact HO3.out, hk3⟩
        case measure => simp [intOf]; omega
      · have hbx : blankN x = 13 := by rw [HB.out]; decide
        rw [hbx] at hmk
        have hba : Lib.byteCells (o ++ [13]) = Lib.byteCells o ++ [.int .u8 13] := by simp [Lib.byteCells]
        have hbl : (Lib.byteCells o).length = o.length := by simp [Lib.byteCells]
        have HBA := Lib.hid hba
        clear hba hbl
        go_wp2_with fail
        refine cQ.out.mono ?_
        rintro e w2 ⟨rfl, rfl⟩
        go_wp2_with (at_builtin; refine wpList_append_own _ rfl _ _ 42 rfl w.heap.size 5 i0 (.int .u8 0) 1 1 Tryd.underlying42 hi hz0 hz1 hz2 rfl (by decide) _ _ _ rfl (HO.out.alloc _) ⟨w2.heap.size, 0, none⟩ 1 1 [.int .u8 13] rfl rfl ?c1 ?c2 ?c3 ?c4 ?c5 ?_)
        case c1 =>
          intro j u hj
          match j, hj with
          | 0, hj => simp at hj; subst hj; simp [Addr.add]; rfl
        case c2 => intro u hu; simp at hu; subst hu; rfl
        case c3 => unfold maxLen; omega
        case c4 => omega
        case c5 => simp; omega
        intro v' w3 hown' hgrow _
        have hk3 : Keeps w w3 := (K.out.alloc _).grown hgrow (by simp; omega) (fun k e => (HO.out.lt k e).1)
        have HO3 : Hid (w3.ownsRow w.heap.size 5 1 v' (o ++ [13]).length (Lib.byteCells (o ++ [13]))) := Lib.hid (by rw [HBA.out, List.length_append, hlk]; exact hown')
        clear hown' hgrow
        go_wp2
        go_roundw
        case rel => exact ⟨k + 1, by omega, by go_num, by rw [hmk.out]; exact HO3.out, hk3⟩
        case measure => simp [intOf]; omega
      · have hbx : blankN x = 32 := by rw [HB.out]; decide
        rw [hbx] at hmk
        have hba : Lib.byteCells (o ++ [32]) = Lib.byteCells o ++ [.int .u8 32] := by simp [Lib.byteCells]
        have hbl : (Lib.byteCells o).length = o.length := by simp [Lib.byteCells]
        have HBA := Lib.hid hba
        clear hba hbl
        go_wp2_with fail
        refine cQ.out.mono ?_
        rintro e w2 ⟨rfl, rfl⟩
        go_wp2_with (at_builtin; refine wpList_append_own _ rfl _ _ 42 rfl w.heap.size 5 i0 (.int .u8 0) 1 1 Tryd.underlying42 hi hz0 hz1 hz2 rfl (by decide) _ _ _ rfl (HO.out.alloc _) ⟨w2.heap.size, 0, none⟩ 1 1 [.int .u8 32] rfl rfl ?c1 ?c2 ?c3 ?c4 ?c5 ?_)
        case c1 =>
          intro j u hj
          match j, hj with
          | 0, hj => simp at hj; subst hj; simp [Addr.add]; rfl
        case c2 => intro u hu; simp at hu; subst hu; rfl
        case c3 => unfold maxLen; omega
        case c4 => omega
        case c5 => simp; omega
        intro v' w3 hown' hgrow _
        have hk3 : Keeps w w3 := (K.out.alloc _).grown hgrow (by simp; omega) (fun k e => (HO.out.lt k e).1)
        have HO3 : Hid (w3.ownsRow w.heap.size 5 1 v' (o ++ [32]).length (Lib.byteCells (o ++ [32]))) := Lib.hid (by rw [HBA.out, List.length_append, hlk]; exact hown')
        clear hown' hgrow
        go_wp2
        go_roundw
        case rel => exact ⟨k + 1, by omega, by go_num, by rw [hmk.out]; exact HO3.out, hk3⟩
        case measure => simp [intOf]; omega
    · obtain rfl : k = n := by omega
      rw [HE.out] at ho
      have hc := conv_own w.heap.size wr _ (blankL zs) ho
      clear ho
      go_wp2
      go_ret
      exact ⟨rfl, hkp⟩
end Go.Proofs.YtljkeladdplhlaaDoor
