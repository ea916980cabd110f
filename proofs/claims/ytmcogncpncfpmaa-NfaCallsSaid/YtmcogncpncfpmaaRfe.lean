/-
  The contracts of the document's own automaton: Step, Accepts, Run.
-/
import Derived.Test.YtmcogncpncfpmaaRfd
namespace Go.Proofs.Ytmcogncpncfpmaa
open Go.RowKit

set_option maxRecDepth 100000 in
set_option maxHeartbeats 2000000 in
theorem rStep_any (P : Nat) (N : List UInt8) (fo : Bool) (A : Option Addr) (cp : Nat) (zs : List Int) (c : UInt8) (w : World) (hN : N.length ≤ 300) (h : RefAt w P N fo) (hz : IntsAt w A zs) (hl : zs.length ≤ 100000) :
    Calls Try.prog 20 #[.pointer (some ⟨P, 0, none⟩), .slice A zs.length cp, .int .u8 c.toNat] w (RetZ (zl (stepZ N fo zs c)) w) := by
  have hP := h.lt
  have cO := Lib.hid (fun (B c : Nat) (f : Nat → Bool) (w1 : World) => on_any P B c N f w1 hN)
  have cS := Lib.hid (fun (a : UInt8) (w1 : World) (h1 : RefAt w1 P N fo) => same34_any P fo a c w1 h1.c1)
  obtain ⟨W1, hmk, hrow, hk1⟩ := make_set 44 Try.underlying44 w (N.length + 1) (by omega)
  have HEQ := Lib.hid (rstepF_eq N fo c zs)
  have HST : Hid (stepZ N fo zs c = lstN (cloF N (rstepF N fo c zs)) (N.length + 1)) := Lib.hid (by rw [HEQ.out]; rfl)
  rw [HST.out]
  have HA := Lib.hid (fun k (hk : k < (S N).size) => getD_at (S N) k hk)
  simp only [S_data] at HA
  have hsz := S_size N
  have hmk' := hmk (((S N).size : Int) + 1) (by omega)
  have TS := Lib.hid (fun k hk => take_snocZ zs k hk)
  have F0 : Hid (rstepF N fo c (zs.take 0) = fun _ => false) := Lib.hid (by rw [List.take_zero]; exact rstepF_nil N fo c)
  have FE : Hid (rstepF N fo c (zs.take zs.length) = rstepF N fo c zs) := Lib.hid (by rw [List.take_length])
  have Fo := Lib.hid (fun k z hz => rstepF_out N fo c (zs.take k) z hz)
  have Fs := Lib.hid (fun k x h1 h2 => rstepF_star N fo c (zs.take k) x h1 h2)
  have Fn := Lib.hid (fun k x h1 h2 h3 => rstepF_on N fo c (zs.take k) x h1 h2 h3)
  have Ff := Lib.hid (fun k x h1 h2 h3 => rstepF_off N fo c (zs.take k) x h1 h2 h3)
  have HH := Lib.hid h
  have HZ := Lib.hid hz
  have HR := Lib.hid hrow
  have c0 := h.c0
  have HSZ := Lib.hid hsz
  have hs3 : (S N).size ≤ 300 := by omega
  clear hmk h hz hrow HEQ HST
  generalize hn : zs.length = n at hl TS FE ⊢
  have HNN := Lib.hid hn
  clear hn hsz hN
  go_enter Try.func20, Try.ntmps20
  go_wp2
  go_loopw [8] (fun i wr => ∃ k : Nat, k ≤ n ∧ i = .int .i64 k ∧ RowB wr w.heap.size (N.length + 1) (rstepF N fo c (zs.take k)) ∧ Keeps w wr) (fun i _ => n - (intOf i).toNat)
  case atStart => exact ⟨0, Nat.zero_le _, rfl, by rw [F0.out]; exact HR.out, hk1⟩
  case round =>
    obtain ⟨k, hk, rfl, hrow, hkp⟩ := hrel
    have HW := Lib.hid hrow
    have d0 := hkp.cell c0
    clear hrow hmk' hk1 c0
    by_cases hlt : k < n
    · obtain ⟨ad, rfl, c1⟩ := (HZ.out.keeps hkp) k (by rw [HNN.out]; exact hlt)
      have hsk := Lib.hid (TS.out k hlt)
      generalize zs.getD k 0 = z at c1 hsk
      have g : z < 0 ∨ ((S N).size : Int) ≤ z ∨ ∃ q : Nat, z = q ∧ q < (S N).size := by
        by_cases h1 : z < 0
        · exact .inl h1
        · by_cases h2 : ((S N).size : Int) ≤ z
          · exact .inr (.inl h2)
          · exact .inr (.inr ⟨z.toNat, by omega, by omega⟩)
      rcases g with g | g | ⟨q, rfl, g⟩
      · go_wp2
        go_roundw
        case rel => exact ⟨k + 1, by omega, by go_num, by rw [hsk.out, Fo.out k z (.inl g)]; exact HW.out, hkp⟩
        case measure => simp [intOf]; omega
      · have g0 : 0 ≤ z := by omega
        go_wp2
        go_roundw
        case rel => exact ⟨k + 1, by omega, by go_num, by rw [hsk.out, Fo.out k z (.inr (by rw [← HSZ.out]; exact g))]; exact HW.out, hkp⟩
        case measure => simp [intOf]; omega
      · have ha := HA.out q g
        have hqN : q < N.length := by rw [← HSZ.out]; exact g
        have HQN := Lib.hid hqN
        have hqa : q < N.length + 1 := by omega
        have hqb : q + 1 < N.length + 1 := by omega
        clear hqN
        by_cases h42 : (S N)[q].toNat = 42
        · have r1 := (HW.out q (by have := HSZ.out; omega)).1
          have r2 := (HW.out q (by have := HSZ.out; omega)).2
          generalize rstepF N fo c (List.take k zs) q = b1 at r1
          go_wp2
          go_roundw
          case rel => exact ⟨k + 1, by omega, by go_num, by rw [hsk.out, Fs.out k q HQN.out (by rw [ha]; exact h42)]; exact HW.out.set (by have := HSZ.out; omega), hkp.setCell (p := ⟨w.heap.size, q, none⟩) (Nat.le_refl _) _⟩
          case measure => simp [intOf]; omega
        · by_cases h63 : (S N)[q].toNat = 63
          · have r1 := (HW.out (q + 1) (by have := HSZ.out; omega)).1
            have r2 := (HW.out (q + 1) (by have := HSZ.out; omega)).2
            generalize rstepF N fo c (List.take k zs) (q + 1) = b1 at r1
            go_wp2
            go_roundw
            case rel => exact ⟨k + 1, by omega, by go_num, by rw [hsk.out, Fn.out k q HQN.out (by rw [ha]; exact h42) (.inl (by rw [ha]; exact h63))]; exact HW.out.set (by have := HSZ.out; omega), hkp.setCell (p := ⟨w.heap.size, q + 1, none⟩) (Nat.le_refl _) _⟩
            case measure => simp [intOf]; omega
          · have HK := Lib.hid hkp
            cases hsm : sameB fo (S N)[q] c
            · have cq := cS.out (S N)[q] wr (HH.out.keeps hkp)
              rw [hsm] at cq
              have CQ := Lib.hid cq
              have HSM := Lib.hid hsm
              clear cq hkp hsm
              go_wp2_with fail
              refine CQ.out.mono ?_
              rintro e w2 ⟨rfl, k2⟩
              have HK2 := Lib.hid (Keeps.trans HK.out k2)
              have HW2 := Lib.hid (RowB.below HW.out k2 (HW.out.lt (by omega)))
              clear k2 d0 c1
              go_wp2
              go_roundw
              case rel => exact ⟨k + 1, by omega, by go_num, by rw [hsk.out, Ff.out k q HQN.out (by rw [ha]; exact h42) (by rw [ha]; intro hh; rcases hh with hh | hh; exact h63 hh; exact Bool.noConfusion (HSM.out.symm.trans hh))]; exact HW2.out, HK2.out⟩
              case measure => simp [intOf]; omega
            · have cq := cS.out (S N)[q] wr (HH.out.keeps hkp)
              rw [hsm] at cq
              have CQ := Lib.hid cq
              have HSM := Lib.hid hsm
              clear cq hkp hsm
              go_wp2_with fail
              refine CQ.out.mono ?_
              rintro e w2 ⟨rfl, k2⟩
              have HK2 := Lib.hid (Keeps.trans HK.out k2)
              have HW2 := Lib.hid (RowB.below HW.out k2 (HW.out.lt (by omega)))
              have r1 := (HW2.out (q + 1) (by have := HSZ.out; omega)).1
              have r2 := (HW2.out (q + 1) (by have := HSZ.out; omega)).2
              generalize rstepF N fo c (List.take k zs) (q + 1) = b1 at r1
              clear k2 d0 c1
              go_wp2
              go_roundw
              case rel => exact ⟨k + 1, by omega, by go_num, by rw [hsk.out, Fn.out k q HQN.out (by rw [ha]; exact h42) (.inr (by rw [ha]; exact HSM.out))]; exact HW2.out.set (by have := HSZ.out; omega), HK2.out.setCell (p := ⟨w.heap.size, q + 1, none⟩) (Nat.le_refl _) _⟩
              case measure => simp [intOf]; omega
    · obtain rfl : k = n := by omega
      rw [FE.out] at HW
      have HK := Lib.hid hkp
      have D0 := Lib.hid d0
      clear hkp d0
      go_wp2_with fail
      refine (cO.out _ _ _ _ D0.out HW.out hP).mono ?_
      rintro e w3 ⟨⟨v, rfl, ho⟩, hb3⟩
      generalize hoo : lstN (cloF N (rstepF N fo c zs)) (N.length + 1) = o at ho
      have HOO := Lib.hid hoo
      clear hoo
      obtain ⟨A', c', rfl, _⟩ := IntsAt.own ho
      have HO := Lib.hid ho
      clear ho
      go_wp2
      go_ret
      exact ⟨⟨_, rfl, by rw [HOO.out]; exact ownsRow_less HO.out HK.out.size⟩, Below.trans HK.out (hb3.mono (Nat.le_refl _))⟩
end Go.Proofs.Ytmcogncpncfpmaa
