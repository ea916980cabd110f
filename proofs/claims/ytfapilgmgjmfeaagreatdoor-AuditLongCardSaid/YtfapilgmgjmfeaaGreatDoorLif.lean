/-
  Life: the first note that is not allowed.
-/
import Derived.Test.YtfapilgmgjmfeaaGreatDoorTak
import Derived.Deep.LoopGhost
namespace Go.Proofs.YtfapilgmgjmfeaaGreatDoor
open Go.RowKit

/-- A variable that holds a pointer to a reading. -/
def VarAt (w : World) (v r : Nat) : Prop := w.heap[v]? = some (.cells #[.pointer (some ⟨r, 0, none⟩)] 51 (0, 0))
theorem VarAt.only {X : List Nat} {w w' : World} {v r : Nat} (h : VarAt w v r) (k : Only X w w') (hx : v ∉ X) : VarAt w' v r := (k.block v (blk_lt h) hx).trans h
theorem VarAt.keeps {w w' : World} {v r : Nat} (h : VarAt w v r) (k : Keeps w w') : VarAt w' v r := (k.block v (blk_lt h)).trans h
theorem Only.cell {X : List Nat} {w w' : World} (h : Only X w w') {p : Addr} {v : Value} (hc : w.cell? p = some v) (hx : p.block ∉ X) : w'.cell? p = some v := by
  rw [← hc]
  exact World.cell?_of_block (h.block _ (World.block_lt_of_cell? _ _ hc) hx)
theorem NotesAt.only {X : List Nat} {w w' : World} {A : Option Addr} {l : List Nt} (h : NotesAt w A l) (k : Only X w w') (hx : ∀ g o, A = some ⟨g, o, none⟩ → g ∉ X) : NotesAt w' A l := fun i hi => by
  obtain ⟨g, o, e, hc⟩ := h i hi
  exact ⟨g, o, e, fun j v hj => k.cell (hc j v hj) (hx g o e)⟩
theorem takesR_last (rd : Rdg) (n : Nt) (k : Nat) (h0 : 0 ≤ rd.last) (h1 : rd.last ≤ (k : Int)) : 0 ≤ (takesR rd n).2.last ∧ (takesR rd n).2.last ≤ ((k + 1 : Nat) : Int) := by
  unfold takesR
  split
  · simp only; omega
  · split
    · simp only; omega
    · split
      · unfold beginsR
        split
        · rename_i h; simp only; omega
        · simp only; omega
      · unfold followsR
        split
        · simp only; omega
        · split
          · simp only; omega
          · split
            · simp only; omega
            · split
              · simp only; omega
              · split <;> (simp only; omega)

set_option maxHeartbeats 2000000 in
theorem closure_any (v r m N : Nat) (rd : Rdg) (n : Nt) (w : World) (hv : VarAt w v r) (h : RdgAt w r m N rd) (hl : 0 ≤ rd.last) (hl2 : rd.last ≤ 1000000000000000000) (hN : N < maxLen) (hok : NtOk n) :
    Calls Tryz.prog 35 #[.agg (ntC n), .pointer (some ⟨v, 0, none⟩)] w (RetT r m N (!(takesR rd n).1, (takesR rd n).2) w) := by
  have cT := Lib.hid (fun wx hx => takes_any r m N rd n wx hx hl hl2 hN hok)
  have H1 := Lib.hid (h.keeps ((Keeps.refl w).alloc (.cells (ntC n) 29)))
  have K1 := Lib.hid ((Keeps.refl w).alloc (.cells (ntC n) 29))
  have c0 : w.cell? ⟨v, 0, none⟩ = some (.pointer (some ⟨r, 0, none⟩)) := by rw [Lib.cell_of_heap hv]; rfl
  have c1 := cell_al c0 (.cells (ntC n) 29)
  generalize takesR rd n = p at *
  clear h hl hl2 hN hok hv
  obtain ⟨k, t, ⟨ak, ro, s, c, d⟩, co, x⟩ := n
  unfold ntC at *
  simp only at *
  go_enter Tryz.func35, Tryz.ntmps35
  go_wp2_with fail
  refine (cT.out _ H1.out).mono ?_
  rintro e w2 hR
  have HR := Lib.hid (hR.from K1.out)
  obtain ⟨rfl, -, -⟩ := hR
  clear c0 c1
  go_wp2
  go_ret
  exact ⟨rfl, HR.out.2.1, HR.out.2.2⟩

set_option maxHeartbeats 4000000 in
set_option maxRecDepth 100000 in
theorem index_any (A : Option Addr) (c : Nat) (l : List Nt) (v r m : Nat) (w : World) (hA : NotesAt w A l) (hv : VarAt w v r) (h : RdgAt w r m 0 Rdg.zero) (hx : l ≠ [] → ∀ g o, A = some ⟨g, o, none⟩ → g ∉ [r, m]) (hvx : v ∉ [r, m]) (hlen : l.length ≤ 1000000) (hok : ∀ n, n ∈ l → NtOk n) :
    Calls Tryz.prog 34 #[.slice A l.length c, .func (.func 35) #[] #[.pointer (some ⟨v, 0, none⟩)]] w (fun e w' => e = .returned (.int .i64 (lifeI l)) ∧ Only [r, m] w w') := by
  have HA := Lib.hid hA
  have HV := Lib.hid hv
  have HX := Lib.hid hx
  have HVX := Lib.hid hvx
  have HOK := Lib.hid hok
  have H0 := Lib.hid h
  generalize hL : l.length = L at *
  have HL := Lib.hid hL
  clear hA hv h hx hvx hok hL
  go_enter Tryz.func34, Tryz.ntmps34
  go_wp2
  go_loopg [8] (L + 1) (fun g i wr => ∃ k : Nat, i = .int .i64 (k : Int) ∧ k ≤ L ∧ L - k < g ∧ Hid (Only [r, m] w wr ∧ ∃ rd N, N ≤ k ∧ RdgAt wr r m N rd ∧ 0 ≤ rd.last ∧ rd.last ≤ (k : Int) ∧ lifeN l = lifeF rd (l.drop k) k))
  case atStart => exact ⟨0, rfl, Nat.zero_le _, by omega, Lib.hid ⟨Only.refl _ _, Rdg.zero, 0, Nat.le_refl _, H0.out, Int.le_refl _, Int.le_refl _, rfl⟩⟩
  case round =>
    obtain ⟨k, rfl, hkL, hkg, hI⟩ := hrel
    by_cases hlt : k < L
    · have hlt' : k < l.length := by rw [HL.out]; exact hlt
      obtain ⟨hO, rd, N, hN, hR, hl0, hl1, hlf⟩ := hI.out
      have hd := List.drop_eq_getElem_cons hlt'
      rw [hd, lifeF] at hlf
      obtain ⟨g, o, hAe, hc⟩ := (HA.out.only hO (HX.out (fun e => by rw [e] at hlt'; simp at hlt'))) k hlt'
      subst hAe
      obtain ⟨e0, e1, e2, e3, e4, e5, e6, e7, e8⟩ := hc.nine
      have hnl := takesR_last rd (l[k]'hlt') k hl0 hl1
      have cC := Lib.hid (closure_any v r m N rd (l[k]'hlt') wr (HV.out.only hO HVX.out) hR hl0 (by omega) (by unfold maxLen; omega) (HOK.out _ (List.getElem_mem hlt')))
      generalize l[k]'hlt' = nn at *
      have HO := Lib.hid hO
      have HLF := Lib.hid hlf
      obtain ⟨n1, n2⟩ := hnl
      have f1 : decide ((k : Int) < (L : Int)) = true := by simp; omega
      have f1' : decide (k < L) = true := by simpa using hlt
      have q1 : (0 : Int) ≤ (k : Int) := by omega
      have q2 : (k : Int) < (L : Int) := by omega
      generalize takesR rd nn = p at *
      obtain ⟨p1, p2⟩ := p
      obtain ⟨nk, t, ⟨ak, ro, s, c, d⟩, co, x⟩ := nn
      unfold ntC at *
      simp only at *
      clear hO hd hlf hc hR hI hl0 hl1
      go_wp2_with fail
      refine cC.out.mono ?_
      rintro e w4 ⟨rfl, hM, hO4⟩
      have HM := Lib.hid hM
      have HO4 := Lib.hid (HO.out.trans hO4)
      clear hM hO4 e0 e1 e2 e3 e4 e5 e6 e7 e8
      cases p1 with
      | false =>
        go_wp2
        go_ret
        refine ⟨?_, HO4.out⟩
        have hi : lifeI l = (k : Int) := by unfold lifeI; rw [HLF.out]; rfl
        rw [hi]; rfl
      | true =>
        go_wp2
        cases gk with
        | zero => omega
        | succ g2 =>
          go_roundg g2
          case measure => omega
          case rel =>
            obtain ⟨M, hMN, hRM⟩ := HM.out
            exact ⟨k + 1, by go_num, by omega, by omega, Lib.hid ⟨HO4.out, p2, M, by omega, hRM, n1, n2, by rw [HLF.out]; rfl⟩⟩
    · obtain ⟨hO, rd, N, hN, hR, hl0, hl1, hlf⟩ := hI.out
      rw [List.drop_eq_nil_of_le (by rw [HL.out]; omega)] at hlf
      have hi : lifeI l = -1 := by unfold lifeI; rw [hlf]; rfl
      have HI := Lib.hid hi
      have HO := Lib.hid hO
      have f1 : decide ((k : Int) < (L : Int)) = false := by simp; omega
      have f1' : decide (k < L) = false := by simpa using hlt
      clear hO hR hl0 hl1 hlf hi hI
      go_wp2
      go_ret
      exact ⟨by rw [HI.out]; rfl, HO.out⟩
end Go.Proofs.YtfapilgmgjmfeaaGreatDoor
