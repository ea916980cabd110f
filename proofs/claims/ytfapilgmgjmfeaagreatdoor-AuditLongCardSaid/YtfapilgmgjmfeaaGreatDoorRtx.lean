/-
  The document's own Text.
-/
import Derived.Test.YtfapilgmgjmfeaaGreatDoorRln
namespace Go.Proofs.YtfapilgmgjmfeaaGreatDoor
open Go.RowKit

set_option maxHeartbeats 4000000 in
set_option maxRecDepth 100000 in
theorem rtext_any (A : Option Addr) (c : Nat) (l : List Nt) (w : World) (hA : NotesAt w A l) (hlen : l.length ≤ 1000000) (hsz : (textL l).length ≤ 900000) (hok : ∀ n, n ∈ l → NtLine n) : Calls Tryz.prog 23 #[.slice A l.length c] w (Ret (.string (S (textL l))) w) := by
  have HA := Lib.hid hA
  have HOK := Lib.hid hok
  have HTL := Lib.hid (fun k u (hu : l[k]? = some u) => textL_take l k u hu)
  have HTN := Lib.hid (fun k => Nat.le_trans (textL_le l k) hsz)
  have HFULL := Lib.hid (show textL (l.take l.length) = textL l by rw [List.take_length])
  generalize textL l = full at *
  obtain ⟨L, hL⟩ : ∃ L, l.length = L := ⟨_, rfl⟩
  have HL := Lib.hid hL
  rw [hL] at HFULL hlen ⊢
  clear hA hok hL hsz
  go_enter Tryz.func23, Tryz.ntmps23
  go_wp2
  go_loopg [3, 4] (L + 1) (fun g b i wr => ∃ k : Nat, b = .string (S (textL (l.take k))) ∧ i = .int .i64 (k : Int) ∧ k ≤ L ∧ L - k < g ∧ Hid (Keeps w wr))
  case atStart => exact ⟨0, by simp [textL]; rfl, rfl, Nat.zero_le _, by omega, Lib.hid (Keeps.refl _)⟩
  case round =>
    obtain ⟨k, rfl, rfl, hkL, hkg, hI⟩ := hrel
    by_cases hlt : k < L
    · have hlt' : k < l.length := by rw [HL.out]; exact hlt
      obtain ⟨g, o, hAe, hc⟩ := (HA.out.keeps hI.out) k hlt'
      subst hAe
      have hn := HOK.out _ (List.getElem_mem hlt')
      have htl := HTL.out k _ (List.getElem?_eq_getElem hlt')
      have hsz := HTN.out k
      obtain ⟨e0, e1, e2, e3, e4, e5, e6, e7, e8⟩ := hc.nine
      generalize l[k]'hlt' = nn at *
      have hsl := line_len nn hn
      have f1 : decide ((k : Int) < (L : Int)) = true := by simp; omega
      have f1' : decide (k < L) = true := by simpa using hlt
      have q1 : (0 : Int) ≤ (k : Int) := by omega
      have q2 : (k : Int) < (L : Int) := by omega
      have cL := Lib.hid (fun wx => rline_any nn wx hn)
      unfold ntC at cL
      have HTL2 := Lib.hid htl
      generalize lineL nn = line at *
      generalize textL (l.take k) = acc at *
      have hS : (S line).size = line.length := rfl
      have hS2 : (S acc).size = acc.length := rfl
      clear hc hn htl
      go_wp2_with fail
      refine (cL.out _).mono ?_
      rintro e w5 ⟨rfl, k5⟩
      have K5 := Lib.hid (hI.out.trans k5)
      clear k5 cL e0 e1 e2 e3 e4 e5 e6 e7 e8
      go_wp2_with fail
      cases gk with
      | zero => omega
      | succ g2 =>
        go_roundg g2
        case measure => omega
        case rel =>
          refine ⟨k + 1, ?_, by go_num, by omega, by omega, K5.out⟩
          rw [HTL2.out, S_app, S_app]
          rfl
    · obtain rfl : k = L := by omega
      rw [HFULL.out]
      have HK := Lib.hid hI.out
      have f1 : decide ((k : Int) < (k : Int)) = false := by simp
      have f1' : decide (k < k) = false := by simp
      clear hI
      go_wp2
      go_ret
      exact ⟨rfl, HK.out⟩
end Go.Proofs.YtfapilgmgjmfeaaGreatDoor
