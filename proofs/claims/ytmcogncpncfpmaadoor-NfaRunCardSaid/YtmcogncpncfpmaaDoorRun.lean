/-
  The contract of Run of package nfa.
-/
import Derived.Test.YtmcogncpncfpmaaDoorApi
namespace Go.Proofs.YtmcogncpncfpmaaDoor
open Go.RowKit

/-- The set after a text. -/
def runTo (N : List UInt8) (fo : Bool) (l : List UInt8) (k : Nat) : Nat → Bool := (l.take k).foldl (fun f c => stepS N fo f c) (cloF N (fun j => j == 0))
def runB (N : List UInt8) (fo : Bool) (l : List UInt8) : Bool := runTo N fo l l.length N.length
theorem runTo_zero (N : List UInt8) (fo : Bool) (l : List UInt8) : runTo N fo l 0 = cloF N (fun j => j == 0) := by simp [runTo]
theorem runTo_succ (N : List UInt8) (fo : Bool) (l : List UInt8) (k : Nat) (h : k < l.length) : runTo N fo l (k + 1) = stepS N fo (runTo N fo l k) (l.getD k 0) := by
  unfold runTo
  rw [List.take_succ_eq_append_getElem h, List.foldl_append]
  simp [h]

set_option maxHeartbeats 2000000 in
theorem run30_any (P : Nat) (N : List UInt8) (fo : Bool) (B cap : Nat) (s : ByteArray) (w : World) (hN : N.length ≤ 300) (hs : s.size ≤ maxLen) (h : NfaAt w P N fo) (hr : RowB w B (N.length + 1) (cloF N (fun j => j == 0))) :
    Calls Tryd.prog 25 #[.slice (some ⟨B, 0, none⟩) (N.length + 1) cap, .func (.func 24) #[.pointer (some ⟨P, 0, none⟩)] #[], .string s] w (fun e w' => (∃ B' c', e = .returned (.slice (some ⟨B', 0, none⟩) (N.length + 1) c') ∧ RowB w' B' (N.length + 1) (runTo N fo s.data.toList s.size)) ∧ Keeps w w') := by
  have cS := Lib.hid (fun b cap f c w1 h1 h2 => step_any P b cap N fo f c hN w1 h1 h2)
  have hl : s.data.toList.length = s.size := by simp
  have HA := Lib.hid (fun k (hk : k < s.size) => getD_at s k hk)
  have HSU := Lib.hid (fun k (hk : k < s.size) => runTo_succ N fo s.data.toList k (by rw [hl]; exact hk))
  have H0 := Lib.hid (runTo_zero N fo s.data.toList)
  generalize s.data.toList = l at *
  clear hl
  unfold maxLen at hs
  have HR := Lib.hid hr
  have HN := Lib.hid h
  clear hr h
  have hm : N.length + 1 ≤ 301 := by omega
  have hm0 : 0 < N.length + 1 := by omega
  have HNL := Lib.hid hN
  clear hN
  have eS : Hid (∀ f c, stepS N fo f c = cloF N (stepL (foldL fo N) ((foldL fo [c]).getD 0 0) (lstN f (N.length + 1)))) := Lib.hid (fun _ _ => rfl)
  generalize N.length + 1 = m at *
  go_enter Tryd.func25, Tryd.ntmps25
  go_wp2
  go_loopw [0, 10] (fun v i wr => ∃ k B' c' : Nat, k ≤ s.size ∧ i = .int .i64 k ∧ v = .slice (some ⟨B', 0, none⟩) m c' ∧ RowB wr B' m (runTo N fo l k) ∧ Keeps w wr) (fun _ i _ => s.size - (intOf i).toNat)
  case atStart => exact ⟨0, B, cap, Nat.zero_le _, rfl, rfl, by rw [H0.out]; exact HR.out, Keeps.refl _⟩
  case round =>
    obtain ⟨k, B', c', hk, rfl, rfl, hrow, hkp⟩ := hrel
    have HW := Lib.hid hrow
    clear hrow
    by_cases hlt : k < s.size
    · have HSK := Lib.hid (HSU.out k hlt)
      have HAK := Lib.hid (HA.out k hlt)
      have HNW := Lib.hid (HN.out.keeps hkp)
      go_wp2_with fail
      refine (cS.out _ _ _ _ _ HNW.out HW.out).mono ?_
      rintro e w2 ⟨⟨v, rfl, B2, c2, rfl, hB, hr⟩, hk2⟩
      have HR2 := Lib.hid hr
      have hkk := Keeps.trans hkp hk2
      clear hr hk2
      go_wp2
      go_roundw
      case rel => exact ⟨k + 1, B2, c2, by omega, by go_num, rfl, by rw [HSK.out, HAK.out, eS.out]; exact HR2.out, hkk⟩
      case measure => simp [intOf]; omega
    · obtain rfl : k = s.size := by omega
      go_wp2
      go_ret
      exact ⟨⟨_, _, rfl, HW.out⟩, hkp⟩

set_option maxHeartbeats 2000000 in
theorem Run_any (P : Nat) (N : List UInt8) (fo : Bool) (s : ByteArray) (w : World) (hN : N.length ≤ 300) (hs : s.size ≤ maxLen) (h : NfaAt w P N fo) :
    Calls Tryd.prog 13 #[.pointer (some ⟨P, 0, none⟩), .string s] w (RetQ (runB N fo s.data.toList) w) := by
  have cM := Lib.hid (made_any P w h.c0)
  have cS := Lib.hid (fun w1 h1 => start_any P N fo w1 hN h1)
  have cR := Lib.hid (fun B cap w1 h1 h2 => run30_any P N fo B cap s w1 hN hs h1 h2)
  have hz := S_size N
  have hl : s.data.toList.length = s.size := by simp
  have hmf : ∀ (fn : Fn) (first cap : Array Value) (w : World), (Instr.makeFunc fn first cap).run Tryd.prog w = .ok (.func fn first cap) w := fun _ _ _ _ => rfl
  unfold runB
  rw [hl]
  generalize s.data.toList = l at *
  clear hl hs
  have HH := Lib.hid h
  clear h
  go_enter Tryd.func13, Tryd.ntmps13
  go_wp2_with fail
  refine cM.out.mono ?_
  rintro e w2 ⟨rfl, rfl⟩
  have c1 := HH.out.c1
  have HHd : Hid (NfaAt w2.drew P N fo) := Lib.hid ⟨HH.out.c0, HH.out.c1, HH.out.c2, HH.out.c3⟩
  have e1 : w2.drew.cell? ⟨P, 1, none⟩ = some (.string (S N)) := c1
  go_wp2_with fail
  go_region_with (first | (go_at_call 18; refine (cS.out _ HHd.out).mono ?_; rintro e w3 ⟨⟨v, rfl, B, c, rfl, hB, hr⟩, hk3⟩; have HR3 := Lib.hid hr; have HN3 := Lib.hid (HHd.out.keeps hk3); have e3 := hk3.cell e1; have HK3 := Lib.hid hk3; clear hr hk3) | (go_at_call 25; refine (cR.out _ _ _ HN3.out HR3.out).mono ?_; rintro e w4 ⟨⟨B', c', rfl, hr'⟩, hk4⟩; have e4 := hk4.cell e3; have hc4 := (hr' N.length (by omega)).1; have HK4 := Lib.hid (Keeps.trans HK3.out hk4); clear hr' hk4))
  all_goals go_wp2
  all_goals go_ret
  all_goals exact RetQ.of rfl (Keeps.trans (Keeps.drew (Keeps.refl _)) HK4.out)
end Go.Proofs.YtmcogncpncfpmaaDoor
