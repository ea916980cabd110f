/-
  own: of each user of a room, whether the ban is the bot's own.
-/
import Derived.Test.YtfapilgmgjmfeaaGreatDoorOpe
import Derived.Test.YtfapilgmgjmfeaaGreatDoorKes
namespace Go.Proofs.YtfapilgmgjmfeaaGreatDoor
open Go.RowKit

abbrev SetS := List UInt8 → Option Bool
def touchP (room : List UInt8) (n : Nt) : Prop := n.kind = 5 ∧ n.act.room = room ∧ (n.act.kind = 1 ∨ n.act.kind = 2)
instance (room : List UInt8) (n : Nt) : Decidable (touchP room n) := inferInstanceAs (Decidable (_ ∧ _))
def ownF (room : List UInt8) (f : SetS) (n : Nt) : SetS := if touchP room n then updS f n.act.subj (some (n.act.kind == 1)) else f
def ownM (room : List UInt8) (l : List Nt) : SetS := l.foldl (ownF room) (fun _ => none)
def ownB (room : List UInt8) (l : List Nt) (u : List UInt8) : Bool := (ownM room l u).getD false
def OwnRet (room : List UInt8) (l : List Nt) (w : World) (e : Ending) (w' : World) : Prop :=
  e = .returned (.map (some w.heap.size)) ∧ Keeps w w' ∧ ∃ N, N ≤ l.length ∧ IsMapS boolE w' w.heap.size N (ownM room l)

set_option maxHeartbeats 8000000 in
set_option maxRecDepth 100000 in
theorem own_any (A : Option Addr) (c : Nat) (l : List Nt) (room : List UInt8) (w : World) (hA : NotesAt w A l) (hlen : l.length ≤ 1000000) (hok : ∀ n, n ∈ l → n.act.subj.length ≤ maxLen) : Calls Tryz.prog 39 #[.slice A l.length c, .string (S room)] w (OwnRet room l w) := by
  have hmm := @run_makeMap Tryz.prog
  have HM0 := Lib.hid (IsMapS.new boolE w)
  have K0 := Lib.hid ((Keeps.refl w).alloc (.map #[] 0))
  have HA := Lib.hid hA
  have HOK := Lib.hid hok
  generalize hL : l.length = L at *
  have HL := Lib.hid hL
  clear hA hok hL
  go_enter Tryz.func39, Tryz.ntmps39
  go_wp2
  clear hmm
  go_loopg [12] (L + 1) (fun g i wr => ∃ k : Nat, i = .int .i64 (k : Int) ∧ k ≤ L ∧ L - k < g ∧ Hid (Keeps w wr ∧ ∃ N, N ≤ k ∧ IsMapS boolE wr w.heap.size N ((l.take k).foldl (ownF room) (fun _ => none))))
  case atStart => exact ⟨0, rfl, Nat.zero_le _, by omega, Lib.hid ⟨K0.out, 0, Nat.le_refl _, HM0.out⟩⟩
  case round =>
    obtain ⟨k, rfl, hkL, hkg, hI⟩ := hrel
    by_cases hlt : k < L
    · have hlt' : k < l.length := by rw [HL.out]; exact hlt
      obtain ⟨hK, N, hN, hM⟩ := hI.out
      have hft := foldl_take (ownF room) (fun _ => none) l k hlt'
      obtain ⟨g, o, hAe, hc⟩ := (HA.out.keeps hK) k hlt'
      have hwf := HOK.out _ (List.getElem_mem hlt')
      subst hAe
      obtain ⟨e0, e1, e2, e3, e4, e5, e6, e7, e8⟩ := hc.nine
      generalize l[k]'hlt' = nn at *
      have HK := Lib.hid hK
      have HFT := Lib.hid hft
      have f1 : decide ((k : Int) < (L : Int)) = true := by simp; omega
      have f1' : decide (k < L) = true := by simpa using hlt
      have q1 : (0 : Int) ≤ (k : Int) := by omega
      have q2 : (k : Int) < (L : Int) := by omega
      have hKX := ((Keeps.refl wr).alloc (.cells (ntC nn) 29)).alloc (.cells (actC nn.act) 27)
      clear hK hft hc hI
      by_cases ht : touchP room nn
      · have hq : (l.take (k + 1)).foldl (ownF room) (fun _ => none) = updS ((l.take k).foldl (ownF room) (fun _ => none)) nn.act.subj (some (nn.act.kind == 1)) := by rw [HFT.out]; unfold ownF; rw [if_pos ht]
        obtain ⟨w3, hr, hM3, hg3⟩ := (hM.keeps hKX).put Tryz.underlying58 (by unfold maxLen; omega) hwf (nn.act.kind == 1)
        have hr' : (Instr.mapUpdate 58 (.map (some w.heap.size)) (.string (S nn.act.subj)) (.bool (nn.act.kind == 1))).run Tryz.prog ((wr.alloc (.cells (ntC nn) 29)).alloc (.cells (actC nn.act) 27)) = .ok () w3 := hr
        have HFIN := Lib.hid (show Keeps w w3 ∧ ∃ M, M ≤ k + 1 ∧ IsMapS boolE w3 w.heap.size M ((l.take (k + 1)).foldl (ownF room) (fun _ => none)) from ⟨((HK.out.alloc _).alloc _).grown hg3 (by have := HK.out.size; simp; omega) (fun j hj => by simp at hj; omega), N + 1, by omega, by rw [hq]; exact hM3⟩)
        obtain ⟨t1, t2, t3⟩ := ht
        obtain ⟨nk, t, ⟨ak, ro, s, cc, d⟩, co, x⟩ := nn
        unfold ntC actC at *
        simp only at *
        subst t1 t2
        clear hr hM3 hg3 hM hq hwf hKX
        rcases t3 with rfl | rfl
        all_goals
          first
            | rw [show ((1 : Int) == 1) = true from rfl] at hr'
            | rw [show ((2 : Int) == 1) = false from rfl] at hr'
          go_wp2
          cases gk with
          | zero => omega
          | succ g2 =>
            go_roundg g2
            case measure => omega
            case rel => exact ⟨k + 1, by go_num, by omega, by omega, HFIN⟩
      · have hq : (l.take (k + 1)).foldl (ownF room) (fun _ => none) = (l.take k).foldl (ownF room) (fun _ => none) := by rw [HFT.out]; unfold ownF; rw [if_neg ht]
        have HFIN := Lib.hid (show Keeps w ((wr.alloc (.cells (ntC nn) 29)).alloc (.cells (actC nn.act) 27)) ∧ ∃ M, M ≤ k + 1 ∧ IsMapS boolE ((wr.alloc (.cells (ntC nn) 29)).alloc (.cells (actC nn.act) 27)) w.heap.size M ((l.take (k + 1)).foldl (ownF room) (fun _ => none)) from ⟨(HK.out.alloc _).alloc _, N, by omega, by rw [hq]; exact hM.keeps hKX⟩)
        have HT := Lib.hid ht
        obtain ⟨nk, t, ⟨ak, ro, s, cc, d⟩, co, x⟩ := nn
        unfold ntC actC at *
        simp only at *
        clear hM hq hwf ht hKX
        by_cases h5 : nk = 5
        · subst h5
          by_cases hr : ro = room
          · subst hr
            have n1 : (ak == 1) = false := by have := HT.out; unfold touchP at this; simp at this; simp; omega
            have n2 : (ak == 2) = false := by have := HT.out; unfold touchP at this; simp at this; simp; omega
            go_wp2
            cases gk with
            | zero => omega
            | succ g2 =>
              go_roundg g2
              case measure => omega
              case rel => exact ⟨k + 1, by go_num, by omega, by omega, HFIN⟩
          · have hre : ((S ro).toList == (S room).toList) = false := by rw [S_eq]; simpa using hr
            go_wp2
            cases gk with
            | zero => omega
            | succ g2 =>
              go_roundg g2
              case measure => omega
              case rel => exact ⟨k + 1, by go_num, by omega, by omega, HFIN⟩
        · have f5 : (nk == 5) = false := by simpa using h5
          go_wp2
          cases gk with
          | zero => omega
          | succ g2 =>
            go_roundg g2
            case measure => omega
            case rel => exact ⟨k + 1, by go_num, by omega, by omega, HFIN⟩
    · obtain rfl : k = L := by omega
      have f1 : decide ((k : Int) < (k : Int)) = false := by simp
      have f1' : decide (k < k) = false := by simp
      have H2 : Hid (OwnRet room l w (.returned (.map (some w.heap.size))) wr) := Lib.hid (by
        obtain ⟨hK, N, hN, hM⟩ := hI.out
        refine ⟨rfl, hK, N, by rw [HL.out]; exact hN, ?_⟩
        rw [List.take_of_length_le (by rw [HL.out]; exact Nat.le_refl _)] at hM
        exact hM)
      clear hI
      go_wp2
      go_ret
      exact H2.out
set_option maxHeartbeats 1000000 in
theorem isOwn_any (A : Option Addr) (c : Nat) (l : List Nt) (room user : List UInt8) (w : World) (hA : NotesAt w A l) (hlen : l.length ≤ 1000000) (hok : ∀ n, n ∈ l → n.act.subj.length ≤ maxLen) (hu : user.length ≤ maxLen) : Calls Tryz.prog 11 #[.slice A l.length c, .string (S room), .string (S user)] w (Ret (.bool (ownB room l user)) w) := by
  have cO := Lib.hid (own_any A c l room w hA hlen hok)
  have HU := Lib.hid hu
  generalize l.length = L at *
  clear hA hlen hok hu
  go_enter Tryz.func11, Tryz.ntmps11
  go_wp2_with fail
  refine cO.out.mono ?_
  rintro e w2 ⟨rfl, hK, N, hN, hM⟩
  have hlk := (hM.look Tryz.underlying58 (z := false) (by kernel_rfl) HU.out)
  have hlk2 : (Instr.lookup 58 (.map (some w.heap.size)) (.string (S user)) false).run Tryz.prog w2 = .ok (.bool (ownB room l user)) w2 := hlk
  clear hM hlk
  go_wp2
  go_ret
  exact ⟨rfl, hK⟩
end Go.Proofs.YtfapilgmgjmfeaaGreatDoor
