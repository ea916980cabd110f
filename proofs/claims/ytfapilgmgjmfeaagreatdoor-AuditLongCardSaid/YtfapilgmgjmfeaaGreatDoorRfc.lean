/-
  The document's own Own.
-/
import Derived.Test.YtfapilgmgjmfeaaGreatDoorRfa
namespace Go.Proofs.YtfapilgmgjmfeaaGreatDoor
open Go.RowKit

theorem ownB_snoc (room : List UInt8) (l : List Nt) (n : Nt) (u : List UInt8) : ownB room (l ++ [n]) u = if touchP room n ∧ n.act.subj = u then (n.act.kind == 1) else ownB room l u := by
  unfold ownB ownM
  rw [List.foldl_append]
  show ((ownF room (List.foldl (ownF room) (fun _ => none) l) n) u).getD false = _
  unfold ownF
  by_cases ht : touchP room n
  · rw [if_pos ht]
    unfold updS
    by_cases hu : n.act.subj = u
    · rw [if_pos hu.symm, if_pos ⟨ht, hu⟩]; rfl
    · rw [if_neg (fun e => hu e.symm), if_neg (fun h => hu h.2)]
  · rw [if_neg ht, if_neg (fun h => ht h.1)]
theorem ownB_take (room : List UInt8) (l : List Nt) (k : Nat) (hk : k < l.length) (u : List UInt8) : ownB room (l.take (k + 1)) u = if touchP room (l[k]'hk) ∧ (l[k]'hk).act.subj = u then ((l[k]'hk).act.kind == 1) else ownB room (l.take k) u := by
  rw [List.take_succ_eq_append_getElem hk]; exact ownB_snoc room (l.take k) (l[k]'hk) u
set_option maxHeartbeats 8000000 in
set_option maxRecDepth 100000 in
theorem rown_any (A : Option Addr) (c : Nat) (l : List Nt) (room user : List UInt8) (w : World) (hA : NotesAt w A l) (hlen : l.length ≤ 1000000) : Calls Tryz.prog 12 #[.slice A l.length c, .string (S room), .string (S user)] w (Ret (.bool (ownB room l user)) w) := by
  have HA := Lib.hid hA
  have HQ := Lib.hid (fun k hk => ownB_take room l k hk user)
  have HF := Lib.hid (show ownB room (l.take l.length) user = ownB room l user by rw [List.take_length])
  generalize ownB room l user = res at *
  obtain ⟨L, hL⟩ : ∃ L, l.length = L := ⟨_, rfl⟩
  have HL := Lib.hid hL
  rw [hL] at HF hlen ⊢
  clear hA hL
  go_enter Tryz.func12, Tryz.ntmps12
  go_wp2
  go_loopg [7, 8] (L + 1) (fun g q i wr => ∃ k : Nat, q = .bool (ownB room (l.take k) user) ∧ i = .int .i64 (k : Int) ∧ k ≤ L ∧ L - k < g ∧ Hid (Keeps w wr))
  case atStart => exact ⟨0, rfl, rfl, Nat.zero_le _, by omega, Lib.hid (Keeps.refl _)⟩
  case round =>
    obtain ⟨k, rfl, rfl, hkL, hkg, hI⟩ := hrel
    by_cases hlt : k < L
    · have hlt' : k < l.length := by rw [HL.out]; exact hlt
      obtain ⟨g, o, hAe, hc⟩ := (HA.out.keeps hI.out) k hlt'
      subst hAe
      obtain ⟨e0, e1, e2, e3, e4, e5, e6, e7, e8⟩ := hc.nine
      have HQ2 := Lib.hid (HQ.out k hlt')
      generalize l[k]'hlt' = nn at *
      generalize ownB room (l.take k) user = q0 at *
      have f1 : decide ((k : Int) < (L : Int)) = true := by simp; omega
      have f1' : decide (k < L) = true := by simpa using hlt
      have q1 : (0 : Int) ≤ (k : Int) := by omega
      have q2 : (k : Int) < (L : Int) := by omega
      have HK := Lib.hid (hI.out.alloc (.cells (actC nn.act) 27))
      have hg1 : g < wr.heap.size := by
        have h := e0
        exact World.block_lt_of_cell? _ _ h
      unfold actC at HK
      clear hc hI
      by_cases h5 : nn.kind = 5
      · have f5 : (nn.kind == 5) = true := by simpa using h5
        by_cases hk : nn.act.kind = 1 ∨ nn.act.kind = 2
        · by_cases hr : nn.act.room = room
          · have fr : ((S nn.act.room).toList == (S room).toList) = true := by rw [S_eq]; simpa using hr
            by_cases hu : nn.act.subj = user
            · have fu : ((S nn.act.subj).toList == (S user).toList) = true := by rw [S_eq]; simpa using hu
              have hv := HQ2.out
              rw [if_pos ⟨⟨h5, hr, hk⟩, hu⟩] at hv
              have HV := Lib.hid hv
              by_cases h1 : nn.act.kind = 1
              · have g1 : (nn.act.kind == 1) = true := by simpa using h1
                clear hv HQ2 h5 hr hu hk h1
                go_wp2
                cases gk with
                | zero => omega
                | succ g2 =>
                  go_roundg g2
                  case measure => omega
                  case rel => exact ⟨k + 1, by rw [HV.out, g1], by go_num, by omega, by omega, HK⟩
              · have g1 : (nn.act.kind == 1) = false := by simpa using h1
                have g2 : (nn.act.kind == 2) = true := by
                  rcases hk with hk | hk
                  · exact absurd hk h1
                  · simpa using hk
                clear hv HQ2 h5 hr hu hk h1
                go_wp2
                cases gk with
                | zero => omega
                | succ g2 =>
                  go_roundg g2
                  case measure => omega
                  case rel => exact ⟨k + 1, by rw [HV.out, g1], by go_num, by omega, by omega, HK⟩
            · have fu : ((S nn.act.subj).toList == (S user).toList) = false := by rw [S_eq]; simpa using hu
              have hv := HQ2.out
              rw [if_neg (fun h => hu h.2)] at hv
              have HV := Lib.hid hv
              by_cases h1 : nn.act.kind = 1
              · have g1 : (nn.act.kind == 1) = true := by simpa using h1
                clear hv HQ2 h5 hr hu hk h1
                go_wp2
                cases gk with
                | zero => omega
                | succ g2 =>
                  go_roundg g2
                  case measure => omega
                  case rel => exact ⟨k + 1, by rw [HV.out], by go_num, by omega, by omega, HK⟩
              · have g1 : (nn.act.kind == 1) = false := by simpa using h1
                have g2 : (nn.act.kind == 2) = true := by
                  rcases hk with hk | hk
                  · exact absurd hk h1
                  · simpa using hk
                clear hv HQ2 h5 hr hu hk h1
                go_wp2
                cases gk with
                | zero => omega
                | succ g2 =>
                  go_roundg g2
                  case measure => omega
                  case rel => exact ⟨k + 1, by rw [HV.out], by go_num, by omega, by omega, HK⟩
          · have fr : ((S nn.act.room).toList == (S room).toList) = false := by rw [S_eq]; simpa using hr
            have hv := HQ2.out
            rw [if_neg (fun h => hr h.1.2.1)] at hv
            have HV := Lib.hid hv
            by_cases h1 : nn.act.kind = 1
            · have g1 : (nn.act.kind == 1) = true := by simpa using h1
              clear hv HQ2 h5 hr hk h1
              go_wp2
              cases gk with
              | zero => omega
              | succ g2 =>
                go_roundg g2
                case measure => omega
                case rel => exact ⟨k + 1, by rw [HV.out], by go_num, by omega, by omega, HK⟩
            · have g1 : (nn.act.kind == 1) = false := by simpa using h1
              have g2 : (nn.act.kind == 2) = true := by
                rcases hk with hk | hk
                · exact absurd hk h1
                · simpa using hk
              clear hv HQ2 h5 hr hk h1
              go_wp2
              cases gk with
              | zero => omega
              | succ g2 =>
                go_roundg g2
                case measure => omega
                case rel => exact ⟨k + 1, by rw [HV.out], by go_num, by omega, by omega, HK⟩
        · have g1 : (nn.act.kind == 1) = false := by simp; omega
          have g2 : (nn.act.kind == 2) = false := by simp; omega
          have hv := HQ2.out
          rw [if_neg (fun h => hk h.1.2.2)] at hv
          have HV := Lib.hid hv
          clear hv HQ2 h5 hk
          go_wp2
          cases gk with
          | zero => omega
          | succ g2 =>
            go_roundg g2
            case measure => omega
            case rel => exact ⟨k + 1, by rw [HV.out], by go_num, by omega, by omega, HK⟩
      · have f5 : (nn.kind == 5) = false := by simpa using h5
        have hv := HQ2.out
        rw [if_neg (fun h => h5 h.1.1)] at hv
        have HV := Lib.hid hv
        clear hv HQ2 h5
        go_wp2
        cases gk with
        | zero => omega
        | succ g2 =>
          go_roundg g2
          case measure => omega
          case rel => exact ⟨k + 1, by rw [HV.out], by go_num, by omega, by omega, HK⟩
    · obtain rfl : k = L := by omega
      rw [HF.out]
      have HK := Lib.hid hI.out
      have f1 : decide ((k : Int) < (k : Int)) = false := by simp
      have f1' : decide (k < k) = false := by simp
      clear hI
      go_wp2
      go_ret
      exact ⟨rfl, HK.out⟩
end Go.Proofs.YtfapilgmgjmfeaaGreatDoor
