/-
  The document's own Owned.
-/
import Derived.Test.YtfapilgmgjmfeaaGreatDoorRri
import Derived.Test.YtfapilgmgjmfeaaGreatDoorRfc
namespace Go.Proofs.YtfapilgmgjmfeaaGreatDoor
open Go.RowKit

def candB (room : List UInt8) (l : List Nt) (n : Nt) : Bool := decide (n.kind = 5) && (decide (n.act.room = room) && ownB room l n.act.subj)
def candL (room : List UInt8) (l p : List Nt) : List (List UInt8) := (p.filter (candB room l)).map fun n => n.act.subj
theorem candL_take (room : List UInt8) (l : List Nt) (k : Nat) (hk : k < l.length) : candL room l (l.take (k + 1)) = if candB room l (l[k]'hk) = true then candL room l (l.take k) ++ [(l[k]'hk).act.subj] else candL room l (l.take k) := by
  rw [List.take_succ_eq_append_getElem hk]
  unfold candL
  rw [List.filter_append, List.map_append]
  by_cases h : candB room l (l[k]'hk) = true
  · rw [if_pos h, List.filter_cons, if_pos h]; rfl
  · rw [if_neg h, List.filter_cons, if_neg h]; simp
theorem own_touch (room : List UInt8) : ∀ (l : List Nt) (f : SetS) (u : List UInt8), (l.foldl (ownF room) f u).isSome = true → (f u).isSome = true ∨ ∃ n, n ∈ l ∧ touchP room n ∧ n.act.subj = u
  | [], _, _, h => .inl h
  | n :: r, f, u, h => by
    rcases own_touch room r _ u h with h | ⟨m, hm, ht⟩
    · unfold ownF at h
      by_cases ht : touchP room n
      · rw [if_pos ht] at h
        unfold updS at h
        by_cases hu : u = n.act.subj
        · exact .inr ⟨n, by simp, ht, hu.symm⟩
        · rw [if_neg hu] at h; exact .inl h
      · rw [if_neg ht] at h; exact .inl h
    · exact .inr ⟨m, by simp [hm], ht⟩
theorem cand_mem (room : List UInt8) (l : List Nt) (u : List UInt8) : u ∈ candL room l l ↔ ownB room l u = true := by
  unfold candL
  rw [List.mem_map]
  constructor
  · rintro ⟨n, hn, rfl⟩
    have := (List.mem_filter.1 hn).2
    unfold candB at this
    simp only [Bool.and_eq_true] at this
    exact this.2.2
  · intro h
    have hs : (ownM room l u).isSome = true := by
      unfold ownB at h
      cases hq : ownM room l u with
      | none => rw [hq] at h; cases h
      | some b => rfl
    rcases own_touch room l _ u hs with h0 | ⟨n, hn, ht, hu⟩
    · cases h0
    · refine ⟨n, List.mem_filter.2 ⟨hn, ?_⟩, hu⟩
      unfold candB
      rw [decide_eq_true ht.1, decide_eq_true ht.2.1, hu, h]; rfl
theorem candL_len (room : List UInt8) (l p : List Nt) : (candL room l p).length ≤ p.length := by
  unfold candL
  rw [List.length_map]
  exact List.length_filter_le _ _
def ROwnedRet (room : List UInt8) (l : List Nt) (w : World) (e : Ending) (w' : World) : Prop := ∃ A ss c, e = .returned (.slice A ss.length c) ∧ RiseS ss ∧ (∀ u, u ∈ ss ↔ ownB room l u = true) ∧ StrsAt w' A ss ∧ ss.length ≤ 100000 ∧ Keeps w w'
set_option maxHeartbeats 8000000 in
set_option maxRecDepth 100000 in
theorem rowned_any (A : Option Addr) (c : Nat) (l : List Nt) (room : List UInt8) (w : World) (hA : NotesAt w A l) (hlen : l.length ≤ 100000) : Calls Tryz.prog 15 #[.slice A l.length c, .string (S room)] w (ROwnedRet room l w) := by
  have HA := Lib.hid hA
  have HQ := Lib.hid (fun k hk => candL_take room l k hk)
  have HM := Lib.hid (cand_mem room l)
  have HN := Lib.hid (fun k => Nat.le_trans (candL_len room l (l.take k)) (List.length_take_le' k l))
  have HF := Lib.hid (show candL room l (l.take l.length) = candL room l l by rw [List.take_length])
  have cO := Lib.hid (fun wx u (k : Keeps w wx) => rown_any A c l room u wx (hA.keeps k) (by omega))
  have cR := Lib.hid (fun A' c' xs wx (h : StrsAt wx A' xs) (hl : xs.length ≤ 100000) => rising_any A' c' xs wx h hl)
  obtain ⟨i0, hi, hz0, hz1, hz2⟩ := info_parts info9
  obtain ⟨L, hL⟩ : ∃ L, l.length = L := ⟨_, rfl⟩
  have HL := Lib.hid hL
  rw [hL] at HF hlen cO ⊢
  clear hA hL
  go_enter Tryz.func15, Tryz.ntmps15
  go_wp2
  go_loopg [5, 6] (L + 1) (fun g v i wr => ∃ k : Nat, i = .int .i64 (k : Int) ∧ k ≤ L ∧ L - k < g ∧ Hid (Keeps w wr ∧ StrRow wr w.heap.size v (candL room l (l.take k))))
  case atStart => exact ⟨0, rfl, Nat.zero_le _, by omega, Lib.hid ⟨Keeps.refl _, StrRow.nil _ _⟩⟩
  case round =>
    obtain ⟨k, rfl, hkL, hkg, hI⟩ := hrel
    by_cases hlt : k < L
    · have hlt' : k < l.length := by rw [HL.out]; exact hlt
      obtain ⟨hK, hR⟩ := hI.out
      obtain ⟨g, o, hAe, hc⟩ := (HA.out.keeps hK) k hlt'
      subst hAe
      obtain ⟨e0, e1, e2, e3, e4, e5, e6, e7, e8⟩ := hc.nine
      have HQ2 := Lib.hid (HQ.out k hlt')
      have hn2 : (candL room l (l.take k)).length ≤ L := by have h := HN.out k; rw [HL.out] at h; exact h
      have HN2 := Lib.hid hn2
      have HK := Lib.hid hK
      have HR := Lib.hid hR
      have HC := Lib.hid hc
      generalize l[k]'hlt' = nn at *
      have hcb : candB room l nn = (decide (nn.kind = 5) && (decide (nn.act.room = room) && ownB room l nn.act.subj)) := rfl
      generalize candB room l nn = cb at *
      have HCB := Lib.hid hcb
      have cO2 := Lib.hid (fun wx (k : Keeps w wx) => cO.out wx nn.act.subj k)
      generalize ownB room l nn.act.subj = ob at *
      generalize candL room l (l.take k) = acc at *
      have f1 : decide ((k : Int) < (L : Int)) = true := by simp; omega
      have f1' : decide (k < L) = true := by simpa using hlt
      have q1 : (0 : Int) ≤ (k : Int) := by omega
      have q2 : (k : Int) < (L : Int) := by omega
      clear hc hI hK hR hn2 hcb
      by_cases h5 : nn.kind = 5
      · have f5 : (nn.kind == 5) = true := by simpa using h5
        by_cases hr : nn.act.room = room
        · have fr : ((S nn.act.room).toList == (S room).toList) = true := by rw [S_eq]; simpa using hr
          have hcb := HCB.out
          rw [decide_eq_true h5, decide_eq_true hr, Bool.true_and, Bool.true_and] at hcb
          have HCB2 := Lib.hid hcb
          clear h5 hr hcb
          go_wp2_with fail
          refine (cO2.out _ HK.out).mono ?_
          rintro e y ⟨rfl, ky⟩
          have KY := Lib.hid (HK.out.trans ky)
          have RY := Lib.hid (HR.out.keeps ky)
          obtain ⟨d0, d1, d2, d3, d4, d5, d6, d7, d8⟩ := (HC.out.keeps ky).nine
          clear ky e0 e1 e2 e3 e4 e5 e6 e7 e8
          cases ob with
          | true =>
            have hq := HQ2.out
            rw [HCB2.out, if_pos rfl] at hq
            have HQ3 := Lib.hid hq
            have JA := Lib.hid (KY.out.alloc (.cells #[.string (S nn.act.subj)] 9))
            have RA := Lib.hid (RY.out.keeps ((Keeps.refl y).alloc (.cells #[.string (S nn.act.subj)] 9)))
            have HB := Lib.hid (Below.size JA.out)
            clear hq
            unfold StrRow at RA
            go_wp2_with (at_builtin; refine wpList_append_own _ rfl (.tmp 40) (.tmp 47) 33 rfl w.heap.size 9 i0 (.string ⟨#[]⟩) 1 16 Tryz.underlying33 hi hz0 hz1 hz2 rfl (by decide) _ _ _ rfl RA.out ⟨y.heap.size, 0, none⟩ 1 1 [.string (S nn.act.subj)] rfl rfl ?c1 ?c2 ?c3 ?c4 ?c5 ?_)
            case c1 => exact World.news_of_block (cs := #[.string (S nn.act.subj)]) (t := 9) (fr := (0, 0)) (heap_alloc_new _ _)
            case c2 => simp [Value.oneCell']
            case c3 => have := HN2.out; unfold maxLen; omega
            case c4 => have := HN2.out; omega
            case c5 => have h := HB.out; simpa using h
            intro v' z hown hgrow _
            have JY := Lib.hid (show Keeps w z ∧ StrRow z w.heap.size v' (candL room l (l.take (k + 1))) from ⟨JA.out.grown hgrow HB.out (fun q hq => (World.ownsRow.lt RA.out q hq).1), by
              rw [HQ3.out]
              unfold StrRow
              rw [List.map_append, List.length_append]
              exact hown⟩)
            clear hown hgrow d0 d1 d2 d3 d4 d5 d6 d7 d8
            go_wp2
            cases gk with
            | zero => omega
            | succ g2 =>
              go_roundg g2
              case measure => omega
              case rel => exact ⟨k + 1, by go_num, by omega, by omega, JY⟩
          | false =>
            have hq := HQ2.out
            rw [HCB2.out, if_neg (by simp)] at hq
            have JY := Lib.hid (show Keeps w y ∧ StrRow y w.heap.size _ (candL room l (l.take (k + 1))) from ⟨KY.out, by rw [hq]; exact RY.out⟩)
            clear hq
            go_wp2
            cases gk with
            | zero => omega
            | succ g2 =>
              go_roundg g2
              case measure => omega
              case rel => exact ⟨k + 1, by go_num, by omega, by omega, JY⟩
        · have fr : ((S nn.act.room).toList == (S room).toList) = false := by rw [S_eq]; simpa using hr
          have hq := HQ2.out
          rw [HCB.out, decide_eq_false hr, Bool.false_and, Bool.and_false, if_neg (by simp)] at hq
          have JY := Lib.hid (show Keeps w wr ∧ StrRow wr w.heap.size _ (candL room l (l.take (k + 1))) from ⟨HK.out, by rw [hq]; exact HR.out⟩)
          clear hq h5 hr
          go_wp2
          cases gk with
          | zero => omega
          | succ g2 =>
            go_roundg g2
            case measure => omega
            case rel => exact ⟨k + 1, by go_num, by omega, by omega, JY⟩
      · have f5 : (nn.kind == 5) = false := by simpa using h5
        have hq := HQ2.out
        rw [HCB.out, decide_eq_false h5, Bool.false_and, if_neg (by simp)] at hq
        have JY := Lib.hid (show Keeps w wr ∧ StrRow wr w.heap.size _ (candL room l (l.take (k + 1))) from ⟨HK.out, by rw [hq]; exact HR.out⟩)
        clear hq h5
        go_wp2
        cases gk with
        | zero => omega
        | succ g2 =>
          go_roundg g2
          case measure => omega
          case rel => exact ⟨k + 1, by go_num, by omega, by omega, JY⟩
    · obtain rfl : k = L := by omega
      obtain ⟨hK, hR⟩ := hI.out
      rw [HF.out] at hR
      have hn2 := HN.out k
      rw [HL.out, HF.out] at hn2
      generalize candL room l l = cs at *
      have HK := Lib.hid hK
      have HMM := HM
      obtain ⟨A', c', rfl, hS⟩ : ∃ A' c', u5 = .slice A' cs.length c' ∧ StrsAt wr A' cs := by
        rcases hR.form with ⟨rfl, rfl⟩ | ⟨g, cap, rfl, _, hs, _⟩
        · exact ⟨none, 0, rfl, fun i hi => by simp at hi⟩
        · exact ⟨_, _, rfl, hs⟩
      have cR2 := Lib.hid (cR.out A' c' cs wr hS (by omega))
      have HCN := Lib.hid hn2
      have f1 : decide ((k : Int) < (k : Int)) = false := by simp
      have f1' : decide (k < k) = false := by simp
      clear hI hK hR hn2 hS
      generalize hcl : cs.length = cl at *
      go_wp2_with fail
      refine cR2.out.mono ?_
      rintro e z ⟨v, ss, rfl, hrow, hrise, hmem, hsl, kz⟩
      have HRET : Hid (ROwnedRet room l w (.returned v) z) := Lib.hid (by
        have hmm : ∀ u, u ∈ ss ↔ ownB room l u = true := fun u => (hmem u).trans (HMM.out u)
        rcases hrow.form with ⟨rfl, rfl⟩ | ⟨g, cap, rfl, _, hs, _⟩
        · exact ⟨none, [], 0, rfl, hrise, hmm, fun i hi => by simp at hi, by simp, HK.out.trans kz⟩
        · exact ⟨_, ss, cap, rfl, hrise, hmm, hs, by have := HCN.out; omega, HK.out.trans kz⟩)
      clear hrow hrise hmem hsl kz
      go_wp2
      go_ret
      exact HRET.out
end Go.Proofs.YtfapilgmgjmfeaaGreatDoor
