/-
  Line and Text, walked.
-/
import Derived.Test.YtfapilgmgjmfeaaGreatDoorLin
import Derived.Test.YtfapilgmgjmfeaaGreatDoorLit
import Derived.Test.YtfapilgmgjmfeaaGreatDoorBld
import Derived.Deep.LoopGhost
namespace Go.Proofs.YtfapilgmgjmfeaaGreatDoor
open Go.RowKit

theorem join_len : ∀ (ss : List (List UInt8)), (Lib.join ss [32]).length ≤ (ss.map fun u => u.length + 1).sum
  | [] => by simp [Lib.join_nil]
  | x :: r => by
    rw [Lib.join_cons, List.length_append, List.map_cons, List.sum_cons]
    have : (Lib.joinTail [32] r).length = (r.map fun u => u.length + 1).sum := by
      unfold Lib.joinTail
      rw [List.length_flatten, List.map_map]
      exact congrArg List.sum (List.map_congr_left fun u _ => by simp [Nat.add_comm])
    omega
/-- What a line needs of a note. -/
def NtLine (n : Nt) : Prop := lightN1 n = true ∧ (Lit.int .i64 n.txn).wf = true ∧ (Lit.int .i64 n.code).wf = true
theorem parts_len (n : Nt) (h : NtLine n) : ((partsL n).map fun u => u.length + 1).sum ≤ 4000 := by
  obtain ⟨h1, h2, h3⟩ := h
  unfold lightN1 lightA at h1
  simp only [Bool.and_eq_true, decide_eq_true_eq] at h1
  have a1 := nwL_len n.kind
  have a2 := awL_len n.act.kind
  have a3 := itoa_len n.txn h2
  have a4 := itoa_len n.code h3
  unfold partsL
  split
  · simp; omega
  · split
    · simp; omega
    · split
      · simp; omega
      · simp; omega
theorem line_len (n : Nt) (h : NtLine n) : (lineL n).length ≤ 4000 := Nat.le_trans (join_len _) (parts_len n h)
theorem line_any (n : Nt) (w : World) (ht : Tab w) (h : NtLine n) : Calls Tryz.prog 7 #[.agg (ntC n)] w (Ret (.string (S (lineL n))) w) := by
  have hl := line_len n h
  obtain ⟨_, h2, h3⟩ := h
  unfold lineL partsL at *
  by_cases k1 : n.kind = 1
  · rw [if_pos k1] at *
    exact line_one n w ht k1 h3 (Nat.le_trans hl (by omega))
  · rw [if_neg k1] at *
    by_cases k2 : n.kind = 2
    · rw [if_pos k2] at *
      exact line_two n w ht k2 h3 (Nat.le_trans hl (by omega))
    · rw [if_neg k2] at *
      by_cases k3 : 3 ≤ n.kind ∧ n.kind ≤ 8
      · rw [if_pos k3] at *
        exact line_txn n w ht k3 h2 (Nat.le_trans hl (by omega))
      · rw [if_neg k3] at *
        exact line_oth n w ht k1 k2 k3 (Nat.le_trans hl (by omega))

theorem own_keeps {w w' : World} {B e size n : Nat} {v : Value} {xs : List Value} (h : w.ownsRow B e size v n xs) (hb : Below w.heap.size w w') : w'.ownsRow B e size v n xs := by
  refine ⟨h.1, ?_⟩
  rcases h.2 with h | ⟨g, cap, cur, hv, hB, hg, r⟩
  · exact .inl h
  · exact .inr ⟨g, cap, cur, hv, hB, by rw [hb.block g (bd_lt hg)]; exact hg, r⟩
theorem Bd.keeps {B b : Nat} {l : List UInt8} {w w' : World} (h : Bd B b l w) (k : Keeps w w') : Bd B b l w' := by
  rcases h with ⟨hB, v, hbk, hown, hne⟩ | ⟨hB, v, hbk, hown, hne⟩
  · exact .inl ⟨hB, v, by rw [k.block b (bd_lt hbk)]; exact hbk, own_keeps hown k, hne⟩
  · exact .inr ⟨hB, v, by rw [k.block b (bd_lt hbk)]; exact hbk, own_keeps hown k, hne⟩

/-- The text of notes. -/
def textL (l : List Nt) : List UInt8 := l.flatMap fun n => lineL n ++ [10]
theorem textL_take (l : List Nt) (k : Nat) (u : Nt) (hu : l[k]? = some u) : textL (l.take (k + 1)) = textL (l.take k) ++ lineL u ++ [10] := by
  obtain ⟨hk, rfl⟩ := List.getElem?_eq_some_iff.1 hu
  unfold textL
  rw [List.take_succ_eq_append_getElem hk, List.flatMap_append]
  simp
theorem textL_len (l : List Nt) (h : ∀ n, n ∈ l → NtLine n) : (textL l).length ≤ l.length * 4001 := by
  induction l with
  | nil => simp [textL]
  | cons n r ih =>
    have h1 := line_len n (h n (by simp))
    have h2 := ih fun m hm => h m (by simp [hm])
    have e : textL (n :: r) = lineL n ++ [10] ++ textL r := by simp [textL]
    rw [e]
    simp only [List.length_append, List.length_cons, List.length_nil]
    omega
theorem textL_le (l : List Nt) (k : Nat) : (textL (l.take k)).length ≤ (textL l).length := by
  have e : textL l = textL (l.take k) ++ textL (l.drop k) := by
    unfold textL
    rw [← List.flatMap_append, List.take_append_drop]
  rw [e, List.length_append]
  omega
theorem textL_app (a b : List Nt) : textL (a ++ b) = textL a ++ textL b := by simp [textL]

set_option maxHeartbeats 4000000 in
set_option maxRecDepth 100000 in
theorem text_any (A : Option Addr) (c : Nat) (l : List Nt) (w : World) (ht : Tab w) (hA : NotesAt w A l) (hlen : l.length ≤ 1000000) (hsz : (textL l).length ≤ 900000) (hok : ∀ n, n ∈ l → NtLine n) : Calls Tryz.prog 22 #[.slice A l.length c] w (Ret (.string (S (textL l))) w) := by
  have HT := Lib.hid ht
  have HA := Lib.hid hA
  have HOK := Lib.hid hok
  have HTL := Lib.hid (fun k u (hu : l[k]? = some u) => textL_take l k u hu)
  have HTN := Lib.hid (fun k => Nat.le_trans (textL_le l k) hsz)
  have HB0 : Hid (Bd w.heap.size w.heap.size [] (w.alloc (.cells #[.pointer none, .slice none 0 0] 78))) := Lib.hid (Lib.fresh_isBuilder 78 5 w)
  have K0 := Lib.hid ((Keeps.refl w).alloc (.cells #[.pointer none, .slice none 0 0] 78))
  have hfull : textL (l.take l.length) = textL l := by rw [List.take_length]
  have HFULL := Lib.hid hfull
  generalize textL l = full at *
  generalize hL : l.length = L at *
  have HL := Lib.hid hL
  clear hA hok hL ht hfull hsz
  go_enter Tryz.func22, Tryz.ntmps22
  go_wp2
  go_loopg [8] (L + 1) (fun g i wr => ∃ k : Nat, i = .int .i64 (k : Int) ∧ k ≤ L ∧ L - k < g ∧ Hid (Keeps w wr ∧ Bd w.heap.size w.heap.size (textL (l.take k)) wr))
  case atStart => exact ⟨0, rfl, Nat.zero_le _, by omega, Lib.hid ⟨K0.out, by simpa [textL] using HB0.out⟩⟩
  case round =>
    obtain ⟨k, rfl, hkL, hkg, hI⟩ := hrel
    by_cases hlt : k < L
    · have hlt' : k < l.length := by rw [HL.out]; exact hlt
      obtain ⟨hK, hB⟩ := hI.out
      obtain ⟨g, o, hAe, hc⟩ := (HA.out.keeps hK) k hlt'
      have hn := HOK.out _ (List.getElem_mem hlt')
      have htl := HTL.out k _ (List.getElem?_eq_getElem hlt')
      have hsz := HTN.out k
      subst hAe
      obtain ⟨e0, e1, e2, e3, e4, e5, e6, e7, e8⟩ := hc.nine
      generalize l[k]'hlt' = nn at *
      have hsl := line_len nn hn
      have f1 : decide ((k : Int) < (L : Int)) = true := by simp; omega
      have f1' : decide (k < L) = true := by simpa using hlt
      have q1 : (0 : Int) ≤ (k : Int) := by omega
      have q2 : (k : Int) < (L : Int) := by omega
      have KW := Lib.hid (hK.alloc (.cells (ntC nn) 29))
      have BW := Lib.hid (hB.keeps ((Keeps.refl wr).alloc (.cells (ntC nn) 29)))
      have NB := Lib.hid (NtB.new wr nn)
      have cL := Lib.hid (line_any nn (wr.alloc (.cells (ntC nn) 29)) (HT.out.keeps KW.out) hn)
      have HTL2 := Lib.hid htl
      generalize lineL nn = line at *
      generalize textL (l.take k) = acc at *
      clear hK hB hI hc hn htl
      have HS := Lib.hid hsl
      have HZ := Lib.hid hsz
      have hS : (S line).size = line.length := rfl
      clear hsl hsz
      unfold ntC at cL KW BW
      go_wp2_with fail
      refine cL.out.mono ?_
      rintro e w2 ⟨rfl, k2⟩
      have K2 := Lib.hid (KW.out.trans k2)
      have B2 := Lib.hid (BW.out.keeps k2)
      clear k2 cL KW BW NB e0 e1 e2 e3 e4 e5 e6 e7 e8
      go_wp2_with fail
      refine (ws_any _ _ acc (S line) w2 B2.out (by have := HZ.out; omega) (by have := HS.out; omega) K2.out.size).mono ?_
      rintro e w3 ⟨⟨q, rfl⟩, hb3, hk3⟩
      have K3 : Hid (Keeps w w3) := Lib.hid (Below.trans K2.out hk3.1)
      have B3 : Hid (Bd w.heap.size w.heap.size (acc ++ line) w3) := Lib.hid hb3
      clear hb3 hk3 K2 B2
      go_wp2_with fail
      have cb : Calls Tryz.prog 52 #[.pointer (some ⟨w.heap.size, 0, none⟩), .int .u8 10] w3 fun e w' => e = .returned .nilIface ∧ (Bd w.heap.size w.heap.size (acc ++ line ++ [10]) w' ∧ Kept w.heap.size w.heap.size w3 w') := wb_any _ _ (acc ++ line) 10 w3 B3.out (by have h1 := HZ.out; have h2 := HS.out; rw [List.length_append]; omega) K3.out.size
      refine cb.mono ?_
      rintro e w4 ⟨rfl, hb4, hk4⟩
      have K4 : Hid (Keeps w w4) := Lib.hid (Below.trans K3.out hk4.1)
      have B4 : Hid (Bd w.heap.size w.heap.size (textL (l.take (k + 1))) w4) := Lib.hid (by rw [HTL2.out]; exact hb4)
      clear hb4 hk4 K3 B3 cb
      go_wp2_with fail
      cases gk with
      | zero => omega
      | succ g2 =>
        go_roundg g2
        case measure => omega
        case rel => exact ⟨k + 1, by go_num, by omega, by omega, Lib.hid ⟨K4.out, B4.out⟩⟩
    · obtain rfl : k = L := by omega
      obtain ⟨hK, hB⟩ := hI.out
      rw [HFULL.out] at hB
      have HK := Lib.hid hK
      have HB := Lib.hid hB
      have f1 : decide ((k : Int) < (k : Int)) = false := by simp
      have f1' : decide (k < k) = false := by simp
      clear hK hB hI
      go_wp2_with fail
      refine (Tryz.Builder_String_any _ _ full wr HB.out HK.out.size).mono ?_
      rintro e w5 ⟨rfl, h5⟩
      have K5 : Hid (Keeps w w5) := Lib.hid (Below.trans HK.out h5)
      clear h5
      go_wp2
      go_ret
      exact ⟨rfl, K5.out⟩
end Go.Proofs.YtfapilgmgjmfeaaGreatDoor
