/-
  Open: the transactions that were queued and have not ended.
-/
import Derived.Test.YtfapilgmgjmfeaaGreatDoorLfe
import Derived.Test.YtfapilgmgjmfeaaGreatDoorKey
namespace Go.Proofs.YtfapilgmgjmfeaaGreatDoor
open Go.RowKit

abbrev SetI := Int → Option Bool
def qF (f : SetI) (n : Nt) : SetI := if n.kind = 3 then updI f n.txn (some true) else f
def eF (f : SetI) (n : Nt) : SetI := if n.kind = 5 ∨ n.kind = 7 ∨ n.kind = 8 then updI f n.txn none else f
def queuedM (l : List Nt) : SetI := l.foldl qF (fun _ => none)
def openM (l : List Nt) : SetI := l.foldl eF (queuedM l)
def OpenIs (l : List Nt) (ss : List Int) : Prop := Rise ss ∧ ∀ t, t ∈ ss ↔ (openM l t).isSome = true
theorem foldl_take {β : Type} (f : β → Nt → β) (b : β) (l : List Nt) (k : Nat) (h : k < l.length) : (l.take (k + 1)).foldl f b = f ((l.take k).foldl f b) (l[k]'h) := by
  rw [List.take_succ_eq_append_getElem h, List.foldl_append]
  rfl
def OpenRet (l : List Nt) (w : World) (e : Ending) (w' : World) : Prop :=
  ∃ v ss, e = .returned v ∧ OpenIs l ss ∧ w'.ownsRow w.heap.size 2 1 v ss.length (ss.map encZ) ∧ (v = .slice none 0 0 ↔ ss = []) ∧ Keeps w w'

set_option maxHeartbeats 8000000 in
set_option maxRecDepth 100000 in
theorem open_any (A : Option Addr) (c : Nat) (l : List Nt) (w : World) (hA : NotesAt w A l) (hlen : l.length ≤ 1000000) (hok : ∀ n, n ∈ l → NtOk n) : Calls Tryz.prog 20 #[.slice A l.length c] w (OpenRet l w) := by
  have hmm := @run_makeMap Tryz.prog
  have HM0 := Lib.hid (IsMapI.new boolE w)
  have K0 := Lib.hid ((Keeps.refl w).alloc (.map #[] 0))
  have HA := Lib.hid hA
  have HOK := Lib.hid hok
  generalize hL : l.length = L at *
  have HL := Lib.hid hL
  clear hA hok hL
  go_enter Tryz.func20, Tryz.ntmps20
  go_wp2
  clear hmm
  go_loopg [11] (L + 1) (fun g i wr => ∃ k : Nat, i = .int .i64 (k : Int) ∧ k ≤ L ∧ L - k < g ∧ Hid (Keeps w wr ∧ ∃ N, N ≤ k ∧ IsMapI boolE wr w.heap.size N ((l.take k).foldl qF (fun _ => none))))
  case atStart => exact ⟨0, rfl, Nat.zero_le _, by omega, Lib.hid ⟨K0.out, 0, Nat.le_refl _, HM0.out⟩⟩
  case round =>
    obtain ⟨k, rfl, hkL, hkg, hI⟩ := hrel
    by_cases hlt : k < L
    · have hlt' : k < l.length := by rw [HL.out]; exact hlt
      obtain ⟨hK, N, hN, hM⟩ := hI.out
      have hft := foldl_take qF (fun _ => none) l k hlt'
      obtain ⟨g, o, hAe, hc⟩ := (HA.out.keeps hK) k hlt'
      have hwf := HOK.out _ (List.getElem_mem hlt')
      subst hAe
      obtain ⟨e0, e1, e2, e3, e4, e5, e6, e7, e8⟩ := hc.nine
      generalize l[k]'hlt' = nn at *
      have HK := Lib.hid hK
      have HFT := Lib.hid hft
      have f1 : decide ((k : Int) < (L : Int)) = true := by simp; omega
      have f1' : decide (k < L) = true := by simpa using hlt
      have q1 : (0 : Int) ≤ (k : Int) := by omega
      have q2 : (k : Int) < (L : Int) := by omega
      clear hK hft hc hI
      by_cases h3 : nn.kind = 3
      · have hq : (l.take (k + 1)).foldl qF (fun _ => none) = updI ((l.take k).foldl qF (fun _ => none)) nn.txn (some true) := by rw [HFT.out]; unfold qF; rw [if_pos h3]
        obtain ⟨w3, hr, hM3, hg3⟩ := (hM.keeps ((Keeps.refl wr).alloc (.cells (ntC nn) 29))).put Tryz.underlying69 (by unfold maxLen; omega) hwf true
        have hr' : (Instr.mapUpdate 69 (.map (some w.heap.size)) (.int .i64 nn.txn) (.bool true)).run Tryz.prog (wr.alloc (.cells (ntC nn) 29)) = .ok () w3 := hr
        have HFIN := Lib.hid (show Keeps w w3 ∧ ∃ M, M ≤ k + 1 ∧ IsMapI boolE w3 w.heap.size M ((l.take (k + 1)).foldl qF (fun _ => none)) from ⟨(HK.out.alloc _).grown hg3 (by have := HK.out.size; simp; omega) (fun j hj => by simp at hj; omega), N + 1, by omega, by rw [hq]; exact hM3⟩)
        have f3 : (nn.kind == 3) = true := by simpa using h3
        obtain ⟨nk, t, ⟨ak, ro, s, c, d⟩, co, x⟩ := nn
        unfold ntC at *
        simp only at *
        clear hr hM3 hg3 hM hq h3 hwf
        go_wp2
        cases gk with
        | zero => omega
        | succ g2 =>
          go_roundg g2
          case measure => omega
          case rel => exact ⟨k + 1, by go_num, by omega, by omega, HFIN⟩
      · have hq : (l.take (k + 1)).foldl qF (fun _ => none) = (l.take k).foldl qF (fun _ => none) := by rw [HFT.out]; unfold qF; rw [if_neg h3]
        have HFIN := Lib.hid (show Keeps w (wr.alloc (.cells (ntC nn) 29)) ∧ ∃ M, M ≤ k + 1 ∧ IsMapI boolE (wr.alloc (.cells (ntC nn) 29)) w.heap.size M ((l.take (k + 1)).foldl qF (fun _ => none)) from ⟨HK.out.alloc _, N, by omega, by rw [hq]; exact hM.keeps ((Keeps.refl wr).alloc _)⟩)
        have f3 : (nn.kind == 3) = false := by simpa using h3
        obtain ⟨nk, t, ⟨ak, ro, s, c, d⟩, co, x⟩ := nn
        unfold ntC at *
        simp only at *
        clear hM hq h3 hwf
        go_wp2
        cases gk with
        | zero => omega
        | succ g2 =>
          go_roundg g2
          case measure => omega
          case rel => exact ⟨k + 1, by go_num, by omega, by omega, HFIN⟩
    · obtain rfl : k = L := by omega
      have f1 : decide ((k : Int) < (k : Int)) = false := by simp
      have f1' : decide (k < k) = false := by simp
      have H2 : Hid (Keeps w wr ∧ ∃ N, N ≤ k ∧ IsMapI boolE wr w.heap.size N ((l.take 0).foldl eF (queuedM l))) := Lib.hid (by
        obtain ⟨hK, N, hN, hM⟩ := hI.out
        refine ⟨hK, N, hN, ?_⟩
        rw [← HL.out, List.take_length] at hM
        exact hM)
      clear hI
      go_wp2
      generalize hXX : wr = wq at *
      clear hXX f1 f1'
      go_loopg [24] (k + 1) (fun g i wr => ∃ q : Nat, i = .int .i64 (q : Int) ∧ q ≤ k ∧ k - q < g ∧ Hid (Keeps w wr ∧ ∃ N, N ≤ k ∧ IsMapI boolE wr w.heap.size N ((l.take q).foldl eF (queuedM l))))
      case atStart => exact ⟨0, rfl, Nat.zero_le _, by omega, H2⟩
      case round =>
        obtain ⟨q, rfl, hqL, hqg, hI⟩ := hrel
        by_cases hlt : q < k
        · have hlt' : q < l.length := by rw [HL.out]; exact hlt
          obtain ⟨hK, N, hN, hM⟩ := hI.out
          have hft := foldl_take eF (queuedM l) l q hlt'
          obtain ⟨g, o, hAe, hc⟩ := (HA.out.keeps hK) q hlt'
          have hwf := HOK.out _ (List.getElem_mem hlt')
          subst hAe
          obtain ⟨e0, e1, e2, e3, e4, e5, e6, e7, e8⟩ := hc.nine
          generalize l[q]'hlt' = nn at *
          have HK := Lib.hid hK
          have HFT := Lib.hid hft
          have f1 : decide ((q : Int) < (k : Int)) = true := by simp; omega
          have f1' : decide (q < k) = true := by simpa using hlt
          have q1 : (0 : Int) ≤ (q : Int) := by omega
          have q2 : (q : Int) < (k : Int) := by omega
          clear hK hft hc hI
          by_cases h3 : nn.kind = 5 ∨ nn.kind = 7 ∨ nn.kind = 8
          · have hq : (l.take (q + 1)).foldl eF (queuedM l) = updI ((l.take q).foldl eF (queuedM l)) nn.txn none := by rw [HFT.out]; unfold eF; rw [if_pos h3]
            obtain ⟨w3, hr, hM3, hg3⟩ := (hM.keeps ((Keeps.refl wr).alloc (.cells (ntC nn) 29))).del Tryz.underlying69 hwf 0
            have HFIN := Lib.hid (show Keeps w w3 ∧ ∃ M, M ≤ k ∧ IsMapI boolE w3 w.heap.size M ((l.take (q + 1)).foldl eF (queuedM l)) from ⟨(HK.out.alloc _).grown hg3 (by have := HK.out.size; simp; omega) (fun j hj => by simp at hj; omega), N, hN, by rw [hq]; exact hM3⟩)
            obtain ⟨nk, t, ⟨ak, ro, s, c, d⟩, co, x⟩ := nn
            unfold ntC at *
            simp only at *
            clear hM3 hg3 hM hq hwf
            rcases h3 with rfl | rfl | rfl
            all_goals
              go_wp2
              cases gk with
              | zero => omega
              | succ g2 =>
                go_roundg g2
                case measure => omega
                case rel => exact ⟨q + 1, by go_num, by omega, by omega, HFIN⟩
          · have hq : (l.take (q + 1)).foldl eF (queuedM l) = (l.take q).foldl eF (queuedM l) := by rw [HFT.out]; unfold eF; rw [if_neg h3]
            have HFIN := Lib.hid (show Keeps w (wr.alloc (.cells (ntC nn) 29)) ∧ ∃ M, M ≤ k ∧ IsMapI boolE (wr.alloc (.cells (ntC nn) 29)) w.heap.size M ((l.take (q + 1)).foldl eF (queuedM l)) from ⟨HK.out.alloc _, N, hN, by rw [hq]; exact hM.keeps ((Keeps.refl wr).alloc _)⟩)
            have f5 : (nn.kind == 5) = false := by simp; omega
            have f7 : (nn.kind == 7) = false := by simp; omega
            have f8 : (nn.kind == 8) = false := by simp; omega
            obtain ⟨nk, t, ⟨ak, ro, s, c, d⟩, co, x⟩ := nn
            unfold ntC at *
            simp only at *
            clear hM hq h3 hwf
            go_wp2
            cases gk with
            | zero => omega
            | succ g2 =>
              go_roundg g2
              case measure => omega
              case rel => exact ⟨q + 1, by go_num, by omega, by omega, HFIN⟩
        · obtain ⟨hK, N, hN, hM⟩ := hI.out
          obtain rfl : q = k := by omega
          rw [← HL.out, List.take_length] at hM
          obtain ⟨D, hown, hhas, -, -⟩ := hM
          have hsz := hown.size_le
          have cK := Lib.hid (keysI_call (some w.heap.size) wr)
          have cS := Lib.hid (sortedI_call w.heap.size N D _ wr hown (by unfold maxLen; omega) (by omega))
          have hfa := keysI_facts hown
          have HFA := Lib.hid hfa
          have HHAS := Lib.hid hhas
          have HK := Lib.hid hK
          have f1 : decide ((q : Int) < (q : Int)) = false := by simp
          have f1' : decide (q < q) = false := by simp
          clear hK hown hhas hfa hI hsz
          go_wp2_with fail
          refine cK.out.mono ?_
          rintro e w2 ⟨rfl, rfl⟩
          go_wp2_with fail
          refine cS.out.mono ?_
          rintro e w2 ⟨v, ss, rfl, hp, hrow, hnil, hk2⟩
          have hres : OpenRet l w (.returned v) w2 := by
            refine ⟨v, ss.mergeSort (fun x y => decide (x ≤ y)), rfl, ⟨sorted_rise (hp.nodup_iff.2 HFA.out.1), fun t => ?_⟩, ?_, ?_, HK.out.trans hk2⟩
            · rw [(List.mergeSort_perm ss _).mem_iff, hp.mem_iff, HFA.out.2 t, HHAS.out t]
              rfl
            · rw [List.length_mergeSort]
              exact ownsRow_base_a hrow HK.out.size
            · rw [hnil]
              constructor
              · rintro rfl; simp
              · intro h
                have := congrArg List.length h
                rw [List.length_mergeSort] at this
                exact List.eq_nil_of_length_eq_zero this
          have HRES := Lib.hid hres
          clear hp hrow hnil hk2 hres
          go_wp2
          go_ret
          exact HRES.out
end Go.Proofs.YtfapilgmgjmfeaaGreatDoor
