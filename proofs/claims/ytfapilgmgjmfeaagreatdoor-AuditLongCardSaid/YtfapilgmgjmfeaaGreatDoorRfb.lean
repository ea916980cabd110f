/-
  The document's own over, Of, Own.
-/
import Derived.Test.YtfapilgmgjmfeaaGreatDoorRfa
import Derived.Deep.AppendLies
namespace Go.Proofs.YtfapilgmgjmfeaaGreatDoor
open Go.RowKit

def overB (l : List Nt) (t : Int) : Bool := l.any fun m => m.txn == t && endsB m.kind
theorem overB_take (l : List Nt) (t : Int) (k : Nat) (hk : k < l.length) (h : overB (l.take k) t = false) : overB (l.take (k + 1)) t = ((l[k]'hk).txn == t && endsB (l[k]'hk).kind) := by
  rw [List.take_succ_eq_append_getElem hk]
  unfold overB at *
  rw [List.any_append, h, Bool.false_or]
  simp
theorem overB_hit (l : List Nt) (t : Int) (k : Nat) (hk : k < l.length) (h : ((l[k]'hk).txn == t && endsB (l[k]'hk).kind) = true) : overB l t = true := List.any_eq_true.2 ⟨_, List.getElem_mem hk, h⟩
set_option maxHeartbeats 4000000 in
set_option maxRecDepth 100000 in
theorem over_any (A : Option Addr) (c : Nat) (l : List Nt) (t : Int) (w : World) (hA : NotesAt w A l) (hlen : l.length ≤ 1000000) : Calls Tryz.prog 50 #[.slice A l.length c, .int .i64 t] w (fun e w' => e = .returned (.bool (overB l t)) ∧ w' = w) := by
  have HA := Lib.hid hA
  have HQ := Lib.hid (fun k hk h => overB_take l t k hk h)
  have HH := Lib.hid (fun k hk h => overB_hit l t k hk h)
  have HF := Lib.hid (show overB (l.take l.length) t = overB l t by rw [List.take_length])
  have cE := Lib.hid (fun k wx => ends_any k wx)
  generalize overB l t = res at *
  obtain ⟨L, hL⟩ : ∃ L, l.length = L := ⟨_, rfl⟩
  have HL := Lib.hid hL
  rw [hL] at HF hlen ⊢
  clear hA hL
  go_enter Tryz.func50, Tryz.ntmps50
  go_wp2
  go_loopg [5] (L + 1) (fun g i wr => ∃ k : Nat, i = .int .i64 (k : Int) ∧ k ≤ L ∧ L - k < g ∧ wr = w ∧ Hid (overB (l.take k) t = false))
  case atStart => exact ⟨0, rfl, Nat.zero_le _, by omega, rfl, Lib.hid rfl⟩
  case round =>
    obtain ⟨k, rfl, hkL, hkg, rfl, hI⟩ := hrel
    by_cases hlt : k < L
    · have hlt' : k < l.length := by rw [HL.out]; exact hlt
      obtain ⟨g, o, hAe, hc⟩ := HA.out k hlt'
      subst hAe
      obtain ⟨e0, e1, e2, e3, e4, e5, e6, e7, e8⟩ := hc.nine
      have HQ2 := Lib.hid (HQ.out k hlt' hI.out)
      have HH2 := Lib.hid (HH.out k hlt')
      generalize l[k]'hlt' = nn at *
      have f1 : decide ((k : Int) < (L : Int)) = true := by simp; omega
      have f1' : decide (k < L) = true := by simpa using hlt
      have q1 : (0 : Int) ≤ (k : Int) := by omega
      have q2 : (k : Int) < (L : Int) := by omega
      clear hc hI
      by_cases h3 : nn.txn = t
      · have f3 : (nn.txn == t) = true := by simpa using h3
        rw [f3, Bool.true_and] at HQ2 HH2
        have cE2 := Lib.hid (cE.out nn.kind wr)
        generalize endsB nn.kind = b at *
        clear h3
        go_wp2_with fail
        refine cE2.out.mono ?_
        rintro e w2 ⟨rfl, hw2⟩
        cases b with
        | true =>
          have hr := HH2.out rfl
          have HR := Lib.hid hr
          clear hr
          go_wp2
          go_ret
          exact ⟨by rw [HR.out]; rfl, rfl⟩
        | false =>
          go_wp2
          cases gk with
          | zero => omega
          | succ g2 =>
            go_roundg g2
            case measure => omega
            case rel => exact ⟨k + 1, by go_num, by omega, by omega, rfl, HQ2⟩
      · have f3 : (nn.txn == t) = false := by simpa using h3
        rw [f3, Bool.false_and] at HQ2
        clear h3
        go_wp2
        cases gk with
        | zero => omega
        | succ g2 =>
          go_roundg g2
          case measure => omega
          case rel => exact ⟨k + 1, by go_num, by omega, by omega, rfl, HQ2⟩
    · obtain rfl : k = L := by omega
      have hr : res = false := by rw [← HF.out]; exact hI.out
      subst hr
      have f1 : decide ((k : Int) < (k : Int)) = false := by simp
      have f1' : decide (k < k) = false := by simp
      go_wp2
      go_ret
      exact ⟨rfl, rfl⟩
def ofL (l : List Nt) (t : Int) : List Nt := l.filter fun n => n.txn == t
theorem ofL_take (l : List Nt) (t : Int) (k : Nat) (hk : k < l.length) : ofL (l.take (k + 1)) t = if ((l[k]'hk).txn == t) = true then ofL (l.take k) t ++ [l[k]'hk] else ofL (l.take k) t := by
  rw [List.take_succ_eq_append_getElem hk]
  unfold ofL
  rw [List.filter_append]
  by_cases h : ((l[k]'hk).txn == t) = true
  · rw [if_pos h, List.filter_cons, if_pos h]; rfl
  · rw [if_neg h, List.filter_cons, if_neg h]; simp
theorem NtRow.nil (w : World) (B : Nat) : NtRow w B (.slice none 0 0) [] := ⟨rfl, .inl ⟨rfl, rfl⟩⟩
theorem NtRow.keeps {w w' : World} {B : Nat} {v : Value} {l : List Nt} (h : NtRow w B v l) (k : Keeps w w') : NtRow w' B v l := by
  obtain ⟨h1, h2 | ⟨g, cap, cur, rfl, hB, hb, hc, hm, hs, ht⟩⟩ := h
  · exact ⟨h1, .inl h2⟩
  · exact ⟨h1, .inr ⟨g, cap, cur, rfl, hB, (k.block _ (blk_lt hb)).trans hb, hc, hm, hs, ht⟩⟩
set_option maxHeartbeats 4000000 in
set_option maxRecDepth 100000 in
theorem rof_any (A : Option Addr) (c : Nat) (l : List Nt) (t : Int) (w : World) (hA : NotesAt w A l) (hlen : l.length ≤ 1000000) : Calls Tryz.prog 18 #[.slice A l.length c, .int .i64 t] w (OwnNRet (ofL l t) w) := by
  obtain ⟨i, hi, ⟨z, hz, hzs⟩, hz1, hz2⟩ := info31
  have HA := Lib.hid hA
  have HQ := Lib.hid (fun k hk => ofL_take l t k hk)
  have HF := Lib.hid (show ofL (l.take l.length) t = ofL l t by rw [List.take_length])
  have HN := Lib.hid (fun k => Nat.le_trans (show (ofL (l.take k) t).length ≤ (l.take k).length from List.length_filter_le _ _) (Nat.le_trans (List.length_take_le' _ _) hlen))
  generalize ofL l t = res at *
  obtain ⟨L, hL⟩ : ∃ L, l.length = L := ⟨_, rfl⟩
  have HL := Lib.hid hL
  rw [hL] at HF hlen ⊢
  clear hA hL
  go_enter Tryz.func18, Tryz.ntmps18
  go_wp2
  go_loopg [5, 6] (L + 1) (fun g v i wr => ∃ k : Nat, i = .int .i64 (k : Int) ∧ k ≤ L ∧ L - k < g ∧ Hid (Keeps w wr ∧ NtRow wr w.heap.size v (ofL (l.take k) t)))
  case atStart => exact ⟨0, rfl, Nat.zero_le _, by omega, Lib.hid ⟨Keeps.refl _, NtRow.nil _ _⟩⟩
  case round =>
    obtain ⟨k, rfl, hkL, hkg, hI⟩ := hrel
    by_cases hlt : k < L
    · have hlt' : k < l.length := by rw [HL.out]; exact hlt
      obtain ⟨hK, hR⟩ := hI.out
      obtain ⟨g, o, hAe, hc⟩ := (HA.out.keeps hK) k hlt'
      subst hAe
      obtain ⟨e0, e1, e2, e3, e4, e5, e6, e7, e8⟩ := hc.nine
      have HQ2 := Lib.hid (HQ.out k hlt')
      have HN2 := Lib.hid (HN.out k)
      generalize l[k]'hlt' = nn at *
      generalize ofL (l.take k) t = acc at *
      have f1 : decide ((k : Int) < (L : Int)) = true := by simp; omega
      have f1' : decide (k < L) = true := by simpa using hlt
      have q1 : (0 : Int) ≤ (k : Int) := by omega
      have q2 : (k : Int) < (L : Int) := by omega
      have HK := Lib.hid hK
      have HR := Lib.hid hR
      clear hc hI hK hR
      by_cases h3 : nn.txn = t
      · have f3 : (nn.txn == t) = true := by simpa using h3
        have hq := HQ2.out
        rw [if_pos f3] at hq
        have HQ3 := Lib.hid hq
        have JA := Lib.hid (HK.out.alloc (.cells (ntC nn) 29))
        have RA := Lib.hid (HR.out.keeps ((Keeps.refl wr).alloc (.cells (ntC nn) 29)))
        have HNW := Lib.hid (World.news_of_block (cs := ntC nn) (t := 29) (fr := (0, 0)) (heap_alloc_new wr (.cells (ntC nn) 29)))
        have HB := Lib.hid (Below.size JA.out)
        clear h3 hq
        unfold NtRow at RA
        unfold ntC at RA JA HNW HB
        go_wp2_with (at_builtin; refine wpList_append_own _ rfl (.tmp 20) (.tmp 25) 22 rfl w.heap.size 29 i z 9 112 Tryz.underlying22 hi hz hz1 hz2 hzs (by decide) _ _ _ rfl RA.out ⟨wr.heap.size, 0, none⟩ 1 1 [.int .i64 nn.kind, .int .i64 nn.txn, .int .i64 nn.act.kind, .string (S nn.act.room), .string (S nn.act.subj), .string (S nn.act.reason), .string (S nn.act.deny), .int .i64 nn.code, .string (S nn.text)] rfl rfl ?c1 ?c2 ?c3 ?c4 ?c5 ?_)
        case c2 => simp [Value.oneCell']
        case c3 => have := HN2.out; unfold maxLen; omega
        case c4 => have := HN2.out; omega
        case c5 => have h := HB.out; simpa using h
        intro v' y hown hgrow _
        have JY := Lib.hid (show Keeps w y ∧ NtRow y w.heap.size v' (ofL (l.take (k + 1)) t) from ⟨JA.out.grown hgrow HB.out (fun q hq => (World.ownsRow.lt RA.out q hq).1), by
          rw [HQ3.out]
          unfold NtRow
          rw [flatN_app, List.length_append]
          exact hown⟩)
        clear hown hgrow e0 e1 e2 e3 e4 e5 e6 e7 e8
        go_wp2
        cases gk with
        | zero => omega
        | succ g2 =>
          go_roundg g2
          case measure => omega
          case rel => exact ⟨k + 1, by go_num, by omega, by omega, JY⟩
      · have f3 : (nn.txn == t) = false := by simpa using h3
        have hq := HQ2.out
        rw [f3, if_neg (by simp)] at hq
        have JY := Lib.hid (show Keeps w wr ∧ NtRow wr w.heap.size _ (ofL (l.take (k + 1)) t) from ⟨HK.out, by rw [hq]; exact HR.out⟩)
        clear h3 hq
        go_wp2
        cases gk with
        | zero => omega
        | succ g2 =>
          go_roundg g2
          case measure => omega
          case rel => exact ⟨k + 1, by go_num, by omega, by omega, JY⟩
    · obtain rfl : k = L := by omega
      have hr := hI.out
      rw [HF.out] at hr
      have HR := Lib.hid hr
      have f1 : decide ((k : Int) < (k : Int)) = false := by simp
      have f1' : decide (k < k) = false := by simp
      clear hI hr
      go_wp2
      go_ret
      exact ⟨_, rfl, HR.out.2, HR.out.1⟩
end Go.Proofs.YtfapilgmgjmfeaaGreatDoor
