/-
  The document's own Open.
-/
import Derived.Test.YtfapilgmgjmfeaaGreatDoorRri
import Derived.Test.YtfapilgmgjmfeaaGreatDoorRfb
import Derived.Test.YtfapilgmgjmfeaaGreatDoorOpe
import Derived.Test.YtfapilgmgjmfeaaGreatDoorSam
import Derived.Test.YtfapilgmgjmfeaaGreatDoorQk
import Derived.Deep.Upon
import Derived.Laws.AppendOwn
namespace Go.Proofs.YtfapilgmgjmfeaaGreatDoor
open Go.RowKit

theorem info2 : (Tryz.prog.info? 2).map (fun i => (i.zero, i.size, i.bytes)) = some (some (.int .i64 0), 1, 8) := by kernel_rfl
def IntRow (w : World) (B : Nat) (v : Value) (ss : List Int) : Prop := w.ownsRow B 2 1 v ss.length (ss.map fun u => Value.int .i64 u)
theorem IntRow.keeps {w w' : World} {B : Nat} {v : Value} {ss : List Int} (h : IntRow w B v ss) (k : Keeps w w') : IntRow w' B v ss := by
  obtain ⟨h1, h2 | ⟨g, cap, cur, rfl, hB, hb, hc, hm, hs, ht⟩⟩ := h
  · exact ⟨h1, .inl h2⟩
  · exact ⟨h1, .inr ⟨g, cap, cur, rfl, hB, (k.block _ (blk_lt hb)).trans hb, hc, hm, hs, ht⟩⟩
def openC (l : List Nt) (n : Nt) : Prop := n.kind = 3 ∧ overB l n.txn = false
theorem queuedM_some (l : List Nt) : ∀ (f : SetI) (t : Int), ((l.foldl qF f) t).isSome = true ↔ ((f t).isSome = true ∨ ∃ n, n ∈ l ∧ n.kind = 3 ∧ n.txn = t) := by
  induction l with
  | nil => intro f t; simp
  | cons n r ih =>
    intro f t
    rw [List.foldl_cons, ih]
    unfold qF
    by_cases h3 : n.kind = 3
    · rw [if_pos h3]
      unfold updI
      by_cases ht : t = n.txn
      · rw [if_pos ht]
        constructor
        · intro _; exact .inr ⟨n, by simp, h3, ht.symm⟩
        · intro _; exact .inl rfl
      · rw [if_neg ht]
        constructor
        · rintro (h | ⟨m, hm, h⟩)
          · exact .inl h
          · exact .inr ⟨m, by simp [hm], h⟩
        · rintro (h | ⟨m, hm, hk, htx⟩)
          · exact .inl h
          · rcases List.mem_cons.1 hm with e | e
            · subst e; exact absurd htx.symm ht
            · exact .inr ⟨m, e, hk, htx⟩
    · rw [if_neg h3]
      constructor
      · rintro (h | ⟨m, hm, h⟩)
        · exact .inl h
        · exact .inr ⟨m, by simp [hm], h⟩
      · rintro (h | ⟨m, hm, hk, htx⟩)
        · exact .inl h
        · rcases List.mem_cons.1 hm with e | e
          · subst e; exact absurd hk h3
          · exact .inr ⟨m, e, hk, htx⟩
theorem endsM_some (l : List Nt) : ∀ (f : SetI) (t : Int), ((l.foldl eF f) t).isSome = true ↔ ((f t).isSome = true ∧ overB l t = false) := by
  induction l with
  | nil => intro f t; simp [overB]
  | cons n r ih =>
    intro f t
    rw [List.foldl_cons, ih]
    unfold eF
    have ho : overB (n :: r) t = ((n.txn == t && endsB n.kind) || overB r t) := by unfold overB; rw [List.any_cons]
    rw [ho]
    by_cases h5 : n.kind = 5 ∨ n.kind = 7 ∨ n.kind = 8
    · rw [if_pos h5]
      have he : endsB n.kind = true := by rcases h5 with e | e | e <;> rw [e] <;> rfl
      unfold updI
      by_cases ht : t = n.txn
      · rw [if_pos ht, he, ht]; simp
      · rw [if_neg ht]
        have : (n.txn == t) = false := by simpa using fun e : n.txn = t => ht e.symm
        rw [this]; simp
    · rw [if_neg h5]
      have he : endsB n.kind = false := by
        unfold endsB
        simp only [Bool.or_eq_false_iff, beq_eq_false_iff_ne]
        refine ⟨⟨fun e => h5 (.inl e), fun e => h5 (.inr (.inl e))⟩, fun e => h5 (.inr (.inr e))⟩
      rw [he]; simp
theorem open_mem (l : List Nt) (t : Int) : (openM l t).isSome = true ↔ ∃ n, n ∈ l ∧ openC l n ∧ n.txn = t := by
  unfold openM queuedM
  rw [endsM_some, queuedM_some]
  constructor
  · rintro ⟨h | ⟨n, hn, hk, ht⟩, ho⟩
    · cases h
    · exact ⟨n, hn, ⟨hk, by rw [ht]; exact ho⟩, ht⟩
  · rintro ⟨n, hn, ⟨hk, ho⟩, ht⟩
    exact ⟨.inr ⟨n, hn, hk, ht⟩, by rw [← ht]; exact ho⟩
theorem rise_insZ {ss : List Int} {x : Int} (h : Rise ss) (j : Nat) (h1 : ∀ u, u ∈ ss.take j → u < x) (h2 : ∀ u, u ∈ ss.drop j → x < u) : Rise (ss.take j ++ [x] ++ ss.drop j) := by
  unfold Rise at *
  have e : ss.take j ++ ss.drop j = ss := List.take_append_drop j ss
  have hp := h
  rw [← e, List.pairwise_append] at hp
  rw [List.pairwise_append, List.pairwise_append]
  refine ⟨⟨hp.1, List.pairwise_singleton _ _, fun a ha b hb => ?_⟩, hp.2.1, fun a ha b hb => ?_⟩
  · rw [List.mem_singleton.1 hb]; exact h1 a ha
  · rcases List.mem_append.1 ha with ha | ha
    · exact hp.2.2 a ha b hb
    · rw [List.mem_singleton.1 ha]; exact h2 b hb
theorem rise_dropZ {ss : List Int} {x : Int} (h : Rise ss) (j : Nat) (hj : ∀ (hlt : j < ss.length), x < ss[j]'hlt) : ∀ u, u ∈ ss.drop j → x < u := by
  intro u hu
  obtain ⟨i, hi, rfl⟩ := List.getElem_of_mem hu
  have hji : j + i < ss.length := by rw [List.length_drop] at hi; omega
  have h0 := hj (by omega)
  rw [List.getElem_drop]
  rcases Nat.eq_zero_or_pos i with h' | h'
  · subst h'; simpa using h0
  · exact Int.lt_trans h0 ((List.pairwise_iff_getElem.1 h) j (j + i) (by omega) hji (by omega))
theorem lt_takeZ {ss : List Int} {x : Int} {j : Nat} (hj : ∀ i (hi : i < ss.length), i < j → ss[i]'hi < x) : ∀ u, u ∈ ss.take j → u < x := by
  intro u hu
  obtain ⟨i, hi, rfl⟩ := List.getElem_of_mem hu
  rw [List.length_take] at hi
  rw [List.getElem_take]
  exact hj i (by omega) (by omega)
theorem mem_insZ {ss : List Int} {x : Int} (j : Nat) (u : Int) : u ∈ ss.take j ++ [x] ++ ss.drop j ↔ u ∈ ss ∨ u = x := by
  have e : ss.take j ++ ss.drop j = ss := List.take_append_drop j ss
  constructor
  · intro h
    rw [List.mem_append, List.mem_append, List.mem_singleton] at h
    rcases h with (h | h) | h
    · exact .inl (List.mem_of_mem_take h)
    · exact .inr h
    · exact .inl (List.mem_of_mem_drop h)
  · intro h
    rw [List.mem_append, List.mem_append, List.mem_singleton]
    rcases h with h | h
    · rw [← e, List.mem_append] at h
      rcases h with h | h
      · exact .inl (.inl h)
      · exact .inr h
    · exact .inl (.inr h)
theorem app_nilZ (w : World) (g n cap : Nat) (hn : n ≤ cap) : (Builtin.append_ #[38, 38] 38 #[.slice (some ⟨g, 0, none⟩) n cap, .slice none 0 0]).run Tryz.prog w = .ok (.slice (some ⟨g, 0, none⟩) n cap) w := by
  obtain ⟨i0, hi, hz0, hz1, hz2⟩ := info_parts info2
  refine run_append_nothing w 38 38 38 2 i0 Tryz.underlying38 hi _ n cap hn (.slice none 0 0) ?_
  rw [hz1]
  exact ⟨.inl ⟨2, Tryz.underlying38⟩, fun w' => by kernel_rfl, by kernel_rfl, by kernel_rfl, rfl, by simp⟩
theorem row_formZ {w : World} {B : Nat} {v : Value} {n : Nat} {xs : List Value} (h : w.ownsRow B 2 1 v n xs) (hn : 0 < n) : ∃ g cap, v = .slice (some ⟨g, 0, none⟩) n cap ∧ n ≤ cap := by
  obtain ⟨h1, ⟨rfl, h2⟩ | ⟨g, cap, cur, rfl, hB, hb, hc, hr⟩⟩ := h
  · omega
  · exact ⟨g, cap, rfl, hc⟩
theorem row0Z {W : World} {e B : Nat} (h : W.heap[e]? = some (.cells #[] 2 (0, 0))) (hB : B ≤ e) : W.ownsRow B 2 1 (.slice (some ⟨e, 0, none⟩) 0 0) 0 [] :=
  ⟨rfl, .inr ⟨e, 0, #[], rfl, hB, h, Nat.le_refl _, Nat.zero_le _, rfl, rfl⟩⟩
theorem news_takeZ {W : World} {g o : Nat} {ss : List Int} (h : IntsAt W (some ⟨g, o, none⟩) ss) (j : Nat) : ∀ q u, ((ss.take j).map fun u => Value.int .i64 u)[q]? = some u → W.cell? ((⟨g, o, none⟩ : Addr).add q) = some u := fun q u hu => by
  rw [List.getElem?_map] at hu
  cases hq : (ss.take j)[q]? with
  | none => rw [hq] at hu; cases hu
  | some y =>
    rw [hq] at hu; cases hu
    obtain ⟨hl, rfl⟩ := List.getElem?_eq_some_iff.1 hq
    have hl2 : q < ss.length := by rw [List.length_take] at hl; omega
    obtain ⟨g', o', e', hc⟩ := h q hl2
    injection e' with e'
    injection e' with e1 e2 _
    subst e1 e2
    rw [List.getElem_take]
    have e3 : (⟨g, o, none⟩ : Addr).add q = ⟨g, o + q, none⟩ := by unfold Addr.add; split <;> simp_all
    rw [e3]; exact hc
theorem news_dropZ {W : World} {g o : Nat} {ss : List Int} (h : IntsAt W (some ⟨g, o, none⟩) ss) (j : Nat) : ∀ q u, ((ss.drop j).map fun u => Value.int .i64 u)[q]? = some u → W.cell? ((⟨g, o + j, none⟩ : Addr).add q) = some u := fun q u hu => by
  rw [List.getElem?_map] at hu
  cases hq : (ss.drop j)[q]? with
  | none => rw [hq] at hu; cases hu
  | some y =>
    rw [hq] at hu; cases hu
    obtain ⟨hl, rfl⟩ := List.getElem?_eq_some_iff.1 hq
    have hl2 : j + q < ss.length := by rw [List.length_drop] at hl; omega
    obtain ⟨g', o', e', hc⟩ := h (j + q) hl2
    injection e' with e'
    injection e' with e1 e2 _
    subst e1 e2
    rw [List.getElem_drop]
    have e3 : (⟨g, o + j, none⟩ : Addr).add q = ⟨g, o + (j + q), none⟩ := by simp [Addr.add, Nat.add_assoc]
    rw [e3]; exact hc
theorem strs_oneZ (l : List Int) : ∀ u ∈ l.map (fun u => Value.int .i64 u), u.oneCell' = true := fun u hu => by
  obtain ⟨y, _, rfl⟩ := List.mem_map.1 hu
  rfl
theorem IntRow.nil (w : World) (B : Nat) : IntRow w B (.slice none 0 0) [] := ⟨rfl, .inl ⟨rfl, rfl⟩⟩
theorem IntRow.form {w : World} {B : Nat} {v : Value} {ss : List Int} (h : IntRow w B v ss) : (v = .slice none 0 0 ∧ ss = []) ∨ ∃ g cap, v = .slice (some ⟨g, 0, none⟩) ss.length cap ∧ ss.length ≤ cap ∧ IntsAt w (some ⟨g, 0, none⟩) ss ∧ IntRow w B (.slice (some ⟨g, 0, none⟩) ss.length cap) ss := by
  have h0 := h
  obtain ⟨h1, ⟨rfl, h2⟩ | ⟨g, cap, cur, rfl, hB, hb, hc, hm, hs, ht⟩⟩ := h
  · exact .inl ⟨rfl, List.eq_nil_of_length_eq_zero h2⟩
  · refine .inr ⟨g, cap, rfl, hc, fun i hi => ⟨g, 0, rfl, ?_⟩, h0⟩
    have hh : IntRow w B (.slice (some ⟨g, 0, none⟩) ss.length cap) ss := h0
    have := World.ownsRow.cellAt hh i (by omega)
    rw [Nat.zero_add, this, List.getElem?_map, List.getElem?_eq_getElem hi]
    rfl
def ROpenRet (l : List Nt) (w : World) (e : Ending) (w' : World) : Prop := ∃ v ss, e = .returned v ∧ IntRow w' w.heap.size v ss ∧ Rise ss ∧ (∀ u, u ∈ ss ↔ ∃ n, n ∈ l ∧ openC l n ∧ n.txn = u) ∧ ss.length ≤ l.length ∧ Keeps w w'
theorem open_next {l p : List Nt} {n : Nt} {ss : List Int} (h : ∀ u, u ∈ ss ↔ ∃ m, m ∈ p ∧ openC l m ∧ m.txn = u) (hn : ¬ openC l n) : ∀ u, u ∈ ss ↔ ∃ m, m ∈ p ++ [n] ∧ openC l m ∧ m.txn = u := fun u => by
  rw [h u]
  constructor
  · rintro ⟨m, hm, hc⟩; exact ⟨m, by simp [hm], hc⟩
  · rintro ⟨m, hm, hc, ht⟩
    rcases List.mem_append.1 hm with e | e
    · exact ⟨m, e, hc, ht⟩
    · rw [List.mem_singleton.1 e] at hc; exact absurd hc hn
theorem open_more {l p : List Nt} {n : Nt} {ss ss' : List Int} (h : ∀ u, u ∈ ss ↔ ∃ m, m ∈ p ∧ openC l m ∧ m.txn = u) (hn : openC l n) (hs : ∀ u, u ∈ ss' ↔ u ∈ ss ∨ u = n.txn) : ∀ u, u ∈ ss' ↔ ∃ m, m ∈ p ++ [n] ∧ openC l m ∧ m.txn = u := fun u => by
  rw [hs u, h u]
  constructor
  · rintro (⟨m, hm, hc⟩ | e)
    · exact ⟨m, by simp [hm], hc⟩
    · exact ⟨n, by simp, hn, e.symm⟩
  · rintro ⟨m, hm, hc, ht⟩
    rcases List.mem_append.1 hm with e | e
    · exact .inl ⟨m, e, hc, ht⟩
    · rw [List.mem_singleton.1 e] at ht; exact .inr ht.symm
set_option maxHeartbeats 8000000 in
set_option maxRecDepth 100000 in
theorem ropen_any (A : Option Addr) (c : Nat) (l : List Nt) (w : World) (hA : NotesAt w A l) (hlen : l.length ≤ 100000) : Calls Tryz.prog 21 #[.slice A l.length c] w (ROpenRet l w) := by
  have HA := Lib.hid hA
  have HTK := Lib.hid (fun k (hk : k < l.length) => List.take_succ_eq_append_getElem hk)
  have HTF := Lib.hid (show l.take l.length = l from List.take_length)
  have cV := Lib.hid (fun wx t (k : Keeps w wx) => over_any A c l t wx (hA.keeps k) (by omega))
  obtain ⟨L, hL⟩ : ∃ L, l.length = L := ⟨_, rfl⟩
  have HL := Lib.hid hL
  rw [hL] at hlen HTF cV ⊢
  clear hA hL
  go_enter Tryz.func21, Tryz.ntmps21
  go_wp2
  go_loopg [3, 4] (L + 1) (fun g v i wr => ∃ k : Nat, i = .int .i64 (k : Int) ∧ k ≤ L ∧ L - k < g ∧ Hid (Keeps w wr ∧ ∃ ss, IntRow wr w.heap.size v ss ∧ Rise ss ∧ (∀ u, u ∈ ss ↔ ∃ n, n ∈ l.take k ∧ openC l n ∧ n.txn = u) ∧ ss.length ≤ k))
  case atStart => exact ⟨0, rfl, Nat.zero_le _, by omega, Lib.hid ⟨Keeps.refl _, [], IntRow.nil _ _, List.Pairwise.nil, by simp, Nat.le_refl _⟩⟩
  case round =>
    generalize wr = wo at *
    generalize gk = gn at *
    obtain ⟨k, rfl, hkL, hkg, hI⟩ := hrel
    by_cases hlt : k < L
    · have hlt' : k < l.length := by rw [HL.out]; exact hlt
      obtain ⟨hK, ss, hR, hrise, hmem, hsk⟩ := hI.out
      obtain ⟨gx, ox, hAe, hcx⟩ := (HA.out.keeps hK) k hlt'
      have htk := HTK.out k hlt'
      subst hAe
      generalize l[k]'hlt' = nn at *
      obtain ⟨e0, e1, e2, e3, e4, e5, e6, e7, e8⟩ := hcx.nine
      have HTK2 := Lib.hid htk
      have HK := Lib.hid hK
      have HR := Lib.hid hR
      have HRISE := Lib.hid hrise
      have HMEM := Lib.hid hmem
      have cV2 := Lib.hid (cV.out wo nn.txn hK)
      have f1 : decide ((k : Int) < (L : Int)) = true := by simp; omega
      have f1' : decide (k < L) = true := by simpa using hlt
      have q1 : (0 : Int) ≤ (k : Int) := by omega
      have q2 : (k : Int) < (L : Int) := by omega
      clear hI hK hR hrise hmem htk
      by_cases h3 : nn.kind = 3
      rotate_left
      · have f3 : (nn.kind != 3) = true := by simp [h3]
        have JQ := Lib.hid (show Keeps w wo ∧ ∃ ss', IntRow wo w.heap.size u3 ss' ∧ Rise ss' ∧ (∀ u, u ∈ ss' ↔ ∃ n, n ∈ l.take (k + 1) ∧ openC l n ∧ n.txn = u) ∧ ss'.length ≤ k + 1 from ⟨HK.out, ss, HR.out, HRISE.out, by rw [HTK2.out]; exact open_next HMEM.out (fun h => h3 h.1), by omega⟩)
        clear hcx h3
        go_wp2
        cases gn with
        | zero => omega
        | succ g2 =>
          go_roundg g2
          case measure => omega
          case rel => exact ⟨k + 1, by go_num, by omega, by omega, JQ⟩
      have f3 : (nn.kind != 3) = false := by simp [h3]
      have HNO : Hid (overB l nn.txn = true → ¬ openC l nn) := Lib.hid (fun h1 h2 => by rw [h2.2] at h1; cases h1)
      have HYES : Hid (overB l nn.txn = false → openC l nn) := Lib.hid (fun h1 => ⟨h3, h1⟩)
      generalize overB l nn.txn = ov at *
      clear h3
      go_wp2_with fail
      refine cV2.out.mono ?_
      rintro e wv ⟨rfl, hwv⟩
      cases ov with
      | true =>
        have JQ := Lib.hid (show Keeps w wo ∧ ∃ ss', IntRow wo w.heap.size u3 ss' ∧ Rise ss' ∧ (∀ u, u ∈ ss' ↔ ∃ n, n ∈ l.take (k + 1) ∧ openC l n ∧ n.txn = u) ∧ ss'.length ≤ k + 1 from ⟨HK.out, ss, HR.out, HRISE.out, by rw [HTK2.out]; exact open_next HMEM.out (HNO.out rfl), by omega⟩)
        subst hwv
        clear hcx
        go_wp2
        cases gn with
        | zero => omega
        | succ g2 =>
          go_roundg g2
          case measure => omega
          case rel => exact ⟨k + 1, by go_num, by omega, by omega, JQ⟩
      | false =>
      subst hwv
      have HOC := Lib.hid (HYES.out rfl)
      have hcx1 : wv.cell? ⟨gx, ox + k * 9 + 1, none⟩ = some (.int .i64 nn.txn) := e1
      have HXE : Hid (∀ ss' : List Int, (∀ u, u ∈ ss' ↔ u ∈ ss ∨ u = nn.txn) → ∀ u, u ∈ ss' ↔ ∃ n, n ∈ l.take (k + 1) ∧ openC l n ∧ n.txn = u) := Lib.hid (fun ss' h => by rw [HTK2.out]; exact open_more HMEM.out HOC.out h)
      generalize nn.txn = x at *
      have HCX := Lib.hid hcx1
      obtain ⟨B, n, cap, hv, hn, hnc, hB⟩ : ∃ B n cap, u3 = .slice B n cap ∧ ss.length = n ∧ n ≤ cap ∧ IntsAt wv B ss := by
        rcases HR.out.form with ⟨rfl, rfl⟩ | ⟨g, cap, rfl, hc, hs, _⟩
        · exact ⟨none, 0, 0, rfl, rfl, Nat.le_refl _, fun i hi => by simp at hi⟩
        · exact ⟨some ⟨g, 0, none⟩, ss.length, cap, rfl, rfl, hc, hs⟩
      subst hv
      have HB := Lib.hid hB
      have HN := Lib.hid hn
      have hnk : n ≤ 100000 := by omega
      clear e0 e1 e2 e3 e4 e5 e6 e7 e8 hcx hcx1 hB hn HTK2 HMEM HNO HYES
      generalize wv = wo at *
      go_wp2
      go_loopg [5] (n + 1) (fun gi ai wq => ∃ j : Nat, ai = .int .i64 (j : Int) ∧ j ≤ n ∧ n - j < gi ∧ Hid (Keeps wo wq ∧ ∀ i (hi : i < ss.length), i < j → ss[i]'hi < x))
      case atStart => exact ⟨0, rfl, Nat.zero_le _, by omega, Lib.hid ⟨Keeps.refl _, fun i hi h => by omega⟩⟩
      case round =>
        obtain ⟨j, rfl, hjn, hjg, hJ⟩ := hrel
        obtain ⟨hKq, hless⟩ := hJ.out
        have HKq := Lib.hid hKq
        have HLS := Lib.hid hless
        clear hJ hKq hless
        have q3 : (0 : Int) ≤ (j : Int) := by omega
        have q4 : (j : Int) ≤ (n : Int) := by omega
        have cx : ∀ kx : Wl wr, kx.x.cell? ⟨gx, ox + k * 9 + 1, none⟩ = some (.int .i64 x) := fun kx => (HKq.out.trans kx.k).cell HCX.out
        by_cases hj : j < n
        · have hj' : j < ss.length := by rw [HN.out]; exact hj
          obtain ⟨g, o, hBe, hcj⟩ := (HB.out.keeps HKq.out) j hj'
          subst hBe
          have hless2 := Lib.hid (fun (h : ss[j]'hj' < x) => show ∀ i (hi : i < ss.length), i < j + 1 → ss[i]'hi < x from fun i hi hij => by
            rcases Nat.lt_or_ge i j with h' | h'
            · exact HLS.out i hi h'
            · have e : i = j := by omega
              subst e; exact h)
          have hdrop := Lib.hid (fun (h : x < ss[j]'hj') => rise_dropZ HRISE.out j (fun _ => h))
          have hin := Lib.hid (List.getElem_mem hj')
          generalize ss[j]'hj' = y at *
          have cy : ∀ kx : Wl wr, kx.x.cell? ⟨g, o + j, none⟩ = some (.int .i64 y) := fun kx => kx.k.cell hcj
          have q5 : (j : Int) < (n : Int) := by omega
          have d5 : decide ((j : Int) < (n : Int)) = true := by simpa using hj
          have d5' : decide (j < n) = true := by simpa using hj
          have d6 : ((j : Int) == (n : Int)) = false := by simp; omega
          clear hj' hcj
          by_cases hyx : y < x
          · have hb : decide (y < x) = true := decide_eq_true hyx
            have HL2 := Lib.hid (hless2.out hyx)
            clear hyx hless2 hdrop
            go_wp2_with fail
            refine wp_region_keeps (by kernel_rfl) (by kernel_rfl) ?_
            repeat (go_big_quiet_step (fail))
            refine wpQuiet_nil ?_
            rintro wz ⟨kq, hq⟩
            have KZ : Hid (Keeps wo wz) := Lib.hid (HKq.out.trans (by rw [hq]; exact kq.k))
            clear hq kq cx cy
            go_wp2
            cases gk with
            | zero => omega
            | succ g3 =>
              go_roundg g3
              case measure => omega
              case rel => exact ⟨j + 1, by go_num, by omega, by omega, Lib.hid ⟨KZ.out, HL2.out⟩⟩
          · have hb : decide (y < x) = false := decide_eq_false hyx
            have hbx : ¬ y < x := hyx
            have HBX := Lib.hid hbx
            clear hyx hbx hless2
            go_wp2_with fail
            refine wp_region_keeps (by kernel_rfl) (by kernel_rfl) ?_
            repeat (go_big_quiet_step (fail))
            refine wpQuiet_nil ?_
            rintro wz ⟨kq, hq⟩
            have KZ : Hid (Keeps wo wz) := Lib.hid (HKq.out.trans (by rw [hq]; exact kq.k))
            have cx2 : ∀ kx : Wl wz, kx.x.cell? ⟨gx, ox + k * 9 + 1, none⟩ = some (.int .i64 x) := fun kx => (KZ.out.trans kx.k).cell HCX.out
            have HCY : Hid (wz.cell? ⟨g, o + j, none⟩ = some (.int .i64 y)) := Lib.hid (by rw [hq]; exact cy kq)
            have cy2 : ∀ kx : Wl wz, kx.x.cell? ⟨g, o + j, none⟩ = some (.int .i64 y) := fun kx => kx.k.cell HCY.out
            clear hq kq cx cy
            by_cases hxy : y = x
            · have he : (y != x) = false := by simpa using hxy
              have HEQ := Lib.hid hxy
              clear hxy
              go_wp2_with fail
              refine wp_region_keeps (by kernel_rfl) (by kernel_rfl) ?_
              repeat (go_big_quiet_step (fail))
              refine wpQuiet_nil ?_
              rintro wy ⟨kq, hq⟩
              have KY : Hid (Keeps wo wy) := Lib.hid (KZ.out.trans (by rw [hq]; exact kq.k))
              clear hq kq cx2 cy2
              go_wp2
              have JQ := Lib.hid (show Keeps w wy ∧ ∃ ss', IntRow wy w.heap.size (.slice (some ⟨g, o, none⟩) n cap) ss' ∧ Rise ss' ∧ (∀ u, u ∈ ss' ↔ ∃ n, n ∈ l.take (k + 1) ∧ openC l n ∧ n.txn = u) ∧ ss'.length ≤ k + 1 from ⟨HK.out.trans KY.out, ss, HR.out.keeps KY.out, HRISE.out, HXE.out ss (fun u => ⟨.inl, fun h => by
                rcases h with h | h
                · exact h
                · rw [h, ← HEQ.out]; exact hin.out⟩), by omega⟩)
              cases gn with
              | zero => omega
              | succ g2 =>
                go_roundg g2
                case measure => omega
                case rel => exact ⟨k + 1, by go_num, by omega, by omega, JQ⟩
            · have he : (y != x) = true := by simpa using hxy
              have HXY := Lib.hid hxy
              clear hxy
              go_wp2_with fail
              refine wp_region_keeps (by kernel_rfl) (by kernel_rfl) ?_
              repeat (go_big_quiet_step (fail))
              refine wpQuiet_nil ?_
              rintro wy ⟨kq, hq⟩
              have KY : Hid (Keeps wo wy) := Lib.hid (KZ.out.trans (by rw [hq]; exact kq.k))
              clear hq kq cx2 cy2 he hb HCY
              go_wp2_with fail
              have ho : o = 0 := by
                rcases HR.out.form with ⟨e, _⟩ | ⟨g', cap', e, _⟩
                · cases e
                · injection e with e _ _
                  injection e with e
                  injection e
              subst ho
              have HBZ : Hid (IntsAt wy (some ⟨g, 0, none⟩) ss) := Lib.hid (HB.out.keeps KY.out)
              have CX : Hid (wy.cell? ⟨gx, ox + k * 9 + 1, none⟩ = some (.int .i64 x)) := Lib.hid (KY.out.cell HCX.out)
              have cx9 := CX.out
              have hgx : gx < wy.heap.size := World.block_lt_of_cell? _ _ CX.out
              have LT : Hid (((ss.take j).map fun u => Value.int .i64 u).length = j * 1) := Lib.hid (by rw [List.length_map, List.length_take, HN.out]; omega)
              have LD : Hid (((ss.drop j).map fun u => Value.int .i64 u).length = (n - j) * 1) := Lib.hid (by rw [List.length_map, List.length_drop, HN.out]; omega)
              have J : Hid (Keeps wy wy) := Lib.hid (Keeps.refl wy)
              obtain ⟨i0, hi, hz0, hz1, hz2⟩ := info_parts info2
              have q6 : (j : Int) ≤ (cap : Int) := by omega
              have q7 : (n : Int) ≤ (cap : Int) := by omega
              have q8 : ¬ cap = j := by omega
              have KE1 : Hid (Keeps wy ((wy.alloc (.cells #[] 2)).drew)) := Lib.hid (((Keeps.refl wy).alloc (.cells #[] 2)).drew)
              have HE1 : ((wy.alloc (.cells #[] 2)).drew).heap[wy.heap.size]? = some (.cells #[] 2 (0, 0)) := heap_alloc_new wy (.cells #[] 2)
              have RE1 : Hid (((wy.alloc (.cells #[] 2)).drew).ownsRow wy.heap.size 2 1 (.slice (some ⟨wy.heap.size, 0, none⟩) 0 0) 0 []) := Lib.hid (row0Z HE1 (by omega))
              clear HE1
              have KE2 : Hid (Keeps wy (((wy.alloc (.cells #[] 2)).alloc (.cells #[.int .i64 x] 2)).drew)) := Lib.hid ((((Keeps.refl wy).alloc (.cells #[] 2)).alloc (.cells #[.int .i64 x] 2)).drew)
              have HE2 : (((wy.alloc (.cells #[] 2)).alloc (.cells #[.int .i64 x] 2)).drew).heap[wy.heap.size]? = some (.cells #[] 2 (0, 0)) := (((Keeps.refl (wy.alloc (.cells #[] 2))).alloc (.cells #[.int .i64 x] 2)).block _ (by simp)).trans (heap_alloc_new wy (.cells #[] 2))
              have RE2 : Hid ((((wy.alloc (.cells #[] 2)).alloc (.cells #[.int .i64 x] 2)).drew).ownsRow wy.heap.size 2 1 (.slice (some ⟨wy.heap.size, 0, none⟩) 0 0) 0 []) := Lib.hid (row0Z HE2 (by omega))
              clear HE2
              have HN2 : Hid ((((wy.alloc (.cells #[] 2)).alloc (.cells #[.int .i64 x] 2)).drew).heap[(wy.heap.size + 1)]? = some (.cells #[.int .i64 x] 2 (0, 0))) := Lib.hid (by have h := heap_alloc_new (wy.alloc (.cells #[] 2)) (.cells #[.int .i64 x] 2); rw [World.size_alloc] at h; exact h)
              have KE3 : Hid (Keeps wy (((wy.alloc (.cells #[.int .i64 x] 2)).alloc (.cells #[] 2)).drew)) := Lib.hid ((((Keeps.refl wy).alloc (.cells #[.int .i64 x] 2)).alloc (.cells #[] 2)).drew)
              have HE3 : (((wy.alloc (.cells #[.int .i64 x] 2)).alloc (.cells #[] 2)).drew).heap[(wy.heap.size + 1)]? = some (.cells #[] 2 (0, 0)) := by have h := heap_alloc_new (wy.alloc (.cells #[.int .i64 x] 2)) (.cells #[] 2); rw [World.size_alloc] at h; exact h
              have RE3 : Hid ((((wy.alloc (.cells #[.int .i64 x] 2)).alloc (.cells #[] 2)).drew).ownsRow wy.heap.size 2 1 (.slice (some ⟨(wy.heap.size + 1), 0, none⟩) 0 0) 0 []) := Lib.hid (row0Z HE3 (by omega))
              clear HE3
              have HN3 : Hid ((((wy.alloc (.cells #[.int .i64 x] 2)).alloc (.cells #[] 2)).drew).heap[wy.heap.size]? = some (.cells #[.int .i64 x] 2 (0, 0))) := Lib.hid ((((Keeps.refl (wy.alloc (.cells #[.int .i64 x] 2))).alloc (.cells #[] 2)).block _ (by simp)).trans (heap_alloc_new wy (.cells #[.int .i64 x] 2)))
              go_region_law (first
                | (refine step_append_any (by rfl) (.tmp 61) (.tmp 64) 38 (by rfl) wy.heap.size 2 i0 (.int .i64 0) 1 8 Tryz.underlying38 hi hz0 hz1 hz2 rfl (by decide) (.slice (some ⟨wy.heap.size, 0, none⟩) 0 0) 0 [] (by kernel_rfl) RE1.out ⟨g, 0, none⟩ j cap ((ss.take j).map fun u => Value.int .i64 u) (by kernel_rfl) LT.out (news_takeZ (HBZ.out.keeps KE1.out) j) (strs_oneZ _) (by unfold maxLen; omega) (by omega) (Below.size KE1.out) ?_; intro v1 x1 hown hg; have j1 : Keeps wy x1 := KE1.out.grown hg (Below.size KE1.out) (fun q hq => by simp [Value.ownBlock] at hq; omega); have R1 := Lib.hid hown; skip; clear J hown hg; have J := Lib.hid j1; clear cx9; have cx9 := j1.cell CX.out; clear j1)
                | (refine step_append_any (by rfl) (.tmp 61) (.tmp 64) 38 (by rfl) wy.heap.size 2 i0 (.int .i64 0) 1 8 Tryz.underlying38 hi hz0 hz1 hz2 rfl (by decide) (.slice (some ⟨wy.heap.size, 0, none⟩) 0 0) 0 [] (by kernel_rfl) RE2.out ⟨g, 0, none⟩ j cap ((ss.take j).map fun u => Value.int .i64 u) (by kernel_rfl) LT.out (news_takeZ (HBZ.out.keeps KE2.out) j) (strs_oneZ _) (by unfold maxLen; omega) (by omega) (Below.size KE2.out) ?_; intro v1 x1 hown hg; have j1 : Keeps wy x1 := KE2.out.grown hg (Below.size KE2.out) (fun q hq => by simp [Value.ownBlock] at hq; omega); have R1 := Lib.hid hown; have NB : Hid (x1.heap[(wy.heap.size + 1)]? = some (.cells #[.int .i64 x] 2 (0, 0))) := Lib.hid ((hg.block _ (blk_lt HN2.out) (by simp [Value.ownBlock])).trans HN2.out); clear J hown hg; have J := Lib.hid j1; clear cx9; have cx9 := j1.cell CX.out; clear j1)
                | (refine step_append_any (by rfl) (.tmp 61) (.tmp 64) 38 (by rfl) wy.heap.size 2 i0 (.int .i64 0) 1 8 Tryz.underlying38 hi hz0 hz1 hz2 rfl (by decide) (.slice (some ⟨(wy.heap.size + 1), 0, none⟩) 0 0) 0 [] (by kernel_rfl) RE3.out ⟨g, 0, none⟩ j cap ((ss.take j).map fun u => Value.int .i64 u) (by kernel_rfl) LT.out (news_takeZ (HBZ.out.keeps KE3.out) j) (strs_oneZ _) (by unfold maxLen; omega) (by omega) (Below.size KE3.out) ?_; intro v1 x1 hown hg; have j1 : Keeps wy x1 := KE3.out.grown hg (Below.size KE3.out) (fun q hq => by simp [Value.ownBlock] at hq; omega); have R1 := Lib.hid hown; have NB : Hid (x1.heap[wy.heap.size]? = some (.cells #[.int .i64 x] 2 (0, 0))) := Lib.hid ((hg.block _ (blk_lt HN3.out) (by simp [Value.ownBlock])).trans HN3.out); clear J hown hg; have J := Lib.hid j1; clear cx9; have cx9 := j1.cell CX.out; clear j1)
                | (refine step_append_any (by rfl) (.tmp 65) (.tmp 71) 38 (by rfl) wy.heap.size 2 i0 (.int .i64 0) 1 8 Tryz.underlying38 hi hz0 hz1 hz2 rfl (by decide) v1 (0 + j) ([] ++ (ss.take j).map fun u => Value.int .i64 u) (by kernel_rfl) (R1.out) ⟨(wy.heap.size + 1), 0, none⟩ 1 1 [.int .i64 x] (by kernel_rfl) (by rfl) (World.news_of_block (cs := #[.int .i64 x]) (t := 2) (fr := (0, 0)) (NB.out)) (by simp [Value.oneCell']) (by unfold maxLen; omega) (by omega) (Below.size (J.out)) ?_; intro v2 x2 hown hg; have R2 := Lib.hid hown; have j2 : Keeps wy x2 := (J.out).grown hg (Below.size (J.out)) (fun q hq => (World.ownsRow.lt R1.out q hq).1); clear J hown hg; have J := Lib.hid j2; clear j2 cx9)
                | (refine step_append_any (by rfl) (.tmp 65) (.tmp 71) 38 (by rfl) wy.heap.size 2 i0 (.int .i64 0) 1 8 Tryz.underlying38 hi hz0 hz1 hz2 rfl (by decide) v1 (0 + j) ([] ++ (ss.take j).map fun u => Value.int .i64 u) (by kernel_rfl) (R1.out) ⟨wy.heap.size, 0, none⟩ 1 1 [.int .i64 x] (by kernel_rfl) (by rfl) (World.news_of_block (cs := #[.int .i64 x]) (t := 2) (fr := (0, 0)) (NB.out)) (by simp [Value.oneCell']) (by unfold maxLen; omega) (by omega) (Below.size (J.out)) ?_; intro v2 x2 hown hg; have R2 := Lib.hid hown; have j2 : Keeps wy x2 := (J.out).grown hg (Below.size (J.out)) (fun q hq => (World.ownsRow.lt R1.out q hq).1); clear J hown hg; have J := Lib.hid j2; clear j2 cx9)
                | (refine step_append_any (by rfl) (.tmp 65) (.tmp 71) 38 (by rfl) wy.heap.size 2 i0 (.int .i64 0) 1 8 Tryz.underlying38 hi hz0 hz1 hz2 rfl (by decide) v1 (0 + j) ([] ++ (ss.take j).map fun u => Value.int .i64 u) (by kernel_rfl) (R1.out.alloc (.cells #[.int .i64 x] 2)) ⟨x1.heap.size, 0, none⟩ 1 1 [.int .i64 x] (by kernel_rfl) (by rfl) (World.news_of_block (cs := #[.int .i64 x]) (t := 2) (fr := (0, 0)) (heap_alloc_new x1 (.cells #[.int .i64 x] 2))) (by simp [Value.oneCell']) (by unfold maxLen; omega) (by omega) (Below.size (J.out.alloc (.cells #[.int .i64 x] 2))) ?_; intro v2 x2 hown hg; have R2 := Lib.hid hown; have j2 : Keeps wy x2 := (J.out.alloc (.cells #[.int .i64 x] 2)).grown hg (Below.size (J.out.alloc (.cells #[.int .i64 x] 2))) (fun q hq => (World.ownsRow.lt R1.out q hq).1); clear J hown hg; have J := Lib.hid j2; clear j2 cx9)
                | (refine step_append_any (by rfl) (.tmp 72) (.tmp 75) 38 (by rfl) wy.heap.size 2 i0 (.int .i64 0) 1 8 Tryz.underlying38 hi hz0 hz1 hz2 rfl (by decide) v2 (0 + j + 1) ([] ++ (ss.take j).map (fun u => Value.int .i64 u) ++ [.int .i64 x]) (by kernel_rfl) R2.out ⟨g, j, none⟩ (n - j) (cap - j) ((ss.drop j).map fun u => Value.int .i64 u) (by kernel_rfl) LD.out (by have h := news_dropZ (HBZ.out.keeps J.out) j; simpa using h) (strs_oneZ _) (by unfold maxLen; omega) (by omega) (Below.size J.out) ?_; intro v3 x3 hown hg; have R3 := Lib.hid hown; have j3 : Keeps wy x3 := J.out.grown hg (Below.size J.out) (fun q hq => (World.ownsRow.lt R2.out q hq).1); clear J hown hg; have J := Lib.hid j3; clear j3)
              )
              all_goals
                have hxy2 : x < y := by have h1 := HBX.out; have h2 := HXY.out; omega
                have JQ := Lib.hid (show Keeps w x3 ∧ ∃ ss', IntRow x3 w.heap.size v3 ss' ∧ Rise ss' ∧ (∀ u, u ∈ ss' ↔ ∃ n, n ∈ l.take (k + 1) ∧ openC l n ∧ n.txn = u) ∧ ss'.length ≤ k + 1 from ⟨HK.out.trans (KY.out.trans J.out), ss.take j ++ [x] ++ ss.drop j, by
                  unfold IntRow
                  have e1 : (ss.take j ++ [x] ++ ss.drop j).length = 0 + j + 1 + (n - j) := by
                    have a1 := LT.out
                    have a2 := LD.out
                    simp only [List.length_map] at a1 a2
                    simp only [List.length_append, List.length_singleton]
                    omega
                  have e2 : ((ss.take j ++ [x] ++ ss.drop j).map fun u => Value.int .i64 u) = [] ++ (ss.take j).map (fun u => Value.int .i64 u) ++ [.int .i64 x] ++ (ss.drop j).map (fun u => Value.int .i64 u) := by
                    rw [List.map_append, List.map_append]; rfl
                  rw [e1, e2]
                  exact own_mono R3.out (HK.out.trans KY.out).size, rise_insZ HRISE.out j (lt_takeZ HLS.out) (hdrop.out hxy2), HXE.out _ (fun u => mem_insZ _ u), by
                  have a1 := LT.out
                  have a2 := LD.out
                  have a3 := HN.out
                  simp only [List.length_map] at a1 a2
                  simp only [List.length_append, List.length_singleton]
                  omega⟩)
                clear R1 R2 R3 J
                go_wp2
                cases gn with
                | zero => omega
                | succ g2 =>
                  go_roundg g2
                  case measure => omega
                  case rel => exact ⟨k + 1, by go_num, by omega, by omega, JQ⟩
        ·
          obtain rfl : j = n := by omega
          have d5 : decide ((j : Int) < (j : Int)) = false := by simp
          have d5' : decide (j < j) = false := by simp
          have d6 : ((j : Int) == (j : Int)) = true := by simp
          clear hj
          go_wp2_with fail
          refine wp_region_keeps (by kernel_rfl) (by kernel_rfl) ?_
          repeat (go_big_quiet_step (fail))
          refine wpQuiet_nil ?_
          rintro wz ⟨kq, hq⟩
          have KZ : Hid (Keeps wo wz) := Lib.hid (HKq.out.trans (by rw [hq]; exact kq.k))
          clear hq kq cx
          go_wp2_with fail
          refine wp_region_keeps (by kernel_rfl) (by kernel_rfl) ?_
          repeat (go_big_quiet_step (fail))
          refine wpQuiet_nil ?_
          rintro wy ⟨kq, hq⟩
          have KY : Hid (Keeps wo wy) := Lib.hid (KZ.out.trans (by rw [hq]; exact kq.k))
          clear hq kq
          cases B with
          | none =>
            have e0 : j = 0 ∧ cap = 0 ∧ ss = [] := by
              rcases HR.out.form with ⟨e, e'⟩ | ⟨g', cap', e, _⟩
              · injection e with _ e1 e2
                exact ⟨e1, e2, e'⟩
              · injection e with e _ _
                cases e
            obtain ⟨rfl, rfl, rfl⟩ := e0
            go_wp2_with fail
            have CX : Hid (wy.cell? ⟨gx, ox + k * 9 + 1, none⟩ = some (.int .i64 x)) := Lib.hid (KY.out.cell HCX.out)
            have cx9 := CX.out
            have hgx : gx < wy.heap.size := World.block_lt_of_cell? _ _ CX.out
            have J : Hid (Keeps wy wy) := Lib.hid (Keeps.refl wy)
            obtain ⟨i0, hi, hz0, hz1, hz2⟩ := info_parts info2
            have KE1 : Hid (Keeps wy ((wy.alloc (.cells #[] 2)).drew)) := Lib.hid (((Keeps.refl wy).alloc (.cells #[] 2)).drew)
            have HE1 : ((wy.alloc (.cells #[] 2)).drew).heap[wy.heap.size]? = some (.cells #[] 2 (0, 0)) := heap_alloc_new wy (.cells #[] 2)
            have RE1 : Hid (((wy.alloc (.cells #[] 2)).drew).ownsRow wy.heap.size 2 1 (.slice (some ⟨wy.heap.size, 0, none⟩) 0 0) 0 []) := Lib.hid (row0Z HE1 (by omega))
            clear HE1
            have KE2 : Hid (Keeps wy (((wy.alloc (.cells #[] 2)).alloc (.cells #[.int .i64 x] 2)).drew)) := Lib.hid ((((Keeps.refl wy).alloc (.cells #[] 2)).alloc (.cells #[.int .i64 x] 2)).drew)
            have HE2 : (((wy.alloc (.cells #[] 2)).alloc (.cells #[.int .i64 x] 2)).drew).heap[wy.heap.size]? = some (.cells #[] 2 (0, 0)) := (((Keeps.refl (wy.alloc (.cells #[] 2))).alloc (.cells #[.int .i64 x] 2)).block _ (by simp)).trans (heap_alloc_new wy (.cells #[] 2))
            have RE2 : Hid ((((wy.alloc (.cells #[] 2)).alloc (.cells #[.int .i64 x] 2)).drew).ownsRow wy.heap.size 2 1 (.slice (some ⟨wy.heap.size, 0, none⟩) 0 0) 0 []) := Lib.hid (row0Z HE2 (by omega))
            clear HE2
            have HN2 : Hid ((((wy.alloc (.cells #[] 2)).alloc (.cells #[.int .i64 x] 2)).drew).heap[(wy.heap.size + 1)]? = some (.cells #[.int .i64 x] 2 (0, 0))) := Lib.hid (by have h := heap_alloc_new (wy.alloc (.cells #[] 2)) (.cells #[.int .i64 x] 2); rw [World.size_alloc] at h; exact h)
            have KE3 : Hid (Keeps wy (((wy.alloc (.cells #[.int .i64 x] 2)).alloc (.cells #[] 2)).drew)) := Lib.hid ((((Keeps.refl wy).alloc (.cells #[.int .i64 x] 2)).alloc (.cells #[] 2)).drew)
            have HE3 : (((wy.alloc (.cells #[.int .i64 x] 2)).alloc (.cells #[] 2)).drew).heap[(wy.heap.size + 1)]? = some (.cells #[] 2 (0, 0)) := by have h := heap_alloc_new (wy.alloc (.cells #[.int .i64 x] 2)) (.cells #[] 2); rw [World.size_alloc] at h; exact h
            have RE3 : Hid ((((wy.alloc (.cells #[.int .i64 x] 2)).alloc (.cells #[] 2)).drew).ownsRow wy.heap.size 2 1 (.slice (some ⟨(wy.heap.size + 1), 0, none⟩) 0 0) 0 []) := Lib.hid (row0Z HE3 (by omega))
            clear HE3
            have HN3 : Hid ((((wy.alloc (.cells #[.int .i64 x] 2)).alloc (.cells #[] 2)).drew).heap[wy.heap.size]? = some (.cells #[.int .i64 x] 2 (0, 0))) := Lib.hid ((((Keeps.refl (wy.alloc (.cells #[.int .i64 x] 2))).alloc (.cells #[] 2)).block _ (by simp)).trans (heap_alloc_new wy (.cells #[.int .i64 x] 2)))
            go_region_law (first
              | (refine step_append_nil (by rfl) (.tmp 61) (.tmp 64) 38 (by rfl) (.slice (some ⟨wy.heap.size, 0, none⟩) 0 0) (by kernel_rfl) (by kernel_rfl) (app_nilZ ((wy.alloc (.cells #[] 2)).drew) _ 0 0 (Nat.le_refl _)) ?_)
              | (refine step_append_nil (by rfl) (.tmp 61) (.tmp 64) 38 (by rfl) (.slice (some ⟨wy.heap.size, 0, none⟩) 0 0) (by kernel_rfl) (by kernel_rfl) (app_nilZ (((wy.alloc (.cells #[] 2)).alloc (.cells #[.int .i64 x] 2)).drew) _ 0 0 (Nat.le_refl _)) ?_)
              | (refine step_append_nil (by rfl) (.tmp 61) (.tmp 64) 38 (by rfl) (.slice (some ⟨(wy.heap.size + 1), 0, none⟩) 0 0) (by kernel_rfl) (by kernel_rfl) (app_nilZ (((wy.alloc (.cells #[.int .i64 x] 2)).alloc (.cells #[] 2)).drew) _ 0 0 (Nat.le_refl _)) ?_)
              | (refine step_append_any (by rfl) (.tmp 65) (.tmp 71) 38 (by rfl) wy.heap.size 2 i0 (.int .i64 0) 1 8 Tryz.underlying38 hi hz0 hz1 hz2 rfl (by decide) (.slice (some ⟨wy.heap.size, 0, none⟩) 0 0) 0 [] (by kernel_rfl) RE2.out ⟨(wy.heap.size + 1), 0, none⟩ 1 1 [.int .i64 x] (by kernel_rfl) (by rfl) (World.news_of_block (cs := #[.int .i64 x]) (t := 2) (fr := (0, 0)) HN2.out) (by simp [Value.oneCell']) (by unfold maxLen; omega) (by omega) (Below.size KE2.out) ?_; intro v2 x3 hown hg; have R2 := Lib.hid hown; have j2 : Keeps wy x3 := KE2.out.grown hg (Below.size KE2.out) (fun q hq => by simp [Value.ownBlock] at hq; omega); obtain ⟨g2, cap2, hv2, hc2⟩ := row_formZ R2.out (by omega); subst hv2; clear J hown hg; have J := Lib.hid j2; clear j2)
              | (refine step_append_any (by rfl) (.tmp 65) (.tmp 71) 38 (by rfl) wy.heap.size 2 i0 (.int .i64 0) 1 8 Tryz.underlying38 hi hz0 hz1 hz2 rfl (by decide) (.slice (some ⟨(wy.heap.size + 1), 0, none⟩) 0 0) 0 [] (by kernel_rfl) RE3.out ⟨wy.heap.size, 0, none⟩ 1 1 [.int .i64 x] (by kernel_rfl) (by rfl) (World.news_of_block (cs := #[.int .i64 x]) (t := 2) (fr := (0, 0)) HN3.out) (by simp [Value.oneCell']) (by unfold maxLen; omega) (by omega) (Below.size KE3.out) ?_; intro v2 x3 hown hg; have R2 := Lib.hid hown; have j2 : Keeps wy x3 := KE3.out.grown hg (Below.size KE3.out) (fun q hq => by simp [Value.ownBlock] at hq; omega); obtain ⟨g2, cap2, hv2, hc2⟩ := row_formZ R2.out (by omega); subst hv2; clear J hown hg; have J := Lib.hid j2; clear j2)
              | (refine step_append_nil (by rfl) (.tmp 72) (.tmp 75) 38 (by rfl) (.slice (some ⟨g2, 0, none⟩) (0 + 1) cap2) (by kernel_rfl) (by kernel_rfl) (app_nilZ _ g2 _ cap2 hc2) ?_)
            )
            all_goals
              have JQ := Lib.hid (show Keeps w x3 ∧ ∃ ss', IntRow x3 w.heap.size (.slice (some ⟨g2, 0, none⟩) (0 + 1) cap2) ss' ∧ Rise ss' ∧ (∀ u, u ∈ ss' ↔ ∃ n, n ∈ l.take (k + 1) ∧ openC l n ∧ n.txn = u) ∧ ss'.length ≤ k + 1 from ⟨HK.out.trans (KY.out.trans J.out), [x], own_mono R2.out (HK.out.trans KY.out).size, List.pairwise_singleton _ _, HXE.out [x] (fun u => by simp), by simp⟩)
              clear R2 J
              go_wp2
              cases gn with
              | zero => omega
              | succ g2 =>
                go_roundg g2
                case measure => omega
                case rel => exact ⟨k + 1, by go_num, by omega, by omega, JQ⟩
          | some ad =>
            obtain ⟨g, o, sp⟩ := ad
            have hsp : sp = none := by
              rcases HR.out.form with ⟨e, _⟩ | ⟨g', cap', e, _⟩
              · cases e
              · injection e with e _ _
                injection e with e
                injection e
            subst hsp
            by_cases q8 : cap = j
            · subst q8
              go_wp2_with fail
              have ho : o = 0 := by
                rcases HR.out.form with ⟨e, _⟩ | ⟨g', cap', e, _⟩
                · cases e
                · injection e with e _ _
                  injection e with e
                  injection e
              subst ho
              have HBZ : Hid (IntsAt wy (some ⟨g, 0, none⟩) ss) := Lib.hid (HB.out.keeps KY.out)
              have CX : Hid (wy.cell? ⟨gx, ox + k * 9 + 1, none⟩ = some (.int .i64 x)) := Lib.hid (KY.out.cell HCX.out)
              have cx9 := CX.out
              have hgx : gx < wy.heap.size := World.block_lt_of_cell? _ _ CX.out
              have LT : Hid (((ss.take cap).map fun u => Value.int .i64 u).length = cap * 1) := Lib.hid (by rw [List.length_map, List.length_take, HN.out]; omega)
              have LD : Hid (((ss.drop cap).map fun u => Value.int .i64 u).length = 0 * 1) := Lib.hid (by rw [List.length_map, List.length_drop, HN.out]; omega)
              have J : Hid (Keeps wy wy) := Lib.hid (Keeps.refl wy)
              obtain ⟨i0, hi, hz0, hz1, hz2⟩ := info_parts info2
              have q6 : (cap : Int) ≤ (cap : Int) := by omega
              have q7 : (cap : Int) ≤ (cap : Int) := by omega
              have KE1 : Hid (Keeps wy ((wy.alloc (.cells #[] 2)).drew)) := Lib.hid (((Keeps.refl wy).alloc (.cells #[] 2)).drew)
              have HE1 : ((wy.alloc (.cells #[] 2)).drew).heap[wy.heap.size]? = some (.cells #[] 2 (0, 0)) := heap_alloc_new wy (.cells #[] 2)
              have RE1 : Hid (((wy.alloc (.cells #[] 2)).drew).ownsRow wy.heap.size 2 1 (.slice (some ⟨wy.heap.size, 0, none⟩) 0 0) 0 []) := Lib.hid (row0Z HE1 (by omega))
              clear HE1
              have KE2 : Hid (Keeps wy (((wy.alloc (.cells #[] 2)).alloc (.cells #[.int .i64 x] 2)).drew)) := Lib.hid ((((Keeps.refl wy).alloc (.cells #[] 2)).alloc (.cells #[.int .i64 x] 2)).drew)
              have HE2 : (((wy.alloc (.cells #[] 2)).alloc (.cells #[.int .i64 x] 2)).drew).heap[wy.heap.size]? = some (.cells #[] 2 (0, 0)) := (((Keeps.refl (wy.alloc (.cells #[] 2))).alloc (.cells #[.int .i64 x] 2)).block _ (by simp)).trans (heap_alloc_new wy (.cells #[] 2))
              have RE2 : Hid ((((wy.alloc (.cells #[] 2)).alloc (.cells #[.int .i64 x] 2)).drew).ownsRow wy.heap.size 2 1 (.slice (some ⟨wy.heap.size, 0, none⟩) 0 0) 0 []) := Lib.hid (row0Z HE2 (by omega))
              clear HE2
              have HN2 : Hid ((((wy.alloc (.cells #[] 2)).alloc (.cells #[.int .i64 x] 2)).drew).heap[(wy.heap.size + 1)]? = some (.cells #[.int .i64 x] 2 (0, 0))) := Lib.hid (by have h := heap_alloc_new (wy.alloc (.cells #[] 2)) (.cells #[.int .i64 x] 2); rw [World.size_alloc] at h; exact h)
              have KE3 : Hid (Keeps wy (((wy.alloc (.cells #[.int .i64 x] 2)).alloc (.cells #[] 2)).drew)) := Lib.hid ((((Keeps.refl wy).alloc (.cells #[.int .i64 x] 2)).alloc (.cells #[] 2)).drew)
              have HE3 : (((wy.alloc (.cells #[.int .i64 x] 2)).alloc (.cells #[] 2)).drew).heap[(wy.heap.size + 1)]? = some (.cells #[] 2 (0, 0)) := by have h := heap_alloc_new (wy.alloc (.cells #[.int .i64 x] 2)) (.cells #[] 2); rw [World.size_alloc] at h; exact h
              have RE3 : Hid ((((wy.alloc (.cells #[.int .i64 x] 2)).alloc (.cells #[] 2)).drew).ownsRow wy.heap.size 2 1 (.slice (some ⟨(wy.heap.size + 1), 0, none⟩) 0 0) 0 []) := Lib.hid (row0Z HE3 (by omega))
              clear HE3
              have HN3 : Hid ((((wy.alloc (.cells #[.int .i64 x] 2)).alloc (.cells #[] 2)).drew).heap[wy.heap.size]? = some (.cells #[.int .i64 x] 2 (0, 0))) := Lib.hid ((((Keeps.refl (wy.alloc (.cells #[.int .i64 x] 2))).alloc (.cells #[] 2)).block _ (by simp)).trans (heap_alloc_new wy (.cells #[.int .i64 x] 2)))
              go_region_law (first
                | (refine step_append_any (by rfl) (.tmp 61) (.tmp 64) 38 (by rfl) wy.heap.size 2 i0 (.int .i64 0) 1 8 Tryz.underlying38 hi hz0 hz1 hz2 rfl (by decide) (.slice (some ⟨wy.heap.size, 0, none⟩) 0 0) 0 [] (by kernel_rfl) RE1.out ⟨g, 0, none⟩ cap cap ((ss.take cap).map fun u => Value.int .i64 u) (by kernel_rfl) LT.out (news_takeZ (HBZ.out.keeps KE1.out) cap) (strs_oneZ _) (by unfold maxLen; omega) (by omega) (Below.size KE1.out) ?_; intro v1 x1 hown hg; have j1 : Keeps wy x1 := KE1.out.grown hg (Below.size KE1.out) (fun q hq => by simp [Value.ownBlock] at hq; omega); have R1 := Lib.hid hown; skip; clear J hown hg; have J := Lib.hid j1; clear cx9; have cx9 := j1.cell CX.out; clear j1)
                | (refine step_append_any (by rfl) (.tmp 61) (.tmp 64) 38 (by rfl) wy.heap.size 2 i0 (.int .i64 0) 1 8 Tryz.underlying38 hi hz0 hz1 hz2 rfl (by decide) (.slice (some ⟨wy.heap.size, 0, none⟩) 0 0) 0 [] (by kernel_rfl) RE2.out ⟨g, 0, none⟩ cap cap ((ss.take cap).map fun u => Value.int .i64 u) (by kernel_rfl) LT.out (news_takeZ (HBZ.out.keeps KE2.out) cap) (strs_oneZ _) (by unfold maxLen; omega) (by omega) (Below.size KE2.out) ?_; intro v1 x1 hown hg; have j1 : Keeps wy x1 := KE2.out.grown hg (Below.size KE2.out) (fun q hq => by simp [Value.ownBlock] at hq; omega); have R1 := Lib.hid hown; have NB : Hid (x1.heap[(wy.heap.size + 1)]? = some (.cells #[.int .i64 x] 2 (0, 0))) := Lib.hid ((hg.block _ (blk_lt HN2.out) (by simp [Value.ownBlock])).trans HN2.out); clear J hown hg; have J := Lib.hid j1; clear cx9; have cx9 := j1.cell CX.out; clear j1)
                | (refine step_append_any (by rfl) (.tmp 61) (.tmp 64) 38 (by rfl) wy.heap.size 2 i0 (.int .i64 0) 1 8 Tryz.underlying38 hi hz0 hz1 hz2 rfl (by decide) (.slice (some ⟨(wy.heap.size + 1), 0, none⟩) 0 0) 0 [] (by kernel_rfl) RE3.out ⟨g, 0, none⟩ cap cap ((ss.take cap).map fun u => Value.int .i64 u) (by kernel_rfl) LT.out (news_takeZ (HBZ.out.keeps KE3.out) cap) (strs_oneZ _) (by unfold maxLen; omega) (by omega) (Below.size KE3.out) ?_; intro v1 x1 hown hg; have j1 : Keeps wy x1 := KE3.out.grown hg (Below.size KE3.out) (fun q hq => by simp [Value.ownBlock] at hq; omega); have R1 := Lib.hid hown; have NB : Hid (x1.heap[wy.heap.size]? = some (.cells #[.int .i64 x] 2 (0, 0))) := Lib.hid ((hg.block _ (blk_lt HN3.out) (by simp [Value.ownBlock])).trans HN3.out); clear J hown hg; have J := Lib.hid j1; clear cx9; have cx9 := j1.cell CX.out; clear j1)
                | (refine step_append_any (by rfl) (.tmp 65) (.tmp 71) 38 (by rfl) wy.heap.size 2 i0 (.int .i64 0) 1 8 Tryz.underlying38 hi hz0 hz1 hz2 rfl (by decide) v1 (0 + cap) ([] ++ (ss.take cap).map fun u => Value.int .i64 u) (by kernel_rfl) (R1.out) ⟨(wy.heap.size + 1), 0, none⟩ 1 1 [.int .i64 x] (by kernel_rfl) (by rfl) (World.news_of_block (cs := #[.int .i64 x]) (t := 2) (fr := (0, 0)) (NB.out)) (by simp [Value.oneCell']) (by unfold maxLen; omega) (by omega) (Below.size (J.out)) ?_; intro v2 x2 hown hg; have R2 := Lib.hid hown; have j2 : Keeps wy x2 := (J.out).grown hg (Below.size (J.out)) (fun q hq => (World.ownsRow.lt R1.out q hq).1); clear J hown hg; have J := Lib.hid j2; clear j2 cx9)
                | (refine step_append_any (by rfl) (.tmp 65) (.tmp 71) 38 (by rfl) wy.heap.size 2 i0 (.int .i64 0) 1 8 Tryz.underlying38 hi hz0 hz1 hz2 rfl (by decide) v1 (0 + cap) ([] ++ (ss.take cap).map fun u => Value.int .i64 u) (by kernel_rfl) (R1.out) ⟨wy.heap.size, 0, none⟩ 1 1 [.int .i64 x] (by kernel_rfl) (by rfl) (World.news_of_block (cs := #[.int .i64 x]) (t := 2) (fr := (0, 0)) (NB.out)) (by simp [Value.oneCell']) (by unfold maxLen; omega) (by omega) (Below.size (J.out)) ?_; intro v2 x2 hown hg; have R2 := Lib.hid hown; have j2 : Keeps wy x2 := (J.out).grown hg (Below.size (J.out)) (fun q hq => (World.ownsRow.lt R1.out q hq).1); clear J hown hg; have J := Lib.hid j2; clear j2 cx9)
                | (refine step_append_any (by rfl) (.tmp 65) (.tmp 71) 38 (by rfl) wy.heap.size 2 i0 (.int .i64 0) 1 8 Tryz.underlying38 hi hz0 hz1 hz2 rfl (by decide) v1 (0 + cap) ([] ++ (ss.take cap).map fun u => Value.int .i64 u) (by kernel_rfl) (R1.out.alloc (.cells #[.int .i64 x] 2)) ⟨x1.heap.size, 0, none⟩ 1 1 [.int .i64 x] (by kernel_rfl) (by rfl) (World.news_of_block (cs := #[.int .i64 x]) (t := 2) (fr := (0, 0)) (heap_alloc_new x1 (.cells #[.int .i64 x] 2))) (by simp [Value.oneCell']) (by unfold maxLen; omega) (by omega) (Below.size (J.out.alloc (.cells #[.int .i64 x] 2))) ?_; intro v2 x2 hown hg; have R2 := Lib.hid hown; have j2 : Keeps wy x2 := (J.out.alloc (.cells #[.int .i64 x] 2)).grown hg (Below.size (J.out.alloc (.cells #[.int .i64 x] 2))) (fun q hq => (World.ownsRow.lt R1.out q hq).1); clear J hown hg; have J := Lib.hid j2; clear j2 cx9)
                | (refine step_append_any (by rfl) (.tmp 72) (.tmp 75) 38 (by rfl) wy.heap.size 2 i0 (.int .i64 0) 1 8 Tryz.underlying38 hi hz0 hz1 hz2 rfl (by decide) v2 (0 + cap + 1) ([] ++ (ss.take cap).map (fun u => Value.int .i64 u) ++ [.int .i64 x]) (by kernel_rfl) R2.out ⟨g, 0, none⟩ 0 (0) ((ss.drop cap).map fun u => Value.int .i64 u) (by kernel_rfl) LD.out (fun q u hu => by rw [show ((ss.drop cap).map fun u => Value.int .i64 u) = [] from List.eq_nil_of_length_eq_zero (by have := LD.out; omega)] at hu; simp at hu) (strs_oneZ _) (by unfold maxLen; omega) (by omega) (Below.size J.out) ?_; intro v3 x3 hown hg; have R3 := Lib.hid hown; have j3 : Keeps wy x3 := J.out.grown hg (Below.size J.out) (fun q hq => (World.ownsRow.lt R2.out q hq).1); clear J hown hg; have J := Lib.hid j3; clear j3)
              )
              all_goals
                have JQ := Lib.hid (show Keeps w x3 ∧ ∃ ss', IntRow x3 w.heap.size v3 ss' ∧ Rise ss' ∧ (∀ u, u ∈ ss' ↔ ∃ n, n ∈ l.take (k + 1) ∧ openC l n ∧ n.txn = u) ∧ ss'.length ≤ k + 1 from ⟨HK.out.trans (KY.out.trans J.out), ss.take cap ++ [x] ++ ss.drop cap, by
                  unfold IntRow
                  have e1 : (ss.take cap ++ [x] ++ ss.drop cap).length = 0 + cap + 1 + 0 := by
                    have a1 := LT.out
                    have a2 := LD.out
                    simp only [List.length_map] at a1 a2
                    simp only [List.length_append, List.length_singleton]
                    omega
                  have e2 : ((ss.take cap ++ [x] ++ ss.drop cap).map fun u => Value.int .i64 u) = [] ++ (ss.take cap).map (fun u => Value.int .i64 u) ++ [.int .i64 x] ++ (ss.drop cap).map (fun u => Value.int .i64 u) := by
                    rw [List.map_append, List.map_append]; rfl
                  rw [e1, e2]
                  exact own_mono R3.out (HK.out.trans KY.out).size, rise_insZ HRISE.out cap (lt_takeZ HLS.out) (fun u hu => by rw [show ss.drop cap = [] from List.eq_nil_of_length_eq_zero (by have := LD.out; simp only [List.length_map] at this; omega)] at hu; simp at hu), HXE.out _ (fun u => mem_insZ _ u), by
                  have a1 := LT.out
                  have a2 := LD.out
                  have a3 := HN.out
                  simp only [List.length_map] at a1 a2
                  simp only [List.length_append, List.length_singleton]
                  omega⟩)
                clear R1 R2 R3 J
                go_wp2
                cases gn with
                | zero => omega
                | succ g2 =>
                  go_roundg g2
                  case measure => omega
                  case rel => exact ⟨k + 1, by go_num, by omega, by omega, JQ⟩
            ·
              go_wp2_with fail
              have ho : o = 0 := by
                rcases HR.out.form with ⟨e, _⟩ | ⟨g', cap', e, _⟩
                · cases e
                · injection e with e _ _
                  injection e with e
                  injection e
              subst ho
              have HBZ : Hid (IntsAt wy (some ⟨g, 0, none⟩) ss) := Lib.hid (HB.out.keeps KY.out)
              have CX : Hid (wy.cell? ⟨gx, ox + k * 9 + 1, none⟩ = some (.int .i64 x)) := Lib.hid (KY.out.cell HCX.out)
              have cx9 := CX.out
              have hgx : gx < wy.heap.size := World.block_lt_of_cell? _ _ CX.out
              have LT : Hid (((ss.take j).map fun u => Value.int .i64 u).length = j * 1) := Lib.hid (by rw [List.length_map, List.length_take, HN.out]; omega)
              have LD : Hid (((ss.drop j).map fun u => Value.int .i64 u).length = 0 * 1) := Lib.hid (by rw [List.length_map, List.length_drop, HN.out]; omega)
              have J : Hid (Keeps wy wy) := Lib.hid (Keeps.refl wy)
              obtain ⟨i0, hi, hz0, hz1, hz2⟩ := info_parts info2
              have q6 : (j : Int) ≤ (cap : Int) := by omega
              have q7 : (j : Int) ≤ (cap : Int) := by omega
              have KE1 : Hid (Keeps wy ((wy.alloc (.cells #[] 2)).drew)) := Lib.hid (((Keeps.refl wy).alloc (.cells #[] 2)).drew)
              have HE1 : ((wy.alloc (.cells #[] 2)).drew).heap[wy.heap.size]? = some (.cells #[] 2 (0, 0)) := heap_alloc_new wy (.cells #[] 2)
              have RE1 : Hid (((wy.alloc (.cells #[] 2)).drew).ownsRow wy.heap.size 2 1 (.slice (some ⟨wy.heap.size, 0, none⟩) 0 0) 0 []) := Lib.hid (row0Z HE1 (by omega))
              clear HE1
              have KE2 : Hid (Keeps wy (((wy.alloc (.cells #[] 2)).alloc (.cells #[.int .i64 x] 2)).drew)) := Lib.hid ((((Keeps.refl wy).alloc (.cells #[] 2)).alloc (.cells #[.int .i64 x] 2)).drew)
              have HE2 : (((wy.alloc (.cells #[] 2)).alloc (.cells #[.int .i64 x] 2)).drew).heap[wy.heap.size]? = some (.cells #[] 2 (0, 0)) := (((Keeps.refl (wy.alloc (.cells #[] 2))).alloc (.cells #[.int .i64 x] 2)).block _ (by simp)).trans (heap_alloc_new wy (.cells #[] 2))
              have RE2 : Hid ((((wy.alloc (.cells #[] 2)).alloc (.cells #[.int .i64 x] 2)).drew).ownsRow wy.heap.size 2 1 (.slice (some ⟨wy.heap.size, 0, none⟩) 0 0) 0 []) := Lib.hid (row0Z HE2 (by omega))
              clear HE2
              have HN2 : Hid ((((wy.alloc (.cells #[] 2)).alloc (.cells #[.int .i64 x] 2)).drew).heap[(wy.heap.size + 1)]? = some (.cells #[.int .i64 x] 2 (0, 0))) := Lib.hid (by have h := heap_alloc_new (wy.alloc (.cells #[] 2)) (.cells #[.int .i64 x] 2); rw [World.size_alloc] at h; exact h)
              have KE3 : Hid (Keeps wy (((wy.alloc (.cells #[.int .i64 x] 2)).alloc (.cells #[] 2)).drew)) := Lib.hid ((((Keeps.refl wy).alloc (.cells #[.int .i64 x] 2)).alloc (.cells #[] 2)).drew)
              have HE3 : (((wy.alloc (.cells #[.int .i64 x] 2)).alloc (.cells #[] 2)).drew).heap[(wy.heap.size + 1)]? = some (.cells #[] 2 (0, 0)) := by have h := heap_alloc_new (wy.alloc (.cells #[.int .i64 x] 2)) (.cells #[] 2); rw [World.size_alloc] at h; exact h
              have RE3 : Hid ((((wy.alloc (.cells #[.int .i64 x] 2)).alloc (.cells #[] 2)).drew).ownsRow wy.heap.size 2 1 (.slice (some ⟨(wy.heap.size + 1), 0, none⟩) 0 0) 0 []) := Lib.hid (row0Z HE3 (by omega))
              clear HE3
              have HN3 : Hid ((((wy.alloc (.cells #[.int .i64 x] 2)).alloc (.cells #[] 2)).drew).heap[wy.heap.size]? = some (.cells #[.int .i64 x] 2 (0, 0))) := Lib.hid ((((Keeps.refl (wy.alloc (.cells #[.int .i64 x] 2))).alloc (.cells #[] 2)).block _ (by simp)).trans (heap_alloc_new wy (.cells #[.int .i64 x] 2)))
              go_region_law (first
                | (refine step_append_any (by rfl) (.tmp 61) (.tmp 64) 38 (by rfl) wy.heap.size 2 i0 (.int .i64 0) 1 8 Tryz.underlying38 hi hz0 hz1 hz2 rfl (by decide) (.slice (some ⟨wy.heap.size, 0, none⟩) 0 0) 0 [] (by kernel_rfl) RE1.out ⟨g, 0, none⟩ j cap ((ss.take j).map fun u => Value.int .i64 u) (by kernel_rfl) LT.out (news_takeZ (HBZ.out.keeps KE1.out) j) (strs_oneZ _) (by unfold maxLen; omega) (by omega) (Below.size KE1.out) ?_; intro v1 x1 hown hg; have j1 : Keeps wy x1 := KE1.out.grown hg (Below.size KE1.out) (fun q hq => by simp [Value.ownBlock] at hq; omega); have R1 := Lib.hid hown; skip; clear J hown hg; have J := Lib.hid j1; clear cx9; have cx9 := j1.cell CX.out; clear j1)
                | (refine step_append_any (by rfl) (.tmp 61) (.tmp 64) 38 (by rfl) wy.heap.size 2 i0 (.int .i64 0) 1 8 Tryz.underlying38 hi hz0 hz1 hz2 rfl (by decide) (.slice (some ⟨wy.heap.size, 0, none⟩) 0 0) 0 [] (by kernel_rfl) RE2.out ⟨g, 0, none⟩ j cap ((ss.take j).map fun u => Value.int .i64 u) (by kernel_rfl) LT.out (news_takeZ (HBZ.out.keeps KE2.out) j) (strs_oneZ _) (by unfold maxLen; omega) (by omega) (Below.size KE2.out) ?_; intro v1 x1 hown hg; have j1 : Keeps wy x1 := KE2.out.grown hg (Below.size KE2.out) (fun q hq => by simp [Value.ownBlock] at hq; omega); have R1 := Lib.hid hown; have NB : Hid (x1.heap[(wy.heap.size + 1)]? = some (.cells #[.int .i64 x] 2 (0, 0))) := Lib.hid ((hg.block _ (blk_lt HN2.out) (by simp [Value.ownBlock])).trans HN2.out); clear J hown hg; have J := Lib.hid j1; clear cx9; have cx9 := j1.cell CX.out; clear j1)
                | (refine step_append_any (by rfl) (.tmp 61) (.tmp 64) 38 (by rfl) wy.heap.size 2 i0 (.int .i64 0) 1 8 Tryz.underlying38 hi hz0 hz1 hz2 rfl (by decide) (.slice (some ⟨(wy.heap.size + 1), 0, none⟩) 0 0) 0 [] (by kernel_rfl) RE3.out ⟨g, 0, none⟩ j cap ((ss.take j).map fun u => Value.int .i64 u) (by kernel_rfl) LT.out (news_takeZ (HBZ.out.keeps KE3.out) j) (strs_oneZ _) (by unfold maxLen; omega) (by omega) (Below.size KE3.out) ?_; intro v1 x1 hown hg; have j1 : Keeps wy x1 := KE3.out.grown hg (Below.size KE3.out) (fun q hq => by simp [Value.ownBlock] at hq; omega); have R1 := Lib.hid hown; have NB : Hid (x1.heap[wy.heap.size]? = some (.cells #[.int .i64 x] 2 (0, 0))) := Lib.hid ((hg.block _ (blk_lt HN3.out) (by simp [Value.ownBlock])).trans HN3.out); clear J hown hg; have J := Lib.hid j1; clear cx9; have cx9 := j1.cell CX.out; clear j1)
                | (refine step_append_any (by rfl) (.tmp 65) (.tmp 71) 38 (by rfl) wy.heap.size 2 i0 (.int .i64 0) 1 8 Tryz.underlying38 hi hz0 hz1 hz2 rfl (by decide) v1 (0 + j) ([] ++ (ss.take j).map fun u => Value.int .i64 u) (by kernel_rfl) (R1.out) ⟨(wy.heap.size + 1), 0, none⟩ 1 1 [.int .i64 x] (by kernel_rfl) (by rfl) (World.news_of_block (cs := #[.int .i64 x]) (t := 2) (fr := (0, 0)) (NB.out)) (by simp [Value.oneCell']) (by unfold maxLen; omega) (by omega) (Below.size (J.out)) ?_; intro v2 x2 hown hg; have R2 := Lib.hid hown; have j2 : Keeps wy x2 := (J.out).grown hg (Below.size (J.out)) (fun q hq => (World.ownsRow.lt R1.out q hq).1); clear J hown hg; have J := Lib.hid j2; clear j2 cx9)
                | (refine step_append_any (by rfl) (.tmp 65) (.tmp 71) 38 (by rfl) wy.heap.size 2 i0 (.int .i64 0) 1 8 Tryz.underlying38 hi hz0 hz1 hz2 rfl (by decide) v1 (0 + j) ([] ++ (ss.take j).map fun u => Value.int .i64 u) (by kernel_rfl) (R1.out) ⟨wy.heap.size, 0, none⟩ 1 1 [.int .i64 x] (by kernel_rfl) (by rfl) (World.news_of_block (cs := #[.int .i64 x]) (t := 2) (fr := (0, 0)) (NB.out)) (by simp [Value.oneCell']) (by unfold maxLen; omega) (by omega) (Below.size (J.out)) ?_; intro v2 x2 hown hg; have R2 := Lib.hid hown; have j2 : Keeps wy x2 := (J.out).grown hg (Below.size (J.out)) (fun q hq => (World.ownsRow.lt R1.out q hq).1); clear J hown hg; have J := Lib.hid j2; clear j2 cx9)
                | (refine step_append_any (by rfl) (.tmp 65) (.tmp 71) 38 (by rfl) wy.heap.size 2 i0 (.int .i64 0) 1 8 Tryz.underlying38 hi hz0 hz1 hz2 rfl (by decide) v1 (0 + j) ([] ++ (ss.take j).map fun u => Value.int .i64 u) (by kernel_rfl) (R1.out.alloc (.cells #[.int .i64 x] 2)) ⟨x1.heap.size, 0, none⟩ 1 1 [.int .i64 x] (by kernel_rfl) (by rfl) (World.news_of_block (cs := #[.int .i64 x]) (t := 2) (fr := (0, 0)) (heap_alloc_new x1 (.cells #[.int .i64 x] 2))) (by simp [Value.oneCell']) (by unfold maxLen; omega) (by omega) (Below.size (J.out.alloc (.cells #[.int .i64 x] 2))) ?_; intro v2 x2 hown hg; have R2 := Lib.hid hown; have j2 : Keeps wy x2 := (J.out.alloc (.cells #[.int .i64 x] 2)).grown hg (Below.size (J.out.alloc (.cells #[.int .i64 x] 2))) (fun q hq => (World.ownsRow.lt R1.out q hq).1); clear J hown hg; have J := Lib.hid j2; clear j2 cx9)
                | (refine step_append_any (by rfl) (.tmp 72) (.tmp 75) 38 (by rfl) wy.heap.size 2 i0 (.int .i64 0) 1 8 Tryz.underlying38 hi hz0 hz1 hz2 rfl (by decide) v2 (0 + j + 1) ([] ++ (ss.take j).map (fun u => Value.int .i64 u) ++ [.int .i64 x]) (by kernel_rfl) R2.out ⟨g, j, none⟩ 0 (cap - j) ((ss.drop j).map fun u => Value.int .i64 u) (by kernel_rfl) LD.out (by have h := news_dropZ (HBZ.out.keeps J.out) j; simpa using h) (strs_oneZ _) (by unfold maxLen; omega) (by omega) (Below.size J.out) ?_; intro v3 x3 hown hg; have R3 := Lib.hid hown; have j3 : Keeps wy x3 := J.out.grown hg (Below.size J.out) (fun q hq => (World.ownsRow.lt R2.out q hq).1); clear J hown hg; have J := Lib.hid j3; clear j3)
              )
              all_goals
                have JQ := Lib.hid (show Keeps w x3 ∧ ∃ ss', IntRow x3 w.heap.size v3 ss' ∧ Rise ss' ∧ (∀ u, u ∈ ss' ↔ ∃ n, n ∈ l.take (k + 1) ∧ openC l n ∧ n.txn = u) ∧ ss'.length ≤ k + 1 from ⟨HK.out.trans (KY.out.trans J.out), ss.take j ++ [x] ++ ss.drop j, by
                  unfold IntRow
                  have e1 : (ss.take j ++ [x] ++ ss.drop j).length = 0 + j + 1 + 0 := by
                    have a1 := LT.out
                    have a2 := LD.out
                    simp only [List.length_map] at a1 a2
                    simp only [List.length_append, List.length_singleton]
                    omega
                  have e2 : ((ss.take j ++ [x] ++ ss.drop j).map fun u => Value.int .i64 u) = [] ++ (ss.take j).map (fun u => Value.int .i64 u) ++ [.int .i64 x] ++ (ss.drop j).map (fun u => Value.int .i64 u) := by
                    rw [List.map_append, List.map_append]; rfl
                  rw [e1, e2]
                  exact own_mono R3.out (HK.out.trans KY.out).size, rise_insZ HRISE.out j (lt_takeZ HLS.out) (fun u hu => by rw [show ss.drop j = [] from List.eq_nil_of_length_eq_zero (by have := LD.out; simp only [List.length_map] at this; omega)] at hu; simp at hu), HXE.out _ (fun u => mem_insZ _ u), by
                  have a1 := LT.out
                  have a2 := LD.out
                  have a3 := HN.out
                  simp only [List.length_map] at a1 a2
                  simp only [List.length_append, List.length_singleton]
                  omega⟩)
                clear R1 R2 R3 J
                go_wp2
                cases gn with
                | zero => omega
                | succ g2 =>
                  go_roundg g2
                  case measure => omega
                  case rel => exact ⟨k + 1, by go_num, by omega, by omega, JQ⟩
    · obtain rfl : k = L := by omega
      obtain ⟨hK, ss, hR, hrise, hmem, hsk⟩ := hI.out
      rw [HTF.out] at hmem
      have HRET := Lib.hid (show ROpenRet l w (.returned u3) wo from ⟨u3, ss, rfl, hR, hrise, hmem, by rw [HL.out]; exact hsk, hK⟩)
      have f1 : decide ((k : Int) < (k : Int)) = false := by simp
      have f1' : decide (k < k) = false := by simp
      clear hI hK hR hrise hmem hsk
      go_wp2
      go_ret
      exact HRET.out
end Go.Proofs.YtfapilgmgjmfeaaGreatDoor
