/-
  Of, in full: what is not of the transaction is deleted from a copy.
-/
import Derived.Test.YtfapilgmgjmfeaaGreatDoorOfa
import Derived.Test.YtfapilgmgjmfeaaGreatDoorRfb
import Derived.Laws.IdiomCopy
import Derived.Laws.Rows
namespace Go.Proofs.YtfapilgmgjmfeaaGreatDoor
open Go.RowKit

def IdxRet (l : List Nt) (t : Int) (w : World) (e : Ending) (w' : World) : Prop :=
  ∃ i : Int, e = .returned (.int .i64 i) ∧ ((i = -1 ∧ ∀ n, n ∈ l → n.txn = t) ∨ ∃ (k : Nat) (hk : k < l.length), i = (k : Int) ∧ (l[k]'hk).txn ≠ t ∧ ∀ n, n ∈ l.take k → n.txn = t) ∧ Keeps w w'
set_option maxHeartbeats 4000000 in
set_option maxRecDepth 100000 in
theorem index_first (A : Option Addr) (c : Nat) (l : List Nt) (v : Nat) (t : Int) (w : World) (hA : NotesAt w A l) (hv : TxnAt w v t) (hlen : l.length ≤ 1000000) :
    Calls Tryz.prog 34 #[.slice A l.length c, .func (.func 47) #[] #[.pointer (some ⟨v, 0, none⟩)]] w (IdxRet l t w) := by
  have HA := Lib.hid hA
  have HV := Lib.hid hv
  have HTK := Lib.hid (fun k (hk : k < l.length) => List.take_succ_eq_append_getElem hk)
  have HTF := Lib.hid (show l.take l.length = l from List.take_length)
  have HREF := Lib.hid (fun e w' (h : IdxRet l t w e w') => h)
  obtain ⟨L, hL⟩ : ∃ L, l.length = L := ⟨_, rfl⟩
  have HL := Lib.hid hL
  rw [hL] at HTF hlen ⊢
  clear hA hv hL
  go_enter Tryz.func34, Tryz.ntmps34
  go_wp2
  go_loopg [8] (L + 1) (fun g i wr => ∃ k : Nat, i = .int .i64 (k : Int) ∧ k ≤ L ∧ L - k < g ∧ Hid (Keeps w wr ∧ ∀ n, n ∈ l.take k → n.txn = t))
  case atStart => exact ⟨0, rfl, Nat.zero_le _, by omega, Lib.hid ⟨Keeps.refl _, by simp⟩⟩
  case round =>
    obtain ⟨k, rfl, hkL, hkg, hI⟩ := hrel
    by_cases hlt : k < L
    · have hlt' : k < l.length := by rw [HL.out]; exact hlt
      obtain ⟨hK, hal⟩ := hI.out
      obtain ⟨g, o, hAe, hc⟩ := (HA.out.keeps hK) k hlt'
      subst hAe
      obtain ⟨e0, e1, e2, e3, e4, e5, e6, e7, e8⟩ := hc.nine
      have cC := Lib.hid (other_any v t (l[k]'hlt') wr (HV.out.keeps hK))
      have HNX := Lib.hid (fun (h : (l[k]'hlt').txn = t) => show ∀ n, n ∈ l.take (k + 1) → n.txn = t from fun n hn => by
        rw [List.take_succ_eq_append_getElem hlt', List.mem_append, List.mem_singleton] at hn
        rcases hn with hn | hn
        · exact hal n hn
        · rw [hn]; exact h)
      have HHIT := Lib.hid (fun (h : (l[k]'hlt').txn ≠ t) w' (kk : Keeps w w') => show IdxRet l t w (.returned (.int .i64 (k : Int))) w' from ⟨(k : Int), rfl, .inr ⟨k, hlt', rfl, h, hal⟩, kk⟩)
      generalize l[k]'hlt' = nn at *
      have f1 : decide ((k : Int) < (L : Int)) = true := by simp; omega
      have f1' : decide (k < L) = true := by simpa using hlt
      have q1 : (0 : Int) ≤ (k : Int) := by omega
      have q2 : (k : Int) < (L : Int) := by omega
      have HK := Lib.hid hK
      unfold ntC at cC
      clear hc hI hK hal
      by_cases hx : nn.txn = t
      · rw [show (nn.txn != t) = false by simp [hx]] at cC
        have HN2 := Lib.hid (HNX.out hx)
        clear hx HHIT
        go_wp2_with fail
        refine cC.out.mono ?_
        rintro e w4 ⟨rfl, k4⟩
        have K4 := Lib.hid (HK.out.trans k4)
        clear k4 e0 e1 e2 e3 e4 e5 e6 e7 e8
        go_wp2
        cases gk with
        | zero => omega
        | succ g2 =>
          go_roundg g2
          case measure => omega
          case rel => exact ⟨k + 1, by go_num, by omega, by omega, Lib.hid ⟨K4.out, HN2.out⟩⟩
      · rw [show (nn.txn != t) = true by simp [hx]] at cC
        have HH := Lib.hid (HHIT.out hx)
        clear hx HNX HHIT
        go_wp2_with fail
        refine cC.out.mono ?_
        rintro e w4 ⟨rfl, k4⟩
        have K4 := Lib.hid (HH.out _ (HK.out.trans k4))
        clear k4 e0 e1 e2 e3 e4 e5 e6 e7 e8
        go_wp2
        go_ret
        exact K4.out
    · obtain rfl : k = L := by omega
      obtain ⟨hK, hal⟩ := hI.out
      rw [HTF.out] at hal
      have HRET := Lib.hid (show IdxRet l t w (.returned (.int .i64 (-1))) wr from ⟨-1, rfl, .inl ⟨rfl, hal⟩, hK⟩)
      have f1 : decide ((k : Int) < (k : Int)) = false := by simp
      have f1' : decide (k < k) = false := by simp
      clear hI hK hal
      go_wp2
      go_ret
      exact HRET.out
/-- A block that holds notes, one after the other. -/
def NBlk (w : World) (g n : Nat) (M : List Nt) : Prop := M.length = n ∧ NotesAt w (some ⟨g, 0, none⟩) M ∧ ∃ cur : Array Value, w.heap[g]? = some (.cells cur 29 (0, 0)) ∧ n * 9 ≤ cur.size
theorem NBlk.only {w w' : World} {g n : Nat} {M : List Nt} (h : NBlk w g n M) (k : Keeps w w') : NBlk w' g n M := by
  obtain ⟨h1, h2, cur, h3, h4⟩ := h
  exact ⟨h1, h2.keeps k, cur, (k.block g (blk_lt h3)).trans h3, h4⟩
theorem TxnAt.only {X : List Nat} {w w' : World} {v : Nat} {t : Int} (h : TxnAt w v t) (k : Only X w w') (hx : v ∉ X) : TxnAt w' v t := (k.block v (blk_lt h) hx).trans h
theorem nine_at {w : World} {g n : Nat} {M : List Nt} (h : NBlk w g n M) (p : Nat) (hp : p < n) : ∃ b : Nt, w.cell? ⟨g, p * 9, none⟩ = some (.int .i64 b.kind) ∧ w.cell? ⟨g, p * 9 + 1, none⟩ = some (.int .i64 b.txn) ∧ w.cell? ⟨g, p * 9 + 2, none⟩ = some (.int .i64 b.act.kind) ∧ w.cell? ⟨g, p * 9 + 3, none⟩ = some (.string (S b.act.room)) ∧ w.cell? ⟨g, p * 9 + 4, none⟩ = some (.string (S b.act.subj)) ∧ w.cell? ⟨g, p * 9 + 5, none⟩ = some (.string (S b.act.reason)) ∧ w.cell? ⟨g, p * 9 + 6, none⟩ = some (.string (S b.act.deny)) ∧ w.cell? ⟨g, p * 9 + 7, none⟩ = some (.int .i64 b.code) ∧ w.cell? ⟨g, p * 9 + 8, none⟩ = some (.string (S b.text)) := by
  obtain ⟨g', o', hAe, hc⟩ := h.2.1 p (by rw [h.1]; exact hp)
  injection hAe with hAe
  injection hAe with z1 z2 _
  subst z1 z2
  have := hc.nine
  simp only [Nat.zero_add] at this
  exact ⟨_, this⟩
theorem only_setCells {X : List Nat} {g : Nat} (hg : g ∈ X) {a : World} : ∀ (vs : List Value) (o : Nat) (w : World), Only X a w → Only X a (w.setCells g o vs)
  | [], _, _, h => h
  | v :: r, o, w, h => only_setCells hg r (o + 1) _ (h.set ⟨g, o, none⟩ (.inl hg) v)
def z9 : Array Value := #[.int .i64 0, .int .i64 0, .int .i64 0, .string ⟨#[]⟩, .string ⟨#[]⟩, .string ⟨#[]⟩, .string ⟨#[]⟩, .int .i64 0, .string ⟨#[]⟩]
theorem zeros_one (n : Nat) : ∀ v ∈ (Builtin.zeroCells z9 n).toList, v.oneCell' = true := by
  intro v hv
  unfold Builtin.zeroCells at hv
  rw [Array.toList_map, List.mem_map] at hv
  obtain ⟨i, _, rfl⟩ := hv
  have h : ∀ j, j < 9 → (z9[j]!).oneCell' = true := by
    intro j hj
    match j, hj with
    | 0, _ => rfl
    | 1, _ => rfl
    | 2, _ => rfl
    | 3, _ => rfl
    | 4, _ => rfl
    | 5, _ => rfl
    | 6, _ => rfl
    | 7, _ => rfl
    | 8, _ => rfl
  exact h _ (Nat.mod_lt _ (by decide))
theorem zeros_len (n : Nat) : (Builtin.zeroCells z9 n).toList.length = n * 9 := by
  unfold Builtin.zeroCells
  simp [z9]
theorem clear_notes (w : World) (g p n c : Nat) (cur : Array Value) (hcur : w.heap[g]? = some (.cells cur 29 (0, 0))) (hsz : p * 9 + n * 9 ≤ cur.size) (hn : 0 < n) :
    (Builtin.clear_ #[22] 0 #[.slice (some ⟨g, p * 9, none⟩) n c]).run Tryz.prog w = .ok (.tuple #[]) (w.setCells g (p * 9) (Builtin.zeroCells z9 n).toList) := by
  have hst := run_storeCells_cells (P := Tryz.prog) g (p * 9) (Builtin.zeroCells z9 n).toList 0 w (fun j hj => by
      rw [zeros_len] at hj
      rw [Nat.add_zero, Lib.cell_of_heap hcur, Array.getElem?_eq_getElem (by omega)]; rfl) (fun j hj => Lib.frozen_of_heap hcur _) (zeros_one n)
  rw [Nat.add_zero] at hst
  obtain ⟨m, rfl⟩ : ∃ m, n = m + 1 := ⟨n - 1, by omega⟩
  have hv := Tryz.zeroValue29
  have hz : (Value.agg z9).cells = z9 := rfl
  unfold z9 at hst hz ⊢
  simp [Builtin.clear_, run_underlying Tryz.underlying22, hv, hz, hst]
theorem cells_notes {w : World} {g : Nat} {M : List Nt} {p : Nat} (h : NotesAt w (some ⟨g, 0, none⟩) M) (zs : List Value) : NotesAt (w.setCells g (p * 9) zs) (some ⟨g, 0, none⟩) (M.take p) := fun i hi => by
  have hi2 : i < M.length := by rw [List.length_take] at hi; omega
  have hip : i < p := by rw [List.length_take] at hi; omega
  obtain ⟨g', o', e, hc⟩ := h i hi2
  injection e with e
  injection e with e1 e2 _
  subst e1 e2
  refine ⟨g, 0, rfl, fun j v hj => ?_⟩
  rw [List.getElem_take] at hj
  have hj9 : j < 9 := by
    have := (List.getElem?_eq_some_iff.1 hj).1
    simpa [ntC] using this
  rw [World.cell?_setCells_out g zs (p * 9) w _ (fun _ _ => .inl (by show 0 + i * 9 + j < p * 9; omega))]
  exact hc j v hj
theorem notes_c {w : World} {g : Nat} {M : List Nt} (h : NotesAt w (some ⟨g, 0, none⟩) M) (i : Nat) (hi : i < M.length) : CellsAt w g (0 + i * 9) (ntC (M[i]'hi)).toList := by
  obtain ⟨g', o', e, hc⟩ := h i hi
  injection e with e
  injection e with e1 e2 _
  subst e1 e2
  exact hc
theorem store_note {w : World} {g n : Nat} {M : List Nt} (h : NBlk w g n M) (p : Nat) (hp : p < n) (nn : Nt) : NBlk (w.setCells g (p * 9) (ntC nn).toList) g n (M.set p nn) := by
  obtain ⟨h1, h2, cur, h3, h4⟩ := h
  have hlen : (ntC nn).toList.length = 9 := rfl
  have hsome : ∀ j, j < (ntC nn).toList.length → (w.cell? ⟨g, p * 9 + j, none⟩).isSome = true := fun j hj => by
    rw [hlen] at hj
    rw [Lib.cell_of_heap h3, Array.getElem?_eq_getElem (by omega)]; rfl
  refine ⟨by rw [List.length_set]; exact h1, fun i hi => ?_, ?_⟩
  · rw [List.length_set] at hi
    refine ⟨g, 0, rfl, fun j v hj => ?_⟩
    have hj9 : j < 9 := by
      have := (List.getElem?_eq_some_iff.1 hj).1
      simpa [ntC] using this
    by_cases hip : p = i
    · subst hip
      rw [List.getElem_set_self] at hj
      rw [Nat.zero_add, World.cell?_setCells_in g _ (p * 9) w hsome j (by rw [hlen]; exact hj9)]
      rw [List.getElem?_eq_getElem (by rw [hlen]; exact hj9)] at hj
      exact hj
    · rw [List.getElem_set_ne hip] at hj
      have hc := notes_c h2 i hi
      exact (World.cell?_setCells_out g (ntC nn).toList (p * 9) w ⟨g, 0 + i * 9 + j, none⟩ (fun _ _ => by
        rw [hlen]
        show 0 + i * 9 + j < p * 9 ∨ p * 9 + 9 ≤ 0 + i * 9 + j
        omega)).trans (hc j v hj)
  · have key : ∀ (vs : List Value) (o : Nat) (w : World) (cur : Array Value), w.heap[g]? = some (.cells cur 29 (0, 0)) → ∃ cur', (w.setCells g o vs).heap[g]? = some (.cells cur' 29 (0, 0)) ∧ cur'.size = cur.size := by
      intro vs
      induction vs with
      | nil => intro o w cur h; exact ⟨cur, h, rfl⟩
      | cons v r ih =>
        intro o w cur h
        obtain ⟨c2, h5, h6⟩ := ih (o + 1) (w.setCell ⟨g, o, none⟩ v) _ (heap_setCell_same w g o cur 29 v h)
        exact ⟨c2, h5, by rw [h6]; simp⟩
    obtain ⟨c2, h5, h6⟩ := key (ntC nn).toList (p * 9) w cur h3
    exact ⟨c2, h5, by omega⟩
set_option maxHeartbeats 8000000 in
set_option maxRecDepth 100000 in
theorem deln_any (g cap : Nat) (l : List Nt) (v : Nat) (t : Int) (w : World) (hB : NBlk w g l.length l) (hv : TxnAt w v t) (hvg : v ≠ g) (hlen : l.length ≤ 1000000) (hcap : l.length ≤ cap) :
    Calls Tryz.prog 45 #[.slice (some ⟨g, 0, none⟩) l.length cap, .func (.func 47) #[] #[.pointer (some ⟨v, 0, none⟩)]] w (fun e w' => e = .returned (.slice (some ⟨g, 0, none⟩) (ofL l t).length cap) ∧ NotesAt w' (some ⟨g, 0, none⟩) (ofL l t) ∧ Only [g] w w') := by
  have HB := Lib.hid hB
  have HV := Lib.hid hv
  have cI := Lib.hid (index_first (some ⟨g, 0, none⟩) cap l v t w hB.2.1 hv hlen)
  have HQ := Lib.hid (fun k hk => ofL_take l t k hk)
  have HTF := Lib.hid (show ofL (l.take l.length) t = ofL l t by rw [List.take_length])
  have HALL := Lib.hid (fun (h : ∀ n, n ∈ l → n.txn = t) => show ofL l t = l from List.filter_eq_self.2 fun n hn => by simpa using h n hn)
  have HPRE := Lib.hid (fun (k : Nat) (hk : k < l.length) (h1 : (l[k]'hk).txn ≠ t) (h2 : ∀ n, n ∈ l.take k → n.txn = t) => show ofL (l.take (k + 1)) t = l.take k by
    rw [ofL_take l t k hk, if_neg (by simpa using h1)]
    exact List.filter_eq_self.2 fun n hn => by simpa using h2 n hn)
  generalize ofL l t = res at *
  obtain ⟨L, hL⟩ : ∃ L, l.length = L := ⟨_, rfl⟩
  have HL := Lib.hid hL
  rw [hL] at HTF hlen hcap cI ⊢
  rw [hL] at HB
  clear hB hv hL
  go_enter Tryz.func45, Tryz.ntmps45
  go_wp2_with fail
  refine cI.out.mono ?_
  rintro e w1 ⟨i, rfl, hcase, k1⟩
  have HB1 := Lib.hid (HB.out.only k1)
  have HV1 := Lib.hid (HV.out.keeps k1)
  have HK1 := Lib.hid (show Only [g] w w1 from k1.toOnly _)
  clear k1 cI
  rcases hcase with ⟨rfl, hall⟩ | ⟨k, hk, rfl, hne, hpre⟩
  · have hr := HALL.out hall
    subst hr
    have HFIN := Lib.hid (show NotesAt w1 (some ⟨g, 0, none⟩) res ∧ Only [g] w w1 from ⟨HB1.out.2.1, HK1.out⟩)
    have HLE := HL
    go_wp2
    go_ret
    exact ⟨by (rw [HLE.out]) <;> kernel_rfl, HFIN.out⟩
  have hk' : k < L := by rw [HL.out] at hk; exact hk
  have HP := Lib.hid (HPRE.out k hk hne hpre)
  clear hne hpre HPRE HALL
  have kn : ((k : Int) == -1) = false := by simp
  go_wp2
  go_loopg [5, 6] (L + 1) (fun gg a b wr => ∃ (p q : Nat) (M : List Nt), a = .int .i64 (p : Int) ∧ b = .int .i64 (q : Int) ∧ p < q ∧ q ≤ L ∧ L - q < gg ∧ Hid (NBlk wr g L M ∧ M.take p = ofL (l.take q) t ∧ M.drop q = l.drop q ∧ Only [g] w wr))
  case atStart => exact ⟨k, k + 1, l, rfl, by go_num, by omega, by omega, by omega, Lib.hid ⟨HB1.out, HP.out.symm, rfl, HK1.out⟩⟩
  case round =>
    obtain ⟨p, q, M, rfl, rfl, hpq, hqL, hqg, hI⟩ := hrel
    by_cases hlt : q < L
    · have hlt' : q < l.length := by rw [HL.out]; exact hlt
      obtain ⟨hBk, htk, hdr, hO⟩ := hI.out
      obtain ⟨hML, hMN, cur, hcur, hsz⟩ := hBk
      have hqM : q < M.length := by omega
      have hMq : M[q]'hqM = l[q]'hlt' := by
        have h1 := List.drop_eq_getElem_cons hqM
        have h2 := List.drop_eq_getElem_cons hlt'
        rw [hdr, h2] at h1
        injection h1 with h1 _
        exact h1.symm
      obtain ⟨g', o', hAe, hc⟩ := hMN q hqM
      injection hAe with hAe
      injection hAe with z1 z2 _
      subst z1 z2
      rw [hMq] at hc
      have hn9 := hc.nine
      simp only [Nat.zero_add] at hn9
      obtain ⟨e0, e1, e2, e3, e4, e5, e6, e7, e8⟩ := hn9
      have HQ2 := Lib.hid (HQ.out q hlt')
      generalize l[q]'hlt' = nn at *
      have HBK := Lib.hid (show NBlk wr g L M from ⟨hML, hMN, cur, hcur, hsz⟩)
      have HTK := Lib.hid htk
      have HDR := Lib.hid hdr
      have HO := Lib.hid hO
      have f1 : decide ((q : Int) < (L : Int)) = true := by simp; omega
      have f1' : decide (q < L) = true := by simpa using hlt
      have q1 : (0 : Int) ≤ (q : Int) := by omega
      have q2 : (q : Int) < (L : Int) := by omega
      have q3 : (0 : Int) ≤ (p : Int) := by omega
      have q4 : (p : Int) < (L : Int) := by omega
      have hlg : g < wr.heap.size := blk_lt hcur
      have cC := Lib.hid (other_any v t nn (wr.alloc (.cells (ntC nn) 29)) (((HV.out.only HO.out (by simpa using hvg))).keeps ((Keeps.refl wr).alloc _)))
      have KA := Lib.hid ((Keeps.refl wr).alloc (.cells (ntC nn) 29))
      have NB := Lib.hid (NtB.new wr nn)
      unfold ntC at cC KA NB
      clear hI hML hMN hcur hsz hqM hMq hc htk hdr hO
      go_wp2_with fail
      refine cC.out.mono ?_
      rintro e y ⟨rfl, ky⟩
      have KY := Lib.hid (KA.out.trans ky)
      have BY := Lib.hid (HBK.out.only KY.out)
      have NY : Hid (NtB y wr.heap.size nn) := Lib.hid ((ky.block _ (blk_lt NB.out)).trans NB.out)
      obtain ⟨d0, d1, d2, d3, d4, d5, d6, d7, d8⟩ := NY.out.cells
      clear ky e0 e1 e2 e3 e4 e5 e6 e7 e8 cC KA NB
      by_cases hx : nn.txn = t
      · rw [show (nn.txn != t) = false by simp [hx]]
        have hq := HQ2.out
        rw [if_pos (by simpa using hx)] at hq
        clear hx
        obtain ⟨bb, c0, c1, c2, c3, c4, c5, c6, c7, c8⟩ := nine_at BY.out p (by omega)
        obtain ⟨cur, hcur, hsz⟩ := BY.out.2.2
        have g0 := fun j => Lib.frozen_of_heap hcur j
        have HW9 := Lib.hid (show NBlk (y.setCells g (p * 9) (ntC nn).toList) g L (M.set p nn) from store_note BY.out p (by omega) nn)
        have HO9 := Lib.hid (show Only [g] w (y.setCells g (p * 9) (ntC nn).toList) from only_setCells (by simp) _ _ _ (HO.out.keeps KY.out))
        have HT9 := Lib.hid (show (M.set p nn).take (p + 1) = ofL (l.take (q + 1)) t by
          have hML := BY.out.1
          rw [hq, ← HTK.out, List.take_succ_eq_append_getElem (by rw [List.length_set]; omega), List.getElem_set_self, List.take_set_of_le (Nat.le_refl _)])
        have HD9 := Lib.hid (show (M.set p nn).drop (q + 1) = l.drop (q + 1) by
          rw [List.drop_set_of_lt (by omega), ← List.drop_drop, HDR.out, List.drop_drop])
        clear hq
        go_wp2
        cases gk with
        | zero => omega
        | succ g2 =>
          go_roundg g2
          case measure => omega
          case rel => exact ⟨p + 1, q + 1, M.set p nn, by go_num, by go_num, by omega, by omega, by omega, Lib.hid ⟨HW9.out, HT9.out, HD9.out, HO9.out⟩⟩
      · rw [show (nn.txn != t) = true by simp [hx]]
        have hq := HQ2.out
        rw [if_neg (by simpa using hx)] at hq
        have HFN := Lib.hid (show NBlk y g L M ∧ M.take p = ofL (l.take (q + 1)) t ∧ M.drop (q + 1) = l.drop (q + 1) ∧ Only [g] w y from ⟨BY.out, by rw [hq]; exact HTK.out, by rw [← List.drop_drop, HDR.out, List.drop_drop], HO.out.keeps KY.out⟩)
        clear hx hq
        go_wp2
        cases gk with
        | zero => omega
        | succ g2 =>
          go_roundg g2
          case measure => omega
          case rel => exact ⟨p, q + 1, M, rfl, by go_num, by omega, by omega, by omega, HFN⟩
    · obtain rfl : q = L := by omega
      obtain ⟨hBk, htk, hdr, hO⟩ := hI.out
      rw [HTF.out] at htk
      have f1 : decide ((q : Int) < (q : Int)) = false := by simp
      have f1' : decide (q < q) = false := by simp
      have q3 : (0 : Int) ≤ (p : Int) := by omega
      have q4 : (p : Int) ≤ (q : Int) := by omega
      have q5 : (p : Int) ≤ (cap : Int) := by omega
      have q6 : ¬ cap = p := by omega
      obtain ⟨cur, hcur, hsz⟩ := hBk.2.2
      have hcl := clear_notes wr g p (q - p) (cap - p) cur hcur (by omega) (by omega)
      have HFN := Lib.hid (show NotesAt (wr.setCells g (p * 9) (Builtin.zeroCells z9 (q - p)).toList) (some ⟨g, 0, none⟩) res ∧ Only [g] w (wr.setCells g (p * 9) (Builtin.zeroCells z9 (q - p)).toList) from ⟨by rw [← htk]; exact cells_notes hBk.2.1 _, only_setCells (by simp) _ _ _ hO⟩)
      have HRL : Hid (res.length = p) := Lib.hid (by rw [← htk, List.length_take, hBk.1]; omega)
      generalize wr.setCells g (p * 9) (Builtin.zeroCells z9 (q - p)).toList = wz at *
      clear hI hBk htk hdr hO hcur
      go_wp2
      go_ret
      exact ⟨by rw [HRL.out]; rfl, HFN.out⟩
end Go.Proofs.YtfapilgmgjmfeaaGreatDoor
