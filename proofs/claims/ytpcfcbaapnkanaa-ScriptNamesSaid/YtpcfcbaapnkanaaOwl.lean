/-
  The law's own, walked.
-/
import Derived.Test.YtpcfcbaapnkanaaOw
namespace Go.Proofs.Ytpcfcbaapnkanaa
open Go.RowKit

theorem off_row {w : World} {B e s n q t : Nat} {v : Value} {xs : List Value} {cs : Array Value} (h : w.ownsRow B e s v n xs) (hg : Blk w q cs t) (ht : t ≠ e) : v.ownBlock ≠ some q := fun e0 => by
  rcases h.2 with ⟨e2, _⟩ | ⟨g1, cap1, cur1, e2, _, hg1, _⟩
  · rw [e2] at e0; cases e0
  · rw [e2] at e0
    injection e0 with e0
    have e3 : g1 = q := e0
    subst e3
    unfold Blk at hg
    rw [hg] at hg1
    injection hg1 with hg1
    injection hg1 with _ h31 _
    exact ht h31
theorem ownsRow_mono {w : World} {B B2 e s n : Nat} {v : Value} {xs : List Value} (h : w.ownsRow B e s v n xs) (hb : B2 ≤ B) : w.ownsRow B2 e s v n xs :=
  ⟨h.1, h.2.imp id (fun ⟨g, cap, cur, e, hB, r⟩ => ⟨g, cap, cur, e, Nat.le_trans hb hB, r⟩)⟩
/-- What own answers. -/
def OwnRet (bot : List UInt8) (q : Int) (l : List Ms) (w : World) (e : Ending) (w' : World) : Prop :=
  ∃ A c l', e = .returned (.agg (scC bot q A (List.length l') c)) ∧ steps l' = steps l ∧ MsRow w' w.heap.size (.slice A l'.length c) l' ∧ (∀ m, m ∈ l' → MsOwn w' w.heap.size m) ∧ Keeps w w'

set_option maxHeartbeats 8000000 in
set_option maxRecDepth 100000 in
theorem own_any (bot : List UInt8) (q : Int) (A : Option Addr) (c : Nat) (l : List Ms) (w : World) (hO : Opened w bot A l c) (hlen : l.length ≤ 1000000) (hcl : ∀ m, m ∈ l → m.s.cuts.length ≤ 1000000) :
    Calls Try.prog 16 #[.agg (scC bot q A l.length c)] w (OwnRet bot q l w) := by
  have K0 := Lib.hid (((Keeps.refl w).alloc (.cells (scC bot q A l.length c) 25)).alloc (.cells #[.string ⟨#[]⟩, .int .i64 0, .slice none 0 0] 25))
  have X0 := Lib.hid ((Blk.new w (scC bot q A l.length c) 25).alloc (.cells #[.string ⟨#[]⟩, .int .i64 0, .slice none 0 0] 25))
  have R0 := Lib.hid (show Blk ((w.alloc (.cells (scC bot q A l.length c) 25)).alloc (.cells #[.string ⟨#[]⟩, .int .i64 0, .slice none 0 0] 25)) (w.heap.size + 1) #[.string ⟨#[]⟩, .int .i64 0, .slice none 0 0] 25 from by
    have := Blk.new (w.alloc (.cells (scC bot q A l.length c) 25)) #[.string ⟨#[]⟩, .int .i64 0, .slice none 0 0] 25
    have e : (w.alloc (.cells (scC bot q A l.length c) 25)).heap.size = w.heap.size + 1 := by simp
    rw [e] at this
    exact this)
  have cS := Lib.hid (ownS_any A c l _ (hO.at_.keeps K0.out) hlen hO.aok)
  have HA := Lib.hid hO.at_
  have HAO := Lib.hid hO.maok
  have HCL := Lib.hid hcl
  have hsz0 : ((w.alloc (.cells (scC bot q A l.length c) 25)).alloc (.cells #[.string ⟨#[]⟩, .int .i64 0, .slice none 0 0] 25)).heap.size = w.heap.size + 1 + 1 := by simp
  clear hO hcl
  generalize hW : (w.alloc (.cells (scC bot q A l.length c) 25)).alloc (.cells #[.string ⟨#[]⟩, .int .i64 0, .slice none 0 0] 25) = W at *
  have HW := Lib.hid hW
  unfold scC at hW X0 ⊢
  generalize hL : l.length = L at *
  have HL := Lib.hid hL
  clear hL
  obtain ⟨t0, t1, t2, z0, z1, z2⟩ := X0.out.three
  have HSZ := Lib.hid hsz0
  clear hsz0
  go_enter Try.func16, Try.ntmps16
  go_wp2_with fail
  clear hW
  refine cS.out.mono ?_
  rintro e w3 ⟨v0, rfl, hrow, k3⟩
  have X3 := Lib.hid (X0.out.keeps k3)
  have R3 := Lib.hid (R0.out.keeps k3)
  have K3 := Lib.hid (K0.out.trans k3)
  clear t0 t1 t2 z0 z1 z2 cS k3
  obtain ⟨t0, t1, t2, z0, z1, z2⟩ := X3.out.three
  obtain ⟨A0, c0, rfl, -⟩ := SRow.rows msC_size hrow
  rw [HL.out]
  have X4 := Lib.hid (X3.out.set32 (.slice A0 L c0))
  have R4 := Lib.hid (R3.out.far (r := w.heap.size) (by omega) 2 (.slice A0 L c0))
  have K4 := Lib.hid (Only.toKeeps K3.out (Only.set1 w.heap.size 2 w3 (.slice A0 L c0)) (Nat.le_refl _))
  have HR4 := Lib.hid ((Only.set1 w.heap.size 2 w3 (.slice A0 L c0)).row hrow (by rw [HSZ.out]; omega))
  rw [HL.out] at HR4
  clear hrow
  by_cases hz : L = 0
  · subst hz
    have hl0 : l = [] := List.eq_nil_of_length_eq_zero HL.out
    have X5 := Lib.hid (X4.out.three)
    obtain ⟨u0, u1, u2, -, -, -⟩ := X5.out
    obtain ⟨r0, r1, r2, y0, y1, y2⟩ := R4.out.three
    go_wp2
    go_loopg [3] 1 (fun g i wr => i = .int .i64 0 ∧ 0 < g ∧ wr = w3.setCell ⟨w.heap.size, 2, none⟩ (.slice A0 0 c0))
    case atStart => exact ⟨rfl, by omega, rfl⟩
    case round =>
      obtain ⟨rfl, hg0, rfl⟩ := hrel
      go_wp2
      obtain ⟨s0, s1, s2, -, -, -⟩ := (R4.out.sets3 (.string (S bot)) (.int .i64 q) (.slice A0 0 c0)).three
      refine bodyPost_ret (v := .agg (scC bot q A0 0 c0)) (by simp [results, Try.results16, go_sem, scC, s0, s1, s2]) rfl ⟨A0, c0, [], rfl, by rw [hl0], ?_, fun m hm => by simp at hm, Only.toKeeps K4.out (Only.sets3 (w.heap.size + 1) _ _ _ _) (by omega)⟩
      have h9 := (Only.sets3 (w.heap.size + 1) (w3.setCell ⟨w.heap.size, 2, none⟩ (.slice A0 0 c0)) (.string (S bot)) (.int .i64 q) (.slice A0 0 c0)).row_ne HR4.out (off_row HR4.out R4.out (by decide))
      rw [hl0] at h9
      exact ownsRow_mono h9 (by have := HSZ.out; omega)
  · obtain ⟨g, rfl⟩ : ∃ g, A0 = some ⟨g, 0, none⟩ := by
      rcases HR4.out.2 with ⟨_, h⟩ | ⟨g, cap, cur, e, _⟩
      · exact absurd h hz
      · injection e with e _ _; exact ⟨g, e⟩
    have INV : Hid (OwnInv w bot q g c0 l 0 (w3.setCell ⟨w.heap.size, 2, none⟩ (.slice (some ⟨g, 0, none⟩) L c0))) := Lib.hid ⟨K4.out, by rw [HL.out]; exact X4.out, R4.out, l, rfl, by
      rw [HL.out]
      unfold MsRow SRow
      rw [HL.out]
      exact ownsRow_mono HR4.out (by have := HSZ.out; omega), fun i hi h => absurd h (Nat.not_lt_zero i), fun i _ => rfl⟩
    have X5 := Lib.hid (X4.out.three)
    obtain ⟨u0, u1, u2, -, -, -⟩ := X5.out
    go_wp2
    clear u0 u1 u2 t0 t1 t2 z0 z1 z2
    go_loopg [3] (L + 1) (fun gg i wr => ∃ k : Nat, i = .int .i64 (k : Int) ∧ k ≤ L ∧ L - k < gg ∧ Hid (OwnInv w bot q g c0 l k wr))
    case atStart => exact ⟨0, rfl, Nat.zero_le _, by omega, INV⟩
    case round =>
      obtain ⟨k, rfl, hkL, hkg, hI⟩ := hrel
      have hbox := hI.out.box
      rw [HL.out] at hbox
      obtain ⟨b0, b1, b2, -, -, -⟩ := hbox.three
      by_cases hlt : k < L
      · have hlt' : k < l.length := by rw [HL.out]; exact hlt
        obtain ⟨lk, e1, hr, -, hs⟩ := hI.out.row
        have hll : lk.length = l.length := by have := congrArg List.length e1; simpa [steps] using this
        have hkl : k < lk.length := by omega
        have hel : lk[k]'hkl = l[k]'hlt' := by
          have := hs k (Nat.le_refl k)
          rw [List.getElem?_eq_getElem hkl, List.getElem?_eq_getElem hlt'] at this
          injection this
        obtain ⟨cur, hcur, -⟩ := hr.blk
        have hcell : wr.cell? ⟨g, k * 7 + 6, none⟩ = some (.slice (l[k]'hlt').A (l[k]'hlt').s.cuts.length (l[k]'hlt').c) := by
          obtain ⟨A2, c2, e2, h2⟩ := SRow.rows msC_size hr
          injection e2 with e2 _ _
          obtain ⟨g2, o2, e3, h3⟩ := h2 k hkl
          rw [← e2] at e3
          injection e3 with e3
          injection e3 with e4 e5
          subst e4 e5
          have := h3 6 _ rfl
          rw [hel] at this
          simpa using this
        have hfz : wr.frozen? ⟨g, k * 7 + 6, none⟩ = false := hcur.frozen _
        have cO := Lib.hid (ownI_any (l[k]'hlt').A (l[k]'hlt').c (l[k]'hlt').s.cuts wr.drew (CutsAt.keeps ((HA.out k hlt').2) hI.out.keeps.drew) (HCL.out _ (List.getElem_mem hlt')) (HAO.out _ (List.getElem_mem hlt')))
        have HNX := Lib.hid (fun A' c' n' B5 w5 => hI.out.next (w5 := w5) hlt' (A' := A') (c' := c') (n := n') (B5 := B5))
        have HKR := Lib.hid hI.out.keeps
        clear e1 hr hs hll hkl hel hcur hI hbox
        generalize (l[k]'hlt').s.cuts = cs at *
        generalize (l[k]'hlt').A = mA at *
        generalize (l[k]'hlt').c = mc at *
        generalize hnc : cs.length = nc at *
        have HNC := Lib.hid hnc
        clear hnc
        have f1' : decide (k < L) = true := by simpa using hlt
        have f1 : decide ((k : Int) < (L : Int)) = true := by simp; omega
        have p1 : (0 : Int) ≤ (k : Int) := by omega
        have p2 : (k : Int) < (L : Int) := by omega
        have KD := Lib.hid ((Keeps.refl wr).drew)
        go_wp2_with fail
        go_region_with (go_at_call 35; refine cO.out.mono ?_; rintro e w5 ⟨v5, rfl, hrow5, k5⟩; obtain ⟨A5, c5, rfl, -⟩ := CutRow.cuts hrow5; rw [HNC.out] at hrow5 ⊢; have K5 := Lib.hid (KD.out.trans k5); have HR5 := Lib.hid hrow5; have x2 := k5.cell (show wr.drew.cell? _ = _ from b2); have x6 := k5.cell (show wr.drew.cell? _ = _ from hcell); have xf := (Below.frozen k5 (World.block_lt_of_cell? _ _ (show wr.drew.cell? _ = _ from hcell))).trans (show wr.drew.frozen? _ = _ from hfz); clear k5 hrow5)
        all_goals
          have NX := Lib.hid (HNX.out A5 c5 nc _ w5 K5.out HKR.out.size rfl HR5.out)
          clear x2 x6 xf b0 b1 b2 hcell hfz
          go_wp2
          cases gk with
          | zero => omega
          | succ g2 =>
            go_roundg g2
            case measure => omega
            case rel => exact ⟨k + 1, by go_num, by omega, by omega, NX⟩
      · obtain ⟨lk, e1, hr, ho, -⟩ := hI.out.row
        have hll : lk.length = l.length := by have := congrArg List.length e1; simpa [steps] using this
        have R6 := Lib.hid hI.out.res
        have K6 := Lib.hid hI.out.keeps
        have HE1 := Lib.hid e1
        have HRw := Lib.hid hr
        have HLL := Lib.hid hll
        have HMo : Hid (∀ m, m ∈ lk → MsOwn wr w.heap.size m) := Lib.hid (fun m hm => by
          obtain ⟨i, hi, rfl⟩ := List.getElem_of_mem hm
          exact ho i hi (by rw [hll, HL.out] at hi; omega))
        obtain ⟨r0, r1, r2, y0, y1, y2⟩ := R6.out.three
        have f1' : decide (k < L) = false := by simpa using hlt
        have f1 : decide ((k : Int) < (L : Int)) = false := by simp; omega
        clear hI hbox e1 hr ho hll
        go_wp2
        obtain ⟨s0, s1, s2, -, -, -⟩ := (R6.out.sets3 (.string (S bot)) (.int .i64 q) (.slice (some ⟨g, 0, none⟩) L c0)).three
        refine bodyPost_ret (v := .agg #[.string (S bot), .int .i64 q, .slice (some ⟨g, 0, none⟩) L c0]) (by simp [results, Try.results16, go_sem, s0, s1, s2]) rfl ⟨some ⟨g, 0, none⟩, c0, lk, ?_, HE1.out, ?_, fun m hm => ?_, Only.toKeeps K6.out (Only.sets3 (w.heap.size + 1) _ _ _ _) (by omega)⟩
        · unfold scC
          rw [HLL.out, HL.out]
        · rw [HLL.out]
          exact (Only.sets3 (w.heap.size + 1) wr (.string (S bot)) (.int .i64 q) (.slice (some ⟨g, 0, none⟩) L c0)).row_ne HRw.out (off_row HRw.out R6.out (by decide))
        · exact (Only.sets3 (w.heap.size + 1) wr (.string (S bot)) (.int .i64 q) (.slice (some ⟨g, 0, none⟩) L c0)).row_ne (HMo.out m hm) (off_row (HMo.out m hm) R6.out (by decide))
end Go.Proofs.Ytpcfcbaapnkanaa
