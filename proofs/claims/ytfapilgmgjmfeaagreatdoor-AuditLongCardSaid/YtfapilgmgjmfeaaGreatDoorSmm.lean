/-
  The small functions of the laws: note, LightAction, Pick, Same.
-/
import Derived.Test.YtfapilgmgjmfeaaGreatDoorSml
import Derived.Laws.Rows
namespace Go.Proofs.YtfapilgmgjmfeaaGreatDoor
open Go.RowKit

theorem ret_note {fn : Func} {p : Tmp} {R : Ending → World → Prop} {a : Go.Act} {w : World} (g : Nat) (cs : Array Value) (hf : fn.results = #[.cell p 29]) (hp : a.tmps.getD p undef = .pointer (some ⟨g, 0, none⟩))
    (hg : w.heap[g]? = some (.cells cs 29 (0, 0))) (hc : cs.size = 9) (hd : a.defers = []) (hR : R (.returned (.agg cs)) w) : bodyPost Tryz.prog fn R .ret a w := by
  refine bodyPost_ret (v := .agg cs) ?_ hd hR
  exact results_cell_row hf a.tmps w g 29 cs (0, 0) _ hp hg Tryz.underlying29 rfl (by rw [hc]; kernel_rfl)
def actL : Act := ⟨1, [33, 114, 58, 120], [64, 97, 58, 98], [], []⟩
def noteL (k t : Int) : Nt := ⟨k, t, actL, 0, []⟩
set_option maxHeartbeats 1000000 in
theorem note_any (k t : Int) (w : World) : Calls Tryz.prog 25 #[.int .i64 k, .int .i64 t] w (Ret (.agg (ntC (noteL k t))) w) := by
  have hg := Lib.hid (heap_alloc_new w (.cells (ntC (noteL k t)) 29))
  unfold noteL actL ntC at hg
  unfold noteL actL ntC
  simp only [S_nil] at *
  go_enter Tryz.func25, Tryz.ntmps25
  go_wp2
  (try simp only [Exit.inBlock, Exit.then])
  refine ret_note w.heap.size _ rfl rfl hg.out rfl rfl ⟨rfl, (Keeps.refl w).alloc _⟩
theorem tmod_cases (c m : Int) (hm : 1 ≤ m) : (c.tmod m = c % m ∧ 0 ≤ c.tmod m) ∨ (c.tmod m = c % m - m ∧ c.tmod m < 0) := by
  have h0 := Int.emod_nonneg c (show m ≠ 0 by omega)
  have h1 := Int.emod_lt_of_pos c (show 0 < m by omega)
  have h := Int.tmod_eq_emod (a := c) (b := m)
  by_cases hc : 0 ≤ c ∨ m ∣ c
  · rw [if_pos hc] at h; left; omega
  · rw [if_neg hc] at h; right; omega

set_option maxHeartbeats 1000000 in
theorem pick_any (c m : Int) (w : World) (hm : 1 ≤ m) (hm2 : m ≤ 1000000) : Calls Tryz.prog 24 #[.int .i64 c, .int .i64 m] w (fun e w' => e = .returned (.int .i64 (c % m)) ∧ w' = w) := by
  have h0 := Int.emod_nonneg c (show m ≠ 0 by omega)
  have h1 := Int.emod_lt_of_pos c (show 0 < m by omega)
  have f1 : decide (m < 1) = false := by simp; omega
  have f2 : (m == 0) = false := by simp; omega
  rcases tmod_cases c m hm with ⟨e, hz⟩ | ⟨e, hz⟩
  · generalize c % m = r at *
    clear hz
    go_enter Tryz.func24, Tryz.ntmps24
    go_wp2
    go_ret
    exact ⟨rfl, rfl⟩
  · generalize c % m = r at *
    rw [e] at hz
    obtain ⟨t, rfl⟩ : ∃ t, r = t + m := ⟨r - m, by omega⟩
    rw [show t + m - m = t by omega] at e hz
    have b1 : -1000000 ≤ t := by omega
    have b2 : (0 : Int) ≤ m := by omega
    clear h0 h1
    go_enter Tryz.func24, Tryz.ntmps24
    go_wp2
    go_ret
    exact ⟨by rw [show t + m = t + m from rfl]; first | rfl | (congr 2; omega), rfl⟩

def lightA (a : Act) : Bool := decide (a.room.length ≤ 300) && decide (a.subj.length ≤ 300) && decide (a.reason.length ≤ 300) && decide (a.deny.length ≤ 3000)
set_option maxHeartbeats 4000000 in
theorem lightA_any (a : Act) (w : World) : Calls Tryz.prog 26 #[.agg (actC a)] w (Ret (.bool (lightA a)) w) := by
  obtain ⟨k, r, s, c, d⟩ := a
  have K1 := Lib.hid ((Keeps.refl w).alloc (.cells (actC ⟨k, r, s, c, d⟩) 27))
  unfold lightA
  unfold actC at *
  simp only at *
  have z1 := S_size r
  have z2 := S_size s
  have z3 := S_size c
  have z4 := S_size d
  generalize S r = br at *
  generalize S s = bs at *
  generalize S c = bc at *
  generalize S d = bd at *
  rw [← z1, ← z2, ← z3, ← z4]
  clear z1 z2 z3 z4
  by_cases h1 : br.size ≤ 300
  · have f1 : decide ((br.size : Int) ≤ 300) = true := by simp; omega
    by_cases h2 : bs.size ≤ 300
    · have f2 : decide ((bs.size : Int) ≤ 300) = true := by simp; omega
      by_cases h3 : bc.size ≤ 300
      · have f3 : decide ((bc.size : Int) ≤ 300) = true := by simp; omega
        by_cases h4 : bd.size ≤ 3000
        · have f4 : decide ((bd.size : Int) ≤ 3000) = true := by simp; omega
          have hR : Hid ((decide (br.size ≤ 300) && decide (bs.size ≤ 300) && decide (bc.size ≤ 300) && decide (bd.size ≤ 3000)) = true) := Lib.hid (by simp [h1, h2, h3, h4])
          rw [hR.out]
          clear h1 h2 h3 h4
          go_enter Tryz.func26, Tryz.ntmps26
          go_wp2
          go_ret
          exact ⟨rfl, K1.out⟩
        · have f4 : decide ((bd.size : Int) ≤ 3000) = false := by simp; omega
          have hR : Hid ((decide (br.size ≤ 300) && decide (bs.size ≤ 300) && decide (bc.size ≤ 300) && decide (bd.size ≤ 3000)) = false) := Lib.hid (by simp [h4])
          rw [hR.out]
          clear h1 h2 h3 h4
          go_enter Tryz.func26, Tryz.ntmps26
          go_wp2
          go_ret
          exact ⟨rfl, K1.out⟩
      · have f3 : decide ((bc.size : Int) ≤ 300) = false := by simp; omega
        have hR : Hid ((decide (br.size ≤ 300) && decide (bs.size ≤ 300) && decide (bc.size ≤ 300) && decide (bd.size ≤ 3000)) = false) := Lib.hid (by simp [h3])
        rw [hR.out]
        clear h1 h2 h3
        go_enter Tryz.func26, Tryz.ntmps26
        go_wp2
        go_ret
        exact ⟨rfl, K1.out⟩
    · have f2 : decide ((bs.size : Int) ≤ 300) = false := by simp; omega
      have hR : Hid ((decide (br.size ≤ 300) && decide (bs.size ≤ 300) && decide (bc.size ≤ 300) && decide (bd.size ≤ 3000)) = false) := Lib.hid (by simp [h2])
      rw [hR.out]
      clear h1 h2
      go_enter Tryz.func26, Tryz.ntmps26
      go_wp2
      go_ret
      exact ⟨rfl, K1.out⟩
  · have f1 : decide ((br.size : Int) ≤ 300) = false := by simp; omega
    have hR : Hid ((decide (br.size ≤ 300) && decide (bs.size ≤ 300) && decide (bc.size ≤ 300) && decide (bd.size ≤ 3000)) = false) := Lib.hid (by simp [h1])
    rw [hR.out]
    clear h1
    go_enter Tryz.func26, Tryz.ntmps26
    go_wp2
    go_ret
    exact ⟨rfl, K1.out⟩

def lightN1 (n : Nt) : Bool := lightA n.act && decide (n.text.length ≤ 400)
def lightNs (l : List Nt) (most : Int) : Bool := l.all lightN1 && decide ((l.length : Int) ≤ most)
set_option maxHeartbeats 8000000 in
set_option maxRecDepth 100000 in
theorem lightNs_any (A : Option Addr) (c : Nat) (l : List Nt) (most : Int) (w : World) (hA : NotesAt w A l) (hlen : l.length ≤ maxLen) : Calls Tryz.prog 6 #[.slice A l.length c, .int .i64 most] w (Ret (.bool (lightNs l most)) w) := by
  unfold maxLen at hlen
  have HA := Lib.hid hA
  unfold lightNs
  generalize hL : l.length = L at *
  have HL := Lib.hid hL
  generalize hR : (l.all lightN1 && decide ((L : Int) ≤ most)) = R
  have HR := Lib.hid hR
  clear hA hL hR
  go_enter Tryz.func6, Tryz.ntmps6
  go_wp2
  go_loopg [5] (L + 1) (fun g i wr => ∃ k : Nat, i = .int .i64 (k : Int) ∧ k ≤ L ∧ L - k < g ∧ Hid (Keeps w wr ∧ (l.take k).all lightN1 = true))
  case atStart => exact ⟨0, rfl, Nat.zero_le _, by omega, Lib.hid ⟨Keeps.refl _, rfl⟩⟩
  case round =>
    obtain ⟨k, rfl, hkL, hkg, hI⟩ := hrel
    by_cases hlt : k < L
    · have hlt' : k < l.length := by rw [HL.out]; exact hlt
      obtain ⟨hK, hall⟩ := hI.out
      obtain ⟨g, o, hAe, hc⟩ := (HA.out.keeps hK) k hlt'
      have hmem := List.getElem_mem hlt'
      have htk : (l.take (k + 1)).all lightN1 = (lightN1 (l[k]'hlt')) := by
        rw [List.take_succ_eq_append_getElem hlt', List.all_append, hall]; simp
      subst hAe
      obtain ⟨e0, e1, e2, e3, e4, e5, e6, e7, e8⟩ := hc.nine
      generalize l[k]'hlt' = nn at *
      have cA := Lib.hid (lightA_any nn.act wr)
      have HK := Lib.hid hK
      have f1 : decide ((k : Int) < (L : Int)) = true := by simp; omega
      have f1' : decide (k < L) = true := by simpa using hlt
      have q1 : (0 : Int) ≤ (k : Int) := by omega
      have q2 : (k : Int) < (L : Int) := by omega
      have hbad : lightN1 nn = false → R = false := fun h => by
        rw [← HR.out]
        have : l.all lightN1 = false := List.all_eq_false.2 ⟨nn, hmem, by simp [h]⟩
        rw [this]; rfl
      have HBAD := Lib.hid hbad
      have HTK := Lib.hid htk
      have HN1 : Hid (lightN1 nn = (lightA nn.act && decide (nn.text.length ≤ 400))) := Lib.hid rfl
      have zt := S_size nn.text
      generalize lightA nn.act = la at *
      obtain ⟨nk, t, ⟨ak, ro, s, cc, d⟩, co, x⟩ := nn
      unfold actC ntC at *
      simp only at *
      generalize S x = bx at *
      have HZT := Lib.hid zt
      clear hK hall hc hmem htk hbad hI zt
      cases la with
      | false =>
        have hrf := Lib.hid (HBAD.out (by rw [HN1.out]; rfl))
        go_wp2_with fail
        refine cA.out.mono ?_
        rintro e w4 ⟨rfl, k4⟩
        have K4 := Lib.hid (HK.out.trans k4)
        clear k4 e0 e1 e2 e3 e4 e5 e6 e7 e8
        go_wp2
        go_ret
        exact ⟨by rw [hrf.out]; rfl, K4.out⟩
      | true =>
        by_cases hx : bx.size ≤ 400
        · have f2 : decide ((400 : Int) < (bx.size : Int)) = false := by simp; omega
          have hok : Hid ((l.take (k + 1)).all lightN1 = true) := Lib.hid (by rw [HTK.out, HN1.out, ← HZT.out]; simp [hx])
          clear hx
          go_wp2_with fail
          refine cA.out.mono ?_
          rintro e w4 ⟨rfl, k4⟩
          have K4 := Lib.hid (HK.out.trans k4)
          have y8 := k4.cell e8
          clear k4 e0 e1 e2 e3 e4 e5 e6 e7 e8
          go_wp2
          cases gk with
          | zero => omega
          | succ g2 =>
            go_roundg g2
            case measure => omega
            case rel => exact ⟨k + 1, by go_num, by omega, by omega, Lib.hid ⟨K4.out, hok.out⟩⟩
        · have f2 : decide ((400 : Int) < (bx.size : Int)) = true := by simp; omega
          have hrf := Lib.hid (HBAD.out (by rw [HN1.out, ← HZT.out]; simp [hx]))
          clear hx
          go_wp2_with fail
          refine cA.out.mono ?_
          rintro e w4 ⟨rfl, k4⟩
          have K4 := Lib.hid (HK.out.trans k4)
          have y8 := k4.cell e8
          clear k4 e0 e1 e2 e3 e4 e5 e6 e7 e8
          go_wp2
          go_ret
          exact ⟨by rw [hrf.out]; rfl, K4.out⟩
    · obtain ⟨hK, hall⟩ := hI.out
      rw [List.take_of_length_le (by rw [HL.out]; omega)] at hall
      have hres : R = decide ((L : Int) ≤ most) := by rw [← HR.out, hall]; rfl
      have HK := Lib.hid hK
      have f1 : decide ((k : Int) < (L : Int)) = false := by simp; omega
      have f1' : decide (k < L) = false := by simpa using hlt
      clear hK hall hI
      subst hres
      go_wp2
      go_ret
      exact ⟨rfl, HK.out⟩
end Go.Proofs.YtfapilgmgjmfeaaGreatDoor
