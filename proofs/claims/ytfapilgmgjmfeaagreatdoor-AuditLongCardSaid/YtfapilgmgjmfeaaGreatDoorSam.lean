/-
  Same, of whole numbers.
-/
import Derived.Test.YtfapilgmgjmfeaaGreatDoorSmm
import Derived.Deep.LoopGhost
namespace Go.Proofs.YtfapilgmgjmfeaaGreatDoor
open Go.RowKit

def IntsAt (w : World) (A : Option Addr) (zs : List Int) : Prop := ∀ k (hk : k < zs.length), ∃ g o, A = some ⟨g, o, none⟩ ∧ w.cell? ⟨g, o + k, none⟩ = some (.int .i64 (zs[k]'hk))
theorem IntsAt.heap {w w' : World} {A : Option Addr} {zs : List Int} (h : IntsAt w A zs) (e : w'.heap = w.heap) : IntsAt w' A zs := fun k hk => by
  obtain ⟨g, o, h1, h2⟩ := h k hk
  exact ⟨g, o, h1, by rw [← h2]; exact World.cell?_of_block (by rw [e])⟩
theorem IntsAt.keeps {w w' : World} {A : Option Addr} {zs : List Int} (h : IntsAt w A zs) (k : Keeps w w') : IntsAt w' A zs := fun j hj => by
  obtain ⟨g, o, h1, h2⟩ := h j hj
  exact ⟨g, o, h1, k.cell h2⟩
theorem take_next {zs : List Int} {k : Nat} (h : k < zs.length) : zs.take (k + 1) = zs.take k ++ [zs[k]'h] := List.take_succ_eq_append_getElem h

set_option maxHeartbeats 4000000 in
set_option maxRecDepth 100000 in
theorem same_ints (A B : Option Addr) (ca cb : Nat) (za zb : List Int) (w : World) (ha : IntsAt w A za) (hb : IntsAt w B zb) (hl : za.length ≤ 1000000000) :
    Calls Tryz.prog 19 #[.slice A za.length ca, .slice B zb.length cb] w (fun e w' => e = .returned (.bool (decide (za = zb))) ∧ ∃ q, w' = w.drewN q) := by
  by_cases hne : za.length = zb.length
  · have HA := Lib.hid ha
    have HB := Lib.hid hb
    generalize hR : decide (za = zb) = R
    have HR := Lib.hid hR
    generalize hL : za.length = L at *
    have HLa := Lib.hid hL
    have HLb := Lib.hid hne
    rw [← hne]
    have f0 : ((L : Int) != (L : Int)) = false := by simp
    clear ha hb hR hL hne
    go_enter Tryz.func19, Tryz.ntmps19
    go_wp2
    clear f0
    go_loopg [5] (L + 1) (fun g i wr => ∃ k : Nat, i = .int .i64 (k : Int) ∧ k ≤ L ∧ L - k < g ∧ Hid ((∃ q, wr = w.drewN q) ∧ za.take k = zb.take k))
    case atStart => exact ⟨0, rfl, Nat.zero_le _, by omega, Lib.hid ⟨⟨0, rfl⟩, rfl⟩⟩
    case round =>
      obtain ⟨k, rfl, hkL, hkg, hI⟩ := hrel
      by_cases hlt : k < L
      · have h1 : k < za.length := by rw [HLa.out]; exact hlt
        have h2 : k < zb.length := by rw [← HLb.out]; exact hlt
        obtain ⟨⟨q, hq⟩, htk⟩ := hI.out
        obtain ⟨g1, o1, hA1, c1⟩ := (HA.out.keeps ((Keeps.refl w).drewN q)) k h1
        obtain ⟨g2, o2, hB1, c2⟩ := (HB.out.keeps ((Keeps.refl w).drewN q)) k h2
        rw [← hq] at c1 c2
        subst hA1 hB1
        have t1 := take_next h1
        have t2 := take_next h2
        have HT : Hid (za[k]'h1 = zb[k]'h2 → za.take (k + 1) = zb.take (k + 1)) := Lib.hid (fun e => by rw [t1, t2, htk, e])
        have HF : Hid (za[k]'h1 ≠ zb[k]'h2 → R = false) := Lib.hid (fun e => by
          rw [← HR.out]
          exact decide_eq_false (fun e2 => e (by subst e2; rfl)))
        have HQ := Lib.hid hq
        generalize za[k]'h1 = x at *
        generalize zb[k]'h2 = y at *
        have f1 : decide ((k : Int) < (L : Int)) = true := by simp; omega
        have f1' : decide (k < L) = true := by simpa using hlt
        have q1 : (0 : Int) ≤ (k : Int) := by omega
        have q2 : (k : Int) < (L : Int) := by omega
        clear t1 t2 htk hI hq
        by_cases hxy : x = y
        · have f2 : (x != y) = false := by simpa using hxy
          have hT := Lib.hid (HT.out hxy)
          clear hxy
          go_wp2
          go_quiet (fail)
          go_wp2
          cases gk with
          | zero => omega
          | succ g2 =>
            go_roundg g2
            case measure => omega
            case rel => exact ⟨k + 1, by go_num, by omega, by omega, Lib.hid ⟨⟨q + nq, by rw [HQ.out, World.drewN_drewN]⟩, hT.out⟩⟩
        · have f2 : (x != y) = true := by simpa using hxy
          have hF := Lib.hid (HF.out hxy)
          clear hxy
          go_wp2
          go_quiet (fail)
          go_wp2
          go_ret
          exact ⟨by rw [hF.out]; rfl, q + nq, by rw [HQ.out, World.drewN_drewN]⟩
      · obtain ⟨⟨q, hq⟩, htk⟩ := hI.out
        rw [List.take_of_length_le (by rw [HLa.out]; omega), List.take_of_length_le (by rw [← HLb.out]; omega)] at htk
        have hR : R = true := by rw [← HR.out]; exact decide_eq_true htk
        have HR2 := Lib.hid hR
        have HQ := Lib.hid hq
        have f1 : decide ((k : Int) < (L : Int)) = false := by simp; omega
        have f1' : decide (k < L) = false := by simpa using hlt
        clear htk hI hR hq
        go_wp2
        go_ret
        exact ⟨by rw [HR2.out]; rfl, q, HQ.out⟩
  · have hz : za ≠ zb := fun e => hne (by rw [e])
    rw [decide_eq_false hz]
    have f0 : ((za.length : Int) != (zb.length : Int)) = true := by simp; omega
    generalize za.length = la at *
    generalize zb.length = lb at *
    clear hz ha hb
    go_enter Tryz.func19, Tryz.ntmps19
    go_wp2
    go_ret
    exact ⟨rfl, 0, rfl⟩
end Go.Proofs.YtfapilgmgjmfeaaGreatDoor
