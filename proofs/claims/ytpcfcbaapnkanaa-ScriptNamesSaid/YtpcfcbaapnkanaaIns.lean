/-
  Inputs: the inputs of a script.
-/
import Derived.Test.YtpcfcbaapnkanaaEr
namespace Go.Proofs.Ytpcfcbaapnkanaa
open Go.RowKit

set_option maxHeartbeats 8000000 in
set_option maxRecDepth 100000 in
theorem Inputs_any (bot : List UInt8) (q : Int) (A : Option Addr) (c : Nat) (l : List Ms) (w : World) (hA : StepsAt w A l) (hlen : l.length ≤ 1000000) :
    Calls Try.prog 14 #[.agg (scC bot q A l.length c)] w (fun e w' => ∃ v, e = .returned v ∧ InRow w' w.heap.size v (insOf l) ∧ Keeps w w') := by
  obtain ⟨i, hi, ⟨z, hz, hzs⟩, hz1, hz2⟩ := info28
  have KX := Lib.hid ((Keeps.refl w).alloc (.cells (scC bot q A l.length c) 25))
  have HB := Lib.hid (ScB.new w bot q A l.length c)
  have HA := Lib.hid (hA.keeps KX.out)
  have hsz : w.heap.size < (w.alloc (.cells (scC bot q A l.length c) 25)).heap.size := by simp
  clear hA
  generalize hL : l.length = L at *
  have HL := Lib.hid hL
  clear hL
  generalize hW : w.alloc (.cells (scC bot q A L c) 25) = W at *
  unfold scC at hW ⊢
  go_enter Try.func14, Try.ntmps14
  obtain ⟨d0, d1, d2⟩ := HB.out.cells
  go_wp2
  clear hW d0 d1 d2
  go_loopg [3, 9] (L + 1) (fun g v i wr => ∃ k : Nat, i = .int .i64 (k : Int) ∧ k ≤ L ∧ L - k < g ∧ Hid (Keeps W wr ∧ InRow wr W.heap.size v (insOf (l.take k))))
  case atStart => exact ⟨0, rfl, Nat.zero_le _, by omega, Lib.hid ⟨Keeps.refl _, SRow.nil _ _ _ _ _⟩⟩
  case round =>
    obtain ⟨k, rfl, hkL, hkg, hI⟩ := hrel
    have HK := Lib.hid hI.out.1
    have HRow := Lib.hid hI.out.2
    by_cases hlt : k < L
    · have hlt' : k < l.length := by rw [HL.out]; exact hlt
      obtain ⟨⟨g, o, hAe, hc⟩, -⟩ := (HA.out.keeps HK.out) k hlt'
      have htk : insOf (l.take (k + 1)) = insOf (l.take k) ++ [(l[k]'hlt').s.inp] := by
        unfold insOf
        rw [List.take_succ_eq_append_getElem hlt', List.map_append]; rfl
      have hil : (insOf (l.take k)).length ≤ 1000000 := by unfold insOf; rw [List.length_map, List.length_take]; omega
      generalize l[k]'hlt' = m at *
      obtain ⟨e0, e1, e2, e3, e4, e5, e6⟩ := hc.seven
      have HTK := Lib.hid htk
      have HIL := Lib.hid hil
      subst hAe
      obtain ⟨⟨mcr, ⟨xk, xc, xn, xo, xt⟩, mcu⟩, mA, mc⟩ := m
      simp only at e0 e1 e2 e3 e4 e5 e6
      have RA : Hid (World.ownsRow _ _ _ _ _ _ _) := Lib.hid (World.ownsRow.alloc (World.ownsRow.alloc HRow.out (.cells #[.bool mcr, .int .i64 xk, .int .i64 xc, .int .i64 xn, .bool xo, .string (S xt), .slice mA mcu.length mc] 31)) (.cells #[.int .i64 xk, .int .i64 xc, .int .i64 xn, .bool xo, .string (S xt)] 28))
      have HNW := news_of_block (cs := #[.int .i64 xk, .int .i64 xc, .int .i64 xn, .bool xo, .string (S xt)]) (t := 28) (heap_alloc_new (wr.alloc (.cells #[.bool mcr, .int .i64 xk, .int .i64 xc, .int .i64 xn, .bool xo, .string (S xt), .slice mA mcu.length mc] 31)) (.cells #[.int .i64 xk, .int .i64 xc, .int .i64 xn, .bool xo, .string (S xt)] 28))
      simp only [World.size_alloc] at HNW
      have HNWH := Lib.hid HNW
      have HS2 := Lib.hid HK.out.size
      generalize mcu.length = nmc at *
      have f1' : decide (k < L) = true := by simpa using hlt
      have f1 : decide ((k : Int) < (L : Int)) = true := by simp; omega
      have p1 : (0 : Int) ≤ (k : Int) := by omega
      have p2 : (k : Int) < (L : Int) := by omega
      clear hI HNW htk hil hc
      go_wp2_with (at_builtin; refine wpList_append_own _ rfl (.tmp 13) (.tmp 16) 40 rfl W.heap.size 28 i z 5 48 Try.underlying40 hi hz hz1 hz2 hzs (by decide) _ _ _ rfl RA.out ⟨wr.heap.size + 1, 0, none⟩ 1 1 [.int .i64 xk, .int .i64 xc, .int .i64 xn, .bool xo, .string (S xt)] rfl rfl ?c1 ?c2 ?c3 ?c4 ?c5 ?_)
      case c2 => simp [Value.oneCell']
      case c3 => have := HIL.out; unfold maxLen; omega
      case c4 => have := HIL.out; omega
      case c5 => have := HS2.out; simp; omega
      intro v3 w3 hown hgrow hjunk
      clear hjunk e0 e1 e2 e3 e4 e5 e6
      have HK3 := Lib.hid (((HK.out.alloc (.cells #[.bool mcr, .int .i64 xk, .int .i64 xc, .int .i64 xn, .bool xo, .string (S xt), .slice mA nmc mc] 31)).alloc (.cells #[.int .i64 xk, .int .i64 xc, .int .i64 xn, .bool xo, .string (S xt)] 28)).grown hgrow (by have := HS2.out; simp; omega) (fun q hq => (World.ownsRow.lt RA.out q hq).1))
      have HR3 : Hid (InRow w3 W.heap.size v3 (insOf (l.take (k + 1)))) := Lib.hid (by
        rw [HTK.out]
        unfold InRow SRow at *
        rw [flatF_app, List.length_append]
        exact hown)
      clear hown hgrow
      go_wp2
      cases gk with
      | zero => omega
      | succ g2 =>
        go_roundg g2
        case measure => omega
        case rel => exact ⟨k + 1, by go_num, by omega, by omega, Lib.hid ⟨HK3.out, HR3.out⟩⟩
    · have htk : l.take k = l := List.take_of_length_le (by rw [HL.out]; omega)
      have HR := HRow.out
      rw [htk] at HR
      have HRH := Lib.hid HR
      have HKz := Lib.hid (KX.out.trans HK.out)
      have f1' : decide (k < L) = false := by simpa using hlt
      have f1 : decide ((k : Int) < (L : Int)) = false := by simp; omega
      clear hI htk HR
      go_wp2
      go_ret
      refine ⟨_, rfl, ⟨HRH.out.1, HRH.out.2.imp id ?_⟩, HKz.out⟩
      rintro ⟨g0, cap, cur, e1, hb0, r0⟩
      exact ⟨g0, cap, cur, e1, by omega, r0⟩

end Go.Proofs.Ytpcfcbaapnkanaa
