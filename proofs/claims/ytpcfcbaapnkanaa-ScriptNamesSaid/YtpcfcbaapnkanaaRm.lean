/-
  The reader's list, of steps.
-/
import Derived.Test.YtpcfcbaapnkanaaRs
namespace Go.Proofs.Ytpcfcbaapnkanaa
open Go.RowKit

/-- Steps that were read. -/
def Vl (B : Nat) (ss : List St) (w : World) (v : Value) : Prop := ∃ ms : List Ms, steps ms = ss ∧ MsRow w B v ms ∧ ∀ m, m ∈ ms → MsOwn w B m
theorem MsOwn.mono {w : World} {B B2 : Nat} {m : Ms} (h : MsOwn w B m) (hb : B2 ≤ B) : MsOwn w B2 m := by
  obtain ⟨h1, h2⟩ := h
  exact ⟨h1, h2.imp id (fun ⟨g, cap, cur, e, hB, r⟩ => ⟨g, cap, cur, e, Nat.le_trans hb hB, r⟩)⟩
theorem PS.stepR_len {l r : List UInt8} {s : St} (h : PS.stepR K0 l = .ok (s, r)) : r.length ≤ l.length := by
  rw [PS.step_back K0 h, List.length_append]; omega
theorem news_of_block {w : World} {g : Nat} {cs : Array Value} {t : TypeId} (h : Blk w g cs t) : ∀ (j : Nat) (u : Value), cs.toList[j]? = some u → w.cell? ((⟨g, 0, none⟩ : Addr).add j) = some u := fun j u hj => by
  have ea : (⟨g, 0, none⟩ : Addr).add j = ⟨g, j, none⟩ := by
    unfold Addr.add; split <;> simp_all
  rw [ea]
  exact h.cell (by simpa using hj)
theorem agg_one (cr : Bool) (a b c : Int) (o : Bool) (t : ByteArray) (A : Option Addr) (n k : Nat) : ∀ u ∈ [Value.bool cr, .int .i64 a, .int .i64 b, .int .i64 c, .bool o, .string t, .slice A n k], u.oneCell' = true := by
  intro u hu
  simp at hu
  rcases hu with rfl | rfl | rfl | rfl | rfl | rfl | rfl <;> rfl

set_option maxHeartbeats 8000000 in
set_option maxRecDepth 100000 in
theorem listS_any (g n : Nat) (l : List UInt8) (w : World) (hs : l.length ≤ 6000000) (hn : n ≤ 70000) (h : HasRest w g (S l)) :
    Calls Try.prog 47 #[.int .i64 n, .func (.func 48) #[.pointer (some ⟨g, 0, none⟩)] #[]] w (Rds (PS.listR (PS.stepR K0) n) (Vl w.heap.size) g l w) := by
  have hgl := h.lt
  have cN := Lib.hid (fun wx r (hr : r.length ≤ 6000000) hx => step_any g r wx hr hx)
  have H0 := Lib.hid h
  obtain ⟨i, hi, ⟨z, hz, hzs⟩, hz1, hz2⟩ := info31
  clear h
  go_enter Try.func47, Try.ntmps47
  go_wp2
  go_loopg [5, 7] (n + 1) (fun gg v i wr => ∃ k : Nat, i = .int .i64 (k : Int) ∧ k ≤ n ∧ n - k < gg ∧ Hid (∃ ms r, PS.listR (PS.stepR K0) k l = .ok (steps ms, r) ∧ MsRow wr w.heap.size v ms ∧ (∀ m, m ∈ ms → MsOwn wr w.heap.size m) ∧ HasRest wr g (S r) ∧ Only g w wr ∧ ms.length = k ∧ r.length ≤ 6000000))
  case atStart => exact ⟨0, rfl, Nat.zero_le _, by omega, Lib.hid ⟨[], l, rfl, SRow.nil _ _ _ _ _, fun m hm => by simp at hm, H0.out, Only.refl _ _, rfl, hs⟩⟩
  case round =>
    obtain ⟨k, rfl, hkL, hkg, hI⟩ := hrel
    obtain ⟨ms, r, hp, hrow, hmo, hrest, honly, hxl, hrl⟩ := hI.out
    by_cases hlt : k < n
    · have c1 := Lib.hid (cN.out wr r hrl hrest)
      have HP := Lib.hid hp
      have HRow := Lib.hid hrow
      have HMs := Lib.hid hmo
      have HOn := Lib.hid honly
      have HXL := Lib.hid hxl
      have HRL := Lib.hid hrl
      have f1 : decide ((k : Int) < (n : Int)) = true := by simp; omega
      have f1' : decide (k < n) = true := by simpa using hlt
      clear hI hp hrow hmo hrest honly hxl hrl
      cases hq : PS.stepR K0 r with
      | error e =>
        have HE := Lib.hid hq
        have HST := Lib.hid (by
          have := PS.listR_stop (PS.stepR K0) e k l (steps ms) r HP.out hq (n - k - 1)
          rwa [show k + (n - k - 1) + 1 = n by omega] at this)
        clear hq
        go_wp2_with fail
        refine c1.out.mono ?_
        rintro e2 w2 hR
        obtain ⟨ho, rfl⟩ := Rds.of_error HE.out hR
        have HO := Lib.hid (HOn.out.trans ho)
        clear hR ho
        go_wp2
        exact ⟨rfl, Rds.fault (V := Vl w.heap.size) HST.out HO.out⟩
      | ok q =>
        obtain ⟨a, r2⟩ := q
        have HE := Lib.hid hq
        have HMO := Lib.hid (PS.listR_more (PS.stepR K0) k l (steps ms) r a r2 HP.out hq)
        clear hq
        go_wp2_with fail
        refine c1.out.mono ?_
        rintro e2 w2 hR
        obtain ⟨ho, v, rfl, ⟨m, rfl, rfl, hmn⟩, hr⟩ := Rds.of_ok HE.out hR
        have HO := Lib.hid (HOn.out.trans ho)
        have hR2 := Lib.hid hr
        have HMN := Lib.hid (MsOwn.mono hmn HOn.out.size)
        have HM2 : Hid (∀ m, m ∈ ms → MsOwn w2 w.heap.size m) := Lib.hid (fun m hm => ho.row (HMs.out m hm) hgl)
        have HRow2 := Lib.hid (ho.row HRow.out hgl)
        clear hR ho hr hmn
        obtain ⟨⟨cr, ⟨xk, xc, xn, xo, xt⟩, cs⟩, A, cc⟩ := m
        have RA : Hid (World.ownsRow _ _ _ _ _ _ _) := Lib.hid (World.ownsRow.alloc HRow2.out (.cells #[.bool cr, .int .i64 xk, .int .i64 xc, .int .i64 xn, .bool xo, .string (S xt), .slice A cs.length cc] 31))
        have HS2 := Lib.hid HO.out.size
        have HNW := news_of_block (cs := #[.bool cr, .int .i64 xk, .int .i64 xc, .int .i64 xn, .bool xo, .string (S xt), .slice A cs.length cc]) (t := 31) (heap_alloc_new w2 (.cells #[.bool cr, .int .i64 xk, .int .i64 xc, .int .i64 xn, .bool xo, .string (S xt), .slice A cs.length cc] 31))
        have HNWH := Lib.hid HNW
        clear HNW
        unfold msC
        simp only
        go_wp2_with (at_builtin; refine wpList_append_own _ rfl (.tmp 9) (.tmp 12) 23 rfl w.heap.size 31 i z 7 80 Try.underlying23 hi hz hz1 hz2 hzs (by decide) _ _ _ rfl RA.out ⟨w2.heap.size, 0, none⟩ 1 1 [.bool cr, .int .i64 xk, .int .i64 xc, .int .i64 xn, .bool xo, .string (S xt), .slice A cs.length cc] rfl rfl ?c1 ?c2 ?c3 ?c4 ?c5 ?_)
        case c2 => simp [Value.oneCell']
        case c3 => have := HXL.out; unfold maxLen; omega
        case c4 => have := HXL.out; omega
        case c5 => have := HS2.out; simp; omega
        intro v3 w3 hown hgrow hjunk
        clear hjunk
        have HO3 := Lib.hid ((HO.out.alloc (.cells #[.bool cr, .int .i64 xk, .int .i64 xc, .int .i64 xn, .bool xo, .string (S xt), .slice A cs.length cc] 31)).grown hgrow (fun q hq => (World.ownsRow.lt RA.out q hq).1))
        have HR3 := Lib.hid ((hR2.out.alloc (.cells #[.bool cr, .int .i64 xk, .int .i64 xc, .int .i64 xn, .bool xo, .string (S xt), .slice A cs.length cc] 31)).grown RA.out hgl hgrow)
        have HC3 : Hid (MsRow w3 w.heap.size v3 (ms ++ [⟨⟨cr, ⟨xk, xc, xn, xo, xt⟩, cs⟩, A, cc⟩])) := Lib.hid (by
          unfold MsRow SRow at *
          rw [flatF_app, List.length_append]
          exact hown)
        have HM3 : Hid (∀ m, m ∈ ms ++ [⟨⟨cr, ⟨xk, xc, xn, xo, xt⟩, cs⟩, A, cc⟩] → MsOwn w3 w.heap.size m) := Lib.hid (fun m hm => by
          rcases List.mem_append.1 hm with hm | hm
          · exact MsOwn.grown (World.ownsRow.alloc (HM2.out m hm) _) RA.out hgrow
          · obtain rfl : m = _ := by simpa using hm
            exact MsOwn.grown (World.ownsRow.alloc HMN.out _) RA.out hgrow)
        clear hown hgrow
        go_wp2
        cases gk with
        | zero => omega
        | succ g2 =>
          go_roundg g2
          case measure => omega
          case rel => exact ⟨k + 1, by go_num, by omega, by omega, Lib.hid ⟨ms ++ [⟨⟨cr, ⟨xk, xc, xn, xo, xt⟩, cs⟩, A, cc⟩], r2, by rw [HMO.out]; simp [steps], HC3.out, HM3.out, HR3.out, HO3.out, by simp [HXL.out], Nat.le_trans (PS.stepR_len HE.out) HRL.out⟩⟩
    · obtain rfl : k = n := by omega
      have HX := Lib.hid (Rds.ok (p := PS.listR (PS.stepR K0) k) (V := Vl w.heap.size) hp honly ⟨ms, rfl, hrow, hmo⟩ hrest)
      have f1 : decide ((k : Int) < (k : Int)) = false := by simp
      have f1' : decide (k < k) = false := by simp
      clear hI hp hrow hmo hrest honly hxl hrl
      go_wp2
      go_ret
      exact HX.out
end Go.Proofs.Ytpcfcbaapnkanaa
