/-
  The law AuditLife, walked for no notes at all.
-/
import Derived.Test.YtfapilgmgjmfeaaLLif
namespace Go.Proofs.Ytfapilgmgjmfeaa
open Go.RowKit

set_option maxHeartbeats 4000000 in
set_option maxRecDepth 100000 in
theorem life_nil (cut : Int) (w : World) : Calls Try.prog 3 #[.slice none 0 0, .int .i64 cut] w (Ret (.bool true) w) := by
  have hA : ∀ wx, NotesAt wx none [] := fun wx i hi => by simp at hi
  have cL := Lib.hid (lives_any w)
  have cN : Hid (∀ wx, Calls Try.prog 6 #[.slice none 0 0, .int .i64 60] wx (Ret (.bool true) wx)) := Lib.hid (fun wx => lightNs_any none 0 [] 60 wx (hA wx) (by simp))
  have cF : Hid (∀ wx, Calls Try.prog 7 #[.slice none 0 0] wx (Ret (.int .i64 (-1)) wx)) := Lib.hid (fun wx => life_any none 0 [] wx (hA wx) (by simp) (by simp))
  have cO := Lib.hid (fun wx => open_any none 0 [] wx (hA wx) (by simp) (by simp))
  have cP : Hid (∀ wx, Calls Try.prog 8 #[.int .i64 cut, .int .i64 1] wx (fun e w' => e = .returned (.int .i64 0) ∧ w' = wx)) := Lib.hid (fun wx => by have := pick_any cut 1 wx (by omega) (by omega); rwa [show cut % 1 = 0 by omega] at this)
  have hmm := @run_makeMap Try.prog
  clear hA
  go_enter Try.func3, Try.ntmps3
  go_wp2_with fail
  refine cL.out.mono ?_
  rintro e w1 ⟨rfl, k1⟩
  go_wp2_with fail
  refine (cN.out _).mono ?_
  rintro e w2 ⟨rfl, k2⟩
  have K2 := Lib.hid (k1.trans k2)
  clear k1 k2
  go_wp2_with fail
  refine (cF.out _).mono ?_
  rintro e w3 ⟨rfl, k3⟩
  have K3 := Lib.hid (K2.out.trans k3)
  clear k3
  go_wp2_with fail
  refine (cP.out _).mono ?_
  rintro e w4 ⟨rfl, rfl⟩
  go_wp2_with fail
  refine (cF.out _).mono ?_
  rintro e w5 ⟨rfl, k5⟩
  have K5 := Lib.hid (K3.out.trans k5)
  clear k5
  go_wp2
  clear hmm
  have HK0 : Hid (Keeps w ((w5.alloc (.map #[] 0)).alloc (.map #[] 0))) := Lib.hid ((K5.out.alloc _).alloc _)
  generalize (w5.alloc (.map #[] 0)).alloc (.map #[] 0) = W at *
  go_loopg [10, 11] 1 (fun g oo i wr => oo = .int .i64 0 ∧ i = .int .i64 0 ∧ Hid (Keeps w wr))
  case atStart => exact ⟨rfl, rfl, HK0⟩
  case round =>
    obtain ⟨rfl, rfl, hI⟩ := hrel
    go_wp2_with fail
    refine (cO.out _).mono ?_
    rintro e w6 ⟨v, ss, rfl, hO, hrow, hnil, j5⟩
    have hlen : ss.length = 0 := by
      cases ss with
      | nil => rfl
      | cons a r =>
        have := (open_is [] a).1 ((hO.2 a).1 (by simp))
        exact (qd_nil _ this.1).elim
    obtain ⟨A2, c2, rfl, -⟩ := own_ints hrow
    have K6 := Lib.hid (hI.out.trans j5)
    clear hO hrow hnil j5
    rw [hlen]
    go_wp2
    go_ret
    exact ⟨by simp, K6.out⟩
end Go.Proofs.Ytfapilgmgjmfeaa
