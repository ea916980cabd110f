/-
  Life, whole.
-/
import Derived.Test.YtfapilgmgjmfeaaGreatDoorLif
namespace Go.Proofs.YtfapilgmgjmfeaaGreatDoor
open Go.RowKit

set_option maxHeartbeats 4000000 in
set_option maxRecDepth 100000 in
theorem life_any (A : Option Addr) (c : Nat) (l : List Nt) (w : World) (hA : NotesAt w A l) (hlen : l.length ≤ 1000000) (hok : ∀ n, n ∈ l → NtOk n) : Calls Tryz.prog 9 #[.slice A l.length c] w (Ret (.int .i64 (lifeI l)) w) := by
  have K3 : Keeps w (((w.alloc (.map #[] 0)).alloc (.cells #[.map (some w.heap.size), .int .i64 0] 54)).alloc (.cells #[.pointer (some ⟨w.heap.size + 1, 0, none⟩)] 51)) := (((Keeps.refl w).alloc _).alloc _).alloc _
  have hv : VarAt (((w.alloc (.map #[] 0)).alloc (.cells #[.map (some w.heap.size), .int .i64 0] 54)).alloc (.cells #[.pointer (some ⟨w.heap.size + 1, 0, none⟩)] 51)) (w.heap.size + 2) (w.heap.size + 1) := al_at _ (by simp)
  have hr : RdgAt (((w.alloc (.map #[] 0)).alloc (.cells #[.map (some w.heap.size), .int .i64 0] 54)).alloc (.cells #[.pointer (some ⟨w.heap.size + 1, 0, none⟩)] 51)) (w.heap.size + 1) w.heap.size 0 Rdg.zero :=
    ⟨(al_lt _ (by simp)).trans (al_at _ (by simp)), (IsMapI.new lifeE w).keeps (((Keeps.refl _).alloc _).alloc _)⟩
  have hlt : ∀ g o, l ≠ [] → A = some ⟨g, o, none⟩ → g < w.heap.size := fun g o hne e => by
    have h0 : 0 < l.length := List.length_pos_iff.2 hne
    obtain ⟨g', o', e', hc⟩ := hA 0 h0
    rw [e] at e'
    simp only [Option.some.injEq, Addr.mk.injEq] at e'
    have := World.block_lt_of_cell? _ _ (hc 0 _ rfl)
    simp only at this
    omega
  have hmm := @run_makeMap Tryz.prog
  have cI := Lib.hid (index_any A c l (w.heap.size + 2) (w.heap.size + 1) w.heap.size _ (hA.keeps K3) hv hr (fun hne g o e => by have := hlt g o hne e; simp; omega) (by simp) hlen hok)
  have K3' := Lib.hid K3
  generalize lifeI l = R at *
  clear hlt hA hv hr K3 hok
  go_enter Tryz.func9, Tryz.ntmps9
  go_wp2_with fail
  refine cI.out.mono ?_
  rintro e w2 ⟨rfl, hO⟩
  have HK := Lib.hid (Keeps.only K3'.out hO (fun i hi => by simp at hi; omega))
  go_wp2
  go_ret
  exact ⟨rfl, HK.out⟩
end Go.Proofs.YtfapilgmgjmfeaaGreatDoor
