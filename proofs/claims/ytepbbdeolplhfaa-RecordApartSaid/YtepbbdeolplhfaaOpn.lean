/-
  An argument that is an input, opened.
-/
import Derived.Test.YtepbbdeolplhfaaChk
import Derived.ProofKit
import Derived.OpenShut
namespace Go.Proofs.Ytepbbdeolplhfaa
open Go.ChangeShapes Go.WideShapes Go.ChangeAt Go.RowKit

theorem five_of {α : Type} {cs : Array α} (h : cs.size = 5) : ∃ a b c d e, cs = #[a, b, c, d, e] := by
  obtain ⟨l⟩ := cs
  match l, h with
  | [a, b, c, d, e], _ => exact ⟨a, b, c, d, e, rfl⟩

theorem open_in {H : Type} {enc : TypeId × Value → H} {w : World} {base : Nat} {spare : Nat → Bool} {held : Bool} {r : Reach} {b0 : Nat} {v : Value} {d : DataW H} {p : List MemPlace}
    (hv : Value.okWide Try.prog w r b0 23 v) (h : DataW.Trod enc Try.prog w base spare held 23 v d p) : ∃ (k code n : Int) (ok : Bool) (t : ByteArray), v = inV k code n ok t := by
  obtain ⟨cs, rfl, hsz⟩ := okWide_struct Try.underlying23 hv
  obtain ⟨x0, x1, x2, x3, x4, rfl⟩ := five_of (hsz.trans (by kernel_rfl))
  obtain ⟨fuel, hf⟩ := h
  obtain ⟨xs, n, _, _, _, hlen, hg⟩ := DataW.trod_struct Try.underlying23 hf
  have c3 : Try.prog.cellsOf 3 = 1 := by kernel_rfl
  have c2 : Try.prog.cellsOf 2 = 1 := by kernel_rfl
  have c4 : Try.prog.cellsOf 4 = 1 := by kernel_rfl
  have c9 : Try.prog.cellsOf 9 = 1 := by kernel_rfl
  have g0 := hg 0 _ rfl
  have g1 := hg 1 _ rfl
  have g2 := hg 2 _ rfl
  have g3 := hg 3 _ rfl
  have g4 := hg 4 _ rfl
  simp [Value.cells, c3, c2, c4, c9] at g0 g1 g2 g3 g4
  clear hg hv hsz hf
  match xs, hlen with
  | [y0, y1, y2, y3, y4], _ =>
    obtain ⟨k, e0, _⟩ := DataW.trod_int Try.underlying3 g0
    obtain ⟨code, e1, _⟩ := DataW.trod_int Try.underlying3 g1
    obtain ⟨m, e2, _⟩ := DataW.trod_int Try.underlying2 g2
    obtain ⟨ok, e3, _⟩ := DataW.trod_bool Try.underlying4 g3
    obtain ⟨t, e4, _⟩ := DataW.trod_string Try.underlying9 g4
    simp at e0 e1 e2 e3 e4
    subst e0; subst e1; subst e2; subst e3; subst e4
    exact ⟨k, code, m, ok, t, rfl⟩

theorem light_any (k code n : Int) (ok : Bool) (t : ByteArray) (w : World) : Calls Try.prog 7 #[inV k code n ok t] w (Ret (.bool (decide ((t.size : Int) ≤ 5000))) w) := by
  unfold inV
  go_enter Try.func7, Try.ntmps7
  go_wp2
  go_ret
  exact Ret.bool rfl ((Keeps.refl w).alloc _)
end Go.Proofs.Ytepbbdeolplhfaa
