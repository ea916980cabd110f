/-
  The statement on inputs, records and lines, from its walk; an argument that is an input, opened.
-/
import Derived.Test.YtepbbdeolplhfaaDoorLCal
import Derived.ProofKit
import Derived.OpenShut
namespace Go.Proofs.YtepbbdeolplhfaaDoor
open Go.ChangeShapes Go.WideShapes Go.ChangeAt Go.RowKit

theorem five_of {α : Type} {cs : Array α} (h : cs.size = 5) : ∃ a b c d e, cs = #[a, b, c, d, e] := by
  obtain ⟨l⟩ := cs
  match l, h with
  | [a, b, c, d, e], _ => exact ⟨a, b, c, d, e, rfl⟩

theorem open_in {H : Type} {enc : TypeId × Value → H} {w : World} {base : Nat} {spare : Nat → Bool} {held : Bool} {r : Reach} {b0 : Nat} {v : Value} {d : DataW H} {p : List MemPlace}
    (hv : Value.okWide Tryd.prog w r b0 24 v) (h : DataW.Trod enc Tryd.prog w base spare held 24 v d p) : ∃ (k code n : Int) (ok : Bool) (t : ByteArray), v = inV k code n ok t ∧ (Lit.int .i64 code).wf = true ∧ (Lit.int .i64 n).wf = true ∧ t.size ≤ maxLen := by
  obtain ⟨cs, rfl, hsz⟩ := okWide_struct Tryd.underlying24 hv
  obtain ⟨x0, x1, x2, x3, x4, rfl⟩ := five_of (hsz.trans (by kernel_rfl))
  obtain ⟨fuel, hf⟩ := h
  obtain ⟨xs, n, _, _, _, hlen, hg⟩ := DataW.trod_struct Tryd.underlying24 hf
  have c3 : Tryd.prog.cellsOf 3 = 1 := by kernel_rfl
  have c2 : Tryd.prog.cellsOf 2 = 1 := by kernel_rfl
  have c4 : Tryd.prog.cellsOf 4 = 1 := by kernel_rfl
  have c9 : Tryd.prog.cellsOf 9 = 1 := by kernel_rfl
  have g0 := hg 0 _ rfl
  have g1 := hg 1 _ rfl
  have g2 := hg 2 _ rfl
  have g3 := hg 3 _ rfl
  have g4 := hg 4 _ rfl
  simp [Value.cells, c3, c2, c4, c9] at g0 g1 g2 g3 g4
  clear hg hv hsz hf
  match xs, hlen with
  | [y0, y1, y2, y3, y4], _ =>
    obtain ⟨k, e0, _⟩ := DataW.trod_int Tryd.underlying3 g0
    obtain ⟨code, e1, _, w1⟩ := DataW.trod_int Tryd.underlying3 g1
    obtain ⟨m, e2, _, w2⟩ := DataW.trod_int Tryd.underlying2 g2
    obtain ⟨ok, e3, _⟩ := DataW.trod_bool Tryd.underlying4 g3
    obtain ⟨t, e4, _, w4⟩ := DataW.trod_string Tryd.underlying9 g4
    simp at e0 e1 e2 e3 e4
    subst e0; subst e1; subst e2; subst e3; subst e4
    exact ⟨k, code, m, ok, t, rfl, w1, w2, w4⟩

theorem calls_small (k code n : Int) (ok : Bool) (t s : ByteArray) (cd : Int) (text : ByteArray) (w : World) (hT : Tab w) (ht : t.size ≤ 5000) (hs : s.size ≤ 5000) (hx : text.size ≤ 5000)
    (h0 : -9223372036854775808 ≤ n) (h1 : n ≤ 9223372036854775807) (g0 : -9223372036854775808 ≤ code) (g1 : code ≤ 9223372036854775807) :
    Calls Tryd.prog 4 #[inV k code n ok t, .string s, .int .i64 cd, .string text] w (Ret (.bool true) w) := by
  have hm : t.size ≤ maxLen := by unfold maxLen; omega
  have hsl : s.data.toList.length ≤ 5000 := by have : s.data.toList.length = s.size := by simp
                                               omega
  have cV : Hid (∀ w1, Calls Tryd.prog 5 #[] w1 (Ret (.bool true) w1)) := Lib.hid (fun w1 => lives_any w1)
  have cG : Hid (∀ w1, Calls Tryd.prog 12 #[inV k code n ok t] w1 (Ret (.bool true) w1)) := Lib.hid (fun w1 => by
    have := light_any k code n ok t w1 hm
    rwa [decide_eq_true ht] at this)
  have hB : ∃ (r : ByteArray) (e0 : Int), (∀ w1, Calls Tryd.prog 13 #[inV k code n ok t] w1 (fun e w' => e = .returned (.tuple #[.string r, .int .i64 e0]) ∧ Keeps w1 w')) ∧ (∀ w1, Calls Tryd.prog 14 #[inV k code n ok t] w1 (fun e w' => e = .returned (.tuple #[.string r, .int .i64 e0]) ∧ Keeps w1 w')) := by
    by_cases hc : chk k code n ok t.size = 0
    · exact ⟨_, _, fun w1 => bytes_good k code n ok t w1 ht hc, fun w1 => rbytes_good k code n ok t w1 ht hc⟩
    · exact ⟨_, _, fun w1 => bytes_bad k code n ok t w1 hm hc, fun w1 => rbytes_bad k code n ok t w1 hm hc⟩
  obtain ⟨r, e0, cB, cE⟩ := hB
  have cF : Hid (∀ w1, Calls Tryd.prog 6 #[.string s] w1 (fun e w' => e = .returned (.tuple #[(readL s.data.toList).1.v, .int .i64 (readL s.data.toList).2]) ∧ Keeps w1 w')) := Lib.hid (fun w1 => read_any s.data.toList w1 (by omega))
  have cH : Hid (∀ w1, Calls Tryd.prog 15 #[.string s] w1 (fun e w' => e = .returned (.tuple #[(readL s.data.toList).1.v, .int .i64 (readL s.data.toList).2]) ∧ Keeps w1 w')) := Lib.hid (fun w1 => rread_any s.data.toList w1 hsl)
  have hTk : ∃ (tk tc tn : Int) (tb : Bool) (tt : ByteArray), (∀ w1, Calls Tryd.prog 7 #[.string text] w1 (fun e w' => e = .returned (inV tk tc tn tb tt) ∧ Keeps w1 w')) ∧ (∀ w1, Calls Tryd.prog 17 #[.string text] w1 (fun e w' => e = .returned (inV tk tc tn tb tt) ∧ Keeps w1 w')) := by
    by_cases h : text.size ≤ 4096
    · exact ⟨1, 0, 0, false, text, fun w1 => take_short text w1 h, fun w1 => rtake_short text w1 h⟩
    · exact ⟨2, 0, text.size, false, ⟨#[]⟩, fun w1 => take_long text w1 (by omega) (by omega), fun w1 => rtake_long text w1 (by omega) (by omega)⟩
  obtain ⟨tk, tc, tn, tb, tt, cT, cU⟩ := hTk
  exact calls_walk k code n ok t s cd text (chk k code n ok t.size) e0 r (readL s.data.toList).1.k (readL s.data.toList).1.code (readL s.data.toList).1.n (readL s.data.toList).1.ok (S (readL s.data.toList).1.t) (readL s.data.toList).2 tk tc tn tb tt (S (lineL k code n ok t.data.toList)) w hs hx
    cV cG (Lib.hid cB) (Lib.hid cE) cF cH (Lib.hid (fun w1 => check_any k code n ok t w1 hm)) (Lib.hid (fun w1 => rcheck_any k code n ok t w1 hm)) (Lib.hid cT) (Lib.hid cU) (Lib.hid (fun w1 => command_any cd text w1))
    (Lib.hid (fun w1 kk => line_any k code n ok t w1 (by omega) h0 h1 g0 g1 (hT.keeps kk))) (Lib.hid (fun w1 => rline_any k code n ok t w1 (by omega) h0 h1 g0 g1))

theorem calls_any (k code n : Int) (ok : Bool) (t s : ByteArray) (cd : Int) (text : ByteArray) (w : World) (hT : Tab w) (ht : t.size ≤ maxLen) (hs : s.size ≤ maxLen) (hx : text.size ≤ maxLen)
    (h0 : -9223372036854775808 ≤ n) (h1 : n ≤ 9223372036854775807) (g0 : -9223372036854775808 ≤ code) (g1 : code ≤ 9223372036854775807) :
    Calls Tryd.prog 4 #[inV k code n ok t, .string s, .int .i64 cd, .string text] w (Ret (.bool true) w) := by
  by_cases a : t.size ≤ 5000
  · by_cases b : s.size ≤ 5000
    · by_cases c : text.size ≤ 5000
      · exact calls_small k code n ok t s cd text w hT a b c h0 h1 g0 g1
      · exact calls_heavy k code n ok t s cd text w ht hs hx (.inr (.inr ⟨a, b, by omega⟩))
    · exact calls_heavy k code n ok t s cd text w ht hs hx (.inr (.inl ⟨a, by omega⟩))
  · exact calls_heavy k code n ok t s cd text w ht hs hx (.inl (by omega))
end Go.Proofs.YtepbbdeolplhfaaDoor
