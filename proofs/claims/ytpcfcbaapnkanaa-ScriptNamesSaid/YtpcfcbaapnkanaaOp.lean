/-
  Arguments that are scripts, opened.
-/
import Derived.Test.YtpcfcbaapnkanaaLi
import Derived.ProofKit
import Derived.OpenShut
namespace Go.Proofs.Ytpcfcbaapnkanaa
open Go.ChangeShapes Go.WideShapes Go.ChangeAt Go.RowKit

theorem cells2 : Try.prog.cellsOf 2 = 1 := by kernel_rfl
theorem cells3 : Try.prog.cellsOf 3 = 1 := by kernel_rfl
theorem cells4 : Try.prog.cellsOf 4 = 1 := by kernel_rfl
theorem cells9 : Try.prog.cellsOf 9 = 1 := by kernel_rfl
theorem cells23 : Try.prog.cellsOf 23 = 1 := by kernel_rfl
theorem cells25 : Try.prog.cellsOf 25 = 3 := by kernel_rfl
theorem cells28 : Try.prog.cellsOf 28 = 5 := by kernel_rfl
theorem cells29 : Try.prog.cellsOf 29 = 1 := by kernel_rfl
theorem cells31 : Try.prog.cellsOf 31 = 7 := by kernel_rfl
/-- Where a slice lies: anywhere, where it is empty. -/
def AOk {α : Type} (A : Option Addr) (l : List α) (c : Nat) : Prop := (A = none ∧ l = [] ∧ c = 0) ∨ ∃ g o s, A = some ⟨g, o, s⟩ ∧ (l = [] ∨ s = none)
set_option maxRecDepth 100000 in
theorem inp_of {H : Type} {enc : TypeId × Value → H} {w : World} {base fuel : Nat} {sp : Nat → Bool} {hd : Bool} {cs : List Value} {x : DataW H × List MemPlace} (h : DataW.trod enc Try.prog w base sp hd fuel 28 cs = some x) : ∃ a : Inp, cs = (inC a).toList ∧ a.t.length ≤ maxLen := by
  obtain ⟨xs, n, rfl, rfl, hl, hxl, hf⟩ := DataW.trod_struct Try.underlying28 h
  rw [cells28] at hl
  match cs, hl with
  | [c0, c1, c2, c3, c4], _ =>
    have hx5 : xs.length = 5 := hxl
    match xs, hx5, hf with
    | [y0, y1, y2, y3, y4], _, hf =>
      have h0 : DataW.trod enc Try.prog w base sp hd n 3 (List.take (Try.prog.cellsOf 3) [c0, c1, c2, c3, c4]) = some y0 := hf 0 _ rfl
      have h1 : DataW.trod enc Try.prog w base sp hd n 3 (List.take (Try.prog.cellsOf 3) [c1, c2, c3, c4]) = some y1 := hf 1 _ rfl
      have h2 : DataW.trod enc Try.prog w base sp hd n 2 (List.take (Try.prog.cellsOf 2) [c2, c3, c4]) = some y2 := hf 2 _ rfl
      have h3 : DataW.trod enc Try.prog w base sp hd n 4 (List.take (Try.prog.cellsOf 4) [c3, c4]) = some y3 := hf 3 _ rfl
      have h4 : DataW.trod enc Try.prog w base sp hd n 9 (List.take (Try.prog.cellsOf 9) [c4]) = some y4 := hf 4 _ rfl
      rw [cells3] at h0 h1
      rw [cells2] at h2
      rw [cells4] at h3
      rw [cells9] at h4
      simp only [List.take_succ_cons, List.take_zero] at h0 h1 h2 h3 h4
      obtain ⟨k, e0, _⟩ := DataW.trod_int Try.underlying3 h0
      obtain ⟨c, e1, _⟩ := DataW.trod_int Try.underlying3 h1
      obtain ⟨m, e2, _⟩ := DataW.trod_int Try.underlying2 h2
      obtain ⟨o, e3, _⟩ := DataW.trod_bool Try.underlying4 h3
      obtain ⟨t, e4, _, w4⟩ := DataW.trod_string Try.underlying9 h4
      simp only [List.cons.injEq, and_true] at e0 e1 e2 e3 e4
      subst e0 e1 e2 e3 e4
      exact ⟨⟨k, c, m, o, t.data.toList⟩, rfl, by simpa using w4⟩
set_option maxRecDepth 100000 in
theorem cuts_of {H : Type} {enc : TypeId × Value → H} {w : World} {base fuel : Nat} {sp : Nat → Bool} {hd : Bool} {c : Value} {x : DataW H × List MemPlace} (h : DataW.trod enc Try.prog w base sp hd fuel 29 [c] = some x) : ∃ A l n, c = .slice A (List.length l) n ∧ CutsAt w A l ∧ AOk A l n ∧ l.length ≤ maxLen := by
  rcases DataW.trod_slice Try.underlying29 h with ⟨e, _⟩ | ⟨a, len, cap, elems, rest, n', hn', e, _, _, hl, hm, hel, hg, _, _⟩
  · simp only [List.cons.injEq, and_true] at e
    exact ⟨none, [], 0, e, fun i hi => by simp at hi, .inl ⟨rfl, rfl, rfl⟩, by simp⟩
  · simp only [List.cons.injEq, and_true] at e
    have key : ∀ i, i < len → ∃ z : Int, w.cell? (a.add i) = some (.int .i64 z) := fun i hi => by
      have hgi := hg i hi
      rw [cells3, List.getElem?_eq_getElem (by omega), Nat.mul_one] at hgi
      obtain ⟨cs', hc1, hc2⟩ := Option.bind_eq_some_iff.1 hgi
      obtain ⟨_, _, hc3⟩ := World.cells?_some hc1
      obtain ⟨z, rfl, _⟩ := DataW.trod_int Try.underlying3 hc2
      have c0 := hc3 0 (by omega)
      have e2 : (a.add i).add 0 = a.add i := by
        obtain ⟨b, o, s⟩ := a
        cases s <;> simp [Addr.add]
      rw [e2] at c0
      exact ⟨z, by simpa using c0⟩
    have hplain : 0 < len → a.spot = none := fun hp => by
      obtain ⟨z, hz⟩ := key 0 hp
      have hsp := World.cell?_spot hz
      simpa [Addr.add] using hsp
    refine ⟨some a, (List.range len).attach.map (fun i => (key i.1 (List.mem_range.1 i.2)).choose), cap, by rw [e]; simp, fun i hi => ?_, .inr ⟨a.block, a.off, a.spot, rfl, ?_⟩, by simp; omega⟩
    · have hi' : i < len := by simpa using hi
      have e2 : ((List.range len).attach.map fun i => (key i.1 (List.mem_range.1 i.2)).choose)[i]'hi = (key i hi').choose := by simp
      rw [e2]
      have h2 := (key i hi').choose_spec
      generalize (key i hi').choose = z at h2 ⊢
      clear key e2 hi
      obtain ⟨b, off, spot⟩ := a
      have hspot : spot = none := hplain (by omega)
      subst hspot
      refine ⟨b, off, rfl, ?_⟩
      rw [add_plain] at h2
      exact h2
    · rcases Nat.eq_zero_or_pos len with h0 | h0
      · left
        subst h0
        rfl
      · exact .inr (hplain h0)
set_option maxRecDepth 100000 in
theorem step_of {H : Type} {enc : TypeId × Value → H} {w : World} {base fuel : Nat} {sp : Nat → Bool} {hd : Bool} {cs : List Value} {x : DataW H × List MemPlace} (h : DataW.trod enc Try.prog w base sp hd fuel 31 cs = some x) : ∃ m : Ms, cs = (msC m).toList ∧ MsOk w m ∧ MsFit m ∧ AOk m.A m.s.cuts m.c := by
  obtain ⟨xs, n, rfl, rfl, hl, hxl, hf⟩ := DataW.trod_struct Try.underlying31 h
  rw [cells31] at hl
  match cs, hl with
  | [c0, c1, c2, c3, c4, c5, c6], _ =>
    have hx5 : xs.length = 3 := hxl
    match xs, hx5, hf with
    | [y0, y1, y2], _, hf =>
      have h0 : DataW.trod enc Try.prog w base sp hd n 4 (List.take (Try.prog.cellsOf 4) [c0, c1, c2, c3, c4, c5, c6]) = some y0 := hf 0 _ rfl
      have h1 : DataW.trod enc Try.prog w base sp hd n 28 (List.take (Try.prog.cellsOf 28) [c1, c2, c3, c4, c5, c6]) = some y1 := hf 1 _ rfl
      have h2 : DataW.trod enc Try.prog w base sp hd n 29 (List.take (Try.prog.cellsOf 29) [c6]) = some y2 := hf 2 _ rfl
      rw [cells4] at h0
      rw [cells28] at h1
      rw [cells29] at h2
      simp only [List.take_succ_cons, List.take_zero] at h0 h1 h2
      obtain ⟨b, e0, _⟩ := DataW.trod_bool Try.underlying4 h0
      obtain ⟨a, e1, ha⟩ := inp_of h1
      obtain ⟨A, l, k, e2, hc, hao, hlm⟩ := cuts_of h2
      simp only [List.cons.injEq, and_true, inC] at e0 e1
      obtain ⟨e10, e11, e12, e13, e14⟩ := e1
      subst e0 e10 e11 e12 e13 e14 e2
      exact ⟨⟨⟨b, a, l⟩, A, k⟩, rfl, hc, ⟨hlm, ha⟩, hao⟩
/-- What of a script in memory was opened. -/
structure Opened (w : World) (bot : List UInt8) (A : Option Addr) (l : List Ms) (c : Nat) : Prop where
  at_ : StepsAt w A l
  fit : ∀ m, m ∈ l → MsFit m
  aok : AOk A l c
  maok : ∀ m, m ∈ l → AOk m.A m.s.cuts m.c
  len : l.length ≤ maxLen
  bot_ : bot.length ≤ maxLen
set_option maxRecDepth 100000 in
theorem steps_of {H : Type} {enc : TypeId × Value → H} {w : World} {base fuel : Nat} {sp : Nat → Bool} {hd : Bool} {c : Value} {x : DataW H × List MemPlace} (h : DataW.trod enc Try.prog w base sp hd fuel 23 [c] = some x) : ∃ A l n, c = .slice A (List.length l) n ∧ StepsAt w A l ∧ (∀ m, m ∈ l → MsFit m) ∧ AOk A l n ∧ (∀ m, m ∈ l → AOk m.A m.s.cuts m.c) ∧ l.length ≤ maxLen := by
  rcases DataW.trod_slice Try.underlying23 h with ⟨e, _⟩ | ⟨a, len, cap, elems, rest, n', hn', e, _, _, hl, hm, hel, hg, _, _⟩
  · simp only [List.cons.injEq, and_true] at e
    exact ⟨none, [], 0, e, fun i hi => by simp at hi, fun m hm => by simp at hm, .inl ⟨rfl, rfl, rfl⟩, fun m hm => by simp at hm, by simp⟩
  · simp only [List.cons.injEq, and_true] at e
    have key : ∀ i, i < len → ∃ m : Ms, (∀ j v, (msC m).toList[j]? = some v → w.cell? ((a.add (i * 7)).add j) = some v) ∧ MsOk w m ∧ MsFit m ∧ AOk m.A m.s.cuts m.c := fun i hi => by
      have hgi := hg i hi
      rw [cells31, List.getElem?_eq_getElem (by omega)] at hgi
      obtain ⟨cs', hc1, hc2⟩ := Option.bind_eq_some_iff.1 hgi
      obtain ⟨_, _, hc3⟩ := World.cells?_some hc1
      obtain ⟨m, rfl, h1, h2, h3⟩ := step_of hc2
      refine ⟨m, fun j v hj => ?_, h1, h2, h3⟩
      have hj7 : j < 7 := by
        have := (List.getElem?_eq_some_iff.1 hj).1
        simpa [msC] using this
      rw [hc3 j hj7, hj]
    have hplain : 0 < len → a.spot = none := fun hp => by
      obtain ⟨m, hz, _⟩ := key 0 hp
      have hsp := World.cell?_spot (hz 0 _ rfl)
      simpa [Addr.add] using hsp
    obtain ⟨l, hl1, hl2⟩ : ∃ l : List Ms, l.length = len ∧ ∀ (i : Nat) (hi : i < l.length), (∀ j v, (msC (l[i]'hi)).toList[j]? = some v → w.cell? ((a.add (i * 7)).add j) = some v) ∧ MsOk w (l[i]'hi) ∧ MsFit (l[i]'hi) ∧ AOk (l[i]'hi).A (l[i]'hi).s.cuts (l[i]'hi).c := by
      refine ⟨(List.range len).attach.map fun i => (key i.1 (List.mem_range.1 i.2)).choose, by simp, fun i hi => ?_⟩
      have hi' : i < len := by simpa using hi
      have e : ((List.range len).attach.map fun i => (key i.1 (List.mem_range.1 i.2)).choose)[i]'hi = (key i hi').choose := by
        simp
      rw [e]
      exact (key i hi').choose_spec
    refine ⟨some a, l, cap, by rw [e, hl1], fun i hi => ⟨?_, (hl2 i hi).2.1⟩, fun m hm => ?_, .inr ⟨a.block, a.off, a.spot, rfl, ?_⟩, fun m hm => ?_, by omega⟩
    · obtain ⟨b, off, spot⟩ := a
      have hspot : spot = none := hplain (by omega)
      subst hspot
      refine ⟨b, off, rfl, fun j v hj => ?_⟩
      have := (hl2 i hi).1 j v hj
      rw [add_plain, add_plain] at this
      exact this
    · obtain ⟨i, hi, rfl⟩ := List.getElem_of_mem hm
      exact (hl2 i hi).2.2.1
    · rcases Nat.eq_zero_or_pos len with h0 | h0
      · exact .inl (List.eq_nil_of_length_eq_zero (by omega))
      · exact .inr (hplain h0)
    · obtain ⟨i, hi, rfl⟩ := List.getElem_of_mem hm
      exact (hl2 i hi).2.2.2
set_option maxRecDepth 100000 in
theorem open_script {H : Type} {enc : TypeId × Value → H} {W : World} {base b0 : Nat} {sp : Nat → Bool} {hd : Bool} {r : Reach} {v : Value} {d : DataW H} {ps : List MemPlace} (hv : Value.okWide Try.prog W r b0 25 v) (h : DataW.Trod enc Try.prog W base sp hd 25 v d ps) :
    ∃ bot q A l c, v = .agg (scC bot q A (List.length l) c) ∧ Opened W bot A l c := by
  obtain ⟨cs, rfl, _⟩ := okWide_struct Try.underlying25 hv
  obtain ⟨fuel, hf⟩ := h
  obtain ⟨xs, n, _, _, hl, hxl, hg⟩ := DataW.trod_struct Try.underlying25 hf
  rw [cells25] at hl
  obtain ⟨ls⟩ := cs
  have hl3 : ls.length = 3 := hl
  clear hl hf hv
  match ls, hl3, hg with
  | [c0, c1, c2], _, hg =>
    have hx3 : xs.length = 3 := hxl
    match xs, hx3, hg with
    | [y0, y1, y2], _, hg =>
      have h0 : DataW.trod enc Try.prog W base sp hd n 9 (List.take (Try.prog.cellsOf 9) [c0, c1, c2]) = some y0 := hg 0 _ rfl
      have h1 : DataW.trod enc Try.prog W base sp hd n 3 (List.take (Try.prog.cellsOf 3) [c1, c2]) = some y1 := hg 1 _ rfl
      have h2 : DataW.trod enc Try.prog W base sp hd n 23 (List.take (Try.prog.cellsOf 23) [c2]) = some y2 := hg 2 _ rfl
      rw [cells9] at h0
      rw [cells3] at h1
      rw [cells23] at h2
      simp only [List.take_succ_cons, List.take_zero] at h0 h1 h2
      obtain ⟨t, e0, _, w0⟩ := DataW.trod_string Try.underlying9 h0
      obtain ⟨q, e1, _⟩ := DataW.trod_int Try.underlying3 h1
      obtain ⟨A, l, k, e2, hs, hfit, hao, hmo, hlm⟩ := steps_of h2
      simp only [List.cons.injEq, and_true] at e0 e1
      subst e0 e1 e2
      exact ⟨t.data.toList, q, A, l, k, rfl, hs, hfit, hao, hmo, hlm, by simpa using w0⟩
end Go.Proofs.Ytpcfcbaapnkanaa
