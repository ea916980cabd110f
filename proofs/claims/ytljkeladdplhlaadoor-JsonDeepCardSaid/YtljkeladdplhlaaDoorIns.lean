/-
  The closure that reads inside a value, of package json.
-/
import Derived.Test.YtljkeladdplhlaaDoorLp
namespace Go.Proofs.YtljkeladdplhlaaDoor
open Go.RowKit

/-- A value that was read, handed on by a function with a result of its own. -/
theorem RetJ.wrap {r : Nat} {s : ByteArray} {a : Nat} {w w2 : World} {p : JR} {c0 c1 c2 c3 c4 : Value} {x : Int} (hr : r < w.heap.size) (h : RetJ r s a (w.alloc (.cells #[.int .i64 0, .int .i64 0, .string ⟨#[]⟩, .slice none 0 0, .slice none 0 0] 25)) p (.returned (.tuple #[.agg #[c0, c1, c2, c3, c4], .int .i64 x])) w2) :
    RetJ r s a w p (.returned (.tuple #[.agg #[c0, c1, c2, c3, c4], .int .i64 x])) (five w2 w.heap.size c0 c1 c2 c3 c4) := by
  obtain ⟨ho, h1, h2⟩ := h
  have ho1 : Only [r] w w2 := ((Only.refl [r] w).alloc _).trans ho
  have hz := ho.size
  simp at hz
  refine ⟨ho1.five _ (.inr (Nat.le_refl _)) _ _ _ _ _, fun hp => ?_, fun hp => h2 hp⟩
  obtain ⟨v, hv, hj, hd⟩ := h1 hp
  have hO : Only [w.heap.size] w2 (five w2 w.heap.size c0 c1 c2 c3 c4) := (Only.refl _ w2).five _ (.inl (by simp)) _ _ _ _ _
  refine ⟨v, hv, ?_, hd.five (by omega) _ _ _ _ _⟩
  have hk := IsJ.keeps (w := w2) (w' := five w2 w.heap.size c0 c1 c2 c3 c4) (F := fun i => (w.alloc (.cells #[.int .i64 0, .int .i64 0, .string ⟨#[]⟩, .slice none 0 0, .slice none 0 0] 25)).heap.size ≤ i ∧ i < w2.heap.size) (fun i hi => hO.block i hi.2 (by have := hi.1; simp at this ⊢; omega)) _ _ hj
  exact IsJ.mono (fun i hi => ⟨by have := hi.1; simp at this; omega, Nat.lt_of_lt_of_le hi.2 hO.size⟩) _ _ hk
theorem RetJ.form {r : Nat} {s : ByteArray} {a : Nat} {w w2 : World} {p : JR} {e : Ending} (h : RetJ r s a w p e w2) :
    ∃ jk jn jt ka kl kc ia il ic, e = .returned (.tuple #[.agg #[.int .i64 jk, .int .i64 jn, .string jt, .slice ka kl kc, .slice ia il ic], .int .i64 (p.2.2 : Int)]) := by
  obtain ⟨_, h1, h2⟩ := h
  by_cases hp : p.2.2 = 0
  · obtain ⟨v, rfl, hj, _⟩ := h1 hp
    obtain ⟨⟨jk, jn, jt, jks, jis⟩, m, x⟩ := p
    simp only at hp
    subst hp
    unfold IsJ at hj
    obtain ⟨kv, iv, rfl, hkv, hiv⟩ := hj
    obtain ⟨ka, kl, kc, rfl⟩ : ∃ ka kl kc, kv = .slice ka kl kc := by rcases hkv with ⟨h, _⟩ | ⟨_, _, _, h, _⟩ <;> exact ⟨_, _, _, h⟩
    obtain ⟨ia, il, ic, rfl⟩ : ∃ ia il ic, iv = .slice ia il ic := by rcases hiv with ⟨h, _⟩ | ⟨_, _, _, h, _⟩ <;> exact ⟨_, _, _, h⟩
    exact ⟨_, _, _, _, _, _, _, _, _, rfl⟩
  · exact ⟨_, _, _, _, _, _, _, _, _, h2 hp⟩

set_option maxHeartbeats 2000000 in
theorem inside_any (r : Nat) (s : ByteArray) (a : Nat) (rb kb cb db d : Nat) (p : JR) (w : World) (h : Rd w r s a) (hd : d ≤ 8)
    (hcb : w.heap[cb]? = some (.cells #[.func (.func 48) #[] #[.pointer (some ⟨rb, 0, none⟩), .pointer (some ⟨kb, 0, none⟩), .pointer (some ⟨cb, 0, none⟩)]] 50 (0, 0)))
    (hdb : w.heap[db]? = some (.cells #[.int .i64 ((d : Int) + 1)] 3 (0, 0)))
    (cC : Hid (∀ w1, Keeps w w1 → Calls Tryd.prog 48 #[.int .i64 (d : Int), .pointer (some ⟨rb, 0, none⟩), .pointer (some ⟨kb, 0, none⟩), .pointer (some ⟨cb, 0, none⟩)] w1 (RetJ r s a w1 p))) :
    Calls Tryd.prog 50 #[.pointer (some ⟨cb, 0, none⟩), .pointer (some ⟨db, 0, none⟩)] w (RetJ r s a w p) := by
  have hne : w.heap.size ≠ r := fun e => by have := h.lt; omega
  have hrl := h.lt
  have k1 : Keeps w (w.alloc (.cells #[.int .i64 0, .int .i64 0, .string ⟨#[]⟩, .slice none 0 0, .slice none 0 0] 25)) := (Keeps.refl w).alloc _
  have c0 : w.cell? ⟨cb, 0, none⟩ = some (.func (.func 48) #[] #[.pointer (some ⟨rb, 0, none⟩), .pointer (some ⟨kb, 0, none⟩), .pointer (some ⟨cb, 0, none⟩)]) := by rw [Lib.cell_of_heap hcb]; rfl
  have c1 : w.cell? ⟨db, 0, none⟩ = some (.int .i64 ((d : Int) + 1)) := by rw [Lib.cell_of_heap hdb]; rfl
  have b0 := k1.cell c0
  have b1 := k1.cell c1
  have hs : (d : Int) + 1 - 1 = (d : Int) := by omega
  have HB := Lib.hid (heap_alloc_new w (.cells #[.int .i64 0, .int .i64 0, .string ⟨#[]⟩, .slice none 0 0, .slice none 0 0] 25))
  have K1 := Lib.hid k1
  clear h hcb hdb k1 c0 c1
  go_enter Tryd.func50, Tryd.ntmps50
  go_wp2_with fail
  refine (cC.out _ K1.out).mono ?_
  intro e w2 hj
  obtain ⟨jk, jn, jt, ka, kl, kc, ia, il, ic, rfl⟩ := hj.form
  have HB2 : Hid (w2.heap[w.heap.size]? = some (.cells #[.int .i64 0, .int .i64 0, .string ⟨#[]⟩, .slice none 0 0, .slice none 0 0] 25 (0, 0))) := Lib.hid ((hj.1.block _ (by simp) (by simpa using hne)).trans HB.out)
  have HJ := Lib.hid hj
  clear hj b0 b1
  obtain ⟨⟨c0, c1, c2, c3, c4⟩, f0, f1, f2, f3, f4⟩ := cells5 HB2.out
  go_wp2
  (try simp only [Exit.inBlock, Exit.then])
  refine ret_j w.heap.size _ rfl rfl (five_heap _ _ _ _ _ HB2.out) rfl rfl ?_
  exact RetJ.wrap hrl HJ.out
end Go.Proofs.YtljkeladdplhlaaDoor
