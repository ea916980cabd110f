/-
  Rows of bytes that grow, beside blocks that are no rows of bytes; appendNumber.
-/
import Derived.Test.YtpcfcbaapnkanaaCk
namespace Go.Proofs.Ytpcfcbaapnkanaa
open Go.RowKit

/-- All below B, and each block that is no row of bytes, stands as it stood. -/
structure Gr (B : Nat) (w w' : World) : Prop where
  b : Below B w w'
  k : ∀ (i : Nat) (o : Obj), w.heap[i]? = some o → (∀ cs, o ≠ Obj.cells cs 5 (0, 0)) → w'.heap[i]? = some o
theorem Gr.refl (B : Nat) (w : World) : Gr B w w := ⟨Below.refl _ _, fun _ _ h _ => h⟩
theorem Gr.trans {B : Nat} {a b c : World} (h : Gr B a b) (k : Gr B b c) : Gr B a c := ⟨h.b.trans k.b, fun i o hi ho => k.k i o (h.k i o hi ho) ho⟩
theorem Gr.of_keeps {B : Nat} {a b : World} (hB : B ≤ a.heap.size) (h : Keeps a b) : Gr B a b := ⟨Below.mono h hB, fun i o hi _ => (h.block i (blk_lt hi)).trans hi⟩
theorem Gr.alloc {B : Nat} {a b : World} (h : Gr B a b) (hB : B ≤ b.heap.size) (o : Obj) : Gr B a (b.alloc o) := h.trans (Gr.of_keeps hB ((Keeps.refl b).alloc o))
theorem Gr.grown {B : Nat} {a b c : World} {v : Value} {l : List UInt8} (h : Gr B a b) (ho : Owns b B v l) (hB : B ≤ b.heap.size) (g : b.grownBy c v.ownBlock) : Gr B a c := by
  refine h.trans ⟨(Below.refl B b).grown g hB (fun k hk => (World.ownsRow.lt ho k hk).1), fun i o hi hn => ?_⟩
  refine (g.block i (blk_lt hi) fun e => ?_).trans hi
  rcases ho.2 with ⟨rfl, _⟩ | ⟨g0, cap, cur, rfl, _, hg, _⟩
  · simp [Value.ownBlock] at e
  · simp [Value.ownBlock] at e
    subst e
    rw [hg] at hi
    injection hi with hi
    exact hn cur hi.symm
theorem Gr.size {B : Nat} {a b : World} (h : Gr B a b) : a.heap.size ≤ b.heap.size := h.b.size
theorem Keeps.gr {w0 a b : World} (h : Keeps w0 a) (k : Gr w0.heap.size a b) : Keeps w0 b := Below.trans h k.b
theorem MsB.gr {B : Nat} {w w' : World} {g : Nat} {m : Ms} (h : MsB w g m) (k : Gr B w w') : MsB w' g m := k.k _ _ h (fun cs e => by injection e with _ e2 _; cases e2)
theorem ScB.gr {B : Nat} {w w' : World} {g : Nat} {bot : List UInt8} {q : Int} {A : Option Addr} {n c : Nat} (h : ScB w g bot q A n c) (k : Gr B w w') : ScB w' g bot q A n c := k.k _ _ h (fun cs e => by injection e with _ e2 _; cases e2)

theorem cell_new2 (w : World) (x y x' y' : Int) (h : x = x') (h2 : y = y') : ∀ j u, ([Value.int .u8 x', .int .u8 y'] : List Value)[j]? = some u → (w.alloc (.cells #[.int .u8 x, .int .u8 y] 5)).cell? ((⟨w.heap.size, 0, none⟩ : Addr).add j) = some u := by
  subst h h2
  intro j u hj
  have ea : (⟨w.heap.size, 0, none⟩ : Addr).add j = ⟨w.heap.size, j, none⟩ := by
    unfold Addr.add; split <;> simp_all
  rw [ea, World.cell?_alloc_at _ _ _ _ rfl]
  simpa using hj
theorem two_cell (x y : Int) : ∀ u ∈ ([Value.int .u8 x, .int .u8 y] : List Value), u.oneCell' = true := by intro u hu; simp at hu; rcases hu with rfl | rfl <;> rfl

/-- What an append comes to. -/
def Apd (B : Nat) (w : World) (l : List UInt8) (e : Ending) (w' : World) : Prop := ∃ v, e = .returned v ∧ Owns w' B v l ∧ Gr B w w'

set_option maxHeartbeats 4000000 in
set_option maxRecDepth 10000 in
theorem num2_any (v : Value) (l : List UInt8) (n : Nat) (B : Nat) (w : World) (hn : n < 65536) (hl : l.length ≤ 10000000) (hB : B ≤ w.heap.size) (hv : Owns w B v l) :
    Calls Try.prog 24 #[v, .int .i64 n] w (Apd B w (l ++ PS.num2 n)) := by
  obtain ⟨i0, hi, hz0, hz1, hz2⟩ := info_parts info5
  have ha := Lib.hid (show ((UInt8.ofNat (n / 256)).toNat : Int) = (n : Int) / 256 from by rw [UInt8.toNat_ofNat_of_lt' (by show n / 256 < 256; omega)]; omega)
  have hb := Lib.hid (show ((UInt8.ofNat (n % 256)).toNat : Int) = (n : Int) % 256 from by rw [UInt8.toNat_ofNat_of_lt' (by show n % 256 < 256; omega)]; omega)
  have e0 : PS.num2 n = [UInt8.ofNat (n / 256), UInt8.ofNat (n % 256)] := rfl
  rw [e0]
  clear e0
  generalize UInt8.ofNat (n / 256) = a at *
  generalize UInt8.ofNat (n % 256) = b at *
  go_enter Try.func24, Try.ntmps24
  go_wp2_with (at_builtin; refine wpList_append_own _ rfl (.tmp 5) (.tmp 11) 48 rfl B 5 i0 (.int .u8 0) 1 1 Try.underlying48 hi hz0 hz1 hz2 rfl (by decide) _ _ _ rfl (World.ownsRow.alloc hv _) ⟨w.heap.size, 0, none⟩ 2 2 [.int .u8 (a.toNat : Int), .int .u8 (b.toNat : Int)] rfl rfl ?c1 ?c2 ?c3 ?c4 ?c5 ?_)
  case c1 => exact cell_new2 _ _ _ _ _ (by rw [ha.out]) (by rw [hb.out])
  case c2 => exact two_cell _ _
  case c3 => unfold maxLen; omega
  case c4 => omega
  case c5 => simp; omega
  intro v' w' hown hgrow _
  have hgr : Gr B w w' := ((Gr.refl B w).alloc hB _).grown (World.ownsRow.alloc hv _) (by simp; omega) hgrow
  have hown2 : Owns w' B v' (l ++ [a, b]) := by simpa [Owns, bv] using hown
  clear hown hgrow
  go_wp2
  go_ret
  exact ⟨_, rfl, hown2, hgr⟩
end Go.Proofs.Ytpcfcbaapnkanaa
