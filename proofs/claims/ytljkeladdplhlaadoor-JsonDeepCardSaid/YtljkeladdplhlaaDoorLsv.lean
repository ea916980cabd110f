/-
  What a list holds while it is read, of package json.
-/
import Derived.Test.YtljkeladdplhlaaDoorPcs
import Derived.Test.YtljkeladdplhlaaDoorLno
import Derived.Test.YtljkeladdplhlaaDoorLp
namespace Go.Proofs.YtljkeladdplhlaaDoor
open Go.RowKit

/-- Values in a row of cells, five each. -/
def Chunks (w : World) (F : Nat → Prop) : List J → List Value → Prop
  | [], xs => xs = []
  | j :: js, xs => ∃ c0 c1 c2 c3 c4 t, xs = c0 :: c1 :: c2 :: c3 :: c4 :: t ∧ IsJ w F j (.agg #[c0, c1, c2, c3, c4]) ∧ Chunks w F js t
theorem Chunks.turn {w w' : World} {F G : Nat → Prop} (k : ∀ i, F i → w'.heap[i]? = w.heap[i]?) (m : ∀ i, F i → G i) : ∀ (js : List J) (xs : List Value), Chunks w F js xs → Chunks w' G js xs
  | [], _, h => h
  | j :: js, _, ⟨c0, c1, c2, c3, c4, t, e, h1, h2⟩ => ⟨c0, c1, c2, c3, c4, t, e, (h1.keeps k).mono m, Chunks.turn k m js t h2⟩
theorem Chunks.snoc {w : World} {F : Nat → Prop} {j : J} {c0 c1 c2 c3 c4 : Value} (h : IsJ w F j (.agg #[c0, c1, c2, c3, c4])) : ∀ (js : List J) (xs : List Value), Chunks w F js xs → Chunks w F (js ++ [j]) (xs ++ [c0, c1, c2, c3, c4])
  | [], _, e => by
    have e : _ = [] := e
    subst e
    exact ⟨c0, c1, c2, c3, c4, [], rfl, h, rfl⟩
  | i :: js, _, ⟨d0, d1, d2, d3, d4, t, e, h1, h2⟩ => by
    subst e
    exact ⟨d0, d1, d2, d3, d4, t ++ [c0, c1, c2, c3, c4], rfl, h1, Chunks.snoc h js t h2⟩
theorem Chunks.are {w : World} {F : Nat → Prop} {g : Nat} : ∀ (js : List J) (xs : List Value) (o : Nat), Chunks w F js xs → CellsAt w g o xs → AreJ w F g o js
  | [], _, o, _, _ => by unfold AreJ; trivial
  | j :: js, _, o, ⟨c0, c1, c2, c3, c4, t, e, h1, h2⟩, hc => by
    subst e
    unfold AreJ
    refine ⟨⟨c0, c1, c2, c3, c4, fun k v hk => ?_, h1⟩, Chunks.are js t (o + 5) h2 fun k v hk => ?_⟩
    · refine hc k v ?_
      rcases k with _ | _ | _ | _ | _ | k
      all_goals (try exact hk)
      simp at hk
    · have := hc (5 + k) v (by rw [show (5 + k) = k + 5 by omega]; simpa using hk)
      rwa [show o + (5 + k) = o + 5 + k by omega] at this

/-- What reading inside a value wants of the world. -/
structure Ev (w : World) (r rb kb cb mb : Nat) : Prop where
  env : Env w r rb kb mb
  con : w.heap[cb]? = some (.cells #[.func (.func 48) #[] #[.pointer (some ⟨rb, 0, none⟩), .pointer (some ⟨kb, 0, none⟩), .pointer (some ⟨cb, 0, none⟩)]] 50 (0, 0))
  utf : Utf w
  ne : r ≠ rb ∧ r ≠ kb ∧ r ≠ cb ∧ r ≠ mb ∧ r ≠ 0 ∧ r ≠ 1
theorem Ev.keeps {w w' : World} {r rb kb cb mb : Nat} (h : Ev w r rb kb cb mb) (k : Keeps w w') : Ev w' r rb kb cb mb :=
  ⟨h.env.keeps k, (k.block _ (Array.getElem?_eq_some_iff.1 h.con).1).trans h.con, h.utf.keeps k, h.ne⟩
theorem Only.cell {X : List Nat} {w w' : World} (h : Only X w w') {p : Addr} {v : Value} (hc : w.cell? p = some v) (hx : p.block ∉ X) : w'.cell? p = some v := by
  obtain ⟨b, o, m⟩ := p
  exact (World.cell?_of_block (w := w) (h.block b (World.block_lt_of_cell? _ _ hc) hx)).trans hc
theorem Ev.only {X : List Nat} {w w' : World} {r rb kb cb mb : Nat} (h : Ev w r rb kb cb mb) (k : Only X w w') (hx : rb ∉ X ∧ kb ∉ X ∧ cb ∉ X ∧ mb ∉ X ∧ 0 ∉ X ∧ 1 ∉ X) : Ev w' r rb kb cb mb := by
  obtain ⟨h1, h2, h3, h4, h5, h6⟩ := hx
  refine ⟨⟨k.cell h.env.rd h1, k.cell h.env.mp h2, ?_⟩, (k.block _ (Array.getElem?_eq_some_iff.1 h.con).1 h3).trans h.con, ⟨fun c hc => k.cell (h.utf.1 c hc) h5, fun i hi => ⟨k.cell (h.utf.2 i hi).1 h6, k.cell (h.utf.2 i hi).2 h6⟩⟩, h.ne⟩
  obtain ⟨es, cl, e1, e2⟩ := h.env.kinds
  exact ⟨es, cl, (k.block _ (Array.getElem?_eq_some_iff.1 e1).1 h4).trans e1, e2⟩

/-- What a list's variable and its row hold, behind so many items. -/
def InvL (B vb : Nat) (w : World) (acc : List J) (b : Nat) : Prop :=
  acc.length ≤ b ∧ B ≤ w.heap.size ∧ ∃ ov xs, w.heap[vb]? = some (.cells #[.int .i64 5, .int .i64 0, .string ⟨#[]⟩, .slice none 0 0, ov] 25 (0, 0)) ∧ w.ownsRow B 25 5 ov acc.length xs ∧ Chunks w (fun i => B ≤ i ∧ i < w.heap.size ∧ ov.ownBlock ≠ some i) acc xs
theorem own_base {w : World} {B e size n : Nat} {ov : Value} {xs : List Value} (h : w.ownsRow B e size ov n xs) {i : Nat} (hi : i < B) : ov.ownBlock ≠ some i := by
  rcases h.2 with ⟨h1, _⟩ | ⟨g, cap, cur, h1, h2, _⟩
  · rw [h1]; simp [Value.ownBlock]
  · rw [h1]; simp [Value.ownBlock]; omega
theorem own_lt {w : World} {B e size n : Nat} {ov : Value} {xs : List Value} (h : w.ownsRow B e size ov n xs) {i : Nat} (hi : ov.ownBlock = some i) : i < w.heap.size := by
  rcases h.2 with ⟨h1, _⟩ | ⟨g, cap, cur, h1, h2, h3, _⟩
  · rw [h1] at hi; simp [Value.ownBlock] at hi
  · rw [h1] at hi; simp [Value.ownBlock] at hi; subst hi; exact (Array.getElem?_eq_some_iff.1 h3).1
theorem own_block {w w' : World} {B e size n : Nat} {ov : Value} {xs : List Value} (h : w.ownsRow B e size ov n xs) (k : ∀ i, ov.ownBlock = some i → w'.heap[i]? = w.heap[i]?) : w'.ownsRow B e size ov n xs := by
  rcases h.2 with ⟨h1, h2⟩ | ⟨g, cap, cur, h1, h2, h3, h4⟩
  · exact ⟨h.1, .inl ⟨h1, h2⟩⟩
  · exact ⟨h.1, .inr ⟨g, cap, cur, h1, h2, (k g (by rw [h1]; rfl)).trans h3, h4⟩⟩
theorem InvL.turn {B vb r : Nat} {w w' : World} {acc : List J} {b c : Nat} (hr : r < B) (hv : r ≠ vb) (h : InvL B vb w acc b) (hbc : b ≤ c) (k : Only [r] w w') : InvL B vb w' acc c := by
  obtain ⟨h1, h2, ov, xs, h3, h4, h5⟩ := h
  have hk : ∀ i, B ≤ i → i < w.heap.size → w'.heap[i]? = w.heap[i]? := fun i hi hl => k.block i hl (by simp; omega)
  refine ⟨Nat.le_trans h1 hbc, Nat.le_trans h2 k.size, ov, xs, (k.block vb (Array.getElem?_eq_some_iff.1 h3).1 (by simp; exact Ne.symm hv)).trans h3, own_block h4 (fun i hi => hk i ?_ (own_lt h4 hi)), Chunks.turn (fun i hi => hk i hi.1 hi.2.1) (fun i hi => ⟨hi.1, Nat.lt_of_lt_of_le hi.2.1 k.size, hi.2.2⟩) _ _ h5⟩
  rcases Nat.lt_or_ge i B with hl | hl
  · exact absurd hi (own_base h4 hl)
  · exact hl

/-- A piece more. -/
theorem InvL.more {B vb r : Nat} {w w2 X w1 : World} {acc : List J} {b n : Nat} {j : J} {v0 v1 v2 v3 v4 : Value} {ov : Value} {xs : List Value} {oa : Option Addr} {oc : Nat} (hr : r < B) (hv : r ≠ vb) (hvB : vb < B) (hB : B = w1.heap.size) (ho1 : Only [r, vb] w1 w)
    (h1 : acc.length ≤ b) (h2 : B ≤ w.heap.size) (h4 : w.ownsRow B 25 5 ov acc.length xs) (h5 : Chunks w (fun i => B ≤ i ∧ i < w.heap.size ∧ ov.ownBlock ≠ some i) acc xs)
    (k : Only [r] w w2) (he : ov = .slice oa acc.length oc) (hp : PieceOK B acc.length vb oa oc xs [v0, v1, v2, v3, v4] w2 X) :
    Only [r, vb] w1 X ∧ (∀ s a, Rd w2 r s a → Rd X r s a) ∧ (IsJ w2 (fun i => w.heap.size ≤ i ∧ i < w2.heap.size) j (.agg #[v0, v1, v2, v3, v4]) → InvL B vb X (acc ++ [j]) (b + n + 1)) := by
  obtain ⟨⟨gg, cap, p1, p2, p3, p4⟩, pos, ptape, pout, psize, pblock⟩ := hp
  rw [← he] at p3 pblock
  refine ⟨⟨pos.trans (k.os.trans ho1.os), ptape.trans (k.tape.trans ho1.tape), pout.trans (k.output.trans ho1.output), Nat.le_trans ho1.size (Nat.le_trans k.size psize), fun i hi hx => ?_⟩, fun s a hd => ?_, fun hj => ?_⟩
  · simp at hx
    rw [pblock i (by have := ho1.size; have := k.size; omega) hx.2 (own_base h4 (by omega)), k.block i (by have := ho1.size; omega) (by simp; exact hx.1), ho1.block i hi (by simp; exact hx)]
  · exact (pblock r hd.lt hv (own_base h4 hr)).trans hd
  · have hgg : ov.ownBlock = some gg ∨ w2.heap.size ≤ gg := p3
    have hk1 : ∀ i, B ≤ i → i < w.heap.size → w2.heap[i]? = w.heap[i]? := fun i hi hl => k.block i hl (by simp; omega)
    have hgX : gg < X.heap.size := own_lt p1 rfl
    refine ⟨by simp; omega, by have := k.size; omega, _, _, p2, by simpa using p1, Chunks.snoc ?_ _ _ ?_⟩
    · refine IsJ.mono (F := fun i => w.heap.size ≤ i ∧ i < w2.heap.size) (fun i hi => ⟨by omega, by omega, fun e => ?_⟩) _ _ (IsJ.keeps (fun i hi => pblock i hi.2 (by omega) (fun e => ?_)) _ _ hj)
      · have := own_lt h4 e; omega
      · have e : gg = i := Option.some.inj e
        subst e
        rcases hgg with h | h
        · have := own_lt h4 h; omega
        · omega
    · refine Chunks.turn (fun i hi => ?_) (fun i hi => ⟨hi.1, by have := hi.2.1; have := k.size; omega, fun e => ?_⟩) _ _ h5
      · rw [pblock i (by have := hi.2.1; have := k.size; omega) (by have := hi.1; omega) hi.2.2, hk1 i hi.1 hi.2.1]
      · have e : gg = i := Option.some.inj e
        subst e
        rcases hgg with h | h
        · exact hi.2.2 h
        · have := hi.2.1; have := k.size; omega
end Go.Proofs.YtljkeladdplhlaaDoor
namespace Go.Proofs.YtljkeladdplhlaaDoor
open Go.RowKit

/-- The reading inside, at a depth: what the induction hands on. -/
def Cond (r : Nat) (s : ByteArray) (rb kb cb mb d : Nat) : Prop :=
  ∀ (w : World) (a : Nat), Rd w r s a → Ev w r rb kb cb mb → a ≤ s.size → Calls Tryd.prog 48 #[.int .i64 (d : Int), .pointer (some ⟨rb, 0, none⟩), .pointer (some ⟨kb, 0, none⟩), .pointer (some ⟨cb, 0, none⟩)] w (RetJ r s a w (valueJ d (s.data.toList.drop a)))

theorem item_any (r : Nat) (s : ByteArray) (rb kb cb mb db d : Nat) (hC : Cond r s rb kb cb mb d) (hd : d ≤ 8) (w : World) (a : Nat) (h : Rd w r s a) (hv : Ev w r rb kb cb mb) (hdb : w.heap[db]? = some (.cells #[.int .i64 ((d : Int) + 1)] 3 (0, 0))) (ha : a ≤ s.size) :
    Calls Tryd.prog 50 #[.pointer (some ⟨cb, 0, none⟩), .pointer (some ⟨db, 0, none⟩)] w (RetJ r s a w (valueJ d (s.data.toList.drop a))) :=
  inside_any r s a rb kb cb db d _ w h hd hv.con hdb (Lib.hid fun w1 k => hC w1 a (h.keeps k) (hv.keeps k) ha)

theorem listpiece_all (r : Nat) (s : ByteArray) (rb kb cb mb db d ib vb : Nat) (hC : Cond r s rb kb cb mb d) (hd : d ≤ 8) (w1 : World) (hr : r < w1.heap.size) (hvb : vb < w1.heap.size) (hrv : r ≠ vb) (hrd : r ≠ db) (hvd : vb ≠ db)
    (hv : Ev w1 r rb kb cb mb) (hx : rb ≠ vb ∧ kb ≠ vb ∧ cb ≠ vb ∧ mb ≠ vb ∧ 0 ≠ vb ∧ 1 ≠ vb) (hdb : w1.heap[db]? = some (.cells #[.int .i64 ((d : Int) + 1)] 3 (0, 0)))
    (hib : w1.cell? ⟨ib, 0, none⟩ = some (.func (.func 50) #[] #[.pointer (some ⟨cb, 0, none⟩), .pointer (some ⟨db, 0, none⟩)])) (hri : ib ≠ r ∧ ib ≠ vb) (hs : s.size ≤ 100000)
    (w : World) (acc : List J) (b : Nat) (hb : b ≤ s.size) (ho : Only [r, vb] w1 w) (hR : Rd w r s b) (hi : InvL w1.heap.size vb w acc b) :
    Calls Tryd.prog 81 #[.pointer (some ⟨ib, 0, none⟩), .pointer (some ⟨vb, 0, none⟩)] w (PieceRet r s [r, vb] w1 (InvL w1.heap.size vb) 1 b (stepL (valueJ d) (s.data.toList.drop b) acc)) := by
  obtain ⟨h1, h2, ov, xs, h3, h4, h5⟩ := hi
  have hne := hv.ne
  have hv' : Ev w r rb kb cb mb := hv.only ho (by simp; omega)
  have hdb' : w.heap[db]? = some (.cells #[.int .i64 ((d : Int) + 1)] 3 (0, 0)) := (ho.block db (Array.getElem?_eq_some_iff.1 hdb).1 (by simp; omega)).trans hdb
  have hc := item_any r s rb kb cb mb db d hC hd w b hR hv' hdb' hb
  have hp := listpiece_any r ib vb cb db w1.heap.size acc.length ov xs ((valueJ d (s.data.toList.drop b)).2.2 : Int) (fun w2 vs => RetJ r s b w (valueJ d (s.data.toList.drop b)) (.returned (.tuple #[.agg vs.toArray, .int .i64 ((valueJ d (s.data.toList.drop b)).2.2 : Int)])) w2) w
    (ho.cell hib (by simp; omega)) h3 h4 (by omega) hrv (own_base h4 hvb) (own_base h4 hr) h2 (Lib.hid (hc.mono fun e w2 h => by
      obtain ⟨jk, jn, jt, ka, kl, kc, ia, il, ic, rfl⟩ := h.form
      exact ⟨h.1, jk, jn, jt, ka, kl, kc, ia, il, ic, rfl, h⟩))
  refine hp.mono ?_
  rintro e X ⟨rfl, w2, vs, k, hj, oa, oc, he, hpo⟩
  obtain ⟨jk, jn, jt, ka, kl, kc, ia, il, ic, hf⟩ := hj.form
  have hvs : vs.toArray = #[.int .i64 jk, .int .i64 jn, .string jt, .slice ka kl kc, .slice ia il ic] := by
    have := congrArg (fun e : Ending => match e with | .returned (.tuple a) => a[0]? | _ => none) hf
    simpa using this
  obtain rfl : vs = [.int .i64 jk, .int .i64 jn, .string jt, .slice ka kl kc, .slice ia il ic] := by
    have := congrArg Array.toList hvs
    simpa using this
  obtain ⟨m1, m2, m3⟩ := InvL.more (j := (valueJ d (s.data.toList.drop b)).1) (n := (valueJ d (s.data.toList.drop b)).2.1) hr hrv hvb rfl ho h1 h2 h4 h5 k he hpo
  refine ⟨rfl, m1, fun hz => ?_⟩
  obtain ⟨v, hv1, hv2, hv3⟩ := hj.2.1 hz
  have hv1' : v = .agg #[.int .i64 jk, .int .i64 jn, .string jt, .slice ka kl kc, .slice ia il ic] := by
    have := congrArg (fun e : Ending => match e with | .returned (.tuple a) => a[0]? | _ => none) hv1
    simpa using this.symm
  subst hv1'
  exact ⟨m2 _ _ hv3, m3 hv2⟩


theorem list_world (r : Nat) (s : ByteArray) (a : Nat) (rb kb cb mb db d : Nat) (hC : Cond r s rb kb cb mb d) (hd : d ≤ 8) (w : World) (h : Rd w r s a) (hv : Ev w r rb kb cb mb) (hdb : w.heap[db]? = some (.cells #[.int .i64 ((d : Int) + 1)] 3 (0, 0))) (hrd : r ≠ db) (hlt : a < s.size) (hs : s.size ≤ 100000) :
    Calls Tryd.prog 80 #[.pointer (some ⟨r, 0, none⟩), .int .u8 93, .func (.func 81) #[] #[.pointer (some ⟨w.heap.size, 0, none⟩), .pointer (some ⟨w.heap.size + 1 + 1, 0, none⟩)]] (((w.alloc (.cells #[.func (.func 50) #[] #[.pointer (some ⟨cb, 0, none⟩), .pointer (some ⟨db, 0, none⟩)]] 92)).alloc (.cells #[.int .i64 0, .int .i64 0, .string ⟨#[]⟩, .slice none 0 0, .slice none 0 0] 25)).alloc (.cells #[.int .i64 5, .int .i64 0, .string ⟨#[]⟩, .slice none 0 0, .slice none 0 0] 25))
      (PieceRet r s [r, w.heap.size + 1 + 1] (((w.alloc (.cells #[.func (.func 50) #[] #[.pointer (some ⟨cb, 0, none⟩), .pointer (some ⟨db, 0, none⟩)]] 92)).alloc (.cells #[.int .i64 0, .int .i64 0, .string ⟨#[]⟩, .slice none 0 0, .slice none 0 0] 25)).alloc (.cells #[.int .i64 5, .int .i64 0, .string ⟨#[]⟩, .slice none 0 0, .slice none 0 0] 25)) (InvL (w.heap.size + 3) (w.heap.size + 1 + 1)) 0 a (piecesP (stepL (valueJ d)) 93 (s.data.toList.drop a) [])) := by
  have hk : Keeps w (((w.alloc (.cells #[.func (.func 50) #[] #[.pointer (some ⟨cb, 0, none⟩), .pointer (some ⟨db, 0, none⟩)]] 92)).alloc (.cells #[.int .i64 0, .int .i64 0, .string ⟨#[]⟩, .slice none 0 0, .slice none 0 0] 25)).alloc (.cells #[.int .i64 5, .int .i64 0, .string ⟨#[]⟩, .slice none 0 0, .slice none 0 0] 25)) := (((Keeps.refl w).alloc _).alloc _).alloc _
  have hz : (((w.alloc (.cells #[.func (.func 50) #[] #[.pointer (some ⟨cb, 0, none⟩), .pointer (some ⟨db, 0, none⟩)]] 92)).alloc (.cells #[.int .i64 0, .int .i64 0, .string ⟨#[]⟩, .slice none 0 0, .slice none 0 0] 25)).alloc (.cells #[.int .i64 5, .int .i64 0, .string ⟨#[]⟩, .slice none 0 0, .slice none 0 0] 25)).heap.size = w.heap.size + 3 := by simp
  have hib : (((w.alloc (.cells #[.func (.func 50) #[] #[.pointer (some ⟨cb, 0, none⟩), .pointer (some ⟨db, 0, none⟩)]] 92)).alloc (.cells #[.int .i64 0, .int .i64 0, .string ⟨#[]⟩, .slice none 0 0, .slice none 0 0] 25)).alloc (.cells #[.int .i64 5, .int .i64 0, .string ⟨#[]⟩, .slice none 0 0, .slice none 0 0] 25)).cell? ⟨w.heap.size, 0, none⟩ = some (.func (.func 50) #[] #[.pointer (some ⟨cb, 0, none⟩), .pointer (some ⟨db, 0, none⟩)]) := by
    rw [Lib.cell_of_heap ((Below.heap_alloc _ _ _ (by simp; omega)).trans ((Below.heap_alloc _ _ _ (by simp)).trans (heap_alloc_new w _)))]; rfl
  have hvb : (((w.alloc (.cells #[.func (.func 50) #[] #[.pointer (some ⟨cb, 0, none⟩), .pointer (some ⟨db, 0, none⟩)]] 92)).alloc (.cells #[.int .i64 0, .int .i64 0, .string ⟨#[]⟩, .slice none 0 0, .slice none 0 0] 25)).alloc (.cells #[.int .i64 5, .int .i64 0, .string ⟨#[]⟩, .slice none 0 0, .slice none 0 0] 25)).heap[w.heap.size + 1 + 1]? = some (.cells #[.int .i64 5, .int .i64 0, .string ⟨#[]⟩, .slice none 0 0, .slice none 0 0] 25 (0, 0)) := by
    have := heap_alloc_new ((w.alloc (.cells #[.func (.func 50) #[] #[.pointer (some ⟨cb, 0, none⟩), .pointer (some ⟨db, 0, none⟩)]] 92)).alloc (.cells #[.int .i64 0, .int .i64 0, .string ⟨#[]⟩, .slice none 0 0, .slice none 0 0] 25)) (.cells #[.int .i64 5, .int .i64 0, .string ⟨#[]⟩, .slice none 0 0, .slice none 0 0] 25)
    rwa [show ((w.alloc (.cells #[.func (.func 50) #[] #[.pointer (some ⟨cb, 0, none⟩), .pointer (some ⟨db, 0, none⟩)]] 92)).alloc (.cells #[.int .i64 0, .int .i64 0, .string ⟨#[]⟩, .slice none 0 0, .slice none 0 0] 25)).heap.size = w.heap.size + 1 + 1 by simp] at this
  have hR := h.keeps hk
  have hE := hv.keeps hk
  have hD := (hk.block db (Array.getElem?_eq_some_iff.1 hdb).1).trans hdb
  have hrl := h.lt
  have hdl := (Array.getElem?_eq_some_iff.1 hdb).1
  have hrb := World.block_lt_of_cell? _ _ hv.env.rd
  have hkb := World.block_lt_of_cell? _ _ hv.env.mp
  have hcb := (Array.getElem?_eq_some_iff.1 hv.con).1
  have hmb : mb < w.heap.size := by obtain ⟨es, cl, e1, _⟩ := hv.env.kinds; exact (Array.getElem?_eq_some_iff.1 e1).1
  have h0 : 0 < w.heap.size := by omega
  have h1 : 1 < w.heap.size := World.block_lt_of_cell? _ _ (hv.utf.2 0 (by omega)).1
  generalize (((w.alloc (.cells #[.func (.func 50) #[] #[.pointer (some ⟨cb, 0, none⟩), .pointer (some ⟨db, 0, none⟩)]] 92)).alloc (.cells #[.int .i64 0, .int .i64 0, .string ⟨#[]⟩, .slice none 0 0, .slice none 0 0] 25)).alloc (.cells #[.int .i64 5, .int .i64 0, .string ⟨#[]⟩, .slice none 0 0, .slice none 0 0] 25)) = W at *
  rw [← hz]
  refine pieces_any r s a [r, w.heap.size + 1 + 1] W 81 _ 93 93 (InvL W.heap.size (w.heap.size + 1 + 1)) (stepL (valueJ d)) [] W hR hlt hs (by simp) (Only.refl _ _) ?_ rfl (by decide) (by decide) (fun _ => by kernel_rfl)
    (fun w w' st b c hi hbc k => hi.turn (by omega) (by omega) hbc k) (stepL_le _ (valueJ_le d)) ?_
  · exact ⟨Nat.zero_le _, Nat.le_refl _, .slice none 0 0, [], hvb, ⟨rfl, .inl ⟨rfl, rfl⟩⟩, rfl⟩
  · intro w' st b hb ho hr hi
    exact listpiece_all r s rb kb cb mb db d w.heap.size (w.heap.size + 1 + 1) hC hd W (by omega) (by omega) (by omega) hrd (by omega) hE (by simp only at hrb hkb; omega) hD hib (by omega) hs w' st b hb ho hr hi

theorem IsJ.list {B vb : Nat} {w w' : World} {acc : List J} {b : Nat} {F : Nat → Prop} {ov : Value} {xs : List Value} (h4 : w.ownsRow B 25 5 ov acc.length xs) (h5 : Chunks w (fun i => B ≤ i ∧ i < w.heap.size ∧ ov.ownBlock ≠ some i) acc xs)
    (k : ∀ i, B ≤ i → i < w.heap.size → w'.heap[i]? = w.heap[i]?) (hF : ∀ i, B ≤ i → i < w.heap.size → F i) : IsJ w' F (.mk 5 0 [] [] acc) (.agg #[.int .i64 5, .int .i64 0, .string ⟨#[]⟩, .slice none 0 0, ov]) := by
  unfold IsJ
  refine ⟨_, _, rfl, .inl ⟨rfl, rfl⟩, ?_⟩
  rcases h4.2 with ⟨e1, e2⟩ | ⟨g, cap, cur, e1, e2, e3, _⟩
  · exact .inl ⟨e1, List.eq_nil_of_length_eq_zero e2⟩
  · have hgl := (Array.getElem?_eq_some_iff.1 e3).1
    refine .inr ⟨g, 0, cap, e1, hF g e2 hgl, ?_⟩
    refine AreJ.mono (F := fun i => B ≤ i ∧ i < w.heap.size ∧ ov.ownBlock ≠ some i) (fun i hi => hF i hi.1 hi.2.1) _ _ _ (AreJ.keeps (fun i hi => k i hi.1 hi.2.1) _ _ (k g e2 hgl) _ (Chunks.are _ _ 0 h5 fun j v hj => ?_))
    subst e1
    rw [Nat.zero_add, World.ownsRow.cellAt h4 j (by have := (List.getElem?_eq_some_iff.1 hj).1; have := h4.1; omega)]
    exact hj

set_option maxHeartbeats 4000000 in
set_option maxRecDepth 100000 in
theorem list_any (r : Nat) (s : ByteArray) (a : Nat) (rb kb cb mb db d : Nat) (hC : Cond r s rb kb cb mb d) (hd : d ≤ 8) (w : World) (h : Rd w r s a) (hv : Ev w r rb kb cb mb) (hdb : w.heap[db]? = some (.cells #[.int .i64 ((d : Int) + 1)] 3 (0, 0))) (hrd : r ≠ db) (hlt : a < s.size) (hs : s.size ≤ 100000) :
    Calls Tryd.prog 68 #[.pointer (some ⟨r, 0, none⟩), .func (.func 50) #[] #[.pointer (some ⟨cb, 0, none⟩), .pointer (some ⟨db, 0, none⟩)]] w (RetJ r s a w (listJ (valueJ d) (s.data.toList.drop a))) := by
  have hq : ∀ W, (binOp BinOp.eql 92 (Value.func (.func 50) #[] #[.pointer (some ⟨cb, 0, none⟩), .pointer (some ⟨db, 0, none⟩)]) Value.nilFunc).run Tryd.prog W = .ok (.bool false) W := fun _ => by kernel_rfl
  have cP := Lib.hid (list_world r s a rb kb cb mb db d hC hd w h hv hdb hrd hlt hs)
  have hL := Lib.hid (listJ_is (valueJ d) (s.data.toList.drop a))
  have HK : Hid (Keeps w (((w.alloc (.cells #[.func (.func 50) #[] #[.pointer (some ⟨cb, 0, none⟩), .pointer (some ⟨db, 0, none⟩)]] 92)).alloc (.cells #[.int .i64 0, .int .i64 0, .string ⟨#[]⟩, .slice none 0 0, .slice none 0 0] 25)).alloc (.cells #[.int .i64 5, .int .i64 0, .string ⟨#[]⟩, .slice none 0 0, .slice none 0 0] 25))) := Lib.hid ((((Keeps.refl w).alloc _).alloc _).alloc _)
  have HZ : Hid ((((w.alloc (.cells #[.func (.func 50) #[] #[.pointer (some ⟨cb, 0, none⟩), .pointer (some ⟨db, 0, none⟩)]] 92)).alloc (.cells #[.int .i64 0, .int .i64 0, .string ⟨#[]⟩, .slice none 0 0, .slice none 0 0] 25)).alloc (.cells #[.int .i64 5, .int .i64 0, .string ⟨#[]⟩, .slice none 0 0, .slice none 0 0] 25)).heap.size = w.heap.size + 3) := Lib.hid (by simp)
  have HB : Hid ((((w.alloc (.cells #[.func (.func 50) #[] #[.pointer (some ⟨cb, 0, none⟩), .pointer (some ⟨db, 0, none⟩)]] 92)).alloc (.cells #[.int .i64 0, .int .i64 0, .string ⟨#[]⟩, .slice none 0 0, .slice none 0 0] 25)).alloc (.cells #[.int .i64 5, .int .i64 0, .string ⟨#[]⟩, .slice none 0 0, .slice none 0 0] 25)).heap[w.heap.size + 1]? = some (.cells #[.int .i64 0, .int .i64 0, .string ⟨#[]⟩, .slice none 0 0, .slice none 0 0] 25 (0, 0))) := Lib.hid ((Below.heap_alloc _ _ _ (by simp)).trans (heap_two' w _ _))
  have hrl := h.lt
  generalize piecesP (stepL (valueJ d)) 93 (s.data.toList.drop a) [] = P at *
  obtain ⟨acc, n, x⟩ := P
  clear hC h hv hdb
  go_enter Tryd.func68, Tryd.ntmps68
  go_wp2_with fail
  refine cP.out.mono ?_
  rintro e w2 ⟨rfl, ho, hk⟩
  have hB2 : w2.heap[w.heap.size + 1]? = some (.cells #[.int .i64 0, .int .i64 0, .string ⟨#[]⟩, .slice none 0 0, .slice none 0 0] 25 (0, 0)) := (ho.block _ (by rw [HZ.out]; omega) (by simp; omega)).trans HB.out
  have HB2 := Lib.hid hB2
  have hO : Only [r] w w2 := ⟨ho.os.trans HK.out.os, ho.tape.trans HK.out.tape, ho.output.trans HK.out.output, Nat.le_trans HK.out.size ho.size, fun i hi hx => (ho.block i (Nat.lt_of_lt_of_le hi HK.out.size) (by simp at hx ⊢; omega)).trans (HK.out.block i hi)⟩
  have HO := Lib.hid hO
  have hz2 : w.heap.size + 3 ≤ w2.heap.size := by have := ho.size; rw [HZ.out] at this; exact this
  clear hB2 hO ho cP HB HK HZ
  obtain ⟨⟨b0, b1, b2, b3, b4⟩, g0, g1, g2, g3, g4⟩ := cells5 HB2.out
  by_cases hx : x = 0
  · subst hx
    obtain ⟨hr, _, _, ov, xs, h3, h4, h5⟩ := hk rfl
    obtain ⟨oa, ol, oc, rfl⟩ : ∃ oa ol oc, ov = .slice oa ol oc := by
      rcases h4.2 with ⟨e1, _⟩ | ⟨g, cap, cur, e1, _⟩ <;> exact ⟨_, _, _, e1⟩
    have H4 := Lib.hid h4
    have H5 := Lib.hid h5
    have HR := Lib.hid hr
    have hcv := (cells5 h3).1
    obtain ⟨v0, v1, v2, v3, v4⟩ := hcv
    have hL2 := Lib.hid (hL.out.1 rfl)
    clear hL hk hr h3 h4 h5
    go_wp2
    (try simp only [Exit.inBlock, Exit.then])
    refine ret_j (w.heap.size + 1) _ rfl rfl (five_heap _ _ _ _ _ HB2.out) rfl rfl ?_
    rw [hL2.out]
    have hO5 : Only [w.heap.size + 1] w2 (five w2 (w.heap.size + 1) (.int .i64 5) (.int .i64 0) (.string ⟨#[]⟩) (.slice none 0 0) (.slice oa ol oc)) := (Only.refl _ w2).five _ (.inl (by simp)) _ _ _ _ _
    exact RetJ.good (HO.out.five _ (.inr (by omega)) _ _ _ _ _) (IsJ.list (B := w.heap.size + 3) (vb := 0) (b := 0) H4.out H5.out (fun i hi hl => hO5.block i hl (by simp; omega)) (fun i hi hl => ⟨by omega, Nat.lt_of_lt_of_le hl hO5.size⟩)) (HR.out.five (by omega) _ _ _ _ _)
  · have f9 : ((x : Int) != 0) = true := by simp; omega
    have hL2 := Lib.hid (hL.out.2 hx)
    have hx' := Lib.hid hx
    clear hL hk hx
    go_wp2
    (try simp only [Exit.inBlock, Exit.then])
    refine ret_j (w.heap.size + 1) _ rfl rfl (five_heap _ _ _ _ _ HB2.out) rfl rfl ?_
    rw [hL2.out]
    exact RetJ.bad (HO.out.five _ (.inr (by omega)) _ _ _ _ _) hx'.out
end Go.Proofs.YtljkeladdplhlaaDoor
