/-
  An object, of package json: its pieces; the object whole.
-/
import Derived.Test.YtljkeladdplhlaaDoorObq
import Derived.Carry
namespace Go.Proofs.YtljkeladdplhlaaDoor
open Go.RowKit

/-- What an object's variable, its rows and its map hold, behind so many pieces. -/
def InvO (B vb mm : Nat) (w : World) (st : List (List UInt8) × List J) (b : Nat) : Prop :=
  st.1.length = st.2.length ∧ st.2.length ≤ b ∧ B ≤ w.heap.size ∧ Seen w mm st.2.length st.1 ∧ ∃ ka kc ia ic xs,
    w.heap[vb]? = some (.cells #[.int .i64 6, .int .i64 0, .string ⟨#[]⟩, .slice ka st.2.length kc, .slice ia st.2.length ic] 25 (0, 0)) ∧
    w.ownsRow B 9 1 (.slice ka st.2.length kc) st.2.length (st.1.map fun k => .string (S k)) ∧ w.ownsRow B 25 5 (.slice ia st.2.length ic) st.2.length xs ∧
    (∀ g, (Value.slice ka st.2.length kc).ownBlock = some g → (Value.slice ia st.2.length ic).ownBlock ≠ some g) ∧
    Chunks w (fun i => B ≤ i ∧ i < w.heap.size ∧ (Value.slice ia st.2.length ic).ownBlock ≠ some i ∧ (Value.slice ka st.2.length kc).ownBlock ≠ some i) st.2 xs
theorem InvO.turn {B vb mm r : Nat} {w w' : World} {st : List (List UInt8) × List J} {b c : Nat} (hr : r < B) (hv : r ≠ vb) (hm : mm ≠ r) (h : InvO B vb mm w st b) (hbc : b ≤ c) (k : Only [r] w w') : InvO B vb mm w' st c := by
  obtain ⟨h0, h1, h2, hs, ka, kc, ia, ic, xs, h3, h4, h5, h6, h7⟩ := h
  have hk : ∀ i, B ≤ i → i < w.heap.size → w'.heap[i]? = w.heap[i]? := fun i hi hl => k.block i hl (by simp; omega)
  refine ⟨h0, Nat.le_trans h1 hbc, Nat.le_trans h2 k.size, hs.only k (by simp; exact hm), ka, kc, ia, ic, xs, (k.block vb (Array.getElem?_eq_some_iff.1 h3).1 (by simp; exact Ne.symm hv)).trans h3, own_only h4 k (fun i hi => by simp; omega), own_only h5 k (fun i hi => by simp; omega), h6, Chunks.turn (fun i hi => hk i hi.1 hi.2.1) (fun i hi => ⟨hi.1, Nat.lt_of_lt_of_le hi.2.1 k.size, hi.2.2⟩) _ _ h7⟩

/-- A piece more. -/
theorem InvO.more {B vb mm r : Nat} {w w2 w3 X w1 : World} {st : List (List UInt8) × List J} {b n : Nat} {key : List UInt8} {j : J} {v0 v1 v2 v3 v4 : Value} {xs : List Value} {ka ia : Option Addr} {kc ic : Nat} (hr : r < B) (hv : r ≠ vb) (hvB : vb < B) (hmB : mm < B) (hmv : mm ≠ vb) (hB : B = w1.heap.size) (ho1 : Only [r, vb, mm] w1 w)
    (h0 : st.1.length = st.2.length) (h1 : st.2.length ≤ b) (h2 : B ≤ w.heap.size) (h4 : w.ownsRow B 9 1 (.slice ka st.2.length kc) st.2.length (st.1.map fun k => .string (S k))) (h5 : w.ownsRow B 25 5 (.slice ia st.2.length ic) st.2.length xs)
    (h7 : Chunks w (fun i => B ≤ i ∧ i < w.heap.size ∧ (Value.slice ia st.2.length ic).ownBlock ≠ some i ∧ (Value.slice ka st.2.length kc).ownBlock ≠ some i) st.2 xs)
    (k3 : Only [r, mm] w w3) (k : Only [r] w3 w2) (hs : Seen w2 mm (st.2.length + 1) (st.1 ++ [key])) (hp : PieceO B vb (st.2.length + 1) (.slice ka st.2.length kc) (.slice ia st.2.length ic) (st.1.map (fun k => .string (S k)) ++ [.string (S key)]) (xs ++ [v0, v1, v2, v3, v4]) w2 X) :
    Only [r, vb, mm] w1 X ∧ (∀ s a, Rd w2 r s a → Rd X r s a) ∧ (IsJ w2 (fun i => w3.heap.size ≤ i ∧ i < w2.heap.size) j (.agg #[v0, v1, v2, v3, v4]) → InvO B vb mm X (st.1 ++ [key], st.2 ++ [j]) (b + n + 1)) := by
  obtain ⟨⟨gk, ck, gi, ci, p1, p2, p3, p4, p5, p6⟩, pos, ptape, pout, psize, pblock⟩ := hp
  have k2 : Only [r, mm] w w2 := k3.trans (k.mono (by simp))
  have hz1 := ho1.size
  have hz2 := k2.size
  have hz3 := k3.size
  have hz4 := k.size
  have hXr : ∀ i, i < B → i ≠ vb → i < w2.heap.size → X.heap[i]? = w2.heap[i]? := fun i hi hv hl => pblock i hl hv (own_base h4 hi) (own_base h5 hi)
  refine ⟨⟨pos.trans (k2.os.trans ho1.os), ptape.trans (k2.tape.trans ho1.tape), pout.trans (k2.output.trans ho1.output), by omega, fun i hi hx => ?_⟩, fun s a hd => ?_, fun hj => ?_⟩
  · simp at hx
    rw [hXr i (by omega) hx.2.1 (by omega), k2.block i (by omega) (by simp; exact ⟨hx.1, hx.2.2⟩), ho1.block i hi (by simp; exact hx)]
  · exact (hXr r hr hv hd.lt).trans hd
  · have hgX : gi < X.heap.size := own_lt p2 rfl
    have hk1 : ∀ i, B ≤ i → i < w.heap.size → w2.heap[i]? = w.heap[i]? := fun i hi hl => k2.block i hl (by simp; omega)
    have hkl : ∀ i, (Value.slice ka st.2.length kc).ownBlock = some i → i < w.heap.size := fun i e => own_lt h4 e
    have hil : ∀ i, (Value.slice ia st.2.length ic).ownBlock = some i → i < w.heap.size := fun i e => own_lt h5 e
    have hsX : Seen X mm (st.2.length + 1) (st.1 ++ [key]) := by
      obtain ⟨js, e1, es, cl, e2, e3⟩ := hs
      exact ⟨js, e1, es, cl, (hXr mm hmB hmv (Array.getElem?_eq_some_iff.1 e2).1).trans e2, e3⟩
    refine ⟨by simp; exact h0, by simp; omega, by omega, by simpa using hsX, some ⟨gk, 0, none⟩, ck, some ⟨gi, 0, none⟩, ci, _, by simpa using p3, by simpa using p1, by simpa using p2, fun g e e2 => ?_, Chunks.snoc ?_ _ _ ?_⟩
    · have e : gk = g := Option.some.inj e
      have e2 : gi = g := Option.some.inj e2
      exact p6 (e.trans e2.symm)
    · refine IsJ.mono (F := fun i => w3.heap.size ≤ i ∧ i < w2.heap.size) (fun i hi => ⟨by omega, by omega, fun e => ?_, fun e => ?_⟩) _ _ (IsJ.keeps (fun i hi => pblock i hi.2 (by omega) (fun e => by have := hkl i e; omega) (fun e => by have := hil i e; omega)) _ _ hj)
      · have e : gi = i := Option.some.inj e
        subst e
        rcases p5 with h | h
        · have := hil _ h; omega
        · omega
      · have e : gk = i := Option.some.inj e
        subst e
        rcases p4 with h | h
        · have := hkl _ h; omega
        · omega
    · refine Chunks.turn (fun i hi => ?_) (fun i hi => ⟨hi.1, by have := hi.2.1; omega, fun e => ?_, fun e => ?_⟩) _ _ h7
      · rw [pblock i (by have := hi.2.1; omega) (by have := hi.1; omega) hi.2.2.2 hi.2.2.1, hk1 i hi.1 hi.2.1]
      · have e : gi = i := Option.some.inj e
        subst e
        rcases p5 with h | h
        · exact hi.2.2.1 h
        · have := hi.2.1; omega
      · have e : gk = i := Option.some.inj e
        subst e
        rcases p4 with h | h
        · exact hi.2.2.2 h
        · have := hi.2.1; omega

theorem nm3 {a x y z : Nat} (h1 : a ≠ x) (h2 : a ≠ y) (h3 : a ≠ z) : a ∉ [x, y, z] := by simp [h1, h2, h3]
theorem nm2 {a x y : Nat} (h1 : a ≠ x) (h2 : a ≠ y) : a ∉ [x, y] := by simp [h1, h2]
set_option maxHeartbeats 4000000 in
theorem objpiece_all (r : Nat) (s : ByteArray) (rb kb cb mb db d rbx sb ib vb mm : Nat) (hC : Cond r s rb kb cb mb d) (hd : d ≤ 8) (w1 : World) (hr : r < w1.heap.size) (hvb : vb < w1.heap.size) (hmm : mm < w1.heap.size) (hrv : r ≠ vb) (hrd : r ≠ db) (hvd : vb ≠ db) (hmd : mm ≠ db) (hmr : mm ≠ r) (hmv : mm ≠ vb)
    (hv : Ev w1 r rb kb cb mb) (hx : rb ≠ vb ∧ kb ≠ vb ∧ cb ≠ vb ∧ mb ≠ vb ∧ 0 ≠ vb ∧ 1 ≠ vb) (hxm : rb ≠ mm ∧ kb ≠ mm ∧ cb ≠ mm ∧ mb ≠ mm ∧ 0 ≠ mm ∧ 1 ≠ mm) (hdb : w1.heap[db]? = some (.cells #[.int .i64 ((d : Int) + 1)] 3 (0, 0)))
    (he : ObjEnv w1 r rbx sb ib vb mm) (hib : w1.cell? ⟨ib, 0, none⟩ = some (.func (.func 50) #[] #[.pointer (some ⟨cb, 0, none⟩), .pointer (some ⟨db, 0, none⟩)])) (hri : ib ≠ r ∧ ib ≠ vb ∧ ib ≠ mm ∧ rbx ≠ r ∧ rbx ≠ vb ∧ rbx ≠ mm ∧ sb ≠ r ∧ sb ≠ vb ∧ sb ≠ mm) (hs : s.size ≤ 100000)
    (w : World) (st : List (List UInt8) × List J) (b : Nat) (hb : b ≤ s.size) (ho : Only [r, vb, mm] w1 w) (hR : Rd w r s b) (hi : InvO w1.heap.size vb mm w st b) :
    Calls Tryd.prog 82 #[.pointer (some ⟨rbx, 0, none⟩), .pointer (some ⟨sb, 0, none⟩), .pointer (some ⟨ib, 0, none⟩), .pointer (some ⟨vb, 0, none⟩)] w (PieceRet r s [r, vb, mm] w1 (InvO w1.heap.size vb mm) 1 b (stepO (valueJ d) (s.data.toList.drop b) st)) := by
  obtain ⟨h0, h1, h2, hsn, ka, kc, ia, ic, xs, h3, h4, h5, h6, h7⟩ := hi
  obtain ⟨n1, n2, n3, n4, n5, n6⟩ := hv.ne
  obtain ⟨x1, x2, x3, x4, x5, x6⟩ := hx
  obtain ⟨y1, y2, y3, y4, y5, y6⟩ := hxm
  obtain ⟨z1, z2, z3, z4, z5, z6, z7, z8, z9⟩ := hri
  have hv' : Ev w r rb kb cb mb := hv.only ho ⟨nm3 n1.symm x1 y1, nm3 n2.symm x2 y2, nm3 n3.symm x3 y3, nm3 n4.symm x4 y4, nm3 n5.symm x5 y5, nm3 n6.symm x6 y6⟩
  have he' := he.only ho ⟨nm3 z4 z5 z6, nm3 z7 z8 z9⟩
  have hib' := ho.cell hib (nm3 z1 z2 z3)
  have hdb' : w.heap[db]? = some (.cells #[.int .i64 ((d : Int) + 1)] 3 (0, 0)) := (ho.block db (Array.getElem?_eq_some_iff.1 hdb).1 (nm3 hrd.symm hvd.symm hmd.symm)).trans hdb
  have HN1 : Hid (rbx ≠ r ∧ sb ≠ r ∧ mm ≠ r) := Lib.hid ⟨z4, z7, hmr⟩
  have HN2 : Hid (rbx ≠ r ∧ sb ≠ r ∧ mm ≠ r ∧ rbx ≠ mm) := Lib.hid ⟨z4, z7, hmr, z6⟩
  have HN3 : Hid (rbx ≠ r ∧ sb ≠ r ∧ mm ≠ r ∧ rbx ≠ mm ∧ ib ≠ r ∧ ib ≠ mm ∧ vb ≠ r ∧ vb ≠ mm) := Lib.hid ⟨z4, z7, hmr, z6, z1, z3, hrv.symm, hmv.symm⟩
  have HN4 : Hid (rb ∉ [r, mm] ∧ kb ∉ [r, mm] ∧ cb ∉ [r, mm] ∧ mb ∉ [r, mm] ∧ 0 ∉ [r, mm] ∧ 1 ∉ [r, mm]) := Lib.hid ⟨nm2 n1.symm y1, nm2 n2.symm y2, nm2 n3.symm y3, nm2 n4.symm y4, nm2 n5.symm y5, nm2 n6.symm y6⟩
  have HN5 : Hid (db ∉ [r, mm]) := Lib.hid (nm2 hrd.symm hmd.symm)
  have HRV := Lib.hid hrv
  have HMV := Lib.hid hmv
  clear n1 n2 n3 n4 n5 n6 x1 x2 x3 x4 x5 x6 y1 y2 y3 y4 y5 y6 z1 z2 z3 z4 z5 z6 z7 z8 z9 hrv hrd hvd hmd hmr hmv
  unfold stepO
  by_cases c1 : (unqL (s.data.toList.drop b)).2.2 ≠ 0
  · rw [if_pos c1]
    refine (obj_key r s b rbx sb ib vb mm w hR hv'.utf he' hb hs c1).mono ?_
    rintro e w' ⟨rfl, k⟩
    exact ⟨rfl, ho.trans (k.mono (by simp)), fun h => absurd h c1⟩
  · rw [if_neg c1]
    have c1' : (unqL (s.data.toList.drop b)).2.2 = 0 := Classical.not_not.1 c1
    by_cases c2 : (unqL (s.data.toList.drop b)).1 ∈ st.1
    · rw [if_pos c2]
      refine (obj_twice r s b rbx sb ib vb mm st.2.length st.1 w hR hv'.utf he' HN1.out hsn hb hs c1' c2).mono ?_
      rintro e w' ⟨rfl, k⟩
      exact ⟨rfl, ho.trans (k.mono (by simp)), fun h => absurd h (by simp)⟩
    · rw [if_neg c2]
      by_cases c3 : (colonL ((s.data.toList.drop b).drop (unqL (s.data.toList.drop b)).2.1)).2 ≠ 0
      · rw [if_pos c3]
        refine (obj_colon r s b rbx sb ib vb mm st.2.length st.1 w hR hv'.utf he' HN2.out hsn (by omega) hb hs c1' c2 c3).mono ?_
        rintro e w' ⟨rfl, k⟩
        exact ⟨rfl, ho.trans (k.mono (by simp)), fun h => absurd h c3⟩
      · rw [if_neg c3]
        have c3' := Classical.not_not.1 c3
        have hdd : (s.data.toList.drop b).drop (unqL (s.data.toList.drop b)).2.1 = s.data.toList.drop (b + (unqL (s.data.toList.drop b)).2.1) := List.drop_drop
        have hq := unqL_le (s.data.toList.drop b)
        rw [hdd] at c3' ⊢
        have hm := colonL_le (s.data.toList.drop (b + (unqL (s.data.toList.drop b)).2.1))
        obtain ⟨key, q, e1⟩ : ∃ key q, unqL (s.data.toList.drop b) = (key, q, 0) := ⟨(unqL (s.data.toList.drop b)).1, (unqL (s.data.toList.drop b)).2.1, Prod.ext rfl (Prod.ext rfl c1')⟩
        rw [e1] at c2 c3' hq hm ⊢
        simp only at c2 c3' hq hm ⊢
        obtain ⟨m, e2⟩ : ∃ m, colonL (s.data.toList.drop (b + q)) = (m, 0) := ⟨(colonL (s.data.toList.drop (b + q))).1, Prod.ext rfl c3'⟩
        rw [e2] at hm ⊢
        rw [List.length_drop, ByteArray_len] at hq hm
        simp only at hm ⊢
        rw [List.drop_drop, ← Nat.add_assoc]
        have hbq : b + q + m ≤ s.size := by omega
        have hg := obj_go r s b rbx sb ib vb mm cb db w1.heap.size st.2.length st.1 key q m ((valueJ d (s.data.toList.drop (b + q + m))).2.2 : Int) ka ia kc ic _ xs
          (fun w2 vs => ∃ w3, Only [r, mm] w w3 ∧ RetJ r s (b + q + m) w3 (valueJ d (s.data.toList.drop (b + q + m))) (.returned (.tuple #[.agg vs.toArray, .int .i64 ((valueJ d (s.data.toList.drop (b + q + m))).2.2 : Int)])) w2) w
          hR hv'.utf he' hib' HN3.out ⟨hr, hmm⟩ hsn (by omega) hb hs e1 c2 e2 h3 h4 h5 h6 hvb h2 (Lib.hid fun w3 k3 r3 => by
            have hv3 : Ev w3 r rb kb cb mb := hv'.only k3 HN4.out
            have hdb3 : w3.heap[db]? = some (.cells #[.int .i64 ((d : Int) + 1)] 3 (0, 0)) := (k3.block db (Array.getElem?_eq_some_iff.1 hdb').1 HN5.out).trans hdb'
            refine (item_any r s rb kb cb mb db d hC hd w3 (b + q + m) r3 hv3 hdb3 hbq).mono ?_
            intro e w2 h
            obtain ⟨jk, jn, jt, la, ll, lc, ma, ml, mc, rfl⟩ := h.form
            exact ⟨h.1, jk, jn, jt, la, ll, lc, ma, ml, mc, rfl, w3, k3, h⟩)
        refine hg.mono ?_
        rintro e X ⟨rfl, w2, vs, k, hs2, ⟨w3, k3, hj⟩, hpo⟩
        obtain ⟨jk, jn, jt, la, ll, lc, ma, ml, mc, hf⟩ := hj.form
        have hvs : vs.toArray = #[.int .i64 jk, .int .i64 jn, .string jt, .slice la ll lc, .slice ma ml mc] := by
          have := congrArg (fun e : Ending => match e with | .returned (.tuple a) => a[0]? | _ => none) hf
          simpa using this
        obtain rfl : vs = [.int .i64 jk, .int .i64 jn, .string jt, .slice la ll lc, .slice ma ml mc] := by
          have := congrArg Array.toList hvs
          simpa using this
        obtain ⟨m1, m2, m3⟩ := InvO.more (b := b) (j := (valueJ d (s.data.toList.drop (b + q + m))).1) (n := q + m + (valueJ d (s.data.toList.drop (b + q + m))).2.1) hr HRV.out hvb hmm HMV.out rfl ho h0 h1 h2 h4 h5 h7 k3 hj.1 hs2 hpo
        refine ⟨rfl, m1, fun hz => ?_⟩
        obtain ⟨v, hv1, hv2, hv3⟩ := hj.2.1 hz
        have hv1' : v = .agg #[.int .i64 jk, .int .i64 jn, .string jt, .slice la ll lc, .slice ma ml mc] := by
          have := congrArg (fun e : Ending => match e with | .returned (.tuple a) => a[0]? | _ => none) hv1
          simpa using this.symm
        subst hv1'
        refine ⟨?_, m3 hv2⟩
        have := m2 _ _ hv3
        rwa [show b + q + m + (valueJ d (s.data.toList.drop (b + q + m))).2.1 = b + (q + m + (valueJ d (s.data.toList.drop (b + q + m))).2.1) by omega] at this
end Go.Proofs.YtljkeladdplhlaaDoor
namespace Go.Proofs.YtljkeladdplhlaaDoor
open Go.RowKit

theorem al_lt {w : World} (o : Obj) {i : Nat} (h : i < w.heap.size) : (w.alloc o).heap[i]? = w.heap[i]? := Below.heap_alloc _ _ _ h
theorem al_at {w : World} (o : Obj) {i : Nat} (h : i = w.heap.size) : (w.alloc o).heap[i]? = some o := h ▸ heap_alloc_new w o
theorem al_sz {w : World} (o : Obj) {k : Nat} (h : w.heap.size = k) : (w.alloc o).heap.size = k + 1 := by simp [h]

set_option maxHeartbeats 1000000 in
theorem object_world (r : Nat) (s : ByteArray) (a : Nat) (rb kb cb mb db d : Nat) (hC : Cond r s rb kb cb mb d) (hd : d ≤ 8) (w : World) (h : Rd w r s a) (hv : Ev w r rb kb cb mb) (hdb : w.heap[db]? = some (.cells #[.int .i64 ((d : Int) + 1)] 3 (0, 0))) (hrd : r ≠ db) (hlt : a < s.size) (hs : s.size ≤ 100000) :
    Calls Tryd.prog 80 #[.pointer (some ⟨r, 0, none⟩), .int .u8 125, .func (.func 82) #[] #[.pointer (some ⟨w.heap.size, 0, none⟩), .pointer (some ⟨w.heap.size + 1 + 1 + 1 + 1 + 1, 0, none⟩), .pointer (some ⟨w.heap.size + 1, 0, none⟩), .pointer (some ⟨w.heap.size + 1 + 1 + 1, 0, none⟩)]] ((((((w.alloc (.cells #[.pointer (some ⟨r, 0, none⟩)] 47)).alloc (.cells #[.func (.func 50) #[] #[.pointer (some ⟨cb, 0, none⟩), .pointer (some ⟨db, 0, none⟩)]] 92)).alloc (.cells #[.int .i64 0, .int .i64 0, .string ⟨#[]⟩, .slice none 0 0, .slice none 0 0] 25)).alloc (.cells #[.int .i64 6, .int .i64 0, .string ⟨#[]⟩, .slice none 0 0, .slice none 0 0] 25)).alloc (.map #[] 0)).alloc (.cells #[.map (some (w.heap.size + 1 + 1 + 1 + 1))] 91))
      (PieceRet r s [r, w.heap.size + 1 + 1 + 1, w.heap.size + 1 + 1 + 1 + 1] ((((((w.alloc (.cells #[.pointer (some ⟨r, 0, none⟩)] 47)).alloc (.cells #[.func (.func 50) #[] #[.pointer (some ⟨cb, 0, none⟩), .pointer (some ⟨db, 0, none⟩)]] 92)).alloc (.cells #[.int .i64 0, .int .i64 0, .string ⟨#[]⟩, .slice none 0 0, .slice none 0 0] 25)).alloc (.cells #[.int .i64 6, .int .i64 0, .string ⟨#[]⟩, .slice none 0 0, .slice none 0 0] 25)).alloc (.map #[] 0)).alloc (.cells #[.map (some (w.heap.size + 1 + 1 + 1 + 1))] 91)) (InvO (w.heap.size + 1 + 1 + 1 + 1 + 1 + 1) (w.heap.size + 1 + 1 + 1) (w.heap.size + 1 + 1 + 1 + 1)) 0 a (piecesP (stepO (valueJ d)) 125 (s.data.toList.drop a) ([], []))) := by
  have hk : Keeps w ((((((w.alloc (.cells #[.pointer (some ⟨r, 0, none⟩)] 47)).alloc (.cells #[.func (.func 50) #[] #[.pointer (some ⟨cb, 0, none⟩), .pointer (some ⟨db, 0, none⟩)]] 92)).alloc (.cells #[.int .i64 0, .int .i64 0, .string ⟨#[]⟩, .slice none 0 0, .slice none 0 0] 25)).alloc (.cells #[.int .i64 6, .int .i64 0, .string ⟨#[]⟩, .slice none 0 0, .slice none 0 0] 25)).alloc (.map #[] 0)).alloc (.cells #[.map (some (w.heap.size + 1 + 1 + 1 + 1))] 91)) := ((((((Keeps.refl w).alloc _).alloc _).alloc _).alloc _).alloc _).alloc _
  have z1 := al_sz (w := w) (.cells #[.pointer (some ⟨r, 0, none⟩)] 47) rfl
  have z2 := al_sz (.cells #[.func (.func 50) #[] #[.pointer (some ⟨cb, 0, none⟩), .pointer (some ⟨db, 0, none⟩)]] 92) z1
  have z3 := al_sz (.cells #[.int .i64 0, .int .i64 0, .string ⟨#[]⟩, .slice none 0 0, .slice none 0 0] 25) z2
  have z4 := al_sz (.cells #[.int .i64 6, .int .i64 0, .string ⟨#[]⟩, .slice none 0 0, .slice none 0 0] 25) z3
  have z5 := al_sz (.map #[] 0) z4
  have z6 := al_sz (.cells #[.map (some (w.heap.size + 1 + 1 + 1 + 1))] 91) z5
  have hrx : ((((((w.alloc (.cells #[.pointer (some ⟨r, 0, none⟩)] 47)).alloc (.cells #[.func (.func 50) #[] #[.pointer (some ⟨cb, 0, none⟩), .pointer (some ⟨db, 0, none⟩)]] 92)).alloc (.cells #[.int .i64 0, .int .i64 0, .string ⟨#[]⟩, .slice none 0 0, .slice none 0 0] 25)).alloc (.cells #[.int .i64 6, .int .i64 0, .string ⟨#[]⟩, .slice none 0 0, .slice none 0 0] 25)).alloc (.map #[] 0)).alloc (.cells #[.map (some (w.heap.size + 1 + 1 + 1 + 1))] 91)).heap[w.heap.size]? = some (.cells #[.pointer (some ⟨r, 0, none⟩)] 47 (0, 0)) := (al_lt _ (by omega)).trans ((al_lt _ (by omega)).trans ((al_lt _ (by omega)).trans ((al_lt _ (by omega)).trans ((al_lt _ (by omega)).trans (al_at _ rfl)))))
  have hib : ((((((w.alloc (.cells #[.pointer (some ⟨r, 0, none⟩)] 47)).alloc (.cells #[.func (.func 50) #[] #[.pointer (some ⟨cb, 0, none⟩), .pointer (some ⟨db, 0, none⟩)]] 92)).alloc (.cells #[.int .i64 0, .int .i64 0, .string ⟨#[]⟩, .slice none 0 0, .slice none 0 0] 25)).alloc (.cells #[.int .i64 6, .int .i64 0, .string ⟨#[]⟩, .slice none 0 0, .slice none 0 0] 25)).alloc (.map #[] 0)).alloc (.cells #[.map (some (w.heap.size + 1 + 1 + 1 + 1))] 91)).heap[w.heap.size + 1]? = some (.cells #[.func (.func 50) #[] #[.pointer (some ⟨cb, 0, none⟩), .pointer (some ⟨db, 0, none⟩)]] 92 (0, 0)) := (al_lt _ (by omega)).trans ((al_lt _ (by omega)).trans ((al_lt _ (by omega)).trans ((al_lt _ (by omega)).trans (al_at _ z1.symm))))
  have hvb : ((((((w.alloc (.cells #[.pointer (some ⟨r, 0, none⟩)] 47)).alloc (.cells #[.func (.func 50) #[] #[.pointer (some ⟨cb, 0, none⟩), .pointer (some ⟨db, 0, none⟩)]] 92)).alloc (.cells #[.int .i64 0, .int .i64 0, .string ⟨#[]⟩, .slice none 0 0, .slice none 0 0] 25)).alloc (.cells #[.int .i64 6, .int .i64 0, .string ⟨#[]⟩, .slice none 0 0, .slice none 0 0] 25)).alloc (.map #[] 0)).alloc (.cells #[.map (some (w.heap.size + 1 + 1 + 1 + 1))] 91)).heap[w.heap.size + 1 + 1 + 1]? = some (.cells #[.int .i64 6, .int .i64 0, .string ⟨#[]⟩, .slice none 0 0, .slice none 0 0] 25 (0, 0)) := (al_lt _ (by omega)).trans ((al_lt _ (by omega)).trans (al_at _ z3.symm))
  have hmm : Seen ((((((w.alloc (.cells #[.pointer (some ⟨r, 0, none⟩)] 47)).alloc (.cells #[.func (.func 50) #[] #[.pointer (some ⟨cb, 0, none⟩), .pointer (some ⟨db, 0, none⟩)]] 92)).alloc (.cells #[.int .i64 0, .int .i64 0, .string ⟨#[]⟩, .slice none 0 0, .slice none 0 0] 25)).alloc (.cells #[.int .i64 6, .int .i64 0, .string ⟨#[]⟩, .slice none 0 0, .slice none 0 0] 25)).alloc (.map #[] 0)).alloc (.cells #[.map (some (w.heap.size + 1 + 1 + 1 + 1))] 91)) (w.heap.size + 1 + 1 + 1 + 1) 0 [] := by
    have hm := World.ownsMap_made ((((w.alloc (.cells #[.pointer (some ⟨r, 0, none⟩)] 47)).alloc (.cells #[.func (.func 50) #[] #[.pointer (some ⟨cb, 0, none⟩), .pointer (some ⟨db, 0, none⟩)]] 92)).alloc (.cells #[.int .i64 0, .int .i64 0, .string ⟨#[]⟩, .slice none 0 0, .slice none 0 0] 25)).alloc (.cells #[.int .i64 6, .int .i64 0, .string ⟨#[]⟩, .slice none 0 0, .slice none 0 0] 25)) Tryd.prog 9 (plainElem (H := Unit) Tryd.prog 4)
    rw [z4] at hm
    exact ⟨[], fun _ => Iff.rfl, hm.alloc _⟩
  have hsb : ((((((w.alloc (.cells #[.pointer (some ⟨r, 0, none⟩)] 47)).alloc (.cells #[.func (.func 50) #[] #[.pointer (some ⟨cb, 0, none⟩), .pointer (some ⟨db, 0, none⟩)]] 92)).alloc (.cells #[.int .i64 0, .int .i64 0, .string ⟨#[]⟩, .slice none 0 0, .slice none 0 0] 25)).alloc (.cells #[.int .i64 6, .int .i64 0, .string ⟨#[]⟩, .slice none 0 0, .slice none 0 0] 25)).alloc (.map #[] 0)).alloc (.cells #[.map (some (w.heap.size + 1 + 1 + 1 + 1))] 91)).heap[w.heap.size + 1 + 1 + 1 + 1 + 1]? = some (.cells #[.map (some (w.heap.size + 1 + 1 + 1 + 1))] 91 (0, 0)) := al_at _ z5.symm
  clear z1 z2 z3 z4 z5
  have hR := h.keeps hk
  have hE := hv.keeps hk
  have hD := (hk.block db (Array.getElem?_eq_some_iff.1 hdb).1).trans hdb
  have hrl := h.lt
  have hdl := (Array.getElem?_eq_some_iff.1 hdb).1
  have hrb : rb < w.heap.size := World.block_lt_of_cell? _ _ hv.env.rd
  have hkb : kb < w.heap.size := World.block_lt_of_cell? _ _ hv.env.mp
  have hcb : cb < w.heap.size := (Array.getElem?_eq_some_iff.1 hv.con).1
  have hmb : mb < w.heap.size := by obtain ⟨es, cl, e1, _⟩ := hv.env.kinds; exact (Array.getElem?_eq_some_iff.1 e1).1
  have h1 : 1 < w.heap.size := World.block_lt_of_cell? _ _ (hv.utf.2 0 (by omega)).1
  generalize ((((((w.alloc (.cells #[.pointer (some ⟨r, 0, none⟩)] 47)).alloc (.cells #[.func (.func 50) #[] #[.pointer (some ⟨cb, 0, none⟩), .pointer (some ⟨db, 0, none⟩)]] 92)).alloc (.cells #[.int .i64 0, .int .i64 0, .string ⟨#[]⟩, .slice none 0 0, .slice none 0 0] 25)).alloc (.cells #[.int .i64 6, .int .i64 0, .string ⟨#[]⟩, .slice none 0 0, .slice none 0 0] 25)).alloc (.map #[] 0)).alloc (.cells #[.map (some (w.heap.size + 1 + 1 + 1 + 1))] 91)) = W at *
  rw [← z6]
  have ne : ∀ {x y : Nat}, x < y → x ≠ y := fun h => Nat.ne_of_lt h
  have HRD := Lib.hid hrd
  clear hrd
  refine pieces_any r s a [r, w.heap.size + 1 + 1 + 1, w.heap.size + 1 + 1 + 1 + 1] W 82 _ 125 125 (InvO W.heap.size (w.heap.size + 1 + 1 + 1) (w.heap.size + 1 + 1 + 1 + 1)) (stepO (valueJ d)) ([], []) W hR hlt hs (by simp) (Only.refl _ _) ?_ rfl (by decide) (by decide) (fun _ => by kernel_rfl)
    (fun w w' st b c hi hbc k => hi.turn (by omega) (by omega) (by omega) hbc k) (stepO_le _ (valueJ_le d)) ?_
  · exact ⟨rfl, Nat.zero_le _, Nat.le_refl _, hmm, none, 0, none, 0, [], hvb, ⟨rfl, .inl ⟨rfl, rfl⟩⟩, ⟨rfl, .inl ⟨rfl, rfl⟩⟩, fun g e => by simp [Value.ownBlock] at e, rfl⟩
  · intro w' st b hb ho hr hi
    exact objpiece_all r s rb kb cb mb db d (w.heap.size) (w.heap.size + 1 + 1 + 1 + 1 + 1) (w.heap.size + 1) (w.heap.size + 1 + 1 + 1) (w.heap.size + 1 + 1 + 1 + 1) hC hd W (by omega) (by omega) (by omega) (by omega) HRD.out (by omega) (by omega) (by omega) (by omega) hE
      ⟨by omega, by omega, by omega, by omega, by omega, by omega⟩ ⟨by omega, by omega, by omega, by omega, by omega, by omega⟩ hD ⟨by rw [Lib.cell_of_heap hrx]; rfl, by rw [Lib.cell_of_heap hsb]; rfl⟩ (by rw [Lib.cell_of_heap hib]; rfl)
      ⟨by omega, by omega, by omega, by omega, by omega, by omega, by omega, by omega, by omega⟩ hs w' st b hb ho hr hi

theorem IsJ.object {B : Nat} {w w' : World} {st : List (List UInt8) × List J} {F : Nat → Prop} {ka ia : Option Addr} {kc ic : Nat} {xs : List Value} (h0 : st.1.length = st.2.length)
    (h4 : w.ownsRow B 9 1 (.slice ka st.2.length kc) st.2.length (st.1.map fun k => .string (S k))) (h5 : w.ownsRow B 25 5 (.slice ia st.2.length ic) st.2.length xs)
    (h7 : Chunks w (fun i => B ≤ i ∧ i < w.heap.size ∧ (Value.slice ia st.2.length ic).ownBlock ≠ some i ∧ (Value.slice ka st.2.length kc).ownBlock ≠ some i) st.2 xs)
    (k : ∀ i, B ≤ i → i < w.heap.size → w'.heap[i]? = w.heap[i]?) (hF : ∀ i, B ≤ i → i < w.heap.size → F i) : IsJ w' F (.mk 6 0 [] st.1 st.2) (.agg #[.int .i64 6, .int .i64 0, .string ⟨#[]⟩, .slice ka st.2.length kc, .slice ia st.2.length ic]) := by
  unfold IsJ
  refine ⟨_, _, rfl, ?_, ?_⟩
  · rcases h4.2 with ⟨e1, e2⟩ | ⟨g, cap, cur, e1, e2, e3, _⟩
    · exact .inl ⟨e1, List.eq_nil_of_length_eq_zero (h0.trans e2)⟩
    · have hgl := (Array.getElem?_eq_some_iff.1 e3).1
      refine .inr ⟨g, 0, cap, by rw [h0]; exact e1, hF g e2 hgl, fun j v hj => ?_⟩
      rw [World.cell?_of_block (w := w) (k g e2 hgl), Nat.zero_add]
      rw [e1] at h4
      rw [World.ownsRow.cellAt h4 j (by have := (List.getElem?_eq_some_iff.1 hj).1; have := h4.1; omega)]
      exact hj
  · rcases h5.2 with ⟨e1, e2⟩ | ⟨g, cap, cur, e1, e2, e3, _⟩
    · exact .inl ⟨e1, List.eq_nil_of_length_eq_zero e2⟩
    · have hgl := (Array.getElem?_eq_some_iff.1 e3).1
      refine .inr ⟨g, 0, cap, e1, hF g e2 hgl, ?_⟩
      refine AreJ.mono (F := fun i => B ≤ i ∧ i < w.heap.size ∧ (Value.slice ia st.2.length ic).ownBlock ≠ some i ∧ (Value.slice ka st.2.length kc).ownBlock ≠ some i) (fun i hi => hF i hi.1 hi.2.1) _ _ _ (AreJ.keeps (fun i hi => k i hi.1 hi.2.1) _ _ (k g e2 hgl) _ (Chunks.are _ _ 0 h7 fun j v hj => ?_))
      rw [e1] at h5
      rw [Nat.zero_add, World.ownsRow.cellAt h5 j (by have := (List.getElem?_eq_some_iff.1 hj).1; have := h5.1; omega)]
      exact hj

set_option maxHeartbeats 4000000 in
set_option maxRecDepth 100000 in
theorem object_any (r : Nat) (s : ByteArray) (a : Nat) (rb kb cb mb db d : Nat) (hC : Cond r s rb kb cb mb d) (hd : d ≤ 8) (w : World) (h : Rd w r s a) (hv : Ev w r rb kb cb mb) (hdb : w.heap[db]? = some (.cells #[.int .i64 ((d : Int) + 1)] 3 (0, 0))) (hrd : r ≠ db) (hlt : a < s.size) (hs : s.size ≤ 100000) :
    Calls Tryd.prog 69 #[.pointer (some ⟨r, 0, none⟩), .func (.func 50) #[] #[.pointer (some ⟨cb, 0, none⟩), .pointer (some ⟨db, 0, none⟩)]] w (RetJ r s a w (objJ (valueJ d) (s.data.toList.drop a))) := by
  have hq : ∀ W, (binOp BinOp.eql 92 (Value.func (.func 50) #[] #[.pointer (some ⟨cb, 0, none⟩), .pointer (some ⟨db, 0, none⟩)]) Value.nilFunc).run Tryd.prog W = .ok (.bool false) W := fun _ => by kernel_rfl
  have hmm := @run_makeMap Tryd.prog
  have cP := Lib.hid (object_world r s a rb kb cb mb db d hC hd w h hv hdb hrd hlt hs)
  have hL := Lib.hid (objJ_is (valueJ d) (s.data.toList.drop a))
  have HK : Hid (Keeps w ((((((w.alloc (.cells #[.pointer (some ⟨r, 0, none⟩)] 47)).alloc (.cells #[.func (.func 50) #[] #[.pointer (some ⟨cb, 0, none⟩), .pointer (some ⟨db, 0, none⟩)]] 92)).alloc (.cells #[.int .i64 0, .int .i64 0, .string ⟨#[]⟩, .slice none 0 0, .slice none 0 0] 25)).alloc (.cells #[.int .i64 6, .int .i64 0, .string ⟨#[]⟩, .slice none 0 0, .slice none 0 0] 25)).alloc (.map #[] 0)).alloc (.cells #[.map (some (w.heap.size + 1 + 1 + 1 + 1))] 91))) := Lib.hid (((((((Keeps.refl w).alloc _).alloc _).alloc _).alloc _).alloc _).alloc _)
  have HZ : Hid (((((((w.alloc (.cells #[.pointer (some ⟨r, 0, none⟩)] 47)).alloc (.cells #[.func (.func 50) #[] #[.pointer (some ⟨cb, 0, none⟩), .pointer (some ⟨db, 0, none⟩)]] 92)).alloc (.cells #[.int .i64 0, .int .i64 0, .string ⟨#[]⟩, .slice none 0 0, .slice none 0 0] 25)).alloc (.cells #[.int .i64 6, .int .i64 0, .string ⟨#[]⟩, .slice none 0 0, .slice none 0 0] 25)).alloc (.map #[] 0)).alloc (.cells #[.map (some (w.heap.size + 1 + 1 + 1 + 1))] 91)).heap.size = w.heap.size + 6) := Lib.hid (by simp)
  have HB : Hid (((((((w.alloc (.cells #[.pointer (some ⟨r, 0, none⟩)] 47)).alloc (.cells #[.func (.func 50) #[] #[.pointer (some ⟨cb, 0, none⟩), .pointer (some ⟨db, 0, none⟩)]] 92)).alloc (.cells #[.int .i64 0, .int .i64 0, .string ⟨#[]⟩, .slice none 0 0, .slice none 0 0] 25)).alloc (.cells #[.int .i64 6, .int .i64 0, .string ⟨#[]⟩, .slice none 0 0, .slice none 0 0] 25)).alloc (.map #[] 0)).alloc (.cells #[.map (some (w.heap.size + 1 + 1 + 1 + 1))] 91)).heap[w.heap.size + 1 + 1]? = some (.cells #[.int .i64 0, .int .i64 0, .string ⟨#[]⟩, .slice none 0 0, .slice none 0 0] 25 (0, 0))) := Lib.hid ((al_lt _ (by first | (simp; done) | (simp; omega))).trans ((al_lt _ (by first | (simp; done) | (simp; omega))).trans ((al_lt _ (by simp)).trans (al_at _ (by simp)))))
  have hrl := h.lt
  generalize piecesP (stepO (valueJ d)) 125 (s.data.toList.drop a) ([], []) = P at *
  obtain ⟨st, n, x⟩ := P
  clear hC h hv hdb
  go_enter Tryd.func69, Tryd.ntmps69
  go_wp2_with fail
  refine cP.out.mono ?_
  rintro e w2 ⟨rfl, ho, hk⟩
  have hB2 : w2.heap[w.heap.size + 1 + 1]? = some (.cells #[.int .i64 0, .int .i64 0, .string ⟨#[]⟩, .slice none 0 0, .slice none 0 0] 25 (0, 0)) := (ho.block _ (by rw [HZ.out]; omega) (nm3 (by omega) (by omega) (by omega))).trans HB.out
  have HB2 := Lib.hid hB2
  have hO : Only [r] w w2 := ⟨ho.os.trans HK.out.os, ho.tape.trans HK.out.tape, ho.output.trans HK.out.output, Nat.le_trans HK.out.size ho.size, fun i hi hx => (ho.block i (Nat.lt_of_lt_of_le hi HK.out.size) (nm3 (by simpa using hx) (by omega) (by omega))).trans (HK.out.block i hi)⟩
  have HO := Lib.hid hO
  have hz2 : w.heap.size + 6 ≤ w2.heap.size := by have := ho.size; rw [HZ.out] at this; exact this
  clear hB2 hO ho cP HB HK HZ
  obtain ⟨⟨b0, b1, b2, b3, b4⟩, g0, g1, g2, g3, g4⟩ := cells5 HB2.out
  by_cases hx : x = 0
  · subst hx
    obtain ⟨hr, h0, _, _, hsn, ka, kc, ia, ic, xs, h3, h4, h5, h6, h7⟩ := hk rfl
    obtain ⟨keys, acc⟩ := st
    have H0 := Lib.hid h0
    have H4 := Lib.hid h4
    have H5 := Lib.hid h5
    have H7 := Lib.hid h7
    have HR := Lib.hid hr
    simp only at h3
    generalize hN : acc.length = N at h3
    have HN := Lib.hid hN
    have hcv := (cells5 h3).1
    obtain ⟨v0, v1, v2, v3, v4⟩ := hcv
    have hL2 := Lib.hid (hL.out.1 rfl)
    clear hL hk hr h3 h4 h5 h0 h7 h6 hsn hN
    go_wp2
    (try simp only [Exit.inBlock, Exit.then])
    refine ret_j (w.heap.size + 1 + 1) _ rfl rfl (five_heap _ _ _ _ _ HB2.out) rfl rfl ?_
    rw [hL2.out]
    have hO5 : Only [w.heap.size + 1 + 1] w2 (five w2 (w.heap.size + 1 + 1) (.int .i64 6) (.int .i64 0) (.string ⟨#[]⟩) (.slice ka N kc) (.slice ia N ic)) := (Only.refl _ w2).five _ (.inl (by simp)) _ _ _ _ _
    have hJ := IsJ.object (st := (keys, acc)) (ka := ka) (ia := ia) (kc := kc) (ic := ic) (xs := xs) (B := w.heap.size + 1 + 1 + 1 + 1 + 1 + 1) (w' := five w2 (w.heap.size + 1 + 1) (.int .i64 6) (.int .i64 0) (.string ⟨#[]⟩) (.slice ka N kc) (.slice ia N ic)) (F := fun i => w.heap.size ≤ i ∧ i < (five w2 (w.heap.size + 1 + 1) (.int .i64 6) (.int .i64 0) (.string ⟨#[]⟩) (.slice ka N kc) (.slice ia N ic)).heap.size) H0.out H4.out H5.out H7.out (fun i hi hl => hO5.block i hl (by simp; omega)) (fun i hi hl => ⟨by omega, Nat.lt_of_lt_of_le hl hO5.size⟩)
    simp only [HN.out] at hJ
    exact RetJ.good (HO.out.five _ (.inr (by omega)) _ _ _ _ _) hJ (HR.out.five (by omega) _ _ _ _ _)
  · have f9 : ((x : Int) != 0) = true := by simp; omega
    have hL2 := Lib.hid (hL.out.2 hx)
    have hx' := Lib.hid hx
    clear hL hk hx
    go_wp2
    (try simp only [Exit.inBlock, Exit.then])
    refine ret_j (w.heap.size + 1 + 1) _ rfl rfl (five_heap _ _ _ _ _ HB2.out) rfl rfl ?_
    rw [hL2.out]
    exact RetJ.bad (HO.out.five _ (.inr (by omega)) _ _ _ _ _) hx'.out
end Go.Proofs.YtljkeladdplhlaaDoor
