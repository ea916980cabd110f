/-
  What an object holds while it is read, of package json: the keys seen, two rows that grow.
-/
import Derived.Test.YtljkeladdplhlaaDoorLsv
import Derived.StringKeys
import Derived.Maps.Views
import Derived.Maps.OwnSet
import Derived.Deep.RegionHeld3
import Derived.Deep.AppendLies
namespace Go.Proofs.YtljkeladdplhlaaDoor
open Go.RowKit Go.Maps

theorem unqF_w (k : Nat) : ∀ l : List UInt8, (unqF k l).1.length ≤ 4 * (unqF k l).2.1 := by
  induction k with
  | zero => intro l; exact Nat.zero_le _
  | succ k ih =>
    intro l
    match l with
    | [] => exact Nat.zero_le _
    | c :: t =>
      unfold unqF
      split
      · exact Nat.zero_le _
      · split
        · exact Nat.zero_le _
        · split
          · exact Nat.zero_le _
          · have h1 := (piece_w (c :: t)).2
            have h2 := ih ((c :: t).drop (pieceL (c :: t)).2.1)
            simp only [List.length_append]
            omega
theorem unqL_w (l : List UInt8) : (unqL l).1.length ≤ 4 * (unqL l).2.1 := by
  unfold unqL
  split
  · exact Nat.zero_le _
  · split
    · exact Nat.zero_le _
    · unfold joinU
      split
      · exact Nat.zero_le _
      · have h := unqF_w l.length (l.drop 1)
        simp only [List.nil_append]
        omega

/-- The keys seen, as a map. -/
def seenD : List (List UInt8) → DataW Unit
  | [] => .map []
  | k :: t => (seenD t).put (.string k) (.lit (.bool true))
theorem seen_map : ∀ ks, IsMap (seenD ks)
  | [] => isMap_empty
  | k :: t => (seen_map t).put _ _
theorem seen_at (k : List UInt8) : ∀ ks, (seenD ks).atKey (.string k) (.lit (.bool false)) = .lit (.bool (decide (k ∈ ks)))
  | [] => rfl
  | j :: t => by
    unfold seenD
    by_cases h : k = j
    · subst h
      rw [atKey_put_same (seen_map t) (by first | trivial | exact ⟨_, rfl⟩ | simp [WideAt.IsKeyLit])]
      simp
    · rw [atKey_put_other (by intro e; exact h (by injection e)), seen_at k t]
      simp [h]
def Seen (w : World) (mm n : Nat) (ks : List (List UInt8)) : Prop := ∃ js, (∀ k, k ∈ js ↔ k ∈ ks) ∧ w.ownsMap Tryd.prog 9 (plainElem Tryd.prog 4) mm n (seenD js)
theorem lawS : Keyed Tryd.prog 9 := string_keyed Tryd.underlying9
theorem zero4 (w : World) : (zeroValue 4).run Tryd.prog w = .ok (.bool false) w := by kernel_rfl
theorem und4 : Tryd.prog.underlying 4 = some .bool := by kernel_rfl
theorem keyS (k : List UInt8) (hk : k.length ≤ maxLen) : keyOf Tryd.prog 9 (.string (S k)) = some (.string k) := WideMaps.keyOf_string_mk Tryd.underlying9 (s := S k) (by rw [S_size]; exact hk)
theorem Seen.look {w : World} {mm n : Nat} {ks : List (List UInt8)} (h : Seen w mm n ks) (k : List UInt8) (hk : k.length ≤ maxLen) : (Instr.lookup 91 (.map (some mm)) (.string (S k)) false).run Tryd.prog w = .ok (.bool (decide (k ∈ ks))) w := by
  obtain ⟨js, h1, h2⟩ := h
  obtain ⟨v, ps, hr, hv⟩ := h2.lookup lawS Tryd.underlying91 (zero4 w) (plainElem_bool und4 false) (key := .string (S k)) (kl := .string k) (keyS k hk)
  rw [seen_at] at hv
  have e : v = .bool (decide (k ∈ js)) := by
    unfold plainElem at hv
    rw [und4] at hv
    cases v <;> simp at hv
    rw [hv.1]
  have e2 : decide (k ∈ js) = decide (k ∈ ks) := decide_eq_decide.2 (h1 k)
  rw [hr, e, e2]
theorem Seen.put {w : World} {mm n : Nat} {ks : List (List UInt8)} (h : Seen w mm n ks) (k : List UInt8) (hk : k.length ≤ maxLen) (hn : n < maxLen) : ∃ w', (Instr.mapUpdate 91 (.map (some mm)) (.string (S k)) (.bool true)).run Tryd.prog w = .ok () w' ∧ Seen w' mm (n + 1) (ks ++ [k]) ∧ Only [mm] w w' ∧ mm < w.heap.size := by
  obtain ⟨js, h1, h2⟩ := h
  have hl := h2.lt
  obtain ⟨w', hr, ho, hg⟩ := h2.update lawS Tryd.underlying91 hn (key := .string (S k)) (val := .bool true) (kl := .string k) (keyS k hk) (plainElem_bool und4 true)
  exact ⟨w', hr, ⟨k :: js, fun x => by simp [h1 x, or_comm], ho⟩, ⟨hg.os, hg.tape, hg.output, hg.size, fun i hi hx => hg.block i hi (fun e => hx (by simp [Option.some.inj e]))⟩, hl⟩
theorem Seen.only {X : List Nat} {w w' : World} {mm n : Nat} {ks : List (List UInt8)} (h : Seen w mm n ks) (k : Only X w w') (hx : mm ∉ X) : Seen w' mm n ks := by
  obtain ⟨js, h1, es, cl, h2, h3⟩ := h
  exact ⟨js, h1, es, cl, (k.block mm (Array.getElem?_eq_some_iff.1 h2).1 hx).trans h2, h3⟩
theorem Seen.lt {w : World} {mm n : Nat} {ks : List (List UInt8)} (h : Seen w mm n ks) : mm < w.heap.size := by
  obtain ⟨js, h1, h2⟩ := h
  exact h2.lt

/-- Two rows that grow beside one another, and the object's variable as it was. -/
structure Two (B vb : Nat) (kv iv : Value) (w2 W : World) (kv' iv' : Value) (nk ni : Nat) (ks xs : List Value) : Prop where
  k : W.ownsRow B 9 1 kv' nk ks
  i : W.ownsRow B 25 5 iv' ni xs
  v : W.heap[vb]? = some (.cells #[.int .i64 6, .int .i64 0, .string ⟨#[]⟩, kv, iv] 25 (0, 0))
  os : W.os = w2.os
  tape : W.tape = w2.tape
  output : W.output = w2.output
  size : w2.heap.size ≤ W.heap.size
  block : ∀ j, j < w2.heap.size → kv.ownBlock ≠ some j → iv.ownBlock ≠ some j → W.heap[j]? = w2.heap[j]?
  kn : kv'.ownBlock = kv.ownBlock ∨ ∃ g, kv'.ownBlock = some g ∧ w2.heap.size ≤ g
  in_ : iv'.ownBlock = iv.ownBlock ∨ ∃ g, iv'.ownBlock = some g ∧ w2.heap.size ≤ g
  ne : ∀ g, kv'.ownBlock = some g → iv'.ownBlock ≠ some g
  vB : vb < B
  hB : B ≤ w2.heap.size
section
variable {B vb : Nat} {kv iv : Value} {w2 W w' : World} {kv' iv' : Value} {nk ni : Nat} {ks xs : List Value}
theorem Two.alloc (h : Two B vb kv iv w2 W kv' iv' nk ni ks xs) (o : Obj) : Two B vb kv iv w2 (W.alloc o) kv' iv' nk ni ks xs :=
  ⟨h.k.alloc o, h.i.alloc o, (Below.heap_alloc _ _ _ (Array.getElem?_eq_some_iff.1 h.v).1).trans h.v, h.os, h.tape, h.output, by have := h.size; simp; omega, fun j hj a b => (Below.heap_alloc _ _ _ (Nat.lt_of_lt_of_le hj h.size)).trans (h.block j hj a b), h.kn, h.in_, h.ne, h.vB, h.hB⟩
theorem Two.drew (h : Two B vb kv iv w2 W kv' iv' nk ni ks xs) : Two B vb kv iv w2 W.drew kv' iv' nk ni ks xs := ⟨h.k, h.i, h.v, h.os, h.tape, h.output, h.size, h.block, h.kn, h.in_, h.ne, h.vB, h.hB⟩
theorem Two.keys (h : Two B vb kv iv w2 W kv' iv' nk ni ks xs) {g n' cap : Nat} {ks' : List Value} (hg : W.grownBy w' kv'.ownBlock) (ho : w'.ownsRow B 9 1 (.slice (some ⟨g, 0, none⟩) n' cap) n' ks') (ha : kv'.ownBlock = some g ∨ g = W.heap.size) :
    Two B vb kv iv w2 w' (.slice (some ⟨g, 0, none⟩) n' cap) iv' n' ni ks' xs := by
  have hz := h.size
  refine ⟨ho, own_block h.i (fun i hi => hg.block i (own_lt h.i hi) (fun e => h.ne i e.symm hi)), (hg.block vb (Array.getElem?_eq_some_iff.1 h.v).1 (fun e => own_base h.k h.vB e.symm)).trans h.v, hg.os.trans h.os, hg.tape.trans h.tape, hg.output.trans h.output, Nat.le_trans hz hg.size, fun j hj a b => ?_, ?_, h.in_, fun g' e => ?_, h.vB, h.hB⟩
  · rw [hg.block j (by omega) (fun e => ?_), h.block j hj a b]
    rcases h.kn with h1 | ⟨g1, h1, h2⟩
    · exact a (h1.symm.trans e.symm)
    · rw [h1] at e; have := Option.some.inj e; omega
  · rcases ha with h1 | h1
    · rcases h.kn with h2 | ⟨g1, h2, h3⟩
      · exact .inl (h1.symm.trans h2)
      · exact .inr ⟨g, rfl, by rw [h1] at h2; have := Option.some.inj h2; omega⟩
    · exact .inr ⟨g, rfl, by omega⟩
  · have e : g = g' := Option.some.inj e
    subst e
    intro e2
    rcases ha with h1 | h1
    · exact h.ne g h1 e2
    · have := own_lt h.i e2; omega
theorem Two.items (h : Two B vb kv iv w2 W kv' iv' nk ni ks xs) {g n' cap : Nat} {xs' : List Value} (hg : W.grownBy w' iv'.ownBlock) (ho : w'.ownsRow B 25 5 (.slice (some ⟨g, 0, none⟩) n' cap) n' xs') (ha : iv'.ownBlock = some g ∨ g = W.heap.size) :
    Two B vb kv iv w2 w' kv' (.slice (some ⟨g, 0, none⟩) n' cap) nk n' ks xs' := by
  have hz := h.size
  refine ⟨own_block h.k (fun i hi => hg.block i (own_lt h.k hi) (fun e => h.ne i hi e.symm)), ho, (hg.block vb (Array.getElem?_eq_some_iff.1 h.v).1 (fun e => own_base h.i h.vB e.symm)).trans h.v, hg.os.trans h.os, hg.tape.trans h.tape, hg.output.trans h.output, Nat.le_trans hz hg.size, fun j hj a b => ?_, h.kn, ?_, fun g' e e2 => ?_, h.vB, h.hB⟩
  · rw [hg.block j (by omega) (fun e => ?_), h.block j hj a b]
    rcases h.in_ with h1 | ⟨g1, h1, h2⟩
    · exact b (h1.symm.trans e.symm)
    · rw [h1] at e; have := Option.some.inj e; omega
  · rcases ha with h1 | h1
    · rcases h.in_ with h2 | ⟨g1, h2, h3⟩
      · exact .inl (h1.symm.trans h2)
      · exact .inr ⟨g, rfl, by rw [h1] at h2; have := Option.some.inj h2; omega⟩
    · exact .inr ⟨g, rfl, by omega⟩
  · have e2 : g = g' := Option.some.inj e2
    subst e2
    rcases ha with h1 | h1
    · exact h.ne g e h1
    · have := own_lt h.k e; omega
end
/-- What a piece of an object leaves. -/
structure PieceO (B vb n : Nat) (kv iv : Value) (ks xs : List Value) (w2 X : World) : Prop where
  at_ : ∃ gk ck gi ci, X.ownsRow B 9 1 (.slice (some ⟨gk, 0, none⟩) n ck) n ks ∧ X.ownsRow B 25 5 (.slice (some ⟨gi, 0, none⟩) n ci) n xs ∧
    X.heap[vb]? = some (.cells #[.int .i64 6, .int .i64 0, .string ⟨#[]⟩, .slice (some ⟨gk, 0, none⟩) n ck, .slice (some ⟨gi, 0, none⟩) n ci] 25 (0, 0)) ∧
    (kv.ownBlock = some gk ∨ w2.heap.size ≤ gk) ∧ (iv.ownBlock = some gi ∨ w2.heap.size ≤ gi) ∧ gk ≠ gi
  os : X.os = w2.os
  tape : X.tape = w2.tape
  output : X.output = w2.output
  size : w2.heap.size ≤ X.heap.size
  block : ∀ i, i < w2.heap.size → i ≠ vb → kv.ownBlock ≠ some i → iv.ownBlock ≠ some i → X.heap[i]? = w2.heap[i]?
theorem vb_put3 {w : World} {vb : Nat} {a b c d e : Value} (h : w.heap[vb]? = some (.cells #[a, b, c, d, e] 25 (0, 0))) (v : Value) : (w.setCell ⟨vb, 3, none⟩ v).heap[vb]? = some (.cells #[a, b, c, v, e] 25 (0, 0)) := heap_setCell_same w vb 3 _ 25 v h
theorem Two.done {B vb n : Nat} {kv iv : Value} {w2 W : World} {gk ck gi ci : Nat} {ks xs : List Value} (h : Two B vb kv iv w2 W (.slice (some ⟨gk, 0, none⟩) n ck) (.slice (some ⟨gi, 0, none⟩) n ci) n n ks xs) :
    PieceO B vb n kv iv ks xs w2 ((W.setCell ⟨vb, 3, none⟩ (.slice (some ⟨gk, 0, none⟩) n ck)).setCell ⟨vb, 4, none⟩ (.slice (some ⟨gi, 0, none⟩) n ci)) := by
  have hv := vb_put (vb_put3 h.v (.slice (some ⟨gk, 0, none⟩) n ck)) (.slice (some ⟨gi, 0, none⟩) n ci)
  have hk1 : (Value.slice (some ⟨gk, 0, none⟩) n ck).ownBlock ≠ some vb := own_base h.k h.vB
  have hi1 : (Value.slice (some ⟨gi, 0, none⟩) n ci).ownBlock ≠ some vb := own_base h.i h.vB
  have hk2 := own_far (own_far h.k hk1 3 (.slice (some ⟨gk, 0, none⟩) n ck)) hk1 4 (.slice (some ⟨gi, 0, none⟩) n ci)
  have hi2 := own_far (own_far h.i hi1 3 (.slice (some ⟨gk, 0, none⟩) n ck)) hi1 4 (.slice (some ⟨gi, 0, none⟩) n ci)
  have hO : Only [vb] W ((W.setCell ⟨vb, 3, none⟩ (.slice (some ⟨gk, 0, none⟩) n ck)).setCell ⟨vb, 4, none⟩ (.slice (some ⟨gi, 0, none⟩) n ci)) := ((Only.refl _ W).set ⟨vb, 3, none⟩ (.inl (by simp)) _).set ⟨vb, 4, none⟩ (.inl (by simp)) _
  generalize ((W.setCell ⟨vb, 3, none⟩ (.slice (some ⟨gk, 0, none⟩) n ck)).setCell ⟨vb, 4, none⟩ (.slice (some ⟨gi, 0, none⟩) n ci)) = X at *
  refine ⟨⟨gk, ck, gi, ci, hk2, hi2, hv, ?_, ?_, fun e => h.ne gk rfl (by rw [e]; rfl)⟩, hO.os.trans h.os, hO.tape.trans h.tape, hO.output.trans h.output, Nat.le_trans h.size hO.size, fun i hi hv a b => (hO.block i (Nat.lt_of_lt_of_le hi h.size) (by simp; exact hv)).trans (h.block i hi a b)⟩
  · rcases h.kn with e | ⟨g, e, e2⟩
    · exact .inl e.symm
    · exact .inr (by have : gk = g := Option.some.inj e; omega)
  · rcases h.in_ with e | ⟨g, e, e2⟩
    · exact .inl e.symm
    · exact .inr (by have : gi = g := Option.some.inj e; omega)
end Go.Proofs.YtljkeladdplhlaaDoor
namespace Go.Proofs.YtljkeladdplhlaaDoor
open Go.RowKit

theorem info9 : (Tryd.prog.info? 9).map (fun i => (i.zero, i.size, i.bytes)) = some (some (.string ⟨#[]⟩), 1, 16) := by kernel_rfl

/-- What the closure of an object's pieces holds. -/
structure ObjEnv (w : World) (r rbx sb ib vb mm : Nat) : Prop where
  rd : w.cell? ⟨rbx, 0, none⟩ = some (.pointer (some ⟨r, 0, none⟩))
  sn : w.cell? ⟨sb, 0, none⟩ = some (.map (some mm))
theorem ObjEnv.only {X : List Nat} {w w' : World} {r rbx sb ib vb mm : Nat} (h : ObjEnv w r rbx sb ib vb mm) (k : Only X w w') (hx : rbx ∉ X ∧ sb ∉ X) : ObjEnv w' r rbx sb ib vb mm := ⟨k.cell h.rd hx.1, k.cell h.sn hx.2⟩

set_option maxHeartbeats 4000000 in
set_option maxRecDepth 100000 in
theorem obj_key (r : Nat) (s : ByteArray) (a : Nat) (rbx sb ib vb mm : Nat) (w : World) (h : Rd w r s a) (hu : Utf w) (he : ObjEnv w r rbx sb ib vb mm) (ha : a ≤ s.size) (hs : s.size ≤ 100000) (hk : (unqL (s.data.toList.drop a)).2.2 ≠ 0) :
    Calls Tryd.prog 82 #[.pointer (some ⟨rbx, 0, none⟩), .pointer (some ⟨sb, 0, none⟩), .pointer (some ⟨ib, 0, none⟩), .pointer (some ⟨vb, 0, none⟩)] w (fun e w' => e = .returned (.int .i64 ((unqL (s.data.toList.drop a)).2.2 : Int)) ∧ Only [r] w w') := by
  have hb := unqL_le (s.data.toList.drop a)
  rw [List.length_drop, ByteArray_len] at hb
  have cK := Lib.hid (key_any r s a w h hu ha hs (by omega))
  have c0 := he.rd
  generalize unqL (s.data.toList.drop a) = p at *
  obtain ⟨key, n, x⟩ := p
  simp only at hk
  have f9 : ((x : Int) != 0) = true := by simp; omega
  clear h hu he hb hk
  go_enter Tryd.func82, Tryd.ntmps82
  go_wp2_with fail
  refine cK.out.mono ?_
  rintro e w2 ⟨rfl, hr, ho⟩
  have HO := Lib.hid ho
  clear hr ho c0
  go_wp2
  go_ret
  exact ⟨rfl, HO.out⟩

set_option maxHeartbeats 4000000 in
set_option maxRecDepth 100000 in
theorem obj_twice (r : Nat) (s : ByteArray) (a : Nat) (rbx sb ib vb mm n : Nat) (keys : List (List UInt8)) (w : World) (h : Rd w r s a) (hu : Utf w) (he : ObjEnv w r rbx sb ib vb mm) (hne : rbx ≠ r ∧ sb ≠ r ∧ mm ≠ r) (hm : Seen w mm n keys) (ha : a ≤ s.size) (hs : s.size ≤ 100000) (hk : (unqL (s.data.toList.drop a)).2.2 = 0) (hin : (unqL (s.data.toList.drop a)).1 ∈ keys) :
    Calls Tryd.prog 82 #[.pointer (some ⟨rbx, 0, none⟩), .pointer (some ⟨sb, 0, none⟩), .pointer (some ⟨ib, 0, none⟩), .pointer (some ⟨vb, 0, none⟩)] w (fun e w' => e = .returned (.int .i64 8) ∧ Only [r] w w') := by
  have hb := unqL_le (s.data.toList.drop a)
  have hw := unqL_w (s.data.toList.drop a)
  rw [List.length_drop, ByteArray_len] at hb
  have cK := Lib.hid (key_any r s a w h hu ha hs (by omega))
  have c0 := he.rd
  have HE := Lib.hid he
  have HM := Lib.hid hm
  generalize unqL (s.data.toList.drop a) = p at *
  obtain ⟨key, q, x⟩ := p
  simp only at hk hin hw hb
  subst hk
  have hkl : key.length ≤ maxLen := by unfold maxLen; omega
  have HIN := Lib.hid hin
  have HKL := Lib.hid hkl
  clear h hu he hb hw hm hin hkl
  go_enter Tryd.func82, Tryd.ntmps82
  go_wp2_with fail
  refine cK.out.mono ?_
  rintro e w2 ⟨rfl, hr, ho⟩
  have HO := Lib.hid ho
  have c1 := (HE.out.only ho (by simp; omega)).sn
  have hlook := (HM.out.only ho (by simp; omega)).look key HKL.out
  rw [decide_eq_true HIN.out] at hlook
  clear hr ho c0
  go_wp2
  go_ret
  exact ⟨rfl, HO.out⟩

set_option maxHeartbeats 4000000 in
set_option maxRecDepth 100000 in
theorem obj_colon (r : Nat) (s : ByteArray) (a : Nat) (rbx sb ib vb mm n : Nat) (keys : List (List UInt8)) (w : World) (h : Rd w r s a) (hu : Utf w) (he : ObjEnv w r rbx sb ib vb mm) (hne : rbx ≠ r ∧ sb ≠ r ∧ mm ≠ r ∧ rbx ≠ mm) (hm : Seen w mm n keys) (hn : n ≤ 1000000) (ha : a ≤ s.size) (hs : s.size ≤ 100000) (hk : (unqL (s.data.toList.drop a)).2.2 = 0) (hin : ¬ (unqL (s.data.toList.drop a)).1 ∈ keys)
    (hc : (colonL ((s.data.toList.drop a).drop (unqL (s.data.toList.drop a)).2.1)).2 ≠ 0) :
    Calls Tryd.prog 82 #[.pointer (some ⟨rbx, 0, none⟩), .pointer (some ⟨sb, 0, none⟩), .pointer (some ⟨ib, 0, none⟩), .pointer (some ⟨vb, 0, none⟩)] w (fun e w' => e = .returned (.int .i64 ((colonL ((s.data.toList.drop a).drop (unqL (s.data.toList.drop a)).2.1)).2 : Int)) ∧ Only [r, mm] w w') := by
  have hb := unqL_le (s.data.toList.drop a)
  have hw := unqL_w (s.data.toList.drop a)
  rw [List.length_drop, ByteArray_len] at hb
  have cK := Lib.hid (key_any r s a w h hu ha hs (by omega))
  have cC := Lib.hid (fun (q : Nat) w1 h1 h2 => colon_any r s (a + q) w1 h1 h2 hs)
  have hdd : (s.data.toList.drop a).drop (unqL (s.data.toList.drop a)).2.1 = s.data.toList.drop (a + (unqL (s.data.toList.drop a)).2.1) := List.drop_drop
  rw [hdd] at hc ⊢
  have c0 := he.rd
  have HE := Lib.hid he
  have HM := Lib.hid hm
  generalize unqL (s.data.toList.drop a) = p at *
  obtain ⟨key, q, x⟩ := p
  simp only at hk hin hw hc hb
  subst hk
  have hkl : key.length ≤ maxLen := by unfold maxLen; omega
  have HIN := Lib.hid hin
  have HKL := Lib.hid hkl
  have cC := Lib.hid (cC.out q)
  generalize hC : colonL (s.data.toList.drop (a + q)) = C at *
  obtain ⟨m, x⟩ := C
  simp only at hc
  have f9 : ((x : Int) != 0) = true := by simp; omega
  clear h hu he hw hm hin hkl hdd hC hc
  go_enter Tryd.func82, Tryd.ntmps82
  go_wp2_with fail
  refine cK.out.mono ?_
  rintro e w2 ⟨rfl, hr, ho⟩
  have HO := Lib.hid ho
  have HR := Lib.hid hr
  have c1 := (HE.out.only ho (by simp; omega)).sn
  have c2 := (HE.out.only ho (by simp; omega)).rd
  have hlook := (HM.out.only ho (by simp; omega)).look key HKL.out
  rw [decide_eq_false HIN.out] at hlook
  obtain ⟨w3, hput, hs3, ho3, hml⟩ := (HM.out.only ho (by simp; omega)).put key HKL.out (by unfold maxLen; omega)
  have c3 := ho3.cell c2 (by simp; omega)
  have R3 := Lib.hid (hr.only ho3 (by simp; omega))
  have O3 := Lib.hid ((ho.mono (Y := [r, mm]) (by simp)).trans (ho3.mono (by simp)))
  clear hr ho c0 hs3 ho3 HR HO c2
  go_wp2_with fail
  refine (cC.out _ R3.out (by omega)).mono ?_
  rintro e w4 ⟨rfl, hr4, ho4⟩
  have O4 := Lib.hid (O3.out.trans (ho4.mono (by simp)))
  clear hr4 ho4 O3 R3 c3 c1 hlook hput
  go_wp2
  go_ret
  exact ⟨rfl, O4.out⟩
/-- What a piece leaves, said from an earlier world on. -/
theorem PieceO.base {B vb n : Nat} {kv iv : Value} {ks xs : List Value} {w6 W X : World} (h : PieceO B vb n kv iv ks xs W X) (k : Keeps w6 W) : PieceO B vb n kv iv ks xs w6 X := by
  obtain ⟨⟨gk, ck, gi, ci, h1, h2, h3, h4, h5, h6⟩, a, b, c, d, e⟩ := h
  have hz := k.size
  exact ⟨⟨gk, ck, gi, ci, h1, h2, h3, h4.imp_right (Nat.le_trans hz), h5.imp_right (Nat.le_trans hz), h6⟩, a.trans k.os, b.trans k.tape, c.trans k.output, Nat.le_trans hz d, fun i hi h1 h2 h3 => (e i (Nat.lt_of_lt_of_le hi hz) h1 h2 h3).trans (k.block i hi)⟩
theorem PieceO.same {B vb n : Nat} {kv iv : Value} {ks xs : List Value} {W X X' : World} (h : PieceO B vb n kv iv ks xs W X) (e1 : X'.heap = X.heap) (e2 : X'.os = X.os) (e3 : X'.tape = X.tape) (e4 : X'.output = X.output) : PieceO B vb n kv iv ks xs W X' := by
  obtain ⟨⟨gk, ck, gi, ci, h1, h2, h3, h4, h5, h6⟩, a, b, c, d, e⟩ := h
  exact ⟨⟨gk, ck, gi, ci, own_block h1 (fun i _ => by rw [e1]), own_block h2 (fun i _ => by rw [e1]), by rw [e1]; exact h3, h4, h5, h6⟩, e2.trans a, e3.trans b, e4.trans c, by rw [e1]; exact d, fun i hi h1 h2 h3 => by rw [e1]; exact e i hi h1 h2 h3⟩
end Go.Proofs.YtljkeladdplhlaaDoor
