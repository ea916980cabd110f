/-
  Rows of structs of a call's own; blocks that stand while one turns; the reader's take, byte and number.
-/
import Derived.Test.YtpcfcbaapnkanaaSf
import Derived.Laws.Bits64b
namespace Go.Proofs.Ytpcfcbaapnkanaa
open Go.RowKit

/-- Blocks that were there stand as they stood, but for block g. -/
structure Only (g : Nat) (w w' : World) : Prop where
  os : w'.os = w.os
  tape : w'.tape = w.tape
  output : w'.output = w.output
  size : w.heap.size ≤ w'.heap.size
  block : ∀ i, i < w.heap.size → i ≠ g → w'.heap[i]? = w.heap[i]?
theorem Only.refl (g : Nat) (w : World) : Only g w w := ⟨rfl, rfl, rfl, Nat.le_refl _, fun _ _ _ => rfl⟩
theorem Only.trans {g : Nat} {a b c : World} (h : Only g a b) (k : Only g b c) : Only g a c :=
  ⟨k.os.trans h.os, k.tape.trans h.tape, k.output.trans h.output, Nat.le_trans h.size k.size, fun i hi hx => (k.block i (Nat.lt_of_lt_of_le hi h.size) hx).trans (h.block i hi hx)⟩
theorem Only.keeps {g : Nat} {a b c : World} (h : Only g a b) (k : Keeps b c) : Only g a c :=
  ⟨k.os.trans h.os, k.tape.trans h.tape, k.output.trans h.output, Nat.le_trans h.size k.size, fun i hi hx => (k.block i (Nat.lt_of_lt_of_le hi h.size)).trans (h.block i hi hx)⟩
theorem Keeps.only (g : Nat) {a b : World} (h : Keeps a b) : Only g a b := (Only.refl g a).keeps h
theorem Only.alloc {g : Nat} {a b : World} (h : Only g a b) (o : Obj) : Only g a (b.alloc o) := h.keeps ((Keeps.refl b).alloc o)
theorem Only.set {g : Nat} {a b : World} (h : Only g a b) (p : Addr) (hp : p.block = g ∨ a.heap.size ≤ p.block) (u : Value) : Only g a (b.setCell p u) :=
  ⟨h.os, h.tape, h.output, by simpa using h.size, fun i hi hx => by
    rw [Below.heap_setCell b p u i (fun e => by rcases hp with hp | hp; · exact hx (e ▸ hp)
                                                · omega)]
    exact h.block i hi hx⟩
theorem Only.cell {g : Nat} {w w' : World} (h : Only g w w') {p : Addr} {v : Value} (hp : p.block ≠ g) (hc : w.cell? p = some v) : w'.cell? p = some v := by
  have hb := h.block p.block (World.block_lt_of_cell? w p hc) hp
  unfold World.cell? at hc ⊢
  rw [hb]
  exact hc
theorem Only.frozen {g : Nat} {w w' : World} (h : Only g w w') {p : Addr} (hl : p.block < w.heap.size) (hp : p.block ≠ g) : w'.frozen? p = w.frozen? p := by
  have hb := h.block p.block hl hp
  unfold World.frozen?
  rw [hb]
theorem Only.row {g : Nat} {w w' : World} (h : Only g w w') {B e s n : Nat} {v : Value} {xs : List Value} (hr : w.ownsRow B e s v n xs) (hB : g < B) : w'.ownsRow B e s v n xs :=
  ⟨hr.1, hr.2.imp id (fun ⟨g0, cap, cur, e, hb, hg, r⟩ => ⟨g0, cap, cur, e, hb, (h.block _ (blk_lt hg) (by omega)).trans hg, r⟩)⟩
theorem Keeps.row {w w' : World} (h : Keeps w w') {B e s n : Nat} {v : Value} {xs : List Value} (hr : w.ownsRow B e s v n xs) : w'.ownsRow B e s v n xs :=
  ⟨hr.1, hr.2.imp id (fun ⟨g0, cap, cur, e, hb, hg, r⟩ => ⟨g0, cap, cur, e, hb, (h.block _ (blk_lt hg)).trans hg, r⟩)⟩

/-- A call that gives up by a fault. -/
def FaultS (n : Int) (e : Ending) : Prop := e = .panicked [{ v := .iface 52 (.int .i64 n), recovered := false }]

-- rows of structs
section
variable {α : Type} (f : α → Array Value) (s : Nat)
def flatF (l : List α) : List Value := l.flatMap fun a => (f a).toList
theorem flatF_len (hf : ∀ a, (f a).size = s) : ∀ l : List α, (flatF f l).length = l.length * s
  | [] => by simp [flatF]
  | a :: r => by
    have h := flatF_len hf r
    unfold flatF at h ⊢
    rw [List.flatMap_cons, List.length_append, h, List.length_cons, Array.length_toList, hf, Nat.add_mul]
    omega
theorem flatF_at (hf : ∀ a, (f a).size = s) : ∀ (l : List α) (i j : Nat) (hi : i < l.length) (v : Value), (f (l[i]'hi)).toList[j]? = some v → (flatF f l)[i * s + j]? = some v
  | [], i, j, hi, v, h => by simp at hi
  | a :: r, 0, j, hi, v, h => by
    have hj : j < (f a).toList.length := (List.getElem?_eq_some_iff.1 h).1
    unfold flatF
    rw [List.flatMap_cons, Nat.zero_mul, Nat.zero_add, List.getElem?_append_left hj]
    exact h
  | a :: r, i + 1, j, hi, v, h => by
    have hi' : i < r.length := by simpa using hi
    have h2 := flatF_at hf r i j hi' v (by simpa using h)
    unfold flatF at h2 ⊢
    have e : (f a).toList.length = s := by rw [Array.length_toList, hf]
    rw [List.flatMap_cons, List.getElem?_append_right (by rw [e, Nat.add_mul]; omega), e, show (i + 1) * s + j - s = i * s + j by rw [Nat.add_mul]; omega]
    exact h2
theorem flatF_back (hf : ∀ a, (f a).size = s) (hs : 0 < s) (l : List α) (j : Nat) (v : Value) (h : (flatF f l)[j]? = some v) : ∃ (hi : j / s < l.length), (f (l[j / s]'hi)).toList[j % s]? = some v := by
  have hj : j < l.length * s := by
    have := (List.getElem?_eq_some_iff.1 h).1
    rwa [flatF_len f s hf] at this
  have hi : j / s < l.length := Nat.div_lt_of_lt_mul (by rwa [Nat.mul_comm] at hj)
  refine ⟨hi, ?_⟩
  have h9 : j % s < (f (l[j / s]'hi)).toList.length := by rw [Array.length_toList, hf]; exact Nat.mod_lt _ hs
  have h2 := flatF_at f s hf l (j / s) (j % s) hi _ (List.getElem?_eq_getElem h9)
  rw [show j / s * s + j % s = j from by rw [Nat.mul_comm]; exact Nat.div_add_mod j s, h] at h2
  rw [List.getElem?_eq_getElem h9, ← h2]
theorem flatF_app (l r : List α) : flatF f (l ++ r) = flatF f l ++ flatF f r := List.flatMap_append
/-- A row of structs of the call's own. -/
def SRow (t : TypeId) (w : World) (B : Nat) (v : Value) (l : List α) : Prop := w.ownsRow B t s v l.length (flatF f l)
theorem SRow.nil (t : TypeId) (w : World) (B : Nat) : SRow f s t w B (.slice none 0 0) [] := ⟨by simp [flatF], .inl ⟨rfl, rfl⟩⟩
theorem SRow.rows {f : α → Array Value} {s : Nat} (hf : ∀ a, (f a).size = s) {t : TypeId} {w : World} {B : Nat} {v : Value} {l : List α} (h : SRow f s t w B v l) :
    ∃ A c, v = .slice A l.length c ∧ ∀ (i : Nat) (hi : i < l.length), ∃ g o, A = some ⟨g, o, none⟩ ∧ CellsAt w g (o + i * s) (f (l[i]'hi)).toList := by
  obtain ⟨h1, ⟨rfl, h2⟩ | ⟨g, cap, cur, rfl, hB, hb, hc, hm, hs, ht⟩⟩ := h
  · exact ⟨none, 0, by rw [h2], fun k hk => by omega⟩
  · refine ⟨some ⟨g, 0, none⟩, cap, rfl, fun k hk => ⟨g, 0, rfl, fun j v hj => ?_⟩⟩
    have h9 : j < s := by
      have := (List.getElem?_eq_some_iff.1 hj).1
      rwa [Array.length_toList, hf] at this
    have h2 := flatF_at f s hf l k j hk v hj
    have hle : k * s + j < l.length * s := by
      have : (k + 1) * s ≤ l.length * s := Nat.mul_le_mul_right _ hk
      rw [Nat.add_mul] at this
      omega
    rw [← ht, List.getElem?_take, if_pos hle] at h2
    rw [Lib.cell_of_heap hb, Nat.zero_add, ← Array.getElem?_toList, h2]
end
theorem msC_size (m : Ms) : (msC m).size = 7 := rfl
theorem inC_size (x : Inp) : (inC x).size = 5 := rfl
def ciC (c : Int) : Array Value := #[.int .i64 c]
theorem ciC_size (c : Int) : (ciC c).size = 1 := rfl
set_option maxRecDepth 100000 in
theorem info31 : ∃ i, Try.prog.info? 31 = some i ∧ (∃ z, i.zero = some z ∧ z.cells.size = 7) ∧ i.size = 7 ∧ i.bytes = 80 := by
  refine ⟨_, rfl, ⟨_, rfl, ?_⟩, ?_, ?_⟩ <;> kernel_rfl
set_option maxRecDepth 100000 in
theorem info28 : ∃ i, Try.prog.info? 28 = some i ∧ (∃ z, i.zero = some z ∧ z.cells.size = 5) ∧ i.size = 5 ∧ i.bytes = 48 := by
  refine ⟨_, rfl, ⟨_, rfl, ?_⟩, ?_, ?_⟩ <;> kernel_rfl
theorem info3 : (Try.prog.info? 3).map (fun i => (i.zero, i.size, i.bytes)) = some (some (.int .i64 0), 1, 8) := by kernel_rfl
abbrev CutRow := SRow ciC 1 3
abbrev MsRow := SRow msC 7 31
abbrev InRow := SRow inC 5 28
theorem CutRow.cuts {w : World} {B : Nat} {v : Value} {l : List Int} (h : CutRow w B v l) : ∃ A c, v = .slice A l.length c ∧ CutsAt w A l := by
  obtain ⟨A, c, e, h2⟩ := SRow.rows ciC_size h
  refine ⟨A, c, e, fun i hi => ?_⟩
  obtain ⟨g, o, e2, hc⟩ := h2 i hi
  refine ⟨g, o, e2, ?_⟩
  have := hc 0 _ rfl
  simpa using this
/-- A step whose cuts are a row of the call's own. -/
def MsOwn (w : World) (B : Nat) (m : Ms) : Prop := CutRow w B (.slice m.A m.s.cuts.length m.c) m.s.cuts
theorem MsOwn.ok {w : World} {B : Nat} {m : Ms} (h : MsOwn w B m) : MsOk w m := by
  obtain ⟨A, c, e, h2⟩ := CutRow.cuts h
  injection e with e1 e2 e3
  unfold MsOk
  rw [e1]
  exact h2
theorem MsRow.steps {w : World} {B : Nat} {v : Value} {l : List Ms} (h : MsRow w B v l) (ho : ∀ m, m ∈ l → MsOk w m) : ∃ A c, v = .slice A l.length c ∧ StepsAt w A l := by
  obtain ⟨A, c, e, h2⟩ := SRow.rows msC_size h
  exact ⟨A, c, e, fun i hi => ⟨h2 i hi, ho _ (List.getElem_mem hi)⟩⟩
/-- A row of steps grows: the cuts stand. -/
theorem MsOwn.grown {w w' : World} {B B2 : Nat} {m : Ms} {v : Value} {l : List Ms} (h : MsOwn w B m) (hr : MsRow w B2 v l) (g : w.grownBy w' v.ownBlock) : MsOwn w' B m := by
  obtain ⟨h1, h2 | ⟨g0, cap, cur, e, hb, hg, r⟩⟩ := h
  · exact ⟨h1, .inl h2⟩
  · refine ⟨h1, .inr ⟨g0, cap, cur, e, hb, (g.block g0 (blk_lt hg) fun e2 => ?_).trans hg, r⟩⟩
    rcases hr.2 with ⟨rfl, _⟩ | ⟨g1, cap1, cur1, rfl, _, hg1, _⟩
    · simp [Value.ownBlock] at e2
    · simp [Value.ownBlock] at e2
      subst e2
      rw [hg1] at hg
      injection hg with hg
      injection hg with _ hg _
      cases hg

theorem or_add2 (v : Nat) (c : Nat) (h : v < 256) (hc : c < 256) : bits BinOp.or IntKind.i64 ((v : Int) * 256) (c : Int) = ((v * 256 + c : Nat) : Int) := by
  have e : (v : Int) * 256 = ((v * 256 : Nat) : Int) := by rw [Int.natCast_mul]; rfl
  have h1 : (BitVec.ofInt 64 ((v * 256 : Nat) : Int)).toNat = v * 256 := by
    rw [BitVec.ofInt_natCast, BitVec.toNat_ofNat]; exact Nat.mod_eq_of_lt (by omega)
  have h2 : (BitVec.ofInt 64 (c : Int)).toNat = c := by
    rw [BitVec.ofInt_natCast, BitVec.toNat_ofNat]; exact Nat.mod_eq_of_lt (by omega)
  have h3 := Nat.shiftLeft_add_eq_or_of_lt (i := 8) (b := c) (by omega) v
  rw [Nat.shiftLeft_eq] at h3
  have h4 : v * 2 ^ 8 = v * 256 := rfl
  rw [h4] at h3
  rw [e]
  show IntKind.i64.wrap ((BitVec.ofInt 64 ((v * 256 : Nat) : Int) ||| BitVec.ofInt 64 (c : Int)).toNat : Int) = _
  rw [BitVec.toNat_or, h1, h2, ← h3]
  rw [IntKind.wrap_i64]
  omega

set_option maxHeartbeats 1000000 in
set_option maxRecDepth 10000 in
theorem takeS_ok (g n : Nat) (s : ByteArray) (w : World) (_hs : s.size ≤ 6000000) (hn : n ≤ s.size) (h : HasRest w g s) :
    Calls Try.prog 44 #[.pointer (some ⟨g, 0, none⟩), .int .i64 n] w (fun e w' => e = .returned (.string (s.extract 0 n)) ∧ w' = w.setCell ⟨g, 0, none⟩ (.string (s.extract n s.size))) := by
  obtain ⟨hc, hf⟩ := h
  have c1 : (0 : Int) ≤ n := by omega
  have c2 : (n : Int) ≤ s.size := by omega
  go_enter Try.func44, Try.ntmps44
  go_wp2
  go_ret
  exact ⟨rfl, rfl⟩
set_option maxHeartbeats 1000000 in
set_option maxRecDepth 10000 in
theorem takeS_short (g : Nat) (n : Int) (s : ByteArray) (w : World) (_hs : s.size ≤ 6000000) (hn : s.size < n) (h : HasRest w g s) :
    Calls Try.prog 44 #[.pointer (some ⟨g, 0, none⟩), .int .i64 n] w (fun e w' => FaultS 3 e ∧ w' = w) := by
  obtain ⟨hc, hf⟩ := h
  go_enter Try.func44, Try.ntmps44
  go_wp2
  exact ⟨rfl, rfl, rfl⟩
theorem takeS_list (g n : Nat) (l : List UInt8) (w : World) (hs : l.length ≤ 6000000) (hn : n ≤ l.length) (h : HasRest w g (S l)) :
    Calls Try.prog 44 #[.pointer (some ⟨g, 0, none⟩), .int .i64 n] w (fun e w' => e = .returned (.string (S (l.take n))) ∧ w' = w.setCell ⟨g, 0, none⟩ (.string (S (l.drop n)))) := by
  have := takeS_ok g n (S l) w (by rw [S_size]; exact hs) (by rw [S_size]; exact hn) h
  rw [S_take, S_drop] at this
  exact this
/-- What a reader's call comes to. -/
def Rds {α : Type} (p : PS.Rd α) (V : α → World → Value → Prop) (g : Nat) (l : List UInt8) (w : World) (e : Ending) (w' : World) : Prop :=
  Only g w w' ∧ match p l with
  | .error n => FaultS n e
  | .ok (a, r) => ∃ v, e = .returned v ∧ V a w' v ∧ HasRest w' g (S r)
theorem Rds.ok {α : Type} {p : PS.Rd α} {V : α → World → Value → Prop} {g : Nat} {l : List UInt8} {w : World} {v : Value} {w' : World} {a : α} {r : List UInt8} (hp : p l = .ok (a, r)) (ho : Only g w w') (hv : V a w' v) (hr : HasRest w' g (S r)) : Rds p V g l w (.returned v) w' := by
  refine ⟨ho, ?_⟩
  rw [hp]
  exact ⟨v, rfl, hv, hr⟩
theorem Rds.fault {α : Type} {p : PS.Rd α} {V : α → World → Value → Prop} {g : Nat} {l : List UInt8} {w w' : World} {n : Int} (hp : p l = .error n) (ho : Only g w w') : Rds p V g l w (.panicked [{ v := .iface 52 (.int .i64 n), recovered := false }]) w' := by
  refine ⟨ho, ?_⟩
  rw [hp]
  rfl
theorem Rds.of_error {α : Type} {p : PS.Rd α} {V : α → World → Value → Prop} {g : Nat} {l : List UInt8} {w w' : World} {e : Ending} {n : Int} (hp : p l = .error n) (h : Rds p V g l w e w') : Only g w w' ∧ e = .panicked [{ v := .iface 52 (.int .i64 n), recovered := false }] := by
  obtain ⟨h1, h2⟩ := h
  rw [hp] at h2
  exact ⟨h1, h2⟩
theorem Rds.of_ok {α : Type} {p : PS.Rd α} {V : α → World → Value → Prop} {g : Nat} {l : List UInt8} {w w' : World} {e : Ending} {a : α} {r : List UInt8} (hp : p l = .ok (a, r)) (h : Rds p V g l w e w') : Only g w w' ∧ ∃ v, e = .returned v ∧ V a w' v ∧ HasRest w' g (S r) := by
  obtain ⟨h1, h2⟩ := h
  rw [hp] at h2
  exact ⟨h1, h2⟩
def Vn (n : Nat) (_ : World) (v : Value) : Prop := v = .int .i64 n
def Vs (t : List UInt8) (_ : World) (v : Value) : Prop := v = .string (S t)
theorem Only.rest {g : Nat} {w : World} (s : ByteArray) : Only g w (w.setCell ⟨g, 0, none⟩ (.string s)) := (Only.refl g w).set _ (.inl rfl) _
theorem take_any (g n : Nat) (l : List UInt8) (w : World) (hs : l.length ≤ 6000000) (h : HasRest w g (S l)) : Calls Try.prog 44 #[.pointer (some ⟨g, 0, none⟩), .int .i64 n] w (Rds (PS.takeR n) Vs g l w) := by
  by_cases hn : n ≤ l.length
  · refine (takeS_list g n l w hs hn h).mono ?_
    rintro e w' ⟨rfl, rfl⟩
    exact Rds.ok (a := l.take n) (r := l.drop n) (by unfold PS.takeR; rw [if_pos hn]) (Only.rest _) rfl (h.set _)
  · refine (takeS_short g n (S l) w (by rw [S_size]; exact hs) (by rw [S_size]; omega) h).mono ?_
    rintro e w' ⟨rfl, rfl⟩
    exact Rds.fault (by unfold PS.takeR; rw [if_neg hn]) (Only.refl g _)

set_option maxHeartbeats 1000000 in
set_option maxRecDepth 10000 in
theorem byte_any (g : Nat) (l : List UInt8) (w : World) (hs : l.length ≤ 6000000) (h : HasRest w g (S l)) : Calls Try.prog 45 #[.pointer (some ⟨g, 0, none⟩)] w (Rds PS.byteR Vn g l w) := by
  cases l with
  | nil =>
    have cT := Lib.hid (takeS_short g 1 (S []) w (by rw [S_size]; exact hs) (by rw [S_size]; decide) h)
    clear h
    go_enter Try.func45, Try.ntmps45
    go_wp2_with fail
    refine cT.out.mono ?_
    rintro e w' ⟨rfl, rfl⟩
    go_wp2
    exact ⟨rfl, Rds.fault (p := PS.byteR) (V := Vn) (g := g) (l := []) (w := _) (n := 3) rfl (Only.refl g _)⟩
  | cons c l =>
    have cT : Hid (Calls Try.prog 44 #[.pointer (some ⟨g, 0, none⟩), .int .i64 1] w (fun e w' => e = .returned (.string ⟨#[c]⟩) ∧ w' = w.setCell ⟨g, 0, none⟩ (.string (S l)))) := Lib.hid (takeS_list g 1 (c :: l) w hs (by simp) h)
    have HR := Lib.hid (h.set (S l))
    have hb := c.toNat_lt
    have hix : ∀ h, (⟨#[c]⟩ : ByteArray)[0]'h = c := fun _ => rfl
    clear h
    go_enter Try.func45, Try.ntmps45
    go_wp2_with fail
    refine cT.out.mono ?_
    rintro e w' ⟨rfl, rfl⟩
    go_wp2
    go_ret
    exact Rds.ok (a := c.toNat) (r := l) rfl (Only.rest _) rfl HR.out

set_option maxHeartbeats 1000000 in
set_option maxRecDepth 10000 in
theorem numS_any (g : Nat) (l : List UInt8) (w : World) (hs : l.length ≤ 6000000) (h : HasRest w g (S l)) : Calls Try.prog 46 #[.pointer (some ⟨g, 0, none⟩)] w (Rds PS.numR Vn g l w) := by
  have cB := Lib.hid (fun wx l2 (h2 : l2.length ≤ 6000000) hx => byte_any g l2 wx h2 hx)
  match l, h, hs with
  | [], h, hs =>
    have c1 := Lib.hid (cB.out w [] hs h)
    clear h
    go_enter Try.func46, Try.ntmps46
    go_wp2_with fail
    refine c1.out.mono ?_
    rintro e w' hR
    obtain ⟨ho, rfl⟩ := Rds.of_error (n := 3) rfl hR
    have HO := Lib.hid ho
    clear hR ho
    go_wp2
    exact ⟨rfl, Rds.fault (p := PS.numR) (V := Vn) (g := g) (l := []) (w := w) (n := 3) rfl HO.out⟩
  | [a], h, hs =>
    have c1 := Lib.hid (cB.out w [a] hs h)
    clear h
    go_enter Try.func46, Try.ntmps46
    go_wp2_with fail
    refine c1.out.mono ?_
    rintro e w1 hR
    obtain ⟨ho, v, rfl, rfl, hr⟩ := Rds.of_ok (a := a.toNat) (r := []) rfl hR
    have c2 := Lib.hid (cB.out w1 [] (by simp) hr)
    have HO := Lib.hid ho
    clear hR ho hr
    go_wp2_with fail
    refine c2.out.mono ?_
    rintro e w2 hR
    obtain ⟨ho, rfl⟩ := Rds.of_error (n := 3) rfl hR
    have HO2 := Lib.hid (HO.out.trans ho)
    clear hR ho
    go_wp2
    exact ⟨rfl, Rds.fault (p := PS.numR) (V := Vn) (g := g) (l := [a]) (w := w) (n := 3) rfl HO2.out⟩
  | a :: b :: r, h, hs =>
    have c1 := Lib.hid (cB.out w (a :: b :: r) hs h)
    have hl : (b :: r).length ≤ 6000000 := by simp at hs ⊢; omega
    have ba := a.toNat_lt
    have bb := b.toNat_lt
    have ho2 := Lib.hid (or_add2 a.toNat b.toNat ba bb)
    clear h
    go_enter Try.func46, Try.ntmps46
    go_wp2_with fail
    refine c1.out.mono ?_
    rintro e w1 hR
    obtain ⟨ho, v, rfl, rfl, hr⟩ := Rds.of_ok (a := a.toNat) (r := b :: r) rfl hR
    have c2 := Lib.hid (cB.out w1 (b :: r) hl hr)
    have HO := Lib.hid ho
    clear hR ho hr
    go_wp2_with fail
    refine c2.out.mono ?_
    rintro e w2 hR
    obtain ⟨ho, v, rfl, rfl, hr⟩ := Rds.of_ok (a := b.toNat) (r := r) rfl hR
    have HO2 := Lib.hid (HO.out.trans ho)
    have HR2 := Lib.hid hr
    clear hR ho hr
    go_wp2
    go_ret
    refine Rds.ok (a := a.toNat * 256 + b.toNat) (r := r) rfl HO2.out ?_ HR2.out
    unfold Vn
    rw [← ho2.out]
    rfl
end Go.Proofs.Ytpcfcbaapnkanaa
