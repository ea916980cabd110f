/-
  The contract of the reader's input of package record.
-/
import Derived.Test.YtpcfcbaapnkanaaRea
import Derived.Test.YtpcfcbaapnkanaaByt
namespace Go.Proofs.Ytpcfcbaapnkanaa
open Go.RowKit

theorem HasRest.lt {w : World} {g : Nat} {s : ByteArray} (h : HasRest w g s) : g < w.heap.size := World.block_lt_of_cell? w _ h.1
theorem HasRest.alloc {w : World} {g : Nat} {s : ByteArray} (h : HasRest w g s) (o : Obj) : HasRest (w.alloc o) g s :=
  ⟨(Below.cell (((Below.refl w.heap.size w).alloc (Nat.le_refl _) o)) h.lt).trans h.1, (Below.frozen (((Below.refl w.heap.size w).alloc (Nat.le_refl _) o)) h.lt).trans h.2⟩
theorem HasRest.set {w : World} {g : Nat} {s : ByteArray} (h : HasRest w g s) (t : ByteArray) : HasRest (w.setCell ⟨g, 0, none⟩ (.string t)) g t :=
  ⟨World.cell?_setCell_same _ _ _ h.1, (World.frozen?_setCell _ _ _ _).trans h.2⟩
theorem HasRest.keeps {w w' : World} {g : Nat} {s : ByteArray} (h : HasRest w g s) (k : Keeps w w') : HasRest w' g s :=
  ⟨(Below.cell k h.lt).trans h.1, (Below.frozen k h.lt).trans h.2⟩

theorem take_first (g : Nat) (c : UInt8) (l : List UInt8) (w : World) (hl : l.length ≤ 80000) (h : HasRest w g (S (c :: l))) :
    Calls Try.prog 85 #[.pointer (some ⟨g, 0, none⟩), .int .i64 1] w (fun e w' => e = .returned (.string ⟨#[c]⟩) ∧ w' = w.setCell ⟨g, 0, none⟩ (.string (S l))) :=
  take_list g 1 (c :: l) w (by simp; omega) (by simp) h
theorem take_all (g : Nat) (l : List UInt8) (w : World) (hl : l.length ≤ 80000) (h : HasRest w g (S l)) :
    Calls Try.prog 85 #[.pointer (some ⟨g, 0, none⟩), .int .i64 (S l).size] w (fun e w' => e = .returned (.string (S l)) ∧ w' = w.setCell ⟨g, 0, none⟩ (.string ⟨#[]⟩)) := by
  have := take_list g l.length l w (by omega) (Nat.le_refl _) h
  rw [List.take_length, List.drop_length] at this
  exact this
theorem take_none (g : Nat) (w : World) (h : HasRest w g ⟨#[]⟩) : Calls Try.prog 85 #[.pointer (some ⟨g, 0, none⟩), .int .i64 1] w (fun e w' => Faults 3 e ∧ w' = w) :=
  take_short_ g 1 ⟨#[]⟩ w (by decide) (by decide) h

theorem below_rest {g : Nat} {w w' : World} (h : Below g w w') (s : ByteArray) : Below g w (w'.setCell ⟨g, 0, none⟩ (.string s)) := Below.setCell h (Nat.le_refl _) _

/-- A result's cells, as they are made. -/
def zIn : Obj := .cells #[.int .i64 0, .int .i64 0, .int .i64 0, .bool false, .string ⟨#[]⟩] 28

set_option maxHeartbeats 4000000 in
set_option maxRecDepth 10000 in
theorem input_empty (g : Nat) (w : World) (h : HasRest w g ⟨#[]⟩) :
    Calls Try.prog 78 #[.pointer (some ⟨g, 0, none⟩)] w (fun e w' => Faults 3 e ∧ Below g w w') := by
  have hg := h.lt
  have cT := Lib.hid (take_none g _ (h.alloc zIn))
  unfold zIn at cT
  clear h
  go_enter Try.func78, Try.ntmps78
  go_wp2_with fail
  refine cT.out.mono ?_
  rintro e w' ⟨rfl, rfl⟩
  exact ⟨rfl, rfl, by repeat (first | exact Below.refl _ _ | refine Below.alloc ?_ (by first | omega | (simp; omega)) _ | refine Below.setCell ?_ (by simp) _ | refine Below.drew ?_)⟩

set_option maxHeartbeats 4000000 in
set_option maxRecDepth 10000 in
theorem input_event (g : Nat) (l : List UInt8) (w : World) (hl : l.length ≤ 80000) (h : HasRest w g (S (1 :: l))) :
    Calls Try.prog 78 #[.pointer (some ⟨g, 0, none⟩)] w (fun e w' => e = .returned (inV 1 0 0 false (S l)) ∧ Below g w w') := by
  have hg := h.lt
  have cT := Lib.hid (take_first g 1 l _ (by first | exact hl | simp) (h.alloc zIn))
  have h1 := ((h.set (S l)).alloc zIn).alloc (.cells #[.int .i64 1, .int .i64 0, .int .i64 0, .bool false, .string ⟨#[]⟩] 28)
  unfold zIn at cT h1
  have hix : ∀ h, (⟨#[1]⟩ : ByteArray)[0]'h = 1 := fun _ => rfl
  obtain ⟨hc, hf⟩ := h
  have H1 := Lib.hid h1
  clear h1
  have cA := Lib.hid (fun w h => take_all g l w hl h)
  go_enter Try.func78, Try.ntmps78
  go_wp2_with fail
  refine cT.out.mono ?_
  rintro e w' ⟨rfl, rfl⟩
  go_wp2_with fail
  refine (cA.out _ H1.out).mono ?_
  rintro e w' ⟨rfl, rfl⟩
  go_wp2
  exact bodyPost_ret (v := inV 1 0 0 false (S l)) (by simp [results, Try.results78, go_sem, inV]) rfl ⟨rfl, by repeat (first | exact Below.refl _ _ | refine Below.alloc ?_ (by first | omega | (simp; omega)) _ | refine Below.setCell ?_ (by simp) _ | refine Below.drew ?_)⟩

/-- A struct of the call's own: its cells, none of which is frozen. -/
def Own5 (w : World) (q : Nat) (k code n : Int) (ok : Bool) (t : ByteArray) : Prop := InCells w q k code n ok t ∧ w.frozen? ⟨q, 0, none⟩ = false ∧ w.frozen? ⟨q, 1, none⟩ = false ∧ w.frozen? ⟨q, 2, none⟩ = false ∧ w.frozen? ⟨q, 3, none⟩ = false ∧ w.frozen? ⟨q, 4, none⟩ = false
theorem own5_new (w : World) (k code n : Int) (ok : Bool) (t : ByteArray) : Own5 (w.alloc (.cells #[.int .i64 k, .int .i64 code, .int .i64 n, .bool ok, .string t] 28)) w.heap.size k code n ok t := by
  refine ⟨inCells_new w k code n ok t, ?_, ?_, ?_, ?_, ?_⟩
  all_goals exact World.frozen?_alloc_at _ _ _ _ rfl
theorem Own5.keeps {w w' : World} {q : Nat} {k code n : Int} {ok : Bool} {t : ByteArray} (h : Own5 w q k code n ok t) (hk : Keeps w w') : Own5 w' q k code n ok t := by
  have hq : q < w.heap.size := World.block_lt_of_cell? w _ h.1.1
  exact ⟨h.1.later hk hq, (Below.frozen hk hq).trans h.2.1, (Below.frozen hk hq).trans h.2.2.1, (Below.frozen hk hq).trans h.2.2.2.1, (Below.frozen hk hq).trans h.2.2.2.2.1, (Below.frozen hk hq).trans h.2.2.2.2.2⟩
theorem Own5.rest {w : World} {q g : Nat} {k code n : Int} {ok : Bool} {t : ByteArray} (h : Own5 w q k code n ok t) (hg : g ≠ q) (s : ByteArray) : Own5 (w.setCell ⟨g, 0, none⟩ (.string s)) q k code n ok t := by
  obtain ⟨⟨a0, a1, a2, a3, a4⟩, b0, b1, b2, b3, b4⟩ := h
  refine ⟨⟨(World.cell?_setCell_other _ _ _ _ ?_).trans a0, (World.cell?_setCell_other _ _ _ _ ?_).trans a1, (World.cell?_setCell_other _ _ _ _ ?_).trans a2, (World.cell?_setCell_other _ _ _ _ ?_).trans a3, (World.cell?_setCell_other _ _ _ _ ?_).trans a4⟩, (World.frozen?_setCell _ _ _ _).trans b0, (World.frozen?_setCell _ _ _ _).trans b1, (World.frozen?_setCell _ _ _ _).trans b2, (World.frozen?_setCell _ _ _ _).trans b3, (World.frozen?_setCell _ _ _ _).trans b4⟩
  all_goals simp [hg]
theorem number_at (g : Nat) (l : List UInt8) (w : World) (hl : l.length ≤ 80000) (h8 : 8 ≤ l.length) (h : HasRest w g (S l)) :
    Calls Try.prog 86 #[.pointer (some ⟨g, 0, none⟩)] w (fun e w' => e = .returned (.int .i64 (min (val (l.take 8)) 9223372036854775807 : Nat)) ∧ Keeps (w.setCell ⟨g, 0, none⟩ (.string (S (l.drop 8)))) w') :=
  number_read g l w (by omega) h8 h.lt h

set_option maxHeartbeats 4000000 in
set_option maxRecDepth 10000 in
theorem input_restart (g : Nat) (w : World) (h : HasRest w g (S [6])) :
    Calls Try.prog 78 #[.pointer (some ⟨g, 0, none⟩)] w (fun e w' => e = .returned (inV 6 0 0 false ⟨#[]⟩) ∧ Below g w w') := by
  have hg := h.lt
  have cT := Lib.hid (take_first g 6 [] _ (by first | exact hl | simp) (h.alloc zIn))
  have h1 := ((h.set (S [])).alloc zIn).alloc (.cells #[.int .i64 6, .int .i64 0, .int .i64 0, .bool false, .string ⟨#[]⟩] 28)
  unfold zIn at cT h1
  have hix : ∀ h, (⟨#[6]⟩ : ByteArray)[0]'h = 6 := fun _ => rfl
  obtain ⟨hc, hf⟩ := h
  have H1 := Lib.hid h1
  clear h1
  have hS : S [] = ⟨#[]⟩ := rfl
  rw [hS] at cT
  clear hS
  go_enter Try.func78, Try.ntmps78
  go_wp2_with fail
  refine cT.out.mono ?_
  rintro e w' ⟨rfl, rfl⟩
  go_wp2
  exact bodyPost_ret (v := inV 6 0 0 false ⟨#[]⟩) (by simp [results, Try.results78, go_sem, inV]) rfl ⟨rfl, by repeat (first | exact Below.refl _ _ | refine Below.alloc ?_ (by first | omega | (simp; omega)) _ | refine Below.setCell ?_ (by simp) _ | refine Below.drew ?_)⟩

set_option maxHeartbeats 4000000 in
set_option maxRecDepth 10000 in
theorem input_restart_more (g : Nat) (a : UInt8) (l : List UInt8) (w : World) (hl : l.length < 80000) (h : HasRest w g (S (6 :: a :: l))) :
    Calls Try.prog 78 #[.pointer (some ⟨g, 0, none⟩)] w (fun e w' => Faults 5 e ∧ Below g w w') := by
  have hg := h.lt
  have cT := Lib.hid (take_first g 6 (a :: l) _ (by first | (simp; omega) | simp) (h.alloc zIn))
  have h1 := ((h.set (S (a :: l))).alloc zIn).alloc (.cells #[.int .i64 6, .int .i64 0, .int .i64 0, .bool false, .string ⟨#[]⟩] 28)
  unfold zIn at cT h1
  have hix : ∀ h, (⟨#[6]⟩ : ByteArray)[0]'h = 6 := fun _ => rfl
  obtain ⟨hc, hf⟩ := h
  have H1 := Lib.hid h1
  clear h1
  have hne : (S (a :: l)).toList.isEmpty = false := by rw [ByteArray.toList_eq]; rfl
  go_enter Try.func78, Try.ntmps78
  go_wp2_with fail
  refine cT.out.mono ?_
  rintro e w' ⟨rfl, rfl⟩
  go_wp2
  exact ⟨rfl, rfl, by repeat (first | exact Below.refl _ _ | refine Below.alloc ?_ (by first | omega | (simp; omega)) _ | refine Below.setCell ?_ (by simp) _ | refine Below.drew ?_)⟩

set_option maxHeartbeats 4000000 in
set_option maxRecDepth 10000 in
theorem input_kind (g : Nat) (c : UInt8) (l : List UInt8) (w : World) (hl : l.length ≤ 80000) (hc0 : c.toNat = 0 ∨ 6 < c.toNat) (h : HasRest w g (S (c :: l))) :
    Calls Try.prog 78 #[.pointer (some ⟨g, 0, none⟩)] w (fun e w' => Faults 9 e ∧ Below g w w') := by
  have hg := h.lt
  have cT := Lib.hid (take_first g c l _ (by first | exact hl | simp) (h.alloc zIn))
  have h1 := ((h.set (S l)).alloc zIn).alloc (.cells #[.int .i64 c.toNat, .int .i64 0, .int .i64 0, .bool false, .string ⟨#[]⟩] 28)
  unfold zIn at cT h1
  have hix : ∀ h, (⟨#[c]⟩ : ByteArray)[0]'h = c := fun _ => rfl
  obtain ⟨hc, hf⟩ := h
  have hcb := c.toNat_lt
  have H1 := Lib.hid h1
  clear h1
  rcases hc0 with hc0 | hc0
  · obtain rfl : c = 0 := UInt8.toNat_inj.1 hc0
    go_enter Try.func78, Try.ntmps78
    go_wp2_with fail
    refine cT.out.mono ?_
    rintro e w' ⟨rfl, rfl⟩
    go_wp2
    exact ⟨rfl, rfl, by repeat (first | exact Below.refl _ _ | refine Below.alloc ?_ (by first | omega | (simp; omega)) _ | refine Below.setCell ?_ (by simp) _ | refine Below.drew ?_)⟩
  · go_enter Try.func78, Try.ntmps78
    go_wp2_with fail
    refine cT.out.mono ?_
    rintro e w' ⟨rfl, rfl⟩
    go_wp2
    exact ⟨rfl, rfl, by repeat (first | exact Below.refl _ _ | refine Below.alloc ?_ (by first | omega | (simp; omega)) _ | refine Below.setCell ?_ (by simp) _ | refine Below.drew ?_)⟩

set_option maxHeartbeats 4000000 in
set_option maxRecDepth 10000 in
theorem input_command_short (g : Nat) (w : World) (h : HasRest w g (S [5])) :
    Calls Try.prog 78 #[.pointer (some ⟨g, 0, none⟩)] w (fun e w' => Faults 3 e ∧ Below g w w') := by
  have hg := h.lt
  have cT := Lib.hid (take_first g 5 [] _ (by first | exact hl | simp) (h.alloc zIn))
  have h1 := ((h.set (S [])).alloc zIn).alloc (.cells #[.int .i64 5, .int .i64 0, .int .i64 0, .bool false, .string ⟨#[]⟩] 28)
  unfold zIn at cT h1
  have hix : ∀ h, (⟨#[5]⟩ : ByteArray)[0]'h = 5 := fun _ => rfl
  obtain ⟨hc, hf⟩ := h
  have H1 := Lib.hid h1
  clear h1
  have cA := Lib.hid (fun w h => take_none g w h)
  have hS : S [] = ⟨#[]⟩ := rfl
  rw [hS] at cT H1
  clear hS
  go_enter Try.func78, Try.ntmps78
  go_wp2_with fail
  refine cT.out.mono ?_
  rintro e w' ⟨rfl, rfl⟩
  go_wp2_with fail
  refine (cA.out _ H1.out).mono ?_
  rintro e w' ⟨rfl, rfl⟩
  exact ⟨rfl, rfl, by repeat (first | exact Below.refl _ _ | refine Below.alloc ?_ (by first | omega | (simp; omega)) _ | refine Below.setCell ?_ (by simp) _ | refine Below.drew ?_)⟩

set_option maxHeartbeats 4000000 in
set_option maxRecDepth 10000 in
theorem input_command (g : Nat) (c : UInt8) (l : List UInt8) (w : World) (hl : l.length < 80000) (h : HasRest w g (S (5 :: c :: l))) :
    Calls Try.prog 78 #[.pointer (some ⟨g, 0, none⟩)] w (fun e w' => e = .returned (inV 5 c.toNat 0 false (S l)) ∧ Below g w w') := by
  have hg := h.lt
  have cT := Lib.hid (take_first g 5 (c :: l) _ (by first | (simp; omega) | simp) (h.alloc zIn))
  have h1 := ((h.set (S (c :: l))).alloc zIn).alloc (.cells #[.int .i64 5, .int .i64 0, .int .i64 0, .bool false, .string ⟨#[]⟩] 28)
  unfold zIn at cT h1
  have hix : ∀ h, (⟨#[5]⟩ : ByteArray)[0]'h = 5 := fun _ => rfl
  obtain ⟨hc, hf⟩ := h
  have H1 := Lib.hid h1
  clear h1
  have hcb := c.toNat_lt
  have hiy : ∀ h, (⟨#[c]⟩ : ByteArray)[0]'h = c := fun _ => rfl
  have cB := Lib.hid (fun w h => take_first g c l w (by omega) h)
  have cA := Lib.hid (fun w h => take_all g l w (by omega) h)
  have h2 : Hid (HasRest ((((w.setCell ⟨g, 0, none⟩ (.string (S (c :: l)))).setCell ⟨g, 0, none⟩ (.string (S l))).alloc zIn).alloc (.cells #[.int .i64 5, .int .i64 c.toNat, .int .i64 0, .bool false, .string ⟨#[]⟩] 28)) g (S l)) := ((HasRest.set (HasRest.set ⟨hc, hf⟩ (S (c :: l))) (S l)).alloc zIn).alloc _
  unfold zIn at h2
  have hc3 := (HasRest.set (HasRest.set (HasRest.set ⟨hc, hf⟩ (S (c :: l))) (S l)) ⟨#[]⟩).1
  go_enter Try.func78, Try.ntmps78
  go_wp2_with fail
  refine cT.out.mono ?_
  rintro e w' ⟨rfl, rfl⟩
  go_wp2_with fail
  refine (cB.out _ H1.out).mono ?_
  rintro e w' ⟨rfl, rfl⟩
  go_wp2_with fail
  refine (cA.out _ h2.out).mono ?_
  rintro e w' ⟨rfl, rfl⟩
  go_wp2
  exact bodyPost_ret (v := inV 5 c.toNat 0 false (S l)) (by simp [results, Try.results78, go_sem, inV]) rfl ⟨rfl, by repeat (first | exact Below.refl _ _ | refine Below.alloc ?_ (by first | omega | (simp; omega)) _ | refine Below.setCell ?_ (by simp) _ | refine Below.drew ?_)⟩

end Go.Proofs.Ytpcfcbaapnkanaa
