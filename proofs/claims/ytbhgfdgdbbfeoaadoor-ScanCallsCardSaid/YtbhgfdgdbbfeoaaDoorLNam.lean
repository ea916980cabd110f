/-
  The walks of lives and of the statement on the chapter's examples of package scan.
-/
import Derived.Test.YtbhgfdgdbbfeoaaDoorWrd
namespace Go.Proofs.YtbhgfdgdbbfeoaaDoor
open Go.RowKit

def RetQ (b : Bool) (w : World) (e : Ending) (w' : World) : Prop := e = .returned (.bool b) ∧ Keeps w w'
theorem RetQ.of {k k' : Bool} {w w' : World} (h : k' = k) (q : Keeps w w') : RetQ k w (.returned (.bool k')) w' := ⟨by rw [h], q⟩

theorem unq_at (s o : ByteArray) (n e : Nat) (x y : Int) (w : World) (hu : Utf w) (hs : s.size ≤ 100000) (h : unqL s.data.toList = (o.data.toList, n, e)) (hx : x = (n : Int)) (hy : y = (e : Int)) :
    Calls Tryd.prog 9 #[.string s] w (fun e' w' => e' = .returned (.tuple #[.string o, .int .i64 x, .int .i64 y]) ∧ Keeps w w') := by
  have := unq_any s w hu hs
  rw [h] at this
  rw [hx, hy]; exact this
theorem rn_at (s : ByteArray) (v : Int) (n e : Nat) (x y : Int) (w : World) (hs : s.size ≤ 1000000) (h : readL s.data.toList = (v, n, e)) (hx : x = (n : Int)) (hy : y = (e : Int)) :
    Calls Tryd.prog 10 #[.string s] w (fun e' w' => e' = .returned (.tuple #[.int .i64 v, .int .i64 x, .int .i64 y]) ∧ w' = w) := by
  have := rn_any s w hs
  rw [h] at this
  rw [hx, hy]; exact this
theorem quote_at (s o : ByteArray) (e : Nat) (y : Int) (w : World) (hs : s.size ≤ 100000) (h : quoR s.data.toList = (o.data.toList, e)) (hy : y = (e : Int)) :
    Calls Tryd.prog 15 #[.string s] w (fun e' w' => e' = .returned (.tuple #[.string o, .int .i64 y]) ∧ Keeps w w') := by
  have := quote_any s w hs
  rw [h] at this
  rw [hy]; exact this

set_option maxHeartbeats 1000000 in
theorem lives_any (w : World) : Calls Tryd.prog 11 #[] w (RetQ true w) := by
  have c1 := Lib.hid (fun w1 => quote_at ⟨#[97, 10, 34]⟩ ⟨#[34, 97, 92, 110, 92, 34, 34]⟩ 0 0 w1 (by decide) (by decide) rfl)
  go_enter Tryd.func11, Tryd.ntmps11
  go_wp2_with fail
  refine (c1.out _).mono ?_
  rintro e w2 ⟨rfl, k2⟩
  go_wp2
  go_ret
  exact RetQ.of rfl k2

set_option maxHeartbeats 8000000 in
set_option maxRecDepth 100000 in
theorem names_any (w : World) (hu : Utf w) : Calls Tryd.prog 3 #[] w (RetQ true w) := by
  have c1 := Lib.hid (fun w1 (hu : Utf w1) => unq_at ⟨#[34, 92, 117, 48, 48, 52, 49, 92, 117, 100, 56, 51, 100, 92, 117, 100, 101, 48, 48, 34, 120]⟩ ⟨#[65, 240, 159, 152, 128]⟩ 20 0 20 0 w1 hu (by decide) (by decide) rfl rfl)
  have c2 := Lib.hid (fun w1 => rn_at ⟨#[45, 49, 50, 44]⟩ (-12) 3 0 3 0 w1 (by decide) (by decide) rfl rfl)
  have c3 := Lib.hid (fun w1 => rn_at ⟨#[48, 49]⟩ (0) 0 5 0 5 w1 (by decide) (by decide) rfl rfl)
  have c4 := Lib.hid (fun w1 => rn_at ⟨#[45, 48]⟩ (0) 0 5 0 5 w1 (by decide) (by decide) rfl rfl)
  have c5 := Lib.hid (fun w1 (hu : Utf w1) => unq_at ⟨#[34, 92, 117, 100, 99, 48, 48, 34]⟩ ⟨#[]⟩ 0 6 0 6 w1 hu (by decide) (by decide) rfl rfl)
  have c6 := Lib.hid (fun w1 (hu : Utf w1) => unq_at ⟨#[34, 92, 117, 100, 56, 51, 100, 34]⟩ ⟨#[]⟩ 0 6 0 6 w1 hu (by decide) (by decide) rfl rfl)
  have c7 := Lib.hid (fun w1 (hu : Utf w1) => unq_at ⟨#[34, 97]⟩ ⟨#[]⟩ 0 3 0 3 w1 hu (by decide) (by decide) rfl rfl)
  have cL := Lib.hid (fun w1 => lives_any w1)
  have cS : Hid (∀ w1, Calls Tryd.prog 12 #[.string ⟨#[32, 9, 13, 10, 120]⟩] w1 (fun e w' => e = .returned (.int .i64 4) ∧ w' = w1)) := Lib.hid (fun w1 => space_any ⟨#[32, 9, 13, 10, 120]⟩ w1 (by decide))
  have cW : Hid (∀ w1, Calls Tryd.prog 13 #[.string ⟨#[116, 114, 117, 101, 120]⟩] w1 (fun e w' => e = .returned (.string ⟨#[116, 114, 117, 101]⟩) ∧ w' = w1)) := Lib.hid (fun w1 => word_any ⟨#[116, 114, 117, 101, 120]⟩ w1)
  have cX : Hid (∀ w1, Calls Tryd.prog 13 #[.string ⟨#[116, 114, 117]⟩] w1 (fun e w' => e = .returned (.string ⟨#[]⟩) ∧ w' = w1)) := Lib.hid (fun w1 => word_any ⟨#[116, 114, 117]⟩ w1)
  have cV : Hid (∀ w1, Calls Tryd.prog 14 #[.string ⟨#[192, 128]⟩] w1 (fun e w' => e = .returned (.bool false) ∧ Keeps w1 w')) := Lib.hid (fun w1 => valid_any ⟨#[192, 128]⟩ w1 (by decide))
  have HU := Lib.hid hu
  clear hu
  have K0 := Lib.hid (Keeps.refl w)
  go_enter Tryd.func3, Tryd.ntmps3
  go_wp2_with fail
  refine (c1.out _ (HU.out.keeps K0.out)).mono ?_
  rintro e v1 ⟨rfl, h⟩
  have K1 := Lib.hid (Keeps.trans K0.out h)
  clear h
  go_wp2_with fail
  refine (c2.out _).mono ?_
  rintro e vv ⟨rfl, rfl⟩
  go_wp2_with fail
  refine (c3.out _).mono ?_
  rintro e vv ⟨rfl, rfl⟩
  go_wp2_with fail
  refine (c4.out _).mono ?_
  rintro e vv ⟨rfl, rfl⟩
  go_wp2_with fail
  refine (c5.out _ (HU.out.keeps K1.out)).mono ?_
  rintro e v5 ⟨rfl, h⟩
  have K2 := Lib.hid (Keeps.trans K1.out h)
  clear h
  go_wp2_with fail
  refine (c6.out _ (HU.out.keeps K2.out)).mono ?_
  rintro e v6 ⟨rfl, h⟩
  have K3 := Lib.hid (Keeps.trans K2.out h)
  clear h
  go_wp2_with fail
  refine (c7.out _ (HU.out.keeps K3.out)).mono ?_
  rintro e v7 ⟨rfl, h⟩
  have K4 := Lib.hid (Keeps.trans K3.out h)
  clear h
  go_wp2_with fail
  refine (cL.out _).mono ?_
  rintro e v8 ⟨rfl, h⟩
  have K8 := Lib.hid (Keeps.trans K4.out h)
  clear h
  go_wp2_with fail
  refine (cS.out _).mono ?_
  rintro e vv ⟨rfl, rfl⟩
  go_wp2_with fail
  refine (cW.out _).mono ?_
  rintro e vv ⟨rfl, rfl⟩
  go_wp2_with fail
  refine (cX.out _).mono ?_
  rintro e vv ⟨rfl, rfl⟩
  go_wp2_with fail
  refine (cV.out _).mono ?_
  rintro e v9 ⟨rfl, h⟩
  have K9 := Lib.hid (Keeps.trans K8.out h)
  clear h
  go_wp2
  go_ret
  exact RetQ.of (by first | rfl | simp) K9.out
end Go.Proofs.YtbhgfdgdbbfeoaaDoor
