/-
  The walk of the statement on the chapter's examples of package glob.
-/
import Derived.Test.YtolfpkjohlbfdaaDoorLit
namespace Go.Proofs.YtolfpkjohlbfdaaDoor
open Go.RowKit

def g1 : ByteArray := ⟨#[97, 42, 63, 42, 63, 98, 42, 42]⟩
theorem n1 : normL [97, 42, 63, 42, 63, 98, 42, 42] = [97, 63, 63, 42, 98, 42] := by decide
theorem n2 : checkI [] = 2 := by decide
theorem n3 : checkI [42] = 0 := by decide
theorem n4 : lowL [65, 91, 122] = [97, 91, 122] := by decide
theorem m1 : mt (eqB false) [] [] = true := by simp [mt]
theorem m2 : mt (eqB false) [97] [65] = false := by simp [mt, eqB]
theorem m3 : mt (eqB true) [97] [65] = true := by simp [mt, eqB, lowC]

theorem ascii_of (l : List UInt8) (h : l.all (fun b => decide (b.toNat < 128)) = true) : ∀ (j : Nat) b, l[j]? = some b → b.toNat < 128 := fun j b e => by
  have := List.all_eq_true.1 h b (List.mem_of_getElem? e)
  simpa using this

theorem contains1 (w : World) : Calls Tryd.prog 22 #[.string ⟨#[97, 98]⟩, .string ⟨#[42, 63]⟩] w (RetQ false w) :=
  Tryd.strings_ContainsAny_laid ⟨#[97, 98]⟩ ⟨#[42, 63]⟩ w (by decide) (by decide) (ascii_of _ (by decide)) (ascii_of _ (by decide))
theorem contains2 (w : World) : Calls Tryd.prog 22 #[.string ⟨#[97, 42]⟩, .string ⟨#[42, 63]⟩] w (RetQ true w) :=
  Tryd.strings_ContainsAny_laid ⟨#[97, 42]⟩ ⟨#[42, 63]⟩ w (by decide) (by decide) (ascii_of _ (by decide)) (ascii_of _ (by decide))

theorem match_m1 (w : World) : Calls Tryd.prog 13 #[.string ⟨#[]⟩, .string ⟨#[]⟩, .bool false] w (RetQ true w) := match_at ⟨#[]⟩ ⟨#[]⟩ false true w (by decide) (by decide) m1
theorem match_m2 (w : World) : Calls Tryd.prog 13 #[.string ⟨#[97]⟩, .string ⟨#[65]⟩, .bool false] w (RetQ false w) := match_at ⟨#[97]⟩ ⟨#[65]⟩ false false w (by decide) (by decide) m2
theorem match_m3 (w : World) : Calls Tryd.prog 13 #[.string ⟨#[97]⟩, .string ⟨#[65]⟩, .bool true] w (RetQ true w) := match_at ⟨#[97]⟩ ⟨#[65]⟩ true true w (by decide) (by decide) m3
theorem norm_g (w : World) : Calls Tryd.prog 10 #[.string ⟨#[97, 42, 63, 42, 63, 98, 42, 42]⟩] w (RetS [97, 63, 63, 42, 98, 42] w) := by
  have h := norm_any ⟨#[97, 42, 63, 42, 63, 98, 42, 42]⟩ w (by decide)
  have e : normL (⟨#[97, 42, 63, 42, 63, 98, 42, 42]⟩ : ByteArray).data.toList = [97, 63, 63, 42, 98, 42] := n1
  rwa [e] at h
theorem fold_g (w : World) : Calls Tryd.prog 14 #[.string ⟨#[65, 91, 122]⟩] w (RetS [97, 91, 122] w) := by
  have h := fold_any ⟨#[65, 91, 122]⟩ w (by unfold maxLen; decide)
  have e : lowL (⟨#[65, 91, 122]⟩ : ByteArray).data.toList = [97, 91, 122] := n4
  rwa [e] at h
theorem check_0 (w : World) : Calls Tryd.prog 12 #[.string ⟨#[]⟩] w (RetI 2 w) := check_any ⟨#[]⟩ w
theorem check_1 (w : World) : Calls Tryd.prog 12 #[.string ⟨#[42]⟩] w (RetI 0 w) := check_any ⟨#[42]⟩ w
theorem n5 : 8 - Lib.countByte [97, 42, 63, 42, 63, 98, 42, 42] 42 = 4 := by decide
theorem least_g (w : World) : Calls Tryd.prog 11 #[.string ⟨#[97, 42, 63, 42, 63, 98, 42, 42]⟩] w (fun e w' => e = .returned (.int .i64 4) ∧ w' = w) := by
  have h := least_any ⟨#[97, 42, 63, 42, 63, 98, 42, 42]⟩ w (by unfold maxLen; decide)
  have e : (⟨#[97, 42, 63, 42, 63, 98, 42, 42]⟩ : ByteArray).size - Lib.countByte (⟨#[97, 42, 63, 42, 63, 98, 42, 42]⟩ : ByteArray).data.toList 42 = 4 := n5
  rw [e] at h
  exact h

set_option maxHeartbeats 4000000 in
theorem names_any (w : World) : Calls Tryd.prog 3 #[] w (RetQ true w) := by
  have cL := Lib.hid (fun w => lives_any w)
  have c1 : Hid (∀ w1, Calls Tryd.prog 8 #[.string ⟨#[97, 98]⟩] w1 (RetL ⟨#[97, 98]⟩ true w1)) := Lib.hid (fun w1 => lit_of _ false w1 (contains1 w1))
  have c2 : Hid (∀ w1, Calls Tryd.prog 8 #[.string ⟨#[97, 42]⟩] w1 (RetL ⟨#[]⟩ false w1)) := Lib.hid (fun w1 => lit_of _ true w1 (contains2 w1))
  have c3 : Hid (∀ w1, Calls Tryd.prog 10 #[.string ⟨#[97, 42, 63, 42, 63, 98, 42, 42]⟩] w1 (fun e w' => e = .returned (.string ⟨#[97, 63, 63, 42, 98, 42]⟩) ∧ Keeps w1 w')) := Lib.hid (fun w1 => norm_g w1)
  have c4 := Lib.hid (fun w1 => least_g w1)
  have c5 := Lib.hid (fun w1 => check_0 w1)
  have c6 := Lib.hid (fun w1 => check_1 w1)
  have c7 := Lib.hid (fun w1 => match_m1 w1)
  have c8 := Lib.hid (fun w1 => match_m2 w1)
  have c9 := Lib.hid (fun w1 => match_m3 w1)
  have c10 : Hid (∀ w1, Calls Tryd.prog 14 #[.string ⟨#[65, 91, 122]⟩] w1 (fun e w' => e = .returned (.string ⟨#[97, 91, 122]⟩) ∧ Keeps w1 w')) := Lib.hid (fun w1 => fold_g w1)
  go_enter Tryd.func3, Tryd.ntmps3
  go_wp2_with fail
  refine (c1.out _).mono ?_
  rintro e w2 ⟨rfl, h⟩
  have K2 := Lib.hid h
  clear h
  go_wp2_with fail
  refine (c2.out _).mono ?_
  rintro e w3 ⟨rfl, h⟩
  have K3 := Lib.hid (K2.out.trans h)
  clear h
  go_wp2_with fail
  refine (cL.out _).mono ?_
  rintro e w4 ⟨rfl, h⟩
  have K4 := Lib.hid (K3.out.trans h)
  clear h
  go_wp2_with fail
  refine (c3.out _).mono ?_
  rintro e w5 ⟨rfl, h⟩
  have K5 := Lib.hid (K4.out.trans h)
  clear h
  go_wp2_with fail
  refine (c4.out _).mono ?_
  rintro e w6 ⟨rfl, rfl⟩
  go_wp2_with fail
  refine (c5.out _).mono ?_
  rintro e w7 ⟨rfl, h⟩
  have K7 := Lib.hid (K5.out.trans h)
  clear h
  go_wp2_with fail
  refine (c6.out _).mono ?_
  rintro e w8 ⟨rfl, h⟩
  have K8 := Lib.hid (K7.out.trans h)
  clear h
  go_wp2_with fail
  refine (c7.out _).mono ?_
  rintro e w9 ⟨rfl, h⟩
  have K9 := Lib.hid (K8.out.trans h)
  clear h
  go_wp2_with fail
  refine (c8.out _).mono ?_
  rintro e w10 ⟨rfl, h⟩
  have K10 := Lib.hid (K9.out.trans h)
  clear h
  go_wp2_with fail
  refine (c9.out _).mono ?_
  rintro e w11 ⟨rfl, h⟩
  have K11 := Lib.hid (K10.out.trans h)
  clear h
  go_wp2_with fail
  refine (c10.out _).mono ?_
  rintro e w12 ⟨rfl, h⟩
  have k12 := K11.out.trans h
  clear h
  go_wp2
  go_ret
  exact RetQ.of rfl k12
end Go.Proofs.YtolfpkjohlbfdaaDoor
