/-
  The walk of the statement on a user's parts.
-/
import Derived.Test.YtjdlpfkcikomfabPar
namespace Go.Proofs.Ytjdlpfkcikomfab
open Go.RowKit

/-- The text of a user: a sign, a name, a colon, a server. -/
def UL (n s : List UInt8) : List UInt8 := 64 :: (n ++ 58 :: s)

theorem index_at (n s : List UInt8) (h : colB n = false) : Lib.indexByte (n ++ 58 :: s) 58 = n.length := by
  induction n with
  | nil => simp [Lib.indexByte]
  | cons c n ih =>
    unfold colB at h ih
    simp only [List.any_cons, Bool.or_eq_false_iff] at h
    have ih := ih h.2
    have hc : (c == 58) = false := by
      have := h.1
      rw [beq_eq_false_iff_ne] at this ⊢
      intro e; subst e; exact this rfl
    simp only [List.cons_append, Lib.indexByte, hc, ih]
    have : ((n.length : Int) == -1) = false := by simp
    simp [this]
theorem cut_at (n s : List UInt8) (h : colB n = false) : cutC (n ++ 58 :: s) = (n, s, true) := by
  unfold cutC
  rw [index_at n s h, if_pos (by omega)]
  simp
theorem cut_UL (n s : List UInt8) (h : colB n = false) : cutC (UL n s) = (64 :: n, s, true) := by
  have : UL n s = (64 :: n) ++ 58 :: s := rfl
  rw [this, cut_at]
  unfold colB at h ⊢
  rw [List.any_cons, h]; rfl
theorem user_UL (n s : List UInt8) (h : colB n = false) : userB (UL n s) = (ofB smallC n && serverB s && decide ((UL n s).length ≤ 255)) := by
  unfold userB namedB
  have hp : Lib.hasPrefix (UL n s) [64] = true := by unfold Lib.hasPrefix UL; simp
  have ht : Lib.trimPrefix (UL n s) [64] = n ++ 58 :: s := by unfold Lib.trimPrefix; rw [hp]; rfl
  rw [ht, cut_at n s h, hp]
  have e : ofB (classB false [46, 95, 61, 45, 47, 43]) n = ofB smallC n := rfl
  rw [e]
  by_cases hl : (UL n s).length ≤ 255
  · rw [if_pos ⟨rfl, hl⟩, decide_eq_true hl]
    cases ofB smallC n <;> simp
  · rw [if_neg (fun h => hl h.2), decide_eq_false hl]; simp
theorem serverOf_UL (n s : List UInt8) (h : colB n = false) : serverOfL (UL n s) = if userB (UL n s) = true then (lowL s, true) else ([], false) := by
  unfold serverOfL
  rw [cut_UL n s h]
  simp

def UT (n s : ByteArray) : ByteArray := ⟨#[64]⟩ ++ n ++ ⟨#[58]⟩ ++ s
theorem UT_data (n s : ByteArray) : (UT n s).data.toList = UL n.data.toList s.data.toList := by unfold UT UL; simp
theorem UT_size (n s : ByteArray) : (UT n s).size = n.size + s.size + 2 := by
  have h1 : (⟨#[64]⟩ : ByteArray).size = 1 := rfl
  have h2 : (⟨#[58]⟩ : ByteArray).size = 1 := rfl
  unfold UT; simp only [ByteArray.size_append, h1, h2]; omega

theorem user_at (n s : ByteArray) (b : Bool) (w : World) (hn : n.size ≤ 600) (hs : s.size ≤ 600) (h : userB (UL n.data.toList s.data.toList) = b) :
    Calls Try.prog 15 #[.string (⟨#[64]⟩ ++ n ++ ⟨#[58]⟩ ++ s)] w (RetQ b w) := by
  have := user_any (UT n s) w (by rw [UT_size]; unfold maxLen; omega)
  rw [UT_data, h] at this
  exact this
/-- What ServerOf answers of such a text. -/
theorem serverOf_yes (n s : ByteArray) (w : World) (hn : n.size ≤ 600) (hs : s.size ≤ 600) (hc : colB n.data.toList = false) (h : userB (UL n.data.toList s.data.toList) = true) :
    Calls Try.prog 12 #[.string (⟨#[64]⟩ ++ n ++ ⟨#[58]⟩ ++ s)] w (fun e w' => e = .returned (.tuple #[.string (S (lowL s.data.toList)), .bool true]) ∧ Keeps w w') := by
  have := serverOf_any (UT n s) w (by rw [UT_size]; unfold maxLen; omega)
  rw [UT_data, serverOf_UL _ _ hc, if_pos h] at this
  exact this
theorem serverOf_no (n s : ByteArray) (w : World) (hn : n.size ≤ 600) (hs : s.size ≤ 600) (hc : colB n.data.toList = false) (h : userB (UL n.data.toList s.data.toList) = false) :
    Calls Try.prog 12 #[.string (⟨#[64]⟩ ++ n ++ ⟨#[58]⟩ ++ s)] w (fun e w' => e = .returned (.tuple #[.string ⟨#[]⟩, .bool false]) ∧ Keeps w w') := by
  have := serverOf_any (UT n s) w (by rw [UT_size]; unfold maxLen; omega)
  rw [UT_data, serverOf_UL _ _ hc, if_neg (by rw [h]; decide)] at this
  exact this

set_option maxHeartbeats 4000000 in
theorem parts_yes (n o s : ByteArray) (w : World) (hn : n.size ≤ 600) (ho : o.size ≤ 600) (hs : s.size ≤ 600) (cn : colB n.data.toList = false) (co : colB o.data.toList = false)
    (h1 : ofB smallC n.data.toList = true) (h2 : serverB s.data.toList = true) (h3 : n.size + s.size + 2 ≤ 255) (b : Bool) (hb : userB (UL o.data.toList s.data.toList) = b) :
    Calls Try.prog 5 #[.string n, .string o, .string s] w (RetQ true w) := by
  have hlen : (UL n.data.toList s.data.toList).length = n.size + s.size + 2 := by rw [← UT_data, ← UT_size]; simp
  have hu : userB (UL n.data.toList s.data.toList) = true := by
    rw [user_UL _ _ cn, h1, h2, hlen]; simp; omega
  have hm : ∀ t : ByteArray, t.size ≤ 600 → t.size ≤ maxLen := fun t h => by unfold maxLen; omega
  have cL := Lib.hid (fun w => lives_any w)
  have cCn : Hid (∀ w, Calls Try.prog 23 #[.string n] w (RetB false w)) := fun w => by rw [← cn]; exact colon_any n w (hm _ hn)
  have cCo : Hid (∀ w, Calls Try.prog 23 #[.string o] w (RetB false w)) := fun w => by rw [← co]; exact colon_any o w (hm _ ho)
  have cSm : Hid (∀ w, Calls Try.prog 24 #[.string n] w (RetB true w)) := fun w => by rw [← h1]; exact small_any n w (hm _ hn)
  have cSv : Hid (∀ w, Calls Try.prog 10 #[.string s] w (RetQ true w)) := fun w => by rw [← h2]; exact server_any s w (hm _ hs)
  have cSo : Hid (∀ w, Calls Try.prog 12 #[.string (⟨#[64]⟩ ++ n ++ ⟨#[58]⟩ ++ s)] w (fun e w' => e = .returned (.tuple #[.string (S (lowL s.data.toList)), .bool true]) ∧ Keeps w w')) := fun w => serverOf_yes n s w hn hs cn hu
  have cLo : Hid (∀ w, Calls Try.prog 11 #[.string s] w (fun e w' => e = .returned (.string (S (lowL s.data.toList))) ∧ Keeps w w')) := fun w => lower_any s w (hm _ hs)
  have cU : Hid (∀ w, Calls Try.prog 15 #[.string (⟨#[64]⟩ ++ n ++ ⟨#[58]⟩ ++ s)] w (RetQ true w)) := fun w => user_at n s true w hn hs hu
  have hsum : (n.size : Int) + 2 + (s.size : Int) ≤ 255 := by omega
  cases b
  · have cSp : Hid (∀ w, Calls Try.prog 12 #[.string (⟨#[64]⟩ ++ o ++ ⟨#[58]⟩ ++ s)] w (fun e w' => e = .returned (.tuple #[.string ⟨#[]⟩, .bool false]) ∧ Keeps w w')) := fun w => serverOf_no o s w ho hs co hb
    clear hu hlen cn co h1 h2 hb hm
    generalize S (lowL s.data.toList) = q at cSo cLo
    go_enter Try.func5, Try.ntmps5
    go_wp2_with fail
    refine (cL.out _).mono ?_
    rintro e w2 ⟨rfl, h⟩
    go_wp2_with fail
    refine (cCn.out _).mono ?_
    rintro e w3 ⟨rfl, rfl⟩
    go_wp2_with fail
    refine (cCo.out _).mono ?_
    rintro e w3 ⟨rfl, rfl⟩
    go_wp2_with fail
    refine (cSm.out _).mono ?_
    rintro e w3 ⟨rfl, rfl⟩
    go_wp2_with fail
    refine (cSv.out _).mono ?_
    rintro e w2 ⟨rfl, h2⟩
    have h1 := h.trans h2; clear h h2
    go_wp2_with fail
    refine (cSo.out _).mono ?_
    rintro e w2 ⟨rfl, h2⟩
    have h := h1.trans h2; clear h1 h2
    go_wp2_with fail
    refine (cU.out _).mono ?_
    rintro e w2 ⟨rfl, h2⟩
    have h1 := h.trans h2; clear h h2
    go_wp2_with fail
    refine (cLo.out _).mono ?_
    rintro e w2 ⟨rfl, h2⟩
    have h := h1.trans h2; clear h1 h2
    go_wp2_with fail
    refine (cSp.out _).mono ?_
    rintro e w2 ⟨rfl, h2⟩
    have h1 := h.trans h2; clear h h2
    go_wp2
    go_ret
    exact RetQ.of rfl h1
  · have cSp : Hid (∀ w, Calls Try.prog 12 #[.string (⟨#[64]⟩ ++ o ++ ⟨#[58]⟩ ++ s)] w (fun e w' => e = .returned (.tuple #[.string (S (lowL s.data.toList)), .bool true]) ∧ Keeps w w')) := fun w => serverOf_yes o s w ho hs co hb
    clear hu hlen cn co h1 h2 hb hm
    generalize S (lowL s.data.toList) = q at cSo cLo cSp
    go_enter Try.func5, Try.ntmps5
    go_wp2_with fail
    refine (cL.out _).mono ?_
    rintro e w2 ⟨rfl, h⟩
    go_wp2_with fail
    refine (cCn.out _).mono ?_
    rintro e w3 ⟨rfl, rfl⟩
    go_wp2_with fail
    refine (cCo.out _).mono ?_
    rintro e w3 ⟨rfl, rfl⟩
    go_wp2_with fail
    refine (cSm.out _).mono ?_
    rintro e w3 ⟨rfl, rfl⟩
    go_wp2_with fail
    refine (cSv.out _).mono ?_
    rintro e w2 ⟨rfl, h2⟩
    have h1 := h.trans h2; clear h h2
    go_wp2_with fail
    refine (cSo.out _).mono ?_
    rintro e w2 ⟨rfl, h2⟩
    have h := h1.trans h2; clear h1 h2
    go_wp2_with fail
    refine (cU.out _).mono ?_
    rintro e w2 ⟨rfl, h2⟩
    have h1 := h.trans h2; clear h h2
    go_wp2_with fail
    refine (cLo.out _).mono ?_
    rintro e w2 ⟨rfl, h2⟩
    have h := h1.trans h2; clear h1 h2
    go_wp2_with fail
    refine (cSp.out _).mono ?_
    rintro e w2 ⟨rfl, h2⟩
    have h1 := h.trans h2; clear h h2
    go_wp2
    go_ret
    exact RetQ.of rfl h1

set_option maxHeartbeats 4000000 in
theorem parts_small (n o s : ByteArray) (w : World) (hn : n.size ≤ 600) (ho : o.size ≤ 600) (hs : s.size ≤ 600) (cn : colB n.data.toList = false) (co : colB o.data.toList = false)
    (h1 : ofB smallC n.data.toList = false) (b : Bool) (hb : userB (UL o.data.toList s.data.toList) = b) :
    Calls Try.prog 5 #[.string n, .string o, .string s] w (RetQ true w) := by
  have hlen : (UL n.data.toList s.data.toList).length = n.size + s.size + 2 := by rw [← UT_data, ← UT_size]; simp
  have hu : userB (UL n.data.toList s.data.toList) = false := by
    rw [user_UL _ _ cn, h1, hlen]; simp
  have hm : ∀ t : ByteArray, t.size ≤ 600 → t.size ≤ maxLen := fun t h => by unfold maxLen; omega
  have cL := Lib.hid (fun w => lives_any w)
  have cCn : Hid (∀ w, Calls Try.prog 23 #[.string n] w (RetB false w)) := fun w => by rw [← cn]; exact colon_any n w (hm _ hn)
  have cCo : Hid (∀ w, Calls Try.prog 23 #[.string o] w (RetB false w)) := fun w => by rw [← co]; exact colon_any o w (hm _ ho)
  have cSm : Hid (∀ w, Calls Try.prog 24 #[.string n] w (RetB false w)) := fun w => by rw [← h1]; exact small_any n w (hm _ hn)
  have cSo : Hid (∀ w, Calls Try.prog 12 #[.string (⟨#[64]⟩ ++ n ++ ⟨#[58]⟩ ++ s)] w (fun e w' => e = .returned (.tuple #[.string ⟨#[]⟩, .bool false]) ∧ Keeps w w')) := fun w => serverOf_no n s w hn hs cn hu
  have cU : Hid (∀ w, Calls Try.prog 15 #[.string (⟨#[64]⟩ ++ n ++ ⟨#[58]⟩ ++ s)] w (RetQ false w)) := fun w => user_at n s false w hn hs hu
  cases b
  · have cSp : Hid (∀ w, Calls Try.prog 12 #[.string (⟨#[64]⟩ ++ o ++ ⟨#[58]⟩ ++ s)] w (fun e w' => e = .returned (.tuple #[.string ⟨#[]⟩, .bool false]) ∧ Keeps w w')) := fun w => serverOf_no o s w ho hs co hb
    clear hu hlen cn co h1 hb hm
    go_enter Try.func5, Try.ntmps5
    go_wp2_with fail
    refine (cL.out _).mono ?_
    rintro e w2 ⟨rfl, h⟩
    go_wp2_with fail
    refine (cCn.out _).mono ?_
    rintro e w3 ⟨rfl, rfl⟩
    go_wp2_with fail
    refine (cCo.out _).mono ?_
    rintro e w3 ⟨rfl, rfl⟩
    go_wp2_with fail
    refine (cSm.out _).mono ?_
    rintro e w3 ⟨rfl, rfl⟩
    go_wp2_with fail
    refine (cSo.out _).mono ?_
    rintro e w2 ⟨rfl, h2⟩
    have h1 := h.trans h2; clear h h2
    go_wp2_with fail
    refine (cU.out _).mono ?_
    rintro e w2 ⟨rfl, h2⟩
    have h := h1.trans h2; clear h1 h2
    go_wp2_with fail
    refine (cSp.out _).mono ?_
    rintro e w2 ⟨rfl, h2⟩
    have h1 := h.trans h2; clear h h2
    go_wp2
    go_ret
    exact RetQ.of rfl h1
  · have cSp : Hid (∀ w, Calls Try.prog 12 #[.string (⟨#[64]⟩ ++ o ++ ⟨#[58]⟩ ++ s)] w (fun e w' => e = .returned (.tuple #[.string (S (lowL s.data.toList)), .bool true]) ∧ Keeps w w')) := fun w => serverOf_yes o s w ho hs co hb
    clear hu hlen cn co h1 hb hm
    generalize S (lowL s.data.toList) = q at cSp
    go_enter Try.func5, Try.ntmps5
    go_wp2_with fail
    refine (cL.out _).mono ?_
    rintro e w2 ⟨rfl, h⟩
    go_wp2_with fail
    refine (cCn.out _).mono ?_
    rintro e w3 ⟨rfl, rfl⟩
    go_wp2_with fail
    refine (cCo.out _).mono ?_
    rintro e w3 ⟨rfl, rfl⟩
    go_wp2_with fail
    refine (cSm.out _).mono ?_
    rintro e w3 ⟨rfl, rfl⟩
    go_wp2_with fail
    refine (cSo.out _).mono ?_
    rintro e w2 ⟨rfl, h2⟩
    have h1 := h.trans h2; clear h h2
    go_wp2_with fail
    refine (cU.out _).mono ?_
    rintro e w2 ⟨rfl, h2⟩
    have h := h1.trans h2; clear h1 h2
    go_wp2_with fail
    refine (cSp.out _).mono ?_
    rintro e w2 ⟨rfl, h2⟩
    have h1 := h.trans h2; clear h h2
    go_wp2
    go_ret
    exact RetQ.of rfl h1

set_option maxHeartbeats 4000000 in
theorem parts_server (n o s : ByteArray) (w : World) (hn : n.size ≤ 600) (ho : o.size ≤ 600) (hs : s.size ≤ 600) (cn : colB n.data.toList = false) (co : colB o.data.toList = false)
    (h1 : ofB smallC n.data.toList = true) (h2 : serverB s.data.toList = false) (b : Bool) (hb : userB (UL o.data.toList s.data.toList) = b) :
    Calls Try.prog 5 #[.string n, .string o, .string s] w (RetQ true w) := by
  have hlen : (UL n.data.toList s.data.toList).length = n.size + s.size + 2 := by rw [← UT_data, ← UT_size]; simp
  have hu : userB (UL n.data.toList s.data.toList) = false := by
    rw [user_UL _ _ cn, h1, h2, hlen]; simp
  have hm : ∀ t : ByteArray, t.size ≤ 600 → t.size ≤ maxLen := fun t h => by unfold maxLen; omega
  have cL := Lib.hid (fun w => lives_any w)
  have cCn : Hid (∀ w, Calls Try.prog 23 #[.string n] w (RetB false w)) := fun w => by rw [← cn]; exact colon_any n w (hm _ hn)
  have cCo : Hid (∀ w, Calls Try.prog 23 #[.string o] w (RetB false w)) := fun w => by rw [← co]; exact colon_any o w (hm _ ho)
  have cSm : Hid (∀ w, Calls Try.prog 24 #[.string n] w (RetB true w)) := fun w => by rw [← h1]; exact small_any n w (hm _ hn)
  have cSv : Hid (∀ w, Calls Try.prog 10 #[.string s] w (RetQ false w)) := fun w => by rw [← h2]; exact server_any s w (hm _ hs)
  have cSo : Hid (∀ w, Calls Try.prog 12 #[.string (⟨#[64]⟩ ++ n ++ ⟨#[58]⟩ ++ s)] w (fun e w' => e = .returned (.tuple #[.string ⟨#[]⟩, .bool false]) ∧ Keeps w w')) := fun w => serverOf_no n s w hn hs cn hu
  have cU : Hid (∀ w, Calls Try.prog 15 #[.string (⟨#[64]⟩ ++ n ++ ⟨#[58]⟩ ++ s)] w (RetQ false w)) := fun w => user_at n s false w hn hs hu
  cases b
  · have cSp : Hid (∀ w, Calls Try.prog 12 #[.string (⟨#[64]⟩ ++ o ++ ⟨#[58]⟩ ++ s)] w (fun e w' => e = .returned (.tuple #[.string ⟨#[]⟩, .bool false]) ∧ Keeps w w')) := fun w => serverOf_no o s w ho hs co hb
    clear hu hlen cn co h1 h2 hb hm
    go_enter Try.func5, Try.ntmps5
    go_wp2_with fail
    refine (cL.out _).mono ?_
    rintro e w2 ⟨rfl, h⟩
    go_wp2_with fail
    refine (cCn.out _).mono ?_
    rintro e w3 ⟨rfl, rfl⟩
    go_wp2_with fail
    refine (cCo.out _).mono ?_
    rintro e w3 ⟨rfl, rfl⟩
    go_wp2_with fail
    refine (cSm.out _).mono ?_
    rintro e w3 ⟨rfl, rfl⟩
    go_wp2_with fail
    refine (cSv.out _).mono ?_
    rintro e w2 ⟨rfl, h2⟩
    have h1 := h.trans h2; clear h h2
    go_wp2_with fail
    refine (cSo.out _).mono ?_
    rintro e w2 ⟨rfl, h2⟩
    have h := h1.trans h2; clear h1 h2
    go_wp2_with fail
    refine (cU.out _).mono ?_
    rintro e w2 ⟨rfl, h2⟩
    have h1 := h.trans h2; clear h h2
    go_wp2_with fail
    refine (cSp.out _).mono ?_
    rintro e w2 ⟨rfl, h2⟩
    have h := h1.trans h2; clear h1 h2
    go_wp2
    go_ret
    exact RetQ.of rfl h
  · have cSp : Hid (∀ w, Calls Try.prog 12 #[.string (⟨#[64]⟩ ++ o ++ ⟨#[58]⟩ ++ s)] w (fun e w' => e = .returned (.tuple #[.string (S (lowL s.data.toList)), .bool true]) ∧ Keeps w w')) := fun w => serverOf_yes o s w ho hs co hb
    clear hu hlen cn co h1 h2 hb hm
    generalize S (lowL s.data.toList) = q at cSp
    go_enter Try.func5, Try.ntmps5
    go_wp2_with fail
    refine (cL.out _).mono ?_
    rintro e w2 ⟨rfl, h⟩
    go_wp2_with fail
    refine (cCn.out _).mono ?_
    rintro e w3 ⟨rfl, rfl⟩
    go_wp2_with fail
    refine (cCo.out _).mono ?_
    rintro e w3 ⟨rfl, rfl⟩
    go_wp2_with fail
    refine (cSm.out _).mono ?_
    rintro e w3 ⟨rfl, rfl⟩
    go_wp2_with fail
    refine (cSv.out _).mono ?_
    rintro e w2 ⟨rfl, h2⟩
    have h1 := h.trans h2; clear h h2
    go_wp2_with fail
    refine (cSo.out _).mono ?_
    rintro e w2 ⟨rfl, h2⟩
    have h := h1.trans h2; clear h1 h2
    go_wp2_with fail
    refine (cU.out _).mono ?_
    rintro e w2 ⟨rfl, h2⟩
    have h1 := h.trans h2; clear h h2
    go_wp2_with fail
    refine (cSp.out _).mono ?_
    rintro e w2 ⟨rfl, h2⟩
    have h := h1.trans h2; clear h1 h2
    go_wp2
    go_ret
    exact RetQ.of rfl h

set_option maxHeartbeats 4000000 in
theorem parts_long (n o s : ByteArray) (w : World) (hn : n.size ≤ 600) (ho : o.size ≤ 600) (hs : s.size ≤ 600) (cn : colB n.data.toList = false) (co : colB o.data.toList = false)
    (h1 : ofB smallC n.data.toList = true) (h2 : serverB s.data.toList = true) (h3 : 255 < n.size + s.size + 2) (b : Bool) (hb : userB (UL o.data.toList s.data.toList) = b) :
    Calls Try.prog 5 #[.string n, .string o, .string s] w (RetQ true w) := by
  have hlen : (UL n.data.toList s.data.toList).length = n.size + s.size + 2 := by rw [← UT_data, ← UT_size]; simp
  have hu : userB (UL n.data.toList s.data.toList) = false := by
    rw [user_UL _ _ cn, h1, h2, hlen]; simp; omega
  have hm : ∀ t : ByteArray, t.size ≤ 600 → t.size ≤ maxLen := fun t h => by unfold maxLen; omega
  have cL := Lib.hid (fun w => lives_any w)
  have cCn : Hid (∀ w, Calls Try.prog 23 #[.string n] w (RetB false w)) := fun w => by rw [← cn]; exact colon_any n w (hm _ hn)
  have cCo : Hid (∀ w, Calls Try.prog 23 #[.string o] w (RetB false w)) := fun w => by rw [← co]; exact colon_any o w (hm _ ho)
  have cSm : Hid (∀ w, Calls Try.prog 24 #[.string n] w (RetB true w)) := fun w => by rw [← h1]; exact small_any n w (hm _ hn)
  have cSv : Hid (∀ w, Calls Try.prog 10 #[.string s] w (RetQ true w)) := fun w => by rw [← h2]; exact server_any s w (hm _ hs)
  have cSo : Hid (∀ w, Calls Try.prog 12 #[.string (⟨#[64]⟩ ++ n ++ ⟨#[58]⟩ ++ s)] w (fun e w' => e = .returned (.tuple #[.string ⟨#[]⟩, .bool false]) ∧ Keeps w w')) := fun w => serverOf_no n s w hn hs cn hu
  have cU : Hid (∀ w, Calls Try.prog 15 #[.string (⟨#[64]⟩ ++ n ++ ⟨#[58]⟩ ++ s)] w (RetQ false w)) := fun w => user_at n s false w hn hs hu
  have hsum : (255 : Int) < (n.size : Int) + 2 + (s.size : Int) := by omega
  cases b
  · have cSp : Hid (∀ w, Calls Try.prog 12 #[.string (⟨#[64]⟩ ++ o ++ ⟨#[58]⟩ ++ s)] w (fun e w' => e = .returned (.tuple #[.string ⟨#[]⟩, .bool false]) ∧ Keeps w w')) := fun w => serverOf_no o s w ho hs co hb
    clear hu hlen cn co h1 h2 hb hm
    go_enter Try.func5, Try.ntmps5
    go_wp2_with fail
    refine (cL.out _).mono ?_
    rintro e w2 ⟨rfl, h⟩
    go_wp2_with fail
    refine (cCn.out _).mono ?_
    rintro e w3 ⟨rfl, rfl⟩
    go_wp2_with fail
    refine (cCo.out _).mono ?_
    rintro e w3 ⟨rfl, rfl⟩
    go_wp2_with fail
    refine (cSm.out _).mono ?_
    rintro e w3 ⟨rfl, rfl⟩
    go_wp2_with fail
    refine (cSv.out _).mono ?_
    rintro e w2 ⟨rfl, h2⟩
    have h1 := h.trans h2; clear h h2
    go_wp2_with fail
    refine (cSo.out _).mono ?_
    rintro e w2 ⟨rfl, h2⟩
    have h := h1.trans h2; clear h1 h2
    go_wp2_with fail
    refine (cU.out _).mono ?_
    rintro e w2 ⟨rfl, h2⟩
    have h1 := h.trans h2; clear h h2
    go_wp2_with fail
    refine (cSp.out _).mono ?_
    rintro e w2 ⟨rfl, h2⟩
    have h := h1.trans h2; clear h1 h2
    go_wp2
    go_ret
    exact RetQ.of rfl h
  · have cSp : Hid (∀ w, Calls Try.prog 12 #[.string (⟨#[64]⟩ ++ o ++ ⟨#[58]⟩ ++ s)] w (fun e w' => e = .returned (.tuple #[.string (S (lowL s.data.toList)), .bool true]) ∧ Keeps w w')) := fun w => serverOf_yes o s w ho hs co hb
    clear hu hlen cn co h1 h2 hb hm
    generalize S (lowL s.data.toList) = q at cSp
    go_enter Try.func5, Try.ntmps5
    go_wp2_with fail
    refine (cL.out _).mono ?_
    rintro e w2 ⟨rfl, h⟩
    go_wp2_with fail
    refine (cCn.out _).mono ?_
    rintro e w3 ⟨rfl, rfl⟩
    go_wp2_with fail
    refine (cCo.out _).mono ?_
    rintro e w3 ⟨rfl, rfl⟩
    go_wp2_with fail
    refine (cSm.out _).mono ?_
    rintro e w3 ⟨rfl, rfl⟩
    go_wp2_with fail
    refine (cSv.out _).mono ?_
    rintro e w2 ⟨rfl, h2⟩
    have h1 := h.trans h2; clear h h2
    go_wp2_with fail
    refine (cSo.out _).mono ?_
    rintro e w2 ⟨rfl, h2⟩
    have h := h1.trans h2; clear h1 h2
    go_wp2_with fail
    refine (cU.out _).mono ?_
    rintro e w2 ⟨rfl, h2⟩
    have h1 := h.trans h2; clear h h2
    go_wp2_with fail
    refine (cSp.out _).mono ?_
    rintro e w2 ⟨rfl, h2⟩
    have h := h1.trans h2; clear h1 h2
    go_wp2
    go_ret
    exact RetQ.of rfl h

set_option maxHeartbeats 1000000 in
theorem parts_n (n o s : ByteArray) (w : World) (hn : n.size ≤ maxLen) (ho : o.size ≤ maxLen) (hs : s.size ≤ maxLen) (h : 600 < n.size) :
    Calls Try.prog 5 #[.string n, .string o, .string s] w (RetQ true w) := by
  have cL := Lib.hid (fun w => lives_any w)
  unfold maxLen at hn ho hs
  go_enter Try.func5, Try.ntmps5
  go_wp2_with fail
  refine (cL.out _).mono ?_
  rintro e w2 ⟨rfl, hq⟩
  go_wp2
  go_ret
  exact RetQ.of rfl hq

set_option maxHeartbeats 1000000 in
theorem parts_o (n o s : ByteArray) (w : World) (hn : n.size ≤ maxLen) (ho : o.size ≤ maxLen) (hs : s.size ≤ maxLen) (h0 : n.size ≤ 600) (h : 600 < o.size) :
    Calls Try.prog 5 #[.string n, .string o, .string s] w (RetQ true w) := by
  have cL := Lib.hid (fun w => lives_any w)
  unfold maxLen at hn ho hs
  go_enter Try.func5, Try.ntmps5
  go_wp2_with fail
  refine (cL.out _).mono ?_
  rintro e w2 ⟨rfl, hq⟩
  go_wp2
  go_ret
  exact RetQ.of rfl hq

set_option maxHeartbeats 1000000 in
theorem parts_s (n o s : ByteArray) (w : World) (hn : n.size ≤ maxLen) (ho : o.size ≤ maxLen) (hs : s.size ≤ maxLen) (h0 : n.size ≤ 600) (h1 : o.size ≤ 600) (h : 600 < s.size) :
    Calls Try.prog 5 #[.string n, .string o, .string s] w (RetQ true w) := by
  have cL := Lib.hid (fun w => lives_any w)
  unfold maxLen at hn ho hs
  go_enter Try.func5, Try.ntmps5
  go_wp2_with fail
  refine (cL.out _).mono ?_
  rintro e w2 ⟨rfl, hq⟩
  go_wp2
  go_ret
  exact RetQ.of rfl hq

set_option maxHeartbeats 1000000 in
theorem parts_cn (n o s : ByteArray) (w : World) (hn : n.size ≤ maxLen) (ho : o.size ≤ maxLen) (hs : s.size ≤ maxLen) (h0 : n.size ≤ 600) (h1 : o.size ≤ 600) (h2 : s.size ≤ 600) (hc : colB n.data.toList = true) :
    Calls Try.prog 5 #[.string n, .string o, .string s] w (RetQ true w) := by
  have cL := Lib.hid (fun w => lives_any w)
  have cCn : Hid (∀ w, Calls Try.prog 23 #[.string n] w (RetB true w)) := fun w => by rw [← hc]; exact colon_any n w hn
  unfold maxLen at hn ho hs
  go_enter Try.func5, Try.ntmps5
  go_wp2_with fail
  refine (cL.out _).mono ?_
  rintro e w2 ⟨rfl, h⟩
  go_wp2_with fail
  refine (cCn.out _).mono ?_
  rintro e w3 ⟨rfl, rfl⟩
  go_wp2
  go_ret
  exact RetQ.of rfl h

set_option maxHeartbeats 1000000 in
theorem parts_co (n o s : ByteArray) (w : World) (hn : n.size ≤ maxLen) (ho : o.size ≤ maxLen) (hs : s.size ≤ maxLen) (h0 : n.size ≤ 600) (h1 : o.size ≤ 600) (h2 : s.size ≤ 600) (hd : colB n.data.toList = false) (hc : colB o.data.toList = true) :
    Calls Try.prog 5 #[.string n, .string o, .string s] w (RetQ true w) := by
  have cL := Lib.hid (fun w => lives_any w)
  have cCn : Hid (∀ w, Calls Try.prog 23 #[.string n] w (RetB false w)) := fun w => by rw [← hd]; exact colon_any n w hn
  have cCo : Hid (∀ w, Calls Try.prog 23 #[.string o] w (RetB true w)) := fun w => by rw [← hc]; exact colon_any o w ho
  unfold maxLen at hn ho hs
  go_enter Try.func5, Try.ntmps5
  go_wp2_with fail
  refine (cL.out _).mono ?_
  rintro e w2 ⟨rfl, h⟩
  go_wp2_with fail
  refine (cCn.out _).mono ?_
  rintro e w3 ⟨rfl, rfl⟩
  go_wp2_with fail
  refine (cCo.out _).mono ?_
  rintro e w3 ⟨rfl, rfl⟩
  go_wp2
  go_ret
  exact RetQ.of rfl h

theorem parts_any (n o s : ByteArray) (w : World) (hn : n.size ≤ maxLen) (ho : o.size ≤ maxLen) (hs : s.size ≤ maxLen) : Calls Try.prog 5 #[.string n, .string o, .string s] w (RetQ true w) := by
  by_cases h0 : n.size ≤ 600
  · by_cases h1 : o.size ≤ 600
    · by_cases h2 : s.size ≤ 600
      · cases hc : colB n.data.toList
        · cases hd : colB o.data.toList
          · cases h3 : ofB smallC n.data.toList
            · exact parts_small n o s w h0 h1 h2 hc hd h3 _ rfl
            · cases h4 : serverB s.data.toList
              · exact parts_server n o s w h0 h1 h2 hc hd h3 h4 _ rfl
              · by_cases h5 : n.size + s.size + 2 ≤ 255
                · exact parts_yes n o s w h0 h1 h2 hc hd h3 h4 h5 _ rfl
                · exact parts_long n o s w h0 h1 h2 hc hd h3 h4 (by omega) _ rfl
          · exact parts_co n o s w hn ho hs h0 h1 h2 hc hd
        · exact parts_cn n o s w hn ho hs h0 h1 h2 hc
      · exact parts_s n o s w hn ho hs h0 h1 (by omega)
    · exact parts_o n o s w hn ho hs h0 (by omega)
  · exact parts_n n o s w hn ho hs (by omega)
end Go.Proofs.Ytjdlpfkcikomfab
