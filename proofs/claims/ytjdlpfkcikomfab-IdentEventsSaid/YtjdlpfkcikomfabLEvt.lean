/-
  The walk of the statement on the ids of events.
-/
import Derived.Test.YtjdlpfkcikomfabMth
import Derived.Deep.RegionHeld3
import Derived.IntWalk
import Derived.Deep.RegionWith
import Derived.Deep.DeepCutAuto
namespace Go.Proofs.Ytjdlpfkcikomfab
open Go.RowKit

/-- n modulo m, from 0 on; 0 of m below 1. -/
def pickI (n m : Int) : Int := if m < 1 then 0 else if n.tmod m < 0 then n.tmod m + m else n.tmod m
theorem pickI_range (n m : Int) (h : 1 ≤ m) : 0 ≤ pickI n m ∧ pickI n m < m := by
  unfold pickI
  rw [if_neg (by omega)]
  have h1 := Int.tmod_lt_of_pos n (show 0 < m by omega)
  have h2 := Int.lt_tmod_of_pos n (show 0 < m by omega)
  split
  · omega
  · omega

def RetN (n : Int) (w : World) (e : Ending) (w' : World) : Prop := e = .returned (.int .i64 n) ∧ w = w'
theorem RetN.of {b b' : Int} {w : World} (h : b' = b) : RetN b w (.returned (.int .i64 b')) w := ⟨by rw [h], rfl⟩

set_option maxHeartbeats 1000000 in
theorem pick_any (n m : Int) (w : World) (h : 1 ≤ m) (hm : m ≤ 1000000) : Calls Try.prog 25 #[.int .i64 n, .int .i64 m] w (RetN (pickI n m) w) := by
  have h1 := Int.tmod_lt_of_pos n (show 0 < m by omega)
  have h2 := Int.lt_tmod_of_pos n (show 0 < m by omega)
  have hp : Hid (pickI n m = if n.tmod m < 0 then n.tmod m + m else n.tmod m) := by unfold pickI; rw [if_neg (by omega)]; rfl
  have hw : IntKind.i64.wrap (n.tmod m) = n.tmod m := IntWalk.i64_in _ (by omega)
  have h0 : (m == 0) = false := by simp; omega
  by_cases hn : n.tmod m < 0
  · go_enter Try.func25, Try.ntmps25
    go_wp2
    go_ret
    refine RetN.of ?_
    rw [hp.out, if_pos hn]
  · go_enter Try.func25, Try.ntmps25
    go_wp2
    go_ret
    refine RetN.of ?_
    rw [hp.out, if_neg (by omega)]

theorem event_cons (l : List UInt8) : eventB (36 :: l) = if l.length ≤ 64 then ofB (classB true [95, 45, 46, 126, 47]) l else false := by
  unfold eventB
  have hp : Lib.hasPrefix (36 :: l) [36] = true := by unfold Lib.hasPrefix; simp
  have ht : Lib.trimPrefix (36 :: l) [36] = l := by unfold Lib.trimPrefix; rw [hp]; rfl
  rw [hp, ht]
  by_cases h : l.length ≤ 64
  · rw [if_pos h, if_pos ⟨rfl, by simp; omega⟩]
  · rw [if_neg h, if_neg (by rintro ⟨_, h'⟩; simp at h'; omega)]

def D (a : ByteArray) : ByteArray := ⟨#[36]⟩ ++ a
theorem D_data (a : ByteArray) : (D a).data.toList = 36 :: a.data.toList := by unfold D; simp
theorem app_data (a b : ByteArray) : (a ++ b).data.toList = a.data.toList ++ b.data.toList := by simp
theorem D_size (a : ByteArray) : (D a).size = a.size + 1 := by
  have h1 : (⟨#[36]⟩ : ByteArray).size = 1 := rfl
  unfold D; rw [ByteArray.size_append, h1]; omega
theorem event_D (a : ByteArray) (w : World) (ha : a.size ≤ 200) : Calls Try.prog 19 #[.string (⟨#[36]⟩ ++ a)] w (RetQ (eventB (36 :: a.data.toList)) w) := by
  have := event_any (D a) w (by rw [D_size]; unfold maxLen; omega)
  rw [D_data] at this
  exact this
theorem event_DD (a b : ByteArray) (w : World) (ha : a.size ≤ 200) (hb : b.size ≤ 200) : Calls Try.prog 19 #[.string ((⟨#[36]⟩ ++ a) ++ b)] w (RetQ (eventB (36 :: (a.data.toList ++ b.data.toList))) w) := by
  have := event_any (D a ++ b) w (by rw [ByteArray.size_append, D_size]; unfold maxLen; omega)
  rw [app_data, D_data] at this
  exact this
theorem event_no (a b : List UInt8) (hx : eventB (36 :: a) = false) (hn : a ≠ []) : eventB (36 :: (a ++ b)) = false := by
  rw [event_cons] at hx ⊢
  by_cases h1 : a.length ≤ 64
  · rw [if_pos h1] at hx
    split
    · unfold ofB at hx ⊢
      have he : a.isEmpty = false := by cases a with | nil => exact absurd rfl hn | cons _ _ => rfl
      rw [he] at hx
      simp only [Bool.not_false, Bool.and_true] at hx
      rw [List.all_append, hx]; rfl
    · rfl
  · rw [if_neg (by simp; omega)]
theorem event_yes (a b : List UInt8) (hx : eventB (36 :: a) = true) (hy : eventB (36 :: b) = true) : eventB (36 :: (a ++ b)) = decide (a.length + b.length ≤ 64) := by
  rw [event_cons] at hx hy ⊢
  split at hx
  · split at hy
    · unfold ofB at hx hy ⊢
      rw [Bool.and_eq_true] at hx hy
      have he : (a ++ b).isEmpty = false := by cases a with | nil => exact absurd hx.2 (by decide) | cons _ _ => rfl
      rw [List.all_append, hx.1, hy.1, he, List.length_append]
      by_cases h : a.length + b.length ≤ 64
      · rw [if_pos h, decide_eq_true h]; rfl
      · rw [if_neg h, decide_eq_false h]
    · cases hy
  · cases hx
/-- With one byte turned the id is one exactly if that byte may stand there. -/
theorem event_turn (a : List UInt8) (k : Nat) (c : UInt8) (hk : k < a.length) (hx : eventB (36 :: a) = true) : eventB (36 :: (a.take k ++ [c] ++ a.drop (k + 1))) = classB true [95, 45, 46, 126, 47] c := by
  rw [event_cons] at hx ⊢
  split at hx
  · rename_i hl
    have hlen : (a.take k ++ [c] ++ a.drop (k + 1)).length = a.length := by simp; omega
    rw [hlen, if_pos hl]
    unfold ofB at hx ⊢
    rw [Bool.and_eq_true] at hx
    have h1 := hx.1
    rw [← List.take_append_drop k a, List.all_append, List.drop_eq_getElem_cons hk, List.all_cons, Bool.and_eq_true, Bool.and_eq_true] at h1
    rw [List.all_append, List.all_append, h1.1, h1.2.2]
    simp
  · cases hx

theorem event_T (a : ByteArray) (k : Nat) (c : UInt8) (w : World) (ha : a.size ≤ 200) (hk : k < a.size) (hx : eventB (36 :: a.data.toList) = true) :
    Calls Try.prog 19 #[.string (⟨#[36]⟩ ++ a.extract 0 k ++ ⟨#[c]⟩ ++ a.extract (k + 1) a.size)] w (RetQ (classB true [95, 45, 46, 126, 47] c) w) := by
  have h1 : (⟨#[c]⟩ : ByteArray).size = 1 := rfl
  have e1 : (a.extract 0 k).data.toList = a.data.toList.take k := Lib.extract_from_zero a k
  have e2 : (a.extract (k + 1) a.size).data.toList = a.data.toList.drop (k + 1) := Lib.extract_to_end a (k + 1)
  have := event_any (D (a.extract 0 k) ++ ⟨#[c]⟩ ++ a.extract (k + 1) a.size) w (by rw [ByteArray.size_append, ByteArray.size_append, D_size, h1]; simp only [ByteArray.size_extract]; unfold maxLen; omega)
  rw [app_data, app_data, D_data, e1, e2] at this
  have e3 : (36 :: List.take k a.data.toList) ++ (⟨#[c]⟩ : ByteArray).data.toList ++ List.drop (k + 1) a.data.toList = 36 :: (List.take k a.data.toList ++ [c] ++ List.drop (k + 1) a.data.toList) := by simp
  rw [e3, event_turn a.data.toList k c (by simpa using hk) hx] at this
  exact this

set_option maxHeartbeats 2000000 in
theorem events_no (a b : ByteArray) (c : UInt8) (at_ : Int) (w : World) (ha : a.size ≤ 200) (hb : b.size ≤ 200) (hx : eventB (36 :: a.data.toList) = false) :
    Calls Try.prog 7 #[.string a, .string b, .int .u8 c.toNat, .int .i64 at_] w (RetQ true w) := by
  have cL := Lib.hid (fun w => lives_any w)
  have cX : Hid (∀ w, Calls Try.prog 19 #[.string (⟨#[36]⟩ ++ a)] w (RetQ false w)) := fun w => by rw [← hx]; exact event_D a w ha
  have cY : Hid (∀ w, Calls Try.prog 19 #[.string (⟨#[36]⟩ ++ b)] w (RetQ (eventB (36 :: b.data.toList)) w)) := fun w => event_D b w hb
  have cZ : Hid (∀ w, Calls Try.prog 19 #[.string (⟨#[36]⟩ ++ a ++ b)] w (RetQ (eventB (36 :: (a.data.toList ++ b.data.toList))) w)) := fun w => event_DD a b w ha hb
  generalize eventB (36 :: b.data.toList) = y at cY
  cases he : a.toList.isEmpty
  · have hn : eventB (36 :: (a.data.toList ++ b.data.toList)) = false := event_no _ _ hx (by rw [ByteArray.toList_eq] at he; intro h; rw [h] at he; cases he)
    rw [hn] at cZ
    clear hn hx
    go_enter Try.func7, Try.ntmps7
    go_wp2_with fail
    refine (cL.out _).mono ?_
    rintro e w2 ⟨rfl, h⟩
    go_wp2_with fail
    refine (cX.out _).mono ?_
    rintro e w2 ⟨rfl, h2⟩
    have h1 := h.trans h2; clear h h2
    go_wp2_with fail
    refine (cY.out _).mono ?_
    rintro e w2 ⟨rfl, h2⟩
    have h := h1.trans h2; clear h1 h2
    go_wp2_with fail
    refine (cZ.out _).mono ?_
    rintro e w2 ⟨rfl, h2⟩
    have h1 := h.trans h2; clear h h2
    go_wp2
    go_ret
    exact RetQ.of rfl h1
  · generalize eventB (36 :: (a.data.toList ++ b.data.toList)) = z at cZ
    clear hx
    go_enter Try.func7, Try.ntmps7
    go_wp2_with fail
    refine (cL.out _).mono ?_
    rintro e w2 ⟨rfl, h⟩
    go_wp2_with fail
    refine (cX.out _).mono ?_
    rintro e w2 ⟨rfl, h2⟩
    have h1 := h.trans h2; clear h h2
    go_wp2_with fail
    refine (cY.out _).mono ?_
    rintro e w2 ⟨rfl, h2⟩
    have h := h1.trans h2; clear h1 h2
    go_wp2_with fail
    refine (cZ.out _).mono ?_
    rintro e w2 ⟨rfl, h2⟩
    have h1 := h.trans h2; clear h h2
    cases z
    all_goals
      go_wp2
      go_ret
      exact RetQ.of rfl h1

set_option maxHeartbeats 1000000 in
theorem events_long (a b : ByteArray) (c : UInt8) (at_ : Int) (w : World) (ha : a.size ≤ maxLen) (hb : b.size ≤ maxLen) (h : 200 < a.size ∨ 200 < b.size) :
    Calls Try.prog 7 #[.string a, .string b, .int .u8 c.toNat, .int .i64 at_] w (RetQ true w) := by
  have cL := Lib.hid (fun w => lives_any w)
  unfold maxLen at ha hb
  by_cases h1 : 200 < a.size
  · clear h
    go_enter Try.func7, Try.ntmps7
    go_wp2_with fail
    refine (cL.out _).mono ?_
    rintro e w2 ⟨rfl, h⟩
    go_wp2
    go_ret
    exact RetQ.of rfl h
  · have h2 : 200 < b.size := by omega
    clear h
    go_enter Try.func7, Try.ntmps7
    go_wp2_with fail
    refine (cL.out _).mono ?_
    rintro e w2 ⟨rfl, h⟩
    go_wp2
    go_ret
    exact RetQ.of rfl h

theorem conv_one (c : UInt8) (w : World) : (convert 31 9 (.slice (some ⟨w.heap.size, 0, none⟩) 1 1)).run Try.prog (w.alloc (.cells #[.int .u8 c.toNat] 5)).drew = .ok (.string ⟨#[c]⟩) (w.alloc (.cells #[.int .u8 c.toNat] 5)).drew := by
  refine run_convert_bytes_back (P := Try.prog) _ 31 9 5 ⟨w.heap.size, 0, none⟩ 1 [c] Try.underlying31 Try.underlying5 Try.underlying9 ?_
  intro j hj
  obtain rfl : j = 0 := by simp at hj; omega
  show (w.alloc (.cells #[.int .u8 c.toNat] 5)).cell? ⟨w.heap.size, 0, none⟩ = _
  rw [World.cell?_alloc_at _ _ _ _ rfl]; rfl

theorem adds (a : ByteArray) (k : Nat) (c : UInt8) (ha : a.size ≤ 200) :
    (∀ w, (Op.stringOp .add ⟨#[36]⟩ (a.extract 0 k)).run Try.prog w = .ok (.string (⟨#[36]⟩ ++ a.extract 0 k)) w) ∧
    (∀ w, (Op.stringOp .add (⟨#[36]⟩ ++ a.extract 0 k) ⟨#[c]⟩).run Try.prog w = .ok (.string (⟨#[36]⟩ ++ a.extract 0 k ++ ⟨#[c]⟩)) w) ∧
    (∀ w, (Op.stringOp .add (⟨#[36]⟩ ++ a.extract 0 k ++ ⟨#[c]⟩) (a.extract (k + 1) a.size)).run Try.prog w = .ok (.string (⟨#[36]⟩ ++ a.extract 0 k ++ ⟨#[c]⟩ ++ a.extract (k + 1) a.size)) w) := by
  have h1 : (⟨#[c]⟩ : ByteArray).size = 1 := rfl
  have h2 : (⟨#[36]⟩ : ByteArray).size = 1 := rfl
  refine ⟨fun w => run_string_add_sum w _ _ ?_, fun w => run_string_add_sum w _ _ ?_, fun w => run_string_add_sum w _ _ ?_⟩
  all_goals simp only [ByteArray.size_append, h1, h2, ByteArray.size_extract]; omega

theorem may_cases (c : UInt8) :
    (classB true [95, 45, 46, 126, 47] c = true ∧ ((97 ≤ c.toNat ∧ c.toNat ≤ 122) ∨ (65 ≤ c.toNat ∧ c.toNat ≤ 90) ∨ (48 ≤ c.toNat ∧ c.toNat ≤ 57) ∨ c = 95 ∨ c = 45 ∨ c = 46 ∨ c = 126 ∨ c = 47)) ∨
    (classB true [95, 45, 46, 126, 47] c = false ∧ ((0 ≤ c.toNat ∧ c.toNat ≤ 44) ∨ (58 ≤ c.toNat ∧ c.toNat ≤ 64) ∨ (91 ≤ c.toNat ∧ c.toNat ≤ 94) ∨ c = 96 ∨ (123 ≤ c.toNat ∧ c.toNat ≤ 125) ∨ (127 ≤ c.toNat ∧ c.toNat ≤ 255))) := by
  revert c; exact each_byte (by decide +kernel)

set_option maxHeartbeats 8000000 in
set_option maxRecDepth 100000 in
theorem events_yes_no (a b : ByteArray) (c : UInt8) (at_ : Int) (w : World) (ha : a.size ≤ 200) (hb : b.size ≤ 200) (hx : eventB (36 :: a.data.toList) = true) (hy : eventB (36 :: b.data.toList) = false) :
    Calls Try.prog 7 #[.string a, .string b, .int .u8 c.toNat, .int .i64 at_] w (RetQ true w) := by
  have hmay := Lib.hid (may_cases c)
  have hpos : 1 ≤ a.size := by
    rw [event_cons] at hx
    cases hl : a.data.toList with
    | nil => rw [hl] at hx; cases hx
    | cons x l => have := congrArg List.length hl; simp at this; omega
  obtain ⟨r1, r2⟩ := pickI_range at_ a.size (by omega)
  obtain ⟨k, hk⟩ : ∃ k : Nat, pickI at_ a.size = k := ⟨(pickI at_ a.size).toNat, by omega⟩
  have hka : k < a.size := by omega
  have cL := Lib.hid (fun w => lives_any w)
  have cX : Hid (∀ w, Calls Try.prog 19 #[.string (⟨#[36]⟩ ++ a)] w (RetQ true w)) := fun w => by rw [← hx]; exact event_D a w ha
  have cY : Hid (∀ w, Calls Try.prog 19 #[.string (⟨#[36]⟩ ++ b)] w (RetQ false w)) := fun w => by rw [← hy]; exact event_D b w hb
  have cT : Hid (∀ w, Calls Try.prog 19 #[.string (⟨#[36]⟩ ++ a.extract 0 k ++ ⟨#[c]⟩ ++ a.extract (k + 1) a.size)] w (RetQ (classB true [95, 45, 46, 126, 47] c) w)) := fun w => event_T a k c w ha hka hx
  have cP : Hid (∀ w, Calls Try.prog 25 #[.int .i64 at_, .int .i64 a.size] w (RetN k w)) := fun w => by rw [← hk]; exact pick_any at_ a.size w (by omega) (by omega)
  have cC := Lib.hid (fun w => conv_one c w)
  obtain ⟨A1, A2, A3⟩ := adds a k c ha
  have B1 := Lib.hid A1
  have B2 := Lib.hid A2
  have B3 := Lib.hid A3
  clear A1 A2 A3
  clear hx hy r1 r2 hk
  generalize classB true [95, 45, 46, 126, 47] c = may at hmay cT
  have i1 : (0 : Int) ≤ k := by omega
  have i2 : (k : Int) ≤ a.size := by omega
  have i3 : (0 : Int) ≤ (k : Int) + 1 := by omega
  have i4 : (k : Int) + 1 ≤ a.size := by omega
  have i5 : IntKind.i64.wrap ((k : Int) + 1) = k + 1 := IntWalk.i64_in _ (by omega)
  have I5 := Lib.hid i5
  clear i5
  go_enter Try.func7, Try.ntmps7
  go_wp2_with fail
  refine (cL.out _).mono ?_
  rintro e w2 ⟨rfl, h⟩
  go_wp2_with fail
  refine (cX.out _).mono ?_
  rintro e w2 ⟨rfl, h2⟩
  have h1 := h.trans h2; clear h h2
  go_wp2_with fail
  refine (cY.out _).mono ?_
  rintro e w2 ⟨rfl, h2⟩
  have h := h1.trans h2; clear h1 h2
  go_upto_region 10 with fail
  go_cut [11] (fun s wx => s = .bool may ∧ wx = w2)
  case first =>
    rcases hmay.out with ⟨hm, hr⟩ | ⟨hm, hr⟩
    · clear hmay
      subst hm
      rcases hr with ⟨g1, g2⟩ | ⟨g1, g2⟩ | ⟨g1, g2⟩ | rfl | rfl | rfl | rfl | rfl
      all_goals
        go_wp2_with fail
        go_meet
        first | exact ⟨rfl, rfl⟩ | exact ⟨by simp; omega, rfl⟩
    · clear hmay
      subst hm
      rcases hr with ⟨g1, g2⟩ | ⟨g1, g2⟩ | ⟨g1, g2⟩ | rfl | ⟨g1, g2⟩ | ⟨g1, g2⟩
      all_goals
        go_wp2_with fail
        go_meet
        first | exact ⟨rfl, rfl⟩ | exact ⟨by simp; omega, rfl⟩
  case rest =>
    obtain ⟨rfl, rfl⟩ := hcut
    clear hmay
    go_wp2_with fail
    refine (cP.out _).mono ?_
    rintro e w3 ⟨rfl, rfl⟩
    go_wp2_with fail
    have i5 := I5.out
    have hC := cC.out wc
    have A1 := B1.out
    have A2 := B2.out
    have A3 := B3.out
    go_region_with (go_at_call 19; refine (cT.out _).mono ?_; rintro e w' ⟨rfl, hk3⟩)
    all_goals
      go_wp2
      go_ret
      exact RetQ.of (by simp) ((h.alloc _).drew.trans hk3)

end Go.Proofs.Ytjdlpfkcikomfab
