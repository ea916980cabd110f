/-
  The walk of the statement on the ids of events, where both texts make one; all cases together.
-/
import Derived.Test.YtjdlpfkcikomfabLEvt
namespace Go.Proofs.Ytjdlpfkcikomfab
open Go.RowKit

set_option maxHeartbeats 8000000 in
set_option maxRecDepth 100000 in
theorem events_yes_yes_le (a b : ByteArray) (c : UInt8) (at_ : Int) (w : World) (ha : a.size ≤ 200) (hb : b.size ≤ 200) (hx : eventB (36 :: a.data.toList) = true) (hy : eventB (36 :: b.data.toList) = true) (hle : a.size + b.size ≤ 64) :
    Calls Try.prog 7 #[.string a, .string b, .int .u8 c.toNat, .int .i64 at_] w (RetQ true w) := by
  have hmay := Lib.hid (may_cases c)
  have hpos : 1 ≤ a.size := by
    rw [event_cons] at hx
    cases hl : a.data.toList with
    | nil => rw [hl] at hx; cases hx
    | cons x l => have := congrArg List.length hl; simp at this; omega
  obtain ⟨r1, r2⟩ := pickI_range at_ a.size (by omega)
  obtain ⟨k, hk⟩ : ∃ k : Nat, pickI at_ a.size = k := ⟨(pickI at_ a.size).toNat, by omega⟩
  have hka : k < a.size := by omega
  have cL := Lib.hid (fun w => lives_any w)
  have cX : Hid (∀ w, Calls Try.prog 19 #[.string (⟨#[36]⟩ ++ a)] w (RetQ true w)) := fun w => by rw [← hx]; exact event_D a w ha
  have cY : Hid (∀ w, Calls Try.prog 19 #[.string (⟨#[36]⟩ ++ b)] w (RetQ true w)) := fun w => by rw [← hy]; exact event_D b w hb
  have cZ : Hid (∀ w, Calls Try.prog 19 #[.string (⟨#[36]⟩ ++ a ++ b)] w (RetQ true w)) := fun w => by
    have := event_DD a b w ha hb
    rw [event_yes _ _ hx hy] at this
    have e : decide (a.data.toList.length + b.data.toList.length ≤ 64) = true := by simp; omega
    rw [e] at this
    exact this
  have hsum : (a.size : Int) + (b.size : Int) ≤ 64 := by omega
  have cT : Hid (∀ w, Calls Try.prog 19 #[.string (⟨#[36]⟩ ++ a.extract 0 k ++ ⟨#[c]⟩ ++ a.extract (k + 1) a.size)] w (RetQ (classB true [95, 45, 46, 126, 47] c) w)) := fun w => event_T a k c w ha hka hx
  have cP : Hid (∀ w, Calls Try.prog 25 #[.int .i64 at_, .int .i64 a.size] w (RetN k w)) := fun w => by rw [← hk]; exact pick_any at_ a.size w (by omega) (by omega)
  have cC := Lib.hid (fun w => conv_one c w)
  obtain ⟨A1, A2, A3⟩ := adds a k c ha
  have B1 := Lib.hid A1
  have B2 := Lib.hid A2
  have B3 := Lib.hid A3
  clear A1 A2 A3
  clear hx hy r1 r2 hk
  generalize classB true [95, 45, 46, 126, 47] c = may at hmay cT
  have i1 : (0 : Int) ≤ k := by omega
  have i2 : (k : Int) ≤ a.size := by omega
  have i3 : (0 : Int) ≤ (k : Int) + 1 := by omega
  have i4 : (k : Int) + 1 ≤ a.size := by omega
  have i5 : IntKind.i64.wrap ((k : Int) + 1) = k + 1 := IntWalk.i64_in _ (by omega)
  have I5 := Lib.hid i5
  clear i5
  go_enter Try.func7, Try.ntmps7
  go_wp2_with fail
  refine (cL.out _).mono ?_
  rintro e w2 ⟨rfl, h⟩
  go_wp2_with fail
  refine (cX.out _).mono ?_
  rintro e w2 ⟨rfl, h2⟩
  have h1 := h.trans h2; clear h h2
  go_wp2_with fail
  refine (cY.out _).mono ?_
  rintro e w2 ⟨rfl, h2⟩
  have h := h1.trans h2; clear h1 h2
  go_wp2_with fail
  refine (cZ.out _).mono ?_
  rintro e w2 ⟨rfl, h2⟩
  have h1 := h.trans h2; clear h h2
  have h := h1; clear h1
  go_upto_region 10 with fail
  go_cut [11] (fun s wx => s = .bool may ∧ wx = w2)
  case first =>
    rcases hmay.out with ⟨hm, hr⟩ | ⟨hm, hr⟩
    · clear hmay
      subst hm
      rcases hr with ⟨g1, g2⟩ | ⟨g1, g2⟩ | ⟨g1, g2⟩ | rfl | rfl | rfl | rfl | rfl
      all_goals
        go_wp2_with fail
        go_meet
        first | exact ⟨rfl, rfl⟩ | exact ⟨by simp; omega, rfl⟩
    · clear hmay
      subst hm
      rcases hr with ⟨g1, g2⟩ | ⟨g1, g2⟩ | ⟨g1, g2⟩ | rfl | ⟨g1, g2⟩ | ⟨g1, g2⟩
      all_goals
        go_wp2_with fail
        go_meet
        first | exact ⟨rfl, rfl⟩ | exact ⟨by simp; omega, rfl⟩
  case rest =>
    obtain ⟨rfl, rfl⟩ := hcut
    clear hmay
    go_wp2_with fail
    refine (cP.out _).mono ?_
    rintro e w3 ⟨rfl, rfl⟩
    go_wp2_with fail
    have i5 := I5.out
    have hC := cC.out wc
    have A1 := B1.out
    have A2 := B2.out
    have A3 := B3.out
    go_region_with (go_at_call 19; refine (cT.out _).mono ?_; rintro e w' ⟨rfl, hk3⟩)
    all_goals
      go_wp2
      go_ret
      exact RetQ.of (by simp) ((h.alloc _).drew.trans hk3)

set_option maxHeartbeats 8000000 in
set_option maxRecDepth 100000 in
theorem events_yes_yes_gt (a b : ByteArray) (c : UInt8) (at_ : Int) (w : World) (ha : a.size ≤ 200) (hb : b.size ≤ 200) (hx : eventB (36 :: a.data.toList) = true) (hy : eventB (36 :: b.data.toList) = true) (hle : 64 < a.size + b.size) :
    Calls Try.prog 7 #[.string a, .string b, .int .u8 c.toNat, .int .i64 at_] w (RetQ true w) := by
  have hmay := Lib.hid (may_cases c)
  have hpos : 1 ≤ a.size := by
    rw [event_cons] at hx
    cases hl : a.data.toList with
    | nil => rw [hl] at hx; cases hx
    | cons x l => have := congrArg List.length hl; simp at this; omega
  obtain ⟨r1, r2⟩ := pickI_range at_ a.size (by omega)
  obtain ⟨k, hk⟩ : ∃ k : Nat, pickI at_ a.size = k := ⟨(pickI at_ a.size).toNat, by omega⟩
  have hka : k < a.size := by omega
  have cL := Lib.hid (fun w => lives_any w)
  have cX : Hid (∀ w, Calls Try.prog 19 #[.string (⟨#[36]⟩ ++ a)] w (RetQ true w)) := fun w => by rw [← hx]; exact event_D a w ha
  have cY : Hid (∀ w, Calls Try.prog 19 #[.string (⟨#[36]⟩ ++ b)] w (RetQ true w)) := fun w => by rw [← hy]; exact event_D b w hb
  have cZ : Hid (∀ w, Calls Try.prog 19 #[.string (⟨#[36]⟩ ++ a ++ b)] w (RetQ false w)) := fun w => by
    have := event_DD a b w ha hb
    rw [event_yes _ _ hx hy] at this
    have e : decide (a.data.toList.length + b.data.toList.length ≤ 64) = false := by simp; omega
    rw [e] at this
    exact this
  have hsum : (64 : Int) < (a.size : Int) + (b.size : Int) := by omega
  have cT : Hid (∀ w, Calls Try.prog 19 #[.string (⟨#[36]⟩ ++ a.extract 0 k ++ ⟨#[c]⟩ ++ a.extract (k + 1) a.size)] w (RetQ (classB true [95, 45, 46, 126, 47] c) w)) := fun w => event_T a k c w ha hka hx
  have cP : Hid (∀ w, Calls Try.prog 25 #[.int .i64 at_, .int .i64 a.size] w (RetN k w)) := fun w => by rw [← hk]; exact pick_any at_ a.size w (by omega) (by omega)
  have cC := Lib.hid (fun w => conv_one c w)
  obtain ⟨A1, A2, A3⟩ := adds a k c ha
  have B1 := Lib.hid A1
  have B2 := Lib.hid A2
  have B3 := Lib.hid A3
  clear A1 A2 A3
  clear hx hy r1 r2 hk
  generalize classB true [95, 45, 46, 126, 47] c = may at hmay cT
  have i1 : (0 : Int) ≤ k := by omega
  have i2 : (k : Int) ≤ a.size := by omega
  have i3 : (0 : Int) ≤ (k : Int) + 1 := by omega
  have i4 : (k : Int) + 1 ≤ a.size := by omega
  have i5 : IntKind.i64.wrap ((k : Int) + 1) = k + 1 := IntWalk.i64_in _ (by omega)
  have I5 := Lib.hid i5
  clear i5
  go_enter Try.func7, Try.ntmps7
  go_wp2_with fail
  refine (cL.out _).mono ?_
  rintro e w2 ⟨rfl, h⟩
  go_wp2_with fail
  refine (cX.out _).mono ?_
  rintro e w2 ⟨rfl, h2⟩
  have h1 := h.trans h2; clear h h2
  go_wp2_with fail
  refine (cY.out _).mono ?_
  rintro e w2 ⟨rfl, h2⟩
  have h := h1.trans h2; clear h1 h2
  go_wp2_with fail
  refine (cZ.out _).mono ?_
  rintro e w2 ⟨rfl, h2⟩
  have h1 := h.trans h2; clear h h2
  have h := h1; clear h1
  go_upto_region 10 with fail
  go_cut [11] (fun s wx => s = .bool may ∧ wx = w2)
  case first =>
    rcases hmay.out with ⟨hm, hr⟩ | ⟨hm, hr⟩
    · clear hmay
      subst hm
      rcases hr with ⟨g1, g2⟩ | ⟨g1, g2⟩ | ⟨g1, g2⟩ | rfl | rfl | rfl | rfl | rfl
      all_goals
        go_wp2_with fail
        go_meet
        first | exact ⟨rfl, rfl⟩ | exact ⟨by simp; omega, rfl⟩
    · clear hmay
      subst hm
      rcases hr with ⟨g1, g2⟩ | ⟨g1, g2⟩ | ⟨g1, g2⟩ | rfl | ⟨g1, g2⟩ | ⟨g1, g2⟩
      all_goals
        go_wp2_with fail
        go_meet
        first | exact ⟨rfl, rfl⟩ | exact ⟨by simp; omega, rfl⟩
  case rest =>
    obtain ⟨rfl, rfl⟩ := hcut
    clear hmay
    go_wp2_with fail
    refine (cP.out _).mono ?_
    rintro e w3 ⟨rfl, rfl⟩
    go_wp2_with fail
    have i5 := I5.out
    have hC := cC.out wc
    have A1 := B1.out
    have A2 := B2.out
    have A3 := B3.out
    go_region_with (go_at_call 19; refine (cT.out _).mono ?_; rintro e w' ⟨rfl, hk3⟩)
    all_goals
      go_wp2
      go_ret
      exact RetQ.of (by simp) ((h.alloc _).drew.trans hk3)

theorem events_any (a b : ByteArray) (c : Int) (at_ : Int) (w : World) (ha : a.size ≤ maxLen) (hb : b.size ≤ maxLen) (hc : (Lit.int .u8 c).wf = true) :
    Calls Try.prog 7 #[.string a, .string b, .int .u8 c, .int .i64 at_] w (RetQ true w) := by
  have h : 0 ≤ c ∧ c ≤ 255 := by simpa [Lit.wf, IntKind.min, IntKind.max, IntKind.signed, IntKind.bits] using hc
  obtain ⟨d, rfl⟩ : ∃ d : UInt8, c = d.toNat := ⟨UInt8.ofNat c.toNat, by simp; omega⟩
  by_cases h1 : 200 < a.size ∨ 200 < b.size
  · exact events_long a b d at_ w ha hb h1
  · cases hx : eventB (36 :: a.data.toList)
    · exact events_no a b d at_ w (by omega) (by omega) hx
    · cases hy : eventB (36 :: b.data.toList)
      · exact events_yes_no a b d at_ w (by omega) (by omega) hx hy
      · by_cases hle : a.size + b.size ≤ 64
        · exact events_yes_yes_le a b d at_ w (by omega) (by omega) hx hy hle
        · exact events_yes_yes_gt a b d at_ w (by omega) (by omega) hx hy (by omega)
end Go.Proofs.Ytjdlpfkcikomfab
