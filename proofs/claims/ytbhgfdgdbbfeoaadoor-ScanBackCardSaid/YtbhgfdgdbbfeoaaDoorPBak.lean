/-
  A valid string is read from its literal, whatever follows; what is read is valid, and has one literal, in which no byte is below 32: for any bytes, no condition.
-/
import Derived.Test.YtbhgfdgdbbfeoaaDoorRows
import Derived.Test.YtbhgfdgdbbfeoaaDoorCards
import Derived.Test.YtbhgfdgdbbfeoaaDoorTie
import Derived.Test.YtbhgfdgdbbfeoaaDoorLFro
import Derived.Test.YtbhgfdgdbbfeoaaDoorLai
import Derived.WalkKit
import Derived.ProofKit
import Derived.OpenShut
import Derived.ShutString
import Derived.LaidMore
import Derived.Lay
import Derived.SevenTiedAt
import Derived.Stop.Joined
import Derived.Carry
import Derived.PinnedBridge
import Derived.Lib.LaidU8T
import Derived.Lib.LaidTab
import Derived.Stop.LaidErr
namespace Go.Proofs.YtbhgfdgdbbfeoaaDoor
open Go.RowKit
theorem utf_scanBack {W : World} (h : laidMetH Tryd.prog Rows.scanBackRow.laid W) : Utf W := by
  rw [MakeChecks.laidMetH_plain _ _ _ (by kernel_rfl)] at h
  exact utf_reads h (by simp [Rows.scanBackRow]) (by simp [Rows.scanBackRow])
end Go.Proofs.YtbhgfdgdbbfeoaaDoor
namespace Go.Proofs.YtbhgfdgdbbfeoaaDoor
open Go.RowKit

theorem ext_take2 (s : ByteArray) (n : Nat) : (s.extract 0 n).data.toList = s.data.toList.take n := by
  rw [Lib.extract_data, List.drop_zero, Nat.sub_zero]
theorem cu_of2 (s : ByteArray) (p : Piece) (hs : s.size ≤ 100000) (h : unqL s.data.toList = p) : CU s (S p.1) (p.2.1 : Int) (p.2.2 : Int) := Lib.hid (fun w1 hu => by
  rw [← h]; exact unq_any s w1 hu hs)

theorem unqF_len (k : Nat) : ∀ l : List UInt8, (unqF k l).1.length ≤ 4 * (unqF k l).2.1 := by
  induction k with
  | zero => intro l; simp [unqF]
  | succ k ih =>
    intro l
    by_cases hn : l = []
    · rw [unqF_none _ _ hn]; simp
    by_cases h34 : (l.getD 0 0).toNat = 34
    · match l, hn, h34 with
      | [], hn, _ => exact absurd rfl hn
      | c :: t, _, h34 => rw [unqF_end k c t h34]; simp
    by_cases e : (pieceL l).2.2 = 0
    · rw [unqF_more k l hn h34 e]
      split
      · simp
      · have h1 := (piece_w l).2
        have h2 := ih (l.drop (pieceL l).2.1)
        simp only [List.length_append]; omega
    · rw [unqF_bad k l hn h34 e]; simp
theorem unqL_len (l : List UInt8) : (unqL l).1.length ≤ 4 * (unqL l).2.1 := by
  unfold unqL
  split
  · simp
  · split
    · simp
    · unfold joinU
      split
      · simp
      · have := unqF_len l.length (l.drop 1)
        simp only [List.length_append, List.length_nil]; omega
theorem back_any (s b : ByteArray) (w : World) (ms : s.size ≤ maxLen) (mb : b.size ≤ maxLen) (hu : Utf w) :
    Calls Tryd.prog 5 #[.string s, .string b] w (RetQ true w) := by
  have HU := Lib.hid hu
  by_cases hs : 2000 < s.size
  · exact bk_big1 s b w hs ms
  by_cases hb : 2000 < b.size
  · exact bk_big2 s b w (by omega) hb mb
  have hsl : s.data.toList.length = s.size := by simp
  have hs2 : s.size ≤ 2000 := by omega
  have hb2 : b.size ≤ 2000 := by omega
  obtain ⟨p, hp⟩ : ∃ p, unqL s.data.toList = p := ⟨_, rfl⟩
  have cY := cu_of2 s p (by omega) hp
  have hql := quoteL_len s.data.toList
  have cV : ∀ v, validL s.data.toList = v → Hid (∀ w1, Calls Tryd.prog 14 #[.string s] w1 (RetQ v w1)) := fun v e => Lib.hid (fun w1 => by rw [← e]; exact valid_any s w1 (by omega))
  have rest : ∀ y : List UInt8, Pts y → y.length ≤ 16000 → Hid (∀ w1, Calls Tryd.prog 15 #[.string (S y)] w1 (fun e w' => e = .returned (.tuple #[.string (S (quoteL y)), .int .i64 0]) ∧ Keeps w1 w')) ∧ CU (S (quoteL y)) (S y) ((quoteL y).length : Int) 0 := fun y hy hl => by
    have h6 := quoteL_len y
    refine ⟨Lib.hid (fun w1 => quote_at (S y) (S (quoteL y)) 0 0 w1 (by rw [S_size]; omega) (by unfold quoR; rw [S_data, (valid_iff y).2 hy]; rfl) rfl), ?_⟩
    exact cu_of2 (S (quoteL y)) (y, (quoteL y).length, 0) (by rw [S_size]; omega) (by rw [S_data]; have := unq_quote hy []; rwa [List.append_nil] at this)
  cases hv : validL s.data.toList
  · have cQ : Hid (∀ w1, Calls Tryd.prog 15 #[.string s] w1 (fun e w' => e = .returned (.tuple #[.string ⟨#[]⟩, .int .i64 6]) ∧ Keeps w1 w')) := Lib.hid (fun w1 => quote_at s ⟨#[]⟩ 6 6 w1 (by omega) (by unfold quoR; rw [hv]; rfl) rfl)
    have hz0 : (⟨#[]⟩ : ByteArray).size = 0 := rfl
    have cU := cu_of2 ((⟨#[]⟩ : ByteArray) ++ b) _ (by rw [ByteArray.size_append, hz0]; omega) rfl
    have hG : Hid (∀ k (hk : k < (⟨#[]⟩ : ByteArray).size), decide ((((⟨#[]⟩ : ByteArray)[k]'hk).toNat : Int) < 32) = false) := Lib.hid (fun k hk => absurd hk (by simp [ByteArray.size]))
    by_cases he : p.2.2 = 0
    · have wl := wellL s.data.toList (by rw [hp]; exact he)
      have hy := wl.pts
      have hk := wl.le
      rw [hp] at hy hk
      rw [he] at cY
      have hlen := unqL_len s.data.toList
      rw [hp] at hlen
      obtain ⟨cW, cZ⟩ := rest p.1 hy (by omega)
      exact bk_n_ok s b _ _ _ _ _ _ 0 _ p.2.1 w hs2 hb2 (by decide) (by omega) (by rw [ByteArray.toList_eq]; rfl) HU cQ (cV _ hv) cU hG cY cW cZ
    · obtain ⟨z1, z2⟩ := unqL_err s.data.toList (by rw [hp]; exact he)
      rw [hp] at z1 z2
      rw [z1, z2] at cY
      exact bk_n_er s b _ _ s s _ _ _ 0 0 w hs2 hb2 (by decide) (by rw [ByteArray.toList_eq]; rfl) HU cQ (cV _ hv) cU hG cY (by simp; omega)
  · have hpt := (valid_iff _).1 hv
    have cQ : Hid (∀ w1, Calls Tryd.prog 15 #[.string s] w1 (fun e w' => e = .returned (.tuple #[.string (S (quoteL s.data.toList)), .int .i64 0]) ∧ Keeps w1 w')) := Lib.hid (fun w1 => quote_at s (S (quoteL s.data.toList)) 0 0 w1 (by omega) (by unfold quoR; rw [hv]; rfl) rfl)
    have cU : CU (S (quoteL s.data.toList) ++ b) s ((S (quoteL s.data.toList)).size : Int) 0 := cu_of2 (S (quoteL s.data.toList) ++ b) (s.data.toList, (quoteL s.data.toList).length, 0) (by simp [S_size]; omega) (by rw [app_data, S_data]; exact unq_quote hpt _)
    have hG : Hid (∀ k (hk : k < (S (quoteL s.data.toList)).size), decide ((((S (quoteL s.data.toList))[k]'hk).toNat : Int) < 32) = false) := Lib.hid (fun k hk => by
      have hm : (S (quoteL s.data.toList))[k]'hk ∈ quoteL s.data.toList := by
        have := getD_at (S (quoteL s.data.toList)) k hk
        rw [S_data] at this
        rw [← this, List.getD_eq_getElem?_getD, List.getElem?_eq_getElem (by rw [S_size] at hk; exact hk)]
        exact List.getElem_mem _
      have := quote_ge _ _ hm
      simp; omega)
    have hqs : (S (quoteL s.data.toList)).size ≤ 20000 := by rw [S_size]; omega
    by_cases he : p.2.2 = 0
    · have wl := wellL s.data.toList (by rw [hp]; exact he)
      have hy := wl.pts
      have hk := wl.le
      rw [hp] at hy hk
      rw [he] at cY
      have hlen := unqL_len s.data.toList
      rw [hp] at hlen
      obtain ⟨cW, cZ⟩ := rest p.1 hy (by omega)
      exact bk_v_ok s b _ s _ _ 0 0 0 _ p.2.1 w hs2 hb2 hqs (by omega) HU cQ (cV _ hv) cU hG cY cW cZ
    · obtain ⟨z1, z2⟩ := unqL_err s.data.toList (by rw [hp]; exact he)
      rw [hp] at z1 z2
      rw [z1, z2] at cY
      exact bk_v_er s b _ s s s 0 0 _ 0 0 w hs2 hb2 hqs HU cQ (cV _ hv) cU hG cY (by simp; omega)
end Go.Proofs.YtbhgfdgdbbfeoaaDoor

namespace Go.Proofs.YtbhgfdgdbbfeoaaDoor.scanBack
open Go.ChangeShapes Go.WideShapes Go.ChangeAt Go.RowKit
open Go.ChangeMaps (open_string shut_string)
set_option linter.unusedVariables false

theorem own : ownKnob Tryd.prog.godebug = none := by kernel_rfl

set_option maxRecDepth 100000 in
theorem lifted (os : Os) (started : os.Started) (H : Type) (enc : TypeId × Value → H) :
    ReturnsInHanded {} Tryd.checked os 5 .any (fun w args => (Rows.scanBackSpec.pre enc Tryd.prog Tryd.f5 Rows.scanBackRow.domain false w args ∧ laidMetH Tryd.prog Rows.scanBackRow.laid w) ∧ sizedMet enc Tryd.prog Tryd.f5 (OpenSpec.ofChange Rows.scanBackSpec) false w args)
      (Rows.scanBackSpec.post enc Tryd.prog Tryd.f5 false true false false) := by
  refine returnsInHanded_of_change_and (C := Tryd.checked) (X := fun w _ => laidMetH Tryd.prog Rows.scanBackRow.laid w) (fun _ _ _ hh h => h.of_heap hh) own started (by kernel_rfl) Tryd.func5
    (ChangeSpec.witness_shaped (enc := enc) (C := Tryd.checked) (os := os) (X := fun w _ => laidMetH Tryd.prog Rows.scanBackRow.laid w) false (World.laidAll Tryd.prog os Rows.scanBackRow.laid) #[.string ByteArray.empty, .string ByteArray.empty] 8 (World.laidAll_os _ _ _)
      (World.shaped_of_ZipB (by kernel_rfl) (by kernel_rfl)) (by kernel_rfl) (by kernel_rfl) (by kernel_rfl)
      (by rw [MakeChecks.laidMetH_plain _ _ _ (by kernel_rfl)]; exact laidMet_laidAll _ (by kernel_rfl) (by kernel_rfl))) ?_
  intro W base args ds gs before hval0 hW hcnd _ hL _
  have hval : ∀ (j : Nat) t v, Tryd.f5.params[j]? = some t → args[j]? = some v → Value.okWide Tryd.prog W .any base t v := hval0
  have hW' := hW
  obtain ⟨p, q, hA0, hV, rfl, hfz, hnd⟩ := hW
  have hA : DataW.TrodAll enc Tryd.prog W 0 (fun _ => true) true Tryd.f5.params.toList args.toList ds p := hA0
  rw [Tryd.params5] at hA hval
  obtain ⟨v0, vs0, d0, ds0, p0, q0, hargs, rfl, rfl, h0, r0⟩ := trodAll_cons hA
  obtain ⟨v1, vs1, d1, ds1, p1, q1, rfl, rfl, rfl, h1, r1⟩ := trodAll_cons r0
  obtain ⟨rfl, rfl, rfl⟩ := trodAll_nil r1
  obtain rfl : args = #[v0, v1] := by cases args; simp_all
  obtain ⟨rfl, rfl⟩ := trodVars_none hV
  obtain ⟨a0, rfl, rfl, rfl, w0⟩ := open_string Tryd.underlying9 (hval 0 9 v0 rfl rfl) h0
  obtain ⟨a1, rfl, rfl, rfl, w1⟩ := open_string Tryd.underlying9 (hval 1 9 v1 rfl rfl) h1
  clear hA0 hval0
  simp only [List.append_nil] at hW'
  refine (back_any a0 a1 W w0 w1 (utf_scanBack hL)).mono fun e W' ⟨he, hg⟩ => ?_
  subst he
  exact ⟨_, rfl, _, _, _, [], [], [], hW', (trodAll_cons_mk (shut_bool Tryd.underlying4 _) trodAll_mk0), (trodAll_cons_mk (p := []) (p' := []) (shut_string Tryd.underlying9 w0) (trodAll_cons_mk (p := []) (p' := []) (shut_string Tryd.underlying9 w1) trodAll_mk0)), rfl, hg.frame _, fun h => by cases h⟩

theorem over : Rows.scanBackRow.holds Tryd.pinned (OpenSpec.ofChange Rows.scanBackSpec) :=
  OpenClaim.holds_of_wide 5 Tryd.f5 rfl rfl rfl rfl rfl rfl rfl ⟨rfl, rfl, rfl, rfl, rfl⟩ rfl rfl rfl rfl rfl (by kernel_rfl) Tryd.func5 (by kernel_rfl)
    (of_decide_eq_true (by kernel_rfl)) (by unfold Func.isWrapper; first | (rw [if_pos (by decide +kernel)]; kernel_rfl) | (rw [if_neg (by decide +kernel)]; exact ⟨rfl, rfl⟩))
    (fun os started H enc _ => lifted os started H enc)

set_option maxRecDepth 100000 in
theorem proved : Rows.ScanBackCardSaid :=
  Claim7.holds_tied_plain_at .later [] [.data, .pinned] true (true, "f2b3eafc29d0279b62e37aa68ad3ff1bea54c8056a58230ebe0d1e1cf0871150") false over (fun _ h => by cases h) (by kernel_rfl) (fun _ h => by cases h) scanBack_row_tie rfl ⟨rfl, rfl⟩ (by kernel_rfl) rfl
    (fun f fn hf hfn => by
      obtain rfl : f = 5 := Option.some.inj ((show Tryd.prog.funcNamed "outlaw/outlawlaw01.ScanBack" = some 5 by kernel_rfl).symm.trans hf) |>.symm
      obtain rfl : fn = Tryd.f5 := (Option.some.inj (Tryd.func5.symm.trans hfn)).symm
      exact ⟨by kernel_rfl, fun j t ht => by
        rw [Tryd.params5] at ht
        have hm : t ∈ [9, 9] := by simpa using Array.mem_of_getElem? ht
        have hall : ([9, 9].all fun u => !Tryd.prog.wantsStandIn u) = true := by kernel_rfl
        exact (show Tryd.prog.wantsStandIn t = false by simpa using List.all_eq_true.1 hall t hm)⟩)
    (by kernel_rfl)
#print axioms proved
end Go.Proofs.YtbhgfdgdbbfeoaaDoor.scanBack
