/-
  The document's own Valid, Space, Word, Digits and Number of package scan.
-/
import Derived.Test.YtbhgfdgdbbfeoaaDoorRfd
import Derived.Deep.QuietTactic
namespace Go.Proofs.YtbhgfdgdbbfeoaaDoor
open Go.RowKit

/-- The size of a string in a slot. -/
def strSz (v : Value) : Nat := match v with | .string t => t.size | _ => 0

set_option maxHeartbeats 4000000 in
theorem rvalid_any (s : ByteArray) (w : World) (hs : s.size ≤ 1000000) : Calls Tryd.prog 23 #[.string s] w (Ret (.bool (validL s.data.toList)) w) := by
  have cP := Lib.hid (fun (t : ByteArray) w1 h => point_any t w1 h)
  obtain ⟨v, hv⟩ : ∃ v, validL s.data.toList = v := ⟨_, rfl⟩
  rw [hv]
  have H0 : Hid (validF s.size s.data.toList = v) := Lib.hid (by rw [← hv]; unfold validL; rw [show s.data.toList.length = s.size by simp])
  clear hv
  go_enter Tryd.func23, Tryd.ntmps23
  go_wp2
  go_loopw [0] (fun x wr => ∃ (t : ByteArray) (k : Nat), x = .string t ∧ t.size ≤ 1000000 ∧ t.size ≤ k ∧ Hid (validF k t.data.toList = v) ∧ Hid (Keeps w wr)) (fun x _ => strSz x)
  case atStart => exact ⟨s, s.size, rfl, hs, Nat.le_refl _, H0, Lib.hid (Keeps.refl _)⟩
  case round =>
    obtain ⟨t, k, rfl, ht, hk, hV, hK⟩ := hrel
    have hl : t.data.toList.length = t.size := by simp
    have hz : t.toList.isEmpty = t.data.toList.isEmpty := by rw [ByteArray.toList_eq]
    by_cases h0 : t.size = 0
    · have he : t.toList.isEmpty = true := by rw [hz, List.isEmpty_iff]; exact List.eq_nil_of_length_eq_zero (by omega)
      have hx := hV.out
      rw [validF_nil _ _ (List.eq_nil_of_length_eq_zero (by omega))] at hx
      have HX := Lib.hid hx
      clear hx hV hl hz h0
      go_wp2
      go_ret
      exact Ret.bool HX.out hK.out
    · have he : t.toList.isEmpty = false := by
        rw [hz, Bool.eq_false_iff, Ne, List.isEmpty_iff]
        intro e; rw [e] at hl; simp at hl; omega
      have hne : t.data.toList ≠ [] := fun e => by rw [e] at hl; simp at hl; omega
      obtain ⟨k, rfl⟩ : ∃ j, k = j + 1 := ⟨k - 1, by omega⟩
      have cP1 := Lib.hid (cP.out t wr ht)
      cases hb : badD (decL t.data.toList)
      · have hx := hV.out
        rw [validF_good _ _ hne hb, ← ext_drop t] at hx
        have HX := Lib.hid hx
        have hpos := dec_pos t.data.toList
        have hle := (dec_good _ hne hb).2.1
        have hpt : pointR t.data.toList = decL t.data.toList := by
          unfold pointR; rw [if_neg (by rw [hb]; simp only [Bool.false_eq_true, or_false]; omega)]
        rw [hpt] at cP1
        rw [hl] at hle
        clear hx hV hl hz hb hne hpt h0
        generalize decL t.data.toList = d at *
        obtain ⟨r, n⟩ := d
        simp only at hpos hle
        have f1 : ((n : Int) == 0) = false := by simp; omega
        go_wp2_with fail
        refine cP1.out.mono ?_
        rintro e w2 ⟨rfl, k2⟩
        have HK2 := Lib.hid (hK.out.trans k2)
        clear k2
        go_wp2
        go_roundw
        case rel => exact ⟨t.extract n t.size, k, rfl, by simp; omega, by simp; omega, HX, HK2⟩
        case measure => simp [strSz]; omega
      · have hx := hV.out
        rw [validF_bad _ _ hne hb] at hx
        have HX := Lib.hid hx
        have hpt : pointR t.data.toList = (0, 0) := by
          unfold pointR; rw [if_pos (.inr hb)]
        rw [hpt] at cP1
        clear hx hV hl hz hb hne hpt h0
        go_wp2_with fail
        refine cP1.out.mono ?_
        rintro e w2 ⟨rfl, k2⟩
        have HK2 := Lib.hid (hK.out.trans k2)
        clear k2
        go_wp2
        go_ret
        exact Ret.bool HX.out HK2.out

set_option maxHeartbeats 4000000 in
theorem rspace_any (s : ByteArray) (w : World) (hs : s.size ≤ 1000000) : Calls Tryd.prog 21 #[.string s] w (fun e w' => e = .returned (.int .i64 (spaceL s.data.toList : Int)) ∧ w' = w) := by
  have HA := Lib.hid (fun k (hk : k < s.size) => drop_at s k hk)
  have hl : s.data.toList.length = s.size := by simp
  have HE : Hid (s.data.toList.drop s.size = []) := Lib.hid (by rw [← hl]; exact List.drop_length)
  have H0 : Hid (0 + spaceL (s.data.toList.drop 0) = spaceL s.data.toList) := Lib.hid (by simp)
  generalize spaceL s.data.toList = n at *
  generalize s.data.toList = l at *
  clear hl
  go_enter Tryd.func21, Tryd.ntmps21
  go_wp2
  go_loop [3] (fun i => ∃ k : Nat, k ≤ s.size ∧ i = .int .i64 (k : Int) ∧ Hid (k + spaceL (l.drop k) = n)) (fun i => s.size - (intOf i).toNat)
  case atStart => exact ⟨0, Nat.zero_le _, rfl, H0⟩
  case round =>
    obtain ⟨k, hk, rfl, hn⟩ := hrel
    by_cases hlt : k < s.size
    · have hA := HA.out k hlt
      have hx := hn.out
      rw [hA] at hx
      cases hb : blankB (s[k]'hlt)
      · have hy := Lib.hid (show k = n by simpa [spaceL, List.takeWhile_cons, hb] using hx)
        have hne : (s[k]'hlt).toNat ≠ 32 ∧ (s[k]'hlt).toNat ≠ 9 ∧ (s[k]'hlt).toNat ≠ 10 ∧ (s[k]'hlt).toNat ≠ 13 := by
          simp [blankB] at hb; omega
        have f1 : (((s[k]'hlt).toNat : Int) == 9) = false := by simp; omega
        have f2 : (((s[k]'hlt).toNat : Int) == 10) = false := by simp; omega
        have f3 : (((s[k]'hlt).toNat : Int) == 13) = false := by simp; omega
        have f4 : (((s[k]'hlt).toNat : Int) == 32) = false := by simp; omega
        clear hx hA hb hne hn
        go_wp2
        go_ret
        exact ⟨ret_i (by rw [hy.out]), rfl⟩
      · have hy := Lib.hid (show (k + 1) + spaceL (l.drop (k + 1)) = n by
          rw [← hx]; simp [spaceL, List.takeWhile_cons, hb]; omega)
        have hor : (s[k]'hlt).toNat = 9 ∨ (s[k]'hlt).toNat = 10 ∨ (s[k]'hlt).toNat = 13 ∨ (s[k]'hlt).toNat = 32 := by
          simp [blankB] at hb; omega
        clear hx hA hb hn
        rcases hor with h | h | h | h
        · have f1 : (((s[k]'hlt).toNat : Int) == 9) = true := by simp; omega
          clear h
          go_wp2
          go_round
          case rel => exact ⟨k + 1, by omega, by go_num, hy⟩
          case measure => simp [intOf]; omega
        · have f1 : (((s[k]'hlt).toNat : Int) == 9) = false := by simp; omega
          have f2 : (((s[k]'hlt).toNat : Int) == 10) = true := by simp; omega
          clear h
          go_wp2
          go_round
          case rel => exact ⟨k + 1, by omega, by go_num, hy⟩
          case measure => simp [intOf]; omega
        · have f1 : (((s[k]'hlt).toNat : Int) == 9) = false := by simp; omega
          have f2 : (((s[k]'hlt).toNat : Int) == 10) = false := by simp; omega
          have f3 : (((s[k]'hlt).toNat : Int) == 13) = true := by simp; omega
          clear h
          go_wp2
          go_round
          case rel => exact ⟨k + 1, by omega, by go_num, hy⟩
          case measure => simp [intOf]; omega
        · have f1 : (((s[k]'hlt).toNat : Int) == 9) = false := by simp; omega
          have f2 : (((s[k]'hlt).toNat : Int) == 10) = false := by simp; omega
          have f3 : (((s[k]'hlt).toNat : Int) == 13) = false := by simp; omega
          have f4 : (((s[k]'hlt).toNat : Int) == 32) = true := by simp; omega
          clear h
          go_wp2
          go_round
          case rel => exact ⟨k + 1, by omega, by go_num, hy⟩
          case measure => simp [intOf]; omega
    · obtain rfl : k = s.size := by omega
      have hx := hn.out
      rw [HE.out] at hx
      have hy := Lib.hid (show s.size = n by simpa [spaceL] using hx)
      clear hx hn
      go_wp2
      go_ret
      exact ⟨ret_i (by rw [← hy.out]), rfl⟩

/-- How a word stands at the head: it does; the text is too short; it does not. -/
theorem pre_cases (s p : ByteArray) : (Lib.hasPrefix s.data.toList p.data.toList = true ∧ p.size ≤ s.size ∧ s.extract 0 p.size = p) ∨ (Lib.hasPrefix s.data.toList p.data.toList = false ∧ s.size < p.size) ∨ (Lib.hasPrefix s.data.toList p.data.toList = false ∧ p.size ≤ s.size ∧ ¬ s.extract 0 p.size = p) := by
  have hp : p.data.toList.length = p.size := by simp
  have hl : s.data.toList.length = s.size := by simp
  have e : (s.extract 0 p.size).data.toList = s.data.toList.take p.size := by rw [Lib.extract_data, List.drop_zero, Nat.sub_zero]
  have key : Lib.hasPrefix s.data.toList p.data.toList = true ↔ s.data.toList.take p.size = p.data.toList := by
    unfold Lib.hasPrefix
    rw [List.isPrefixOf_iff_prefix]
    constructor
    · rintro ⟨r, hr⟩; rw [← hr, ← hp]; simp
    · intro h; exact ⟨s.data.toList.drop p.size, by rw [← h, List.take_append_drop]⟩
  cases h : Lib.hasPrefix s.data.toList p.data.toList
  · by_cases g : s.size < p.size
    · exact .inr (.inl ⟨rfl, g⟩)
    · refine .inr (.inr ⟨rfl, by omega, fun e2 => ?_⟩)
      rw [e2] at e
      have := key.2 e.symm
      rw [h] at this; exact absurd this (by decide)
  · refine .inl ⟨rfl, ?_, ?_⟩
    · have := congrArg List.length (key.1 h)
      rw [List.length_take, hp, hl] at this; omega
    · have := e.trans (key.1 h)
      have e3 : ∀ x : ByteArray, x = S x.data.toList := fun _ => rfl
      rw [e3 (s.extract 0 p.size), this]; rfl

set_option maxHeartbeats 4000000 in
set_option maxRecDepth 100000 in
theorem rword_T (s : ByteArray) (w : World) (a0 : 4 ≤ s.size) (b0 : s.extract 0 4 = ⟨#[116, 114, 117, 101]⟩) : Calls Tryd.prog 22 #[.string s] w (fun e w' => e = .returned (.string ⟨#[116, 114, 117, 101]⟩) ∧ Keeps w w') := by
  have f0 : decide ((4 : Int) ≤ (s.size : Int)) = true := decide_eq_true (by omega)
  go_enter Tryd.func22, Tryd.ntmps22
  go_wp2
  refine wp_loop_rounds 4 ?_
  rw [rounds_succ]
  go_wp2
  go_ret
  exact ⟨rfl, (Keeps.refl _).alloc _⟩
set_option maxHeartbeats 4000000 in
set_option maxRecDepth 100000 in
theorem rword_SSS (s : ByteArray) (w : World) (a0 : s.size < 4) (a1 : s.size < 5) (a2 : s.size < 4) : Calls Tryd.prog 22 #[.string s] w (fun e w' => e = .returned (.string ⟨#[]⟩) ∧ Keeps w w') := by
  have f0 : decide ((4 : Int) ≤ (s.size : Int)) = false := decide_eq_false (by omega)
  have f1 : decide ((5 : Int) ≤ (s.size : Int)) = false := decide_eq_false (by omega)
  have f2 : decide ((4 : Int) ≤ (s.size : Int)) = false := decide_eq_false (by omega)
  go_enter Tryd.func22, Tryd.ntmps22
  go_wp2
  refine wp_loop_rounds 4 ?_
  rw [rounds_succ]
  go_wp2
  rw [rounds_succ]
  go_wp2
  rw [rounds_succ]
  go_wp2
  rw [rounds_succ]
  go_wp2
  go_ret
  exact ⟨rfl, (Keeps.refl _).alloc _⟩
set_option maxHeartbeats 4000000 in
set_option maxRecDepth 100000 in
theorem rword_MT (s : ByteArray) (w : World) (a0 : 4 ≤ s.size) (b0 : ¬ s.extract 0 4 = ⟨#[116, 114, 117, 101]⟩) (a1 : 5 ≤ s.size) (b1 : s.extract 0 5 = ⟨#[102, 97, 108, 115, 101]⟩) : Calls Tryd.prog 22 #[.string s] w (fun e w' => e = .returned (.string ⟨#[102, 97, 108, 115, 101]⟩) ∧ Keeps w w') := by
  have f0 : decide ((4 : Int) ≤ (s.size : Int)) = true := decide_eq_true (by omega)
  have h0 := Lib.hid (show ¬ (s.extract 0 4).toList = [116, 114, 117, 101] from fun e => b0 (bytes_of_list (e.trans (by rw [ByteArray.toList_eq]))))
  have g0 := Lib.hid (show ((s.extract 0 4).toList == [116, 114, 117, 101]) = false from beq_eq_false_iff_ne.2 h0.out)
  clear b0
  have f1 : decide ((5 : Int) ≤ (s.size : Int)) = true := decide_eq_true (by omega)
  go_enter Tryd.func22, Tryd.ntmps22
  go_wp2
  refine wp_loop_rounds 4 ?_
  have gg0 := g0.out
  have hh0 := h0.out
  rw [rounds_succ]
  go_wp2
  clear gg0 hh0
  rw [rounds_succ]
  go_wp2
  go_ret
  exact ⟨rfl, (Keeps.refl _).alloc _⟩
set_option maxHeartbeats 4000000 in
set_option maxRecDepth 100000 in
theorem rword_MST (s : ByteArray) (w : World) (a0 : 4 ≤ s.size) (b0 : ¬ s.extract 0 4 = ⟨#[116, 114, 117, 101]⟩) (a1 : s.size < 5) (a2 : 4 ≤ s.size) (b2 : s.extract 0 4 = ⟨#[110, 117, 108, 108]⟩) : Calls Tryd.prog 22 #[.string s] w (fun e w' => e = .returned (.string ⟨#[110, 117, 108, 108]⟩) ∧ Keeps w w') := by
  have f0 : decide ((4 : Int) ≤ (s.size : Int)) = true := decide_eq_true (by omega)
  have h0 := Lib.hid (show ¬ (s.extract 0 4).toList = [116, 114, 117, 101] from fun e => b0 (bytes_of_list (e.trans (by rw [ByteArray.toList_eq]))))
  have g0 := Lib.hid (show ((s.extract 0 4).toList == [116, 114, 117, 101]) = false from beq_eq_false_iff_ne.2 h0.out)
  clear b0
  have f1 : decide ((5 : Int) ≤ (s.size : Int)) = false := decide_eq_false (by omega)
  have f2 : decide ((4 : Int) ≤ (s.size : Int)) = true := decide_eq_true (by omega)
  go_enter Tryd.func22, Tryd.ntmps22
  go_wp2
  refine wp_loop_rounds 4 ?_
  have gg0 := g0.out
  have hh0 := h0.out
  rw [rounds_succ]
  go_wp2
  clear gg0 hh0
  rw [rounds_succ]
  go_wp2
  rw [rounds_succ]
  go_wp2
  go_ret
  exact ⟨rfl, (Keeps.refl _).alloc _⟩
set_option maxHeartbeats 4000000 in
set_option maxRecDepth 100000 in
theorem rword_MSM (s : ByteArray) (w : World) (a0 : 4 ≤ s.size) (b0 : ¬ s.extract 0 4 = ⟨#[116, 114, 117, 101]⟩) (a1 : s.size < 5) (a2 : 4 ≤ s.size) (b2 : ¬ s.extract 0 4 = ⟨#[110, 117, 108, 108]⟩) : Calls Tryd.prog 22 #[.string s] w (fun e w' => e = .returned (.string ⟨#[]⟩) ∧ Keeps w w') := by
  have f0 : decide ((4 : Int) ≤ (s.size : Int)) = true := decide_eq_true (by omega)
  have h0 := Lib.hid (show ¬ (s.extract 0 4).toList = [116, 114, 117, 101] from fun e => b0 (bytes_of_list (e.trans (by rw [ByteArray.toList_eq]))))
  have g0 := Lib.hid (show ((s.extract 0 4).toList == [116, 114, 117, 101]) = false from beq_eq_false_iff_ne.2 h0.out)
  clear b0
  have f1 : decide ((5 : Int) ≤ (s.size : Int)) = false := decide_eq_false (by omega)
  have f2 : decide ((4 : Int) ≤ (s.size : Int)) = true := decide_eq_true (by omega)
  have h2 := Lib.hid (show ¬ (s.extract 0 4).toList = [110, 117, 108, 108] from fun e => b2 (bytes_of_list (e.trans (by rw [ByteArray.toList_eq]))))
  have g2 := Lib.hid (show ((s.extract 0 4).toList == [110, 117, 108, 108]) = false from beq_eq_false_iff_ne.2 h2.out)
  clear b2
  go_enter Tryd.func22, Tryd.ntmps22
  go_wp2
  refine wp_loop_rounds 4 ?_
  have gg0 := g0.out
  have hh0 := h0.out
  rw [rounds_succ]
  go_wp2
  clear gg0 hh0
  rw [rounds_succ]
  go_wp2
  have gg2 := g2.out
  have hh2 := h2.out
  rw [rounds_succ]
  go_wp2
  clear gg2 hh2
  rw [rounds_succ]
  go_wp2
  go_ret
  exact ⟨rfl, (Keeps.refl _).alloc _⟩
set_option maxHeartbeats 4000000 in
set_option maxRecDepth 100000 in
theorem rword_MMT (s : ByteArray) (w : World) (a0 : 4 ≤ s.size) (b0 : ¬ s.extract 0 4 = ⟨#[116, 114, 117, 101]⟩) (a1 : 5 ≤ s.size) (b1 : ¬ s.extract 0 5 = ⟨#[102, 97, 108, 115, 101]⟩) (a2 : 4 ≤ s.size) (b2 : s.extract 0 4 = ⟨#[110, 117, 108, 108]⟩) : Calls Tryd.prog 22 #[.string s] w (fun e w' => e = .returned (.string ⟨#[110, 117, 108, 108]⟩) ∧ Keeps w w') := by
  have f0 : decide ((4 : Int) ≤ (s.size : Int)) = true := decide_eq_true (by omega)
  have h0 := Lib.hid (show ¬ (s.extract 0 4).toList = [116, 114, 117, 101] from fun e => b0 (bytes_of_list (e.trans (by rw [ByteArray.toList_eq]))))
  have g0 := Lib.hid (show ((s.extract 0 4).toList == [116, 114, 117, 101]) = false from beq_eq_false_iff_ne.2 h0.out)
  clear b0
  have f1 : decide ((5 : Int) ≤ (s.size : Int)) = true := decide_eq_true (by omega)
  have h1 := Lib.hid (show ¬ (s.extract 0 5).toList = [102, 97, 108, 115, 101] from fun e => b1 (bytes_of_list (e.trans (by rw [ByteArray.toList_eq]))))
  have g1 := Lib.hid (show ((s.extract 0 5).toList == [102, 97, 108, 115, 101]) = false from beq_eq_false_iff_ne.2 h1.out)
  clear b1
  have f2 : decide ((4 : Int) ≤ (s.size : Int)) = true := decide_eq_true (by omega)
  go_enter Tryd.func22, Tryd.ntmps22
  go_wp2
  refine wp_loop_rounds 4 ?_
  have gg0 := g0.out
  have hh0 := h0.out
  rw [rounds_succ]
  go_wp2
  clear gg0 hh0
  have gg1 := g1.out
  have hh1 := h1.out
  rw [rounds_succ]
  go_wp2
  clear gg1 hh1
  rw [rounds_succ]
  go_wp2
  go_ret
  exact ⟨rfl, (Keeps.refl _).alloc _⟩
set_option maxHeartbeats 4000000 in
set_option maxRecDepth 100000 in
theorem rword_MMM (s : ByteArray) (w : World) (a0 : 4 ≤ s.size) (b0 : ¬ s.extract 0 4 = ⟨#[116, 114, 117, 101]⟩) (a1 : 5 ≤ s.size) (b1 : ¬ s.extract 0 5 = ⟨#[102, 97, 108, 115, 101]⟩) (a2 : 4 ≤ s.size) (b2 : ¬ s.extract 0 4 = ⟨#[110, 117, 108, 108]⟩) : Calls Tryd.prog 22 #[.string s] w (fun e w' => e = .returned (.string ⟨#[]⟩) ∧ Keeps w w') := by
  have f0 : decide ((4 : Int) ≤ (s.size : Int)) = true := decide_eq_true (by omega)
  have h0 := Lib.hid (show ¬ (s.extract 0 4).toList = [116, 114, 117, 101] from fun e => b0 (bytes_of_list (e.trans (by rw [ByteArray.toList_eq]))))
  have g0 := Lib.hid (show ((s.extract 0 4).toList == [116, 114, 117, 101]) = false from beq_eq_false_iff_ne.2 h0.out)
  clear b0
  have f1 : decide ((5 : Int) ≤ (s.size : Int)) = true := decide_eq_true (by omega)
  have h1 := Lib.hid (show ¬ (s.extract 0 5).toList = [102, 97, 108, 115, 101] from fun e => b1 (bytes_of_list (e.trans (by rw [ByteArray.toList_eq]))))
  have g1 := Lib.hid (show ((s.extract 0 5).toList == [102, 97, 108, 115, 101]) = false from beq_eq_false_iff_ne.2 h1.out)
  clear b1
  have f2 : decide ((4 : Int) ≤ (s.size : Int)) = true := decide_eq_true (by omega)
  have h2 := Lib.hid (show ¬ (s.extract 0 4).toList = [110, 117, 108, 108] from fun e => b2 (bytes_of_list (e.trans (by rw [ByteArray.toList_eq]))))
  have g2 := Lib.hid (show ((s.extract 0 4).toList == [110, 117, 108, 108]) = false from beq_eq_false_iff_ne.2 h2.out)
  clear b2
  go_enter Tryd.func22, Tryd.ntmps22
  go_wp2
  refine wp_loop_rounds 4 ?_
  have gg0 := g0.out
  have hh0 := h0.out
  rw [rounds_succ]
  go_wp2
  clear gg0 hh0
  have gg1 := g1.out
  have hh1 := h1.out
  rw [rounds_succ]
  go_wp2
  clear gg1 hh1
  have gg2 := g2.out
  have hh2 := h2.out
  rw [rounds_succ]
  go_wp2
  clear gg2 hh2
  rw [rounds_succ]
  go_wp2
  go_ret
  exact ⟨rfl, (Keeps.refl _).alloc _⟩
end Go.Proofs.YtbhgfdgdbbfeoaaDoor
