/-
  The contracts of the document's own answers on identifiers: named, User, Room, Kind.
-/
import Derived.Test.YtjdlpfkcikomfabReg
namespace Go.Proofs.Ytjdlpfkcikomfab
open Go.RowKit

def bigB (c : UInt8) : Bool := decide (65 ≤ c.toNat ∧ c.toNat ≤ 90)

theorem index_cons (c : UInt8) (l : List UInt8) (hc : c.toNat ≠ 58) : Lib.indexByte (c :: l) 58 = if Lib.indexByte l 58 = -1 then -1 else Lib.indexByte l 58 + 1 := by
  have h : (c == 58) = false := by
    rw [beq_eq_false_iff_ne]; intro e; subst e; exact hc rfl
  simp only [Lib.indexByte, h]
  by_cases h2 : Lib.indexByte l 58 = -1
  · simp [h2]
  · simp [h2]

/-- named, by the place of the first colon of the whole text. -/
theorem named_eq (sign : UInt8) (hs : sign.toNat ≠ 58) (p : UInt8 → Bool) (l : List UInt8) :
    namedB sign p l = if 255 < l.length then false else if Lib.indexByte l 58 < 2 then false else if l.head? = some sign then (if serverB (l.drop ((Lib.indexByte l 58).toNat + 1)) = true then ((l.drop 1).take ((Lib.indexByte l 58).toNat - 1)).all p else false) else false := by
  unfold namedB
  by_cases h : 255 < l.length
  · rw [if_pos h, if_neg (fun h' => by omega)]
  · rw [if_neg h]
    cases l with
    | nil => simp [Lib.hasPrefix, Lib.indexByte]
    | cons c r =>
      by_cases hc : c = sign
      · subst hc
        have hp : Lib.hasPrefix (c :: r) [c] = true := by unfold Lib.hasPrefix; simp
        have ht : Lib.trimPrefix (c :: r) [c] = r := by unfold Lib.trimPrefix; rw [hp]; rfl
        rw [hp, ht, if_pos ⟨rfl, by omega⟩, index_cons c r hs]
        have hge := Lib.indexByte_ge r 58
        have hlt := indexByte_lt r 58
        unfold cutC
        by_cases hr : Lib.indexByte r 58 = -1
        · rw [hr]; simp
        · obtain ⟨i, hi⟩ : ∃ i : Nat, Lib.indexByte r 58 = i := ⟨(Lib.indexByte r 58).toNat, by omega⟩
          rw [hi, if_pos (show (0 : Int) ≤ i by omega), if_neg (show ¬ (i : Int) = -1 by omega)]
          simp only [List.head?_cons, true_and, if_true]
          rw [show ((i : Nat) : Int).toNat = i from rfl, show ((i : Nat) + 1 : Int).toNat = i + 1 from by omega]
          have hir : i < r.length := by omega
          by_cases h2 : (i : Int) + 1 < 2
          · rw [if_pos h2]
            obtain rfl : i = 0 := by omega
            rw [if_neg]
            intro hh; unfold ofB at hh; simp at hh
          · rw [if_neg h2]
            have hne : (r.take i).isEmpty = false := by
              cases r with
              | nil => simp at hir
              | cons a r => cases i with
                | zero => omega
                | succ i => rfl
            have e : ofB p (r.take i) = (r.take i).all p := by unfold ofB; rw [hne]; simp
            rw [e]
            simp only [List.drop_succ_cons, List.drop_zero, Nat.add_sub_cancel]
            cases (r.take i).all p <;> cases serverB (r.drop (i + 1)) <;> simp
      · have hp : Lib.hasPrefix (c :: r) [sign] = false := by
          unfold Lib.hasPrefix
          simp only [List.isPrefixOf, Bool.and_true, beq_eq_false_iff_ne]
          intro e; exact hc e.symm
        rw [hp, if_neg (fun h => Bool.noConfusion h.1)]
        have : ¬ (c :: r).head? = some sign := by simp [hc]
        rw [if_neg this]
        simp

/-- What the loop of named has gone through. -/
def Gone (p : UInt8 → Bool) (l : List UInt8) (k : Nat) : Prop := ((l.drop 1).take (k - 1)).all p = true
theorem gone_succ {p : UInt8 → Bool} {s : ByteArray} {k : Nat} (h0 : Gone p s.data.toList k) (hk : 1 ≤ k) (h : k < s.size) (hp : p s[k] = true) : Gone p s.data.toList (k + 1) := by
  unfold Gone at h0 ⊢
  have hl : k - 1 < (s.data.toList.drop 1).length := by simp; omega
  have e : (s.data.toList.drop 1)[k - 1] = s[k] := by
    rw [List.getElem_drop]
    have : 1 + (k - 1) = k := by omega
    simp only [this]; rfl
  rw [show k + 1 - 1 = (k - 1) + 1 from by omega, List.take_succ_eq_append_getElem hl, List.all_append, h0, e]
  simp [hp]
theorem gone_stop {p : UInt8 → Bool} {s : ByteArray} {k i : Nat} (hk : 1 ≤ k) (h : k < s.size) (hi : k < i) (hp : p s[k] = false) : ((s.data.toList.drop 1).take (i - 1)).all p = false := by
  have hl : k - 1 < (s.data.toList.drop 1).length := by simp; omega
  have e : (s.data.toList.drop 1)[k - 1] = s[k] := by
    rw [List.getElem_drop]
    have : 1 + (k - 1) = k := by omega
    simp only [this]; rfl
  rw [Bool.eq_false_iff]
  intro hc
  rw [List.all_eq_true] at hc
  have hl2 : k - 1 < ((s.data.toList.drop 1).take (i - 1)).length := by rw [List.length_take]; omega
  have hm := hc _ (List.getElem_mem hl2)
  rw [List.getElem_take, e, hp] at hm
  cases hm

set_option maxHeartbeats 4000000 in
theorem named34_long (s : ByteArray) (sign : UInt8) (small : Bool) (more : ByteArray) (w : World) (hs : s.size ≤ maxLen) (h : 255 < s.size) :
    Calls Try.prog 34 #[.string s, .int .u8 sign.toNat, .bool small, .string more] w (RetB false w) := by
  have cC := Lib.hid (fun w => colon30 s w hs)
  generalize Lib.indexByte s.data.toList 58 = i at cC
  unfold maxLen at hs
  go_enter Try.func34, Try.ntmps34
  go_wp2_with fail
  refine (cC.out _).mono ?_
  rintro e w2 ⟨rfl, rfl⟩
  go_wp2
  go_ret
  exact RetB.of rfl

set_option maxHeartbeats 4000000 in
theorem named34_none (s : ByteArray) (sign : UInt8) (small : Bool) (more : ByteArray) (w : World) (hs : s.size ≤ maxLen) (h : s.size ≤ 255) (hi : Lib.indexByte s.data.toList 58 < 2) :
    Calls Try.prog 34 #[.string s, .int .u8 sign.toNat, .bool small, .string more] w (RetB false w) := by
  have cC := Lib.hid (fun w => colon30 s w hs)
  generalize Lib.indexByte s.data.toList 58 = i at cC hi
  unfold maxLen at hs
  go_enter Try.func34, Try.ntmps34
  go_wp2_with fail
  refine (cC.out _).mono ?_
  rintro e w2 ⟨rfl, rfl⟩
  go_wp2
  go_ret
  exact RetB.of rfl

set_option maxHeartbeats 4000000 in
theorem named34_sign (s : ByteArray) (sign : UInt8) (small : Bool) (more : ByteArray) (w : World) (hs : s.size ≤ maxLen) (h : s.size ≤ 255) (h0 : 0 < s.size) (hi : 2 ≤ Lib.indexByte s.data.toList 58) (hd : ¬ s[0].toNat = sign.toNat) :
    Calls Try.prog 34 #[.string s, .int .u8 sign.toNat, .bool small, .string more] w (RetB false w) := by
  have cC := Lib.hid (fun w => colon30 s w hs)
  generalize Lib.indexByte s.data.toList 58 = i at cC hi
  have hb : ((s[0].toNat : Int) != (sign.toNat : Int)) = true := by rw [bne_iff_ne]; omega
  clear hd
  unfold maxLen at hs
  go_enter Try.func34, Try.ntmps34
  go_wp2_with fail
  refine (cC.out _).mono ?_
  rintro e w2 ⟨rfl, rfl⟩
  go_wp2
  go_ret
  exact RetB.of rfl

set_option maxHeartbeats 4000000 in
theorem named34_server (s : ByteArray) (sign : UInt8) (small : Bool) (more : ByteArray) (w : World) (hs : s.size ≤ maxLen) (h : s.size ≤ 255) (h0 : 0 < s.size) (i : Nat) (hi : Lib.indexByte s.data.toList 58 = i) (h2 : 2 ≤ i) (his : i < s.size) (hd : s[0].toNat = sign.toNat) (hv : serverB (s.data.toList.drop (i + 1)) = false) :
    Calls Try.prog 34 #[.string s, .int .u8 sign.toNat, .bool small, .string more] w (RetB false w) := by
  have cC := Lib.hid (fun w => colon30 s w hs)
  rw [hi] at cC
  have e2 : (s.extract (i + 1) s.size).data.toList = s.data.toList.drop (i + 1) := Lib.extract_to_end s (i + 1)
  have cV : Hid (∀ w, Calls Try.prog 14 #[.string (s.extract (i + 1) s.size)] w (RetB false w)) := fun w => by rw [← hv, ← e2]; exact server14 _ w (by simp only [ByteArray.size_extract]; omega)
  have hb : ((s[0].toNat : Int) != (sign.toNat : Int)) = false := by rw [hd]; simp
  clear hd hv e2 hi
  have c3 : (0 : Int) ≤ (i : Int) + 1 := by omega
  have c4 : (i : Int) + 1 ≤ s.size := by omega
  unfold maxLen at hs
  go_enter Try.func34, Try.ntmps34
  go_wp2_with fail
  refine (cC.out _).mono ?_
  rintro e w2 ⟨rfl, rfl⟩
  go_wp2_with fail
  refine (cV.out _).mono ?_
  rintro e w2 ⟨rfl, rfl⟩
  go_wp2
  go_ret
  exact RetB.of rfl

set_option maxHeartbeats 4000000 in
theorem named34_all (s : ByteArray) (sign : UInt8) (small : Bool) (more : ByteArray) (w : World) (hs : s.size ≤ maxLen) (h : s.size ≤ 255) (h0 : 0 < s.size) (i : Nat) (hi : Lib.indexByte s.data.toList 58 = i) (h2 : 2 ≤ i) (his : i < s.size) (hd : s[0].toNat = sign.toNat) (hv : serverB (s.data.toList.drop (i + 1)) = true) (hmo : more.size ≤ maxLen) (p : UInt8 → Bool) (hp : ∀ c, p c = ((letterB c || digB c || amongB more.data.toList c) && !(bigB c && small))) :
    Calls Try.prog 34 #[.string s, .int .u8 sign.toNat, .bool small, .string more] w (RetB (((s.data.toList.drop 1).take (i - 1)).all p) w) := by
  have cC := Lib.hid (fun w => colon30 s w hs)
  rw [hi] at cC
  have e2 : (s.extract (i + 1) s.size).data.toList = s.data.toList.drop (i + 1) := Lib.extract_to_end s (i + 1)
  have cV : Hid (∀ w, Calls Try.prog 14 #[.string (s.extract (i + 1) s.size)] w (RetB true w)) := fun w => by rw [← hv, ← e2]; exact server14 _ w (by simp only [ByteArray.size_extract]; omega)
  have hb : ((s[0].toNat : Int) != (sign.toNat : Int)) = false := by rw [hd]; simp
  clear hd hv e2 hi
  have c3 : (0 : Int) ≤ (i : Int) + 1 := by omega
  have c4 : (i : Int) + 1 ≤ s.size := by omega
  have HP := Lib.hid hp
  clear hp
  unfold maxLen at hs
  go_enter Try.func34, Try.ntmps34
  go_wp2_with fail
  refine (cC.out _).mono ?_
  rintro e w2 ⟨rfl, rfl⟩
  go_wp2_with fail
  refine (cV.out _).mono ?_
  rintro e w2 ⟨rfl, rfl⟩
  go_wp2_with fail
  clear hb
  go_loop [10] (fun x => ∃ k : Nat, 1 ≤ k ∧ k ≤ i ∧ x = .int .i64 k ∧ Hid (Gone p s.data.toList k)) (fun x => i - (intOf x).toNat)
  case atStart => exact ⟨1, by omega, by omega, rfl, (by show Gone p s.data.toList 1; unfold Gone; simp)⟩
  case round =>
    obtain ⟨k, hk1, hk, rfl, hall⟩ := hrel
    by_cases hlt : k < i
    · have hks : k < s.size := by omega
      have H1 : Hid (p s[k] = true → Gone p s.data.toList (k + 1)) := fun h => gone_succ hall.out hk1 hks h
      have H2 : Hid (p s[k] = false → ((s.data.toList.drop 1).take (i - 1)).all p = false) := fun h => gone_stop hk1 hks hlt h
      have hpk := Lib.hid (HP.out s[k])
      have cA := Lib.hid (letter_any s[k] w)
      have cD := Lib.hid (digit37 s[k] w)
      have cM : Hid (Calls Try.prog 38 #[.int .u8 s[k].toNat, .string more] w (RetB (amongB more.data.toList s[k]) w)) := among_any more s[k] w hmo
      have hbig : Hid ((s[k].toNat < 65 ∧ bigB s[k] = false) ∨ ((65 ≤ s[k].toNat ∧ s[k].toNat ≤ 90) ∧ bigB s[k] = true) ∨ (90 < s[k].toNat ∧ bigB s[k] = false)) := by
        show _ ∨ _ ∨ _
        unfold bigB
        rcases (show s[k].toNat < 65 ∨ (65 ≤ s[k].toNat ∧ s[k].toNat ≤ 90) ∨ 90 < s[k].toNat by omega) with h | h | h
        · left; exact ⟨h, by simp; omega⟩
        · right; left; exact ⟨h, by simp; omega⟩
        · right; right; exact ⟨h, by simp; omega⟩
      have hbyte := s[k].toNat_lt
      go_upto_region 7 with fail
      go_cut [11] (fun t wx => t = .bool (bigB s[k]) ∧ wx = w)
      case first =>
        rcases hbig.out with ⟨g, hg⟩ | ⟨⟨g, g'⟩, hg⟩ | ⟨g, hg⟩
        all_goals
          have hg' := Lib.hid hg
          clear hg hbig hpk H1 H2 cA cD cM
          go_wp2_with fail
          go_meet
          exact ⟨by rw [hg'.out]; try (simp; omega), rfl⟩
      case rest =>
        obtain ⟨rfl, rfl⟩ := hcut
        clear hbig hbyte
        generalize letterB s[k] = a at hpk cA
        generalize digB s[k] = d at hpk cD
        generalize amongB more.data.toList s[k] = m at hpk cM
        generalize bigB s[k] = g at hpk ⊢
        cases a
        · cases d
          · cases m
            · go_wp2_with fail
              refine cA.out.mono ?_
              rintro e w2 ⟨rfl, rfl⟩
              go_wp2_with fail
              refine cD.out.mono ?_
              rintro e w2 ⟨rfl, rfl⟩
              go_wp2_with fail
              refine cM.out.mono ?_
              rintro e w2 ⟨rfl, rfl⟩
              go_wp2
              go_ret
              exact RetB.of (H2.out (by rw [hpk.out]; rfl)).symm
            · cases g
              · go_wp2_with fail
                refine cA.out.mono ?_
                rintro e w2 ⟨rfl, rfl⟩
                go_wp2_with fail
                refine cD.out.mono ?_
                rintro e w2 ⟨rfl, rfl⟩
                go_wp2_with fail
                refine cM.out.mono ?_
                rintro e w2 ⟨rfl, rfl⟩
                go_wp2
                go_round
                case rel => exact ⟨k + 1, by omega, by omega, by go_num, H1.out (by rw [hpk.out]; rfl)⟩
                case measure => simp [intOf]; omega
              · cases small
                · go_wp2_with fail
                  refine cA.out.mono ?_
                  rintro e w2 ⟨rfl, rfl⟩
                  go_wp2_with fail
                  refine cD.out.mono ?_
                  rintro e w2 ⟨rfl, rfl⟩
                  go_wp2_with fail
                  refine cM.out.mono ?_
                  rintro e w2 ⟨rfl, rfl⟩
                  go_wp2
                  go_round
                  case rel => exact ⟨k + 1, by omega, by omega, by go_num, H1.out (by rw [hpk.out]; rfl)⟩
                  case measure => simp [intOf]; omega
                · go_wp2_with fail
                  refine cA.out.mono ?_
                  rintro e w2 ⟨rfl, rfl⟩
                  go_wp2_with fail
                  refine cD.out.mono ?_
                  rintro e w2 ⟨rfl, rfl⟩
                  go_wp2_with fail
                  refine cM.out.mono ?_
                  rintro e w2 ⟨rfl, rfl⟩
                  go_wp2
                  go_ret
                  exact RetB.of (H2.out (by rw [hpk.out]; rfl)).symm
          · cases g
            · go_wp2_with fail
              refine cA.out.mono ?_
              rintro e w2 ⟨rfl, rfl⟩
              go_wp2_with fail
              refine cD.out.mono ?_
              rintro e w2 ⟨rfl, rfl⟩
              go_wp2
              go_round
              case rel => exact ⟨k + 1, by omega, by omega, by go_num, H1.out (by rw [hpk.out]; rfl)⟩
              case measure => simp [intOf]; omega
            · cases small
              · go_wp2_with fail
                refine cA.out.mono ?_
                rintro e w2 ⟨rfl, rfl⟩
                go_wp2_with fail
                refine cD.out.mono ?_
                rintro e w2 ⟨rfl, rfl⟩
                go_wp2
                go_round
                case rel => exact ⟨k + 1, by omega, by omega, by go_num, H1.out (by rw [hpk.out]; rfl)⟩
                case measure => simp [intOf]; omega
              · go_wp2_with fail
                refine cA.out.mono ?_
                rintro e w2 ⟨rfl, rfl⟩
                go_wp2_with fail
                refine cD.out.mono ?_
                rintro e w2 ⟨rfl, rfl⟩
                go_wp2
                go_ret
                exact RetB.of (H2.out (by rw [hpk.out]; rfl)).symm
        · cases g
          · go_wp2_with fail
            refine cA.out.mono ?_
            rintro e w2 ⟨rfl, rfl⟩
            go_wp2
            go_round
            case rel => exact ⟨k + 1, by omega, by omega, by go_num, H1.out (by rw [hpk.out]; rfl)⟩
            case measure => simp [intOf]; omega
          · cases small
            · go_wp2_with fail
              refine cA.out.mono ?_
              rintro e w2 ⟨rfl, rfl⟩
              go_wp2
              go_round
              case rel => exact ⟨k + 1, by omega, by omega, by go_num, H1.out (by rw [hpk.out]; rfl)⟩
              case measure => simp [intOf]; omega
            · go_wp2_with fail
              refine cA.out.mono ?_
              rintro e w2 ⟨rfl, rfl⟩
              go_wp2
              go_ret
              exact RetB.of (H2.out (by rw [hpk.out]; rfl)).symm
    · obtain rfl : k = i := by omega
      have H := Lib.hid hall.out
      go_wp2
      go_ret
      exact RetB.of (by have := H.out; unfold Gone at this; simpa using this.symm)

def refMore (small : Bool) (more : List UInt8) : Prop := ∀ n, n < 256 → classB (!small) more (UInt8.ofNat n) = ((letterB (UInt8.ofNat n) || digB (UInt8.ofNat n) || amongB more (UInt8.ofNat n)) && !(bigB (UInt8.ofNat n) && small))

theorem named34 (s : ByteArray) (sign : UInt8) (small : Bool) (more : ByteArray) (w : World) (hs : s.size ≤ maxLen) (hmo : more.size ≤ maxLen) (hsg : sign.toNat ≠ 58) (hm : refMore small more.data.toList) :
    Calls Try.prog 34 #[.string s, .int .u8 sign.toNat, .bool small, .string more] w (RetB (namedB sign (classB (!small) more.data.toList) s.data.toList) w) := by
  have hl : s.data.toList.length = s.size := by simp
  have hlt := indexByte_lt s.data.toList 58
  have hge := Lib.indexByte_ge s.data.toList 58
  rw [named_eq sign hsg, hl]
  by_cases h : 255 < s.size
  · rw [if_pos h]; exact named34_long s sign small more w hs h
  · rw [if_neg h]
    by_cases hi : Lib.indexByte s.data.toList 58 < 2
    · rw [if_pos hi]; exact named34_none s sign small more w hs (by omega) hi
    · rw [if_neg hi]
      obtain ⟨i, hie⟩ : ∃ i : Nat, Lib.indexByte s.data.toList 58 = i := ⟨(Lib.indexByte s.data.toList 58).toNat, by omega⟩
      have h0 : 0 < s.size := by omega
      have hh : s.data.toList.head? = some s[0] := by
        rw [List.head?_eq_getElem?, List.getElem?_eq_getElem (by rw [hl]; exact h0)]; rfl
      rw [hh]
      by_cases hd : s[0] = sign
      · rw [if_pos (by rw [hd])]
        rw [hie, show ((i : Nat) : Int).toNat = i from rfl]
        cases hv : serverB (s.data.toList.drop (i + 1))
        · rw [if_neg (by decide)]
          exact named34_server s sign small more w hs (by omega) h0 i hie (by omega) (by omega) (by rw [hd]) hv
        · rw [if_pos rfl]
          exact named34_all s sign small more w hs (by omega) h0 i hie (by omega) (by omega) (by rw [hd]) hv hmo _ (each_byte hm)
      · rw [if_neg (by simpa using hd)]
        exact named34_sign s sign small more w hs (by omega) h0 (by omega) (fun e => hd (UInt8.toNat_inj.1 e))

set_option maxHeartbeats 1000000 in
theorem user16 (s : ByteArray) (w : World) (hs : s.size ≤ maxLen) : Calls Try.prog 16 #[.string s] w (RetB (userB s.data.toList) w) := by
  have cN : Hid (∀ w, Calls Try.prog 34 #[.string s, .int .u8 64, .bool true, .string ⟨#[46, 95, 61, 45, 47, 43]⟩] w (RetB (userB s.data.toList) w)) := fun w => named34 s 64 true ⟨#[46, 95, 61, 45, 47, 43]⟩ w hs (by unfold maxLen; decide) (by decide) (by unfold refMore; decide +kernel)
  generalize userB s.data.toList = r at cN ⊢
  clear hs
  go_enter Try.func16, Try.ntmps16
  go_wp2_with fail
  refine (cN.out _).mono ?_
  rintro e w2 ⟨rfl, rfl⟩
  go_wp2
  go_ret
  exact RetB.of rfl

set_option maxHeartbeats 1000000 in
theorem room18 (s : ByteArray) (w : World) (hs : s.size ≤ maxLen) : Calls Try.prog 18 #[.string s] w (RetB (roomB s.data.toList) w) := by
  have cN : Hid (∀ w, Calls Try.prog 34 #[.string s, .int .u8 33, .bool false, .string ⟨#[46, 95, 45]⟩] w (RetB (roomB s.data.toList) w)) := fun w => named34 s 33 false ⟨#[46, 95, 45]⟩ w hs (by unfold maxLen; decide) (by decide) (by unfold refMore; decide +kernel)
  generalize roomB s.data.toList = r at cN ⊢
  clear hs
  go_enter Try.func18, Try.ntmps18
  go_wp2_with fail
  refine (cN.out _).mono ?_
  rintro e w2 ⟨rfl, rfl⟩
  go_wp2
  go_ret
  exact RetB.of rfl
end Go.Proofs.Ytjdlpfkcikomfab
