/-
  The contracts of the document's own answers on identifiers: host, port, Server, named, User, Room.
-/
import Derived.Test.YtjdlpfkcikomfabRef
namespace Go.Proofs.Ytjdlpfkcikomfab
open Go.RowKit

theorem class_parts (more : List UInt8) (hm : ∀ n, n < 256 → classB true more (UInt8.ofNat n) = (letterB (UInt8.ofNat n) || digB (UInt8.ofNat n) || amongB more (UInt8.ofNat n))) (c : UInt8) :
    classB true more c = (letterB c || digB c || amongB more c) := each_byte (p := fun c => classB true more c = (letterB c || digB c || amongB more c)) hm c

set_option maxHeartbeats 2000000 in
theorem host31 (s : ByteArray) (w : World) (hs : s.size ≤ maxLen) : Calls Try.prog 31 #[.string s] w (RetB (hostB s.data.toList) w) := by
  have hcp := Lib.hid (class_parts [46, 45] (by decide +kernel))
  have hh : Hid (hostB s.data.toList = ofB (classB true [46, 45]) s.data.toList) := rfl
  unfold maxLen at hs
  go_enter Try.func31, Try.ntmps31
  go_wp2
  go_loop [3] (fun i => ∃ k : Nat, k ≤ s.size ∧ i = .int .i64 k ∧ Hid ((s.data.toList.take k).all (classB true [46, 45]) = true)) (fun i => s.size - (intOf i).toNat)
  case atStart => exact ⟨0, Nat.zero_le _, rfl, rfl⟩
  case round =>
    obtain ⟨k, hk, rfl, hall⟩ := hrel
    by_cases hlt : k < s.size
    · have H1 : Hid (classB true [46, 45] s[k] = true → (s.data.toList.take (k + 1)).all (classB true [46, 45]) = true) := fun h => all_step hlt hall.out h
      have H2 : Hid (classB true [46, 45] s[k] = false → ofB (classB true [46, 45]) s.data.toList = false) := fun h => ofB_stop hlt h
      have hp := Lib.hid (hcp.out s[k])
      have cA := Lib.hid (letter_any s[k] w)
      have cD := Lib.hid (digit37 s[k] w)
      have cM : Hid (Calls Try.prog 38 #[.int .u8 s[k].toNat, .string ⟨#[46, 45]⟩] w (RetB (amongB [46, 45] s[k]) w)) := among_any ⟨#[46, 45]⟩ s[k] w (by unfold maxLen; decide)
      generalize letterB s[k] = a at hp cA
      generalize digB s[k] = d at hp cD
      generalize amongB [46, 45] s[k] = m at hp cM
      cases a
      · cases d
        · cases m
          · go_wp2_with fail
            refine cA.out.mono ?_
            rintro e w2 ⟨rfl, rfl⟩
            go_wp2_with fail
            refine cD.out.mono ?_
            rintro e w2 ⟨rfl, rfl⟩
            go_wp2_with fail
            refine cM.out.mono ?_
            rintro e w2 ⟨rfl, rfl⟩
            go_wp2
            go_ret
            exact RetB.of (by rw [hh.out, H2.out (by rw [hp.out]; rfl)])
          · go_wp2_with fail
            refine cA.out.mono ?_
            rintro e w2 ⟨rfl, rfl⟩
            go_wp2_with fail
            refine cD.out.mono ?_
            rintro e w2 ⟨rfl, rfl⟩
            go_wp2_with fail
            refine cM.out.mono ?_
            rintro e w2 ⟨rfl, rfl⟩
            go_wp2
            go_round
            case rel => exact ⟨k + 1, by omega, by go_num, H1.out (by rw [hp.out]; rfl)⟩
            case measure => simp [intOf]; omega
        · go_wp2_with fail
          refine cA.out.mono ?_
          rintro e w2 ⟨rfl, rfl⟩
          go_wp2_with fail
          refine cD.out.mono ?_
          rintro e w2 ⟨rfl, rfl⟩
          go_wp2
          go_round
          case rel => exact ⟨k + 1, by omega, by go_num, H1.out (by rw [hp.out]; rfl)⟩
          case measure => simp [intOf]; omega
      · go_wp2_with fail
        refine cA.out.mono ?_
        rintro e w2 ⟨rfl, rfl⟩
        go_wp2
        go_round
        case rel => exact ⟨k + 1, by omega, by go_num, H1.out (by rw [hp.out]; rfl)⟩
        case measure => simp [intOf]; omega
    · have H := Lib.hid (ofB_last hlt hall.out)
      go_wp2
      go_ret
      exact RetB.of (by rw [hh.out]; exact H.out)

def portB (l : List UInt8) : Bool := if l.length ≤ 5 then ofB digB l else false
theorem port_last {s : ByteArray} {k : Nat} (h : ¬ k < s.size) (h1 : (s.data.toList.take k).all digB = true) : (decide ((1 : Int) ≤ (s.size : Int)) && decide ((s.size : Int) ≤ 5)) = portB s.data.toList := by
  have := ofB_last h h1
  have hl : s.data.toList.length = s.size := by simp
  have he : (!s.toList.isEmpty) = decide ((1 : Int) ≤ (s.size : Int)) := by
    rw [ByteArray.toList_eq]
    cases hd : s.data.toList with
    | nil => rw [hd] at hl; simp at hl; simp; omega
    | cons a l => rw [hd] at hl; simp at hl; simp; omega
  unfold portB
  rw [← this, he, hl]
  by_cases h5 : s.size ≤ 5
  · rw [if_pos h5]; simp; omega
  · rw [if_neg h5]; simp; omega

set_option maxHeartbeats 2000000 in
theorem port32 (s : ByteArray) (w : World) (hs : s.size ≤ maxLen) : Calls Try.prog 32 #[.string s] w (RetB (portB s.data.toList) w) := by
  unfold maxLen at hs
  go_enter Try.func32, Try.ntmps32
  go_wp2
  go_loop [3] (fun i => ∃ k : Nat, k ≤ s.size ∧ i = .int .i64 k ∧ Hid ((s.data.toList.take k).all digB = true)) (fun i => s.size - (intOf i).toNat)
  case atStart => exact ⟨0, Nat.zero_le _, rfl, rfl⟩
  case round =>
    obtain ⟨k, hk, rfl, hall⟩ := hrel
    by_cases hlt : k < s.size
    · have cD := Lib.hid (digit37 s[k] w)
      cases hd : digB s[k]
      · have H := Lib.hid (ofB_stop hlt hd)
        rw [hd] at cD
        clear hd
        go_wp2_with fail
        refine cD.out.mono ?_
        rintro e w2 ⟨rfl, rfl⟩
        go_wp2
        go_ret
        exact RetB.of (by unfold portB; rw [H.out]; simp)
      · have H := Lib.hid (all_step hlt hall.out hd)
        rw [hd] at cD
        clear hd
        go_wp2_with fail
        refine cD.out.mono ?_
        rintro e w2 ⟨rfl, rfl⟩
        go_wp2
        go_round
        case rel => exact ⟨k + 1, by omega, by go_num, H⟩
        case measure => simp [intOf]; omega
    · have H := Lib.hid (port_last hlt hall.out)
      by_cases h1 : 1 ≤ s.size
      · go_wp2
        go_ret
        exact RetB.of (by rw [← H.out, decide_eq_true (show (1 : Int) ≤ (s.size : Int) by omega)]; rfl)
      · go_wp2
        go_ret
        exact RetB.of (by rw [← H.out, decide_eq_false (show ¬ (1 : Int) ≤ (s.size : Int) by omega)]; rfl)

theorem server_eq (l : List UInt8) : serverB l = if 128 < l.length then false else if Lib.indexByte l 58 < 0 then hostB l else if hostB (l.take (Lib.indexByte l 58).toNat) = true then portB (l.drop ((Lib.indexByte l 58).toNat + 1)) else false := by
  unfold serverB cutC portB
  by_cases h : 128 < l.length
  · rw [if_pos h, if_pos h]
  · rw [if_neg h, if_neg h]
    by_cases hi : 0 ≤ Lib.indexByte l 58
    · rw [if_neg (show ¬ Lib.indexByte l 58 < 0 by omega)]
      simp only [if_pos hi]
      by_cases h1 : hostB (l.take (Lib.indexByte l 58).toNat) = true
      · by_cases h2 : (l.drop ((Lib.indexByte l 58).toNat + 1)).length ≤ 5
        · rw [if_pos trivial, if_pos ⟨h1, h2⟩, if_pos h1, if_pos h2]
        · rw [if_pos trivial, if_neg (fun h => h2 h.2), if_pos h1, if_neg h2]
      · rw [if_pos trivial, if_neg (fun h => h1 h.1), if_neg h1]
    · rw [if_pos (show Lib.indexByte l 58 < 0 by omega)]
      simp only [if_neg hi]
      simp

set_option maxHeartbeats 2000000 in
theorem server14 (s : ByteArray) (w : World) (hs : s.size ≤ maxLen) : Calls Try.prog 14 #[.string s] w (RetB (serverB s.data.toList) w) := by
  have hl : s.data.toList.length = s.size := by simp
  have cC := Lib.hid (fun w => colon30 s w hs)
  have hlt := indexByte_lt s.data.toList 58
  have hge := Lib.indexByte_ge s.data.toList 58
  rw [server_eq, hl]
  by_cases h1 : 128 < s.size
  · rw [if_pos h1]
    unfold maxLen at hs
    clear hlt hge hl cC
    go_enter Try.func14, Try.ntmps14
    go_wp2
    go_ret
    exact RetB.of rfl
  · rw [if_neg h1]
    by_cases hi : Lib.indexByte s.data.toList 58 < 0
    · rw [if_pos hi]
      have hm : Lib.indexByte s.data.toList 58 = -1 := by omega
      rw [hm] at cC
      have cH := Lib.hid (fun w => host31 s w hs)
      generalize hostB s.data.toList = r at cH ⊢
      clear hlt hge hl hi hm hs
      go_enter Try.func14, Try.ntmps14
      go_wp2_with fail
      refine (cC.out _).mono ?_
      rintro e w2 ⟨rfl, rfl⟩
      go_wp2_with fail
      refine (cH.out _).mono ?_
      rintro e w2 ⟨rfl, rfl⟩
      go_wp2
      go_ret
      exact RetB.of rfl
    · rw [if_neg hi]
      obtain ⟨i, hie⟩ : ∃ i : Nat, Lib.indexByte s.data.toList 58 = i := ⟨(Lib.indexByte s.data.toList 58).toNat, by omega⟩
      rw [hie] at cC hlt ⊢
      have his : i < s.size := by omega
      have e1 : (s.extract 0 i).data.toList = s.data.toList.take i := Lib.extract_from_zero s i
      have e2 : (s.extract (i + 1) s.size).data.toList = s.data.toList.drop (i + 1) := Lib.extract_to_end s (i + 1)
      have cH : Hid (∀ w, Calls Try.prog 31 #[.string (s.extract 0 i)] w (RetB (hostB (s.data.toList.take i)) w)) := fun w => by rw [← e1]; exact host31 _ w (by simp only [ByteArray.size_extract]; omega)
      have cP : Hid (∀ w, Calls Try.prog 32 #[.string (s.extract (i + 1) s.size)] w (RetB (portB (s.data.toList.drop (i + 1))) w)) := fun w => by rw [← e2]; exact port32 _ w (by simp only [ByteArray.size_extract]; omega)
      rw [show ((i : Nat) : Int).toNat = i from rfl]
      generalize hostB (s.data.toList.take i) = r at cH ⊢
      generalize portB (s.data.toList.drop (i + 1)) = q at cP ⊢
      have c1 : (0 : Int) ≤ i := by omega
      have c2 : (i : Int) ≤ s.size := by omega
      have c3 : (0 : Int) ≤ (i : Int) + 1 := by omega
      have c4 : (i : Int) + 1 ≤ s.size := by omega
      unfold maxLen at hs
      clear e1 e2 hlt hge hl hi hie
      cases r
      · rw [if_neg (by decide)]
        go_enter Try.func14, Try.ntmps14
        go_wp2_with fail
        refine (cC.out _).mono ?_
        rintro e w2 ⟨rfl, rfl⟩
        go_wp2_with fail
        refine (cH.out _).mono ?_
        rintro e w2 ⟨rfl, rfl⟩
        go_wp2
        go_ret
        exact RetB.of rfl
      · rw [if_pos rfl]
        go_enter Try.func14, Try.ntmps14
        go_wp2_with fail
        refine (cC.out _).mono ?_
        rintro e w2 ⟨rfl, rfl⟩
        go_wp2_with fail
        refine (cH.out _).mono ?_
        rintro e w2 ⟨rfl, rfl⟩
        go_wp2_with fail
        refine (cP.out _).mono ?_
        rintro e w2 ⟨rfl, rfl⟩
        go_wp2
        go_ret
        exact RetB.of rfl
end Go.Proofs.Ytjdlpfkcikomfab
