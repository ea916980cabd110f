/-
  Are the texts few and short enough? A slice of texts, read and left as it was.
-/
import Derived.Test.YtolfpkjohlbfdaaDoorLiv
namespace Go.Proofs.YtolfpkjohlbfdaaDoor
open Go.RowKit

/-- The slice at A holds the texts ss. -/
def TextsAt (w : World) (A : Addr) (ss : List ByteArray) : Prop := ∀ k, k < ss.length → w.cell? (A.add k) = some (.string (ss.getD k ByteArray.empty))
theorem TextsAt.keeps {w w' : World} {A : Addr} {ss : List ByteArray} (h : TextsAt w A ss) (k : Keeps w w') : TextsAt w' A ss := fun j hj => k.cell (h j hj)
theorem getD_mem' (ss : List ByteArray) (k : Nat) (h : k < ss.length) : ss.getD k ByteArray.empty ∈ ss := by
  rw [List.getD_eq_getElem?_getD, List.getElem?_eq_getElem h]; exact List.getElem_mem _
theorem take_all (ss : List ByteArray) (m k : Nat) (h : k < ss.length) (h1 : (ss.take k).all (fun s => decide (s.size ≤ m)) = true) (h2 : (ss.getD k ByteArray.empty).size ≤ m) : (ss.take (k + 1)).all (fun s => decide (s.size ≤ m)) = true := by
  rw [List.take_succ_eq_append_getElem h, List.all_append, h1]
  simp [h] at h2
  simp [h2]

def lightB (ss : List ByteArray) (n m : Nat) : Bool := ss.all (fun s => decide (s.size ≤ m)) && decide (ss.length ≤ n)

set_option maxHeartbeats 1000000 in
theorem texts_any (ss : List ByteArray) (A : Addr) (c n m : Nat) (w : World) (hn : n ≤ 100000) (hm : m ≤ 100000) (hl : ss.length ≤ 100000) (hs : ∀ s ∈ ss, s.size ≤ maxLen) (h : TextsAt w A ss) :
    Calls Tryd.prog 30 #[.slice (some A) ss.length c, .int .i64 n, .int .i64 m] w (RetQ (lightB ss n m) w) := by
  have hT := Lib.hid h
  have hS := Lib.hid (fun k (hk : k < ss.length) => hs _ (getD_mem' ss k hk))
  have hN : Hid (∀ k, k < ss.length → m < (ss.getD k ByteArray.empty).size → lightB ss n m = false) := Lib.hid (fun k hk hlt => by
    have hf : ss.all (fun s => decide (s.size ≤ m)) = false := by
      rw [List.all_eq_false]
      exact ⟨_, getD_mem' ss k hk, by rw [decide_eq_true_eq]; omega⟩
    unfold lightB; rw [hf]; rfl)
  have hY : Hid ((ss.take ss.length).all (fun s => decide (s.size ≤ m)) = true → lightB ss n m = decide (ss.length ≤ n)) := Lib.hid (fun e => by
    rw [List.take_length] at e
    unfold lightB; rw [e]; rfl)
  have hE := Lib.hid (fun k hk => take_all ss m k hk)
  have h0 : Hid ((ss.take 0).all (fun s => decide (s.size ≤ m)) = true) := Lib.hid (by simp)
  clear h hs
  unfold maxLen at hS
  generalize lightB ss n m = b at hN hY ⊢
  generalize hz : ss.length = z at *
  go_enter Tryd.func30, Tryd.ntmps30
  go_wp2
  go_loopw [7] (fun i wr => ∃ k : Nat, k ≤ z ∧ i = .int .i64 k ∧ Hid ((ss.take k).all (fun s => decide (s.size ≤ m)) = true) ∧ Keeps w wr) (fun i _ => z - (intOf i).toNat)
  case atStart => exact ⟨0, Nat.zero_le _, rfl, h0, Keeps.refl _⟩
  case round =>
    obtain ⟨k, hk, rfl, ha, hkp⟩ := hrel
    have HK := Lib.hid hkp
    by_cases hkz : k < z
    · have hc := (hT.out.keeps hkp) k (by omega)
      have hsz := hS.out k (by omega)
      have hE1 := Lib.hid (hE.out k (by omega) ha.out)
      have hN1 := Lib.hid (hN.out k (by omega))
      clear hkp
      generalize ss.getD k ByteArray.empty = s at hc hsz hE1 hN1
      by_cases hgt : m < s.size
      · go_wp2
        go_ret
        exact RetQ.of (hN1.out hgt).symm HK.out
      · go_wp2
        go_roundw
        case rel => exact ⟨k + 1, by omega, by go_num, Lib.hid (hE1.out (by omega)), HK.out⟩
        case measure => simp [intOf]; omega
    · obtain rfl : k = z := by omega
      have hb := Lib.hid (hY.out ha.out)
      clear hkp
      go_wp2
      go_ret
      exact RetQ.of (by first | (rw [hb.out]; done) | (rw [hb.out]; simp)) HK.out

set_option maxHeartbeats 1000000 in
theorem light_any (ss : List ByteArray) (A : Addr) (c : Nat) (w : World) (hl : ss.length ≤ 100000) (hs : ∀ s ∈ ss, s.size ≤ maxLen) (h : TextsAt w A ss) :
    Calls Tryd.prog 15 #[.slice (some A) ss.length c] w (RetQ (lightB ss 4 300) w) := by
  have cT : Hid (Calls Tryd.prog 30 #[.slice (some A) ss.length c, .int .i64 4, .int .i64 300] w (RetQ (lightB ss 4 300) w)) := Lib.hid (texts_any ss A c 4 300 w (by omega) (by omega) hl hs h)
  clear h hs hl
  generalize lightB ss 4 300 = b at cT ⊢
  generalize ss.length = z at cT ⊢
  go_enter Tryd.func15, Tryd.ntmps15
  go_wp2_with fail
  refine cT.out.mono ?_
  rintro e w2 ⟨rfl, h⟩
  go_wp2
  go_ret
  exact RetQ.of rfl h
end Go.Proofs.YtolfpkjohlbfdaaDoor
