/-
  The contracts of Start, Step, Accepts and Run of package nfa.
-/
import Derived.Test.YtmcogncpncfpmaaDoorStp
import Derived.Test.YtmcogncpncfpmaaDoorSam
namespace Go.Proofs.YtmcogncpncfpmaaDoor
open Go.RowKit

def zl (l : List Nat) : List Int := l.map Int.ofNat
theorem vals_zl (m : Nat) (l : List (Fin m)) : vals m l = ivals (zl (l.map (·.1))) := by
  unfold vals ivals zl; rw [List.map_map, List.map_map]; rfl
theorem zl_len (l : List Nat) : (zl l).length = l.length := by simp [zl]

theorem list_any (b m cap : Nat) (f : Nat → Bool) (hm : m ≤ 100000) (w : World) (hb : b < w.heap.size) (hI : RowB w b m f) :
    Calls Tryd.prog 19 #[.slice (some ⟨b, 0, none⟩) m cap] w (RetZ (zl (lstN f m)) w) := by
  refine (callsIn_wide (n := 3)).1 ((list_in Fence.wide 3 trivial trivial trivial rfl (Nat.le_refl _) b m cap f hm w hb (fun j hj => (hI j hj).1)).mono ?_)
  rintro e w' ⟨v, rfl, ho, hk⟩
  refine ⟨⟨v, rfl, ?_⟩, hk⟩
  rw [vals_zl, lstF_val f m m (Nat.le_refl _)] at ho
  have e : (lstF f m m).length = (zl (lstN f m)).length := by rw [← lstF_val f m m (Nat.le_refl _)]; simp [zl]
  rw [e] at ho
  exact ho

theorem step_any (P b cap : Nat) (N : List UInt8) (fo : Bool) (f : Nat → Bool) (c : UInt8) (hN : N.length ≤ 300) (w : World) (h : NfaAt w P N fo) (hr : RowB w b (N.length + 1) f) :
    Calls Tryd.prog 24 #[.pointer (some ⟨P, 0, none⟩), .slice (some ⟨b, 0, none⟩) (N.length + 1) cap, .int .u8 c.toNat] w fun e W' => (∃ v, e = .returned v ∧ IsSet w W' v (N.length + 1) (cloF N (stepL (foldL fo N) ((foldL fo [c]).getD 0 0) (lstN f (N.length + 1))))) ∧ Keeps w W' :=
  (callsIn_wide (n := 3)).1 ((step_in P b cap N fo f c hN w h hr).mono fun e w' h => by obtain ⟨v, h1, h2, h3⟩ := h; exact ⟨⟨v, h1, h2⟩, h3⟩)

/-- The states at the beginning; where a byte leads from a list of states. -/
def startL (N : List UInt8) : List Nat := lstN (cloF N (fun j => j == 0)) (N.length + 1)
def memZ (l : List Int) : Nat → Bool := fun j => l.any (fun z => z == (j : Int))
def stepS (N : List UInt8) (fo : Bool) (f : Nat → Bool) (c : UInt8) : Nat → Bool := cloF N (stepL (foldL fo N) ((foldL fo [c]).getD 0 0) (lstN f (N.length + 1)))
def stepZ (N : List UInt8) (fo : Bool) (l : List Int) (c : UInt8) : List Nat := lstN (stepS N fo (memZ l) c) (N.length + 1)

theorem ownsRow_less {w : World} {B B' : Nat} {e : TypeId} {size : Nat} {v : Value} {n : Nat} {xs : List Value} (h : w.ownsRow B e size v n xs) (hb : B' ≤ B) : w.ownsRow B' e size v n xs := by
  refine ⟨h.1, ?_⟩
  rcases h.2 with hn | ⟨g, cap, cur, h1, h2, h3⟩
  · exact .inl hn
  · exact .inr ⟨g, cap, cur, h1, by omega, h3⟩

theorem memZ_nil : memZ [] = fun _ => false := by funext j; simp [memZ]
theorem memZ_hit (l : List Int) (k : Nat) : memZ (l ++ [(k : Int)]) = upd (memZ l) k := by
  funext j
  simp only [memZ, List.any_append, List.any_cons, List.any_nil, Bool.or_false, upd]
  rw [Bool.or_comm]
  congr 1
  rw [Bool.eq_iff_iff]; simp; omega
theorem memZ_off (l : List Int) (z : Int) (m : Nat) (h : z < 0 ∨ (m : Int) ≤ z) : ∀ j, j < m → memZ l j = memZ (l ++ [z]) j := by
  intro j hj
  simp only [memZ, List.any_append, List.any_cons, List.any_nil, Bool.or_false]
  have : (z == (j : Int)) = false := by simp; omega
  rw [this, Bool.or_false]
theorem take_snocZ (l : List Int) (k : Nat) (h : k < l.length) : l.take (k + 1) = l.take k ++ [l.getD k 0] := by
  rw [List.take_succ_eq_append_getElem h]; simp [h]

set_option maxHeartbeats 1000000 in
theorem Start_any (P : Nat) (N : List UInt8) (fo : Bool) (w : World) (hN : N.length ≤ 300) (h : NfaAt w P N fo) : Calls Tryd.prog 8 #[.pointer (some ⟨P, 0, none⟩)] w (RetZ (zl (startL N)) w) := by
  have cM := Lib.hid (made_any P w h.c0)
  have cS := Lib.hid (start_any P N fo w hN h)
  have cL := Lib.hid (fun b cap f w1 => list_any b (N.length + 1) cap f (by omega) w1)
  unfold startL
  go_enter Tryd.func8, Tryd.ntmps8
  go_wp2_with fail
  refine cM.out.mono ?_
  rintro e w2 ⟨rfl, rfl⟩
  go_wp2_with fail
  refine cS.out.mono ?_
  rintro e w3 ⟨⟨v, rfl, B, c, rfl, hB, hr⟩, hk⟩
  have HR := Lib.hid hr
  have HK := Lib.hid hk
  have hlt := hr.lt (by omega)
  clear hr hk
  go_wp2_with fail
  refine (cL.out _ _ _ _ hlt HR.out).mono ?_
  rintro e w4 ⟨⟨v, rfl, ho⟩, hk⟩
  obtain ⟨A, c', rfl, _⟩ := IntsAt.own ho
  go_wp2
  go_ret
  exact ⟨⟨_, rfl, ownsRow_less ho HK.out.size⟩, Keeps.trans HK.out hk⟩

set_option maxHeartbeats 2000000 in
theorem Step_any (P : Nat) (N : List UInt8) (fo : Bool) (A : Option Addr) (cp : Nat) (zs : List Int) (c : UInt8) (w : World) (hN : N.length ≤ 300) (h : NfaAt w P N fo) (hz : IntsAt w A zs) (hl : zs.length ≤ 100000) :
    Calls Tryd.prog 12 #[.pointer (some ⟨P, 0, none⟩), .slice A zs.length cp, .int .u8 c.toNat] w (RetZ (zl (stepZ N fo zs c)) w) := by
  have cM := Lib.hid (made_any P w h.c0)
  have cN := Lib.hid (states_any P N fo w hN h)
  have cS := Lib.hid (fun b cap f w1 h1 h2 => step_any P b cap N fo f c hN w1 h1 h2)
  have cL := Lib.hid (fun b cap f w1 => list_any b (N.length + 1) cap f (by omega) w1)
  unfold stepZ stepS
  obtain ⟨W1, hmk, hrow, hk1⟩ := make_set 42 Tryd.underlying42 w (N.length + 1) (by omega)
  have hmk' := hmk ((N.length : Int) + 1) (by omega)
  have HM := Lib.hid (fun k => memZ_hit (zs.take k))
  have HO := Lib.hid (fun k z => memZ_off (zs.take k) z)
  have HS := Lib.hid (fun k hk => take_snocZ zs k hk)
  have HZ := Lib.hid hz
  have HH := Lib.hid h
  have HR := Lib.hid hrow
  have HE : Hid (memZ (zs.take zs.length) = memZ zs) := Lib.hid (by rw [List.take_length])
  have hm : N.length + 1 ≤ 301 := by omega
  have hm0 : 0 < N.length + 1 := by omega
  clear hmk h hz hrow hN
  generalize hn : zs.length = n at hl HS HE ⊢
  have HNN := Lib.hid hn
  clear hn
  generalize N.length + 1 = m at *
  go_enter Tryd.func12, Tryd.ntmps12
  go_wp2_with fail
  refine cM.out.mono ?_
  rintro e w2 ⟨rfl, rfl⟩
  go_wp2_with fail
  refine cN.out.mono ?_
  rintro e w3 ⟨rfl, rfl⟩
  go_wp2
  go_loopw [18] (fun i wr => ∃ k : Nat, k ≤ n ∧ i = .int .i64 k ∧ RowB wr w3.heap.size m (memZ (zs.take k)) ∧ Keeps w3 wr) (fun i _ => n - (intOf i).toNat)
  case atStart => exact ⟨0, Nat.zero_le _, rfl, by rw [List.take_zero, memZ_nil]; exact HR.out, hk1⟩
  case round =>
    obtain ⟨k, hk, rfl, hrow, hkp⟩ := hrel
    have HW := Lib.hid hrow
    clear hrow hmk' hk1
    by_cases hlt : k < n
    · obtain ⟨ad, rfl, c1⟩ := (HZ.out.keeps hkp) k (by rw [HNN.out]; exact hlt)
      have hsk := Lib.hid (HS.out k hlt)
      generalize zs.getD k 0 = z at c1 hsk
      have g : z < 0 ∨ (m : Int) ≤ z ∨ ∃ q : Nat, z = q ∧ q < m := by
        by_cases h1 : z < 0
        · exact .inl h1
        · by_cases h2 : (m : Int) ≤ z
          · exact .inr (.inl h2)
          · exact .inr (.inr ⟨z.toNat, by omega, by omega⟩)
      rcases g with g | g | ⟨q, rfl, g⟩
      · go_wp2
        go_roundw
        case rel => exact ⟨k + 1, by omega, by go_num, by rw [hsk.out]; exact HW.out.congr (HO.out k z m (.inl g)), hkp⟩
        case measure => simp [intOf]; omega
      · have g0 : 0 ≤ z := by omega
        go_wp2
        go_roundw
        case rel => exact ⟨k + 1, by omega, by go_num, by rw [hsk.out]; exact HW.out.congr (HO.out k z m (.inr g)), hkp⟩
        case measure => simp [intOf]; omega
      · have r1 := (HW.out q g).1
        have r2 := (HW.out q g).2
        generalize memZ (List.take k zs) q = b1 at r1
        go_wp2
        go_roundw
        case rel => exact ⟨k + 1, by omega, by go_num, by rw [hsk.out, HM.out]; exact HW.out.set g, hkp.setCell (p := ⟨w3.heap.size, q, none⟩) (Nat.le_refl _) _⟩
        case measure => simp [intOf]; omega
    · obtain rfl : k = n := by omega
      have hrl : RowB wr w3.heap.size m (memZ zs) := by rw [← HE.out]; exact HW.out
      have hNw := HH.out.keeps hkp
      have HN := Lib.hid hNw
      have HRL := Lib.hid hrl
      clear hrl hNw
      go_wp2_with fail
      refine (cS.out _ _ _ _ HN.out HRL.out).mono ?_
      rintro e w4 ⟨⟨v, rfl, B, c', rfl, hB, hr⟩, hk⟩
      have HR4 := Lib.hid hr
      have HK := Lib.hid (Keeps.trans hkp hk)
      have hlt4 := hr.lt hm0
      clear hr hk
      go_wp2_with fail
      refine (cL.out _ _ _ _ hlt4 HR4.out).mono ?_
      rintro e w5 ⟨⟨v, rfl, ho⟩, hk5⟩
      obtain ⟨A', c'', rfl, _⟩ := IntsAt.own ho
      go_wp2
      go_ret
      exact ⟨⟨_, rfl, ownsRow_less ho HK.out.size⟩, Keeps.trans HK.out hk5⟩

set_option maxHeartbeats 1000000 in
theorem Accepts_any (P : Nat) (N : List UInt8) (fo : Bool) (A : Option Addr) (cp : Nat) (zs : List Int) (w : World) (hN : N.length ≤ 300) (h : NfaAt w P N fo) (hz : IntsAt w A zs) (hl : zs.length ≤ 100000) :
    Calls Tryd.prog 9 #[.pointer (some ⟨P, 0, none⟩), .slice A zs.length cp] w (RetQ (memZ zs N.length) w) := by
  have cM := Lib.hid (made_any P w h.c0)
  have h1 := h.c1
  have hs := S_size N
  rw [← hs] at hN ⊢
  generalize S N = s at *
  clear hs h
  have HS := Lib.hid (fun k hk => take_snocZ zs k hk)
  have HE : Hid (memZ (zs.take zs.length) = memZ zs) := Lib.hid (by rw [List.take_length])
  have HZ := Lib.hid hz
  have h0 : memZ (zs.take 0) s.size = false := by simp [memZ]
  have hit : Hid (∀ k, k < zs.length → zs.getD k 0 = (s.size : Int) → memZ zs s.size = true) := Lib.hid (fun k hk e => by
    unfold memZ
    rw [List.any_eq_true]
    exact ⟨zs.getD k 0, by rw [List.getD_eq_getElem?_getD, List.getElem?_eq_getElem hk]; exact List.getElem_mem _, by simp only [e]; simp⟩)
  have hmi : Hid (∀ l (z : Int), memZ l s.size = false → z ≠ (s.size : Int) → memZ (l ++ [z]) s.size = false) := Lib.hid (fun l z e1 e2 => by
    unfold memZ at e1 ⊢
    rw [List.any_append, e1]
    simp [e2])
  clear hz
  generalize hn : zs.length = n at hl HS HE hit ⊢
  have HNN := Lib.hid hn
  clear hn
  have H0 := Lib.hid h0
  clear h0
  go_enter Tryd.func9, Tryd.ntmps9
  go_wp2_with fail
  refine cM.out.mono ?_
  rintro e w2 ⟨rfl, rfl⟩
  go_wp2
  go_loopw [12] (fun i wr => ∃ k : Nat, k ≤ n ∧ i = .int .i64 k ∧ memZ (zs.take k) s.size = false ∧ wr = w2) (fun i _ => n - (intOf i).toNat)
  case atStart => exact ⟨0, Nat.zero_le _, rfl, H0.out, rfl⟩
  case round =>
    obtain ⟨k, hk, rfl, hf, rfl⟩ := hrel
    have HF := Lib.hid hf
    clear hf
    by_cases hlt : k < n
    · obtain ⟨ad, rfl, c1⟩ := HZ.out k (by rw [HNN.out]; exact hlt)
      have hsk := Lib.hid (HS.out k hlt)
      have hik := Lib.hid (hit.out k hlt)
      generalize zs.getD k 0 = z at c1 hsk hik
      by_cases hzs : z = (s.size : Int)
      · subst hzs
        go_wp2
        go_ret
        exact RetQ.of (hik.out trivial).symm (Keeps.refl _)
      · go_wp2
        go_roundw
        case rel => exact ⟨k + 1, by omega, by go_num, by rw [hsk.out]; exact hmi.out _ _ HF.out hzs, trivial⟩
        case measure => simp [intOf]; omega
    · obtain rfl : k = n := by omega
      go_wp2
      go_ret
      exact RetQ.of (by rw [← HE.out, HF.out]) (Keeps.refl _)
end Go.Proofs.YtmcogncpncfpmaaDoor
