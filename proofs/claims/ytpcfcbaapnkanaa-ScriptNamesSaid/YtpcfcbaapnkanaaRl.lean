/-
  The reader's list, of numbers.
-/
import Derived.Test.YtpcfcbaapnkanaaRx
namespace Go.Proofs.Ytpcfcbaapnkanaa
open Go.RowKit

theorem PS.listR_more {α : Type} (p : PS.Rd α) : ∀ (k : Nat) (l : List UInt8) (xs : List α) (r : List UInt8) (a : α) (r2 : List UInt8), PS.listR p k l = .ok (xs, r) → p r = .ok (a, r2) → PS.listR p (k + 1) l = .ok (xs ++ [a], r2)
  | 0, l, xs, r, a, r2, h, hp => by
    injection h with h
    injection h with h1 h2
    subst h1 h2
    simp [PS.listR, PS.Rd.bind, PS.Rd.pure, hp]
  | k + 1, l, xs, r, a, r2, h, hp => by
    obtain ⟨b, l1, h1, h2⟩ := PS.bind_ok h
    obtain ⟨t, l2, h3, h4⟩ := PS.bind_ok h2
    injection h4 with h4
    injection h4 with h5 h6
    subst h5 h6
    have h7 := PS.listR_more p k l1 t l2 a r2 h3 hp
    show PS.Rd.bind p _ l = _
    unfold PS.Rd.bind
    rw [h1]
    simp only
    rw [h7]
    rfl
theorem PS.listR_stop {α : Type} (p : PS.Rd α) (e : Int) : ∀ (k : Nat) (l : List UInt8) (xs : List α) (r : List UInt8), PS.listR p k l = .ok (xs, r) → p r = .error e → ∀ m, PS.listR p (k + m + 1) l = .error e
  | 0, l, xs, r, h, hp, m => by
    injection h with h
    injection h with h1 h2
    subst h1 h2
    simp [PS.listR, PS.Rd.bind, hp]
  | k + 1, l, xs, r, h, hp, m => by
    obtain ⟨b, l1, h1, h2⟩ := PS.bind_ok h
    obtain ⟨t, l2, h3, h4⟩ := PS.bind_ok h2
    injection h4 with h4
    injection h4 with h5 h6
    subst h5 h6
    have h7 := PS.listR_stop p e k l1 t l2 h3 hp m
    have e2 : k + 1 + m + 1 = (k + m + 1) + 1 := by omega
    rw [e2]
    show PS.Rd.bind p _ l = _
    unfold PS.Rd.bind
    rw [h1]
    simp only
    rw [h7]
theorem PS.numR_len {l r : List UInt8} {n : Nat} (h : PS.numR l = .ok (n, r)) : r.length ≤ l.length := by
  rw [(PS.num_back h).1, List.length_append]; omega

theorem HasRest.blk {w w' : World} {g : Nat} {s : ByteArray} (h : HasRest w g s) (e : w'.heap[g]? = w.heap[g]?) : HasRest w' g s := by
  obtain ⟨h1, h2⟩ := h
  unfold HasRest World.cell? World.frozen? at *
  simp only at h1 h2 ⊢
  rw [e]
  exact ⟨h1, h2⟩
theorem Only.grown {g : Nat} {a b c : World} {row : Option Nat} (h : Only g a b) (k : b.grownBy c row) (hr : ∀ i, row = some i → a.heap.size ≤ i) : Only g a c :=
  ⟨k.os.trans h.os, k.tape.trans h.tape, k.output.trans h.output, Nat.le_trans h.size k.size, fun i hi hx => (k.block i (Nat.lt_of_lt_of_le hi h.size) fun e => by
    have := hr i e.symm
    omega).trans (h.block i hi hx)⟩
theorem HasRest.grown {w w' : World} {g B e s n : Nat} {t : ByteArray} {v : Value} {xs : List Value} (h : HasRest w g t) (ho : w.ownsRow B e s v n xs) (hB : g < B) (k : w.grownBy w' v.ownBlock) : HasRest w' g t :=
  h.blk (k.block g h.lt fun e2 => by
    have := (World.ownsRow.lt ho g e2.symm).1
    omega)
theorem cell_int (w : World) (x : Int) : ∀ j u, ([Value.int .i64 x] : List Value)[j]? = some u → (w.alloc (.cells #[.int .i64 x] 3)).cell? ((⟨w.heap.size, 0, none⟩ : Addr).add j) = some u := by
  intro j u hj
  have ea : (⟨w.heap.size, 0, none⟩ : Addr).add j = ⟨w.heap.size, j, none⟩ := by
    unfold Addr.add; split <;> simp_all
  rw [ea, World.cell?_alloc_at _ _ _ _ rfl]
  simpa using hj
/-- Cuts that were read. -/
def Vc (B : Nat) (xs : List Nat) (w : World) (v : Value) : Prop := CutRow w B v (xs.map Int.ofNat)

set_option maxHeartbeats 4000000 in
set_option maxRecDepth 100000 in
theorem listI_any (g n : Nat) (l : List UInt8) (w : World) (hs : l.length ≤ 6000000) (hn : n ≤ 70000) (h : HasRest w g (S l)) :
    Calls Try.prog 62 #[.int .i64 n, .func (.func 46) #[.pointer (some ⟨g, 0, none⟩)] #[]] w (Rds (PS.listR PS.numR n) (Vc w.heap.size) g l w) := by
  have hgl := h.lt
  have cN := Lib.hid (fun wx r (hr : r.length ≤ 6000000) hx => numS_any g r wx hr hx)
  have H0 := Lib.hid h
  obtain ⟨i0, hi, hz0, hz1, hz2⟩ := info_parts info3
  clear h
  go_enter Try.func62, Try.ntmps62
  go_wp2
  go_loopg [5, 7] (n + 1) (fun gg v i wr => ∃ k : Nat, i = .int .i64 (k : Int) ∧ k ≤ n ∧ n - k < gg ∧ Hid (∃ xs r, PS.listR PS.numR k l = .ok (xs, r) ∧ CutRow wr w.heap.size v (xs.map Int.ofNat) ∧ HasRest wr g (S r) ∧ Only g w wr ∧ xs.length = k ∧ r.length ≤ 6000000))
  case atStart => exact ⟨0, rfl, Nat.zero_le _, by omega, Lib.hid ⟨[], l, rfl, SRow.nil _ _ _ _ _, H0.out, Only.refl _ _, rfl, hs⟩⟩
  case round =>
    obtain ⟨k, rfl, hkL, hkg, hI⟩ := hrel
    obtain ⟨xs, r, hp, hrow, hrest, honly, hxl, hrl⟩ := hI.out
    by_cases hlt : k < n
    · have c1 := Lib.hid (cN.out wr r hrl hrest)
      have HP := Lib.hid hp
      have HRow := Lib.hid hrow
      have HOn := Lib.hid honly
      have HXL := Lib.hid hxl
      have HRL := Lib.hid hrl
      have f1 : decide ((k : Int) < (n : Int)) = true := by simp; omega
      have f1' : decide (k < n) = true := by simpa using hlt
      clear hI hp hrow hrest honly hxl hrl
      cases hq : PS.numR r with
      | error e =>
        have HE := Lib.hid hq
        have HST := Lib.hid (by
          have := PS.listR_stop PS.numR e k l xs r HP.out hq (n - k - 1)
          rwa [show k + (n - k - 1) + 1 = n by omega] at this)
        clear hq
        go_wp2_with fail
        refine c1.out.mono ?_
        rintro e2 w2 hR
        obtain ⟨ho, rfl⟩ := Rds.of_error HE.out hR
        have HO := Lib.hid (HOn.out.trans ho)
        clear hR ho
        go_wp2
        exact ⟨rfl, Rds.fault (V := Vc w.heap.size) HST.out HO.out⟩
      | ok q =>
        obtain ⟨a, r2⟩ := q
        have HE := Lib.hid hq
        have HMO := Lib.hid (PS.listR_more PS.numR k l xs r a r2 HP.out hq)
        clear hq
        go_wp2_with fail
        refine c1.out.mono ?_
        rintro e2 w2 hR
        obtain ⟨ho, v, rfl, rfl, hr⟩ := Rds.of_ok HE.out hR
        have HO := Lib.hid (HOn.out.trans ho)
        have hR2 := Lib.hid hr
        have RA := Lib.hid (World.ownsRow.alloc (ho.row HRow.out hgl) (.cells #[.int .i64 (a : Int)] 3))
        have HS2 := Lib.hid HO.out.size
        clear hR ho hr
        go_wp2_with (at_builtin; refine wpList_append_own _ rfl (.tmp 9) (.tmp 12) 29 rfl w.heap.size 3 i0 (.int .i64 0) 1 8 Try.underlying29 hi hz0 hz1 hz2 rfl (by decide) _ _ _ rfl RA.out ⟨w2.heap.size, 0, none⟩ 1 1 [.int .i64 (a : Int)] rfl rfl ?c1 ?c2 ?c3 ?c4 ?c5 ?_)
        case c1 => exact cell_int w2 a
        case c2 => intro u hu; simp at hu; subst hu; rfl
        case c3 => have := HXL.out; simp; unfold maxLen; omega
        case c4 => have := HXL.out; simp; omega
        case c5 => have := HS2.out; simp; omega
        intro v3 w3 hown hgrow hjunk
        clear hjunk
        have HO3 := Lib.hid ((HO.out.alloc (.cells #[.int .i64 (a : Int)] 3)).grown hgrow (fun q hq => (World.ownsRow.lt RA.out q hq).1))
        have HR3 := Lib.hid ((hR2.out.alloc (.cells #[.int .i64 (a : Int)] 3)).grown RA.out hgl hgrow)
        have HC3 : Hid (CutRow w3 w.heap.size v3 ((xs ++ [a]).map Int.ofNat)) := Lib.hid (by
          unfold CutRow SRow at *
          have e1 : ((xs ++ [a]).map Int.ofNat).length = (xs.map Int.ofNat).length + 1 := by simp
          rw [e1, List.map_append, flatF_app, List.length_map]
          exact hown)
        clear hown hgrow
        go_wp2
        cases gk with
        | zero => omega
        | succ g2 =>
          go_roundg g2
          case measure => omega
          case rel => exact ⟨k + 1, by go_num, by omega, by omega, Lib.hid ⟨xs ++ [a], r2, HMO.out, HC3.out, HR3.out, HO3.out, by simp [HXL.out], Nat.le_trans (PS.numR_len HE.out) HRL.out⟩⟩
    · obtain rfl : k = n := by omega
      have HX := Lib.hid (Rds.ok (p := PS.listR PS.numR k) (V := Vc w.heap.size) hp honly hrow hrest)
      have f1 : decide ((k : Int) < (k : Int)) = false := by simp
      have f1' : decide (k < k) = false := by simp
      clear hI hp hrow hrest honly hxl hrl
      go_wp2
      go_ret
      exact HX.out
end Go.Proofs.Ytpcfcbaapnkanaa
