/-
  The closure that reads a value by its first byte, of package json.
-/
import Derived.Test.YtljkeladdplhlaaDoorIns
namespace Go.Proofs.YtljkeladdplhlaaDoor
open Go.RowKit

theorem RetJ.base {r : Nat} {s : ByteArray} {a : Nat} {w w1 w2 : World} {p : JR} {e : Ending} (k : Keeps w w1) (h : RetJ r s a w1 p e w2) : RetJ r s a w p e w2 := by
  obtain ⟨ho, h1, h2⟩ := h
  refine ⟨((Only.refl [r] w).keeps k).trans ho, fun hp => ?_, h2⟩
  obtain ⟨v, hv, hj, hd⟩ := h1 hp
  exact ⟨v, hv, IsJ.mono (fun i hi => ⟨Nat.le_trans k.size hi.1, hi.2⟩) _ _ hj, hd⟩

theorem RetJ.wrap2 {r g : Nat} {s : ByteArray} {a : Nat} {w w1 w2 : World} {p : JR} {c0 c1 c2 c3 c4 : Value} {x : Int} (k : Keeps w w1) (hg : w.heap.size ≤ g) (hg1 : g < w1.heap.size) (hr : r ≠ g) (h : RetJ r s a w1 p (.returned (.tuple #[.agg #[c0, c1, c2, c3, c4], .int .i64 x])) w2) :
    RetJ r s a w p (.returned (.tuple #[.agg #[c0, c1, c2, c3, c4], .int .i64 x])) (five w2 g c0 c1 c2 c3 c4) := by
  obtain ⟨ho, h1, h2⟩ := h
  refine ⟨(((Only.refl [r] w).keeps k).trans ho).five _ (.inr hg) _ _ _ _ _, fun hp => ?_, fun hp => h2 hp⟩
  obtain ⟨v, hv, hj, hd⟩ := h1 hp
  have hO : Only [g] w2 (five w2 g c0 c1 c2 c3 c4) := (Only.refl _ w2).five _ (.inl (by simp)) _ _ _ _ _
  refine ⟨v, hv, ?_, hd.five hr _ _ _ _ _⟩
  have hk := IsJ.keeps (w := w2) (w' := five w2 g c0 c1 c2 c3 c4) (F := fun i => w1.heap.size ≤ i ∧ i < w2.heap.size) (fun i hi => hO.block i hi.2 (by have := hi.1; simp; omega)) _ _ hj
  exact IsJ.mono (fun i hi => ⟨Nat.le_trans k.size hi.1, Nat.lt_of_lt_of_le hi.2 hO.size⟩) _ _ hk

/-- What the reading closures hold. -/
structure Env (w : World) (r rb kb mb : Nat) : Prop where
  rd : w.cell? ⟨rb, 0, none⟩ = some (.pointer (some ⟨r, 0, none⟩))
  mp : w.cell? ⟨kb, 0, none⟩ = some (.map (some mb))
  kinds : Kinds w mb
theorem Env.keeps {w w' : World} {r rb kb mb : Nat} (h : Env w r rb kb mb) (k : Keeps w w') : Env w' r rb kb mb := by
  refine ⟨k.cell h.rd, k.cell h.mp, ?_⟩
  obtain ⟨es, cl, h1, h2⟩ := h.kinds
  exact ⟨es, cl, (k.block _ (Array.getElem?_eq_some_iff.1 h1).1).trans h1, h2⟩
set_option maxHeartbeats 4000000 in
set_option maxRecDepth 100000 in
theorem con_65_z (r : Nat) (s : ByteArray) (a : Nat) (rb kb cb mb : Nat) (p : JR) (w : World) (h : Rd w r s a) (hv : Env w r rb kb mb) (hlt : a < s.size) (hs : s.size ≤ 100000) (hk : kindN (s[a]'hlt).toNat = 65)
    (cF : Hid (∀ w1, Keeps w w1 → Calls Tryd.prog 65 #[.pointer (some ⟨r, 0, none⟩), .nilFunc] w1 (RetJ r s a w1 p))) :
    Calls Tryd.prog 48 #[.int .i64 0, .pointer (some ⟨rb, 0, none⟩), .pointer (some ⟨kb, 0, none⟩), .pointer (some ⟨cb, 0, none⟩)] w (RetJ r s a w p) := by
  have hrl := h.lt
  have k0 : Keeps w (w.alloc (.cells #[.int .i64 0] 3)) := (Keeps.refl w).alloc _
  have k1 : Keeps w ((w.alloc (.cells #[.int .i64 0] 3)).alloc (.cells #[.int .i64 0, .int .i64 0, .string ⟨#[]⟩, .slice none 0 0, .slice none 0 0] 25)) := k0.alloc _
  have cE := Lib.hid (ended_any r s a _ (h.keeps k1))
  have fE : ((a : Int) == (s.size : Int)) = false := by simp; omega
  have HB := Lib.hid (heap_alloc_new (w.alloc (.cells #[.int .i64 0] 3)) (.cells #[.int .i64 0, .int .i64 0, .string ⟨#[]⟩, .slice none 0 0, .slice none 0 0] 25))
  have HD := Lib.hid (heap_alloc_new w (.cells #[.int .i64 0] 3))
  have hz : (w.alloc (.cells #[.int .i64 0] 3)).heap.size = w.heap.size + 1 := by simp
  rw [hz] at HB
  have K1 := Lib.hid k1
  have K0 := Lib.hid k0
  have HH := Lib.hid h
  have HV := Lib.hid hv
  have a2 := (hv.keeps k1).rd
  clear h hv k1 k0
  go_enter Tryd.func48, Tryd.ntmps48
  go_wp2_with fail
  refine cE.out.mono ?_
  rintro e w2 ⟨rfl, kk, hw2⟩
  clear a2
  have K2 : Hid (Keeps w w2) := Lib.hid (by rw [hw2]; exact K1.out.drewN kk)
  have KK : Hid (Keeps ((w.alloc (.cells #[.int .i64 0] 3)).alloc (.cells #[.int .i64 0, .int .i64 0, .string ⟨#[]⟩, .slice none 0 0, .slice none 0 0] 25)) w2) := Lib.hid (by rw [hw2]; exact (Keeps.refl _).drewN kk)
  rw [fE]
  have hr2 := HH.out.keeps K2.out
  have hv2 := HV.out.keeps K2.out
  have b0 := hr2.text
  have b1 := hr2.at
  have b2 := hv2.rd
  have b3 := hv2.mp
  have hlook : ∀ nn, (Instr.lookup 68 (.map (some mb)) (.int .u8 ((s[a]'hlt).toNat : Int)) true).run Tryd.prog (w2.drewN nn) = .ok (.tuple #[.func (.func 65) #[] #[], .bool true]) (w2.drewN nn) := fun nn => by
    obtain ⟨v, h1, h2⟩ := kinds_look (w := w2.drewN nn) hv2.kinds (s[a]'hlt)
    obtain rfl := h2.1 (by rw [hk]; decide)
    rw [hk] at h1
    exact h1
  have hlook0 := hlook 0
  have q0 : (0 : Int) ≤ (a : Int) := by omega
  have q1 : (a : Int) < (s.size : Int) := by omega
  clear hw2 hr2 hv2 hk
  go_wp2
  go_quiet (fail)
  have K3 : Hid (Keeps w (w2.drewN nq)) := Lib.hid (K2.out.drewN nq)
  have D3 : Hid ((w2.drewN nq).heap[w.heap.size]? = some (.cells #[.int .i64 0] 3 (0, 0))) := Lib.hid ((KK.out.block w.heap.size (by simp; omega)).trans ((Below.heap_alloc _ _ _ (by simp)).trans HD.out))
  have B3 : Hid ((w2.drewN nq).heap[w.heap.size + 1]? = some (.cells #[.int .i64 0, .int .i64 0, .string ⟨#[]⟩, .slice none 0 0, .slice none 0 0] 25 (0, 0))) := Lib.hid ((KK.out.block (w.heap.size + 1) (by simp)).trans HB.out)
  have d2 := (HV.out.keeps K3.out).rd
  have d3 : (w2.drewN nq).cell? ⟨w.heap.size, 0, none⟩ = some (.int .i64 0) := by rw [Lib.cell_of_heap D3.out]; rfl
  clear b0 b1 b2 b3 hlook hlook0 K2 KK
  generalize w2.drewN nq = w3 at *
  go_wp2_with fail
  refine (cF.out _ K3.out).mono ?_
  intro e w4 hj
  obtain ⟨jk, jn, jt, ka, kl, kc, ia, il, ic, rfl⟩ := hj.form
  have hg1 : w.heap.size + 1 < w3.heap.size := (Array.getElem?_eq_some_iff.1 B3.out).1
  have HB4 : Hid (w4.heap[w.heap.size + 1]? = some (.cells #[.int .i64 0, .int .i64 0, .string ⟨#[]⟩, .slice none 0 0, .slice none 0 0] 25 (0, 0))) := Lib.hid ((hj.1.block _ hg1 (by simp; omega)).trans B3.out)
  have HJ := Lib.hid hj
  clear hj d2 d3
  obtain ⟨⟨c0, c1, c2, c3, c4⟩, f0, f1, f2, f3, f4⟩ := cells5 HB4.out
  go_wp2
  (try simp only [Exit.inBlock, Exit.then])
  refine ret_j (w.heap.size + 1) _ rfl rfl (five_heap _ _ _ _ _ HB4.out) rfl rfl ?_
  exact RetJ.wrap2 K3.out (Nat.le_succ _) hg1 (by omega) HJ.out
set_option maxHeartbeats 4000000 in
set_option maxRecDepth 100000 in
theorem con_65_s (r : Nat) (s : ByteArray) (a : Nat) (rb kb cb mb : Nat) (d : Nat) (hd : d ≤ 8) (p : JR) (w : World) (h : Rd w r s a) (hv : Env w r rb kb mb) (hlt : a < s.size) (hs : s.size ≤ 100000) (hk : kindN (s[a]'hlt).toNat = 65)
    (cF : Hid (∀ w1, Keeps w w1 → w1.heap[w.heap.size]? = some (.cells #[.int .i64 ((d : Int) + 1)] 3 (0, 0)) → Calls Tryd.prog 65 #[.pointer (some ⟨r, 0, none⟩), .func (.func 50) #[] #[.pointer (some ⟨cb, 0, none⟩), .pointer (some ⟨w.heap.size, 0, none⟩)]] w1 (RetJ r s a w1 p))) :
    Calls Tryd.prog 48 #[.int .i64 ((d : Int) + 1), .pointer (some ⟨rb, 0, none⟩), .pointer (some ⟨kb, 0, none⟩), .pointer (some ⟨cb, 0, none⟩)] w (RetJ r s a w p) := by
  have hrl := h.lt
  have k0 : Keeps w (w.alloc (.cells #[.int .i64 ((d : Int) + 1)] 3)) := (Keeps.refl w).alloc _
  have k1 : Keeps w ((w.alloc (.cells #[.int .i64 ((d : Int) + 1)] 3)).alloc (.cells #[.int .i64 0, .int .i64 0, .string ⟨#[]⟩, .slice none 0 0, .slice none 0 0] 25)) := k0.alloc _
  have cE := Lib.hid (ended_any r s a _ (h.keeps k1))
  have fE : ((a : Int) == (s.size : Int)) = false := by simp; omega
  have HB := Lib.hid (heap_alloc_new (w.alloc (.cells #[.int .i64 ((d : Int) + 1)] 3)) (.cells #[.int .i64 0, .int .i64 0, .string ⟨#[]⟩, .slice none 0 0, .slice none 0 0] 25))
  have HD := Lib.hid (heap_alloc_new w (.cells #[.int .i64 ((d : Int) + 1)] 3))
  have hz : (w.alloc (.cells #[.int .i64 ((d : Int) + 1)] 3)).heap.size = w.heap.size + 1 := by simp
  rw [hz] at HB
  have K1 := Lib.hid k1
  have K0 := Lib.hid k0
  have HH := Lib.hid h
  have HV := Lib.hid hv
  have a2 := (hv.keeps k1).rd
  clear h hv k1 k0
  go_enter Tryd.func48, Tryd.ntmps48
  go_wp2_with fail
  refine cE.out.mono ?_
  rintro e w2 ⟨rfl, kk, hw2⟩
  clear a2
  have K2 : Hid (Keeps w w2) := Lib.hid (by rw [hw2]; exact K1.out.drewN kk)
  have KK : Hid (Keeps ((w.alloc (.cells #[.int .i64 ((d : Int) + 1)] 3)).alloc (.cells #[.int .i64 0, .int .i64 0, .string ⟨#[]⟩, .slice none 0 0, .slice none 0 0] 25)) w2) := Lib.hid (by rw [hw2]; exact (Keeps.refl _).drewN kk)
  rw [fE]
  have hr2 := HH.out.keeps K2.out
  have hv2 := HV.out.keeps K2.out
  have b0 := hr2.text
  have b1 := hr2.at
  have b2 := hv2.rd
  have b3 := hv2.mp
  have hlook : ∀ nn, (Instr.lookup 68 (.map (some mb)) (.int .u8 ((s[a]'hlt).toNat : Int)) true).run Tryd.prog (w2.drewN nn) = .ok (.tuple #[.func (.func 65) #[] #[], .bool true]) (w2.drewN nn) := fun nn => by
    obtain ⟨v, h1, h2⟩ := kinds_look (w := w2.drewN nn) hv2.kinds (s[a]'hlt)
    obtain rfl := h2.1 (by rw [hk]; decide)
    rw [hk] at h1
    exact h1
  have hlook0 := hlook 0
  have q0 : (0 : Int) ≤ (a : Int) := by omega
  have q1 : (a : Int) < (s.size : Int) := by omega
  clear hw2 hr2 hv2 hk
  go_wp2
  go_quiet (fail)
  have K3 : Hid (Keeps w (w2.drewN nq)) := Lib.hid (K2.out.drewN nq)
  have D3 : Hid ((w2.drewN nq).heap[w.heap.size]? = some (.cells #[.int .i64 ((d : Int) + 1)] 3 (0, 0))) := Lib.hid ((KK.out.block w.heap.size (by simp; omega)).trans ((Below.heap_alloc _ _ _ (by simp)).trans HD.out))
  have B3 : Hid ((w2.drewN nq).heap[w.heap.size + 1]? = some (.cells #[.int .i64 0, .int .i64 0, .string ⟨#[]⟩, .slice none 0 0, .slice none 0 0] 25 (0, 0))) := Lib.hid ((KK.out.block (w.heap.size + 1) (by simp)).trans HB.out)
  have d2 := (HV.out.keeps K3.out).rd
  have d3 : (w2.drewN nq).cell? ⟨w.heap.size, 0, none⟩ = some (.int .i64 ((d : Int) + 1)) := by rw [Lib.cell_of_heap D3.out]; rfl
  clear b0 b1 b2 b3 hlook hlook0 K2 KK
  generalize w2.drewN nq = w3 at *
  have fz : ((d : Int) + 1 == 0) = false := by simp; omega
  go_wp2_with fail
  refine (cF.out _ K3.out D3.out).mono ?_
  intro e w4 hj
  obtain ⟨jk, jn, jt, ka, kl, kc, ia, il, ic, rfl⟩ := hj.form
  have hg1 : w.heap.size + 1 < w3.heap.size := (Array.getElem?_eq_some_iff.1 B3.out).1
  have HB4 : Hid (w4.heap[w.heap.size + 1]? = some (.cells #[.int .i64 0, .int .i64 0, .string ⟨#[]⟩, .slice none 0 0, .slice none 0 0] 25 (0, 0))) := Lib.hid ((hj.1.block _ hg1 (by simp; omega)).trans B3.out)
  have HJ := Lib.hid hj
  clear hj d2 d3
  obtain ⟨⟨c0, c1, c2, c3, c4⟩, f0, f1, f2, f3, f4⟩ := cells5 HB4.out
  go_wp2
  (try simp only [Exit.inBlock, Exit.then])
  refine ret_j (w.heap.size + 1) _ rfl rfl (five_heap _ _ _ _ _ HB4.out) rfl rfl ?_
  exact RetJ.wrap2 K3.out (Nat.le_succ _) hg1 (by omega) HJ.out
set_option maxHeartbeats 4000000 in
set_option maxRecDepth 100000 in
theorem con_66_z (r : Nat) (s : ByteArray) (a : Nat) (rb kb cb mb : Nat) (p : JR) (w : World) (h : Rd w r s a) (hv : Env w r rb kb mb) (hlt : a < s.size) (hs : s.size ≤ 100000) (hk : kindN (s[a]'hlt).toNat = 66)
    (cF : Hid (∀ w1, Keeps w w1 → Calls Tryd.prog 66 #[.pointer (some ⟨r, 0, none⟩), .nilFunc] w1 (RetJ r s a w1 p))) :
    Calls Tryd.prog 48 #[.int .i64 0, .pointer (some ⟨rb, 0, none⟩), .pointer (some ⟨kb, 0, none⟩), .pointer (some ⟨cb, 0, none⟩)] w (RetJ r s a w p) := by
  have hrl := h.lt
  have k0 : Keeps w (w.alloc (.cells #[.int .i64 0] 3)) := (Keeps.refl w).alloc _
  have k1 : Keeps w ((w.alloc (.cells #[.int .i64 0] 3)).alloc (.cells #[.int .i64 0, .int .i64 0, .string ⟨#[]⟩, .slice none 0 0, .slice none 0 0] 25)) := k0.alloc _
  have cE := Lib.hid (ended_any r s a _ (h.keeps k1))
  have fE : ((a : Int) == (s.size : Int)) = false := by simp; omega
  have HB := Lib.hid (heap_alloc_new (w.alloc (.cells #[.int .i64 0] 3)) (.cells #[.int .i64 0, .int .i64 0, .string ⟨#[]⟩, .slice none 0 0, .slice none 0 0] 25))
  have HD := Lib.hid (heap_alloc_new w (.cells #[.int .i64 0] 3))
  have hz : (w.alloc (.cells #[.int .i64 0] 3)).heap.size = w.heap.size + 1 := by simp
  rw [hz] at HB
  have K1 := Lib.hid k1
  have K0 := Lib.hid k0
  have HH := Lib.hid h
  have HV := Lib.hid hv
  have a2 := (hv.keeps k1).rd
  clear h hv k1 k0
  go_enter Tryd.func48, Tryd.ntmps48
  go_wp2_with fail
  refine cE.out.mono ?_
  rintro e w2 ⟨rfl, kk, hw2⟩
  clear a2
  have K2 : Hid (Keeps w w2) := Lib.hid (by rw [hw2]; exact K1.out.drewN kk)
  have KK : Hid (Keeps ((w.alloc (.cells #[.int .i64 0] 3)).alloc (.cells #[.int .i64 0, .int .i64 0, .string ⟨#[]⟩, .slice none 0 0, .slice none 0 0] 25)) w2) := Lib.hid (by rw [hw2]; exact (Keeps.refl _).drewN kk)
  rw [fE]
  have hr2 := HH.out.keeps K2.out
  have hv2 := HV.out.keeps K2.out
  have b0 := hr2.text
  have b1 := hr2.at
  have b2 := hv2.rd
  have b3 := hv2.mp
  have hlook : ∀ nn, (Instr.lookup 68 (.map (some mb)) (.int .u8 ((s[a]'hlt).toNat : Int)) true).run Tryd.prog (w2.drewN nn) = .ok (.tuple #[.func (.func 66) #[] #[], .bool true]) (w2.drewN nn) := fun nn => by
    obtain ⟨v, h1, h2⟩ := kinds_look (w := w2.drewN nn) hv2.kinds (s[a]'hlt)
    obtain rfl := h2.1 (by rw [hk]; decide)
    rw [hk] at h1
    exact h1
  have hlook0 := hlook 0
  have q0 : (0 : Int) ≤ (a : Int) := by omega
  have q1 : (a : Int) < (s.size : Int) := by omega
  clear hw2 hr2 hv2 hk
  go_wp2
  go_quiet (fail)
  have K3 : Hid (Keeps w (w2.drewN nq)) := Lib.hid (K2.out.drewN nq)
  have D3 : Hid ((w2.drewN nq).heap[w.heap.size]? = some (.cells #[.int .i64 0] 3 (0, 0))) := Lib.hid ((KK.out.block w.heap.size (by simp; omega)).trans ((Below.heap_alloc _ _ _ (by simp)).trans HD.out))
  have B3 : Hid ((w2.drewN nq).heap[w.heap.size + 1]? = some (.cells #[.int .i64 0, .int .i64 0, .string ⟨#[]⟩, .slice none 0 0, .slice none 0 0] 25 (0, 0))) := Lib.hid ((KK.out.block (w.heap.size + 1) (by simp)).trans HB.out)
  have d2 := (HV.out.keeps K3.out).rd
  have d3 : (w2.drewN nq).cell? ⟨w.heap.size, 0, none⟩ = some (.int .i64 0) := by rw [Lib.cell_of_heap D3.out]; rfl
  clear b0 b1 b2 b3 hlook hlook0 K2 KK
  generalize w2.drewN nq = w3 at *
  go_wp2_with fail
  refine (cF.out _ K3.out).mono ?_
  intro e w4 hj
  obtain ⟨jk, jn, jt, ka, kl, kc, ia, il, ic, rfl⟩ := hj.form
  have hg1 : w.heap.size + 1 < w3.heap.size := (Array.getElem?_eq_some_iff.1 B3.out).1
  have HB4 : Hid (w4.heap[w.heap.size + 1]? = some (.cells #[.int .i64 0, .int .i64 0, .string ⟨#[]⟩, .slice none 0 0, .slice none 0 0] 25 (0, 0))) := Lib.hid ((hj.1.block _ hg1 (by simp; omega)).trans B3.out)
  have HJ := Lib.hid hj
  clear hj d2 d3
  obtain ⟨⟨c0, c1, c2, c3, c4⟩, f0, f1, f2, f3, f4⟩ := cells5 HB4.out
  go_wp2
  (try simp only [Exit.inBlock, Exit.then])
  refine ret_j (w.heap.size + 1) _ rfl rfl (five_heap _ _ _ _ _ HB4.out) rfl rfl ?_
  exact RetJ.wrap2 K3.out (Nat.le_succ _) hg1 (by omega) HJ.out
set_option maxHeartbeats 4000000 in
set_option maxRecDepth 100000 in
theorem con_66_s (r : Nat) (s : ByteArray) (a : Nat) (rb kb cb mb : Nat) (d : Nat) (hd : d ≤ 8) (p : JR) (w : World) (h : Rd w r s a) (hv : Env w r rb kb mb) (hlt : a < s.size) (hs : s.size ≤ 100000) (hk : kindN (s[a]'hlt).toNat = 66)
    (cF : Hid (∀ w1, Keeps w w1 → w1.heap[w.heap.size]? = some (.cells #[.int .i64 ((d : Int) + 1)] 3 (0, 0)) → Calls Tryd.prog 66 #[.pointer (some ⟨r, 0, none⟩), .func (.func 50) #[] #[.pointer (some ⟨cb, 0, none⟩), .pointer (some ⟨w.heap.size, 0, none⟩)]] w1 (RetJ r s a w1 p))) :
    Calls Tryd.prog 48 #[.int .i64 ((d : Int) + 1), .pointer (some ⟨rb, 0, none⟩), .pointer (some ⟨kb, 0, none⟩), .pointer (some ⟨cb, 0, none⟩)] w (RetJ r s a w p) := by
  have hrl := h.lt
  have k0 : Keeps w (w.alloc (.cells #[.int .i64 ((d : Int) + 1)] 3)) := (Keeps.refl w).alloc _
  have k1 : Keeps w ((w.alloc (.cells #[.int .i64 ((d : Int) + 1)] 3)).alloc (.cells #[.int .i64 0, .int .i64 0, .string ⟨#[]⟩, .slice none 0 0, .slice none 0 0] 25)) := k0.alloc _
  have cE := Lib.hid (ended_any r s a _ (h.keeps k1))
  have fE : ((a : Int) == (s.size : Int)) = false := by simp; omega
  have HB := Lib.hid (heap_alloc_new (w.alloc (.cells #[.int .i64 ((d : Int) + 1)] 3)) (.cells #[.int .i64 0, .int .i64 0, .string ⟨#[]⟩, .slice none 0 0, .slice none 0 0] 25))
  have HD := Lib.hid (heap_alloc_new w (.cells #[.int .i64 ((d : Int) + 1)] 3))
  have hz : (w.alloc (.cells #[.int .i64 ((d : Int) + 1)] 3)).heap.size = w.heap.size + 1 := by simp
  rw [hz] at HB
  have K1 := Lib.hid k1
  have K0 := Lib.hid k0
  have HH := Lib.hid h
  have HV := Lib.hid hv
  have a2 := (hv.keeps k1).rd
  clear h hv k1 k0
  go_enter Tryd.func48, Tryd.ntmps48
  go_wp2_with fail
  refine cE.out.mono ?_
  rintro e w2 ⟨rfl, kk, hw2⟩
  clear a2
  have K2 : Hid (Keeps w w2) := Lib.hid (by rw [hw2]; exact K1.out.drewN kk)
  have KK : Hid (Keeps ((w.alloc (.cells #[.int .i64 ((d : Int) + 1)] 3)).alloc (.cells #[.int .i64 0, .int .i64 0, .string ⟨#[]⟩, .slice none 0 0, .slice none 0 0] 25)) w2) := Lib.hid (by rw [hw2]; exact (Keeps.refl _).drewN kk)
  rw [fE]
  have hr2 := HH.out.keeps K2.out
  have hv2 := HV.out.keeps K2.out
  have b0 := hr2.text
  have b1 := hr2.at
  have b2 := hv2.rd
  have b3 := hv2.mp
  have hlook : ∀ nn, (Instr.lookup 68 (.map (some mb)) (.int .u8 ((s[a]'hlt).toNat : Int)) true).run Tryd.prog (w2.drewN nn) = .ok (.tuple #[.func (.func 66) #[] #[], .bool true]) (w2.drewN nn) := fun nn => by
    obtain ⟨v, h1, h2⟩ := kinds_look (w := w2.drewN nn) hv2.kinds (s[a]'hlt)
    obtain rfl := h2.1 (by rw [hk]; decide)
    rw [hk] at h1
    exact h1
  have hlook0 := hlook 0
  have q0 : (0 : Int) ≤ (a : Int) := by omega
  have q1 : (a : Int) < (s.size : Int) := by omega
  clear hw2 hr2 hv2 hk
  go_wp2
  go_quiet (fail)
  have K3 : Hid (Keeps w (w2.drewN nq)) := Lib.hid (K2.out.drewN nq)
  have D3 : Hid ((w2.drewN nq).heap[w.heap.size]? = some (.cells #[.int .i64 ((d : Int) + 1)] 3 (0, 0))) := Lib.hid ((KK.out.block w.heap.size (by simp; omega)).trans ((Below.heap_alloc _ _ _ (by simp)).trans HD.out))
  have B3 : Hid ((w2.drewN nq).heap[w.heap.size + 1]? = some (.cells #[.int .i64 0, .int .i64 0, .string ⟨#[]⟩, .slice none 0 0, .slice none 0 0] 25 (0, 0))) := Lib.hid ((KK.out.block (w.heap.size + 1) (by simp)).trans HB.out)
  have d2 := (HV.out.keeps K3.out).rd
  have d3 : (w2.drewN nq).cell? ⟨w.heap.size, 0, none⟩ = some (.int .i64 ((d : Int) + 1)) := by rw [Lib.cell_of_heap D3.out]; rfl
  clear b0 b1 b2 b3 hlook hlook0 K2 KK
  generalize w2.drewN nq = w3 at *
  have fz : ((d : Int) + 1 == 0) = false := by simp; omega
  go_wp2_with fail
  refine (cF.out _ K3.out D3.out).mono ?_
  intro e w4 hj
  obtain ⟨jk, jn, jt, ka, kl, kc, ia, il, ic, rfl⟩ := hj.form
  have hg1 : w.heap.size + 1 < w3.heap.size := (Array.getElem?_eq_some_iff.1 B3.out).1
  have HB4 : Hid (w4.heap[w.heap.size + 1]? = some (.cells #[.int .i64 0, .int .i64 0, .string ⟨#[]⟩, .slice none 0 0, .slice none 0 0] 25 (0, 0))) := Lib.hid ((hj.1.block _ hg1 (by simp; omega)).trans B3.out)
  have HJ := Lib.hid hj
  clear hj d2 d3
  obtain ⟨⟨c0, c1, c2, c3, c4⟩, f0, f1, f2, f3, f4⟩ := cells5 HB4.out
  go_wp2
  (try simp only [Exit.inBlock, Exit.then])
  refine ret_j (w.heap.size + 1) _ rfl rfl (five_heap _ _ _ _ _ HB4.out) rfl rfl ?_
  exact RetJ.wrap2 K3.out (Nat.le_succ _) hg1 (by omega) HJ.out
set_option maxHeartbeats 4000000 in
set_option maxRecDepth 100000 in
theorem con_67_z (r : Nat) (s : ByteArray) (a : Nat) (rb kb cb mb : Nat) (p : JR) (w : World) (h : Rd w r s a) (hv : Env w r rb kb mb) (hlt : a < s.size) (hs : s.size ≤ 100000) (hk : kindN (s[a]'hlt).toNat = 67)
    (cF : Hid (∀ w1, Keeps w w1 → Calls Tryd.prog 67 #[.pointer (some ⟨r, 0, none⟩), .nilFunc] w1 (RetJ r s a w1 p))) :
    Calls Tryd.prog 48 #[.int .i64 0, .pointer (some ⟨rb, 0, none⟩), .pointer (some ⟨kb, 0, none⟩), .pointer (some ⟨cb, 0, none⟩)] w (RetJ r s a w p) := by
  have hrl := h.lt
  have k0 : Keeps w (w.alloc (.cells #[.int .i64 0] 3)) := (Keeps.refl w).alloc _
  have k1 : Keeps w ((w.alloc (.cells #[.int .i64 0] 3)).alloc (.cells #[.int .i64 0, .int .i64 0, .string ⟨#[]⟩, .slice none 0 0, .slice none 0 0] 25)) := k0.alloc _
  have cE := Lib.hid (ended_any r s a _ (h.keeps k1))
  have fE : ((a : Int) == (s.size : Int)) = false := by simp; omega
  have HB := Lib.hid (heap_alloc_new (w.alloc (.cells #[.int .i64 0] 3)) (.cells #[.int .i64 0, .int .i64 0, .string ⟨#[]⟩, .slice none 0 0, .slice none 0 0] 25))
  have HD := Lib.hid (heap_alloc_new w (.cells #[.int .i64 0] 3))
  have hz : (w.alloc (.cells #[.int .i64 0] 3)).heap.size = w.heap.size + 1 := by simp
  rw [hz] at HB
  have K1 := Lib.hid k1
  have K0 := Lib.hid k0
  have HH := Lib.hid h
  have HV := Lib.hid hv
  have a2 := (hv.keeps k1).rd
  clear h hv k1 k0
  go_enter Tryd.func48, Tryd.ntmps48
  go_wp2_with fail
  refine cE.out.mono ?_
  rintro e w2 ⟨rfl, kk, hw2⟩
  clear a2
  have K2 : Hid (Keeps w w2) := Lib.hid (by rw [hw2]; exact K1.out.drewN kk)
  have KK : Hid (Keeps ((w.alloc (.cells #[.int .i64 0] 3)).alloc (.cells #[.int .i64 0, .int .i64 0, .string ⟨#[]⟩, .slice none 0 0, .slice none 0 0] 25)) w2) := Lib.hid (by rw [hw2]; exact (Keeps.refl _).drewN kk)
  rw [fE]
  have hr2 := HH.out.keeps K2.out
  have hv2 := HV.out.keeps K2.out
  have b0 := hr2.text
  have b1 := hr2.at
  have b2 := hv2.rd
  have b3 := hv2.mp
  have hlook : ∀ nn, (Instr.lookup 68 (.map (some mb)) (.int .u8 ((s[a]'hlt).toNat : Int)) true).run Tryd.prog (w2.drewN nn) = .ok (.tuple #[.func (.func 67) #[] #[], .bool true]) (w2.drewN nn) := fun nn => by
    obtain ⟨v, h1, h2⟩ := kinds_look (w := w2.drewN nn) hv2.kinds (s[a]'hlt)
    obtain rfl := h2.1 (by rw [hk]; decide)
    rw [hk] at h1
    exact h1
  have hlook0 := hlook 0
  have q0 : (0 : Int) ≤ (a : Int) := by omega
  have q1 : (a : Int) < (s.size : Int) := by omega
  clear hw2 hr2 hv2 hk
  go_wp2
  go_quiet (fail)
  have K3 : Hid (Keeps w (w2.drewN nq)) := Lib.hid (K2.out.drewN nq)
  have D3 : Hid ((w2.drewN nq).heap[w.heap.size]? = some (.cells #[.int .i64 0] 3 (0, 0))) := Lib.hid ((KK.out.block w.heap.size (by simp; omega)).trans ((Below.heap_alloc _ _ _ (by simp)).trans HD.out))
  have B3 : Hid ((w2.drewN nq).heap[w.heap.size + 1]? = some (.cells #[.int .i64 0, .int .i64 0, .string ⟨#[]⟩, .slice none 0 0, .slice none 0 0] 25 (0, 0))) := Lib.hid ((KK.out.block (w.heap.size + 1) (by simp)).trans HB.out)
  have d2 := (HV.out.keeps K3.out).rd
  have d3 : (w2.drewN nq).cell? ⟨w.heap.size, 0, none⟩ = some (.int .i64 0) := by rw [Lib.cell_of_heap D3.out]; rfl
  clear b0 b1 b2 b3 hlook hlook0 K2 KK
  generalize w2.drewN nq = w3 at *
  go_wp2_with fail
  refine (cF.out _ K3.out).mono ?_
  intro e w4 hj
  obtain ⟨jk, jn, jt, ka, kl, kc, ia, il, ic, rfl⟩ := hj.form
  have hg1 : w.heap.size + 1 < w3.heap.size := (Array.getElem?_eq_some_iff.1 B3.out).1
  have HB4 : Hid (w4.heap[w.heap.size + 1]? = some (.cells #[.int .i64 0, .int .i64 0, .string ⟨#[]⟩, .slice none 0 0, .slice none 0 0] 25 (0, 0))) := Lib.hid ((hj.1.block _ hg1 (by simp; omega)).trans B3.out)
  have HJ := Lib.hid hj
  clear hj d2 d3
  obtain ⟨⟨c0, c1, c2, c3, c4⟩, f0, f1, f2, f3, f4⟩ := cells5 HB4.out
  go_wp2
  (try simp only [Exit.inBlock, Exit.then])
  refine ret_j (w.heap.size + 1) _ rfl rfl (five_heap _ _ _ _ _ HB4.out) rfl rfl ?_
  exact RetJ.wrap2 K3.out (Nat.le_succ _) hg1 (by omega) HJ.out
set_option maxHeartbeats 4000000 in
set_option maxRecDepth 100000 in
theorem con_67_s (r : Nat) (s : ByteArray) (a : Nat) (rb kb cb mb : Nat) (d : Nat) (hd : d ≤ 8) (p : JR) (w : World) (h : Rd w r s a) (hv : Env w r rb kb mb) (hlt : a < s.size) (hs : s.size ≤ 100000) (hk : kindN (s[a]'hlt).toNat = 67)
    (cF : Hid (∀ w1, Keeps w w1 → w1.heap[w.heap.size]? = some (.cells #[.int .i64 ((d : Int) + 1)] 3 (0, 0)) → Calls Tryd.prog 67 #[.pointer (some ⟨r, 0, none⟩), .func (.func 50) #[] #[.pointer (some ⟨cb, 0, none⟩), .pointer (some ⟨w.heap.size, 0, none⟩)]] w1 (RetJ r s a w1 p))) :
    Calls Tryd.prog 48 #[.int .i64 ((d : Int) + 1), .pointer (some ⟨rb, 0, none⟩), .pointer (some ⟨kb, 0, none⟩), .pointer (some ⟨cb, 0, none⟩)] w (RetJ r s a w p) := by
  have hrl := h.lt
  have k0 : Keeps w (w.alloc (.cells #[.int .i64 ((d : Int) + 1)] 3)) := (Keeps.refl w).alloc _
  have k1 : Keeps w ((w.alloc (.cells #[.int .i64 ((d : Int) + 1)] 3)).alloc (.cells #[.int .i64 0, .int .i64 0, .string ⟨#[]⟩, .slice none 0 0, .slice none 0 0] 25)) := k0.alloc _
  have cE := Lib.hid (ended_any r s a _ (h.keeps k1))
  have fE : ((a : Int) == (s.size : Int)) = false := by simp; omega
  have HB := Lib.hid (heap_alloc_new (w.alloc (.cells #[.int .i64 ((d : Int) + 1)] 3)) (.cells #[.int .i64 0, .int .i64 0, .string ⟨#[]⟩, .slice none 0 0, .slice none 0 0] 25))
  have HD := Lib.hid (heap_alloc_new w (.cells #[.int .i64 ((d : Int) + 1)] 3))
  have hz : (w.alloc (.cells #[.int .i64 ((d : Int) + 1)] 3)).heap.size = w.heap.size + 1 := by simp
  rw [hz] at HB
  have K1 := Lib.hid k1
  have K0 := Lib.hid k0
  have HH := Lib.hid h
  have HV := Lib.hid hv
  have a2 := (hv.keeps k1).rd
  clear h hv k1 k0
  go_enter Tryd.func48, Tryd.ntmps48
  go_wp2_with fail
  refine cE.out.mono ?_
  rintro e w2 ⟨rfl, kk, hw2⟩
  clear a2
  have K2 : Hid (Keeps w w2) := Lib.hid (by rw [hw2]; exact K1.out.drewN kk)
  have KK : Hid (Keeps ((w.alloc (.cells #[.int .i64 ((d : Int) + 1)] 3)).alloc (.cells #[.int .i64 0, .int .i64 0, .string ⟨#[]⟩, .slice none 0 0, .slice none 0 0] 25)) w2) := Lib.hid (by rw [hw2]; exact (Keeps.refl _).drewN kk)
  rw [fE]
  have hr2 := HH.out.keeps K2.out
  have hv2 := HV.out.keeps K2.out
  have b0 := hr2.text
  have b1 := hr2.at
  have b2 := hv2.rd
  have b3 := hv2.mp
  have hlook : ∀ nn, (Instr.lookup 68 (.map (some mb)) (.int .u8 ((s[a]'hlt).toNat : Int)) true).run Tryd.prog (w2.drewN nn) = .ok (.tuple #[.func (.func 67) #[] #[], .bool true]) (w2.drewN nn) := fun nn => by
    obtain ⟨v, h1, h2⟩ := kinds_look (w := w2.drewN nn) hv2.kinds (s[a]'hlt)
    obtain rfl := h2.1 (by rw [hk]; decide)
    rw [hk] at h1
    exact h1
  have hlook0 := hlook 0
  have q0 : (0 : Int) ≤ (a : Int) := by omega
  have q1 : (a : Int) < (s.size : Int) := by omega
  clear hw2 hr2 hv2 hk
  go_wp2
  go_quiet (fail)
  have K3 : Hid (Keeps w (w2.drewN nq)) := Lib.hid (K2.out.drewN nq)
  have D3 : Hid ((w2.drewN nq).heap[w.heap.size]? = some (.cells #[.int .i64 ((d : Int) + 1)] 3 (0, 0))) := Lib.hid ((KK.out.block w.heap.size (by simp; omega)).trans ((Below.heap_alloc _ _ _ (by simp)).trans HD.out))
  have B3 : Hid ((w2.drewN nq).heap[w.heap.size + 1]? = some (.cells #[.int .i64 0, .int .i64 0, .string ⟨#[]⟩, .slice none 0 0, .slice none 0 0] 25 (0, 0))) := Lib.hid ((KK.out.block (w.heap.size + 1) (by simp)).trans HB.out)
  have d2 := (HV.out.keeps K3.out).rd
  have d3 : (w2.drewN nq).cell? ⟨w.heap.size, 0, none⟩ = some (.int .i64 ((d : Int) + 1)) := by rw [Lib.cell_of_heap D3.out]; rfl
  clear b0 b1 b2 b3 hlook hlook0 K2 KK
  generalize w2.drewN nq = w3 at *
  have fz : ((d : Int) + 1 == 0) = false := by simp; omega
  go_wp2_with fail
  refine (cF.out _ K3.out D3.out).mono ?_
  intro e w4 hj
  obtain ⟨jk, jn, jt, ka, kl, kc, ia, il, ic, rfl⟩ := hj.form
  have hg1 : w.heap.size + 1 < w3.heap.size := (Array.getElem?_eq_some_iff.1 B3.out).1
  have HB4 : Hid (w4.heap[w.heap.size + 1]? = some (.cells #[.int .i64 0, .int .i64 0, .string ⟨#[]⟩, .slice none 0 0, .slice none 0 0] 25 (0, 0))) := Lib.hid ((hj.1.block _ hg1 (by simp; omega)).trans B3.out)
  have HJ := Lib.hid hj
  clear hj d2 d3
  obtain ⟨⟨c0, c1, c2, c3, c4⟩, f0, f1, f2, f3, f4⟩ := cells5 HB4.out
  go_wp2
  (try simp only [Exit.inBlock, Exit.then])
  refine ret_j (w.heap.size + 1) _ rfl rfl (five_heap _ _ _ _ _ HB4.out) rfl rfl ?_
  exact RetJ.wrap2 K3.out (Nat.le_succ _) hg1 (by omega) HJ.out
set_option maxHeartbeats 4000000 in
set_option maxRecDepth 100000 in
theorem con_68_z (r : Nat) (s : ByteArray) (a : Nat) (rb kb cb mb : Nat) (p : JR) (w : World) (h : Rd w r s a) (hv : Env w r rb kb mb) (hlt : a < s.size) (hs : s.size ≤ 100000) (hk : kindN (s[a]'hlt).toNat = 68)
    (cF : Hid (∀ w1, Keeps w w1 → Calls Tryd.prog 68 #[.pointer (some ⟨r, 0, none⟩), .nilFunc] w1 (RetJ r s a w1 p))) :
    Calls Tryd.prog 48 #[.int .i64 0, .pointer (some ⟨rb, 0, none⟩), .pointer (some ⟨kb, 0, none⟩), .pointer (some ⟨cb, 0, none⟩)] w (RetJ r s a w p) := by
  have hrl := h.lt
  have k0 : Keeps w (w.alloc (.cells #[.int .i64 0] 3)) := (Keeps.refl w).alloc _
  have k1 : Keeps w ((w.alloc (.cells #[.int .i64 0] 3)).alloc (.cells #[.int .i64 0, .int .i64 0, .string ⟨#[]⟩, .slice none 0 0, .slice none 0 0] 25)) := k0.alloc _
  have cE := Lib.hid (ended_any r s a _ (h.keeps k1))
  have fE : ((a : Int) == (s.size : Int)) = false := by simp; omega
  have HB := Lib.hid (heap_alloc_new (w.alloc (.cells #[.int .i64 0] 3)) (.cells #[.int .i64 0, .int .i64 0, .string ⟨#[]⟩, .slice none 0 0, .slice none 0 0] 25))
  have HD := Lib.hid (heap_alloc_new w (.cells #[.int .i64 0] 3))
  have hz : (w.alloc (.cells #[.int .i64 0] 3)).heap.size = w.heap.size + 1 := by simp
  rw [hz] at HB
  have K1 := Lib.hid k1
  have K0 := Lib.hid k0
  have HH := Lib.hid h
  have HV := Lib.hid hv
  have a2 := (hv.keeps k1).rd
  clear h hv k1 k0
  go_enter Tryd.func48, Tryd.ntmps48
  go_wp2_with fail
  refine cE.out.mono ?_
  rintro e w2 ⟨rfl, kk, hw2⟩
  clear a2
  have K2 : Hid (Keeps w w2) := Lib.hid (by rw [hw2]; exact K1.out.drewN kk)
  have KK : Hid (Keeps ((w.alloc (.cells #[.int .i64 0] 3)).alloc (.cells #[.int .i64 0, .int .i64 0, .string ⟨#[]⟩, .slice none 0 0, .slice none 0 0] 25)) w2) := Lib.hid (by rw [hw2]; exact (Keeps.refl _).drewN kk)
  rw [fE]
  have hr2 := HH.out.keeps K2.out
  have hv2 := HV.out.keeps K2.out
  have b0 := hr2.text
  have b1 := hr2.at
  have b2 := hv2.rd
  have b3 := hv2.mp
  have hlook : ∀ nn, (Instr.lookup 68 (.map (some mb)) (.int .u8 ((s[a]'hlt).toNat : Int)) true).run Tryd.prog (w2.drewN nn) = .ok (.tuple #[.func (.func 68) #[] #[], .bool true]) (w2.drewN nn) := fun nn => by
    obtain ⟨v, h1, h2⟩ := kinds_look (w := w2.drewN nn) hv2.kinds (s[a]'hlt)
    obtain rfl := h2.1 (by rw [hk]; decide)
    rw [hk] at h1
    exact h1
  have hlook0 := hlook 0
  have q0 : (0 : Int) ≤ (a : Int) := by omega
  have q1 : (a : Int) < (s.size : Int) := by omega
  clear hw2 hr2 hv2 hk
  go_wp2
  go_quiet (fail)
  have K3 : Hid (Keeps w (w2.drewN nq)) := Lib.hid (K2.out.drewN nq)
  have D3 : Hid ((w2.drewN nq).heap[w.heap.size]? = some (.cells #[.int .i64 0] 3 (0, 0))) := Lib.hid ((KK.out.block w.heap.size (by simp; omega)).trans ((Below.heap_alloc _ _ _ (by simp)).trans HD.out))
  have B3 : Hid ((w2.drewN nq).heap[w.heap.size + 1]? = some (.cells #[.int .i64 0, .int .i64 0, .string ⟨#[]⟩, .slice none 0 0, .slice none 0 0] 25 (0, 0))) := Lib.hid ((KK.out.block (w.heap.size + 1) (by simp)).trans HB.out)
  have d2 := (HV.out.keeps K3.out).rd
  have d3 : (w2.drewN nq).cell? ⟨w.heap.size, 0, none⟩ = some (.int .i64 0) := by rw [Lib.cell_of_heap D3.out]; rfl
  clear b0 b1 b2 b3 hlook hlook0 K2 KK
  generalize w2.drewN nq = w3 at *
  go_wp2_with fail
  refine (cF.out _ K3.out).mono ?_
  intro e w4 hj
  obtain ⟨jk, jn, jt, ka, kl, kc, ia, il, ic, rfl⟩ := hj.form
  have hg1 : w.heap.size + 1 < w3.heap.size := (Array.getElem?_eq_some_iff.1 B3.out).1
  have HB4 : Hid (w4.heap[w.heap.size + 1]? = some (.cells #[.int .i64 0, .int .i64 0, .string ⟨#[]⟩, .slice none 0 0, .slice none 0 0] 25 (0, 0))) := Lib.hid ((hj.1.block _ hg1 (by simp; omega)).trans B3.out)
  have HJ := Lib.hid hj
  clear hj d2 d3
  obtain ⟨⟨c0, c1, c2, c3, c4⟩, f0, f1, f2, f3, f4⟩ := cells5 HB4.out
  go_wp2
  (try simp only [Exit.inBlock, Exit.then])
  refine ret_j (w.heap.size + 1) _ rfl rfl (five_heap _ _ _ _ _ HB4.out) rfl rfl ?_
  exact RetJ.wrap2 K3.out (Nat.le_succ _) hg1 (by omega) HJ.out
set_option maxHeartbeats 4000000 in
set_option maxRecDepth 100000 in
theorem con_68_s (r : Nat) (s : ByteArray) (a : Nat) (rb kb cb mb : Nat) (d : Nat) (hd : d ≤ 8) (p : JR) (w : World) (h : Rd w r s a) (hv : Env w r rb kb mb) (hlt : a < s.size) (hs : s.size ≤ 100000) (hk : kindN (s[a]'hlt).toNat = 68)
    (cF : Hid (∀ w1, Keeps w w1 → w1.heap[w.heap.size]? = some (.cells #[.int .i64 ((d : Int) + 1)] 3 (0, 0)) → Calls Tryd.prog 68 #[.pointer (some ⟨r, 0, none⟩), .func (.func 50) #[] #[.pointer (some ⟨cb, 0, none⟩), .pointer (some ⟨w.heap.size, 0, none⟩)]] w1 (RetJ r s a w1 p))) :
    Calls Tryd.prog 48 #[.int .i64 ((d : Int) + 1), .pointer (some ⟨rb, 0, none⟩), .pointer (some ⟨kb, 0, none⟩), .pointer (some ⟨cb, 0, none⟩)] w (RetJ r s a w p) := by
  have hrl := h.lt
  have k0 : Keeps w (w.alloc (.cells #[.int .i64 ((d : Int) + 1)] 3)) := (Keeps.refl w).alloc _
  have k1 : Keeps w ((w.alloc (.cells #[.int .i64 ((d : Int) + 1)] 3)).alloc (.cells #[.int .i64 0, .int .i64 0, .string ⟨#[]⟩, .slice none 0 0, .slice none 0 0] 25)) := k0.alloc _
  have cE := Lib.hid (ended_any r s a _ (h.keeps k1))
  have fE : ((a : Int) == (s.size : Int)) = false := by simp; omega
  have HB := Lib.hid (heap_alloc_new (w.alloc (.cells #[.int .i64 ((d : Int) + 1)] 3)) (.cells #[.int .i64 0, .int .i64 0, .string ⟨#[]⟩, .slice none 0 0, .slice none 0 0] 25))
  have HD := Lib.hid (heap_alloc_new w (.cells #[.int .i64 ((d : Int) + 1)] 3))
  have hz : (w.alloc (.cells #[.int .i64 ((d : Int) + 1)] 3)).heap.size = w.heap.size + 1 := by simp
  rw [hz] at HB
  have K1 := Lib.hid k1
  have K0 := Lib.hid k0
  have HH := Lib.hid h
  have HV := Lib.hid hv
  have a2 := (hv.keeps k1).rd
  clear h hv k1 k0
  go_enter Tryd.func48, Tryd.ntmps48
  go_wp2_with fail
  refine cE.out.mono ?_
  rintro e w2 ⟨rfl, kk, hw2⟩
  clear a2
  have K2 : Hid (Keeps w w2) := Lib.hid (by rw [hw2]; exact K1.out.drewN kk)
  have KK : Hid (Keeps ((w.alloc (.cells #[.int .i64 ((d : Int) + 1)] 3)).alloc (.cells #[.int .i64 0, .int .i64 0, .string ⟨#[]⟩, .slice none 0 0, .slice none 0 0] 25)) w2) := Lib.hid (by rw [hw2]; exact (Keeps.refl _).drewN kk)
  rw [fE]
  have hr2 := HH.out.keeps K2.out
  have hv2 := HV.out.keeps K2.out
  have b0 := hr2.text
  have b1 := hr2.at
  have b2 := hv2.rd
  have b3 := hv2.mp
  have hlook : ∀ nn, (Instr.lookup 68 (.map (some mb)) (.int .u8 ((s[a]'hlt).toNat : Int)) true).run Tryd.prog (w2.drewN nn) = .ok (.tuple #[.func (.func 68) #[] #[], .bool true]) (w2.drewN nn) := fun nn => by
    obtain ⟨v, h1, h2⟩ := kinds_look (w := w2.drewN nn) hv2.kinds (s[a]'hlt)
    obtain rfl := h2.1 (by rw [hk]; decide)
    rw [hk] at h1
    exact h1
  have hlook0 := hlook 0
  have q0 : (0 : Int) ≤ (a : Int) := by omega
  have q1 : (a : Int) < (s.size : Int) := by omega
  clear hw2 hr2 hv2 hk
  go_wp2
  go_quiet (fail)
  have K3 : Hid (Keeps w (w2.drewN nq)) := Lib.hid (K2.out.drewN nq)
  have D3 : Hid ((w2.drewN nq).heap[w.heap.size]? = some (.cells #[.int .i64 ((d : Int) + 1)] 3 (0, 0))) := Lib.hid ((KK.out.block w.heap.size (by simp; omega)).trans ((Below.heap_alloc _ _ _ (by simp)).trans HD.out))
  have B3 : Hid ((w2.drewN nq).heap[w.heap.size + 1]? = some (.cells #[.int .i64 0, .int .i64 0, .string ⟨#[]⟩, .slice none 0 0, .slice none 0 0] 25 (0, 0))) := Lib.hid ((KK.out.block (w.heap.size + 1) (by simp)).trans HB.out)
  have d2 := (HV.out.keeps K3.out).rd
  have d3 : (w2.drewN nq).cell? ⟨w.heap.size, 0, none⟩ = some (.int .i64 ((d : Int) + 1)) := by rw [Lib.cell_of_heap D3.out]; rfl
  clear b0 b1 b2 b3 hlook hlook0 K2 KK
  generalize w2.drewN nq = w3 at *
  have fz : ((d : Int) + 1 == 0) = false := by simp; omega
  go_wp2_with fail
  refine (cF.out _ K3.out D3.out).mono ?_
  intro e w4 hj
  obtain ⟨jk, jn, jt, ka, kl, kc, ia, il, ic, rfl⟩ := hj.form
  have hg1 : w.heap.size + 1 < w3.heap.size := (Array.getElem?_eq_some_iff.1 B3.out).1
  have HB4 : Hid (w4.heap[w.heap.size + 1]? = some (.cells #[.int .i64 0, .int .i64 0, .string ⟨#[]⟩, .slice none 0 0, .slice none 0 0] 25 (0, 0))) := Lib.hid ((hj.1.block _ hg1 (by simp; omega)).trans B3.out)
  have HJ := Lib.hid hj
  clear hj d2 d3
  obtain ⟨⟨c0, c1, c2, c3, c4⟩, f0, f1, f2, f3, f4⟩ := cells5 HB4.out
  go_wp2
  (try simp only [Exit.inBlock, Exit.then])
  refine ret_j (w.heap.size + 1) _ rfl rfl (five_heap _ _ _ _ _ HB4.out) rfl rfl ?_
  exact RetJ.wrap2 K3.out (Nat.le_succ _) hg1 (by omega) HJ.out
set_option maxHeartbeats 4000000 in
set_option maxRecDepth 100000 in
theorem con_69_z (r : Nat) (s : ByteArray) (a : Nat) (rb kb cb mb : Nat) (p : JR) (w : World) (h : Rd w r s a) (hv : Env w r rb kb mb) (hlt : a < s.size) (hs : s.size ≤ 100000) (hk : kindN (s[a]'hlt).toNat = 69)
    (cF : Hid (∀ w1, Keeps w w1 → Calls Tryd.prog 69 #[.pointer (some ⟨r, 0, none⟩), .nilFunc] w1 (RetJ r s a w1 p))) :
    Calls Tryd.prog 48 #[.int .i64 0, .pointer (some ⟨rb, 0, none⟩), .pointer (some ⟨kb, 0, none⟩), .pointer (some ⟨cb, 0, none⟩)] w (RetJ r s a w p) := by
  have hrl := h.lt
  have k0 : Keeps w (w.alloc (.cells #[.int .i64 0] 3)) := (Keeps.refl w).alloc _
  have k1 : Keeps w ((w.alloc (.cells #[.int .i64 0] 3)).alloc (.cells #[.int .i64 0, .int .i64 0, .string ⟨#[]⟩, .slice none 0 0, .slice none 0 0] 25)) := k0.alloc _
  have cE := Lib.hid (ended_any r s a _ (h.keeps k1))
  have fE : ((a : Int) == (s.size : Int)) = false := by simp; omega
  have HB := Lib.hid (heap_alloc_new (w.alloc (.cells #[.int .i64 0] 3)) (.cells #[.int .i64 0, .int .i64 0, .string ⟨#[]⟩, .slice none 0 0, .slice none 0 0] 25))
  have HD := Lib.hid (heap_alloc_new w (.cells #[.int .i64 0] 3))
  have hz : (w.alloc (.cells #[.int .i64 0] 3)).heap.size = w.heap.size + 1 := by simp
  rw [hz] at HB
  have K1 := Lib.hid k1
  have K0 := Lib.hid k0
  have HH := Lib.hid h
  have HV := Lib.hid hv
  have a2 := (hv.keeps k1).rd
  clear h hv k1 k0
  go_enter Tryd.func48, Tryd.ntmps48
  go_wp2_with fail
  refine cE.out.mono ?_
  rintro e w2 ⟨rfl, kk, hw2⟩
  clear a2
  have K2 : Hid (Keeps w w2) := Lib.hid (by rw [hw2]; exact K1.out.drewN kk)
  have KK : Hid (Keeps ((w.alloc (.cells #[.int .i64 0] 3)).alloc (.cells #[.int .i64 0, .int .i64 0, .string ⟨#[]⟩, .slice none 0 0, .slice none 0 0] 25)) w2) := Lib.hid (by rw [hw2]; exact (Keeps.refl _).drewN kk)
  rw [fE]
  have hr2 := HH.out.keeps K2.out
  have hv2 := HV.out.keeps K2.out
  have b0 := hr2.text
  have b1 := hr2.at
  have b2 := hv2.rd
  have b3 := hv2.mp
  have hlook : ∀ nn, (Instr.lookup 68 (.map (some mb)) (.int .u8 ((s[a]'hlt).toNat : Int)) true).run Tryd.prog (w2.drewN nn) = .ok (.tuple #[.func (.func 69) #[] #[], .bool true]) (w2.drewN nn) := fun nn => by
    obtain ⟨v, h1, h2⟩ := kinds_look (w := w2.drewN nn) hv2.kinds (s[a]'hlt)
    obtain rfl := h2.1 (by rw [hk]; decide)
    rw [hk] at h1
    exact h1
  have hlook0 := hlook 0
  have q0 : (0 : Int) ≤ (a : Int) := by omega
  have q1 : (a : Int) < (s.size : Int) := by omega
  clear hw2 hr2 hv2 hk
  go_wp2
  go_quiet (fail)
  have K3 : Hid (Keeps w (w2.drewN nq)) := Lib.hid (K2.out.drewN nq)
  have D3 : Hid ((w2.drewN nq).heap[w.heap.size]? = some (.cells #[.int .i64 0] 3 (0, 0))) := Lib.hid ((KK.out.block w.heap.size (by simp; omega)).trans ((Below.heap_alloc _ _ _ (by simp)).trans HD.out))
  have B3 : Hid ((w2.drewN nq).heap[w.heap.size + 1]? = some (.cells #[.int .i64 0, .int .i64 0, .string ⟨#[]⟩, .slice none 0 0, .slice none 0 0] 25 (0, 0))) := Lib.hid ((KK.out.block (w.heap.size + 1) (by simp)).trans HB.out)
  have d2 := (HV.out.keeps K3.out).rd
  have d3 : (w2.drewN nq).cell? ⟨w.heap.size, 0, none⟩ = some (.int .i64 0) := by rw [Lib.cell_of_heap D3.out]; rfl
  clear b0 b1 b2 b3 hlook hlook0 K2 KK
  generalize w2.drewN nq = w3 at *
  go_wp2_with fail
  refine (cF.out _ K3.out).mono ?_
  intro e w4 hj
  obtain ⟨jk, jn, jt, ka, kl, kc, ia, il, ic, rfl⟩ := hj.form
  have hg1 : w.heap.size + 1 < w3.heap.size := (Array.getElem?_eq_some_iff.1 B3.out).1
  have HB4 : Hid (w4.heap[w.heap.size + 1]? = some (.cells #[.int .i64 0, .int .i64 0, .string ⟨#[]⟩, .slice none 0 0, .slice none 0 0] 25 (0, 0))) := Lib.hid ((hj.1.block _ hg1 (by simp; omega)).trans B3.out)
  have HJ := Lib.hid hj
  clear hj d2 d3
  obtain ⟨⟨c0, c1, c2, c3, c4⟩, f0, f1, f2, f3, f4⟩ := cells5 HB4.out
  go_wp2
  (try simp only [Exit.inBlock, Exit.then])
  refine ret_j (w.heap.size + 1) _ rfl rfl (five_heap _ _ _ _ _ HB4.out) rfl rfl ?_
  exact RetJ.wrap2 K3.out (Nat.le_succ _) hg1 (by omega) HJ.out
set_option maxHeartbeats 4000000 in
set_option maxRecDepth 100000 in
theorem con_69_s (r : Nat) (s : ByteArray) (a : Nat) (rb kb cb mb : Nat) (d : Nat) (hd : d ≤ 8) (p : JR) (w : World) (h : Rd w r s a) (hv : Env w r rb kb mb) (hlt : a < s.size) (hs : s.size ≤ 100000) (hk : kindN (s[a]'hlt).toNat = 69)
    (cF : Hid (∀ w1, Keeps w w1 → w1.heap[w.heap.size]? = some (.cells #[.int .i64 ((d : Int) + 1)] 3 (0, 0)) → Calls Tryd.prog 69 #[.pointer (some ⟨r, 0, none⟩), .func (.func 50) #[] #[.pointer (some ⟨cb, 0, none⟩), .pointer (some ⟨w.heap.size, 0, none⟩)]] w1 (RetJ r s a w1 p))) :
    Calls Tryd.prog 48 #[.int .i64 ((d : Int) + 1), .pointer (some ⟨rb, 0, none⟩), .pointer (some ⟨kb, 0, none⟩), .pointer (some ⟨cb, 0, none⟩)] w (RetJ r s a w p) := by
  have hrl := h.lt
  have k0 : Keeps w (w.alloc (.cells #[.int .i64 ((d : Int) + 1)] 3)) := (Keeps.refl w).alloc _
  have k1 : Keeps w ((w.alloc (.cells #[.int .i64 ((d : Int) + 1)] 3)).alloc (.cells #[.int .i64 0, .int .i64 0, .string ⟨#[]⟩, .slice none 0 0, .slice none 0 0] 25)) := k0.alloc _
  have cE := Lib.hid (ended_any r s a _ (h.keeps k1))
  have fE : ((a : Int) == (s.size : Int)) = false := by simp; omega
  have HB := Lib.hid (heap_alloc_new (w.alloc (.cells #[.int .i64 ((d : Int) + 1)] 3)) (.cells #[.int .i64 0, .int .i64 0, .string ⟨#[]⟩, .slice none 0 0, .slice none 0 0] 25))
  have HD := Lib.hid (heap_alloc_new w (.cells #[.int .i64 ((d : Int) + 1)] 3))
  have hz : (w.alloc (.cells #[.int .i64 ((d : Int) + 1)] 3)).heap.size = w.heap.size + 1 := by simp
  rw [hz] at HB
  have K1 := Lib.hid k1
  have K0 := Lib.hid k0
  have HH := Lib.hid h
  have HV := Lib.hid hv
  have a2 := (hv.keeps k1).rd
  clear h hv k1 k0
  go_enter Tryd.func48, Tryd.ntmps48
  go_wp2_with fail
  refine cE.out.mono ?_
  rintro e w2 ⟨rfl, kk, hw2⟩
  clear a2
  have K2 : Hid (Keeps w w2) := Lib.hid (by rw [hw2]; exact K1.out.drewN kk)
  have KK : Hid (Keeps ((w.alloc (.cells #[.int .i64 ((d : Int) + 1)] 3)).alloc (.cells #[.int .i64 0, .int .i64 0, .string ⟨#[]⟩, .slice none 0 0, .slice none 0 0] 25)) w2) := Lib.hid (by rw [hw2]; exact (Keeps.refl _).drewN kk)
  rw [fE]
  have hr2 := HH.out.keeps K2.out
  have hv2 := HV.out.keeps K2.out
  have b0 := hr2.text
  have b1 := hr2.at
  have b2 := hv2.rd
  have b3 := hv2.mp
  have hlook : ∀ nn, (Instr.lookup 68 (.map (some mb)) (.int .u8 ((s[a]'hlt).toNat : Int)) true).run Tryd.prog (w2.drewN nn) = .ok (.tuple #[.func (.func 69) #[] #[], .bool true]) (w2.drewN nn) := fun nn => by
    obtain ⟨v, h1, h2⟩ := kinds_look (w := w2.drewN nn) hv2.kinds (s[a]'hlt)
    obtain rfl := h2.1 (by rw [hk]; decide)
    rw [hk] at h1
    exact h1
  have hlook0 := hlook 0
  have q0 : (0 : Int) ≤ (a : Int) := by omega
  have q1 : (a : Int) < (s.size : Int) := by omega
  clear hw2 hr2 hv2 hk
  go_wp2
  go_quiet (fail)
  have K3 : Hid (Keeps w (w2.drewN nq)) := Lib.hid (K2.out.drewN nq)
  have D3 : Hid ((w2.drewN nq).heap[w.heap.size]? = some (.cells #[.int .i64 ((d : Int) + 1)] 3 (0, 0))) := Lib.hid ((KK.out.block w.heap.size (by simp; omega)).trans ((Below.heap_alloc _ _ _ (by simp)).trans HD.out))
  have B3 : Hid ((w2.drewN nq).heap[w.heap.size + 1]? = some (.cells #[.int .i64 0, .int .i64 0, .string ⟨#[]⟩, .slice none 0 0, .slice none 0 0] 25 (0, 0))) := Lib.hid ((KK.out.block (w.heap.size + 1) (by simp)).trans HB.out)
  have d2 := (HV.out.keeps K3.out).rd
  have d3 : (w2.drewN nq).cell? ⟨w.heap.size, 0, none⟩ = some (.int .i64 ((d : Int) + 1)) := by rw [Lib.cell_of_heap D3.out]; rfl
  clear b0 b1 b2 b3 hlook hlook0 K2 KK
  generalize w2.drewN nq = w3 at *
  have fz : ((d : Int) + 1 == 0) = false := by simp; omega
  go_wp2_with fail
  refine (cF.out _ K3.out D3.out).mono ?_
  intro e w4 hj
  obtain ⟨jk, jn, jt, ka, kl, kc, ia, il, ic, rfl⟩ := hj.form
  have hg1 : w.heap.size + 1 < w3.heap.size := (Array.getElem?_eq_some_iff.1 B3.out).1
  have HB4 : Hid (w4.heap[w.heap.size + 1]? = some (.cells #[.int .i64 0, .int .i64 0, .string ⟨#[]⟩, .slice none 0 0, .slice none 0 0] 25 (0, 0))) := Lib.hid ((hj.1.block _ hg1 (by simp; omega)).trans B3.out)
  have HJ := Lib.hid hj
  clear hj d2 d3
  obtain ⟨⟨c0, c1, c2, c3, c4⟩, f0, f1, f2, f3, f4⟩ := cells5 HB4.out
  go_wp2
  (try simp only [Exit.inBlock, Exit.then])
  refine ret_j (w.heap.size + 1) _ rfl rfl (five_heap _ _ _ _ _ HB4.out) rfl rfl ?_
  exact RetJ.wrap2 K3.out (Nat.le_succ _) hg1 (by omega) HJ.out
end Go.Proofs.YtljkeladdplhlaaDoor
