/-
  The closure that reads a value, of package json: the text has ended; no value begins so.
-/
import Derived.Test.YtljkeladdplhlaaDoorCon
import Derived.Test.YtljkeladdplhlaaDoorBne
namespace Go.Proofs.YtljkeladdplhlaaDoor
open Go.RowKit

set_option maxHeartbeats 4000000 in
set_option maxRecDepth 100000 in
theorem con_end (r : Nat) (s : ByteArray) (a : Nat) (rb kb cb mb : Nat) (dv : Int) (w : World) (h : Rd w r s a) (hv : Env w r rb kb mb) (hlt : a = s.size) :
    Calls Tryd.prog 48 #[.int .i64 dv, .pointer (some ⟨rb, 0, none⟩), .pointer (some ⟨kb, 0, none⟩), .pointer (some ⟨cb, 0, none⟩)] w (RetJ r s a w (jerr 3)) := by
  have hrl := h.lt
  have k0 : Keeps w (w.alloc (.cells #[.int .i64 dv] 3)) := (Keeps.refl w).alloc _
  have k1 : Keeps w ((w.alloc (.cells #[.int .i64 dv] 3)).alloc (.cells #[.int .i64 0, .int .i64 0, .string ⟨#[]⟩, .slice none 0 0, .slice none 0 0] 25)) := k0.alloc _
  have cE := Lib.hid (ended_any r s a _ (h.keeps k1))
  have fE : ((a : Int) == (s.size : Int)) = true := by simp; omega
  have HB := Lib.hid (heap_alloc_new (w.alloc (.cells #[.int .i64 dv] 3)) (.cells #[.int .i64 0, .int .i64 0, .string ⟨#[]⟩, .slice none 0 0, .slice none 0 0] 25))
  have hz : (w.alloc (.cells #[.int .i64 dv] 3)).heap.size = w.heap.size + 1 := by simp
  rw [hz] at HB
  have K1 := Lib.hid k1
  have a2 := (hv.keeps k1).rd
  clear h hv k1 k0
  go_enter Tryd.func48, Tryd.ntmps48
  go_wp2_with fail
  refine cE.out.mono ?_
  rintro e w2 ⟨rfl, kk, hw2⟩
  have K2 : Hid (Keeps w w2) := Lib.hid (by rw [hw2]; exact K1.out.drewN kk)
  have B3 : Hid (w2.heap[w.heap.size + 1]? = some (.cells #[.int .i64 0, .int .i64 0, .string ⟨#[]⟩, .slice none 0 0, .slice none 0 0] 25 (0, 0))) := Lib.hid (by rw [hw2]; exact HB.out)
  rw [fE]
  clear hw2 a2
  obtain ⟨⟨c0, c1, c2, c3, c4⟩, f0, f1, f2, f3, f4⟩ := cells5 B3.out
  go_wp2
  (try simp only [Exit.inBlock, Exit.then])
  refine ret_j (w.heap.size + 1) _ rfl rfl (five_heap _ _ _ _ _ B3.out) rfl rfl ?_
  exact RetJ.bad (((Only.refl [r] w).keeps K2.out).five _ (.inr (Nat.le_succ _)) _ _ _ _ _) (by decide)

set_option maxHeartbeats 4000000 in
set_option maxRecDepth 100000 in
theorem con_bad (r : Nat) (s : ByteArray) (a : Nat) (rb kb cb mb : Nat) (dv : Int) (w : World) (h : Rd w r s a) (hv : Env w r rb kb mb) (hlt : a < s.size) (hs : s.size ≤ 100000) (hk : kindN (s[a]'hlt).toNat = 0) :
    Calls Tryd.prog 48 #[.int .i64 dv, .pointer (some ⟨rb, 0, none⟩), .pointer (some ⟨kb, 0, none⟩), .pointer (some ⟨cb, 0, none⟩)] w (RetJ r s a w (jerr 5)) := by
  have hrl := h.lt
  have k0 : Keeps w (w.alloc (.cells #[.int .i64 dv] 3)) := (Keeps.refl w).alloc _
  have k1 : Keeps w ((w.alloc (.cells #[.int .i64 dv] 3)).alloc (.cells #[.int .i64 0, .int .i64 0, .string ⟨#[]⟩, .slice none 0 0, .slice none 0 0] 25)) := k0.alloc _
  have cE := Lib.hid (ended_any r s a _ (h.keeps k1))
  have fE : ((a : Int) == (s.size : Int)) = false := by simp; omega
  have HB := Lib.hid (heap_alloc_new (w.alloc (.cells #[.int .i64 dv] 3)) (.cells #[.int .i64 0, .int .i64 0, .string ⟨#[]⟩, .slice none 0 0, .slice none 0 0] 25))
  have hz : (w.alloc (.cells #[.int .i64 dv] 3)).heap.size = w.heap.size + 1 := by simp
  rw [hz] at HB
  have K1 := Lib.hid k1
  have HH := Lib.hid h
  have HV := Lib.hid hv
  have a2 := (hv.keeps k1).rd
  clear h hv k1 k0
  go_enter Tryd.func48, Tryd.ntmps48
  go_wp2_with fail
  refine cE.out.mono ?_
  rintro e w2 ⟨rfl, kk, hw2⟩
  have K2 : Hid (Keeps w w2) := Lib.hid (by rw [hw2]; exact K1.out.drewN kk)
  have B2 : Hid (w2.heap[w.heap.size + 1]? = some (.cells #[.int .i64 0, .int .i64 0, .string ⟨#[]⟩, .slice none 0 0, .slice none 0 0] 25 (0, 0))) := Lib.hid (by rw [hw2]; exact HB.out)
  rw [fE]
  clear hw2 a2
  have hr2 := HH.out.keeps K2.out
  have hv2 := HV.out.keeps K2.out
  have b0 := hr2.text
  have b1 := hr2.at
  have b2 := hv2.rd
  have b3 := hv2.mp
  have hlook : ∀ nn, (Instr.lookup 68 (.map (some mb)) (.int .u8 ((s[a]'hlt).toNat : Int)) true).run Tryd.prog (w2.drewN nn) = .ok (.tuple #[.nilFunc, .bool false]) (w2.drewN nn) := fun nn => by
    obtain ⟨v, h1, h2⟩ := kinds_look (w := w2.drewN nn) hv2.kinds (s[a]'hlt)
    obtain rfl := h2.2 hk
    rw [hk] at h1
    exact h1
  have hlook0 := hlook 0
  have q0 : (0 : Int) ≤ (a : Int) := by omega
  have q1 : (a : Int) < (s.size : Int) := by omega
  clear hr2 hv2 hk
  go_wp2
  go_quiet (fail)
  have K3 : Hid (Keeps w (w2.drewN nq)) := Lib.hid (K2.out.drewN nq)
  have B3 : Hid ((w2.drewN nq).heap[w.heap.size + 1]? = some (.cells #[.int .i64 0, .int .i64 0, .string ⟨#[]⟩, .slice none 0 0, .slice none 0 0] 25 (0, 0))) := Lib.hid B2.out
  clear b0 b1 b2 b3 hlook hlook0 K2 B2
  generalize w2.drewN nq = w3 at *
  obtain ⟨⟨c0, c1, c2, c3, c4⟩, f0, f1, f2, f3, f4⟩ := cells5 B3.out
  go_wp2
  (try simp only [Exit.inBlock, Exit.then])
  refine ret_j (w.heap.size + 1) _ rfl rfl (five_heap _ _ _ _ _ B3.out) rfl rfl ?_
  exact RetJ.bad (((Only.refl [r] w).keeps K3.out).five _ (.inr (Nat.le_succ _)) _ _ _ _ _) (by decide)
end Go.Proofs.YtljkeladdplhlaaDoor
namespace Go.Proofs.YtljkeladdplhlaaDoor
open Go.RowKit

set_option maxHeartbeats 2000000 in
set_option maxRecDepth 100000 in
theorem list_none (r : Nat) (s : ByteArray) (a : Nat) (w : World) : Calls Tryd.prog 68 #[.pointer (some ⟨r, 0, none⟩), .nilFunc] w (RetJ r s a w (jerr 7)) := by
  have k1 : Keeps w ((w.alloc (.cells #[.nilFunc] 92)).alloc (.cells #[.int .i64 0, .int .i64 0, .string ⟨#[]⟩, .slice none 0 0, .slice none 0 0] 25)) := ((Keeps.refl w).alloc _).alloc _
  have HB := heap_alloc_new (w.alloc (.cells #[.nilFunc] 92)) (.cells #[.int .i64 0, .int .i64 0, .string ⟨#[]⟩, .slice none 0 0, .slice none 0 0] 25)
  have hz : (w.alloc (.cells #[.nilFunc] 92)).heap.size = w.heap.size + 1 := by simp
  rw [hz] at HB
  have HB := Lib.hid HB
  have K1 := Lib.hid k1
  clear k1
  have hq : ∀ W, (binOp BinOp.eql 92 Value.nilFunc Value.nilFunc).run Tryd.prog W = .ok (.bool true) W := fun _ => by kernel_rfl
  go_enter Tryd.func68, Tryd.ntmps68
  go_wp2
  (try simp only [Exit.inBlock, Exit.then])
  refine ret_j (w.heap.size + 1) _ rfl rfl HB.out rfl rfl ?_
  exact RetJ.bad ((Only.refl [r] w).keeps K1.out) (by decide)
set_option maxHeartbeats 2000000 in
set_option maxRecDepth 100000 in
theorem object_none (r : Nat) (s : ByteArray) (a : Nat) (w : World) : Calls Tryd.prog 69 #[.pointer (some ⟨r, 0, none⟩), .nilFunc] w (RetJ r s a w (jerr 7)) := by
  have k1 : Keeps w (((w.alloc (.cells #[.pointer (some ⟨r, 0, none⟩)] 47)).alloc (.cells #[.nilFunc] 92)).alloc (.cells #[.int .i64 0, .int .i64 0, .string ⟨#[]⟩, .slice none 0 0, .slice none 0 0] 25)) := (((Keeps.refl w).alloc _).alloc _).alloc _
  have HB := heap_alloc_new ((w.alloc (.cells #[.pointer (some ⟨r, 0, none⟩)] 47)).alloc (.cells #[.nilFunc] 92)) (.cells #[.int .i64 0, .int .i64 0, .string ⟨#[]⟩, .slice none 0 0, .slice none 0 0] 25)
  have hz : ((w.alloc (.cells #[.pointer (some ⟨r, 0, none⟩)] 47)).alloc (.cells #[.nilFunc] 92)).heap.size = w.heap.size + 2 := by simp
  rw [hz] at HB
  have HB := Lib.hid HB
  have K1 := Lib.hid k1
  clear k1
  have hq : ∀ W, (binOp BinOp.eql 92 Value.nilFunc Value.nilFunc).run Tryd.prog W = .ok (.bool true) W := fun _ => by kernel_rfl
  go_enter Tryd.func69, Tryd.ntmps69
  go_wp2
  (try simp only [Exit.inBlock, Exit.then])
  refine ret_j (w.heap.size + 2) _ rfl rfl HB.out rfl rfl ?_
  exact RetJ.bad ((Only.refl [r] w).keeps K1.out) (by decide)

theorem kindN_of (c : UInt8) (li ob : List UInt8 → JR) (t : List UInt8) :
    (kindN c.toNat = 65 ∧ headJ li ob (c :: t) = textJ (c :: t)) ∨ (kindN c.toNat = 66 ∧ headJ li ob (c :: t) = numJ (c :: t)) ∨ (kindN c.toNat = 67 ∧ headJ li ob (c :: t) = wordJ (c :: t)) ∨ (kindN c.toNat = 68 ∧ headJ li ob (c :: t) = li (c :: t)) ∨ (kindN c.toNat = 69 ∧ headJ li ob (c :: t) = ob (c :: t)) ∨ (kindN c.toNat = 0 ∧ headJ li ob (c :: t) = jerr 5) := by
  simp only [headJ, kindN]
  by_cases h1 : c.toNat = 34
  · simp [h1]
  · by_cases h2 : c.toNat = 45 ∨ (48 ≤ c.toNat ∧ c.toNat ≤ 57)
    · have h3 : c.toNat = 45 ∨ digB c = true := by unfold digB; simpa using h2
      right; left
      rw [if_neg h1, if_pos h2, if_neg h1, if_pos h3]; exact ⟨rfl, rfl⟩
    · have h3 : ¬ (c.toNat = 45 ∨ digB c = true) := by unfold digB; simpa using h2
      rw [if_neg h1, if_neg h2, if_neg h1, if_neg h3]
      by_cases h4 : c.toNat = 116 ∨ c.toNat = 102 ∨ c.toNat = 110
      · right; right; left
        rw [if_pos h4, if_pos h4]; exact ⟨rfl, rfl⟩
      · rw [if_neg h4, if_neg h4]
        by_cases h5 : c.toNat = 91
        · right; right; right; left
          rw [if_pos h5, if_pos h5]; exact ⟨rfl, rfl⟩
        · rw [if_neg h5, if_neg h5]
          by_cases h6 : c.toNat = 123
          · right; right; right; right; left
            rw [if_pos h6, if_pos h6]; exact ⟨rfl, rfl⟩
          · right; right; right; right; right
            rw [if_neg h6, if_neg h6]; exact ⟨rfl, rfl⟩

/-- Where nothing may be inside. -/
theorem contents_zero (r : Nat) (s : ByteArray) (a : Nat) (rb kb cb mb : Nat) (w : World) (h : Rd w r s a) (hv : Env w r rb kb mb) (hu : Utf w) (ha : a ≤ s.size) (hs : s.size ≤ 100000) :
    Calls Tryd.prog 48 #[.int .i64 0, .pointer (some ⟨rb, 0, none⟩), .pointer (some ⟨kb, 0, none⟩), .pointer (some ⟨cb, 0, none⟩)] w (RetJ r s a w (valueJ 0 (s.data.toList.drop a))) := by
  by_cases hlt : a < s.size
  · have hll : (s.data.toList.drop a).length ≤ s.size := by simp
    have hb1 := unqL_le (s.data.toList.drop a)
    have hb2 := readL_le (s.data.toList.drop a)
    have cT : Hid (∀ w1, Keeps w w1 → Calls Tryd.prog 65 #[.pointer (some ⟨r, 0, none⟩), .nilFunc] w1 (RetJ r s a w1 (textJ (s.data.toList.drop a)))) := Lib.hid fun w1 k => literal_any r s a .nilFunc w1 (h.keeps k) (hu.keeps k) ha hs (by omega)
    have cN : Hid (∀ w1, Keeps w w1 → Calls Tryd.prog 66 #[.pointer (some ⟨r, 0, none⟩), .nilFunc] w1 (RetJ r s a w1 (numJ (s.data.toList.drop a)))) := Lib.hid fun w1 k => numberJ_any r s a .nilFunc w1 (h.keeps k) ha hs (by omega)
    have cW : Hid (∀ w1, Keeps w w1 → Calls Tryd.prog 67 #[.pointer (some ⟨r, 0, none⟩), .nilFunc] w1 (RetJ r s a w1 (wordJ (s.data.toList.drop a)))) := Lib.hid fun w1 k => wordJ_any r s a .nilFunc w1 (h.keeps k) ha hs
    show Calls _ _ _ _ (RetJ r s a w (headJ (fun _ => jerr 7) (fun _ => jerr 7) (s.data.toList.drop a)))
    have hd := drop_at s a hlt
    rcases kindN_of (s[a]'hlt) (fun _ => jerr 7) (fun _ => jerr 7) (s.data.toList.drop (a + 1)) with ⟨hk, e⟩ | ⟨hk, e⟩ | ⟨hk, e⟩ | ⟨hk, e⟩ | ⟨hk, e⟩ | ⟨hk, e⟩
    · rw [← hd] at e; rw [e]; exact con_65_z r s a rb kb cb mb _ w h hv hlt hs hk cT
    · rw [← hd] at e; rw [e]; exact con_66_z r s a rb kb cb mb _ w h hv hlt hs hk cN
    · rw [← hd] at e; rw [e]; exact con_67_z r s a rb kb cb mb _ w h hv hlt hs hk cW
    · rw [← hd] at e; rw [e]; exact con_68_z r s a rb kb cb mb _ w h hv hlt hs hk (Lib.hid fun w1 _ => list_none r s a w1)
    · rw [← hd] at e; rw [e]; exact con_69_z r s a rb kb cb mb _ w h hv hlt hs hk (Lib.hid fun w1 _ => object_none r s a w1)
    · rw [← hd] at e; rw [e]; exact con_bad r s a rb kb cb mb 0 w h hv hlt hs hk
  · rw [List.drop_eq_nil_of_le (by simp; omega)]
    exact con_end r s a rb kb cb mb 0 w h hv (by omega)
end Go.Proofs.YtljkeladdplhlaaDoor
