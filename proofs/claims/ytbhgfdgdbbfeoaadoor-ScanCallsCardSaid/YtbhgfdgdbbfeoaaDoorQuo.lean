/-
  The contract of Quote of package scan.
-/
import Derived.Test.YtbhgfdgdbbfeoaaDoorQru
namespace Go.Proofs.YtbhgfdgdbbfeoaaDoor
open Go.RowKit

theorem qr_any (B b : Nat) (acc : List UInt8) (r : Nat) (w : World) (h : Bd B b acc w) (hl : acc.length ≤ 900000) (hBw : B ≤ w.heap.size) (hr : r ≤ 2147483647) :
    Calls Tryd.prog 34 #[.pointer (some ⟨b, 0, none⟩), .int .i32 (r : Int)] w (RetW B b (acc ++ qrun r) w) := by
  by_cases h1 : r = 34
  · subst h1; exact qr_34 B b acc w h hl hBw
  by_cases h2 : r = 92
  · subst h2; exact qr_92 B b acc w h hl hBw
  by_cases h3 : r = 8
  · subst h3; exact qr_8 B b acc w h hl hBw
  by_cases h4 : r = 12
  · subst h4; exact qr_12 B b acc w h hl hBw
  by_cases h5 : r = 10
  · subst h5; exact qr_10 B b acc w h hl hBw
  by_cases h6 : r = 13
  · subst h6; exact qr_13 B b acc w h hl hBw
  by_cases h7 : r = 9
  · subst h7; exact qr_9 B b acc w h hl hBw
  by_cases h8 : r < 32
  · exact qr_low B b acc r w h hl hBw h8 h3 h4 h5 h6 h7
  · exact qr_plain B b acc r w h hl hBw hr (by omega) h1 h2

/-- What a literal is, or that there is none. -/
def quoR (l : List UInt8) : List UInt8 × Nat := if validL l = true then (quoteL l, 0) else ([], 6)
/-- A call that answers a text and an error. -/
def RetT (p : List UInt8 × Nat) (w : World) (e : Ending) (w' : World) : Prop := e = .returned (.tuple #[.string (S p.1), .int .i64 (p.2 : Int)]) ∧ Keeps w w'
theorem RetT.of {p : List UInt8 × Nat} {s : ByteArray} {x : Int} {w w' : World} (h0 : s = S p.1) (h1 : x = (p.2 : Int)) (k : Keeps w w') : RetT p w (.returned (.tuple #[.string s, .int .i64 x])) w' := ⟨by rw [h0, h1], k⟩

/-- A text in its literal's form, from one place on. -/
theorem told_step (l : List UInt8) (pos : Nat) (hp : pos < l.length) (hb : badD (decL (l.drop pos)) = false) :
    (l.take pos).flatMap told ++ qrun (decL (l.drop pos)).1 = (l.take (pos + (decL (l.drop pos)).2)).flatMap told := by
  have hg := dec_good (l.drop pos) (fun e => by have := List.drop_eq_nil_iff.1 e; omega) hb
  rw [List.take_add, List.flatMap_append, hg.2.2, qrun_enc]
/-- The rest of a valid text is valid. -/
theorem validF_len (k : Nat) : ∀ l : List UInt8, l.length ≤ k → ∀ j, l.length ≤ j → validF k l = validF j l := by
  induction k with
  | zero =>
    intro l hl j _
    have : l = [] := List.eq_nil_of_length_eq_zero (by omega)
    rw [validF_nil _ _ this, validF_nil _ _ this]
  | succ k ih =>
    intro l hl j hj
    cases l with
    | nil => rw [validF_nil _ _ rfl, validF_nil _ _ rfl]
    | cons c t =>
      obtain ⟨j, rfl⟩ : ∃ i, j = i + 1 := ⟨j - 1, by simp at hj; omega⟩
      have hd := dec_pos (c :: t)
      cases hb : badD (decL (c :: t))
      · rw [validF_good _ _ (by simp) hb, validF_good _ _ (by simp) hb]
        simp only [List.length_cons] at hl hj
        exact ih _ (by simp; omega) _ (by simp; omega)
      · rw [validF_bad _ _ (by simp) hb, validF_bad _ _ (by simp) hb]

theorem flat_told_len (l : List UInt8) : (l.flatMap told).length ≤ 6 * l.length := by
  induction l with
  | nil => simp
  | cons c t ih =>
    rw [List.flatMap_cons, List.length_append, List.length_cons]
    have := toldN_len c.toNat
    have h2 : (told c).length ≤ 6 := this
    omega

theorem own_iter {w : World} {B e size n : Nat} {v : Value} {xs : List Value} (h : w.ownsRow B e size v n xs) {k : Nat} {s : ByteArray} {pos : Nat} (hk : w.heap[k]? = some (.stringIter s pos)) (pos' : Nat) : (w.iterAt k s pos').ownsRow B e size v n xs := by
  refine ⟨h.1, ?_⟩
  rcases h.2 with h | ⟨g, cap, cur, hv, hB, hg, r⟩
  · exact .inl h
  · exact .inr ⟨g, cap, cur, hv, hB, by rw [Lib.iterAt_other _ _ _ _ _ (by rintro rfl; rw [hg] at hk; cases hk)]; exact hg, r⟩
theorem Bd.iterAt {B b : Nat} {l : List UInt8} {w : World} (h : Bd B b l w) {k : Nat} {s : ByteArray} {pos : Nat} (hk : w.heap[k]? = some (.stringIter s pos)) (pos' : Nat) : Bd B b l (w.iterAt k s pos') := by
  rcases h with ⟨hB, v, hbk, hown, hne⟩ | ⟨hB, v, hbk, hown, hne⟩
  · exact .inl ⟨hB, v, by rw [Lib.iterAt_other _ _ _ _ _ (by rintro rfl; rw [hbk] at hk; cases hk)]; exact hbk, own_iter hown hk _, hne⟩
  · exact .inr ⟨hB, v, by rw [Lib.iterAt_other _ _ _ _ _ (by rintro rfl; rw [hbk] at hk; cases hk)]; exact hbk, own_iter hown hk _, hne⟩

set_option maxHeartbeats 4000000 in
theorem quote_any (s : ByteArray) (w : World) (hs : s.size ≤ 100000) : Calls Tryd.prog 15 #[.string s] w (RetT (quoR s.data.toList) w) := by
  have hsl : s.data.toList.length = s.size := by simp
  have cV := Lib.hid (fun w1 => valid_any s w1 (by omega))
  unfold quoR
  cases hv : validL s.data.toList
  · rw [if_neg (by decide)]
    rw [hv] at cV
    clear hsl hv
    go_enter Tryd.func15, Tryd.ntmps15
    go_wp2_with fail
    refine (cV.out _).mono ?_
    rintro e w2 ⟨rfl, k2⟩
    go_wp2
    go_ret2
    exact RetT.of rfl rfl k2
  rw [if_pos rfl]
  rw [hv] at cV
  have hfl := flat_told_len
  have HL : Hid (∀ a, ((s.data.toList.take a).flatMap told).length ≤ 600000) := Lib.hid (fun a => by
    have h1 := hfl (s.data.toList.take a)
    have h2 : (s.data.toList.take a).length ≤ s.data.toList.length := by rw [List.length_take]; omega
    omega)
  have HD : Hid (∀ a, Utf8.decode s a = decL (s.data.toList.drop a)) := Lib.hid (fun a => decode_drop s a)
  have HN : Hid (∀ k, k < s.size → s.data.toList.drop k ≠ []) := Lib.hid (fun k hk e => by have := List.drop_eq_nil_iff.1 e; omega)
  have HT : Hid (∀ a, a < s.size → badD (decL (s.data.toList.drop a)) = false → (s.data.toList.take a).flatMap told ++ qrun (decL (s.data.toList.drop a)).1 = (s.data.toList.take (a + (decL (s.data.toList.drop a)).2)).flatMap told) := Lib.hid (fun a ha hb => told_step _ a (by omega) hb)
  have HG : Hid (∀ f a, a < s.size → validF (f + 1) (s.data.toList.drop a) = true → badD (decL (s.data.toList.drop a)) = false ∧ validF f (s.data.toList.drop (a + (decL (s.data.toList.drop a)).2)) = true) := Lib.hid (fun f a ha hvf => by
    have hn : s.data.toList.drop a ≠ [] := fun e => by have := List.drop_eq_nil_iff.1 e; omega
    cases hb : badD (decL (s.data.toList.drop a))
    · rw [validF_good _ _ hn hb, List.drop_drop] at hvf
      exact ⟨rfl, hvf⟩
    · rw [validF_bad _ _ hn hb] at hvf
      exact absurd hvf (by decide))
  have H0 : Hid (validF s.size (s.data.toList.drop 0) = true) := Lib.hid (by rw [← hv, ← hsl]; rfl)
  have HQ : Hid (∀ a, s.size ≤ a → [34] ++ (s.data.toList.take a).flatMap told ++ [34] = quoteL s.data.toList) := Lib.hid (fun a ha => by rw [List.take_of_length_le (by omega)]; simp [quoteL])
  generalize quoteL s.data.toList = q at *
  generalize s.data.toList = l at *
  clear hsl hv hfl
  have cQ := Lib.hid (fun B b acc r w1 h1 h2 h3 h4 => qr_any B b acc r w1 h1 h2 h3 h4)
  have cB := Lib.hid (fun B b acc w1 h1 h2 h3 => wb_any B b acc 34 w1 h1 h2 h3)
  have cS := Lib.hid (fun B b (r : List UInt8) (w1 : World) h1 h2 => Tryd.Builder_String_any B b r w1 h1 h2)
  go_enter Tryd.func15, Tryd.ntmps15
  go_wp2_with fail
  refine (cV.out _).mono ?_
  rintro e w1 ⟨rfl, k1⟩
  have K1 := Lib.hid k1
  clear k1
  have HB0 : Hid (Bd w1.heap.size w1.heap.size [] (w1.alloc (.cells #[.pointer none, .slice none 0 0] 46))) := Lib.hid (Lib.fresh_isBuilder 46 5 w1)
  go_wp2_with fail
  refine (cB.out w1.heap.size w1.heap.size [] _ HB0.out (by simp) (by simp)).mono ?_
  rintro e w2 ⟨rfl, hB2, hK2⟩
  have HB2 := Lib.hid hB2
  have HK2 : Hid (Keeps w1 w2) := Lib.hid (Below.trans ((Keeps.refl w1).alloc _) hK2.1)
  have hz2 : w1.heap.size < w2.heap.size := by
    have := hK2.1.size
    simp at this; omega
  clear hB2 hK2
  go_wp2
  go_loopw [] (fun wr => ∃ pos fuel : Nat, wr.heap[w2.heap.size]? = some (.stringIter s pos) ∧ Hid (Keeps w1 wr) ∧ Hid (Bd w1.heap.size w1.heap.size ([34] ++ (l.take pos).flatMap told) wr) ∧ Hid (validF fuel (l.drop pos) = true) ∧ s.size ≤ pos + fuel) (fun wr => s.size - wr.iterPos w2.heap.size)
  case atStart => exact ⟨0, s.size, World.iter_heap w2 s 0, Lib.hid (HK2.out.alloc _), Lib.hid (HB2.out.keeps ((Keeps.refl _).alloc _)), H0, by omega⟩
  case round =>
    obtain ⟨pos, fuel, hit, hK, hB, hV, hf⟩ := hrel
    have hzr := (Array.getElem?_eq_some_iff.1 hit).1
    by_cases hp : pos < s.size
    · have hnx : ∀ ty, (Instr.next (.pointer (some ⟨w2.heap.size, 0, none⟩)) true ty).run Tryd.prog wr = _ := fun ty => Lib.run_next_any_at wr w2.heap.size s pos ty hit hp
      have hit2 := Lib.hid (Lib.iterAt_heap wr w2.heap.size s pos (pos + (Utf8.decode s pos).2) hit)
      have hK2 : Hid (Keeps w1 (wr.iterAt w2.heap.size s (pos + (Utf8.decode s pos).2))) := Lib.hid (Lib.below_iterAt hK.out (by omega) s _)
      have hBi := Lib.hid (hB.out.iterAt hit (pos + (Utf8.decode s pos).2))
      have hzi : w2.heap.size < (wr.iterAt w2.heap.size s (pos + (Utf8.decode s pos).2)).heap.size := by rw [Lib.iterAt_size]; exact hzr
      obtain ⟨f, rfl⟩ : ∃ f, fuel = f + 1 := ⟨fuel - 1, by omega⟩
      have hpos := dec_pos (l.drop pos)
      have hle := dec_le (l.drop pos)
      obtain ⟨hbd, hvn⟩ := HG.out f pos hp hV.out
      have HV2 := Lib.hid hvn
      have HT2 := Lib.hid (HT.out pos hp hbd)
      rw [HD.out pos] at hnx hit2 hK2 hBi hzi
      have hll := HL.out pos
      clear hvn hbd hB
      generalize decL (l.drop pos) = d at *
      obtain ⟨r, n⟩ := d
      simp only at hpos hle
      have cQ1 := Lib.hid (cQ.out w1.heap.size w1.heap.size _ r _ hBi.out (by rw [List.length_append, List.length_singleton]; omega) (by omega) hle)
      clear hle
      go_wp2_with fail
      refine cQ1.out.mono ?_
      rintro e w4 ⟨rfl, hB4, hK4⟩
      have hit4 := Lib.hid (hK4.2.iter hit2.out (by omega))
      have HB4 : Hid (Bd w1.heap.size w1.heap.size ([34] ++ (l.take (pos + n)).flatMap told) w4) := Lib.hid (by rw [← HT2.out, ← List.append_assoc]; exact hB4)
      have HK4 := Lib.hid (Below.trans hK2.out hK4.1)
      clear hB4 hK4
      go_wp2
      go_roundw
      case rel => exact ⟨pos + n, f, hit4.out, HK4, HB4, HV2, by omega⟩
      case measure =>
        simp only [World.iterPos, hit4.out, hit]
        omega
    · have hnx : ∀ ty, (Instr.next (.pointer (some ⟨w2.heap.size, 0, none⟩)) true ty).run Tryd.prog wr = _ := fun ty => Lib.run_next_end_at wr w2.heap.size s pos ty hit hp
      have hll := HL.out pos
      have cB1 := Lib.hid (cB.out w1.heap.size w1.heap.size _ wr hB.out (by rw [List.length_append, List.length_singleton]; omega) (by omega))
      have HQ1 := Lib.hid (HQ.out pos (by omega))
      clear hll
      go_wp2_with fail
      refine cB1.out.mono ?_
      rintro e w4 ⟨rfl, hB4, hK4⟩
      have HB4 := Lib.hid hB4
      have hz4 : w1.heap.size ≤ w4.heap.size := by have := hK4.1.size; omega
      have HK4 := Lib.hid (Below.trans hK.out hK4.1)
      clear hB4 hK4
      go_wp2_with fail
      refine (cS.out w1.heap.size w1.heap.size _ _ HB4.out hz4).mono ?_
      rintro e w5 ⟨rfl, hb5⟩
      have HK5 := Lib.hid (Below.trans HK4.out hb5)
      clear hb5
      go_wp2
      go_ret2
      exact RetT.of (by rw [← HQ1.out]; rfl) rfl (Keeps.trans K1.out HK5.out)
end Go.Proofs.YtbhgfdgdbbfeoaaDoor
