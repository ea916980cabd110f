/-
  The contracts of Valid, quoteRune and Quote of package scan.
-/
import Derived.Test.YtljkeladdplhlaaDoorUnq
namespace Go.Proofs.YtljkeladdplhlaaDoor
open Go.RowKit

theorem validF_bad (k : Nat) (l : List UInt8) (h : l ≠ []) (e : badD (decL l) = true) : validF (k + 1) l = false := by
  cases l with
  | nil => exact absurd rfl h
  | cons c t => rw [validF, if_pos e]
theorem validF_good (k : Nat) (l : List UInt8) (h : l ≠ []) (e : badD (decL l) = false) : validF (k + 1) l = validF k (l.drop (decL l).2) := by
  cases l with
  | nil => exact absurd rfl h
  | cons c t => rw [validF, if_neg (by rw [e]; decide)]
theorem validF_nil (k : Nat) (l : List UInt8) (h : l = []) : validF k l = true := by subst h; cases k <;> rfl

set_option maxHeartbeats 4000000 in
theorem valid_any (s : ByteArray) (w : World) (hs : s.size ≤ 1000000) : Calls Tryd.prog 63 #[.string s] w (Ret (.bool (validL s.data.toList)) w) := by
  have hsl : s.data.toList.length = s.size := by simp
  have cR : Hid (∀ (a : Nat) w1, Calls Tryd.prog 75 #[.string (s.extract a s.size)] w1 (fun e w' => e = .returned (.bool (Lib.hasPrefix (s.data.toList.drop a) [239, 191, 189])) ∧ w' = w1)) := Lib.hid (fun a w1 => by have := replacement_any (s.extract a s.size) w1; rwa [ext_drop] at this)
  have HD : Hid (∀ a, Utf8.decode s a = decL (s.data.toList.drop a)) := Lib.hid (fun a => decode_drop s a)
  have HN : Hid (∀ k, k < s.size → s.data.toList.drop k ≠ []) := Lib.hid (fun k hk e => by have := List.drop_eq_nil_iff.1 e; omega)
  have HE : Hid (∀ a, s.size ≤ a → s.data.toList.drop a = []) := Lib.hid (fun a h => List.drop_eq_nil_of_le (by omega))
  obtain ⟨v, hv⟩ : ∃ v, validL s.data.toList = v := ⟨_, rfl⟩
  rw [hv]
  have H0 : Hid (validF s.size (s.data.toList.drop 0) = v) := Lib.hid (by rw [← hv, ← hsl]; rfl)
  clear hv
  generalize s.data.toList = l at *
  clear hsl
  go_enter Tryd.func63, Tryd.ntmps63
  go_wp2
  go_loopw [] (fun wr => ∃ pos fuel : Nat, wr.heap[w.heap.size]? = some (.stringIter s pos) ∧ Hid (Keeps w wr) ∧ Hid (validF fuel (l.drop pos) = v) ∧ s.size ≤ pos + fuel) (fun wr => s.size - wr.iterPos w.heap.size)
  case atStart => exact ⟨0, s.size, World.iter_heap w s 0, Lib.hid ((Keeps.refl _).alloc _), H0, by omega⟩
  case round =>
    obtain ⟨pos, fuel, hit, hK, hV, hf⟩ := hrel
    by_cases hp : pos < s.size
    · have hnx : ∀ ty, (Instr.next (.pointer (some ⟨w.heap.size, 0, none⟩)) true ty).run Tryd.prog wr = _ := fun ty => Lib.run_next_any_at wr w.heap.size s pos ty hit hp
      have hit2 := Lib.hid (Lib.iterAt_heap wr w.heap.size s pos (pos + (Utf8.decode s pos).2) hit)
      have hK2 : Hid (Keeps w (wr.iterAt w.heap.size s (pos + (Utf8.decode s pos).2))) := Lib.hid (Lib.below_iterAt hK.out (Nat.le_refl _) s _)
      obtain ⟨f, rfl⟩ : ∃ f, fuel = f + 1 := ⟨fuel - 1, by omega⟩
      have hpos := dec_pos (l.drop pos)
      have cR1 := Lib.hid (fun w1 => cR.out pos w1)
      rw [HD.out pos] at hnx hit2 hK2
      have hb := prefix_bad (l.drop pos) (HN.out pos hp)
      cases hbd : badD (decL (l.drop pos))
      · have hVg := Lib.hid (show validF f (l.drop (pos + (decL (l.drop pos)).2)) = v by
          rw [← hV.out, validF_good _ _ (HN.out pos hp) hbd, List.drop_drop])
        by_cases h5 : (decL (l.drop pos)).1 = 65533
        · rw [hb h5, hbd] at cR1
          have h5' := Lib.hid (show (((decL (l.drop pos)).1 : Int) == 65533) = true by simp; omega)
          clear hb hbd h5 hV
          generalize decL (l.drop pos) = d at *
          obtain ⟨r, n⟩ := d
          have d5 := h5'.out
          go_wp2_with fail
          refine (cR1.out _).mono ?_
          rintro e w2 ⟨rfl, rfl⟩
          go_wp2
          go_roundw
          case rel => exact ⟨pos + n, f, hit2.out, hK2, hVg, by omega⟩
          case measure =>
            simp only [World.iterPos, hit2.out, hit]
            omega
        · have h5' := Lib.hid (show (((decL (l.drop pos)).1 : Int) == 65533) = false by simp; omega)
          clear hb hbd h5 hV
          generalize decL (l.drop pos) = d at *
          obtain ⟨r, n⟩ := d
          have d5 := h5'.out
          go_wp2
          go_roundw
          case rel => exact ⟨pos + n, f, hit2.out, hK2, hVg, by omega⟩
          case measure =>
            simp only [World.iterPos, hit2.out, hit]
            omega
      · have hVb := Lib.hid (show v = false by rw [← hV.out, validF_bad _ _ (HN.out pos hp) hbd])
        have h5 : (decL (l.drop pos)).1 = 65533 := by
          simp [badD] at hbd; exact hbd.1
        rw [hb h5, hbd] at cR1
        have h5' := Lib.hid (show (((decL (l.drop pos)).1 : Int) == 65533) = true by simp; omega)
        clear hb hbd h5 hV
        generalize decL (l.drop pos) = d at *
        obtain ⟨r, n⟩ := d
        have d5 := h5'.out
        go_wp2_with fail
        refine (cR1.out _).mono ?_
        rintro e w2 ⟨rfl, rfl⟩
        go_wp2
        go_ret
        exact Ret.bool (by rw [hVb.out]) hK2.out
    · have hx := hV.out
      rw [validF_nil _ _ (HE.out pos (by omega))] at hx
      have HX := Lib.hid hx
      clear hx hV
      have hnx : ∀ ty, (Instr.next (.pointer (some ⟨w.heap.size, 0, none⟩)) true ty).run Tryd.prog wr = _ := fun ty => Lib.run_next_end_at wr w.heap.size s pos ty hit hp
      go_wp2
      go_ret
      exact Ret.bool (by rw [← HX.out]) hK.out
end Go.Proofs.YtljkeladdplhlaaDoor
