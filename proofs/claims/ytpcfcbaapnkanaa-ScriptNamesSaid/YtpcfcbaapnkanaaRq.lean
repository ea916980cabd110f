/-
  The reader's script.
-/
import Derived.Test.YtpcfcbaapnkanaaRm
namespace Go.Proofs.Ytpcfcbaapnkanaa
open Go.RowKit

/-- A script that was read, behind which nothing follows. -/
def scrP : PS.Rd Sc := fun l => match PS.scrR K0 l with
  | .error e => .error e
  | .ok (s, r) => if r ≠ [] then .error 5 else .ok (s, r)
theorem scrP_err {l : List UInt8} {e : Int} (h : PS.scrR K0 l = .error e) : scrP l = .error e := by unfold scrP; rw [h]
theorem scrP_ok {l : List UInt8} {s : Sc} (h : PS.scrR K0 l = .ok (s, [])) : scrP l = .ok (s, []) := by unfold scrP; rw [h]; simp
theorem scrP_bad {l r : List UInt8} {s : Sc} (h : PS.scrR K0 l = .ok (s, r)) (hr : r ≠ []) : scrP l = .error 5 := by unfold scrP; rw [h]; simp [hr]
def Vsc (B : Nat) (s : Sc) (w : World) (v : Value) : Prop := ∃ A c ms, v = .agg (scC s.bot s.secs A (List.length ms) c) ∧ steps ms = s.steps ∧ MsRow w B (.slice A ms.length c) ms ∧ ∀ m, m ∈ ms → MsOwn w B m

theorem Blk.three {w : World} {q : Nat} {a0 a1 a2 : Value} {t : TypeId} (h : Blk w q #[a0, a1, a2] t) :
    w.cell? ⟨q, 0, none⟩ = some a0 ∧ w.cell? ⟨q, 1, none⟩ = some a1 ∧ w.cell? ⟨q, 2, none⟩ = some a2 ∧ w.frozen? ⟨q, 0, none⟩ = false ∧ w.frozen? ⟨q, 1, none⟩ = false ∧ w.frozen? ⟨q, 2, none⟩ = false :=
  ⟨h.cell rfl, h.cell rfl, h.cell rfl, h.frozen _, h.frozen _, h.frozen _⟩
theorem Blk.set30 {w : World} {q : Nat} {a0 a1 a2 : Value} {t : TypeId} (h : Blk w q #[a0, a1, a2] t) (b : Value) : Blk (w.setCell ⟨q, 0, none⟩ b) q #[b, a1, a2] t := by
  have h7 := h.set 0 b
  have e : (#[a0, a1, a2].setIfInBounds 0 b : Array Value) = #[b, a1, a2] := by simp
  rw [e] at h7; exact h7
theorem Blk.set31 {w : World} {q : Nat} {a0 a1 a2 : Value} {t : TypeId} (h : Blk w q #[a0, a1, a2] t) (b : Value) : Blk (w.setCell ⟨q, 1, none⟩ b) q #[a0, b, a2] t := by
  have h7 := h.set 1 b
  have e : (#[a0, a1, a2].setIfInBounds 1 b : Array Value) = #[a0, b, a2] := by simp
  rw [e] at h7; exact h7
theorem Blk.set32 {w : World} {q : Nat} {a0 a1 a2 : Value} {t : TypeId} (h : Blk w q #[a0, a1, a2] t) (b : Value) : Blk (w.setCell ⟨q, 2, none⟩ b) q #[a0, a1, b] t := by
  have h7 := h.set 2 b
  have e : (#[a0, a1, a2].setIfInBounds 2 b : Array Value) = #[a0, a1, b] := by simp
  rw [e] at h7; exact h7
theorem Blk.sets3 {w : World} {q : Nat} {a0 a1 a2 : Value} {t : TypeId} (h : Blk w q #[a0, a1, a2] t) (b0 b1 b2 : Value) : Blk (((w.setCell ⟨q, 0, none⟩ b0).setCell ⟨q, 1, none⟩ b1).setCell ⟨q, 2, none⟩ b2) q #[b0, b1, b2] t := ((h.set30 b0).set31 b1).set32 b2
theorem Only.sets3 (q : Nat) (w : World) (b0 b1 b2 : Value) : Only q w (((w.setCell ⟨q, 0, none⟩ b0).setCell ⟨q, 1, none⟩ b1).setCell ⟨q, 2, none⟩ b2) :=
  (((Only.refl q w).set _ (.inl rfl) b0).set _ (.inl rfl) b1).set _ (.inl rfl) b2
theorem Only.set1 (q j : Nat) (w : World) (b : Value) : Only q w (w.setCell ⟨q, j, none⟩ b) := (Only.refl q w).set _ (.inl rfl) b
/-- What a block turned of a new one is: nothing of what was. -/
theorem Only.new {g q : Nat} {a b c : World} (h : Only g a b) (k : Only q b c) (hq : a.heap.size ≤ q) : Only g a c :=
  ⟨k.os.trans h.os, k.tape.trans h.tape, k.output.trans h.output, Nat.le_trans h.size k.size, fun i hi hx => (k.block i (Nat.lt_of_lt_of_le hi h.size) (by omega)).trans (h.block i hi hx)⟩

set_option maxHeartbeats 8000000 in
set_option maxRecDepth 100000 in
theorem script_any (g : Nat) (l : List UInt8) (w : World) (hs : l.length ≤ 6000000) (h : HasRest w g (S l)) : Calls Try.prog 27 #[.pointer (some ⟨g, 0, none⟩)] w (Rds scrP (Vsc w.heap.size) g l w) := by
  have hgl := h.lt
  have hmf : ∀ (fn : Fn) (first cap : Array Value) (w : World), (Instr.makeFunc fn first cap).run Try.prog w = .ok (.func fn first cap) w := fun _ _ _ _ => rfl
  have c1 := Lib.hid (byte_any g l ((w.alloc (.cells #[.string ⟨#[]⟩, .int .i64 0, .slice none 0 0] 25)).alloc (.cells #[.string ⟨#[]⟩, .int .i64 0, .slice none 0 0] 25)) hs ((h.alloc _).alloc _))
  have R0 := Lib.hid ((Blk.new w #[.string ⟨#[]⟩, .int .i64 0, .slice none 0 0] 25).alloc (.cells #[.string ⟨#[]⟩, .int .i64 0, .slice none 0 0] 25))
  have T0 := Lib.hid (show Blk ((w.alloc (.cells #[.string ⟨#[]⟩, .int .i64 0, .slice none 0 0] 25)).alloc (.cells #[.string ⟨#[]⟩, .int .i64 0, .slice none 0 0] 25)) (w.heap.size + 1) #[.string ⟨#[]⟩, .int .i64 0, .slice none 0 0] 25 from by have := Blk.new (w.alloc (.cells #[.string ⟨#[]⟩, .int .i64 0, .slice none 0 0] 25)) #[.string ⟨#[]⟩, .int .i64 0, .slice none 0 0] 25; simpa using this)
  have O0 := Lib.hid (((Only.refl g w).alloc (.cells #[.string ⟨#[]⟩, .int .i64 0, .slice none 0 0] 25)).alloc (.cells #[.string ⟨#[]⟩, .int .i64 0, .slice none 0 0] 25))
  have hne : w.heap.size ≠ g := by omega
  have hne1 : w.heap.size + 1 ≠ g := by omega
  clear h
  go_enter Try.func27, Try.ntmps27
  go_wp2_with fail
  refine c1.out.mono ?_
  rintro e w1 hR
  cases hb : PS.byteR l with
  | error e0 =>
    obtain ⟨ho, rfl⟩ := Rds.of_error hb hR
    have HE := Lib.hid (scrP_err (show PS.scrR K0 l = .error e0 from by unfold PS.scrR PS.Rd.bind; rw [hb]))
    have HO := Lib.hid (O0.out.trans ho)
    clear hR ho hb
    go_wp2
    exact ⟨rfl, Rds.fault (V := Vsc w.heap.size) HE.out HO.out⟩
  | ok q =>
    obtain ⟨n, l1⟩ := q
    obtain ⟨ho, v, rfl, rfl, hr⟩ := Rds.of_ok hb hR
    have HO1 := Lib.hid (O0.out.trans ho)
    have R1 := Lib.hid (R0.out.only ho hne)
    have T1 := Lib.hid (T0.out.only ho hne1)
    have hl1 := PS.byte_len hb
    have HB1 := Lib.hid hb
    have c2 := Lib.hid (take_any g n l1 w1 (Nat.le_trans hl1.1 hs) hr)
    clear hR ho hb hr
    go_wp2_with fail
    refine c2.out.mono ?_
    rintro e w2 hR
    cases hb : PS.takeR n l1 with
    | error e0 =>
      obtain ⟨ho, rfl⟩ := Rds.of_error hb hR
      have HE := Lib.hid (scrP_err (show PS.scrR K0 l = .error e0 from by unfold PS.scrR PS.Rd.bind; rw [HB1.out]; simp only; rw [hb]))
      have HO := Lib.hid (HO1.out.trans ho)
      clear hR ho hb
      go_wp2
      exact ⟨rfl, Rds.fault (V := Vsc w.heap.size) HE.out HO.out⟩
    | ok q =>
      obtain ⟨b, l2⟩ := q
      obtain ⟨ho, v, rfl, rfl, hr⟩ := Rds.of_ok hb hR
      have T2 := Lib.hid (T1.out.only ho hne1)
      have T2s := Lib.hid (T2.out.set30 (.string (S b)))
      have R2s := Lib.hid ((R1.out.only ho hne).far (r := w.heap.size + 1) (by omega) 0 (.string (S b)))
      have HO2 := Lib.hid ((HO1.out.trans ho).new (Only.set1 (w.heap.size + 1) 0 w2 (.string (S b))) (by omega))
      have HR2 := Lib.hid (hr.only (Only.set1 (w.heap.size + 1) 0 w2 (.string (S b))) (Ne.symm hne1))
      have hl2 := PS.take_len hb
      have HB2 := Lib.hid hb
      have c3 := Lib.hid (numS_any g l2 _ (Nat.le_trans hl2.1 (Nat.le_trans hl1.1 hs)) HR2.out)
      obtain ⟨t0, t1, t2, z0, z1, z2⟩ := T2.out.three
      clear hR ho hb hr
      go_wp2_with fail
      clear t0 t1 t2 z0 z1 z2
      refine c3.out.mono ?_
      rintro e w3 hR
      cases hb : PS.numR l2 with
      | error e0 =>
        obtain ⟨ho, rfl⟩ := Rds.of_error hb hR
        have HE := Lib.hid (scrP_err (show PS.scrR K0 l = .error e0 from by unfold PS.scrR PS.Rd.bind; rw [HB1.out]; simp only; rw [HB2.out]; simp only; rw [hb]))
        have HO := Lib.hid (HO2.out.trans ho)
        clear hR ho hb
        go_wp2
        exact ⟨rfl, Rds.fault (V := Vsc w.heap.size) HE.out HO.out⟩
      | ok q =>
        obtain ⟨qn, l3⟩ := q
        obtain ⟨ho, v, rfl, rfl, hr⟩ := Rds.of_ok hb hR
        have T3 := Lib.hid (T2s.out.only ho hne1)
        have T3s := Lib.hid (T3.out.set31 (.int .i64 qn))
        have R3s := Lib.hid ((R2s.out.only ho hne).far (r := w.heap.size + 1) (by omega) 1 (.int .i64 qn))
        have HO3 := Lib.hid ((HO2.out.trans ho).new (Only.set1 (w.heap.size + 1) 1 w3 (.int .i64 qn)) (by omega))
        have HR3 := Lib.hid (hr.only (Only.set1 (w.heap.size + 1) 1 w3 (.int .i64 qn)) (Ne.symm hne1))
        have hl3 := PS.numR_len hb
        have HB3 := Lib.hid hb
        have hl3' : l3.length ≤ 6000000 := by omega
        have c4 := Lib.hid (numS_any g l3 _ hl3' HR3.out)
        obtain ⟨t0, t1, t2, z0, z1, z2⟩ := T3.out.three
        clear hR ho hb hr
        go_wp2_with fail
        clear t0 t1 t2 z0 z1 z2
        refine c4.out.mono ?_
        rintro e w4 hR
        cases hb : PS.numR l3 with
        | error e0 =>
          obtain ⟨ho, rfl⟩ := Rds.of_error hb hR
          have HE := Lib.hid (scrP_err (show PS.scrR K0 l = .error e0 from by unfold PS.scrR PS.Rd.bind; rw [HB1.out]; simp only; rw [HB2.out]; simp only; rw [HB3.out]; simp only; rw [hb]))
          have HO := Lib.hid (HO3.out.trans ho)
          clear hR ho hb
          go_wp2
          exact ⟨rfl, Rds.fault (V := Vsc w.heap.size) HE.out HO.out⟩
        | ok q =>
          obtain ⟨k, l4⟩ := q
          obtain ⟨ho, v, rfl, rfl, hr⟩ := Rds.of_ok hb hR
          have T4 := Lib.hid (T3s.out.only ho hne1)
          have R4 := Lib.hid (R3s.out.only ho hne)
          have HO4 := Lib.hid (HO3.out.trans ho)
          have hl4 := PS.numR_len hb
          have hk4 := (PS.num_back hb).2
          have HB4 := Lib.hid hb
          have c5 := Lib.hid (listS_any g k l4 w4 (by omega) (by omega) hr)
          have hsz4 : w.heap.size + 1 < w4.heap.size := blk_lt T4.out
          clear hR ho hb hr
          go_wp2_with fail
          refine c5.out.mono ?_
          rintro e w5 hR
          cases hb : PS.listR (PS.stepR K0) k l4 with
          | error e0 =>
            obtain ⟨ho, rfl⟩ := Rds.of_error hb hR
            have HE := Lib.hid (scrP_err (show PS.scrR K0 l = .error e0 from by unfold PS.scrR PS.Rd.bind; rw [HB1.out]; simp only; rw [HB2.out]; simp only; rw [HB3.out]; simp only; rw [HB4.out]; simp only; rw [hb]))
            have HO := Lib.hid (HO4.out.trans ho)
            clear hR ho hb
            go_wp2
            exact ⟨rfl, Rds.fault (V := Vsc w.heap.size) HE.out HO.out⟩
          | ok q =>
            obtain ⟨ss, l5⟩ := q
            obtain ⟨ho, v, rfl, ⟨ms, rfl, hrow, hmo⟩, hr⟩ := Rds.of_ok hb hR
            have HE0 := Lib.hid (show PS.scrR K0 l = .ok (⟨b, qn, steps ms⟩, l5) from by unfold PS.scrR PS.Rd.bind; rw [HB1.out]; simp only; rw [HB2.out]; simp only; rw [HB3.out]; simp only; rw [HB4.out]; simp only; rw [hb]; rfl)
            obtain ⟨A, cc, rfl, -⟩ := SRow.rows msC_size hrow
            have HO5 := Lib.hid ((HO4.out.trans ho).new (Only.set1 (w.heap.size + 1) 2 w5 (.slice A ms.length cc)) (by omega))
            have T5 := Lib.hid (T4.out.only ho hne1)
            have T5s := Lib.hid (T5.out.set32 (.slice A ms.length cc))
            have R5s := Lib.hid ((R4.out.only ho hne).far (r := w.heap.size + 1) (by omega) 2 (.slice A ms.length cc))
            have HR5 := Lib.hid (hr.only (Only.set1 (w.heap.size + 1) 2 w5 (.slice A ms.length cc)) (Ne.symm hne1))
            have HRow5 := Lib.hid ((Only.set1 (w.heap.size + 1) 2 w5 (.slice A ms.length cc)).row hrow (by omega))
            have HMs5 : Hid (∀ m, m ∈ ms → MsOwn (w5.setCell ⟨w.heap.size + 1, 2, none⟩ (.slice A ms.length cc)) w4.heap.size m) := Lib.hid (fun m hm => (Only.set1 (w.heap.size + 1) 2 w5 (.slice A ms.length cc)).row (hmo m hm) (by omega))
            obtain ⟨t0, t1, t2, z0, z1, z2⟩ := T5.out.three
            have hrc := HR5.out.1
            clear hR ho hb hr hrow hmo
            by_cases h5 : l5 = []
            · subst h5
              have HE := Lib.hid (scrP_ok HE0.out)
              have HRowz := Lib.hid ((Only.sets3 w.heap.size _ (.string (S b)) (.int .i64 qn) (.slice A ms.length cc)).row HRow5.out (by omega))
              have HMsz : Hid (∀ m, m ∈ ms → MsOwn _ w4.heap.size m) := Lib.hid (fun m hm => (Only.sets3 w.heap.size _ (.string (S b)) (.int .i64 qn) (.slice A ms.length cc)).row (HMs5.out m hm) (by omega))
              have HOz := Lib.hid (HO5.out.new (Only.sets3 w.heap.size _ (.string (S b)) (.int .i64 qn) (.slice A ms.length cc)) (Nat.le_refl _))
              have HRz := Lib.hid (HR5.out.only (Only.sets3 w.heap.size _ (.string (S b)) (.int .i64 qn) (.slice A ms.length cc)) (Ne.symm hne))
              generalize hnl : ms.length = nl at *
              have HNL := Lib.hid hnl
              clear hnl
              obtain ⟨u0, u1, u2, -, -, -⟩ := T5s.out.three
              obtain ⟨a0, a1, a2, x0, x1, x2⟩ := R5s.out.three
              have hse : (S []).toList.isEmpty = true := by rw [ByteArray.toList_eq]; rfl
              go_wp2
              obtain ⟨y0, y1, y2, -, -, -⟩ := (R5s.out.sets3 (.string (S b)) (.int .i64 qn) (.slice A nl cc)).three
              refine bodyPost_ret (v := .agg #[.string (S b), .int .i64 qn, .slice A nl cc]) (by simp [results, Try.results27, go_sem, y0, y1, y2]) rfl (Rds.ok HE.out HOz.out ⟨A, cc, ms, ?_, rfl, ?_, ?_⟩ HRz.out)
              · unfold scC
                simp only
                rw [HNL.out]
              · have h9 := HRowz.out
                unfold MsRow SRow
                rw [HNL.out]
                refine ⟨h9.1, h9.2.imp id ?_⟩
                rintro ⟨g0, cap, cur, e1, hb0, hg0, r0⟩
                exact ⟨g0, cap, cur, e1, by omega, hg0, r0⟩
              · exact fun m hm => MsOwn.mono (HMsz.out m hm) (by omega)
            · have HE := Lib.hid (scrP_bad HE0.out h5)
              have hse : (S l5).toList.isEmpty = false := by
                rw [ByteArray.toList_eq, S_data]
                simpa using h5
              generalize ms.length = nl at *
              clear h5
              go_wp2
              exact ⟨rfl, Rds.fault (V := Vsc w.heap.size) HE.out HO5.out⟩
end Go.Proofs.Ytpcfcbaapnkanaa
