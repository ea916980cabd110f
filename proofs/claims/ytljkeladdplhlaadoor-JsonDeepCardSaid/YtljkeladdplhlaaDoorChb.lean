/-
  What Check asks of a value alone, of package json: its number, its fields.
-/
import Derived.Test.YtljkeladdplhlaaDoorPar
namespace Go.Proofs.YtljkeladdplhlaaDoor
open Go.RowKit

def mostN : Int := 9007199254740991
def numB (k n : Int) : Bool := if k = 2 then n == 0 || n == 1 else if k = 3 then decide (-mostN ≤ n) && decide (n ≤ mostN) else n == 0
def fldB (k : Int) (t : List UInt8) (nk ni : Nat) : Bool :=
  if k = 4 then nk == 0 && ni == 0 else if k = 5 then t.isEmpty && nk == 0 else if k = 6 then t.isEmpty && nk == ni else t.isEmpty && nk == 0 && ni == 0

set_option maxHeartbeats 4000000 in
set_option maxRecDepth 1000000 in
theorem num_any (k n : Int) (t : ByteArray) (ka ia : Option Addr) (kl kc il ic : Nat) (w : World) : Calls Tryd.prog 61 #[.agg #[.int .i64 k, .int .i64 n, .string t, .slice ka kl kc, .slice ia il ic]] w (fun e w' => e = .returned (.bool (numB k n)) ∧ Keeps w w') := by
  have K1 := Lib.hid ((Keeps.refl w).alloc (.cells #[.int .i64 k, .int .i64 n, .string t, .slice ka kl kc, .slice ia il ic] 25))
  by_cases h2 : k = 2
  · have f2 : (k == 2) = true := by simpa using h2
    have HN := Lib.hid (show numB k n = (n == 0 || n == 1) by unfold numB; rw [if_pos h2])
    clear h2
    by_cases h0 : n = 0
    · have g0 : (n == 0) = true := by simpa using h0
      clear h0
      go_enter Tryd.func61, Tryd.ntmps61
      go_wp2
      go_ret
      exact ⟨by rw [HN.out, g0]; rfl, K1.out⟩
    · have g0 : (n == 0) = false := by simpa using h0
      clear h0
      go_enter Tryd.func61, Tryd.ntmps61
      go_wp2
      go_ret
      exact ⟨by rw [HN.out, g0]; rfl, K1.out⟩
  · have f2 : (k == 2) = false := by simpa using h2
    by_cases h3 : k = 3
    · have f3 : (k == 3) = true := by simpa using h3
      have HN := Lib.hid (show numB k n = (decide (-mostN ≤ n) && decide (n ≤ mostN)) by unfold numB; rw [if_neg h2, if_pos h3])
      clear h2 h3
      by_cases h0 : -mostN ≤ n
      · have g0 : decide (-9007199254740991 ≤ n) = true := decide_eq_true h0
        have HG := Lib.hid (decide_eq_true h0)
        clear h0
        go_enter Tryd.func61, Tryd.ntmps61
        go_wp2
        go_ret
        exact ⟨by rw [HN.out, HG.out]; rfl, K1.out⟩
      · have g0 : decide (-9007199254740991 ≤ n) = false := decide_eq_false h0
        have HG := Lib.hid (decide_eq_false h0)
        clear h0
        go_enter Tryd.func61, Tryd.ntmps61
        go_wp2
        go_ret
        exact ⟨by rw [HN.out, HG.out]; rfl, K1.out⟩
    · have f3 : (k == 3) = false := by simpa using h3
      have HN := Lib.hid (show numB k n = (n == 0) by unfold numB; rw [if_neg h2, if_neg h3])
      clear h2 h3
      go_enter Tryd.func61, Tryd.ntmps61
      go_wp2
      go_ret
      exact ⟨by rw [HN.out]; rfl, K1.out⟩

set_option maxHeartbeats 8000000 in
set_option maxRecDepth 100000 in
theorem fld_any (k n : Int) (t : List UInt8) (ka ia : Option Addr) (nk kc ni ic : Nat) (w : World) : Calls Tryd.prog 62 #[.agg #[.int .i64 k, .int .i64 n, .string (S t), .slice ka nk kc, .slice ia ni ic]] w (fun e w' => e = .returned (.bool (fldB k t nk ni)) ∧ Keeps w w') := by
  have K1 := Lib.hid ((Keeps.refl w).alloc (.cells #[.int .i64 k, .int .i64 n, .string (S t), .slice ka nk kc, .slice ia ni ic] 25))
  have hts : (S t).toList.isEmpty = t.isEmpty := by rw [ByteArray.toList_eq]; rfl
  by_cases hk4 : k = 4
  · have hkk := hk4
    have fk0 : (k == 4) = true := by simp; omega
    by_cases hnk : nk = 0
    · have gnk : ((nk : Int) == 0) = true := by simp; omega
      by_cases hni : ni = 0
      · have gni : ((ni : Int) == 0) = true := by simp; omega
        have HV := Lib.hid (show fldB k t nk ni = true by unfold fldB; simp_all)
        clear hkk hk4
        (try clear hnk)
        (try clear hni)
        (try clear heq)
        go_enter Tryd.func62, Tryd.ntmps62
        go_wp2
        go_ret
        exact ⟨by rw [HV.out]; rfl, K1.out⟩
      · have gni : ((ni : Int) == 0) = false := by simp; omega
        have HV := Lib.hid (show fldB k t nk ni = false by unfold fldB; simp_all)
        clear hkk hk4
        (try clear hnk)
        (try clear hni)
        (try clear heq)
        go_enter Tryd.func62, Tryd.ntmps62
        go_wp2
        go_ret
        exact ⟨by rw [HV.out]; rfl, K1.out⟩
    · have gnk : ((nk : Int) == 0) = false := by simp; omega
      have HV := Lib.hid (show fldB k t nk ni = false by unfold fldB; simp_all)
      clear hkk hk4
      (try clear hnk)
      (try clear hni)
      (try clear heq)
      go_enter Tryd.func62, Tryd.ntmps62
      go_wp2
      go_ret
      exact ⟨by rw [HV.out]; rfl, K1.out⟩
  · by_cases hk5 : k = 5
    · have hkk := hk5
      have fk0 : (k == 4) = false := by simp; omega
      have fk1 : (k == 5) = true := by simp; omega
      cases ht : t.isEmpty
      · rw [ht] at hts
        have HV := Lib.hid (show fldB k t nk ni = false by unfold fldB; simp_all)
        clear hkk hk5 hk4 ht
        (try clear hnk)
        (try clear hni)
        (try clear heq)
        go_enter Tryd.func62, Tryd.ntmps62
        go_wp2
        go_ret
        exact ⟨by rw [HV.out]; rfl, K1.out⟩
      · rw [ht] at hts
        by_cases hnk : nk = 0
        · have gnk : ((nk : Int) == 0) = true := by simp; omega
          have HV := Lib.hid (show fldB k t nk ni = true by unfold fldB; simp_all)
          clear hkk hk5 hk4
          (try clear hnk)
          (try clear hni)
          (try clear heq)
          go_enter Tryd.func62, Tryd.ntmps62
          go_wp2
          go_ret
          exact ⟨by rw [HV.out]; rfl, K1.out⟩
        · have gnk : ((nk : Int) == 0) = false := by simp; omega
          have HV := Lib.hid (show fldB k t nk ni = false by unfold fldB; simp_all)
          clear hkk hk5 hk4
          (try clear hnk)
          (try clear hni)
          (try clear heq)
          go_enter Tryd.func62, Tryd.ntmps62
          go_wp2
          go_ret
          exact ⟨by rw [HV.out]; rfl, K1.out⟩
    · by_cases hk6 : k = 6
      · have hkk := hk6
        have fk0 : (k == 4) = false := by simp; omega
        have fk1 : (k == 5) = false := by simp; omega
        have fk2 : (k == 6) = true := by simp; omega
        cases ht : t.isEmpty
        · rw [ht] at hts
          have HV := Lib.hid (show fldB k t nk ni = false by unfold fldB; simp_all)
          clear hkk hk6 hk5 hk4 ht
          (try clear hnk)
          (try clear hni)
          (try clear heq)
          go_enter Tryd.func62, Tryd.ntmps62
          go_wp2
          go_ret
          exact ⟨by rw [HV.out]; rfl, K1.out⟩
        · rw [ht] at hts
          by_cases heq : nk = ni
          · have geq : ((nk : Int) == (ni : Int)) = true := by simp; omega
            have HV := Lib.hid (show fldB k t nk ni = true by unfold fldB; simp_all)
            clear hkk hk6 hk5 hk4
            (try clear hnk)
            (try clear hni)
            (try clear heq)
            go_enter Tryd.func62, Tryd.ntmps62
            go_wp2
            go_ret
            exact ⟨by rw [HV.out]; rfl, K1.out⟩
          · have geq : ((nk : Int) == (ni : Int)) = false := by simp; omega
            have HV := Lib.hid (show fldB k t nk ni = false by unfold fldB; simp_all)
            clear hkk hk6 hk5 hk4
            (try clear hnk)
            (try clear hni)
            (try clear heq)
            go_enter Tryd.func62, Tryd.ntmps62
            go_wp2
            go_ret
            exact ⟨by rw [HV.out]; rfl, K1.out⟩
      · have hkk := hk6
        have fk0 : (k == 4) = false := by simp; omega
        have fk1 : (k == 5) = false := by simp; omega
        have fk2 : (k == 6) = false := by simp; omega
        cases ht : t.isEmpty
        · rw [ht] at hts
          have HV := Lib.hid (show fldB k t nk ni = false by unfold fldB; simp_all)
          clear hkk hk6 hk5 hk4 ht
          (try clear hnk)
          (try clear hni)
          (try clear heq)
          go_enter Tryd.func62, Tryd.ntmps62
          go_wp2
          go_ret
          exact ⟨by rw [HV.out]; rfl, K1.out⟩
        · rw [ht] at hts
          by_cases hnk : nk = 0
          · have gnk : ((nk : Int) == 0) = true := by simp; omega
            by_cases hni : ni = 0
            · have gni : ((ni : Int) == 0) = true := by simp; omega
              have HV := Lib.hid (show fldB k t nk ni = true by unfold fldB; simp_all)
              clear hkk hk6 hk5 hk4
              (try clear hnk)
              (try clear hni)
              (try clear heq)
              go_enter Tryd.func62, Tryd.ntmps62
              go_wp2
              go_ret
              exact ⟨by rw [HV.out]; rfl, K1.out⟩
            · have gni : ((ni : Int) == 0) = false := by simp; omega
              have HV := Lib.hid (show fldB k t nk ni = false by unfold fldB; simp_all)
              clear hkk hk6 hk5 hk4
              (try clear hnk)
              (try clear hni)
              (try clear heq)
              go_enter Tryd.func62, Tryd.ntmps62
              go_wp2
              go_ret
              exact ⟨by rw [HV.out]; rfl, K1.out⟩
          · have gnk : ((nk : Int) == 0) = false := by simp; omega
            have HV := Lib.hid (show fldB k t nk ni = false by unfold fldB; simp_all)
            clear hkk hk6 hk5 hk4
            (try clear hnk)
            (try clear hni)
            (try clear heq)
            go_enter Tryd.func62, Tryd.ntmps62
            go_wp2
            go_ret
            exact ⟨by rw [HV.out]; rfl, K1.out⟩
end Go.Proofs.YtljkeladdplhlaaDoor
namespace Go.Proofs.YtljkeladdplhlaaDoor
open Go.RowKit Go.Maps

theorem seen_tidy : ∀ ks, Tidy (seenD ks)
  | [] => tidy_empty
  | k :: t => (seen_tidy t).put (by first | trivial | simp [WideAt.IsKeyLit]) _
theorem seen_has (k : List UInt8) : ∀ ks, has (seenD ks) (.string k) = decide (k ∈ ks)
  | [] => rfl
  | j :: t => by
    unfold seenD
    by_cases h : k = j
    · subst h
      rw [has_put_same (seen_map t) (by first | trivial | simp [WideAt.IsKeyLit])]
      simp
    · rw [has_put_other (by intro e; exact h (by injection e)), seen_has k t]
      simp [h]
theorem seen_size : ∀ ks : List (List UInt8), Maps.size (seenD ks) ≤ ks.length ∧ (Maps.size (seenD ks) = ks.length ↔ ks.Nodup)
  | [] => ⟨Nat.le_refl _, by simp [seenD, Maps.size]⟩
  | k :: t => by
    obtain ⟨h1, h2⟩ := seen_size t
    unfold seenD
    rw [size_put (seen_tidy t), seen_has]
    by_cases hm : k ∈ t
    · simp only [hm, decide_true, if_true, List.length_cons, List.nodup_cons, not_true_eq_false, false_and, iff_false]
      omega
    · simp only [hm, decide_false, Bool.false_eq_true, if_false, List.length_cons, List.nodup_cons, not_false_eq_true, true_and]
      rw [← h2]
      omega
/-- The keys gone through, as a map. -/
def SeenR (w : World) (mm : Nat) (ks : List (List UInt8)) : Prop := w.ownsMap Tryd.prog 9 (plainElem (H := Unit) Tryd.prog 4) mm ks.length (seenD ks.reverse)
theorem SeenR.keeps {w w' : World} {mm : Nat} {ks : List (List UInt8)} (h : SeenR w mm ks) (k : w'.heap[mm]? = w.heap[mm]?) : SeenR w' mm ks := by
  obtain ⟨es, cl, h2, h3⟩ := h
  exact ⟨es, cl, k.trans h2, h3⟩
theorem SeenR.put {w : World} {mm : Nat} {ks : List (List UInt8)} (h : SeenR w mm ks) (k : List UInt8) (hk : k.length ≤ maxLen) (hn : ks.length < maxLen) : ∃ w', (Instr.mapUpdate 91 (.map (some mm)) (.string (S k)) (.bool true)).run Tryd.prog w = .ok () w' ∧ SeenR w' mm (ks ++ [k]) ∧ w.grownBy w' (some mm) := by
  obtain ⟨w', hr, ho, hg⟩ := World.ownsMap.update (t := 91) h lawS Tryd.underlying91 hn (key := .string (S k)) (val := .bool true) (kl := .string k) (keyS k hk) (plainElem_bool und4 true)
  refine ⟨w', hr, ?_, hg⟩
  unfold SeenR
  rw [List.length_append, List.reverse_append]
  exact ho
theorem SeenR.len {w : World} {mm : Nat} {ks : List (List UInt8)} (h : SeenR w mm ks) (ty : TypeId) : (Builtin.len_ #[91] ty #[.map (some mm)]).run Tryd.prog w = .ok (.int .i64 (Maps.size (seenD ks.reverse))) w := World.ownsMap.len h Tryd.underlying91 ty
theorem IsTexts.get {w : World} {F : Nat → Prop} {v : Value} {ks : List (List UInt8)} (h : IsTexts w F v ks) (i : Nat) (hi : i < ks.length) : ∃ g o cap, v = .slice (some ⟨g, o, none⟩) ks.length cap ∧ w.cell? ⟨g, o + i, none⟩ = some (.string (S (ks[i]'hi))) := by
  rcases h with ⟨_, h2⟩ | ⟨g, o, cap, h1, _, h3⟩
  · rw [h2] at hi; simp at hi
  · exact ⟨g, o, cap, h1, h3 i _ (by simp [hi])⟩
theorem nodup_rev {α : Type} (l : List α) : l.reverse.Nodup ↔ l.Nodup := by
  unfold List.Nodup
  rw [List.pairwise_reverse]
  exact ⟨fun h => h.imp Ne.symm, fun h => h.imp Ne.symm⟩
def keysC (ks : List (List UInt8)) : Nat := if ks.all validL = true then (if ks.Nodup then 0 else 8) else 6
/-- Where the loop over keys stands. -/
def KeyAt (w : World) (ks : List (List UInt8)) (k : Nat) (wr : World) : Prop := Keeps w wr ∧ SeenR wr w.heap.size (ks.take k) ∧ (ks.take k).all validL = true

set_option maxHeartbeats 8000000 in
set_option maxRecDepth 100000 in
theorem keys_any (ks : List (List UInt8)) (v : Value) (F : Nat → Prop) (w : World) (hv : IsTexts w F v ks) (hn : ks.length ≤ 1000000) (hks : ∀ k, k ∈ ks → k.length ≤ 1000000) :
    Calls Tryd.prog 64 #[v] w (fun e w' => e = .returned (.int .i64 (keysC ks : Int)) ∧ Keeps w w') := by
  obtain ⟨ka, kc, rfl⟩ := hv.form
  have cV := Lib.hid (fun (s : ByteArray) (w1 : World) h => valid_any s w1 h)
  have hmm := @run_makeMap Tryd.prog
  have A0 : Hid (KeyAt w ks 0 (w.alloc (.map #[] 0))) := Lib.hid ⟨(Keeps.refl w).alloc _, World.ownsMap_made w Tryd.prog 9 _, rfl⟩
  have HV := Lib.hid hv
  have HKS := Lib.hid hks
  clear hv hks
  generalize hN : ks.length = N at *
  have HN := Lib.hid hN
  clear hN
  go_enter Tryd.func64, Tryd.ntmps64
  go_wp2
  clear hmm
  go_loopg [9] (N + 1) (fun g i wr => ∃ k : Nat, i = .int .i64 (k : Int) ∧ k ≤ N ∧ N - k < g ∧ Hid (KeyAt w ks k wr))
  case atStart => exact ⟨0, rfl, Nat.zero_le _, by omega, A0⟩
  case round =>
    obtain ⟨k, rfl, hkN, hkg, hA⟩ := hrel
    clear A0
    obtain ⟨hk, hs, hall⟩ := hA.out
    by_cases hlt : k < N
    · have hlt' : k < ks.length := by rw [HN.out]; exact hlt
      obtain ⟨g, o, cap, hve, hc⟩ := HV.out.get k hlt'
      obtain ⟨rfl, -, rfl⟩ : ka = some ⟨g, o, none⟩ ∧ N = ks.length ∧ kc = cap := by simpa using hve
      have hc1 := hk.cell hc
      have hkl := HKS.out (ks[k]'hlt') (List.getElem_mem hlt')
      have htk : ks.take (k + 1) = ks.take k ++ [ks[k]'hlt'] := List.take_succ_eq_append_getElem hlt'
      have hmem : validL (ks[k]'hlt') = false → ks.all validL = false := fun e => by
        rw [← Bool.not_eq_true, List.all_eq_true]
        intro h
        rw [h _ (List.getElem_mem hlt')] at e
        exact absurd e (by decide)
      generalize ks[k]'hlt' = key at *
      have HM := Lib.hid hmem
      have HT := Lib.hid htk
      have HK := Lib.hid hk
      have HS := Lib.hid hs
      have HA2 := Lib.hid hall
      have cVk := Lib.hid (cV.out (S key) wr (by rw [S_size]; exact hkl))
      rw [S_data] at cVk
      have htl : (ks.take k).length ≤ 1000000 := by rw [List.length_take]; omega
      have q1 : (0 : Int) ≤ (k : Int) := by omega
      have q2 : (k : Int) < (N : Int) := by omega
      have hmlt : w.heap.size < wr.heap.size := World.ownsMap.lt hs
      clear hve hc hmem htk hk hs hall hA
      cases hval : validL key
      · rw [hval] at cVk
        have hres : keysC ks = 6 := by unfold keysC; rw [HM.out hval]; rfl
        have HR := Lib.hid hres
        clear hres hval
        go_wp2_with fail
        refine cVk.out.mono ?_
        rintro e w2 ⟨rfl, k2⟩
        have K2 := Lib.hid (HK.out.trans k2)
        clear k2
        go_wp2
        go_ret
        exact ⟨by rw [HR.out]; rfl, K2.out⟩
      · rw [hval] at cVk
        have HVAL := Lib.hid hval
        clear hval
        go_wp2_with fail
        refine cVk.out.mono ?_
        rintro e w2 ⟨rfl, k2⟩
        have hs2 := HS.out.keeps (k2.block _ hmlt)
        obtain ⟨w3, hput, hs3, hg3⟩ := hs2.put key (by unfold maxLen; omega) (by unfold maxLen; omega)
        have A1 : Hid (KeyAt w ks (k + 1) w3) := Lib.hid ⟨(HK.out.trans k2).grow hg3 (fun j hj => by cases hj; exact Nat.le_refl _), by rw [HT.out]; exact hs3, by rw [HT.out, List.all_append, HA2.out]; simp [HVAL.out]⟩
        clear k2 hs2 hs3 hg3
        go_wp2
        cases gk with
        | zero => omega
        | succ g2 =>
          go_roundg g2
          case measure => omega
          case rel => exact ⟨k + 1, by go_num, by omega, by omega, A1⟩
    · have hkk : k = N := by omega
      have htk : ks.take k = ks := by rw [hkk, ← HN.out, List.take_length]
      rw [htk] at hs hall
      have hlen := fun ty => hs.len ty
      obtain ⟨z1, z2⟩ := seen_size ks.reverse
      rw [List.length_reverse, HN.out] at z1 z2
      rw [nodup_rev] at z2
      have HALL := Lib.hid hall
      have HK := Lib.hid hk
      generalize Maps.size (seenD ks.reverse) = Z at *
      by_cases hz : Z < N
      · have hres : keysC ks = 8 := by unfold keysC; rw [if_pos HALL.out, if_neg (fun h => by have := z2.2 h; omega)]
        have HR := Lib.hid hres
        have fz : decide (Z < N) = true := decide_eq_true hz
        clear hres z2 htk hk hs hall hA hz
        go_wp2
        go_ret
        exact ⟨by rw [HR.out]; rfl, HK.out⟩
      · have hres : keysC ks = 0 := by unfold keysC; rw [if_pos HALL.out, if_pos (z2.1 (by omega))]
        have HR := Lib.hid hres
        have fz : decide (Z < N) = false := decide_eq_false hz
        clear hres z2 htk hk hs hall hA hz
        go_wp2
        go_ret
        exact ⟨by rw [HR.out]; rfl, HK.out⟩
end Go.Proofs.YtljkeladdplhlaaDoor
