/-
  The document's own Rising.
-/
import Derived.Test.YtfapilgmgjmfeaaGreatDoorLnb
import Derived.Test.YtfapilgmgjmfeaaGreatDoorSsm
import Derived.Sort.Walk0
import Derived.Deep.LoopGhost
import Derived.Laws.AppendOwn
import Derived.Deep.Upon
import Derived.Deep.AppendLies
import Derived.Deep.RegionLaw
import Derived.Test.YtfapilgmgjmfeaaGreatDoorQk
namespace Go.Proofs.YtfapilgmgjmfeaaGreatDoor
open Go.RowKit

/-- A text, put where it belongs. -/
theorem rise_ins {ss : List (List UInt8)} {x : List UInt8} (h : RiseS ss) (j : Nat) (h1 : ∀ u, u ∈ ss.take j → u < x) (h2 : ∀ u, u ∈ ss.drop j → x < u) : RiseS (ss.take j ++ [x] ++ ss.drop j) := by
  unfold RiseS at *
  have e : ss.take j ++ ss.drop j = ss := List.take_append_drop j ss
  have hp := h
  rw [← e, List.pairwise_append] at hp
  rw [List.pairwise_append, List.pairwise_append]
  refine ⟨⟨hp.1, List.pairwise_singleton _ _, fun a ha b hb => ?_⟩, hp.2.1, fun a ha b hb => ?_⟩
  · rw [List.mem_singleton.1 hb]; exact h1 a ha
  · rcases List.mem_append.1 ha with ha | ha
    · exact hp.2.2 a ha b hb
    · rw [List.mem_singleton.1 ha]; exact h2 b hb
theorem rise_drop {ss : List (List UInt8)} {x : List UInt8} (h : RiseS ss) (j : Nat) (hj : ∀ (hlt : j < ss.length), x < ss[j]'hlt) : ∀ u, u ∈ ss.drop j → x < u := by
  intro u hu
  obtain ⟨i, hi, rfl⟩ := List.getElem_of_mem hu
  have hji : j + i < ss.length := by rw [List.length_drop] at hi; omega
  have h0 := hj (by omega)
  rw [List.getElem_drop]
  rcases Nat.eq_zero_or_pos i with h' | h'
  · subst h'; simpa using h0
  · exact List.lt_trans h0 ((List.pairwise_iff_getElem.1 h) j (j + i) (by omega) hji (by omega))
theorem lt_take {ss : List (List UInt8)} {x : List UInt8} {j : Nat} (hj : ∀ i (hi : i < ss.length), i < j → ss[i]'hi < x) : ∀ u, u ∈ ss.take j → u < x := by
  intro u hu
  obtain ⟨i, hi, rfl⟩ := List.getElem_of_mem hu
  rw [List.length_take] at hi
  rw [List.getElem_take]
  exact hj i (by omega) (by omega)
theorem mem_ins {ss : List (List UInt8)} {x : List UInt8} (j : Nat) (u : List UInt8) : u ∈ ss.take j ++ [x] ++ ss.drop j ↔ u ∈ ss ∨ u = x := by
  have e : ss.take j ++ ss.drop j = ss := List.take_append_drop j ss
  constructor
  · intro h
    rw [List.mem_append, List.mem_append, List.mem_singleton] at h
    rcases h with (h | h) | h
    · exact .inl (List.mem_of_mem_take h)
    · exact .inr h
    · exact .inl (List.mem_of_mem_drop h)
  · intro h
    rw [List.mem_append, List.mem_append, List.mem_singleton]
    rcases h with h | h
    · rw [← e, List.mem_append] at h
      rcases h with h | h
      · exact .inl (.inl h)
      · exact .inr h
    · exact .inl (.inr h)
theorem rise_uniqueS {a b : List (List UInt8)} (ha : RiseS a) (hb : RiseS b) (h : ∀ u, u ∈ a ↔ u ∈ b) : a = b := by
  induction a generalizing b with
  | nil =>
    cases b with
    | nil => rfl
    | cons y t => exact absurd ((h y).2 (by simp)) (by simp)
  | cons x s ih =>
    cases b with
    | nil => exact absurd ((h x).1 (by simp)) (by simp)
    | cons y t =>
      have ha' := List.pairwise_cons.1 ha
      have hb' := List.pairwise_cons.1 hb
      have hxy : x = y := by
        rcases List.mem_cons.1 ((h x).1 (by simp)) with e | e
        · exact e
        · rcases List.mem_cons.1 ((h y).2 (by simp)) with e' | e'
          · exact e'.symm
          · exact absurd (List.lt_trans (hb'.1 x e) (ha'.1 y e')) (List.lt_irrefl _)
      subst hxy
      rw [ih ha'.2 hb'.2 (fun u => ?_)]
      constructor
      · intro hu
        rcases List.mem_cons.1 ((h u).1 (by simp [hu])) with e | e
        · exact absurd (ha'.1 u hu) (by rw [e]; exact List.lt_irrefl _)
        · exact e
      · intro hu
        rcases List.mem_cons.1 ((h u).2 (by simp [hu])) with e | e
        · exact absurd (hb'.1 u hu) (by rw [e]; exact List.lt_irrefl _)
        · exact e
section
variable {P : Program} {ops : Array Oper}
theorem step_append_any {o : Oper} {a : Go.Act} {w : World} {K : Go.Act → World → Prop} {Q : Exit → Go.Act → World → Prop} {E : Prop} (hgd : o.guard = none) (s x : Operand) (t : TypeId)
    (ho : o.op = .call { callee := .builtin .append, args := #[s, x], argTypes := #[t, t] })
    (base : Nat) (e : TypeId) (i : TypeInfo) (z : Value) (size bytes : Nat) (ht : P.underlying t = some (.slice e)) (hi : P.info? e = some i) (hz : i.zero = some z)
    (hsize : i.size = size) (hby : i.bytes = bytes) (hzs : z.cells.size = size) (hsz : 0 < size)
    (v : Value) (n : Nat) (xs : List Value) (hs : a.eval s = v) (hown : w.ownsRow base e size v n xs)
    (ad : Addr) (m c : Nat) (news : List Value) (hx : a.eval x = .slice (some ad) m c) (hl : news.length = m * size) (hnews : ∀ j u, news[j]? = some u → w.cell? (ad.add j) = some u) (h1 : ∀ u ∈ news, u.oneCell' = true)
    (h63 : n + m ≤ maxLen) (hbytes : (n + m) * bytes ≤ 140737488355328) (hbase : base ≤ w.heap.size)
    (h : ∀ v' w', w'.ownsRow base e size v' (n + m) (xs ++ news) → w.grownBy w' v.ownBlock → K (a.put o.dst v') w') :
    if Region.wanted o (yielded ops a.tmps) = true then Oper.wp P o a w K Q else E := by
  have hw : Region.wanted o (yielded ops a.tmps) = true := by simp [Region.wanted, hgd]
  rw [if_pos hw]
  exact wp_append_own w s x t ho base e i z size bytes ht hi hz hsize hby hzs hsz v n xs hs hown ad m c news hx hl hnews h1 h63 hbytes hbase (fun v' w' h2 h3 _ => h v' w' h2 h3)
theorem step_append_nil {o : Oper} {a : Go.Act} {w : World} {K : Go.Act → World → Prop} {Q : Exit → Go.Act → World → Prop} {E : Prop} (hgd : o.guard = none) (s x : Operand) (t : TypeId)
    (ho : o.op = .call { callee := .builtin .append, args := #[s, x], argTypes := #[t, t] }) (v : Value) (hs : a.eval s = v) (hx : a.eval x = .slice none 0 0)
    (hr : (Builtin.append_ #[t, t] o.type #[v, .slice none 0 0]).run P w = .ok v w) (h : K (a.put o.dst v) w) :
    if Region.wanted o (yielded ops a.tmps) = true then Oper.wp P o a w K Q else E := by
  have hw : Region.wanted o (yielded ops a.tmps) = true := by simp [Region.wanted, hgd]
  rw [if_pos hw]
  unfold Oper.wp
  simp [execOp, ho, resolve, invoke, builtin, hs, hx, hr, Result.andThen]
  exact h
end
theorem own_mono {w : World} {base base' : Nat} {e : TypeId} {size : Nat} {v : Value} {n : Nat} {xs : List Value} (h : w.ownsRow base e size v n xs) (hb : base' ≤ base) : w.ownsRow base' e size v n xs := by
  obtain ⟨h1, h2 | ⟨g, cap, cur, rfl, hB, hr⟩⟩ := h
  · exact ⟨h1, .inl h2⟩
  · exact ⟨h1, .inr ⟨g, cap, cur, rfl, Nat.le_trans hb hB, hr⟩⟩
theorem app_nil (w : World) (g n cap : Nat) (hn : n ≤ cap) : (Builtin.append_ #[33, 33] 33 #[.slice (some ⟨g, 0, none⟩) n cap, .slice none 0 0]).run Tryz.prog w = .ok (.slice (some ⟨g, 0, none⟩) n cap) w := by
  obtain ⟨i0, hi, hz0, hz1, hz2⟩ := info_parts info9
  refine run_append_nothing w 33 33 33 9 i0 Tryz.underlying33 hi _ n cap hn (.slice none 0 0) ?_
  rw [hz1]
  exact ⟨.inl ⟨9, Tryz.underlying33⟩, fun w' => by kernel_rfl, by kernel_rfl, by kernel_rfl, rfl, by simp⟩
theorem row_form {w : World} {B : Nat} {v : Value} {n : Nat} {xs : List Value} (h : w.ownsRow B 9 1 v n xs) (hn : 0 < n) : ∃ g cap, v = .slice (some ⟨g, 0, none⟩) n cap ∧ n ≤ cap := by
  obtain ⟨h1, ⟨rfl, h2⟩ | ⟨g, cap, cur, rfl, hB, hb, hc, hr⟩⟩ := h
  · omega
  · exact ⟨g, cap, rfl, hc⟩
theorem row0 {W : World} {e B : Nat} (h : W.heap[e]? = some (.cells #[] 9 (0, 0))) (hB : B ≤ e) : W.ownsRow B 9 1 (.slice (some ⟨e, 0, none⟩) 0 0) 0 [] :=
  ⟨rfl, .inr ⟨e, 0, #[], rfl, hB, h, Nat.le_refl _, Nat.zero_le _, rfl, rfl⟩⟩
theorem news_take {W : World} {g o : Nat} {ss : List (List UInt8)} (h : StrsAt W (some ⟨g, o, none⟩) ss) (j : Nat) : ∀ q u, ((ss.take j).map fun u => Value.string (S u))[q]? = some u → W.cell? ((⟨g, o, none⟩ : Addr).add q) = some u := fun q u hu => by
  rw [List.getElem?_map] at hu
  cases hq : (ss.take j)[q]? with
  | none => rw [hq] at hu; cases hu
  | some y =>
    rw [hq] at hu; cases hu
    obtain ⟨hl, rfl⟩ := List.getElem?_eq_some_iff.1 hq
    have hl2 : q < ss.length := by rw [List.length_take] at hl; omega
    obtain ⟨g', o', e', hc⟩ := h q hl2
    injection e' with e'
    injection e' with e1 e2 _
    subst e1 e2
    rw [List.getElem_take]
    have e3 : (⟨g, o, none⟩ : Addr).add q = ⟨g, o + q, none⟩ := by unfold Addr.add; split <;> simp_all
    rw [e3]; exact hc
theorem news_drop {W : World} {g o : Nat} {ss : List (List UInt8)} (h : StrsAt W (some ⟨g, o, none⟩) ss) (j : Nat) : ∀ q u, ((ss.drop j).map fun u => Value.string (S u))[q]? = some u → W.cell? ((⟨g, o + j, none⟩ : Addr).add q) = some u := fun q u hu => by
  rw [List.getElem?_map] at hu
  cases hq : (ss.drop j)[q]? with
  | none => rw [hq] at hu; cases hu
  | some y =>
    rw [hq] at hu; cases hu
    obtain ⟨hl, rfl⟩ := List.getElem?_eq_some_iff.1 hq
    have hl2 : j + q < ss.length := by rw [List.length_drop] at hl; omega
    obtain ⟨g', o', e', hc⟩ := h (j + q) hl2
    injection e' with e'
    injection e' with e1 e2 _
    subst e1 e2
    rw [List.getElem_drop]
    have e3 : (⟨g, o + j, none⟩ : Addr).add q = ⟨g, o + (j + q), none⟩ := by simp [Addr.add, Nat.add_assoc]
    rw [e3]; exact hc
theorem strs_one (l : List (List UInt8)) : ∀ u ∈ l.map (fun u => Value.string (S u)), u.oneCell' = true := fun u hu => by
  obtain ⟨y, _, rfl⟩ := List.mem_map.1 hu
  rfl
theorem StrRow.nil (w : World) (B : Nat) : StrRow w B (.slice none 0 0) [] := ⟨rfl, .inl ⟨rfl, rfl⟩⟩
theorem StrRow.form {w : World} {B : Nat} {v : Value} {ss : List (List UInt8)} (h : StrRow w B v ss) : (v = .slice none 0 0 ∧ ss = []) ∨ ∃ g cap, v = .slice (some ⟨g, 0, none⟩) ss.length cap ∧ ss.length ≤ cap ∧ StrsAt w (some ⟨g, 0, none⟩) ss ∧ StrRow w B (.slice (some ⟨g, 0, none⟩) ss.length cap) ss := by
  have h0 := h
  obtain ⟨h1, ⟨rfl, h2⟩ | ⟨g, cap, cur, rfl, hB, hb, hc, hm, hs, ht⟩⟩ := h
  · exact .inl ⟨rfl, List.eq_nil_of_length_eq_zero h2⟩
  · refine .inr ⟨g, cap, rfl, hc, fun i hi => ⟨g, 0, rfl, ?_⟩, h0⟩
    have hh : StrRow w B (.slice (some ⟨g, 0, none⟩) ss.length cap) ss := h0
    have := World.ownsRow.cellAt hh i (by omega)
    rw [Nat.zero_add, this, List.getElem?_map, List.getElem?_eq_getElem hi]
    rfl
def RisingRet (xs : List (List UInt8)) (w : World) (e : Ending) (w' : World) : Prop := ∃ v ss, e = .returned v ∧ StrRow w' w.heap.size v ss ∧ RiseS ss ∧ (∀ u, u ∈ ss ↔ u ∈ xs) ∧ ss.length ≤ xs.length ∧ Keeps w w'
set_option maxHeartbeats 8000000 in
set_option maxRecDepth 100000 in
theorem rising_any (A : Option Addr) (c : Nat) (xs : List (List UInt8)) (w : World) (hA : StrsAt w A xs) (hlen : xs.length ≤ 100000) : Calls Tryz.prog 44 #[.slice A xs.length c] w (RisingRet xs w) := by
  have HA := Lib.hid hA
  have HTN := Lib.hid (fun k => List.length_take_le' k xs)
  have HTK := Lib.hid (fun k (hk : k < xs.length) => List.take_succ_eq_append_getElem hk)
  have HTF := Lib.hid (show xs.take xs.length = xs from List.take_length)
  obtain ⟨L, hL⟩ : ∃ L, xs.length = L := ⟨_, rfl⟩
  have HL := Lib.hid hL
  rw [hL] at hlen HTF ⊢
  clear hA hL
  go_enter Tryz.func44, Tryz.ntmps44
  go_wp2
  go_loopg [3, 4] (L + 1) (fun g v i wr => ∃ k : Nat, i = .int .i64 (k : Int) ∧ k ≤ L ∧ L - k < g ∧ Hid (Keeps w wr ∧ ∃ ss, StrRow wr w.heap.size v ss ∧ RiseS ss ∧ (∀ u, u ∈ ss ↔ u ∈ xs.take k) ∧ ss.length ≤ k))
  case atStart => exact ⟨0, rfl, Nat.zero_le _, by omega, Lib.hid ⟨Keeps.refl _, [], StrRow.nil _ _, List.Pairwise.nil, by simp, Nat.le_refl _⟩⟩
  case round =>
    generalize wr = wo at *
    generalize gk = gn at *
    obtain ⟨k, rfl, hkL, hkg, hI⟩ := hrel
    by_cases hlt : k < L
    · have hlt' : k < xs.length := by rw [HL.out]; exact hlt
      obtain ⟨hK, ss, hR, hrise, hmem, hsk⟩ := hI.out
      obtain ⟨gx, ox, hAe, hcx⟩ := (HA.out.keeps hK) k hlt'
      have htk := HTK.out k hlt'
      subst hAe
      generalize xs[k]'hlt' = x at *
      have HTK2 := Lib.hid htk
      have HK := Lib.hid hK
      have HR := Lib.hid hR
      have HRISE := Lib.hid hrise
      have HMEM := Lib.hid hmem
      have HCX := Lib.hid hcx
      obtain ⟨B, n, cap, hv, hn, hnc, hB⟩ : ∃ B n cap, u3 = .slice B n cap ∧ ss.length = n ∧ n ≤ cap ∧ StrsAt wo B ss := by
        rcases hR.form with ⟨rfl, rfl⟩ | ⟨g, cap, rfl, hc, hs, _⟩
        · exact ⟨none, 0, 0, rfl, rfl, Nat.le_refl _, fun i hi => by simp at hi⟩
        · exact ⟨some ⟨g, 0, none⟩, ss.length, cap, rfl, rfl, hc, hs⟩
      subst hv
      have HB := Lib.hid hB
      have HN := Lib.hid hn
      have hnk : n ≤ 100000 := by omega
      have f1 : decide ((k : Int) < (L : Int)) = true := by simp; omega
      have f1' : decide (k < L) = true := by simpa using hlt
      have q1 : (0 : Int) ≤ (k : Int) := by omega
      have q2 : (k : Int) < (L : Int) := by omega
      clear hI hK hR hrise hmem hcx htk hB hn
      go_wp2
      go_loopg [5] (n + 1) (fun gi ai wq => ∃ j : Nat, ai = .int .i64 (j : Int) ∧ j ≤ n ∧ n - j < gi ∧ Hid (Keeps wo wq ∧ ∀ i (hi : i < ss.length), i < j → ss[i]'hi < x))
      case atStart => exact ⟨0, rfl, Nat.zero_le _, by omega, Lib.hid ⟨Keeps.refl _, fun i hi h => by omega⟩⟩
      case round =>
        obtain ⟨j, rfl, hjn, hjg, hJ⟩ := hrel
        obtain ⟨hKq, hless⟩ := hJ.out
        have HKq := Lib.hid hKq
        have HLS := Lib.hid hless
        clear hJ hKq hless
        have q3 : (0 : Int) ≤ (j : Int) := by omega
        have q4 : (j : Int) ≤ (n : Int) := by omega
        have cx : ∀ kx : Wl wr, kx.x.cell? ⟨gx, ox + k, none⟩ = some (.string (S x)) := fun kx => (HKq.out.trans kx.k).cell HCX.out
        by_cases hj : j < n
        · have hj' : j < ss.length := by rw [HN.out]; exact hj
          obtain ⟨g, o, hBe, hcj⟩ := (HB.out.keeps HKq.out) j hj'
          subst hBe
          have hless2 := Lib.hid (fun (h : ss[j]'hj' < x) => show ∀ i (hi : i < ss.length), i < j + 1 → ss[i]'hi < x from fun i hi hij => by
            rcases Nat.lt_or_ge i j with h' | h'
            · exact HLS.out i hi h'
            · have e : i = j := by omega
              subst e; exact h)
          have hdrop := Lib.hid (fun (h : x < ss[j]'hj') => rise_drop HRISE.out j (fun _ => h))
          have hin := Lib.hid (List.getElem_mem hj')
          generalize ss[j]'hj' = y at *
          have cy : ∀ kx : Wl wr, kx.x.cell? ⟨g, o + j, none⟩ = some (.string (S y)) := fun kx => kx.k.cell hcj
          have q5 : (j : Int) < (n : Int) := by omega
          have d5 : decide ((j : Int) < (n : Int)) = true := by simpa using hj
          have d5' : decide (j < n) = true := by simpa using hj
          clear hj' hcj
          by_cases hyx : y < x
          · have hb : Op.bytesLess (S y).toList (S x).toList = true := by rw [bytesLess_eq, S_list, S_list]; simpa using hyx
            have HL2 := Lib.hid (hless2.out hyx)
            clear hyx hless2 hdrop
            go_wp2_with fail
            refine wp_region_keeps (by kernel_rfl) (by kernel_rfl) ?_
            repeat (go_big_quiet_step (fail))
            refine wpQuiet_nil ?_
            rintro wz ⟨kq, hq⟩
            have KZ : Hid (Keeps wo wz) := Lib.hid (HKq.out.trans (by rw [hq]; exact kq.k))
            clear hq kq cx cy
            go_wp2
            cases gk with
            | zero => omega
            | succ g3 =>
              go_roundg g3
              case measure => omega
              case rel => exact ⟨j + 1, by go_num, by omega, by omega, Lib.hid ⟨KZ.out, HL2.out⟩⟩
          · have hb : Op.bytesLess (S y).toList (S x).toList = false := by rw [bytesLess_eq, S_list, S_list]; simpa using hyx
            have hbx : ¬ y < x := hyx
            have HBX := Lib.hid hbx
            clear hyx hbx hless2
            go_wp2_with fail
            refine wp_region_keeps (by kernel_rfl) (by kernel_rfl) ?_
            repeat (go_big_quiet_step (fail))
            refine wpQuiet_nil ?_
            rintro wz ⟨kq, hq⟩
            have KZ : Hid (Keeps wo wz) := Lib.hid (HKq.out.trans (by rw [hq]; exact kq.k))
            have cx2 : ∀ kx : Wl wz, kx.x.cell? ⟨gx, ox + k, none⟩ = some (.string (S x)) := fun kx => (KZ.out.trans kx.k).cell HCX.out
            have HCY : Hid (wz.cell? ⟨g, o + j, none⟩ = some (.string (S y))) := Lib.hid (by rw [hq]; exact cy kq)
            have cy2 : ∀ kx : Wl wz, kx.x.cell? ⟨g, o + j, none⟩ = some (.string (S y)) := fun kx => kx.k.cell HCY.out
            clear hq kq cx cy
            by_cases hxy : y = x
            · have he : ((S y).toList == (S x).toList) = true := by rw [S_eq]; simpa using hxy
              have HEQ := Lib.hid hxy
              clear hxy
              go_wp2_with fail
              refine wp_region_keeps (by kernel_rfl) (by kernel_rfl) ?_
              repeat (go_big_quiet_step (fail))
              refine wpQuiet_nil ?_
              rintro wy ⟨kq, hq⟩
              have KY : Hid (Keeps wo wy) := Lib.hid (KZ.out.trans (by rw [hq]; exact kq.k))
              clear hq kq cx2 cy2
              go_wp2
              have JQ := Lib.hid (show Keeps w wy ∧ ∃ ss', StrRow wy w.heap.size (.slice (some ⟨g, o, none⟩) n cap) ss' ∧ RiseS ss' ∧ (∀ u, u ∈ ss' ↔ u ∈ xs.take (k + 1)) ∧ ss'.length ≤ k + 1 from ⟨HK.out.trans KY.out, ss, HR.out.keeps KY.out, HRISE.out, fun u => by
                rw [HTK2.out, List.mem_append, List.mem_singleton, ← HMEM.out u]
                constructor
                · exact .inl
                · rintro (h | h)
                  · exact h
                  · rw [h, ← HEQ.out]; exact hin.out, by omega⟩)
              cases gn with
              | zero => omega
              | succ g2 =>
                go_roundg g2
                case measure => omega
                case rel => exact ⟨k + 1, by go_num, by omega, by omega, JQ⟩
            · have he : ((S y).toList == (S x).toList) = false := by rw [S_eq]; simpa using hxy
              have HXY := Lib.hid hxy
              clear hxy
              go_wp2_with fail
              refine wp_region_keeps (by kernel_rfl) (by kernel_rfl) ?_
              repeat (go_big_quiet_step (fail))
              refine wpQuiet_nil ?_
              rintro wy ⟨kq, hq⟩
              have KY : Hid (Keeps wo wy) := Lib.hid (KZ.out.trans (by rw [hq]; exact kq.k))
              clear hq kq cx2 cy2 he hb HCY
              go_wp2_with fail
              have ho : o = 0 := by
                rcases HR.out.form with ⟨e, _⟩ | ⟨g', cap', e, _⟩
                · cases e
                · injection e with e _ _
                  injection e with e
                  injection e
              subst ho
              have HBZ : Hid (StrsAt wy (some ⟨g, 0, none⟩) ss) := Lib.hid (HB.out.keeps KY.out)
              have CX : Hid (wy.cell? ⟨gx, ox + k, none⟩ = some (.string (S x))) := Lib.hid (KY.out.cell HCX.out)
              have cx9 := CX.out
              have hgx : gx < wy.heap.size := World.block_lt_of_cell? _ _ CX.out
              have LT : Hid (((ss.take j).map fun u => Value.string (S u)).length = j * 1) := Lib.hid (by rw [List.length_map, List.length_take, HN.out]; omega)
              have LD : Hid (((ss.drop j).map fun u => Value.string (S u)).length = (n - j) * 1) := Lib.hid (by rw [List.length_map, List.length_drop, HN.out]; omega)
              have J : Hid (Keeps wy wy) := Lib.hid (Keeps.refl wy)
              obtain ⟨i0, hi, hz0, hz1, hz2⟩ := info_parts info9
              have q6 : (j : Int) ≤ (cap : Int) := by omega
              have q7 : (n : Int) ≤ (cap : Int) := by omega
              have q8 : ¬ cap = j := by omega
              have KE1 : Hid (Keeps wy ((wy.alloc (.cells #[] 9)).drew)) := Lib.hid (((Keeps.refl wy).alloc (.cells #[] 9)).drew)
              have HE1 : ((wy.alloc (.cells #[] 9)).drew).heap[wy.heap.size]? = some (.cells #[] 9 (0, 0)) := heap_alloc_new wy (.cells #[] 9)
              have RE1 : Hid (((wy.alloc (.cells #[] 9)).drew).ownsRow wy.heap.size 9 1 (.slice (some ⟨wy.heap.size, 0, none⟩) 0 0) 0 []) := Lib.hid (row0 HE1 (by omega))
              clear HE1
              have KE2 : Hid (Keeps wy (((wy.alloc (.cells #[] 9)).alloc (.cells #[.string (S x)] 9)).drew)) := Lib.hid ((((Keeps.refl wy).alloc (.cells #[] 9)).alloc (.cells #[.string (S x)] 9)).drew)
              have HE2 : (((wy.alloc (.cells #[] 9)).alloc (.cells #[.string (S x)] 9)).drew).heap[wy.heap.size]? = some (.cells #[] 9 (0, 0)) := (((Keeps.refl (wy.alloc (.cells #[] 9))).alloc (.cells #[.string (S x)] 9)).block _ (by simp)).trans (heap_alloc_new wy (.cells #[] 9))
              have RE2 : Hid ((((wy.alloc (.cells #[] 9)).alloc (.cells #[.string (S x)] 9)).drew).ownsRow wy.heap.size 9 1 (.slice (some ⟨wy.heap.size, 0, none⟩) 0 0) 0 []) := Lib.hid (row0 HE2 (by omega))
              clear HE2
              have HN2 : Hid ((((wy.alloc (.cells #[] 9)).alloc (.cells #[.string (S x)] 9)).drew).heap[(wy.heap.size + 1)]? = some (.cells #[.string (S x)] 9 (0, 0))) := Lib.hid (by have h := heap_alloc_new (wy.alloc (.cells #[] 9)) (.cells #[.string (S x)] 9); rw [World.size_alloc] at h; exact h)
              have KE3 : Hid (Keeps wy (((wy.alloc (.cells #[.string (S x)] 9)).alloc (.cells #[] 9)).drew)) := Lib.hid ((((Keeps.refl wy).alloc (.cells #[.string (S x)] 9)).alloc (.cells #[] 9)).drew)
              have HE3 : (((wy.alloc (.cells #[.string (S x)] 9)).alloc (.cells #[] 9)).drew).heap[(wy.heap.size + 1)]? = some (.cells #[] 9 (0, 0)) := by have h := heap_alloc_new (wy.alloc (.cells #[.string (S x)] 9)) (.cells #[] 9); rw [World.size_alloc] at h; exact h
              have RE3 : Hid ((((wy.alloc (.cells #[.string (S x)] 9)).alloc (.cells #[] 9)).drew).ownsRow wy.heap.size 9 1 (.slice (some ⟨(wy.heap.size + 1), 0, none⟩) 0 0) 0 []) := Lib.hid (row0 HE3 (by omega))
              clear HE3
              have HN3 : Hid ((((wy.alloc (.cells #[.string (S x)] 9)).alloc (.cells #[] 9)).drew).heap[wy.heap.size]? = some (.cells #[.string (S x)] 9 (0, 0))) := Lib.hid ((((Keeps.refl (wy.alloc (.cells #[.string (S x)] 9))).alloc (.cells #[] 9)).block _ (by simp)).trans (heap_alloc_new wy (.cells #[.string (S x)] 9)))
              go_region_law (first
                | (refine step_append_any (by rfl) (.tmp 44) (.tmp 47) 33 (by rfl) wy.heap.size 9 i0 (.string ⟨#[]⟩) 1 16 Tryz.underlying33 hi hz0 hz1 hz2 rfl (by decide) (.slice (some ⟨wy.heap.size, 0, none⟩) 0 0) 0 [] (by kernel_rfl) RE1.out ⟨g, 0, none⟩ j cap ((ss.take j).map fun u => Value.string (S u)) (by kernel_rfl) LT.out (news_take (HBZ.out.keeps KE1.out) j) (strs_one _) (by unfold maxLen; omega) (by omega) (Below.size KE1.out) ?_; intro v1 x1 hown hg; have j1 : Keeps wy x1 := KE1.out.grown hg (Below.size KE1.out) (fun q hq => by simp [Value.ownBlock] at hq; omega); have R1 := Lib.hid hown; skip; clear J hown hg; have J := Lib.hid j1; clear cx9; have cx9 := j1.cell CX.out; clear j1)
                | (refine step_append_any (by rfl) (.tmp 44) (.tmp 47) 33 (by rfl) wy.heap.size 9 i0 (.string ⟨#[]⟩) 1 16 Tryz.underlying33 hi hz0 hz1 hz2 rfl (by decide) (.slice (some ⟨wy.heap.size, 0, none⟩) 0 0) 0 [] (by kernel_rfl) RE2.out ⟨g, 0, none⟩ j cap ((ss.take j).map fun u => Value.string (S u)) (by kernel_rfl) LT.out (news_take (HBZ.out.keeps KE2.out) j) (strs_one _) (by unfold maxLen; omega) (by omega) (Below.size KE2.out) ?_; intro v1 x1 hown hg; have j1 : Keeps wy x1 := KE2.out.grown hg (Below.size KE2.out) (fun q hq => by simp [Value.ownBlock] at hq; omega); have R1 := Lib.hid hown; have NB : Hid (x1.heap[(wy.heap.size + 1)]? = some (.cells #[.string (S x)] 9 (0, 0))) := Lib.hid ((hg.block _ (blk_lt HN2.out) (by simp [Value.ownBlock])).trans HN2.out); clear J hown hg; have J := Lib.hid j1; clear cx9; have cx9 := j1.cell CX.out; clear j1)
                | (refine step_append_any (by rfl) (.tmp 44) (.tmp 47) 33 (by rfl) wy.heap.size 9 i0 (.string ⟨#[]⟩) 1 16 Tryz.underlying33 hi hz0 hz1 hz2 rfl (by decide) (.slice (some ⟨(wy.heap.size + 1), 0, none⟩) 0 0) 0 [] (by kernel_rfl) RE3.out ⟨g, 0, none⟩ j cap ((ss.take j).map fun u => Value.string (S u)) (by kernel_rfl) LT.out (news_take (HBZ.out.keeps KE3.out) j) (strs_one _) (by unfold maxLen; omega) (by omega) (Below.size KE3.out) ?_; intro v1 x1 hown hg; have j1 : Keeps wy x1 := KE3.out.grown hg (Below.size KE3.out) (fun q hq => by simp [Value.ownBlock] at hq; omega); have R1 := Lib.hid hown; have NB : Hid (x1.heap[wy.heap.size]? = some (.cells #[.string (S x)] 9 (0, 0))) := Lib.hid ((hg.block _ (blk_lt HN3.out) (by simp [Value.ownBlock])).trans HN3.out); clear J hown hg; have J := Lib.hid j1; clear cx9; have cx9 := j1.cell CX.out; clear j1)
                | (refine step_append_any (by rfl) (.tmp 48) (.tmp 53) 33 (by rfl) wy.heap.size 9 i0 (.string ⟨#[]⟩) 1 16 Tryz.underlying33 hi hz0 hz1 hz2 rfl (by decide) v1 (0 + j) ([] ++ (ss.take j).map fun u => Value.string (S u)) (by kernel_rfl) (R1.out) ⟨(wy.heap.size + 1), 0, none⟩ 1 1 [.string (S x)] (by kernel_rfl) (by rfl) (World.news_of_block (cs := #[.string (S x)]) (t := 9) (fr := (0, 0)) (NB.out)) (by simp [Value.oneCell']) (by unfold maxLen; omega) (by omega) (Below.size (J.out)) ?_; intro v2 x2 hown hg; have R2 := Lib.hid hown; have j2 : Keeps wy x2 := (J.out).grown hg (Below.size (J.out)) (fun q hq => (World.ownsRow.lt R1.out q hq).1); clear J hown hg; have J := Lib.hid j2; clear j2 cx9)
                | (refine step_append_any (by rfl) (.tmp 48) (.tmp 53) 33 (by rfl) wy.heap.size 9 i0 (.string ⟨#[]⟩) 1 16 Tryz.underlying33 hi hz0 hz1 hz2 rfl (by decide) v1 (0 + j) ([] ++ (ss.take j).map fun u => Value.string (S u)) (by kernel_rfl) (R1.out) ⟨wy.heap.size, 0, none⟩ 1 1 [.string (S x)] (by kernel_rfl) (by rfl) (World.news_of_block (cs := #[.string (S x)]) (t := 9) (fr := (0, 0)) (NB.out)) (by simp [Value.oneCell']) (by unfold maxLen; omega) (by omega) (Below.size (J.out)) ?_; intro v2 x2 hown hg; have R2 := Lib.hid hown; have j2 : Keeps wy x2 := (J.out).grown hg (Below.size (J.out)) (fun q hq => (World.ownsRow.lt R1.out q hq).1); clear J hown hg; have J := Lib.hid j2; clear j2 cx9)
                | (refine step_append_any (by rfl) (.tmp 48) (.tmp 53) 33 (by rfl) wy.heap.size 9 i0 (.string ⟨#[]⟩) 1 16 Tryz.underlying33 hi hz0 hz1 hz2 rfl (by decide) v1 (0 + j) ([] ++ (ss.take j).map fun u => Value.string (S u)) (by kernel_rfl) (R1.out.alloc (.cells #[.string (S x)] 9)) ⟨x1.heap.size, 0, none⟩ 1 1 [.string (S x)] (by kernel_rfl) (by rfl) (World.news_of_block (cs := #[.string (S x)]) (t := 9) (fr := (0, 0)) (heap_alloc_new x1 (.cells #[.string (S x)] 9))) (by simp [Value.oneCell']) (by unfold maxLen; omega) (by omega) (Below.size (J.out.alloc (.cells #[.string (S x)] 9))) ?_; intro v2 x2 hown hg; have R2 := Lib.hid hown; have j2 : Keeps wy x2 := (J.out.alloc (.cells #[.string (S x)] 9)).grown hg (Below.size (J.out.alloc (.cells #[.string (S x)] 9))) (fun q hq => (World.ownsRow.lt R1.out q hq).1); clear J hown hg; have J := Lib.hid j2; clear j2 cx9)
                | (refine step_append_any (by rfl) (.tmp 54) (.tmp 57) 33 (by rfl) wy.heap.size 9 i0 (.string ⟨#[]⟩) 1 16 Tryz.underlying33 hi hz0 hz1 hz2 rfl (by decide) v2 (0 + j + 1) ([] ++ (ss.take j).map (fun u => Value.string (S u)) ++ [.string (S x)]) (by kernel_rfl) R2.out ⟨g, j, none⟩ (n - j) (cap - j) ((ss.drop j).map fun u => Value.string (S u)) (by kernel_rfl) LD.out (by have h := news_drop (HBZ.out.keeps J.out) j; simpa using h) (strs_one _) (by unfold maxLen; omega) (by omega) (Below.size J.out) ?_; intro v3 x3 hown hg; have R3 := Lib.hid hown; have j3 : Keeps wy x3 := J.out.grown hg (Below.size J.out) (fun q hq => (World.ownsRow.lt R2.out q hq).1); clear J hown hg; have J := Lib.hid j3; clear j3)
              )
              all_goals
                have hxy2 : x < y := by
                  rcases List.le_total x y with h | h
                  · exact Classical.byContradiction fun hh => HXY.out (List.le_antisymm (List.not_lt.1 hh) h)
                  · exact absurd (List.le_antisymm h (List.not_lt.1 HBX.out)) HXY.out
                have JQ := Lib.hid (show Keeps w x3 ∧ ∃ ss', StrRow x3 w.heap.size v3 ss' ∧ RiseS ss' ∧ (∀ u, u ∈ ss' ↔ u ∈ xs.take (k + 1)) ∧ ss'.length ≤ k + 1 from ⟨HK.out.trans (KY.out.trans J.out), ss.take j ++ [x] ++ ss.drop j, by
                  unfold StrRow
                  have e1 : (ss.take j ++ [x] ++ ss.drop j).length = 0 + j + 1 + (n - j) := by
                    have a1 := LT.out
                    have a2 := LD.out
                    simp only [List.length_map] at a1 a2
                    simp only [List.length_append, List.length_singleton]
                    omega
                  have e2 : ((ss.take j ++ [x] ++ ss.drop j).map fun u => Value.string (S u)) = [] ++ (ss.take j).map (fun u => Value.string (S u)) ++ [.string (S x)] ++ (ss.drop j).map (fun u => Value.string (S u)) := by
                    rw [List.map_append, List.map_append]; rfl
                  rw [e1, e2]
                  exact own_mono R3.out (HK.out.trans KY.out).size, rise_ins HRISE.out j (lt_take HLS.out) (hdrop.out hxy2), fun u => by
                  rw [mem_ins, HTK2.out, List.mem_append, List.mem_singleton, ← HMEM.out u], by
                  have a1 := LT.out
                  have a2 := LD.out
                  have a3 := HN.out
                  simp only [List.length_map] at a1 a2
                  simp only [List.length_append, List.length_singleton]
                  omega⟩)
                clear R1 R2 R3 J
                go_wp2
                cases gn with
                | zero => omega
                | succ g2 =>
                  go_roundg g2
                  case measure => omega
                  case rel => exact ⟨k + 1, by go_num, by omega, by omega, JQ⟩
        ·
          obtain rfl : j = n := by omega
          have d5 : decide ((j : Int) < (j : Int)) = false := by simp
          have d5' : decide (j < j) = false := by simp
          clear hj
          go_wp2_with fail
          refine wp_region_keeps (by kernel_rfl) (by kernel_rfl) ?_
          repeat (go_big_quiet_step (fail))
          refine wpQuiet_nil ?_
          rintro wz ⟨kq, hq⟩
          have KZ : Hid (Keeps wo wz) := Lib.hid (HKq.out.trans (by rw [hq]; exact kq.k))
          clear hq kq cx
          go_wp2_with fail
          refine wp_region_keeps (by kernel_rfl) (by kernel_rfl) ?_
          repeat (go_big_quiet_step (fail))
          refine wpQuiet_nil ?_
          rintro wy ⟨kq, hq⟩
          have KY : Hid (Keeps wo wy) := Lib.hid (KZ.out.trans (by rw [hq]; exact kq.k))
          clear hq kq
          cases B with
          | none =>
            have e0 : j = 0 ∧ cap = 0 ∧ ss = [] := by
              rcases HR.out.form with ⟨e, e'⟩ | ⟨g', cap', e, _⟩
              · injection e with _ e1 e2
                exact ⟨e1, e2, e'⟩
              · injection e with e _ _
                cases e
            obtain ⟨rfl, rfl, rfl⟩ := e0
            go_wp2_with fail
            have CX : Hid (wy.cell? ⟨gx, ox + k, none⟩ = some (.string (S x))) := Lib.hid (KY.out.cell HCX.out)
            have cx9 := CX.out
            have hgx : gx < wy.heap.size := World.block_lt_of_cell? _ _ CX.out
            have J : Hid (Keeps wy wy) := Lib.hid (Keeps.refl wy)
            obtain ⟨i0, hi, hz0, hz1, hz2⟩ := info_parts info9
            have KE1 : Hid (Keeps wy ((wy.alloc (.cells #[] 9)).drew)) := Lib.hid (((Keeps.refl wy).alloc (.cells #[] 9)).drew)
            have HE1 : ((wy.alloc (.cells #[] 9)).drew).heap[wy.heap.size]? = some (.cells #[] 9 (0, 0)) := heap_alloc_new wy (.cells #[] 9)
            have RE1 : Hid (((wy.alloc (.cells #[] 9)).drew).ownsRow wy.heap.size 9 1 (.slice (some ⟨wy.heap.size, 0, none⟩) 0 0) 0 []) := Lib.hid (row0 HE1 (by omega))
            clear HE1
            have KE2 : Hid (Keeps wy (((wy.alloc (.cells #[] 9)).alloc (.cells #[.string (S x)] 9)).drew)) := Lib.hid ((((Keeps.refl wy).alloc (.cells #[] 9)).alloc (.cells #[.string (S x)] 9)).drew)
            have HE2 : (((wy.alloc (.cells #[] 9)).alloc (.cells #[.string (S x)] 9)).drew).heap[wy.heap.size]? = some (.cells #[] 9 (0, 0)) := (((Keeps.refl (wy.alloc (.cells #[] 9))).alloc (.cells #[.string (S x)] 9)).block _ (by simp)).trans (heap_alloc_new wy (.cells #[] 9))
            have RE2 : Hid ((((wy.alloc (.cells #[] 9)).alloc (.cells #[.string (S x)] 9)).drew).ownsRow wy.heap.size 9 1 (.slice (some ⟨wy.heap.size, 0, none⟩) 0 0) 0 []) := Lib.hid (row0 HE2 (by omega))
            clear HE2
            have HN2 : Hid ((((wy.alloc (.cells #[] 9)).alloc (.cells #[.string (S x)] 9)).drew).heap[(wy.heap.size + 1)]? = some (.cells #[.string (S x)] 9 (0, 0))) := Lib.hid (by have h := heap_alloc_new (wy.alloc (.cells #[] 9)) (.cells #[.string (S x)] 9); rw [World.size_alloc] at h; exact h)
            have KE3 : Hid (Keeps wy (((wy.alloc (.cells #[.string (S x)] 9)).alloc (.cells #[] 9)).drew)) := Lib.hid ((((Keeps.refl wy).alloc (.cells #[.string (S x)] 9)).alloc (.cells #[] 9)).drew)
            have HE3 : (((wy.alloc (.cells #[.string (S x)] 9)).alloc (.cells #[] 9)).drew).heap[(wy.heap.size + 1)]? = some (.cells #[] 9 (0, 0)) := by have h := heap_alloc_new (wy.alloc (.cells #[.string (S x)] 9)) (.cells #[] 9); rw [World.size_alloc] at h; exact h
            have RE3 : Hid ((((wy.alloc (.cells #[.string (S x)] 9)).alloc (.cells #[] 9)).drew).ownsRow wy.heap.size 9 1 (.slice (some ⟨(wy.heap.size + 1), 0, none⟩) 0 0) 0 []) := Lib.hid (row0 HE3 (by omega))
            clear HE3
            have HN3 : Hid ((((wy.alloc (.cells #[.string (S x)] 9)).alloc (.cells #[] 9)).drew).heap[wy.heap.size]? = some (.cells #[.string (S x)] 9 (0, 0))) := Lib.hid ((((Keeps.refl (wy.alloc (.cells #[.string (S x)] 9))).alloc (.cells #[] 9)).block _ (by simp)).trans (heap_alloc_new wy (.cells #[.string (S x)] 9)))
            go_region_law (first
              | (refine step_append_nil (by rfl) (.tmp 44) (.tmp 47) 33 (by rfl) (.slice (some ⟨wy.heap.size, 0, none⟩) 0 0) (by kernel_rfl) (by kernel_rfl) (app_nil ((wy.alloc (.cells #[] 9)).drew) _ 0 0 (Nat.le_refl _)) ?_)
              | (refine step_append_nil (by rfl) (.tmp 44) (.tmp 47) 33 (by rfl) (.slice (some ⟨wy.heap.size, 0, none⟩) 0 0) (by kernel_rfl) (by kernel_rfl) (app_nil (((wy.alloc (.cells #[] 9)).alloc (.cells #[.string (S x)] 9)).drew) _ 0 0 (Nat.le_refl _)) ?_)
              | (refine step_append_nil (by rfl) (.tmp 44) (.tmp 47) 33 (by rfl) (.slice (some ⟨(wy.heap.size + 1), 0, none⟩) 0 0) (by kernel_rfl) (by kernel_rfl) (app_nil (((wy.alloc (.cells #[.string (S x)] 9)).alloc (.cells #[] 9)).drew) _ 0 0 (Nat.le_refl _)) ?_)
              | (refine step_append_any (by rfl) (.tmp 48) (.tmp 53) 33 (by rfl) wy.heap.size 9 i0 (.string ⟨#[]⟩) 1 16 Tryz.underlying33 hi hz0 hz1 hz2 rfl (by decide) (.slice (some ⟨wy.heap.size, 0, none⟩) 0 0) 0 [] (by kernel_rfl) RE2.out ⟨(wy.heap.size + 1), 0, none⟩ 1 1 [.string (S x)] (by kernel_rfl) (by rfl) (World.news_of_block (cs := #[.string (S x)]) (t := 9) (fr := (0, 0)) HN2.out) (by simp [Value.oneCell']) (by unfold maxLen; omega) (by omega) (Below.size KE2.out) ?_; intro v2 x3 hown hg; have R2 := Lib.hid hown; have j2 : Keeps wy x3 := KE2.out.grown hg (Below.size KE2.out) (fun q hq => by simp [Value.ownBlock] at hq; omega); obtain ⟨g2, cap2, hv2, hc2⟩ := row_form R2.out (by omega); subst hv2; clear J hown hg; have J := Lib.hid j2; clear j2)
              | (refine step_append_any (by rfl) (.tmp 48) (.tmp 53) 33 (by rfl) wy.heap.size 9 i0 (.string ⟨#[]⟩) 1 16 Tryz.underlying33 hi hz0 hz1 hz2 rfl (by decide) (.slice (some ⟨(wy.heap.size + 1), 0, none⟩) 0 0) 0 [] (by kernel_rfl) RE3.out ⟨wy.heap.size, 0, none⟩ 1 1 [.string (S x)] (by kernel_rfl) (by rfl) (World.news_of_block (cs := #[.string (S x)]) (t := 9) (fr := (0, 0)) HN3.out) (by simp [Value.oneCell']) (by unfold maxLen; omega) (by omega) (Below.size KE3.out) ?_; intro v2 x3 hown hg; have R2 := Lib.hid hown; have j2 : Keeps wy x3 := KE3.out.grown hg (Below.size KE3.out) (fun q hq => by simp [Value.ownBlock] at hq; omega); obtain ⟨g2, cap2, hv2, hc2⟩ := row_form R2.out (by omega); subst hv2; clear J hown hg; have J := Lib.hid j2; clear j2)
              | (refine step_append_nil (by rfl) (.tmp 54) (.tmp 57) 33 (by rfl) (.slice (some ⟨g2, 0, none⟩) (0 + 1) cap2) (by kernel_rfl) (by kernel_rfl) (app_nil _ g2 _ cap2 hc2) ?_)
            )
            all_goals
              have JQ := Lib.hid (show Keeps w x3 ∧ ∃ ss', StrRow x3 w.heap.size (.slice (some ⟨g2, 0, none⟩) (0 + 1) cap2) ss' ∧ RiseS ss' ∧ (∀ u, u ∈ ss' ↔ u ∈ xs.take (k + 1)) ∧ ss'.length ≤ k + 1 from ⟨HK.out.trans (KY.out.trans J.out), [x], own_mono R2.out (HK.out.trans KY.out).size, List.pairwise_singleton _ _, fun u => by
                rw [HTK2.out, List.mem_append, List.mem_singleton, ← HMEM.out u]; simp, by simp⟩)
              clear R2 J
              go_wp2
              cases gn with
              | zero => omega
              | succ g2 =>
                go_roundg g2
                case measure => omega
                case rel => exact ⟨k + 1, by go_num, by omega, by omega, JQ⟩
          | some ad =>
            obtain ⟨g, o, sp⟩ := ad
            have hsp : sp = none := by
              rcases HR.out.form with ⟨e, _⟩ | ⟨g', cap', e, _⟩
              · cases e
              · injection e with e _ _
                injection e with e
                injection e
            subst hsp
            by_cases q8 : cap = j
            · subst q8
              go_wp2_with fail
              have ho : o = 0 := by
                rcases HR.out.form with ⟨e, _⟩ | ⟨g', cap', e, _⟩
                · cases e
                · injection e with e _ _
                  injection e with e
                  injection e
              subst ho
              have HBZ : Hid (StrsAt wy (some ⟨g, 0, none⟩) ss) := Lib.hid (HB.out.keeps KY.out)
              have CX : Hid (wy.cell? ⟨gx, ox + k, none⟩ = some (.string (S x))) := Lib.hid (KY.out.cell HCX.out)
              have cx9 := CX.out
              have hgx : gx < wy.heap.size := World.block_lt_of_cell? _ _ CX.out
              have LT : Hid (((ss.take cap).map fun u => Value.string (S u)).length = cap * 1) := Lib.hid (by rw [List.length_map, List.length_take, HN.out]; omega)
              have LD : Hid (((ss.drop cap).map fun u => Value.string (S u)).length = 0 * 1) := Lib.hid (by rw [List.length_map, List.length_drop, HN.out]; omega)
              have J : Hid (Keeps wy wy) := Lib.hid (Keeps.refl wy)
              obtain ⟨i0, hi, hz0, hz1, hz2⟩ := info_parts info9
              have q6 : (cap : Int) ≤ (cap : Int) := by omega
              have q7 : (cap : Int) ≤ (cap : Int) := by omega
              have KE1 : Hid (Keeps wy ((wy.alloc (.cells #[] 9)).drew)) := Lib.hid (((Keeps.refl wy).alloc (.cells #[] 9)).drew)
              have HE1 : ((wy.alloc (.cells #[] 9)).drew).heap[wy.heap.size]? = some (.cells #[] 9 (0, 0)) := heap_alloc_new wy (.cells #[] 9)
              have RE1 : Hid (((wy.alloc (.cells #[] 9)).drew).ownsRow wy.heap.size 9 1 (.slice (some ⟨wy.heap.size, 0, none⟩) 0 0) 0 []) := Lib.hid (row0 HE1 (by omega))
              clear HE1
              have KE2 : Hid (Keeps wy (((wy.alloc (.cells #[] 9)).alloc (.cells #[.string (S x)] 9)).drew)) := Lib.hid ((((Keeps.refl wy).alloc (.cells #[] 9)).alloc (.cells #[.string (S x)] 9)).drew)
              have HE2 : (((wy.alloc (.cells #[] 9)).alloc (.cells #[.string (S x)] 9)).drew).heap[wy.heap.size]? = some (.cells #[] 9 (0, 0)) := (((Keeps.refl (wy.alloc (.cells #[] 9))).alloc (.cells #[.string (S x)] 9)).block _ (by simp)).trans (heap_alloc_new wy (.cells #[] 9))
              have RE2 : Hid ((((wy.alloc (.cells #[] 9)).alloc (.cells #[.string (S x)] 9)).drew).ownsRow wy.heap.size 9 1 (.slice (some ⟨wy.heap.size, 0, none⟩) 0 0) 0 []) := Lib.hid (row0 HE2 (by omega))
              clear HE2
              have HN2 : Hid ((((wy.alloc (.cells #[] 9)).alloc (.cells #[.string (S x)] 9)).drew).heap[(wy.heap.size + 1)]? = some (.cells #[.string (S x)] 9 (0, 0))) := Lib.hid (by have h := heap_alloc_new (wy.alloc (.cells #[] 9)) (.cells #[.string (S x)] 9); rw [World.size_alloc] at h; exact h)
              have KE3 : Hid (Keeps wy (((wy.alloc (.cells #[.string (S x)] 9)).alloc (.cells #[] 9)).drew)) := Lib.hid ((((Keeps.refl wy).alloc (.cells #[.string (S x)] 9)).alloc (.cells #[] 9)).drew)
              have HE3 : (((wy.alloc (.cells #[.string (S x)] 9)).alloc (.cells #[] 9)).drew).heap[(wy.heap.size + 1)]? = some (.cells #[] 9 (0, 0)) := by have h := heap_alloc_new (wy.alloc (.cells #[.string (S x)] 9)) (.cells #[] 9); rw [World.size_alloc] at h; exact h
              have RE3 : Hid ((((wy.alloc (.cells #[.string (S x)] 9)).alloc (.cells #[] 9)).drew).ownsRow wy.heap.size 9 1 (.slice (some ⟨(wy.heap.size + 1), 0, none⟩) 0 0) 0 []) := Lib.hid (row0 HE3 (by omega))
              clear HE3
              have HN3 : Hid ((((wy.alloc (.cells #[.string (S x)] 9)).alloc (.cells #[] 9)).drew).heap[wy.heap.size]? = some (.cells #[.string (S x)] 9 (0, 0))) := Lib.hid ((((Keeps.refl (wy.alloc (.cells #[.string (S x)] 9))).alloc (.cells #[] 9)).block _ (by simp)).trans (heap_alloc_new wy (.cells #[.string (S x)] 9)))
              go_region_law (first
                | (refine step_append_any (by rfl) (.tmp 44) (.tmp 47) 33 (by rfl) wy.heap.size 9 i0 (.string ⟨#[]⟩) 1 16 Tryz.underlying33 hi hz0 hz1 hz2 rfl (by decide) (.slice (some ⟨wy.heap.size, 0, none⟩) 0 0) 0 [] (by kernel_rfl) RE1.out ⟨g, 0, none⟩ cap cap ((ss.take cap).map fun u => Value.string (S u)) (by kernel_rfl) LT.out (news_take (HBZ.out.keeps KE1.out) cap) (strs_one _) (by unfold maxLen; omega) (by omega) (Below.size KE1.out) ?_; intro v1 x1 hown hg; have j1 : Keeps wy x1 := KE1.out.grown hg (Below.size KE1.out) (fun q hq => by simp [Value.ownBlock] at hq; omega); have R1 := Lib.hid hown; skip; clear J hown hg; have J := Lib.hid j1; clear cx9; have cx9 := j1.cell CX.out; clear j1)
                | (refine step_append_any (by rfl) (.tmp 44) (.tmp 47) 33 (by rfl) wy.heap.size 9 i0 (.string ⟨#[]⟩) 1 16 Tryz.underlying33 hi hz0 hz1 hz2 rfl (by decide) (.slice (some ⟨wy.heap.size, 0, none⟩) 0 0) 0 [] (by kernel_rfl) RE2.out ⟨g, 0, none⟩ cap cap ((ss.take cap).map fun u => Value.string (S u)) (by kernel_rfl) LT.out (news_take (HBZ.out.keeps KE2.out) cap) (strs_one _) (by unfold maxLen; omega) (by omega) (Below.size KE2.out) ?_; intro v1 x1 hown hg; have j1 : Keeps wy x1 := KE2.out.grown hg (Below.size KE2.out) (fun q hq => by simp [Value.ownBlock] at hq; omega); have R1 := Lib.hid hown; have NB : Hid (x1.heap[(wy.heap.size + 1)]? = some (.cells #[.string (S x)] 9 (0, 0))) := Lib.hid ((hg.block _ (blk_lt HN2.out) (by simp [Value.ownBlock])).trans HN2.out); clear J hown hg; have J := Lib.hid j1; clear cx9; have cx9 := j1.cell CX.out; clear j1)
                | (refine step_append_any (by rfl) (.tmp 44) (.tmp 47) 33 (by rfl) wy.heap.size 9 i0 (.string ⟨#[]⟩) 1 16 Tryz.underlying33 hi hz0 hz1 hz2 rfl (by decide) (.slice (some ⟨(wy.heap.size + 1), 0, none⟩) 0 0) 0 [] (by kernel_rfl) RE3.out ⟨g, 0, none⟩ cap cap ((ss.take cap).map fun u => Value.string (S u)) (by kernel_rfl) LT.out (news_take (HBZ.out.keeps KE3.out) cap) (strs_one _) (by unfold maxLen; omega) (by omega) (Below.size KE3.out) ?_; intro v1 x1 hown hg; have j1 : Keeps wy x1 := KE3.out.grown hg (Below.size KE3.out) (fun q hq => by simp [Value.ownBlock] at hq; omega); have R1 := Lib.hid hown; have NB : Hid (x1.heap[wy.heap.size]? = some (.cells #[.string (S x)] 9 (0, 0))) := Lib.hid ((hg.block _ (blk_lt HN3.out) (by simp [Value.ownBlock])).trans HN3.out); clear J hown hg; have J := Lib.hid j1; clear cx9; have cx9 := j1.cell CX.out; clear j1)
                | (refine step_append_any (by rfl) (.tmp 48) (.tmp 53) 33 (by rfl) wy.heap.size 9 i0 (.string ⟨#[]⟩) 1 16 Tryz.underlying33 hi hz0 hz1 hz2 rfl (by decide) v1 (0 + cap) ([] ++ (ss.take cap).map fun u => Value.string (S u)) (by kernel_rfl) (R1.out) ⟨(wy.heap.size + 1), 0, none⟩ 1 1 [.string (S x)] (by kernel_rfl) (by rfl) (World.news_of_block (cs := #[.string (S x)]) (t := 9) (fr := (0, 0)) (NB.out)) (by simp [Value.oneCell']) (by unfold maxLen; omega) (by omega) (Below.size (J.out)) ?_; intro v2 x2 hown hg; have R2 := Lib.hid hown; have j2 : Keeps wy x2 := (J.out).grown hg (Below.size (J.out)) (fun q hq => (World.ownsRow.lt R1.out q hq).1); clear J hown hg; have J := Lib.hid j2; clear j2 cx9)
                | (refine step_append_any (by rfl) (.tmp 48) (.tmp 53) 33 (by rfl) wy.heap.size 9 i0 (.string ⟨#[]⟩) 1 16 Tryz.underlying33 hi hz0 hz1 hz2 rfl (by decide) v1 (0 + cap) ([] ++ (ss.take cap).map fun u => Value.string (S u)) (by kernel_rfl) (R1.out) ⟨wy.heap.size, 0, none⟩ 1 1 [.string (S x)] (by kernel_rfl) (by rfl) (World.news_of_block (cs := #[.string (S x)]) (t := 9) (fr := (0, 0)) (NB.out)) (by simp [Value.oneCell']) (by unfold maxLen; omega) (by omega) (Below.size (J.out)) ?_; intro v2 x2 hown hg; have R2 := Lib.hid hown; have j2 : Keeps wy x2 := (J.out).grown hg (Below.size (J.out)) (fun q hq => (World.ownsRow.lt R1.out q hq).1); clear J hown hg; have J := Lib.hid j2; clear j2 cx9)
                | (refine step_append_any (by rfl) (.tmp 48) (.tmp 53) 33 (by rfl) wy.heap.size 9 i0 (.string ⟨#[]⟩) 1 16 Tryz.underlying33 hi hz0 hz1 hz2 rfl (by decide) v1 (0 + cap) ([] ++ (ss.take cap).map fun u => Value.string (S u)) (by kernel_rfl) (R1.out.alloc (.cells #[.string (S x)] 9)) ⟨x1.heap.size, 0, none⟩ 1 1 [.string (S x)] (by kernel_rfl) (by rfl) (World.news_of_block (cs := #[.string (S x)]) (t := 9) (fr := (0, 0)) (heap_alloc_new x1 (.cells #[.string (S x)] 9))) (by simp [Value.oneCell']) (by unfold maxLen; omega) (by omega) (Below.size (J.out.alloc (.cells #[.string (S x)] 9))) ?_; intro v2 x2 hown hg; have R2 := Lib.hid hown; have j2 : Keeps wy x2 := (J.out.alloc (.cells #[.string (S x)] 9)).grown hg (Below.size (J.out.alloc (.cells #[.string (S x)] 9))) (fun q hq => (World.ownsRow.lt R1.out q hq).1); clear J hown hg; have J := Lib.hid j2; clear j2 cx9)
                | (refine step_append_any (by rfl) (.tmp 54) (.tmp 57) 33 (by rfl) wy.heap.size 9 i0 (.string ⟨#[]⟩) 1 16 Tryz.underlying33 hi hz0 hz1 hz2 rfl (by decide) v2 (0 + cap + 1) ([] ++ (ss.take cap).map (fun u => Value.string (S u)) ++ [.string (S x)]) (by kernel_rfl) R2.out ⟨g, 0, none⟩ 0 (0) ((ss.drop cap).map fun u => Value.string (S u)) (by kernel_rfl) LD.out (fun q u hu => by rw [show ((ss.drop cap).map fun u => Value.string (S u)) = [] from List.eq_nil_of_length_eq_zero (by have := LD.out; omega)] at hu; simp at hu) (strs_one _) (by unfold maxLen; omega) (by omega) (Below.size J.out) ?_; intro v3 x3 hown hg; have R3 := Lib.hid hown; have j3 : Keeps wy x3 := J.out.grown hg (Below.size J.out) (fun q hq => (World.ownsRow.lt R2.out q hq).1); clear J hown hg; have J := Lib.hid j3; clear j3)
              )
              all_goals
                have JQ := Lib.hid (show Keeps w x3 ∧ ∃ ss', StrRow x3 w.heap.size v3 ss' ∧ RiseS ss' ∧ (∀ u, u ∈ ss' ↔ u ∈ xs.take (k + 1)) ∧ ss'.length ≤ k + 1 from ⟨HK.out.trans (KY.out.trans J.out), ss.take cap ++ [x] ++ ss.drop cap, by
                  unfold StrRow
                  have e1 : (ss.take cap ++ [x] ++ ss.drop cap).length = 0 + cap + 1 + 0 := by
                    have a1 := LT.out
                    have a2 := LD.out
                    simp only [List.length_map] at a1 a2
                    simp only [List.length_append, List.length_singleton]
                    omega
                  have e2 : ((ss.take cap ++ [x] ++ ss.drop cap).map fun u => Value.string (S u)) = [] ++ (ss.take cap).map (fun u => Value.string (S u)) ++ [.string (S x)] ++ (ss.drop cap).map (fun u => Value.string (S u)) := by
                    rw [List.map_append, List.map_append]; rfl
                  rw [e1, e2]
                  exact own_mono R3.out (HK.out.trans KY.out).size, rise_ins HRISE.out cap (lt_take HLS.out) (fun u hu => by rw [show ss.drop cap = [] from List.eq_nil_of_length_eq_zero (by have := LD.out; simp only [List.length_map] at this; omega)] at hu; simp at hu), fun u => by
                  rw [mem_ins, HTK2.out, List.mem_append, List.mem_singleton, ← HMEM.out u], by
                  have a1 := LT.out
                  have a2 := LD.out
                  have a3 := HN.out
                  simp only [List.length_map] at a1 a2
                  simp only [List.length_append, List.length_singleton]
                  omega⟩)
                clear R1 R2 R3 J
                go_wp2
                cases gn with
                | zero => omega
                | succ g2 =>
                  go_roundg g2
                  case measure => omega
                  case rel => exact ⟨k + 1, by go_num, by omega, by omega, JQ⟩
            ·
              go_wp2_with fail
              have ho : o = 0 := by
                rcases HR.out.form with ⟨e, _⟩ | ⟨g', cap', e, _⟩
                · cases e
                · injection e with e _ _
                  injection e with e
                  injection e
              subst ho
              have HBZ : Hid (StrsAt wy (some ⟨g, 0, none⟩) ss) := Lib.hid (HB.out.keeps KY.out)
              have CX : Hid (wy.cell? ⟨gx, ox + k, none⟩ = some (.string (S x))) := Lib.hid (KY.out.cell HCX.out)
              have cx9 := CX.out
              have hgx : gx < wy.heap.size := World.block_lt_of_cell? _ _ CX.out
              have LT : Hid (((ss.take j).map fun u => Value.string (S u)).length = j * 1) := Lib.hid (by rw [List.length_map, List.length_take, HN.out]; omega)
              have LD : Hid (((ss.drop j).map fun u => Value.string (S u)).length = 0 * 1) := Lib.hid (by rw [List.length_map, List.length_drop, HN.out]; omega)
              have J : Hid (Keeps wy wy) := Lib.hid (Keeps.refl wy)
              obtain ⟨i0, hi, hz0, hz1, hz2⟩ := info_parts info9
              have q6 : (j : Int) ≤ (cap : Int) := by omega
              have q7 : (j : Int) ≤ (cap : Int) := by omega
              have KE1 : Hid (Keeps wy ((wy.alloc (.cells #[] 9)).drew)) := Lib.hid (((Keeps.refl wy).alloc (.cells #[] 9)).drew)
              have HE1 : ((wy.alloc (.cells #[] 9)).drew).heap[wy.heap.size]? = some (.cells #[] 9 (0, 0)) := heap_alloc_new wy (.cells #[] 9)
              have RE1 : Hid (((wy.alloc (.cells #[] 9)).drew).ownsRow wy.heap.size 9 1 (.slice (some ⟨wy.heap.size, 0, none⟩) 0 0) 0 []) := Lib.hid (row0 HE1 (by omega))
              clear HE1
              have KE2 : Hid (Keeps wy (((wy.alloc (.cells #[] 9)).alloc (.cells #[.string (S x)] 9)).drew)) := Lib.hid ((((Keeps.refl wy).alloc (.cells #[] 9)).alloc (.cells #[.string (S x)] 9)).drew)
              have HE2 : (((wy.alloc (.cells #[] 9)).alloc (.cells #[.string (S x)] 9)).drew).heap[wy.heap.size]? = some (.cells #[] 9 (0, 0)) := (((Keeps.refl (wy.alloc (.cells #[] 9))).alloc (.cells #[.string (S x)] 9)).block _ (by simp)).trans (heap_alloc_new wy (.cells #[] 9))
              have RE2 : Hid ((((wy.alloc (.cells #[] 9)).alloc (.cells #[.string (S x)] 9)).drew).ownsRow wy.heap.size 9 1 (.slice (some ⟨wy.heap.size, 0, none⟩) 0 0) 0 []) := Lib.hid (row0 HE2 (by omega))
              clear HE2
              have HN2 : Hid ((((wy.alloc (.cells #[] 9)).alloc (.cells #[.string (S x)] 9)).drew).heap[(wy.heap.size + 1)]? = some (.cells #[.string (S x)] 9 (0, 0))) := Lib.hid (by have h := heap_alloc_new (wy.alloc (.cells #[] 9)) (.cells #[.string (S x)] 9); rw [World.size_alloc] at h; exact h)
              have KE3 : Hid (Keeps wy (((wy.alloc (.cells #[.string (S x)] 9)).alloc (.cells #[] 9)).drew)) := Lib.hid ((((Keeps.refl wy).alloc (.cells #[.string (S x)] 9)).alloc (.cells #[] 9)).drew)
              have HE3 : (((wy.alloc (.cells #[.string (S x)] 9)).alloc (.cells #[] 9)).drew).heap[(wy.heap.size + 1)]? = some (.cells #[] 9 (0, 0)) := by have h := heap_alloc_new (wy.alloc (.cells #[.string (S x)] 9)) (.cells #[] 9); rw [World.size_alloc] at h; exact h
              have RE3 : Hid ((((wy.alloc (.cells #[.string (S x)] 9)).alloc (.cells #[] 9)).drew).ownsRow wy.heap.size 9 1 (.slice (some ⟨(wy.heap.size + 1), 0, none⟩) 0 0) 0 []) := Lib.hid (row0 HE3 (by omega))
              clear HE3
              have HN3 : Hid ((((wy.alloc (.cells #[.string (S x)] 9)).alloc (.cells #[] 9)).drew).heap[wy.heap.size]? = some (.cells #[.string (S x)] 9 (0, 0))) := Lib.hid ((((Keeps.refl (wy.alloc (.cells #[.string (S x)] 9))).alloc (.cells #[] 9)).block _ (by simp)).trans (heap_alloc_new wy (.cells #[.string (S x)] 9)))
              go_region_law (first
                | (refine step_append_any (by rfl) (.tmp 44) (.tmp 47) 33 (by rfl) wy.heap.size 9 i0 (.string ⟨#[]⟩) 1 16 Tryz.underlying33 hi hz0 hz1 hz2 rfl (by decide) (.slice (some ⟨wy.heap.size, 0, none⟩) 0 0) 0 [] (by kernel_rfl) RE1.out ⟨g, 0, none⟩ j cap ((ss.take j).map fun u => Value.string (S u)) (by kernel_rfl) LT.out (news_take (HBZ.out.keeps KE1.out) j) (strs_one _) (by unfold maxLen; omega) (by omega) (Below.size KE1.out) ?_; intro v1 x1 hown hg; have j1 : Keeps wy x1 := KE1.out.grown hg (Below.size KE1.out) (fun q hq => by simp [Value.ownBlock] at hq; omega); have R1 := Lib.hid hown; skip; clear J hown hg; have J := Lib.hid j1; clear cx9; have cx9 := j1.cell CX.out; clear j1)
                | (refine step_append_any (by rfl) (.tmp 44) (.tmp 47) 33 (by rfl) wy.heap.size 9 i0 (.string ⟨#[]⟩) 1 16 Tryz.underlying33 hi hz0 hz1 hz2 rfl (by decide) (.slice (some ⟨wy.heap.size, 0, none⟩) 0 0) 0 [] (by kernel_rfl) RE2.out ⟨g, 0, none⟩ j cap ((ss.take j).map fun u => Value.string (S u)) (by kernel_rfl) LT.out (news_take (HBZ.out.keeps KE2.out) j) (strs_one _) (by unfold maxLen; omega) (by omega) (Below.size KE2.out) ?_; intro v1 x1 hown hg; have j1 : Keeps wy x1 := KE2.out.grown hg (Below.size KE2.out) (fun q hq => by simp [Value.ownBlock] at hq; omega); have R1 := Lib.hid hown; have NB : Hid (x1.heap[(wy.heap.size + 1)]? = some (.cells #[.string (S x)] 9 (0, 0))) := Lib.hid ((hg.block _ (blk_lt HN2.out) (by simp [Value.ownBlock])).trans HN2.out); clear J hown hg; have J := Lib.hid j1; clear cx9; have cx9 := j1.cell CX.out; clear j1)
                | (refine step_append_any (by rfl) (.tmp 44) (.tmp 47) 33 (by rfl) wy.heap.size 9 i0 (.string ⟨#[]⟩) 1 16 Tryz.underlying33 hi hz0 hz1 hz2 rfl (by decide) (.slice (some ⟨(wy.heap.size + 1), 0, none⟩) 0 0) 0 [] (by kernel_rfl) RE3.out ⟨g, 0, none⟩ j cap ((ss.take j).map fun u => Value.string (S u)) (by kernel_rfl) LT.out (news_take (HBZ.out.keeps KE3.out) j) (strs_one _) (by unfold maxLen; omega) (by omega) (Below.size KE3.out) ?_; intro v1 x1 hown hg; have j1 : Keeps wy x1 := KE3.out.grown hg (Below.size KE3.out) (fun q hq => by simp [Value.ownBlock] at hq; omega); have R1 := Lib.hid hown; have NB : Hid (x1.heap[wy.heap.size]? = some (.cells #[.string (S x)] 9 (0, 0))) := Lib.hid ((hg.block _ (blk_lt HN3.out) (by simp [Value.ownBlock])).trans HN3.out); clear J hown hg; have J := Lib.hid j1; clear cx9; have cx9 := j1.cell CX.out; clear j1)
                | (refine step_append_any (by rfl) (.tmp 48) (.tmp 53) 33 (by rfl) wy.heap.size 9 i0 (.string ⟨#[]⟩) 1 16 Tryz.underlying33 hi hz0 hz1 hz2 rfl (by decide) v1 (0 + j) ([] ++ (ss.take j).map fun u => Value.string (S u)) (by kernel_rfl) (R1.out) ⟨(wy.heap.size + 1), 0, none⟩ 1 1 [.string (S x)] (by kernel_rfl) (by rfl) (World.news_of_block (cs := #[.string (S x)]) (t := 9) (fr := (0, 0)) (NB.out)) (by simp [Value.oneCell']) (by unfold maxLen; omega) (by omega) (Below.size (J.out)) ?_; intro v2 x2 hown hg; have R2 := Lib.hid hown; have j2 : Keeps wy x2 := (J.out).grown hg (Below.size (J.out)) (fun q hq => (World.ownsRow.lt R1.out q hq).1); clear J hown hg; have J := Lib.hid j2; clear j2 cx9)
                | (refine step_append_any (by rfl) (.tmp 48) (.tmp 53) 33 (by rfl) wy.heap.size 9 i0 (.string ⟨#[]⟩) 1 16 Tryz.underlying33 hi hz0 hz1 hz2 rfl (by decide) v1 (0 + j) ([] ++ (ss.take j).map fun u => Value.string (S u)) (by kernel_rfl) (R1.out) ⟨wy.heap.size, 0, none⟩ 1 1 [.string (S x)] (by kernel_rfl) (by rfl) (World.news_of_block (cs := #[.string (S x)]) (t := 9) (fr := (0, 0)) (NB.out)) (by simp [Value.oneCell']) (by unfold maxLen; omega) (by omega) (Below.size (J.out)) ?_; intro v2 x2 hown hg; have R2 := Lib.hid hown; have j2 : Keeps wy x2 := (J.out).grown hg (Below.size (J.out)) (fun q hq => (World.ownsRow.lt R1.out q hq).1); clear J hown hg; have J := Lib.hid j2; clear j2 cx9)
                | (refine step_append_any (by rfl) (.tmp 48) (.tmp 53) 33 (by rfl) wy.heap.size 9 i0 (.string ⟨#[]⟩) 1 16 Tryz.underlying33 hi hz0 hz1 hz2 rfl (by decide) v1 (0 + j) ([] ++ (ss.take j).map fun u => Value.string (S u)) (by kernel_rfl) (R1.out.alloc (.cells #[.string (S x)] 9)) ⟨x1.heap.size, 0, none⟩ 1 1 [.string (S x)] (by kernel_rfl) (by rfl) (World.news_of_block (cs := #[.string (S x)]) (t := 9) (fr := (0, 0)) (heap_alloc_new x1 (.cells #[.string (S x)] 9))) (by simp [Value.oneCell']) (by unfold maxLen; omega) (by omega) (Below.size (J.out.alloc (.cells #[.string (S x)] 9))) ?_; intro v2 x2 hown hg; have R2 := Lib.hid hown; have j2 : Keeps wy x2 := (J.out.alloc (.cells #[.string (S x)] 9)).grown hg (Below.size (J.out.alloc (.cells #[.string (S x)] 9))) (fun q hq => (World.ownsRow.lt R1.out q hq).1); clear J hown hg; have J := Lib.hid j2; clear j2 cx9)
                | (refine step_append_any (by rfl) (.tmp 54) (.tmp 57) 33 (by rfl) wy.heap.size 9 i0 (.string ⟨#[]⟩) 1 16 Tryz.underlying33 hi hz0 hz1 hz2 rfl (by decide) v2 (0 + j + 1) ([] ++ (ss.take j).map (fun u => Value.string (S u)) ++ [.string (S x)]) (by kernel_rfl) R2.out ⟨g, j, none⟩ 0 (cap - j) ((ss.drop j).map fun u => Value.string (S u)) (by kernel_rfl) LD.out (by have h := news_drop (HBZ.out.keeps J.out) j; simpa using h) (strs_one _) (by unfold maxLen; omega) (by omega) (Below.size J.out) ?_; intro v3 x3 hown hg; have R3 := Lib.hid hown; have j3 : Keeps wy x3 := J.out.grown hg (Below.size J.out) (fun q hq => (World.ownsRow.lt R2.out q hq).1); clear J hown hg; have J := Lib.hid j3; clear j3)
              )
              all_goals
                have JQ := Lib.hid (show Keeps w x3 ∧ ∃ ss', StrRow x3 w.heap.size v3 ss' ∧ RiseS ss' ∧ (∀ u, u ∈ ss' ↔ u ∈ xs.take (k + 1)) ∧ ss'.length ≤ k + 1 from ⟨HK.out.trans (KY.out.trans J.out), ss.take j ++ [x] ++ ss.drop j, by
                  unfold StrRow
                  have e1 : (ss.take j ++ [x] ++ ss.drop j).length = 0 + j + 1 + 0 := by
                    have a1 := LT.out
                    have a2 := LD.out
                    simp only [List.length_map] at a1 a2
                    simp only [List.length_append, List.length_singleton]
                    omega
                  have e2 : ((ss.take j ++ [x] ++ ss.drop j).map fun u => Value.string (S u)) = [] ++ (ss.take j).map (fun u => Value.string (S u)) ++ [.string (S x)] ++ (ss.drop j).map (fun u => Value.string (S u)) := by
                    rw [List.map_append, List.map_append]; rfl
                  rw [e1, e2]
                  exact own_mono R3.out (HK.out.trans KY.out).size, rise_ins HRISE.out j (lt_take HLS.out) (fun u hu => by rw [show ss.drop j = [] from List.eq_nil_of_length_eq_zero (by have := LD.out; simp only [List.length_map] at this; omega)] at hu; simp at hu), fun u => by
                  rw [mem_ins, HTK2.out, List.mem_append, List.mem_singleton, ← HMEM.out u], by
                  have a1 := LT.out
                  have a2 := LD.out
                  have a3 := HN.out
                  simp only [List.length_map] at a1 a2
                  simp only [List.length_append, List.length_singleton]
                  omega⟩)
                clear R1 R2 R3 J
                go_wp2
                cases gn with
                | zero => omega
                | succ g2 =>
                  go_roundg g2
                  case measure => omega
                  case rel => exact ⟨k + 1, by go_num, by omega, by omega, JQ⟩
    · obtain rfl : k = L := by omega
      obtain ⟨hK, ss, hR, hrise, hmem, hsk⟩ := hI.out
      rw [HTF.out] at hmem
      have HRET := Lib.hid (show RisingRet xs w (.returned u3) wo from ⟨u3, ss, rfl, hR, hrise, hmem, by rw [HL.out]; exact hsk, hK⟩)
      have f1 : decide ((k : Int) < (k : Int)) = false := by simp
      have f1' : decide (k < k) = false := by simp
      clear hI hK hR hrise hmem hsk
      go_wp2
      go_ret
      exact HRET.out
end Go.Proofs.YtfapilgmgjmfeaaGreatDoor
