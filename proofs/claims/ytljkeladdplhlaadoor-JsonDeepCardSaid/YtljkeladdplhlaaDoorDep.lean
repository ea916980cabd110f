/-
  How deep a value is, of package json, as plain functions: level by level.
-/
import Derived.Test.YtljkeladdplhlaaDoorCnt
namespace Go.Proofs.YtljkeladdplhlaaDoor
open Go.RowKit

def J.kind : J → Int
  | .mk k _ _ _ _ => k
/-- Is it a list or an object? -/
def isC (j : J) : Bool := j.kind == 5 || j.kind == 6
mutual
def depthJ : J → Nat
  | .mk k _ _ _ is => if k = 5 ∨ k = 6 then 1 + depthL is else 0
def depthL : List J → Nat
  | [] => 0
  | j :: t => max (depthJ j) (depthL t)
end
theorem depthJ_eq (j : J) : depthJ j = if isC j = true then 1 + depthL j.items else 0 := by
  cases j with
  | mk k n t ks is =>
    rw [depthJ]
    by_cases h : k = 5 ∨ k = 6
    · rw [if_pos h, if_pos (by simpa [isC, J.kind] using h)]; rfl
    · rw [if_neg h, if_neg (by simpa [isC, J.kind] using h)]
/-- What the lists and objects of a list hold. -/
def nextl : List J → List (List J)
  | [] => []
  | j :: t => if isC j = true then j.items :: nextl t else nextl t
def nextL : List (List J) → List (List J)
  | [] => []
  | l :: t => nextl l ++ nextL t
def levD : List (List J) → Nat
  | [] => 0
  | l :: t => max (depthL l) (levD t)
theorem levD_app (a b : List (List J)) : levD (a ++ b) = max (levD a) (levD b) := by
  induction a with
  | nil => simp [levD]
  | cons x t ih => simp only [List.cons_append, levD, ih]; omega
theorem sumS_app (a b : List (List J)) : sumS (a ++ b) = sumS a + sumS b := by
  induction a with
  | nil => simp [sumS]
  | cons x t ih => simp only [List.cons_append, sumS, ih]; omega
theorem nextl_sum : ∀ l : List J, sumS (nextl l) + (nextl l).length ≤ nodesL l
  | [] => Nat.le_refl _
  | j :: t => by
    have h := nextl_sum t
    have e := nodesJ_eq j
    simp only [nextl, nodesL]
    split
    · simp only [sumS, List.length_cons]; omega
    · omega
theorem nextL_sum : ∀ ls : List (List J), sumS (nextL ls) + (nextL ls).length ≤ sumS ls
  | [] => Nat.le_refl _
  | l :: t => by
    have h := nextL_sum t
    have h2 := nextl_sum l
    simp only [nextL, sumS, sumS_app, List.length_append]
    omega
theorem nextl_depth : ∀ l : List J, (nextl l = [] → depthL l = 0) ∧ (nextl l ≠ [] → depthL l = 1 + levD (nextl l))
  | [] => ⟨fun _ => rfl, fun h => absurd rfl h⟩
  | j :: t => by
    obtain ⟨h1, h2⟩ := nextl_depth t
    have e := depthJ_eq j
    simp only [nextl, depthL]
    by_cases hc : isC j = true
    · rw [if_pos hc] at e ⊢
      refine ⟨fun h => absurd h (by simp), fun _ => ?_⟩
      simp only [levD]
      by_cases hn : nextl t = []
      · rw [hn] at h1 ⊢; simp only [levD]; have := h1 rfl; omega
      · have := h2 hn; omega
    · rw [if_neg hc] at e ⊢
      exact ⟨fun h => by have := h1 h; omega, fun h => by have := h2 h; omega⟩
theorem nextL_depth : ∀ ls : List (List J), (nextL ls = [] → levD ls = 0) ∧ (nextL ls ≠ [] → levD ls = 1 + levD (nextL ls))
  | [] => ⟨fun _ => rfl, fun h => absurd rfl h⟩
  | l :: t => by
    obtain ⟨h1, h2⟩ := nextL_depth t
    obtain ⟨k1, k2⟩ := nextl_depth l
    simp only [nextL, levD, levD_app]
    by_cases ha : nextl l = []
    · rw [ha]
      simp only [List.nil_append, levD]
      exact ⟨fun h => by have := k1 ha; have := h1 h; omega, fun h => by have := k1 ha; have := h2 h; omega⟩
    · refine ⟨fun h => absurd (List.append_eq_nil_iff.1 h).1 ha, fun _ => ?_⟩
      have e1 := k2 ha
      by_cases hb : nextL t = []
      · rw [hb]; have := h1 hb; simp only [levD]; omega
      · have := h2 hb; omega
theorem nextl_snoc (l : List J) (j : J) : nextl (l ++ [j]) = nextl l ++ (if isC j = true then [j.items] else []) := by
  induction l with
  | nil => simp only [List.nil_append, nextl]
  | cons x t ih =>
    simp only [List.cons_append, nextl, ih]
    split <;> simp
theorem nextl_take (l : List J) (k : Nat) (h : k < l.length) : nextl (l.take (k + 1)) = nextl (l.take k) ++ (if isC (l[k]'h) = true then [(l[k]'h).items] else []) := by
  rw [List.take_succ_eq_append_getElem h, nextl_snoc]
theorem nextL_take (ls : List (List J)) (i : Nat) (h : i < ls.length) : nextL (ls.take (i + 1)) = nextL (ls.take i) ++ nextl (ls[i]'h) := by
  rw [List.take_succ_eq_append_getElem h]
  generalize ls.take i = a
  generalize ls[i]'h = l
  induction a with
  | nil => simp [nextL]
  | cons x t ih => simp only [List.cons_append, nextL, ih, List.append_assoc]
theorem nextl_le : ∀ l : List J, (nextl l).length ≤ l.length
  | [] => Nat.le_refl _
  | j :: t => by
    have := nextl_le t
    simp only [nextl, List.length_cons]
    split
    · simp only [List.length_cons]; omega
    · omega
theorem sumS_take (ls : List (List J)) (i : Nat) : sumS (ls.take i) ≤ sumS ls := by
  have h := sumS_app (ls.take i) (ls.drop i)
  rw [List.take_append_drop] at h
  omega
theorem sumS_get (ls : List (List J)) (i : Nat) (h : i < ls.length) : sumS (ls.take i) + nodesL (ls[i]'h) ≤ sumS ls := by
  have h1 := sumS_take ls (i + 1)
  rw [List.take_succ_eq_append_getElem h, sumS_app] at h1
  simpa [sumS] using h1
end Go.Proofs.YtljkeladdplhlaaDoor
namespace Go.Proofs.YtljkeladdplhlaaDoor
open Go.RowKit

def NextRet (w wr : World) (F : Nat → Prop) (ls : List (List J)) (e : Ending) (w' : World) : Prop :=
  ∃ iv xs, e = .returned (.tuple #[iv, .bool (!(nextL ls).isEmpty)]) ∧ Keeps wr w' ∧ w'.ownsRow wr.heap.size 22 1 iv (nextL ls).length xs ∧ Stk w F (nextL ls) xs
/-- Where the loops stand: what has been found. -/
def NextAt (w wr : World) (F : Nat → Prop) (fs : List (List J)) (v2 v3 : Value) (wx : World) : Prop :=
  Keeps wr wx ∧ v3 = .bool (!fs.isEmpty) ∧ ∃ xs, wx.ownsRow wr.heap.size 22 1 v2 fs.length xs ∧ Stk w F fs xs
theorem Keeps.grow {a b c : World} {row : Option Nat} (h : Keeps a b) (g : b.grownBy c row) (hr : ∀ j, row = some j → a.heap.size ≤ j) : Keeps a c := Below.grown h g h.size hr
theorem own_from {w : World} {B e size n : Nat} {ov : Value} {xs : List Value} (h : w.ownsRow B e size ov n xs) (j : Nat) (hj : ov.ownBlock = some j) : B ≤ j := by
  rcases Nat.lt_or_ge j B with hl | hl
  · exact absurd hj (own_base h hl)
  · exact hl

theorem isEmpty_snoc {α : Type} (l : List α) (x : α) : (l ++ [x]).isEmpty = false := by cases l <;> rfl
set_option maxHeartbeats 8000000 in
set_option maxRecDepth 100000 in
theorem next_any (w wr : World) (F : Nat → Prop) (B : Nat) (ls : List (List J)) (xs : List Value) (lv : Value) (hkw : Keeps w wr) (hown : wr.ownsRow B 22 1 lv ls.length xs) (hst : Stk w F ls xs) (hsum : sumS ls ≤ 1000000) (hlen : ls.length ≤ 1000000) :
    Calls Tryd.prog 44 #[lv] wr (NextRet w wr F ls) := by
  obtain ⟨i0, hi0, hz0, hz1, hz2⟩ := info_parts info22
  obtain ⟨la, lc, rfl⟩ := own_slice hown
  have OWN := Lib.hid hown
  have ST := Lib.hid hst
  have KW := Lib.hid hkw
  have HSUM := Lib.hid hsum
  clear hown hst hkw
  generalize hN : ls.length = N at *
  have HN := Lib.hid hN
  have hSum := hsum
  generalize hT : sumS ls = T at hSum
  have HT := Lib.hid hT
  clear hN hsum hT
  go_enter Tryd.func44, Tryd.ntmps44
  go_wp2
  have A0 : Hid (NextAt w wr F (nextL (ls.take 0)) (.slice none 0 0) (.bool false) wr) := Lib.hid ⟨Keeps.refl _, rfl, [], ⟨rfl, .inl ⟨rfl, rfl⟩⟩, rfl⟩
  obtain ⟨wo, rfl⟩ : ∃ wo : World, wo = wr := ⟨_, rfl⟩
  go_loopg [2, 3, 10] (N + 1) (fun g v2 v3 i wx => ∃ k : Nat, i = .int .i64 (k : Int) ∧ k ≤ N ∧ N - k < g ∧ Hid (NextAt w wo F (nextL (ls.take k)) v2 v3 wx))
  case atStart => exact ⟨0, rfl, Nat.zero_le _, by omega, A0⟩
  case round =>
    obtain ⟨i, rfl, hiN, hig, hA⟩ := hrel
    clear A0
    by_cases hlt : i < N
    · have hlt' : i < ls.length := by rw [HN.out]; exact hlt
      obtain ⟨gl, cl, hle, hgl⟩ := own_form OWN.out (by omega)
      obtain ⟨rfl, rfl⟩ : la = some ⟨gl, 0, none⟩ ∧ lc = cl := by simpa using hle
      obtain ⟨x, hxi, hx⟩ := Stk.get ls xs i hlt' ST.out
      have hcell : wo.cell? ⟨gl, i, none⟩ = some x := by
        have := World.ownsRow.cellAt OWN.out i (by omega)
        rw [this]; exact hxi
      obtain ⟨hk1, hm, ys, hown1, hst1⟩ := hA.out
      have hcell1 := hk1.cell hcell
      obtain ⟨xa, xc, rfl⟩ := hx.form
      have hget := sumS_get ls i hlt'
      have htk := nextL_take ls i hlt'
      generalize hl : ls[i]'hlt' = l at *
      have hll := nodesL_len l
      have HX := Lib.hid hx
      have HTK := Lib.hid htk
      have hfl : (nextL (ls.take i)).length ≤ sumS (ls.take i) := by have := nextL_sum (ls.take i); omega
      have hfb : (nextL (ls.take i)).length + l.length ≤ 1000000 := by have := HT.out; omega
      have q1 : (0 : Int) ≤ (i : Int) := by omega
      have q2 : (i : Int) < (N : Int) := by omega
      generalize nextL (ls.take i) = fs at *
      have HL := Lib.hid hl
      have hlb : l.length ≤ 1000000 := by omega
      have I0 : Hid (NextAt w wo F (fs ++ nextl (l.take 0)) u2 u3 wr) := Lib.hid (by rw [List.take_zero, nextl, List.append_nil]; exact hA.out)
      clear hle hxi hx hcell hk1 hm hown1 hst1 hget htk hl hA
      cases gk with
      | zero => omega
      | succ g0 =>
      go_wp2
      obtain ⟨wi, rfl⟩ : ∃ wi : World, wi = wr := ⟨_, rfl⟩
      go_loopg [2, 3, 16] (l.length + 1) (fun g v2 v3 i wx => ∃ k : Nat, i = .int .i64 (k : Int) ∧ k ≤ l.length ∧ l.length - k < g ∧ Hid (NextAt w wo F (fs ++ nextl (l.take k)) v2 v3 wx))
      case atStart => exact ⟨0, rfl, Nat.zero_le _, by omega, I0⟩
      case round =>
        obtain ⟨k, rfl, hkl, hkg, hA⟩ := hrel
        clear I0
        by_cases hlt2 : k < l.length
        · obtain ⟨hk2, hm2, zs, hown2, hst2⟩ := hA.out
          obtain ⟨gx, ox, cx, hxe, jk2, jn2, jt2, jks2, its, kv2, jv2, hitem, hkt2, hit2, x0, x1, x2, x3, x4⟩ := HX.out.get k hlt2
          obtain ⟨ka2, kc2, rfl⟩ := hkt2.form
          obtain ⟨ja2, jc2, rfl⟩ := hit2.form
          obtain ⟨rfl, rfl⟩ : xa = some ⟨gx, ox, none⟩ ∧ xc = cx := by simpa using hxe
          obtain ⟨ra, rc, rfl⟩ := own_slice hown2
          have kk := KW.out.trans hk2
          have y0 := kk.cell x0
          have y1 := kk.cell x1
          have y2 := kk.cell x2
          have y3 := kk.cell x3
          have y4 := kk.cell x4
          have htk2 := nextl_take l k hlt2
          have hC : isC (l[k]'hlt2) = (jk2 == 5 || jk2 == 6) := by rw [hitem]; rfl
          have hI : (l[k]'hlt2).items = its := by rw [hitem]; rfl
          rw [hC, hI] at htk2
          have hfl2 : (fs ++ nextl (l.take k)).length ≤ 1000000 := by
            have := nextl_le (l.take k)
            rw [List.length_take] at this
            rw [List.length_append]; omega
          have q4 : (0 : Int) ≤ (k : Int) := by omega
          have q5 : (k : Int) < (l.length : Int) := by omega
          have hz := hk2.size
          have HM3 := Lib.hid hm2
          have K2 := Lib.hid hk2
          have ST2 := Lib.hid hst2
          have OWN2 := Lib.hid hown2
          have HIT := Lib.hid hit2
          have HTK2 := Lib.hid htk2
          generalize hR : (fs ++ nextl (l.take k)) = hs at *
          have HR := Lib.hid hR
          generalize hRL : hs.length = R at *
          have HRL := Lib.hid hRL
          clear hk2 hst2 hown2 hit2 htk2 hkt2 hxe hitem hC hI x0 x1 x2 x3 x4 hR hRL hA kk hm2
          cases gk with
          | zero => omega
          | succ g2 =>
          by_cases hc5 : jk2 = 5
          · have f5 : (jk2 == 5) = true := by simpa using hc5
            have HF := Lib.hid (show (jk2 == 5 || jk2 == 6) = true by rw [f5]; rfl)
            clear hc5
            go_wp2_with (at_builtin; refine wpList_append_lies _ rfl _ _ _ rfl wo.heap.size 22 i0 _ 1 24 Tryd.underlying64 hi0 hz0 hz1 hz2 rfl (by omega) (.slice ra R rc) R zs rfl ((OWN2.out.alloc _).alloc _) ⟨wr.heap.size + 1, 0, none⟩ 1 1 [.slice ja2 its.length jc2] rfl rfl (World.news_of_block (cs := #[.slice ja2 its.length jc2]) (t := 22) (fr := (0, 0)) (al_at _ (by simp))) (by simp [Value.oneCell']) (by omega) (by unfold maxLen; omega) (by omega) (by simp; omega) _ rfl ?_; intro gg cg w4 hown4 hgrow hat hlt4)
            go_roundg g2
            case measure => omega
            case rel =>
              have hk4 : Keeps wo w4 := ((K2.out.alloc _).alloc _).grow hgrow (own_from OWN2.out)
              exact ⟨k + 1, by go_num, by omega, by omega, Lib.hid ⟨hk4, by rw [HTK2.out, HF.out, if_pos rfl, ← List.append_assoc, HR.out, isEmpty_snoc]; rfl, _, by rw [HTK2.out, HF.out, if_pos rfl, ← List.append_assoc, HR.out, List.length_append, List.length_singleton, HRL.out]; exact hown4, by rw [HTK2.out, HF.out, if_pos rfl, ← List.append_assoc, HR.out]; exact Stk.snoc HIT.out _ _ ST2.out⟩⟩
          · have f5 : (jk2 == 5) = false := by simpa using hc5
            by_cases hc6 : jk2 = 6
            · have f6 : (jk2 == 6) = true := by simpa using hc6
              have HF := Lib.hid (show (jk2 == 5 || jk2 == 6) = true by rw [f5, f6]; rfl)
              clear hc5 hc6
              go_wp2_with (at_builtin; refine wpList_append_lies _ rfl _ _ _ rfl wo.heap.size 22 i0 _ 1 24 Tryd.underlying64 hi0 hz0 hz1 hz2 rfl (by omega) (.slice ra R rc) R zs rfl ((OWN2.out.alloc _).alloc _) ⟨wr.heap.size + 1, 0, none⟩ 1 1 [.slice ja2 its.length jc2] rfl rfl (World.news_of_block (cs := #[.slice ja2 its.length jc2]) (t := 22) (fr := (0, 0)) (al_at _ (by simp))) (by simp [Value.oneCell']) (by omega) (by unfold maxLen; omega) (by omega) (by simp; omega) _ rfl ?_; intro gg cg w4 hown4 hgrow hat hlt4)
              go_roundg g2
              case measure => omega
              case rel =>
                have hk4 : Keeps wo w4 := ((K2.out.alloc _).alloc _).grow hgrow (own_from OWN2.out)
                exact ⟨k + 1, by go_num, by omega, by omega, Lib.hid ⟨hk4, by rw [HTK2.out, HF.out, if_pos rfl, ← List.append_assoc, HR.out, isEmpty_snoc]; rfl, _, by rw [HTK2.out, HF.out, if_pos rfl, ← List.append_assoc, HR.out, List.length_append, List.length_singleton, HRL.out]; exact hown4, by rw [HTK2.out, HF.out, if_pos rfl, ← List.append_assoc, HR.out]; exact Stk.snoc HIT.out _ _ ST2.out⟩⟩
            · have f6 : (jk2 == 6) = false := by simpa using hc6
              have HF := Lib.hid (show (jk2 == 5 || jk2 == 6) = false by rw [f5, f6]; rfl)
              clear hc5 hc6
              go_wp2
              go_roundg g2
              case measure => omega
              case rel => exact ⟨k + 1, by go_num, by omega, by omega, Lib.hid ⟨K2.out.alloc _, by rw [HTK2.out, HF.out, if_neg (by decide), List.append_nil, HR.out]; exact HM3.out, zs, by rw [HTK2.out, HF.out, if_neg (by decide), List.append_nil, HR.out, HRL.out]; exact OWN2.out.alloc _, by rw [HTK2.out, HF.out, if_neg (by decide), List.append_nil, HR.out]; exact ST2.out⟩⟩
        · have hkk : k = l.length := by omega
          have A2 := Lib.hid (show NextAt w wo F (nextL (ls.take (i + 1))) _ _ _ by have := hA.out; rw [hkk, List.take_length] at this; rw [HTK.out]; exact this)
          clear hkk hA
          go_wp2
          go_roundg g0
          case measure => omega
          case rel => exact ⟨i + 1, by go_num, by omega, by omega, A2⟩
    · have hii : i = N := by omega
      have hA1 := Lib.hid (show NextAt w wo F (nextL ls) _ _ _ by have := hA.out; rwa [hii, ← HN.out, List.take_length] at this)
      clear hA hii
      go_wp2
      go_ret2
      obtain ⟨h1, h2, zs, h3, h4⟩ := hA1.out
      exact ⟨u2, zs, by rw [← h2]; rfl, h1, h3, h4⟩

/-- Where the loop over levels stands. -/
def DepAt (w : World) (F : Nat → Prop) (D n : Nat) (ls : List (List J)) (v6 : Value) (wr : World) : Prop :=
  Keeps w wr ∧ n + levD ls = D ∧ ∃ B xs, B ≤ wr.heap.size ∧ wr.ownsRow B 22 1 v6 ls.length xs ∧ Stk w F ls xs ∧ sumS ls ≤ 1000000 ∧ ls.length ≤ 1000000

theorem depthJ_nodes : ∀ j : J, depthJ j ≤ nodesJ j
  | .mk k n t ks is => by
    have h := depthL_nodes is
    rw [depthJ, nodesJ]
    split <;> omega
where depthL_nodes : ∀ l : List J, depthL l ≤ nodesL l
  | [] => Nat.le_refl _
  | j :: t => by
    have h1 := depthJ_nodes j
    have h2 := depthL_nodes t
    simp only [depthL, nodesL]
    omega

set_option maxHeartbeats 8000000 in
set_option maxRecDepth 100000 in
theorem depth_any (j : J) (v : Value) (F : Nat → Prop) (most : Int) (w : World) (hj : IsJ w F j v) (hF : ∀ i, F i → i < w.heap.size) (hb : nodesJ j ≤ 900000) (h0 : 0 ≤ most) (h1 : most ≤ 9223372036854775807) :
    Calls Tryd.prog 26 #[v, .int .i64 most] w (CntRet (depthJ j) most w) := by
  have hdb := depthJ_nodes j
  obtain ⟨jk, jn, jt, jks, jis, kv, iv, rfl, rfl, hkv, hiv⟩ := hj.parts
  obtain ⟨ka, kc, rfl⟩ := hkv.form
  obtain ⟨ia, ic, rfl⟩ := hiv.form
  have cN := Lib.hid (fun (wa wr : World) (Fa : Nat → Prop) (B : Nat) (ls : List (List J)) (xs : List Value) (lv : Value) h1 h2 h3 h4 h5 => next_any wa wr Fa B ls xs lv h1 h2 h3 h4 h5)
  have hD : levD [[.mk jk jn jt jks jis]] = depthJ (.mk jk jn jt jks jis) := by simp [levD, depthL]
  have hS : sumS [[.mk jk jn jt jks jis]] ≤ 1000000 := by simp only [sumS, nodesL]; omega
  have HD := Lib.hid hD
  have HS := Lib.hid hS
  have HJ := Lib.hid hj
  clear hD hS hiv hkv
  have HFb := Lib.hid hF
  generalize hDD : depthJ (.mk jk jn jt jks jis) = D at *
  have HDD := Lib.hid hDD
  clear hj hDD hF
  generalize hN : jis.length = N at *
  go_enter Tryd.func26, Tryd.ntmps26
  go_wp2
  have hK3 : Keeps w (((w.alloc (.cells #[.int .i64 jk, .int .i64 jn, .string (S jt), .slice ka jks.length kc, .slice ia N ic] 25)).alloc (.cells #[.int .i64 jk, .int .i64 jn, .string (S jt), .slice ka jks.length kc, .slice ia N ic] 25)).alloc (.cells #[.slice (some ⟨w.heap.size + 1, 0, none⟩) 1 1] 22)) := (((Keeps.refl w).alloc _).alloc _).alloc _
  have hb1 : (((w.alloc (.cells #[.int .i64 jk, .int .i64 jn, .string (S jt), .slice ka jks.length kc, .slice ia N ic] 25)).alloc (.cells #[.int .i64 jk, .int .i64 jn, .string (S jt), .slice ka jks.length kc, .slice ia N ic] 25)).alloc (.cells #[.slice (some ⟨w.heap.size + 1, 0, none⟩) 1 1] 22)).heap[w.heap.size + 1]? = some (.cells #[.int .i64 jk, .int .i64 jn, .string (S jt), .slice ka jks.length kc, .slice ia N ic] 25 (0, 0)) := (al_lt _ (by simp)).trans (al_at _ (by simp))
  have hb2 : (((w.alloc (.cells #[.int .i64 jk, .int .i64 jn, .string (S jt), .slice ka jks.length kc, .slice ia N ic] 25)).alloc (.cells #[.int .i64 jk, .int .i64 jn, .string (S jt), .slice ka jks.length kc, .slice ia N ic] 25)).alloc (.cells #[.slice (some ⟨w.heap.size + 1, 0, none⟩) 1 1] 22)).heap[w.heap.size + 1 + 1]? = some (.cells #[.slice (some ⟨w.heap.size + 1, 0, none⟩) 1 1] 22 (0, 0)) := al_at _ (by simp)
  have hz3 : (((w.alloc (.cells #[.int .i64 jk, .int .i64 jn, .string (S jt), .slice ka jks.length kc, .slice ia N ic] 25)).alloc (.cells #[.int .i64 jk, .int .i64 jn, .string (S jt), .slice ka jks.length kc, .slice ia N ic] 25)).alloc (.cells #[.slice (some ⟨w.heap.size + 1, 0, none⟩) 1 1] 22)).heap.size = w.heap.size + 3 := by simp
  have hj3 : IsJ (((w.alloc (.cells #[.int .i64 jk, .int .i64 jn, .string (S jt), .slice ka jks.length kc, .slice ia N ic] 25)).alloc (.cells #[.int .i64 jk, .int .i64 jn, .string (S jt), .slice ka jks.length kc, .slice ia N ic] 25)).alloc (.cells #[.slice (some ⟨w.heap.size + 1, 0, none⟩) 1 1] 22)) (fun i => F i ∨ i = w.heap.size + 1) (.mk jk jn jt jks jis) (.agg #[.int .i64 jk, .int .i64 jn, .string (S jt), .slice ka jks.length kc, .slice ia N ic]) := (IsJ.keeps (fun i hi => hK3.block i (HFb.out i hi)) _ _ HJ.out).mono (fun i hi => .inl hi)
  generalize (((w.alloc (.cells #[.int .i64 jk, .int .i64 jn, .string (S jt), .slice ka jks.length kc, .slice ia N ic] 25)).alloc (.cells #[.int .i64 jk, .int .i64 jn, .string (S jt), .slice ka jks.length kc, .slice ia N ic] 25)).alloc (.cells #[.slice (some ⟨w.heap.size + 1, 0, none⟩) 1 1] 22)) = W at *
  have hA : DepAt W (fun i => F i ∨ i = w.heap.size + 1) D 0 [[.mk jk jn jt jks jis]] (.slice (some ⟨w.heap.size + 1 + 1, 0, none⟩) 1 1) W := by
    refine ⟨Keeps.refl W, by rw [HD.out, Nat.zero_add], w.heap.size, [.slice (some ⟨w.heap.size + 1, 0, none⟩) 1 1], by omega, ⟨rfl, .inr ⟨w.heap.size + 1 + 1, 1, _, rfl, by omega, hb2, Nat.le_refl _, by unfold maxLen; omega, rfl, rfl⟩⟩, ⟨_, [], rfl, .inr ⟨w.heap.size + 1, 0, 1, rfl, .inr rfl, ?_⟩, rfl⟩, HS.out, by simp⟩
    unfold AreJ
    refine ⟨⟨_, _, _, _, _, fun k u hk => ?_, hj3⟩, by unfold AreJ; trivial⟩
    rw [Nat.zero_add, Lib.cell_of_heap hb1]
    simpa using hk
  have A0 := Lib.hid hA
  have K3 := Lib.hid hK3
  have hlev : levD [[.mk jk jn jt jks jis]] < D + 1 := by rw [HD.out]; omega
  clear hA hK3 hb1 hb2 hj3
  go_loopg [5, 6] (D + 1) (fun g n5 v6 wr => ∃ (n : Nat) (ls : List (List J)), n5 = .int .i64 (n : Int) ∧ levD ls < g ∧ n ≤ D ∧ Hid (DepAt W (fun i => F i ∨ i = w.heap.size + 1) D n ls v6 wr))
  case atStart => exact ⟨0, _, rfl, hlev, Nat.zero_le _, A0⟩
  case round =>
    obtain ⟨n, ls, rfl, hlg, hnD, hA⟩ := hrel
    clear A0 hlev
    by_cases hle : (n : Int) ≤ most
    · obtain ⟨hk, hs, B, xs, hB, hown, hst, hsum, hlen⟩ := hA.out
      have cN2 := Lib.hid (cN.out W wr _ B ls xs _ hk hown hst hsum hlen)
      have hnx := nextL_depth ls
      have hns := nextL_sum ls
      have fl : decide ((n : Int) ≤ most) = true := by simpa using hle
      have K := Lib.hid hk
      have HSS := Lib.hid hs
      clear hle hk hown hst hs hA
      cases gk with
      | zero => omega
      | succ g0 =>
      go_wp2_with fail
      refine cN2.out.mono ?_
      rintro e w2 ⟨iv, ys, rfl, hk2, hown2, hst2⟩
      have K2 := Lib.hid (K.out.trans hk2)
      have hz2 := hk2.size
      have OWN2 := Lib.hid hown2
      have ST2 := Lib.hid hst2
      clear hk2 hown2 hst2 cN2
      by_cases he : nextL ls = []
      · have hn2 : n = D := by have := hnx.1 he; have := HSS.out; omega
        have HN2 := Lib.hid hn2
        rw [he]
        clear hn2 he hnx hns
        go_wp2
        go_ret
        exact ⟨n, rfl, fun _ => HN2.out, fun h => by rw [HN2.out]; exact h, hnD, K3.out.trans K2.out⟩
      · have f2 : (nextL ls).isEmpty = false := by cases h : nextL ls with | nil => exact absurd h he | cons => rfl
        have hlv := hnx.2 he
        rw [f2]
        have A1 : Hid (DepAt W (fun i => F i ∨ i = w.heap.size + 1) D (n + 1) (nextL ls) iv w2) := Lib.hid ⟨K2.out, by have := HSS.out; omega, wr.heap.size, ys, hz2, OWN2.out, ST2.out, by omega, by omega⟩
        have hnD2 : n + 1 ≤ D := by have := HSS.out; omega
        clear he f2 hnx
        go_wp2
        go_roundg g0
        case measure => omega
        case rel => exact ⟨n + 1, nextL ls, by go_num, by omega, hnD2, A1⟩
    · have fl : decide ((n : Int) ≤ most) = false := by simpa using hle
      have hle' : most < (n : Int) := by omega
      have K2 := Lib.hid hA.out.1
      clear hle hA
      go_wp2
      go_ret
      exact ⟨n, rfl, fun h => absurd h (by omega), fun _ => hle', hnD, K3.out.trans K2.out⟩
end Go.Proofs.YtljkeladdplhlaaDoor
