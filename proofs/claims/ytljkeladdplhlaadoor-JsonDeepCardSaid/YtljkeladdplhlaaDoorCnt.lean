/-
  Values in memory, gone through: lists of lists of values; how many values there are, of package json.
-/
import Derived.Test.YtljkeladdplhlaaDoorRea
import Derived.Deep.LoopGhost
import Derived.Deep.AppendLies
namespace Go.Proofs.YtljkeladdplhlaaDoor
open Go.RowKit

mutual
/-- How many values a value has, itself included. -/
def nodesJ : J → Nat
  | .mk _ _ _ _ is => 1 + nodesL is
def nodesL : List J → Nat
  | [] => 0
  | j :: t => nodesJ j + nodesL t
end
theorem nodesJ_eq (j : J) : nodesJ j = 1 + nodesL j.items := by cases j; rw [nodesJ]; rfl
theorem nodesL_len : ∀ l : List J, l.length ≤ nodesL l
  | [] => Nat.le_refl _
  | j :: t => by have := nodesL_len t; have := nodesJ_eq j; simp only [nodesL, List.length_cons]; omega
/-- How many are still to come. -/
def sumS : List (List J) → Nat
  | [] => 0
  | l :: t => nodesL l + sumS t
def muS : List (List J) → Nat
  | [] => 0
  | l :: t => 1 + nodesL l + muS t
theorem sumS_snoc (ls : List (List J)) (l : List J) : sumS (ls ++ [l]) = sumS ls + nodesL l := by
  induction ls with
  | nil => simp [sumS]
  | cons x t ih => simp only [List.cons_append, sumS, ih]; omega
theorem muS_snoc (ls : List (List J)) (l : List J) : muS (ls ++ [l]) = muS ls + (1 + nodesL l) := by
  induction ls with
  | nil => simp [muS]
  | cons x t ih => simp only [List.cons_append, muS, ih]; omega

/-- A list of values, as a slice. -/
def IsItems (w : World) (F : Nat → Prop) (iv : Value) (is : List J) : Prop :=
  (iv = .slice none 0 0 ∧ is = []) ∨ ∃ g o cap, iv = .slice (some ⟨g, o, none⟩) is.length cap ∧ F g ∧ AreJ w F g o is
theorem IsJ.parts {w : World} {F : Nat → Prop} {j : J} {v : Value} (h : IsJ w F j v) : ∃ k n t ks is kv iv, j = .mk k n t ks is ∧ v = .agg #[.int .i64 k, .int .i64 n, .string (S t), kv, iv] ∧ IsTexts w F kv ks ∧ IsItems w F iv is := by
  obtain ⟨k, n, t, ks, is⟩ := j
  unfold IsJ at h
  obtain ⟨kv, iv, h1, h2, h3⟩ := h
  exact ⟨k, n, t, ks, is, kv, iv, rfl, h1, h2, h3⟩
theorem AreJ.get {w : World} {F : Nat → Prop} {g : Nat} : ∀ (is : List J) (o i : Nat) (hi : i < is.length), AreJ w F g o is → ∃ c0 c1 c2 c3 c4 : Value, CellsAt w g (o + i * 5) [c0, c1, c2, c3, c4] ∧ IsJ w F (is[i]'hi) (.agg #[c0, c1, c2, c3, c4])
  | [], _, _, hi, _ => by simp at hi
  | j :: t, o, 0, hi, h => by
    unfold AreJ at h
    obtain ⟨⟨c0, c1, c2, c3, c4, h1, h2⟩, _⟩ := h
    exact ⟨c0, c1, c2, c3, c4, by simpa using h1, h2⟩
  | j :: t, o, i + 1, hi, h => by
    unfold AreJ at h
    obtain ⟨c0, c1, c2, c3, c4, h1, h2⟩ := AreJ.get t (o + 5) i (by simpa using hi) h.2
    exact ⟨c0, c1, c2, c3, c4, by rwa [show o + 5 + i * 5 = o + (i + 1) * 5 by omega] at h1, h2⟩
theorem CellsAt.five {w : World} {g o : Nat} {c0 c1 c2 c3 c4 : Value} (h : CellsAt w g o [c0, c1, c2, c3, c4]) :
    w.cell? ⟨g, o, none⟩ = some c0 ∧ w.cell? ⟨g, o + 1, none⟩ = some c1 ∧ w.cell? ⟨g, o + 2, none⟩ = some c2 ∧ w.cell? ⟨g, o + 3, none⟩ = some c3 ∧ w.cell? ⟨g, o + 4, none⟩ = some c4 :=
  ⟨h 0 _ rfl, h 1 _ rfl, h 2 _ rfl, h 3 _ rfl, h 4 _ rfl⟩
/-- What a list's items are, one by one, as the walk wants them. -/
theorem IsItems.get {w : World} {F : Nat → Prop} {iv : Value} {is : List J} (h : IsItems w F iv is) (i : Nat) (hi : i < is.length) :
    ∃ g o cap, iv = .slice (some ⟨g, o, none⟩) is.length cap ∧ ∃ k n t ks its kv jv, (is[i]'hi) = .mk k n t ks its ∧ IsTexts w F kv ks ∧ IsItems w F jv its ∧
      w.cell? ⟨g, o + i * 5, none⟩ = some (.int .i64 k) ∧ w.cell? ⟨g, o + i * 5 + 1, none⟩ = some (.int .i64 n) ∧ w.cell? ⟨g, o + i * 5 + 2, none⟩ = some (.string (S t)) ∧ w.cell? ⟨g, o + i * 5 + 3, none⟩ = some kv ∧ w.cell? ⟨g, o + i * 5 + 4, none⟩ = some jv := by
  rcases h with ⟨_, h⟩ | ⟨g, o, cap, h1, h2, h3⟩
  · rw [h] at hi; simp at hi
  · obtain ⟨c0, c1, c2, c3, c4, h4, h5⟩ := AreJ.get is o i hi h3
    obtain ⟨k, n, t, ks, its, kv, jv, e1, e2, e3, e4⟩ := h5.parts
    simp only [Value.agg.injEq, Array.mk.injEq, List.cons.injEq, and_true] at e2
    obtain ⟨rfl, rfl, rfl, rfl, rfl⟩ := e2
    exact ⟨g, o, cap, h1, k, n, t, ks, its, c3, c4, e1, e3, e4, h4.five⟩
theorem IsItems.form {w : World} {F : Nat → Prop} {iv : Value} {is : List J} (h : IsItems w F iv is) : ∃ a c, iv = .slice a is.length c := by
  rcases h with ⟨h1, h2⟩ | ⟨g, o, cap, h1, _⟩
  · exact ⟨none, 0, by rw [h1, h2]; rfl⟩
  · exact ⟨_, _, h1⟩
theorem IsTexts.form {w : World} {F : Nat → Prop} {kv : Value} {ks : List (List UInt8)} (h : IsTexts w F kv ks) : ∃ a c, kv = .slice a ks.length c := by
  rcases h with ⟨h1, h2⟩ | ⟨g, o, cap, h1, _⟩
  · exact ⟨none, 0, by rw [h1, h2]; rfl⟩
  · exact ⟨_, _, h1⟩

/-- Lists of values, as slices in a row. -/
def Stk (w : World) (F : Nat → Prop) : List (List J) → List Value → Prop
  | [], xs => xs = []
  | l :: ls, xs => ∃ v vs, xs = v :: vs ∧ IsItems w F v l ∧ Stk w F ls vs
theorem Stk.snoc {w : World} {F : Nat → Prop} {l : List J} {v : Value} (h : IsItems w F v l) : ∀ (ls : List (List J)) (xs : List Value), Stk w F ls xs → Stk w F (ls ++ [l]) (xs ++ [v])
  | [], _, e => by
    have e : _ = [] := e
    subst e
    exact ⟨v, [], rfl, h, rfl⟩
  | k :: ls, _, ⟨u, us, e, h1, h2⟩ => by
    subst e
    exact ⟨u, us ++ [v], rfl, h1, Stk.snoc h ls us h2⟩
theorem Stk.len {w : World} {F : Nat → Prop} : ∀ (ls : List (List J)) (xs : List Value), Stk w F ls xs → xs.length = ls.length
  | [], _, e => by have e : _ = [] := e; rw [e]; rfl
  | k :: ls, _, ⟨u, us, e, h1, h2⟩ => by subst e; simp [Stk.len ls us h2]
theorem Stk.unsnoc {w : World} {F : Nat → Prop} {l : List J} : ∀ (ls : List (List J)) (xs : List Value), Stk w F (ls ++ [l]) xs → ∃ ys v, xs = ys ++ [v] ∧ Stk w F ls ys ∧ IsItems w F v l
  | [], _, ⟨u, us, e, h1, h2⟩ => by
    have h2 : us = [] := h2
    subst h2
    exact ⟨[], u, e, rfl, h1⟩
  | k :: ls, _, ⟨u, us, e, h1, h2⟩ => by
    obtain ⟨ys, v, e2, h3, h4⟩ := Stk.unsnoc ls us h2
    exact ⟨u :: ys, v, by rw [e, e2]; rfl, ⟨u, ys, rfl, h1, h3⟩, h4⟩
theorem Stk.get {w : World} {F : Nat → Prop} : ∀ (ls : List (List J)) (xs : List Value) (i : Nat) (hi : i < ls.length), Stk w F ls xs → ∃ v, xs[i]? = some v ∧ IsItems w F v (ls[i]'hi)
  | [], _, _, hi, _ => by simp at hi
  | k :: ls, _, 0, hi, ⟨u, us, e, h1, h2⟩ => by subst e; exact ⟨u, rfl, h1⟩
  | k :: ls, _, i + 1, hi, ⟨u, us, e, h1, h2⟩ => by
    subst e
    obtain ⟨v, e2, h3⟩ := Stk.get ls us i (by simpa using hi) h2
    exact ⟨v, by simpa using e2, h3⟩

/-- One element less. -/
theorem own_pop {w : World} {B e g n cap : Nat} {xs : List Value} {x : Value} (h : w.ownsRow B e 1 (.slice (some ⟨g, 0, none⟩) (n + 1) cap) (n + 1) (xs ++ [x])) :
    w.ownsRow B e 1 (.slice (some ⟨g, 0, none⟩) n cap) n xs ∧ w.cell? ⟨g, n, none⟩ = some x ∧ n + 1 ≤ cap := by
  obtain ⟨hl, h1⟩ := h
  have hx : xs.length = n := by simpa using hl
  have hc := World.ownsRow.cellAt ⟨hl, h1⟩ n (by omega)
  rw [List.getElem?_append_right (by omega), hx, Nat.sub_self] at hc
  rcases h1 with ⟨h1, _⟩ | ⟨g', cap', cur, h1, h2, h3, h4, h5, h6, h7⟩
  · simp at h1
  · simp only [Value.slice.injEq, Option.some.injEq, Addr.mk.injEq, and_true, true_and] at h1
    obtain ⟨rfl, rfl⟩ := h1
    refine ⟨⟨by omega, .inr ⟨g, cap, cur, rfl, h2, h3, by omega, h5, h6, ?_⟩⟩, by simpa using hc, h4⟩
    have : cur.toList.take (n * 1) = (cur.toList.take ((n + 1) * 1)).take (n * 1) := by rw [List.take_take]; congr 1; omega
    rw [this, h7, List.take_append_of_le_length (by omega), List.take_of_length_le (by omega)]
theorem own_form {w : World} {B e size n : Nat} {v : Value} {xs : List Value} (h : w.ownsRow B e size v n xs) (hn : 0 < n) : ∃ g cap, v = .slice (some ⟨g, 0, none⟩) n cap ∧ B ≤ g := by
  rcases h.2 with ⟨_, h1⟩ | ⟨g, cap, cur, h1, h2, _⟩
  · omega
  · exact ⟨g, cap, h1, h2⟩
theorem own_slice {w : World} {B e size n : Nat} {v : Value} {xs : List Value} (h : w.ownsRow B e size v n xs) : ∃ a cap, v = .slice a n cap := by
  rcases h.2 with ⟨h1, h2⟩ | ⟨g, cap, cur, h1, _⟩
  · exact ⟨none, 0, by rw [h1, h2]⟩
  · exact ⟨_, _, h1⟩
end Go.Proofs.YtljkeladdplhlaaDoor
namespace Go.Proofs.YtljkeladdplhlaaDoor
open Go.RowKit

theorem info22 : (Tryd.prog.info? 22).map (fun i => (i.zero, i.size, i.bytes)) = some (some (.slice none 0 0), 1, 24) := by kernel_rfl

def CntRet (tot : Nat) (most : Int) (w : World) (e : Ending) (w' : World) : Prop :=
  ∃ r : Nat, e = .returned (.int .i64 (r : Int)) ∧ ((tot : Int) ≤ most → r = tot) ∧ (most < (tot : Int) → most < (r : Int)) ∧ r ≤ tot ∧ Keeps w w'
theorem muS_len : ∀ ls : List (List J), ls.length ≤ muS ls
  | [] => Nat.le_refl _
  | l :: t => by have := muS_len t; simp only [muS, List.length_cons]; omega
/-- A round of the outer loop. -/
def CntAt (w : World) (F : Nat → Prop) (tot n : Nat) (ls : List (List J)) (xs : List Value) (v6 : Value) (wr : World) : Prop :=
  Keeps w wr ∧ wr.ownsRow w.heap.size 22 1 v6 ls.length xs ∧ Stk w F ls xs ∧ n + sumS ls = tot
/-- A round of the inner loop. -/
def CntIn (w : World) (F : Nat → Prop) (tot n : Nat) (l : List J) (k : Nat) (ls : List (List J)) (xs : List Value) (v6 : Value) (wr : World) : Prop :=
  Keeps w wr ∧ wr.ownsRow w.heap.size 22 1 v6 ls.length xs ∧ Stk w F ls xs ∧ n + sumS ls + nodesL (l.drop k) = tot + (l.length - k)

set_option maxHeartbeats 8000000 in
set_option maxRecDepth 100000 in
theorem count_any (j : J) (v : Value) (F : Nat → Prop) (most : Int) (w : World) (hj : IsJ w F j v) (hF : ∀ i, F i → i < w.heap.size) (hb : nodesJ j ≤ 1000000) (h0 : 0 ≤ most) (h1 : most ≤ 9223372036854775807) :
    Calls Tryd.prog 27 #[v, .int .i64 most] w (CntRet (nodesJ j) most w) := by
  obtain ⟨i0, hi0, hz0, hz1, hz2⟩ := info_parts info22
  obtain ⟨jk, jn, jt, jks, jis, kv, iv, rfl, rfl, hkv, hiv⟩ := hj.parts
  obtain ⟨ka, kc, rfl⟩ := hkv.form
  obtain ⟨ia, ic, rfl⟩ := hiv.form
  have htot : nodesJ (.mk jk jn jt jks jis) = 1 + nodesL jis := nodesJ_eq _
  have hll := nodesL_len jis
  generalize nodesJ (.mk jk jn jt jks jis) = tot at *
  have HIV := Lib.hid hiv
  have HF := Lib.hid hF
  have HT := Lib.hid htot
  clear hj hkv hiv hF htot
  generalize hN : jis.length = N at *
  go_enter Tryd.func27, Tryd.ntmps27
  go_wp2
  have A0 : Hid (CntAt w F tot 1 [jis] [.slice ia N ic] (.slice (some ⟨w.heap.size + 1, 0, none⟩) 1 1) ((w.alloc (.cells #[.int .i64 jk, .int .i64 jn, .string (S jt), .slice ka jks.length kc, .slice ia N ic] 25)).alloc (.cells #[.slice ia N ic] 22))) := Lib.hid (by
    refine ⟨((Keeps.refl w).alloc _).alloc _, ⟨rfl, .inr ⟨w.heap.size + 1, 1, #[.slice ia N ic], rfl, by omega, al_at _ (by simp), Nat.le_refl 1, by unfold maxLen; omega, rfl, rfl⟩⟩, ⟨_, [], rfl, HIV.out, rfl⟩, ?_⟩
    simp only [sumS]; exact HT.out.symm)
  have M0 : muS [jis] < tot + 1 := by have := HT.out; simp only [muS]; omega
  go_loopg [5, 6] (tot + 1) (fun g n5 v6 wr => ∃ (n : Nat) (ls : List (List J)) (xs : List Value), n5 = .int .i64 (n : Int) ∧ muS ls < g ∧ g ≤ tot + 1 ∧ n ≤ tot ∧ Hid (CntAt w F tot n ls xs v6 wr))
  case atStart => exact ⟨1, [jis], _, rfl, M0, Nat.le_refl _, by have := HT.out; omega, A0⟩
  case round =>
    obtain ⟨n, ls, xs, rfl, hmu, hgt, hnt, hA⟩ := hrel
    clear A0 M0
    rcases List.eq_nil_or_concat ls with rfl | ⟨ls1, l, rfl⟩
    · obtain ⟨hk, hown, _, hs⟩ := hA.out
      obtain ⟨ra, rc, rfl⟩ := own_slice hown
      have hs : n = tot := by simpa [sumS] using hs
      have K := Lib.hid hk
      have HS := Lib.hid hs
      clear hA hk hown hs
      simp only [List.length_nil]
      go_wp2
      go_ret
      exact ⟨n, rfl, fun _ => HS.out, fun h => by rw [HS.out]; exact h, hnt, K.out⟩
    · rw [List.concat_eq_append] at hA hmu
      obtain ⟨hk, hown, hst, hs⟩ := hA.out
      obtain ⟨ys, x, rfl, hst1, hx⟩ := hst.unsnoc
      rw [List.length_append, List.length_singleton] at hown
      obtain ⟨gb, cap, rfl, hgb⟩ := own_form hown (by omega)
      obtain ⟨hown1, hcell, hcap⟩ := own_pop hown
      rw [muS_snoc] at hmu
      rw [sumS_snoc] at hs
      obtain ⟨xa, xc, rfl⟩ := hx.form
      have hll1 := nodesL_len l
      have hlen : ls1.length ≤ muS ls1 := muS_len ls1
      have K := Lib.hid hk
      have OWN := Lib.hid hown1
      have ST := Lib.hid hst1
      have HX := Lib.hid hx
      have HS := Lib.hid hs
      generalize hM : ls1.length = M at *
      have HM := Lib.hid hM
      clear hk hown hst hst1 hx hown1 hs hA hM
      cases gk with
      | zero => omega
      | succ g0 =>
      obtain ⟨wo, rfl⟩ : ∃ wo : World, wo = wr := ⟨_, rfl⟩
      by_cases hle : (n : Int) ≤ most
      · have hsub : ((M + 1 : Nat) : Int) - 1 = (M : Int) := by omega
        have q1 : (0 : Int) ≤ (M : Int) := by omega
        have q2 : (M : Int) < ((M + 1 : Nat) : Int) := by omega
        have q3 : (M : Int) ≤ (cap : Int) := by omega
        have hN2 : n + l.length ≤ tot := by have := HS.out; omega
        have hM6 : M ≤ 1000000 := by omega
        have fl : decide ((n : Int) ≤ most) = true := by simpa using hle
        clear hle
        go_wp2
        have I0 : Hid (CntIn w F tot (n + l.length) l 0 ls1 ys (.slice (some ⟨gb, 0, none⟩) M cap) wo) := Lib.hid ⟨K.out, by rw [HM.out]; exact OWN.out, ST.out, by have := HS.out; simp only [List.drop_zero]; omega⟩
        have hmu2 : muS ls1 + nodesL (l.drop 0) < g0 := by simp only [List.drop_zero]; omega
        have HNN := Lib.hid (show n + l.length + nodesL l - l.length ≤ tot by have := HS.out; omega)
        have hgk : g0 ≤ tot := by omega
        go_loopg [6, 38] (l.length + 1) (fun g2 v6 i wx => ∃ (k : Nat) (ls2 : List (List J)) (xs2 : List Value), i = .int .i64 (k : Int) ∧ k ≤ l.length ∧ l.length - k < g2 ∧ muS ls2 + nodesL (l.drop k) < g0 ∧ Hid (CntIn w F tot (n + l.length) l k ls2 xs2 v6 wx))
        case atStart => exact ⟨0, ls1, ys, rfl, Nat.zero_le _, by omega, hmu2, I0⟩
        case round =>
          obtain ⟨k, ls2, xs2, rfl, hkl, hg2, hmu3, hI⟩ := hrel
          clear I0 hmu2
          by_cases hlt : k < l.length
          · obtain ⟨hk2, hown2, hst2, hs2⟩ := hI.out
            obtain ⟨gx, ox, cx, hxe, jk2, jn2, jt2, jks2, its, kv2, jv2, hitem, hkt2, hit2, x0, x1, x2, x3, x4⟩ := HX.out.get k hlt
            obtain ⟨ka2, kc2, rfl⟩ := hkt2.form
            obtain ⟨ja2, jc2, rfl⟩ := hit2.form
            obtain ⟨rfl, rfl⟩ : xa = some ⟨gx, ox, none⟩ ∧ xc = cx := by simpa using hxe
            obtain ⟨ra, rc, rfl⟩ := own_slice hown2
            have y0 := hk2.cell x0
            have y1 := hk2.cell x1
            have y2 := hk2.cell x2
            have y3 := hk2.cell x3
            have y4 := hk2.cell x4
            have hdrop : nodesL (l.drop k) = 1 + nodesL its + nodesL (l.drop (k + 1)) := by
              rw [List.drop_eq_getElem_cons hlt, nodesL, nodesJ_eq, hitem]; rfl
            have q4 : (0 : Int) ≤ (k : Int) := by omega
            have q5 : (k : Int) < (l.length : Int) := by omega
            have hlen2 := muS_len ls2
            have hls2 : ls2.length ≤ 1000000 := by omega
            have K2 := Lib.hid hk2
            have OWN2 := Lib.hid hown2
            have ST2 := Lib.hid hst2
            have HS2 := Lib.hid hs2
            have HIT := Lib.hid hit2
            have HDR := Lib.hid hdrop
            have hz := hk2.size
            clear hk2 hown2 hst2 hs2 hit2 hkt2 hxe hitem hI x0 x1 x2 x3 x4 hdrop
            generalize hR : ls2.length = R at *
            have HR := Lib.hid hR
            clear hR
            by_cases hi0' : its.length = 0
            · have fz : decide (0 < its.length) = false := decide_eq_false (by omega)
              have hits : its = [] := List.eq_nil_of_length_eq_zero hi0'
              have HITS := Lib.hid hits
              clear hits hi0'
              go_wp2
              cases gk with
              | zero => omega
              | succ g2 =>
                go_roundg g2
                case measure => omega
                case rel =>
                  have e1 := HDR.out
                  rw [HITS.out] at e1
                  simp only [nodesL] at e1
                  exact ⟨k + 1, ls2, xs2, by go_num, by omega, by omega, by omega, Lib.hid ⟨(K2.out.alloc _), by rw [HR.out]; exact OWN2.out.alloc _, ST2.out, by have := HS2.out; omega⟩⟩
            · have fz : decide (0 < its.length) = true := decide_eq_true (by omega)
              go_wp2_with (at_builtin; refine wpList_append_lies _ rfl _ _ _ rfl w.heap.size 22 i0 _ 1 24 Tryd.underlying64 hi0 hz0 hz1 hz2 rfl (by omega) (.slice ra R rc) R xs2 rfl ((OWN2.out.alloc _).alloc _) ⟨wr.heap.size + 1, 0, none⟩ 1 1 [.slice ja2 its.length jc2] rfl rfl (World.news_of_block (cs := #[.slice ja2 its.length jc2]) (t := 22) (fr := (0, 0)) (al_at _ (by simp))) (by simp [Value.oneCell']) (by omega) (by unfold maxLen; omega) (by omega) (by simp; omega) _ rfl ?_; intro gg cg w4 hown4 hgrow hat hlt4)
              cases gk with
              | zero => omega
              | succ g2 =>
                go_roundg g2
                case measure => omega
                case rel =>
                  have e1 := HDR.out
                  have hk4 : Keeps w w4 := ((K2.out.alloc _).alloc _).grown hgrow (((K2.out.alloc _).alloc _).size) (fun j hj => by
                    rcases Nat.lt_or_ge j w.heap.size with hl | hl
                    · exact absurd hj (own_base OWN2.out hl)
                    · exact hl)
                  exact ⟨k + 1, ls2 ++ [its], _, by go_num, by omega, by omega, by rw [muS_snoc]; omega, Lib.hid ⟨hk4, by rw [List.length_append, List.length_singleton, HR.out]; exact hown4, Stk.snoc HIT.out _ _ ST2.out, by rw [sumS_snoc]; have := HS2.out; omega⟩⟩
          · have hkk : k = l.length := by omega
            have hdr0 : l.drop k = [] := List.drop_eq_nil_of_le (by omega)
            obtain ⟨hk2, hown2, hst2, hs2⟩ := hI.out
            rw [hdr0] at hs2 hmu3
            simp only [nodesL] at hs2 hmu3
            have A1 := Lib.hid (show CntAt w F tot (n + l.length) ls2 xs2 _ _ from ⟨hk2, hown2, hst2, by omega⟩)
            clear hdr0 hk2 hown2 hst2 hs2 hI
            go_wp2
            go_roundg g0
            case measure => omega
            case rel => exact ⟨n + l.length, ls2, xs2, by go_num, by omega, by omega, by omega, A1⟩
      · have hnt2 : most < (n : Int) := by omega
        have hN2 : n + sumS ls1 + nodesL l = tot := by have := HS.out; omega
        have HN2 := Lib.hid hN2
        clear hN2
        have fl : decide ((n : Int) ≤ most) = false := by simpa using hle
        clear hle
        go_wp2
        go_ret
        exact ⟨n, rfl, fun h => absurd h (by omega), fun _ => hnt2, hnt, K.out⟩
end Go.Proofs.YtljkeladdplhlaaDoor
