/-
  A piece of an object that is read whole, of package json.
-/
import Derived.Test.YtljkeladdplhlaaDoorObp
namespace Go.Proofs.YtljkeladdplhlaaDoor
open Go.RowKit

theorem cell_al {w : World} {p : Addr} {v : Value} (h : w.cell? p = some v) (o : Obj) : (w.alloc o).cell? p = some v := (World.cell?_alloc_lt _ _ _ (World.block_lt_of_cell? w p h)).trans h
theorem own_only {w w' : World} {X : List Nat} {B e size n : Nat} {ov : Value} {xs : List Value} (h : w.ownsRow B e size ov n xs) (k : Only X w w') (hx : ∀ i, B ≤ i → i ∉ X) : w'.ownsRow B e size ov n xs :=
  own_block h (fun i hi => k.block i (own_lt h hi) (hx i (by
    rcases Nat.lt_or_ge i B with hl | hl
    · exact absurd hi (own_base h hl)
    · exact hl)))

set_option maxHeartbeats 16000000 in
set_option maxRecDepth 100000 in
theorem obj_go (r : Nat) (s : ByteArray) (a : Nat) (rbx sb ib vb mm cb db B n : Nat) (keys : List (List UInt8)) (key : List UInt8) (q m : Nat) (x : Int) (ka ia : Option Addr) (kc ic : Nat) (ks xs : List Value) (G : World → List Value → Prop) (w : World)
    (h : Rd w r s a) (hu : Utf w) (he : ObjEnv w r rbx sb ib vb mm) (hib : w.cell? ⟨ib, 0, none⟩ = some (.func (.func 50) #[] #[.pointer (some ⟨cb, 0, none⟩), .pointer (some ⟨db, 0, none⟩)]))
    (hne : rbx ≠ r ∧ sb ≠ r ∧ mm ≠ r ∧ rbx ≠ mm ∧ ib ≠ r ∧ ib ≠ mm ∧ vb ≠ r ∧ vb ≠ mm) (hlt : r < B ∧ mm < B) (hm : Seen w mm n keys) (hn : n ≤ 1000000) (ha : a ≤ s.size) (hs : s.size ≤ 100000)
    (hk : unqL (s.data.toList.drop a) = (key, q, 0)) (hin : ¬ key ∈ keys) (hc : colonL (s.data.toList.drop (a + q)) = (m, 0))
    (hv : w.heap[vb]? = some (.cells #[.int .i64 6, .int .i64 0, .string ⟨#[]⟩, .slice ka n kc, .slice ia n ic] 25 (0, 0)))
    (hK : w.ownsRow B 9 1 (.slice ka n kc) n ks) (hI : w.ownsRow B 25 5 (.slice ia n ic) n xs) (hKI : ∀ g, (Value.slice ka n kc).ownBlock = some g → (Value.slice ia n ic).ownBlock ≠ some g) (hvB : vb < B) (hB : B ≤ w.heap.size)
    (cI : Hid (∀ w1, Only [r, mm] w w1 → Rd w1 r s (a + q + m) → Calls Tryd.prog 50 #[.pointer (some ⟨cb, 0, none⟩), .pointer (some ⟨db, 0, none⟩)] w1 (fun e w2 => Only [r] w1 w2 ∧ ∃ jk jn jt ka kl kc ia il ic, e = .returned (.tuple #[.agg #[.int .i64 jk, .int .i64 jn, .string jt, .slice ka kl kc, .slice ia il ic], .int .i64 x]) ∧ G w2 [.int .i64 jk, .int .i64 jn, .string jt, .slice ka kl kc, .slice ia il ic]))) :
    Calls Tryd.prog 82 #[.pointer (some ⟨rbx, 0, none⟩), .pointer (some ⟨sb, 0, none⟩), .pointer (some ⟨ib, 0, none⟩), .pointer (some ⟨vb, 0, none⟩)] w (fun e X => e = .returned (.int .i64 x) ∧
      ∃ w2 vs, Only [r, mm] w w2 ∧ Seen w2 mm (n + 1) (keys ++ [key]) ∧ G w2 vs ∧ PieceO B vb (n + 1) (.slice ka n kc) (.slice ia n ic) (ks ++ [.string (S key)]) (xs ++ vs) w2 X) := by
  obtain ⟨i9, hi9, hy0, hy1, hy2⟩ := info_parts info9
  obtain ⟨i0, hi0, hz0, hz1, hz2⟩ := info_parts info25
  have hb := unqL_le (s.data.toList.drop a)
  have hw := unqL_w (s.data.toList.drop a)
  have cK := key_any r s a w h hu ha hs
  have hcl := colonL_le (s.data.toList.drop (a + q))
  rw [hk] at hb hw cK
  rw [hc] at hcl
  rw [List.length_drop, ByteArray_len] at hb hcl
  simp only at hb hw hcl cK
  have cK := Lib.hid (cK (by omega))
  have cC := Lib.hid (fun w1 h1 h2 => colon_any r s (a + q) w1 h1 h2 hs)
  have hxl : xs.length = n * 5 := hI.1
  have hkl2 : ks.length = n * 1 := hK.1
  have c0 := he.rd
  have HE := Lib.hid he
  have HM := Lib.hid hm
  have HIB := Lib.hid hib
  have HV := Lib.hid hv
  have HK := Lib.hid hK
  have HI := Lib.hid hI
  have HKI := Lib.hid hKI
  have hkl : key.length ≤ maxLen := by unfold maxLen; omega
  have HIN := Lib.hid hin
  have HKL := Lib.hid hkl
  rw [hc] at cC
  clear h hu he hw hm hin hkl hc hk hib hv hK hI hKI
  go_enter Tryd.func82, Tryd.ntmps82
  go_wp2_with fail
  refine cK.out.mono ?_
  rintro e w2 ⟨rfl, hr, ho⟩
  have HO := Lib.hid ho
  have HR := Lib.hid hr
  have c1 := (HE.out.only ho (by simp; omega)).sn
  have c2 := (HE.out.only ho (by simp; omega)).rd
  have hlook := (HM.out.only ho (by simp; omega)).look key HKL.out
  rw [decide_eq_false HIN.out] at hlook
  obtain ⟨w3, hput, hs3, ho3, hml⟩ := (HM.out.only ho (by simp; omega)).put key HKL.out (by unfold maxLen; omega)
  have c3 := ho3.cell c2 (by simp; omega)
  have R3 := Lib.hid (hr.only ho3 (by simp; omega))
  have O3 := Lib.hid ((ho.mono (Y := [r, mm]) (by simp)).trans (ho3.mono (by simp)))
  have S3 := Lib.hid hs3
  clear hr ho c0 hs3 ho3 HR HO c2
  go_wp2_with fail
  refine (cC.out _ R3.out (by omega)).mono ?_
  rintro e w4 ⟨rfl, hr4, ho4⟩
  have O4 := Lib.hid (O3.out.trans (ho4.mono (by simp)))
  have R4 := Lib.hid (hr4 (by trivial))
  have S4 := Lib.hid (S3.out.only ho4 (by simp; omega))
  have c4 := O4.out.cell HIB.out (by simp; omega)
  clear hr4 ho4 O3 R3 c3 c1 hlook hput S3
  go_wp2_with fail
  refine (cI.out _ O4.out R4.out).mono ?_
  rintro e w6 ⟨ho6, jk, jn, jt, la, ll, lc, ma, ml, mc, rfl, hG⟩
  have HG := Lib.hid hG
  have O6 := Lib.hid (O4.out.trans (ho6.mono (by simp)))
  have S6 := Lib.hid (S4.out.only ho6 (by simp; omega))
  have hz6 := O6.out.size
  have hv6 : w6.heap[vb]? = some (.cells #[.int .i64 6, .int .i64 0, .string ⟨#[]⟩, .slice ka n kc, .slice ia n ic] 25 (0, 0)) := (O6.out.block vb (by omega) (by simp; omega)).trans HV.out
  have hK6 := own_only HK.out O6.out (fun i hi => by simp; omega)
  have hI6 := own_only HI.out O6.out (fun i hi => by simp; omega)
  have T6 : Two B vb (.slice ka n kc) (.slice ia n ic) w6 w6 (.slice ka n kc) (.slice ia n ic) n n ks xs :=
    ⟨hK6, hI6, hv6, rfl, rfl, rfl, Nat.le_refl _, fun _ _ _ _ => rfl, .inl rfl, .inl rfl, HKI.out, hvB, by omega⟩
  have T0 := Lib.hid (T6.alloc (.cells #[.int .i64 jk, .int .i64 jn, .string jt, .slice la ll lc, .slice ma ml mc] 25))
  have hcx := (cells5 (heap_alloc_new w6 (.cells #[.int .i64 jk, .int .i64 jn, .string jt, .slice la ll lc, .slice ma ml mc] 25))).1
  have hcv := (cells5 T0.out.v).1.2.2.2
  have hfv := (cells5 T0.out.v).2.2.2.2
  obtain ⟨x0, x1, x2, x3, x4⟩ := hcx
  obtain ⟨y3, y4⟩ := hcv
  obtain ⟨z3, z4⟩ := hfv
  have hxv : w6.heap.size ≠ vb := by omega
  have hBz : B ≤ w6.heap.size := by omega
  clear hG ho6 O4 R4 S4 c4 hv6 T6
  have hK6' := hK6
  have hI6' := hI6
  clear hK6 hI6
  have hWz : (w6.alloc (.cells #[.int .i64 jk, .int .i64 jn, .string jt, .slice la ll lc, .slice ma ml mc] 25)).heap.size = w6.heap.size + 1 := by simp
  have hk6 : Keeps w6 (w6.alloc (.cells #[.int .i64 jk, .int .i64 jn, .string jt, .slice la ll lc, .slice ma ml mc] 25)) := (Keeps.refl w6).alloc _
  have K6 := Lib.hid hk6
  clear hk6
  have NKX : Hid ((Value.slice ka n kc).ownBlock ≠ some w6.heap.size) := Lib.hid (fun e => absurd (own_lt hK6' e) (Nat.lt_irrefl _))
  have NIX : Hid ((Value.slice ia n ic).ownBlock ≠ some w6.heap.size) := Lib.hid (fun e => absurd (own_lt hI6' e) (Nat.lt_irrefl _))
  clear hK6' hI6'
  have hn1 : (n : Int) + 1 = ((n + 1 : Nat) : Int) := by omega
  have HN1 := Lib.hid hn1
  clear hn1
  go_wp2
  generalize w6.alloc (.cells #[.int .i64 jk, .int .i64 jn, .string jt, .slice la ll lc, .slice ma ml mc] 25) = W at *
  have T6 := T0
  have T0 : Hid (Two B vb (.slice ka n kc) (.slice ia n ic) W W (.slice ka n kc) (.slice ia n ic) n n ks xs) := Lib.hid ⟨T6.out.k, T6.out.i, T6.out.v, rfl, rfl, rfl, Nat.le_refl _, fun _ _ _ _ => rfl, .inl rfl, .inl rfl, T6.out.ne, hvB, Nat.le_trans hBz T6.out.size⟩
  clear T6
  obtain ⟨xb, hxb⟩ : ∃ xb, w6.heap.size = xb := ⟨_, rfl⟩
  rw [hxb] at x0 x1 x2 x3 x4 hxv ⊢
  have HXB := Lib.hid hxb
  clear hxb
  have nkv : (Value.slice ka n kc).ownBlock ≠ some vb := own_base T0.out.k hvB
  have niv : (Value.slice ia n ic).ownBlock ≠ some vb := own_base T0.out.i hvB
  have nkx : (Value.slice ka n kc).ownBlock ≠ some xb := by rw [← HXB.out]; exact NKX.out
  have nix : (Value.slice ia n ic).ownBlock ≠ some xb := by rw [← HXB.out]; exact NIX.out
  have hxW : xb < W.heap.size := by have := HXB.out; omega
  have hvW : vb < W.heap.size := by omega
  have hBW : B ≤ W.heap.size := by omega
  have hvx : vb ≠ xb := Ne.symm hxv
  have ya3 := cell_al y3 (.cells #[.string (S key)] 9)
  have ya4 := cell_al y4 (.cells #[.string (S key)] 9)
  have yb3 := cell_al y3 (.cells #[.int .i64 jk, .int .i64 jn, .string jt, .slice la ll lc, .slice ma ml mc] 25)
  have yb4 := cell_al y4 (.cells #[.int .i64 jk, .int .i64 jn, .string jt, .slice la ll lc, .slice ma ml mc] 25)
  have yc3 := cell_al ya3 (.cells #[.int .i64 jk, .int .i64 jn, .string jt, .slice la ll lc, .slice ma ml mc] 25)
  have yc4 := cell_al ya4 (.cells #[.int .i64 jk, .int .i64 jn, .string jt, .slice la ll lc, .slice ma ml mc] 25)
  have yd3 := cell_al yb3 (.cells #[.string (S key)] 9)
  have yd4 := cell_al yb4 (.cells #[.string (S key)] 9)
  have HWZ := Lib.hid hWz
  clear hWz
  have xa0 := cell_al x0 (.cells #[.string (S key)] 9)
  have xa1 := cell_al x1 (.cells #[.string (S key)] 9)
  have xa2 := cell_al x2 (.cells #[.string (S key)] 9)
  have xa3 := cell_al x3 (.cells #[.string (S key)] 9)
  have xa4 := cell_al x4 (.cells #[.string (S key)] 9)
  refine wp_region_noPanic ?_
  go_region_law (first
      | (refine step_append_lies _ (by rfl) _ _ _ (by rfl) B 9 i9 _ 1 16 Tryd.underlying23 hi9 hy0 hy1 hy2 rfl (by omega) (.slice ka n kc) n ks (by rfl) ((T0.out.alloc (.cells #[.string (S key)] 9)).k) ⟨W.heap.size, 0, none⟩ 1 1 [.string (S key)] (by rfl) (by rfl) (World.news_of_block (cs := #[.string (S key)]) (t := 9) (fr := (0, 0)) (heap_alloc_new W _)) (by simp [Value.oneCell']) (by omega) (by unfold maxLen; omega) (by omega) (by simp; omega) (W.heap.size + 1) (by simp) ?_; intro gk ck wk hownk hgrowk hatk hltk; have TK' : Two B vb (.slice ka n kc) (.slice ia n ic) W wk (.slice (some ⟨gk, 0, none⟩) (n + 1) ck) (.slice ia n ic) (n + 1) n (ks ++ [.string (S key)]) xs := ((T0.out.alloc (.cells #[.string (S key)] 9))).keys ⟨hgrowk.os, hgrowk.tape, hgrowk.output, hgrowk.size, hgrowk.block⟩ hownk (by simpa using hatk); have yk3 := (cells5 TK'.v).1.2.2.2.1; have yk4 := (cells5 TK'.v).1.2.2.2.2; have hxk := fun (o : Nat) => World.cell?_of_block (w := W) (w' := wk) (a := ⟨xb, o, none⟩) (TK'.block xb hxW nkx nix); have xk0 := (hxk 0).trans x0; have xk1 := (hxk 1).trans x1; have xk2 := (hxk 2).trans x2; have xk3 := (hxk 3).trans x3; have xk4 := (hxk 4).trans x4; have ye4 := cell_al yk4 (.cells #[.int .i64 jk, .int .i64 jn, .string jt, .slice la ll lc, .slice ma ml mc] 25); have TK := Lib.hid TK'; clear TK' hxk)
      | (refine step_append_lies _ (by rfl) _ _ _ (by rfl) B 9 i9 _ 1 16 Tryd.underlying23 hi9 hy0 hy1 hy2 rfl (by omega) (.slice ka n kc) n ks (by rfl) (((T0.out.alloc (.cells #[.string (S key)] 9)).alloc (.cells #[.int .i64 jk, .int .i64 jn, .string jt, .slice la ll lc, .slice ma ml mc] 25)).k) ⟨W.heap.size, 0, none⟩ 1 1 [.string (S key)] (by rfl) (by rfl) (World.news_of_block (cs := #[.string (S key)]) (t := 9) (fr := (0, 0)) ((Below.heap_alloc _ _ _ (by simp)).trans (heap_alloc_new W _))) (by simp [Value.oneCell']) (by omega) (by unfold maxLen; omega) (by omega) (by simp; omega) (W.heap.size + 2) (by simp) ?_; intro gk ck wk hownk hgrowk hatk hltk; have TK' : Two B vb (.slice ka n kc) (.slice ia n ic) W wk (.slice (some ⟨gk, 0, none⟩) (n + 1) ck) (.slice ia n ic) (n + 1) n (ks ++ [.string (S key)]) xs := (((T0.out.alloc (.cells #[.string (S key)] 9)).alloc (.cells #[.int .i64 jk, .int .i64 jn, .string jt, .slice la ll lc, .slice ma ml mc] 25))).keys ⟨hgrowk.os, hgrowk.tape, hgrowk.output, hgrowk.size, hgrowk.block⟩ hownk (by simpa using hatk); have yk3 := (cells5 TK'.v).1.2.2.2.1; have yk4 := (cells5 TK'.v).1.2.2.2.2; have hxk := fun (o : Nat) => World.cell?_of_block (w := W) (w' := wk) (a := ⟨xb, o, none⟩) (TK'.block xb hxW nkx nix); have xk0 := (hxk 0).trans x0; have xk1 := (hxk 1).trans x1; have xk2 := (hxk 2).trans x2; have xk3 := (hxk 3).trans x3; have xk4 := (hxk 4).trans x4; have ye4 := cell_al yk4 (.cells #[.int .i64 jk, .int .i64 jn, .string jt, .slice la ll lc, .slice ma ml mc] 25); have TK := Lib.hid TK'; clear TK' hxk)
      | (refine step_append_lies _ (by rfl) _ _ _ (by rfl) B 9 i9 _ 1 16 Tryd.underlying23 hi9 hy0 hy1 hy2 rfl (by omega) (.slice ka n kc) n ks (by rfl) (((T0.out.alloc (.cells #[.int .i64 jk, .int .i64 jn, .string jt, .slice la ll lc, .slice ma ml mc] 25)).alloc (.cells #[.string (S key)] 9)).k) ⟨W.heap.size + 1, 0, none⟩ 1 1 [.string (S key)] (by rfl) (by rfl) (World.news_of_block (cs := #[.string (S key)]) (t := 9) (fr := (0, 0)) (heap_two' W _ _)) (by simp [Value.oneCell']) (by omega) (by unfold maxLen; omega) (by omega) (by simp; omega) (W.heap.size + 2) (by simp) ?_; intro gk ck wk hownk hgrowk hatk hltk; have TK' : Two B vb (.slice ka n kc) (.slice ia n ic) W wk (.slice (some ⟨gk, 0, none⟩) (n + 1) ck) (.slice ia n ic) (n + 1) n (ks ++ [.string (S key)]) xs := (((T0.out.alloc (.cells #[.int .i64 jk, .int .i64 jn, .string jt, .slice la ll lc, .slice ma ml mc] 25)).alloc (.cells #[.string (S key)] 9))).keys ⟨hgrowk.os, hgrowk.tape, hgrowk.output, hgrowk.size, hgrowk.block⟩ hownk (by simpa using hatk); have yk3 := (cells5 TK'.v).1.2.2.2.1; have yk4 := (cells5 TK'.v).1.2.2.2.2; have hxk := fun (o : Nat) => World.cell?_of_block (w := W) (w' := wk) (a := ⟨xb, o, none⟩) (TK'.block xb hxW nkx nix); have xk0 := (hxk 0).trans x0; have xk1 := (hxk 1).trans x1; have xk2 := (hxk 2).trans x2; have xk3 := (hxk 3).trans x3; have xk4 := (hxk 4).trans x4; have ye4 := cell_al yk4 (.cells #[.int .i64 jk, .int .i64 jn, .string jt, .slice la ll lc, .slice ma ml mc] 25); have TK := Lib.hid TK'; clear TK' hxk)
      | (refine step_append_lies _ (by rfl) _ _ _ (by rfl) B 25 i0 _ 5 80 Tryd.underlying22 hi0 hz0 hz1 hz2 rfl (by omega) (.slice ia n ic) n xs (by rfl) ((TK.out.alloc (.cells #[.int .i64 jk, .int .i64 jn, .string jt, .slice la ll lc, .slice ma ml mc] 25)).i) ⟨wk.heap.size, 0, none⟩ 1 1 [.int .i64 jk, .int .i64 jn, .string jt, .slice la ll lc, .slice ma ml mc] (by rfl) (by rfl) (World.news_of_block (cs := #[.int .i64 jk, .int .i64 jn, .string jt, .slice la ll lc, .slice ma ml mc]) (t := 25) (fr := (0, 0)) (heap_alloc_new wk _)) (by simp [Value.oneCell']) (by omega) (by unfold maxLen; omega) (by omega) (by have := hgrowk.size; simp at this ⊢; omega) _ rfl ?_; intro gi ci wi howni hgrowi hati hlti; have TI' : Two B vb (.slice ka n kc) (.slice ia n ic) W wi (.slice (some ⟨gk, 0, none⟩) (n + 1) ck) (.slice (some ⟨gi, 0, none⟩) (n + 1) ci) (n + 1) (n + 1) (ks ++ [.string (S key)]) (xs ++ [.int .i64 jk, .int .i64 jn, .string jt, .slice la ll lc, .slice ma ml mc]) := ((TK.out.alloc (.cells #[.int .i64 jk, .int .i64 jn, .string jt, .slice la ll lc, .slice ma ml mc] 25))).items ⟨hgrowi.os, hgrowi.tape, hgrowi.output, hgrowi.size, hgrowi.block⟩ howni hati; have z3' := (cells5 TI'.v).2.2.2.2.1; have z4' := (cells5 TI'.v).2.2.2.2.2; have yi3 := (cells5 TI'.v).1.2.2.2.1; have yi4 := (cells5 TI'.v).1.2.2.2.2; have hxi := fun (o : Nat) => World.cell?_of_block (w := W) (w' := wi) (a := ⟨xb, o, none⟩) (TI'.block xb hxW nkx nix); have xi0 := (hxi 0).trans x0; have xi1 := (hxi 1).trans x1; have xi2 := (hxi 2).trans x2; have xi3 := (hxi 3).trans x3; have xi4 := (hxi 4).trans x4; have TI := Lib.hid TI'; clear TI' hxi)
      | (refine step_append_lies _ (by rfl) _ _ _ (by rfl) B 25 i0 _ 5 80 Tryd.underlying22 hi0 hz0 hz1 hz2 rfl (by omega) (.slice ia n ic) n xs (by rfl) (TK.out.i) ⟨W.heap.size + 1, 0, none⟩ 1 1 [.int .i64 jk, .int .i64 jn, .string jt, .slice la ll lc, .slice ma ml mc] (by rfl) (by rfl) (World.news_of_block (cs := #[.int .i64 jk, .int .i64 jn, .string jt, .slice la ll lc, .slice ma ml mc]) (t := 25) (fr := (0, 0)) ((hgrowk.block (W.heap.size + 1) (by simp) (fun e => absurd (own_lt T0.out.k e.symm) (by omega))).trans (heap_two' W _ _))) (by simp [Value.oneCell']) (by omega) (by unfold maxLen; omega) (by omega) (by have := hgrowk.size; simp at this ⊢; omega) _ rfl ?_; intro gi ci wi howni hgrowi hati hlti; have TI' : Two B vb (.slice ka n kc) (.slice ia n ic) W wi (.slice (some ⟨gk, 0, none⟩) (n + 1) ck) (.slice (some ⟨gi, 0, none⟩) (n + 1) ci) (n + 1) (n + 1) (ks ++ [.string (S key)]) (xs ++ [.int .i64 jk, .int .i64 jn, .string jt, .slice la ll lc, .slice ma ml mc]) := (TK.out).items ⟨hgrowi.os, hgrowi.tape, hgrowi.output, hgrowi.size, hgrowi.block⟩ howni hati; have z3' := (cells5 TI'.v).2.2.2.2.1; have z4' := (cells5 TI'.v).2.2.2.2.2; have yi3 := (cells5 TI'.v).1.2.2.2.1; have yi4 := (cells5 TI'.v).1.2.2.2.2; have hxi := fun (o : Nat) => World.cell?_of_block (w := W) (w' := wi) (a := ⟨xb, o, none⟩) (TI'.block xb hxW nkx nix); have xi0 := (hxi 0).trans x0; have xi1 := (hxi 1).trans x1; have xi2 := (hxi 2).trans x2; have xi3 := (hxi 3).trans x3; have xi4 := (hxi 4).trans x4; have TI := Lib.hid TI'; clear TI' hxi)
      | (refine step_append_lies _ (by rfl) _ _ _ (by rfl) B 25 i0 _ 5 80 Tryd.underlying22 hi0 hz0 hz1 hz2 rfl (by omega) (.slice ia n ic) n xs (by rfl) (TK.out.i) ⟨W.heap.size, 0, none⟩ 1 1 [.int .i64 jk, .int .i64 jn, .string jt, .slice la ll lc, .slice ma ml mc] (by rfl) (by rfl) (World.news_of_block (cs := #[.int .i64 jk, .int .i64 jn, .string jt, .slice la ll lc, .slice ma ml mc]) (t := 25) (fr := (0, 0)) ((hgrowk.block W.heap.size (by simp; omega) (fun e => absurd (own_lt T0.out.k e.symm) (by omega))).trans ((Below.heap_alloc _ _ _ (by simp)).trans (heap_alloc_new W _)))) (by simp [Value.oneCell']) (by omega) (by unfold maxLen; omega) (by omega) (by have := hgrowk.size; simp at this ⊢; omega) _ rfl ?_; intro gi ci wi howni hgrowi hati hlti; have TI' : Two B vb (.slice ka n kc) (.slice ia n ic) W wi (.slice (some ⟨gk, 0, none⟩) (n + 1) ck) (.slice (some ⟨gi, 0, none⟩) (n + 1) ci) (n + 1) (n + 1) (ks ++ [.string (S key)]) (xs ++ [.int .i64 jk, .int .i64 jn, .string jt, .slice la ll lc, .slice ma ml mc]) := (TK.out).items ⟨hgrowi.os, hgrowi.tape, hgrowi.output, hgrowi.size, hgrowi.block⟩ howni hati; have z3' := (cells5 TI'.v).2.2.2.2.1; have z4' := (cells5 TI'.v).2.2.2.2.2; have yi3 := (cells5 TI'.v).1.2.2.2.1; have yi4 := (cells5 TI'.v).1.2.2.2.2; have hxi := fun (o : Nat) => World.cell?_of_block (w := W) (w' := wi) (a := ⟨xb, o, none⟩) (TI'.block xb hxW nkx nix); have xi0 := (hxi 0).trans x0; have xi1 := (hxi 1).trans x1; have xi2 := (hxi 2).trans x2; have xi3 := (hxi 3).trans x3; have xi4 := (hxi 4).trans x4; have TI := Lib.hid TI'; clear TI' hxi))
  all_goals (refine NoPanic.normal ?_)
  all_goals (clear xa0 xa1 xa2 xa3 xa4 x0 x1 x2 x3 x4 y3 y4 z3 z4 ya3 ya4 yb3 yb4 yc3 yc4 yd3 yd4)
  all_goals go_wp2
  all_goals go_ret
  all_goals (refine ⟨rfl, w6, _, O6.out, S6.out, HG.out, ?_⟩)
  all_goals (exact (TI.out.done.base K6.out).same rfl rfl rfl rfl)
end Go.Proofs.YtljkeladdplhlaaDoor
