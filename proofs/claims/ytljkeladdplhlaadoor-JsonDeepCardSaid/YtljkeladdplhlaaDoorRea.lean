/-
  Reading a value, of package json: any depth; the reader's value; Read.
-/
import Derived.Test.YtljkeladdplhlaaDoorObs
import Derived.Laws.EntriesVeiled
namespace Go.Proofs.YtljkeladdplhlaaDoor
open Go.RowKit

theorem cond_all (r : Nat) (s : ByteArray) (rb kb cb mb : Nat) (hs : s.size ≤ 100000) : ∀ d, d ≤ 8 → Cond r s rb kb cb mb d := by
  intro d
  induction d with
  | zero => intro _ w a h hv ha; exact contents_zero r s a rb kb cb mb w h hv.env hv.utf ha hs
  | succ d ih =>
    intro hd w a h hv ha
    have hC := ih (by omega)
    have hd' : d ≤ 8 := by omega
    rw [show (((d + 1 : Nat)) : Int) = (d : Int) + 1 by omega]
    by_cases hlt : a < s.size
    · have hll : (s.data.toList.drop a).length ≤ s.size := by simp
      have hb1 := unqL_le (s.data.toList.drop a)
      have hb2 := readL_le (s.data.toList.drop a)
      have hrl := h.lt
      show Calls _ _ _ _ (RetJ r s a w (headJ (listJ (valueJ d)) (objJ (valueJ d)) (s.data.toList.drop a)))
      have hdr := drop_at s a hlt
      rcases kindN_of (s[a]'hlt) (listJ (valueJ d)) (objJ (valueJ d)) (s.data.toList.drop (a + 1)) with ⟨hk, e⟩ | ⟨hk, e⟩ | ⟨hk, e⟩ | ⟨hk, e⟩ | ⟨hk, e⟩ | ⟨hk, e⟩
      · rw [← hdr] at e; rw [e]; exact con_65_s r s a rb kb cb mb d hd' _ w h hv.env hlt hs hk (Lib.hid fun w1 k _ => literal_any r s a _ w1 (h.keeps k) (hv.utf.keeps k) ha hs (by omega))
      · rw [← hdr] at e; rw [e]; exact con_66_s r s a rb kb cb mb d hd' _ w h hv.env hlt hs hk (Lib.hid fun w1 k _ => numberJ_any r s a _ w1 (h.keeps k) ha hs (by omega))
      · rw [← hdr] at e; rw [e]; exact con_67_s r s a rb kb cb mb d hd' _ w h hv.env hlt hs hk (Lib.hid fun w1 k _ => wordJ_any r s a _ w1 (h.keeps k) ha hs)
      · rw [← hdr] at e; rw [e]; exact con_68_s r s a rb kb cb mb d hd' _ w h hv.env hlt hs hk (Lib.hid fun w1 k hdb => list_any r s a rb kb cb mb w.heap.size d hC hd' w1 (h.keeps k) (hv.keeps k) hdb (by omega) hlt hs)
      · rw [← hdr] at e; rw [e]; exact con_69_s r s a rb kb cb mb d hd' _ w h hv.env hlt hs hk (Lib.hid fun w1 k hdb => object_any r s a rb kb cb mb w.heap.size d hC hd' w1 (h.keeps k) (hv.keeps k) hdb (by omega) hlt hs)
      · rw [← hdr] at e; rw [e]; exact con_bad r s a rb kb cb mb ((d : Int) + 1) w h hv.env hlt hs hk
    · rw [List.drop_eq_nil_of_le (by simp; omega)]
      exact con_end r s a rb kb cb mb ((d : Int) + 1) w h hv.env (by omega)

set_option maxHeartbeats 4000000 in
set_option maxRecDepth 100000 in
theorem value_any (r : Nat) (s : ByteArray) (a d : Nat) (w : World) (h : Rd w r s a) (hu : Utf w) (h0 : r ≠ 0) (h1 : r ≠ 1) (hd : d ≤ 8) (ha : a ≤ s.size) (hs : s.size ≤ 100000) :
    Calls Tryd.prog 30 #[.pointer (some ⟨r, 0, none⟩), .int .i64 (d : Int)] w (RetJ r s a w (valueJ d (s.data.toList.drop a))) := by
  have cC := Lib.hid (fun rb kb cb mb => cond_all r s rb kb cb mb hs d hd)
  have cK := Lib.hid (fun w1 => kinds_any w1)
  have hrl := h.lt
  have HH := Lib.hid h
  have HU := Lib.hid hu
  clear h hu
  go_enter Tryd.func30, Tryd.ntmps30
  go_wp2_with fail
  refine (cK.out _).mono ?_
  rintro e w2 ⟨rfl, hk, kk⟩
  have hzA : ((w.alloc (.cells #[.pointer (some ⟨r, 0, none⟩)] 47)).alloc (.cells #[.int .i64 0, .int .i64 0, .string ⟨#[]⟩, .slice none 0 0, .slice none 0 0] 25)).heap.size = w.heap.size + 1 + 1 := by simp
  rw [hzA] at hk
  have hz2 : w.heap.size + 1 + 1 ≤ w2.heap.size := by have := kk.size; rw [hzA] at this; exact this
  have hbr : w2.heap[w.heap.size]? = some (.cells #[.pointer (some ⟨r, 0, none⟩)] 47 (0, 0)) := (kk.block _ (by omega)).trans ((al_lt _ (by simp)).trans (al_at _ rfl))
  have hbz : w2.heap[w.heap.size + 1]? = some (.cells #[.int .i64 0, .int .i64 0, .string ⟨#[]⟩, .slice none 0 0, .slice none 0 0] 25 (0, 0)) := (kk.block _ (by omega)).trans (al_at _ (by simp))
  have k2 : Keeps w w2 := (((Keeps.refl w).alloc _).alloc _).trans kk
  have k5 : Keeps w ((w2.alloc (.cells #[.map (some (w.heap.size + 1 + 1))] 68)).alloc (.cells #[.func (.func 48) #[] #[.pointer (some ⟨w.heap.size, 0, none⟩), .pointer (some ⟨w2.heap.size, 0, none⟩), .pointer (some ⟨w2.heap.size + 1, 0, none⟩)]] 50)) := (k2.alloc _).alloc _
  have e5 : Keeps w2 ((w2.alloc (.cells #[.map (some (w.heap.size + 1 + 1))] 68)).alloc (.cells #[.func (.func 48) #[] #[.pointer (some ⟨w.heap.size, 0, none⟩), .pointer (some ⟨w2.heap.size, 0, none⟩), .pointer (some ⟨w2.heap.size + 1, 0, none⟩)]] 50)) := ((Keeps.refl w2).alloc _).alloc _
  have hc : ((w2.alloc (.cells #[.map (some (w.heap.size + 1 + 1))] 68)).alloc (.cells #[.func (.func 48) #[] #[.pointer (some ⟨w.heap.size, 0, none⟩), .pointer (some ⟨w2.heap.size, 0, none⟩), .pointer (some ⟨w2.heap.size + 1, 0, none⟩)]] 50)).heap[w2.heap.size + 1]? = some (.cells #[.func (.func 48) #[] #[.pointer (some ⟨w.heap.size, 0, none⟩), .pointer (some ⟨w2.heap.size, 0, none⟩), .pointer (some ⟨w2.heap.size + 1, 0, none⟩)]] 50 (0, 0)) := al_at _ (by simp)
  have hm : ((w2.alloc (.cells #[.map (some (w.heap.size + 1 + 1))] 68)).alloc (.cells #[.func (.func 48) #[] #[.pointer (some ⟨w.heap.size, 0, none⟩), .pointer (some ⟨w2.heap.size, 0, none⟩), .pointer (some ⟨w2.heap.size + 1, 0, none⟩)]] 50)).heap[w2.heap.size]? = some (.cells #[.map (some (w.heap.size + 1 + 1))] 68 (0, 0)) := (al_lt _ (by simp)).trans (al_at _ rfl)
  have EV : Hid (Ev ((w2.alloc (.cells #[.map (some (w.heap.size + 1 + 1))] 68)).alloc (.cells #[.func (.func 48) #[] #[.pointer (some ⟨w.heap.size, 0, none⟩), .pointer (some ⟨w2.heap.size, 0, none⟩), .pointer (some ⟨w2.heap.size + 1, 0, none⟩)]] 50)) r w.heap.size w2.heap.size (w2.heap.size + 1) (w.heap.size + 1 + 1)) := Lib.hid (by
    refine ⟨⟨by rw [Lib.cell_of_heap ((e5.block _ (by omega)).trans hbr)]; rfl, by rw [Lib.cell_of_heap hm]; rfl, ?_⟩, hc, HU.out.keeps k5, by omega, by omega, by omega, by omega, h0, h1⟩
    obtain ⟨es, cl, q1, q2⟩ := hk
    exact ⟨es, cl, (e5.block _ (Array.getElem?_eq_some_iff.1 q1).1).trans q1, q2⟩)
  have K5 := Lib.hid k5
  have R5 := Lib.hid (HH.out.keeps k5)
  have B5 := Lib.hid ((e5.block _ (by omega)).trans hbz)
  have hg5 : w.heap.size + 1 < ((w2.alloc (.cells #[.map (some (w.heap.size + 1 + 1))] 68)).alloc (.cells #[.func (.func 48) #[] #[.pointer (some ⟨w.heap.size, 0, none⟩), .pointer (some ⟨w2.heap.size, 0, none⟩), .pointer (some ⟨w2.heap.size + 1, 0, none⟩)]] 50)).heap.size := by simp; omega
  have HG5 := Lib.hid hg5
  clear hk kk hzA hbr hbz k2 k5 e5 hc hm hg5
  go_wp2_with fail
  refine (cC.out _ _ _ _ _ a R5.out EV.out ha).mono ?_
  intro e w6 hj
  obtain ⟨jk, jn, jt, ka, kl, kc, ia, il, ic, rfl⟩ := hj.form
  have HB6 : Hid (w6.heap[w.heap.size + 1]? = some (.cells #[.int .i64 0, .int .i64 0, .string ⟨#[]⟩, .slice none 0 0, .slice none 0 0] 25 (0, 0))) := Lib.hid ((hj.1.block _ HG5.out (by simp; omega)).trans B5.out)
  have HJ := Lib.hid hj
  clear hj
  obtain ⟨⟨c0, c1, c2, c3, c4⟩, f0, f1, f2, f3, f4⟩ := cells5 HB6.out
  go_wp2
  (try simp only [Exit.inBlock, Exit.then])
  refine ret_j (w.heap.size + 1) _ rfl rfl (five_heap _ _ _ _ _ HB6.out) rfl rfl ?_
  exact RetJ.wrap2 K5.out (by omega) HG5.out (by omega) HJ.out

/-- A call of Read. -/
def RetR (w : World) (p : JR) (e : Ending) (w' : World) : Prop :=
  Keeps w w' ∧ (p.2.2 = 0 → ∃ v, e = .returned (.tuple #[v, .int .i64 (p.2.1 : Int), .int .i64 0]) ∧ IsJ w' (fun i => w.heap.size ≤ i ∧ i < w'.heap.size) p.1 v) ∧ (p.2.2 ≠ 0 → e = .returned (.tuple #[zeroV, .int .i64 0, .int .i64 (p.2.2 : Int)]))
def readJ (d : Int) (l : List UInt8) : JR := if d < 0 ∨ 8 < d then jerr 2 else valueJ d.toNat l
theorem results_cell_tmp2 {fn : Func} {p u v : Tmp} {ty : TypeId} (h : fn.results = #[.cell p ty, .tmp u, .tmp v]) (tmps : Array Value) (P : Program) (w : World) :
    (results fn tmps).run P w =
      ((asAddr (tmps.getD p undef)).run P w).andThen fun a w₁ => ((loadVar ty a).run P w₁).andThen fun x w₂ => .ok (.tuple #[x, tmps.getD u undef, tmps.getD v undef]) w₂ := by
  simp only [results, h]
  simp [Sem.run_bind, Result.andThen]
theorem ret_jn {fn : Func} {p u v : Tmp} {R : Ending → World → Prop} {a : Act} {w : World} (g : Nat) (cs : Array Value) (hf : fn.results = #[.cell p 25, .tmp u, .tmp v]) (hp : a.tmps.getD p undef = .pointer (some ⟨g, 0, none⟩))
    (hg : w.heap[g]? = some (.cells cs 25 (0, 0))) (hc : cs.size = 5) (hd : a.defers = []) (hR : R (.returned (.tuple #[.agg cs, a.tmps.getD u undef, a.tmps.getD v undef])) w) : bodyPost Tryd.prog fn R .ret a w := by
  refine bodyPost_ret (v := .tuple #[.agg cs, a.tmps.getD u undef, a.tmps.getD v undef]) ?_ hd hR
  rw [results_cell_tmp2 hf, hp]
  simp only [asAddr, Sem.run_pure, Result.andThen_ok]
  rw [run_loadVar_row w g 25 25 cs (0, 0) _ hg Tryd.underlying25 rfl (by rw [hc]; exact sizeJ)]
  rfl
theorem RetR.bad {w w' : World} {x : Nat} (k : Keeps w w') (hx : x ≠ 0) : RetR w (jerr x) (.returned (.tuple #[zeroV, .int .i64 0, .int .i64 (x : Int)])) w' := ⟨k, fun h => absurd h hx, fun _ => rfl⟩
theorem RetR.bad2 {w w' : World} {p : JR} (k : Keeps w w') (hx : p.2.2 ≠ 0) : RetR w p (.returned (.tuple #[zeroV, .int .i64 0, .int .i64 (p.2.2 : Int)])) w' := ⟨k, fun h => absurd h hx, fun _ => rfl⟩
theorem heap_drew' (Y : World) : Y.drew.heap = Y.heap := rfl
theorem RetR.good {w w' : World} {j : J} {n : Nat} {v : Value} (k : Keeps w w') (h : IsJ w' (fun i => w.heap.size ≤ i ∧ i < w'.heap.size) j v) : RetR w (j, n, 0) (.returned (.tuple #[v, .int .i64 (n : Int), .int .i64 0])) w' := ⟨k, fun _ => ⟨v, rfl, h⟩, fun h => absurd rfl h⟩

set_option maxHeartbeats 4000000 in
set_option maxRecDepth 100000 in
theorem read_bad (s : ByteArray) (d : Int) (w : World) (h : d < 0 ∨ 8 < d) : Calls Tryd.prog 10 #[.string s, .int .i64 d] w (RetR w (jerr 2)) := by
  have k1 : Keeps w (w.alloc (.cells #[.int .i64 0, .int .i64 0, .string ⟨#[]⟩, .slice none 0 0, .slice none 0 0] 25)) := (Keeps.refl w).alloc _
  have HB := Lib.hid (heap_alloc_new w (.cells #[.int .i64 0, .int .i64 0, .string ⟨#[]⟩, .slice none 0 0, .slice none 0 0] 25))
  have K1 := Lib.hid k1
  clear k1
  rcases h with h | h
  · have f1 : decide (d < 0) = true := by simpa using h
    go_enter Tryd.func10, Tryd.ntmps10
    go_wp2
    (try simp only [Exit.inBlock, Exit.then])
    refine ret_jn w.heap.size _ rfl rfl HB.out rfl rfl ?_
    exact RetR.bad K1.out (by decide)
  · have f1 : decide (d < 0) = false := by simp; omega
    have f2 : decide (8 < d) = true := by simpa using h
    go_enter Tryd.func10, Tryd.ntmps10
    go_wp2
    (try simp only [Exit.inBlock, Exit.then])
    refine ret_jn w.heap.size _ rfl rfl HB.out rfl rfl ?_
    exact RetR.bad K1.out (by decide)

set_option maxHeartbeats 4000000 in
set_option maxRecDepth 100000 in
theorem read_good (s : ByteArray) (d : Nat) (w : World) (hu : Utf w) (hd : d ≤ 8) (hs : s.size ≤ 100000) : Calls Tryd.prog 10 #[.string s, .int .i64 (d : Int)] w (RetR w (valueJ d s.data.toList)) := by
  have h1 : 1 < w.heap.size := World.block_lt_of_cell? _ _ (hu.2 0 (by omega)).1
  have hk : Keeps w ((w.alloc (.cells #[.int .i64 0, .int .i64 0, .string ⟨#[]⟩, .slice none 0 0, .slice none 0 0] 25)).alloc (.cells #[.string s, .int .i64 0] 49)) := ((Keeps.refl w).alloc _).alloc _
  have hR : Rd ((w.alloc (.cells #[.int .i64 0, .int .i64 0, .string ⟨#[]⟩, .slice none 0 0, .slice none 0 0] 25)).alloc (.cells #[.string s, .int .i64 0] 49)) (w.heap.size + 1) s 0 := al_at _ (by simp)
  have hB : ((w.alloc (.cells #[.int .i64 0, .int .i64 0, .string ⟨#[]⟩, .slice none 0 0, .slice none 0 0] 25)).alloc (.cells #[.string s, .int .i64 0] 49)).heap[w.heap.size]? = some (.cells #[.int .i64 0, .int .i64 0, .string ⟨#[]⟩, .slice none 0 0, .slice none 0 0] 25 (0, 0)) := (al_lt _ (by simp)).trans (al_at _ rfl)
  have cV := value_any (w.heap.size + 1) s 0 d _ hR (hu.keeps hk) (by omega) (by omega) hd (Nat.zero_le _) hs
  rw [List.drop_zero] at cV
  have CV := Lib.hid cV
  have K := Lib.hid hk
  have HB := Lib.hid hB
  have HZ : Hid (w.heap.size < ((w.alloc (.cells #[.int .i64 0, .int .i64 0, .string ⟨#[]⟩, .slice none 0 0, .slice none 0 0] 25)).alloc (.cells #[.string s, .int .i64 0] 49)).heap.size) := Lib.hid (by simp; omega)
  have f1 : decide ((d : Int) < 0) = false := by simp
  have f2 : decide (8 < (d : Int)) = false := by simp; omega
  clear hu hk hR hB cV
  go_enter Tryd.func10, Tryd.ntmps10
  go_wp2_with fail
  refine CV.out.mono ?_
  intro e w2 hj
  obtain ⟨jk, jn, jt, ka, kl, kc, ia, il, ic, rfl⟩ := hj.form
  have HB2 : Hid (w2.heap[w.heap.size]? = some (.cells #[.int .i64 0, .int .i64 0, .string ⟨#[]⟩, .slice none 0 0, .slice none 0 0] 25 (0, 0))) := Lib.hid ((hj.1.block _ HZ.out (by simp)).trans HB.out)
  have HK2 : Hid (Keeps w w2) := Lib.hid (K.out.only hj.1 (fun i hi => by simp at hi; omega))
  obtain ⟨⟨c0, c1, c2, c3, c4⟩, g0, g1, g2, g3, g4⟩ := cells5 HB2.out
  have HJ := Lib.hid hj
  clear hj f1 f2
  have hz2 := HK2.out.size
  have HZ2 : Hid (((w.alloc (.cells #[.int .i64 0, .int .i64 0, .string ⟨#[]⟩, .slice none 0 0, .slice none 0 0] 25)).alloc (.cells #[.string s, .int .i64 0] 49)).heap.size = w.heap.size + 2) := Lib.hid (by simp)
  generalize valueJ d s.data.toList = p at *
  obtain ⟨j, n, x⟩ := p
  by_cases hx : x = 0
  · subst hx
    obtain ⟨v, hv1, hv2, hv3⟩ := HJ.out.2.1 rfl
    have hv1' : v = .agg #[.int .i64 jk, .int .i64 jn, .string jt, .slice ka kl kc, .slice ia il ic] := by
      have := congrArg (fun e : Ending => match e with | .returned (.tuple a) => a[0]? | _ => none) hv1
      simpa using this.symm
    subst hv1'
    rw [HZ2.out] at hv2
    rw [Nat.zero_add] at hv3
    have HV2 := Lib.hid hv2
    have h5 : (((((w2.setCell ⟨w.heap.size, 0, none⟩ (.int .i64 jk)).setCell ⟨w.heap.size, 1, none⟩ (.int .i64 jn)).setCell ⟨w.heap.size, 2, none⟩ (.string jt)).setCell ⟨w.heap.size, 3, none⟩ (.slice ka kl kc)).setCell ⟨w.heap.size, 4, none⟩ (.slice ia il ic)).heap[w.heap.size]? = some (.cells #[.int .i64 jk, .int .i64 jn, .string jt, .slice ka kl kc, .slice ia il ic] 25 (0, 0)) := five_heap (.int .i64 jk) (.int .i64 jn) (.string jt) (.slice ka kl kc) (.slice ia il ic) HB2.out
    have hO : Only [w.heap.size] w2 (((((w2.setCell ⟨w.heap.size, 0, none⟩ (.int .i64 jk)).setCell ⟨w.heap.size, 1, none⟩ (.int .i64 jn)).setCell ⟨w.heap.size, 2, none⟩ (.string jt)).setCell ⟨w.heap.size, 3, none⟩ (.slice ka kl kc)).setCell ⟨w.heap.size, 4, none⟩ (.slice ia il ic)) := (Only.refl _ w2).five _ (.inl (by simp)) _ _ _ _ _
    have hr5 := hv3.only hO (by simp)
    have hk5 : Keeps w (((((w2.setCell ⟨w.heap.size, 0, none⟩ (.int .i64 jk)).setCell ⟨w.heap.size, 1, none⟩ (.int .i64 jn)).setCell ⟨w.heap.size, 2, none⟩ (.string jt)).setCell ⟨w.heap.size, 3, none⟩ (.slice ka kl kc)).setCell ⟨w.heap.size, 4, none⟩ (.slice ia il ic)) := HK2.out.only hO (fun i hi => by simp at hi; omega)
    have hj5 := IsJ.keeps (fun i hi => hO.block i hi.2 (by have := hi.1; simp; omega)) _ _ hv2
    have HJ5 := Lib.hid hj5
    have HK5 := Lib.hid hk5
    have H5 := Lib.hid h5
    have R5 := Lib.hid hr5
    have HS5 := Lib.hid hO.size
    clear hv1 hv2 hv3 h5 hO hr5 hk5 hj5 HJ
    go_wp2
    generalize (((((w2.setCell ⟨w.heap.size, 0, none⟩ (.int .i64 jk)).setCell ⟨w.heap.size, 1, none⟩ (.int .i64 jn)).setCell ⟨w.heap.size, 2, none⟩ (.string jt)).setCell ⟨w.heap.size, 3, none⟩ (.slice ka kl kc)).setCell ⟨w.heap.size, 4, none⟩ (.slice ia il ic)) = W5 at *
    obtain ⟨⟨y0, y1, y2, y3, y4⟩, z0, z1, z2, z3, z4⟩ := cells5 H5.out
    have r1 := R5.out.at
    have hne : w.heap.size ≠ w.heap.size + 1 := by omega
    have hF : (((((W5.setCell ⟨w.heap.size, 0, none⟩ (.int .i64 jk)).setCell ⟨w.heap.size, 1, none⟩ (.int .i64 jn)).setCell ⟨w.heap.size, 2, none⟩ (.string jt)).setCell ⟨w.heap.size, 3, none⟩ (.slice ka kl kc)).setCell ⟨w.heap.size, 4, none⟩ (.slice ia il ic)).heap[w.heap.size]? = some (.cells #[.int .i64 jk, .int .i64 jn, .string jt, .slice ka kl kc, .slice ia il ic] 25 (0, 0)) := five_heap (.int .i64 jk) (.int .i64 jn) (.string jt) (.slice ka kl kc) (.slice ia il ic) H5.out
    have q5 : (((((W5.setCell ⟨w.heap.size, 0, none⟩ (.int .i64 jk)).setCell ⟨w.heap.size, 1, none⟩ (.int .i64 jn)).setCell ⟨w.heap.size, 2, none⟩ (.string jt)).setCell ⟨w.heap.size, 3, none⟩ (.slice ka kl kc)).setCell ⟨w.heap.size, 4, none⟩ (.slice ia il ic)).cell? ⟨w.heap.size + 1, 1, none⟩ = some (.int .i64 (n : Int)) := (five_cell (.int .i64 jk) (.int .i64 jn) (.string jt) (.slice ka kl kc) (.slice ia il ic) hne.symm).trans r1
    have hO5 : Only [w.heap.size] W5 (((((W5.setCell ⟨w.heap.size, 0, none⟩ (.int .i64 jk)).setCell ⟨w.heap.size, 1, none⟩ (.int .i64 jn)).setCell ⟨w.heap.size, 2, none⟩ (.string jt)).setCell ⟨w.heap.size, 3, none⟩ (.slice ka kl kc)).setCell ⟨w.heap.size, 4, none⟩ (.slice ia il ic)) := (Only.refl _ W5).five _ (.inl (by simp)) _ _ _ _ _
    have hQ := And.intro (cells5 hF).1 q5
    have Q : Hid ((((((W5.setCell ⟨w.heap.size, 0, none⟩ (.int .i64 jk)).setCell ⟨w.heap.size, 1, none⟩ (.int .i64 jn)).setCell ⟨w.heap.size, 2, none⟩ (.string jt)).setCell ⟨w.heap.size, 3, none⟩ (.slice ka kl kc)).setCell ⟨w.heap.size, 4, none⟩ (.slice ia il ic)).drew.cell? ⟨w.heap.size, 0, none⟩ = some (.int .i64 jk) ∧ (((((W5.setCell ⟨w.heap.size, 0, none⟩ (.int .i64 jk)).setCell ⟨w.heap.size, 1, none⟩ (.int .i64 jn)).setCell ⟨w.heap.size, 2, none⟩ (.string jt)).setCell ⟨w.heap.size, 3, none⟩ (.slice ka kl kc)).setCell ⟨w.heap.size, 4, none⟩ (.slice ia il ic)).drew.cell? ⟨w.heap.size, 1, none⟩ = some (.int .i64 jn) ∧ (((((W5.setCell ⟨w.heap.size, 0, none⟩ (.int .i64 jk)).setCell ⟨w.heap.size, 1, none⟩ (.int .i64 jn)).setCell ⟨w.heap.size, 2, none⟩ (.string jt)).setCell ⟨w.heap.size, 3, none⟩ (.slice ka kl kc)).setCell ⟨w.heap.size, 4, none⟩ (.slice ia il ic)).drew.cell? ⟨w.heap.size, 2, none⟩ = some (.string jt) ∧ (((((W5.setCell ⟨w.heap.size, 0, none⟩ (.int .i64 jk)).setCell ⟨w.heap.size, 1, none⟩ (.int .i64 jn)).setCell ⟨w.heap.size, 2, none⟩ (.string jt)).setCell ⟨w.heap.size, 3, none⟩ (.slice ka kl kc)).setCell ⟨w.heap.size, 4, none⟩ (.slice ia il ic)).drew.cell? ⟨w.heap.size, 3, none⟩ = some (.slice ka kl kc) ∧ (((((W5.setCell ⟨w.heap.size, 0, none⟩ (.int .i64 jk)).setCell ⟨w.heap.size, 1, none⟩ (.int .i64 jn)).setCell ⟨w.heap.size, 2, none⟩ (.string jt)).setCell ⟨w.heap.size, 3, none⟩ (.slice ka kl kc)).setCell ⟨w.heap.size, 4, none⟩ (.slice ia il ic)).drew.cell? ⟨w.heap.size, 4, none⟩ = some (.slice ia il ic) ∧ (((((W5.setCell ⟨w.heap.size, 0, none⟩ (.int .i64 jk)).setCell ⟨w.heap.size, 1, none⟩ (.int .i64 jn)).setCell ⟨w.heap.size, 2, none⟩ (.string jt)).setCell ⟨w.heap.size, 3, none⟩ (.slice ka kl kc)).setCell ⟨w.heap.size, 4, none⟩ (.slice ia il ic)).drew.cell? ⟨w.heap.size + 1, 1, none⟩ = some (.int .i64 (n : Int))) := Lib.hid (by simp only [World.cell?_drew]; exact ⟨hQ.1.1, hQ.1.2.1, hQ.1.2.2.1, hQ.1.2.2.2.1, hQ.1.2.2.2.2, hQ.2⟩)
    clear hQ
    have HF := Lib.hid hF
    have O5 := Lib.hid hO5
    clear hF q5 hO5
    clear c0 c1 c2 c3 c4 g0 g1 g2 g3 g4
    go_region_held3 (fun w' => w'.cell? ⟨w.heap.size, 0, none⟩ = some (.int .i64 jk) ∧ w'.cell? ⟨w.heap.size, 1, none⟩ = some (.int .i64 jn) ∧ w'.cell? ⟨w.heap.size, 2, none⟩ = some (.string jt) ∧ w'.cell? ⟨w.heap.size, 3, none⟩ = some (.slice ka kl kc) ∧ w'.cell? ⟨w.heap.size, 4, none⟩ = some (.slice ia il ic) ∧ w'.cell? ⟨w.heap.size + 1, 1, none⟩ = some (.int .i64 (n : Int))) (first | (with_reducible exact Q.out) | go_keep) (fail)
    all_goals go_wp2
    have hFd : (((((W5.setCell ⟨w.heap.size, 0, none⟩ (.int .i64 jk)).setCell ⟨w.heap.size, 1, none⟩ (.int .i64 jn)).setCell ⟨w.heap.size, 2, none⟩ (.string jt)).setCell ⟨w.heap.size, 3, none⟩ (.slice ka kl kc)).setCell ⟨w.heap.size, 4, none⟩ (.slice ia il ic)).drew.heap[w.heap.size]? = some (.cells #[.int .i64 jk, .int .i64 jn, .string jt, .slice ka kl kc, .slice ia il ic] 25 (0, 0)) := by rw [heap_drew']; exact HF.out
    have k7 : Keeps w (((((W5.setCell ⟨w.heap.size, 0, none⟩ (.int .i64 jk)).setCell ⟨w.heap.size, 1, none⟩ (.int .i64 jn)).setCell ⟨w.heap.size, 2, none⟩ (.string jt)).setCell ⟨w.heap.size, 3, none⟩ (.slice ka kl kc)).setCell ⟨w.heap.size, 4, none⟩ (.slice ia il ic)).drew := (HK5.out.only O5.out (fun i hi => by simp at hi; omega)).drew
    have j7 : IsJ (((((W5.setCell ⟨w.heap.size, 0, none⟩ (.int .i64 jk)).setCell ⟨w.heap.size, 1, none⟩ (.int .i64 jn)).setCell ⟨w.heap.size, 2, none⟩ (.string jt)).setCell ⟨w.heap.size, 3, none⟩ (.slice ka kl kc)).setCell ⟨w.heap.size, 4, none⟩ (.slice ia il ic)).drew (fun i => w.heap.size ≤ i ∧ i < (((((W5.setCell ⟨w.heap.size, 0, none⟩ (.int .i64 jk)).setCell ⟨w.heap.size, 1, none⟩ (.int .i64 jn)).setCell ⟨w.heap.size, 2, none⟩ (.string jt)).setCell ⟨w.heap.size, 3, none⟩ (.slice ka kl kc)).setCell ⟨w.heap.size, 4, none⟩ (.slice ia il ic)).drew.heap.size) j (.agg #[.int .i64 jk, .int .i64 jn, .string jt, .slice ka kl kc, .slice ia il ic]) := by
      refine IsJ.mono (fun i hi => ?_) _ _ (IsJ.keeps (fun i hi => ?_) _ _ HJ5.out)
      · rw [heap_drew']
        exact ⟨by omega, Nat.lt_of_lt_of_le hi.2 (Nat.le_trans HS5.out O5.out.size)⟩
      · rw [heap_drew']
        exact O5.out.block i (Nat.lt_of_lt_of_le hi.2 HS5.out) (by have := hi.1; simp; omega)
    (try simp only [Exit.inBlock, Exit.then])
    refine ret_jn w.heap.size _ rfl rfl hFd rfl rfl ?_
    exact RetR.good k7 j7
  · have f9 : ((x : Int) != 0) = true := by simp; omega
    have hx' := Lib.hid hx
    clear hx
    have h5 := five_heap (.int .i64 jk) (.int .i64 jn) (.string jt) (.slice ka kl kc) (.slice ia il ic) HB2.out
    go_wp2
    (try simp only [Exit.inBlock, Exit.then])
    refine ret_jn w.heap.size _ rfl rfl (five_heap _ _ _ _ _ (five_heap _ _ _ _ _ HB2.out)) rfl rfl ?_
    exact RetR.bad2 (HK2.out.only (((Only.refl [w.heap.size] w2).five _ (.inl (by simp)) _ _ _ _ _).five _ (.inl (by simp)) _ _ _ _ _) (fun i hi => by simp at hi; omega)) hx'.out

theorem read_any (s : ByteArray) (d : Int) (w : World) (hu : Utf w) (hs : s.size ≤ 100000) : Calls Tryd.prog 10 #[.string s, .int .i64 d] w (RetR w (readJ d s.data.toList)) := by
  unfold readJ
  by_cases h : d < 0 ∨ 8 < d
  · rw [if_pos h]; exact read_bad s d w h
  · rw [if_neg h]
    have := read_good s d.toNat w hu (by omega) hs
    rwa [show ((d.toNat : Nat) : Int) = d by omega] at this
end Go.Proofs.YtljkeladdplhlaaDoor
