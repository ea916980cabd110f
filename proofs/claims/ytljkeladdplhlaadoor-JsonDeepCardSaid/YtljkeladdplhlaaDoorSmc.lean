/-
  Same, of package json.
-/
import Derived.Test.YtljkeladdplhlaaDoorSmb
namespace Go.Proofs.YtljkeladdplhlaaDoor
open Go.RowKit

def GF (F : Nat → Prop) (a b i : Nat) : Prop := F i ∨ i = a ∨ i = b
theorem IsItems.inG {w : World} {F : Nat → Prop} {iv : Value} {is : List J} {g o n c : Nat} (h : IsItems w F iv is) (e : iv = .slice (some ⟨g, o, none⟩) n c) : F g := by
  rcases h with ⟨h, _⟩ | ⟨g', o', c', h, hF, _⟩
  · rw [h] at e; simp at e
  · rw [h] at e; simp only [Value.slice.injEq, Option.some.injEq, Addr.mk.injEq] at e; rw [← e.1.1]; exact hF
set_option maxHeartbeats 16000000 in
set_option maxRecDepth 100000 in
theorem same_any (ja jb : J) (va vb : Value) (F : Nat → Prop) (w : World) (ha : IsJ w F ja va) (hb : IsJ w F jb vb) (hF : ∀ i, F i → i < w.heap.size) (sa : SmJ ja) (sb : SmJ jb) (hn : nodesJ ja ≤ 900000) : Calls Tryd.prog 20 #[va, vb] w (SameRet (ja = jb) w) := by
  obtain ⟨i0, hi0, hz0, hz1, hz2⟩ := info_parts info58
  have cA := Lib.hid (fun (k1 n1 k2 n2 : Int) (t1 t2 : List UInt8) (ks1 ks2 : List (List UInt8)) (a1 a2 i1 i2 : Option Addr) (l1 l2 c1 c2 m1 m2 d1 d2 : Nat) (wx : World) h => alone_same k1 n1 k2 n2 t1 t2 ks1 ks2 a1 a2 i1 i2 l1 l2 c1 c2 m1 m2 d1 d2 wx h)
  have hT : (ja = jb) ↔ AllEq [([ja], [jb])] := by simp [AllEq]
  have hPG : PG ([ja], [jb]) := by refine ⟨rfl, ?_, ?_⟩ <;> (unfold SmL; exact ⟨by assumption, by unfold SmL; trivial⟩)
  have hmu : muP [([ja], [jb])] ≤ 900001 := by simp only [muP, nodesL]; omega
  generalize hTT : (ja = jb) = T at hT ⊢
  have HA := Lib.hid ha
  have HB := Lib.hid hb
  obtain ⟨k1, n1, t1, ks1, is1, kv1, iv1, rfl, rfl, hk1, hi1⟩ := ha.parts
  obtain ⟨k2, n2, t2, ks2, is2, kv2, iv2, rfl, rfl, hk2, hi2⟩ := hb.parts
  obtain ⟨a1, c1, rfl⟩ := hk1.form
  obtain ⟨i1, d1, rfl⟩ := hi1.form
  obtain ⟨a2, c2, rfl⟩ := hk2.form
  obtain ⟨i2, d2, rfl⟩ := hi2.form
  have HF := Lib.hid hF
  have HT := Lib.hid hT
  have HPG := Lib.hid hPG
  have z1 := al_sz (w := w) (.cells #[.int .i64 k1, .int .i64 n1, .string (S t1), .slice a1 ks1.length c1, .slice i1 is1.length d1] 25) rfl
  have z2 := al_sz (.cells #[.int .i64 k2, .int .i64 n2, .string (S t2), .slice a2 ks2.length c2, .slice i2 is2.length d2] 25) z1
  have z3 := al_sz (.cells #[.int .i64 k1, .int .i64 n1, .string (S t1), .slice a1 ks1.length c1, .slice i1 is1.length d1] 25) z2
  have z4 := al_sz (.cells #[.int .i64 k2, .int .i64 n2, .string (S t2), .slice a2 ks2.length c2, .slice i2 is2.length d2] 25) z3
  have z5 := al_sz (.cells #[.slice (some ⟨w.heap.size + 1 + 1, 0, none⟩) 1 1, .slice (some ⟨w.heap.size + 1 + 1 + 1, 0, none⟩) 1 1] 58) z4
  have K5 := Lib.hid ((((((Keeps.refl w).alloc (.cells #[.int .i64 k1, .int .i64 n1, .string (S t1), .slice a1 ks1.length c1, .slice i1 is1.length d1] 25)).alloc (.cells #[.int .i64 k2, .int .i64 n2, .string (S t2), .slice a2 ks2.length c2, .slice i2 is2.length d2] 25)).alloc (.cells #[.int .i64 k1, .int .i64 n1, .string (S t1), .slice a1 ks1.length c1, .slice i1 is1.length d1] 25)).alloc (.cells #[.int .i64 k2, .int .i64 n2, .string (S t2), .slice a2 ks2.length c2, .slice i2 is2.length d2] 25)).alloc (.cells #[.slice (some ⟨w.heap.size + 1 + 1, 0, none⟩) 1 1, .slice (some ⟨w.heap.size + 1 + 1 + 1, 0, none⟩) 1 1] 58))
  have b2 : (((((w.alloc (.cells #[.int .i64 k1, .int .i64 n1, .string (S t1), .slice a1 ks1.length c1, .slice i1 is1.length d1] 25)).alloc (.cells #[.int .i64 k2, .int .i64 n2, .string (S t2), .slice a2 ks2.length c2, .slice i2 is2.length d2] 25)).alloc (.cells #[.int .i64 k1, .int .i64 n1, .string (S t1), .slice a1 ks1.length c1, .slice i1 is1.length d1] 25)).alloc (.cells #[.int .i64 k2, .int .i64 n2, .string (S t2), .slice a2 ks2.length c2, .slice i2 is2.length d2] 25)).alloc (.cells #[.slice (some ⟨w.heap.size + 1 + 1, 0, none⟩) 1 1, .slice (some ⟨w.heap.size + 1 + 1 + 1, 0, none⟩) 1 1] 58)).heap[w.heap.size + 1 + 1]? = some (.cells #[.int .i64 k1, .int .i64 n1, .string (S t1), .slice a1 ks1.length c1, .slice i1 is1.length d1] 25 (0, 0)) := (al_lt _ (by omega)).trans ((al_lt _ (by omega)).trans (al_at _ z2.symm))
  have b3 : (((((w.alloc (.cells #[.int .i64 k1, .int .i64 n1, .string (S t1), .slice a1 ks1.length c1, .slice i1 is1.length d1] 25)).alloc (.cells #[.int .i64 k2, .int .i64 n2, .string (S t2), .slice a2 ks2.length c2, .slice i2 is2.length d2] 25)).alloc (.cells #[.int .i64 k1, .int .i64 n1, .string (S t1), .slice a1 ks1.length c1, .slice i1 is1.length d1] 25)).alloc (.cells #[.int .i64 k2, .int .i64 n2, .string (S t2), .slice a2 ks2.length c2, .slice i2 is2.length d2] 25)).alloc (.cells #[.slice (some ⟨w.heap.size + 1 + 1, 0, none⟩) 1 1, .slice (some ⟨w.heap.size + 1 + 1 + 1, 0, none⟩) 1 1] 58)).heap[w.heap.size + 1 + 1 + 1]? = some (.cells #[.int .i64 k2, .int .i64 n2, .string (S t2), .slice a2 ks2.length c2, .slice i2 is2.length d2] 25 (0, 0)) := (al_lt _ (by omega)).trans (al_at _ z3.symm)
  have b4 : (((((w.alloc (.cells #[.int .i64 k1, .int .i64 n1, .string (S t1), .slice a1 ks1.length c1, .slice i1 is1.length d1] 25)).alloc (.cells #[.int .i64 k2, .int .i64 n2, .string (S t2), .slice a2 ks2.length c2, .slice i2 is2.length d2] 25)).alloc (.cells #[.int .i64 k1, .int .i64 n1, .string (S t1), .slice a1 ks1.length c1, .slice i1 is1.length d1] 25)).alloc (.cells #[.int .i64 k2, .int .i64 n2, .string (S t2), .slice a2 ks2.length c2, .slice i2 is2.length d2] 25)).alloc (.cells #[.slice (some ⟨w.heap.size + 1 + 1, 0, none⟩) 1 1, .slice (some ⟨w.heap.size + 1 + 1 + 1, 0, none⟩) 1 1] 58)).heap[w.heap.size + 1 + 1 + 1 + 1]? = some (.cells #[.slice (some ⟨w.heap.size + 1 + 1, 0, none⟩) 1 1, .slice (some ⟨w.heap.size + 1 + 1 + 1, 0, none⟩) 1 1] 58 (0, 0)) := al_at _ z4.symm
  have hA5 : Hid (SamAt T w (((((w.alloc (.cells #[.int .i64 k1, .int .i64 n1, .string (S t1), .slice a1 ks1.length c1, .slice i1 is1.length d1] 25)).alloc (.cells #[.int .i64 k2, .int .i64 n2, .string (S t2), .slice a2 ks2.length c2, .slice i2 is2.length d2] 25)).alloc (.cells #[.int .i64 k1, .int .i64 n1, .string (S t1), .slice a1 ks1.length c1, .slice i1 is1.length d1] 25)).alloc (.cells #[.int .i64 k2, .int .i64 n2, .string (S t2), .slice a2 ks2.length c2, .slice i2 is2.length d2] 25)).alloc (.cells #[.slice (some ⟨w.heap.size + 1 + 1, 0, none⟩) 1 1, .slice (some ⟨w.heap.size + 1 + 1 + 1, 0, none⟩) 1 1] 58)) (GF F (w.heap.size + 1 + 1) (w.heap.size + 1 + 1 + 1)) (w.heap.size + 1 + 1 + 1 + 1) [([J.mk k1 n1 t1 ks1 is1], [J.mk k2 n2 t2 ks2 is2])] (.slice (some ⟨w.heap.size + 1 + 1 + 1 + 1, 0, none⟩) 1 1) (((((w.alloc (.cells #[.int .i64 k1, .int .i64 n1, .string (S t1), .slice a1 ks1.length c1, .slice i1 is1.length d1] 25)).alloc (.cells #[.int .i64 k2, .int .i64 n2, .string (S t2), .slice a2 ks2.length c2, .slice i2 is2.length d2] 25)).alloc (.cells #[.int .i64 k1, .int .i64 n1, .string (S t1), .slice a1 ks1.length c1, .slice i1 is1.length d1] 25)).alloc (.cells #[.int .i64 k2, .int .i64 n2, .string (S t2), .slice a2 ks2.length c2, .slice i2 is2.length d2] 25)).alloc (.cells #[.slice (some ⟨w.heap.size + 1 + 1, 0, none⟩) 1 1, .slice (some ⟨w.heap.size + 1 + 1 + 1, 0, none⟩) 1 1] 58))) := Lib.hid (by
    refine ⟨K5.out, Below.refl _ _, by omega, ⟨[.slice (some ⟨w.heap.size + 1 + 1, 0, none⟩) 1 1, .slice (some ⟨w.heap.size + 1 + 1 + 1, 0, none⟩) 1 1], ⟨rfl, .inr ⟨_, 1, _, rfl, Nat.le_refl _, b4, Nat.le_refl _, by unfold maxLen; omega, rfl, rfl⟩⟩, ⟨_, _, [], rfl, ?_, ?_, HPG.out, rfl⟩⟩, HT.out⟩
    · refine .inr ⟨_, 0, 1, rfl, .inr (.inl rfl), ?_⟩
      unfold AreJ
      refine ⟨⟨_, _, _, _, _, fun k u hk => ?_, ((IsJ.keeps (fun i hi => K5.out.block i (HF.out i hi)) _ _ HA.out).mono (fun i hi => .inl hi))⟩, by unfold AreJ; trivial⟩
      rw [Nat.zero_add, Lib.cell_of_heap b2]
      simpa using hk
    · refine .inr ⟨_, 0, 1, rfl, .inr (.inr rfl), ?_⟩
      unfold AreJ
      refine ⟨⟨_, _, _, _, _, fun k u hk => ?_, ((IsJ.keeps (fun i hi => K5.out.block i (HF.out i hi)) _ _ HB.out).mono (fun i hi => .inl hi))⟩, by unfold AreJ; trivial⟩
      rw [Nat.zero_add, Lib.cell_of_heap b3]
      simpa using hk)
  have hFB : ∀ i, GF F (w.heap.size + 1 + 1) (w.heap.size + 1 + 1 + 1) i → i < w.heap.size + 1 + 1 + 1 + 1 := fun i hi => by
    rcases hi with h | h | h
    · have := HF.out i h; omega
    · omega
    · omega
  have HFB := Lib.hid hFB
  clear ha hb hk1 hk2 hi1 hi2 hF hT hPG hTT z1 z2 z3 z4 b2 b3 b4 hFB sa sb hn
  go_enter Tryd.func20, Tryd.ntmps20
  go_wp2
  generalize (((((w.alloc (.cells #[.int .i64 k1, .int .i64 n1, .string (S t1), .slice a1 ks1.length c1, .slice i1 is1.length d1] 25)).alloc (.cells #[.int .i64 k2, .int .i64 n2, .string (S t2), .slice a2 ks2.length c2, .slice i2 is2.length d2] 25)).alloc (.cells #[.int .i64 k1, .int .i64 n1, .string (S t1), .slice a1 ks1.length c1, .slice i1 is1.length d1] 25)).alloc (.cells #[.int .i64 k2, .int .i64 n2, .string (S t2), .slice a2 ks2.length c2, .slice i2 is2.length d2] 25)).alloc (.cells #[.slice (some ⟨w.heap.size + 1 + 1, 0, none⟩) 1 1, .slice (some ⟨w.heap.size + 1 + 1 + 1, 0, none⟩) 1 1] 58)) = W at *
  generalize (GF F (w.heap.size + 1 + 1) (w.heap.size + 1 + 1 + 1)) = G at *
  have hB : w.heap.size ≤ w.heap.size + 1 + 1 + 1 + 1 := by omega
  generalize w.heap.size + 1 + 1 + 1 + 1 = B at *
  go_loopg [5] 900002 (fun g v5 wr => ∃ ps, muP ps < g ∧ g ≤ 900002 ∧ Hid (SamAt T w W G B ps v5 wr))
  case atStart => exact ⟨_, by omega, by omega, hA5⟩
  case round =>
    obtain ⟨ps, hmg, hg9, hA⟩ := hrel
    clear hA5 hmu
    rcases List.eq_nil_or_concat ps with rfl | ⟨ps1, p, rfl⟩
    · obtain ⟨hk, _, _, ⟨xs, hown, _⟩, hT⟩ := hA.out
      obtain ⟨ra, rc, rfl⟩ := own_slice hown
      have HK := Lib.hid hk
      have HT := Lib.hid (hT.2 (fun p hp => by simp at hp))
      clear hk hown hT hA
      simp only [List.length_nil]
      go_wp2
      go_ret
      exact ⟨true, rfl, ⟨fun _ => HT.out, fun _ => rfl⟩, HK.out⟩
    · rw [List.concat_eq_append] at hA hmg
      obtain ⟨la, lb⟩ := p
      obtain ⟨hk, hbw, hBz, ⟨xs, hown, hst⟩, hT⟩ := hA.out
      obtain ⟨ys, u, v, rfl, hst1, hu, hv, hg1, hg2, hg3⟩ := hst.unsnoc
      rw [List.length_append, List.length_singleton] at hown
      obtain ⟨gb, cap, rfl, hgb⟩ := own_form hown (by omega)
      obtain ⟨hown1, hc0, hc1, hcap⟩ := own_pop2 hown
      have hgbl : gb < wr.heap.size := own_lt hown rfl
      rw [muP_snoc] at hmg
      rw [AllEq.snoc] at hT
      obtain ⟨ua, uc, rfl⟩ := hu.form
      obtain ⟨va, vc, rfl⟩ := hv.form
      simp only at hg1 hg2 hg3 hmg hT
      have hll := nodesL_len la
      have hlen := muP_len ps1
      have K := Lib.hid hk
      have BW := Lib.hid hbw
      have OWN := Lib.hid hown1
      have ST := Lib.hid hst1
      have HU := Lib.hid hu
      have HV := Lib.hid hv
      have SA := Lib.hid hg2
      have SB := Lib.hid hg3
      have HT := Lib.hid hT
      have HG1 := Lib.hid hg1
      rw [← hg1] at hc1
      generalize hM : ps1.length = M at *
      have HM := Lib.hid hM
      generalize hL : la.length = L at *
      have HL := Lib.hid hL
      clear hk hbw hown hst hst1 hu hv hown1 hg1 hg2 hg3 hT hA hM hL
      cases gk with
      | zero => omega
      | succ g0 =>
      obtain ⟨wo, rfl⟩ : ∃ wo : World, wo = wr := ⟨_, rfl⟩
      have hsub : ((M + 1 : Nat) : Int) - 1 = (M : Int) := by omega
      have q1 : (0 : Int) ≤ (M : Int) := by omega
      have q2 : (M : Int) < ((M + 1 : Nat) : Int) := by omega
      have q3 : (M : Int) ≤ (cap : Int) := by omega
      have hM6 : M ≤ 1000000 := by omega
      have hL6 : L ≤ 1000000 := by omega
      go_wp2
      have hpb : (wo.alloc (.cells #[.slice ua L uc, .slice va L vc] 58)).heap[wo.heap.size]? = some (.cells #[.slice ua L uc, .slice va L vc] 58 (0, 0)) := al_at _ rfl
      have I0 : Hid (SamIn T w W G B la lb 0 ps1 (.slice (some ⟨gb, 0, none⟩) M cap) (wo.alloc (.cells #[.slice ua L uc, .slice va L vc] 58)) ∧ (wo.alloc (.cells #[.slice ua L uc, .slice va L vc] 58)).heap[wo.heap.size]? = some (.cells #[.slice ua L uc, .slice va L vc] 58 (0, 0)) ∧ (Value.slice (some ⟨gb, 0, none⟩) M cap).ownBlock ≠ some wo.heap.size) := Lib.hid
        ⟨⟨K.out.alloc _, BW.out.alloc hBz _, by simp; omega, ⟨ys, by rw [HM.out]; exact OWN.out.alloc _, ST.out⟩, by simp only [List.drop_zero]; exact HT.out⟩, hpb, fun e => by have e : gb = wo.heap.size := Option.some.inj e; omega⟩
      have hmu0 : muP ps1 + nodesL (la.drop 0) < g0 := by simp only [List.drop_zero]; omega
      clear hpb hc0 hc1
      go_loopg [5, 33] (L + 1) (fun g v5 i wx => ∃ (k : Nat) (ps : List (List J × List J)), i = .int .i64 (k : Int) ∧ k ≤ L ∧ L - k < g ∧ muP ps + nodesL (la.drop k) < g0 ∧ Hid (SamIn T w W G B la lb k ps v5 wx ∧ wx.heap[wo.heap.size]? = some (.cells #[.slice ua L uc, .slice va L vc] 58 (0, 0)) ∧ v5.ownBlock ≠ some wo.heap.size))
      case atStart => exact ⟨0, ps1, rfl, Nat.zero_le _, by omega, hmu0, I0⟩
      case round =>
        obtain ⟨k, ps, rfl, hkL, hkg, hmk, hI⟩ := hrel
        clear I0 hmu0
        obtain ⟨⟨hk, hbw, hBx, ⟨zs, hown, hst⟩, hTk⟩, hpb, hpo⟩ := hI.out
        obtain ⟨ra, rc, rfl⟩ := own_slice hown
        by_cases hlt : k < L
        · have hla : k < la.length := by rw [HL.out]; exact hlt
          have hlb : k < lb.length := by rw [← HG1.out]; exact hlt
          obtain ⟨gx, ox, cx, hxe, jk, jn, jt, jks, jis, kv1, iv1, hitx, hkx, hix, x0, x1, x2, x3, x4⟩ := HU.out.get k hla
          obtain ⟨gy, oy, cy, hye, hk', hn, ht, hks, his, kv2, iv2, hity, hky, hiy, y0, y1, y2, y3, y4⟩ := HV.out.get k hlb
          obtain ⟨rfl, rfl⟩ : ua = some ⟨gx, ox, none⟩ ∧ uc = cx := by have := hxe; simp only [Value.slice.injEq] at this; exact ⟨this.1, this.2.2⟩
          obtain ⟨rfl, rfl⟩ : va = some ⟨gy, oy, none⟩ ∧ vc = cy := by have := hye; simp only [Value.slice.injEq] at this; exact ⟨this.1, this.2.2⟩
          have hGx := HFB.out _ (HU.out.inG rfl)
          have hGy := HFB.out _ (HV.out.inG rfl)
          obtain ⟨ja1, jc1, rfl⟩ := hkx.form
          obtain ⟨ia1, ic1, rfl⟩ := hix.form
          obtain ⟨ha1, hc1, rfl⟩ := hky.form
          obtain ⟨ga1, gc1, rfl⟩ := hiy.form
          have u0 := Below.cellB hbw x0 hGx
          have u1 := Below.cellB hbw x1 hGx
          have u2 := Below.cellB hbw x2 hGx
          have u3 := Below.cellB hbw x3 hGx
          have u4 := Below.cellB hbw x4 hGx
          have v0 := cell_al (Below.cellB hbw y0 hGy) (.cells #[.int .i64 jk, .int .i64 jn, .string (S jt), .slice ja1 jks.length jc1, .slice ia1 jis.length ic1] 25)
          have v1 := cell_al (Below.cellB hbw y1 hGy) (.cells #[.int .i64 jk, .int .i64 jn, .string (S jt), .slice ja1 jks.length jc1, .slice ia1 jis.length ic1] 25)
          have v2 := cell_al (Below.cellB hbw y2 hGy) (.cells #[.int .i64 jk, .int .i64 jn, .string (S jt), .slice ja1 jks.length jc1, .slice ia1 jis.length ic1] 25)
          have v3 := cell_al (Below.cellB hbw y3 hGy) (.cells #[.int .i64 jk, .int .i64 jn, .string (S jt), .slice ja1 jks.length jc1, .slice ia1 jis.length ic1] 25)
          have v4 := cell_al (Below.cellB hbw y4 hGy) (.cells #[.int .i64 jk, .int .i64 jn, .string (S jt), .slice ja1 jks.length jc1, .slice ia1 jis.length ic1] 25)
          have p1 : wr.cell? ⟨wo.heap.size, 1, none⟩ = some (.slice (some ⟨gy, oy, none⟩) L vc) := by rw [Lib.cell_of_heap hpb]; rfl
          have p2 := cell_al p1 (.cells #[.int .i64 jk, .int .i64 jn, .string (S jt), .slice ja1 jks.length jc1, .slice ia1 jis.length ic1] 25)
          have hsx := SmL.get la k hla SA.out
          have hsy := SmL.get lb k hlb SB.out
          rw [hitx] at hsx
          rw [hity] at hsy
          unfold SmJ at hsx hsy
          have hdx : la.drop k = J.mk jk jn jt jks jis :: la.drop (k + 1) := by rw [List.drop_eq_getElem_cons hla, hitx]
          have hdy : lb.drop k = J.mk hk' hn ht hks his :: lb.drop (k + 1) := by rw [List.drop_eq_getElem_cons hlb, hity]
          rw [hdx, hdy] at hTk
          have hnd : nodesL (la.drop k) = 1 + nodesL jis + nodesL (la.drop (k + 1)) := by rw [hdx, nodesL, nodesJ]
          have cEx : Hid (∀ wy, Keeps ((wr.alloc (.cells #[.int .i64 jk, .int .i64 jn, .string (S jt), .slice ja1 jks.length jc1, .slice ia1 jis.length ic1] 25)).alloc (.cells #[.int .i64 hk', .int .i64 hn, .string (S ht), .slice ha1 hks.length hc1, .slice ga1 his.length gc1] 25)) wy → Calls Tryd.prog 60 #[.slice ja1 jks.length jc1, .slice ha1 hks.length hc1] wy (fun e w' => e = .returned (.bool (decide (jks = hks))) ∧ ∃ q, w' = wy.drewN q)) := Lib.hid (fun wy ky => by
            have kw : Keeps wr wy := (((Keeps.refl wr).alloc _).alloc _).trans ky
            have hG : ∀ i, G i → wy.heap[i]? = W.heap[i]? := fun i hi => (kw.block i (Nat.lt_of_lt_of_le (HFB.out i hi) hBx)).trans (hbw.block i (HFB.out i hi))
            exact texts_eq jks hks _ _ G wy (hkx.keeps hG) (hky.keeps hG) hsx.2.1 hsy.2.1)
          have cAx := Lib.hid (cA.out jk jn hk' hn jt ht jks hks ja1 ha1 ia1 ga1 jks.length hks.length jc1 hc1 jis.length his.length ic1 gc1 _ cEx)
          have hq := J_eq jk jn hk' hn jt ht jks hks jis his
          have hlen : sameB jk jn jt jks jis.length hk' hn ht hks his.length = true → jis.length = his.length := fun h => by unfold sameB at h; exact (of_decide_eq_true h).2.2.2.2
          have SX := Lib.hid hsx.2.2.2
          have SY := Lib.hid hsy.2.2.2
          have HQ := Lib.hid hq
          have HLN := Lib.hid hlen
          have HTK := Lib.hid hTk
          have HIX := Lib.hid hix
          have HIY := Lib.hid hiy
          have OWN2 := Lib.hid hown
          have ST2 := Lib.hid hst
          have K2 := Lib.hid hk
          have BW2 := Lib.hid hbw
          have HPB := Lib.hid hpb
          have HPO := Lib.hid hpo
          have HND := Lib.hid hnd
          have hpbl : wo.heap.size < wr.heap.size := (Array.getElem?_eq_some_iff.1 hpb).1
          have hRl := muP_len ps
          generalize hsb : sameB jk jn jt jks jis.length hk' hn ht hks his.length = sb at *
          generalize hR : ps.length = R at *
          have HR := Lib.hid hR
          have q4 : (0 : Int) ≤ (k : Int) := by omega
          have q5 : (k : Int) < (L : Int) := by omega
          have hzz : ((wr.alloc (.cells #[.int .i64 jk, .int .i64 jn, .string (S jt), .slice ja1 jks.length jc1, .slice ia1 jis.length ic1] 25)).alloc (.cells #[.int .i64 hk', .int .i64 hn, .string (S ht), .slice ha1 hks.length hc1, .slice ga1 his.length gc1] 25)).heap.size = wr.heap.size + 1 + 1 := by simp
          have HZZ := Lib.hid hzz
          have HX2 := Lib.hid ((al_lt (.cells #[.int .i64 hk', .int .i64 hn, .string (S ht), .slice ha1 hks.length hc1, .slice ga1 his.length gc1] 25) (by simp)).trans (al_at (w := wr) (.cells #[.int .i64 jk, .int .i64 jn, .string (S jt), .slice ja1 jks.length jc1, .slice ia1 jis.length ic1] 25) rfl))
          have HY2 := Lib.hid (al_at (w := wr.alloc (.cells #[.int .i64 jk, .int .i64 jn, .string (S jt), .slice ja1 jks.length jc1, .slice ia1 jis.length ic1] 25)) (.cells #[.int .i64 hk', .int .i64 hn, .string (S ht), .slice ha1 hks.length hc1, .slice ga1 his.length gc1] 25) (i := wr.heap.size + 1) (by simp))
          clear hsx hsy hdx hdy hTk hnd cEx hq hlen hix hiy hown hst hk hbw hpb hpo hkx hky x0 x1 x2 x3 x4 y0 y1 y2 y3 y4 hxe hye hitx hity hI hGx hGy hR hzz hsb
          go_wp2_with fail
          refine cAx.out.mono ?_
          rintro e w4 ⟨rfl, k4⟩
          have K4 := Lib.hid k4
          have KW := Lib.hid (((K2.out.alloc _).alloc _).trans k4)
          clear u0 u1 u2 u3 u4 v0 v1 v2 v3 v4 p1 p2 cAx
          cases sb
          · have hnT : ¬ T := fun h => by
              have := (HTK.out.1 h).2
              rw [List.cons.injEq] at this
              have := (HQ.out.1 this.1).1
              exact absurd this (by decide)
            have HNT := Lib.hid hnT
            clear hnT k4
            go_wp2
            go_ret
            exact ⟨false, rfl, ⟨fun h => absurd h (by decide), fun h => absurd h HNT.out⟩, KW.out⟩
          · have r4 := (cells5 ((k4.block wr.heap.size (by rw [HZZ.out]; omega)).trans HX2.out)).1.2.2.2.2
            have s4 := (cells5 ((k4.block (wr.heap.size + 1) (by rw [HZZ.out]; omega)).trans HY2.out)).1.2.2.2.2
            have hz4 : wr.heap.size + 1 + 1 ≤ w4.heap.size := by have := k4.size; rw [HZZ.out] at this; exact this
            have hown4 : w4.ownsRow B 58 2 (.slice ra R rc) R zs := own_block ((OWN2.out.alloc _).alloc _) (fun i hi => k4.block i (own_lt ((OWN2.out.alloc _).alloc _) hi))
            have OWN4 := Lib.hid hown4
            have hw4 : w4.heap[wo.heap.size]? = some (.cells #[.slice (some ⟨gx, ox, none⟩) L uc, .slice (some ⟨gy, oy, none⟩) L vc] 58 (0, 0)) := (k4.block _ (by rw [HZZ.out]; omega)).trans ((al_lt _ (by simp; omega)).trans ((al_lt _ hpbl).trans HPB.out))
            have HW4 := Lib.hid hw4
            have hb4 : Below B W w4 := ((BW2.out.alloc hBx _).alloc (by simp; omega) _).trans (k4.mono (by rw [HZZ.out]; omega))
            have HB4 := Lib.hid hb4
            have hR6 : R ≤ 1000000 := by omega
            have hBz4 : B ≤ w4.heap.size := by omega
            clear hown4 hw4 hb4 k4
            go_wp2_with (at_builtin; refine wpList_append_lies _ rfl _ _ _ rfl B 58 i0 _ 2 48 Tryd.underlying59 hi0 hz0 hz1 hz2 rfl (by omega) (.slice ra R rc) R zs rfl (OWN4.out.alloc _) ⟨w4.heap.size, 0, none⟩ 1 1 [.slice ia1 jis.length ic1, .slice ga1 his.length gc1] rfl rfl (World.news_of_block (cs := #[.slice ia1 jis.length ic1, .slice ga1 his.length gc1]) (t := 58) (fr := (0, 0)) (al_at _ rfl)) (by simp [Value.oneCell']) (by omega) (by unfold maxLen; omega) (by omega) (by simp; omega) _ rfl ?_; intro gg cg w5 hown5 hgrow hat hlt5)
            cases gk with
            | zero => omega
            | succ g2 =>
              go_roundg g2
              case measure => omega
              case rel =>
                have hBz5 := hgrow.size
                simp at hBz5
                have hne : ∀ j, (Value.slice ra R rc).ownBlock = some j → B ≤ j := own_from OWN4.out
                refine ⟨k + 1, ps ++ [(jis, his)], by go_num, by omega, by omega, by rw [muP_snoc]; have := HND.out; simp only; omega, Lib.hid ⟨⟨(KW.out.alloc _).grow hgrow (fun j hj => Nat.le_trans hB (hne j hj)), (HB4.out.alloc hBz4 _).grown hgrow (by simp; omega) hne, by omega, ⟨_, by rw [List.length_append, List.length_singleton, HR.out]; exact hown5, PStk.snoc HIX.out HIY.out ⟨HLN.out (by trivial), SX.out, SY.out⟩ _ _ ST2.out⟩, ?_⟩, ?_, ?_⟩⟩
                · rw [HTK.out, AllEq.snoc, List.cons.injEq, HQ.out]
                  exact ⟨fun h => ⟨⟨h.1, h.2.1.2⟩, h.2.2⟩, fun h => ⟨h.1.1, ⟨by trivial, h.1.2⟩, h.2⟩⟩
                · exact (hgrow.block _ (by simp; omega) (fun e => HPO.out e.symm)).trans ((al_lt _ (by omega)).trans HW4.out)
                · intro e
                  have e : gg = wo.heap.size := Option.some.inj e
                  rcases hat with h | h
                  · exact HPO.out (by rw [h, e])
                  · simp at h; omega
        · have hkk : k = L := by omega
          have hTT : T ↔ AllEq ps := by
            rw [hkk, List.drop_eq_nil_of_le (by rw [HL.out]; exact Nat.le_refl _), List.drop_eq_nil_of_le (by rw [← HG1.out]; exact Nat.le_refl _)] at hTk
            exact hTk.trans ⟨fun h => h.1, fun h => ⟨h, rfl⟩⟩
          have A1 := Lib.hid (show SamAt T w W G B ps _ wr from ⟨hk, hbw, hBx, ⟨zs, hown, hst⟩, hTT⟩)
          have hmm : muP ps < g0 := by omega
          clear hkk hk hbw hown hst hTk hpb hpo hTT hI
          go_wp2
          go_roundg g0
          case measure => omega
          case rel => exact ⟨ps, hmm, by omega, A1⟩
end Go.Proofs.YtljkeladdplhlaaDoor
