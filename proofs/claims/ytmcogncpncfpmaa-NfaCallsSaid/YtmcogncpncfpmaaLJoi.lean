/-
  The walk of the statement that a step of lists together is the union of their steps.
-/
import Derived.Test.YtmcogncpncfpmaaLiv
import Derived.Test.YtmcogncpncfpmaaJoi
namespace Go.Proofs.Ytmcogncpncfpmaa
open Go.RowKit

theorem IntsAt.own2 {w : World} {B : Nat} {v : Value} {zs : List Int} (h : w.ownsRow B 3 1 v zs.length (ivals zs)) : ∃ A c, v = .slice A zs.length c ∧ IntsAt w A zs ∧ (zs = [] ∨ A ≠ none) ∧ ∀ ad, A = some ad → B ≤ ad.block ∧ ad.block < w.heap.size := by
  obtain ⟨A, c, rfl, h1, h2⟩ := IntsAt.own h
  refine ⟨A, c, rfl, h1, h2, fun ad e => ?_⟩
  subst e
  exact h.lt ad.block rfl
theorem IntsAt.grown {w w' : World} {A : Option Addr} {zs : List Int} {R : Nat} (h : IntsAt w A zs) (hg : w.grownBy w' (some R)) (hne : ∀ ad, A = some ad → ad.block ≠ R) : IntsAt w' A zs := fun j hj => by
  obtain ⟨ad, e, hc⟩ := h j hj
  refine ⟨ad, e, hg.cell hc ?_⟩
  have hb : (ad.add j).block = ad.block := by unfold Addr.add; split <;> rfl
  rw [hb]
  intro e2
  exact hne ad e (by simpa using e2)
theorem Keeps.grownR {a b c : World} {R : Nat} (h : Keeps a b) (hg : b.grownBy c (some R)) (hR : a.heap.size ≤ R) : Keeps a c := Below.grown h hg (Below.size h) (fun k e => by cases e; exact hR)

def GoodNew (s : ByteArray) (fo : Bool) (N : List UInt8) : Prop := ∀ w1 : World, Calls Try.prog 7 #[.string s, .bool fo] w1 (fun e w' => ∃ P, w1.heap.size ≤ P ∧ e = .returned (.tuple #[.pointer (some ⟨P, 0, none⟩), .int .i64 0]) ∧ NfaAt w' P N fo ∧ Keeps w1 w')
def BadNew (s : ByteArray) (fo : Bool) (x : Int) : Prop := ∀ w1 : World, Calls Try.prog 7 #[.string s, .bool fo] w1 (fun e w' => e = .returned (.tuple #[.pointer none, .int .i64 x]) ∧ Keeps w1 w')
theorem new_cases (s : ByteArray) (fo : Bool) (hs : s.size ≤ maxLen) : (∃ x, x ≠ 0 ∧ BadNew s fo x) ∨ (GoodNew s fo (normL s.data.toList) ∧ (normL s.data.toList).length ≤ 255) := by
  have hl : s.data.toList.length = s.size := by simp
  by_cases h : checkI s.data.toList = 0
  · refine .inr ⟨fun w1 => (new_any s fo w1 hs).mono ?_, ?_⟩
    · rintro e w' (⟨h', _⟩ | ⟨_, h'⟩)
      · exact absurd h h'
      · exact h'
    · have := normL_len s.data.toList
      unfold checkI at h
      split at h
      · cases h
      · split at h
        · cases h
        · omega
  · refine .inl ⟨_, h, fun w1 => (new_any s fo w1 hs).mono ?_⟩
    rintro e w' (⟨_, h1, h2⟩ | ⟨h', _⟩)
    · exact ⟨h1, h2⟩
    · exact absurd h' h

set_option maxHeartbeats 1000000 in
theorem join_bad (s : ByteArray) (fo : Bool) (A B : Option Addr) (ca cb n m : Nat) (c : Int) (w : World) (x : Int) (hx : x ≠ 0) (hb : BadNew s fo x) (g1 : s.size ≤ 300) (g2 : n ≤ 200) (g3 : m ≤ 200) :
    Calls Try.prog 5 #[.string s, .bool fo, .slice A n ca, .slice B m cb, .int .u8 c] w (RetQ true w) := by
  have cL := Lib.hid (fun w => lives_any w)
  have cN := Lib.hid hb
  clear hb
  unfold BadNew at cN
  go_enter Try.func5, Try.ntmps5
  go_wp2_with fail
  refine (cL.out _).mono ?_
  rintro e w2 ⟨rfl, h⟩
  go_wp2_with fail
  refine (cN.out _).mono ?_
  rintro e w3 ⟨rfl, h3⟩
  have hk := Keeps.trans h h3
  clear h h3
  go_wp2
  go_ret
  exact RetQ.of rfl hk

set_option maxHeartbeats 1000000 in
theorem join_big (s : ByteArray) (fo : Bool) (A B : Option Addr) (ca cb n m : Nat) (c : Int) (w : World) (hs : s.size ≤ maxLen) (hl : n ≤ maxLen) (hm : m ≤ maxLen) (g : 300 < s.size ∨ (s.size ≤ 300 ∧ 200 < n) ∨ (s.size ≤ 300 ∧ n ≤ 200 ∧ 200 < m)) :
    Calls Try.prog 5 #[.string s, .bool fo, .slice A n ca, .slice B m cb, .int .u8 c] w (RetQ true w) := by
  have cL := Lib.hid (fun w => lives_any w)
  unfold maxLen at hs hl hm
  rcases g with g | ⟨g, g'⟩ | ⟨g, g', g''⟩
  all_goals
    go_enter Try.func5, Try.ntmps5
    go_wp2_with fail
    refine (cL.out _).mono ?_
    rintro e w2 ⟨rfl, h⟩
    go_wp2
    go_ret
    exact RetQ.of rfl h

theorem wpList_app_g {P : Program} {w w' : World} {ops : Array Oper} {rest : List Oper} {o : Oper} {a : Act} {Q : Exit → Act → World → Prop} (hw : Region.wanted o (yielded ops a.tmps) = true) (s x : Operand) (t : TypeId)
    (ho : o.op = .call { callee := .builtin .append, args := #[s, x], argTypes := #[t, t] }) (v y v' : Value) (hs : a.eval s = v) (hx : a.eval x = y) (hr : (Builtin.append_ #[t, t] o.type #[v, y]).run P w = .ok v' w')
    (h : wpList P ops Q rest (a.put o.dst v') w') : wpList P ops Q (o :: rest) a w := by
  refine BigFrame.wpList_want hw fun K hK => ?_
  unfold Oper.wp execOp
  simp only [ho, resolve, invoke, builtin, Sem.run_bind, Sem.run_pure, Result.andThen_ok, List.map_toArray, List.map_cons, List.map_nil, hs, hx, hr]
  exact hK _ _ h

theorem NfaAt.grown {w w' : World} {P R : Nat} {N : List UInt8} {fo : Bool} (h : NfaAt w P N fo) (hg : w.grownBy w' (some R)) (hP : P ≠ R) : NfaAt w' P N fo :=
  ⟨hg.cell h.c0 (by simp; exact hP), hg.cell h.c1 (by simp; exact hP), hg.cell h.c2 (by simp; exact hP), hg.cell h.c3 (by simp; exact hP)⟩

set_option maxRecDepth 100000 in
set_option maxHeartbeats 1000000 in
theorem join_good (s : ByteArray) (fo : Bool) (A B : Option Addr) (ca cb : Nat) (ls ms : List Int) (c : UInt8) (w : World) (N : List UInt8) (hNew : GoodNew s fo N) (hN : N.length ≤ 255) (g1 : s.size ≤ 300) (g2 : ls.length ≤ 200) (g3 : ms.length ≤ 200)
    (h1 : IntsAt w A ls) (h2 : IntsAt w B ms) (n1 : ls = [] ∨ A ≠ none) (n2 : ms = [] ∨ B ≠ none) :
    Calls Try.prog 5 #[.string s, .bool fo, .slice A ls.length ca, .slice B ms.length cb, .int .u8 c.toNat] w (RetQ true w) := by
  have cL := Lib.hid (fun w => lives_any w)
  have cN := Lib.hid hNew
  unfold GoodNew at cN
  have H1 := Lib.hid h1
  have H2 := Lib.hid h2
  have HN := Lib.hid hN
  clear h1 h2 hNew
  go_enter Try.func5, Try.ntmps5
  go_wp2_with fail
  refine (cL.out _).mono ?_
  rintro e w2 ⟨rfl, k2⟩
  go_wp2_with fail
  refine (cN.out _).mono ?_
  rintro e w3 ⟨P, hP, rfl, hA, k3⟩
  have HA3 := Lib.hid hA
  have K3 := Lib.hid (Keeps.trans k2 k3)
  clear k2 k3 hA hP
  have cT := Lib.hid (fun A cp zs w1 h1 h2 h3 => Step_any P N fo A cp zs c w1 (by omega) h1 h2 h3)
  have cA := Lib.hid (fun A cp zs w1 h1 h2 h3 => Accepts_any P N fo A cp zs w1 (by omega) h1 h2 h3)
  have cQ := Lib.hid (fun w1 h1 => states_any P N fo w1 (by omega) h1)
  have cO := Lib.hid (fun A c zs w1 h1 h2 h3 => own_any A c zs w1 h1 h2 h3)
  have LA : Hid ((zl (stepZ N fo ls c)).length ≤ 256) := Lib.hid (by rw [zl_len]; exact Nat.le_trans (lstN_len _ _) (by omega))
  have LB : Hid ((zl (stepZ N fo ms c)).length ≤ 256) := Lib.hid (by rw [zl_len]; exact Nat.le_trans (lstN_len _ _) (by omega))
  have LC : Hid ((zl (stepZ N fo (ms ++ ls) c)).length ≤ 256) := Lib.hid (by rw [zl_len]; exact Nat.le_trans (lstN_len _ _) (by omega))
  clear hN
  go_wp2_with fail
  refine (cT.out A ca ls _ HA3.out (H1.out.keeps K3.out) (by omega)).mono ?_
  rintro e w4 ⟨⟨v, rfl, ho⟩, k4⟩
  obtain ⟨Aa, caa, rfl, ia, na, _⟩ := IntsAt.own2 ho
  have IA := Lib.hid ia
  have HA4 := Lib.hid (HA3.out.keeps k4)
  have K4 := Lib.hid (Keeps.trans K3.out k4)
  clear ho ia k4 HA3 K3
  go_wp2_with fail
  refine (cT.out B cb ms _ HA4.out (H2.out.keeps K4.out) (by omega)).mono ?_
  rintro e w5 ⟨⟨v, rfl, ho⟩, k5⟩
  obtain ⟨Ab, cab, rfl, ib, nb, _⟩ := IntsAt.own2 ho
  have IB := Lib.hid ib
  have IA5 := Lib.hid (IA.out.keeps k5)
  have HA5 := Lib.hid (HA4.out.keeps k5)
  have K5 := Lib.hid (Keeps.trans K4.out k5)
  clear ho ib k5 HA4 K4 IA
  go_wp2_with fail
  refine (cO.out B cb ms _ (H2.out.keeps K5.out) n2 (by omega)).mono ?_
  rintro e w6 ⟨⟨v, rfl, ho⟩, k6⟩
  obtain ⟨Ao, cao, rfl, _, _, _⟩ := IntsAt.own2 ho
  have K6 := Lib.hid (Keeps.trans K5.out k6)
  obtain ⟨q, hq⟩ : ∃ q, q = ms ++ ls := ⟨_, rfl⟩
  obtain ⟨v7, w7, hrun7, ho7, hg7⟩ := app_ints w5.heap.size w6 _ ms ls A ca ho (H1.out.keeps K6.out) n1 (by omega) k6.size
  rw [← hq] at ho7
  have lq : q.length ≤ 400 := by rw [hq, List.length_append]; omega
  rw [← hq] at LC
  have HQ := Lib.hid hq
  clear hq
  have k57 : Keeps w5 w7 := Below.grown k6 hg7 k6.size (fun k e => (ho.lt k e).1)
  obtain ⟨A7, c7, rfl, i7, n7, _⟩ := IntsAt.own2 ho7
  have I7 := Lib.hid i7
  have HA7 := Lib.hid (HA5.out.keeps k57)
  have IA7 := Lib.hid (IA5.out.keeps k57)
  have IB7 := Lib.hid (IB.out.keeps k57)
  have K7 := Lib.hid (Keeps.trans K5.out k57)
  clear ho k6 ho7 hg7 k57 i7 HA5 IA5 IB K5 K6
  go_wp2_with (at_builtin; refine wpList_app rfl _ _ 31 rfl _ _ _ rfl rfl hrun7 ?_)
  clear hrun7
  go_wp2_with fail
  refine (cT.out A7 c7 q _ HA7.out I7.out (by omega)).mono ?_
  rintro e w8 ⟨⟨v, rfl, ho⟩, k8⟩
  obtain ⟨A8, c8, rfl, i8, n8, b8⟩ := IntsAt.own2 ho
  have I8 := Lib.hid i8
  have B8 := Lib.hid (fun ad e => (b8 ad e).2)
  have HA8 := Lib.hid (HA7.out.keeps k8)
  have IA8 := Lib.hid (IA7.out.keeps k8)
  have IB8 := Lib.hid (IB7.out.keeps k8)
  have K8 := Lib.hid (Keeps.trans K7.out k8)
  clear ho i8 k8 HA7 IA7 IB7 K7 b8 I7
  obtain ⟨W1, hmk, hrow, hk1⟩ := make_set 44 Try.underlying44 w8 (N.length + 1) (by have := HN.out; omega)
  have hmk' := hmk ((N.length : Int) + 1) (by omega)
  clear hmk
  have HR := Lib.hid hrow
  have hRl := hrow.lt (by omega)
  have HA9 := Lib.hid (HA8.out.keeps hk1)
  have IA9 := Lib.hid (IA8.out.keeps hk1)
  have IB9 := Lib.hid (IB8.out.keeps hk1)
  have I89 := Lib.hid (I8.out.keeps hk1)
  have K9 := Lib.hid (Keeps.trans K8.out hk1)
  clear hrow hk1
  go_wp2_with fail
  refine (cQ.out _ HA8.out).mono ?_
  rintro e w9 ⟨rfl, rfl⟩
  have F1 : Hid (∀ x ∈ stepZ N fo ls c ++ stepZ N fo ms c, x < N.length + 1) := Lib.hid (fun x hx => by
    rcases List.mem_append.1 hx with h | h
    · exact stepZ_lt N fo _ c x h
    · exact stepZ_lt N fo _ c x h)
  have F2 : Hid (cntN (N.length + 1) (stepZ N fo ls c ++ stepZ N fo ms c) = (stepZ N fo q c).length) := Lib.hid (by rw [HQ.out]; exact join_cnt N fo ls ms c)
  have F3 : Hid (∀ x ∈ stepZ N fo q c, x < N.length + 1 ∧ memN (stepZ N fo ls c ++ stepZ N fo ms c) x = true) := Lib.hid (fun x hx => ⟨stepZ_lt N fo _ c x hx, join_in N fo ls ms c x (by rw [← HQ.out]; exact hx)⟩)
  generalize stepZ N fo ls c = la at *
  generalize stepZ N fo ms c = lb at *
  generalize stepZ N fo q c = lc at *
  have HW9 := Lib.hid K8.out.size
  have HP9 := Lib.hid HA8.out.lt
  clear HA8 IA8 IB8 I8 K8
  go_wp2_with fail
  refine (cO.out Aa caa (zl la) _ IA9.out na (Nat.le_trans LA.out (by omega))).mono ?_
  rintro e w10 ⟨⟨v, rfl, ho⟩, k10⟩
  obtain ⟨A10, c10, rfl, _, _, _⟩ := IntsAt.own2 ho
  obtain ⟨ll, hll⟩ : ∃ ll, ll = la ++ lb := ⟨_, rfl⟩
  obtain ⟨v11, w11, hrun11, ho11, hg11⟩ := app_ints W1.heap.size w10 _ (zl la) (zl lb) Ab cab ho (IB9.out.keeps k10) nb (by have := LA.out; have := LB.out; omega) k10.size
  have k911 : Keeps W1 w11 := Below.grown k10 hg11 k10.size (fun k e => (ho.lt k e).1)
  have ezl : zl la ++ zl lb = zl ll := by rw [hll, zl_app]
  rw [ezl] at ho11
  rw [← hll] at F1 F2 F3
  have LL : (zl ll).length ≤ 512 := by rw [← ezl, List.length_append]; have := LA.out; have := LB.out; omega
  obtain ⟨A11, c11, rfl, i11, _, b11⟩ := IntsAt.own2 ho11
  have I11 := Lib.hid i11
  have B11 := Lib.hid (fun ad e => (b11 ad e).1)
  have HA11 := Lib.hid (HA9.out.keeps k911)
  have I8_11 := Lib.hid (I89.out.keeps k911)
  have R11 := Lib.hid (HR.out.below k911 hRl)
  have K11 := Lib.hid (Keeps.trans K9.out k911)
  clear ho k10 ho11 hg11 k911 i11 b11 HA9 IA9 IB9 I89 K9 HR hmk' ezl hll
  go_wp2_with (at_builtin; refine wpList_app rfl _ _ 31 rfl _ _ _ rfl rfl hrun11 ?_)
  clear hrun11
  have ML := Lib.hid (zl_len ll)
  have TS := Lib.hid (fun k hk => take_snocN ll k hk)
  have ZG := Lib.hid (fun k hk => zl_getD ll k hk)
  have MM := Lib.hid (fun k hk => getD_memN ll k hk)
  have CO := Lib.hid (fun k x => cntN_old (N.length + 1) (ll.take k) x)
  have CN := Lib.hid (fun k x => cntN_new (N.length + 1) (ll.take k) x)
  have MO := Lib.hid (fun k x => memN_old (ll.take k) x)
  have MS := Lib.hid (fun k x => memN_snoc (ll.take k) x)
  have CL := Lib.hid (fun k => cntN_le (N.length + 1) (ll.take k))
  have T0 : Hid (cntN (N.length + 1) (ll.take 0) = 0 ∧ memN (ll.take 0) = fun _ => false) := Lib.hid ⟨by rw [List.take_zero]; exact cntN_nil _, by rw [List.take_zero]; exact memN_nil⟩
  have TE : Hid (ll.take (zl ll).length = ll) := Lib.hid (by rw [zl_len, List.take_length])
  have HNN := HN.out
  go_loopw [17, 19] (fun v i wr => ∃ k : Nat, k ≤ (zl ll).length ∧ i = .int .i64 k ∧ v = .int .i64 (cntN (N.length + 1) (ll.take k)) ∧ RowB wr w9.heap.size (N.length + 1) (memN (ll.take k)) ∧ w11.grownBy wr (some w9.heap.size)) (fun _ i _ => (zl ll).length - (intOf i).toNat)
  case atStart => exact ⟨0, Nat.zero_le _, rfl, by rw [T0.out.1]; rfl, by rw [T0.out.2]; exact R11.out, grow_refl _ _⟩
  case round =>
    obtain ⟨k, hk, rfl, rfl, hrow, hg⟩ := hrel
    have HW := Lib.hid hrow
    have HG := Lib.hid hg
    clear hrow hg
    by_cases hlt : k < (zl ll).length
    · have hkl : k < ll.length := by rw [← ML.out]; exact hlt
      obtain ⟨ad, rfl, c1⟩ := (I11.out.grown HG.out (fun ad e => by have := B11.out ad e; omega)) k hlt
      rw [ZG.out k hkl] at c1
      have hx := F1.out _ (MM.out k hkl)
      have ts := Lib.hid (TS.out k hkl)
      have cl := CL.out k
      generalize ll.getD k 0 = x at c1 hx ts
      have r1 := (HW.out x hx).1
      have r2 := (HW.out x hx).2
      have co := Lib.hid (CO.out k x)
      have cn := Lib.hid (CN.out k x)
      have mo := Lib.hid (MO.out k x)
      have ms' := Lib.hid (MS.out k x)
      generalize memN (ll.take k) x = b at r1 co cn mo
      have KLT := Lib.hid hkl
      clear hkl
      cases b
      · go_wp2
        go_roundw
        case rel => exact ⟨k + 1, by omega, by go_num, by rw [ts.out, cn.out rfl hx]; go_num, by rw [ts.out, ms'.out]; exact HW.out.set hx, grow_set HG.out _ _⟩
        case measure => simp [intOf]; omega
      · go_wp2
        go_roundw
        case rel => exact ⟨k + 1, by omega, by go_num, by rw [ts.out, co.out rfl], by rw [ts.out, mo.out rfl]; exact HW.out, HG.out⟩
        case measure => simp [intOf]; omega
    · obtain rfl : k = (zl ll).length := by omega
      rw [TE.out] at HW
      rw [TE.out, F2.out]
      have K12 := Lib.hid (Keeps.grownR K11.out HG.out HW9.out)
      have I8w := Lib.hid (I8_11.out.grown HG.out (fun ad e => by have := B8.out ad e; omega))
      have HA12 := Lib.hid (HA11.out.grown HG.out (by have := HP9.out; omega))
      have ML8 := Lib.hid (zl_len lc)
      have ZG8 := Lib.hid (fun k hk => zl_getD lc k hk)
      have MM8 := Lib.hid (fun k hk => getD_memN lc k hk)
      rw [← ML8.out]
      have LC' := LC.out
      clear HG I8_11 HA11 K11
      go_wp2
      go_loopw [20] (fun i wq => ∃ k : Nat, k ≤ (zl lc).length ∧ i = .int .i64 k ∧ wq = wr) (fun i _ => (zl lc).length - (intOf i).toNat)
      case atStart => exact ⟨0, Nat.zero_le _, rfl, rfl⟩
      case round =>
        obtain ⟨k, hk, rfl, rfl⟩ := hrel
        by_cases hlt2 : k < (zl lc).length
        · have hkl : k < lc.length := by rw [← ML8.out]; exact hlt2
          obtain ⟨ad, rfl, c1⟩ := I8w.out k hlt2
          rw [ZG8.out k hkl] at c1
          obtain ⟨hx, hm⟩ := F3.out _ (MM8.out k hkl)
          generalize lc.getD k 0 = x at c1 hx hm
          have r1 := (HW.out x hx).1
          rw [hm] at r1
          clear hm hkl
          go_wp2
          go_roundw
          case rel => exact ⟨k + 1, by omega, by go_num, trivial⟩
          case measure => simp [intOf]; omega
        · obtain rfl : k = (zl lc).length := by omega
          have LSM : ls.length + ms.length ≤ 400 := by omega
          have HA1 := Lib.hid (H1.out.keeps K12.out)
          have HB1 := Lib.hid (H2.out.keeps K12.out)
          clear I8w HW
          go_wp2_with fail
          refine (cO.out A ca ls _ HA1.out n1 (by omega)).mono ?_
          rintro e w13 ⟨⟨v, rfl, ho⟩, k13⟩
          obtain ⟨A13, c13, rfl, _, _, _⟩ := IntsAt.own2 ho
          obtain ⟨q2, hq2⟩ : ∃ q2, q2 = ls ++ ms := ⟨_, rfl⟩
          obtain ⟨v14, w14, hrun14, ho14, hg14⟩ := app_ints wr.heap.size w13 _ ls ms B cb ho (HB1.out.keeps k13) n2 (by omega) k13.size
          rw [← hq2] at ho14
          have lq2 : q2.length ≤ 400 := by rw [hq2, List.length_append]; omega
          have e2 : memZ q2 N.length = (memZ ls N.length || memZ ms N.length) := by rw [hq2, memZ_app]
          have k14 : Keeps wr w14 := Below.grown k13 hg14 k13.size (fun k e => (ho.lt k e).1)
          obtain ⟨A14, c14, rfl, i14, _, _⟩ := IntsAt.own2 ho14
          have I14 := Lib.hid i14
          have HA14 := Lib.hid (HA12.out.keeps k14)
          have K14 := Lib.hid (Keeps.trans K12.out k14)
          have HAa := Lib.hid (HA1.out.keeps k14)
          have HBb := Lib.hid (HB1.out.keeps k14)
          clear ho k13 ho14 hg14 k14 i14 HA12 K12 HA1 HB1 hq2
          have cA1 := Lib.hid (cA.out A14 c14 q2 _ HA14.out I14.out (by omega))
          have cA2 : Hid (∀ w1, Keeps w14 w1 → Calls Try.prog 14 #[.pointer (some ⟨P, 0, none⟩), .slice A ls.length ca] w1 (RetQ (memZ ls N.length) w1)) := Lib.hid (fun w1 hk => cA.out A ca ls w1 (HA14.out.keeps hk) (HAa.out.keeps hk) (by omega))
          have cA3 : Hid (∀ w1, Keeps w14 w1 → Calls Try.prog 14 #[.pointer (some ⟨P, 0, none⟩), .slice B ms.length cb] w1 (RetQ (memZ ms N.length) w1)) := Lib.hid (fun w1 hk => cA.out B cb ms w1 (HA14.out.keeps hk) (HBb.out.keeps hk) (by omega))
          rw [e2] at cA1
          clear e2
          generalize memZ ls N.length = qa at cA1 cA2
          generalize memZ ms N.length = qb at cA1 cA3
          cases qa
          · go_wp2_with (at_builtin; refine wpList_app_g (by rfl) _ _ 31 rfl _ _ _ rfl rfl hrun14 ?_)
            clear hrun14
            go_wp2_with fail
            refine cA1.out.mono ?_
            rintro e w15 ⟨rfl, k15⟩
            have K15 := Lib.hid (Keeps.trans K14.out k15)
            have k15' := Lib.hid k15
            clear k15
            go_wp2_with fail
            refine (cA2.out _ k15'.out).mono ?_
            rintro e w16 ⟨rfl, k16⟩
            have K16 := Lib.hid (Keeps.trans K15.out k16)
            have k16' := Lib.hid (Keeps.trans k15'.out k16)
            clear k16
            go_wp2_with fail
            refine (cA3.out _ k16'.out).mono ?_
            rintro e w17 ⟨rfl, k17⟩
            have K17 := Keeps.trans K16.out k17
            clear k17
            cases qb
            · go_wp2
              go_ret
              exact RetQ.of (by simp) K17
            · go_wp2
              go_ret
              exact RetQ.of (by simp) K17
          · go_wp2_with (at_builtin; refine wpList_app_g (by rfl) _ _ 31 rfl _ _ _ rfl rfl hrun14 ?_)
            clear hrun14
            go_wp2_with fail
            refine cA1.out.mono ?_
            rintro e w15 ⟨rfl, k15⟩
            have K15 := Lib.hid (Keeps.trans K14.out k15)
            have k15' := Lib.hid k15
            clear k15
            go_wp2_with fail
            refine (cA2.out _ k15'.out).mono ?_
            rintro e w16 ⟨rfl, k16⟩
            have K16 := Keeps.trans K15.out k16
            clear k16
            go_wp2
            go_ret
            exact RetQ.of (by simp) K16
end Go.Proofs.Ytmcogncpncfpmaa
