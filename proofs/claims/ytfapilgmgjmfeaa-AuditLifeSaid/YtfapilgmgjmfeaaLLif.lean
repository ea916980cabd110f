/-
  The law AuditLife, walked.
-/
import Derived.Test.YtfapilgmgjmfeaaAlp
import Derived.Test.YtfapilgmgjmfeaaLiv
namespace Go.Proofs.Ytfapilgmgjmfeaa
open Go.RowKit

theorem lightNs_len {l : List Nt} (h : lightNs l 60 = true) : l.length ≤ 60 := by
  unfold lightNs at h
  simp only [Bool.and_eq_true, decide_eq_true_eq] at h
  omega
/-- What the loop of the law leaves. -/
def LoopI (w : World) (me ms : Nat) (lv : List Nt) (k : Nat) (o : Int) (wr : World) : Prop :=
  Keeps w wr ∧ ∃ fe fs N M, N ≤ k ∧ M ≤ k ∧ IsMapI intE wr me N fe ∧ IsMapI intE wr ms M fs ∧ Inv (lv.take k) (readF Rdg.zero (lv.take k)) fe fs o ∧ lifeF (readF Rdg.zero (lv.take k)) (lv.drop k) k = none
theorem readF_take (l : List Nt) (k : Nat) (h : k < l.length) : readF Rdg.zero (l.take (k + 1)) = (takesR (readF Rdg.zero (l.take k)) (l[k]'h)).2 := by
  rw [List.take_succ_eq_append_getElem h, readF_app]
  rfl
theorem IsMapI.grown {β : Type} {E : Elem β} {w w' : World} {m n j : Nat} {f : Int → Option β} (h : IsMapI E w m n f) (g : w.grownBy w' (some j)) (hne : m ≠ j) : IsMapI E w' m n f := h.block (g.block m h.lt (by simpa using hne))
theorem NtB.grown {w w' : World} {g j : Nat} {n : Nt} (h : NtB w g n) (k : w.grownBy w' (some j)) (hne : g ≠ j) : NtB w' g n := (k.block g (blk_lt h) (by simpa using hne)).trans h
theorem LoopI.bd {w : World} {me ms : Nat} {lv : List Nt} {k : Nat} {o : Int} {wr : World} (h : LoopI w me ms lv k o wr) : 0 ≤ o ∧ o ≤ (k : Int) := by
  obtain ⟨_, fe, fs, N, M, _, _, _, _, I, _⟩ := h
  obtain ⟨K, _, _, h3, h4⟩ := I.num
  have := List.length_take_le k lv
  omega

set_option maxHeartbeats 2000000 in
theorem life_big (A : Option Addr) (c : Nat) (l : List Nt) (cut : Int) (w : World) (hA : NotesAt w A l) (hm : l.length ≤ maxLen) (hli : lightNs l 60 = false) : Calls Try.prog 3 #[.slice A l.length c, .int .i64 cut] w (Ret (.bool true) w) := by
  have cL := Lib.hid (lives_any w)
  have cN : Hid (∀ wx, Keeps w wx → Calls Try.prog 6 #[.slice A l.length c, .int .i64 60] wx (Ret (.bool false) wx)) := Lib.hid (fun wx k => by have := lightNs_any A c l 60 wx (hA.keeps k) hm; rwa [hli] at this)
  generalize l.length = L at *
  clear hA hm hli
  go_enter Try.func3, Try.ntmps3
  go_wp2_with fail
  refine cL.out.mono ?_
  rintro e w1 ⟨rfl, k1⟩
  go_wp2_with fail
  refine (cN.out _ k1).mono ?_
  rintro e w2 ⟨rfl, k2⟩
  have K2 := Lib.hid (k1.trans k2)
  clear k1 k2
  go_wp2
  go_ret
  exact ⟨rfl, K2.out⟩
set_option maxHeartbeats 16000000 in
set_option maxRecDepth 100000 in
theorem life_none (A : Option Addr) (c : Nat) (l : List Nt) (cut : Int) (k0 : Nat) (w : World) (hA : NotesAt w A l) (hok : ∀ n, n ∈ l → NtOk n) (hcap : l.length ≤ c) (had : ∃ g o s, A = some ⟨g, o, s⟩) (hli : lightNs l 60 = true) (hk0 : cut % ((l.length : Int) + 1) = (k0 : Int)) (hv0 : lifeN l = none) :
    Calls Try.prog 3 #[.slice A l.length c, .int .i64 cut] w (Ret (.bool true) w) := by
  have hlen := lightNs_len hli
  have hk1 : k0 ≤ l.length := by
    have := Int.emod_lt_of_pos cut (show 0 < (l.length : Int) + 1 by omega)
    omega
  have cL := Lib.hid (lives_any w)
  have cN : Hid (∀ wx, Keeps w wx → Calls Try.prog 6 #[.slice A l.length c, .int .i64 60] wx (Ret (.bool true) wx)) := Lib.hid (fun wx k => by have := lightNs_any A c l 60 wx (hA.keeps k) (by unfold maxLen; omega); rwa [hli] at this)
  have cF := Lib.hid (fun wx (k : Keeps w wx) => life_any A c l wx (hA.keeps k) (by omega) hok)
  have htk : (l.take k0).length = k0 := by rw [List.length_take]; omega
  have cG := Lib.hid (fun wx (k : Keeps w wx) => life_any A c (l.take k0) wx (fun i hi => by
    have hi2 : i < l.length := by rw [htk] at hi; omega
    obtain ⟨g, o, h1, h2⟩ := (hA.keeps k) i hi2
    exact ⟨g, o, h1, by simpa using h2⟩) (by omega) (fun n hn => hok n (List.mem_of_mem_take hn)))
  rw [htk] at cG
  have cP : Hid (∀ wx, Calls Try.prog 8 #[.int .i64 cut, .int .i64 ((l.length : Int) + 1)] wx (fun e w' => e = .returned (.int .i64 (k0 : Int)) ∧ w' = wx)) := Lib.hid (fun wx => by have := pick_any cut ((l.length : Int) + 1) wx (by omega) (by omega); rwa [hk0] at this)
  have hmm := @run_makeMap Try.prog
  have hat : lifeI l = -1 := by unfold lifeI; rw [hv0]
  have hfr : lifeI (l.take k0) = -1 := by unfold lifeI lifeN; rw [lifeF_take]; unfold lifeN at hv0; rw [hv0]
  rw [hat] at cF
  rw [hfr] at cG
  have hvalid : lifeF Rdg.zero l 0 = none := hv0
  have hNV := hA
  have hOV := hok
  have hLVn : True := trivial
  clear hat hfr hv0
  obtain ⟨gA, oA, sA, rfl⟩ := had
  have HNA : Hid (NotesAt w (some ⟨gA, oA, sA⟩) l) := Lib.hid hNV
  have HOKV : Hid (∀ n, n ∈ l → NtOk n) := Lib.hid hOV
  have HV := Lib.hid hvalid
  generalize hLL : l.length = L at *
  have HLL := Lib.hid hLL
  have HLV := HLL
  clear hA hok hli hk0 htk hNV hOV hLVn hvalid hLL
  go_enter Try.func3, Try.ntmps3
  go_wp2_with fail
  refine cL.out.mono ?_
  rintro e w1 ⟨rfl, k1⟩
  go_wp2_with fail
  refine (cN.out _ k1).mono ?_
  rintro e w2 ⟨rfl, k2⟩
  have K2 := Lib.hid (k1.trans k2)
  clear k1 k2
  go_wp2_with fail
  refine (cF.out _ K2.out).mono ?_
  rintro e w3 ⟨rfl, k3⟩
  have K3 := Lib.hid (K2.out.trans k3)
  clear k3
  go_wp2_with fail
  refine (cP.out _).mono ?_
  rintro e w4 ⟨rfl, rfl⟩
  go_wp2_with fail
  refine (cG.out _ K3.out).mono ?_
  rintro e w5 ⟨rfl, k5⟩
  have K5 := Lib.hid (K3.out.trans k5)
  clear k5
  go_wp2
  clear hmm
  have HV0 : Hid (LoopI w w5.heap.size (w5.heap.size + 1) l 0 0 ((w5.alloc (.map #[] 0)).alloc (.map #[] 0))) := Lib.hid ⟨(K5.out.alloc _).alloc _, _, _, 0, 0, Nat.le_refl _, Nat.le_refl _, (IsMapI.new intE w5).keeps ((Keeps.refl _).alloc _), (by have := IsMapI.new intE (w5.alloc (.map #[] 0)); rwa [World.size_alloc] at this), by simpa [readF] using Inv.zero, by simpa [readF] using HV.out⟩
  have HW0 : Hid (w.heap.size ≤ w5.heap.size ∧ w.heap.size ≤ w5.heap.size + 1) := Lib.hid (by have := K5.out.size; omega)
  have HMM : Hid (w5.heap.size ≠ w5.heap.size + 1) := Lib.hid (by omega)
  generalize (w5.alloc (.map #[] 0)).alloc (.map #[] 0) = W at *
  generalize hms : w5.heap.size + 1 = ms at *
  generalize w5.heap.size = me at *
  clear hms
  go_loopg [10, 11] (L + 1) (fun g oo i wr => ∃ (k : Nat) (o : Int), oo = .int .i64 o ∧ i = .int .i64 (k : Int) ∧ k ≤ L ∧ L - k < g ∧ Hid (LoopI w me ms l k o wr))
  case atStart => exact ⟨0, 0, rfl, rfl, Nat.zero_le _, by omega, HV0⟩
  case round =>
    obtain ⟨k, o, rfl, rfl, hkn, hkg, hI⟩ := hrel
    have hbd := hI.out.bd
    obtain ⟨ho0, ho1⟩ := hbd
    by_cases hlt : k < L
    · have hlt' : k < (l).length := by rw [HLV.out]; exact hlt
      obtain ⟨hK, fe, fs, N, M, hN, hM, hE, hS, I, hv⟩ := hI.out
      obtain ⟨g, oo, hAe, hc⟩ := (HNA.out.keeps hK) k hlt'
      have hwf := HOKV.out _ (List.getElem_mem hlt')
      have hd := List.drop_eq_getElem_cons hlt'
      have hrt := readF_take _ k hlt'
      have htk : (l).take (k + 1) = (l).take k ++ [(l)[k]'hlt'] := List.take_succ_eq_append_getElem hlt'
      rw [hd, lifeF] at hv
      simp only [Option.some.injEq, Addr.mk.injEq] at hAe
      obtain ⟨rfl, rfl, rfl⟩ := hAe
      obtain ⟨e0, e1, e2, e3, e4, e5, e6, e7, e8⟩ := hc.nine
      generalize (l)[k]'hlt' = nn at *
      have htrue : (takesR (readF Rdg.zero ((l).take k)) nn).1 = true := by
        apply Classical.byContradiction
        intro h
        rw [if_neg h] at hv
        cases hv
      rw [if_pos htrue] at hv
      have hdo := does htrue
      rw [← hrt] at hv hdo
      have HK := Lib.hid hK
      have HTK := Lib.hid htk
      have HVV := Lib.hid hv
      have hme : me < wr.heap.size := hE.lt
      have hms : ms < wr.heap.size := hS.lt
      have hB := NtB.new wr nn
      have hKX := (Keeps.refl wr).alloc (.cells (ntC nn) 31)
      have hEX := hE.keeps hKX
      have hSX := hS.keeps hKX
      have f1 : decide ((k : Int) < (L : Int)) = true := by simp; omega
      have f1' : decide (k < L) = true := by simpa using hlt
      have q1 : (0 : Int) ≤ (k : Int) := by omega
      have q2 : (k : Int) < (L : Int) := by omega
      have hfin : ∀ (fe2 fs2 : Int → Option Int) (N2 M2 : Nat) (o2 : Int) (w3 : World), N2 ≤ k + 1 → M2 ≤ k + 1 → Only [me, ms] wr w3 → IsMapI intE w3 me N2 fe2 → IsMapI intE w3 ms M2 fs2 → Inv ((l).take k ++ [nn]) (readF Rdg.zero ((l).take (k + 1))) fe2 fs2 o2 → LoopI w me ms (l) (k + 1) o2 w3 := fun fe2 fs2 N2 M2 o2 w3 a1 a2 a3 a4 a5 a6 =>
        ⟨HK.out.only a3 (fun i hi => by simp at hi; have := HW0.out; omega), fe2, fs2, N2, M2, a1, a2, a4, a5, by rw [HTK.out]; rw [HTK.out] at a6; exact a6, HVV.out⟩
      have HFIN := Lib.hid hfin
      clear hfin hK htk hv hd hc hrt htrue hE hS hI
      rcases hdo with ⟨hk, ht, er⟩ | ⟨hk, ht, er⟩ | ⟨hk, b, hl, er⟩ | ⟨hk, hl, er⟩ | ⟨hk, b, hl, er⟩ | ⟨hk, hl, er⟩
      · have hlk := (hEX.look Try.underlying27 (z := (0 : Int)) (by kernel_rfl) hwf)
        rw [ht, I.low 0 (by omega)] at hlk
        have hlk2 : (Instr.lookup 27 (.map (some me)) (.int .i64 0) false).run Try.prog (wr.alloc (.cells (ntC nn) 31)) = .ok (.int .i64 0) (wr.alloc (.cells (ntC nn) 31)) := hlk
        have HF2 := Lib.hid (HFIN.out fe fs N M o (wr.alloc (.cells (ntC nn) 31)) (by omega) (by omega) (hKX.toOnly _) (hEX) (hSX) (by rw [er]; exact I.other (by omega) (by unfold isEnd; omega)))
        obtain ⟨nk, t, ⟨ak, ro, s, cc, d⟩, co, x⟩ := nn
        unfold ntC at *
        simp only at *
        subst ht
        clear I hB hKX hEX hSX hlk HFIN HTK hwf er
        rcases hk with rfl | rfl | rfl
        all_goals
          go_wp2
          cases gk with
          | zero => omega
          | succ g2 =>
            go_roundg g2
            case measure => omega
            case rel => exact ⟨k + 1, o, by first | rfl | go_num, by go_num, by omega, by omega, HF2⟩
      · have HF2 := Lib.hid (HFIN.out fe fs N M (o + 1) (wr.alloc (.cells (ntC nn) 31)) (by omega) (by omega) (hKX.toOnly _) (hEX) (hSX) (by rw [er]; exact I.queued hk ht))
        obtain ⟨nk, t, ⟨ak, ro, s, cc, d⟩, co, x⟩ := nn
        unfold ntC at *
        simp only at *
        subst hk
        clear I hB hKX hEX hSX HFIN HTK hwf er ht
        go_wp2
        cases gk with
        | zero => omega
        | succ g2 =>
          go_roundg g2
          case measure => omega
          case rel => exact ⟨k + 1, (o + 1), by first | rfl | go_num, by go_num, by omega, by omega, HF2⟩
      · obtain ⟨k1, k2, k3, k4⟩ := I.live _ _ _ hl
        obtain ⟨w3, hr, hM3, hg3⟩ := hSX.put Try.underlying27 (by unfold maxLen; omega) hwf (1 : Int)
        have hr2 : (Instr.mapUpdate 27 (.map (some ms)) (.int .i64 nn.txn) (.int .i64 1)).run Try.prog (wr.alloc (.cells (ntC nn) 31)) = .ok () w3 := hr
        have hE3 := hEX.grown hg3 (by have := HMM.out; omega)
        have hB3 := hB.grown hg3 (by omega)
        have hlk := (hE3.look Try.underlying27 (z := (0 : Int)) (by kernel_rfl) hwf)
        rw [k1] at hlk
        have hlk2 : (Instr.lookup 27 (.map (some me)) (.int .i64 nn.txn) false).run Try.prog w3 = .ok (.int .i64 0) w3 := hlk
        obtain ⟨y0, y1, y2, y3, y4, y5, y6, y7, y8⟩ := hB3.cells
        have HF2 := Lib.hid (HFIN.out fe _ N (M + 1) o w3 (by omega) (by omega) ((hKX.toOnly _).grown hg3 (fun j hj => .inl (by simp at hj; simp [hj]))) (hE3) (hM3) (by rw [er]; exact I.sent (.inl hk) b true hl))
        obtain ⟨nk, t, ⟨ak, ro, s, cc, d⟩, co, x⟩ := nn
        unfold ntC at *
        simp only at *
        subst hk
        clear I hB hKX hEX hSX HFIN HTK hwf er hr hM3 hg3 hE3 hB3 hlk hl k1 k2
        go_wp2
        cases gk with
        | zero => omega
        | succ g2 =>
          go_roundg g2
          case measure => omega
          case rel => exact ⟨k + 1, o, by first | rfl | go_num, by go_num, by omega, by omega, HF2⟩
      · obtain ⟨k1, k2, k3, k4⟩ := I.live _ _ _ hl
        rw [if_pos rfl] at k2
        have hl0 := (hSX.look Try.underlying27 (z := (0 : Int)) (by kernel_rfl) hwf)
        rw [k2] at hl0
        have hl1 : (Instr.lookup 27 (.map (some ms)) (.int .i64 nn.txn) false).run Try.prog (wr.alloc (.cells (ntC nn) 31)) = .ok (.int .i64 1) (wr.alloc (.cells (ntC nn) 31)) := hl0
        obtain ⟨w3, hr, hM3, hg3⟩ := hSX.put Try.underlying27 (by unfold maxLen; omega) hwf (0 : Int)
        have hr2 : (Instr.mapUpdate 27 (.map (some ms)) (.int .i64 nn.txn) (.int .i64 0)).run Try.prog (wr.alloc (.cells (ntC nn) 31)) = .ok () w3 := hr
        have hE3 := hEX.grown hg3 (by have := HMM.out; omega)
        have hB3 := hB.grown hg3 (by omega)
        have hlk := (hE3.look Try.underlying27 (z := (0 : Int)) (by kernel_rfl) hwf)
        rw [k1] at hlk
        have hlk2 : (Instr.lookup 27 (.map (some me)) (.int .i64 nn.txn) false).run Try.prog w3 = .ok (.int .i64 0) w3 := hlk
        obtain ⟨y0, y1, y2, y3, y4, y5, y6, y7, y8⟩ := hB3.cells
        have HF2 := Lib.hid (HFIN.out fe _ N (M + 1) o w3 (by omega) (by omega) ((hKX.toOnly _).grown hg3 (fun j hj => .inl (by simp at hj; simp [hj]))) (hE3) (hM3) (by rw [er]; exact I.sent (.inr hk) true false hl))
        obtain ⟨nk, t, ⟨ak, ro, s, cc, d⟩, co, x⟩ := nn
        unfold ntC at *
        simp only at *
        subst hk
        clear I hB hKX hEX hSX HFIN HTK hwf er hr hM3 hg3 hE3 hB3 hlk hl k1 k2 hl0
        go_wp2
        cases gk with
        | zero => omega
        | succ g2 =>
          go_roundg g2
          case measure => omega
          case rel => exact ⟨k + 1, o, by first | rfl | go_num, by go_num, by omega, by omega, HF2⟩
      · obtain ⟨k1, k2, k3, k4⟩ := I.live _ _ _ hl
        have ho2 : 1 ≤ o := by
          obtain ⟨K, _, h2, h3, _⟩ := I.num
          have := List.length_pos_of_mem ((h2 nn.txn).2 (by rw [hl]; rfl))
          omega
        have hl0 := (hEX.look Try.underlying27 (z := (0 : Int)) (by kernel_rfl) hwf)
        rw [k1] at hl0
        have hl1 : (Instr.lookup 27 (.map (some me)) (.int .i64 nn.txn) false).run Try.prog (wr.alloc (.cells (ntC nn) 31)) = .ok (.int .i64 0) (wr.alloc (.cells (ntC nn) 31)) := hl0
        obtain ⟨w3, hr, hM3, hg3⟩ := hEX.put Try.underlying27 (by unfold maxLen; omega) hwf (1 : Int)
        have hr2 : (Instr.mapUpdate 27 (.map (some me)) (.int .i64 nn.txn) (.int .i64 1)).run Try.prog (wr.alloc (.cells (ntC nn) 31)) = .ok () w3 := hr
        have hS3 := hSX.grown hg3 (by have := HMM.out; omega)
        have hB3 := hB.grown hg3 (by omega)
        obtain ⟨y0, y1, y2, y3, y4, y5, y6, y7, y8⟩ := hB3.cells
        have HF2 := Lib.hid (HFIN.out _ fs (N + 1) M (o - 1) w3 (by omega) (by omega) ((hKX.toOnly _).grown hg3 (fun j hj => .inl (by simp at hj; simp [hj]))) (hM3) (hS3) (by rw [er]; exact I.ends (.inr (.inr hk)) b hl))
        obtain ⟨nk, t, ⟨ak, ro, s, cc, d⟩, co, x⟩ := nn
        unfold ntC at *
        simp only at *
        subst hk
        clear I hB hKX hEX hSX HFIN HTK hwf er hr hM3 hg3 hS3 hB3 hl k1 k2 hl0
        go_wp2
        cases gk with
        | zero => omega
        | succ g2 =>
          go_roundg g2
          case measure => omega
          case rel => exact ⟨k + 1, (o - 1), by first | rfl | go_num, by go_num, by omega, by omega, HF2⟩
      · obtain ⟨k1, k2, k3, k4⟩ := I.live _ _ _ hl
        have ho2 : 1 ≤ o := by
          obtain ⟨K, _, h2, h3, _⟩ := I.num
          have := List.length_pos_of_mem ((h2 nn.txn).2 (by rw [hl]; rfl))
          omega
        have hl0 := (hEX.look Try.underlying27 (z := (0 : Int)) (by kernel_rfl) hwf)
        rw [k1] at hl0
        have hl1 : (Instr.lookup 27 (.map (some me)) (.int .i64 nn.txn) false).run Try.prog (wr.alloc (.cells (ntC nn) 31)) = .ok (.int .i64 0) (wr.alloc (.cells (ntC nn) 31)) := hl0
        rw [if_pos rfl] at k2
        have hl5 := (hSX.look Try.underlying27 (z := (0 : Int)) (by kernel_rfl) hwf)
        rw [k2] at hl5
        have hl6 : (Instr.lookup 27 (.map (some ms)) (.int .i64 nn.txn) false).run Try.prog (wr.alloc (.cells (ntC nn) 31)) = .ok (.int .i64 1) (wr.alloc (.cells (ntC nn) 31)) := hl5
        obtain ⟨w3, hr, hM3, hg3⟩ := hEX.put Try.underlying27 (by unfold maxLen; omega) hwf (1 : Int)
        have hr2 : (Instr.mapUpdate 27 (.map (some me)) (.int .i64 nn.txn) (.int .i64 1)).run Try.prog (wr.alloc (.cells (ntC nn) 31)) = .ok () w3 := hr
        have hS3 := hSX.grown hg3 (by have := HMM.out; omega)
        have hB3 := hB.grown hg3 (by omega)
        obtain ⟨y0, y1, y2, y3, y4, y5, y6, y7, y8⟩ := hB3.cells
        have HF2 := Lib.hid (HFIN.out _ fs (N + 1) M (o - 1) w3 (by omega) (by omega) ((hKX.toOnly _).grown hg3 (fun j hj => .inl (by simp at hj; simp [hj]))) (hM3) (hS3) (by rw [er]; exact I.ends (by unfold isEnd; omega) true hl))
        obtain ⟨nk, t, ⟨ak, ro, s, cc, d⟩, co, x⟩ := nn
        unfold ntC at *
        simp only at *
        clear I hB hKX hEX hSX HFIN HTK hwf er hr hM3 hg3 hS3 hB3 hl k1 k2 hl0 hl5
        rcases hk with rfl | rfl
        all_goals
          go_wp2
          cases gk with
          | zero => omega
          | succ g2 =>
            go_roundg g2
            case measure => omega
            case rel => exact ⟨k + 1, (o - 1), by first | rfl | go_num, by go_num, by omega, by omega, HF2⟩
    · obtain rfl : k = L := by omega
      obtain ⟨hK, fe, fs, N, M, hN, hM, hE, hS, I, hv⟩ := hI.out
      rw [List.take_of_length_le (by rw [HLV.out]; exact Nat.le_refl _)] at I
      have cO := Lib.hid (open_any (some ⟨gA, oA, sA⟩) c l wr (HNA.out.keeps hK) (by rw [HLV.out]; omega) HOKV.out)
      rw [HLV.out] at cO
      have HII := Lib.hid I
      have HK := Lib.hid hK
      have f1 : decide ((k : Int) < (k : Int)) = false := by simp
      have f1' : decide (k < k) = false := by simp
      clear hK hE hS I hv hI
      go_wp2_with fail
      refine cO.out.mono ?_
      rintro e w5 ⟨v, ss, rfl, hO, hrow, hnil, j5⟩
      have hlen := HII.out.open_len hO
      obtain ⟨A2, c2, rfl, -⟩ := own_ints hrow
      have K5 := Lib.hid (HK.out.trans j5)
      have fl : ((ss.length : Int) == o) = true := by simpa using hlen
      clear hO hrow hnil j5
      generalize ss.length = sl at *
      subst hlen
      go_wp2
      go_ret
      exact ⟨by simp, K5.out⟩
set_option maxHeartbeats 16000000 in
set_option maxRecDepth 100000 in
theorem life_low (A : Option Addr) (c : Nat) (l : List Nt) (cut : Int) (k0 : Nat) (w : World) (hA : NotesAt w A l) (hok : ∀ n, n ∈ l → NtOk n) (hcap : l.length ≤ c) (had : ∃ g o s, A = some ⟨g, o, s⟩) (hli : lightNs l 60 = true) (hk0 : cut % ((l.length : Int) + 1) = (k0 : Int)) (pp : Nat) (hv0 : lifeN l = some pp) (hkp : k0 ≤ pp) :
    Calls Try.prog 3 #[.slice A l.length c, .int .i64 cut] w (Ret (.bool true) w) := by
  have hlen := lightNs_len hli
  have hk1 : k0 ≤ l.length := by
    have := Int.emod_lt_of_pos cut (show 0 < (l.length : Int) + 1 by omega)
    omega
  have cL := Lib.hid (lives_any w)
  have cN : Hid (∀ wx, Keeps w wx → Calls Try.prog 6 #[.slice A l.length c, .int .i64 60] wx (Ret (.bool true) wx)) := Lib.hid (fun wx k => by have := lightNs_any A c l 60 wx (hA.keeps k) (by unfold maxLen; omega); rwa [hli] at this)
  have cF := Lib.hid (fun wx (k : Keeps w wx) => life_any A c l wx (hA.keeps k) (by omega) hok)
  have htk : (l.take k0).length = k0 := by rw [List.length_take]; omega
  have cG := Lib.hid (fun wx (k : Keeps w wx) => life_any A c (l.take k0) wx (fun i hi => by
    have hi2 : i < l.length := by rw [htk] at hi; omega
    obtain ⟨g, o, h1, h2⟩ := (hA.keeps k) i hi2
    exact ⟨g, o, h1, by simpa using h2⟩) (by omega) (fun n hn => hok n (List.mem_of_mem_take hn)))
  rw [htk] at cG
  have cP : Hid (∀ wx, Calls Try.prog 8 #[.int .i64 cut, .int .i64 ((l.length : Int) + 1)] wx (fun e w' => e = .returned (.int .i64 (k0 : Int)) ∧ w' = wx)) := Lib.hid (fun wx => by have := pick_any cut ((l.length : Int) + 1) wx (by omega) (by omega); rwa [hk0] at this)
  have hmm := @run_makeMap Try.prog
  have hat : lifeI l = (pp : Int) := by unfold lifeI; rw [hv0]
  have hpl := (lifeF_le l Rdg.zero 0 pp hv0).2
  rw [Nat.zero_add] at hpl
  have hfr : lifeI (l.take k0) = -1 := by unfold lifeI lifeN; rw [lifeF_take]; unfold lifeN at hv0; rw [hv0]; simp [hkp]
  rw [hat] at cF
  rw [hfr] at cG
  have hvalid : lifeF Rdg.zero (l.take pp) 0 = none := by rw [lifeF_take]; unfold lifeN at hv0; rw [hv0]; simp
  have hLVn : (l.take pp).length = pp := by rw [List.length_take]; omega
  have hNV : NotesAt w A (l.take pp) := fun i hi => by
    have hi2 : i < l.length := by rw [hLVn] at hi; omega
    obtain ⟨g, o, h1, h2⟩ := hA i hi2
    exact ⟨g, o, h1, by simpa using h2⟩
  have hOV : ∀ n, n ∈ l.take pp → NtOk n := fun n hn => hok n (List.mem_of_mem_take hn)
  clear hat hfr hv0
  obtain ⟨gA, oA, sA, rfl⟩ := had
  have HNA : Hid (NotesAt w (some ⟨gA, oA, sA⟩) (l.take pp)) := Lib.hid hNV
  have HOKV : Hid (∀ n, n ∈ (l.take pp) → NtOk n) := Lib.hid hOV
  have HLV : Hid (((l.take pp)).length = pp) := Lib.hid hLVn
  have HV := Lib.hid hvalid
  generalize hLL : l.length = L at *
  have HLL := Lib.hid hLL
  clear hA hok hli hk0 htk hNV hOV hLVn hvalid hLL
  go_enter Try.func3, Try.ntmps3
  go_wp2_with fail
  refine cL.out.mono ?_
  rintro e w1 ⟨rfl, k1⟩
  go_wp2_with fail
  refine (cN.out _ k1).mono ?_
  rintro e w2 ⟨rfl, k2⟩
  have K2 := Lib.hid (k1.trans k2)
  clear k1 k2
  go_wp2_with fail
  refine (cF.out _ K2.out).mono ?_
  rintro e w3 ⟨rfl, k3⟩
  have K3 := Lib.hid (K2.out.trans k3)
  clear k3
  go_wp2_with fail
  refine (cP.out _).mono ?_
  rintro e w4 ⟨rfl, rfl⟩
  go_wp2_with fail
  refine (cG.out _ K3.out).mono ?_
  rintro e w5 ⟨rfl, k5⟩
  have K5 := Lib.hid (K3.out.trans k5)
  clear k5
  go_wp2
  clear hmm
  have HV0 : Hid (LoopI w w5.heap.size (w5.heap.size + 1) (l.take pp) 0 0 ((w5.alloc (.map #[] 0)).alloc (.map #[] 0))) := Lib.hid ⟨(K5.out.alloc _).alloc _, _, _, 0, 0, Nat.le_refl _, Nat.le_refl _, (IsMapI.new intE w5).keeps ((Keeps.refl _).alloc _), (by have := IsMapI.new intE (w5.alloc (.map #[] 0)); rwa [World.size_alloc] at this), by simpa [readF] using Inv.zero, by simpa [readF] using HV.out⟩
  have HW0 : Hid (w.heap.size ≤ w5.heap.size ∧ w.heap.size ≤ w5.heap.size + 1) := Lib.hid (by have := K5.out.size; omega)
  have HMM : Hid (w5.heap.size ≠ w5.heap.size + 1) := Lib.hid (by omega)
  generalize (w5.alloc (.map #[] 0)).alloc (.map #[] 0) = W at *
  generalize hms : w5.heap.size + 1 = ms at *
  generalize w5.heap.size = me at *
  clear hms
  go_loopg [10, 11] (pp + 1) (fun g oo i wr => ∃ (k : Nat) (o : Int), oo = .int .i64 o ∧ i = .int .i64 (k : Int) ∧ k ≤ pp ∧ pp - k < g ∧ Hid (LoopI w me ms (l.take pp) k o wr))
  case atStart => exact ⟨0, 0, rfl, rfl, Nat.zero_le _, by omega, HV0⟩
  case round =>
    obtain ⟨k, o, rfl, rfl, hkn, hkg, hI⟩ := hrel
    have hbd := hI.out.bd
    obtain ⟨ho0, ho1⟩ := hbd
    by_cases hlt : k < pp
    · have hlt' : k < ((l.take pp)).length := by rw [HLV.out]; exact hlt
      obtain ⟨hK, fe, fs, N, M, hN, hM, hE, hS, I, hv⟩ := hI.out
      obtain ⟨g, oo, hAe, hc⟩ := (HNA.out.keeps hK) k hlt'
      have hwf := HOKV.out _ (List.getElem_mem hlt')
      have hd := List.drop_eq_getElem_cons hlt'
      have hrt := readF_take _ k hlt'
      have htk : ((l.take pp)).take (k + 1) = ((l.take pp)).take k ++ [((l.take pp))[k]'hlt'] := List.take_succ_eq_append_getElem hlt'
      rw [hd, lifeF] at hv
      simp only [Option.some.injEq, Addr.mk.injEq] at hAe
      obtain ⟨rfl, rfl, rfl⟩ := hAe
      obtain ⟨e0, e1, e2, e3, e4, e5, e6, e7, e8⟩ := hc.nine
      generalize ((l.take pp))[k]'hlt' = nn at *
      have htrue : (takesR (readF Rdg.zero (((l.take pp)).take k)) nn).1 = true := by
        apply Classical.byContradiction
        intro h
        rw [if_neg h] at hv
        cases hv
      rw [if_pos htrue] at hv
      have hdo := does htrue
      rw [← hrt] at hv hdo
      have HK := Lib.hid hK
      have HTK := Lib.hid htk
      have HVV := Lib.hid hv
      have hme : me < wr.heap.size := hE.lt
      have hms : ms < wr.heap.size := hS.lt
      have hB := NtB.new wr nn
      have hKX := (Keeps.refl wr).alloc (.cells (ntC nn) 31)
      have hEX := hE.keeps hKX
      have hSX := hS.keeps hKX
      have f1 : decide ((k : Int) < (pp : Int)) = true := by simp; omega
      have f1' : decide (k < pp) = true := by simpa using hlt
      have q1 : (0 : Int) ≤ (k : Int) := by omega
      have q2 : (k : Int) < (pp : Int) := by omega
      have hfin : ∀ (fe2 fs2 : Int → Option Int) (N2 M2 : Nat) (o2 : Int) (w3 : World), N2 ≤ k + 1 → M2 ≤ k + 1 → Only [me, ms] wr w3 → IsMapI intE w3 me N2 fe2 → IsMapI intE w3 ms M2 fs2 → Inv (((l.take pp)).take k ++ [nn]) (readF Rdg.zero (((l.take pp)).take (k + 1))) fe2 fs2 o2 → LoopI w me ms ((l.take pp)) (k + 1) o2 w3 := fun fe2 fs2 N2 M2 o2 w3 a1 a2 a3 a4 a5 a6 =>
        ⟨HK.out.only a3 (fun i hi => by simp at hi; have := HW0.out; omega), fe2, fs2, N2, M2, a1, a2, a4, a5, by rw [HTK.out]; rw [HTK.out] at a6; exact a6, HVV.out⟩
      have HFIN := Lib.hid hfin
      clear hfin hK htk hv hd hc hrt htrue hE hS hI
      rcases hdo with ⟨hk, ht, er⟩ | ⟨hk, ht, er⟩ | ⟨hk, b, hl, er⟩ | ⟨hk, hl, er⟩ | ⟨hk, b, hl, er⟩ | ⟨hk, hl, er⟩
      · have hlk := (hEX.look Try.underlying27 (z := (0 : Int)) (by kernel_rfl) hwf)
        rw [ht, I.low 0 (by omega)] at hlk
        have hlk2 : (Instr.lookup 27 (.map (some me)) (.int .i64 0) false).run Try.prog (wr.alloc (.cells (ntC nn) 31)) = .ok (.int .i64 0) (wr.alloc (.cells (ntC nn) 31)) := hlk
        have HF2 := Lib.hid (HFIN.out fe fs N M o (wr.alloc (.cells (ntC nn) 31)) (by omega) (by omega) (hKX.toOnly _) (hEX) (hSX) (by rw [er]; exact I.other (by omega) (by unfold isEnd; omega)))
        obtain ⟨nk, t, ⟨ak, ro, s, cc, d⟩, co, x⟩ := nn
        unfold ntC at *
        simp only at *
        subst ht
        clear I hB hKX hEX hSX hlk HFIN HTK hwf er
        rcases hk with rfl | rfl | rfl
        all_goals
          go_wp2
          cases gk with
          | zero => omega
          | succ g2 =>
            go_roundg g2
            case measure => omega
            case rel => exact ⟨k + 1, o, by first | rfl | go_num, by go_num, by omega, by omega, HF2⟩
      · have HF2 := Lib.hid (HFIN.out fe fs N M (o + 1) (wr.alloc (.cells (ntC nn) 31)) (by omega) (by omega) (hKX.toOnly _) (hEX) (hSX) (by rw [er]; exact I.queued hk ht))
        obtain ⟨nk, t, ⟨ak, ro, s, cc, d⟩, co, x⟩ := nn
        unfold ntC at *
        simp only at *
        subst hk
        clear I hB hKX hEX hSX HFIN HTK hwf er ht
        go_wp2
        cases gk with
        | zero => omega
        | succ g2 =>
          go_roundg g2
          case measure => omega
          case rel => exact ⟨k + 1, (o + 1), by first | rfl | go_num, by go_num, by omega, by omega, HF2⟩
      · obtain ⟨k1, k2, k3, k4⟩ := I.live _ _ _ hl
        obtain ⟨w3, hr, hM3, hg3⟩ := hSX.put Try.underlying27 (by unfold maxLen; omega) hwf (1 : Int)
        have hr2 : (Instr.mapUpdate 27 (.map (some ms)) (.int .i64 nn.txn) (.int .i64 1)).run Try.prog (wr.alloc (.cells (ntC nn) 31)) = .ok () w3 := hr
        have hE3 := hEX.grown hg3 (by have := HMM.out; omega)
        have hB3 := hB.grown hg3 (by omega)
        have hlk := (hE3.look Try.underlying27 (z := (0 : Int)) (by kernel_rfl) hwf)
        rw [k1] at hlk
        have hlk2 : (Instr.lookup 27 (.map (some me)) (.int .i64 nn.txn) false).run Try.prog w3 = .ok (.int .i64 0) w3 := hlk
        obtain ⟨y0, y1, y2, y3, y4, y5, y6, y7, y8⟩ := hB3.cells
        have HF2 := Lib.hid (HFIN.out fe _ N (M + 1) o w3 (by omega) (by omega) ((hKX.toOnly _).grown hg3 (fun j hj => .inl (by simp at hj; simp [hj]))) (hE3) (hM3) (by rw [er]; exact I.sent (.inl hk) b true hl))
        obtain ⟨nk, t, ⟨ak, ro, s, cc, d⟩, co, x⟩ := nn
        unfold ntC at *
        simp only at *
        subst hk
        clear I hB hKX hEX hSX HFIN HTK hwf er hr hM3 hg3 hE3 hB3 hlk hl k1 k2
        go_wp2
        cases gk with
        | zero => omega
        | succ g2 =>
          go_roundg g2
          case measure => omega
          case rel => exact ⟨k + 1, o, by first | rfl | go_num, by go_num, by omega, by omega, HF2⟩
      · obtain ⟨k1, k2, k3, k4⟩ := I.live _ _ _ hl
        rw [if_pos rfl] at k2
        have hl0 := (hSX.look Try.underlying27 (z := (0 : Int)) (by kernel_rfl) hwf)
        rw [k2] at hl0
        have hl1 : (Instr.lookup 27 (.map (some ms)) (.int .i64 nn.txn) false).run Try.prog (wr.alloc (.cells (ntC nn) 31)) = .ok (.int .i64 1) (wr.alloc (.cells (ntC nn) 31)) := hl0
        obtain ⟨w3, hr, hM3, hg3⟩ := hSX.put Try.underlying27 (by unfold maxLen; omega) hwf (0 : Int)
        have hr2 : (Instr.mapUpdate 27 (.map (some ms)) (.int .i64 nn.txn) (.int .i64 0)).run Try.prog (wr.alloc (.cells (ntC nn) 31)) = .ok () w3 := hr
        have hE3 := hEX.grown hg3 (by have := HMM.out; omega)
        have hB3 := hB.grown hg3 (by omega)
        have hlk := (hE3.look Try.underlying27 (z := (0 : Int)) (by kernel_rfl) hwf)
        rw [k1] at hlk
        have hlk2 : (Instr.lookup 27 (.map (some me)) (.int .i64 nn.txn) false).run Try.prog w3 = .ok (.int .i64 0) w3 := hlk
        obtain ⟨y0, y1, y2, y3, y4, y5, y6, y7, y8⟩ := hB3.cells
        have HF2 := Lib.hid (HFIN.out fe _ N (M + 1) o w3 (by omega) (by omega) ((hKX.toOnly _).grown hg3 (fun j hj => .inl (by simp at hj; simp [hj]))) (hE3) (hM3) (by rw [er]; exact I.sent (.inr hk) true false hl))
        obtain ⟨nk, t, ⟨ak, ro, s, cc, d⟩, co, x⟩ := nn
        unfold ntC at *
        simp only at *
        subst hk
        clear I hB hKX hEX hSX HFIN HTK hwf er hr hM3 hg3 hE3 hB3 hlk hl k1 k2 hl0
        go_wp2
        cases gk with
        | zero => omega
        | succ g2 =>
          go_roundg g2
          case measure => omega
          case rel => exact ⟨k + 1, o, by first | rfl | go_num, by go_num, by omega, by omega, HF2⟩
      · obtain ⟨k1, k2, k3, k4⟩ := I.live _ _ _ hl
        have ho2 : 1 ≤ o := by
          obtain ⟨K, _, h2, h3, _⟩ := I.num
          have := List.length_pos_of_mem ((h2 nn.txn).2 (by rw [hl]; rfl))
          omega
        have hl0 := (hEX.look Try.underlying27 (z := (0 : Int)) (by kernel_rfl) hwf)
        rw [k1] at hl0
        have hl1 : (Instr.lookup 27 (.map (some me)) (.int .i64 nn.txn) false).run Try.prog (wr.alloc (.cells (ntC nn) 31)) = .ok (.int .i64 0) (wr.alloc (.cells (ntC nn) 31)) := hl0
        obtain ⟨w3, hr, hM3, hg3⟩ := hEX.put Try.underlying27 (by unfold maxLen; omega) hwf (1 : Int)
        have hr2 : (Instr.mapUpdate 27 (.map (some me)) (.int .i64 nn.txn) (.int .i64 1)).run Try.prog (wr.alloc (.cells (ntC nn) 31)) = .ok () w3 := hr
        have hS3 := hSX.grown hg3 (by have := HMM.out; omega)
        have hB3 := hB.grown hg3 (by omega)
        obtain ⟨y0, y1, y2, y3, y4, y5, y6, y7, y8⟩ := hB3.cells
        have HF2 := Lib.hid (HFIN.out _ fs (N + 1) M (o - 1) w3 (by omega) (by omega) ((hKX.toOnly _).grown hg3 (fun j hj => .inl (by simp at hj; simp [hj]))) (hM3) (hS3) (by rw [er]; exact I.ends (.inr (.inr hk)) b hl))
        obtain ⟨nk, t, ⟨ak, ro, s, cc, d⟩, co, x⟩ := nn
        unfold ntC at *
        simp only at *
        subst hk
        clear I hB hKX hEX hSX HFIN HTK hwf er hr hM3 hg3 hS3 hB3 hl k1 k2 hl0
        go_wp2
        cases gk with
        | zero => omega
        | succ g2 =>
          go_roundg g2
          case measure => omega
          case rel => exact ⟨k + 1, (o - 1), by first | rfl | go_num, by go_num, by omega, by omega, HF2⟩
      · obtain ⟨k1, k2, k3, k4⟩ := I.live _ _ _ hl
        have ho2 : 1 ≤ o := by
          obtain ⟨K, _, h2, h3, _⟩ := I.num
          have := List.length_pos_of_mem ((h2 nn.txn).2 (by rw [hl]; rfl))
          omega
        have hl0 := (hEX.look Try.underlying27 (z := (0 : Int)) (by kernel_rfl) hwf)
        rw [k1] at hl0
        have hl1 : (Instr.lookup 27 (.map (some me)) (.int .i64 nn.txn) false).run Try.prog (wr.alloc (.cells (ntC nn) 31)) = .ok (.int .i64 0) (wr.alloc (.cells (ntC nn) 31)) := hl0
        rw [if_pos rfl] at k2
        have hl5 := (hSX.look Try.underlying27 (z := (0 : Int)) (by kernel_rfl) hwf)
        rw [k2] at hl5
        have hl6 : (Instr.lookup 27 (.map (some ms)) (.int .i64 nn.txn) false).run Try.prog (wr.alloc (.cells (ntC nn) 31)) = .ok (.int .i64 1) (wr.alloc (.cells (ntC nn) 31)) := hl5
        obtain ⟨w3, hr, hM3, hg3⟩ := hEX.put Try.underlying27 (by unfold maxLen; omega) hwf (1 : Int)
        have hr2 : (Instr.mapUpdate 27 (.map (some me)) (.int .i64 nn.txn) (.int .i64 1)).run Try.prog (wr.alloc (.cells (ntC nn) 31)) = .ok () w3 := hr
        have hS3 := hSX.grown hg3 (by have := HMM.out; omega)
        have hB3 := hB.grown hg3 (by omega)
        obtain ⟨y0, y1, y2, y3, y4, y5, y6, y7, y8⟩ := hB3.cells
        have HF2 := Lib.hid (HFIN.out _ fs (N + 1) M (o - 1) w3 (by omega) (by omega) ((hKX.toOnly _).grown hg3 (fun j hj => .inl (by simp at hj; simp [hj]))) (hM3) (hS3) (by rw [er]; exact I.ends (by unfold isEnd; omega) true hl))
        obtain ⟨nk, t, ⟨ak, ro, s, cc, d⟩, co, x⟩ := nn
        unfold ntC at *
        simp only at *
        clear I hB hKX hEX hSX HFIN HTK hwf er hr hM3 hg3 hS3 hB3 hl k1 k2 hl0 hl5
        rcases hk with rfl | rfl
        all_goals
          go_wp2
          cases gk with
          | zero => omega
          | succ g2 =>
            go_roundg g2
            case measure => omega
            case rel => exact ⟨k + 1, (o - 1), by first | rfl | go_num, by go_num, by omega, by omega, HF2⟩
    · obtain rfl : k = pp := by omega
      obtain ⟨hK, fe, fs, N, M, hN, hM, hE, hS, I, hv⟩ := hI.out
      rw [List.take_of_length_le (by rw [HLV.out]; exact Nat.le_refl _)] at I
      have cO := Lib.hid (open_any (some ⟨gA, oA, sA⟩) c (l.take k) wr (HNA.out.keeps hK) (by rw [HLV.out]; omega) HOKV.out)
      rw [HLV.out] at cO
      have HII := Lib.hid I
      have HK := Lib.hid hK
      have f1 : decide ((k : Int) < (k : Int)) = false := by simp
      have f1' : decide (k < k) = false := by simp
      clear hK hE hS I hv hI
      go_wp2_with fail
      refine cO.out.mono ?_
      rintro e w5 ⟨v, ss, rfl, hO, hrow, hnil, j5⟩
      have hlen := HII.out.open_len hO
      obtain ⟨A2, c2, rfl, -⟩ := own_ints hrow
      have K5 := Lib.hid (HK.out.trans j5)
      have fl : ((ss.length : Int) == o) = true := by simpa using hlen
      clear hO hrow hnil j5
      generalize ss.length = sl at *
      subst hlen
      go_wp2
      go_ret
      exact ⟨by simp, K5.out⟩
set_option maxHeartbeats 16000000 in
set_option maxRecDepth 100000 in
theorem life_high (A : Option Addr) (c : Nat) (l : List Nt) (cut : Int) (k0 : Nat) (w : World) (hA : NotesAt w A l) (hok : ∀ n, n ∈ l → NtOk n) (hcap : l.length ≤ c) (had : ∃ g o s, A = some ⟨g, o, s⟩) (hli : lightNs l 60 = true) (hk0 : cut % ((l.length : Int) + 1) = (k0 : Int)) (pp : Nat) (hv0 : lifeN l = some pp) (hkp : pp < k0) :
    Calls Try.prog 3 #[.slice A l.length c, .int .i64 cut] w (Ret (.bool true) w) := by
  have hlen := lightNs_len hli
  have hk1 : k0 ≤ l.length := by
    have := Int.emod_lt_of_pos cut (show 0 < (l.length : Int) + 1 by omega)
    omega
  have cL := Lib.hid (lives_any w)
  have cN : Hid (∀ wx, Keeps w wx → Calls Try.prog 6 #[.slice A l.length c, .int .i64 60] wx (Ret (.bool true) wx)) := Lib.hid (fun wx k => by have := lightNs_any A c l 60 wx (hA.keeps k) (by unfold maxLen; omega); rwa [hli] at this)
  have cF := Lib.hid (fun wx (k : Keeps w wx) => life_any A c l wx (hA.keeps k) (by omega) hok)
  have htk : (l.take k0).length = k0 := by rw [List.length_take]; omega
  have cG := Lib.hid (fun wx (k : Keeps w wx) => life_any A c (l.take k0) wx (fun i hi => by
    have hi2 : i < l.length := by rw [htk] at hi; omega
    obtain ⟨g, o, h1, h2⟩ := (hA.keeps k) i hi2
    exact ⟨g, o, h1, by simpa using h2⟩) (by omega) (fun n hn => hok n (List.mem_of_mem_take hn)))
  rw [htk] at cG
  have cP : Hid (∀ wx, Calls Try.prog 8 #[.int .i64 cut, .int .i64 ((l.length : Int) + 1)] wx (fun e w' => e = .returned (.int .i64 (k0 : Int)) ∧ w' = wx)) := Lib.hid (fun wx => by have := pick_any cut ((l.length : Int) + 1) wx (by omega) (by omega); rwa [hk0] at this)
  have hmm := @run_makeMap Try.prog
  have hat : lifeI l = (pp : Int) := by unfold lifeI; rw [hv0]
  have hpl := (lifeF_le l Rdg.zero 0 pp hv0).2
  rw [Nat.zero_add] at hpl
  have hfr : lifeI (l.take k0) = (pp : Int) := by unfold lifeI lifeN; rw [lifeF_take]; unfold lifeN at hv0; rw [hv0]; simp [show ¬ k0 ≤ pp by omega]
  rw [hat] at cF
  rw [hfr] at cG
  have hvalid : lifeF Rdg.zero (l.take pp) 0 = none := by rw [lifeF_take]; unfold lifeN at hv0; rw [hv0]; simp
  have hLVn : (l.take pp).length = pp := by rw [List.length_take]; omega
  have hNV : NotesAt w A (l.take pp) := fun i hi => by
    have hi2 : i < l.length := by rw [hLVn] at hi; omega
    obtain ⟨g, o, h1, h2⟩ := hA i hi2
    exact ⟨g, o, h1, by simpa using h2⟩
  have hOV : ∀ n, n ∈ l.take pp → NtOk n := fun n hn => hok n (List.mem_of_mem_take hn)
  clear hat hfr hv0
  obtain ⟨gA, oA, sA, rfl⟩ := had
  have HNA : Hid (NotesAt w (some ⟨gA, oA, sA⟩) (l.take pp)) := Lib.hid hNV
  have HOKV : Hid (∀ n, n ∈ (l.take pp) → NtOk n) := Lib.hid hOV
  have HLV : Hid (((l.take pp)).length = pp) := Lib.hid hLVn
  have HV := Lib.hid hvalid
  generalize hLL : l.length = L at *
  have HLL := Lib.hid hLL
  clear hA hok hli hk0 htk hNV hOV hLVn hvalid hLL
  go_enter Try.func3, Try.ntmps3
  go_wp2_with fail
  refine cL.out.mono ?_
  rintro e w1 ⟨rfl, k1⟩
  go_wp2_with fail
  refine (cN.out _ k1).mono ?_
  rintro e w2 ⟨rfl, k2⟩
  have K2 := Lib.hid (k1.trans k2)
  clear k1 k2
  go_wp2_with fail
  refine (cF.out _ K2.out).mono ?_
  rintro e w3 ⟨rfl, k3⟩
  have K3 := Lib.hid (K2.out.trans k3)
  clear k3
  go_wp2_with fail
  refine (cP.out _).mono ?_
  rintro e w4 ⟨rfl, rfl⟩
  go_wp2_with fail
  refine (cG.out _ K3.out).mono ?_
  rintro e w5 ⟨rfl, k5⟩
  have K5 := Lib.hid (K3.out.trans k5)
  clear k5
  go_wp2
  clear hmm
  have HV0 : Hid (LoopI w w5.heap.size (w5.heap.size + 1) (l.take pp) 0 0 ((w5.alloc (.map #[] 0)).alloc (.map #[] 0))) := Lib.hid ⟨(K5.out.alloc _).alloc _, _, _, 0, 0, Nat.le_refl _, Nat.le_refl _, (IsMapI.new intE w5).keeps ((Keeps.refl _).alloc _), (by have := IsMapI.new intE (w5.alloc (.map #[] 0)); rwa [World.size_alloc] at this), by simpa [readF] using Inv.zero, by simpa [readF] using HV.out⟩
  have HW0 : Hid (w.heap.size ≤ w5.heap.size ∧ w.heap.size ≤ w5.heap.size + 1) := Lib.hid (by have := K5.out.size; omega)
  have HMM : Hid (w5.heap.size ≠ w5.heap.size + 1) := Lib.hid (by omega)
  generalize (w5.alloc (.map #[] 0)).alloc (.map #[] 0) = W at *
  generalize hms : w5.heap.size + 1 = ms at *
  generalize w5.heap.size = me at *
  clear hms
  go_loopg [10, 11] (pp + 1) (fun g oo i wr => ∃ (k : Nat) (o : Int), oo = .int .i64 o ∧ i = .int .i64 (k : Int) ∧ k ≤ pp ∧ pp - k < g ∧ Hid (LoopI w me ms (l.take pp) k o wr))
  case atStart => exact ⟨0, 0, rfl, rfl, Nat.zero_le _, by omega, HV0⟩
  case round =>
    obtain ⟨k, o, rfl, rfl, hkn, hkg, hI⟩ := hrel
    have hbd := hI.out.bd
    obtain ⟨ho0, ho1⟩ := hbd
    by_cases hlt : k < pp
    · have hlt' : k < ((l.take pp)).length := by rw [HLV.out]; exact hlt
      obtain ⟨hK, fe, fs, N, M, hN, hM, hE, hS, I, hv⟩ := hI.out
      obtain ⟨g, oo, hAe, hc⟩ := (HNA.out.keeps hK) k hlt'
      have hwf := HOKV.out _ (List.getElem_mem hlt')
      have hd := List.drop_eq_getElem_cons hlt'
      have hrt := readF_take _ k hlt'
      have htk : ((l.take pp)).take (k + 1) = ((l.take pp)).take k ++ [((l.take pp))[k]'hlt'] := List.take_succ_eq_append_getElem hlt'
      rw [hd, lifeF] at hv
      simp only [Option.some.injEq, Addr.mk.injEq] at hAe
      obtain ⟨rfl, rfl, rfl⟩ := hAe
      obtain ⟨e0, e1, e2, e3, e4, e5, e6, e7, e8⟩ := hc.nine
      generalize ((l.take pp))[k]'hlt' = nn at *
      have htrue : (takesR (readF Rdg.zero (((l.take pp)).take k)) nn).1 = true := by
        apply Classical.byContradiction
        intro h
        rw [if_neg h] at hv
        cases hv
      rw [if_pos htrue] at hv
      have hdo := does htrue
      rw [← hrt] at hv hdo
      have HK := Lib.hid hK
      have HTK := Lib.hid htk
      have HVV := Lib.hid hv
      have hme : me < wr.heap.size := hE.lt
      have hms : ms < wr.heap.size := hS.lt
      have hB := NtB.new wr nn
      have hKX := (Keeps.refl wr).alloc (.cells (ntC nn) 31)
      have hEX := hE.keeps hKX
      have hSX := hS.keeps hKX
      have f1 : decide ((k : Int) < (pp : Int)) = true := by simp; omega
      have f1' : decide (k < pp) = true := by simpa using hlt
      have q1 : (0 : Int) ≤ (k : Int) := by omega
      have q2 : (k : Int) < (pp : Int) := by omega
      have hfin : ∀ (fe2 fs2 : Int → Option Int) (N2 M2 : Nat) (o2 : Int) (w3 : World), N2 ≤ k + 1 → M2 ≤ k + 1 → Only [me, ms] wr w3 → IsMapI intE w3 me N2 fe2 → IsMapI intE w3 ms M2 fs2 → Inv (((l.take pp)).take k ++ [nn]) (readF Rdg.zero (((l.take pp)).take (k + 1))) fe2 fs2 o2 → LoopI w me ms ((l.take pp)) (k + 1) o2 w3 := fun fe2 fs2 N2 M2 o2 w3 a1 a2 a3 a4 a5 a6 =>
        ⟨HK.out.only a3 (fun i hi => by simp at hi; have := HW0.out; omega), fe2, fs2, N2, M2, a1, a2, a4, a5, by rw [HTK.out]; rw [HTK.out] at a6; exact a6, HVV.out⟩
      have HFIN := Lib.hid hfin
      clear hfin hK htk hv hd hc hrt htrue hE hS hI
      rcases hdo with ⟨hk, ht, er⟩ | ⟨hk, ht, er⟩ | ⟨hk, b, hl, er⟩ | ⟨hk, hl, er⟩ | ⟨hk, b, hl, er⟩ | ⟨hk, hl, er⟩
      · have hlk := (hEX.look Try.underlying27 (z := (0 : Int)) (by kernel_rfl) hwf)
        rw [ht, I.low 0 (by omega)] at hlk
        have hlk2 : (Instr.lookup 27 (.map (some me)) (.int .i64 0) false).run Try.prog (wr.alloc (.cells (ntC nn) 31)) = .ok (.int .i64 0) (wr.alloc (.cells (ntC nn) 31)) := hlk
        have HF2 := Lib.hid (HFIN.out fe fs N M o (wr.alloc (.cells (ntC nn) 31)) (by omega) (by omega) (hKX.toOnly _) (hEX) (hSX) (by rw [er]; exact I.other (by omega) (by unfold isEnd; omega)))
        obtain ⟨nk, t, ⟨ak, ro, s, cc, d⟩, co, x⟩ := nn
        unfold ntC at *
        simp only at *
        subst ht
        clear I hB hKX hEX hSX hlk HFIN HTK hwf er
        rcases hk with rfl | rfl | rfl
        all_goals
          go_wp2
          cases gk with
          | zero => omega
          | succ g2 =>
            go_roundg g2
            case measure => omega
            case rel => exact ⟨k + 1, o, by first | rfl | go_num, by go_num, by omega, by omega, HF2⟩
      · have HF2 := Lib.hid (HFIN.out fe fs N M (o + 1) (wr.alloc (.cells (ntC nn) 31)) (by omega) (by omega) (hKX.toOnly _) (hEX) (hSX) (by rw [er]; exact I.queued hk ht))
        obtain ⟨nk, t, ⟨ak, ro, s, cc, d⟩, co, x⟩ := nn
        unfold ntC at *
        simp only at *
        subst hk
        clear I hB hKX hEX hSX HFIN HTK hwf er ht
        go_wp2
        cases gk with
        | zero => omega
        | succ g2 =>
          go_roundg g2
          case measure => omega
          case rel => exact ⟨k + 1, (o + 1), by first | rfl | go_num, by go_num, by omega, by omega, HF2⟩
      · obtain ⟨k1, k2, k3, k4⟩ := I.live _ _ _ hl
        obtain ⟨w3, hr, hM3, hg3⟩ := hSX.put Try.underlying27 (by unfold maxLen; omega) hwf (1 : Int)
        have hr2 : (Instr.mapUpdate 27 (.map (some ms)) (.int .i64 nn.txn) (.int .i64 1)).run Try.prog (wr.alloc (.cells (ntC nn) 31)) = .ok () w3 := hr
        have hE3 := hEX.grown hg3 (by have := HMM.out; omega)
        have hB3 := hB.grown hg3 (by omega)
        have hlk := (hE3.look Try.underlying27 (z := (0 : Int)) (by kernel_rfl) hwf)
        rw [k1] at hlk
        have hlk2 : (Instr.lookup 27 (.map (some me)) (.int .i64 nn.txn) false).run Try.prog w3 = .ok (.int .i64 0) w3 := hlk
        obtain ⟨y0, y1, y2, y3, y4, y5, y6, y7, y8⟩ := hB3.cells
        have HF2 := Lib.hid (HFIN.out fe _ N (M + 1) o w3 (by omega) (by omega) ((hKX.toOnly _).grown hg3 (fun j hj => .inl (by simp at hj; simp [hj]))) (hE3) (hM3) (by rw [er]; exact I.sent (.inl hk) b true hl))
        obtain ⟨nk, t, ⟨ak, ro, s, cc, d⟩, co, x⟩ := nn
        unfold ntC at *
        simp only at *
        subst hk
        clear I hB hKX hEX hSX HFIN HTK hwf er hr hM3 hg3 hE3 hB3 hlk hl k1 k2
        go_wp2
        cases gk with
        | zero => omega
        | succ g2 =>
          go_roundg g2
          case measure => omega
          case rel => exact ⟨k + 1, o, by first | rfl | go_num, by go_num, by omega, by omega, HF2⟩
      · obtain ⟨k1, k2, k3, k4⟩ := I.live _ _ _ hl
        rw [if_pos rfl] at k2
        have hl0 := (hSX.look Try.underlying27 (z := (0 : Int)) (by kernel_rfl) hwf)
        rw [k2] at hl0
        have hl1 : (Instr.lookup 27 (.map (some ms)) (.int .i64 nn.txn) false).run Try.prog (wr.alloc (.cells (ntC nn) 31)) = .ok (.int .i64 1) (wr.alloc (.cells (ntC nn) 31)) := hl0
        obtain ⟨w3, hr, hM3, hg3⟩ := hSX.put Try.underlying27 (by unfold maxLen; omega) hwf (0 : Int)
        have hr2 : (Instr.mapUpdate 27 (.map (some ms)) (.int .i64 nn.txn) (.int .i64 0)).run Try.prog (wr.alloc (.cells (ntC nn) 31)) = .ok () w3 := hr
        have hE3 := hEX.grown hg3 (by have := HMM.out; omega)
        have hB3 := hB.grown hg3 (by omega)
        have hlk := (hE3.look Try.underlying27 (z := (0 : Int)) (by kernel_rfl) hwf)
        rw [k1] at hlk
        have hlk2 : (Instr.lookup 27 (.map (some me)) (.int .i64 nn.txn) false).run Try.prog w3 = .ok (.int .i64 0) w3 := hlk
        obtain ⟨y0, y1, y2, y3, y4, y5, y6, y7, y8⟩ := hB3.cells
        have HF2 := Lib.hid (HFIN.out fe _ N (M + 1) o w3 (by omega) (by omega) ((hKX.toOnly _).grown hg3 (fun j hj => .inl (by simp at hj; simp [hj]))) (hE3) (hM3) (by rw [er]; exact I.sent (.inr hk) true false hl))
        obtain ⟨nk, t, ⟨ak, ro, s, cc, d⟩, co, x⟩ := nn
        unfold ntC at *
        simp only at *
        subst hk
        clear I hB hKX hEX hSX HFIN HTK hwf er hr hM3 hg3 hE3 hB3 hlk hl k1 k2 hl0
        go_wp2
        cases gk with
        | zero => omega
        | succ g2 =>
          go_roundg g2
          case measure => omega
          case rel => exact ⟨k + 1, o, by first | rfl | go_num, by go_num, by omega, by omega, HF2⟩
      · obtain ⟨k1, k2, k3, k4⟩ := I.live _ _ _ hl
        have ho2 : 1 ≤ o := by
          obtain ⟨K, _, h2, h3, _⟩ := I.num
          have := List.length_pos_of_mem ((h2 nn.txn).2 (by rw [hl]; rfl))
          omega
        have hl0 := (hEX.look Try.underlying27 (z := (0 : Int)) (by kernel_rfl) hwf)
        rw [k1] at hl0
        have hl1 : (Instr.lookup 27 (.map (some me)) (.int .i64 nn.txn) false).run Try.prog (wr.alloc (.cells (ntC nn) 31)) = .ok (.int .i64 0) (wr.alloc (.cells (ntC nn) 31)) := hl0
        obtain ⟨w3, hr, hM3, hg3⟩ := hEX.put Try.underlying27 (by unfold maxLen; omega) hwf (1 : Int)
        have hr2 : (Instr.mapUpdate 27 (.map (some me)) (.int .i64 nn.txn) (.int .i64 1)).run Try.prog (wr.alloc (.cells (ntC nn) 31)) = .ok () w3 := hr
        have hS3 := hSX.grown hg3 (by have := HMM.out; omega)
        have hB3 := hB.grown hg3 (by omega)
        obtain ⟨y0, y1, y2, y3, y4, y5, y6, y7, y8⟩ := hB3.cells
        have HF2 := Lib.hid (HFIN.out _ fs (N + 1) M (o - 1) w3 (by omega) (by omega) ((hKX.toOnly _).grown hg3 (fun j hj => .inl (by simp at hj; simp [hj]))) (hM3) (hS3) (by rw [er]; exact I.ends (.inr (.inr hk)) b hl))
        obtain ⟨nk, t, ⟨ak, ro, s, cc, d⟩, co, x⟩ := nn
        unfold ntC at *
        simp only at *
        subst hk
        clear I hB hKX hEX hSX HFIN HTK hwf er hr hM3 hg3 hS3 hB3 hl k1 k2 hl0
        go_wp2
        cases gk with
        | zero => omega
        | succ g2 =>
          go_roundg g2
          case measure => omega
          case rel => exact ⟨k + 1, (o - 1), by first | rfl | go_num, by go_num, by omega, by omega, HF2⟩
      · obtain ⟨k1, k2, k3, k4⟩ := I.live _ _ _ hl
        have ho2 : 1 ≤ o := by
          obtain ⟨K, _, h2, h3, _⟩ := I.num
          have := List.length_pos_of_mem ((h2 nn.txn).2 (by rw [hl]; rfl))
          omega
        have hl0 := (hEX.look Try.underlying27 (z := (0 : Int)) (by kernel_rfl) hwf)
        rw [k1] at hl0
        have hl1 : (Instr.lookup 27 (.map (some me)) (.int .i64 nn.txn) false).run Try.prog (wr.alloc (.cells (ntC nn) 31)) = .ok (.int .i64 0) (wr.alloc (.cells (ntC nn) 31)) := hl0
        rw [if_pos rfl] at k2
        have hl5 := (hSX.look Try.underlying27 (z := (0 : Int)) (by kernel_rfl) hwf)
        rw [k2] at hl5
        have hl6 : (Instr.lookup 27 (.map (some ms)) (.int .i64 nn.txn) false).run Try.prog (wr.alloc (.cells (ntC nn) 31)) = .ok (.int .i64 1) (wr.alloc (.cells (ntC nn) 31)) := hl5
        obtain ⟨w3, hr, hM3, hg3⟩ := hEX.put Try.underlying27 (by unfold maxLen; omega) hwf (1 : Int)
        have hr2 : (Instr.mapUpdate 27 (.map (some me)) (.int .i64 nn.txn) (.int .i64 1)).run Try.prog (wr.alloc (.cells (ntC nn) 31)) = .ok () w3 := hr
        have hS3 := hSX.grown hg3 (by have := HMM.out; omega)
        have hB3 := hB.grown hg3 (by omega)
        obtain ⟨y0, y1, y2, y3, y4, y5, y6, y7, y8⟩ := hB3.cells
        have HF2 := Lib.hid (HFIN.out _ fs (N + 1) M (o - 1) w3 (by omega) (by omega) ((hKX.toOnly _).grown hg3 (fun j hj => .inl (by simp at hj; simp [hj]))) (hM3) (hS3) (by rw [er]; exact I.ends (by unfold isEnd; omega) true hl))
        obtain ⟨nk, t, ⟨ak, ro, s, cc, d⟩, co, x⟩ := nn
        unfold ntC at *
        simp only at *
        clear I hB hKX hEX hSX HFIN HTK hwf er hr hM3 hg3 hS3 hB3 hl k1 k2 hl0 hl5
        rcases hk with rfl | rfl
        all_goals
          go_wp2
          cases gk with
          | zero => omega
          | succ g2 =>
            go_roundg g2
            case measure => omega
            case rel => exact ⟨k + 1, (o - 1), by first | rfl | go_num, by go_num, by omega, by omega, HF2⟩
    · obtain rfl : k = pp := by omega
      obtain ⟨hK, fe, fs, N, M, hN, hM, hE, hS, I, hv⟩ := hI.out
      rw [List.take_of_length_le (by rw [HLV.out]; exact Nat.le_refl _)] at I
      have cO := Lib.hid (open_any (some ⟨gA, oA, sA⟩) c (l.take k) wr (HNA.out.keeps hK) (by rw [HLV.out]; omega) HOKV.out)
      rw [HLV.out] at cO
      have HII := Lib.hid I
      have HK := Lib.hid hK
      have f1 : decide ((k : Int) < (k : Int)) = false := by simp
      have f1' : decide (k < k) = false := by simp
      clear hK hE hS I hv hI
      go_wp2_with fail
      refine cO.out.mono ?_
      rintro e w5 ⟨v, ss, rfl, hO, hrow, hnil, j5⟩
      have hlen := HII.out.open_len hO
      obtain ⟨A2, c2, rfl, -⟩ := own_ints hrow
      have K5 := Lib.hid (HK.out.trans j5)
      have fl : ((ss.length : Int) == o) = true := by simpa using hlen
      clear hO hrow hnil j5
      generalize ss.length = sl at *
      subst hlen
      go_wp2
      go_ret
      exact ⟨by simp, K5.out⟩
end Go.Proofs.Ytfapilgmgjmfeaa
