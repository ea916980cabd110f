/-
  The law AuditOwn, walked where its inputs are small.
-/
import Derived.Test.YtfapilgmgjmfeaaLOwn
import Derived.Test.YtfapilgmgjmfeaaQk
namespace Go.Proofs.Ytfapilgmgjmfeaa
open Go.RowKit

theorem ownB_snoc (room : List UInt8) (l : List Nt) (n : Nt) (u : List UInt8) : ownB room (l ++ [n]) u = if touchP room n ∧ n.act.subj = u then (n.act.kind == 1) else ownB room l u := by
  unfold ownB ownM
  rw [List.foldl_append]
  show ((ownF room (List.foldl (ownF room) (fun _ => none) l) n) u).getD false = _
  unfold ownF
  by_cases ht : touchP room n
  · rw [if_pos ht]
    unfold updS
    by_cases hu : n.act.subj = u
    · rw [if_pos hu.symm, if_pos ⟨ht, hu⟩]; rfl
    · rw [if_neg (fun e => hu e.symm), if_neg (fun h => hu h.2)]
  · rw [if_neg ht, if_neg (fun h => ht h.1)]
theorem ksz {a b : World} (h : Keeps a b) : a.heap.size ≤ b.heap.size := Below.size h
theorem al_keeps {Y x : World} {o : Obj} (k : Keeps (Y.alloc o) x) : x.heap[Y.heap.size]? = some o := (k.block _ (by simp)).trans (heap_alloc_new Y o)
theorem row_low {X w x : World} {v : Value} {l : List Nt} {L : Nat} (hrow : NtRow x X.heap.size v l) (k : Keeps w X) (hL : l.length = L) : x.ownsRow w.heap.size 31 9 v L (flatN l) := by
  subst hL
  exact ownsRow_base_a hrow k.size
theorem row_snoc {x : World} {B g c L : Nat} {l : List Nt} {n : Nt} (hL : l.length = L) (h : x.ownsRow B 31 9 (.slice (some ⟨g, 0, none⟩) (L + 1) c) (L + 1) (flatN l ++ (ntC n).toList)) : NotesAt x (some ⟨g, 0, none⟩) (l ++ [n]) := by
  subst hL
  have h2 : NtRow x B (.slice (some ⟨g, 0, none⟩) (l.length + 1) c) (l ++ [n]) := by
    unfold NtRow
    rw [flatN_app, List.length_append]
    exact h
  obtain ⟨A, c', e, hN⟩ := h2.notes
  injection e with e1 _ _
  subst e1
  exact hN
set_option maxHeartbeats 8000000 in
set_option maxRecDepth 100000 in
theorem own_main (A : Option Addr) (c : Nat) (l : List Nt) (n : Nt) (room user : List UInt8) (w : World) (hA : NotesAt w A l) (hli : lightNs l 60 = true) (hl1 : lightNs [n] 1 = true) (hr : room.length ≤ 300) (hu : user.length ≤ 300)
    (hok : ∀ m, m ∈ l → m.act.subj.length ≤ maxLen) (hokn : n.act.subj.length ≤ maxLen) (had : (A = none ∧ l = [] ∧ c = 0) ∨ ∃ g o s, A = some ⟨g, o, s⟩ ∧ (l = [] ∨ s = none)) :
    Calls Try.prog 4 #[.slice A l.length c, .agg (ntC n), .string (S room), .string (S user)] w (Ret (.bool true) w) := by
  have hlen := (show l.length ≤ 60 from by have h := hli; unfold lightNs at h; simp only [Bool.and_eq_true, decide_eq_true_eq] at h; omega)
  have KX := Lib.hid ((Keeps.refl w).alloc (.cells (ntC n) 31))
  have HNB := Lib.hid (NtB.new w n)
  have cL := Lib.hid (lives_any (w.alloc (.cells (ntC n) 31)))
  have cN : Hid (∀ wx, Keeps w wx → Calls Try.prog 6 #[.slice A l.length c, .int .i64 60] wx (Ret (.bool true) wx)) := Lib.hid (fun wx k => by have := lightNs_any A c l 60 wx (hA.keeps k) (by unfold maxLen; omega); rwa [hli] at this)
  have cM : Hid (∀ wx g, NtB wx g n → Calls Try.prog 6 #[.slice (some ⟨g, 0, none⟩) 1 1, .int .i64 1] wx (Ret (.bool true) wx)) := Lib.hid (fun wx g h => by have := lightNs_any (some ⟨g, 0, none⟩) 1 [n] 1 wx (notes_one h) (by simp [maxLen]); rwa [hl1] at this)
  have cE : Hid (∀ wx u, Keeps w wx → u.length ≤ maxLen → Calls Try.prog 10 #[.slice A l.length c, .string (S room), .string (S u)] wx (Ret (.bool (ownB room l u)) wx)) := Lib.hid (fun wx u k hu => isOwn_any A c l room u wx (hA.keeps k) (by omega) hok hu)
  have cO := Lib.hid (fun wx (k : Keeps w wx) => cE.out wx user k (by unfold maxLen; omega))
  have cC : Hid (∀ wx, Keeps w wx → Calls Try.prog 11 #[.slice A l.length c] wx (OwnNRet l wx)) := Lib.hid (fun wx k => ownN_any A c l wx (hA.keeps k) (by omega) had)
  have cI : Hid (∀ wx g cap, NotesAt wx (some ⟨g, 0, none⟩) (l ++ [n]) → Calls Try.prog 10 #[.slice (some ⟨g, 0, none⟩) (l.length + 1) cap, .string (S room), .string (S user)] wx (Ret (.bool (ownB room (l ++ [n]) user)) wx)) := Lib.hid (fun wx g cap h => by
    have := isOwn_any (some ⟨g, 0, none⟩) cap (l ++ [n]) room user wx h (by simp; omega) (fun m hm => by
      rcases List.mem_append.1 hm with hm | hm
      · exact hok m hm
      · rw [List.mem_singleton.1 hm]; exact hokn) (by unfold maxLen; omega)
    rwa [List.length_append] at this)
  have cW : Hid (∀ wx, Keeps w wx → Calls Try.prog 12 #[.slice A l.length c, .string (S room)] wx (OwnedRet room l wx)) := Lib.hid (fun wx k => owned_any A c l room wx (hA.keeps k) (by omega) hok)
  have HIS := Lib.hid (ownB_snoc room l n user)
  obtain ⟨i31, hi, ⟨z, hz, hzs⟩, hz1, hz2⟩ := info31
  have f1 : ¬ (300 : Int) < (room.length : Int) := by omega
  have f2 : ¬ (300 : Int) < (user.length : Int) := by omega
  have f1' : decide ((300 : Int) < (room.length : Int)) = false := by simpa using f1
  have f2' : decide ((300 : Int) < (user.length : Int)) = false := by simpa using f2
  have sr : (S room).size = room.length := rfl
  have su : (S user).size = user.length := rfl
  have HFL := Lib.hid (flatN_len l)
  have HLL := Lib.hid (rfl : l.length = l.length)
  generalize hL : l.length = L at *
  have HL := Lib.hid hL
  generalize hwas : ownB room l user = was at *
  have HWAS := Lib.hid hwas
  generalize ownB room (l ++ [n]) user = is at *
  generalize hW : w.alloc (.cells (ntC n) 31) = W at *
  unfold ntC at hW ⊢
  clear hA hli hl1 had hok hokn hL hwas HLL
  go_enter Try.func4, Try.ntmps4
  go_wp2_with fail
  clear hW
  refine cL.out.mono ?_
  rintro e w1 ⟨rfl, k1⟩
  have K1 := Lib.hid (KX.out.trans k1)
  have B1 := Lib.hid (HNB.out.keeps k1)
  clear k1
  go_wp2_with fail
  refine (cN.out _ K1.out).mono ?_
  rintro e w2 ⟨rfl, k2⟩
  have K2 := Lib.hid (K1.out.trans k2)
  have B2 := Lib.hid (B1.out.keeps k2)
  clear k2
  obtain ⟨d0, d1, d2, d3, d4, d5, d6, d7, d8⟩ := B2.out.cells
  have cM2 := Lib.hid (cM.out (w2.alloc (.cells (ntC n) 31)) _ (NtB.new w2 n))
  have K3 := Lib.hid (K2.out.alloc (.cells (ntC n) 31))
  have B3 := Lib.hid (B2.out.keeps ((Keeps.refl w2).alloc (.cells (ntC n) 31)))
  unfold ntC at cM2 K3 B3
  go_wp2_with fail
  refine cM2.out.mono ?_
  rintro e w3 ⟨rfl, k3⟩
  have K4 := Lib.hid (K3.out.trans k3)
  have B4 : Hid (NtB w3 w.heap.size n) := Lib.hid (B3.out.keeps k3)
  clear k3 d0 d1 d2 d3 d4 d5 d6 d7 d8
  obtain ⟨d0, d1, d2, d3, d4, d5, d6, d7, d8⟩ := B4.out.cells
  clear cM2 cM cL cN KX HNB K1 K2 K3 B1 B2 B3
  have J : Hid (Keeps w3 w3) := Lib.hid (Keeps.refl w3)
  have hw3 : w.heap.size < w3.heap.size := blk_lt B4.out
  have hnews : ∀ u ∈ [Value.int .i64 n.kind, .int .i64 n.txn, .int .i64 n.act.kind, .string (S n.act.room), .string (S n.act.subj), .string (S n.act.reason), .string (S n.act.deny), .int .i64 n.code, .string (S n.text)], u.oneCell' = true := by simp [Value.oneCell']
  go_wp2_with fail
  go_region_law (first
    | (refine step_append_lies _ (by rfl) (.tmp 41) (.tmp 43) 22 (by rfl) w3.heap.size 31 i31 z 9 112 Try.underlying22 hi hz hz1 hz2 hzs (by decide) v2 L (flatN l) (by kernel_rfl) (by first | with_reducible exact hR.out | with_reducible exact hR.out.alloc _) ⟨x2.heap.size, 0, none⟩ 1 1 [.int .i64 n.kind, .int .i64 n.txn, .int .i64 n.act.kind, .string (S n.act.room), .string (S n.act.subj), .string (S n.act.reason), .string (S n.act.deny), .int .i64 n.code, .string (S n.text)] (by kernel_rfl) (by rfl) (World.news_of_block (cs := #[.int .i64 n.kind, .int .i64 n.txn, .int .i64 n.act.kind, .string (S n.act.room), .string (S n.act.subj), .string (S n.act.reason), .string (S n.act.deny), .int .i64 n.code, .string (S n.text)]) (t := 31) (fr := (0, 0)) (heap_alloc_new _ _)) hnews (by decide) (by unfold maxLen; omega) (by omega) (by first | with_reducible exact ksz J.out | with_reducible exact ksz (J.out.alloc _)) _ rfl ?_; intro g4 c4 x4 hown4 hgrow4 _ _; have N4 := Lib.hid (row_snoc (n := n) HL.out hown4); (first | have j : Keeps w3 x4 := J.out.grown hgrow4 J.out.size (fun q hq => (World.ownsRow.lt hR.out q hq).1) | have j : Keeps w3 x4 := (J.out.alloc _).grown hgrow4 (J.out.alloc _).size (fun q hq => (World.ownsRow.lt hR.out q hq).1)); have k := Keeps.refl w3; clear hown4 hgrow4; clear J; have J := Lib.hid j; have B5 := B4.out.keeps j; clear d0 d1 d2 d3 d4 d5 d6 d7 d8; obtain ⟨d0, d1, d2, d3, d4, d5, d6, d7, d8⟩ := B5.cells; clear B5 j k)
    | (refine step_append_lies _ (by rfl) (.tmp 41) (.tmp 43) 22 (by rfl) w3.heap.size 31 i31 z 9 112 Try.underlying22 hi hz hz1 hz2 hzs (by decide) v2 L (flatN l) (by kernel_rfl) (by first | with_reducible exact hR.out | with_reducible exact hR.out.alloc _) ⟨x1.heap.size, 0, none⟩ 1 1 [.int .i64 n.kind, .int .i64 n.txn, .int .i64 n.act.kind, .string (S n.act.room), .string (S n.act.subj), .string (S n.act.reason), .string (S n.act.deny), .int .i64 n.code, .string (S n.text)] (by kernel_rfl) (by rfl) (World.news_of_block (cs := #[.int .i64 n.kind, .int .i64 n.txn, .int .i64 n.act.kind, .string (S n.act.room), .string (S n.act.subj), .string (S n.act.reason), .string (S n.act.deny), .int .i64 n.code, .string (S n.text)]) (t := 31) (fr := (0, 0)) (NB.out)) hnews (by decide) (by unfold maxLen; omega) (by omega) (by first | with_reducible exact ksz J.out | with_reducible exact ksz (J.out.alloc _)) _ rfl ?_; intro g4 c4 x4 hown4 hgrow4 _ _; have N4 := Lib.hid (row_snoc (n := n) HL.out hown4); (first | have j : Keeps w3 x4 := J.out.grown hgrow4 J.out.size (fun q hq => (World.ownsRow.lt hR.out q hq).1) | have j : Keeps w3 x4 := (J.out.alloc _).grown hgrow4 (J.out.alloc _).size (fun q hq => (World.ownsRow.lt hR.out q hq).1)); have k := Keeps.refl w3; clear hown4 hgrow4; clear J; have J := Lib.hid j; have B5 := B4.out.keeps j; clear d0 d1 d2 d3 d4 d5 d6 d7 d8; obtain ⟨d0, d1, d2, d3, d4, d5, d6, d7, d8⟩ := B5.cells; clear B5 j k)
    | (refine step_append_lies _ (by rfl) (.tmp 41) (.tmp 43) 22 (by rfl) w3.heap.size 31 i31 z 9 112 Try.underlying22 hi hz hz1 hz2 hzs (by decide) v2 L (flatN l) (by kernel_rfl) (by first | with_reducible exact hR.out | with_reducible exact hR.out.alloc _) ⟨w3.heap.size, 0, none⟩ 1 1 [.int .i64 n.kind, .int .i64 n.txn, .int .i64 n.act.kind, .string (S n.act.room), .string (S n.act.subj), .string (S n.act.reason), .string (S n.act.deny), .int .i64 n.code, .string (S n.text)] (by kernel_rfl) (by rfl) (World.news_of_block (cs := #[.int .i64 n.kind, .int .i64 n.txn, .int .i64 n.act.kind, .string (S n.act.room), .string (S n.act.subj), .string (S n.act.reason), .string (S n.act.deny), .int .i64 n.code, .string (S n.text)]) (t := 31) (fr := (0, 0)) (NB.out)) hnews (by decide) (by unfold maxLen; omega) (by omega) (by first | with_reducible exact ksz J.out | with_reducible exact ksz (J.out.alloc _)) _ rfl ?_; intro g4 c4 x4 hown4 hgrow4 _ _; have N4 := Lib.hid (row_snoc (n := n) HL.out hown4); (first | have j : Keeps w3 x4 := J.out.grown hgrow4 J.out.size (fun q hq => (World.ownsRow.lt hR.out q hq).1) | have j : Keeps w3 x4 := (J.out.alloc _).grown hgrow4 (J.out.alloc _).size (fun q hq => (World.ownsRow.lt hR.out q hq).1)); have k := Keeps.refl w3; clear hown4 hgrow4; clear J; have J := Lib.hid j; have B5 := B4.out.keeps j; clear d0 d1 d2 d3 d4 d5 d6 d7 d8; obtain ⟨d0, d1, d2, d3, d4, d5, d6, d7, d8⟩ := B5.cells; clear B5 j k)
    | (go_simp; go_at_call 11; refine (cC.out _ (K4.out.trans (by first | with_reducible exact J.out | with_reducible exact J.out.alloc _ | with_reducible exact J.out.drew | with_reducible exact J.out.drew.alloc _ | with_reducible exact (J.out.alloc _).drew))).mono ?_; rintro e x2 ⟨v2, rfl, hrow, k⟩; have hR := Lib.hid (row_low hrow (by first | with_reducible exact J.out | with_reducible exact J.out.alloc _ | with_reducible exact J.out.drew | with_reducible exact J.out.drew.alloc _ | with_reducible exact (J.out.alloc _).drew) HL.out); clear hrow; (first | have NB := Lib.hid (al_keeps k) | have NB := Lib.hid (al_keeps (Keeps.ofDrew k)) | have NB := Lib.hid ((k.block _ (blk_lt NB.out)).trans NB.out) | skip); (first | have j := J.out.trans k | have j := (J.out.alloc _).trans k | have j := J.out.drew.trans k | have j := (J.out.drew.alloc _).trans k | have j := (J.out.alloc _).drew.trans k); clear J; have J := Lib.hid j; have B5 := B4.out.keeps j; clear d0 d1 d2 d3 d4 d5 d6 d7 d8; obtain ⟨d0, d1, d2, d3, d4, d5, d6, d7, d8⟩ := B5.cells; clear B5 j k)
    | (go_simp; go_at_call 10; have zz := cI.out x4 g4 c4 N4.out; refine zz.mono ?_; clear zz; rintro e x5 ⟨rfl, k⟩; have j := J.out.trans k; clear J; have J := Lib.hid j; have B5 := B4.out.keeps j; clear d0 d1 d2 d3 d4 d5 d6 d7 d8; obtain ⟨d0, d1, d2, d3, d4, d5, d6, d7, d8⟩ := B5.cells; clear B5 j k)
    | (go_simp; go_at_call 10; refine (cO.out _ (K4.out.trans (by first | with_reducible exact J.out | with_reducible exact J.out.alloc _ | with_reducible exact J.out.drew | with_reducible exact J.out.drew.alloc _ | with_reducible exact (J.out.alloc _).drew))).mono ?_; rintro e x1 ⟨rfl, k⟩; (first | have NB := Lib.hid (al_keeps k) | have NB := Lib.hid (al_keeps (Keeps.ofDrew k)) | have NB := Lib.hid ((k.block _ (blk_lt NB.out)).trans NB.out) | skip); (first | have j := J.out.trans k | have j := (J.out.alloc _).trans k | have j := J.out.drew.trans k | have j := (J.out.drew.alloc _).trans k | have j := (J.out.alloc _).drew.trans k); clear J; have J := Lib.hid j; have B5 := B4.out.keeps j; clear d0 d1 d2 d3 d4 d5 d6 d7 d8; obtain ⟨d0, d1, d2, d3, d4, d5, d6, d7, d8⟩ := B5.cells; clear B5 j k))
  all_goals
    have K6 := Lib.hid (K4.out.trans J.out)
    have his := HIS.out
    clear cO cC cI HIS hnews
    try clear hR
    try clear N4
    try clear NB
    as_aux_lemma =>
      by_cases h5 : n.kind = 5
      · have f5 : (n.kind == 5) = true := by simpa using h5
        by_cases hro : n.act.room = room
        · have fr : ((S n.act.room).toList == (S room).toList) = true := by rw [S_eq]; simpa using hro
          by_cases hsu : n.act.subj = user
          · have fs : ((S n.act.subj).toList == (S user).toList) = true := by rw [S_eq]; simpa using hsu
            by_cases h1 : n.act.kind = 1
            · have g1 : (n.act.kind == 1) = true := by simpa using h1
              obtain rfl : is = true := by rw [his, if_pos ⟨⟨h5, hro, .inl h1⟩, hsu⟩, g1]
              clear his
              as_aux_lemma =>
                go_wp2_with fail
                refine (cW.out _ K6.out).mono ?_
                rintro e x6 ⟨A2, ss, c2, rfl, hrise, hmem, hst, hkl, hsl, hsc, k6⟩
                have K7 := Lib.hid (K6.out.trans k6)
                have HRISE := Lib.hid hrise
                have HMEM := Lib.hid hmem
                have HKL := Lib.hid hkl
                have HST := Lib.hid hst
                clear k6 hrise hmem hkl hst K6
                generalize hm : ss.length = m at *
                have HM := Lib.hid hm
                clear hm
                go_wp2
                go_loopg [13, 14] (m + 1) (fun g b i wr => ∃ k : Nat, b = .bool (decide (user ∈ ss.take k)) ∧ i = .int .i64 (k : Int) ∧ k ≤ m ∧ m - k < g ∧ Hid (Keeps x6 wr))
                case atStart => exact ⟨0, by simp, rfl, Nat.zero_le _, by omega, Lib.hid (Keeps.refl _)⟩
                case round =>
                  obtain ⟨k, rfl, rfl, hkm, hkg, hI⟩ := hrel
                  by_cases hlt : k < m
                  · have hlt' : k < ss.length := by rw [HM.out]; exact hlt
                    obtain ⟨g, o, hAe, hc0⟩ := (HST.out.keeps hI.out) k hlt'
                    subst hAe
                    have hin : (ss[k]'hlt') ∈ ss := List.getElem_mem hlt'
                    have hown := (HMEM.out _).1 hin
                    have hkl0 := HKL.out _ hin
                    have htk : ss.take (k + 1) = ss.take k ++ [ss[k]'hlt'] := List.take_succ_eq_append_getElem hlt'
                    have hdec : (decide (user ∈ ss.take k) || decide (ss[k]'hlt' = user)) = decide (user ∈ ss.take (k + 1)) := by
                      rw [Bool.eq_iff_iff]
                      simp only [Bool.or_eq_true, decide_eq_true_eq, htk, List.mem_append, List.mem_singleton]
                      constructor
                      · rintro (h | h)
                        · exact .inl h
                        · exact .inr h.symm
                      · rintro (h | h)
                        · exact .inl h
                        · exact .inr h.symm
                    have f1 : decide ((k : Int) < (m : Int)) = true := by simp; omega
                    have f1' : decide (k < m) = true := by simpa using hlt
                    have q1 : (0 : Int) ≤ (k : Int) := by omega
                    have q2 : (k : Int) < (m : Int) := by omega
                    have HDEC := Lib.hid hdec
                    have seq := S_eq (ss[k]'hlt') user
                    have cE2 := Lib.hid (fun (wx : World) (kx : Keeps x6 wx) => cE.out wx (ss[k]'hlt') (K7.out.trans kx) hkl0)
                    rw [hown] at cE2
                    clear hin hown hkl0 htk hdec
                    cases k with
                    | zero =>
                      generalize ss[0]'hlt' = u at *
                      clear hlt' f1 f1' q1 q2
                      clear HRISE HMEM HKL HWAS K4 J B4 hw3
                      simp only [Nat.add_zero] at hc0
                      have hcq : ∀ kx : Wl wr, kx.x.cell? ⟨g, o, none⟩ = some (.string (S u)) := fun kx => kx.k.cell hc0
                      have CE3 : Hid (∀ kx : Wl wr, _) := Lib.hid (fun kx => quiet_call (w := wr) kx.k (cE2.out kx.x (hI.out.trans kx.k)))
                      clear cE2
                      have HC0 := Lib.hid hc0
                      clear hc0
                      go_wp2_with fail
                      refine wp_region_keeps (by kernel_rfl) (by kernel_rfl) ?_
                      repeat (go_big_quiet_step (exact CE3.out _))
                      refine wpQuiet_nil ?_
                      rintro _ ⟨⟨x7, k7⟩, rfl⟩
                      have hI2 := Lib.hid (hI.out.trans k7)
                      have hc1 := k7.cell HC0.out
                      clear hcq CE3 HC0 k7 hI
                      have z0 : decide (user ∈ ss.take 0) = false := by simp
                      go_wp2_with fail
                      cases gk with
                      | zero => omega
                      | succ g2 =>
                        go_roundg g2
                        case measure => omega
                        case rel =>
                          refine ⟨1, ?_, rfl, by omega, by omega, hI2⟩
                          have hd := HDEC.out
                          rw [z0, Bool.false_or] at hd
                          rw [hd]
                    | succ j =>
                      have hj' : j < ss.length := by omega
                      obtain ⟨gg, oo, hAe, hcm⟩ := (HST.out.keeps hI.out) j hj'
                      injection hAe with hAe
                      injection hAe with e1 e2
                      subst e1 e2
                      have hlt2 : (ss[j]'hj') < (ss[j + 1]'hlt') := (List.pairwise_iff_getElem.1 HRISE.out) j (j + 1) hj' hlt' (by omega)
                      have hb : Op.bytesLess (S (ss[j]'hj')).toList (S (ss[j + 1]'hlt')).toList = true := by rw [bytesLess_eq, S_list, S_list]; simpa using hlt2
                      clear hlt2
                      generalize ss[j + 1]'hlt' = u at *
                      generalize ss[j]'hj' = v at *
                      clear hlt' hj'
                      clear HRISE HMEM HKL HWAS K4 J B4 hw3
                      have hcq : ∀ kx : Wl wr, kx.x.cell? ⟨g, o + (j + 1), none⟩ = some (.string (S u)) := fun kx => kx.k.cell hc0
                      have hcr : ∀ kx : Wl wr, kx.x.cell? ⟨g, o + j, none⟩ = some (.string (S v)) := fun kx => kx.k.cell hcm
                      have CE3 : Hid (∀ kx : Wl wr, _) := Lib.hid (fun kx => quiet_call (w := wr) kx.k (cE2.out kx.x (hI.out.trans kx.k)))
                      clear cE2
                      have HC0 := Lib.hid hc0
                      clear hc0 hcm
                      have g0 : (0 : Int) < ((j + 1 : Nat) : Int) := by omega
                      have g1' : ((j + 1 : Nat) : Int) - 1 = (j : Int) := by omega
                      have g2' : (j : Int) < (m : Int) := by omega
                      have g3' : (0 : Int) ≤ (j : Int) := by omega
                      go_wp2_with fail
                      refine wp_region_keeps (by kernel_rfl) (by kernel_rfl) ?_
                      repeat (go_big_quiet_step (exact CE3.out _))
                      refine wpQuiet_nil ?_
                      rintro _ ⟨⟨x7, k7⟩, rfl⟩
                      have hI2 := Lib.hid (hI.out.trans k7)
                      have hc1 := k7.cell HC0.out
                      clear hcq hcr CE3 HC0 k7 hI
                      have hd := HDEC.out
                      generalize hq : decide (user ∈ ss.take (j + 1)) = q at *
                      clear hq HDEC
                      cases q <;>
                      ( go_wp2_with fail
                        cases gk with
                        | zero => omega
                        | succ g2 =>
                          go_roundg g2
                          case measure => omega
                          case rel =>
                            refine ⟨j + 1 + 1, ?_, by simp, by omega, by omega, hI2⟩
                            first | rfl | exact congrArg Value.bool hd)
                  · obtain rfl : k = m := by omega
                    have hfin : decide (user ∈ ss.take k) = was := by
                      rw [List.take_of_length_le (by rw [HM.out]; exact Nat.le_refl _), ← HWAS.out]
                      rw [Bool.eq_iff_iff, decide_eq_true_eq]
                      exact HMEM.out user
                    have HK9 := Lib.hid (K7.out.trans hI.out)
                    have f1 : decide ((k : Int) < (k : Int)) = false := by simp
                    have f1' : decide (k < k) = false := by simp
                    rw [hfin]
                    clear hfin hI
                    go_wp2
                    go_ret
                    exact ⟨by simp, HK9.out⟩
            · have g1 : (n.act.kind == 1) = false := by simpa using h1
              by_cases h2 : n.act.kind = 2
              · have g2 : (n.act.kind == 2) = true := by simpa using h2
                obtain rfl : is = false := by rw [his, if_pos ⟨⟨h5, hro, .inr h2⟩, hsu⟩, g1]
                clear his
                as_aux_lemma =>
                  go_wp2_with fail
                  refine (cW.out _ K6.out).mono ?_
                  rintro e x6 ⟨A2, ss, c2, rfl, hrise, hmem, hst, hkl, hsl, hsc, k6⟩
                  have K7 := Lib.hid (K6.out.trans k6)
                  have HRISE := Lib.hid hrise
                  have HMEM := Lib.hid hmem
                  have HKL := Lib.hid hkl
                  have HST := Lib.hid hst
                  clear k6 hrise hmem hkl hst K6
                  generalize hm : ss.length = m at *
                  have HM := Lib.hid hm
                  clear hm
                  go_wp2
                  go_loopg [13, 14] (m + 1) (fun g b i wr => ∃ k : Nat, b = .bool (decide (user ∈ ss.take k)) ∧ i = .int .i64 (k : Int) ∧ k ≤ m ∧ m - k < g ∧ Hid (Keeps x6 wr))
                  case atStart => exact ⟨0, by simp, rfl, Nat.zero_le _, by omega, Lib.hid (Keeps.refl _)⟩
                  case round =>
                    obtain ⟨k, rfl, rfl, hkm, hkg, hI⟩ := hrel
                    by_cases hlt : k < m
                    · have hlt' : k < ss.length := by rw [HM.out]; exact hlt
                      obtain ⟨g, o, hAe, hc0⟩ := (HST.out.keeps hI.out) k hlt'
                      subst hAe
                      have hin : (ss[k]'hlt') ∈ ss := List.getElem_mem hlt'
                      have hown := (HMEM.out _).1 hin
                      have hkl0 := HKL.out _ hin
                      have htk : ss.take (k + 1) = ss.take k ++ [ss[k]'hlt'] := List.take_succ_eq_append_getElem hlt'
                      have hdec : (decide (user ∈ ss.take k) || decide (ss[k]'hlt' = user)) = decide (user ∈ ss.take (k + 1)) := by
                        rw [Bool.eq_iff_iff]
                        simp only [Bool.or_eq_true, decide_eq_true_eq, htk, List.mem_append, List.mem_singleton]
                        constructor
                        · rintro (h | h)
                          · exact .inl h
                          · exact .inr h.symm
                        · rintro (h | h)
                          · exact .inl h
                          · exact .inr h.symm
                      have f1 : decide ((k : Int) < (m : Int)) = true := by simp; omega
                      have f1' : decide (k < m) = true := by simpa using hlt
                      have q1 : (0 : Int) ≤ (k : Int) := by omega
                      have q2 : (k : Int) < (m : Int) := by omega
                      have HDEC := Lib.hid hdec
                      have seq := S_eq (ss[k]'hlt') user
                      have cE2 := Lib.hid (fun (wx : World) (kx : Keeps x6 wx) => cE.out wx (ss[k]'hlt') (K7.out.trans kx) hkl0)
                      rw [hown] at cE2
                      clear hin hown hkl0 htk hdec
                      cases k with
                      | zero =>
                        generalize ss[0]'hlt' = u at *
                        clear hlt' f1 f1' q1 q2
                        clear HRISE HMEM HKL HWAS K4 J B4 hw3
                        simp only [Nat.add_zero] at hc0
                        have hcq : ∀ kx : Wl wr, kx.x.cell? ⟨g, o, none⟩ = some (.string (S u)) := fun kx => kx.k.cell hc0
                        have CE3 : Hid (∀ kx : Wl wr, _) := Lib.hid (fun kx => quiet_call (w := wr) kx.k (cE2.out kx.x (hI.out.trans kx.k)))
                        clear cE2
                        have HC0 := Lib.hid hc0
                        clear hc0
                        go_wp2_with fail
                        refine wp_region_keeps (by kernel_rfl) (by kernel_rfl) ?_
                        repeat (go_big_quiet_step (exact CE3.out _))
                        refine wpQuiet_nil ?_
                        rintro _ ⟨⟨x7, k7⟩, rfl⟩
                        have hI2 := Lib.hid (hI.out.trans k7)
                        have hc1 := k7.cell HC0.out
                        clear hcq CE3 HC0 k7 hI
                        have z0 : decide (user ∈ ss.take 0) = false := by simp
                        go_wp2_with fail
                        cases gk with
                        | zero => omega
                        | succ g2 =>
                          go_roundg g2
                          case measure => omega
                          case rel =>
                            refine ⟨1, ?_, rfl, by omega, by omega, hI2⟩
                            have hd := HDEC.out
                            rw [z0, Bool.false_or] at hd
                            rw [hd]
                      | succ j =>
                        have hj' : j < ss.length := by omega
                        obtain ⟨gg, oo, hAe, hcm⟩ := (HST.out.keeps hI.out) j hj'
                        injection hAe with hAe
                        injection hAe with e1 e2
                        subst e1 e2
                        have hlt2 : (ss[j]'hj') < (ss[j + 1]'hlt') := (List.pairwise_iff_getElem.1 HRISE.out) j (j + 1) hj' hlt' (by omega)
                        have hb : Op.bytesLess (S (ss[j]'hj')).toList (S (ss[j + 1]'hlt')).toList = true := by rw [bytesLess_eq, S_list, S_list]; simpa using hlt2
                        clear hlt2
                        generalize ss[j + 1]'hlt' = u at *
                        generalize ss[j]'hj' = v at *
                        clear hlt' hj'
                        clear HRISE HMEM HKL HWAS K4 J B4 hw3
                        have hcq : ∀ kx : Wl wr, kx.x.cell? ⟨g, o + (j + 1), none⟩ = some (.string (S u)) := fun kx => kx.k.cell hc0
                        have hcr : ∀ kx : Wl wr, kx.x.cell? ⟨g, o + j, none⟩ = some (.string (S v)) := fun kx => kx.k.cell hcm
                        have CE3 : Hid (∀ kx : Wl wr, _) := Lib.hid (fun kx => quiet_call (w := wr) kx.k (cE2.out kx.x (hI.out.trans kx.k)))
                        clear cE2
                        have HC0 := Lib.hid hc0
                        clear hc0 hcm
                        have g0 : (0 : Int) < ((j + 1 : Nat) : Int) := by omega
                        have g1' : ((j + 1 : Nat) : Int) - 1 = (j : Int) := by omega
                        have g2' : (j : Int) < (m : Int) := by omega
                        have g3' : (0 : Int) ≤ (j : Int) := by omega
                        go_wp2_with fail
                        refine wp_region_keeps (by kernel_rfl) (by kernel_rfl) ?_
                        repeat (go_big_quiet_step (exact CE3.out _))
                        refine wpQuiet_nil ?_
                        rintro _ ⟨⟨x7, k7⟩, rfl⟩
                        have hI2 := Lib.hid (hI.out.trans k7)
                        have hc1 := k7.cell HC0.out
                        clear hcq hcr CE3 HC0 k7 hI
                        have hd := HDEC.out
                        generalize hq : decide (user ∈ ss.take (j + 1)) = q at *
                        clear hq HDEC
                        cases q <;>
                        ( go_wp2_with fail
                          cases gk with
                          | zero => omega
                          | succ g2 =>
                            go_roundg g2
                            case measure => omega
                            case rel =>
                              refine ⟨j + 1 + 1, ?_, by simp, by omega, by omega, hI2⟩
                              first | rfl | exact congrArg Value.bool hd)
                    · obtain rfl : k = m := by omega
                      have hfin : decide (user ∈ ss.take k) = was := by
                        rw [List.take_of_length_le (by rw [HM.out]; exact Nat.le_refl _), ← HWAS.out]
                        rw [Bool.eq_iff_iff, decide_eq_true_eq]
                        exact HMEM.out user
                      have HK9 := Lib.hid (K7.out.trans hI.out)
                      have f1 : decide ((k : Int) < (k : Int)) = false := by simp
                      have f1' : decide (k < k) = false := by simp
                      rw [hfin]
                      clear hfin hI
                      go_wp2
                      go_ret
                      exact ⟨by simp, HK9.out⟩
              · have g2 : (n.act.kind == 2) = false := by simpa using h2
                obtain rfl : was = is := by rw [his, if_neg (fun h => h.1.2.2.elim h1 h2)]
                clear his
                as_aux_lemma =>
                  go_wp2_with fail
                  refine (cW.out _ K6.out).mono ?_
                  rintro e x6 ⟨A2, ss, c2, rfl, hrise, hmem, hst, hkl, hsl, hsc, k6⟩
                  have K7 := Lib.hid (K6.out.trans k6)
                  have HRISE := Lib.hid hrise
                  have HMEM := Lib.hid hmem
                  have HKL := Lib.hid hkl
                  have HST := Lib.hid hst
                  clear k6 hrise hmem hkl hst K6
                  generalize hm : ss.length = m at *
                  have HM := Lib.hid hm
                  clear hm
                  go_wp2
                  go_loopg [13, 14] (m + 1) (fun g b i wr => ∃ k : Nat, b = .bool (decide (user ∈ ss.take k)) ∧ i = .int .i64 (k : Int) ∧ k ≤ m ∧ m - k < g ∧ Hid (Keeps x6 wr))
                  case atStart => exact ⟨0, by simp, rfl, Nat.zero_le _, by omega, Lib.hid (Keeps.refl _)⟩
                  case round =>
                    obtain ⟨k, rfl, rfl, hkm, hkg, hI⟩ := hrel
                    by_cases hlt : k < m
                    · have hlt' : k < ss.length := by rw [HM.out]; exact hlt
                      obtain ⟨g, o, hAe, hc0⟩ := (HST.out.keeps hI.out) k hlt'
                      subst hAe
                      have hin : (ss[k]'hlt') ∈ ss := List.getElem_mem hlt'
                      have hown := (HMEM.out _).1 hin
                      have hkl0 := HKL.out _ hin
                      have htk : ss.take (k + 1) = ss.take k ++ [ss[k]'hlt'] := List.take_succ_eq_append_getElem hlt'
                      have hdec : (decide (user ∈ ss.take k) || decide (ss[k]'hlt' = user)) = decide (user ∈ ss.take (k + 1)) := by
                        rw [Bool.eq_iff_iff]
                        simp only [Bool.or_eq_true, decide_eq_true_eq, htk, List.mem_append, List.mem_singleton]
                        constructor
                        · rintro (h | h)
                          · exact .inl h
                          · exact .inr h.symm
                        · rintro (h | h)
                          · exact .inl h
                          · exact .inr h.symm
                      have f1 : decide ((k : Int) < (m : Int)) = true := by simp; omega
                      have f1' : decide (k < m) = true := by simpa using hlt
                      have q1 : (0 : Int) ≤ (k : Int) := by omega
                      have q2 : (k : Int) < (m : Int) := by omega
                      have HDEC := Lib.hid hdec
                      have seq := S_eq (ss[k]'hlt') user
                      have cE2 := Lib.hid (fun (wx : World) (kx : Keeps x6 wx) => cE.out wx (ss[k]'hlt') (K7.out.trans kx) hkl0)
                      rw [hown] at cE2
                      clear hin hown hkl0 htk hdec
                      cases k with
                      | zero =>
                        generalize ss[0]'hlt' = u at *
                        clear hlt' f1 f1' q1 q2
                        clear HRISE HMEM HKL HWAS K4 J B4 hw3
                        simp only [Nat.add_zero] at hc0
                        have hcq : ∀ kx : Wl wr, kx.x.cell? ⟨g, o, none⟩ = some (.string (S u)) := fun kx => kx.k.cell hc0
                        have CE3 : Hid (∀ kx : Wl wr, _) := Lib.hid (fun kx => quiet_call (w := wr) kx.k (cE2.out kx.x (hI.out.trans kx.k)))
                        clear cE2
                        have HC0 := Lib.hid hc0
                        clear hc0
                        go_wp2_with fail
                        refine wp_region_keeps (by kernel_rfl) (by kernel_rfl) ?_
                        repeat (go_big_quiet_step (exact CE3.out _))
                        refine wpQuiet_nil ?_
                        rintro _ ⟨⟨x7, k7⟩, rfl⟩
                        have hI2 := Lib.hid (hI.out.trans k7)
                        have hc1 := k7.cell HC0.out
                        clear hcq CE3 HC0 k7 hI
                        have z0 : decide (user ∈ ss.take 0) = false := by simp
                        go_wp2_with fail
                        cases gk with
                        | zero => omega
                        | succ g2 =>
                          go_roundg g2
                          case measure => omega
                          case rel =>
                            refine ⟨1, ?_, rfl, by omega, by omega, hI2⟩
                            have hd := HDEC.out
                            rw [z0, Bool.false_or] at hd
                            rw [hd]
                      | succ j =>
                        have hj' : j < ss.length := by omega
                        obtain ⟨gg, oo, hAe, hcm⟩ := (HST.out.keeps hI.out) j hj'
                        injection hAe with hAe
                        injection hAe with e1 e2
                        subst e1 e2
                        have hlt2 : (ss[j]'hj') < (ss[j + 1]'hlt') := (List.pairwise_iff_getElem.1 HRISE.out) j (j + 1) hj' hlt' (by omega)
                        have hb : Op.bytesLess (S (ss[j]'hj')).toList (S (ss[j + 1]'hlt')).toList = true := by rw [bytesLess_eq, S_list, S_list]; simpa using hlt2
                        clear hlt2
                        generalize ss[j + 1]'hlt' = u at *
                        generalize ss[j]'hj' = v at *
                        clear hlt' hj'
                        clear HRISE HMEM HKL HWAS K4 J B4 hw3
                        have hcq : ∀ kx : Wl wr, kx.x.cell? ⟨g, o + (j + 1), none⟩ = some (.string (S u)) := fun kx => kx.k.cell hc0
                        have hcr : ∀ kx : Wl wr, kx.x.cell? ⟨g, o + j, none⟩ = some (.string (S v)) := fun kx => kx.k.cell hcm
                        have CE3 : Hid (∀ kx : Wl wr, _) := Lib.hid (fun kx => quiet_call (w := wr) kx.k (cE2.out kx.x (hI.out.trans kx.k)))
                        clear cE2
                        have HC0 := Lib.hid hc0
                        clear hc0 hcm
                        have g0 : (0 : Int) < ((j + 1 : Nat) : Int) := by omega
                        have g1' : ((j + 1 : Nat) : Int) - 1 = (j : Int) := by omega
                        have g2' : (j : Int) < (m : Int) := by omega
                        have g3' : (0 : Int) ≤ (j : Int) := by omega
                        go_wp2_with fail
                        refine wp_region_keeps (by kernel_rfl) (by kernel_rfl) ?_
                        repeat (go_big_quiet_step (exact CE3.out _))
                        refine wpQuiet_nil ?_
                        rintro _ ⟨⟨x7, k7⟩, rfl⟩
                        have hI2 := Lib.hid (hI.out.trans k7)
                        have hc1 := k7.cell HC0.out
                        clear hcq hcr CE3 HC0 k7 hI
                        have hd := HDEC.out
                        generalize hq : decide (user ∈ ss.take (j + 1)) = q at *
                        clear hq HDEC
                        cases q <;>
                        ( go_wp2_with fail
                          cases gk with
                          | zero => omega
                          | succ g2 =>
                            go_roundg g2
                            case measure => omega
                            case rel =>
                              refine ⟨j + 1 + 1, ?_, by simp, by omega, by omega, hI2⟩
                              first | rfl | exact congrArg Value.bool hd)
                    · obtain rfl : k = m := by omega
                      have hfin : decide (user ∈ ss.take k) = was := by
                        rw [List.take_of_length_le (by rw [HM.out]; exact Nat.le_refl _), ← HWAS.out]
                        rw [Bool.eq_iff_iff, decide_eq_true_eq]
                        exact HMEM.out user
                      have HK9 := Lib.hid (K7.out.trans hI.out)
                      have f1 : decide ((k : Int) < (k : Int)) = false := by simp
                      have f1' : decide (k < k) = false := by simp
                      rw [hfin]
                      clear hfin hI
                      go_wp2
                      go_ret
                      exact ⟨by simp, HK9.out⟩
          · have fs : ((S n.act.subj).toList == (S user).toList) = false := by rw [S_eq]; simpa using hsu
            obtain rfl : was = is := by rw [his, if_neg (fun h => hsu h.2)]
            clear his
            as_aux_lemma =>
              go_wp2_with fail
              refine (cW.out _ K6.out).mono ?_
              rintro e x6 ⟨A2, ss, c2, rfl, hrise, hmem, hst, hkl, hsl, hsc, k6⟩
              have K7 := Lib.hid (K6.out.trans k6)
              have HRISE := Lib.hid hrise
              have HMEM := Lib.hid hmem
              have HKL := Lib.hid hkl
              have HST := Lib.hid hst
              clear k6 hrise hmem hkl hst K6
              generalize hm : ss.length = m at *
              have HM := Lib.hid hm
              clear hm
              go_wp2
              go_loopg [13, 14] (m + 1) (fun g b i wr => ∃ k : Nat, b = .bool (decide (user ∈ ss.take k)) ∧ i = .int .i64 (k : Int) ∧ k ≤ m ∧ m - k < g ∧ Hid (Keeps x6 wr))
              case atStart => exact ⟨0, by simp, rfl, Nat.zero_le _, by omega, Lib.hid (Keeps.refl _)⟩
              case round =>
                obtain ⟨k, rfl, rfl, hkm, hkg, hI⟩ := hrel
                by_cases hlt : k < m
                · have hlt' : k < ss.length := by rw [HM.out]; exact hlt
                  obtain ⟨g, o, hAe, hc0⟩ := (HST.out.keeps hI.out) k hlt'
                  subst hAe
                  have hin : (ss[k]'hlt') ∈ ss := List.getElem_mem hlt'
                  have hown := (HMEM.out _).1 hin
                  have hkl0 := HKL.out _ hin
                  have htk : ss.take (k + 1) = ss.take k ++ [ss[k]'hlt'] := List.take_succ_eq_append_getElem hlt'
                  have hdec : (decide (user ∈ ss.take k) || decide (ss[k]'hlt' = user)) = decide (user ∈ ss.take (k + 1)) := by
                    rw [Bool.eq_iff_iff]
                    simp only [Bool.or_eq_true, decide_eq_true_eq, htk, List.mem_append, List.mem_singleton]
                    constructor
                    · rintro (h | h)
                      · exact .inl h
                      · exact .inr h.symm
                    · rintro (h | h)
                      · exact .inl h
                      · exact .inr h.symm
                  have f1 : decide ((k : Int) < (m : Int)) = true := by simp; omega
                  have f1' : decide (k < m) = true := by simpa using hlt
                  have q1 : (0 : Int) ≤ (k : Int) := by omega
                  have q2 : (k : Int) < (m : Int) := by omega
                  have HDEC := Lib.hid hdec
                  have seq := S_eq (ss[k]'hlt') user
                  have cE2 := Lib.hid (fun (wx : World) (kx : Keeps x6 wx) => cE.out wx (ss[k]'hlt') (K7.out.trans kx) hkl0)
                  rw [hown] at cE2
                  clear hin hown hkl0 htk hdec
                  cases k with
                  | zero =>
                    generalize ss[0]'hlt' = u at *
                    clear hlt' f1 f1' q1 q2
                    clear HRISE HMEM HKL HWAS K4 J B4 hw3
                    simp only [Nat.add_zero] at hc0
                    have hcq : ∀ kx : Wl wr, kx.x.cell? ⟨g, o, none⟩ = some (.string (S u)) := fun kx => kx.k.cell hc0
                    have CE3 : Hid (∀ kx : Wl wr, _) := Lib.hid (fun kx => quiet_call (w := wr) kx.k (cE2.out kx.x (hI.out.trans kx.k)))
                    clear cE2
                    have HC0 := Lib.hid hc0
                    clear hc0
                    go_wp2_with fail
                    refine wp_region_keeps (by kernel_rfl) (by kernel_rfl) ?_
                    repeat (go_big_quiet_step (exact CE3.out _))
                    refine wpQuiet_nil ?_
                    rintro _ ⟨⟨x7, k7⟩, rfl⟩
                    have hI2 := Lib.hid (hI.out.trans k7)
                    have hc1 := k7.cell HC0.out
                    clear hcq CE3 HC0 k7 hI
                    have z0 : decide (user ∈ ss.take 0) = false := by simp
                    go_wp2_with fail
                    cases gk with
                    | zero => omega
                    | succ g2 =>
                      go_roundg g2
                      case measure => omega
                      case rel =>
                        refine ⟨1, ?_, rfl, by omega, by omega, hI2⟩
                        have hd := HDEC.out
                        rw [z0, Bool.false_or] at hd
                        rw [hd]
                  | succ j =>
                    have hj' : j < ss.length := by omega
                    obtain ⟨gg, oo, hAe, hcm⟩ := (HST.out.keeps hI.out) j hj'
                    injection hAe with hAe
                    injection hAe with e1 e2
                    subst e1 e2
                    have hlt2 : (ss[j]'hj') < (ss[j + 1]'hlt') := (List.pairwise_iff_getElem.1 HRISE.out) j (j + 1) hj' hlt' (by omega)
                    have hb : Op.bytesLess (S (ss[j]'hj')).toList (S (ss[j + 1]'hlt')).toList = true := by rw [bytesLess_eq, S_list, S_list]; simpa using hlt2
                    clear hlt2
                    generalize ss[j + 1]'hlt' = u at *
                    generalize ss[j]'hj' = v at *
                    clear hlt' hj'
                    clear HRISE HMEM HKL HWAS K4 J B4 hw3
                    have hcq : ∀ kx : Wl wr, kx.x.cell? ⟨g, o + (j + 1), none⟩ = some (.string (S u)) := fun kx => kx.k.cell hc0
                    have hcr : ∀ kx : Wl wr, kx.x.cell? ⟨g, o + j, none⟩ = some (.string (S v)) := fun kx => kx.k.cell hcm
                    have CE3 : Hid (∀ kx : Wl wr, _) := Lib.hid (fun kx => quiet_call (w := wr) kx.k (cE2.out kx.x (hI.out.trans kx.k)))
                    clear cE2
                    have HC0 := Lib.hid hc0
                    clear hc0 hcm
                    have g0 : (0 : Int) < ((j + 1 : Nat) : Int) := by omega
                    have g1' : ((j + 1 : Nat) : Int) - 1 = (j : Int) := by omega
                    have g2' : (j : Int) < (m : Int) := by omega
                    have g3' : (0 : Int) ≤ (j : Int) := by omega
                    go_wp2_with fail
                    refine wp_region_keeps (by kernel_rfl) (by kernel_rfl) ?_
                    repeat (go_big_quiet_step (exact CE3.out _))
                    refine wpQuiet_nil ?_
                    rintro _ ⟨⟨x7, k7⟩, rfl⟩
                    have hI2 := Lib.hid (hI.out.trans k7)
                    have hc1 := k7.cell HC0.out
                    clear hcq hcr CE3 HC0 k7 hI
                    have hd := HDEC.out
                    generalize hq : decide (user ∈ ss.take (j + 1)) = q at *
                    clear hq HDEC
                    cases q <;>
                    ( go_wp2_with fail
                      cases gk with
                      | zero => omega
                      | succ g2 =>
                        go_roundg g2
                        case measure => omega
                        case rel =>
                          refine ⟨j + 1 + 1, ?_, by simp, by omega, by omega, hI2⟩
                          first | rfl | exact congrArg Value.bool hd)
                · obtain rfl : k = m := by omega
                  have hfin : decide (user ∈ ss.take k) = was := by
                    rw [List.take_of_length_le (by rw [HM.out]; exact Nat.le_refl _), ← HWAS.out]
                    rw [Bool.eq_iff_iff, decide_eq_true_eq]
                    exact HMEM.out user
                  have HK9 := Lib.hid (K7.out.trans hI.out)
                  have f1 : decide ((k : Int) < (k : Int)) = false := by simp
                  have f1' : decide (k < k) = false := by simp
                  rw [hfin]
                  clear hfin hI
                  go_wp2
                  go_ret
                  exact ⟨by simp, HK9.out⟩
        · have fr : ((S n.act.room).toList == (S room).toList) = false := by rw [S_eq]; simpa using hro
          obtain rfl : was = is := by rw [his, if_neg (fun h => hro h.1.2.1)]
          clear his
          as_aux_lemma =>
            go_wp2_with fail
            refine (cW.out _ K6.out).mono ?_
            rintro e x6 ⟨A2, ss, c2, rfl, hrise, hmem, hst, hkl, hsl, hsc, k6⟩
            have K7 := Lib.hid (K6.out.trans k6)
            have HRISE := Lib.hid hrise
            have HMEM := Lib.hid hmem
            have HKL := Lib.hid hkl
            have HST := Lib.hid hst
            clear k6 hrise hmem hkl hst K6
            generalize hm : ss.length = m at *
            have HM := Lib.hid hm
            clear hm
            go_wp2
            go_loopg [13, 14] (m + 1) (fun g b i wr => ∃ k : Nat, b = .bool (decide (user ∈ ss.take k)) ∧ i = .int .i64 (k : Int) ∧ k ≤ m ∧ m - k < g ∧ Hid (Keeps x6 wr))
            case atStart => exact ⟨0, by simp, rfl, Nat.zero_le _, by omega, Lib.hid (Keeps.refl _)⟩
            case round =>
              obtain ⟨k, rfl, rfl, hkm, hkg, hI⟩ := hrel
              by_cases hlt : k < m
              · have hlt' : k < ss.length := by rw [HM.out]; exact hlt
                obtain ⟨g, o, hAe, hc0⟩ := (HST.out.keeps hI.out) k hlt'
                subst hAe
                have hin : (ss[k]'hlt') ∈ ss := List.getElem_mem hlt'
                have hown := (HMEM.out _).1 hin
                have hkl0 := HKL.out _ hin
                have htk : ss.take (k + 1) = ss.take k ++ [ss[k]'hlt'] := List.take_succ_eq_append_getElem hlt'
                have hdec : (decide (user ∈ ss.take k) || decide (ss[k]'hlt' = user)) = decide (user ∈ ss.take (k + 1)) := by
                  rw [Bool.eq_iff_iff]
                  simp only [Bool.or_eq_true, decide_eq_true_eq, htk, List.mem_append, List.mem_singleton]
                  constructor
                  · rintro (h | h)
                    · exact .inl h
                    · exact .inr h.symm
                  · rintro (h | h)
                    · exact .inl h
                    · exact .inr h.symm
                have f1 : decide ((k : Int) < (m : Int)) = true := by simp; omega
                have f1' : decide (k < m) = true := by simpa using hlt
                have q1 : (0 : Int) ≤ (k : Int) := by omega
                have q2 : (k : Int) < (m : Int) := by omega
                have HDEC := Lib.hid hdec
                have seq := S_eq (ss[k]'hlt') user
                have cE2 := Lib.hid (fun (wx : World) (kx : Keeps x6 wx) => cE.out wx (ss[k]'hlt') (K7.out.trans kx) hkl0)
                rw [hown] at cE2
                clear hin hown hkl0 htk hdec
                cases k with
                | zero =>
                  generalize ss[0]'hlt' = u at *
                  clear hlt' f1 f1' q1 q2
                  clear HRISE HMEM HKL HWAS K4 J B4 hw3
                  simp only [Nat.add_zero] at hc0
                  have hcq : ∀ kx : Wl wr, kx.x.cell? ⟨g, o, none⟩ = some (.string (S u)) := fun kx => kx.k.cell hc0
                  have CE3 : Hid (∀ kx : Wl wr, _) := Lib.hid (fun kx => quiet_call (w := wr) kx.k (cE2.out kx.x (hI.out.trans kx.k)))
                  clear cE2
                  have HC0 := Lib.hid hc0
                  clear hc0
                  go_wp2_with fail
                  refine wp_region_keeps (by kernel_rfl) (by kernel_rfl) ?_
                  repeat (go_big_quiet_step (exact CE3.out _))
                  refine wpQuiet_nil ?_
                  rintro _ ⟨⟨x7, k7⟩, rfl⟩
                  have hI2 := Lib.hid (hI.out.trans k7)
                  have hc1 := k7.cell HC0.out
                  clear hcq CE3 HC0 k7 hI
                  have z0 : decide (user ∈ ss.take 0) = false := by simp
                  go_wp2_with fail
                  cases gk with
                  | zero => omega
                  | succ g2 =>
                    go_roundg g2
                    case measure => omega
                    case rel =>
                      refine ⟨1, ?_, rfl, by omega, by omega, hI2⟩
                      have hd := HDEC.out
                      rw [z0, Bool.false_or] at hd
                      rw [hd]
                | succ j =>
                  have hj' : j < ss.length := by omega
                  obtain ⟨gg, oo, hAe, hcm⟩ := (HST.out.keeps hI.out) j hj'
                  injection hAe with hAe
                  injection hAe with e1 e2
                  subst e1 e2
                  have hlt2 : (ss[j]'hj') < (ss[j + 1]'hlt') := (List.pairwise_iff_getElem.1 HRISE.out) j (j + 1) hj' hlt' (by omega)
                  have hb : Op.bytesLess (S (ss[j]'hj')).toList (S (ss[j + 1]'hlt')).toList = true := by rw [bytesLess_eq, S_list, S_list]; simpa using hlt2
                  clear hlt2
                  generalize ss[j + 1]'hlt' = u at *
                  generalize ss[j]'hj' = v at *
                  clear hlt' hj'
                  clear HRISE HMEM HKL HWAS K4 J B4 hw3
                  have hcq : ∀ kx : Wl wr, kx.x.cell? ⟨g, o + (j + 1), none⟩ = some (.string (S u)) := fun kx => kx.k.cell hc0
                  have hcr : ∀ kx : Wl wr, kx.x.cell? ⟨g, o + j, none⟩ = some (.string (S v)) := fun kx => kx.k.cell hcm
                  have CE3 : Hid (∀ kx : Wl wr, _) := Lib.hid (fun kx => quiet_call (w := wr) kx.k (cE2.out kx.x (hI.out.trans kx.k)))
                  clear cE2
                  have HC0 := Lib.hid hc0
                  clear hc0 hcm
                  have g0 : (0 : Int) < ((j + 1 : Nat) : Int) := by omega
                  have g1' : ((j + 1 : Nat) : Int) - 1 = (j : Int) := by omega
                  have g2' : (j : Int) < (m : Int) := by omega
                  have g3' : (0 : Int) ≤ (j : Int) := by omega
                  go_wp2_with fail
                  refine wp_region_keeps (by kernel_rfl) (by kernel_rfl) ?_
                  repeat (go_big_quiet_step (exact CE3.out _))
                  refine wpQuiet_nil ?_
                  rintro _ ⟨⟨x7, k7⟩, rfl⟩
                  have hI2 := Lib.hid (hI.out.trans k7)
                  have hc1 := k7.cell HC0.out
                  clear hcq hcr CE3 HC0 k7 hI
                  have hd := HDEC.out
                  generalize hq : decide (user ∈ ss.take (j + 1)) = q at *
                  clear hq HDEC
                  cases q <;>
                  ( go_wp2_with fail
                    cases gk with
                    | zero => omega
                    | succ g2 =>
                      go_roundg g2
                      case measure => omega
                      case rel =>
                        refine ⟨j + 1 + 1, ?_, by simp, by omega, by omega, hI2⟩
                        first | rfl | exact congrArg Value.bool hd)
              · obtain rfl : k = m := by omega
                have hfin : decide (user ∈ ss.take k) = was := by
                  rw [List.take_of_length_le (by rw [HM.out]; exact Nat.le_refl _), ← HWAS.out]
                  rw [Bool.eq_iff_iff, decide_eq_true_eq]
                  exact HMEM.out user
                have HK9 := Lib.hid (K7.out.trans hI.out)
                have f1 : decide ((k : Int) < (k : Int)) = false := by simp
                have f1' : decide (k < k) = false := by simp
                rw [hfin]
                clear hfin hI
                go_wp2
                go_ret
                exact ⟨by simp, HK9.out⟩
      · have f5 : (n.kind == 5) = false := by simpa using h5
        obtain rfl : was = is := by rw [his, if_neg (fun h => h5 h.1.1)]
        clear his
        as_aux_lemma =>
          go_wp2_with fail
          refine (cW.out _ K6.out).mono ?_
          rintro e x6 ⟨A2, ss, c2, rfl, hrise, hmem, hst, hkl, hsl, hsc, k6⟩
          have K7 := Lib.hid (K6.out.trans k6)
          have HRISE := Lib.hid hrise
          have HMEM := Lib.hid hmem
          have HKL := Lib.hid hkl
          have HST := Lib.hid hst
          clear k6 hrise hmem hkl hst K6
          generalize hm : ss.length = m at *
          have HM := Lib.hid hm
          clear hm
          go_wp2
          go_loopg [13, 14] (m + 1) (fun g b i wr => ∃ k : Nat, b = .bool (decide (user ∈ ss.take k)) ∧ i = .int .i64 (k : Int) ∧ k ≤ m ∧ m - k < g ∧ Hid (Keeps x6 wr))
          case atStart => exact ⟨0, by simp, rfl, Nat.zero_le _, by omega, Lib.hid (Keeps.refl _)⟩
          case round =>
            obtain ⟨k, rfl, rfl, hkm, hkg, hI⟩ := hrel
            by_cases hlt : k < m
            · have hlt' : k < ss.length := by rw [HM.out]; exact hlt
              obtain ⟨g, o, hAe, hc0⟩ := (HST.out.keeps hI.out) k hlt'
              subst hAe
              have hin : (ss[k]'hlt') ∈ ss := List.getElem_mem hlt'
              have hown := (HMEM.out _).1 hin
              have hkl0 := HKL.out _ hin
              have htk : ss.take (k + 1) = ss.take k ++ [ss[k]'hlt'] := List.take_succ_eq_append_getElem hlt'
              have hdec : (decide (user ∈ ss.take k) || decide (ss[k]'hlt' = user)) = decide (user ∈ ss.take (k + 1)) := by
                rw [Bool.eq_iff_iff]
                simp only [Bool.or_eq_true, decide_eq_true_eq, htk, List.mem_append, List.mem_singleton]
                constructor
                · rintro (h | h)
                  · exact .inl h
                  · exact .inr h.symm
                · rintro (h | h)
                  · exact .inl h
                  · exact .inr h.symm
              have f1 : decide ((k : Int) < (m : Int)) = true := by simp; omega
              have f1' : decide (k < m) = true := by simpa using hlt
              have q1 : (0 : Int) ≤ (k : Int) := by omega
              have q2 : (k : Int) < (m : Int) := by omega
              have HDEC := Lib.hid hdec
              have seq := S_eq (ss[k]'hlt') user
              have cE2 := Lib.hid (fun (wx : World) (kx : Keeps x6 wx) => cE.out wx (ss[k]'hlt') (K7.out.trans kx) hkl0)
              rw [hown] at cE2
              clear hin hown hkl0 htk hdec
              cases k with
              | zero =>
                generalize ss[0]'hlt' = u at *
                clear hlt' f1 f1' q1 q2
                clear HRISE HMEM HKL HWAS K4 J B4 hw3
                simp only [Nat.add_zero] at hc0
                have hcq : ∀ kx : Wl wr, kx.x.cell? ⟨g, o, none⟩ = some (.string (S u)) := fun kx => kx.k.cell hc0
                have CE3 : Hid (∀ kx : Wl wr, _) := Lib.hid (fun kx => quiet_call (w := wr) kx.k (cE2.out kx.x (hI.out.trans kx.k)))
                clear cE2
                have HC0 := Lib.hid hc0
                clear hc0
                go_wp2_with fail
                refine wp_region_keeps (by kernel_rfl) (by kernel_rfl) ?_
                repeat (go_big_quiet_step (exact CE3.out _))
                refine wpQuiet_nil ?_
                rintro _ ⟨⟨x7, k7⟩, rfl⟩
                have hI2 := Lib.hid (hI.out.trans k7)
                have hc1 := k7.cell HC0.out
                clear hcq CE3 HC0 k7 hI
                have z0 : decide (user ∈ ss.take 0) = false := by simp
                go_wp2_with fail
                cases gk with
                | zero => omega
                | succ g2 =>
                  go_roundg g2
                  case measure => omega
                  case rel =>
                    refine ⟨1, ?_, rfl, by omega, by omega, hI2⟩
                    have hd := HDEC.out
                    rw [z0, Bool.false_or] at hd
                    rw [hd]
              | succ j =>
                have hj' : j < ss.length := by omega
                obtain ⟨gg, oo, hAe, hcm⟩ := (HST.out.keeps hI.out) j hj'
                injection hAe with hAe
                injection hAe with e1 e2
                subst e1 e2
                have hlt2 : (ss[j]'hj') < (ss[j + 1]'hlt') := (List.pairwise_iff_getElem.1 HRISE.out) j (j + 1) hj' hlt' (by omega)
                have hb : Op.bytesLess (S (ss[j]'hj')).toList (S (ss[j + 1]'hlt')).toList = true := by rw [bytesLess_eq, S_list, S_list]; simpa using hlt2
                clear hlt2
                generalize ss[j + 1]'hlt' = u at *
                generalize ss[j]'hj' = v at *
                clear hlt' hj'
                clear HRISE HMEM HKL HWAS K4 J B4 hw3
                have hcq : ∀ kx : Wl wr, kx.x.cell? ⟨g, o + (j + 1), none⟩ = some (.string (S u)) := fun kx => kx.k.cell hc0
                have hcr : ∀ kx : Wl wr, kx.x.cell? ⟨g, o + j, none⟩ = some (.string (S v)) := fun kx => kx.k.cell hcm
                have CE3 : Hid (∀ kx : Wl wr, _) := Lib.hid (fun kx => quiet_call (w := wr) kx.k (cE2.out kx.x (hI.out.trans kx.k)))
                clear cE2
                have HC0 := Lib.hid hc0
                clear hc0 hcm
                have g0 : (0 : Int) < ((j + 1 : Nat) : Int) := by omega
                have g1' : ((j + 1 : Nat) : Int) - 1 = (j : Int) := by omega
                have g2' : (j : Int) < (m : Int) := by omega
                have g3' : (0 : Int) ≤ (j : Int) := by omega
                go_wp2_with fail
                refine wp_region_keeps (by kernel_rfl) (by kernel_rfl) ?_
                repeat (go_big_quiet_step (exact CE3.out _))
                refine wpQuiet_nil ?_
                rintro _ ⟨⟨x7, k7⟩, rfl⟩
                have hI2 := Lib.hid (hI.out.trans k7)
                have hc1 := k7.cell HC0.out
                clear hcq hcr CE3 HC0 k7 hI
                have hd := HDEC.out
                generalize hq : decide (user ∈ ss.take (j + 1)) = q at *
                clear hq HDEC
                cases q <;>
                ( go_wp2_with fail
                  cases gk with
                  | zero => omega
                  | succ g2 =>
                    go_roundg g2
                    case measure => omega
                    case rel =>
                      refine ⟨j + 1 + 1, ?_, by simp, by omega, by omega, hI2⟩
                      first | rfl | exact congrArg Value.bool hd)
            · obtain rfl : k = m := by omega
              have hfin : decide (user ∈ ss.take k) = was := by
                rw [List.take_of_length_le (by rw [HM.out]; exact Nat.le_refl _), ← HWAS.out]
                rw [Bool.eq_iff_iff, decide_eq_true_eq]
                exact HMEM.out user
              have HK9 := Lib.hid (K7.out.trans hI.out)
              have f1 : decide ((k : Int) < (k : Int)) = false := by simp
              have f1' : decide (k < k) = false := by simp
              rw [hfin]
              clear hfin hI
              go_wp2
              go_ret
              exact ⟨by simp, HK9.out⟩
end Go.Proofs.Ytfapilgmgjmfeaa
