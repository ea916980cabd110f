/-
  The law AuditCalls, walked.
-/
import Derived.Test.YtfapilgmgjmfeaaGreatDoorOff
import Derived.Test.YtfapilgmgjmfeaaGreatDoorRlv
import Derived.Test.YtfapilgmgjmfeaaGreatDoorRtx
import Derived.Test.YtfapilgmgjmfeaaGreatDoorRow
import Derived.Test.YtfapilgmgjmfeaaGreatDoorRop
import Derived.Test.YtfapilgmgjmfeaaGreatDoorSnt
import Derived.Test.YtfapilgmgjmfeaaGreatDoorSsm
import Derived.Test.YtfapilgmgjmfeaaGreatDoorLiv
import Derived.Test.YtfapilgmgjmfeaaGreatDoorLfe
namespace Go.Proofs.YtfapilgmgjmfeaaGreatDoor
open Go.RowKit

theorem lightNs_len {l : List Nt} (h : lightNs l 60 = true) : l.length ≤ 60 := by
  unfold lightNs at h
  simp only [Bool.and_eq_true, decide_eq_true_eq] at h
  omega
theorem lightNs_one {l : List Nt} (h : lightNs l 60 = true) : ∀ n, n ∈ l → lightN1 n = true := by
  unfold lightNs at h
  simp only [Bool.and_eq_true, List.all_eq_true] at h
  exact h.1
theorem of_any (A : Option Addr) (c : Nat) (l : List Nt) (t : Int) (w : World) (hA : NotesAt w A l) (hlen : l.length ≤ 1000000) (had : (A = none ∧ l = [] ∧ c = 0) ∨ ∃ g o s, A = some ⟨g, o, s⟩) : Calls Tryz.prog 17 #[.slice A l.length c, .int .i64 t] w (OfRet l t w) := by
  rcases had with ⟨rfl, rfl, rfl⟩ | ⟨g, o, s, rfl⟩
  · exact of_nil t w
  · refine of_some g o s c l t w hA hlen ?_
    cases l with
    | nil => exact .inl rfl
    | cons x r =>
      obtain ⟨g', o', e', _⟩ := hA 0 (by simp)
      injection e' with e'
      injection e' with _ _ e3
      exact .inr e3
inductive TooMuch (l : List Nt) (room user : List UInt8) : Prop where
  | notes (h : lightNs l 60 = false)
  | room (h : lightNs l 60 = true) (h3 : 300 < room.length)
  | user (h : lightNs l 60 = true) (h3 : room.length ≤ 300) (h4 : 300 < user.length)
set_option maxHeartbeats 4000000 in
set_option maxRecDepth 100000 in
theorem calls_b1 (A : Option Addr) (c : Nat) (l : List Nt) (room user : List UInt8) (txn : Int) (w : World) (hA : NotesAt w A l) (hm : l.length ≤ maxLen) (hli : lightNs l 60 = false) : Calls Tryz.prog 3 #[.slice A l.length c, .string (S room), .string (S user), .int .i64 txn] w (Ret (.bool true) w) := by
  unfold maxLen at hm
  have cL := Lib.hid (lives_any w)
  have cN : Hid (∀ wx, Keeps w wx → Calls Tryz.prog 6 #[.slice A l.length c, .int .i64 60] wx (Ret (.bool false) wx)) := Lib.hid (fun wx k => by have := lightNs_any A c l 60 wx (hA.keeps k) (by unfold maxLen; omega); rwa [hli] at this)
  have sr : (S room).size = room.length := rfl
  have su : (S user).size = user.length := rfl
  generalize l.length = L at *
  clear hA hli
  go_enter Tryz.func3, Tryz.ntmps3
  go_wp2_with fail
  refine cL.out.mono ?_
  rintro e w1 ⟨rfl, k1⟩
  go_wp2_with fail
  refine (cN.out _ k1).mono ?_
  rintro e w2 ⟨rfl, k2⟩
  have K2 := Lib.hid (k1.trans k2)
  clear k1 k2 cL cN
  go_wp2
  go_ret
  exact ⟨rfl, K2.out⟩
set_option maxHeartbeats 4000000 in
set_option maxRecDepth 100000 in
theorem calls_b2 (A : Option Addr) (c : Nat) (l : List Nt) (room user : List UInt8) (txn : Int) (w : World) (hA : NotesAt w A l) (hm : l.length ≤ maxLen) (hli : lightNs l 60 = true) (hr : 300 < room.length) : Calls Tryz.prog 3 #[.slice A l.length c, .string (S room), .string (S user), .int .i64 txn] w (Ret (.bool true) w) := by
  unfold maxLen at hm
  have cL := Lib.hid (lives_any w)
  have cN : Hid (∀ wx, Keeps w wx → Calls Tryz.prog 6 #[.slice A l.length c, .int .i64 60] wx (Ret (.bool true) wx)) := Lib.hid (fun wx k => by have := lightNs_any A c l 60 wx (hA.keeps k) (by unfold maxLen; omega); rwa [hli] at this)
  have sr : (S room).size = room.length := rfl
  have su : (S user).size = user.length := rfl
  have d1 : decide ((300 : Int) < (room.length : Int)) = true := by simp; omega
  have d1' : (300 : Int) < (room.length : Int) := by omega
  generalize l.length = L at *
  clear hA hli
  go_enter Tryz.func3, Tryz.ntmps3
  go_wp2_with fail
  refine cL.out.mono ?_
  rintro e w1 ⟨rfl, k1⟩
  go_wp2_with fail
  refine (cN.out _ k1).mono ?_
  rintro e w2 ⟨rfl, k2⟩
  have K2 := Lib.hid (k1.trans k2)
  clear k1 k2 cL cN
  go_wp2
  go_ret
  exact ⟨rfl, K2.out⟩
set_option maxHeartbeats 4000000 in
set_option maxRecDepth 100000 in
theorem calls_b3 (A : Option Addr) (c : Nat) (l : List Nt) (room user : List UInt8) (txn : Int) (w : World) (hA : NotesAt w A l) (hm : l.length ≤ maxLen) (hli : lightNs l 60 = true) (hr : room.length ≤ 300) (hu : 300 < user.length) : Calls Tryz.prog 3 #[.slice A l.length c, .string (S room), .string (S user), .int .i64 txn] w (Ret (.bool true) w) := by
  unfold maxLen at hm
  have cL := Lib.hid (lives_any w)
  have cN : Hid (∀ wx, Keeps w wx → Calls Tryz.prog 6 #[.slice A l.length c, .int .i64 60] wx (Ret (.bool true) wx)) := Lib.hid (fun wx k => by have := lightNs_any A c l 60 wx (hA.keeps k) (by unfold maxLen; omega); rwa [hli] at this)
  have sr : (S room).size = room.length := rfl
  have su : (S user).size = user.length := rfl
  have d1 : decide ((300 : Int) < (room.length : Int)) = false := by simp; omega
  have d1' : ¬ (300 : Int) < (room.length : Int) := by omega
  have d2 : decide ((300 : Int) < (user.length : Int)) = true := by simp; omega
  have d2' : (300 : Int) < (user.length : Int) := by omega
  generalize l.length = L at *
  clear hA hli
  go_enter Tryz.func3, Tryz.ntmps3
  go_wp2_with fail
  refine cL.out.mono ?_
  rintro e w1 ⟨rfl, k1⟩
  go_wp2_with fail
  refine (cN.out _ k1).mono ?_
  rintro e w2 ⟨rfl, k2⟩
  have K2 := Lib.hid (k1.trans k2)
  clear k1 k2 cL cN
  go_wp2
  go_ret
  exact ⟨rfl, K2.out⟩
set_option maxHeartbeats 16000000 in
set_option maxRecDepth 100000 in
theorem calls_main (A : Option Addr) (c : Nat) (l : List Nt) (room user : List UInt8) (txn : Int) (w : World) (ht : Tab w) (hA : NotesAt w A l) (hli : lightNs l 60 = true) (hr : room.length ≤ 300) (hu : user.length ≤ 300) (hok : ∀ n, n ∈ l → NtLine n) (hcap : l.length ≤ c) (had : (A = none ∧ l = [] ∧ c = 0) ∨ ∃ g o s, A = some ⟨g, o, s⟩) :
    Calls Tryz.prog 3 #[.slice A l.length c, .string (S room), .string (S user), .int .i64 txn] w (Ret (.bool true) w) := by
  have hlen := lightNs_len hli
  have hsub : ∀ n, n ∈ l → n.act.subj.length ≤ maxLen := fun n hn => by
    have h := (hok n hn).1
    unfold lightN1 lightA at h
    simp only [Bool.and_eq_true, decide_eq_true_eq] at h
    unfold maxLen; omega
  have htx : (textL l).length ≤ 900000 := Nat.le_trans (textL_len l hok) (by omega)
  have cL := Lib.hid (lives_any w)
  have cN : Hid (∀ wx, Keeps w wx → Calls Tryz.prog 6 #[.slice A l.length c, .int .i64 60] wx (Ret (.bool true) wx)) := Lib.hid (fun wx k => by have := lightNs_any A c l 60 wx (hA.keeps k) (by unfold maxLen; omega); rwa [hli] at this)
  have sr : (S room).size = room.length := rfl
  have su : (S user).size = user.length := rfl
  have c9 := Lib.hid (fun wx (k : Keeps w wx) => life_any A c l wx (hA.keeps k) (by omega) (fun n hn => (hok n hn).2.1))
  have c10 := Lib.hid (fun wx (k : Keeps w wx) => rlife_any A c l wx (hA.keeps k) (by omega) hcap)
  have c11 := Lib.hid (fun wx (k : Keeps w wx) => isOwn_any A c l room user wx (hA.keeps k) (by omega) hsub (by unfold maxLen; omega))
  have c12 := Lib.hid (fun wx (k : Keeps w wx) => rown_any A c l room user wx (hA.keeps k) (by omega))
  have c14 := Lib.hid (fun wx (k : Keeps w wx) => owned_any A c l room wx (hA.keeps k) (by omega) hsub)
  have c15 := Lib.hid (fun wx (k : Keeps w wx) => rowned_any A c l room wx (hA.keeps k) (by omega))
  have c17 := Lib.hid (fun wx (k : Keeps w wx) => of_any A c l txn wx (hA.keeps k) (by omega) had)
  have c18 := Lib.hid (fun wx (k : Keeps w wx) => rof_any A c l txn wx (hA.keeps k) (by omega))
  have c20 := Lib.hid (fun wx (k : Keeps w wx) => open_any A c l wx (hA.keeps k) (by omega) (fun n hn => (hok n hn).2.1))
  have c21 := Lib.hid (fun wx (k : Keeps w wx) => ropen_any A c l wx (hA.keeps k) (by omega))
  have c22 := Lib.hid (fun wx (k : Keeps w wx) => text_any A c l wx (ht.keeps k) (hA.keeps k) (by omega) htx hok)
  have c23 := Lib.hid (fun wx (k : Keeps w wx) => rtext_any A c l wx (hA.keeps k) (by omega) htx hok)
  have HLO := Lib.hid (Nat.le_trans (show (ofL l txn).length ≤ l.length from List.length_filter_le _ _) hlen)
  have HLL := Lib.hid hlen
  have d1 : decide ((300 : Int) < (room.length : Int)) = false := by simp; omega
  have d1' : ¬ (300 : Int) < (room.length : Int) := by omega
  have d2 : decide ((300 : Int) < (user.length : Int)) = false := by simp; omega
  have d2' : ¬ (300 : Int) < (user.length : Int) := by omega
  have HA := Lib.hid hA
  have HOK := Lib.hid hok
  have HT := Lib.hid ht
  have HOM := Lib.hid (open_mem l)
  generalize lifeI l = li at *
  generalize ownB room l user = ob at *
  generalize textL l = tx at *
  obtain ⟨L, hL⟩ : ∃ L, l.length = L := ⟨_, rfl⟩
  have HL := Lib.hid hL
  rw [hL] at cN c9 c10 c11 c12 c14 c15 c17 c18 c20 c21 c22 c23 hlen ⊢
  clear hA hli hok ht htx hsub hcap had hL
  go_enter Tryz.func3, Tryz.ntmps3
  go_wp2_with fail
  refine cL.out.mono ?_
  rintro e w1 ⟨rfl, k1⟩
  go_wp2_with fail
  refine (cN.out _ k1).mono ?_
  rintro e w2 ⟨rfl, k2⟩
  have K2 := Lib.hid (k1.trans k2)
  clear k1 k2 cL cN
  go_wp2_with fail
  go_loopg [9] (L + 1) (fun g i wr => ∃ k : Nat, i = .int .i64 (k : Int) ∧ k ≤ L ∧ L - k < g ∧ Hid (Keeps w wr))
  case atStart => exact ⟨0, rfl, Nat.zero_le _, by omega, Lib.hid K2.out⟩
  case round =>
    obtain ⟨k, rfl, hkL, hkg, hI⟩ := hrel
    by_cases hlt : k < L
    · have hlt' : k < l.length := by rw [HL.out]; exact hlt
      obtain ⟨g, o, hAe, hc⟩ := (HA.out.keeps hI.out) k hlt'
      subst hAe
      have hn := HOK.out _ (List.getElem_mem hlt')
      generalize l[k]'hlt' = nn at *
      have HC := Lib.hid hc
      have c7 := Lib.hid (fun wx (k : Keeps wr wx) => line_any nn wx (HT.out.keeps (hI.out.trans k)) hn)
      have c8 := Lib.hid (fun wx => rline_any nn wx hn)
      unfold ntC at c7 c8
      generalize lineL nn = line at *
      have z7 : ((S line).toList != (S line).toList) = false := by simp
      have f1 : decide ((k : Int) < (L : Int)) = true := by simp; omega
      have f1' : decide (k < L) = true := by simpa using hlt
      have q1 : (0 : Int) ≤ (k : Int) := by omega
      have q2 : (k : Int) < (L : Int) := by omega
      have r0 : ∀ kx : Wl wr, kx.x.cell? ⟨g, o + k * 9, none⟩ = some (.int .i64 nn.kind) := fun kx => (HC.out.keeps kx.k).nine.1
      have r1 : ∀ kx : Wl wr, kx.x.cell? ⟨g, o + k * 9 + 1, none⟩ = some (.int .i64 nn.txn) := fun kx => (HC.out.keeps kx.k).nine.2.1
      have r2 : ∀ kx : Wl wr, kx.x.cell? ⟨g, o + k * 9 + 2, none⟩ = some (.int .i64 nn.act.kind) := fun kx => (HC.out.keeps kx.k).nine.2.2.1
      have r3 : ∀ kx : Wl wr, kx.x.cell? ⟨g, o + k * 9 + 3, none⟩ = some (.string (S nn.act.room)) := fun kx => (HC.out.keeps kx.k).nine.2.2.2.1
      have r4 : ∀ kx : Wl wr, kx.x.cell? ⟨g, o + k * 9 + 4, none⟩ = some (.string (S nn.act.subj)) := fun kx => (HC.out.keeps kx.k).nine.2.2.2.2.1
      have r5 : ∀ kx : Wl wr, kx.x.cell? ⟨g, o + k * 9 + 5, none⟩ = some (.string (S nn.act.reason)) := fun kx => (HC.out.keeps kx.k).nine.2.2.2.2.2.1
      have r6 : ∀ kx : Wl wr, kx.x.cell? ⟨g, o + k * 9 + 6, none⟩ = some (.string (S nn.act.deny)) := fun kx => (HC.out.keeps kx.k).nine.2.2.2.2.2.2.1
      have r7 : ∀ kx : Wl wr, kx.x.cell? ⟨g, o + k * 9 + 7, none⟩ = some (.int .i64 nn.code) := fun kx => (HC.out.keeps kx.k).nine.2.2.2.2.2.2.2.1
      have r8 : ∀ kx : Wl wr, kx.x.cell? ⟨g, o + k * 9 + 8, none⟩ = some (.string (S nn.text)) := fun kx => (HC.out.keeps kx.k).nine.2.2.2.2.2.2.2.2
      have p7 : Hid (∀ kx : Wl wr, Calls Tryz.prog 7 #[.agg #[.int .i64 nn.kind, .int .i64 nn.txn, .int .i64 nn.act.kind, .string (S nn.act.room), .string (S nn.act.subj), .string (S nn.act.reason), .string (S nn.act.deny), .int .i64 nn.code, .string (S nn.text)]] kx.x fun e w'' => e = .returned (.string (S line)) ∧ ∃ k' : Wl wr, w'' = k'.x) := Lib.hid (fun kx => quiet_call kx.k (c7.out _ kx.k))
      have p8 : Hid (∀ kx : Wl wr, Calls Tryz.prog 8 #[.agg #[.int .i64 nn.kind, .int .i64 nn.txn, .int .i64 nn.act.kind, .string (S nn.act.room), .string (S nn.act.subj), .string (S nn.act.reason), .string (S nn.act.deny), .int .i64 nn.code, .string (S nn.text)]] kx.x fun e w'' => e = .returned (.string (S line)) ∧ ∃ k' : Wl wr, w'' = k'.x) := Lib.hid (fun kx => quiet_call kx.k (c8.out _))
      clear c7 c8 hc hn
      go_wp2_with fail
      refine wp_region_keeps (by kernel_rfl) (by kernel_rfl) ?_
      repeat (go_big_quiet_step (first | with_reducible exact p7.out _ | with_reducible exact p8.out _))
      refine wpQuiet_nil ?_
      rintro x ⟨kq, hq⟩
      have KX : Hid (Keeps w x) := Lib.hid (hI.out.trans (by rw [hq]; exact kq.k))
      clear hq kq r0 r1 r2 r3 r4 r5 r6 r7 r8 p7 p8
      go_wp2
      cases gk with
      | zero => omega
      | succ g2 =>
        go_roundg g2
        case measure => omega
        case rel => exact ⟨k + 1, by go_num, by omega, by omega, KX⟩
    · obtain rfl : k = L := by omega
      have K3 := Lib.hid hI.out
      have f1 : decide ((k : Int) < (k : Int)) = false := by simp
      have f1' : decide (k < k) = false := by simp
      have z1 : (li == li) = true := by simp
      have z2 : (ob == ob) = true := by simp
      have z3 : ((S tx).toList == (S tx).toList) = true := by simp
      clear hI K2
      go_wp2_with fail
      refine (c9.out _ K3.out).mono ?_
      rintro e x1 ⟨rfl, k⟩
      have J1 := Lib.hid (K3.out.trans k)
      clear k c9
      go_wp2_with fail
      refine (c10.out _ J1.out).mono ?_
      rintro e x2 ⟨rfl, k⟩
      have J2 := Lib.hid (J1.out.trans k)
      clear k c10
      go_wp2_with fail
      refine (c11.out _ J2.out).mono ?_
      rintro e x3 ⟨rfl, k⟩
      have J3 := Lib.hid (J2.out.trans k)
      clear k c11
      go_wp2_with fail
      refine (c12.out _ J3.out).mono ?_
      rintro e x4 ⟨rfl, k⟩
      have J4 := Lib.hid (J3.out.trans k)
      clear k c12
      go_wp2_with fail
      refine (c14.out _ J4.out).mono ?_
      rintro e x5 ⟨A1, s1, b1, rfl, hr1, hm1, hst1, _, hsl1, _, k⟩
      have J5 := Lib.hid (J4.out.trans k)
      clear k c14
      have HR1 := Lib.hid (And.intro hr1 (And.intro hm1 (And.intro hst1 hsl1)))
      clear hr1 hm1 hst1 hsl1
      go_wp2_with fail
      refine (c15.out _ J5.out).mono ?_
      rintro e x6 ⟨A2, s2, b2, rfl, hr2, hm2, hst2, _, k⟩
      have hss : s1 = s2 := rise_uniqueS HR1.out.1 hr2 (fun u => (HR1.out.2.1 u).trans (hm2 u).symm)
      have J6 := Lib.hid (J5.out.trans k)
      have c13 := Lib.hid (same_strs A1 A2 b1 b2 s1 s2 x6 (HR1.out.2.2.1.keeps k) hst2 (by have := HR1.out.2.2.2; omega))
      rw [decide_eq_true hss] at c13
      clear k c15 hr2 hm2 hst2 hss
      generalize s1.length = n1 at *
      generalize s2.length = n2 at *
      go_wp2_with fail
      refine c13.out.mono ?_
      rintro e x7 ⟨rfl, q, hq⟩
      have J7 : Hid (Keeps w x7) := Lib.hid (J6.out.trans (by rw [hq]; exact (Keeps.refl _).drewN q))
      clear hq c13
      go_wp2_with fail
      refine (c17.out _ J7.out).mono ?_
      rintro e x8 ⟨A3, b3, rfl, hN3, k⟩
      have J8 := Lib.hid (J7.out.trans k)
      have HN3 := Lib.hid hN3
      clear k c17 hN3
      go_wp2_with fail
      refine (c18.out _ J8.out).mono ?_
      rintro e x9 ⟨v4, rfl, hrow4, k⟩
      obtain ⟨A4, b4, rfl, hN4⟩ := hrow4.notes
      have J9 := Lib.hid (J8.out.trans k)
      have c16 := Lib.hid (same_notes A3 A4 b3 b4 (ofL l txn) (ofL l txn) x9 (HN3.out.keeps k) hN4 (by have := HLO.out; omega))
      rw [decide_eq_true (show ofL l txn = ofL l txn from rfl)] at c16
      clear k c18 hrow4 hN4
      generalize (ofL l txn).length = n3 at *
      go_wp2_with fail
      refine c16.out.mono ?_
      rintro e x10 ⟨rfl, q, hq⟩
      have J10 : Hid (Keeps w x10) := Lib.hid (J9.out.trans (by rw [hq]; exact (Keeps.refl _).drewN q))
      clear hq c16
      go_wp2_with fail
      refine (c20.out _ J10.out).mono ?_
      rintro e x11 ⟨v5, s5, rfl, hO5, hrow5, _, k⟩
      obtain ⟨A5, b5, rfl, hI5⟩ := own_ints hrow5
      have J11 := Lib.hid (J10.out.trans k)
      have HO5 := Lib.hid hO5
      have HI5 := Lib.hid hI5
      clear k c20 hrow5 hO5 hI5
      generalize hn5 : s5.length = n5 at *
      have HN5 := Lib.hid hn5
      clear hn5
      go_wp2_with fail
      refine (c21.out _ J11.out).mono ?_
      rintro e x12 ⟨v6, s6, rfl, hrow6, hrise6, hmem6, hl6, k⟩
      obtain ⟨A6, b6, rfl, hI6⟩ : ∃ A6 b6, v6 = .slice A6 s6.length b6 ∧ IntsAt x12 A6 s6 := by
        rcases hrow6.form with ⟨rfl, rfl⟩ | ⟨g, cap, rfl, _, hs, _⟩
        · exact ⟨none, 0, rfl, fun i hi => by simp at hi⟩
        · exact ⟨_, _, rfl, hs⟩
      have hss : s5 = s6 := rise_unique HO5.out.1 hrise6 (fun t => (HO5.out.2 t).trans ((HOM.out t).trans (hmem6 t).symm))
      have J12 := Lib.hid (J11.out.trans k)
      have c19 := Lib.hid (same_ints A5 A6 b5 b6 s5 s6 x12 (HI5.out.keeps k) hI6 (by rw [hss]; have := HLL.out; omega))
      rw [decide_eq_true hss, HN5.out] at c19
      clear k c21 hrow6 hrise6 hmem6 hl6 hI6 hss
      generalize s6.length = n6 at *
      go_wp2_with fail
      refine c19.out.mono ?_
      rintro e x13 ⟨rfl, q, hq⟩
      have J13 : Hid (Keeps w x13) := Lib.hid (J12.out.trans (by rw [hq]; exact (Keeps.refl _).drewN q))
      clear hq c19
      go_wp2_with fail
      refine (c22.out _ J13.out).mono ?_
      rintro e x14 ⟨rfl, k⟩
      have J14 := Lib.hid (J13.out.trans k)
      clear k c22
      go_wp2_with fail
      refine (c23.out _ J14.out).mono ?_
      rintro e x15 ⟨rfl, k⟩
      have J15 := Lib.hid (J14.out.trans k)
      clear k c23
      go_wp2
      go_ret
      exact ⟨rfl, J15.out⟩
end Go.Proofs.YtfapilgmgjmfeaaGreatDoor
