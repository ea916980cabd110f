/-
  The law AuditLong, walked.
-/
import Derived.Test.YtfapilgmgjmfeaaGreatDoorLCal
namespace Go.Proofs.YtfapilgmgjmfeaaGreatDoor
open Go.RowKit

def FULL : Nt := ⟨9, 0, Act.zero, 0, []⟩
theorem full_line : NtLine FULL := by
  refine ⟨by decide +kernel, by decide +kernel, by decide +kernel⟩
theorem full_len : (lineL FULL).length ≤ 8 := by
  have e : lineL FULL = nwL 9 := by
    unfold lineL partsL FULL
    rw [if_neg (by decide), if_neg (by decide), if_neg (by decide), Lib.join_one]
  rw [e]; exact nwL_len 9
theorem full_text (m : Nat) : (textL (List.replicate m FULL)).length ≤ m * 9 := by
  induction m with
  | zero => simp [textL]
  | succ m ih =>
    have e : textL (List.replicate (m + 1) FULL) = lineL FULL ++ [10] ++ textL (List.replicate m FULL) := by rw [List.replicate_succ]; simp [textL]
    rw [e]
    have := full_len
    simp only [List.length_append, List.length_cons, List.length_nil]
    omega
theorem full_snoc (m : Nat) : List.replicate (m + 1) FULL = List.replicate m FULL ++ [FULL] := List.replicate_succ'
theorem app_none (w : World) (base : Option Addr) (n cap : Nat) (hn : n ≤ cap) : (Builtin.append_ #[22, 22] 22 #[.slice base n cap, .slice none 0 0]).run Tryz.prog w = .ok (.slice base n cap) w := by
  obtain ⟨i0, hi, hz⟩ := info31
  refine run_append_nothing w 22 22 22 29 i0 Tryz.underlying22 hi _ n cap hn (.slice none 0 0) ?_
  rw [hz.2.1]
  exact ⟨.inl ⟨29, Tryz.underlying22⟩, fun w' => by kernel_rfl, by kernel_rfl, by kernel_rfl, rfl, by simp⟩
theorem wpList_append_nil {P : Program} {w : World} {ops : Array Oper} {rest : List Oper} {o : Oper} {a : Go.Act} {Q : Exit → Go.Act → World → Prop} (hgd : o.guard = none) (s x : Operand) (t : TypeId)
    (ho : o.op = .call { callee := .builtin .append, args := #[s, x], argTypes := #[t, t] }) (v : Value) (hs : a.eval s = v) (hx : a.eval x = .slice none 0 0)
    (hr : (Builtin.append_ #[t, t] o.type #[v, .slice none 0 0]).run P w = .ok v w) (h : wpList P ops Q rest (a.put o.dst v) w) : wpList P ops Q (o :: rest) a w :=
  wpList_plain hgd fun _ hK => by
    unfold Oper.wp
    simp [execOp, ho, resolve, invoke, builtin, hs, hx, hr, Result.andThen]
    exact hK _ _ h
theorem row_had {w : World} {B : Nat} {v : Value} {l : List Nt} (h : NtRow w B v l) : ∃ A c, v = .slice A l.length c ∧ l.length ≤ c ∧ NotesAt w A l ∧ ((A = none ∧ l = [] ∧ c = 0) ∨ ∃ g o s, A = some ⟨g, o, s⟩) := by
  rcases row_blk h with ⟨rfl, rfl⟩ | ⟨g, cap, rfl, _, hc, hb⟩
  · exact ⟨none, 0, rfl, Nat.le_refl _, fun i hi => by simp at hi, .inl ⟨rfl, rfl, rfl⟩⟩
  · exact ⟨some ⟨g, 0, none⟩, cap, rfl, hc, hb.2.1, .inr ⟨g, 0, none, rfl⟩⟩
set_option maxHeartbeats 4000000 in
set_option maxRecDepth 100000 in
theorem long_big (A : Option Addr) (c : Nat) (l : List Nt) (more txn : Int) (w : World) (hA : NotesAt w A l) (hm : l.length ≤ maxLen) (hli : lightNs l 60 = false) : Calls Tryz.prog 4 #[.int .i64 more, .slice A l.length c, .int .i64 txn] w (Ret (.bool true) w) := by
  unfold maxLen at hm
  have cL := Lib.hid (lives_any w)
  have cN : Hid (∀ wx, Keeps w wx → Calls Tryz.prog 6 #[.slice A l.length c, .int .i64 60] wx (Ret (.bool false) wx)) := Lib.hid (fun wx k => by have := lightNs_any A c l 60 wx (hA.keeps k) (by unfold maxLen; omega); rwa [hli] at this)
  generalize l.length = L at *
  clear hA hli
  go_enter Tryz.func4, Tryz.ntmps4
  go_wp2_with fail
  refine cL.out.mono ?_
  rintro e w1 ⟨rfl, k1⟩
  go_wp2_with fail
  refine (cN.out _ k1).mono ?_
  rintro e w2 ⟨rfl, k2⟩
  have K2 := Lib.hid (k1.trans k2)
  clear k1 k2 cL cN
  go_wp2
  go_ret
  exact ⟨rfl, K2.out⟩
set_option maxHeartbeats 16000000 in
set_option maxRecDepth 100000 in
theorem long_nil (more txn : Int) (w : World) (ht : Tab w) (hA : NotesAt w none (([] : List Nt))) (hli : lightNs (([] : List Nt)) 60 = true) (hok : ∀ n, n ∈ (([] : List Nt)) → NtLine n) :
    Calls Tryz.prog 4 #[.int .i64 more, .slice none (([] : List Nt)).length 0, .int .i64 txn] w (Ret (.bool true) w) := by
  have hlen := lightNs_len hli
  have cL := Lib.hid (lives_any w)
  have cN : Hid (∀ wx, Keeps w wx → Calls Tryz.prog 6 #[.slice none (([] : List Nt)).length 0, .int .i64 60] wx (Ret (.bool true) wx)) := Lib.hid (fun wx k => by have := lightNs_any none 0 (([] : List Nt)) 60 wx (hA.keeps k) (by unfold maxLen; omega); rwa [hli] at this)
  obtain ⟨m, hm⟩ : ∃ m : Nat, more % 300 = (m : Int) := ⟨(more % 300).toNat, by rw [Int.toNat_of_nonneg (Int.emod_nonneg _ (by omega))]⟩
  have hm2 : m < 300 := by have := Int.emod_lt_of_pos more (show (0 : Int) < 300 by omega); omega
  have cP : Hid (∀ wx, Calls Tryz.prog 24 #[.int .i64 more, .int .i64 300] wx (fun e w' => e = .returned (.int .i64 (m : Int)) ∧ w' = wx)) := Lib.hid (fun wx => by have := pick_any more 300 wx (by omega) (by omega); rwa [hm] at this)
  obtain ⟨i, hi, ⟨z, hz, hzs⟩, hz1, hz2⟩ := info31
  -- all notes
  have hal : (List.replicate m FULL ++ (([] : List Nt))).length = m + (([] : List Nt)).length := by rw [List.length_append, List.length_replicate]
  have hokA : ∀ n, n ∈ List.replicate m FULL ++ (([] : List Nt)) → NtLine n := fun n hn => by
    rcases List.mem_append.1 hn with h | h
    · rw [(List.mem_replicate.1 h).2]; exact full_line
    · exact hok n h
  have htx : (textL (List.replicate m FULL ++ (([] : List Nt)))).length ≤ 900000 := by
    rw [textL_app, List.length_append]
    have h1 := full_text m
    have h2 := textL_len (([] : List Nt)) hok
    have h3 : (([] : List Nt)).length * 4001 ≤ 60 * 4001 := Nat.mul_le_mul_right _ hlen
    omega
  rw [List.append_nil] at hal hokA htx
  have HAL := Lib.hid hal
  have HOKA := Lib.hid hokA
  have HTX := Lib.hid htx
  have HA := Lib.hid hA
  have HT := Lib.hid ht
  have HLEN := Lib.hid hlen
  clear hA hli hok ht hm hal hokA htx
  go_enter Tryz.func4, Tryz.ntmps4
  go_wp2_with fail
  refine cL.out.mono ?_
  rintro e w1 ⟨rfl, k1⟩
  go_wp2_with fail
  refine (cN.out _ k1).mono ?_
  rintro e w2 ⟨rfl, k2⟩
  have K2 := Lib.hid (k1.trans k2)
  clear k1 k2 cL cN
  go_wp2_with fail
  go_loopg [7, 8] (m + 1) (fun g v i wr => ∃ k : Nat, i = .int .i64 (k : Int) ∧ k ≤ m ∧ m - k < g ∧ Hid (Keeps w wr ∧ NtRow wr w.heap.size v (List.replicate k FULL)))
  case atStart => exact ⟨0, rfl, Nat.zero_le _, by omega, Lib.hid ⟨K2.out, NtRow.nil _ _⟩⟩
  case round =>
    obtain ⟨k, rfl, hkm, hkg, hI⟩ := hrel
    obtain ⟨hK, hR⟩ := hI.out
    have HK := Lib.hid hK
    have HR := Lib.hid hR
    clear hI hK hR
    by_cases hlt : k < m
    · have f1 : decide ((k : Int) < (m : Int)) = true := by simp; omega
      have f1' : decide (k < m) = true := by simpa using hlt
      go_wp2_with fail
      refine (cP.out _).mono ?_
      rintro e wp ⟨rfl, hwp⟩
      have KP := Lib.hid (show Keeps w wp by rw [hwp]; exact HK.out)
      have RP := Lib.hid (show NtRow wp w.heap.size u7 (List.replicate k FULL) by rw [hwp]; exact HR.out)
      clear hwp HK HR
      have JA := Lib.hid (KP.out.alloc (.cells (ntC FULL) 29))
      have RA := Lib.hid (RP.out.keeps ((Keeps.refl wp).alloc (.cells (ntC FULL) 29)))
      have HNW := Lib.hid (World.news_of_block (cs := ntC FULL) (t := 29) (fr := (0, 0)) (heap_alloc_new wp (.cells (ntC FULL) 29)))
      have HB := Lib.hid (Below.size JA.out)
      unfold NtRow at RA
      unfold ntC FULL Act.zero at RA JA HNW HB
      simp only [S_nil] at RA JA HNW HB
      go_wp2_with (at_builtin; refine wpList_append_own _ rfl (.tmp 22) (.tmp 24) 22 rfl w.heap.size 29 i z 9 112 Tryz.underlying22 hi hz hz1 hz2 hzs (by decide) _ _ _ rfl RA.out ⟨wp.heap.size, 0, none⟩ 1 1 [.int .i64 9, .int .i64 0, .int .i64 0, .string ⟨#[]⟩, .string ⟨#[]⟩, .string ⟨#[]⟩, .string ⟨#[]⟩, .int .i64 0, .string ⟨#[]⟩] rfl rfl ?c1 ?c2 ?c3 ?c4 ?c5 ?_)
      case c1 => exact HNW.out
      case c2 => simp [Value.oneCell']
      case c3 => rw [List.length_replicate]; unfold maxLen; omega
      case c4 => rw [List.length_replicate]; omega
      case c5 => have h := HB.out; simpa using h
      intro v' y hown hgrow _
      have JY := Lib.hid (show Keeps w y ∧ NtRow y w.heap.size v' (List.replicate (k + 1) FULL) from ⟨JA.out.grown hgrow HB.out (fun q hq => (World.ownsRow.lt RA.out q hq).1), by
        rw [full_snoc]
        unfold NtRow
        rw [flatN_app, List.length_append, List.length_replicate]
        exact hown⟩)
      clear hown hgrow
      go_wp2
      cases gk with
      | zero => omega
      | succ g2 =>
        go_roundg g2
        case measure => omega
        case rel => exact ⟨k + 1, by go_num, by omega, by omega, JY⟩
    · obtain rfl : k = m := by omega
      have f1 : decide ((k : Int) < (k : Int)) = false := by simp
      have f1' : decide (k < k) = false := by simp
      go_wp2_with fail
      refine (cP.out _).mono ?_
      rintro e wp ⟨rfl, hwp⟩
      have KP := Lib.hid (show Keeps w wp by rw [hwp]; exact HK.out)
      have RP := Lib.hid (show NtRow wp w.heap.size u7 (List.replicate k FULL) by rw [hwp]; exact HR.out)
      clear hwp HK HR
      obtain ⟨A7, c7, hv6, hcap7, hN7, had7⟩ := row_had RP.out
      subst hv6
      have K3 := KP
      generalize List.replicate k FULL = al at *
      go_wp2_with (at_builtin; go_loud (refine wpList_append_nil rfl (.tmp 26) (.tmp 27) 22 rfl (.slice A7 al.length c7) rfl rfl (app_none _ A7 _ c7 hcap7) ?_))
      generalize wp = wy at *
      have hsub : ∀ n, n ∈ al → n.act.subj.length ≤ maxLen := fun n hn => by
        have h := (HOKA.out n hn).1
        unfold lightN1 lightA at h
        simp only [Bool.and_eq_true, decide_eq_true_eq] at h
        unfold maxLen; omega
      have hl7 : al.length ≤ 400 := by have h1 := HAL.out; have h2 := HLEN.out; omega
      have hA7 := hN7
      have c9 := Lib.hid (fun wx (k : Keeps wy wx) => life_any A7 c7 al wx (hA7.keeps k) (by omega) (fun n hn => (HOKA.out n hn).2.1))
      have c10 := Lib.hid (fun wx (k : Keeps wy wx) => rlife_any A7 c7 al wx (hA7.keeps k) (by omega) hcap7)
      have c11 := Lib.hid (fun wx (k : Keeps wy wx) => isOwn_any A7 c7 al [] [] wx (hA7.keeps k) (by omega) hsub (by simp))
      have c12 := Lib.hid (fun wx (k : Keeps wy wx) => rown_any A7 c7 al [] [] wx (hA7.keeps k) (by omega))
      have c14 := Lib.hid (fun wx (k : Keeps wy wx) => owned_any A7 c7 al [] wx (hA7.keeps k) (by omega) hsub)
      have c15 := Lib.hid (fun wx (k : Keeps wy wx) => rowned_any A7 c7 al [] wx (hA7.keeps k) (by omega))
      have c17 := Lib.hid (fun wx (k : Keeps wy wx) => of_any A7 c7 al txn wx (hA7.keeps k) (by omega) had7)
      have c18 := Lib.hid (fun wx (k : Keeps wy wx) => rof_any A7 c7 al txn wx (hA7.keeps k) (by omega))
      have c20 := Lib.hid (fun wx (k : Keeps wy wx) => open_any A7 c7 al wx (hA7.keeps k) (by omega) (fun n hn => (HOKA.out n hn).2.1))
      have c21 := Lib.hid (fun wx (k : Keeps wy wx) => ropen_any A7 c7 al wx (hA7.keeps k) (by omega))
      have c22 := Lib.hid (fun wx (k : Keeps wy wx) => text_any A7 c7 al wx (HT.out.keeps (K3.out.trans k)) (hA7.keeps k) (by omega) HTX.out HOKA.out)
      have c23 := Lib.hid (fun wx (k : Keeps wy wx) => rtext_any A7 c7 al wx (hA7.keeps k) (by omega) HTX.out HOKA.out)
      have HLO := Lib.hid (Nat.le_trans (show (ofL al txn).length ≤ al.length from List.length_filter_le _ _) hl7)
      have HLL := Lib.hid hl7
      have HOM := Lib.hid (open_mem al)
      have HKW := K3
      clear K3
      have K3 := Lib.hid (Keeps.refl wy)
      rw [S_nil] at c11 c12 c14 c15
      generalize lifeI al = li at *
      generalize ownB [] al [] = ob at *
      generalize textL al = tx at *
      have z1 : (li == li) = true := by simp
      have z2 : (ob == ob) = true := by simp
      have z3 : ((S tx).toList == (S tx).toList) = true := by simp
      clear hcap7 hN7 had7 hsub hl7 hA7 KP RP cP HA HOKA HTX HT HAL
      generalize hL7 : al.length = L7 at *
      have HL7 := Lib.hid hL7
      clear hL7
      go_wp2_with fail
      refine (c9.out _ K3.out).mono ?_
      rintro e x1 ⟨rfl, k⟩
      have J1 := Lib.hid (K3.out.trans k)
      clear k c9
      go_wp2_with fail
      refine (c10.out _ J1.out).mono ?_
      rintro e x2 ⟨rfl, k⟩
      have J2 := Lib.hid (J1.out.trans k)
      clear k c10
      go_wp2_with fail
      refine (c11.out _ J2.out).mono ?_
      rintro e x3 ⟨rfl, k⟩
      have J3 := Lib.hid (J2.out.trans k)
      clear k c11
      go_wp2_with fail
      refine (c12.out _ J3.out).mono ?_
      rintro e x4 ⟨rfl, k⟩
      have J4 := Lib.hid (J3.out.trans k)
      clear k c12
      go_wp2_with fail
      refine (c14.out _ J4.out).mono ?_
      rintro e x5 ⟨A1, s1, b1, rfl, hr1, hm1, hst1, _, hsl1, _, k⟩
      have J5 := Lib.hid (J4.out.trans k)
      clear k c14
      have HR1 := Lib.hid (And.intro hr1 (And.intro hm1 (And.intro hst1 hsl1)))
      clear hr1 hm1 hst1 hsl1
      go_wp2_with fail
      refine (c15.out _ J5.out).mono ?_
      rintro e x6 ⟨A2, s2, b2, rfl, hr2, hm2, hst2, _, k⟩
      have hss : s1 = s2 := rise_uniqueS HR1.out.1 hr2 (fun u => (HR1.out.2.1 u).trans (hm2 u).symm)
      have J6 := Lib.hid (J5.out.trans k)
      have c13 := Lib.hid (same_strs A1 A2 b1 b2 s1 s2 x6 (HR1.out.2.2.1.keeps k) hst2 (by have := HR1.out.2.2.2; omega))
      rw [decide_eq_true hss] at c13
      clear k c15 hr2 hm2 hst2 hss
      generalize s1.length = n1 at *
      generalize s2.length = n2 at *
      go_wp2_with fail
      refine c13.out.mono ?_
      rintro e x7 ⟨rfl, q, hq⟩
      have J7 : Hid (Keeps wy x7) := Lib.hid (J6.out.trans (by rw [hq]; exact (Keeps.refl _).drewN q))
      clear hq c13
      go_wp2_with fail
      refine (c17.out _ J7.out).mono ?_
      rintro e x8 ⟨A3, b3, rfl, hN3, k⟩
      have J8 := Lib.hid (J7.out.trans k)
      have HN3 := Lib.hid hN3
      clear k c17 hN3
      go_wp2_with fail
      refine (c18.out _ J8.out).mono ?_
      rintro e x9 ⟨v4, rfl, hrow4, k⟩
      obtain ⟨A4, b4, rfl, hN4⟩ := hrow4.notes
      have J9 := Lib.hid (J8.out.trans k)
      have c16 := Lib.hid (same_notes A3 A4 b3 b4 (ofL al txn) (ofL al txn) x9 (HN3.out.keeps k) hN4 (by have := HLO.out; omega))
      rw [decide_eq_true (show ofL al txn = ofL al txn from rfl)] at c16
      clear k c18 hrow4 hN4
      generalize (ofL al txn).length = n3 at *
      go_wp2_with fail
      refine c16.out.mono ?_
      rintro e x10 ⟨rfl, q, hq⟩
      have J10 : Hid (Keeps wy x10) := Lib.hid (J9.out.trans (by rw [hq]; exact (Keeps.refl _).drewN q))
      clear hq c16
      go_wp2_with fail
      refine (c20.out _ J10.out).mono ?_
      rintro e x11 ⟨v5, s5, rfl, hO5, hrow5, _, k⟩
      obtain ⟨A5, b5, rfl, hI5⟩ := own_ints hrow5
      have J11 := Lib.hid (J10.out.trans k)
      have HO5 := Lib.hid hO5
      have HI5 := Lib.hid hI5
      clear k c20 hrow5 hO5 hI5
      generalize hn5 : s5.length = n5 at *
      have HN5 := Lib.hid hn5
      clear hn5
      go_wp2_with fail
      refine (c21.out _ J11.out).mono ?_
      rintro e x12 ⟨v6, s6, rfl, hrow6, hrise6, hmem6, hl6, k⟩
      obtain ⟨A6, b6, rfl, hI6⟩ : ∃ A6 b6, v6 = .slice A6 s6.length b6 ∧ IntsAt x12 A6 s6 := by
        rcases hrow6.form with ⟨rfl, rfl⟩ | ⟨g, cap, rfl, _, hs, _⟩
        · exact ⟨none, 0, rfl, fun i hi => by simp at hi⟩
        · exact ⟨_, _, rfl, hs⟩
      have hss : s5 = s6 := rise_unique HO5.out.1 hrise6 (fun t => (HO5.out.2 t).trans ((HOM.out t).trans (hmem6 t).symm))
      have J12 := Lib.hid (J11.out.trans k)
      have c19 := Lib.hid (same_ints A5 A6 b5 b6 s5 s6 x12 (HI5.out.keeps k) hI6 (by rw [hss]; have := HLL.out; have := HL7.out; omega))
      rw [decide_eq_true hss, HN5.out] at c19
      clear k c21 hrow6 hrise6 hmem6 hl6 hI6 hss
      generalize s6.length = n6 at *
      go_wp2_with fail
      refine c19.out.mono ?_
      rintro e x13 ⟨rfl, q, hq⟩
      have J13 : Hid (Keeps wy x13) := Lib.hid (J12.out.trans (by rw [hq]; exact (Keeps.refl _).drewN q))
      clear hq c19
      go_wp2_with fail
      refine (c22.out _ J13.out).mono ?_
      rintro e x14 ⟨rfl, k⟩
      have J14 := Lib.hid (J13.out.trans k)
      clear k c22
      go_wp2_with fail
      refine (c23.out _ J14.out).mono ?_
      rintro e x15 ⟨rfl, k⟩
      have J15 := Lib.hid (J14.out.trans k)
      clear k c23
      go_wp2
      go_ret
      exact ⟨rfl, HKW.out.trans J15.out⟩
set_option maxHeartbeats 16000000 in
set_option maxRecDepth 100000 in
theorem long_empty (g o : Nat) (s : Option Nat) (c : Nat) (more txn : Int) (w : World) (ht : Tab w) (hA : NotesAt w (some ⟨g, o, s⟩) (([] : List Nt))) (hli : lightNs (([] : List Nt)) 60 = true) (hok : ∀ n, n ∈ (([] : List Nt)) → NtLine n) :
    Calls Tryz.prog 4 #[.int .i64 more, .slice (some ⟨g, o, s⟩) (([] : List Nt)).length c, .int .i64 txn] w (Ret (.bool true) w) := by
  have hlen := lightNs_len hli
  have cL := Lib.hid (lives_any w)
  have cN : Hid (∀ wx, Keeps w wx → Calls Tryz.prog 6 #[.slice (some ⟨g, o, s⟩) (([] : List Nt)).length c, .int .i64 60] wx (Ret (.bool true) wx)) := Lib.hid (fun wx k => by have := lightNs_any (some ⟨g, o, s⟩) c (([] : List Nt)) 60 wx (hA.keeps k) (by unfold maxLen; omega); rwa [hli] at this)
  obtain ⟨m, hm⟩ : ∃ m : Nat, more % 300 = (m : Int) := ⟨(more % 300).toNat, by rw [Int.toNat_of_nonneg (Int.emod_nonneg _ (by omega))]⟩
  have hm2 : m < 300 := by have := Int.emod_lt_of_pos more (show (0 : Int) < 300 by omega); omega
  have cP : Hid (∀ wx, Calls Tryz.prog 24 #[.int .i64 more, .int .i64 300] wx (fun e w' => e = .returned (.int .i64 (m : Int)) ∧ w' = wx)) := Lib.hid (fun wx => by have := pick_any more 300 wx (by omega) (by omega); rwa [hm] at this)
  obtain ⟨i, hi, ⟨z, hz, hzs⟩, hz1, hz2⟩ := info31
  -- all notes
  have hal : (List.replicate m FULL ++ (([] : List Nt))).length = m + (([] : List Nt)).length := by rw [List.length_append, List.length_replicate]
  have hokA : ∀ n, n ∈ List.replicate m FULL ++ (([] : List Nt)) → NtLine n := fun n hn => by
    rcases List.mem_append.1 hn with h | h
    · rw [(List.mem_replicate.1 h).2]; exact full_line
    · exact hok n h
  have htx : (textL (List.replicate m FULL ++ (([] : List Nt)))).length ≤ 900000 := by
    rw [textL_app, List.length_append]
    have h1 := full_text m
    have h2 := textL_len (([] : List Nt)) hok
    have h3 : (([] : List Nt)).length * 4001 ≤ 60 * 4001 := Nat.mul_le_mul_right _ hlen
    omega
  have HAL := Lib.hid hal
  have HOKA := Lib.hid hokA
  have HTX := Lib.hid htx
  have HA := Lib.hid hA
  have HT := Lib.hid ht
  have HLEN := Lib.hid hlen
  clear hA hli hok ht hm hal hokA htx
  go_enter Tryz.func4, Tryz.ntmps4
  go_wp2_with fail
  refine cL.out.mono ?_
  rintro e w1 ⟨rfl, k1⟩
  go_wp2_with fail
  refine (cN.out _ k1).mono ?_
  rintro e w2 ⟨rfl, k2⟩
  have K2 := Lib.hid (k1.trans k2)
  clear k1 k2 cL cN
  go_wp2_with fail
  go_loopg [7, 8] (m + 1) (fun g v i wr => ∃ k : Nat, i = .int .i64 (k : Int) ∧ k ≤ m ∧ m - k < g ∧ Hid (Keeps w wr ∧ NtRow wr w.heap.size v (List.replicate k FULL)))
  case atStart => exact ⟨0, rfl, Nat.zero_le _, by omega, Lib.hid ⟨K2.out, NtRow.nil _ _⟩⟩
  case round =>
    obtain ⟨k, rfl, hkm, hkg, hI⟩ := hrel
    obtain ⟨hK, hR⟩ := hI.out
    have HK := Lib.hid hK
    have HR := Lib.hid hR
    clear hI hK hR
    by_cases hlt : k < m
    · have f1 : decide ((k : Int) < (m : Int)) = true := by simp; omega
      have f1' : decide (k < m) = true := by simpa using hlt
      go_wp2_with fail
      refine (cP.out _).mono ?_
      rintro e wp ⟨rfl, hwp⟩
      have KP := Lib.hid (show Keeps w wp by rw [hwp]; exact HK.out)
      have RP := Lib.hid (show NtRow wp w.heap.size u7 (List.replicate k FULL) by rw [hwp]; exact HR.out)
      clear hwp HK HR
      have JA := Lib.hid (KP.out.alloc (.cells (ntC FULL) 29))
      have RA := Lib.hid (RP.out.keeps ((Keeps.refl wp).alloc (.cells (ntC FULL) 29)))
      have HNW := Lib.hid (World.news_of_block (cs := ntC FULL) (t := 29) (fr := (0, 0)) (heap_alloc_new wp (.cells (ntC FULL) 29)))
      have HB := Lib.hid (Below.size JA.out)
      unfold NtRow at RA
      unfold ntC FULL Act.zero at RA JA HNW HB
      simp only [S_nil] at RA JA HNW HB
      go_wp2_with (at_builtin; refine wpList_append_own _ rfl (.tmp 22) (.tmp 24) 22 rfl w.heap.size 29 i z 9 112 Tryz.underlying22 hi hz hz1 hz2 hzs (by decide) _ _ _ rfl RA.out ⟨wp.heap.size, 0, none⟩ 1 1 [.int .i64 9, .int .i64 0, .int .i64 0, .string ⟨#[]⟩, .string ⟨#[]⟩, .string ⟨#[]⟩, .string ⟨#[]⟩, .int .i64 0, .string ⟨#[]⟩] rfl rfl ?c1 ?c2 ?c3 ?c4 ?c5 ?_)
      case c1 => exact HNW.out
      case c2 => simp [Value.oneCell']
      case c3 => rw [List.length_replicate]; unfold maxLen; omega
      case c4 => rw [List.length_replicate]; omega
      case c5 => have h := HB.out; simpa using h
      intro v' y hown hgrow _
      have JY := Lib.hid (show Keeps w y ∧ NtRow y w.heap.size v' (List.replicate (k + 1) FULL) from ⟨JA.out.grown hgrow HB.out (fun q hq => (World.ownsRow.lt RA.out q hq).1), by
        rw [full_snoc]
        unfold NtRow
        rw [flatN_app, List.length_append, List.length_replicate]
        exact hown⟩)
      clear hown hgrow
      go_wp2
      cases gk with
      | zero => omega
      | succ g2 =>
        go_roundg g2
        case measure => omega
        case rel => exact ⟨k + 1, by go_num, by omega, by omega, JY⟩
    · obtain rfl : k = m := by omega
      have f1 : decide ((k : Int) < (k : Int)) = false := by simp
      have f1' : decide (k < k) = false := by simp
      go_wp2_with fail
      refine (cP.out _).mono ?_
      rintro e wp ⟨rfl, hwp⟩
      have KP := Lib.hid (show Keeps w wp by rw [hwp]; exact HK.out)
      have RP := Lib.hid (show NtRow wp w.heap.size u7 (List.replicate k FULL) by rw [hwp]; exact HR.out)
      clear hwp HK HR
      have HNL := Lib.hid (notes_news (HA.out.keeps KP.out) (.inl rfl))
      have HBB := Lib.hid (Below.size KP.out)
      go_wp2_with (at_builtin; go_loud (refine wpList_append_own _ rfl (.tmp 26) (.tmp 27) 22 rfl w.heap.size 29 i z 9 112 Tryz.underlying22 hi hz hz1 hz2 hzs (by decide) _ _ _ rfl RP.out ⟨g, o, s⟩ 0 c (flatN ([] : List Nt)) rfl rfl HNL.out (flatN_one _) ?c3 ?c4 ?c5 ?_))
      case c3 =>
        have e := HLEN.out
        simp only [List.length_nil] at e
        rw [List.length_replicate]
        unfold maxLen
        omega
      case c4 =>
        have e := HLEN.out
        simp only [List.length_nil] at e
        rw [List.length_replicate]
        omega
      case c5 => have h := HBB.out; simpa using h
      intro v' wy hown hgrow _
      have JY := Lib.hid (show Keeps w wy ∧ NtRow wy w.heap.size v' (List.replicate k FULL ++ ([] : List Nt)) from ⟨KP.out.grown hgrow HBB.out (fun q hq => (World.ownsRow.lt RP.out q hq).1), by
        unfold NtRow
        rw [flatN_app, List.length_append, List.length_replicate]
        exact hown⟩)
      clear hown hgrow HNL HBB
      obtain ⟨A7, c7, rfl, hcap7, hN7, had7⟩ := row_had JY.out.2
      have K3 := Lib.hid JY.out.1
      clear JY RP KP
      generalize List.replicate k FULL ++ ([] : List Nt) = al at *
      have hsub : ∀ n, n ∈ al → n.act.subj.length ≤ maxLen := fun n hn => by
        have h := (HOKA.out n hn).1
        unfold lightN1 lightA at h
        simp only [Bool.and_eq_true, decide_eq_true_eq] at h
        unfold maxLen; omega
      have hl7 : al.length ≤ 400 := by have h1 := HAL.out; have h2 := HLEN.out; omega
      have hA7 := hN7
      have c9 := Lib.hid (fun wx (k : Keeps wy wx) => life_any A7 c7 al wx (hA7.keeps k) (by omega) (fun n hn => (HOKA.out n hn).2.1))
      have c10 := Lib.hid (fun wx (k : Keeps wy wx) => rlife_any A7 c7 al wx (hA7.keeps k) (by omega) hcap7)
      have c11 := Lib.hid (fun wx (k : Keeps wy wx) => isOwn_any A7 c7 al [] [] wx (hA7.keeps k) (by omega) hsub (by simp))
      have c12 := Lib.hid (fun wx (k : Keeps wy wx) => rown_any A7 c7 al [] [] wx (hA7.keeps k) (by omega))
      have c14 := Lib.hid (fun wx (k : Keeps wy wx) => owned_any A7 c7 al [] wx (hA7.keeps k) (by omega) hsub)
      have c15 := Lib.hid (fun wx (k : Keeps wy wx) => rowned_any A7 c7 al [] wx (hA7.keeps k) (by omega))
      have c17 := Lib.hid (fun wx (k : Keeps wy wx) => of_any A7 c7 al txn wx (hA7.keeps k) (by omega) had7)
      have c18 := Lib.hid (fun wx (k : Keeps wy wx) => rof_any A7 c7 al txn wx (hA7.keeps k) (by omega))
      have c20 := Lib.hid (fun wx (k : Keeps wy wx) => open_any A7 c7 al wx (hA7.keeps k) (by omega) (fun n hn => (HOKA.out n hn).2.1))
      have c21 := Lib.hid (fun wx (k : Keeps wy wx) => ropen_any A7 c7 al wx (hA7.keeps k) (by omega))
      have c22 := Lib.hid (fun wx (k : Keeps wy wx) => text_any A7 c7 al wx (HT.out.keeps (K3.out.trans k)) (hA7.keeps k) (by omega) HTX.out HOKA.out)
      have c23 := Lib.hid (fun wx (k : Keeps wy wx) => rtext_any A7 c7 al wx (hA7.keeps k) (by omega) HTX.out HOKA.out)
      have HLO := Lib.hid (Nat.le_trans (show (ofL al txn).length ≤ al.length from List.length_filter_le _ _) hl7)
      have HLL := Lib.hid hl7
      have HOM := Lib.hid (open_mem al)
      have HKW := K3
      clear K3
      have K3 := Lib.hid (Keeps.refl wy)
      rw [S_nil] at c11 c12 c14 c15
      generalize lifeI al = li at *
      generalize ownB [] al [] = ob at *
      generalize textL al = tx at *
      have z1 : (li == li) = true := by simp
      have z2 : (ob == ob) = true := by simp
      have z3 : ((S tx).toList == (S tx).toList) = true := by simp
      clear hcap7 hN7 had7 hsub hl7 hA7 cP HA HOKA HTX HT HAL
      generalize hL7 : al.length = L7 at *
      have HL7 := Lib.hid hL7
      clear hL7
      go_wp2_with fail
      refine (c9.out _ K3.out).mono ?_
      rintro e x1 ⟨rfl, k⟩
      have J1 := Lib.hid (K3.out.trans k)
      clear k c9
      go_wp2_with fail
      refine (c10.out _ J1.out).mono ?_
      rintro e x2 ⟨rfl, k⟩
      have J2 := Lib.hid (J1.out.trans k)
      clear k c10
      go_wp2_with fail
      refine (c11.out _ J2.out).mono ?_
      rintro e x3 ⟨rfl, k⟩
      have J3 := Lib.hid (J2.out.trans k)
      clear k c11
      go_wp2_with fail
      refine (c12.out _ J3.out).mono ?_
      rintro e x4 ⟨rfl, k⟩
      have J4 := Lib.hid (J3.out.trans k)
      clear k c12
      go_wp2_with fail
      refine (c14.out _ J4.out).mono ?_
      rintro e x5 ⟨A1, s1, b1, rfl, hr1, hm1, hst1, _, hsl1, _, k⟩
      have J5 := Lib.hid (J4.out.trans k)
      clear k c14
      have HR1 := Lib.hid (And.intro hr1 (And.intro hm1 (And.intro hst1 hsl1)))
      clear hr1 hm1 hst1 hsl1
      go_wp2_with fail
      refine (c15.out _ J5.out).mono ?_
      rintro e x6 ⟨A2, s2, b2, rfl, hr2, hm2, hst2, _, k⟩
      have hss : s1 = s2 := rise_uniqueS HR1.out.1 hr2 (fun u => (HR1.out.2.1 u).trans (hm2 u).symm)
      have J6 := Lib.hid (J5.out.trans k)
      have c13 := Lib.hid (same_strs A1 A2 b1 b2 s1 s2 x6 (HR1.out.2.2.1.keeps k) hst2 (by have := HR1.out.2.2.2; omega))
      rw [decide_eq_true hss] at c13
      clear k c15 hr2 hm2 hst2 hss
      generalize s1.length = n1 at *
      generalize s2.length = n2 at *
      go_wp2_with fail
      refine c13.out.mono ?_
      rintro e x7 ⟨rfl, q, hq⟩
      have J7 : Hid (Keeps wy x7) := Lib.hid (J6.out.trans (by rw [hq]; exact (Keeps.refl _).drewN q))
      clear hq c13
      go_wp2_with fail
      refine (c17.out _ J7.out).mono ?_
      rintro e x8 ⟨A3, b3, rfl, hN3, k⟩
      have J8 := Lib.hid (J7.out.trans k)
      have HN3 := Lib.hid hN3
      clear k c17 hN3
      go_wp2_with fail
      refine (c18.out _ J8.out).mono ?_
      rintro e x9 ⟨v4, rfl, hrow4, k⟩
      obtain ⟨A4, b4, rfl, hN4⟩ := hrow4.notes
      have J9 := Lib.hid (J8.out.trans k)
      have c16 := Lib.hid (same_notes A3 A4 b3 b4 (ofL al txn) (ofL al txn) x9 (HN3.out.keeps k) hN4 (by have := HLO.out; omega))
      rw [decide_eq_true (show ofL al txn = ofL al txn from rfl)] at c16
      clear k c18 hrow4 hN4
      generalize (ofL al txn).length = n3 at *
      go_wp2_with fail
      refine c16.out.mono ?_
      rintro e x10 ⟨rfl, q, hq⟩
      have J10 : Hid (Keeps wy x10) := Lib.hid (J9.out.trans (by rw [hq]; exact (Keeps.refl _).drewN q))
      clear hq c16
      go_wp2_with fail
      refine (c20.out _ J10.out).mono ?_
      rintro e x11 ⟨v5, s5, rfl, hO5, hrow5, _, k⟩
      obtain ⟨A5, b5, rfl, hI5⟩ := own_ints hrow5
      have J11 := Lib.hid (J10.out.trans k)
      have HO5 := Lib.hid hO5
      have HI5 := Lib.hid hI5
      clear k c20 hrow5 hO5 hI5
      generalize hn5 : s5.length = n5 at *
      have HN5 := Lib.hid hn5
      clear hn5
      go_wp2_with fail
      refine (c21.out _ J11.out).mono ?_
      rintro e x12 ⟨v6, s6, rfl, hrow6, hrise6, hmem6, hl6, k⟩
      obtain ⟨A6, b6, rfl, hI6⟩ : ∃ A6 b6, v6 = .slice A6 s6.length b6 ∧ IntsAt x12 A6 s6 := by
        rcases hrow6.form with ⟨rfl, rfl⟩ | ⟨g, cap, rfl, _, hs, _⟩
        · exact ⟨none, 0, rfl, fun i hi => by simp at hi⟩
        · exact ⟨_, _, rfl, hs⟩
      have hss : s5 = s6 := rise_unique HO5.out.1 hrise6 (fun t => (HO5.out.2 t).trans ((HOM.out t).trans (hmem6 t).symm))
      have J12 := Lib.hid (J11.out.trans k)
      have c19 := Lib.hid (same_ints A5 A6 b5 b6 s5 s6 x12 (HI5.out.keeps k) hI6 (by rw [hss]; have := HLL.out; have := HL7.out; omega))
      rw [decide_eq_true hss, HN5.out] at c19
      clear k c21 hrow6 hrise6 hmem6 hl6 hI6 hss
      generalize s6.length = n6 at *
      go_wp2_with fail
      refine c19.out.mono ?_
      rintro e x13 ⟨rfl, q, hq⟩
      have J13 : Hid (Keeps wy x13) := Lib.hid (J12.out.trans (by rw [hq]; exact (Keeps.refl _).drewN q))
      clear hq c19
      go_wp2_with fail
      refine (c22.out _ J13.out).mono ?_
      rintro e x14 ⟨rfl, k⟩
      have J14 := Lib.hid (J13.out.trans k)
      clear k c22
      go_wp2_with fail
      refine (c23.out _ J14.out).mono ?_
      rintro e x15 ⟨rfl, k⟩
      have J15 := Lib.hid (J14.out.trans k)
      clear k c23
      go_wp2
      go_ret
      exact ⟨rfl, HKW.out.trans J15.out⟩
set_option maxHeartbeats 16000000 in
set_option maxRecDepth 100000 in
theorem long_cons (A : Option Addr) (c : Nat) (l : List Nt) (more txn : Int) (w : World) (ht : Tab w) (hA : NotesAt w A (l)) (hli : lightNs (l) 60 = true) (hok : ∀ n, n ∈ (l) → NtLine n) (hne : 0 < l.length) :
    Calls Tryz.prog 4 #[.int .i64 more, .slice A (l).length c, .int .i64 txn] w (Ret (.bool true) w) := by
  have hlen := lightNs_len hli
  have cL := Lib.hid (lives_any w)
  have cN : Hid (∀ wx, Keeps w wx → Calls Tryz.prog 6 #[.slice A (l).length c, .int .i64 60] wx (Ret (.bool true) wx)) := Lib.hid (fun wx k => by have := lightNs_any A c (l) 60 wx (hA.keeps k) (by unfold maxLen; omega); rwa [hli] at this)
  obtain ⟨m, hm⟩ : ∃ m : Nat, more % 300 = (m : Int) := ⟨(more % 300).toNat, by rw [Int.toNat_of_nonneg (Int.emod_nonneg _ (by omega))]⟩
  have hm2 : m < 300 := by have := Int.emod_lt_of_pos more (show (0 : Int) < 300 by omega); omega
  have cP : Hid (∀ wx, Calls Tryz.prog 24 #[.int .i64 more, .int .i64 300] wx (fun e w' => e = .returned (.int .i64 (m : Int)) ∧ w' = wx)) := Lib.hid (fun wx => by have := pick_any more 300 wx (by omega) (by omega); rwa [hm] at this)
  obtain ⟨i, hi, ⟨z, hz, hzs⟩, hz1, hz2⟩ := info31
  -- all notes
  have hal : (List.replicate m FULL ++ (l)).length = m + (l).length := by rw [List.length_append, List.length_replicate]
  have hokA : ∀ n, n ∈ List.replicate m FULL ++ (l) → NtLine n := fun n hn => by
    rcases List.mem_append.1 hn with h | h
    · rw [(List.mem_replicate.1 h).2]; exact full_line
    · exact hok n h
  have htx : (textL (List.replicate m FULL ++ (l))).length ≤ 900000 := by
    rw [textL_app, List.length_append]
    have h1 := full_text m
    have h2 := textL_len (l) hok
    have h3 : (l).length * 4001 ≤ 60 * 4001 := Nat.mul_le_mul_right _ hlen
    omega
  have hf := hok _ (List.getElem_mem hne)
  obtain ⟨g, o, rfl, hc⟩ := hA 0 hne
  generalize l[0]'hne = f at *
  have HU : Hid (f.act.subj.length ≤ maxLen) := Lib.hid (by
    have h := hf.1
    unfold lightN1 lightA at h
    simp only [Bool.and_eq_true, decide_eq_true_eq] at h
    unfold maxLen; omega)
  obtain ⟨L, hL⟩ : ∃ L, l.length = L := ⟨_, rfl⟩
  have HL := Lib.hid hL
  rw [hL] at cN hal hlen hne ⊢
  have HC := Lib.hid hc
  have f0 : decide ((0 : Int) < (L : Int)) = true := by simp; omega
  have f0' : decide (0 < L) = true := by simpa using hne
  have q2 : (0 : Int) < (L : Int) := by omega
  clear hL hc hf
  have HAL := Lib.hid hal
  have HOKA := Lib.hid hokA
  have HTX := Lib.hid htx
  have HA := Lib.hid hA
  have HT := Lib.hid ht
  have HLEN := Lib.hid hlen
  clear hA hli hok ht hm hal hokA htx
  go_enter Tryz.func4, Tryz.ntmps4
  go_wp2_with fail
  refine cL.out.mono ?_
  rintro e w1 ⟨rfl, k1⟩
  go_wp2_with fail
  refine (cN.out _ k1).mono ?_
  rintro e w2 ⟨rfl, k2⟩
  have K2 := Lib.hid (k1.trans k2)
  clear k1 k2 cL cN
  go_wp2_with fail
  go_loopg [7, 8] (m + 1) (fun g v i wr => ∃ k : Nat, i = .int .i64 (k : Int) ∧ k ≤ m ∧ m - k < g ∧ Hid (Keeps w wr ∧ NtRow wr w.heap.size v (List.replicate k FULL)))
  case atStart => exact ⟨0, rfl, Nat.zero_le _, by omega, Lib.hid ⟨K2.out, NtRow.nil _ _⟩⟩
  case round =>
    obtain ⟨k, rfl, hkm, hkg, hI⟩ := hrel
    obtain ⟨hK, hR⟩ := hI.out
    have HK := Lib.hid hK
    have HR := Lib.hid hR
    clear hI hK hR
    by_cases hlt : k < m
    · have f1 : decide ((k : Int) < (m : Int)) = true := by simp; omega
      have f1' : decide (k < m) = true := by simpa using hlt
      go_wp2_with fail
      refine (cP.out _).mono ?_
      rintro e wp ⟨rfl, hwp⟩
      have KP := Lib.hid (show Keeps w wp by rw [hwp]; exact HK.out)
      have RP := Lib.hid (show NtRow wp w.heap.size u7 (List.replicate k FULL) by rw [hwp]; exact HR.out)
      clear hwp HK HR
      have JA := Lib.hid (KP.out.alloc (.cells (ntC FULL) 29))
      have RA := Lib.hid (RP.out.keeps ((Keeps.refl wp).alloc (.cells (ntC FULL) 29)))
      have HNW := Lib.hid (World.news_of_block (cs := ntC FULL) (t := 29) (fr := (0, 0)) (heap_alloc_new wp (.cells (ntC FULL) 29)))
      have HB := Lib.hid (Below.size JA.out)
      unfold NtRow at RA
      unfold ntC FULL Act.zero at RA JA HNW HB
      simp only [S_nil] at RA JA HNW HB
      go_wp2_with (at_builtin; refine wpList_append_own _ rfl (.tmp 22) (.tmp 24) 22 rfl w.heap.size 29 i z 9 112 Tryz.underlying22 hi hz hz1 hz2 hzs (by decide) _ _ _ rfl RA.out ⟨wp.heap.size, 0, none⟩ 1 1 [.int .i64 9, .int .i64 0, .int .i64 0, .string ⟨#[]⟩, .string ⟨#[]⟩, .string ⟨#[]⟩, .string ⟨#[]⟩, .int .i64 0, .string ⟨#[]⟩] rfl rfl ?c1 ?c2 ?c3 ?c4 ?c5 ?_)
      case c1 => exact HNW.out
      case c2 => simp [Value.oneCell']
      case c3 => rw [List.length_replicate]; unfold maxLen; omega
      case c4 => rw [List.length_replicate]; omega
      case c5 => have h := HB.out; simpa using h
      intro v' y hown hgrow _
      have JY := Lib.hid (show Keeps w y ∧ NtRow y w.heap.size v' (List.replicate (k + 1) FULL) from ⟨JA.out.grown hgrow HB.out (fun q hq => (World.ownsRow.lt RA.out q hq).1), by
        rw [full_snoc]
        unfold NtRow
        rw [flatN_app, List.length_append, List.length_replicate]
        exact hown⟩)
      clear hown hgrow
      go_wp2
      cases gk with
      | zero => omega
      | succ g2 =>
        go_roundg g2
        case measure => omega
        case rel => exact ⟨k + 1, by go_num, by omega, by omega, JY⟩
    · obtain rfl : k = m := by omega
      have f1 : decide ((k : Int) < (k : Int)) = false := by simp
      have f1' : decide (k < k) = false := by simp
      go_wp2_with fail
      refine (cP.out _).mono ?_
      rintro e wp ⟨rfl, hwp⟩
      have KP := Lib.hid (show Keeps w wp by rw [hwp]; exact HK.out)
      have RP := Lib.hid (show NtRow wp w.heap.size u7 (List.replicate k FULL) by rw [hwp]; exact HR.out)
      clear hwp HK HR
      have HNL := Lib.hid (notes_news (HA.out.keeps KP.out) (.inr rfl))
      have HBB := Lib.hid (Below.size KP.out)
      go_wp2_with (at_builtin; go_loud (refine wpList_append_own _ rfl (.tmp 26) (.tmp 27) 22 rfl w.heap.size 29 i z 9 112 Tryz.underlying22 hi hz hz1 hz2 hzs (by decide) _ _ _ rfl RP.out ⟨g, o, none⟩ L c (flatN l) rfl (by rw [flatN_len, HL.out]) HNL.out (flatN_one _) ?c3 ?c4 ?c5 ?_))
      case c3 =>
        have e := HLEN.out
        clear hlen
        rw [List.length_replicate]
        unfold maxLen
        omega
      case c4 =>
        have e := HLEN.out
        clear hlen
        rw [List.length_replicate]
        omega
      case c5 => have h := HBB.out; simpa using h
      intro v' wy hown hgrow _
      have JY := Lib.hid (show Keeps w wy ∧ NtRow wy w.heap.size v' (List.replicate k FULL ++ l) from ⟨KP.out.grown hgrow HBB.out (fun q hq => (World.ownsRow.lt RP.out q hq).1), by
        unfold NtRow
        rw [flatN_app, List.length_append, List.length_replicate, HL.out]
        exact hown⟩)
      clear hown hgrow HNL HBB
      obtain ⟨A7, c7, rfl, hcap7, hN7, had7⟩ := row_had JY.out.2
      have K3 := Lib.hid JY.out.1
      clear JY RP KP
      generalize List.replicate k FULL ++ l = al at *
      have hsub : ∀ n, n ∈ al → n.act.subj.length ≤ maxLen := fun n hn => by
        have h := (HOKA.out n hn).1
        unfold lightN1 lightA at h
        simp only [Bool.and_eq_true, decide_eq_true_eq] at h
        unfold maxLen; omega
      have hl7 : al.length ≤ 400 := by have h1 := HAL.out; have h2 := HLEN.out; omega
      have hA7 := hN7
      have c9 := Lib.hid (fun wx (k : Keeps wy wx) => life_any A7 c7 al wx (hA7.keeps k) (by omega) (fun n hn => (HOKA.out n hn).2.1))
      have c10 := Lib.hid (fun wx (k : Keeps wy wx) => rlife_any A7 c7 al wx (hA7.keeps k) (by omega) hcap7)
      have c11 := Lib.hid (fun wx (k : Keeps wy wx) => isOwn_any A7 c7 al f.act.room f.act.subj wx (hA7.keeps k) (by omega) hsub (by exact HU.out))
      have c12 := Lib.hid (fun wx (k : Keeps wy wx) => rown_any A7 c7 al f.act.room f.act.subj wx (hA7.keeps k) (by omega))
      have c14 := Lib.hid (fun wx (k : Keeps wy wx) => owned_any A7 c7 al f.act.room wx (hA7.keeps k) (by omega) hsub)
      have c15 := Lib.hid (fun wx (k : Keeps wy wx) => rowned_any A7 c7 al f.act.room wx (hA7.keeps k) (by omega))
      have c17 := Lib.hid (fun wx (k : Keeps wy wx) => of_any A7 c7 al txn wx (hA7.keeps k) (by omega) had7)
      have c18 := Lib.hid (fun wx (k : Keeps wy wx) => rof_any A7 c7 al txn wx (hA7.keeps k) (by omega))
      have c20 := Lib.hid (fun wx (k : Keeps wy wx) => open_any A7 c7 al wx (hA7.keeps k) (by omega) (fun n hn => (HOKA.out n hn).2.1))
      have c21 := Lib.hid (fun wx (k : Keeps wy wx) => ropen_any A7 c7 al wx (hA7.keeps k) (by omega))
      have c22 := Lib.hid (fun wx (k : Keeps wy wx) => text_any A7 c7 al wx (HT.out.keeps (K3.out.trans k)) (hA7.keeps k) (by omega) HTX.out HOKA.out)
      have c23 := Lib.hid (fun wx (k : Keeps wy wx) => rtext_any A7 c7 al wx (hA7.keeps k) (by omega) HTX.out HOKA.out)
      have HLO := Lib.hid (Nat.le_trans (show (ofL al txn).length ≤ al.length from List.length_filter_le _ _) hl7)
      have HLL := Lib.hid hl7
      have HOM := Lib.hid (open_mem al)
      have HKW := K3
      clear K3
      have K3 := Lib.hid (Keeps.refl wy)
      have r3 : ∀ kx : Wl wy, kx.x.cell? ⟨g, o + 0 * 9 + 3, none⟩ = some (.string (S f.act.room)) := fun kx => (HC.out.keeps (HKW.out.trans kx.k)).nine.2.2.2.1
      have r4 : ∀ kx : Wl wy, kx.x.cell? ⟨g, o + 0 * 9 + 4, none⟩ = some (.string (S f.act.subj)) := fun kx => (HC.out.keeps (HKW.out.trans kx.k)).nine.2.2.2.2.1
      simp only [Nat.zero_mul, Nat.add_zero] at r3 r4
      go_wp2_with fail
      refine wp_region_keeps (by kernel_rfl) (by kernel_rfl) ?_
      repeat (go_big_quiet_step (fail))
      refine wpQuiet_nil ?_
      rintro x ⟨kq, hq⟩
      clear K3
      have K3 : Hid (Keeps wy x) := Lib.hid (by rw [hq]; exact kq.k)
      clear hq kq r3 r4
      generalize lifeI al = li at *
      generalize ownB f.act.room al f.act.subj = ob at *
      generalize textL al = tx at *
      have z1 : (li == li) = true := by simp
      have z2 : (ob == ob) = true := by simp
      have z3 : ((S tx).toList == (S tx).toList) = true := by simp
      clear hcap7 hN7 had7 hsub hl7 hA7 cP HA HOKA HTX HT HAL
      generalize hL7 : al.length = L7 at *
      have HL7 := Lib.hid hL7
      clear hL7
      go_wp2_with fail
      refine (c9.out _ K3.out).mono ?_
      rintro e x1 ⟨rfl, k⟩
      have J1 := Lib.hid (K3.out.trans k)
      clear k c9
      go_wp2_with fail
      refine (c10.out _ J1.out).mono ?_
      rintro e x2 ⟨rfl, k⟩
      have J2 := Lib.hid (J1.out.trans k)
      clear k c10
      go_wp2_with fail
      refine (c11.out _ J2.out).mono ?_
      rintro e x3 ⟨rfl, k⟩
      have J3 := Lib.hid (J2.out.trans k)
      clear k c11
      go_wp2_with fail
      refine (c12.out _ J3.out).mono ?_
      rintro e x4 ⟨rfl, k⟩
      have J4 := Lib.hid (J3.out.trans k)
      clear k c12
      go_wp2_with fail
      refine (c14.out _ J4.out).mono ?_
      rintro e x5 ⟨A1, s1, b1, rfl, hr1, hm1, hst1, _, hsl1, _, k⟩
      have J5 := Lib.hid (J4.out.trans k)
      clear k c14
      have HR1 := Lib.hid (And.intro hr1 (And.intro hm1 (And.intro hst1 hsl1)))
      clear hr1 hm1 hst1 hsl1
      go_wp2_with fail
      refine (c15.out _ J5.out).mono ?_
      rintro e x6 ⟨A2, s2, b2, rfl, hr2, hm2, hst2, _, k⟩
      have hss : s1 = s2 := rise_uniqueS HR1.out.1 hr2 (fun u => (HR1.out.2.1 u).trans (hm2 u).symm)
      have J6 := Lib.hid (J5.out.trans k)
      have c13 := Lib.hid (same_strs A1 A2 b1 b2 s1 s2 x6 (HR1.out.2.2.1.keeps k) hst2 (by have := HR1.out.2.2.2; omega))
      rw [decide_eq_true hss] at c13
      clear k c15 hr2 hm2 hst2 hss
      generalize s1.length = n1 at *
      generalize s2.length = n2 at *
      go_wp2_with fail
      refine c13.out.mono ?_
      rintro e x7 ⟨rfl, q, hq⟩
      have J7 : Hid (Keeps wy x7) := Lib.hid (J6.out.trans (by rw [hq]; exact (Keeps.refl _).drewN q))
      clear hq c13
      go_wp2_with fail
      refine (c17.out _ J7.out).mono ?_
      rintro e x8 ⟨A3, b3, rfl, hN3, k⟩
      have J8 := Lib.hid (J7.out.trans k)
      have HN3 := Lib.hid hN3
      clear k c17 hN3
      go_wp2_with fail
      refine (c18.out _ J8.out).mono ?_
      rintro e x9 ⟨v4, rfl, hrow4, k⟩
      obtain ⟨A4, b4, rfl, hN4⟩ := hrow4.notes
      have J9 := Lib.hid (J8.out.trans k)
      have c16 := Lib.hid (same_notes A3 A4 b3 b4 (ofL al txn) (ofL al txn) x9 (HN3.out.keeps k) hN4 (by have := HLO.out; omega))
      rw [decide_eq_true (show ofL al txn = ofL al txn from rfl)] at c16
      clear k c18 hrow4 hN4
      generalize (ofL al txn).length = n3 at *
      go_wp2_with fail
      refine c16.out.mono ?_
      rintro e x10 ⟨rfl, q, hq⟩
      have J10 : Hid (Keeps wy x10) := Lib.hid (J9.out.trans (by rw [hq]; exact (Keeps.refl _).drewN q))
      clear hq c16
      go_wp2_with fail
      refine (c20.out _ J10.out).mono ?_
      rintro e x11 ⟨v5, s5, rfl, hO5, hrow5, _, k⟩
      obtain ⟨A5, b5, rfl, hI5⟩ := own_ints hrow5
      have J11 := Lib.hid (J10.out.trans k)
      have HO5 := Lib.hid hO5
      have HI5 := Lib.hid hI5
      clear k c20 hrow5 hO5 hI5
      generalize hn5 : s5.length = n5 at *
      have HN5 := Lib.hid hn5
      clear hn5
      go_wp2_with fail
      refine (c21.out _ J11.out).mono ?_
      rintro e x12 ⟨v6, s6, rfl, hrow6, hrise6, hmem6, hl6, k⟩
      obtain ⟨A6, b6, rfl, hI6⟩ : ∃ A6 b6, v6 = .slice A6 s6.length b6 ∧ IntsAt x12 A6 s6 := by
        rcases hrow6.form with ⟨rfl, rfl⟩ | ⟨g, cap, rfl, _, hs, _⟩
        · exact ⟨none, 0, rfl, fun i hi => by simp at hi⟩
        · exact ⟨_, _, rfl, hs⟩
      have hss : s5 = s6 := rise_unique HO5.out.1 hrise6 (fun t => (HO5.out.2 t).trans ((HOM.out t).trans (hmem6 t).symm))
      have J12 := Lib.hid (J11.out.trans k)
      have c19 := Lib.hid (same_ints A5 A6 b5 b6 s5 s6 x12 (HI5.out.keeps k) hI6 (by rw [hss]; have := HLL.out; have := HL7.out; omega))
      rw [decide_eq_true hss, HN5.out] at c19
      clear k c21 hrow6 hrise6 hmem6 hl6 hI6 hss
      generalize s6.length = n6 at *
      go_wp2_with fail
      refine c19.out.mono ?_
      rintro e x13 ⟨rfl, q, hq⟩
      have J13 : Hid (Keeps wy x13) := Lib.hid (J12.out.trans (by rw [hq]; exact (Keeps.refl _).drewN q))
      clear hq c19
      go_wp2_with fail
      refine (c22.out _ J13.out).mono ?_
      rintro e x14 ⟨rfl, k⟩
      have J14 := Lib.hid (J13.out.trans k)
      clear k c22
      go_wp2_with fail
      refine (c23.out _ J14.out).mono ?_
      rintro e x15 ⟨rfl, k⟩
      have J15 := Lib.hid (J14.out.trans k)
      clear k c23
      go_wp2
      go_ret
      exact ⟨rfl, HKW.out.trans J15.out⟩
end Go.Proofs.YtfapilgmgjmfeaaGreatDoor
