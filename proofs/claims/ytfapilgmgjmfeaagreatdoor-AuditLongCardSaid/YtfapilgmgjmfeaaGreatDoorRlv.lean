/-
  The document's own Life.
-/
import Derived.Test.YtfapilgmgjmfeaaGreatDoorRon
namespace Go.Proofs.YtfapilgmgjmfeaaGreatDoor
open Go.RowKit

theorem notes_take {w : World} {A : Option Addr} {l : List Nt} (h : NotesAt w A l) (k : Nat) : NotesAt w A (l.take k) := fun i hi => by
  have hi2 : i < l.length := by rw [List.length_take] at hi; omega
  obtain ⟨g, o, h1, h2⟩ := h i hi2
  exact ⟨g, o, h1, by simpa using h2⟩
set_option maxHeartbeats 8000000 in
set_option maxRecDepth 100000 in
theorem rlife_any (A : Option Addr) (c : Nat) (l : List Nt) (w : World) (hA : NotesAt w A l) (hlen : l.length ≤ 1000000) (hcap : l.length ≤ c) : Calls Tryz.prog 10 #[.slice A l.length c] w (Ret (.int .i64 (lifeI l)) w) := by
  have HA := Lib.hid hA
  have HC := Lib.hid hcap
  have HTN := Lib.hid (fun k => List.length_take_le' k l)
  have HTL := Lib.hid (fun k (hk : k < l.length) => List.take_succ_eq_append_getElem hk)
  obtain ⟨L, hL⟩ : ∃ L, l.length = L := ⟨_, rfl⟩
  have HL := Lib.hid hL
  rw [hL] at hlen hcap ⊢
  clear hA hL
  go_enter Tryz.func10, Tryz.ntmps10
  go_wp2
  go_loopg [3] (L + 1) (fun g i wr => ∃ k : Nat, i = .int .i64 (k : Int) ∧ k ≤ L ∧ L - k < g ∧ Hid (Keeps w wr ∧ ∃ rd, Inv (l.take k) rd ∧ lifeN l = lifeF rd (l.drop k) k))
  case atStart => exact ⟨0, rfl, Nat.zero_le _, by omega, Lib.hid ⟨Keeps.refl _, Rdg.zero, Inv.nil, rfl⟩⟩
  case round =>
    obtain ⟨k, rfl, hkL, hkg, hI⟩ := hrel
    by_cases hlt : k < L
    · have hlt' : k < l.length := by rw [HL.out]; exact hlt
      obtain ⟨hK, rd, hInv, hlf⟩ := hI.out
      have hd := List.drop_eq_getElem_cons hlt'
      rw [hd, lifeF] at hlf
      obtain ⟨h1, h2⟩ := takes_ref hInv (l[k]'hlt')
      have htl := HTL.out k hlt'
      rw [← htl] at h2
      rw [h1] at hlf h2
      obtain ⟨g, o, hAe, hc⟩ := (HA.out.keeps hK) k hlt'
      have HP := Lib.hid (notes_take (HA.out.keeps hK) k)
      subst hAe
      have hpl : (l.take k).length = k := by rw [List.length_take]; omega
      have cO := Lib.hid (fun wx (kx : Keeps wr wx) => one_any (some ⟨g, o, none⟩) c (l.take k) (l[k]'hlt') wx (HP.out.keeps kx) (by omega))
      rw [hpl] at cO
      have cB := Lib.hid (fun wx => bare_any (l[k]'hlt') wx)
      generalize l[k]'hlt' = nn at *
      generalize (takesR rd nn).2 = rd' at *
      have HLF := Lib.hid hlf
      have H2 := Lib.hid h2
      have HK := Lib.hid hK
      have HQ := Lib.hid hc
      have hro : refOk (l.take k) nn = (decide (1 ≤ nn.kind) && (decide (nn.kind ≤ 9) && (bareB nn && oneB (l.take k) nn))) := rfl
      generalize refOk (l.take k) nn = ok at *
      have HRO := Lib.hid hro
      generalize bareB nn = bb at *
      generalize oneB (l.take k) nn = ob at *
      have f1 : decide ((k : Int) < (L : Int)) = true := by simp; omega
      have f1' : decide (k < L) = true := by simpa using hlt
      have q1 : (0 : Int) ≤ (k : Int) := by omega
      have q2 : (k : Int) < (L : Int) := by omega
      have q3 : (k : Int) ≤ (c : Int) := by omega
      clear hI hInv hd hlf h1 h2 htl hpl hc hK hro
      unfold ntC at cB cO
      have q0 : ∀ kx : Wl wr, kx.x.cell? ⟨g, o + k * 9, none⟩ = some (.int .i64 nn.kind) := fun kx => (HQ.out.keeps kx.k).nine.1
      have r1 : ∀ kx : Wl wr, kx.x.cell? ⟨g, o + k * 9 + 1, none⟩ = some (.int .i64 nn.txn) := fun kx => (HQ.out.keeps kx.k).nine.2.1
      have r2 : ∀ kx : Wl wr, kx.x.cell? ⟨g, o + k * 9 + 2, none⟩ = some (.int .i64 nn.act.kind) := fun kx => (HQ.out.keeps kx.k).nine.2.2.1
      have r3 : ∀ kx : Wl wr, kx.x.cell? ⟨g, o + k * 9 + 3, none⟩ = some (.string (S nn.act.room)) := fun kx => (HQ.out.keeps kx.k).nine.2.2.2.1
      have r4 : ∀ kx : Wl wr, kx.x.cell? ⟨g, o + k * 9 + 4, none⟩ = some (.string (S nn.act.subj)) := fun kx => (HQ.out.keeps kx.k).nine.2.2.2.2.1
      have r5 : ∀ kx : Wl wr, kx.x.cell? ⟨g, o + k * 9 + 5, none⟩ = some (.string (S nn.act.reason)) := fun kx => (HQ.out.keeps kx.k).nine.2.2.2.2.2.1
      have r6 : ∀ kx : Wl wr, kx.x.cell? ⟨g, o + k * 9 + 6, none⟩ = some (.string (S nn.act.deny)) := fun kx => (HQ.out.keeps kx.k).nine.2.2.2.2.2.2.1
      have r7 : ∀ kx : Wl wr, kx.x.cell? ⟨g, o + k * 9 + 7, none⟩ = some (.int .i64 nn.code) := fun kx => (HQ.out.keeps kx.k).nine.2.2.2.2.2.2.2.1
      have r8 : ∀ kx : Wl wr, kx.x.cell? ⟨g, o + k * 9 + 8, none⟩ = some (.string (S nn.text)) := fun kx => (HQ.out.keeps kx.k).nine.2.2.2.2.2.2.2.2
      have cB2 : Hid (∀ kx : Wl wr, Calls Tryz.prog 37 #[.agg #[.int .i64 nn.kind, .int .i64 nn.txn, .int .i64 nn.act.kind, .string (S nn.act.room), .string (S nn.act.subj), .string (S nn.act.reason), .string (S nn.act.deny), .int .i64 nn.code, .string (S nn.text)]] kx.x fun e w'' => e = .returned (.bool bb) ∧ ∃ k' : Wl wr, w'' = k'.x) := Lib.hid (fun kx => quiet_call kx.k (cB.out _))
      have cO2 : Hid (∀ kx : Wl wr, Calls Tryz.prog 38 #[.slice (some ⟨g, o, none⟩) k c, .agg #[.int .i64 nn.kind, .int .i64 nn.txn, .int .i64 nn.act.kind, .string (S nn.act.room), .string (S nn.act.subj), .string (S nn.act.reason), .string (S nn.act.deny), .int .i64 nn.code, .string (S nn.text)]] kx.x fun e w'' => e = .returned (.bool ob) ∧ ∃ k' : Wl wr, w'' = k'.x) := Lib.hid (fun kx => quiet_call kx.k (cO.out _ kx.k))
      clear cB cO
      by_cases k0 : nn.kind < 1
      · have d1 : decide (nn.kind < 1) = true := decide_eq_true k0
        have hok : ok = false := by rw [HRO.out, decide_eq_false (show ¬ 1 ≤ nn.kind by omega)]; rfl
        have hi : lifeI l = (k : Int) := by unfold lifeI; rw [HLF.out, hok]; rfl
        have HI := Lib.hid hi
        clear hok hi
        go_wp2_with fail
        refine wp_region_keeps (by kernel_rfl) (by kernel_rfl) ?_
        repeat (go_big_quiet_step (first | with_reducible exact cB2.out _ | with_reducible exact cO2.out _))
        refine wpQuiet_nil ?_
        rintro x ⟨kq, hq⟩
        have KX : Hid (Keeps w x) := Lib.hid (HK.out.trans (by rw [hq]; exact kq.k))
        clear hq kq q0 r1 r2 r3 r4 r5 r6 r7 r8 cB2 cO2
        go_wp2
        go_ret
        exact ⟨by rw [HI.out]; rfl, KX.out⟩
      have d1 : decide (nn.kind < 1) = false := decide_eq_false k0
      by_cases k9 : 9 < nn.kind
      · have d9 : decide (9 < nn.kind) = true := decide_eq_true k9
        have hok : ok = false := by rw [HRO.out, decide_eq_false (show ¬ nn.kind ≤ 9 by omega)]; simp
        have hi : lifeI l = (k : Int) := by unfold lifeI; rw [HLF.out, hok]; rfl
        have HI := Lib.hid hi
        clear hok hi
        go_wp2_with fail
        refine wp_region_keeps (by kernel_rfl) (by kernel_rfl) ?_
        repeat (go_big_quiet_step (first | with_reducible exact cB2.out _ | with_reducible exact cO2.out _))
        refine wpQuiet_nil ?_
        rintro x ⟨kq, hq⟩
        have KX : Hid (Keeps w x) := Lib.hid (HK.out.trans (by rw [hq]; exact kq.k))
        clear hq kq q0 r1 r2 r3 r4 r5 r6 r7 r8 cB2 cO2
        go_wp2
        go_ret
        exact ⟨by rw [HI.out]; rfl, KX.out⟩
      have d9 : decide (9 < nn.kind) = false := decide_eq_false k9
      have hro := HRO.out
      rw [decide_eq_true (show 1 ≤ nn.kind by omega), decide_eq_true (show nn.kind ≤ 9 by omega), Bool.true_and, Bool.true_and] at hro
      have HR2 := Lib.hid hro
      clear hro HRO
      cases bb with
      | false =>
        have hok : ok = false := HR2.out
        have hi : lifeI l = (k : Int) := by unfold lifeI; rw [HLF.out, hok]; rfl
        have HI := Lib.hid hi
        clear hok hi
        go_wp2_with fail
        refine wp_region_keeps (by kernel_rfl) (by kernel_rfl) ?_
        repeat (go_big_quiet_step (first | with_reducible exact cB2.out _ | with_reducible exact cO2.out _))
        refine wpQuiet_nil ?_
        rintro x ⟨kq, hq⟩
        have KX : Hid (Keeps w x) := Lib.hid (HK.out.trans (by rw [hq]; exact kq.k))
        clear hq kq q0 r1 r2 r3 r4 r5 r6 r7 r8 cB2 cO2
        go_wp2
        go_ret
        exact ⟨by rw [HI.out]; rfl, KX.out⟩
      | true =>
        cases ob with
        | false =>
          have hok : ok = false := HR2.out
          have hi : lifeI l = (k : Int) := by unfold lifeI; rw [HLF.out, hok]; rfl
          have HI := Lib.hid hi
          clear hok hi
          go_wp2_with fail
          refine wp_region_keeps (by kernel_rfl) (by kernel_rfl) ?_
          repeat (go_big_quiet_step (first | with_reducible exact cB2.out _ | with_reducible exact cO2.out _))
          refine wpQuiet_nil ?_
          rintro x ⟨kq, hq⟩
          have KX : Hid (Keeps w x) := Lib.hid (HK.out.trans (by rw [hq]; exact kq.k))
          clear hq kq q0 r1 r2 r3 r4 r5 r6 r7 r8 cB2 cO2
          go_wp2
          go_ret
          exact ⟨by rw [HI.out]; rfl, KX.out⟩
        | true =>
          have hok : ok = true := HR2.out
          have hlf := HLF.out
          rw [hok, if_pos rfl] at hlf
          have HN := Lib.hid hlf
          have HI := Lib.hid (H2.out hok)
          clear hok hlf
          go_wp2_with fail
          refine wp_region_keeps (by kernel_rfl) (by kernel_rfl) ?_
          repeat (go_big_quiet_step (first | with_reducible exact cB2.out _ | with_reducible exact cO2.out _))
          refine wpQuiet_nil ?_
          rintro x ⟨kq, hq⟩
          have KX : Hid (Keeps w x) := Lib.hid (HK.out.trans (by rw [hq]; exact kq.k))
          clear hq kq q0 r1 r2 r3 r4 r5 r6 r7 r8 cB2 cO2
          go_wp2
          cases gk with
          | zero => omega
          | succ g2 =>
            go_roundg g2
            case measure => omega
            case rel => exact ⟨k + 1, by go_num, by omega, by omega, Lib.hid ⟨KX.out, rd', HI.out, HN.out⟩⟩
    · obtain ⟨hK, rd, hInv, hlf⟩ := hI.out
      rw [List.drop_eq_nil_of_le (by rw [HL.out]; omega)] at hlf
      have hi : lifeI l = -1 := by unfold lifeI; rw [hlf]; rfl
      have HI := Lib.hid hi
      have HK := Lib.hid hK
      have f1 : decide ((k : Int) < (L : Int)) = false := by simp; omega
      have f1' : decide (k < L) = false := by simpa using hlt
      clear hI hK hInv hlf hi
      go_wp2
      go_ret
      exact ⟨by rw [HI.out]; rfl, HK.out⟩
end Go.Proofs.YtfapilgmgjmfeaaGreatDoor
