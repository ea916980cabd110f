/-
  The law AuditTexts, walked.
-/
import Derived.Test.YtfapilgmgjmfeaaDoorTxt
import Derived.Test.YtfapilgmgjmfeaaDoorLiv
namespace Go.Proofs.YtfapilgmgjmfeaaDoor
open Go.RowKit

theorem S_app (a b : List UInt8) : S (a ++ b) = S a ++ S b := by
  apply ByteArray.ext
  rw [ByteArray.data_append]
  simp [S]
theorem lightNs_len {l : List Nt} (h : lightNs l 60 = true) : l.length ≤ 60 := by
  unfold lightNs at h
  simp only [Bool.and_eq_true, decide_eq_true_eq] at h
  omega
theorem lightNs_one {l : List Nt} (h : lightNs l 60 = true) : ∀ n, n ∈ l → lightN1 n = true := by
  unfold lightNs at h
  simp only [Bool.and_eq_true, List.all_eq_true] at h
  exact h.1
set_option maxHeartbeats 4000000 in
set_option maxRecDepth 100000 in
theorem texts_big (A : Option Addr) (c : Nat) (l : List Nt) (cut : Int) (w : World) (hA : NotesAt w A l) (hm : l.length ≤ maxLen) (hli : lightNs l 60 = false) :
    Calls Tryd.prog 4 #[.slice A l.length c, .int .i64 cut] w (Ret (.bool true) w) := by
  have cL := Lib.hid (lives_any w)
  have cN : Hid (∀ wx, Keeps w wx → Calls Tryd.prog 14 #[.slice A l.length c, .int .i64 60] wx (Ret (.bool false) wx)) := Lib.hid (fun wx k => by have := lightNs_any A c l 60 wx (hA.keeps k) hm; rwa [hli] at this)
  generalize l.length = L at *
  clear hA hm hli
  go_enter Tryd.func4, Tryd.ntmps4
  go_wp2_with fail
  refine cL.out.mono ?_
  rintro e w1 ⟨rfl, k1⟩
  go_wp2_with fail
  refine (cN.out _ k1).mono ?_
  rintro e w2 ⟨rfl, k2⟩
  have K2 := Lib.hid (k1.trans k2)
  clear k1 k2
  go_wp2
  go_ret
  exact ⟨rfl, K2.out⟩
set_option maxHeartbeats 4000000 in
set_option maxRecDepth 100000 in
theorem texts_nil (cut : Int) (w : World) (ht : Tab w) : Calls Tryd.prog 4 #[.slice none 0 0, .int .i64 cut] w (Ret (.bool true) w) := by
  have hA : ∀ wx, NotesAt wx none [] := fun wx i hi => by simp at hi
  have cL := Lib.hid (lives_any w)
  have cN : Hid (∀ wx, Calls Tryd.prog 14 #[.slice none 0 0, .int .i64 60] wx (Ret (.bool true) wx)) := Lib.hid (fun wx => lightNs_any none 0 [] 60 wx (hA wx) (by simp))
  have cP : Hid (∀ wx, Calls Tryd.prog 15 #[.int .i64 cut, .int .i64 1] wx (fun e w' => e = .returned (.int .i64 0) ∧ w' = wx)) := Lib.hid (fun wx => by have := pick_any cut 1 wx (by omega) (by omega); rwa [show cut % 1 = 0 by omega] at this)
  have cT : Hid (∀ wx, Keeps w wx → Calls Tryd.prog 12 #[.slice none 0 0] wx (Ret (.string (S [])) wx)) := Lib.hid (fun wx k => text_any none 0 [] wx (ht.keeps k) (hA wx) (by simp) (by simp))
  clear hA ht
  go_enter Tryd.func4, Tryd.ntmps4
  go_wp2_with fail
  refine cL.out.mono ?_
  rintro e w1 ⟨rfl, k1⟩
  go_wp2_with fail
  refine (cN.out _).mono ?_
  rintro e w2 ⟨rfl, k2⟩
  have K2 := Lib.hid (k1.trans k2)
  clear k1 k2
  go_wp2_with fail
  refine (cP.out _).mono ?_
  rintro e w3 ⟨rfl, h3⟩
  have K3 : Hid (Keeps w w3) := Lib.hid (by rw [h3]; exact K2.out)
  clear h3 K2 cP cL cN
  go_wp2_with fail
  go_loopg [6, 7] 1 (fun g b i wr => b = .string (S []) ∧ i = .int .i64 0 ∧ Hid (Keeps w wr))
  case atStart => exact ⟨rfl, rfl, Lib.hid K3.out⟩
  case round =>
    obtain ⟨rfl, rfl, hI⟩ := hrel
    have HK := Lib.hid hI.out
    have cT2 : Hid (∀ kx : Wl wr, Calls Tryd.prog 12 #[.slice none 0 0] kx.x fun e w'' => e = .returned (.string (S [])) ∧ ∃ k' : Wl wr, w'' = k'.x) := Lib.hid (fun kx => quiet_call kx.k (cT.out _ (HK.out.trans kx.k)))
    have s1 : (S []).size = 0 := rfl
    have s2 : (S [] ++ S []) = S [] := rfl
    clear hI cT K3
    go_wp2_with fail
    refine wp_region_keeps (by kernel_rfl) (by kernel_rfl) ?_
    repeat (go_big_quiet_step (with_reducible exact cT2.out _))
    refine wpQuiet_nil ?_
    rintro x ⟨kq, hq⟩
    have KX : Hid (Keeps w x) := Lib.hid (by rw [hq]; exact HK.out.trans kq.k)
    clear hq kq
    go_wp2
    go_ret
    exact ⟨rfl, KX.out⟩
set_option maxHeartbeats 4000000 in
set_option maxRecDepth 100000 in
theorem texts_main (g o : Nat) (s : Option Nat) (c : Nat) (l : List Nt) (cut : Int) (k0 : Nat) (w : World) (ht : Tab w) (hA : NotesAt w (some ⟨g, o, s⟩) l) (hli : lightNs l 60 = true) (hok : ∀ n, n ∈ l → NtLine n) (hcap : l.length ≤ c) (hk0 : cut % ((l.length : Int) + 1) = (k0 : Int)) :
    Calls Tryd.prog 4 #[.slice (some ⟨g, o, s⟩) l.length c, .int .i64 cut] w (Ret (.bool true) w) := by
  have hlen := lightNs_len hli
  have hk1 : k0 ≤ l.length := by
    have := Int.emod_lt_of_pos cut (show 0 < (l.length : Int) + 1 by omega)
    omega
  have cL := Lib.hid (lives_any w)
  have cN : Hid (∀ wx, Keeps w wx → Calls Tryd.prog 14 #[.slice (some ⟨g, o, s⟩) l.length c, .int .i64 60] wx (Ret (.bool true) wx)) := Lib.hid (fun wx k => by have := lightNs_any (some ⟨g, o, s⟩) c l 60 wx (hA.keeps k) (by unfold maxLen; omega); rwa [hli] at this)
  have cP : Hid (∀ wx, Calls Tryd.prog 15 #[.int .i64 cut, .int .i64 ((l.length : Int) + 1)] wx (fun e w' => e = .returned (.int .i64 (k0 : Int)) ∧ w' = wx)) := Lib.hid (fun wx => by have := pick_any cut ((l.length : Int) + 1) wx (by omega) (by omega); rwa [hk0] at this)
  have cT := Lib.hid (fun wx (k : Keeps w wx) => text_any (some ⟨g, o, s⟩) c l wx (ht.keeps k) (hA.keeps k) hlen hok)
  have htk : (l.take k0).length = k0 := by rw [List.length_take]; omega
  have hdk : (l.drop k0).length = l.length - k0 := List.length_drop
  have cF := Lib.hid (fun wx (k : Keeps w wx) => text_any (some ⟨g, o, s⟩) c (l.take k0) wx (ht.keeps k) (fun i hi => by
    have hi2 : i < l.length := by rw [htk] at hi; omega
    obtain ⟨g, o, h1, h2⟩ := (hA.keeps k) i hi2
    exact ⟨g, o, h1, by simpa using h2⟩) (by omega) (fun n hn => hok n (List.mem_of_mem_take hn)))
  rw [htk] at cF
  have cB := Lib.hid (fun wx (k : Keeps w wx) (B : Option Addr) (q : Nat) (hB : k0 < l.length → B = some ⟨g, o + k0 * 9, s⟩) => text_any B q (l.drop k0) wx (ht.keeps k) (fun i hi => by
    have hi2 : k0 + i < l.length := by rw [hdk] at hi; omega
    obtain ⟨g', o', h1, h2⟩ := (hA.keeps k) (k0 + i) hi2
    injection h1 with h1
    injection h1 with e1 e2 e3
    subst e1 e2 e3
    refine ⟨g, o + k0 * 9, hB (by omega), ?_⟩
    rw [List.getElem_drop]
    rw [show o + k0 * 9 + i * 9 = o + (k0 + i) * 9 by omega]
    exact h2) (by omega) (fun n hn => hok n (List.mem_of_mem_drop hn)))
  rw [hdk] at cB
  have happ : textL (l.take k0) ++ textL (l.drop k0) = textL l := by rw [← textL_app, List.take_append_drop]
  have HAPP := Lib.hid happ
  have HSP : Hid (0 < l.length → s = none) := Lib.hid (fun h => by
    obtain ⟨g', o', h1, _⟩ := hA 0 h
    injection h1 with h1
    injection h1 with _ _ e3)
  have hlT := textL_len l hok
  have HTL := Lib.hid (fun k u (hu : l[k]? = some u) => textL_take l k u hu)
  have HTN := Lib.hid (fun k => Nat.le_trans (textL_len (l.take k) (fun n hn => hok n (List.mem_of_mem_take hn))) (Nat.mul_le_mul_right 4001 (Nat.le_trans (List.length_take_le' _ _) hlen)))
  have HFULL := Lib.hid (show textL (l.take l.length) = textL l by rw [List.take_length])
  have HLT : Hid ((textL l).length ≤ 1000000) := Lib.hid (by omega)
  have HA := Lib.hid hA
  have HOK := Lib.hid hok
  have HT := Lib.hid ht
  have HX : Hid ((textL (l.take k0)).length + (textL (l.drop k0)).length ≤ 1000000) := Lib.hid (by rw [← List.length_append, happ]; omega)
  generalize textL l = full at *
  generalize textL (l.drop k0) = back at *
  generalize hL : l.length = L at *
  have HL := Lib.hid hL
  clear hA hok hli ht hk0 htk hdk happ hlT hL
  go_enter Tryd.func4, Tryd.ntmps4
  go_wp2_with fail
  refine cL.out.mono ?_
  rintro e w1 ⟨rfl, k1⟩
  go_wp2_with fail
  refine (cN.out _ k1).mono ?_
  rintro e w2 ⟨rfl, k2⟩
  have K2 := Lib.hid (k1.trans k2)
  clear k1 k2 cL cN
  go_wp2_with fail
  refine (cP.out _).mono ?_
  rintro e w3 ⟨rfl, h3⟩
  have K3 : Hid (Keeps w w3) := Lib.hid (by rw [h3]; exact K2.out)
  clear h3 K2 cP
  go_wp2_with fail
  go_loopg [6, 7] (L + 1) (fun g b i wr => ∃ k : Nat, b = .string (S (textL (l.take k))) ∧ i = .int .i64 (k : Int) ∧ k ≤ L ∧ L - k < g ∧ Hid (Keeps w wr))
  case atStart => exact ⟨0, by simp [textL]; rfl, rfl, Nat.zero_le _, by omega, Lib.hid K3.out⟩
  case round =>
    obtain ⟨k, rfl, rfl, hkL, hkg, hI⟩ := hrel
    by_cases hlt : k < L
    · have hlt' : k < l.length := by rw [HL.out]; exact hlt
      obtain ⟨g', o', hAe, hc⟩ := (HA.out.keeps hI.out) k hlt'
      injection hAe with hAe
      injection hAe with a1 a2 a3
      subst a1 a2 a3
      have hn := HOK.out _ (List.getElem_mem hlt')
      have htl := HTL.out k _ (List.getElem?_eq_getElem hlt')
      have hsz := HTN.out k
      obtain ⟨e0, e1, e2, e3, e4, e5, e6, e7, e8⟩ := hc.nine
      generalize l[k]'hlt' = nn at *
      have hsl := line_len nn hn
      have f1 : decide ((k : Int) < (L : Int)) = true := by simp; omega
      have f1' : decide (k < L) = true := by simpa using hlt
      have q1 : (0 : Int) ≤ (k : Int) := by omega
      have q2 : (k : Int) < (L : Int) := by omega
      have cL := Lib.hid (fun wx (kx : Keeps wr wx) => line_any nn wx (HT.out.keeps (hI.out.trans kx)) hn)
      unfold ntC at cL
      have HTL2 := Lib.hid htl
      generalize lineL nn = line at *
      generalize textL (l.take k) = acc at *
      have hS : (S line).size = line.length := rfl
      have hS2 : (S acc).size = acc.length := rfl
      clear hc hn htl
      go_wp2_with fail
      refine (cL.out _ (Keeps.refl _)).mono ?_
      rintro e w5 ⟨rfl, k5⟩
      have K5 := Lib.hid (hI.out.trans k5)
      clear k5 cL e0 e1 e2 e3 e4 e5 e6 e7 e8
      go_wp2_with fail
      cases gk with
      | zero => omega
      | succ g2 =>
        go_roundg g2
        case measure => omega
        case rel =>
          refine ⟨k + 1, ?_, by go_num, by omega, by omega, K5.out⟩
          rw [HTL2.out, S_app, S_app]
          rfl
    · obtain rfl : k = L := by omega
      rw [HFULL.out]
      have HK := Lib.hid hI.out
      have f1 : decide ((k : Int) < (k : Int)) = false := by simp
      have f1' : decide (k < k) = false := by simp
      have HLT2 := HLT.out
      have cT2 : Hid (∀ kx : Wl wr, Calls Tryd.prog 12 #[.slice (some ⟨g, o, s⟩) k c] kx.x fun e w'' => e = .returned (.string (S full)) ∧ ∃ k' : Wl wr, w'' = k'.x) := Lib.hid (fun kx => quiet_call kx.k (cT.out _ (HK.out.trans kx.k)))
      have cF2 : Hid (∀ kx : Wl wr, Calls Tryd.prog 12 #[.slice (some ⟨g, o, s⟩) k0 c] kx.x fun e w'' => e = .returned (.string (S (textL (l.take k0)))) ∧ ∃ k' : Wl wr, w'' = k'.x) := Lib.hid (fun kx => quiet_call kx.k (cF.out _ (HK.out.trans kx.k)))
      have cB2 := Lib.hid (fun (kx : Wl wr) B q hB => quiet_call (w := wr) kx.k (cB.out kx.x (HK.out.trans kx.k) B q hB))
      have HAP := HAPP.out
      have HX2 := HX.out
      generalize textL (l.take k0) = front at *
      have s1 : (S full).size = full.length := rfl
      have s2 : (S front).size = front.length := rfl
      have s3 : (S back).size = back.length := rfl
      have qq : ((S front ++ S back).toList == (S full).toList) = true := by rw [← S_app, HAP]; simp
      have q0 : (0 : Int) ≤ (k0 : Int) := by omega
      have q1 : (k0 : Int) ≤ (k : Int) := by omega
      have q2 : (k : Int) ≤ (c : Int) := by omega
      have q3 : (k0 : Int) ≤ (c : Int) := by omega
      clear hI HAPP HAP cT cF cB
      go_wp2_with fail
      refine wp_region_keeps (by kernel_rfl) (by kernel_rfl) ?_
      repeat (go_big_quiet_step (first | with_reducible exact cT2.out _ | with_reducible exact cF2.out _ | exact cB2.out _ _ _ (fun h => by have hs := HSP.out (by omega); subst hs; rw [if_neg (by omega)]; simp [Addr.add])))
      refine wpQuiet_nil ?_
      rintro x ⟨kq, hq⟩
      have KX : Hid (Keeps w x) := Lib.hid (by rw [hq]; exact HK.out.trans kq.k)
      clear hq kq
      go_wp2
      all_goals go_ret
      all_goals exact ⟨rfl, KX.out⟩
end Go.Proofs.YtfapilgmgjmfeaaDoor
