/-
  Owned, walked.
-/
import Derived.Test.YtfapilgmgjmfeaaGreatDoorOwd
import Derived.Laws.OwnMore
namespace Go.Proofs.YtfapilgmgjmfeaaGreatDoor
open Go.RowKit Go.Sort Go.Shelf Go.Lib

set_option maxRecDepth 100000 in
theorem del_call (g m N b cap base : Nat) (f : SetS) (ss : List (List UInt8)) (W : World) (hb : W.heap[g]? = some (.cells #[.map (some m)] 58 (0, 0))) (hM : IsMapS boolE W m N f)
    (hrow : W.ownsRow base 9 1 (.slice (some ⟨b, 0, none⟩) ss.length cap) ss.length (ss.map encStr)) (hss : ∀ u, u ∈ ss → u.length ≤ maxLen) (hl : ss.length ≤ 1000000) (hcap : ss.length ≤ cap) (hgb : g ≠ b) (hmb : m ≠ b) :
    Calls Tryz.prog 40 #[.slice (some ⟨b, 0, none⟩) ss.length cap, .func (.func 43) #[] #[.pointer (some ⟨g, 0, none⟩)]] W fun e w' => e = .returned (.slice (some ⟨b, 0, none⟩) (ss.filter fun u => (f u).getD false).length cap) ∧ Only [b] W w' ∧ StrsAt w' (some ⟨b, 0, none⟩) (ss.filter fun u => (f u).getD false) := by
  obtain ⟨xs, rfl⟩ : ∃ xs : List St, xs.map (·.1) = ss := ⟨ss.attach.map fun u => ⟨u.1, hss _ u.2⟩, by simp⟩
  rw [List.length_map] at *
  have hH : Holds stV W b 0 xs.toArray := fun j hj => by
    have hj' : j < xs.length := by simpa using hj
    refine ⟨?_, hrow.frozenAt _⟩
    rw [hrow.cellAt _ (by omega), Nat.zero_add, getElem!_pos _ j hj]
    simp [encStr, stV, S, hj']
  have hF : (List.filter (fun u => (f u).getD false) (xs.map (·.1))) = (xs.filter fun x => (f x.1).getD false).map (·.1) := by
    rw [List.filter_map]; rfl
  have hc := AnyE.slices_DeleteFunc Tryz.deleteS stV stV_one (fun x => !((f x.1).getD false)) 43 #[.pointer (some ⟨g, 0, none⟩)] (enters_of Tryz.func43 (by kernel_rfl) rfl) (⟨[], by simp⟩ : St) (fun w => by kernel_rfl) b 0 cap xs.toArray W
    (fun W' x hB => gone_call g m N f W' ((hB.block g (blk_lt hb)).trans hb) (hM.block (hB.block m hM.lt)) x)
    (fun n os dk x _ => gone_call g m N f _ ((heap_sortWorld stV W b 0 n dk os hgb (blk_lt hb)).trans hb) (hM.block (heap_sortWorld stV W b 0 n dk os hmb hM.lt)) x)
    hH (by simp; omega) (by simpa using hcap)
  have e0 : xs.toArray.toList.filter (fun x => !(!((f x.1).getD false))) = xs.filter fun x => (f x.1).getD false := by simp
  rw [e0] at hc
  rw [hF, List.length_map]
  generalize hfs : (xs.filter fun x => (f x.1).getD false) = fs at *
  have hle : fs.length ≤ xs.length := by rw [← hfs]; exact List.length_filter_le _ _
  simp only [List.size_toArray] at hc
  refine hc.mono ?_
  rintro e w' ⟨rfl, q, rfl⟩
  refine ⟨rfl, only_putRow _ _ _ _ _ _, fun i hi => ⟨b, 0, rfl, ?_⟩⟩
  have hi' : i < fs.length := by simpa using hi
  have hP := holds_putRow stV (Sort.ahead W q) b 0 xs.toArray (fs ++ List.replicate (xs.length - fs.length) (⟨[], by simp⟩ : St)).toArray (holds_ahead stV W q b 0 _ hH) (by simp; omega)
  have hsz : i < (fs ++ List.replicate (xs.length - fs.length) (⟨[], by simp⟩ : St)).toArray.size := by simp; omega
  rw [(hP i hsz).1, getElem!_pos _ i hsz]
  simp [stV, hi']
theorem own_strs {w : World} {B : Nat} {v : Value} {ss : List (List UInt8)} (h : w.ownsRow B 9 1 v ss.length (ss.map encStr)) : (v = .slice none 0 0 ∧ ss = []) ∨ ∃ g c, v = .slice (some ⟨g, 0, none⟩) ss.length c ∧ B ≤ g ∧ g < w.heap.size ∧ ss.length ≤ c ∧ ∃ cur, w.heap[g]? = some (.cells cur 9 (0, 0)) := by
  obtain ⟨h1, ⟨rfl, h2⟩ | ⟨g, cap, cur, rfl, hB, hb, hc, hm, hs, ht⟩⟩ := h
  · exact .inl ⟨rfl, List.eq_nil_of_length_eq_zero h2⟩
  · exact .inr ⟨g, cap, rfl, hB, blk_lt hb, hc, cur, hb⟩
theorem ownM_key (room : List UInt8) : ∀ (l : List Nt) (f : SetS), (∀ u, (f u).isSome = true → u.length ≤ maxLen) → (∀ n, n ∈ l → n.act.subj.length ≤ maxLen) → ∀ u, (l.foldl (ownF room) f u).isSome = true → u.length ≤ maxLen
  | [], f, hf, _ => hf
  | n :: r, f, hf, hl => by
    rw [List.foldl_cons]
    refine ownM_key room r _ (fun u hu => ?_) (fun m hm => hl m (by simp [hm]))
    unfold ownF at hu
    by_cases ht : touchP room n
    · rw [if_pos ht] at hu
      unfold updS at hu
      by_cases hun : u = n.act.subj
      · rw [hun]; exact hl n (by simp)
      · rw [if_neg hun] at hu; exact hf u hu
    · rw [if_neg ht] at hu; exact hf u hu
set_option maxHeartbeats 4000000 in
set_option maxRecDepth 100000 in
theorem owned_any (A : Option Addr) (c : Nat) (l : List Nt) (room : List UInt8) (w : World) (hA : NotesAt w A l) (hlen : l.length ≤ 1000000) (hok : ∀ n, n ∈ l → n.act.subj.length ≤ maxLen) : Calls Tryz.prog 14 #[.slice A l.length c, .string (S room)] w (OwnedRet room l w) := by
  have cO := Lib.hid (own_any A c l room w hA hlen hok)
  have HKEY := Lib.hid (ownM_key room l (fun _ => none) (fun u hu => by cases hu) hok)
  have HLEN := Lib.hid hlen
  generalize hL : l.length = L at *
  have HL := Lib.hid hL
  clear hA hok hL hlen
  go_enter Tryz.func14, Tryz.ntmps14
  go_wp2_with fail
  refine cO.out.mono ?_
  rintro e w2 ⟨rfl, hK, N, hN, hM⟩
  have hMX := hM.keeps ((Keeps.refl w2).alloc (.cells #[.map (some w.heap.size)] 58))
  have HB := Lib.hid (heap_alloc_new w2 (.cells #[.map (some w.heap.size)] 58))
  obtain ⟨D, hown, hhas, hat, hat0⟩ := id hMX
  have hsz := hown.size_le
  have HM := Lib.hid hMX
  have hm : w.heap.size < w2.heap.size := hM.lt
  have cK := Lib.hid (keysS_call (some w.heap.size) (w2.alloc (.cells #[.map (some w.heap.size)] 58)))
  have cS0 := sortedS_call w.heap.size N D _ (w2.alloc (.cells #[.map (some w.heap.size)] 58)) hown (by rw [HL.out] at hN; unfold maxLen; have := HLEN.out; omega) (by rw [HL.out] at hN; have := HLEN.out; omega)
  simp only [World.size_alloc] at cS0
  have cS := Lib.hid cS0
  have HFA := Lib.hid (keysS_facts hown)
  have HHAS := Lib.hid hhas
  have HK := Lib.hid hK
  have HSZ : Hid ((strKeys D).length ≤ 1000000) := Lib.hid (by
    rw [HL.out] at hN
    have := HLEN.out
    obtain ⟨es, hD, _⟩ := hown.keysOf
    rw [hD] at hsz ⊢
    have e : (strKeys (.map es)).length = Maps.size (.map es) := by simp [strKeys, Maps.size]
    rw [e]; omega)
  clear hK hM hMX hown hhas hat hat0 hsz cS0
  go_wp2_with fail
  refine cK.out.mono ?_
  rintro e w3 ⟨rfl, rfl⟩
  go_wp2_with fail
  refine cS.out.mono ?_
  rintro e w3 ⟨v, ss, rfl, hp, hrow, hnil, hk3⟩
  have hrise := sorted_riseS (hp.nodup_iff.2 HFA.out.1)
  have hmem : ∀ u, u ∈ ss.mergeSort (fun x y => decide (x ≤ y)) ↔ (ownM room l u).isSome = true := fun u => by
    rw [(List.mergeSort_perm ss _).mem_iff, hp.mem_iff, HFA.out.2 u, HHAS.out u]
  have hl3 : (ss.mergeSort (fun x y => decide (x ≤ y))).length ≤ 1000000 := by
    rw [List.length_mergeSort, hp.length_eq]
    exact HSZ.out
  have e0 : ss.length = (ss.mergeSort (fun x y => decide (x ≤ y))).length := by rw [List.length_mergeSort]
  rw [e0] at hrow
  generalize (ss.mergeSort (fun x y => decide (x ≤ y))) = ts at *
  have hfil : ∀ u, (u ∈ ts.filter fun u => (ownM room l u).getD false) ↔ ownB room l u = true := fun u => by
    rw [List.mem_filter, hmem u]
    unfold ownB
    constructor
    · exact fun h => h.2
    · intro h
      refine ⟨?_, h⟩
      cases hu : ownM room l u with
      | none => rw [hu] at h; cases h
      | some b => rfl
  have hrf : RiseS (ts.filter fun u => (ownM room l u).getD false) := hrise.filter _
  have hkey : ∀ u, u ∈ ts → u.length ≤ maxLen := fun u hu => HKEY.out u ((hmem u).1 hu)
  have hlf : (ts.filter fun u => (ownM room l u).getD false).length ≤ ts.length := List.length_filter_le _ _
  have K3 := Lib.hid ((HK.out.alloc (.cells #[.map (some w.heap.size)] 58)).trans hk3)
  have HFIL := Lib.hid hfil
  have HRF := Lib.hid hrf
  have HKY := Lib.hid hkey
  rcases own_strs hrow with ⟨rfl, rfl⟩ | ⟨b, cap, rfl, hb1, hb2, hb3, cur, hb4⟩
  · have cD := Lib.hid (fun F => del_nil F w3)
    clear hp hnil hk3 hrise hmem hrow hfil hrf hkey hlf hl3
    go_wp2_with fail
    refine (cD.out _).mono ?_
    rintro e w4 ⟨rfl, rfl⟩
    go_wp2
    go_ret
    exact ⟨none, [], 0, rfl, List.Pairwise.nil, HFIL.out, fun i hi => by simp at hi, fun u hu => by simp at hu, by simp, by simp, K3.out⟩
  · have cD := Lib.hid (del_call w2.heap.size w.heap.size N b cap _ (ownM room l) ts w3 ((hk3.block _ (by simp)).trans HB.out) (HM.out.keeps hk3) hrow hkey hl3 hb3 (by omega) (by omega))
    have HFI := Lib.hid (fun (w4 : World) (h : Only [b] w3 w4) => K3.out.only h (fun i hi => by simp at hi; omega))
    have HLN := Lib.hid (show (ts.filter fun u => (ownM room l u).getD false).length ≤ 1000000 ∧ (ts.filter fun u => (ownM room l u).getD false).length ≤ cap from ⟨by omega, by omega⟩)
    clear hp hnil hk3 hrise hmem hrow hfil hrf hkey hlf hl3 hb4
    go_wp2_with fail
    refine cD.out.mono ?_
    rintro e w4 ⟨rfl, hO, hS⟩
    have HRES : Hid (OwnedRet room l w (.returned (.slice (some ⟨b, 0, none⟩) (ts.filter fun u => (ownM room l u).getD false).length cap)) w4) := Lib.hid ⟨_, _, _, rfl, HRF.out, HFIL.out, hS, fun u hu => HKY.out u (List.mem_filter.1 hu).1, HLN.out.1, HLN.out.2, HFI.out _ hO⟩
    clear hO hS
    go_wp2
    go_ret
    exact HRES.out
end Go.Proofs.YtfapilgmgjmfeaaGreatDoor
