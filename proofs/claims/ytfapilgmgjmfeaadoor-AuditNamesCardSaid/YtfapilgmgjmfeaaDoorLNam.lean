/-
  The law AuditNames, walked.
-/
import Derived.Test.YtfapilgmgjmfeaaDoorTxt
import Derived.Test.YtfapilgmgjmfeaaDoorLiv
import Derived.Test.YtfapilgmgjmfeaaDoorOwe
import Derived.Test.YtfapilgmgjmfeaaDoorSsm
import Derived.Test.YtfapilgmgjmfeaaDoorOfa
import Derived.Deep.Cut
namespace Go.Proofs.YtfapilgmgjmfeaaDoor
open Go.RowKit

def Rm : List UInt8 := [33, 114, 58, 120]
def Us : List UInt8 := [64, 97, 58, 98]
def A0 : Act := ⟨0, [], [], [], []⟩
def DN : Nt := noteL 5 1
def OFF : Nt := ⟨5, 1, ⟨2, [33, 114, 58, 120], [64, 97, 58, 98], [], []⟩, 0, []⟩
def L3 : List Nt := [⟨1, 0, A0, 5, []⟩, ⟨2, 0, A0, 1, [33, 114, 58, 120]⟩, ⟨9, 0, A0, 0, []⟩]
def BAD : Nt := ⟨9, 1, A0, 0, []⟩
def G3 : List Nt := [noteL 3 1, noteL 4 1, noteL 8 1]
def A4 : List Nt := [noteL 3 1, noteL 4 1, noteL 6 1, noteL 8 1]
theorem v_own1 : ownB Rm [DN] Us = true := by decide +kernel
theorem v_own2 : ownB Rm [DN, OFF] Us = false := by decide +kernel
theorem v_own3 : ownB [33, 113, 58, 120] [DN] Us = false := by decide +kernel
theorem v_life1 : lifeI L3 = -1 := by decide +kernel
theorem v_life2 : lifeI [BAD] = 0 := by decide +kernel
theorem v_life3 : lifeI G3 = 2 := by decide +kernel
theorem v_life4 : lifeI A4 = -1 := by decide +kernel
theorem dig_one (u : Nat) (h : u < 10) : Lib.decDigits u = [UInt8.ofNat (48 + u)] := by
  rw [Lib.decDigits, dif_pos h]
theorem v_line1 : lineL ⟨2, 0, A0, 1, [33, 114, 58, 120]⟩ = [99, 111, 109, 109, 97, 110, 100, 32, 49, 32, 33, 114, 58, 120] := by
  unfold lineL partsL
  rw [if_neg (by decide), if_pos (by decide)]
  unfold Lib.itoa
  rw [if_neg (by decide), dig_one _ (by decide)]
  rfl
theorem v_line2 : lineL DN = [100, 111, 110, 101, 32, 49, 32, 98, 97, 110, 32, 33, 114, 58, 120, 32, 64, 97, 58, 98, 32, 32] := by
  unfold lineL partsL
  rw [if_neg (by decide), if_neg (by decide), if_pos (by decide)]
  unfold Lib.itoa
  rw [if_neg (by decide), dig_one _ (by decide)]
  rfl
theorem v_line3 : lineL ⟨0, 0, A0, 0, []⟩ = [63] := by
  unfold lineL partsL
  rw [if_neg (by decide), if_neg (by decide), if_neg (by decide)]
  rfl
theorem v_text : textL L3 = [114, 101, 102, 117, 115, 101, 100, 32, 53, 10, 99, 111, 109, 109, 97, 110, 100, 32, 49, 32, 33, 114, 58, 120, 10, 102, 117, 108, 108, 10] := by
  have e1 : lineL ⟨1, 0, A0, 5, []⟩ = [114, 101, 102, 117, 115, 101, 100, 32, 53] := by
    unfold lineL partsL
    rw [if_pos (by decide)]
    unfold Lib.itoa
    rw [if_neg (by decide), dig_one _ (by decide)]
    rfl
  have e3 : lineL ⟨9, 0, A0, 0, []⟩ = [102, 117, 108, 108] := by
    unfold lineL partsL
    rw [if_neg (by decide), if_neg (by decide), if_neg (by decide)]
    rfl
  unfold textL L3
  simp only [List.flatMap_cons, List.flatMap_nil, e1, v_line1, e3]
  rfl
theorem one_str {ss : List (List UInt8)} {s : List UInt8} (h : RiseS ss) (hm : ∀ u, u ∈ ss ↔ u = s) : ss = [s] := by
  match ss, h, hm with
  | [], _, hm => exact absurd ((hm s).2 rfl) (by simp)
  | [x], _, hm => rw [(hm x).1 (by simp)]
  | x :: y :: t, h, hm =>
    have hx := (hm x).1 (by simp)
    have hy := (hm y).1 (by simp)
    have hxy : x < y := (List.pairwise_cons.1 h).1 y (by simp)
    rw [hx, hy] at hxy
    exact absurd hxy (List.lt_irrefl _)
theorem ok_sub {l : List Nt} (h : l.all (fun n => decide (n.act.subj.length ≤ maxLen)) = true) : ∀ n, n ∈ l → n.act.subj.length ≤ maxLen := fun n hn => by
  have := List.all_eq_true.1 h n hn
  simpa using this
theorem ok_line {l : List Nt} (h : l.all (fun n => lightN1 n && (Lit.int .i64 n.txn).wf && (Lit.int .i64 n.code).wf) = true) : ∀ n, n ∈ l → NtLine n := fun n hn => by
  have := List.all_eq_true.1 h n hn
  simp only [Bool.and_eq_true] at this
  exact ⟨this.1.1, this.1.2, this.2⟩
theorem notes_cells {w : World} {g : Nat} {l : List Nt} (h : NotesAt w (some ⟨g, 0, none⟩) l) (i : Nat) (hi : i < l.length) : CellsAt w g (i * 9) (ntC (l[i]'hi)).toList := by
  obtain ⟨g', o', e, hc⟩ := h i hi
  injection e with e
  injection e with e1 e2 _
  subst e1 e2
  simpa using hc
theorem v_owned (u : List UInt8) : ownB Rm [DN, DN] u = true ↔ u = Us := by
  have h1 : touchP Rm DN := by decide
  have e : ownM Rm [DN, DN] = updS (updS (fun _ => none) Us (some true)) Us (some true) := by
    unfold ownM
    simp only [List.foldl_cons, List.foldl_nil]
    unfold ownF
    rw [if_pos h1, if_pos h1]
    rfl
  unfold ownB
  rw [e]
  unfold updS
  by_cases hu : u = Us <;> simp [hu]
set_option maxHeartbeats 16000000 in
set_option maxRecDepth 100000 in
theorem names_any (w : World) (ht : Tab w) : Calls Tryd.prog 3 #[] w (Ret (.bool true) w) := by
  have cN := Lib.hid (fun k t wx => note_any k t wx)
  unfold noteL actL ntC at cN
  simp only [S_nil] at cN
  have HT := Lib.hid ht
  clear ht
  go_enter Tryd.func3, Tryd.ntmps3
  go_wp2_with fail
  refine (lives_any w).mono ?_
  rintro e w1 ⟨rfl, k1⟩
  go_wp2_with fail
  refine (cN.out _ _ _).mono ?_
  rintro e w2 ⟨rfl, k2⟩
  have K2 := Lib.hid (k1.trans k2)
  clear k1 k2
  go_wp2_with fail
  have B1 := NtB.new w2 DN
  have B2 := NtB.new ((w2).alloc (.cells #[.int .i64 5, .int .i64 1, .int .i64 1, .string (S [33, 114, 58, 120]), .string (S [64, 97, 58, 98]), .string ⟨#[]⟩, .string ⟨#[]⟩, .int .i64 0, .string ⟨#[]⟩] 26)) OFF
  have B3 := heap_alloc_new (((w2).alloc (.cells #[.int .i64 5, .int .i64 1, .int .i64 1, .string (S [33, 114, 58, 120]), .string (S [64, 97, 58, 98]), .string ⟨#[]⟩, .string ⟨#[]⟩, .int .i64 0, .string ⟨#[]⟩] 26)).alloc (.cells #[.int .i64 5, .int .i64 1, .int .i64 2, .string (S [33, 114, 58, 120]), .string (S [64, 97, 58, 98]), .string ⟨#[]⟩, .string ⟨#[]⟩, .int .i64 0, .string ⟨#[]⟩] 26)) (.cells #[.int .i64 1, .int .i64 0, .int .i64 0, .string ⟨#[]⟩, .string ⟨#[]⟩, .string ⟨#[]⟩, .string ⟨#[]⟩, .int .i64 5, .string ⟨#[]⟩, .int .i64 2, .int .i64 0, .int .i64 0, .string ⟨#[]⟩, .string ⟨#[]⟩, .string ⟨#[]⟩, .string ⟨#[]⟩, .int .i64 1, .string ⟨#[33, 114, 58, 120]⟩, .int .i64 9, .int .i64 0, .int .i64 0, .string ⟨#[]⟩, .string ⟨#[]⟩, .string ⟨#[]⟩, .string ⟨#[]⟩, .int .i64 0, .string ⟨#[]⟩] 26)
  have B4 := NtB.new ((((w2).alloc (.cells #[.int .i64 5, .int .i64 1, .int .i64 1, .string (S [33, 114, 58, 120]), .string (S [64, 97, 58, 98]), .string ⟨#[]⟩, .string ⟨#[]⟩, .int .i64 0, .string ⟨#[]⟩] 26)).alloc (.cells #[.int .i64 5, .int .i64 1, .int .i64 2, .string (S [33, 114, 58, 120]), .string (S [64, 97, 58, 98]), .string ⟨#[]⟩, .string ⟨#[]⟩, .int .i64 0, .string ⟨#[]⟩] 26)).alloc (.cells #[.int .i64 1, .int .i64 0, .int .i64 0, .string ⟨#[]⟩, .string ⟨#[]⟩, .string ⟨#[]⟩, .string ⟨#[]⟩, .int .i64 5, .string ⟨#[]⟩, .int .i64 2, .int .i64 0, .int .i64 0, .string ⟨#[]⟩, .string ⟨#[]⟩, .string ⟨#[]⟩, .string ⟨#[]⟩, .int .i64 1, .string ⟨#[33, 114, 58, 120]⟩, .int .i64 9, .int .i64 0, .int .i64 0, .string ⟨#[]⟩, .string ⟨#[]⟩, .string ⟨#[]⟩, .string ⟨#[]⟩, .int .i64 0, .string ⟨#[]⟩] 26)) BAD
  have K7 := Lib.hid ((((K2.out.alloc (.cells #[.int .i64 5, .int .i64 1, .int .i64 1, .string (S [33, 114, 58, 120]), .string (S [64, 97, 58, 98]), .string ⟨#[]⟩, .string ⟨#[]⟩, .int .i64 0, .string ⟨#[]⟩] 26)).alloc (.cells #[.int .i64 5, .int .i64 1, .int .i64 2, .string (S [33, 114, 58, 120]), .string (S [64, 97, 58, 98]), .string ⟨#[]⟩, .string ⟨#[]⟩, .int .i64 0, .string ⟨#[]⟩] 26)).alloc (.cells #[.int .i64 1, .int .i64 0, .int .i64 0, .string ⟨#[]⟩, .string ⟨#[]⟩, .string ⟨#[]⟩, .string ⟨#[]⟩, .int .i64 5, .string ⟨#[]⟩, .int .i64 2, .int .i64 0, .int .i64 0, .string ⟨#[]⟩, .string ⟨#[]⟩, .string ⟨#[]⟩, .string ⟨#[]⟩, .int .i64 1, .string ⟨#[33, 114, 58, 120]⟩, .int .i64 9, .int .i64 0, .int .i64 0, .string ⟨#[]⟩, .string ⟨#[]⟩, .string ⟨#[]⟩, .string ⟨#[]⟩, .int .i64 0, .string ⟨#[]⟩] 26)).alloc (.cells #[.int .i64 9, .int .i64 1, .int .i64 0, .string ⟨#[]⟩, .string ⟨#[]⟩, .string ⟨#[]⟩, .string ⟨#[]⟩, .int .i64 0, .string ⟨#[]⟩] 26))
  have BD : Hid (NtB (((((w2).alloc (.cells #[.int .i64 5, .int .i64 1, .int .i64 1, .string (S [33, 114, 58, 120]), .string (S [64, 97, 58, 98]), .string ⟨#[]⟩, .string ⟨#[]⟩, .int .i64 0, .string ⟨#[]⟩] 26)).alloc (.cells #[.int .i64 5, .int .i64 1, .int .i64 2, .string (S [33, 114, 58, 120]), .string (S [64, 97, 58, 98]), .string ⟨#[]⟩, .string ⟨#[]⟩, .int .i64 0, .string ⟨#[]⟩] 26)).alloc (.cells #[.int .i64 1, .int .i64 0, .int .i64 0, .string ⟨#[]⟩, .string ⟨#[]⟩, .string ⟨#[]⟩, .string ⟨#[]⟩, .int .i64 5, .string ⟨#[]⟩, .int .i64 2, .int .i64 0, .int .i64 0, .string ⟨#[]⟩, .string ⟨#[]⟩, .string ⟨#[]⟩, .string ⟨#[]⟩, .int .i64 1, .string ⟨#[33, 114, 58, 120]⟩, .int .i64 9, .int .i64 0, .int .i64 0, .string ⟨#[]⟩, .string ⟨#[]⟩, .string ⟨#[]⟩, .string ⟨#[]⟩, .int .i64 0, .string ⟨#[]⟩] 26)).alloc (.cells #[.int .i64 9, .int .i64 1, .int .i64 0, .string ⟨#[]⟩, .string ⟨#[]⟩, .string ⟨#[]⟩, .string ⟨#[]⟩, .int .i64 0, .string ⟨#[]⟩] 26)) w2.heap.size DN) := Lib.hid (B1.keeps ((((Keeps.refl ((w2).alloc (.cells #[.int .i64 5, .int .i64 1, .int .i64 1, .string (S [33, 114, 58, 120]), .string (S [64, 97, 58, 98]), .string ⟨#[]⟩, .string ⟨#[]⟩, .int .i64 0, .string ⟨#[]⟩] 26))).alloc (.cells #[.int .i64 5, .int .i64 1, .int .i64 2, .string (S [33, 114, 58, 120]), .string (S [64, 97, 58, 98]), .string ⟨#[]⟩, .string ⟨#[]⟩, .int .i64 0, .string ⟨#[]⟩] 26)).alloc (.cells #[.int .i64 1, .int .i64 0, .int .i64 0, .string ⟨#[]⟩, .string ⟨#[]⟩, .string ⟨#[]⟩, .string ⟨#[]⟩, .int .i64 5, .string ⟨#[]⟩, .int .i64 2, .int .i64 0, .int .i64 0, .string ⟨#[]⟩, .string ⟨#[]⟩, .string ⟨#[]⟩, .string ⟨#[]⟩, .int .i64 1, .string ⟨#[33, 114, 58, 120]⟩, .int .i64 9, .int .i64 0, .int .i64 0, .string ⟨#[]⟩, .string ⟨#[]⟩, .string ⟨#[]⟩, .string ⟨#[]⟩, .int .i64 0, .string ⟨#[]⟩] 26)).alloc (.cells #[.int .i64 9, .int .i64 1, .int .i64 0, .string ⟨#[]⟩, .string ⟨#[]⟩, .string ⟨#[]⟩, .string ⟨#[]⟩, .int .i64 0, .string ⟨#[]⟩] 26)))
  have BO : Hid (NtB (((((w2).alloc (.cells #[.int .i64 5, .int .i64 1, .int .i64 1, .string (S [33, 114, 58, 120]), .string (S [64, 97, 58, 98]), .string ⟨#[]⟩, .string ⟨#[]⟩, .int .i64 0, .string ⟨#[]⟩] 26)).alloc (.cells #[.int .i64 5, .int .i64 1, .int .i64 2, .string (S [33, 114, 58, 120]), .string (S [64, 97, 58, 98]), .string ⟨#[]⟩, .string ⟨#[]⟩, .int .i64 0, .string ⟨#[]⟩] 26)).alloc (.cells #[.int .i64 1, .int .i64 0, .int .i64 0, .string ⟨#[]⟩, .string ⟨#[]⟩, .string ⟨#[]⟩, .string ⟨#[]⟩, .int .i64 5, .string ⟨#[]⟩, .int .i64 2, .int .i64 0, .int .i64 0, .string ⟨#[]⟩, .string ⟨#[]⟩, .string ⟨#[]⟩, .string ⟨#[]⟩, .int .i64 1, .string ⟨#[33, 114, 58, 120]⟩, .int .i64 9, .int .i64 0, .int .i64 0, .string ⟨#[]⟩, .string ⟨#[]⟩, .string ⟨#[]⟩, .string ⟨#[]⟩, .int .i64 0, .string ⟨#[]⟩] 26)).alloc (.cells #[.int .i64 9, .int .i64 1, .int .i64 0, .string ⟨#[]⟩, .string ⟨#[]⟩, .string ⟨#[]⟩, .string ⟨#[]⟩, .int .i64 0, .string ⟨#[]⟩] 26)) (w2.heap.size + 1) OFF) := Lib.hid (by have h : NtB (((((w2).alloc (.cells #[.int .i64 5, .int .i64 1, .int .i64 1, .string (S [33, 114, 58, 120]), .string (S [64, 97, 58, 98]), .string ⟨#[]⟩, .string ⟨#[]⟩, .int .i64 0, .string ⟨#[]⟩] 26)).alloc (.cells #[.int .i64 5, .int .i64 1, .int .i64 2, .string (S [33, 114, 58, 120]), .string (S [64, 97, 58, 98]), .string ⟨#[]⟩, .string ⟨#[]⟩, .int .i64 0, .string ⟨#[]⟩] 26)).alloc (.cells #[.int .i64 1, .int .i64 0, .int .i64 0, .string ⟨#[]⟩, .string ⟨#[]⟩, .string ⟨#[]⟩, .string ⟨#[]⟩, .int .i64 5, .string ⟨#[]⟩, .int .i64 2, .int .i64 0, .int .i64 0, .string ⟨#[]⟩, .string ⟨#[]⟩, .string ⟨#[]⟩, .string ⟨#[]⟩, .int .i64 1, .string ⟨#[33, 114, 58, 120]⟩, .int .i64 9, .int .i64 0, .int .i64 0, .string ⟨#[]⟩, .string ⟨#[]⟩, .string ⟨#[]⟩, .string ⟨#[]⟩, .int .i64 0, .string ⟨#[]⟩] 26)).alloc (.cells #[.int .i64 9, .int .i64 1, .int .i64 0, .string ⟨#[]⟩, .string ⟨#[]⟩, .string ⟨#[]⟩, .string ⟨#[]⟩, .int .i64 0, .string ⟨#[]⟩] 26)) ((w2).alloc (.cells #[.int .i64 5, .int .i64 1, .int .i64 1, .string (S [33, 114, 58, 120]), .string (S [64, 97, 58, 98]), .string ⟨#[]⟩, .string ⟨#[]⟩, .int .i64 0, .string ⟨#[]⟩] 26)).heap.size OFF := B2.keeps (((Keeps.refl (((w2).alloc (.cells #[.int .i64 5, .int .i64 1, .int .i64 1, .string (S [33, 114, 58, 120]), .string (S [64, 97, 58, 98]), .string ⟨#[]⟩, .string ⟨#[]⟩, .int .i64 0, .string ⟨#[]⟩] 26)).alloc (.cells #[.int .i64 5, .int .i64 1, .int .i64 2, .string (S [33, 114, 58, 120]), .string (S [64, 97, 58, 98]), .string ⟨#[]⟩, .string ⟨#[]⟩, .int .i64 0, .string ⟨#[]⟩] 26))).alloc (.cells #[.int .i64 1, .int .i64 0, .int .i64 0, .string ⟨#[]⟩, .string ⟨#[]⟩, .string ⟨#[]⟩, .string ⟨#[]⟩, .int .i64 5, .string ⟨#[]⟩, .int .i64 2, .int .i64 0, .int .i64 0, .string ⟨#[]⟩, .string ⟨#[]⟩, .string ⟨#[]⟩, .string ⟨#[]⟩, .int .i64 1, .string ⟨#[33, 114, 58, 120]⟩, .int .i64 9, .int .i64 0, .int .i64 0, .string ⟨#[]⟩, .string ⟨#[]⟩, .string ⟨#[]⟩, .string ⟨#[]⟩, .int .i64 0, .string ⟨#[]⟩] 26)).alloc (.cells #[.int .i64 9, .int .i64 1, .int .i64 0, .string ⟨#[]⟩, .string ⟨#[]⟩, .string ⟨#[]⟩, .string ⟨#[]⟩, .int .i64 0, .string ⟨#[]⟩] 26)); simpa only [World.size_alloc] using h)
  have NL : Hid (NotesAt (((((w2).alloc (.cells #[.int .i64 5, .int .i64 1, .int .i64 1, .string (S [33, 114, 58, 120]), .string (S [64, 97, 58, 98]), .string ⟨#[]⟩, .string ⟨#[]⟩, .int .i64 0, .string ⟨#[]⟩] 26)).alloc (.cells #[.int .i64 5, .int .i64 1, .int .i64 2, .string (S [33, 114, 58, 120]), .string (S [64, 97, 58, 98]), .string ⟨#[]⟩, .string ⟨#[]⟩, .int .i64 0, .string ⟨#[]⟩] 26)).alloc (.cells #[.int .i64 1, .int .i64 0, .int .i64 0, .string ⟨#[]⟩, .string ⟨#[]⟩, .string ⟨#[]⟩, .string ⟨#[]⟩, .int .i64 5, .string ⟨#[]⟩, .int .i64 2, .int .i64 0, .int .i64 0, .string ⟨#[]⟩, .string ⟨#[]⟩, .string ⟨#[]⟩, .string ⟨#[]⟩, .int .i64 1, .string ⟨#[33, 114, 58, 120]⟩, .int .i64 9, .int .i64 0, .int .i64 0, .string ⟨#[]⟩, .string ⟨#[]⟩, .string ⟨#[]⟩, .string ⟨#[]⟩, .int .i64 0, .string ⟨#[]⟩] 26)).alloc (.cells #[.int .i64 9, .int .i64 1, .int .i64 0, .string ⟨#[]⟩, .string ⟨#[]⟩, .string ⟨#[]⟩, .string ⟨#[]⟩, .int .i64 0, .string ⟨#[]⟩] 26)) (some ⟨w2.heap.size + 1 + 1, 0, none⟩) L3) := Lib.hid (by have h : NotesAt (((((w2).alloc (.cells #[.int .i64 5, .int .i64 1, .int .i64 1, .string (S [33, 114, 58, 120]), .string (S [64, 97, 58, 98]), .string ⟨#[]⟩, .string ⟨#[]⟩, .int .i64 0, .string ⟨#[]⟩] 26)).alloc (.cells #[.int .i64 5, .int .i64 1, .int .i64 2, .string (S [33, 114, 58, 120]), .string (S [64, 97, 58, 98]), .string ⟨#[]⟩, .string ⟨#[]⟩, .int .i64 0, .string ⟨#[]⟩] 26)).alloc (.cells #[.int .i64 1, .int .i64 0, .int .i64 0, .string ⟨#[]⟩, .string ⟨#[]⟩, .string ⟨#[]⟩, .string ⟨#[]⟩, .int .i64 5, .string ⟨#[]⟩, .int .i64 2, .int .i64 0, .int .i64 0, .string ⟨#[]⟩, .string ⟨#[]⟩, .string ⟨#[]⟩, .string ⟨#[]⟩, .int .i64 1, .string ⟨#[33, 114, 58, 120]⟩, .int .i64 9, .int .i64 0, .int .i64 0, .string ⟨#[]⟩, .string ⟨#[]⟩, .string ⟨#[]⟩, .string ⟨#[]⟩, .int .i64 0, .string ⟨#[]⟩] 26)).alloc (.cells #[.int .i64 9, .int .i64 1, .int .i64 0, .string ⟨#[]⟩, .string ⟨#[]⟩, .string ⟨#[]⟩, .string ⟨#[]⟩, .int .i64 0, .string ⟨#[]⟩] 26)) (some ⟨(((w2).alloc (.cells #[.int .i64 5, .int .i64 1, .int .i64 1, .string (S [33, 114, 58, 120]), .string (S [64, 97, 58, 98]), .string ⟨#[]⟩, .string ⟨#[]⟩, .int .i64 0, .string ⟨#[]⟩] 26)).alloc (.cells #[.int .i64 5, .int .i64 1, .int .i64 2, .string (S [33, 114, 58, 120]), .string (S [64, 97, 58, 98]), .string ⟨#[]⟩, .string ⟨#[]⟩, .int .i64 0, .string ⟨#[]⟩] 26)).heap.size, 0, none⟩) L3 := (notes_block (l := L3) B3 rfl).keeps ((Keeps.refl ((((w2).alloc (.cells #[.int .i64 5, .int .i64 1, .int .i64 1, .string (S [33, 114, 58, 120]), .string (S [64, 97, 58, 98]), .string ⟨#[]⟩, .string ⟨#[]⟩, .int .i64 0, .string ⟨#[]⟩] 26)).alloc (.cells #[.int .i64 5, .int .i64 1, .int .i64 2, .string (S [33, 114, 58, 120]), .string (S [64, 97, 58, 98]), .string ⟨#[]⟩, .string ⟨#[]⟩, .int .i64 0, .string ⟨#[]⟩] 26)).alloc (.cells #[.int .i64 1, .int .i64 0, .int .i64 0, .string ⟨#[]⟩, .string ⟨#[]⟩, .string ⟨#[]⟩, .string ⟨#[]⟩, .int .i64 5, .string ⟨#[]⟩, .int .i64 2, .int .i64 0, .int .i64 0, .string ⟨#[]⟩, .string ⟨#[]⟩, .string ⟨#[]⟩, .string ⟨#[]⟩, .int .i64 1, .string ⟨#[33, 114, 58, 120]⟩, .int .i64 9, .int .i64 0, .int .i64 0, .string ⟨#[]⟩, .string ⟨#[]⟩, .string ⟨#[]⟩, .string ⟨#[]⟩, .int .i64 0, .string ⟨#[]⟩] 26))).alloc (.cells #[.int .i64 9, .int .i64 1, .int .i64 0, .string ⟨#[]⟩, .string ⟨#[]⟩, .string ⟨#[]⟩, .string ⟨#[]⟩, .int .i64 0, .string ⟨#[]⟩] 26)); simpa only [World.size_alloc] using h)
  have BB : Hid (NtB (((((w2).alloc (.cells #[.int .i64 5, .int .i64 1, .int .i64 1, .string (S [33, 114, 58, 120]), .string (S [64, 97, 58, 98]), .string ⟨#[]⟩, .string ⟨#[]⟩, .int .i64 0, .string ⟨#[]⟩] 26)).alloc (.cells #[.int .i64 5, .int .i64 1, .int .i64 2, .string (S [33, 114, 58, 120]), .string (S [64, 97, 58, 98]), .string ⟨#[]⟩, .string ⟨#[]⟩, .int .i64 0, .string ⟨#[]⟩] 26)).alloc (.cells #[.int .i64 1, .int .i64 0, .int .i64 0, .string ⟨#[]⟩, .string ⟨#[]⟩, .string ⟨#[]⟩, .string ⟨#[]⟩, .int .i64 5, .string ⟨#[]⟩, .int .i64 2, .int .i64 0, .int .i64 0, .string ⟨#[]⟩, .string ⟨#[]⟩, .string ⟨#[]⟩, .string ⟨#[]⟩, .int .i64 1, .string ⟨#[33, 114, 58, 120]⟩, .int .i64 9, .int .i64 0, .int .i64 0, .string ⟨#[]⟩, .string ⟨#[]⟩, .string ⟨#[]⟩, .string ⟨#[]⟩, .int .i64 0, .string ⟨#[]⟩] 26)).alloc (.cells #[.int .i64 9, .int .i64 1, .int .i64 0, .string ⟨#[]⟩, .string ⟨#[]⟩, .string ⟨#[]⟩, .string ⟨#[]⟩, .int .i64 0, .string ⟨#[]⟩] 26)) (w2.heap.size + 1 + 1 + 1) BAD) := Lib.hid (by have h : NtB (((((w2).alloc (.cells #[.int .i64 5, .int .i64 1, .int .i64 1, .string (S [33, 114, 58, 120]), .string (S [64, 97, 58, 98]), .string ⟨#[]⟩, .string ⟨#[]⟩, .int .i64 0, .string ⟨#[]⟩] 26)).alloc (.cells #[.int .i64 5, .int .i64 1, .int .i64 2, .string (S [33, 114, 58, 120]), .string (S [64, 97, 58, 98]), .string ⟨#[]⟩, .string ⟨#[]⟩, .int .i64 0, .string ⟨#[]⟩] 26)).alloc (.cells #[.int .i64 1, .int .i64 0, .int .i64 0, .string ⟨#[]⟩, .string ⟨#[]⟩, .string ⟨#[]⟩, .string ⟨#[]⟩, .int .i64 5, .string ⟨#[]⟩, .int .i64 2, .int .i64 0, .int .i64 0, .string ⟨#[]⟩, .string ⟨#[]⟩, .string ⟨#[]⟩, .string ⟨#[]⟩, .int .i64 1, .string ⟨#[33, 114, 58, 120]⟩, .int .i64 9, .int .i64 0, .int .i64 0, .string ⟨#[]⟩, .string ⟨#[]⟩, .string ⟨#[]⟩, .string ⟨#[]⟩, .int .i64 0, .string ⟨#[]⟩] 26)).alloc (.cells #[.int .i64 9, .int .i64 1, .int .i64 0, .string ⟨#[]⟩, .string ⟨#[]⟩, .string ⟨#[]⟩, .string ⟨#[]⟩, .int .i64 0, .string ⟨#[]⟩] 26)) ((((w2).alloc (.cells #[.int .i64 5, .int .i64 1, .int .i64 1, .string (S [33, 114, 58, 120]), .string (S [64, 97, 58, 98]), .string ⟨#[]⟩, .string ⟨#[]⟩, .int .i64 0, .string ⟨#[]⟩] 26)).alloc (.cells #[.int .i64 5, .int .i64 1, .int .i64 2, .string (S [33, 114, 58, 120]), .string (S [64, 97, 58, 98]), .string ⟨#[]⟩, .string ⟨#[]⟩, .int .i64 0, .string ⟨#[]⟩] 26)).alloc (.cells #[.int .i64 1, .int .i64 0, .int .i64 0, .string ⟨#[]⟩, .string ⟨#[]⟩, .string ⟨#[]⟩, .string ⟨#[]⟩, .int .i64 5, .string ⟨#[]⟩, .int .i64 2, .int .i64 0, .int .i64 0, .string ⟨#[]⟩, .string ⟨#[]⟩, .string ⟨#[]⟩, .string ⟨#[]⟩, .int .i64 1, .string ⟨#[33, 114, 58, 120]⟩, .int .i64 9, .int .i64 0, .int .i64 0, .string ⟨#[]⟩, .string ⟨#[]⟩, .string ⟨#[]⟩, .string ⟨#[]⟩, .int .i64 0, .string ⟨#[]⟩] 26)).heap.size BAD := B4; simpa only [World.size_alloc] using h)
  clear B1 B2 B3 B4 K2
  generalize ((((w2).alloc (.cells #[.int .i64 5, .int .i64 1, .int .i64 1, .string (S [33, 114, 58, 120]), .string (S [64, 97, 58, 98]), .string ⟨#[]⟩, .string ⟨#[]⟩, .int .i64 0, .string ⟨#[]⟩] 26)).alloc (.cells #[.int .i64 5, .int .i64 1, .int .i64 2, .string (S [33, 114, 58, 120]), .string (S [64, 97, 58, 98]), .string ⟨#[]⟩, .string ⟨#[]⟩, .int .i64 0, .string ⟨#[]⟩] 26)).alloc (.cells #[.int .i64 1, .int .i64 0, .int .i64 0, .string ⟨#[]⟩, .string ⟨#[]⟩, .string ⟨#[]⟩, .string ⟨#[]⟩, .int .i64 5, .string ⟨#[]⟩, .int .i64 2, .int .i64 0, .int .i64 0, .string ⟨#[]⟩, .string ⟨#[]⟩, .string ⟨#[]⟩, .string ⟨#[]⟩, .int .i64 1, .string ⟨#[33, 114, 58, 120]⟩, .int .i64 9, .int .i64 0, .int .i64 0, .string ⟨#[]⟩, .string ⟨#[]⟩, .string ⟨#[]⟩, .string ⟨#[]⟩, .int .i64 0, .string ⟨#[]⟩] 26)).alloc (.cells #[.int .i64 9, .int .i64 1, .int .i64 0, .string ⟨#[]⟩, .string ⟨#[]⟩, .string ⟨#[]⟩, .string ⟨#[]⟩, .int .i64 0, .string ⟨#[]⟩] 26) = W7 at *
  generalize w2.heap.size = D at *
  refine (cN.out _ _ _).mono ?_
  rintro e w3 ⟨rfl, k⟩
  have Q3 := Lib.hid ((Keeps.refl W7).trans k)
  clear k
  go_wp2_with fail
  refine (cN.out _ _ _).mono ?_
  rintro e w4 ⟨rfl, k⟩
  have Q4 := Lib.hid (Q3.out.trans k)
  clear k
  go_wp2_with fail
  refine (cN.out _ _ _).mono ?_
  rintro e w5 ⟨rfl, k⟩
  have Q5 := Lib.hid (Q4.out.trans k)
  clear k
  go_wp2_with fail
  have BG := heap_alloc_new w5 (.cells #[.int .i64 3, .int .i64 1, .int .i64 1, .string (S [33, 114, 58, 120]), .string (S [64, 97, 58, 98]), .string ⟨#[]⟩, .string ⟨#[]⟩, .int .i64 0, .string ⟨#[]⟩, .int .i64 4, .int .i64 1, .int .i64 1, .string (S [33, 114, 58, 120]), .string (S [64, 97, 58, 98]), .string ⟨#[]⟩, .string ⟨#[]⟩, .int .i64 0, .string ⟨#[]⟩, .int .i64 8, .int .i64 1, .int .i64 1, .string (S [33, 114, 58, 120]), .string (S [64, 97, 58, 98]), .string ⟨#[]⟩, .string ⟨#[]⟩, .int .i64 0, .string ⟨#[]⟩] 26)
  have NG : Hid (NotesAt ((w5).alloc (.cells #[.int .i64 3, .int .i64 1, .int .i64 1, .string (S [33, 114, 58, 120]), .string (S [64, 97, 58, 98]), .string ⟨#[]⟩, .string ⟨#[]⟩, .int .i64 0, .string ⟨#[]⟩, .int .i64 4, .int .i64 1, .int .i64 1, .string (S [33, 114, 58, 120]), .string (S [64, 97, 58, 98]), .string ⟨#[]⟩, .string ⟨#[]⟩, .int .i64 0, .string ⟨#[]⟩, .int .i64 8, .int .i64 1, .int .i64 1, .string (S [33, 114, 58, 120]), .string (S [64, 97, 58, 98]), .string ⟨#[]⟩, .string ⟨#[]⟩, .int .i64 0, .string ⟨#[]⟩] 26)) (some ⟨w5.heap.size, 0, none⟩) G3) := Lib.hid (notes_block (l := G3) BG rfl)
  have Q6 := Lib.hid (Q5.out.alloc (.cells #[.int .i64 3, .int .i64 1, .int .i64 1, .string (S [33, 114, 58, 120]), .string (S [64, 97, 58, 98]), .string ⟨#[]⟩, .string ⟨#[]⟩, .int .i64 0, .string ⟨#[]⟩, .int .i64 4, .int .i64 1, .int .i64 1, .string (S [33, 114, 58, 120]), .string (S [64, 97, 58, 98]), .string ⟨#[]⟩, .string ⟨#[]⟩, .int .i64 0, .string ⟨#[]⟩, .int .i64 8, .int .i64 1, .int .i64 1, .string (S [33, 114, 58, 120]), .string (S [64, 97, 58, 98]), .string ⟨#[]⟩, .string ⟨#[]⟩, .int .i64 0, .string ⟨#[]⟩] 26))
  clear BG Q3 Q4 Q5
  generalize (w5).alloc (.cells #[.int .i64 3, .int .i64 1, .int .i64 1, .string (S [33, 114, 58, 120]), .string (S [64, 97, 58, 98]), .string ⟨#[]⟩, .string ⟨#[]⟩, .int .i64 0, .string ⟨#[]⟩, .int .i64 4, .int .i64 1, .int .i64 1, .string (S [33, 114, 58, 120]), .string (S [64, 97, 58, 98]), .string ⟨#[]⟩, .string ⟨#[]⟩, .int .i64 0, .string ⟨#[]⟩, .int .i64 8, .int .i64 1, .int .i64 1, .string (S [33, 114, 58, 120]), .string (S [64, 97, 58, 98]), .string ⟨#[]⟩, .string ⟨#[]⟩, .int .i64 0, .string ⟨#[]⟩] 26) = W8 at *
  generalize w5.heap.size = G at *
  refine (cN.out _ _ _).mono ?_
  rintro e w6 ⟨rfl, k⟩
  have Q7 := Lib.hid ((Keeps.refl W8).trans k)
  clear k
  go_wp2_with fail
  refine (cN.out _ _ _).mono ?_
  rintro e w7 ⟨rfl, k⟩
  have Q8 := Lib.hid (Q7.out.trans k)
  clear k
  go_wp2_with fail
  refine (cN.out _ _ _).mono ?_
  rintro e w8 ⟨rfl, k⟩
  have Q9 := Lib.hid (Q8.out.trans k)
  clear k
  go_wp2_with fail
  refine (cN.out _ _ _).mono ?_
  rintro e w9 ⟨rfl, k⟩
  have Q10 := Lib.hid (Q9.out.trans k)
  clear k
  go_upto_region 10 with fail
  have BA := heap_alloc_new w9 (.cells #[.int .i64 3, .int .i64 1, .int .i64 1, .string (S [33, 114, 58, 120]), .string (S [64, 97, 58, 98]), .string ⟨#[]⟩, .string ⟨#[]⟩, .int .i64 0, .string ⟨#[]⟩, .int .i64 4, .int .i64 1, .int .i64 1, .string (S [33, 114, 58, 120]), .string (S [64, 97, 58, 98]), .string ⟨#[]⟩, .string ⟨#[]⟩, .int .i64 0, .string ⟨#[]⟩, .int .i64 6, .int .i64 1, .int .i64 1, .string (S [33, 114, 58, 120]), .string (S [64, 97, 58, 98]), .string ⟨#[]⟩, .string ⟨#[]⟩, .int .i64 0, .string ⟨#[]⟩, .int .i64 8, .int .i64 1, .int .i64 1, .string (S [33, 114, 58, 120]), .string (S [64, 97, 58, 98]), .string ⟨#[]⟩, .string ⟨#[]⟩, .int .i64 0, .string ⟨#[]⟩] 26)
  have NA : Hid (NotesAt ((w9).alloc (.cells #[.int .i64 3, .int .i64 1, .int .i64 1, .string (S [33, 114, 58, 120]), .string (S [64, 97, 58, 98]), .string ⟨#[]⟩, .string ⟨#[]⟩, .int .i64 0, .string ⟨#[]⟩, .int .i64 4, .int .i64 1, .int .i64 1, .string (S [33, 114, 58, 120]), .string (S [64, 97, 58, 98]), .string ⟨#[]⟩, .string ⟨#[]⟩, .int .i64 0, .string ⟨#[]⟩, .int .i64 6, .int .i64 1, .int .i64 1, .string (S [33, 114, 58, 120]), .string (S [64, 97, 58, 98]), .string ⟨#[]⟩, .string ⟨#[]⟩, .int .i64 0, .string ⟨#[]⟩, .int .i64 8, .int .i64 1, .int .i64 1, .string (S [33, 114, 58, 120]), .string (S [64, 97, 58, 98]), .string ⟨#[]⟩, .string ⟨#[]⟩, .int .i64 0, .string ⟨#[]⟩] 26)) (some ⟨w9.heap.size, 0, none⟩) A4) := Lib.hid (notes_block (l := A4) BA rfl)
  have QA := Lib.hid (Q10.out.alloc (.cells #[.int .i64 3, .int .i64 1, .int .i64 1, .string (S [33, 114, 58, 120]), .string (S [64, 97, 58, 98]), .string ⟨#[]⟩, .string ⟨#[]⟩, .int .i64 0, .string ⟨#[]⟩, .int .i64 4, .int .i64 1, .int .i64 1, .string (S [33, 114, 58, 120]), .string (S [64, 97, 58, 98]), .string ⟨#[]⟩, .string ⟨#[]⟩, .int .i64 0, .string ⟨#[]⟩, .int .i64 6, .int .i64 1, .int .i64 1, .string (S [33, 114, 58, 120]), .string (S [64, 97, 58, 98]), .string ⟨#[]⟩, .string ⟨#[]⟩, .int .i64 0, .string ⟨#[]⟩, .int .i64 8, .int .i64 1, .int .i64 1, .string (S [33, 114, 58, 120]), .string (S [64, 97, 58, 98]), .string ⟨#[]⟩, .string ⟨#[]⟩, .int .i64 0, .string ⟨#[]⟩] 26))
  have KV := Lib.hid (K7.out.trans (Q6.out.trans QA.out))
  have VD := Lib.hid (BD.out.keeps (Q6.out.trans QA.out))
  have VO := Lib.hid (BO.out.keeps (Q6.out.trans QA.out))
  have VB := Lib.hid (BB.out.keeps (Q6.out.trans QA.out))
  have VL := Lib.hid (NL.out.keeps (Q6.out.trans QA.out))
  have VG := Lib.hid (NG.out.keeps QA.out)
  have NA0 := NA
  clear BA Q7 Q8 Q9 Q10 QA Q6 K7 BD BO BB NL NG cN NA
  generalize (w9).alloc (.cells #[.int .i64 3, .int .i64 1, .int .i64 1, .string (S [33, 114, 58, 120]), .string (S [64, 97, 58, 98]), .string ⟨#[]⟩, .string ⟨#[]⟩, .int .i64 0, .string ⟨#[]⟩, .int .i64 4, .int .i64 1, .int .i64 1, .string (S [33, 114, 58, 120]), .string (S [64, 97, 58, 98]), .string ⟨#[]⟩, .string ⟨#[]⟩, .int .i64 0, .string ⟨#[]⟩, .int .i64 6, .int .i64 1, .int .i64 1, .string (S [33, 114, 58, 120]), .string (S [64, 97, 58, 98]), .string ⟨#[]⟩, .string ⟨#[]⟩, .int .i64 0, .string ⟨#[]⟩, .int .i64 8, .int .i64 1, .int .i64 1, .string (S [33, 114, 58, 120]), .string (S [64, 97, 58, 98]), .string ⟨#[]⟩, .string ⟨#[]⟩, .int .i64 0, .string ⟨#[]⟩] 26) = V at *
  generalize w9.heap.size = GA at *
  obtain ⟨y0, y1, y2, y3, y4, y5, y6, y7, y8⟩ := (VD.out.keeps (Keeps.refl V)).cells
  have d0 : V.cell? ⟨D, 0, none⟩ = some (.int .i64 5) := y0
  have d1 : V.cell? ⟨D, 1, none⟩ = some (.int .i64 1) := y1
  have d2 : V.cell? ⟨D, 2, none⟩ = some (.int .i64 1) := y2
  have d3 : V.cell? ⟨D, 3, none⟩ = some (.string (S [33, 114, 58, 120])) := y3
  have d4 : V.cell? ⟨D, 4, none⟩ = some (.string (S [64, 97, 58, 98])) := y4
  have d5 : V.cell? ⟨D, 5, none⟩ = some (.string ⟨#[]⟩) := y5
  have d6 : V.cell? ⟨D, 6, none⟩ = some (.string ⟨#[]⟩) := y6
  have d7 : V.cell? ⟨D, 7, none⟩ = some (.int .i64 0) := y7
  have d8 : V.cell? ⟨D, 8, none⟩ = some (.string ⟨#[]⟩) := y8
  clear y0 y1 y2 y3 y4 y5 y6 y7 y8
  go_wp2_with fail
  have c := isOwn_any (some ⟨V.heap.size, 0, none⟩) 1 [DN] Rm Us ((V).alloc (.cells #[.int .i64 5, .int .i64 1, .int .i64 1, .string (S [33, 114, 58, 120]), .string (S [64, 97, 58, 98]), .string ⟨#[]⟩, .string ⟨#[]⟩, .int .i64 0, .string ⟨#[]⟩] 26)) (notes_block (heap_alloc_new V _) rfl) (by decide) (ok_sub (by decide +kernel)) (by decide)
  rw [v_own1] at c
  have J := Lib.hid ((Keeps.refl V).alloc (.cells #[.int .i64 5, .int .i64 1, .int .i64 1, .string (S [33, 114, 58, 120]), .string (S [64, 97, 58, 98]), .string ⟨#[]⟩, .string ⟨#[]⟩, .int .i64 0, .string ⟨#[]⟩] 26))
  clear d0 d1 d2 d3 d4 d5 d6 d7 d8
  refine c.mono ?_
  rintro e x1 ⟨rfl, k⟩
  have J1 := Lib.hid (J.out.trans k)
  clear k c J
  obtain ⟨y0, y1, y2, y3, y4, y5, y6, y7, y8⟩ := (VD.out.keeps J1.out).cells
  have d0 : x1.cell? ⟨D, 0, none⟩ = some (.int .i64 5) := y0
  have d1 : x1.cell? ⟨D, 1, none⟩ = some (.int .i64 1) := y1
  have d2 : x1.cell? ⟨D, 2, none⟩ = some (.int .i64 1) := y2
  have d3 : x1.cell? ⟨D, 3, none⟩ = some (.string (S [33, 114, 58, 120])) := y3
  have d4 : x1.cell? ⟨D, 4, none⟩ = some (.string (S [64, 97, 58, 98])) := y4
  have d5 : x1.cell? ⟨D, 5, none⟩ = some (.string ⟨#[]⟩) := y5
  have d6 : x1.cell? ⟨D, 6, none⟩ = some (.string ⟨#[]⟩) := y6
  have d7 : x1.cell? ⟨D, 7, none⟩ = some (.int .i64 0) := y7
  have d8 : x1.cell? ⟨D, 8, none⟩ = some (.string ⟨#[]⟩) := y8
  clear y0 y1 y2 y3 y4 y5 y6 y7 y8
  obtain ⟨y0, y1, y2, y3, y4, y5, y6, y7, y8⟩ := (VO.out.keeps J1.out).cells
  have o0 : x1.cell? ⟨(D + 1), 0, none⟩ = some (.int .i64 5) := y0
  have o1 : x1.cell? ⟨(D + 1), 1, none⟩ = some (.int .i64 1) := y1
  have o2 : x1.cell? ⟨(D + 1), 2, none⟩ = some (.int .i64 2) := y2
  have o3 : x1.cell? ⟨(D + 1), 3, none⟩ = some (.string (S [33, 114, 58, 120])) := y3
  have o4 : x1.cell? ⟨(D + 1), 4, none⟩ = some (.string (S [64, 97, 58, 98])) := y4
  have o5 : x1.cell? ⟨(D + 1), 5, none⟩ = some (.string ⟨#[]⟩) := y5
  have o6 : x1.cell? ⟨(D + 1), 6, none⟩ = some (.string ⟨#[]⟩) := y6
  have o7 : x1.cell? ⟨(D + 1), 7, none⟩ = some (.int .i64 0) := y7
  have o8 : x1.cell? ⟨(D + 1), 8, none⟩ = some (.string ⟨#[]⟩) := y8
  clear y0 y1 y2 y3 y4 y5 y6 y7 y8
  go_wp2_with fail
  have c := isOwn_any (some ⟨x1.heap.size, 0, none⟩) 2 [DN, OFF] Rm Us ((x1).alloc (.cells #[.int .i64 5, .int .i64 1, .int .i64 1, .string (S [33, 114, 58, 120]), .string (S [64, 97, 58, 98]), .string ⟨#[]⟩, .string ⟨#[]⟩, .int .i64 0, .string ⟨#[]⟩, .int .i64 5, .int .i64 1, .int .i64 2, .string (S [33, 114, 58, 120]), .string (S [64, 97, 58, 98]), .string ⟨#[]⟩, .string ⟨#[]⟩, .int .i64 0, .string ⟨#[]⟩] 26)) (notes_block (heap_alloc_new x1 _) rfl) (by decide) (ok_sub (by decide +kernel)) (by decide)
  rw [v_own2] at c
  have J := Lib.hid (J1.out.alloc (.cells #[.int .i64 5, .int .i64 1, .int .i64 1, .string (S [33, 114, 58, 120]), .string (S [64, 97, 58, 98]), .string ⟨#[]⟩, .string ⟨#[]⟩, .int .i64 0, .string ⟨#[]⟩, .int .i64 5, .int .i64 1, .int .i64 2, .string (S [33, 114, 58, 120]), .string (S [64, 97, 58, 98]), .string ⟨#[]⟩, .string ⟨#[]⟩, .int .i64 0, .string ⟨#[]⟩] 26))
  clear d0 d1 d2 d3 d4 d5 d6 d7 d8 o0 o1 o2 o3 o4 o5 o6 o7 o8
  refine c.mono ?_
  rintro e x2 ⟨rfl, k⟩
  have J2 := Lib.hid (J.out.trans k)
  clear k c J
  obtain ⟨y0, y1, y2, y3, y4, y5, y6, y7, y8⟩ := (VD.out.keeps J2.out).cells
  have d0 : x2.cell? ⟨D, 0, none⟩ = some (.int .i64 5) := y0
  have d1 : x2.cell? ⟨D, 1, none⟩ = some (.int .i64 1) := y1
  have d2 : x2.cell? ⟨D, 2, none⟩ = some (.int .i64 1) := y2
  have d3 : x2.cell? ⟨D, 3, none⟩ = some (.string (S [33, 114, 58, 120])) := y3
  have d4 : x2.cell? ⟨D, 4, none⟩ = some (.string (S [64, 97, 58, 98])) := y4
  have d5 : x2.cell? ⟨D, 5, none⟩ = some (.string ⟨#[]⟩) := y5
  have d6 : x2.cell? ⟨D, 6, none⟩ = some (.string ⟨#[]⟩) := y6
  have d7 : x2.cell? ⟨D, 7, none⟩ = some (.int .i64 0) := y7
  have d8 : x2.cell? ⟨D, 8, none⟩ = some (.string ⟨#[]⟩) := y8
  clear y0 y1 y2 y3 y4 y5 y6 y7 y8
  go_wp2_with fail
  have c := isOwn_any (some ⟨x2.heap.size, 0, none⟩) 1 [DN] [33, 113, 58, 120] Us ((x2).alloc (.cells #[.int .i64 5, .int .i64 1, .int .i64 1, .string (S [33, 114, 58, 120]), .string (S [64, 97, 58, 98]), .string ⟨#[]⟩, .string ⟨#[]⟩, .int .i64 0, .string ⟨#[]⟩] 26)) (notes_block (heap_alloc_new x2 _) rfl) (by decide) (ok_sub (by decide +kernel)) (by decide)
  rw [v_own3] at c
  have J := Lib.hid (J2.out.alloc (.cells #[.int .i64 5, .int .i64 1, .int .i64 1, .string (S [33, 114, 58, 120]), .string (S [64, 97, 58, 98]), .string ⟨#[]⟩, .string ⟨#[]⟩, .int .i64 0, .string ⟨#[]⟩] 26))
  clear d0 d1 d2 d3 d4 d5 d6 d7 d8
  refine c.mono ?_
  rintro e x3 ⟨rfl, k⟩
  have J3 := Lib.hid (J.out.trans k)
  clear k c J
  obtain ⟨y0, y1, y2, y3, y4, y5, y6, y7, y8⟩ := (VD.out.keeps J3.out).cells
  have d0 : x3.cell? ⟨D, 0, none⟩ = some (.int .i64 5) := y0
  have d1 : x3.cell? ⟨D, 1, none⟩ = some (.int .i64 1) := y1
  have d2 : x3.cell? ⟨D, 2, none⟩ = some (.int .i64 1) := y2
  have d3 : x3.cell? ⟨D, 3, none⟩ = some (.string (S [33, 114, 58, 120])) := y3
  have d4 : x3.cell? ⟨D, 4, none⟩ = some (.string (S [64, 97, 58, 98])) := y4
  have d5 : x3.cell? ⟨D, 5, none⟩ = some (.string ⟨#[]⟩) := y5
  have d6 : x3.cell? ⟨D, 6, none⟩ = some (.string ⟨#[]⟩) := y6
  have d7 : x3.cell? ⟨D, 7, none⟩ = some (.int .i64 0) := y7
  have d8 : x3.cell? ⟨D, 8, none⟩ = some (.string ⟨#[]⟩) := y8
  clear y0 y1 y2 y3 y4 y5 y6 y7 y8
  go_wp2_with fail
  have c := owned_any (some ⟨x3.heap.size, 0, none⟩) 2 [DN, DN] Rm ((x3).alloc (.cells #[.int .i64 5, .int .i64 1, .int .i64 1, .string (S [33, 114, 58, 120]), .string (S [64, 97, 58, 98]), .string ⟨#[]⟩, .string ⟨#[]⟩, .int .i64 0, .string ⟨#[]⟩, .int .i64 5, .int .i64 1, .int .i64 1, .string (S [33, 114, 58, 120]), .string (S [64, 97, 58, 98]), .string ⟨#[]⟩, .string ⟨#[]⟩, .int .i64 0, .string ⟨#[]⟩] 26)) (notes_block (heap_alloc_new x3 _) rfl) (by decide) (ok_sub (by decide +kernel))
  have J := Lib.hid (J3.out.alloc (.cells #[.int .i64 5, .int .i64 1, .int .i64 1, .string (S [33, 114, 58, 120]), .string (S [64, 97, 58, 98]), .string ⟨#[]⟩, .string ⟨#[]⟩, .int .i64 0, .string ⟨#[]⟩, .int .i64 5, .int .i64 1, .int .i64 1, .string (S [33, 114, 58, 120]), .string (S [64, 97, 58, 98]), .string ⟨#[]⟩, .string ⟨#[]⟩, .int .i64 0, .string ⟨#[]⟩] 26))
  clear d0 d1 d2 d3 d4 d5 d6 d7 d8
  refine c.mono ?_
  rintro e x4 ⟨A2, ss, c2, rfl, hrise, hmem, hst, _, _, _, k⟩
  obtain rfl := one_str hrise (fun u => (hmem u).trans (v_owned u))
  have HST := Lib.hid hst
  clear hrise hmem hst
  have J4 := Lib.hid (J.out.trans k)
  clear k c
  clear J
  go_wp2_with fail
  have c := same_strs A2 (some ⟨x4.heap.size, 0, none⟩) c2 1 [Us] [Us] ((x4).alloc (.cells #[.string ⟨#[64, 97, 58, 98]⟩] 9)) (HST.out.keeps ((Keeps.refl _).alloc _)) (fun i hi => ⟨x4.heap.size, 0, rfl, by
    obtain rfl : i = 0 := by simpa using hi
    rw [Lib.cell_of_heap (heap_alloc_new x4 _)]; rfl⟩) (by decide)
  rw [show decide ([Us] = [Us]) = true by decide] at c
  have J := Lib.hid (J4.out.alloc (.cells #[.string ⟨#[64, 97, 58, 98]⟩] 9))
  refine c.mono ?_
  rintro e x5 ⟨rfl, q, hq⟩
  have k : Keeps ((x4).alloc (.cells #[.string ⟨#[64, 97, 58, 98]⟩] 9)) x5 := by rw [hq]; exact (Keeps.refl _).drewN q
  clear hq HST
  have J5 := Lib.hid (J.out.trans k)
  clear k c
  clear J
  go_wp2_with fail
  have c := life_any (some ⟨D + 1 + 1, 0, none⟩) 3 L3 x5 (VL.out.keeps J5.out) (by decide) (ok_all (by decide +kernel))
  rw [v_life1] at c
  refine c.mono ?_
  rintro e x6 ⟨rfl, k⟩
  have J6 := Lib.hid (J5.out.trans k)
  clear k c
  obtain ⟨y0, y1, y2, y3, y4, y5, y6, y7, y8⟩ := (VB.out.keeps J6.out).cells
  have b0 : x6.cell? ⟨(D + 1 + 1 + 1), 0, none⟩ = some (.int .i64 9) := y0
  have b1 : x6.cell? ⟨(D + 1 + 1 + 1), 1, none⟩ = some (.int .i64 1) := y1
  have b2 : x6.cell? ⟨(D + 1 + 1 + 1), 2, none⟩ = some (.int .i64 0) := y2
  have b3 : x6.cell? ⟨(D + 1 + 1 + 1), 3, none⟩ = some (.string ⟨#[]⟩) := y3
  have b4 : x6.cell? ⟨(D + 1 + 1 + 1), 4, none⟩ = some (.string ⟨#[]⟩) := y4
  have b5 : x6.cell? ⟨(D + 1 + 1 + 1), 5, none⟩ = some (.string ⟨#[]⟩) := y5
  have b6 : x6.cell? ⟨(D + 1 + 1 + 1), 6, none⟩ = some (.string ⟨#[]⟩) := y6
  have b7 : x6.cell? ⟨(D + 1 + 1 + 1), 7, none⟩ = some (.int .i64 0) := y7
  have b8 : x6.cell? ⟨(D + 1 + 1 + 1), 8, none⟩ = some (.string ⟨#[]⟩) := y8
  clear y0 y1 y2 y3 y4 y5 y6 y7 y8
  go_wp2_with fail
  have c := life_any (some ⟨x6.heap.size, 0, none⟩) 1 [BAD] ((x6).alloc (.cells #[.int .i64 9, .int .i64 1, .int .i64 0, .string ⟨#[]⟩, .string ⟨#[]⟩, .string ⟨#[]⟩, .string ⟨#[]⟩, .int .i64 0, .string ⟨#[]⟩] 26)) (notes_block (heap_alloc_new x6 _) rfl) (by decide) (ok_all (by decide +kernel))
  rw [v_life2] at c
  have J := Lib.hid (J6.out.alloc (.cells #[.int .i64 9, .int .i64 1, .int .i64 0, .string ⟨#[]⟩, .string ⟨#[]⟩, .string ⟨#[]⟩, .string ⟨#[]⟩, .int .i64 0, .string ⟨#[]⟩] 26))
  clear b0 b1 b2 b3 b4 b5 b6 b7 b8
  refine c.mono ?_
  rintro e x7 ⟨rfl, k⟩
  have J7 := Lib.hid (J.out.trans k)
  clear k c
  clear J
  go_wp2_with fail
  have c := life_any (some ⟨G, 0, none⟩) 3 G3 x7 (VG.out.keeps J7.out) (by decide) (ok_all (by decide +kernel))
  rw [v_life3] at c
  refine c.mono ?_
  rintro e x8 ⟨rfl, k⟩
  have J8 := Lib.hid (J7.out.trans k)
  clear k c
  go_wp2_with fail
  have c := life_any (some ⟨GA, 0, none⟩) 4 A4 x8 (NA0.out.keeps J8.out) (by decide) (ok_all (by decide +kernel))
  rw [v_life4] at c
  refine c.mono ?_
  rintro e x9 ⟨rfl, k⟩
  have J9 := Lib.hid (J8.out.trans k)
  clear k c
  have hc := notes_cells (VL.out.keeps J9.out) 1 (by decide)
  have l0 : x9.cell? ⟨D + 1 + 1, 9, none⟩ = some (.int .i64 2) := hc 0 _ rfl
  have l1 : x9.cell? ⟨D + 1 + 1, 10, none⟩ = some (.int .i64 0) := hc 1 _ rfl
  have l2 : x9.cell? ⟨D + 1 + 1, 11, none⟩ = some (.int .i64 0) := hc 2 _ rfl
  have l3 : x9.cell? ⟨D + 1 + 1, 12, none⟩ = some (.string ⟨#[]⟩) := hc 3 _ rfl
  have l4 : x9.cell? ⟨D + 1 + 1, 13, none⟩ = some (.string ⟨#[]⟩) := hc 4 _ rfl
  have l5 : x9.cell? ⟨D + 1 + 1, 14, none⟩ = some (.string ⟨#[]⟩) := hc 5 _ rfl
  have l6 : x9.cell? ⟨D + 1 + 1, 15, none⟩ = some (.string ⟨#[]⟩) := hc 6 _ rfl
  have l7 : x9.cell? ⟨D + 1 + 1, 16, none⟩ = some (.int .i64 1) := hc 7 _ rfl
  have l8 : x9.cell? ⟨D + 1 + 1, 17, none⟩ = some (.string ⟨#[33, 114, 58, 120]⟩) := hc 8 _ rfl
  clear hc
  go_wp2_with fail
  have c := line_any ⟨2, 0, A0, 1, [33, 114, 58, 120]⟩ x9 (HT.out.keeps (KV.out.trans J9.out)) (ok_line (l := [⟨2, 0, A0, 1, [33, 114, 58, 120]⟩]) (by decide +kernel) _ (by simp))
  rw [v_line1] at c
  clear l0 l1 l2 l3 l4 l5 l6 l7 l8
  refine c.mono ?_
  rintro e x10 ⟨rfl, k⟩
  have J10 := Lib.hid (J9.out.trans k)
  clear k c
  have t1 : ((S [99, 111, 109, 109, 97, 110, 100, 32, 49, 32, 33, 114, 58, 120]).toList == [99, 111, 109, 109, 97, 110, 100, 32, 49, 32, 33, 114, 58, 120]) = true := by rw [S_list]; decide
  have t1b : ((S [99, 111, 109, 109, 97, 110, 100, 32, 49, 32, 33, 114, 58, 120]).toList == (⟨#[99, 111, 109, 109, 97, 110, 100, 32, 49, 32, 33, 114, 58, 120]⟩ : ByteArray).toList) = true := by rw [ByteArray.toList_eq, ByteArray.toList_eq]; decide
  obtain ⟨y0, y1, y2, y3, y4, y5, y6, y7, y8⟩ := (VD.out.keeps J10.out).cells
  have d0 : x10.cell? ⟨D, 0, none⟩ = some (.int .i64 5) := y0
  have d1 : x10.cell? ⟨D, 1, none⟩ = some (.int .i64 1) := y1
  have d2 : x10.cell? ⟨D, 2, none⟩ = some (.int .i64 1) := y2
  have d3 : x10.cell? ⟨D, 3, none⟩ = some (.string (S [33, 114, 58, 120])) := y3
  have d4 : x10.cell? ⟨D, 4, none⟩ = some (.string (S [64, 97, 58, 98])) := y4
  have d5 : x10.cell? ⟨D, 5, none⟩ = some (.string ⟨#[]⟩) := y5
  have d6 : x10.cell? ⟨D, 6, none⟩ = some (.string ⟨#[]⟩) := y6
  have d7 : x10.cell? ⟨D, 7, none⟩ = some (.int .i64 0) := y7
  have d8 : x10.cell? ⟨D, 8, none⟩ = some (.string ⟨#[]⟩) := y8
  clear y0 y1 y2 y3 y4 y5 y6 y7 y8
  go_wp2_with fail
  have c := line_any DN x10 (HT.out.keeps (KV.out.trans J10.out)) (ok_line (l := [DN]) (by decide +kernel) _ (by simp))
  rw [v_line2] at c
  clear d0 d1 d2 d3 d4 d5 d6 d7 d8 t1 t1b
  refine c.mono ?_
  rintro e x11 ⟨rfl, k⟩
  have J11 := Lib.hid (J10.out.trans k)
  clear k c
  have t2 : ((S [100, 111, 110, 101, 32, 49, 32, 98, 97, 110, 32, 33, 114, 58, 120, 32, 64, 97, 58, 98, 32, 32]).toList == [100, 111, 110, 101, 32, 49, 32, 98, 97, 110, 32, 33, 114, 58, 120, 32, 64, 97, 58, 98, 32, 32]) = true := by rw [S_list]; decide
  have t2b : ((S [100, 111, 110, 101, 32, 49, 32, 98, 97, 110, 32, 33, 114, 58, 120, 32, 64, 97, 58, 98, 32, 32]).toList == (⟨#[100, 111, 110, 101, 32, 49, 32, 98, 97, 110, 32, 33, 114, 58, 120, 32, 64, 97, 58, 98, 32, 32]⟩ : ByteArray).toList) = true := by rw [ByteArray.toList_eq, ByteArray.toList_eq]; decide
  go_wp2_with fail
  have c := text_any (some ⟨D + 1 + 1, 0, none⟩) 3 L3 x11 (HT.out.keeps (KV.out.trans J11.out)) (VL.out.keeps J11.out) (by decide) (ok_line (by decide +kernel))
  rw [v_text] at c
  clear t2 t2b
  refine c.mono ?_
  rintro e x12 ⟨rfl, k⟩
  have J12 := Lib.hid (J11.out.trans k)
  clear k c
  have t3 : ((S [114, 101, 102, 117, 115, 101, 100, 32, 53, 10, 99, 111, 109, 109, 97, 110, 100, 32, 49, 32, 33, 114, 58, 120, 10, 102, 117, 108, 108, 10]).toList == [114, 101, 102, 117, 115, 101, 100, 32, 53, 10, 99, 111, 109, 109, 97, 110, 100, 32, 49, 32, 33, 114, 58, 120, 10, 102, 117, 108, 108, 10]) = true := by rw [S_list]; decide
  have t3b : ((S [114, 101, 102, 117, 115, 101, 100, 32, 53, 10, 99, 111, 109, 109, 97, 110, 100, 32, 49, 32, 33, 114, 58, 120, 10, 102, 117, 108, 108, 10]).toList == (⟨#[114, 101, 102, 117, 115, 101, 100, 32, 53, 10, 99, 111, 109, 109, 97, 110, 100, 32, 49, 32, 33, 114, 58, 120, 10, 102, 117, 108, 108, 10]⟩ : ByteArray).toList) = true := by rw [ByteArray.toList_eq, ByteArray.toList_eq]; decide
  go_wp2_with fail
  have c := of_all GA 0 none 4 A4 1 x12 (NA0.out.keeps J12.out) (by decide) (.inr rfl) (by decide)
  clear t3 t3b
  refine c.mono ?_
  rintro e x13 ⟨A', c', rfl, k⟩
  have J13 := Lib.hid (J12.out.trans k)
  clear k c
  go_wp2_with fail
  have c := line_any ⟨0, 0, A0, 0, []⟩ x13 (HT.out.keeps (KV.out.trans J13.out)) (ok_line (l := [⟨0, 0, A0, 0, []⟩]) (by decide +kernel) _ (by simp))
  rw [v_line3] at c
  refine c.mono ?_
  rintro e x14 ⟨rfl, k⟩
  have J14 := Lib.hid (J13.out.trans k)
  clear k c
  have t4 : ((S [63]).toList == [63]) = true := by rw [S_list]; decide
  have t4b : ((S [63]).toList == (⟨#[63]⟩ : ByteArray).toList) = true := by rw [ByteArray.toList_eq, ByteArray.toList_eq]; decide
  have KZ := Lib.hid (KV.out.trans J14.out)
  go_wp2
  go_ret
  exact ⟨rfl, KZ.out⟩
end Go.Proofs.YtfapilgmgjmfeaaDoor
