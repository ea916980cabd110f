/-
  The law ScriptNames, walked.
-/
import Derived.Test.YtpcfcbaapnkanaaIns
import Derived.Test.YtpcfcbaapnkanaaLCu
namespace Go.Proofs.Ytpcfcbaapnkanaa
open Go.RowKit

def s2 : St := ⟨true, ⟨4, 0, 2, false, []⟩, [512, 3]⟩
def s2x : St := ⟨true, ⟨4, 0, 2, false, []⟩, [601, 3]⟩
def s1x : St := ⟨false, ⟨6, 0, 0, false, []⟩, [1]⟩
def y2 : List UInt8 := PS.scrB K0 ⟨b1, 8, [s1, s2]⟩
theorem scr2_ok : (PS.scrC K0 ⟨b1, 8, [s1, s2]⟩).2 = 0 := by decide +kernel
theorem y2_len : y2.length = 30 := by decide +kernel
theorem scr2_read : PS.readS K0 y2 = .ok ⟨b1, 8, [s1, s2]⟩ := PS.read_scr K0 _ scr2_ok
theorem scr2_more : PS.readS K0 (y2 ++ [120]) = .error 5 := PS.read_more K0 _ scr2_ok 120
theorem scr2_front : PS.readS K0 (y2.take 29) = .error 3 := PS.read_front K0 _ scr2_ok 29 (by show 29 < y2.length; rw [y2_len]; decide)
def ybad : List UInt8 := [4, 64, 98, 58, 120, 0, 8, 0, 1, 2, 0, 1, 6]
theorem bad_read : PS.readS K0 ybad = .error 5 := by
  have h : (match PS.readS K0 ybad with | .error n => n | .ok _ => 0) = 5 := by decide +kernel
  cases h2 : PS.readS K0 ybad with
  | error n => rw [h2] at h; simp only at h; rw [h]
  | ok s => rw [h2] at h; cases h
theorem chk_bad : PS.scrC K0 ⟨b1, 8, [s1x]⟩ = (0, 2) := by decide +kernel
theorem chk_x : PS.scrC K0 ⟨b1, 8, [s1, s2x]⟩ = (1, 2) := by decide +kernel
theorem chk_id : PS.scrC K0 ⟨[98], 8, []⟩ = (0, 11) := by decide +kernel
theorem chk_arg : PS.scrC K0 ⟨b1, 0, []⟩ = (0, 2) := by decide +kernel

theorem err_read (l : List UInt8) (n : Int) (h : PS.readS K0 l = .error n) (hl : l.length ≤ 6000000) (w : World) : Calls Try.prog 11 #[.string (S l)] w (Ret (.tuple #[.agg #[.string ⟨#[]⟩, .int .i64 0, .slice none 0 0], .int .i64 n]) w) := by
  refine (readS_any l w hl).mono ?_
  rintro e w' ⟨hk, hm⟩
  rw [h] at hm
  exact ⟨hm, hk⟩
theorem chk_empty (bot : List UInt8) (q : Int) (i : Nat) (r : Int) (h : PS.scrC K0 ⟨bot, q, []⟩ = (i, r)) (hb : bot.length ≤ maxLen) (w : World) : Calls Try.prog 12 #[.agg #[.string (S bot), .int .i64 q, .slice none 0 0]] w (Ret (.tuple #[.int .i64 i, .int .i64 r]) w) := by
  have h1 := check_scr bot q none 0 [] w (fun i hi => by simp at hi) (by simp) hb (fun m hm => by simp at hm)
  have e : steps [] = [] := rfl
  rw [e, h] at h1
  exact h1
/-- The chapter's script with a crash, in memory. -/
structure Two (w : World) (B X g gc c : Nat) (ms : List Ms) (x : Int) : Prop where
  box : Blk w X #[.string ⟨#[64, 98, 58, 120]⟩, .int .i64 8, .slice (some ⟨g, 0, none⟩) 2 c] 25
  row : MsRow w B (.slice (some ⟨g, 0, none⟩) 2 c) ms
  cut : Blk w gc #[.int .i64 x, .int .i64 3] 3
theorem Two.keeps {w w' : World} {B X g gc c : Nat} {ms : List Ms} {x : Int} (h : Two w B X g gc c ms x) (k : Keeps w w') : Two w' B X g gc c ms x := ⟨h.box.keeps k, k.row h.row, h.cut.keeps k⟩
theorem Two.only {w w' : World} {B X g gc c q : Nat} {ms : List Ms} {x : Int} (h : Two w B X g gc c ms x) (k : Only q w w') (h1 : X ≠ q) (h2 : g ≠ q) (h3 : gc ≠ q) : Two w' B X g gc c ms x :=
  ⟨h.box.only k h1, k.row_ne h.row (by simp [Value.ownBlock, h2]), h.cut.only k h3⟩
def mm1 : Ms := ⟨s1, none, 0⟩
def mm2 (gc : Nat) (x : Int) : Ms := ⟨⟨true, ⟨4, 0, 2, false, []⟩, [x, 3]⟩, some ⟨gc, 0, none⟩, 2⟩
theorem Two.steps {w : World} {B X g gc c : Nat} {x y : Int} (h : Two w B X g gc c [mm1, mm2 gc y] x) : StepsAt w (some ⟨g, 0, none⟩) [mm1, mm2 gc x] := by
  have h2 : MsRow w B (.slice (some ⟨g, 0, none⟩) 2 c) [mm1, mm2 gc x] := h.row
  refine MsRow.stand h2 fun m hm => ?_
  simp at hm
  rcases hm with rfl | rfl
  · exact fun i hi => absurd hi (Nat.not_lt_zero i)
  · intro i hi
    have hi2 : i < 2 := hi
    refine ⟨gc, 0, rfl, ?_⟩
    rw [Nat.zero_add]
    rcases (show i = 0 ∨ i = 1 by omega) with rfl | rfl
    · exact h.cut.cell rfl
    · exact h.cut.cell rfl
theorem Two.cells {w : World} {B X g gc c : Nat} {x y : Int} (h : Two w B X g gc c [mm1, mm2 gc y] x) : w.cell? ⟨g, 13, none⟩ = some (.slice (some ⟨gc, 0, none⟩) 2 2) ∧ w.cell? ⟨gc, 0, none⟩ = some (.int .i64 x) ∧ w.frozen? ⟨gc, 0, none⟩ = false := by
  refine ⟨?_, h.cut.cell rfl, h.cut.frozen _⟩
  obtain ⟨A2, c2, e2, h2⟩ := SRow.rows msC_size h.row
  injection e2 with e2 _ _
  obtain ⟨g3, o3, e3, h3⟩ := h2 1 (by simp)
  rw [← e2] at e3
  injection e3 with e3
  injection e3 with e4 e5
  subst e4 e5
  have := h3 6 _ rfl
  simpa [mm2] using this
theorem two_fit (gc : Nat) (x : Int) : ∀ m, m ∈ [mm1, mm2 gc x] → MsFit m := fun m hm => by
  simp at hm
  rcases hm with rfl | rfl
  · exact ⟨by decide, by decide⟩
  · exact ⟨by simp [mm2, maxLen], by simp [mm2, maxLen]⟩
theorem two_check (B X g gc c : Nat) (x y : Int) (i : Nat) (r : Int) (w : World) (h : Two w B X g gc c [mm1, mm2 gc y] x) (hc : PS.scrC K0 ⟨b1, 8, [s1, ⟨true, ⟨4, 0, 2, false, []⟩, [x, 3]⟩]⟩ = (i, r)) :
    Calls Try.prog 12 #[.agg #[.string ⟨#[64, 98, 58, 120]⟩, .int .i64 8, .slice (some ⟨g, 0, none⟩) 2 c]] w (Ret (.tuple #[.int .i64 i, .int .i64 r]) w) := by
  have h1 := check_scr b1 8 (some ⟨g, 0, none⟩) c [mm1, mm2 gc x] w h.steps (by simp [maxLen]) (by decide) (two_fit gc x)
  have e : steps [mm1, mm2 gc x] = [s1, ⟨true, ⟨4, 0, 2, false, []⟩, [x, 3]⟩] := rfl
  rw [e, hc] at h1
  exact h1
theorem two_bytes (B X g gc c : Nat) (w : World) (h : Two w B X g gc c [mm1, mm2 gc 512] 512) :
    Calls Try.prog 10 #[.agg #[.string ⟨#[64, 98, 58, 120]⟩, .int .i64 8, .slice (some ⟨g, 0, none⟩) 2 c]] w (Ret (.tuple #[.string (S y2), .int .i64 0]) w) :=
  bytes_scr b1 8 (some ⟨g, 0, none⟩) c [mm1, mm2 gc 512] w h.steps (by simp [maxLen]) (by decide) (two_fit gc 512) scr2_ok
theorem two_inputs (B X g gc c : Nat) (w : World) (h : Two w B X g gc c [mm1, mm2 gc 512] 512) :
    Calls Try.prog 14 #[.agg #[.string ⟨#[64, 98, 58, 120]⟩, .int .i64 8, .slice (some ⟨g, 0, none⟩) 2 c]] w (fun e w' => ∃ A n, e = .returned (.slice A 2 n) ∧ Keeps w w') := by
  refine (Inputs_any b1 8 (some ⟨g, 0, none⟩) c [mm1, mm2 gc 512] w h.steps (by simp)).mono ?_
  rintro e w' ⟨v, rfl, hrow, hk⟩
  obtain ⟨A, n, rfl, -⟩ := SRow.rows inC_size hrow
  exact ⟨A, n, rfl, hk⟩
theorem two_same (B X g gc c : Nat) (A : Option Addr) (cb : Nat) (ms : List Ms) (w : World) (h : Two w B X g gc c [mm1, mm2 gc 512] 512) (hA : StepsAt w A ms) (hs : steps ms = [s1, s2]) :
    Calls Try.prog 13 #[.agg #[.string ⟨#[64, 98, 58, 120]⟩, .int .i64 8, .slice (some ⟨g, 0, none⟩) 2 c], .agg #[.string ⟨#[64, 98, 58, 120]⟩, .int .i64 8, .slice A 2 cb]] w (Ret (.bool true) w) := by
  have hl : ms.length = 2 := by have := congrArg List.length hs; simpa [steps] using this
  have h1 := same_scr b1 b1 8 8 (some ⟨g, 0, none⟩) A c cb [mm1, mm2 gc 512] ms w h.steps hA (by simp) (fun m hm => by
    simp at hm
    rcases hm with rfl | rfl
    · decide
    · simp [mm2])
  rw [hl, decide_eq_true (show b1 = b1 ∧ (8 : Int) = 8 ∧ steps [mm1, mm2 gc 512] = steps ms from ⟨rfl, rfl, by rw [hs]; rfl⟩)] at h1
  exact h1
theorem two_other (B X g gc c : Nat) (A : Option Addr) (cb : Nat) (ms : List Ms) (w : World) (h : Two w B X g gc c [mm1, mm2 gc 512] 512) (hA : StepsAt w A ms) (hs : steps ms = [s1]) :
    Calls Try.prog 13 #[.agg #[.string ⟨#[64, 98, 58, 120]⟩, .int .i64 8, .slice (some ⟨g, 0, none⟩) 2 c], .agg #[.string ⟨#[64, 98, 58, 120]⟩, .int .i64 8, .slice A 1 cb]] w (Ret (.bool false) w) := by
  have hl : ms.length = 1 := by have := congrArg List.length hs; simpa [steps] using this
  have h1 := same_scr b1 b1 8 8 (some ⟨g, 0, none⟩) A c cb [mm1, mm2 gc 512] ms w h.steps hA (by simp) (fun m hm => by
    simp at hm
    rcases hm with rfl | rfl
    · decide
    · simp [mm2])
  rw [hl, decide_eq_false (fun h : b1 = b1 ∧ (8 : Int) = 8 ∧ steps [mm1, mm2 gc 512] = steps ms => by
    have h2 := h.2.2
    rw [hs] at h2
    have := congrArg List.length h2
    simp [steps] at this)] at h1
  exact h1

theorem Blk.grown {w w' : World} {q B : Nat} {cs : Array Value} {t : TypeId} {v : Value} {n : Nat} {xs : List Value} (h : Blk w q cs t) (hr : w.ownsRow B 31 7 v n xs) (g : w.grownBy w' v.ownBlock) (ht : t ≠ 31) : Blk w' q cs t :=
  (g.block q (blk_lt h) (fun e => off_row hr h ht e.symm)).trans h
theorem MsRow.put2 {w : World} {B g n c : Nat} {l : List Ms} (h : MsRow w B (.slice (some ⟨g, 0, none⟩) n c) l) (k : Nat) (hk : k < l.length) (m' : Ms) (u : Value) (he : (msC m').toList = (msC (l[k]'hk)).toList.set 6 u) :
    MsRow (w.setCell ⟨g, k * 7 + 6, none⟩ u) B (.slice (some ⟨g, 0, none⟩) n c) (l.set k m') := by
  obtain ⟨h1, ⟨h2, _⟩ | ⟨g0, cap, cur, e, hB, hb, hc, hm, hs, ht⟩⟩ := h
  · cases h2
  · injection e with e1 e2 e3
    injection e1 with e1
    injection e1 with e1
    subst e1 e2 e3
    have hset := flatF_set msC 7 msC_size u 6 (by decide) l k hk m' he
    unfold MsRow SRow
    rw [hset, List.length_set]
    refine ⟨by rw [List.length_set]; exact h1, .inr ⟨g, c, cur.setIfInBounds (k * 7 + 6) u, rfl, hB, ?_, hc, hm, by rw [Array.size_setIfInBounds]; exact hs, ?_⟩⟩
    · exact Blk.set (t := 31) hb (k * 7 + 6) _
    · rw [← ht, Array.toList_setIfInBounds, List.take_set]
def ReadTwo (w : World) (e : Ending) (w' : World) : Prop := ∃ A c ms, e = .returned (.tuple #[.agg #[.string ⟨#[64, 98, 58, 120]⟩, .int .i64 8, .slice A 2 c], .int .i64 0]) ∧ steps ms = [s1, s2] ∧ StepsAt w' A ms ∧ Keeps w w'
theorem read_two (w : World) : Calls Try.prog 11 #[.string (S y2)] w (ReadTwo w) := by
  refine (readS_any y2 w (by rw [y2_len]; decide)).mono ?_
  rintro e w' ⟨hk, h⟩
  rw [scr2_read] at h
  obtain ⟨A, c, ms, he, hst, hA⟩ := h
  have hl : ms.length = 2 := by have := congrArg List.length hst; simpa [steps] using this
  refine ⟨A, c, ms, ?_, hst, hA, hk⟩
  rw [he, hl]
  rfl
/-- What was put back stands as it stood. -/
theorem Keeps.back {a b c d : World} {g : Nat} {cs : Array Value} {t : TypeId} (h : Blk a g cs t) (h1 : Only g a b) (h2 : Keeps b c) (h3 : Only g c d) (h4 : Blk d g cs t) : Keeps a d := by
  have k := (h1.keeps h2).trans h3
  refine ⟨k.os, k.tape, k.output, k.size, fun i hi => ?_⟩
  by_cases e : i = g
  · subst e
    exact h4.trans (Eq.symm h)
  · exact k.block i hi e
theorem one_check (g gd B : Nat) (w : World) (hrow : MsRow w B (.slice (some ⟨g, 0, none⟩) 1 1) [⟨s1x, some ⟨gd, 0, none⟩, 1⟩]) (hcut : Blk w gd #[.int .i64 1] 3) :
    Calls Try.prog 12 #[.agg #[.string ⟨#[64, 98, 58, 120]⟩, .int .i64 8, .slice (some ⟨g, 0, none⟩) 1 1]] w (Ret (.tuple #[.int .i64 0, .int .i64 2]) w) := by
  have hS : StepsAt w (some ⟨g, 0, none⟩) [⟨s1x, some ⟨gd, 0, none⟩, 1⟩] := MsRow.stand hrow fun m hm => by
    obtain rfl : m = _ := by simpa using hm
    intro i hi
    have hi2 : i < 1 := hi
    obtain rfl : i = 0 := by omega
    exact ⟨gd, 0, rfl, hcut.cell rfl⟩
  have h1 := check_scr b1 8 (some ⟨g, 0, none⟩) 1 [⟨s1x, some ⟨gd, 0, none⟩, 1⟩] w hS (by simp [maxLen]) (by decide) (fun m hm => by
    obtain rfl : m = _ := by simpa using hm
    exact ⟨by simp [s1x, maxLen], by simp [s1x, maxLen]⟩)
  have e : steps [⟨s1x, some ⟨gd, 0, none⟩, 1⟩] = [s1x] := rfl
  rw [e, chk_bad] at h1
  exact h1

set_option maxHeartbeats 8000000 in
set_option maxRecDepth 100000 in
theorem names_any (w : World) : Calls Try.prog 3 #[] w (Ret (.bool true) w) := by
  have cV := Lib.hid (lives_any w)
  have cO := Lib.hid (fun wx => one_any wx)
  have cRb := Lib.hid (fun wx => err_read ybad 5 bad_read (by decide) wx)
  have cRm := Lib.hid (fun wx => err_read (y2 ++ [120]) 5 scr2_more (by rw [List.length_append, y2_len]; decide) wx)
  have cRf := Lib.hid (fun wx => err_read (y2.take 29) 3 scr2_front (by rw [List.length_take, y2_len]; decide) wx)
  have e120 : S (y2 ++ [120]) = S y2 ++ ⟨#[120]⟩ := (S_append y2 [120]).symm
  have e29 : S (y2.take 29) = (S y2).extract 0 29 := (S_take y2 29).symm
  rw [e120] at cRm
  rw [e29] at cRf
  have ebad : S ybad = ⟨#[4, 64, 98, 58, 120, 0, 8, 0, 1, 2, 0, 1, 6]⟩ := rfl
  rw [ebad] at cRb
  clear e120 e29 ebad
  have cI := Lib.hid (fun wx => chk_empty [98] 8 0 11 chk_id (by decide) wx)
  have cA := Lib.hid (fun wx => chk_empty b1 0 0 2 chk_arg (by decide) wx)
  have eI : S [98] = ⟨#[98]⟩ := rfl
  have eA : S b1 = ⟨#[64, 98, 58, 120]⟩ := rfl
  rw [eI] at cI
  rw [eA] at cA
  clear eI eA
  obtain ⟨i, hi, ⟨z, hz, hzs⟩, hz1, hz2⟩ := info31
  go_enter Try.func3, Try.ntmps3
  go_wp2_with fail
  refine cV.out.mono ?_
  rintro e w1 ⟨rfl, k1⟩
  have K1 := Lib.hid k1
  clear k1
  go_wp2_with fail
  refine (cO.out _).mono ?_
  rintro e w1' ⟨A1, c1, ms1, rfl, -, -, ⟨g1, rfl, hg1⟩, rfl, rfl, hrow1, k2⟩
  have K2 := Lib.hid ((K1.out.trans k2).alloc (.cells #[.string ⟨#[64, 98, 58, 120]⟩, .int .i64 8, .slice (some ⟨g1, 0, none⟩) 1 1] 25))
  have X2 := Lib.hid (Blk.new w1' #[.string ⟨#[64, 98, 58, 120]⟩, .int .i64 8, .slice (some ⟨g1, 0, none⟩) 1 1] 25)
  have R2 := Lib.hid (World.ownsRow.alloc hrow1 (.cells #[.string ⟨#[64, 98, 58, 120]⟩, .int .i64 8, .slice (some ⟨g1, 0, none⟩) 1 1] 25))
  have SZ2 := Lib.hid (show w1.heap.size ≤ w1'.heap.size from k2.size)
  clear hrow1 k2
  generalize hw2 : w1'.alloc (.cells #[.string ⟨#[64, 98, 58, 120]⟩, .int .i64 8, .slice (some ⟨g1, 0, none⟩) 1 1] 25) = w2 at *
  obtain ⟨t0, t1, t2, z0, z1, z2⟩ := X2.out.three
  have R3 := Lib.hid (World.ownsRow.alloc (World.ownsRow.alloc R2.out (.cells #[.int .i64 512, .int .i64 3] 3)) (.cells #[.bool true, .int .i64 4, .int .i64 0, .int .i64 2, .bool false, .string ⟨#[]⟩, .slice (some ⟨w2.heap.size, 0, none⟩) 2 2] 31))
  have HNW := news_of_block (cs := #[.bool true, .int .i64 4, .int .i64 0, .int .i64 2, .bool false, .string ⟨#[]⟩, .slice (some ⟨w2.heap.size, 0, none⟩) 2 2]) (t := 31) (heap_alloc_new (w2.alloc (.cells #[.int .i64 512, .int .i64 3] 3)) (.cells #[.bool true, .int .i64 4, .int .i64 0, .int .i64 2, .bool false, .string ⟨#[]⟩, .slice (some ⟨w2.heap.size, 0, none⟩) 2 2] 31))
  simp only [World.size_alloc] at HNW
  have hlt2 : w1'.heap.size < w2.heap.size := blk_lt X2.out
  go_wp2_with (at_builtin; refine wpList_append_own _ rfl (.tmp 25) (.tmp 29) 23 rfl w1.heap.size 31 i z 7 80 Try.underlying23 hi hz hz1 hz2 hzs (by decide) _ _ _ rfl R3.out ⟨w2.heap.size + 1, 0, none⟩ 1 1 [.bool true, .int .i64 4, .int .i64 0, .int .i64 2, .bool false, .string ⟨#[]⟩, .slice (some ⟨w2.heap.size, 0, none⟩) 2 2] rfl rfl ?c1 ?c2 ?c3 ?c4 ?c5 ?_)
  case c1 => exact HNW
  case c2 => simp [Value.oneCell']
  case c3 => decide
  case c4 => decide
  case c5 => have := SZ2.out; simp; omega
  intro v3 w3 hown hgrow hjunk
  clear hjunk
  have hr3 : MsRow w3 w1.heap.size v3 [mm1, mm2 w2.heap.size 512] := hown
  have hX3 : Blk w3 w1'.heap.size #[.string ⟨#[64, 98, 58, 120]⟩, .int .i64 8, .slice (some ⟨g1, 0, none⟩) 1 1] 25 := ((X2.out.alloc _).alloc _).grown R3.out hgrow (by decide)
  have hC3 : Blk w3 w2.heap.size #[.int .i64 512, .int .i64 3] 3 := ((Blk.new w2 #[.int .i64 512, .int .i64 3] 3).alloc _).grown R3.out hgrow (by decide)
  have K3 : Hid (Keeps w w3) := Lib.hid (((K2.out.alloc _).alloc _).grown hgrow (by have := K2.out.size; simp; omega) (fun q hq => Nat.le_trans K1.out.size (World.ownsRow.lt R3.out q hq).1))
  obtain ⟨A3, c3, rfl, -⟩ := SRow.rows msC_size hr3
  obtain ⟨g3, rfl⟩ := MsRow.some_ (n := 2) hr3 (by simp)
  have hxg : w1'.heap.size ≠ g3 := fun e => off_row hr3 hX3 (by decide) (by simp [Value.ownBlock, e])
  have hTW4 : Two (w3.setCell ⟨w1'.heap.size, 2, none⟩ (.slice (some ⟨g3, 0, none⟩) 2 c3)) w1.heap.size w1'.heap.size g3 w2.heap.size c3 [mm1, mm2 w2.heap.size 512] 512 :=
    ⟨hX3.set32 _, (Only.set1 w1'.heap.size 2 w3 _).row_ne hr3 (off_row hr3 hX3 (by decide)), hC3.far (by omega) _ _⟩
  have TW4 := Lib.hid hTW4
  have K4 := Lib.hid (Only.toKeeps K3.out (Only.set1 w1'.heap.size 2 w3 (.slice (some ⟨g3, 0, none⟩) 2 c3)) (by have h1 := K1.out.size; have h2 := SZ2.out; omega))
  have c5 := Lib.hid (two_bytes _ _ _ _ _ _ TW4.out)
  obtain ⟨x0, x1, x2, y0, y1, y2'⟩ := hX3.three
  have HXG := Lib.hid hxg
  have HXC := Lib.hid (show w1'.heap.size ≠ w2.heap.size by omega)
  generalize hX : w1'.heap.size = X at *
  generalize hgc : w2.heap.size = gc at *
  generalize hB : w1.heap.size = B at *
  have u0 := TW4.out.box.three
  obtain ⟨u0, u1, u2, -, -, -⟩ := u0
  clear hown hgrow hr3 hX3 hC3 hxg hTW4 t0 t1 t2 z0 z1 z2 HNW hw2 hX hgc hB hlt2
  go_wp2_with fail
  refine c5.out.mono ?_
  rintro e w5 ⟨rfl, k5⟩
  have TW5 := Lib.hid (TW4.out.keeps k5)
  have K5 := Lib.hid (K4.out.trans k5)
  have cR2 := Lib.hid (read_two w5)
  clear k5 c5 x0 x1 x2 y0 y1 y2' u0 u1 u2
  go_wp2_with fail
  refine cR2.out.mono ?_
  rintro e w6 ⟨A6, c6, ms6, rfl, hst6, hA6, k6⟩
  have TW6 := Lib.hid (TW5.out.keeps (k6.alloc (.cells #[.string ⟨#[64, 98, 58, 120]⟩, .int .i64 8, .slice A6 2 c6] 25)))
  have K6 := Lib.hid ((K5.out.trans k6).alloc (.cells #[.string ⟨#[64, 98, 58, 120]⟩, .int .i64 8, .slice A6 2 c6] 25))
  have T6 := Lib.hid (Blk.new w6 #[.string ⟨#[64, 98, 58, 120]⟩, .int .i64 8, .slice A6 2 c6] 25)
  have HA6 := Lib.hid (hA6.keeps ((Keeps.refl w6).alloc (.cells #[.string ⟨#[64, 98, 58, 120]⟩, .int .i64 8, .slice A6 2 c6] 25)))
  have HS6 := Lib.hid hst6
  clear hst6 hA6 k6 cR2
  generalize hW6 : w6.alloc (.cells #[.string ⟨#[64, 98, 58, 120]⟩, .int .i64 8, .slice A6 2 c6] 25) = W6 at *
  generalize hX6 : w6.heap.size = X6 at *
  go_wp2_with fail
  clear hW6
  refine (cO.out _).mono ?_
  rintro e w7 ⟨A7, c7, ms7, rfl, -, -, ⟨g7, rfl, hg7⟩, rfl, rfl, hrow7, k7⟩
  have KW7 := Lib.hid (((Keeps.refl W6).trans k7).alloc (.cells #[.string ⟨#[64, 98, 58, 120]⟩, .int .i64 8, .slice (some ⟨g7, 0, none⟩) 1 1] 25))
  have T7 := Lib.hid (Blk.new w7 #[.string ⟨#[64, 98, 58, 120]⟩, .int .i64 8, .slice (some ⟨g7, 0, none⟩) 1 1] 25)
  have R7 := Lib.hid (World.ownsRow.alloc hrow7 (.cells #[.string ⟨#[64, 98, 58, 120]⟩, .int .i64 8, .slice (some ⟨g7, 0, none⟩) 1 1] 25))
  have HG7 := Lib.hid hg7
  have SZ7 := Lib.hid k7.size
  clear hrow7 k7
  generalize hW7 : w7.alloc (.cells #[.string ⟨#[64, 98, 58, 120]⟩, .int .i64 8, .slice (some ⟨g7, 0, none⟩) 1 1] 25) = W7 at *
  generalize hX7 : w7.heap.size = X7 at *
  have R7m : MsRow W7 W6.heap.size (.slice (some ⟨g7, 0, none⟩) 1 1) [⟨s1, none, 0⟩] := R7.out
  obtain ⟨cur7, hcur7, -⟩ := R7m.blk
  have hc7' : W7.cell? ⟨g7, 6, none⟩ = some (.slice none 0 0) := row_cell R7m 6 _ rfl
  have hf7' : W7.frozen? ⟨g7, 6, none⟩ = false := hcur7.frozen _
  have hlt7 : g7 < W7.heap.size := blk_lt hcur7
  have hR8 : MsRow (W7.setCell ⟨g7, 6, none⟩ (.slice (some ⟨W7.heap.size, 0, none⟩) 1 1)) W6.heap.size (.slice (some ⟨g7, 0, none⟩) 1 1) [⟨s1x, some ⟨W7.heap.size, 0, none⟩, 1⟩] := R7m.put2 0 (by simp) ⟨s1x, some ⟨W7.heap.size, 0, none⟩, 1⟩ (.slice (some ⟨W7.heap.size, 0, none⟩) 1 1) rfl
  have R8 : Hid (MsRow ((W7.setCell ⟨g7, 6, none⟩ (.slice (some ⟨W7.heap.size, 0, none⟩) 1 1)).alloc (.cells #[.int .i64 1] 3)) W6.heap.size (.slice (some ⟨g7, 0, none⟩) 1 1) [⟨s1x, some ⟨W7.heap.size, 0, none⟩, 1⟩]) := Lib.hid (World.ownsRow.alloc hR8 _)
  have C8 : Hid (Blk ((W7.setCell ⟨g7, 6, none⟩ (.slice (some ⟨W7.heap.size, 0, none⟩) 1 1)).alloc (.cells #[.int .i64 1] 3)) W7.heap.size #[.int .i64 1] 3) := Lib.hid (by
    have h1 := Blk.new (W7.setCell ⟨g7, 6, none⟩ (.slice (some ⟨W7.heap.size, 0, none⟩) 1 1)) #[.int .i64 1] 3
    have e : (W7.setCell ⟨g7, 6, none⟩ (.slice (some ⟨W7.heap.size, 0, none⟩) 1 1)).heap.size = W7.heap.size := by simp
    rw [e] at h1
    exact h1)
  have hx7 : X7 ≠ g7 := fun e => off_row R7m T7.out (by decide) (by simp [Value.ownBlock, e])
  have T8 : Hid (Blk ((W7.setCell ⟨g7, 6, none⟩ (.slice (some ⟨W7.heap.size, 0, none⟩) 1 1)).alloc (.cells #[.int .i64 1] 3)) X7 #[.string ⟨#[64, 98, 58, 120]⟩, .int .i64 8, .slice (some ⟨g7, 0, none⟩) 1 1] 25) := Lib.hid ((T7.out.far hx7 _ _).alloc _)
  have KW8 : Hid (Keeps W6 ((W7.setCell ⟨g7, 6, none⟩ (.slice (some ⟨W7.heap.size, 0, none⟩) 1 1)).alloc (.cells #[.int .i64 1] 3))) := Lib.hid ((Only.toKeeps KW7.out (Only.set1 g7 6 _ _) HG7.out).alloc _)
  have c9 := Lib.hid (one_check g7 W7.heap.size W6.heap.size _ R8.out C8.out)
  obtain ⟨t0, t1, t2, -, -, -⟩ := T7.out.three
  obtain ⟨u0, u1, u2, -, -, -⟩ := T8.out.three
  have hlx7 : X7 < W7.heap.size := blk_lt T7.out
  clear hcur7 hx7 hR8 R7m
  go_wp2_with fail
  clear hW7
  refine c9.out.mono ?_
  rintro e w9 ⟨rfl, k9⟩
  have KW9 := Lib.hid (KW8.out.trans k9)
  have TW9 := Lib.hid (TW6.out.keeps KW9.out)
  clear k9 c9 t0 t1 t2 u0 u1 u2 hc7' hf7' hlt7 hlx7
  obtain ⟨b0, b1', b2', -, -, -⟩ := TW9.out.box.three
  obtain ⟨s0, s1', s2'⟩ := TW9.out.cells
  have TW10 : Hid (Two (w9.setCell ⟨gc, 0, none⟩ (.int .i64 601)) B X g3 gc c3 [mm1, mm2 gc 512] 601) := Lib.hid ⟨TW9.out.box.far HXC.out _ _, (Only.set1 gc 0 w9 _).row_ne TW9.out.row (off_row TW9.out.row TW9.out.cut (by decide)), by
    have h1 := TW9.out.cut.set 0 (.int .i64 601)
    exact h1⟩
  have c11 := Lib.hid (two_check _ _ _ _ _ 601 512 1 2 _ TW10.out chk_x)
  obtain ⟨a0, a1, a2, -, -, -⟩ := TW10.out.box.three
  go_wp2_with fail
  clear b0 b1' b2' s0 s1' s2' a0 a1 a2
  refine c11.out.mono ?_
  rintro e w11 ⟨rfl, k11⟩
  have TW11 := Lib.hid (TW10.out.keeps k11)
  obtain ⟨b0, b1', b2', -, -, -⟩ := TW11.out.box.three
  obtain ⟨s0, s1', s2'⟩ := TW11.out.cells
  have hC12 : Blk (w11.setCell ⟨gc, 0, none⟩ (.int .i64 512)) gc #[.int .i64 512, .int .i64 3] 3 := TW11.out.cut.set 0 (.int .i64 512)
  have KW12 := Lib.hid (Keeps.back TW9.out.cut (Only.set1 gc 0 w9 (.int .i64 601)) k11 (Only.set1 gc 0 w11 (.int .i64 512)) hC12)
  clear k11 hC12 c11
  go_wp2_with fail
  clear b0 b1' b2' s0 s1' s2'
  refine (cRb.out _).mono ?_
  rintro e w13 ⟨rfl, k13⟩
  have K13 := Lib.hid ((KW12.out.trans k13).alloc (.cells #[.string ⟨#[]⟩, .int .i64 0, .slice none 0 0] 25))
  clear k13
  have hy1 : (S y2).size = 30 := y2_len
  have hx1 : (⟨#[120]⟩ : ByteArray).size = 1 := rfl
  go_wp2_with fail
  refine (cRm.out _).mono ?_
  rintro e w14 ⟨rfl, k14⟩
  have K14 := Lib.hid ((K13.out.trans k14).alloc (.cells #[.string ⟨#[]⟩, .int .i64 0, .slice none 0 0] 25))
  clear k14
  go_wp2_with fail
  refine (cRf.out _).mono ?_
  rintro e w15 ⟨rfl, k15⟩
  have K15 := Lib.hid ((K14.out.trans k15).alloc (.cells #[.string ⟨#[]⟩, .int .i64 0, .slice none 0 0] 25))
  clear k15
  go_wp2_with fail
  refine (cI.out _).mono ?_
  rintro e w16 ⟨rfl, k16⟩
  have K16 := Lib.hid (K15.out.trans k16)
  clear k16
  go_wp2_with fail
  refine (cA.out _).mono ?_
  rintro e w17 ⟨rfl, k17⟩
  have K17 := Lib.hid (K16.out.trans k17)
  clear k17 hy1 hx1
  have TW17 := Lib.hid (TW9.out.keeps K17.out)
  have KW17 := Lib.hid (KW9.out.trans K17.out)
  have T17 := Lib.hid (T6.out.keeps KW17.out)
  have cSa := Lib.hid (fun wx (kx : Keeps w17 wx) => two_same _ _ _ _ _ A6 c6 ms6 wx (TW17.out.keeps kx) (HA6.out.keeps (KW17.out.trans kx)) HS6.out)
  have cIn := Lib.hid (fun wx (kx : Keeps w17 wx) => two_inputs _ _ _ _ _ wx (TW17.out.keeps kx))
  have cSb := Lib.hid (fun A cb ms wx (kx : Keeps w17 wx) hA hs => two_other _ _ _ _ _ A cb ms wx (TW17.out.keeps kx) hA hs)
  have KD := Lib.hid ((Keeps.refl w17).drew)
  have KZ := Lib.hid (K6.out.trans KW17.out)
  obtain ⟨b0, b1', b2', -, -, -⟩ := TW17.out.box.three
  obtain ⟨b3, b4, b5, -, -, -⟩ := T17.out.three
  go_wp2_with fail
  clear hi hz hz1 hz2 hzs K1 K2 K3 K4 K5 K6 X2 R2 R3 SZ2 TW4 TW5 TW6 T6 HXG HXC KW7 T7 R7 HG7 SZ7 R8 C8 T8 KW8 KW9 TW9 TW10 TW11 KW12 K13 K14 K15 K16 K17 cV cRb cRm cRf cI cA KW17 T17 TW17
  go_region_held3 (fun w' => w'.cell? ⟨X, 0, none⟩ = some (.string ⟨#[64, 98, 58, 120]⟩) ∧ w'.cell? ⟨X, 1, none⟩ = some (.int .i64 8) ∧ w'.cell? ⟨X, 2, none⟩ = some (.slice (some ⟨g3, 0, none⟩) 2 c3) ∧ w'.cell? ⟨X6, 0, none⟩ = some (.string ⟨#[64, 98, 58, 120]⟩) ∧ w'.cell? ⟨X6, 1, none⟩ = some (.int .i64 8) ∧ w'.cell? ⟨X6, 2, none⟩ = some (.slice A6 2 c6)) (exact ⟨by assumption, by assumption, by assumption, by assumption, by assumption, by assumption⟩)
    (first
      | (go_at_call 13; refine (cSb.out _ _ _ _ Jc.out HAc.out HSc.out).mono ?_; rintro e xd ⟨rfl, kd⟩; have Jd := Lib.hid (Jc.out.trans kd); have o0 := kd.cell r0; have o1 := kd.cell r1; have o2 := kd.cell r2; have o3 := kd.cell r3; have o4 := kd.cell r4; have o5 := kd.cell r5; clear kd)
      | (go_at_call 13; refine (cSa.out _ KD.out).mono ?_; rintro e xa ⟨rfl, ka⟩; have Ja := Lib.hid (KD.out.trans ka); have p0 := ka.cell b0; have p1 := ka.cell b1'; have p2 := ka.cell b2'; have p3 := ka.cell b3; have p4 := ka.cell b4; have p5 := ka.cell b5; clear ka)
      | (go_at_call 14; refine (cIn.out _ Ja.out).mono ?_; rintro e xb ⟨Ab, nb, rfl, kb⟩; have Jb := Lib.hid (Ja.out.trans kb); have q0 := kb.cell p0; have q1 := kb.cell p1; have q2 := kb.cell p2; have q3 := kb.cell p3; have q4 := kb.cell p4; have q5 := kb.cell p5; clear kb)
      | (go_at_call 9; refine (cO.out _).mono ?_; rintro e xc ⟨Ac, nc, msc, rfl, hsc, hAc, -, -, -, -, kc⟩; have Jc := Lib.hid (Jb.out.trans kc); have HSc := Lib.hid hsc; have HAc := Lib.hid hAc; have r0 := kc.cell q0; have r1 := kc.cell q1; have r2 := kc.cell q2; have r3 := kc.cell q3; have r4 := kc.cell q4; have r5 := kc.cell q5; clear kc hsc hAc))
  all_goals go_wp2
  all_goals go_ret
  all_goals exact ⟨rfl, KZ.out.trans Jd.out⟩
end Go.Proofs.Ytpcfcbaapnkanaa
