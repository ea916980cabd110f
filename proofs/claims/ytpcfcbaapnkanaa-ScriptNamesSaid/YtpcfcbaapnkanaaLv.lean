/-
  The chapter's example: one, lives.
-/
import Derived.Test.YtpcfcbaapnkanaaRr
namespace Go.Proofs.Ytpcfcbaapnkanaa
open Go.RowKit

def s1 : St := ⟨false, ⟨6, 0, 0, false, []⟩, []⟩
def b1 : List UInt8 := [64, 98, 58, 120]
def y1 : List UInt8 := [4, 64, 98, 58, 120, 0, 8, 0, 1, 0, 0, 1, 6]
theorem scr1_ok : (PS.scrC K0 ⟨b1, 8, [s1]⟩).2 = 0 := by decide +kernel
theorem scr1_bytes : PS.scrB K0 ⟨b1, 8, [s1]⟩ = y1 := by decide +kernel
theorem scr1_read : PS.readS K0 y1 = .ok ⟨b1, 8, [s1]⟩ := by rw [← scr1_bytes]; exact PS.read_scr K0 _ scr1_ok
theorem one_len {ms : List Ms} (h : steps ms = [s1]) : ms.length = 1 := by
  have := congrArg List.length h
  simpa [steps] using this
theorem one_fit {ms : List Ms} (h : steps ms = [s1]) : ∀ m, m ∈ ms → m.s = s1 := fun m hm => by
  have : m.s ∈ steps ms := List.mem_map_of_mem hm
  rw [h] at this
  simpa using this
/-- A script of that kind, made anew. -/
def OneRet (w : World) (e : Ending) (w' : World) : Prop := ∃ A c ms, e = .returned (.agg #[.string ⟨#[64, 98, 58, 120]⟩, .int .i64 8, .slice A 1 c]) ∧ steps ms = [s1] ∧ StepsAt w' A ms ∧ (∃ g, A = some ⟨g, 0, none⟩ ∧ w.heap.size ≤ g) ∧ c = 1 ∧ ms = [⟨s1, none, 0⟩] ∧ MsRow w' w.heap.size (.slice A 1 c) ms ∧ Keeps w w'

theorem m1_row (w : World) (o : Obj) : MsRow ((w.alloc o).alloc (.cells #[.bool false, .int .i64 6, .int .i64 0, .int .i64 0, .bool false, .string ⟨#[]⟩, .slice none 0 0] 31)) w.heap.size (.slice (some ⟨w.heap.size + 1, 0, none⟩) 1 1) [⟨s1, none, 0⟩] := by
  have h := heap_alloc_new (w.alloc o) (.cells #[.bool false, .int .i64 6, .int .i64 0, .int .i64 0, .bool false, .string ⟨#[]⟩, .slice none 0 0] 31)
  rw [World.size_alloc] at h
  refine ⟨rfl, .inr ⟨w.heap.size + 1, 1, #[.bool false, .int .i64 6, .int .i64 0, .int .i64 0, .bool false, .string ⟨#[]⟩, .slice none 0 0], rfl, by omega, h, Nat.le_refl _, by decide, rfl, rfl⟩⟩
set_option maxHeartbeats 2000000 in
set_option maxRecDepth 100000 in
theorem one_any (w : World) : Calls Try.prog 9 #[] w (OneRet w) := by
  have HRow := Lib.hid (m1_row w (.cells #[.string ⟨#[64, 98, 58, 120]⟩, .int .i64 8, .slice (some ⟨w.heap.size + 1, 0, none⟩) 1 1] 25))
  have K := Lib.hid (((Keeps.refl w).alloc (.cells #[.string ⟨#[64, 98, 58, 120]⟩, .int .i64 8, .slice (some ⟨w.heap.size + 1, 0, none⟩) 1 1] 25)).alloc (.cells #[.bool false, .int .i64 6, .int .i64 0, .int .i64 0, .bool false, .string ⟨#[]⟩, .slice none 0 0] 31))
  have HST := Lib.hid (MsRow.stand HRow.out (fun m hm => by
    have e : m = ⟨s1, none, 0⟩ := by simpa using hm
    rw [e]
    exact fun i hi => absurd hi (Nat.not_lt_zero i)))
  go_enter Try.func9, Try.ntmps9
  go_wp2
  exact bodyPost_ret (v := .agg #[.string ⟨#[64, 98, 58, 120]⟩, .int .i64 8, .slice (some ⟨w.heap.size + 1, 0, none⟩) 1 1]) (by simp [results, Try.results9, go_sem]) rfl ⟨_, _, [⟨s1, none, 0⟩], rfl, rfl, HST.out, ⟨_, rfl, by omega⟩, rfl, rfl, HRow.out, K.out⟩
theorem same_one (A B : Option Addr) (ca cb : Nat) (za zb : List Ms) (w : World) (ha : StepsAt w A za) (hb : StepsAt w B zb) (ea : steps za = [s1]) (eb : steps zb = [s1]) :
    Calls Try.prog 13 #[.agg #[.string ⟨#[64, 98, 58, 120]⟩, .int .i64 8, .slice A 1 ca], .agg #[.string ⟨#[64, 98, 58, 120]⟩, .int .i64 8, .slice B 1 cb]] w (Ret (.bool true) w) := by
  have h := same_scr b1 b1 8 8 A B ca cb za zb w ha hb (by rw [one_len ea]; decide) (fun m hm => by rw [one_fit ea m hm]; decide)
  rw [one_len ea, one_len eb, decide_eq_true (show b1 = b1 ∧ (8 : Int) = 8 ∧ steps za = steps zb from ⟨rfl, rfl, by rw [ea, eb]⟩)] at h
  exact h
theorem bytes_one_scr (A : Option Addr) (c : Nat) (ms : List Ms) (w : World) (ha : StepsAt w A ms) (ea : steps ms = [s1]) :
    Calls Try.prog 10 #[.agg #[.string ⟨#[64, 98, 58, 120]⟩, .int .i64 8, .slice A 1 c]] w (Ret (.tuple #[.string (S y1), .int .i64 0]) w) := by
  have h := bytes_scr b1 8 A c ms w ha (by rw [one_len ea]; decide) (by decide) (fun m hm => by rw [MsFit, one_fit ea m hm]; decide) (by rw [ea]; exact scr1_ok)
  have e : scB b1 8 ms = y1 := by unfold scB; rw [ea]; exact scr1_bytes
  rw [one_len ea, e] at h
  exact h
def ReadOne (w : World) (e : Ending) (w' : World) : Prop := ∃ A c ms, e = .returned (.tuple #[.agg #[.string ⟨#[64, 98, 58, 120]⟩, .int .i64 8, .slice A 1 c], .int .i64 0]) ∧ steps ms = [s1] ∧ StepsAt w' A ms ∧ Keeps w w'
theorem read_one (w : World) : Calls Try.prog 11 #[.string (S y1)] w (ReadOne w) := by
  refine (readS_any y1 w (by decide)).mono ?_
  rintro e w' ⟨hk, h⟩
  rw [scr1_read] at h
  obtain ⟨A, c, ms, he, hst, hA⟩ := h
  refine ⟨A, c, ms, ?_, hst, hA, hk⟩
  rw [he, one_len hst]
  rfl

set_option maxHeartbeats 8000000 in
set_option maxRecDepth 100000 in
theorem lives_any (w : World) : Calls Try.prog 8 #[] w (Ret (.bool true) w) := by
  have cO := Lib.hid (fun wx => one_any wx)
  have cB := Lib.hid (fun A c ms wx ha ea => bytes_one_scr A c ms wx ha ea)
  have cR := Lib.hid (fun wx => read_one wx)
  have cS := Lib.hid (fun A B ca cb za zb wx ha hb ea eb => same_one A B ca cb za zb wx ha hb ea eb)
  have hy : S y1 = ⟨#[4, 64, 98, 58, 120, 0, 8, 0, 1, 0, 0, 1, 6]⟩ := rfl
  rw [hy] at cB cR
  clear hy
  go_enter Try.func8, Try.ntmps8
  go_wp2_with fail
  refine (cO.out _).mono ?_
  rintro e w1 ⟨A, c, ms, rfl, hst, hA, -, -, -, -, k1⟩
  have c2 := Lib.hid (cB.out A c ms w1 hA hst)
  have K1 := Lib.hid k1
  clear hst hA k1
  go_wp2_with fail
  refine c2.out.mono ?_
  rintro e w2 ⟨rfl, k2⟩
  have K2 := Lib.hid (K1.out.trans k2)
  clear k2 c2
  go_wp2_with fail
  refine (cR.out _).mono ?_
  rintro e w3 ⟨A2, ca2, ms2, rfl, hst2, hA2, k3⟩
  have K3 := Lib.hid ((K2.out.trans k3).alloc (.cells #[.string ⟨#[64, 98, 58, 120]⟩, .int .i64 8, .slice A2 1 ca2] 25))
  have HA2 := Lib.hid (hA2.keeps ((Keeps.refl w3).alloc (.cells #[.string ⟨#[64, 98, 58, 120]⟩, .int .i64 8, .slice A2 1 ca2] 25)))
  have T3 := Lib.hid (Blk.new w3 #[.string ⟨#[64, 98, 58, 120]⟩, .int .i64 8, .slice A2 1 ca2] 25)
  have HS2 := Lib.hid hst2
  clear k3 hA2 hst2
  generalize hW : w3.alloc (.cells #[.string ⟨#[64, 98, 58, 120]⟩, .int .i64 8, .slice A2 1 ca2] 25) = W at *
  obtain ⟨t0, t1, t2, -, -, -⟩ := T3.out.three
  go_wp2_with fail
  clear hW
  have HWd := Lib.hid ((Keeps.refl W).drew)
  go_region_held3 (fun w' => w'.cell? ⟨w3.heap.size, 0, none⟩ = some (.string ⟨#[64, 98, 58, 120]⟩) ∧ w'.cell? ⟨w3.heap.size, 1, none⟩ = some (.int .i64 8) ∧ w'.cell? ⟨w3.heap.size, 2, none⟩ = some (.slice A2 1 ca2)) (exact ⟨by assumption, by assumption, by assumption⟩)
    (first
      | (go_at_call 9; refine (cO.out _).mono ?_; rintro e w5 ⟨A5, ca5, ms5, rfl, hst5, hA5, -, -, -, -, k5⟩; have HS5 := Lib.hid hst5; have HA5 := Lib.hid hA5; have K5 := Lib.hid (HWd.out.trans k5); have u0 := k5.cell t0; have u1 := k5.cell t1; have u2 := k5.cell t2; clear hst5 hA5 k5)
      | (go_at_call 13; refine (cS.out _ _ _ _ _ _ _ (HA2.out.keeps K5.out) HA5.out HS2.out HS5.out).mono ?_; rintro e w6 ⟨rfl, k6⟩; have K6 := Lib.hid (K5.out.trans k6); have x0 := k6.cell u0; have x1 := k6.cell u1; have x2 := k6.cell u2; clear k6))
  all_goals go_wp2
  all_goals go_ret
  all_goals exact ⟨rfl, K3.out.trans K6.out⟩
end Go.Proofs.Ytpcfcbaapnkanaa
