/-
  Read: a script of bytes, or what is wrong with them.
-/
import Derived.Test.YtpcfcbaapnkanaaRq
namespace Go.Proofs.Ytpcfcbaapnkanaa
open Go.RowKit

theorem assertS_yes (n : Int) (w : World) : (Instr.typeAssert (.iface 52 (.int .i64 n)) 20 52 true).run Try.prog w = .ok (.tuple #[.int .i64 n, .bool true]) w := by kernel_rfl
theorem assertS_no (w : World) : (Instr.typeAssert .nilIface 20 52 true).run Try.prog w = .ok (.tuple #[.int .i64 0, .bool false]) w := by kernel_rfl

set_option maxHeartbeats 1000000 in
set_option maxRecDepth 10000 in
theorem catchS_idle (p q : Addr) (w : World) :
    CallsD Try.prog 26 #[.pointer (some p), .pointer (some q)] .returning w fun e u' w' => e = .returned (.tuple #[]) ∧ u' = .returning ∧ w' = w := by
  refine callsD_of_wpS Try.func26 rfl fun c₀ cs hu => ?_
  apply wpS_seq
  apply wpS_region
  simp [wpOpsS, go_sem, recoverD, hu, Try.ntmps26, Exit.thenS, assertS_no]
  apply wpS_seq
  apply wpS_region
  simp [wpOpsS, go_sem, hu, Try.ntmps26, Exit.thenS]
  refine wpS_cond (t := false) (by simp [Act.eval, Array.replicate]) ?_
  simp only [Bool.false_eq_true, if_false]
  refine wpS_of_wp (wp_skip ?_)
  cases c₀
  simp_all [bodyPostS, results, Try.results26]

set_option maxHeartbeats 1000000 in
set_option maxRecDepth 10000 in
theorem catchS_panicking (g : Nat) (x0 x1 x2 y : Value) (n : Int) (w : World) (h : w.cell? ⟨g, 0, none⟩ = some x0) (h1 : w.cell? ⟨g, 1, none⟩ = some x1) (h2 : w.cell? ⟨g, 2, none⟩ = some x2)
    (f0 : w.frozen? ⟨g, 0, none⟩ = false) (f1 : w.frozen? ⟨g, 1, none⟩ = false) (f2 : w.frozen? ⟨g, 2, none⟩ = false)
    (hy : w.cell? ⟨g + 1, 0, none⟩ = some y) (fy : w.frozen? ⟨g + 1, 0, none⟩ = false) :
    CallsD Try.prog 26 #[.pointer (some ⟨g, 0, none⟩), .pointer (some ⟨g + 1, 0, none⟩)] (.panicking [{ v := .iface 52 (.int .i64 n), recovered := false }]) w fun e u' w' =>
      e = .returned (.tuple #[]) ∧ u' = .panicking [{ v := .iface 52 (.int .i64 n), recovered := true }] ∧
      w' = (((w.setCell ⟨g, 0, none⟩ (.string ⟨#[]⟩)).setCell ⟨g, 1, none⟩ (.int .i64 0)).setCell ⟨g, 2, none⟩ (.slice none 0 0)).setCell ⟨g + 1, 0, none⟩ (.int .i64 n) := by
  refine callsD_of_wpS Try.func26 rfl fun c₀ cs hu => ?_
  apply wpS_seq
  apply wpS_region
  simp [wpOpsS, go_sem, recoverD, hu, Try.ntmps26, Exit.thenS, assertS_yes]
  apply wpS_seq
  apply wpS_region
  simp [wpOpsS, go_sem, hu, Try.ntmps26, Exit.thenS]
  refine wpS_cond (t := true) (by simp [Act.eval, Array.replicate]) ?_
  simp only [if_true]
  apply wpS_region
  simp [wpOpsS, go_sem, h, h1, h2, f0, f1, f2, hy, fy, bodyPostS, results, Try.results26]

/-- What Read answers. -/
def ReadsS (l : List UInt8) (w : World) (e : Ending) (w' : World) : Prop :=
  Keeps w w' ∧ match PS.readS K0 l with
  | .error n => e = .returned (.tuple #[.agg (scC [] 0 none 0 0), .int .i64 n])
  | .ok s => ∃ A c ms, e = .returned (.tuple #[.agg (scC s.bot s.secs A (List.length ms) c), .int .i64 0]) ∧ steps ms = s.steps ∧ StepsAt w' A ms

theorem MsRow.stand {w : World} {B : Nat} {A : Option Addr} {n c : Nat} {l : List Ms} (h : MsRow w B (.slice A n c) l) (ho : ∀ m, m ∈ l → MsOk w m) : StepsAt w A l := by
  obtain ⟨A2, c2, e2, h2⟩ := MsRow.steps h ho
  injection e2 with e2 _ _
  rw [e2]
  exact h2
theorem readS_err {l : List UInt8} {n : Int} (h : scrP l = .error n) : PS.readS K0 l = .error n := by
  unfold scrP at h
  unfold PS.readS
  cases h0 : PS.scrR K0 l with
  | error e =>
    rw [h0] at h
    simp only at h ⊢
    injection h with h
    rw [h]
  | ok q =>
    obtain ⟨s, r⟩ := q
    rw [h0] at h
    simp only at h ⊢
    by_cases hr : r ≠ []
    · rw [if_pos hr] at h ⊢
      injection h with h
      rw [h]
    · rw [if_neg hr] at h
      cases h
theorem scrP_back {l r : List UInt8} {s : Sc} (h : scrP l = .ok (s, r)) : PS.scrR K0 l = .ok (s, []) ∧ r = [] := by
  unfold scrP at h
  cases h0 : PS.scrR K0 l with
  | error e => rw [h0] at h; cases h
  | ok q =>
    obtain ⟨s2, r2⟩ := q
    rw [h0] at h
    simp only at h
    by_cases hr : r2 ≠ []
    · rw [if_pos hr] at h; cases h
    · rw [if_neg hr] at h
      injection h with h
      injection h with h1 h2
      obtain rfl : r2 = [] := by simpa using hr
      subst h1 h2
      exact ⟨rfl, rfl⟩
theorem readS_of {l r : List UInt8} {s : Sc} (h : scrP l = .ok (s, r)) : PS.readS K0 l = if (PS.scrC K0 s).2 ≠ 0 then .error (PS.scrC K0 s).2 else .ok s := by
  unfold PS.readS
  rw [(scrP_back h).1]
  simp
theorem PS.step_fit {l r : List UInt8} {s : St} (h : PS.stepR K0 l = .ok (s, r)) : s.inp.chk = 0 ∧ s.cuts.length < 256 := by
  obtain ⟨c, m, h1, h2⟩ := PS.bind_ok h
  split at h2
  · cases h2
  · obtain ⟨n, m2, h3, h4⟩ := PS.bind_ok h2
    obtain ⟨t, m3, h5, h6⟩ := PS.bind_ok h4
    obtain ⟨x, m4, h7, h8⟩ := PS.bind_ok h6
    have hx := (PS.rec_back K0 h7).2.2
    split at h8
    · obtain ⟨y, m5, h9, h10⟩ := PS.bind_ok h8
      injection h10 with h10
      injection h10 with h11 h12
      subst h11
      obtain ⟨k, m6, h13, h14⟩ := PS.bind_ok h9
      obtain ⟨ys, m7, h15, h16⟩ := PS.bind_ok h14
      injection h16 with h16
      injection h16 with h17 h18
      subst h17
      have hl := (PS.list_back PS.numR PS.num2 (fun _ => True) (fun l a r h => ⟨(PS.num_back h).1, trivial⟩) k _ _ _ h15).2.1
      exact ⟨hx, by simp only [List.length_map]; rw [hl]; exact (PS.byte_back h13).2⟩
    · injection h8 with h8
      injection h8 with h11 h12
      subst h11
      exact ⟨hx, by simp⟩
theorem PS.scr_fit {l r : List UInt8} {s : Sc} (h : PS.scrR K0 l = .ok (s, r)) : s.bot.length < 256 ∧ s.steps.length < 65536 ∧ ∀ t, t ∈ s.steps → t.inp.chk = 0 ∧ t.cuts.length < 256 := by
  obtain ⟨n, m, h1, h2⟩ := PS.bind_ok h
  obtain ⟨b, m2, h3, h4⟩ := PS.bind_ok h2
  obtain ⟨q, m3, h5, h6⟩ := PS.bind_ok h4
  obtain ⟨k, m4, h7, h8⟩ := PS.bind_ok h6
  obtain ⟨y, m5, h9, h10⟩ := PS.bind_ok h8
  injection h10 with h10
  injection h10 with h11 h12
  subst h11
  have hb := (PS.take_back h3).2
  have hn := (PS.byte_back h1).2
  have hk := (PS.num_back h7).2
  obtain ⟨_, hl, hok⟩ := PS.list_back (PS.stepR K0) (PS.stepB K0) (fun s => s.inp.chk = 0 ∧ s.cuts.length < 256) (fun l a r h => ⟨PS.step_back K0 h, PS.step_fit h⟩) k _ _ _ h9
  exact ⟨by simp only; omega, by simp only; omega, hok⟩

/-- The world in which the reader works. -/
def insideS (w : World) (s : ByteArray) : World := ((w.alloc (.cells #[.string ⟨#[]⟩, .int .i64 0, .slice none 0 0] 25)).alloc (.cells #[.int .i64 0] 32)).alloc (.cells #[.string s] 56)
theorem insideS_rest (w : World) (s : ByteArray) : HasRest (insideS w s) (w.heap.size + 1 + 1) s :=
  ⟨World.cell?_alloc_at _ _ _ _ (by simp), World.frozen?_alloc_at _ _ _ _ (by simp)⟩
theorem insideS_own (w : World) (s : ByteArray) : Blk (insideS w s) w.heap.size #[.string ⟨#[]⟩, .int .i64 0, .slice none 0 0] 25 := ((Blk.new w #[.string ⟨#[]⟩, .int .i64 0, .slice none 0 0] 25).alloc _).alloc _
theorem insideS_err (w : World) (s : ByteArray) : Blk (insideS w s) (w.heap.size + 1) #[.int .i64 0] 32 := by
  have h := (Blk.new (w.alloc (.cells #[.string ⟨#[]⟩, .int .i64 0, .slice none 0 0] 25)) #[.int .i64 0] 32).alloc (.cells #[.string s] 56)
  have e : (w.alloc (.cells #[.string ⟨#[]⟩, .int .i64 0, .slice none 0 0] 25)).heap.size = w.heap.size + 1 := by simp
  rw [e] at h
  exact h
theorem insideS_keeps (w : World) (s : ByteArray) : Keeps w (insideS w s) := (((Keeps.refl _).alloc _).alloc _).alloc _
theorem Only.toKeeps {g : Nat} {a b c : World} (h : Keeps a b) (k : Only g b c) (hg : a.heap.size ≤ g) : Keeps a c :=
  ⟨k.os.trans h.os, k.tape.trans h.tape, k.output.trans h.output, Nat.le_trans h.size k.size, fun i hi => (k.block i (Nat.lt_of_lt_of_le hi h.size) (by omega)).trans (h.block i hi)⟩

set_option maxHeartbeats 2000000 in
set_option maxRecDepth 10000 in
/-- Behind the closure that caught a fault. -/
theorem caughtS (w w2 : World) (a0 a1 a2 y : Value) (n : Int) (l : List UInt8) (hB : Keeps w w2) (hO : Blk w2 w.heap.size #[a0, a1, a2] 25) (hE : Blk w2 (w.heap.size + 1) #[y] 32) (hL : Hid (PS.readS K0 l = .error n)) (x0 x1 x4 x5 x6 x7 x8 x9 x10 x11 x12 x13 x14 x15 x16 x17 x18 x19 x20 x21 x22 : Value) :
    bodyPostD Try.prog Try.f11 (ReadsS l w) (Exit.panic [{ v := .iface 52 (.int .i64 n), recovered := false }]) { tmps := #[x0, x1, .pointer (some ⟨w.heap.size, 0, none⟩), .pointer (some ⟨w.heap.size + 1, 0, none⟩), x4, x5, x6, x7, x8, x9, x10, x11, x12, x13, x14, x15, x16, x17, x18, x19, x20, x21, x22], defers := [{ target := Target.fn (Fn.func 26) #[.pointer (some ⟨w.heap.size, 0, none⟩), .pointer (some ⟨w.heap.size + 1, 0, none⟩)], args := #[] }] } w2 := by
  obtain ⟨c0, c1, c2, f0, f1, f2⟩ := hO.three
  have e0 := hE.cell (j := 0) (v := y) rfl
  have e1 := hE.frozen 0
  have hO2 := (hO.sets3 (.string ⟨#[]⟩) (.int .i64 0) (.slice none 0 0)).far (r := w.heap.size + 1) (by omega) 0 (.int .i64 n)
  have hE2 := (((hE.far (r := w.heap.size) (by omega) 0 (.string ⟨#[]⟩)).far (r := w.heap.size) (by omega) 1 (.int .i64 0)).far (r := w.heap.size) (by omega) 2 (.slice none 0 0)).set 0 (.int .i64 n)
  have hK := Only.toKeeps (Only.toKeeps hB (Only.sets3 w.heap.size w2 (.string ⟨#[]⟩) (.int .i64 0) (.slice none 0 0)) (Nat.le_refl _)) (Only.set1 (w.heap.size + 1) 0 _ (.int .i64 n)) (by omega)
  obtain ⟨d0, d1, d2, -, -, -⟩ := hO2.three
  have d3 := hE2.cell (j := 0) (v := .int .i64 n) (by simp)
  clear hO hE hO2 hE2
  refine leaves_cons (f := 26) (args := #[.pointer (some ⟨w.heap.size, 0, none⟩), .pointer (some ⟨w.heap.size + 1, 0, none⟩)]) (by simp) (by simp [go_sem]) ?_
  refine (catchS_panicking w.heap.size _ _ _ _ n w2 c0 c1 c2 f0 f1 f2 e0 e1).mono ?_
  rintro e u' w'' ⟨rfl, rfl, rfl⟩
  clear c0 c1 c2 f0 f1 f2 e0 e1
  generalize (((w2.setCell ⟨w.heap.size, 0, none⟩ (.string ⟨#[]⟩)).setCell ⟨w.heap.size, 1, none⟩ (.int .i64 0)).setCell ⟨w.heap.size, 2, none⟩ (.slice none 0 0)).setCell ⟨w.heap.size + 1, 0, none⟩ (.int .i64 n) = W at *
  simp [Leaves, settle, results, Try.results11, go_sem, d0, d1, d2, d3]
  refine ⟨hK, ?_⟩
  rw [hL.out]
  rfl

set_option maxHeartbeats 4000000 in
set_option maxRecDepth 100000 in
theorem readS_any (l : List UInt8) (w : World) (hl : l.length ≤ 6000000) : Calls Try.prog 11 #[.string (S l)] w (ReadsS l w) := by
  have hmf : ∀ (fn : Fn) (first cap : Array Value) (w : World), (Instr.makeFunc fn first cap).run Try.prog w = .ok (.func fn first cap) w := fun _ _ _ _ => rfl
  have cI := Lib.hid (script_any (w.heap.size + 1 + 1) l (insideS w (S l)) hl (insideS_rest w (S l)))
  have O := Lib.hid (insideS_own w (S l))
  have E := Lib.hid (insideS_err w (S l))
  have K := Lib.hid (insideS_keeps w (S l))
  have SZ := Lib.hid (show (insideS w (S l)).heap.size = w.heap.size + 1 + 1 + 1 from by simp [insideS])
  generalize hs : S l = s at *
  unfold insideS at *
  clear hs
  go_enter_defers Try.func11, Try.ntmps11
  go_wp2_with fail
  refine cI.out.mono ?_
  rintro e w2 hR
  cases hp : scrP l with
  | error n =>
    obtain ⟨ho, rfl⟩ := Rds.of_error hp hR
    have HL : Hid (PS.readS K0 l = .error n) := Lib.hid (readS_err hp)
    have hO := O.out.only ho (by omega)
    have hE := E.out.only ho (by omega)
    have hB : Keeps w w2 := Only.toKeeps K.out ho (by omega)
    clear cI O E K ho hR hp
    go_wp2_with fail
    exact caughtS w w2 _ _ _ _ n l hB hO hE HL _ _ _ _ _ _ _ _ _ _ _ _ _ _ _ _ _ _ _ _ _
  | ok q =>
    obtain ⟨sc, r⟩ := q
    obtain ⟨ho, v, rfl, ⟨A, cc, ms, rfl, hst, hrow, hmo⟩, hr⟩ := Rds.of_ok hp hR
    have HQ := Lib.hid (readS_of hp)
    obtain ⟨hf1, hf2, hf3⟩ := PS.scr_fit (scrP_back hp).1
    have hsl : ms.length = sc.steps.length := by rw [← hst]; simp [steps]
    have hfit : ∀ m, m ∈ ms → MsFit m := fun m hm => by
      have h0 := hf3 m.s (by rw [← hst]; exact List.mem_map_of_mem hm)
      have h1 := chk_len h0.1
      exact ⟨by unfold maxLen; omega, by unfold maxLen; omega⟩
    have hml : ms.length ≤ maxLen := by unfold maxLen; omega
    have hbl : sc.bot.length ≤ maxLen := by unfold maxLen; omega
    have O2 := Lib.hid (O.out.only ho (by omega))
    have E2 := Lib.hid (E.out.only ho (by omega))
    have K2 := Lib.hid (Only.toKeeps K.out ho (by omega))
    have hsz2 : w.heap.size + 1 < w2.heap.size := blk_lt E2.out
    have hszo := SZ.out
    have hsteps : StepsAt w2 A ms := MsRow.stand hrow (fun m hm => (hmo m hm).ok)
    have HRow := Lib.hid hrow
    have HMo := Lib.hid hmo
    -- behind the store into the result
    have O3 := Lib.hid (O2.out.sets3 (.string (S sc.bot)) (.int .i64 sc.secs) (.slice A ms.length cc))
    have E3 := Lib.hid (((E2.out.far (r := w.heap.size) (by omega) 0 (.string (S sc.bot))).far (r := w.heap.size) (by omega) 1 (.int .i64 sc.secs)).far (r := w.heap.size) (by omega) 2 (.slice A ms.length cc))
    have K3 := Lib.hid (Only.toKeeps K2.out (Only.sets3 w.heap.size w2 (.string (S sc.bot)) (.int .i64 sc.secs) (.slice A ms.length cc)) (Nat.le_refl _))
    have HRow3 := Lib.hid ((Only.sets3 w.heap.size w2 (.string (S sc.bot)) (.int .i64 sc.secs) (.slice A ms.length cc)).row hrow (by rw [hszo]; omega))
    have HMo3 : Hid (∀ m, m ∈ ms → MsOwn (((w2.setCell ⟨w.heap.size, 0, none⟩ (.string (S sc.bot))).setCell ⟨w.heap.size, 1, none⟩ (.int .i64 sc.secs)).setCell ⟨w.heap.size, 2, none⟩ (.slice A ms.length cc)) _ m) := Lib.hid (fun m hm => (Only.sets3 w.heap.size w2 (.string (S sc.bot)) (.int .i64 sc.secs) (.slice A ms.length cc)).row (hmo m hm) (by rw [hszo]; omega))
    have HST3 : Hid (StepsAt (((w2.setCell ⟨w.heap.size, 0, none⟩ (.string (S sc.bot))).setCell ⟨w.heap.size, 1, none⟩ (.int .i64 sc.secs)).setCell ⟨w.heap.size, 2, none⟩ (.slice A ms.length cc)) A ms) := Lib.hid (MsRow.stand HRow3.out (fun m hm => (HMo3.out m hm).ok))
    have cC := Lib.hid (check_scr sc.bot sc.secs A cc ms _ HST3.out hml hbl hfit)
    have hscs : (⟨sc.bot, sc.secs, steps ms⟩ : Sc) = sc := by rw [hst]
    rw [hscs] at cC
    have HSTP := Lib.hid hst
    obtain ⟨t0, t1, t2, z0, z1, z2⟩ := O2.out.three
    clear cI O E K ho hR hp hrow hmo hsteps hfit hf1 hf2 hf3 hml hbl hscs hst hsl hr HRow HMo O2 E2
    unfold retC at cC
    unfold scC at cC ⊢
    generalize hq2 : (PS.scrC K0 sc).2 = r2 at *
    generalize (PS.scrC K0 sc).1 = r1 at *
    clear hq2
    generalize hnl : ms.length = nl at *
    have HNL := Lib.hid hnl
    clear hnl
    go_wp2_with fail
    clear t0 t1 t2 z0 z1 z2
    refine cC.out.mono ?_
    rintro e w3 ⟨rfl, k3⟩
    have O4 := Lib.hid (O3.out.keeps k3)
    have E4 := Lib.hid (E3.out.keeps k3)
    have K4 := Lib.hid (K3.out.trans k3)
    have HST4 := Lib.hid (HST3.out.keeps k3)
    have HRow4 := Lib.hid (k3.row HRow3.out)
    have HMo4 : Hid (∀ m, m ∈ ms → MsOwn w3 _ m) := Lib.hid (fun m hm => k3.row (HMo3.out m hm))
    clear k3 cC O3 E3 K3 HST3 HRow3 HMo3
    by_cases hr2 : r2 = 0
    · subst hr2
      have HL : Hid (PS.readS K0 l = .ok sc) := Lib.hid (by rw [HQ.out, if_neg (by simp)])
      obtain ⟨t0, t1, t2, z0, z1, z2⟩ := O4.out.three
      have y0 := E4.out.cell (j := 0) (v := .int .i64 0) rfl
      have y1 := E4.out.frozen 0
      have O5 := O4.out.sets3 (.string (S sc.bot)) (.int .i64 sc.secs) (.slice A nl cc)
      have E5 := ((E4.out.far (r := w.heap.size) (by omega) 0 (.string (S sc.bot))).far (r := w.heap.size) (by omega) 1 (.int .i64 sc.secs)).far (r := w.heap.size) (by omega) 2 (.slice A nl cc)
      have y2 := E5.cell (j := 0) (v := .int .i64 0) rfl
      have y3 := E5.frozen 0
      have O6 := O5.far (r := w.heap.size + 1) (by omega) 0 (.int .i64 0)
      have E6 := E5.set 0 (.int .i64 0)
      have K6 := Only.toKeeps (Only.toKeeps K4.out (Only.sets3 w.heap.size w3 (.string (S sc.bot)) (.int .i64 sc.secs) (.slice A nl cc)) (Nat.le_refl _)) (Only.set1 (w.heap.size + 1) 0 _ (.int .i64 0)) (by omega)
      have RW6 := (Only.set1 (w.heap.size + 1) 0 _ (.int .i64 0)).row ((Only.sets3 w.heap.size w3 (.string (S sc.bot)) (.int .i64 sc.secs) (.slice A nl cc)).row HRow4.out (by rw [hszo]; omega)) (by rw [hszo]; omega)
      have MO6 : ∀ m, m ∈ ms → MsOwn _ _ m := fun m hm => (Only.set1 (w.heap.size + 1) 0 _ (.int .i64 0)).row ((Only.sets3 w.heap.size w3 (.string (S sc.bot)) (.int .i64 sc.secs) (.slice A nl cc)).row (HMo4.out m hm) (by rw [hszo]; omega)) (by rw [hszo]; omega)
      have D := Lib.hid (And.intro O6 (And.intro E6 (And.intro K6 (And.intro RW6 MO6))))
      clear O5 E5 O6 E6 K6 RW6 MO6
      go_wp2_with fail
      refine leaves_cons (f := 26) (args := #[.pointer (some ⟨w.heap.size, 0, none⟩), .pointer (some ⟨w.heap.size + 1, 0, none⟩)]) (by simp) (by simp [go_sem]) ?_
      refine (catchS_idle ⟨w.heap.size, 0, none⟩ ⟨w.heap.size + 1, 0, none⟩ _).mono ?_
      rintro e u' w'' ⟨rfl, rfl, rfl⟩
      obtain ⟨O6, E6, K6, RW6, MO6⟩ := D.out
      obtain ⟨d0, d1, d2, -, -, -⟩ := O6.three
      have d3 := E6.cell (j := 0) (v := .int .i64 0) (by simp)
      clear t0 t1 t2 z0 z1 z2 y0 y1 y2 y3 D
      generalize (((w3.setCell ⟨w.heap.size, 0, none⟩ (.string (S sc.bot))).setCell ⟨w.heap.size, 1, none⟩ (.int .i64 sc.secs)).setCell ⟨w.heap.size, 2, none⟩ (.slice A nl cc)).setCell ⟨w.heap.size + 1, 0, none⟩ (.int .i64 0) = W at *
      simp [Leaves, settle, results, Try.results11, go_sem, d0, d1, d2, d3]
      refine ⟨K6, ?_⟩
      rw [HL.out]
      refine ⟨A, cc, ms, ?_, HSTP.out, ?_⟩
      · unfold scC
        rw [HNL.out]
      · rw [← HNL.out] at RW6
        exact MsRow.stand RW6 (fun m hm => (MO6 m hm).ok)
    · have HL : Hid (PS.readS K0 l = .error r2) := Lib.hid (by rw [HQ.out, if_pos hr2])
      have f0 : (r2 != 0) = true := by simpa using hr2
      go_wp2_with fail
      exact caughtS w w3 _ _ _ _ r2 l K4.out O4.out E4.out HL _ _ _ _ _ _ _ _ _ _ _ _ _ _ _ _ _ _ _ _ _
end Go.Proofs.Ytpcfcbaapnkanaa
