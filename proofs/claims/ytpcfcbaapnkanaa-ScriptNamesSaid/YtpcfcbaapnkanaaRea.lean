/-
  The contracts of the reader's take, flag and number of package record.
-/
import Derived.Test.YtpcfcbaapnkanaaRow
import Derived.Lib.ConvBytes
import Derived.Lib.IndexBytes
import Derived.Lib.Split
import Derived.Defers
import Derived.Recover
namespace Go.Proofs.Ytpcfcbaapnkanaa
open Go.RowKit

/-- A reader in block g that has this left. -/
def HasRest (w : World) (g : Nat) (s : ByteArray) : Prop := w.cell? ⟨g, 0, none⟩ = some (.string s) ∧ w.frozen? ⟨g, 0, none⟩ = false

/-- A call that gives up by a fault. -/
def Faults (n : Int) (e : Ending) : Prop := e = .panicked [{ v := .iface 105 (.int .i64 n), recovered := false }]

set_option maxHeartbeats 1000000 in
set_option maxRecDepth 10000 in
theorem take_ok (g n : Nat) (s : ByteArray) (w : World) (_hs : s.size ≤ 100000) (hn : n ≤ s.size) (h : HasRest w g s) :
    Calls Try.prog 85 #[.pointer (some ⟨g, 0, none⟩), .int .i64 n] w (fun e w' => e = .returned (.string (s.extract 0 n)) ∧ w' = w.setCell ⟨g, 0, none⟩ (.string (s.extract n s.size))) := by
  obtain ⟨hc, hf⟩ := h
  have c1 : (0 : Int) ≤ n := by omega
  have c2 : (n : Int) ≤ s.size := by omega
  go_enter Try.func85, Try.ntmps85
  go_wp2
  go_ret
  exact ⟨rfl, rfl⟩

set_option maxHeartbeats 1000000 in
set_option maxRecDepth 10000 in
theorem take_short_ (g : Nat) (n : Int) (s : ByteArray) (w : World) (_hs : s.size ≤ 100000) (hn : s.size < n) (h : HasRest w g s) :
    Calls Try.prog 85 #[.pointer (some ⟨g, 0, none⟩), .int .i64 n] w (fun e w' => Faults 3 e ∧ w' = w) := by
  obtain ⟨hc, hf⟩ := h
  go_enter Try.func85, Try.ntmps85
  go_wp2
  exact ⟨rfl, rfl, rfl⟩

theorem S_take (l : List UInt8) (n : Nat) : (S l).extract 0 n = S (l.take n) := by
  apply ByteArray.ext; simp [S]
theorem S_drop (l : List UInt8) (n : Nat) : (S l).extract n (S l).size = S (l.drop n) := by
  have h := Lib.extract_to_end (S l) n
  have e : (S l).data.toList = l := rfl
  rw [e] at h
  apply ByteArray.ext; apply Array.ext'; rw [h]; rfl

theorem take_list (g n : Nat) (l : List UInt8) (w : World) (hs : l.length ≤ 100000) (hn : n ≤ l.length) (h : HasRest w g (S l)) :
    Calls Try.prog 85 #[.pointer (some ⟨g, 0, none⟩), .int .i64 n] w (fun e w' => e = .returned (.string (S (l.take n))) ∧ w' = w.setCell ⟨g, 0, none⟩ (.string (S (l.drop n)))) := by
  have := take_ok g n (S l) w (by rw [S_size]; exact hs) (by rw [S_size]; exact hn) h
  rw [S_take, S_drop] at this
  exact this

set_option maxHeartbeats 1000000 in
set_option maxRecDepth 10000 in
theorem flag_empty (g : Nat) (w : World) (h : HasRest w g ⟨#[]⟩) : Calls Try.prog 87 #[.pointer (some ⟨g, 0, none⟩)] w (fun e w' => Faults 3 e ∧ w' = w) := by
  have cT := Lib.hid (take_short_ g 1 ⟨#[]⟩ w (by decide) (by decide) h)
  clear h
  go_enter Try.func87, Try.ntmps87
  go_wp2_with fail
  refine cT.out.mono ?_
  rintro e w' ⟨rfl, rfl⟩
  exact ⟨rfl, rfl, rfl⟩

set_option maxHeartbeats 1000000 in
set_option maxRecDepth 10000 in
theorem flag_bad (g : Nat) (c : UInt8) (l : List UInt8) (w : World) (hl : l.length ≤ 90000) (hc : 1 < c.toNat) (h : HasRest w g (S (c :: l))) :
    Calls Try.prog 87 #[.pointer (some ⟨g, 0, none⟩)] w (fun e w' => Faults 5 e ∧ w' = w.setCell ⟨g, 0, none⟩ (.string (S l))) := by
  have cT : Hid (Calls Try.prog 85 #[.pointer (some ⟨g, 0, none⟩), .int .i64 1] w (fun e w' => e = .returned (.string ⟨#[c]⟩) ∧ w' = w.setCell ⟨g, 0, none⟩ (.string (S l)))) := take_list g 1 (c :: l) w (by simp; omega) (by simp) h
  clear h
  have hb := c.toNat_lt
  have hix : ∀ h, (⟨#[c]⟩ : ByteArray)[0]'h = c := fun _ => rfl
  go_enter Try.func87, Try.ntmps87
  go_wp2_with fail
  refine cT.out.mono ?_
  rintro e w' ⟨rfl, rfl⟩
  go_wp2
  exact ⟨rfl, rfl, rfl⟩

set_option maxHeartbeats 1000000 in
set_option maxRecDepth 10000 in
theorem flag_ok (g : Nat) (c : UInt8) (l : List UInt8) (w : World) (hl : l.length ≤ 90000) (hc : c.toNat ≤ 1) (h : HasRest w g (S (c :: l))) :
    Calls Try.prog 87 #[.pointer (some ⟨g, 0, none⟩)] w (fun e w' => e = .returned (.bool (c == 1)) ∧ w' = w.setCell ⟨g, 0, none⟩ (.string (S l))) := by
  have cT : Hid (Calls Try.prog 85 #[.pointer (some ⟨g, 0, none⟩), .int .i64 1] w (fun e w' => e = .returned (.string ⟨#[c]⟩) ∧ w' = w.setCell ⟨g, 0, none⟩ (.string (S l)))) := take_list g 1 (c :: l) w (by simp; omega) (by simp) h
  clear h
  rcases (show c = 0 ∨ c = 1 from by
    rcases (show c.toNat = 0 ∨ c.toNat = 1 by omega) with h | h
    · exact Or.inl (UInt8.toNat_inj.1 h)
    · exact Or.inr (UInt8.toNat_inj.1 h)) with rfl | rfl
  all_goals
    go_enter Try.func87, Try.ntmps87
    go_wp2_with fail
    refine cT.out.mono ?_
    rintro e w' ⟨rfl, rfl⟩
    go_wp2
    go_ret
    exact ⟨rfl, rfl⟩

theorem conv_to (s : ByteArray) (w : World) : ∃ W1 cap, (convert 9 48 (.string s)).run Try.prog w = .ok (.slice (some ⟨w.heap.size, 0, none⟩) s.size cap) W1 ∧ RowIs W1 w.heap.size s.data.toList ∧ Keeps w W1 := by
  refine ⟨_, _, Lib.run_convert_string_bytes (P := Try.prog) w 9 48 5 s Try.underlying9 Try.underlying48 Try.underlying5, ?_, ?_⟩
  · intro j hj
    refine ⟨Lib.bytesWorld_cell w 5 s j (by simpa using hj), ?_⟩
    have hz : s.size ≤ (Lib.bytesCells w 5 s).size := by simp [Lib.bytesCells]
    have hj' : j < s.size := by simpa using hj
    simp [World.frozen?, Lib.bytesWorld_at_new]
    omega
  · refine ⟨rfl, rfl, rfl, by rw [Lib.bytesWorld_size]; omega, fun k hk => Lib.bytesWorld_at_old w 5 s k hk⟩

set_option maxHeartbeats 1000000 in
set_option maxRecDepth 10000 in
theorem number_short (g : Nat) (l : List UInt8) (w : World) (hl : l.length < 8) (h : HasRest w g (S l)) : Calls Try.prog 86 #[.pointer (some ⟨g, 0, none⟩)] w (fun e w' => Faults 3 e ∧ w' = w) := by
  have cT := Lib.hid (take_short_ g 8 (S l) w (by rw [S_size]; omega) (by rw [S_size]; omega) h)
  clear h
  go_enter Try.func86, Try.ntmps86
  go_wp2_with fail
  refine cT.out.mono ?_
  rintro e w' ⟨rfl, rfl⟩
  exact ⟨rfl, rfl, rfl⟩

theorem ret_i64 {a b : Int} (h : a = b) : Ending.returned (.int .i64 a) = .returned (.int .i64 b) := by rw [h]

/-- The number that bytes are. -/
def val (l : List UInt8) : Nat := l.foldl (fun a c => a * 256 + c.toNat) 0

theorem val_bound_aux (l : List UInt8) (a m : Nat) (h : a < m) : l.foldl (fun a c => a * 256 + c.toNat) a < m * 256 ^ l.length := by
  induction l generalizing a m with
  | nil => simpa using h
  | cons c l ih =>
    have hc := c.toNat_lt
    have := ih (a * 256 + c.toNat) (m * 256) (by omega)
    simp only [List.foldl_cons, List.length_cons]
    rw [Nat.pow_succ, Nat.mul_comm (256 ^ l.length) 256, ← Nat.mul_assoc]
    exact this
theorem val_bound (l : List UInt8) : val l < 256 ^ l.length := by
  have := val_bound_aux l 0 1 (by omega)
  simpa [val] using this
theorem val_snoc (l : List UInt8) (c : UInt8) : val (l ++ [c]) = val l * 256 + c.toNat := by unfold val; rw [List.foldl_append]; rfl
theorem val_take (t : List UInt8) (j : Nat) (h : j < t.length) : val (t.take (j + 1)) = val (t.take j) * 256 + (t.getD j 0).toNat := by
  rw [List.take_succ_eq_append_getElem h, val_snoc]
  simp [h]
theorem or_add (v : Nat) (c : UInt8) (h : v < 72057594037927936) : bits BinOp.or IntKind.u64 ((v : Int) * 256) (c.toNat : Int) = ((v * 256 + c.toNat : Nat) : Int) := by
  have hc := c.toNat_lt
  have := bits_or_u64_nat (v * 256) c.toNat (by omega) (by omega)
  rw [Int.natCast_mul] at this
  rw [show ((256 : Nat) : Int) = 256 from rfl] at this
  rw [this]
  congr 1
  have h2 := Nat.shiftLeft_add_eq_or_of_lt (i := 8) (b := c.toNat) (by omega) v
  rw [Nat.shiftLeft_eq] at h2
  exact h2.symm

set_option maxHeartbeats 4000000 in
set_option maxRecDepth 10000 in
theorem number_read (g : Nat) (l : List UInt8) (w : World) (hl : l.length ≤ 90000) (h8 : 8 ≤ l.length) (_hg : g < w.heap.size) (h : HasRest w g (S l)) :
    Calls Try.prog 86 #[.pointer (some ⟨g, 0, none⟩)] w (fun e w' => e = .returned (.int .i64 (min (val (l.take 8)) 9223372036854775807 : Nat)) ∧ Keeps (w.setCell ⟨g, 0, none⟩ (.string (S (l.drop 8)))) w') := by
  have cT := Lib.hid (take_list g 8 l w (by omega) h8 h)
  clear h
  have hlen : (l.take 8).length = 8 := by simp; omega
  generalize l.take 8 = t at cT hlen ⊢
  generalize hw1 : w.setCell ⟨g, 0, none⟩ (.string (S (l.drop 8))) = w1 at cT
  obtain ⟨W1, cap, hconv, hrow, hk⟩ := conv_to (S t) w1
  have hsz : (S t).size = 8 := hlen
  rw [hsz] at hconv
  have HK := Lib.hid hk
  have HR : Hid (RowIs W1 w1.heap.size t) := hrow
  have HL := Lib.hid hlen
  have HW1 := Lib.hid hw1
  clear hk hrow hlen hsz hw1
  generalize w1.heap.size = B at hconv HR
  go_enter Try.func86, Try.ntmps86
  go_wp2_with fail
  refine cT.out.mono ?_
  rintro e w' ⟨rfl, rfl⟩
  go_wp2_with fail
  go_loop [3, 10] (fun n x => ∃ j : Nat, j ≤ 8 ∧ x = .int .i64 j ∧ n = .int .u64 (val (t.take j) : Nat)) (fun _ x => 8 - (intOf x).toNat)
  case atStart => exact ⟨0, by omega, rfl, rfl⟩
  case round =>
    obtain ⟨j, hj, rfl, rfl⟩ := hrel
    by_cases hlt : j < 8
    · have hc := (HR.out j (by rw [HL.out]; exact hlt)).1
      have hvt := Lib.hid (val_take t j (by rw [HL.out]; exact hlt))
      have hvb : val (t.take j) < 72057594037927936 := by
        have h1 := val_bound (t.take j)
        have h2 : (t.take j).length ≤ 7 := by rw [List.length_take]; omega
        have h3 : 256 ^ (t.take j).length ≤ 256 ^ 7 := Nat.pow_le_pow_right (by decide) h2
        have h4 : (256 : Nat) ^ 7 = 72057594037927936 := by decide
        omega
      generalize hv : val (t.take j) = v at hvt hvb
      generalize hcc : t.getD j 0 = c at hc hvt
      have hcb := c.toNat_lt
      have ho := Lib.hid (or_add v c hvb)
      clear hcc hv
      go_wp2
      go_round
      case rel => exact ⟨j + 1, by omega, by go_num, by rw [ho.out, hvt.out]⟩
      case measure => simp [intOf]; omega
    · obtain rfl : j = 8 := by omega
      have e : t.take 8 = t := List.take_of_length_le (by rw [HL.out]; exact Nat.le_refl _)
      rw [e]
      have hvb := val_bound t
      rw [HL.out] at hvb
      generalize hv : val t = v at hvb
      have HV := Lib.hid hv
      clear hv
      have hvb' : v < 18446744073709551616 := hvb
      clear hvb e
      go_wp2
      all_goals
        go_ret
        refine ⟨ret_i64 ?_, HK.out⟩
        rw [HV.out]; omega
end Go.Proofs.Ytpcfcbaapnkanaa
