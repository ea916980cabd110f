/-
  The document's own Quote of package scan.
-/
import Derived.Test.YtbhgfdgdbbfeoaaDoorRfg
import Derived.Lib.SmallJoins
import Derived.Laws.OwnMore
namespace Go.Proofs.YtbhgfdgdbbfeoaaDoor
open Go.RowKit

def bvq (l : List UInt8) : List Value := l.map fun c => .int .u8 (c.toNat : Int)
def Owns (w : World) (B : Nat) (v : Value) (l : List UInt8) : Prop := w.ownsRow B 5 1 v l.length (bvq l)
theorem Owns.keeps {w w' : World} {B : Nat} {v : Value} {l : List UInt8} (h : Owns w B v l) (k : Keeps w w') : Owns w' B v l := own_keeps h k
theorem Owns.more {w' : World} {B : Nat} {v' : Value} {l t : List UInt8} (h : w'.ownsRow B 5 1 v' (l.length + (S t).size) (bvq l ++ Lib.strCells (S t))) : Owns w' B v' (l ++ t) := by
  unfold Owns
  have e1 : bvq l ++ Lib.strCells (S t) = bvq (l ++ t) := by simp [bvq, Lib.strCells, S]
  have e2 : l.length + (S t).size = (l ++ t).length := by simp [S_size]
  rw [e1, e2] at h
  exact h
theorem Owns.one {w' : World} {B : Nat} {v' : Value} {l : List UInt8} {c : UInt8} (h : w'.ownsRow B 5 1 v' (l.length + 1) (bvq l ++ [.int .u8 (c.toNat : Int)])) : Owns w' B v' (l ++ [c]) := by
  unfold Owns
  have e1 : bvq l ++ [.int .u8 (c.toNat : Int)] = bvq (l ++ [c]) := by simp [bvq]
  have e2 : l.length + 1 = (l ++ [c]).length := by simp
  rw [e1, e2] at h
  exact h
theorem Owns.lit (w : World) (c : UInt8) : Owns (w.alloc (.cells #[.int .u8 (c.toNat : Int)] 5)) w.heap.size (.slice (some ⟨w.heap.size, 0, none⟩) 1 1) [c] :=
  World.ownsRow_lit (base := w.heap.size) (e := 5) (size := 1) w #[.int .u8 (c.toNat : Int)] 1 (Nat.le_refl _) (by unfold maxLen; omega) rfl
theorem conv_own {w : World} {B : Nat} {v : Value} {l : List UInt8} (h : Owns w B v l) (hl : 0 < l.length) : (convert 44 9 v).run Tryd.prog w = .ok (.string (S l)) w := by
  rcases Go.Joins.ownsRow_forms h with ⟨rfl, h0⟩ | ⟨g, cap, rfl⟩
  · omega
  · refine run_convert_bytes_back (P := Tryd.prog) w 44 9 5 ⟨g, 0, none⟩ cap l Tryd.underlying44 Tryd.underlying5 Tryd.underlying9 ?_
    intro j hj
    have ea : (⟨g, 0, none⟩ : Addr).add j = ⟨g, j, none⟩ := by
      unfold Addr.add; split <;> simp_all
    rw [ea, World.ownsRow.cellAt h j (by omega)]
    simp [bvq, hj, List.getD]
theorem cell_one (w : World) (x : Int) : ∀ j u, ([Value.int .u8 x] : List Value)[j]? = some u → (w.alloc (.cells #[.int .u8 x] 5)).cell? ((⟨w.heap.size, 0, none⟩ : Addr).add j) = some u := by
  intro j u hj
  match j, hj with
  | 0, hj => simp at hj; subst hj; simp [Addr.add]
theorem one_cell (y : Int) : ∀ u ∈ ([Value.int .u8 y] : List Value), u.oneCell' = true := by intro u hu; simp at hu; subst hu; rfl

theorem flat_step (l : List UInt8) (k : Nat) (c : UInt8) (h : l.drop k = c :: l.drop (k + 1)) : (l.take k).flatMap told ++ told c = (l.take (k + 1)).flatMap told := by
  have hk : l[k]? = some c := by rw [← List.head?_drop, h]; rfl
  rw [List.take_add_one, hk]; simp

set_option maxHeartbeats 8000000 in
set_option maxRecDepth 100000 in
theorem rquo_any (s : ByteArray) (w : World) (hs : s.size ≤ 100000) : Calls Tryd.prog 16 #[.string s] w (RetT (quoR s.data.toList) w) := by
  have hsl : s.data.toList.length = s.size := by simp
  have cV := Lib.hid (fun w1 => rvalid_any s w1 (by omega))
  unfold quoR
  cases hv : validL s.data.toList
  · rw [if_neg (by decide)]
    rw [hv] at cV
    clear hsl hv
    go_enter Tryd.func16, Tryd.ntmps16
    go_wp2_with fail
    refine (cV.out _).mono ?_
    rintro e w2 ⟨rfl, k2⟩
    go_wp2
    go_ret2
    exact RetT.of rfl rfl k2
  rw [if_pos rfl]
  rw [hv] at cV
  clear hv
  obtain ⟨i0, hi, hz0, hz1, hz2⟩ := info_parts infoByte
  have HL : Hid (∀ a, ([34] ++ (s.data.toList.take a).flatMap told).length ≤ 600001) := Lib.hid (fun a => by
    have h1 := flat_told_len (s.data.toList.take a)
    have h2 : (s.data.toList.take a).length ≤ s.data.toList.length := by rw [List.length_take]; omega
    simp only [List.length_append, List.length_cons, List.length_nil]
    omega)
  have HA := Lib.hid (fun k (hk : k < s.size) => drop_at s k hk)
  have HS : Hid (∀ k (hk : k < s.size), ([34] ++ (s.data.toList.take k).flatMap told) ++ told (s[k]'hk) = [34] ++ (s.data.toList.take (k + 1)).flatMap told) := Lib.hid (fun k hk => by rw [List.append_assoc, flat_step _ _ _ (drop_at s k hk)])
  have HQ : Hid ([34] ++ (s.data.toList.take s.size).flatMap told ++ [34] = quoteL s.data.toList) := Lib.hid (by rw [List.take_of_length_le (by omega)]; simp [quoteL])
  have cT := Lib.hid (fun c w1 => rtold_any c w1)
  generalize quoteL s.data.toList = q at *
  generalize s.data.toList = l at *
  clear hsl
  go_enter Tryd.func16, Tryd.ntmps16
  go_wp2_with fail
  refine (cV.out _).mono ?_
  rintro e w1 ⟨rfl, k1⟩
  have K1 := Lib.hid k1
  clear k1
  have H0 : Hid (Owns (w1.alloc (.cells #[.int .u8 34] 5)) w1.heap.size (.slice (some ⟨w1.heap.size, 0, none⟩) 1 1) ([34] ++ (l.take 0).flatMap told)) := Lib.hid (Owns.lit w1 34)
  go_wp2
  go_loopw [4, 5] (fun v i wr => ∃ k : Nat, k ≤ s.size ∧ i = .int .i64 (k : Int) ∧ Hid (Owns wr w1.heap.size v ([34] ++ (l.take k).flatMap told) ∧ Keeps w1 wr)) (fun _ i _ => s.size - (intOf i).toNat)
  case atStart => exact ⟨0, Nat.zero_le _, rfl, Lib.hid ⟨H0.out, (Keeps.refl _).alloc _⟩⟩
  case round =>
    obtain ⟨k, hk, rfl, hr⟩ := hrel
    by_cases hlt : k < s.size
    · have cT1 := Lib.hid (fun w2 => cT.out (s[k]'hlt) w2)
      go_wp2_with fail
      refine (cT1.out _).mono ?_
      rintro e w2 ⟨rfl, k2⟩
      have hown := hr.out.1.keeps k2
      have HK2 := Lib.hid (hr.out.2.trans k2)
      have hlen := HL.out k
      have hlen2 : (told (s[k]'hlt)).length ≤ 6 := toldN_len _
      have hsk := HS.out k hlt
      clear k2 hr
      generalize [34] ++ (l.take k).flatMap told = o at *
      generalize told (s[k]'hlt) = tc at *
      unfold Owns at hown
      go_wp2_with (at_builtin; refine Lib.wpList_append_own_string _ rfl _ _ 44 9 rfl w1.heap.size 5 i0 Tryd.underlying44 Tryd.underlying9 hi hz0 hz1 hz2 _ _ _ rfl hown (S tc) rfl ?c3 ?c4 ?c5 ?_)
      case c3 => unfold maxLen; rw [S_size]; omega
      case c4 => rw [S_size]; omega
      case c5 => exact HK2.out.size
      intro v2 w3 hown2 hgrow _
      have HO := Lib.hid (And.intro (Owns.more hown2) (show Keeps w1 w3 from HK2.out.grown hgrow HK2.out.size (fun k hk => (World.ownsRow.lt hown k hk).1)))
      clear hown hown2 hgrow hlen hlen2
      rw [hsk] at HO
      clear hsk
      go_wp2
      go_roundw
      case rel => exact ⟨k + 1, by omega, by go_num, HO⟩
      case measure => simp [intOf]; omega
    · obtain rfl : k = s.size := by omega
      have hown := hr.out.1
      have HK := Lib.hid hr.out.2
      have hlen := HL.out s.size
      have hq := HQ.out
      clear hr
      generalize [34] ++ (l.take s.size).flatMap told = o at *
      unfold Owns at hown
      go_wp2_with (at_builtin; refine wpList_append_own _ rfl _ _ 44 rfl w1.heap.size 5 i0 (.int .u8 0) 1 1 Tryd.underlying44 hi hz0 hz1 hz2 rfl (by decide) _ _ _ rfl (World.ownsRow.alloc hown _) ⟨wr.heap.size, 0, none⟩ 1 1 [.int .u8 34] rfl rfl ?c1 ?c2 ?c13 ?c14 ?c15 ?_)
      case c1 => exact cell_one _ _
      case c2 => exact one_cell _
      case c13 => unfold maxLen; omega
      case c14 => omega
      case c15 => have := HK.out.size; simp; omega
      intro v2 w3 hown2 hgrow _
      have hO : Owns w3 w1.heap.size v2 (o ++ [34]) := Owns.one (c := 34) hown2
      have hk3 : Keeps w1 w3 := (HK.out.alloc _).grown hgrow (by have := HK.out.size; simp; omega) (fun k hk => (World.ownsRow.lt hown k hk).1)
      have HK3 := Lib.hid (K1.out.trans hk3)
      have hcv := conv_own hO (by simp)
      rw [hq] at hcv
      clear hown hown2 hgrow hlen hq hO hk3
      go_wp2
      go_ret2
      exact RetT.of rfl rfl HK3.out
end Go.Proofs.YtbhgfdgdbbfeoaaDoor
