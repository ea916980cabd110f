/-
  The contracts of package scan on pieces of a literal: unescapeCode, unescape, unquotePiece, Unquote.
-/
import Derived.Test.YtljkeladdplhlaaDoorHex
import Derived.Test.YtljkeladdplhlaaDoorBld
import Derived.Lib.LaidU8
namespace Go.Proofs.YtljkeladdplhlaaDoor
open Go.RowKit

theorem own_keeps {w w' : World} {B e size n : Nat} {v : Value} {xs : List Value} (h : w.ownsRow B e size v n xs) (hb : Below w.heap.size w w') : w'.ownsRow B e size v n xs := by
  refine ⟨h.1, ?_⟩
  rcases h.2 with h | ⟨g, cap, cur, hv, hB, hg, r⟩
  · exact .inl h
  · exact .inr ⟨g, cap, cur, hv, hB, by rw [hb.block g (bd_lt hg)]; exact hg, r⟩
theorem Bd.keeps {B b : Nat} {l : List UInt8} {w w' : World} (h : Bd B b l w) (k : Keeps w w') : Bd B b l w' := by
  rcases h with ⟨hB, v, hbk, hown, hne⟩ | ⟨hB, v, hbk, hown, hne⟩
  · exact .inl ⟨hB, v, by rw [k.block b (bd_lt hbk)]; exact hbk, own_keeps hown k, hne⟩
  · exact .inr ⟨hB, v, by rw [k.block b (bd_lt hbk)]; exact hbk, own_keeps hown k, hne⟩
theorem Kept.keeps {B b : Nat} {w w' : World} (hB : B ≤ w.heap.size) (k : Keeps w w') : Kept B b w w' :=
  ⟨Below.mono k hB, fun i o h _ _ => by rw [k.block i (bd_lt h)]; exact h⟩

/-- A call that writes a piece, and answers its width and the error. -/
def RetP (B b : Nat) (acc : List UInt8) (p : Piece) (w : World) (e : Ending) (w' : World) : Prop :=
  e = .returned (.tuple #[.int .i64 (p.2.1 : Int), .int .i64 (p.2.2 : Int)]) ∧ (Bd B b (acc ++ p.1) w' ∧ Kept B b w w')
theorem RetP.of {B b : Nat} {acc : List UInt8} {p : Piece} {x y : Int} {w w' : World} (h1 : x = (p.2.1 : Int)) (h2 : y = (p.2.2 : Int)) (h3 : Bd B b (acc ++ p.1) w') (k : Kept B b w w') :
    RetP B b acc p w (.returned (.tuple #[.int .i64 x, .int .i64 y])) w' := ⟨by rw [h1, h2], h3, k⟩
theorem Bd.nil {B b : Nat} {acc : List UInt8} {w : World} (h : Bd B b acc w) : Bd B b (acc ++ []) w := by rw [List.append_nil]; exact h

theorem lowS_range (l : List UInt8) : (lowS l).2 = 0 → 56320 ≤ (lowS l).1 ∧ (lowS l).1 ≤ 57343 := by
  unfold lowS lowT
  repeat' split
  all_goals first | (intro h; simp at h; done) | (intro h; simp only at h ⊢; omega) | (intro h; simp at h; contradiction)

set_option maxHeartbeats 4000000 in
set_option maxRecDepth 100000 in
theorem code_any (B b : Nat) (acc : List UInt8) (s : ByteArray) (w : World) (h : Bd B b acc w) (hs : s.size ≤ 1000000) (h6 : 6 ≤ s.size ∨ (hex4 (s.data.toList.drop 2)).2 ≠ 0) (h2 : 2 ≤ s.size) (hl : acc.length ≤ 1000000) (hBw : B ≤ w.heap.size) :
    Calls Tryd.prog 94 #[.pointer (some ⟨b, 0, none⟩), .string s] w (RetP B b acc (codeL s.data.toList) w) := by
  have hb4 := hex4_bound (s.data.toList.drop 2)
  have hsl : (s.extract 2 s.size).data.toList = s.data.toList.drop 2 := ext_drop s 2
  have hsz : (s.extract 2 s.size).size ≤ 1000000 := by simp; omega
  have hsl6 : (s.extract 6 s.size).data.toList = s.data.toList.drop 6 := ext_drop s 6
  have hsz6 : (s.extract 6 s.size).size ≤ 1000000 := by simp; omega
  have cH1 : Hid (∀ w1, Calls Tryd.prog 100 #[.string (s.extract 2 s.size)] w1 (Ret2 .i32 (hex4 (s.data.toList.drop 2)) w1)) := Lib.hid (fun w1 => by have := hex_any _ w1 hsz; rwa [hsl] at this)
  have cL1 : Hid (∀ w1, Calls Tryd.prog 101 #[.string (s.extract 6 s.size)] w1 (Ret2 .i32 (lowS (s.data.toList.drop 6)) w1)) := Lib.hid (fun w1 => by have := low_any _ w1 hsz6; rwa [hsl6] at this)
  have hlb : (lowS (s.data.toList.drop 6)).2 = 0 → 56320 ≤ (lowS (s.data.toList.drop 6)).1 ∧ (lowS (s.data.toList.drop 6)).1 ≤ 57343 := lowS_range _
  have HA := Lib.hid h
  unfold codeL
  generalize hex4 (s.data.toList.drop 2) = g at *
  generalize lowS (s.data.toList.drop 6) = d at *
  obtain ⟨v, x⟩ := g
  obtain ⟨u, y⟩ := d
  have q2 : (2 : Int) ≤ (s.size : Int) := by omega
  clear hsl hsz hsl6 hsz6 h
  by_cases hx : x = 0
  · subst hx
    rw [if_neg (by simp)]
    have p6 : 6 ≤ s.size := by simpa using h6
    have q6 : (6 : Int) ≤ (s.size : Int) := by omega
    clear h6 h2
    have H4 : v < 65536 := hb4
    clear hb4
    by_cases g1 : v < 55296
    · rw [if_pos (.inl g1)]
      have cH2 : Hid (∀ w1, Calls Tryd.prog 100 #[.string (s.extract 2 s.size)] w1 (fun e w' => Ret2 .i32 (v, 0) w1 e w' ∧ decide ((v : Int) < 55296) = true ∧ decide ((57343 : Int) < (v : Int)) = false ∧ decide ((56320 : Int) ≤ (v : Int)) = false)) := Lib.hid (fun w1 => (cH1.out w1).mono (fun e w' h => ⟨h, by simp; omega, by simp; omega, by simp; omega⟩))
      have cW := Lib.hid (fun w1 h1 h2 => wr_any B b acc (v : Int) w1 h1 (by omega) (by omega) hl h2)
      clear g1 H4 cH1 cL1 hlb
      go_enter Tryd.func94, Tryd.ntmps94
      go_wp2_with fail
      refine (cH2.out _).mono ?_
      rintro e w2 ⟨⟨rfl, k2⟩, d1, d2, d3⟩
      have HB := Lib.hid (HA.out.keeps k2)
      have HK := Lib.hid (Kept.keeps (b := b) hBw k2)
      have hz : B ≤ w2.heap.size := Nat.le_trans hBw k2.size
      clear k2
      go_wp2_with fail
      refine (cW.out _ HB.out hz).mono ?_
      rintro e w3 ⟨⟨kk, rfl⟩, hB3, hK3⟩
      go_wp2
      go_ret2
      exact RetP.of rfl rfl hB3 (HK.out.trans hK3)
    by_cases g2 : 57343 < v
    · rw [if_pos (.inr g2)]
      have cH2 : Hid (∀ w1, Calls Tryd.prog 100 #[.string (s.extract 2 s.size)] w1 (fun e w' => Ret2 .i32 (v, 0) w1 e w' ∧ decide ((v : Int) < 55296) = false ∧ decide ((57343 : Int) < (v : Int)) = true ∧ decide ((56320 : Int) ≤ (v : Int)) = true)) := Lib.hid (fun w1 => (cH1.out w1).mono (fun e w' h => ⟨h, by simp; omega, by simp; omega, by simp; omega⟩))
      have cW := Lib.hid (fun w1 h1 h2 => wr_any B b acc (v : Int) w1 h1 (by omega) (by omega) hl h2)
      clear g1 g2 H4 cH1 cL1 hlb
      go_enter Tryd.func94, Tryd.ntmps94
      go_wp2_with fail
      refine (cH2.out _).mono ?_
      rintro e w2 ⟨⟨rfl, k2⟩, d1, d2, d3⟩
      have HB := Lib.hid (HA.out.keeps k2)
      have HK := Lib.hid (Kept.keeps (b := b) hBw k2)
      have hz : B ≤ w2.heap.size := Nat.le_trans hBw k2.size
      clear k2
      go_wp2_with fail
      refine (cW.out _ HB.out hz).mono ?_
      rintro e w3 ⟨⟨kk, rfl⟩, hB3, hK3⟩
      go_wp2
      go_ret2
      exact RetP.of rfl rfl hB3 (HK.out.trans hK3)
    rw [if_neg (by simp only; omega)]
    by_cases g3 : 56320 ≤ v
    · rw [if_pos g3]
      have cH2 : Hid (∀ w1, Calls Tryd.prog 100 #[.string (s.extract 2 s.size)] w1 (fun e w' => Ret2 .i32 (v, 0) w1 e w' ∧ decide ((v : Int) < 55296) = false ∧ decide ((57343 : Int) < (v : Int)) = false ∧ decide ((56320 : Int) ≤ (v : Int)) = true)) := Lib.hid (fun w1 => (cH1.out w1).mono (fun e w' h => ⟨h, by simp; omega, by simp; omega, by simp; omega⟩))
      clear g1 g2 g3 H4 cH1 cL1 hlb
      go_enter Tryd.func94, Tryd.ntmps94
      go_wp2_with fail
      refine (cH2.out _).mono ?_
      rintro e w2 ⟨⟨rfl, k2⟩, d1, d2, d3⟩
      have HB := Lib.hid (HA.out.keeps k2)
      have HK := Lib.hid (Kept.keeps (b := b) hBw k2)
      have hz : B ≤ w2.heap.size := Nat.le_trans hBw k2.size
      clear k2
      go_wp2
      go_ret2
      exact RetP.of rfl rfl HB.out.nil HK.out
    rw [if_neg g3]
    by_cases hy : y = 0
    · subst hy
      rw [if_neg (by simp)]
      have hr := hlb rfl
      simp only at hr
      clear hlb
      have cH2 : Hid (∀ w1, Calls Tryd.prog 100 #[.string (s.extract 2 s.size)] w1 (fun e w' => Ret2 .i32 (v, 0) w1 e w' ∧ decide ((v : Int) < 55296) = false ∧ decide ((57343 : Int) < (v : Int)) = false ∧ decide ((56320 : Int) ≤ (v : Int)) = false)) := Lib.hid (fun w1 => (cH1.out w1).mono (fun e w' h => ⟨h, by simp; omega, by simp; omega, by simp; omega⟩))
      have hsum : ((65536 + (v - 55296) * 1024 + (u - 56320) : Nat) : Int) = 65536 + ((v : Int) - 55296) * 1024 + ((u : Int) - 56320) := by omega
      have cW : Hid (∀ w1, Bd B b acc w1 → B ≤ w1.heap.size → Calls Tryd.prog 93 #[.pointer (some ⟨b, 0, none⟩), .int .i32 (65536 + ((v : Int) - 55296) * 1024 + ((u : Int) - 56320))] w1 (fun e w' => (∃ k, e = .returned (.tuple #[.int .i64 k, .nilIface])) ∧ (Bd B b (acc ++ Lib.encodeRune ((65536 + (v - 55296) * 1024 + (u - 56320) : Nat) : Int)) w' ∧ Kept B b w1 w'))) := Lib.hid (fun w1 h1 h2 => by
        rw [hsum]; exact wr_any B b acc _ w1 h1 (by omega) (by omega) hl h2)
      have cL2 : Hid (∀ w1, Calls Tryd.prog 101 #[.string (s.extract 6 s.size)] w1 (fun e w' => Ret2 .i32 (u, 0) w1 e w' ∧ (56320 ≤ (u : Int) ∧ (u : Int) ≤ 57343 ∧ 55296 ≤ (v : Int) ∧ (v : Int) ≤ 56319))) := Lib.hid (fun w1 => (cL1.out w1).mono (fun e w' h => ⟨h, by omega, by omega, by omega, by omega⟩))
      clear g1 g2 g3 H4 cH1 cL1 hr hsum
      generalize Lib.encodeRune ((65536 + (v - 55296) * 1024 + (u - 56320) : Nat) : Int) = er at *
      go_enter Tryd.func94, Tryd.ntmps94
      go_wp2_with fail
      refine (cH2.out _).mono ?_
      rintro e w2 ⟨⟨rfl, k2⟩, d1, d2, d3⟩
      have HB := Lib.hid (HA.out.keeps k2)
      have HK := Lib.hid (Kept.keeps (b := b) hBw k2)
      have hz : B ≤ w2.heap.size := Nat.le_trans hBw k2.size
      clear k2
      go_wp2_with fail
      refine (cL2.out _).mono ?_
      rintro e w3 ⟨⟨rfl, k3⟩, b1, b2, b3, b4⟩
      have HB2 := Lib.hid (HB.out.keeps k3)
      have HK2 := Lib.hid (HK.out.trans (Kept.keeps hz k3))
      have hz2 : B ≤ w3.heap.size := Nat.le_trans hz k3.size
      clear k3 HB
      go_wp2_with fail
      refine (cW.out _ HB2.out hz2).mono ?_
      rintro e w4 ⟨⟨kk, rfl⟩, hB3, hK3⟩
      clear b1 b2 b3 b4 d1 d2 d3
      go_wp2
      go_ret2
      exact RetP.of rfl rfl hB3 (HK2.out.trans hK3)
    · rw [if_pos (by simpa using hy)]
      clear hlb
      have cH2 : Hid (∀ w1, Calls Tryd.prog 100 #[.string (s.extract 2 s.size)] w1 (fun e w' => Ret2 .i32 (v, 0) w1 e w' ∧ decide ((v : Int) < 55296) = false ∧ decide ((57343 : Int) < (v : Int)) = false ∧ decide ((56320 : Int) ≤ (v : Int)) = false)) := Lib.hid (fun w1 => (cH1.out w1).mono (fun e w' h => ⟨h, by simp; omega, by simp; omega, by simp; omega⟩))
      have e1 : ((y : Int) != 0) = true := by simp; omega
      clear g1 g2 g3 H4 cH1
      go_enter Tryd.func94, Tryd.ntmps94
      go_wp2_with fail
      refine (cH2.out _).mono ?_
      rintro e w2 ⟨⟨rfl, k2⟩, d1, d2, d3⟩
      have HB := Lib.hid (HA.out.keeps k2)
      have HK := Lib.hid (Kept.keeps (b := b) hBw k2)
      have hz : B ≤ w2.heap.size := Nat.le_trans hBw k2.size
      clear k2
      go_wp2_with fail
      refine (cL1.out _).mono ?_
      rintro e w3 ⟨rfl, k3⟩
      go_wp2
      go_ret2
      exact RetP.of rfl rfl (HB.out.keeps k3).nil (HK.out.trans (Kept.keeps hz k3))
  · rw [if_pos (by simpa using hx)]
    have d1 : ((x : Int) != 0) = true := by simp; omega
    clear hb4 hlb h6 cL1 h2
    go_enter Tryd.func94, Tryd.ntmps94
    go_wp2_with fail
    refine (cH1.out _).mono ?_
    rintro e w2 ⟨rfl, k2⟩
    go_wp2
    go_ret2
    exact RetP.of rfl rfl (HA.out.keeps k2).nil (Kept.keeps hBw k2)

/-- The tables of unicode/utf8. -/
def Utf (w : World) : Prop := Lib.Utf8Tabs 0 1 w
theorem Utf.keeps {w w' : World} (h : Utf w) (k : Keeps w w') : Utf w' :=
  ⟨fun c hc => k.cell (h.1 c hc), fun i hi => ⟨k.cell (h.2 i hi).1, k.cell (h.2 i hi).2⟩⟩

theorem hexF_len (k : Nat) : ∀ l r, (hexF k l r).2 = 0 → k ≤ l.length := by
  induction k with
  | zero => intro l r _; exact Nat.zero_le _
  | succ k ih =>
    intro l r
    cases l with
    | nil => intro h; simp [hexF] at h
    | cons c t =>
      unfold hexF
      split
      · intro h; have := ih _ _ h; simp; omega
      · intro h; simp at h

set_option maxHeartbeats 4000000 in
theorem esc_any (B b : Nat) (acc : List UInt8) (s : ByteArray) (w : World) (h : Bd B b acc w) (hs : s.size ≤ 1000000) (h1 : 1 ≤ s.size) (hl : acc.length ≤ 1000000) (hBw : B ≤ w.heap.size) :
    Calls Tryd.prog 91 #[.pointer (some ⟨b, 0, none⟩), .string s] w (RetP B b acc (escL s.data.toList) w) := by
  have hsl : s.data.toList.length = s.size := by simp
  have HA := Lib.hid h
  unfold escL
  rw [hsl]
  by_cases h2 : s.size < 2
  · rw [if_pos h2]
    clear hsl h
    go_enter Tryd.func91, Tryd.ntmps91
    go_wp2
    go_ret2
    exact RetP.of rfl rfl HA.out.nil (Kept.refl _ _ _)
  rw [if_neg h2]
  have p1 : 1 < s.size := by omega
  rw [getD_at s 1 p1]
  have h6 : 6 ≤ s.size ∨ (hex4 (s.data.toList.drop 2)).2 ≠ 0 := by
    by_cases e : (hex4 (s.data.toList.drop 2)).2 = 0
    · have := hexF_len 4 _ _ e
      simp at this; omega
    · exact .inr e
  have cC := Lib.hid (fun w1 h1 h2 => code_any B b acc s w1 h1 hs h6 (by omega) hl h2)
  have cE := Lib.hid (fun w1 => escaped_any (s[1]'p1) w1)
  have cW := Lib.hid (fun w1 h1 h2 => wb_any B b acc (escV (s[1]'p1)) w1 h1 hl h2)
  generalize codeL s.data.toList = p at *
  clear hsl h h6 h2
  by_cases hu : (s[1]'p1).toNat = 117
  · rw [if_pos hu]
    have f1 : (((s[1]'p1).toNat : Int) == 117) = true := by simp; omega
    clear cE cW hu
    go_enter Tryd.func91, Tryd.ntmps91
    go_wp2_with fail
    refine (cC.out _ HA.out hBw).mono ?_
    rintro e w2 ⟨rfl, hB2, hK2⟩
    go_wp2
    go_ret2
    exact RetP.of rfl rfl hB2 hK2
  rw [if_neg hu]
  have f1 : (((s[1]'p1).toNat : Int) == 117) = false := by simp; omega
  clear cC hu
  cases hb : escB (s[1]'p1)
  · rw [if_neg (by decide)]
    rw [hb] at cE
    clear cW
    generalize escV (s[1]'p1) = v at *
    go_enter Tryd.func91, Tryd.ntmps91
    go_wp2_with fail
    refine (cE.out _).mono ?_
    rintro e w2 ⟨rfl, rfl⟩
    go_wp2
    go_ret2
    exact RetP.of rfl rfl HA.out.nil (Kept.refl _ _ _)
  · rw [if_pos rfl]
    rw [hb] at cE
    generalize escV (s[1]'p1) = v at *
    go_enter Tryd.func91, Tryd.ntmps91
    go_wp2_with fail
    refine (cE.out _).mono ?_
    rintro e w2 ⟨rfl, rfl⟩
    go_wp2_with fail
    refine (cW.out _ HA.out hBw).mono ?_
    rintro e w3 ⟨rfl, hB3, hK3⟩
    go_wp2
    go_ret2
    exact RetP.of rfl rfl hB3 hK3

theorem decodeGo_eq (s : ByteArray) (h : 1 ≤ s.size) : Lib.decodeGo s = decL s.data.toList := by
  unfold Lib.decodeGo
  rw [if_neg (by omega), decode_drop, List.drop_zero]
theorem dec_le (l : List UInt8) : (decL l).1 ≤ 2147483647 := by
  unfold decL Lib.decodeN
  have := (l.getD 0 0).toNat_lt
  repeat' split
  all_goals (simp only; omega)

set_option maxHeartbeats 4000000 in
theorem piece_any (B b : Nat) (acc : List UInt8) (s : ByteArray) (w : World) (h : Bd B b acc w) (hu : Utf w) (hs : s.size ≤ 1000000) (h1 : 1 ≤ s.size) (hl : acc.length ≤ 1000000) (hBw : B ≤ w.heap.size) :
    Calls Tryd.prog 90 #[.pointer (some ⟨b, 0, none⟩), .string s] w (RetP B b acc (pieceL s.data.toList) w) := by
  have p0 : 0 < s.size := by omega
  have HA := Lib.hid h
  have cE := Lib.hid (fun w1 h2 h3 => esc_any B b acc s w1 h2 hs h1 hl h3)
  have cD := Lib.hid (Tryd.utf8_DecodeRuneInString s w hu)
  rw [decodeGo_eq s h1] at cD
  have hd := dec_le s.data.toList
  unfold pieceL
  rw [getD_at s 0 p0]
  generalize escL s.data.toList = p at *
  generalize decL s.data.toList = d at *
  obtain ⟨r, n⟩ := d
  clear h hu
  by_cases g1 : (s[0]'p0).toNat < 32
  · rw [if_pos g1]
    have f1 : decide (((s[0]'p0).toNat : Int) < 32) = true := by simp; omega
    clear cE cD hd g1
    go_enter Tryd.func90, Tryd.ntmps90
    go_wp2
    go_ret2
    exact RetP.of rfl rfl HA.out.nil (Kept.refl _ _ _)
  rw [if_neg g1]
  have f1 : decide (((s[0]'p0).toNat : Int) < 32) = false := by simp; omega
  by_cases g2 : (s[0]'p0).toNat = 92
  · rw [if_pos g2]
    have f2 : (((s[0]'p0).toNat : Int) == 92) = true := by simp; omega
    clear cD hd g1 g2
    go_enter Tryd.func90, Tryd.ntmps90
    go_wp2_with fail
    refine (cE.out _ HA.out hBw).mono ?_
    rintro e w2 ⟨rfl, hB2, hK2⟩
    go_wp2
    go_ret2
    exact RetP.of rfl rfl hB2 hK2
  rw [if_neg g2]
  have f2 : (((s[0]'p0).toNat : Int) == 92) = false := by simp; omega
  clear cE g1 g2
  have cW := Lib.hid (fun w1 h1 h2 => wr_any B b acc (r : Int) w1 h1 (by omega) (by simp only at hd; omega) hl h2)
  have cD2 : ∀ f1 f2 : Bool, ((r : Int) == 65533) = f1 → ((n : Int) == 1) = f2 → Hid (Calls Tryd.prog 92 #[.string s] w (fun e w' => (e = .returned (.tuple #[.int .i32 (r : Int), .int .i64 (n : Int)]) ∧ Keeps w w') ∧ ((r : Int) == 65533) = f1 ∧ ((n : Int) == 1) = f2)) := fun f1 f2 e1 e2 => Lib.hid (cD.out.mono (fun e w' h => ⟨h, e1, e2⟩))
  cases hr : ((r : Int) == 65533)
  · have hb : badD (r, n) = false := by
      have : (r == 65533) = false := by simp at hr ⊢; omega
      simp [badD, this]
    rw [hb, if_neg (by decide)]
    have c2 := cD2 _ _ hr rfl
    clear cD cD2 hb hr hd
    go_enter Tryd.func90, Tryd.ntmps90
    go_wp2_with fail
    refine c2.out.mono ?_
    rintro e w2 ⟨⟨rfl, k2⟩, d1, _⟩
    have HB := Lib.hid (HA.out.keeps k2)
    have HK := Lib.hid (Kept.keeps (b := b) hBw k2)
    have hz : B ≤ w2.heap.size := Nat.le_trans hBw k2.size
    clear k2
    go_wp2_with fail
    refine (cW.out _ HB.out hz).mono ?_
    rintro e w3 ⟨⟨kk, rfl⟩, hB3, hK3⟩
    go_wp2
    go_ret2
    exact RetP.of rfl rfl hB3 (HK.out.trans hK3)
  · cases hn : ((n : Int) == 1)
    · have hb : badD (r, n) = false := by
        have : (n == 1) = false := by simp at hn ⊢; omega
        simp [badD, this]
      rw [hb, if_neg (by decide)]
      have c2 := cD2 _ _ hr hn
      clear cD cD2 hb hr hd hn
      go_enter Tryd.func90, Tryd.ntmps90
      go_wp2_with fail
      refine c2.out.mono ?_
      rintro e w2 ⟨⟨rfl, k2⟩, d1, d2⟩
      have HB := Lib.hid (HA.out.keeps k2)
      have HK := Lib.hid (Kept.keeps (b := b) hBw k2)
      have hz : B ≤ w2.heap.size := Nat.le_trans hBw k2.size
      clear k2
      go_wp2_with fail
      refine (cW.out _ HB.out hz).mono ?_
      rintro e w3 ⟨⟨kk, rfl⟩, hB3, hK3⟩
      go_wp2
      go_ret2
      exact RetP.of rfl rfl hB3 (HK.out.trans hK3)
    · have hb : badD (r, n) = true := by
        have e1 : (r == 65533) = true := by simp at hr ⊢; omega
        have e2 : (n == 1) = true := by simp at hn ⊢; omega
        simp [badD, e1, e2]
      rw [hb, if_pos rfl]
      have c2 := cD2 _ _ hr hn
      clear cD cD2 hb hr hd hn cW
      go_enter Tryd.func90, Tryd.ntmps90
      go_wp2_with fail
      refine c2.out.mono ?_
      rintro e w2 ⟨⟨rfl, k2⟩, d1, d2⟩
      have HB := Lib.hid (HA.out.keeps k2)
      have HK := Lib.hid (Kept.keeps (b := b) hBw k2)
      clear k2
      go_wp2
      go_ret2
      exact RetP.of rfl rfl HB.out.nil HK.out
end Go.Proofs.YtljkeladdplhlaaDoor
