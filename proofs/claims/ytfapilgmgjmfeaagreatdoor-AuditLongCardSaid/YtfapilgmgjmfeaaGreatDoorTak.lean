/-
  A note is read: takes.
-/
import Derived.Test.YtfapilgmgjmfeaaGreatDoorFol
namespace Go.Proofs.YtfapilgmgjmfeaaGreatDoor
open Go.RowKit

theorem follows_any (r m N : Nat) (rd : Rdg) (n : Nt) (w : World) (h : RdgAt w r m N rd) (hN : N < maxLen) (hok : NtOk n) : Calls Tryz.prog 60 #[.pointer (some ⟨r, 0, none⟩), .agg (ntC n)] w (RetT r m N (followsR rd n) w) := by
  unfold followsR
  cases hl : rd.lives n.txn with
  | none => exact follows_none r m N rd n w h hN hok hl
  | some x =>
    obtain ⟨a, sb⟩ := x
    simp only
    by_cases ha : a ≠ n.act
    · rw [if_pos ha]; exact follows_diff r m N rd n w h hN hok a sb hl ha
    · rw [if_neg ha]
      obtain rfl := Classical.not_not.1 ha
      by_cases h4 : n.kind = 4
      · rw [if_pos h4]; exact follows_sent r m N rd n w h hN hok sb hl h4
      · rw [if_neg h4]
        by_cases h6 : n.kind = 6
        · rw [if_pos h6]; exact follows_again r m N rd n w h hN hok sb hl h6
        · rw [if_neg h6]
          by_cases h8 : n.kind = 8
          · rw [if_pos h8]; exact follows_gone r m N rd n w h hN hok sb hl h8
          · rw [if_neg h8]; exact follows_end r m N rd n w h hN hok sb hl ⟨h4, h6, h8⟩
theorem begins_any (r m N : Nat) (rd : Rdg) (n : Nt) (w : World) (h : RdgAt w r m N rd) (hl : 0 ≤ rd.last) (hl2 : rd.last ≤ 1000000000000000000) (hN : N < maxLen) (hok : NtOk n) : Calls Tryz.prog 59 #[.pointer (some ⟨r, 0, none⟩), .agg (ntC n)] w (RetT r m N (beginsR rd n) w) := by
  unfold beginsR
  by_cases hb : n.txn = rd.last + 1 ∧ isAct n.act.kind = true
  · rw [if_pos hb]; exact begins_yes r m N rd n w h hl hl2 hN hok hb.1 hb.2
  · rw [if_neg hb]; exact begins_no r m N rd n w h hl hl2 hb
theorem RetT.from {r m N : Nat} {p : Bool × Rdg} {w w1 : World} {e : Ending} {w' : World} (h : RetT r m N p w1 e w') (k : Keeps w w1) : RetT r m N p w e w' := ⟨h.1, h.2.1, (k.toOnly _).trans h.2.2⟩

set_option maxHeartbeats 4000000 in
set_option maxRecDepth 100000 in
theorem takes_any (r m N : Nat) (rd : Rdg) (n : Nt) (w : World) (h : RdgAt w r m N rd) (hl : 0 ≤ rd.last) (hl2 : rd.last ≤ 1000000000000000000) (hN : N < maxLen) (hok : NtOk n) : Calls Tryz.prog 36 #[.pointer (some ⟨r, 0, none⟩), .agg (ntC n)] w (RetT r m N (takesR rd n) w) := by
  have cO := Lib.hid (fun wx => ofTx_any n.kind wx)
  have cS := Lib.hid (fun wx => stands_any n wx)
  have cB := Lib.hid (fun wx hx => begins_any r m N rd n wx hx hl hl2 hN hok)
  have cF := Lib.hid (fun wx hx => follows_any r m N rd n wx hx hN hok)
  have H1 := Lib.hid (h.keeps ((Keeps.refl w).alloc (.cells (ntC n) 29)))
  have K1 := Lib.hid ((Keeps.refl w).alloc (.cells (ntC n) 29))
  unfold takesR
  clear h hl hl2 hN hok
  by_cases ho : ofTx n.kind = false
  · rw [if_pos ho]
    rw [ho] at cO
    generalize standsB n = B at *
    obtain ⟨k, t, ⟨ak, ro, s, c, d⟩, co, x⟩ := n
    unfold ntC at *
    simp only at *
    clear ho
    go_enter Tryz.func36, Tryz.ntmps36
    go_wp2_with fail
    refine (cO.out _).mono ?_
    rintro e w2 ⟨rfl, rfl⟩
    go_wp2_with fail
    refine (cS.out _).mono ?_
    rintro e w2 ⟨rfl, k2⟩
    have K2 := Lib.hid (K1.out.trans k2)
    have H2 := Lib.hid (H1.out.keeps k2)
    clear k2
    go_wp2
    go_ret
    exact ⟨rfl, ⟨N, by omega, H2.out⟩, K2.out.toOnly _⟩
  · have ho' : ofTx n.kind = true := by simpa using ho
    rw [if_neg ho]
    rw [ho'] at cO
    clear ho ho'
    by_cases hc : n.code ≠ 0 ∨ n.text ≠ []
    · rw [if_pos hc]
      obtain ⟨k, t, ⟨ak, ro, s, c, d⟩, co, x⟩ := n
      unfold ntC at *
      simp only at *
      by_cases h0 : co = 0
      · have hx : x ≠ [] := by
          rcases hc with hc | hc
          · exact absurd h0 hc
          · exact hc
        have f1 : (co != 0) = false := by simp [h0]
        have f2 : (S x).toList.isEmpty = false := by rw [S_list]; simpa using hx
        clear hc h0 hx
        go_enter Tryz.func36, Tryz.ntmps36
        go_wp2_with fail
        refine (cO.out _).mono ?_
        rintro e w2 ⟨rfl, rfl⟩
        go_wp2
        go_ret
        exact ⟨rfl, ⟨N, by omega, H1.out⟩, K1.out.toOnly _⟩
      · have f1 : (co != 0) = true := by simpa using h0
        clear hc h0
        go_enter Tryz.func36, Tryz.ntmps36
        go_wp2_with fail
        refine (cO.out _).mono ?_
        rintro e w2 ⟨rfl, rfl⟩
        go_wp2
        go_ret
        exact ⟨rfl, ⟨N, by omega, H1.out⟩, K1.out.toOnly _⟩
    · rw [if_neg hc]
      have hc0 : n.code = 0 := by
        apply Classical.byContradiction
        intro h; exact hc (.inl h)
      have hx0 : n.text = [] := by
        apply Classical.byContradiction
        intro h; exact hc (.inr h)
      clear hc
      obtain ⟨k, t, ⟨ak, ro, s, c, d⟩, co, x⟩ := n
      simp only at hc0 hx0
      subst hc0 hx0
      unfold ntC at *
      simp only [S_nil] at *
      by_cases h3 : k = 3
      · rw [if_pos h3]
        subst h3
        go_enter Tryz.func36, Tryz.ntmps36
        go_wp2_with fail
        refine (cO.out _).mono ?_
        rintro e w2 ⟨rfl, rfl⟩
        go_wp2_with fail
        refine (cB.out _ H1.out).mono ?_
        rintro e w2 hR
        have HR := Lib.hid (hR.from K1.out)
        obtain ⟨rfl, -, -⟩ := hR
        go_wp2
        go_ret
        exact HR.out
      · rw [if_neg h3]
        have f3 : (k == 3) = false := by simpa using h3
        clear h3
        go_enter Tryz.func36, Tryz.ntmps36
        go_wp2_with fail
        refine (cO.out _).mono ?_
        rintro e w2 ⟨rfl, rfl⟩
        go_wp2_with fail
        refine (cF.out _ H1.out).mono ?_
        rintro e w2 hR
        have HR := Lib.hid (hR.from K1.out)
        obtain ⟨rfl, -, -⟩ := hR
        go_wp2
        go_ret
        exact HR.out
end Go.Proofs.YtfapilgmgjmfeaaGreatDoor
