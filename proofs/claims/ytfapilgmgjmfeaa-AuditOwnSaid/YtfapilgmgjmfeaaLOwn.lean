/-
  The law AuditOwn, walked.
-/
import Derived.Test.YtfapilgmgjmfeaaOlk
import Derived.Test.YtfapilgmgjmfeaaLiv
import Derived.Test.YtfapilgmgjmfeaaOpn
import Derived.Deep.AppendLies
import Derived.Deep.RegionLaw
namespace Go.Proofs.Ytfapilgmgjmfeaa
open Go.RowKit

theorem notes_one {w : World} {g : Nat} {n : Nt} (h : NtB w g n) : NotesAt w (some ⟨g, 0, none⟩) [n] := fun i hi => by
  obtain rfl : i = 0 := by simpa using hi
  exact ⟨g, 0, rfl, CellsAt.of h⟩
theorem ntC_of (n : Nt) : #[Value.int .i64 n.kind, .int .i64 n.txn, .int .i64 n.act.kind, .string (S n.act.room), .string (S n.act.subj), .string (S n.act.reason), .string (S n.act.deny), .int .i64 n.code, .string (S n.text)] = ntC n := rfl
/-- The law where an input is too long: true. -/
inductive TooBig (l : List Nt) (n : Nt) (room user : List UInt8) : Prop where
  | notes (h : lightNs l 60 = false)
  | one (h : lightNs l 60 = true) (h2 : lightNs [n] 1 = false)
  | room (h : lightNs l 60 = true) (h2 : lightNs [n] 1 = true) (h3 : 300 < room.length)
  | user (h : lightNs l 60 = true) (h2 : lightNs [n] 1 = true) (h3 : room.length ≤ 300) (h4 : 300 < user.length)
set_option maxHeartbeats 8000000 in
set_option maxRecDepth 100000 in
theorem own_big (A : Option Addr) (c : Nat) (l : List Nt) (n : Nt) (room user : List UInt8) (w : World) (hA : NotesAt w A l) (hm : l.length ≤ maxLen) (hr : room.length ≤ maxLen) (hu : user.length ≤ maxLen) (hb : TooBig l n room user) :
    Calls Try.prog 4 #[.slice A l.length c, .agg (ntC n), .string (S room), .string (S user)] w (Ret (.bool true) w) := by
  have KX := Lib.hid ((Keeps.refl w).alloc (.cells (ntC n) 31))
  have HB := Lib.hid (NtB.new w n)
  have cL := Lib.hid (lives_any (w.alloc (.cells (ntC n) 31)))
  have cN : Hid (∀ wx, Keeps w wx → Calls Try.prog 6 #[.slice A l.length c, .int .i64 60] wx (Ret (.bool (lightNs l 60)) wx)) := Lib.hid (fun wx k => lightNs_any A c l 60 wx (hA.keeps k) hm)
  have cM : Hid (∀ wx g, NtB wx g n → Calls Try.prog 6 #[.slice (some ⟨g, 0, none⟩) 1 1, .int .i64 1] wx (Ret (.bool (lightNs [n] 1)) wx)) := Lib.hid (fun wx g h => lightNs_any (some ⟨g, 0, none⟩) 1 [n] 1 wx (notes_one h) (by simp [maxLen]))
  have sr : (S room).size = room.length := rfl
  have su : (S user).size = user.length := rfl
  generalize l.length = L at *
  generalize hW : w.alloc (.cells (ntC n) 31) = W at *
  have HW := Lib.hid hW
  have HNB := HB
  obtain ⟨d0, d1, d2, d3, d4, d5, d6, d7, d8⟩ := HB.out.cells
  unfold ntC at hW ⊢
  clear HB hA hm
  cases hb with
  | notes h =>
    rw [h] at cN
    clear h d0 d1 d2 d3 d4 d5 d6 d7 d8 cM sr su
    go_enter Try.func4, Try.ntmps4
    go_wp2_with fail
    clear hW
    refine cL.out.mono ?_
    rintro e w1 ⟨rfl, k1⟩
    have K1 := Lib.hid (KX.out.trans k1)
    have B1 := Lib.hid (HNB.out.keeps k1)
    clear k1
    go_wp2_with fail
    refine (cN.out _ K1.out).mono ?_
    rintro e w2 ⟨rfl, k2⟩
    have K2 := Lib.hid (K1.out.trans k2)
    have B2 := Lib.hid (B1.out.keeps k2)
    clear k2
    go_wp2
    go_ret
    exact ⟨rfl, K2.out⟩
  | one h h2 =>
    rw [h] at cN
    rw [h2] at cM
    clear h h2 d0 d1 d2 d3 d4 d5 d6 d7 d8 sr su
    go_enter Try.func4, Try.ntmps4
    go_wp2_with fail
    clear hW
    refine cL.out.mono ?_
    rintro e w1 ⟨rfl, k1⟩
    have K1 := Lib.hid (KX.out.trans k1)
    have B1 := Lib.hid (HNB.out.keeps k1)
    clear k1
    go_wp2_with fail
    refine (cN.out _ K1.out).mono ?_
    rintro e w2 ⟨rfl, k2⟩
    have K2 := Lib.hid (K1.out.trans k2)
    have B2 := Lib.hid (B1.out.keeps k2)
    clear k2
    obtain ⟨d0, d1, d2, d3, d4, d5, d6, d7, d8⟩ := B2.out.cells
    have cM2 := Lib.hid (cM.out (w2.alloc (.cells (ntC n) 31)) _ (NtB.new w2 n))
    have K3 := Lib.hid (K2.out.alloc (.cells (ntC n) 31))
    unfold ntC at cM2 K3
    go_wp2_with fail
    refine cM2.out.mono ?_
    rintro e w3 ⟨rfl, k3⟩
    have K4 := Lib.hid (K3.out.trans k3)
    clear k3 d0 d1 d2 d3 d4 d5 d6 d7 d8
    go_wp2
    go_ret
    exact ⟨rfl, K4.out⟩
  | room h h2 h3 =>
    rw [h] at cN
    rw [h2] at cM
    have f1 : (300 : Int) < (room.length : Int) := by omega
    clear h h2 d0 d1 d2 d3 d4 d5 d6 d7 d8
    go_enter Try.func4, Try.ntmps4
    go_wp2_with fail
    clear hW
    refine cL.out.mono ?_
    rintro e w1 ⟨rfl, k1⟩
    have K1 := Lib.hid (KX.out.trans k1)
    have B1 := Lib.hid (HNB.out.keeps k1)
    clear k1
    go_wp2_with fail
    refine (cN.out _ K1.out).mono ?_
    rintro e w2 ⟨rfl, k2⟩
    have K2 := Lib.hid (K1.out.trans k2)
    have B2 := Lib.hid (B1.out.keeps k2)
    clear k2
    obtain ⟨d0, d1, d2, d3, d4, d5, d6, d7, d8⟩ := B2.out.cells
    have cM2 := Lib.hid (cM.out (w2.alloc (.cells (ntC n) 31)) _ (NtB.new w2 n))
    have K3 := Lib.hid (K2.out.alloc (.cells (ntC n) 31))
    unfold ntC at cM2 K3
    go_wp2_with fail
    refine cM2.out.mono ?_
    rintro e w3 ⟨rfl, k3⟩
    have K4 := Lib.hid (K3.out.trans k3)
    clear k3 d0 d1 d2 d3 d4 d5 d6 d7 d8
    go_wp2
    go_ret
    exact ⟨rfl, K4.out⟩
  | user h h2 h3 h4 =>
    rw [h] at cN
    rw [h2] at cM
    have f1 : ¬ (300 : Int) < (room.length : Int) := by omega
    have f2 : (300 : Int) < (user.length : Int) := by omega
    have f1' : decide ((300 : Int) < (room.length : Int)) = false := by simpa using f1
    clear h h2 d0 d1 d2 d3 d4 d5 d6 d7 d8
    go_enter Try.func4, Try.ntmps4
    go_wp2_with fail
    clear hW
    refine cL.out.mono ?_
    rintro e w1 ⟨rfl, k1⟩
    have K1 := Lib.hid (KX.out.trans k1)
    have B1 := Lib.hid (HNB.out.keeps k1)
    clear k1
    go_wp2_with fail
    refine (cN.out _ K1.out).mono ?_
    rintro e w2 ⟨rfl, k2⟩
    have K2 := Lib.hid (K1.out.trans k2)
    have B2 := Lib.hid (B1.out.keeps k2)
    clear k2
    obtain ⟨d0, d1, d2, d3, d4, d5, d6, d7, d8⟩ := B2.out.cells
    have cM2 := Lib.hid (cM.out (w2.alloc (.cells (ntC n) 31)) _ (NtB.new w2 n))
    have K3 := Lib.hid (K2.out.alloc (.cells (ntC n) 31))
    unfold ntC at cM2 K3
    go_wp2_with fail
    refine cM2.out.mono ?_
    rintro e w3 ⟨rfl, k3⟩
    have K4 := Lib.hid (K3.out.trans k3)
    clear k3 d0 d1 d2 d3 d4 d5 d6 d7 d8
    go_wp2
    go_ret
    exact ⟨rfl, K4.out⟩
end Go.Proofs.Ytfapilgmgjmfeaa
