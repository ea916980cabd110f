/-
  The contracts of Server, named, User, Room and Kind of package ident.
-/
import Derived.Test.YtpcfcbaapnkanaaId
namespace Go.Proofs.Ytpcfcbaapnkanaa
open Go.RowKit

def hostB (l : List UInt8) : Bool := ofB (classB true [46, 45]) l
def serverB (l : List UInt8) : Bool :=
  if 128 < l.length then false
  else if (cutC l).2.2 = true then (if hostB (cutC l).1 = true ∧ (cutC l).2.1.length ≤ 5 then ofB digB (cutC l).2.1 else false)
  else hostB l

theorem cutC_le (l : List UInt8) : (cutC l).1.length ≤ l.length ∧ (cutC l).2.1.length ≤ l.length := by
  unfold cutC
  split
  · exact ⟨by simp; omega, by simp⟩
  · exact ⟨Nat.le_refl _, Nat.zero_le _⟩

theorem IsClass.drewN {cap : Bool} {more : ByteArray} {a b : Addr} {w : World} (h : IsClass cap more a b w) (n : Nat) : IsClass cap more a b (w.drewN n) := h

set_option maxHeartbeats 1000000 in
set_option maxRecDepth 10000 in
theorem server_any (s : ByteArray) (w : World) (hs : s.size ≤ maxLen) : Calls Try.prog 66 #[.string s] w (RetQ (serverB s.data.toList) w) := by
  have cC := fun w => cut28 s w hs
  have hl : s.data.toList.length = s.size := by simp
  obtain ⟨k1, k2⟩ := cutC_le s.data.toList
  have cH : ∀ a b (w : World), IsClass true ⟨#[46, 45]⟩ a b w → Calls Try.prog 65 #[.string (S (cutC s.data.toList).1), .func (.func 67) #[] #[.pointer (some a), .pointer (some b)]] w (RetB (hostB (cutC s.data.toList).1) w) := fun a b w h => of_cl (S (cutC s.data.toList).1) true ⟨#[46, 45]⟩ a b w (by rw [S_size]; omega) h
  have cW : ∀ a b (w : World), IsClass true ⟨#[46, 45]⟩ a b w → Calls Try.prog 65 #[.string s, .func (.func 67) #[] #[.pointer (some a), .pointer (some b)]] w (RetB (hostB s.data.toList) w) := fun a b w h => of_cl s true ⟨#[46, 45]⟩ a b w hs h
  have cD : ∀ w, Calls Try.prog 65 #[.string (S (cutC s.data.toList).2.1), .func (.func 81) #[] #[]] w (RetB (ofB digB (cutC s.data.toList).2.1) w) := fun w => of_digit (S (cutC s.data.toList).2.1) w (by rw [S_size]; omega)
  have hz : (S (cutC s.data.toList).2.1).size = (cutC s.data.toList).2.1.length := S_size _
  unfold maxLen at hs
  by_cases h1 : 128 < s.size
  · have hB : serverB s.data.toList = false := by unfold serverB; rw [hl, if_pos h1]
    rw [hB]
    clear cC cH cW cD hz k1 k2 hl hB
    go_enter Try.func66, Try.ntmps66
    go_wp2
    go_ret
    exact RetQ.of rfl (Keeps.refl _)
  · cases h2 : (cutC s.data.toList).2.2
    · have hB : serverB s.data.toList = hostB s.data.toList := by unfold serverB; rw [hl, if_neg h1, h2, if_neg (by decide)]
      rw [hB]
      rw [h2] at cC
      generalize S (cutC s.data.toList).1 = t1 at cC
      generalize S (cutC s.data.toList).2.1 = t2 at cC
      generalize hostB s.data.toList = r at cW ⊢
      have CC := Lib.hid cC
      have CW := Lib.hid cW
      clear cC cH cW cD hz k1 k2 hl hB h2
      go_enter Try.func66, Try.ntmps66
      go_wp2_with fail
      refine (class_any true ⟨#[46, 45]⟩ _).mono ?_
      rintro e w1 ⟨a, b, rfl, hcl, hk⟩
      go_wp2_with fail
      refine (CC.out _).mono ?_
      rintro e w2 ⟨rfl, n, rfl⟩
      go_wp2_with fail
      refine (CW.out a b _ (hcl.drewN n)).mono ?_
      rintro e w2 ⟨rfl, rfl⟩
      go_wp2
      go_ret
      exact RetQ.of rfl (hk.drewN n)
    · by_cases h3 : hostB (cutC s.data.toList).1 = true
      · by_cases h4 : (cutC s.data.toList).2.1.length ≤ 5
        · have hB : serverB s.data.toList = ofB digB (cutC s.data.toList).2.1 := by unfold serverB; rw [hl, if_neg h1, h2, if_pos rfl, if_pos ⟨h3, h4⟩]
          rw [hB]
          rw [h2] at cC
          rw [h3] at cH
          rw [← hz] at h4
          generalize ofB digB (cutC s.data.toList).2.1 = r at cD ⊢
          generalize S (cutC s.data.toList).1 = t1 at cC cH
          generalize S (cutC s.data.toList).2.1 = t2 at cC cD h4
          have CC := Lib.hid cC
          have CH := Lib.hid cH
          have CD := Lib.hid cD
          clear cC cH cW cD hz k1 k2 hl hB h2 h3
          go_enter Try.func66, Try.ntmps66
          go_wp2_with fail
          refine (class_any true ⟨#[46, 45]⟩ _).mono ?_
          rintro e w1 ⟨a, b, rfl, hcl, hk⟩
          go_wp2_with fail
          refine (CC.out _).mono ?_
          rintro e w2 ⟨rfl, n, rfl⟩
          go_wp2_with fail
          refine (CH.out a b _ (hcl.drewN n)).mono ?_
          rintro e w2 ⟨rfl, rfl⟩
          go_wp2_with fail
          refine (CD.out _).mono ?_
          rintro e w2 ⟨rfl, rfl⟩
          go_wp2
          go_ret
          exact RetQ.of rfl (hk.drewN n)
        · have hB : serverB s.data.toList = false := by unfold serverB; rw [hl, if_neg h1, h2, if_pos rfl, if_neg (fun h => h4 h.2)]
          rw [hB]
          rw [h2] at cC
          rw [h3] at cH
          rw [← hz] at h4
          generalize S (cutC s.data.toList).1 = t1 at cC cH
          generalize S (cutC s.data.toList).2.1 = t2 at cC h4
          have CC := Lib.hid cC
          have CH := Lib.hid cH
          clear cC cH cW cD hz k1 k2 hl hB h2 h3
          go_enter Try.func66, Try.ntmps66
          go_wp2_with fail
          refine (class_any true ⟨#[46, 45]⟩ _).mono ?_
          rintro e w1 ⟨a, b, rfl, hcl, hk⟩
          go_wp2_with fail
          refine (CC.out _).mono ?_
          rintro e w2 ⟨rfl, n, rfl⟩
          go_wp2_with fail
          refine (CH.out a b _ (hcl.drewN n)).mono ?_
          rintro e w2 ⟨rfl, rfl⟩
          go_wp2
          go_ret
          exact RetQ.of rfl (hk.drewN n)
      · have h3' : hostB (cutC s.data.toList).1 = false := by simpa using h3
        have hB : serverB s.data.toList = false := by unfold serverB; rw [hl, if_neg h1, h2, if_pos rfl, if_neg (fun h => h3 h.1)]
        rw [hB]
        rw [h2] at cC
        rw [h3'] at cH
        generalize S (cutC s.data.toList).1 = t1 at cC cH
        generalize S (cutC s.data.toList).2.1 = t2 at cC
        have CC := Lib.hid cC
        have CH := Lib.hid cH
        clear cC cH cW cD hz k1 k2 hl hB h2 h3 h3'
        go_enter Try.func66, Try.ntmps66
        go_wp2_with fail
        refine (class_any true ⟨#[46, 45]⟩ _).mono ?_
        rintro e w1 ⟨a, b, rfl, hcl, hk⟩
        go_wp2_with fail
        refine (CC.out _).mono ?_
        rintro e w2 ⟨rfl, n, rfl⟩
        go_wp2_with fail
        refine (CH.out a b _ (hcl.drewN n)).mono ?_
        rintro e w2 ⟨rfl, rfl⟩
        go_wp2
        go_ret
        exact RetQ.of rfl (hk.drewN n)
end Go.Proofs.Ytpcfcbaapnkanaa
