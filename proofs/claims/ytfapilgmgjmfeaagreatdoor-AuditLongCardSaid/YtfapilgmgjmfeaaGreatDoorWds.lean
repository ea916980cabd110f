/-
  The words of notes and of actions.
-/
import Derived.Test.YtfapilgmgjmfeaaGreatDoorBase
import Derived.Test.YtfapilgmgjmfeaaGreatDoorSmm
import Derived.Test.YtfapilgmgjmfeaaGreatDoorShlb
namespace Go.Proofs.YtfapilgmgjmfeaaGreatDoor
open Go.RowKit

def nws : List (List UInt8) := [[], [114, 101, 102, 117, 115, 101, 100], [99, 111, 109, 109, 97, 110, 100], [113, 117, 101, 117, 101, 100], [115, 101, 110, 116], [100, 111, 110, 101], [97, 103, 97, 105, 110], [102, 97, 105, 108, 101, 100], [103, 111, 110, 101], [102, 117, 108, 108]]
def aws : List (List UInt8) := [[], [98, 97, 110], [117, 110, 98, 97, 110], [97, 99, 108], [114, 101, 100, 97, 99, 116]]
def nwL (k : Int) : List UInt8 := if 1 ≤ k ∧ k < 10 then nws.getD k.toNat [] else [63]
def awL (k : Int) : List UInt8 := if 1 ≤ k ∧ k < 5 then aws.getD k.toNat [] else [63]
theorem nwL_len (k : Int) : (nwL k).length ≤ 8 := by
  unfold nwL
  split
  · rename_i h
    obtain ⟨j, rfl⟩ : ∃ j : Nat, k = j := ⟨k.toNat, by omega⟩
    have hj : j < 10 := by omega
    have all : ∀ i, i < 10 → (nws.getD i []).length ≤ 8 := by decide
    exact all j hj
  · decide
theorem awL_len (k : Int) : (awL k).length ≤ 8 := by
  unfold awL
  split
  · rename_i h
    obtain ⟨j, rfl⟩ : ∃ j : Nat, k = j := ⟨k.toNat, by omega⟩
    have hj : j < 5 := by omega
    have all : ∀ i, i < 5 → (aws.getD i []).length ≤ 8 := by decide
    exact all j hj
  · decide
set_option maxHeartbeats 400000 in
set_option maxRecDepth 100000 in
theorem nw_1 (w : World) : Calls Tryz.prog 27 #[.int .i64 1] w (Ret (.string (S [114, 101, 102, 117, 115, 101, 100])) w) := by
  go_enter Tryz.func27, Tryz.ntmps27
  go_wp2
  go_ret
  exact ⟨by kernel_rfl, (Keeps.refl w).alloc _⟩
set_option maxHeartbeats 400000 in
set_option maxRecDepth 100000 in
theorem nw_2 (w : World) : Calls Tryz.prog 27 #[.int .i64 2] w (Ret (.string (S [99, 111, 109, 109, 97, 110, 100])) w) := by
  go_enter Tryz.func27, Tryz.ntmps27
  go_wp2
  go_ret
  exact ⟨by kernel_rfl, (Keeps.refl w).alloc _⟩
set_option maxHeartbeats 400000 in
set_option maxRecDepth 100000 in
theorem nw_3 (w : World) : Calls Tryz.prog 27 #[.int .i64 3] w (Ret (.string (S [113, 117, 101, 117, 101, 100])) w) := by
  go_enter Tryz.func27, Tryz.ntmps27
  go_wp2
  go_ret
  exact ⟨by kernel_rfl, (Keeps.refl w).alloc _⟩
set_option maxHeartbeats 400000 in
set_option maxRecDepth 100000 in
theorem nw_4 (w : World) : Calls Tryz.prog 27 #[.int .i64 4] w (Ret (.string (S [115, 101, 110, 116])) w) := by
  go_enter Tryz.func27, Tryz.ntmps27
  go_wp2
  go_ret
  exact ⟨by kernel_rfl, (Keeps.refl w).alloc _⟩
set_option maxHeartbeats 400000 in
set_option maxRecDepth 100000 in
theorem nw_5 (w : World) : Calls Tryz.prog 27 #[.int .i64 5] w (Ret (.string (S [100, 111, 110, 101])) w) := by
  go_enter Tryz.func27, Tryz.ntmps27
  go_wp2
  go_ret
  exact ⟨by kernel_rfl, (Keeps.refl w).alloc _⟩
set_option maxHeartbeats 400000 in
set_option maxRecDepth 100000 in
theorem nw_6 (w : World) : Calls Tryz.prog 27 #[.int .i64 6] w (Ret (.string (S [97, 103, 97, 105, 110])) w) := by
  go_enter Tryz.func27, Tryz.ntmps27
  go_wp2
  go_ret
  exact ⟨by kernel_rfl, (Keeps.refl w).alloc _⟩
set_option maxHeartbeats 400000 in
set_option maxRecDepth 100000 in
theorem nw_7 (w : World) : Calls Tryz.prog 27 #[.int .i64 7] w (Ret (.string (S [102, 97, 105, 108, 101, 100])) w) := by
  go_enter Tryz.func27, Tryz.ntmps27
  go_wp2
  go_ret
  exact ⟨by kernel_rfl, (Keeps.refl w).alloc _⟩
set_option maxHeartbeats 400000 in
set_option maxRecDepth 100000 in
theorem nw_8 (w : World) : Calls Tryz.prog 27 #[.int .i64 8] w (Ret (.string (S [103, 111, 110, 101])) w) := by
  go_enter Tryz.func27, Tryz.ntmps27
  go_wp2
  go_ret
  exact ⟨by kernel_rfl, (Keeps.refl w).alloc _⟩
set_option maxHeartbeats 400000 in
set_option maxRecDepth 100000 in
theorem nw_9 (w : World) : Calls Tryz.prog 27 #[.int .i64 9] w (Ret (.string (S [102, 117, 108, 108])) w) := by
  go_enter Tryz.func27, Tryz.ntmps27
  go_wp2
  go_ret
  exact ⟨by kernel_rfl, (Keeps.refl w).alloc _⟩
theorem nw_in (k : Int) (h : 1 ≤ k ∧ k < 10) (w : World) : Calls Tryz.prog 27 #[.int .i64 k] w (Ret (.string (S (nws.getD k.toNat []))) w) := by
  obtain ⟨h1, h2⟩ := h
  have e : k = 1 ∨ k = 2 ∨ k = 3 ∨ k = 4 ∨ k = 5 ∨ k = 6 ∨ k = 7 ∨ k = 8 ∨ k = 9 := by omega
  rcases e with rfl | rfl | rfl | rfl | rfl | rfl | rfl | rfl | rfl
  · exact nw_1 w
  · exact nw_2 w
  · exact nw_3 w
  · exact nw_4 w
  · exact nw_5 w
  · exact nw_6 w
  · exact nw_7 w
  · exact nw_8 w
  · exact nw_9 w
set_option maxHeartbeats 4000000 in
set_option maxRecDepth 100000 in
theorem nw_out (k : Int) (h : ¬ (1 ≤ k ∧ k < 10)) (w : World) : Calls Tryz.prog 27 #[.int .i64 k] w (Ret (.string (S [63])) w) := by
  by_cases h1 : k < 1
  · go_enter Tryz.func27, Tryz.ntmps27
    go_wp2
    go_ret
    exact ⟨by kernel_rfl, (Keeps.refl w).alloc _⟩
  · have h2 : 10 ≤ k := by omega
    clear h
    go_enter Tryz.func27, Tryz.ntmps27
    go_wp2
    go_ret
    exact ⟨by kernel_rfl, (Keeps.refl w).alloc _⟩
theorem nw_any (k : Int) (w : World) : Calls Tryz.prog 27 #[.int .i64 k] w (Ret (.string (S (nwL k))) w) := by
  unfold nwL
  split
  · exact nw_in k ‹_› w
  · exact nw_out k ‹_› w
set_option maxHeartbeats 400000 in
set_option maxRecDepth 100000 in
theorem aw_1 (w : World) : Calls Tryz.prog 31 #[.int .i64 1] w (Ret (.string (S [98, 97, 110])) w) := by
  go_enter Tryz.func31, Tryz.ntmps31
  go_wp2
  go_ret
  exact ⟨by kernel_rfl, (Keeps.refl w).alloc _⟩
set_option maxHeartbeats 400000 in
set_option maxRecDepth 100000 in
theorem aw_2 (w : World) : Calls Tryz.prog 31 #[.int .i64 2] w (Ret (.string (S [117, 110, 98, 97, 110])) w) := by
  go_enter Tryz.func31, Tryz.ntmps31
  go_wp2
  go_ret
  exact ⟨by kernel_rfl, (Keeps.refl w).alloc _⟩
set_option maxHeartbeats 400000 in
set_option maxRecDepth 100000 in
theorem aw_3 (w : World) : Calls Tryz.prog 31 #[.int .i64 3] w (Ret (.string (S [97, 99, 108])) w) := by
  go_enter Tryz.func31, Tryz.ntmps31
  go_wp2
  go_ret
  exact ⟨by kernel_rfl, (Keeps.refl w).alloc _⟩
set_option maxHeartbeats 400000 in
set_option maxRecDepth 100000 in
theorem aw_4 (w : World) : Calls Tryz.prog 31 #[.int .i64 4] w (Ret (.string (S [114, 101, 100, 97, 99, 116])) w) := by
  go_enter Tryz.func31, Tryz.ntmps31
  go_wp2
  go_ret
  exact ⟨by kernel_rfl, (Keeps.refl w).alloc _⟩
theorem aw_in (k : Int) (h : 1 ≤ k ∧ k < 5) (w : World) : Calls Tryz.prog 31 #[.int .i64 k] w (Ret (.string (S (aws.getD k.toNat []))) w) := by
  obtain ⟨h1, h2⟩ := h
  have e : k = 1 ∨ k = 2 ∨ k = 3 ∨ k = 4 := by omega
  rcases e with rfl | rfl | rfl | rfl
  · exact aw_1 w
  · exact aw_2 w
  · exact aw_3 w
  · exact aw_4 w
set_option maxHeartbeats 4000000 in
set_option maxRecDepth 100000 in
theorem aw_out (k : Int) (h : ¬ (1 ≤ k ∧ k < 5)) (w : World) : Calls Tryz.prog 31 #[.int .i64 k] w (Ret (.string (S [63])) w) := by
  by_cases h1 : k < 1
  · go_enter Tryz.func31, Tryz.ntmps31
    go_wp2
    go_ret
    exact ⟨by kernel_rfl, (Keeps.refl w).alloc _⟩
  · have h2 : 5 ≤ k := by omega
    clear h
    go_enter Tryz.func31, Tryz.ntmps31
    go_wp2
    go_ret
    exact ⟨by kernel_rfl, (Keeps.refl w).alloc _⟩
theorem aw_any (k : Int) (w : World) : Calls Tryz.prog 31 #[.int .i64 k] w (Ret (.string (S (awL k))) w) := by
  unfold awL
  split
  · exact aw_in k ‹_› w
  · exact aw_out k ‹_› w
end Go.Proofs.YtfapilgmgjmfeaaGreatDoor
