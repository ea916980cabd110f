/-
  The walk of the statement that identifiers are what the document says.
-/
import Derived.Test.YtjdlpfkcikomfabRei
namespace Go.Proofs.Ytjdlpfkcikomfab
open Go.RowKit

set_option maxHeartbeats 4000000 in
theorem calls_short (s : ByteArray) (w : World) (hs : s.size ≤ 600) : Calls Try.prog 4 #[.string s] w (RetQ true w) := by
  have hm : s.size ≤ maxLen := by unfold maxLen; omega
  have cL := Lib.hid (fun w => lives_any w)
  have cO := Lib.hid (fun w => serverOf_any s w hm)
  have dO := Lib.hid (fun w => serverOf13 s w hm)
  have cS := Lib.hid (fun w => server_any s w hm)
  have dS := Lib.hid (fun w => server14 s w hm)
  have cU := Lib.hid (fun w => user_any s w hm)
  have dU := Lib.hid (fun w => user16 s w hm)
  have cR := Lib.hid (fun w => room_any s w hm)
  have dR := Lib.hid (fun w => room18 s w hm)
  have cE := Lib.hid (fun w => event_any s w hm)
  have dE := Lib.hid (fun w => event20 s w hm)
  have cK := Lib.hid (fun w => kind_any s w hm)
  have dK := Lib.hid (fun w => kind21 s w hm)
  have cW := Lib.hid (fun w => lower_any s w hm)
  have dW := Lib.hid (fun w => lower22 s w hm)
  clear hm
  unfold RetSB at cO dO
  unfold RetS at cW dW
  generalize S (serverOfL s.data.toList).1 = a at cO dO
  generalize (serverOfL s.data.toList).2 = b at cO dO
  generalize serverB s.data.toList = x1 at cS dS
  generalize userB s.data.toList = x2 at cU dU
  generalize roomB s.data.toList = x3 at cR dR
  generalize eventB s.data.toList = x4 at cE dE
  generalize kindI s.data.toList = x5 at cK dK
  generalize S (lowL s.data.toList) = x6 at cW dW
  go_enter Try.func4, Try.ntmps4
  go_wp2_with fail
  refine (cL.out _).mono ?_
  rintro e w2 ⟨rfl, h⟩
  go_wp2_with fail
  refine (cO.out _).mono ?_
  rintro e w2 ⟨rfl, h2⟩
  have h1 := h.trans h2; clear h h2
  have h := h1; clear h1
  go_wp2_with fail
  refine (dO.out _).mono ?_
  rintro e w2 ⟨rfl, h2⟩
  have h1 := h.trans h2; clear h h2
  have h := h1; clear h1
  go_wp2_with fail
  refine (cS.out _).mono ?_
  rintro e w2 ⟨rfl, h2⟩
  have h1 := h.trans h2; clear h h2
  have h := h1; clear h1
  go_wp2_with fail
  refine (dS.out _).mono ?_
  rintro e w9 ⟨rfl, rfl⟩
  go_wp2_with fail
  refine (cU.out _).mono ?_
  rintro e w2 ⟨rfl, h2⟩
  have h1 := h.trans h2; clear h h2
  have h := h1; clear h1
  go_wp2_with fail
  refine (dU.out _).mono ?_
  rintro e w9 ⟨rfl, rfl⟩
  go_wp2_with fail
  refine (cR.out _).mono ?_
  rintro e w2 ⟨rfl, h2⟩
  have h1 := h.trans h2; clear h h2
  have h := h1; clear h1
  go_wp2_with fail
  refine (dR.out _).mono ?_
  rintro e w9 ⟨rfl, rfl⟩
  go_wp2_with fail
  refine (cE.out _).mono ?_
  rintro e w2 ⟨rfl, h2⟩
  have h1 := h.trans h2; clear h h2
  have h := h1; clear h1
  go_wp2_with fail
  refine (dE.out _).mono ?_
  rintro e w9 ⟨rfl, rfl⟩
  go_wp2_with fail
  refine (cK.out _).mono ?_
  rintro e w2 ⟨rfl, h2⟩
  have h1 := h.trans h2; clear h h2
  have h := h1; clear h1
  go_wp2_with fail
  refine (dK.out _).mono ?_
  rintro e w9 ⟨rfl, rfl⟩
  go_wp2_with fail
  refine (cW.out _).mono ?_
  rintro e w2 ⟨rfl, h2⟩
  have h1 := h.trans h2; clear h h2
  have h := h1; clear h1
  go_wp2_with fail
  refine (dW.out _).mono ?_
  rintro e w2 ⟨rfl, h2⟩
  have h1 := h.trans h2; clear h h2
  have h := h1; clear h1
  go_wp2
  go_ret
  exact RetQ.of (by simp) h

set_option maxHeartbeats 1000000 in
theorem calls_long (s : ByteArray) (w : World) (hs : 600 < s.size) (hm : s.size ≤ maxLen) : Calls Try.prog 4 #[.string s] w (RetQ true w) := by
  have cL := Lib.hid (fun w => lives_any w)
  unfold maxLen at hm
  go_enter Try.func4, Try.ntmps4
  go_wp2_with fail
  refine (cL.out _).mono ?_
  rintro e w2 ⟨rfl, h⟩
  go_wp2
  go_ret
  exact RetQ.of rfl h

theorem calls_any (s : ByteArray) (w : World) (hm : s.size ≤ maxLen) : Calls Try.prog 4 #[.string s] w (RetQ true w) := by
  by_cases hs : s.size ≤ 600
  · exact calls_short s w hs
  · exact calls_long s w (by omega) hm
end Go.Proofs.Ytjdlpfkcikomfab
