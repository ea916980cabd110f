/-
  Depth and Count, of package json.
-/
import Derived.Test.YtljkeladdplhlaaDoorChe
namespace Go.Proofs.YtljkeladdplhlaaDoor
open Go.RowKit

set_option maxHeartbeats 2000000 in
theorem Depth_any (j : J) (v : Value) (F : Nat → Prop) (w : World) (hj : IsJ w F j v) (hF : ∀ i, F i → i < w.heap.size) (hb : nodesJ j ≤ 900000) :
    Calls Tryd.prog 16 #[v] w (RetE (depthJ j) w) := by
  have cD := Lib.hid (fun wx (k : Keeps w wx) => depth_any j v F 9223372036854775807 wx (IsJ.keeps (fun i hi => k.block i (hF i hi)) _ _ hj) (fun i hi => Nat.lt_of_lt_of_le (hF i hi) k.size) hb (by omega) (by omega))
  have hdb := depthJ_nodes j
  have HD : Hid (depthJ j ≤ 900000) := Lib.hid (by omega)
  obtain ⟨jk, jn, jt, jks, jis, kv, iv, -, rfl, hkv, hiv⟩ := hj.parts
  obtain ⟨ka, kc, rfl⟩ := hkv.form
  obtain ⟨ia, ic, rfl⟩ := hiv.form
  clear hj hkv hiv hdb hb
  generalize jks.length = nk at *
  generalize jis.length = ni at *
  generalize depthJ j = D at *
  clear hF
  go_enter Tryd.func16, Tryd.ntmps16
  go_wp2_with fail
  refine (cD.out _ ((Keeps.refl w).alloc _)).mono ?_
  rintro e w2 ⟨r, rfl, h1, -, -, hk⟩
  obtain rfl := h1 (by have := HD.out; omega)
  have hk2 := Lib.hid (((Keeps.refl w).alloc _).trans hk)
  clear h1 hk
  go_wp2
  go_ret
  exact ⟨rfl, hk2.out⟩
set_option maxHeartbeats 2000000 in
theorem Count_any (j : J) (v : Value) (F : Nat → Prop) (w : World) (hj : IsJ w F j v) (hF : ∀ i, F i → i < w.heap.size) (hb : nodesJ j ≤ 900000) :
    Calls Tryd.prog 18 #[v] w (RetE (nodesJ j) w) := by
  have cD := Lib.hid (fun wx (k : Keeps w wx) => count_any j v F 9223372036854775807 wx (IsJ.keeps (fun i hi => k.block i (hF i hi)) _ _ hj) (fun i hi => Nat.lt_of_lt_of_le (hF i hi) k.size) (by omega) (by omega) (by omega))
  have HD : Hid (nodesJ j ≤ 900000) := Lib.hid (by omega)
  obtain ⟨jk, jn, jt, jks, jis, kv, iv, -, rfl, hkv, hiv⟩ := hj.parts
  obtain ⟨ka, kc, rfl⟩ := hkv.form
  obtain ⟨ia, ic, rfl⟩ := hiv.form
  clear hj hkv hiv hb
  generalize jks.length = nk at *
  generalize jis.length = ni at *
  generalize nodesJ j = D at *
  clear hF
  go_enter Tryd.func18, Tryd.ntmps18
  go_wp2_with fail
  refine (cD.out _ ((Keeps.refl w).alloc _)).mono ?_
  rintro e w2 ⟨r, rfl, h1, -, -, hk⟩
  obtain rfl := h1 (by have := HD.out; omega)
  have hk2 := Lib.hid (((Keeps.refl w).alloc _).trans hk)
  clear h1 hk
  go_wp2
  go_ret
  exact ⟨rfl, hk2.out⟩
end Go.Proofs.YtljkeladdplhlaaDoor
