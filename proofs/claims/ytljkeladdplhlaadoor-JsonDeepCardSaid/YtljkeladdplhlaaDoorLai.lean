/-
  The tables of unicode/utf8, out of what the rows list.
-/
import Derived.Test.YtljkeladdplhlaaDoorRows
import Derived.Test.YtljkeladdplhlaaDoorUnq
import Derived.PinnedBridge
import Derived.Lib.LaidU8T
import Derived.MakeChecks
namespace Go.Proofs.YtljkeladdplhlaaDoor
open Go.RowKit

def R8 : Go.Shelf.Ren := ⟨fun x => x, fun | 119 => 115 | 138 => 117 | 139 => 118 | n => n, fun | 3 => 0 | 4 => 1 | n => n⟩
theorem u8types : U8Types Tryd.prog R8 where
  t5 := by kernel_rfl
  t119 := by kernel_rfl
  t138 := by kernel_rfl
  t139 := by kernel_rfl
theorem u8extra : U8Extra Tryd.prog R8 where
  n3 := by kernel_rfl
  n4 := by kernel_rfl
  y3 := by kernel_rfl
  y4 := by kernel_rfl
  c5 := by kernel_rfl
  c119 := by kernel_rfl
  c138 := by kernel_rfl
theorem accept_eq : (Rows.laid_unicode_utf8_acceptRanges : DataW Unit) = Go.Lib.acceptData := by kernel_rfl
theorem utf_reads {l : List (String × DataW Unit)} {W : World} (h : laidMet Tryd.prog l W) (h3 : ("unicode/utf8.first", Rows.laid_unicode_utf8_first) ∈ l) (h4 : ("unicode/utf8.acceptRanges", (Rows.laid_unicode_utf8_acceptRanges : DataW Unit)) ∈ l) : Utf W := by
  have e3 := Go.Lib.laidMet.reads h h3
  have e4 := Go.Lib.laidMet.reads h h4
  rw [show Rows.laid_unicode_utf8_first = Go.Lib.firstData from Go.Pinned.utf8First_eq] at e3
  rw [accept_eq] at e4
  exact utf8Tabs_of_readsT (ρ := R8) u8types u8extra e3 e4
end Go.Proofs.YtljkeladdplhlaaDoor
