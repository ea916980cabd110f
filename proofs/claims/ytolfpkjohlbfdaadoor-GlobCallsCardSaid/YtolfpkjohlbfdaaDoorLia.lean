/-
  strings.IndexRune, IndexAny, ContainsAny of both wildcards, and Literal of package glob: whatever the text; given IndexRune at a rune of two bytes.
-/
import Derived.Test.YtolfpkjohlbfdaaDoorIxa
import Derived.Test.YtolfpkjohlbfdaaDoorLit
namespace Go.Proofs.YtolfpkjohlbfdaaDoor
open Go.RowKit

/-- What is still wanted of IndexRune: a rune of two bytes. -/
def TwoOk : Prop := ∀ (r : Nat) (rs : ByteArray) (w : World), 128 ≤ r → r ≤ 2147483647 → r ≠ 65533 → Lib.validRune r = true → Utf8.encode r = rs → rs.size = 2 → (∀ h : 1 < rs.size, 128 ≤ (rs[1]'h).toNat) →
    Calls Tryd.prog 44 #[.string ⟨#[42, 63]⟩, .int .i32 r] w (RetM w)

theorem valid_of (r : Nat) (h : Lib.validRune r = true) : Utf8.valid r = true := by
  unfold Lib.validRune at h
  have h := of_decide_eq_true h
  unfold Utf8.valid
  simp only [Bool.or_eq_true, Bool.and_eq_true, decide_eq_true_eq]
  omega

set_option maxRecDepth 1000000 in
theorem ixr_any (hT : TwoOk) (r : Nat) (w : World) (h1 : 128 ≤ r) (h2 : r ≤ 2147483647) : Calls Tryd.prog 44 #[.string ⟨#[42, 63]⟩, .int .i32 r] w (RetM w) := by
  by_cases h3 : r = 65533
  · subst h3; exact ixr_err w
  · cases hv : Lib.validRune r
    · exact ixr_bad r w h1 h2 h3 hv
    · have hf := encode_facts r (valid_of r hv) (by omega)
      have hL : (3 ≤ (Utf8.encode r).size → (Utf8.encode r).size ≤ 4 → Calls Tryd.prog 44 #[.string ⟨#[42, 63]⟩, .int .i32 r] w (RetM w)) := fun a b => ixr_long r w h1 h2 h3 hv a b
      have hW : ∀ rs, Utf8.encode r = rs → rs.size = 2 → (∀ h : 1 < rs.size, 128 ≤ (rs[1]'h).toNat) → Calls Tryd.prog 44 #[.string ⟨#[42, 63]⟩, .int .i32 r] w (RetM w) := fun rs a b c => hT r rs w h1 h2 h3 hv a b c
      generalize Utf8.encode r = rs at hf hL hW
      obtain ⟨f1, f2, f3⟩ := hf
      by_cases hn : rs.size = 2
      · refine hW rs rfl hn fun h => ?_
        have := f3 (by omega)
        simpa [hn] using this
      · exact hL (by omega) f2

theorem infoSet : (Tryd.prog.info? 54).map (fun i => (i.zero, i.size)) = some (some (.agg (Array.replicate 256 (.bool false))), 256) := by kernel_rfl

theorem ixa_any (hT : TwoOk) (s : ByteArray) (w : World) (hs : s.size < 4294967281) : Calls Tryd.prog 32 #[.string s, .string ⟨#[42, 63]⟩] w fun e w' => e = .returned (.int .i64 (Lib.indexAny s.data.toList [42, 63])) ∧ Keeps w w' := by
  by_cases h8 : s.size ≤ 8
  · exact ixa_short s w h8 (fun r w1 h1 h2 => ixr_any hT r w1 h1 h2)
  · refine (Tryd.strings_IndexAny_long (zero_of_info infoSet).1 s ⟨#[42, 63]⟩ w (by decide) (by omega) hs (by decide) ?_).mono ?_
    · intro j b e
      have := List.mem_of_getElem? e
      have h2 : b = 42 ∨ b = 63 := by simpa using this
      rcases h2 with rfl | rfl <;> decide
    · rintro e w' ⟨rfl, rfl⟩
      exact ⟨rfl, ((Keeps.refl w).alloc _).alloc _⟩

set_option maxHeartbeats 1000000 in
theorem contains_any (hT : TwoOk) (s : ByteArray) (w : World) (hs : s.size < 4294967281) : Calls Tryd.prog 22 #[.string s, .string ⟨#[42, 63]⟩] w (RetQ (Lib.containsAny s.data.toList [42, 63]) w) := by
  have c := Lib.hid (ixa_any hT s w hs)
  have hc : Lib.containsAny s.data.toList [42, 63] = decide (0 ≤ Lib.indexAny s.data.toList [42, 63]) := rfl
  generalize Lib.indexAny s.data.toList [42, 63] = z at c hc
  generalize Lib.containsAny s.data.toList [42, 63] = b at hc ⊢
  subst hc
  go_enter Tryd.func22, Tryd.ntmps22
  go_wp2_with fail
  refine c.out.mono ?_
  rintro e w2 ⟨rfl, h⟩
  go_wp2
  go_ret
  exact RetQ.of rfl h

theorem lit_any (hT : TwoOk) (s : ByteArray) (w : World) (hs : s.size < 4294967281) : Calls Tryd.prog 8 #[.string s] w (RetL (if Lib.containsAny s.data.toList [42, 63] = true then ⟨#[]⟩ else s) (!Lib.containsAny s.data.toList [42, 63]) w) :=
  lit_of s _ w (contains_any hT s w hs)
end Go.Proofs.YtolfpkjohlbfdaaDoor
