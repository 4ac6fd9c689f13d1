/-
  Layer 7: awake; Parse as the laws call it.
-/
import Derived.Test.YtbpcoiblddhnjaaDoorSpParse2
import Derived.Test.YtbpcoiblddhnjaaDoorSpText
namespace Nwl
def awS : List Sp := [⟨[49], [50], true, false⟩]
theorem aw_parse7 : parseL [91, 49, 44, 50, 41] = some awS := by decide +kernel
theorem aw_holds7 : holdsB awS [49, 46, 53] = true := by decide +kernel
theorem aw_text7 : rangeL awS = [91, 49, 44, 50, 41] := by decide +kernel
theorem aw_is7 : isR [40] = true := by decide +kernel
end Nwl
namespace Go.Proofs.YtbpcoiblddhnjaaDoor
open Nwl
open Go.RowKit Go.Maps
set_option linter.unusedVariables false

theorem Parse_no (s : ByteArray) (w : World) (hs : s.size ≤ 1000) (ha : ∀ c ∈ bs s, c.toNat < 128) (hF : parseL (bs s) = none) :
    Calls Tryd.prog 14 #[.string s] w fun e w' => e = .returned (.tuple #[.slice none 0 0, .int .i64 12]) ∧ Hid (Below w.heap.size w w') := by
  refine (Parse_c s w hs ha none hF).mono ?_
  rintro e w' hh
  obtain ⟨h1, h2⟩ := hh.out
  rcases h2 with ⟨_, h2⟩ | ⟨l, A, n, c, h2, _⟩
  · exact ⟨h2, Lib.hid h1⟩
  · cases h2
theorem Parse_yes (s : ByteArray) (w : World) (hs : s.size ≤ 1000) (ha : ∀ c ∈ bs s, c.toNat < 128) (l : List Sp) (hF : parseL (bs s) = some l) (n : Nat) (hn : l.length = n) :
    Calls Tryd.prog 14 #[.string s] w fun e w' => ∃ A c, e = .returned (.tuple #[.slice A n c, .int .i64 0]) ∧ Hid (SpR w'.heap.size w' A n l ∧ SpShort l ∧ n ≤ 20) ∧ Hid (Below w.heap.size w w') := by
  refine (Parse_c s w hs ha (some l) hF).mono ?_
  rintro e w' hh
  obtain ⟨h1, h2⟩ := hh.out
  rcases h2 with ⟨h2, _⟩ | ⟨l', A, n', c, h2, h3, h4, h5, h6⟩
  · cases h2
  · cases h2
    obtain rfl : n' = n := by rw [← hn]; exact h4.1
    exact ⟨A, c, h3, Lib.hid ⟨h4.r, h5, h6⟩, Lib.hid h1⟩

set_option maxRecDepth 100000 in
set_option maxHeartbeats 2000000 in
theorem awake7_c (w : World) : Calls Tryd.prog 9 #[] w fun e w' => e = .returned (.bool true) ∧ Hid (Below w.heap.size w w') := by
  go_enter Tryd.func9, Tryd.ntmps9
  go_wp2_with fail
  refine (Parse_yes ⟨#[91, 49, 44, 50, 41]⟩ w (by decide) (by decide) awS aw_parse7 1 rfl).mono ?_
  rintro e w1 ⟨A, c, rfl, h1, b1⟩
  go_wp2_with fail
  refine (Holds_c A 1 c awS ⟨#[49, 46, 53]⟩ w1 _ (Nat.le_refl _) h1.out.1 (by omega) h1.out.2.1 (by decide) true aw_holds7).mono ?_
  rintro e w2 ⟨rfl, b2⟩
  have B2 := Lib.hid (b1.out.trans (b2.out.mono b1.out.size))
  have R2 := Lib.hid (h1.out.1.below b2.out)
  go_wp2_with fail
  refine (Is_c ⟨#[40]⟩ w2 true aw_is7).mono ?_
  rintro e w3 ⟨rfl, rfl⟩
  go_wp2_with fail
  refine (Text_c A 1 c awS w2 _ b2.out.size R2.out (by omega) h1.out.2.1 _ aw_text7).mono ?_
  rintro e w3 ⟨rfl, b3⟩
  have B3 := Lib.hid (B2.out.trans (b3.out.mono B2.out.size))
  have htl : (tx [91, 49, 44, 50, 41]).toList = [91, 49, 44, 50, 41] := by rw [toList_bs]; rfl
  go_wp2_with fail
  go_ret
  exact ⟨rfl, B3⟩
end Go.Proofs.YtbpcoiblddhnjaaDoor
