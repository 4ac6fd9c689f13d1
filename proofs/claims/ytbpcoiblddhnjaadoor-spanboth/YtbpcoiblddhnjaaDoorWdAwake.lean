/-
  Layer 5: awake; Right, Split and Plain as the laws call them.
-/
import Derived.Test.YtbpcoiblddhnjaaDoorWdSplit2
import Derived.Test.YtbpcoiblddhnjaaDoorWdSame
namespace Nwl
def awW : List Wd := [⟨10, [49]⟩, ⟨1, []⟩, ⟨9, [49]⟩]
theorem aw_split : splitW [49, 46, 48, 45, 97, 108, 112, 104, 97, 49] = awW := by decide +kernel
theorem aw_right1 : rightV [49] = true := by decide +kernel
theorem aw_right0 : rightV [] = false := by decide +kernel
end Nwl
namespace Go.Proofs.YtbpcoiblddhnjaaDoor
open Nwl
open Go.RowKit Go.Maps
set_option linter.unusedVariables false

theorem Right_b (s : ByteArray) (w : World) (hs : s.size ≤ maxLen) (r : Bool) (hr : rightV (bs s) = r) :
    Calls Tryd.prog 48 #[.string s] w fun e w' => e = .returned (.bool r) ∧ w = w' := by
  subst hr; exact Right_c s w hs

theorem Split_b (v : ByteArray) (w : World) (hs : v.size ≤ 100000) (F : List Wd) (hF : splitW (bs v) = F) (n : Nat) (hn : F.length = n) :
    Calls Tryd.prog 61 #[.string v] w fun e w' => ∃ A c, e = .returned (.slice A n c) ∧ Hid (WdR w'.heap.size w' A n F) ∧ Hid (Below w.heap.size w w') := by
  subst hF
  subst hn
  refine (split_walk v w hs).mono ?_
  rintro e w' ⟨A, c, rfl, h1, h2⟩
  exact ⟨A, c, rfl, Lib.hid h1.r, Lib.hid h2⟩