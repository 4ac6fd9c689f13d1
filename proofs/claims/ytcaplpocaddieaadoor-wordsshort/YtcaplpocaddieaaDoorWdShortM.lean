/-
  Plain facts for WordsShort: by the kernel, over all numbers.
-/
import Derived.Test.YtcaplpocaddieaaDoorWdParts
namespace Nwl
def sN (y : Nat) : List UInt8 := if y = 0 then [97] else if y = 1 then [98] else [109]
def shortOk (x y : Nat) : Bool :=
  let D := decF 9 (x + 1)
  decide (splitW ([49] ++ sN y ++ D) = [⟨10, [49]⟩, ⟨y + 1, []⟩, ⟨9, D⟩]) && decide (splitW ([49, 45] ++ sN y ++ [45] ++ D) = [⟨10, [49]⟩, ⟨8, sN y⟩, ⟨9, D⟩]) && decide (splitW ([49] ++ sN y) = [⟨10, [49]⟩, ⟨8, sN y⟩])
theorem short_all : ((List.range 500).all fun x => (List.range 3).all fun y => shortOk x y) = true := by decide +kernel
theorem short_at (x y : Nat) (hx : x < 500) (hy : y < 3) : splitW ([49] ++ sN y ++ decF 9 (x + 1)) = [⟨10, [49]⟩, ⟨y + 1, []⟩, ⟨9, decF 9 (x + 1)⟩] ∧ splitW ([49, 45] ++ sN y ++ [45] ++ decF 9 (x + 1)) = [⟨10, [49]⟩, ⟨8, sN y⟩, ⟨9, decF 9 (x + 1)⟩] ∧ splitW ([49] ++ sN y) = [⟨10, [49]⟩, ⟨8, sN y⟩] := by
  have h1 := List.all_eq_true.1 short_all x (List.mem_range.2 hx)
  have h2 := List.all_eq_true.1 h1 y (List.mem_range.2 hy)
  unfold shortOk at h2
  simp only [Bool.and_eq_true, decide_eq_true_eq] at h2
  exact ⟨h2.1.1, h2.1.2, h2.2⟩
end Nwl
