/-
  Texts in memory: newelhelp.Plain over them.
-/
import Derived.Test.YtkphkcpckgdgaaaDoorBe
import Derived.Deep.RegionWith
namespace Nwl
def fewL (l : List (List UInt8)) : Bool := l.all (fun x => decide (x.length ≤ 100)) && decide (l.length ≤ 20)
theorem fewL_mem {l : List (List UInt8)} (h : fewL l = true) : (∀ x ∈ l, x.length ≤ 100) ∧ l.length ≤ 20 := by
  unfold fewL at h
  rw [Bool.and_eq_true, List.all_eq_true, decide_eq_true_eq] at h
  exact ⟨fun x hx => of_decide_eq_true (h.1 x hx), h.2⟩
end Nwl
namespace Go.Proofs.YtkphkcpckgdgaaaDoor
open Nwl
open Go.RowKit Go.Maps
set_option linter.unusedVariables false

theorem below_dr {w wr w2 : World} (h : Below w.heap.size w wr) (h2 : Below wr.drew.heap.size wr.drew w2) : Below w.heap.size w w2 := h.drew.trans (h2.mono h.size)

end Go.Proofs.YtkphkcpckgdgaaaDoor
