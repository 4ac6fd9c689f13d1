/-
  Plain facts: where the first end of a span lies.
-/
import Derived.Test.YtkphkcpckgdgaaaGreatDoorSa
namespace Nwl
open Go
theorem any_at (c : UInt8) (hc : c = 93 ∨ c = 41) (R : List UInt8) : ∀ A : List UInt8, (∀ a ∈ A, a ≠ 93 ∧ a ≠ 41) → Lib.indexAny (A ++ c :: R) [93, 41] = A.length
  | [], _ => by
    rw [List.nil_append, Lib.indexAny, if_pos (by rcases hc with rfl | rfl <;> decide)]; rfl
  | a :: A, h => by
    have ih := any_at c hc R A fun x hx => h x (List.mem_cons_of_mem _ hx)
    have ha := h a List.mem_cons_self
    have hn : List.contains ([93, 41] : List UInt8) a = false := by
      rw [List.contains_cons, List.contains_cons]
      simp [ha.1, ha.2]
    rw [List.cons_append, Lib.indexAny, hn, ih, List.length_cons]
    have : ((A.length : Int) == -1) = false := by rw [beq_eq_false_iff_ne]; omega
    rw [this]
    simp
end Nwl
