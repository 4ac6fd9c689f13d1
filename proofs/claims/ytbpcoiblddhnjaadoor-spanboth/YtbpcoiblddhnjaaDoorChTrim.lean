/-
  Contracts of Trim and its parts (chars, and the document's own answer).
-/
import Derived.Test.YtbpcoiblddhnjaaDoorChName
import Derived.WalkMore
import Derived.ScopeJumps
namespace Go.Proofs.YtbpcoiblddhnjaaDoor
open Nwl
open Go.RowKit (Hid intOf)

theorem dropB_size (s : ByteArray) : (dropB s).size ≤ s.size := by
  rw [← bs_length (dropB s), ← bs_length s, dropB, bs_tx]; exact (List.dropWhile_sublist _).length_le
theorem trimB_size (s : ByteArray) : (trimB s).size ≤ s.size := by
  rw [← bs_length (trimB s), ← bs_length s, trimB, bs_tx, trimL, List.length_reverse]
  refine Nat.le_trans ((List.dropWhile_sublist _).length_le) ?_
  rw [List.length_reverse]
  exact (List.dropWhile_sublist _).length_le