/-
  Versions in memory: order.newVersions, order.texts.
-/
import Derived.Test.YtbpcoiblddhnjaaDoorOrVer
import Derived.Laws.MakeOwn
namespace Nwl
open Go
/-- a version in memory: its text, and its words -/
structure Vn where
  t : List UInt8
  A : Option Addr
  n : Nat
  c : Nat
theorem madeCells_get (z : Array Value) (m i : Nat) (h : i < m) : (madeCells z m)[i]? = some (z[i % z.size]!) := by
  unfold madeCells
  simp [h]
end Nwl
namespace Go.Proofs.YtbpcoiblddhnjaaDoor
open Nwl
open Go.RowKit Go.Maps
set_option linter.unusedVariables false