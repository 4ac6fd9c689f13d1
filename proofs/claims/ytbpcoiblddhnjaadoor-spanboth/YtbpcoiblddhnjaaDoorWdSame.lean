/-
  newelhelp.Plain over words: told whether two rows hold the same.
-/
import Derived.Test.YtbpcoiblddhnjaaDoorWdSplit
import Derived.Deep.RegionWith
namespace Go.Proofs.YtbpcoiblddhnjaaDoor
open Nwl
open Go.RowKit Go.Maps
set_option linter.unusedVariables false

/-- a row of words that may be read, below block B -/
def WdR (B : Nat) (w : World) (A : Option Addr) (n : Nat) (l : List Wd) : Prop := n = l.length ∧ ∀ j (hj : j < l.length), ∃ g, A = some ⟨g, 0, none⟩ ∧ g < B ∧ w.cell? ⟨g, j * 2, none⟩ = some (.int .i64 (l[j].k : Nat)) ∧ w.cell? ⟨g, j * 2 + 1, none⟩ = some (.string (tx l[j].t))
theorem WdRow.r {B : Nat} {w : World} {A : Option Addr} {n c : Nat} {l : List Wd} (h : WdRow B w A n c l) : WdR w.heap.size w A n l := by
  refine ⟨h.1, fun j hj => ?_⟩
  rcases h.cells with ⟨_, _, rfl, _⟩ | ⟨g, rfl, _, hg, _, _, hc⟩
  · simp at hj
  · exact ⟨g, rfl, hg, hc j hj⟩
theorem WdR.below {B : Nat} {w w' : World} {A : Option Addr} {n : Nat} {l : List Wd} (h : WdR B w A n l) (hb : Below B w w') : WdR B w' A n l := by
  refine ⟨h.1, fun j hj => ?_⟩
  obtain ⟨g, hA, hg, c0, c1⟩ := h.2 j hj
  exact ⟨g, hA, hg, (hb.cell (p := ⟨g, j * 2, none⟩) hg).trans c0, (hb.cell (p := ⟨g, j * 2 + 1, none⟩) hg).trans c1⟩
theorem WdR.mono {B B' : Nat} {w : World} {A : Option Addr} {n : Nat} {l : List Wd} (h : WdR B w A n l) (hb : B ≤ B') : WdR B' w A n l := by
  refine ⟨h.1, fun j hj => ?_⟩
  obtain ⟨g, hA, hg, c0, c1⟩ := h.2 j hj
  exact ⟨g, hA, by omega, c0, c1⟩
/-- words that were laid in a block of their own -/
theorem WdR.blk {B g : Nat} {w : World} {l : List Wd} {cs : Array Value} (h : Blk w g 87 cs) (hB : g < B) (hc : cs.toList = wdCells l) : WdR B w (some ⟨g, 0, none⟩) l.length l := by
  refine ⟨rfl, fun j hj => ?_⟩
  obtain ⟨q1, q2⟩ := wdCells_get l j hj
  rw [← hc] at q1 q2
  exact ⟨g, rfl, hB, (h.cell _).trans (by simpa using q1), (h.cell _).trans (by simpa using q2)⟩

theorem below_drew_trans {w wr w2 : World} (h : Below w.heap.size w wr) (h2 : Below wr.drew.heap.size wr.drew w2) : Below w.heap.size w w2 := h.drew.trans (h2.mono h.size)