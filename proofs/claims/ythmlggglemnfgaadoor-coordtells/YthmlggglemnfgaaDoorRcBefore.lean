/-
  The document's own answers (layer 6): before: which of two versions stands ahead.
-/
import Derived.Test.YthmlggglemnfgaaDoorRcWords
import Derived.Deep.CutRange
import Derived.BigRegion
namespace Nwl
open Go
theorem before_way (a b : List UInt8) (r : Bool) (h : decide (ordV a b < 0) = r) : (cmpV a b = -1 ∧ r = true) ∨ (cmpV a b = 0 ∧ Op.bytesLess a b = r) ∨ (cmpV a b = 1 ∧ r = false) := by
  rcases ord_v.sgn a b with hs | hs | hs
  · refine .inl ⟨hs, ?_⟩
    rw [← h]
    unfold ordV thenI
    rw [hs]; rfl
  · refine .inr (.inl ⟨hs, ?_⟩)
    rw [← h, less_cb]
    unfold ordV thenI
    rw [hs, if_pos rfl]
    rcases cb_sgn a b with q | q | q <;> rw [q] <;> decide
  · refine .inr (.inr ⟨hs, ?_⟩)
    rw [← h]
    unfold ordV thenI
    rw [hs]; rfl
end Nwl
namespace Go.Proofs.YthmlggglemnfgaaDoor
open Nwl
open Go.RowKit Go.Maps
set_option linter.unusedVariables false
set_option linter.unusedSimpArgs false

set_option maxRecDepth 100000 in
set_option maxHeartbeats 1000000 in
theorem rbefore_c (a b : ByteArray) (w : World) (ha : a.size ≤ 3000) (hb : b.size ≤ 3000) (r : Bool) (hr : decide (ordV (bs a) (bs b) < 0) = r) :
    Calls Tryd.prog 29 #[.string a, .string b] w fun e w' => e = .returned (.bool r) ∧ Hid (Below w.heap.size w w') := by
  rcases before_way _ _ _ hr with ⟨hs, rfl⟩ | ⟨hs, hl⟩ | ⟨hs, rfl⟩
  · have HC := Lib.hid hs
    clear hs hr
    go_enter Tryd.func29, Tryd.ntmps29
    go_wp2_with fail
    refine (rCompare_c a b _ ha hb _ HC.out).mono ?_
    rintro e w1 ⟨rfl, b1⟩
    go_wp2_with fail
    go_ret
    exact ⟨rfl, b1⟩
  · have HC := Lib.hid hs
    have hl2 : Op.bytesLess a.toList b.toList = r := by rw [toList_bs, toList_bs]; exact hl
    clear hs hr hl
    cases r
    all_goals
      go_enter Tryd.func29, Tryd.ntmps29
      go_wp2_with fail
      refine (rCompare_c a b _ ha hb _ HC.out).mono ?_
      rintro e w1 ⟨rfl, b1⟩
      go_wp2_with fail
      go_ret
      exact ⟨rfl, b1⟩
  · have HC := Lib.hid hs
    clear hs hr
    go_enter Tryd.func29, Tryd.ntmps29
    go_wp2_with fail
    refine (rCompare_c a b _ ha hb _ HC.out).mono ?_
    rintro e w1 ⟨rfl, b1⟩
    go_wp2_with fail
    go_ret
    exact ⟨rfl, b1⟩
end Go.Proofs.YthmlggglemnfgaaDoor
