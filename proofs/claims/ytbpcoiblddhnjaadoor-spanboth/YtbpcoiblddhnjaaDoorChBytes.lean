/-
  Contracts of the calls on single bytes (chars, and the document's own answers): each tells what the plain function tells, and leaves memory alone.
-/
import Derived.Test.YtbpcoiblddhnjaaDoorRows
import Derived.Test.YtbpcoiblddhnjaaDoorChMath
import Derived.WalkKit
import Derived.WalkLawsBesides
import Derived.WalkSpells
namespace Go.Proofs.YtbpcoiblddhnjaaDoor
open Nwl

theorem ret_bool {a b : Bool} (h : a = b) : Ending.returned (.bool a) = .returned (.bool b) := by rw [h]
theorem ret_str {a b : ByteArray} (h : a = b) : Ending.returned (.string a) = .returned (.string b) := by rw [h]

set_option maxHeartbeats 400000 in
theorem Digit_c (c : Int) (w : World) :
    Calls Tryd.prog 94 #[.int .u8 c] w fun e w' => e = .returned (.bool (digitI c)) ∧ w = w' := by
  go_enter Tryd.func94, Tryd.ntmps94
  go_wp2
  all_goals go_ret
  all_goals exact ⟨by simp [digitI, *] <;> omega, rfl⟩

set_option maxHeartbeats 400000 in
theorem refDigit_c (c : Int) (w : World) :
    Calls Tryd.prog 75 #[.int .u8 c] w fun e w' => e = .returned (.bool (digitI c)) ∧ w = w' := by
  go_enter Tryd.func75, Tryd.ntmps75
  go_wp2
  all_goals go_ret
  all_goals exact ⟨by simp [digitI, *] <;> omega, rfl⟩

set_option maxHeartbeats 400000 in
theorem upper_c (c : Int) (w : World) :
    Calls Tryd.prog 93 #[.int .u8 c] w fun e w' => e = .returned (.bool (upperI c)) ∧ w = w' := by
  go_enter Tryd.func93, Tryd.ntmps93
  go_wp2
  all_goals go_ret
  all_goals exact ⟨by simp [upperI, *] <;> omega, rfl⟩

end Go.Proofs.YtbpcoiblddhnjaaDoor
