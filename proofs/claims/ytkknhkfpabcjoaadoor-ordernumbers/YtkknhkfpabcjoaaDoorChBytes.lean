/-
  Contracts of the calls on single bytes (chars, and the document's own answers): each tells what the plain function tells, and leaves memory alone.
-/
import Derived.Test.YtkknhkfpabcjoaaDoorRows
import Derived.Test.YtkknhkfpabcjoaaDoorChMath
import Derived.WalkKit
import Derived.WalkLawsBesides
import Derived.WalkSpells
namespace Go.Proofs.YtkknhkfpabcjoaaDoor
open Nwl

theorem ret_bool {a b : Bool} (h : a = b) : Ending.returned (.bool a) = .returned (.bool b) := by rw [h]
theorem ret_str {a b : ByteArray} (h : a = b) : Ending.returned (.string a) = .returned (.string b) := by rw [h]

set_option maxHeartbeats 400000 in
theorem Digit_c (c : Int) (w : World) :
    Calls Tryd.prog 57 #[.int .u8 c] w fun e w' => e = .returned (.bool (digitI c)) ∧ w = w' := by
  go_enter Tryd.func57, Tryd.ntmps57
  go_wp2
  all_goals go_ret
  all_goals exact ⟨by simp [digitI, *] <;> omega, rfl⟩

set_option maxHeartbeats 400000 in
theorem refDigit_c (c : Int) (w : World) :
    Calls Tryd.prog 61 #[.int .u8 c] w fun e w' => e = .returned (.bool (digitI c)) ∧ w = w' := by
  go_enter Tryd.func61, Tryd.ntmps61
  go_wp2
  all_goals go_ret
  all_goals exact ⟨by simp [digitI, *] <;> omega, rfl⟩

set_option maxHeartbeats 400000 in
theorem upper_c (c : Int) (w : World) :
    Calls Tryd.prog 56 #[.int .u8 c] w fun e w' => e = .returned (.bool (upperI c)) ∧ w = w' := by
  go_enter Tryd.func56, Tryd.ntmps56
  go_wp2
  all_goals go_ret
  all_goals exact ⟨by simp [upperI, *] <;> omega, rfl⟩

end Go.Proofs.YtkknhkfpabcjoaaDoor
