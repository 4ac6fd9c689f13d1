/-
  Contracts of the calls that only read (package words): mayStand, separates, digitAt, Right, partEnd, namedKind, shortKind.
-/
import Derived.Test.YtbpcoiblddhnjaaDoorGnMem
import Derived.Test.YtbpcoiblddhnjaaDoorWdMath
import Derived.Deep.QuietTactic
import Derived.Deep.RegionWith
import Derived.BigQuiet
namespace Nwl
theorem bs_lit (l : List UInt8) (s : ByteArray) : (s = ⟨l.toArray⟩) ↔ bs s = l := by
  constructor
  · intro h; rw [h]; rfl
  · intro h; exact bs_inj (by rw [h]; rfl)
theorem digHd_drop (s : ByteArray) (k : Nat) (h : k < s.size) : digHd ((bs s).drop k) = digitI s[k].toNat := by
  have hl := bs_length s
  rw [List.drop_eq_getElem_cons (by omega)]
  rfl
theorem digHd_end (s : ByteArray) (k : Nat) (h : s.size ≤ k) : digHd ((bs s).drop k) = false := by
  rw [List.drop_eq_nil_of_le (by rw [bs_length]; exact h)]; rfl
end Nwl
namespace Go.Proofs.YtbpcoiblddhnjaaDoor
open Nwl
open Go.RowKit Go.Maps
set_option linter.unusedVariables false

theorem ret_i64 {a b : Int} (h : a = b) : Ending.returned (.int .i64 a) = .returned (.int .i64 b) := by rw [h]
theorem toList_bs (s : ByteArray) : s.toList = bs s := by rw [ByteArray.toList_eq]; rfl

set_option maxHeartbeats 400000 in
theorem mayStand_c (c : Int) (w : World) :
    Calls Tryd.prog 62 #[.int .u8 c] w fun e w' => e = .returned (.bool (mayV c)) ∧ w = w' := by
  go_enter Tryd.func62, Tryd.ntmps62
  go_wp2
  all_goals go_ret
  all_goals exact ⟨ret_bool (by rw [Bool.eq_iff_iff]; simp [mayV, *] <;> omega), rfl⟩

set_option maxHeartbeats 400000 in
theorem separates_c (c : Int) (w : World) :
    Calls Tryd.prog 84 #[.int .u8 c] w fun e w' => e = .returned (.bool (sepI c)) ∧ w = w' := by
  go_enter Tryd.func84, Tryd.ntmps84
  go_wp2
  all_goals go_ret
  all_goals exact ⟨by simp [sepI, *] <;> omega, rfl⟩

set_option maxHeartbeats 400000 in
theorem digitAt_c (s : ByteArray) (k : Nat) (w : World) (hs : s.size ≤ maxLen) (hk : k ≤ s.size) (r : Bool) (hr : digHd ((bs s).drop k) = r) :
    Calls Tryd.prog 82 #[.string s, .int .i64 k] w fun e w' => e = .returned (.bool r) ∧ w = w' := by
  unfold maxLen at hs
  by_cases h : k < s.size
  · rw [digHd_drop s k h] at hr
    go_enter Tryd.func82, Tryd.ntmps82
    go_wp2_with (go_at_call 94; refine (Digit_c _ _).mono ?_; rintro e w' ⟨rfl, rfl⟩)
    all_goals go_ret
    all_goals exact ⟨rfl, rfl⟩
  · rw [digHd_end s k (by omega)] at hr
    subst hr
    go_enter Tryd.func82, Tryd.ntmps82
    go_wp2
    all_goals go_ret
    all_goals exact ⟨rfl, rfl⟩

set_option maxHeartbeats 800000 in
theorem namedKind_c (s : ByteArray) (w : World) :
    Calls Tryd.prog 96 #[.string s] w fun e w' => e = .returned (.int .i64 (namedK (bs s) : Nat)) ∧ w = w' := by
  go_enter Tryd.func96, Tryd.ntmps96
  go_wp2
  all_goals go_ret
  all_goals exact ⟨ret_i64 (by simp_all [namedK, toList_bs]), rfl⟩

set_option maxHeartbeats 800000 in
theorem shortKind_c (s : ByteArray) (w : World) :
    Calls Tryd.prog 97 #[.string s] w fun e w' => e = .returned (.int .i64 (shortK (bs s) : Nat)) ∧ w = w' := by
  go_enter Tryd.func97, Tryd.ntmps97
  go_wp2
  all_goals go_ret
  all_goals exact ⟨ret_i64 (by simp_all [shortK, toList_bs]), rfl⟩
end Go.Proofs.YtbpcoiblddhnjaaDoor
