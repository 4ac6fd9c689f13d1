/-
  The walk of CharsTell.
-/
import Derived.Test.YthbeeojpdcaimaaChKinds
namespace Go.Proofs.Ythbeeojpdcaimaa
open Nwl
open Go.RowKit

set_option maxRecDepth 100000 in
set_option maxHeartbeats 1000000 in
theorem CharsTell_walk (c : Int) (s : ByteArray) (w : World) (_hc : (Lit.int .u8 c).wf = true) (hs : s.size ≤ maxLen) :
    Calls Try.prog 3 #[.int .u8 c, .string s] w fun e w' => e = .returned (.bool true) ∧ Below w.heap.size w w' := by
  by_cases hbig : 1000 < s.size
  · unfold maxLen at hs
    go_enter Try.func3, Try.ntmps3
    go_wp2_with (go_at_call 8; refine (awake_c _).mono ?_; rintro e w' ⟨rfl, hb⟩)
    go_ret
    exact ⟨rfl, hb⟩
  · have hs2 : s.size ≤ 140737488351232 := by omega
    go_enter Try.func3, Try.ntmps3
    go_wp2_with (first
      | (go_at_call 8; refine (awake_c _).mono ?_; rintro e w1 ⟨rfl, hb⟩)
      | (go_at_call 9; refine (Space_c _ _).mono ?_; rintro e w' ⟨rfl, rfl⟩)
      | (go_at_call 10; refine (refSpace_c _ _).mono ?_; rintro e w' ⟨rfl, rfl⟩)
      | (go_at_call 11; refine (Allowed_c _ _).mono ?_; rintro e w' ⟨rfl, rfl⟩)
      | (go_at_call 12; refine (refAllowed_c _ _).mono ?_; rintro e w' ⟨rfl, rfl⟩)
      | (go_at_call 13; refine (Digit_c _ _).mono ?_; rintro e w' ⟨rfl, rfl⟩)
      | (go_at_call 14; refine (refDigit_c _ _).mono ?_; rintro e w' ⟨rfl, rfl⟩)
      | (go_at_call 15; refine (Name_c _ _ hs).mono ?_; rintro e w' ⟨rfl, rfl⟩)
      | (go_at_call 16; refine (refName_c _ _ hs).mono ?_; rintro e w' ⟨rfl, rfl⟩)
      | (go_at_call 17; refine (Trim_c _ _ hs).mono ?_; rintro e w' ⟨rfl, rfl⟩)
      | (go_at_call 18; refine (refTrim_c _ _ hs).mono ?_; rintro e w' ⟨rfl, rfl⟩)
      | (go_at_call 19; refine (Lower_c _ _ hs).mono ?_; rintro e w2 ⟨rfl, hb2⟩)
      | (go_at_call 20; refine (refLower_c _ _ hs2).mono ?_; rintro e w3 ⟨rfl, hb3⟩))
    go_ret
    have hz := hb.size
    have hz2 := hb2.size
    exact ⟨rfl, hb.trans ((hb2.mono hz).trans (hb3.mono (Nat.le_trans hz hz2)))⟩
end Go.Proofs.Ythbeeojpdcaimaa
