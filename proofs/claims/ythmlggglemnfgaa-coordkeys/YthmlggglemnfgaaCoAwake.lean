/-
  Layer 9: awake.
-/
import Derived.Test.YthmlggglemnfgaaCoKey
namespace Nwl
theorem aw9_par : parX [103, 58, 97, 58, 49] = (⟨[103], [97], [49]⟩, true) := by decide +kernel
theorem aw9_text : textC ⟨[103], [97], [49]⟩ = [103, 58, 97, 58, 49] := by decide +kernel
theorem aw9_key : keyL [103] [97] [] [] = [103, 58, 97, 58, 106, 97, 114, 58] := by decide +kernel
end Nwl
namespace Go.Proofs.Ythmlggglemnfgaa
open Nwl
open Go.RowKit Go.Maps
set_option linter.unusedVariables false
set_option linter.unusedSimpArgs false

theorem lit_list (l : List UInt8) : (⟨l.toArray⟩ : ByteArray).toList = l := tx_list l
set_option maxRecDepth 100000 in
set_option maxHeartbeats 2000000 in
theorem awake9_c (w : World) : Calls Try.prog 7 #[] w fun e w' => e = .returned (.bool true) ∧ Hid (Below w.heap.size w w') := by
  go_enter Try.func7, Try.ntmps7
  go_wp2_with fail
  refine (CParse_c ⟨#[103, 58, 97, 58, 49]⟩ w (by decide) [103] [97] [49] true aw9_par).mono ?_
  rintro e w1 ⟨rfl, b1⟩
  have Y1 := Lib.hid (Blk.new w1 32 #[.string (tx [103]), .string (tx [97]), .string (tx [49])])
  have W1 := Lib.hid (b1.out.alloc b1.out.size (.cells #[.string (tx [103]), .string (tx [97]), .string (tx [49])] 32))
  have y0 := Y1.out.cell 0
  have y1 := Y1.out.cell 1
  have y2 := Y1.out.cell 2
  have e1 := tx_list [103]
  have e2 := tx_list [97]
  have e3 := tx_list [49]
  have e4 : (⟨#[103]⟩ : ByteArray).toList = [103] := tx_list [103]
  have e5 : (⟨#[97]⟩ : ByteArray).toList = [97] := tx_list [97]
  have e6 : (⟨#[49]⟩ : ByteArray).toList = [49] := tx_list [49]
  clear b1
  go_wp2_with fail
  refine (CText_c [103] [97] [49] _ (by decide) (by decide) (by decide) _ aw9_text).mono ?_
  rintro e w2 ⟨rfl, b2⟩
  have W2 := Lib.hid (W1.out.trans (b2.out.mono W1.out.size))
  have e7 : (tx [103, 58, 97, 58, 49]).toList = [103, 58, 97, 58, 49] := tx_list _
  have e8 : (⟨#[103, 58, 97, 58, 49]⟩ : ByteArray).toList = [103, 58, 97, 58, 49] := tx_list [103, 58, 97, 58, 49]
  clear b2 W1 y0 y1 y2 e1 e2 e3 e4 e5 e6
  go_wp2_with fail
  refine (CKey_c [103] [97] [] [] [] [] false none 0 0 _ (by decide) (by decide) (by decide) (by decide) _ aw9_key).mono ?_
  rintro e w3 ⟨rfl, b3⟩
  have W3 := Lib.hid (W2.out.trans (b3.out.mono W2.out.size))
  have e9 : (tx [103, 58, 97, 58, 106, 97, 114, 58]).toList = [103, 58, 97, 58, 106, 97, 114, 58] := tx_list _
  have e10 : (⟨#[103, 58, 97, 58, 106, 97, 114, 58]⟩ : ByteArray).toList = [103, 58, 97, 58, 106, 97, 114, 58] := tx_list [103, 58, 97, 58, 106, 97, 114, 58]
  clear b3 W2
  go_wp2_with fail
  go_ret
  exact ⟨rfl, W3⟩
end Go.Proofs.Ythmlggglemnfgaa
