/-
  The walk of SpanRefuses: a walk for each of the seventeen texts.
-/
import Derived.Test.YtbpcoiblddhnjaaDoorSpAwake
import Derived.Test.YtbpcoiblddhnjaaDoorGnIdx
import Derived.Test.YtbpcoiblddhnjaaDoorGnRow
namespace Nwl
def rfS0 : List Sp := [⟨[], [], false, false⟩]
theorem rf_no0 : parseL [] = none := by decide +kernel
theorem rf_yes0 : parseL [40, 44, 41] = some rfS0 := by decide +kernel
theorem rf_text0 : rangeL rfS0 = [40, 44, 41] := by decide +kernel
def rfS1 : List Sp := [⟨[49], [49], true, true⟩]
theorem rf_no1 : parseL [49] = none := by decide +kernel
theorem rf_yes1 : parseL [91, 49, 93] = some rfS1 := by decide +kernel
theorem rf_text1 : rangeL rfS1 = [91, 49, 93] := by decide +kernel
def rfS2 : List Sp := [⟨[49], [50], true, false⟩]
theorem rf_no2 : parseL [91, 49] = none := by decide +kernel
theorem rf_yes2 : parseL [91, 49, 44, 50, 41] = some rfS2 := by decide +kernel
theorem rf_text2 : rangeL rfS2 = [91, 49, 44, 50, 41] := by decide +kernel
def rfS3 : List Sp := [⟨[49], [50], false, false⟩]
theorem rf_no3 : parseL [40, 49, 41] = none := by decide +kernel
theorem rf_yes3 : parseL [40, 49, 44, 50, 41] = some rfS3 := by decide +kernel
theorem rf_text3 : rangeL rfS3 = [40, 49, 44, 50, 41] := by decide +kernel
def rfS4 : List Sp := [⟨[49], [49], true, true⟩]
theorem rf_no4 : parseL [91, 49, 41] = none := by decide +kernel
theorem rf_yes4 : parseL [91, 49, 44, 49, 93] = some rfS4 := by decide +kernel
theorem rf_text4 : rangeL rfS4 = [91, 49, 93] := by decide +kernel
theorem rf_back4 : parseL [91, 49, 93] = some rfS4 := by decide +kernel
def rfS5 : List Sp := [⟨[], [49], false, true⟩]
theorem rf_no5 : parseL [91, 44, 49, 93] = none := by decide +kernel
theorem rf_yes5 : parseL [40, 44, 49, 93] = some rfS5 := by decide +kernel
theorem rf_text5 : rangeL rfS5 = [40, 44, 49, 93] := by decide +kernel
def rfS6 : List Sp := [⟨[49], [], true, false⟩]
theorem rf_no6 : parseL [91, 49, 44, 93] = none := by decide +kernel
theorem rf_yes6 : parseL [91, 49, 44, 41] = some rfS6 := by decide +kernel
theorem rf_text6 : rangeL rfS6 = [91, 49, 44, 41] := by decide +kernel
def rfS7 : List Sp := [⟨[49], [50], true, true⟩]
theorem rf_no7 : parseL [91, 50, 44, 49, 93] = none := by decide +kernel
theorem rf_yes7 : parseL [91, 49, 44, 50, 93] = some rfS7 := by decide +kernel
theorem rf_text7 : rangeL rfS7 = [91, 49, 44, 50, 93] := by decide +kernel
def rfS8 : List Sp := [⟨[49], [49, 46, 48], true, true⟩]
theorem rf_no8 : parseL [40, 49, 44, 49, 41] = none := by decide +kernel
theorem rf_yes8 : parseL [91, 49, 44, 49, 46, 48, 93] = some rfS8 := by decide +kernel
theorem rf_text8 : rangeL rfS8 = [91, 49, 44, 49, 46, 48, 93] := by decide +kernel
def rfS9 : List Sp := [⟨[49], [50], true, false⟩, ⟨[50], [51], true, true⟩]
theorem rf_no9 : parseL [91, 49, 44, 50, 93, 44, 91, 50, 44, 51, 93] = none := by decide +kernel
theorem rf_yes9 : parseL [91, 49, 44, 50, 41, 44, 91, 50, 44, 51, 93] = some rfS9 := by decide +kernel
theorem rf_text9 : rangeL rfS9 = [91, 49, 44, 50, 41, 44, 91, 50, 44, 51, 93] := by decide +kernel
def rfS10 : List Sp := [⟨[49], [50], true, false⟩, ⟨[50], [51], false, false⟩]
theorem rf_no10 : parseL [91, 49, 44, 50, 41, 44] = none := by decide +kernel
theorem rf_yes10 : parseL [91, 49, 44, 50, 41, 44, 40, 50, 44, 51, 41] = some rfS10 := by decide +kernel
theorem rf_text10 : rangeL rfS10 = [91, 49, 44, 50, 41, 44, 40, 50, 44, 51, 41] := by decide +kernel
def rfS11 : List Sp := [⟨[49], [50], true, false⟩, ⟨[51], [52], false, false⟩]
theorem rf_no11 : parseL [91, 49, 44, 50, 41, 40, 51, 44, 52, 41] = none := by decide +kernel
theorem rf_yes11 : parseL [91, 49, 44, 50, 41, 44, 40, 51, 44, 52, 41] = some rfS11 := by decide +kernel
theorem rf_text11 : rangeL rfS11 = [91, 49, 44, 50, 41, 44, 40, 51, 44, 52, 41] := by decide +kernel
def rfS12 : List Sp := [⟨[49], [50], true, false⟩, ⟨[50], [51], true, false⟩]
theorem rf_no12 : parseL [91, 49, 44, 50, 41, 44, 91, 49, 44, 51, 41] = none := by decide +kernel
theorem rf_yes12 : parseL [91, 49, 44, 50, 41, 44, 91, 50, 44, 51, 41] = some rfS12 := by decide +kernel
theorem rf_text12 : rangeL rfS12 = [91, 49, 44, 50, 41, 44, 91, 50, 44, 51, 41] := by decide +kernel
def rfS13 : List Sp := [⟨[], [49], false, false⟩, ⟨[49], [50], false, false⟩]
theorem rf_no13 : parseL [40, 44, 41, 44, 40, 49, 44, 50, 41] = none := by decide +kernel
theorem rf_yes13 : parseL [40, 44, 49, 41, 44, 40, 49, 44, 50, 41] = some rfS13 := by decide +kernel
theorem rf_text13 : rangeL rfS13 = [40, 44, 49, 41, 44, 40, 49, 44, 50, 41] := by decide +kernel
def rfS14 : List Sp := [⟨[49], [49], true, true⟩]
theorem rf_no14 : parseL [91, 93] = none := by decide +kernel
theorem rf_yes14 : parseL [91, 32, 49, 32, 93] = some rfS14 := by decide +kernel
theorem rf_text14 : rangeL rfS14 = [91, 49, 93] := by decide +kernel
theorem rf_back14 : parseL [91, 49, 93] = some rfS14 := by decide +kernel
def rfS15 : List Sp := [⟨[49, 45, 50], [49, 45, 50], true, true⟩]
theorem rf_no15 : parseL [91, 49, 32, 50, 93] = none := by decide +kernel
theorem rf_yes15 : parseL [91, 49, 45, 50, 93] = some rfS15 := by decide +kernel
theorem rf_text15 : rangeL rfS15 = [91, 49, 45, 50, 93] := by decide +kernel
def rfS16 : List Sp := [⟨[49], [50, 46, 51], true, true⟩]
theorem rf_no16 : parseL [91, 49, 44, 50, 44, 51, 93] = none := by decide +kernel
theorem rf_yes16 : parseL [91, 49, 44, 50, 46, 51, 93] = some rfS16 := by decide +kernel
theorem rf_text16 : rangeL rfS16 = [91, 49, 44, 50, 46, 51, 93] := by decide +kernel
end Nwl
namespace Go.Proofs.YtbpcoiblddhnjaaDoor
open Nwl
open Go.RowKit Go.Maps
set_option linter.unusedVariables false

set_option maxRecDepth 100000 in
set_option maxHeartbeats 1000000 in
theorem refuses_0 (a : Int) (w : World) (hx : wrap64 ((IntKind.u64.wrap a).tmod 17) = 0) :
    Calls Tryd.prog 5 #[.int .i64 a] w fun e w' => e = .returned (.bool true) ∧ Hid (Below w.heap.size w w') := by
  go_enter Tryd.func5, Tryd.ntmps5
  go_wp2_with fail
  refine (Parse_no ⟨#[]⟩ _ (by decide) (by decide) rf_no0).mono ?_
  rintro e w1 ⟨rfl, hb⟩
  have hb1 : Hid (Below w.heap.size w w1) := Lib.hid ((((Below.refl _ _).alloc (Nat.le_refl _) _).alloc (by simp) _).trans (hb.out.mono (by simp; omega)))
  have hm1 : w1.cell? ⟨w.heap.size + 1, 0, none⟩ = some (.string ⟨#[40, 44, 41]⟩) := (hb.out.cell (p := ⟨w.heap.size + 1, 0, none⟩) (by simp)).trans (by simp [go_sem])
  clear hb
  go_wp2_with fail
  refine (Parse_yes ⟨#[40, 44, 41]⟩ _ (by decide) (by decide) rfS0 rf_yes0 1 rfl).mono ?_
  rintro e w2 ⟨A2, c2, rfl, h2, hb2⟩
  have HB2 := Lib.hid (hb1.out.trans (hb2.out.mono hb1.out.size))
  clear hm1
  go_wp2_with fail
  refine (Text_c A2 1 c2 rfS0 w2 _ (Nat.le_refl _) h2.out.1 (by omega) h2.out.2.1 _ rf_text0).mono ?_
  rintro e w3 ⟨rfl, hb3⟩
  have HB3 := Lib.hid (HB2.out.trans (hb3.out.mono HB2.out.size))
  have R3 := Lib.hid (h2.out.1.below hb3.out)
  go_wp2_with fail
  refine (Parse_yes (tx [40, 44, 41]) _ (by decide) (by decide) rfS0 rf_yes0 1 rfl).mono ?_
  rintro e w4 ⟨A4, c4, rfl, h4, hb4⟩
  have HB4 := Lib.hid (HB3.out.trans (hb4.out.mono HB3.out.size))
  have R4 := Lib.hid (R3.out.below (hb4.out.mono hb3.out.size))
  have hs4 := Lib.hid (Nat.le_trans hb3.out.size hb4.out.size)
  go_wp2_with fail
  refine (awake7_c w4).mono ?_
  rintro e w5 ⟨rfl, hb5⟩
  have HB5 := Lib.hid (HB4.out.trans (hb5.out.mono HB4.out.size))
  have R5 := Lib.hid (R4.out.below (hb5.out.mono hs4.out))
  have R5b := Lib.hid (h4.out.1.below hb5.out)
  have hs5 := Lib.hid (Nat.le_trans hs4.out hb5.out.size)
  go_wp2_with fail
  refine (SpPlain_c A2 A4 1 1 c2 c4 rfS0 rfS0 w5 _ _ R5.out hs5.out R5b.out hb5.out.size (by omega) (by omega) true (by decide)).mono ?_
  rintro e w6 ⟨rfl, hb6⟩
  have HB6 := Lib.hid (HB5.out.trans (hb6.out.mono HB5.out.size))
  go_wp2_with fail
  go_ret
  exact ⟨rfl, HB6⟩

set_option maxRecDepth 100000 in
set_option maxHeartbeats 1000000 in
theorem refuses_1 (a : Int) (w : World) (hx : wrap64 ((IntKind.u64.wrap a).tmod 17) = 1) :
    Calls Tryd.prog 5 #[.int .i64 a] w fun e w' => e = .returned (.bool true) ∧ Hid (Below w.heap.size w w') := by
  go_enter Tryd.func5, Tryd.ntmps5
  go_wp2_with fail
  refine (Parse_no ⟨#[49]⟩ _ (by decide) (by decide) rf_no1).mono ?_
  rintro e w1 ⟨rfl, hb⟩
  have hb1 : Hid (Below w.heap.size w w1) := Lib.hid ((((Below.refl _ _).alloc (Nat.le_refl _) _).alloc (by simp) _).trans (hb.out.mono (by simp; omega)))
  have hm1 : w1.cell? ⟨w.heap.size + 1, 1, none⟩ = some (.string ⟨#[91, 49, 93]⟩) := (hb.out.cell (p := ⟨w.heap.size + 1, 1, none⟩) (by simp)).trans (by simp [go_sem])
  clear hb
  go_wp2_with fail
  refine (Parse_yes ⟨#[91, 49, 93]⟩ _ (by decide) (by decide) rfS1 rf_yes1 1 rfl).mono ?_
  rintro e w2 ⟨A2, c2, rfl, h2, hb2⟩
  have HB2 := Lib.hid (hb1.out.trans (hb2.out.mono hb1.out.size))
  clear hm1
  go_wp2_with fail
  refine (Text_c A2 1 c2 rfS1 w2 _ (Nat.le_refl _) h2.out.1 (by omega) h2.out.2.1 _ rf_text1).mono ?_
  rintro e w3 ⟨rfl, hb3⟩
  have HB3 := Lib.hid (HB2.out.trans (hb3.out.mono HB2.out.size))
  have R3 := Lib.hid (h2.out.1.below hb3.out)
  go_wp2_with fail
  refine (Parse_yes (tx [91, 49, 93]) _ (by decide) (by decide) rfS1 rf_yes1 1 rfl).mono ?_
  rintro e w4 ⟨A4, c4, rfl, h4, hb4⟩
  have HB4 := Lib.hid (HB3.out.trans (hb4.out.mono HB3.out.size))
  have R4 := Lib.hid (R3.out.below (hb4.out.mono hb3.out.size))
  have hs4 := Lib.hid (Nat.le_trans hb3.out.size hb4.out.size)
  go_wp2_with fail
  refine (awake7_c w4).mono ?_
  rintro e w5 ⟨rfl, hb5⟩
  have HB5 := Lib.hid (HB4.out.trans (hb5.out.mono HB4.out.size))
  have R5 := Lib.hid (R4.out.below (hb5.out.mono hs4.out))
  have R5b := Lib.hid (h4.out.1.below hb5.out)
  have hs5 := Lib.hid (Nat.le_trans hs4.out hb5.out.size)
  go_wp2_with fail
  refine (SpPlain_c A2 A4 1 1 c2 c4 rfS1 rfS1 w5 _ _ R5.out hs5.out R5b.out hb5.out.size (by omega) (by omega) true (by decide)).mono ?_
  rintro e w6 ⟨rfl, hb6⟩
  have HB6 := Lib.hid (HB5.out.trans (hb6.out.mono HB5.out.size))
  go_wp2_with fail
  go_ret
  exact ⟨rfl, HB6⟩

set_option maxRecDepth 100000 in
set_option maxHeartbeats 1000000 in
theorem refuses_2 (a : Int) (w : World) (hx : wrap64 ((IntKind.u64.wrap a).tmod 17) = 2) :
    Calls Tryd.prog 5 #[.int .i64 a] w fun e w' => e = .returned (.bool true) ∧ Hid (Below w.heap.size w w') := by
  go_enter Tryd.func5, Tryd.ntmps5
  go_wp2_with fail
  refine (Parse_no ⟨#[91, 49]⟩ _ (by decide) (by decide) rf_no2).mono ?_
  rintro e w1 ⟨rfl, hb⟩
  have hb1 : Hid (Below w.heap.size w w1) := Lib.hid ((((Below.refl _ _).alloc (Nat.le_refl _) _).alloc (by simp) _).trans (hb.out.mono (by simp; omega)))
  have hm1 : w1.cell? ⟨w.heap.size + 1, 2, none⟩ = some (.string ⟨#[91, 49, 44, 50, 41]⟩) := (hb.out.cell (p := ⟨w.heap.size + 1, 2, none⟩) (by simp)).trans (by simp [go_sem])
  clear hb
  go_wp2_with fail
  refine (Parse_yes ⟨#[91, 49, 44, 50, 41]⟩ _ (by decide) (by decide) rfS2 rf_yes2 1 rfl).mono ?_
  rintro e w2 ⟨A2, c2, rfl, h2, hb2⟩
  have HB2 := Lib.hid (hb1.out.trans (hb2.out.mono hb1.out.size))
  clear hm1
  go_wp2_with fail
  refine (Text_c A2 1 c2 rfS2 w2 _ (Nat.le_refl _) h2.out.1 (by omega) h2.out.2.1 _ rf_text2).mono ?_
  rintro e w3 ⟨rfl, hb3⟩
  have HB3 := Lib.hid (HB2.out.trans (hb3.out.mono HB2.out.size))
  have R3 := Lib.hid (h2.out.1.below hb3.out)
  go_wp2_with fail
  refine (Parse_yes (tx [91, 49, 44, 50, 41]) _ (by decide) (by decide) rfS2 rf_yes2 1 rfl).mono ?_
  rintro e w4 ⟨A4, c4, rfl, h4, hb4⟩
  have HB4 := Lib.hid (HB3.out.trans (hb4.out.mono HB3.out.size))
  have R4 := Lib.hid (R3.out.below (hb4.out.mono hb3.out.size))
  have hs4 := Lib.hid (Nat.le_trans hb3.out.size hb4.out.size)
  go_wp2_with fail
  refine (awake7_c w4).mono ?_
  rintro e w5 ⟨rfl, hb5⟩
  have HB5 := Lib.hid (HB4.out.trans (hb5.out.mono HB4.out.size))
  have R5 := Lib.hid (R4.out.below (hb5.out.mono hs4.out))
  have R5b := Lib.hid (h4.out.1.below hb5.out)
  have hs5 := Lib.hid (Nat.le_trans hs4.out hb5.out.size)
  go_wp2_with fail
  refine (SpPlain_c A2 A4 1 1 c2 c4 rfS2 rfS2 w5 _ _ R5.out hs5.out R5b.out hb5.out.size (by omega) (by omega) true (by decide)).mono ?_
  rintro e w6 ⟨rfl, hb6⟩
  have HB6 := Lib.hid (HB5.out.trans (hb6.out.mono HB5.out.size))
  go_wp2_with fail
  go_ret
  exact ⟨rfl, HB6⟩

set_option maxRecDepth 100000 in
set_option maxHeartbeats 1000000 in
theorem refuses_3 (a : Int) (w : World) (hx : wrap64 ((IntKind.u64.wrap a).tmod 17) = 3) :
    Calls Tryd.prog 5 #[.int .i64 a] w fun e w' => e = .returned (.bool true) ∧ Hid (Below w.heap.size w w') := by
  go_enter Tryd.func5, Tryd.ntmps5
  go_wp2_with fail
  refine (Parse_no ⟨#[40, 49, 41]⟩ _ (by decide) (by decide) rf_no3).mono ?_
  rintro e w1 ⟨rfl, hb⟩
  have hb1 : Hid (Below w.heap.size w w1) := Lib.hid ((((Below.refl _ _).alloc (Nat.le_refl _) _).alloc (by simp) _).trans (hb.out.mono (by simp; omega)))
  have hm1 : w1.cell? ⟨w.heap.size + 1, 3, none⟩ = some (.string ⟨#[40, 49, 44, 50, 41]⟩) := (hb.out.cell (p := ⟨w.heap.size + 1, 3, none⟩) (by simp)).trans (by simp [go_sem])
  clear hb
  go_wp2_with fail
  refine (Parse_yes ⟨#[40, 49, 44, 50, 41]⟩ _ (by decide) (by decide) rfS3 rf_yes3 1 rfl).mono ?_
  rintro e w2 ⟨A2, c2, rfl, h2, hb2⟩
  have HB2 := Lib.hid (hb1.out.trans (hb2.out.mono hb1.out.size))
  clear hm1
  go_wp2_with fail
  refine (Text_c A2 1 c2 rfS3 w2 _ (Nat.le_refl _) h2.out.1 (by omega) h2.out.2.1 _ rf_text3).mono ?_
  rintro e w3 ⟨rfl, hb3⟩
  have HB3 := Lib.hid (HB2.out.trans (hb3.out.mono HB2.out.size))
  have R3 := Lib.hid (h2.out.1.below hb3.out)
  go_wp2_with fail
  refine (Parse_yes (tx [40, 49, 44, 50, 41]) _ (by decide) (by decide) rfS3 rf_yes3 1 rfl).mono ?_
  rintro e w4 ⟨A4, c4, rfl, h4, hb4⟩
  have HB4 := Lib.hid (HB3.out.trans (hb4.out.mono HB3.out.size))
  have R4 := Lib.hid (R3.out.below (hb4.out.mono hb3.out.size))
  have hs4 := Lib.hid (Nat.le_trans hb3.out.size hb4.out.size)
  go_wp2_with fail
  refine (awake7_c w4).mono ?_
  rintro e w5 ⟨rfl, hb5⟩
  have HB5 := Lib.hid (HB4.out.trans (hb5.out.mono HB4.out.size))
  have R5 := Lib.hid (R4.out.below (hb5.out.mono hs4.out))
  have R5b := Lib.hid (h4.out.1.below hb5.out)
  have hs5 := Lib.hid (Nat.le_trans hs4.out hb5.out.size)
  go_wp2_with fail
  refine (SpPlain_c A2 A4 1 1 c2 c4 rfS3 rfS3 w5 _ _ R5.out hs5.out R5b.out hb5.out.size (by omega) (by omega) true (by decide)).mono ?_
  rintro e w6 ⟨rfl, hb6⟩
  have HB6 := Lib.hid (HB5.out.trans (hb6.out.mono HB5.out.size))
  go_wp2_with fail
  go_ret
  exact ⟨rfl, HB6⟩

set_option maxRecDepth 100000 in
set_option maxHeartbeats 1000000 in
theorem refuses_4 (a : Int) (w : World) (hx : wrap64 ((IntKind.u64.wrap a).tmod 17) = 4) :
    Calls Tryd.prog 5 #[.int .i64 a] w fun e w' => e = .returned (.bool true) ∧ Hid (Below w.heap.size w w') := by
  go_enter Tryd.func5, Tryd.ntmps5
  go_wp2_with fail
  refine (Parse_no ⟨#[91, 49, 41]⟩ _ (by decide) (by decide) rf_no4).mono ?_
  rintro e w1 ⟨rfl, hb⟩
  have hb1 : Hid (Below w.heap.size w w1) := Lib.hid ((((Below.refl _ _).alloc (Nat.le_refl _) _).alloc (by simp) _).trans (hb.out.mono (by simp; omega)))
  have hm1 : w1.cell? ⟨w.heap.size + 1, 4, none⟩ = some (.string ⟨#[91, 49, 44, 49, 93]⟩) := (hb.out.cell (p := ⟨w.heap.size + 1, 4, none⟩) (by simp)).trans (by simp [go_sem])
  clear hb
  go_wp2_with fail
  refine (Parse_yes ⟨#[91, 49, 44, 49, 93]⟩ _ (by decide) (by decide) rfS4 rf_yes4 1 rfl).mono ?_
  rintro e w2 ⟨A2, c2, rfl, h2, hb2⟩
  have HB2 := Lib.hid (hb1.out.trans (hb2.out.mono hb1.out.size))
  clear hm1
  go_wp2_with fail
  refine (Text_c A2 1 c2 rfS4 w2 _ (Nat.le_refl _) h2.out.1 (by omega) h2.out.2.1 _ rf_text4).mono ?_
  rintro e w3 ⟨rfl, hb3⟩
  have HB3 := Lib.hid (HB2.out.trans (hb3.out.mono HB2.out.size))
  have R3 := Lib.hid (h2.out.1.below hb3.out)
  go_wp2_with fail
  refine (Parse_yes (tx [91, 49, 93]) _ (by decide) (by decide) rfS4 rf_back4 1 rfl).mono ?_
  rintro e w4 ⟨A4, c4, rfl, h4, hb4⟩
  have HB4 := Lib.hid (HB3.out.trans (hb4.out.mono HB3.out.size))
  have R4 := Lib.hid (R3.out.below (hb4.out.mono hb3.out.size))
  have hs4 := Lib.hid (Nat.le_trans hb3.out.size hb4.out.size)
  go_wp2_with fail
  refine (awake7_c w4).mono ?_
  rintro e w5 ⟨rfl, hb5⟩
  have HB5 := Lib.hid (HB4.out.trans (hb5.out.mono HB4.out.size))
  have R5 := Lib.hid (R4.out.below (hb5.out.mono hs4.out))
  have R5b := Lib.hid (h4.out.1.below hb5.out)
  have hs5 := Lib.hid (Nat.le_trans hs4.out hb5.out.size)
  go_wp2_with fail
  refine (SpPlain_c A2 A4 1 1 c2 c4 rfS4 rfS4 w5 _ _ R5.out hs5.out R5b.out hb5.out.size (by omega) (by omega) true (by decide)).mono ?_
  rintro e w6 ⟨rfl, hb6⟩
  have HB6 := Lib.hid (HB5.out.trans (hb6.out.mono HB5.out.size))
  go_wp2_with fail
  go_ret
  exact ⟨rfl, HB6⟩

set_option maxRecDepth 100000 in
set_option maxHeartbeats 1000000 in
theorem refuses_5 (a : Int) (w : World) (hx : wrap64 ((IntKind.u64.wrap a).tmod 17) = 5) :
    Calls Tryd.prog 5 #[.int .i64 a] w fun e w' => e = .returned (.bool true) ∧ Hid (Below w.heap.size w w') := by
  go_enter Tryd.func5, Tryd.ntmps5
  go_wp2_with fail
  refine (Parse_no ⟨#[91, 44, 49, 93]⟩ _ (by decide) (by decide) rf_no5).mono ?_
  rintro e w1 ⟨rfl, hb⟩
  have hb1 : Hid (Below w.heap.size w w1) := Lib.hid ((((Below.refl _ _).alloc (Nat.le_refl _) _).alloc (by simp) _).trans (hb.out.mono (by simp; omega)))
  have hm1 : w1.cell? ⟨w.heap.size + 1, 5, none⟩ = some (.string ⟨#[40, 44, 49, 93]⟩) := (hb.out.cell (p := ⟨w.heap.size + 1, 5, none⟩) (by simp)).trans (by simp [go_sem])
  clear hb
  go_wp2_with fail
  refine (Parse_yes ⟨#[40, 44, 49, 93]⟩ _ (by decide) (by decide) rfS5 rf_yes5 1 rfl).mono ?_
  rintro e w2 ⟨A2, c2, rfl, h2, hb2⟩
  have HB2 := Lib.hid (hb1.out.trans (hb2.out.mono hb1.out.size))
  clear hm1
  go_wp2_with fail
  refine (Text_c A2 1 c2 rfS5 w2 _ (Nat.le_refl _) h2.out.1 (by omega) h2.out.2.1 _ rf_text5).mono ?_
  rintro e w3 ⟨rfl, hb3⟩
  have HB3 := Lib.hid (HB2.out.trans (hb3.out.mono HB2.out.size))
  have R3 := Lib.hid (h2.out.1.below hb3.out)
  go_wp2_with fail
  refine (Parse_yes (tx [40, 44, 49, 93]) _ (by decide) (by decide) rfS5 rf_yes5 1 rfl).mono ?_
  rintro e w4 ⟨A4, c4, rfl, h4, hb4⟩
  have HB4 := Lib.hid (HB3.out.trans (hb4.out.mono HB3.out.size))
  have R4 := Lib.hid (R3.out.below (hb4.out.mono hb3.out.size))
  have hs4 := Lib.hid (Nat.le_trans hb3.out.size hb4.out.size)
  go_wp2_with fail
  refine (awake7_c w4).mono ?_
  rintro e w5 ⟨rfl, hb5⟩
  have HB5 := Lib.hid (HB4.out.trans (hb5.out.mono HB4.out.size))
  have R5 := Lib.hid (R4.out.below (hb5.out.mono hs4.out))
  have R5b := Lib.hid (h4.out.1.below hb5.out)
  have hs5 := Lib.hid (Nat.le_trans hs4.out hb5.out.size)
  go_wp2_with fail
  refine (SpPlain_c A2 A4 1 1 c2 c4 rfS5 rfS5 w5 _ _ R5.out hs5.out R5b.out hb5.out.size (by omega) (by omega) true (by decide)).mono ?_
  rintro e w6 ⟨rfl, hb6⟩
  have HB6 := Lib.hid (HB5.out.trans (hb6.out.mono HB5.out.size))
  go_wp2_with fail
  go_ret
  exact ⟨rfl, HB6⟩

set_option maxRecDepth 100000 in
set_option maxHeartbeats 1000000 in
theorem refuses_6 (a : Int) (w : World) (hx : wrap64 ((IntKind.u64.wrap a).tmod 17) = 6) :
    Calls Tryd.prog 5 #[.int .i64 a] w fun e w' => e = .returned (.bool true) ∧ Hid (Below w.heap.size w w') := by
  go_enter Tryd.func5, Tryd.ntmps5
  go_wp2_with fail
  refine (Parse_no ⟨#[91, 49, 44, 93]⟩ _ (by decide) (by decide) rf_no6).mono ?_
  rintro e w1 ⟨rfl, hb⟩
  have hb1 : Hid (Below w.heap.size w w1) := Lib.hid ((((Below.refl _ _).alloc (Nat.le_refl _) _).alloc (by simp) _).trans (hb.out.mono (by simp; omega)))
  have hm1 : w1.cell? ⟨w.heap.size + 1, 6, none⟩ = some (.string ⟨#[91, 49, 44, 41]⟩) := (hb.out.cell (p := ⟨w.heap.size + 1, 6, none⟩) (by simp)).trans (by simp [go_sem])
  clear hb
  go_wp2_with fail
  refine (Parse_yes ⟨#[91, 49, 44, 41]⟩ _ (by decide) (by decide) rfS6 rf_yes6 1 rfl).mono ?_
  rintro e w2 ⟨A2, c2, rfl, h2, hb2⟩
  have HB2 := Lib.hid (hb1.out.trans (hb2.out.mono hb1.out.size))
  clear hm1
  go_wp2_with fail
  refine (Text_c A2 1 c2 rfS6 w2 _ (Nat.le_refl _) h2.out.1 (by omega) h2.out.2.1 _ rf_text6).mono ?_
  rintro e w3 ⟨rfl, hb3⟩
  have HB3 := Lib.hid (HB2.out.trans (hb3.out.mono HB2.out.size))
  have R3 := Lib.hid (h2.out.1.below hb3.out)
  go_wp2_with fail
  refine (Parse_yes (tx [91, 49, 44, 41]) _ (by decide) (by decide) rfS6 rf_yes6 1 rfl).mono ?_
  rintro e w4 ⟨A4, c4, rfl, h4, hb4⟩
  have HB4 := Lib.hid (HB3.out.trans (hb4.out.mono HB3.out.size))
  have R4 := Lib.hid (R3.out.below (hb4.out.mono hb3.out.size))
  have hs4 := Lib.hid (Nat.le_trans hb3.out.size hb4.out.size)
  go_wp2_with fail
  refine (awake7_c w4).mono ?_
  rintro e w5 ⟨rfl, hb5⟩
  have HB5 := Lib.hid (HB4.out.trans (hb5.out.mono HB4.out.size))
  have R5 := Lib.hid (R4.out.below (hb5.out.mono hs4.out))
  have R5b := Lib.hid (h4.out.1.below hb5.out)
  have hs5 := Lib.hid (Nat.le_trans hs4.out hb5.out.size)
  go_wp2_with fail
  refine (SpPlain_c A2 A4 1 1 c2 c4 rfS6 rfS6 w5 _ _ R5.out hs5.out R5b.out hb5.out.size (by omega) (by omega) true (by decide)).mono ?_
  rintro e w6 ⟨rfl, hb6⟩
  have HB6 := Lib.hid (HB5.out.trans (hb6.out.mono HB5.out.size))
  go_wp2_with fail
  go_ret
  exact ⟨rfl, HB6⟩

set_option maxRecDepth 100000 in
set_option maxHeartbeats 1000000 in
theorem refuses_7 (a : Int) (w : World) (hx : wrap64 ((IntKind.u64.wrap a).tmod 17) = 7) :
    Calls Tryd.prog 5 #[.int .i64 a] w fun e w' => e = .returned (.bool true) ∧ Hid (Below w.heap.size w w') := by
  go_enter Tryd.func5, Tryd.ntmps5
  go_wp2_with fail
  refine (Parse_no ⟨#[91, 50, 44, 49, 93]⟩ _ (by decide) (by decide) rf_no7).mono ?_
  rintro e w1 ⟨rfl, hb⟩
  have hb1 : Hid (Below w.heap.size w w1) := Lib.hid ((((Below.refl _ _).alloc (Nat.le_refl _) _).alloc (by simp) _).trans (hb.out.mono (by simp; omega)))
  have hm1 : w1.cell? ⟨w.heap.size + 1, 7, none⟩ = some (.string ⟨#[91, 49, 44, 50, 93]⟩) := (hb.out.cell (p := ⟨w.heap.size + 1, 7, none⟩) (by simp)).trans (by simp [go_sem])
  clear hb
  go_wp2_with fail
  refine (Parse_yes ⟨#[91, 49, 44, 50, 93]⟩ _ (by decide) (by decide) rfS7 rf_yes7 1 rfl).mono ?_
  rintro e w2 ⟨A2, c2, rfl, h2, hb2⟩
  have HB2 := Lib.hid (hb1.out.trans (hb2.out.mono hb1.out.size))
  clear hm1
  go_wp2_with fail
  refine (Text_c A2 1 c2 rfS7 w2 _ (Nat.le_refl _) h2.out.1 (by omega) h2.out.2.1 _ rf_text7).mono ?_
  rintro e w3 ⟨rfl, hb3⟩
  have HB3 := Lib.hid (HB2.out.trans (hb3.out.mono HB2.out.size))
  have R3 := Lib.hid (h2.out.1.below hb3.out)
  go_wp2_with fail
  refine (Parse_yes (tx [91, 49, 44, 50, 93]) _ (by decide) (by decide) rfS7 rf_yes7 1 rfl).mono ?_
  rintro e w4 ⟨A4, c4, rfl, h4, hb4⟩
  have HB4 := Lib.hid (HB3.out.trans (hb4.out.mono HB3.out.size))
  have R4 := Lib.hid (R3.out.below (hb4.out.mono hb3.out.size))
  have hs4 := Lib.hid (Nat.le_trans hb3.out.size hb4.out.size)
  go_wp2_with fail
  refine (awake7_c w4).mono ?_
  rintro e w5 ⟨rfl, hb5⟩
  have HB5 := Lib.hid (HB4.out.trans (hb5.out.mono HB4.out.size))
  have R5 := Lib.hid (R4.out.below (hb5.out.mono hs4.out))
  have R5b := Lib.hid (h4.out.1.below hb5.out)
  have hs5 := Lib.hid (Nat.le_trans hs4.out hb5.out.size)
  go_wp2_with fail
  refine (SpPlain_c A2 A4 1 1 c2 c4 rfS7 rfS7 w5 _ _ R5.out hs5.out R5b.out hb5.out.size (by omega) (by omega) true (by decide)).mono ?_
  rintro e w6 ⟨rfl, hb6⟩
  have HB6 := Lib.hid (HB5.out.trans (hb6.out.mono HB5.out.size))
  go_wp2_with fail
  go_ret
  exact ⟨rfl, HB6⟩

set_option maxRecDepth 100000 in
set_option maxHeartbeats 1000000 in
theorem refuses_8 (a : Int) (w : World) (hx : wrap64 ((IntKind.u64.wrap a).tmod 17) = 8) :
    Calls Tryd.prog 5 #[.int .i64 a] w fun e w' => e = .returned (.bool true) ∧ Hid (Below w.heap.size w w') := by
  go_enter Tryd.func5, Tryd.ntmps5
  go_wp2_with fail
  refine (Parse_no ⟨#[40, 49, 44, 49, 41]⟩ _ (by decide) (by decide) rf_no8).mono ?_
  rintro e w1 ⟨rfl, hb⟩
  have hb1 : Hid (Below w.heap.size w w1) := Lib.hid ((((Below.refl _ _).alloc (Nat.le_refl _) _).alloc (by simp) _).trans (hb.out.mono (by simp; omega)))
  have hm1 : w1.cell? ⟨w.heap.size + 1, 8, none⟩ = some (.string ⟨#[91, 49, 44, 49, 46, 48, 93]⟩) := (hb.out.cell (p := ⟨w.heap.size + 1, 8, none⟩) (by simp)).trans (by simp [go_sem])
  clear hb
  go_wp2_with fail
  refine (Parse_yes ⟨#[91, 49, 44, 49, 46, 48, 93]⟩ _ (by decide) (by decide) rfS8 rf_yes8 1 rfl).mono ?_
  rintro e w2 ⟨A2, c2, rfl, h2, hb2⟩
  have HB2 := Lib.hid (hb1.out.trans (hb2.out.mono hb1.out.size))
  clear hm1
  go_wp2_with fail
  refine (Text_c A2 1 c2 rfS8 w2 _ (Nat.le_refl _) h2.out.1 (by omega) h2.out.2.1 _ rf_text8).mono ?_
  rintro e w3 ⟨rfl, hb3⟩
  have HB3 := Lib.hid (HB2.out.trans (hb3.out.mono HB2.out.size))
  have R3 := Lib.hid (h2.out.1.below hb3.out)
  go_wp2_with fail
  refine (Parse_yes (tx [91, 49, 44, 49, 46, 48, 93]) _ (by decide) (by decide) rfS8 rf_yes8 1 rfl).mono ?_
  rintro e w4 ⟨A4, c4, rfl, h4, hb4⟩
  have HB4 := Lib.hid (HB3.out.trans (hb4.out.mono HB3.out.size))
  have R4 := Lib.hid (R3.out.below (hb4.out.mono hb3.out.size))
  have hs4 := Lib.hid (Nat.le_trans hb3.out.size hb4.out.size)
  go_wp2_with fail
  refine (awake7_c w4).mono ?_
  rintro e w5 ⟨rfl, hb5⟩
  have HB5 := Lib.hid (HB4.out.trans (hb5.out.mono HB4.out.size))
  have R5 := Lib.hid (R4.out.below (hb5.out.mono hs4.out))
  have R5b := Lib.hid (h4.out.1.below hb5.out)
  have hs5 := Lib.hid (Nat.le_trans hs4.out hb5.out.size)
  go_wp2_with fail
  refine (SpPlain_c A2 A4 1 1 c2 c4 rfS8 rfS8 w5 _ _ R5.out hs5.out R5b.out hb5.out.size (by omega) (by omega) true (by decide)).mono ?_
  rintro e w6 ⟨rfl, hb6⟩
  have HB6 := Lib.hid (HB5.out.trans (hb6.out.mono HB5.out.size))
  go_wp2_with fail
  go_ret
  exact ⟨rfl, HB6⟩

set_option maxRecDepth 100000 in
set_option maxHeartbeats 1000000 in
theorem refuses_9 (a : Int) (w : World) (hx : wrap64 ((IntKind.u64.wrap a).tmod 17) = 9) :
    Calls Tryd.prog 5 #[.int .i64 a] w fun e w' => e = .returned (.bool true) ∧ Hid (Below w.heap.size w w') := by
  go_enter Tryd.func5, Tryd.ntmps5
  go_wp2_with fail
  refine (Parse_no ⟨#[91, 49, 44, 50, 93, 44, 91, 50, 44, 51, 93]⟩ _ (by decide) (by decide) rf_no9).mono ?_
  rintro e w1 ⟨rfl, hb⟩
  have hb1 : Hid (Below w.heap.size w w1) := Lib.hid ((((Below.refl _ _).alloc (Nat.le_refl _) _).alloc (by simp) _).trans (hb.out.mono (by simp; omega)))
  have hm1 : w1.cell? ⟨w.heap.size + 1, 9, none⟩ = some (.string ⟨#[91, 49, 44, 50, 41, 44, 91, 50, 44, 51, 93]⟩) := (hb.out.cell (p := ⟨w.heap.size + 1, 9, none⟩) (by simp)).trans (by simp [go_sem])
  clear hb
  go_wp2_with fail
  refine (Parse_yes ⟨#[91, 49, 44, 50, 41, 44, 91, 50, 44, 51, 93]⟩ _ (by decide) (by decide) rfS9 rf_yes9 2 rfl).mono ?_
  rintro e w2 ⟨A2, c2, rfl, h2, hb2⟩
  have HB2 := Lib.hid (hb1.out.trans (hb2.out.mono hb1.out.size))
  clear hm1
  go_wp2_with fail
  refine (Text_c A2 2 c2 rfS9 w2 _ (Nat.le_refl _) h2.out.1 (by omega) h2.out.2.1 _ rf_text9).mono ?_
  rintro e w3 ⟨rfl, hb3⟩
  have HB3 := Lib.hid (HB2.out.trans (hb3.out.mono HB2.out.size))
  have R3 := Lib.hid (h2.out.1.below hb3.out)
  go_wp2_with fail
  refine (Parse_yes (tx [91, 49, 44, 50, 41, 44, 91, 50, 44, 51, 93]) _ (by decide) (by decide) rfS9 rf_yes9 2 rfl).mono ?_
  rintro e w4 ⟨A4, c4, rfl, h4, hb4⟩
  have HB4 := Lib.hid (HB3.out.trans (hb4.out.mono HB3.out.size))
  have R4 := Lib.hid (R3.out.below (hb4.out.mono hb3.out.size))
  have hs4 := Lib.hid (Nat.le_trans hb3.out.size hb4.out.size)
  go_wp2_with fail
  refine (awake7_c w4).mono ?_
  rintro e w5 ⟨rfl, hb5⟩
  have HB5 := Lib.hid (HB4.out.trans (hb5.out.mono HB4.out.size))
  have R5 := Lib.hid (R4.out.below (hb5.out.mono hs4.out))
  have R5b := Lib.hid (h4.out.1.below hb5.out)
  have hs5 := Lib.hid (Nat.le_trans hs4.out hb5.out.size)
  go_wp2_with fail
  refine (SpPlain_c A2 A4 2 2 c2 c4 rfS9 rfS9 w5 _ _ R5.out hs5.out R5b.out hb5.out.size (by omega) (by omega) true (by decide)).mono ?_
  rintro e w6 ⟨rfl, hb6⟩
  have HB6 := Lib.hid (HB5.out.trans (hb6.out.mono HB5.out.size))
  go_wp2_with fail
  go_ret
  exact ⟨rfl, HB6⟩

set_option maxRecDepth 100000 in
set_option maxHeartbeats 1000000 in
theorem refuses_10 (a : Int) (w : World) (hx : wrap64 ((IntKind.u64.wrap a).tmod 17) = 10) :
    Calls Tryd.prog 5 #[.int .i64 a] w fun e w' => e = .returned (.bool true) ∧ Hid (Below w.heap.size w w') := by
  go_enter Tryd.func5, Tryd.ntmps5
  go_wp2_with fail
  refine (Parse_no ⟨#[91, 49, 44, 50, 41, 44]⟩ _ (by decide) (by decide) rf_no10).mono ?_
  rintro e w1 ⟨rfl, hb⟩
  have hb1 : Hid (Below w.heap.size w w1) := Lib.hid ((((Below.refl _ _).alloc (Nat.le_refl _) _).alloc (by simp) _).trans (hb.out.mono (by simp; omega)))
  have hm1 : w1.cell? ⟨w.heap.size + 1, 10, none⟩ = some (.string ⟨#[91, 49, 44, 50, 41, 44, 40, 50, 44, 51, 41]⟩) := (hb.out.cell (p := ⟨w.heap.size + 1, 10, none⟩) (by simp)).trans (by simp [go_sem])
  clear hb
  go_wp2_with fail
  refine (Parse_yes ⟨#[91, 49, 44, 50, 41, 44, 40, 50, 44, 51, 41]⟩ _ (by decide) (by decide) rfS10 rf_yes10 2 rfl).mono ?_
  rintro e w2 ⟨A2, c2, rfl, h2, hb2⟩
  have HB2 := Lib.hid (hb1.out.trans (hb2.out.mono hb1.out.size))
  clear hm1
  go_wp2_with fail
  refine (Text_c A2 2 c2 rfS10 w2 _ (Nat.le_refl _) h2.out.1 (by omega) h2.out.2.1 _ rf_text10).mono ?_
  rintro e w3 ⟨rfl, hb3⟩
  have HB3 := Lib.hid (HB2.out.trans (hb3.out.mono HB2.out.size))
  have R3 := Lib.hid (h2.out.1.below hb3.out)
  go_wp2_with fail
  refine (Parse_yes (tx [91, 49, 44, 50, 41, 44, 40, 50, 44, 51, 41]) _ (by decide) (by decide) rfS10 rf_yes10 2 rfl).mono ?_
  rintro e w4 ⟨A4, c4, rfl, h4, hb4⟩
  have HB4 := Lib.hid (HB3.out.trans (hb4.out.mono HB3.out.size))
  have R4 := Lib.hid (R3.out.below (hb4.out.mono hb3.out.size))
  have hs4 := Lib.hid (Nat.le_trans hb3.out.size hb4.out.size)
  go_wp2_with fail
  refine (awake7_c w4).mono ?_
  rintro e w5 ⟨rfl, hb5⟩
  have HB5 := Lib.hid (HB4.out.trans (hb5.out.mono HB4.out.size))
  have R5 := Lib.hid (R4.out.below (hb5.out.mono hs4.out))
  have R5b := Lib.hid (h4.out.1.below hb5.out)
  have hs5 := Lib.hid (Nat.le_trans hs4.out hb5.out.size)
  go_wp2_with fail
  refine (SpPlain_c A2 A4 2 2 c2 c4 rfS10 rfS10 w5 _ _ R5.out hs5.out R5b.out hb5.out.size (by omega) (by omega) true (by decide)).mono ?_
  rintro e w6 ⟨rfl, hb6⟩
  have HB6 := Lib.hid (HB5.out.trans (hb6.out.mono HB5.out.size))
  go_wp2_with fail
  go_ret
  exact ⟨rfl, HB6⟩

set_option maxRecDepth 100000 in
set_option maxHeartbeats 1000000 in
theorem refuses_11 (a : Int) (w : World) (hx : wrap64 ((IntKind.u64.wrap a).tmod 17) = 11) :
    Calls Tryd.prog 5 #[.int .i64 a] w fun e w' => e = .returned (.bool true) ∧ Hid (Below w.heap.size w w') := by
  go_enter Tryd.func5, Tryd.ntmps5
  go_wp2_with fail
  refine (Parse_no ⟨#[91, 49, 44, 50, 41, 40, 51, 44, 52, 41]⟩ _ (by decide) (by decide) rf_no11).mono ?_
  rintro e w1 ⟨rfl, hb⟩
  have hb1 : Hid (Below w.heap.size w w1) := Lib.hid ((((Below.refl _ _).alloc (Nat.le_refl _) _).alloc (by simp) _).trans (hb.out.mono (by simp; omega)))
  have hm1 : w1.cell? ⟨w.heap.size + 1, 11, none⟩ = some (.string ⟨#[91, 49, 44, 50, 41, 44, 40, 51, 44, 52, 41]⟩) := (hb.out.cell (p := ⟨w.heap.size + 1, 11, none⟩) (by simp)).trans (by simp [go_sem])
  clear hb
  go_wp2_with fail
  refine (Parse_yes ⟨#[91, 49, 44, 50, 41, 44, 40, 51, 44, 52, 41]⟩ _ (by decide) (by decide) rfS11 rf_yes11 2 rfl).mono ?_
  rintro e w2 ⟨A2, c2, rfl, h2, hb2⟩
  have HB2 := Lib.hid (hb1.out.trans (hb2.out.mono hb1.out.size))
  clear hm1
  go_wp2_with fail
  refine (Text_c A2 2 c2 rfS11 w2 _ (Nat.le_refl _) h2.out.1 (by omega) h2.out.2.1 _ rf_text11).mono ?_
  rintro e w3 ⟨rfl, hb3⟩
  have HB3 := Lib.hid (HB2.out.trans (hb3.out.mono HB2.out.size))
  have R3 := Lib.hid (h2.out.1.below hb3.out)
  go_wp2_with fail
  refine (Parse_yes (tx [91, 49, 44, 50, 41, 44, 40, 51, 44, 52, 41]) _ (by decide) (by decide) rfS11 rf_yes11 2 rfl).mono ?_
  rintro e w4 ⟨A4, c4, rfl, h4, hb4⟩
  have HB4 := Lib.hid (HB3.out.trans (hb4.out.mono HB3.out.size))
  have R4 := Lib.hid (R3.out.below (hb4.out.mono hb3.out.size))
  have hs4 := Lib.hid (Nat.le_trans hb3.out.size hb4.out.size)
  go_wp2_with fail
  refine (awake7_c w4).mono ?_
  rintro e w5 ⟨rfl, hb5⟩
  have HB5 := Lib.hid (HB4.out.trans (hb5.out.mono HB4.out.size))
  have R5 := Lib.hid (R4.out.below (hb5.out.mono hs4.out))
  have R5b := Lib.hid (h4.out.1.below hb5.out)
  have hs5 := Lib.hid (Nat.le_trans hs4.out hb5.out.size)
  go_wp2_with fail
  refine (SpPlain_c A2 A4 2 2 c2 c4 rfS11 rfS11 w5 _ _ R5.out hs5.out R5b.out hb5.out.size (by omega) (by omega) true (by decide)).mono ?_
  rintro e w6 ⟨rfl, hb6⟩
  have HB6 := Lib.hid (HB5.out.trans (hb6.out.mono HB5.out.size))
  go_wp2_with fail
  go_ret
  exact ⟨rfl, HB6⟩

set_option maxRecDepth 100000 in
set_option maxHeartbeats 1000000 in
theorem refuses_12 (a : Int) (w : World) (hx : wrap64 ((IntKind.u64.wrap a).tmod 17) = 12) :
    Calls Tryd.prog 5 #[.int .i64 a] w fun e w' => e = .returned (.bool true) ∧ Hid (Below w.heap.size w w') := by
  go_enter Tryd.func5, Tryd.ntmps5
  go_wp2_with fail
  refine (Parse_no ⟨#[91, 49, 44, 50, 41, 44, 91, 49, 44, 51, 41]⟩ _ (by decide) (by decide) rf_no12).mono ?_
  rintro e w1 ⟨rfl, hb⟩
  have hb1 : Hid (Below w.heap.size w w1) := Lib.hid ((((Below.refl _ _).alloc (Nat.le_refl _) _).alloc (by simp) _).trans (hb.out.mono (by simp; omega)))
  have hm1 : w1.cell? ⟨w.heap.size + 1, 12, none⟩ = some (.string ⟨#[91, 49, 44, 50, 41, 44, 91, 50, 44, 51, 41]⟩) := (hb.out.cell (p := ⟨w.heap.size + 1, 12, none⟩) (by simp)).trans (by simp [go_sem])
  clear hb
  go_wp2_with fail
  refine (Parse_yes ⟨#[91, 49, 44, 50, 41, 44, 91, 50, 44, 51, 41]⟩ _ (by decide) (by decide) rfS12 rf_yes12 2 rfl).mono ?_
  rintro e w2 ⟨A2, c2, rfl, h2, hb2⟩
  have HB2 := Lib.hid (hb1.out.trans (hb2.out.mono hb1.out.size))
  clear hm1
  go_wp2_with fail
  refine (Text_c A2 2 c2 rfS12 w2 _ (Nat.le_refl _) h2.out.1 (by omega) h2.out.2.1 _ rf_text12).mono ?_
  rintro e w3 ⟨rfl, hb3⟩
  have HB3 := Lib.hid (HB2.out.trans (hb3.out.mono HB2.out.size))
  have R3 := Lib.hid (h2.out.1.below hb3.out)
  go_wp2_with fail
  refine (Parse_yes (tx [91, 49, 44, 50, 41, 44, 91, 50, 44, 51, 41]) _ (by decide) (by decide) rfS12 rf_yes12 2 rfl).mono ?_
  rintro e w4 ⟨A4, c4, rfl, h4, hb4⟩
  have HB4 := Lib.hid (HB3.out.trans (hb4.out.mono HB3.out.size))
  have R4 := Lib.hid (R3.out.below (hb4.out.mono hb3.out.size))
  have hs4 := Lib.hid (Nat.le_trans hb3.out.size hb4.out.size)
  go_wp2_with fail
  refine (awake7_c w4).mono ?_
  rintro e w5 ⟨rfl, hb5⟩
  have HB5 := Lib.hid (HB4.out.trans (hb5.out.mono HB4.out.size))
  have R5 := Lib.hid (R4.out.below (hb5.out.mono hs4.out))
  have R5b := Lib.hid (h4.out.1.below hb5.out)
  have hs5 := Lib.hid (Nat.le_trans hs4.out hb5.out.size)
  go_wp2_with fail
  refine (SpPlain_c A2 A4 2 2 c2 c4 rfS12 rfS12 w5 _ _ R5.out hs5.out R5b.out hb5.out.size (by omega) (by omega) true (by decide)).mono ?_
  rintro e w6 ⟨rfl, hb6⟩
  have HB6 := Lib.hid (HB5.out.trans (hb6.out.mono HB5.out.size))
  go_wp2_with fail
  go_ret
  exact ⟨rfl, HB6⟩

set_option maxRecDepth 100000 in
set_option maxHeartbeats 1000000 in
theorem refuses_13 (a : Int) (w : World) (hx : wrap64 ((IntKind.u64.wrap a).tmod 17) = 13) :
    Calls Tryd.prog 5 #[.int .i64 a] w fun e w' => e = .returned (.bool true) ∧ Hid (Below w.heap.size w w') := by
  go_enter Tryd.func5, Tryd.ntmps5
  go_wp2_with fail
  refine (Parse_no ⟨#[40, 44, 41, 44, 40, 49, 44, 50, 41]⟩ _ (by decide) (by decide) rf_no13).mono ?_
  rintro e w1 ⟨rfl, hb⟩
  have hb1 : Hid (Below w.heap.size w w1) := Lib.hid ((((Below.refl _ _).alloc (Nat.le_refl _) _).alloc (by simp) _).trans (hb.out.mono (by simp; omega)))
  have hm1 : w1.cell? ⟨w.heap.size + 1, 13, none⟩ = some (.string ⟨#[40, 44, 49, 41, 44, 40, 49, 44, 50, 41]⟩) := (hb.out.cell (p := ⟨w.heap.size + 1, 13, none⟩) (by simp)).trans (by simp [go_sem])
  clear hb
  go_wp2_with fail
  refine (Parse_yes ⟨#[40, 44, 49, 41, 44, 40, 49, 44, 50, 41]⟩ _ (by decide) (by decide) rfS13 rf_yes13 2 rfl).mono ?_
  rintro e w2 ⟨A2, c2, rfl, h2, hb2⟩
  have HB2 := Lib.hid (hb1.out.trans (hb2.out.mono hb1.out.size))
  clear hm1
  go_wp2_with fail
  refine (Text_c A2 2 c2 rfS13 w2 _ (Nat.le_refl _) h2.out.1 (by omega) h2.out.2.1 _ rf_text13).mono ?_
  rintro e w3 ⟨rfl, hb3⟩
  have HB3 := Lib.hid (HB2.out.trans (hb3.out.mono HB2.out.size))
  have R3 := Lib.hid (h2.out.1.below hb3.out)
  go_wp2_with fail
  refine (Parse_yes (tx [40, 44, 49, 41, 44, 40, 49, 44, 50, 41]) _ (by decide) (by decide) rfS13 rf_yes13 2 rfl).mono ?_
  rintro e w4 ⟨A4, c4, rfl, h4, hb4⟩
  have HB4 := Lib.hid (HB3.out.trans (hb4.out.mono HB3.out.size))
  have R4 := Lib.hid (R3.out.below (hb4.out.mono hb3.out.size))
  have hs4 := Lib.hid (Nat.le_trans hb3.out.size hb4.out.size)
  go_wp2_with fail
  refine (awake7_c w4).mono ?_
  rintro e w5 ⟨rfl, hb5⟩
  have HB5 := Lib.hid (HB4.out.trans (hb5.out.mono HB4.out.size))
  have R5 := Lib.hid (R4.out.below (hb5.out.mono hs4.out))
  have R5b := Lib.hid (h4.out.1.below hb5.out)
  have hs5 := Lib.hid (Nat.le_trans hs4.out hb5.out.size)
  go_wp2_with fail
  refine (SpPlain_c A2 A4 2 2 c2 c4 rfS13 rfS13 w5 _ _ R5.out hs5.out R5b.out hb5.out.size (by omega) (by omega) true (by decide)).mono ?_
  rintro e w6 ⟨rfl, hb6⟩
  have HB6 := Lib.hid (HB5.out.trans (hb6.out.mono HB5.out.size))
  go_wp2_with fail
  go_ret
  exact ⟨rfl, HB6⟩

set_option maxRecDepth 100000 in
set_option maxHeartbeats 1000000 in
theorem refuses_14 (a : Int) (w : World) (hx : wrap64 ((IntKind.u64.wrap a).tmod 17) = 14) :
    Calls Tryd.prog 5 #[.int .i64 a] w fun e w' => e = .returned (.bool true) ∧ Hid (Below w.heap.size w w') := by
  go_enter Tryd.func5, Tryd.ntmps5
  go_wp2_with fail
  refine (Parse_no ⟨#[91, 93]⟩ _ (by decide) (by decide) rf_no14).mono ?_
  rintro e w1 ⟨rfl, hb⟩
  have hb1 : Hid (Below w.heap.size w w1) := Lib.hid ((((Below.refl _ _).alloc (Nat.le_refl _) _).alloc (by simp) _).trans (hb.out.mono (by simp; omega)))
  have hm1 : w1.cell? ⟨w.heap.size + 1, 14, none⟩ = some (.string ⟨#[91, 32, 49, 32, 93]⟩) := (hb.out.cell (p := ⟨w.heap.size + 1, 14, none⟩) (by simp)).trans (by simp [go_sem])
  clear hb
  go_wp2_with fail
  refine (Parse_yes ⟨#[91, 32, 49, 32, 93]⟩ _ (by decide) (by decide) rfS14 rf_yes14 1 rfl).mono ?_
  rintro e w2 ⟨A2, c2, rfl, h2, hb2⟩
  have HB2 := Lib.hid (hb1.out.trans (hb2.out.mono hb1.out.size))
  clear hm1
  go_wp2_with fail
  refine (Text_c A2 1 c2 rfS14 w2 _ (Nat.le_refl _) h2.out.1 (by omega) h2.out.2.1 _ rf_text14).mono ?_
  rintro e w3 ⟨rfl, hb3⟩
  have HB3 := Lib.hid (HB2.out.trans (hb3.out.mono HB2.out.size))
  have R3 := Lib.hid (h2.out.1.below hb3.out)
  go_wp2_with fail
  refine (Parse_yes (tx [91, 49, 93]) _ (by decide) (by decide) rfS14 rf_back14 1 rfl).mono ?_
  rintro e w4 ⟨A4, c4, rfl, h4, hb4⟩
  have HB4 := Lib.hid (HB3.out.trans (hb4.out.mono HB3.out.size))
  have R4 := Lib.hid (R3.out.below (hb4.out.mono hb3.out.size))
  have hs4 := Lib.hid (Nat.le_trans hb3.out.size hb4.out.size)
  go_wp2_with fail
  refine (awake7_c w4).mono ?_
  rintro e w5 ⟨rfl, hb5⟩
  have HB5 := Lib.hid (HB4.out.trans (hb5.out.mono HB4.out.size))
  have R5 := Lib.hid (R4.out.below (hb5.out.mono hs4.out))
  have R5b := Lib.hid (h4.out.1.below hb5.out)
  have hs5 := Lib.hid (Nat.le_trans hs4.out hb5.out.size)
  go_wp2_with fail
  refine (SpPlain_c A2 A4 1 1 c2 c4 rfS14 rfS14 w5 _ _ R5.out hs5.out R5b.out hb5.out.size (by omega) (by omega) true (by decide)).mono ?_
  rintro e w6 ⟨rfl, hb6⟩
  have HB6 := Lib.hid (HB5.out.trans (hb6.out.mono HB5.out.size))
  go_wp2_with fail
  go_ret
  exact ⟨rfl, HB6⟩

set_option maxRecDepth 100000 in
set_option maxHeartbeats 1000000 in
theorem refuses_15 (a : Int) (w : World) (hx : wrap64 ((IntKind.u64.wrap a).tmod 17) = 15) :
    Calls Tryd.prog 5 #[.int .i64 a] w fun e w' => e = .returned (.bool true) ∧ Hid (Below w.heap.size w w') := by
  go_enter Tryd.func5, Tryd.ntmps5
  go_wp2_with fail
  refine (Parse_no ⟨#[91, 49, 32, 50, 93]⟩ _ (by decide) (by decide) rf_no15).mono ?_
  rintro e w1 ⟨rfl, hb⟩
  have hb1 : Hid (Below w.heap.size w w1) := Lib.hid ((((Below.refl _ _).alloc (Nat.le_refl _) _).alloc (by simp) _).trans (hb.out.mono (by simp; omega)))
  have hm1 : w1.cell? ⟨w.heap.size + 1, 15, none⟩ = some (.string ⟨#[91, 49, 45, 50, 93]⟩) := (hb.out.cell (p := ⟨w.heap.size + 1, 15, none⟩) (by simp)).trans (by simp [go_sem])
  clear hb
  go_wp2_with fail
  refine (Parse_yes ⟨#[91, 49, 45, 50, 93]⟩ _ (by decide) (by decide) rfS15 rf_yes15 1 rfl).mono ?_
  rintro e w2 ⟨A2, c2, rfl, h2, hb2⟩
  have HB2 := Lib.hid (hb1.out.trans (hb2.out.mono hb1.out.size))
  clear hm1
  go_wp2_with fail
  refine (Text_c A2 1 c2 rfS15 w2 _ (Nat.le_refl _) h2.out.1 (by omega) h2.out.2.1 _ rf_text15).mono ?_
  rintro e w3 ⟨rfl, hb3⟩
  have HB3 := Lib.hid (HB2.out.trans (hb3.out.mono HB2.out.size))
  have R3 := Lib.hid (h2.out.1.below hb3.out)
  go_wp2_with fail
  refine (Parse_yes (tx [91, 49, 45, 50, 93]) _ (by decide) (by decide) rfS15 rf_yes15 1 rfl).mono ?_
  rintro e w4 ⟨A4, c4, rfl, h4, hb4⟩
  have HB4 := Lib.hid (HB3.out.trans (hb4.out.mono HB3.out.size))
  have R4 := Lib.hid (R3.out.below (hb4.out.mono hb3.out.size))
  have hs4 := Lib.hid (Nat.le_trans hb3.out.size hb4.out.size)
  go_wp2_with fail
  refine (awake7_c w4).mono ?_
  rintro e w5 ⟨rfl, hb5⟩
  have HB5 := Lib.hid (HB4.out.trans (hb5.out.mono HB4.out.size))
  have R5 := Lib.hid (R4.out.below (hb5.out.mono hs4.out))
  have R5b := Lib.hid (h4.out.1.below hb5.out)
  have hs5 := Lib.hid (Nat.le_trans hs4.out hb5.out.size)
  go_wp2_with fail
  refine (SpPlain_c A2 A4 1 1 c2 c4 rfS15 rfS15 w5 _ _ R5.out hs5.out R5b.out hb5.out.size (by omega) (by omega) true (by decide)).mono ?_
  rintro e w6 ⟨rfl, hb6⟩
  have HB6 := Lib.hid (HB5.out.trans (hb6.out.mono HB5.out.size))
  go_wp2_with fail
  go_ret
  exact ⟨rfl, HB6⟩

set_option maxRecDepth 100000 in
set_option maxHeartbeats 1000000 in
theorem refuses_16 (a : Int) (w : World) (hx : wrap64 ((IntKind.u64.wrap a).tmod 17) = 16) :
    Calls Tryd.prog 5 #[.int .i64 a] w fun e w' => e = .returned (.bool true) ∧ Hid (Below w.heap.size w w') := by
  go_enter Tryd.func5, Tryd.ntmps5
  go_wp2_with fail
  refine (Parse_no ⟨#[91, 49, 44, 50, 44, 51, 93]⟩ _ (by decide) (by decide) rf_no16).mono ?_
  rintro e w1 ⟨rfl, hb⟩
  have hb1 : Hid (Below w.heap.size w w1) := Lib.hid ((((Below.refl _ _).alloc (Nat.le_refl _) _).alloc (by simp) _).trans (hb.out.mono (by simp; omega)))
  have hm1 : w1.cell? ⟨w.heap.size + 1, 16, none⟩ = some (.string ⟨#[91, 49, 44, 50, 46, 51, 93]⟩) := (hb.out.cell (p := ⟨w.heap.size + 1, 16, none⟩) (by simp)).trans (by simp [go_sem])
  clear hb
  go_wp2_with fail
  refine (Parse_yes ⟨#[91, 49, 44, 50, 46, 51, 93]⟩ _ (by decide) (by decide) rfS16 rf_yes16 1 rfl).mono ?_
  rintro e w2 ⟨A2, c2, rfl, h2, hb2⟩
  have HB2 := Lib.hid (hb1.out.trans (hb2.out.mono hb1.out.size))
  clear hm1
  go_wp2_with fail
  refine (Text_c A2 1 c2 rfS16 w2 _ (Nat.le_refl _) h2.out.1 (by omega) h2.out.2.1 _ rf_text16).mono ?_
  rintro e w3 ⟨rfl, hb3⟩
  have HB3 := Lib.hid (HB2.out.trans (hb3.out.mono HB2.out.size))
  have R3 := Lib.hid (h2.out.1.below hb3.out)
  go_wp2_with fail
  refine (Parse_yes (tx [91, 49, 44, 50, 46, 51, 93]) _ (by decide) (by decide) rfS16 rf_yes16 1 rfl).mono ?_
  rintro e w4 ⟨A4, c4, rfl, h4, hb4⟩
  have HB4 := Lib.hid (HB3.out.trans (hb4.out.mono HB3.out.size))
  have R4 := Lib.hid (R3.out.below (hb4.out.mono hb3.out.size))
  have hs4 := Lib.hid (Nat.le_trans hb3.out.size hb4.out.size)
  go_wp2_with fail
  refine (awake7_c w4).mono ?_
  rintro e w5 ⟨rfl, hb5⟩
  have HB5 := Lib.hid (HB4.out.trans (hb5.out.mono HB4.out.size))
  have R5 := Lib.hid (R4.out.below (hb5.out.mono hs4.out))
  have R5b := Lib.hid (h4.out.1.below hb5.out)
  have hs5 := Lib.hid (Nat.le_trans hs4.out hb5.out.size)
  go_wp2_with fail
  refine (SpPlain_c A2 A4 1 1 c2 c4 rfS16 rfS16 w5 _ _ R5.out hs5.out R5b.out hb5.out.size (by omega) (by omega) true (by decide)).mono ?_
  rintro e w6 ⟨rfl, hb6⟩
  have HB6 := Lib.hid (HB5.out.trans (hb6.out.mono HB5.out.size))
  go_wp2_with fail
  go_ret
  exact ⟨rfl, HB6⟩

theorem SpanRefuses_walk (a : Int) (w : World) (ha : (Lit.int .i64 a).wf = true) (hg : Glob w) :
    Calls Tryd.prog 5 #[.int .i64 a] w fun e w' => e = .returned (.bool true) ∧ Below w.heap.size w w' := by
  obtain ⟨x, hx, h1⟩ := idxN a 17 (by decide) (by decide)
  have key : Calls Tryd.prog 5 #[.int .i64 a] w fun e w' => e = .returned (.bool true) ∧ Hid (Below w.heap.size w w') := by
    have : wrap64 ((IntKind.u64.wrap a).tmod 17) = 0 ∨ wrap64 ((IntKind.u64.wrap a).tmod 17) = 1 ∨ wrap64 ((IntKind.u64.wrap a).tmod 17) = 2 ∨ wrap64 ((IntKind.u64.wrap a).tmod 17) = 3 ∨ wrap64 ((IntKind.u64.wrap a).tmod 17) = 4 ∨ wrap64 ((IntKind.u64.wrap a).tmod 17) = 5 ∨ wrap64 ((IntKind.u64.wrap a).tmod 17) = 6 ∨ wrap64 ((IntKind.u64.wrap a).tmod 17) = 7 ∨ wrap64 ((IntKind.u64.wrap a).tmod 17) = 8 ∨ wrap64 ((IntKind.u64.wrap a).tmod 17) = 9 ∨ wrap64 ((IntKind.u64.wrap a).tmod 17) = 10 ∨ wrap64 ((IntKind.u64.wrap a).tmod 17) = 11 ∨ wrap64 ((IntKind.u64.wrap a).tmod 17) = 12 ∨ wrap64 ((IntKind.u64.wrap a).tmod 17) = 13 ∨ wrap64 ((IntKind.u64.wrap a).tmod 17) = 14 ∨ wrap64 ((IntKind.u64.wrap a).tmod 17) = 15 ∨ wrap64 ((IntKind.u64.wrap a).tmod 17) = 16 := by omega
    rcases this with h | h | h | h | h | h | h | h | h | h | h | h | h | h | h | h | h
    · exact refuses_0 a w h
    · exact refuses_1 a w h
    · exact refuses_2 a w h
    · exact refuses_3 a w h
    · exact refuses_4 a w h
    · exact refuses_5 a w h
    · exact refuses_6 a w h
    · exact refuses_7 a w h
    · exact refuses_8 a w h
    · exact refuses_9 a w h
    · exact refuses_10 a w h
    · exact refuses_11 a w h
    · exact refuses_12 a w h
    · exact refuses_13 a w h
    · exact refuses_14 a w h
    · exact refuses_15 a w h
    · exact refuses_16 a w h
  exact key.mono fun e w' h => ⟨h.1, h.2.out⟩
end Go.Proofs.YtbpcoiblddhnjaaDoor
