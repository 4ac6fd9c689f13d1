/-
  Layer 5: awake; Right, Split and Plain as the laws call them.
-/
import Derived.Test.YtcaplpocaddieaaDoorWdSplit2
import Derived.Test.YtcaplpocaddieaaDoorWdSame
namespace Nwl
def awW : List Wd := [⟨10, [49]⟩, ⟨1, []⟩, ⟨9, [49]⟩]
theorem aw_split : splitW [49, 46, 48, 45, 97, 108, 112, 104, 97, 49] = awW := by decide +kernel
theorem aw_right1 : rightV [49] = true := by decide +kernel
theorem aw_right0 : rightV [] = false := by decide +kernel
end Nwl
namespace Go.Proofs.YtcaplpocaddieaaDoor
open Nwl
open Go.RowKit Go.Maps
set_option linter.unusedVariables false

theorem Right_b (s : ByteArray) (w : World) (hs : s.size ≤ maxLen) (r : Bool) (hr : rightV (bs s) = r) :
    Calls Tryd.prog 10 #[.string s] w fun e w' => e = .returned (.bool r) ∧ w = w' := by
  subst hr; exact Right_c s w hs

theorem Split_b (v : ByteArray) (w : World) (hs : v.size ≤ 100000) (F : List Wd) (hF : splitW (bs v) = F) (n : Nat) (hn : F.length = n) :
    Calls Tryd.prog 13 #[.string v] w fun e w' => ∃ A c, e = .returned (.slice A n c) ∧ Hid (WdR w'.heap.size w' A n F) ∧ Hid (Below w.heap.size w w') := by
  subst hF
  subst hn
  refine (split_walk v w hs).mono ?_
  rintro e w' ⟨A, c, rfl, h1, h2⟩
  exact ⟨A, c, rfl, Lib.hid h1.r, Lib.hid h2⟩

theorem Plain_b (A1 A2 : Option Addr) (n1 n2 c1 c2 : Nat) (l1 l2 : List Wd) (w : World) (B1 B2 : Nat) (h1 : WdR B1 w A1 n1 l1) (hB1 : B1 ≤ w.heap.size) (h2 : WdR B2 w A2 n2 l2) (hB2 : B2 ≤ w.heap.size) (hm : n1 ≤ 1000000000) (hm2 : n2 ≤ 1000000000) (r : Bool) (hr : decide (l1 = l2) = r) :
    Calls Tryd.prog 12 #[.slice A1 n1 c1, .slice A2 n2 c2] w fun e w' => e = .returned (.bool r) ∧ Hid (Below w.heap.size w w') := by
  refine (WPlain_c A1 A2 n1 n2 c1 c2 l1 l2 w (h1.mono hB1) (h2.mono hB2) hm hm2 r hr).mono ?_
  rintro e w' ⟨rfl, hb⟩
  exact ⟨rfl, Lib.hid hb⟩

set_option maxRecDepth 100000 in
set_option maxHeartbeats 2000000 in
theorem awake5_c (w : World) : Calls Tryd.prog 9 #[] w fun e w' => e = .returned (.bool true) ∧ Hid (Below w.heap.size w w') := by
  go_enter Tryd.func9, Tryd.ntmps9
  go_wp2_with fail
  refine (Right_b ⟨#[49]⟩ w (by unfold maxLen; decide) true aw_right1).mono ?_
  rintro e w' ⟨rfl, rfl⟩
  go_wp2_with fail
  refine (Right_b ⟨#[]⟩ w (by unfold maxLen; decide) false aw_right0).mono ?_
  rintro e w' ⟨rfl, rfl⟩
  go_wp2_with fail
  refine (Split_b ⟨#[49, 46, 48, 45, 97, 108, 112, 104, 97, 49]⟩ w (by decide) awW aw_split 3 rfl).mono ?_
  rintro e w1 ⟨A, c, rfl, hr1, hb1⟩
  go_wp2_with fail
  refine (Plain_b _ _ 3 3 _ _ awW awW _ w1.heap.size (w1.heap.size + 1) (hr1.out.below ((Below.refl _ _).alloc (Nat.le_refl _) _)) (by simp) (WdR.blk (l := awW) (Blk.new w1 _ _) (Nat.lt_succ_self w1.heap.size) rfl) (by simp) (by omega) (by omega) true (by decide)).mono ?_
  rintro e w2 ⟨rfl, hb2⟩
  have hb3 : Below w1.heap.size w1 w2 := ((Below.refl _ _).alloc (Nat.le_refl _) _).trans (hb2.out.mono (by simp))
  go_wp2_with fail
  go_ret
  exact ⟨rfl, Lib.hid (hb1.out.trans (hb3.mono hb1.out.size))⟩
end Go.Proofs.YtcaplpocaddieaaDoor
