/-
  awake (layer 3).
-/
import Derived.Test.YtkccockdnjjanaaGreatDoorElInner
namespace Nwl
theorem awake3N : nodesOf (parseX [60, 97, 62, 120, 60, 47, 97, 62]) = [⟨-1, [97], [], []⟩, ⟨0, [], [120], []⟩] := by decide +kernel
theorem awake3E : errOf (parseX [60, 97, 62, 120, 60, 47, 97, 62]) = 0 := by decide +kernel
theorem awake3I : innerT [⟨-1, [97], [], []⟩, ⟨0, [], [120], []⟩] 0 = [120] := by decide +kernel
end Nwl
namespace Go.Proofs.YtkccockdnjjanaaGreatDoor
open Nwl
open Go.RowKit Go.Maps
set_option linter.unusedVariables false

set_option maxRecDepth 100000 in
set_option maxHeartbeats 1000000 in
theorem awake3_c (w : World) (hg : Glob w) :
    Calls Tryz.prog 6 #[] w fun e w' => e = .returned (.bool true) ∧ Below w.heap.size w w' := by
  have HG := Lib.hid hg
  clear hg
  go_enter Tryz.func6, Tryz.ntmps6
  go_wp2_with fail
  refine (Parse_c _ _ (by decide) HG.out).mono ?_
  intro e w1 hp
  unfold TreePost at hp
  have hb : Nwl.bs ⟨#[60, 97, 62, 120, 60, 47, 97, 62]⟩ = [60, 97, 62, 120, 60, 47, 97, 62] := rfl
  rw [hb, awake3E, awake3N] at hp
  obtain ⟨A, c, rfl, hn, hbel⟩ := hp
  have HR := Lib.hid (NodesR.of hn)
  have HB := Lib.hid hbel
  obtain ⟨b, o, A2, l2, c2, hA, hra, e0, e1, e2, e3⟩ := HR.out.at 1 (by decide)
  subst hA
  simp only [List.getElem_cons_succ, List.getElem_cons_zero] at e0 e1 e2
  have hd2 : (tx [120]).toList = [120] := by rw [ByteArray.toList_eq]; rfl
  have hbs := hbel.size
  clear hra hn hbel hb
  go_wp2_with fail
  refine (Inner_c _ _ _ _ _ _ HR.out rfl (by decide) (by rw [awake3I]; decide)).mono ?_
  rintro e w2 ⟨rfl, hb2⟩
  rw [awake3I]
  have HB2 := Lib.hid (HB.out.trans (hb2.mono hbs))
  clear hb2
  go_wp2_with fail
  go_ret
  exact ⟨rfl, HB2.out⟩
end Go.Proofs.YtkccockdnjjanaaGreatDoor
