/-
  The walk of WordsTell.
-/
import Derived.Test.YtcaplpocaddieaaDoorWdAwake
import Derived.Test.YtcaplpocaddieaaDoorWfSplit
import Derived.Test.YtcaplpocaddieaaDoorGnRow
namespace Go.Proofs.YtcaplpocaddieaaDoor
open Nwl
open Go.RowKit Go.Maps
set_option linter.unusedVariables false

set_option maxRecDepth 100000 in
set_option maxHeartbeats 2000000 in
theorem WordsTell_walk (s : ByteArray) (w : World) (hs : s.size ≤ maxLen) (hg : Glob w) :
    Calls Tryd.prog 3 #[.string s] w fun e w' => e = .returned (.bool true) ∧ Below w.heap.size w w' := by
  clear hg
  by_cases hbig : 300 < s.size
  · go_enter Tryd.func3, Tryd.ntmps3
    go_wp2_with (go_at_call 9; refine (awake5_c _).mono ?_; rintro e w1 ⟨rfl, hb1⟩)
    go_ret
    exact ⟨rfl, hb1.out⟩
  · obtain ⟨F, hF⟩ : ∃ F, splitW (bs s) = F := ⟨_, rfl⟩
    have HF := Lib.hid hF
    obtain ⟨n, hn⟩ : ∃ n, F.length = n := ⟨_, rfl⟩
    have hn301 : n ≤ 301 := by have := splitW_len (bs s); rw [hF, hn, bs_length] at this; omega
    have HN := Lib.hid hn
    obtain ⟨r, hr⟩ : ∃ r, rightV (bs s) = r := ⟨_, rfl⟩
    have HR := Lib.hid hr
    have hss : s.size ≤ 100000 := by omega
    clear hF hn hr
    go_enter Tryd.func3, Tryd.ntmps3
    go_wp2_with fail
    refine (awake5_c _).mono ?_
    rintro e w1 ⟨rfl, B1⟩
    go_wp2_with fail
    refine (Right_b s _ hs r HR.out).mono ?_
    rintro e w' ⟨rfl, rfl⟩
    go_wp2_with fail
    refine (refRight_c s _ hs r HR.out).mono ?_
    rintro e w' ⟨rfl, rfl⟩
    go_wp2_with fail
    refine (Split_b s _ hss F HF.out n HN.out).mono ?_
    rintro e w2 ⟨A2, c2, rfl, R2, hb2⟩
    have B2 := Lib.hid (B1.out.trans (hb2.out.mono B1.out.size))
    clear hb2 B1
    go_wp2_with fail
    refine (refsplit_c s _ hss F HF.out n HN.out).mono ?_
    rintro e w3 ⟨A3, c3, rfl, R3, hb3⟩
    have R23 := Lib.hid (R2.out.below hb3.out)
    have Z3 := hb3.out.size
    have B3 := Lib.hid (B2.out.trans (hb3.out.mono B2.out.size))
    clear hb3 B2 R2
    go_wp2_with fail
    refine (Plain_b A2 A3 n n c2 c3 F F _ w2.heap.size w3.heap.size R23.out Z3 R3.out (Nat.le_refl _) (by omega) (by omega) true (by simp)).mono ?_
    rintro e w4 ⟨rfl, hb4⟩
    go_wp2_with fail
    go_ret
    exact ⟨rfl, B3.out.trans (hb4.out.mono B3.out.size)⟩
end Go.Proofs.YtcaplpocaddieaaDoor
