/-
  The walk of WordsParts.
-/
import Derived.Test.YtcaplpocaddieaaDoorWdAwake
import Derived.Test.YtcaplpocaddieaaDoorWdPartsM
import Derived.Test.YtcaplpocaddieaaDoorGnRow
namespace Nwl
theorem bs_one (s : ByteArray) (k : Nat) (h : k < s.size) : s.extract k (k + 1) = tx [s[k]] := by
  apply bs_inj
  have hl := bs_length s
  rw [bs_extract, bs_tx, List.drop_eq_getElem_cons (by omega), bs_get s k h]
  simp
end Nwl
namespace Go.Proofs.YtcaplpocaddieaaDoor
open Nwl
open Go.RowKit Go.Maps
set_option linter.unusedVariables false

set_option maxRecDepth 100000 in
set_option maxHeartbeats 4000000 in
theorem WordsParts_walk (a b : Int) (s : ByteArray) (w : World) (ha : (Lit.int .i64 a).wf = true) (hb : (Lit.int .i64 b).wf = true) (hs : s.size ≤ maxLen) (hg : Glob w) :
    Calls Tryd.prog 7 #[.int .i64 a, .int .i64 b, .string s] w fun e w' => e = .returned (.bool true) ∧ Below w.heap.size w w' := by
  unfold maxLen at hs
  obtain ⟨x, hx, hx1⟩ := idxN a 900 (by decide) (by decide)
  obtain ⟨y, hy, hy1⟩ := idxN b 900 (by decide) (by decide)
  clear ha hb hg
  have NX := Nz.of x (by omega)
  have NY := Nz.of y (by omega)
  have lX := decF_le 9 (x + 1)
  have lY := decF_le 9 (y + 1)
  obtain ⟨X, hX⟩ : ∃ X, decF 9 (x + 1) = X := ⟨_, rfl⟩
  obtain ⟨Y, hY⟩ : ∃ Y, decF 9 (y + 1) = Y := ⟨_, rfl⟩
  rw [hX] at NX lX
  rw [hY] at NY lY
  have HX := Lib.hid hX
  have HY := Lib.hid hY
  have HNX := Lib.hid NX
  have HNY := Lib.hid NY
  clear hX hY NX NY
  go_enter Tryd.func7, Tryd.ntmps7
  go_wp2_with fail
  simp only [hx]
  rw [show (1 : Int) + (x : Int) = ((x + 1 : Nat) : Int) by omega]
  refine (Digits_c 9 (x + 1) _ (by omega) (by decide) (by decide)).mono ?_
  rw [HX.out]
  rintro e w1 ⟨rfl, hb1⟩
  have B1 := Lib.hid hb1
  clear hb1 hx
  go_wp2_with fail
  simp only [hy]
  rw [show (1 : Int) + (y : Int) = ((y + 1 : Nat) : Int) by omega]
  refine (Digits_c 9 (y + 1) _ (by omega) (by decide) (by decide)).mono ?_
  rw [HY.out]
  rintro e w2 ⟨rfl, hb2⟩
  have B2 := Lib.hid (B1.out.trans (hb2.mono B1.out.size))
  clear hb2 B1 hy
  go_wp2_with fail
  go_loop [9, 10] (fun sv iv => ∃ k : Nat, k ≤ s.size ∧ k ≤ 20 ∧ sv = .string (tx (wrd (bs s) k)) ∧ iv = .int .i64 k) (fun _ iv => 20 - (intOf iv).toNat)
  case atStart => exact ⟨0, by omega, by omega, rfl, rfl⟩
  case round =>
    obtain ⟨k, hk, hk20, rfl, rfl⟩ := hrel
    by_cases hlt : k < s.size ∧ k < 20
    · obtain ⟨hl1, hl2⟩ := hlt
      have hz : (tx (wrd (bs s) k)).size ≤ 21 := by rw [tx_size]; have := wrd_len (bs s) k; omega
      cases hc : low26 s[k] with
      | true =>
        have hcat : tx (wrd (bs s) k) ++ s.extract k (k + 1) = tx (wrd (bs s) (k + 1)) := by rw [bs_one s k hl1, txA, wrd_up s k hl1 hc]
        have hz2 : (s.extract k (k + 1)).size = 1 := by rw [bs_one s k hl1]; rfl
        have hcc : 97 ≤ (s[k].toNat : Int) ∧ (s[k].toNat : Int) ≤ 122 := by unfold low26 at hc; simpa using hc
        obtain ⟨hc1, hc2⟩ := hcc
        clear hc
        go_wp2_with fail
        go_round
        case rel => exact ⟨k + 1, by omega, by omega, rfl, by go_num⟩
        case measure => simp [intOf]; omega
      | false =>
        have hst := wrd_stay s k hl1 hc
        have HST : Hid (tx (wrd (bs s) k) = tx (wrd (bs s) (k + 1))) := Lib.hid (by rw [hst])
        clear hst
        have hcc : ¬ 97 ≤ (s[k].toNat : Int) ∨ (97 ≤ (s[k].toNat : Int) ∧ ¬ (s[k].toNat : Int) ≤ 122) := by
          unfold low26 at hc
          rw [Bool.and_eq_false_iff, decide_eq_false_iff_not, decide_eq_false_iff_not] at hc
          omega
        clear hc
        rcases hcc with hc1 | ⟨hc1, hc2⟩
        all_goals
          go_wp2_with fail
          go_round
          case rel => exact ⟨k + 1, by omega, by omega, by rw [HST.out], by go_num⟩
          case measure => simp [intOf]; omega
    · have hwl := wrd_let (bs s) k
      have hwn := wrd_len (bs s) k
      obtain ⟨r, hr⟩ : ∃ r, wrd (bs s) k = 119 :: r := ⟨_, rfl⟩
      rw [hr] at hwl hwn
      rw [hr]
      clear hr
      obtain ⟨p1, p2, p3⟩ := parts_three HNX.out HNY.out r hwl
      obtain ⟨q1, q2, q3⟩ := parts_two HNX.out HNY.out
      obtain ⟨W, hW⟩ : ∃ W, 119 :: r = W := ⟨_, rfl⟩
      rw [hW] at p1 p2 p3 hwn
      rw [hW]
      have hwn21 : W.length ≤ 21 := by omega
      clear hwl hW
      have P1 : Hid (splitW (bs (tx (X ++ W ++ Y))) = [⟨10, X⟩, ⟨8, W⟩, ⟨9, Y⟩]) := Lib.hid (by rw [bs_tx]; exact p1)
      have P2 : Hid (splitW (bs (tx (X ++ [45] ++ W ++ [45] ++ Y))) = [⟨10, X⟩, ⟨8, W⟩, ⟨9, Y⟩]) := Lib.hid (by rw [bs_tx]; exact p2)
      have P3 : Hid (splitW (bs (tx (X ++ [46] ++ W ++ [45] ++ Y))) = [⟨10, X⟩, ⟨8, W⟩, ⟨9, Y⟩]) := Lib.hid (by rw [bs_tx]; exact p3)
      have Q1 : Hid (splitW (bs (tx (X ++ [46] ++ Y))) = [⟨10, X⟩, ⟨10, Y⟩]) := Lib.hid (by rw [bs_tx]; exact q1)
      have Q2 : Hid (splitW (bs (tx (X ++ [45] ++ Y))) = [⟨10, X⟩, ⟨9, Y⟩]) := Lib.hid (by rw [bs_tx]; exact q2)
      have Q3 : Hid (splitW (bs (tx (X ++ Y))) = [⟨10, X ++ Y⟩]) := Lib.hid (by rw [bs_tx]; exact q3)
      clear p1 p2 p3 q1 q2 q3
      have sX : (tx X).size ≤ 9 := by rw [tx_size]; exact lX
      have sY : (tx Y).size ≤ 9 := by rw [tx_size]; exact lY
      have sW : (tx W).size ≤ 21 := by rw [tx_size]; exact hwn21
      have s1 : (tx (X ++ W)).size ≤ 100 := by rw [tx_size]; simp; omega
      have s2 : (tx (X ++ W ++ Y)).size ≤ 100 := by rw [tx_size]; simp; omega
      have s3 : (tx (X ++ [45])).size ≤ 100 := by rw [tx_size]; simp; omega
      have s4 : (tx (X ++ [45] ++ W)).size ≤ 100 := by rw [tx_size]; simp; omega
      have s5 : (tx (X ++ [45] ++ W ++ [45])).size ≤ 100 := by rw [tx_size]; simp; omega
      have s6 : (tx (X ++ [45] ++ W ++ [45] ++ Y)).size ≤ 100 := by rw [tx_size]; simp; omega
      have s7 : (tx (X ++ [46])).size ≤ 100 := by rw [tx_size]; simp; omega
      have s8 : (tx (X ++ [46] ++ W)).size ≤ 100 := by rw [tx_size]; simp; omega
      have s9 : (tx (X ++ [46] ++ W ++ [45])).size ≤ 100 := by rw [tx_size]; simp; omega
      have s10 : (tx (X ++ [46] ++ W ++ [45] ++ Y)).size ≤ 100 := by rw [tx_size]; simp; omega
      have s11 : (tx (X ++ [46] ++ Y)).size ≤ 100 := by rw [tx_size]; simp; omega
      have s12 : (tx (X ++ [45] ++ Y)).size ≤ 100 := by rw [tx_size]; simp; omega
      have s13 : (tx (X ++ Y)).size ≤ 100 := by rw [tx_size]; simp; omega
      have c1 : tx X ++ tx W = tx (X ++ W) := txA _ _
      have c2 : tx (X ++ W) ++ tx Y = tx (X ++ W ++ Y) := txA _ _
      have c3 : tx X ++ ⟨#[45]⟩ = tx (X ++ [45]) := txA X [45]
      have c4 : tx (X ++ [45]) ++ tx W = tx (X ++ [45] ++ W) := txA _ _
      have c5 : tx (X ++ [45] ++ W) ++ ⟨#[45]⟩ = tx (X ++ [45] ++ W ++ [45]) := txA _ [45]
      have c6 : tx (X ++ [45] ++ W ++ [45]) ++ tx Y = tx (X ++ [45] ++ W ++ [45] ++ Y) := txA _ _
      have c7 : tx X ++ ⟨#[46]⟩ = tx (X ++ [46]) := txA X [46]
      have c8 : tx (X ++ [46]) ++ tx W = tx (X ++ [46] ++ W) := txA _ _
      have c9 : tx (X ++ [46] ++ W) ++ ⟨#[45]⟩ = tx (X ++ [46] ++ W ++ [45]) := txA _ [45]
      have c10 : tx (X ++ [46] ++ W ++ [45]) ++ tx Y = tx (X ++ [46] ++ W ++ [45] ++ Y) := txA _ _
      have c11 : tx (X ++ [46]) ++ tx Y = tx (X ++ [46] ++ Y) := txA _ _
      have c12 : tx (X ++ [45]) ++ tx Y = tx (X ++ [45] ++ Y) := txA _ _
      have c13 : tx X ++ tx Y = tx (X ++ Y) := txA _ _
      clear hwn hwn21 lX lY
      generalize X ++ [45] ++ W ++ [45] ++ Y = V6 at *
      generalize X ++ [46] ++ W ++ [45] ++ Y = V10 at *
      generalize X ++ [45] ++ W ++ [45] = V5 at *
      generalize X ++ [46] ++ W ++ [45] = V9 at *
      generalize X ++ [45] ++ W = V4 at *
      generalize X ++ [46] ++ W = V8 at *
      generalize X ++ W ++ Y = V2 at *
      generalize X ++ [46] ++ Y = V11 at *
      generalize X ++ [45] ++ Y = V12 at *
      generalize X ++ [45] = V3 at *
      generalize X ++ [46] = V7 at *
      generalize X ++ W = V1 at *
      generalize X ++ Y = V13 at *
      have hcond : k < s.size → ¬ k < 20 := fun h h2 => hlt ⟨h, h2⟩
      have hne : decide ([(⟨10, X⟩ : Wd), ⟨10, Y⟩] = [⟨10, X⟩, ⟨9, Y⟩]) = false := by simp
      have HNE := Lib.hid hne
      clear hne
      have hways : (k < s.size ∧ ¬ k < 20) ∨ ¬ k < s.size := by
        by_cases h : k < s.size
        · exact .inl ⟨h, hcond h⟩
        · exact .inr h
      clear hcond hlt HNX HNY HX HY hx1 hy1
      rcases hways with ⟨hk1, hk2⟩ | hk1
      all_goals
        go_wp2_with fail
        refine (Split_b (tx V2) _ (by omega) _ P1.out 3 rfl).mono ?_
        rintro e w3 ⟨A3, k3, rfl, R3, hb3⟩
        have B3 := Lib.hid (B2.out.trans (hb3.out.mono B2.out.size))
        clear hb3
        go_wp2_with fail
        refine (awake5_c _).mono ?_
        rintro e w4 ⟨rfl, hb4⟩
        have B4 := Lib.hid (B3.out.trans (hb4.out.mono B3.out.size))
        have R4 := Lib.hid (R3.out.below hb4.out)
        have Z4 := hb4.out.size
        clear hb4 B3 R3
        go_wp2_with fail
        refine (Split_b (tx V6) _ (by omega) _ P2.out 3 rfl).mono ?_
        rintro e w5 ⟨A5, k5, rfl, R5, hb5⟩
        have B5 := Lib.hid (B4.out.trans (hb5.out.mono B4.out.size))
        have R45 := Lib.hid (R4.out.below (hb5.out.mono Z4))
        have Z5 := hb5.out.size
        clear hb5 B4 R4
        go_wp2_with fail
        refine (Plain_b A3 A5 3 3 k3 k5 _ _ _ w3.heap.size w5.heap.size R45.out (by omega) R5.out (Nat.le_refl _) (by decide) (by decide) true (by simp)).mono ?_
        rintro e w6 ⟨rfl, hb6⟩
        have B6 := Lib.hid (B5.out.trans (hb6.out.mono B5.out.size))
        have R46 := Lib.hid (R45.out.below (hb6.out.mono (by omega)))
        have Z6 := hb6.out.size
        clear hb6 B5 R5 R45
        go_wp2_with fail
        refine (Split_b (tx V10) _ (by omega) _ P3.out 3 rfl).mono ?_
        rintro e w7 ⟨A7, k7, rfl, R7, hb7⟩
        have B7 := Lib.hid (B6.out.trans (hb7.out.mono B6.out.size))
        have R47 := Lib.hid (R46.out.below (hb7.out.mono (by omega)))
        have Z7 := hb7.out.size
        clear hb7 B6 R46
        go_wp2_with fail
        refine (Plain_b A3 A7 3 3 k3 k7 _ _ _ w3.heap.size w7.heap.size R47.out (by omega) R7.out (Nat.le_refl _) (by decide) (by decide) true (by simp)).mono ?_
        rintro e w8 ⟨rfl, hb8⟩
        have B8 := Lib.hid (B7.out.trans (hb8.out.mono B7.out.size))
        clear hb8 B7 R7 R47
        go_wp2_with fail
        refine (Split_b (tx V11) _ (by omega) _ Q1.out 2 rfl).mono ?_
        rintro e w9 ⟨A9, k9, rfl, _, hb9⟩
        have B9 := Lib.hid (B8.out.trans (hb9.out.mono B8.out.size))
        clear hb9 B8
        go_wp2_with fail
        refine (Split_b (tx V11) _ (by omega) _ Q1.out 2 rfl).mono ?_
        rintro e w10 ⟨A10, k10, rfl, R10, hb10⟩
        have B10 := Lib.hid (B9.out.trans (hb10.out.mono B9.out.size))
        clear hb10 B9
        go_wp2_with fail
        refine (Split_b (tx V12) _ (by omega) _ Q2.out 2 rfl).mono ?_
        rintro e w11 ⟨A11, k11, rfl, R11, hb11⟩
        have B11 := Lib.hid (B10.out.trans (hb11.out.mono B10.out.size))
        have R1011 := Lib.hid (R10.out.below hb11.out)
        have Z11 := hb11.out.size
        clear hb11 B10 R10
        go_wp2_with fail
        refine (Plain_b A10 A11 2 2 k10 k11 _ _ _ w10.heap.size w11.heap.size R1011.out Z11 R11.out (Nat.le_refl _) (by decide) (by decide) false HNE.out).mono ?_
        rintro e w12 ⟨rfl, hb12⟩
        have B12 := Lib.hid (B11.out.trans (hb12.out.mono B11.out.size))
        clear hb12 B11 R11 R1011
        go_wp2_with fail
        refine (Split_b (tx V13) _ (by omega) _ Q3.out 1 rfl).mono ?_
        rintro e w13 ⟨A13, k13, rfl, _, hb13⟩
        have B13 := Lib.hid (B12.out.trans (hb13.out.mono B12.out.size))
        clear hb13 B12
        go_wp2_with fail
        go_ret
        exact ⟨rfl, B13.out⟩
end Go.Proofs.YtcaplpocaddieaaDoor
