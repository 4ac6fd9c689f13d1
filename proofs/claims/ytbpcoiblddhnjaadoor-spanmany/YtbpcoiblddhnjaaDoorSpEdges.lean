/-
  The walk of SpanEdges.
-/
import Derived.Test.YtbpcoiblddhnjaaDoorSpAwake
import Derived.Test.YtbpcoiblddhnjaaDoorSpDec
import Derived.Test.YtbpcoiblddhnjaaDoorGnDigits
import Derived.Test.YtbpcoiblddhnjaaDoorGnRow
import Derived.Deep.CutRange
namespace Nwl
open Go
theorem rangeL_nSp (a b : Nat) (p q : Bool) (h : a < b) (ha : a < 10 ^ 9) (hb : b < 10 ^ 9) : rangeL [nSp a b p q] = (if p then [91] else [40]) ++ decF 9 a ++ [44] ++ decF 9 b ++ (if q then [93] else [41]) := by
  rw [rangeL_one]
  unfold spanL nSp
  dsimp only
  rw [if_neg]
  rintro ⟨e, _, _⟩
  have := num_cmp a b ha hb
  rw [e, ord_v.refl, ci_lt (by omega)] at this
  exact absurd this (by decide)
theorem rangeL_nOne (a : Nat) : rangeL [nSp a a true true] = [91] ++ decF 9 a ++ [93] := by
  rw [rangeL_one]
  unfold spanL nSp
  dsimp only
  rw [if_pos ⟨rfl, rfl, rfl⟩]
theorem nOne_zero (n : Nat) (hn : n < 10 ^ 9) : holdsB [nSp n n true true] (decF 9 n ++ [46, 48]) = true := by
  have h := num_zero n hn
  have h2 := ord_v.anti (decF 9 n ++ [46, 48]) (decF 9 n)
  unfold holdsB withinB nSp
  simp only [List.any_cons, List.any_nil, Bool.or_false]
  rw [above_ord.2 (.inr ⟨h, rfl⟩), above_ord.2 (.inr ⟨by omega, rfl⟩)]
  simp
theorem nOne_next (n : Nat) (hn : n + 1 < 10 ^ 9) : holdsB [nSp n n true true] (decF 9 (n + 1)) = false := by
  unfold holdsB
  rw [List.any_cons, List.any_nil, Bool.or_false, nSp_holds n n (n + 1) true true (by omega) (by omega) hn, Bool.and_eq_false_iff]
  right
  exact decide_eq_false (by omega)
theorem nSp_ascii (v : Nat) : ∀ c ∈ decF 9 v, c.toNat < 128 := by
  intro c hc
  have := decF_dig 9 v c hc
  omega
end Nwl
namespace Go.Proofs.YtbpcoiblddhnjaaDoor
open Nwl
open Go.RowKit Go.Maps
set_option linter.unusedVariables false

set_option maxRecDepth 100000 in
set_option maxHeartbeats 4000000 in
theorem edges_00 (a b v : Int) (w : World) (x y z : Nat) (hx : wrap64 ((IntKind.u64.wrap a).tmod 50) = (x : Int)) (hy : wrap64 ((IntKind.u64.wrap b).tmod 50) = (y : Int)) (hz : wrap64 ((IntKind.u64.wrap v).tmod 110) = (z : Int)) (lx : x < 50) (ly : y < 50) (lz : z < 110) :
    Calls Tryd.prog 4 #[.int .i64 a, .int .i64 b, .bool false, .bool false, .int .i64 v] w fun e w' => e = .returned (.bool true) ∧ Hid (Below w.heap.size w w') := by
  obtain ⟨X, hX⟩ : ∃ X, decF 9 (x + 1) = X := ⟨_, rfl⟩
  obtain ⟨Y, hY⟩ : ∃ X, decF 9 (x + 1 + y + 1) = X := ⟨_, rfl⟩
  obtain ⟨Z, hZ⟩ : ∃ X, decF 9 (z + 1) = X := ⟨_, rfl⟩
  obtain ⟨V, hV⟩ : ∃ X, decF 9 (z + 1 + 1) = X := ⟨_, rfl⟩
  obtain ⟨S1, hS1⟩ : ∃ S, [40] ++ X = S := ⟨_, rfl⟩
  obtain ⟨S2, hS2⟩ : ∃ S, S1 ++ [44] = S := ⟨_, rfl⟩
  obtain ⟨S3, hS3⟩ : ∃ S, S2 ++ Y = S := ⟨_, rfl⟩
  obtain ⟨S4, hS4⟩ : ∃ S, S3 ++ [41] = S := ⟨_, rfl⟩
  obtain ⟨T1, hT1⟩ : ∃ S, [91] ++ Z = S := ⟨_, rfl⟩
  obtain ⟨T2, hT2⟩ : ∃ S, T1 ++ [93] = S := ⟨_, rfl⟩
  obtain ⟨U, hU⟩ : ∃ S, Z ++ [46, 48] = S := ⟨_, rfl⟩
  have e1 : (⟨#[40]⟩ : ByteArray) ++ tx X = tx S1 := by rw [← hS1]; exact txA [40] _
  have e2 : tx S1 ++ (⟨#[44]⟩ : ByteArray) = tx S2 := by rw [← hS2]; exact txA _ [44]
  have e3 : tx S2 ++ tx Y = tx S3 := by rw [← hS3]; exact txA _ _
  have e4 : tx S3 ++ (⟨#[41]⟩ : ByteArray) = tx S4 := by rw [← hS4]; exact txA _ [41]
  have e5 : (⟨#[91]⟩ : ByteArray) ++ tx Z = tx T1 := by rw [← hT1]; exact txA [91] _
  have e6 : tx T1 ++ (⟨#[93]⟩ : ByteArray) = tx T2 := by rw [← hT2]; exact txA _ [93]
  have e7 : tx Z ++ (⟨#[46, 48]⟩ : ByteArray) = tx U := by rw [← hU]; exact txA _ [46, 48]
  have l1 : X.length ≤ 9 := by rw [← hX]; exact decF_le 9 _
  have l2 : Y.length ≤ 9 := by rw [← hY]; exact decF_le 9 _
  have l3 : Z.length ≤ 9 := by rw [← hZ]; exact decF_le 9 _
  have l4 : V.length ≤ 9 := by rw [← hV]; exact decF_le 9 _
  have s1 : (tx X).size ≤ 9 := by rw [tx_size]; exact l1
  have s2 : (tx Y).size ≤ 9 := by rw [tx_size]; exact l2
  have s3 : (tx Z).size ≤ 9 := by rw [tx_size]; exact l3
  have s4 : (tx V).size ≤ 9 := by rw [tx_size]; exact l4
  have s5 : (tx S1).size ≤ 10 := by rw [tx_size, ← hS1]; simp; omega
  have s6 : (tx S2).size ≤ 11 := by rw [tx_size, ← hS2, ← hS1]; simp; omega
  have s7 : (tx S3).size ≤ 20 := by rw [tx_size, ← hS3, ← hS2, ← hS1]; simp; omega
  have s8 : (tx S4).size ≤ 21 := by rw [tx_size, ← hS4, ← hS3, ← hS2, ← hS1]; simp; omega
  have s9 : (tx T1).size ≤ 10 := by rw [tx_size, ← hT1]; simp; omega
  have s10 : (tx T2).size ≤ 11 := by rw [tx_size, ← hT2, ← hT1]; simp; omega
  have s11 : (tx U).size ≤ 11 := by rw [tx_size, ← hU]; simp; omega
  have hr : S4 = rangeL [nSp (x + 1) (x + 1 + y + 1) false false] := by
    rw [rangeL_nSp _ _ _ _ (by omega) (by omega) (by omega), ← hS4, ← hS3, ← hS2, ← hS1, hX, hY]; rfl
  have hr2 : T2 = rangeL [nSp (z + 1) (z + 1) true true] := by
    rw [rangeL_nOne, ← hT2, ← hT1, hZ]
  have HP1 : Hid (parseL (bs (tx S4)) = some [nSp (x + 1) (x + 1 + y + 1) false false]) := Lib.hid (by rw [bs_tx, hr]; exact parse_one _ _ _ _ (by omega) (by omega) (.inl (by omega)))
  have HP2 : Hid (parseL (bs (tx T2)) = some [nSp (z + 1) (z + 1) true true]) := Lib.hid (by rw [bs_tx, hr2]; exact parse_one _ _ _ _ (by omega) (by omega) (.inr ⟨rfl, rfl, rfl⟩))
  have HA1 : Hid (∀ c ∈ bs (tx S4), c.toNat < 128) := Lib.hid (by
    rw [bs_tx, ← hS4, ← hS3, ← hS2, ← hS1, ← hX, ← hY]
    intro c hc
    simp only [List.mem_append, List.mem_singleton] at hc
    rcases hc with (((rfl | hc) | rfl) | hc) | rfl
    · decide
    · exact nSp_ascii _ c hc
    · decide
    · exact nSp_ascii _ c hc
    · decide)
  have HA2 : Hid (∀ c ∈ bs (tx T2), c.toNat < 128) := Lib.hid (by
    rw [bs_tx, ← hT2, ← hT1, ← hZ]
    intro c hc
    simp only [List.mem_append, List.mem_singleton] at hc
    rcases hc with (rfl | hc) | rfl
    · decide
    · exact nSp_ascii _ c hc
    · decide)
  obtain ⟨W, hW⟩ : ∃ W, (decide (x + 1 < z + 1 ∨ x + 1 = z + 1 ∧ false = true) && decide (z + 1 < x + 1 + y + 1 ∨ z + 1 = x + 1 + y + 1 ∧ false = true)) = W := ⟨_, rfl⟩
  have HH : Hid (holdsB [nSp (x + 1) (x + 1 + y + 1) false false] (bs (tx Z)) = W) := Lib.hid (by
    unfold holdsB
    rw [bs_tx, ← hZ, List.any_cons, List.any_nil, Bool.or_false, nSp_holds _ _ _ _ _ (by omega) (by omega) (by omega), hW])
  have HH2 : Hid (holdsB [nSp (z + 1) (z + 1) true true] (bs (tx U)) = true) := Lib.hid (by
    rw [bs_tx, ← hU, ← hZ]; exact nOne_zero _ (by omega))
  have HH3 : Hid (holdsB [nSp (z + 1) (z + 1) true true] (bs (tx V)) = false) := Lib.hid (by
    rw [bs_tx, ← hV]; exact nOne_next _ (by omega))
  have HDX := Lib.hid (fun w => hX ▸ Digits_c 9 (x + 1) w (by omega) (by decide) (by decide))
  have HDY := Lib.hid (fun w => hY ▸ Digits_c 9 (x + 1 + y + 1) w (by omega) (by decide) (by decide))
  have HDZ := Lib.hid (fun w => hZ ▸ Digits_c 9 (z + 1) w (by omega) (by decide) (by decide))
  have HDV := Lib.hid (fun w => hV ▸ Digits_c 9 (z + 1 + 1) w (by omega) (by decide) (by decide))
  have HWW := Lib.hid hW
  clear hX hY hZ hV hS1 hS2 hS3 hS4 hT1 hT2 hU l1 l2 l3 l4 hr hr2 hW
  go_enter Tryd.func4, Tryd.ntmps4
  go_wp2_with fail
  refine (HDX.out _).mono ?_
  rintro e w1 ⟨rfl, b1⟩
  have B1 := Lib.hid b1
  clear b1
  go_wp2_with fail
  refine (HDY.out _).mono ?_
  rintro e w2 ⟨rfl, b2⟩
  have B2 := Lib.hid (B1.out.trans (b2.mono B1.out.size))
  clear b2
  go_wp2_with fail
  refine (Parse_yes (tx S4) _ (by omega) HA1.out _ HP1.out 1 rfl).mono ?_
  rintro e w3 ⟨A3, c3, rfl, h3, b3⟩
  have B3 := Lib.hid (B2.out.trans (b3.out.mono B2.out.size))
  clear b3
  go_upto_region 13 with fail
  go_cut [15] from 18 to 123 (fun v wx => v = .bool W ∧ wx = w3)
  case first =>
    have hc : z < x ∨ z = x ∨ (x < z ∧ z < x + 1 + y) ∨ z = x + 1 + y ∨ x + 1 + y < z := by omega
    rcases hc with hc | hc | ⟨hc, hd⟩ | hc | hc
    · have hf : W = false := by rw [← HWW.out, Bool.and_eq_false_iff]; left; exact decide_eq_false (by omega)
      have h1 : ¬ x < z := by omega
      have h2 : ¬ z = x := by omega
      go_wp2_with fail
      go_meet
      exact ⟨by rw [hf], rfl⟩
    · have hf : W = false := by rw [← HWW.out, hc]; first | (simp; done) | (simp; omega)
      subst hc
      go_wp2_with fail
      go_meet
      exact ⟨by rw [hf], rfl⟩
    · have hf : W = true := by rw [← HWW.out, decide_eq_true (.inl (by omega)), decide_eq_true (.inl (by omega))]; rfl
      have h2 : (z : Int) < (x : Int) + 1 + (y : Int) := by omega
      go_wp2_with fail
      go_meet
      exact ⟨by rw [hf], rfl⟩
    · have hf : W = false := by rw [← HWW.out, hc]; first | (simp; done) | (simp; omega)
      have h1 : x < x + 1 + y := by omega
      subst hc
      go_wp2_with fail
      go_meet
      exact ⟨by rw [hf], rfl⟩
    · have hf : W = false := by rw [← HWW.out, Bool.and_eq_false_iff]; right; exact decide_eq_false (by omega)
      have h1 : x < z := by omega
      have h2 : ¬ (z : Int) < (x : Int) + 1 + (y : Int) := by omega
      have h3 : ¬ (z : Int) = (x : Int) + 1 + (y : Int) := by omega
      go_wp2_with fail
      go_meet
      exact ⟨by rw [hf], rfl⟩
  case rest =>
  obtain ⟨rfl, rfl⟩ := hcut
  go_wp2_with fail
  refine (HDZ.out _).mono ?_
  rintro e w4 ⟨rfl, b4⟩
  have B4 := Lib.hid (B3.out.trans (b4.mono B3.out.size))
  have R4 := Lib.hid (h3.out.1.below b4)
  have K4 := Lib.hid b4.size
  clear b4
  go_wp2_with fail
  refine (Parse_yes (tx T2) _ (by omega) HA2.out _ HP2.out 1 rfl).mono ?_
  rintro e w5 ⟨A5, c5, rfl, h5, b5⟩
  have B5 := Lib.hid (B4.out.trans (b5.out.mono B4.out.size))
  have R5 := Lib.hid (R4.out.below (b5.out.mono K4.out))
  have K5 := Lib.hid (Nat.le_trans K4.out b5.out.size)
  clear b5
  go_wp2_with fail
  refine (awake7_c _).mono ?_
  rintro e w6 ⟨rfl, b6⟩
  have B6 := Lib.hid (B5.out.trans (b6.out.mono B5.out.size))
  have R6 := Lib.hid (R5.out.below (b6.out.mono K5.out))
  have K6 := Lib.hid (Nat.le_trans K5.out b6.out.size)
  have Q6 := Lib.hid (h5.out.1.below b6.out)
  have J6 := Lib.hid b6.out.size
  clear b6
  go_wp2_with fail
  refine (HDZ.out _).mono ?_
  rintro e w7 ⟨rfl, b7⟩
  have B7 := Lib.hid (B6.out.trans (b7.mono B6.out.size))
  have R7 := Lib.hid (R6.out.below (b7.mono K6.out))
  have K7 := Lib.hid (Nat.le_trans K6.out b7.size)
  have Q7 := Lib.hid (Q6.out.below (b7.mono J6.out))
  have J7 := Lib.hid (Nat.le_trans J6.out b7.size)
  clear b7
  go_wp2_with fail
  refine (Holds_c A3 1 c3 _ (tx Z) _ _ K7.out R7.out (by omega) h3.out.2.1 (by omega) W HH.out).mono ?_
  rintro e w8 ⟨rfl, b8⟩
  have B8 := Lib.hid (B7.out.trans (b8.out.mono B7.out.size))
  have Q8 := Lib.hid (Q7.out.below (b8.out.mono J7.out))
  have J8 := Lib.hid (Nat.le_trans J7.out b8.out.size)
  clear b8
  go_wp2_with fail
  refine (HDZ.out _).mono ?_
  rintro e w9 ⟨rfl, b9⟩
  have B9 := Lib.hid (B8.out.trans (b9.mono B8.out.size))
  have Q9 := Lib.hid (Q8.out.below (b9.mono J8.out))
  have J9 := Lib.hid (Nat.le_trans J8.out b9.size)
  clear b9
  go_wp2_with fail
  refine (Holds_c A5 1 c5 _ (tx U) _ _ J9.out Q9.out (by omega) h5.out.2.1 (by omega) true HH2.out).mono ?_
  rintro e w10 ⟨rfl, b10⟩
  have B10 := Lib.hid (B9.out.trans (b10.out.mono B9.out.size))
  have Q10 := Lib.hid (Q9.out.below (b10.out.mono J9.out))
  have J10 := Lib.hid (Nat.le_trans J9.out b10.out.size)
  clear b10
  go_wp2_with fail
  refine (HDV.out _).mono ?_
  rintro e w11 ⟨rfl, b11⟩
  have B11 := Lib.hid (B10.out.trans (b11.mono B10.out.size))
  have Q11 := Lib.hid (Q10.out.below (b11.mono J10.out))
  have J11 := Lib.hid (Nat.le_trans J10.out b11.size)
  clear b11
  go_wp2_with fail
  refine (Holds_c A5 1 c5 _ (tx V) _ _ J11.out Q11.out (by omega) h5.out.2.1 (by omega) false HH3.out).mono ?_
  rintro e w12 ⟨rfl, b12⟩
  have B12 := Lib.hid (B11.out.trans (b12.out.mono B11.out.size))
  go_wp2_with fail
  go_ret
  exact ⟨rfl, B12⟩

set_option maxRecDepth 100000 in
set_option maxHeartbeats 4000000 in
theorem edges_01 (a b v : Int) (w : World) (x y z : Nat) (hx : wrap64 ((IntKind.u64.wrap a).tmod 50) = (x : Int)) (hy : wrap64 ((IntKind.u64.wrap b).tmod 50) = (y : Int)) (hz : wrap64 ((IntKind.u64.wrap v).tmod 110) = (z : Int)) (lx : x < 50) (ly : y < 50) (lz : z < 110) :
    Calls Tryd.prog 4 #[.int .i64 a, .int .i64 b, .bool false, .bool true, .int .i64 v] w fun e w' => e = .returned (.bool true) ∧ Hid (Below w.heap.size w w') := by
  obtain ⟨X, hX⟩ : ∃ X, decF 9 (x + 1) = X := ⟨_, rfl⟩
  obtain ⟨Y, hY⟩ : ∃ X, decF 9 (x + 1 + y + 1) = X := ⟨_, rfl⟩
  obtain ⟨Z, hZ⟩ : ∃ X, decF 9 (z + 1) = X := ⟨_, rfl⟩
  obtain ⟨V, hV⟩ : ∃ X, decF 9 (z + 1 + 1) = X := ⟨_, rfl⟩
  obtain ⟨S1, hS1⟩ : ∃ S, [40] ++ X = S := ⟨_, rfl⟩
  obtain ⟨S2, hS2⟩ : ∃ S, S1 ++ [44] = S := ⟨_, rfl⟩
  obtain ⟨S3, hS3⟩ : ∃ S, S2 ++ Y = S := ⟨_, rfl⟩
  obtain ⟨S4, hS4⟩ : ∃ S, S3 ++ [93] = S := ⟨_, rfl⟩
  obtain ⟨T1, hT1⟩ : ∃ S, [91] ++ Z = S := ⟨_, rfl⟩
  obtain ⟨T2, hT2⟩ : ∃ S, T1 ++ [93] = S := ⟨_, rfl⟩
  obtain ⟨U, hU⟩ : ∃ S, Z ++ [46, 48] = S := ⟨_, rfl⟩
  have e1 : (⟨#[40]⟩ : ByteArray) ++ tx X = tx S1 := by rw [← hS1]; exact txA [40] _
  have e2 : tx S1 ++ (⟨#[44]⟩ : ByteArray) = tx S2 := by rw [← hS2]; exact txA _ [44]
  have e3 : tx S2 ++ tx Y = tx S3 := by rw [← hS3]; exact txA _ _
  have e4 : tx S3 ++ (⟨#[93]⟩ : ByteArray) = tx S4 := by rw [← hS4]; exact txA _ [93]
  have e5 : (⟨#[91]⟩ : ByteArray) ++ tx Z = tx T1 := by rw [← hT1]; exact txA [91] _
  have e6 : tx T1 ++ (⟨#[93]⟩ : ByteArray) = tx T2 := by rw [← hT2]; exact txA _ [93]
  have e7 : tx Z ++ (⟨#[46, 48]⟩ : ByteArray) = tx U := by rw [← hU]; exact txA _ [46, 48]
  have l1 : X.length ≤ 9 := by rw [← hX]; exact decF_le 9 _
  have l2 : Y.length ≤ 9 := by rw [← hY]; exact decF_le 9 _
  have l3 : Z.length ≤ 9 := by rw [← hZ]; exact decF_le 9 _
  have l4 : V.length ≤ 9 := by rw [← hV]; exact decF_le 9 _
  have s1 : (tx X).size ≤ 9 := by rw [tx_size]; exact l1
  have s2 : (tx Y).size ≤ 9 := by rw [tx_size]; exact l2
  have s3 : (tx Z).size ≤ 9 := by rw [tx_size]; exact l3
  have s4 : (tx V).size ≤ 9 := by rw [tx_size]; exact l4
  have s5 : (tx S1).size ≤ 10 := by rw [tx_size, ← hS1]; simp; omega
  have s6 : (tx S2).size ≤ 11 := by rw [tx_size, ← hS2, ← hS1]; simp; omega
  have s7 : (tx S3).size ≤ 20 := by rw [tx_size, ← hS3, ← hS2, ← hS1]; simp; omega
  have s8 : (tx S4).size ≤ 21 := by rw [tx_size, ← hS4, ← hS3, ← hS2, ← hS1]; simp; omega
  have s9 : (tx T1).size ≤ 10 := by rw [tx_size, ← hT1]; simp; omega
  have s10 : (tx T2).size ≤ 11 := by rw [tx_size, ← hT2, ← hT1]; simp; omega
  have s11 : (tx U).size ≤ 11 := by rw [tx_size, ← hU]; simp; omega
  have hr : S4 = rangeL [nSp (x + 1) (x + 1 + y + 1) false true] := by
    rw [rangeL_nSp _ _ _ _ (by omega) (by omega) (by omega), ← hS4, ← hS3, ← hS2, ← hS1, hX, hY]; rfl
  have hr2 : T2 = rangeL [nSp (z + 1) (z + 1) true true] := by
    rw [rangeL_nOne, ← hT2, ← hT1, hZ]
  have HP1 : Hid (parseL (bs (tx S4)) = some [nSp (x + 1) (x + 1 + y + 1) false true]) := Lib.hid (by rw [bs_tx, hr]; exact parse_one _ _ _ _ (by omega) (by omega) (.inl (by omega)))
  have HP2 : Hid (parseL (bs (tx T2)) = some [nSp (z + 1) (z + 1) true true]) := Lib.hid (by rw [bs_tx, hr2]; exact parse_one _ _ _ _ (by omega) (by omega) (.inr ⟨rfl, rfl, rfl⟩))
  have HA1 : Hid (∀ c ∈ bs (tx S4), c.toNat < 128) := Lib.hid (by
    rw [bs_tx, ← hS4, ← hS3, ← hS2, ← hS1, ← hX, ← hY]
    intro c hc
    simp only [List.mem_append, List.mem_singleton] at hc
    rcases hc with (((rfl | hc) | rfl) | hc) | rfl
    · decide
    · exact nSp_ascii _ c hc
    · decide
    · exact nSp_ascii _ c hc
    · decide)
  have HA2 : Hid (∀ c ∈ bs (tx T2), c.toNat < 128) := Lib.hid (by
    rw [bs_tx, ← hT2, ← hT1, ← hZ]
    intro c hc
    simp only [List.mem_append, List.mem_singleton] at hc
    rcases hc with (rfl | hc) | rfl
    · decide
    · exact nSp_ascii _ c hc
    · decide)
  obtain ⟨W, hW⟩ : ∃ W, (decide (x + 1 < z + 1 ∨ x + 1 = z + 1 ∧ false = true) && decide (z + 1 < x + 1 + y + 1 ∨ z + 1 = x + 1 + y + 1 ∧ true = true)) = W := ⟨_, rfl⟩
  have HH : Hid (holdsB [nSp (x + 1) (x + 1 + y + 1) false true] (bs (tx Z)) = W) := Lib.hid (by
    unfold holdsB
    rw [bs_tx, ← hZ, List.any_cons, List.any_nil, Bool.or_false, nSp_holds _ _ _ _ _ (by omega) (by omega) (by omega), hW])
  have HH2 : Hid (holdsB [nSp (z + 1) (z + 1) true true] (bs (tx U)) = true) := Lib.hid (by
    rw [bs_tx, ← hU, ← hZ]; exact nOne_zero _ (by omega))
  have HH3 : Hid (holdsB [nSp (z + 1) (z + 1) true true] (bs (tx V)) = false) := Lib.hid (by
    rw [bs_tx, ← hV]; exact nOne_next _ (by omega))
  have HDX := Lib.hid (fun w => hX ▸ Digits_c 9 (x + 1) w (by omega) (by decide) (by decide))
  have HDY := Lib.hid (fun w => hY ▸ Digits_c 9 (x + 1 + y + 1) w (by omega) (by decide) (by decide))
  have HDZ := Lib.hid (fun w => hZ ▸ Digits_c 9 (z + 1) w (by omega) (by decide) (by decide))
  have HDV := Lib.hid (fun w => hV ▸ Digits_c 9 (z + 1 + 1) w (by omega) (by decide) (by decide))
  have HWW := Lib.hid hW
  clear hX hY hZ hV hS1 hS2 hS3 hS4 hT1 hT2 hU l1 l2 l3 l4 hr hr2 hW
  go_enter Tryd.func4, Tryd.ntmps4
  go_wp2_with fail
  refine (HDX.out _).mono ?_
  rintro e w1 ⟨rfl, b1⟩
  have B1 := Lib.hid b1
  clear b1
  go_wp2_with fail
  refine (HDY.out _).mono ?_
  rintro e w2 ⟨rfl, b2⟩
  have B2 := Lib.hid (B1.out.trans (b2.mono B1.out.size))
  clear b2
  go_wp2_with fail
  refine (Parse_yes (tx S4) _ (by omega) HA1.out _ HP1.out 1 rfl).mono ?_
  rintro e w3 ⟨A3, c3, rfl, h3, b3⟩
  have B3 := Lib.hid (B2.out.trans (b3.out.mono B2.out.size))
  clear b3
  go_upto_region 13 with fail
  go_cut [15] from 18 to 123 (fun v wx => v = .bool W ∧ wx = w3)
  case first =>
    have hc : z < x ∨ z = x ∨ (x < z ∧ z < x + 1 + y) ∨ z = x + 1 + y ∨ x + 1 + y < z := by omega
    rcases hc with hc | hc | ⟨hc, hd⟩ | hc | hc
    · have hf : W = false := by rw [← HWW.out, Bool.and_eq_false_iff]; left; exact decide_eq_false (by omega)
      have h1 : ¬ x < z := by omega
      have h2 : ¬ z = x := by omega
      go_wp2_with fail
      go_meet
      exact ⟨by rw [hf], rfl⟩
    · have hf : W = false := by rw [← HWW.out, hc]; first | (simp; done) | (simp; omega)
      subst hc
      go_wp2_with fail
      go_meet
      exact ⟨by rw [hf], rfl⟩
    · have hf : W = true := by rw [← HWW.out, decide_eq_true (.inl (by omega)), decide_eq_true (.inl (by omega))]; rfl
      have h2 : (z : Int) < (x : Int) + 1 + (y : Int) := by omega
      go_wp2_with fail
      go_meet
      exact ⟨by rw [hf], rfl⟩
    · have hf : W = true := by rw [← HWW.out, hc]; first | (simp; done) | (simp; omega)
      have h1 : x < x + 1 + y := by omega
      subst hc
      go_wp2_with fail
      go_meet
      exact ⟨by rw [hf], rfl⟩
    · have hf : W = false := by rw [← HWW.out, Bool.and_eq_false_iff]; right; exact decide_eq_false (by omega)
      have h1 : x < z := by omega
      have h2 : ¬ (z : Int) < (x : Int) + 1 + (y : Int) := by omega
      have h3 : ¬ (z : Int) = (x : Int) + 1 + (y : Int) := by omega
      go_wp2_with fail
      go_meet
      exact ⟨by rw [hf], rfl⟩
  case rest =>
  obtain ⟨rfl, rfl⟩ := hcut
  go_wp2_with fail
  refine (HDZ.out _).mono ?_
  rintro e w4 ⟨rfl, b4⟩
  have B4 := Lib.hid (B3.out.trans (b4.mono B3.out.size))
  have R4 := Lib.hid (h3.out.1.below b4)
  have K4 := Lib.hid b4.size
  clear b4
  go_wp2_with fail
  refine (Parse_yes (tx T2) _ (by omega) HA2.out _ HP2.out 1 rfl).mono ?_
  rintro e w5 ⟨A5, c5, rfl, h5, b5⟩
  have B5 := Lib.hid (B4.out.trans (b5.out.mono B4.out.size))
  have R5 := Lib.hid (R4.out.below (b5.out.mono K4.out))
  have K5 := Lib.hid (Nat.le_trans K4.out b5.out.size)
  clear b5
  go_wp2_with fail
  refine (awake7_c _).mono ?_
  rintro e w6 ⟨rfl, b6⟩
  have B6 := Lib.hid (B5.out.trans (b6.out.mono B5.out.size))
  have R6 := Lib.hid (R5.out.below (b6.out.mono K5.out))
  have K6 := Lib.hid (Nat.le_trans K5.out b6.out.size)
  have Q6 := Lib.hid (h5.out.1.below b6.out)
  have J6 := Lib.hid b6.out.size
  clear b6
  go_wp2_with fail
  refine (HDZ.out _).mono ?_
  rintro e w7 ⟨rfl, b7⟩
  have B7 := Lib.hid (B6.out.trans (b7.mono B6.out.size))
  have R7 := Lib.hid (R6.out.below (b7.mono K6.out))
  have K7 := Lib.hid (Nat.le_trans K6.out b7.size)
  have Q7 := Lib.hid (Q6.out.below (b7.mono J6.out))
  have J7 := Lib.hid (Nat.le_trans J6.out b7.size)
  clear b7
  go_wp2_with fail
  refine (Holds_c A3 1 c3 _ (tx Z) _ _ K7.out R7.out (by omega) h3.out.2.1 (by omega) W HH.out).mono ?_
  rintro e w8 ⟨rfl, b8⟩
  have B8 := Lib.hid (B7.out.trans (b8.out.mono B7.out.size))
  have Q8 := Lib.hid (Q7.out.below (b8.out.mono J7.out))
  have J8 := Lib.hid (Nat.le_trans J7.out b8.out.size)
  clear b8
  go_wp2_with fail
  refine (HDZ.out _).mono ?_
  rintro e w9 ⟨rfl, b9⟩
  have B9 := Lib.hid (B8.out.trans (b9.mono B8.out.size))
  have Q9 := Lib.hid (Q8.out.below (b9.mono J8.out))
  have J9 := Lib.hid (Nat.le_trans J8.out b9.size)
  clear b9
  go_wp2_with fail
  refine (Holds_c A5 1 c5 _ (tx U) _ _ J9.out Q9.out (by omega) h5.out.2.1 (by omega) true HH2.out).mono ?_
  rintro e w10 ⟨rfl, b10⟩
  have B10 := Lib.hid (B9.out.trans (b10.out.mono B9.out.size))
  have Q10 := Lib.hid (Q9.out.below (b10.out.mono J9.out))
  have J10 := Lib.hid (Nat.le_trans J9.out b10.out.size)
  clear b10
  go_wp2_with fail
  refine (HDV.out _).mono ?_
  rintro e w11 ⟨rfl, b11⟩
  have B11 := Lib.hid (B10.out.trans (b11.mono B10.out.size))
  have Q11 := Lib.hid (Q10.out.below (b11.mono J10.out))
  have J11 := Lib.hid (Nat.le_trans J10.out b11.size)
  clear b11
  go_wp2_with fail
  refine (Holds_c A5 1 c5 _ (tx V) _ _ J11.out Q11.out (by omega) h5.out.2.1 (by omega) false HH3.out).mono ?_
  rintro e w12 ⟨rfl, b12⟩
  have B12 := Lib.hid (B11.out.trans (b12.out.mono B11.out.size))
  go_wp2_with fail
  go_ret
  exact ⟨rfl, B12⟩

set_option maxRecDepth 100000 in
set_option maxHeartbeats 4000000 in
theorem edges_10 (a b v : Int) (w : World) (x y z : Nat) (hx : wrap64 ((IntKind.u64.wrap a).tmod 50) = (x : Int)) (hy : wrap64 ((IntKind.u64.wrap b).tmod 50) = (y : Int)) (hz : wrap64 ((IntKind.u64.wrap v).tmod 110) = (z : Int)) (lx : x < 50) (ly : y < 50) (lz : z < 110) :
    Calls Tryd.prog 4 #[.int .i64 a, .int .i64 b, .bool true, .bool false, .int .i64 v] w fun e w' => e = .returned (.bool true) ∧ Hid (Below w.heap.size w w') := by
  obtain ⟨X, hX⟩ : ∃ X, decF 9 (x + 1) = X := ⟨_, rfl⟩
  obtain ⟨Y, hY⟩ : ∃ X, decF 9 (x + 1 + y + 1) = X := ⟨_, rfl⟩
  obtain ⟨Z, hZ⟩ : ∃ X, decF 9 (z + 1) = X := ⟨_, rfl⟩
  obtain ⟨V, hV⟩ : ∃ X, decF 9 (z + 1 + 1) = X := ⟨_, rfl⟩
  obtain ⟨S1, hS1⟩ : ∃ S, [91] ++ X = S := ⟨_, rfl⟩
  obtain ⟨S2, hS2⟩ : ∃ S, S1 ++ [44] = S := ⟨_, rfl⟩
  obtain ⟨S3, hS3⟩ : ∃ S, S2 ++ Y = S := ⟨_, rfl⟩
  obtain ⟨S4, hS4⟩ : ∃ S, S3 ++ [41] = S := ⟨_, rfl⟩
  obtain ⟨T1, hT1⟩ : ∃ S, [91] ++ Z = S := ⟨_, rfl⟩
  obtain ⟨T2, hT2⟩ : ∃ S, T1 ++ [93] = S := ⟨_, rfl⟩
  obtain ⟨U, hU⟩ : ∃ S, Z ++ [46, 48] = S := ⟨_, rfl⟩
  have e1 : (⟨#[91]⟩ : ByteArray) ++ tx X = tx S1 := by rw [← hS1]; exact txA [91] _
  have e2 : tx S1 ++ (⟨#[44]⟩ : ByteArray) = tx S2 := by rw [← hS2]; exact txA _ [44]
  have e3 : tx S2 ++ tx Y = tx S3 := by rw [← hS3]; exact txA _ _
  have e4 : tx S3 ++ (⟨#[41]⟩ : ByteArray) = tx S4 := by rw [← hS4]; exact txA _ [41]
  have e5 : (⟨#[91]⟩ : ByteArray) ++ tx Z = tx T1 := by rw [← hT1]; exact txA [91] _
  have e6 : tx T1 ++ (⟨#[93]⟩ : ByteArray) = tx T2 := by rw [← hT2]; exact txA _ [93]
  have e7 : tx Z ++ (⟨#[46, 48]⟩ : ByteArray) = tx U := by rw [← hU]; exact txA _ [46, 48]
  have l1 : X.length ≤ 9 := by rw [← hX]; exact decF_le 9 _
  have l2 : Y.length ≤ 9 := by rw [← hY]; exact decF_le 9 _
  have l3 : Z.length ≤ 9 := by rw [← hZ]; exact decF_le 9 _
  have l4 : V.length ≤ 9 := by rw [← hV]; exact decF_le 9 _
  have s1 : (tx X).size ≤ 9 := by rw [tx_size]; exact l1
  have s2 : (tx Y).size ≤ 9 := by rw [tx_size]; exact l2
  have s3 : (tx Z).size ≤ 9 := by rw [tx_size]; exact l3
  have s4 : (tx V).size ≤ 9 := by rw [tx_size]; exact l4
  have s5 : (tx S1).size ≤ 10 := by rw [tx_size, ← hS1]; simp; omega
  have s6 : (tx S2).size ≤ 11 := by rw [tx_size, ← hS2, ← hS1]; simp; omega
  have s7 : (tx S3).size ≤ 20 := by rw [tx_size, ← hS3, ← hS2, ← hS1]; simp; omega
  have s8 : (tx S4).size ≤ 21 := by rw [tx_size, ← hS4, ← hS3, ← hS2, ← hS1]; simp; omega
  have s9 : (tx T1).size ≤ 10 := by rw [tx_size, ← hT1]; simp; omega
  have s10 : (tx T2).size ≤ 11 := by rw [tx_size, ← hT2, ← hT1]; simp; omega
  have s11 : (tx U).size ≤ 11 := by rw [tx_size, ← hU]; simp; omega
  have hr : S4 = rangeL [nSp (x + 1) (x + 1 + y + 1) true false] := by
    rw [rangeL_nSp _ _ _ _ (by omega) (by omega) (by omega), ← hS4, ← hS3, ← hS2, ← hS1, hX, hY]; rfl
  have hr2 : T2 = rangeL [nSp (z + 1) (z + 1) true true] := by
    rw [rangeL_nOne, ← hT2, ← hT1, hZ]
  have HP1 : Hid (parseL (bs (tx S4)) = some [nSp (x + 1) (x + 1 + y + 1) true false]) := Lib.hid (by rw [bs_tx, hr]; exact parse_one _ _ _ _ (by omega) (by omega) (.inl (by omega)))
  have HP2 : Hid (parseL (bs (tx T2)) = some [nSp (z + 1) (z + 1) true true]) := Lib.hid (by rw [bs_tx, hr2]; exact parse_one _ _ _ _ (by omega) (by omega) (.inr ⟨rfl, rfl, rfl⟩))
  have HA1 : Hid (∀ c ∈ bs (tx S4), c.toNat < 128) := Lib.hid (by
    rw [bs_tx, ← hS4, ← hS3, ← hS2, ← hS1, ← hX, ← hY]
    intro c hc
    simp only [List.mem_append, List.mem_singleton] at hc
    rcases hc with (((rfl | hc) | rfl) | hc) | rfl
    · decide
    · exact nSp_ascii _ c hc
    · decide
    · exact nSp_ascii _ c hc
    · decide)
  have HA2 : Hid (∀ c ∈ bs (tx T2), c.toNat < 128) := Lib.hid (by
    rw [bs_tx, ← hT2, ← hT1, ← hZ]
    intro c hc
    simp only [List.mem_append, List.mem_singleton] at hc
    rcases hc with (rfl | hc) | rfl
    · decide
    · exact nSp_ascii _ c hc
    · decide)
  obtain ⟨W, hW⟩ : ∃ W, (decide (x + 1 < z + 1 ∨ x + 1 = z + 1 ∧ true = true) && decide (z + 1 < x + 1 + y + 1 ∨ z + 1 = x + 1 + y + 1 ∧ false = true)) = W := ⟨_, rfl⟩
  have HH : Hid (holdsB [nSp (x + 1) (x + 1 + y + 1) true false] (bs (tx Z)) = W) := Lib.hid (by
    unfold holdsB
    rw [bs_tx, ← hZ, List.any_cons, List.any_nil, Bool.or_false, nSp_holds _ _ _ _ _ (by omega) (by omega) (by omega), hW])
  have HH2 : Hid (holdsB [nSp (z + 1) (z + 1) true true] (bs (tx U)) = true) := Lib.hid (by
    rw [bs_tx, ← hU, ← hZ]; exact nOne_zero _ (by omega))
  have HH3 : Hid (holdsB [nSp (z + 1) (z + 1) true true] (bs (tx V)) = false) := Lib.hid (by
    rw [bs_tx, ← hV]; exact nOne_next _ (by omega))
  have HDX := Lib.hid (fun w => hX ▸ Digits_c 9 (x + 1) w (by omega) (by decide) (by decide))
  have HDY := Lib.hid (fun w => hY ▸ Digits_c 9 (x + 1 + y + 1) w (by omega) (by decide) (by decide))
  have HDZ := Lib.hid (fun w => hZ ▸ Digits_c 9 (z + 1) w (by omega) (by decide) (by decide))
  have HDV := Lib.hid (fun w => hV ▸ Digits_c 9 (z + 1 + 1) w (by omega) (by decide) (by decide))
  have HWW := Lib.hid hW
  clear hX hY hZ hV hS1 hS2 hS3 hS4 hT1 hT2 hU l1 l2 l3 l4 hr hr2 hW
  go_enter Tryd.func4, Tryd.ntmps4
  go_wp2_with fail
  refine (HDX.out _).mono ?_
  rintro e w1 ⟨rfl, b1⟩
  have B1 := Lib.hid b1
  clear b1
  go_wp2_with fail
  refine (HDY.out _).mono ?_
  rintro e w2 ⟨rfl, b2⟩
  have B2 := Lib.hid (B1.out.trans (b2.mono B1.out.size))
  clear b2
  go_wp2_with fail
  refine (Parse_yes (tx S4) _ (by omega) HA1.out _ HP1.out 1 rfl).mono ?_
  rintro e w3 ⟨A3, c3, rfl, h3, b3⟩
  have B3 := Lib.hid (B2.out.trans (b3.out.mono B2.out.size))
  clear b3
  go_upto_region 13 with fail
  go_cut [15] from 18 to 123 (fun v wx => v = .bool W ∧ wx = w3)
  case first =>
    have hc : z < x ∨ z = x ∨ (x < z ∧ z < x + 1 + y) ∨ z = x + 1 + y ∨ x + 1 + y < z := by omega
    rcases hc with hc | hc | ⟨hc, hd⟩ | hc | hc
    · have hf : W = false := by rw [← HWW.out, Bool.and_eq_false_iff]; left; exact decide_eq_false (by omega)
      have h1 : ¬ x < z := by omega
      have h2 : ¬ z = x := by omega
      go_wp2_with fail
      go_meet
      exact ⟨by rw [hf], rfl⟩
    · have hf : W = true := by rw [← HWW.out, hc]; first | (simp; done) | (simp; omega)
      subst hc
      go_wp2_with fail
      go_meet
      exact ⟨by rw [hf], rfl⟩
    · have hf : W = true := by rw [← HWW.out, decide_eq_true (.inl (by omega)), decide_eq_true (.inl (by omega))]; rfl
      have h2 : (z : Int) < (x : Int) + 1 + (y : Int) := by omega
      go_wp2_with fail
      go_meet
      exact ⟨by rw [hf], rfl⟩
    · have hf : W = false := by rw [← HWW.out, hc]; first | (simp; done) | (simp; omega)
      have h1 : x < x + 1 + y := by omega
      subst hc
      go_wp2_with fail
      go_meet
      exact ⟨by rw [hf], rfl⟩
    · have hf : W = false := by rw [← HWW.out, Bool.and_eq_false_iff]; right; exact decide_eq_false (by omega)
      have h1 : x < z := by omega
      have h2 : ¬ (z : Int) < (x : Int) + 1 + (y : Int) := by omega
      have h3 : ¬ (z : Int) = (x : Int) + 1 + (y : Int) := by omega
      go_wp2_with fail
      go_meet
      exact ⟨by rw [hf], rfl⟩
  case rest =>
  obtain ⟨rfl, rfl⟩ := hcut
  go_wp2_with fail
  refine (HDZ.out _).mono ?_
  rintro e w4 ⟨rfl, b4⟩
  have B4 := Lib.hid (B3.out.trans (b4.mono B3.out.size))
  have R4 := Lib.hid (h3.out.1.below b4)
  have K4 := Lib.hid b4.size
  clear b4
  go_wp2_with fail
  refine (Parse_yes (tx T2) _ (by omega) HA2.out _ HP2.out 1 rfl).mono ?_
  rintro e w5 ⟨A5, c5, rfl, h5, b5⟩
  have B5 := Lib.hid (B4.out.trans (b5.out.mono B4.out.size))
  have R5 := Lib.hid (R4.out.below (b5.out.mono K4.out))
  have K5 := Lib.hid (Nat.le_trans K4.out b5.out.size)
  clear b5
  go_wp2_with fail
  refine (awake7_c _).mono ?_
  rintro e w6 ⟨rfl, b6⟩
  have B6 := Lib.hid (B5.out.trans (b6.out.mono B5.out.size))
  have R6 := Lib.hid (R5.out.below (b6.out.mono K5.out))
  have K6 := Lib.hid (Nat.le_trans K5.out b6.out.size)
  have Q6 := Lib.hid (h5.out.1.below b6.out)
  have J6 := Lib.hid b6.out.size
  clear b6
  go_wp2_with fail
  refine (HDZ.out _).mono ?_
  rintro e w7 ⟨rfl, b7⟩
  have B7 := Lib.hid (B6.out.trans (b7.mono B6.out.size))
  have R7 := Lib.hid (R6.out.below (b7.mono K6.out))
  have K7 := Lib.hid (Nat.le_trans K6.out b7.size)
  have Q7 := Lib.hid (Q6.out.below (b7.mono J6.out))
  have J7 := Lib.hid (Nat.le_trans J6.out b7.size)
  clear b7
  go_wp2_with fail
  refine (Holds_c A3 1 c3 _ (tx Z) _ _ K7.out R7.out (by omega) h3.out.2.1 (by omega) W HH.out).mono ?_
  rintro e w8 ⟨rfl, b8⟩
  have B8 := Lib.hid (B7.out.trans (b8.out.mono B7.out.size))
  have Q8 := Lib.hid (Q7.out.below (b8.out.mono J7.out))
  have J8 := Lib.hid (Nat.le_trans J7.out b8.out.size)
  clear b8
  go_wp2_with fail
  refine (HDZ.out _).mono ?_
  rintro e w9 ⟨rfl, b9⟩
  have B9 := Lib.hid (B8.out.trans (b9.mono B8.out.size))
  have Q9 := Lib.hid (Q8.out.below (b9.mono J8.out))
  have J9 := Lib.hid (Nat.le_trans J8.out b9.size)
  clear b9
  go_wp2_with fail
  refine (Holds_c A5 1 c5 _ (tx U) _ _ J9.out Q9.out (by omega) h5.out.2.1 (by omega) true HH2.out).mono ?_
  rintro e w10 ⟨rfl, b10⟩
  have B10 := Lib.hid (B9.out.trans (b10.out.mono B9.out.size))
  have Q10 := Lib.hid (Q9.out.below (b10.out.mono J9.out))
  have J10 := Lib.hid (Nat.le_trans J9.out b10.out.size)
  clear b10
  go_wp2_with fail
  refine (HDV.out _).mono ?_
  rintro e w11 ⟨rfl, b11⟩
  have B11 := Lib.hid (B10.out.trans (b11.mono B10.out.size))
  have Q11 := Lib.hid (Q10.out.below (b11.mono J10.out))
  have J11 := Lib.hid (Nat.le_trans J10.out b11.size)
  clear b11
  go_wp2_with fail
  refine (Holds_c A5 1 c5 _ (tx V) _ _ J11.out Q11.out (by omega) h5.out.2.1 (by omega) false HH3.out).mono ?_
  rintro e w12 ⟨rfl, b12⟩
  have B12 := Lib.hid (B11.out.trans (b12.out.mono B11.out.size))
  go_wp2_with fail
  go_ret
  exact ⟨rfl, B12⟩

set_option maxRecDepth 100000 in
set_option maxHeartbeats 4000000 in
theorem edges_11 (a b v : Int) (w : World) (x y z : Nat) (hx : wrap64 ((IntKind.u64.wrap a).tmod 50) = (x : Int)) (hy : wrap64 ((IntKind.u64.wrap b).tmod 50) = (y : Int)) (hz : wrap64 ((IntKind.u64.wrap v).tmod 110) = (z : Int)) (lx : x < 50) (ly : y < 50) (lz : z < 110) :
    Calls Tryd.prog 4 #[.int .i64 a, .int .i64 b, .bool true, .bool true, .int .i64 v] w fun e w' => e = .returned (.bool true) ∧ Hid (Below w.heap.size w w') := by
  obtain ⟨X, hX⟩ : ∃ X, decF 9 (x + 1) = X := ⟨_, rfl⟩
  obtain ⟨Y, hY⟩ : ∃ X, decF 9 (x + 1 + y + 1) = X := ⟨_, rfl⟩
  obtain ⟨Z, hZ⟩ : ∃ X, decF 9 (z + 1) = X := ⟨_, rfl⟩
  obtain ⟨V, hV⟩ : ∃ X, decF 9 (z + 1 + 1) = X := ⟨_, rfl⟩
  obtain ⟨S1, hS1⟩ : ∃ S, [91] ++ X = S := ⟨_, rfl⟩
  obtain ⟨S2, hS2⟩ : ∃ S, S1 ++ [44] = S := ⟨_, rfl⟩
  obtain ⟨S3, hS3⟩ : ∃ S, S2 ++ Y = S := ⟨_, rfl⟩
  obtain ⟨S4, hS4⟩ : ∃ S, S3 ++ [93] = S := ⟨_, rfl⟩
  obtain ⟨T1, hT1⟩ : ∃ S, [91] ++ Z = S := ⟨_, rfl⟩
  obtain ⟨T2, hT2⟩ : ∃ S, T1 ++ [93] = S := ⟨_, rfl⟩
  obtain ⟨U, hU⟩ : ∃ S, Z ++ [46, 48] = S := ⟨_, rfl⟩
  have e1 : (⟨#[91]⟩ : ByteArray) ++ tx X = tx S1 := by rw [← hS1]; exact txA [91] _
  have e2 : tx S1 ++ (⟨#[44]⟩ : ByteArray) = tx S2 := by rw [← hS2]; exact txA _ [44]
  have e3 : tx S2 ++ tx Y = tx S3 := by rw [← hS3]; exact txA _ _
  have e4 : tx S3 ++ (⟨#[93]⟩ : ByteArray) = tx S4 := by rw [← hS4]; exact txA _ [93]
  have e5 : (⟨#[91]⟩ : ByteArray) ++ tx Z = tx T1 := by rw [← hT1]; exact txA [91] _
  have e6 : tx T1 ++ (⟨#[93]⟩ : ByteArray) = tx T2 := by rw [← hT2]; exact txA _ [93]
  have e7 : tx Z ++ (⟨#[46, 48]⟩ : ByteArray) = tx U := by rw [← hU]; exact txA _ [46, 48]
  have l1 : X.length ≤ 9 := by rw [← hX]; exact decF_le 9 _
  have l2 : Y.length ≤ 9 := by rw [← hY]; exact decF_le 9 _
  have l3 : Z.length ≤ 9 := by rw [← hZ]; exact decF_le 9 _
  have l4 : V.length ≤ 9 := by rw [← hV]; exact decF_le 9 _
  have s1 : (tx X).size ≤ 9 := by rw [tx_size]; exact l1
  have s2 : (tx Y).size ≤ 9 := by rw [tx_size]; exact l2
  have s3 : (tx Z).size ≤ 9 := by rw [tx_size]; exact l3
  have s4 : (tx V).size ≤ 9 := by rw [tx_size]; exact l4
  have s5 : (tx S1).size ≤ 10 := by rw [tx_size, ← hS1]; simp; omega
  have s6 : (tx S2).size ≤ 11 := by rw [tx_size, ← hS2, ← hS1]; simp; omega
  have s7 : (tx S3).size ≤ 20 := by rw [tx_size, ← hS3, ← hS2, ← hS1]; simp; omega
  have s8 : (tx S4).size ≤ 21 := by rw [tx_size, ← hS4, ← hS3, ← hS2, ← hS1]; simp; omega
  have s9 : (tx T1).size ≤ 10 := by rw [tx_size, ← hT1]; simp; omega
  have s10 : (tx T2).size ≤ 11 := by rw [tx_size, ← hT2, ← hT1]; simp; omega
  have s11 : (tx U).size ≤ 11 := by rw [tx_size, ← hU]; simp; omega
  have hr : S4 = rangeL [nSp (x + 1) (x + 1 + y + 1) true true] := by
    rw [rangeL_nSp _ _ _ _ (by omega) (by omega) (by omega), ← hS4, ← hS3, ← hS2, ← hS1, hX, hY]; rfl
  have hr2 : T2 = rangeL [nSp (z + 1) (z + 1) true true] := by
    rw [rangeL_nOne, ← hT2, ← hT1, hZ]
  have HP1 : Hid (parseL (bs (tx S4)) = some [nSp (x + 1) (x + 1 + y + 1) true true]) := Lib.hid (by rw [bs_tx, hr]; exact parse_one _ _ _ _ (by omega) (by omega) (.inl (by omega)))
  have HP2 : Hid (parseL (bs (tx T2)) = some [nSp (z + 1) (z + 1) true true]) := Lib.hid (by rw [bs_tx, hr2]; exact parse_one _ _ _ _ (by omega) (by omega) (.inr ⟨rfl, rfl, rfl⟩))
  have HA1 : Hid (∀ c ∈ bs (tx S4), c.toNat < 128) := Lib.hid (by
    rw [bs_tx, ← hS4, ← hS3, ← hS2, ← hS1, ← hX, ← hY]
    intro c hc
    simp only [List.mem_append, List.mem_singleton] at hc
    rcases hc with (((rfl | hc) | rfl) | hc) | rfl
    · decide
    · exact nSp_ascii _ c hc
    · decide
    · exact nSp_ascii _ c hc
    · decide)
  have HA2 : Hid (∀ c ∈ bs (tx T2), c.toNat < 128) := Lib.hid (by
    rw [bs_tx, ← hT2, ← hT1, ← hZ]
    intro c hc
    simp only [List.mem_append, List.mem_singleton] at hc
    rcases hc with (rfl | hc) | rfl
    · decide
    · exact nSp_ascii _ c hc
    · decide)
  obtain ⟨W, hW⟩ : ∃ W, (decide (x + 1 < z + 1 ∨ x + 1 = z + 1 ∧ true = true) && decide (z + 1 < x + 1 + y + 1 ∨ z + 1 = x + 1 + y + 1 ∧ true = true)) = W := ⟨_, rfl⟩
  have HH : Hid (holdsB [nSp (x + 1) (x + 1 + y + 1) true true] (bs (tx Z)) = W) := Lib.hid (by
    unfold holdsB
    rw [bs_tx, ← hZ, List.any_cons, List.any_nil, Bool.or_false, nSp_holds _ _ _ _ _ (by omega) (by omega) (by omega), hW])
  have HH2 : Hid (holdsB [nSp (z + 1) (z + 1) true true] (bs (tx U)) = true) := Lib.hid (by
    rw [bs_tx, ← hU, ← hZ]; exact nOne_zero _ (by omega))
  have HH3 : Hid (holdsB [nSp (z + 1) (z + 1) true true] (bs (tx V)) = false) := Lib.hid (by
    rw [bs_tx, ← hV]; exact nOne_next _ (by omega))
  have HDX := Lib.hid (fun w => hX ▸ Digits_c 9 (x + 1) w (by omega) (by decide) (by decide))
  have HDY := Lib.hid (fun w => hY ▸ Digits_c 9 (x + 1 + y + 1) w (by omega) (by decide) (by decide))
  have HDZ := Lib.hid (fun w => hZ ▸ Digits_c 9 (z + 1) w (by omega) (by decide) (by decide))
  have HDV := Lib.hid (fun w => hV ▸ Digits_c 9 (z + 1 + 1) w (by omega) (by decide) (by decide))
  have HWW := Lib.hid hW
  clear hX hY hZ hV hS1 hS2 hS3 hS4 hT1 hT2 hU l1 l2 l3 l4 hr hr2 hW
  go_enter Tryd.func4, Tryd.ntmps4
  go_wp2_with fail
  refine (HDX.out _).mono ?_
  rintro e w1 ⟨rfl, b1⟩
  have B1 := Lib.hid b1
  clear b1
  go_wp2_with fail
  refine (HDY.out _).mono ?_
  rintro e w2 ⟨rfl, b2⟩
  have B2 := Lib.hid (B1.out.trans (b2.mono B1.out.size))
  clear b2
  go_wp2_with fail
  refine (Parse_yes (tx S4) _ (by omega) HA1.out _ HP1.out 1 rfl).mono ?_
  rintro e w3 ⟨A3, c3, rfl, h3, b3⟩
  have B3 := Lib.hid (B2.out.trans (b3.out.mono B2.out.size))
  clear b3
  go_upto_region 13 with fail
  go_cut [15] from 18 to 123 (fun v wx => v = .bool W ∧ wx = w3)
  case first =>
    have hc : z < x ∨ z = x ∨ (x < z ∧ z < x + 1 + y) ∨ z = x + 1 + y ∨ x + 1 + y < z := by omega
    rcases hc with hc | hc | ⟨hc, hd⟩ | hc | hc
    · have hf : W = false := by rw [← HWW.out, Bool.and_eq_false_iff]; left; exact decide_eq_false (by omega)
      have h1 : ¬ x < z := by omega
      have h2 : ¬ z = x := by omega
      go_wp2_with fail
      go_meet
      exact ⟨by rw [hf], rfl⟩
    · have hf : W = true := by rw [← HWW.out, hc]; first | (simp; done) | (simp; omega)
      subst hc
      go_wp2_with fail
      go_meet
      exact ⟨by rw [hf], rfl⟩
    · have hf : W = true := by rw [← HWW.out, decide_eq_true (.inl (by omega)), decide_eq_true (.inl (by omega))]; rfl
      have h2 : (z : Int) < (x : Int) + 1 + (y : Int) := by omega
      go_wp2_with fail
      go_meet
      exact ⟨by rw [hf], rfl⟩
    · have hf : W = true := by rw [← HWW.out, hc]; first | (simp; done) | (simp; omega)
      have h1 : x < x + 1 + y := by omega
      subst hc
      go_wp2_with fail
      go_meet
      exact ⟨by rw [hf], rfl⟩
    · have hf : W = false := by rw [← HWW.out, Bool.and_eq_false_iff]; right; exact decide_eq_false (by omega)
      have h1 : x < z := by omega
      have h2 : ¬ (z : Int) < (x : Int) + 1 + (y : Int) := by omega
      have h3 : ¬ (z : Int) = (x : Int) + 1 + (y : Int) := by omega
      go_wp2_with fail
      go_meet
      exact ⟨by rw [hf], rfl⟩
  case rest =>
  obtain ⟨rfl, rfl⟩ := hcut
  go_wp2_with fail
  refine (HDZ.out _).mono ?_
  rintro e w4 ⟨rfl, b4⟩
  have B4 := Lib.hid (B3.out.trans (b4.mono B3.out.size))
  have R4 := Lib.hid (h3.out.1.below b4)
  have K4 := Lib.hid b4.size
  clear b4
  go_wp2_with fail
  refine (Parse_yes (tx T2) _ (by omega) HA2.out _ HP2.out 1 rfl).mono ?_
  rintro e w5 ⟨A5, c5, rfl, h5, b5⟩
  have B5 := Lib.hid (B4.out.trans (b5.out.mono B4.out.size))
  have R5 := Lib.hid (R4.out.below (b5.out.mono K4.out))
  have K5 := Lib.hid (Nat.le_trans K4.out b5.out.size)
  clear b5
  go_wp2_with fail
  refine (awake7_c _).mono ?_
  rintro e w6 ⟨rfl, b6⟩
  have B6 := Lib.hid (B5.out.trans (b6.out.mono B5.out.size))
  have R6 := Lib.hid (R5.out.below (b6.out.mono K5.out))
  have K6 := Lib.hid (Nat.le_trans K5.out b6.out.size)
  have Q6 := Lib.hid (h5.out.1.below b6.out)
  have J6 := Lib.hid b6.out.size
  clear b6
  go_wp2_with fail
  refine (HDZ.out _).mono ?_
  rintro e w7 ⟨rfl, b7⟩
  have B7 := Lib.hid (B6.out.trans (b7.mono B6.out.size))
  have R7 := Lib.hid (R6.out.below (b7.mono K6.out))
  have K7 := Lib.hid (Nat.le_trans K6.out b7.size)
  have Q7 := Lib.hid (Q6.out.below (b7.mono J6.out))
  have J7 := Lib.hid (Nat.le_trans J6.out b7.size)
  clear b7
  go_wp2_with fail
  refine (Holds_c A3 1 c3 _ (tx Z) _ _ K7.out R7.out (by omega) h3.out.2.1 (by omega) W HH.out).mono ?_
  rintro e w8 ⟨rfl, b8⟩
  have B8 := Lib.hid (B7.out.trans (b8.out.mono B7.out.size))
  have Q8 := Lib.hid (Q7.out.below (b8.out.mono J7.out))
  have J8 := Lib.hid (Nat.le_trans J7.out b8.out.size)
  clear b8
  go_wp2_with fail
  refine (HDZ.out _).mono ?_
  rintro e w9 ⟨rfl, b9⟩
  have B9 := Lib.hid (B8.out.trans (b9.mono B8.out.size))
  have Q9 := Lib.hid (Q8.out.below (b9.mono J8.out))
  have J9 := Lib.hid (Nat.le_trans J8.out b9.size)
  clear b9
  go_wp2_with fail
  refine (Holds_c A5 1 c5 _ (tx U) _ _ J9.out Q9.out (by omega) h5.out.2.1 (by omega) true HH2.out).mono ?_
  rintro e w10 ⟨rfl, b10⟩
  have B10 := Lib.hid (B9.out.trans (b10.out.mono B9.out.size))
  have Q10 := Lib.hid (Q9.out.below (b10.out.mono J9.out))
  have J10 := Lib.hid (Nat.le_trans J9.out b10.out.size)
  clear b10
  go_wp2_with fail
  refine (HDV.out _).mono ?_
  rintro e w11 ⟨rfl, b11⟩
  have B11 := Lib.hid (B10.out.trans (b11.mono B10.out.size))
  have Q11 := Lib.hid (Q10.out.below (b11.mono J10.out))
  have J11 := Lib.hid (Nat.le_trans J10.out b11.size)
  clear b11
  go_wp2_with fail
  refine (Holds_c A5 1 c5 _ (tx V) _ _ J11.out Q11.out (by omega) h5.out.2.1 (by omega) false HH3.out).mono ?_
  rintro e w12 ⟨rfl, b12⟩
  have B12 := Lib.hid (B11.out.trans (b12.out.mono B11.out.size))
  go_wp2_with fail
  go_ret
  exact ⟨rfl, B12⟩

theorem SpanEdges_walk (a b : Int) (p q : Bool) (v : Int) (w : World) (ha : (Lit.int .i64 a).wf = true) (hb : (Lit.int .i64 b).wf = true) (hv : (Lit.int .i64 v).wf = true) (hg : Glob w) :
    Calls Tryd.prog 4 #[.int .i64 a, .int .i64 b, .bool p, .bool q, .int .i64 v] w fun e w' => e = .returned (.bool true) ∧ Below w.heap.size w w' := by
  obtain ⟨x, hx, lx⟩ := idxN a 50 (by decide) (by decide)
  obtain ⟨y, hy, ly⟩ := idxN b 50 (by decide) (by decide)
  obtain ⟨z, hz, lz⟩ := idxN v 110 (by decide) (by decide)
  have key : Calls Tryd.prog 4 #[.int .i64 a, .int .i64 b, .bool p, .bool q, .int .i64 v] w fun e w' => e = .returned (.bool true) ∧ Hid (Below w.heap.size w w') := by
    cases p <;> cases q
    · exact edges_00 a b v w x y z hx hy hz (by omega) (by omega) (by omega)
    · exact edges_01 a b v w x y z hx hy hz (by omega) (by omega) (by omega)
    · exact edges_10 a b v w x y z hx hy hz (by omega) (by omega) (by omega)
    · exact edges_11 a b v w x y z hx hy hz (by omega) (by omega) (by omega)
  exact key.mono fun e w' h => ⟨h.1, h.2.out⟩
end Go.Proofs.YtbpcoiblddhnjaaDoor
