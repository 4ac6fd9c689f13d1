/-
  ElementDeep (layer 3).
-/
import Derived.Test.YtbojnmiaheohaaaDoorElAwake
namespace Nwl
open Go Go.RowKit
theorem idxD (a n : Int) (h0 : 0 < n) (h1 : n ≤ 2147483648) : 0 ≤ Go.RowKit.wrap64 ((IntKind.u64.wrap a).tmod n) ∧ Go.RowKit.wrap64 ((IntKind.u64.wrap a).tmod n) < n := by
  have hu : 0 ≤ IntKind.u64.wrap a := by rw [IntKind.wrap_u64]; omega
  have h2 : (IntKind.u64.wrap a).tmod n = (IntKind.u64.wrap a) % n := Int.tmod_eq_emod_of_nonneg hu
  have h3 := Int.emod_nonneg (IntKind.u64.wrap a) (show n ≠ 0 by omega)
  have h4 := Int.emod_lt_of_pos (IntKind.u64.wrap a) h0
  rw [h2]
  have h5 : Go.RowKit.wrap64 (IntKind.u64.wrap a % n) = IntKind.u64.wrap a % n := by
    generalize IntKind.u64.wrap a % n = x at *
    unfold Go.RowKit.wrap64
    omega
  rw [h5]
  exact ⟨h3, h4⟩
theorem modD (a n : Int) (h0 : 0 < n) : 0 ≤ (IntKind.u64.wrap a).tmod n ∧ (IntKind.u64.wrap a).tmod n < n := by
  have hu : 0 ≤ IntKind.u64.wrap a := by rw [IntKind.wrap_u64]; omega
  rw [Int.tmod_eq_emod_of_nonneg hu]
  exact ⟨Int.emod_nonneg _ (by omega), Int.emod_lt_of_pos _ h0⟩
def opB : Nat → List UInt8
  | 0 => []
  | n + 1 => opB n ++ [60, 97, 62]
def clB : Nat → List UInt8
  | 0 => []
  | n + 1 => clB n ++ [60, 47, 97, 62]
theorem opB_len (n : Nat) : (opB n).length = 3 * n := by
  induction n with
  | zero => rfl
  | succ n ih => rw [opB, List.length_append, ih]; simp; omega
theorem clB_len (n : Nat) : (clB n).length = 4 * n := by
  induction n with
  | zero => rfl
  | succ n ih => rw [clB, List.length_append, ih]; simp; omega
theorem clB_take (n : Nat) : (clB (n + 1)).take (4 * n) = clB n := by
  rw [clB, ← clB_len n, List.take_left]
def badB (n k : Nat) : List UInt8 :=
  if k = 0 then opB (n + 1) ++ clB n else if k = 1 then opB (n + 1) ++ clB (n + 1) ++ [60, 98, 47, 62]
  else if k = 2 then opB (n + 1) ++ clB n ++ [60, 47, 98, 62] else opB (n + 1) ++ clB (n + 1) ++ [60, 47, 97, 62]
def goodB (n : Nat) : List UInt8 := [32] ++ opB (n + 1) ++ [120, 60, 33, 45, 45, 32, 121, 32, 45, 45, 62, 122] ++ clB (n + 1) ++ [10]
def deepOk (n : Nat) : Bool :=
  if n + 1 ≤ 20 then errOf (parseX (opB (n + 1) ++ clB (n + 1))) == 0 && (nodesOf (parseX (opB (n + 1) ++ clB (n + 1)))).length == n + 1 && errOf (parseX (goodB n)) == 0 &&
      errOf (parseX (badB n 0)) == 6 && errOf (parseX (badB n 1)) == 6 && errOf (parseX (badB n 2)) == 6 && errOf (parseX (badB n 3)) == 6
  else errOf (parseX (opB (n + 1) ++ clB (n + 1))) == 7 && (nodesOf (parseX (opB (n + 1) ++ clB (n + 1)))).length == 0
theorem deep_all : (List.range 25).all deepOk = true := by decide +kernel
theorem deep_at (n : Nat) (h : n < 25) : deepOk n = true := by
  have := deep_all
  rw [List.all_eq_true] at this
  exact this n (List.mem_range.2 h)
theorem deep_in {n : Nat} (h : n + 1 ≤ 20) : errOf (parseX (opB (n + 1) ++ clB (n + 1))) = 0 ∧ (nodesOf (parseX (opB (n + 1) ++ clB (n + 1)))).length = n + 1 ∧ errOf (parseX (goodB n)) = 0 ∧ ∀ k, k < 4 → errOf (parseX (badB n k)) = 6 := by
  have hd := deep_at n (by omega)
  unfold deepOk at hd
  rw [if_pos h] at hd
  simp only [Bool.and_eq_true, beq_iff_eq] at hd
  obtain ⟨⟨⟨⟨⟨⟨h1, h2⟩, h3⟩, k0⟩, k1⟩, k2⟩, k3⟩ := hd
  refine ⟨h1, h2, h3, fun k hk => ?_⟩
  match k, hk with
  | 0, _ => exact k0
  | 1, _ => exact k1
  | 2, _ => exact k2
  | 3, _ => exact k3
theorem deep_out {n : Nat} (h : ¬ n + 1 ≤ 20) (h2 : n < 25) : errOf (parseX (opB (n + 1) ++ clB (n + 1))) = 7 ∧ (nodesOf (parseX (opB (n + 1) ++ clB (n + 1)))).length = 0 := by
  have hd := deep_at n h2
  unfold deepOk at hd
  rw [if_neg h] at hd
  simpa only [Bool.and_eq_true, beq_iff_eq] using hd
theorem txA (a b : List UInt8) : tx a ++ tx b = tx (a ++ b) := by
  apply bs_inj
  rw [bs_append, bs_tx, bs_tx, bs_tx]
end Nwl
namespace Go.Proofs.YtbojnmiaheohaaaDoor
open Nwl
open Go.RowKit Go.Maps
set_option linter.unusedVariables false

/-- Parse, of which the error and the number of nodes alone are asked -/
theorem Parse_at (l : List UInt8) (w : World) (hs : l.length ≤ 9223372036854775807) (hg : Glob w) :
    Calls Tryd.prog 7 #[.string (tx l)] w fun e w' => (∃ (A : Option Addr) (c : Nat), e = .returned (.tuple #[.slice A (nodesOf (parseX l)).length c, .int .i64 (errOf (parseX l))])) ∧ Below w.heap.size w w' := by
  refine (Parse_c (tx l) w (by rw [tx_size]; exact hs) hg).mono ?_
  rintro e w' ⟨A, c, he, _, hb⟩
  exact ⟨⟨A, c, he⟩, hb⟩

set_option maxRecDepth 100000 in
set_option maxHeartbeats 1000000 in
theorem ElementDeep_walk (a b : Int) (w : World) (ha : (Lit.int .i64 a).wf = true) (hb : (Lit.int .i64 b).wf = true) (hg : Glob w) :
    Calls Tryd.prog 3 #[.int .i64 a, .int .i64 b] w fun e w' => e = .returned (.bool true) ∧ Below w.heap.size w w' := by
  have HG := Lib.hid hg
  obtain ⟨x0, x1⟩ := idxD a 25 (by decide) (by decide)
  obtain ⟨y0, y1⟩ := modD b 4 (by decide)
  obtain ⟨x, hx⟩ : ∃ x : Nat, Go.RowKit.wrap64 ((IntKind.u64.wrap a).tmod 25) = (x : Int) := ⟨(Go.RowKit.wrap64 ((IntKind.u64.wrap a).tmod 25)).toNat, by omega⟩
  obtain ⟨y, hy⟩ : ∃ y : Int, (IntKind.u64.wrap b).tmod 4 = y := ⟨_, rfl⟩
  have hx25 : x < 25 := by omega
  rw [hy] at y0 y1
  clear hg ha hb x0 x1
  go_enter Tryd.func3, Tryd.ntmps3
  go_wp2_with fail
  simp only [hx]
  clear hx
  go_loop [5, 6, 7] (fun sv tv iv => ∃ k : Nat, k ≤ x + 1 ∧ sv = .string (tx (opB k)) ∧ tv = .string (tx (clB k)) ∧ iv = .int .i64 k) (fun _ _ iv => x + 1 - (intOf iv).toNat)
  case atStart => exact ⟨0, by omega, rfl, rfl, rfl⟩
  case round =>
    obtain ⟨k, hk, rfl, rfl, rfl⟩ := hrel
    by_cases hlt : k < x + 1
    · have hl1 := opB_len k
      have hl2 := clB_len k
      have hz1 : (tx (opB k)).size ≤ 75 := by rw [tx_size]; omega
      have hz2 : (tx (clB k)).size ≤ 100 := by rw [tx_size]; omega
      have hc1 : tx (opB k) ++ ⟨#[60, 97, 62]⟩ = tx (opB (k + 1)) := txA (opB k) [60, 97, 62]
      have hc2 : tx (clB k) ++ ⟨#[60, 47, 97, 62]⟩ = tx (clB (k + 1)) := txA (clB k) [60, 47, 97, 62]
      have hlt2 : (k : Int) < 1 + (x : Int) := by omega
      clear hl1 hl2
      go_wp2_with fail
      go_round
      case rel => exact ⟨k + 1, by omega, rfl, rfl, by go_num⟩
      case measure => simp [intOf]; omega
    · obtain rfl : k = x + 1 := by omega
      have hl1 := opB_len (x + 1)
      have hl2 := clB_len (x + 1)
      have hl3 := clB_len x
      have HB3 : Hid (∀ k : Nat, (badB x k).length ≤ 400) := Lib.hid (by
        intro k
        unfold badB
        split
        · rw [List.length_append]; omega
        · split
          · rw [List.length_append, List.length_append]; simp; omega
          · split
            · rw [List.length_append, List.length_append]; simp; omega
            · rw [List.length_append, List.length_append]; simp; omega)
      have HGL : Hid ((goodB x).length ≤ 400) := Lib.hid (by
        unfold goodB
        simp only [List.length_append, List.length_cons, List.length_nil]
        omega)
      have hz1 : (tx (opB (x + 1))).size ≤ 75 := by rw [tx_size]; omega
      have hz2 : (tx (clB (x + 1))).size ≤ 100 := by rw [tx_size]; omega
      have hzc : (tx (opB (x + 1) ++ clB (x + 1))).size ≤ 175 := by rw [tx_size, List.length_append]; omega
      have HLC : Hid ((opB (x + 1) ++ clB (x + 1)).length ≤ 175) := Lib.hid (by rw [List.length_append]; omega)
      have hcat := txA (opB (x + 1)) (clB (x + 1))
      have hnlt : ¬ ((x : Int) + 1 < 1 + (x : Int)) := by omega
      by_cases hbig : x + 1 ≤ 20
      · obtain ⟨q1, q2, q3, q4⟩ := deep_in hbig
        have Q1 := Lib.hid q1
        have Q2 := Lib.hid q2
        have Q3 := Lib.hid q3
        have Q4 := Lib.hid q4
        clear q1 q2 q3 q4
        have hT : (tx (clB (x + 1))).size = 4 * x + 4 := by rw [tx_size]; omega
        have hE : (tx (clB (x + 1))).extract 0 (4 * x) = tx (clB x) := by apply bs_inj; rw [bs_upto, bs_tx, bs_tx, clB_take]
        have hb0 : tx (opB (x + 1)) ++ tx (clB x) = tx (badB x 0) := txA _ _
        have hb1 : tx (opB (x + 1) ++ clB (x + 1)) ++ ⟨#[60, 98, 47, 62]⟩ = tx (badB x 1) := txA _ [60, 98, 47, 62]
        have hb2 : tx (badB x 0) ++ ⟨#[60, 47, 98, 62]⟩ = tx (badB x 2) := txA _ [60, 47, 98, 62]
        have hb3 : tx (opB (x + 1) ++ clB (x + 1)) ++ ⟨#[60, 47, 97, 62]⟩ = tx (badB x 3) := txA _ [60, 47, 97, 62]
        have hg1 : (⟨#[32]⟩ : ByteArray) ++ tx (opB (x + 1)) = tx ([32] ++ opB (x + 1)) := txA [32] _
        have hg2 : tx ([32] ++ opB (x + 1)) ++ ⟨#[120, 60, 33, 45, 45, 32, 121, 32, 45, 45, 62, 122]⟩ = tx ([32] ++ opB (x + 1) ++ [120, 60, 33, 45, 45, 32, 121, 32, 45, 45, 62, 122]) := txA _ [120, 60, 33, 45, 45, 32, 121, 32, 45, 45, 62, 122]
        have hg3 := txA ([32] ++ opB (x + 1) ++ [120, 60, 33, 45, 45, 32, 121, 32, 45, 45, 62, 122]) (clB (x + 1))
        have hg4 : tx ([32] ++ opB (x + 1) ++ [120, 60, 33, 45, 45, 32, 121, 32, 45, 45, 62, 122] ++ clB (x + 1)) ++ ⟨#[10]⟩ = tx (goodB x) := txA _ [10]
        obtain ⟨O, hO⟩ : ∃ O, O = opB (x + 1) := ⟨_, rfl⟩
        obtain ⟨C, hC⟩ : ∃ C, C = clB (x + 1) := ⟨_, rfl⟩
        rw [← hO] at hz1 hb0 hg1
        rw [← hC] at hz2 hT hE
        rw [← hO, ← hC] at hcat hzc HLC Q1 Q2 hb1 hb3
        rw [← hO] at hg2 hg3 hg4
        rw [← hC] at hg3 hg4
        rw [← hO, ← hC]
        obtain ⟨G1, hG1⟩ : ∃ G, G = [32] ++ O := ⟨_, rfl⟩
        rw [← hG1] at hg1 hg2 hg3 hg4
        obtain ⟨G2, hG2⟩ : ∃ G, G = G1 ++ [120, 60, 33, 45, 45, 32, 121, 32, 45, 45, 62, 122] := ⟨_, rfl⟩
        rw [← hG2] at hg2 hg3 hg4
        obtain ⟨G3, hG3⟩ : ∃ G, G = G2 ++ C := ⟨_, rfl⟩
        rw [← hG3] at hg3 hg4
        have hGz : (tx G1).size ≤ 400 ∧ (tx G2).size ≤ 400 ∧ (tx G3).size ≤ 400 := by
          have e1 : O.length = 3 * (x + 1) := by rw [hO]; exact hl1
          have e2 : C.length = 4 * (x + 1) := by rw [hC]; exact hl2
          rw [tx_size, tx_size, tx_size, hG3, hG2, hG1]
          simp only [List.length_append, List.length_cons, List.length_nil]
          omega
        obtain ⟨gz1, gz2, gz3⟩ := hGz
        have gb0 : (tx (badB x 0)).size ≤ 400 := by rw [tx_size]; exact HB3.out 0
        have gc0 : (tx (clB x)).size ≤ 400 := by rw [tx_size]; omega
        clear hG1 hG2 hG3 hO hC hl1 hl2 hl3
        go_wp2_with fail
        refine (Parse_at _ _ (by have := HLC.out; omega) HG.out).mono ?_
        rintro e w1 ⟨⟨A1, c1, rfl⟩, hb1'⟩
        rw [Q1.out, Q2.out]
        have HW1 := Lib.hid hb1'
        clear hb1'
        have hyc : y = 0 ∨ y = 1 ∨ y = 2 ∨ y = 3 := by omega
        clear y0 y1
        rcases hyc with hyk | hyk | hyk | hyk
        · subst hyk
          go_wp2_with fail
          refine (Parse_at _ _ (by have := HB3.out 0; omega) (HG.out.below HW1.out)).mono ?_
          rintro e w2 ⟨⟨A2, c2, rfl⟩, hb2'⟩
          rw [Q4.out 0 (by decide)]
          have HW2 : Hid (Below w.heap.size w w2) := Lib.hid (HW1.out.trans (hb2'.mono HW1.out.size))
          clear hb2'
          go_wp2_with fail
          refine (Parse_at _ _ (by have := HGL.out; omega) (HG.out.below HW2.out)).mono ?_
          rintro e w3 ⟨⟨A3, c3, rfl⟩, hb3'⟩
          rw [Q3.out]
          have HW3 : Hid (Below w.heap.size w w3) := Lib.hid (HW2.out.trans (hb3'.mono HW2.out.size))
          clear hb3'
          have hn1 : ((x : Int) + 1 == 1 + (x : Int)) = true := by rw [beq_iff_eq]; omega
          go_wp2_with fail
          refine (awake3_c _ (HG.out.below HW3.out)).mono ?_
          rintro e w4 ⟨rfl, hb4'⟩
          go_wp2_with fail
          go_ret
          exact ⟨rfl, HW3.out.trans (hb4'.mono HW3.out.size)⟩
        · subst hyk
          go_wp2_with fail
          refine (Parse_at _ _ (by have := HB3.out 1; omega) (HG.out.below HW1.out)).mono ?_
          rintro e w2 ⟨⟨A2, c2, rfl⟩, hb2'⟩
          rw [Q4.out 1 (by decide)]
          have HW2 : Hid (Below w.heap.size w w2) := Lib.hid (HW1.out.trans (hb2'.mono HW1.out.size))
          clear hb2'
          go_wp2_with fail
          refine (Parse_at _ _ (by have := HGL.out; omega) (HG.out.below HW2.out)).mono ?_
          rintro e w3 ⟨⟨A3, c3, rfl⟩, hb3'⟩
          rw [Q3.out]
          have HW3 : Hid (Below w.heap.size w w3) := Lib.hid (HW2.out.trans (hb3'.mono HW2.out.size))
          clear hb3'
          have hn1 : ((x : Int) + 1 == 1 + (x : Int)) = true := by rw [beq_iff_eq]; omega
          go_wp2_with fail
          refine (awake3_c _ (HG.out.below HW3.out)).mono ?_
          rintro e w4 ⟨rfl, hb4'⟩
          go_wp2_with fail
          go_ret
          exact ⟨rfl, HW3.out.trans (hb4'.mono HW3.out.size)⟩
        · subst hyk
          go_wp2_with fail
          refine (Parse_at _ _ (by have := HB3.out 2; omega) (HG.out.below HW1.out)).mono ?_
          rintro e w2 ⟨⟨A2, c2, rfl⟩, hb2'⟩
          rw [Q4.out 2 (by decide)]
          have HW2 : Hid (Below w.heap.size w w2) := Lib.hid (HW1.out.trans (hb2'.mono HW1.out.size))
          clear hb2'
          go_wp2_with fail
          refine (Parse_at _ _ (by have := HGL.out; omega) (HG.out.below HW2.out)).mono ?_
          rintro e w3 ⟨⟨A3, c3, rfl⟩, hb3'⟩
          rw [Q3.out]
          have HW3 : Hid (Below w.heap.size w w3) := Lib.hid (HW2.out.trans (hb3'.mono HW2.out.size))
          clear hb3'
          have hn1 : ((x : Int) + 1 == 1 + (x : Int)) = true := by rw [beq_iff_eq]; omega
          go_wp2_with fail
          refine (awake3_c _ (HG.out.below HW3.out)).mono ?_
          rintro e w4 ⟨rfl, hb4'⟩
          go_wp2_with fail
          go_ret
          exact ⟨rfl, HW3.out.trans (hb4'.mono HW3.out.size)⟩
        · subst hyk
          go_wp2_with fail
          refine (Parse_at _ _ (by have := HB3.out 3; omega) (HG.out.below HW1.out)).mono ?_
          rintro e w2 ⟨⟨A2, c2, rfl⟩, hb2'⟩
          rw [Q4.out 3 (by decide)]
          have HW2 : Hid (Below w.heap.size w w2) := Lib.hid (HW1.out.trans (hb2'.mono HW1.out.size))
          clear hb2'
          go_wp2_with fail
          refine (Parse_at _ _ (by have := HGL.out; omega) (HG.out.below HW2.out)).mono ?_
          rintro e w3 ⟨⟨A3, c3, rfl⟩, hb3'⟩
          rw [Q3.out]
          have HW3 : Hid (Below w.heap.size w w3) := Lib.hid (HW2.out.trans (hb3'.mono HW2.out.size))
          clear hb3'
          have hn1 : ((x : Int) + 1 == 1 + (x : Int)) = true := by rw [beq_iff_eq]; omega
          go_wp2_with fail
          refine (awake3_c _ (HG.out.below HW3.out)).mono ?_
          rintro e w4 ⟨rfl, hb4'⟩
          go_wp2_with fail
          go_ret
          exact ⟨rfl, HW3.out.trans (hb4'.mono HW3.out.size)⟩
      · obtain ⟨q1, q2⟩ := deep_out hbig hx25
        have Q1 := Lib.hid q1
        have Q2 := Lib.hid q2
        clear q1 q2
        obtain ⟨O, hO⟩ : ∃ O, O = opB (x + 1) := ⟨_, rfl⟩
        obtain ⟨C, hC⟩ : ∃ C, C = clB (x + 1) := ⟨_, rfl⟩
        rw [← hO] at hz1
        rw [← hC] at hz2
        rw [← hO, ← hC] at hcat hzc HLC Q1 Q2 ⊢
        clear hl1 hl2 hl3 hO hC
        go_wp2_with fail
        refine (Parse_at _ _ (by have := HLC.out; omega) HG.out).mono ?_
        rintro e w1 ⟨⟨A1, c1, rfl⟩, hb1'⟩
        rw [Q1.out, Q2.out]
        have HW1 := Lib.hid hb1'
        clear hb1'
        go_wp2_with fail
        refine (awake3_c _ (HG.out.below HW1.out)).mono ?_
        rintro e w2 ⟨rfl, hb2'⟩
        go_wp2_with fail
        go_ret
        exact ⟨rfl, HW1.out.trans (hb2'.mono HW1.out.size)⟩
end Go.Proofs.YtbojnmiaheohaaaDoor
