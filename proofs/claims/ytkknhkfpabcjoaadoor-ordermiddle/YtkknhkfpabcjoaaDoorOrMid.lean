/-
  The walk of OrderMiddle.
-/
import Derived.Test.YtkknhkfpabcjoaaDoorOrAwake
import Derived.Test.YtkknhkfpabcjoaaDoorOrDots
import Derived.Test.YtkknhkfpabcjoaaDoorGnRow
namespace Nwl
open Go
/-- what a text behind numbers is -/
def tailZ (T : List UInt8) : List Wz := (cleanW ((tailP (lowerL T)).map wordP)).map Wz.of
def zerL : Nat → List UInt8
  | 0 => []
  | n + 1 => zerL n ++ [46, 48]
theorem zerL_len : ∀ n, (zerL n).length = n * 2
  | 0 => rfl
  | n + 1 => by rw [zerL, List.length_append, zerL_len n]; simp; omega
theorem mid_text (x y : Nat) : ∀ z : Nat, decF 9 x ++ zerL z ++ [46] ++ decF 9 y = dotL ((x :: List.replicate z 0) ++ [y]) := by
  have h : ∀ z, decF 9 x ++ zerL z = dotL (x :: List.replicate z 0) := by
    intro z
    induction z with
    | zero => simp [zerL, dotL]
    | succ z ih =>
      have e : x :: List.replicate (z + 1) 0 = (x :: List.replicate z 0) ++ [0] := by simp [List.replicate_succ']
      rw [e, dotL_snoc _ _ (by simp), ← ih, zerL]
      show decF 9 x ++ (zerL z ++ [46, 48]) = decF 9 x ++ zerL z ++ [46] ++ [48]
      simp
  intro z
  rw [dotL_snoc _ _ (by simp), h z]
theorem mid_small (x y z : Nat) (hx : x < 10 ^ 9) (hy : y < 10 ^ 9) : ∀ q ∈ (x :: List.replicate z 0) ++ [y], q < 10 ^ 9 := by
  intro q hq
  simp only [List.mem_append, List.mem_cons, List.mem_replicate, List.not_mem_nil, or_false] at hq
  rcases hq with (rfl | ⟨_, rfl⟩) | rfl
  · exact hx
  · decide
  · exact hy
theorem mid_cmp (x y z : Nat) (S T : List UInt8) (hx : x < 10 ^ 9) (hy : y < 10 ^ 9) (hy0 : 0 < y) (hS : digHd (lowerL S) = false) (hT : digHd (lowerL T) = false) (r : Int) (hr : wordsC (tailZ S) (tailZ T) = r) : cmpV ((decF 9 x ++ zerL z ++ [46] ++ decF 9 y) ++ S) ((decF 9 x ++ zerL z ++ [46] ++ decF 9 y) ++ T) = r := by
  rw [mid_text, behind_cmp (x :: List.replicate z 0) y S T hy0 (mid_small x y z hx hy) hS hT]
  exact hr
theorem mid_zero : ∀ z : Fin 4, digHd (lowerL (zerL z)) = false ∧ wordsC (tailZ []) (tailZ (zerL z)) = 0 := by decide +kernel
theorem mid_one (x y z : Nat) (hx : x < 10 ^ 9) (hy : y < 10 ^ 9) (hy0 : 0 < y) : cmpV (decF 9 x ++ zerL z ++ [46] ++ decF 9 y) (decF 9 x) = 1 := by
  have e : decF 9 x = dotL [x] := rfl
  rw [mid_text]
  rw [e, dots_cmp _ [x] (by simp) (by simp) (mid_small x y z hx hy) (by intro q hq; simp at hq; subst hq; exact hx)]
  rw [List.cons_append, List.map_cons, List.map_cons, wordsC_cons, ord_z.refl, thenI_zero, List.map_append, List.map_nil]
  have h : ∀ z, wordsC ((List.replicate z 0).map numZ ++ [numZ y]) [] = 1 := by
    intro z
    induction z with
    | zero =>
      show wordsC [numZ y] [] = 1
      rw [wordsC_step]
      show thenI (cmpZ (numZ y) (numZ 0)) _ = 1
      rw [cmp_num y 0 hy (by decide), ci_gt (by omega)]
      rfl
    | succ z ih =>
      rw [List.replicate_succ, List.map_cons, List.cons_append, wordsC_step]
      show thenI (cmpZ (numZ 0) nZ) (wordsC ((List.replicate z 0).map numZ ++ [numZ y]) []) = 1
      rw [ih, numZ_zero, ord_z.refl]
      rfl
  exact h z
theorem mid_p0 : digHd (lowerL [45, 83, 78, 65, 80, 83, 72, 79, 84]) = false ∧ digHd (lowerL []) = false ∧ wordsC (tailZ [45, 83, 78, 65, 80, 83, 72, 79, 84]) (tailZ []) = (-1) := by decide +kernel
theorem mid_p1 : digHd (lowerL [45, 115, 112]) = false ∧ digHd (lowerL []) = false ∧ wordsC (tailZ [45, 115, 112]) (tailZ []) = 1 := by decide +kernel
theorem mid_p2 : digHd (lowerL [45, 114, 99]) = false ∧ digHd (lowerL [45, 99, 114]) = false ∧ wordsC (tailZ [45, 114, 99]) (tailZ [45, 99, 114]) = 0 := by decide +kernel
theorem mid_p3 : digHd (lowerL [45, 114, 99, 49]) = false ∧ digHd (lowerL [45, 114, 99, 50]) = false ∧ wordsC (tailZ [45, 114, 99, 49]) (tailZ [45, 114, 99, 50]) = (-1) := by decide +kernel
theorem mid_p4 : digHd (lowerL [45, 114, 99]) = false ∧ digHd (lowerL [45, 114, 99, 49]) = false ∧ wordsC (tailZ [45, 114, 99]) (tailZ [45, 114, 99, 49]) = (-1) := by decide +kernel
theorem mid_p5 : digHd (lowerL [45, 97, 108, 112, 104, 97, 45, 49]) = false ∧ digHd (lowerL [45, 98, 101, 116, 97]) = false ∧ wordsC (tailZ [45, 97, 108, 112, 104, 97, 45, 49]) (tailZ [45, 98, 101, 116, 97]) = (-1) := by decide +kernel
end Nwl
namespace Go.Proofs.YtkknhkfpabcjoaaDoor
open Nwl
open Go.RowKit Go.Maps
set_option linter.unusedVariables false

set_option maxRecDepth 100000 in
set_option maxHeartbeats 4000000 in
theorem OrderMiddle_walk (a b c : Int) (w : World) (ha : (Lit.int .i64 a).wf = true) (hb : (Lit.int .i64 b).wf = true) (hc : (Lit.int .i64 c).wf = true) (hg : Glob w) :
    Calls Tryd.prog 9 #[.int .i64 a, .int .i64 b, .int .i64 c] w fun e w' => e = .returned (.bool true) ∧ Below w.heap.size w w' := by
  obtain ⟨x, hx, hx1⟩ := idxN a 200 (by decide) (by decide)
  obtain ⟨y, hy, hy1⟩ := idxN b 200 (by decide) (by decide)
  obtain ⟨z, hz, hz1⟩ := idxN c 4 (by decide) (by decide)
  clear ha hb hc hg
  have HX : Hid (wrap64 ((IntKind.u64.wrap a).tmod 200) = x ∧ wrap64 ((IntKind.u64.wrap b).tmod 200) = y ∧ wrap64 ((IntKind.u64.wrap c).tmod 4) = z) := Lib.hid ⟨hx, hy, hz⟩
  have HW : Hid (wrap64 (1 + (x : Int)) = ((1 + x : Nat) : Int) ∧ wrap64 (1 + (y : Int)) = ((1 + y : Nat) : Int)) := Lib.hid ⟨by unfold wrap64; omega, by unfold wrap64; omega⟩
  have HS : Hid (1 + x < 10 ^ 9 ∧ 1 + y < 10 ^ 9) := Lib.hid ⟨by omega, by omega⟩
  clear hx hy hz
  obtain ⟨X, hX⟩ : ∃ X, decF 9 (1 + x) = X := ⟨_, rfl⟩
  obtain ⟨Y, hY⟩ : ∃ Y, decF 9 (1 + y) = Y := ⟨_, rfl⟩
  obtain ⟨Z, hZ⟩ : ∃ Z, zerL z = Z := ⟨_, rfl⟩
  obtain ⟨P1, hP1⟩ : ∃ P, X ++ Z = P := ⟨_, rfl⟩
  obtain ⟨P2, hP2⟩ : ∃ P, P1 ++ [46] = P := ⟨_, rfl⟩
  obtain ⟨V, hV⟩ : ∃ V, P2 ++ Y = V := ⟨_, rfl⟩
  have lX : X.length ≤ 9 := by rw [← hX]; exact decF_le 9 _
  have lY : Y.length ≤ 9 := by rw [← hY]; exact decF_le 9 _
  have lZ : Z.length ≤ 6 := by rw [← hZ, zerL_len]; omega
  have lV : V.length ≤ 25 := by rw [← hV, ← hP2, ← hP1]; simp; omega
  have hVV : decF 9 (1 + x) ++ zerL z ++ [46] ++ decF 9 (1 + y) = V := by rw [hX, hY, hZ, hP1, hP2, hV]
  have C0 : Hid (cmpV (bs (tx V)) (bs (tx X)) = 1) := Lib.hid (by rw [bs_tx, bs_tx, ← hVV, ← hX]; exact mid_one _ _ _ HS.out.1 HS.out.2 (by omega))
  have hm0 := mid_zero ⟨z, by omega⟩
  simp only at hm0
  rw [hZ] at hm0
  have C1 : Hid (cmpV (bs (tx V)) (bs (tx (V ++ Z))) = 0) := Lib.hid (by
    have h := mid_cmp (1 + x) (1 + y) z [] Z HS.out.1 HS.out.2 (by omega) rfl hm0.1 0 hm0.2
    rw [hVV, List.append_nil] at h
    rw [bs_tx, bs_tx]
    exact h)
  have C2 : Hid (cmpV (bs (tx (V ++ [45, 83, 78, 65, 80, 83, 72, 79, 84]))) (bs (tx (V))) = -1) := Lib.hid (by
    have h := mid_cmp (1 + x) (1 + y) z [45, 83, 78, 65, 80, 83, 72, 79, 84] [] HS.out.1 HS.out.2 (by omega) mid_p0.1 mid_p0.2.1 _ mid_p0.2.2
    rw [hVV, List.append_nil] at h
    rw [bs_tx, bs_tx]
    exact h)
  have C3 : Hid (cmpV (bs (tx (V ++ [45, 115, 112]))) (bs (tx (V))) = 1) := Lib.hid (by
    have h := mid_cmp (1 + x) (1 + y) z [45, 115, 112] [] HS.out.1 HS.out.2 (by omega) mid_p1.1 mid_p1.2.1 _ mid_p1.2.2
    rw [hVV, List.append_nil] at h
    rw [bs_tx, bs_tx]
    exact h)
  have C4 : Hid (cmpV (bs (tx (V ++ [45, 114, 99]))) (bs (tx (V ++ [45, 99, 114]))) = 0) := Lib.hid (by
    have h := mid_cmp (1 + x) (1 + y) z [45, 114, 99] [45, 99, 114] HS.out.1 HS.out.2 (by omega) mid_p2.1 mid_p2.2.1 _ mid_p2.2.2
    rw [hVV] at h
    rw [bs_tx, bs_tx]
    exact h)
  have C5 : Hid (cmpV (bs (tx (V ++ [45, 114, 99, 49]))) (bs (tx (V ++ [45, 114, 99, 50]))) = -1) := Lib.hid (by
    have h := mid_cmp (1 + x) (1 + y) z [45, 114, 99, 49] [45, 114, 99, 50] HS.out.1 HS.out.2 (by omega) mid_p3.1 mid_p3.2.1 _ mid_p3.2.2
    rw [hVV] at h
    rw [bs_tx, bs_tx]
    exact h)
  have C6 : Hid (cmpV (bs (tx (V ++ [45, 114, 99]))) (bs (tx (V ++ [45, 114, 99, 49]))) = -1) := Lib.hid (by
    have h := mid_cmp (1 + x) (1 + y) z [45, 114, 99] [45, 114, 99, 49] HS.out.1 HS.out.2 (by omega) mid_p4.1 mid_p4.2.1 _ mid_p4.2.2
    rw [hVV] at h
    rw [bs_tx, bs_tx]
    exact h)
  have C7 : Hid (cmpV (bs (tx (V ++ [45, 97, 108, 112, 104, 97, 45, 49]))) (bs (tx (V ++ [45, 98, 101, 116, 97]))) = -1) := Lib.hid (by
    have h := mid_cmp (1 + x) (1 + y) z [45, 97, 108, 112, 104, 97, 45, 49] [45, 98, 101, 116, 97] HS.out.1 HS.out.2 (by omega) mid_p5.1 mid_p5.2.1 _ mid_p5.2.2
    rw [hVV] at h
    rw [bs_tx, bs_tx]
    exact h)
  have sX : (tx X).size ≤ 9 := by rw [tx_size]; exact lX
  have sY : (tx Y).size ≤ 9 := by rw [tx_size]; exact lY
  have sZ : (tx Z).size ≤ 6 := by rw [tx_size]; exact lZ
  have sV : (tx V).size ≤ 25 := by rw [tx_size]; exact lV
  have sXZ : (tx P1).size ≤ 15 := by rw [tx_size, ← hP1]; simp; omega
  have sXZ2 : (tx P2).size ≤ 16 := by rw [tx_size, ← hP2, ← hP1]; simp; omega
  have SG : Hid (∀ T : List UInt8, T.length ≤ 10 → (tx (V ++ T)).size ≤ 1000) := Lib.hid (fun T hT => by rw [tx_size]; simp; omega)
  have SV : Hid ((tx V).size ≤ 1000 ∧ (tx X).size ≤ 1000 ∧ (tx (V ++ Z)).size ≤ 1000) := Lib.hid ⟨by omega, by omega, SG.out Z (by omega)⟩
  have c1 : tx X ++ tx Z = tx P1 := by rw [txA, hP1]
  have c2 : tx P1 ++ ⟨#[46]⟩ = tx P2 := by rw [← hP2]; exact txA _ [46]
  have c3 : tx P2 ++ tx Y = tx V := by rw [txA, hV]
  have c4 : tx V ++ tx Z = tx (V ++ Z) := txA _ _
  have d1 : tx V ++ ⟨#[45, 83, 78, 65, 80, 83, 72, 79, 84]⟩ = tx (V ++ [45, 83, 78, 65, 80, 83, 72, 79, 84]) := txA _ [45, 83, 78, 65, 80, 83, 72, 79, 84]
  have d2 : tx V ++ ⟨#[45, 115, 112]⟩ = tx (V ++ [45, 115, 112]) := txA _ [45, 115, 112]
  have d3 : tx V ++ ⟨#[45, 114, 99]⟩ = tx (V ++ [45, 114, 99]) := txA _ [45, 114, 99]
  have d4 : tx V ++ ⟨#[45, 99, 114]⟩ = tx (V ++ [45, 99, 114]) := txA _ [45, 99, 114]
  have d5 : tx V ++ ⟨#[45, 114, 99, 49]⟩ = tx (V ++ [45, 114, 99, 49]) := txA _ [45, 114, 99, 49]
  have d6 : tx V ++ ⟨#[45, 114, 99, 50]⟩ = tx (V ++ [45, 114, 99, 50]) := txA _ [45, 114, 99, 50]
  have d7 : tx V ++ ⟨#[45, 97, 108, 112, 104, 97, 45, 49]⟩ = tx (V ++ [45, 97, 108, 112, 104, 97, 45, 49]) := txA _ [45, 97, 108, 112, 104, 97, 45, 49]
  have d8 : tx V ++ ⟨#[45, 98, 101, 116, 97]⟩ = tx (V ++ [45, 98, 101, 116, 97]) := txA _ [45, 98, 101, 116, 97]
  have KX := Lib.hid hX
  have KY := Lib.hid hY
  have KZ := Lib.hid hZ
  clear hX hY hZ hV hP1 hP2 lX lY lZ lV hVV hm0 hx1 hy1
  have hz4 : z < 4 := by omega
  clear hz1
  go_enter Tryd.func9, Tryd.ntmps9
  go_wp2_with fail
  simp only [HX.out.1, HW.out.1]
  refine (Digits_c 9 (1 + x) _ HS.out.1 (by decide) (by decide)).mono ?_
  rw [KX.out]
  rintro e w1 ⟨rfl, b1⟩
  have B1 := Lib.hid b1
  clear b1
  go_wp2_with fail
  simp only [HX.out.2.1, HW.out.2]
  refine (Digits_c 9 (1 + y) _ HS.out.2 (by decide) (by decide)).mono ?_
  rw [KY.out]
  rintro e w2 ⟨rfl, b2⟩
  have B2 := Lib.hid (B1.out.trans (b2.mono B1.out.size))
  clear b2
  go_wp2_with fail
  simp only [HX.out.2.2]
  go_loopw [9, 10] (fun zv iv wr => ∃ (k m : Nat), k + m = z ∧ zv = .string (tx (zerL m)) ∧ iv = .int .i64 k ∧ wr = w2) (fun _ iv _ => (intOf iv).toNat)
  case atStart => exact ⟨z, 0, rfl, rfl, rfl, rfl⟩
  case round =>
    obtain ⟨k, m, hkm, rfl, rfl, rfl⟩ := hrel
    rcases Nat.eq_zero_or_pos k with h0 | h0
    · subst h0
      obtain rfl : m = z := by omega
      rw [KZ.out]
      clear hkm
      go_wp2_with fail
      refine (awake6_c _).mono ?_
      rintro e w3 ⟨rfl, b3⟩
      have B3 := Lib.hid (B2.out.trans (b3.out.mono B2.out.size))
      clear b3
      go_wp2_with fail
      refine (Compare_c (tx V) (tx X) _ SV.out.1 SV.out.2.1 1 C0.out).mono ?_
      rintro e w4 ⟨rfl, b4⟩
      have B4 := Lib.hid (B3.out.trans (b4.out.mono B3.out.size))
      clear b4 B3
      go_wp2_with fail
      refine (Compare_c (tx V) (tx (V ++ Z)) _ SV.out.1 SV.out.2.2 0 C1.out).mono ?_
      rintro e w5 ⟨rfl, b5⟩
      have B5 := Lib.hid (B4.out.trans (b5.out.mono B4.out.size))
      clear b5 B4
      go_wp2_with fail
      refine (Compare_c (tx (V ++ [45, 83, 78, 65, 80, 83, 72, 79, 84])) (tx V) _ (SG.out _ (by decide)) SV.out.1 (-1) C2.out).mono ?_
      rintro e w6 ⟨rfl, b6⟩
      have B6 := Lib.hid (B5.out.trans (b6.out.mono B5.out.size))
      clear b6 B5
      go_wp2_with fail
      refine (Compare_c (tx (V ++ [45, 115, 112])) (tx V) _ (SG.out _ (by decide)) SV.out.1 1 C3.out).mono ?_
      rintro e w7 ⟨rfl, b7⟩
      have B7 := Lib.hid (B6.out.trans (b7.out.mono B6.out.size))
      clear b7 B6
      go_wp2_with fail
      refine (Compare_c (tx (V ++ [45, 114, 99])) (tx (V ++ [45, 99, 114])) _ (SG.out _ (by decide)) (SG.out _ (by decide)) 0 C4.out).mono ?_
      rintro e w8 ⟨rfl, b8⟩
      have B8 := Lib.hid (B7.out.trans (b8.out.mono B7.out.size))
      clear b8 B7
      go_wp2_with fail
      refine (Compare_c (tx (V ++ [45, 114, 99, 49])) (tx (V ++ [45, 114, 99, 50])) _ (SG.out _ (by decide)) (SG.out _ (by decide)) (-1) C5.out).mono ?_
      rintro e w9 ⟨rfl, b9⟩
      have B9 := Lib.hid (B8.out.trans (b9.out.mono B8.out.size))
      clear b9 B8
      go_wp2_with fail
      refine (Compare_c (tx (V ++ [45, 114, 99])) (tx (V ++ [45, 114, 99, 49])) _ (SG.out _ (by decide)) (SG.out _ (by decide)) (-1) C6.out).mono ?_
      rintro e w10 ⟨rfl, b10⟩
      have B10 := Lib.hid (B9.out.trans (b10.out.mono B9.out.size))
      clear b10 B9
      go_wp2_with fail
      refine (Compare_c (tx (V ++ [45, 97, 108, 112, 104, 97, 45, 49])) (tx (V ++ [45, 98, 101, 116, 97])) _ (SG.out _ (by decide)) (SG.out _ (by decide)) (-1) C7.out).mono ?_
      rintro e w11 ⟨rfl, b11⟩
      have B11 := Lib.hid (B10.out.trans (b11.out.mono B10.out.size))
      clear b11 B10
      go_wp2_with fail
      go_ret
      exact ⟨rfl, B11.out⟩
    · have hup : Hid (tx (zerL m) ++ ⟨#[46, 48]⟩ = tx (zerL (m + 1))) := Lib.hid (txA _ [46, 48])
      have hsz : (tx (zerL m)).size ≤ 6 := by rw [tx_size, zerL_len]; omega
      have hup2 := hup.out
      have hk0 : (0 : Int) < (k : Int) := by omega
      have HKM := Lib.hid hkm
      have hk4 : (k : Int) ≤ 4 := by omega
      clear hkm
      have hw1 : Hid (wrap64 ((k : Int) - 1) = ((k - 1 : Nat) : Int)) := Lib.hid (by unfold wrap64; omega)
      go_wp2_with fail
      go_roundw
      case rel => exact ⟨k - 1, m + 1, by have := HKM.out; omega, by rw [← hup.out], by rw [show ((k : Int) - 1) = ((k - 1 : Nat) : Int) by omega], trivial⟩
      case measure => simp only [intOf]; omega
end Go.Proofs.YtkknhkfpabcjoaaDoor
