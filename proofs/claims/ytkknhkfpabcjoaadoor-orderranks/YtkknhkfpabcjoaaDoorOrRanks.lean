/-
  The walk of OrderRanks.
-/
import Derived.Test.YtkknhkfpabcjoaaDoorOrAwake
import Derived.Test.YtkknhkfpabcjoaaDoorOrDots
import Derived.Test.YtkknhkfpabcjoaaDoorGnRow
namespace Nwl
open Go
def sufN (i : Nat) : List UInt8 := [[45, 97, 108, 112, 104, 97], [45, 98, 101, 116, 97], [45, 109, 105, 108, 101, 115, 116, 111, 110, 101], [45, 114, 99], [45, 115, 110, 97, 112, 115, 104, 111, 116], [], [45, 115, 112], [45, 120], [45, 49], [46, 49]].getD i []
def behW (T : List UInt8) : List Wz := (cleanW ((tailP (lowerL T)).map wordP)).map Wz.of
theorem suf_dig : ∀ i : Fin 10, digHd (lowerL (sufN i)) = false := by decide +kernel
theorem suf_len : ∀ i : Fin 10, (sufN i).length ≤ 10 := by decide +kernel
theorem suf_all : ∀ i k : Fin 10, wordsC (behW (sufN i)) (behW (sufN k)) = Lib.compareInt (i.1 : Nat) (k.1 : Nat) := by decide +kernel
theorem ranks_cmp (y i k : Nat) (hy : 0 < y) (hy2 : y < 10 ^ 9) (hi : i < 10) (hk : k < 10) : cmpV (decF 9 y ++ sufN i) (decF 9 y ++ sufN k) = Lib.compareInt i k := by
  have := behind_cmp [] y (sufN i) (sufN k) hy (by intro x hx; simp at hx; subst hx; exact hy2) (suf_dig ⟨i, hi⟩) (suf_dig ⟨k, hk⟩)
  refine Eq.trans this ?_
  exact suf_all ⟨i, hi⟩ ⟨k, hk⟩
end Nwl
namespace Go.Proofs.YtkknhkfpabcjoaaDoor
open Nwl
open Go.RowKit Go.Maps
set_option linter.unusedVariables false

abbrev sufC : Array Value := #[.string ⟨#[45, 97, 108, 112, 104, 97]⟩, .string ⟨#[45, 98, 101, 116, 97]⟩, .string ⟨#[45, 109, 105, 108, 101, 115, 116, 111, 110, 101]⟩, .string ⟨#[45, 114, 99]⟩, .string ⟨#[45, 115, 110, 97, 112, 115, 104, 111, 116]⟩, .string ⟨#[]⟩, .string ⟨#[45, 115, 112]⟩, .string ⟨#[45, 120]⟩, .string ⟨#[45, 49]⟩, .string ⟨#[46, 49]⟩]
theorem sufC_at (i : Nat) (h : i < 10) : sufC[i]? = some (.string (tx (sufN i))) := by
  match i, h with
  | 0, _ | 1, _ | 2, _ | 3, _ | 4, _ | 5, _ | 6, _ | 7, _ | 8, _ | 9, _ => rfl
  | i + 10, h => omega
theorem suf_rd {w : World} {b i k : Nat} {u v : Value} (h : Hid (Blk w b 9 sufC)) (hi : Hid (sufC[i]? = some u)) (hk : Hid (sufC[k]? = some v)) : w.cell? ⟨b, i, none⟩ = some u ∧ w.cell? ⟨b, k, none⟩ = some v := ⟨(h.out.cell i).trans hi.out, (h.out.cell k).trans hk.out⟩

set_option maxRecDepth 100000 in
set_option maxHeartbeats 2000000 in
theorem OrderRanks_walk (a b c : Int) (w : World) (ha : (Lit.int .i64 a).wf = true) (hb : (Lit.int .i64 b).wf = true) (hc : (Lit.int .i64 c).wf = true) (hg : Glob w) :
    Calls Tryd.prog 7 #[.int .i64 a, .int .i64 b, .int .i64 c] w fun e w' => e = .returned (.bool true) ∧ Below w.heap.size w w' := by
  obtain ⟨x, hx, hx1⟩ := idxN a 10 (by decide) (by decide)
  obtain ⟨y, hy, hy1⟩ := idxN b 10 (by decide) (by decide)
  obtain ⟨z, hz, hz1⟩ := idxN c 100 (by decide) (by decide)
  clear ha hb hc hg
  have hx9 : x < 10 := by omega
  have hy9 : y < 10 := by omega
  obtain ⟨F, hF⟩ : ∃ F, Lib.compareInt (x : Int) (y : Int) = F := ⟨_, rfl⟩
  have HZ : Hid (wrap64 (1 + (z : Int)) = ((1 + z : Nat) : Int)) := Lib.hid (by unfold wrap64; omega)
  have hz9 : Hid (1 + z < 10 ^ 9) := Lib.hid (by omega)
  obtain ⟨V, hV⟩ : ∃ V, decF 9 (1 + z) = V := ⟨_, rfl⟩
  have HV := Lib.hid hV
  have lV : V.length ≤ 9 := by rw [← hV]; exact decF_le 9 _
  have lx := suf_len ⟨x, hx9⟩
  have ly := suf_len ⟨y, hy9⟩
  simp only at lx ly
  have HC : Hid (cmpV (bs (tx (V ++ sufN x))) (bs (tx (V ++ sufN y))) = F) := Lib.hid (by
    rw [bs_tx, bs_tx, ← hV, ranks_cmp (1 + z) x y (by omega) (by omega) hx9 hy9, hF])
  have S1 : Hid ((tx (V ++ sufN x)).size ≤ 1000) := Lib.hid (by rw [tx_size]; simp; omega)
  have S2 : Hid ((tx (V ++ sufN y)).size ≤ 1000) := Lib.hid (by rw [tx_size]; simp; omega)
  have s3 : (tx V).size ≤ 9 := by rw [tx_size]; exact lV
  have s4 : (tx (sufN x)).size ≤ 10 := by rw [tx_size]; exact lx
  have s5 : (tx (sufN y)).size ≤ 10 := by rw [tx_size]; exact ly
  have c1 : tx V ++ tx (sufN x) = tx (V ++ sufN x) := txA _ _
  have c2 : tx V ++ tx (sufN y) = tx (V ++ sufN y) := txA _ _
  have z1 : ¬ 9223372036854775807 < (tx V).size + (tx (sufN x)).size := by omega
  have z2 : ¬ 9223372036854775807 < (tx V).size + (tx (sufN y)).size := by omega
  have CX := Lib.hid (sufC_at x hx9)
  have CY := Lib.hid (sufC_at y hy9)
  generalize sufN x = M at *
  generalize sufN y = N at *
  have X0 := Lib.hid (Blk.new w 9 sufC)
  have B0 := Lib.hid ((Below.refl w.heap.size w).alloc (Nat.le_refl _) (.cells sufC 9))
  have hF3 : x < y ∧ F = -1 ∨ x = y ∧ F = 0 ∨ y < x ∧ F = 1 := by
    rcases Nat.lt_trichotomy x y with h | h | h
    · exact .inl ⟨h, by rw [← hF]; exact ci_lt (by omega)⟩
    · exact .inr (.inl ⟨h, by rw [← hF]; exact ci_eq (by omega)⟩)
    · exact .inr (.inr ⟨h, by rw [← hF]; exact ci_gt (by omega)⟩)
  have HX : Hid (wrap64 ((IntKind.u64.wrap a).tmod 10) = x ∧ wrap64 ((IntKind.u64.wrap b).tmod 10) = y ∧ wrap64 ((IntKind.u64.wrap c).tmod 100) = z) := Lib.hid ⟨hx, hy, hz⟩
  clear hF hV lV lx ly hz1 hx hy hz
  rcases hF3 with ⟨h1, rfl⟩ | ⟨h1, rfl⟩ | ⟨h1, rfl⟩
  · go_enter Tryd.func7, Tryd.ntmps7
    go_upto_region 3 with fail
    simp only [HX.out.1, HX.out.2.1]
    go_wp2_with fail
    simp only [HX.out.2.2]
    go_wp2_with fail
    simp only [HZ.out]
    refine (Digits_c 9 (1 + z) _ hz9.out (by decide) (by decide)).mono ?_
    rw [HV.out]
    rintro e w1 ⟨rfl, hb1⟩
    have X1 := Lib.hid (X0.out.below hb1)
    have B1 := Lib.hid (B0.out.trans (hb1.mono B0.out.size))
    clear hb1
    go_wp2_with fail
    go_region_held3 (fun w' => w'.cell? ⟨w.heap.size, x, none⟩ = some (.string (tx M)) ∧ w'.cell? ⟨w.heap.size, y, none⟩ = some (.string (tx N))) (first | (have h := suf_rd X1 CX CY; exact h) | (have h := suf_rd X2 CX CY; exact h) | (have h := suf_rd X3 CX CY; exact h) | fail) (first
      | (go_at_call 11; refine (awake6_c _).mono ?_; rintro e w2 ⟨rfl, hb2⟩; have hc2 := below_d hb2.out; have X2 := Lib.hid (X1.out.below hc2); have B2 := Lib.hid (B1.out.trans (hc2.mono B1.out.size)); clear hb2 hc2)
      | (go_at_call 15; refine (Compare_c _ _ _ S1.out S2.out _ HC.out).mono ?_; rintro e w3 ⟨rfl, hb3⟩; have X3 := Lib.hid (X2.out.below hb3.out); have B3 := Lib.hid (B2.out.trans (hb3.out.mono B2.out.size)); clear hb3))
    all_goals (go_wp2_with fail; go_ret)
    all_goals exact ⟨rfl, B3.out⟩
  · subst h1
    obtain rfl : M = N := (by have h := CX.out.symm.trans CY.out; injection h with h; injection h with h; exact tx_inj h)
    go_enter Tryd.func7, Tryd.ntmps7
    go_upto_region 3 with fail
    simp only [HX.out.1, HX.out.2.1]
    go_wp2_with fail
    simp only [HX.out.2.2]
    go_wp2_with fail
    simp only [HZ.out]
    refine (Digits_c 9 (1 + z) _ hz9.out (by decide) (by decide)).mono ?_
    rw [HV.out]
    rintro e w1 ⟨rfl, hb1⟩
    have X1 := Lib.hid (X0.out.below hb1)
    have B1 := Lib.hid (B0.out.trans (hb1.mono B0.out.size))
    clear hb1
    go_wp2_with fail
    go_region_held3 (fun w' => w'.cell? ⟨w.heap.size, x, none⟩ = some (.string (tx M)) ∧ w'.cell? ⟨w.heap.size, x, none⟩ = some (.string (tx M))) (first | (have h := suf_rd X1 CX CY; exact h) | (have h := suf_rd X2 CX CY; exact h) | (have h := suf_rd X3 CX CY; exact h) | fail) (first
      | (go_at_call 11; refine (awake6_c _).mono ?_; rintro e w2 ⟨rfl, hb2⟩; have hc2 := below_d hb2.out; have X2 := Lib.hid (X1.out.below hc2); have B2 := Lib.hid (B1.out.trans (hc2.mono B1.out.size)); clear hb2 hc2)
      | (go_at_call 15; refine (Compare_c _ _ _ S1.out S2.out _ HC.out).mono ?_; rintro e w3 ⟨rfl, hb3⟩; have X3 := Lib.hid (X2.out.below hb3.out); have B3 := Lib.hid (B2.out.trans (hb3.out.mono B2.out.size)); clear hb3))
    all_goals (go_wp2_with fail; go_ret)
    all_goals exact ⟨rfl, B3.out⟩
  · go_enter Tryd.func7, Tryd.ntmps7
    go_upto_region 3 with fail
    simp only [HX.out.1, HX.out.2.1]
    go_wp2_with fail
    simp only [HX.out.2.2]
    go_wp2_with fail
    simp only [HZ.out]
    refine (Digits_c 9 (1 + z) _ hz9.out (by decide) (by decide)).mono ?_
    rw [HV.out]
    rintro e w1 ⟨rfl, hb1⟩
    have X1 := Lib.hid (X0.out.below hb1)
    have B1 := Lib.hid (B0.out.trans (hb1.mono B0.out.size))
    clear hb1
    go_wp2_with fail
    go_region_held3 (fun w' => w'.cell? ⟨w.heap.size, x, none⟩ = some (.string (tx M)) ∧ w'.cell? ⟨w.heap.size, y, none⟩ = some (.string (tx N))) (first | (have h := suf_rd X1 CX CY; exact h) | (have h := suf_rd X2 CX CY; exact h) | (have h := suf_rd X3 CX CY; exact h) | fail) (first
      | (go_at_call 11; refine (awake6_c _).mono ?_; rintro e w2 ⟨rfl, hb2⟩; have hc2 := below_d hb2.out; have X2 := Lib.hid (X1.out.below hc2); have B2 := Lib.hid (B1.out.trans (hc2.mono B1.out.size)); clear hb2 hc2)
      | (go_at_call 15; refine (Compare_c _ _ _ S1.out S2.out _ HC.out).mono ?_; rintro e w3 ⟨rfl, hb3⟩; have X3 := Lib.hid (X2.out.below hb3.out); have B3 := Lib.hid (B2.out.trans (hb3.out.mono B2.out.size)); clear hb3))
    all_goals (go_wp2_with fail; go_ret)
    all_goals exact ⟨rfl, B3.out⟩
end Go.Proofs.YtkknhkfpabcjoaaDoor
