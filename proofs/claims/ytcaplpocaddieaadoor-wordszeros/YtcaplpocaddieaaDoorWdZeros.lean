/-
  The walk of WordsZeros.
-/
import Derived.Test.YtcaplpocaddieaaDoorWdAwake
import Derived.Test.YtcaplpocaddieaaDoorWdParts
import Derived.Test.YtcaplpocaddieaaDoorGnRow
namespace Nwl
theorem moreN_len (i : Nat) (h : i < 9) : (moreN i).length ≤ 8 := by
  match i, h with
  | 0, _ | 1, _ | 2, _ | 3, _ | 4, _ | 5, _ | 6, _ | 7, _ | 8, _ => decide
  | i + 9, h => omega
end Nwl
namespace Go.Proofs.YtcaplpocaddieaaDoor
open Nwl
open Go.RowKit Go.Maps
set_option linter.unusedVariables false

/-- the texts that mean nothing -/
abbrev moreC : Array Value := #[.string ⟨#[46, 48]⟩, .string ⟨#[45, 48]⟩, .string ⟨#[46, 48, 46, 48]⟩, .string ⟨#[45, 103, 97]⟩, .string ⟨#[46, 102, 105, 110, 97, 108]⟩, .string ⟨#[45, 114, 101, 108, 101, 97, 115, 101]⟩, .string ⟨#[45, 71, 65, 46, 48]⟩, .string ⟨#[46, 48, 48]⟩, .string ⟨#[45, 48, 45, 103, 97]⟩]
theorem moreC_at (i : Nat) (h : i < 9) : moreC[i]? = some (.string (tx (moreN i))) := by
  match i, h with
  | 0, _ | 1, _ | 2, _ | 3, _ | 4, _ | 5, _ | 6, _ | 7, _ | 8, _ => rfl
  | i + 9, h => omega

set_option maxRecDepth 100000 in
set_option maxHeartbeats 2000000 in
theorem WordsZeros_walk (a b c : Int) (w : World) (ha : (Lit.int .i64 a).wf = true) (hb : (Lit.int .i64 b).wf = true) (hc : (Lit.int .i64 c).wf = true) (hg : Glob w) :
    Calls Tryd.prog 5 #[.int .i64 a, .int .i64 b, .int .i64 c] w fun e w' => e = .returned (.bool true) ∧ Below w.heap.size w w' := by
  obtain ⟨x, hx, hx1⟩ := idxN a 1000 (by decide) (by decide)
  obtain ⟨y, hy, hy1⟩ := idxN b 1000 (by decide) (by decide)
  obtain ⟨z, hz, hz1⟩ := idxN c 9 (by decide) (by decide)
  clear ha hb hc hg
  obtain ⟨A, hA⟩ : ∃ A, decF 9 x = A := ⟨_, rfl⟩
  obtain ⟨B, hB⟩ : ∃ B, decF 9 y = B := ⟨_, rfl⟩
  have HA := Lib.hid hA
  have HB := Lib.hid hB
  have lA := decF_le 9 x
  have lB := decF_le 9 y
  have nA := decF_ne 9 x (by decide)
  have nB := decF_ne 9 y (by decide)
  have dA := dec_dig8 9 x
  have dB := dec_dig8 9 y
  rw [hA] at lA nA dA
  rw [hB] at lB nB dB
  obtain ⟨V, hV⟩ : ∃ V, A ++ [46] ++ B = V := ⟨_, rfl⟩
  have HM : Hid (splitW (bs (tx (V ++ moreN z))) = splitW V) := Lib.hid (by rw [bs_tx, ← hV]; exact zeros_more A B z (by omega) nA nB dA dB)
  have HZ : Hid (splitW (bs (tx ([48] ++ V))) = splitW V) := Lib.hid (by rw [bs_tx, ← hV]; exact zeros_ahead A B nA nB dA dB)
  have lV : V.length ≤ 19 := by rw [← hV]; simp; omega
  have lM := moreN_len z (by omega)
  have HS : Hid ((splitW V).length ≤ 20) := Lib.hid (by have := splitW_len V; omega)
  have s1 : (tx A).size ≤ 9 := by rw [tx_size]; exact lA
  have s2 : (tx (A ++ [46])).size ≤ 10 := by rw [tx_size]; simp; omega
  have s3 : (tx B).size ≤ 9 := by rw [tx_size]; exact lB
  have s4 : (tx V).size ≤ 19 := by rw [tx_size]; exact lV
  have s5 : (tx (moreN z)).size ≤ 8 := by rw [tx_size]; exact lM
  have S6 : Hid ((tx (V ++ moreN z)).size ≤ 100000) := Lib.hid (by rw [tx_size]; simp; omega)
  have S7 : Hid ((tx ([48] ++ V)).size ≤ 100000) := Lib.hid (by rw [tx_size]; simp; omega)
  have c1 : tx A ++ ⟨#[46]⟩ = tx (A ++ [46]) := txA A [46]
  have c2 : tx (A ++ [46]) ++ tx B = tx V := by rw [txA, hV]
  have c3 : tx V ++ tx (moreN z) = tx (V ++ moreN z) := txA _ _
  have c4 : (⟨#[48]⟩ : ByteArray) ++ tx V = tx ([48] ++ V) := txA [48] V
  clear hA hB nA nB dA dB lA lB hV lV lM
  have hz9 : z < 9 := by omega
  have MC := Lib.hid (moreC_at z hz9)
  generalize moreN z = M at *
  have HV : Hid (splitW (bs (tx V)) = splitW V) := Lib.hid (by rw [bs_tx])
  have S4 : Hid ((tx V).size ≤ 100000) := Lib.hid (by omega)
  obtain ⟨F, hF⟩ : ∃ F, splitW V = F := ⟨_, rfl⟩
  rw [hF] at HM HZ HS HV
  clear hF
  obtain ⟨n, hn⟩ : ∃ n, F.length = n := ⟨_, rfl⟩
  have HN := Lib.hid hn
  rw [hn] at HS
  have hn20 := HS.out
  clear hn HS
  go_enter Tryd.func5, Tryd.ntmps5
  go_wp2_with fail
  simp only [hx, hy]
  clear hx hy
  refine (Digits_c 9 x _ (by omega) (by decide) (by decide)).mono ?_
  rw [HA.out]
  rintro e w1 ⟨rfl, hb1⟩
  have B1 := Lib.hid hb1
  clear hb1
  go_wp2_with fail
  refine (Digits_c 9 y _ (by omega) (by decide) (by decide)).mono ?_
  rw [HB.out]
  rintro e w2 ⟨rfl, hb2⟩
  have B2 := Lib.hid (B1.out.trans (hb2.mono B1.out.size))
  clear hb2 B1
  go_wp2_with fail
  refine (awake5_c _).mono ?_
  rintro e w3 ⟨rfl, hb3⟩
  have C3 := ((Blk.new w2 9 moreC).below hb3.out).cell z
  rw [MC.out] at C3
  have B3 := Lib.hid ((B2.out.alloc B2.out.size _).trans (hb3.out.mono (by have := B2.out.size; simp; omega)))
  clear hb3 B2
  go_wp2_with fail
  refine (Split_b (tx (V ++ M)) _ S6.out F HM.out n HN.out).mono ?_
  rintro e w4 ⟨A4, k4, rfl, R4, hb4⟩
  have B4 := Lib.hid (B3.out.trans (hb4.out.mono B3.out.size))
  clear hb4 B3 C3
  go_wp2_with fail
  refine (Split_b (tx V) _ S4.out F HV.out n HN.out).mono ?_
  rintro e w5 ⟨A5, k5, rfl, R5, hb5⟩
  have R45 := Lib.hid (R4.out.below hb5.out)
  have Z45 := hb5.out.size
  have B5 := Lib.hid (B4.out.trans (hb5.out.mono B4.out.size))
  clear hb5 B4 R4
  go_wp2_with fail
  refine (Plain_b A4 A5 n n k4 k5 F F _ w4.heap.size w5.heap.size R45.out Z45 R5.out (Nat.le_refl _) (by omega) (by omega) true (by simp)).mono ?_
  rintro e w6 ⟨rfl, hb6⟩
  have B6 := Lib.hid (B5.out.trans (hb6.out.mono B5.out.size))
  clear hb6 B5 R5 R45
  go_wp2_with fail
  refine (Split_b (tx ([48] ++ V)) _ S7.out F HZ.out n HN.out).mono ?_
  rintro e w7 ⟨A7, k7, rfl, R7, hb7⟩
  have B7 := Lib.hid (B6.out.trans (hb7.out.mono B6.out.size))
  clear hb7 B6
  go_wp2_with fail
  refine (Split_b (tx V) _ S4.out F HV.out n HN.out).mono ?_
  rintro e w8 ⟨A8, k8, rfl, R8, hb8⟩
  have R78 := Lib.hid (R7.out.below hb8.out)
  have Z78 := hb8.out.size
  have B8 := Lib.hid (B7.out.trans (hb8.out.mono B7.out.size))
  clear hb8 B7 R7
  go_wp2_with fail
  refine (Plain_b A7 A8 n n k7 k8 F F _ w7.heap.size w8.heap.size R78.out Z78 R8.out (Nat.le_refl _) (by omega) (by omega) true (by simp)).mono ?_
  rintro e w9 ⟨rfl, hb9⟩
  go_wp2_with fail
  go_ret
  exact ⟨rfl, B8.out.trans (hb9.out.mono B8.out.size)⟩
end Go.Proofs.YtcaplpocaddieaaDoor
