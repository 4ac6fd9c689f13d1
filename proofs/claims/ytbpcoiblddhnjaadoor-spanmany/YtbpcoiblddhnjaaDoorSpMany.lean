/-
  The walk of SpanMany.
-/
import Derived.Test.YtbpcoiblddhnjaaDoorSpAwake
import Derived.Test.YtbpcoiblddhnjaaDoorSpEdges
namespace Nwl
open Go
/-- the spans of SpanMany -/
def mS (n : Nat) : List Sp := (List.range n).map fun i => nSp (3 * i + 1) (3 * i + 2) true true
theorem mS_succ (n : Nat) : mS (n + 1) = mS n ++ [nSp (3 * n + 1) (3 * n + 2) true true] := by
  unfold mS
  rw [List.range_succ, List.map_append]; rfl
theorem mS_len (n : Nat) : (mS n).length = n := by simp [mS]
/-- what stands ahead of the next one -/
def preT (k : Nat) : List UInt8 := if k = 0 then [] else rangeL (mS k) ++ [44]
theorem mS_text (k : Nat) (hk : 3 * k + 2 < 10 ^ 9) : rangeL (mS (k + 1)) = preT k ++ [91] ++ decF 9 (3 * k + 1) ++ [44] ++ decF 9 (3 * k + 2) ++ [93] := by
  have h := rangeL_nSp (3 * k + 1) (3 * k + 2) true true (by omega) (by omega) (by omega)
  rw [rangeL_one] at h
  simp only [if_true] at h
  unfold preT
  by_cases h0 : k = 0
  · subst h0
    rw [if_pos rfl]
    show rangeL [nSp (3 * 0 + 1) (3 * 0 + 2) true true] = _
    rw [rangeL_one, h]
    simp
  · rw [if_neg h0, mS_succ, rangeL_snoc _ _ (by intro e; have := congrArg List.length e; rw [mS_len] at this; simp at this; omega), h]
    simp
theorem mS_size : ∀ k, (rangeL (mS k)).length ≤ 22 * k
  | 0 => by simp [mS, rangeL, rangeT]
  | k + 1 => by
    have ih := mS_size k
    by_cases h0 : k = 0
    · subst h0
      show (rangeL [nSp (3 * 0 + 1) (3 * 0 + 2) true true]).length ≤ _
      rw [rangeL_one]
      have := spanL_len (nSp (3 * 0 + 1) (3 * 0 + 2) true true)
      have h1 := decF_le 9 (3 * 0 + 1)
      have h2 := decF_le 9 (3 * 0 + 2)
      unfold nSp at this ⊢
      dsimp only at this
      omega
    · rw [mS_succ, rangeL_snoc _ _ (by intro e; have := congrArg List.length e; rw [mS_len] at this; simp at this; omega)]
      have := spanL_len (nSp (3 * k + 1) (3 * k + 2) true true)
      have h1 := decF_le 9 (3 * k + 1)
      have h2 := decF_le 9 (3 * k + 2)
      rw [List.length_append, List.length_cons]
      have e : (nSp (3 * k + 1) (3 * k + 2) true true).lo.length + (nSp (3 * k + 1) (3 * k + 2) true true).hi.length ≤ 18 := by
        unfold nSp
        dsimp only
        omega
      omega
theorem mS_ascii : ∀ k, 3 * k + 2 < 10 ^ 9 → ∀ c ∈ rangeL (mS k), c.toNat < 128
  | 0, _, c, h => by simp [mS, rangeL, rangeT] at h
  | k + 1, hk, c, h => by
    have ih := mS_ascii k (by omega)
    rw [mS_text k (by omega)] at h
    simp only [List.mem_append, List.mem_singleton] at h
    rcases h with ((((h | rfl) | h) | rfl) | h) | rfl
    · unfold preT at h
      by_cases h0 : k = 0
      · rw [if_pos h0] at h; simp at h
      · rw [if_neg h0, List.mem_append, List.mem_singleton] at h
        rcases h with h | rfl
        · exact ih c h
        · decide
    · decide
    · exact nSp_ascii _ c h
    · decide
    · exact nSp_ascii _ c h
    · decide
theorem mS_yes : ∀ n, 17 ≤ n → n ≤ 20 → parseL (rangeL (mS n)) = some (mS n) := by
  intro n h1 h2
  have h : n = 17 ∨ n = 18 ∨ n = 19 ∨ n = 20 := by omega
  rcases h with rfl | rfl | rfl | rfl <;> decide +kernel
theorem mS_no : ∀ n, 20 < n → n ≤ 22 → parseL (rangeL (mS n)) = none := by
  intro n h1 h2
  have h : n = 21 ∨ n = 22 := by omega
  rcases h with rfl | rfl <;> decide +kernel
theorem mS_holds (n v : Nat) (hn : n ≤ 100) (hv : v < 10 ^ 9) : holdsB (mS n) (decF 9 v) = (decide (¬ v % 3 = 0) && decide (v < 3 * n)) := by
  rw [Bool.eq_iff_iff, Bool.and_eq_true, decide_eq_true_eq, decide_eq_true_eq]
  unfold holdsB mS
  rw [List.any_eq_true]
  constructor
  · rintro ⟨s, hs, hw⟩
    obtain ⟨i, hi, rfl⟩ := List.mem_map.1 hs
    have hi' := List.mem_range.1 hi
    rw [nSp_holds _ _ _ _ _ (by omega) (by omega) hv, Bool.and_eq_true, decide_eq_true_eq, decide_eq_true_eq] at hw
    omega
  · rintro ⟨h1, h2⟩
    refine ⟨_, List.mem_map.2 ⟨v / 3, List.mem_range.2 (by omega), rfl⟩, ?_⟩
    rw [nSp_holds _ _ _ _ _ (by omega) (by omega) hv, Bool.and_eq_true, decide_eq_true_eq, decide_eq_true_eq]
    simp only [and_true]
    omega
end Nwl
namespace Go.Proofs.YtbpcoiblddhnjaaDoor
open Nwl
open Go.RowKit Go.Maps
set_option linter.unusedVariables false

set_option maxRecDepth 100000 in
set_option maxHeartbeats 4000000 in
theorem many_c (a v : Int) (w : World) (x z : Nat) (hx : wrap64 ((IntKind.u64.wrap a).tmod 6) = (x : Int)) (hz : wrap64 ((IntKind.u64.wrap v).tmod 60) = (z : Int)) (lx : x < 6) (lz : z < 60) :
    Calls Tryd.prog 7 #[.int .i64 a, .int .i64 v] w fun e w' => e = .returned (.bool true) ∧ Hid (Below w.heap.size w w') := by
  obtain ⟨N, hN⟩ : ∃ N, 17 + x = N := ⟨_, rfl⟩
  have hNI : (17 : Int) + (x : Int) = (N : Int) := by omega
  have hN1 : 17 ≤ N := by omega
  have hN2 : N ≤ 22 := by omega
  go_enter Tryd.func7, Tryd.ntmps7
  have HZ := Lib.hid hz
  clear hz
  go_wp2_with fail
  simp only [hx]
  clear hx
  go_loopw [5, 6] (fun sv iv wr => ∃ k : Nat, k ≤ N ∧ sv = .string (tx (rangeL (mS k))) ∧ iv = .int .i64 k ∧ Hid (Below w.heap.size w wr)) (fun _ iv _ => N - (intOf iv).toNat)
  case atStart => exact ⟨0, by omega, rfl, rfl, Lib.hid (Below.refl _ _)⟩
  case round =>
    obtain ⟨k, hk, rfl, rfl, hb⟩ := hrel
    by_cases hlt : k < N
    · have hlt2 : (k : Int) < 17 + (x : Int) := by omega
      obtain ⟨P, hP⟩ : ∃ P, preT k = P := ⟨_, rfl⟩
      obtain ⟨R, hR⟩ : ∃ P, rangeL (mS k) = P := ⟨_, rfl⟩
      obtain ⟨X, hX⟩ : ∃ X, decF 9 (3 * k + 1) = X := ⟨_, rfl⟩
      obtain ⟨Y, hY⟩ : ∃ X, decF 9 (3 * k + 2) = X := ⟨_, rfl⟩
      obtain ⟨S1, hS1⟩ : ∃ S, P ++ [91] = S := ⟨_, rfl⟩
      obtain ⟨S2, hS2⟩ : ∃ S, S1 ++ X = S := ⟨_, rfl⟩
      obtain ⟨S3, hS3⟩ : ∃ S, S2 ++ [44] = S := ⟨_, rfl⟩
      obtain ⟨S4, hS4⟩ : ∃ S, S3 ++ Y = S := ⟨_, rfl⟩
      obtain ⟨S5, hS5⟩ : ∃ S, S4 ++ [93] = S := ⟨_, rfl⟩
      have e1 : tx P ++ (⟨#[91]⟩ : ByteArray) = tx S1 := by rw [← hS1]; exact txA _ [91]
      have e2 : tx S1 ++ tx X = tx S2 := by rw [← hS2]; exact txA _ _
      have e3 : tx S2 ++ (⟨#[44]⟩ : ByteArray) = tx S3 := by rw [← hS3]; exact txA _ [44]
      have e4 : tx S3 ++ tx Y = tx S4 := by rw [← hS4]; exact txA _ _
      have e5 : tx S4 ++ (⟨#[93]⟩ : ByteArray) = tx S5 := by rw [← hS5]; exact txA _ [93]
      have lR : R.length ≤ 484 := by rw [← hR]; have := mS_size k; omega
      have lP : P.length ≤ 485 := by
        rw [← hP]
        unfold preT
        split
        · simp
        · rw [hR, List.length_append, List.length_singleton]; omega
      have l1 : X.length ≤ 9 := by rw [← hX]; exact decF_le 9 _
      have l2 : Y.length ≤ 9 := by rw [← hY]; exact decF_le 9 _
      have s0 : (tx R).size ≤ 484 := by rw [tx_size]; exact lR
      have s1 : (tx P).size ≤ 485 := by rw [tx_size]; exact lP
      have s2 : (tx X).size ≤ 9 := by rw [tx_size]; exact l1
      have s3 : (tx Y).size ≤ 9 := by rw [tx_size]; exact l2
      have s4 : (tx S1).size ≤ 486 := by rw [tx_size, ← hS1]; simp; omega
      have s5 : (tx S2).size ≤ 495 := by rw [tx_size, ← hS2, ← hS1]; simp; omega
      have s6 : (tx S3).size ≤ 496 := by rw [tx_size, ← hS3, ← hS2, ← hS1]; simp; omega
      have s7 : (tx S4).size ≤ 505 := by rw [tx_size, ← hS4, ← hS3, ← hS2, ← hS1]; simp; omega
      have HP : Hid (k = 0 → tx R = tx P) := Lib.hid fun h => by
        rw [← hP, ← hR, h]; rfl
      have HP2 : Hid (¬ k = 0 → tx R ++ (⟨#[44]⟩ : ByteArray) = tx P) := Lib.hid fun h => by
        rw [← hP, ← hR]
        unfold preT
        rw [if_neg h]
        exact txA _ [44]
      have HU : Hid (tx (rangeL (mS (k + 1))) = tx S5) := Lib.hid (by
        rw [mS_text k (by omega), hP, hX, hY, hS1, hS2, hS3, hS4, hS5])
      have HDX := Lib.hid (fun w => hX ▸ Digits_c 9 (3 * k + 1) w (by omega) (by decide) (by decide))
      have HDY := Lib.hid (fun w => hY ▸ Digits_c 9 (3 * k + 2) w (by omega) (by decide) (by decide))
      rw [hR]
      clear hP hR hX hY hS1 hS2 hS3 hS4 hS5 lR lP l1 l2
      go_upto_if 20 with fail
      go_cut [5] from 14 to 36 (fun v wx => v = .string (tx P) ∧ wx = wr)
      case first =>
        by_cases h0 : k = 0
        · have hn : ¬ 0 < k := by omega
          have hq := HP.out h0
          clear h0
          go_wp2_with fail
          go_meet
          exact ⟨by first | rfl | rw [hq], rfl⟩
        · have hn : 0 < k := by omega
          have hq := HP2.out h0
          clear h0
          go_wp2_with fail
          go_meet
          exact ⟨by first | rfl | rw [hq], rfl⟩
      case rest =>
      obtain ⟨rfl, rfl⟩ := hcut
      go_wp2_with fail
      refine (HDX.out _).mono ?_
      rintro e w1 ⟨rfl, b1⟩
      have B1 := Lib.hid (hb.out.trans (b1.mono hb.out.size))
      clear b1 hb
      go_wp2_with fail
      refine (HDY.out _).mono ?_
      rintro e w2 ⟨rfl, b2⟩
      have B2 := Lib.hid (B1.out.trans (b2.mono B1.out.size))
      clear b2 B1
      go_wp2_with fail
      go_roundw
      case rel => exact ⟨k + 1, by omega, by rw [HU.out], by go_num, B2⟩
      case measure => simp [intOf]; omega
    · have hlt2 : ¬ (k : Int) < 17 + (x : Int) := by omega
      obtain rfl : k = N := by omega
      obtain ⟨R, hR⟩ : ∃ P, rangeL (mS k) = P := ⟨_, rfl⟩
      have lR : (tx R).size ≤ 484 := by rw [tx_size, ← hR]; have := mS_size k; omega
      have HA : Hid (∀ c ∈ bs (tx R), c.toNat < 128) := Lib.hid (by rw [bs_tx, ← hR]; exact mS_ascii k (by omega))
      rw [hR]
      by_cases h20 : 20 < k
      · have HP : Hid (parseL (bs (tx R)) = none) := Lib.hid (by rw [bs_tx, ← hR]; exact mS_no k h20 hN2)
        have hi20 : (20 : Int) < 17 + (x : Int) := by omega
        clear hR hlt hlt2 hN1
        go_wp2_with fail
        refine (Parse_no _ _ (by omega) HA.out HP.out).mono ?_
        rintro e w1 ⟨rfl, b1⟩
        have B1 := Lib.hid (hb.out.trans (b1.out.mono hb.out.size))
        clear b1
        go_wp2_with fail
        refine (awake7_c _).mono ?_
        rintro e w2 ⟨rfl, b2⟩
        have B2 := Lib.hid (B1.out.trans (b2.out.mono B1.out.size))
        go_wp2_with fail
        go_ret
        exact ⟨rfl, B2⟩
      · have HP : Hid (parseL (bs (tx R)) = some (mS k)) := Lib.hid (by rw [bs_tx, ← hR]; exact mS_yes k hN1 (by omega))
        have HT : Hid (rangeL (mS k) = R) := Lib.hid hR
        obtain ⟨V, hV⟩ : ∃ X, decF 9 z = X := ⟨_, rfl⟩
        have HDV := Lib.hid (fun w => hV ▸ Digits_c 9 z w (by omega) (by decide) (by decide))
        have lV : (tx V).size ≤ 9 := by rw [tx_size, ← hV]; exact decF_le 9 _
        obtain ⟨F, hF⟩ : ∃ F, (decide (¬ z % 3 = 0) && decide (z < 3 * k)) = F := ⟨_, rfl⟩
        have HH : Hid (holdsB (mS k) (bs (tx V)) = F) := Lib.hid (by rw [bs_tx, ← hV, mS_holds k z (by omega) (by omega), hF])
        have HFF := Lib.hid hF
        have hz := HZ.out
        have htl : (tx R).toList = R := by rw [toList_bs]; rfl
        clear hR hlt hlt2 hV hF
        go_wp2_with fail
        refine (Parse_yes _ _ (by omega) HA.out _ HP.out k (mS_len k)).mono ?_
        rintro e w1 ⟨A1, c1, rfl, h1, b1⟩
        have B1 := Lib.hid (hb.out.trans (b1.out.mono hb.out.size))
        clear b1
        go_wp2_with fail
        refine (awake7_c _).mono ?_
        rintro e w2 ⟨rfl, b2⟩
        have B2 := Lib.hid (B1.out.trans (b2.out.mono B1.out.size))
        have R2 := Lib.hid (h1.out.1.below b2.out)
        have K2 := Lib.hid b2.out.size
        clear b2
        go_wp2_with fail
        refine (Text_c A1 k c1 (mS k) w2 _ K2.out R2.out (by omega) h1.out.2.1 _ HT.out).mono ?_
        rintro e w3 ⟨rfl, b3⟩
        have B3 := Lib.hid (B2.out.trans (b3.out.mono B2.out.size))
        have R3 := Lib.hid (R2.out.below (b3.out.mono K2.out))
        have K3 := Lib.hid (Nat.le_trans K2.out b3.out.size)
        clear b3
        go_wp2_with fail
        refine (HDV.out _).mono ?_
        rintro e w4 ⟨rfl, b4⟩
        have B4 := Lib.hid (B3.out.trans (b4.mono B3.out.size))
        have R4 := Lib.hid (R3.out.below (b4.mono K3.out))
        have K4 := Lib.hid (Nat.le_trans K3.out b4.size)
        clear b4
        go_wp2_with fail
        refine (Holds_c A1 k c1 (mS k) (tx V) w4 _ K4.out R4.out (by omega) h1.out.2.1 (by omega) F HH.out).mono ?_
        rintro e w5 ⟨rfl, b5⟩
        have B5 := Lib.hid (B4.out.trans (b5.out.mono B4.out.size))
        by_cases hm : z % 3 = 0
        · have hf : F = false := by rw [← HFF.out, Bool.and_eq_false_iff]; left; exact decide_eq_false (by omega)
          subst hf
          have ht : ((z : Int) % 3 != 0) = false := by rw [bne_eq_false_iff_eq]; omega
          go_wp2_with fail
          go_ret
          exact ⟨rfl, B5⟩
        · have ht : ((z : Int) % 3 != 0) = true := by rw [bne_iff_ne]; omega
          by_cases hl : z < 3 * k
          · have hf : F = true := by rw [← HFF.out, Bool.and_eq_true]; exact ⟨decide_eq_true hm, decide_eq_true hl⟩
            subst hf
            have hl2 : (z : Int) < 3 * (k : Int) := by omega
            go_wp2_with fail
            go_ret
            exact ⟨rfl, B5⟩
          · have hf : F = false := by rw [← HFF.out, Bool.and_eq_false_iff]; right; exact decide_eq_false hl
            subst hf
            have hl2 : ¬ (z : Int) < 3 * (k : Int) := by omega
            go_wp2_with fail
            go_ret
            have hl3 : decide ((z : Int) < 3 * (k : Int)) = false := decide_eq_false (by omega)
            exact ⟨by show Ending.returned (.bool (!decide ((z : Int) < 3 * (k : Int)))) = _; rw [hl3]; rfl, B5⟩

theorem SpanMany_walk (a v : Int) (w : World) (ha : (Lit.int .i64 a).wf = true) (hv : (Lit.int .i64 v).wf = true) (hg : Glob w) :
    Calls Tryd.prog 7 #[.int .i64 a, .int .i64 v] w fun e w' => e = .returned (.bool true) ∧ Below w.heap.size w w' := by
  obtain ⟨x, hx, lx⟩ := idxN a 6 (by decide) (by decide)
  obtain ⟨z, hz, lz⟩ := idxN v 60 (by decide) (by decide)
  exact (many_c a v w x z hx hz (by omega) (by omega)).mono fun e w' h => ⟨h.1, h.2.out⟩
end Go.Proofs.YtbpcoiblddhnjaaDoor
