/-
  awake, and the law of the kinds of bytes.
-/
import Derived.Test.YthbeeojpdcaimaaChRefLower
namespace Go.Proofs.Ythbeeojpdcaimaa
open Nwl
open Go.RowKit

set_option maxHeartbeats 400000 in
theorem awake_c (w : World) :
    Calls Try.prog 8 #[] w fun e w' => e = .returned (.bool true) ∧ Below w.heap.size w w' := by
  have e1 : trimB ⟨#[32, 97, 32]⟩ = ⟨#[97]⟩ := by decide
  have e2 : nameB ⟨#[97, 45, 98]⟩ = true := by decide
  have e3 : lowerB ⟨#[65, 98]⟩ = ⟨#[97, 98]⟩ := by decide
  have e4 : spaceI 32 = true := by decide
  go_enter Try.func8, Try.ntmps8
  go_wp2_with (first
    | (go_at_call 17; refine (Trim_c _ _ (by decide)).mono ?_; rintro e w' ⟨rfl, rfl⟩)
    | (go_at_call 15; refine (Name_c _ _ (by decide)).mono ?_; rintro e w' ⟨rfl, rfl⟩)
    | (go_at_call 19; refine (Lower_c _ _ (by decide)).mono ?_; rintro e w1 ⟨rfl, hb⟩)
    | (go_at_call 9; refine (Space_c _ _).mono ?_; rintro e w' ⟨rfl, rfl⟩))
  go_ret
  exact ⟨rfl, hb⟩

def cntI (p : Int → Bool) (a : Int) (k : Nat) : Nat := ((List.range k).filter fun j : Nat => p ((a + (j : Int)) % 256)).length
theorem cntI_le (p : Int → Bool) (a : Int) (k : Nat) : cntI p a k ≤ k := by
  unfold cntI
  have := List.length_filter_le (fun j : Nat => p ((a + (j : Int)) % 256)) (List.range k)
  simpa using this

theorem cntI_yes (p : Int → Bool) (a : Int) (k : Nat) (h : p ((a + (k : Int)) % 256) = true) : cntI p a (k + 1) = cntI p a k + 1 := by
  simp [cntI, List.range_succ, List.filter_append, h]
theorem cntI_no (p : Int → Bool) (a : Int) (k : Nat) (h : p ((a + (k : Int)) % 256) = false) : cntI p a (k + 1) = cntI p a k := by
  simp [cntI, List.range_succ, List.filter_append, h]
def noneI (c : Int) : Bool := !allowedI c
theorem cnt_all : ∀ n : Nat, n < 256 → cntI spaceI (n : Int) 256 = 4 ∧ cntI digitI (n : Int) 256 = 10 ∧ cntI noneI (n : Int) 256 = 29 := by decide +kernel
theorem kinds4 (c : Int) : (spaceI c = true ∧ digitI c = false ∧ allowedI c = true) ∨ (spaceI c = false ∧ digitI c = true ∧ allowedI c = true) ∨
    (spaceI c = false ∧ digitI c = false ∧ allowedI c = true) ∨ (spaceI c = false ∧ digitI c = false ∧ allowedI c = false) := by
  cases hs : spaceI c with
  | true =>
    refine .inl ⟨rfl, ?_, by simp [allowedI, hs]⟩
    simp [spaceI] at hs
    simp [digitI]
    omega
  | false =>
    cases hd : digitI c with
    | true =>
      refine .inr (.inl ⟨rfl, rfl, ?_⟩)
      simp [digitI] at hd
      simp [allowedI, hs]
      omega
    | false => cases ha : allowedI c <;> simp

set_option maxRecDepth 100000 in
set_option maxHeartbeats 400000 in
theorem CharsKinds_walk (a : Int) (w : World) (ha : (Lit.int .u8 a).wf = true) :
    Calls Try.prog 6 #[.int .u8 a] w fun e w' => e = .returned (.bool true) ∧ Below w.heap.size w w' := by
  have hx : 0 ≤ a ∧ a ≤ 255 := by simpa [Lit.wf, IntKind.min, IntKind.max, IntKind.signed, IntKind.bits] using ha
  obtain ⟨hx0, hx1⟩ := hx
  clear ha
  go_enter Try.func6, Try.ntmps6
  go_wp2
  go_loop [3, 4, 5, 6] (fun s d n i => ∃ k : Nat, k ≤ 256 ∧ i = .int .i64 k ∧ s = .int .i64 (cntI spaceI a k) ∧ d = .int .i64 (cntI digitI a k) ∧ n = .int .i64 (cntI noneI a k)) (fun _ _ _ i => 256 - (intOf i).toNat)
  case atStart => exact ⟨0, by omega, rfl, rfl, rfl, rfl⟩
  case round =>
    obtain ⟨k, hk, rfl, rfl, rfl, rfl⟩ := hrel
    have l1 := cntI_le spaceI a k
    have l2 := cntI_le digitI a k
    have l3 := cntI_le noneI a k
    by_cases hlt : k < 256
    · rcases kinds4 ((a + (k : Int)) % 256) with ⟨h1, h2, h3⟩ | ⟨h1, h2, h3⟩ | ⟨h1, h2, h3⟩ | ⟨h1, h2, h3⟩
      · have r1 : Hid (cntI spaceI a (k + 1) = cntI spaceI a k + 1) := Lib.hid (cntI_yes _ _ _ h1)
        have r2 : Hid (cntI digitI a (k + 1) = cntI digitI a k) := Lib.hid (cntI_no _ _ _ h2)
        have r3 : Hid (cntI noneI a (k + 1) = cntI noneI a k) := Lib.hid (cntI_no _ _ _ (by simp [noneI, h3]))
        go_wp2_with (first | (go_at_call 9; refine (Space_c _ _).mono ?_; rintro e w' ⟨rfl, rfl⟩) | (go_at_call 13; refine (Digit_c _ _).mono ?_; rintro e w' ⟨rfl, rfl⟩) | (go_at_call 11; refine (Allowed_c _ _).mono ?_; rintro e w' ⟨rfl, rfl⟩))
        go_round
        case rel => exact ⟨k + 1, by omega, by go_num, by rw [r1.out]; go_num, by rw [r2.out], by rw [r3.out]⟩
        case measure => simp [intOf]; omega
      · have r1 : Hid (cntI spaceI a (k + 1) = cntI spaceI a k) := Lib.hid (cntI_no _ _ _ h1)
        have r2 : Hid (cntI digitI a (k + 1) = cntI digitI a k + 1) := Lib.hid (cntI_yes _ _ _ h2)
        have r3 : Hid (cntI noneI a (k + 1) = cntI noneI a k) := Lib.hid (cntI_no _ _ _ (by simp [noneI, h3]))
        go_wp2_with (first | (go_at_call 9; refine (Space_c _ _).mono ?_; rintro e w' ⟨rfl, rfl⟩) | (go_at_call 13; refine (Digit_c _ _).mono ?_; rintro e w' ⟨rfl, rfl⟩) | (go_at_call 11; refine (Allowed_c _ _).mono ?_; rintro e w' ⟨rfl, rfl⟩))
        go_round
        case rel => exact ⟨k + 1, by omega, by go_num, by rw [r1.out], by rw [r2.out]; go_num, by rw [r3.out]⟩
        case measure => simp [intOf]; omega
      · have r1 : Hid (cntI spaceI a (k + 1) = cntI spaceI a k) := Lib.hid (cntI_no _ _ _ h1)
        have r2 : Hid (cntI digitI a (k + 1) = cntI digitI a k) := Lib.hid (cntI_no _ _ _ h2)
        have r3 : Hid (cntI noneI a (k + 1) = cntI noneI a k) := Lib.hid (cntI_no _ _ _ (by simp [noneI, h3]))
        go_wp2_with (first | (go_at_call 9; refine (Space_c _ _).mono ?_; rintro e w' ⟨rfl, rfl⟩) | (go_at_call 13; refine (Digit_c _ _).mono ?_; rintro e w' ⟨rfl, rfl⟩) | (go_at_call 11; refine (Allowed_c _ _).mono ?_; rintro e w' ⟨rfl, rfl⟩))
        go_round
        case rel => exact ⟨k + 1, by omega, by go_num, by rw [r1.out], by rw [r2.out], by rw [r3.out]⟩
        case measure => simp [intOf]; omega
      · have r1 : Hid (cntI spaceI a (k + 1) = cntI spaceI a k) := Lib.hid (cntI_no _ _ _ h1)
        have r2 : Hid (cntI digitI a (k + 1) = cntI digitI a k) := Lib.hid (cntI_no _ _ _ h2)
        have r3 : Hid (cntI noneI a (k + 1) = cntI noneI a k + 1) := Lib.hid (cntI_yes _ _ _ (by simp [noneI, h3]))
        go_wp2_with (first | (go_at_call 9; refine (Space_c _ _).mono ?_; rintro e w' ⟨rfl, rfl⟩) | (go_at_call 13; refine (Digit_c _ _).mono ?_; rintro e w' ⟨rfl, rfl⟩) | (go_at_call 11; refine (Allowed_c _ _).mono ?_; rintro e w' ⟨rfl, rfl⟩))
        go_round
        case rel => exact ⟨k + 1, by omega, by go_num, by rw [r1.out], by rw [r2.out], by rw [r3.out]; go_num⟩
        case measure => simp [intOf]; omega
    · obtain rfl : k = 256 := by omega
      obtain ⟨n, rfl⟩ : ∃ n : Nat, a = n := ⟨a.toNat, by omega⟩
      obtain ⟨c1, c2, c3⟩ := cnt_all n (by omega)
      have d1 : ((cntI spaceI n 256 : Int) == 4) = true := by rw [c1]; rfl
      have d2 : ((cntI digitI n 256 : Int) == 10) = true := by rw [c2]; rfl
      have d3 : ((cntI noneI n 256 : Int) == 29) = true := by rw [c3]; rfl
      clear c1 c2 c3
      go_wp2_with (go_at_call 8; refine (awake_c _).mono ?_; rintro e w' ⟨rfl, hb⟩)
      go_ret
      exact ⟨rfl, hb⟩

end Go.Proofs.Ythbeeojpdcaimaa
