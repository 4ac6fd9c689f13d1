/-
  The document's text, one, Words, Compare (newelref05).
-/
import Derived.Test.YthmlggglemnfgaaDoorWb
import Derived.Test.YthmlggglemnfgaaDoorBe
namespace Nwl
open Go
theorem less_cb : ∀ x y : List UInt8, Op.bytesLess x y = (Lib.compareBytes x y == -1)
  | [], [] => rfl
  | _ :: _, [] => rfl
  | [], _ :: _ => rfl
  | a :: x, b :: y => by
    have ih := less_cb x y
    rw [Op.bytesLess, Lib.compareBytes, ih]
    simp only [UInt8.lt_iff_toNat_lt]
    by_cases h1 : a.toNat < b.toNat
    · rw [if_pos h1, decide_eq_true h1]; rfl
    · rw [if_neg h1, decide_eq_false h1, Bool.false_or]
      by_cases h2 : b.toNat < a.toNat
      · rw [if_pos h2]
        have : (a == b) = false := by rw [beq_eq_false_iff_ne]; rintro rfl; omega
        rw [this]; rfl
      · rw [if_neg h2]
        have : (a == b) = true := by rw [beq_iff_eq, ← UInt8.toNat_inj]; omega
        rw [this]; rfl
theorem eq_cb : ∀ x y : List UInt8, (x == y) = (Lib.compareBytes x y == 0)
  | [], [] => rfl
  | _ :: _, [] => rfl
  | [], _ :: _ => rfl
  | a :: x, b :: y => by
    have ih := eq_cb x y
    rw [List.cons_beq_cons, Lib.compareBytes, ih]
    simp only [UInt8.lt_iff_toNat_lt]
    by_cases h1 : a.toNat < b.toNat
    · rw [if_pos h1]
      have : (a == b) = false := by rw [beq_eq_false_iff_ne]; rintro rfl; omega
      rw [this]; rfl
    · rw [if_neg h1]
      by_cases h2 : b.toNat < a.toNat
      · rw [if_pos h2]
        have : (a == b) = false := by rw [beq_eq_false_iff_ne]; rintro rfl; omega
        rw [this]; rfl
      · rw [if_neg h2]
        have : (a == b) = true := by rw [beq_iff_eq, ← UInt8.toNat_inj]; omega
        rw [this]; rfl
end Nwl
namespace Go.Proofs.YthmlggglemnfgaaDoor
open Nwl
open Go.RowKit Go.Maps
set_option linter.unusedVariables false

set_option maxRecDepth 100000 in
theorem rtext_c (a b : ByteArray) (w : World) (r : Int) (hr : Lib.compareBytes (bs a) (bs b) = r) :
    Calls Tryd.prog 72 #[.string a, .string b] w fun e w' => e = .returned (.int .i64 r) ∧ w = w' := by
  have h1 := less_cb (bs a) (bs b)
  have h2 := eq_cb (bs a) (bs b)
  have h3 := cb_sgn (bs a) (bs b)
  rw [hr, ← toList_bs, ← toList_bs] at h1 h2
  rw [hr] at h3
  clear hr
  rcases h3 with rfl | rfl | rfl
  · have g1 : Op.bytesLess a.toList b.toList = true := h1.trans (by decide)
    have g2 : (a.toList == b.toList) = false := h2.trans (by decide)
    clear h1 h2
    go_enter Tryd.func72, Tryd.ntmps72
    go_wp2_with fail
    go_ret
    exact ⟨rfl, rfl⟩
  · have g1 : Op.bytesLess a.toList b.toList = false := h1.trans (by decide)
    have g2 : (a.toList == b.toList) = true := h2.trans (by decide)
    clear h1 h2
    go_enter Tryd.func72, Tryd.ntmps72
    go_wp2_with fail
    go_ret
    exact ⟨rfl, rfl⟩
  · have g1 : Op.bytesLess a.toList b.toList = false := h1.trans (by decide)
    have g2 : (a.toList == b.toList) = false := h2.trans (by decide)
    clear h1 h2
    go_enter Tryd.func72, Tryd.ntmps72
    go_wp2_with fail
    go_ret
    exact ⟨rfl, rfl⟩

set_option maxRecDepth 100000 in
set_option maxHeartbeats 1000000 in
theorem rone_c (a b : Wz) (w : World) (ha : a.t.length ≤ maxLen) (hb : b.t.length ≤ maxLen) (r : Int) (hr : cmpZ a b = r) :
    Calls Tryd.prog 64 #[wzV a, wzV b] w fun e w' => e = .returned (.int .i64 r) ∧ Hid (Below w.heap.size w w') := by
  have HB2 : Hid (Below w.heap.size w ((w.alloc (.cells #[.int .i64 a.k, .string (tx a.t)] 53)).alloc (.cells #[.int .i64 b.k, .string (tx b.t)] 53))) := Lib.hid (((Below.refl _ _).alloc (Nat.le_refl _) _).alloc (by simp) _)
  have sa : (tx a.t).size ≤ maxLen := by rw [tx_size]; assumption
  have sb : (tx b.t).size ≤ maxLen := by rw [tx_size]; assumption
  rcases Int.lt_trichotomy a.k b.k with hk | hk | hk
  · obtain rfl : -1 = r := by rw [← hr]; exact (cmpZ_kind a b (-1) (by unfold Lib.compareInt; rw [if_pos hk]) (by decide)).symm
    obtain ⟨ak, at'⟩ := a
    obtain ⟨bk, bt⟩ := b
    simp only at *
    have hd : decide (ak < bk) = true := decide_eq_true hk
    clear hr ha hb
    go_enter Tryd.func64, Tryd.ntmps64
    go_wp2_with fail
    go_ret
    exact ⟨rfl, HB2⟩
  · by_cases h8 : a.k = 8
    · have HC : Hid (Lib.compareBytes (bs (tx a.t)) (bs (tx b.t)) = r) := Lib.hid (by rw [← hr, keyT_8 a b hk h8]; rfl)
      obtain ⟨ak, at'⟩ := a
      obtain ⟨bk, bt⟩ := b
      simp only at *
      subst hk
      subst h8
      clear hr ha hb
      go_enter Tryd.func64, Tryd.ntmps64
      go_wp2_with fail
      refine (rtext_c _ _ _ r HC.out).mono ?_
      rintro e w' ⟨rfl, rfl⟩
      go_wp2_with fail
      go_ret
      exact ⟨rfl, HB2⟩
    · by_cases h9 : a.k = 9 ∨ a.k = 10
      · have HC := keyT_9 a b hk h9
        rw [hr] at HC
        obtain ⟨ak, at'⟩ := a
        obtain ⟨bk, bt⟩ := b
        simp only at *
        subst hk
        clear hr ha hb h8
        have z1 := tx_size at'
        have z2 := tx_size bt
        rcases Nat.lt_trichotomy at'.length bt.length with hl | hl | hl
        · obtain rfl : r = -1 := by rw [HC]; unfold Lib.compareInt; rw [if_pos (by omega)]; rfl
          have hl1 : (((tx at').size : Int) != ((tx bt).size : Int)) = true := by rw [bne_iff_ne]; omega
          have hl2 : (tx at').size < (tx bt).size := by omega
          clear HC z1 z2 hl
          rcases h9 with rfl | rfl
          all_goals (
            go_enter Tryd.func64, Tryd.ntmps64
            go_wp2_with fail
            go_ret
            exact ⟨rfl, HB2⟩)
        · have HC2 : Hid (Lib.compareBytes (bs (tx at')) (bs (tx bt)) = r) := Lib.hid (by rw [HC, show Lib.compareInt (at'.length : Nat) (bt.length : Nat) = 0 by unfold Lib.compareInt; rw [if_neg (by omega), if_neg (by omega)]]; rfl)
          have hl1 : (((tx at').size : Int) != ((tx bt).size : Int)) = false := by rw [bne_eq_false_iff_eq]; omega
          clear HC z1 z2 hl
          rcases h9 with rfl | rfl
          all_goals (
            go_enter Tryd.func64, Tryd.ntmps64
            go_wp2_with fail
            refine (rtext_c _ _ _ r HC2.out).mono ?_
            rintro e w' ⟨rfl, rfl⟩
            go_wp2_with fail
            go_ret
            exact ⟨rfl, HB2⟩)
        · obtain rfl : r = 1 := by rw [HC]; unfold Lib.compareInt; rw [if_neg (by omega), if_pos (by omega)]; rfl
          have hl1 : (((tx at').size : Int) != ((tx bt).size : Int)) = true := by rw [bne_iff_ne]; omega
          have hl2 : ¬ (tx at').size < (tx bt).size := by omega
          clear HC z1 z2 hl
          rcases h9 with rfl | rfl
          all_goals (
            go_enter Tryd.func64, Tryd.ntmps64
            go_wp2_with fail
            go_ret
            exact ⟨rfl, HB2⟩)
      · obtain rfl : 0 = r := by rw [← hr, keyT_no a b hk h8 h9]
        obtain ⟨ak, at'⟩ := a
        obtain ⟨bk, bt⟩ := b
        simp only at *
        subst hk
        have e8 : (ak == 8) = false := by rw [beq_eq_false_iff_ne]; exact h8
        have e9 : (ak == 9) = false := by rw [beq_eq_false_iff_ne]; omega
        have e10 : (ak == 10) = false := by rw [beq_eq_false_iff_ne]; omega
        clear hr ha hb h8 h9 sa sb
        go_enter Tryd.func64, Tryd.ntmps64
        go_wp2_with fail
        go_ret
        exact ⟨rfl, HB2⟩
  · obtain rfl : 1 = r := by rw [← hr]; exact (cmpZ_kind a b 1 (by unfold Lib.compareInt; rw [if_neg (by omega), if_pos hk]) (by decide)).symm
    obtain ⟨ak, at'⟩ := a
    obtain ⟨bk, bt⟩ := b
    simp only at *
    have hd : decide (ak < bk) = false := decide_eq_false (by omega)
    have hd2 : decide (bk < ak) = true := decide_eq_true hk
    clear hr ha hb
    go_enter Tryd.func64, Tryd.ntmps64
    go_wp2_with fail
    go_ret
    exact ⟨rfl, HB2⟩
end Go.Proofs.YthmlggglemnfgaaDoor
