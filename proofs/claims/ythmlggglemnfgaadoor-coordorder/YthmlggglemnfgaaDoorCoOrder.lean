/-
  The walk of CoordOrder.
-/
import Derived.Test.YthmlggglemnfgaaDoorCoLess
import Derived.Test.YthmlggglemnfgaaDoorCoAwake
import Derived.Test.YthmlggglemnfgaaDoorBd
namespace Nwl
open Go
theorem bless_cb : ∀ x y : List UInt8, Op.bytesLess x y = (Lib.compareBytes x y == -1)
  | [], [] => rfl
  | _ :: _, [] => rfl
  | [], _ :: _ => rfl
  | a :: x, b :: y => by
    have ih := bless_cb x y
    rw [Op.bytesLess, Lib.compareBytes, ih]
    simp only [UInt8.lt_iff_toNat_lt]
    by_cases h1 : a.toNat < b.toNat
    · rw [if_pos h1, decide_eq_true h1]; rfl
    · rw [if_neg h1, decide_eq_false h1, Bool.false_or]
      by_cases h2 : b.toNat < a.toNat
      · rw [if_pos h2]
        have : (a == b) = false := by rw [beq_eq_false_iff_ne]; rintro rfl; omega
        rw [this]; rfl
      · rw [if_neg h2]
        have : (a == b) = true := by rw [beq_iff_eq, ← UInt8.toNat_inj]; omega
        rw [this]; rfl
theorem bytes_less (a b : List UInt8) : Op.bytesLess a b = decide (Lib.compareBytes a b < 0) := by
  rw [bless_cb]
  rcases cb_sgn a b with h | h | h <;> rw [h] <;> rfl
end Nwl
namespace Go.Proofs.YthmlggglemnfgaaDoor
open Nwl
open Go.RowKit Go.Maps
set_option linter.unusedVariables false
set_option linter.unusedSimpArgs false

/-- three coordinates' boxes, and what lies behind -/
def B3 (w W : World) (ga na va gb nb vb gc nc vc : List UInt8) : Prop := Blk W w.heap.size 23 #[.string (tx ga), .string (tx na), .string (tx va)] ∧ Blk W (w.heap.size + 1) 23 #[.string (tx gb), .string (tx nb), .string (tx vb)] ∧ Blk W (w.heap.size + 1 + 1) 23 #[.string (tx gc), .string (tx nc), .string (tx vc)] ∧ Below w.heap.size w W
theorem B3.rd {w W : World} {ga na va gb nb vb gc nc vc : List UInt8} (h : Hid (B3 w W ga na va gb nb vb gc nc vc)) : W.cell? ⟨w.heap.size, 0, none⟩ = some (.string (tx ga)) ∧ W.cell? ⟨w.heap.size, 1, none⟩ = some (.string (tx na)) ∧ W.cell? ⟨w.heap.size, 2, none⟩ = some (.string (tx va)) ∧ W.cell? ⟨w.heap.size + 1, 0, none⟩ = some (.string (tx gb)) ∧ W.cell? ⟨w.heap.size + 1, 1, none⟩ = some (.string (tx nb)) ∧ W.cell? ⟨w.heap.size + 1, 2, none⟩ = some (.string (tx vb)) ∧ W.cell? ⟨w.heap.size + 1 + 1, 0, none⟩ = some (.string (tx gc)) ∧ W.cell? ⟨w.heap.size + 1 + 1, 1, none⟩ = some (.string (tx nc)) ∧ W.cell? ⟨w.heap.size + 1 + 1, 2, none⟩ = some (.string (tx vc)) :=
  ⟨h.out.1.cell 0, h.out.1.cell 1, h.out.1.cell 2, h.out.2.1.cell 0, h.out.2.1.cell 1, h.out.2.1.cell 2, h.out.2.2.1.cell 0, h.out.2.2.1.cell 1, h.out.2.2.1.cell 2⟩
theorem B3.below {w W W' : World} {ga na va gb nb vb gc nc vc : List UInt8} (h : B3 w W ga na va gb nb vb gc nc vc) (hb : Below W.heap.size W W') : B3 w W' ga na va gb nb vb gc nc vc := ⟨h.1.below hb, h.2.1.below hb, h.2.2.1.below hb, h.2.2.2.trans (hb.mono h.2.2.2.size)⟩
theorem B3.alloc {w W : World} {ga na va gb nb vb gc nc vc : List UInt8} (h : B3 w W ga na va gb nb vb gc nc vc) (o : Obj) : B3 w (W.alloc o) ga na va gb nb vb gc nc vc := ⟨h.1.alloc o, h.2.1.alloc o, h.2.2.1.alloc o, h.2.2.2.alloc h.2.2.2.size o⟩
theorem B3.drew {w W : World} {ga na va gb nb vb gc nc vc : List UInt8} (h : B3 w W ga na va gb nb vb gc nc vc) : B3 w W.drew ga na va gb nb vb gc nc vc := ⟨h.1, h.2.1, h.2.2.1, h.2.2.2.drew⟩
theorem B3.set_far {w W : World} {ga na va gb nb vb gc nc vc : List UInt8} {d : Nat} (h : B3 w W ga na va gb nb vb gc nc vc) (hd : w.heap.size + 1 + 1 < d) (i : Nat) (u : Value) : B3 w (W.setCell ⟨d, i, none⟩ u) ga na va gb nb vb gc nc vc := ⟨h.1.set_far (by omega) u, h.2.1.set_far (by omega) u, h.2.2.1.set_far (by omega) u, h.2.2.2.setCell (by show w.heap.size ≤ d; omega) u⟩
theorem B3.new (w : World) (ga na va gb nb vb gc nc vc : List UInt8) : B3 w (((w.alloc (.cells #[.string (tx ga), .string (tx na), .string (tx va)] 23)).alloc (.cells #[.string (tx gb), .string (tx nb), .string (tx vb)] 23)).alloc (.cells #[.string (tx gc), .string (tx nc), .string (tx vc)] 23)) ga na va gb nb vb gc nc vc := by
  have h1 := Blk.new w 23 #[.string (tx ga), .string (tx na), .string (tx va)]
  have h2 := Blk.new (w.alloc (.cells #[.string (tx ga), .string (tx na), .string (tx va)] 23)) 23 #[.string (tx gb), .string (tx nb), .string (tx vb)]
  have h3 := Blk.new ((w.alloc (.cells #[.string (tx ga), .string (tx na), .string (tx va)] 23)).alloc (.cells #[.string (tx gb), .string (tx nb), .string (tx vb)] 23)) 23 #[.string (tx gc), .string (tx nc), .string (tx vc)]
  have z1 : (w.alloc (.cells #[.string (tx ga), .string (tx na), .string (tx va)] 23)).heap.size = w.heap.size + 1 := by simp
  have z2 : ((w.alloc (.cells #[.string (tx ga), .string (tx na), .string (tx va)] 23)).alloc (.cells #[.string (tx gb), .string (tx nb), .string (tx vb)] 23)).heap.size = w.heap.size + 1 + 1 := by simp
  rw [z1] at h2
  rw [z2] at h3
  exact ⟨(h1.alloc _).alloc _, h2.alloc _, h3, (((Below.refl _ _).alloc (Nat.le_refl _) _).alloc (by omega) _).alloc (by omega) _⟩

set_option maxRecDepth 100000 in
set_option maxHeartbeats 4000000 in
theorem order_small (ga na va gb nb vb gc nc vc : List UInt8) (w : World) (h1 : va.length ≤ 100) (h2 : vb.length ≤ 100) (h3 : vc.length ≤ 100) :
    Calls Tryd.prog 5 #[crV ga na va, crV gb nb vb, crV gc nc vc] w fun e w' => e = .returned (.bool true) ∧ Below w.heap.size w w' := by
  obtain ⟨p, hp⟩ : ∃ p, lessC ⟨ga, na, va⟩ ⟨gb, nb, vb⟩ = p := ⟨_, rfl⟩
  obtain ⟨q, hq⟩ : ∃ q, lessC ⟨gb, nb, vb⟩ ⟨gc, nc, vc⟩ = q := ⟨_, rfl⟩
  obtain ⟨r, hr⟩ : ∃ r, lessC ⟨ga, na, va⟩ ⟨gc, nc, vc⟩ = r := ⟨_, rfl⟩
  have HT : Hid (p = true → q = true → r = true) := Lib.hid (by rw [← hp, ← hq, ← hr]; exact less_trans _ _ _)
  have HG : Hid (ga ≠ gb → Op.bytesLess ga gb = p) := Lib.hid (fun h => by rw [bytes_less, ← hp]; exact (less_group ⟨ga, na, va⟩ ⟨gb, nb, vb⟩ h).symm)
  have HP := Lib.hid hp
  have HQ := Lib.hid hq
  have HR := Lib.hid hr
  have X0 := Lib.hid (B3.new w ga na va gb nb vb gc nc vc)
  have m1 : va.length ≤ 1000 := by omega
  have m2 : vb.length ≤ 1000 := by omega
  have m3 : vc.length ≤ 1000 := by omega
  have k1 : ¬ (100 : Int) < ((tx va).size : Int) := by rw [tx_size]; omega
  have k2 : ¬ (100 : Int) < ((tx vb).size : Int) := by rw [tx_size]; omega
  have k3 : ¬ (100 : Int) < ((tx vc).size : Int) := by rw [tx_size]; omega
  obtain ⟨u1, hu1⟩ : ∃ u, lessC ⟨ga, na, va⟩ ⟨ga, na, vb⟩ = u := ⟨_, rfl⟩
  obtain ⟨u2, hu2⟩ : ∃ u, lessC ⟨ga, na, vb⟩ ⟨ga, na, va⟩ = u := ⟨_, rfl⟩
  have HU : Hid (u1 = false → u2 = false → va = vb) := Lib.hid (by
    intro a b
    have := (less_back ⟨ga, na, va⟩ ⟨ga, na, vb⟩).2
    rw [hu1, hu2, a, b] at this
    have h : ¬ (⟨ga, na, va⟩ : Crd) ≠ ⟨ga, na, vb⟩ := of_decide_eq_false this.symm
    have h' := Decidable.not_not.1 h
    injection h')
  have HU1 := Lib.hid hu1
  have HU2 := Lib.hid hu2
  clear hp hq hr h1 h2 h3 hu1 hu2
  obtain ⟨w1, hw1⟩ : ∃ w1, ((w.alloc (.cells #[.string (tx ga), .string (tx na), .string (tx va)] 23)).alloc (.cells #[.string (tx gb), .string (tx nb), .string (tx vb)] 23)).alloc (.cells #[.string (tx gc), .string (tx nc), .string (tx vc)] 23) = w1 := ⟨_, rfl⟩
  go_enter Tryd.func5, Tryd.ntmps5
  go_upto_region 1 with fail
  rw [hw1] at X0
  clear hw1
  obtain ⟨z0, z1, z2, z3, z4, z5, z6, z7, z8⟩ := B3.rd X0
  go_upto_region 3 with fail
  go_region_held3 (fun w' => w'.cell? ⟨w.heap.size, 0, none⟩ = some (.string (tx ga)) ∧ w'.cell? ⟨w.heap.size, 1, none⟩ = some (.string (tx na)) ∧ w'.cell? ⟨w.heap.size, 2, none⟩ = some (.string (tx va)) ∧ w'.cell? ⟨w.heap.size + 1, 0, none⟩ = some (.string (tx gb)) ∧ w'.cell? ⟨w.heap.size + 1, 1, none⟩ = some (.string (tx nb)) ∧ w'.cell? ⟨w.heap.size + 1, 2, none⟩ = some (.string (tx vb)) ∧ w'.cell? ⟨w.heap.size + 1 + 1, 0, none⟩ = some (.string (tx gc)) ∧ w'.cell? ⟨w.heap.size + 1 + 1, 1, none⟩ = some (.string (tx nc)) ∧ w'.cell? ⟨w.heap.size + 1 + 1, 2, none⟩ = some (.string (tx vc))) (first | (have h := B3.rd X0; exact h) | (have h := B3.rd X1; exact h) | (have h := B3.rd X2; exact h) | (have h := B3.rd X3; exact h) | fail) (first
    | (go_at_call 17; with_reducible refine (CLess_c ga na va gb nb vb _ m1 m2 p HP.out).mono ?_; rintro e w2 ⟨rfl, hb2⟩; have X1 := Lib.hid (X0.out.drew.below hb2.out); clear hb2)
    | (go_at_call 17; with_reducible refine (CLess_c gb nb vb gc nc vc _ m2 m3 q HQ.out).mono ?_; rintro e w3 ⟨rfl, hb3⟩; have X2 := Lib.hid (X1.out.below hb3.out); clear hb3)
    | (go_at_call 17; with_reducible refine (CLess_c ga na va gc nc vc _ m1 m3 r HR.out).mono ?_; rintro e w4 ⟨rfl, hb4⟩; have X3 := Lib.hid (X2.out.below hb4.out); clear hb4))
  rename_i hheld
  clear hheld z0 z1 z2 z3 z4 z5 z6 z7 z8 X0 X1 X2 k1 k2 k3
  have X4 := Lib.hid (X3.out.alloc (.cells #[.string (tx ga), .string (tx na), .string (tx va)] 23))
  have D4 := Lib.hid (Blk.new w4 23 #[.string (tx ga), .string (tx na), .string (tx va)])
  have X9 := Lib.hid (X3.out.alloc (.cells #[.string (tx ga), .string (tx na), .string (tx vb)] 23))
  have D9 := Lib.hid (Blk.new w4 23 #[.string (tx ga), .string (tx na), .string (tx vb)])
  have LT : Hid (w.heap.size + 1 + 1 < w4.heap.size) := Lib.hid X3.out.2.2.1.lt
  obtain ⟨z0, z1, z2, z3, z4, z5, z6, z7, z8⟩ := B3.rd X4
  obtain ⟨y0, y1, y2, -⟩ := B3.rd X3
  have f2 := D4.out.frozen 2
  have d2 := D4.out.cell 2
  go_upto_region 6 with fail
  obtain ⟨w5, hw5⟩ : ∃ w5, w4.alloc (.cells #[.string (tx ga), .string (tx na), .string (tx vb)] 23) = w5 := ⟨_, rfl⟩
  rw [hw5] at X9 D9 ⊢
  clear hw5 X4 D4 X3 z0 z1 z2 z3 z4 z5 z6 z7 z8 y0 y1 y2 f2 d2 LT
  go_wp2_with fail
  refine (awake9_c _).mono ?_
  rintro e w6 ⟨rfl, b6⟩
  have X6 := Lib.hid (X9.out.below b6.out)
  have D6 := Lib.hid (D9.out.below b6.out)
  clear X9 D9 b6
  obtain ⟨z0, z1, z2, z3, z4, z5, z6, z7, z8⟩ := B3.rd X6
  have d0 := D6.out.cell 0
  have d1 := D6.out.cell 1
  have d2 := D6.out.cell 2
  cases p with
  | false =>
    go_wp2_with fail
    refine (CLess_c ga na va ga na va _ m1 m1 false (less_refl _)).mono ?_
    rintro e w7 ⟨rfl, b7⟩
    have X7 := Lib.hid (X6.out.below b7.out)
    have D7 := Lib.hid (D6.out.below b7.out)
    clear X6 D6 b7 z0 z1 z2 z3 z4 z5 z6 z7 z8 d0 d1 d2
    obtain ⟨z0, z1, z2, z3, z4, z5, z6, z7, z8⟩ := B3.rd X7
    have d0 := D7.out.cell 0
    have d1 := D7.out.cell 1
    have d2 := D7.out.cell 2
    have e1 := tx_list ga
    have e2 := tx_list gb
    have e3 := tx_list va
    have e4 := tx_list vb
    by_cases hg : ga = gb
    · subst hg
      go_wp2_with fail
      refine (CLess_c ga na va ga na vb _ m1 m2 u1 HU1.out).mono ?_
      rintro e w8 ⟨rfl, b8⟩
      have X8 := Lib.hid (X7.out.below b8.out)
      have D8 := Lib.hid (D7.out.below b8.out)
      clear X7 D7 b8 z0 z1 z2 z3 z4 z5 z6 z7 z8 d0 d1 d2
      obtain ⟨z0, z1, z2, z3, z4, z5, z6, z7, z8⟩ := B3.rd X8
      have d0 := D8.out.cell 0
      have d1 := D8.out.cell 1
      have d2 := D8.out.cell 2
      cases u1 with
      | true =>
        go_wp2_with fail
        go_ret
        exact ⟨rfl, X8.out.2.2.2⟩
      | false =>
        go_wp2_with fail
        refine (CLess_c ga na vb ga na va _ m2 m1 u2 HU2.out).mono ?_
        rintro e w9 ⟨rfl, b9⟩
        have X9 := Lib.hid (X8.out.below b9.out)
        clear X8 D8 b9 z0 z1 z2 z3 z4 z5 z6 z7 z8 d0 d1 d2
        obtain ⟨z0, z1, z2, z3, z4, z5, z6, z7, z8⟩ := B3.rd X9
        cases u2 with
        | true =>
          go_wp2_with fail
          go_ret
          exact ⟨rfl, X9.out.2.2.2⟩
        | false =>
          have hv := HU.out (by simp) (by simp)
          subst hv
          go_wp2_with fail
          go_ret
          exact ⟨rfl, X9.out.2.2.2⟩
    · have hb := HG.out hg
      go_wp2_with fail
      refine (CLess_c ga na va ga na vb _ m1 m2 u1 HU1.out).mono ?_
      rintro e w8 ⟨rfl, b8⟩
      have X8 := Lib.hid (X7.out.below b8.out)
      have D8 := Lib.hid (D7.out.below b8.out)
      clear X7 D7 b8 z0 z1 z2 z3 z4 z5 z6 z7 z8 d0 d1 d2
      obtain ⟨z0, z1, z2, z3, z4, z5, z6, z7, z8⟩ := B3.rd X8
      have d0 := D8.out.cell 0
      have d1 := D8.out.cell 1
      have d2 := D8.out.cell 2
      cases u1 with
      | true =>
        go_wp2_with fail
        go_ret
        exact ⟨rfl, X8.out.2.2.2⟩
      | false =>
        go_wp2_with fail
        refine (CLess_c ga na vb ga na va _ m2 m1 u2 HU2.out).mono ?_
        rintro e w9 ⟨rfl, b9⟩
        have X9 := Lib.hid (X8.out.below b9.out)
        clear X8 D8 b9 z0 z1 z2 z3 z4 z5 z6 z7 z8 d0 d1 d2
        obtain ⟨z0, z1, z2, z3, z4, z5, z6, z7, z8⟩ := B3.rd X9
        cases u2 with
        | true =>
          go_wp2_with fail
          go_ret
          exact ⟨rfl, X9.out.2.2.2⟩
        | false =>
          have hv := HU.out (by simp) (by simp)
          subst hv
          go_wp2_with fail
          go_ret
          exact ⟨rfl, X9.out.2.2.2⟩
  | true =>
    cases q with
    | false =>
      go_wp2_with fail
      refine (CLess_c ga na va ga na va _ m1 m1 false (less_refl _)).mono ?_
      rintro e w7 ⟨rfl, b7⟩
      have X7 := Lib.hid (X6.out.below b7.out)
      have D7 := Lib.hid (D6.out.below b7.out)
      clear X6 D6 b7 z0 z1 z2 z3 z4 z5 z6 z7 z8 d0 d1 d2
      obtain ⟨z0, z1, z2, z3, z4, z5, z6, z7, z8⟩ := B3.rd X7
      have d0 := D7.out.cell 0
      have d1 := D7.out.cell 1
      have d2 := D7.out.cell 2
      have e1 := tx_list ga
      have e2 := tx_list gb
      have e3 := tx_list va
      have e4 := tx_list vb
      by_cases hg : ga = gb
      · subst hg
        go_wp2_with fail
        refine (CLess_c ga na va ga na vb _ m1 m2 u1 HU1.out).mono ?_
        rintro e w8 ⟨rfl, b8⟩
        have X8 := Lib.hid (X7.out.below b8.out)
        have D8 := Lib.hid (D7.out.below b8.out)
        clear X7 D7 b8 z0 z1 z2 z3 z4 z5 z6 z7 z8 d0 d1 d2
        obtain ⟨z0, z1, z2, z3, z4, z5, z6, z7, z8⟩ := B3.rd X8
        have d0 := D8.out.cell 0
        have d1 := D8.out.cell 1
        have d2 := D8.out.cell 2
        cases u1 with
        | true =>
          go_wp2_with fail
          go_ret
          exact ⟨rfl, X8.out.2.2.2⟩
        | false =>
          go_wp2_with fail
          refine (CLess_c ga na vb ga na va _ m2 m1 u2 HU2.out).mono ?_
          rintro e w9 ⟨rfl, b9⟩
          have X9 := Lib.hid (X8.out.below b9.out)
          clear X8 D8 b9 z0 z1 z2 z3 z4 z5 z6 z7 z8 d0 d1 d2
          obtain ⟨z0, z1, z2, z3, z4, z5, z6, z7, z8⟩ := B3.rd X9
          cases u2 with
          | true =>
            go_wp2_with fail
            go_ret
            exact ⟨rfl, X9.out.2.2.2⟩
          | false =>
            have hv := HU.out (by simp) (by simp)
            subst hv
            go_wp2_with fail
            go_ret
            exact ⟨rfl, X9.out.2.2.2⟩
      · have hb := HG.out hg
        go_wp2_with fail
        refine (CLess_c ga na va ga na vb _ m1 m2 u1 HU1.out).mono ?_
        rintro e w8 ⟨rfl, b8⟩
        have X8 := Lib.hid (X7.out.below b8.out)
        have D8 := Lib.hid (D7.out.below b8.out)
        clear X7 D7 b8 z0 z1 z2 z3 z4 z5 z6 z7 z8 d0 d1 d2
        obtain ⟨z0, z1, z2, z3, z4, z5, z6, z7, z8⟩ := B3.rd X8
        have d0 := D8.out.cell 0
        have d1 := D8.out.cell 1
        have d2 := D8.out.cell 2
        cases u1 with
        | true =>
          go_wp2_with fail
          go_ret
          exact ⟨rfl, X8.out.2.2.2⟩
        | false =>
          go_wp2_with fail
          refine (CLess_c ga na vb ga na va _ m2 m1 u2 HU2.out).mono ?_
          rintro e w9 ⟨rfl, b9⟩
          have X9 := Lib.hid (X8.out.below b9.out)
          clear X8 D8 b9 z0 z1 z2 z3 z4 z5 z6 z7 z8 d0 d1 d2
          obtain ⟨z0, z1, z2, z3, z4, z5, z6, z7, z8⟩ := B3.rd X9
          cases u2 with
          | true =>
            go_wp2_with fail
            go_ret
            exact ⟨rfl, X9.out.2.2.2⟩
          | false =>
            have hv := HU.out (by simp) (by simp)
            subst hv
            go_wp2_with fail
            go_ret
            exact ⟨rfl, X9.out.2.2.2⟩
    | true =>
      obtain rfl : r = true := HT.out (by simp) (by simp)
      go_wp2_with fail
      refine (CLess_c ga na va ga na va _ m1 m1 false (less_refl _)).mono ?_
      rintro e w7 ⟨rfl, b7⟩
      have X7 := Lib.hid (X6.out.below b7.out)
      have D7 := Lib.hid (D6.out.below b7.out)
      clear X6 D6 b7 z0 z1 z2 z3 z4 z5 z6 z7 z8 d0 d1 d2
      obtain ⟨z0, z1, z2, z3, z4, z5, z6, z7, z8⟩ := B3.rd X7
      have d0 := D7.out.cell 0
      have d1 := D7.out.cell 1
      have d2 := D7.out.cell 2
      have e1 := tx_list ga
      have e2 := tx_list gb
      have e3 := tx_list va
      have e4 := tx_list vb
      by_cases hg : ga = gb
      · subst hg
        go_wp2_with fail
        refine (CLess_c ga na va ga na vb _ m1 m2 u1 HU1.out).mono ?_
        rintro e w8 ⟨rfl, b8⟩
        have X8 := Lib.hid (X7.out.below b8.out)
        have D8 := Lib.hid (D7.out.below b8.out)
        clear X7 D7 b8 z0 z1 z2 z3 z4 z5 z6 z7 z8 d0 d1 d2
        obtain ⟨z0, z1, z2, z3, z4, z5, z6, z7, z8⟩ := B3.rd X8
        have d0 := D8.out.cell 0
        have d1 := D8.out.cell 1
        have d2 := D8.out.cell 2
        cases u1 with
        | true =>
          go_wp2_with fail
          go_ret
          exact ⟨rfl, X8.out.2.2.2⟩
        | false =>
          go_wp2_with fail
          refine (CLess_c ga na vb ga na va _ m2 m1 u2 HU2.out).mono ?_
          rintro e w9 ⟨rfl, b9⟩
          have X9 := Lib.hid (X8.out.below b9.out)
          clear X8 D8 b9 z0 z1 z2 z3 z4 z5 z6 z7 z8 d0 d1 d2
          obtain ⟨z0, z1, z2, z3, z4, z5, z6, z7, z8⟩ := B3.rd X9
          cases u2 with
          | true =>
            go_wp2_with fail
            go_ret
            exact ⟨rfl, X9.out.2.2.2⟩
          | false =>
            have hv := HU.out (by simp) (by simp)
            subst hv
            go_wp2_with fail
            go_ret
            exact ⟨rfl, X9.out.2.2.2⟩
      · have hb := HG.out hg
        go_wp2_with fail
        refine (CLess_c ga na va ga na vb _ m1 m2 u1 HU1.out).mono ?_
        rintro e w8 ⟨rfl, b8⟩
        have X8 := Lib.hid (X7.out.below b8.out)
        have D8 := Lib.hid (D7.out.below b8.out)
        clear X7 D7 b8 z0 z1 z2 z3 z4 z5 z6 z7 z8 d0 d1 d2
        obtain ⟨z0, z1, z2, z3, z4, z5, z6, z7, z8⟩ := B3.rd X8
        have d0 := D8.out.cell 0
        have d1 := D8.out.cell 1
        have d2 := D8.out.cell 2
        cases u1 with
        | true =>
          go_wp2_with fail
          go_ret
          exact ⟨rfl, X8.out.2.2.2⟩
        | false =>
          go_wp2_with fail
          refine (CLess_c ga na vb ga na va _ m2 m1 u2 HU2.out).mono ?_
          rintro e w9 ⟨rfl, b9⟩
          have X9 := Lib.hid (X8.out.below b9.out)
          clear X8 D8 b9 z0 z1 z2 z3 z4 z5 z6 z7 z8 d0 d1 d2
          obtain ⟨z0, z1, z2, z3, z4, z5, z6, z7, z8⟩ := B3.rd X9
          cases u2 with
          | true =>
            go_wp2_with fail
            go_ret
            exact ⟨rfl, X9.out.2.2.2⟩
          | false =>
            have hv := HU.out (by simp) (by simp)
            subst hv
            go_wp2_with fail
            go_ret
            exact ⟨rfl, X9.out.2.2.2⟩

set_option maxRecDepth 100000 in
set_option maxHeartbeats 2000000 in
theorem CoordOrder_walk (a b c : Crd) (w : World) (ha : a.g.length ≤ reachBytes ∧ a.n.length ≤ reachBytes ∧ a.v.length ≤ reachBytes) (hb : b.g.length ≤ reachBytes ∧ b.n.length ≤ reachBytes ∧ b.v.length ≤ reachBytes) (hc : c.g.length ≤ reachBytes ∧ c.n.length ≤ reachBytes ∧ c.v.length ≤ reachBytes) (hG : Glob w) :
    Calls Tryd.prog 5 #[crV a.g a.n a.v, crV b.g b.n b.v, crV c.g c.n c.v] w fun e w' => e = .returned (.bool true) ∧ Below w.heap.size w w' := by
  obtain ⟨ga, na, va⟩ := a
  obtain ⟨gb, nb, vb⟩ := b
  obtain ⟨gc, nc, vc⟩ := c
  clear ha hb hc hG
  by_cases hs : va.length ≤ 100 ∧ vb.length ≤ 100 ∧ vc.length ≤ 100
  · exact order_small ga na va gb nb vb gc nc vc w hs.1 hs.2.1 hs.2.2
  · have X0 := Lib.hid (B3.new w ga na va gb nb vb gc nc vc)
    have hways : (100 : Int) < ((tx va).size : Int) ∨ (¬ (100 : Int) < ((tx va).size : Int) ∧ (100 : Int) < ((tx vb).size : Int)) ∨ (¬ (100 : Int) < ((tx va).size : Int) ∧ ¬ (100 : Int) < ((tx vb).size : Int) ∧ (100 : Int) < ((tx vc).size : Int)) := by
      rw [tx_size, tx_size, tx_size]; omega
    clear hs
    obtain ⟨w1, hw1⟩ : ∃ w1, ((w.alloc (.cells #[.string (tx ga), .string (tx na), .string (tx va)] 23)).alloc (.cells #[.string (tx gb), .string (tx nb), .string (tx vb)] 23)).alloc (.cells #[.string (tx gc), .string (tx nc), .string (tx vc)] 23) = w1 := ⟨_, rfl⟩
    go_enter Tryd.func5, Tryd.ntmps5
    go_upto_region 1 with fail
    rw [hw1] at X0
    clear hw1
    obtain ⟨z0, z1, z2, z3, z4, z5, z6, z7, z8⟩ := B3.rd X0
    rcases hways with h1 | ⟨h1, h2⟩ | ⟨h1, h2, h3⟩
    all_goals
      go_wp2_with fail
      refine (awake9_c _).mono ?_
      rintro e w2 ⟨rfl, b2⟩
      go_wp2_with fail
      go_ret
      exact ⟨rfl, X0.out.2.2.2.trans (b2.out.mono X0.out.2.2.2.size)⟩
end Go.Proofs.YthmlggglemnfgaaDoor
