/-
  The walk of CoordBack.
-/
import Derived.Test.YthmlggglemnfgaaDoorCoLess
import Derived.Test.YthmlggglemnfgaaDoorCoAwake
import Derived.Test.YthmlggglemnfgaaDoorCoArg
import Derived.Test.YthmlggglemnfgaaDoorBd
namespace Nwl
theorem textC_len (c : Crd) : (textC c).length = c.g.length + 1 + c.n.length + 1 + c.v.length := by unfold textC; simp; omega
theorem back_one (a : Crd) (r : Bool) (h : coordL a = r) (c : Crd) (b : Bool) (hp : parX (textC a) = (c, b)) (hr : r = true) : b = true ∧ c = a := by
  rw [par_text a (h.trans hr)] at hp
  injection hp with h1 h2
  exact ⟨h2.symm, h1.symm⟩
theorem back_two (l : List UInt8) (c : Crd) (hp : parX l = (c, true)) : textC c = l ∧ coordL c = true := by
  unfold parX at hp
  split at hp
  · rename_i h
    injection hp with h1 h2
    subst h1
    exact ⟨text_par l h, h⟩
  · injection hp with h1 h2
    cases h2
end Nwl
namespace Go.Proofs.YthmlggglemnfgaaDoor
open Nwl
open Go.RowKit Go.Maps
set_option linter.unusedVariables false
set_option linter.unusedSimpArgs false

theorem B2.read {w : World} {b : Nat} {u0 u1 u2 v0 v1 v2 : Value} (h : B2 w b u0 u1 u2 v0 v1 v2) : w.cell? ⟨b, 0, none⟩ = some u0 ∧ w.cell? ⟨b, 1, none⟩ = some u1 ∧ w.cell? ⟨b, 2, none⟩ = some u2 ∧ w.cell? ⟨b + 1, 0, none⟩ = some v0 ∧ w.cell? ⟨b + 1, 1, none⟩ = some v1 ∧ w.cell? ⟨b + 1, 2, none⟩ = some v2 := B2.rd (Lib.hid h)
/-- the two coordinates' boxes, and what lies behind -/
def Q2 (w W : World) (ga na va gb nb vb : List UInt8) : Prop := B2 W w.heap.size (.string (tx ga)) (.string (tx na)) (.string (tx va)) (.string (tx gb)) (.string (tx nb)) (.string (tx vb)) ∧ Below w.heap.size w W
theorem Q2.below {w W W' : World} {ga na va gb nb vb : List UInt8} (h : Q2 w W ga na va gb nb vb) (hb : Below W.heap.size W W') : Q2 w W' ga na va gb nb vb := ⟨h.1.below hb, h.2.trans (hb.mono h.2.size)⟩
theorem Q2.alloc {w W : World} {ga na va gb nb vb : List UInt8} (h : Q2 w W ga na va gb nb vb) (o : Obj) : Q2 w (W.alloc o) ga na va gb nb vb := ⟨h.1.alloc o, h.2.alloc h.2.size o⟩
theorem Q2.drew {w W : World} {ga na va gb nb vb : List UInt8} (h : Q2 w W ga na va gb nb vb) : Q2 w W.drew ga na va gb nb vb := ⟨h.1, h.2.drew⟩
theorem Q2.rd {w W : World} {ga na va gb nb vb : List UInt8} (h : Hid (Q2 w W ga na va gb nb vb)) : W.cell? ⟨w.heap.size, 0, none⟩ = some (.string (tx ga)) ∧ W.cell? ⟨w.heap.size, 1, none⟩ = some (.string (tx na)) ∧ W.cell? ⟨w.heap.size, 2, none⟩ = some (.string (tx va)) ∧ W.cell? ⟨w.heap.size + 1, 0, none⟩ = some (.string (tx gb)) ∧ W.cell? ⟨w.heap.size + 1, 1, none⟩ = some (.string (tx nb)) ∧ W.cell? ⟨w.heap.size + 1, 2, none⟩ = some (.string (tx vb)) := B2.read h.out.1
theorem Q2.new (w : World) (ga na va gb nb vb : List UInt8) : Q2 w ((w.alloc (.cells #[.string (tx ga), .string (tx na), .string (tx va)] 23)).alloc (.cells #[.string (tx gb), .string (tx nb), .string (tx vb)] 23)) ga na va gb nb vb :=
  ⟨B2.new w _ _ _ _ _ _, ((Below.refl _ _).alloc (Nat.le_refl _) _).alloc (by simp) _⟩

set_option maxRecDepth 100000 in
set_option maxHeartbeats 8000000 in
theorem back_small (ga na va gb nb vb : List UInt8) (s : ByteArray) (w : World) (ha : ga.length ≤ reachBytes ∧ na.length ≤ reachBytes) (h1 : va.length ≤ 200) (h2 : vb.length ≤ 200) (h3 : s.size ≤ 500) :
    Calls Tryd.prog 4 #[crV ga na va, crV gb nb vb, .string s] w fun e w' => e = .returned (.bool true) ∧ Below w.heap.size w w' := by
  have hga : ga.length ≤ 1000000000000000 := by have := ha.1; unfold reachBytes at this; omega
  have hna : na.length ≤ 1000000000000000 := by have := ha.2; unfold reachBytes at this; omega
  have hva : va.length ≤ 1000000000000000 := by omega
  obtain ⟨T, hT⟩ : ∃ T, textC ⟨ga, na, va⟩ = T := ⟨_, rfl⟩
  have hTl : (tx T).size ≤ 1000000000000000 := by
    rw [tx_size, ← hT, textC_len]; have := ha.1; have := ha.2; unfold reachBytes at *; dsimp only; omega
  obtain ⟨g1, n1, v1, b1, hp1⟩ : ∃ g n v b, parX (bs (tx T)) = (⟨g, n, v⟩, b) := ⟨_, _, _, _, rfl⟩
  obtain ⟨g2, n2, v2, b2, hp2⟩ : ∃ g n v b, parX (bs s) = (⟨g, n, v⟩, b) := ⟨_, _, _, _, rfl⟩
  obtain ⟨r, hr⟩ : ∃ r, coordL ⟨ga, na, va⟩ = r := ⟨_, rfl⟩
  obtain ⟨p, hp⟩ : ∃ p, lessC ⟨ga, na, va⟩ ⟨gb, nb, vb⟩ = p := ⟨_, rfl⟩
  obtain ⟨q, hq⟩ : ∃ p, lessC ⟨gb, nb, vb⟩ ⟨ga, na, va⟩ = p := ⟨_, rfl⟩
  have hbk := less_back ⟨ga, na, va⟩ ⟨gb, nb, vb⟩
  rw [hp, hq] at hbk
  have HB := Lib.hid hbk
  have H1 : Hid (r = true → b1 = true ∧ g1 = ga ∧ n1 = na ∧ v1 = va) := Lib.hid (fun h => by
    have := back_one ⟨ga, na, va⟩ r hr ⟨g1, n1, v1⟩ b1 (by rw [hT]; exact hp1) h
    obtain ⟨q1, q2⟩ := this
    injection q2 with q3 q4 q5
    exact ⟨q1, q3, q4, q5⟩)
  have H2 : Hid (b2 = true → textC ⟨g2, n2, v2⟩ = bs s ∧ coordL ⟨g2, n2, v2⟩ = true ∧ g2.length ≤ 500 ∧ n2.length ≤ 500 ∧ v2.length ≤ 500) := Lib.hid (fun h => by
    subst h
    obtain ⟨q1, q2⟩ := back_two _ _ hp2
    have hl := congrArg List.length q1
    rw [textC_len, bs_length] at hl
    dsimp only at hl
    exact ⟨q1, q2, by omega, by omega, by omega⟩)
  have HT := Lib.hid hT
  have HP1 := Lib.hid hp1
  have HP2 := Lib.hid hp2
  have HR := Lib.hid hr
  have HP := Lib.hid hp
  have HQ := Lib.hid hq
  have k1 : ¬ (200 : Int) < ((tx va).size : Int) := by rw [tx_size]; omega
  have k2 : ¬ (200 : Int) < ((tx vb).size : Int) := by rw [tx_size]; omega
  have k3 : ¬ (500 : Int) < (s.size : Int) := by omega
  have m1 : va.length ≤ 1000 := by omega
  have m2 : vb.length ≤ 1000 := by omega
  have m3 : s.size ≤ 1000000000000000 := by omega
  have X0 := Lib.hid (Q2.new w ga na va gb nb vb)
  clear hT hp1 hp2 hr hp hq hbk ha h1 h2 h3
  obtain ⟨w1, hw1⟩ : ∃ w1, (w.alloc (.cells #[.string (tx ga), .string (tx na), .string (tx va)] 23)).alloc (.cells #[.string (tx gb), .string (tx nb), .string (tx vb)] 23) = w1 := ⟨_, rfl⟩
  go_enter Tryd.func4, Tryd.ntmps4
  go_upto_region 1 with fail
  rw [hw1] at X0
  clear hw1
  obtain ⟨z0, z1, z2, z3, z4, z5⟩ := Q2.rd X0
  go_wp2_with fail
  refine (CText_c ga na va _ hga hna hva T HT.out).mono ?_
  rintro e w2 ⟨rfl, c2⟩
  have X2 := Lib.hid (X0.out.below c2.out)
  clear c2 X0 z0 z1 z2 z3 z4 z5 k1 k2 k3
  obtain ⟨z0, z1, z2, z3, z4, z5⟩ := Q2.rd X2
  go_wp2_with fail
  refine (CParse_c (tx T) _ hTl g1 n1 v1 b1 HP1.out).mono ?_
  rintro e w3 ⟨rfl, c3⟩
  have X3 := Lib.hid ((X2.out.below c3.out).alloc (.cells #[.string (tx g1), .string (tx n1), .string (tx v1)] 23))
  have Y3 := Lib.hid (Blk.new w3 23 #[.string (tx g1), .string (tx n1), .string (tx v1)])
  clear c3 X2 z0 z1 z2 z3 z4 z5
  obtain ⟨z0, z1, z2, z3, z4, z5⟩ := Q2.rd X3
  go_upto_region 4 with fail
  obtain ⟨w4, hw4⟩ : ∃ w4, w3.alloc (.cells #[.string (tx g1), .string (tx n1), .string (tx v1)] 23) = w4 := ⟨_, rfl⟩
  rw [hw4] at X3 Y3 ⊢
  clear hw4 z0 z1 z2 z3 z4 z5
  obtain ⟨z0, z1, z2, z3, z4, z5⟩ := Q2.rd X3
  go_wp2_with fail
  refine (CRight_c ga na va _ hga hna hva r HR.out).mono ?_
  rintro e w5 ⟨rfl, c5⟩
  have X5 := Lib.hid (X3.out.below c5.out)
  have Y5 := Lib.hid (Y3.out.below c5.out)
  clear c5 X3 Y3 z0 z1 z2 z3 z4 z5
  obtain ⟨z0, z1, z2, z3, z4, z5⟩ := Q2.rd X5
  have y0 := Y5.out.cell 0
  have y1 := Y5.out.cell 1
  have y2 := Y5.out.cell 2
  have e1 := tx_list ga
  have e2 := tx_list na
  have e3 := tx_list va
  cases r with
  | false =>
    clear Y5 y0 y1 y2 H1
    go_wp2_with fail
    refine (CParse_c s _ m3 g2 n2 v2 b2 HP2.out).mono ?_
    rintro e w6 ⟨rfl, c6⟩
    have X6 := Lib.hid ((X5.out.below c6.out).alloc (.cells #[.string (tx g2), .string (tx n2), .string (tx v2)] 23))
    have Y6 := Lib.hid (Blk.new w6 23 #[.string (tx g2), .string (tx n2), .string (tx v2)])
    clear c6 X5 z0 z1 z2 z3 z4 z5
    obtain ⟨z0, z1, z2, z3, z4, z5⟩ := Q2.rd X6
    go_upto_region 7 with fail
    obtain ⟨w7, hw7⟩ : ∃ w7, w6.alloc (.cells #[.string (tx g2), .string (tx n2), .string (tx v2)] 23) = w7 := ⟨_, rfl⟩
    rw [hw7] at X6 Y6 ⊢
    clear hw7 z0 z1 z2 z3 z4 z5
    obtain ⟨z0, z1, z2, z3, z4, z5⟩ := Q2.rd X6
    have y0 := Y6.out.cell 0
    have y1 := Y6.out.cell 1
    have y2 := Y6.out.cell 2
    cases b2 with
    | false =>
      clear H2
      go_upto_region 9 with fail
      go_region_held3 (fun w' => w'.cell? ⟨w.heap.size, 0, none⟩ = some (.string (tx ga)) ∧ w'.cell? ⟨w.heap.size, 1, none⟩ = some (.string (tx na)) ∧ w'.cell? ⟨w.heap.size, 2, none⟩ = some (.string (tx va)) ∧ w'.cell? ⟨w.heap.size + 1, 0, none⟩ = some (.string (tx gb)) ∧ w'.cell? ⟨w.heap.size + 1, 1, none⟩ = some (.string (tx nb)) ∧ w'.cell? ⟨w.heap.size + 1, 2, none⟩ = some (.string (tx vb))) (first | (have h := Q2.rd X6; exact h) | (have h := Q2.rd XA; exact h) | (have h := Q2.rd XB; exact h) | fail) (first
        | (go_at_call 17; with_reducible refine (CLess_c ga na va gb nb vb _ m1 m2 p HP.out).mono ?_; rintro e wA ⟨rfl, cA⟩; have XA := Lib.hid (X6.out.drew.below cA.out); clear cA)
        | (go_at_call 17; with_reducible refine (CLess_c gb nb vb ga na va _ m2 m1 q HQ.out).mono ?_; rintro e wB ⟨rfl, cB⟩; have XB := Lib.hid (XA.out.below cB.out); clear cB))
      rename_i hheld
      clear hheld X6 XA
      go_wp2_with fail
      refine (awake9_c _).mono ?_
      rintro e wC ⟨rfl, cC⟩
      have XC := Lib.hid (XB.out.below cC.out)
      clear cC XB
      obtain ⟨z0, z1, z2, z3, z4, z5⟩ := Q2.rd XC
      have e1 := tx_list ga
      have e2 := tx_list na
      have e3 := tx_list va
      have e4 := tx_list gb
      have e5 := tx_list nb
      have e6 := tx_list vb
      cases p with
      | true =>
        cases q with
        | true => exact absurd HB.out.1 (by decide)
        | false =>
          go_wp2_with fail
          all_goals go_ret
          all_goals first
            | exact ⟨rfl, XC.out.2⟩
            | (exfalso; have h9 := HB.out.2; simp [*] at h9)
      | false =>
        cases q with
        | true =>
          go_wp2_with fail
          all_goals go_ret
          all_goals first
            | exact ⟨rfl, XC.out.2⟩
            | (exfalso; have h9 := HB.out.2; simp [*] at h9)
        | false =>
          go_wp2_with fail
          all_goals go_ret
          all_goals first
            | exact ⟨rfl, XC.out.2⟩
            | (exfalso; have h9 := HB.out.2; simp [*] at h9)
    | true =>
      obtain ⟨q1, q2, l1, l2, l3⟩ := H2.out (by simp)
      have HT2 := Lib.hid q1
      have HC2 := Lib.hid q2
      clear q1 q2 H2
      have e9 : (tx (bs s)).toList = s.toList := rfl
      go_wp2_with fail
      refine (CText_c g2 n2 v2 _ (by omega) (by omega) (by omega) (bs s) HT2.out).mono ?_
      rintro e w8 ⟨rfl, c8⟩
      have X8 := Lib.hid (X6.out.below c8.out)
      have Y8 := Lib.hid (Y6.out.below c8.out)
      clear c8 X6 Y6 z0 z1 z2 z3 z4 z5 y0 y1 y2
      obtain ⟨z0, z1, z2, z3, z4, z5⟩ := Q2.rd X8
      have y0 := Y8.out.cell 0
      have y1 := Y8.out.cell 1
      have y2 := Y8.out.cell 2
      go_wp2_with fail
      refine (CRight_c g2 n2 v2 _ (by omega) (by omega) (by omega) true HC2.out).mono ?_
      rintro e w9 ⟨rfl, c9⟩
      have X9 := Lib.hid (X8.out.below c9.out)
      clear c9 X8 Y8 z0 z1 z2 z3 z4 z5 y0 y1 y2
      obtain ⟨z0, z1, z2, z3, z4, z5⟩ := Q2.rd X9
      go_upto_region 9 with fail
      go_region_held3 (fun w' => w'.cell? ⟨w.heap.size, 0, none⟩ = some (.string (tx ga)) ∧ w'.cell? ⟨w.heap.size, 1, none⟩ = some (.string (tx na)) ∧ w'.cell? ⟨w.heap.size, 2, none⟩ = some (.string (tx va)) ∧ w'.cell? ⟨w.heap.size + 1, 0, none⟩ = some (.string (tx gb)) ∧ w'.cell? ⟨w.heap.size + 1, 1, none⟩ = some (.string (tx nb)) ∧ w'.cell? ⟨w.heap.size + 1, 2, none⟩ = some (.string (tx vb))) (first | (have h := Q2.rd X9; exact h) | (have h := Q2.rd XA; exact h) | (have h := Q2.rd XB; exact h) | fail) (first
        | (go_at_call 17; with_reducible refine (CLess_c ga na va gb nb vb _ m1 m2 p HP.out).mono ?_; rintro e wA ⟨rfl, cA⟩; have XA := Lib.hid (X9.out.drew.below cA.out); clear cA)
        | (go_at_call 17; with_reducible refine (CLess_c gb nb vb ga na va _ m2 m1 q HQ.out).mono ?_; rintro e wB ⟨rfl, cB⟩; have XB := Lib.hid (XA.out.below cB.out); clear cB))
      rename_i hheld
      clear hheld X9 XA
      go_wp2_with fail
      refine (awake9_c _).mono ?_
      rintro e wC ⟨rfl, cC⟩
      have XC := Lib.hid (XB.out.below cC.out)
      clear cC XB
      obtain ⟨z0, z1, z2, z3, z4, z5⟩ := Q2.rd XC
      have e1 := tx_list ga
      have e2 := tx_list na
      have e3 := tx_list va
      have e4 := tx_list gb
      have e5 := tx_list nb
      have e6 := tx_list vb
      cases p with
      | true =>
        cases q with
        | true => exact absurd HB.out.1 (by decide)
        | false =>
          go_wp2_with fail
          all_goals go_ret
          all_goals first
            | exact ⟨rfl, XC.out.2⟩
            | (exfalso; have h9 := HB.out.2; simp [*] at h9)
      | false =>
        cases q with
        | true =>
          go_wp2_with fail
          all_goals go_ret
          all_goals first
            | exact ⟨rfl, XC.out.2⟩
            | (exfalso; have h9 := HB.out.2; simp [*] at h9)
        | false =>
          go_wp2_with fail
          all_goals go_ret
          all_goals first
            | exact ⟨rfl, XC.out.2⟩
            | (exfalso; have h9 := HB.out.2; simp [*] at h9)
  | true =>
    obtain ⟨q1, q2, q3, q4⟩ := H1.out (by simp)
    subst q1
    have q2 := q2.symm
    have q3 := q3.symm
    have q4 := q4.symm
    subst q2 q3 q4
    clear H1
    go_wp2_with fail
    refine (CParse_c s _ m3 g2 n2 v2 b2 HP2.out).mono ?_
    rintro e w6 ⟨rfl, c6⟩
    have X6 := Lib.hid ((X5.out.below c6.out).alloc (.cells #[.string (tx g2), .string (tx n2), .string (tx v2)] 23))
    have Y6 := Lib.hid (Blk.new w6 23 #[.string (tx g2), .string (tx n2), .string (tx v2)])
    clear c6 X5 z0 z1 z2 z3 z4 z5
    obtain ⟨z0, z1, z2, z3, z4, z5⟩ := Q2.rd X6
    go_upto_region 7 with fail
    obtain ⟨w7, hw7⟩ : ∃ w7, w6.alloc (.cells #[.string (tx g2), .string (tx n2), .string (tx v2)] 23) = w7 := ⟨_, rfl⟩
    rw [hw7] at X6 Y6 ⊢
    clear hw7 z0 z1 z2 z3 z4 z5
    obtain ⟨z0, z1, z2, z3, z4, z5⟩ := Q2.rd X6
    have y0 := Y6.out.cell 0
    have y1 := Y6.out.cell 1
    have y2 := Y6.out.cell 2
    cases b2 with
    | false =>
      clear H2
      go_upto_region 9 with fail
      go_region_held3 (fun w' => w'.cell? ⟨w.heap.size, 0, none⟩ = some (.string (tx ga)) ∧ w'.cell? ⟨w.heap.size, 1, none⟩ = some (.string (tx na)) ∧ w'.cell? ⟨w.heap.size, 2, none⟩ = some (.string (tx va)) ∧ w'.cell? ⟨w.heap.size + 1, 0, none⟩ = some (.string (tx gb)) ∧ w'.cell? ⟨w.heap.size + 1, 1, none⟩ = some (.string (tx nb)) ∧ w'.cell? ⟨w.heap.size + 1, 2, none⟩ = some (.string (tx vb))) (first | (have h := Q2.rd X6; exact h) | (have h := Q2.rd XA; exact h) | (have h := Q2.rd XB; exact h) | fail) (first
        | (go_at_call 17; with_reducible refine (CLess_c ga na va gb nb vb _ m1 m2 p HP.out).mono ?_; rintro e wA ⟨rfl, cA⟩; have XA := Lib.hid (X6.out.drew.below cA.out); clear cA)
        | (go_at_call 17; with_reducible refine (CLess_c gb nb vb ga na va _ m2 m1 q HQ.out).mono ?_; rintro e wB ⟨rfl, cB⟩; have XB := Lib.hid (XA.out.below cB.out); clear cB))
      rename_i hheld
      clear hheld X6 XA
      go_wp2_with fail
      refine (awake9_c _).mono ?_
      rintro e wC ⟨rfl, cC⟩
      have XC := Lib.hid (XB.out.below cC.out)
      clear cC XB
      obtain ⟨z0, z1, z2, z3, z4, z5⟩ := Q2.rd XC
      have e1 := tx_list ga
      have e2 := tx_list na
      have e3 := tx_list va
      have e4 := tx_list gb
      have e5 := tx_list nb
      have e6 := tx_list vb
      cases p with
      | true =>
        cases q with
        | true => exact absurd HB.out.1 (by decide)
        | false =>
          go_wp2_with fail
          all_goals go_ret
          all_goals first
            | exact ⟨rfl, XC.out.2⟩
            | (exfalso; have h9 := HB.out.2; simp [*] at h9)
      | false =>
        cases q with
        | true =>
          go_wp2_with fail
          all_goals go_ret
          all_goals first
            | exact ⟨rfl, XC.out.2⟩
            | (exfalso; have h9 := HB.out.2; simp [*] at h9)
        | false =>
          go_wp2_with fail
          all_goals go_ret
          all_goals first
            | exact ⟨rfl, XC.out.2⟩
            | (exfalso; have h9 := HB.out.2; simp [*] at h9)
    | true =>
      obtain ⟨q1, q2, l1, l2, l3⟩ := H2.out (by simp)
      have HT2 := Lib.hid q1
      have HC2 := Lib.hid q2
      clear q1 q2 H2
      have e9 : (tx (bs s)).toList = s.toList := rfl
      go_wp2_with fail
      refine (CText_c g2 n2 v2 _ (by omega) (by omega) (by omega) (bs s) HT2.out).mono ?_
      rintro e w8 ⟨rfl, c8⟩
      have X8 := Lib.hid (X6.out.below c8.out)
      have Y8 := Lib.hid (Y6.out.below c8.out)
      clear c8 X6 Y6 z0 z1 z2 z3 z4 z5 y0 y1 y2
      obtain ⟨z0, z1, z2, z3, z4, z5⟩ := Q2.rd X8
      have y0 := Y8.out.cell 0
      have y1 := Y8.out.cell 1
      have y2 := Y8.out.cell 2
      go_wp2_with fail
      refine (CRight_c g2 n2 v2 _ (by omega) (by omega) (by omega) true HC2.out).mono ?_
      rintro e w9 ⟨rfl, c9⟩
      have X9 := Lib.hid (X8.out.below c9.out)
      clear c9 X8 Y8 z0 z1 z2 z3 z4 z5 y0 y1 y2
      obtain ⟨z0, z1, z2, z3, z4, z5⟩ := Q2.rd X9
      go_upto_region 9 with fail
      go_region_held3 (fun w' => w'.cell? ⟨w.heap.size, 0, none⟩ = some (.string (tx ga)) ∧ w'.cell? ⟨w.heap.size, 1, none⟩ = some (.string (tx na)) ∧ w'.cell? ⟨w.heap.size, 2, none⟩ = some (.string (tx va)) ∧ w'.cell? ⟨w.heap.size + 1, 0, none⟩ = some (.string (tx gb)) ∧ w'.cell? ⟨w.heap.size + 1, 1, none⟩ = some (.string (tx nb)) ∧ w'.cell? ⟨w.heap.size + 1, 2, none⟩ = some (.string (tx vb))) (first | (have h := Q2.rd X9; exact h) | (have h := Q2.rd XA; exact h) | (have h := Q2.rd XB; exact h) | fail) (first
        | (go_at_call 17; with_reducible refine (CLess_c ga na va gb nb vb _ m1 m2 p HP.out).mono ?_; rintro e wA ⟨rfl, cA⟩; have XA := Lib.hid (X9.out.drew.below cA.out); clear cA)
        | (go_at_call 17; with_reducible refine (CLess_c gb nb vb ga na va _ m2 m1 q HQ.out).mono ?_; rintro e wB ⟨rfl, cB⟩; have XB := Lib.hid (XA.out.below cB.out); clear cB))
      rename_i hheld
      clear hheld X9 XA
      go_wp2_with fail
      refine (awake9_c _).mono ?_
      rintro e wC ⟨rfl, cC⟩
      have XC := Lib.hid (XB.out.below cC.out)
      clear cC XB
      obtain ⟨z0, z1, z2, z3, z4, z5⟩ := Q2.rd XC
      have e1 := tx_list ga
      have e2 := tx_list na
      have e3 := tx_list va
      have e4 := tx_list gb
      have e5 := tx_list nb
      have e6 := tx_list vb
      cases p with
      | true =>
        cases q with
        | true => exact absurd HB.out.1 (by decide)
        | false =>
          go_wp2_with fail
          all_goals go_ret
          all_goals first
            | exact ⟨rfl, XC.out.2⟩
            | (exfalso; have h9 := HB.out.2; simp [*] at h9)
      | false =>
        cases q with
        | true =>
          go_wp2_with fail
          all_goals go_ret
          all_goals first
            | exact ⟨rfl, XC.out.2⟩
            | (exfalso; have h9 := HB.out.2; simp [*] at h9)
        | false =>
          go_wp2_with fail
          all_goals go_ret
          all_goals first
            | exact ⟨rfl, XC.out.2⟩
            | (exfalso; have h9 := HB.out.2; simp [*] at h9)

set_option maxRecDepth 100000 in
set_option maxHeartbeats 2000000 in
theorem CoordBack_walk (a b : Crd) (s : ByteArray) (w : World) (ha : CrdOk a) (hb : CrdOk b) (hs : s.size ≤ maxLen) (hG : Glob w) :
    Calls Tryd.prog 4 #[crV a.g a.n a.v, crV b.g b.n b.v, .string s] w fun e w' => e = .returned (.bool true) ∧ Below w.heap.size w w' := by
  obtain ⟨ga, na, va⟩ := a
  obtain ⟨gb, nb, vb⟩ := b
  clear hG
  by_cases hsm : va.length ≤ 200 ∧ vb.length ≤ 200 ∧ s.size ≤ 500
  · exact back_small ga na va gb nb vb s w ⟨ha.1, ha.2.1⟩ hsm.1 hsm.2.1 hsm.2.2
  · have X0 := Lib.hid (Q2.new w ga na va gb nb vb)
    have hways : (200 : Int) < ((tx va).size : Int) ∨ (¬ (200 : Int) < ((tx va).size : Int) ∧ (200 : Int) < ((tx vb).size : Int)) ∨ (¬ (200 : Int) < ((tx va).size : Int) ∧ ¬ (200 : Int) < ((tx vb).size : Int) ∧ (500 : Int) < (s.size : Int)) := by
      rw [tx_size, tx_size]; omega
    clear hsm ha hb
    obtain ⟨w1, hw1⟩ : ∃ w1, (w.alloc (.cells #[.string (tx ga), .string (tx na), .string (tx va)] 23)).alloc (.cells #[.string (tx gb), .string (tx nb), .string (tx vb)] 23) = w1 := ⟨_, rfl⟩
    go_enter Tryd.func4, Tryd.ntmps4
    go_upto_region 1 with fail
    rw [hw1] at X0
    clear hw1
    obtain ⟨z0, z1, z2, z3, z4, z5⟩ := Q2.rd X0
    rcases hways with h1 | ⟨h1, h2⟩ | ⟨h1, h2, h3⟩
    all_goals
      go_wp2_with fail
      refine (awake9_c _).mono ?_
      rintro e w2 ⟨rfl, b2⟩
      go_wp2_with fail
      go_ret
      exact ⟨rfl, X0.out.2.trans (b2.out.mono X0.out.2.size)⟩
end Go.Proofs.YthmlggglemnfgaaDoor
