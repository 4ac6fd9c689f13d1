/-
  The walk of CoordTells.
-/
import Derived.Test.YthmlggglemnfgaaDoorCoRefPar
import Derived.Test.YthmlggglemnfgaaDoorCoRefLess
import Derived.Test.YthmlggglemnfgaaDoorCoAwake
import Derived.Test.YthmlggglemnfgaaDoorCoArgD
import Derived.Test.YthmlggglemnfgaaDoorBd
namespace Go.Proofs.YthmlggglemnfgaaDoor
open Nwl
open Go.RowKit Go.Maps
set_option linter.unusedVariables false
set_option linter.unusedSimpArgs false

/-- the three arguments' boxes, and what lies behind -/
def R3 (w W : World) (ga na va gb nb vb gd nd vd td cd sd : List UInt8) (od : Bool) (Ad : Option Addr) (ld kd : Nat) : Prop := Blk W w.heap.size 23 #[.string (tx ga), .string (tx na), .string (tx va)] ∧ Blk W (w.heap.size + 1) 23 #[.string (tx gb), .string (tx nb), .string (tx vb)] ∧ Blk W (w.heap.size + 1 + 1) 26 (dpC gd nd vd td cd sd od Ad ld kd) ∧ Below w.heap.size w W
theorem R3.below {w W W' : World} {ga na va gb nb vb gd nd vd td cd sd : List UInt8} {od : Bool} {Ad : Option Addr} {ld kd : Nat} (h : R3 w W ga na va gb nb vb gd nd vd td cd sd od Ad ld kd) (hb : Below W.heap.size W W') : R3 w W' ga na va gb nb vb gd nd vd td cd sd od Ad ld kd := ⟨h.1.below hb, h.2.1.below hb, h.2.2.1.below hb, h.2.2.2.trans (hb.mono h.2.2.2.size)⟩
theorem R3.alloc {w W : World} {ga na va gb nb vb gd nd vd td cd sd : List UInt8} {od : Bool} {Ad : Option Addr} {ld kd : Nat} (h : R3 w W ga na va gb nb vb gd nd vd td cd sd od Ad ld kd) (o : Obj) : R3 w (W.alloc o) ga na va gb nb vb gd nd vd td cd sd od Ad ld kd := ⟨h.1.alloc o, h.2.1.alloc o, h.2.2.1.alloc o, h.2.2.2.alloc h.2.2.2.size o⟩
theorem R3.drew {w W : World} {ga na va gb nb vb gd nd vd td cd sd : List UInt8} {od : Bool} {Ad : Option Addr} {ld kd : Nat} (h : R3 w W ga na va gb nb vb gd nd vd td cd sd od Ad ld kd) : R3 w W.drew ga na va gb nb vb gd nd vd td cd sd od Ad ld kd := ⟨h.1, h.2.1, h.2.2.1, h.2.2.2.drew⟩
theorem R3.rd {w W : World} {ga na va gb nb vb gd nd vd td cd sd : List UInt8} {od : Bool} {Ad : Option Addr} {ld kd : Nat} (h : Hid (R3 w W ga na va gb nb vb gd nd vd td cd sd od Ad ld kd)) : W.cell? ⟨w.heap.size, 0, none⟩ = some (.string (tx ga)) ∧ W.cell? ⟨w.heap.size, 1, none⟩ = some (.string (tx na)) ∧ W.cell? ⟨w.heap.size, 2, none⟩ = some (.string (tx va)) ∧ W.cell? ⟨w.heap.size + 1, 0, none⟩ = some (.string (tx gb)) ∧ W.cell? ⟨w.heap.size + 1, 1, none⟩ = some (.string (tx nb)) ∧ W.cell? ⟨w.heap.size + 1, 2, none⟩ = some (.string (tx vb)) ∧ W.cell? ⟨w.heap.size + 1 + 1, 0, none⟩ = some (.string (tx gd)) ∧ W.cell? ⟨w.heap.size + 1 + 1, 1, none⟩ = some (.string (tx nd)) ∧ W.cell? ⟨w.heap.size + 1 + 1, 2, none⟩ = some (.string (tx vd)) ∧ W.cell? ⟨w.heap.size + 1 + 1, 3, none⟩ = some (.string (tx td)) ∧ W.cell? ⟨w.heap.size + 1 + 1, 4, none⟩ = some (.string (tx cd)) ∧ W.cell? ⟨w.heap.size + 1 + 1, 5, none⟩ = some (.string (tx sd)) ∧ W.cell? ⟨w.heap.size + 1 + 1, 6, none⟩ = some (.bool od) ∧ W.cell? ⟨w.heap.size + 1 + 1, 7, none⟩ = some (.slice Ad ld kd) :=
  ⟨h.out.1.cell 0, h.out.1.cell 1, h.out.1.cell 2, h.out.2.1.cell 0, h.out.2.1.cell 1, h.out.2.1.cell 2, h.out.2.2.1.cell 0, h.out.2.2.1.cell 1, h.out.2.2.1.cell 2, h.out.2.2.1.cell 3, h.out.2.2.1.cell 4, h.out.2.2.1.cell 5, h.out.2.2.1.cell 6, h.out.2.2.1.cell 7⟩
theorem R3.new (w : World) (ga na va gb nb vb gd nd vd td cd sd : List UInt8) (od : Bool) (Ad : Option Addr) (ld kd : Nat) : R3 w (((w.alloc (.cells #[.string (tx ga), .string (tx na), .string (tx va)] 23)).alloc (.cells #[.string (tx gb), .string (tx nb), .string (tx vb)] 23)).alloc (.cells (dpC gd nd vd td cd sd od Ad ld kd) 26)) ga na va gb nb vb gd nd vd td cd sd od Ad ld kd := by
  have h1 := Blk.new w 23 #[.string (tx ga), .string (tx na), .string (tx va)]
  have h2 := Blk.new (w.alloc (.cells #[.string (tx ga), .string (tx na), .string (tx va)] 23)) 23 #[.string (tx gb), .string (tx nb), .string (tx vb)]
  have h3 := Blk.new ((w.alloc (.cells #[.string (tx ga), .string (tx na), .string (tx va)] 23)).alloc (.cells #[.string (tx gb), .string (tx nb), .string (tx vb)] 23)) 26 (dpC gd nd vd td cd sd od Ad ld kd)
  have z1 : (w.alloc (.cells #[.string (tx ga), .string (tx na), .string (tx va)] 23)).heap.size = w.heap.size + 1 := by simp
  have z2 : ((w.alloc (.cells #[.string (tx ga), .string (tx na), .string (tx va)] 23)).alloc (.cells #[.string (tx gb), .string (tx nb), .string (tx vb)] 23)).heap.size = w.heap.size + 1 + 1 := by simp
  rw [z1] at h2
  rw [z2] at h3
  exact ⟨(h1.alloc _).alloc _, h2.alloc _, h3, (((Below.refl _ _).alloc (Nat.le_refl _) _).alloc (by omega) _).alloc (by omega) _⟩
/-- .. and the two answers' boxes -/
def R5 (w W : World) (x y : Nat) (g n v : List UInt8) (ga na va gb nb vb gd nd vd td cd sd : List UInt8) (od : Bool) (Ad : Option Addr) (ld kd : Nat) : Prop := R3 w W ga na va gb nb vb gd nd vd td cd sd od Ad ld kd ∧ Blk W x 23 #[.string (tx g), .string (tx n), .string (tx v)] ∧ Blk W y 23 #[.string (tx g), .string (tx n), .string (tx v)]
theorem R5.below {w W W' : World} {x y : Nat} {g n v ga na va gb nb vb gd nd vd td cd sd : List UInt8} {od : Bool} {Ad : Option Addr} {ld kd : Nat} (h : R5 w W x y g n v ga na va gb nb vb gd nd vd td cd sd od Ad ld kd) (hb : Below W.heap.size W W') : R5 w W' x y g n v ga na va gb nb vb gd nd vd td cd sd od Ad ld kd := ⟨h.1.below hb, h.2.1.below hb, h.2.2.below hb⟩
theorem R5.drew {w W : World} {x y : Nat} {g n v ga na va gb nb vb gd nd vd td cd sd : List UInt8} {od : Bool} {Ad : Option Addr} {ld kd : Nat} (h : R5 w W x y g n v ga na va gb nb vb gd nd vd td cd sd od Ad ld kd) : R5 w W.drew x y g n v ga na va gb nb vb gd nd vd td cd sd od Ad ld kd := ⟨h.1.drew, h.2.1, h.2.2⟩
theorem R5.rd {w W : World} {x y : Nat} {g n v ga na va gb nb vb gd nd vd td cd sd : List UInt8} {od : Bool} {Ad : Option Addr} {ld kd : Nat} (h : Hid (R5 w W x y g n v ga na va gb nb vb gd nd vd td cd sd od Ad ld kd)) : W.cell? ⟨w.heap.size, 0, none⟩ = some (.string (tx ga)) ∧ W.cell? ⟨w.heap.size, 1, none⟩ = some (.string (tx na)) ∧ W.cell? ⟨w.heap.size, 2, none⟩ = some (.string (tx va)) ∧ W.cell? ⟨w.heap.size + 1, 0, none⟩ = some (.string (tx gb)) ∧ W.cell? ⟨w.heap.size + 1, 1, none⟩ = some (.string (tx nb)) ∧ W.cell? ⟨w.heap.size + 1, 2, none⟩ = some (.string (tx vb)) ∧ W.cell? ⟨w.heap.size + 1 + 1, 0, none⟩ = some (.string (tx gd)) ∧ W.cell? ⟨w.heap.size + 1 + 1, 1, none⟩ = some (.string (tx nd)) ∧ W.cell? ⟨w.heap.size + 1 + 1, 2, none⟩ = some (.string (tx vd)) ∧ W.cell? ⟨w.heap.size + 1 + 1, 3, none⟩ = some (.string (tx td)) ∧ W.cell? ⟨w.heap.size + 1 + 1, 4, none⟩ = some (.string (tx cd)) ∧ W.cell? ⟨w.heap.size + 1 + 1, 5, none⟩ = some (.string (tx sd)) ∧ W.cell? ⟨w.heap.size + 1 + 1, 6, none⟩ = some (.bool od) ∧ W.cell? ⟨w.heap.size + 1 + 1, 7, none⟩ = some (.slice Ad ld kd) ∧ W.cell? ⟨x, 0, none⟩ = some (.string (tx g)) ∧ W.cell? ⟨x, 1, none⟩ = some (.string (tx n)) ∧ W.cell? ⟨x, 2, none⟩ = some (.string (tx v)) ∧ W.cell? ⟨y, 0, none⟩ = some (.string (tx g)) ∧ W.cell? ⟨y, 1, none⟩ = some (.string (tx n)) ∧ W.cell? ⟨y, 2, none⟩ = some (.string (tx v)) :=
  ⟨h.out.1.1.cell 0, h.out.1.1.cell 1, h.out.1.1.cell 2, h.out.1.2.1.cell 0, h.out.1.2.1.cell 1, h.out.1.2.1.cell 2, h.out.1.2.2.1.cell 0, h.out.1.2.2.1.cell 1, h.out.1.2.2.1.cell 2, h.out.1.2.2.1.cell 3, h.out.1.2.2.1.cell 4, h.out.1.2.2.1.cell 5, h.out.1.2.2.1.cell 6, h.out.1.2.2.1.cell 7, h.out.2.1.cell 0, h.out.2.1.cell 1, h.out.2.1.cell 2, h.out.2.2.cell 0, h.out.2.2.cell 1, h.out.2.2.cell 2⟩

set_option maxRecDepth 100000 in
set_option maxHeartbeats 8000000 in
theorem tells_small (s : ByteArray) (ga na va gb nb vb : List UInt8) (d : Dpd) (w : World) (ha : CrdOk ⟨ga, na, va⟩) (hd : DpdOk d) (h0 : s.size ≤ 1000) (h1 : va.length ≤ 200) (h2 : vb.length ≤ 200) :
    Calls Tryd.prog 3 #[.string s, crV ga na va, crV gb nb vb, dpW d] w fun e w' => e = .returned (.bool true) ∧ Below w.heap.size w w' := by
  obtain ⟨gd, nd, vd, td, cd, sd, od, Ad, ld, kd⟩ := d
  have hga : ga.length ≤ 1000000000000000 := by have := ha.1; unfold reachBytes at this; dsimp only at this; omega
  have hna : na.length ≤ 1000000000000000 := by have := ha.2.1; unfold reachBytes at this; dsimp only at this; omega
  have hva : va.length ≤ 1000000000000000 := by omega
  have hgd : gd.length ≤ 1000000000000000 := by have := hd.1; unfold reachBytes at this; dsimp only at this; omega
  have hnd : nd.length ≤ 1000000000000000 := by have := hd.2.1; unfold reachBytes at this; dsimp only at this; omega
  have htd : td.length ≤ 1000000000000000 := by have := hd.2.2.2.1; unfold reachBytes at this; dsimp only at this; omega
  have hcd : cd.length ≤ 1000000000000000 := by have := hd.2.2.2.2; unfold reachBytes at this; dsimp only at this; omega
  obtain ⟨T, hT⟩ : ∃ T, textC ⟨ga, na, va⟩ = T := ⟨_, rfl⟩
  obtain ⟨K, hK⟩ : ∃ K, keyL gd nd td cd = K := ⟨_, rfl⟩
  obtain ⟨g, n, v, b, hp⟩ : ∃ g n v b, parX (bs s) = (⟨g, n, v⟩, b) := ⟨_, _, _, _, rfl⟩
  obtain ⟨i, hi⟩ : ∃ i, idL (bs s) = i := ⟨_, rfl⟩
  obtain ⟨r, hr⟩ : ∃ r, coordL ⟨ga, na, va⟩ = r := ⟨_, rfl⟩
  obtain ⟨p, hl⟩ : ∃ p, lessC ⟨ga, na, va⟩ ⟨gb, nb, vb⟩ = p := ⟨_, rfl⟩
  have HT := Lib.hid hT
  have HK := Lib.hid hK
  have HP := Lib.hid hp
  have HI := Lib.hid hi
  have HR := Lib.hid hr
  have HL := Lib.hid hl
  have k1 : ¬ (1000 : Int) < (s.size : Int) := by omega
  have k2 : ¬ (200 : Int) < ((tx va).size : Int) := by rw [tx_size]; omega
  have k3 : ¬ (200 : Int) < ((tx vb).size : Int) := by rw [tx_size]; omega
  have m1 : va.length ≤ 1000 := by omega
  have m2 : vb.length ≤ 1000 := by omega
  have m3 : s.size ≤ 1000000000000000 := by omega
  have m4 : s.size ≤ 1000000 := by omega
  have X0 := Lib.hid (R3.new w ga na va gb nb vb gd nd vd td cd sd od Ad ld kd)
  clear hT hK hp hi hr hl ha hd h0 h1 h2
  obtain ⟨w1, hw1⟩ : ∃ w1, ((w.alloc (.cells #[.string (tx ga), .string (tx na), .string (tx va)] 23)).alloc (.cells #[.string (tx gb), .string (tx nb), .string (tx vb)] 23)).alloc (.cells (dpC gd nd vd td cd sd od Ad ld kd) 26) = w1 := ⟨_, rfl⟩
  go_enter Tryd.func3, Tryd.ntmps3
  go_upto_region 1 with fail
  rw [hw1] at X0
  clear hw1
  obtain ⟨z0, z1, z2, z3, z4, z5, -⟩ := R3.rd X0
  go_wp2_with fail
  refine (CParse_c s _ m3 g n v b HP.out).mono ?_
  rintro e w2 ⟨rfl, c2⟩
  have X2 := Lib.hid ((X0.out.below c2.out).alloc (.cells #[.string (tx g), .string (tx n), .string (tx v)] 23))
  have Y2 := Lib.hid (Blk.new w2 23 #[.string (tx g), .string (tx n), .string (tx v)])
  clear c2 X0 z0 z1 z2 z3 z4 z5 k1 k2 k3
  go_upto_region 4 with fail
  obtain ⟨w3, hw3⟩ : ∃ w3, w2.alloc (.cells #[.string (tx g), .string (tx n), .string (tx v)] 23) = w3 := ⟨_, rfl⟩
  rw [hw3] at X2 Y2 ⊢
  clear hw3
  go_wp2_with fail
  refine (rParse9_c s _ m4 g n v b HP.out).mono ?_
  rintro e w4 ⟨rfl, c4⟩
  have X4 : Hid (R5 w (w4.alloc (.cells #[.string (tx g), .string (tx n), .string (tx v)] 23)) w2.heap.size w4.heap.size g n v ga na va gb nb vb gd nd vd td cd sd od Ad ld kd) := Lib.hid ⟨(X2.out.below c4.out).alloc _, (Y2.out.below c4.out).alloc _, Blk.new w4 23 #[.string (tx g), .string (tx n), .string (tx v)]⟩
  clear c4 X2 Y2
  go_upto_region 5 with fail
  obtain ⟨w5, hw5⟩ : ∃ w5, w4.alloc (.cells #[.string (tx g), .string (tx n), .string (tx v)] 23) = w5 := ⟨_, rfl⟩
  rw [hw5] at X4 ⊢
  clear hw5
  go_region_held3 (fun w' => w'.cell? ⟨w.heap.size, 0, none⟩ = some (.string (tx ga)) ∧ w'.cell? ⟨w.heap.size, 1, none⟩ = some (.string (tx na)) ∧ w'.cell? ⟨w.heap.size, 2, none⟩ = some (.string (tx va)) ∧ w'.cell? ⟨w.heap.size + 1, 0, none⟩ = some (.string (tx gb)) ∧ w'.cell? ⟨w.heap.size + 1, 1, none⟩ = some (.string (tx nb)) ∧ w'.cell? ⟨w.heap.size + 1, 2, none⟩ = some (.string (tx vb)) ∧ w'.cell? ⟨w.heap.size + 1 + 1, 0, none⟩ = some (.string (tx gd)) ∧ w'.cell? ⟨w.heap.size + 1 + 1, 1, none⟩ = some (.string (tx nd)) ∧ w'.cell? ⟨w.heap.size + 1 + 1, 2, none⟩ = some (.string (tx vd)) ∧ w'.cell? ⟨w.heap.size + 1 + 1, 3, none⟩ = some (.string (tx td)) ∧ w'.cell? ⟨w.heap.size + 1 + 1, 4, none⟩ = some (.string (tx cd)) ∧ w'.cell? ⟨w.heap.size + 1 + 1, 5, none⟩ = some (.string (tx sd)) ∧ w'.cell? ⟨w.heap.size + 1 + 1, 6, none⟩ = some (.bool od) ∧ w'.cell? ⟨w.heap.size + 1 + 1, 7, none⟩ = some (.slice Ad ld kd) ∧ w'.cell? ⟨w2.heap.size, 0, none⟩ = some (.string (tx g)) ∧ w'.cell? ⟨w2.heap.size, 1, none⟩ = some (.string (tx n)) ∧ w'.cell? ⟨w2.heap.size, 2, none⟩ = some (.string (tx v)) ∧ w'.cell? ⟨w4.heap.size, 0, none⟩ = some (.string (tx g)) ∧ w'.cell? ⟨w4.heap.size, 1, none⟩ = some (.string (tx n)) ∧ w'.cell? ⟨w4.heap.size, 2, none⟩ = some (.string (tx v))) (first | (have h := R5.rd X4; exact h) | (have h := R5.rd X5; exact h) | (have h := R5.rd X6; exact h) | (have h := R5.rd X7; exact h) | (have h := R5.rd X8; exact h) | (have h := R5.rd X9; exact h) | (have h := R5.rd XA; exact h) | (have h := R5.rd XB; exact h) | (have h := R5.rd XC; exact h) | (have h := R5.rd XD; exact h) | fail) (first
    | (go_at_call 6; refine (awake9_c _).mono ?_; rintro e q5 ⟨rfl, c5⟩; have X5 := Lib.hid (X4.out.drew.below c5.out); clear c5)
    | (go_at_call 9; refine (Id_c s _ m3 i HI.out).mono ?_; rintro e q6 ⟨rfl, rfl⟩)
    | (go_at_call 10; refine (rId_c s _ m3 i HI.out).mono ?_; rintro e q6 ⟨rfl, rfl⟩)
    | (go_at_call 11; refine (CRight_c ga na va _ hga hna hva r HR.out).mono ?_; rintro e q6 ⟨rfl, c6⟩; have X6 := Lib.hid (X5.out.below c6.out); clear c6)
    | (go_at_call 12; refine (rCoord_c ga na va _ hga hna hva r HR.out).mono ?_; rintro e q7 ⟨rfl, c7⟩; have X7 := Lib.hid (X6.out.below c7.out); clear c7)
    | (go_at_call 13; refine (CText_c ga na va _ hga hna hva T HT.out).mono ?_; rintro e q8 ⟨rfl, c8⟩; have X8 := Lib.hid (X7.out.below c8.out); clear c8)
    | (go_at_call 14; refine (rText9_c ga na va _ hga hna hva T HT.out).mono ?_; rintro e q9 ⟨rfl, c9⟩; have X9 := Lib.hid (X8.out.below c9.out); clear c9)
    | (go_at_call 15; refine (CKey_c gd nd vd td cd sd od Ad ld kd _ hgd hnd htd hcd K HK.out).mono ?_; rintro e qA ⟨rfl, cA⟩; have XA := Lib.hid (X9.out.below cA.out); clear cA)
    | (go_at_call 16; refine (rKey_c gd nd vd td cd sd od Ad ld kd _ hgd hnd htd hcd K HK.out).mono ?_; rintro e qB ⟨rfl, cB⟩; have XB := Lib.hid (XA.out.below cB.out); clear cB)
    | (go_at_call 17; refine (CLess_c ga na va gb nb vb _ m1 m2 p HL.out).mono ?_; rintro e qC ⟨rfl, cC⟩; have XC := Lib.hid (XB.out.below cC.out); clear cC)
    | (go_at_call 18; refine (rLess9_c ga na va gb nb vb _ m1 m2 p HL.out).mono ?_; rintro e qD ⟨rfl, cD⟩; have XD := Lib.hid (XC.out.below cD.out); clear cD))
  go_wp2_with fail
  go_ret
  exact ⟨rfl, XD.out.1.2.2.2⟩

set_option maxRecDepth 100000 in
set_option maxHeartbeats 2000000 in
theorem CoordTells_walk (s : ByteArray) (a b : Crd) (d : Dpd) (w : World) (hs : s.size ≤ maxLen) (ha : CrdOk a) (hb : CrdOk b) (hd : DpdOk d) (hG : Glob w) :
    Calls Tryd.prog 3 #[.string s, crV a.g a.n a.v, crV b.g b.n b.v, dpW d] w fun e w' => e = .returned (.bool true) ∧ Below w.heap.size w w' := by
  obtain ⟨ga, na, va⟩ := a
  obtain ⟨gb, nb, vb⟩ := b
  clear hG
  by_cases hsm : s.size ≤ 1000 ∧ va.length ≤ 200 ∧ vb.length ≤ 200
  · exact tells_small s ga na va gb nb vb d w ha hd hsm.1 hsm.2.1 hsm.2.2
  · obtain ⟨gd, nd, vd, td, cd, sd, od, Ad, ld, kd⟩ := d
    have X0 := Lib.hid (R3.new w ga na va gb nb vb gd nd vd td cd sd od Ad ld kd)
    have hways : (1000 : Int) < (s.size : Int) ∨ (¬ (1000 : Int) < (s.size : Int) ∧ (200 : Int) < ((tx va).size : Int)) ∨ (¬ (1000 : Int) < (s.size : Int) ∧ ¬ (200 : Int) < ((tx va).size : Int) ∧ (200 : Int) < ((tx vb).size : Int)) := by
      rw [tx_size, tx_size]; omega
    clear hsm ha hb hd
    obtain ⟨w1, hw1⟩ : ∃ w1, ((w.alloc (.cells #[.string (tx ga), .string (tx na), .string (tx va)] 23)).alloc (.cells #[.string (tx gb), .string (tx nb), .string (tx vb)] 23)).alloc (.cells (dpC gd nd vd td cd sd od Ad ld kd) 26) = w1 := ⟨_, rfl⟩
    go_enter Tryd.func3, Tryd.ntmps3
    go_upto_region 1 with fail
    rw [hw1] at X0
    clear hw1
    obtain ⟨z0, z1, z2, z3, z4, z5, -⟩ := R3.rd X0
    rcases hways with h1 | ⟨h1, h2⟩ | ⟨h1, h2, h3⟩
    all_goals
      go_wp2_with fail
      refine (awake9_c _).mono ?_
      rintro e w2 ⟨rfl, b2⟩
      go_wp2_with fail
      go_ret
      exact ⟨rfl, X0.out.2.2.2.trans (b2.out.mono X0.out.2.2.2.size)⟩
end Go.Proofs.YthmlggglemnfgaaDoor
