/-
  Contract of coord.Less.
-/
import Derived.Test.YthmlggglemnfgaaDoorCoParse
import Derived.Test.YthmlggglemnfgaaDoorCoOrd
import Derived.Test.YthmlggglemnfgaaDoorBe
namespace Go.Proofs.YthmlggglemnfgaaDoor
open Nwl
open Go.RowKit Go.Maps
set_option linter.unusedVariables false
set_option linter.unusedSimpArgs false

/-- two coordinates' boxes -/
def B2 (w : World) (b : Nat) (u0 u1 u2 v0 v1 v2 : Value) : Prop := Blk w b 23 #[u0, u1, u2] ∧ Blk w (b + 1) 23 #[v0, v1, v2]
theorem B2.rd {w : World} {b : Nat} {u0 u1 u2 v0 v1 v2 : Value} (h : Hid (B2 w b u0 u1 u2 v0 v1 v2)) : w.cell? ⟨b, 0, none⟩ = some u0 ∧ w.cell? ⟨b, 1, none⟩ = some u1 ∧ w.cell? ⟨b, 2, none⟩ = some u2 ∧ w.cell? ⟨b + 1, 0, none⟩ = some v0 ∧ w.cell? ⟨b + 1, 1, none⟩ = some v1 ∧ w.cell? ⟨b + 1, 2, none⟩ = some v2 := ⟨h.out.1.cell 0, h.out.1.cell 1, h.out.1.cell 2, h.out.2.cell 0, h.out.2.cell 1, h.out.2.cell 2⟩
theorem B2.below {w w' : World} {b : Nat} {u0 u1 u2 v0 v1 v2 : Value} (h : B2 w b u0 u1 u2 v0 v1 v2) (hb : Below w.heap.size w w') : B2 w' b u0 u1 u2 v0 v1 v2 := ⟨h.1.below hb, h.2.below hb⟩
theorem B2.alloc {w : World} {b : Nat} {u0 u1 u2 v0 v1 v2 : Value} (h : B2 w b u0 u1 u2 v0 v1 v2) (o : Obj) : B2 (w.alloc o) b u0 u1 u2 v0 v1 v2 := ⟨h.1.alloc o, h.2.alloc o⟩
theorem B2.drew {w : World} {b : Nat} {u0 u1 u2 v0 v1 v2 : Value} (h : B2 w b u0 u1 u2 v0 v1 v2) : B2 w.drew b u0 u1 u2 v0 v1 v2 := h
theorem B2.new (w : World) (u0 u1 u2 v0 v1 v2 : Value) : B2 ((w.alloc (.cells #[u0, u1, u2] 23)).alloc (.cells #[v0, v1, v2] 23)) w.heap.size u0 u1 u2 v0 v1 v2 := by
  refine ⟨(Blk.new w _ _).alloc _, ?_⟩
  have := Blk.new (w.alloc (.cells #[u0, u1, u2] 23)) 23 #[v0, v1, v2]
  rw [show (w.alloc (.cells #[u0, u1, u2] 23)).heap.size = w.heap.size + 1 by simp] at this
  exact this

set_option maxRecDepth 100000 in
set_option maxHeartbeats 4000000 in
theorem CLess_c (g1 n1 v1 g2 n2 v2 : List UInt8) (w : World) (h1 : v1.length ≤ 1000) (h2 : v2.length ≤ 1000) (r : Bool) (hr : lessC ⟨g1, n1, v1⟩ ⟨g2, n2, v2⟩ = r) :
    Calls Tryd.prog 17 #[crV g1 n1 v1, crV g2 n2 v2] w fun e w' => e = .returned (.bool r) ∧ Hid (Below w.heap.size w w') := by
  obtain ⟨x, hx⟩ : ∃ x, Lib.compareBytes (bs (tx g1)) (bs (tx g2)) = x := ⟨_, rfl⟩
  obtain ⟨y, hy⟩ : ∃ y, Lib.compareBytes (bs (tx n1)) (bs (tx n2)) = y := ⟨_, rfl⟩
  obtain ⟨p, hp⟩ : ∃ p, cmpV (bs (tx v1)) (bs (tx v2)) = p := ⟨_, rfl⟩
  obtain ⟨q, hq⟩ : ∃ q, Lib.compareBytes (bs (tx v1)) (bs (tx v2)) = q := ⟨_, rfl⟩
  obtain ⟨m, hm⟩ : ∃ m, thenI x y = m := ⟨_, rfl⟩
  obtain ⟨k, hk⟩ : ∃ k, thenI p q = k := ⟨_, rfl⟩
  have HF : Hid (decide (thenI m k < 0) = r) := Lib.hid (by rw [← hr, ← hm, ← hk, ← hx, ← hy, ← hp, ← hq]; rfl)
  have HX := Lib.hid hx
  have HY := Lib.hid hy
  have HP := Lib.hid hp
  have HQ := Lib.hid hq
  have HM := Lib.hid hm
  have HK := Lib.hid hk
  have s1 := tx_small h1
  have s2 := tx_small h2
  clear hr hx hy hp hq hm hk h1 h2
  have X0 := Lib.hid (B2.new w (.string (tx g1)) (.string (tx n1)) (.string (tx v1)) (.string (tx g2)) (.string (tx n2)) (.string (tx v2)))
  have W0 := Lib.hid (((Below.refl w.heap.size w).alloc (Nat.le_refl _) (.cells #[.string (tx g1), .string (tx n1), .string (tx v1)] 23)).alloc (by simp) (.cells #[.string (tx g2), .string (tx n2), .string (tx v2)] 23))
  have SZ : Hid (w.heap.size ≤ ((w.alloc (.cells #[.string (tx g1), .string (tx n1), .string (tx v1)] 23)).alloc (.cells #[.string (tx g2), .string (tx n2), .string (tx v2)] 23)).heap.size) := Lib.hid (by simp; omega)
  obtain ⟨w1, hw1⟩ : ∃ w1, (w.alloc (.cells #[.string (tx g1), .string (tx n1), .string (tx v1)] 23)).alloc (.cells #[.string (tx g2), .string (tx n2), .string (tx v2)] 23) = w1 := ⟨_, rfl⟩
  go_enter Tryd.func17, Tryd.ntmps17
  go_upto_region 1 with fail
  rw [hw1] at X0 W0 SZ
  clear hw1
  have X1 := Lib.hid (X0.out.alloc (.cells #[.int .i64 x, .int .i64 y] 3))
  go_region_held3 (fun w' => w'.cell? ⟨w.heap.size, 0, none⟩ = some (.string (tx g1)) ∧ w'.cell? ⟨w.heap.size, 1, none⟩ = some (.string (tx n1)) ∧ w'.cell? ⟨w.heap.size, 2, none⟩ = some (.string (tx v1)) ∧ w'.cell? ⟨w.heap.size + 1, 0, none⟩ = some (.string (tx g2)) ∧ w'.cell? ⟨w.heap.size + 1, 1, none⟩ = some (.string (tx n2)) ∧ w'.cell? ⟨w.heap.size + 1, 2, none⟩ = some (.string (tx v2))) (first | (have h := B2.rd X0; exact h) | (have h := B2.rd X1; exact h) | fail) (first
    | (go_at_call 27; refine (cmpStr_c (tx g1) (tx g2) _ x HX.out).mono ?_; rintro e w2 ⟨rfl, rfl⟩)
    | (go_at_call 27; refine (cmpStr_c (tx n1) (tx n2) _ y HY.out).mono ?_; rintro e w2 ⟨rfl, rfl⟩)
    | (go_at_call 26; refine (cmpOr_c w1.heap.size x y (w1.alloc (.cells #[.int .i64 x, .int .i64 y] 3)).drew ((Blk.new w1 3 #[.int .i64 x, .int .i64 y]).cell 0) ((Blk.new w1 3 #[.int .i64 x, .int .i64 y]).cell 1) m HM.out).mono ?_; rintro e w3 ⟨rfl, rfl⟩))
  obtain ⟨w2, hw2⟩ : ∃ w2, (w1.alloc (.cells #[.int .i64 x, .int .i64 y] 3)).drew = w2 := ⟨_, rfl⟩
  have X2 : Hid (B2 w2 w.heap.size (.string (tx g1)) (.string (tx n1)) (.string (tx v1)) (.string (tx g2)) (.string (tx n2)) (.string (tx v2))) := Lib.hid (by rw [← hw2]; exact X1.out.drew)
  have W2 : Hid (Below w.heap.size w w2) := Lib.hid (by rw [← hw2]; exact (W0.out.alloc SZ.out _).drew)
  rename_i hheld
  clear hheld
  rw [hw2]
  clear hw2 X1 X0 W0 SZ
  by_cases h0 : m = 0
  · obtain rfl : decide (k < 0) = r := by rw [← HF.out, h0]; rfl
    subst h0
    go_upto_region 4 with fail
    go_region_held3 (fun w' => w'.cell? ⟨w.heap.size, 0, none⟩ = some (.string (tx g1)) ∧ w'.cell? ⟨w.heap.size, 1, none⟩ = some (.string (tx n1)) ∧ w'.cell? ⟨w.heap.size, 2, none⟩ = some (.string (tx v1)) ∧ w'.cell? ⟨w.heap.size + 1, 0, none⟩ = some (.string (tx g2)) ∧ w'.cell? ⟨w.heap.size + 1, 1, none⟩ = some (.string (tx n2)) ∧ w'.cell? ⟨w.heap.size + 1, 2, none⟩ = some (.string (tx v2))) (first | (have h := B2.rd X2; exact h) | (have h := B2.rd X3; exact h) | (have h := B2.rd X4; exact h) | fail) (first
      | (go_at_call 28; refine (Compare_c (tx v1) (tx v2) _ s1 s2 p HP.out).mono ?_; rintro e w3 ⟨rfl, hb3⟩; have X3 := Lib.hid (X2.out.drew.below hb3.out); have W3 := Lib.hid (W2.out.drew.trans (hb3.out.mono W2.out.size)); have X4 := Lib.hid (X3.out.alloc (.cells #[.int .i64 p, .int .i64 q] 3)); have W4 := Lib.hid (W3.out.alloc W3.out.size (.cells #[.int .i64 p, .int .i64 q] 3)); clear hb3)
      | (go_at_call 27; refine (cmpStr_c (tx v1) (tx v2) _ q HQ.out).mono ?_; rintro e w4 ⟨rfl, rfl⟩)
      | (go_at_call 26; refine (cmpOr_c w3.heap.size p q (w3.alloc (.cells #[.int .i64 p, .int .i64 q] 3)) ((Blk.new w3 3 #[.int .i64 p, .int .i64 q]).cell 0) ((Blk.new w3 3 #[.int .i64 p, .int .i64 q]).cell 1) k HK.out).mono ?_; rintro e w5 ⟨rfl, rfl⟩))
    go_wp2_with fail
    go_ret
    exact ⟨rfl, W4⟩
  · have h1 : (m != 0) = true := by rw [bne_iff_ne]; exact h0
    obtain rfl : decide (m < 0) = r := by rw [← HF.out]; unfold thenI; rw [if_neg h0]
    go_wp2_with fail
    go_ret
    exact ⟨rfl, W2⟩
end Go.Proofs.YthmlggglemnfgaaDoor
