/-
  Contract of coord.Parse.
-/
import Derived.Test.YthmlggglemnfgaaCoText
import Derived.Test.YthmlggglemnfgaaBa
namespace Go.Proofs.Ythmlggglemnfgaa
open Nwl
open Go.RowKit Go.Maps
set_option linter.unusedVariables false
set_option linter.unusedSimpArgs false

/-- a coordinate with nothing in it -/
abbrev cz : Array Value := #[.string ⟨#[]⟩, .string ⟨#[]⟩, .string ⟨#[]⟩]
/-- the box for an answer, and what lies behind -/
def KX (w W : World) : Prop := Blk W w.heap.size 32 cz ∧ Below w.heap.size w W
theorem KX.start (w : World) : KX w (w.alloc (.cells cz 32)) := ⟨Blk.new w _ _, (Below.refl _ _).alloc (Nat.le_refl _) _⟩
theorem KX.below {w W W' : World} (h : KX w W) (hb : Below W.heap.size W W') : KX w W' := ⟨h.1.below hb, h.2.trans (hb.mono h.2.size)⟩
theorem KX.alloc {w W : World} (h : KX w W) (o : Obj) : KX w (W.alloc o) := ⟨h.1.alloc o, h.2.alloc h.2.size o⟩
theorem KX.fz {w W : World} (h : KX w W) : W.cell? ⟨w.heap.size, 0, none⟩ = some (.string ⟨#[]⟩) ∧ W.cell? ⟨w.heap.size, 1, none⟩ = some (.string ⟨#[]⟩) ∧ W.cell? ⟨w.heap.size, 2, none⟩ = some (.string ⟨#[]⟩) ∧ W.frozen? ⟨w.heap.size, 0, none⟩ = false ∧ W.frozen? ⟨w.heap.size, 1, none⟩ = false ∧ W.frozen? ⟨w.heap.size, 2, none⟩ = false := ⟨h.1.cell 0, h.1.cell 1, h.1.cell 2, h.1.frozen 0, h.1.frozen 1, h.1.frozen 2⟩
abbrev St3 (W : World) (h : Nat) (v0 v1 v2 : Value) : World := ((W.setCell ⟨h, 0, none⟩ v0).setCell ⟨h, 1, none⟩ v1).setCell ⟨h, 2, none⟩ v2
theorem KX.ed {w W : World} (h : KX w W) (v0 v1 v2 : Value) : (W.setCell ⟨w.heap.size, 0, none⟩ v0).cell? ⟨w.heap.size, 0, none⟩ = some v0
    ∧ ((W.setCell ⟨w.heap.size, 0, none⟩ v0).setCell ⟨w.heap.size, 1, none⟩ v1).cell? ⟨w.heap.size, 1, none⟩ = some v1
    ∧ (St3 W w.heap.size v0 v1 v2).cell? ⟨w.heap.size, 2, none⟩ = some v2 := ⟨(h.1.set 0 _).cell 0, ((h.1.set 0 _).set 1 _).cell 1, (((h.1.set 0 _).set 1 _).set 2 _).cell 2⟩
theorem KX.fin {w W : World} (h : KX w W) (v0 v1 v2 : Value) : Below w.heap.size w (St3 W w.heap.size v0 v1 v2) :=
  ((h.2.setCell (Nat.le_refl _) _).setCell (Nat.le_refl _) _).setCell (Nat.le_refl _) _

set_option maxRecDepth 100000 in
set_option maxHeartbeats 2000000 in
theorem CParse_c (s : ByteArray) (w : World) (hs : s.size ≤ 1000000000000000) (g n v : List UInt8) (b : Bool) (hF : parX (bs s) = (⟨g, n, v⟩, b)) :
    Calls Try.prog 9 #[.string s] w fun e w' => e = .returned (.tuple #[crV g n v, .bool b]) ∧ Hid (Below w.heap.size w w') := by
  obtain ⟨x, r, f, hc⟩ : ∃ x r f, Lib.cut (bs s) [58] = (x, r, f) := ⟨_, _, _, rfl⟩
  obtain ⟨y, z, f2, hc2⟩ : ∃ y z f2, Lib.cut r [58] = (y, z, f2) := ⟨_, _, _, rfl⟩
  have l1 := cut1_len (bs s)
  have l2 := cut1_len r
  rw [hc, bs_length] at l1
  rw [hc2] at l2
  have e : cutC (bs s) = ⟨x, y, z⟩ := by unfold cutC; rw [hc]; dsimp only; rw [hc2]
  obtain ⟨q, hq⟩ : ∃ q, coordL ⟨x, y, z⟩ = q := ⟨_, rfl⟩
  have hF2 : (if q = true then ((⟨x, y, z⟩ : Crd), true) else (⟨[], [], []⟩, false)) = (⟨g, n, v⟩, b) := by rw [← hF, ← hq]; unfold parX; rw [e]
  have lx : x.length ≤ 1000000000000000 := Nat.le_trans l1.1 hs
  have lr : r.length ≤ 1000000000000000 := Nat.le_trans l1.2 hs
  have ly : y.length ≤ 1000000000000000 := Nat.le_trans l2.1 lr
  have lz : z.length ≤ 1000000000000000 := Nat.le_trans l2.2 lr
  have sr := tx_small lr
  have HC := Lib.hid hc
  have HC2 : Hid (Lib.cut (bs (tx r)) [58] = (y, z, f2)) := Lib.hid hc2
  have HQ := Lib.hid hq
  have X0 := Lib.hid (KX.start w)
  clear hF hc hc2 l1 l2 e hq
  go_enter Try.func9, Try.ntmps9
  go_wp2_with fail
  refine (Cut_c s _ hs x r f HC.out).mono ?_
  rintro e w1 ⟨rfl, hb1⟩
  have X1 := Lib.hid (X0.out.below hb1.out)
  clear hb1 X0
  go_wp2_with fail
  refine (Cut_c (tx r) _ sr y z f2 HC2.out).mono ?_
  rintro e w2 ⟨rfl, hb2⟩
  have X2 := Lib.hid (X1.out.below hb2.out)
  have Y2 := Lib.hid (Blk.new w2 32 #[.string (tx x), .string (tx y), .string (tx z)])
  have X3 := Lib.hid (X2.out.alloc (.cells #[.string (tx x), .string (tx y), .string (tx z)] 32))
  clear hb2 X1 X2
  go_wp2_with fail
  refine (CRight_c x y z _ lx ly lz q HQ.out).mono ?_
  rintro e w4 ⟨rfl, hb4⟩
  have X4 := Lib.hid (X3.out.below hb4.out)
  have Y4 := Lib.hid (Y2.out.below hb4.out)
  clear hb4 X3 Y2
  obtain ⟨z0, z1, z2, f0, f1, f2⟩ := KX.fz X4.out
  cases q with
  | false =>
    injection hF2 with p1 p2
    injection p1 with p3 p4 p5
    subst p2 p3 p4 p5
    have QQ := Lib.hid (KX.fin X4.out (.string ⟨#[]⟩) (.string ⟨#[]⟩) (.string ⟨#[]⟩))
    have DD := Lib.hid (KX.ed X4.out (.string ⟨#[]⟩) (.string ⟨#[]⟩) (.string ⟨#[]⟩))
    go_wp2_with fail
    exact bodyPost_ret (v := .tuple #[crV [] [] [], .bool false]) (by obtain ⟨d0, d1, d2⟩ := DD.out; simp [results, Try.results9, go_sem, d0, d1, d2, tx]) rfl ⟨rfl, QQ⟩
  | true =>
    injection hF2 with p1 p2
    injection p1 with p3 p4 p5
    subst p2 p3 p4 p5
    have y0 := Y4.out.cell 0
    have y1 := Y4.out.cell 1
    have y2 := Y4.out.cell 2
    have QQ := Lib.hid (KX.fin X4.out (.string (tx x)) (.string (tx y)) (.string (tx z)))
    have DD := Lib.hid (KX.ed X4.out (.string (tx x)) (.string (tx y)) (.string (tx z)))
    go_wp2_with fail
    exact bodyPost_ret (v := .tuple #[crV x y z, .bool true]) (by obtain ⟨d0, d1, d2⟩ := DD.out; simp [results, Try.results9, go_sem, d0, d1, d2]) rfl ⟨rfl, QQ⟩
end Go.Proofs.Ythmlggglemnfgaa
