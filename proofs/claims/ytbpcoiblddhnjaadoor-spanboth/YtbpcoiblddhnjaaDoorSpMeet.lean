/-
  Contracts of span.tighter and span.meet.
-/
import Derived.Test.YtbpcoiblddhnjaaDoorSpMem
import Derived.Test.YtbpcoiblddhnjaaDoorSpCut
namespace Go.Proofs.YtbpcoiblddhnjaaDoor
open Nwl
open Go.RowKit Go.Maps
set_option linter.unusedVariables false
set_option linter.unusedSimpArgs false

/-- two bounds and the one under way, in their boxes -/
def TB (w W : World) (a b : ByteArray) (p q : Bool) (u0 u1 : Value) : Prop :=
  Blk W w.heap.size 66 #[.string a, .bool p] ∧ Blk W (w.heap.size + 1) 66 #[.string b, .bool q] ∧ Blk W (w.heap.size + 2) 66 #[u0, u1] ∧ Below w.heap.size w W
theorem TB.new (w : World) (a b : ByteArray) (p q : Bool) (u0 u1 : Value) : TB w (((w.alloc (.cells #[.string a, .bool p] 66)).alloc (.cells #[.string b, .bool q] 66)).alloc (.cells #[u0, u1] 66)) a b p q u0 u1 := by
  refine ⟨((Blk.new w _ _).alloc _).alloc _, ?_, ?_, (((Below.refl _ _).alloc (Nat.le_refl _) _).alloc (by simp) _).alloc (by simp; omega) _⟩
  · have := (Blk.new (w.alloc (.cells #[.string a, .bool p] 66)) 66 #[.string b, .bool q]).alloc (.cells #[u0, u1] 66)
    simpa using this
  · have := Blk.new ((w.alloc (.cells #[.string a, .bool p] 66)).alloc (.cells #[.string b, .bool q] 66)) 66 #[u0, u1]
    simpa using this
theorem TB.rd {w W : World} {a b : ByteArray} {p q : Bool} {u0 u1 : Value} (h : Hid (TB w W a b p q u0 u1)) : W.cell? ⟨w.heap.size, 0, none⟩ = some (.string a) ∧ W.cell? ⟨w.heap.size, 1, none⟩ = some (.bool p) ∧ W.cell? ⟨w.heap.size + 1, 0, none⟩ = some (.string b) ∧ W.cell? ⟨w.heap.size + 1, 1, none⟩ = some (.bool q) ∧ W.cell? ⟨w.heap.size + 2, 0, none⟩ = some u0 ∧ W.cell? ⟨w.heap.size + 2, 1, none⟩ = some u1 := ⟨h.out.1.cell 0, h.out.1.cell 1, h.out.2.1.cell 0, h.out.2.1.cell 1, h.out.2.2.1.cell 0, h.out.2.2.1.cell 1⟩
theorem TB.fz {w W : World} {a b : ByteArray} {p q : Bool} {u0 u1 : Value} (h : Hid (TB w W a b p q u0 u1)) : W.frozen? ⟨w.heap.size + 2, 0, none⟩ = false ∧ W.frozen? ⟨w.heap.size + 2, 1, none⟩ = false := ⟨h.out.2.2.1.frozen 0, h.out.2.2.1.frozen 1⟩
theorem TB.step {w W W' : World} {a b : ByteArray} {p q : Bool} {u0 u1 : Value} (h : Hid (TB w W a b p q u0 u1)) (hb : Hid (Below W.heap.size W W')) : Hid (TB w W' a b p q u0 u1) := Lib.hid ⟨h.out.1.below hb.out, h.out.2.1.below hb.out, h.out.2.2.1.below hb.out, h.out.2.2.2.trans (hb.out.mono h.out.2.2.2.size)⟩
theorem TB.put {w W : World} {a b : ByteArray} {p q : Bool} {u0 u1 : Value} (h : Hid (TB w W a b p q u0 u1)) (v0 v1 : Value) : Hid (Blk ((W.setCell ⟨w.heap.size + 2, 0, none⟩ v0).setCell ⟨w.heap.size + 2, 1, none⟩ v1) (w.heap.size + 2) 66 #[v0, v1] ∧ Below w.heap.size w ((W.setCell ⟨w.heap.size + 2, 0, none⟩ v0).setCell ⟨w.heap.size + 2, 1, none⟩ v1)) :=
  Lib.hid ⟨(h.out.2.2.1.set 0 v0).set 1 v1, (h.out.2.2.2.setCell (by show w.heap.size ≤ w.heap.size + 2; omega) _).setCell (by show w.heap.size ≤ w.heap.size + 2; omega) _⟩

set_option maxRecDepth 100000 in
set_option maxHeartbeats 2000000 in
theorem tighter_w (a b : ByteArray) (p q : Bool) (side : Int) (hside : side = 1 ∨ side = -1) (w : World) (ha : a.size ≤ 1000) (hb : b.size ≤ 1000) (x : List UInt8 × Bool) (hx : tightS (bs a, p) (bs b, q) side = x) :
    Calls Tryd.prog 37 #[.agg #[.string a, .bool p], .agg #[.string b, .bool q], .int .i64 side] w fun e w' => e = .returned (.agg #[.string (tx x.1), .bool x.2]) ∧ Hid (Below w.heap.size w w') := by
  have X0 := Lib.hid (TB.new w a b p q (.string ⟨#[]⟩) (.bool false))
  obtain ⟨k0, k1, k2, k3, k4, k5⟩ := TB.rd X0
  obtain ⟨f0, f1⟩ := TB.fz X0
  by_cases h0 : a.size = 0
  · have he : a.toList = [] := toList_nil_of a h0
    obtain rfl : (bs b, q) = x := by rw [← hx]; unfold tightS; rw [if_pos (bs_nil h0)]
    have XF := Lib.hid (TB.new w a b p q (.string b) (.bool q))
    clear hx h0
    go_enter Tryd.func37, Tryd.ntmps37
    go_wp2_with fail
    obtain ⟨j0, j1, j2, j3, j4, j5⟩ := TB.rd XF
    refine bodyPost_ret (v := .agg #[.string b, .bool q]) ?_ rfl ⟨rfl, Lib.hid XF.out.2.2.2⟩
    simp [results, Tryd.results37, go_sem, j4, j5]
  · have hs : 0 < a.size := by omega
    have hne : (a.toList == []) = false := by rw [toList_bs]; exact bs_beq_nil hs
    have hal : bs a ≠ [] := by rw [bs_hd hs]; simp
    by_cases h1 : b.size = 0
    · have he : b.toList = [] := toList_nil_of b h1
      obtain rfl : (bs a, p) = x := by rw [← hx]; unfold tightS; rw [if_neg hal, if_pos (bs_nil h1)]
      have XF := Lib.hid (TB.new w a b p q (.string a) (.bool p))
      clear hx h0 h1 hal
      go_enter Tryd.func37, Tryd.ntmps37
      go_wp2_with fail
      obtain ⟨j0, j1, j2, j3, j4, j5⟩ := TB.rd XF
      refine bodyPost_ret (v := .agg #[.string a, .bool p]) ?_ rfl ⟨rfl, Lib.hid XF.out.2.2.2⟩
      simp [results, Tryd.results37, go_sem, j4, j5]
    · have hs2 : 0 < b.size := by omega
      have hne2 : (b.toList == []) = false := by rw [toList_bs]; exact bs_beq_nil hs2
      have hbl : bs b ≠ [] := by rw [bs_hd hs2]; simp
      have hx2 : (if side * cmpV (bs a) (bs b) = 1 then (bs a, p) else if side * cmpV (bs a) (bs b) = -1 then (bs b, q) else (bs a, p && q)) = x := by
        rw [← hx]; unfold tightS; rw [if_neg hal, if_neg hbl]
      obtain ⟨c, hc⟩ : ∃ c, cmpV (bs a) (bs b) = c := ⟨_, rfl⟩
      have hsg := ord_v.sgn (bs a) (bs b)
      rw [hc] at hsg hx2
      have HC := Lib.hid hc
      obtain ⟨y, hy⟩ : ∃ y, side * c = y := ⟨_, rfl⟩
      rw [hy] at hx2
      have hyy : y = 1 ∨ y = -1 ∨ y = 0 := by
        rw [← hy]
        rcases hside with rfl | rfl <;> rcases hsg with rfl | rfl | rfl <;> decide
      have hyw : IntKind.i64.wrap (side * c) = y := by
        rw [hy]
        rcases hyy with rfl | rfl | rfl <;> decide
      clear hx hc hsg hside h0 h1 hal hbl
      rcases hyy with rfl | rfl | rfl
      · obtain rfl : (bs a, p) = x := by rw [← hx2]; rfl
        clear hx2
        go_enter Tryd.func37, Tryd.ntmps37
        go_wp2_with fail
        refine (Compare_c a b _ ha hb c HC.out).mono ?_
        rintro e w1 ⟨rfl, b1⟩
        have X1 := TB.step X0 b1
        clear k0 k1 k2 k3 k4 k5 f0 f1
        obtain ⟨k0, k1, k2, k3, k4, k5⟩ := TB.rd X1
        obtain ⟨f0, f1⟩ := TB.fz X1
        have XP := TB.put X1 (.string a) (.bool p)
        go_wp2_with fail
        have j4 := XP.out.1.cell 0
        have j5 := XP.out.1.cell 1
        refine bodyPost_ret (v := .agg #[.string a, .bool p]) ?_ rfl ⟨rfl, Lib.hid XP.out.2⟩
        simp at j4 j5
        simp [results, Tryd.results37, go_sem, j4, j5]
      · obtain rfl : (bs b, q) = x := by rw [← hx2]; rfl
        clear hx2
        go_enter Tryd.func37, Tryd.ntmps37
        go_wp2_with fail
        refine (Compare_c a b _ ha hb c HC.out).mono ?_
        rintro e w1 ⟨rfl, b1⟩
        have X1 := TB.step X0 b1
        clear k0 k1 k2 k3 k4 k5 f0 f1
        obtain ⟨k0, k1, k2, k3, k4, k5⟩ := TB.rd X1
        obtain ⟨f0, f1⟩ := TB.fz X1
        have XP := TB.put X1 (.string b) (.bool q)
        go_wp2_with fail
        have j4 := XP.out.1.cell 0
        have j5 := XP.out.1.cell 1
        refine bodyPost_ret (v := .agg #[.string b, .bool q]) ?_ rfl ⟨rfl, Lib.hid XP.out.2⟩
        simp at j4 j5
        simp [results, Tryd.results37, go_sem, j4, j5]
      · obtain rfl : (bs a, p && q) = x := by rw [← hx2]; rfl
        clear hx2
        cases p
        all_goals (
          go_enter Tryd.func37, Tryd.ntmps37
          go_wp2_with fail
          refine (Compare_c a b _ ha hb c HC.out).mono ?_
          rintro e w1 ⟨rfl, b1⟩
          have X1 := TB.step X0 b1
          clear k0 k1 k2 k3 k4 k5 f0 f1
          obtain ⟨k0, k1, k2, k3, k4, k5⟩ := TB.rd X1
          obtain ⟨f0, f1⟩ := TB.fz X1
          have XP := fun z => TB.put X1 (.string a) (.bool z)
          go_wp2_with fail
          first
            | (have j4 := (XP false).out.1.cell 0
               have j5 := (XP false).out.1.cell 1
               refine bodyPost_ret (v := .agg #[.string a, .bool false]) ?_ rfl ⟨rfl, Lib.hid (XP false).out.2⟩
               simp at j4 j5
               simp [results, Tryd.results37, go_sem, j4, j5]
               done)
            | (have j4 := (XP q).out.1.cell 0
               have j5 := (XP q).out.1.cell 1
               refine bodyPost_ret (v := .agg #[.string a, .bool q]) ?_ rfl ⟨rfl, Lib.hid (XP q).out.2⟩
               simp at j4 j5
               simp [results, Tryd.results37, go_sem, j4, j5]
               done))
theorem tighter_c (a b : List UInt8 × Bool) (side : Int) (hside : side = 1 ∨ side = -1) (w : World) (ha : a.1.length ≤ 1000) (hb : b.1.length ≤ 1000) (x : List UInt8) (i : Bool) (hx : tightS a b side = (x, i)) :
    Calls Tryd.prog 37 #[.agg #[.string (tx a.1), .bool a.2], .agg #[.string (tx b.1), .bool b.2], .int .i64 side] w fun e w' => e = .returned (.agg #[.string (tx x), .bool i]) ∧ Hid (Below w.heap.size w w') :=
  tighter_w (tx a.1) (tx b.1) a.2 b.2 side hside w (by rw [tx_size]; exact ha) (by rw [tx_size]; exact hb) (x, i) (by rw [bs_tx, bs_tx]; exact hx)

/-- two spans and the one under way, in their boxes -/
def MB (w W : World) (s t : Sp) (u0 u1 u2 u3 : Value) : Prop :=
  Blk W w.heap.size 39 #[.string (tx s.lo), .string (tx s.hi), .bool s.il, .bool s.ih] ∧ Blk W (w.heap.size + 1) 39 #[.string (tx t.lo), .string (tx t.hi), .bool t.il, .bool t.ih] ∧ Blk W (w.heap.size + 2) 39 #[u0, u1, u2, u3] ∧ Below w.heap.size w W
theorem MB.new (w : World) (s t : Sp) (u0 u1 u2 u3 : Value) : MB w (((w.alloc (.cells #[.string (tx s.lo), .string (tx s.hi), .bool s.il, .bool s.ih] 39)).alloc (.cells #[.string (tx t.lo), .string (tx t.hi), .bool t.il, .bool t.ih] 39)).alloc (.cells #[u0, u1, u2, u3] 39)) s t u0 u1 u2 u3 := by
  refine ⟨((Blk.new w _ _).alloc _).alloc _, ?_, ?_, (((Below.refl _ _).alloc (Nat.le_refl _) _).alloc (by simp) _).alloc (by simp; omega) _⟩
  · have := (Blk.new (w.alloc (.cells #[.string (tx s.lo), .string (tx s.hi), .bool s.il, .bool s.ih] 39)) 39 #[.string (tx t.lo), .string (tx t.hi), .bool t.il, .bool t.ih]).alloc (.cells #[u0, u1, u2, u3] 39)
    simpa using this
  · have := Blk.new ((w.alloc (.cells #[.string (tx s.lo), .string (tx s.hi), .bool s.il, .bool s.ih] 39)).alloc (.cells #[.string (tx t.lo), .string (tx t.hi), .bool t.il, .bool t.ih] 39)) 39 #[u0, u1, u2, u3]
    simpa using this
theorem MB.step {w W W' : World} {s t : Sp} {u0 u1 u2 u3 : Value} (h : Hid (MB w W s t u0 u1 u2 u3)) (hb : Hid (Below W.heap.size W W')) : Hid (MB w W' s t u0 u1 u2 u3) := Lib.hid ⟨h.out.1.below hb.out, h.out.2.1.below hb.out, h.out.2.2.1.below hb.out, h.out.2.2.2.trans (hb.out.mono h.out.2.2.2.size)⟩

set_option maxRecDepth 100000 in
set_option maxHeartbeats 2000000 in
theorem meet_c (s t : Sp) (w : World) (hs : s.lo.length ≤ 1000 ∧ s.hi.length ≤ 1000) (ht : t.lo.length ≤ 1000 ∧ t.hi.length ≤ 1000) (x : Sp) (hx : meetS s t = x) :
    Calls Tryd.prog 21 #[spV s, spV t] w fun e w' => e = .returned (spV x) ∧ Hid (Below w.heap.size w w') := by
  obtain ⟨⟨lo, il⟩, hlo⟩ : ∃ y, tightS (s.lo, s.il) (t.lo, t.il) 1 = y := ⟨_, rfl⟩
  obtain ⟨⟨hi, ih⟩, hhi⟩ : ∃ y, tightS (s.hi, s.ih) (t.hi, t.ih) (-1) = y := ⟨_, rfl⟩
  obtain rfl : (⟨lo, hi, il, ih⟩ : Sp) = x := by rw [← hx]; unfold meetS; rw [hlo, hhi]
  have X0 := Lib.hid (MB.new w s t (.string ⟨#[]⟩) (.string ⟨#[]⟩) (.bool false) (.bool false))
  have HLO := Lib.hid (fun W => tighter_c (s.lo, s.il) (t.lo, t.il) 1 (.inl rfl) W hs.1 ht.1 lo il hlo)
  have HHI := Lib.hid (fun W => tighter_c (s.hi, s.ih) (t.hi, t.ih) (-1) (.inr rfl) W hs.2 ht.2 hi ih hhi)
  clear hx hlo hhi hs ht
  obtain ⟨s1, s2, s3, s4⟩ := s
  obtain ⟨t1, t2, t3, t4⟩ := t
  dsimp only at X0 HLO HHI
  have k0 := X0.out.1.cell 0
  have k1 := X0.out.1.cell 1
  have k2 := X0.out.1.cell 2
  have k3 := X0.out.1.cell 3
  have l0 := X0.out.2.1.cell 0
  have l1 := X0.out.2.1.cell 1
  have l2 := X0.out.2.1.cell 2
  have l3 := X0.out.2.1.cell 3
  simp at k0 k1 k2 k3 l0 l1 l2 l3
  go_enter Tryd.func21, Tryd.ntmps21
  go_wp2_with fail
  refine (HLO.out _).mono ?_
  rintro e w1 ⟨rfl, b1⟩
  have X1 := MB.step X0 b1
  have X1a := MB.step X1 (Lib.hid ((Below.refl _ _).alloc (Nat.le_refl _) (.cells #[.string (tx lo), .bool il] 66)))
  have D1 := Lib.hid (Blk.new w1 66 #[.string (tx lo), .bool il])
  clear k0 k1 k2 k3 l0 l1 l2 l3 X0 X1 b1
  have k0 := X1a.out.1.cell 0
  have k1 := X1a.out.1.cell 1
  have k2 := X1a.out.1.cell 2
  have k3 := X1a.out.1.cell 3
  have l0 := X1a.out.2.1.cell 0
  have l1 := X1a.out.2.1.cell 1
  have l2 := X1a.out.2.1.cell 2
  have l3 := X1a.out.2.1.cell 3
  simp at k0 k1 k2 k3 l0 l1 l2 l3
  go_wp2_with fail
  refine (HHI.out _).mono ?_
  rintro e w2 ⟨rfl, b2⟩
  have X2 := MB.step X1a b2
  have X2a := MB.step X2 (Lib.hid ((Below.refl _ _).alloc (Nat.le_refl _) (.cells #[.string (tx hi), .bool ih] 66)))
  have D2 := Lib.hid ((D1.out.below b2.out).alloc (.cells #[.string (tx hi), .bool ih] 66))
  have E2 := Lib.hid (Blk.new w2 66 #[.string (tx hi), .bool ih])
  clear k0 k1 k2 k3 l0 l1 l2 l3 X2 X1a b2 D1
  have k0 := D2.out.cell 0
  have k1 := D2.out.cell 1
  have l0 := E2.out.cell 0
  have l1 := E2.out.cell 1
  have z0 := X2a.out.2.2.1.cell 0
  have z1 := X2a.out.2.2.1.cell 1
  have z2 := X2a.out.2.2.1.cell 2
  have z3 := X2a.out.2.2.1.cell 3
  have f0 := X2a.out.2.2.1.frozen 0
  have f1 := X2a.out.2.2.1.frozen 1
  have f2 := X2a.out.2.2.1.frozen 2
  have f3 := X2a.out.2.2.1.frozen 3
  have XP : Hid (Blk (((((w2.alloc (.cells #[.string (tx hi), .bool ih] 66)).setCell ⟨w.heap.size + 2, 0, none⟩ (.string (tx lo))).setCell ⟨w.heap.size + 2, 1, none⟩ (.string (tx hi))).setCell ⟨w.heap.size + 2, 2, none⟩ (.bool il)).setCell ⟨w.heap.size + 2, 3, none⟩ (.bool ih)) (w.heap.size + 2) 39 #[.string (tx lo), .string (tx hi), .bool il, .bool ih] ∧ Below w.heap.size w (((((w2.alloc (.cells #[.string (tx hi), .bool ih] 66)).setCell ⟨w.heap.size + 2, 0, none⟩ (.string (tx lo))).setCell ⟨w.heap.size + 2, 1, none⟩ (.string (tx hi))).setCell ⟨w.heap.size + 2, 2, none⟩ (.bool il)).setCell ⟨w.heap.size + 2, 3, none⟩ (.bool ih))) := by
    have hle : w.heap.size ≤ w.heap.size + 2 := by omega
    exact Lib.hid ⟨(((X2a.out.2.2.1.set 0 _).set 1 _).set 2 _).set 3 _, (((X2a.out.2.2.2.setCell hle _).setCell hle _).setCell hle _).setCell hle _⟩
  simp at k0 k1 l0 l1 z0 z1 z2 z3
  go_wp2_with fail
  have j0 := XP.out.1.cell 0
  have j1 := XP.out.1.cell 1
  have j2 := XP.out.1.cell 2
  have j3 := XP.out.1.cell 3
  simp at j0 j1 j2 j3
  refine bodyPost_ret (v := spV ⟨lo, hi, il, ih⟩) ?_ rfl ⟨rfl, Lib.hid XP.out.2⟩
  simp [results, Tryd.results21, go_sem, j0, j1, j2, j3]
end Go.Proofs.YtbpcoiblddhnjaaDoor
