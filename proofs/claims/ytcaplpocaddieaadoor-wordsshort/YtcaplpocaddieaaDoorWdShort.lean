/-
  The walk of WordsShort.
-/
import Derived.Test.YtcaplpocaddieaaDoorWdAwake
import Derived.Test.YtcaplpocaddieaaDoorWdShortM
import Derived.Test.YtcaplpocaddieaaDoorGnRow
import Derived.Deep.RegionHeld3
namespace Go.Proofs.YtcaplpocaddieaaDoor
open Nwl
open Go.RowKit Go.Maps
set_option linter.unusedVariables false

theorem strs_at (y : Nat) (h : y < 3) : (#[Value.string ⟨#[97]⟩, .string ⟨#[98]⟩, .string ⟨#[109]⟩])[y]? = some (.string (tx (sN y))) := by
  match y, h with
  | 0, _ | 1, _ | 2, _ => rfl
  | y + 3, h => omega
theorem nums_at (y : Nat) (h : y < 3) : (#[Value.int .i64 1, .int .i64 2, .int .i64 3])[y]? = some (.int .i64 ((y + 1 : Nat) : Int)) := by
  match y, h with
  | 0, _ | 1, _ | 2, _ => rfl
  | y + 3, h => omega
/-- the blocks that the law reads at its end -/
structure Bx (w : World) (bk bo b1 bl : Nat) (T D : List UInt8) : Prop where
  k : Blk w bk 3 #[.int .i64 1, .int .i64 2, .int .i64 3]
  o : Blk w bo 26 #[.int .i64 8, .string (tx T)]
  i : Blk w b1 26 #[.int .i64 10, .string ⟨#[49]⟩]
  l : Blk w bl 26 #[.int .i64 9, .string (tx D)]
theorem Bx.below {w w' : World} {bk bo b1 bl : Nat} {T D : List UInt8} (h : Bx w bk bo b1 bl T D) (hb : Below w.heap.size w w') : Bx w' bk bo b1 bl T D := ⟨h.k.below hb, h.o.below hb, h.i.below hb, h.l.below hb⟩
theorem Bx.alloc {w : World} {bk bo b1 bl : Nat} {T D : List UInt8} (h : Bx w bk bo b1 bl T D) (o : Obj) : Bx (w.alloc o) bk bo b1 bl T D := ⟨h.k.alloc o, h.o.alloc o, h.i.alloc o, h.l.alloc o⟩
theorem Bx.rd {w : World} {bk bo b1 bl y K : Nat} {T D : List UInt8} (h : Hid (Bx w bk bo b1 bl T D)) (hK : Hid ((#[Value.int .i64 1, .int .i64 2, .int .i64 3])[y]? = some (.int .i64 (K : Int)))) : w.cell? ⟨bk, y, none⟩ = some (.int .i64 (K : Int)) ∧ w.cell? ⟨bo, 0, none⟩ = some (.int .i64 8) ∧ w.cell? ⟨bo, 1, none⟩ = some (.string (tx T)) ∧ w.cell? ⟨b1, 0, none⟩ = some (.int .i64 10) ∧ w.cell? ⟨b1, 1, none⟩ = some (.string ⟨#[49]⟩) ∧ w.cell? ⟨bl, 0, none⟩ = some (.int .i64 9) ∧ w.cell? ⟨bl, 1, none⟩ = some (.string (tx D)) :=
  ⟨(h.out.k.cell y).trans hK.out, h.out.o.cell 0, h.out.o.cell 1, h.out.i.cell 0, h.out.i.cell 1, h.out.l.cell 0, h.out.l.cell 1⟩

theorem WdR.on {B : Nat} {w w' : World} {A : Option Addr} {n : Nat} {l : List Wd} (h : WdR B w A n l) (hB : B ≤ w.heap.size) (hb : Below w.heap.size w w') : WdR B w' A n l := h.below (hb.mono hB)
theorem new_below (w : World) (o : Obj) : Below w.heap.size w (w.alloc o) := (Below.refl _ _).alloc (Nat.le_refl _) _
theorem new_size (w : World) (o : Obj) {B : Nat} (h : B ≤ w.heap.size + 1) : B ≤ (w.alloc o).heap.size := by simp; exact h
theorem below_any {w w1 : World} (h : Below w.heap.size w w1) : Below w.heap.size w w1 := h

set_option maxRecDepth 100000 in
set_option maxHeartbeats 4000000 in
theorem WordsShort_walk (a b : Int) (w : World) (ha : (Lit.int .i64 a).wf = true) (hb : (Lit.int .i64 b).wf = true) (hg : Glob w) :
    Calls Tryd.prog 6 #[.int .i64 a, .int .i64 b] w fun e w' => e = .returned (.bool true) ∧ Below w.heap.size w w' := by
  obtain ⟨x, hx, hx1⟩ := idxN a 500 (by decide) (by decide)
  obtain ⟨y, hy, hy1⟩ := idxN b 3 (by decide) (by decide)
  clear ha hb hg
  have hy3 : y < 3 := by omega
  obtain ⟨q1, q2, q3⟩ := short_at x y (by omega) hy3
  obtain ⟨D, hD⟩ : ∃ D, decF 9 (x + 1) = D := ⟨_, rfl⟩
  have lD := decF_le 9 (x + 1)
  rw [hD] at q1 q2 lD
  have HD := Lib.hid hD
  have hSs := strs_at y hy3
  have hKs := nums_at y hy3
  have lS : (sN y).length = 1 := by unfold sN; split <;> (try split) <;> rfl
  obtain ⟨T, hT⟩ : ∃ T, sN y = T := ⟨_, rfl⟩
  rw [hT] at q1 q2 q3 hSs lS
  have SS := Lib.hid hSs
  have KK := Lib.hid hKs
  have HT := Lib.hid hT
  obtain ⟨K, hK⟩ : ∃ K, y + 1 = K := ⟨_, rfl⟩
  rw [hK] at q1 KK
  clear hK
  have Q1 : Hid (splitW (bs (tx ([49] ++ T ++ D))) = [⟨10, [49]⟩, ⟨K, []⟩, ⟨9, D⟩]) := Lib.hid (by rw [bs_tx]; exact q1)
  have Q2 : Hid (splitW (bs (tx ([49, 45] ++ T ++ [45] ++ D))) = [⟨10, [49]⟩, ⟨8, T⟩, ⟨9, D⟩]) := Lib.hid (by rw [bs_tx]; exact q2)
  have Q3 : Hid (splitW (bs (tx ([49] ++ T))) = [⟨10, [49]⟩, ⟨8, T⟩]) := Lib.hid (by rw [bs_tx]; exact q3)
  have s0 : (tx D).size ≤ 9 := by rw [tx_size]; exact lD
  have s1 : (tx T).size = 1 := by rw [tx_size]; exact lS
  have s2 : (tx ([49] ++ T)).size = 2 := by rw [tx_size]; simp; omega
  have s3 : (tx ([49, 45] ++ T)).size = 3 := by rw [tx_size]; simp; omega
  have s4 : (tx ([49, 45] ++ T ++ [45])).size = 4 := by rw [tx_size]; simp; omega
  have S5 : Hid ((tx ([49] ++ T ++ D)).size ≤ 100000) := Lib.hid (by rw [tx_size]; simp; omega)
  have S6 : Hid ((tx ([49, 45] ++ T ++ [45] ++ D)).size ≤ 100000) := Lib.hid (by rw [tx_size]; simp; omega)
  have c1 : (⟨#[49]⟩ : ByteArray) ++ tx T = tx ([49] ++ T) := txA [49] T
  have c2 : tx ([49] ++ T) ++ tx D = tx ([49] ++ T ++ D) := txA _ _
  have c3 : (⟨#[49, 45]⟩ : ByteArray) ++ tx T = tx ([49, 45] ++ T) := txA [49, 45] T
  have c4 : tx ([49, 45] ++ T) ++ ⟨#[45]⟩ = tx ([49, 45] ++ T ++ [45]) := txA _ [45]
  have c5 : tx ([49, 45] ++ T ++ [45]) ++ tx D = tx ([49, 45] ++ T ++ [45] ++ D) := txA _ _
  clear q1 q2 q3 hD hT hSs hKs lD lS
  generalize [49] ++ T ++ D = V1 at *
  generalize [49, 45] ++ T ++ [45] ++ D = V2 at *
  generalize [49, 45] ++ T ++ [45] = V2a at *
  generalize [49, 45] ++ T = V2b at *
  generalize [49] ++ T = V3 at *
  go_enter Tryd.func6, Tryd.ntmps6
  go_wp2_with fail
  simp only [hx, hy]
  clear hx hy
  rw [show (1 : Int) + (x : Int) = ((x + 1 : Nat) : Int) by omega]
  refine (Digits_c 9 (x + 1) _ (by omega) (by decide) (by decide)).mono ?_
  rw [HD.out]
  rintro e w1 ⟨rfl, hb1⟩
  have hbs1 := (((Blk.new w 9 #[.string ⟨#[97]⟩, .string ⟨#[98]⟩, .string ⟨#[109]⟩]).alloc (.cells #[.int .i64 1, .int .i64 2, .int .i64 3] 3)).below hb1)
  have hbk1 := (Blk.new (w.alloc (.cells #[.string ⟨#[97]⟩, .string ⟨#[98]⟩, .string ⟨#[109]⟩] 9)) 3 #[.int .i64 1, .int .i64 2, .int .i64 3]).below hb1
  rw [show (w.alloc (.cells #[.string ⟨#[97]⟩, .string ⟨#[98]⟩, .string ⟨#[109]⟩] 9)).heap.size = w.heap.size + 1 by simp] at hbk1
  have B1 := Lib.hid ((((Below.refl w.heap.size w).alloc (Nat.le_refl _) _).alloc (by simp) _).trans (hb1.mono (by simp; omega)))
  have BS1 := Lib.hid hbs1
  have BK1 := Lib.hid hbk1
  have t1 := (BS1.out.cell y).trans SS.out
  clear hbs1 hbk1 hb1
  go_wp2_with fail
  refine (Split_b (tx V1) _ S5.out _ Q1.out 3 rfl).mono ?_
  rintro e w2 ⟨A2, k2, rfl, R2, hb2⟩
  have B2 := Lib.hid (B1.out.trans (hb2.out.mono B1.out.size))
  have BS2 := Lib.hid (BS1.out.below hb2.out)
  have BK2 := Lib.hid (BK1.out.below hb2.out)
  have t2 := (BS2.out.cell y).trans SS.out
  clear hb2 BS1 BK1 B1 t1
  go_wp2_with fail
  refine (Split_b (tx V2) _ S6.out _ Q2.out 3 rfl).mono ?_
  rintro e w3 ⟨A3, k3, rfl, R3, hb3⟩
  have B3 := Lib.hid (B2.out.trans (hb3.out.mono B2.out.size))
  have BS3 := Lib.hid (BS2.out.below hb3.out)
  have BK3 := Lib.hid (BK2.out.below hb3.out)
  have R23 := Lib.hid (R2.out.below hb3.out)
  have Z2 := hb3.out.size
  have t3 := (BS3.out.cell y).trans SS.out
  clear hb3 BS2 BK2 B2 t2 R2
  go_wp2_with fail
  refine (Split_b (tx V3) _ (by omega) _ Q3.out 2 rfl).mono ?_
  rintro e w4 ⟨A4, k4, rfl, R4, hb4⟩
  have B4 := Lib.hid (B3.out.trans (hb4.out.mono B3.out.size))
  have BS4 := Lib.hid (BS3.out.below hb4.out)
  have BK4 := Lib.hid (BK3.out.below hb4.out)
  have R24 := Lib.hid (R23.out.below (hb4.out.mono Z2))
  have R34 := Lib.hid (R3.out.below hb4.out)
  have Z3 := hb4.out.size
  have t4 := (BS4.out.cell y).trans SS.out
  clear hb4 BS3 BK3 B3 t3 R23 R3
  go_wp2_with fail
  have X5 : Hid (Bx (((w4.alloc (.cells #[.int .i64 8, .string (tx T)] 26)).alloc (.cells #[.int .i64 10, .string ⟨#[49]⟩] 26)).alloc (.cells #[.int .i64 9, .string (tx D)] 26)) (w.heap.size + 1) w4.heap.size (w4.heap.size + 1) (w4.heap.size + 1 + 1) T D) := Lib.hid (by
    have e1 : (w4.alloc (.cells #[.int .i64 8, .string (tx T)] 26)).heap.size = w4.heap.size + 1 := by simp
    have e2 : ((w4.alloc (.cells #[.int .i64 8, .string (tx T)] 26)).alloc (.cells #[.int .i64 10, .string ⟨#[49]⟩] 26)).heap.size = w4.heap.size + 1 + 1 := by simp
    refine ⟨((BK4.out.alloc _).alloc _).alloc _, ((Blk.new w4 _ _).alloc _).alloc _, ?_, ?_⟩
    · have := (Blk.new (w4.alloc (.cells #[.int .i64 8, .string (tx T)] 26)) 26 #[.int .i64 10, .string ⟨#[49]⟩]).alloc (.cells #[.int .i64 9, .string (tx D)] 26)
      rw [e1] at this
      exact this
    · have := Blk.new ((w4.alloc (.cells #[.int .i64 8, .string (tx T)] 26)).alloc (.cells #[.int .i64 10, .string ⟨#[49]⟩] 26)) 26 #[.int .i64 9, .string (tx D)]
      rw [e2] at this
      exact this)
  have B5 : Hid (Below w4.heap.size w4 (((w4.alloc (.cells #[.int .i64 8, .string (tx T)] 26)).alloc (.cells #[.int .i64 10, .string ⟨#[49]⟩] 26)).alloc (.cells #[.int .i64 9, .string (tx D)] 26))) := Lib.hid ((((Below.refl _ _).alloc (Nat.le_refl _) _).alloc (by simp) _).alloc (by simp; omega) _)
  generalize (((w4.alloc (.cells #[.int .i64 8, .string (tx T)] 26)).alloc (.cells #[.int .i64 10, .string ⟨#[49]⟩] 26)).alloc (.cells #[.int .i64 9, .string (tx D)] 26)) = w5 at *
  have R25 := Lib.hid (R24.out.below (B5.out.mono (by omega)))
  have R35 := Lib.hid (R34.out.below (B5.out.mono Z3))
  have R45 := Lib.hid (R4.out.below B5.out)
  have Z4 := B5.out.size
  have W5 := Lib.hid (B4.out.trans (B5.out.mono B4.out.size))
  clear R24 R34 R4 B4 B5 BS4 BK4 t4 SS Q1 Q2 Q3 S5 S6 c1 c2 c3 c4 c5 s0 s1 s2 s3 s4
  generalize w4.heap.size = b4 at *
  generalize w3.heap.size = b3 at *
  generalize w2.heap.size = b2 at *
  go_region_held3 (fun w' => w'.cell? ⟨w.heap.size + 1, y, none⟩ = some (.int .i64 (K : Int)) ∧ w'.cell? ⟨b4, 0, none⟩ = some (.int .i64 8) ∧ w'.cell? ⟨b4, 1, none⟩ = some (.string (tx T)) ∧ w'.cell? ⟨b4 + 1, 0, none⟩ = some (.int .i64 10) ∧ w'.cell? ⟨b4 + 1, 1, none⟩ = some (.string ⟨#[49]⟩) ∧ w'.cell? ⟨b4 + 1 + 1, 0, none⟩ = some (.int .i64 9) ∧ w'.cell? ⟨b4 + 1 + 1, 1, none⟩ = some (.string (tx D))) (first | (have h := Bx.rd X5 KK; exact h) | (have h := Bx.rd X6 KK; exact h) | (have h := Bx.rd X6a KK; exact h) | (have h := Bx.rd X7 KK; exact h) | (have h := Bx.rd X7a KK; exact h) | (have h := Bx.rd X8 KK; exact h) | (have h := Bx.rd X8a KK; exact h) | (have h := Bx.rd X9 KK; exact h) | fail) (first
    | (go_at_call 9; refine (awake5_c _).mono ?_; rintro e w6 ⟨rfl, hb6⟩; have hc6 := below_d hb6.out; have Z6 := hc6.size; have X6 := Lib.hid (X5.out.below hc6); have X6a := Lib.hid (X6.out.alloc (.cells #[.int .i64 10, .string ⟨#[49]⟩, .int .i64 (K : Int), .string ⟨#[]⟩, .int .i64 9, .string (tx D)] 26)); have W6 := Lib.hid (W5.out.trans (hc6.mono W5.out.size)); have R26 := Lib.hid (R25.out.on (by omega) hc6); have R36 := Lib.hid (R35.out.on (by omega) hc6); have R46 := Lib.hid (R45.out.on (by omega) hc6); clear hb6 hc6)
    | (go_at_call 12; refine (Plain_b A4 (some ⟨w8.heap.size, 0, none⟩) 2 2 k4 2 [⟨10, [49]⟩, ⟨8, T⟩] [⟨10, [49]⟩, ⟨8, T⟩] _ b4 (w8.heap.size + 1) (R48.out.on (by omega) (new_below w8 _)) (new_size w8 _ (by omega)) (WdR.blk (l := [⟨10, [49]⟩, ⟨8, T⟩]) (Blk.new w8 _ _) (Nat.lt_succ_self w8.heap.size) rfl) (new_size w8 _ (Nat.le_refl _)) (by decide) (by decide) true (by simp)).mono ?_; rintro e w9 ⟨rfl, hb9⟩; have hc9 := (new_below w8 _).trans ((below_any hb9.out).mono (new_size w8 _ (by omega))); have Z9 := hc9.size; have X9 := Lib.hid (X8.out.below hc9); have W9 := Lib.hid (W8.out.trans (hc9.mono W8.out.size)); clear hb9 hc9)
    | (go_at_call 12; refine (Plain_b A3 (some ⟨w7.heap.size, 0, none⟩) 3 3 k3 3 [⟨10, [49]⟩, ⟨8, T⟩, ⟨9, D⟩] [⟨10, [49]⟩, ⟨8, T⟩, ⟨9, D⟩] _ b3 (w7.heap.size + 1) (R37.out.on (by omega) (new_below w7 _)) (new_size w7 _ (by omega)) (WdR.blk (l := [⟨10, [49]⟩, ⟨8, T⟩, ⟨9, D⟩]) (Blk.new w7 _ _) (Nat.lt_succ_self w7.heap.size) rfl) (new_size w7 _ (Nat.le_refl _)) (by decide) (by decide) true (by simp)).mono ?_; rintro e w8 ⟨rfl, hb8⟩; have hc8 := (new_below w7 _).trans ((below_any hb8.out).mono (new_size w7 _ (by omega))); have Z8 := hc8.size; have X8 := Lib.hid (X7.out.below hc8); have X8a := Lib.hid (X8.out.alloc (.cells #[.int .i64 10, .string ⟨#[49]⟩, .int .i64 8, .string (tx T)] 26)); have W8 := Lib.hid (W7.out.trans (hc8.mono W7.out.size)); have R48 := Lib.hid (R47.out.on (by omega) hc8); clear hb8 hc8)
    | (go_at_call 12; refine (Plain_b A2 (some ⟨w6.heap.size, 0, none⟩) 3 3 k2 3 [⟨10, [49]⟩, ⟨K, []⟩, ⟨9, D⟩] [⟨10, [49]⟩, ⟨K, []⟩, ⟨9, D⟩] _ b2 (w6.heap.size + 1) (R26.out.on (by omega) (new_below w6 _)) (new_size w6 _ (by omega)) (WdR.blk (l := [⟨10, [49]⟩, ⟨K, []⟩, ⟨9, D⟩]) (Blk.new w6 _ _) (Nat.lt_succ_self w6.heap.size) rfl) (new_size w6 _ (Nat.le_refl _)) (by decide) (by decide) true (by simp)).mono ?_; rintro e w7 ⟨rfl, hb7⟩; have hc7 := (new_below w6 _).trans ((below_any hb7.out).mono (new_size w6 _ (by omega))); have Z7 := hc7.size; have X7 := Lib.hid (X6.out.below hc7); have X7a := Lib.hid (X7.out.alloc (.cells #[.int .i64 10, .string ⟨#[49]⟩, .int .i64 8, .string (tx T), .int .i64 9, .string (tx D)] 26)); have W7 := Lib.hid (W6.out.trans (hc7.mono W6.out.size)); have R37 := Lib.hid (R36.out.on (by omega) hc7); have R47 := Lib.hid (R46.out.on (by omega) hc7); clear hb7 hc7))
  go_wp2_with fail
  go_ret
  exact ⟨rfl, W9.out⟩
end Go.Proofs.YtcaplpocaddieaaDoor
