/-
  The walk of TokenRefuses.
-/
import Derived.Test.YtpmmmmfaaimmfaaDoorTkAwake
namespace Nwl
open Go Go.RowKit
/-- 'int(uint(a) % n)' is from 0 to n -/
theorem idx_in (a n : Int) (h0 : 0 < n) (h1 : n ≤ 2147483648) : 0 ≤ wrap64 ((IntKind.u64.wrap a).tmod n) ∧ wrap64 ((IntKind.u64.wrap a).tmod n) < n := by
  have hu : 0 ≤ IntKind.u64.wrap a := by rw [IntKind.wrap_u64]; omega
  have h2 : (IntKind.u64.wrap a).tmod n = (IntKind.u64.wrap a) % n := Int.tmod_eq_emod_of_nonneg hu
  have h3 := Int.emod_nonneg (IntKind.u64.wrap a) (show n ≠ 0 by omega)
  have h4 := Int.emod_lt_of_pos (IntKind.u64.wrap a) h0
  rw [h2]
  have h5 : wrap64 (IntKind.u64.wrap a % n) = IntKind.u64.wrap a % n := by
    generalize IntKind.u64.wrap a % n = x at *
    unfold wrap64
    omega
  rw [h5]
  exact ⟨h3, h4⟩
end Nwl
namespace Go.Proofs.YtpmmmmfaaimmfaaDoor
open Nwl
open Go.RowKit Go.Maps
set_option linter.unusedVariables false

theorem Split_no (s : ByteArray) (w : World) (hs : s.size ≤ maxLen) (hg : Glob w) (n : Int) (hn : ¬ n = 0) (hE : splitE (bs s) = n) :
    Calls Tryd.prog 10 #[.string s] w fun e w' => (∃ A c, e = .returned (.tuple #[.slice A 0 c, .int .i64 n])) ∧ Below w.heap.size w w' := by
  refine (Split_c s w hs hg).mono ?_
  rintro e w' ⟨A, c, rfl, _, hb⟩
  rw [splitT_err (by rw [hE]; exact hn), hE]
  exact ⟨⟨A, c, rfl⟩, hb⟩
theorem Split_yes (s : ByteArray) (w : World) (hs : s.size ≤ maxLen) (hg : Glob w) (hE : splitE (bs s) = 0) (h0 : 0 < s.size) :
    Calls Tryd.prog 10 #[.string s] w fun e w' => (∃ A n c, 0 < n ∧ e = .returned (.tuple #[.slice A n c, .int .i64 0])) ∧ Below w.heap.size w w' := by
  refine (Split_c s w hs hg).mono ?_
  rintro e w' ⟨A, c, rfl, _, hb⟩
  have hp : 0 < (splitT (bs s)).length := splitT_pos hE (by intro e; have := bs_length s; rw [e] at this; simp at this; omega)
  rw [hE]
  exact ⟨⟨A, _, c, hp, rfl⟩, hb⟩
theorem Split_empty (w : World) (hg : Glob w) :
    Calls Tryd.prog 10 #[.string ⟨#[]⟩] w fun e w' => (∃ A c, e = .returned (.tuple #[.slice A 0 c, .int .i64 0])) ∧ Below w.heap.size w w' := by
  refine (Split_c ⟨#[]⟩ w (by decide) hg).mono ?_
  rintro e w' ⟨A, c, rfl, _, hb⟩
  exact ⟨⟨A, c, rfl⟩, hb⟩

set_option maxRecDepth 100000 in
set_option maxHeartbeats 1000000 in
theorem refuses_0 (a : Int) (w : World) (hx : wrap64 ((IntKind.u64.wrap a).tmod 16) = 0) (hg : Glob w) :
    Calls Tryd.prog 5 #[.int .i64 a] w fun e w' => e = .returned (.bool true) ∧ Below w.heap.size w w' := by
  have HG := Lib.hid hg
  clear hg
  go_enter Tryd.func5, Tryd.ntmps5
  go_wp2_with fail
  refine (Split_no _ _ (by decide) ((HG.out.alloc _).alloc _) 5 (by decide) (by decide +kernel)).mono ?_
  rintro e w1 ⟨⟨A1, c1, rfl⟩, hb⟩
  have hb1 : Below w.heap.size w w1 := (((Below.refl _ _).alloc (Nat.le_refl _) _).alloc (by simp) _).trans (hb.mono (by simp; omega))
  have hm1 : w1.cell? ⟨w.heap.size + 1, 0, none⟩ = some (.string ⟨#[]⟩) := (hb.cell (p := ⟨w.heap.size + 1, 0, none⟩) (by simp)).trans (by simp [go_sem])
  have hs1 := hb1.size
  have hs0 : w.heap.size + 1 < w1.heap.size := by have := hb.size; simp at this; omega
  clear hb
  go_wp2_with fail
  refine (Split_empty _ (HG.out.below hb1)).mono ?_
  rintro e w2 ⟨⟨A2, c2, rfl⟩, hb2⟩
  have hbel2 := hb1.trans (hb2.mono hs1)
  have hm2 := (hb2.cell (p := ⟨w.heap.size + 1, 0, none⟩) (by exact hs0)).trans hm1
  have hs2 := hb2.size
  clear hb2
  go_wp2_with fail
  refine (awake_c _ (HG.out.below hbel2)).mono ?_
  rintro e w3 ⟨rfl, hb3⟩
  have hm3 := (hb3.cell (p := ⟨w.heap.size + 1, 0, none⟩) (by show w.heap.size + 1 < w2.heap.size; omega)).trans hm2
  go_wp2_with fail
  go_ret
  exact ⟨rfl, hbel2.trans (hb3.mono hbel2.size)⟩

set_option maxRecDepth 100000 in
set_option maxHeartbeats 1000000 in
theorem refuses_1 (a : Int) (w : World) (hx : wrap64 ((IntKind.u64.wrap a).tmod 16) = 1) (hg : Glob w) :
    Calls Tryd.prog 5 #[.int .i64 a] w fun e w' => e = .returned (.bool true) ∧ Below w.heap.size w w' := by
  have HG := Lib.hid hg
  clear hg
  go_enter Tryd.func5, Tryd.ntmps5
  go_wp2_with fail
  refine (Split_no _ _ (by decide) ((HG.out.alloc _).alloc _) 5 (by decide) (by decide +kernel)).mono ?_
  rintro e w1 ⟨⟨A1, c1, rfl⟩, hb⟩
  have hb1 : Below w.heap.size w w1 := (((Below.refl _ _).alloc (Nat.le_refl _) _).alloc (by simp) _).trans (hb.mono (by simp; omega))
  have hm1 : w1.cell? ⟨w.heap.size + 1, 1, none⟩ = some (.string ⟨#[60, 97, 62]⟩) := (hb.cell (p := ⟨w.heap.size + 1, 1, none⟩) (by simp)).trans (by simp [go_sem])
  have hs1 := hb1.size
  have hs0 : w.heap.size + 1 < w1.heap.size := by have := hb.size; simp at this; omega
  clear hb
  go_wp2_with fail
  refine (Split_yes _ _ (by decide) (HG.out.below hb1) (by decide +kernel) (by decide)).mono ?_
  rintro e w2 ⟨⟨A2, n2, c2, hn2, rfl⟩, hb2⟩
  have hbel2 := hb1.trans (hb2.mono hs1)
  have hm2 := (hb2.cell (p := ⟨w.heap.size + 1, 1, none⟩) (by exact hs0)).trans hm1
  have hs2 := hb2.size
  clear hb2
  go_wp2_with fail
  refine (awake_c _ (HG.out.below hbel2)).mono ?_
  rintro e w3 ⟨rfl, hb3⟩
  have hm3 := (hb3.cell (p := ⟨w.heap.size + 1, 1, none⟩) (by show w.heap.size + 1 < w2.heap.size; omega)).trans hm2
  go_wp2_with fail
  go_ret
  exact ⟨rfl, hbel2.trans (hb3.mono hbel2.size)⟩

set_option maxRecDepth 100000 in
set_option maxHeartbeats 1000000 in
theorem refuses_2 (a : Int) (w : World) (hx : wrap64 ((IntKind.u64.wrap a).tmod 16) = 2) (hg : Glob w) :
    Calls Tryd.prog 5 #[.int .i64 a] w fun e w' => e = .returned (.bool true) ∧ Below w.heap.size w w' := by
  have HG := Lib.hid hg
  clear hg
  go_enter Tryd.func5, Tryd.ntmps5
  go_wp2_with fail
  refine (Split_no _ _ (by decide) ((HG.out.alloc _).alloc _) 5 (by decide) (by decide +kernel)).mono ?_
  rintro e w1 ⟨⟨A1, c1, rfl⟩, hb⟩
  have hb1 : Below w.heap.size w w1 := (((Below.refl _ _).alloc (Nat.le_refl _) _).alloc (by simp) _).trans (hb.mono (by simp; omega))
  have hm1 : w1.cell? ⟨w.heap.size + 1, 2, none⟩ = some (.string ⟨#[60, 97, 32, 98, 61, 39, 99, 39, 62]⟩) := (hb.cell (p := ⟨w.heap.size + 1, 2, none⟩) (by simp)).trans (by simp [go_sem])
  have hs1 := hb1.size
  have hs0 : w.heap.size + 1 < w1.heap.size := by have := hb.size; simp at this; omega
  clear hb
  go_wp2_with fail
  refine (Split_yes _ _ (by decide) (HG.out.below hb1) (by decide +kernel) (by decide)).mono ?_
  rintro e w2 ⟨⟨A2, n2, c2, hn2, rfl⟩, hb2⟩
  have hbel2 := hb1.trans (hb2.mono hs1)
  have hm2 := (hb2.cell (p := ⟨w.heap.size + 1, 2, none⟩) (by exact hs0)).trans hm1
  have hs2 := hb2.size
  clear hb2
  go_wp2_with fail
  refine (awake_c _ (HG.out.below hbel2)).mono ?_
  rintro e w3 ⟨rfl, hb3⟩
  have hm3 := (hb3.cell (p := ⟨w.heap.size + 1, 2, none⟩) (by show w.heap.size + 1 < w2.heap.size; omega)).trans hm2
  go_wp2_with fail
  go_ret
  exact ⟨rfl, hbel2.trans (hb3.mono hbel2.size)⟩

set_option maxRecDepth 100000 in
set_option maxHeartbeats 1000000 in
theorem refuses_3 (a : Int) (w : World) (hx : wrap64 ((IntKind.u64.wrap a).tmod 16) = 3) (hg : Glob w) :
    Calls Tryd.prog 5 #[.int .i64 a] w fun e w' => e = .returned (.bool true) ∧ Below w.heap.size w w' := by
  have HG := Lib.hid hg
  clear hg
  go_enter Tryd.func5, Tryd.ntmps5
  go_wp2_with fail
  refine (Split_no _ _ (by decide) ((HG.out.alloc _).alloc _) 5 (by decide) (by decide +kernel)).mono ?_
  rintro e w1 ⟨⟨A1, c1, rfl⟩, hb⟩
  have hb1 : Below w.heap.size w w1 := (((Below.refl _ _).alloc (Nat.le_refl _) _).alloc (by simp) _).trans (hb.mono (by simp; omega))
  have hm1 : w1.cell? ⟨w.heap.size + 1, 3, none⟩ = some (.string ⟨#[60, 97, 32, 98, 32, 61, 32, 34, 99, 34, 32, 62]⟩) := (hb.cell (p := ⟨w.heap.size + 1, 3, none⟩) (by simp)).trans (by simp [go_sem])
  have hs1 := hb1.size
  have hs0 : w.heap.size + 1 < w1.heap.size := by have := hb.size; simp at this; omega
  clear hb
  go_wp2_with fail
  refine (Split_yes _ _ (by decide) (HG.out.below hb1) (by decide +kernel) (by decide)).mono ?_
  rintro e w2 ⟨⟨A2, n2, c2, hn2, rfl⟩, hb2⟩
  have hbel2 := hb1.trans (hb2.mono hs1)
  have hm2 := (hb2.cell (p := ⟨w.heap.size + 1, 3, none⟩) (by exact hs0)).trans hm1
  have hs2 := hb2.size
  clear hb2
  go_wp2_with fail
  refine (awake_c _ (HG.out.below hbel2)).mono ?_
  rintro e w3 ⟨rfl, hb3⟩
  have hm3 := (hb3.cell (p := ⟨w.heap.size + 1, 3, none⟩) (by show w.heap.size + 1 < w2.heap.size; omega)).trans hm2
  go_wp2_with fail
  go_ret
  exact ⟨rfl, hbel2.trans (hb3.mono hbel2.size)⟩

set_option maxRecDepth 100000 in
set_option maxHeartbeats 1000000 in
theorem refuses_4 (a : Int) (w : World) (hx : wrap64 ((IntKind.u64.wrap a).tmod 16) = 4) (hg : Glob w) :
    Calls Tryd.prog 5 #[.int .i64 a] w fun e w' => e = .returned (.bool true) ∧ Below w.heap.size w w' := by
  have HG := Lib.hid hg
  clear hg
  go_enter Tryd.func5, Tryd.ntmps5
  go_wp2_with fail
  refine (Split_no _ _ (by decide) ((HG.out.alloc _).alloc _) 5 (by decide) (by decide +kernel)).mono ?_
  rintro e w1 ⟨⟨A1, c1, rfl⟩, hb⟩
  have hb1 : Below w.heap.size w w1 := (((Below.refl _ _).alloc (Nat.le_refl _) _).alloc (by simp) _).trans (hb.mono (by simp; omega))
  have hm1 : w1.cell? ⟨w.heap.size + 1, 4, none⟩ = some (.string ⟨#[60, 97, 32, 98, 61, 34, 49, 34, 32, 99, 61, 34, 50, 34, 62]⟩) := (hb.cell (p := ⟨w.heap.size + 1, 4, none⟩) (by simp)).trans (by simp [go_sem])
  have hs1 := hb1.size
  have hs0 : w.heap.size + 1 < w1.heap.size := by have := hb.size; simp at this; omega
  clear hb
  go_wp2_with fail
  refine (Split_yes _ _ (by decide) (HG.out.below hb1) (by decide +kernel) (by decide)).mono ?_
  rintro e w2 ⟨⟨A2, n2, c2, hn2, rfl⟩, hb2⟩
  have hbel2 := hb1.trans (hb2.mono hs1)
  have hm2 := (hb2.cell (p := ⟨w.heap.size + 1, 4, none⟩) (by exact hs0)).trans hm1
  have hs2 := hb2.size
  clear hb2
  go_wp2_with fail
  refine (awake_c _ (HG.out.below hbel2)).mono ?_
  rintro e w3 ⟨rfl, hb3⟩
  have hm3 := (hb3.cell (p := ⟨w.heap.size + 1, 4, none⟩) (by show w.heap.size + 1 < w2.heap.size; omega)).trans hm2
  go_wp2_with fail
  go_ret
  exact ⟨rfl, hbel2.trans (hb3.mono hbel2.size)⟩

set_option maxRecDepth 100000 in
set_option maxHeartbeats 1000000 in
theorem refuses_5 (a : Int) (w : World) (hx : wrap64 ((IntKind.u64.wrap a).tmod 16) = 5) (hg : Glob w) :
    Calls Tryd.prog 5 #[.int .i64 a] w fun e w' => e = .returned (.bool true) ∧ Below w.heap.size w w' := by
  have HG := Lib.hid hg
  clear hg
  go_enter Tryd.func5, Tryd.ntmps5
  go_wp2_with fail
  refine (Split_no _ _ (by decide) ((HG.out.alloc _).alloc _) 5 (by decide) (by decide +kernel)).mono ?_
  rintro e w1 ⟨⟨A1, c1, rfl⟩, hb⟩
  have hb1 : Below w.heap.size w w1 := (((Below.refl _ _).alloc (Nat.le_refl _) _).alloc (by simp) _).trans (hb.mono (by simp; omega))
  have hm1 : w1.cell? ⟨w.heap.size + 1, 5, none⟩ = some (.string ⟨#[60, 97, 32, 98, 61, 34, 49, 34, 32, 99, 61, 39, 49, 39, 47, 62]⟩) := (hb.cell (p := ⟨w.heap.size + 1, 5, none⟩) (by simp)).trans (by simp [go_sem])
  have hs1 := hb1.size
  have hs0 : w.heap.size + 1 < w1.heap.size := by have := hb.size; simp at this; omega
  clear hb
  go_wp2_with fail
  refine (Split_yes _ _ (by decide) (HG.out.below hb1) (by decide +kernel) (by decide)).mono ?_
  rintro e w2 ⟨⟨A2, n2, c2, hn2, rfl⟩, hb2⟩
  have hbel2 := hb1.trans (hb2.mono hs1)
  have hm2 := (hb2.cell (p := ⟨w.heap.size + 1, 5, none⟩) (by exact hs0)).trans hm1
  have hs2 := hb2.size
  clear hb2
  go_wp2_with fail
  refine (awake_c _ (HG.out.below hbel2)).mono ?_
  rintro e w3 ⟨rfl, hb3⟩
  have hm3 := (hb3.cell (p := ⟨w.heap.size + 1, 5, none⟩) (by show w.heap.size + 1 < w2.heap.size; omega)).trans hm2
  go_wp2_with fail
  go_ret
  exact ⟨rfl, hbel2.trans (hb3.mono hbel2.size)⟩

set_option maxRecDepth 100000 in
set_option maxHeartbeats 1000000 in
theorem refuses_6 (a : Int) (w : World) (hx : wrap64 ((IntKind.u64.wrap a).tmod 16) = 6) (hg : Glob w) :
    Calls Tryd.prog 5 #[.int .i64 a] w fun e w' => e = .returned (.bool true) ∧ Below w.heap.size w w' := by
  have HG := Lib.hid hg
  clear hg
  go_enter Tryd.func5, Tryd.ntmps5
  go_wp2_with fail
  refine (Split_no _ _ (by decide) ((HG.out.alloc _).alloc _) 5 (by decide) (by decide +kernel)).mono ?_
  rintro e w1 ⟨⟨A1, c1, rfl⟩, hb⟩
  have hb1 : Below w.heap.size w w1 := (((Below.refl _ _).alloc (Nat.le_refl _) _).alloc (by simp) _).trans (hb.mono (by simp; omega))
  have hm1 : w1.cell? ⟨w.heap.size + 1, 6, none⟩ = some (.string ⟨#[60, 97, 32, 98, 61, 39, 38, 108, 116, 59, 39, 62]⟩) := (hb.cell (p := ⟨w.heap.size + 1, 6, none⟩) (by simp)).trans (by simp [go_sem])
  have hs1 := hb1.size
  have hs0 : w.heap.size + 1 < w1.heap.size := by have := hb.size; simp at this; omega
  clear hb
  go_wp2_with fail
  refine (Split_yes _ _ (by decide) (HG.out.below hb1) (by decide +kernel) (by decide)).mono ?_
  rintro e w2 ⟨⟨A2, n2, c2, hn2, rfl⟩, hb2⟩
  have hbel2 := hb1.trans (hb2.mono hs1)
  have hm2 := (hb2.cell (p := ⟨w.heap.size + 1, 6, none⟩) (by exact hs0)).trans hm1
  have hs2 := hb2.size
  clear hb2
  go_wp2_with fail
  refine (awake_c _ (HG.out.below hbel2)).mono ?_
  rintro e w3 ⟨rfl, hb3⟩
  have hm3 := (hb3.cell (p := ⟨w.heap.size + 1, 6, none⟩) (by show w.heap.size + 1 < w2.heap.size; omega)).trans hm2
  go_wp2_with fail
  go_ret
  exact ⟨rfl, hbel2.trans (hb3.mono hbel2.size)⟩

set_option maxRecDepth 100000 in
set_option maxHeartbeats 1000000 in
theorem refuses_7 (a : Int) (w : World) (hx : wrap64 ((IntKind.u64.wrap a).tmod 16) = 7) (hg : Glob w) :
    Calls Tryd.prog 5 #[.int .i64 a] w fun e w' => e = .returned (.bool true) ∧ Below w.heap.size w w' := by
  have HG := Lib.hid hg
  clear hg
  go_enter Tryd.func5, Tryd.ntmps5
  go_wp2_with fail
  refine (Split_no _ _ (by decide) ((HG.out.alloc _).alloc _) 5 (by decide) (by decide +kernel)).mono ?_
  rintro e w1 ⟨⟨A1, c1, rfl⟩, hb⟩
  have hb1 : Below w.heap.size w w1 := (((Below.refl _ _).alloc (Nat.le_refl _) _).alloc (by simp) _).trans (hb.mono (by simp; omega))
  have hm1 : w1.cell? ⟨w.heap.size + 1, 7, none⟩ = some (.string ⟨#[60, 33, 45, 45, 32, 97, 32, 45, 32, 98, 32, 45, 45, 62]⟩) := (hb.cell (p := ⟨w.heap.size + 1, 7, none⟩) (by simp)).trans (by simp [go_sem])
  have hs1 := hb1.size
  have hs0 : w.heap.size + 1 < w1.heap.size := by have := hb.size; simp at this; omega
  clear hb
  go_wp2_with fail
  refine (Split_yes _ _ (by decide) (HG.out.below hb1) (by decide +kernel) (by decide)).mono ?_
  rintro e w2 ⟨⟨A2, n2, c2, hn2, rfl⟩, hb2⟩
  have hbel2 := hb1.trans (hb2.mono hs1)
  have hm2 := (hb2.cell (p := ⟨w.heap.size + 1, 7, none⟩) (by exact hs0)).trans hm1
  have hs2 := hb2.size
  clear hb2
  go_wp2_with fail
  refine (awake_c _ (HG.out.below hbel2)).mono ?_
  rintro e w3 ⟨rfl, hb3⟩
  have hm3 := (hb3.cell (p := ⟨w.heap.size + 1, 7, none⟩) (by show w.heap.size + 1 < w2.heap.size; omega)).trans hm2
  go_wp2_with fail
  go_ret
  exact ⟨rfl, hbel2.trans (hb3.mono hbel2.size)⟩

set_option maxRecDepth 100000 in
set_option maxHeartbeats 1000000 in
theorem refuses_8 (a : Int) (w : World) (hx : wrap64 ((IntKind.u64.wrap a).tmod 16) = 8) (hg : Glob w) :
    Calls Tryd.prog 5 #[.int .i64 a] w fun e w' => e = .returned (.bool true) ∧ Below w.heap.size w w' := by
  have HG := Lib.hid hg
  clear hg
  go_enter Tryd.func5, Tryd.ntmps5
  go_wp2_with fail
  refine (Split_no _ _ (by decide) ((HG.out.alloc _).alloc _) 5 (by decide) (by decide +kernel)).mono ?_
  rintro e w1 ⟨⟨A1, c1, rfl⟩, hb⟩
  have hb1 : Below w.heap.size w w1 := (((Below.refl _ _).alloc (Nat.le_refl _) _).alloc (by simp) _).trans (hb.mono (by simp; omega))
  have hm1 : w1.cell? ⟨w.heap.size + 1, 8, none⟩ = some (.string ⟨#[60, 33, 45, 45, 45, 45, 62]⟩) := (hb.cell (p := ⟨w.heap.size + 1, 8, none⟩) (by simp)).trans (by simp [go_sem])
  have hs1 := hb1.size
  have hs0 : w.heap.size + 1 < w1.heap.size := by have := hb.size; simp at this; omega
  clear hb
  go_wp2_with fail
  refine (Split_yes _ _ (by decide) (HG.out.below hb1) (by decide +kernel) (by decide)).mono ?_
  rintro e w2 ⟨⟨A2, n2, c2, hn2, rfl⟩, hb2⟩
  have hbel2 := hb1.trans (hb2.mono hs1)
  have hm2 := (hb2.cell (p := ⟨w.heap.size + 1, 8, none⟩) (by exact hs0)).trans hm1
  have hs2 := hb2.size
  clear hb2
  go_wp2_with fail
  refine (awake_c _ (HG.out.below hbel2)).mono ?_
  rintro e w3 ⟨rfl, hb3⟩
  have hm3 := (hb3.cell (p := ⟨w.heap.size + 1, 8, none⟩) (by show w.heap.size + 1 < w2.heap.size; omega)).trans hm2
  go_wp2_with fail
  go_ret
  exact ⟨rfl, hbel2.trans (hb3.mono hbel2.size)⟩

set_option maxRecDepth 100000 in
set_option maxHeartbeats 1000000 in
theorem refuses_9 (a : Int) (w : World) (hx : wrap64 ((IntKind.u64.wrap a).tmod 16) = 9) (hg : Glob w) :
    Calls Tryd.prog 5 #[.int .i64 a] w fun e w' => e = .returned (.bool true) ∧ Below w.heap.size w w' := by
  have HG := Lib.hid hg
  clear hg
  go_enter Tryd.func5, Tryd.ntmps5
  go_wp2_with fail
  refine (Split_no _ _ (by decide) ((HG.out.alloc _).alloc _) 5 (by decide) (by decide +kernel)).mono ?_
  rintro e w1 ⟨⟨A1, c1, rfl⟩, hb⟩
  have hb1 : Below w.heap.size w w1 := (((Below.refl _ _).alloc (Nat.le_refl _) _).alloc (by simp) _).trans (hb.mono (by simp; omega))
  have hm1 : w1.cell? ⟨w.heap.size + 1, 9, none⟩ = some (.string ⟨#[60, 33, 91, 67, 68, 65, 84, 65, 91, 93, 93, 62]⟩) := (hb.cell (p := ⟨w.heap.size + 1, 9, none⟩) (by simp)).trans (by simp [go_sem])
  have hs1 := hb1.size
  have hs0 : w.heap.size + 1 < w1.heap.size := by have := hb.size; simp at this; omega
  clear hb
  go_wp2_with fail
  refine (Split_yes _ _ (by decide) (HG.out.below hb1) (by decide +kernel) (by decide)).mono ?_
  rintro e w2 ⟨⟨A2, n2, c2, hn2, rfl⟩, hb2⟩
  have hbel2 := hb1.trans (hb2.mono hs1)
  have hm2 := (hb2.cell (p := ⟨w.heap.size + 1, 9, none⟩) (by exact hs0)).trans hm1
  have hs2 := hb2.size
  clear hb2
  go_wp2_with fail
  refine (awake_c _ (HG.out.below hbel2)).mono ?_
  rintro e w3 ⟨rfl, hb3⟩
  have hm3 := (hb3.cell (p := ⟨w.heap.size + 1, 9, none⟩) (by show w.heap.size + 1 < w2.heap.size; omega)).trans hm2
  go_wp2_with fail
  go_ret
  exact ⟨rfl, hbel2.trans (hb3.mono hbel2.size)⟩

set_option maxRecDepth 100000 in
set_option maxHeartbeats 1000000 in
theorem refuses_10 (a : Int) (w : World) (hx : wrap64 ((IntKind.u64.wrap a).tmod 16) = 10) (hg : Glob w) :
    Calls Tryd.prog 5 #[.int .i64 a] w fun e w' => e = .returned (.bool true) ∧ Below w.heap.size w w' := by
  have HG := Lib.hid hg
  clear hg
  go_enter Tryd.func5, Tryd.ntmps5
  go_wp2_with fail
  refine (Split_no _ _ (by decide) ((HG.out.alloc _).alloc _) 5 (by decide) (by decide +kernel)).mono ?_
  rintro e w1 ⟨⟨A1, c1, rfl⟩, hb⟩
  have hb1 : Below w.heap.size w w1 := (((Below.refl _ _).alloc (Nat.le_refl _) _).alloc (by simp) _).trans (hb.mono (by simp; omega))
  have hm1 : w1.cell? ⟨w.heap.size + 1, 10, none⟩ = some (.string ⟨#[60, 63, 120, 63, 62, 32]⟩) := (hb.cell (p := ⟨w.heap.size + 1, 10, none⟩) (by simp)).trans (by simp [go_sem])
  have hs1 := hb1.size
  have hs0 : w.heap.size + 1 < w1.heap.size := by have := hb.size; simp at this; omega
  clear hb
  go_wp2_with fail
  refine (Split_yes _ _ (by decide) (HG.out.below hb1) (by decide +kernel) (by decide)).mono ?_
  rintro e w2 ⟨⟨A2, n2, c2, hn2, rfl⟩, hb2⟩
  have hbel2 := hb1.trans (hb2.mono hs1)
  have hm2 := (hb2.cell (p := ⟨w.heap.size + 1, 10, none⟩) (by exact hs0)).trans hm1
  have hs2 := hb2.size
  clear hb2
  go_wp2_with fail
  refine (awake_c _ (HG.out.below hbel2)).mono ?_
  rintro e w3 ⟨rfl, hb3⟩
  have hm3 := (hb3.cell (p := ⟨w.heap.size + 1, 10, none⟩) (by show w.heap.size + 1 < w2.heap.size; omega)).trans hm2
  go_wp2_with fail
  go_ret
  exact ⟨rfl, hbel2.trans (hb3.mono hbel2.size)⟩

set_option maxRecDepth 100000 in
set_option maxHeartbeats 1000000 in
theorem refuses_11 (a : Int) (w : World) (hx : wrap64 ((IntKind.u64.wrap a).tmod 16) = 11) (hg : Glob w) :
    Calls Tryd.prog 5 #[.int .i64 a] w fun e w' => e = .returned (.bool true) ∧ Below w.heap.size w w' := by
  have HG := Lib.hid hg
  clear hg
  go_enter Tryd.func5, Tryd.ntmps5
  go_wp2_with fail
  refine (Split_no _ _ (by decide) ((HG.out.alloc _).alloc _) 5 (by decide) (by decide +kernel)).mono ?_
  rintro e w1 ⟨⟨A1, c1, rfl⟩, hb⟩
  have hb1 : Below w.heap.size w w1 := (((Below.refl _ _).alloc (Nat.le_refl _) _).alloc (by simp) _).trans (hb.mono (by simp; omega))
  have hm1 : w1.cell? ⟨w.heap.size + 1, 11, none⟩ = some (.string ⟨#[38, 97, 109, 112, 59, 120, 59]⟩) := (hb.cell (p := ⟨w.heap.size + 1, 11, none⟩) (by simp)).trans (by simp [go_sem])
  have hs1 := hb1.size
  have hs0 : w.heap.size + 1 < w1.heap.size := by have := hb.size; simp at this; omega
  clear hb
  go_wp2_with fail
  refine (Split_yes _ _ (by decide) (HG.out.below hb1) (by decide +kernel) (by decide)).mono ?_
  rintro e w2 ⟨⟨A2, n2, c2, hn2, rfl⟩, hb2⟩
  have hbel2 := hb1.trans (hb2.mono hs1)
  have hm2 := (hb2.cell (p := ⟨w.heap.size + 1, 11, none⟩) (by exact hs0)).trans hm1
  have hs2 := hb2.size
  clear hb2
  go_wp2_with fail
  refine (awake_c _ (HG.out.below hbel2)).mono ?_
  rintro e w3 ⟨rfl, hb3⟩
  have hm3 := (hb3.cell (p := ⟨w.heap.size + 1, 11, none⟩) (by show w.heap.size + 1 < w2.heap.size; omega)).trans hm2
  go_wp2_with fail
  go_ret
  exact ⟨rfl, hbel2.trans (hb3.mono hbel2.size)⟩

set_option maxRecDepth 100000 in
set_option maxHeartbeats 1000000 in
theorem refuses_12 (a : Int) (w : World) (hx : wrap64 ((IntKind.u64.wrap a).tmod 16) = 12) (hg : Glob w) :
    Calls Tryd.prog 5 #[.int .i64 a] w fun e w' => e = .returned (.bool true) ∧ Below w.heap.size w w' := by
  have HG := Lib.hid hg
  clear hg
  go_enter Tryd.func5, Tryd.ntmps5
  go_wp2_with fail
  refine (Split_no _ _ (by decide) ((HG.out.alloc _).alloc _) 5 (by decide) (by decide +kernel)).mono ?_
  rintro e w1 ⟨⟨A1, c1, rfl⟩, hb⟩
  have hb1 : Below w.heap.size w w1 := (((Below.refl _ _).alloc (Nat.le_refl _) _).alloc (by simp) _).trans (hb.mono (by simp; omega))
  have hm1 : w1.cell? ⟨w.heap.size + 1, 12, none⟩ = some (.string ⟨#[38, 35, 57, 59]⟩) := (hb.cell (p := ⟨w.heap.size + 1, 12, none⟩) (by simp)).trans (by simp [go_sem])
  have hs1 := hb1.size
  have hs0 : w.heap.size + 1 < w1.heap.size := by have := hb.size; simp at this; omega
  clear hb
  go_wp2_with fail
  refine (Split_yes _ _ (by decide) (HG.out.below hb1) (by decide +kernel) (by decide)).mono ?_
  rintro e w2 ⟨⟨A2, n2, c2, hn2, rfl⟩, hb2⟩
  have hbel2 := hb1.trans (hb2.mono hs1)
  have hm2 := (hb2.cell (p := ⟨w.heap.size + 1, 12, none⟩) (by exact hs0)).trans hm1
  have hs2 := hb2.size
  clear hb2
  go_wp2_with fail
  refine (awake_c _ (HG.out.below hbel2)).mono ?_
  rintro e w3 ⟨rfl, hb3⟩
  have hm3 := (hb3.cell (p := ⟨w.heap.size + 1, 12, none⟩) (by show w.heap.size + 1 < w2.heap.size; omega)).trans hm2
  go_wp2_with fail
  go_ret
  exact ⟨rfl, hbel2.trans (hb3.mono hbel2.size)⟩

set_option maxRecDepth 100000 in
set_option maxHeartbeats 1000000 in
theorem refuses_13 (a : Int) (w : World) (hx : wrap64 ((IntKind.u64.wrap a).tmod 16) = 13) (hg : Glob w) :
    Calls Tryd.prog 5 #[.int .i64 a] w fun e w' => e = .returned (.bool true) ∧ Below w.heap.size w w' := by
  have HG := Lib.hid hg
  clear hg
  go_enter Tryd.func5, Tryd.ntmps5
  go_wp2_with fail
  refine (Split_no _ _ (by decide) ((HG.out.alloc _).alloc _) 5 (by decide) (by decide +kernel)).mono ?_
  rintro e w1 ⟨⟨A1, c1, rfl⟩, hb⟩
  have hb1 : Below w.heap.size w w1 := (((Below.refl _ _).alloc (Nat.le_refl _) _).alloc (by simp) _).trans (hb.mono (by simp; omega))
  have hm1 : w1.cell? ⟨w.heap.size + 1, 13, none⟩ = some (.string ⟨#[60, 47, 97, 32, 62]⟩) := (hb.cell (p := ⟨w.heap.size + 1, 13, none⟩) (by simp)).trans (by simp [go_sem])
  have hs1 := hb1.size
  have hs0 : w.heap.size + 1 < w1.heap.size := by have := hb.size; simp at this; omega
  clear hb
  go_wp2_with fail
  refine (Split_yes _ _ (by decide) (HG.out.below hb1) (by decide +kernel) (by decide)).mono ?_
  rintro e w2 ⟨⟨A2, n2, c2, hn2, rfl⟩, hb2⟩
  have hbel2 := hb1.trans (hb2.mono hs1)
  have hm2 := (hb2.cell (p := ⟨w.heap.size + 1, 13, none⟩) (by exact hs0)).trans hm1
  have hs2 := hb2.size
  clear hb2
  go_wp2_with fail
  refine (awake_c _ (HG.out.below hbel2)).mono ?_
  rintro e w3 ⟨rfl, hb3⟩
  have hm3 := (hb3.cell (p := ⟨w.heap.size + 1, 13, none⟩) (by show w.heap.size + 1 < w2.heap.size; omega)).trans hm2
  go_wp2_with fail
  go_ret
  exact ⟨rfl, hbel2.trans (hb3.mono hbel2.size)⟩

set_option maxRecDepth 100000 in
set_option maxHeartbeats 1000000 in
theorem refuses_14 (a : Int) (w : World) (hx : wrap64 ((IntKind.u64.wrap a).tmod 16) = 14) (hg : Glob w) :
    Calls Tryd.prog 5 #[.int .i64 a] w fun e w' => e = .returned (.bool true) ∧ Below w.heap.size w w' := by
  have HG := Lib.hid hg
  clear hg
  go_enter Tryd.func5, Tryd.ntmps5
  go_wp2_with fail
  refine (Split_no _ _ (by decide) ((HG.out.alloc _).alloc _) 5 (by decide) (by decide +kernel)).mono ?_
  rintro e w1 ⟨⟨A1, c1, rfl⟩, hb⟩
  have hb1 : Below w.heap.size w w1 := (((Below.refl _ _).alloc (Nat.le_refl _) _).alloc (by simp) _).trans (hb.mono (by simp; omega))
  have hm1 : w1.cell? ⟨w.heap.size + 1, 14, none⟩ = some (.string ⟨#[60, 95, 49, 62]⟩) := (hb.cell (p := ⟨w.heap.size + 1, 14, none⟩) (by simp)).trans (by simp [go_sem])
  have hs1 := hb1.size
  have hs0 : w.heap.size + 1 < w1.heap.size := by have := hb.size; simp at this; omega
  clear hb
  go_wp2_with fail
  refine (Split_yes _ _ (by decide) (HG.out.below hb1) (by decide +kernel) (by decide)).mono ?_
  rintro e w2 ⟨⟨A2, n2, c2, hn2, rfl⟩, hb2⟩
  have hbel2 := hb1.trans (hb2.mono hs1)
  have hm2 := (hb2.cell (p := ⟨w.heap.size + 1, 14, none⟩) (by exact hs0)).trans hm1
  have hs2 := hb2.size
  clear hb2
  go_wp2_with fail
  refine (awake_c _ (HG.out.below hbel2)).mono ?_
  rintro e w3 ⟨rfl, hb3⟩
  have hm3 := (hb3.cell (p := ⟨w.heap.size + 1, 14, none⟩) (by show w.heap.size + 1 < w2.heap.size; omega)).trans hm2
  go_wp2_with fail
  go_ret
  exact ⟨rfl, hbel2.trans (hb3.mono hbel2.size)⟩

set_option maxRecDepth 100000 in
set_option maxHeartbeats 1000000 in
theorem refuses_15 (a : Int) (w : World) (hx : wrap64 ((IntKind.u64.wrap a).tmod 16) = 15) (hg : Glob w) :
    Calls Tryd.prog 5 #[.int .i64 a] w fun e w' => e = .returned (.bool true) ∧ Below w.heap.size w w' := by
  have HG := Lib.hid hg
  clear hg
  go_enter Tryd.func5, Tryd.ntmps5
  go_wp2_with fail
  refine (Split_no _ _ (by decide) ((HG.out.alloc _).alloc _) 5 (by decide) (by decide +kernel)).mono ?_
  rintro e w1 ⟨⟨A1, c1, rfl⟩, hb⟩
  have hb1 : Below w.heap.size w w1 := (((Below.refl _ _).alloc (Nat.le_refl _) _).alloc (by simp) _).trans (hb.mono (by simp; omega))
  have hm1 : w1.cell? ⟨w.heap.size + 1, 15, none⟩ = some (.string ⟨#[60, 97, 47, 62]⟩) := (hb.cell (p := ⟨w.heap.size + 1, 15, none⟩) (by simp)).trans (by simp [go_sem])
  have hs1 := hb1.size
  have hs0 : w.heap.size + 1 < w1.heap.size := by have := hb.size; simp at this; omega
  clear hb
  go_wp2_with fail
  refine (Split_yes _ _ (by decide) (HG.out.below hb1) (by decide +kernel) (by decide)).mono ?_
  rintro e w2 ⟨⟨A2, n2, c2, hn2, rfl⟩, hb2⟩
  have hbel2 := hb1.trans (hb2.mono hs1)
  have hm2 := (hb2.cell (p := ⟨w.heap.size + 1, 15, none⟩) (by exact hs0)).trans hm1
  have hs2 := hb2.size
  clear hb2
  go_wp2_with fail
  refine (awake_c _ (HG.out.below hbel2)).mono ?_
  rintro e w3 ⟨rfl, hb3⟩
  have hm3 := (hb3.cell (p := ⟨w.heap.size + 1, 15, none⟩) (by show w.heap.size + 1 < w2.heap.size; omega)).trans hm2
  go_wp2_with fail
  go_ret
  exact ⟨rfl, hbel2.trans (hb3.mono hbel2.size)⟩

theorem TokenRefuses_walk (a : Int) (w : World) (ha : (Lit.int .i64 a).wf = true) (hg : Glob w) :
    Calls Tryd.prog 5 #[.int .i64 a] w fun e w' => e = .returned (.bool true) ∧ Below w.heap.size w w' := by
  obtain ⟨h0, h1⟩ := idx_in a 16 (by decide) (by decide)
  rcases (show wrap64 ((IntKind.u64.wrap a).tmod 16) = 0 ∨ wrap64 ((IntKind.u64.wrap a).tmod 16) = 1 ∨ wrap64 ((IntKind.u64.wrap a).tmod 16) = 2 ∨ wrap64 ((IntKind.u64.wrap a).tmod 16) = 3 ∨ wrap64 ((IntKind.u64.wrap a).tmod 16) = 4 ∨ wrap64 ((IntKind.u64.wrap a).tmod 16) = 5 ∨ wrap64 ((IntKind.u64.wrap a).tmod 16) = 6 ∨ wrap64 ((IntKind.u64.wrap a).tmod 16) = 7 ∨ wrap64 ((IntKind.u64.wrap a).tmod 16) = 8 ∨ wrap64 ((IntKind.u64.wrap a).tmod 16) = 9 ∨ wrap64 ((IntKind.u64.wrap a).tmod 16) = 10 ∨ wrap64 ((IntKind.u64.wrap a).tmod 16) = 11 ∨ wrap64 ((IntKind.u64.wrap a).tmod 16) = 12 ∨ wrap64 ((IntKind.u64.wrap a).tmod 16) = 13 ∨ wrap64 ((IntKind.u64.wrap a).tmod 16) = 14 ∨ wrap64 ((IntKind.u64.wrap a).tmod 16) = 15 by omega) with h | h | h | h | h | h | h | h | h | h | h | h | h | h | h | h
  · exact refuses_0 a w h hg
  · exact refuses_1 a w h hg
  · exact refuses_2 a w h hg
  · exact refuses_3 a w h hg
  · exact refuses_4 a w h hg
  · exact refuses_5 a w h hg
  · exact refuses_6 a w h hg
  · exact refuses_7 a w h hg
  · exact refuses_8 a w h hg
  · exact refuses_9 a w h hg
  · exact refuses_10 a w h hg
  · exact refuses_11 a w h hg
  · exact refuses_12 a w h hg
  · exact refuses_13 a w h hg
  · exact refuses_14 a w h hg
  · exact refuses_15 a w h hg

end Go.Proofs.YtpmmmmfaaimmfaaDoor
