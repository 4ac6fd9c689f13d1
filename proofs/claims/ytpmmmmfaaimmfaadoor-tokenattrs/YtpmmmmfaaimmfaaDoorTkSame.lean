/-
  newelhelp.Plain over attributes: two rows that hold the same are told the same.
-/
import Derived.Test.YtpmmmmfaaimmfaaDoorTkEntities
import Derived.Deep.RegionWith
namespace Go.Proofs.YtpmmmmfaaimmfaaDoor
open Nwl
open Go.RowKit Go.Maps
set_option linter.unusedVariables false

theorem attrCells_get : ∀ (l : List (List UInt8 × List UInt8)) (j : Nat) (h : j < l.length), (attrCells l)[2 * j]? = some (.string (tx l[j].1)) ∧ (attrCells l)[2 * j + 1]? = some (.string (tx l[j].2))
  | a :: l, 0, h => ⟨rfl, rfl⟩
  | a :: l, j + 1, h => by
    have := attrCells_get l j (by simpa using h)
    have e : attrCells (a :: l) = .string (tx a.1) :: .string (tx a.2) :: attrCells l := rfl
    rw [e]
    have e1 : 2 * (j + 1) = 2 * j + 1 + 1 := by omega
    rw [e1]
    simpa using this

theorem below_drew_trans {w wr w2 : World} (h : Below w.heap.size w wr) (h2 : Below wr.drew.heap.size wr.drew w2) : Below w.heap.size w w2 := h.drew.trans (h2.mono h.size)
theorem cell_lt1 {w : World} {a : Addr} {v : Value} (h : w.cell? a = some v) : a.block < w.heap.size := by
  apply Classical.byContradiction
  intro hn
  have : w.heap[a.block]? = none := Array.getElem?_eq_none (by omega)
  simp [World.cell?, this] at h

set_option maxRecDepth 100000 in
theorem plain1_c (a b c d : ByteArray) (w : World) (h1 : a = c) (h2 : b = d) :
    Calls Tryd.prog 25 #[.agg #[.string a, .string b], .agg #[.string c, .string d]] w fun e w' => e = .returned (.bool true) ∧ Below w.heap.size w w' := by
  subst h1 h2
  go_enter Tryd.func25, Tryd.ntmps25
  go_wp2_with fail
  go_ret
  exact ⟨rfl, ((Below.refl _ _).alloc (Nat.le_refl _) _).alloc (by simp) _⟩

set_option maxRecDepth 100000 in
set_option maxHeartbeats 2000000 in
theorem Same_c (A1 A2 : Option Addr) (n c1 c2 : Nat) (w : World) (hn : n ≤ 1000)
    (h1 : ∀ j, j < n → ∃ g1 g2 s t, A1 = some ⟨g1, 0, none⟩ ∧ A2 = some ⟨g2, 0, none⟩ ∧ w.cell? ⟨g1, 2 * j, none⟩ = some (.string s) ∧ w.cell? ⟨g1, 2 * j + 1, none⟩ = some (.string t) ∧ w.cell? ⟨g2, 2 * j, none⟩ = some (.string s) ∧ w.cell? ⟨g2, 2 * j + 1, none⟩ = some (.string t)) :
    Calls Tryd.prog 24 #[.slice A1 n c1, .slice A2 n c2, .func (.func 25) #[] #[]] w fun e w' => e = .returned (.bool true) ∧ Below w.heap.size w w' := by
  have HC := Lib.hid h1
  clear h1
  go_enter Tryd.func24, Tryd.ntmps24
  go_wp2_with fail
  go_loopw [7] (fun i wr => ∃ k : Nat, k ≤ n ∧ i = .int .i64 k ∧ Hid (Below w.heap.size w wr)) (fun i _ => n - (intOf i).toNat)
  case atStart => exact ⟨0, Nat.zero_le _, rfl, Below.refl _ _⟩
  case round =>
    obtain ⟨k, hk, rfl, hh⟩ := hrel
    by_cases hlt : k < n
    · obtain ⟨g1, g2, s, t, rfl, rfl, q1, q2, q3, q4⟩ := HC.out k hlt
      have HB := Lib.hid hh.out
      have z1 : g1 < w.heap.size := cell_lt1 q1
      have z2 : g2 < w.heap.size := cell_lt1 q3
      have r1 : wr.cell? ⟨g1, k * 2, none⟩ = some (.string s) := (HB.out.cell (p := ⟨g1, k * 2, none⟩) z1).trans (by rw [Nat.mul_comm]; exact q1)
      have r2 : wr.cell? ⟨g1, k * 2 + 1, none⟩ = some (.string t) := (HB.out.cell (p := ⟨g1, k * 2 + 1, none⟩) z1).trans (by rw [Nat.mul_comm]; exact q2)
      have r3 : wr.cell? ⟨g2, k * 2, none⟩ = some (.string s) := (HB.out.cell (p := ⟨g2, k * 2, none⟩) z2).trans (by rw [Nat.mul_comm]; exact q3)
      have r4 : wr.cell? ⟨g2, k * 2 + 1, none⟩ = some (.string t) := (HB.out.cell (p := ⟨g2, k * 2 + 1, none⟩) z2).trans (by rw [Nat.mul_comm]; exact q4)
      clear q1 q2 q3 q4
      go_wp2_with fail
      go_region_with (go_at_call 25; refine (plain1_c s t s t _ rfl rfl).mono ?_; rintro e w2 ⟨rfl, hb2⟩)
      all_goals (have HB2 : Hid (Below w.heap.size w w2) := Lib.hid (below_drew_trans HB.out hb2))
      all_goals (go_wp2_with fail; go_roundw)
      all_goals first | exact ⟨k + 1, by omega, by go_num, HB2.out⟩ | (simp [intOf]; omega)
    · go_wp2_with fail
      go_ret
      exact ⟨rfl, hh.out⟩

set_option maxRecDepth 100000 in
theorem Plain_c (A1 A2 : Option Addr) (n c1 c2 : Nat) (w : World) (hn : n ≤ 1000)
    (h1 : ∀ j, j < n → ∃ g1 g2 s t, A1 = some ⟨g1, 0, none⟩ ∧ A2 = some ⟨g2, 0, none⟩ ∧ w.cell? ⟨g1, 2 * j, none⟩ = some (.string s) ∧ w.cell? ⟨g1, 2 * j + 1, none⟩ = some (.string t) ∧ w.cell? ⟨g2, 2 * j, none⟩ = some (.string s) ∧ w.cell? ⟨g2, 2 * j + 1, none⟩ = some (.string t)) :
    Calls Tryd.prog 15 #[.slice A1 n c1, .slice A2 n c2] w fun e w' => e = .returned (.bool true) ∧ Below w.heap.size w w' := by
  have HC := Lib.hid h1
  clear h1
  go_enter Tryd.func15, Tryd.ntmps15
  go_wp2_with fail
  refine (Same_c A1 A2 n c1 c2 w hn HC.out).mono ?_
  rintro e w2 ⟨rfl, hb2⟩
  go_wp2_with fail
  go_ret
  exact ⟨rfl, hb2⟩
end Go.Proofs.YtpmmmmfaaimmfaaDoor
