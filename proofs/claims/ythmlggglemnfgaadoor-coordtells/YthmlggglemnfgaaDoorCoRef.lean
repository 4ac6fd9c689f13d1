/-
  Contracts of the document's own Coord, CoordText, CoordParse.
-/
import Derived.Test.YthmlggglemnfgaaDoorCoRefId
import Derived.Test.YthmlggglemnfgaaDoorCoParse
import Derived.BigRegion
namespace Go.Proofs.YthmlggglemnfgaaDoor
open Nwl
open Go.RowKit Go.Maps
set_option linter.unusedVariables false
set_option linter.unusedSimpArgs false

set_option maxRecDepth 100000 in
set_option maxHeartbeats 1000000 in
theorem rCoord_c (g n v : List UInt8) (w : World) (hg : g.length ≤ 1000000000000000) (hn : n.length ≤ 1000000000000000) (hv : v.length ≤ 1000000000000000) (r : Bool) (hr : coordL ⟨g, n, v⟩ = r) :
    Calls Tryd.prog 12 #[crV g n v] w fun e w' => e = .returned (.bool r) ∧ Hid (Below w.heap.size w w') := by
  obtain ⟨a, ha⟩ : ∃ a, idL (bs (tx g)) = a := ⟨_, rfl⟩
  obtain ⟨b, hb⟩ : ∃ b, idL (bs (tx n)) = b := ⟨_, rfl⟩
  obtain ⟨c, hc⟩ : ∃ c, verL (bs (tx v)) = c := ⟨_, rfl⟩
  have e : (a && (b && c)) = r := by rw [← ha, ← hb, ← hc, ← hr]; rfl
  have HA := Lib.hid ha
  have HB := Lib.hid hb
  have HC := Lib.hid hc
  have BB := Lib.hid ((Below.refl w.heap.size w).alloc (Nat.le_refl _) (.cells #[.string (tx g), .string (tx n), .string (tx v)] 23))
  have sg := tx_small hg
  have sn := tx_small hn
  have sv := tx_small hv
  clear ha hb hc hr hg hn hv
  subst e
  go_enter Tryd.func12, Tryd.ntmps12
  go_wp2_with fail
  refine (rId_c (tx g) _ sg a HA.out).mono ?_
  rintro e w' ⟨rfl, rfl⟩
  cases a with
  | false =>
    go_wp2_with fail
    go_ret
    exact ⟨rfl, BB⟩
  | true =>
    go_wp2_with fail
    refine (rId_c (tx n) _ sn b HB.out).mono ?_
    rintro e w' ⟨rfl, rfl⟩
    cases b with
    | false =>
      go_wp2_with fail
      go_ret
      exact ⟨rfl, BB⟩
    | true =>
      go_wp2_with fail
      refine (rPlain_c (tx v) _ sv c HC.out).mono ?_
      rintro e w' ⟨rfl, rfl⟩
      go_wp2_with fail
      go_ret
      exact ⟨rfl, BB⟩

set_option maxRecDepth 100000 in
set_option maxHeartbeats 1000000 in
theorem rText9_c (g n v : List UInt8) (w : World) (hg : g.length ≤ 1000000000000000) (hn : n.length ≤ 1000000000000000) (hv : v.length ≤ 1000000000000000) (F : List UInt8) (hF : textC ⟨g, n, v⟩ = F) :
    Calls Tryd.prog 14 #[crV g n v] w fun e w' => e = .returned (.string (tx F)) ∧ Hid (Below w.heap.size w w') := by
  have BB := Lib.hid ((Below.refl w.heap.size w).alloc (Nat.le_refl _) (.cells #[.string (tx g), .string (tx n), .string (tx v)] 23))
  have HF := Lib.hid ((tx_text g n v).trans (congrArg tx hF))
  have sg := tx_small hg
  have sn := tx_small hn
  have sv := tx_small hv
  have k1 : ¬ 9223372036854775807 < (tx g).size + 1 := by omega
  have k2 : ¬ 9223372036854775807 < (tx g).size + 1 + (tx n).size := by omega
  have k3 : ¬ 9223372036854775807 < (tx g).size + 1 + (tx n).size + 1 := by omega
  have k4 : ¬ 9223372036854775807 < (tx g).size + 1 + (tx n).size + 1 + (tx v).size := by omega
  clear hF hg hn hv sg sn sv
  go_enter Tryd.func14, Tryd.ntmps14
  go_wp2_with fail
  go_ret
  exact ⟨ret_txt HF.out, BB⟩

/-- the three places' texts, and the answer's box below them -/
def PB (w W : World) (g n v : List UInt8) : Prop := KX w W ∧ Blk W (w.heap.size + 1) 40 #[.string (tx g), .string (tx n), .string (tx v)]
theorem PB.rd {w W : World} {g n v : List UInt8} (h : PB w W g n v) : W.cell? ⟨w.heap.size + 1, 0, none⟩ = some (.string (tx g)) ∧ W.cell? ⟨w.heap.size + 1, 1, none⟩ = some (.string (tx n)) ∧ W.cell? ⟨w.heap.size + 1, 2, none⟩ = some (.string (tx v)) ∧ W.frozen? ⟨w.heap.size + 1, 0, none⟩ = false ∧ W.frozen? ⟨w.heap.size + 1, 1, none⟩ = false ∧ W.frozen? ⟨w.heap.size + 1, 2, none⟩ = false := ⟨h.2.cell 0, h.2.cell 1, h.2.cell 2, h.2.frozen 0, h.2.frozen 1, h.2.frozen 2⟩
theorem KX.set_far {w W : World} (h : KX w W) {d : Nat} (hd : w.heap.size < d) (i : Nat) (u : Value) : KX w (W.setCell ⟨d, i, none⟩ u) := ⟨h.1.set_far (by omega) u, h.2.setCell (by show w.heap.size ≤ d; omega) u⟩
theorem PB.set0 {w W : World} {g n v : List UInt8} (h : PB w W g n v) (x : List UInt8) : PB w (W.drew.setCell ⟨w.heap.size + 1, 0, none⟩ (.string (tx x))) x n v := ⟨KX.set_far (W := W.drew) ⟨h.1.1, h.1.2.drew⟩ (by omega) _ _, Blk.set (w := W.drew) h.2 0 _⟩
theorem PB.set1 {w W : World} {g n v : List UInt8} (h : PB w W g n v) (x : List UInt8) : PB w (W.drew.setCell ⟨w.heap.size + 1, 1, none⟩ (.string (tx x))) g x v := ⟨KX.set_far (W := W.drew) ⟨h.1.1, h.1.2.drew⟩ (by omega) _ _, Blk.set (w := W.drew) h.2 1 _⟩
theorem PB.set2 {w W : World} {g n v : List UInt8} (h : PB w W g n v) (x : List UInt8) : PB w (W.drew.setCell ⟨w.heap.size + 1, 2, none⟩ (.string (tx x))) g n x := ⟨KX.set_far (W := W.drew) ⟨h.1.1, h.1.2.drew⟩ (by omega) _ _, Blk.set (w := W.drew) h.2 2 _⟩
end Go.Proofs.YthmlggglemnfgaaDoor
