/-
  Contracts of the walk's small steps (layer 2): take, skip, upTo, spaces, name.
-/
import Derived.Test.YtkccockdnjjanaaGreatDoorTkEnt
import Derived.Maps.Range
namespace Nwl
theorem tx_ext_take (r : List UInt8) (n : Nat) : (tx r).extract 0 n = tx (r.take n) := by
  apply bs_inj; rw [bs_upto, bs_tx, bs_tx]
theorem tx_ext_drop (r : List UInt8) (n : Nat) : (tx r).extract n (tx r).size = tx (r.drop n) := by
  apply bs_inj; rw [bs_from, bs_tx, bs_tx]
theorem tx_get (r : List UInt8) (n : Nat) (h : n < (tx r).size) : (tx r)[n] = r[n]'(by rw [← tx_size]; exact h) := rfl
theorem takeWhile_upto (p : UInt8 → Bool) : ∀ (l : List UInt8) (k : Nat) (_ : ∀ j (hj : j < l.length), j < k → p l[j] = true) (_ : ∀ (hk : k < l.length), p l[k] = false), l.takeWhile p = l.take k
  | [], k, _, _ => by simp
  | c :: r, 0, _, h2 => by
    have := h2 (by simp)
    simp only [List.getElem_cons_zero] at this
    simp [this]
  | c :: r, k + 1, h1, h2 => by
    have h0 := h1 0 (by simp) (by omega)
    simp only [List.getElem_cons_zero] at h0
    rw [List.takeWhile_cons, if_pos h0, List.take_succ_cons]
    rw [takeWhile_upto p r k (fun j hj h => by have := h1 (j + 1) (by simp; omega) (by omega); simpa using this) (fun hk => by have := h2 (by simp; omega); simpa using this)]
theorem name_one (c : UInt8) : nameB (tx [c]) = beginI c.toNat := by
  unfold nameB
  rw [bs_tx]
  show (beginI c.toNat && [].all within8) = _
  rw [List.all_nil, Bool.and_true]
theorem name_two (c : UInt8) : nameB (⟨#[95]⟩ ++ tx [c]) = withinI c.toNat := by
  unfold nameB
  rw [bs_append]
  show nameL (95 :: [c]) = _
  have : beginI 95 = true := by decide
  simp [nameL, within8, this]
theorem nameP_no {l : List UInt8} (h : ∀ h0 : 0 < l.length, beginI (l[0]).toNat = false) : nameP l = ([], l) := by
  cases l with
  | nil => rfl
  | cons c r =>
    have := h (by simp)
    simp only [List.getElem_cons_zero] at this
    simp [nameP, this]
theorem nameP_yes {l : List UInt8} {k : Nat} (h0 : 0 < l.length) (hb : beginI (l[0]).toNat = true) (h1 : AllTo within8 l k) (h2 : ∀ hk : k < l.length, within8 l[k] = false) : nameP l = (l.take k, l.drop k) := by
  have e1 := takeWhile_upto within8 l k h1 h2
  have e2 := dropWhile_drop within8 l k h1 h2
  cases l with
  | nil => simp at h0
  | cons c r =>
    simp only [List.getElem_cons_zero] at hb
    simp only [nameP, hb, if_true]
    rw [e1, e2]
end Nwl
namespace Go.Proofs.YtkccockdnjjanaaGreatDoor
open Nwl
open Go.RowKit
set_option linter.unusedVariables false

/-- the walk in block g has still to take r -/
def Wk (g : Nat) (r : List UInt8) (w : World) : Prop := w.heap[g]? = some (.cells #[.string (tx r)] 78 (0, 0))
theorem Wk.cell {g : Nat} {r : List UInt8} {w : World} (h : Wk g r w) : w.cell? ⟨g, 0, none⟩ = some (.string (tx r)) := by rw [Lib.cell_of_heap h]; rfl
theorem Wk.frozen {g : Nat} {r : List UInt8} {w : World} (h : Wk g r w) : w.frozen? ⟨g, 0, none⟩ = false := Lib.frozen_of_heap h 0
theorem Wk.lt {g : Nat} {r : List UInt8} {w : World} (h : Wk g r w) : g < w.heap.size := by
  rcases Nat.lt_or_ge g w.heap.size with h' | h'
  · exact h'
  · unfold Wk at h; rw [Array.getElem?_eq_none h'] at h; cases h
theorem Wk.set {g : Nat} {r : List UInt8} {w : World} (h : Wk g r w) (r' : List UInt8) : Wk g r' (w.setCell ⟨g, 0, none⟩ (.string (tx r'))) := by
  unfold Wk at h ⊢
  simp [World.setCell, Array.getElem?_modify, h]
theorem Wk.below {g : Nat} {r : List UInt8} {w w' : World} (h : Wk g r w) (hb : Below w.heap.size w w') : Wk g r w' := (hb.block g h.lt).trans h
theorem Wk.alloc {g : Nat} {r : List UInt8} {w : World} (h : Wk g r w) (o : Obj) : Wk g r (w.alloc o) := (Below.heap_alloc w o g h.lt).trans h
theorem Glob.grown {g : Nat} {r : List UInt8} {w w' : World} (hg : Glob w) (hk : Wk g r w) (h : w.grownBy w' (some g)) : Glob w' := by
  obtain ⟨⟨m, h1⟩, te, pe, h2⟩ := hg
  have hc := hk
  unfold Wk at hc
  refine ⟨⟨m, h.cell h1 ?_⟩, te, pe, h.cell h2 ?_⟩
  · intro e
    simp only [Option.some.injEq] at e
    rw [← e] at hc
    rw [Lib.cell_of_heap hc] at h1
    simp at h1
  · intro e
    simp only [Option.some.injEq] at e
    rw [← e] at hc
    rw [Lib.cell_of_heap hc] at h2
    simp at h2

set_option maxHeartbeats 400000 in
theorem take_c (g n : Nat) (r : List UInt8) (w : World) (hk : Wk g r w) (hr : r.length ≤ 100000) (hn : n ≤ r.length) :
    Calls Tryz.prog 100 #[.pointer (some ⟨g, 0, none⟩), .int .i64 n] w fun e w' => e = .returned (.string (tx (r.take n))) ∧ Wk g (r.drop n) w' ∧ w.grownBy w' (some g) := by
  have hc := hk.cell
  have hf := hk.frozen
  have hsz : (tx r).size ≤ 100000 := by rw [tx_size]; exact hr
  have hn' : n ≤ (tx r).size := by rw [tx_size]; exact hn
  have H1 := Lib.hid (tx_ext_take r n)
  have H2 := Lib.hid (tx_ext_drop r n)
  have HK := Lib.hid hk
  clear hk
  go_enter Tryz.func100, Tryz.ntmps100
  go_wp2
  go_ret
  refine ⟨ret_str H1.out, ?_, grown_set _ _ _ _⟩
  rw [H2.out]
  exact HK.out.set _

set_option maxHeartbeats 400000 in
theorem skip_yes (g : Nat) (r p : List UInt8) (w : World) (hk : Wk g r w) (h : Lib.hasPrefix r p = true) :
    Calls Tryz.prog 66 #[.pointer (some ⟨g, 0, none⟩), .string ⟨p.toArray⟩] w fun e w' => e = .returned (.bool true) ∧ Wk g (r.drop p.length) w' ∧ w.grownBy w' (some g) := by
  have hc := hk.cell
  have hf := hk.frozen
  have HH : Hid (Lib.hasPrefix (bs (tx r)) p = true) := Lib.hid h
  have HK := Lib.hid hk
  clear hk h
  go_enter Tryz.func66, Tryz.ntmps66
  go_wp2_with (go_at_call 92; refine (CutPrefix_yes _ _ _ HH.out).mono ?_; rintro e w1 ⟨rfl, rfl⟩)
  go_ret
  exact ⟨rfl, HK.out.set _, grown_set _ _ _ _⟩

set_option maxHeartbeats 400000 in
theorem skip_no (g : Nat) (r p : List UInt8) (w : World) (hk : Wk g r w) (h : Lib.hasPrefix r p = false) :
    Calls Tryz.prog 66 #[.pointer (some ⟨g, 0, none⟩), .string ⟨p.toArray⟩] w fun e w' => e = .returned (.bool false) ∧ Wk g r w' ∧ w.grownBy w' (some g) := by
  have hc := hk.cell
  have hf := hk.frozen
  have HH : Hid (Lib.hasPrefix (bs (tx r)) p = false) := Lib.hid h
  have HK := Lib.hid hk
  clear hk h
  go_enter Tryz.func66, Tryz.ntmps66
  go_wp2_with (go_at_call 92; refine (CutPrefix_no _ _ _ HH.out).mono ?_; rintro e w1 ⟨rfl, rfl⟩)
  go_ret
  exact ⟨rfl, HK.out.set _, grown_set _ _ _ _⟩

set_option maxHeartbeats 400000 in
theorem upTo_yes (g : Nat) (r sep x y : List UInt8) (w : World) (hk : Wk g r w) (hg : Glob w) (hr : r.length ≤ 100000) (h : cutL sep r = some (x, y)) :
    Calls Tryz.prog 68 #[.pointer (some ⟨g, 0, none⟩), .string ⟨sep.toArray⟩] w fun e w' => e = .returned (.tuple #[.string (tx x), .bool true]) ∧ Wk g y w' ∧ w.grownBy w' (some g) := by
  have hc := hk.cell
  have hz : (tx r).size ≤ 100000 := by rw [tx_size]; exact hr
  have HH : Hid (cutL sep (bs (tx r)) = some (x, y)) := Lib.hid h
  have HK := Lib.hid hk
  have HG := Lib.hid hg
  clear hk h hg
  go_enter Tryz.func68, Tryz.ntmps68
  go_wp2_with fail
  refine (Cut_yes _ _ _ _ _ hz HG.out HH.out).mono ?_
  rintro e w1 ⟨rfl, hb⟩
  have HK1 := Lib.hid (HK.out.below hb)
  have hc1 := HK1.out.cell
  have hf1 := HK1.out.frozen
  go_wp2_with fail
  go_ret2
  exact ⟨rfl, HK1.out.set _, (grown_of_below hb _).trans (grown_set _ _ _ _)⟩

set_option maxHeartbeats 400000 in
theorem upTo_no (g : Nat) (r sep : List UInt8) (w : World) (hk : Wk g r w) (hg : Glob w) (hr : r.length ≤ 100000) (h : cutL sep r = none) :
    Calls Tryz.prog 68 #[.pointer (some ⟨g, 0, none⟩), .string ⟨sep.toArray⟩] w fun e w' => e = .returned (.tuple #[.string (tx r), .bool false]) ∧ Wk g [] w' ∧ w.grownBy w' (some g) := by
  have hc := hk.cell
  have hz : (tx r).size ≤ 100000 := by rw [tx_size]; exact hr
  have HH : Hid (cutL sep (bs (tx r)) = none) := Lib.hid h
  have HK := Lib.hid hk
  have HG := Lib.hid hg
  clear hk h hg
  go_enter Tryz.func68, Tryz.ntmps68
  go_wp2_with fail
  refine (Cut_no _ _ _ hz HG.out HH.out).mono ?_
  rintro e w1 ⟨rfl, hb⟩
  have HK1 := Lib.hid (HK.out.below hb)
  have hc1 := HK1.out.cell
  have hf1 := HK1.out.frozen
  go_wp2_with fail
  go_ret2
  exact ⟨rfl, HK1.out.set [], (grown_of_below hb _).trans (grown_set _ _ _ _)⟩

set_option maxHeartbeats 400000 in
theorem goesOn_0 (c : UInt8) (w : World) :
    Calls Tryz.prog 110 #[.int .i64 0, .string (tx [c])] w fun e w' => e = .returned (.bool (beginI c.toNat)) ∧ w = w' := by
  have h1 := Lib.hid (name_one c)
  have hsz : (tx [c]).size ≤ maxLen := by
    rw [tx_size]
    show 1 ≤ maxLen
    decide
  go_enter Tryz.func110, Tryz.ntmps110
  go_wp2_with (go_at_call 83; refine (Name_c _ _ hsz).mono ?_; rintro e w' ⟨rfl, rfl⟩)
  go_ret
  exact ⟨ret_bool h1.out, rfl⟩

set_option maxHeartbeats 400000 in
theorem goesOn_n (n : Int) (c : UInt8) (w : World) (h0 : 0 < n) :
    Calls Tryz.prog 110 #[.int .i64 n, .string (tx [c])] w fun e w' => e = .returned (.bool (withinI c.toNat)) ∧ w = w' := by
  have h2 := Lib.hid (name_two c)
  have hb : (n == 0) = false := by rw [beq_eq_false_iff_ne]; omega
  have hsz : (⟨#[95]⟩ ++ tx [c] : ByteArray).size ≤ maxLen := by
    rw [← bs_length, bs_append, List.length_append]
    show 1 + 1 ≤ maxLen
    decide
  go_enter Tryz.func110, Tryz.ntmps110
  go_wp2_with (go_at_call 83; refine (Name_c _ _ hsz).mono ?_; rintro e w' ⟨rfl, rfl⟩)
  go_ret
  exact ⟨ret_bool h2.out, rfl⟩

end Go.Proofs.YtkccockdnjjanaaGreatDoor
