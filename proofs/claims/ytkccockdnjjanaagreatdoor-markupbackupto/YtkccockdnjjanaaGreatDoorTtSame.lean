/-
  newelhelp.Same over tokens: two rows that hold the same tokens are told the same.
-/
import Derived.Test.YtkccockdnjjanaaGreatDoorTkSplitM
import Derived.Test.YtkccockdnjjanaaGreatDoorGnAttR
import Derived.Deep.RegionHeld3
import Derived.Deep.CutRange
namespace Go.Proofs.YtkccockdnjjanaaGreatDoor
open Nwl
open Go.RowKit Go.Maps
set_option linter.unusedVariables false
set_option linter.unusedSimpArgs false

/-- tokens that may be read, below block B -/
def TokRd (B : Nat) (w : World) (A : Option Addr) (n : Nat) (ts : List Tok) : Prop := n = ts.length ∧ ∀ j (hj : j < ts.length), ∃ (b o : Nat) (A' : Option Addr) (l c : Nat), A = some ⟨b, o, none⟩ ∧ b < B ∧ w.cell? ⟨b, o + j * 5, none⟩ = some (.int .i64 (ts[j].kind : Int)) ∧ w.cell? ⟨b, o + j * 5 + 1, none⟩ = some (.string (tx ts[j].name)) ∧ w.cell? ⟨b, o + j * 5 + 2, none⟩ = some (.string (tx ts[j].text)) ∧ w.cell? ⟨b, o + j * 5 + 3, none⟩ = some (.slice A' l c) ∧ w.cell? ⟨b, o + j * 5 + 4, none⟩ = some (.bool ts[j].empty) ∧ AttR B w A' l ts[j].attrs
theorem TokRd.below {B : Nat} {w w' : World} {A : Option Addr} {n : Nat} {ts : List Tok} (h : TokRd B w A n ts) (hb : Below B w w') : TokRd B w' A n ts :=
  ⟨h.1, fun j hj => by
    obtain ⟨b, o, A', l, c, q1, q2, q3, q4, q5, q6, q7, q8⟩ := h.2 j hj
    exact ⟨b, o, A', l, c, q1, q2, (hb.cell (p := ⟨b, o + j * 5, none⟩) q2).trans q3, (hb.cell (p := ⟨b, o + j * 5 + 1, none⟩) q2).trans q4, (hb.cell (p := ⟨b, o + j * 5 + 2, none⟩) q2).trans q5, (hb.cell (p := ⟨b, o + j * 5 + 3, none⟩) q2).trans q6, (hb.cell (p := ⟨b, o + j * 5 + 4, none⟩) q2).trans q7, q8.below hb⟩⟩
theorem TokRd.nil (B : Nat) (w : World) : TokRd B w none 0 [] := ⟨rfl, fun j hj => by simp at hj⟩
theorem TokCells.at {w : World} {B base : Nat} (hB : w.heap.size ≤ B) : ∀ {ts : List Tok} {cs : List Value}, TokCells w base ts cs → ∀ j (hj : j < ts.length), ∃ (A : Option Addr) (l c : Nat), cs[j * 5]? = some (.int .i64 (ts[j].kind : Int)) ∧ cs[j * 5 + 1]? = some (.string (tx ts[j].name)) ∧ cs[j * 5 + 2]? = some (.string (tx ts[j].text)) ∧ cs[j * 5 + 3]? = some (.slice A l c) ∧ cs[j * 5 + 4]? = some (.bool ts[j].empty) ∧ AttR B w A l ts[j].attrs
  | t :: ts, cs, h, 0, hj => by
    obtain ⟨A, l, c, tl, rfl, h1, h2⟩ := h
    exact ⟨A, l, c, rfl, rfl, rfl, rfl, rfl, AttR.of h1 hB⟩
  | t :: ts, cs, h, j + 1, hj => by
    obtain ⟨A, l, c, tl, rfl, h1, h2⟩ := h
    obtain ⟨A', l', c', q⟩ := TokCells.at hB h2 j (by simpa using hj)
    refine ⟨A', l', c', ?_⟩
    rw [show (j + 1) * 5 = j * 5 + 1 + 1 + 1 + 1 + 1 by omega]
    exact q
theorem TokRd.of {B base : Nat} {w : World} {A : Option Addr} {n c : Nat} {ts : List Tok} (h : ToksAt base w (.slice A n c) ts) (hn : n = ts.length) (hB : w.heap.size ≤ B) : TokRd B w A n ts := by
  obtain ⟨cs, h1, h2⟩ := h
  have hr := RowR.of h1 hB
  refine ⟨hn, fun j hj => ?_⟩
  obtain ⟨b, o, c', he, hb, _, hc⟩ := hr.some (by omega)
  injection he with q1 _ _
  obtain ⟨A', l', c9, u0, u1, u2, u3, u4, u5⟩ := TokCells.at hB h2 j hj
  exact ⟨b, o, A', l', c9, q1, hb, hc _ _ u0, by rw [Nat.add_assoc]; exact hc _ _ u1, by rw [Nat.add_assoc]; exact hc _ _ u2, by rw [Nat.add_assoc]; exact hc _ _ u3, by rw [Nat.add_assoc]; exact hc _ _ u4, u5⟩

theorem cell_below {w : World} {a : Addr} {v : Value} (h : w.cell? a = some v) : a.block < w.drew.heap.size := by
  apply Classical.byContradiction
  intro hn
  have : w.heap[a.block]? = none := Array.getElem?_eq_none (by simpa using hn)
  simp [World.cell?, this] at h
set_option maxRecDepth 100000 in
theorem pl1_c (a b : ByteArray) (w : World) :
    Calls Tryz.prog 48 #[.agg #[.string a, .string b], .agg #[.string a, .string b]] w fun e w' => e = .returned (.bool true) ∧ Below w.heap.size w w' := by
  go_enter Tryz.func48, Tryz.ntmps48
  go_wp2_with fail
  go_ret
  exact ⟨rfl, ((Below.refl _ _).alloc (Nat.le_refl _) _).alloc (by simp) _⟩
set_option maxRecDepth 100000 in
set_option maxHeartbeats 2000000 in
theorem SameA_r (A1 A2 : Option Addr) (n c1 c2 : Nat) (as' : List (List UInt8 × List UInt8)) (w : World) (B : Nat) (hB : B ≤ w.heap.size) (hn : n ≤ 100000) (h1 : AttR B w A1 n as') (h2 : AttR B w A2 n as') :
    Calls Tryz.prog 47 #[.slice A1 n c1, .slice A2 n c2, .func (.func 48) #[] #[]] w fun e w' => e = .returned (.bool true) ∧ Hid (Below w.heap.size w w') := by
  have HA := Lib.hid h1
  have HB := Lib.hid h2
  have HL := Lib.hid h1.1
  clear h1 h2
  go_enter Tryz.func47, Tryz.ntmps47
  go_wp2_with fail
  go_loopw [7] (fun i wr => ∃ k : Nat, k ≤ n ∧ i = .int .i64 k ∧ Hid (Below w.heap.size w wr)) (fun i _ => n - (intOf i).toNat)
  case atStart => exact ⟨0, Nat.zero_le _, rfl, Below.refl _ _⟩
  case round =>
    obtain ⟨k, hk, rfl, hh⟩ := hrel
    by_cases hlt : k < n
    · have hkl : k < as'.length := by have := HL.out; omega
      obtain ⟨b1, o1, rfl, z1, q1, q2⟩ := HA.out.2 k hkl
      obtain ⟨b2, o2, rfl, z2, q3, q4⟩ := HB.out.2 k hkl
      have HH := Lib.hid hh.out
      obtain ⟨s, hs⟩ : ∃ s, tx (as'[k]'hkl).1 = s := ⟨_, rfl⟩
      obtain ⟨t, ht⟩ : ∃ t, tx (as'[k]'hkl).2 = t := ⟨_, rfl⟩
      rw [hs] at q1 q3
      rw [ht] at q2 q4
      have r1 : wr.cell? ⟨b1, o1 + k * 2, none⟩ = some (.string s) := (HH.out.cell (p := ⟨b1, o1 + k * 2, none⟩) (by show b1 < _; omega)).trans q1
      have r2 : wr.cell? ⟨b1, o1 + k * 2 + 1, none⟩ = some (.string t) := (HH.out.cell (p := ⟨b1, o1 + k * 2 + 1, none⟩) (by show b1 < _; omega)).trans q2
      have r3 : wr.cell? ⟨b2, o2 + k * 2, none⟩ = some (.string s) := (HH.out.cell (p := ⟨b2, o2 + k * 2, none⟩) (by show b2 < _; omega)).trans q3
      have r4 : wr.cell? ⟨b2, o2 + k * 2 + 1, none⟩ = some (.string t) := (HH.out.cell (p := ⟨b2, o2 + k * 2 + 1, none⟩) (by show b2 < _; omega)).trans q4
      clear q1 q2 q3 q4 hs ht HA HB
      go_upto_region 6 with fail
      go_region_held3 (fun w' => w'.cell? ⟨b1, o1 + k * 2, none⟩ = some (.string s) ∧ w'.cell? ⟨b1, o1 + k * 2 + 1, none⟩ = some (.string t) ∧ w'.cell? ⟨b2, o2 + k * 2, none⟩ = some (.string s) ∧ w'.cell? ⟨b2, o2 + k * 2 + 1, none⟩ = some (.string t)) (first | exact ⟨r1, r2, r3, r4⟩ | exact ⟨(hb2.cell (cell_below r1)).trans r1, (hb2.cell (cell_below r2)).trans r2, (hb2.cell (cell_below r3)).trans r3, (hb2.cell (cell_below r4)).trans r4⟩ | fail) (first | (go_at_call 48; refine (pl1_c s t _).mono ?_; rintro e w2 ⟨rfl, hb2⟩))
      have HB2 : Hid (Below w.heap.size w w2) := Lib.hid (HH.out.drew.trans (hb2.mono HH.out.size))
      rename_i hheld
      clear hheld
      go_wp2_with fail
      go_roundw
      case rel => exact ⟨k + 1, by omega, by go_num, HB2.out⟩
      case measure => simp [intOf]; omega
    · go_wp2_with fail
      go_ret
      exact ⟨rfl, hh⟩

set_option maxRecDepth 100000 in
theorem PlainA_r (A1 A2 : Option Addr) (n c1 c2 : Nat) (as' : List (List UInt8 × List UInt8)) (w : World) (B : Nat) (hB : B ≤ w.heap.size) (hn : n ≤ 100000) (h1 : AttR B w A1 n as') (h2 : AttR B w A2 n as') :
    Calls Tryz.prog 26 #[.slice A1 n c1, .slice A2 n c2] w fun e w' => e = .returned (.bool true) ∧ Hid (Below w.heap.size w w') := by
  have HA := Lib.hid h1
  have HB := Lib.hid h2
  clear h1 h2
  go_enter Tryz.func26, Tryz.ntmps26
  go_wp2_with fail
  refine (SameA_r A1 A2 n c1 c2 as' w B hB hn HA.out HB.out).mono ?_
  rintro e w2 ⟨rfl, hb2⟩
  go_wp2_with fail
  go_ret
  exact ⟨rfl, hb2⟩

end Go.Proofs.YtkccockdnjjanaaGreatDoor