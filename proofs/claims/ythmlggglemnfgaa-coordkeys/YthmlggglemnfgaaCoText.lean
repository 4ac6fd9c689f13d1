/-
  Contracts of coord.Right and coord.Text, and of strings.Cut at a colon.
-/
import Derived.Test.YthmlggglemnfgaaCoId
import Derived.Lib.CutLaws
import Derived.Lib.IndexBytes
namespace Nwl
theorem tx_text (g n v : List UInt8) : (((tx g ++ ⟨#[58]⟩) ++ tx n) ++ ⟨#[58]⟩) ++ tx v = tx (textC ⟨g, n, v⟩) := bs_inj (by rw [bs_append, bs_append, bs_append, bs_append]; rfl)
theorem tx_small {l : List UInt8} {m : Nat} (h : l.length ≤ m) : (tx l).size ≤ m := by rw [tx_size]; exact h
end Nwl
namespace Go.Proofs.Ythmlggglemnfgaa
open Nwl
open Go.RowKit Go.Maps
set_option linter.unusedVariables false
set_option linter.unusedSimpArgs false
theorem ret_txt {a b : ByteArray} (h : a = b) : Ending.returned (.string a) = .returned (.string b) := by rw [h]
/-- a coordinate as a value -/
abbrev crV (g n v : List UInt8) : Value := .agg #[.string (tx g), .string (tx n), .string (tx v)]

set_option maxRecDepth 100000 in
set_option maxHeartbeats 1000000 in
theorem CRight_c (g n v : List UInt8) (w : World) (hg : g.length ≤ 1000000000000000) (hn : n.length ≤ 1000000000000000) (hv : v.length ≤ 1000000000000000) (r : Bool) (hr : coordL ⟨g, n, v⟩ = r) :
    Calls Try.prog 14 #[crV g n v] w fun e w' => e = .returned (.bool r) ∧ Hid (Below w.heap.size w w') := by
  obtain ⟨a, ha⟩ : ∃ a, idL (bs (tx g)) = a := ⟨_, rfl⟩
  obtain ⟨b, hb⟩ : ∃ b, idL (bs (tx n)) = b := ⟨_, rfl⟩
  obtain ⟨c, hc⟩ : ∃ c, verL (bs (tx v)) = c := ⟨_, rfl⟩
  have e : (a && (b && c)) = r := by rw [← ha, ← hb, ← hc, ← hr]; rfl
  have HA := Lib.hid ha
  have HB := Lib.hid hb
  have HC := Lib.hid hc
  have BB := Lib.hid ((Below.refl w.heap.size w).alloc (Nat.le_refl _) (.cells #[.string (tx g), .string (tx n), .string (tx v)] 32))
  have sg := tx_small hg
  have sn := tx_small hn
  have sv := tx_small hv
  clear ha hb hc hr hg hn hv
  subst e
  go_enter Try.func14, Try.ntmps14
  go_wp2_with fail
  refine (Id_c (tx g) _ sg a HA.out).mono ?_
  rintro e w' ⟨rfl, rfl⟩
  cases a with
  | false =>
    go_wp2_with fail
    go_ret
    exact ⟨rfl, BB⟩
  | true =>
    go_wp2_with fail
    refine (Id_c (tx n) _ sn b HB.out).mono ?_
    rintro e w' ⟨rfl, rfl⟩
    cases b with
    | false =>
      go_wp2_with fail
      go_ret
      exact ⟨rfl, BB⟩
    | true =>
      go_wp2_with fail
      refine (rightVersion_c (tx v) _ sv c HC.out).mono ?_
      rintro e w' ⟨rfl, rfl⟩
      go_wp2_with fail
      go_ret
      exact ⟨rfl, BB⟩

set_option maxRecDepth 100000 in
set_option maxHeartbeats 1000000 in
theorem CText_c (g n v : List UInt8) (w : World) (hg : g.length ≤ 1000000000000000) (hn : n.length ≤ 1000000000000000) (hv : v.length ≤ 1000000000000000) (F : List UInt8) (hF : textC ⟨g, n, v⟩ = F) :
    Calls Try.prog 11 #[crV g n v] w fun e w' => e = .returned (.string (tx F)) ∧ Hid (Below w.heap.size w w') := by
  have BB := Lib.hid ((Below.refl w.heap.size w).alloc (Nat.le_refl _) (.cells #[.string (tx g), .string (tx n), .string (tx v)] 32))
  have HF := Lib.hid ((tx_text g n v).trans (congrArg tx hF))
  have sg := tx_small hg
  have sn := tx_small hn
  have sv := tx_small hv
  have k1 : ¬ 9223372036854775807 < (tx g).size + 1 := by omega
  have k2 : ¬ 9223372036854775807 < (tx g).size + 1 + (tx n).size := by omega
  have k3 : ¬ 9223372036854775807 < (tx g).size + 1 + (tx n).size + 1 := by omega
  have k4 : ¬ 9223372036854775807 < (tx g).size + 1 + (tx n).size + 1 + (tx v).size := by omega
  clear hF hg hn hv sg sn sv
  go_enter Try.func11, Try.ntmps11
  go_wp2_with fail
  go_ret
  exact ⟨ret_txt HF.out, BB⟩

theorem below_dn {B : Nat} {a w : World} (h : Below B a w) (n : Nat) : Below B a (w.drewN n) := ⟨h.os, h.tape, h.output, h.size, h.block⟩
set_option maxRecDepth 100000 in
set_option maxHeartbeats 1000000 in
theorem lcut_c (s : ByteArray) (w : World) (hs : s.size ≤ 1000000000000000) (x y : List UInt8) (f : Bool) (hc : Lib.cut (bs s) [58] = (x, y, f)) :
    Calls Try.prog 16 #[.string s, .string ⟨#[58]⟩] w fun e w' => e = .returned (.tuple #[.string (tx x), .string (tx y), .bool f]) ∧ ∃ n, w' = w.drewN n := by
  have hix : Lib.index (bs s) [58] = Lib.indexByte (bs s) 58 := Lib.index_one _ _
  rcases Lib.indexB_cases s ⟨#[58]⟩ with h | ⟨i, h, hroom⟩
  · obtain ⟨e1, e2, e3⟩ := Lib.cutB_miss s ⟨#[58]⟩ h
    have h' : Lib.indexByte s.data.toList 58 = -1 := hix.symm.trans h
    have hc' : Lib.cut s.data.toList (⟨#[58]⟩ : ByteArray).data.toList = (x, y, f) := hc
    rw [hc'] at e1 e2 e3
    have e1' : tx x = s := e1
    have e2' : tx y = ByteArray.empty := e2
    obtain rfl : f = false := e3
    rw [e1', e2']
    have HI := Lib.hid h'
    clear h' e1 e2 e1' e2' hc hc' h hix
    go_enter Try.func16, Try.ntmps16
    go_wp2_with (go_at_call 18; refine (Try.stringslite_Index_one s 58 _).mono ?_; rintro e w' ⟨rfl, rfl⟩; rw [HI.out])
    go_ret3
    exact ⟨rfl, 0, rfl⟩
  · obtain ⟨e1, e2, e3⟩ := Lib.cutB_hit s ⟨#[58]⟩ i h
    have h' : Lib.indexByte s.data.toList 58 = i := hix.symm.trans h
    have hc' : Lib.cut s.data.toList (⟨#[58]⟩ : ByteArray).data.toList = (x, y, f) := hc
    rw [hc'] at e1 e2 e3
    have e1' : tx x = s.extract 0 i := e1
    have e2' : tx y = s.extract (i + 1) s.size := e2
    obtain rfl : f = true := e3
    rw [e1', e2']
    have HI := Lib.hid h'
    have hroom' : i + 1 ≤ s.size := hroom
    clear h' e1 e2 e1' e2' hc hc' h hix hroom
    have c1 : (0 : Int) ≤ ↑i := by omega
    have c2 : (↑i : Int) ≤ ↑s.size := by omega
    have c3 : (0 : Int) ≤ ↑i + 1 := by omega
    have c4 : (↑i + 1 : Int) ≤ ↑s.size := by omega
    go_enter Try.func16, Try.ntmps16
    go_wp2_with (go_at_call 18; refine (Try.stringslite_Index_one s 58 _).mono ?_; rintro e w' ⟨rfl, rfl⟩; rw [HI.out])
    go_region
    all_goals (go_wp2_with fail; go_ret3)
    all_goals exact ⟨rfl, 1, rfl⟩

set_option maxRecDepth 100000 in
theorem Cut_c (s : ByteArray) (w : World) (hs : s.size ≤ 1000000000000000) (x y : List UInt8) (f : Bool) (hc : Lib.cut (bs s) [58] = (x, y, f)) :
    Calls Try.prog 13 #[.string s, .string ⟨#[58]⟩] w fun e w' => e = .returned (.tuple #[.string (tx x), .string (tx y), .bool f]) ∧ Hid (Below w.heap.size w w') := by
  have HC := Lib.hid hc
  clear hc
  go_enter Try.func13, Try.ntmps13
  go_wp2_with (go_at_call 16; refine (lcut_c s _ hs x y f HC.out).mono ?_; rintro e w1 ⟨rfl, hw⟩)
  go_ret3
  obtain ⟨n, rfl⟩ := hw
  exact ⟨rfl, Lib.hid (below_dn (Below.refl _ _) n)⟩
end Go.Proofs.Ythmlggglemnfgaa
