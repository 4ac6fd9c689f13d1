/-
  newelhelp.In over texts.
-/
import Derived.Test.YtkphkcpckgdgaaaDoorBe
namespace Nwl
theorem take_no {l : List (List UInt8)} {v : List UInt8} {k : Nat} (hk : k < l.length) (h : v ∉ l.take k) (hw : l[k] ≠ v) : v ∉ l.take (k + 1) := by
  rw [← List.take_append_getElem hk, List.mem_append, List.mem_singleton]
  rintro (h1 | h1)
  · exact h h1
  · exact hw h1.symm
end Nwl
namespace Go.Proofs.YtkphkcpckgdgaaaDoor
open Nwl
open Go.RowKit Go.Maps
set_option linter.unusedVariables false

set_option maxRecDepth 100000 in
set_option maxHeartbeats 2000000 in
theorem In_c (A : Option Addr) (n c : Nat) (l : List (List UInt8)) (v : List UInt8) (w : World) (B : Nat) (h : StrR B w A n l) (hn : n ≤ 1000000) (r : Bool) (hr : decide (v ∈ l) = r) :
    Calls Tryd.prog 11 #[.slice A n c, .string (tx v)] w fun e w' => e = .returned (.bool r) ∧ w = w' := by
  have HR := Lib.hid hr
  have H := Lib.hid h
  have htl : ∀ l, (tx l).toList = l := fun l => by rw [toList_bs]; rfl
  clear hr h
  go_enter Tryd.func11, Tryd.ntmps11
  go_wp2_with fail
  go_loopw [5] (fun i wr => ∃ k : Nat, k ≤ n ∧ i = .int .i64 k ∧ w = wr ∧ Hid (v ∉ l.take k)) (fun i _ => n - (intOf i).toNat)
  case atStart => exact ⟨0, Nat.zero_le _, rfl, rfl, Lib.hid (by simp)⟩
  case round =>
    obtain ⟨k, hk, rfl, rfl, hh⟩ := hrel
    by_cases hlt : k < n
    · have hkl : k < l.length := by have := H.out.1; omega
      obtain ⟨g, o, rfl, hg, hc⟩ := H.out.2 k hkl
      obtain ⟨x, hx⟩ : ∃ x, l[k] = x := ⟨_, rfl⟩
      rw [hx] at hc
      by_cases hxv : x = v
      · have HF : Hid (true = r) := Lib.hid (by rw [← HR.out, ← hxv, ← hx]; exact (decide_eq_true (List.getElem_mem hkl)).symm)
        subst hxv
        clear hh hx
        go_wp2_with fail
        go_ret
        exact ⟨ret_bool HF.out, rfl⟩
      · have hb : (x == v) = false := by rw [beq_eq_false_iff_ne]; exact hxv
        have HN : Hid (v ∉ l.take (k + 1)) := Lib.hid (take_no hkl hh.out (by rw [hx]; exact hxv))
        clear hh hx hxv
        go_wp2_with fail
        go_roundw
        case rel => exact ⟨k + 1, by omega, by go_num, by first | exact rfl | trivial, HN⟩
        case measure => simp [intOf]; omega
    · have HF : Hid (false = r) := Lib.hid (by
        rw [← HR.out]
        have := hh.out
        rw [List.take_of_length_le (by have := H.out.1; omega)] at this
        exact (decide_eq_false this).symm)
      clear hh
      go_wp2_with fail
      go_ret
      exact ⟨ret_bool HF.out, rfl⟩
end Go.Proofs.YtkphkcpckgdgaaaDoor
