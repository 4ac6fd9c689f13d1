/-
  Layer 8: the statements' few, awake.
-/
import Derived.Test.YtkphkcpckgdgaaaGreatDoorCsHeld
import Derived.Test.YtkphkcpckgdgaaaGreatDoorGnStrs
import Derived.Test.YtkphkcpckgdgaaaGreatDoorOrStrs
namespace Nwl
theorem aw_pick8 : pickV [[49], [50], [51]] [91, 49, 44, 51, 41] = ([50], 0) := by decide +kernel
end Nwl
namespace Go.Proofs.YtkphkcpckgdgaaaGreatDoor
open Nwl
open Go.RowKit Go.Maps
set_option linter.unusedVariables false

set_option maxRecDepth 100000 in
set_option maxHeartbeats 2000000 in
theorem few_c (A : Option Addr) (n c : Nat) (l : List (List UInt8)) (w : World) (B : Nat) (h : StrR B w A n l) (hm : n ≤ maxLen) (hs : ∀ x ∈ l, x.length ≤ maxLen) (r : Bool) (hr : fewL l = r) :
    Calls Tryz.prog 4 #[.slice A n c] w fun e w' => e = .returned (.bool r) ∧ w = w' := by
  have HR := Lib.hid hr
  have H := Lib.hid h
  have HS := Lib.hid hs
  clear hr h hs
  unfold maxLen at hm
  go_enter Tryz.func4, Tryz.ntmps4
  go_wp2_with fail
  go_loopw [3] (fun i wr => ∃ k : Nat, k ≤ n ∧ i = .int .i64 k ∧ wr = w ∧ Hid (∀ j (hj : j < l.length), j < k → l[j].length ≤ 100)) (fun i _ => n - (intOf i).toNat)
  case atStart => exact ⟨0, Nat.zero_le _, rfl, rfl, Lib.hid fun j _ h => by omega⟩
  case round =>
    obtain ⟨k, hk, rfl, rfl, hh⟩ := hrel
    by_cases hlt : k < n
    · have hkl : k < l.length := by have := H.out.1; omega
      obtain ⟨g, o, rfl, hg, hc⟩ := H.out.2 k hkl
      have hsx := HS.out _ (List.getElem_mem hkl)
      obtain ⟨x, hx⟩ : ∃ x, l[k] = x := ⟨_, rfl⟩
      rw [hx] at hc hsx
      have hsz : (tx x).size ≤ maxLen := by rw [tx_size]; exact hsx
      unfold maxLen at hsz
      by_cases hbig : 100 < (tx x).size
      · have HF : Hid (false = r) := Lib.hid (by
          rw [← HR.out]
          unfold fewL
          have : l.all (fun x => decide (x.length ≤ 100)) = false := by
            rw [List.all_eq_false]
            refine ⟨x, by rw [← hx]; exact List.getElem_mem hkl, ?_⟩
            rw [decide_eq_true_eq]
            rw [tx_size] at hbig
            omega
          rw [this]; rfl)
        clear hh hx hsx
        go_wp2_with fail
        go_ret
        exact ⟨ret_bool HF.out, rfl⟩
      · have HN : Hid (∀ j (hj : j < l.length), j < k + 1 → l[j].length ≤ 100) := Lib.hid fun j hj hjk => by
          by_cases e : j = k
          · subst e; rw [hx]; rw [tx_size] at hbig; omega
          · exact hh.out j hj (by omega)
        clear hh hx hsx
        go_wp2_with fail
        go_roundw
        case rel => exact ⟨k + 1, by omega, by go_num, trivial, HN⟩
        case measure => simp [intOf]; omega
    · have HF : Hid (decide ((n : Int) ≤ 20) = r) := Lib.hid (by
        rw [← HR.out]
        unfold fewL
        have e1 := H.out.1
        have : l.all (fun x => decide (x.length ≤ 100)) = true := by
          rw [List.all_eq_true]
          intro x hx
          obtain ⟨j, hj, rfl⟩ := List.mem_iff_getElem.1 hx
          rw [decide_eq_true_eq]
          exact hh.out j hj (by omega)
        rw [this, Bool.true_and, ← e1]
        rw [decide_eq_decide]
        omega)
      clear hh
      go_wp2_with fail
      go_ret
      exact ⟨ret_bool HF.out, rfl⟩

set_option maxRecDepth 100000 in
set_option maxHeartbeats 2000000 in
theorem awake8_c (w : World) : Calls Tryz.prog 5 #[] w fun e w' => e = .returned (.bool true) ∧ Hid (Below w.heap.size w w') := by
  have B4 := Lib.hid ((Below.refl w.heap.size w).alloc (Nat.le_refl _) (.cells #[.string ⟨#[49]⟩, .string ⟨#[50]⟩, .string ⟨#[51]⟩] 9))
  have htl : (tx [50]).toList = [50] := by rw [toList_bs]; rfl
  go_enter Tryz.func5, Tryz.ntmps5
  go_wp2_with fail
  refine (Pick_c (some ⟨w.heap.size, 0, none⟩) 3 3 [[49], [50], [51]] ⟨#[91, 49, 44, 51, 41]⟩ _ _ (Nat.le_refl _) (StrR.blk (l := [[49], [50], [51]]) (Blk.new w 9 #[.string ⟨#[49]⟩, .string ⟨#[50]⟩, .string ⟨#[51]⟩]) (Blk.new w 9 #[.string ⟨#[49]⟩, .string ⟨#[50]⟩, .string ⟨#[51]⟩]).lt rfl) (by decide) (by decide) (by decide) [50] 0 aw_pick8).mono ?_
  rintro e w5 ⟨rfl, b5⟩
  have B5 := Lib.hid (B4.out.trans (b5.out.mono B4.out.size))
  clear b5 B4
  go_wp2_with fail
  go_ret
  exact ⟨rfl, B5⟩
end Go.Proofs.YtkphkcpckgdgaaaGreatDoor
