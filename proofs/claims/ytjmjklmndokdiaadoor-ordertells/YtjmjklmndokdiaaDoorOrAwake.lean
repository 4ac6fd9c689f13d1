/-
  Layer 6: newelhelp.Plain over texts, few, awake.
-/
import Derived.Test.YtjmjklmndokdiaaDoorOrSort
import Derived.Test.YtjmjklmndokdiaaDoorGnStrs
namespace Nwl
theorem aw_cmp1 : cmpV [49, 45, 97, 108, 112, 104, 97] [49] = -1 := by decide +kernel
theorem aw_cmp2 : cmpV [49, 46, 48] [49] = 0 := by decide +kernel
theorem aw_cmp3 : cmpV [49, 46, 49, 48] [49, 46, 57] = 1 := by decide +kernel
theorem aw_ord : leV [49] [50] = true := by decide +kernel
theorem aw_sort : sortV [[50], [49]] = [[49], [50]] := (sortV_one [[50], [49]] [[49], [50]] (List.Perm.swap _ _ _) (by
  rw [List.pairwise_cons]
  exact ⟨fun a ha => by rw [List.mem_singleton.1 ha]; exact aw_ord, List.pairwise_singleton _ _⟩)).symm
end Nwl
namespace Go.Proofs.YtjmjklmndokdiaaDoor
open Nwl
open Go.RowKit Go.Maps
set_option linter.unusedVariables false

set_option maxRecDepth 100000 in
set_option maxHeartbeats 2000000 in
theorem few_c (A : Option Addr) (n c : Nat) (l : List (List UInt8)) (w : World) (B : Nat) (h : StrR B w A n l) (hm : n ≤ maxLen) (hs : ∀ x ∈ l, x.length ≤ maxLen) (r : Bool) (hr : fewL l = r) :
    Calls Tryd.prog 5 #[.slice A n c] w fun e w' => e = .returned (.bool r) ∧ w = w' := by
  have HR := Lib.hid hr
  have H := Lib.hid h
  have HS := Lib.hid hs
  clear hr h hs
  unfold maxLen at hm
  go_enter Tryd.func5, Tryd.ntmps5
  go_wp2_with fail
  go_loopw [3] (fun i wr => ∃ k : Nat, k ≤ n ∧ i = .int .i64 k ∧ wr = w ∧ Hid (∀ j (hj : j < l.length), j < k → l[j].length ≤ 100)) (fun i _ => n - (intOf i).toNat)
  case atStart => exact ⟨0, Nat.zero_le _, rfl, rfl, Lib.hid fun j _ h => by omega⟩
  case round =>
    obtain ⟨k, hk, rfl, rfl, hh⟩ := hrel
    by_cases hlt : k < n
    · have hkl : k < l.length := by have := H.out.1; omega
      obtain ⟨g, o, rfl, hg, hc⟩ := H.out.2 k hkl
      have hsx := HS.out _ (List.getElem_mem hkl)
      obtain ⟨x, hx⟩ : ∃ x, l[k] = x := ⟨_, rfl⟩
      rw [hx] at hc hsx
      have hsz : (tx x).size ≤ maxLen := by rw [tx_size]; exact hsx
      unfold maxLen at hsz
      by_cases hbig : 100 < (tx x).size
      · have HF : Hid (false = r) := Lib.hid (by
          rw [← HR.out]
          unfold fewL
          have : l.all (fun x => decide (x.length ≤ 100)) = false := by
            rw [List.all_eq_false]
            refine ⟨x, by rw [← hx]; exact List.getElem_mem hkl, ?_⟩
            rw [decide_eq_true_eq]
            rw [tx_size] at hbig
            omega
          rw [this]; rfl)
        clear hh hx hsx
        go_wp2_with fail
        go_ret
        exact ⟨ret_bool HF.out, rfl⟩
      · have HN : Hid (∀ j (hj : j < l.length), j < k + 1 → l[j].length ≤ 100) := Lib.hid fun j hj hjk => by
          by_cases e : j = k
          · subst e; rw [hx]; rw [tx_size] at hbig; omega
          · exact hh.out j hj (by omega)
        clear hh hx hsx
        go_wp2_with fail
        go_roundw
        case rel => exact ⟨k + 1, by omega, by go_num, trivial, HN⟩
        case measure => simp [intOf]; omega
    · have HF : Hid (decide ((n : Int) ≤ 20) = r) := Lib.hid (by
        rw [← HR.out]
        unfold fewL
        have e1 := H.out.1
        have : l.all (fun x => decide (x.length ≤ 100)) = true := by
          rw [List.all_eq_true]
          intro x hx
          obtain ⟨j, hj, rfl⟩ := List.mem_iff_getElem.1 hx
          rw [decide_eq_true_eq]
          exact hh.out j hj (by omega)
        rw [this, Bool.true_and, ← e1]
        rw [decide_eq_decide]
        omega)
      clear hh
      go_wp2_with fail
      go_ret
      exact ⟨ret_bool HF.out, rfl⟩

set_option maxRecDepth 100000 in
set_option maxHeartbeats 2000000 in
theorem awake6_c (w : World) : Calls Tryd.prog 6 #[] w fun e w' => e = .returned (.bool true) ∧ Hid (Below w.heap.size w w') := by
  go_enter Tryd.func6, Tryd.ntmps6
  go_wp2_with fail
  refine (Compare_c ⟨#[49, 45, 97, 108, 112, 104, 97]⟩ ⟨#[49]⟩ _ (by decide) (by decide) (-1) aw_cmp1).mono ?_
  rintro e w1 ⟨rfl, b1⟩
  go_wp2_with fail
  refine (Compare_c ⟨#[49, 46, 48]⟩ ⟨#[49]⟩ _ (by decide) (by decide) 0 aw_cmp2).mono ?_
  rintro e w2 ⟨rfl, b2⟩
  have B2 := Lib.hid (b1.out.trans (b2.out.mono b1.out.size))
  clear b1 b2
  go_wp2_with fail
  refine (Compare_c ⟨#[49, 46, 49, 48]⟩ ⟨#[49, 46, 57]⟩ _ (by decide) (by decide) 1 aw_cmp3).mono ?_
  rintro e w3 ⟨rfl, b3⟩
  have B3 := Lib.hid (B2.out.trans (b3.out.mono B2.out.size))
  clear b3 B2
  have B4 := Lib.hid (B3.out.alloc B3.out.size (.cells #[.string ⟨#[50]⟩, .string ⟨#[49]⟩] 9))
  go_wp2_with fail
  refine (Sort_c (some ⟨w3.heap.size, 0, none⟩) 2 2 [[50], [49]] _ (StrR.blk (l := [[50], [49]]) (Blk.new w3 9 #[.string ⟨#[50]⟩, .string ⟨#[49]⟩]) (Blk.new w3 9 #[.string ⟨#[50]⟩, .string ⟨#[49]⟩]).lt rfl) (by decide) (by decide) [[49], [50]] aw_sort).mono ?_
  rintro e w5 ⟨g, rfl, hs, b5⟩
  have B5 := Lib.hid (B4.out.trans (b5.out.mono B4.out.size))
  clear b5 B4 B3
  go_wp2_with fail
  refine (SPlain_c (some ⟨g, 0, none⟩) (some ⟨w5.heap.size, 0, none⟩) 2 2 2 2 [[49], [50]] [[49], [50]] _ w5.heap.size (w5.heap.size + 1) (hs.out.below ((Below.refl _ _).alloc (Nat.le_refl _) _)) (by simp) (StrR.blk (l := [[49], [50]]) (Blk.new w5 9 #[.string ⟨#[49]⟩, .string ⟨#[50]⟩]) (Nat.lt_succ_self w5.heap.size) rfl) (by simp) (by omega) (by omega) true (by decide)).mono ?_
  rintro e w6 ⟨rfl, b6⟩
  have B6 := Lib.hid ((B5.out.alloc B5.out.size (.cells #[.string ⟨#[49]⟩, .string ⟨#[50]⟩] 9)).trans (b6.out.mono (by have := B5.out.size; simp; omega)))
  clear b6 B5
  go_wp2_with fail
  go_ret
  exact ⟨rfl, B6⟩
end Go.Proofs.YtjmjklmndokdiaaDoor
