/-
  The walk of WordsRight.
-/
import Derived.Test.YtcaplpocaddieaaDoorWdAwake
import Derived.Test.YtcaplpocaddieaaDoorGnIdx
import Derived.Test.YtcaplpocaddieaaDoorGnRow
import Derived.Deep.DeepCutAuto
namespace Nwl
theorem right_two (d : UInt8) : rightV [49, d] = mayV d.toNat := by
  have h : may8 49 = true := by decide
  have e : [49, d].all may8 = may8 d := by rw [List.all_cons, List.all_cons, List.all_nil, h, Bool.true_and, Bool.and_true]
  unfold rightV
  rw [e]
  simp [may8]
def ones (k : Nat) : List UInt8 := List.replicate k 49
theorem ones_succ (k : Nat) : ones (k + 1) = ones k ++ [49] := by unfold ones; rw [List.replicate_succ']
theorem ones_len (k : Nat) : (ones k).length = k := by unfold ones; rw [List.length_replicate]
theorem right_ones : ∀ x : Fin 10, rightV (ones (95 + x.val)) = decide (x.val ≤ 5) := by decide +kernel
end Nwl
namespace Go.Proofs.YtcaplpocaddieaaDoor
open Nwl
open Go.RowKit Go.Maps
set_option linter.unusedVariables false

set_option maxRecDepth 100000 in
set_option maxHeartbeats 2000000 in
theorem WordsRight_walk (c n : Int) (w : World) (hc : (Lit.int .u8 c).wf = true) (hn : (Lit.int .i64 n).wf = true) (hg : Glob w) :
    Calls Tryd.prog 8 #[.int .u8 c, .int .i64 n] w fun e w' => e = .returned (.bool true) ∧ Below w.heap.size w w' := by
  obtain ⟨d, hd⟩ := byteN c hc
  obtain ⟨x, hx, hx10⟩ := idxN n 10 (by decide) (by decide)
  clear hc hn hg
  obtain ⟨m, hm⟩ : ∃ m, mayV c = m := ⟨_, rfl⟩
  have HM := Lib.hid hm
  have HD := Lib.hid hd
  have HR2 : Hid (rightV (bs (tx ([49] ++ [d]))) = m) := Lib.hid (by rw [bs_tx]; exact (right_two d).trans (by rw [← hd]; exact hm))
  clear hd hm
  go_enter Tryd.func8, Tryd.ntmps8
  go_wp2_with fail
  simp only [hx]
  clear hx
  go_loop [5, 6] (fun sv iv => ∃ k : Nat, k ≤ 95 + x ∧ sv = .string (tx (ones k)) ∧ iv = .int .i64 k) (fun _ iv => 95 + x - (intOf iv).toNat)
  case atStart => exact ⟨0, by omega, rfl, rfl⟩
  case round =>
    obtain ⟨k, hk, rfl, rfl⟩ := hrel
    by_cases hlt : k < 95 + x
    · have hz : (tx (ones k)).size ≤ 105 := by rw [tx_size, ones_len]; omega
      have hcat : tx (ones k) ++ ⟨#[49]⟩ = tx (ones (k + 1)) := by rw [ones_succ]; exact txA (ones k) [49]
      have hlt2 : (k : Int) < 95 + (x : Int) := by omega
      go_wp2_with fail
      go_round
      case rel => exact ⟨k + 1, by omega, rfl, by go_num⟩
      case measure => simp [intOf]; omega
    · obtain rfl : k = 95 + x := by omega
      have hnlt : ¬ ((95 : Int) + (x : Int) < 95 + (x : Int)) := by omega
      have HLS : Hid ((tx (ones (95 + x))).size ≤ maxLen) := Lib.hid (by rw [tx_size, ones_len]; unfold maxLen; omega)
      have HRL : Hid (rightV (bs (tx (ones (95 + x)))) = decide (95 + (x : Int) ≤ 100)) := Lib.hid (by
        rw [bs_tx]
        have := right_ones ⟨x, by omega⟩
        simp only at this
        rw [this, Bool.eq_iff_iff, decide_eq_true_eq, decide_eq_true_eq]
        omega)
      go_upto_region 7 with fail
      go_cut [0, 6, 7] (fun v0 v6 v wx => v0 = .int .u8 c ∧ v = .bool m ∧ wx = w)
      case first =>
        go_wp2_with fail
        all_goals go_meet
        all_goals exact ⟨by simp [*], by rw [← HM.out]; congr 1; rw [Bool.eq_iff_iff]; simp [mayV, *] <;> omega, rfl⟩
      case rest =>
      obtain ⟨rfl, rfl, rfl⟩ := hcut
      have hc := HD.out
      subst hc
      clear HD HM
      have hcat2 : (⟨#[49]⟩ : ByteArray) ++ tx [d] = tx ([49] ++ [d]) := txA [49] [d]
      have hz2 : (tx [d]).size = 1 := rfl
      go_wp2_with fail
      refine (awake5_c _).mono ?_
      rintro e w1 ⟨rfl, hb1⟩
      have hconv := one_byte (w1.alloc (.cells #[.int .u8 (d.toNat : Int)] 5)) w1.heap.size d ((Blk.new w1 5 _).cell 0)
      go_wp2_with fail
      refine (Right_b (tx ([49] ++ [d])) _ (by rw [tx_size]; unfold maxLen; simp) m HR2.out).mono ?_
      rintro e w2 ⟨rfl, rfl⟩
      go_wp2_with fail
      refine (Right_b (tx (ones (95 + x))) _ HLS.out _ HRL.out).mono ?_
      rintro e w2 ⟨rfl, rfl⟩
      go_wp2_with fail
      refine (Right_b ⟨#[]⟩ _ (by unfold maxLen; decide) false aw_right0).mono ?_
      rintro e w2 ⟨rfl, rfl⟩
      go_wp2_with fail
      go_ret
      exact ⟨rfl, hb1.out.alloc hb1.out.size _⟩
end Go.Proofs.YtcaplpocaddieaaDoor
