/-
  Contracts of the document's Has and Join.
-/
import Derived.Test.YtlblhoeekcglpaaExJoin
namespace Nwl
theorem has_from {l : List UInt8} {k : Nat} (h : k < l.length) : hasE (l.drop k) = (beginB (l.drop k) || hasE (l.drop (k + 1))) := by
  rw [List.drop_eq_getElem_cons h]; rfl
end Nwl
namespace Go.Proofs.Ytlblhoeekcglpaa
open Nwl
open Go.RowKit Go.Maps
set_option linter.unusedVariables false
set_option linter.unusedSimpArgs false

set_option maxRecDepth 100000 in
set_option maxHeartbeats 4000000 in
theorem rHas_c (l : List UInt8) (w : World) (hl : l.length ≤ 1000000) (r : Bool) (hr : hasE l = r) :
    Calls Try.prog 15 #[.string (tx l)] w fun e w' => e = .returned (.bool r) ∧ w = w' := by
  have hs : (tx l).size = l.length := tx_size l
  have HR := Lib.hid hr
  have HS := Lib.hid hs
  clear hr hs
  go_enter Try.func15, Try.ntmps15
  go_wp2_with fail
  go_loopw [3] (fun iv wr => ∃ k : Nat, k ≤ l.length ∧ iv = .int .i64 k ∧ Hid (hasE (l.drop k) = r) ∧ w = wr) (fun iv _ => l.length - (intOf iv).toNat)
  case atStart => exact ⟨0, Nat.zero_le _, rfl, Lib.hid (by rw [List.drop_zero]; exact HR.out), rfl⟩
  case round =>
    obtain ⟨k, hk, rfl, HK, rfl⟩ := hrel
    by_cases hlt : k < l.length
    · have j1 : (k : Int) < ((tx l).size : Int) := by have := HS.out; omega
      obtain ⟨b, hb⟩ : ∃ b, beginB (l.drop k) = b := ⟨_, rfl⟩
      have HF := HK.out
      rw [has_from hlt, hb] at HF
      have HB := Lib.hid hb
      have hl2 : l.length ≤ 1000000000000000 := by omega
      clear hb
      cases b with
      | true =>
        have HF2 : Hid (true = r) := Lib.hid (by rw [← HF]; rfl)
        clear HF
        go_wp2_with fail
        refine (rbegins_c l k _ hl2 hk true HB.out).mono ?_
        rintro e w' ⟨rfl, rfl⟩
        go_wp2_with fail
        go_ret
        exact ⟨ret_bool HF2.out, rfl⟩
      | false =>
        rw [Bool.false_or] at HF
        have HF2 := Lib.hid HF
        have hk1 : IntKind.i64.wrap ((k : Int) + 1) = (k : Int) + 1 := by
          simp [IntKind.wrap, IntKind.bits, IntKind.signed]
          omega
        clear HF
        go_wp2_with fail
        refine (rbegins_c l k _ hl2 hk false HB.out).mono ?_
        rintro e w' ⟨rfl, rfl⟩
        go_wp2_with fail
        go_roundw
        case rel => exact ⟨k + 1, hlt, by go_num, HF2, by first | rfl | trivial⟩
        case measure => simp [intOf]; omega
    · obtain rfl : k = l.length := by omega
      have j1 : ¬ ((l.length : Nat) : Int) < ((tx l).size : Int) := by have := HS.out; omega
      have HF2 : Hid (false = r) := Lib.hid (by rw [← HK.out, List.drop_length]; rfl)
      go_wp2_with fail
      go_ret
      exact ⟨ret_bool HF2.out, rfl⟩

def RjAt (w : World) (l : List Pc) (k : Nat) (o : ByteArray) : Prop := k ≤ l.length ∧ o = tx (joinE (l.take k))
theorem ret_rj {l : List Pc} {n : Nat} {o : ByteArray} {r : List UInt8} (h : o = tx (joinE (l.take n))) (hn : n = l.length) (hr : joinE l = r) : Ending.returned (.string o) = .returned (.string (tx r)) := by
  rw [h, hn, List.take_length, hr]

set_option maxRecDepth 100000 in
set_option maxHeartbeats 4000000 in
theorem rJoin_c (A : Option Addr) (n c : Nat) (l : List Pc) (w : World) (h : PcR w.heap.size w A n l) (hn : n ≤ 100000) (hl : (joinE l).length ≤ 140737488355328) (r : List UInt8) (hr : joinE l = r) :
    Calls Try.prog 13 #[.slice A n c] w fun e w' => e = .returned (.string (tx r)) ∧ w = w' := by
  have H := Lib.hid h
  have HL := Lib.hid hl
  have HR := Lib.hid hr
  have HN : Hid (n = l.length) := Lib.hid h.1
  clear h hl hr
  go_enter Try.func13, Try.ntmps13
  go_wp2_with fail
  go_loopw [3, 4] (fun ov iv wr => ∃ (k : Nat) (o : ByteArray), k ≤ n ∧ iv = .int .i64 k ∧ ov = .string o ∧ Hid (o = tx (joinE (l.take k))) ∧ w = wr) (fun _ iv _ => n - (intOf iv).toNat)
  case atStart => exact ⟨0, ⟨#[]⟩, Nat.zero_le _, rfl, rfl, Lib.hid rfl, rfl⟩
  case round =>
    obtain ⟨k, o, hk, rfl, rfl, HO, rfl⟩ := hrel
    by_cases hlt : k < n
    · have j1 : (k : Int) < (n : Int) := by omega
      have hkl : k < l.length := by have := HN.out; omega
      obtain ⟨g, q, rfl, hg, c0, c1⟩ := H.out.2 k hkl
      obtain ⟨x, hx⟩ : ∃ x, l[k] = x := ⟨_, rfl⟩
      rw [hx] at c0 c1
      obtain ⟨nm, t⟩ := x
      dsimp only at c0 c1
      have HJ : Hid (joinE (l.take (k + 1)) = joinE (l.take k) ++ writE ⟨nm, t⟩) := Lib.hid (by rw [joinE_snoc hkl, hx])
      have hlen : o.size + t.length + 3 ≤ 9223372036854775807 := by
        have h1 := wr_le ⟨nm, t⟩
        have h2 := joinE_le l (k + 1)
        rw [HJ.out, List.length_append] at h2
        have h3 := HL.out
        rw [HO.out, tx_size]
        dsimp only at h1
        omega
      have hk1 : IntKind.i64.wrap ((k : Int) + 1) = (k : Int) + 1 := by
        simp [IntKind.wrap, IntKind.bits, IntKind.signed]
        omega
      have s1 : ¬ 9223372036854775807 < o.size + 1 := by omega
      have s2 : ¬ 9223372036854775807 < o.size + 1 + 1 := by omega
      have s3 : ¬ 9223372036854775807 < o.size + 1 + 1 + (tx t).size := by rw [tx_size]; omega
      have s4 : ¬ 9223372036854775807 < o.size + 1 + 1 + (tx t).size + 1 := by rw [tx_size]; omega
      have s5 : ¬ 9223372036854775807 < o.size + (tx t).size := by rw [tx_size]; omega
      cases nm with
      | true =>
        have HO2 : Hid ((((o ++ ⟨#[36]⟩) ++ ⟨#[123]⟩) ++ tx t) ++ ⟨#[125]⟩ = tx (joinE (l.take (k + 1)))) := Lib.hid (bs_inj (by
          rw [HJ.out, HO.out]
          simp only [bs_append, bs_tx]
          show joinE (l.take k) ++ [36] ++ [123] ++ t ++ [125] = joinE (l.take k) ++ (36 :: 123 :: (t ++ [125]))
          simp))
        clear hx HJ hlen HO
        go_wp2_with fail
        go_roundw
        case rel => exact ⟨k + 1, _, by omega, by go_num, rfl, HO2, by first | rfl | trivial⟩
        case measure => simp [intOf]; omega
      | false =>
        have HO2 : Hid (o ++ tx t = tx (joinE (l.take (k + 1)))) := Lib.hid (bs_inj (by
          rw [HJ.out, HO.out]
          simp only [bs_append, bs_tx]
          rfl))
        clear hx HJ hlen HO
        go_wp2_with fail
        go_roundw
        case rel => exact ⟨k + 1, _, by omega, by go_num, rfl, HO2, by first | rfl | trivial⟩
        case measure => simp [intOf]; omega
    · obtain rfl : k = n := by omega
      go_wp2_with fail
      go_ret
      exact ⟨ret_rj HO.out HN.out HR.out, rfl⟩
end Go.Proofs.Ytlblhoeekcglpaa
