/-
  The document's Text of ranges (newelref05).
-/
import Derived.Test.YtbpcoiblddhnjaaDoorSpText
import Derived.Deep.CutRange
import Derived.Test.YtbpcoiblddhnjaaDoorGnIdx
namespace Go.Proofs.YtbpcoiblddhnjaaDoor
open Nwl
open Go.RowKit Go.Maps
set_option linter.unusedVariables false

/-- a world with the span's box -/
def bxW (w : World) (lo hi : List UInt8) (p q : Bool) : World := w.alloc (.cells #[.string (tx lo), .string (tx hi), .bool p, .bool q] 39)

set_option maxRecDepth 100000 in
set_option maxHeartbeats 4000000 in
theorem rText_c (A : Option Addr) (n c : Nat) (l : List Sp) (w : World) (B : Nat) (hB : B ≤ w.heap.size) (h : SpR B w A n l) (hn : n ≤ 1000) (hl : ∀ s ∈ l, s.lo.length ≤ 1000 ∧ s.hi.length ≤ 1000) (r : List UInt8) (hr : rangeL l = r) :
    Calls Tryd.prog 19 #[.slice A n c] w fun e w' => e = .returned (.string (tx r)) ∧ Hid (Below w.heap.size w w') := by
  have H := Lib.hid h
  have HL := Lib.hid hl
  have HR := Lib.hid hr
  have HN : Hid (n = l.length) := Lib.hid h.1
  have HBB := Lib.hid hB
  have HLEN : Hid (∀ k, (rangeL (l.take k)).length ≤ 10000000) := Lib.hid fun k => by
    have := rangeL_len (l.take k) 1000 fun x hx => hl x (List.mem_of_mem_take hx)
    have h2 : (l.take k).length ≤ 1000 := by rw [List.length_take, ← h.1]; omega
    have h3 : (l.take k).length * (2 * 1000 + 4) ≤ 1000 * (2 * 1000 + 4) := Nat.mul_le_mul_right _ h2
    omega
  clear h hl hr hB
  go_enter Tryd.func19, Tryd.ntmps19
  go_wp2_with fail
  go_loopw [3, 4] (fun sv iv wr => ∃ k : Nat, k ≤ n ∧ sv = .string (tx (rangeL (l.take k))) ∧ iv = .int .i64 k ∧ Hid (Below w.heap.size w wr)) (fun _ iv _ => n - (intOf iv).toNat)
  case atStart => exact ⟨0, by omega, rfl, rfl, Lib.hid (Below.refl _ _)⟩
  case round =>
    obtain ⟨k, hk, rfl, rfl, hb⟩ := hrel
    by_cases hlt : k < n
    · have hkl : k < l.length := by have := HN.out; omega
      obtain ⟨g, o, rfl, hg, c0, c1, c2, c3⟩ := (H.out.below (hb.out.mono HBB.out)).2 k hkl
      obtain ⟨x, hx⟩ : ∃ x, l[k] = x := ⟨_, rfl⟩
      rw [hx] at c0 c1 c2 c3
      have hsx := HL.out x (by rw [← hx]; exact List.getElem_mem hkl)
      obtain ⟨lo, hi, p, q⟩ := x
      dsimp only at c0 c1 c2 c3 hsx
      obtain ⟨hs1, hs2⟩ := hsx
      obtain ⟨R, hR⟩ : ∃ R, rangeL (l.take k) = R := ⟨_, rfl⟩
      obtain ⟨P, hP⟩ : ∃ P, (if k = 0 then [] else R ++ [44]) = P := ⟨_, rfl⟩
      obtain ⟨S1, hS1⟩ : ∃ S, P ++ (if p then [91] else [40]) = S := ⟨_, rfl⟩
      obtain ⟨S2, hS2⟩ : ∃ S, S1 ++ lo = S := ⟨_, rfl⟩
      obtain ⟨D, hD⟩ : ∃ D : Bool, decide (lo = hi ∧ p = true ∧ q = true) = D := ⟨_, rfl⟩
      obtain ⟨S25, hS25⟩ : ∃ S, S2 ++ [44] = S := ⟨_, rfl⟩
      obtain ⟨S3, hS3⟩ : ∃ S, (if D then S2 else S25 ++ hi) = S := ⟨_, rfl⟩
      obtain ⟨S4, hS4⟩ : ∃ S, S3 ++ (if q then [93] else [41]) = S := ⟨_, rfl⟩
      have hU : rangeL (l.take (k + 1)) = S4 := by
        have hsp : P ++ spanL ⟨lo, hi, p, q⟩ = S4 := by
          rw [← hS4, ← hS3, ← hS25, ← hS2, ← hS1, ← hD]
          unfold spanL
          dsimp only
          by_cases hd : lo = hi ∧ p = true ∧ q = true
          · rw [if_pos hd, decide_eq_true hd]
            obtain ⟨rfl, rfl, rfl⟩ := hd
            simp
          · rw [if_neg hd, decide_eq_false hd]
            cases p <;> cases q <;> simp
        rw [← hsp, ← hP, ← hR, ← List.take_append_getElem hkl, hx]
        by_cases h0 : k = 0
        · subst h0
          rw [if_pos rfl, List.take_zero, List.nil_append, rangeL_one]; rfl
        · rw [if_neg h0, rangeL_snoc _ _ (by
            intro e
            rw [List.take_eq_nil_iff] at e
            rcases e with e | e
            · exact h0 e
            · rw [e] at hkl; simp at hkl)]
          simp
      have lR : R.length ≤ 10000000 := by rw [← hR]; exact HLEN.out k
      have lP : P.length ≤ 10000001 := by rw [← hP]; split <;> simp <;> omega
      have l1 : S1.length ≤ 10000002 := by rw [← hS1]; cases p <;> simp <;> omega
      have l2 : S2.length ≤ 10001002 := by rw [← hS2]; simp; omega
      have l25 : S25.length ≤ 10001003 := by rw [← hS25]; simp; omega
      have l3 : S3.length ≤ 10002003 := by rw [← hS3]; cases D <;> simp <;> omega
      have sR : (tx R).size ≤ 10000000 := by rw [tx_size]; exact lR
      have sP : (tx P).size ≤ 10000001 := by rw [tx_size]; exact lP
      have s1 : (tx S1).size ≤ 10000002 := by rw [tx_size]; exact l1
      have s2 : (tx S2).size ≤ 10001002 := by rw [tx_size]; exact l2
      have s25 : (tx S25).size ≤ 10001003 := by rw [tx_size]; exact l25
      have s3 : (tx S3).size ≤ 10002003 := by rw [tx_size]; exact l3
      have slo : (tx lo).size ≤ 1000 := by rw [tx_size]; exact hs1
      have shi : (tx hi).size ≤ 1000 := by rw [tx_size]; exact hs2
      have e1a : Hid (k = 0 → tx R = tx P) := Lib.hid fun h => by
        rw [← hP, ← hR, if_pos h, h]; rfl
      have e1b : Hid (¬ k = 0 → tx R ++ (⟨#[44]⟩ : ByteArray) = tx P) := Lib.hid fun h => by
        rw [← hP, if_neg h]; exact txA _ [44]
      have e2a : Hid (p = true → tx P ++ (⟨#[91]⟩ : ByteArray) = tx S1) := Lib.hid fun h => by rw [← hS1, h]; exact txA _ [91]
      have e2b : Hid (p = false → tx P ++ (⟨#[40]⟩ : ByteArray) = tx S1) := Lib.hid fun h => by rw [← hS1, h]; exact txA _ [40]
      have e3 : tx S1 ++ tx lo = tx S2 := by rw [← hS2]; exact txA _ _
      have e4a : Hid (D = true → tx S2 = tx S3) := Lib.hid fun h => by rw [← hS3, h]; rfl
      have e4b : tx S2 ++ (⟨#[44]⟩ : ByteArray) = tx S25 := by rw [← hS25]; exact txA _ [44]
      have e4c : Hid (D = false → tx S25 ++ tx hi = tx S3) := Lib.hid fun h => by rw [← hS3, h]; exact txA _ _
      have e5a : Hid (q = true → tx S3 ++ (⟨#[93]⟩ : ByteArray) = tx S4) := Lib.hid fun h => by rw [← hS4, h]; exact txA _ [93]
      have e5b : Hid (q = false → tx S3 ++ (⟨#[41]⟩ : ByteArray) = tx S4) := Lib.hid fun h => by rw [← hS4, h]; exact txA _ [41]
      have HU : Hid (tx (rangeL (l.take (k + 1))) = tx S4) := Lib.hid (by rw [hU])
      have HD := Lib.hid hD
      have HB2 : Hid (Below w.heap.size w (wr.alloc (.cells #[.string (tx lo), .string (tx hi), .bool p, .bool q] 39))) := Lib.hid (hb.out.alloc hb.out.size _)
      obtain ⟨k0, k1, k2, k3⟩ := box4 wr (.string (tx lo)) (.string (tx hi)) (.bool p) (.bool q)
      rw [hR]
      clear hP hS1 hS2 hS25 hS3 hS4 hD hU hR hx hs1 hs2 lR lP l1 l2 l25 l3
      go_upto_if 17 with fail
      go_cut [3] from 6 to 55 (fun v wx => v = .string (tx P) ∧ wx = bxW wr lo hi p q)
      case first =>
        by_cases h0 : k = 0
        · have hn : ¬ 0 < k := by omega
          have hq := e1a.out h0
          clear h0
          go_wp2_with fail
          go_meet
          exact ⟨by first | rfl | rw [hq], rfl⟩
        · have hn : 0 < k := by omega
          have hq := e1b.out h0
          clear h0
          go_wp2_with fail
          go_meet
          exact ⟨by first | rfl | rw [hq], rfl⟩
      case rest =>
      obtain ⟨rfl, rfl⟩ := hcut
      unfold bxW
      go_upto_if 21 with fail
      go_cut [3] from 6 to 55 (fun v wx => v = .string (tx S1) ∧ wx = bxW wr lo hi p q)
      case first =>
        cases p with
        | true =>
          have hq := e2a.out rfl
          go_wp2_with fail
          go_meet
          exact ⟨by first | rfl | rw [hq], rfl⟩
        | false =>
          have hq := e2b.out rfl
          go_wp2_with fail
          go_meet
          exact ⟨by first | rfl | rw [hq], rfl⟩
      case rest =>
      obtain ⟨rfl, rfl⟩ := hcut
      unfold bxW
      go_upto_region 12 with fail
      go_cut [44] from 6 to 55 (fun v wx => v = .bool (!D) ∧ wx = bxW wr lo hi p q)
      case first =>
        by_cases hlh : lo = hi
        · have hne : ((tx lo).toList == (tx hi).toList) = true := by rw [hlh, beq_iff_eq]
          have hne2 : ((tx lo).toList != (tx hi).toList) = false := by rw [bne, hne]; rfl
          have hdd : D = (p && q) := by rw [← HD.out, hlh]; cases p <;> cases q <;> simp
          clear hlh
          cases p with
          | true =>
            cases q with
            | true =>
              go_wp2_with fail
              go_meet
              exact ⟨by rw [hdd]; rfl, rfl⟩
            | false =>
              go_wp2_with fail
              go_meet
              exact ⟨by rw [hdd]; rfl, rfl⟩
          | false =>
            go_wp2_with fail
            go_meet
            exact ⟨by rw [hdd]; rfl, rfl⟩
        · have hdd : D = false := by rw [← HD.out]; simp [hlh]
          have hne : ((tx lo).toList == (tx hi).toList) = false := by rw [toList_bs, toList_bs, bs_tx, bs_tx, beq_eq_false_iff_ne]; exact hlh
          have hne2 : ((tx lo).toList != (tx hi).toList) = true := by rw [bne, hne]; rfl
          go_wp2_with fail
          go_meet
          exact ⟨by rw [hdd]; rfl, rfl⟩
      case rest =>
      obtain ⟨rfl, rfl⟩ := hcut
      unfold bxW
      go_upto_if 44 with fail
      go_cut [3] from 6 to 55 (fun v wx => v = .string (tx S3) ∧ wx = bxW wr lo hi p q)
      case first =>
        cases D with
        | true =>
          have hq := e4a.out rfl
          go_wp2_with fail
          go_meet
          exact ⟨by first | rfl | rw [hq], rfl⟩
        | false =>
          have hq := e4c.out rfl
          go_wp2_with fail
          go_meet
          exact ⟨by first | rfl | rw [hq], rfl⟩
      case rest =>
      obtain ⟨rfl, rfl⟩ := hcut
      unfold bxW
      cases q with
      | true =>
        have hq := e5a.out rfl
        go_wp2_with fail
        go_roundw
        case rel => exact ⟨k + 1, by omega, by rw [HU.out], by go_num, HB2⟩
        case measure => simp [intOf]; omega
      | false =>
        have hq := e5b.out rfl
        go_wp2_with fail
        go_roundw
        case rel => exact ⟨k + 1, by omega, by rw [HU.out], by go_num, HB2⟩
        case measure => simp [intOf]; omega
    · obtain rfl : k = n := by omega
      have HF : Hid (rangeL (l.take k) = r) := Lib.hid (by
        rw [← HR.out, List.take_of_length_le (by have := HN.out; omega)])
      go_wp2_with fail
      go_ret
      exact ⟨ret_str (by rw [HF.out]), hb⟩
end Go.Proofs.YtbpcoiblddhnjaaDoor
