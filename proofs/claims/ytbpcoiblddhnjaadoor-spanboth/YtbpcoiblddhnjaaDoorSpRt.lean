/-
  The document's Text of ranges (newelref05). The statements' own few and right (layer 7).
-/
import Derived.Test.YtbpcoiblddhnjaaDoorSpText
import Derived.Deep.CutRange
import Derived.Test.YtbpcoiblddhnjaaDoorGnIdx
import Derived.Test.YtbpcoiblddhnjaaDoorRcParse
import Derived.Test.YtbpcoiblddhnjaaDoorSpAwake
namespace Go.Proofs.YtbpcoiblddhnjaaDoor
open Nwl
open Go.RowKit Go.Maps
set_option linter.unusedVariables false

/-- a world with the span's box -/
def bxW (w : World) (lo hi : List UInt8) (p q : Bool) : World := w.alloc (.cells #[.string (tx lo), .string (tx hi), .bool p, .bool q] 39)

set_option maxRecDepth 100000 in
set_option maxHeartbeats 4000000 in
theorem rText_c (A : Option Addr) (n c : Nat) (l : List Sp) (w : World) (B : Nat) (hB : B ≤ w.heap.size) (h : SpR B w A n l) (hn : n ≤ 1000) (hl : ∀ s ∈ l, s.lo.length ≤ 1000 ∧ s.hi.length ≤ 1000) (r : List UInt8) (hr : rangeL l = r) :
    Calls Tryd.prog 19 #[.slice A n c] w fun e w' => e = .returned (.string (tx r)) ∧ Hid (Below w.heap.size w w') := by
  have H := Lib.hid h
  have HL := Lib.hid hl
  have HR := Lib.hid hr
  have HN : Hid (n = l.length) := Lib.hid h.1
  have HBB := Lib.hid hB
  have HLEN : Hid (∀ k, (rangeL (l.take k)).length ≤ 10000000) := Lib.hid fun k => by
    have := rangeL_len (l.take k) 1000 fun x hx => hl x (List.mem_of_mem_take hx)
    have h2 : (l.take k).length ≤ 1000 := by rw [List.length_take, ← h.1]; omega
    have h3 : (l.take k).length * (2 * 1000 + 4) ≤ 1000 * (2 * 1000 + 4) := Nat.mul_le_mul_right _ h2
    omega
  clear h hl hr hB
  go_enter Tryd.func19, Tryd.ntmps19
  go_wp2_with fail
  go_loopw [3, 4] (fun sv iv wr => ∃ k : Nat, k ≤ n ∧ sv = .string (tx (rangeL (l.take k))) ∧ iv = .int .i64 k ∧ Hid (Below w.heap.size w wr)) (fun _ iv _ => n - (intOf iv).toNat)
  case atStart => exact ⟨0, by omega, rfl, rfl, Lib.hid (Below.refl _ _)⟩
  case round =>
    obtain ⟨k, hk, rfl, rfl, hb⟩ := hrel
    by_cases hlt : k < n
    · have hkl : k < l.length := by have := HN.out; omega
      obtain ⟨g, o, rfl, hg, c0, c1, c2, c3⟩ := (H.out.below (hb.out.mono HBB.out)).2 k hkl
      obtain ⟨x, hx⟩ : ∃ x, l[k] = x := ⟨_, rfl⟩
      rw [hx] at c0 c1 c2 c3
      have hsx := HL.out x (by rw [← hx]; exact List.getElem_mem hkl)
      obtain ⟨lo, hi, p, q⟩ := x
      dsimp only at c0 c1 c2 c3 hsx
      obtain ⟨hs1, hs2⟩ := hsx
      obtain ⟨R, hR⟩ : ∃ R, rangeL (l.take k) = R := ⟨_, rfl⟩
      obtain ⟨P, hP⟩ : ∃ P, (if k = 0 then [] else R ++ [44]) = P := ⟨_, rfl⟩
      obtain ⟨S1, hS1⟩ : ∃ S, P ++ (if p then [91] else [40]) = S := ⟨_, rfl⟩
      obtain ⟨S2, hS2⟩ : ∃ S, S1 ++ lo = S := ⟨_, rfl⟩
      obtain ⟨D, hD⟩ : ∃ D : Bool, decide (lo = hi ∧ p = true ∧ q = true) = D := ⟨_, rfl⟩
      obtain ⟨S25, hS25⟩ : ∃ S, S2 ++ [44] = S := ⟨_, rfl⟩
      obtain ⟨S3, hS3⟩ : ∃ S, (if D then S2 else S25 ++ hi) = S := ⟨_, rfl⟩
      obtain ⟨S4, hS4⟩ : ∃ S, S3 ++ (if q then [93] else [41]) = S := ⟨_, rfl⟩
      have hU : rangeL (l.take (k + 1)) = S4 := by
        have hsp : P ++ spanL ⟨lo, hi, p, q⟩ = S4 := by
          rw [← hS4, ← hS3, ← hS25, ← hS2, ← hS1, ← hD]
          unfold spanL
          dsimp only
          by_cases hd : lo = hi ∧ p = true ∧ q = true
          · rw [if_pos hd, decide_eq_true hd]
            obtain ⟨rfl, rfl, rfl⟩ := hd
            simp
          · rw [if_neg hd, decide_eq_false hd]
            cases p <;> cases q <;> simp
        rw [← hsp, ← hP, ← hR, ← List.take_append_getElem hkl, hx]
        by_cases h0 : k = 0
        · subst h0
          rw [if_pos rfl, List.take_zero, List.nil_append, rangeL_one]; rfl
        · rw [if_neg h0, rangeL_snoc _ _ (by
            intro e
            rw [List.take_eq_nil_iff] at e
            rcases e with e | e
            · exact h0 e
            · rw [e] at hkl; simp at hkl)]
          simp
      have lR : R.length ≤ 10000000 := by rw [← hR]; exact HLEN.out k
      have lP : P.length ≤ 10000001 := by rw [← hP]; split <;> simp <;> omega
      have l1 : S1.length ≤ 10000002 := by rw [← hS1]; cases p <;> simp <;> omega
      have l2 : S2.length ≤ 10001002 := by rw [← hS2]; simp; omega
      have l25 : S25.length ≤ 10001003 := by rw [← hS25]; simp; omega
      have l3 : S3.length ≤ 10002003 := by rw [← hS3]; cases D <;> simp <;> omega
      have sR : (tx R).size ≤ 10000000 := by rw [tx_size]; exact lR
      have sP : (tx P).size ≤ 10000001 := by rw [tx_size]; exact lP
      have s1 : (tx S1).size ≤ 10000002 := by rw [tx_size]; exact l1
      have s2 : (tx S2).size ≤ 10001002 := by rw [tx_size]; exact l2
      have s25 : (tx S25).size ≤ 10001003 := by rw [tx_size]; exact l25
      have s3 : (tx S3).size ≤ 10002003 := by rw [tx_size]; exact l3
      have slo : (tx lo).size ≤ 1000 := by rw [tx_size]; exact hs1
      have shi : (tx hi).size ≤ 1000 := by rw [tx_size]; exact hs2
      have e1a : Hid (k = 0 → tx R = tx P) := Lib.hid fun h => by
        rw [← hP, ← hR, if_pos h, h]; rfl
      have e1b : Hid (¬ k = 0 → tx R ++ (⟨#[44]⟩ : ByteArray) = tx P) := Lib.hid fun h => by
        rw [← hP, if_neg h]; exact txA _ [44]
      have e2a : Hid (p = true → tx P ++ (⟨#[91]⟩ : ByteArray) = tx S1) := Lib.hid fun h => by rw [← hS1, h]; exact txA _ [91]
      have e2b : Hid (p = false → tx P ++ (⟨#[40]⟩ : ByteArray) = tx S1) := Lib.hid fun h => by rw [← hS1, h]; exact txA _ [40]
      have e3 : tx S1 ++ tx lo = tx S2 := by rw [← hS2]; exact txA _ _
      have e4a : Hid (D = true → tx S2 = tx S3) := Lib.hid fun h => by rw [← hS3, h]; rfl
      have e4b : tx S2 ++ (⟨#[44]⟩ : ByteArray) = tx S25 := by rw [← hS25]; exact txA _ [44]
      have e4c : Hid (D = false → tx S25 ++ tx hi = tx S3) := Lib.hid fun h => by rw [← hS3, h]; exact txA _ _
      have e5a : Hid (q = true → tx S3 ++ (⟨#[93]⟩ : ByteArray) = tx S4) := Lib.hid fun h => by rw [← hS4, h]; exact txA _ [93]
      have e5b : Hid (q = false → tx S3 ++ (⟨#[41]⟩ : ByteArray) = tx S4) := Lib.hid fun h => by rw [← hS4, h]; exact txA _ [41]
      have HU : Hid (tx (rangeL (l.take (k + 1))) = tx S4) := Lib.hid (by rw [hU])
      have HD := Lib.hid hD
      have HB2 : Hid (Below w.heap.size w (wr.alloc (.cells #[.string (tx lo), .string (tx hi), .bool p, .bool q] 39))) := Lib.hid (hb.out.alloc hb.out.size _)
      obtain ⟨k0, k1, k2, k3⟩ := box4 wr (.string (tx lo)) (.string (tx hi)) (.bool p) (.bool q)
      rw [hR]
      clear hP hS1 hS2 hS25 hS3 hS4 hD hU hR hx hs1 hs2 lR lP l1 l2 l25 l3
      go_upto_if 17 with fail
      go_cut [3] from 6 to 55 (fun v wx => v = .string (tx P) ∧ wx = bxW wr lo hi p q)
      case first =>
        by_cases h0 : k = 0
        · have hn : ¬ 0 < k := by omega
          have hq := e1a.out h0
          clear h0
          go_wp2_with fail
          go_meet
          exact ⟨by first | rfl | rw [hq], rfl⟩
        · have hn : 0 < k := by omega
          have hq := e1b.out h0
          clear h0
          go_wp2_with fail
          go_meet
          exact ⟨by first | rfl | rw [hq], rfl⟩
      case rest =>
      obtain ⟨rfl, rfl⟩ := hcut
      unfold bxW
      go_upto_if 21 with fail
      go_cut [3] from 6 to 55 (fun v wx => v = .string (tx S1) ∧ wx = bxW wr lo hi p q)
      case first =>
        cases p with
        | true =>
          have hq := e2a.out rfl
          go_wp2_with fail
          go_meet
          exact ⟨by first | rfl | rw [hq], rfl⟩
        | false =>
          have hq := e2b.out rfl
          go_wp2_with fail
          go_meet
          exact ⟨by first | rfl | rw [hq], rfl⟩
      case rest =>
      obtain ⟨rfl, rfl⟩ := hcut
      unfold bxW
      go_upto_region 12 with fail
      go_cut [44] from 6 to 55 (fun v wx => v = .bool (!D) ∧ wx = bxW wr lo hi p q)
      case first =>
        by_cases hlh : lo = hi
        · have hne : ((tx lo).toList == (tx hi).toList) = true := by rw [hlh, beq_iff_eq]
          have hne2 : ((tx lo).toList != (tx hi).toList) = false := by rw [bne, hne]; rfl
          have hdd : D = (p && q) := by rw [← HD.out, hlh]; cases p <;> cases q <;> simp
          clear hlh
          cases p with
          | true =>
            cases q with
            | true =>
              go_wp2_with fail
              go_meet
              exact ⟨by rw [hdd]; rfl, rfl⟩
            | false =>
              go_wp2_with fail
              go_meet
              exact ⟨by rw [hdd]; rfl, rfl⟩
          | false =>
            go_wp2_with fail
            go_meet
            exact ⟨by rw [hdd]; rfl, rfl⟩
        · have hdd : D = false := by rw [← HD.out]; simp [hlh]
          have hne : ((tx lo).toList == (tx hi).toList) = false := by rw [toList_bs, toList_bs, bs_tx, bs_tx, beq_eq_false_iff_ne]; exact hlh
          have hne2 : ((tx lo).toList != (tx hi).toList) = true := by rw [bne, hne]; rfl
          go_wp2_with fail
          go_meet
          exact ⟨by rw [hdd]; rfl, rfl⟩
      case rest =>
      obtain ⟨rfl, rfl⟩ := hcut
      unfold bxW
      go_upto_if 44 with fail
      go_cut [3] from 6 to 55 (fun v wx => v = .string (tx S3) ∧ wx = bxW wr lo hi p q)
      case first =>
        cases D with
        | true =>
          have hq := e4a.out rfl
          go_wp2_with fail
          go_meet
          exact ⟨by first | rfl | rw [hq], rfl⟩
        | false =>
          have hq := e4c.out rfl
          go_wp2_with fail
          go_meet
          exact ⟨by first | rfl | rw [hq], rfl⟩
      case rest =>
      obtain ⟨rfl, rfl⟩ := hcut
      unfold bxW
      cases q with
      | true =>
        have hq := e5a.out rfl
        go_wp2_with fail
        go_roundw
        case rel => exact ⟨k + 1, by omega, by rw [HU.out], by go_num, HB2⟩
        case measure => simp [intOf]; omega
      | false =>
        have hq := e5b.out rfl
        go_wp2_with fail
        go_roundw
        case rel => exact ⟨k + 1, by omega, by rw [HU.out], by go_num, HB2⟩
        case measure => simp [intOf]; omega
    · obtain rfl : k = n := by omega
      have HF : Hid (rangeL (l.take k) = r) := Lib.hid (by
        rw [← HR.out, List.take_of_length_le (by have := HN.out; omega)])
      go_wp2_with fail
      go_ret
      exact ⟨ret_str (by rw [HF.out]), hb⟩
end Go.Proofs.YtbpcoiblddhnjaaDoor

namespace Nwl
open Go
/-- not too much -/
def fewS (l : List Sp) : Bool := l.all (fun s => decide (s.lo.length ≤ 100) && decide (s.hi.length ≤ 100)) && decide (l.length ≤ 20)
theorem fewS_len {l : List Sp} (h : fewS l = true) : ∀ s ∈ l, s.lo.length ≤ 100 ∧ s.hi.length ≤ 100 := by
  intro s hs
  unfold fewS at h
  rw [Bool.and_eq_true, List.all_eq_true] at h
  have := h.1 s hs
  rw [Bool.and_eq_true, decide_eq_true_eq, decide_eq_true_eq] at this
  exact this
theorem fewS_n {l : List Sp} (h : fewS l = true) : l.length ≤ 20 := by
  unfold fewS at h
  rw [Bool.and_eq_true, decide_eq_true_eq] at h
  exact h.2
theorem fewS_no {l : List Sp} {k : Nat} (hk : k < l.length) (h : 100 < l[k].lo.length ∨ 100 < l[k].hi.length) : fewS l = false := by
  rw [Bool.eq_false_iff]
  intro hf
  have := fewS_len hf l[k] (List.getElem_mem hk)
  omega
end Nwl
namespace Go.Proofs.YtbpcoiblddhnjaaDoor
open Nwl
open Go.RowKit Go.Maps
set_option linter.unusedVariables false
set_option linter.unusedSimpArgs false

set_option maxRecDepth 100000 in
set_option maxHeartbeats 2000000 in
theorem few_c (A : Option Addr) (n c : Nat) (l : List Sp) (w : World) (B : Nat) (hB : B ≤ w.heap.size) (h : SpR B w A n l) (hn : n ≤ maxLen) (hl : ∀ s ∈ l, s.lo.length ≤ maxLen ∧ s.hi.length ≤ maxLen) (r : Bool) (hr : fewS l = r) :
    Calls Tryd.prog 8 #[.slice A n c] w fun e w' => e = .returned (.bool r) ∧ w = w' := by
  have H := Lib.hid h
  have HL := Lib.hid hl
  have HR := Lib.hid hr
  have HN : Hid (n = l.length) := Lib.hid h.1
  clear h hl hr
  unfold maxLen at hn
  go_enter Tryd.func8, Tryd.ntmps8
  go_wp2_with fail
  go_loopw [3] (fun iv wr => ∃ k : Nat, k ≤ n ∧ iv = .int .i64 k ∧ Hid (∀ j (hj : j < l.length), j < k → l[j].lo.length ≤ 100 ∧ l[j].hi.length ≤ 100) ∧ w = wr) (fun iv _ => n - (intOf iv).toNat)
  case atStart => exact ⟨0, by omega, rfl, Lib.hid (fun j _ h => by omega), rfl⟩
  case round =>
    obtain ⟨k, hk, rfl, hh, rfl⟩ := hrel
    by_cases hlt : k < n
    · have hkl : k < l.length := by have := HN.out; omega
      obtain ⟨g, o, rfl, hg, c0, c1, c2, c3⟩ := H.out.2 k hkl
      obtain ⟨x, hx⟩ : ∃ x, l[k] = x := ⟨_, rfl⟩
      have hsx := HL.out _ (List.getElem_mem hkl)
      rw [hx] at c0 c1 hsx
      have z1 := tx_size x.lo
      have z2 := tx_size x.hi
      obtain ⟨h1, h2⟩ := hsx
      unfold maxLen at h1 h2
      have HX := Lib.hid hx
      have d1 : (tx x.lo).size ≤ 9223372036854775807 := by omega
      have d2 : (tx x.hi).size ≤ 9223372036854775807 := by omega
      by_cases q1 : 100 < (tx x.lo).size
      · have HF : Hid (false = r) := Lib.hid (by rw [← HR.out]; exact (fewS_no hkl (.inl (by rw [HX.out]; omega))).symm)
        clear z1 z2 h1 h2 hx c2 c3
        go_wp2_with fail
        go_ret
        exact ⟨ret_bool HF.out, rfl⟩
      · by_cases q2 : 100 < (tx x.hi).size
        · have HF : Hid (false = r) := Lib.hid (by rw [← HR.out]; exact (fewS_no hkl (.inr (by rw [HX.out]; omega))).symm)
          clear z1 z2 h1 h2 hx c2 c3
          go_wp2_with fail
          go_ret
          exact ⟨ret_bool HF.out, rfl⟩
        · have HN2 : Hid (∀ j (hj : j < l.length), j < k + 1 → l[j].lo.length ≤ 100 ∧ l[j].hi.length ≤ 100) := Lib.hid fun j hj hjk => by
            by_cases e : j = k
            · subst e; rw [HX.out]; omega
            · exact hh.out j hj (by omega)
          clear z1 z2 h1 h2 hx c2 c3 hh
          go_wp2_with fail
          go_roundw
          case rel => exact ⟨k + 1, by omega, by go_num, HN2, by first | exact rfl | trivial⟩
          case measure => simp [intOf]; omega
    · have HF : Hid (decide (l.length ≤ 20) = r) := Lib.hid (by
        rw [← HR.out]
        unfold fewS
        have : l.all (fun s => decide (s.lo.length ≤ 100) && decide (s.hi.length ≤ 100)) = true := by
          rw [List.all_eq_true]
          intro s hs
          obtain ⟨j, hj, rfl⟩ := List.mem_iff_getElem.1 hs
          have h1 := hh.out j hj (by have := HN.out; omega)
          rw [Bool.and_eq_true, decide_eq_true_eq, decide_eq_true_eq]
          exact h1
        rw [this, Bool.true_and])
      have HF2 : Hid (decide ((n : Int) ≤ 20) = r) := Lib.hid (by
        rw [← HF.out, Bool.eq_iff_iff, decide_eq_true_eq, decide_eq_true_eq]
        have := HN.out
        omega)
      clear hh
      go_wp2_with fail
      go_ret
      exact ⟨ret_bool HF2.out, rfl⟩

/-- an append inside a region that is walked by hand -/
theorem run_app {P : Program} {w w' : World} {ops : Array Oper} {o : Oper} {a : Act} {K : Act → World → Prop} {Q : Exit → Act → World → Prop} {E : Prop} (hgd : o.guard = none) (s x : Operand) (t u : TypeId)
    (ho : o.op = .call { callee := .builtin .append, args := #[s, x], argTypes := #[t, u] }) (v1 v2 v' : Value) (ty : TypeId) (hs : a.eval s = v1) (hx : a.eval x = v2) (hty : o.type = ty)
    (hrun : (Builtin.append_ #[t, u] ty #[v1, v2]).run P w = .ok v' w') (hK : K (a.put o.dst v') w') :
    if Region.wanted o (yielded ops a.tmps) = true then Oper.wp P o a w K Q else E := by
  have hw : Region.wanted o (yielded ops a.tmps) = true := by simp [Region.wanted, hgd]
  rw [if_pos hw]
  subst hty
  unfold Oper.wp execOp
  simp only [ho, resolve, invoke, builtin, Sem.run_bind, Sem.run_pure, Result.andThen_ok, List.map_toArray, List.map_cons, List.map_nil, hs, hx, hrun]
  exact hK

theorem SpRow.form {B : Nat} {w : World} {A : Option Addr} {n c : Nat} {l : List Sp} (h : SpRow B w A n c l) : A = none → n = 0 ∧ c = 0 := by
  intro hA
  subst hA
  rcases h.2.2 with ⟨hv, h0⟩ | ⟨g, cap, cur, hv, _⟩
  · cases hv; exact ⟨rfl, rfl⟩
  · cases hv

set_option maxRecDepth 100000 in
theorem sp_copy {W : World} {A : Option Addr} {n c : Nat} {l : List Sp} (h : SpR W.heap.size W A n l) (hA : A = none → n = 0 ∧ c = 0) (hn : n ≤ 1000) :
    ∃ (A2 : Option Addr) (c2 : Nat) (W' : World), (Builtin.append_ #[22, 22] 22 #[.slice none 0 0, .slice A n c]).run Tryd.prog W = .ok (.slice A2 n c2) W' ∧ SpRow W.heap.size W' A2 n c2 l ∧ Below W.heap.size W W' := by
  obtain ⟨i0, hi, hz0, hz1, hz2⟩ := info_parts2 info_sp
  cases A with
  | none =>
    obtain ⟨rfl, rfl⟩ := hA rfl
    have hl : l = [] := List.eq_nil_of_length_eq_zero h.1.symm
    subst hl
    exact ⟨none, 0, W, run_append_owned_none W W.heap.size 22 22 39 i0 4 Tryd.underlying22 hi _ 0 [] (World.ownsRow_nil _ _ _ _), SpRow.nil _ _, Below.refl _ _⟩
  | some a =>
    obtain ⟨v', W', hr, hown, hg, _⟩ := run_append_own (P := Tryd.prog) W W.heap.size 22 22 39 i0 _ 4 40 Tryd.underlying22 hi hz0 hz1 hz2 rfl (by decide) _ 0 [] (World.ownsRow_nil _ _ _ _) a n c (spCells l) (by rw [spCells_len, h.1]) (fun j u hu => by
      have hj : j < l.length * 4 := by
        rw [← spCells_len]
        rcases Nat.lt_or_ge j (spCells l).length with h' | h'
        · exact h'
        · rw [List.getElem?_eq_none h'] at hu; cases hu
      have hq : j / 4 < l.length := by omega
      obtain ⟨g, o, e, _, p0, p1, p2, p3⟩ := h.2 (j / 4) hq
      obtain ⟨q0, q1, q2, q3⟩ := spCells_get l (j / 4) hq
      injection e with e
      subst e
      rw [Addr.add_lit]
      have hm : j % 4 = 0 ∨ j % 4 = 1 ∨ j % 4 = 2 ∨ j % 4 = 3 := by omega
      rcases hm with hm | hm | hm | hm
      · have ej : j = j / 4 * 4 := by omega
        rw [ej] at hu ⊢
        rw [q0] at hu; rw [← hu]; exact p0
      · have ej : j = j / 4 * 4 + 1 := by omega
        rw [ej] at hu ⊢
        rw [q1] at hu; rw [← hu]; exact p1
      · have ej : j = j / 4 * 4 + 2 := by omega
        rw [ej] at hu ⊢
        rw [q2] at hu; rw [← hu]; exact p2
      · have ej : j = j / 4 * 4 + 3 := by omega
        rw [ej] at hu ⊢
        rw [q3] at hu; rw [← hu]; exact p3) (spCells_one l) (by unfold maxLen; omega) (by omega) (Nat.le_refl _)
    rw [Nat.zero_add, List.nil_append] at hown
    have hbel : Below W.heap.size W W' := ⟨hg.os, hg.tape, hg.output, hg.size, fun k hk => hg.block k hk (by simp [Value.ownBlock])⟩
    obtain ⟨A2, c2, rfl⟩ := own_form hown
    exact ⟨A2, c2, W', hr, ⟨h.1, hown⟩, hbel⟩

set_option maxRecDepth 100000 in
theorem sp_push {B g : Nat} {W : World} {A : Option Addr} {n c : Nat} {l : List Sp} (s : Sp) (h : SpRow B W A n c l) (hB : B ≤ W.heap.size) (hn : n ≤ 1000) (hs : Blk W g 39 #[.string (tx s.lo), .string (tx s.hi), .bool s.il, .bool s.ih]) :
    ∃ (A2 : Option Addr) (c2 : Nat) (W' : World), (Builtin.append_ #[22, 22] 22 #[.slice A n c, .slice (some ⟨g, 0, none⟩) 1 1]).run Tryd.prog W = .ok (.slice A2 (n + 1) c2) W' ∧ SpRow B W' A2 (n + 1) c2 (l ++ [s]) ∧ Below B W W' := by
  obtain ⟨i0, hi, hz0, hz1, hz2⟩ := info_parts2 info_sp
  obtain ⟨v', W', hr, hown, hg, _⟩ := run_append_own (P := Tryd.prog) W B 22 22 39 i0 _ 4 40 Tryd.underlying22 hi hz0 hz1 hz2 rfl (by decide) _ n (spCells l) h.2 ⟨g, 0, none⟩ 1 1 [.string (tx s.lo), .string (tx s.hi), .bool s.il, .bool s.ih] rfl (fun j u hu => by
    rw [Addr.add_lit, Nat.zero_add, hs.cell]
    match j, hu with
    | 0, hu => simpa using hu
    | 1, hu => simpa using hu
    | 2, hu => simpa using hu
    | 3, hu => simpa using hu
    | j + 4, hu => simp at hu) (sp_oneCell _ _ _ _) (by unfold maxLen; omega) (by omega) hB
  obtain ⟨A2, c2, rfl⟩ := own_form hown
  refine ⟨A2, c2, W', hr, ⟨by rw [List.length_append, h.1]; rfl, by rw [spCells_app]; exact hown⟩, (Below.refl B W).grown hg hB (fun k hk => (h.2.lt k hk).1)⟩
theorem SpRow.low {B B' : Nat} {w : World} {A : Option Addr} {n c : Nat} {l : List Sp} (h : SpRow B' w A n c l) (hb : B ≤ B') : SpRow B w A n c l := by
  obtain ⟨hn, h1, h2⟩ := h
  refine ⟨hn, h1, ?_⟩
  rcases h2 with h0 | ⟨g, cap, cur, hv, hg, r⟩
  · exact .inl h0
  · exact .inr ⟨g, cap, cur, hv, Nat.le_trans hb hg, r⟩

/-- what right answers: a row of its own, of spans that were handed in, and that may be -/
def RightPost (w : World) (l : List Sp) (e : Ending) (w' : World) : Prop :=
  ∃ A n c r, e = .returned (.slice A n c) ∧ SpRow w.heap.size w' A n c r ∧ n ≤ 12 ∧ (∀ s ∈ r, s ∈ l ∧ mayB s = true) ∧ Below w.heap.size w w'

set_option maxRecDepth 100000 in
set_option maxHeartbeats 8000000 in
theorem right_c (A : Option Addr) (n c : Nat) (l : List Sp) (w : World) (B : Nat) (hB : B ≤ w.heap.size) (h : SpR B w A n l) (hf : fewS l = true) :
    Calls Tryd.prog 10 #[.slice A n c] w fun e w' => Hid (RightPost w l e w') := by
  have hln := fewS_n hf
  have hn := h.1
  have hn20 : n ≤ 20 := by omega
  have H := Lib.hid h
  have HL := Lib.hid (fewS_len hf)
  have HN : Hid (n = l.length) := Lib.hid h.1
  have HBB := Lib.hid hB
  clear h hf hB hln hn
  go_enter Tryd.func10, Tryd.ntmps10
  go_wp2_with fail
  go_loopw [3, 4] (fun ov iv wr => ∃ (k : Nat) (Ao : Option Addr) (no co : Nat) (acc : List Sp), k ≤ n ∧ k ≤ 12 ∧ no ≤ k ∧ ov = .slice Ao no co ∧ iv = .int .i64 k ∧ Hid (SpRow w.heap.size wr Ao no co acc ∧ (∀ s ∈ acc, s ∈ l ∧ mayB s = true) ∧ Below w.heap.size w wr)) (fun _ iv _ => n - (intOf iv).toNat)
  case atStart => exact ⟨0, none, 0, 0, [], by omega, by omega, by omega, rfl, rfl, Lib.hid ⟨SpRow.nil _ _, fun s hs => by simp at hs, Below.refl _ _⟩⟩
  case round =>
    obtain ⟨k, Ao, no, co, acc, hk, hk12, hno, rfl, rfl, hh⟩ := hrel
    by_cases hlt : k < n ∧ k < 12
    · obtain ⟨hlt, hlt12⟩ := hlt
      have hkl : k < l.length := by have := HN.out; omega
      obtain ⟨x, hx⟩ : ∃ x, l[k] = x := ⟨_, rfl⟩
      have hsx := HL.out x (by rw [← hx]; exact List.getElem_mem hkl)
      obtain ⟨hs1, hs2⟩ := hsx
      have HX := Lib.hid hx
      have HXL : Hid (x ∈ l) := Lib.hid (by rw [← hx]; exact List.getElem_mem hkl)
      have HS1 := Lib.hid hs1
      have HS2 := Lib.hid hs2
      have HROW := Lib.hid hh.out.1
      have HACC := Lib.hid hh.out.2.1
      have HBEL := Lib.hid hh.out.2.2
      have HFORM : Hid (Ao = none → no = 0 ∧ co = 0) := Lib.hid hh.out.1.form
      obtain ⟨g, o, rfl, hcc⟩ := (H.out.below (HBEL.out.mono HBB.out)).2 k hkl
      clear hcc
      have HSRC : Hid (∀ W, Below wr.heap.size wr W → SpR B W (some ⟨g, o, none⟩) n l) := Lib.hid fun W hW => (H.out.below (HBEL.out.mono HBB.out)).below (hW.mono (Nat.le_trans HBB.out HBEL.out.size))
      have HLA : Hid (acc.length = no) := Lib.hid hh.out.1.1.symm
      clear hh hx hs1 hs2
      have hki : ((k : Int) < (n : Int)) := by omega
      have hki2 : ((k : Int) < 12) := by omega
      go_upto_region 5 with fail
      go_cut [5] from 8 to 46 (fun v wx => ∃ A2 c2, v = .slice A2 (no + 1) c2 ∧ Hid (SpRow wr.heap.size wx A2 (no + 1) c2 (acc ++ [x]) ∧ Below wr.heap.size wr wx))
      case first =>
        refine wp_region_any (by kernel_rfl) ?_
        change wpAny _ _ _ _ _ _ _ (World.drew _)
        refine wpAny_take (i := 0) (v := .slice Ao no co) rfl (by kernel_rfl) (by kernel_rfl) (by kernel_rfl) (fun _ _ _ h => h) (Or.inl ⟨by rfl, fun W => by go_simp⟩) ?_
        simp only [Act.put, List.getElem_toArray, List.getElem_cons_zero, List.getElem_cons_succ, List.setIfInBounds_toArray, List.set_cons_zero, List.set_cons_succ]
        refine wpAny_take (i := 2) (v := .slice (some ⟨g, o, none⟩) n c) rfl (by kernel_rfl) (by kernel_rfl) (by kernel_rfl) (fun _ _ _ h => h) (Or.inl ⟨by rfl, fun W => by go_simp⟩) ?_
        simp only [Act.put, List.getElem_toArray, List.getElem_cons_zero, List.getElem_cons_succ, List.setIfInBounds_toArray, List.set_cons_zero, List.set_cons_succ]
        refine wpAny_take (i := 3) (v := .int .i64 (k : Int)) rfl (by kernel_rfl) (by kernel_rfl) (by kernel_rfl) (fun _ _ _ h => h) (Or.inl ⟨by rfl, fun W => by go_simp⟩) ?_
        simp only [Act.put, List.getElem_toArray, List.getElem_cons_zero, List.getElem_cons_succ, List.setIfInBounds_toArray, List.set_cons_zero, List.set_cons_succ]
        refine wpAny_take (i := 4) (v := .pointer (some ⟨g, o + k * 4, none⟩)) rfl (by kernel_rfl) (by kernel_rfl) (by kernel_rfl) (fun _ _ _ h => h) (Or.inl ⟨by rfl, fun W => by go_simp⟩) ?_
        simp only [Act.put, List.getElem_toArray, List.getElem_cons_zero, List.getElem_cons_succ, List.setIfInBounds_toArray, List.set_cons_zero, List.set_cons_succ]
        refine wpAny_ready (rs := [1, 5]) (by kernel_rfl) (by simp) ?_
        refine AllReady.cons rfl (fun K hK => ?_) (AllReady.cons rfl (fun K hK => ?_) AllReady.nil)
        · obtain ⟨A2, c2', W2, hr2, hrow2, hb2⟩ := sp_copy (W := wr.drew) (n := no) (c := co) HROW.out.r HFORM.out (by omega)
          refine run_app (by rfl) _ _ _ _ (by rfl) _ _ _ _ (by rfl) (by rfl) (by rfl) hr2 ?_
          refine hK _ _ ?_
          clear hK K
          simp only [Act.put, List.getElem_toArray, List.getElem_cons_zero, List.getElem_cons_succ, List.setIfInBounds_toArray, List.set_cons_zero, List.set_cons_succ]
          obtain ⟨m0, m1, m2, m3⟩ := spr_at (HSRC.out W2 (below_d hb2)) hkl HX.out
          refine wpAny_ready (rs := [5]) (by kernel_rfl) (by simp) ?_
          refine AllReady.cons rfl (fun K hK => ?_) AllReady.nil
          go_simp
          refine hK _ _ ?_
          clear hK K
          refine wpAny_ready (rs := [6]) (by kernel_rfl) (by simp) ?_
          refine AllReady.cons rfl (fun K hK => ?_) AllReady.nil
          go_simp
          refine hK _ _ ?_
          clear hK K
          have hz2 := hb2.size
          obtain ⟨A3, c3', W3, hr3, hrow3, hb3⟩ := sp_push x (hrow2.below ((Below.refl W2.heap.size W2).alloc (Nat.le_refl _) (.cells #[.string (tx x.lo), .string (tx x.hi), .bool x.il, .bool x.ih] 39))) (by simp; exact Nat.le_succ_of_le hz2) (by omega) (Blk.new W2 _ _)
          refine wpAny_ready (rs := [7]) (by kernel_rfl) (by simp) ?_
          refine AllReady.cons rfl (fun K hK => ?_) AllReady.nil
          refine run_app (by rfl) _ _ _ _ (by rfl) _ _ _ _ (by rfl) (by rfl) (by rfl) hr3 ?_
          refine hK _ _ ?_
          clear hK K
          simp only [Act.put, List.getElem_toArray, List.getElem_cons_zero, List.getElem_cons_succ, List.setIfInBounds_toArray, List.set_cons_zero, List.set_cons_succ]
          refine wpAny_take (i := 8) (v := .slice A3 (no + 1) c3') rfl (by kernel_rfl) (by kernel_rfl) (by kernel_rfl) (fun _ _ _ h => h) (Or.inl ⟨by rfl, fun W => by go_simp⟩) ?_
          simp only [Act.put, List.getElem_toArray, List.getElem_cons_zero, List.getElem_cons_succ, List.setIfInBounds_toArray, List.set_cons_zero, List.set_cons_succ]
          refine wpAny_done (by kernel_rfl) ?_ _
          go_wp2_with fail
          go_meet
          exact ⟨A3, c3', rfl, Lib.hid ⟨hrow3, (below_d hb2).trans ((((Below.refl _ _).alloc (below_d hb2).size _)).trans hb3)⟩⟩
        · obtain ⟨m0, m1, m2, m3⟩ := spr_at (HSRC.out wr (Below.refl _ _)) hkl HX.out
          go_simp
          refine hK _ _ ?_
          clear hK K
          refine wpAny_ready (rs := [1, 6]) (by kernel_rfl) (by simp) ?_
          refine AllReady.cons rfl (fun K hK => ?_) (AllReady.cons rfl (fun K hK => ?_) AllReady.nil)
          · obtain ⟨A2, c2', W2, hr2, hrow2, hb2⟩ := sp_copy (W := wr.drew) (n := no) (c := co) HROW.out.r HFORM.out (by omega)
            refine run_app (by rfl) _ _ _ _ (by rfl) _ _ _ _ (by rfl) (by rfl) (by rfl) hr2 ?_
            refine hK _ _ ?_
            clear hK K
            simp only [Act.put, List.getElem_toArray, List.getElem_cons_zero, List.getElem_cons_succ, List.setIfInBounds_toArray, List.set_cons_zero, List.set_cons_succ]
            refine wpAny_ready (rs := [6]) (by kernel_rfl) (by simp) ?_
            refine AllReady.cons rfl (fun K hK => ?_) AllReady.nil
            go_simp
            refine hK _ _ ?_
            clear hK K
            have hz2 := hb2.size
            obtain ⟨A3, c3', W3, hr3, hrow3, hb3⟩ := sp_push x (hrow2.below ((Below.refl W2.heap.size W2).alloc (Nat.le_refl _) (.cells #[.string (tx x.lo), .string (tx x.hi), .bool x.il, .bool x.ih] 39))) (by simp; exact Nat.le_succ_of_le hz2) (by omega) (Blk.new W2 _ _)
            refine wpAny_ready (rs := [7]) (by kernel_rfl) (by simp) ?_
            refine AllReady.cons rfl (fun K hK => ?_) AllReady.nil
            refine run_app (by rfl) _ _ _ _ (by rfl) _ _ _ _ (by rfl) (by rfl) (by rfl) hr3 ?_
            refine hK _ _ ?_
            clear hK K
            simp only [Act.put, List.getElem_toArray, List.getElem_cons_zero, List.getElem_cons_succ, List.setIfInBounds_toArray, List.set_cons_zero, List.set_cons_succ]
            refine wpAny_take (i := 8) (v := .slice A3 (no + 1) c3') rfl (by kernel_rfl) (by kernel_rfl) (by kernel_rfl) (fun _ _ _ h => h) (Or.inl ⟨by rfl, fun W => by go_simp⟩) ?_
            simp only [Act.put, List.getElem_toArray, List.getElem_cons_zero, List.getElem_cons_succ, List.setIfInBounds_toArray, List.set_cons_zero, List.set_cons_succ]
            refine wpAny_done (by kernel_rfl) ?_ _
            go_wp2_with fail
            go_meet
            exact ⟨A3, c3', rfl, Lib.hid ⟨hrow3, (below_d hb2).trans ((((Below.refl _ _).alloc (below_d hb2).size _)).trans hb3)⟩⟩
          · go_simp
            refine hK _ _ ?_
            clear hK K
            have hba : Below wr.heap.size wr (wr.alloc (.cells #[.string (tx x.lo), .string (tx x.hi), .bool x.il, .bool x.ih] 39)).drew := ((Below.refl _ _).alloc (Nat.le_refl _) _).drew
            obtain ⟨A2, c2', W2, hr2, hrow2, hb2⟩ := sp_copy (W := (wr.alloc (.cells #[.string (tx x.lo), .string (tx x.hi), .bool x.il, .bool x.ih] 39)).drew) (n := no) (c := co) ((HROW.out.r.below hba).mono hba.size) HFORM.out (by omega)
            refine wpAny_ready (rs := [1]) (by kernel_rfl) (by simp) ?_
            refine AllReady.cons rfl (fun K hK => ?_) AllReady.nil
            refine run_app (by rfl) _ _ _ _ (by rfl) _ _ _ _ (by rfl) (by rfl) (by rfl) hr2 ?_
            refine hK _ _ ?_
            clear hK K
            simp only [Act.put, List.getElem_toArray, List.getElem_cons_zero, List.getElem_cons_succ, List.setIfInBounds_toArray, List.set_cons_zero, List.set_cons_succ]
            obtain ⟨A3, c3', W3, hr3, hrow3, hb3⟩ := sp_push x hrow2 hb2.size (by omega) (Blk.below (w := (wr.alloc (.cells #[.string (tx x.lo), .string (tx x.hi), .bool x.il, .bool x.ih] 39)).drew) (Blk.new wr 39 #[.string (tx x.lo), .string (tx x.hi), .bool x.il, .bool x.ih]) hb2)
            refine wpAny_ready (rs := [7]) (by kernel_rfl) (by simp) ?_
            refine AllReady.cons rfl (fun K hK => ?_) AllReady.nil
            refine run_app (by rfl) _ _ _ _ (by rfl) _ _ _ _ (by rfl) (by rfl) (by rfl) hr3 ?_
            refine hK _ _ ?_
            clear hK K
            simp only [Act.put, List.getElem_toArray, List.getElem_cons_zero, List.getElem_cons_succ, List.setIfInBounds_toArray, List.set_cons_zero, List.set_cons_succ]
            refine wpAny_take (i := 8) (v := .slice A3 (no + 1) c3') rfl (by kernel_rfl) (by kernel_rfl) (by kernel_rfl) (fun _ _ _ h => h) (Or.inl ⟨by rfl, fun W => by go_simp⟩) ?_
            simp only [Act.put, List.getElem_toArray, List.getElem_cons_zero, List.getElem_cons_succ, List.setIfInBounds_toArray, List.set_cons_zero, List.set_cons_succ]
            refine wpAny_done (by kernel_rfl) ?_ _
            go_wp2_with fail
            go_meet
            exact ⟨A3, c3', rfl, Lib.hid ⟨SpRow.low hrow3 hba.size, hba.trans ((hb2.mono hba.size).trans (hb3.mono hba.size))⟩⟩
      case rest =>
      obtain ⟨A2, c2, rfl, hnx⟩ := hcut
      have HNX : Hid (SpRow w.heap.size wc A2 (no + 1) c2 (acc ++ [x])) := Lib.hid (SpRow.low hnx.out.1 HBEL.out.size)
      have HB2 : Hid (Below w.heap.size w wc) := Lib.hid (HBEL.out.trans (hnx.out.2.mono HBEL.out.size))
      have HR2 : Hid (SpRow w.heap.size wc Ao no co acc) := Lib.hid (HROW.out.below hnx.out.2)
      have HSRC2 : Hid (∀ W, Below wc.heap.size wc W → SpR B W (some ⟨g, o, none⟩) n l) := Lib.hid fun W hW => HSRC.out W (hnx.out.2.trans (hW.mono hnx.out.2.size))
      have HLS : Hid (∀ s ∈ acc ++ [x], s.lo.length ≤ 100 ∧ s.hi.length ≤ 100) := Lib.hid fun s hs => by
        rcases List.mem_append.1 hs with hs | hs
        · exact HL.out s (HACC.out s hs).1
        · rw [List.mem_singleton.1 hs]; exact ⟨HS1.out, HS2.out⟩
      have HLEN : Hid ((rangeL (acc ++ [x])).length ≤ 3000) := Lib.hid (by
        have := rangeL_len (acc ++ [x]) 100 HLS.out
        rw [List.length_append, List.length_singleton, HLA.out] at this
        have h3 : (no + 1) * (2 * 100 + 4) ≤ 12 * (2 * 100 + 4) := Nat.mul_le_mul_right _ (by omega)
        omega)
      clear hnx HROW HBEL HSRC HFORM
      go_wp2_with fail
      refine (rText_c A2 (no + 1) c2 (acc ++ [x]) _ _ (Nat.le_refl _) HNX.out.r (by omega) (fun s hs => by have := HLS.out s hs; omega) _ rfl).mono ?_
      rintro e3 w3 ⟨rfl, b3⟩
      have B3 := Lib.hid b3.out
      clear b3
      go_wp2_with fail
      refine (rParse_c (tx (rangeL (acc ++ [x]))) _ (by rw [tx_size]; exact HLEN.out) _ rfl).mono ?_
      rintro e4 w4 hp
      obtain ⟨b4, hp2⟩ := hp.out
      have B4 : Hid (Below wc.heap.size wc w4) := Lib.hid (B3.out.trans (b4.mono B3.out.size))
      clear hp b4
      obtain ⟨m0, m1, m2, m3⟩ := spr_at (HSRC2.out w4 B4.out) hkl HX.out
      obtain ⟨m, hm⟩ : ∃ m, mayB x = m := ⟨_, rfl⟩
      have HM := Lib.hid hm
      clear hm
      have h1k : x.lo.length ≤ 3000 := by have := HS1.out; omega
      have h2k : x.hi.length ≤ 3000 := by have := HS2.out; omega
      rcases hp2 with ⟨_, rfl⟩ | ⟨l4, A4, n4, c4, _, rfl, hrow4, hsh4, hn4⟩
      · cases m with
        | false =>
          go_wp2_with fail
          refine (rMay_c x _ h1k h2k false HM.out).mono ?_
          rintro e5 w5 ⟨rfl, b5⟩
          have B5 := Lib.hid (B4.out.trans (b5.out.mono B4.out.size))
          have HB5 := Lib.hid (HB2.out.trans (B5.out.mono HB2.out.size))
          have HR5 := Lib.hid (HR2.out.below B5.out)
          clear m0 m1 m2 m3
          go_wp2_with fail
          go_roundw
          case rel => exact ⟨k + 1, Ao, no, co, acc, by omega, by omega, by omega, rfl, by go_num, Lib.hid ⟨HR5.out, HACC.out, HB5.out⟩⟩
          case measure => simp [intOf]; omega
        | true =>
          go_wp2_with fail
          refine (rMay_c x _ h1k h2k true HM.out).mono ?_
          rintro e5 w5 ⟨rfl, b5⟩
          have B5 := Lib.hid (B4.out.trans (b5.out.mono B4.out.size))
          have HB5 := Lib.hid (HB2.out.trans (B5.out.mono HB2.out.size))
          have HR5 := Lib.hid (HR2.out.below B5.out)
          clear m0 m1 m2 m3
          go_wp2_with fail
          go_roundw
          case rel => exact ⟨k + 1, Ao, no, co, acc, by omega, by omega, by omega, rfl, by go_num, Lib.hid ⟨HR5.out, HACC.out, HB5.out⟩⟩
          case measure => simp [intOf]; omega
      · have HR4 := Lib.hid hrow4
        clear hrow4 hsh4
        cases m with
        | false =>
          go_wp2_with fail
          refine (rMay_c x _ h1k h2k false HM.out).mono ?_
          rintro e5 w5 ⟨rfl, b5⟩
          have B5 := Lib.hid (B4.out.trans (b5.out.mono B4.out.size))
          have HB5 := Lib.hid (HB2.out.trans (B5.out.mono HB2.out.size))
          have HR5 := Lib.hid (HR2.out.below B5.out)
          clear m0 m1 m2 m3
          go_wp2_with fail
          go_roundw
          case rel => exact ⟨k + 1, Ao, no, co, acc, by omega, by omega, by omega, rfl, by go_num, Lib.hid ⟨HR5.out, HACC.out, HB5.out⟩⟩
          case measure => simp [intOf]; omega
        | true =>
          obtain ⟨q, hq⟩ : ∃ q, decide (l4 = acc ++ [x]) = q := ⟨_, rfl⟩
          have HQ := Lib.hid hq
          clear hq
          go_wp2_with fail
          refine (rMay_c x _ h1k h2k true HM.out).mono ?_
          rintro e5 w5 ⟨rfl, b5⟩
          have B5 := Lib.hid (B4.out.trans (b5.out.mono B4.out.size))
          have R5 := Lib.hid (HR4.out.below b5.out)
          have N5 := Lib.hid (HNX.out.below B5.out)
          clear m0 m1 m2 m3
          go_wp2_with fail
          refine (SpPlain_c A4 A2 n4 (no + 1) c4 c2 l4 (acc ++ [x]) _ _ _ R5.out.r (Nat.le_refl _) N5.out.r (Nat.le_refl _) (by omega) (by omega) q HQ.out).mono ?_
          rintro e6 w6 ⟨rfl, b6⟩
          have B6 := Lib.hid (B5.out.trans (b6.out.mono B5.out.size))
          have HB5 := Lib.hid (HB2.out.trans (B6.out.mono HB2.out.size))
          have HR5 := Lib.hid (HR2.out.below B6.out)
          have N6 := Lib.hid (N5.out.below b6.out)
          cases q with
          | false =>
            go_wp2_with fail
            go_roundw
            case rel => exact ⟨k + 1, Ao, no, co, acc, by omega, by omega, by omega, rfl, by go_num, Lib.hid ⟨HR5.out, HACC.out, HB5.out⟩⟩
            case measure => simp [intOf]; omega
          | true =>
            go_wp2_with fail
            go_roundw
            case rel => exact ⟨k + 1, A2, no + 1, c2, acc ++ [x], by omega, by omega, by omega, rfl, by go_num, Lib.hid ⟨N6.out, fun s hs => by
              rcases List.mem_append.1 hs with hs | hs
              · exact HACC.out s hs
              · rw [List.mem_singleton.1 hs]; exact ⟨HXL.out, HM.out⟩, HB5.out⟩⟩
            case measure => simp [intOf]; omega
    · have hc : n ≤ k ∨ (k < n ∧ 12 ≤ k) := by omega
      rcases hc with hc | ⟨hc, hd⟩
      · have e1 : ¬ k < n := by omega
        go_wp2_with fail
        go_ret
        exact Lib.hid ⟨Ao, no, co, acc, rfl, hh.out.1, by omega, hh.out.2.1, hh.out.2.2⟩
      · have e1 : k < n := hc
        have e2 : ¬ k < 12 := by omega
        go_wp2_with fail
        go_ret
        exact Lib.hid ⟨Ao, no, co, acc, rfl, hh.out.1, by omega, hh.out.2.1, hh.out.2.2⟩
end Go.Proofs.YtbpcoiblddhnjaaDoor
