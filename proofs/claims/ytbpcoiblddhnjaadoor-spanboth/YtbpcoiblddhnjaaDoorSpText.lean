/-
  Contracts of span.spanText and span.Text.
-/
import Derived.Test.YtbpcoiblddhnjaaDoorSpMem
import Derived.Test.YtbpcoiblddhnjaaDoorGnByte
namespace Nwl
open Go
theorem rangeL_snoc (l : List Sp) (s : Sp) (h : l ≠ []) : rangeL (l ++ [s]) = rangeL l ++ 44 :: spanL s := by
  unfold rangeL rangeT
  rw [List.flatMap_append, List.drop_append_of_le_length]
  · simp
  · cases l with
    | nil => exact absurd rfl h
    | cons a l => simp [List.flatMap_cons]
theorem rangeL_one (s : Sp) : rangeL [s] = spanL s := by simp [rangeL, rangeT]
theorem spanL_len (s : Sp) : (spanL s).length ≤ s.lo.length + s.hi.length + 3 := by
  unfold spanL
  split
  · simp
    omega
  · cases s.il <;> cases s.ih <;> simp <;> omega
theorem rangeT_len : ∀ (l : List Sp) (k : Nat), (∀ s ∈ l, s.lo.length ≤ k ∧ s.hi.length ≤ k) → (rangeT l).length ≤ l.length * (2 * k + 4)
  | [], k, _ => by simp [rangeT]
  | s :: l, k, h => by
    have ih := rangeT_len l k fun x hx => h x (List.mem_cons_of_mem _ hx)
    have h1 := spanL_len s
    have h2 := h s List.mem_cons_self
    have e : (rangeT (s :: l)).length = 1 + (spanL s).length + (rangeT l).length := by
      unfold rangeT
      rw [List.flatMap_cons, List.length_append, List.length_cons]; omega
    rw [e, List.length_cons, Nat.succ_mul]
    omega
theorem rangeL_len (l : List Sp) (k : Nat) (h : ∀ s ∈ l, s.lo.length ≤ k ∧ s.hi.length ≤ k) : (rangeL l).length ≤ l.length * (2 * k + 4) := by
  have := rangeT_len l k h
  unfold rangeL
  rw [List.length_drop]
  omega
theorem any_at (c : UInt8) (hc : c = 93 ∨ c = 41) (R : List UInt8) : ∀ A : List UInt8, (∀ a ∈ A, a ≠ 93 ∧ a ≠ 41) → Lib.indexAny (A ++ c :: R) [93, 41] = A.length
  | [], _ => by
    rw [List.nil_append, Lib.indexAny, if_pos (by rcases hc with rfl | rfl <;> decide)]; rfl
  | a :: A, h => by
    have ih := any_at c hc R A fun x hx => h x (List.mem_cons_of_mem _ hx)
    have ha := h a List.mem_cons_self
    have hn : List.contains ([93, 41] : List UInt8) a = false := by
      rw [List.contains_cons, List.contains_cons]
      simp [ha.1, ha.2]
    rw [List.cons_append, Lib.indexAny, hn, ih, List.length_cons]
    have : ((A.length : Int) == -1) = false := by rw [beq_eq_false_iff_ne]; omega
    rw [this]
    simp
end Nwl
namespace Go.Proofs.YtbpcoiblddhnjaaDoor
open Nwl
open Go.RowKit Go.Maps
set_option linter.unusedVariables false

set_option maxRecDepth 100000 in
set_option maxHeartbeats 2000000 in
theorem spanText_w (a b : ByteArray) (p q : Bool) (w : World) (ha : a.size ≤ 1000000) (hb : b.size ≤ 1000000) (r : ByteArray) (hr : spanL ⟨bs a, bs b, p, q⟩ = bs r) :
    Calls Tryd.prog 29 #[.agg #[.string a, .string b, .bool p, .bool q]] w fun e w' => e = .returned (.string r) ∧ Hid (Below w.heap.size w w') := by
  have B0 : Hid (Below w.heap.size w (w.alloc (.cells #[.string a, .string b, .bool p, .bool q] 39))) := Lib.hid ((Below.refl _ _).alloc (Nat.le_refl _) _)
  obtain ⟨k0, k1, k2, k3⟩ := box4 w (.string a) (.string b) (.bool p) (.bool q)
  obtain ⟨d, hd⟩ : ∃ d, (a.toList == b.toList) = d := ⟨_, rfl⟩
  have hde : (bs a = bs b) ↔ d = true := by
    rw [← hd, beq_iff_eq, toList_bs, toList_bs]
  have hne : ¬ (bs a = bs b ∧ p = true ∧ q = true) → spanL ⟨bs a, bs b, p, q⟩ = (if p then [91] else [40]) ++ bs a ++ [44] ++ bs b ++ (if q then [93] else [41]) := fun h => by
    unfold spanL; rw [if_neg h]
  have z1 : ¬ 9223372036854775807 < (⟨#[91]⟩ : ByteArray).size + a.size := by
    show ¬ 9223372036854775807 < 1 + a.size
    omega
  have z2 : ¬ 9223372036854775807 < (⟨#[91]⟩ ++ a : ByteArray).size + (⟨#[93]⟩ : ByteArray).size := by
    rw [ByteArray.size_append]
    show ¬ 9223372036854775807 < 1 + a.size + 1
    omega
  have z3 : ¬ 9223372036854775807 < (⟨#[40]⟩ : ByteArray).size + a.size := by
    show ¬ 9223372036854775807 < 1 + a.size
    omega
  have y1 : ¬ 9223372036854775807 < (⟨#[91]⟩ ++ a : ByteArray).size + (⟨#[44]⟩ : ByteArray).size := by
    rw [ByteArray.size_append]
    show ¬ 9223372036854775807 < 1 + a.size + 1
    omega
  have y2 : ¬ 9223372036854775807 < (⟨#[40]⟩ ++ a : ByteArray).size + (⟨#[44]⟩ : ByteArray).size := by
    rw [ByteArray.size_append]
    show ¬ 9223372036854775807 < 1 + a.size + 1
    omega
  have y3 : ¬ 9223372036854775807 < (⟨#[91]⟩ ++ a ++ ⟨#[44]⟩ : ByteArray).size + b.size := by
    rw [ByteArray.size_append, ByteArray.size_append]
    show ¬ 9223372036854775807 < 1 + a.size + 1 + b.size
    omega
  have y4 : ¬ 9223372036854775807 < (⟨#[40]⟩ ++ a ++ ⟨#[44]⟩ : ByteArray).size + b.size := by
    rw [ByteArray.size_append, ByteArray.size_append]
    show ¬ 9223372036854775807 < 1 + a.size + 1 + b.size
    omega
  have y5 : ∀ c : UInt8, ¬ 9223372036854775807 < (⟨#[91]⟩ ++ a ++ ⟨#[44]⟩ ++ b : ByteArray).size + (⟨#[c]⟩ : ByteArray).size := fun c => by
    rw [ByteArray.size_append, ByteArray.size_append, ByteArray.size_append]
    show ¬ 9223372036854775807 < 1 + a.size + 1 + b.size + 1
    omega
  have y6 : ∀ c : UInt8, ¬ 9223372036854775807 < (⟨#[40]⟩ ++ a ++ ⟨#[44]⟩ ++ b : ByteArray).size + (⟨#[c]⟩ : ByteArray).size := fun c => by
    rw [ByteArray.size_append, ByteArray.size_append, ByteArray.size_append]
    show ¬ 9223372036854775807 < 1 + a.size + 1 + b.size + 1
    omega
  have y51 := y5 93
  have y52 := y5 41
  have y61 := y6 93
  have y62 := y6 41
  have HE : Hid (∀ x : ByteArray, bs x = spanL ⟨bs a, bs b, p, q⟩ → x = r) := Lib.hid fun x h => bs_inj (h.trans hr)
  have HNE := Lib.hid hne
  have HDE := Lib.hid hde
  clear hr hne hde y5 y6
  cases d with
  | false =>
    cases p <;> cases q
    all_goals (
      go_enter Tryd.func29, Tryd.ntmps29
      go_wp2_with fail
      go_ret
      refine ⟨ret_str (HE.out _ ?_), B0⟩
      rw [HNE.out (by simp [HDE.out])]
      simp [bs_append]
      rfl)
  | true =>
    cases p <;> cases q
    all_goals (
      go_enter Tryd.func29, Tryd.ntmps29
      go_wp2_with fail
      go_ret
      refine ⟨ret_str (HE.out _ ?_), B0⟩
      first
        | (rw [HNE.out (by simp)]; simp [bs_append]; rfl)
        | (unfold spanL; rw [if_pos ⟨HDE.out.2 (by first | exact rfl | trivial), rfl, rfl⟩]; simp [bs_append]; rfl))

theorem spanText_c (s : Sp) (w : World) (ha : s.lo.length ≤ 1000000) (hb : s.hi.length ≤ 1000000) :
    Calls Tryd.prog 29 #[spV s] w fun e w' => e = .returned (.string (tx (spanL s))) ∧ Hid (Below w.heap.size w w') :=
  spanText_w (tx s.lo) (tx s.hi) s.il s.ih w (by rw [tx_size]; exact ha) (by rw [tx_size]; exact hb) _ (by rw [bs_tx, bs_tx, bs_tx])

theorem spr_at {B g o n : Nat} {w : World} {l : List Sp} {k : Nat} {x : Sp} (h : SpR B w (some ⟨g, o, none⟩) n l) (hk : k < l.length) (hx : l[k] = x) : w.cell? ⟨g, o + k * 4, none⟩ = some (.string (tx x.lo)) ∧ w.cell? ⟨g, o + k * 4 + 1, none⟩ = some (.string (tx x.hi)) ∧ w.cell? ⟨g, o + k * 4 + 2, none⟩ = some (.bool x.il) ∧ w.cell? ⟨g, o + k * 4 + 3, none⟩ = some (.bool x.ih) := by
  obtain ⟨g', o', he, hg, c0, c1, c2, c3⟩ := h.2 k hk
  injection he with he
  injection he with e1 e2
  subst e1 e2
  rw [hx] at c0 c1 c2 c3
  exact ⟨c0, c1, c2, c3⟩

/-- where Text stands -/
def TxAt (w : World) (l : List Sp) (k : Nat) (w' : World) : Prop := k ≤ l.length ∧ Bld w.heap.size w.heap.size (rangeL (l.take k)) w' ∧ Below w.heap.size w w'

set_option maxRecDepth 100000 in
set_option maxHeartbeats 4000000 in
theorem Text_c (A : Option Addr) (n c : Nat) (l : List Sp) (w : World) (B : Nat) (hB : B ≤ w.heap.size) (h : SpR B w A n l) (hn : n ≤ 100000) (hl : SpShort l) (r : List UInt8) (hr : rangeL l = r) :
    Calls Tryd.prog 15 #[.slice A n c] w fun e w' => e = .returned (.string (tx r)) ∧ Hid (Below w.heap.size w w') := by
  have H := Lib.hid h
  have HL := Lib.hid hl
  have HR := Lib.hid hr
  have HN : Hid (n = l.length) := Lib.hid h.1
  have HBB := Lib.hid hB
  have HLEN : Hid (∀ k, (rangeL (l.take k)).length ≤ 1000000000) := Lib.hid fun k => by
    have := rangeL_len (l.take k) 1000 fun x hx => hl x (List.mem_of_mem_take hx)
    have h2 : (l.take k).length ≤ 100000 := by rw [List.length_take, ← h.1]; omega
    have h3 : (l.take k).length * (2 * 1000 + 4) ≤ 100000 * (2 * 1000 + 4) := Nat.mul_le_mul_right _ h2
    omega
  clear h hl hr hB
  go_enter Tryd.func15, Tryd.ntmps15
  go_wp2_with fail
  refine wp_scope_again 0 (fun a' w' => ∃ (k : Nat) (u5 u6 u7 u8 u9 u10 u11 u12 u13 u14 u15 u16 u17 u18 u19 u20 : Value), a' = { tmps := #[.slice A n c, undef, .string ⟨#[]⟩, .pointer (some ⟨w.heap.size, 0, none⟩), .int .i64 (k : Int), u5, u6, u7, u8, u9, u10, u11, u12, u13, u14, u15, u16, u17, u18, u19, u20], defers := [] } ∧ Hid (TxAt w l k w')) (fun a' _ => n - (intOf (a'.tmps.getD 4 undef)).toNat) rfl ?_ ?_
  · rintro a' w1 ⟨k, u5, u6, u7, u8, u9, u10, u11, u12, u13, u14, u15, u16, u17, u18, u19, u20, rfl, hh⟩
    have hbs := hh.out.2.2.size
    by_cases hlt : k < n
    · have hne : ((k : Int) == (n : Int)) = false := by rw [beq_eq_false_iff_ne]; omega
      have hkl : k < l.length := by have := HN.out; omega
      obtain ⟨g, o, rfl, hg, c0, c1, c2, c3⟩ := (H.out.below (hh.out.2.2.mono HBB.out)).2 k hkl
      obtain ⟨x, hx⟩ : ∃ x, l[k] = x := ⟨_, rfl⟩
      rw [hx] at c0 c1 c2 c3
      have hsx := HL.out x (by rw [← hx]; exact List.getElem_mem hkl)
      obtain ⟨hs1, hs2⟩ := hsx
      have HX := Lib.hid hx
      have HS1 : Hid (x.lo.length ≤ 1000000) := Lib.hid (by omega)
      have HS2 : Hid (x.hi.length ≤ 1000000) := Lib.hid (by omega)
      have HSL : Hid ((spanL x).length ≤ 3000000) := Lib.hid (by have := spanL_len x; omega)
      have HB := Lib.hid hh.out.2.1
      have HW := Lib.hid hh.out.2.2
      have hk1 : IntKind.i64.wrap ((k : Int) + 1) = (k : Int) + 1 := by
        simp [IntKind.wrap, IntKind.bits, IntKind.signed]
        omega
      clear hh hx hs1 hs2
      have hlen := HLEN.out k
      rcases Nat.eq_zero_or_pos k with h0 | h0
      · have hz : ¬ 0 < k := by omega
        have HN0 : Hid (rangeL (l.take (k + 1)) = rangeL (l.take k) ++ spanL x) := Lib.hid (by
          rw [← List.take_append_getElem hkl, HX.out, h0, List.take_zero, List.nil_append, rangeL_one]; rfl)
        have H0 := Lib.hid h0
        clear h0
        go_wp2_with (go_at_call 29; refine (spanText_c x _ HS1.out HS2.out).mono ?_; rintro e w2 ⟨rfl, b2⟩)
        have HB2 := Lib.hid (HB.out.below b2.out)
        have HW2 := Lib.hid (HW.out.trans (b2.out.mono HW.out.size))
        refine (WriteString_c _ _ _ _ _ HB2.out (by rw [tx_size]; have := HSL.out; omega) HW2.out.size).mono ?_
        rintro e w3 ⟨rfl, hb3, hw3⟩
        have HNX : Hid (TxAt w l (k + 1) w3) := Lib.hid ⟨hkl, by rw [HN0.out]; rwa [bs_tx] at hb3, HW2.out.trans hw3⟩
        clear hb3 hw3
        go_wp2_with fail
        go_step3
        refine ⟨rfl, ⟨k + 1, _, _, _, _, _, _, _, _, _, _, _, _, _, _, _, _, rfl, HNX⟩, ?_⟩
        simp [intOf]
        omega
      · have HN1 : Hid (rangeL (l.take (k + 1)) = rangeL (l.take k) ++ [44] ++ spanL x) := Lib.hid (by
          rw [← List.take_append_getElem hkl, HX.out, rangeL_snoc _ _ (by
            intro e
            rw [List.take_eq_nil_iff] at e
            rcases e with e | e
            · omega
            · rw [e] at hkl; simp at hkl)]
          simp)
        go_wp2_with fail
        refine (WriteByte_c _ _ _ 44 _ HB.out (by omega) HW.out.size).mono ?_
        rintro e w2 ⟨rfl, hb2, hw2⟩
        have HB2 := Lib.hid hb2
        have HW2 := Lib.hid (HW.out.trans hw2)
        obtain ⟨d0, d1, d2, d3⟩ := spr_at (H.out.below (HW2.out.mono HBB.out)) hkl HX.out
        clear hb2 hw2 c0 c1 c2 c3
        go_wp2_with (go_at_call 29; refine (spanText_c x _ HS1.out HS2.out).mono ?_; rintro e w3 ⟨rfl, b3⟩)
        have HB3 := Lib.hid (HB2.out.below b3.out)
        have HW3 := Lib.hid (HW2.out.trans (b3.out.mono HW2.out.size))
        have hsl := HSL.out
        refine (WriteString_c _ _ _ _ _ HB3.out (by rw [tx_size, List.length_append, List.length_singleton]; omega) HW3.out.size).mono ?_
        rintro e w4 ⟨rfl, hb4, hw4⟩
        have HNX : Hid (TxAt w l (k + 1) w4) := Lib.hid ⟨hkl, by rw [HN1.out]; rwa [bs_tx] at hb4, HW3.out.trans hw4⟩
        clear hb4 hw4
        go_wp2_with fail
        go_step3
        refine ⟨rfl, ⟨k + 1, _, _, _, _, _, _, _, _, _, _, _, _, _, _, _, _, rfl, HNX⟩, ?_⟩
        simp [intOf]
        omega
    · obtain rfl : k = n := by have := hh.out.1; have := HN.out; omega
      have HF : Hid (rangeL (l.take k) = r) := Lib.hid (by
        rw [← HR.out, List.take_of_length_le (by have := HN.out; omega)])
      have HB := Lib.hid hh.out.2.1
      have HW := Lib.hid hh.out.2.2
      clear hh
      go_wp2_with fail
      refine (String_c _ _ _ _ HB.out hbs).mono ?_
      rintro e w2 ⟨rfl, hw2⟩
      have HW2 : Hid (Below w.heap.size w w2) := Lib.hid (HW.out.trans hw2)
      clear hw2
      go_wp2_with fail
      simp only [Exit.jump]
      go_ret
      exact ⟨ret_str (by rw [HF.out]), HW2⟩
  · intro hpass
    go_wp2_with fail
    go_step3
    rename_i hK
    exact hK _ _ (hpass.out _ _ ⟨0, _, _, _, _, _, _, _, _, _, _, _, _, _, _, _, _, rfl, Lib.hid ⟨Nat.zero_le _, Lib.IsBuilderF.of (Lib.fresh_isBuilder _ _ w), (Below.refl _ _).alloc (Nat.le_refl _) _⟩⟩)
end Go.Proofs.YtbpcoiblddhnjaaDoor
