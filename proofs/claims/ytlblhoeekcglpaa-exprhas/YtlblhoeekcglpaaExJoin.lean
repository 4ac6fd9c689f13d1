/-
  Contracts of expr.Join, and of the document's Has, begins, Join.
-/
import Derived.Test.YtlblhoeekcglpaaExSplit
import Derived.Deep.RegionHeld3
namespace Nwl
theorem joinE_snoc {l : List Pc} {k : Nat} (h : k < l.length) : joinE (l.take (k + 1)) = joinE (l.take k) ++ writE l[k] := by
  have h1 : ∀ (a : List Pc) (p : Pc), joinE (a ++ [p]) = joinE a ++ writE p := fun a p => by simp [joinE]
  rw [← List.take_append_getElem h]
  exact h1 _ _
theorem joinE_app (a b : List Pc) : joinE (a ++ b) = joinE a ++ joinE b := by simp [joinE]
theorem joinE_le (l : List Pc) (k : Nat) : (joinE (l.take k)).length ≤ (joinE l).length := by
  have := joinE_app (l.take k) (l.drop k)
  rw [List.take_append_drop] at this
  rw [this, List.length_append]
  omega
theorem wr_le (p : Pc) : p.t.length ≤ (writE p).length := by
  unfold writE
  split
  · simp; omega
  · exact Nat.le_refl _
theorem wr_in {l : List Pc} {k : Nat} (h : k < l.length) : (writE l[k]).length ≤ (joinE l).length := by
  have := joinE_le l (k + 1)
  rw [joinE_snoc h, List.length_append] at this
  omega
theorem begin_at (l : List UInt8) (k : Nat) (h : k + 1 < l.length) : beginB (l.drop k) = (l[k] == 36 && l[k + 1] == 123) := by
  rw [List.drop_eq_getElem_cons (by omega), List.drop_eq_getElem_cons h]; rfl
theorem begin_short {l : List UInt8} {k : Nat} (h : ¬ k + 1 < l.length) : beginB (l.drop k) = false := by
  cases e : beginB (l.drop k) with
  | false => rfl
  | true =>
    obtain ⟨r, hr⟩ := (beginB_iff _).1 e
    have := congrArg List.length hr
    simp at this
    omega
end Nwl
namespace Go.Proofs.Ytlblhoeekcglpaa
open Nwl
open Go.RowKit Go.Maps
set_option linter.unusedVariables false
set_option linter.unusedSimpArgs false
def JnAt (w : World) (l : List Pc) (k : Nat) (w' : World) : Prop := k ≤ l.length ∧ Bld w.heap.size w.heap.size (joinE (l.take k)) w' ∧ Below w.heap.size w w'

set_option maxRecDepth 100000 in
set_option maxHeartbeats 4000000 in
theorem EJoin_c (A : Option Addr) (n c : Nat) (l : List Pc) (w : World) (B : Nat) (hB : B ≤ w.heap.size) (h : PcR B w A n l) (hn : n ≤ 100000) (hl : (joinE l).length ≤ 140737488355328) (r : List UInt8) (hr : joinE l = r) :
    Calls Try.prog 12 #[.slice A n c] w fun e w' => e = .returned (.string (tx r)) ∧ Hid (Below w.heap.size w w') := by
  have H := Lib.hid h
  have HL := Lib.hid hl
  have HR := Lib.hid hr
  have HN : Hid (n = l.length) := Lib.hid h.1
  have HBB := Lib.hid hB
  clear h hl hr hB
  go_enter Try.func12, Try.ntmps12
  go_wp2_with fail
  refine wp_scope_again 0 (fun a' w' => ∃ (k : Nat) (u5 u6 u7 u8 u9 u10 u11 u12 u13 u14 u15 u16 u17 : Value), a' = { tmps := #[.slice A n c, undef, .string ⟨#[]⟩, .pointer (some ⟨w.heap.size, 0, none⟩), .int .i64 (k : Int), u5, u6, u7, u8, u9, u10, u11, u12, u13, u14, u15, u16, u17], defers := [] } ∧ Hid (JnAt w l k w')) (fun a' _ => n - (intOf (a'.tmps.getD 4 undef)).toNat) rfl ?_ ?_
  · rintro a' w1 ⟨k, u5, u6, u7, u8, u9, u10, u11, u12, u13, u14, u15, u16, u17, rfl, hh⟩
    have hbs := hh.out.2.2.size
    by_cases hlt : k < n
    · have hne : ((k : Int) == (n : Int)) = false := by rw [beq_eq_false_iff_ne]; omega
      have hkl : k < l.length := by have := HN.out; omega
      obtain ⟨g, o, rfl, hg, c0, c1⟩ := (H.out.below (hh.out.2.2.mono HBB.out)).2 k hkl
      obtain ⟨x, hx⟩ : ∃ x, l[k] = x := ⟨_, rfl⟩
      rw [hx] at c0 c1
      obtain ⟨nm, t⟩ := x
      dsimp only at c0 c1
      have HX := Lib.hid hx
      have HW0 : Hid ((joinE (l.take (k + 1))).length ≤ 140737488355328) := Lib.hid (Nat.le_trans (joinE_le l (k + 1)) HL.out)
      have HJ : Hid (joinE (l.take (k + 1)) = joinE (l.take k) ++ writE ⟨nm, t⟩) := Lib.hid (by rw [joinE_snoc hkl, hx])
      have HT : Hid (t.length ≤ 1000000000000000) := Lib.hid (by
        have h1 := wr_le ⟨nm, t⟩
        have h2 := HW0.out
        rw [HJ.out, List.length_append] at h2
        dsimp only at h1
        omega)
      have HB := Lib.hid hh.out.2.1
      have HW := Lib.hid hh.out.2.2
      have hk1 : IntKind.i64.wrap ((k : Int) + 1) = (k : Int) + 1 := by
        simp [IntKind.wrap, IntKind.bits, IntKind.signed]
        omega
      clear hh hx
      go_wp2_with (go_at_call 24; refine (written_c nm t _ HT.out).mono ?_; rintro e w2 ⟨rfl, b2⟩)
      have HB2 := Lib.hid (HB.out.below b2.out)
      have HW2 := Lib.hid (HW.out.trans (b2.out.mono HW.out.size))
      refine (WriteString_c _ _ _ _ _ HB2.out (by rw [tx_size, ← List.length_append, ← HJ.out]; exact HW0.out) HW2.out.size).mono ?_
      rintro e w3 ⟨rfl, hb3, hw3⟩
      have HNX : Hid (JnAt w l (k + 1) w3) := Lib.hid ⟨hkl, by rw [HJ.out]; rwa [bs_tx] at hb3, HW2.out.trans hw3⟩
      clear hb3 hw3
      go_wp2_with fail
      go_step3
      refine ⟨rfl, ⟨k + 1, _, _, _, _, _, _, _, _, _, _, _, _, _, rfl, HNX⟩, ?_⟩
      simp [intOf]
      omega
    · obtain rfl : k = n := by have := hh.out.1; have := HN.out; omega
      have HF : Hid (joinE (l.take k) = r) := Lib.hid (by
        rw [← HR.out, List.take_of_length_le (by have := HN.out; omega)])
      have HB := Lib.hid hh.out.2.1
      have HW := Lib.hid hh.out.2.2
      clear hh
      go_wp2_with fail
      refine (String_c _ _ _ _ HB.out hbs).mono ?_
      rintro e w2 ⟨rfl, hw2⟩
      have HW2 : Hid (Below w.heap.size w w2) := Lib.hid (HW.out.trans hw2)
      clear hw2
      go_wp2_with fail
      simp only [Exit.jump]
      go_ret
      exact ⟨ret_str (by rw [HF.out]), HW2⟩
  · intro hpass
    go_wp2_with fail
    go_step3
    rename_i hK
    exact hK _ _ (hpass.out _ _ ⟨0, _, _, _, _, _, _, _, _, _, _, _, _, _, rfl, Lib.hid ⟨Nat.zero_le _, Lib.IsBuilderF.of (Lib.fresh_isBuilder _ _ w), (Below.refl _ _).alloc (Nat.le_refl _) _⟩⟩)

set_option maxRecDepth 100000 in
set_option maxHeartbeats 4000000 in
theorem rbegins_c (l : List UInt8) (k : Nat) (w : World) (hl : l.length ≤ 1000000000000000) (hk : k ≤ l.length) (r : Bool) (hr : beginB (l.drop k) = r) :
    Calls Try.prog 19 #[.string (tx l), .int .i64 k] w fun e w' => e = .returned (.bool r) ∧ w = w' := by
  have hw1 : IntKind.i64.wrap ((k : Int) + 1) = (k : Int) + 1 := by
    simp [IntKind.wrap, IntKind.bits, IntKind.signed]
    omega
  by_cases h : k + 1 < l.length
  · have hs : (tx l).size = l.length := tx_size l
    have i1 : k < (tx l).size := by omega
    have i2 : k + 1 < (tx l).size := by omega
    have g1 : (tx l)[k]'i1 = l[k]'(by omega) := rfl
    have g2 : (tx l)[k + 1]'i2 = l[k + 1]'h := rfl
    rw [begin_at l k h, ← g1, ← g2] at hr
    obtain ⟨a, ha⟩ : ∃ a, (tx l)[k]'i1 = a := ⟨_, rfl⟩
    obtain ⟨b, hb⟩ : ∃ b, (tx l)[k + 1]'i2 = b := ⟨_, rfl⟩
    rw [ha, hb] at hr
    have j0 : ((k : Int) + 1).toNat = k + 1 := by omega
    have j1 : (k : Int) + 1 < ((tx l).size : Int) := by omega
    have j2 : 0 ≤ (k : Int) + 1 := by omega
    have u1 : ((a.toNat : Int) == 36) = (a == 36) := by
      rw [Bool.eq_iff_iff, beq_iff_eq, beq_iff_eq, ← UInt8.toNat_inj]
      exact ⟨fun h => by have : a.toNat = 36 := by omega
                         exact this, fun h => by have : a.toNat = 36 := h
                                                 omega⟩
    have u2 : ((b.toNat : Int) == 123) = (b == 123) := by
      rw [Bool.eq_iff_iff, beq_iff_eq, beq_iff_eq, ← UInt8.toNat_inj]
      exact ⟨fun h => by have : b.toNat = 123 := by omega
                         exact this, fun h => by have : b.toNat = 123 := h
                                                 omega⟩
    obtain ⟨p, hp⟩ : ∃ p, (a == 36) = p := ⟨_, rfl⟩
    obtain ⟨q, hq⟩ : ∃ q, (b == 123) = q := ⟨_, rfl⟩
    rw [hp] at u1 hr
    rw [hq] at u2 hr
    have HR := Lib.hid hr
    clear hr hp hq g1 g2 hk
    cases p <;> cases q
    all_goals
      go_enter Try.func19, Try.ntmps19
      go_wp2_with fail
      go_ret
      exact ⟨ret_bool HR.out, rfl⟩
  · have HR : Hid (false = r) := Lib.hid (by rw [← hr, begin_short h])
    have hs : (tx l).size = l.length := tx_size l
    have j1 : ¬ (k : Int) + 1 < ((tx l).size : Int) := by omega
    clear hr
    go_enter Try.func19, Try.ntmps19
    go_wp2_with fail
    go_ret
    exact ⟨ret_bool HR.out, rfl⟩
end Go.Proofs.Ytlblhoeekcglpaa
