/-
  Layer 4: the contract of Right.
-/
import Derived.Test.YtkccockdnjjanaaMkStand
namespace Nwl
theorem rightB_nil : rightB [] = false := rfl
theorem rightB_many {ns : List Nd} (h : 2000 < ns.length) : rightB ns = false := by
  unfold rightB
  rw [decide_eq_false (p := ns.length ≤ 2000) (by omega)]
  simp
theorem rightB_bad {ns : List Nd} {k : Nat} (hk : k < ns.length) (h : nodeB ns k = false) : rightB ns = false := by
  unfold rightB rightTo
  rw [all_range_false hk h]
  simp
theorem rightB_all {ns : List Nd} (h0 : ns ≠ []) (h1 : ns.length ≤ 2000) (h : rightTo ns ns.length = true) : rightB ns = true := by
  unfold rightB
  rw [decide_eq_true h0, decide_eq_true h1, h]
  rfl
theorem nodeB_1 {ns : List Nd} {k : Nat} (hk : k < ns.length) (h : mayBeB ns[k] = false) : nodeB ns k = false := by
  unfold nodeB
  rw [nd_eq ns k hk, h]
  rfl
theorem nodeB_2 {ns : List Nd} {k : Nat} (hk : k < ns.length) (h : mayBeB ns[k] = true) : nodeB ns k = mayStandB ns k := by
  unfold nodeB
  rw [nd_eq ns k hk, h]
  rfl
end Nwl
namespace Go.Proofs.Ytkccockdnjjanaa
open Nwl
open Go.RowKit Go.Maps
set_option linter.unusedVariables false
theorem mayBe_b (B : Nat) (n : Nd) (A : Option Addr) (l c : Nat) (w : World) (r : Bool) (hrr : mayBeB n = r) (hr : RowR B w (.slice A l c) n.attrs.length 2 (attrCells n.attrs)) (hB : B ≤ w.heap.size) (hl : l = n.attrs.length) (hs : bulkN n ≤ 2000000) :
    Calls Try.prog 17 #[.agg #[.int .i64 n.parent, .string (tx n.name), .string (tx n.text), .slice A l c]] w fun e w' => e = .returned (.bool r) ∧ Below w.heap.size w w' := by
  subst hrr
  exact mayBe_c B n A l c w hr hB hl hs
theorem mayStand_b (B : Nat) (ns : List Nd) (A : Option Addr) (n c i : Nat) (w : World) (r : Bool) (hrr : mayStandB ns i = r) (hr : NodesR B w (.slice A n c) ns) (hB : B ≤ w.heap.size) (hn : n = ns.length) (hi : i < n) (hp : Par ns i) (hlen : n ≤ 1000000000000) :
    Calls Try.prog 18 #[.slice A n c, .int .i64 (i : Int)] w fun e w' => e = .returned (.bool r) ∧ Below w.heap.size w w' := by
  subst hrr
  exact mayStand_c B ns A n c i w hr hB hn hi hp hlen

set_option maxRecDepth 100000 in
set_option maxHeartbeats 2000000 in
theorem Right_c (B : Nat) (ns : List Nd) (A : Option Addr) (n c : Nat) (w : World) (hr : NodesR B w (.slice A n c) ns) (hB : B ≤ w.heap.size) (hn : n = ns.length) (hlen : n ≤ 1000000000000) (hsm : Small ns 2000000) :
    Calls Try.prog 9 #[.slice A n c] w fun e w' => e = .returned (.bool (rightB ns)) ∧ Below w.heap.size w w' := by
  have HR := Lib.hid hr
  have HN := Lib.hid hn
  have HS := Lib.hid hsm
  clear hr hsm
  by_cases h0 : n = 0
  · have HF : Hid (rightB ns = false) := Lib.hid (by rw [List.eq_nil_of_length_eq_zero (by omega : ns.length = 0)]; rfl)
    subst h0
    clear hn
    go_enter Try.func9, Try.ntmps9
    go_wp2_with fail
    refine wp_scope_again 0 (fun _ _ => False) (fun _ _ => 0) rfl (fun _ _ h => h.elim) ?_
    intro hpass
    go_wp2_with fail
    simp only [Exit.jump]
    go_ret
    exact ⟨ret_bool HF.out.symm, Below.refl _ _⟩
  by_cases h1 : 2000 < n
  · have HF : Hid (rightB ns = false) := Lib.hid (rightB_many (by omega))
    have hz : ((n : Int) == 0) = false := by rw [beq_eq_false_iff_ne]; omega
    clear hn
    go_enter Try.func9, Try.ntmps9
    go_wp2_with fail
    refine wp_scope_again 0 (fun _ _ => False) (fun _ _ => 0) rfl (fun _ _ h => h.elim) ?_
    intro hpass
    go_wp2_with fail
    simp only [Exit.jump]
    go_ret
    exact ⟨ret_bool HF.out.symm, Below.refl _ _⟩
  have hz : ((n : Int) == 0) = false := by rw [beq_eq_false_iff_ne]; omega
  have h2 : decide ((2000 : Int) < (n : Int)) = false := by rw [decide_eq_false_iff_not]; omega
  have h2' : n ≤ 2000 := by omega
  clear hn h1
  go_enter Try.func9, Try.ntmps9
  go_wp2_with fail
  refine wp_scope_again 0 (fun a' w' => ∃ (k : Nat) (u4 u5 u6 u7 u8 u9 u10 u11 u12 u13 u14 u15 u16 u17 u18 u19 u20 u21 u22 u23 u24 u25 u26 u27 u28 u29 : Value), a' = { tmps := #[.slice A n c, undef, .bool false, .int .i64 (k : Int), u4, u5, u6, u7, u8, u9, u10, u11, u12, u13, u14, u15, u16, u17, u18, u19, u20, u21, u22, u23, u24, u25, u26, u27, u28, u29], defers := [] } ∧ Hid (k ≤ n ∧ rightTo ns k = true ∧ Below w.heap.size w w')) (fun a' _ => n - (intOf (a'.tmps.getD 3 undef)).toNat) rfl ?_ ?_
  · rintro a' w' ⟨k, u4, u5, u6, u7, u8, u9, u10, u11, u12, u13, u14, u15, u16, u17, u18, u19, u20, u21, u22, u23, u24, u25, u26, u27, u28, u29, rfl, hh⟩
    have hk := hh.out.1
    have hws := hh.out.2.2.size
    by_cases hlt : k < n
    · have hkt : k < ns.length := by have := HN.out; omega
      obtain ⟨b, o, A2, l2, c2, hA, hbB, hl2, hra, e0, e1, e2, e3⟩ := (HR.out.below (hh.out.2.2.mono hB)).full k hkt
      subst hA
      rw [parAt_nat ns k hkt] at e0
      have hne : ((k : Int) == (n : Int)) = false := by rw [beq_eq_false_iff_ne]; omega
      have HRA := Lib.hid hra
      have HL2 := Lib.hid hl2
      have HSN : Hid (bulkN ns[k] ≤ 2000000) := Lib.hid (by have := HS.out k; rwa [nd_eq ns k hkt] at this)
      have HK := Lib.hid hkt
      cases hmb : mayBeB ns[k] with
      | false =>
        have HF : Hid (rightB ns = false) := Lib.hid (rightB_bad hkt (nodeB_1 hkt hmb))
        have HMB := Lib.hid hmb
        clear hmb hra hl2
        go_wp2_with fail
        refine (mayBe_b B ns[k] _ _ _ _ _ HMB.out HRA.out (by omega) HL2.out HSN.out).mono ?_
        rintro e w1 ⟨rfl, hb1⟩
        have HW : Hid (Below w.heap.size w w1) := Lib.hid (hh.out.2.2.trans (hb1.mono hws))
        clear hb1
        go_wp2_with fail
        simp only [Exit.jump]
        go_ret
        exact ⟨ret_bool HF.out.symm, HW.out⟩
      | true =>
        have HMB := Lib.hid hmb
        cases hms : mayStandB ns k with
        | false =>
          have HF : Hid (rightB ns = false) := Lib.hid (rightB_bad hkt (by rw [nodeB_2 hkt hmb, hms]))
          have HMS := Lib.hid hms
          clear hmb hra hl2 hms
          go_wp2_with fail
          refine (mayBe_b B ns[k] _ _ _ _ _ HMB.out HRA.out (by omega) HL2.out HSN.out).mono ?_
          rintro e w1 ⟨rfl, hb1⟩
          have HW : Hid (Below w.heap.size w w1) := Lib.hid (hh.out.2.2.trans (hb1.mono hws))
          have hws1 := HW.out.size
          clear hb1
          go_wp2_with fail
          refine (mayStand_b B ns _ _ _ k _ _ HMS.out (HR.out.below (HW.out.mono hB)) (by omega) HN.out hlt (right_par hh.out.2.1) hlen).mono ?_
          rintro e w2 ⟨rfl, hb2⟩
          have HW2 : Hid (Below w.heap.size w w2) := Lib.hid (HW.out.trans (hb2.mono hws1))
          clear hb2
          go_wp2_with fail
          simp only [Exit.jump]
          go_ret
          exact ⟨ret_bool HF.out.symm, HW2.out⟩
        | true =>
          have HF : Hid (rightTo ns (k + 1) = true) := Lib.hid (rightTo_next hh.out.2.1 (by rw [nodeB_2 hkt hmb, hms]))
          have HMS := Lib.hid hms
          clear hmb hra hl2 hms
          go_wp2_with fail
          refine (mayBe_b B ns[k] _ _ _ _ _ HMB.out HRA.out (by omega) HL2.out HSN.out).mono ?_
          rintro e w1 ⟨rfl, hb1⟩
          have HW : Hid (Below w.heap.size w w1) := Lib.hid (hh.out.2.2.trans (hb1.mono hws))
          have hws1 := HW.out.size
          clear hb1
          go_wp2_with fail
          refine (mayStand_b B ns _ _ _ k _ _ HMS.out (HR.out.below (HW.out.mono hB)) (by omega) HN.out hlt (right_par hh.out.2.1) hlen).mono ?_
          rintro e w2 ⟨rfl, hb2⟩
          have HW2 : Hid (Below w.heap.size w w2) := Lib.hid (HW.out.trans (hb2.mono hws1))
          clear hb2
          go_wp2_with fail
          go_step3
          refine ⟨rfl, ⟨k + 1, _, _, _, _, _, _, _, _, _, _, _, _, _, _, _, _, _, _, _, _, _, _, _, _, _, _, rfl, hlt, HF.out, HW2.out⟩, ?_⟩
          simp [intOf]
          omega
    · obtain rfl : k = n := by omega
      have HF : Hid (rightB ns = true) := Lib.hid (rightB_all (fun e => by rw [e] at HN; exact h0 HN.out) (by have := HN.out; omega) (by have := hh.out.2.1; rwa [HN.out] at this))
      go_wp2_with fail
      simp only [Exit.jump]
      go_ret
      exact ⟨ret_bool HF.out.symm, hh.out.2.2⟩
  · intro hpass
    go_wp2_with fail
    go_step3
    rename_i hK
    exact hK _ _ (hpass.out _ _ ⟨0, _, _, _, _, _, _, _, _, _, _, _, _, _, _, _, _, _, _, _, _, _, _, _, _, _, _, rfl, Nat.zero_le _, rfl, Below.refl _ _⟩)

end Go.Proofs.Ytkccockdnjjanaa
