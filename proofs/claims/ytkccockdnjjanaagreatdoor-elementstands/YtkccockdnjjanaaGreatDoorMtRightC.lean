/-
  The document's Right, of whatever nodes.
-/
import Derived.Test.YtkccockdnjjanaaGreatDoorMtRightW
import Derived.Test.YtkccockdnjjanaaGreatDoorMtSize
namespace Nwl
open Go
/-- nothing in a node is beyond a billion -/
def Each (ns : List Nd) : Prop := ∀ x ∈ ns, x.name.length ≤ 1000000000 ∧ x.text.length ≤ 1000000000 ∧ x.attrs.length ≤ 1000000000 ∧ ∀ a ∈ x.attrs, a.1.length ≤ 1000000000 ∧ a.2.length ≤ 1000000000
theorem small_each {ns : List Nd} (h : Small ns 2000000) : Each ns := by
  intro x hx
  obtain ⟨i, hi, rfl⟩ := List.mem_iff_getElem.1 hx
  have hb := h i
  rw [nd_eq ns i hi] at hb
  unfold bulkN at hb
  have h1 := nlen_sum (ns[i]).attrs
  refine ⟨by omega, by omega, by omega, fun a ha => ?_⟩
  have hm := List.mem_map_of_mem (f := fun a : List UInt8 × List UInt8 => a.1.length + a.2.length + 1) ha
  have := nmem_sum hm
  omega
theorem first_no {ns : List Nd} (h : ¬ (parAt ns (0 : Nat) = -1 ∧ textB (nd ns 0) = false)) (h0 : 0 < ns.length) : rightB ns = false := by
  refine rB_bad (k := 0) h0 ?_
  unfold nodeB
  rw [ms_zero]
  cases hb : (decide (parAt ns (0 : Nat) = -1) && !textB (nd ns 0)) with
  | false => rw [Bool.and_false]
  | true =>
    rw [Bool.and_eq_true, decide_eq_true_eq, Bool.not_eq_true'] at hb
    exact absurd hb h
end Nwl
namespace Go.Proofs.YtkccockdnjjanaaGreatDoor
open Nwl
open Go.RowKit Go.Maps
set_option linter.unusedVariables false
set_option linter.unusedSimpArgs false

set_option maxRecDepth 100000 in
set_option maxHeartbeats 4000000 in
theorem rRight_e (ns : List Nd) (A : Option Addr) (n c : Nat) (w : World) (h : NdRd w.heap.size w A n ns) (hn : n ≤ 1000000000) (hsm : Each ns) (r : Bool) (hr : rightB ns = r) :
    Calls Tryz.prog 18 #[.slice A n c] w fun e w' => e = .returned (.bool r) ∧ Hid (Below w.heap.size w w') := by
  have HN : Hid (n = ns.length) := Lib.hid h.1
  by_cases h0 : n = 0
  · have HF : Hid (false = r) := Lib.hid (by
      rw [← hr]
      have : ns = [] := List.eq_nil_of_length_eq_zero (by have := HN.out; omega)
      rw [this]; exact rB_nil.symm)
    subst h0
    clear h hr
    go_enter Tryz.func18, Tryz.ntmps18
    go_wp2_with fail
    go_ret
    exact ⟨ret_bool HF.out, Lib.hid (Below.refl _ _)⟩
  · have h0b : ((n : Int) == 0) = false := by rw [beq_eq_false_iff_ne]; omega
    by_cases hb : 2000 < n
    · have HF : Hid (false = r) := Lib.hid (by rw [← hr, rB_many (by have := HN.out; omega)])
      have hbI : (2000 : Int) < (n : Int) := by omega
      clear h hr
      go_enter Tryz.func18, Tryz.ntmps18
      go_wp2_with fail
      go_ret
      exact ⟨ret_bool HF.out, Lib.hid (Below.refl _ _)⟩
    · have hbI : ¬ (2000 : Int) < (n : Int) := by omega
      have h0J : (0 : Int) < (n : Int) := by omega
      have hl0 : 0 < ns.length := by have := HN.out; omega
      obtain ⟨b, o, A0, l0, c0, rfl, hbb, q1, q2, -⟩ := h.2 0 hl0
      rw [Nat.zero_mul, Nat.add_zero] at q1 q2
      obtain ⟨p, hp⟩ : ∃ p, (ns[0]'hl0).parent = p := ⟨_, rfl⟩
      obtain ⟨m, hm⟩ : ∃ m, (ns[0]'hl0).name = m := ⟨_, rfl⟩
      rw [hp] at q1
      rw [hm] at q2
      have hpa : parAt ns (0 : Nat) = p := by
        show (nd ns ((0 : Nat) : Int).toNat).parent = p
        rw [Int.toNat_natCast, nd_eq ns 0 hl0, hp]
      have htb : textB (nd ns 0) = decide (m = []) := by
        unfold textB
        rw [nd_eq ns 0 hl0, hm]
      have htl : (tx m).toList = m := by rw [ByteArray.toList_eq]; rfl
      by_cases hp1 : p = -1
      · by_cases hm1 : m = []
        · have HF : Hid (false = r) := Lib.hid (by
            rw [← hr, first_no (fun hh => by have := hh.2; rw [htb] at this; exact absurd hm1 (of_decide_eq_false this)) hl0])
          have hme : m.isEmpty = true := by rw [hm1]; rfl
          have hpb : ((p : Int) != -1) = false := by rw [hp1]; rfl
          clear h hr hpa htb hp hm hm1 hp1
          go_enter Tryz.func18, Tryz.ntmps18
          go_wp2_with fail
          go_ret
          exact ⟨ret_bool HF.out, Lib.hid (Below.refl _ _)⟩
        · refine right_main w.heap.size b o n c ns w (Nat.le_refl _) hbb h.1 (by omega) (by omega) (by rw [hpa, hp1]) (by rw [htb]; exact decide_eq_false hm1) (fun j hj => ?_) hsm r hr
          obtain ⟨b', o', A', l', c', e, _, r1, r2, r3, r4, r5⟩ := h.2 j hj
          injection e with e
          injection e with e1 e2 _
          subst e1 e2
          exact ⟨A', l', c', r1, r2, r3, r4, r5⟩
      · have HF : Hid (false = r) := Lib.hid (by
          rw [← hr, first_no (fun hh => hp1 (by rw [← hpa]; exact hh.1)) hl0])
        have hpb : ((p : Int) != -1) = true := by rw [bne_iff_ne]; exact hp1
        clear h hr hpa htb hp hm hp1
        go_enter Tryz.func18, Tryz.ntmps18
        go_wp2_with fail
        go_ret
        exact ⟨ret_bool HF.out, Lib.hid (Below.refl _ _)⟩
theorem rRight_c (ns : List Nd) (A : Option Addr) (n c : Nat) (w : World) (h : NdRd w.heap.size w A n ns) (hn : n ≤ 1000000000) (hsm : Small ns 2000000) (r : Bool) (hr : rightB ns = r) :
    Calls Tryz.prog 18 #[.slice A n c] w fun e w' => e = .returned (.bool r) ∧ Hid (Below w.heap.size w w') := rRight_e ns A n c w h hn (small_each hsm) r hr
end Go.Proofs.YtkccockdnjjanaaGreatDoor
