/-
  The walk of ExprHas.
-/
import Derived.Test.YtlblhoeekcglpaaExAwake
import Derived.Test.YtlblhoeekcglpaaExJoin
import Derived.BigQuiet
import Derived.Deep.QuietTactic
namespace Nwl
theorem tx_cat (a b : List UInt8) : tx a ++ tx b = tx (a ++ b) := bs_inj (by rw [bs_append]; rfl)
end Nwl
namespace Go.Proofs.Ytlblhoeekcglpaa
open Nwl
open Go.RowKit Go.Maps
set_option linter.unusedVariables false
set_option linter.unusedSimpArgs false

theorem ehas_quiet (l : List UInt8) (w : World) (n : Nat) (hl : l.length ≤ 100000) (hg : GlobE w) (r : Bool) (hr : hasE l = r) :
    Calls Try.prog 14 #[.string (tx l)] (w.drewN n) fun e w'' => e = .returned (.bool r) ∧ ∃ m, w'' = w.drewN m :=
  Calls.quiet_of_same ((EHas_c l (w.drewN n) hl hg r hr).mono fun _ _ h => ⟨h.1, h.2.symm⟩)

set_option maxRecDepth 100000 in
set_option maxHeartbeats 4000000 in
theorem has10_small (a b : List UInt8) (w : World) (ha : a.length ≤ 200) (hb : b.length ≤ 200) (hg : GlobE w) :
    Calls Try.prog 6 #[.string (tx a), .string (tx b)] w fun e w' => e = .returned (.bool true) ∧ Below w.heap.size w w' := by
  have k1 : ¬ (200 : Int) < ((tx a).size : Int) := by rw [tx_size]; omega
  have k2 : ¬ (200 : Int) < ((tx b).size : Int) := by rw [tx_size]; omega
  have HG := Lib.hid hg
  have HA := Lib.hid ha
  have HB := Lib.hid hb
  obtain ⟨p, hp⟩ : ∃ p, hasE a = p := ⟨_, rfl⟩
  obtain ⟨q, hq⟩ : ∃ q, hasE b = q := ⟨_, rfl⟩
  obtain ⟨r, hr⟩ : ∃ r, hasE (a ++ b) = r := ⟨_, rfl⟩
  have HP := Lib.hid hp
  have HQ := Lib.hid hq
  have HR := Lib.hid hr
  have HS : Hid (r = (p || q || (a.getLast? == some 36 && b.head? == some 123))) := Lib.hid (by rw [← hr, ← hp, ← hq, has_seam])
  have sa : (tx a).size = a.length := tx_size a
  have sb : (tx b).size = b.length := tx_size b
  have HSA := Lib.hid sa
  have HSB := Lib.hid sb
  clear hg hp hq hr ha hb sa sb
  go_enter Try.func6, Try.ntmps6
  go_upto_region 4 with fail
  clear k1 k2
  go_cut [6] from 16 to 43 (fun v wx => v = .bool r ∧ Hid (Below w.heap.size w wx))
  case first =>
    cases p with
    | true =>
      have hr2 : r = true := by rw [HS.out]; rfl
      subst hr2
      go_quiet (first
        | (go_at_call 14; exact ehas_quiet a _ _ (by have := HA.out; omega) HG.out true HP.out))
      go_wp2_with fail
      go_meet
      exact ⟨rfl, Lib.hid (below_dn (Below.refl _ _) _)⟩
    | false =>
      cases q with
      | true =>
        have hr2 : r = true := by rw [HS.out]; rfl
        subst hr2
        go_quiet (first
          | (go_at_call 14; exact ehas_quiet a _ _ (by have := HA.out; omega) HG.out false HP.out)
          | (go_at_call 14; exact ehas_quiet b _ _ (by have := HB.out; omega) HG.out true HQ.out))
        go_wp2_with fail
        go_meet
        exact ⟨rfl, Lib.hid (below_dn (Below.refl _ _) _)⟩
      | false =>
        by_cases hea : a = []
        · have hr2 : r = false := by rw [HS.out, hea]; rfl
          have z1 : decide (0 < (tx a).size) = false := by rw [HSA.out, hea]; rfl
          subst hr2
          clear hea
          go_quiet (first
            | (go_at_call 14; exact ehas_quiet a _ _ (by have := HA.out; omega) HG.out false HP.out)
            | (go_at_call 14; exact ehas_quiet b _ _ (by have := HB.out; omega) HG.out false HQ.out))
          go_wp2_with fail
          go_meet
          exact ⟨rfl, Lib.hid (below_dn (Below.refl _ _) _)⟩
        · have hla : 0 < a.length := List.length_pos_iff.2 hea
          have z1 : decide (0 < (tx a).size) = true := decide_eq_true (by rw [HSA.out]; omega)
          by_cases heb : b = []
          · have hr2 : r = false := by rw [HS.out, heb]; simp
            have z2 : decide (0 < (tx b).size) = false := by rw [HSB.out, heb]; rfl
            subst hr2
            clear hea heb hla
            go_quiet (first
              | (go_at_call 14; exact ehas_quiet a _ _ (by have := HA.out; omega) HG.out false HP.out)
              | (go_at_call 14; exact ehas_quiet b _ _ (by have := HB.out; omega) HG.out false HQ.out))
            go_wp2_with fail
            go_meet
            exact ⟨rfl, Lib.hid (below_dn (Below.refl _ _) _)⟩
          · have hlb : 0 < b.length := List.length_pos_iff.2 heb
            have z2 : decide (0 < (tx b).size) = true := decide_eq_true (by rw [HSB.out]; omega)
            have z3 : (1 : Int) ≤ ((tx b).size : Int) := by rw [HSB.out]; omega
            obtain ⟨m, hm⟩ : ∃ m, a.length = m + 1 := ⟨a.length - 1, by omega⟩
            have hsm : (tx a).size = m + 1 := by rw [HSA.out, hm]
            obtain ⟨x, hx⟩ : ∃ x, a[m]'(by omega) = x := ⟨_, rfl⟩
            obtain ⟨y, hy⟩ : ∃ y, b[0]'hlb = y := ⟨_, rfl⟩
            have e1 : (tx a).extract m (m + 1) = tx [x] := by
              rw [tx_ext, List.take_of_length_le (by omega), List.drop_eq_getElem_cons (by omega), List.drop_eq_nil_of_le (by omega), hx]
            have e2 : (tx b).extract 0 1 = tx [y] := by
              rw [tx_ext, List.drop_zero, List.take_one, List.head?_eq_getElem?, List.getElem?_eq_getElem hlb, hy]; rfl
            have hr2 : r = ([x, y] == [36, 123]) := by
              rw [HS.out, List.getLast?_eq_getElem?, hm, Nat.add_sub_cancel, List.getElem?_eq_getElem (by omega), hx, List.head?_eq_getElem?, List.getElem?_eq_getElem hlb, hy]
              show (false || false || (some x == some 36 && some y == some 123)) = (x == 36 && (y == 123 && true))
              simp
            have HR2 := Lib.hid hr2
            have t1 : (tx [x] ++ tx [y]).toList = [x, y] := by rw [tx_cat, tlx]; rfl
            have t2 : (⟨#[36, 123]⟩ : ByteArray).toList = [36, 123] := tlx [36, 123]
            have w1 : IntKind.i64.wrap (m : Int) = (m : Int) := by
              simp [IntKind.wrap, IntKind.bits, IntKind.signed]
              have := HA.out
              omega
            have w2 : (m : Int) ≤ (m : Int) + 1 := by omega
            have w3 : ¬ 9223372036854775807 < (tx [x]).size + (tx [y]).size := by rw [tx_size, tx_size]; simp
            clear hr2 hx hy hm hea heb hla hlb
            go_quiet (first
              | (go_at_call 14; exact ehas_quiet a _ _ (by have := HA.out; omega) HG.out false HP.out)
              | (go_at_call 14; exact ehas_quiet b _ _ (by have := HB.out; omega) HG.out false HQ.out))
            go_wp2_with fail
            go_meet
            refine ⟨?_, Lib.hid (below_dn (Below.refl _ _) _)⟩
            rw [HR2.out]
            simp
  case rest =>
  rename_i w1
  obtain ⟨rfl, b1⟩ := hcut
  have htl := tlx
  have hcat := tx_cat
  have z4 : ¬ 9223372036854775807 < (tx a).size + (tx b).size := by rw [tx_size, tx_size]; have := HA.out; have := HB.out; omega
  have z5 : ¬ 9223372036854775807 < (tx a).size + 2 := by rw [tx_size]; have := HA.out; omega
  have z6 : ¬ 9223372036854775807 < (tx a).size + 2 + (tx b).size := by rw [tx_size, tx_size]; have := HA.out; have := HB.out; omega
  clear HP HQ HS HSA HSB
  go_wp2_with fail
  refine (awake10_c _ (HG.out.below b1.out)).mono ?_
  rintro e w2 ⟨rfl, b2⟩
  have B2 := Lib.hid (b1.out.trans (b2.out.mono b1.out.size))
  clear b1 b2
  go_wp2_with fail
  refine (EHas_c (a ++ b) _ (by have := HA.out; have := HB.out; rw [List.length_append]; omega) (HG.out.below B2.out) r HR.out).mono ?_
  rintro e w' ⟨rfl, rfl⟩
  have hrr : (r == r) = true := beq_self_eq_true r
  have hm : ((tx a ++ ⟨#[36, 123]⟩) ++ tx b) = tx (a ++ 36 :: 123 :: b) := bs_inj (by
    rw [bs_append, bs_append]
    show a ++ [36, 123] ++ b = a ++ 36 :: 123 :: b
    simp)
  have hmid := Lib.hid (has_mid a b)
  clear hcat
  obtain ⟨w3, hw3⟩ : ∃ w3, w2.alloc (.cells #[.bool false, .string (tx a), .bool false, .string (tx b)] 29) = w3 := ⟨_, rfl⟩
  have HN : Hid (PcR w3.heap.size w3 (some ⟨w2.heap.size, 0, none⟩) 2 [⟨false, a⟩, ⟨false, b⟩] ∧ Below w2.heap.size w2 w3) := Lib.hid (by
    rw [← hw3]
    exact ⟨pcs_new w2 ⟨false, a⟩ ⟨false, b⟩, (Below.refl _ _).alloc (Nat.le_refl _) _⟩)
  have HJ : Hid (joinE [⟨false, a⟩, ⟨false, b⟩] = a ++ b) := Lib.hid (by simp [joinE, writE])
  have hl400 : Hid ((joinE [⟨false, a⟩, ⟨false, b⟩]).length ≤ 140737488355328) := Lib.hid (by
    rw [HJ.out, List.length_append]
    have := HA.out
    have := HB.out
    omega)
  go_wp2_with fail
  refine (EHas_c (a ++ 36 :: 123 :: b) _ (by have := HA.out; have := HB.out; simp; omega) (HG.out.below B2.out) true hmid.out).mono ?_
  rintro e w' ⟨rfl, rfl⟩
  go_wp2_with fail
  refine (EJoin_c (some ⟨w2.heap.size, 0, none⟩) 2 2 [⟨false, a⟩, ⟨false, b⟩] w3 w3.heap.size (Nat.le_refl _) HN.out.1 (by decide) hl400.out (a ++ b) HJ.out).mono ?_
  rintro e w4 ⟨rfl, b4⟩
  have B4 := Lib.hid ((B2.out.trans (HN.out.2.mono B2.out.size)).trans (b4.out.mono (Nat.le_trans B2.out.size HN.out.2.size)))
  have hq : tx a ++ tx b = tx (a ++ b) := tx_cat a b
  clear hw3
  go_wp2_with fail
  go_ret
  exact ⟨rfl, B4.out⟩

set_option maxRecDepth 100000 in
set_option maxHeartbeats 4000000 in
theorem ExprHas_walk (a b : ByteArray) (w : World) (ha : a.size ≤ maxLen) (hb : b.size ≤ maxLen) (hg : GlobE w) :
    Calls Try.prog 6 #[.string a, .string b] w fun e w' => e = .returned (.bool true) ∧ Below w.heap.size w w' := by
  by_cases hsm : a.size ≤ 200 ∧ b.size ≤ 200
  · exact has10_small (bs a) (bs b) w (by rw [bs_length]; exact hsm.1) (by rw [bs_length]; exact hsm.2) hg
  · have hways : (200 : Int) < (a.size : Int) ∨ (¬ (200 : Int) < (a.size : Int) ∧ (200 : Int) < (b.size : Int)) := by omega
    have HG := Lib.hid hg
    clear hsm hg ha hb
    rcases hways with h1 | ⟨h1, h2⟩
    all_goals
      go_enter Try.func6, Try.ntmps6
      go_wp2_with fail
      refine (awake10_c _ HG.out).mono ?_
      rintro e w2 ⟨rfl, b2⟩
      go_wp2_with fail
      go_ret
      exact ⟨rfl, b2.out⟩
end Go.Proofs.Ytlblhoeekcglpaa
