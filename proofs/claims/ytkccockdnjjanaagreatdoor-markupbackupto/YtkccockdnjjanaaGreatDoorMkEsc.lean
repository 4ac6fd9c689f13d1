/-
  Layer 4: the builder's WriteByte, and the contract of markup.Escape.
-/
import Derived.Test.YtkccockdnjjanaaGreatDoorGnBuild
import Derived.Test.YtkccockdnjjanaaGreatDoorBa
import Derived.Test.YtkccockdnjjanaaGreatDoorGnByte
import Derived.Test.YtkccockdnjjanaaGreatDoorEsMath
namespace Nwl
open Go
theorem esc1_plain {c : UInt8} (h1 : c ≠ 38) (h2 : c ≠ 60) (h3 : c ≠ 62) (h4 : c ≠ 34) : esc1 c = [c] := by
  unfold esc1
  rw [if_neg h1, if_neg h2, if_neg h3, if_neg h4]
end Nwl
namespace Go.Proofs.YtkccockdnjjanaaGreatDoor
open Nwl
open Go.RowKit Go.Maps
set_option linter.unusedVariables false
/-- where Escape stands -/
def EscAt (w : World) (s : ByteArray) (k : Nat) (w' : World) : Prop := k ≤ s.size ∧ Bld w.heap.size w.heap.size (escL ((bs s).take k)) w' ∧ Below w.heap.size w w'
theorem EscAt.next {w w1 w2 : World} {s : ByteArray} {k : Nat} {r : List UInt8} (h : EscAt w s k w1) (hk : k < s.size) (he : esc1 s[k] = r) (hb : Bld w.heap.size w.heap.size (escL ((bs s).take k) ++ r) w2) (hw : Below w.heap.size w1 w2) : EscAt w s (k + 1) w2 :=
  ⟨hk, by rw [esc_take s k hk, he]; exact hb, h.2.2.trans hw⟩
theorem byteNe {c d : UInt8} (h : c ≠ d) : ((c.toNat : Int) == (d.toNat : Int)) = false := by
  rw [beq_eq_false_iff_ne]
  intro e
  exact h (UInt8.toNat_inj.1 (by omega))

set_option maxRecDepth 100000 in
set_option maxHeartbeats 4000000 in
theorem mEscape_c (s : ByteArray) (w : World) (hs : s.size ≤ 20000000000000) :
    Calls Tryz.prog 34 #[.string s] w fun e w' => e = .returned (.string (tx (escL (bs s)))) ∧ Below w.heap.size w w' := by
  go_enter Tryz.func34, Tryz.ntmps34
  go_wp2
  refine wp_scope_again 0 (fun a' w' => ∃ (k : Nat) (u5 u6 u7 u8 u9 u10 u11 u12 u13 u14 u15 u16 u17 u18 u19 u20 u21 u22 u23 u24 u25 u26 u27 u28 u29 u30 : Value), a' = { tmps := #[.string s, undef, .string ⟨#[]⟩, .pointer (some ⟨w.heap.size, 0, none⟩), .int .i64 (k : Int), u5, u6, u7, u8, u9, u10, u11, u12, u13, u14, u15, u16, u17, u18, u19, u20, u21, u22, u23, u24, u25, u26, u27, u28, u29, u30], defers := [] } ∧ Hid (EscAt w s k w')) (fun a' _ => s.size - (intOf (a'.tmps.getD 4 undef)).toNat) rfl ?_ ?_
  · rintro a' w' ⟨k, u5, u6, u7, u8, u9, u10, u11, u12, u13, u14, u15, u16, u17, u18, u19, u20, u21, u22, u23, u24, u25, u26, u27, u28, u29, u30, rfl, hh⟩
    have hk := hh.out.1
    have hbs := hh.out.2.2.size
    by_cases hlt : k < s.size
    · have hne : ¬ ((k : Int) = (s.size : Int)) := by omega
      have hlen : (escL ((bs s).take k)).length ≤ 6 * k := Nat.le_trans (escL_len _) (by rw [List.length_take, bs_length]; omega)
      by_cases h1 : s[k] = 38
      · have hv : (s[k].toNat : Int) = 38 := by rw [h1]; rfl
        have HE : Hid (esc1 s[k] = [38, 97, 109, 112, 59]) := Lib.hid (by rw [h1]; rfl)
        clear h1
        go_wp2_with fail
        refine (WriteString_c _ _ _ _ _ hh.out.2.1 (by show _ + 5 ≤ _; omega) hbs).mono ?_
        rintro e w1 ⟨rfl, hb1, hw1⟩
        have HN : Hid (EscAt w s (k + 1) w1) := Lib.hid (hh.out.next hlt HE.out hb1 hw1)
        clear hb1 hw1
        go_wp2_with fail
        go_step3
        refine ⟨rfl, ⟨k + 1, _, _, _, _, _, _, _, _, _, _, _, _, _, _, _, _, _, _, _, _, _, _, _, _, _, _, rfl, HN⟩, ?_⟩
        simp [intOf]
        omega
      by_cases h2 : s[k] = 60
      · have hv : (s[k].toNat : Int) = 60 := by rw [h2]; rfl
        have HE : Hid (esc1 s[k] = [38, 108, 116, 59]) := Lib.hid (by rw [h2]; rfl)
        clear h1 h2
        go_wp2_with fail
        refine (WriteString_c _ _ _ _ _ hh.out.2.1 (by show _ + 4 ≤ _; omega) hbs).mono ?_
        rintro e w1 ⟨rfl, hb1, hw1⟩
        have HN : Hid (EscAt w s (k + 1) w1) := Lib.hid (hh.out.next hlt HE.out hb1 hw1)
        clear hb1 hw1
        go_wp2_with fail
        go_step3
        refine ⟨rfl, ⟨k + 1, _, _, _, _, _, _, _, _, _, _, _, _, _, _, _, _, _, _, _, _, _, _, _, _, _, _, rfl, HN⟩, ?_⟩
        simp [intOf]
        omega
      by_cases h3 : s[k] = 62
      · have hv : (s[k].toNat : Int) = 62 := by rw [h3]; rfl
        have HE : Hid (esc1 s[k] = [38, 103, 116, 59]) := Lib.hid (by rw [h3]; rfl)
        clear h1 h2 h3
        go_wp2_with fail
        refine (WriteString_c _ _ _ _ _ hh.out.2.1 (by show _ + 4 ≤ _; omega) hbs).mono ?_
        rintro e w1 ⟨rfl, hb1, hw1⟩
        have HN : Hid (EscAt w s (k + 1) w1) := Lib.hid (hh.out.next hlt HE.out hb1 hw1)
        clear hb1 hw1
        go_wp2_with fail
        go_step3
        refine ⟨rfl, ⟨k + 1, _, _, _, _, _, _, _, _, _, _, _, _, _, _, _, _, _, _, _, _, _, _, _, _, _, _, rfl, HN⟩, ?_⟩
        simp [intOf]
        omega
      by_cases h4 : s[k] = 34
      · have hv : (s[k].toNat : Int) = 34 := by rw [h4]; rfl
        have HE : Hid (esc1 s[k] = [38, 113, 117, 111, 116, 59]) := Lib.hid (by rw [h4]; rfl)
        clear h1 h2 h3 h4
        go_wp2_with fail
        refine (WriteString_c _ _ _ _ _ hh.out.2.1 (by show _ + 6 ≤ _; omega) hbs).mono ?_
        rintro e w1 ⟨rfl, hb1, hw1⟩
        have HN : Hid (EscAt w s (k + 1) w1) := Lib.hid (hh.out.next hlt HE.out hb1 hw1)
        clear hb1 hw1
        go_wp2_with fail
        go_step3
        refine ⟨rfl, ⟨k + 1, _, _, _, _, _, _, _, _, _, _, _, _, _, _, _, _, _, _, _, _, _, _, _, _, _, _, rfl, HN⟩, ?_⟩
        simp [intOf]
        omega
      · have e1 : ((s[k].toNat : Int) == 38) = false := byteNe h1
        have e2 : ((s[k].toNat : Int) == 60) = false := byteNe h2
        have e3 : ((s[k].toNat : Int) == 62) = false := byteNe h3
        have e4 : ((s[k].toNat : Int) == 34) = false := byteNe h4
        have HE : Hid (esc1 s[k] = [s[k]]) := Lib.hid (esc1_plain h1 h2 h3 h4)
        clear h1 h2 h3 h4
        go_wp2_with fail
        refine (WriteByte_c _ _ _ _ _ hh.out.2.1 (by omega) hbs).mono ?_
        rintro e w1 ⟨rfl, hb1, hw1⟩
        have HN : Hid (EscAt w s (k + 1) w1) := Lib.hid (hh.out.next hlt HE.out hb1 hw1)
        clear hb1 hw1
        go_wp2_with fail
        go_step3
        refine ⟨rfl, ⟨k + 1, _, _, _, _, _, _, _, _, _, _, _, _, _, _, _, _, _, _, _, _, _, _, _, _, _, _, rfl, HN⟩, ?_⟩
        simp [intOf]
        omega
    · obtain rfl : k = s.size := by omega
      have HB : Hid (Bld w.heap.size w.heap.size (escL (bs s)) w') := Lib.hid (by
        have := hh.out.2.1
        rwa [List.take_of_length_le (by rw [bs_length]; exact Nat.le_refl _)] at this)
      go_wp2_with fail
      refine (String_c _ _ _ _ HB.out hbs).mono ?_
      rintro e w1 ⟨rfl, hw1⟩
      have HW : Hid (Below w.heap.size w w1) := Lib.hid (hh.out.2.2.trans hw1)
      clear hw1
      go_wp2_with fail
      simp only [Exit.jump]
      go_ret
      exact ⟨rfl, HW.out⟩
  · intro hpass
    go_wp2
    go_step3
    rename_i hK
    exact hK _ _ (hpass.out _ _ ⟨0, _, _, _, _, _, _, _, _, _, _, _, _, _, _, _, _, _, _, _, _, _, _, _, _, _, _, rfl, Nat.zero_le _, Lib.IsBuilderF.of (Lib.fresh_isBuilder _ _ w), (Below.refl _ _).alloc (Nat.le_refl _) _⟩)

end Go.Proofs.YtkccockdnjjanaaGreatDoor
