/-
  The document's own answers (layer 4): a text escaped.
-/
import Derived.Test.YtkccockdnjjanaaEsMath
import Derived.Test.YtkccockdnjjanaaBa
import Derived.Test.YtkccockdnjjanaaGnBytes
import Derived.Lib.AppendStr
namespace Go.Proofs.Ytkccockdnjjanaa
open Nwl
open Go.RowKit Go.Maps
set_option linter.unusedVariables false
set_option linter.unusedSimpArgs false

/-- where the document's Escape stands -/
def REsc (w : World) (s : ByteArray) (k : Nat) (A : Option Addr) (n c : Nat) (w' : World) : Prop := ByO w.heap.size w' A n c (escL ((bs s).take k)) ∧ Below w.heap.size w w'
theorem resc_next {w w2 : World} {s : ByteArray} {k n c : Nat} {A : Option Addr} {r : List UInt8} (hk : k < s.size) (he : esc1 s[k] = r) (hb : ByO w.heap.size w2 A n c (escL ((bs s).take k) ++ r)) (hw : Below w.heap.size w w2) : REsc w s (k + 1) A n c w2 :=
  ⟨by rw [esc_take s k hk, he]; exact hb, hw⟩
theorem esc_to (s : ByteArray) (k : Nat) (h : k ≤ s.size) : (escL ((bs s).take k)).length ≤ 6 * s.size := by
  have := escL_len ((bs s).take k)
  have h2 : ((bs s).take k).length ≤ s.size := by rw [List.length_take, bs_length]; omega
  omega

set_option maxRecDepth 100000 in
set_option maxHeartbeats 4000000 in
theorem rEscape_c (s : ByteArray) (w : World) (hs : s.size ≤ 10000000000) (r : List UInt8) (hr : escL (bs s) = r) :
    Calls Try.prog 8 #[.string s] w fun e w' => e = .returned (.string (tx r)) ∧ Hid (Below w.heap.size w w') := by
  have HR := Lib.hid hr
  clear hr
  go_enter Try.func8, Try.ntmps8
  go_wp2_with fail
  go_loopw [3, 4] (fun ov iv wr => ∃ (k n c : Nat) (A : Option Addr), k ≤ s.size ∧ iv = .int .i64 k ∧ ov = .slice A n c ∧ Hid (REsc w s k A n c wr)) (fun _ iv _ => s.size - (intOf iv).toNat)
  case atStart => exact ⟨0, 0, 0, none, Nat.zero_le _, rfl, rfl, Lib.hid ⟨ByO.nil _ _, Below.refl _ _⟩⟩
  case round =>
    obtain ⟨k, n, c, A, hk, rfl, rfl, HH⟩ := hrel
    have hll := esc_to s k hk
    have hn : n = (escL ((bs s).take k)).length := HH.out.1.1
    have hn9 : n ≤ 60000000000 := by omega
    by_cases hlt : k < s.size
    · have hltI : (k : Int) < (s.size : Int) := by omega
      have hBs := HH.out.2.size
      have hw1 : IntKind.i64.wrap ((k : Int) + 1) = (k : Int) + 1 := by
        simp [IntKind.wrap, IntKind.bits, IntKind.signed]
        omega
      obtain ⟨d, hd⟩ : ∃ d, s[k] = d := ⟨_, rfl⟩
      have HD := Lib.hid hd
      by_cases h1 : d = 38
      · have hv : ((s[k].toNat : Nat) : Int) = 38 := by rw [hd, h1]; rfl
        obtain ⟨A2, c2, W2, hrun, ho2, hb2⟩ := by_str HH.out.1 hBs ⟨#[38, 97, 109, 112, 59]⟩ (by show n + 5 ≤ 140737488355328; omega)
        have HRUN := Lib.hid hrun
        have HN := Lib.hid (resc_next hlt (by rw [hd, h1]; rfl) ho2 (HH.out.2.trans hb2))
        clear hrun ho2 hb2 hd hn hll
        go_wp2_with (at_builtin; refine wpl_app2 rfl _ _ _ _ rfl _ _ _ rfl rfl HRUN.out ?_)
        go_roundw
        case rel => exact ⟨k + 1, _, c2, A2, hlt, by go_num, rfl, HN⟩
        case measure => simp [intOf]; omega
      · have n1 : ((s[k].toNat : Int) == 38) = false := by
          rw [hd, beq_eq_false_iff_ne]
          intro e
          exact h1 (UInt8.toNat_inj.1 (by show d.toNat = 38; omega))
        by_cases h2 : d = 60
        · have hv : ((s[k].toNat : Nat) : Int) = 60 := by rw [hd, h2]; rfl
          obtain ⟨A2, c2, W2, hrun, ho2, hb2⟩ := by_str HH.out.1 hBs ⟨#[38, 108, 116, 59]⟩ (by show n + 4 ≤ 140737488355328; omega)
          have HRUN := Lib.hid hrun
          have HN := Lib.hid (resc_next hlt (by rw [hd, h2]; rfl) ho2 (HH.out.2.trans hb2))
          clear hrun ho2 hb2 hd hn hll n1
          go_wp2_with (at_builtin; refine wpl_app2 rfl _ _ _ _ rfl _ _ _ rfl rfl HRUN.out ?_)
          go_roundw
          case rel => exact ⟨k + 1, _, c2, A2, hlt, by go_num, rfl, HN⟩
          case measure => simp [intOf]; omega
        · have n2 : ((s[k].toNat : Int) == 60) = false := by
            rw [hd, beq_eq_false_iff_ne]
            intro e
            exact h2 (UInt8.toNat_inj.1 (by show d.toNat = 60; omega))
          by_cases h3 : d = 62
          · have hv : ((s[k].toNat : Nat) : Int) = 62 := by rw [hd, h3]; rfl
            obtain ⟨A2, c2, W2, hrun, ho2, hb2⟩ := by_str HH.out.1 hBs ⟨#[38, 103, 116, 59]⟩ (by show n + 4 ≤ 140737488355328; omega)
            have HRUN := Lib.hid hrun
            have HN := Lib.hid (resc_next hlt (by rw [hd, h3]; rfl) ho2 (HH.out.2.trans hb2))
            clear hrun ho2 hb2 hd hn hll n1 n2
            go_wp2_with (at_builtin; refine wpl_app2 rfl _ _ _ _ rfl _ _ _ rfl rfl HRUN.out ?_)
            go_roundw
            case rel => exact ⟨k + 1, _, c2, A2, hlt, by go_num, rfl, HN⟩
            case measure => simp [intOf]; omega
          · have n3 : ((s[k].toNat : Int) == 62) = false := by
              rw [hd, beq_eq_false_iff_ne]
              intro e
              exact h3 (UInt8.toNat_inj.1 (by show d.toNat = 62; omega))
            by_cases h4 : d = 34
            · have hv : ((s[k].toNat : Nat) : Int) = 34 := by rw [hd, h4]; rfl
              obtain ⟨A2, c2, W2, hrun, ho2, hb2⟩ := by_str HH.out.1 hBs ⟨#[38, 113, 117, 111, 116, 59]⟩ (by show n + 6 ≤ 140737488355328; omega)
              have HRUN := Lib.hid hrun
              have HN := Lib.hid (resc_next hlt (by rw [hd, h4]; rfl) ho2 (HH.out.2.trans hb2))
              clear hrun ho2 hb2 hd hn hll n1 n2 n3
              go_wp2_with (at_builtin; refine wpl_app2 rfl _ _ _ _ rfl _ _ _ rfl rfl HRUN.out ?_)
              go_roundw
              case rel => exact ⟨k + 1, _, c2, A2, hlt, by go_num, rfl, HN⟩
              case measure => simp [intOf]; omega
            · have n4 : ((s[k].toNat : Int) == 34) = false := by
                rw [hd, beq_eq_false_iff_ne]
                intro e
                exact h4 (UInt8.toNat_inj.1 (by show d.toNat = 34; omega))
              obtain ⟨A2, c2, W2, hrun, ho2, hb2⟩ := by_byte HH.out.1 hBs d (by omega)
              rw [← hd] at hrun
              have HRUN := Lib.hid hrun
              have HN := Lib.hid (resc_next hlt (by rw [hd]; unfold esc1; rw [if_neg h1, if_neg h2, if_neg h3, if_neg h4]) ho2 (HH.out.2.trans hb2))
              clear hrun ho2 hb2 hd hn hll
              go_wp2_with (at_builtin; refine wpl_app2 rfl _ _ _ _ rfl _ _ _ rfl rfl HRUN.out ?_)
              go_roundw
              case rel => exact ⟨k + 1, _, c2, A2, hlt, by go_num, rfl, HN⟩
              case measure => simp [intOf]; omega
    · obtain rfl : k = s.size := by omega
      have hltI : ¬ ((s.size : Nat) : Int) < (s.size : Int) := by omega
      have hback := by_text HH.out.1
      rw [List.take_of_length_le (by rw [bs_length]; exact Nat.le_refl _), HR.out] at hback
      have HB := Lib.hid HH.out.2
      clear HH hn hll hn9
      go_wp2_with fail
      go_ret
      exact ⟨rfl, HB⟩
end Go.Proofs.Ytkccockdnjjanaa
