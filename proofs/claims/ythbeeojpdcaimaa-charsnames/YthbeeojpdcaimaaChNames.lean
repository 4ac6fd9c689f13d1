/-
  The walk of CharsNames.
-/
import Derived.Test.YthbeeojpdcaimaaChKinds
import Derived.Deep.DeepCutAuto
namespace Nwl
theorem nameB_more (s : ByteArray) (c : UInt8) (h : nameB s = true) : nameB (s ++ ⟨#[c]⟩) = withinI c.toNat := by
  unfold nameB at *
  rw [bs_append]
  cases hl : bs s with
  | nil => rw [hl] at h; simp [nameL] at h
  | cons x r =>
    rw [hl] at h
    simp only [nameL, Bool.and_eq_true] at h
    simp only [List.cons_append, nameL, h.1, Bool.true_and, List.all_append, h.2]
    simp [bs, within8]
theorem nameB_one (s : ByteArray) : nameB (⟨#[49]⟩ ++ s) = false := by
  unfold nameB
  rw [bs_append]
  rfl
theorem low8_twice (c : UInt8) : low8 (low8 c) = low8 c := by
  cases h : upperI c.toNat with
  | false => rw [Go.Proofs.Ythbeeojpdcaimaa.low8_same _ h, Go.Proofs.Ythbeeojpdcaimaa.low8_same _ h]
  | true =>
    apply Go.Proofs.Ythbeeojpdcaimaa.low8_same
    rw [Go.Proofs.Ythbeeojpdcaimaa.low8_val _ h]
    simp [upperI] at h ⊢
    omega
theorem lowerB_twice (s : ByteArray) : lowerB (lowerB s) = lowerB s := by
  unfold lowerB
  rw [bs_tx]
  congr 1
  simp [lowerL, low8_twice]
theorem lowerB_size (s : ByteArray) : (lowerB s).size = s.size := by
  rw [← bs_length, ← bs_length, lowerB, bs_tx, lowerL, List.length_map]
end Nwl
namespace Go.Proofs.Ythbeeojpdcaimaa
open Nwl
open Go.RowKit
set_option linter.unusedVariables false

theorem eqs4 (c : Int) : ((c == 95) = true ∧ (c == 45) = false ∧ (c == 46) = false) ∨ ((c == 95) = false ∧ (c == 45) = true ∧ (c == 46) = false) ∨
    ((c == 95) = false ∧ (c == 45) = false ∧ (c == 46) = true) ∨ ((c == 95) = false ∧ (c == 45) = false ∧ (c == 46) = false) := by
  simp only [beq_iff_eq, beq_eq_false_iff_ne, ne_eq]; omega
theorem within_eq (b : Bool) (c : Int) (h : b = true ↔ (97 ≤ c ∧ c ≤ 122) ∨ (65 ≤ c ∧ c ≤ 90) ∨ (48 ≤ c ∧ c ≤ 57) ∨ c = 95 ∨ c = 45 ∨ c = 46 ∨ c = 58) : b = withinI c := by
  rw [Bool.eq_iff_iff, h]
  simp [withinI, beginI, letterI, upperI, digitI]
  omega
theorem acc {P : Program} {f : FuncId} {args : Array Value} {w W0 : World} {E : Ending → Prop} (h : Calls P f args w fun e w' => E e ∧ Below w.heap.size w w') (h0 : Below W0.heap.size W0 w) :
    Calls P f args w fun e w' => E e ∧ Below W0.heap.size W0 w' := h.mono fun _ _ ⟨a, b⟩ => ⟨a, h0.trans (b.mono h0.size)⟩
theorem byte_of (c : Int) (h : (Lit.int .u8 c).wf = true) : ∃ b : UInt8, c = (b.toNat : Int) := by
  have hx : 0 ≤ c ∧ c ≤ 255 := by simpa [Lit.wf, IntKind.min, IntKind.max, IntKind.signed, IntKind.bits] using h
  refine ⟨UInt8.ofNat c.toNat, ?_⟩
  rw [UInt8.toNat_ofNat']
  omega

theorem Name_400 (s : ByteArray) (w : World) (hs : s.size ≤ 400) :
    Calls Try.prog 15 #[.string s] w fun e w' => e = .returned (.bool (nameB s)) ∧ w = w' := Name_c s w (by unfold maxLen; omega)
theorem Lower_400 (s : ByteArray) (w : World) (hs : s.size ≤ 400) :
    Calls Try.prog 19 #[.string s] w fun e w' => e = .returned (.string (lowerB s)) ∧ Below w.heap.size w w' := Lower_c s w (by unfold maxLen; omega)

set_option maxRecDepth 100000 in
set_option maxHeartbeats 1000000 in
theorem names_yes (s : ByteArray) (c : UInt8) (w : World) (hs : s.size ≤ 200) (hm : (s ++ ⟨#[c]⟩).size ≤ 400) (ho : (⟨#[49]⟩ ++ s).size ≤ 400) (hn1 : nameB (⟨#[49]⟩ ++ s) = false) (hn0 : nameB ⟨#[]⟩ = false)
    (hlt : lowerB (lowerB s) = lowerB s) (hls : (lowerB s).size ≤ 400) (hls2 : (((lowerB s).size : Int) == (s.size : Int)) = true) (hls3 : ((lowerB s).size == s.size) = true)
    (hconv : (convert 28 9 (.slice (some ⟨w.heap.size, 0, none⟩) 1 1)).run Try.prog (w.alloc (.cells #[.int .u8 (c.toNat : Int)] 5)) = .ok (.string ⟨#[c]⟩) (w.alloc (.cells #[.int .u8 (c.toNat : Int)] 5)))
    (hnm : nameB s = true) (hin : nameB (s ++ ⟨#[c]⟩) = withinI (c.toNat : Int)) :
    Calls Try.prog 5 #[.string s, .int .u8 (c.toNat : Int)] w fun e w' => e = .returned (.bool true) ∧ Below w.heap.size w w' := by
  go_enter Try.func5, Try.ntmps5
  go_upto_region 4 with (fail)
  go_cut [6] (fun v wx => v = .bool (withinI (c.toNat : Int)) ∧ wx = w.alloc (.cells #[.int .u8 (c.toNat : Int)] 5))
  case first =>
    clear hm ho hn1 hn0 hlt hls hls2 hls3 hconv
    rcases eqs4 (c.toNat : Int) with ⟨q1, q2, q3⟩ | ⟨q1, q2, q3⟩ | ⟨q1, q2, q3⟩ | ⟨q1, q2, q3⟩
    all_goals
      go_wp2
      all_goals
        go_meet
        case rel => exact ⟨congrArg Value.bool (within_eq _ _ (by simp only [beq_iff_eq, beq_eq_false_iff_ne, ne_eq] at q1 q2 q3; simp; omega)), rfl⟩
  case rest =>
    obtain ⟨rfl, rfl⟩ := hcut
    clear hconv
    have hb : Below w.heap.size w (w.alloc (.cells #[.int .u8 (c.toNat : Int)] 5)) := (Below.refl _ _).alloc (Nat.le_refl _) _
    go_wp2_with (first
      | (go_at_call 8; refine (acc (awake_c _) (W0 := w) (by assumption)).mono ?_; rintro e w1 ⟨rfl, hb⟩)
      | (go_at_call 15; refine (Name_400 _ _ (by first | omega | decide)).mono ?_; rintro e w' ⟨rfl, rfl⟩)
      | (go_at_call 19; refine (acc (Lower_400 _ _ (by omega)) (W0 := w) (by assumption)).mono ?_; rintro e wl ⟨rfl, hb⟩))
    go_ret
    exact ⟨rfl, hb⟩

set_option maxRecDepth 100000 in
set_option maxHeartbeats 1000000 in
theorem names_no (s : ByteArray) (c : UInt8) (w : World) (hs : s.size ≤ 200) (hm : (s ++ ⟨#[c]⟩).size ≤ 400) (ho : (⟨#[49]⟩ ++ s).size ≤ 400) (hn1 : nameB (⟨#[49]⟩ ++ s) = false) (hn0 : nameB ⟨#[]⟩ = false)
    (hlt : lowerB (lowerB s) = lowerB s) (hls : (lowerB s).size ≤ 400) (hls2 : (((lowerB s).size : Int) == (s.size : Int)) = true) (hls3 : ((lowerB s).size == s.size) = true)
    (hconv : (convert 28 9 (.slice (some ⟨w.heap.size, 0, none⟩) 1 1)).run Try.prog (w.alloc (.cells #[.int .u8 (c.toNat : Int)] 5)) = .ok (.string ⟨#[c]⟩) (w.alloc (.cells #[.int .u8 (c.toNat : Int)] 5)))
    (hnm : nameB s = false) :
    Calls Try.prog 5 #[.string s, .int .u8 (c.toNat : Int)] w fun e w' => e = .returned (.bool true) ∧ Below w.heap.size w w' := by
  go_enter Try.func5, Try.ntmps5
  go_upto_region 4 with (fail)
  go_cut [6] (fun v wx => v = .bool (withinI (c.toNat : Int)) ∧ wx = w.alloc (.cells #[.int .u8 (c.toNat : Int)] 5))
  case first =>
    clear hm ho hn1 hn0 hlt hls hls2 hls3 hconv
    rcases eqs4 (c.toNat : Int) with ⟨q1, q2, q3⟩ | ⟨q1, q2, q3⟩ | ⟨q1, q2, q3⟩ | ⟨q1, q2, q3⟩
    all_goals
      go_wp2
      all_goals
        go_meet
        case rel => exact ⟨congrArg Value.bool (within_eq _ _ (by simp only [beq_iff_eq, beq_eq_false_iff_ne, ne_eq] at q1 q2 q3; simp; omega)), rfl⟩
  case rest =>
    obtain ⟨rfl, rfl⟩ := hcut
    clear hconv
    have hb : Below w.heap.size w (w.alloc (.cells #[.int .u8 (c.toNat : Int)] 5)) := (Below.refl _ _).alloc (Nat.le_refl _) _
    go_wp2_with (first
      | (go_at_call 8; refine (acc (awake_c _) (W0 := w) (by assumption)).mono ?_; rintro e w1 ⟨rfl, hb⟩)
      | (go_at_call 15; refine (Name_400 _ _ (by first | omega | decide)).mono ?_; rintro e w' ⟨rfl, rfl⟩)
      | (go_at_call 19; refine (acc (Lower_400 _ _ (by omega)) (W0 := w) (by assumption)).mono ?_; rintro e wl ⟨rfl, hb⟩))
    go_ret
    exact ⟨rfl, hb⟩

set_option maxRecDepth 100000 in
set_option maxHeartbeats 1000000 in
theorem CharsNames_walk (s : ByteArray) (c : Int) (w : World) (hs : s.size ≤ maxLen) (hc : (Lit.int .u8 c).wf = true) :
    Calls Try.prog 5 #[.string s, .int .u8 c] w fun e w' => e = .returned (.bool true) ∧ Below w.heap.size w w' := by
  obtain ⟨b, rfl⟩ := byte_of c hc
  clear hc
  unfold maxLen at hs
  by_cases h1 : 200 < s.size
  · go_enter Try.func5, Try.ntmps5
    go_wp2_with (go_at_call 8; refine (awake_c _).mono ?_; rintro e w' ⟨rfl, hb⟩)
    go_ret
    exact ⟨rfl, hb⟩
  have hm : (s ++ ⟨#[b]⟩).size ≤ 400 := by rw [← bs_length, bs_append, List.length_append, bs_length, bs_length]; show s.size + 1 ≤ 400; omega
  have ho : (⟨#[49]⟩ ++ s).size ≤ 400 := by rw [← bs_length, bs_append, List.length_append, bs_length, bs_length]; show 1 + s.size ≤ 400; omega
  have hl := lowerB_size s
  have hconv := run_convert_bytes_back (P := Try.prog) (w.alloc (.cells #[.int .u8 (b.toNat : Int)] 5)) 28 9 5 ⟨w.heap.size, 0, none⟩ 1 [b] Try.underlying28 Try.underlying5 Try.underlying9 (by
    intro j hj
    have hj0 : j = 0 := by simpa using hj
    subst hj0
    simp [Addr.add])
  cases hn : nameB s with
  | true => exact names_yes s b w (by omega) hm ho (nameB_one s) rfl (lowerB_twice s) (by omega) (by rw [hl]; simp) (by rw [hl]; simp) hconv hn (nameB_more s b hn)
  | false => exact names_no s b w (by omega) hm ho (nameB_one s) rfl (lowerB_twice s) (by omega) (by rw [hl]; simp) (by rw [hl]; simp) hconv hn
end Go.Proofs.Ythbeeojpdcaimaa
