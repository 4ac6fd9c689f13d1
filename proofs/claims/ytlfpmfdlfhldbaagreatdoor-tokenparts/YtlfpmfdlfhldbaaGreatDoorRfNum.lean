/-
  The document's own answers (layer 2): a character by its digits; what one between & and ; is.
-/
import Derived.Test.YtlfpmfdlfhldbaaGreatDoorRfUtf
namespace Nwl
open Go
theorem valF_more (base : Nat) : ∀ (l : List UInt8) (v : Nat) (c : UInt8), valF base v (l ++ [c]) = (valF base v l).bind fun V => (digV base c).map (V * base + ·)
  | [], v, c => by
    simp only [List.nil_append, valF, Option.bind_some]
    cases digV base c <;> rfl
  | a :: l, v, c => by
    simp only [List.cons_append, valF]
    cases digV base a with
    | none => rfl
    | some d => exact valF_more base l _ c
theorem valF_bad (base : Nat) : ∀ (l r : List UInt8) (v : Nat) (c : UInt8), digV base c = none → valF base v (l ++ c :: r) = none
  | [], r, v, c, h => by simp only [List.nil_append, valF, h]
  | a :: l, r, v, c, h => by
    simp only [List.cons_append, valF]
    cases digV base a with
    | none => rfl
    | some d => exact valF_bad base l r _ c h
/-- so far the digits are digits; their number, as long as they are few -/
def DigTo (base : Nat) (s : ByteArray) (k : Nat) (z : Int) : Prop := ∃ V : Nat, valF base 0 ((bs s).take k) = some V ∧ (k ≤ 6 → z = V ∧ V < base ^ k)
theorem take_next (s : ByteArray) (k : Nat) (h : k < s.size) : (bs s).take (k + 1) = (bs s).take k ++ [s[k]] := by
  rw [List.take_succ_eq_append_getElem (by rw [bs_length]; exact h)]; rfl
theorem digTo_zero (base : Nat) (s : ByteArray) : DigTo base s 0 0 := ⟨0, rfl, fun _ => ⟨rfl, by simp⟩⟩
theorem digV_lt {base : Nat} {c : UInt8} {d : Nat} (hb : base = 10 ∨ base = 16) (h : digV base c = some d) : d < base := by
  unfold digV at h
  split at h
  · rename_i h1
    injection h with h
    have : digitI c.toNat = true := h1
    simp [digitI] at this
    omega
  · split at h
    · injection h with h; omega
    · split at h
      · injection h with h; omega
      · cases h
theorem digTo_succ {base : Nat} {s : ByteArray} {k : Nat} {z : Int} {d : Nat} (hb : base = 10 ∨ base = 16) (h : DigTo base s k z) (hk : k < s.size) (hd : digV base s[k] = some d) (z' : Int) (hz : k + 1 ≤ 6 → z' = z * base + d) : DigTo base s (k + 1) z' := by
  obtain ⟨V, h1, h2⟩ := h
  refine ⟨V * base + d, ?_, fun h6 => ?_⟩
  · rw [take_next s k hk, valF_more, h1, hd]; rfl
  · obtain ⟨e1, e2⟩ := h2 (by omega)
    refine ⟨by rw [hz h6, e1]; omega, ?_⟩
    have := digV_lt hb hd
    calc V * base + d < V * base + base := by omega
      _ = (V + 1) * base := by rw [Nat.add_mul, Nat.one_mul]
      _ ≤ base ^ k * base := Nat.mul_le_mul_right _ e2
      _ = base ^ (k + 1) := by rw [Nat.pow_succ]
theorem digTo_small {base : Nat} {s : ByteArray} {k : Nat} {z : Int} (hb : base = 10 ∨ base = 16) (h : DigTo base s k z) (hk : k + 1 ≤ 6) : 0 ≤ z ∧ z < 1048576 := by
  obtain ⟨V, _, h2⟩ := h
  obtain ⟨e1, e2⟩ := h2 (by omega)
  have h3 : base ^ k ≤ 16 ^ 5 := by
    have h4 : base ^ k ≤ 16 ^ k := Nat.pow_le_pow_left (by omega) k
    have h5 : 16 ^ k ≤ 16 ^ 5 := Nat.pow_le_pow_right (by decide) (by omega)
    omega
  have h6 : (16 : Nat) ^ 5 = 1048576 := by decide
  omega
theorem num_bad {base : Nat} {s : ByteArray} {k : Nat} (hk : k < s.size) (hd : digV base s[k] = none) : numL base (bs s) = none := by
  have hv : valF base 0 (bs s) = none := by
    have : bs s = (bs s).take k ++ s[k] :: (bs s).drop (k + 1) := by
      conv => lhs; rw [← List.take_append_drop k (bs s)]
      rw [List.drop_eq_getElem_cons (by rw [bs_length]; exact hk)]
      rfl
    rw [this]
    exact valF_bad base _ _ _ _ hd
  unfold numL
  rw [hv]
  split <;> rfl
theorem num_long {base : Nat} {s : ByteArray} (h : s.size = 0 ∨ 6 < s.size) : numL base (bs s) = none := by
  unfold numL
  rw [if_pos]
  rcases h with h | h
  · left; exact List.eq_nil_of_length_eq_zero (by rw [bs_length]; exact h)
  · right; rw [bs_length]; exact h
theorem num_end {base : Nat} {s : ByteArray} {z : Int} (h : DigTo base s s.size z) (h0 : 0 < s.size) (h6 : s.size ≤ 6) : 0 ≤ z ∧ numL base (bs s) = if mayI z then some z.toNat else none := by
  obtain ⟨V, h1, h2⟩ := h
  obtain ⟨e1, _⟩ := h2 h6
  rw [← bs_length s, List.take_length] at h1
  refine ⟨by omega, ?_⟩
  unfold numL
  have hno : ¬ (bs s = [] ∨ 6 < (bs s).length) := by
    rw [bs_length]
    rintro (e | e)
    · have : s.size = 0 := by rw [← bs_length, e]; rfl
      omega
    · omega
  rw [if_neg hno, h1]
  subst e1
  simp
end Nwl
namespace Go.Proofs.YtlfpmfdlfhldbaaGreatDoor
open Nwl
open Go.RowKit Go.Maps
set_option linter.unusedVariables false

/-- a character, or none -/
def ChrPost (x : Option Nat) (w : World) (e : Ending) (w' : World) : Prop :=
  (e = match x with
    | some v => .returned (.tuple #[.string (tx (Lib.encodeRune v)), .bool true])
    | none => .returned (.tuple #[.string ⟨#[]⟩, .bool false])) ∧ Below w.heap.size w w'
theorem chrPost_none {x : Option Nat} {w : World} {e : Ending} {w' : World} (h : x = none) (he : e = .returned (.tuple #[.string ⟨#[]⟩, .bool false])) (hb : Below w.heap.size w w') : ChrPost x w e w' := by subst h; exact ⟨he, hb⟩
theorem chrPost_some {x : Option Nat} {w : World} {e : Ending} {w' : World} {v : Nat} (h : x = some v) (he : e = .returned (.tuple #[.string (tx (Lib.encodeRune v)), .bool true])) (hb : Below w.heap.size w w') : ChrPost x w e w' := by subst h; exact ⟨he, hb⟩

set_option maxRecDepth 100000 in
set_option maxHeartbeats 1000000 in
theorem number10_c (s : ByteArray) (w : World) (hs : s.size ≤ 1000000) :
    Calls Tryz.prog 43 #[.string s, .int .i64 10] w (ChrPost (numL 10 (bs s)) w) := by
  go_enter Tryz.func43, Tryz.ntmps43
  go_wp2_with fail
  go_loop [6, 7] (fun vv iv => ∃ (k : Nat) (z : Int), k ≤ s.size ∧ vv = .int .i64 z ∧ iv = .int .i64 k ∧ Hid (DigTo 10 s k z)) (fun _ iv => s.size - (intOf iv).toNat)
  case atStart => exact ⟨0, 0, by omega, rfl, rfl, digTo_zero _ _⟩
  case round =>
    obtain ⟨k, z, hk, rfl, rfl, hh⟩ := hrel
    have HD := hh
    clear hh
    by_cases hlt : k < s.size
    · have hc8 : s[k].toNat < 256 := s[k].toNat_lt
      by_cases h1 : digitI s[k].toNat = true
      · have HV : Hid (digV 10 s[k] = some (s[k].toNat - 48)) := Lib.hid (by unfold digV; rw [if_pos h1])
        have h48 : 48 ≤ s[k].toNat ∧ s[k].toNat ≤ 57 := by simp [digitI] at h1; omega
        obtain ⟨h481, h482⟩ := h48
        go_wp2_with (go_at_call 63; refine (refDigit_c _ _).mono ?_; rintro e w' ⟨rfl, rfl⟩)
        go_round
        case rel => exact ⟨k + 1, _, by omega, rfl, by go_num, digTo_succ (.inl rfl) HD.out hlt HV.out _ (fun h6 => by have := digTo_small (.inl rfl) HD.out h6; try unfold Go.RowKit.wrap64; omega)⟩
        case measure => simp [intOf]; omega
      have h1f : digitI s[k].toNat = false := by simpa using h1
      have HX : Hid (numL 10 (bs s) = none) := Lib.hid (num_bad hlt (by unfold digV; rw [if_neg h1, if_neg (fun e => absurd e.1 (by decide)), if_neg (fun e => absurd e.1 (by decide))]))
      go_wp2_with (go_at_call 63; refine (refDigit_c _ _).mono ?_; rintro e w' ⟨rfl, rfl⟩)
      go_ret2
      exact chrPost_none HX.out rfl (Below.refl _ _)
    · obtain rfl : k = s.size := by omega
      by_cases h0 : s.size = 0 ∨ 6 < s.size
      · have HX : Hid (numL 10 (bs s) = none) := Lib.hid (num_long h0)
        rcases h0 with h0 | h0
        · have h0' : ¬ (1 : Int) ≤ s.size := by omega
          clear h0
          go_wp2_with fail
          go_ret2
          exact chrPost_none HX.out rfl (Below.refl _ _)
        · have h0' : ¬ (s.size : Int) ≤ 6 := by omega
          have h01 : (1 : Int) ≤ s.size := by omega
          clear h0
          go_wp2_with fail
          go_ret2
          exact chrPost_none HX.out rfl (Below.refl _ _)
      · obtain ⟨hz0, hne⟩ := num_end HD.out (by omega) (by omega)
        have h06 : (s.size : Int) ≤ 6 := by omega
        have h01 : (1 : Int) ≤ s.size := by omega
        cases hm : mayI z with
        | true =>
          rw [hm] at hne
          have HX : Hid (numL 10 (bs s) = some z.toNat) := Lib.hid (by rw [hne]; rfl)
          have hmm : z ≤ 1114111 ∧ (z < 55296 ∨ 57343 < z) ∧ (32 ≤ z ∨ z = 9 ∨ z = 10 ∨ z = 13) := by
            simp [mayI] at hm
            omega
          obtain ⟨m1, m2, m3⟩ := hmm
          have HZ : Hid (((z.toNat : Nat) : Int) = z) := Lib.hid (by omega)
          clear hm hne h0
          have HU := Lib.hid (fun W => utf_c z W hz0 m1 m2)
          have m2' : (decide (z < 55296) || decide (57343 < z)) = true := by simp; omega
          rcases m3 with m3 | m3 | m3 | m3
          · rcases m2 with m2 | m2
            · go_wp2_with (go_at_call 64; refine (HU.out _).mono ?_; rintro e w2 ⟨rfl, hb2⟩)
              go_ret2
              exact chrPost_some HX.out (by rw [HZ.out]; rfl) hb2
            · have m22 : ¬ z < 55296 := by omega
              go_wp2_with (go_at_call 64; refine (HU.out _).mono ?_; rintro e w2 ⟨rfl, hb2⟩)
              go_ret2
              exact chrPost_some HX.out (by rw [HZ.out]; rfl) hb2
          · subst m3
            go_wp2_with (go_at_call 64; refine (HU.out _).mono ?_; rintro e w2 ⟨rfl, hb2⟩)
            go_ret2
            exact chrPost_some HX.out (by rw [HZ.out]; rfl) hb2
          · subst m3
            go_wp2_with (go_at_call 64; refine (HU.out _).mono ?_; rintro e w2 ⟨rfl, hb2⟩)
            go_ret2
            exact chrPost_some HX.out (by rw [HZ.out]; rfl) hb2
          · subst m3
            go_wp2_with (go_at_call 64; refine (HU.out _).mono ?_; rintro e w2 ⟨rfl, hb2⟩)
            go_ret2
            exact chrPost_some HX.out (by rw [HZ.out]; rfl) hb2
        | false =>
          rw [hm] at hne
          have HX : Hid (numL 10 (bs s) = none) := Lib.hid (by rw [hne]; rfl)
          have hmm : ¬ (z ≤ 1114111 ∧ (z < 55296 ∨ 57343 < z) ∧ (32 ≤ z ∨ z = 9 ∨ z = 10 ∨ z = 13)) := by
            simp [mayI] at hm
            omega
          clear hm hne h0
          by_cases n1 : 1114111 < z
          · go_wp2_with fail
            go_ret2
            exact chrPost_none HX.out rfl (Below.refl _ _)
          by_cases n2 : 55296 ≤ z ∧ z ≤ 57343
          · obtain ⟨n21, n22⟩ := n2
            clear hmm
            go_wp2_with fail
            go_ret2
            exact chrPost_none HX.out rfl (Below.refl _ _)
          · have n3 : z < 32 := by omega
            have n4 : ¬ z = 9 := by omega
            have n5 : ¬ z = 10 := by omega
            have n6 : ¬ z = 13 := by omega
            have n4b : (z == 9) = false := beq_eq_false_iff_ne.2 n4
            have n5b : (z == 10) = false := beq_eq_false_iff_ne.2 n5
            have n6b : (z == 13) = false := beq_eq_false_iff_ne.2 n6
            have n7 : z < 55296 := by omega
            have n3n : ¬ 32 ≤ z := by omega
            have n3d : decide (32 ≤ z) = false := by rw [decide_eq_false_iff_not]; omega
            clear hmm n2 n1
            have n1 : z ≤ 1114111 := by omega
            go_wp2_with fail
            go_ret2
            exact chrPost_none HX.out rfl (Below.refl _ _)

set_option maxRecDepth 100000 in
set_option maxHeartbeats 1000000 in
theorem number16_c (s : ByteArray) (w : World) (hs : s.size ≤ 1000000) :
    Calls Tryz.prog 43 #[.string s, .int .i64 16] w (ChrPost (numL 16 (bs s)) w) := by
  go_enter Tryz.func43, Tryz.ntmps43
  go_wp2_with fail
  go_loop [6, 7] (fun vv iv => ∃ (k : Nat) (z : Int), k ≤ s.size ∧ vv = .int .i64 z ∧ iv = .int .i64 k ∧ Hid (DigTo 16 s k z)) (fun _ iv => s.size - (intOf iv).toNat)
  case atStart => exact ⟨0, 0, by omega, rfl, rfl, digTo_zero _ _⟩
  case round =>
    obtain ⟨k, z, hk, rfl, rfl, hh⟩ := hrel
    have HD := hh
    clear hh
    by_cases hlt : k < s.size
    · have hc8 : s[k].toNat < 256 := s[k].toNat_lt
      by_cases h1 : digitI s[k].toNat = true
      · have HV : Hid (digV 16 s[k] = some (s[k].toNat - 48)) := Lib.hid (by unfold digV; rw [if_pos h1])
        have h48 : 48 ≤ s[k].toNat ∧ s[k].toNat ≤ 57 := by simp [digitI] at h1; omega
        obtain ⟨h481, h482⟩ := h48
        go_wp2_with (go_at_call 63; refine (refDigit_c _ _).mono ?_; rintro e w' ⟨rfl, rfl⟩)
        go_round
        case rel => exact ⟨k + 1, _, by omega, rfl, by go_num, digTo_succ (.inr rfl) HD.out hlt HV.out _ (fun h6 => by have := digTo_small (.inr rfl) HD.out h6; try unfold Go.RowKit.wrap64; omega)⟩
        case measure => simp [intOf]; omega
      have h1f : digitI s[k].toNat = false := by simpa using h1
      by_cases h2 : 97 ≤ s[k].toNat ∧ s[k].toNat ≤ 102
      · have HV : Hid (digV 16 s[k] = some (s[k].toNat - 87)) := Lib.hid (by unfold digV; rw [if_neg h1, if_pos ⟨rfl, h2⟩])
        obtain ⟨h21, h22⟩ := h2
        go_wp2_with (go_at_call 63; refine (refDigit_c _ _).mono ?_; rintro e w' ⟨rfl, rfl⟩)
        go_round
        case rel => exact ⟨k + 1, _, by omega, rfl, by go_num, digTo_succ (.inr rfl) HD.out hlt HV.out _ (fun h6 => by have := digTo_small (.inr rfl) HD.out h6; try unfold Go.RowKit.wrap64; omega)⟩
        case measure => simp [intOf]; omega
      by_cases h3 : 65 ≤ s[k].toNat ∧ s[k].toNat ≤ 70
      · have HV : Hid (digV 16 s[k] = some (s[k].toNat - 55)) := Lib.hid (by unfold digV; rw [if_neg h1, if_neg (fun e => h2 e.2), if_pos ⟨rfl, h3⟩])
        obtain ⟨h31, h32⟩ := h3
        have h2' : ¬ 97 ≤ s[k].toNat := by omega
        clear h2
        go_wp2_with (go_at_call 63; refine (refDigit_c _ _).mono ?_; rintro e w' ⟨rfl, rfl⟩)
        go_round
        case rel => exact ⟨k + 1, _, by omega, rfl, by go_num, digTo_succ (.inr rfl) HD.out hlt HV.out _ (fun h6 => by have := digTo_small (.inr rfl) HD.out h6; try unfold Go.RowKit.wrap64; omega)⟩
        case measure => simp [intOf]; omega
      have HX : Hid (numL 16 (bs s) = none) := Lib.hid (num_bad hlt (by unfold digV; rw [if_neg h1, if_neg (fun e => h2 e.2), if_neg (fun e => h3 e.2)]))
      by_cases h4 : s[k].toNat < 65
      · go_wp2_with (go_at_call 63; refine (refDigit_c _ _).mono ?_; rintro e w' ⟨rfl, rfl⟩)
        go_ret2
        exact chrPost_none HX.out rfl (Below.refl _ _)
      by_cases h5 : s[k].toNat < 97
      · have h6 : 70 < s[k].toNat := by omega
        go_wp2_with (go_at_call 63; refine (refDigit_c _ _).mono ?_; rintro e w' ⟨rfl, rfl⟩)
        go_ret2
        exact chrPost_none HX.out rfl (Below.refl _ _)
      · have h6 : 102 < s[k].toNat := by omega
        have h7 : 70 < s[k].toNat := by omega
        go_wp2_with (go_at_call 63; refine (refDigit_c _ _).mono ?_; rintro e w' ⟨rfl, rfl⟩)
        go_ret2
        exact chrPost_none HX.out rfl (Below.refl _ _)
    · obtain rfl : k = s.size := by omega
      by_cases h0 : s.size = 0 ∨ 6 < s.size
      · have HX : Hid (numL 16 (bs s) = none) := Lib.hid (num_long h0)
        rcases h0 with h0 | h0
        · have h0' : ¬ (1 : Int) ≤ s.size := by omega
          clear h0
          go_wp2_with fail
          go_ret2
          exact chrPost_none HX.out rfl (Below.refl _ _)
        · have h0' : ¬ (s.size : Int) ≤ 6 := by omega
          have h01 : (1 : Int) ≤ s.size := by omega
          clear h0
          go_wp2_with fail
          go_ret2
          exact chrPost_none HX.out rfl (Below.refl _ _)
      · obtain ⟨hz0, hne⟩ := num_end HD.out (by omega) (by omega)
        have h06 : (s.size : Int) ≤ 6 := by omega
        have h01 : (1 : Int) ≤ s.size := by omega
        cases hm : mayI z with
        | true =>
          rw [hm] at hne
          have HX : Hid (numL 16 (bs s) = some z.toNat) := Lib.hid (by rw [hne]; rfl)
          have hmm : z ≤ 1114111 ∧ (z < 55296 ∨ 57343 < z) ∧ (32 ≤ z ∨ z = 9 ∨ z = 10 ∨ z = 13) := by
            simp [mayI] at hm
            omega
          obtain ⟨m1, m2, m3⟩ := hmm
          have HZ : Hid (((z.toNat : Nat) : Int) = z) := Lib.hid (by omega)
          clear hm hne h0
          have HU := Lib.hid (fun W => utf_c z W hz0 m1 m2)
          have m2' : (decide (z < 55296) || decide (57343 < z)) = true := by simp; omega
          rcases m3 with m3 | m3 | m3 | m3
          · rcases m2 with m2 | m2
            · go_wp2_with (go_at_call 64; refine (HU.out _).mono ?_; rintro e w2 ⟨rfl, hb2⟩)
              go_ret2
              exact chrPost_some HX.out (by rw [HZ.out]; rfl) hb2
            · have m22 : ¬ z < 55296 := by omega
              go_wp2_with (go_at_call 64; refine (HU.out _).mono ?_; rintro e w2 ⟨rfl, hb2⟩)
              go_ret2
              exact chrPost_some HX.out (by rw [HZ.out]; rfl) hb2
          · subst m3
            go_wp2_with (go_at_call 64; refine (HU.out _).mono ?_; rintro e w2 ⟨rfl, hb2⟩)
            go_ret2
            exact chrPost_some HX.out (by rw [HZ.out]; rfl) hb2
          · subst m3
            go_wp2_with (go_at_call 64; refine (HU.out _).mono ?_; rintro e w2 ⟨rfl, hb2⟩)
            go_ret2
            exact chrPost_some HX.out (by rw [HZ.out]; rfl) hb2
          · subst m3
            go_wp2_with (go_at_call 64; refine (HU.out _).mono ?_; rintro e w2 ⟨rfl, hb2⟩)
            go_ret2
            exact chrPost_some HX.out (by rw [HZ.out]; rfl) hb2
        | false =>
          rw [hm] at hne
          have HX : Hid (numL 16 (bs s) = none) := Lib.hid (by rw [hne]; rfl)
          have hmm : ¬ (z ≤ 1114111 ∧ (z < 55296 ∨ 57343 < z) ∧ (32 ≤ z ∨ z = 9 ∨ z = 10 ∨ z = 13)) := by
            simp [mayI] at hm
            omega
          clear hm hne h0
          by_cases n1 : 1114111 < z
          · go_wp2_with fail
            go_ret2
            exact chrPost_none HX.out rfl (Below.refl _ _)
          by_cases n2 : 55296 ≤ z ∧ z ≤ 57343
          · obtain ⟨n21, n22⟩ := n2
            clear hmm
            go_wp2_with fail
            go_ret2
            exact chrPost_none HX.out rfl (Below.refl _ _)
          · have n3 : z < 32 := by omega
            have n4 : ¬ z = 9 := by omega
            have n5 : ¬ z = 10 := by omega
            have n6 : ¬ z = 13 := by omega
            have n4b : (z == 9) = false := beq_eq_false_iff_ne.2 n4
            have n5b : (z == 10) = false := beq_eq_false_iff_ne.2 n5
            have n6b : (z == 13) = false := beq_eq_false_iff_ne.2 n6
            have n7 : z < 55296 := by omega
            have n3n : ¬ 32 ≤ z := by omega
            have n3d : decide (32 ≤ z) = false := by rw [decide_eq_false_iff_not]; omega
            clear hmm n2 n1
            have n1 : z ≤ 1114111 := by omega
            go_wp2_with fail
            go_ret2
            exact chrPost_none HX.out rfl (Below.refl _ _)

end Go.Proofs.YtlfpmfdlfhldbaaGreatDoor
