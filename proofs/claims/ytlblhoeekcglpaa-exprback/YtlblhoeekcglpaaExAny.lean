/-
  strings.IndexAny of the bytes that may not stand in a name, whatever bytes there are.
-/
import Derived.Test.YtlblhoeekcglpaaExMem
import Derived.Test.YtlblhoeekcglpaaShelf
import Derived.Laws.RangeAny
import Derived.Laws.Runes
import Derived.Lib.DecodeN
import Derived.Lib.IndexAny
import Derived.Deep.LoopGhost
import Derived.BigRegion
import Derived.Deep.RegionWith
namespace Nwl
open Go
theorem get_data (s : ByteArray) (j : Nat) (b : UInt8) (h : s.data.toList[j]? = some b) : s.get! j = b := by
  obtain ⟨hj, he⟩ := List.getElem?_eq_some_iff.1 h
  have hj' : j < s.data.size := by simpa using hj
  show s.data[j]! = b
  rw [getElem!_pos s.data j hj', ← he]
  rfl
theorem dec_hi (s : ByteArray) (i : Nat) (hi : i < s.size) (ha : 128 ≤ (s[i]'hi).toNat) (j : Nat) (b : UInt8) (hj : i ≤ j) (hj2 : j < i + (Utf8.decode s i).2) (hb : s.data.toList[j]? = some b) : 128 ≤ b.toNat := by
  have h0 : 128 ≤ (s.get! i).toNat := by
    have := get_at s i hi
    rw [Nat.add_zero] at this
    rw [this]; exact ha
  have hgb := get_data s j b hb
  rw [← hgb]
  clear hgb hb
  rw [Lib.decode_at] at hj2
  unfold Lib.decodeN at hj2
  have key : j = i ∨ (j = i + 1 ∧ (s.get! (i + 1)).toNat / 64 = 2) ∨ (j = i + 2 ∧ (s.get! (i + 2)).toNat / 64 = 2) ∨ (j = i + 3 ∧ (s.get! (i + 3)).toNat / 64 = 2) := by
    repeat' (split at hj2)
    all_goals (simp only at hj2; omega)
  rcases key with rfl | ⟨rfl, h⟩ | ⟨rfl, h⟩ | ⟨rfl, h⟩
  · exact h0
  · omega
  · omega
  · omega
theorem dec_ok (s : ByteArray) (i : Nat) (hi : i < s.size) (ha : 128 ≤ (s[i]'hi).toNat) : Utf8.valid ((Utf8.decode s i).1 : Int) = true := by
  have h0 : 128 ≤ (s.get! i).toNat := by
    have := get_at s i hi
    rw [Nat.add_zero] at this
    rw [this]; exact ha
  rw [validRune_eq]
  unfold validRune
  rw [decide_eq_true_eq, Lib.decode_at]
  unfold Lib.decodeN
  repeat' split
  all_goals (simp only; omega)
theorem noany_high {s : ByteArray} {i w : Nat} (h : Lib.NoAny s.data.toList [36, 123, 125] i) (hh : ∀ (j : Nat) (b : UInt8), i ≤ j → j < i + w → s.data.toList[j]? = some b → 128 ≤ b.toNat) : Lib.NoAny s.data.toList [36, 123, 125] (i + w) := by
  intro j b hj hb
  by_cases e : j < i
  · exact h j b e hb
  · have := hh j b (by omega) hj hb
    have h1 : b ≠ 36 := by rintro rfl; revert this; decide
    have h2 : b ≠ 123 := by rintro rfl; revert this; decide
    have h3 : b ≠ 125 := by rintro rfl; revert this; decide
    simp [h1, h2, h3]
theorem noany_end {s : ByteArray} {i : Nat} (h : Lib.NoAny s.data.toList [36, 123, 125] i) (hi : s.size ≤ i) : Lib.indexAny s.data.toList [36, 123, 125] = -1 := by
  refine Lib.indexAny_none fun j b hj hb => h j b ?_ hb
  rw [← Lib.size_eq] at hj
  omega
end Nwl
namespace Go.Proofs.Ytlblhoeekcglpaa
open Nwl
open Go.RowKit Go.Maps
set_option linter.unusedVariables false
set_option linter.unusedSimpArgs false

set_option maxRecDepth 100000 in
set_option maxHeartbeats 4000000 in
theorem rune_err (w : World) :
    Calls Try.prog 37 #[.string ⟨#[36, 123, 125]⟩, .int .i32 65533] w fun e w' => e = .returned (.int .i64 (-1)) ∧ Hid (Below w.heap.size w w') := by
  go_enter Try.func37, Try.ntmps37
  go_wp2_with fail
  go_loopg [5, 6] 3 (fun g _ _ wx => ∃ i : Nat, i + g = 3 ∧ wx = w.iter ⟨#[36, 123, 125]⟩ i)
  case atStart => exact ⟨0, by omega, rfl⟩
  case round =>
    obtain ⟨i, hig, rfl⟩ := hrel
    cases gk with
    | zero =>
      obtain rfl : i = 3 := by omega
      have hnx := run_next_end (P := Try.prog) w ⟨#[36, 123, 125]⟩ 3
      go_wp2_with fail
      go_ret
      exact ⟨rfl, Lib.hid ((Below.refl _ _).alloc (Nat.le_refl _) _)⟩
    | succ g =>
      have hi : i = 0 ∨ i = 1 ∨ i = 2 := by omega
      rcases hi with rfl | rfl | rfl
      · have hnx := fun ty => run_next_ascii (P := Try.prog) w ⟨#[36, 123, 125]⟩ 0 ty (by decide) (by decide)
        go_wp2_with fail
        go_roundg g
        case measure => omega
        case rel => exact ⟨1, by omega, rfl⟩
      · have hnx := fun ty => run_next_ascii (P := Try.prog) w ⟨#[36, 123, 125]⟩ 1 ty (by decide) (by decide)
        go_wp2_with fail
        go_roundg g
        case measure => omega
        case rel => exact ⟨2, by omega, rfl⟩
      · have hnx := fun ty => run_next_ascii (P := Try.prog) w ⟨#[36, 123, 125]⟩ 2 ty (by decide) (by decide)
        go_wp2_with fail
        go_roundg g
        case measure => omega
        case rel => exact ⟨3, by omega, rfl⟩

set_option maxRecDepth 100000 in
set_option maxHeartbeats 4000000 in
theorem rune_no (r : Int) (h128 : 128 ≤ r) (hv : Utf8.valid r = true) (w : World) :
    Calls Try.prog 37 #[.string ⟨#[36, 123, 125]⟩, .int .i32 r] w fun e w' => e = .returned (.int .i64 (-1)) ∧ Hid (Below w.heap.size w w') := by
  by_cases he : r = 65533
  · subst he
    exact rune_err w
  · obtain ⟨E, hE⟩ : ∃ E, Utf8.encode r = E := ⟨_, rfl⟩
    have hf := encode_facts r hv (by omega)
    rw [hE] at hf
    obtain ⟨f1, f2, f3⟩ := hf
    have hne : (r == 65533) = false := by rw [beq_eq_false_iff_ne]; omega
    have hlt : ¬ (r < 128) := by omega
    rw [validRune_eq] at hv
    have HV : Hid (Lib.validRune r = true) := Lib.hid hv
    clear hv h128
    have h234 : E.size = 2 ∨ E.size = 3 ∨ E.size = 4 := by omega
    rcases h234 with h2 | h2 | h2
    · have hb : 128 ≤ (E[1]'(by omega)).toNat := by
        have := f3 (by omega)
        simp only [h2] at this
        exact this
      obtain ⟨y, hy⟩ : ∃ y, ((E[1]'(by omega)).toNat : Int) = y := ⟨_, rfl⟩
      have hyc : Hid (Lib.indexByte ([125] : List UInt8) y.toNat.toUInt8 = -1) := Lib.hid (by
        obtain ⟨q, hq⟩ : ∃ q, E[1]'(by omega) = q := ⟨_, rfl⟩
        rw [hq] at hb hy
        have hback : y.toNat.toUInt8 = q := by rw [← hy]; simp
        rw [hback]
        have n1 : (125 == q) = false := by rw [beq_eq_false_iff_ne]; rintro rfl; revert hb; decide
        have n2 : (123 == q) = false := by rw [beq_eq_false_iff_ne]; rintro rfl; revert hb; decide
        simp [Lib.indexByte, n1])
      have hy1 : ¬ (123 : Int) = y := by omega
      have hy2 : ((((⟨#[36, 123, 125]⟩ : ByteArray)[1]'(by decide)).toNat : Int) != y) = true := by rw [bne_iff_ne]; exact hy1
      clear f1 f2 f3 hb
      go_enter Try.func37, Try.ntmps37
      go_wp2_with (go_at_call 46; refine (Try.utf8_ValidRune _ _).mono ?_; rintro e w' ⟨rfl, hw⟩; rw [hw, HV.out])
      refine wp_scope_straight ?_
      go_wp2_with fail
      go_loopw [9] (fun iv wr => iv = .int .i64 1 ∧ w = wr) (fun _ _ => 0)
      case atStart => exact ⟨by go_num, rfl⟩
      case round =>
        obtain ⟨rfl, rfl⟩ := hrel
        go_wp2_with fail
        refine wp_scope_straight ?_
        go_wp2_with fail
        go_region
        all_goals (
          go_wp2_with fail
          refine wp_region_any (by kernel_rfl) ?_
          change wpAny _ _ _ _ _ _ _ (World.drew _)
          refine wpAny_take (i := 0) (v := .string ⟨#[36, 123, 125]⟩) rfl (by kernel_rfl) (by kernel_rfl) (by kernel_rfl) (fun _ _ _ h => h) (Or.inl ⟨by rfl, fun W => by go_simp⟩) ?_
          simp only [Act.put, List.getElem_toArray, List.getElem_cons_zero, List.getElem_cons_succ, List.setIfInBounds_toArray, List.set_cons_zero, List.set_cons_succ]
          refine wpAny_take (i := 1) (v := .int .i64 1) rfl (by kernel_rfl) (by kernel_rfl) (by kernel_rfl) (fun _ _ _ h => h) (Or.inl ⟨by rfl, fun W => by go_simp⟩) ?_
          simp only [Act.put, List.getElem_toArray, List.getElem_cons_zero, List.getElem_cons_succ, List.setIfInBounds_toArray, List.set_cons_zero, List.set_cons_succ]
          refine wpAny_take (i := 2) (v := .int .i64 2) rfl (by kernel_rfl) (by kernel_rfl) (by kernel_rfl) (fun _ _ _ h => h) (Or.inl ⟨by rfl, fun W => by (go_simp; rfl)⟩) ?_
          simp only [Act.put, List.getElem_toArray, List.getElem_cons_zero, List.getElem_cons_succ, List.setIfInBounds_toArray, List.set_cons_zero, List.set_cons_succ]
          refine wpAny_take (i := 3) (v := .string (ByteArray.extract ⟨#[36, 123, 125]⟩ 2 3)) rfl (by kernel_rfl) (by kernel_rfl) (by kernel_rfl) (fun _ _ _ h => h) (Or.inl ⟨by rfl, fun W => by go_simp⟩) ?_
          simp only [Act.put, List.getElem_toArray, List.getElem_cons_zero, List.getElem_cons_succ, List.setIfInBounds_toArray, List.set_cons_zero, List.set_cons_succ]
          refine wpAny_take (i := 4) (v := .string E) rfl (by kernel_rfl) (by kernel_rfl) (by kernel_rfl) (fun _ _ _ h => h) (Or.inl ⟨by rfl, fun W => by go_simp⟩) ?_
          simp only [Act.put, List.getElem_toArray, List.getElem_cons_zero, List.getElem_cons_succ, List.setIfInBounds_toArray, List.set_cons_zero, List.set_cons_succ]
          refine wpAny_take (i := 5) (v := .int .i64 1) rfl (by kernel_rfl) (by kernel_rfl) (by kernel_rfl) (fun _ _ _ h => h) (Or.inl ⟨by rfl, fun W => by go_simp⟩) ?_
          simp only [Act.put, List.getElem_toArray, List.getElem_cons_zero, List.getElem_cons_succ, List.setIfInBounds_toArray, List.set_cons_zero, List.set_cons_succ]
          refine wpAny_take (i := 6) (v := .int .u8 y) rfl (by kernel_rfl) (by kernel_rfl) (by kernel_rfl) (fun _ _ _ h => h) (Or.inl ⟨by rfl, fun W => by go_simp⟩) ?_
          simp only [Act.put, List.getElem_toArray, List.getElem_cons_zero, List.getElem_cons_succ, List.setIfInBounds_toArray, List.set_cons_zero, List.set_cons_succ]
          refine wpAny_ready (rs := [7]) (by kernel_rfl) (by simp) ?_
          refine AllReady.cons rfl (fun K hK => ?_) AllReady.nil
          go_simp
          go_wp2_with (go_at_call 45; refine (Try.strings_IndexByte _ _ _).mono ?_; rintro e w2 ⟨rfl, hw2⟩)
          rw [hyc.out]
          refine wpAny_take (i := 8) (v := .int .i64 (-1)) rfl (by kernel_rfl) (by kernel_rfl) (by kernel_rfl) (fun _ _ _ h => h) (Or.inl ⟨by rfl, fun W => by go_simp⟩) ?_
          simp only [Act.put, List.getElem_toArray, List.getElem_cons_zero, List.getElem_cons_succ, List.setIfInBounds_toArray, List.set_cons_zero, List.set_cons_succ]
          refine wpAny_done (by kernel_rfl) ?_ _
          go_wp2_with fail
          simp +zetaDelta only [Exit.noGoto, Exit.inBlock, Exit.then]
          go_ret
          exact ⟨rfl, Lib.hid (Below.refl _ _).drew.drew⟩)
    · have hb : 128 ≤ (E[2]'(by omega)).toNat := by
        have := f3 (by omega)
        simp only [h2] at this
        exact this
      obtain ⟨y, hy⟩ : ∃ y, ((E[2]'(by omega)).toNat : Int) = y := ⟨_, rfl⟩
      have hyc : Hid (Lib.indexByte ([] : List UInt8) y.toNat.toUInt8 = -1) := Lib.hid (by
        obtain ⟨q, hq⟩ : ∃ q, E[2]'(by omega) = q := ⟨_, rfl⟩
        rw [hq] at hb hy
        have hback : y.toNat.toUInt8 = q := by rw [← hy]; simp
        rw [hback]
        have n1 : (125 == q) = false := by rw [beq_eq_false_iff_ne]; rintro rfl; revert hb; decide
        have n2 : (123 == q) = false := by rw [beq_eq_false_iff_ne]; rintro rfl; revert hb; decide
        rfl)
      have hy1 : ¬ (125 : Int) = y := by omega
      have hy2 : ((((⟨#[36, 123, 125]⟩ : ByteArray)[2]'(by decide)).toNat : Int) != y) = true := by rw [bne_iff_ne]; exact hy1
      clear f1 f2 f3 hb
      go_enter Try.func37, Try.ntmps37
      go_wp2_with (go_at_call 46; refine (Try.utf8_ValidRune _ _).mono ?_; rintro e w' ⟨rfl, hw⟩; rw [hw, HV.out])
      refine wp_scope_straight ?_
      go_wp2_with fail
      go_loopw [9] (fun iv wr => iv = .int .i64 2 ∧ w = wr) (fun _ _ => 0)
      case atStart => exact ⟨by go_num, rfl⟩
      case round =>
        obtain ⟨rfl, rfl⟩ := hrel
        go_wp2_with fail
        refine wp_scope_straight ?_
        go_wp2_with fail
        go_region
        all_goals (
          go_wp2_with fail
          refine wp_region_any (by kernel_rfl) ?_
          change wpAny _ _ _ _ _ _ _ (World.drew _)
          refine wpAny_take (i := 0) (v := .string ⟨#[36, 123, 125]⟩) rfl (by kernel_rfl) (by kernel_rfl) (by kernel_rfl) (fun _ _ _ h => h) (Or.inl ⟨by rfl, fun W => by go_simp⟩) ?_
          simp only [Act.put, List.getElem_toArray, List.getElem_cons_zero, List.getElem_cons_succ, List.setIfInBounds_toArray, List.set_cons_zero, List.set_cons_succ]
          refine wpAny_take (i := 1) (v := .int .i64 2) rfl (by kernel_rfl) (by kernel_rfl) (by kernel_rfl) (fun _ _ _ h => h) (Or.inl ⟨by rfl, fun W => by go_simp⟩) ?_
          simp only [Act.put, List.getElem_toArray, List.getElem_cons_zero, List.getElem_cons_succ, List.setIfInBounds_toArray, List.set_cons_zero, List.set_cons_succ]
          refine wpAny_take (i := 2) (v := .int .i64 3) rfl (by kernel_rfl) (by kernel_rfl) (by kernel_rfl) (fun _ _ _ h => h) (Or.inl ⟨by rfl, fun W => by (go_simp; rfl)⟩) ?_
          simp only [Act.put, List.getElem_toArray, List.getElem_cons_zero, List.getElem_cons_succ, List.setIfInBounds_toArray, List.set_cons_zero, List.set_cons_succ]
          refine wpAny_take (i := 3) (v := .string (ByteArray.extract ⟨#[36, 123, 125]⟩ 3 3)) rfl (by kernel_rfl) (by kernel_rfl) (by kernel_rfl) (fun _ _ _ h => h) (Or.inl ⟨by rfl, fun W => by go_simp⟩) ?_
          simp only [Act.put, List.getElem_toArray, List.getElem_cons_zero, List.getElem_cons_succ, List.setIfInBounds_toArray, List.set_cons_zero, List.set_cons_succ]
          refine wpAny_take (i := 4) (v := .string E) rfl (by kernel_rfl) (by kernel_rfl) (by kernel_rfl) (fun _ _ _ h => h) (Or.inl ⟨by rfl, fun W => by go_simp⟩) ?_
          simp only [Act.put, List.getElem_toArray, List.getElem_cons_zero, List.getElem_cons_succ, List.setIfInBounds_toArray, List.set_cons_zero, List.set_cons_succ]
          refine wpAny_take (i := 5) (v := .int .i64 2) rfl (by kernel_rfl) (by kernel_rfl) (by kernel_rfl) (fun _ _ _ h => h) (Or.inl ⟨by rfl, fun W => by go_simp⟩) ?_
          simp only [Act.put, List.getElem_toArray, List.getElem_cons_zero, List.getElem_cons_succ, List.setIfInBounds_toArray, List.set_cons_zero, List.set_cons_succ]
          refine wpAny_take (i := 6) (v := .int .u8 y) rfl (by kernel_rfl) (by kernel_rfl) (by kernel_rfl) (fun _ _ _ h => h) (Or.inl ⟨by rfl, fun W => by go_simp⟩) ?_
          simp only [Act.put, List.getElem_toArray, List.getElem_cons_zero, List.getElem_cons_succ, List.setIfInBounds_toArray, List.set_cons_zero, List.set_cons_succ]
          refine wpAny_ready (rs := [7]) (by kernel_rfl) (by simp) ?_
          refine AllReady.cons rfl (fun K hK => ?_) AllReady.nil
          go_simp
          go_wp2_with (go_at_call 45; refine (Try.strings_IndexByte _ _ _).mono ?_; rintro e w2 ⟨rfl, hw2⟩)
          rw [hyc.out]
          refine wpAny_take (i := 8) (v := .int .i64 (-1)) rfl (by kernel_rfl) (by kernel_rfl) (by kernel_rfl) (fun _ _ _ h => h) (Or.inl ⟨by rfl, fun W => by go_simp⟩) ?_
          simp only [Act.put, List.getElem_toArray, List.getElem_cons_zero, List.getElem_cons_succ, List.setIfInBounds_toArray, List.set_cons_zero, List.set_cons_succ]
          refine wpAny_done (by kernel_rfl) ?_ _
          go_wp2_with fail
          simp +zetaDelta only [Exit.noGoto, Exit.inBlock, Exit.then]
          go_ret
          exact ⟨rfl, Lib.hid (Below.refl _ _).drew.drew⟩)
    · clear f1 f2 f3
      go_enter Try.func37, Try.ntmps37
      go_wp2_with (go_at_call 46; refine (Try.utf8_ValidRune _ _).mono ?_; rintro e w' ⟨rfl, hw⟩; rw [hw, HV.out])
      refine wp_scope_straight ?_
      go_wp2_with fail
      go_loopw [9] (fun iv wr => iv = .int .i64 3 ∧ w = wr) (fun _ _ => 0)
      case atStart => exact ⟨by go_num, rfl⟩
      case round =>
        obtain ⟨rfl, rfl⟩ := hrel
        go_wp2_with fail
        simp only [Exit.noGoto, Exit.inBlock]
        go_ret
        exact ⟨rfl, Lib.hid (Below.refl _ _)⟩

set_option maxRecDepth 100000 in
set_option maxHeartbeats 8000000 in
theorem any_short (s : ByteArray) (w : World) (h8 : s.size ≤ 8) (F : Int) (hF : Lib.indexAny s.data.toList [36, 123, 125] = F) :
    Calls Try.prog 32 #[.string s, .string ⟨#[36, 123, 125]⟩] w fun e w' => e = .returned (.int .i64 F) ∧ Hid (Below w.heap.size w w') := by
  have HF := Lib.hid hF
  have h8z : decide ((8 : Int) < (s.size : Int)) = false := decide_eq_false (by omega)
  clear hF
  go_enter Try.func32, Try.ntmps32
  go_wp2_with (go_at_call 38; refine (Try.strings_shouldUseASCIISet _ _).mono ?_; rintro e w' ⟨rfl, hw⟩; rw [hw, h8z])
  go_loopg [9, 10] 9 (fun g _ _ wx => ∃ i : Nat, s.size ≤ i + g ∧ wx.heap[w.heap.size]? = some (.stringIter s i) ∧ Hid (Lib.NoAny s.data.toList [36, 123, 125] i ∧ Below w.heap.size w wx))
  case atStart => exact ⟨0, by omega, World.iter_heap w s 0, Lib.hid ⟨Lib.NoAny.zero _ _, (Below.refl _ _).alloc (Nat.le_refl _) _⟩⟩
  case round =>
    obtain ⟨i, hig, hit, hno⟩ := hrel
    by_cases hi : i < s.size
    · obtain ⟨g, rfl⟩ : ∃ g, gk = g + 1 := ⟨gk - 1, by omega⟩
      have hnx := fun ty => Lib.run_next_any_at (P := Try.prog) wr w.heap.size s i ty hit hi
      have hit2 := Lib.iterAt_heap wr w.heap.size s i (i + (Utf8.decode s i).2) hit
      have HB : Hid (Below w.heap.size w (wr.iterAt w.heap.size s (i + (Utf8.decode s i).2))) := Lib.hid (Lib.below_iterAt hno.out.2 (Nat.le_refl _) s _)
      have HNO := Lib.hid hno.out.1
      obtain ⟨W1, hW1⟩ : ∃ W1, W1 = wr.iterAt w.heap.size s (i + (Utf8.decode s i).2) := ⟨_, rfl⟩
      rw [← hW1] at hnx hit2 HB
      by_cases ha : 128 ≤ (s[i]'hi).toNat
      · have hd := decode_high s i hi ha
        have HV := Lib.hid (dec_ok s i hi ha)
        have HN2 : Hid (Lib.NoAny s.data.toList [36, 123, 125] (i + (Utf8.decode s i).2)) := Lib.hid (noany_high HNO.out (fun j b h1 h2 h3 => dec_hi s i hi ha j b h1 h2 h3))
        obtain ⟨v, hv⟩ : ∃ v : Int, ((Utf8.decode s i).1 : Int) = v := ⟨_, rfl⟩
        obtain ⟨hd1, hd2⟩ := hd
        have hv1 : 128 ≤ v := by omega
        rw [hv] at hnx HV
        have hi2 : Hid (s.size ≤ i + (Utf8.decode s i).2 + g) := Lib.hid (by omega)
        generalize i + (Utf8.decode s i).2 = i2 at *
        clear hd1 hd2 hv ha hno hW1 hig
        go_wp2_with (go_at_call 37; refine (rune_no v hv1 HV.out _).mono ?_; rintro e w2 ⟨rfl, b2⟩)
        have hit3 : w2.heap[w.heap.size]? = some (.stringIter s i2) := (b2.out.block w.heap.size (Array.getElem?_eq_some_iff.1 hit2).1).trans hit2
        have HB3 := Lib.hid (HB.out.trans (b2.out.mono HB.out.size))
        go_roundg g
        case measure => omega
        case rel => exact ⟨i2, hi2.out, hit3, Lib.hid ⟨HN2.out, HB3.out⟩⟩
      · have hlo : (s[i]'hi).toNat < 128 := by omega
        have hda := decode_ascii s i hi hlo
        rw [hda] at hnx hit2 hW1
        obtain ⟨x, hx⟩ : ∃ x : UInt8, s[i]'hi = x := ⟨_, rfl⟩
        have Hx : Hid (s.data.toList[i]? = some x) := Lib.hid (by rw [← hx]; exact Lib.data_getElem? s i hi)
        rw [hx] at hnx hlo
        have hback : ((x.toNat : Int)).toNat.toUInt8 = x := by simp
        have hcon := Lib.contains_iff_indexByte ([36, 123, 125] : List UInt8) x
        obtain ⟨v, hv⟩ : ∃ v : Int, (x.toNat : Int) = v := ⟨_, rfl⟩
        have hv1 : 0 ≤ v := by omega
        have hv2 : v < 128 := by omega
        obtain ⟨q, hq⟩ : ∃ q, Lib.indexByte ([36, 123, 125] : List UInt8) x = q := ⟨_, rfl⟩
        have hq2 : Lib.indexByte ([36, 123, 125] : List UInt8) v.toNat.toUInt8 = q := by rw [← hv, hback]; exact hq
        have HQ := Lib.hid hq2
        rw [hq] at hcon
        dsimp only at hnx hit2
        rw [hv] at hnx
        cases hin : List.contains ([36, 123, 125] : List UInt8) x with
        | false =>
          rw [hin] at hcon
          have hlt : ¬ ((0 : Int) ≤ q) := of_decide_eq_false hcon.symm
          have HN2 : Hid (Lib.NoAny s.data.toList [36, 123, 125] (i + 1)) := Lib.hid (HNO.out.succ Hx.out hin)
          have hi2 : Hid (s.size ≤ i + 1 + g) := Lib.hid (by omega)
          clear hcon hback hq hq2 hv hda hx hlo ha hno hW1 hig hin
          go_wp2_with (go_at_call 37; refine (Try.strings_IndexRune_ascii _ v _ hv1 hv2).mono ?_; rintro e w2 ⟨rfl, hw2⟩; rw [hw2, show Lib.indexByte (⟨#[36, 123, 125]⟩ : ByteArray).data.toList v.toNat.toUInt8 = q from HQ.out])
          go_roundg g
          case measure => omega
          case rel => exact ⟨i + 1, hi2.out, hit2, Lib.hid ⟨HN2.out, HB.out⟩⟩
        | true =>
          rw [hin] at hcon
          have hge : (0 : Int) ≤ q := of_decide_eq_true hcon.symm
          have HE : Hid ((i : Int) = F) := Lib.hid (by rw [← HF.out, Lib.indexAny_hit HNO.out Hx.out hin])
          clear hcon hback hq hq2 hv hda hx hlo ha hno hW1 hig hin
          go_wp2_with (go_at_call 37; refine (Try.strings_IndexRune_ascii _ v _ hv1 hv2).mono ?_; rintro e w2 ⟨rfl, hw2⟩; rw [hw2, show Lib.indexByte (⟨#[36, 123, 125]⟩ : ByteArray).data.toList v.toNat.toUInt8 = q from HQ.out])
          go_ret
          exact ⟨by rw [← HE.out]; rfl, HB⟩
    · have hnx := fun ty => Lib.run_next_end_at (P := Try.prog) wr w.heap.size s i ty hit hi
      have HE : Hid (-1 = F) := Lib.hid (by rw [← HF.out, noany_end hno.out.1 (by omega)])
      have HB := Lib.hid hno.out.2
      clear hno
      go_wp2_with fail
      go_ret
      exact ⟨by rw [← HE.out]; rfl, HB⟩

theorem anyE_c (s : ByteArray) (w : World) (hs : s.size ≤ 100000) (F : Int) (hF : Lib.indexAny (bs s) [36, 123, 125] = F) :
    Calls Try.prog 32 #[.string s, .string ⟨#[36, 123, 125]⟩] w fun e w' => e = .returned (.int .i64 F) ∧ Hid (Below w.heap.size w w') := by
  by_cases h8 : s.size ≤ 8
  · exact any_short s w h8 F hF
  · refine (Try.strings_IndexAny_long (zero_of_info (n := 256) (by kernel_rfl)).1 s ⟨#[36, 123, 125]⟩ w (by decide) (by omega) (by omega) (by decide) ?_).mono ?_
    · intro j b hb
      have hm := List.mem_of_getElem? hb
      have : b = 36 ∨ b = 123 ∨ b = 125 := by simpa using hm
      rcases this with rfl | rfl | rfl <;> decide
    · rintro e w' ⟨rfl, rfl⟩
      exact ⟨by rw [← hF]; rfl, Lib.hid (((Below.refl _ _).alloc (Nat.le_refl _) _).alloc (by simp) _)⟩
end Go.Proofs.Ytlblhoeekcglpaa
