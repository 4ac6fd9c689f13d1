/-
  Contracts of ParseUint of at most six digits (strconv's inner one), to ten and to sixteen.
-/
import Derived.Test.YtkccockdnjjanaaGreatDoorTkNum
namespace Go.Proofs.YtkccockdnjjanaaGreatDoor
open Nwl
open Go.RowKit

set_option maxRecDepth 100000 in
set_option maxHeartbeats 1000000 in
theorem pu10_c (s : ByteArray) (w : World) (hne : 0 < s.size) (hs : s.size ≤ 6) :
    Calls Tryz.prog 133 #[.string s, .int .i64 10, .int .i64 32] w fun e w' => e = .returned (puVal 139 (valF 10 0 (bs s))) ∧ Below w.heap.size w w' := by
  obtain ⟨C, cap, hconv, hcells⟩ := bytes_made s w
  have hbel : Below w.heap.size w (w.drew.alloc (.cells C 5 (C.size, C.size + 1))) := ((Below.refl _ _).alloc (Nat.le_refl _) _).drew
  generalize w.drew.alloc (.cells C 5 (C.size, C.size + 1)) = W1 at hconv hcells hbel
  have h1 : ¬ s.toList = [] := toList_ne_of s hne
  have h2 : s.toList.isEmpty = false := by simpa using h1
  have hmv : IntKind.u64.wrap (IntKind.u64.wrap 4294967296 - 1) = 4294967295 := by
    rw [IntKind.wrap_u64, IntKind.wrap_u64]
    decide
  have HC := Lib.hid hcells
  clear hcells
  go_enter Tryz.func133, Tryz.ntmps133
  go_wp2
  go_loop [12, 13, 101] (fun vu vn vi => ∃ (k v : Nat) (a : Int), vu = .bool false ∧ vn = .int .u64 a ∧ vi = .int .i64 k ∧ k ≤ s.size ∧ Hid (a = (v : Int) ∧ v + 1 ≤ 16 ^ k ∧ valF 10 v ((bs s).drop k) = valF 10 0 (bs s))) (fun _ _ vi => s.size - (intOf vi).toNat)
  case atStart => exact ⟨0, 0, 0, rfl, rfl, rfl, by omega, rfl, by simp, by simp⟩
  case round =>
    obtain ⟨k, v, a, rfl, rfl, rfl, hk, hh⟩ := hrel
    by_cases hlt : k < s.size
    · obtain ⟨ha, hv, hval⟩ := hh.out
      clear hh
      have hp := pow16_le k (by omega)
      rw [drop_get s k hlt] at hval
      have hc := HC.out k hlt
      have a0 : 0 ≤ a := by omega
      have a1 : a ≤ 1048575 := by omega
      generalize s[k] = c at hc hval
      have hc256 : c.toNat < 256 := c.toNat_lt
      by_cases hdig : 48 ≤ c.toNat ∧ c.toNat ≤ 57
      · obtain ⟨hd0, hd1⟩ := hdig
        rw [valF_digit (digV_digit 10 c ⟨hd0, hd1⟩)] at hval
        have HN : Hid (a * 10 + ((c.toNat : Int) - 48) = ((v * 10 + (c.toNat - 48) : Nat) : Int) ∧ v * 10 + (c.toNat - 48) + 1 ≤ 16 ^ (k + 1) ∧ valF 10 (v * 10 + (c.toNat - 48)) ((bs s).drop (k + 1)) = valF 10 0 (bs s)) := Lib.hid ⟨by omega, by rw [Nat.pow_succ]; omega, hval⟩
        clear hval hv hp ha
        go_wp2
        refine ⟨⟨k + 1, v * 10 + (c.toNat - 48), a * 10 + ((c.toNat : Int) - 48), rfl, (by first | rfl | (congr 1; omega)), (by first | rfl | (congr 1; omega)), by omega, HN⟩, by simp [intOf]; omega⟩
      · rw [valF_none (digV_ten c hdig)] at hval
        replace hval := hval.symm
        clear hv hp ha
        have hs0 : 0 ≤ slowI (c.toNat : Int) := by rw [slowI_eq]; omega
        have hs1 : slowI (c.toNat : Int) ≤ 255 := by rw [slowI_eq]; have := (or32_facts c.toNat hc256).1; omega
        have ht0 : 123 ≤ slowI 95 := by rw [slowI_95]; decide
        go_wp2_with (go_at_call 136; refine (slower_c _ _).mono ?_; rintro e w' ⟨rfl, rfl⟩)
        all_goals go_ret2
        all_goals first | exact ⟨rfl, hbel⟩ | exact ⟨by rw [hval]; rfl, hbel⟩
    · obtain ⟨ha, _, hval⟩ := hh.out
      clear hh
      rw [List.drop_eq_nil_of_le (by rw [bs_length]; omega), valF] at hval
      subst ha
      replace hval := hval.symm
      go_wp2
      go_ret2
      first | exact ⟨rfl, hbel⟩ | exact ⟨by rw [hval]; rfl, hbel⟩

set_option maxRecDepth 100000 in
set_option maxHeartbeats 1000000 in
theorem pu16_c (s : ByteArray) (w : World) (hne : 0 < s.size) (hs : s.size ≤ 6) :
    Calls Tryz.prog 133 #[.string s, .int .i64 16, .int .i64 32] w fun e w' => e = .returned (puVal 139 (valF 16 0 (bs s))) ∧ Below w.heap.size w w' := by
  obtain ⟨C, cap, hconv, hcells⟩ := bytes_made s w
  have hbel : Below w.heap.size w (w.drew.alloc (.cells C 5 (C.size, C.size + 1))) := ((Below.refl _ _).alloc (Nat.le_refl _) _).drew
  generalize w.drew.alloc (.cells C 5 (C.size, C.size + 1)) = W1 at hconv hcells hbel
  have h1 : ¬ s.toList = [] := toList_ne_of s hne
  have h2 : s.toList.isEmpty = false := by simpa using h1
  have hmv : IntKind.u64.wrap (IntKind.u64.wrap 4294967296 - 1) = 4294967295 := by
    rw [IntKind.wrap_u64, IntKind.wrap_u64]
    decide
  have HC := Lib.hid hcells
  clear hcells
  go_enter Tryz.func133, Tryz.ntmps133
  go_wp2
  go_loop [12, 13, 101] (fun vu vn vi => ∃ (k v : Nat) (a : Int), vu = .bool false ∧ vn = .int .u64 a ∧ vi = .int .i64 k ∧ k ≤ s.size ∧ Hid (a = (v : Int) ∧ v + 1 ≤ 16 ^ k ∧ valF 16 v ((bs s).drop k) = valF 16 0 (bs s))) (fun _ _ vi => s.size - (intOf vi).toNat)
  case atStart => exact ⟨0, 0, 0, rfl, rfl, rfl, by omega, rfl, by simp, by simp⟩
  case round =>
    obtain ⟨k, v, a, rfl, rfl, rfl, hk, hh⟩ := hrel
    by_cases hlt : k < s.size
    · obtain ⟨ha, hv, hval⟩ := hh.out
      clear hh
      have hp := pow16_le k (by omega)
      rw [drop_get s k hlt] at hval
      have hc := HC.out k hlt
      have a0 : 0 ≤ a := by omega
      have a1 : a ≤ 1048575 := by omega
      generalize s[k] = c at hc hval
      have hc256 : c.toNat < 256 := c.toNat_lt
      by_cases hdig : 48 ≤ c.toNat ∧ c.toNat ≤ 57
      · obtain ⟨hd0, hd1⟩ := hdig
        rw [valF_digit (digV_digit 16 c ⟨hd0, hd1⟩)] at hval
        have HN : Hid (a * 16 + ((c.toNat : Int) - 48) = ((v * 16 + (c.toNat - 48) : Nat) : Int) ∧ v * 16 + (c.toNat - 48) + 1 ≤ 16 ^ (k + 1) ∧ valF 16 (v * 16 + (c.toNat - 48)) ((bs s).drop (k + 1)) = valF 16 0 (bs s)) := Lib.hid ⟨by omega, by rw [Nat.pow_succ]; omega, hval⟩
        clear hval hv hp ha
        go_wp2
        refine ⟨⟨k + 1, v * 16 + (c.toNat - 48), a * 16 + ((c.toNat : Int) - 48), rfl, (by first | rfl | (congr 1; omega)), (by first | rfl | (congr 1; omega)), by omega, HN⟩, by simp [intOf]; omega⟩
      · have hs0 : 0 ≤ slowI (c.toNat : Int) := by rw [slowI_eq]; omega
        have hs1 : slowI (c.toNat : Int) ≤ 255 := by rw [slowI_eq]; have := (or32_facts c.toNat hc256).1; omega
        have ht0 : 123 ≤ slowI 95 := by rw [slowI_95]; decide
        by_cases hx : 97 ≤ c.toNat ||| 32 ∧ c.toNat ||| 32 ≤ 102
        · rw [valF_digit (digV_hex c hdig hx)] at hval
          obtain ⟨hx0, hx1⟩ := hx
          have hy0 : 97 ≤ slowI (c.toNat : Int) := by rw [slowI_eq]; omega
          have hy1 : slowI (c.toNat : Int) ≤ 102 := by rw [slowI_eq]; omega
          have h95 : (((c.toNat : Nat) : Int) == 95) = false := by
            rw [beq_eq_false_iff_ne]
            intro e
            rw [e] at hy1
            omega
          have HN : Hid (a * 16 + (slowI (c.toNat : Int) - 97 + 10) = ((v * 16 + ((c.toNat ||| 32) - 87) : Nat) : Int) ∧ v * 16 + ((c.toNat ||| 32) - 87) + 1 ≤ 16 ^ (k + 1) ∧ valF 16 (v * 16 + ((c.toNat ||| 32) - 87)) ((bs s).drop (k + 1)) = valF 16 0 (bs s)) := Lib.hid ⟨by rw [slowI_eq]; omega, by rw [Nat.pow_succ]; omega, hval⟩
          clear hval hv hp ha hx0 hx1
          go_wp2_with (go_at_call 136; refine (slower_c _ _).mono ?_; rintro e w' ⟨rfl, rfl⟩)
          all_goals refine ⟨⟨k + 1, v * 16 + ((c.toNat ||| 32) - 87), a * 16 + (slowI (c.toNat : Int) - 97 + 10), rfl, (by first | rfl | (congr 1; omega)), (by first | rfl | (congr 1; omega)), by omega, HN⟩, by simp [intOf]; omega⟩
        · rw [valF_none (digV_nohex c hdig hx)] at hval
          replace hval := hval.symm
          have hy : ¬ (97 ≤ slowI (c.toNat : Int) ∧ slowI (c.toNat : Int) ≤ 102) := by rw [slowI_eq]; omega
          have hways : slowI (c.toNat : Int) < 97 ∨ (97 ≤ slowI (c.toNat : Int) ∧ slowI (c.toNat : Int) ≤ 122 ∧ 16 ≤ slowI (c.toNat : Int) - 97 + 10) ∨ 122 < slowI (c.toNat : Int) := by omega
          clear hv hp ha hx hy
          rcases hways with hw1 | ⟨hw1, hw2, hw3⟩ | hw1
          all_goals go_wp2_with (go_at_call 136; refine (slower_c _ _).mono ?_; rintro e w' ⟨rfl, rfl⟩)
          all_goals go_ret2
          all_goals first | exact ⟨rfl, hbel⟩ | exact ⟨by rw [hval]; rfl, hbel⟩
    · obtain ⟨ha, _, hval⟩ := hh.out
      clear hh
      rw [List.drop_eq_nil_of_le (by rw [bs_length]; omega), valF] at hval
      subst ha
      replace hval := hval.symm
      go_wp2
      go_ret2
      first | exact ⟨rfl, hbel⟩ | exact ⟨by rw [hval]; rfl, hbel⟩

end Go.Proofs.YtkccockdnjjanaaGreatDoor
