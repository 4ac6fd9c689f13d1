/-
  The walk of OrderOne.
-/
import Derived.Test.YtkknhkfpabcjoaaDoorOrAwake
import Derived.Test.YtkknhkfpabcjoaaDoorGnRow
namespace Go.Proofs.YtkknhkfpabcjoaaDoor
open Nwl
open Go.RowKit Go.Maps
set_option linter.unusedVariables false

theorem few3 (a b c : List UInt8) : fewL [a, b, c] = (decide (a.length ≤ 100) && (decide (b.length ≤ 100) && decide (c.length ≤ 100))) := by
  simp [fewL]
theorem str3 (w : World) (a b c : ByteArray) : StrR (w.heap.size + 1) (w.alloc (.cells #[.string a, .string b, .string c] 9)) (some ⟨w.heap.size, 0, none⟩) 3 [bs a, bs b, bs c] :=
  StrR.blk (l := [bs a, bs b, bs c]) (Blk.new w 9 #[.string a, .string b, .string c]) (Nat.lt_succ_self w.heap.size) rfl
theorem mem3 {P : List UInt8 → Prop} {a b c : List UInt8} (ha : P a) (hb : P b) (hc : P c) : ∀ x ∈ [a, b, c], P x := by
  intro x hx
  simp at hx
  rcases hx with rfl | rfl | rfl <;> assumption

set_option maxRecDepth 100000 in
set_option maxHeartbeats 2000000 in
theorem OrderOne_walk (a b c : ByteArray) (w : World) (ha : a.size ≤ maxLen) (hb : b.size ≤ maxLen) (hc : c.size ≤ maxLen) (hg : Glob w) :
    Calls Tryd.prog 4 #[.string a, .string b, .string c] w fun e w' => e = .returned (.bool true) ∧ Below w.heap.size w w' := by
  clear hg
  have H3 := Lib.hid (str3 w a b c)
  have HM : Hid (∀ x ∈ [bs a, bs b, bs c], x.length ≤ maxLen) := Lib.hid (mem3 (by rw [bs_length]; exact ha) (by rw [bs_length]; exact hb) (by rw [bs_length]; exact hc))
  have B0 : Hid (Below w.heap.size w (w.alloc (.cells #[.string a, .string b, .string c] 9))) := Lib.hid ((Below.refl _ _).alloc (Nat.le_refl _) _)
  have h3m : 3 ≤ maxLen := by unfold maxLen; decide
  cases hf : fewL [bs a, bs b, bs c] with
  | false =>
    have HF := Lib.hid hf
    clear hf ha hb hc
    go_enter Tryd.func4, Tryd.ntmps4
    go_wp2_with fail
    refine (few_c _ 3 3 _ _ _ H3.out h3m HM.out false HF.out).mono ?_
    rintro e w1 ⟨rfl, rfl⟩
    go_wp2_with fail
    refine (awake6_c _).mono ?_
    rintro e w2 ⟨rfl, b2⟩
    have B2 := Lib.hid (B0.out.trans (b2.out.mono B0.out.size))
    clear b2
    go_wp2_with fail
    go_ret
    exact ⟨rfl, B2.out⟩
  | true =>
    have HF := Lib.hid hf
    rw [few3] at hf
    simp only [Bool.and_eq_true, decide_eq_true_eq, bs_length] at hf
    have sa : a.size ≤ 1000 := by omega
    have sb : b.size ≤ 1000 := by omega
    have sc : c.size ≤ 1000 := by omega
    obtain ⟨x, hx⟩ : ∃ x, cmpV (bs a) (bs b) = x := ⟨_, rfl⟩
    obtain ⟨y, hy⟩ : ∃ y, cmpV (bs b) (bs c) = y := ⟨_, rfl⟩
    obtain ⟨z, hz⟩ : ∃ z, cmpV (bs a) (bs c) = z := ⟨_, rfl⟩
    obtain ⟨v, hv⟩ : ∃ v, cmpV (bs b) (bs a) = v := ⟨_, rfl⟩
    have HX := Lib.hid hx
    have HY := Lib.hid hy
    have HZ := Lib.hid hz
    have HV := Lib.hid hv
    have HA : Hid (cmpV (bs a) (bs a) = 0) := Lib.hid (ord_v.refl _)
    have hxv : v = -x := by rw [← hv, ← hx]; exact ord_v.anti _ _
    have s1 := ord_v.sgn (bs a) (bs b)
    have s2 := ord_v.sgn (bs b) (bs c)
    have s3 := ord_v.sgn (bs a) (bs c)
    have t1 := ord_v.trans (bs a) (bs b) (bs c)
    have t2 := ord_v.trans (bs c) (bs b) (bs a)
    have e1 := fun h => ord_v.same (a := bs a) (b := bs b) (bs c) h
    have a1 := ord_v.anti (bs a) (bs b)
    have a2 := ord_v.anti (bs b) (bs c)
    have a3 := ord_v.anti (bs a) (bs c)
    have e2 := fun h => ord_v.same (a := bs b) (b := bs c) (bs a) h
    rw [a1, a2, a3] at t2
    rw [a1, a3] at e2
    rw [hx] at s1 t1 t2 e1 e2
    rw [hy] at s2 t1 t2 e1 e2
    rw [hz] at s3 t1 t2 e1 e2
    clear a1 a2 a3 hx hy hz hv ha hb hc hf
    rcases s1 with rfl | rfl | rfl <;> rcases s2 with rfl | rfl | rfl <;> rcases s3 with rfl | rfl | rfl
    all_goals first
      | (exfalso; omega)
      | (obtain rfl := hxv
         clear t1 t2 e1 e2
         go_enter Tryd.func4, Tryd.ntmps4
         go_wp2_with fail
         refine (few_c _ 3 3 _ _ _ H3.out h3m HM.out true HF.out).mono ?_
         rintro e w1 ⟨rfl, rfl⟩
         go_wp2_with fail
         refine (Compare_c a b _ sa sb _ HX.out).mono ?_
         rintro e w2 ⟨rfl, b2⟩
         have B2 := Lib.hid (B0.out.trans (b2.out.mono B0.out.size))
         clear b2
         go_wp2_with fail
         refine (Compare_c b c _ sb sc _ HY.out).mono ?_
         rintro e w3 ⟨rfl, b3⟩
         have B3 := Lib.hid (B2.out.trans (b3.out.mono B2.out.size))
         clear b3
         go_wp2_with fail
         refine (Compare_c a c _ sa sc _ HZ.out).mono ?_
         rintro e w4 ⟨rfl, b4⟩
         have B4 := Lib.hid (B3.out.trans (b4.out.mono B3.out.size))
         clear b4
         go_wp2_with fail
         refine (awake6_c _).mono ?_
         rintro e w5 ⟨rfl, b5⟩
         have B5 := Lib.hid (B4.out.trans (b5.out.mono B4.out.size))
         clear b5
         go_wp2_with fail
         refine (Compare_c a a _ sa sa 0 HA.out).mono ?_
         rintro e w6 ⟨rfl, b6⟩
         have B6 := Lib.hid (B5.out.trans (b6.out.mono B5.out.size))
         clear b6
         go_wp2_with fail
         refine (Compare_c b a _ sb sa _ HV.out).mono ?_
         rintro e w7 ⟨rfl, b7⟩
         have B7 := Lib.hid (B6.out.trans (b7.out.mono B6.out.size))
         clear b7
         go_wp2_with fail
         go_ret
         exact ⟨rfl, B7.out⟩)
end Go.Proofs.YtkknhkfpabcjoaaDoor
