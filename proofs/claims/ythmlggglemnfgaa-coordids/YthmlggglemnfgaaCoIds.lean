/-
  The walk of CoordIds.
-/
import Derived.Test.YthmlggglemnfgaaCoAwake
import Derived.Test.YthmlggglemnfgaaGnIdx
import Derived.Deep.DeepCutAuto
namespace Nwl
theorem id_one (d : UInt8) : idL [d] = idI d.toNat := by unfold idL; simp [id8]
theorem id_a (d : UInt8) : idL ([97] ++ [d]) = idI d.toNat := by
  have h : idI (97 : UInt8).toNat = true := by decide
  unfold idL
  rw [List.singleton_append, List.all_cons, List.all_cons, List.all_nil]
  unfold id8
  rw [h]
  simp
theorem id_twice (l : List UInt8) (h : l.length ≤ 100) : idL (l ++ l) = idL l := by
  unfold idL
  rw [List.all_append, List.length_append, Bool.and_self, decide_eq_true (by omega : l.length + l.length ≤ 500), decide_eq_true (by omega : l.length ≤ 500)]
  congr 1
  rw [Bool.eq_iff_iff, decide_eq_true_eq, decide_eq_true_eq]
  omega
theorem ids_two : parX [103, 58, 97] = (⟨[], [], []⟩, false) := by decide +kernel
theorem ids_four : parX [103, 58, 97, 58, 49, 58, 50] = (⟨[], [], []⟩, false) := by decide +kernel
theorem ids_none : parX [] = (⟨[], [], []⟩, false) := by decide +kernel
theorem ids_no : idL [] = false := by decide
end Nwl
namespace Go.Proofs.Ythmlggglemnfgaa
open Nwl
open Go.RowKit Go.Maps
set_option linter.unusedVariables false
set_option linter.unusedSimpArgs false

set_option maxRecDepth 100000 in
set_option maxHeartbeats 4000000 in
theorem CoordIds_walk (c : Int) (s : ByteArray) (w : World) (hc : (Lit.int .u8 c).wf = true) (hs : s.size ≤ maxLen) :
    Calls Try.prog 4 #[.int .u8 c, .string s] w fun e w' => e = .returned (.bool true) ∧ Below w.heap.size w w' := by
  obtain ⟨d, hd⟩ := byteN c hc
  by_cases h0 : 100 < s.size
  · have k1 : (100 : Int) < (s.size : Int) := by omega
    clear hc hd hs h0
    go_enter Try.func4, Try.ntmps4
    go_wp2_with fail
    refine (awake9_c _).mono ?_
    rintro e w1 ⟨rfl, b1⟩
    go_wp2_with fail
    go_ret
    exact ⟨rfl, b1.out⟩
  · have k1 : ¬ (100 : Int) < (s.size : Int) := by omega
    obtain ⟨m, hm⟩ : ∃ m, idI c = m := ⟨_, rfl⟩
    obtain ⟨n, hn⟩ : ∃ n, idL (bs s) = n := ⟨_, rfl⟩
    have HM := Lib.hid hm
    have HD := Lib.hid hd
    have HX : Hid (idL (bs (tx [d])) = m) := Lib.hid ((id_one d).trans (by rw [← hd]; exact hm))
    have HA : Hid (idL (bs (tx ([97] ++ [d]))) = m) := Lib.hid ((id_a d).trans (by rw [← hd]; exact hm))
    have HN := Lib.hid hn
    have HS : Hid (idL (bs (s ++ s)) = n) := Lib.hid (by rw [bs_append, id_twice _ (by rw [bs_length]; omega)]; exact hn)
    have s1 : s.size ≤ 1000000000000000 := by omega
    have s2 : (s ++ s).size ≤ 1000000000000000 := by rw [ByteArray.size_append]; omega
    have k2 : ¬ 9223372036854775807 < s.size + s.size := by omega
    clear hd hm hn hc hs h0
    go_enter Try.func4, Try.ntmps4
    go_upto_region 3 with fail
    go_cut [0, 1, 5] (fun v0 v1 v wx => v0 = .int .u8 c ∧ v1 = .string s ∧ v = .bool m ∧ w = wx)
    case first =>
      go_wp2_with fail
      all_goals go_meet
      all_goals exact ⟨by simp [*], by simp [*], by rw [← HM.out]; congr 1; rw [Bool.eq_iff_iff]; simp [idI, letterI, upperI, digitI, *] <;> omega, rfl⟩
    case rest =>
    obtain ⟨rfl, rfl, rfl, rfl⟩ := hcut
    have hc := HD.out
    subst hc
    clear HD HM
    have hcat2 : (⟨#[97]⟩ : ByteArray) ++ tx [d] = tx ([97] ++ [d]) := txA [97] [d]
    have hz2 : (tx [d]).size = 1 := rfl
    have hconv := one_byte (w.alloc (.cells #[.int .u8 (d.toNat : Int)] 5)) w.heap.size d ((Blk.new w 5 _).cell 0)
    have B0 := Lib.hid ((Below.refl w.heap.size w).alloc (Nat.le_refl _) (.cells #[.int .u8 (d.toNat : Int)] 5))
    go_wp2_with fail
    refine (CParse_c ⟨#[103, 58, 97]⟩ _ (by decide) [] [] [] false ids_two).mono ?_
    rintro e w1 ⟨rfl, b1⟩
    have B1 := Lib.hid ((B0.out.trans (b1.out.mono B0.out.size)).alloc (Nat.le_trans B0.out.size b1.out.size) (.cells #[.string (tx []), .string (tx []), .string (tx [])] 32))
    clear b1 B0
    go_wp2_with fail
    refine (CParse_c ⟨#[103, 58, 97, 58, 49, 58, 50]⟩ _ (by decide) [] [] [] false ids_four).mono ?_
    rintro e w2 ⟨rfl, b2⟩
    have B2 := Lib.hid ((B1.out.trans (b2.out.mono B1.out.size)).alloc (Nat.le_trans B1.out.size b2.out.size) (.cells #[.string (tx []), .string (tx []), .string (tx [])] 32))
    clear b2 B1
    go_wp2_with fail
    refine (CParse_c ⟨#[]⟩ _ (by decide) [] [] [] false ids_none).mono ?_
    rintro e w3 ⟨rfl, b3⟩
    have B3 := Lib.hid ((B2.out.trans (b3.out.mono B2.out.size)).alloc (Nat.le_trans B2.out.size b3.out.size) (.cells #[.string (tx []), .string (tx []), .string (tx [])] 32))
    clear b3 B2
    go_wp2_with fail
    refine (awake9_c _).mono ?_
    rintro e w4 ⟨rfl, b4⟩
    have B4 := Lib.hid (B3.out.trans (b4.out.mono B3.out.size))
    clear b4 B3
    go_wp2_with fail
    refine (Id_c (tx [d]) _ (by rw [tx_size]; simp) m HX.out).mono ?_
    rintro e w5 ⟨rfl, rfl⟩
    go_wp2_with fail
    refine (Id_c (tx ([97] ++ [d])) _ (by rw [tx_size]; simp) m HA.out).mono ?_
    rintro e w5 ⟨rfl, rfl⟩
    go_wp2_with fail
    refine (Id_c ⟨#[]⟩ _ (by decide) false ids_no).mono ?_
    rintro e w5 ⟨rfl, rfl⟩
    go_wp2_with fail
    refine (Id_c (s ++ s) _ s2 n HS.out).mono ?_
    rintro e w5 ⟨rfl, rfl⟩
    go_wp2_with fail
    refine (Id_c s _ s1 n HN.out).mono ?_
    rintro e w5 ⟨rfl, rfl⟩
    go_wp2_with fail
    go_ret
    exact ⟨rfl, B4.out⟩
end Go.Proofs.Ythmlggglemnfgaa
