/-
  The walk of TokenTells.
-/
import Derived.Test.YtlfpmfdlfhldbaaGreatDoorRfSplit
import Derived.Test.YtlfpmfdlfhldbaaGreatDoorTtSame
import Derived.Test.YtlfpmfdlfhldbaaGreatDoorTtMath
import Derived.Test.YtlfpmfdlfhldbaaGreatDoorTkAwake
namespace Nwl
theorem splitT_attrs (l : List UInt8) : ∀ t ∈ splitT l, t.attrs.length ≤ l.length := by
  unfold splitT
  split
  · intro t ht; simp at ht
  · split
    · cases h : splitL l with
      | none => intro t ht; simp at ht
      | some ts => exact splitL_attrs h
    · intro t ht; simp at ht
theorem splitT_len (l : List UInt8) : (splitT l).length ≤ l.length := by
  unfold splitT
  split
  · simp
  · split
    · cases h : splitL l with
      | none => simp
      | some ts => exact splitF_len _ _ _ _ h
    · simp
end Nwl
namespace Go.Proofs.YtlfpmfdlfhldbaaGreatDoor
open Nwl
open Go.RowKit Go.Maps
set_option linter.unusedVariables false
set_option linter.unusedSimpArgs false

theorem refEnt_e (s : ByteArray) (w : World) (hs : s.size ≤ 100000) :
    Calls Tryz.prog 9 #[.string s] w fun e w' => e = .returned (.tuple #[.string (entS (entL (bs s))), .int .i64 (entE (entL (bs s)))]) ∧ Below w.heap.size w w' := by
  refine (refEntities_c s w hs).mono ?_
  rintro e w' ⟨he, hb⟩
  refine ⟨?_, hb⟩
  rw [he]
  cases entL (bs s) <;> rfl

set_option maxRecDepth 100000 in
set_option maxHeartbeats 2000000 in
theorem TokenTells_walk (s : ByteArray) (w : World) (hs : s.size ≤ maxLen) (hg : Glob w) :
    Calls Tryz.prog 3 #[.string s] w fun e w' => e = .returned (.bool true) ∧ Below w.heap.size w w' := by
  by_cases hbig : 3000 < s.size
  · have hbI : (3000 : Int) < (s.size : Int) := by omega
    have HG := Lib.hid hg
    clear hg hs
    go_enter Tryz.func3, Tryz.ntmps3
    go_wp2_with fail
    refine (awake_c _ HG.out).mono ?_
    rintro e w1 ⟨rfl, b1⟩
    have B1 := Lib.hid b1
    clear b1
    go_wp2_with fail
    go_ret
    exact ⟨rfl, B1.out⟩
  · have hbI : ¬ (3000 : Int) < (s.size : Int) := by omega
    have HG := Lib.hid hg
    obtain ⟨ts, hts⟩ : ∃ ts, splitT (bs s) = ts := ⟨_, rfl⟩
    obtain ⟨n, hn⟩ : ∃ n, (splitT (bs s)).length = n := ⟨_, rfl⟩
    obtain ⟨x, hx⟩ : ∃ x, splitE (bs s) = x := ⟨_, rfl⟩
    obtain ⟨y, hy⟩ : ∃ y, entS (entL (bs s)) = y := ⟨_, rfl⟩
    obtain ⟨z, hz⟩ : ∃ z, entE (entL (bs s)) = z := ⟨_, rfl⟩
    have hn3 : n ≤ 3000 := by have := splitT_len (bs s); rw [hn, bs_length] at this; omega
    have HAT : Hid (∀ t ∈ ts, t.attrs.length ≤ 100000) := Lib.hid (by
      intro t ht
      rw [← hts] at ht
      have := splitT_attrs (bs s) t ht
      rw [bs_length] at this
      omega)
    have HN : Hid (n = ts.length) := Lib.hid (by rw [← hn, hts])
    have h1 : s.size ≤ 100000 := by omega
    have HS : Hid (∀ (e : Ending) (W W' : World), SplitPost (bs s) W e W' → ∃ (A : Option Addr) (c : Nat), e = .returned (.tuple #[.slice A n c, .int .i64 x]) ∧ ToksAt W.heap.size W' (.slice A n c) ts ∧ Below W.heap.size W W') := Lib.hid (by
      rintro e W W' ⟨A, c, q1, q2, q3⟩
      rw [hn, hx] at q1
      rw [hn, hts] at q2
      exact ⟨A, c, q1, q2, q3⟩)
    have HY := Lib.hid hy
    have HZ := Lib.hid hz
    clear hg hts hn hx hy hz
    go_enter Tryz.func3, Tryz.ntmps3
    go_wp2_with fail
    refine (Split_c s _ hs HG.out).mono ?_
    intro e w1 hp
    obtain ⟨A1, c1, rfl, t1, b1⟩ := HS.out _ _ _ hp
    have R1 := Lib.hid (TokRd.of t1 HN.out (Nat.le_refl _))
    have B1 := Lib.hid b1
    have G1 := Lib.hid (HG.out.below b1)
    clear hp t1 b1 hbI
    go_wp2_with fail
    refine (rSplit_c s _ hs).mono ?_
    intro e w2 hp
    obtain ⟨A2, c2, rfl, t2, b2⟩ := HS.out _ _ _ hp
    have R12 := Lib.hid (R1.out.below b2)
    have R2 := Lib.hid (TokRd.of t2 HN.out (Nat.le_refl _))
    have B2 := Lib.hid (B1.out.trans (b2.mono B1.out.size))
    have G2 := Lib.hid (G1.out.below b2)
    have Z12 : w1.heap.size ≤ w2.heap.size := b2.size
    clear hp t2 b2 B1 R1
    go_wp2_with fail
    refine (Entities_c s _ h1 G2.out).mono ?_
    rw [HY.out, HZ.out]
    rintro e w3 ⟨rfl, b3⟩
    have R13 := Lib.hid (R12.out.below (b3.mono Z12))
    have R3 := Lib.hid (R2.out.below b3)
    have B3 := Lib.hid (B2.out.trans (b3.mono B2.out.size))
    have G3 := Lib.hid (G2.out.below b3)
    have Z3 : w2.heap.size ≤ w3.heap.size := b3.size
    clear b3 B2 R2 R12
    go_wp2_with fail
    refine (refEnt_e s _ h1).mono ?_
    rw [HY.out, HZ.out]
    rintro e w4 ⟨rfl, b4⟩
    have R14 := Lib.hid (R13.out.below (b4.mono (Nat.le_trans Z12 Z3)))
    have R4 := Lib.hid (R3.out.below (b4.mono Z3))
    have B4 := Lib.hid (B3.out.trans (b4.mono B3.out.size))
    have G4 := Lib.hid (G3.out.below b4)
    have Z4 : w3.heap.size ≤ w4.heap.size := b4.size
    clear b4 B3 R3 R13
    go_wp2_with fail
    refine (awake_c _ G4.out).mono ?_
    rintro e w5 ⟨rfl, b5⟩
    have R15 := Lib.hid (R14.out.below (b5.mono (Nat.le_trans Z12 (Nat.le_trans Z3 Z4))))
    have R5 := Lib.hid (R4.out.below (b5.mono (Nat.le_trans Z3 Z4)))
    have B5 := Lib.hid (B4.out.trans (b5.mono B4.out.size))
    have Z5 : w4.heap.size ≤ w5.heap.size := b5.size
    have R16 : Hid (TokRd w2.heap.size w5 A1 n ts) := Lib.hid ⟨R15.out.1, fun j hj => by
      obtain ⟨b, o, A', l, c, q1, q2, q3, q4, q5, q6, q7, q8⟩ := R15.out.2 j hj
      exact ⟨b, o, A', l, c, q1, by omega, q3, q4, q5, q6, q7, ⟨q8.1, fun i hi => by
        obtain ⟨b', o', p1, p2, p3, p4⟩ := q8.2 i hi
        exact ⟨b', o', p1, by omega, p3, p4⟩⟩⟩⟩
    clear b5 B4 R4 R14 G1 G2 G3 G4
    go_wp2_with fail
    refine (SameT_r A1 A2 n c1 c2 ts _ w2.heap.size (Nat.le_trans Z3 (Nat.le_trans Z4 Z5)) (by omega) HAT.out R16.out R5.out).mono ?_
    rintro e w6 ⟨rfl, b6⟩
    have B6 := Lib.hid (B5.out.trans (b6.out.mono B5.out.size))
    clear b6 B5
    go_wp2_with fail
    go_ret
    exact ⟨rfl, B6.out⟩
end Go.Proofs.YtlfpmfdlfhldbaaGreatDoor
