/-
  The walk of CoordKeys.
-/
import Derived.Test.YthmlggglemnfgaaCoKeysM
import Derived.Test.YthmlggglemnfgaaCoAwake
import Derived.Test.YthmlggglemnfgaaCoArgD
import Derived.Deep.DeepCutAuto
namespace Nwl
theorem okD_len {g n t c : List UInt8} (h : okD g n t c = true) : g.length ≤ 500 ∧ n.length ≤ 500 ∧ t.length ≤ 500 ∧ c.length ≤ 500 := by
  unfold okD at h
  rw [Bool.and_eq_true, Bool.and_eq_true, Bool.and_eq_true] at h
  exact ⟨idL_len h.1, idL_len h.2.1, idE_len h.2.2.1, idE_len h.2.2.2⟩
theorem idE_ne {t : List UInt8} (h : t ≠ []) : idE t = idL t := by unfold idE; rw [decide_eq_false h, Bool.false_or]
end Nwl
namespace Go.Proofs.Ythmlggglemnfgaa
open Nwl
open Go.RowKit Go.Maps
set_option linter.unusedVariables false
set_option linter.unusedSimpArgs false

theorem DB.rd8 {w W : World} {g n v t c s : List UInt8} {o : Bool} {A : Option Addr} {l k : Nat} (h : Hid (DB w W g n v t c s o A l k)) : W.cell? ⟨w.heap.size, 0, none⟩ = some (.string (tx g)) ∧ W.cell? ⟨w.heap.size, 1, none⟩ = some (.string (tx n)) ∧ W.cell? ⟨w.heap.size, 2, none⟩ = some (.string (tx v)) ∧ W.cell? ⟨w.heap.size, 3, none⟩ = some (.string (tx t)) ∧ W.cell? ⟨w.heap.size, 4, none⟩ = some (.string (tx c)) ∧ W.cell? ⟨w.heap.size, 5, none⟩ = some (.string (tx s)) ∧ W.cell? ⟨w.heap.size, 6, none⟩ = some (.bool o) ∧ W.cell? ⟨w.heap.size, 7, none⟩ = some (.slice A l k) := ⟨h.out.1.cell 0, h.out.1.cell 1, h.out.1.cell 2, h.out.1.cell 3, h.out.1.cell 4, h.out.1.cell 5, h.out.1.cell 6, h.out.1.cell 7⟩

set_option maxRecDepth 100000 in
set_option maxHeartbeats 4000000 in
theorem ids_c (g n v t c s : List UInt8) (o : Bool) (A : Option Addr) (l k : Nat) (w : World) (hg : g.length ≤ 1000000000000000) (hn : n.length ≤ 1000000000000000) (ht : t.length ≤ 1000000000000000) (hc : c.length ≤ 1000000000000000) (r : Bool) (hr : okD g n t c = r) :
    Calls Try.prog 5 #[dpV g n v t c s o A l k] w fun e w' => e = .returned (.bool r) ∧ Hid (Below w.heap.size w w') := by
  have X0 := Lib.hid (DB.new w g n v t c s o A l k)
  obtain ⟨x1, e1⟩ : ∃ x, idL (bs (tx g)) = x := ⟨_, rfl⟩
  obtain ⟨x2, e2⟩ : ∃ x, idL (bs (tx n)) = x := ⟨_, rfl⟩
  obtain ⟨x3, e3⟩ : ∃ x, idE (bs (tx t)) = x := ⟨_, rfl⟩
  obtain ⟨x4, e4⟩ : ∃ x, idE (bs (tx c)) = x := ⟨_, rfl⟩
  have e : (x1 && (x2 && (x3 && x4))) = r := by rw [← e1, ← e2, ← e3, ← e4, ← hr]; rfl
  have E1 := Lib.hid e1
  have E2 := Lib.hid e2
  have E3 := Lib.hid e3
  have E4 := Lib.hid e4
  have s1 := tx_small hg
  have s2 := tx_small hn
  have s3 := tx_small ht
  have s4 := tx_small hc
  have f1 := tx_list t
  have f2 := tx_list c
  clear e1 e2 e3 e4 hr hg hn ht hc
  subst e
  obtain ⟨w1, hw1⟩ : ∃ w1, w.alloc (.cells (dpC g n v t c s o A l k) 24) = w1 := ⟨_, rfl⟩
  go_enter Try.func5, Try.ntmps5
  go_upto_region 1 with fail
  rw [hw1] at X0
  clear hw1
  obtain ⟨z0, z1, z2, z3, z4, z5, z6, z7⟩ := DB.rd8 X0
  go_wp2_with fail
  refine (Id_c (tx g) _ s1 x1 E1.out).mono ?_
  rintro e w' ⟨rfl, rfl⟩
  cases x1 with
  | false =>
    go_wp2_with fail
    go_ret
    exact ⟨rfl, Lib.hid X0.out.2⟩
  | true =>
    go_wp2_with fail
    refine (Id_c (tx n) _ s2 x2 E2.out).mono ?_
    rintro e w' ⟨rfl, rfl⟩
    cases x2 with
    | false =>
      go_wp2_with fail
      go_ret
      exact ⟨rfl, Lib.hid X0.out.2⟩
    | true =>
      by_cases ht : t = []
      · subst ht
        obtain rfl : x3 = true := E3.out.symm
        by_cases hc : c = []
        · subst hc
          obtain rfl : x4 = true := E4.out.symm
          go_wp2_with fail
          go_ret
          exact ⟨rfl, Lib.hid X0.out.2⟩
        · have E5 : Hid (idL (bs (tx c)) = x4) := Lib.hid (by rw [← E4.out]; exact (idE_ne (t := bs (tx c)) hc).symm)
          have hce : c.isEmpty = false := by cases c with | nil => exact absurd rfl hc | cons => rfl
          go_wp2_with fail
          refine (Id_c (tx c) _ s4 x4 E5.out).mono ?_
          rintro e w' ⟨rfl, rfl⟩
          go_wp2_with fail
          go_ret
          exact ⟨rfl, Lib.hid X0.out.2⟩
      · have E6 : Hid (idL (bs (tx t)) = x3) := Lib.hid (by rw [← E3.out]; exact (idE_ne (t := bs (tx t)) ht).symm)
        have hte : t.isEmpty = false := by cases t with | nil => exact absurd rfl ht | cons => rfl
        go_wp2_with fail
        refine (Id_c (tx t) _ s3 x3 E6.out).mono ?_
        rintro e w' ⟨rfl, rfl⟩
        cases x3 with
        | false =>
          go_wp2_with fail
          go_ret
          exact ⟨rfl, Lib.hid X0.out.2⟩
        | true =>
          by_cases hc : c = []
          · subst hc
            obtain rfl : x4 = true := E4.out.symm
            go_wp2_with fail
            go_ret
            exact ⟨rfl, Lib.hid X0.out.2⟩
          · have E5 : Hid (idL (bs (tx c)) = x4) := Lib.hid (by rw [← E4.out]; exact (idE_ne (t := bs (tx c)) hc).symm)
            have hce : c.isEmpty = false := by cases c with | nil => exact absurd rfl hc | cons => rfl
            go_wp2_with fail
            refine (Id_c (tx c) _ s4 x4 E5.out).mono ?_
            rintro e w' ⟨rfl, rfl⟩
            go_wp2_with fail
            go_ret
            exact ⟨rfl, Lib.hid X0.out.2⟩

/-- the two arguments' boxes, and what lies behind -/
def D2 (w W : World) (ga na va ta ca sa : List UInt8) (oa : Bool) (Aa : Option Addr) (la ka : Nat) (gb nb vb tb cb sb : List UInt8) (ob : Bool) (Ab : Option Addr) (lb kb : Nat) : Prop := Blk W w.heap.size 24 (dpC ga na va ta ca sa oa Aa la ka) ∧ Blk W (w.heap.size + 1) 24 (dpC gb nb vb tb cb sb ob Ab lb kb) ∧ Below w.heap.size w W
theorem D2.below {w W W' : World} {ga na va ta ca sa : List UInt8} {oa : Bool} {Aa : Option Addr} {la ka : Nat} {gb nb vb tb cb sb : List UInt8} {ob : Bool} {Ab : Option Addr} {lb kb : Nat} (h : D2 w W ga na va ta ca sa oa Aa la ka gb nb vb tb cb sb ob Ab lb kb) (hb : Below W.heap.size W W') : D2 w W' ga na va ta ca sa oa Aa la ka gb nb vb tb cb sb ob Ab lb kb := ⟨h.1.below hb, h.2.1.below hb, h.2.2.trans (hb.mono h.2.2.size)⟩
theorem D2.alloc {w W : World} {ga na va ta ca sa : List UInt8} {oa : Bool} {Aa : Option Addr} {la ka : Nat} {gb nb vb tb cb sb : List UInt8} {ob : Bool} {Ab : Option Addr} {lb kb : Nat} (h : D2 w W ga na va ta ca sa oa Aa la ka gb nb vb tb cb sb ob Ab lb kb) (x : Obj) : D2 w (W.alloc x) ga na va ta ca sa oa Aa la ka gb nb vb tb cb sb ob Ab lb kb := ⟨h.1.alloc x, h.2.1.alloc x, h.2.2.alloc h.2.2.size x⟩
theorem D2.drew {w W : World} {ga na va ta ca sa : List UInt8} {oa : Bool} {Aa : Option Addr} {la ka : Nat} {gb nb vb tb cb sb : List UInt8} {ob : Bool} {Ab : Option Addr} {lb kb : Nat} (h : D2 w W ga na va ta ca sa oa Aa la ka gb nb vb tb cb sb ob Ab lb kb) : D2 w W.drew ga na va ta ca sa oa Aa la ka gb nb vb tb cb sb ob Ab lb kb := ⟨h.1, h.2.1, h.2.2.drew⟩
theorem D2.rd {w W : World} {ga na va ta ca sa : List UInt8} {oa : Bool} {Aa : Option Addr} {la ka : Nat} {gb nb vb tb cb sb : List UInt8} {ob : Bool} {Ab : Option Addr} {lb kb : Nat} (h : Hid (D2 w W ga na va ta ca sa oa Aa la ka gb nb vb tb cb sb ob Ab lb kb)) : W.cell? ⟨w.heap.size, 0, none⟩ = some (.string (tx ga)) ∧ W.cell? ⟨w.heap.size, 1, none⟩ = some (.string (tx na)) ∧ W.cell? ⟨w.heap.size, 2, none⟩ = some (.string (tx va)) ∧ W.cell? ⟨w.heap.size, 3, none⟩ = some (.string (tx ta)) ∧ W.cell? ⟨w.heap.size, 4, none⟩ = some (.string (tx ca)) ∧ W.cell? ⟨w.heap.size, 5, none⟩ = some (.string (tx sa)) ∧ W.cell? ⟨w.heap.size, 6, none⟩ = some (.bool oa) ∧ W.cell? ⟨w.heap.size, 7, none⟩ = some (.slice Aa la ka) ∧ W.cell? ⟨w.heap.size + 1, 0, none⟩ = some (.string (tx gb)) ∧ W.cell? ⟨w.heap.size + 1, 1, none⟩ = some (.string (tx nb)) ∧ W.cell? ⟨w.heap.size + 1, 2, none⟩ = some (.string (tx vb)) ∧ W.cell? ⟨w.heap.size + 1, 3, none⟩ = some (.string (tx tb)) ∧ W.cell? ⟨w.heap.size + 1, 4, none⟩ = some (.string (tx cb)) ∧ W.cell? ⟨w.heap.size + 1, 5, none⟩ = some (.string (tx sb)) ∧ W.cell? ⟨w.heap.size + 1, 6, none⟩ = some (.bool ob) ∧ W.cell? ⟨w.heap.size + 1, 7, none⟩ = some (.slice Ab lb kb) := ⟨h.out.1.cell 0, h.out.1.cell 1, h.out.1.cell 2, h.out.1.cell 3, h.out.1.cell 4, h.out.1.cell 5, h.out.1.cell 6, h.out.1.cell 7, h.out.2.1.cell 0, h.out.2.1.cell 1, h.out.2.1.cell 2, h.out.2.1.cell 3, h.out.2.1.cell 4, h.out.2.1.cell 5, h.out.2.1.cell 6, h.out.2.1.cell 7⟩
theorem D2.set_far {w W : World} {ga na va ta ca sa : List UInt8} {oa : Bool} {Aa : Option Addr} {la ka : Nat} {gb nb vb tb cb sb : List UInt8} {ob : Bool} {Ab : Option Addr} {lb kb : Nat} {d : Nat} (h : D2 w W ga na va ta ca sa oa Aa la ka gb nb vb tb cb sb ob Ab lb kb) (hd : w.heap.size + 1 < d) (i : Nat) (u : Value) : D2 w (W.setCell ⟨d, i, none⟩ u) ga na va ta ca sa oa Aa la ka gb nb vb tb cb sb ob Ab lb kb := ⟨h.1.set_far (by omega) u, h.2.1.set_far (by omega) u, h.2.2.setCell (by show w.heap.size ≤ d; omega) u⟩
theorem D2.new (w : World) (ga na va ta ca sa : List UInt8) (oa : Bool) (Aa : Option Addr) (la ka : Nat) (gb nb vb tb cb sb : List UInt8) (ob : Bool) (Ab : Option Addr) (lb kb : Nat) : D2 w ((w.alloc (.cells (dpC ga na va ta ca sa oa Aa la ka) 24)).alloc (.cells (dpC gb nb vb tb cb sb ob Ab lb kb) 24)) ga na va ta ca sa oa Aa la ka gb nb vb tb cb sb ob Ab lb kb := by
  have h2 := Blk.new (w.alloc (.cells (dpC ga na va ta ca sa oa Aa la ka) 24)) 24 (dpC gb nb vb tb cb sb ob Ab lb kb)
  have z1 : (w.alloc (.cells (dpC ga na va ta ca sa oa Aa la ka) 24)).heap.size = w.heap.size + 1 := by simp
  rw [z1] at h2
  exact ⟨(Blk.new w _ _).alloc _, h2, ((Below.refl _ _).alloc (Nat.le_refl _) _).alloc (by omega) _⟩
/-- .. and the third one's -/
def D3 (w W : World) (y : Nat) (ga na va ta ca sa : List UInt8) (oa : Bool) (Aa : Option Addr) (la ka : Nat) (gb nb vb tb cb sb : List UInt8) (ob : Bool) (Ab : Option Addr) (lb kb : Nat) : Prop := D2 w W ga na va ta ca sa oa Aa la ka gb nb vb tb cb sb ob Ab lb kb ∧ Blk W y 24 (dpC ga na vb ta ca sb ob Ab lb kb)
theorem D3.below {w W W' : World} {y : Nat} {ga na va ta ca sa : List UInt8} {oa : Bool} {Aa : Option Addr} {la ka : Nat} {gb nb vb tb cb sb : List UInt8} {ob : Bool} {Ab : Option Addr} {lb kb : Nat} (h : D3 w W y ga na va ta ca sa oa Aa la ka gb nb vb tb cb sb ob Ab lb kb) (hb : Below W.heap.size W W') : D3 w W' y ga na va ta ca sa oa Aa la ka gb nb vb tb cb sb ob Ab lb kb := ⟨h.1.below hb, h.2.below hb⟩
theorem D3.drew {w W : World} {y : Nat} {ga na va ta ca sa : List UInt8} {oa : Bool} {Aa : Option Addr} {la ka : Nat} {gb nb vb tb cb sb : List UInt8} {ob : Bool} {Ab : Option Addr} {lb kb : Nat} (h : D3 w W y ga na va ta ca sa oa Aa la ka gb nb vb tb cb sb ob Ab lb kb) : D3 w W.drew y ga na va ta ca sa oa Aa la ka gb nb vb tb cb sb ob Ab lb kb := ⟨h.1.drew, h.2⟩
theorem D3.rd {w W : World} {y : Nat} {ga na va ta ca sa : List UInt8} {oa : Bool} {Aa : Option Addr} {la ka : Nat} {gb nb vb tb cb sb : List UInt8} {ob : Bool} {Ab : Option Addr} {lb kb : Nat} (h : Hid (D3 w W y ga na va ta ca sa oa Aa la ka gb nb vb tb cb sb ob Ab lb kb)) : W.cell? ⟨w.heap.size, 0, none⟩ = some (.string (tx ga)) ∧ W.cell? ⟨w.heap.size, 1, none⟩ = some (.string (tx na)) ∧ W.cell? ⟨w.heap.size, 2, none⟩ = some (.string (tx va)) ∧ W.cell? ⟨w.heap.size, 3, none⟩ = some (.string (tx ta)) ∧ W.cell? ⟨w.heap.size, 4, none⟩ = some (.string (tx ca)) ∧ W.cell? ⟨w.heap.size, 5, none⟩ = some (.string (tx sa)) ∧ W.cell? ⟨w.heap.size, 6, none⟩ = some (.bool oa) ∧ W.cell? ⟨w.heap.size, 7, none⟩ = some (.slice Aa la ka) ∧ W.cell? ⟨w.heap.size + 1, 0, none⟩ = some (.string (tx gb)) ∧ W.cell? ⟨w.heap.size + 1, 1, none⟩ = some (.string (tx nb)) ∧ W.cell? ⟨w.heap.size + 1, 2, none⟩ = some (.string (tx vb)) ∧ W.cell? ⟨w.heap.size + 1, 3, none⟩ = some (.string (tx tb)) ∧ W.cell? ⟨w.heap.size + 1, 4, none⟩ = some (.string (tx cb)) ∧ W.cell? ⟨w.heap.size + 1, 5, none⟩ = some (.string (tx sb)) ∧ W.cell? ⟨w.heap.size + 1, 6, none⟩ = some (.bool ob) ∧ W.cell? ⟨w.heap.size + 1, 7, none⟩ = some (.slice Ab lb kb) ∧ W.cell? ⟨y, 0, none⟩ = some (.string (tx ga)) ∧ W.cell? ⟨y, 1, none⟩ = some (.string (tx na)) ∧ W.cell? ⟨y, 2, none⟩ = some (.string (tx vb)) ∧ W.cell? ⟨y, 3, none⟩ = some (.string (tx ta)) ∧ W.cell? ⟨y, 4, none⟩ = some (.string (tx ca)) ∧ W.cell? ⟨y, 5, none⟩ = some (.string (tx sb)) ∧ W.cell? ⟨y, 6, none⟩ = some (.bool ob) ∧ W.cell? ⟨y, 7, none⟩ = some (.slice Ab lb kb) := ⟨h.out.1.1.cell 0, h.out.1.1.cell 1, h.out.1.1.cell 2, h.out.1.1.cell 3, h.out.1.1.cell 4, h.out.1.1.cell 5, h.out.1.1.cell 6, h.out.1.1.cell 7, h.out.1.2.1.cell 0, h.out.1.2.1.cell 1, h.out.1.2.1.cell 2, h.out.1.2.1.cell 3, h.out.1.2.1.cell 4, h.out.1.2.1.cell 5, h.out.1.2.1.cell 6, h.out.1.2.1.cell 7, h.out.2.cell 0, h.out.2.cell 1, h.out.2.cell 2, h.out.2.cell 3, h.out.2.cell 4, h.out.2.cell 5, h.out.2.cell 6, h.out.2.cell 7⟩

set_option maxRecDepth 100000 in
set_option maxHeartbeats 8000000 in
theorem keys_ok (ga na va ta ca sa : List UInt8) (oa : Bool) (Aa : Option Addr) (la ka : Nat) (gb nb vb tb cb sb : List UInt8) (ob : Bool) (Ab : Option Addr) (lb kb : Nat) (w : World) (ha : okD ga na ta ca = true) (hb : okD gb nb tb cb = true) :
    Calls Try.prog 3 #[dpV ga na va ta ca sa oa Aa la ka, dpV gb nb vb tb cb sb ob Ab lb kb] w fun e w' => e = .returned (.bool true) ∧ Below w.heap.size w w' := by
  obtain ⟨a1, a2, a3, a4⟩ := okD_len ha
  obtain ⟨b1, b2, b3, b4⟩ := okD_len hb
  have hk := key_one ha hb
  obtain ⟨K, hK⟩ : ∃ K, keyL ga na ta ca = K := ⟨_, rfl⟩
  obtain ⟨L, hL⟩ : ∃ L, keyL gb nb tb cb = L := ⟨_, rfl⟩
  obtain ⟨sm, hsm⟩ : ∃ sm, decide (ga = gb ∧ na = nb ∧ typeL ta = typeL tb ∧ ca = cb) = sm := ⟨_, rfl⟩
  have hKL : (K == L) = sm := by
    rw [← hsm, Bool.eq_iff_iff, beq_iff_eq, decide_eq_true_eq, ← hk, hK, hL]
  have HA := Lib.hid ha
  have HB := Lib.hid hb
  have HK := Lib.hid hK
  have HL := Lib.hid hL
  have HSM := Lib.hid hsm
  have HKL := Lib.hid hKL
  have X0 := Lib.hid (D2.new w ga na va ta ca sa oa Aa la ka gb nb vb tb cb sb ob Ab lb kb)
  clear ha hb hk hK hL hsm hKL
  obtain ⟨w1, hw1⟩ : ∃ w1, (w.alloc (.cells (dpC ga na va ta ca sa oa Aa la ka) 24)).alloc (.cells (dpC gb nb vb tb cb sb ob Ab lb kb) 24) = w1 := ⟨_, rfl⟩
  go_enter Try.func3, Try.ntmps3
  go_upto_region 1 with fail
  rw [hw1] at X0
  clear hw1
  obtain ⟨z0, z1, z2, z3, z4, z5, z6, z7, z8, z9, z10, z11, z12, z13, z14, z15⟩ := D2.rd X0
  go_wp2_with fail
  refine (ids_c ga na va ta ca sa oa Aa la ka _ (by omega) (by omega) (by omega) (by omega) true HA.out).mono ?_
  rintro e w2 ⟨rfl, c2⟩
  have X2 := Lib.hid (X0.out.below c2.out)
  clear X0 c2 z0 z1 z2 z3 z4 z5 z6 z7 z8 z9 z10 z11 z12 z13 z14 z15
  obtain ⟨z0, z1, z2, z3, z4, z5, z6, z7, z8, z9, z10, z11, z12, z13, z14, z15⟩ := D2.rd X2
  go_wp2_with fail
  refine (ids_c gb nb vb tb cb sb ob Ab lb kb _ (by omega) (by omega) (by omega) (by omega) true HB.out).mono ?_
  rintro e w3 ⟨rfl, c3⟩
  have X3 := Lib.hid (X2.out.below c3.out)
  clear X2 c3 z0 z1 z2 z3 z4 z5 z6 z7 z8 z9 z10 z11 z12 z13 z14 z15
  obtain ⟨z0, z1, z2, z3, z4, z5, z6, z7, z8, z9, z10, z11, z12, z13, z14, z15⟩ := D2.rd X3
  go_upto_region 4 with fail
  go_region_held3 (fun w' => w'.cell? ⟨w.heap.size, 0, none⟩ = some (.string (tx ga)) ∧ w'.cell? ⟨w.heap.size, 1, none⟩ = some (.string (tx na)) ∧ w'.cell? ⟨w.heap.size, 2, none⟩ = some (.string (tx va)) ∧ w'.cell? ⟨w.heap.size, 3, none⟩ = some (.string (tx ta)) ∧ w'.cell? ⟨w.heap.size, 4, none⟩ = some (.string (tx ca)) ∧ w'.cell? ⟨w.heap.size, 5, none⟩ = some (.string (tx sa)) ∧ w'.cell? ⟨w.heap.size, 6, none⟩ = some (.bool oa) ∧ w'.cell? ⟨w.heap.size, 7, none⟩ = some (.slice Aa la ka) ∧ w'.cell? ⟨w.heap.size + 1, 0, none⟩ = some (.string (tx gb)) ∧ w'.cell? ⟨w.heap.size + 1, 1, none⟩ = some (.string (tx nb)) ∧ w'.cell? ⟨w.heap.size + 1, 2, none⟩ = some (.string (tx vb)) ∧ w'.cell? ⟨w.heap.size + 1, 3, none⟩ = some (.string (tx tb)) ∧ w'.cell? ⟨w.heap.size + 1, 4, none⟩ = some (.string (tx cb)) ∧ w'.cell? ⟨w.heap.size + 1, 5, none⟩ = some (.string (tx sb)) ∧ w'.cell? ⟨w.heap.size + 1, 6, none⟩ = some (.bool ob) ∧ w'.cell? ⟨w.heap.size + 1, 7, none⟩ = some (.slice Ab lb kb)) (first | (have h := D2.rd X3; exact h) | fail) (fail)
  rename_i hheld
  clear hheld z0 z1 z2 z3 z4 z5 z6 z7 z8 z9 z10 z11 z12 z13 z14 z15
  obtain ⟨w4, hw4⟩ : ∃ w4, w3.drew = w4 := ⟨_, rfl⟩
  have X4 : Hid (D2 w w4 ga na va ta ca sa oa Aa la ka gb nb vb tb cb sb ob Ab lb kb) := Lib.hid (by rw [← hw4]; exact X3.out.drew)
  rw [hw4]
  clear hw4 X3
  obtain ⟨z0, z1, z2, z3, z4, z5, z6, z7, z8, z9, z10, z11, z12, z13, z14, z15⟩ := D2.rd X4
  have f5 := tx_list ta
  have f6 := tx_list tb
  have C4 := Lib.hid (X4.out.alloc (.cells (dpC ga na va ta ca sa oa Aa la ka) 24))
  have D4 := Lib.hid (Blk.new w4 24 (dpC ga na va ta ca sa oa Aa la ka))
  have LT : Hid (w.heap.size + 1 < w4.heap.size) := Lib.hid X4.out.2.1.lt
  by_cases hta : ta = []
  · have htea : ta.isEmpty = true := by rw [hta]; rfl
    have hxa : typeL ta = [106, 97, 114] := by rw [hta]; rfl
    clear hta
    by_cases htb : tb = []
    · have hteb : tb.isEmpty = true := by rw [htb]; rfl
      have hxb : typeL tb = [106, 97, 114] := by rw [htb]; rfl
      clear htb
      go_upto_region 10 with fail
      obtain ⟨w5, hw5⟩ : ∃ w5, w4.alloc (.cells (dpC ga na va ta ca sa oa Aa la ka) 24) = w5 := ⟨_, rfl⟩
      rw [hw5] at C4 D4 ⊢
      clear hw5 z0 z1 z2 z3 z4 z5 z6 z7 z8 z9 z10 z11 z12 z13 z14 z15
      obtain ⟨z0, z1, z2, z3, z4, z5, z6, z7, z8, z9, z10, z11, z12, z13, z14, z15⟩ := D2.rd C4
      have d2 := D4.out.frozen 2
      have d5 := D4.out.frozen 5
      have d6 := D4.out.frozen 6
      have d7 := D4.out.frozen 7
      have y2 := D4.out.cell 2
      have y5 := D4.out.cell 5
      have y6 := D4.out.cell 6
      have y7 := D4.out.cell 7
      go_region
      obtain ⟨w6, hw6⟩ : ∃ w6, ((((w5.setCell ⟨w4.heap.size, 2, none⟩ (.string (tx vb))).setCell ⟨w4.heap.size, 5, none⟩ (.string (tx sb))).setCell ⟨w4.heap.size, 6, none⟩ (.bool ob)).setCell ⟨w4.heap.size, 7, none⟩ (.slice Ab lb kb)).drew = w6 := ⟨_, rfl⟩
      have X6 : Hid (D3 w w6 w4.heap.size ga na va ta ca sa oa Aa la ka gb nb vb tb cb sb ob Ab lb kb) := Lib.hid (by
        rw [← hw6]
        refine D3.drew ⟨(((C4.out.set_far LT.out _ _).set_far LT.out _ _).set_far LT.out _ _).set_far LT.out _ _, (((D4.out.set 2 _).set 5 _).set 6 _).set 7 _⟩)
      rw [hw6]
      clear hw6 C4 D4 X4 d2 d5 d6 d7 y2 y5 y6 y7 z0 z1 z2 z3 z4 z5 z6 z7 z8 z9 z10 z11 z12 z13 z14 z15
      obtain ⟨z0, z1, z2, z3, z4, z5, z6, z7, z8, z9, z10, z11, z12, z13, z14, z15, z16, z17, z18, z19, z20, z21, z22, z23⟩ := D3.rd X6
      go_upto_region 11 with fail
      go_cut [0, 1, 2, 3, 6, 7, 8, 9] (fun v0 v1 v2 v3 v6 v7 v8 v9 wx => v2 = .pointer (some ⟨w.heap.size, 0, none⟩) ∧ v3 = .pointer (some ⟨w.heap.size + 1, 0, none⟩) ∧ v8 = .pointer (some ⟨w4.heap.size, 0, none⟩) ∧ v9 = .bool sm ∧ w6 = wx)
      case first =>
        have f1 := tx_list ga
        have f2 := tx_list gb
        have f3 := tx_list na
        have f4 := tx_list nb
        have f7 := tx_list ca
        have f8 := tx_list cb
        have f9 := jar_list
        have f10 : typeL [106, 97, 114] = [106, 97, 114] := rfl
        go_wp2_with fail
        all_goals go_meet
        all_goals exact ⟨by simp [*], by simp [*], by simp [*], by rw [← HSM.out]; congr 1; rw [Bool.eq_iff_iff]; simp [*], rfl⟩
      case rest =>
      obtain ⟨rfl, rfl, rfl, rfl, rfl⟩ := hcut
      clear z0 z1 z2 z3 z4 z5 z6 z7 z8 z9 z10 z11 z12 z13 z14 z15 z16 z17 z18 z19 z20 z21 z22 z23
      go_upto_region 12 with fail
      have hKL := HKL.out
      have fK := tx_list K
      have fL := tx_list L
      go_region_held3 (fun w' => w'.cell? ⟨w.heap.size, 0, none⟩ = some (.string (tx ga)) ∧ w'.cell? ⟨w.heap.size, 1, none⟩ = some (.string (tx na)) ∧ w'.cell? ⟨w.heap.size, 2, none⟩ = some (.string (tx va)) ∧ w'.cell? ⟨w.heap.size, 3, none⟩ = some (.string (tx ta)) ∧ w'.cell? ⟨w.heap.size, 4, none⟩ = some (.string (tx ca)) ∧ w'.cell? ⟨w.heap.size, 5, none⟩ = some (.string (tx sa)) ∧ w'.cell? ⟨w.heap.size, 6, none⟩ = some (.bool oa) ∧ w'.cell? ⟨w.heap.size, 7, none⟩ = some (.slice Aa la ka) ∧ w'.cell? ⟨w.heap.size + 1, 0, none⟩ = some (.string (tx gb)) ∧ w'.cell? ⟨w.heap.size + 1, 1, none⟩ = some (.string (tx nb)) ∧ w'.cell? ⟨w.heap.size + 1, 2, none⟩ = some (.string (tx vb)) ∧ w'.cell? ⟨w.heap.size + 1, 3, none⟩ = some (.string (tx tb)) ∧ w'.cell? ⟨w.heap.size + 1, 4, none⟩ = some (.string (tx cb)) ∧ w'.cell? ⟨w.heap.size + 1, 5, none⟩ = some (.string (tx sb)) ∧ w'.cell? ⟨w.heap.size + 1, 6, none⟩ = some (.bool ob) ∧ w'.cell? ⟨w.heap.size + 1, 7, none⟩ = some (.slice Ab lb kb) ∧ w'.cell? ⟨w4.heap.size, 0, none⟩ = some (.string (tx ga)) ∧ w'.cell? ⟨w4.heap.size, 1, none⟩ = some (.string (tx na)) ∧ w'.cell? ⟨w4.heap.size, 2, none⟩ = some (.string (tx vb)) ∧ w'.cell? ⟨w4.heap.size, 3, none⟩ = some (.string (tx ta)) ∧ w'.cell? ⟨w4.heap.size, 4, none⟩ = some (.string (tx ca)) ∧ w'.cell? ⟨w4.heap.size, 5, none⟩ = some (.string (tx sb)) ∧ w'.cell? ⟨w4.heap.size, 6, none⟩ = some (.bool ob) ∧ w'.cell? ⟨w4.heap.size, 7, none⟩ = some (.slice Ab lb kb)) (first | (have h := D3.rd X6; exact h) | (have h := D3.rd X7; exact h) | (have h := D3.rd X8; exact h) | (have h := D3.rd X9; exact h) | (have h := D3.rd XA; exact h) | (have h := D3.rd XB; exact h) | fail) (first
        | (go_at_call 7; refine (awake9_c _).mono ?_; rintro e q7 ⟨rfl, c7⟩; have X7 := Lib.hid (X6.out.drew.below c7.out); clear c7)
        | (go_at_call 8; with_reducible refine (CKey_c gb nb vb tb cb sb ob Ab lb kb _ (by omega) (by omega) (by omega) (by omega) L HL.out).mono ?_; rintro e q9 ⟨rfl, c9⟩; have X9 := Lib.hid (X8.out.below c9.out); clear c9)
        | (go_at_call 8; with_reducible refine (CKey_c ga na vb ta ca sb ob Ab lb kb _ (by omega) (by omega) (by omega) (by omega) K HK.out).mono ?_; rintro e qA ⟨rfl, cA⟩; have XA := Lib.hid (X9.out.below cA.out); clear cA)
        | (go_at_call 8; with_reducible refine (CKey_c ga na va ta ca sa oa Aa la ka _ (by omega) (by omega) (by omega) (by omega) K HK.out).mono ?_; rintro e q8 ⟨rfl, c8⟩; have X8 := Lib.hid (X7.out.below c8.out); clear c8)
        | (go_at_call 8; with_reducible refine (CKey_c ga na va ta ca sa oa Aa la ka _ (by omega) (by omega) (by omega) (by omega) K HK.out).mono ?_; rintro e qB ⟨rfl, cB⟩; have XB := Lib.hid (XA.out.below cB.out); clear cB))
      go_wp2_with fail
      go_ret
      exact ⟨rfl, XB.out.1.2.2⟩
    · have hteb : tb.isEmpty = false := by cases tb with | nil => exact absurd rfl htb | cons => rfl
      have hxb : typeL tb = tb := by unfold typeL; rw [if_neg htb]
      clear htb
      go_upto_region 10 with fail
      obtain ⟨w5, hw5⟩ : ∃ w5, w4.alloc (.cells (dpC ga na va ta ca sa oa Aa la ka) 24) = w5 := ⟨_, rfl⟩
      rw [hw5] at C4 D4 ⊢
      clear hw5 z0 z1 z2 z3 z4 z5 z6 z7 z8 z9 z10 z11 z12 z13 z14 z15
      obtain ⟨z0, z1, z2, z3, z4, z5, z6, z7, z8, z9, z10, z11, z12, z13, z14, z15⟩ := D2.rd C4
      have d2 := D4.out.frozen 2
      have d5 := D4.out.frozen 5
      have d6 := D4.out.frozen 6
      have d7 := D4.out.frozen 7
      have y2 := D4.out.cell 2
      have y5 := D4.out.cell 5
      have y6 := D4.out.cell 6
      have y7 := D4.out.cell 7
      go_region
      obtain ⟨w6, hw6⟩ : ∃ w6, ((((w5.setCell ⟨w4.heap.size, 2, none⟩ (.string (tx vb))).setCell ⟨w4.heap.size, 5, none⟩ (.string (tx sb))).setCell ⟨w4.heap.size, 6, none⟩ (.bool ob)).setCell ⟨w4.heap.size, 7, none⟩ (.slice Ab lb kb)).drew = w6 := ⟨_, rfl⟩
      have X6 : Hid (D3 w w6 w4.heap.size ga na va ta ca sa oa Aa la ka gb nb vb tb cb sb ob Ab lb kb) := Lib.hid (by
        rw [← hw6]
        refine D3.drew ⟨(((C4.out.set_far LT.out _ _).set_far LT.out _ _).set_far LT.out _ _).set_far LT.out _ _, (((D4.out.set 2 _).set 5 _).set 6 _).set 7 _⟩)
      rw [hw6]
      clear hw6 C4 D4 X4 d2 d5 d6 d7 y2 y5 y6 y7 z0 z1 z2 z3 z4 z5 z6 z7 z8 z9 z10 z11 z12 z13 z14 z15
      obtain ⟨z0, z1, z2, z3, z4, z5, z6, z7, z8, z9, z10, z11, z12, z13, z14, z15, z16, z17, z18, z19, z20, z21, z22, z23⟩ := D3.rd X6
      go_upto_region 11 with fail
      go_cut [0, 1, 2, 3, 6, 7, 8, 9] (fun v0 v1 v2 v3 v6 v7 v8 v9 wx => v2 = .pointer (some ⟨w.heap.size, 0, none⟩) ∧ v3 = .pointer (some ⟨w.heap.size + 1, 0, none⟩) ∧ v8 = .pointer (some ⟨w4.heap.size, 0, none⟩) ∧ v9 = .bool sm ∧ w6 = wx)
      case first =>
        have f1 := tx_list ga
        have f2 := tx_list gb
        have f3 := tx_list na
        have f4 := tx_list nb
        have f7 := tx_list ca
        have f8 := tx_list cb
        have f9 := jar_list
        have f10 : typeL [106, 97, 114] = [106, 97, 114] := rfl
        go_wp2_with fail
        all_goals go_meet
        all_goals exact ⟨by simp [*], by simp [*], by simp [*], by rw [← HSM.out]; congr 1; rw [Bool.eq_iff_iff]; simp [*], rfl⟩
      case rest =>
      obtain ⟨rfl, rfl, rfl, rfl, rfl⟩ := hcut
      clear z0 z1 z2 z3 z4 z5 z6 z7 z8 z9 z10 z11 z12 z13 z14 z15 z16 z17 z18 z19 z20 z21 z22 z23
      go_upto_region 12 with fail
      have hKL := HKL.out
      have fK := tx_list K
      have fL := tx_list L
      go_region_held3 (fun w' => w'.cell? ⟨w.heap.size, 0, none⟩ = some (.string (tx ga)) ∧ w'.cell? ⟨w.heap.size, 1, none⟩ = some (.string (tx na)) ∧ w'.cell? ⟨w.heap.size, 2, none⟩ = some (.string (tx va)) ∧ w'.cell? ⟨w.heap.size, 3, none⟩ = some (.string (tx ta)) ∧ w'.cell? ⟨w.heap.size, 4, none⟩ = some (.string (tx ca)) ∧ w'.cell? ⟨w.heap.size, 5, none⟩ = some (.string (tx sa)) ∧ w'.cell? ⟨w.heap.size, 6, none⟩ = some (.bool oa) ∧ w'.cell? ⟨w.heap.size, 7, none⟩ = some (.slice Aa la ka) ∧ w'.cell? ⟨w.heap.size + 1, 0, none⟩ = some (.string (tx gb)) ∧ w'.cell? ⟨w.heap.size + 1, 1, none⟩ = some (.string (tx nb)) ∧ w'.cell? ⟨w.heap.size + 1, 2, none⟩ = some (.string (tx vb)) ∧ w'.cell? ⟨w.heap.size + 1, 3, none⟩ = some (.string (tx tb)) ∧ w'.cell? ⟨w.heap.size + 1, 4, none⟩ = some (.string (tx cb)) ∧ w'.cell? ⟨w.heap.size + 1, 5, none⟩ = some (.string (tx sb)) ∧ w'.cell? ⟨w.heap.size + 1, 6, none⟩ = some (.bool ob) ∧ w'.cell? ⟨w.heap.size + 1, 7, none⟩ = some (.slice Ab lb kb) ∧ w'.cell? ⟨w4.heap.size, 0, none⟩ = some (.string (tx ga)) ∧ w'.cell? ⟨w4.heap.size, 1, none⟩ = some (.string (tx na)) ∧ w'.cell? ⟨w4.heap.size, 2, none⟩ = some (.string (tx vb)) ∧ w'.cell? ⟨w4.heap.size, 3, none⟩ = some (.string (tx ta)) ∧ w'.cell? ⟨w4.heap.size, 4, none⟩ = some (.string (tx ca)) ∧ w'.cell? ⟨w4.heap.size, 5, none⟩ = some (.string (tx sb)) ∧ w'.cell? ⟨w4.heap.size, 6, none⟩ = some (.bool ob) ∧ w'.cell? ⟨w4.heap.size, 7, none⟩ = some (.slice Ab lb kb)) (first | (have h := D3.rd X6; exact h) | (have h := D3.rd X7; exact h) | (have h := D3.rd X8; exact h) | (have h := D3.rd X9; exact h) | (have h := D3.rd XA; exact h) | (have h := D3.rd XB; exact h) | fail) (first
        | (go_at_call 7; refine (awake9_c _).mono ?_; rintro e q7 ⟨rfl, c7⟩; have X7 := Lib.hid (X6.out.drew.below c7.out); clear c7)
        | (go_at_call 8; with_reducible refine (CKey_c gb nb vb tb cb sb ob Ab lb kb _ (by omega) (by omega) (by omega) (by omega) L HL.out).mono ?_; rintro e q9 ⟨rfl, c9⟩; have X9 := Lib.hid (X8.out.below c9.out); clear c9)
        | (go_at_call 8; with_reducible refine (CKey_c ga na vb ta ca sb ob Ab lb kb _ (by omega) (by omega) (by omega) (by omega) K HK.out).mono ?_; rintro e qA ⟨rfl, cA⟩; have XA := Lib.hid (X9.out.below cA.out); clear cA)
        | (go_at_call 8; with_reducible refine (CKey_c ga na va ta ca sa oa Aa la ka _ (by omega) (by omega) (by omega) (by omega) K HK.out).mono ?_; rintro e q8 ⟨rfl, c8⟩; have X8 := Lib.hid (X7.out.below c8.out); clear c8)
        | (go_at_call 8; with_reducible refine (CKey_c ga na va ta ca sa oa Aa la ka _ (by omega) (by omega) (by omega) (by omega) K HK.out).mono ?_; rintro e qB ⟨rfl, cB⟩; have XB := Lib.hid (XA.out.below cB.out); clear cB))
      go_wp2_with fail
      go_ret
      exact ⟨rfl, XB.out.1.2.2⟩
  · have htea : ta.isEmpty = false := by cases ta with | nil => exact absurd rfl hta | cons => rfl
    have hxa : typeL ta = ta := by unfold typeL; rw [if_neg hta]
    clear hta
    by_cases htb : tb = []
    · have hteb : tb.isEmpty = true := by rw [htb]; rfl
      have hxb : typeL tb = [106, 97, 114] := by rw [htb]; rfl
      clear htb
      go_upto_region 10 with fail
      obtain ⟨w5, hw5⟩ : ∃ w5, w4.alloc (.cells (dpC ga na va ta ca sa oa Aa la ka) 24) = w5 := ⟨_, rfl⟩
      rw [hw5] at C4 D4 ⊢
      clear hw5 z0 z1 z2 z3 z4 z5 z6 z7 z8 z9 z10 z11 z12 z13 z14 z15
      obtain ⟨z0, z1, z2, z3, z4, z5, z6, z7, z8, z9, z10, z11, z12, z13, z14, z15⟩ := D2.rd C4
      have d2 := D4.out.frozen 2
      have d5 := D4.out.frozen 5
      have d6 := D4.out.frozen 6
      have d7 := D4.out.frozen 7
      have y2 := D4.out.cell 2
      have y5 := D4.out.cell 5
      have y6 := D4.out.cell 6
      have y7 := D4.out.cell 7
      go_region
      obtain ⟨w6, hw6⟩ : ∃ w6, ((((w5.setCell ⟨w4.heap.size, 2, none⟩ (.string (tx vb))).setCell ⟨w4.heap.size, 5, none⟩ (.string (tx sb))).setCell ⟨w4.heap.size, 6, none⟩ (.bool ob)).setCell ⟨w4.heap.size, 7, none⟩ (.slice Ab lb kb)).drew = w6 := ⟨_, rfl⟩
      have X6 : Hid (D3 w w6 w4.heap.size ga na va ta ca sa oa Aa la ka gb nb vb tb cb sb ob Ab lb kb) := Lib.hid (by
        rw [← hw6]
        refine D3.drew ⟨(((C4.out.set_far LT.out _ _).set_far LT.out _ _).set_far LT.out _ _).set_far LT.out _ _, (((D4.out.set 2 _).set 5 _).set 6 _).set 7 _⟩)
      rw [hw6]
      clear hw6 C4 D4 X4 d2 d5 d6 d7 y2 y5 y6 y7 z0 z1 z2 z3 z4 z5 z6 z7 z8 z9 z10 z11 z12 z13 z14 z15
      obtain ⟨z0, z1, z2, z3, z4, z5, z6, z7, z8, z9, z10, z11, z12, z13, z14, z15, z16, z17, z18, z19, z20, z21, z22, z23⟩ := D3.rd X6
      go_upto_region 11 with fail
      go_cut [0, 1, 2, 3, 6, 7, 8, 9] (fun v0 v1 v2 v3 v6 v7 v8 v9 wx => v2 = .pointer (some ⟨w.heap.size, 0, none⟩) ∧ v3 = .pointer (some ⟨w.heap.size + 1, 0, none⟩) ∧ v8 = .pointer (some ⟨w4.heap.size, 0, none⟩) ∧ v9 = .bool sm ∧ w6 = wx)
      case first =>
        have f1 := tx_list ga
        have f2 := tx_list gb
        have f3 := tx_list na
        have f4 := tx_list nb
        have f7 := tx_list ca
        have f8 := tx_list cb
        have f9 := jar_list
        have f10 : typeL [106, 97, 114] = [106, 97, 114] := rfl
        go_wp2_with fail
        all_goals go_meet
        all_goals exact ⟨by simp [*], by simp [*], by simp [*], by rw [← HSM.out]; congr 1; rw [Bool.eq_iff_iff]; simp [*], rfl⟩
      case rest =>
      obtain ⟨rfl, rfl, rfl, rfl, rfl⟩ := hcut
      clear z0 z1 z2 z3 z4 z5 z6 z7 z8 z9 z10 z11 z12 z13 z14 z15 z16 z17 z18 z19 z20 z21 z22 z23
      go_upto_region 12 with fail
      have hKL := HKL.out
      have fK := tx_list K
      have fL := tx_list L
      go_region_held3 (fun w' => w'.cell? ⟨w.heap.size, 0, none⟩ = some (.string (tx ga)) ∧ w'.cell? ⟨w.heap.size, 1, none⟩ = some (.string (tx na)) ∧ w'.cell? ⟨w.heap.size, 2, none⟩ = some (.string (tx va)) ∧ w'.cell? ⟨w.heap.size, 3, none⟩ = some (.string (tx ta)) ∧ w'.cell? ⟨w.heap.size, 4, none⟩ = some (.string (tx ca)) ∧ w'.cell? ⟨w.heap.size, 5, none⟩ = some (.string (tx sa)) ∧ w'.cell? ⟨w.heap.size, 6, none⟩ = some (.bool oa) ∧ w'.cell? ⟨w.heap.size, 7, none⟩ = some (.slice Aa la ka) ∧ w'.cell? ⟨w.heap.size + 1, 0, none⟩ = some (.string (tx gb)) ∧ w'.cell? ⟨w.heap.size + 1, 1, none⟩ = some (.string (tx nb)) ∧ w'.cell? ⟨w.heap.size + 1, 2, none⟩ = some (.string (tx vb)) ∧ w'.cell? ⟨w.heap.size + 1, 3, none⟩ = some (.string (tx tb)) ∧ w'.cell? ⟨w.heap.size + 1, 4, none⟩ = some (.string (tx cb)) ∧ w'.cell? ⟨w.heap.size + 1, 5, none⟩ = some (.string (tx sb)) ∧ w'.cell? ⟨w.heap.size + 1, 6, none⟩ = some (.bool ob) ∧ w'.cell? ⟨w.heap.size + 1, 7, none⟩ = some (.slice Ab lb kb) ∧ w'.cell? ⟨w4.heap.size, 0, none⟩ = some (.string (tx ga)) ∧ w'.cell? ⟨w4.heap.size, 1, none⟩ = some (.string (tx na)) ∧ w'.cell? ⟨w4.heap.size, 2, none⟩ = some (.string (tx vb)) ∧ w'.cell? ⟨w4.heap.size, 3, none⟩ = some (.string (tx ta)) ∧ w'.cell? ⟨w4.heap.size, 4, none⟩ = some (.string (tx ca)) ∧ w'.cell? ⟨w4.heap.size, 5, none⟩ = some (.string (tx sb)) ∧ w'.cell? ⟨w4.heap.size, 6, none⟩ = some (.bool ob) ∧ w'.cell? ⟨w4.heap.size, 7, none⟩ = some (.slice Ab lb kb)) (first | (have h := D3.rd X6; exact h) | (have h := D3.rd X7; exact h) | (have h := D3.rd X8; exact h) | (have h := D3.rd X9; exact h) | (have h := D3.rd XA; exact h) | (have h := D3.rd XB; exact h) | fail) (first
        | (go_at_call 7; refine (awake9_c _).mono ?_; rintro e q7 ⟨rfl, c7⟩; have X7 := Lib.hid (X6.out.drew.below c7.out); clear c7)
        | (go_at_call 8; with_reducible refine (CKey_c gb nb vb tb cb sb ob Ab lb kb _ (by omega) (by omega) (by omega) (by omega) L HL.out).mono ?_; rintro e q9 ⟨rfl, c9⟩; have X9 := Lib.hid (X8.out.below c9.out); clear c9)
        | (go_at_call 8; with_reducible refine (CKey_c ga na vb ta ca sb ob Ab lb kb _ (by omega) (by omega) (by omega) (by omega) K HK.out).mono ?_; rintro e qA ⟨rfl, cA⟩; have XA := Lib.hid (X9.out.below cA.out); clear cA)
        | (go_at_call 8; with_reducible refine (CKey_c ga na va ta ca sa oa Aa la ka _ (by omega) (by omega) (by omega) (by omega) K HK.out).mono ?_; rintro e q8 ⟨rfl, c8⟩; have X8 := Lib.hid (X7.out.below c8.out); clear c8)
        | (go_at_call 8; with_reducible refine (CKey_c ga na va ta ca sa oa Aa la ka _ (by omega) (by omega) (by omega) (by omega) K HK.out).mono ?_; rintro e qB ⟨rfl, cB⟩; have XB := Lib.hid (XA.out.below cB.out); clear cB))
      go_wp2_with fail
      go_ret
      exact ⟨rfl, XB.out.1.2.2⟩
    · have hteb : tb.isEmpty = false := by cases tb with | nil => exact absurd rfl htb | cons => rfl
      have hxb : typeL tb = tb := by unfold typeL; rw [if_neg htb]
      clear htb
      go_upto_region 10 with fail
      obtain ⟨w5, hw5⟩ : ∃ w5, w4.alloc (.cells (dpC ga na va ta ca sa oa Aa la ka) 24) = w5 := ⟨_, rfl⟩
      rw [hw5] at C4 D4 ⊢
      clear hw5 z0 z1 z2 z3 z4 z5 z6 z7 z8 z9 z10 z11 z12 z13 z14 z15
      obtain ⟨z0, z1, z2, z3, z4, z5, z6, z7, z8, z9, z10, z11, z12, z13, z14, z15⟩ := D2.rd C4
      have d2 := D4.out.frozen 2
      have d5 := D4.out.frozen 5
      have d6 := D4.out.frozen 6
      have d7 := D4.out.frozen 7
      have y2 := D4.out.cell 2
      have y5 := D4.out.cell 5
      have y6 := D4.out.cell 6
      have y7 := D4.out.cell 7
      go_region
      obtain ⟨w6, hw6⟩ : ∃ w6, ((((w5.setCell ⟨w4.heap.size, 2, none⟩ (.string (tx vb))).setCell ⟨w4.heap.size, 5, none⟩ (.string (tx sb))).setCell ⟨w4.heap.size, 6, none⟩ (.bool ob)).setCell ⟨w4.heap.size, 7, none⟩ (.slice Ab lb kb)).drew = w6 := ⟨_, rfl⟩
      have X6 : Hid (D3 w w6 w4.heap.size ga na va ta ca sa oa Aa la ka gb nb vb tb cb sb ob Ab lb kb) := Lib.hid (by
        rw [← hw6]
        refine D3.drew ⟨(((C4.out.set_far LT.out _ _).set_far LT.out _ _).set_far LT.out _ _).set_far LT.out _ _, (((D4.out.set 2 _).set 5 _).set 6 _).set 7 _⟩)
      rw [hw6]
      clear hw6 C4 D4 X4 d2 d5 d6 d7 y2 y5 y6 y7 z0 z1 z2 z3 z4 z5 z6 z7 z8 z9 z10 z11 z12 z13 z14 z15
      obtain ⟨z0, z1, z2, z3, z4, z5, z6, z7, z8, z9, z10, z11, z12, z13, z14, z15, z16, z17, z18, z19, z20, z21, z22, z23⟩ := D3.rd X6
      go_upto_region 11 with fail
      go_cut [0, 1, 2, 3, 6, 7, 8, 9] (fun v0 v1 v2 v3 v6 v7 v8 v9 wx => v2 = .pointer (some ⟨w.heap.size, 0, none⟩) ∧ v3 = .pointer (some ⟨w.heap.size + 1, 0, none⟩) ∧ v8 = .pointer (some ⟨w4.heap.size, 0, none⟩) ∧ v9 = .bool sm ∧ w6 = wx)
      case first =>
        have f1 := tx_list ga
        have f2 := tx_list gb
        have f3 := tx_list na
        have f4 := tx_list nb
        have f7 := tx_list ca
        have f8 := tx_list cb
        have f9 := jar_list
        have f10 : typeL [106, 97, 114] = [106, 97, 114] := rfl
        go_wp2_with fail
        all_goals go_meet
        all_goals exact ⟨by simp [*], by simp [*], by simp [*], by rw [← HSM.out]; congr 1; rw [Bool.eq_iff_iff]; simp [*], rfl⟩
      case rest =>
      obtain ⟨rfl, rfl, rfl, rfl, rfl⟩ := hcut
      clear z0 z1 z2 z3 z4 z5 z6 z7 z8 z9 z10 z11 z12 z13 z14 z15 z16 z17 z18 z19 z20 z21 z22 z23
      go_upto_region 12 with fail
      have hKL := HKL.out
      have fK := tx_list K
      have fL := tx_list L
      go_region_held3 (fun w' => w'.cell? ⟨w.heap.size, 0, none⟩ = some (.string (tx ga)) ∧ w'.cell? ⟨w.heap.size, 1, none⟩ = some (.string (tx na)) ∧ w'.cell? ⟨w.heap.size, 2, none⟩ = some (.string (tx va)) ∧ w'.cell? ⟨w.heap.size, 3, none⟩ = some (.string (tx ta)) ∧ w'.cell? ⟨w.heap.size, 4, none⟩ = some (.string (tx ca)) ∧ w'.cell? ⟨w.heap.size, 5, none⟩ = some (.string (tx sa)) ∧ w'.cell? ⟨w.heap.size, 6, none⟩ = some (.bool oa) ∧ w'.cell? ⟨w.heap.size, 7, none⟩ = some (.slice Aa la ka) ∧ w'.cell? ⟨w.heap.size + 1, 0, none⟩ = some (.string (tx gb)) ∧ w'.cell? ⟨w.heap.size + 1, 1, none⟩ = some (.string (tx nb)) ∧ w'.cell? ⟨w.heap.size + 1, 2, none⟩ = some (.string (tx vb)) ∧ w'.cell? ⟨w.heap.size + 1, 3, none⟩ = some (.string (tx tb)) ∧ w'.cell? ⟨w.heap.size + 1, 4, none⟩ = some (.string (tx cb)) ∧ w'.cell? ⟨w.heap.size + 1, 5, none⟩ = some (.string (tx sb)) ∧ w'.cell? ⟨w.heap.size + 1, 6, none⟩ = some (.bool ob) ∧ w'.cell? ⟨w.heap.size + 1, 7, none⟩ = some (.slice Ab lb kb) ∧ w'.cell? ⟨w4.heap.size, 0, none⟩ = some (.string (tx ga)) ∧ w'.cell? ⟨w4.heap.size, 1, none⟩ = some (.string (tx na)) ∧ w'.cell? ⟨w4.heap.size, 2, none⟩ = some (.string (tx vb)) ∧ w'.cell? ⟨w4.heap.size, 3, none⟩ = some (.string (tx ta)) ∧ w'.cell? ⟨w4.heap.size, 4, none⟩ = some (.string (tx ca)) ∧ w'.cell? ⟨w4.heap.size, 5, none⟩ = some (.string (tx sb)) ∧ w'.cell? ⟨w4.heap.size, 6, none⟩ = some (.bool ob) ∧ w'.cell? ⟨w4.heap.size, 7, none⟩ = some (.slice Ab lb kb)) (first | (have h := D3.rd X6; exact h) | (have h := D3.rd X7; exact h) | (have h := D3.rd X8; exact h) | (have h := D3.rd X9; exact h) | (have h := D3.rd XA; exact h) | (have h := D3.rd XB; exact h) | fail) (first
        | (go_at_call 7; refine (awake9_c _).mono ?_; rintro e q7 ⟨rfl, c7⟩; have X7 := Lib.hid (X6.out.drew.below c7.out); clear c7)
        | (go_at_call 8; with_reducible refine (CKey_c gb nb vb tb cb sb ob Ab lb kb _ (by omega) (by omega) (by omega) (by omega) L HL.out).mono ?_; rintro e q9 ⟨rfl, c9⟩; have X9 := Lib.hid (X8.out.below c9.out); clear c9)
        | (go_at_call 8; with_reducible refine (CKey_c ga na vb ta ca sb ob Ab lb kb _ (by omega) (by omega) (by omega) (by omega) K HK.out).mono ?_; rintro e qA ⟨rfl, cA⟩; have XA := Lib.hid (X9.out.below cA.out); clear cA)
        | (go_at_call 8; with_reducible refine (CKey_c ga na va ta ca sa oa Aa la ka _ (by omega) (by omega) (by omega) (by omega) K HK.out).mono ?_; rintro e q8 ⟨rfl, c8⟩; have X8 := Lib.hid (X7.out.below c8.out); clear c8)
        | (go_at_call 8; with_reducible refine (CKey_c ga na va ta ca sa oa Aa la ka _ (by omega) (by omega) (by omega) (by omega) K HK.out).mono ?_; rintro e qB ⟨rfl, cB⟩; have XB := Lib.hid (XA.out.below cB.out); clear cB))
      go_wp2_with fail
      go_ret
      exact ⟨rfl, XB.out.1.2.2⟩

set_option maxRecDepth 100000 in
set_option maxHeartbeats 4000000 in
theorem CoordKeys_walk (a b : Dpd) (w : World) (ha : DpdOk a) (hb : DpdOk b) :
    Calls Try.prog 3 #[dpW a, dpW b] w fun e w' => e = .returned (.bool true) ∧ Below w.heap.size w w' := by
  obtain ⟨ga, na, va, ta, ca, sa, oa, Aa, la, ka⟩ := a
  obtain ⟨gb, nb, vb, tb, cb, sb, ob, Ab, lb, kb⟩ := b
  obtain ⟨p, hp⟩ : ∃ p, okD ga na ta ca = p := ⟨_, rfl⟩
  obtain ⟨q, hq⟩ : ∃ q, okD gb nb tb cb = q := ⟨_, rfl⟩
  obtain ⟨a1, a2, a3, a4, a5⟩ := ha
  obtain ⟨b1, b2, b3, b4, b5⟩ := hb
  unfold reachBytes at a1 a2 a3 a4 a5 b1 b2 b3 b4 b5
  dsimp only at a1 a2 a3 a4 a5 b1 b2 b3 b4 b5
  have A1 : ga.length ≤ 1000000000000000 := by omega
  have A2 : na.length ≤ 1000000000000000 := by omega
  have A3 : ta.length ≤ 1000000000000000 := by omega
  have A4 : ca.length ≤ 1000000000000000 := by omega
  have B1 : gb.length ≤ 1000000000000000 := by omega
  have B2 : nb.length ≤ 1000000000000000 := by omega
  have B3 : tb.length ≤ 1000000000000000 := by omega
  have B4 : cb.length ≤ 1000000000000000 := by omega
  clear a1 a2 a3 a4 a5 b1 b2 b3 b4 b5
  cases p with
  | true =>
    cases q with
    | true => exact keys_ok ga na va ta ca sa oa Aa la ka gb nb vb tb cb sb ob Ab lb kb w hp hq
    | false =>
      have HP := Lib.hid hp
      have HQ := Lib.hid hq
      have X0 := Lib.hid (D2.new w ga na va ta ca sa oa Aa la ka gb nb vb tb cb sb ob Ab lb kb)
      clear hp hq
      obtain ⟨w1, hw1⟩ : ∃ w1, (w.alloc (.cells (dpC ga na va ta ca sa oa Aa la ka) 24)).alloc (.cells (dpC gb nb vb tb cb sb ob Ab lb kb) 24) = w1 := ⟨_, rfl⟩
      go_enter Try.func3, Try.ntmps3
      go_upto_region 1 with fail
      rw [hw1] at X0
      clear hw1
      obtain ⟨z0, z1, z2, z3, z4, z5, z6, z7, z8, z9, z10, z11, z12, z13, z14, z15⟩ := D2.rd X0
      go_wp2_with fail
      refine (ids_c ga na va ta ca sa oa Aa la ka _ A1 A2 A3 A4 true HP.out).mono ?_
      rintro e w2 ⟨rfl, c2⟩
      have X2 := Lib.hid (X0.out.below c2.out)
      clear X0 c2 z0 z1 z2 z3 z4 z5 z6 z7 z8 z9 z10 z11 z12 z13 z14 z15
      obtain ⟨z0, z1, z2, z3, z4, z5, z6, z7, z8, z9, z10, z11, z12, z13, z14, z15⟩ := D2.rd X2
      go_wp2_with fail
      refine (ids_c gb nb vb tb cb sb ob Ab lb kb _ B1 B2 B3 B4 false HQ.out).mono ?_
      rintro e w3 ⟨rfl, c3⟩
      have X3 := Lib.hid (X2.out.below c3.out)
      go_wp2_with fail
      refine (awake9_c _).mono ?_
      rintro e w4 ⟨rfl, b4⟩
      go_wp2_with fail
      go_ret
      exact ⟨rfl, (X3.out.below b4.out).2.2⟩
  | false =>
    have HP := Lib.hid hp
    have X0 := Lib.hid (D2.new w ga na va ta ca sa oa Aa la ka gb nb vb tb cb sb ob Ab lb kb)
    clear hp hq
    obtain ⟨w1, hw1⟩ : ∃ w1, (w.alloc (.cells (dpC ga na va ta ca sa oa Aa la ka) 24)).alloc (.cells (dpC gb nb vb tb cb sb ob Ab lb kb) 24) = w1 := ⟨_, rfl⟩
    go_enter Try.func3, Try.ntmps3
    go_upto_region 1 with fail
    rw [hw1] at X0
    clear hw1
    obtain ⟨z0, z1, z2, z3, z4, z5, z6, z7, z8, z9, z10, z11, z12, z13, z14, z15⟩ := D2.rd X0
    go_wp2_with fail
    refine (ids_c ga na va ta ca sa oa Aa la ka _ A1 A2 A3 A4 false HP.out).mono ?_
    rintro e w2 ⟨rfl, c2⟩
    have X2 := Lib.hid (X0.out.below c2.out)
    go_wp2_with fail
    refine (awake9_c _).mono ?_
    rintro e w4 ⟨rfl, b4⟩
    go_wp2_with fail
    go_ret
    exact ⟨rfl, (X2.out.below b4.out).2.2⟩
end Go.Proofs.Ythmlggglemnfgaa
