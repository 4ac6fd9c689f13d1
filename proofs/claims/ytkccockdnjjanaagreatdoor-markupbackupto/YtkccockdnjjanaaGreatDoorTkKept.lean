/-
  Contracts of 'kept' and 'attr' (layer 2): results that lie in memory.
-/
import Derived.Test.YtkccockdnjjanaaGreatDoorTkVal
namespace Go.Proofs.YtkccockdnjjanaaGreatDoor
open Nwl
open Go.RowKit
set_option linter.unusedVariables false

/-- a token's value; nothing at all -/
abbrev tokV (k : Int) (n x : ByteArray) (av : Value) (e : Bool) : Value := .agg #[.int .i64 k, .string n, .string x, av, .bool e]
abbrev tok0 : Value := tokV 0 ⟨#[]⟩ ⟨#[]⟩ (.slice none 0 0) false

set_option maxHeartbeats 1000000 in
theorem kept_yes (k : Int) (n x : ByteArray) (A : Option Addr) (l c : Nat) (e : Bool) (w : World) :
    Calls Tryz.prog 69 #[.agg #[.int .i64 k, .string n, .string x, .slice A l c, .bool e], .bool true] w fun en w' => en = .returned (.tuple #[.agg #[.int .i64 k, .string n, .string x, .slice A l c, .bool e], .bool true]) ∧ Below w.heap.size w w' := by
  go_enter Tryz.func69, Tryz.ntmps69
  go_wp2
  exact bodyPost_ret (v := .tuple #[.agg #[.int .i64 k, .string n, .string x, .slice A l c, .bool e], .bool true]) (by simp [results, Tryz.results69, go_sem]) rfl ⟨rfl, ((Below.refl _ _).alloc (Nat.le_refl _) _).alloc (by simp) _⟩

set_option maxHeartbeats 1000000 in
theorem kept_no (k : Int) (n x : ByteArray) (A : Option Addr) (l c : Nat) (e : Bool) (w : World) :
    Calls Tryz.prog 69 #[.agg #[.int .i64 k, .string n, .string x, .slice A l c, .bool e], .bool false] w fun en w' => en = .returned (.tuple #[.agg #[.int .i64 0, .string ⟨#[]⟩, .string ⟨#[]⟩, .slice none 0 0, .bool false], .bool false]) ∧ Below w.heap.size w w' := by
  go_enter Tryz.func69, Tryz.ntmps69
  go_wp2
  exact bodyPost_ret (v := .tuple #[.agg #[.int .i64 0, .string ⟨#[]⟩, .string ⟨#[]⟩, .slice none 0 0, .bool false], .bool false]) (by simp [results, Tryz.results69, go_sem]) rfl ⟨rfl, ((Below.refl _ _).alloc (Nat.le_refl _) _).alloc (by simp) _⟩

theorem Wk.grown {g : Nat} {r : List UInt8} {w w' : World} {row : Option Nat} (h : Wk g r w) (hb : w.grownBy w' row) (hg : some g ≠ row) : Wk g r w' := (hb.block g h.lt hg).trans h
theorem Wk.set_far {g b i : Nat} {r : List UInt8} {w : World} (h : Wk g r w) (hne : g ≠ b) (u : Value) : Wk g r (w.setCell ⟨b, i, none⟩ u) := (Below.heap_setCell w ⟨b, i, none⟩ u g hne).trans h


/-- what 'attr' answers: a name and a value, and what is left; or nothing -/
def AttrPost (g : Nat) (r : List UInt8) (w : World) (e : Ending) (w' : World) : Prop :=
  match attrL r with
  | some ((n, v), rest) => e = .returned (.tuple #[.agg #[.string (tx n), .string (tx v)], .bool true]) ∧ Wk g rest w' ∧ w.grownBy w' (some g)
  | none => e = .returned (.tuple #[.agg #[.string ⟨#[]⟩, .string ⟨#[]⟩], .bool false]) ∧ (∃ r', Wk g r' w') ∧ w.grownBy w' (some g)
theorem attrPost_some {g : Nat} {r n v rest : List UInt8} {w : World} {e : Ending} {w' : World} (h : attrL r = some ((n, v), rest)) (h1 : e = .returned (.tuple #[.agg #[.string (tx n), .string (tx v)], .bool true])) (h2 : Wk g rest w') (h3 : w.grownBy w' (some g)) : AttrPost g r w e w' := by
  unfold AttrPost; rw [h]; exact ⟨h1, h2, h3⟩
theorem attrPost_none {g : Nat} {r r' : List UInt8} {w : World} {e : Ending} {w' : World} (h : attrL r = none) (h1 : e = .returned (.tuple #[.agg #[.string ⟨#[]⟩, .string ⟨#[]⟩], .bool false])) (h2 : Wk g r' w') (h3 : w.grownBy w' (some g)) : AttrPost g r w e w' := by
  unfold AttrPost; rw [h]; exact ⟨h1, ⟨r', h2⟩, h3⟩

set_option maxRecDepth 100000 in
set_option maxHeartbeats 2000000 in
theorem attr_c (g : Nat) (r : List UInt8) (w : World) (hk : Wk g r w) (hg : Glob w) (hr : r.length ≤ 100000) :
    Calls Tryz.prog 97 #[.pointer (some ⟨g, 0, none⟩)] w (AttrPost g r w) := by
  have hlt := hk.lt
  have hgne : g ≠ w.heap.size := by omega
  have HK := Lib.hid (hk.alloc (.cells #[.string ⟨#[]⟩, .string ⟨#[]⟩] 61))
  have HG := Lib.hid (hg.alloc (.cells #[.string ⟨#[]⟩, .string ⟨#[]⟩] 61))
  have hl2 := nameP_le r
  have hl3 := skipL_le (nameP r).2
  clear hk hg
  by_cases hn : (nameP r).1 = []
  · have hnl : (tx (nameP r).1).toList = [] := toList_nil_of _ (by rw [hn, tx_size]; rfl)
    have HA : Hid (attrL r = none) := Lib.hid (by unfold attrL; rw [if_pos hn])
    clear hn
    go_enter Tryz.func97, Tryz.ntmps97
    go_wp2_with fail
    refine (name_c g _ _ HK.out hr).mono ?_
    rintro e w1 ⟨rfl, hk1, hg1⟩
    have HK1 := Lib.hid hk1
    have HB1 := Lib.hid ((Blk.new w 61 #[.string ⟨#[]⟩, .string ⟨#[]⟩]).grown hg1 (by simp; omega))
    clear hk1
    go_wp2_with fail
    refine (spaces_c g _ _ HK1.out (by omega)).mono ?_
    rintro e w2 ⟨rfl, hk2, hg2⟩
    have HK2 := Lib.hid hk2
    have HB2 := Lib.hid (HB1.out.grown hg2 (by simp; omega))
    have c0 := HB2.out.cell 0
    have c1 := HB2.out.cell 1
    have f0 := HB2.out.frozen 0
    have f1 := HB2.out.frozen 1
    clear hk2
    go_wp2_with fail
    have HF := (HB2.out.set 0 (.string ⟨#[]⟩)).set 1 (.string ⟨#[]⟩)
    have d0 := HF.cell 0
    have d1 := HF.cell 1
    exact bodyPost_ret (v := .tuple #[.agg #[.string ⟨#[]⟩, .string ⟨#[]⟩], .bool false]) (by simp [results, Tryz.results97, go_sem, d0, d1]) rfl (attrPost_none HA.out rfl ((HK2.out.set_far hgne _).set_far hgne _) (grown_set_new (grown_set_new (grown_after_alloc (hg1.trans hg2)) (Nat.le_refl _) _) (Nat.le_refl _) _))
  · have hsz : 0 < (tx (nameP r).1).size := by
      rw [tx_size]
      cases h : (nameP r).1 with
      | nil => exact absurd h hn
      | cons => simp
    have hnl : ¬ (tx (nameP r).1).toList = [] := toList_ne_of _ hsz
    have hnl2 : (tx (nameP r).1).toList.isEmpty = false := by simpa using hnl
    have HAq : attrL r = match skipL (nameP r).2 with
      | [] => none
      | c :: r2 => if c = 61 then (valueL (skipL r2)).map fun (v, rest) => (((nameP r).1, v), rest) else none := by
      unfold attrL; rw [if_neg hn]; cases skipL (nameP r).2 <;> rfl
    clear hn
    by_cases he : ∃ r2, skipL (nameP r).2 = 61 :: r2
    · obtain ⟨r2, hr2⟩ := he
      rw [hr2] at HAq hl3
      simp only [if_true] at HAq
      have HP : Hid (Lib.hasPrefix (skipL (nameP r).2) [61] = true) := Lib.hid (by rw [hr2]; exact prefix_cons _ _ _)
      have HR2 := Lib.hid hr2
      have hl4 := skipL_le r2
      rw [List.length_cons] at hl3
      clear hr2
      cases hv : valueL (skipL r2) with
      | none =>
        rw [hv] at HAq
        have HA := Lib.hid HAq
        have HV := Lib.hid hv
        clear HAq hv
        go_enter Tryz.func97, Tryz.ntmps97
        go_wp2_with fail
        refine (name_c g _ _ HK.out hr).mono ?_
        rintro e w1 ⟨rfl, hk1, hg1⟩
        have HK1 := Lib.hid hk1
        have HG1 := Lib.hid (HG.out.grown HK.out hg1)
        have HB1 := Lib.hid ((Blk.new w 61 #[.string ⟨#[]⟩, .string ⟨#[]⟩]).grown hg1 (by simp; omega))
        clear hk1
        go_wp2_with fail
        refine (spaces_c g _ _ HK1.out (by omega)).mono ?_
        rintro e w2 ⟨rfl, hk2, hg2⟩
        have HK2 := Lib.hid hk2
        have HG2 := Lib.hid (HG1.out.grown HK1.out hg2)
        have HB2 := Lib.hid (HB1.out.grown hg2 (by simp; omega))
        clear hk2
        go_wp2_with fail
        refine (skip_yes g _ _ _ HK2.out HP.out).mono ?_
        rintro e w3 ⟨rfl, hk3, hg3⟩
        rw [HR2.out] at hk3
        have HK3 : Hid (Wk g r2 w3) := Lib.hid hk3
        have HG3 := Lib.hid (HG2.out.grown HK2.out hg3)
        have HB3 := Lib.hid (HB2.out.grown hg3 (by simp; omega))
        clear hk3
        go_wp2_with fail
        refine (spaces_c g _ _ HK3.out (by omega)).mono ?_
        rintro e w4 ⟨rfl, hk4, hg4⟩
        have HK4 := Lib.hid hk4
        have HG4 := Lib.hid (HG3.out.grown HK3.out hg4)
        have HB4 := Lib.hid (HB3.out.grown hg4 (by simp; omega))
        clear hk4
        go_wp2_with fail
        refine (value_c g _ _ HK4.out HG4.out (by omega)).mono ?_
        intro e w5 hp5
        unfold ValPost at hp5
        rw [HV.out] at hp5
        obtain ⟨⟨s5, rfl⟩, ⟨r5, hk5⟩, hg5⟩ := hp5
        have HK5 := Lib.hid hk5
        have HB5 := Lib.hid (HB4.out.grown hg5 (by simp; omega))
        have c0 := HB5.out.cell 0
        have c1 := HB5.out.cell 1
        have f0 := HB5.out.frozen 0
        have f1 := HB5.out.frozen 1
        clear hk5
        go_wp2_with fail
        have HF := (HB5.out.set 0 (.string ⟨#[]⟩)).set 1 (.string ⟨#[]⟩)
        have d0 := HF.cell 0
        have d1 := HF.cell 1
        exact bodyPost_ret (v := .tuple #[.agg #[.string ⟨#[]⟩, .string ⟨#[]⟩], .bool false]) (by simp [results, Tryz.results97, go_sem, d0, d1]) rfl (attrPost_none HA.out rfl ((HK5.out.set_far hgne _).set_far hgne _) (grown_set_new (grown_set_new (grown_after_alloc ((((hg1.trans hg2).trans hg3).trans hg4).trans hg5)) (Nat.le_refl _) _) (Nat.le_refl _) _))
      | some x =>
        obtain ⟨v, rest⟩ := x
        rw [hv] at HAq
        have HA := Lib.hid HAq
        have HV := Lib.hid hv
        clear HAq hv
        go_enter Tryz.func97, Tryz.ntmps97
        go_wp2_with fail
        refine (name_c g _ _ HK.out hr).mono ?_
        rintro e w1 ⟨rfl, hk1, hg1⟩
        have HK1 := Lib.hid hk1
        have HG1 := Lib.hid (HG.out.grown HK.out hg1)
        have HB1 := Lib.hid ((Blk.new w 61 #[.string ⟨#[]⟩, .string ⟨#[]⟩]).grown hg1 (by simp; omega))
        clear hk1
        go_wp2_with fail
        refine (spaces_c g _ _ HK1.out (by omega)).mono ?_
        rintro e w2 ⟨rfl, hk2, hg2⟩
        have HK2 := Lib.hid hk2
        have HG2 := Lib.hid (HG1.out.grown HK1.out hg2)
        have HB2 := Lib.hid (HB1.out.grown hg2 (by simp; omega))
        clear hk2
        go_wp2_with fail
        refine (skip_yes g _ _ _ HK2.out HP.out).mono ?_
        rintro e w3 ⟨rfl, hk3, hg3⟩
        rw [HR2.out] at hk3
        have HK3 : Hid (Wk g r2 w3) := Lib.hid hk3
        have HG3 := Lib.hid (HG2.out.grown HK2.out hg3)
        have HB3 := Lib.hid (HB2.out.grown hg3 (by simp; omega))
        clear hk3
        go_wp2_with fail
        refine (spaces_c g _ _ HK3.out (by omega)).mono ?_
        rintro e w4 ⟨rfl, hk4, hg4⟩
        have HK4 := Lib.hid hk4
        have HG4 := Lib.hid (HG3.out.grown HK3.out hg4)
        have HB4 := Lib.hid (HB3.out.grown hg4 (by simp; omega))
        clear hk4
        go_wp2_with fail
        refine (value_c g _ _ HK4.out HG4.out (by omega)).mono ?_
        intro e w5 hp5
        unfold ValPost at hp5
        rw [HV.out] at hp5
        obtain ⟨rfl, hk5, hg5⟩ := hp5
        have HK5 := Lib.hid hk5
        have HB5 := Lib.hid (HB4.out.grown hg5 (by simp; omega))
        have c0 := HB5.out.cell 0
        have c1 := HB5.out.cell 1
        have f0 := HB5.out.frozen 0
        have f1 := HB5.out.frozen 1
        clear hk5
        go_wp2_with fail
        have HF := (HB5.out.set 0 (.string (tx (nameP r).1))).set 1 (.string (tx v))
        have d0 := HF.cell 0
        have d1 := HF.cell 1
        exact bodyPost_ret (v := .tuple #[.agg #[.string (tx (nameP r).1), .string (tx v)], .bool true]) (by simp [results, Tryz.results97, go_sem, d0, d1]) rfl (attrPost_some HA.out rfl ((HK5.out.set_far hgne _).set_far hgne _) (grown_set_new (grown_set_new (grown_after_alloc ((((hg1.trans hg2).trans hg3).trans hg4).trans hg5)) (Nat.le_refl _) _) (Nat.le_refl _) _))
    · have hpf : Lib.hasPrefix (skipL (nameP r).2) [61] = false := by
        cases hs : skipL (nameP r).2 with
        | nil => rfl
        | cons c r2 =>
          rw [prefix_cons, beq_eq_false_iff_ne]
          intro e
          subst e
          exact he ⟨r2, hs⟩
      have HA : Hid (attrL r = none) := Lib.hid (by
        rw [HAq]
        cases hs : skipL (nameP r).2 with
        | nil => rfl
        | cons c r2 =>
          simp only []
          rw [if_neg (by intro e; subst e; exact he ⟨r2, hs⟩)])
      have HP := Lib.hid hpf
      clear hpf HAq he
      go_enter Tryz.func97, Tryz.ntmps97
      go_wp2_with fail
      refine (name_c g _ _ HK.out hr).mono ?_
      rintro e w1 ⟨rfl, hk1, hg1⟩
      have HK1 := Lib.hid hk1
      have HB1 := Lib.hid ((Blk.new w 61 #[.string ⟨#[]⟩, .string ⟨#[]⟩]).grown hg1 (by simp; omega))
      clear hk1
      go_wp2_with fail
      refine (spaces_c g _ _ HK1.out (by omega)).mono ?_
      rintro e w2 ⟨rfl, hk2, hg2⟩
      have HK2 := Lib.hid hk2
      have HB2 := Lib.hid (HB1.out.grown hg2 (by simp; omega))
      clear hk2
      go_wp2_with fail
      refine (skip_no g _ _ _ HK2.out HP.out).mono ?_
      rintro e w3 ⟨rfl, hk3, hg3⟩
      have HK3 := Lib.hid hk3
      have HB3 := Lib.hid (HB2.out.grown hg3 (by simp; omega))
      have c0 := HB3.out.cell 0
      have c1 := HB3.out.cell 1
      have f0 := HB3.out.frozen 0
      have f1 := HB3.out.frozen 1
      clear hk3
      go_wp2_with fail
      have HF := (HB3.out.set 0 (.string ⟨#[]⟩)).set 1 (.string ⟨#[]⟩)
      have d0 := HF.cell 0
      have d1 := HF.cell 1
      exact bodyPost_ret (v := .tuple #[.agg #[.string ⟨#[]⟩, .string ⟨#[]⟩], .bool false]) (by simp [results, Tryz.results97, go_sem, d0, d1]) rfl (attrPost_none HA.out rfl ((HK3.out.set_far hgne _).set_far hgne _) (grown_set_new (grown_set_new (grown_after_alloc ((hg1.trans hg2).trans hg3)) (Nat.le_refl _) _) (Nat.le_refl _) _))

end Go.Proofs.YtkccockdnjjanaaGreatDoor
