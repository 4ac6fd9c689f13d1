/-
  Contracts of an attribute and its value (layer 2).
-/
import Derived.Test.YtkccockdnjjanaaGreatDoorTkName
namespace Nwl
theorem indexByte_iff (c : UInt8) : ∀ l : List UInt8, decide (0 ≤ Go.Lib.indexByte l c) = l.contains c
  | [] => rfl
  | b :: l => by
    have ih := indexByte_iff c l
    have hge := Go.Lib.indexByte_ge l c
    unfold Go.Lib.indexByte
    by_cases h : b = c
    · subst h; simp
    · rw [if_neg (by simpa using h)]
      rw [List.contains_cons]
      have hne : (c == b) = false := by rw [beq_eq_false_iff_ne]; exact fun e => h e.symm
      rw [hne, Bool.false_or, ← ih]
      by_cases h2 : Go.Lib.indexByte l c = -1
      · simp [h2]
      · rw [if_neg (by simpa using h2)]
        congr 1
        rw [eq_iff_iff]
        omega
/-- does a byte stand in a text? -/
def hasC (c : UInt8) (l : List UInt8) : Bool := l.contains c
theorem prefix_cons (c d : UInt8) (r : List UInt8) : Go.Lib.hasPrefix (c :: r) [d] = (d == c) := by
  simp [Go.Lib.hasPrefix, List.isPrefixOf]
theorem prefix_nil (d : UInt8) (p : List UInt8) : Go.Lib.hasPrefix [] (d :: p) = false := rfl
theorem valueL_raw {c : UInt8} {r raw rest : List UInt8} (hq : c = 34 ∨ c = 39) (hc : cutL [c] r = some (raw, rest)) : valueL (c :: r) = if hasC 60 raw then none else (entL raw).map (·, rest) := by
  simp only [valueL, if_pos hq, hc]
  rfl
theorem valueL_nocut {c : UInt8} {r : List UInt8} (hq : c = 34 ∨ c = 39) (hc : cutL [c] r = none) : valueL (c :: r) = none := by
  simp only [valueL, if_pos hq, hc]
theorem valueL_nomark {c : UInt8} {r : List UInt8} (hq : ¬ (c = 34 ∨ c = 39)) : valueL (c :: r) = none := by
  simp only [valueL, if_neg hq]
end Nwl
namespace Go.Proofs.YtkccockdnjjanaaGreatDoor
open Nwl
open Go.RowKit
set_option linter.unusedVariables false

theorem Contains1_c (l : List UInt8) (c : UInt8) (w : World) :
    Calls Tryz.prog 93 #[.string (tx l), .string ⟨#[c]⟩] w fun e w' => e = .returned (.bool (hasC c l)) ∧ w = w' :=
  (Tryz.strings_Contains_one (tx l) c w).mono fun _ _ ⟨a, b⟩ => ⟨by rw [a]; exact ret_bool (indexByte_iff c l), b.symm⟩

/-- what 'value' answers: the value, and what is left; or nothing -/
def ValPost (g : Nat) (r : List UInt8) (w : World) (e : Ending) (w' : World) : Prop :=
  match valueL r with
  | some (v, rest) => e = .returned (.tuple #[.string (tx v), .bool true]) ∧ Wk g rest w' ∧ w.grownBy w' (some g)
  | none => (∃ s, e = .returned (.tuple #[.string s, .bool false])) ∧ (∃ r', Wk g r' w') ∧ w.grownBy w' (some g)
theorem valPost_some {g : Nat} {r v rest : List UInt8} {w : World} {e : Ending} {w' : World} (h : valueL r = some (v, rest)) (h1 : e = .returned (.tuple #[.string (tx v), .bool true])) (h2 : Wk g rest w') (h3 : w.grownBy w' (some g)) : ValPost g r w e w' := by
  unfold ValPost; rw [h]; exact ⟨h1, h2, h3⟩
theorem valPost_none {g : Nat} {r r' : List UInt8} {w : World} {e : Ending} {w' : World} {s : ByteArray} (h : valueL r = none) (h1 : e = .returned (.tuple #[.string s, .bool false])) (h2 : Wk g r' w') (h3 : w.grownBy w' (some g)) : ValPost g r w e w' := by
  unfold ValPost; rw [h]; exact ⟨⟨s, h1⟩, ⟨r', h2⟩, h3⟩

set_option maxRecDepth 100000 in
set_option maxHeartbeats 2000000 in
theorem value_34 (g : Nat) (rr : List UInt8) (w : World) (hk : Wk g (34 :: rr) w) (hg : Glob w) (hr : rr.length < 100000) :
    Calls Tryz.prog 111 #[.pointer (some ⟨g, 0, none⟩)] w (ValPost g (34 :: rr) w) := by
  have HK := Lib.hid hk
  have HG := Lib.hid hg
  have hrr : rr.length ≤ 100000 := by omega
  have HP : Hid (Lib.hasPrefix (34 :: rr) [34] = true) := Lib.hid (prefix_cons _ _ _)
  clear hk hg
  cases hcut : cutL [34] rr with
  | none =>
    have HV := Lib.hid (valueL_nocut (c := 34) (by decide) hcut)
    have HC := Lib.hid hcut
    clear hcut
    go_enter Tryz.func111, Tryz.ntmps111
    go_wp2_with fail
    refine (skip_yes g _ _ _ HK.out HP.out).mono ?_
    rintro e w1 ⟨rfl, hk1, hgr1⟩
    have HG1 := Lib.hid (HG.out.grown HK.out hgr1)
    have HK1 : Hid (Wk g rr w1) := Lib.hid hk1
    clear hk1
    go_wp2_with fail
    refine (upTo_no g _ _ _ HK1.out HG1.out hrr HC.out).mono ?_
    rintro e w5 ⟨rfl, hk5, hg5⟩
    go_wp2_with fail
    go_ret2
    exact valPost_none HV.out rfl hk5 (hgr1.trans hg5)
  | some x =>
    obtain ⟨raw, rest⟩ := x
    have hval := valueL_raw (c := 34) (by decide) hcut
    have hsum := cutL_sum hcut
    have hraw : (tx raw).size ≤ 100000 := by rw [tx_size]; simp at hsum; omega
    have HC := Lib.hid hcut
    clear hcut hsum
    cases hlt : hasC 60 raw with
    | true =>
      rw [hlt, if_pos rfl] at hval
      have HV := Lib.hid hval
      clear hval
      go_enter Tryz.func111, Tryz.ntmps111
      go_wp2_with fail
      refine (skip_yes g _ _ _ HK.out HP.out).mono ?_
      rintro e w1 ⟨rfl, hk1, hgr1⟩
      have HG1 := Lib.hid (HG.out.grown HK.out hgr1)
      have HK1 : Hid (Wk g rr w1) := Lib.hid hk1
      clear hk1
      go_wp2_with fail
      refine (upTo_yes g _ _ _ _ _ HK1.out HG1.out hrr HC.out).mono ?_
      rintro e w5 ⟨rfl, hk5, hg5⟩
      go_wp2_with (go_at_call 93; refine (Contains1_c _ _ _).mono ?_; rintro e w6 ⟨rfl, rfl⟩)
      go_ret2
      exact valPost_none HV.out rfl hk5 (hgr1.trans hg5)
    | false =>
      rw [hlt, if_neg (by decide)] at hval
      cases hen : entL raw with
      | none =>
        rw [hen] at hval
        have HV := Lib.hid hval
        have HE : Hid (entE (entL (bs (tx raw))) = 5) := Lib.hid (by rw [bs_tx, hen]; rfl)
        clear hval hen
        go_enter Tryz.func111, Tryz.ntmps111
        go_wp2_with fail
        refine (skip_yes g _ _ _ HK.out HP.out).mono ?_
        rintro e w1 ⟨rfl, hk1, hgr1⟩
        have HG1 := Lib.hid (HG.out.grown HK.out hgr1)
        have HK1 : Hid (Wk g rr w1) := Lib.hid hk1
        clear hk1
        go_wp2_with fail
        refine (upTo_yes g _ _ _ _ _ HK1.out HG1.out hrr HC.out).mono ?_
        rintro e w5 ⟨rfl, hk5, hg5⟩
        have HG5 := Lib.hid (HG1.out.grown HK1.out hg5)
        go_wp2_with (first
          | (go_at_call 93; refine (Contains1_c _ _ _).mono ?_; rintro e w6 ⟨rfl, rfl⟩)
          | (go_at_call 99; refine (Entities_c _ _ hraw HG5.out).mono ?_; rintro e w7 ⟨rfl, hb7⟩; rw [HE.out]))
        go_ret2
        exact valPost_none HV.out rfl (hk5.below hb7) ((hgr1.trans hg5).trans (grown_of_below hb7 _))
      | some v =>
        rw [hen] at hval
        have HV := Lib.hid hval
        have HE : Hid (entE (entL (bs (tx raw))) = 0) := Lib.hid (by rw [bs_tx, hen]; rfl)
        have HS : Hid (entS (entL (bs (tx raw))) = tx v) := Lib.hid (by rw [bs_tx, hen]; rfl)
        clear hval hen
        go_enter Tryz.func111, Tryz.ntmps111
        go_wp2_with fail
        refine (skip_yes g _ _ _ HK.out HP.out).mono ?_
        rintro e w1 ⟨rfl, hk1, hgr1⟩
        have HG1 := Lib.hid (HG.out.grown HK.out hgr1)
        have HK1 : Hid (Wk g rr w1) := Lib.hid hk1
        clear hk1
        go_wp2_with fail
        refine (upTo_yes g _ _ _ _ _ HK1.out HG1.out hrr HC.out).mono ?_
        rintro e w5 ⟨rfl, hk5, hg5⟩
        have HG5 := Lib.hid (HG1.out.grown HK1.out hg5)
        go_wp2_with (first
          | (go_at_call 93; refine (Contains1_c _ _ _).mono ?_; rintro e w6 ⟨rfl, rfl⟩)
          | (go_at_call 99; refine (Entities_c _ _ hraw HG5.out).mono ?_; rintro e w7 ⟨rfl, hb7⟩; rw [HE.out, HS.out]))
        go_ret2
        exact valPost_some HV.out rfl (hk5.below hb7) ((hgr1.trans hg5).trans (grown_of_below hb7 _))

set_option maxRecDepth 100000 in
set_option maxHeartbeats 2000000 in
theorem value_39 (g : Nat) (rr : List UInt8) (w : World) (hk : Wk g (39 :: rr) w) (hg : Glob w) (hr : rr.length < 100000) :
    Calls Tryz.prog 111 #[.pointer (some ⟨g, 0, none⟩)] w (ValPost g (39 :: rr) w) := by
  have HK := Lib.hid hk
  have HG := Lib.hid hg
  have hrr : rr.length ≤ 100000 := by omega
  have HP : Hid (Lib.hasPrefix (39 :: rr) [39] = true) := Lib.hid (prefix_cons _ _ _)
  have HP0 : Hid (Lib.hasPrefix (39 :: rr) [34] = false) := Lib.hid (prefix_cons _ _ _)
  clear hk hg
  cases hcut : cutL [39] rr with
  | none =>
    have HV := Lib.hid (valueL_nocut (c := 39) (by decide) hcut)
    have HC := Lib.hid hcut
    clear hcut
    go_enter Tryz.func111, Tryz.ntmps111
    go_wp2_with fail
    refine (skip_no g _ _ _ HK.out HP0.out).mono ?_
    rintro e w0 ⟨rfl, hk0, hgr0⟩
    have HG0 := Lib.hid (HG.out.grown HK.out hgr0)
    have HK0 := Lib.hid hk0
    clear hk0
    go_wp2_with fail
    refine (skip_yes g _ _ _ HK0.out HP.out).mono ?_
    rintro e w1 ⟨rfl, hk1, hgr01⟩
    have HG1 := Lib.hid (HG0.out.grown HK0.out hgr01)
    have HK1 : Hid (Wk g rr w1) := Lib.hid hk1
    have hgr1 := hgr0.trans hgr01
    clear hk1 hgr0 hgr01
    go_wp2_with fail
    refine (upTo_no g _ _ _ HK1.out HG1.out hrr HC.out).mono ?_
    rintro e w5 ⟨rfl, hk5, hg5⟩
    go_wp2_with fail
    go_ret2
    exact valPost_none HV.out rfl hk5 (hgr1.trans hg5)
  | some x =>
    obtain ⟨raw, rest⟩ := x
    have hval := valueL_raw (c := 39) (by decide) hcut
    have hsum := cutL_sum hcut
    have hraw : (tx raw).size ≤ 100000 := by rw [tx_size]; simp at hsum; omega
    have HC := Lib.hid hcut
    clear hcut hsum
    cases hlt : hasC 60 raw with
    | true =>
      rw [hlt, if_pos rfl] at hval
      have HV := Lib.hid hval
      clear hval
      go_enter Tryz.func111, Tryz.ntmps111
      go_wp2_with fail
      refine (skip_no g _ _ _ HK.out HP0.out).mono ?_
      rintro e w0 ⟨rfl, hk0, hgr0⟩
      have HG0 := Lib.hid (HG.out.grown HK.out hgr0)
      have HK0 := Lib.hid hk0
      clear hk0
      go_wp2_with fail
      refine (skip_yes g _ _ _ HK0.out HP.out).mono ?_
      rintro e w1 ⟨rfl, hk1, hgr01⟩
      have HG1 := Lib.hid (HG0.out.grown HK0.out hgr01)
      have HK1 : Hid (Wk g rr w1) := Lib.hid hk1
      have hgr1 := hgr0.trans hgr01
      clear hk1 hgr0 hgr01
      go_wp2_with fail
      refine (upTo_yes g _ _ _ _ _ HK1.out HG1.out hrr HC.out).mono ?_
      rintro e w5 ⟨rfl, hk5, hg5⟩
      go_wp2_with (go_at_call 93; refine (Contains1_c _ _ _).mono ?_; rintro e w6 ⟨rfl, rfl⟩)
      go_ret2
      exact valPost_none HV.out rfl hk5 (hgr1.trans hg5)
    | false =>
      rw [hlt, if_neg (by decide)] at hval
      cases hen : entL raw with
      | none =>
        rw [hen] at hval
        have HV := Lib.hid hval
        have HE : Hid (entE (entL (bs (tx raw))) = 5) := Lib.hid (by rw [bs_tx, hen]; rfl)
        clear hval hen
        go_enter Tryz.func111, Tryz.ntmps111
        go_wp2_with fail
        refine (skip_no g _ _ _ HK.out HP0.out).mono ?_
        rintro e w0 ⟨rfl, hk0, hgr0⟩
        have HG0 := Lib.hid (HG.out.grown HK.out hgr0)
        have HK0 := Lib.hid hk0
        clear hk0
        go_wp2_with fail
        refine (skip_yes g _ _ _ HK0.out HP.out).mono ?_
        rintro e w1 ⟨rfl, hk1, hgr01⟩
        have HG1 := Lib.hid (HG0.out.grown HK0.out hgr01)
        have HK1 : Hid (Wk g rr w1) := Lib.hid hk1
        have hgr1 := hgr0.trans hgr01
        clear hk1 hgr0 hgr01
        go_wp2_with fail
        refine (upTo_yes g _ _ _ _ _ HK1.out HG1.out hrr HC.out).mono ?_
        rintro e w5 ⟨rfl, hk5, hg5⟩
        have HG5 := Lib.hid (HG1.out.grown HK1.out hg5)
        go_wp2_with (first
          | (go_at_call 93; refine (Contains1_c _ _ _).mono ?_; rintro e w6 ⟨rfl, rfl⟩)
          | (go_at_call 99; refine (Entities_c _ _ hraw HG5.out).mono ?_; rintro e w7 ⟨rfl, hb7⟩; rw [HE.out]))
        go_ret2
        exact valPost_none HV.out rfl (hk5.below hb7) ((hgr1.trans hg5).trans (grown_of_below hb7 _))
      | some v =>
        rw [hen] at hval
        have HV := Lib.hid hval
        have HE : Hid (entE (entL (bs (tx raw))) = 0) := Lib.hid (by rw [bs_tx, hen]; rfl)
        have HS : Hid (entS (entL (bs (tx raw))) = tx v) := Lib.hid (by rw [bs_tx, hen]; rfl)
        clear hval hen
        go_enter Tryz.func111, Tryz.ntmps111
        go_wp2_with fail
        refine (skip_no g _ _ _ HK.out HP0.out).mono ?_
        rintro e w0 ⟨rfl, hk0, hgr0⟩
        have HG0 := Lib.hid (HG.out.grown HK.out hgr0)
        have HK0 := Lib.hid hk0
        clear hk0
        go_wp2_with fail
        refine (skip_yes g _ _ _ HK0.out HP.out).mono ?_
        rintro e w1 ⟨rfl, hk1, hgr01⟩
        have HG1 := Lib.hid (HG0.out.grown HK0.out hgr01)
        have HK1 : Hid (Wk g rr w1) := Lib.hid hk1
        have hgr1 := hgr0.trans hgr01
        clear hk1 hgr0 hgr01
        go_wp2_with fail
        refine (upTo_yes g _ _ _ _ _ HK1.out HG1.out hrr HC.out).mono ?_
        rintro e w5 ⟨rfl, hk5, hg5⟩
        have HG5 := Lib.hid (HG1.out.grown HK1.out hg5)
        go_wp2_with (first
          | (go_at_call 93; refine (Contains1_c _ _ _).mono ?_; rintro e w6 ⟨rfl, rfl⟩)
          | (go_at_call 99; refine (Entities_c _ _ hraw HG5.out).mono ?_; rintro e w7 ⟨rfl, hb7⟩; rw [HE.out, HS.out]))
        go_ret2
        exact valPost_some HV.out rfl (hk5.below hb7) ((hgr1.trans hg5).trans (grown_of_below hb7 _))

set_option maxRecDepth 100000 in
set_option maxHeartbeats 2000000 in
theorem value_none (g : Nat) (r : List UInt8) (w : World) (hk : Wk g r w) (h1 : Lib.hasPrefix r [34] = false) (h2 : Lib.hasPrefix r [39] = false) (hv : valueL r = none) :
    Calls Tryz.prog 111 #[.pointer (some ⟨g, 0, none⟩)] w (ValPost g r w) := by
  have HK := Lib.hid hk
  have H1 := Lib.hid h1
  have H2 := Lib.hid h2
  have HV := Lib.hid hv
  clear hk h1 h2 hv
  go_enter Tryz.func111, Tryz.ntmps111
  go_wp2_with fail
  refine (skip_no g _ _ _ HK.out H1.out).mono ?_
  rintro e w0 ⟨rfl, hk0, hgr0⟩
  have HK0 := Lib.hid hk0
  clear hk0
  go_wp2_with fail
  refine (skip_no g _ _ _ HK0.out H2.out).mono ?_
  rintro e w1 ⟨rfl, hk1, hgr1⟩
  go_wp2_with fail
  go_ret2
  exact valPost_none HV.out rfl hk1 (hgr0.trans hgr1)

theorem value_c (g : Nat) (r : List UInt8) (w : World) (hk : Wk g r w) (hg : Glob w) (hr : r.length ≤ 100000) :
    Calls Tryz.prog 111 #[.pointer (some ⟨g, 0, none⟩)] w (ValPost g r w) := by
  cases r with
  | nil => exact value_none g [] w hk rfl rfl rfl
  | cons c rr =>
    rw [List.length_cons] at hr
    by_cases h1 : c = 34
    · subst h1; exact value_34 g rr w hk hg (by omega)
    · by_cases h2 : c = 39
      · subst h2; exact value_39 g rr w hk hg (by omega)
      · refine value_none g (c :: rr) w hk ?_ ?_ (valueL_nomark (by rintro (e | e) <;> contradiction))
        · rw [prefix_cons, beq_eq_false_iff_ne]; exact fun e => h1 e.symm
        · rw [prefix_cons, beq_eq_false_iff_ne]; exact fun e => h2 e.symm

end Go.Proofs.YtkccockdnjjanaaGreatDoor
