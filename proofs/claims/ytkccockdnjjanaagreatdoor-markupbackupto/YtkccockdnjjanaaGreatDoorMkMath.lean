/-
  Plain facts on nodes that may be a file's, and on the file (layer 4): nothing of the program.
-/
import Derived.Test.YtkccockdnjjanaaGreatDoorBa
import Derived.Test.YtkccockdnjjanaaGreatDoorEsMath
namespace Nwl
def nd (ns : List Nd) (i : Nat) : Nd := ns.getD i ⟨-1, [], [], []⟩
theorem nd_eq (ns : List Nd) (i : Nat) (h : i < ns.length) : nd ns i = ns[i] := by
  unfold nd
  rw [List.getD_eq_getElem?_getD, List.getElem?_eq_getElem h]
  rfl
def parAt (ns : List Nd) (i : Int) : Int := (nd ns i.toNat).parent
def textB (n : Nd) : Bool := decide (n.name = [])
def attrAtB (l : List (List UInt8 × List UInt8)) (k : Nat) : Bool := match l[k]? with
  | none => true
  | some a => !((l.take k).map (·.1)).contains a.1 && (nameL a.1 && allL a.2)
def attrsTo (l : List (List UInt8 × List UInt8)) (k : Nat) : Bool := (List.range k).all (attrAtB l)
def attrsB (l : List (List UInt8 × List UInt8)) : Bool := attrsTo l l.length
theorem all_range_succ (f : Nat → Bool) (k : Nat) : (List.range (k + 1)).all f = ((List.range k).all f && f k) := by
  rw [List.range_succ, List.all_append]
  simp
theorem all_range_false {f : Nat → Bool} {k n : Nat} (h : k < n) (hf : f k = false) : (List.range n).all f = false := by
  rw [List.all_eq_false]
  exact ⟨k, List.mem_range.2 h, by rw [hf]; decide⟩
theorem attrsTo_next {l : List (List UInt8 × List UInt8)} {k : Nat} (h : attrsTo l k = true) (h1 : attrAtB l k = true) : attrsTo l (k + 1) = true := by
  unfold attrsTo at h ⊢
  rw [all_range_succ, h, h1]
  rfl
theorem attrsB_bad {l : List (List UInt8 × List UInt8)} {k : Nat} (h : k < l.length) (h1 : attrAtB l k = false) : attrsB l = false := all_range_false h h1
def mayBeB (n : Nd) : Bool := if textB n then decide (n.text ≠ []) && (allL n.text && decide (n.attrs = [])) else decide (n.text = []) && (nameL n.name && attrsB n.attrs)
/-- the places from i on upwards -/
def upL (ns : List Nd) : Nat → Int → List Int
  | 0, _ => []
  | f + 1, i => if i < 0 then [] else i :: upL ns f (parAt ns i)
def chainL (ns : List Nd) (i : Int) : List Int := upL ns (i + 1).toNat i
/-- each of the first m stands behind its parent -/
def Par (ns : List Nd) (m : Nat) : Prop := ∀ j : Nat, j < m → -1 ≤ parAt ns j ∧ parAt ns j < j
theorem Par.le {ns : List Nd} {m k : Nat} (h : Par ns m) (hk : k ≤ m) : Par ns k := fun j hj => h j (by omega)
theorem Par.at {ns : List Nd} {m : Nat} (h : Par ns m) {i : Int} (h0 : 0 ≤ i) (h1 : i < m) : -1 ≤ parAt ns i ∧ parAt ns i < i := by
  have := h i.toNat (by omega)
  rwa [Int.toNat_of_nonneg h0] at this
theorem upL_fuel {ns : List Nd} {m : Nat} (h : Par ns m) : ∀ (f : Nat) (i : Int), -1 ≤ i → i < m → i + 1 ≤ f → upL ns f i = chainL ns i
  | 0, i, h0, h1, h2 => by
    obtain rfl : i = -1 := by omega
    rfl
  | f + 1, i, h0, h1, h2 => by
    by_cases hi : i < 0
    · obtain rfl : i = -1 := by omega
      rfl
    · have hp := h.at (i := i) (by omega) h1
      have e1 : (i + 1).toNat = i.toNat + 1 := by omega
      unfold chainL
      rw [e1, upL, upL, if_neg hi, if_neg hi, upL_fuel h f _ (by omega) (by omega) (by omega)]
      rw [upL_fuel h i.toNat _ (by omega) (by omega) (by omega)]
  termination_by f => f
  decreasing_by all_goals omega
theorem chainL_neg (ns : List Nd) : chainL ns (-1) = [] := rfl
theorem chainL_step {ns : List Nd} {m : Nat} (h : Par ns m) {i : Int} (h0 : 0 ≤ i) (h1 : i < m) : chainL ns i = i :: chainL ns (parAt ns i) := by
  have hp := h.at h0 h1
  have e1 : (i + 1).toNat = i.toNat + 1 := by omega
  conv => lhs; unfold chainL
  rw [e1, upL, if_neg (by omega), upL_fuel h _ _ (by omega) (by omega) (by omega)]
theorem chainL_mem {ns : List Nd} {m : Nat} (h : Par ns m) : ∀ (f : Nat) (i : Int), i + 1 ≤ f → -1 ≤ i → i < m → ∀ x ∈ chainL ns i, 0 ≤ x ∧ x ≤ i
  | 0, i, h2, h0, h1, x, hx => by
    obtain rfl : i = -1 := by omega
    rw [chainL_neg] at hx
    cases hx
  | f + 1, i, h2, h0, h1, x, hx => by
    by_cases hi : i < 0
    · obtain rfl : i = -1 := by omega
      rw [chainL_neg] at hx
      cases hx
    · have hp := h.at (i := i) (by omega) h1
      rw [chainL_step h (by omega) h1, List.mem_cons] at hx
      rcases hx with rfl | hx
      · omega
      · have := chainL_mem h f _ (by omega) (by omega) (by omega) x hx
        omega
theorem chainL_len {ns : List Nd} {m : Nat} (h : Par ns m) : ∀ (f : Nat) (i : Int), i + 1 ≤ f → -1 ≤ i → i < m → ((chainL ns i).length : Int) ≤ i + 1
  | 0, i, h2, h0, h1 => by
    obtain rfl : i = -1 := by omega
    rw [chainL_neg]
    simp
  | f + 1, i, h2, h0, h1 => by
    by_cases hi : i < 0
    · obtain rfl : i = -1 := by omega
      rw [chainL_neg]
      simp
    · have hp := h.at (i := i) (by omega) h1
      rw [chainL_step h (by omega) h1, List.length_cons]
      have := chainL_len h f _ (by omega : parAt ns i + 1 ≤ f) (by omega) (by omega)
      omega
/-- the innermost element that may be open behind i -/
def innerN (ns : List Nd) (i : Nat) : Int := if textB (nd ns i) then parAt ns i else i
def mayStandB (ns : List Nd) : Nat → Bool
  | 0 => decide (parAt ns 0 = -1) && !textB (nd ns 0)
  | i + 1 => (chainL ns (innerN ns i)).contains (parAt ns (i + 1 : Nat)) && (if textB (nd ns (i + 1)) then !textB (nd ns i) || decide (parAt ns i ≠ parAt ns (i + 1 : Nat)) else decide ((chainL ns (i + 1 : Nat)).length ≤ 20))
def nodeB (ns : List Nd) (i : Nat) : Bool := mayBeB (nd ns i) && mayStandB ns i
def rightTo (ns : List Nd) (k : Nat) : Bool := (List.range k).all (nodeB ns)
def rightB (ns : List Nd) : Bool := decide (ns ≠ []) && (decide (ns.length ≤ 2000) && rightTo ns ns.length)
theorem rightTo_next {ns : List Nd} {k : Nat} (h : rightTo ns k = true) (h1 : nodeB ns k = true) : rightTo ns (k + 1) = true := by
  unfold rightTo at h ⊢
  rw [all_range_succ, h, h1]
  rfl
theorem rightTo_at {ns : List Nd} {k j : Nat} (h : rightTo ns k = true) (hj : j < k) : nodeB ns j = true := by
  unfold rightTo at h
  rw [List.all_eq_true] at h
  exact h j (List.mem_range.2 hj)
theorem innerN_bound {ns : List Nd} {i : Nat} (h : Par ns (i + 1)) : -1 ≤ innerN ns i ∧ innerN ns i ≤ i := by
  have := h i (by omega)
  unfold innerN
  split <;> omega
/-- a parent within is one of those ahead -/
theorem stand_par {ns : List Nd} {i : Nat} (h : Par ns i) (hs : mayStandB ns i = true) : Par ns (i + 1) := by
  intro j hj
  by_cases e : j < i
  · exact h j e
  obtain rfl : j = i := by omega
  cases j with
  | zero =>
    unfold mayStandB at hs
    rw [Bool.and_eq_true, decide_eq_true_iff] at hs
    have := hs.1
    show -1 ≤ parAt ns 0 ∧ parAt ns 0 < 0
    omega
  | succ i =>
    unfold mayStandB at hs
    rw [Bool.and_eq_true, List.contains_iff_mem] at hs
    have hb := innerN_bound h
    have := chainL_mem h (innerN ns i + 1).toNat _ (by omega) hb.1 (by omega) _ hs.1
    omega
theorem right_par {ns : List Nd} : ∀ {k : Nat}, rightTo ns k = true → Par ns k
  | 0, _ => fun j hj => absurd hj (by omega)
  | k + 1, h => by
    have h0 : rightTo ns k = true := by
      unfold rightTo at h ⊢
      rw [all_range_succ, Bool.and_eq_true] at h
      exact h.1
    have h1 := rightTo_at h (Nat.lt_succ_self k)
    unfold nodeB at h1
    rw [Bool.and_eq_true] at h1
    exact stand_par (right_par h0) h1.2

def endL (n : List UInt8) : List UInt8 := [60, 47] ++ n ++ [62]
/-- the ends of what is open from o on, within t -/
def closeU (ns : List Nd) (t : Int) : Nat → Int → List UInt8
  | 0, _ => []
  | f + 1, o => if o < 0 ∨ o = t then [] else endL (nd ns o.toNat).name ++ closeU ns t f (parAt ns o)
def closeW (ns : List Nd) (o t : Int) : List UInt8 := closeU ns t (o + 1).toNat o
theorem closeU_fuel {ns : List Nd} {m : Nat} {t : Int} (h : Par ns m) : ∀ (f : Nat) (i : Int), -1 ≤ i → i < m → i + 1 ≤ f → closeU ns t f i = closeW ns i t
  | 0, i, h0, h1, h2 => by
    obtain rfl : i = -1 := by omega
    rfl
  | f + 1, i, h0, h1, h2 => by
    by_cases hi : i < 0
    · obtain rfl : i = -1 := by omega
      rfl
    · have hp := h.at (i := i) (by omega) h1
      have e1 : (i + 1).toNat = i.toNat + 1 := by omega
      unfold closeW
      rw [e1, closeU, closeU]
      by_cases ht : i = t
      · rw [if_pos (.inr ht), if_pos (.inr ht)]
      · rw [if_neg (by omega), if_neg (by omega), closeU_fuel h f _ (by omega) (by omega) (by omega)]
        rw [closeU_fuel h i.toNat _ (by omega) (by omega) (by omega)]
  termination_by f => f
  decreasing_by all_goals omega
theorem closeW_same (ns : List Nd) (t : Int) : closeW ns t t = [] := by
  unfold closeW
  cases (t + 1).toNat with
  | zero => rfl
  | succ f => rw [closeU, if_pos (.inr rfl)]
theorem closeW_step {ns : List Nd} {m : Nat} (h : Par ns m) {i t : Int} (h0 : 0 ≤ i) (h1 : i < m) (ht : i ≠ t) : closeW ns i t = endL (nd ns i.toNat).name ++ closeW ns (parAt ns i) t := by
  have hp := h.at h0 h1
  have e1 : (i + 1).toNat = i.toNat + 1 := by omega
  conv => lhs; unfold closeW
  rw [e1, closeU, if_neg (by omega), closeU_fuel h _ _ (by omega) (by omega) (by omega)]
def attrW (a : List UInt8 × List UInt8) : List UInt8 := [32] ++ a.1 ++ [61, 34] ++ escL a.2 ++ [34]
def attrsW (l : List (List UInt8 × List UInt8)) : List UInt8 := l.flatMap attrW
theorem attrsW_snoc (l : List (List UInt8 × List UInt8)) (a : List UInt8 × List UInt8) : attrsW (l ++ [a]) = attrsW l ++ attrW a := by simp [attrsW, List.flatMap_append]
def headW (n : Nd) : List UInt8 := [60] ++ n.name ++ attrsW n.attrs
def kidsB (ns : List Nd) (i : Nat) : Bool := decide (i + 1 < ns.length) && decide (parAt ns (i + 1 : Nat) = i)
def nodeW (ns : List Nd) (i : Nat) : List UInt8 := if textB (nd ns i) then escL (nd ns i).text else headW (nd ns i) ++ (if kidsB ns i then [62] else [47, 62])
/-- what is open behind i -/
def openW (ns : List Nd) (i : Nat) : Int := if textB (nd ns i) then parAt ns i else if kidsB ns i then i else parAt ns i
def openTo (ns : List Nd) : Nat → Int
  | 0 => -1
  | i + 1 => openW ns i
def outTo (ns : List Nd) : Nat → List UInt8
  | 0 => []
  | i + 1 => outTo ns i ++ closeW ns (openTo ns i) (parAt ns i) ++ nodeW ns i
def writeL (ns : List Nd) : List UInt8 := outTo ns ns.length ++ closeW ns (openTo ns ns.length) (-1)
/-- what a node's texts come to -/
def bulkN (n : Nd) : Nat := n.name.length + n.text.length + (n.attrs.map fun a => a.1.length + a.2.length + 1).sum
def Small (ns : List Nd) (M : Nat) : Prop := ∀ i, bulkN (nd ns i) ≤ M
theorem openTo_bound {ns : List Nd} {m : Nat} (h : Par ns m) : ∀ {i : Nat}, i ≤ m → -1 ≤ openTo ns i ∧ openTo ns i < i
  | 0, _ => by show (-1 : Int) ≤ -1 ∧ (-1 : Int) < 0; omega
  | i + 1, hi => by
    have := h i (by omega)
    show -1 ≤ openW ns i ∧ openW ns i < (i + 1 : Nat)
    unfold openW
    repeat' split
    all_goals omega
end Nwl
