/-
  Plain facts: which of two coordinates is the lesser.
-/
import Derived.Test.YthmlggglemnfgaaDoorBa
import Derived.Test.YthmlggglemnfgaaDoorCoMath
namespace Nwl
open Go
def ordC (a b : Crd) : Int := thenI (thenI (Lib.compareBytes a.g b.g) (Lib.compareBytes a.n b.n)) (ordV a.v b.v)
def lessC (a b : Crd) : Bool := decide (ordC a b < 0)
theorem ord_c : Ord3 ordC := ((ord_bytes.pull Crd.g).lex (ord_bytes.pull Crd.n)).lex (ord_o.pull Crd.v)
theorem thenI_zero {x y : Int} (h : thenI x y = 0) : x = 0 ∧ y = 0 := by
  unfold thenI at h
  split at h
  · exact ⟨‹_›, h⟩
  · exact absurd h ‹_›
theorem ordC_zero (a b : Crd) (h : ordC a b = 0) : a = b := by
  obtain ⟨h1, h2⟩ := thenI_zero h
  obtain ⟨h3, h4⟩ := thenI_zero h1
  cases a; cases b
  have e1 := cb_zero _ _ h3
  have e2 := cb_zero _ _ h4
  have e3 := ordV_zero _ _ h2
  dsimp only at e1 e2 e3
  rw [e1, e2, e3]
theorem less_refl (a : Crd) : lessC a a = false := by
  unfold lessC; rw [ord_c.refl a]; rfl
theorem less_back (a b : Crd) : (lessC a b && lessC b a) = false ∧ (lessC a b || lessC b a) = decide (a ≠ b) := by
  have h1 := ord_c.anti a b
  unfold lessC
  rw [h1]
  by_cases h0 : ordC a b = 0
  · have e := ordC_zero a b h0
    have e2 : decide (a ≠ b) = false := decide_eq_false (fun h => h e)
    rw [e2, h0]
    exact ⟨rfl, rfl⟩
  · have hne : a ≠ b := fun e => h0 (by rw [e]; exact ord_c.refl b)
    rw [decide_eq_true hne]
    by_cases hl : ordC a b < 0
    · rw [decide_eq_true hl, decide_eq_false (by omega)]; exact ⟨rfl, rfl⟩
    · rw [decide_eq_false hl, decide_eq_true (by omega)]; exact ⟨rfl, rfl⟩
theorem less_trans (a b c : Crd) (h1 : lessC a b = true) (h2 : lessC b c = true) : lessC a c = true := by
  unfold lessC at *
  rw [decide_eq_true_eq] at *
  exact ord_c.lt_le h1 (by omega)
theorem less_group (a b : Crd) (h : a.g ≠ b.g) : lessC a b = decide (Lib.compareBytes a.g b.g < 0) := by
  have hc : ¬ Lib.compareBytes a.g b.g = 0 := fun e => h (cb_zero _ _ e)
  unfold lessC ordC
  have : thenI (Lib.compareBytes a.g b.g) (Lib.compareBytes a.n b.n) = Lib.compareBytes a.g b.g := by unfold thenI; rw [if_neg hc]
  rw [this]
  unfold thenI
  rw [if_neg hc]
theorem less_name (a b : Crd) (h : a.g = b.g) (h2 : a.n ≠ b.n) : lessC a b = decide (Lib.compareBytes a.n b.n < 0) := by
  have hc : ¬ Lib.compareBytes a.n b.n = 0 := fun e => h2 (cb_zero _ _ e)
  unfold lessC ordC
  rw [h, ord_bytes.refl]
  have : thenI 0 (Lib.compareBytes a.n b.n) = Lib.compareBytes a.n b.n := by unfold thenI; rw [if_pos rfl]
  rw [this]
  unfold thenI
  rw [if_neg hc]
theorem less_ver (a b : Crd) (h : a.g = b.g) (h2 : a.n = b.n) : lessC a b = decide (ordV a.v b.v < 0) := by
  unfold lessC ordC
  rw [h, h2, ord_bytes.refl, ord_bytes.refl]
  have : thenI 0 0 = 0 := rfl
  rw [this]
  unfold thenI
  rw [if_pos rfl]
end Nwl
