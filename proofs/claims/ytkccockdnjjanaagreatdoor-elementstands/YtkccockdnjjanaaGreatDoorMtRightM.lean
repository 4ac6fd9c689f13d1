/-
  Plain facts: how the document tells whether nodes are right (a row of what is open; the one ahead beside), and that it is so told.
-/
import Derived.Test.YtkccockdnjjanaaGreatDoorMkMath
namespace Nwl
open Go
/-- what is open, the innermost one first, behind all that are not p -/
def popS (S : List Int) (p : Int) : List Int := S.dropWhile (· != p)
theorem chain_ind {ns : List Nd} {m : Nat} (h : Par ns m) (P : Int → Prop) (h0 : P (-1)) (h1 : ∀ a : Int, 0 ≤ a → a < m → P (parAt ns a) → P a) : ∀ (f : Nat) (a : Int), -1 ≤ a → a < m → a + 1 ≤ f → P a
  | 0, a, ha, hm, hf => by
    obtain rfl : a = -1 := by omega
    exact h0
  | f + 1, a, ha, hm, hf => by
    by_cases e : a = -1
    · rw [e]; exact h0
    · have hp := h.at (i := a) (by omega) hm
      exact h1 a (by omega) hm (chain_ind h P h0 h1 f _ hp.1 (by omega) (by omega))
theorem chain_all {ns : List Nd} {m : Nat} (h : Par ns m) (P : Int → Prop) (h0 : P (-1)) (h1 : ∀ a : Int, 0 ≤ a → a < m → P (parAt ns a) → P a) (a : Int) (ha : -1 ≤ a) (hm : a < m) : P a := chain_ind h P h0 h1 (a + 1).toNat a ha hm (by omega)
theorem pop_chain {ns : List Nd} {m : Nat} (h : Par ns m) {a : Int} (p : Int) (ha : -1 ≤ a) (hm : a < m) : popS (chainL ns a) p = if (chainL ns a).contains p then chainL ns p else [] := by
  refine chain_all h (fun a => popS (chainL ns a) p = if (chainL ns a).contains p then chainL ns p else []) ?_ ?_ a ha hm
  · rw [chainL_neg]; rfl
  · intro a h0 h1 ih
    have hs := chainL_step h h0 h1
    by_cases e : a = p
    · subst e
      rw [if_pos (by rw [hs]; simp)]
      unfold popS
      rw [hs, List.dropWhile_cons]
      simp
    · have hb : (a != p) = true := by rw [bne_iff_ne]; exact e
      have hc : (chainL ns a).contains p = (chainL ns (parAt ns a)).contains p := by
        rw [hs, List.contains_cons]
        have : (p == a) = false := by rw [beq_eq_false_iff_ne]; exact fun h => e h.symm
        rw [this, Bool.false_or]
      rw [hc, ← ih]
      unfold popS
      rw [hs, List.dropWhile_cons, hb]
      rfl
theorem chain_sub {ns : List Nd} {m : Nat} (h : Par ns m) {a p : Int} (ha : -1 ≤ a) (hm : a < m) (hp : p ∈ chainL ns a) : ∀ x ∈ chainL ns p, x ∈ chainL ns a := by
  refine chain_all h (fun a => p ∈ chainL ns a → ∀ x ∈ chainL ns p, x ∈ chainL ns a) ?_ ?_ a ha hm hp
  · intro hq; rw [chainL_neg] at hq; cases hq
  · intro a h0 h1 ih hq x hx
    by_cases e : p = a
    · rw [← e]; exact hx
    · rw [chainL_step h h0 h1] at hq ⊢
      rcases List.mem_cons.1 hq with hq | hq
      · exact absurd hq e
      · exact List.mem_cons_of_mem _ (ih hq x hx)
theorem chain_le {ns : List Nd} {m : Nat} (h : Par ns m) {a x : Int} (ha : -1 ≤ a) (hm : a < m) (hx : x ∈ chainL ns a) : 0 ≤ x ∧ x ≤ a := chainL_mem h (a + 1).toNat a (by omega) ha hm x hx
theorem chain_climb {ns : List Nd} {m : Nat} (h : Par ns m) {a p : Int} (ha : -1 ≤ a) (hm : a < m) (hp : p ∈ chainL ns a) (hne : p ≠ a) : ∃ c ∈ chainL ns a, parAt ns c = p := by
  refine chain_all h (fun a => p ∈ chainL ns a → p ≠ a → ∃ c ∈ chainL ns a, parAt ns c = p) ?_ ?_ a ha hm hp hne
  · intro hq; rw [chainL_neg] at hq; cases hq
  · intro a h0 h1 ih hq hne
    rw [chainL_step h h0 h1] at hq ⊢
    rcases List.mem_cons.1 hq with hq | hq
    · exact absurd hq hne
    · by_cases e : p = parAt ns a
      · exact ⟨a, List.mem_cons_self .., e.symm⟩
      · obtain ⟨c, hc, hcp⟩ := ih hq e
        exact ⟨c, List.mem_cons_of_mem _ hc, hcp⟩
/-- what a right node says of where it stands -/
theorem stand_in {ns : List Nd} {i : Nat} (h : rightTo ns (i + 2) = true) : parAt ns (i + 1 : Nat) ∈ chainL ns (innerN ns i) := by
  have h1 := rightTo_at h (j := i + 1) (by omega)
  unfold nodeB mayStandB at h1
  rw [Bool.and_eq_true, Bool.and_eq_true, List.contains_iff_mem] at h1
  exact h1.2.1
theorem right_le {ns : List Nd} {k m : Nat} (h : rightTo ns m = true) (hk : k ≤ m) : rightTo ns k = true := by
  unfold rightTo at h ⊢
  rw [List.all_eq_true] at h ⊢
  intro x hx
  exact h x (List.mem_range.2 (by have := List.mem_range.1 hx; omega))
theorem first_in {ns : List Nd} (h : rightTo ns 1 = true) : parAt ns (0 : Nat) = -1 ∧ textB (nd ns 0) = false := by
  have h1 := rightTo_at h (j := 0) (by omega)
  unfold nodeB mayStandB at h1
  rw [Bool.and_eq_true, Bool.and_eq_true, decide_eq_true_iff, Bool.not_eq_true'] at h1
  exact h1.2
/-- what is open are elements -/
theorem open_elem {ns : List Nd} : ∀ (j : Nat), rightTo ns (j + 1) = true → ∀ x ∈ chainL ns (innerN ns j), textB (nd ns x.toNat) = false
  | 0, h, x, hx => by
    have hp := right_par h
    obtain ⟨h1, h2⟩ := first_in h
    unfold innerN at hx
    rw [h2] at hx
    simp only [Bool.false_eq_true, if_false] at hx
    rw [chainL_step hp (by omega) (by omega), show ((0 : Nat) : Int) = ((0 : Nat) : Int) from rfl, h1, chainL_neg, List.mem_singleton] at hx
    rw [hx]; exact h2
  | j + 1, h, x, hx => by
    have hp := right_par h
    have h0 := right_le h (k := j + 1) (by omega)
    have ih := open_elem j h0
    have hin := stand_in h
    have hb := innerN_bound (Par.le hp (by omega : j + 1 ≤ j + 1 + 1))
    have hsub := chain_sub hp (by omega) (by omega) hin
    unfold innerN at hx
    cases ht : textB (nd ns (j + 1)) with
    | true =>
      rw [ht, if_pos rfl] at hx
      exact ih x (hsub x hx)
    | false =>
      rw [ht] at hx
      simp only [Bool.false_eq_true, if_false] at hx
      rw [chainL_step hp (by omega) (by omega)] at hx
      rcases List.mem_cons.1 hx with hx | hx
      · rw [hx, Int.toNat_natCast]; exact ht
      · exact ih x (hsub x hx)
/-- behind a text nothing ahead of it, but what is open about it, is open -/
theorem open_behind {ns : List Nd} {k : Nat} {p : Int} (ht : textB (nd ns k) = true) (hk : parAt ns k = p) : ∀ (d : Nat), rightTo ns (k + d + 1) = true → ∀ x ∈ chainL ns (innerN ns (k + d)), x ∈ chainL ns p ∨ (k : Int) < x
  | 0, h, x, hx => by
    rw [Nat.add_zero] at hx
    unfold innerN at hx
    rw [ht, if_pos rfl, hk] at hx
    exact .inl hx
  | d + 1, h, x, hx => by
    have hp := right_par h
    have h0 := right_le h (k := k + d + 1) (by omega)
    have ih := open_behind ht hk d h0
    have hin := stand_in (i := k + d) (right_le h (by omega))
    have hb := innerN_bound (Par.le hp (by omega : k + d + 1 ≤ k + (d + 1) + 1))
    have hsub := chain_sub hp (by omega) (by omega) hin
    have e : k + (d + 1) = k + d + 1 := by omega
    rw [e] at hx
    unfold innerN at hx
    split at hx
    · exact ih x (hsub x hx)
    · rw [chainL_step hp (by omega) (by omega)] at hx
      rcases List.mem_cons.1 hx with hx | hx
      · right; rw [hx]; omega
      · exact ih x (hsub x hx)
/-- the nearest one ahead that stands in p, or the first one -/
def sibK (ns : List Nd) (p : Int) : Nat → Nat
  | 0 => 0
  | k + 1 => if parAt ns (k + 1 : Nat) = p then k + 1 else sibK ns p k
theorem sib_le (ns : List Nd) (p : Int) : ∀ i, sibK ns p i ≤ i
  | 0 => Nat.le_refl _
  | i + 1 => by
    unfold sibK
    split
    · exact Nat.le_refl _
    · exact Nat.le_succ_of_le (sib_le ns p i)
theorem sib_max (ns : List Nd) (p : Int) : ∀ (i j : Nat), sibK ns p i < j → j ≤ i → parAt ns j ≠ p
  | 0, j, h1, h2 => by omega
  | i + 1, j, h1, h2 => by
    unfold sibK at h1
    split at h1
    · omega
    · rename_i hne
      by_cases e : j = i + 1
      · rw [e]; exact hne
      · exact sib_max ns p i j h1 (by omega)
theorem sib_same (ns : List Nd) (p : Int) (i : Nat) (h : parAt ns i = p) : sibK ns p i = i := by
  cases i with
  | zero => rfl
  | succ i => unfold sibK; rw [if_pos h]
/-- a text stands beside another one just if that is the one ahead -/
theorem sib_text {ns : List Nd} {i : Nat} {p : Int} (h : rightTo ns (i + 1) = true) (hp : p ∈ chainL ns (innerN ns i)) : (textB (nd ns (sibK ns p i)) && decide (parAt ns (sibK ns p i) = p)) = (textB (nd ns i) && decide (parAt ns i = p)) := by
  by_cases e : parAt ns i = p
  · rw [sib_same ns p i e]
  · rw [decide_eq_false e, Bool.and_false]
    by_cases ek : parAt ns (sibK ns p i) = p
    · rw [decide_eq_true ek, Bool.and_true]
      obtain ⟨k, hk⟩ : ∃ k, sibK ns p i = k := ⟨_, rfl⟩
      rw [hk] at ek ⊢
      have hle := sib_le ns p i
      rw [hk] at hle
      have hlt : k < i := by
        rcases Nat.lt_or_ge k i with h' | h'
        · exact h'
        · have : k = i := by omega
          rw [this] at ek; exact absurd ek e
      cases ht : textB (nd ns k) with
      | false => rfl
      | true =>
        exfalso
        have hpar := right_par h
        have hbk := hpar k (by omega)
        have hb := innerN_bound hpar
        have hne : p ≠ innerN ns i := by
          unfold innerN
          split
          · exact fun h => e h.symm
          · intro h'; rw [h'] at ek; omega
        obtain ⟨c, hc, hcp⟩ := chain_climb hpar hb.1 (by omega) hp hne
        have hcb := chain_le hpar hb.1 (by omega) hc
        have hcp2 := hpar.at (i := c) hcb.1 (by omega)
        have := open_behind ht ek (i - k) (by rw [show k + (i - k) + 1 = i + 1 by omega]; exact h) c (by rw [show k + (i - k) = i by omega]; exact hc)
        rcases this with hin | hgt
        · have hpb := chain_le hpar hb.1 (by omega) hp
          have := chain_le hpar (a := p) (by omega) (by omega) hin
          omega
        · have := sib_max ns p i c.toNat (by rw [hk]; omega) (by omega)
          rw [Int.toNat_of_nonneg hcb.1] at this
          exact this hcp
    · rw [decide_eq_false ek, Bool.and_false]
/-- what is open ahead of node i -/
def openS (ns : List Nd) : Nat → List Int
  | 0 => []
  | i + 1 => chainL ns (innerN ns i)
theorem open_pop {ns : List Nd} {i : Nat} (h : rightTo ns (i + 1) = true) (p : Int) : popS (openS ns (i + 1)) p = if (chainL ns (innerN ns i)).contains p then chainL ns p else [] := by
  have hb := innerN_bound (right_par h)
  exact pop_chain (right_par h) p hb.1 (by omega)
theorem open_next {ns : List Nd} {i : Nat} (h : rightTo ns (i + 1) = true) (ht : textB (nd ns i) = false) : openS ns (i + 1) = (i : Int) :: chainL ns (parAt ns i) := by
  show chainL ns (innerN ns i) = _
  unfold innerN
  rw [ht]
  simp only [Bool.false_eq_true, if_false]
  exact chainL_step (right_par h) (by omega) (by omega)
theorem open_text {ns : List Nd} {i : Nat} (ht : textB (nd ns i) = true) : openS ns (i + 1) = chainL ns (parAt ns i) := by
  show chainL ns (innerN ns i) = _
  unfold innerN
  rw [ht, if_pos rfl]
end Nwl
