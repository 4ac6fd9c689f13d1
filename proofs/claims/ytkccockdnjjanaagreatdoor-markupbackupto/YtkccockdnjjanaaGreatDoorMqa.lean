/-
  Plain facts: how the document tells whether nodes are right (a row of what is open; the one ahead beside), and that it is so told. Plain facts: what a right tree is written as, node within node, is what it is written as node by node. Plain facts: how long a written tree may be.
-/
import Derived.Test.YtkccockdnjjanaaGreatDoorMkMath
namespace Nwl
open Go
/-- what is open, the innermost one first, behind all that are not p -/
def popS (S : List Int) (p : Int) : List Int := S.dropWhile (· != p)
theorem chain_ind {ns : List Nd} {m : Nat} (h : Par ns m) (P : Int → Prop) (h0 : P (-1)) (h1 : ∀ a : Int, 0 ≤ a → a < m → P (parAt ns a) → P a) : ∀ (f : Nat) (a : Int), -1 ≤ a → a < m → a + 1 ≤ f → P a
  | 0, a, ha, hm, hf => by
    obtain rfl : a = -1 := by omega
    exact h0
  | f + 1, a, ha, hm, hf => by
    by_cases e : a = -1
    · rw [e]; exact h0
    · have hp := h.at (i := a) (by omega) hm
      exact h1 a (by omega) hm (chain_ind h P h0 h1 f _ hp.1 (by omega) (by omega))
theorem chain_all {ns : List Nd} {m : Nat} (h : Par ns m) (P : Int → Prop) (h0 : P (-1)) (h1 : ∀ a : Int, 0 ≤ a → a < m → P (parAt ns a) → P a) (a : Int) (ha : -1 ≤ a) (hm : a < m) : P a := chain_ind h P h0 h1 (a + 1).toNat a ha hm (by omega)
theorem pop_chain {ns : List Nd} {m : Nat} (h : Par ns m) {a : Int} (p : Int) (ha : -1 ≤ a) (hm : a < m) : popS (chainL ns a) p = if (chainL ns a).contains p then chainL ns p else [] := by
  refine chain_all h (fun a => popS (chainL ns a) p = if (chainL ns a).contains p then chainL ns p else []) ?_ ?_ a ha hm
  · rw [chainL_neg]; rfl
  · intro a h0 h1 ih
    have hs := chainL_step h h0 h1
    by_cases e : a = p
    · subst e
      rw [if_pos (by rw [hs]; simp)]
      unfold popS
      rw [hs, List.dropWhile_cons]
      simp
    · have hb : (a != p) = true := by rw [bne_iff_ne]; exact e
      have hc : (chainL ns a).contains p = (chainL ns (parAt ns a)).contains p := by
        rw [hs, List.contains_cons]
        have : (p == a) = false := by rw [beq_eq_false_iff_ne]; exact fun h => e h.symm
        rw [this, Bool.false_or]
      rw [hc, ← ih]
      unfold popS
      rw [hs, List.dropWhile_cons, hb]
      rfl
theorem chain_sub {ns : List Nd} {m : Nat} (h : Par ns m) {a p : Int} (ha : -1 ≤ a) (hm : a < m) (hp : p ∈ chainL ns a) : ∀ x ∈ chainL ns p, x ∈ chainL ns a := by
  refine chain_all h (fun a => p ∈ chainL ns a → ∀ x ∈ chainL ns p, x ∈ chainL ns a) ?_ ?_ a ha hm hp
  · intro hq; rw [chainL_neg] at hq; cases hq
  · intro a h0 h1 ih hq x hx
    by_cases e : p = a
    · rw [← e]; exact hx
    · rw [chainL_step h h0 h1] at hq ⊢
      rcases List.mem_cons.1 hq with hq | hq
      · exact absurd hq e
      · exact List.mem_cons_of_mem _ (ih hq x hx)
theorem chain_le {ns : List Nd} {m : Nat} (h : Par ns m) {a x : Int} (ha : -1 ≤ a) (hm : a < m) (hx : x ∈ chainL ns a) : 0 ≤ x ∧ x ≤ a := chainL_mem h (a + 1).toNat a (by omega) ha hm x hx
theorem chain_climb {ns : List Nd} {m : Nat} (h : Par ns m) {a p : Int} (ha : -1 ≤ a) (hm : a < m) (hp : p ∈ chainL ns a) (hne : p ≠ a) : ∃ c ∈ chainL ns a, parAt ns c = p := by
  refine chain_all h (fun a => p ∈ chainL ns a → p ≠ a → ∃ c ∈ chainL ns a, parAt ns c = p) ?_ ?_ a ha hm hp hne
  · intro hq; rw [chainL_neg] at hq; cases hq
  · intro a h0 h1 ih hq hne
    rw [chainL_step h h0 h1] at hq ⊢
    rcases List.mem_cons.1 hq with hq | hq
    · exact absurd hq hne
    · by_cases e : p = parAt ns a
      · exact ⟨a, List.mem_cons_self .., e.symm⟩
      · obtain ⟨c, hc, hcp⟩ := ih hq e
        exact ⟨c, List.mem_cons_of_mem _ hc, hcp⟩
/-- what a right node says of where it stands -/
theorem stand_in {ns : List Nd} {i : Nat} (h : rightTo ns (i + 2) = true) : parAt ns (i + 1 : Nat) ∈ chainL ns (innerN ns i) := by
  have h1 := rightTo_at h (j := i + 1) (by omega)
  unfold nodeB mayStandB at h1
  rw [Bool.and_eq_true, Bool.and_eq_true, List.contains_iff_mem] at h1
  exact h1.2.1
theorem right_le {ns : List Nd} {k m : Nat} (h : rightTo ns m = true) (hk : k ≤ m) : rightTo ns k = true := by
  unfold rightTo at h ⊢
  rw [List.all_eq_true] at h ⊢
  intro x hx
  exact h x (List.mem_range.2 (by have := List.mem_range.1 hx; omega))
theorem first_in {ns : List Nd} (h : rightTo ns 1 = true) : parAt ns (0 : Nat) = -1 ∧ textB (nd ns 0) = false := by
  have h1 := rightTo_at h (j := 0) (by omega)
  unfold nodeB mayStandB at h1
  rw [Bool.and_eq_true, Bool.and_eq_true, decide_eq_true_iff, Bool.not_eq_true'] at h1
  exact h1.2
/-- what is open are elements -/
theorem open_elem {ns : List Nd} : ∀ (j : Nat), rightTo ns (j + 1) = true → ∀ x ∈ chainL ns (innerN ns j), textB (nd ns x.toNat) = false
  | 0, h, x, hx => by
    have hp := right_par h
    obtain ⟨h1, h2⟩ := first_in h
    unfold innerN at hx
    rw [h2] at hx
    simp only [Bool.false_eq_true, if_false] at hx
    rw [chainL_step hp (by omega) (by omega), show ((0 : Nat) : Int) = ((0 : Nat) : Int) from rfl, h1, chainL_neg, List.mem_singleton] at hx
    rw [hx]; exact h2
  | j + 1, h, x, hx => by
    have hp := right_par h
    have h0 := right_le h (k := j + 1) (by omega)
    have ih := open_elem j h0
    have hin := stand_in h
    have hb := innerN_bound (Par.le hp (by omega : j + 1 ≤ j + 1 + 1))
    have hsub := chain_sub hp (by omega) (by omega) hin
    unfold innerN at hx
    cases ht : textB (nd ns (j + 1)) with
    | true =>
      rw [ht, if_pos rfl] at hx
      exact ih x (hsub x hx)
    | false =>
      rw [ht] at hx
      simp only [Bool.false_eq_true, if_false] at hx
      rw [chainL_step hp (by omega) (by omega)] at hx
      rcases List.mem_cons.1 hx with hx | hx
      · rw [hx, Int.toNat_natCast]; exact ht
      · exact ih x (hsub x hx)
/-- behind a text nothing ahead of it, but what is open about it, is open -/
theorem open_behind {ns : List Nd} {k : Nat} {p : Int} (ht : textB (nd ns k) = true) (hk : parAt ns k = p) : ∀ (d : Nat), rightTo ns (k + d + 1) = true → ∀ x ∈ chainL ns (innerN ns (k + d)), x ∈ chainL ns p ∨ (k : Int) < x
  | 0, h, x, hx => by
    rw [Nat.add_zero] at hx
    unfold innerN at hx
    rw [ht, if_pos rfl, hk] at hx
    exact .inl hx
  | d + 1, h, x, hx => by
    have hp := right_par h
    have h0 := right_le h (k := k + d + 1) (by omega)
    have ih := open_behind ht hk d h0
    have hin := stand_in (i := k + d) (right_le h (by omega))
    have hb := innerN_bound (Par.le hp (by omega : k + d + 1 ≤ k + (d + 1) + 1))
    have hsub := chain_sub hp (by omega) (by omega) hin
    have e : k + (d + 1) = k + d + 1 := by omega
    rw [e] at hx
    unfold innerN at hx
    split at hx
    · exact ih x (hsub x hx)
    · rw [chainL_step hp (by omega) (by omega)] at hx
      rcases List.mem_cons.1 hx with hx | hx
      · right; rw [hx]; omega
      · exact ih x (hsub x hx)
/-- the nearest one ahead that stands in p, or the first one -/
def sibK (ns : List Nd) (p : Int) : Nat → Nat
  | 0 => 0
  | k + 1 => if parAt ns (k + 1 : Nat) = p then k + 1 else sibK ns p k
theorem sib_le (ns : List Nd) (p : Int) : ∀ i, sibK ns p i ≤ i
  | 0 => Nat.le_refl _
  | i + 1 => by
    unfold sibK
    split
    · exact Nat.le_refl _
    · exact Nat.le_succ_of_le (sib_le ns p i)
theorem sib_max (ns : List Nd) (p : Int) : ∀ (i j : Nat), sibK ns p i < j → j ≤ i → parAt ns j ≠ p
  | 0, j, h1, h2 => by omega
  | i + 1, j, h1, h2 => by
    unfold sibK at h1
    split at h1
    · omega
    · rename_i hne
      by_cases e : j = i + 1
      · rw [e]; exact hne
      · exact sib_max ns p i j h1 (by omega)
theorem sib_same (ns : List Nd) (p : Int) (i : Nat) (h : parAt ns i = p) : sibK ns p i = i := by
  cases i with
  | zero => rfl
  | succ i => unfold sibK; rw [if_pos h]
/-- a text stands beside another one just if that is the one ahead -/
theorem sib_text {ns : List Nd} {i : Nat} {p : Int} (h : rightTo ns (i + 1) = true) (hp : p ∈ chainL ns (innerN ns i)) : (textB (nd ns (sibK ns p i)) && decide (parAt ns (sibK ns p i) = p)) = (textB (nd ns i) && decide (parAt ns i = p)) := by
  by_cases e : parAt ns i = p
  · rw [sib_same ns p i e]
  · rw [decide_eq_false e, Bool.and_false]
    by_cases ek : parAt ns (sibK ns p i) = p
    · rw [decide_eq_true ek, Bool.and_true]
      obtain ⟨k, hk⟩ : ∃ k, sibK ns p i = k := ⟨_, rfl⟩
      rw [hk] at ek ⊢
      have hle := sib_le ns p i
      rw [hk] at hle
      have hlt : k < i := by
        rcases Nat.lt_or_ge k i with h' | h'
        · exact h'
        · have : k = i := by omega
          rw [this] at ek; exact absurd ek e
      cases ht : textB (nd ns k) with
      | false => rfl
      | true =>
        exfalso
        have hpar := right_par h
        have hbk := hpar k (by omega)
        have hb := innerN_bound hpar
        have hne : p ≠ innerN ns i := by
          unfold innerN
          split
          · exact fun h => e h.symm
          · intro h'; rw [h'] at ek; omega
        obtain ⟨c, hc, hcp⟩ := chain_climb hpar hb.1 (by omega) hp hne
        have hcb := chain_le hpar hb.1 (by omega) hc
        have hcp2 := hpar.at (i := c) hcb.1 (by omega)
        have := open_behind ht ek (i - k) (by rw [show k + (i - k) + 1 = i + 1 by omega]; exact h) c (by rw [show k + (i - k) = i by omega]; exact hc)
        rcases this with hin | hgt
        · have hpb := chain_le hpar hb.1 (by omega) hp
          have := chain_le hpar (a := p) (by omega) (by omega) hin
          omega
        · have := sib_max ns p i c.toNat (by rw [hk]; omega) (by omega)
          rw [Int.toNat_of_nonneg hcb.1] at this
          exact this hcp
    · rw [decide_eq_false ek, Bool.and_false]
/-- what is open ahead of node i -/
def openS (ns : List Nd) : Nat → List Int
  | 0 => []
  | i + 1 => chainL ns (innerN ns i)
theorem open_pop {ns : List Nd} {i : Nat} (h : rightTo ns (i + 1) = true) (p : Int) : popS (openS ns (i + 1)) p = if (chainL ns (innerN ns i)).contains p then chainL ns p else [] := by
  have hb := innerN_bound (right_par h)
  exact pop_chain (right_par h) p hb.1 (by omega)
theorem open_next {ns : List Nd} {i : Nat} (h : rightTo ns (i + 1) = true) (ht : textB (nd ns i) = false) : openS ns (i + 1) = (i : Int) :: chainL ns (parAt ns i) := by
  show chainL ns (innerN ns i) = _
  unfold innerN
  rw [ht]
  simp only [Bool.false_eq_true, if_false]
  exact chainL_step (right_par h) (by omega) (by omega)
theorem open_text {ns : List Nd} {i : Nat} (ht : textB (nd ns i) = true) : openS ns (i + 1) = chainL ns (parAt ns i) := by
  show chainL ns (innerN ns i) = _
  unfold innerN
  rw [ht, if_pos rfl]
end Nwl

namespace Nwl
open Go
/-- the kids of i from k on, of so many nodes -/
def kidsF (ns : List Nd) (i : Int) : Nat → Nat → List Nat
  | 0, _ => []
  | d + 1, k => if parAt ns k = i then k :: kidsF ns i d (k + 1) else kidsF ns i d (k + 1)
def kidsN (ns : List Nd) (i : Int) : List Nat := kidsF ns i ns.length 0
def kidsA (ns : List Nd) (i : Int) (k : Nat) : List Nat := (List.range k).filter fun j => decide (parAt ns j = i)
theorem kidsA_succ (ns : List Nd) (i : Int) (k : Nat) : kidsA ns i (k + 1) = if parAt ns k = i then kidsA ns i k ++ [k] else kidsA ns i k := by
  unfold kidsA
  rw [List.range_succ, List.filter_append]
  by_cases h : parAt ns k = i
  · rw [if_pos h]; simp [h]
  · rw [if_neg h]; simp [h]
theorem kidsF_succ (ns : List Nd) (i : Int) (d k : Nat) : kidsF ns i (d + 1) k = if parAt ns k = i then k :: kidsF ns i d (k + 1) else kidsF ns i d (k + 1) := rfl
theorem kidsF_mem {ns : List Nd} {i : Int} : ∀ {d k j : Nat}, j ∈ kidsF ns i d k → k ≤ j ∧ j < k + d ∧ parAt ns j = i
  | 0, k, j, h => by cases h
  | d + 1, k, j, h => by
    unfold kidsF at h
    split at h
    · rcases List.mem_cons.1 h with rfl | h
      · rename_i e; exact ⟨Nat.le_refl _, by omega, e⟩
      · have := kidsF_mem h; exact ⟨by omega, by omega, this.2.2⟩
    · have := kidsF_mem h; exact ⟨by omega, by omega, this.2.2⟩
theorem kidsF_none {ns : List Nd} {i : Int} : ∀ {d k : Nat}, (∀ j, k ≤ j → j < k + d → parAt ns j ≠ i) → kidsF ns i d k = []
  | 0, k, _ => rfl
  | d + 1, k, h => by
    unfold kidsF
    rw [if_neg (h k (Nat.le_refl _) (by omega)), kidsF_none fun j h1 h2 => h j (by omega) (by omega)]
theorem kidsF_skip {ns : List Nd} {i : Int} : ∀ (m d k : Nat), (∀ j, k ≤ j → j < k + m → parAt ns j ≠ i) → kidsF ns i (m + d) k = kidsF ns i d (k + m)
  | 0, d, k, _ => by rw [Nat.zero_add, Nat.add_zero]
  | m + 1, d, k, h => by
    rw [show m + 1 + d = (m + d) + 1 by omega]
    show (if parAt ns k = i then k :: kidsF ns i (m + d) (k + 1) else kidsF ns i (m + d) (k + 1)) = _
    rw [if_neg (h k (Nat.le_refl _) (by omega)), kidsF_skip m d (k + 1) fun j h1 h2 => h j (by omega) (by omega), show k + 1 + m = k + (m + 1) by omega]
theorem kidsA_F (ns : List Nd) (i : Int) : ∀ (d k : Nat), kidsA ns i (k + d) = kidsA ns i k ++ kidsF ns i d k
  | 0, k => by simp [kidsF]
  | d + 1, k => by
    rw [show k + (d + 1) = (k + 1) + d by omega, kidsA_F ns i d (k + 1), kidsA_succ, kidsF_succ]
    split <;> simp
theorem kidsN_A (ns : List Nd) (i : Int) : kidsN ns i = kidsA ns i ns.length := by
  have := kidsA_F ns i ns.length 0
  rw [Nat.zero_add] at this
  rw [this]; rfl
/-- a node, and all in it, as it is written -/
def wrF (ns : List Nd) : Nat → Nat → List UInt8
  | 0, _ => []
  | f + 1, i => if textB (nd ns i) then escL (nd ns i).text else
      headW (nd ns i) ++ (if kidsN ns i = [] then [47, 62] else [62] ++ (kidsN ns i).flatMap (wrF ns f) ++ endL (nd ns i).name)
theorem chain_self {ns : List Nd} {m : Nat} (h : Par ns m) {a : Int} (h0 : 0 ≤ a) (h1 : a < m) : a ∈ chainL ns a := by
  rw [chainL_step h h0 h1]; exact List.mem_cons_self ..
theorem chain_lin {ns : List Nd} {m : Nat} (h : Par ns m) {z a b : Int} (hz : -1 ≤ z) (hm : z < m) (ha : a ∈ chainL ns z) (hb : b ∈ chainL ns z) (hab : a ≤ b) : a ∈ chainL ns b := by
  refine chain_all h (fun z => a ∈ chainL ns z → b ∈ chainL ns z → a ∈ chainL ns b) ?_ ?_ z hz hm ha hb
  · intro hq; rw [chainL_neg] at hq; cases hq
  · intro z h0 h1 ih ha hb
    have ha0 := ha
    rw [chainL_step h h0 h1] at ha hb
    have hp := h.at h0 h1
    rcases List.mem_cons.1 hb with hb | hb
    · rw [hb]; exact ha0
    · have hbl := chain_le h hp.1 (by omega) hb
      rcases List.mem_cons.1 ha with ha | ha
      · omega
      · exact ih ha hb
theorem later {ns : List Nd} {n i k : Nat} (h : rightTo ns n = true) (hik : i < k) (hk : (i : Int) ∉ chainL ns (parAt ns k)) : ∀ (d : Nat), k + d < n → (i : Int) ∉ chainL ns (parAt ns (k + d : Nat))
  | 0, _ => hk
  | d + 1, hd => by
    have ih := later h hik hk d (by omega)
    intro hin
    have hp := right_par h
    have h1 := stand_in (i := k + d) (right_le h (by omega))
    have hb := innerN_bound (Par.le hp (by omega : k + d + 1 ≤ n))
    have h2 := chain_sub hp hb.1 (by omega) h1 _ hin
    unfold innerN at h2
    split at h2
    · exact ih h2
    · rw [chainL_step hp (by omega) (by omega)] at h2
      rcases List.mem_cons.1 h2 with h2 | h2
      · omega
      · exact ih h2
theorem closeW_split {ns : List Nd} {m : Nat} (h : Par ns m) {o i t : Int} (ho : -1 ≤ o) (hm : o < m) (hi : i ∈ chainL ns o) (ht : t < i) : closeW ns o t = closeW ns o i ++ closeW ns i t := by
  refine chain_all h (fun o => i ∈ chainL ns o → closeW ns o t = closeW ns o i ++ closeW ns i t) ?_ ?_ o ho hm hi
  · intro hq; rw [chainL_neg] at hq; cases hq
  · intro o h0 h1 ih hq
    by_cases e : o = i
    · rw [e, closeW_same]; rfl
    · rw [chainL_step h h0 h1] at hq
      rcases List.mem_cons.1 hq with hq | hq
      · exact absurd hq.symm e
      · have hp := h.at h0 h1
        have hle := chain_le h hp.1 (by omega) hq
        rw [closeW_step h h0 h1 (by omega : o ≠ t), closeW_step h h0 h1 e, ih hq, List.append_assoc]
theorem openTo_at {ns : List Nd} {m k : Nat} (h : Par ns m) (hk : k ≤ m) : -1 ≤ openTo ns k ∧ openTo ns k < m := by
  have := openTo_bound h hk
  omega
/-- the innermost one about what comes next -/
theorem next_about {ns : List Nd} {n i e : Nat} (h : rightTo ns n = true) (hie : i < e) (he : e < n) (hA : ∀ j : Nat, i < j → j < e → (i : Int) ∈ chainL ns (parAt ns j)) (hno : (i : Int) ∉ chainL ns (parAt ns e)) (p : Int) (hpi : parAt ns i = p) (hp0 : 0 ≤ p) (hin : p ∈ chainL ns (parAt ns e)) : parAt ns e = p := by
  have hp := right_par h
  obtain ⟨q, rfl⟩ : ∃ q, e = q + 1 := ⟨e - 1, by omega⟩
  have h1 := stand_in (i := q) (right_le h (by omega))
  have hb := innerN_bound (Par.le hp (by omega : q + 1 ≤ n))
  have hpe := hp (q + 1) (by omega)
  have hpin := hp i (by omega)
  have hle := chain_le hp hpe.1 (by omega) hin
  have key : parAt ns (q + 1 : Nat) ∈ chainL ns p := by
    by_cases hq : q = i ∧ textB (nd ns i) = true
    · obtain ⟨rfl, ht⟩ := hq
      unfold innerN at h1
      rw [ht, if_pos rfl, hpi] at h1
      exact h1
    · have hi : (i : Int) ∈ chainL ns (innerN ns q) := by
        by_cases e : q = i
        · subst e
          have ht : textB (nd ns q) = false := by simpa using hq
          unfold innerN
          rw [ht]
          exact chain_self hp (by omega) (by omega)
        · have h2 := hA q (by omega) (by omega)
          unfold innerN
          split
          · exact h2
          · rw [chainL_step hp (by omega) (by omega)]
            exact List.mem_cons_of_mem _ h2
      have hlt : parAt ns (q + 1 : Nat) < i := by
        rcases Int.lt_or_le (parAt ns (q + 1 : Nat)) i with hl | hl
        · exact hl
        · exact absurd (chain_lin hp hb.1 (by omega) hi h1 hl) hno
      have h3 := chain_lin hp hb.1 (by omega) h1 hi (by omega)
      rw [chainL_step hp (by omega) (by omega), hpi] at h3
      rcases List.mem_cons.1 h3 with h3 | h3
      · omega
      · exact h3
  have := chain_le hp (a := p) (by omega) (by omega) key
  omega
theorem kids_bool {ns : List Nd} {i : Nat} (h : rightTo ns ns.length = true) (hi : i < ns.length) : kidsB ns i = true ↔ kidsN ns i ≠ [] := by
  have hp := right_par h
  constructor
  · intro hk hn
    unfold kidsB at hk
    rw [Bool.and_eq_true, decide_eq_true_eq, decide_eq_true_eq] at hk
    have := kidsA_F ns i (ns.length - (i + 1 + 1)) (i + 1 + 1)
    rw [show i + 1 + 1 + (ns.length - (i + 1 + 1)) = ns.length by omega, ← kidsN_A, hn, kidsA_succ, if_pos hk.2] at this
    have h2 := congrArg List.length this
    simp at h2
  · intro hn
    cases hk : kidsB ns i with
    | true => rfl
    | false =>
      exfalso
      apply hn
      refine kidsF_none fun j _ hj2 => ?_
      intro e
      by_cases hji : j ≤ i
      · have := hp j (by omega); omega
      · have h1 : i + 1 < ns.length := by omega
        have h2 : parAt ns (i + 1 : Nat) ≠ i := by
          unfold kidsB at hk
          rw [decide_eq_true h1, Bool.true_and, decide_eq_false_iff_not] at hk
          exact hk
        have hpi := hp (i + 1) h1
        have h3 : (i : Int) ∉ chainL ns (parAt ns (i + 1 : Nat)) := fun hin => by
          have := chain_le hp hpi.1 (by omega) hin
          omega
        have := later h (by omega : i < i + 1) h3 (j - (i + 1)) (by omega)
        rw [show i + 1 + (j - (i + 1)) = j by omega, e] at this
        exact this (chain_self hp (by omega) (by omega))
theorem outTo_succ (ns : List Nd) (i : Nat) : outTo ns (i + 1) = outTo ns i ++ closeW ns (openTo ns i) (parAt ns i) ++ nodeW ns i := rfl
theorem own_about {ns : List Nd} {m : Nat} (h : Par ns m) {p : Int} (h0 : -1 ≤ p) (h1 : p < m) : p = -1 ∨ p ∈ chainL ns p := by
  by_cases e : p = -1
  · exact .inl e
  · exact .inr (chain_self h (by omega) h1)

/-- what is said of a node and all in it -/
def SubOk (ns : List Nd) (d i e : Nat) : Prop := i < e ∧ e ≤ ns.length ∧ (∀ j : Nat, i < j → j < e → (i : Int) ∈ chainL ns (parAt ns j)) ∧ (∀ j : Nat, e ≤ j → j < ns.length → (i : Int) ∉ chainL ns (parAt ns j)) ∧ outTo ns e ++ closeW ns (openTo ns e) (parAt ns i) = outTo ns i ++ closeW ns (openTo ns i) (parAt ns i) ++ wrF ns d i ∧ (parAt ns i = -1 ∨ parAt ns i ∈ chainL ns (openTo ns e))

/-- the kids of i, from k on -/
theorem kids_on {ns : List Nd} (h : rightTo ns ns.length = true) {d i : Nat} (ih : ∀ k : Nat, i < k → k < ns.length → ∃ e, SubOk ns d k e) : ∀ (f k : Nat), ns.length - k ≤ f → i < k → k ≤ ns.length → (∀ j : Nat, i < j → j < k → (i : Int) ∈ chainL ns (parAt ns j)) → (k < ns.length → (i : Int) ∈ chainL ns (parAt ns k) → parAt ns k = i) → (i : Int) ∈ chainL ns (openTo ns k) →
    ∃ e, k ≤ e ∧ e ≤ ns.length ∧ (∀ j : Nat, i < j → j < e → (i : Int) ∈ chainL ns (parAt ns j)) ∧ (∀ j : Nat, e ≤ j → j < ns.length → (i : Int) ∉ chainL ns (parAt ns j)) ∧ outTo ns e ++ closeW ns (openTo ns e) i = outTo ns k ++ closeW ns (openTo ns k) i ++ (kidsF ns i (ns.length - k) k).flatMap (wrF ns d) ∧ (i : Int) ∈ chainL ns (openTo ns e) := by
  have hp := right_par h
  intro f
  induction f with
  | zero =>
    intro k hf hik hkn hA _ hO
    obtain rfl : k = ns.length := by omega
    exact ⟨ns.length, Nat.le_refl _, Nat.le_refl _, hA, fun j h1 h2 => by omega, by rw [Nat.sub_self]; simp [kidsF], hO⟩
  | succ f ihf =>
    intro k hf hik hkn hA hB hO
    by_cases hk : k < ns.length ∧ (i : Int) ∈ chainL ns (parAt ns k)
    · obtain ⟨hk1, hk2⟩ := hk
      have hpk := hB hk1 hk2
      obtain ⟨e, e1, e2, e3, e4, e5, e6⟩ := ih k hik hk1
      rw [hpk] at e5 e6
      have hO' : (i : Int) ∈ chainL ns (openTo ns e) := by
        rcases e6 with e6 | e6
        · omega
        · exact e6
      have hA' : ∀ j : Nat, i < j → j < e → (i : Int) ∈ chainL ns (parAt ns j) := by
        intro j h1 h2
        by_cases hj : j < k
        · exact hA j h1 hj
        · by_cases hjk : j = k
          · rw [hjk]; exact hk2
          · have h3 := e3 j (by omega) h2
            have hpj := hp j (by omega)
            refine chain_sub hp hpj.1 (by omega) h3 _ ?_
            rw [chainL_step hp (by omega) (by omega), hpk]
            exact List.mem_cons_of_mem _ (chain_self hp (by omega) (by omega))
      have hB' : e < ns.length → (i : Int) ∈ chainL ns (parAt ns e) → parAt ns e = i := fun he hin =>
        next_about h e1 he e3 (e4 e (Nat.le_refl _) he) i hpk (by omega) hin
      obtain ⟨e', g1, g2, g3, g4, g5, g6⟩ := ihf e (by omega) (by omega) e2 hA' hB' hO'
      refine ⟨e', by omega, g2, g3, g4, ?_, g6⟩
      have hkf : kidsF ns i (ns.length - k) k = k :: kidsF ns i (ns.length - e) e := by
        obtain ⟨q, hq⟩ : ∃ q, ns.length - k = q + 1 := ⟨ns.length - k - 1, by omega⟩
        rw [hq]
        show (if parAt ns k = i then k :: kidsF ns i q (k + 1) else kidsF ns i q (k + 1)) = _
        rw [if_pos hpk, show q = (e - (k + 1)) + (ns.length - e) by omega, kidsF_skip, show k + 1 + (e - (k + 1)) = e by omega]
        intro j h1 h2
        have h3 := e3 j (by omega) (by omega)
        have hpj := hp j (by omega)
        have := chain_le hp hpj.1 (by omega) h3
        omega
      rw [g5, hkf, List.flatMap_cons, e5]
      simp only [List.append_assoc]
    · have hno : ∀ j : Nat, k ≤ j → j < ns.length → (i : Int) ∉ chainL ns (parAt ns j) := by
        intro j h1 h2
        have hkl : k < ns.length := by omega
        have := later h hik (fun hin => hk ⟨hkl, hin⟩) (j - k) (by omega)
        rwa [show k + (j - k) = j by omega] at this
      refine ⟨k, Nat.le_refl _, hkn, hA, hno, ?_, hO⟩
      rw [kidsF_none]
      · simp
      · intro j h1 h2 e
        have := hno j h1 (by omega)
        rw [e] at this
        exact this (chain_self hp (by omega) (by omega))

theorem sub_ok {ns : List Nd} (h : rightTo ns ns.length = true) : ∀ (d i : Nat), i < ns.length → ns.length - i ≤ d → ∃ e, SubOk ns d i e
  | 0, i, hi, hd => by omega
  | d + 1, i, hi, hd => by
    have hp := right_par h
    have hpi := hp i hi
    cases ht : textB (nd ns i) with
    | true =>
      have hop : openTo ns (i + 1) = parAt ns i := by
        show openW ns i = _
        unfold openW
        rw [ht, if_pos rfl]
      have hno : i + 1 < ns.length → (i : Int) ∉ chainL ns (parAt ns (i + 1 : Nat)) := fun hl hin => by
        have h1 := stand_in (i := i) (right_le h (by omega))
        have hp1 := hp (i + 1) hl
        unfold innerN at h1
        rw [ht, if_pos rfl] at h1
        have h2 := chain_sub hp hpi.1 (by omega) h1 _ hin
        have := chain_le hp hpi.1 (by omega) h2
        omega
      refine ⟨i + 1, by omega, by omega, fun j h1 h2 => by omega, fun j h1 h2 => ?_, ?_, ?_⟩
      · have := later h (by omega : i < i + 1) (hno (by omega)) (j - (i + 1)) (by omega)
        rwa [show i + 1 + (j - (i + 1)) = j by omega] at this
      · rw [hop, closeW_same, outTo_succ, List.append_nil]
        unfold nodeW wrF
        rw [ht, if_pos rfl, if_pos rfl]
      · rw [hop]; exact own_about hp hpi.1 (by omega)
    | false =>
      have hkb := kids_bool h hi
      cases hk : kidsB ns i with
      | false =>
        have hkn : kidsN ns i = [] := by
          by_cases e : kidsN ns i = []
          · exact e
          · rw [hkb.2 e] at hk; cases hk
        have hop : openTo ns (i + 1) = parAt ns i := by
          show openW ns i = _
          unfold openW
          rw [ht, hk]; rfl
        have hno : i + 1 < ns.length → (i : Int) ∉ chainL ns (parAt ns (i + 1 : Nat)) := fun hl hin => by
          have hp1 := hp (i + 1) hl
          have := chain_le hp hp1.1 (by omega) hin
          unfold kidsB at hk
          rw [decide_eq_true hl, Bool.true_and, decide_eq_false_iff_not] at hk
          omega
        refine ⟨i + 1, by omega, by omega, fun j h1 h2 => by omega, fun j h1 h2 => ?_, ?_, ?_⟩
        · have := later h (by omega : i < i + 1) (hno (by omega)) (j - (i + 1)) (by omega)
          rwa [show i + 1 + (j - (i + 1)) = j by omega] at this
        · rw [hop, closeW_same, outTo_succ, List.append_nil]
          unfold nodeW wrF
          rw [ht, hk, if_neg (by decide), if_neg (by decide), if_neg (by decide), if_pos hkn]
        · rw [hop]; exact own_about hp hpi.1 (by omega)
      | true =>
        have hkn := hkb.1 hk
        have hop : openTo ns (i + 1) = i := by
          show openW ns i = _
          unfold openW
          rw [ht, hk]; rfl
        have hl : i + 1 < ns.length ∧ parAt ns (i + 1 : Nat) = i := by
          unfold kidsB at hk
          rw [Bool.and_eq_true, decide_eq_true_eq, decide_eq_true_eq] at hk
          exact hk
        have hself : (i : Int) ∈ chainL ns (openTo ns (i + 1)) := by
          rw [hop]; exact chain_self hp (by omega) (by omega)
        obtain ⟨e, g1, g2, g3, g4, g5, g6⟩ := kids_on h (d := d) (i := i) (fun k h1 h2 => sub_ok h d k h2 (by omega)) (ns.length - (i + 1)) (i + 1) (Nat.le_refl _) (by omega) (by omega) (fun j h1 h2 => by omega) (fun _ _ => hl.2) hself
        have hoe := openTo_at hp g2
        refine ⟨e, by omega, g2, g3, g4, ?_, ?_⟩
        · rw [closeW_split hp hoe.1 (by omega) g6 hpi.2, ← List.append_assoc, g5, hop, closeW_same, List.append_nil, closeW_step hp (by omega) (by omega) (by omega), closeW_same, outTo_succ]
          have hkk : kidsN ns i = kidsF ns i (ns.length - (i + 1)) (i + 1) := by
            unfold kidsN
            conv => lhs; rw [show ns.length = (i + 1) + (ns.length - (i + 1)) by omega]
            rw [kidsF_skip (i + 1) _ 0 (fun j _ h2 => by have := hp j (by omega); omega), Nat.zero_add]
          unfold nodeW
          conv => rhs; unfold wrF
          rw [ht, hk]
          simp only [Bool.false_eq_true, if_false, if_true]
          rw [if_neg hkn, hkk, Int.toNat_natCast]
          simp only [List.append_assoc, List.append_nil]
        · rcases own_about hp hpi.1 (by omega) with hq | hq
          · exact .inl hq
          · right
            refine chain_sub hp hoe.1 hoe.2 g6 _ ?_
            rw [chainL_step hp (by omega) (by omega)]
            exact List.mem_cons_of_mem _ hq
theorem root_in {ns : List Nd} (h : rightTo ns ns.length = true) {y : Int} (h0 : 0 ≤ y) (h1 : y < ns.length) : (0 : Int) ∈ chainL ns y := by
  have hp := right_par h
  refine chain_all hp (fun y => 0 ≤ y → (0 : Int) ∈ chainL ns y) ?_ ?_ y (by omega) h1 h0
  · intro hq; omega
  · intro a h0 h1 ih _
    rw [chainL_step hp h0 h1]
    have hpa := hp.at h0 h1
    by_cases e : a = 0
    · rw [e]; exact List.mem_cons_self ..
    · obtain ⟨q, hq⟩ : ∃ q : Nat, a = ((q + 1 : Nat) : Int) := ⟨(a - 1).toNat, by omega⟩
      have h2 := stand_in (i := q) (right_le h (by omega))
      have hb := innerN_bound (Par.le hp (by omega : q + 1 ≤ ns.length))
      have := chain_le hp hb.1 (by omega) h2
      rw [← hq] at this
      exact List.mem_cons_of_mem _ (ih this.1)
/-- node within node, or node by node: the same -/
theorem write_same {ns : List Nd} (h : rightTo ns ns.length = true) (hne : 0 < ns.length) : writeL ns = wrF ns ns.length 0 := by
  have hp := right_par h
  obtain ⟨e, e1, e2, e3, e4, e5, e6⟩ := sub_ok h ns.length 0 hne (by omega)
  have hf := (first_in (right_le h (k := 1) (by omega))).1
  have he : e = ns.length := by
    rcases Nat.lt_or_ge e ns.length with hl | hl
    · exfalso
      obtain ⟨q, rfl⟩ : ∃ q, e = q + 1 := ⟨e - 1, by omega⟩
      have h2 := stand_in (i := q) (right_le h (by omega))
      have hb := innerN_bound (Par.le hp (by omega : q + 1 ≤ ns.length))
      have h3 := chain_le hp hb.1 (by omega) h2
      have hpe := hp (q + 1) hl
      exact e4 (q + 1) (Nat.le_refl _) hl (root_in h h3.1 (by omega))
    · omega
  rw [he] at e5
  rw [hf] at e5
  unfold writeL
  rw [e5]
  show [] ++ closeW ns (-1) (-1) ++ wrF ns ns.length 0 = _
  rw [closeW_same]; rfl
end Nwl

namespace Nwl
open Go
theorem nmem_sum : ∀ {L : List Nat} {x : Nat}, x ∈ L → x ≤ L.sum
  | y :: L, x, h => by
    rw [List.sum_cons]
    rcases List.mem_cons.1 h with e | e
    · omega
    · have := nmem_sum e; omega
theorem nlen_sum (l : List (List UInt8 × List UInt8)) : l.length ≤ (l.map fun a => a.1.length + a.2.length + 1).sum := by
  induction l with
  | nil => simp
  | cons a l ih => rw [List.map_cons, List.sum_cons, List.length_cons]; omega
theorem attrs_bulk (l : List (List UInt8 × List UInt8)) : (attrsW l).length ≤ 6 * (l.map fun a => a.1.length + a.2.length + 1).sum := by
  induction l with
  | nil => simp [attrsW]
  | cons a l ih =>
    have h1 : (attrsW (a :: l)).length = (attrW a).length + (attrsW l).length := by simp [attrsW]
    have h2 : (attrW a).length ≤ 6 * (a.1.length + a.2.length + 1) := by
      have := escL_len a.2
      simp only [attrW, List.length_append, List.length_cons, List.length_nil]
      omega
    rw [h1, List.map_cons, List.sum_cons]
    omega
theorem nodeW_len {ns : List Nd} {M : Nat} (h : Small ns M) (i : Nat) : (nodeW ns i).length ≤ 6 * M + 10 := by
  have hb := h i
  unfold bulkN at hb
  have h1 := attrs_bulk (nd ns i).attrs
  have h2 := escL_len (nd ns i).text
  unfold nodeW headW
  split
  · omega
  · split <;> simp only [List.length_append, List.length_cons, List.length_nil] <;> omega
theorem closeU_len {ns : List Nd} {M : Nat} (h : Small ns M) (t : Int) : ∀ (f : Nat) (o : Int), (closeU ns t f o).length ≤ f * (M + 3)
  | 0, o => by simp [closeU]
  | f + 1, o => by
    have ih := closeU_len h t f (parAt ns o)
    have hb := h o.toNat
    unfold bulkN at hb
    unfold closeU
    split
    · simp
    · rw [List.length_append, Nat.succ_mul]
      have : (endL (nd ns o.toNat).name).length ≤ M + 3 := by
        simp only [endL, List.length_append, List.length_cons, List.length_nil]; omega
      omega
theorem closeW_len {ns : List Nd} {M K : Nat} (h : Small ns M) (o t : Int) (hK : o < K) : (closeW ns o t).length ≤ K * (M + 3) := by
  have h1 := closeU_len h t (o + 1).toNat o
  have h2 : (o + 1).toNat ≤ K := by omega
  exact Nat.le_trans h1 (Nat.mul_le_mul_right _ h2)
theorem outTo_len {ns : List Nd} {M K : Nat} (h : Small ns M) (hp : Par ns K) : ∀ (k : Nat), k ≤ K → (outTo ns k).length ≤ k * (K * (M + 3) + (6 * M + 10))
  | 0, _ => by simp [outTo]
  | k + 1, hk => by
    have ih := outTo_len h hp k (by omega)
    have ho := openTo_bound hp (i := k) (by omega)
    have h1 := closeW_len (K := K) h (openTo ns k) (parAt ns k) (by omega)
    have h2 := nodeW_len h k
    rw [outTo_succ, List.length_append, List.length_append, Nat.succ_mul]
    omega
theorem write_len {ns : List Nd} {M : Nat} (h : Small ns M) (hr : rightTo ns ns.length = true) (hl : ns.length ≤ 2000) (hM : M ≤ 2000000) : ∀ (k : Nat) (t : Int), k ≤ ns.length → (outTo ns k ++ closeW ns (openTo ns k) t).length ≤ 10000000000000 := by
  intro k t hk
  have hp := right_par hr
  have h1 := outTo_len h hp k hk
  have ho := openTo_bound hp (i := k) hk
  have h2 := closeW_len (K := ns.length) h (openTo ns k) t (by omega)
  have h3 : ns.length * (M + 3) ≤ 2000 * 2000003 := Nat.mul_le_mul hl (by omega)
  have h4 : k * (ns.length * (M + 3) + (6 * M + 10)) ≤ 2000 * (2000 * 2000003 + 12000010) := Nat.mul_le_mul (by omega) (by omega)
  rw [List.length_append]
  omega
theorem wrF_len {ns : List Nd} {M : Nat} (h : Small ns M) (hr : rightTo ns ns.length = true) (hl : ns.length ≤ 2000) (hM : M ≤ 2000000) (d i : Nat) (hi : i < ns.length) (hd : ns.length - i ≤ d) : (wrF ns d i).length ≤ 10000000000000 := by
  obtain ⟨e, e1, e2, _, _, e5, _⟩ := sub_ok hr d i hi hd
  have h1 := write_len h hr hl hM e (parAt ns i) e2
  rw [e5, List.length_append] at h1
  omega
theorem writeL_len {ns : List Nd} {M : Nat} (h : Small ns M) (hr : rightTo ns ns.length = true) (hl : ns.length ≤ 2000) (hM : M ≤ 2000000) : (writeL ns).length ≤ 10000000000000 := write_len h hr hl hM ns.length (-1) (Nat.le_refl _)
end Nwl
