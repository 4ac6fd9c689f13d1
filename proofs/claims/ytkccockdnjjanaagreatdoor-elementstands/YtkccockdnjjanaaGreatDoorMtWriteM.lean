/-
  Plain facts: what a right tree is written as, node within node, is what it is written as node by node.
-/
import Derived.Test.YtkccockdnjjanaaGreatDoorMtRightM
namespace Nwl
open Go
/-- the kids of i from k on, of so many nodes -/
def kidsF (ns : List Nd) (i : Int) : Nat → Nat → List Nat
  | 0, _ => []
  | d + 1, k => if parAt ns k = i then k :: kidsF ns i d (k + 1) else kidsF ns i d (k + 1)
def kidsN (ns : List Nd) (i : Int) : List Nat := kidsF ns i ns.length 0
def kidsA (ns : List Nd) (i : Int) (k : Nat) : List Nat := (List.range k).filter fun j => decide (parAt ns j = i)
theorem kidsA_succ (ns : List Nd) (i : Int) (k : Nat) : kidsA ns i (k + 1) = if parAt ns k = i then kidsA ns i k ++ [k] else kidsA ns i k := by
  unfold kidsA
  rw [List.range_succ, List.filter_append]
  by_cases h : parAt ns k = i
  · rw [if_pos h]; simp [h]
  · rw [if_neg h]; simp [h]
theorem kidsF_succ (ns : List Nd) (i : Int) (d k : Nat) : kidsF ns i (d + 1) k = if parAt ns k = i then k :: kidsF ns i d (k + 1) else kidsF ns i d (k + 1) := rfl
theorem kidsF_mem {ns : List Nd} {i : Int} : ∀ {d k j : Nat}, j ∈ kidsF ns i d k → k ≤ j ∧ j < k + d ∧ parAt ns j = i
  | 0, k, j, h => by cases h
  | d + 1, k, j, h => by
    unfold kidsF at h
    split at h
    · rcases List.mem_cons.1 h with rfl | h
      · rename_i e; exact ⟨Nat.le_refl _, by omega, e⟩
      · have := kidsF_mem h; exact ⟨by omega, by omega, this.2.2⟩
    · have := kidsF_mem h; exact ⟨by omega, by omega, this.2.2⟩
theorem kidsF_none {ns : List Nd} {i : Int} : ∀ {d k : Nat}, (∀ j, k ≤ j → j < k + d → parAt ns j ≠ i) → kidsF ns i d k = []
  | 0, k, _ => rfl
  | d + 1, k, h => by
    unfold kidsF
    rw [if_neg (h k (Nat.le_refl _) (by omega)), kidsF_none fun j h1 h2 => h j (by omega) (by omega)]
theorem kidsF_skip {ns : List Nd} {i : Int} : ∀ (m d k : Nat), (∀ j, k ≤ j → j < k + m → parAt ns j ≠ i) → kidsF ns i (m + d) k = kidsF ns i d (k + m)
  | 0, d, k, _ => by rw [Nat.zero_add, Nat.add_zero]
  | m + 1, d, k, h => by
    rw [show m + 1 + d = (m + d) + 1 by omega]
    show (if parAt ns k = i then k :: kidsF ns i (m + d) (k + 1) else kidsF ns i (m + d) (k + 1)) = _
    rw [if_neg (h k (Nat.le_refl _) (by omega)), kidsF_skip m d (k + 1) fun j h1 h2 => h j (by omega) (by omega), show k + 1 + m = k + (m + 1) by omega]
theorem kidsA_F (ns : List Nd) (i : Int) : ∀ (d k : Nat), kidsA ns i (k + d) = kidsA ns i k ++ kidsF ns i d k
  | 0, k => by simp [kidsF]
  | d + 1, k => by
    rw [show k + (d + 1) = (k + 1) + d by omega, kidsA_F ns i d (k + 1), kidsA_succ, kidsF_succ]
    split <;> simp
theorem kidsN_A (ns : List Nd) (i : Int) : kidsN ns i = kidsA ns i ns.length := by
  have := kidsA_F ns i ns.length 0
  rw [Nat.zero_add] at this
  rw [this]; rfl
/-- a node, and all in it, as it is written -/
def wrF (ns : List Nd) : Nat → Nat → List UInt8
  | 0, _ => []
  | f + 1, i => if textB (nd ns i) then escL (nd ns i).text else
      headW (nd ns i) ++ (if kidsN ns i = [] then [47, 62] else [62] ++ (kidsN ns i).flatMap (wrF ns f) ++ endL (nd ns i).name)
theorem chain_self {ns : List Nd} {m : Nat} (h : Par ns m) {a : Int} (h0 : 0 ≤ a) (h1 : a < m) : a ∈ chainL ns a := by
  rw [chainL_step h h0 h1]; exact List.mem_cons_self ..
theorem chain_lin {ns : List Nd} {m : Nat} (h : Par ns m) {z a b : Int} (hz : -1 ≤ z) (hm : z < m) (ha : a ∈ chainL ns z) (hb : b ∈ chainL ns z) (hab : a ≤ b) : a ∈ chainL ns b := by
  refine chain_all h (fun z => a ∈ chainL ns z → b ∈ chainL ns z → a ∈ chainL ns b) ?_ ?_ z hz hm ha hb
  · intro hq; rw [chainL_neg] at hq; cases hq
  · intro z h0 h1 ih ha hb
    have ha0 := ha
    rw [chainL_step h h0 h1] at ha hb
    have hp := h.at h0 h1
    rcases List.mem_cons.1 hb with hb | hb
    · rw [hb]; exact ha0
    · have hbl := chain_le h hp.1 (by omega) hb
      rcases List.mem_cons.1 ha with ha | ha
      · omega
      · exact ih ha hb
theorem later {ns : List Nd} {n i k : Nat} (h : rightTo ns n = true) (hik : i < k) (hk : (i : Int) ∉ chainL ns (parAt ns k)) : ∀ (d : Nat), k + d < n → (i : Int) ∉ chainL ns (parAt ns (k + d : Nat))
  | 0, _ => hk
  | d + 1, hd => by
    have ih := later h hik hk d (by omega)
    intro hin
    have hp := right_par h
    have h1 := stand_in (i := k + d) (right_le h (by omega))
    have hb := innerN_bound (Par.le hp (by omega : k + d + 1 ≤ n))
    have h2 := chain_sub hp hb.1 (by omega) h1 _ hin
    unfold innerN at h2
    split at h2
    · exact ih h2
    · rw [chainL_step hp (by omega) (by omega)] at h2
      rcases List.mem_cons.1 h2 with h2 | h2
      · omega
      · exact ih h2
theorem closeW_split {ns : List Nd} {m : Nat} (h : Par ns m) {o i t : Int} (ho : -1 ≤ o) (hm : o < m) (hi : i ∈ chainL ns o) (ht : t < i) : closeW ns o t = closeW ns o i ++ closeW ns i t := by
  refine chain_all h (fun o => i ∈ chainL ns o → closeW ns o t = closeW ns o i ++ closeW ns i t) ?_ ?_ o ho hm hi
  · intro hq; rw [chainL_neg] at hq; cases hq
  · intro o h0 h1 ih hq
    by_cases e : o = i
    · rw [e, closeW_same]; rfl
    · rw [chainL_step h h0 h1] at hq
      rcases List.mem_cons.1 hq with hq | hq
      · exact absurd hq.symm e
      · have hp := h.at h0 h1
        have hle := chain_le h hp.1 (by omega) hq
        rw [closeW_step h h0 h1 (by omega : o ≠ t), closeW_step h h0 h1 e, ih hq, List.append_assoc]
theorem openTo_at {ns : List Nd} {m k : Nat} (h : Par ns m) (hk : k ≤ m) : -1 ≤ openTo ns k ∧ openTo ns k < m := by
  have := openTo_bound h hk
  omega
/-- the innermost one about what comes next -/
theorem next_about {ns : List Nd} {n i e : Nat} (h : rightTo ns n = true) (hie : i < e) (he : e < n) (hA : ∀ j : Nat, i < j → j < e → (i : Int) ∈ chainL ns (parAt ns j)) (hno : (i : Int) ∉ chainL ns (parAt ns e)) (p : Int) (hpi : parAt ns i = p) (hp0 : 0 ≤ p) (hin : p ∈ chainL ns (parAt ns e)) : parAt ns e = p := by
  have hp := right_par h
  obtain ⟨q, rfl⟩ : ∃ q, e = q + 1 := ⟨e - 1, by omega⟩
  have h1 := stand_in (i := q) (right_le h (by omega))
  have hb := innerN_bound (Par.le hp (by omega : q + 1 ≤ n))
  have hpe := hp (q + 1) (by omega)
  have hpin := hp i (by omega)
  have hle := chain_le hp hpe.1 (by omega) hin
  have key : parAt ns (q + 1 : Nat) ∈ chainL ns p := by
    by_cases hq : q = i ∧ textB (nd ns i) = true
    · obtain ⟨rfl, ht⟩ := hq
      unfold innerN at h1
      rw [ht, if_pos rfl, hpi] at h1
      exact h1
    · have hi : (i : Int) ∈ chainL ns (innerN ns q) := by
        by_cases e : q = i
        · subst e
          have ht : textB (nd ns q) = false := by simpa using hq
          unfold innerN
          rw [ht]
          exact chain_self hp (by omega) (by omega)
        · have h2 := hA q (by omega) (by omega)
          unfold innerN
          split
          · exact h2
          · rw [chainL_step hp (by omega) (by omega)]
            exact List.mem_cons_of_mem _ h2
      have hlt : parAt ns (q + 1 : Nat) < i := by
        rcases Int.lt_or_le (parAt ns (q + 1 : Nat)) i with hl | hl
        · exact hl
        · exact absurd (chain_lin hp hb.1 (by omega) hi h1 hl) hno
      have h3 := chain_lin hp hb.1 (by omega) h1 hi (by omega)
      rw [chainL_step hp (by omega) (by omega), hpi] at h3
      rcases List.mem_cons.1 h3 with h3 | h3
      · omega
      · exact h3
  have := chain_le hp (a := p) (by omega) (by omega) key
  omega
theorem kids_bool {ns : List Nd} {i : Nat} (h : rightTo ns ns.length = true) (hi : i < ns.length) : kidsB ns i = true ↔ kidsN ns i ≠ [] := by
  have hp := right_par h
  constructor
  · intro hk hn
    unfold kidsB at hk
    rw [Bool.and_eq_true, decide_eq_true_eq, decide_eq_true_eq] at hk
    have := kidsA_F ns i (ns.length - (i + 1 + 1)) (i + 1 + 1)
    rw [show i + 1 + 1 + (ns.length - (i + 1 + 1)) = ns.length by omega, ← kidsN_A, hn, kidsA_succ, if_pos hk.2] at this
    have h2 := congrArg List.length this
    simp at h2
  · intro hn
    cases hk : kidsB ns i with
    | true => rfl
    | false =>
      exfalso
      apply hn
      refine kidsF_none fun j _ hj2 => ?_
      intro e
      by_cases hji : j ≤ i
      · have := hp j (by omega); omega
      · have h1 : i + 1 < ns.length := by omega
        have h2 : parAt ns (i + 1 : Nat) ≠ i := by
          unfold kidsB at hk
          rw [decide_eq_true h1, Bool.true_and, decide_eq_false_iff_not] at hk
          exact hk
        have hpi := hp (i + 1) h1
        have h3 : (i : Int) ∉ chainL ns (parAt ns (i + 1 : Nat)) := fun hin => by
          have := chain_le hp hpi.1 (by omega) hin
          omega
        have := later h (by omega : i < i + 1) h3 (j - (i + 1)) (by omega)
        rw [show i + 1 + (j - (i + 1)) = j by omega, e] at this
        exact this (chain_self hp (by omega) (by omega))
theorem outTo_succ (ns : List Nd) (i : Nat) : outTo ns (i + 1) = outTo ns i ++ closeW ns (openTo ns i) (parAt ns i) ++ nodeW ns i := rfl
theorem own_about {ns : List Nd} {m : Nat} (h : Par ns m) {p : Int} (h0 : -1 ≤ p) (h1 : p < m) : p = -1 ∨ p ∈ chainL ns p := by
  by_cases e : p = -1
  · exact .inl e
  · exact .inr (chain_self h (by omega) h1)

/-- what is said of a node and all in it -/
def SubOk (ns : List Nd) (d i e : Nat) : Prop := i < e ∧ e ≤ ns.length ∧ (∀ j : Nat, i < j → j < e → (i : Int) ∈ chainL ns (parAt ns j)) ∧ (∀ j : Nat, e ≤ j → j < ns.length → (i : Int) ∉ chainL ns (parAt ns j)) ∧ outTo ns e ++ closeW ns (openTo ns e) (parAt ns i) = outTo ns i ++ closeW ns (openTo ns i) (parAt ns i) ++ wrF ns d i ∧ (parAt ns i = -1 ∨ parAt ns i ∈ chainL ns (openTo ns e))

/-- the kids of i, from k on -/
theorem kids_on {ns : List Nd} (h : rightTo ns ns.length = true) {d i : Nat} (ih : ∀ k : Nat, i < k → k < ns.length → ∃ e, SubOk ns d k e) : ∀ (f k : Nat), ns.length - k ≤ f → i < k → k ≤ ns.length → (∀ j : Nat, i < j → j < k → (i : Int) ∈ chainL ns (parAt ns j)) → (k < ns.length → (i : Int) ∈ chainL ns (parAt ns k) → parAt ns k = i) → (i : Int) ∈ chainL ns (openTo ns k) →
    ∃ e, k ≤ e ∧ e ≤ ns.length ∧ (∀ j : Nat, i < j → j < e → (i : Int) ∈ chainL ns (parAt ns j)) ∧ (∀ j : Nat, e ≤ j → j < ns.length → (i : Int) ∉ chainL ns (parAt ns j)) ∧ outTo ns e ++ closeW ns (openTo ns e) i = outTo ns k ++ closeW ns (openTo ns k) i ++ (kidsF ns i (ns.length - k) k).flatMap (wrF ns d) ∧ (i : Int) ∈ chainL ns (openTo ns e) := by
  have hp := right_par h
  intro f
  induction f with
  | zero =>
    intro k hf hik hkn hA _ hO
    obtain rfl : k = ns.length := by omega
    exact ⟨ns.length, Nat.le_refl _, Nat.le_refl _, hA, fun j h1 h2 => by omega, by rw [Nat.sub_self]; simp [kidsF], hO⟩
  | succ f ihf =>
    intro k hf hik hkn hA hB hO
    by_cases hk : k < ns.length ∧ (i : Int) ∈ chainL ns (parAt ns k)
    · obtain ⟨hk1, hk2⟩ := hk
      have hpk := hB hk1 hk2
      obtain ⟨e, e1, e2, e3, e4, e5, e6⟩ := ih k hik hk1
      rw [hpk] at e5 e6
      have hO' : (i : Int) ∈ chainL ns (openTo ns e) := by
        rcases e6 with e6 | e6
        · omega
        · exact e6
      have hA' : ∀ j : Nat, i < j → j < e → (i : Int) ∈ chainL ns (parAt ns j) := by
        intro j h1 h2
        by_cases hj : j < k
        · exact hA j h1 hj
        · by_cases hjk : j = k
          · rw [hjk]; exact hk2
          · have h3 := e3 j (by omega) h2
            have hpj := hp j (by omega)
            refine chain_sub hp hpj.1 (by omega) h3 _ ?_
            rw [chainL_step hp (by omega) (by omega), hpk]
            exact List.mem_cons_of_mem _ (chain_self hp (by omega) (by omega))
      have hB' : e < ns.length → (i : Int) ∈ chainL ns (parAt ns e) → parAt ns e = i := fun he hin =>
        next_about h e1 he e3 (e4 e (Nat.le_refl _) he) i hpk (by omega) hin
      obtain ⟨e', g1, g2, g3, g4, g5, g6⟩ := ihf e (by omega) (by omega) e2 hA' hB' hO'
      refine ⟨e', by omega, g2, g3, g4, ?_, g6⟩
      have hkf : kidsF ns i (ns.length - k) k = k :: kidsF ns i (ns.length - e) e := by
        obtain ⟨q, hq⟩ : ∃ q, ns.length - k = q + 1 := ⟨ns.length - k - 1, by omega⟩
        rw [hq]
        show (if parAt ns k = i then k :: kidsF ns i q (k + 1) else kidsF ns i q (k + 1)) = _
        rw [if_pos hpk, show q = (e - (k + 1)) + (ns.length - e) by omega, kidsF_skip, show k + 1 + (e - (k + 1)) = e by omega]
        intro j h1 h2
        have h3 := e3 j (by omega) (by omega)
        have hpj := hp j (by omega)
        have := chain_le hp hpj.1 (by omega) h3
        omega
      rw [g5, hkf, List.flatMap_cons, e5]
      simp only [List.append_assoc]
    · have hno : ∀ j : Nat, k ≤ j → j < ns.length → (i : Int) ∉ chainL ns (parAt ns j) := by
        intro j h1 h2
        have hkl : k < ns.length := by omega
        have := later h hik (fun hin => hk ⟨hkl, hin⟩) (j - k) (by omega)
        rwa [show k + (j - k) = j by omega] at this
      refine ⟨k, Nat.le_refl _, hkn, hA, hno, ?_, hO⟩
      rw [kidsF_none]
      · simp
      · intro j h1 h2 e
        have := hno j h1 (by omega)
        rw [e] at this
        exact this (chain_self hp (by omega) (by omega))

theorem sub_ok {ns : List Nd} (h : rightTo ns ns.length = true) : ∀ (d i : Nat), i < ns.length → ns.length - i ≤ d → ∃ e, SubOk ns d i e
  | 0, i, hi, hd => by omega
  | d + 1, i, hi, hd => by
    have hp := right_par h
    have hpi := hp i hi
    cases ht : textB (nd ns i) with
    | true =>
      have hop : openTo ns (i + 1) = parAt ns i := by
        show openW ns i = _
        unfold openW
        rw [ht, if_pos rfl]
      have hno : i + 1 < ns.length → (i : Int) ∉ chainL ns (parAt ns (i + 1 : Nat)) := fun hl hin => by
        have h1 := stand_in (i := i) (right_le h (by omega))
        have hp1 := hp (i + 1) hl
        unfold innerN at h1
        rw [ht, if_pos rfl] at h1
        have h2 := chain_sub hp hpi.1 (by omega) h1 _ hin
        have := chain_le hp hpi.1 (by omega) h2
        omega
      refine ⟨i + 1, by omega, by omega, fun j h1 h2 => by omega, fun j h1 h2 => ?_, ?_, ?_⟩
      · have := later h (by omega : i < i + 1) (hno (by omega)) (j - (i + 1)) (by omega)
        rwa [show i + 1 + (j - (i + 1)) = j by omega] at this
      · rw [hop, closeW_same, outTo_succ, List.append_nil]
        unfold nodeW wrF
        rw [ht, if_pos rfl, if_pos rfl]
      · rw [hop]; exact own_about hp hpi.1 (by omega)
    | false =>
      have hkb := kids_bool h hi
      cases hk : kidsB ns i with
      | false =>
        have hkn : kidsN ns i = [] := by
          by_cases e : kidsN ns i = []
          · exact e
          · rw [hkb.2 e] at hk; cases hk
        have hop : openTo ns (i + 1) = parAt ns i := by
          show openW ns i = _
          unfold openW
          rw [ht, hk]; rfl
        have hno : i + 1 < ns.length → (i : Int) ∉ chainL ns (parAt ns (i + 1 : Nat)) := fun hl hin => by
          have hp1 := hp (i + 1) hl
          have := chain_le hp hp1.1 (by omega) hin
          unfold kidsB at hk
          rw [decide_eq_true hl, Bool.true_and, decide_eq_false_iff_not] at hk
          omega
        refine ⟨i + 1, by omega, by omega, fun j h1 h2 => by omega, fun j h1 h2 => ?_, ?_, ?_⟩
        · have := later h (by omega : i < i + 1) (hno (by omega)) (j - (i + 1)) (by omega)
          rwa [show i + 1 + (j - (i + 1)) = j by omega] at this
        · rw [hop, closeW_same, outTo_succ, List.append_nil]
          unfold nodeW wrF
          rw [ht, hk, if_neg (by decide), if_neg (by decide), if_neg (by decide), if_pos hkn]
        · rw [hop]; exact own_about hp hpi.1 (by omega)
      | true =>
        have hkn := hkb.1 hk
        have hop : openTo ns (i + 1) = i := by
          show openW ns i = _
          unfold openW
          rw [ht, hk]; rfl
        have hl : i + 1 < ns.length ∧ parAt ns (i + 1 : Nat) = i := by
          unfold kidsB at hk
          rw [Bool.and_eq_true, decide_eq_true_eq, decide_eq_true_eq] at hk
          exact hk
        have hself : (i : Int) ∈ chainL ns (openTo ns (i + 1)) := by
          rw [hop]; exact chain_self hp (by omega) (by omega)
        obtain ⟨e, g1, g2, g3, g4, g5, g6⟩ := kids_on h (d := d) (i := i) (fun k h1 h2 => sub_ok h d k h2 (by omega)) (ns.length - (i + 1)) (i + 1) (Nat.le_refl _) (by omega) (by omega) (fun j h1 h2 => by omega) (fun _ _ => hl.2) hself
        have hoe := openTo_at hp g2
        refine ⟨e, by omega, g2, g3, g4, ?_, ?_⟩
        · rw [closeW_split hp hoe.1 (by omega) g6 hpi.2, ← List.append_assoc, g5, hop, closeW_same, List.append_nil, closeW_step hp (by omega) (by omega) (by omega), closeW_same, outTo_succ]
          have hkk : kidsN ns i = kidsF ns i (ns.length - (i + 1)) (i + 1) := by
            unfold kidsN
            conv => lhs; rw [show ns.length = (i + 1) + (ns.length - (i + 1)) by omega]
            rw [kidsF_skip (i + 1) _ 0 (fun j _ h2 => by have := hp j (by omega); omega), Nat.zero_add]
          unfold nodeW
          conv => rhs; unfold wrF
          rw [ht, hk]
          simp only [Bool.false_eq_true, if_false, if_true]
          rw [if_neg hkn, hkk, Int.toNat_natCast]
          simp only [List.append_assoc, List.append_nil]
        · rcases own_about hp hpi.1 (by omega) with hq | hq
          · exact .inl hq
          · right
            refine chain_sub hp hoe.1 hoe.2 g6 _ ?_
            rw [chainL_step hp (by omega) (by omega)]
            exact List.mem_cons_of_mem _ hq
theorem root_in {ns : List Nd} (h : rightTo ns ns.length = true) {y : Int} (h0 : 0 ≤ y) (h1 : y < ns.length) : (0 : Int) ∈ chainL ns y := by
  have hp := right_par h
  refine chain_all hp (fun y => 0 ≤ y → (0 : Int) ∈ chainL ns y) ?_ ?_ y (by omega) h1 h0
  · intro hq; omega
  · intro a h0 h1 ih _
    rw [chainL_step hp h0 h1]
    have hpa := hp.at h0 h1
    by_cases e : a = 0
    · rw [e]; exact List.mem_cons_self ..
    · obtain ⟨q, hq⟩ : ∃ q : Nat, a = ((q + 1 : Nat) : Int) := ⟨(a - 1).toNat, by omega⟩
      have h2 := stand_in (i := q) (right_le h (by omega))
      have hb := innerN_bound (Par.le hp (by omega : q + 1 ≤ ns.length))
      have := chain_le hp hb.1 (by omega) h2
      rw [← hq] at this
      exact List.mem_cons_of_mem _ (ih this.1)
/-- node within node, or node by node: the same -/
theorem write_same {ns : List Nd} (h : rightTo ns ns.length = true) (hne : 0 < ns.length) : writeL ns = wrF ns ns.length 0 := by
  have hp := right_par h
  obtain ⟨e, e1, e2, e3, e4, e5, e6⟩ := sub_ok h ns.length 0 hne (by omega)
  have hf := (first_in (right_le h (k := 1) (by omega))).1
  have he : e = ns.length := by
    rcases Nat.lt_or_ge e ns.length with hl | hl
    · exfalso
      obtain ⟨q, rfl⟩ : ∃ q, e = q + 1 := ⟨e - 1, by omega⟩
      have h2 := stand_in (i := q) (right_le h (by omega))
      have hb := innerN_bound (Par.le hp (by omega : q + 1 ≤ ns.length))
      have h3 := chain_le hp hb.1 (by omega) h2
      have hpe := hp (q + 1) hl
      exact e4 (q + 1) (Nat.le_refl _) hl (root_in h h3.1 (by omega))
    · omega
  rw [he] at e5
  rw [hf] at e5
  unfold writeL
  rw [e5]
  show [] ++ closeW ns (-1) (-1) ++ wrF ns ns.length 0 = _
  rw [closeW_same]; rfl
end Nwl
