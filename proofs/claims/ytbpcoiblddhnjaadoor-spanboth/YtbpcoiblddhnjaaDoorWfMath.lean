/-
  The document's own parts, byte by byte, are the parts.
-/
import Derived.Test.YtbpcoiblddhnjaaDoorWdParts
namespace Nwl
set_option linter.unusedVariables false
/-- the document's step: what is closed, and what is under way -/
def stepR (st : List Pt × Pt) (c : UInt8) : List Pt × Pt :=
  if sep8 c then (st.1 ++ [st.2], ⟨[], c.toNat == 45, false⟩)
  else if !st.2.s.isEmpty && (dig8 (st.2.s.getLastD 0) != dig8 c) then (st.1 ++ [⟨st.2.s, st.2.dash, dig8 c⟩], ⟨[c], true, false⟩)
  else (st.1, ⟨st.2.s ++ [c], st.2.dash, st.2.num⟩)
/-- one part -/
def OneP (s : List UInt8) : Prop := ∀ h x, s = h :: x → ∀ c ∈ s, partQ h c = true
theorem partsD_one (d : Bool) (s T : List UInt8) (hs : OneP s) (hT : ∀ h x, s = h :: x → endsP h T = true) (h0 : s = [] → T = [] ∨ ∃ c T', T = c :: T' ∧ sep8 c = true) : partsD d (s ++ T) = ⟨s, d, digHd T⟩ :: tailP T := by
  cases s with
  | nil =>
    rcases h0 rfl with rfl | ⟨c, T', rfl, hc⟩
    · rfl
    · have hn : partN (c :: T') = 0 := partN_zero hc
      rw [List.nil_append, partsD_step (by rw [hn]; simp), hn]
      rfl
  | cons h x => exact parts_pre d h x T (hs h x rfl) (hT h x rfl)
theorem tailP_sep (c : UInt8) (T : List UInt8) (hc : sep8 c = true) : tailP (c :: T) = partsD (c.toNat == 45) T := by
  show partsD (!(c.toNat == 46)) (if sep8 c then T else c :: T) = _
  rw [if_pos hc]
  congr 1
  unfold sep8 sepI at hc
  simp at hc
  rcases hc with h | h
  · have : c.toNat = 46 := by omega
    rw [this]; rfl
  · have : c.toNat = 45 := by omega
    rw [this]; rfl
theorem tailP_plain (c : UInt8) (T : List UInt8) (hc : sep8 c = false) : tailP (c :: T) = partsD true (c :: T) := by
  show partsD (!(c.toNat == 46)) (if sep8 c then T else c :: T) = _
  rw [if_neg (by rw [hc]; decide)]
  congr 1
  unfold sep8 sepI at hc
  rw [Bool.or_eq_false_iff, beq_eq_false_iff_ne, beq_eq_false_iff_ne] at hc
  have : (c.toNat == 46) = false := by rw [beq_eq_false_iff_ne]; omega
  rw [this]; rfl
theorem getLastD_mem : ∀ (s : List UInt8) (h : s ≠ []), s.getLastD 0 ∈ s
  | [], h => absurd rfl h
  | c :: s, _ => by
    rw [List.getLastD_cons]
    cases s with
    | nil => simp
    | cons x s => exact List.mem_cons_of_mem _ (by rw [List.getLastD_cons, ← List.getLastD_cons (a := 0)]; exact getLastD_mem (x :: s) (by simp))
theorem fold_parts : ∀ (r : List UInt8) (init : List Pt) (s : List UInt8) (d : Bool), OneP s → (r.foldl stepR (init, ⟨s, d, false⟩)).1 ++ [(r.foldl stepR (init, ⟨s, d, false⟩)).2] = init ++ partsD d (s ++ r)
  | [], init, s, d, hs => by
    rw [partsD_one d s [] hs (fun _ _ _ => rfl) (fun _ => .inl rfl)]
    rfl
  | c :: r, init, s, d, hs => by
    rw [List.foldl_cons]
    cases hc : sep8 c with
    | true =>
      have e : stepR (init, ⟨s, d, false⟩) c = (init ++ [⟨s, d, false⟩], ⟨[], c.toNat == 45, false⟩) := by unfold stepR; rw [if_pos hc]
      rw [e, fold_parts r _ [] _ (fun h x e => by cases e)]
      rw [partsD_one d s (c :: r) hs (fun h x _ => by simp [endsP, partQ, hc]) (fun _ => .inr ⟨c, r, rfl, hc⟩), tailP_sep c r hc]
      have hd : digHd (c :: r) = false := by
        show dig8 c = false
        cases h : dig8 c with
        | false => rfl
        | true => rw [dig_sep c h] at hc; cases hc
      rw [hd]
      simp
    | false =>
      cases hq : (!s.isEmpty && (dig8 (s.getLastD 0) != dig8 c)) with
      | true =>
        have e : stepR (init, ⟨s, d, false⟩) c = (init ++ [⟨s, d, dig8 c⟩], ⟨[c], true, false⟩) := by unfold stepR; rw [if_neg (by rw [hc]; decide), if_pos hq]
        simp only [Bool.and_eq_true, Bool.not_eq_true', bne_iff_ne] at hq
        have hne : s ≠ [] := by intro h; rw [h] at hq; simp at hq
        rw [e, fold_parts r _ [c] _ (fun h x e => by
          injection e with e1 e2
          subst e1
          intro y hy
          have : y = c := by simpa using hy
          subst this
          unfold partQ
          rw [hc]; simp)]
        rw [partsD_one d s (c :: r) hs (fun h x hx => by
          have h1 := hs h x hx (s.getLastD 0) (getLastD_mem s hne)
          unfold partQ at h1
          simp only [Bool.and_eq_true, beq_iff_eq] at h1
          have h2 : ¬ dig8 c = dig8 h := fun e => hq.2 (by rw [h1.2, e])
          simp [endsP, partQ, hc, h2]) (fun h => absurd h hne), tailP_plain c r hc]
        simp [digHd]
      | false =>
        have e : stepR (init, ⟨s, d, false⟩) c = (init, ⟨s ++ [c], d, false⟩) := by unfold stepR; rw [if_neg (by rw [hc]; decide), if_neg (by rw [hq]; decide)]
        rw [e, fold_parts r _ (s ++ [c]) _ ?_]
        · simp
        · intro h x hx y hy
          cases s with
          | nil =>
            injection hx with e1 e2
            subst e1
            have : y = c := by simpa using hy
            subst this
            unfold partQ
            rw [hc]; simp
          | cons a s =>
            injection hx with e1 e2
            subst e1
            rcases List.mem_append.1 hy with hy | hy
            · exact hs a s rfl y hy
            · have : y = c := by simpa using hy
              subst this
              have h1 := hs a s rfl ((a :: s).getLastD 0) (getLastD_mem (a :: s) (by simp))
              unfold partQ at h1
              simp only [Bool.and_eq_true, beq_iff_eq] at h1
              have h2 : dig8 ((a :: s).getLastD 0) = dig8 y := by simpa using hq
              unfold partQ
              rw [hc, ← h2, h1.2]; simp
/-- the document's parts so far -/
def stR (l : List UInt8) : List Pt × Pt := l.foldl stepR ([], ⟨[], false, false⟩)
theorem stR_parts (l : List UInt8) : (stR l).1 ++ [(stR l).2] = partsL l := by
  have := fold_parts l [] [] false (fun h x e => by cases e)
  unfold stR partsL
  simpa using this
theorem stR_snoc (l : List UInt8) (c : UInt8) : stR (l ++ [c]) = stepR (stR l) c := by
  unfold stR
  rw [List.foldl_append]
  rfl
theorem stR_len : ∀ (l : List UInt8), (stR l).1.length ≤ l.length ∧ (stR l).2.s.length ≤ l.length := by
  have h : ∀ (l : List UInt8) (st : List Pt × Pt), (l.foldl stepR st).1.length ≤ st.1.length + l.length ∧ (l.foldl stepR st).2.s.length ≤ st.2.s.length + l.length := by
    intro l
    induction l with
    | nil => intro st; exact ⟨Nat.le_refl _, Nat.le_refl _⟩
    | cons c l ih =>
      intro st
      obtain ⟨h1, h2⟩ := ih (stepR st c)
      have h3 : (stepR st c).1.length ≤ st.1.length + 1 ∧ (stepR st c).2.s.length ≤ st.2.s.length + 1 := by
        unfold stepR
        split
        · simp
        · split <;> simp
      rw [List.foldl_cons, List.length_cons]
      omega
  intro l
  have := h l ([], ⟨[], false, false⟩)
  unfold stR
  simpa using this
theorem stR_num (l : List UInt8) : (stR l).2.num = false := by
  have h : ∀ (l : List UInt8) (st : List Pt × Pt), st.2.num = false → (l.foldl stepR st).2.num = false := by
    intro l
    induction l with
    | nil => intro st h; exact h
    | cons c l ih =>
      intro st h
      rw [List.foldl_cons]
      apply ih
      unfold stepR
      split
      · rfl
      · split
        · rfl
        · exact h
  exact h l _ rfl
end Nwl
