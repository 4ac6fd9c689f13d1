/-
  Laws of the plain functions of layer 2.
-/
import Derived.Test.YtbpcoiblddhnjaaDoorTkMath
import Derived.Test.YtbpcoiblddhnjaaDoorChAll
namespace Nwl
open Go

theorem cutL_len {sep l a b : List UInt8} (h : cutL sep l = some (a, b)) : b.length + sep.length ≤ l.length ∨ b = [] := by
  unfold cutL at h
  split at h
  · simp only [Option.some.injEq, Prod.mk.injEq] at h
    obtain ⟨_, rfl⟩ := h
    rw [List.length_drop]
    by_cases e : (Lib.index l sep).toNat + sep.length ≤ l.length
    · left; omega
    · right; apply List.drop_eq_nil_of_le; omega
  · cases h
theorem cutL_le {sep l a b : List UInt8} (h : cutL sep l = some (a, b)) : b.length ≤ l.length := by
  rcases cutL_len h with h | rfl
  · omega
  · simp
theorem cutL_fst_le {sep l a b : List UInt8} (h : cutL sep l = some (a, b)) : a.length ≤ l.length := by
  unfold cutL at h
  split at h
  · simp only [Option.some.injEq, Prod.mk.injEq] at h
    obtain ⟨rfl, _⟩ := h
    rw [List.length_take]; omega
  · cases h

theorem entF_fuel : ∀ (n m : Nat) (l : List UInt8), l.length ≤ n → l.length ≤ m → entF n l = entF m l
  | n, m, [], _, _ => by cases n <;> cases m <;> rfl
  | 0, _, _ :: _, h, _ => by simp at h
  | _, 0, _ :: _, _, h => by simp at h
  | n + 1, m + 1, c :: r, hn, hm => by
    simp only [List.length_cons] at hn hm
    simp only [entF]
    split
    · split
      · rfl
      · rename_i b rest hc
        have := cutL_le hc
        split
        · rfl
        · rw [entF_fuel n m rest (by omega) (by omega)]
    · rw [entF_fuel n m r (by omega) (by omega)]
theorem entL_nil : entL [] = some [] := rfl
theorem entL_plain1 (c : UInt8) (r : List UInt8) (h : c ≠ 38) : entL (c :: r) = (entL r).map (c :: ·) := by
  simp only [entL, List.length_cons, entF, if_neg h]
/-- the entity behind its "&" -/
def entAt (r : List UInt8) : Option (List UInt8) :=
  match cutL [59] r with
  | none => none
  | some (b, rest) => match charL b with
    | none => none
    | some v => (entL rest).map (Lib.encodeRune v ++ ·)
theorem entL_amp (r : List UInt8) : entL (38 :: r) = entAt r := by
  simp only [entL, entAt, List.length_cons, entF, if_pos]
  cases hc : cutL [59] r with
  | none => rfl
  | some x =>
    obtain ⟨b, rest⟩ := x
    have := cutL_le hc
    simp only []
    cases charL b with
    | none => rfl
    | some v => simp only []; rw [entF_fuel r.length rest.length rest (by omega) (by omega)]
theorem entL_plain : ∀ (p rest : List UInt8), 38 ∉ p → entL (p ++ rest) = (entL rest).map (p ++ ·)
  | [], rest, _ => by simp
  | c :: p, rest, h => by
    simp only [List.mem_cons, not_or] at h
    rw [List.cons_append, entL_plain1 _ _ (fun e => h.1 e.symm), entL_plain p rest h.2, Option.map_map]
    rfl

theorem isPrefix_one (c : UInt8) (l : List UInt8) : [c].isPrefixOf l = true ↔ l[0]? = some c := by
  cases l with
  | nil => simp
  | cons x r =>
    show ((c == x) && ([] : List UInt8).isPrefixOf r) = true ↔ some x = some c
    rw [List.isPrefixOf, Bool.and_true, beq_iff_eq, Option.some.injEq]
    exact eq_comm
theorem occ_one (l : List UInt8) (c : UInt8) (j : Nat) : Lib.occAt l [c] j = true ↔ l[j]? = some c := by
  unfold Lib.occAt
  rw [isPrefix_one, List.getElem?_drop, Nat.add_zero]
/-- where a byte stands first -/
theorem index_one (l : List UInt8) (c : UInt8) : (Lib.index l [c] = -1 ∧ c ∉ l) ∨ (∃ k : Nat, Lib.index l [c] = k ∧ k < l.length ∧ l = l.take k ++ c :: l.drop (k + 1) ∧ c ∉ l.take k) := by
  rcases Lib.index_spec l [c] with ⟨h, hn⟩ | ⟨k, h, hk, ho, hn⟩
  · refine .inl ⟨h, fun hm => ?_⟩
    obtain ⟨j, hj, e⟩ := List.mem_iff_getElem.1 hm
    have := hn j (by omega)
    rw [(occ_one l c j).2 (by rw [List.getElem?_eq_getElem hj, e])] at this
    cases this
  · have hc := (occ_one l c k).1 ho
    obtain ⟨hlt, e⟩ := List.getElem?_eq_some_iff.1 hc
    refine .inr ⟨k, h, hlt, ?_, fun hm => ?_⟩
    · have := List.take_append_drop k l
      rw [List.drop_eq_getElem_cons hlt, e] at this
      exact this.symm
    · obtain ⟨j, hj, e2⟩ := List.mem_iff_getElem.1 hm
      rw [List.length_take] at hj
      have := hn j (by omega)
      rw [(occ_one l c j).2 (by rw [List.getElem?_eq_getElem (by omega)]; rw [List.getElem_take] at e2; rw [e2])] at this
      cases this
theorem cut_amp_none {l : List UInt8} (h : ¬ 0 ≤ Lib.index l [38]) : entL l = some l := by
  rcases index_one l 38 with ⟨_, hn⟩ | ⟨k, hk, _⟩
  · have := entL_plain l [] hn
    rw [List.append_nil] at this
    rw [this, entL_nil]
    simp
  · omega
theorem cut_amp_some {l : List UInt8} (h : 0 ≤ Lib.index l [38]) : entL l = (entAt (l.drop ((Lib.index l [38]).toNat + 1))).map (l.take (Lib.index l [38]).toNat ++ ·) := by
  rcases index_one l 38 with ⟨h1, _⟩ | ⟨k, hk, hlt, hl, hn⟩
  · omega
  · rw [hk, Int.toNat_natCast]
    conv => lhs; rw [hl]
    rw [entL_plain _ _ hn, entL_amp]

theorem skipL_le (l : List UInt8) : (skipL l).length ≤ l.length := (List.dropWhile_sublist _).length_le
theorem nameP_le (l : List UInt8) : (nameP l).2.length ≤ l.length := by
  unfold nameP
  cases l with
  | nil => simp
  | cons c r =>
    simp only []
    split
    · exact (List.dropWhile_sublist _).length_le
    · simp
theorem nameP_lt {l : List UInt8} (h : (nameP l).1 ≠ []) : (nameP l).2.length < l.length := by
  unfold nameP at *
  cases l with
  | nil => simp at h
  | cons c r =>
    simp only [] at *
    split
    · rename_i hb
      have hw : within8 c = true := begin_within _ hb
      show (List.dropWhile within8 (c :: r)).length < _
      rw [List.dropWhile_cons, if_pos hw, List.length_cons]
      have := (List.dropWhile_sublist (l := r) within8).length_le
      omega
    · rename_i hb
      rw [if_neg hb] at h
      simp at h
theorem valueL_le {l v rest : List UInt8} (h : valueL l = some (v, rest)) : rest.length ≤ l.length := by
  unfold valueL at h
  cases l with
  | nil => cases h
  | cons c r =>
    simp only [] at h
    split at h
    · cases hc : cutL [c] r with
      | none => rw [hc] at h; cases h
      | some x =>
        obtain ⟨raw, rs⟩ := x
        rw [hc] at h
        simp only [] at h
        split at h
        · cases h
        · cases he : entL raw with
          | none => rw [he] at h; simp at h
          | some y =>
            rw [he] at h
            simp only [Option.map_some, Option.some.injEq, Prod.mk.injEq] at h
            have := cutL_le hc
            rw [← h.2, List.length_cons]
            omega
    · cases h
theorem attrL_lt {l rest : List UInt8} {a : List UInt8 × List UInt8} (h : attrL l = some (a, rest)) : rest.length < l.length := by
  unfold attrL at h
  split at h
  · cases h
  · rename_i hn
    have h1 := nameP_lt hn
    have h2 := skipL_le (nameP l).2
    cases hs : skipL (nameP l).2 with
    | nil => rw [hs] at h; cases h
    | cons c r =>
      rw [hs] at h h2
      simp only [List.length_cons] at h h2
      split at h
      · cases hv : valueL (skipL r) with
        | none => rw [hv] at h; cases h
        | some x =>
          obtain ⟨v, rs⟩ := x
          rw [hv] at h
          simp only [Option.map_some, Option.some.injEq, Prod.mk.injEq] at h
          have h3 := valueL_le hv
          have h4 := skipL_le r
          rw [← h.2]
          omega
      · cases h
theorem attrsF_fuel : ∀ (n m : Nat) (acc : List (List UInt8 × List UInt8)) (l : List UInt8), l.length < n → l.length < m → attrsF n acc l = attrsF m acc l
  | 0, _, _, _, h, _ => by omega
  | _, 0, _, _, _, h => by omega
  | n + 1, m + 1, acc, l, hn, hm => by
    simp only [attrsF]
    split
    · rfl
    · split
      · rfl
      · split
        · rfl
        · cases ha : attrL (skipL l) with
          | none => rfl
          | some x =>
            obtain ⟨a, rest⟩ := x
            have h1 := attrL_lt ha
            have h2 := skipL_le l
            simp only []
            split
            · rfl
            · exact attrsF_fuel n m _ rest (by omega) (by omega)
/-- attributes, behind some others -/
def attrsL (acc : List (List UInt8 × List UInt8)) (l : List UInt8) : Option (List (List UInt8 × List UInt8) × Bool × List UInt8) := attrsF (l.length + 1) acc l
theorem attrsL_eq (acc : List (List UInt8 × List UInt8)) (l : List UInt8) : attrsL acc l =
    if Lib.hasPrefix (skipL l) [62] then some (acc, false, (skipL l).drop 1)
    else if Lib.hasPrefix (skipL l) [47, 62] then some (acc, true, (skipL l).drop 2)
    else if (skipL l).length = l.length then none
    else match attrL (skipL l) with
      | none => none
      | some (a, rest) => if (acc.map (·.1)).contains a.1 then none else attrsL (acc ++ [a]) rest := by
  unfold attrsL
  rw [attrsF]
  cases ha : attrL (skipL l) with
  | none => rfl
  | some x =>
    obtain ⟨a, rest⟩ := x
    have h1 := attrL_lt ha
    have h2 := skipL_le l
    simp only []
    rw [attrsF_fuel l.length (rest.length + 1) _ rest (by omega) (by omega)]
theorem attrsF_le : ∀ (n : Nat) (acc : List (List UInt8 × List UInt8)) (l : List UInt8) (a : List (List UInt8 × List UInt8)) (e : Bool) (rest : List UInt8), attrsF n acc l = some (a, e, rest) → rest.length ≤ l.length
  | 0, _, _, _, _, _, h => by cases h
  | n + 1, acc, l, a, e, rest, h => by
    simp only [attrsF] at h
    have h2 := skipL_le l
    split at h
    · simp only [Option.some.injEq, Prod.mk.injEq] at h
      rw [← h.2.2, List.length_drop]; omega
    · split at h
      · simp only [Option.some.injEq, Prod.mk.injEq] at h
        rw [← h.2.2, List.length_drop]; omega
      · split at h
        · cases h
        · cases ha : attrL (skipL l) with
          | none => rw [ha] at h; cases h
          | some x =>
            obtain ⟨b, rs⟩ := x
            rw [ha] at h
            simp only [] at h
            have h1 := attrL_lt ha
            split at h
            · cases h
            · have := attrsF_le n _ rs _ _ _ h
              omega
theorem openL_lt {l rest : List UInt8} {t : Tok} (h : openL l = some (t, rest)) : rest.length < l.length := by
  unfold openL at h
  split at h
  · cases h
  · rename_i hn
    have h1 := nameP_lt hn
    cases ha : attrsF ((nameP l).2.length + 1) [] (nameP l).2 with
    | none => rw [ha] at h; cases h
    | some x =>
      obtain ⟨a, e, rs⟩ := x
      rw [ha] at h
      simp only [Option.map_some, Option.some.injEq, Prod.mk.injEq] at h
      have := attrsF_le _ _ _ _ _ _ ha
      rw [← h.2]; omega
theorem closeL_lt {l rest : List UInt8} {t : Tok} (h : closeL l = some (t, rest)) : rest.length < l.length := by
  unfold closeL at h
  split at h
  · cases h
  · rename_i hn
    have h1 := nameP_lt hn
    have h2 := skipL_le (nameP l).2
    split at h
    · simp only [Option.some.injEq, Prod.mk.injEq] at h
      rw [← h.2, List.length_drop]; omega
    · cases h
theorem prefix_len {p l : List UInt8} (h : Lib.hasPrefix l p = true) : p.length ≤ l.length := by
  unfold Lib.hasPrefix at h
  exact (List.isPrefixOf_iff_prefix.1 h).length_le
theorem cutM_le {sep l : List UInt8} (k : Nat) (f : Nat) {t : Tok} {rest : List UInt8} (h : (cutL sep (l.drop k)).map (fun (x, rest) => ((⟨f, [], x, [], false⟩ : Tok), rest)) = some (t, rest)) (hk : 0 < k) (hl : 0 < l.length) : rest.length < l.length := by
  cases hc : cutL sep (l.drop k) with
  | none => rw [hc] at h; cases h
  | some x =>
    obtain ⟨a, b⟩ := x
    rw [hc] at h
    simp only [Option.map_some, Option.some.injEq, Prod.mk.injEq] at h
    have := cutL_le hc
    rw [List.length_drop] at this
    rw [← h.2]; omega
theorem tokL_lt {first : Bool} {l rest : List UInt8} {t : Tok} (h : tokL first l = some (t, rest)) (hl : 0 < l.length) : rest.length < l.length := by
  unfold tokL at h
  split at h
  · unfold commentL at h
    cases hc : cutL [45, 45, 62] (l.drop 4) with
    | none => rw [hc] at h; cases h
    | some x =>
      obtain ⟨a, b⟩ := x
      rw [hc] at h
      simp only [] at h
      have := cutL_le hc
      rw [List.length_drop] at this
      split at h
      · cases h
      · simp only [Option.some.injEq, Prod.mk.injEq] at h
        rw [← h.2]; omega
  · split at h
    · exact cutM_le 9 3 h (by omega) hl
    · split at h
      · split at h
        · exact cutM_le 2 5 h (by omega) hl
        · cases h
      · split at h
        · have := closeL_lt h
          rw [List.length_drop] at this; omega
        · split at h
          · have := openL_lt h
            rw [List.length_drop] at this; omega
          · rename_i hp
            unfold textL at h
            cases he : entL (l.takeWhile (· != 60)) with
            | none => rw [he] at h; cases h
            | some x =>
              rw [he] at h
              simp only [Option.map_some, Option.some.injEq, Prod.mk.injEq] at h
              rw [← h.2]
              cases l with
              | nil => simp at hl
              | cons c r =>
                have hc : (c != 60) = true := by
                  rw [bne_iff_ne]
                  intro e
                  apply hp
                  subst e
                  simp [Lib.hasPrefix]
                rw [List.dropWhile_cons, if_pos hc, List.length_cons]
                have := (List.dropWhile_sublist (l := r) (· != 60)).length_le
                omega
theorem splitF_fuel : ∀ (n m : Nat) (first : Bool) (l : List UInt8), l.length ≤ n → l.length ≤ m → splitF n first l = splitF m first l
  | n, m, _, [], _, _ => by cases n <;> cases m <;> rfl
  | 0, _, _, _ :: _, h, _ => by simp at h
  | _, 0, _, _ :: _, _, h => by simp at h
  | n + 1, m + 1, first, c :: r, hn, hm => by
    simp only [splitF]
    cases ht : tokL first (c :: r) with
    | none => rfl
    | some x =>
      obtain ⟨t, rest⟩ := x
      have := tokL_lt ht (by simp)
      simp only [List.length_cons] at hn hm this
      simp only []
      rw [splitF_fuel n m false rest (by omega) (by omega)]
/-- tokens, from a place on -/
def splitM (first : Bool) (l : List UInt8) : Option (List Tok) := splitF l.length first l
theorem splitM_nil (first : Bool) : splitM first [] = some [] := rfl
theorem splitM_step {first : Bool} {l : List UInt8} (h : l ≠ []) : splitM first l = match tokL first l with
    | none => none
    | some (t, rest) => (splitM false rest).map (t :: ·) := by
  cases l with
  | nil => exact absurd rfl h
  | cons c r =>
    unfold splitM
    simp only [List.length_cons, splitF]
    cases ht : tokL first (c :: r) with
    | none => rfl
    | some x =>
      obtain ⟨t, rest⟩ := x
      have := tokL_lt ht (by simp)
      simp only [List.length_cons] at this
      simp only []
      rw [splitF_fuel r.length rest.length false rest (by omega) (by omega)]

end Nwl
