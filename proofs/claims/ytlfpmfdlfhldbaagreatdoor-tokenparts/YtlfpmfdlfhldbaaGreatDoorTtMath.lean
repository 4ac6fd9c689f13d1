/-
  Plain facts: no token has more attributes than its text has bytes.
-/
import Derived.Test.YtlfpmfdlfhldbaaGreatDoorTkOpenM
namespace Nwl
open Go
theorem attrsF_len : ∀ (n : Nat) (acc : List (List UInt8 × List UInt8)) (l : List UInt8) (a : List (List UInt8 × List UInt8)) (e : Bool) (rest : List UInt8), attrsF n acc l = some (a, e, rest) → a.length ≤ acc.length + l.length
  | 0, _, _, _, _, _, h => by cases h
  | n + 1, acc, l, a, e, rest, h => by
    rw [attrsF] at h
    split at h
    · simp only [Option.some.injEq, Prod.mk.injEq] at h
      rw [← h.1]; omega
    · split at h
      · simp only [Option.some.injEq, Prod.mk.injEq] at h
        rw [← h.1]; omega
      · split at h
        · cases h
        · cases ha : attrL (skipL l) with
          | none => rw [ha] at h; cases h
          | some x =>
            obtain ⟨a1, r⟩ := x
            rw [ha] at h
            simp only [] at h
            have h1 := attrL_lt ha
            have h2 := skipL_le l
            split at h
            · cases h
            · have := attrsF_len n _ _ _ _ _ h
              rw [List.length_append, List.length_singleton] at this
              omega
theorem map_none {α : Type} {x : Option α} {f : α → Tok × List UInt8} {t : Tok} {rest : List UInt8} (hf : ∀ a, (f a).1.attrs = []) (h : x.map f = some (t, rest)) : t.attrs = [] := by
  cases x with
  | none => cases h
  | some a =>
    simp only [Option.map_some, Option.some.injEq] at h
    have := hf a
    rw [h] at this
    exact this
theorem tokL_attrs {first : Bool} {l rest : List UInt8} {t : Tok} (h : tokL first l = some (t, rest)) : t.attrs.length ≤ l.length := by
  have nil : t.attrs = [] → t.attrs.length ≤ l.length := fun e => by rw [e]; exact Nat.zero_le _
  unfold tokL at h
  split at h
  · unfold commentL at h
    split at h
    · cases h
    · split at h
      · cases h
      · simp only [Option.some.injEq, Prod.mk.injEq] at h
        exact nil (by rw [← h.1])
  · split at h
    · exact nil (map_none (fun a => rfl) h)
    · split at h
      · split at h
        · exact nil (map_none (fun a => rfl) h)
        · cases h
      · split at h
        · unfold closeL at h
          split at h
          · cases h
          · split at h
            · simp only [Option.some.injEq, Prod.mk.injEq] at h
              exact nil (by rw [← h.1])
            · cases h
        · split at h
          · unfold openL at h
            split at h
            · cases h
            · cases ha : attrsF ((nameP (l.drop 1)).2.length + 1) [] (nameP (l.drop 1)).2 with
              | none => rw [ha] at h; cases h
              | some x =>
                obtain ⟨a, e, r⟩ := x
                rw [ha] at h
                simp only [Option.map_some, Option.some.injEq, Prod.mk.injEq] at h
                have h1 := attrsF_len _ _ _ _ _ _ ha
                have h2 := nameP_le (l.drop 1)
                rw [List.length_drop] at h2
                rw [← h.1]
                rw [List.length_nil, Nat.zero_add] at h1
                show a.length ≤ _
                omega
          · unfold textL at h
            exact nil (map_none (fun a => rfl) h)
theorem splitF_attrs : ∀ (n : Nat) (first : Bool) (l : List UInt8) (ts : List Tok), splitF n first l = some ts → ∀ t ∈ ts, t.attrs.length ≤ l.length
  | _, _, [], ts, h => by
    have : ts = [] := by
      unfold splitF at h
      simp at h
      exact h
    rw [this]; intro t ht; simp at ht
  | 0, _, _ :: _, ts, h => by cases h
  | n + 1, first, c :: r, ts, h => by
    rw [splitF] at h
    cases ht : tokL first (c :: r) with
    | none => rw [ht] at h; cases h
    | some x =>
      obtain ⟨t1, rest⟩ := x
      rw [ht] at h
      simp only [] at h
      cases hs : splitF n false rest with
      | none => rw [hs] at h; cases h
      | some t2 =>
        rw [hs] at h
        simp only [Option.map_some, Option.some.injEq] at h
        subst h
        have h1 := tokL_attrs ht
        have h2 := tokL_lt ht (by simp)
        intro t hm
        rcases List.mem_cons.1 hm with rfl | hm
        · exact h1
        · have := splitF_attrs n false rest t2 hs t hm
          omega
theorem splitL_attrs {l : List UInt8} {ts : List Tok} (h : splitL l = some ts) : ∀ t ∈ ts, t.attrs.length ≤ l.length := splitF_attrs _ _ _ _ h
theorem splitF_len : ∀ (n : Nat) (first : Bool) (l : List UInt8) (ts : List Tok), splitF n first l = some ts → ts.length ≤ l.length
  | _, _, [], ts, h => by
    have : ts = [] := by
      unfold splitF at h
      simp at h
      exact h
    rw [this]; exact Nat.le_refl _
  | 0, _, _ :: _, ts, h => by cases h
  | n + 1, first, c :: r, ts, h => by
    rw [splitF] at h
    cases ht : tokL first (c :: r) with
    | none => rw [ht] at h; cases h
    | some x =>
      obtain ⟨t1, rest⟩ := x
      rw [ht] at h
      simp only [] at h
      cases hs : splitF n false rest with
      | none => rw [hs] at h; cases h
      | some t2 =>
        rw [hs] at h
        simp only [Option.map_some, Option.some.injEq] at h
        subst h
        have h2 := tokL_lt ht (by simp)
        have := splitF_len n false rest t2 hs
        rw [List.length_cons, List.length_cons] at *
        omega
end Nwl
