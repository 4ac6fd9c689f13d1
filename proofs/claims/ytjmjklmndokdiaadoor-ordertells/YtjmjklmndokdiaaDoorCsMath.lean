/-
  Plain facts on which of some versions counts (layer 8), and on a sort that puts one in its place after the other: nothing of the program.
-/
import Derived.Test.YtjmjklmndokdiaaDoorSpMath
namespace Nwl
open Go
set_option linter.unusedSimpArgs false
set_option linter.unusedVariables false

/-- those of some versions that are held -/
def heldL (r : List Sp) (l : List (List UInt8)) : List (List UInt8) := l.filter fun x => holdsB r x
theorem held_step {r : List Sp} {l : List (List UInt8)} {k : Nat} (hk : k < l.length) : heldL r (l.take (k + 1)) = if holdsB r l[k] then heldL r (l.take k) ++ [l[k]] else heldL r (l.take k) := by
  unfold heldL
  rw [← List.take_append_getElem hk, List.filter_append]
  by_cases h : holdsB r l[k] = true
  · rw [if_pos h]
    simp [h]
  · rw [if_neg h]
    simp [h]
theorem held_mem {r : List Sp} {l : List (List UInt8)} {x : List UInt8} (h : x ∈ heldL r l) : x ∈ l ∧ holdsB r x = true := List.mem_filter.1 h
/-- the greatest of any -/
def greatO : List (List UInt8) → Option (List UInt8)
  | [] => none
  | y :: t => some (greatV y t)
def highO (l : List (List UInt8)) (r : List Sp) : Option (List UInt8) := greatO (heldL r l)
theorem greatO_last (l : List (List UInt8)) : greatO l = (sortV l).getLast? := by
  cases l with
  | nil => simp [greatO, sortV]
  | cons y t =>
    have hne : sortV (y :: t) ≠ [] := by
      intro h
      have := sortV_len (y :: t)
      rw [h] at this
      simp at this
    rw [List.getLast?_eq_some_getLast hne, great_last y t hne]
    rfl
theorem greatO_perm {l l' : List (List UInt8)} (h : l.Perm l') : greatO l = greatO l' := by
  rw [greatO_last, greatO_last, sortV_of_perm l l' h]
theorem highO_perm {l l' : List (List UInt8)} (r : List Sp) (h : l.Perm l') : highO l r = highO l' r := greatO_perm (h.filter _)
theorem greatO_spec {l : List (List UInt8)} {v : List UInt8} (h : greatO l = some v) : v ∈ l ∧ ∀ x ∈ l, leV x v = true := by
  cases l with
  | nil => cases h
  | cons y t =>
    injection h with h
    obtain ⟨h1, h2, h3⟩ := greatV_spec t y
    rw [h] at h1 h2 h3
    refine ⟨?_, fun x hx => ?_⟩
    · rcases h1 with h1 | h1
      · rw [h1]; exact List.mem_cons_self
      · exact List.mem_cons_of_mem _ h1
    · rcases List.mem_cons.1 hx with rfl | hx
      · exact h2
      · exact h3 x hx
theorem greatO_none {l : List (List UInt8)} (h : greatO l = none) : l = [] := by
  cases l with
  | nil => rfl
  | cons y t => cases h
/-- what is picked, and the reason for nothing -/
def pickV (l : List (List UInt8)) (w : List UInt8) : List UInt8 × Int :=
  if isR w then (match parseL w with
    | none => ([], 12)
    | some r => match highO l r with
      | none => ([], 13)
      | some v => (v, 0))
  else if rightV w then (w, 0) else ([], 11)
theorem pickV_perm {l l' : List (List UInt8)} (w : List UInt8) (h : l.Perm l') : pickV l w = pickV l' w := by
  have e : ∀ r, highO l r = highO l' r := fun r => highO_perm r h
  unfold pickV
  simp only [e]
theorem cmp_of_le {a b : List UInt8} (h : leV a b = true) : cmpV a b ≤ 0 := by
  unfold leV ordV thenI at h
  rw [decide_eq_true_eq] at h
  split at h <;> omega

/-- one more, put in its place -/
def putAt (o : List (List UInt8)) (k : Nat) (x : List UInt8) : List (List UInt8) := o.take k ++ x :: o.drop k
theorem putAt_len (o : List (List UInt8)) (k : Nat) (x : List UInt8) : (putAt o k x).length = o.length + 1 := by
  unfold putAt
  rw [List.length_append, List.length_cons, ← Nat.add_assoc, ← List.length_append, List.take_append_drop]
theorem putAt_perm (o : List (List UInt8)) (k : Nat) (x : List UInt8) : (putAt o k x).Perm (o ++ [x]) := by
  unfold putAt
  refine List.perm_middle.trans ?_
  rw [List.take_append_drop]
  exact (List.perm_append_singleton x o).symm
theorem le_of_lt {a b : List UInt8} (h : ordV a b < 0) : leV a b = true := by
  unfold leV
  rw [decide_eq_true_eq]
  omega
theorem le_of_not {a b : List UInt8} (h : ¬ ordV a b < 0) : leV b a = true := by
  unfold leV
  rw [decide_eq_true_eq]
  have := ord_o.anti a b
  omega
theorem put_sorted (o : List (List UInt8)) (x : List UInt8) (k : Nat) (hs : o.Pairwise (fun a b => leV a b = true)) (hk : k ≤ o.length)
    (hb : ∀ j (hj : j < o.length), k ≤ j → ordV x o[j] < 0) (ha : ∀ (h : 0 < k), ¬ ordV x (o[k - 1]'(by omega)) < 0) : (putAt o k x).Pairwise (fun a b => leV a b = true) := by
  unfold putAt
  rw [List.pairwise_append, List.pairwise_cons]
  refine ⟨hs.sublist (List.take_sublist k o), ⟨?_, hs.sublist (List.drop_sublist k o)⟩, ?_⟩
  · intro b h
    obtain ⟨j, hj, rfl⟩ := List.mem_iff_getElem.1 h
    rw [List.getElem_drop]
    rw [List.length_drop] at hj
    exact le_of_lt (hb _ (by omega) (by omega))
  · intro a h b h'
    obtain ⟨i, hi, rfl⟩ := List.mem_iff_getElem.1 h
    rw [List.length_take] at hi
    have hik : i < k := by omega
    rw [List.getElem_take]
    have hx : leV (o[i]'(by omega)) x = true := by
      have h1 := le_of_not (ha (by omega))
      by_cases e : i = k - 1
      · subst e; exact h1
      · exact leV_trans _ _ _ (List.pairwise_iff_getElem.1 hs i (k - 1) (by omega) (by omega) (by omega)) h1
    rcases List.mem_cons.1 h' with rfl | h'
    · exact hx
    · obtain ⟨j, hj, rfl⟩ := List.mem_iff_getElem.1 h'
      rw [List.getElem_drop]
      rw [List.length_drop] at hj
      exact leV_trans _ _ _ hx (le_of_lt (hb _ (by omega) (by omega)))
theorem put_sort (l : List (List UInt8)) (i k : Nat) (hi : i < l.length) (x : List UInt8) (hx : l[i] = x) (o : List (List UInt8)) (ho : sortV (l.take i) = o) (hk : k ≤ o.length)
    (hb : ∀ j (hj : j < o.length), k ≤ j → ordV x o[j] < 0) (ha : ∀ (h : 0 < k), ¬ ordV x (o[k - 1]'(by omega)) < 0) : sortV (l.take (i + 1)) = putAt o k x := by
  subst ho
  refine (sortV_one _ _ ?_ (put_sorted _ x k (sortV_sorted _) hk hb ha)).symm
  refine (putAt_perm _ _ _).trans ?_
  rw [← List.take_append_getElem hi, hx]
  exact (sortV_perm _).append_right _
end Nwl
