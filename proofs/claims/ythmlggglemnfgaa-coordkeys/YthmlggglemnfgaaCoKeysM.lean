/-
  Plain facts on keys (layer 9): which dependencies have one key.
-/
import Derived.Test.YthmlggglemnfgaaCoKey
namespace Nwl
theorem id_same : ∀ (a b x y : List UInt8), (∀ c ∈ a, c ≠ 58) → (∀ c ∈ b, c ≠ 58) → a ++ 58 :: x = b ++ 58 :: y → a = b ∧ x = y
  | [], [], x, y, _, _, h => by
    rw [List.nil_append, List.nil_append] at h
    injection h with _ h2
    exact ⟨rfl, h2⟩
  | [], b :: br, x, y, _, hb, h => by
    rw [List.nil_append, List.cons_append] at h
    injection h with h1 _
    exact absurd h1.symm (hb b (List.mem_cons_self ..))
  | a :: ar, [], x, y, ha, _, h => by
    rw [List.nil_append, List.cons_append] at h
    injection h with h1 _
    exact absurd h1 (ha a (List.mem_cons_self ..))
  | a :: ar, b :: br, x, y, ha, hb, h => by
    rw [List.cons_append, List.cons_append] at h
    injection h with h1 h2
    obtain ⟨q1, q2⟩ := id_same ar br x y (fun c hc => ha c (List.mem_cons_of_mem _ hc)) (fun c hc => hb c (List.mem_cons_of_mem _ hc)) h2
    exact ⟨by rw [h1, q1], q2⟩
def idE (l : List UInt8) : Bool := decide (l = []) || idL l
theorem idE_col {l : List UInt8} (h : idE l = true) : ∀ x ∈ l, x ≠ 58 := by
  unfold idE at h
  rw [Bool.or_eq_true, decide_eq_true_eq] at h
  rcases h with h | h
  · rw [h]; intro x hx; simp at hx
  · exact id_col h
theorem idL_len {l : List UInt8} (h : idL l = true) : l.length ≤ 500 := by
  unfold idL at h
  rw [Bool.and_eq_true, Bool.and_eq_true, decide_eq_true_eq, decide_eq_true_eq] at h
  exact h.2.1
theorem idE_len {l : List UInt8} (h : idE l = true) : l.length ≤ 500 := by
  unfold idE at h
  rw [Bool.or_eq_true, decide_eq_true_eq] at h
  rcases h with h | h
  · rw [h]; simp
  · exact idL_len h
theorem type_col {l : List UInt8} (h : idE l = true) : ∀ x ∈ typeL l, x ≠ 58 := by
  unfold typeL
  split
  · decide
  · exact idE_col h
/-- are these ids? -/
def okD (g n t c : List UInt8) : Bool := idL g && (idL n && (idE t && idE c))
theorem key_one {g n t c g' n' t' c' : List UInt8} (h : okD g n t c = true) (h' : okD g' n' t' c' = true) : (keyL g n t c = keyL g' n' t' c') ↔ (g = g' ∧ n = n' ∧ typeL t = typeL t' ∧ c = c') := by
  unfold okD at h h'
  rw [Bool.and_eq_true, Bool.and_eq_true, Bool.and_eq_true] at h h'
  obtain ⟨h1, h2, h3, h4⟩ := h
  obtain ⟨k1, k2, k3, k4⟩ := h'
  constructor
  · intro e
    unfold keyL at e
    rw [List.append_assoc, List.append_assoc, List.append_assoc, List.append_assoc, List.append_assoc, List.append_assoc, List.append_assoc, List.append_assoc, List.append_assoc, List.append_assoc] at e
    obtain ⟨e1, e2⟩ := id_same g g' _ _ (id_col h1) (id_col k1) e
    obtain ⟨e3, e4⟩ := id_same n n' _ _ (id_col h2) (id_col k2) e2
    obtain ⟨e5, e6⟩ := id_same _ _ _ _ (type_col h3) (type_col k3) e4
    exact ⟨e1, e3, e5, e6⟩
  · rintro ⟨rfl, rfl, e, rfl⟩
    unfold keyL
    rw [e]
end Nwl
