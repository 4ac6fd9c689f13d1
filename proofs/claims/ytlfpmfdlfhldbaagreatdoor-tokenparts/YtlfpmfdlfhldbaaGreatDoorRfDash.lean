/-
  The document's own answers (layer 2): what a comment may hold.
-/
import Derived.Test.YtlfpmfdlfhldbaaGreatDoorRfTok
namespace Nwl
open Go
theorem index_pos (a : UInt8) (l sub : List UInt8) (h : ¬ sub.isPrefixOf (a :: l) = true) : 0 ≤ Lib.index (a :: l) sub ↔ 0 ≤ Lib.index l sub := by
  have hg := Lib.index_ge l sub
  have e : Lib.index (a :: l) sub = if Lib.index l sub == -1 then -1 else Lib.index l sub + 1 := by rw [Lib.index, if_neg h]
  rw [e]
  by_cases hq : Lib.index l sub = -1
  · rw [hq]; decide
  · rw [if_neg (by simpa using hq)]; omega
theorem dash_end : ∀ x : List UInt8, (0 ≤ Lib.index (x ++ [45]) [45, 45]) ↔ (0 ≤ Lib.index x [45, 45] ∨ x.getLast? = some 45)
  | [] => by decide
  | [a] => by
    by_cases h : a = 45
    · subst h; decide
    · have h' : ¬ 45 = a := fun e => h e.symm
      simp [Lib.index, List.isPrefixOf, h, h']
  | a :: b :: r => by
    have ih := dash_end (b :: r)
    by_cases hp : [45, 45].isPrefixOf (a :: b :: r) = true
    · have hp2 : [45, 45].isPrefixOf (a :: b :: (r ++ [45])) = true := by simpa [List.isPrefixOf] using hp
      have e1 : Lib.index (a :: b :: r) [45, 45] = 0 := Lib.index_first (i := 0) (Nat.zero_le _) hp (fun j hj => absurd hj (Nat.not_lt_zero j))
      have e2 : Lib.index ((a :: b :: r) ++ [45]) [45, 45] = 0 := Lib.index_first (i := 0) (Nat.zero_le _) hp2 (fun j hj => absurd hj (Nat.not_lt_zero j))
      rw [e1, e2]; simp
    · have hp2 : ¬ [45, 45].isPrefixOf (a :: b :: (r ++ [45])) = true := by simpa [List.isPrefixOf] using hp
      rw [index_pos _ _ _ hp, List.getLast?_cons_cons]
      exact (index_pos a (b :: (r ++ [45])) _ hp2).trans ih
theorem dash_find (x : List UInt8) : (0 ≤ findI x [45, 45] 0) ↔ 0 ≤ Lib.index x [45, 45] := by
  unfold findI
  rw [List.drop_zero]
  split <;> omega
theorem dash_has (x : List UInt8) : Lib.contains (x ++ [45]) [45, 45] = true ↔ (0 ≤ findI x [45, 45] 0 ∨ x.getLast? = some 45) := by
  rw [dash_find, ← dash_end]
  unfold Lib.contains
  simp
theorem last_of (v : ByteArray) (n : Nat) (h : v.size = n + 1) : (bs v).getLast? = some (v[n]'(by omega)) := by
  have hl : (bs v)[n]? = some (v[n]'(by omega)) := by rw [List.getElem?_eq_getElem (by rw [bs_length]; omega)]; rfl
  rw [List.getLast?_eq_getElem?, bs_length, show v.size - 1 = n by omega]
  exact hl
theorem comment_bad {l x rest : List UInt8} (hc : cutL [45, 45, 62] l = some (x, rest)) (h : Lib.contains (x ++ [45]) [45, 45] = true) : commentL l = none := by
  unfold commentL; rw [hc]; simp only [h, if_true]
theorem comment_good {l x rest : List UInt8} (hc : cutL [45, 45, 62] l = some (x, rest)) (h : ¬ Lib.contains (x ++ [45]) [45, 45] = true) : commentL l = some (⟨4, [], x, [], false⟩, rest) := by
  rw [Bool.not_eq_true] at h
  unfold commentL; rw [hc]; simp only [h]; rfl
end Nwl
