/-
  Texts as an argument, their copy, and two of them swapped.
-/
import Derived.Test.YtjmjklmndokdiaaDoorGnStrO
import Derived.Test.YtjmjklmndokdiaaDoorGnInts
import Derived.SliceStrings
namespace Go.Proofs.YtjmjklmndokdiaaDoor
open Nwl
open Go.ChangeShapes Go.WideShapes Go.ChangeAt Go.RowKit
set_option linter.unusedVariables false
theorem strs_arg {H : Type} {enc : TypeId × Value → H} {P : Program} {W : World} {base : Nat} {t e : TypeId} {v : Value} {d : DataW H} {p : List MemPlace}
    (ht : P.underlying t = some (.slice e)) (he : P.underlying e = some .string) (hc : P.cellsOf e = 1) (hv : Value.okWide P W .any base t v)
    (h : DataW.Trod enc P W 0 (fun _ => true) true t v d p) :
    ∃ (A : Option Addr) (n c : Nat), v = .slice A n c ∧ n ≤ maxLen ∧ (A = none → n = 0 ∧ c = 0) ∧ ∃ l : List (List UInt8), StrR W.heap.size W A n l ∧ ∀ x ∈ l, x.length ≤ maxLen := by
  obtain ⟨A, n, c, rfl⟩ := okWide_slice ht hv
  obtain ⟨f, hf⟩ := h
  rcases open_strings ht he hc hf with ⟨hcs, hx⟩ | ⟨a, len, cap, ss, hcs, _, hle, hm, hall, hx, hcell, hwf⟩
  · simp [Value.cells] at hcs
    obtain ⟨rfl, rfl, rfl⟩ := hcs
    exact ⟨none, 0, 0, rfl, Nat.zero_le _, fun _ => ⟨rfl, rfl⟩, [], ⟨rfl, fun j hj => by simp at hj⟩, fun x hx => by simp at hx⟩
  · simp [Value.cells] at hcs
    obtain ⟨rfl, rfl, rfl⟩ := hcs
    simp only [if_true] at hall
    refine ⟨some a, n, c, rfl, by omega, (fun e => by cases e), (ss.take n).map bs, ⟨by simp; omega, fun j hj => ?_⟩, fun x hx => ?_⟩
    · simp at hj
      have hj2 : j < ss.length := by omega
      have hc0 := hcell 0 (by omega)
      have hcj := hcell j hj2
      obtain ⟨b, o, sp⟩ := a
      have hsp : sp = none := by
        cases sp with
        | none => rfl
        | some s =>
          exfalso
          simp [World.cell?, Addr.add] at hc0
          split at hc0 <;> cases hc0
      subst hsp
      refine ⟨b, o, rfl, cell_lt hc0, ?_⟩
      rw [List.getElem_map, List.getElem_take, tx_bs]
      rw [List.getD_eq_getElem?_getD, List.getElem?_eq_getElem hj2] at hcj
      rw [Addr.add_lit] at hcj
      exact hcj
    · obtain ⟨s, hs, rfl⟩ := List.mem_map.1 hx
      rw [bs_length]
      exact hwf s (List.mem_of_mem_take hs)

/-- texts in a block of their own -/
def StrM (B : Nat) (w : World) (A : Option Addr) (n : Nat) (l : List (List UInt8)) : Prop := n = l.length ∧ (l = [] ∨ ∃ g cs, A = some ⟨g, 0, none⟩ ∧ B ≤ g ∧ Blk w g 9 cs ∧ l.length ≤ cs.size ∧ ∀ j (hj : j < l.length), cs[j]? = some (.string (tx l[j])))
theorem StrM.r {B : Nat} {w : World} {A : Option Addr} {n : Nat} {l : List (List UInt8)} (h : StrM B w A n l) : StrR w.heap.size w A n l := by
  refine ⟨h.1, fun j hj => ?_⟩
  rcases h.2 with rfl | ⟨g, cs, hA, hg, hb, hs, hc⟩
  · simp at hj
  · exact ⟨g, 0, hA, hb.lt, by rw [hb.cell, Nat.zero_add]; exact hc j hj⟩
theorem StrM.below {B : Nat} {w w' : World} {A : Option Addr} {n : Nat} {l : List (List UInt8)} (h : StrM B w A n l) (hb : Below w.heap.size w w') : StrM B w' A n l := by
  refine ⟨h.1, ?_⟩
  rcases h.2 with rfl | ⟨g, cs, hA, hg, hb2, hs, hc⟩
  · exact .inl rfl
  · exact .inr ⟨g, cs, hA, hg, hb2.below hb, hs, hc⟩
set_option maxRecDepth 100000 in
theorem str_copy {W : World} {A : Option Addr} {n c : Nat} {l : List (List UInt8)} (h : StrR W.heap.size W A n l) (hA : A = none → n = 0 ∧ c = 0) (hn : n ≤ 1000) :
    ∃ (A2 : Option Addr) (c2 : Nat) (W' : World), (Builtin.append_ #[23, 23] 23 #[.slice none 0 0, .slice A n c]).run Tryd.prog W = .ok (.slice A2 n c2) W' ∧ StrM W.heap.size W' A2 n l ∧ Below W.heap.size W W' := by
  obtain ⟨i0, hi, hz0, hz1, hz2⟩ := info_parts2 info_st
  cases A with
  | none =>
    obtain ⟨rfl, rfl⟩ := hA rfl
    have hl : l = [] := List.eq_nil_of_length_eq_zero h.1.symm
    exact ⟨none, 0, W, run_append_owned_none W W.heap.size 23 23 9 i0 1 Tryd.underlying23 hi _ 0 [] (World.ownsRow_nil _ _ _ _), ⟨h.1, .inl hl⟩, Below.refl _ _⟩
  | some a =>
    obtain ⟨v', W', hr, hown, hg, _⟩ := run_append_own (P := Tryd.prog) W W.heap.size 23 23 9 i0 _ 1 16 Tryd.underlying23 hi hz0 hz1 hz2 rfl (by decide) _ 0 [] (World.ownsRow_nil _ _ _ _) a n c (l.map fun x => .string (tx x)) (by rw [List.length_map, Nat.mul_one]; exact h.1.symm) (fun j u hu => by
      rw [List.getElem?_map] at hu
      have hj : j < l.length := by
        rcases Nat.lt_or_ge j l.length with h' | h'
        · exact h'
        · rw [List.getElem?_eq_none h'] at hu; cases hu
      rw [List.getElem?_eq_getElem hj] at hu
      injection hu with hu
      obtain ⟨g, o, e, _, hc⟩ := h.2 j hj
      injection e with e
      subst e hu
      rw [Addr.add_lit]
      exact hc) (str_one l) (by unfold maxLen; omega) (by omega) (Nat.le_refl _)
    rw [Nat.zero_add, List.nil_append] at hown
    have hbel : Below W.heap.size W W' := ⟨hg.os, hg.tape, hg.output, hg.size, fun k hk => hg.block k hk (by simp [Value.ownBlock])⟩
    obtain ⟨hlen, h2⟩ := hown
    rcases h2 with ⟨rfl, h0⟩ | ⟨g, cap, cur, rfl, hgb, hh, hc, hm, hs, ht⟩
    · subst h0
      exact ⟨none, 0, W', hr, ⟨h.1, .inl (List.eq_nil_of_length_eq_zero h.1.symm)⟩, hbel⟩
    · refine ⟨some ⟨g, 0, none⟩, cap, W', hr, ⟨h.1, .inr ⟨g, cur, rfl, hgb, hh, by have := h.1; omega, fun j hj => ?_⟩⟩, hbel⟩
      have hn' := h.1
      rw [Nat.mul_one] at ht
      have e := congrArg (fun q : List Value => q[j]?) ht
      simp only [List.getElem?_map, List.getElem?_eq_getElem hj, List.getElem?_take, Array.getElem?_toList] at e
      rw [if_pos (by omega)] at e
      exact e
/-- two swapped -/
def swapL (l : List (List UInt8)) (i k : Nat) (hi : i < l.length) (hk : k < l.length) : List (List UInt8) := (l.toArray.swap i k (by simpa using hi) (by simpa using hk)).toList
theorem swapL_len (l : List (List UInt8)) (i k : Nat) (hi : i < l.length) (hk : k < l.length) : (swapL l i k hi hk).length = l.length := by simp [swapL]
theorem swapL_perm (l : List (List UInt8)) (i k : Nat) (hi : i < l.length) (hk : k < l.length) : (swapL l i k hi hk).Perm l := by
  have := Array.swap_perm (xs := l.toArray) (i := i) (j := k) (by simpa using hi) (by simpa using hk)
  exact (Array.perm_iff_toList_perm.1 this)
theorem swapL_get (l : List (List UInt8)) (i k : Nat) (hi : i < l.length) (hk : k < l.length) (j : Nat) (hj : j < l.length) : (swapL l i k hi hk)[j]'(by rw [swapL_len]; exact hj) = if j = i then l[k] else if j = k then l[i] else l[j] := by
  simp only [swapL, Array.getElem_toList, Array.getElem_swap, List.getElem_toArray]
theorem StrM.swap {B : Nat} {w : World} {g n i k : Nat} {l : List (List UInt8)} (h : StrM B w (some ⟨g, 0, none⟩) n l) (hi : i < l.length) (hk : k < l.length) : StrM B ((w.setCell ⟨g, i, none⟩ (.string (tx l[k]))).setCell ⟨g, k, none⟩ (.string (tx l[i]))) (some ⟨g, 0, none⟩) n (swapL l i k hi hk) := by
  refine ⟨by rw [swapL_len]; exact h.1, ?_⟩
  rcases h.2 with rfl | ⟨g', cs, hA, hg, hb2, hs, hc⟩
  · simp at hi
  · injection hA with hA
    injection hA with hA
    subst hA
    refine .inr ⟨g, _, rfl, hg, (hb2.set _ _).set _ _, by rw [swapL_len]; simpa using hs, fun j hj => ?_⟩
    have hj' : j < l.length := by rw [swapL_len] at hj; exact hj
    rw [swapL_get l i k hi hk j hj']
    simp only [Array.getElem?_setIfInBounds, Array.size_setIfInBounds]
    by_cases e1 : k = j
    · subst e1
      rw [if_pos rfl, if_pos (by omega)]
      by_cases e2 : k = i
      · subst e2; rw [if_pos rfl]
      · rw [if_neg e2, if_pos rfl]
    · rw [if_neg e1]
      by_cases e2 : i = j
      · subst e2
        rw [if_pos rfl, if_pos (by omega), if_pos rfl]
      · rw [if_neg e2, if_neg (fun e => e2 e.symm), if_neg (fun e => e1 e.symm)]
        exact hc j hj'
end Go.Proofs.YtjmjklmndokdiaaDoor
