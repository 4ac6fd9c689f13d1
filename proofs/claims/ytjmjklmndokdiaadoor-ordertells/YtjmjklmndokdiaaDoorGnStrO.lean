/-
  Rows of texts that a call makes by appending.
-/
import Derived.Test.YtjmjklmndokdiaaDoorBe
namespace Go.Proofs.YtjmjklmndokdiaaDoor
open Nwl
open Go.RowKit Go.Maps
set_option linter.unusedVariables false

theorem str_one (l : List (List UInt8)) : ∀ u ∈ l.map (fun x => Value.string (tx x)), u.oneCell' = true := by
  intro u hu
  obtain ⟨x, _, rfl⟩ := List.mem_map.1 hu
  rfl
/-- a row of texts that was made from block B on -/
def StrO (B : Nat) (w : World) (A : Option Addr) (n c : Nat) (l : List (List UInt8)) : Prop := n = l.length ∧ w.ownsRow B 9 1 (.slice A n c) n (l.map fun x => .string (tx x))
theorem StrO.nil (B : Nat) (w : World) : StrO B w none 0 0 [] := ⟨rfl, World.ownsRow_nil _ _ _ _⟩
theorem StrO.below {B : Nat} {w w' : World} {A : Option Addr} {n c : Nat} {l : List (List UInt8)} (h : StrO B w A n c l) (hb : Below w.heap.size w w') : StrO B w' A n c l := by
  obtain ⟨hn, h⟩ := h
  refine ⟨hn, h.1, ?_⟩
  rcases h.2 with h0 | ⟨g, cap, cur, hv, hg, hh, hc, hx, hs, ht⟩
  · exact .inl h0
  · exact .inr ⟨g, cap, cur, hv, hg, (hb.block g (Array.getElem?_eq_some_iff.1 hh).1).trans hh, hc, hx, hs, ht⟩
theorem StrO.r {B : Nat} {w : World} {A : Option Addr} {n c : Nat} {l : List (List UInt8)} (h : StrO B w A n c l) : StrR w.heap.size w A n l := by
  refine ⟨h.1, fun j hj => ?_⟩
  obtain ⟨hn, h0⟩ := h
  rcases h0.2 with ⟨hv, h1⟩ | ⟨g, cap, cur, hv, hg, hh, hc, hm, hs, ht⟩
  · omega
  · injection hv with e1 e2 e3
    subst e1 e3
    have q : (l.map fun x => Value.string (tx x))[j]? = some (.string (tx l[j])) := by rw [List.getElem?_map, List.getElem?_eq_getElem hj]; rfl
    have r1 := h0.cells (g := g) rfl _ _ q
    rw [addr_add0'] at r1
    exact ⟨g, 0, rfl, (Array.getElem?_eq_some_iff.1 hh).1, by rw [Nat.zero_add]; exact r1⟩
theorem StrO.form {B : Nat} {w : World} {A : Option Addr} {n c : Nat} {l : List (List UInt8)} (h : StrO B w A n c l) : A = none → n = 0 ∧ c = 0 := by
  intro hA
  subst hA
  rcases h.2.2 with ⟨hv, h0⟩ | ⟨g, cap, cur, hv, _⟩
  · cases hv; exact ⟨rfl, rfl⟩
  · cases hv
theorem StrO.low {B B' : Nat} {w : World} {A : Option Addr} {n c : Nat} {l : List (List UInt8)} (h : StrO B' w A n c l) (hb : B ≤ B') : StrO B w A n c l := by
  obtain ⟨hn, h1, h2⟩ := h
  refine ⟨hn, h1, ?_⟩
  rcases h2 with h0 | ⟨g, cap, cur, hv, hg, r⟩
  · exact .inl h0
  · exact .inr ⟨g, cap, cur, hv, Nat.le_trans hb hg, r⟩
theorem str_cells {W : World} {a : Addr} {n : Nat} {l : List (List UInt8)} (h : StrR W.heap.size W (some a) n l) : ∀ (j : Nat) u, (l.map fun x => Value.string (tx x))[j]? = some u → W.cell? (a.add j) = some u := by
  intro j u hu
  rw [List.getElem?_map] at hu
  have hj : j < l.length := by
    rcases Nat.lt_or_ge j l.length with h' | h'
    · exact h'
    · rw [List.getElem?_eq_none h'] at hu; cases hu
  rw [List.getElem?_eq_getElem hj] at hu
  injection hu with hu
  obtain ⟨g, o, e, _, hc⟩ := h.2 j hj
  injection e with e
  subst e hu
  rw [Addr.add_lit]
  exact hc

set_option maxRecDepth 100000 in
/-- texts that may be read, appended to a row of one's own -/
theorem str_app {B : Nat} {W : World} {A A1 : Option Addr} {n c n1 c1 : Nat} {l l1 : List (List UInt8)} (h : StrO B W A n c l) (hB : B ≤ W.heap.size) (h1 : StrR W.heap.size W A1 n1 l1) (hA : A1 = none → n1 = 0 ∧ c1 = 0) (hn : n ≤ 100000) (hn1 : n1 ≤ 100000) :
    ∃ (A2 : Option Addr) (c2 : Nat) (W' : World), (Builtin.append_ #[23, 23] 23 #[.slice A n c, .slice A1 n1 c1]).run Tryd.prog W = .ok (.slice A2 (n + n1) c2) W' ∧ StrO B W' A2 (n + n1) c2 (l ++ l1) ∧ Below B W W' := by
  obtain ⟨i0, hi, hz0, hz1, hz2⟩ := info_parts2 info_st
  cases A1 with
  | none =>
    obtain ⟨rfl, rfl⟩ := hA rfl
    have hl : l1 = [] := List.eq_nil_of_length_eq_zero h1.1.symm
    subst hl
    exact ⟨A, c, W, run_append_owned_none W B 23 23 9 i0 1 Tryd.underlying23 hi _ n _ h.2, by rw [List.append_nil]; exact h, Below.refl _ _⟩
  | some a =>
    obtain ⟨v', W', hr, hown, hg, _⟩ := run_append_own (P := Tryd.prog) W B 23 23 9 i0 _ 1 16 Tryd.underlying23 hi hz0 hz1 hz2 rfl (by decide) _ n _ h.2 a n1 c1 (l1.map fun x => .string (tx x)) (by rw [List.length_map, Nat.mul_one]; exact h1.1.symm) (str_cells h1) (str_one l1) (by unfold maxLen; omega) (by omega) hB
    obtain ⟨A2, c2, rfl⟩ := own_form hown
    refine ⟨A2, c2, W', hr, ⟨by rw [List.length_append, ← h.1, ← h1.1], by rw [List.map_append]; exact hown⟩, (Below.refl B W).grown hg hB (fun k hk => (h.2.lt k hk).1)⟩
end Go.Proofs.YtjmjklmndokdiaaDoor
