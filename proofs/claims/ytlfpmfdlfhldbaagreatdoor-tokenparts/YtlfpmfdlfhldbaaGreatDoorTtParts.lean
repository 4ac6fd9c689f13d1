/-
  The walk of TokenParts.
-/
import Derived.Test.YtlfpmfdlfhldbaaGreatDoorTtTells
import Derived.Test.YtlfpmfdlfhldbaaGreatDoorTtPartsM
namespace Nwl
open Go
theorem splitE_ok {l : List UInt8} (h : splitE l = 0) : ∃ ts, splitL l = some ts ∧ splitT l = ts ∧ allL l = true := by
  unfold splitE at h
  split at h
  · cases h
  · split at h
    · rename_i h1 h2
      split at h
      · rename_i h3
        obtain ⟨ts, hts⟩ := Option.isSome_iff_exists.1 h3
        exact ⟨ts, hts, splitT_some h1 h2 hts, h2⟩
      · cases h
    · cases h
theorem splitE_ways (l : List UInt8) : splitE l = 0 ∨ splitE l = 3 ∨ splitE l = 4 ∨ splitE l = 5 := by
  unfold splitE
  split
  · exact .inr (.inl rfl)
  · split
    · split
      · exact .inl rfl
      · exact .inr (.inr (.inr rfl))
    · exact .inr (.inr (.inl rfl))
/-- both told: so are they one behind the other -/
theorem parts_tell {a b : List UInt8} (ha : splitE a = 0) (hb : splitE b = 0) (h1 : a.length ≤ 800) (h2 : b.length ≤ 800) :
    (headK (splitT b) = 5 → splitE (a ++ 60 :: 99 :: 47 :: 62 :: b) = 5) ∧ (headK (splitT b) ≠ 5 → splitE (a ++ 60 :: 99 :: 47 :: 62 :: b) = 0 ∧ splitT (a ++ 60 :: 99 :: 47 :: 62 :: b) = splitT a ++ ⟨1, [99], [], [], true⟩ :: splitT b) := by
  obtain ⟨ta, q1, q2, q3⟩ := splitE_ok ha
  obtain ⟨tb, p1, p2, p3⟩ := splitE_ok hb
  rw [q2, p2]
  have hp := split_parts q1 p1
  have hl : ¬ 20000 < (a ++ 60 :: 99 :: 47 :: 62 :: b).length := by simp; omega
  have hal : allL (a ++ 60 :: 99 :: 47 :: 62 :: b) = true := by
    unfold allL at *
    rw [List.all_append, q3, List.all_cons, List.all_cons, List.all_cons, List.all_cons, p3]
    decide
  constructor
  · intro h5
    rw [if_pos h5] at hp
    exact splitE_none hl hal hp
  · intro h5
    rw [if_neg h5] at hp
    exact ⟨splitE_some hl hal hp, splitT_some hl hal hp⟩
end Nwl
namespace Go.Proofs.YtlfpmfdlfhldbaaGreatDoor
open Nwl
open Go.RowKit Go.Maps
set_option linter.unusedVariables false
set_option linter.unusedSimpArgs false

/-- the cells of some tokens, each of which reads as it is -/
def TCs (B : Nat) (w : World) (ts : List Tok) (cs : List Value) : Prop := cs.length = ts.length * 5 ∧ (∀ u ∈ cs, u.oneCell' = true) ∧ ∀ j (hj : j < ts.length), ∃ (A : Option Addr) (l c : Nat), cs[j * 5]? = some (.int .i64 (ts[j].kind : Int)) ∧ cs[j * 5 + 1]? = some (.string (tx ts[j].name)) ∧ cs[j * 5 + 2]? = some (.string (tx ts[j].text)) ∧ cs[j * 5 + 3]? = some (.slice A l c) ∧ cs[j * 5 + 4]? = some (.bool ts[j].empty) ∧ AttR B w A l ts[j].attrs
theorem TCs.below {B : Nat} {w w' : World} {ts : List Tok} {cs : List Value} (h : TCs B w ts cs) (hb : Below B w w') : TCs B w' ts cs :=
  ⟨h.1, h.2.1, fun j hj => by
    obtain ⟨A, l, c, q1, q2, q3, q4, q5, q6⟩ := h.2.2 j hj
    exact ⟨A, l, c, q1, q2, q3, q4, q5, q6.below hb⟩⟩
theorem AttR.up {B B' : Nat} {w : World} {A : Option Addr} {l : Nat} {as' : List (List UInt8 × List UInt8)} (h : AttR B w A l as') (hB : B ≤ B') : AttR B' w A l as' :=
  ⟨h.1, fun j hj => by
    obtain ⟨b, o, q1, q2, q3, q4⟩ := h.2 j hj
    exact ⟨b, o, q1, by omega, q3, q4⟩⟩
theorem TCs.up {B B' : Nat} {w : World} {ts : List Tok} {cs : List Value} (h : TCs B w ts cs) (hB : B ≤ B') : TCs B' w ts cs :=
  ⟨h.1, h.2.1, fun j hj => by
    obtain ⟨A, l, c, q1, q2, q3, q4, q5, q6⟩ := h.2.2 j hj
    exact ⟨A, l, c, q1, q2, q3, q4, q5, q6.up hB⟩⟩
theorem TokCells.len {w : World} {base : Nat} : ∀ {ts : List Tok} {cs : List Value}, TokCells w base ts cs → cs.length = ts.length * 5
  | [], cs, h => by unfold TokCells at h; subst h; rfl
  | t :: ts, cs, h => by
    obtain ⟨A, l, c, tl, rfl, h1, h2⟩ := h
    have := TokCells.len h2
    simp at this ⊢
    omega
theorem TCs.of {B base : Nat} {w : World} {ts : List Tok} {cs : List Value} (h : TokCells w base ts cs) (hB : w.heap.size ≤ B) : TCs B w ts cs := ⟨TokCells.len h, TokCells.kinds h, TokCells.at hB h⟩
theorem TCs.append {B : Nat} {w : World} {ts us : List Tok} {cs ds : List Value} (h : TCs B w ts cs) (k : TCs B w us ds) : TCs B w (ts ++ us) (cs ++ ds) := by
  refine ⟨by rw [List.length_append, List.length_append, h.1, k.1]; omega, ?_, ?_⟩
  · intro u hu
    rcases List.mem_append.1 hu with hu | hu
    · exact h.2.1 u hu
    · exact k.2.1 u hu
  · intro j hj
    by_cases hl : j < ts.length
    · obtain ⟨A, l, c, q1, q2, q3, q4, q5, q6⟩ := h.2.2 j hl
      have hc := h.1
      rw [List.getElem_append_left hl]
      refine ⟨A, l, c, ?_, ?_, ?_, ?_, ?_, q6⟩
      all_goals (rw [List.getElem?_append_left (by omega)]; assumption)
    · have hj2 : j - ts.length < us.length := by rw [List.length_append] at hj; omega
      obtain ⟨A, l, c, q1, q2, q3, q4, q5, q6⟩ := k.2.2 (j - ts.length) hj2
      have hc := h.1
      rw [List.getElem_append_right (by omega)]
      have e : ∀ i, (cs ++ ds)[j * 5 + i]? = ds[(j - ts.length) * 5 + i]? := fun i => by
        rw [List.getElem?_append_right (by omega)]
        congr 1
        omega
      refine ⟨A, l, c, ?_, ?_, ?_, ?_, ?_, q6⟩
      · have := e 0; rw [Nat.add_zero, Nat.add_zero] at this; rw [this]; exact q1
      · rw [e 1]; exact q2
      · rw [e 2]; exact q3
      · rw [e 3]; exact q4
      · rw [e 4]; exact q5
theorem TCs.one (B : Nat) (w : World) : TCs B w [⟨1, [99], [], [], true⟩] [.int .i64 1, .string (tx [99]), .string (tx []), .slice none 0 0, .bool true] := by
  refine ⟨rfl, ?_, ?_⟩
  · intro u hu
    simp at hu
    rcases hu with rfl | rfl | rfl | rfl | rfl <;> rfl
  · intro j hj
    have : j = 0 := by simp at hj; omega
    subst this
    exact ⟨none, 0, 0, rfl, rfl, rfl, rfl, rfl, rfl, fun i hi => by simp at hi⟩
theorem TokRd.row {B base : Nat} {w : World} {A : Option Addr} {n c : Nat} {ts : List Tok} {cs : List Value} (h1 : w.ownsRow base 32 5 (.slice A n c) n cs) (h2 : TCs B w ts cs) (hn : n = ts.length) (hB : w.heap.size ≤ B) : TokRd B w A n ts := by
  have hr := RowR.of h1 hB
  refine ⟨hn, fun j hj => ?_⟩
  obtain ⟨b, o, c', he, hb, _, hc⟩ := hr.some (by omega)
  injection he with q1 _ _
  obtain ⟨A', l', c9, u0, u1, u2, u3, u4, u5⟩ := h2.2.2 j hj
  exact ⟨b, o, A', l', c9, q1, hb, hc _ _ u0, by rw [Nat.add_assoc]; exact hc _ _ u1, by rw [Nat.add_assoc]; exact hc _ _ u2, by rw [Nat.add_assoc]; exact hc _ _ u3, by rw [Nat.add_assoc]; exact hc _ _ u4, u5⟩
/-- a row of tokens as it is handed over: its cells, and how they read -/
def TRow (base B : Nat) (w : World) (A : Option Addr) (n c : Nat) (ts : List Tok) (cs : List Value) : Prop := n = ts.length ∧ w.ownsRow base 32 5 (.slice A n c) n cs ∧ TCs B w ts cs
theorem row_below {w w' : World} {base e size n : Nat} {v : Value} {xs : List Value} (h : w.ownsRow base e size v n xs) (hb : Below w.heap.size w w') : w'.ownsRow base e size v n xs := by
  refine ⟨h.1, ?_⟩
  rcases h.2 with h0 | ⟨g, cap, cur, hv, hg, hh, hc, hx, hs, ht⟩
  · exact .inl h0
  · exact .inr ⟨g, cap, cur, hv, hg, (hb.block g (Array.getElem?_eq_some_iff.1 hh).1).trans hh, hc, hx, hs, ht⟩
theorem row_form {w : World} {base e size n c : Nat} {A : Option Addr} {xs : List Value} (h : w.ownsRow base e size (.slice A n c) n xs) : A = none → n = 0 ∧ c = 0 := by
  intro hA
  subst hA
  rcases h.2 with ⟨hv, h0⟩ | ⟨g, cap, cur, hv, _⟩
  · cases hv; exact ⟨rfl, rfl⟩
  · cases hv
set_option maxRecDepth 100000 in
/-- tokens that may be read, appended to a row of one's own -/
theorem tok_app {base : Nat} {W : World} {A A1 : Option Addr} {n c n1 c1 : Nat} {cs cs1 : List Value} (h : W.ownsRow base 32 5 (.slice A n c) n cs) (hB : base ≤ W.heap.size) (hA : A1 = none → n1 = 0 ∧ c1 = 0) (hl : cs1.length = n1 * 5) (hk : ∀ u ∈ cs1, u.oneCell' = true) (hc : ∀ a, A1 = some a → ∀ j u, cs1[j]? = some u → W.cell? (a.add j) = some u) (hn : n ≤ 100000) (hn1 : n1 ≤ 100000) :
    ∃ (A2 : Option Addr) (c2 : Nat) (W' : World), (Builtin.append_ #[23, 23] 23 #[.slice A n c, .slice A1 n1 c1]).run Tryz.prog W = .ok (.slice A2 (n + n1) c2) W' ∧ W'.ownsRow base 32 5 (.slice A2 (n + n1) c2) (n + n1) (cs ++ cs1) ∧ Below base W W' := by
  obtain ⟨i0, hi, hz0, hz1, hz2⟩ := info_parts info_tok
  cases A1 with
  | none =>
    obtain ⟨rfl, rfl⟩ := hA rfl
    have hl' : cs1 = [] := List.eq_nil_of_length_eq_zero (by rw [hl])
    subst hl'
    exact ⟨A, c, W, run_append_owned_none W base 23 23 32 i0 5 Tryz.underlying23 hi _ n _ h, by rw [List.append_nil]; exact h, Below.refl _ _⟩
  | some a =>
    obtain ⟨v', W', hr, hown, hg, _⟩ := run_append_own (P := Tryz.prog) W base 23 23 32 i0 _ 5 72 Tryz.underlying23 hi hz0 hz1 hz2 rfl (by decide) _ n _ h a n1 c1 cs1 hl (hc a rfl) hk (by unfold maxLen; omega) (by omega) hB
    obtain ⟨A2, c2, rfl⟩ := own_form hown
    exact ⟨A2, c2, W', hr, hown, (Below.refl base W).grown hg hB (fun k hk => (h.lt k hk).1)⟩
end Go.Proofs.YtlfpmfdlfhldbaaGreatDoor
