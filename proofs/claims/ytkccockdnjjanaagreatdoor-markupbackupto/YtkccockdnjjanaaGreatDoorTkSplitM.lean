/-
  Tokens in memory (layer 2), and what Split answers.
-/
import Derived.Test.YtkccockdnjjanaaGreatDoorTkOpenM
import Derived.Maps.OwnSet
namespace Nwl
/-- the error of a text, and its tokens -/
def splitE (l : List UInt8) : Int := if 20000 < l.length then 3 else if allL l then (if (splitL l).isSome then 0 else 5) else 4
def splitT (l : List UInt8) : List Tok := if 20000 < l.length then [] else if allL l then (splitL l).getD [] else []
theorem splitE_big {l : List UInt8} (h : 20000 < l.length) : splitE l = 3 := by unfold splitE; rw [if_pos h]
theorem splitT_big {l : List UInt8} (h : 20000 < l.length) : splitT l = [] := by unfold splitT; rw [if_pos h]
theorem splitE_byte {l : List UInt8} (h : ¬ 20000 < l.length) (ha : allL l = false) : splitE l = 4 := by unfold splitE; rw [if_neg h, if_neg (by rw [ha]; decide)]
theorem splitT_byte {l : List UInt8} (h : ¬ 20000 < l.length) (ha : allL l = false) : splitT l = [] := by unfold splitT; rw [if_neg h, if_neg (by rw [ha]; decide)]
theorem splitE_some {l : List UInt8} {ts : List Tok} (h : ¬ 20000 < l.length) (ha : allL l = true) (hs : splitL l = some ts) : splitE l = 0 := by unfold splitE; rw [if_neg h, if_pos ha, hs]; rfl
theorem splitT_some {l : List UInt8} {ts : List Tok} (h : ¬ 20000 < l.length) (ha : allL l = true) (hs : splitL l = some ts) : splitT l = ts := by unfold splitT; rw [if_neg h, if_pos ha, hs]; rfl
theorem splitE_none {l : List UInt8} (h : ¬ 20000 < l.length) (ha : allL l = true) (hs : splitL l = none) : splitE l = 5 := by unfold splitE; rw [if_neg h, if_pos ha, hs]; rfl
theorem splitT_none {l : List UInt8} (h : ¬ 20000 < l.length) (ha : allL l = true) (hs : splitL l = none) : splitT l = [] := by unfold splitT; rw [if_neg h, if_pos ha, hs]; rfl
theorem splitL_M (l : List UInt8) : splitL l = splitM true l := rfl
end Nwl
namespace Go.Proofs.YtkccockdnjjanaaGreatDoor
open Nwl
open Go.RowKit Go.Maps
set_option linter.unusedVariables false

/-- tokens as cells: each token's attributes lie in a row from B on -/
def TokCells (w : World) (B : Nat) : List Tok → List Value → Prop
  | [], cs => cs = []
  | t :: ts, cs => ∃ (A : Option Addr) (l c : Nat) (tl : List Value), cs = [.int .i64 (t.kind : Int), .string (tx t.name), .string (tx t.text), .slice A l c, .bool t.empty] ++ tl ∧ w.ownsRow B 61 2 (.slice A l c) t.attrs.length (attrCells t.attrs) ∧ TokCells w B ts tl
theorem TokCells.snoc {w : World} {B : Nat} {t : Tok} {A : Option Addr} {l c : Nat} (h : w.ownsRow B 61 2 (.slice A l c) t.attrs.length (attrCells t.attrs)) : ∀ {ts : List Tok} {cs : List Value}, TokCells w B ts cs → TokCells w B (ts ++ [t]) (cs ++ [.int .i64 (t.kind : Int), .string (tx t.name), .string (tx t.text), .slice A l c, .bool t.empty])
  | [], cs, hc => by
    unfold TokCells at hc
    subst hc
    exact ⟨A, l, c, [], by simp, h, rfl⟩
  | t' :: ts, cs, hc => by
    obtain ⟨A', l', c', tl, rfl, h1, h2⟩ := hc
    exact ⟨A', l', c', tl ++ _, by simp, h1, TokCells.snoc h h2⟩
theorem TokCells.kept {w w' : World} {B : Nat} {row : Option Nat} (hg : w.grownBy w' row) (hr : ∀ (v : Value) (n : Nat) (xs : List Value), w.ownsRow B 61 2 v n xs → v.ownBlock = none ∨ v.ownBlock ≠ row) : ∀ {ts : List Tok} {cs : List Value}, TokCells w B ts cs → TokCells w' B ts cs
  | [], cs, hc => hc
  | t' :: ts, cs, hc => by
    obtain ⟨A', l', c', tl, rfl, h1, h2⟩ := hc
    exact ⟨A', l', c', tl, rfl, h1.kept hg (hr _ _ _ h1), TokCells.kept hg hr h2⟩
theorem TokCells.kinds {w : World} {B : Nat} : ∀ {ts : List Tok} {cs : List Value}, TokCells w B ts cs → ∀ u ∈ cs, u.oneCell' = true
  | [], cs, hc => by unfold TokCells at hc; subst hc; simp
  | t' :: ts, cs, hc => by
    obtain ⟨A', l', c', tl, rfl, h1, h2⟩ := hc
    intro u hu
    simp at hu
    rcases hu with rfl | rfl | rfl | rfl | rfl | hu
    all_goals first | rfl | exact TokCells.kinds h2 u hu
/-- a slice of tokens, from B on -/
def ToksAt (B : Nat) (w : World) (v : Value) (ts : List Tok) : Prop := ∃ cs : List Value, w.ownsRow B 53 5 v ts.length cs ∧ TokCells w B ts cs
theorem ToksAt.nil (B : Nat) (w : World) : ToksAt B w (.slice none 0 0) [] := ⟨[], World.ownsRow_nil _ _ _ _, rfl⟩
theorem own_ne_own {w : World} {b1 b2 : Nat} {e1 e2 : TypeId} {s1 s2 n1 n2 : Nat} {v1 v2 : Value} {x1 x2 : List Value} (h1 : w.ownsRow b1 e1 s1 v1 n1 x1) (h2 : w.ownsRow b2 e2 s2 v2 n2 x2) (hne : e1 ≠ e2) : v1.ownBlock = none ∨ v1.ownBlock ≠ v2.ownBlock := by
  rcases h2.2 with ⟨rfl, _⟩ | ⟨g', cap, cur, rfl, _, hh, _⟩
  · rcases hv : v1.ownBlock with _ | g
    · exact .inl rfl
    · exact .inr (by simp [Value.ownBlock])
  · exact .inr (own_ne h1 (b := g') (t := e2) (cs := cur) hh hne)
theorem own_lt_ne {w : World} {base b n : Nat} {e : TypeId} {size : Nat} {v : Value} {xs : List Value} (h : w.ownsRow base e size v n xs) (hb : b < base) : v.ownBlock ≠ some b := fun e => by have := (h.lt b e).1; omega
theorem ToksAt.alloc {B : Nat} {w : World} {v : Value} {ts : List Tok} (h : ToksAt B w v ts) (o : Obj) : ToksAt B (w.alloc o) v ts := by
  obtain ⟨cs, h1, h2⟩ := h
  exact ⟨cs, h1.alloc o, h2.kept (World.grownBy_alloc w o none) fun v n xs _ => by
    rcases hv : v.ownBlock with _ | g
    · exact .inl rfl
    · exact .inr (by simp)⟩
theorem info_tok : (Tryz.prog.info? 53).map (fun i => (i.zero, i.size, i.bytes)) = some (some (.agg #[.int .i64 0, .string ⟨#[]⟩, .string ⟨#[]⟩, .slice none 0 0, .bool false]), 5, 72) := by kernel_rfl
theorem cells_five_new (w : World) (x0 x1 x2 x3 x4 : Value) (t : TypeId) : ∀ j u, [x0, x1, x2, x3, x4][j]? = some u → (w.alloc (.cells #[x0, x1, x2, x3, x4] t)).cell? ((⟨w.heap.size, 0, none⟩ : Addr).add j) = some u := by
  intro j u hj
  match j, hj with
  | 0, hj => simp at hj; subst hj; simp [Addr.add]
  | 1, hj => simp at hj; subst hj; simp [Addr.add]
  | 2, hj => simp at hj; subst hj; simp [Addr.add]
  | 3, hj => simp at hj; subst hj; simp [Addr.add]
  | 4, hj => simp at hj; subst hj; simp [Addr.add]
  | j + 5, hj => simp at hj
theorem five_oneCell (k : Int) (a b : ByteArray) (A : Option Addr) (l c : Nat) (e : Bool) : ∀ u ∈ [Value.int .i64 k, Value.string a, Value.string b, Value.slice A l c, Value.bool e], u.oneCell' = true := by
  intro u hu
  simp at hu
  rcases hu with rfl | rfl | rfl | rfl | rfl <;> rfl

/-- what Split answers -/
def SplitPost (l : List UInt8) (w : World) (e : Ending) (w' : World) : Prop :=
  ∃ (A : Option Addr) (c : Nat), e = .returned (.tuple #[.slice A (splitT l).length c, .int .i64 (splitE l)]) ∧ ToksAt w.heap.size w' (.slice A (splitT l).length c) (splitT l) ∧ Below w.heap.size w w'
theorem splitPost_err {l : List UInt8} {w : World} {e : Ending} {w' : World} {n : Int} (h1 : splitE l = n) (h2 : splitT l = []) (he : e = .returned (.tuple #[.slice none 0 0, .int .i64 n])) (hb : Below w.heap.size w w') : SplitPost l w e w' := by
  unfold SplitPost
  rw [h1, h2]
  exact ⟨none, 0, he, ToksAt.nil _ _, hb⟩
theorem splitPost_ok {l : List UInt8} {w : World} {e : Ending} {w' : World} {ts : List Tok} {A : Option Addr} {c n : Nat} (h1 : splitE l = 0) (h2 : splitT l = ts) (hn : n = ts.length) (he : e = .returned (.tuple #[.slice A n c, .int .i64 0])) (ht : ToksAt w.heap.size w' (.slice A n c) ts) (hb : Below w.heap.size w w') : SplitPost l w e w' := by
  unfold SplitPost
  rw [h1, h2]
  subst hn
  exact ⟨A, c, he, ht, hb⟩
end Go.Proofs.YtkccockdnjjanaaGreatDoor
