/-
  Plain facts on trees (layer 3): which nodes some tokens make; nothing of the program.
-/
import Derived.Test.YtbpcoiblddhnjaaDoorTkLaws
namespace Nwl

/-- a token with any number as its kind -/
structure Tki where
  kind : Int
  name : List UInt8
  text : List UInt8
  attrs : List (List UInt8 × List UInt8)
  empty : Bool
  deriving DecidableEq
def Tok.up (t : Tok) : Tki := ⟨t.kind, t.name, t.text, t.attrs, t.empty⟩

structure Nd where
  parent : Int
  name : List UInt8
  text : List UInt8
  attrs : List (List UInt8 × List UInt8)
  deriving DecidableEq

/-- a tree that is not whole yet: its nodes, the places of the open ones (the innermost one last), and the text that is under way behind them -/
structure Gst where
  pre : List Nd
  opn : List Nat
  run : List UInt8
  deriving DecidableEq

/-- the place of the innermost one -/
def innerL (o : List Nat) : Int := match o.getLast? with
  | none => -1
  | some p => p
theorem innerL_nil : innerL [] = -1 := rfl
theorem innerL_snoc (o : List Nat) (p : Nat) : innerL (o ++ [p]) = p := by simp [innerL]
theorem innerL_ne {o : List Nat} (h : o ≠ []) : innerL o = (o[o.length - 1]'(by have := List.length_pos_iff.2 h; omega) : Nat) := by
  unfold innerL
  rw [List.getLast?_eq_some_getLast h, List.getLast_eq_getElem h]
/-- the nodes as they lie -/
def Gst.mem (g : Gst) : List Nd := if g.run = [] then g.pre else g.pre ++ [⟨innerL g.opn, [], [], []⟩]
/-- the nodes with the text under way -/
def Gst.settled (g : Gst) : List Nd := if g.run = [] then g.pre else g.pre ++ [⟨innerL g.opn, [], g.run, []⟩]
theorem Gst.len (g : Gst) : g.settled.length = g.mem.length := by unfold settled mem; split <;> simp
def nameAt (l : List Nd) (i : Nat) : List UInt8 := ((l[i]?).map (·.name)).getD []

def openG (g : Gst) (t : Tki) : Except Int Gst :=
  if t.name = [] then .error 5
  else if g.opn = [] ∧ 0 < g.mem.length then .error 6
  else if 20 ≤ g.opn.length then .error 7
  else if 2000 ≤ g.mem.length then .error 3
  else .ok ⟨g.settled ++ [⟨innerL g.opn, t.name, [], t.attrs⟩], if t.empty then g.opn else g.opn ++ [g.mem.length], []⟩
def closeG (g : Gst) (n : List UInt8) : Except Int Gst :=
  match g.opn.getLast? with
  | none => .error 6
  | some p => if nameAt g.pre p = n then .ok ⟨g.settled, g.opn.dropLast, []⟩ else .error 6
def textG (g : Gst) (s : List UInt8) : Except Int Gst :=
  if g.opn = [] then (if trimL s = [] then .ok g else .error 6)
  else if s = [] then .ok g
  else if g.run = [] then (if 2000 ≤ g.mem.length then .error 3 else .ok ⟨g.pre, g.opn, s⟩)
  else .ok ⟨g.pre, g.opn, g.run ++ s⟩
/-- one token more -/
def growG (g : Gst) (t : Tki) : Except Int Gst :=
  if t.kind = 4 ∨ t.kind = 5 then .ok g
  else if t.kind = 1 then openG g t
  else if t.kind = 2 then closeG g t.name
  else if t.kind = 3 then textG g t.text
  else .error 5
def endG (g : Gst) : Except Int (List Nd) := if g.mem = [] ∨ g.opn ≠ [] then .error 6 else .ok g.mem
def treeG : Gst → List Tki → Except Int (List Nd)
  | g, [] => endG g
  | g, t :: ts => match growG g t with
    | .error e => .error e
    | .ok g' => treeG g' ts
def Gst.none : Gst := ⟨[], [], []⟩
def treeL (ts : List Tki) : Except Int (List Nd) := treeG Gst.none ts
def errOf {α : Type} (x : Except Int α) : Int := match x with
  | .error e => e
  | .ok _ => 0
def nodesOf (x : Except Int (List Nd)) : List Nd := match x with
  | .error _ => []
  | .ok l => l

/-- what is so of each tree under way -/
structure Gst.Ok (g : Gst) : Prop where
  below : ∀ p ∈ g.opn, p < g.pre.length
  out : g.opn = [] → g.run = []
  few : g.mem.length ≤ 2000
  flat : g.opn.length ≤ 20
theorem Gst.none_ok : Gst.none.Ok := ⟨fun _ h => (nomatch h), fun _ => rfl, by simp [Gst.none, Gst.mem], by simp [Gst.none]⟩
theorem settled_ge (g : Gst) : g.pre.length ≤ g.settled.length := by unfold Gst.settled; split <;> simp
theorem openG_ok {g g' : Gst} {t : Tki} (h : g.Ok) (e : openG g t = .ok g') : g'.Ok := by
  unfold openG at e
  split at e
  · cases e
  · split at e
    · cases e
    · split at e
      · cases e
      · split at e
        · cases e
        · rename_i h1 h2 h3 h4
          injection e with e
          subst e
          have hg := settled_ge g
          have hl := g.len
          refine ⟨fun p hp => ?_, fun _ => rfl, ?_, ?_⟩
          · simp only [List.length_append, List.length_singleton]
            simp only at hp
            split at hp
            · have := h.below p hp; omega
            · rw [List.mem_append] at hp
              rcases hp with hp | hp
              · have := h.below p hp; omega
              · rw [List.mem_singleton] at hp; omega
          · simp only [Gst.mem, if_true, List.length_append, List.length_singleton]
            have : g.mem.length < 2000 := by omega
            omega
          · simp only
            split
            · omega
            · simp only [List.length_append, List.length_singleton]; omega
theorem closeG_ok {g g' : Gst} {n : List UInt8} (h : g.Ok) (e : closeG g n = .ok g') : g'.Ok := by
  unfold closeG at e
  split at e
  · cases e
  · split at e
    · injection e with e
      subst e
      have hg := settled_ge g
      have hl := g.len
      have hf := h.few
      refine ⟨fun p hp => ?_, fun _ => rfl, ?_, ?_⟩
      · have := h.below p (List.dropLast_subset _ hp)
        show p < g.settled.length
        omega
      · simp only [Gst.mem, if_true]
        omega
      · have := h.flat
        simp only [List.length_dropLast]; omega
    · cases e
theorem textG_ok {g g' : Gst} {s : List UInt8} (h : g.Ok) (e : textG g s = .ok g') : g'.Ok := by
  unfold textG at e
  split at e
  · split at e
    · injection e with e; subst e; exact h
    · cases e
  · rename_i hn
    split at e
    · injection e with e; subst e; exact h
    · rename_i hs
      split at e
      · rename_i hr
        split at e
        · cases e
        · rename_i hf
          injection e with e
          subst e
          refine ⟨h.below, fun e => absurd e hn, ?_, h.flat⟩
          unfold Gst.mem at hf ⊢
          rw [if_pos hr] at hf
          simp only [if_neg hs, List.length_append, List.length_singleton]
          omega
      · rename_i hr
        injection e with e
        subst e
        have hf := h.few
        refine ⟨h.below, fun e => absurd e hn, ?_, h.flat⟩
        unfold Gst.mem at hf ⊢
        rw [if_neg hr] at hf
        rw [if_neg (by simp [hs])]
        simpa using hf
theorem growG_ok {g g' : Gst} {t : Tki} (h : g.Ok) (e : growG g t = .ok g') : g'.Ok := by
  unfold growG at e
  split at e
  · injection e with e; subst e; exact h
  · split at e
    · exact openG_ok h e
    · split at e
      · exact closeG_ok h e
      · split at e
        · exact textG_ok h e
        · cases e

example : (nodesOf (treeL [⟨1, [97], [], [], false⟩, ⟨3, [], [120], [], false⟩, ⟨2, [97], [], [], false⟩])) = [⟨-1, [97], [], []⟩, ⟨0, [], [120], []⟩] := by decide +kernel
end Nwl
