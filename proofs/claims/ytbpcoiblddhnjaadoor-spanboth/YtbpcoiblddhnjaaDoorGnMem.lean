/-
  How things lie in memory (all layers): blocks, rows that may be read, nodes that may be read.
-/
import Derived.Test.YtbpcoiblddhnjaaDoorChName
import Derived.Test.YtbpcoiblddhnjaaDoorElMath
import Derived.Lib.Builder
import Derived.Lib.FrozenHead2
import Derived.Laws.Externs
import Derived.OwnWalk
import Derived.WalkMore
import Derived.ScopeJumps
import Derived.Maps.Range
import Derived.WalkSmall
import Derived.Laws.AppendOwnNone
namespace Go.Proofs.YtbpcoiblddhnjaaDoor
open Nwl
open Go.RowKit Go.Maps
set_option linter.unusedVariables false

theorem jump_mono {l : Nat} {J J' : Act → World → Prop} {Q : Exit → Act → World → Prop} (hj : ∀ a w, J a w → J' a w) : ∀ e a w, Exit.jump l J Q e a w → Exit.jump l J' Q e a w := by
  intro e a w h
  cases e <;> first | exact h | exact ⟨h.1, hj _ _ h.2⟩
/-- a scope whose label is jumped to: the way from the label is walked once -/
theorem wp_scope_again {P : Program} {c rest : Code} {a : Act} {w : World} {Q : Exit → Act → World → Prop} (l : Nat) (J : Act → World → Prop) (μ : Act → World → Nat) (hf : findLabel c l = some (Code.seq Code.skip rest))
    (pass : ∀ a w, J a w → rest.wp P (Exit.jump l (fun a' w' => J a' w' ∧ μ a' w' < μ a w) Q) a w)
    (first : Hid (∀ a w, J a w → rest.wp P (Exit.jump l J Q) a w) → c.wp P (Exit.jump l J Q) a w) : (Code.scope c).wp P Q a w :=
  wp_scope_jumps l J μ hf (first fun a w h => wp_mono (pass a w h) (jump_mono fun _ _ h => h.1)) (fun a w h => wp_seq (wp_skip (pass a w h)))
theorem grown_set (w : World) (g i : Nat) (v : Value) : w.grownBy (w.setCell ⟨g, i, none⟩ v) (some g) :=
  ⟨rfl, rfl, rfl, by simp [World.setCell], fun k _ hne => Below.heap_setCell _ _ _ _ (fun e => hne (by rw [e]))⟩
/-- block b is just these cells -/
def Blk (w : World) (b : Nat) (t : TypeId) (cs : Array Value) : Prop := w.heap[b]? = some (.cells cs t (0, 0))
theorem Blk.lt {w : World} {b : Nat} {t : TypeId} {cs : Array Value} (h : Blk w b t cs) : b < w.heap.size := by
  rcases Nat.lt_or_ge b w.heap.size with h' | h'
  · exact h'
  · unfold Blk at h; rw [Array.getElem?_eq_none h'] at h; cases h
theorem Blk.cell {w : World} {b : Nat} {t : TypeId} {cs : Array Value} (h : Blk w b t cs) (i : Nat) : w.cell? ⟨b, i, none⟩ = cs[i]? := Lib.cell_of_heap h i
theorem Blk.frozen {w : World} {b : Nat} {t : TypeId} {cs : Array Value} (h : Blk w b t cs) (i : Nat) : w.frozen? ⟨b, i, none⟩ = false := Lib.frozen_of_heap h i
theorem Blk.new (w : World) (t : TypeId) (cs : Array Value) : Blk (w.alloc (.cells cs t)) w.heap.size t cs := heap_alloc_new w _
theorem Blk.alloc {w : World} {b : Nat} {t : TypeId} {cs : Array Value} (h : Blk w b t cs) (o : Obj) : Blk (w.alloc o) b t cs := (Below.heap_alloc w o b h.lt).trans h
theorem Blk.below {w w' : World} {b : Nat} {t : TypeId} {cs : Array Value} (h : Blk w b t cs) (hb : Below w.heap.size w w') : Blk w' b t cs := (hb.block b h.lt).trans h
theorem Blk.grown {w w' : World} {b : Nat} {t : TypeId} {cs : Array Value} {row : Option Nat} (h : Blk w b t cs) (hb : w.grownBy w' row) (hg : some b ≠ row) : Blk w' b t cs := (hb.block b h.lt hg).trans h
theorem Blk.set {w : World} {b : Nat} {t : TypeId} {cs : Array Value} (h : Blk w b t cs) (i : Nat) (u : Value) : Blk (w.setCell ⟨b, i, none⟩ u) b t (cs.setIfInBounds i u) := by
  unfold Blk at h ⊢
  simp [World.setCell, Array.getElem?_modify, h]
theorem grown_set_new {w w' : World} {row : Option Nat} (h : w.grownBy w' row) {b i : Nat} (hb : w.heap.size ≤ b) (u : Value) : w.grownBy (w'.setCell ⟨b, i, none⟩ u) row :=
  ⟨h.os, h.tape, h.output, by have := h.size; simp [World.setCell]; omega, fun k hk hne => (Below.heap_setCell _ _ _ _ (show k ≠ b by omega)).trans (h.block k hk hne)⟩
theorem grown_after_alloc {w w' : World} {row : Option Nat} {o : Obj} (h : (w.alloc o).grownBy w' row) : w.grownBy w' row := (World.grownBy_alloc w o row).trans h
/-- attributes as cells -/
def attrCells (l : List (List UInt8 × List UInt8)) : List Value := l.flatMap fun a => [.string (tx a.1), .string (tx a.2)]
theorem own_ne {w : World} {base b : Nat} {e t : TypeId} {size n : Nat} {v : Value} {xs : List Value} {cs : Array Value} (h : w.ownsRow base e size v n xs) (hb : Blk w b t cs) (hne : e ≠ t) : v.ownBlock ≠ some b := by
  rcases h.2 with ⟨rfl, _⟩ | ⟨g', cap, cur, rfl, _, hh, _⟩
  · simp [Value.ownBlock]
  · intro he
    have : g' = b := by simpa [Value.ownBlock] using he
    subst this
    unfold Blk at hb
    rw [hh] at hb
    injection hb with hb
    injection hb with _ ht
    exact hne ht
theorem own_form {w : World} {base : Nat} {e : TypeId} {size n : Nat} {v : Value} {xs : List Value} (h : w.ownsRow base e size v n xs) : ∃ A c, v = .slice A n c := by
  rcases h.2 with ⟨rfl, rfl⟩ | ⟨g', cap, cur, rfl, _⟩
  · exact ⟨_, _, rfl⟩
  · exact ⟨_, _, rfl⟩
theorem Blk.set_far {w : World} {b b' i : Nat} {t : TypeId} {cs : Array Value} (h : Blk w b t cs) (hne : b ≠ b') (u : Value) : Blk (w.setCell ⟨b', i, none⟩ u) b t cs := (Below.heap_setCell w ⟨b', i, none⟩ u b hne).trans h
theorem cells_two_new (w : World) (x y : Value) (t : TypeId) : ∀ j u, [x, y][j]? = some u → (w.alloc (.cells #[x, y] t)).cell? ((⟨w.heap.size, 0, none⟩ : Addr).add j) = some u := by
  intro j u hj
  match j, hj with
  | 0, hj => simp at hj; subst hj; simp [Addr.add]
  | 1, hj => simp at hj; subst hj; simp [Addr.add]
  | j + 2, hj => simp at hj
theorem addr_add0' (b j : Nat) : (⟨b, 0, none⟩ : Addr).add j = ⟨b, j, none⟩ := by
  unfold Addr.add
  by_cases h : j = 0 <;> simp [h]
/-- a row that may be read: it lies below block B -/
def RowR (B : Nat) (w : World) (v : Value) (n size : Nat) (cs : List Value) : Prop :=
  cs.length = n * size ∧ (v = .slice none 0 0 ∧ n = 0 ∨ ∃ b o c : Nat, v = .slice (some ⟨b, o, none⟩) n c ∧ b < B ∧ n ≤ c ∧ ∀ j u, cs[j]? = some u → w.cell? ⟨b, o + j, none⟩ = some u)
theorem RowR.below {B : Nat} {w w' : World} {v : Value} {n size : Nat} {cs : List Value} (h : RowR B w v n size cs) (hb : Below B w w') : RowR B w' v n size cs := by
  refine ⟨h.1, ?_⟩
  rcases h.2 with h0 | ⟨b, o, c, hv, hB, hc, hr⟩
  · exact .inl h0
  · exact .inr ⟨b, o, c, hv, hB, hc, fun j u hu => (hb.cell (p := ⟨b, o + j, none⟩) hB).trans (hr j u hu)⟩
theorem RowR.form {B : Nat} {w : World} {v : Value} {n size : Nat} {cs : List Value} (h : RowR B w v n size cs) : ∃ (A : Option Addr) (c : Nat), v = .slice A n c := by
  rcases h.2 with ⟨rfl, rfl⟩ | ⟨b, o, c, rfl, _⟩
  · exact ⟨none, 0, rfl⟩
  · exact ⟨_, c, rfl⟩
theorem RowR.some {B : Nat} {w : World} {v : Value} {n size : Nat} {cs : List Value} (h : RowR B w v n size cs) (hn : 0 < n) : ∃ b o c : Nat, v = .slice (some ⟨b, o, none⟩) n c ∧ b < B ∧ n ≤ c ∧ ∀ j u, cs[j]? = some u → w.cell? ⟨b, o + j, none⟩ = some u := by
  rcases h.2 with ⟨_, h0⟩ | h
  · omega
  · exact h
theorem RowR.of {B base : Nat} {w : World} {e : TypeId} {v : Value} {n size : Nat} {cs : List Value} (h : w.ownsRow base e size v n cs) (hB : w.heap.size ≤ B) : RowR B w v n size cs := by
  refine ⟨h.1, ?_⟩
  rcases h.2 with h0 | ⟨g, cap, cur, rfl, _, hh, hc, _⟩
  · exact .inl h0
  · refine .inr ⟨g, 0, cap, rfl, ?_, hc, fun j u hu => ?_⟩
    · have := (Array.getElem?_eq_some_iff.1 hh).1
      omega
    · have := h.cells (g := g) rfl j u hu
      rw [addr_add0'] at this
      rw [Nat.zero_add]
      exact this
theorem own_neF {w : World} {base b : Nat} {e t : TypeId} {size n : Nat} {v : Value} {xs : List Value} {cs : Array Value} {fz : Nat × Nat} (h : w.ownsRowF base e size v n xs) (hb : w.heap[b]? = some (.cells cs t fz)) (hne : e ≠ t) : v.ownBlock ≠ some b := by
  rcases h.2 with ⟨rfl, _⟩ | ⟨g', cap, cur, fz', rfl, _, hh, _⟩
  · simp [Value.ownBlock]
  · intro he
    have : g' = b := by simpa [Value.ownBlock] using he
    subst this
    rw [hh] at hb
    injection hb with hb
    injection hb with _ hb
    exact hne hb
/-- rows of unlike kinds lie apart -/
theorem apartF {w : World} {b1 b2 : Nat} {e1 e2 : TypeId} {s1 s2 n1 n2 : Nat} {v1 v2 : Value} {x1 x2 : List Value} (h1 : w.ownsRowF b1 e1 s1 v1 n1 x1) (h2 : w.ownsRowF b2 e2 s2 v2 n2 x2) (hne : e1 ≠ e2) : v1.ownBlock = none ∨ v1.ownBlock ≠ v2.ownBlock := by
  rcases h2.2 with ⟨rfl, _⟩ | ⟨g', cap, cur, fz, rfl, _, hh, _⟩
  · rcases hv : v1.ownBlock with _ | g
    · exact .inl rfl
    · exact .inr (by simp [Value.ownBlock])
  · exact .inr (own_neF h1 (b := g') (t := e2) (cs := cur) hh hne)
theorem setCell_grown (w : World) (b i : Nat) (u : Value) : w.grownBy (w.setCell ⟨b, i, none⟩ u) (some b) :=
  ⟨rfl, rfl, rfl, by simp [World.setCell], fun k _ hk => Below.heap_setCell w ⟨b, i, none⟩ u k (fun e => hk (by simp [e]))⟩
theorem Blk.apart {w : World} {k b : Nat} {t u : TypeId} {cs ds : Array Value} (h : Blk w k t cs) (h2 : Blk w b u ds) (hne : t ≠ u) : some k ≠ some b := fun e => by
  injection e with e
  subst e
  unfold Blk at h h2
  rw [h] at h2
  injection h2 with h2
  injection h2 with _ h2
  exact hne h2
theorem cells_one_new (w : World) (x : Value) (t : TypeId) : ∀ j u, [x][j]? = some u → (w.alloc (.cells #[x] t)).cell? ((⟨w.heap.size, 0, none⟩ : Addr).add j) = some u := by
  intro j u hj
  match j, hj with
  | 0, hj => simp at hj; subst hj; simp [Addr.add]
  | j + 1, hj => simp at hj
/-- nodes that may be read -/
def NdiCells (B : Nat) (w : World) : List Nd → List Value → Prop
  | [], cs => cs = []
  | n :: ns, cs => ∃ (av : Value) (tl : List Value), cs = [.int .i64 n.parent, .string (tx n.name), .string (tx n.text), av] ++ tl ∧ RowR B w av n.attrs.length 2 (attrCells n.attrs) ∧ NdiCells B w ns tl
theorem NdiCells.below {B : Nat} {w w' : World} (hb : Below B w w') : ∀ {ts : List Nd} {cs : List Value}, NdiCells B w ts cs → NdiCells B w' ts cs
  | [], _, h => h
  | t :: ts, _, ⟨av, tl, e, h1, h2⟩ => ⟨av, tl, e, h1.below hb, NdiCells.below hb h2⟩
theorem NdiCells.get {B : Nat} {w : World} : ∀ {ts : List Nd} {cs : List Value}, NdiCells B w ts cs → ∀ (i : Nat) (h : i < ts.length), ∃ av : Value, RowR B w av (ts[i]).attrs.length 2 (attrCells (ts[i]).attrs) ∧ cs[i * 4]? = some (.int .i64 (ts[i]).parent) ∧ cs[i * 4 + 1]? = some (.string (tx (ts[i]).name)) ∧ cs[i * 4 + 2]? = some (.string (tx (ts[i]).text)) ∧ cs[i * 4 + 3]? = some av
  | [], _, _, i, h => by simp at h
  | t :: ts, _, ⟨av, tl, e, h1, h2⟩, 0, _ => by subst e; exact ⟨av, h1, rfl, rfl, rfl, rfl⟩
  | t :: ts, _, ⟨av, tl, e, h1, h2⟩, i + 1, h => by
    subst e
    obtain ⟨v, hv, c0, c1, c2, c3⟩ := NdiCells.get h2 i (by simpa using h)
    have ar : (i + 1) * 4 = i * 4 + 4 := by omega
    refine ⟨v, hv, ?_, ?_, ?_, ?_⟩
    · rw [ar]; exact c0
    · rw [ar]; exact c1
    · rw [ar]; exact c2
    · rw [ar]; exact c3
def NodesR (B : Nat) (w : World) (v : Value) (ns : List Nd) : Prop := ∃ cs : List Value, RowR B w v ns.length 4 cs ∧ NdiCells B w ns cs
theorem NodesR.below {B : Nat} {w w' : World} {v : Value} {ts : List Nd} (h : NodesR B w v ts) (hb : Below B w w') : NodesR B w' v ts := by
  obtain ⟨cs, h1, h2⟩ := h
  exact ⟨cs, h1.below hb, h2.below hb⟩
theorem NodesR.at {B : Nat} {w : World} {A : Option Addr} {n c : Nat} {ts : List Nd} (h : NodesR B w (.slice A n c) ts) (k : Nat) (hk : k < ts.length) : ∃ (b o : Nat) (A2 : Option Addr) (l2 c2 : Nat), A = some ⟨b, o, none⟩ ∧ RowR B w (.slice A2 l2 c2) (ts[k]).attrs.length 2 (attrCells (ts[k]).attrs) ∧
    w.cell? ⟨b, o + k * 4, none⟩ = some (.int .i64 (ts[k]).parent) ∧ w.cell? ⟨b, o + k * 4 + 1, none⟩ = some (.string (tx (ts[k]).name)) ∧ w.cell? ⟨b, o + k * 4 + 2, none⟩ = some (.string (tx (ts[k]).text)) ∧ w.cell? ⟨b, o + k * 4 + 3, none⟩ = some (.slice A2 l2 c2) := by
  obtain ⟨cs, h1, h2⟩ := h
  obtain ⟨b, o, c', hv, _, _, hc⟩ := h1.some (by omega)
  injection hv with e1 e2 e3
  obtain ⟨av, hav, c0, c1, c2, c3⟩ := h2.get k hk
  obtain ⟨A2, c2', rfl⟩ := hav.form
  exact ⟨b, o, A2, _, c2', e1, hav, hc _ _ c0, hc _ _ c1, hc _ _ c2, hc _ _ c3⟩
theorem cells_one_new2 (w : World) (o : Obj) (x : Value) (t : TypeId) : ∀ j u, [x][j]? = some u → ((w.alloc o).alloc (.cells #[x] t)).cell? ((⟨w.heap.size + 1, 0, none⟩ : Addr).add j) = some u := by
  have := cells_one_new (w.alloc o) x t
  rwa [show (w.alloc o).heap.size = w.heap.size + 1 by simp] at this

end Go.Proofs.YtbpcoiblddhnjaaDoor
