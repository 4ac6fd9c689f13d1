/-
  Layer 3: how a tree under way lies in memory; rows that may be read.
-/
import Derived.Test.YtkccockdnjjanaaGreatDoorTkAwake
import Derived.Test.YtkccockdnjjanaaGreatDoorBa
import Derived.WalkSmall
import Derived.Laws.AppendOwnNone
namespace Go.Proofs.YtkccockdnjjanaaGreatDoor
open Nwl
open Go.RowKit Go.Maps
set_option linter.unusedVariables false


/-- tokens that may be read -/
def TkiCells (B : Nat) (w : World) : List Tki → List Value → Prop
  | [], cs => cs = []
  | t :: ts, cs => ∃ (av : Value) (tl : List Value), cs = [.int .i64 t.kind, .string (tx t.name), .string (tx t.text), av, .bool t.empty] ++ tl ∧ RowR B w av t.attrs.length 2 (attrCells t.attrs) ∧ TkiCells B w ts tl
theorem TkiCells.below {B : Nat} {w w' : World} (hb : Below B w w') : ∀ {ts : List Tki} {cs : List Value}, TkiCells B w ts cs → TkiCells B w' ts cs
  | [], _, h => h
  | t :: ts, _, ⟨av, tl, e, h1, h2⟩ => ⟨av, tl, e, h1.below hb, TkiCells.below hb h2⟩
theorem TkiCells.get {B : Nat} {w : World} : ∀ {ts : List Tki} {cs : List Value}, TkiCells B w ts cs → ∀ (i : Nat) (h : i < ts.length), ∃ av : Value, RowR B w av (ts[i]).attrs.length 2 (attrCells (ts[i]).attrs) ∧ cs[i * 5]? = some (.int .i64 (ts[i]).kind) ∧ cs[i * 5 + 1]? = some (.string (tx (ts[i]).name)) ∧ cs[i * 5 + 2]? = some (.string (tx (ts[i]).text)) ∧ cs[i * 5 + 3]? = some av ∧ cs[i * 5 + 4]? = some (.bool (ts[i]).empty)
  | [], _, _, i, h => by simp at h
  | t :: ts, _, ⟨av, tl, e, h1, h2⟩, 0, _ => by subst e; exact ⟨av, h1, rfl, rfl, rfl, rfl, rfl⟩
  | t :: ts, _, ⟨av, tl, e, h1, h2⟩, i + 1, h => by
    subst e
    obtain ⟨v, hv, c0, c1, c2, c3, c4⟩ := TkiCells.get h2 i (by simpa using h)
    have ar : (i + 1) * 5 = i * 5 + 5 := by omega
    refine ⟨v, hv, ?_, ?_, ?_, ?_, ?_⟩
    · rw [ar]; exact c0
    · rw [ar]; exact c1
    · rw [ar]; exact c2
    · rw [ar]; exact c3
    · rw [ar]; exact c4
def ToksR (B : Nat) (w : World) (v : Value) (ts : List Tki) : Prop := ∃ cs : List Value, RowR B w v ts.length 5 cs ∧ TkiCells B w ts cs
theorem ToksR.below {B : Nat} {w w' : World} {v : Value} {ts : List Tki} (h : ToksR B w v ts) (hb : Below B w w') : ToksR B w' v ts := by
  obtain ⟨cs, h1, h2⟩ := h
  exact ⟨cs, h1.below hb, h2.below hb⟩
theorem TkiCells.of {B base : Nat} {w : World} (hB : w.heap.size ≤ B) : ∀ {ts : List Tok} {cs : List Value}, TokCells w base ts cs → TkiCells B w (ts.map Tok.up) cs
  | [], _, h => h
  | t :: ts, _, ⟨A, l, c, tl, e, h1, h2⟩ => ⟨.slice A l c, tl, e, RowR.of h1 hB, TkiCells.of hB h2⟩
theorem ToksR.of {base : Nat} {w : World} {v : Value} {ts : List Tok} (h : ToksAt base w v ts) : ToksR w.heap.size w v (ts.map Tok.up) := by
  obtain ⟨cs, h1, h2⟩ := h
  exact ⟨cs, by rw [List.length_map]; exact RowR.of h1 (Nat.le_refl _), TkiCells.of (Nat.le_refl _) h2⟩

/-- nodes as cells: each node's attributes lie in a row from B on -/
def NdCells (w : World) (B : Nat) : List Nd → List Value → Prop
  | [], cs => cs = []
  | n :: ns, cs => ∃ (A : Option Addr) (l c : Nat) (tl : List Value), cs = [.int .i64 n.parent, .string (tx n.name), .string (tx n.text), .slice A l c] ++ tl ∧ w.ownsRow B 61 2 (.slice A l c) n.attrs.length (attrCells n.attrs) ∧ NdCells w B ns tl
theorem NdCells.snoc {w : World} {B : Nat} {n : Nd} {A : Option Addr} {l c : Nat} (h : w.ownsRow B 61 2 (.slice A l c) n.attrs.length (attrCells n.attrs)) : ∀ {ns : List Nd} {cs : List Value}, NdCells w B ns cs → NdCells w B (ns ++ [n]) (cs ++ [.int .i64 n.parent, .string (tx n.name), .string (tx n.text), .slice A l c])
  | [], cs, hc => by
    unfold NdCells at hc
    subst hc
    exact ⟨A, l, c, [], by simp, h, rfl⟩
  | t' :: ts, cs, hc => by
    obtain ⟨A', l', c', tl, rfl, h1, h2⟩ := hc
    exact ⟨A', l', c', tl ++ _, by simp, h1, NdCells.snoc h h2⟩
theorem NdCells.kept {w w' : World} {B : Nat} {row : Option Nat} (hg : w.grownBy w' row) (hr : ∀ (v : Value) (n : Nat) (xs : List Value), w.ownsRow B 61 2 v n xs → v.ownBlock = none ∨ v.ownBlock ≠ row) : ∀ {ts : List Nd} {cs : List Value}, NdCells w B ts cs → NdCells w' B ts cs
  | [], cs, hc => hc
  | t' :: ts, cs, hc => by
    obtain ⟨A', l', c', tl, rfl, h1, h2⟩ := hc
    exact ⟨A', l', c', tl, rfl, h1.kept hg (hr _ _ _ h1), NdCells.kept hg hr h2⟩
theorem NdCells.get {w : World} {B : Nat} : ∀ {ns : List Nd} {cs : List Value}, NdCells w B ns cs → ∀ (i : Nat) (h : i < ns.length), ∃ (A : Option Addr) (l c : Nat), w.ownsRow B 61 2 (.slice A l c) (ns[i]).attrs.length (attrCells (ns[i]).attrs) ∧ cs[i * 4]? = some (.int .i64 (ns[i]).parent) ∧ cs[i * 4 + 1]? = some (.string (tx (ns[i]).name)) ∧ cs[i * 4 + 2]? = some (.string (tx (ns[i]).text)) ∧ cs[i * 4 + 3]? = some (.slice A l c)
  | [], _, _, i, h => by simp at h
  | t :: ts, _, ⟨A, l, c, tl, e, h1, h2⟩, 0, _ => by subst e; exact ⟨A, l, c, h1, rfl, rfl, rfl, rfl⟩
  | t :: ts, _, ⟨A, l, c, tl, e, h1, h2⟩, i + 1, h => by
    subst e
    obtain ⟨A, l, c, hv, c0, c1, c2, c3⟩ := NdCells.get h2 i (by simpa using h)
    have ar : (i + 1) * 4 = i * 4 + 4 := by omega
    refine ⟨A, l, c, hv, ?_, ?_, ?_, ?_⟩
    · rw [ar]; exact c0
    · rw [ar]; exact c1
    · rw [ar]; exact c2
    · rw [ar]; exact c3
theorem NdCells.text {w : World} {B : Nat} {n : Nd} {x : List UInt8} : ∀ {ns : List Nd} {cs : List Value}, NdCells w B (ns ++ [n]) cs → NdCells w B (ns ++ [{ n with text := x }]) (cs.set (ns.length * 4 + 2) (.string (tx x)))
  | [], _, ⟨A, l, c, tl, e, h1, h2⟩ => by
    subst e
    exact ⟨A, l, c, tl, rfl, h1, h2⟩
  | t :: ts, _, ⟨A, l, c, tl, e, h1, h2⟩ => by
    subst e
    have ar : (t :: ts).length * 4 + 2 = (ts.length * 4 + 2) + 4 := by simp; omega
    rw [ar]
    exact ⟨A, l, c, _, rfl, h1, NdCells.text h2⟩


def placesC (op : List Nat) : List Value := op.map fun k : Nat => .int .i64 (k : Int)
theorem placesC_snoc (o : List Nat) (q : Nat) : placesC (o ++ [q]) = placesC o ++ [.int .i64 (q : Int)] := by simp [placesC]
theorem placesC_length (o : List Nat) : (placesC o).length = o.length := by simp [placesC]
/-- a tree under way, in block b, from B on: its four cells, and what lies behind them -/
structure GrV (B b : Nat) (vn vo p vb : Value) (ns : List Nd) (op : List Nat) (run : List UInt8) (w : World) : Prop where
  base : B ≤ b
  blk : Blk w b 49 #[vn, vo, p, vb]
  ptr : p = .pointer none ∨ p = .pointer (some ⟨b, 2, none⟩)
  nodes : ∃ cs : List Value, w.ownsRow B 32 4 vn ns.length cs ∧ NdCells w B ns cs
  opn : w.ownsRow B 3 1 vo op.length (placesC op)
  run : w.ownsRowF B 5 1 vb run.length (Lib.byteCells run)
section
variable {B b : Nat} {vn vo p vb : Value} {ns : List Nd} {op : List Nat} {run : List UInt8} {w w' : World}
theorem GrV.lt (h : GrV B b vn vo p vb ns op run w) : b < w.heap.size := h.blk.lt
/-- a step that writes no row and not the block -/
theorem GrV.same (h : GrV B b vn vo p vb ns op run w) (hg : w.grownBy w' none) : GrV B b vn vo p vb ns op run w' := by
  obtain ⟨cs, h1, h2⟩ := h.nodes
  have hn : ∀ v : Value, v.ownBlock = none ∨ v.ownBlock ≠ none := fun v => by cases v.ownBlock <;> simp
  exact ⟨h.base, h.blk.grown hg (by simp), h.ptr, ⟨cs, h1.kept hg (hn _), h2.kept hg fun v _ _ _ => hn v⟩, h.opn.kept hg (hn _), h.run.kept hg (hn _)⟩
theorem GrV.alloc (h : GrV B b vn vo p vb ns op run w) (o : Obj) : GrV B b vn vo p vb ns op run (w.alloc o) := h.same (World.grownBy_alloc w o none)
/-- a cell of the block is written -/
theorem GrV.cell (h : GrV B b vn vo p vb ns op run w) (i : Nat) (u : Value) : Blk (w.setCell ⟨b, i, none⟩ u) b 49 (#[vn, vo, p, vb].setIfInBounds i u) ∧
    (∀ (t : TypeId) (size n : Nat) (v : Value) (xs : List Value), t ≠ 49 → w.ownsRow B t size v n xs → (w.setCell ⟨b, i, none⟩ u).ownsRow B t size v n xs) ∧
    (∀ (t : TypeId) (size n : Nat) (v : Value) (xs : List Value), t ≠ 49 → w.ownsRowF B t size v n xs → (w.setCell ⟨b, i, none⟩ u).ownsRowF B t size v n xs) ∧
    (∀ (ns : List Nd) (cs : List Value), NdCells w B ns cs → NdCells (w.setCell ⟨b, i, none⟩ u) B ns cs) ∧ Below B w (w.setCell ⟨b, i, none⟩ u) := by
  have hg := setCell_grown w b i u
  refine ⟨h.blk.set i u, fun t size n v xs ht hr => hr.kept hg (.inr (own_ne hr h.blk ht)), fun t size n v xs ht hr => hr.kept hg (.inr (own_neF hr h.blk ht)), fun ns cs hn => hn.kept hg fun v n xs hr => .inr (own_ne hr h.blk (by decide)), ?_⟩
  exact (Below.refl B w).setCell (p := ⟨b, i, none⟩) h.base u
theorem GrV.setPtr (h : GrV B b vn vo p vb ns op run w) {q : Value} (hq : q = .pointer none ∨ q = .pointer (some ⟨b, 2, none⟩)) : GrV B b vn vo q vb ns op run (w.setCell ⟨b, 2, none⟩ q) := by
  obtain ⟨h1, h2, h3, h4, _⟩ := h.cell 2 q
  obtain ⟨cs, n1, n2⟩ := h.nodes
  exact ⟨h.base, h1, hq, ⟨cs, h2 _ _ _ _ _ (by decide) n1, h4 _ _ n2⟩, h2 _ _ _ _ _ (by decide) h.opn, h3 _ _ _ _ _ (by decide) h.run⟩
theorem GrV.setRun (h : GrV B b vn vo p vb ns op run w) {v' : Value} {run' : List UInt8} (hr : w.ownsRowF B 5 1 v' run'.length (Lib.byteCells run')) : GrV B b vn vo p v' ns op run' (w.setCell ⟨b, 3, none⟩ v') := by
  obtain ⟨h1, h2, h3, h4, _⟩ := h.cell 3 v'
  obtain ⟨cs, n1, n2⟩ := h.nodes
  exact ⟨h.base, h1, h.ptr, ⟨cs, h2 _ _ _ _ _ (by decide) n1, h4 _ _ n2⟩, h2 _ _ _ _ _ (by decide) h.opn, h3 _ _ _ _ _ (by decide) hr⟩
theorem GrV.setOpn (h : GrV B b vn vo p vb ns op run w) {v' : Value} {op' : List Nat} (hr : w.ownsRow B 3 1 v' op'.length (placesC op')) : GrV B b vn v' p vb ns op' run (w.setCell ⟨b, 1, none⟩ v') := by
  obtain ⟨h1, h2, h3, h4, _⟩ := h.cell 1 v'
  obtain ⟨cs, n1, n2⟩ := h.nodes
  exact ⟨h.base, h1, h.ptr, ⟨cs, h2 _ _ _ _ _ (by decide) n1, h4 _ _ n2⟩, h2 _ _ _ _ _ (by decide) hr, h3 _ _ _ _ _ (by decide) h.run⟩
theorem GrV.setNodes (h : GrV B b vn vo p vb ns op run w) {v' : Value} {ns' : List Nd} (hr : ∃ cs : List Value, w.ownsRow B 32 4 v' ns'.length cs ∧ NdCells w B ns' cs) : GrV B b v' vo p vb ns' op run (w.setCell ⟨b, 0, none⟩ v') := by
  obtain ⟨h1, h2, h3, h4, _⟩ := h.cell 0 v'
  obtain ⟨cs, n1, n2⟩ := hr
  exact ⟨h.base, h1, h.ptr, ⟨cs, h2 _ _ _ _ _ (by decide) n1, h4 _ _ n2⟩, h2 _ _ _ _ _ (by decide) h.opn, h3 _ _ _ _ _ (by decide) h.run⟩
/-- the nodes' row is written on: what else there is stays -/
theorem GrV.onNodes (h : GrV B b vn vo p vb ns op run w) (hg : w.grownBy w' vn.ownBlock) {ns' : List Nd} {cs' : List Value} {vn' : Value} (hr : w'.ownsRow B 32 4 vn' ns'.length cs') (hn : NdCells w B ns' cs') : Blk w' b 49 #[vn, vo, p, vb] ∧ GrV B b vn' vo p vb ns' op run (w'.setCell ⟨b, 0, none⟩ vn') := by
  obtain ⟨cs, n1, n2⟩ := h.nodes
  have hb : Blk w' b 49 #[vn, vo, p, vb] := h.blk.grown hg (fun e => own_ne n1 h.blk (by decide) e.symm)
  have ho := h.opn.kept hg (own_ne_own h.opn n1 (by decide))
  have hu := h.run.kept hg (apartF h.run (World.ownsRowF_of n1) (by decide))
  have hn' := hn.kept hg fun v n xs hr => own_ne_own hr n1 (by decide)
  refine ⟨hb, ?_⟩
  have hgc := setCell_grown w' b 0 vn'
  exact ⟨h.base, hb.set 0 vn', h.ptr, ⟨cs', hr.kept hgc (.inr (own_ne hr hb (by decide))), hn'.kept hgc fun v n xs hr => .inr (own_ne hr hb (by decide))⟩, ho.kept hgc (.inr (own_ne ho hb (by decide))), hu.kept hgc (.inr (own_neF hu hb (by decide)))⟩
/-- a row apart from the nodes', the texts', and not the block, is written -/
theorem GrV.keptN (h : GrV B b vn vo p vb ns op run w) (hg : w.grownBy w' vo.ownBlock) {vo' : Value} {op' : List Nat} (hr : w'.ownsRow B 3 1 vo' op'.length (placesC op')) : Blk w' b 49 #[vn, vo, p, vb] ∧ GrV B b vn vo' p vb ns op' run (w'.setCell ⟨b, 1, none⟩ vo') := by
  obtain ⟨cs, n1, n2⟩ := h.nodes
  have hb : Blk w' b 49 #[vn, vo, p, vb] := h.blk.grown hg (fun e => own_ne h.opn h.blk (by decide) e.symm)
  have ho := n1.kept hg (own_ne_own n1 h.opn (by decide))
  have hu := h.run.kept hg (apartF h.run (World.ownsRowF_of h.opn) (by decide))
  have hn' := n2.kept hg fun v n xs hr => own_ne_own hr h.opn (by decide)
  have hgc := setCell_grown w' b 1 vo'
  exact ⟨hb, h.base, hb.set 1 vo', h.ptr, ⟨cs, ho.kept hgc (.inr (own_ne ho hb (by decide))), hn'.kept hgc fun v n xs hr => .inr (own_ne hr hb (by decide))⟩, hr.kept hgc (.inr (own_ne hr hb (by decide))), hu.kept hgc (.inr (own_neF hu hb (by decide)))⟩
/-- the text's row is written on -/
theorem GrV.keptR (h : GrV B b vn vo p vb ns op run w) (hg : w.grownBy w' vb.ownBlock) {vb' : Value} {run' : List UInt8} (hr : w'.ownsRowF B 5 1 vb' run'.length (Lib.byteCells run')) : Blk w' b 49 #[vn, vo, p, vb] ∧ GrV B b vn vo p vb' ns op run' (w'.setCell ⟨b, 3, none⟩ vb') := by
  obtain ⟨cs, n1, n2⟩ := h.nodes
  have hb : Blk w' b 49 #[vn, vo, p, vb] := h.blk.grown hg (fun e => own_neF h.run h.blk (by decide) e.symm)
  have ho := n1.kept hg (apartF (World.ownsRowF_of n1) h.run (by decide))
  have hu := h.opn.kept hg (apartF (World.ownsRowF_of h.opn) h.run (by decide))
  have hn' := n2.kept hg fun v n xs hr => apartF (World.ownsRowF_of hr) h.run (by decide)
  have hgc := setCell_grown w' b 3 vb'
  exact ⟨hb, h.base, hb.set 3 vb', h.ptr, ⟨cs, ho.kept hgc (.inr (own_ne ho hb (by decide))), hn'.kept hgc fun v n xs hr => .inr (own_ne hr hb (by decide))⟩, hu.kept hgc (.inr (own_ne hu hb (by decide))), hr.kept hgc (.inr (own_neF hr hb (by decide)))⟩
end
/-- blocks that hold a token stay -/
def KeepTok (w w' : World) : Prop := ∀ (k : Nat) (cs : Array Value), Blk w k 53 cs → Blk w' k 53 cs
theorem KeepTok.refl (w : World) : KeepTok w w := fun _ _ h => h
theorem KeepTok.trans {a b c : World} (h : KeepTok a b) (k : KeepTok b c) : KeepTok a c := fun n cs x => k n cs (h n cs x)
/-- the text of the last node is settled -/
theorem GrV.settle {B b gn capn : Nat} {vo p vb : Value} {pre : List Nd} {n : Nd} {op : List Nat} {run : List UInt8} {w w1 : World} (h : GrV B b (.slice (some ⟨gn, 0, none⟩) (pre.length + 1) capn) vo p vb (pre ++ [n]) op run w) (hg : w.grownBy w1 vb.ownBlock) :
    Blk w1 b 49 #[.slice (some ⟨gn, 0, none⟩) (pre.length + 1) capn, vo, p, vb] ∧ w1.cell? ⟨gn, pre.length * 4 + 2, none⟩ = some (.string (tx n.text)) ∧ w1.frozen? ⟨gn, pre.length * 4 + 2, none⟩ = false ∧
    Blk (w1.setCell ⟨gn, pre.length * 4 + 2, none⟩ (.string (tx run))) b 49 #[.slice (some ⟨gn, 0, none⟩) (pre.length + 1) capn, vo, p, vb] ∧
    GrV B b (.slice (some ⟨gn, 0, none⟩) (pre.length + 1) capn) vo (.pointer none) (.slice none 0 0) (pre ++ [{ n with text := run }]) op [] (((w1.setCell ⟨gn, pre.length * 4 + 2, none⟩ (.string (tx run))).setCell ⟨b, 2, none⟩ (.pointer none)).setCell ⟨b, 3, none⟩ (.slice none 0 0)) ∧
    Below B w (w1.setCell ⟨gn, pre.length * 4 + 2, none⟩ (.string (tx run))) ∧ KeepTok w (((w1.setCell ⟨gn, pre.length * 4 + 2, none⟩ (.string (tx run))).setCell ⟨b, 2, none⟩ (.pointer none)).setCell ⟨b, 3, none⟩ (.slice none 0 0)) := by
  obtain ⟨cs, n1, n2⟩ := h.nodes
  have hl : (pre ++ [n]).length = pre.length + 1 := by simp
  have hl' : (pre ++ [{ n with text := run }]).length = pre.length + 1 := by simp
  have hb : Blk w1 b 49 #[.slice (some ⟨gn, 0, none⟩) (pre.length + 1) capn, vo, p, vb] := h.blk.grown hg (fun e => own_neF h.run h.blk (by decide) e.symm)
  have k1 := n1.kept hg (apartF (World.ownsRowF_of n1) h.run (by decide))
  have k2 := n2.kept hg fun v n xs hr => apartF (World.ownsRowF_of hr) h.run (by decide)
  have ko := h.opn.kept hg (apartF (World.ownsRowF_of h.opn) h.run (by decide))
  rw [hl] at k1
  obtain ⟨A, l, c, _, _, _, ct, _⟩ := k2.get pre.length (by simp)
  rw [show (pre ++ [n])[pre.length]'(by simp) = n by simp] at ct
  obtain ⟨s1, sg⟩ := k1.stored (pre.length * 4 + 2) (.string (tx run))
  have hgn : (⟨gn, 0, none⟩ : Addr).block = gn := rfl
  have hne : some b ≠ some gn := fun e => by
    injection e with e
    subst e
    exact own_ne k1 hb (by decide) rfl
  have hb2 := hb.grown sg hne
  have t2 := (k2.kept sg fun v n xs hr => own_ne_own hr k1 (by decide)).text (x := run)
  have o2 := ko.kept sg (own_ne_own ko k1 (by decide))
  have hB1 : Below B w w1 := (Below.refl B w).grown hg (by have := h.base; have := h.lt; omega) (fun k hk => (h.run.lt k hk).1)
  refine ⟨hb, ?_, k1.frozenAt _, hb2, ?_, hB1.setCell (p := ⟨gn, pre.length * 4 + 2, none⟩) (k1.lt gn rfl).1 _, ?_⟩
  · rw [k1.cellAt _ (by omega)]
    exact ct
  · have c2 := setCell_grown (w1.setCell ⟨gn, pre.length * 4 + 2, none⟩ (.string (tx run))) b 2 (.pointer none)
    have hb3 := hb2.set 2 (.pointer none)
    have c3 := setCell_grown ((w1.setCell ⟨gn, pre.length * 4 + 2, none⟩ (.string (tx run))).setCell ⟨b, 2, none⟩ (.pointer none)) b 3 (.slice none 0 0)
    have hb4 := hb3.set 3 (.slice none 0 0)
    have s3 := s1.kept c2 (.inr (own_ne s1 hb2 (by decide)))
    have o3 := o2.kept c2 (.inr (own_ne o2 hb2 (by decide)))
    have t3 := t2.kept c2 fun v n xs hr => .inr (own_ne hr hb2 (by decide))
    have s4 := s3.kept c3 (.inr (own_ne s3 hb3 (by decide)))
    have o4 := o3.kept c3 (.inr (own_ne o3 hb3 (by decide)))
    have t4 := t3.kept c3 fun v n xs hr => .inr (own_ne hr hb3 (by decide))
    exact ⟨h.base, hb4, .inl rfl, ⟨_, by rw [hl']; exact s4, t4⟩, o4, World.ownsRowF_nil _ _ _ _⟩
  · intro k ds hk
    have hk1 := hk.grown hg (fun e => own_neF h.run hk (by decide) e.symm)
    have hk2 := hk1.grown sg (fun e => own_ne k1 hk1 (by decide) e.symm)
    have hk3 := hk2.grown (setCell_grown _ b 2 (.pointer none)) (hk2.apart hb2 (by decide))
    exact hk3.grown (setCell_grown _ b 3 (.slice none 0 0)) (hk3.apart (hb2.set 2 (.pointer none)) (by decide))
theorem GrV.drew {B b : Nat} {vn vo p vb : Value} {ns : List Nd} {op : List Nat} {run : List UInt8} {w : World} (h : GrV B b vn vo p vb ns op run w) : GrV B b vn vo p vb ns op run w.drew := ⟨h.base, h.blk, h.ptr, h.nodes.elim fun cs hc => ⟨cs, hc.1, NdCells.kept (w := w) (w' := w.drew) (row := none) ⟨rfl, rfl, rfl, Nat.le_refl _, fun _ _ _ => rfl⟩ (fun v _ _ _ => by cases v.ownBlock <;> simp) hc.2⟩, h.opn, h.run⟩
/-- a tree under way -/
def GrM (B b : Nat) (ns : List Nd) (op : List Nat) (run : List UInt8) (w : World) : Prop := ∃ vn vo p vb : Value, GrV B b vn vo p vb ns op run w
def GrAt (B b : Nat) (g : Gst) (w : World) : Prop := g.Ok ∧ GrM B b g.mem g.opn g.run w
theorem GrAt.fresh (w : World) : GrAt w.heap.size w.heap.size Gst.none (w.alloc (.cells #[.slice none 0 0, .slice none 0 0, .pointer none, .slice none 0 0] 49)) :=
  ⟨Gst.none_ok, _, _, _, _, Nat.le_refl _, heap_alloc_new w _, .inl rfl, ⟨[], World.ownsRow_nil _ _ _ _, rfl⟩, World.ownsRow_nil _ _ _ _, World.ownsRowF_nil _ _ _ _⟩

end Go.Proofs.YtkccockdnjjanaaGreatDoor
