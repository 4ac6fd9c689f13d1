/-
  The document's own answers (layer 2): the walk: what a token under way is.
-/
import Derived.Test.YtlfpmfdlfhldbaaGreatDoorRfAttr
namespace Go.Proofs.YtlfpmfdlfhldbaaGreatDoor
open Nwl
open Go.RowKit Go.Maps
set_option linter.unusedVariables false
set_option linter.unusedSimpArgs false

/-- what a step that tells a token answers -/
def RtPost (g : Nat) (S : ByteArray) (x : Option (Tok × List UInt8)) (w : World) (e : Ending) (w' : World) : Prop :=
  match x with
  | some (t, rest) => (∃ (A : Option Addr) (l c : Nat), e = .returned (.tuple #[.agg #[.int .i64 (t.kind : Int), .string (tx t.name), .string (tx t.text), .slice A l c, .bool t.empty], .bool true]) ∧ w'.ownsRow w.heap.size 63 2 (.slice A l c) t.attrs.length (attrCells t.attrs)) ∧ (∃ i : Nat, i ≤ S.size ∧ rest = (bs S).drop i ∧ RW g S i w') ∧ w.grownBy w' (some g)
  | none => (∃ (k : Int) (n y : ByteArray) (A : Option Addr) (l c : Nat) (em : Bool), e = .returned (.tuple #[.agg #[.int .i64 k, .string n, .string y, .slice A l c, .bool em], .bool false])) ∧ (∃ i : Nat, i ≤ S.size ∧ RW g S i w') ∧ w.grownBy w' (some g)
theorem rtPost_none {g : Nat} {S : ByteArray} {x : Option (Tok × List UInt8)} {w : World} {e : Ending} {w' : World} {i : Nat} {k : Int} {n y : ByteArray} {A : Option Addr} {l c : Nat} {em : Bool} (h : x = none) (he : e = .returned (.tuple #[.agg #[.int .i64 k, .string n, .string y, .slice A l c, .bool em], .bool false])) (hi : i ≤ S.size) (hr : RW g S i w') (hg : w.grownBy w' (some g)) : RtPost g S x w e w' := by subst h; exact ⟨⟨k, n, y, A, l, c, em, he⟩, ⟨i, hi, hr⟩, hg⟩
/-- .. of a token without attributes -/
theorem rtPost_plain {g : Nat} {S : ByteArray} {x : Option (Tok × List UInt8)} {w : World} {e : Ending} {w' : World} {i kd : Nat} {nm ts rest : List UInt8} (h : x = some (⟨kd, nm, ts, [], false⟩, rest)) (he : e = .returned (.tuple #[.agg #[.int .i64 (kd : Int), .string (tx nm), .string (tx ts), .slice none 0 0, .bool false], .bool true])) (hi : i ≤ S.size) (hrest : rest = (bs S).drop i) (hr : RW g S i w') (hg : w.grownBy w' (some g)) : RtPost g S x w e w' := by
  subst h
  exact ⟨⟨none, 0, 0, he, World.ownsRow_nil _ _ _ _⟩, ⟨i, hi, hrest, hr⟩, hg⟩
/-- a token with nothing in it -/
abbrev tz : Array Value := #[.int .i64 0, .string ⟨#[]⟩, .string ⟨#[]⟩, .slice none 0 0, .bool false]
/-- what is handed back, laid into its box -/
abbrev St5 (W : World) (h : Nat) (v0 v1 v2 v3 v4 : Value) : World := ((((W.setCell ⟨h, 0, none⟩ v0).setCell ⟨h, 1, none⟩ v1).setCell ⟨h, 2, none⟩ v2).setCell ⟨h, 3, none⟩ v3).setCell ⟨h, 4, none⟩ v4
/-- the walk and the box for the answer -/
def PX (w W : World) (g : Nat) (S : ByteArray) (i : Nat) : Prop := RW g S i W ∧ Blk W w.heap.size 32 tz ∧ w.grownBy W (some g) ∧ g < w.heap.size
theorem PX.start {w : World} {g k : Nat} {S : ByteArray} (h : RW g S k w) : PX w (w.alloc (.cells tz 32)) g S k :=
  ⟨Blk.alloc h _, Blk.new w _ _, World.grownBy_alloc w _ _, Blk.lt h⟩
theorem PX.start2 {w : World} {g k : Nat} {S : ByteArray} (h : RW g S k w) (k' : Nat) : PX w ((w.setCell ⟨g, 1, none⟩ (.int .i64 (k' : Int))).alloc (.cells tz 32)) g S k' := by
  have e : (w.setCell ⟨g, 1, none⟩ (.int .i64 (k' : Int))).heap.size = w.heap.size := by simp
  have h2 := Blk.new (w.setCell ⟨g, 1, none⟩ (.int .i64 (k' : Int))) 32 tz
  rw [e] at h2
  exact ⟨Blk.alloc (h.set k') _, h2, World.grownBy.trans (set_grown w g 1 _) (World.grownBy_alloc _ _ _), Blk.lt h⟩
theorem PX.at {w W : World} {g i : Nat} {S : ByteArray} (h : PX w W g S i) (i' : Nat) : PX w (W.setCell ⟨g, 1, none⟩ (.int .i64 (i' : Int))) g S i' := by
  obtain ⟨h1, h2, h3, h4⟩ := h
  exact ⟨h1.set i', h2.set_far (by omega) _, World.grownBy.trans h3 (set_grown _ _ _ _), h4⟩
theorem PX.grown {w W W' : World} {g i i' : Nat} {S : ByteArray} (h : PX w W g S i) (hg : W.grownBy W' (some g)) (hr : RW g S i' W') : PX w W' g S i' := by
  obtain ⟨h1, h2, h3, h4⟩ := h
  exact ⟨hr, h2.grown hg (by simp; omega), World.grownBy.trans h3 hg, h4⟩
theorem PX.drew {w W : World} {g i : Nat} {S : ByteArray} (h : PX w W g S i) : PX w W.drew g S i := by
  obtain ⟨h1, h2, h3, h4⟩ := h
  exact ⟨h1, h2, grown_drewN h3 1, h4⟩
theorem PX.alloc {w W : World} {g i : Nat} {S : ByteArray} (h : PX w W g S i) (o : Obj) : PX w (W.alloc o) g S i := by
  obtain ⟨h1, h2, h3, h4⟩ := h
  exact ⟨Blk.alloc h1 o, h2.alloc o, World.grownBy.trans h3 (World.grownBy_alloc W _ _), h4⟩
theorem PX.rd {w W : World} {g i : Nat} {S : ByteArray} (h : PX w W g S i) : W.cell? ⟨g, 0, none⟩ = some (.string S) ∧ W.cell? ⟨g, 1, none⟩ = some (.int .i64 (i : Int)) ∧ W.cell? ⟨w.heap.size, 0, none⟩ = some (.int .i64 0) ∧ W.cell? ⟨w.heap.size, 1, none⟩ = some (.string ⟨#[]⟩) ∧ W.cell? ⟨w.heap.size, 2, none⟩ = some (.string ⟨#[]⟩) ∧ W.cell? ⟨w.heap.size, 3, none⟩ = some (.slice none 0 0) ∧ W.cell? ⟨w.heap.size, 4, none⟩ = some (.bool false) := ⟨h.1.c0, h.1.c1, h.2.1.cell 0, h.2.1.cell 1, h.2.1.cell 2, h.2.1.cell 3, h.2.1.cell 4⟩
theorem PX.fz {w W : World} {g i : Nat} {S : ByteArray} (h : PX w W g S i) : W.frozen? ⟨g, 1, none⟩ = false ∧ W.frozen? ⟨w.heap.size, 0, none⟩ = false ∧ W.frozen? ⟨w.heap.size, 1, none⟩ = false ∧ W.frozen? ⟨w.heap.size, 2, none⟩ = false ∧ W.frozen? ⟨w.heap.size, 3, none⟩ = false ∧ W.frozen? ⟨w.heap.size, 4, none⟩ = false := ⟨h.1.f1, h.2.1.frozen 0, h.2.1.frozen 1, h.2.1.frozen 2, h.2.1.frozen 3, h.2.1.frozen 4⟩
theorem PX.ed {w W : World} {g i : Nat} {S : ByteArray} (h : PX w W g S i) (v0 v1 v2 v3 v4 : Value) :
    (W.setCell ⟨w.heap.size, 0, none⟩ v0).cell? ⟨w.heap.size, 0, none⟩ = some v0
    ∧ ((W.setCell ⟨w.heap.size, 0, none⟩ v0).setCell ⟨w.heap.size, 1, none⟩ v1).cell? ⟨w.heap.size, 1, none⟩ = some v1
    ∧ (((W.setCell ⟨w.heap.size, 0, none⟩ v0).setCell ⟨w.heap.size, 1, none⟩ v1).setCell ⟨w.heap.size, 2, none⟩ v2).cell? ⟨w.heap.size, 2, none⟩ = some v2
    ∧ ((((W.setCell ⟨w.heap.size, 0, none⟩ v0).setCell ⟨w.heap.size, 1, none⟩ v1).setCell ⟨w.heap.size, 2, none⟩ v2).setCell ⟨w.heap.size, 3, none⟩ v3).cell? ⟨w.heap.size, 3, none⟩ = some v3
    ∧ (St5 W w.heap.size v0 v1 v2 v3 v4).cell? ⟨w.heap.size, 4, none⟩ = some v4 :=
  ⟨(h.2.1.set 0 _).cell 0, ((h.2.1.set 0 _).set 1 _).cell 1, (((h.2.1.set 0 _).set 1 _).set 2 _).cell 2, ((((h.2.1.set 0 _).set 1 _).set 2 _).set 3 _).cell 3, (((((h.2.1.set 0 _).set 1 _).set 2 _).set 3 _).set 4 _).cell 4⟩
theorem PX.fin {w W : World} {g i : Nat} {S : ByteArray} (h : PX w W g S i) (v0 v1 v2 v3 v4 : Value) : RW g S i (St5 W w.heap.size v0 v1 v2 v3 v4) ∧ w.grownBy (St5 W w.heap.size v0 v1 v2 v3 v4) (some g) := by
  obtain ⟨h1, h2, h3, h4⟩ := h
  have hh := Nat.le_refl w.heap.size
  exact ⟨Blk.set_far (Blk.set_far (Blk.set_far (Blk.set_far (Blk.set_far h1 (by omega) _) (by omega) _) (by omega) _) (by omega) _) (by omega) _,
    grown_set_new (grown_set_new (grown_set_new (grown_set_new (grown_set_new h3 hh _) hh _) hh _) hh _) hh _⟩
/-- .. and of a token under way -/
def TX (w W : World) (g : Nat) (S : ByteArray) (i b : Nat) (v0 v1 v2 v3 v4 : Value) : Prop := PX w W g S i ∧ Blk W b 32 #[v0, v1, v2, v3, v4] ∧ w.heap.size < b
theorem TX.new {w W : World} {g i : Nat} {S : ByteArray} (h : PX w W g S i) (v0 v1 v2 v3 v4 : Value) : TX w (W.alloc (.cells #[v0, v1, v2, v3, v4] 32)) g S i W.heap.size v0 v1 v2 v3 v4 :=
  ⟨h.alloc _, Blk.new W _ _, h.2.1.lt⟩
theorem TX.grown {w W W' : World} {g i i' b : Nat} {S : ByteArray} {v0 v1 v2 v3 v4 : Value} (h : TX w W g S i b v0 v1 v2 v3 v4) (hg : W.grownBy W' (some g)) (hr : RW g S i' W') : TX w W' g S i' b v0 v1 v2 v3 v4 :=
  ⟨h.1.grown hg hr, h.2.1.grown hg (by have := h.1.2.2.2; have := h.2.2; simp; omega), h.2.2⟩
theorem TX.drew {w W : World} {g i b : Nat} {S : ByteArray} {v0 v1 v2 v3 v4 : Value} (h : TX w W g S i b v0 v1 v2 v3 v4) : TX w W.drew g S i b v0 v1 v2 v3 v4 := ⟨h.1.drew, h.2.1, h.2.2⟩
theorem TX.at {w W : World} {g i b : Nat} {S : ByteArray} {v0 v1 v2 v3 v4 : Value} (h : TX w W g S i b v0 v1 v2 v3 v4) (i' : Nat) : TX w (W.setCell ⟨g, 1, none⟩ (.int .i64 (i' : Int))) g S i' b v0 v1 v2 v3 v4 :=
  h.grown (set_grown _ _ _ _) (h.1.1.set i')
theorem TX.at1 {w W : World} {g i b : Nat} {S : ByteArray} {v0 v1 v2 v3 v4 : Value} (h : TX w W g S i b v0 v1 v2 v3 v4) : TX w (W.setCell ⟨g, 1, none⟩ (.int .i64 ((i : Int) + 1))) g S (i + 1) b v0 v1 v2 v3 v4 := h.at (i + 1)
theorem TX.rd {w W : World} {g i b : Nat} {S : ByteArray} {v0 v1 v2 v3 v4 : Value} (h : TX w W g S i b v0 v1 v2 v3 v4) : W.cell? ⟨b, 0, none⟩ = some v0 ∧ W.cell? ⟨b, 1, none⟩ = some v1 ∧ W.cell? ⟨b, 2, none⟩ = some v2 ∧ W.cell? ⟨b, 3, none⟩ = some v3 ∧ W.cell? ⟨b, 4, none⟩ = some v4 := ⟨h.2.1.cell 0, h.2.1.cell 1, h.2.1.cell 2, h.2.1.cell 3, h.2.1.cell 4⟩

end Go.Proofs.YtlfpmfdlfhldbaaGreatDoor
