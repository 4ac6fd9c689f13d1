/-
  Rows of whole numbers that a call makes by appending.
-/
import Derived.Test.YtkccockdnjjanaaBa
import Derived.Laws.OwnMore
namespace Go.Proofs.Ytkccockdnjjanaa
open Nwl
open Go.RowKit Go.Maps
set_option linter.unusedVariables false
set_option linter.unusedSimpArgs false
theorem info_io : (Try.prog.info? 3).map (fun i => (i.zero, i.size, i.bytes)) = some (some (.int .i64 0), 1, 8) := by kernel_rfl
theorem info_iop {P : Program} {t : TypeId} {z : Value} {a b : Nat} (h : (P.info? t).map (fun i => (i.zero, i.size, i.bytes)) = some (some z, a, b)) : ∃ i, P.info? t = some i ∧ i.zero = some z ∧ i.size = a ∧ i.bytes = b := by
  obtain ⟨i, hi, he⟩ := Option.map_eq_some_iff.1 h
  injection he with e1 e2
  injection e2 with e2 e3
  exact ⟨i, hi, e1, e2, e3⟩
def ioCells (l : List Nat) : List Value := l.map fun (k : Nat) => Value.int .i64 (k : Int)
/-- numbers that may be read, below block B -/
def IoR (B : Nat) (w : World) (A : Option Addr) (n : Nat) (l : List Nat) : Prop := n = l.length ∧ ∀ j (hj : j < l.length), ∃ b o, A = some ⟨b, o, none⟩ ∧ b < B ∧ w.cell? ⟨b, o + j, none⟩ = some (.int .i64 (l[j] : Int))
theorem IoR.below {B : Nat} {w w' : World} {A : Option Addr} {n : Nat} {l : List Nat} (h : IoR B w A n l) (hb : Below B w w') : IoR B w' A n l :=
  ⟨h.1, fun j hj => by
    obtain ⟨b, o, q1, q2, q3⟩ := h.2 j hj
    exact ⟨b, o, q1, q2, (hb.cell (p := ⟨b, o + j, none⟩) q2).trans q3⟩⟩
theorem IoR.up {B B' : Nat} {w : World} {A : Option Addr} {n : Nat} {l : List Nat} (h : IoR B w A n l) (hB : B ≤ B') : IoR B' w A n l :=
  ⟨h.1, fun j hj => by
    obtain ⟨b, o, q1, q2, q3⟩ := h.2 j hj
    exact ⟨b, o, q1, by omega, q3⟩⟩
theorem IoR.on {w w' : World} {A : Option Addr} {n : Nat} {l : List Nat} (h : IoR w.heap.size w A n l) (hb : Below w.heap.size w w') : IoR w'.heap.size w' A n l := (h.below hb).up hb.size
/-- a row of numbers that was made from block B on -/
def IoO (B : Nat) (w : World) (A : Option Addr) (n c : Nat) (l : List Nat) : Prop := n = l.length ∧ w.ownsRow B 3 1 (.slice A n c) n (ioCells l)
theorem IoO.nil (B : Nat) (w : World) : IoO B w none 0 0 [] := ⟨rfl, World.ownsRow_nil _ _ _ _⟩
theorem IoO.below {B : Nat} {w w' : World} {A : Option Addr} {n c : Nat} {l : List Nat} (h : IoO B w A n c l) (hb : Below w.heap.size w w') : IoO B w' A n c l := by
  obtain ⟨hn, h⟩ := h
  refine ⟨hn, h.1, ?_⟩
  rcases h.2 with h0 | ⟨g, cap, cur, hv, hg, hh, hc, hx, hs, ht⟩
  · exact .inl h0
  · exact .inr ⟨g, cap, cur, hv, hg, (hb.block g (Array.getElem?_eq_some_iff.1 hh).1).trans hh, hc, hx, hs, ht⟩
theorem IoO.r {B : Nat} {w : World} {A : Option Addr} {n c : Nat} {l : List Nat} (h : IoO B w A n c l) : IoR w.heap.size w A n l := by
  refine ⟨h.1, fun j hj => ?_⟩
  obtain ⟨hn, h0⟩ := h
  rcases h0.2 with ⟨hv, h1⟩ | ⟨g, cap, cur, hv, hg, hh, hc, hm, hs, ht⟩
  · omega
  · injection hv with e1 e2 e3
    subst e1 e3
    have q : (ioCells l)[j]? = some (.int .i64 (l[j] : Int)) := by unfold ioCells; rw [List.getElem?_map, List.getElem?_eq_getElem hj]; rfl
    have r1 := h0.cells (g := g) rfl _ _ q
    rw [addr_add0'] at r1
    exact ⟨g, 0, rfl, (Array.getElem?_eq_some_iff.1 hh).1, by rw [Nat.zero_add]; exact r1⟩
set_option maxRecDepth 100000 in
theorem io_snoc {B : Nat} {w : World} {A : Option Addr} {n c : Nat} {l : List Nat} (h : IoO B w A n c l) (hB : B ≤ w.heap.size) (d : Nat) (hn : n ≤ 1000000000000) :
    ∃ (A2 : Option Addr) (c2 : Nat) (W' : World), (Builtin.append_ #[49, 49] 49 #[.slice A n c, .slice (some ⟨w.heap.size, 0, none⟩) 1 1]).run Try.prog (w.alloc (.cells #[.int .i64 (d : Int)] 3)) = .ok (.slice A2 (n + 1) c2) W' ∧ IoO B W' A2 (n + 1) c2 (l ++ [d]) ∧ Below B w W' := by
  obtain ⟨i0, hi, hz0, hz1, hz2⟩ := info_iop info_io
  have hb : Below w.heap.size w (w.alloc (.cells #[.int .i64 (d : Int)] 3)) := (Below.refl _ _).alloc (Nat.le_refl _) _
  have h2 := h.below hb
  obtain ⟨v', W', hr, hown, hg, _⟩ := run_append_own (P := Try.prog) (w.alloc (.cells #[.int .i64 (d : Int)] 3)) B 49 49 3 i0 _ 1 8 Try.underlying49 hi hz0 hz1 hz2 rfl (by decide) _ n _ h2.2 ⟨w.heap.size, 0, none⟩ 1 1 [.int .i64 (d : Int)] rfl (fun j u hu => by
      match j, hu with
      | 0, hu =>
        injection hu with hu
        subst hu
        have := (Blk.new w 3 #[.int .i64 (d : Int)]).cell 0
        rw [addr_add0']
        exact this
      | j + 1, hu => simp at hu) (fun u hu => by simp at hu; subst hu; rfl) (by unfold maxLen; omega) (by omega) (Nat.le_trans hB hb.size)
  obtain ⟨A2, c2, rfl⟩ := own_form hown
  refine ⟨A2, c2, W', hr, ⟨by rw [List.length_append, ← h.1]; rfl, ?_⟩, (hb.mono hB).trans ((Below.refl B _).grown hg (Nat.le_trans hB hb.size) (fun k hk => (h2.2.lt k hk).1))⟩
  have e : ioCells (l ++ [d]) = ioCells l ++ [.int .i64 (d : Int)] := by
    unfold ioCells
    rw [List.map_append]; rfl
  rw [e]
  exact hown
end Go.Proofs.Ytkccockdnjjanaa
