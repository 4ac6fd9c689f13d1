/-
  Rows of pieces in memory; what is asked of the library's variable.
-/
import Derived.Test.YtlblhoeekcglpaaBa
import Derived.Test.YtlblhoeekcglpaaExMath
import Derived.Test.YtlblhoeekcglpaaShelf
import Derived.Laws.OwnMore
namespace Go.Proofs.Ytlblhoeekcglpaa
open Nwl
open Go.RowKit Go.Maps
set_option linter.unusedVariables false
set_option linter.unusedSimpArgs false

theorem tlx (l : List UInt8) : (tx l).toList = l := by rw [ByteArray.toList_eq]; rfl
theorem info_pc : (Try.prog.info? 29).map (fun i => (i.zero, i.size, i.bytes)) = some (some (.agg #[.bool false, .string ⟨#[]⟩]), 2, 24) := by kernel_rfl
theorem info_pcp {P : Program} {t : TypeId} {z : Value} {a b : Nat} (h : (P.info? t).map (fun i => (i.zero, i.size, i.bytes)) = some (some z, a, b)) : ∃ i, P.info? t = some i ∧ i.zero = some z ∧ i.size = a ∧ i.bytes = b := by
  obtain ⟨i, hi, he⟩ := Option.map_eq_some_iff.1 h
  injection he with e1 e2
  injection e2 with e2 e3
  exact ⟨i, hi, e1, e2, e3⟩

/-- what the library's variable holds is a number -/
def GlobE (w : World) : Prop := ∃ m : Int, w.cell? ⟨0, 0, none⟩ = some (.int .i64 m)
theorem cell_lt {w : World} {a : Addr} {v : Value} (h : w.cell? a = some v) : a.block < w.heap.size := by
  rcases Nat.lt_or_ge a.block w.heap.size with h' | h'
  · exact h'
  · simp [World.cell?, Array.getElem?_eq_none h'] at h
theorem GlobE.below {w w' : World} (h : GlobE w) (hb : Below w.heap.size w w') : GlobE w' := by
  obtain ⟨m, hm⟩ := h
  exact ⟨m, (hb.cell (cell_lt hm)).trans hm⟩
theorem globE_of {W : World} (hsh : W.ShapedOpen Try.prog) : GlobE W := Try.laysM219.s1_3 W hsh

/-- pieces as cells -/
def pcCells (l : List Pc) : List Value := l.flatMap fun a => [.bool a.nm, .string (tx a.t)]
theorem pcCells_len : ∀ (l : List Pc), (pcCells l).length = l.length * 2
  | [] => rfl
  | a :: l => by
    have := pcCells_len l
    show ((Value.bool a.nm) :: (Value.string (tx a.t)) :: pcCells l).length = _
    rw [List.length_cons, List.length_cons, this, List.length_cons]
    omega
theorem pcCells_app (a b : List Pc) : pcCells (a ++ b) = pcCells a ++ pcCells b := by simp [pcCells]
theorem pcCells_get : ∀ (l : List Pc) (j : Nat) (h : j < l.length), (pcCells l)[j * 2]? = some (.bool l[j].nm) ∧ (pcCells l)[j * 2 + 1]? = some (.string (tx l[j].t))
  | a :: l, 0, h => ⟨rfl, rfl⟩
  | a :: l, j + 1, h => by
    have := pcCells_get l j (by simpa using h)
    have e : pcCells (a :: l) = .bool a.nm :: .string (tx a.t) :: pcCells l := rfl
    rw [e, show (j + 1) * 2 = j * 2 + 1 + 1 by omega]
    simpa using this
theorem pcCells_one : ∀ (l : List Pc), ∀ u ∈ pcCells l, u.oneCell' = true
  | [], u, h => by simp [pcCells] at h
  | a :: l, u, h => by
    have e : pcCells (a :: l) = .bool a.nm :: .string (tx a.t) :: pcCells l := rfl
    rw [e] at h
    simp at h
    rcases h with rfl | rfl | h
    · rfl
    · rfl
    · exact pcCells_one l u h

/-- pieces that may be read, below block B -/
def PcR (B : Nat) (w : World) (A : Option Addr) (n : Nat) (l : List Pc) : Prop := n = l.length ∧ ∀ j (hj : j < l.length), ∃ b o, A = some ⟨b, o, none⟩ ∧ b < B ∧ w.cell? ⟨b, o + j * 2, none⟩ = some (.bool l[j].nm) ∧ w.cell? ⟨b, o + j * 2 + 1, none⟩ = some (.string (tx l[j].t))
theorem PcR.nil (B : Nat) (w : World) (A : Option Addr) : PcR B w A 0 [] := ⟨rfl, fun j hj => by simp at hj⟩
theorem PcR.below {B : Nat} {w w' : World} {A : Option Addr} {n : Nat} {l : List Pc} (h : PcR B w A n l) (hb : Below B w w') : PcR B w' A n l :=
  ⟨h.1, fun j hj => by
    obtain ⟨b, o, q1, q2, q3, q4⟩ := h.2 j hj
    exact ⟨b, o, q1, q2, (hb.cell (p := ⟨b, o + j * 2, none⟩) q2).trans q3, (hb.cell (p := ⟨b, o + j * 2 + 1, none⟩) q2).trans q4⟩⟩
theorem PcR.up {B B' : Nat} {w : World} {A : Option Addr} {n : Nat} {l : List Pc} (h : PcR B w A n l) (hB : B ≤ B') : PcR B' w A n l :=
  ⟨h.1, fun j hj => by
    obtain ⟨b, o, q1, q2, q3, q4⟩ := h.2 j hj
    exact ⟨b, o, q1, by omega, q3, q4⟩⟩
theorem PcR.on {w w' : World} {A : Option Addr} {n : Nat} {l : List Pc} (h : PcR w.heap.size w A n l) (hb : Below w.heap.size w w') : PcR w'.heap.size w' A n l := (h.below hb).up hb.size
theorem PcR.cells {W : World} {B : Nat} {a : Addr} {n : Nat} {l : List Pc} (h : PcR B W (some a) n l) : ∀ (j : Nat) u, (pcCells l)[j]? = some u → W.cell? (a.add j) = some u := by
  intro j u hu
  have hj : j < l.length * 2 := by
    rcases Nat.lt_or_ge j (l.length * 2) with h' | h'
    · exact h'
    · rw [List.getElem?_eq_none (by rw [pcCells_len]; exact h')] at hu; cases hu
  obtain ⟨q1, q2⟩ := pcCells_get l (j / 2) (by omega)
  obtain ⟨b, o, e, _, c1, c2⟩ := h.2 (j / 2) (by omega)
  injection e with e
  subst e
  rw [Addr.add_lit]
  rcases Nat.mod_two_eq_zero_or_one j with m | m
  · have e : j = j / 2 * 2 := by omega
    rw [e] at hu ⊢
    rw [q1] at hu
    injection hu with hu
    subst hu
    exact c1
  · have e : j = j / 2 * 2 + 1 := by omega
    rw [e] at hu ⊢
    rw [q2] at hu
    injection hu with hu
    subst hu
    exact c2

/-- a row of pieces that was made from block B on -/
def PcO (B : Nat) (w : World) (A : Option Addr) (n c : Nat) (l : List Pc) : Prop := n = l.length ∧ w.ownsRow B 29 2 (.slice A n c) n (pcCells l)
theorem PcO.nil (B : Nat) (w : World) : PcO B w none 0 0 [] := ⟨rfl, World.ownsRow_nil _ _ _ _⟩
theorem PcO.below {B : Nat} {w w' : World} {A : Option Addr} {n c : Nat} {l : List Pc} (h : PcO B w A n c l) (hb : Below w.heap.size w w') : PcO B w' A n c l := by
  obtain ⟨hn, h⟩ := h
  refine ⟨hn, h.1, ?_⟩
  rcases h.2 with h0 | ⟨g, cap, cur, hv, hg, hh, hc, hx, hs, ht⟩
  · exact .inl h0
  · exact .inr ⟨g, cap, cur, hv, hg, (hb.block g (Array.getElem?_eq_some_iff.1 hh).1).trans hh, hc, hx, hs, ht⟩
theorem PcO.r {B : Nat} {w : World} {A : Option Addr} {n c : Nat} {l : List Pc} (h : PcO B w A n c l) : PcR w.heap.size w A n l := by
  refine ⟨h.1, fun j hj => ?_⟩
  obtain ⟨hn, h0⟩ := h
  rcases h0.2 with ⟨hv, h1⟩ | ⟨g, cap, cur, hv, hg, hh, hc, hm, hs, ht⟩
  · omega
  · injection hv with e1 e2 e3
    subst e1 e3
    obtain ⟨q1, q2⟩ := pcCells_get l j hj
    have r1 := h0.cells (g := g) rfl _ _ q1
    have r2 := h0.cells (g := g) rfl _ _ q2
    rw [addr_add0'] at r1 r2
    exact ⟨g, 0, rfl, (Array.getElem?_eq_some_iff.1 hh).1, by rw [Nat.zero_add]; exact r1, by rw [Nat.zero_add]; exact r2⟩
theorem PcO.form {B : Nat} {w : World} {A : Option Addr} {n c : Nat} {l : List Pc} (h : PcO B w A n c l) : A = none → n = 0 ∧ c = 0 := by
  intro hA
  subst hA
  rcases h.2.2 with ⟨hv, h0⟩ | ⟨g, cap, cur, hv, _⟩
  · cases hv; exact ⟨rfl, rfl⟩
  · cases hv
theorem PcO.low {B B' : Nat} {w : World} {A : Option Addr} {n c : Nat} {l : List Pc} (h : PcO B' w A n c l) (hb : B ≤ B') : PcO B w A n c l := by
  obtain ⟨hn, h1, h2⟩ := h
  refine ⟨hn, h1, ?_⟩
  rcases h2 with h0 | ⟨g, cap, cur, hv, hg, r⟩
  · exact .inl h0
  · exact .inr ⟨g, cap, cur, hv, Nat.le_trans hb hg, r⟩

set_option maxRecDepth 100000 in
/-- pieces that may be read, appended to a row of one's own -/
theorem pc_app {B : Nat} {W : World} {A A1 : Option Addr} {n c n1 c1 : Nat} {l l1 : List Pc} (h : PcO B W A n c l) (hB : B ≤ W.heap.size) (h1 : PcR W.heap.size W A1 n1 l1) (hA : A1 = none → n1 = 0 ∧ c1 = 0) (hn : n ≤ 100000) (hn1 : n1 ≤ 100000) :
    ∃ (A2 : Option Addr) (c2 : Nat) (W' : World), (Builtin.append_ #[22, 22] 22 #[.slice A n c, .slice A1 n1 c1]).run Try.prog W = .ok (.slice A2 (n + n1) c2) W' ∧ PcO B W' A2 (n + n1) c2 (l ++ l1) ∧ Below B W W' := by
  obtain ⟨i0, hi, hz0, hz1, hz2⟩ := info_pcp info_pc
  cases A1 with
  | none =>
    obtain ⟨rfl, rfl⟩ := hA rfl
    have hl : l1 = [] := List.eq_nil_of_length_eq_zero h1.1.symm
    subst hl
    exact ⟨A, c, W, run_append_owned_none W B 22 22 29 i0 2 Try.underlying22 hi _ n _ h.2, by rw [List.append_nil]; exact h, Below.refl _ _⟩
  | some a =>
    obtain ⟨v', W', hr, hown, hg, _⟩ := run_append_own (P := Try.prog) W B 22 22 29 i0 _ 2 24 Try.underlying22 hi hz0 hz1 hz2 rfl (by decide) _ n _ h.2 a n1 c1 (pcCells l1) (by rw [pcCells_len, h1.1]) h1.cells (pcCells_one l1) (by unfold maxLen; omega) (by omega) hB
    obtain ⟨A2, c2, rfl⟩ := own_form hown
    refine ⟨A2, c2, W', hr, ⟨by rw [List.length_append, ← h.1, ← h1.1], by rw [pcCells_app]; exact hown⟩, (Below.refl B W).grown hg hB (fun k hk => (h.2.lt k hk).1)⟩

/-- one piece, made right ahead, appended -/
theorem pc_snoc {B : Nat} {w : World} {A : Option Addr} {n c : Nat} {l : List Pc} (h : PcO B w A n c l) (hB : B ≤ w.heap.size) (p : Pc) (hn : n ≤ 99999) :
    ∃ (A2 : Option Addr) (c2 : Nat) (W' : World), (Builtin.append_ #[22, 22] 22 #[.slice A n c, .slice (some ⟨w.heap.size, 0, none⟩) 1 1]).run Try.prog (w.alloc (.cells #[.bool p.nm, .string (tx p.t)] 29)) = .ok (.slice A2 (n + 1) c2) W' ∧ PcO B W' A2 (n + 1) c2 (l ++ [p]) ∧ Below B w W' := by
  have hb : Below w.heap.size w (w.alloc (.cells #[.bool p.nm, .string (tx p.t)] 29)) := (Below.refl _ _).alloc (Nat.le_refl _) _
  have h1 : PcR (w.alloc (.cells #[.bool p.nm, .string (tx p.t)] 29)).heap.size (w.alloc (.cells #[.bool p.nm, .string (tx p.t)] 29)) (some ⟨w.heap.size, 0, none⟩) 1 [p] := by
    refine ⟨rfl, fun j hj => ?_⟩
    obtain rfl : j = 0 := by simpa using hj
    have hk := Blk.new w 29 #[.bool p.nm, .string (tx p.t)]
    exact ⟨w.heap.size, 0, rfl, hk.lt, hk.cell 0, hk.cell 1⟩
  obtain ⟨A2, c2, W', hr, ho, hb2⟩ := pc_app (h.below hb) (Nat.le_trans hB hb.size) h1 (c1 := 1) (fun e => by cases e) (by omega) (by omega)
  exact ⟨A2, c2, W', hr, ho, (hb.mono hB).trans hb2⟩

theorem wpl_app {P : Program} {w w' : World} {ops : Array Oper} {rest : List Oper} {o : Oper} {a : Act} {Q : Exit → Act → World → Prop} (hg : o.guard = none) (s x : Operand) (t : TypeId) (ho : o.op = .call { callee := .builtin .append, args := #[s, x], argTypes := #[t, t] })
    (v1 v2 v' : Value) (hs : a.eval s = v1) (hx : a.eval x = v2) (hr : (Builtin.append_ #[t, t] o.type #[v1, v2]).run P w = .ok v' w') (h : wpList P ops Q rest (a.put o.dst v') w') : wpList P ops Q (o :: rest) a w := by
  refine wpList_plain hg fun K hK => ?_
  unfold Oper.wp execOp
  simp only [ho, hs, hx, hr, resolve, invoke, builtin, List.map_toArray, List.map_cons, List.map_nil, Sem.run_bind, Sem.run_pure, Result.andThen_ok]
  exact hK _ _ h
theorem below_dn {B : Nat} {a w : World} (h : Below B a w) (n : Nat) : Below B a (w.drewN n) := ⟨h.os, h.tape, h.output, h.size, h.block⟩
end Go.Proofs.Ytlblhoeekcglpaa
