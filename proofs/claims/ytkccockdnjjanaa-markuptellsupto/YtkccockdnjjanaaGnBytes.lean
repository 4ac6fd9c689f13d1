/-
  Rows of bytes that a call makes by appending.
-/
import Derived.Test.YtkccockdnjjanaaBa
import Derived.Lib.AppendStr
import Derived.Laws.OwnMore
namespace Go.Proofs.Ytkccockdnjjanaa
open Nwl
open Go.RowKit Go.Maps
set_option linter.unusedVariables false
set_option linter.unusedSimpArgs false
theorem info_by : (Try.prog.info? 5).map (fun i => (i.zero, i.size, i.bytes)) = some (some (.int .u8 0), 1, 1) := by kernel_rfl
theorem info_byp {P : Program} {t : TypeId} {z : Value} {a b : Nat} (h : (P.info? t).map (fun i => (i.zero, i.size, i.bytes)) = some (some z, a, b)) : ∃ i, P.info? t = some i ∧ i.zero = some z ∧ i.size = a ∧ i.bytes = b := by
  obtain ⟨i, hi, he⟩ := Option.map_eq_some_iff.1 h
  injection he with e1 e2
  injection e2 with e2 e3
  exact ⟨i, hi, e1, e2, e3⟩
def byCells (l : List UInt8) : List Value := l.map fun c => .int .u8 (c.toNat : Int)
/-- a row of bytes that was made from block B on -/
def ByO (B : Nat) (w : World) (A : Option Addr) (n c : Nat) (l : List UInt8) : Prop := n = l.length ∧ w.ownsRow B 5 1 (.slice A n c) n (byCells l)
theorem ByO.nil (B : Nat) (w : World) : ByO B w none 0 0 [] := ⟨rfl, World.ownsRow_nil _ _ _ _⟩
theorem ByO.below {B : Nat} {w w' : World} {A : Option Addr} {n c : Nat} {l : List UInt8} (h : ByO B w A n c l) (hb : Below w.heap.size w w') : ByO B w' A n c l := by
  obtain ⟨hn, h⟩ := h
  refine ⟨hn, h.1, ?_⟩
  rcases h.2 with h0 | ⟨g, cap, cur, hv, hg, hh, hc, hx, hs, ht⟩
  · exact .inl h0
  · exact .inr ⟨g, cap, cur, hv, hg, (hb.block g (Array.getElem?_eq_some_iff.1 hh).1).trans hh, hc, hx, hs, ht⟩
set_option maxRecDepth 100000 in
theorem by_str {B : Nat} {W : World} {A : Option Addr} {n c : Nat} {l : List UInt8} (h : ByO B W A n c l) (hB : B ≤ W.heap.size) (x : ByteArray) (hx : n + x.size ≤ 140737488355328) :
    ∃ (A2 : Option Addr) (c2 : Nat) (W' : World), (Builtin.append_ #[34, 9] 34 #[.slice A n c, .string x]).run Try.prog W = .ok (.slice A2 (n + x.size) c2) W' ∧ ByO B W' A2 (n + x.size) c2 (l ++ bs x) ∧ Below B W W' := by
  obtain ⟨i0, hi, hz0, hz1, hz2⟩ := info_byp info_by
  obtain ⟨v', W', hr, hown, hg, _⟩ := Lib.run_append_own_string (P := Try.prog) (w := W) B 34 9 34 5 i0 Try.underlying34 Try.underlying9 hi hz0 hz1 hz2 _ n _ h.2 x (by unfold maxLen; omega) hx hB
  obtain ⟨A2, c2, rfl⟩ := own_form hown
  refine ⟨A2, c2, W', hr, ⟨by rw [List.length_append, bs_length, h.1], ?_⟩, (Below.refl B W).grown hg hB (fun k hk => (h.2.lt k hk).1)⟩
  have e : byCells (l ++ bs x) = byCells l ++ Lib.strCells x := by
    unfold byCells
    rw [List.map_append]; rfl
  rw [e]
  exact hown
set_option maxRecDepth 100000 in
theorem by_byte {B : Nat} {w : World} {A : Option Addr} {n c : Nat} {l : List UInt8} (h : ByO B w A n c l) (hB : B ≤ w.heap.size) (d : UInt8) (hn : n + 1 ≤ 140737488355328) :
    ∃ (A2 : Option Addr) (c2 : Nat) (W' : World), (Builtin.append_ #[34, 34] 34 #[.slice A n c, .slice (some ⟨w.heap.size, 0, none⟩) 1 1]).run Try.prog (w.alloc (.cells #[.int .u8 (d.toNat : Int)] 5)) = .ok (.slice A2 (n + 1) c2) W' ∧ ByO B W' A2 (n + 1) c2 (l ++ [d]) ∧ Below B w W' := by
  obtain ⟨i0, hi, hz0, hz1, hz2⟩ := info_byp info_by
  have hb : Below w.heap.size w (w.alloc (.cells #[.int .u8 (d.toNat : Int)] 5)) := (Below.refl _ _).alloc (Nat.le_refl _) _
  have h2 := h.below hb
  obtain ⟨v', W', hr, hown, hg, _⟩ := run_append_own (P := Try.prog) (w.alloc (.cells #[.int .u8 (d.toNat : Int)] 5)) B 34 34 5 i0 _ 1 1 Try.underlying34 hi hz0 hz1 hz2 rfl (by decide) _ n _ h2.2 ⟨w.heap.size, 0, none⟩ 1 1 [.int .u8 (d.toNat : Int)] rfl (fun j u hu => by
      match j, hu with
      | 0, hu =>
        injection hu with hu
        subst hu
        have := (Blk.new w 5 #[.int .u8 (d.toNat : Int)]).cell 0
        rw [addr_add0']
        exact this
      | j + 1, hu => simp at hu) (fun u hu => by simp at hu; subst hu; rfl) (by unfold maxLen; omega) (by omega) (Nat.le_trans hB hb.size)
  obtain ⟨A2, c2, rfl⟩ := own_form hown
  refine ⟨A2, c2, W', hr, ⟨by rw [List.length_append, ← h.1]; rfl, ?_⟩, (hb.mono hB).trans ((Below.refl B _).grown hg (Nat.le_trans hB hb.size) (fun k hk => (h2.2.lt k hk).1))⟩
  have e : byCells (l ++ [d]) = byCells l ++ [.int .u8 (d.toNat : Int)] := by
    unfold byCells
    rw [List.map_append]; rfl
  rw [e]
  exact hown
/-- 'string(b)' of such a row -/
theorem by_text {B : Nat} {w : World} {A : Option Addr} {n c : Nat} {l : List UInt8} (h : ByO B w A n c l) :
    (convert 34 9 (.slice A n c)).run Try.prog w = .ok (.string (tx l)) w := by
  obtain ⟨hn, h⟩ := h
  have h0 := h
  rcases h.2 with ⟨hv, h1⟩ | ⟨g, cap, cur, hv, _, _, _, _, _, _⟩
  · injection hv with e1 e2 e3
    subst e1 e3
    subst h1
    have : l = [] := List.eq_nil_of_length_eq_zero hn.symm
    subst this
    rw [run_convert_bytes_string w 34 9 5 none 0 0 Try.underlying34 Try.underlying5 Try.underlying9]
    rfl
  · injection hv with e1 e2 e3
    subst e1 e3
    subst hn
    exact run_convert_bytes_back (P := Try.prog) w 34 9 5 ⟨g, 0, none⟩ c l Try.underlying34 Try.underlying5 Try.underlying9 (by
      intro j hj
      exact h0.cells (g := g) rfl j _ (by simp [byCells, List.getElem?_eq_getElem hj]))
theorem wpl_app2 {P : Program} {w w' : World} {ops : Array Oper} {rest : List Oper} {o : Oper} {a : Act} {Q : Exit → Act → World → Prop} (hg : o.guard = none) (s x : Operand) (t u : TypeId) (ho : o.op = .call { callee := .builtin .append, args := #[s, x], argTypes := #[t, u] })
    (v1 v2 v' : Value) (hs : a.eval s = v1) (hx : a.eval x = v2) (hr : (Builtin.append_ #[t, u] o.type #[v1, v2]).run P w = .ok v' w') (h : wpList P ops Q rest (a.put o.dst v') w') : wpList P ops Q (o :: rest) a w := by
  refine wpList_plain hg fun K hK => ?_
  unfold Oper.wp execOp
  simp only [ho, hs, hx, hr, resolve, invoke, builtin, List.map_toArray, List.map_cons, List.map_nil, Sem.run_bind, Sem.run_pure, Result.andThen_ok]
  exact hK _ _ h
end Go.Proofs.Ytkccockdnjjanaa
