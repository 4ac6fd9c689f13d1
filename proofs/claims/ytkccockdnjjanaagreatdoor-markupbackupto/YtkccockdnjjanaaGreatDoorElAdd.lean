/-
  The steps of a tree under way (layer 3): a node more, an end, a text.
-/
import Derived.Test.YtkccockdnjjanaaGreatDoorElGrow
import Derived.Deep.RegionLaw
namespace Go.Proofs.YtkccockdnjjanaaGreatDoor
open Nwl
open Go.RowKit Go.Maps
set_option linter.unusedVariables false

theorem drewN_eq (w : World) : ∀ k : Nat, w.drewN k = w.drewN k := fun _ => rfl

/-- an append whose run is known, as one step of a region that draws its order -/
theorem step_append_run {P : Program} {w w' : World} {ops : Array Oper} {o : Oper} {a : Act} {K : Act → World → Prop} {Q : Exit → Act → World → Prop} {E : Prop} (hgd : o.guard = none) (s x : Operand) (t u : TypeId)
    (ho : o.op = .call { callee := .builtin .append, args := #[s, x], argTypes := #[t, u] }) (v1 v2 v' : Value) (ty : TypeId) (hs : a.eval s = v1) (hx : a.eval x = v2) (hty : o.type = ty)
    (hrun : (Builtin.append_ #[t, u] ty #[v1, v2]).run P w = .ok v' w') (hK : K (a.put o.dst v') w') :
    if Region.wanted o (yielded ops a.tmps) = true then Oper.wp P o a w K Q else E := by
  have hw : Region.wanted o (yielded ops a.tmps) = true := by simp [Region.wanted, hgd]
  rw [if_pos hw]
  subst hty
  unfold Oper.wp execOp
  simp only [ho, resolve, invoke, builtin, Sem.run_bind, Sem.run_pure, Result.andThen_ok, List.map_toArray, List.map_cons, List.map_nil, hs, hx, hrun]
  exact hK
section
variable {B b : Nat} {vn vo p vb : Value} {ns : List Nd} {op : List Nat} {run : List UInt8} {w : World}
theorem GrV.drewN (h : GrV B b vn vo p vb ns op run w) (k : Nat) : GrV B b vn vo p vb ns op run (w.drewN k) := h.same ⟨rfl, rfl, rfl, Nat.le_refl _, fun _ _ _ => rfl⟩

set_option maxRecDepth 100000 in
set_option maxHeartbeats 1000000 in
theorem add_full (h : GrV B b vn vo p vb ns op run w) (hf : 2000 ≤ ns.length) (hm : ns.length ≤ 100000) (z : Int) (x y : ByteArray) (A : Option Addr) (l c : Nat) :
    Calls Tryz.prog 60 #[.pointer (some ⟨b, 0, none⟩), .agg #[.int .i64 z, .string x, .string y, .slice A l c]] w fun e w' => e = .returned (.int .i64 3) ∧ Below w.heap.size w w' := by
  obtain ⟨An, cn, rfl⟩ := nodes_form h
  have c0 := (h.alloc (.cells #[.int .i64 z, .string x, .string y, .slice A l c] 32)).blk.cell 0
  have hbase := h.base
  have hlt := h.lt
  have hq : (2000 : Int) ≤ ns.length := by omega
  clear h
  go_enter Tryz.func60, Tryz.ntmps60
  go_wp2_with fail
  go_ret
  exact ⟨rfl, (Below.refl _ _).alloc (Nat.le_refl _) _⟩

theorem innermost_c (h : GrV B b vn vo p vb ns op run w) (ho : op.length ≤ 2000) :
    Calls Tryz.prog 61 #[.pointer (some ⟨b, 0, none⟩)] w fun e w' => e = .returned (.int .i64 (innerL op)) ∧ ∃ k, w' = w.drewN k := by
  rcases List.eq_nil_or_concat op with rfl | ⟨o, q, rfl⟩
  · refine (innermost_no h).mono ?_
    rintro e w' ⟨rfl, rfl⟩
    exact ⟨rfl, 0, rfl⟩
  · rw [List.concat_eq_append] at *
    rw [innerL_snoc]
    exact innermost_yes h (by simp at ho; omega)
/-- what 'add' has made ready: the nodes' row with one more -/
theorem add_row {W : World} {An : Option Addr} {cn : Nat} (h : GrV B b (.slice An ns.length cn) vo p vb ns op run W) (hf : ns.length < 2000) (n : Nd) (A : Option Addr) (l c g : Nat) (hr : W.ownsRow B 61 2 (.slice A l c) n.attrs.length (attrCells n.attrs)) (hc : ∀ j u, [Value.int .i64 n.parent, Value.string (tx n.name), Value.string (tx n.text), Value.slice A l c][j]? = some u → W.cell? ((⟨g, 0, none⟩ : Addr).add j) = some u) :
    ∃ (A' : Option Addr) (c' : Nat) (w' : World), (Builtin.append_ #[23, 23] 23 #[.slice An ns.length cn, .slice (some ⟨g, 0, none⟩) 1 1]).run Tryz.prog W = .ok (.slice A' (ns.length + 1) c') w' ∧ Blk w' b 49 #[.slice An ns.length cn, vo, p, vb] ∧ GrV B b (.slice A' (ns.length + 1) c') vo p vb (ns ++ [n]) op run (w'.setCell ⟨b, 0, none⟩ (.slice A' (ns.length + 1) c')) ∧ Below B W w' ∧ KeepTok W (w'.setCell ⟨b, 0, none⟩ (.slice A' (ns.length + 1) c')) := by
  obtain ⟨i0, hi, hz0, hz1, hz2⟩ := info_parts info_nd
  obtain ⟨cs, n1, n2⟩ := h.nodes
  have hbase := h.base
  have hlt := h.lt
  obtain ⟨v', w', hr', hown', hgrow', _⟩ := run_append_own (P := Tryz.prog) W B 23 23 32 i0 _ 4 64 Tryz.underlying23 hi hz0 hz1 hz2 rfl (by decide) _ ns.length cs n1 ⟨g, 0, none⟩ 1 1 [Value.int .i64 n.parent, Value.string (tx n.name), Value.string (tx n.text), Value.slice A l c] rfl hc (four_oneCell _ _ _ _ _ _) (by unfold maxLen; omega) (by omega) (by omega)
  obtain ⟨A', c', rfl⟩ := own_form hown'
  have hl : (ns ++ [n]).length = ns.length + 1 := by simp
  obtain ⟨hb', hv'⟩ := h.onNodes hgrow' (ns' := ns ++ [n]) (by rw [hl]; exact hown') (n2.snoc hr)
  refine ⟨A', c', w', hr', hb', hv', (Below.refl B W).grown hgrow' (by omega) (fun k hk => (n1.lt k hk).1), fun k ds hk => ?_⟩
  have hk1 := hk.grown hgrow' (fun e => own_ne n1 hk (by decide) e.symm)
  exact hk1.grown (setCell_grown _ b 0 _) (hk1.apart hb' (by decide))

set_option maxRecDepth 100000 in
set_option maxHeartbeats 1000000 in
theorem add_in {q : Int} (h : GrV B b vn vo p vb ns op run w) (hqi : innerL op = q) (ho : op.length ≤ 2000) (hf : ns.length < 2000) (z : Int) (n : Nd) (A : Option Addr) (l c : Nat) (hr : w.ownsRow B 61 2 (.slice A l c) n.attrs.length (attrCells n.attrs)) (hq : n.parent = q) :
    Calls Tryz.prog 60 #[.pointer (some ⟨b, 0, none⟩), .agg #[.int .i64 z, .string (tx n.name), .string (tx n.text), .slice A l c]] w fun e w' => e = .returned (.int .i64 0) ∧ (∃ vn', GrV B b vn' vo p vb (ns ++ [n]) op run w') ∧ Below B w w' ∧ KeepTok w w' := by
  obtain ⟨An, cn, rfl⟩ := nodes_form h
  have HH := Lib.hid h
  have c0 := (h.alloc (.cells #[.int .i64 z, .string (tx n.name), .string (tx n.text), .slice A l c] 32)).blk.cell 0
  have HR := Lib.hid hr
  have HQ := Lib.hid hq
  have HQI := Lib.hid hqi
  have hbase := h.base
  have hlt := h.lt
  have hq2 : (ns.length : Int) < 2000 := by omega
  clear h hr hq hqi
  go_enter Tryz.func60, Tryz.ntmps60
  go_wp2_with fail
  refine (innermost_c (HH.out.alloc _) ho).mono ?_
  rw [HQI.out]
  rintro e w1 ⟨rfl, k, hk⟩
  have hb0 : Blk w1 w.heap.size 32 #[.int .i64 z, .string (tx n.name), .string (tx n.text), .slice A l c] := by rw [hk]; exact Blk.new w _ _
  have hg1 : w.grownBy w1 none := by rw [hk]; exact World.grownBy.trans (World.grownBy_alloc w _ none) ⟨rfl, rfl, rfl, Nat.le_refl _, fun _ _ _ => rfl⟩
  clear hk c0
  have HB0 := Lib.hid hb0
  have p0 := hb0.cell 0
  have pf := hb0.frozen 0
  clear hb0
  go_wp2_with fail
  clear p0 pf
  obtain ⟨w2, hw2⟩ : ∃ w2, w2 = w1.setCell ⟨w.heap.size, 0, none⟩ (.int .i64 q) := ⟨_, rfl⟩
  rw [← hw2]
  have hg2 : w.grownBy w2 none := by rw [hw2]; exact grown_set_new hg1 (Nat.le_refl _) _
  have hb2 : Blk w2 w.heap.size 32 #[.int .i64 n.parent, .string (tx n.name), .string (tx n.text), .slice A l c] := by rw [hw2, HQ.out]; exact HB0.out.set 0 _
  have hs2 := hg2.size
  clear hw2 hg1
  have hg3 : w.grownBy (w2.drew.alloc (.cells #[.int .i64 n.parent, .string (tx n.name), .string (tx n.text), .slice A l c] 32)) none := World.grownBy.trans hg2 (World.grownBy.trans (b := w2.drew) ⟨rfl, rfl, rfl, Nat.le_refl _, fun _ _ _ => rfl⟩ (World.grownBy_alloc w2.drew _ none))
  obtain ⟨A', c', w3, hrun, hb3, hv3, hbel3, hkt3⟩ := add_row (HH.out.same hg3) hf n A l c w2.heap.size (HR.out.kept hg3 (by simp [Value.ownBlock]; cases A <;> simp)) (cells_four_new w2.drew _ _ _ _ _)
  have HV3 := Lib.hid hv3
  have HKT : Hid (KeepTok w (w3.setCell ⟨b, 0, none⟩ (.slice A' (ns.length + 1) c'))) := Lib.hid (KeepTok.trans (fun k ds hk => hk.grown hg3 (by simp)) hkt3)
  have HBel : Hid (Below B w w3) := Lib.hid (((Below.refl B w).grown hg3 (by omega) (by simp)).trans hbel3)
  have e0 : w2.drew.cell? ⟨b, 0, none⟩ = some (.slice An ns.length cn) := (HH.out.same hg2).blk.cell 0
  have e1 : (w2.drew.alloc (.cells #[.int .i64 n.parent, .string (tx n.name), .string (tx n.text), .slice A l c] 32)).cell? ⟨b, 0, none⟩ = some (.slice An ns.length cn) := (HH.out.same hg3).blk.cell 0
  have q0 : w2.drew.cell? ⟨w.heap.size, 0, none⟩ = some (.int .i64 n.parent) := hb2.cell 0
  have q1 : w2.drew.cell? ⟨w.heap.size, 1, none⟩ = some (.string (tx n.name)) := hb2.cell 1
  have q2 : w2.drew.cell? ⟨w.heap.size, 2, none⟩ = some (.string (tx n.text)) := hb2.cell 2
  have q3 : w2.drew.cell? ⟨w.heap.size, 3, none⟩ = some (.slice A l c) := hb2.cell 3
  have e2 : (w2.alloc (.cells #[.int .i64 n.parent, .string (tx n.name), .string (tx n.text), .slice A l c] 32)).drew.cell? ⟨b, 0, none⟩ = some (.slice An ns.length cn) := e1
  have hrun2 : (Builtin.append_ #[23, 23] 23 #[.slice An ns.length cn, .slice (some ⟨w2.heap.size, 0, none⟩) 1 1]).run Tryz.prog (w2.alloc (.cells #[.int .i64 n.parent, .string (tx n.name), .string (tx n.text), .slice A l c] 32)).drew = .ok (.slice A' (ns.length + 1) c') w3 := hrun
  have x0 := hb3.cell 0
  have xf := hb3.frozen 0
  clear hb3 hv3 hbel3 hkt3 hg3 hg2 hb2
  have HRUN := Lib.hid hrun2
  clear hrun hrun2
  go_region_law (refine step_append_run (by rfl) _ _ _ _ (by rfl) _ _ _ _ (by rfl) (by rfl) (by rfl) HRUN.out ?_)
  all_goals (
    clear e0 e1 e2 q0 q1 q2 q3 x0 xf
    go_wp2_with fail
    go_ret
    exact ⟨rfl, ⟨_, HV3.out⟩, HBel.out.setCell (p := ⟨b, 0, none⟩) hbase _, HKT.out⟩)
end
end Go.Proofs.YtkccockdnjjanaaGreatDoor
