/-
  The builder within a tree under way (layer 3): its four calls.
-/
import Derived.Test.YtkccockdnjjanaaGreatDoorElMem
namespace Go.Proofs.YtkccockdnjjanaaGreatDoor
open Nwl
open Go.RowKit Go.Maps
set_option linter.unusedVariables false

theorem liesG : liesAt Tryz.prog Tryz.prog.depth 49 (4 / Tryz.prog.cellsOf 49) 2 47 1 = true := by kernel_rfl
theorem cells8 : Tryz.prog.cellsOf 5 = 1 := by kernel_rfl

set_option maxHeartbeats 1000000 in
set_option maxRecDepth 100000 in
theorem gcheck_used (b : Nat) (w : World) (h0 : w.cell? ⟨b, 2, none⟩ = some (.pointer (some ⟨b, 2, none⟩))) :
    Calls Tryz.prog 49 #[.pointer (some ⟨b, 2, none⟩)] w fun e w' => e = .returned (.tuple #[]) ∧ w = w' := by
  obtain ⟨j, hj, _⟩ := Option.map_eq_some_iff.1 sizeB
  go_enter Tryz.func49, Tryz.ntmps49
  go_wp2
  rw [Lib.run_neq_ptr_same w _ Tryz.underlying44 hj]
  go_wp2
  go_end0
  exact ⟨rfl, rfl⟩

set_option maxHeartbeats 1000000 in
set_option maxRecDepth 100000 in
theorem gcheck_fresh (b : Nat) (w : World) (h0 : w.cell? ⟨b, 2, none⟩ = some (.pointer none)) (hsh : w.shape? b = some (49, 4)) (hfz : w.frozen? ⟨b, 2, none⟩ = false) :
    Calls Tryz.prog 49 #[.pointer (some ⟨b, 2, none⟩)] w fun e w' => e = .returned (.tuple #[]) ∧ w' = w.setCell ⟨b, 2, none⟩ (.pointer (some ⟨b, 2, none⟩)) := by
  obtain ⟨j, hj, hjs⟩ := Option.map_eq_some_iff.1 sizeB
  go_enter Tryz.func49, Tryz.ntmps49
  go_wp2
  rw [Lib.run_to_unsafe w ⟨b, 2, none⟩ Tryz.underlying44 Tryz.underlying104 hj (by rw [hjs]; decide) hsh (show 2 < 4 by decide)]
  simp only [Result.andThen]
  rw [Oper.upon_value]
  go_wp2
  rw [run_callFunc_extern Tryz.func80 (by kernel_rfl) (by kernel_rfl) (by kernel_rfl) (e := Extern.AbiNoEscape.same) (by kernel_rfl)]
  rw [Lib.run_noEscape]
  simp only [Result.andThen]
  rw [Oper.upon_value]
  go_wp2
  rw [Lib.run_from_unsafe w ⟨b, 2, none⟩ Tryz.underlying104 Tryz.underlying44 hj hsh liesG]
  simp only [Result.andThen]
  rw [Oper.upon_value]
  go_wp2
  go_end0
  exact ⟨rfl, rfl⟩

section
variable {B b : Nat} {vn vo p vb : Value} {ns : List Nd} {op : List Nat} {run : List UInt8} {w : World}
theorem gcheck_c (h : GrV B b vn vo p vb ns op run w) :
    Calls Tryz.prog 49 #[.pointer (some ⟨b, 2, none⟩)] w fun e w' => e = .returned (.tuple #[]) ∧ GrV B b vn vo (.pointer (some ⟨b, 2, none⟩)) vb ns op run w' ∧ Below B w w' := by
  have hb := h.blk
  rcases h.ptr with rfl | rfl
  · refine (gcheck_fresh b w (hb.cell 2) (by unfold Blk at hb; simp [World.shape?, hb]) (hb.frozen 2)).mono ?_
    rintro e w' ⟨rfl, rfl⟩
    exact ⟨rfl, h.setPtr (.inr rfl), (Below.refl B w).setCell (p := ⟨b, 2, none⟩) h.base _⟩
  · refine (gcheck_used b w (hb.cell 2)).mono ?_
    rintro e w' ⟨rfl, rfl⟩
    exact ⟨rfl, h, Below.refl B _⟩

set_option maxHeartbeats 2000000 in
set_option maxRecDepth 100000 in
theorem gLen_c (h : GrV B b vn vo p vb ns op run w) :
    Calls Tryz.prog 63 #[.pointer (some ⟨b, 2, none⟩)] w fun e w' => e = .returned (.int .i64 run.length) ∧ w = w' := by
  obtain ⟨ao, cap, rfl⟩ : ∃ ao cap, vb = .slice ao run.length cap := by
    rcases h.run.2 with ⟨hv, h0⟩ | ⟨g, cap, cur, fz, hv, _⟩
    · exact ⟨none, 0, by rw [hv, h0]⟩
    · exact ⟨_, _, hv⟩
  have c1 := h.blk.cell 3
  go_enter Tryz.func63, Tryz.ntmps63
  go_wp2
  go_ret
  exact ⟨rfl, rfl⟩

set_option maxHeartbeats 2000000 in
set_option maxRecDepth 100000 in
theorem gWrite_c (h : GrV B b vn vo p vb ns op run w) (s : ByteArray) (hlen : run.length + s.size ≤ 140737488355328) :
    Calls Tryz.prog 29 #[.pointer (some ⟨b, 2, none⟩), .string s] w fun e w' => e = .returned (.tuple #[.int .i64 s.size, .nilIface]) ∧ (∃ p' vb', GrV B b vn vo p' vb' ns op (run ++ Nwl.bs s) w') ∧ Below B w w' := by
  have HH := Lib.hid h
  clear h
  obtain ⟨i0, hi, hz0, hz1, hz2⟩ := info_parts info_b8
  go_enter Tryz.func29, Tryz.ntmps29
  go_wp2_with (go_at_call 49; refine (gcheck_c HH.out).mono ?_)
  rintro e w1 ⟨rfl, h1, hb1⟩
  have hbs := hb1.size
  have hlt := h1.lt
  have hbase := h1.base
  have c3 := h1.blk.cell 3
  have H1 := Lib.hid h1
  have hown := h1.run
  clear h1
  have HB1 := Lib.hid hb1
  clear hb1
  go_wp2_with (at_builtin; refine Lib.wpList_append_own_stringF _ rfl _ _ 45 9 rfl B 5 i0 Tryz.underlying45 Tryz.underlying9 hi hz0 hz1 hz2 _ _ _ rfl hown s rfl (by unfold maxLen; omega) (by omega) (by omega) ?_)
  intro v' w2 hown' hgrow _
  have hrr : w2.ownsRowF B 5 1 v' (run ++ Nwl.bs s).length (Lib.byteCells (run ++ Nwl.bs s)) := by
    rw [Lib.byteCells_append, List.length_append, bs_length]
    exact hown'
  obtain ⟨hb2, hv2⟩ := H1.out.keptR hgrow hrr
  have d3 := hb2.cell 3
  have f3 := hb2.frozen 3
  have HV := Lib.hid hv2
  have HG : Hid (Below B w w2) := Lib.hid (HB1.out.grown hgrow (by omega) (fun k hk => (hown.lt k hk).1))
  obtain ⟨ao, n', cap, rfl⟩ : ∃ ao n' cap, v' = .slice ao n' cap := by
    rcases hown'.2 with ⟨hv, _⟩ | ⟨g, cap, cur, fz, hv, _⟩
    · exact ⟨_, _, _, hv⟩
    · exact ⟨_, _, _, hv⟩
  clear hv2 hrr hown' hgrow hown hb2
  go_wp2
  go_ret2
  exact ⟨rfl, ⟨_, _, HV.out⟩, HG.out.setCell (p := ⟨b, 3, none⟩) hbase _⟩

theorem froze_row {e : TypeId} {g n cap : Nat} {xs : List Value} (h : w.ownsRowF B e 1 (.slice (some ⟨g, 0, none⟩) n cap) n xs) : w.grownBy (w.freeze ⟨g, 0, none⟩ n) (some g) := by
  unfold World.freeze
  split
  · exact ⟨rfl, rfl, rfl, Nat.le_refl _, fun _ _ _ => rfl⟩
  · refine ⟨rfl, rfl, rfl, by simp, fun k _ hk => ?_⟩
    simp only [Array.getElem?_modify]
    rw [if_neg (fun e => hk (by simp [e]))]

set_option maxHeartbeats 1000000 in
set_option maxRecDepth 100000 in
/-- the text so far; all but its own row stays -/
theorem gString_c (h : GrV B b vn vo p vb ns op run w) (h0 : run ≠ []) :
    Calls Tryz.prog 30 #[.pointer (some ⟨b, 2, none⟩)] w fun e w' => e = .returned (.string (tx run)) ∧ w.grownBy w' vb.ownBlock := by
  have hl0 : run.length ≠ 0 := by simpa using h0
  have hown := h.run
  obtain ⟨g, cap, cur, fz, rfl, hbg, hg, hfz, hnc, hcm, hcs, htake⟩ : ∃ g cap cur fz, vb = .slice (some ⟨g, 0, none⟩) run.length cap ∧ B ≤ g ∧ w.heap[g]? = some (.cells cur 5 fz) ∧ fz.2 ≤ run.length * 1 ∧ run.length ≤ cap ∧ cap ≤ maxLen ∧ cur.size = cap * 1 ∧ cur.toList.take (run.length * 1) = Lib.byteCells run := by
    rcases hown.2 with ⟨_, hz⟩ | ⟨g, cap, cur, fz, hv, r⟩
    · exact absurd hz hl0
    · exact ⟨g, cap, cur, fz, hv, r⟩
  have c1 : w.drew.cell? ⟨b, 3, none⟩ = some (.slice (some ⟨g, 0, none⟩) run.length cap) := h.blk.cell 3
  have hSD : (Builtin.unsafeSliceData_ #[45] 87 #[.slice (some ⟨g, 0, none⟩) run.length cap]).run Tryz.prog w.drew = .ok (.pointer (some ⟨g, 0, none⟩)) w.drew :=
    Lib.run_unsafeSliceData_row _ _ _ _ _ _ (by omega)
  have hUS : (Builtin.unsafeString_ #[87, 3] 9 #[.pointer (some ⟨g, 0, none⟩), .int .i64 run.length]).run Tryz.prog w.drew = .ok (.string (tx run)) (w.drew.freeze ⟨g, 0, none⟩ run.length) := by
    refine Lib.run_unsafeString_row w.drew 87 3 9 5 Tryz.underlying87 cells8 g cur.size (by have hg' : w.drew.heap[g]? = some (.cells cur 5 fz) := hg; simp [World.shape?, hg']) run h0 (by omega) (by unfold maxLen at hcm; omega) ?_
    intro j x hx
    have := hown.cells (g := g) rfl j (.int .u8 x.toNat) (by simp [Lib.byteCells, hx])
    exact this
  have HF : Hid (w.grownBy (w.drew.freeze ⟨g, 0, none⟩ run.length) (some g)) := Lib.hid (World.grownBy.trans (b := w.drew) ⟨rfl, rfl, rfl, Nat.le_refl _, fun _ _ _ => rfl⟩ (froze_row (w := w.drew) (B := B) (e := 5) (cap := cap) (xs := Lib.byteCells run) hown))
  clear hown h htake hcs hcm hnc hfz hg hbg
  have mixed : Tryz.prog.follows Departure.mixedOrders = true := by kernel_rfl
  go_enter Tryz.func30, Tryz.ntmps30
  go_wp2
  go_region_o
  all_goals (go_wp2; go_ret; exact ⟨rfl, HF.out⟩)

set_option maxHeartbeats 1000000 in
set_option maxRecDepth 100000 in
theorem gReset_c (hb : Blk w b 49 #[vn, vo, p, vb]) (hp : ∃ q, p = .pointer q) (hv : ∃ A n c, vb = .slice A n c) :
    Calls Tryz.prog 88 #[.pointer (some ⟨b, 2, none⟩)] w fun e w' => e = .returned (.tuple #[]) ∧ w' = (w.setCell ⟨b, 2, none⟩ (.pointer none)).setCell ⟨b, 3, none⟩ (.slice none 0 0) := by
  obtain ⟨q, rfl⟩ := hp
  obtain ⟨A, n, c, rfl⟩ := hv
  have c2 := hb.cell 2
  have f2 := hb.frozen 2
  have h2 := hb.set 2 (.pointer none)
  have c3 := h2.cell 3
  have f3 := h2.frozen 3
  clear h2
  go_enter Tryz.func88, Tryz.ntmps88
  go_wp2
  go_end0
  exact ⟨rfl, rfl⟩
end

end Go.Proofs.YtkccockdnjjanaaGreatDoor
