/-
  The steps of a tree under way (layer 3).
-/
import Derived.Test.YtkccockdnjjanaaGreatDoorElBuild
import Derived.Test.YtkccockdnjjanaaGreatDoorChTrim
import Derived.Deep.RegionWith
import Derived.BigQuiet
namespace Go.Proofs.YtkccockdnjjanaaGreatDoor
open Nwl
open Go.RowKit Go.Maps
set_option linter.unusedVariables false

theorem wrap64 {x : Int} (h0 : 0 ≤ x) (h1 : x ≤ 4611686018427387904) : IntKind.i64.wrap x = x := by
  unfold IntKind.wrap
  simp [IntKind.bits, IntKind.signed]
  omega
section
variable {B b : Nat} {vn vo p vb : Value} {ns : List Nd} {op : List Nat} {run : List UInt8} {w : World}
theorem opn_form (h : GrV B b vn vo p vb ns op run w) : ∃ A c, vo = .slice A op.length c := own_form h.opn
theorem nodes_form (h : GrV B b vn vo p vb ns op run w) : ∃ A c, vn = .slice A ns.length c := by
  obtain ⟨cs, h1, _⟩ := h.nodes
  exact own_form h1

set_option maxHeartbeats 400000 in
theorem outside_yes (h : GrV B b vn vo p vb ns [] run w) :
    Calls Tryz.prog 38 #[.pointer (some ⟨b, 0, none⟩)] w fun e w' => e = .returned (.bool true) ∧ w = w' := by
  obtain ⟨A, c, rfl⟩ := opn_form h
  have c1 := h.blk.cell 1
  clear h
  go_enter Tryz.func38, Tryz.ntmps38
  go_wp2
  go_ret
  exact ⟨rfl, rfl⟩
set_option maxHeartbeats 400000 in
theorem outside_no (h : GrV B b vn vo p vb ns op run w) (h0 : op ≠ []) :
    Calls Tryz.prog 38 #[.pointer (some ⟨b, 0, none⟩)] w fun e w' => e = .returned (.bool false) ∧ w = w' := by
  obtain ⟨A, c, rfl⟩ := opn_form h
  have c1 := h.blk.cell 1
  have hp : 0 < op.length := List.length_pos_iff.2 h0
  have hz : ((op.length : Int) == 0) = false := by rw [beq_eq_false_iff_ne]; omega
  clear h h0
  go_enter Tryz.func38, Tryz.ntmps38
  go_wp2
  go_ret
  exact ⟨rfl, rfl⟩

set_option maxHeartbeats 400000 in
theorem innermost_no (h : GrV B b vn vo p vb ns [] run w) :
    Calls Tryz.prog 61 #[.pointer (some ⟨b, 0, none⟩)] w fun e w' => e = .returned (.int .i64 (-1)) ∧ w = w' := by
  have HH := Lib.hid h
  clear h
  go_enter Tryz.func61, Tryz.ntmps61
  go_wp2_with fail
  refine (outside_yes HH.out).mono ?_
  rintro e w' ⟨rfl, rfl⟩
  go_wp2
  go_ret
  exact ⟨rfl, rfl⟩
set_option maxRecDepth 100000 in
set_option maxHeartbeats 400000 in
theorem innermost_yes {o : List Nat} {q : Nat} (h : GrV B b vn vo p vb ns (o ++ [q]) run w) (ho : o.length ≤ 2000) :
    Calls Tryz.prog 61 #[.pointer (some ⟨b, 0, none⟩)] w fun e w' => e = .returned (.int .i64 q) ∧ ∃ k, w' = w.drewN k := by
  have HH := Lib.hid h
  obtain ⟨g, cap, hv, _, hcap, hcells⟩ := row_cells h.opn (by simp)
  have hl : (o ++ [q]).length = o.length + 1 := by simp
  rw [hl] at hv hcap
  have hq : w.cell? ⟨g, o.length, none⟩ = some (.int .i64 q) := hcells o.length _ (by simp [placesC])
  have c1 := h.blk.cell 1
  rw [hv] at c1
  clear hcells h hl
  go_enter Tryz.func61, Tryz.ntmps61
  go_wp2_with fail
  refine (outside_no HH.out (by simp)).mono ?_
  rintro e w' ⟨rfl, rfl⟩
  go_wp2_with fail
  have c1d : w.drew.cell? ⟨b, 1, none⟩ = some (.slice (some ⟨g, 0, none⟩) (o.length + 1) cap) := c1
  have hqd : w.drew.cell? ⟨g, o.length, none⟩ = some (.int .i64 q) := hq
  go_quiet (fail)
  go_wp2
  go_ret
  exact ⟨rfl, _, rfl⟩

set_option maxRecDepth 100000 in
set_option maxHeartbeats 400000 in
theorem settle_none (h : GrV B b vn vo p vb ns op [] w) :
    Calls Tryz.prog 59 #[.pointer (some ⟨b, 0, none⟩)] w fun e w' => e = .returned (.tuple #[]) ∧ w = w' := by
  have HH := Lib.hid h
  have c3 := h.blk.cell 3
  clear h
  go_enter Tryz.func59, Tryz.ntmps59
  go_wp2_with fail
  refine (gLen_c HH.out).mono ?_
  rintro e w' ⟨rfl, rfl⟩
  go_wp2
  go_end0
  exact ⟨rfl, rfl⟩
set_option maxRecDepth 100000 in
set_option maxHeartbeats 1000000 in
theorem settle_some {pre : List Nd} {n : Nd} (h : GrV B b vn vo p vb (pre ++ [n]) op run w) (h0 : run ≠ []) (hpre : pre.length ≤ 2000) :
    Calls Tryz.prog 59 #[.pointer (some ⟨b, 0, none⟩)] w fun e w' => e = .returned (.tuple #[]) ∧ (∃ p' vb', GrV B b vn vo p' vb' (pre ++ [{ n with text := run }]) op [] w') ∧ Below B w w' ∧ KeepTok w w' := by
  obtain ⟨cs, n1, n2⟩ := h.nodes
  obtain ⟨gn, capn, hvn, _, hcap, _⟩ := row_cells n1 (by simp)
  have hl : (pre ++ [n]).length = pre.length + 1 := by simp
  rw [hl] at hvn hcap
  subst hvn
  obtain ⟨ar, capr, hvr⟩ : ∃ ao cap, vb = .slice ao run.length cap := by
    rcases h.run.2 with ⟨hv, h0⟩ | ⟨g, cap, cur, fz, hv, _⟩
    · exact ⟨none, 0, by rw [hv, h0]⟩
    · exact ⟨_, _, hv⟩
  have hpp : ∃ q, p = .pointer q := by rcases h.ptr with h | h <;> exact ⟨_, h⟩
  have HP := Lib.hid hpp
  have HVR := Lib.hid hvr
  have HH := Lib.hid h
  have H0 := Lib.hid h0
  have c0 := h.blk.cell 0
  have hrl : 0 < run.length := List.length_pos_iff.2 h0
  have hbase := h.base
  clear h n1 n2 hpp hvr h0 hl
  go_enter Tryz.func59, Tryz.ntmps59
  go_wp2_with fail
  refine (gLen_c HH.out).mono ?_
  rintro e w' ⟨rfl, rfl⟩
  go_wp2_with fail
  have HQ := Lib.hid HH.out.drew
  have c0d : w.drew.cell? ⟨b, 0, none⟩ = some (.slice (some ⟨gn, 0, none⟩) (pre.length + 1) capn) := c0
  have hw1 : IntKind.i64.wrap (pre.length : Int) = pre.length := wrap64 (by omega) (by omega)
  have hw2 : IntKind.i64.wrap ((pre.length : Int) + 1 - 1) = pre.length := by rw [wrap64 (by omega) (by omega)]; omega
  go_region_with (go_at_call 30; refine (gString_c HQ.out H0.out).mono ?_; rintro e w1 ⟨rfl, hg1⟩; obtain ⟨hb1, ct1, cf1, hb2, hv2, hB2, hKT⟩ := HQ.out.settle hg1; have HKT := Lib.hid hKT; have c01 := hb1.cell 0; have HB2 := Lib.hid hb2; have HV2 := Lib.hid hv2; have HBB := Lib.hid hB2; clear hb1 hb2 hv2 hB2 hg1 hKT)
  all_goals (
    clear c0 c0d hw1 hw2 c01
    go_wp2_with fail
    refine (gReset_c HB2.out HP.out ⟨_, _, _, HVR.out⟩).mono ?_
    rintro e w2 ⟨rfl, rfl⟩
    go_wp2_with fail
    go_end0
    exact ⟨rfl, ⟨_, _, HV2.out⟩, (((Below.refl B w).drew.trans HBB.out).setCell (p := ⟨b, 2, none⟩) hbase _).setCell (p := ⟨b, 3, none⟩) hbase _, HKT.out⟩)

end

end Go.Proofs.YtkccockdnjjanaaGreatDoor
