/-
  The steps of a tree under way (layer 3): an end.
-/
import Derived.Test.YtkccockdnjjanaaGreatDoorElText
namespace Nwl
theorem closeG_nil {g : Gst} {n : List UInt8} (h : g.opn = []) : closeG g n = .error 6 := by unfold closeG; rw [h]; rfl
theorem closeG_yes {g : Gst} {n : List UInt8} {o : List Nat} {q : Nat} (h : g.opn = o ++ [q]) (hn : nameAt g.pre q = n) : closeG g n = .ok ⟨g.settled, o, []⟩ := by
  unfold closeG; rw [h]; simp [hn]
theorem closeG_no {g : Gst} {n : List UInt8} {o : List Nat} {q : Nat} (h : g.opn = o ++ [q]) (hn : ¬ nameAt g.pre q = n) : closeG g n = .error 6 := by
  unfold closeG; rw [h]; simp [hn]
theorem mem_pre (g : Gst) (i : Nat) (h : i < g.pre.length) : ∃ h' : i < g.mem.length, g.mem[i] = g.pre[i] := by
  unfold Gst.mem
  split
  · exact ⟨h, rfl⟩
  · exact ⟨by simp; omega, List.getElem_append_left h⟩
theorem nameAt_eq (l : List Nd) (i : Nat) (h : i < l.length) : nameAt l i = l[i].name := by unfold nameAt; rw [List.getElem?_eq_getElem h]; rfl
theorem settled_run {g : Gst} (h : g.run ≠ []) : g.mem = g.pre ++ [⟨innerL g.opn, [], [], []⟩] ∧ g.settled = g.pre ++ [{ (⟨innerL g.opn, [], [], []⟩ : Nd) with text := g.run }] := by
  unfold Gst.mem Gst.settled
  rw [if_neg h, if_neg h]
  exact ⟨rfl, rfl⟩
theorem settled_none {g : Gst} (h : g.run = []) : g.mem = g.settled := by
  unfold Gst.mem Gst.settled
  rw [if_pos h, if_pos h]
theorem mem_none (l : List Nd) (o : List Nat) : (⟨l, o, []⟩ : Gst).mem = l := by simp [Gst.mem]
end Nwl
namespace Go.Proofs.YtkccockdnjjanaaGreatDoor
open Nwl
open Go.RowKit Go.Maps
set_option linter.unusedVariables false

theorem bel_drewN {B : Nat} {w w' : World} (h : Below B w w') (k : Nat) : Below B w (w'.drewN k) := ⟨h.os, h.tape, h.output, h.size, h.block⟩
theorem grAt_of {B b : Nat} {vn vo p vb : Value} {g : Gst} {ns : List Nd} {w : World} (hok : g.Ok) (hm : g.mem = ns) (h : GrV B b vn vo p vb ns g.opn g.run w) : GrAt B b g w := ⟨hok, vn, vo, p, vb, by rw [hm]; exact h⟩
theorem toList_inj {a b : ByteArray} (h : a.toList = b.toList) : a = b := by rw [ByteArray.toList_eq, ByteArray.toList_eq] at h; exact bs_inj h
/-- settle, whatever is under way -/
theorem settle_c (B b : Nat) (g : Gst) (w : World) {vn vo p vb : Value} (hok : g.Ok) (hv : GrV B b vn vo p vb g.mem g.opn g.run w) :
    Calls Tryz.prog 59 #[.pointer (some ⟨b, 0, none⟩)] w fun e w' => e = .returned (.tuple #[]) ∧ (∃ p' vb', GrV B b vn vo p' vb' g.settled g.opn [] w') ∧ Below B w w' ∧ KeepTok w w' := by
  by_cases hr : g.run = []
  · rw [hr] at hv
    refine (settle_none hv).mono ?_
    rintro e w' ⟨rfl, rfl⟩
    exact ⟨rfl, ⟨p, vb, by rw [← settled_none hr]; exact hv⟩, Below.refl _ _, KeepTok.refl _⟩
  · obtain ⟨h1, h2⟩ := settled_run hr
    have hf := hok.few
    rw [h1] at hv hf
    rw [h2]
    exact settle_some hv hr (by simp at hf; omega)

theorem innermost_at {B b : Nat} {vn vo p vb : Value} {ns : List Nd} {op : List Nat} {run : List UInt8} {w : World} {q : Int} (h : GrV B b vn vo p vb ns op run w) (ho : op.length ≤ 20) (hq : innerL op = q) :
    Calls Tryz.prog 61 #[.pointer (some ⟨b, 0, none⟩)] w fun e w' => e = .returned (.int .i64 q) ∧ ∃ k, w' = w.drewN k := by
  rw [← hq]
  exact innermost_c h (by omega)
theorem pop_row {B b : Nat} {vn vo p vb : Value} {ns : List Nd} {op o : List Nat} {q : Nat} {run : List UInt8} {w : World} (h : GrV B b vn vo p vb ns op run w) (ho : op = o ++ [q]) : ∃ go cap : Nat, vo = .slice (some ⟨go, 0, none⟩) (o.length + 1) cap ∧ o.length + 1 ≤ cap ∧ w.ownsRow B 3 1 (.slice (some ⟨go, 0, none⟩) o.length cap) o.length (placesC o) := by
  subst ho
  have h1 := h.opn
  have hl : (o ++ [q]).length = o.length + 1 := by simp
  rw [hl, placesC_snoc] at h1
  obtain ⟨g, cap, hv, _, hcap, _⟩ := row_cells h1 (by omega)
  subst hv
  exact ⟨g, cap, rfl, hcap, ownsRow_pop (by rw [placesC_length]; omega) h1⟩

set_option maxRecDepth 100000 in
set_option maxHeartbeats 1000000 in
theorem gclosing_c (B b : Nat) (g : Gst) (n : List UInt8) (w : World) (h : GrAt B b g w) :
    Calls Tryz.prog 40 #[.pointer (some ⟨b, 0, none⟩), .string (tx n)] w (GrowPost B b (closeG g n) w) := by
  obtain ⟨hok, vn, vo, p, vb, hv⟩ := h
  have HV := Lib.hid hv
  have HOK := Lib.hid hok
  have hfl := hok.flat
  rcases List.eq_nil_or_concat g.opn with ho | ⟨o, q, ho⟩
  · have HV' : Hid (GrV B b vn vo p vb g.mem [] g.run w) := Lib.hid (by rw [← ho]; exact HV.out)
    have HX := Lib.hid (closeG_nil (n := n) ho)
    clear ho hok hv
    go_enter Tryz.func40, Tryz.ntmps40
    go_wp2_with fail
    go_quiet ((go_at_call 38; exact Calls.quiet_of_same ((outside_yes (HV'.out.drewN _)).mono fun _ _ h => ⟨h.1, h.2.symm⟩)))
    go_wp2_with fail
    go_ret
    exact growPost_err HX.out rfl (bel_drewN (Below.refl _ _) _)
  · rw [List.concat_eq_append] at ho
    have hlo : o.length + 1 ≤ 20 := by rw [ho] at hfl; simpa using hfl
    have HO := Lib.hid ho
    have hq : q < g.pre.length := hok.below q (by rw [ho]; simp)
    obtain ⟨hqm, hqe⟩ := mem_pre g q hq
    obtain ⟨cs, n1, n2⟩ := hv.nodes
    obtain ⟨A, l, c, _, _, cname, _⟩ := n2.get q hqm
    rw [hqe] at cname
    obtain ⟨gn, capn, hvn, _, hcap, hcells⟩ := row_cells n1 (by omega)
    have cq := hcells _ _ cname
    subst hvn
    have c0 := hv.blk.cell 0
    have hm := g.len
    have hfw := hok.few
    have hwq : IntKind.i64.wrap (q : Int) = q := wrap64 (by omega) (by omega)
    clear n1 n2 hcells cname hv
    have HI : Hid (innerL g.opn = q) := Lib.hid (by rw [ho, innerL_snoc])
    have hfl20 : g.opn.length ≤ 20 := hfl
    by_cases hn : nameAt g.pre q = n
    · have HX := Lib.hid (closeG_yes ho hn)
      rw [nameAt_eq _ _ hq] at hn
      rw [hn] at cq
      have HM := Lib.hid (mem_none g.settled o)
      clear hn hqe ho hok hq hm hfl
      go_enter Tryz.func40, Tryz.ntmps40
      go_wp2_with fail
      go_quiet (first
        | (go_at_call 38; exact Calls.quiet_of_same ((outside_no (HV.out.drewN _) (by rw [HO.out]; simp)).mono fun _ _ h => ⟨h.1, h.2.symm⟩))
        | (go_at_call 61; exact Calls.quiet_of (innermost_at (HV.out.drewN _) hfl20 HI.out)))
      go_wp2_with fail
      refine (settle_c B b g _ HOK.out (HV.out.drewN nq)).mono ?_
      rintro e w2 ⟨rfl, ⟨p', vb', hv2⟩, hb2, _⟩
      obtain ⟨go, capo, hvo, hcapo, hrow⟩ := pop_row hv2 HO.out
      subst hvo
      have HV2 := Lib.hid hv2
      have c1 : w2.drew.cell? ⟨b, 1, none⟩ = some (.slice (some ⟨go, 0, none⟩) (o.length + 1) capo) := hv2.blk.cell 1
      have f1 : w2.drew.frozen? ⟨b, 1, none⟩ = false := hv2.blk.frozen 1
      have HR := Lib.hid hrow
      have hbase := hv2.base
      clear hv2 hrow c0 cq hcap
      go_wp2_with fail
      have hw1 : IntKind.i64.wrap (o.length : Int) = o.length := wrap64 (by omega) (by omega)
      have hw2 : IntKind.i64.wrap ((o.length : Int) + 1 - 1) = o.length := by rw [wrap64 (by omega) (by omega)]; omega
      have hle : o.length ≤ capo := by omega
      go_region_law (fail)
      all_goals (
        go_wp2_with fail
        go_ret
        exact growPost_ok HX.out rfl (grAt_of (closeG_ok HOK.out HX.out) HM.out (HV2.out.setOpn HR.out).drew) (((bel_drewN (Below.refl _ _) _).trans hb2).setCell (p := ⟨b, 1, none⟩) hbase _).drew)
    · have HX := Lib.hid (closeG_no ho hn)
      rw [nameAt_eq _ _ hq] at hn
      have hnt : ¬ tx g.pre[q].name = tx n := fun e => hn (tx_inj e)
      obtain ⟨z, hz⟩ : ∃ z, z = tx g.pre[q].name := ⟨_, rfl⟩
      rw [← hz] at hnt cq
      clear hn hqe ho hok hz hq hm hfl
      have hbq : (z.toList == (tx n).toList) = false := by rw [beq_eq_false_iff_ne]; exact fun e => hnt (toList_inj e)
      go_enter Tryz.func40, Tryz.ntmps40
      go_wp2_with fail
      go_quiet (first
        | (go_at_call 38; exact Calls.quiet_of_same ((outside_no (HV.out.drewN _) (by rw [HO.out]; simp)).mono fun _ _ h => ⟨h.1, h.2.symm⟩))
        | (go_at_call 61; exact Calls.quiet_of (innermost_at (HV.out.drewN _) hfl20 HI.out)))
      go_wp2_with fail
      go_ret
      exact growPost_err HX.out rfl (bel_drewN (Below.refl _ _) _)
end Go.Proofs.YtkccockdnjjanaaGreatDoor
