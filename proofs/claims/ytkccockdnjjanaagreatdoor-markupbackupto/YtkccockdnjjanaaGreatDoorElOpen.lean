/-
  The steps of a tree under way (layer 3): a beginning.
-/
import Derived.Test.YtkccockdnjjanaaGreatDoorElClose
namespace Nwl
theorem openG_name {g : Gst} {t : Tki} (h : t.name = []) : openG g t = .error 5 := by unfold openG; rw [if_pos h]
theorem openG_two {g : Gst} {t : Tki} (h : t.name ≠ []) (h2 : g.opn = []) (h3 : 0 < g.mem.length) : openG g t = .error 6 := by unfold openG; rw [if_neg h, if_pos ⟨h2, h3⟩]
theorem openG_deep {g : Gst} {t : Tki} (h : t.name ≠ []) (h2 : ¬ (g.opn = [] ∧ 0 < g.mem.length)) (h3 : 20 ≤ g.opn.length) : openG g t = .error 7 := by unfold openG; rw [if_neg h, if_neg h2, if_pos h3]
theorem openG_big {g : Gst} {t : Tki} (h : t.name ≠ []) (h2 : ¬ (g.opn = [] ∧ 0 < g.mem.length)) (h3 : ¬ 20 ≤ g.opn.length) (h4 : 2000 ≤ g.mem.length) : openG g t = .error 3 := by unfold openG; rw [if_neg h, if_neg h2, if_neg h3, if_pos h4]
theorem openG_in {g : Gst} {t : Tki} (h : t.name ≠ []) (h2 : ¬ (g.opn = [] ∧ 0 < g.mem.length)) (h3 : ¬ 20 ≤ g.opn.length) (h4 : ¬ 2000 ≤ g.mem.length) (h5 : t.empty = false) : openG g t = .ok ⟨g.settled ++ [⟨innerL g.opn, t.name, [], t.attrs⟩], g.opn ++ [g.mem.length], []⟩ := by unfold openG; rw [if_neg h, if_neg h2, if_neg h3, if_neg h4, h5]; rfl
theorem openG_empty {g : Gst} {t : Tki} (h : t.name ≠ []) (h2 : ¬ (g.opn = [] ∧ 0 < g.mem.length)) (h3 : ¬ 20 ≤ g.opn.length) (h4 : ¬ 2000 ≤ g.mem.length) (h5 : t.empty = true) : openG g t = .ok ⟨g.settled ++ [⟨innerL g.opn, t.name, [], t.attrs⟩], g.opn, []⟩ := by unfold openG; rw [if_neg h, if_neg h2, if_neg h3, if_neg h4, h5]; rfl
end Nwl
namespace Go.Proofs.YtkccockdnjjanaaGreatDoor
open Nwl
open Go.RowKit Go.Maps
set_option linter.unusedVariables false

theorem info_i : (Tryz.prog.info? 3).map (fun i => (i.zero, i.size, i.bytes)) = some (some (.int .i64 0), 1, 8) := by kernel_rfl
/-- the value of a token -/
abbrev tkV (t : Tki) (av : Value) : Value := .agg #[.int .i64 t.kind, .string (tx t.name), .string (tx t.text), av, .bool t.empty]
abbrev tkO (t : Tki) (av : Value) : Obj := .cells #[.int .i64 t.kind, .string (tx t.name), .string (tx t.text), av, .bool t.empty] 53

/-- the copy of a row of attributes -/
theorem attr_copy {B : Nat} {W : World} {A : Option Addr} {l c n : Nat} {cs : List Value} (h : RowR B W (.slice A l c) n 2 cs) (h1 : ∀ u ∈ cs, u.oneCell' = true) (hn : n ≤ 4000000000000) (hB : B ≤ W.heap.size) :
    ∃ (A2 : Option Addr) (c2 : Nat) (W' : World), (Builtin.append_ #[30, 30] 30 #[.slice none 0 0, .slice A l c]).run Tryz.prog W = .ok (.slice A2 n c2) W' ∧ W'.ownsRow B 61 2 (.slice A2 n c2) n cs ∧ W.grownBy W' none := by
  obtain ⟨i0, hi, hz0, hz1, hz2⟩ := info_parts info_at
  rcases h.2 with ⟨⟨A0, c0, hv, hA0⟩, rfl⟩ | ⟨b, o, c', hv, _, _, hc⟩
  · injection hv with e1 e2 e3
    subst e1 e2 e3
    have hcs : cs = [] := List.eq_nil_of_length_eq_zero (by simpa using h.1)
    subst hcs
    cases A with
    | some a =>
      obtain ⟨v', W', hr, hown, hg, _⟩ := run_append_own (P := Tryz.prog) W B 30 30 61 i0 _ 2 32 Tryz.underlying30 hi hz0 hz1 hz2 rfl (by decide) _ 0 [] (World.ownsRow_nil _ _ _ _) a 0 c [] rfl (fun j u hu => by simp at hu) h1 (by unfold maxLen; omega) (by omega) hB
      rw [Nat.zero_add, List.nil_append] at hown
      obtain ⟨A2, c2, rfl⟩ := own_form hown
      exact ⟨A2, c2, W', hr, hown, hg⟩
    | none =>
    obtain rfl := hA0 rfl
    exact ⟨none, 0, W, run_append_owned_none W B 30 30 61 i0 2 Tryz.underlying30 hi _ 0 [] (World.ownsRow_nil _ _ _ _), World.ownsRow_nil _ _ _ _, World.grownBy.refl _ _⟩
  · injection hv with e1 e2 e3
    subst e1 e2 e3
    obtain ⟨v', W', hr, hown, hg, _⟩ := run_append_own (P := Tryz.prog) W B 30 30 61 i0 _ 2 32 Tryz.underlying30 hi hz0 hz1 hz2 rfl (by decide) _ 0 [] (World.ownsRow_nil _ _ _ _) ⟨b, o, none⟩ l c cs h.1 (fun j u hu => by rw [Addr.add_lit]; exact hc j u hu) h1 (by unfold maxLen; omega) (by omega) hB
    rw [Nat.zero_add, List.nil_append] at hown
    obtain ⟨A2, c2, rfl⟩ := own_form hown
    exact ⟨A2, c2, W', hr, hown, hg⟩
theorem op0 {B b : Nat} {vn vo p vb : Value} {ns : List Nd} {op : List Nat} {run : List UInt8} {w : World} (ho : op = []) (h : GrV B b vn vo p vb ns op run w) : GrV B b vn vo p vb ns [] run w := by rw [← ho]; exact h
theorem attrCells_one (l : List (List UInt8 × List UInt8)) : ∀ u ∈ attrCells l, u.oneCell' = true := by
  intro u hu
  unfold attrCells at hu
  obtain ⟨a, _, h⟩ := List.mem_flatMap.1 hu
  simp at h
  rcases h with rfl | rfl <;> rfl

set_option maxRecDepth 100000 in
set_option maxHeartbeats 1000000 in
theorem gopening_c (B b : Nat) (g : Gst) (t : Tki) (A : Option Addr) (l c : Nat) (w : World) (h : GrAt B b g w) (hr : RowR B w (.slice A l c) t.attrs.length 2 (attrCells t.attrs)) (hl : t.attrs.length ≤ 4000000000000) :
    Calls Tryz.prog 39 #[.pointer (some ⟨b, 0, none⟩), tkV t (.slice A l c)] w (GrowPost B b (openG g t) w) := by
  obtain ⟨hok, vn, vo, p, vb, hv⟩ := h
  have HV := Lib.hid (hv.alloc (tkO t (.slice A l c)))
  have HR := Lib.hid hr
  have HOK := Lib.hid hok
  have hfl := hok.flat
  have hbase := hv.base
  have hlt := hv.lt
  have hfw := hok.few
  obtain ⟨An, cn, hvn⟩ := nodes_form hv
  obtain ⟨Ao, co, hvo⟩ := opn_form hv
  have HT : Hid (Blk (w.alloc (tkO t (.slice A l c))) w.heap.size 53 #[.int .i64 t.kind, .string (tx t.name), .string (tx t.text), .slice A l c, .bool t.empty]) := Lib.hid (Blk.new w _ _)
  subst hvn hvo
  have c0 := HV.out.blk.cell 0
  have c1 := HV.out.blk.cell 1
  clear hr hv
  by_cases hn : t.name = []
  · have HX := Lib.hid (openG_name (g := g) hn)
    have he : (tx t.name).toList = [] := toList_nil_of _ (by rw [hn, tx_size]; rfl)
    clear hn hok
    go_enter Tryz.func39, Tryz.ntmps39
    go_wp2_with fail
    go_ret
    exact growPost_err HX.out rfl ((Below.refl _ _).alloc (by omega) _)
  · have he : ¬ (tx t.name).toList = [] := toList_ne_of _ (by rw [tx_size]; exact List.length_pos_iff.2 hn)
    have he2 : (tx t.name).toList.isEmpty = false := by simpa using he
    by_cases h2 : g.opn = [] ∧ 0 < g.mem.length
    · have HX := Lib.hid (openG_two hn h2.1 h2.2)
      have HO := Lib.hid h2.1
      have hm0 : (0 : Int) < g.mem.length := by have := h2.2; omega
      clear hn hok h2
      go_enter Tryz.func39, Tryz.ntmps39
      go_wp2_with fail
      refine (outside_yes (op0 HO.out HV.out)).mono ?_
      rintro e w' ⟨rfl, rfl⟩
      go_wp2_with fail
      go_ret
      exact growPost_err HX.out rfl ((Below.refl _ _).alloc (by omega) _)
    · by_cases h3 : 20 ≤ g.opn.length
      · have HX := Lib.hid (openG_deep hn h2 h3)
        have HO : Hid (g.opn ≠ []) := Lib.hid (fun e => by rw [e] at h3; simp at h3)
        have h3' : (20 : Int) ≤ g.opn.length := by omega
        clear hn hok h2 h3
        go_enter Tryz.func39, Tryz.ntmps39
        go_wp2_with fail
        refine (outside_no HV.out HO.out).mono ?_
        rintro e w' ⟨rfl, rfl⟩
        go_wp2_with fail
        go_ret
        exact growPost_err HX.out rfl ((Below.refl _ _).alloc (by omega) _)
      · have h3' : (g.opn.length : Int) < 20 := by omega
        by_cases h4 : 2000 ≤ g.mem.length
        · have HX := Lib.hid (openG_big hn h2 h3 h4)
          have HF := Lib.hid h4
          have HO : Hid (g.opn ≠ []) := Lib.hid (fun e => h2 ⟨e, by omega⟩)
          clear hn hok h2 h3 h4
          go_enter Tryz.func39, Tryz.ntmps39
          go_wp2_with fail
          refine (outside_no HV.out HO.out).mono ?_
          rintro e w' ⟨rfl, rfl⟩
          go_wp2_with fail
          refine (settle_c B b g _ HOK.out HV.out).mono ?_
          rintro e w1 ⟨rfl, ⟨p1, vb1, hv1⟩, hb1, hkt⟩
          have ht1 := hkt _ _ HT.out
          have HV1 := Lib.hid hv1
          have hbw : Below B w w1 := ((Below.refl B w).alloc (by omega) _).trans hb1
          have hbs := hbw.size
          have n0 := hv1.blk.cell 0
          have k1 := ht1.cell 1
          have k3 := ht1.cell 3
          have k4 := ht1.cell 4
          have HT1 := Lib.hid ht1
          have HBW := Lib.hid hbw
          clear hv1 ht1 hkt hbw hb1 c0 c1
          go_wp2_with fail
          obtain ⟨A2, c2, W', hrun, hown2, hg2⟩ := attr_copy (W := w1.drew) (HR.out.below (HBW.out.drew)) (attrCells_one _) hl (by show B ≤ w1.heap.size; omega)
          have HRUN := Lib.hid hrun
          have HOWN := Lib.hid hown2
          have HG2 := Lib.hid hg2
          have HV2 := Lib.hid (HV1.out.drew.same hg2)
          have HT2 := Lib.hid (HT1.out.grown (w := w1.drew) hg2 (by simp))
          have kk1 : w1.drew.cell? ⟨w.heap.size, 1, none⟩ = some (.string (tx t.name)) := k1
          have kk3 : w1.drew.cell? ⟨w.heap.size, 3, none⟩ = some (.slice A l c) := k3
          have kw1 := HT2.out.cell 1
          have hbw2 : Below B w W' := HBW.out.drew.grown hg2 (by show B ≤ w1.heap.size; omega) (by simp)
          have HBW2 := Lib.hid hbw2
          have hbs2 := hbw2.size
          clear hrun hown2 hg2 hbw2
          go_region_law (first
            | (refine step_append_run (by rfl) _ _ _ _ (by rfl) _ _ _ _ (by rfl) (by rfl) (by rfl) HRUN.out ?_)
            | (go_simp; go_at_call 60; refine (add_full HV2.out (by rw [g.len]; exact HF.out) (by rw [g.len]; omega) _ _ _ _ _ _).mono ?_; rintro e w3 ⟨rfl, hb3⟩))
          all_goals (
            go_wp2_with fail
            go_ret
            exact growPost_err HX.out rfl (HBW2.out.trans (hb3.mono (by omega))))
        · have HF : Hid (g.mem.length < 2000) := Lib.hid (by omega)
          cases hem : t.empty with
          | true =>
            have HX := Lib.hid (openG_empty hn h2 h3 h4 hem)
            have HE := Lib.hid hem
            clear hem
            by_cases ho : g.opn = []
            · have HO := Lib.hid ho
              have hm0 : ¬ (0 : Int) < g.mem.length := fun e => h2 ⟨ho, by omega⟩
              have hmz : (g.mem.length : Int) = 0 := by omega
              clear hn hok h2 h3 h4 ho
              go_enter Tryz.func39, Tryz.ntmps39
              go_wp2_with fail
              refine (outside_yes (op0 HO.out HV.out)).mono ?_
              rintro e w' ⟨rfl, rfl⟩
              go_wp2_with fail
              clear hmz hm0
              refine (settle_c B b g _ HOK.out HV.out).mono ?_
              rintro e w1 ⟨rfl, ⟨p1, vb1, hv1⟩, hb1, hkt⟩
              have ht1 := hkt _ _ HT.out
              have HV1 := Lib.hid hv1
              have hbw : Below B w w1 := ((Below.refl B w).alloc (by omega) _).trans hb1
              have hbs := hbw.size
              have n0 := hv1.blk.cell 0
              have k1 := ht1.cell 1
              have k3 := ht1.cell 3
              have k4 := ht1.cell 4
              have HT1 := Lib.hid ht1
              have HBW := Lib.hid hbw
              clear hv1 ht1 hkt hbw hb1 c0 c1
              go_wp2_with fail
              obtain ⟨A2, c2, W', hrun, hown2, hg2⟩ := attr_copy (W := w1.drew) (HR.out.below (HBW.out.drew)) (attrCells_one _) hl (by show B ≤ w1.heap.size; omega)
              have HRUN := Lib.hid hrun
              have HOWN := Lib.hid hown2
              have HG2 := Lib.hid hg2
              have HV2 := Lib.hid (HV1.out.drew.same hg2)
              have HT2 := Lib.hid (HT1.out.grown (w := w1.drew) hg2 (by simp))
              have kk1 : w1.drew.cell? ⟨w.heap.size, 1, none⟩ = some (.string (tx t.name)) := k1
              have kk3 : w1.drew.cell? ⟨w.heap.size, 3, none⟩ = some (.slice A l c) := k3
              have kw1 := HT2.out.cell 1
              have hbw2 : Below B w W' := HBW.out.drew.grown hg2 (by show B ≤ w1.heap.size; omega) (by simp)
              have HBW2 := Lib.hid hbw2
              have hbs2 := hbw2.size
              clear hrun hown2 hg2 hbw2
              go_region_law (first
                | (refine step_append_run (by rfl) _ _ _ _ (by rfl) _ _ _ _ (by rfl) (by rfl) (by rfl) HRUN.out ?_)
                | (go_simp; go_at_call 60; refine (add_in (q := innerL g.opn) HV2.out rfl (by omega) (by rw [g.len]; exact HF.out) _ ⟨innerL g.opn, t.name, [], t.attrs⟩ _ _ _ HOWN.out rfl).mono ?_; rintro e w3 ⟨rfl, ⟨vn3, hv3⟩, hb3, hkt3⟩; have HV3 := Lib.hid hv3; have k34 := (hkt3 _ _ HT2.out).cell 4; rw [HE.out] at k34; clear hv3 hkt3))
              all_goals (
                go_wp2_with fail
                go_ret
                exact growPost_ok HX.out rfl (grAt_of (openG_ok HOK.out HX.out) (mem_none _ _) HV3.out) (HBW2.out.trans hb3))
            · have HO := Lib.hid ho
              clear hn hok h2 h3 h4 ho
              go_enter Tryz.func39, Tryz.ntmps39
              go_wp2_with fail
              refine (outside_no HV.out HO.out).mono ?_
              rintro e w' ⟨rfl, rfl⟩
              go_wp2_with fail
              refine (settle_c B b g _ HOK.out HV.out).mono ?_
              rintro e w1 ⟨rfl, ⟨p1, vb1, hv1⟩, hb1, hkt⟩
              have ht1 := hkt _ _ HT.out
              have HV1 := Lib.hid hv1
              have hbw : Below B w w1 := ((Below.refl B w).alloc (by omega) _).trans hb1
              have hbs := hbw.size
              have n0 := hv1.blk.cell 0
              have k1 := ht1.cell 1
              have k3 := ht1.cell 3
              have k4 := ht1.cell 4
              have HT1 := Lib.hid ht1
              have HBW := Lib.hid hbw
              clear hv1 ht1 hkt hbw hb1 c0 c1
              go_wp2_with fail
              obtain ⟨A2, c2, W', hrun, hown2, hg2⟩ := attr_copy (W := w1.drew) (HR.out.below (HBW.out.drew)) (attrCells_one _) hl (by show B ≤ w1.heap.size; omega)
              have HRUN := Lib.hid hrun
              have HOWN := Lib.hid hown2
              have HG2 := Lib.hid hg2
              have HV2 := Lib.hid (HV1.out.drew.same hg2)
              have HT2 := Lib.hid (HT1.out.grown (w := w1.drew) hg2 (by simp))
              have kk1 : w1.drew.cell? ⟨w.heap.size, 1, none⟩ = some (.string (tx t.name)) := k1
              have kk3 : w1.drew.cell? ⟨w.heap.size, 3, none⟩ = some (.slice A l c) := k3
              have kw1 := HT2.out.cell 1
              have hbw2 : Below B w W' := HBW.out.drew.grown hg2 (by show B ≤ w1.heap.size; omega) (by simp)
              have HBW2 := Lib.hid hbw2
              have hbs2 := hbw2.size
              clear hrun hown2 hg2 hbw2
              go_region_law (first
                | (refine step_append_run (by rfl) _ _ _ _ (by rfl) _ _ _ _ (by rfl) (by rfl) (by rfl) HRUN.out ?_)
                | (go_simp; go_at_call 60; refine (add_in (q := innerL g.opn) HV2.out rfl (by omega) (by rw [g.len]; exact HF.out) _ ⟨innerL g.opn, t.name, [], t.attrs⟩ _ _ _ HOWN.out rfl).mono ?_; rintro e w3 ⟨rfl, ⟨vn3, hv3⟩, hb3, hkt3⟩; have HV3 := Lib.hid hv3; have k34 := (hkt3 _ _ HT2.out).cell 4; rw [HE.out] at k34; clear hv3 hkt3))
              all_goals (
                go_wp2_with fail
                go_ret
                exact growPost_ok HX.out rfl (grAt_of (openG_ok HOK.out HX.out) (mem_none _ _) HV3.out) (HBW2.out.trans hb3))
          | false =>
            have HX := Lib.hid (openG_in hn h2 h3 h4 hem)
            have HE := Lib.hid hem
            clear hem
            by_cases ho : g.opn = []
            · have HO := Lib.hid ho
              have hm0 : ¬ (0 : Int) < g.mem.length := fun e => h2 ⟨ho, by omega⟩
              have hmz : (g.mem.length : Int) = 0 := by omega
              clear hn hok h2 h3 h4 ho
              go_enter Tryz.func39, Tryz.ntmps39
              go_wp2_with fail
              refine (outside_yes (op0 HO.out HV.out)).mono ?_
              rintro e w' ⟨rfl, rfl⟩
              go_wp2_with fail
              clear hmz hm0
              refine (settle_c B b g _ HOK.out HV.out).mono ?_
              rintro e w1 ⟨rfl, ⟨p1, vb1, hv1⟩, hb1, hkt⟩
              have ht1 := hkt _ _ HT.out
              have HV1 := Lib.hid hv1
              have hbw : Below B w w1 := ((Below.refl B w).alloc (by omega) _).trans hb1
              have hbs := hbw.size
              have n0 := hv1.blk.cell 0
              have k1 := ht1.cell 1
              have k3 := ht1.cell 3
              have k4 := ht1.cell 4
              have HT1 := Lib.hid ht1
              have HBW := Lib.hid hbw
              clear hv1 ht1 hkt hbw hb1 c0 c1
              go_wp2_with fail
              obtain ⟨A2, c2, W', hrun, hown2, hg2⟩ := attr_copy (W := w1.drew) (HR.out.below (HBW.out.drew)) (attrCells_one _) hl (by show B ≤ w1.heap.size; omega)
              have HRUN := Lib.hid hrun
              have HOWN := Lib.hid hown2
              have HG2 := Lib.hid hg2
              have HV2 := Lib.hid (HV1.out.drew.same hg2)
              have HT2 := Lib.hid (HT1.out.grown (w := w1.drew) hg2 (by simp))
              have kk1 : w1.drew.cell? ⟨w.heap.size, 1, none⟩ = some (.string (tx t.name)) := k1
              have kk3 : w1.drew.cell? ⟨w.heap.size, 3, none⟩ = some (.slice A l c) := k3
              have kw1 := HT2.out.cell 1
              have hbw2 : Below B w W' := HBW.out.drew.grown hg2 (by show B ≤ w1.heap.size; omega) (by simp)
              have HBW2 := Lib.hid hbw2
              have hbs2 := hbw2.size
              clear hrun hown2 hg2 hbw2
              go_region_law (first
                | (refine step_append_run (by rfl) _ _ _ _ (by rfl) _ _ _ _ (by rfl) (by rfl) (by rfl) HRUN.out ?_)
                | (go_simp; go_at_call 60; refine (add_in (q := innerL g.opn) HV2.out rfl (by omega) (by rw [g.len]; exact HF.out) _ ⟨innerL g.opn, t.name, [], t.attrs⟩ _ _ _ HOWN.out rfl).mono ?_; rintro e w3 ⟨rfl, ⟨vn3, hv3⟩, hb3, hkt3⟩; have HV3 := Lib.hid hv3; have k34 := (hkt3 _ _ HT2.out).cell 4; rw [HE.out] at k34; clear hv3 hkt3))
              all_goals (
                have c31 := HV3.out.blk.cell 1
                have hbs3 := hb3.size
                have ho3 := HV3.out.opn
                obtain ⟨i0, hi, hz0, hz1, hz2⟩ := info_parts info_i
                go_wp2_with (at_builtin; refine wpList_append_own _ rfl _ _ 35 rfl B 3 i0 _ 1 8 Tryz.underlying35 hi hz0 hz1 hz2 rfl (by decide) _ g.opn.length (placesC g.opn) rfl (ho3.alloc _) ⟨w3.heap.size, 0, none⟩ 1 1 [.int .i64 (g.mem.length : Int)] rfl rfl (cells_one_new _ _ _) (by simp [Value.oneCell']) (by unfold maxLen; omega) (by omega) (by simp; omega) ?_)
                intro v' w5 hown5 hgrow5 _
                obtain ⟨A5, c5, rfl⟩ := own_form hown5
                obtain ⟨hb5, hv5⟩ := (HV3.out.alloc _).keptN hgrow5 (op' := g.opn ++ [g.mem.length]) (by rw [placesC_snoc, List.length_append]; exact hown5)
                have HV5 := Lib.hid hv5
                have HBB : Hid (Below B w w5) := Lib.hid (((HBW2.out.trans hb3).alloc (by omega) _).grown hgrow5 (by simp; omega) (fun k hk => (HV3.out.opn.lt k hk).1))
                have d5 := hb5.cell 1
                have f5 := hb5.frozen 1
                clear hv5 hb5 hown5 hgrow5 c31 k34 ho3
                go_wp2_with fail
                go_ret
                exact growPost_ok HX.out rfl (grAt_of (openG_ok HOK.out HX.out) (mem_none _ _) HV5.out) (HBB.out.setCell (p := ⟨b, 1, none⟩) hbase _))
            · have HO := Lib.hid ho
              clear hn hok h2 h3 h4 ho
              go_enter Tryz.func39, Tryz.ntmps39
              go_wp2_with fail
              refine (outside_no HV.out HO.out).mono ?_
              rintro e w' ⟨rfl, rfl⟩
              go_wp2_with fail
              refine (settle_c B b g _ HOK.out HV.out).mono ?_
              rintro e w1 ⟨rfl, ⟨p1, vb1, hv1⟩, hb1, hkt⟩
              have ht1 := hkt _ _ HT.out
              have HV1 := Lib.hid hv1
              have hbw : Below B w w1 := ((Below.refl B w).alloc (by omega) _).trans hb1
              have hbs := hbw.size
              have n0 := hv1.blk.cell 0
              have k1 := ht1.cell 1
              have k3 := ht1.cell 3
              have k4 := ht1.cell 4
              have HT1 := Lib.hid ht1
              have HBW := Lib.hid hbw
              clear hv1 ht1 hkt hbw hb1 c0 c1
              go_wp2_with fail
              obtain ⟨A2, c2, W', hrun, hown2, hg2⟩ := attr_copy (W := w1.drew) (HR.out.below (HBW.out.drew)) (attrCells_one _) hl (by show B ≤ w1.heap.size; omega)
              have HRUN := Lib.hid hrun
              have HOWN := Lib.hid hown2
              have HG2 := Lib.hid hg2
              have HV2 := Lib.hid (HV1.out.drew.same hg2)
              have HT2 := Lib.hid (HT1.out.grown (w := w1.drew) hg2 (by simp))
              have kk1 : w1.drew.cell? ⟨w.heap.size, 1, none⟩ = some (.string (tx t.name)) := k1
              have kk3 : w1.drew.cell? ⟨w.heap.size, 3, none⟩ = some (.slice A l c) := k3
              have kw1 := HT2.out.cell 1
              have hbw2 : Below B w W' := HBW.out.drew.grown hg2 (by show B ≤ w1.heap.size; omega) (by simp)
              have HBW2 := Lib.hid hbw2
              have hbs2 := hbw2.size
              clear hrun hown2 hg2 hbw2
              go_region_law (first
                | (refine step_append_run (by rfl) _ _ _ _ (by rfl) _ _ _ _ (by rfl) (by rfl) (by rfl) HRUN.out ?_)
                | (go_simp; go_at_call 60; refine (add_in (q := innerL g.opn) HV2.out rfl (by omega) (by rw [g.len]; exact HF.out) _ ⟨innerL g.opn, t.name, [], t.attrs⟩ _ _ _ HOWN.out rfl).mono ?_; rintro e w3 ⟨rfl, ⟨vn3, hv3⟩, hb3, hkt3⟩; have HV3 := Lib.hid hv3; have k34 := (hkt3 _ _ HT2.out).cell 4; rw [HE.out] at k34; clear hv3 hkt3))
              all_goals (
                have c31 := HV3.out.blk.cell 1
                have hbs3 := hb3.size
                have ho3 := HV3.out.opn
                obtain ⟨i0, hi, hz0, hz1, hz2⟩ := info_parts info_i
                go_wp2_with (at_builtin; refine wpList_append_own _ rfl _ _ 35 rfl B 3 i0 _ 1 8 Tryz.underlying35 hi hz0 hz1 hz2 rfl (by decide) _ g.opn.length (placesC g.opn) rfl (ho3.alloc _) ⟨w3.heap.size, 0, none⟩ 1 1 [.int .i64 (g.mem.length : Int)] rfl rfl (cells_one_new _ _ _) (by simp [Value.oneCell']) (by unfold maxLen; omega) (by omega) (by simp; omega) ?_)
                intro v' w5 hown5 hgrow5 _
                obtain ⟨A5, c5, rfl⟩ := own_form hown5
                obtain ⟨hb5, hv5⟩ := (HV3.out.alloc _).keptN hgrow5 (op' := g.opn ++ [g.mem.length]) (by rw [placesC_snoc, List.length_append]; exact hown5)
                have HV5 := Lib.hid hv5
                have HBB : Hid (Below B w w5) := Lib.hid (((HBW2.out.trans hb3).alloc (by omega) _).grown hgrow5 (by simp; omega) (fun k hk => (HV3.out.opn.lt k hk).1))
                have d5 := hb5.cell 1
                have f5 := hb5.frozen 1
                clear hv5 hb5 hown5 hgrow5 c31 k34 ho3
                go_wp2_with fail
                go_ret
                exact growPost_ok HX.out rfl (grAt_of (openG_ok HOK.out HX.out) (mem_none _ _) HV5.out) (HBB.out.setCell (p := ⟨b, 1, none⟩) hbase _))
end Go.Proofs.YtkccockdnjjanaaGreatDoor
