/-
  Layer 4: where a node may stand: innermost, mayStand. Layer 4: the contract of Right. Layer 4: the writer's calls: write, hasKids. Layer 4: the writer's calls: leave. Layer 4: the writer's calls: node. Layer 4: the contract of Write. Layer 4: nodes that are laid in a row of their own; awake.
-/
import Derived.Test.YtkccockdnjjanaaGreatDoorMkRight1
import Derived.Deep.RegionWith
import Derived.Deep.RegionHeld3
import Derived.Test.YtkccockdnjjanaaGreatDoorMkBuild
namespace Nwl
open Go
theorem innerN_text {ns : List Nd} {k : Nat} (hk : k < ns.length) (h : (ns[k]).name = []) : innerN ns k = parAt ns k := by
  unfold innerN textB
  rw [nd_eq ns k hk, if_pos (by simpa using h)]
theorem innerN_elem {ns : List Nd} {k : Nat} (hk : k < ns.length) (h : ¬ (ns[k]).name = []) : innerN ns k = k := by
  unfold innerN textB
  rw [nd_eq ns k hk, if_neg (by simpa using h)]
theorem stand_zero {ns : List Nd} (h : 0 < ns.length) : mayStandB ns 0 = (decide (parAt ns 0 = -1) && !decide ((ns[0]).name = [])) := by
  unfold mayStandB textB
  rw [nd_eq ns 0 h]
theorem stand_out {ns : List Nd} {k : Nat} (h : (chainL ns (innerN ns k)).contains (parAt ns (k + 1 : Nat)) = false) : mayStandB ns (k + 1) = false := by
  rw [mayStandB]
  rw [h]
  rfl
theorem stand_text {ns : List Nd} {k : Nat} (hk : k + 1 < ns.length) (h : (chainL ns (innerN ns k)).contains (parAt ns (k + 1 : Nat)) = true) (ht : (ns[k + 1]).name = []) : mayStandB ns (k + 1) = (!decide ((ns[k]'(by omega)).name = []) || decide (parAt ns k ≠ parAt ns (k + 1 : Nat))) := by
  rw [mayStandB]
  unfold textB
  rw [h, nd_eq ns (k + 1) hk, nd_eq ns k (by omega), if_pos (by simpa using ht)]
  rfl
theorem stand_elem {ns : List Nd} {k : Nat} (hk : k + 1 < ns.length) (h : (chainL ns (innerN ns k)).contains (parAt ns (k + 1 : Nat)) = true) (ht : ¬ (ns[k + 1]).name = []) : mayStandB ns (k + 1) = decide ((chainL ns (k + 1 : Nat)).length ≤ 20) := by
  rw [mayStandB]
  unfold textB
  rw [h, nd_eq ns (k + 1) hk, if_neg (by simpa using ht)]
  rfl
theorem in_par {ns : List Nd} {i : Nat} (h : Par ns (i + 1)) (hs : (chainL ns (innerN ns i)).contains (parAt ns (i + 1 : Nat)) = true) : Par ns (i + 2) := by
  intro j hj
  by_cases e : j < i + 1
  · exact h j e
  obtain rfl : j = i + 1 := by omega
  rw [List.contains_iff_mem] at hs
  have hb := innerN_bound h
  have := chainL_mem h (innerN ns i + 1).toNat _ (by omega) hb.1 (by omega) _ hs
  omega
end Nwl
namespace Go.Proofs.YtkccockdnjjanaaGreatDoor
open Nwl
open Go.RowKit Go.Maps
set_option linter.unusedVariables false
/-- a node, as it is read -/
theorem NodesR.full {B : Nat} {w : World} {A : Option Addr} {n c : Nat} {ts : List Nd} (h : NodesR B w (.slice A n c) ts) (k : Nat) (hk : k < ts.length) : ∃ (b o : Nat) (A2 : Option Addr) (l2 c2 : Nat), A = some ⟨b, o, none⟩ ∧ b < B ∧ l2 = (ts[k]).attrs.length ∧ RowR B w (.slice A2 l2 c2) (ts[k]).attrs.length 2 (attrCells (ts[k]).attrs) ∧
    w.cell? ⟨b, o + k * 4, none⟩ = some (.int .i64 (parAt ts (k : Int))) ∧ w.cell? ⟨b, o + k * 4 + 1, none⟩ = some (.string (tx (ts[k]).name)) ∧ w.cell? ⟨b, o + k * 4 + 2, none⟩ = some (.string (tx (ts[k]).text)) ∧ w.cell? ⟨b, o + k * 4 + 3, none⟩ = some (.slice A2 l2 c2) := by
  obtain ⟨cs, h1, h2⟩ := h
  obtain ⟨b, o, c', hv, hbB, _, hc⟩ := h1.some (by omega)
  injection hv with e1 e2 e3
  obtain ⟨av, hav, c0, c1, c2, c3⟩ := h2.get k hk
  obtain ⟨A2, c2', rfl⟩ := hav.form
  exact ⟨b, o, A2, _, c2', e1, hbB, rfl, hav, by rw [parAt_nat ts k hk]; exact hc _ _ c0, hc _ _ c1, hc _ _ c2, hc _ _ c3⟩

set_option maxRecDepth 100000 in
set_option maxHeartbeats 2000000 in
theorem minnermost_c (B : Nat) (ns : List Nd) (A : Option Addr) (n c k : Nat) (w : World) (hr : NodesR B w (.slice A n c) ns) (hB : B ≤ w.heap.size) (hn : n = ns.length) (hk : k < n) (hlen : n ≤ 1000000000000) :
    Calls Tryz.prog 86 #[.slice A n c, .int .i64 k] w fun e w' => e = .returned (.int .i64 (innerN ns k)) ∧ Below w.heap.size w w' := by
  have hkt : k < ns.length := by omega
  obtain ⟨b, o, A2, l2, c2, rfl, hbB, hl2, hra, e0, e1, e2, e3⟩ := hr.full k hkt
  have HT := Lib.hid fun h => innerN_text hkt h
  have HE := Lib.hid fun h => innerN_elem hkt h
  clear hr hra hl2 hn
  generalize (ns[k]).name = nm at *
  generalize (ns[k]).text = xt at *
  by_cases h : nm = []
  · have hd : decide (nm = []) = true := by simp [h]
    have HI := Lib.hid (HT.out h)
    clear h
    go_enter Tryz.func86, Tryz.ntmps86
    go_wp2_with fail
    refine (isText_c _ _ _ _ _ _ _).mono ?_
    rintro e w1 ⟨rfl, hb1⟩
    have d0 : w1.cell? ⟨b, o + k * 4, none⟩ = some (.int .i64 (parAt ns (k : Int))) := (hb1.cell (p := ⟨b, o + k * 4, none⟩) (show b < w.heap.size by omega)).trans e0
    go_wp2_with fail
    go_ret
    exact ⟨by rw [HI.out]; rfl, hb1⟩
  · have hd : decide (nm = []) = false := by simp [h]
    have HI := Lib.hid (HE.out h)
    clear h
    go_enter Tryz.func86, Tryz.ntmps86
    go_wp2_with fail
    refine (isText_c _ _ _ _ _ _ _).mono ?_
    rintro e w1 ⟨rfl, hb1⟩
    go_wp2_with fail
    go_ret
    exact ⟨by rw [HI.out]; rfl, hb1⟩

set_option maxRecDepth 100000 in
set_option maxHeartbeats 2000000 in
theorem mayStand_zero (B : Nat) (ns : List Nd) (A : Option Addr) (n c : Nat) (w : World) (hr : NodesR B w (.slice A n c) ns) (hB : B ≤ w.heap.size) (hn : n = ns.length) (hk : 0 < n) (hlen : n ≤ 1000000000000) :
    Calls Tryz.prog 55 #[.slice A n c, .int .i64 0] w fun e w' => e = .returned (.bool (mayStandB ns 0)) ∧ Below w.heap.size w w' := by
  have hkt : 0 < ns.length := by omega
  obtain ⟨b, o, A2, l2, c2, rfl, hbB, hl2, hra, e0, e1, e2, e3⟩ := hr.full 0 hkt
  have HZ := Lib.hid (stand_zero hkt)
  clear hr hra hl2 hn
  rw [Nat.zero_mul, Nat.add_zero] at e0 e1 e2 e3
  have hpz : parAt ns ((0 : Nat) : Int) = parAt ns 0 := rfl
  rw [hpz] at e0
  clear hpz
  generalize (ns[0]).name = nm at *
  generalize (ns[0]).text = xt at *
  generalize parAt ns 0 = p at *
  by_cases hp : p = -1
  · subst hp
    go_enter Tryz.func55, Tryz.ntmps55
    go_wp2_with fail
    refine (isText_c _ _ _ _ _ _ _).mono ?_
    rintro e w1 ⟨rfl, hb1⟩
    have HW : Hid (Below w.heap.size w w1) := Lib.hid (((Below.refl _ _).alloc (Nat.le_refl _) _).trans (hb1.mono (by simp)))
    clear hb1
    go_wp2_with fail
    go_ret
    exact ⟨by rw [HZ.out]; simp, HW.out⟩
  · have hpe : (p == -1) = false := by rw [beq_eq_false_iff_ne]; exact hp
    have HD : Hid (decide (p = -1) = false) := Lib.hid (by simp [hp])
    clear hp
    go_enter Tryz.func55, Tryz.ntmps55
    go_wp2_with fail
    go_ret
    exact ⟨by rw [HZ.out, HD.out]; rfl, (Below.refl _ _).alloc (Nat.le_refl _) _⟩

theorem isText_b (p : Int) (n x : List UInt8) (A : Option Addr) (l c : Nat) (w : World) (r : Bool) (hr : decide (n = []) = r) :
    Calls Tryz.prog 57 #[.agg #[.int .i64 p, .string (tx n), .string (tx x), .slice A l c]] w fun e w' => e = .returned (.bool r) ∧ Below w.heap.size w w' := by
  subst hr
  exact isText_c p n x A l c w
theorem within_b (B : Nat) (ns : List Nd) (A : Option Addr) (n c m : Nat) (i above : Int) (w : World) (r : Bool) (hrr : (chainL ns i).contains above = r) (hr : NodesR B w (.slice A n c) ns) (hn : n = ns.length) (hp : Par ns m) (hm : m ≤ n) (h0 : -1 ≤ i) (h1 : i < m) (hlen : n ≤ 1000000000000) :
    Calls Tryz.prog 85 #[.slice A n c, .int .i64 i, .int .i64 above] w fun e w' => e = .returned (.bool r) ∧ w = w' := by
  subst hrr
  exact within_c B ns A n c m i above w hr hn hp hm h0 h1 hlen
theorem depth_b (B : Nat) (ns : List Nd) (A : Option Addr) (n c m : Nat) (i : Int) (w : World) (d : Nat) (hd : (chainL ns i).length = d) (hr : NodesR B w (.slice A n c) ns) (hn : n = ns.length) (hp : Par ns m) (hm : m ≤ n) (h0 : -1 ≤ i) (h1 : i < m) (hlen : n ≤ 1000000000000) :
    Calls Tryz.prog 87 #[.slice A n c, .int .i64 i] w fun e w' => e = .returned (.int .i64 (d : Int)) ∧ w = w' := by
  subst hd
  exact depth_c B ns A n c m i w hr hn hp hm h0 h1 hlen

/-- what stays read while something is written from B on -/
structure StAt (B : Nat) (ns : List Nd) (A : Option Addr) (n c : Nat) (w w' : World) (p : Int) (nm xt : List UInt8) (av : Value) : Prop where
  bel : Below w.heap.size w w'
  nodes : NodesR B w' (.slice A n c) ns
  box : Blk w' w.heap.size 32 #[.int .i64 p, .string (tx nm), .string (tx xt), av]
theorem StAt.on {B : Nat} {ns : List Nd} {A : Option Addr} {n c : Nat} {w w1 w2 : World} {p : Int} {nm xt : List UInt8} {av : Value} (h : StAt B ns A n c w w1 p nm xt av) (hB : B ≤ w.heap.size) (hb : Below w1.heap.size w1 w2) : StAt B ns A n c w w2 p nm xt av :=
  ⟨h.bel.trans (hb.mono h.bel.size), h.nodes.below (hb.mono (by have := h.bel.size; omega)), h.box.below hb⟩
theorem StAt.old {B : Nat} {ns : List Nd} {A : Option Addr} {n c b j : Nat} {w w1 : World} {p : Int} {nm xt : List UInt8} {av v : Value} (h : StAt B ns A n c w w1 p nm xt av) (hb : b < w.heap.size) (e : w.cell? ⟨b, j, none⟩ = some v) : w1.cell? ⟨b, j, none⟩ = some v :=
  (h.bel.cell (p := ⟨b, j, none⟩) hb).trans e
theorem StAt.draw {B : Nat} {ns : List Nd} {A : Option Addr} {n c : Nat} {w w1 : World} {p : Int} {nm xt : List UInt8} {av : Value} (h : StAt B ns A n c w w1 p nm xt av) (hB : B ≤ w.heap.size) : StAt B ns A n c w w1.drew p nm xt av :=
  h.on hB (Below.refl _ _).drew

set_option maxRecDepth 100000 in
set_option maxHeartbeats 2000000 in
theorem mayStand_succ (B : Nat) (ns : List Nd) (A : Option Addr) (n c k : Nat) (w : World) (hr : NodesR B w (.slice A n c) ns) (hB : B ≤ w.heap.size) (hn : n = ns.length) (hk : k + 1 < n) (hp : Par ns (k + 1)) (hlen : n ≤ 1000000000000) :
    Calls Tryz.prog 55 #[.slice A n c, .int .i64 ((k + 1 : Nat) : Int)] w fun e w' => e = .returned (.bool (mayStandB ns (k + 1))) ∧ Below w.heap.size w w' := by
  have hkt : k + 1 < ns.length := by omega
  have hk0 : k < ns.length := by omega
  obtain ⟨b, o, A2, l2, c2, rfl, hbB, hl2, hra, e0, e1, e2, e3⟩ := hr.full (k + 1) hkt
  obtain ⟨b', o', A3, l3, c3, hA', hbB', hl3, hra', f0, f1, f2, f3⟩ := hr.full k hk0
  injection hA' with hA'
  injection hA' with hb' ho' _
  subst hb' ho'
  have HI := Lib.hid (innerN_bound hp)
  have HP := Lib.hid hp
  have HN := Lib.hid hn
  have HO := Lib.hid fun h => stand_out (ns := ns) (k := k) h
  have HT := Lib.hid fun h ht => stand_text (ns := ns) (k := k) hkt h ht
  have HE := Lib.hid fun h ht => stand_elem (ns := ns) (k := k) hkt h ht
  have HST : Hid (StAt B ns (some ⟨b, o, none⟩) n c w (w.alloc (.cells #[.int .i64 (parAt ns ((k + 1 : Nat) : Int)), .string (tx (ns[k + 1]).name), .string (tx (ns[k + 1]).text), .slice A2 l2 c2] 32)) (parAt ns ((k + 1 : Nat) : Int)) (ns[k + 1]).name (ns[k + 1]).text (.slice A2 l2 c2)) :=
    Lib.hid ⟨(Below.refl _ _).alloc (Nat.le_refl _) _, hr.below ((Below.refl _ _).alloc hB _), Blk.new w _ _⟩
  clear hr hra hl2 hn hp hra' hl3 hbB'
  generalize (ns[k + 1]).name = nm at *
  generalize (ns[k + 1]).text = xt at *
  generalize (ns[k]).name = nm' at *
  generalize (ns[k]).text = xt' at *
  obtain ⟨q, hq⟩ : ∃ q, q = parAt ns (k : Int) := ⟨_, rfl⟩
  rw [← hq] at f0 HT
  have HQ := Lib.hid hq
  clear hq
  obtain ⟨p, hpp⟩ : ∃ p, p = parAt ns ((k + 1 : Nat) : Int) := ⟨_, rfl⟩
  rw [← hpp] at e0 HST HO HT HE
  have HPP := Lib.hid hpp
  clear hpp
  obtain ⟨i, hi⟩ : ∃ i, i = k + 1 := ⟨_, rfl⟩
  rw [← hi] at e0 e1 e2 e3 hk HO HT HE ⊢
  have HPI : Hid (Par ns i) := Lib.hid (by rw [hi]; exact HP.out)
  have hz : ((i : Int) == 0) = false := by rw [beq_eq_false_iff_ne]; omega
  have hz' : ¬ (i = 0) := by omega
  have hw1 : IntKind.i64.wrap ((i : Int) - 1) = (k : Int) := by rw [IntWalk.i64_in _ (by omega)]; omega
  have hib : -1 ≤ innerN ns k ∧ innerN ns k < i := by have := HI.out; omega
  have HKI := Lib.hid hi
  have hkn : k < n := by omega
  have hbw : b < w.heap.size := by omega
  clear hi HP HI
  cases hin : (chainL ns (innerN ns k)).contains p with
  | false =>
    have HF := Lib.hid (HO.out hin)
    have hst := (HST.out.draw hB).box.cell 0
    have HIN := Lib.hid hin
    clear hin
    clear HO HT HE
    go_enter Tryz.func55, Tryz.ntmps55
    go_wp2_with fail
    go_region_held3 (fun w' => w'.cell? ⟨w.heap.size, 0, none⟩ = some (.int .i64 p)) (first | exact hst | exact b0) (first
      | (go_at_call 86; refine (minnermost_c B ns _ _ _ k _ (HST.out.draw hB).nodes (by have := (HST.out.draw hB).bel.size; omega) HN.out hkn hlen).mono ?_; rintro e w2 ⟨rfl, hb2⟩; have HS2 := Lib.hid ((HST.out.draw hB).on hB hb2); have b0 := HS2.out.box.cell 0; clear hb2)
      | (go_at_call 85; refine (within_b B ns _ _ _ i _ _ _ _ HIN.out HS2.out.nodes HN.out HPI.out (by omega) hib.1 hib.2 hlen).mono ?_; rintro e w3 ⟨rfl, rfl⟩))
    all_goals (go_wp2_with fail; go_ret; exact ⟨ret_bool HF.out.symm, HS2.out.bel⟩)
  | true =>
    have HPJ : Hid (Par ns (i + 1)) := Lib.hid (by have := in_par (ns := ns) (i := k) (by rw [← HKI.out]; exact HPI.out) (by rw [← HPP.out]; exact hin); rw [HKI.out]; exact this)
    have hst := (HST.out.draw hB).box.cell 0
    have HIN := Lib.hid hin
    clear hin
    by_cases hnm : nm = []
    · have hd : decide (nm = []) = true := by simp [hnm]
      have HR1 := Lib.hid (HT.out HIN.out hnm)
      clear HO HT HE hnm
      by_cases hnm' : nm' = []
      · have hd' : decide (nm' = []) = true := by simp [hnm']
        have HF : Hid (mayStandB ns i = (q != p)) := Lib.hid (by
          rw [HR1.out, hd']
          by_cases h : q = p <;> simp [h])
        clear hnm'
        go_enter Tryz.func55, Tryz.ntmps55
        go_wp2_with fail
        go_region_held3 (fun w' => w'.cell? ⟨w.heap.size, 0, none⟩ = some (.int .i64 p)) (first | exact hst | exact b0) (first
          | (go_at_call 86; refine (minnermost_c B ns _ _ _ k _ (HST.out.draw hB).nodes (by have := (HST.out.draw hB).bel.size; omega) HN.out hkn hlen).mono ?_; rintro e w2 ⟨rfl, hb2⟩; have HS2 := Lib.hid ((HST.out.draw hB).on hB hb2); have b0 := HS2.out.box.cell 0; have b1 := HS2.out.box.cell 1; have b2 := HS2.out.box.cell 2; have b3 := HS2.out.box.cell 3; clear hb2)
          | (go_at_call 85; refine (within_b B ns _ _ _ i _ _ _ _ HIN.out HS2.out.nodes HN.out HPI.out (by omega) hib.1 hib.2 hlen).mono ?_; rintro e w3 ⟨rfl, rfl⟩))
        all_goals (
          go_wp2_with fail
          refine (isText_c _ _ _ _ _ _ _).mono ?_
          rintro e w3 ⟨rfl, hb3⟩
          have HS3 := Lib.hid ((HS2.out.on hB hb3).draw hB)
          clear hb3
          have g0 := HS3.out.old hbw f0
          have g1 := HS3.out.old hbw f1
          have g2 := HS3.out.old hbw f2
          have g3 := HS3.out.old hbw f3
          have y0 := HS3.out.box.cell 0
          go_wp2_with fail
          go_region_held3 (fun w' => w'.cell? ⟨b, o + k * 4, none⟩ = some (.int .i64 q) ∧ w'.cell? ⟨b, o + k * 4 + 1, none⟩ = some (.string (tx nm')) ∧ w'.cell? ⟨b, o + k * 4 + 2, none⟩ = some (.string (tx xt')) ∧ w'.cell? ⟨b, o + k * 4 + 3, none⟩ = some (.slice A3 l3 c3) ∧ w'.cell? ⟨w.heap.size, 0, none⟩ = some (.int .i64 p)) (first | exact ⟨g0, g1, g2, g3, y0⟩ | exact ⟨z0, z1, z2, z3, x0⟩) ((go_at_call 57; refine (isText_b _ _ _ _ _ _ _ _ hd').mono ?_; rintro e w4 ⟨rfl, hb4⟩; have HS4 := Lib.hid (HS3.out.on hB hb4); have z0 := HS4.out.old hbw f0; have z1 := HS4.out.old hbw f1; have z2 := HS4.out.old hbw f2; have z3 := HS4.out.old hbw f3; have x0 := HS4.out.box.cell 0; clear hb4))
          all_goals (
            go_wp2_with fail
            go_ret
            exact ⟨ret_bool HF.out.symm, HS4.out.bel⟩))
      · have hd' : decide (nm' = []) = false := by simp [hnm']
        have HF : Hid (mayStandB ns i = true) := Lib.hid (by rw [HR1.out, hd']; rfl)
        clear hnm'
        go_enter Tryz.func55, Tryz.ntmps55
        go_wp2_with fail
        go_region_held3 (fun w' => w'.cell? ⟨w.heap.size, 0, none⟩ = some (.int .i64 p)) (first | exact hst | exact b0) (first
          | (go_at_call 86; refine (minnermost_c B ns _ _ _ k _ (HST.out.draw hB).nodes (by have := (HST.out.draw hB).bel.size; omega) HN.out hkn hlen).mono ?_; rintro e w2 ⟨rfl, hb2⟩; have HS2 := Lib.hid ((HST.out.draw hB).on hB hb2); have b0 := HS2.out.box.cell 0; have b1 := HS2.out.box.cell 1; have b2 := HS2.out.box.cell 2; have b3 := HS2.out.box.cell 3; clear hb2)
          | (go_at_call 85; refine (within_b B ns _ _ _ i _ _ _ _ HIN.out HS2.out.nodes HN.out HPI.out (by omega) hib.1 hib.2 hlen).mono ?_; rintro e w3 ⟨rfl, rfl⟩))
        all_goals (
          go_wp2_with fail
          refine (isText_c _ _ _ _ _ _ _).mono ?_
          rintro e w3 ⟨rfl, hb3⟩
          have HS3 := Lib.hid ((HS2.out.on hB hb3).draw hB)
          clear hb3
          have g0 := HS3.out.old hbw f0
          have g1 := HS3.out.old hbw f1
          have g2 := HS3.out.old hbw f2
          have g3 := HS3.out.old hbw f3
          have y0 := HS3.out.box.cell 0
          go_wp2_with fail
          refine wp_region_any (by kernel_rfl) ?_
          change wpAny _ _ _ _ _ _ _ (World.drew _)
          refine wpAny_take (i := 0) (v := .slice (some ⟨b, o, none⟩) n c) rfl (by kernel_rfl) (by kernel_rfl) (by kernel_rfl) (fun _ _ _ h => h) (Or.inl ⟨by rfl, fun W => by go_simp⟩) ?_
          simp only [Act.put, List.getElem_toArray, List.getElem_cons_zero, List.setIfInBounds_toArray, List.set_cons_zero, List.set_cons_succ]
          refine wpAny_take (i := 1) (v := .int .i64 (i : Int)) rfl (by kernel_rfl) (by kernel_rfl) (by kernel_rfl) (fun _ _ _ h => h) (Or.inl ⟨by rfl, fun W => by go_simp⟩) ?_
          simp only [Act.put, List.getElem_toArray, List.getElem_cons_zero, List.getElem_cons_succ, List.setIfInBounds_toArray, List.set_cons_zero, List.set_cons_succ]
          refine wpAny_take (i := 2) (v := .int .i64 (k : Int)) rfl (by kernel_rfl) (by kernel_rfl) (by kernel_rfl) (fun _ _ _ h => h) (Or.inl ⟨by rfl, fun W => by go_simp⟩) ?_
          simp only [Act.put, List.getElem_toArray, List.getElem_cons_zero, List.getElem_cons_succ, List.setIfInBounds_toArray, List.set_cons_zero, List.set_cons_succ]
          refine wpAny_take (i := 3) (v := .pointer (some ⟨b, o + k * 4, none⟩)) rfl (by kernel_rfl) (by kernel_rfl) (by kernel_rfl) (fun _ _ _ h => h) (Or.inl ⟨by rfl, fun W => by go_simp⟩) ?_
          simp only [Act.put, List.getElem_toArray, List.getElem_cons_zero, List.getElem_cons_succ, List.setIfInBounds_toArray, List.set_cons_zero, List.set_cons_succ]
          refine wpAny_ready (rs := [4]) (by kernel_rfl) (by simp) ?_
          refine AllReady.cons rfl (fun K hK => ?_) AllReady.nil
          go_simp
          refine hK _ _ ?_
          clear hK K
          refine wpAny_ready (rs := [5]) (by kernel_rfl) (by simp) ?_
          refine AllReady.cons rfl (fun K hK => ?_) AllReady.nil
          go_simp
          go_wp2_with ((go_at_call 57; refine (isText_b _ _ _ _ _ _ _ _ hd').mono ?_; rintro e w4 ⟨rfl, hb4⟩; have HS4 := Lib.hid (HS3.out.on hB hb4); clear hb4))
          refine wpAny_take (i := 6) (v := .bool true) rfl (by kernel_rfl) (by kernel_rfl) (by kernel_rfl) (fun _ _ _ h => h) (Or.inl ⟨by rfl, fun W => by go_simp⟩) ?_
          simp only [Act.put, List.getElem_toArray, List.getElem_cons_zero, List.getElem_cons_succ, List.setIfInBounds_toArray, List.set_cons_zero, List.set_cons_succ]
          refine wpAny_take (i := 7) (v := .bool true) rfl (by kernel_rfl) (by kernel_rfl) (by kernel_rfl) (fun _ _ _ h => h) (Or.inl ⟨by rfl, fun W => by go_simp⟩) ?_
          simp only [Act.put, List.getElem_toArray, List.getElem_cons_zero, List.getElem_cons_succ, List.setIfInBounds_toArray, List.set_cons_zero, List.set_cons_succ]
          refine wpAny_take (i := 8) (v := undef) rfl (by kernel_rfl) (by kernel_rfl) (by kernel_rfl) (fun _ _ _ h => h) (Or.inr ⟨by rfl, rfl⟩) ?_
          simp only [Act.put, List.getElem_toArray, List.getElem_cons_zero, List.getElem_cons_succ, List.setIfInBounds_toArray, List.set_cons_zero, List.set_cons_succ]
          refine wpAny_take (i := 9) (v := undef) rfl (by kernel_rfl) (by kernel_rfl) (by kernel_rfl) (fun _ _ _ h => h) (Or.inr ⟨by rfl, rfl⟩) ?_
          simp only [Act.put, List.getElem_toArray, List.getElem_cons_zero, List.getElem_cons_succ, List.setIfInBounds_toArray, List.set_cons_zero, List.set_cons_succ]
          refine wpAny_take (i := 10) (v := undef) rfl (by kernel_rfl) (by kernel_rfl) (by kernel_rfl) (fun _ _ _ h => h) (Or.inr ⟨by rfl, rfl⟩) ?_
          simp only [Act.put, List.getElem_toArray, List.getElem_cons_zero, List.getElem_cons_succ, List.setIfInBounds_toArray, List.set_cons_zero, List.set_cons_succ]
          refine wpAny_take (i := 11) (v := undef) rfl (by kernel_rfl) (by kernel_rfl) (by kernel_rfl) (fun _ _ _ h => h) (Or.inr ⟨by rfl, rfl⟩) ?_
          simp only [Act.put, List.getElem_toArray, List.getElem_cons_zero, List.getElem_cons_succ, List.setIfInBounds_toArray, List.set_cons_zero, List.set_cons_succ]
          refine wpAny_take (i := 12) (v := undef) rfl (by kernel_rfl) (by kernel_rfl) (by kernel_rfl) (fun _ _ _ h => h) (Or.inr ⟨by rfl, rfl⟩) ?_
          simp only [Act.put, List.getElem_toArray, List.getElem_cons_zero, List.getElem_cons_succ, List.setIfInBounds_toArray, List.set_cons_zero, List.set_cons_succ]
          refine wpAny_take (i := 13) (v := undef) rfl (by kernel_rfl) (by kernel_rfl) (by kernel_rfl) (fun _ _ _ h => h) (Or.inr ⟨by rfl, rfl⟩) ?_
          simp only [Act.put, List.getElem_toArray, List.getElem_cons_zero, List.getElem_cons_succ, List.setIfInBounds_toArray, List.set_cons_zero, List.set_cons_succ]
          refine wpAny_take (i := 14) (v := undef) rfl (by kernel_rfl) (by kernel_rfl) (by kernel_rfl) (fun _ _ _ h => h) (Or.inr ⟨by rfl, rfl⟩) ?_
          simp only [Act.put, List.getElem_toArray, List.getElem_cons_zero, List.getElem_cons_succ, List.setIfInBounds_toArray, List.set_cons_zero, List.set_cons_succ]
          refine wpAny_take (i := 15) (v := undef) rfl (by kernel_rfl) (by kernel_rfl) (by kernel_rfl) (fun _ _ _ h => h) (Or.inr ⟨by rfl, rfl⟩) ?_
          simp only [Act.put, List.getElem_toArray, List.getElem_cons_zero, List.getElem_cons_succ, List.setIfInBounds_toArray, List.set_cons_zero, List.set_cons_succ]
          refine wpAny_take (i := 16) (v := undef) rfl (by kernel_rfl) (by kernel_rfl) (by kernel_rfl) (fun _ _ _ h => h) (Or.inr ⟨by rfl, rfl⟩) ?_
          simp only [Act.put, List.getElem_toArray, List.getElem_cons_zero, List.getElem_cons_succ, List.setIfInBounds_toArray, List.set_cons_zero, List.set_cons_succ]
          refine wpAny_take (i := 17) (v := .bool true) rfl (by kernel_rfl) (by kernel_rfl) (by kernel_rfl) (fun _ _ _ h => h) (Or.inl ⟨by rfl, fun W => by go_simp⟩) ?_
          simp only [Act.put, List.getElem_toArray, List.getElem_cons_zero, List.getElem_cons_succ, List.setIfInBounds_toArray, List.set_cons_zero, List.set_cons_succ]
          refine wpAny_take (i := 18) (v := .bool true) rfl (by kernel_rfl) (by kernel_rfl) (by kernel_rfl) (fun _ _ _ h => h) (Or.inl ⟨by rfl, fun W => by go_simp⟩) ?_
          simp only [Act.put, List.getElem_toArray, List.getElem_cons_zero, List.getElem_cons_succ, List.setIfInBounds_toArray, List.set_cons_zero, List.set_cons_succ]
          refine wpAny_done (by kernel_rfl) ?_ _
          all_goals (
            go_wp2_with fail
            go_ret
            exact ⟨ret_bool HF.out.symm, HS4.out.bel⟩))
    · have hd : decide (nm = []) = false := by simp [hnm]
      have HR1 := Lib.hid (HE.out HIN.out hnm)
      obtain ⟨d, hdd⟩ : ∃ d, (chainL ns (i : Int)).length = d := ⟨_, rfl⟩
      rw [hdd] at HR1
      have HDD := Lib.hid hdd
      clear hdd
      clear HO HT HE hnm
      go_enter Tryz.func55, Tryz.ntmps55
      go_wp2_with fail
      go_region_held3 (fun w' => w'.cell? ⟨w.heap.size, 0, none⟩ = some (.int .i64 p)) (first | exact hst | exact b0) (first
        | (go_at_call 86; refine (minnermost_c B ns _ _ _ k _ (HST.out.draw hB).nodes (by have := (HST.out.draw hB).bel.size; omega) HN.out hkn hlen).mono ?_; rintro e w2 ⟨rfl, hb2⟩; have HS2 := Lib.hid ((HST.out.draw hB).on hB hb2); have b0 := HS2.out.box.cell 0; have b1 := HS2.out.box.cell 1; have b2 := HS2.out.box.cell 2; have b3 := HS2.out.box.cell 3; clear hb2)
        | (go_at_call 85; refine (within_b B ns _ _ _ i _ _ _ _ HIN.out HS2.out.nodes HN.out HPI.out (by omega) hib.1 hib.2 hlen).mono ?_; rintro e w3 ⟨rfl, rfl⟩))
      all_goals (
        go_wp2_with fail
        refine (isText_c _ _ _ _ _ _ _).mono ?_
        rintro e w3 ⟨rfl, hb3⟩
        have HS3 := Lib.hid (HS2.out.on hB hb3)
        clear hb3
        go_wp2_with fail
        refine (depth_b B ns _ _ _ (i + 1) _ _ d HDD.out HS3.out.nodes HN.out HPJ.out (by omega) (by omega) (by omega) hlen).mono ?_
        rintro e w4 ⟨rfl, rfl⟩
        go_wp2_with fail
        go_ret
        refine ⟨?_, HS3.out.bel⟩
        rw [HR1.out]
        exact ret_bool (by rw [decide_eq_decide]; omega))

theorem mStand_c (B : Nat) (ns : List Nd) (A : Option Addr) (n c i : Nat) (w : World) (hr : NodesR B w (.slice A n c) ns) (hB : B ≤ w.heap.size) (hn : n = ns.length) (hi : i < n) (hp : Par ns i) (hlen : n ≤ 1000000000000) :
    Calls Tryz.prog 55 #[.slice A n c, .int .i64 (i : Int)] w fun e w' => e = .returned (.bool (mayStandB ns i)) ∧ Below w.heap.size w w' := by
  cases i with
  | zero => exact mayStand_zero B ns A n c w hr hB hn hi hlen
  | succ k => exact mayStand_succ B ns A n c k w hr hB hn hi hp hlen

end Go.Proofs.YtkccockdnjjanaaGreatDoor

namespace Nwl
theorem rightB_nil : rightB [] = false := rfl
theorem rightB_many {ns : List Nd} (h : 2000 < ns.length) : rightB ns = false := by
  unfold rightB
  rw [decide_eq_false (p := ns.length ≤ 2000) (by omega)]
  simp
theorem rightB_bad {ns : List Nd} {k : Nat} (hk : k < ns.length) (h : nodeB ns k = false) : rightB ns = false := by
  unfold rightB rightTo
  rw [all_range_false hk h]
  simp
theorem rightB_all {ns : List Nd} (h0 : ns ≠ []) (h1 : ns.length ≤ 2000) (h : rightTo ns ns.length = true) : rightB ns = true := by
  unfold rightB
  rw [decide_eq_true h0, decide_eq_true h1, h]
  rfl
theorem nodeB_1 {ns : List Nd} {k : Nat} (hk : k < ns.length) (h : mayBeB ns[k] = false) : nodeB ns k = false := by
  unfold nodeB
  rw [nd_eq ns k hk, h]
  rfl
theorem nodeB_2 {ns : List Nd} {k : Nat} (hk : k < ns.length) (h : mayBeB ns[k] = true) : nodeB ns k = mayStandB ns k := by
  unfold nodeB
  rw [nd_eq ns k hk, h]
  rfl
end Nwl
namespace Go.Proofs.YtkccockdnjjanaaGreatDoor
open Nwl
open Go.RowKit Go.Maps
set_option linter.unusedVariables false
theorem mayBe_b (B : Nat) (n : Nd) (A : Option Addr) (l c : Nat) (w : World) (r : Bool) (hrr : mayBeB n = r) (hr : RowR B w (.slice A l c) n.attrs.length 2 (attrCells n.attrs)) (hB : B ≤ w.heap.size) (hl : l = n.attrs.length) (hs : bulkN n ≤ 2000000) :
    Calls Tryz.prog 54 #[.agg #[.int .i64 n.parent, .string (tx n.name), .string (tx n.text), .slice A l c]] w fun e w' => e = .returned (.bool r) ∧ Below w.heap.size w w' := by
  subst hrr
  exact mayBe_c B n A l c w hr hB hl hs
theorem mayStand_b (B : Nat) (ns : List Nd) (A : Option Addr) (n c i : Nat) (w : World) (r : Bool) (hrr : mayStandB ns i = r) (hr : NodesR B w (.slice A n c) ns) (hB : B ≤ w.heap.size) (hn : n = ns.length) (hi : i < n) (hp : Par ns i) (hlen : n ≤ 1000000000000) :
    Calls Tryz.prog 55 #[.slice A n c, .int .i64 (i : Int)] w fun e w' => e = .returned (.bool r) ∧ Below w.heap.size w w' := by
  subst hrr
  exact mStand_c B ns A n c i w hr hB hn hi hp hlen

set_option maxRecDepth 100000 in
set_option maxHeartbeats 2000000 in
theorem Right_c (B : Nat) (ns : List Nd) (A : Option Addr) (n c : Nat) (w : World) (hr : NodesR B w (.slice A n c) ns) (hB : B ≤ w.heap.size) (hn : n = ns.length) (hlen : n ≤ 1000000000000) (hsm : Small ns 2000000) :
    Calls Tryz.prog 35 #[.slice A n c] w fun e w' => e = .returned (.bool (rightB ns)) ∧ Below w.heap.size w w' := by
  have HR := Lib.hid hr
  have HN := Lib.hid hn
  have HS := Lib.hid hsm
  clear hr hsm
  by_cases h0 : n = 0
  · have HF : Hid (rightB ns = false) := Lib.hid (by rw [List.eq_nil_of_length_eq_zero (by omega : ns.length = 0)]; rfl)
    subst h0
    clear hn
    go_enter Tryz.func35, Tryz.ntmps35
    go_wp2_with fail
    refine wp_scope_again 0 (fun _ _ => False) (fun _ _ => 0) rfl (fun _ _ h => h.elim) ?_
    intro hpass
    go_wp2_with fail
    simp only [Exit.jump]
    go_ret
    exact ⟨ret_bool HF.out.symm, Below.refl _ _⟩
  by_cases h1 : 2000 < n
  · have HF : Hid (rightB ns = false) := Lib.hid (rightB_many (by omega))
    have hz : ((n : Int) == 0) = false := by rw [beq_eq_false_iff_ne]; omega
    clear hn
    go_enter Tryz.func35, Tryz.ntmps35
    go_wp2_with fail
    refine wp_scope_again 0 (fun _ _ => False) (fun _ _ => 0) rfl (fun _ _ h => h.elim) ?_
    intro hpass
    go_wp2_with fail
    simp only [Exit.jump]
    go_ret
    exact ⟨ret_bool HF.out.symm, Below.refl _ _⟩
  have hz : ((n : Int) == 0) = false := by rw [beq_eq_false_iff_ne]; omega
  have h2 : decide ((2000 : Int) < (n : Int)) = false := by rw [decide_eq_false_iff_not]; omega
  have h2' : n ≤ 2000 := by omega
  clear hn h1
  go_enter Tryz.func35, Tryz.ntmps35
  go_wp2_with fail
  refine wp_scope_again 0 (fun a' w' => ∃ (k : Nat) (u4 u5 u6 u7 u8 u9 u10 u11 u12 u13 u14 u15 u16 u17 u18 u19 u20 u21 u22 u23 u24 u25 u26 u27 u28 u29 : Value), a' = { tmps := #[.slice A n c, undef, .bool false, .int .i64 (k : Int), u4, u5, u6, u7, u8, u9, u10, u11, u12, u13, u14, u15, u16, u17, u18, u19, u20, u21, u22, u23, u24, u25, u26, u27, u28, u29], defers := [] } ∧ Hid (k ≤ n ∧ rightTo ns k = true ∧ Below w.heap.size w w')) (fun a' _ => n - (intOf (a'.tmps.getD 3 undef)).toNat) rfl ?_ ?_
  · rintro a' w' ⟨k, u4, u5, u6, u7, u8, u9, u10, u11, u12, u13, u14, u15, u16, u17, u18, u19, u20, u21, u22, u23, u24, u25, u26, u27, u28, u29, rfl, hh⟩
    have hk := hh.out.1
    have hws := hh.out.2.2.size
    by_cases hlt : k < n
    · have hkt : k < ns.length := by have := HN.out; omega
      obtain ⟨b, o, A2, l2, c2, hA, hbB, hl2, hra, e0, e1, e2, e3⟩ := (HR.out.below (hh.out.2.2.mono hB)).full k hkt
      subst hA
      rw [parAt_nat ns k hkt] at e0
      have hne : ((k : Int) == (n : Int)) = false := by rw [beq_eq_false_iff_ne]; omega
      have HRA := Lib.hid hra
      have HL2 := Lib.hid hl2
      have HSN : Hid (bulkN ns[k] ≤ 2000000) := Lib.hid (by have := HS.out k; rwa [nd_eq ns k hkt] at this)
      have HK := Lib.hid hkt
      cases hmb : mayBeB ns[k] with
      | false =>
        have HF : Hid (rightB ns = false) := Lib.hid (rightB_bad hkt (nodeB_1 hkt hmb))
        have HMB := Lib.hid hmb
        clear hmb hra hl2
        go_wp2_with fail
        refine (mayBe_b B ns[k] _ _ _ _ _ HMB.out HRA.out (by omega) HL2.out HSN.out).mono ?_
        rintro e w1 ⟨rfl, hb1⟩
        have HW : Hid (Below w.heap.size w w1) := Lib.hid (hh.out.2.2.trans (hb1.mono hws))
        clear hb1
        go_wp2_with fail
        simp only [Exit.jump]
        go_ret
        exact ⟨ret_bool HF.out.symm, HW.out⟩
      | true =>
        have HMB := Lib.hid hmb
        cases hms : mayStandB ns k with
        | false =>
          have HF : Hid (rightB ns = false) := Lib.hid (rightB_bad hkt (by rw [nodeB_2 hkt hmb, hms]))
          have HMS := Lib.hid hms
          clear hmb hra hl2 hms
          go_wp2_with fail
          refine (mayBe_b B ns[k] _ _ _ _ _ HMB.out HRA.out (by omega) HL2.out HSN.out).mono ?_
          rintro e w1 ⟨rfl, hb1⟩
          have HW : Hid (Below w.heap.size w w1) := Lib.hid (hh.out.2.2.trans (hb1.mono hws))
          have hws1 := HW.out.size
          clear hb1
          go_wp2_with fail
          refine (mayStand_b B ns _ _ _ k _ _ HMS.out (HR.out.below (HW.out.mono hB)) (by omega) HN.out hlt (right_par hh.out.2.1) hlen).mono ?_
          rintro e w2 ⟨rfl, hb2⟩
          have HW2 : Hid (Below w.heap.size w w2) := Lib.hid (HW.out.trans (hb2.mono hws1))
          clear hb2
          go_wp2_with fail
          simp only [Exit.jump]
          go_ret
          exact ⟨ret_bool HF.out.symm, HW2.out⟩
        | true =>
          have HF : Hid (rightTo ns (k + 1) = true) := Lib.hid (rightTo_next hh.out.2.1 (by rw [nodeB_2 hkt hmb, hms]))
          have HMS := Lib.hid hms
          clear hmb hra hl2 hms
          go_wp2_with fail
          refine (mayBe_b B ns[k] _ _ _ _ _ HMB.out HRA.out (by omega) HL2.out HSN.out).mono ?_
          rintro e w1 ⟨rfl, hb1⟩
          have HW : Hid (Below w.heap.size w w1) := Lib.hid (hh.out.2.2.trans (hb1.mono hws))
          have hws1 := HW.out.size
          clear hb1
          go_wp2_with fail
          refine (mayStand_b B ns _ _ _ k _ _ HMS.out (HR.out.below (HW.out.mono hB)) (by omega) HN.out hlt (right_par hh.out.2.1) hlen).mono ?_
          rintro e w2 ⟨rfl, hb2⟩
          have HW2 : Hid (Below w.heap.size w w2) := Lib.hid (HW.out.trans (hb2.mono hws1))
          clear hb2
          go_wp2_with fail
          go_step3
          refine ⟨rfl, ⟨k + 1, _, _, _, _, _, _, _, _, _, _, _, _, _, _, _, _, _, _, _, _, _, _, _, _, _, _, rfl, hlt, HF.out, HW2.out⟩, ?_⟩
          simp [intOf]
          omega
    · obtain rfl : k = n := by omega
      have HF : Hid (rightB ns = true) := Lib.hid (rightB_all (fun e => by rw [e] at HN; exact h0 HN.out) (by have := HN.out; omega) (by have := hh.out.2.1; rwa [HN.out] at this))
      go_wp2_with fail
      simp only [Exit.jump]
      go_ret
      exact ⟨ret_bool HF.out.symm, hh.out.2.2⟩
  · intro hpass
    go_wp2_with fail
    go_step3
    rename_i hK
    exact hK _ _ (hpass.out _ _ ⟨0, _, _, _, _, _, _, _, _, _, _, _, _, _, _, _, _, _, _, _, _, _, _, _, _, _, _, rfl, Nat.zero_le _, rfl, Below.refl _ _⟩)

end Go.Proofs.YtkccockdnjjanaaGreatDoor

namespace Nwl
theorem kidsB_no {ns : List Nd} {i : Nat} (h : ¬ i + 1 < ns.length) : kidsB ns i = false := by unfold kidsB; rw [decide_eq_false h]; rfl
theorem kidsB_yes {ns : List Nd} {i : Nat} (h : i + 1 < ns.length) : kidsB ns i = decide (parAt ns (i + 1 : Nat) = i) := by unfold kidsB; rw [decide_eq_true h]; rfl
theorem flat_take (ps : List (List UInt8)) (j : Nat) (h : j < ps.length) : (ps.take (j + 1)).flatten = (ps.take j).flatten ++ ps[j] := by
  rw [List.take_succ_eq_append_getElem h, List.flatten_append]
  simp
theorem flat_take_len (ps : List (List UInt8)) (j : Nat) (h : j < ps.length) : (ps.take j).flatten.length + (ps[j]).length ≤ ps.flatten.length := by
  have e : ps.flatten = (ps.take (j + 1)).flatten ++ (ps.drop (j + 1)).flatten := by rw [← List.flatten_append, List.take_append_drop]
  rw [e, flat_take ps j h]
  simp only [List.length_append]
  omega
end Nwl
namespace Go.Proofs.YtkccockdnjjanaaGreatDoor
open Nwl
open Go.RowKit Go.Maps
set_option linter.unusedVariables false
/-- pieces as cells -/
def pcs (ps : List (List UInt8)) : Array Value := (ps.map fun p => Value.string (tx p)).toArray
theorem pcs_at (ps : List (List UInt8)) (j : Nat) (h : j < ps.length) : (pcs ps)[j]? = some (.string (tx ps[j])) := by
  unfold pcs
  rw [List.getElem?_toArray, List.getElem?_map, List.getElem?_eq_getElem h]
  rfl
/-- where the writing of pieces stands -/
def PcAt (B b g : Nat) (vn vo : Value) (run : List UInt8) (ps : List (List UInt8)) (w : World) (j : Nat) (w' : World) : Prop :=
  (∃ p vb, WrV B b vn vo p vb (run ++ (ps.take j).flatten) w') ∧ Below B w w' ∧ Keep w w' ∧ Blk w' g 9 (pcs ps)

set_option maxRecDepth 100000 in
set_option maxHeartbeats 2000000 in
theorem write_c (B b g c n : Nat) (vn vo p vb : Value) (run : List UInt8) (ps : List (List UInt8)) (w : World) (h : WrV B b vn vo p vb run w) (hp : Blk w g 9 (pcs ps)) (hn : n = ps.length) (hl : run.length + ps.flatten.length ≤ 140737488355328) (hn2 : n ≤ 100) :
    Calls Tryz.prog 56 #[.pointer (some ⟨b, 0, none⟩), .slice (some ⟨g, 0, none⟩) n c] w fun e w' => e = .returned (.tuple #[]) ∧ (∃ p' vb', WrV B b vn vo p' vb' (run ++ ps.flatten) w') ∧ Below B w w' ∧ Keep w w' := by
  have HH : Hid (PcAt B b g vn vo run ps w 0 w) := Lib.hid ⟨⟨p, vb, by simpa using h⟩, Below.refl _ _, Keep.refl _, hp⟩
  have HN := Lib.hid hn
  clear h hp hn
  go_enter Tryz.func56, Tryz.ntmps56
  go_wp2_with fail
  go_loopw [8] (fun i wr => ∃ k : Nat, k ≤ n ∧ i = .int .i64 k ∧ Hid (PcAt B b g vn vo run ps w k wr)) (fun i _ => n - (intOf i).toNat)
  case atStart => exact ⟨0, Nat.zero_le _, rfl, HH⟩
  case round =>
    obtain ⟨k, hk, rfl, hh⟩ := hrel
    obtain ⟨⟨p1, vb1, hv⟩, hbel, hkp, hblk⟩ := hh.out
    clear hh
    by_cases hkn : k < n
    · have hkt : k < ps.length := by have := HN.out; omega
      have e0 : wr.cell? ⟨g, k, none⟩ = some (.string (tx ps[k])) := (hblk.cell k).trans (pcs_at ps k hkt)
      have HT := Lib.hid (flat_take ps k hkt)
      have hlt := flat_take_len ps k hkt
      have HV := Lib.hid hv
      have HB := Lib.hid hbel
      have HK := Lib.hid hkp
      have HG := Lib.hid hblk
      clear hv hbel hkp hblk
      obtain ⟨x, hx⟩ : ∃ x, x = ps[k] := ⟨_, rfl⟩
      rw [← hx] at e0 HT hlt
      clear hx
      go_wp2_with fail
      refine (mWrite_c HV.out (tx x) (by rw [tx_size]; simp only [List.length_append]; omega)).mono ?_
      rintro e w1 ⟨rfl, ⟨p2, vb2, hv2⟩, hb2, hk2⟩
      have X : Hid (PcAt B b g vn vo run ps w (k + 1) w1) := Lib.hid ⟨⟨p2, vb2, by rw [HT.out, ← List.append_assoc]; exact hv2⟩, HB.out.trans hb2, HK.out.trans hk2, hk2 g _ _ (by decide) (by decide) HG.out⟩
      clear hv2 hb2 hk2
      go_wp2_with fail
      go_roundw
      case rel => exact ⟨k + 1, by omega, by go_num, X⟩
      case measure => simp [intOf]; omega
    · obtain rfl : k = n := by omega
      go_wp2_with fail
      go_end0
      refine ⟨rfl, ⟨p1, vb1, ?_⟩, hbel, hkp⟩
      rwa [HN.out, List.take_length] at hv

set_option maxRecDepth 100000 in
set_option maxHeartbeats 2000000 in
theorem hasKids_c (B b : Nat) (A : Option Addr) (n c i : Nat) (vo p vb : Value) (run : List UInt8) (ns : List Nd) (w : World) (h : WrV B b (.slice A n c) vo p vb run w) (hr : NodesR B w (.slice A n c) ns) (hn : n = ns.length) (hi : i < n) (hlen : n ≤ 1000000000000) :
    Calls Tryz.prog 58 #[.pointer (some ⟨b, 0, none⟩), .int .i64 (i : Int)] w fun e w' => e = .returned (.bool (kidsB ns i)) ∧ w = w' := by
  have c0 := h.blk.cell 0
  have hw1 : IntKind.i64.wrap ((i : Int) + 1) = ((i + 1 : Nat) : Int) := by rw [IntWalk.i64_in _ (by omega)]; omega
  obtain ⟨j, hj⟩ : ∃ j, j = i + 1 := ⟨_, rfl⟩
  by_cases hin : i + 1 < n
  · obtain ⟨b', o', hA, e0⟩ := hr.par (i + 1) (by omega)
    subst hA
    have HK := Lib.hid (kidsB_yes (ns := ns) (i := i) (by omega))
    rw [← hj] at hin e0 HK hw1
    have hd : decide ((j : Int) < (n : Int)) = true := by rw [decide_eq_true_iff]; omega
    obtain ⟨q, hq⟩ : ∃ q, q = parAt ns (j : Int) := ⟨_, rfl⟩
    rw [← hq] at e0 HK
    clear h hr hn hj hq
    go_enter Tryz.func58, Tryz.ntmps58
    go_wp2_with fail
    go_ret
    exact ⟨by rw [HK.out]; rfl, rfl⟩
  · have HK := Lib.hid (kidsB_no (ns := ns) (i := i) (by omega))
    rw [← hj] at hin hw1
    have hd : decide ((j : Int) < (n : Int)) = false := by rw [decide_eq_false_iff_not]; omega
    clear h hr hn hj
    go_enter Tryz.func58, Tryz.ntmps58
    go_wp2_with fail
    go_ret
    exact ⟨ret_bool HK.out.symm, rfl⟩

end Go.Proofs.YtkccockdnjjanaaGreatDoor

namespace Nwl
theorem close_next {ns : List Nd} {m : Nat} (h : Par ns m) {k : Nat} {t : Int} (hk : k < m) (hne : ¬ (k : Int) = t) : closeW ns k t = endL (nd ns k).name ++ closeW ns (parAt ns k) t := by
  rw [closeW_step h (by omega) (by omega) hne, Int.toNat_natCast]
theorem chain_next {ns : List Nd} {m : Nat} (h : Par ns m) {k : Nat} {t : Int} (hk : k < m) (hne : ¬ (k : Int) = t) (ht : t = -1 ∨ t ∈ chainL ns k) : t = -1 ∨ t ∈ chainL ns (parAt ns k) := by
  rcases ht with ht | ht
  · exact .inl ht
  · rw [chainL_step h (by omega) (by omega), List.mem_cons] at ht
    rcases ht with ht | ht
    · exact absurd ht.symm hne
    · exact .inr ht
end Nwl
namespace Go.Proofs.YtkccockdnjjanaaGreatDoor
open Nwl
open Go.RowKit Go.Maps
set_option linter.unusedVariables false
theorem WrV.draw {B b : Nat} {vn vo p vb : Value} {run : List UInt8} {w : World} (h : WrV B b vn vo p vb run w) : WrV B b vn vo p vb run w.drew :=
  h.same (w' := w.drew) ⟨rfl, rfl, rfl, Nat.le_refl _, fun _ _ _ => rfl⟩
/-- what is open, in memory -/
def opOf (b : Nat) (w : World) : Nat := match w.cell? ⟨b, 1, none⟩ with
  | some (.int _ v) => (v + 1).toNat
  | _ => 0
theorem opOf_eq {b : Nat} {w : World} {v : Int} (h : w.cell? ⟨b, 1, none⟩ = some (.int .i64 v)) : opOf b w = (v + 1).toNat := by
  unfold opOf
  rw [h]
/-- where leaving stands -/
structure LvAt (B b : Nat) (A : Option Addr) (n c m : Nat) (ns : List Nd) (all : List UInt8) (t : Int) (w : World) (o : Int) (w' : World) : Prop where
  st : ∃ p vb run, WrV B b (.slice A n c) (.int .i64 o) p vb run w' ∧ all = run ++ closeW ns o t
  bel : Below B w w'
  kp : Keep w w'
  lo : -1 ≤ o
  hi : o < m
  up : t = -1 ∨ t ∈ chainL ns o

set_option maxRecDepth 100000 in
set_option maxHeartbeats 2000000 in
theorem leave_c (B b : Nat) (A : Option Addr) (n c m : Nat) (o t : Int) (p vb : Value) (run : List UInt8) (ns : List Nd) (w : World) (h : WrV B b (.slice A n c) (.int .i64 o) p vb run w) (hr : NodesR B w (.slice A n c) ns) (hn : n = ns.length) (hp : Par ns m) (hm : m ≤ n) (h0 : -1 ≤ o) (h1 : o < m) (ht : t = -1 ∨ t ∈ chainL ns o) (hlen : n ≤ 1000000000000) (hl : (run ++ closeW ns o t).length ≤ 140737488355328) :
    Calls Tryz.prog 36 #[.pointer (some ⟨b, 0, none⟩), .int .i64 t] w fun e w' => e = .returned (.tuple #[]) ∧ (∃ p' vb', WrV B b (.slice A n c) (.int .i64 t) p' vb' (run ++ closeW ns o t) w') ∧ Below B w w' ∧ Keep w w' := by
  obtain ⟨all, hall⟩ : ∃ all, all = run ++ closeW ns o t := ⟨_, rfl⟩
  rw [← hall] at hl ⊢
  have HH : Hid (LvAt B b A n c m ns all t w o w) := Lib.hid ⟨⟨p, vb, run, h, hall⟩, Below.refl _ _, Keep.refl _, h0, h1, ht⟩
  have HR := Lib.hid hr
  have HN := Lib.hid hn
  have HP := Lib.hid hp
  have HBS := h.base
  clear h hr hn hp hall ht h0 h1
  go_enter Tryz.func36, Tryz.ntmps36
  go_wp2_with fail
  refine wp_scope_again 0 (fun a' w' => ∃ (o : Int) (u4 u5 u6 u7 u8 u9 u10 u11 u12 u13 u14 u15 u16 u17 u18 u19 u20 u21 u22 u23 u24 u25 u26 u27 u28 u29 u30 : Value), a' = { tmps := #[.pointer (some ⟨b, 0, none⟩), .int .i64 t, undef, undef, u4, u5, u6, u7, u8, u9, u10, u11, u12, u13, u14, u15, u16, u17, u18, u19, u20, u21, u22, u23, u24, u25, u26, u27, u28, u29, u30], defers := [] } ∧ Hid (LvAt B b A n c m ns all t w o w')) (fun _ w' => opOf b w') rfl ?_ ?_
  · rintro a' w' ⟨o, u4, u5, u6, u7, u8, u9, u10, u11, u12, u13, u14, u15, u16, u17, u18, u19, u20, u21, u22, u23, u24, u25, u26, u27, u28, u29, u30, rfl, hh⟩
    obtain ⟨p1, vb1, run1, hv, hal⟩ := hh.out.st
    have c0 := hv.blk.cell 0
    have c1 := hv.blk.cell 1
    have HMU := Lib.hid (opOf_eq c1)
    by_cases hot : o = t
    · subst hot
      have HV : Hid (∃ p' vb', WrV B b (.slice A n c) (.int .i64 o) p' vb' all w') := Lib.hid ⟨p1, vb1, by rw [hal, closeW_same, List.append_nil]; exact hv⟩
      clear hv hal HMU
      go_wp2_with fail
      simp only [Exit.jump]
      exact bodyPost_ret (v := .tuple #[]) (by simp [results, Tryz.results36]) rfl ⟨rfl, HV.out, hh.out.bel, hh.out.kp⟩
    · have h0 : 0 ≤ o := by
        have := hh.out.lo
        rcases Int.lt_or_le o 0 with h | h
        · obtain rfl : o = -1 := by omega
          rcases hh.out.up with h | h
          · omega
          · rw [chainL_neg] at h
            cases h
        · exact h
      have hhi := hh.out.hi
      obtain ⟨k, rfl⟩ : ∃ k : Nat, o = k := ⟨o.toNat, by omega⟩
      have hkm : k < m := by omega
      have hkt : k < ns.length := by have := HN.out; omega
      have hkn : k < n := by omega
      have hoe : ((k : Int) == t) = false := by rw [beq_eq_false_iff_ne]; exact hot
      obtain ⟨nb, no, A2, l2, c2, hA, hbB, hl2, hra, e0, e1, e2, e3⟩ := (HR.out.below hh.out.bel).full k hkt
      subst hA
      have HUP := Lib.hid (chain_next HP.out hkm hot hh.out.up)
      have HPB := Lib.hid (HP.out k hkm)
      have HCL := Lib.hid (close_next HP.out hkm hot)
      rw [nd_eq ns k hkt] at HCL
      have HV := Lib.hid hv
      have HAL := Lib.hid hal
      obtain ⟨q, hq⟩ : ∃ q, q = parAt ns (k : Int) := ⟨_, rfl⟩
      rw [← hq] at e0 HUP HPB HCL
      have hvlt := hv.lt
      clear hv hal hra hl2 hq
      generalize (ns[k]).name = nm at *
      generalize (ns[k]).text = xt at *
      have s0 : w'.drew.cell? ⟨b, 0, none⟩ = some (.slice (some ⟨nb, no, none⟩) n c) := c0
      have s1 : w'.drew.cell? ⟨b, 1, none⟩ = some (.int .i64 (k : Int)) := c1
      have s2 : w'.drew.cell? ⟨nb, no + k * 4, none⟩ = some (.int .i64 q) := e0
      have s3 : w'.drew.cell? ⟨nb, no + k * 4 + 1, none⟩ = some (.string (tx nm)) := e1
      have s4 : w'.drew.cell? ⟨nb, no + k * 4 + 2, none⟩ = some (.string (tx xt)) := e2
      have s5 : w'.drew.cell? ⟨nb, no + k * 4 + 3, none⟩ = some (.slice A2 l2 c2) := e3
      have hb1 : ¬ w'.heap.size = b := by omega
      have hb2 : ¬ w'.heap.size = nb := by omega
      go_wp2_with fail
      go_region_held3 (fun w2 => w2.cell? ⟨b, 0, none⟩ = some (.slice (some ⟨nb, no, none⟩) n c) ∧ w2.cell? ⟨b, 1, none⟩ = some (.int .i64 (k : Int)) ∧ w2.cell? ⟨nb, no + k * 4, none⟩ = some (.int .i64 q) ∧ w2.cell? ⟨nb, no + k * 4 + 1, none⟩ = some (.string (tx nm)) ∧ w2.cell? ⟨nb, no + k * 4 + 2, none⟩ = some (.string (tx xt)) ∧ w2.cell? ⟨nb, no + k * 4 + 3, none⟩ = some (.slice A2 l2 c2)) (first | exact ⟨s0, s1, s2, s3, s4, s5⟩ | go_keep) (fail)
      have HW1 : Hid (WrV B b (.slice (some ⟨nb, no, none⟩) n c) (.int .i64 (k : Int)) p1 vb1 run1 ((w'.alloc (.cells #[.int .i64 q, .string (tx nm), .string (tx xt), .slice A2 l2 c2] 32)).alloc (.cells #[.string ⟨#[60, 47]⟩, .string (tx nm), .string ⟨#[62]⟩] 9)).drew) := Lib.hid ((HV.out.alloc _).alloc _).draw
      have HX0 : Hid (Blk ((w'.alloc (.cells #[.int .i64 q, .string (tx nm), .string (tx xt), .slice A2 l2 c2] 32)).alloc (.cells #[.string ⟨#[60, 47]⟩, .string (tx nm), .string ⟨#[62]⟩] 9)).drew w'.heap.size 32 #[.int .i64 q, .string (tx nm), .string (tx xt), .slice A2 l2 c2]) := Lib.hid ((Blk.new w' _ _).alloc _)
      have HPC : Hid (Blk ((w'.alloc (.cells #[.int .i64 q, .string (tx nm), .string (tx xt), .slice A2 l2 c2] 32)).alloc (.cells #[.string ⟨#[60, 47]⟩, .string (tx nm), .string ⟨#[62]⟩] 9)).drew (w'.heap.size + 1) 9 (pcs [[60, 47], nm, [62]])) := Lib.hid (by
        have := Blk.new (w'.alloc (.cells #[.int .i64 q, .string (tx nm), .string (tx xt), .slice A2 l2 c2] 32)) 9 #[.string ⟨#[60, 47]⟩, .string (tx nm), .string ⟨#[62]⟩]
        rw [show (w'.alloc (.cells #[.int .i64 q, .string (tx nm), .string (tx xt), .slice A2 l2 c2] 32)).heap.size = w'.heap.size + 1 by simp] at this
        exact this)
      have HBW : Hid (Below B w ((w'.alloc (.cells #[.int .i64 q, .string (tx nm), .string (tx xt), .slice A2 l2 c2] 32)).alloc (.cells #[.string ⟨#[60, 47]⟩, .string (tx nm), .string ⟨#[62]⟩] 9)).drew) := Lib.hid (((hh.out.bel.alloc (by omega) _).alloc (by simp; omega) _).drew)
      have HKW : Hid (Keep w ((w'.alloc (.cells #[.int .i64 q, .string (tx nm), .string (tx xt), .slice A2 l2 c2] 32)).alloc (.cells #[.string ⟨#[60, 47]⟩, .string (tx nm), .string ⟨#[62]⟩] 9)).drew) := Lib.hid ((((hh.out.kp.alloc _).alloc _)).below (Below.refl _ _).drew)
      have hbl : run1.length + [[60, 47], nm, [62]].flatten.length ≤ 140737488355328 := by
        have := HAL.out
        rw [HCL.out] at this
        rw [this] at hl
        unfold endL at hl
        simp only [List.length_append, List.flatten_cons, List.flatten_nil, List.length_cons, List.length_nil] at hl ⊢
        omega
      go_wp2_with fail
      refine (write_c B b (w'.heap.size + 1) 3 3 _ _ _ _ run1 [[60, 47], nm, [62]] _ HW1.out HPC.out rfl hbl (by decide)).mono ?_
      rintro e w2 ⟨rfl, ⟨p2, vb2, hv2⟩, hb2, hk2⟩
      have y0 := (hk2 _ _ _ (by decide) (by decide) HX0.out).cell 0
      have z1 := hv2.blk.cell 1
      have f1 := hv2.blk.frozen 1
      have HF : Hid (LvAt B b (some ⟨nb, no, none⟩) n c m ns all t w q (w2.setCell ⟨b, 1, none⟩ (.int .i64 q))) := Lib.hid
        { st := ⟨p2, vb2, _, hv2.setOpen q, by rw [HAL.out, HCL.out]; unfold endL; simp⟩
          bel := (HBW.out.trans hb2).setCell (p := ⟨b, 1, none⟩) HBS _
          kp := (HKW.out.trans hk2).setCell hv2.blk _
          lo := HPB.out.1
          hi := by have := HPB.out.2; omega
          up := HUP.out }
      have HM : Hid (opOf b (w2.setCell ⟨b, 1, none⟩ (.int .i64 q)) = (q + 1).toNat) := Lib.hid (opOf_eq ((hv2.setOpen q).blk.cell 1))
      clear hv2 hb2 hk2
      go_wp2_with fail
      go_step3
      refine ⟨rfl, ⟨q, _, _, _, _, _, _, _, _, _, _, _, _, _, _, _, _, _, _, _, _, _, _, _, _, _, _, _, rfl, HF⟩, ?_⟩
      rw [HM.out, HMU.out]
      have := HPB.out.2
      omega
  · intro hpass
    go_wp2_with fail
    go_step3
    rename_i hK
    exact hK _ _ (hpass.out _ _ ⟨o, _, _, _, _, _, _, _, _, _, _, _, _, _, _, _, _, _, _, _, _, _, _, _, _, _, _, _, rfl, HH⟩)

end Go.Proofs.YtkccockdnjjanaaGreatDoor

namespace Nwl
theorem nodeW_text {ns : List Nd} {i : Nat} (hi : i < ns.length) (h : (ns[i]).name = []) : nodeW ns i = escL (ns[i]).text ∧ openW ns i = parAt ns i := by
  unfold nodeW openW textB
  rw [nd_eq ns i hi, if_pos (by simpa using h), if_pos (by simpa using h)]
  exact ⟨rfl, rfl⟩
theorem nodeW_elem {ns : List Nd} {i : Nat} (hi : i < ns.length) (h : ¬ (ns[i]).name = []) : nodeW ns i = [60] ++ (ns[i]).name ++ attrsW (ns[i]).attrs ++ (if kidsB ns i then [62] else [47, 62]) ∧ openW ns i = if kidsB ns i then (i : Int) else parAt ns i := by
  have hd : ¬ (decide ((ns[i]).name = []) = true) := by simpa using h
  unfold nodeW openW textB headW
  rw [nd_eq ns i hi]
  exact ⟨if_neg hd, if_neg hd⟩
theorem attrsW_take (l : List (List UInt8 × List UInt8)) (k : Nat) (h : k < l.length) : attrsW (l.take (k + 1)) = attrsW (l.take k) ++ attrW l[k] := by
  rw [List.take_succ_eq_append_getElem h, attrsW_snoc]
theorem attrsW_len (l : List (List UInt8 × List UInt8)) (k : Nat) (h : k < l.length) : (attrsW (l.take k)).length + (attrW l[k]).length ≤ (attrsW l).length := by
  have e : attrsW l = attrsW (l.take (k + 1)) ++ attrsW (l.drop (k + 1)) := by
    unfold attrsW
    rw [← List.flatMap_append, List.take_append_drop]
  rw [e, attrsW_take l k h]
  simp only [List.length_append]
  omega
end Nwl
namespace Go.Proofs.YtkccockdnjjanaaGreatDoor
open Nwl
open Go.RowKit Go.Maps
set_option linter.unusedVariables false
theorem WrV.belowH {B b : Nat} {vn vo p vb : Value} {run : List UInt8} {w w' : World} (h : WrV B b vn vo p vb run w) (hb : Below w.heap.size w w') : WrV B b vn vo p vb run w' :=
  h.same ⟨hb.os, hb.tape, hb.output, hb.size, fun k hk _ => hb.block k hk⟩
/-- where the writing of a node stands -/
structure NwAt (B b X : Nat) (vn vo : Value) (cs : Array Value) (run : List UInt8) (w w' : World) : Prop where
  st : ∃ p vb, WrV B b vn vo p vb run w'
  bel : Below B w w'
  box : Blk w' X 32 cs
section
variable {B b X : Nat} {vn vo : Value} {cs : Array Value} {run run' : List UInt8} {w w1 w2 : World}
theorem NwAt.lt (h : NwAt B b X vn vo cs run w w1) : B ≤ w1.heap.size := by
  obtain ⟨p, vb, hv⟩ := h.st
  have := hv.lt
  have := hv.base
  omega
theorem NwAt.on (h : NwAt B b X vn vo cs run w w1) (hb : Below w1.heap.size w1 w2) : NwAt B b X vn vo cs run w w2 := by
  obtain ⟨p, vb, hv⟩ := h.st
  exact ⟨⟨p, vb, hv.belowH hb⟩, h.bel.trans (hb.mono h.lt), h.box.below hb⟩
theorem NwAt.alloc (h : NwAt B b X vn vo cs run w w1) (o : Obj) : NwAt B b X vn vo cs run w (w1.alloc o) := h.on ((Below.refl _ _).alloc (Nat.le_refl _) _)
theorem NwAt.draw (h : NwAt B b X vn vo cs run w w1) : NwAt B b X vn vo cs run w w1.drew := h.on (Below.refl _ _).drew
theorem NwAt.wrote (h : NwAt B b X vn vo cs run w w1) (hs : ∃ p vb, WrV B b vn vo p vb run' w2) (hb : Below B w1 w2) (hk : Keep w1 w2) : NwAt B b X vn vo cs run' w w2 :=
  ⟨hs, h.bel.trans hb, hk _ _ _ (by decide) (by decide) h.box⟩
end
/-- pieces are written, of a row that was made right ahead -/
theorem write_n {B b X c n g : Nat} {vn vo : Value} {cs : Array Value} {run : List UInt8} {w w1 : World} (h : NwAt B b X vn vo cs run w w1) (ps : List (List UInt8)) (hp : Blk w1 g 9 (pcs ps)) (hn : n = ps.length) (hl : run.length + ps.flatten.length ≤ 140737488355328) (hn2 : n ≤ 100) :
    Calls Tryz.prog 56 #[.pointer (some ⟨b, 0, none⟩), .slice (some ⟨g, 0, none⟩) n c] w1 fun e w' => e = .returned (.tuple #[]) ∧ NwAt B b X vn vo cs (run ++ ps.flatten) w w' ∧ Keep w1 w' := by
  obtain ⟨p, vb, hv⟩ := h.st
  refine (write_c B b g c n vn vo p vb run ps w1 hv hp hn hl hn2).mono ?_
  rintro e w2 ⟨rfl, st, hb, hk⟩
  exact ⟨rfl, h.wrote st hb hk, hk⟩
theorem pcs_new (w : World) (ps : List (List UInt8)) (vs : Array Value) (h : vs = pcs ps) : Blk (w.alloc (.cells vs 9)) w.heap.size 9 (pcs ps) := by
  subst h
  exact Blk.new w _ _

set_option maxRecDepth 100000 in
set_option maxHeartbeats 4000000 in
theorem node_text (B b : Nat) (A : Option Addr) (n c i : Nat) (p vb : Value) (run : List UInt8) (ns : List Nd) (w : World) (h : WrV B b (.slice A n c) (.int .i64 (openTo ns i)) p vb run w) (hr : NodesR B w (.slice A n c) ns) (hn : n = ns.length) (hp : Par ns i) (hi : i < n) (hup : parAt ns i = -1 ∨ parAt ns i ∈ chainL ns (openTo ns i)) (hlen : n ≤ 1000000000000) (hs : bulkN (nd ns i) ≤ 2000000)
    (hl : (run ++ closeW ns (openTo ns i) (parAt ns i) ++ nodeW ns i).length ≤ 140737488355328) (hit : i < ns.length) (htx : (ns[i]).name = []) :
    Calls Tryz.prog 37 #[.pointer (some ⟨b, 0, none⟩), .int .i64 (i : Int)] w fun e w' => e = .returned (.tuple #[]) ∧ (∃ p' vb', WrV B b (.slice A n c) (.int .i64 (openW ns i)) p' vb' (run ++ closeW ns (openTo ns i) (parAt ns i) ++ nodeW ns i) w') ∧ Below B w w' := by
  obtain ⟨nb, no, A2, l2, c2, rfl, hbB, hl2, hra, e0, e1, e2, e3⟩ := hr.full i hit
  obtain ⟨hW, hO⟩ := nodeW_text hit htx
  rw [hW] at hl ⊢
  rw [hO]
  have hob := openTo_bound hp (i := i) (Nat.le_refl _)
  have hl1 : (run ++ closeW ns (openTo ns i) (parAt ns i)).length ≤ 140737488355328 := by rw [List.length_append] at hl; omega
  have hxs : (ns[i]).text.length ≤ 2000000 := by
    rw [nd_eq ns i hit] at hs
    unfold bulkN at hs
    omega
  have hd : decide ((ns[i]).name = []) = true := by simp [htx]
  have HBX : Hid (WrV B b (.slice (some ⟨nb, no, none⟩) n c) (.int .i64 (openTo ns i)) p vb run (w.alloc (.cells #[.int .i64 (parAt ns i), .string (tx (ns[i]).name), .string (tx (ns[i]).text), .slice A2 l2 c2] 32))) := Lib.hid (h.alloc _)
  have HBN := Lib.hid (Blk.new w 32 #[.int .i64 (parAt ns i), .string (tx (ns[i]).name), .string (tx (ns[i]).text), .slice A2 l2 c2])
  have hBw : B ≤ w.heap.size := by have := h.lt; have := h.base; omega
  have HB1 : Hid (Below B w (w.alloc (.cells #[.int .i64 (parAt ns i), .string (tx (ns[i]).name), .string (tx (ns[i]).text), .slice A2 l2 c2] 32))) := Lib.hid ((Below.refl _ _).alloc hBw _)
  have c0 := h.blk.cell 0
  have HR := Lib.hid hr
  have HN := Lib.hid hn
  have HP := Lib.hid hp
  have HUP := Lib.hid hup
  clear h hr hn hp hup hra hl2 hW hO htx hs
  generalize (ns[i]).name = nm at *
  generalize (ns[i]).text = xt at *
  obtain ⟨q, hq⟩ : ∃ q, q = parAt ns (i : Int) := ⟨_, rfl⟩
  rw [← hq] at e0 hl hl1 HBX HBN HB1 HUP ⊢
  clear hq
  go_enter Tryz.func37, Tryz.ntmps37
  go_wp2_with fail
  refine (leave_c B b _ n c i _ q p vb run ns _ HBX.out (HR.out.below HB1.out) HN.out HP.out (by omega) hob.1 hob.2 HUP.out hlen hl1).mono ?_
  rintro e w1 ⟨rfl, st1, hb1, hk1⟩
  have HS1 : Hid (NwAt B b w.heap.size (.slice (some ⟨nb, no, none⟩) n c) (.int .i64 q) #[.int .i64 q, .string (tx nm), .string (tx xt), .slice A2 l2 c2] (run ++ closeW ns (openTo ns i) q) w w1) := Lib.hid ⟨st1, HB1.out.trans hb1, hk1 _ _ _ (by decide) (by decide) HBN.out⟩
  clear st1 hb1 hk1
  have x0 := HS1.out.box.cell 0
  have x1 := HS1.out.box.cell 1
  have x2 := HS1.out.box.cell 2
  have x3 := HS1.out.box.cell 3
  go_wp2_with fail
  refine (isText_b _ _ _ _ _ _ _ true hd).mono ?_
  rintro e w2 ⟨rfl, hb2⟩
  have HS2 := Lib.hid (HS1.out.on hb2)
  clear hb2 x0 x1 x2 x3
  have y2 := HS2.out.box.cell 2
  go_wp2_with fail
  refine (mEscape_c (tx xt) _ (by rw [tx_size]; omega)).mono ?_
  rintro e w3 ⟨rfl, hb3⟩
  have HS3 := Lib.hid (HS2.out.on hb3)
  clear hb3 y2
  go_wp2_with fail
  refine (write_n (HS3.out.alloc _) [escL xt] (pcs_new _ _ _ rfl) rfl (by simp only [List.flatten_cons, List.flatten_nil, List.append_nil]; rw [List.length_append] at hl; exact hl) (by simp)).mono ?_
  rintro e w4 ⟨rfl, hs4, _⟩
  have HS4 := Lib.hid hs4
  clear hs4
  go_wp2_with fail
  obtain ⟨⟨p4, vb4, hv4⟩, hb4, _⟩ := HS4.out
  exact bodyPost_ret (v := .tuple #[]) (by simp [results, Tryz.results37]) rfl ⟨rfl, ⟨p4, vb4, by simpa using hv4⟩, hb4⟩

theorem hasKids_b (B b : Nat) (A : Option Addr) (n c i : Nat) (vo p vb : Value) (run : List UInt8) (ns : List Nd) (w : World) (r : Bool) (hrr : kidsB ns i = r) (h : WrV B b (.slice A n c) vo p vb run w) (hr : NodesR B w (.slice A n c) ns) (hn : n = ns.length) (hi : i < n) (hlen : n ≤ 1000000000000) :
    Calls Tryz.prog 58 #[.pointer (some ⟨b, 0, none⟩), .int .i64 (i : Int)] w fun e w' => e = .returned (.bool r) ∧ w = w' := by
  subst hrr
  exact hasKids_c B b A n c i vo p vb run ns w h hr hn hi hlen

/-- where the writing of a node's attributes stands -/
structure AwAt (B b X : Nat) (vn vo : Value) (cs : Array Value) (run : List UInt8) (at_ : List (List UInt8 × List UInt8)) (w : World) (k : Nat) (w' : World) : Prop where
  nw : NwAt B b X vn vo cs (run ++ attrsW (at_.take k)) w w'

set_option maxRecDepth 100000 in
set_option maxHeartbeats 4000000 in
theorem node_elem (B b : Nat) (A : Option Addr) (n c i : Nat) (p vb : Value) (run : List UInt8) (ns : List Nd) (w : World) (h : WrV B b (.slice A n c) (.int .i64 (openTo ns i)) p vb run w) (hr : NodesR B w (.slice A n c) ns) (hn : n = ns.length) (hp : Par ns i) (hi : i < n) (hup : parAt ns i = -1 ∨ parAt ns i ∈ chainL ns (openTo ns i)) (hlen : n ≤ 1000000000000) (hs : bulkN (nd ns i) ≤ 2000000)
    (hl : (run ++ closeW ns (openTo ns i) (parAt ns i) ++ nodeW ns i).length ≤ 140737488355328) (hit : i < ns.length) (htx : ¬ (ns[i]).name = []) :
    Calls Tryz.prog 37 #[.pointer (some ⟨b, 0, none⟩), .int .i64 (i : Int)] w fun e w' => e = .returned (.tuple #[]) ∧ (∃ p' vb', WrV B b (.slice A n c) (.int .i64 (openW ns i)) p' vb' (run ++ closeW ns (openTo ns i) (parAt ns i) ++ nodeW ns i) w') ∧ Below B w w' := by
  obtain ⟨nb, no, A2, l2, c2, rfl, hbB, hl2, hra, e0, e1, e2, e3⟩ := hr.full i hit
  obtain ⟨hW, hO⟩ := nodeW_elem hit htx
  rw [hW] at hl ⊢
  rw [hO]
  have hob := openTo_bound hp (i := i) (Nat.le_refl _)
  have hl1 : (run ++ closeW ns (openTo ns i) (parAt ns i)).length ≤ 140737488355328 := by rw [List.length_append] at hl; omega
  have hbk : (ns[i]).name.length + (ns[i]).text.length + ((ns[i]).attrs.map fun a => a.1.length + a.2.length + 1).sum ≤ 2000000 := by
    rw [nd_eq ns i hit] at hs
    exact hs
  have hd : decide ((ns[i]).name = []) = false := by simp [htx]
  have HBX : Hid (WrV B b (.slice (some ⟨nb, no, none⟩) n c) (.int .i64 (openTo ns i)) p vb run (w.alloc (.cells #[.int .i64 (parAt ns i), .string (tx (ns[i]).name), .string (tx (ns[i]).text), .slice A2 l2 c2] 32))) := Lib.hid (h.alloc _)
  have HBN := Lib.hid (Blk.new w 32 #[.int .i64 (parAt ns i), .string (tx (ns[i]).name), .string (tx (ns[i]).text), .slice A2 l2 c2])
  have hBw : B ≤ w.heap.size := by have := h.lt; have := h.base; omega
  have HB1 : Hid (Below B w (w.alloc (.cells #[.int .i64 (parAt ns i), .string (tx (ns[i]).name), .string (tx (ns[i]).text), .slice A2 l2 c2] 32))) := Lib.hid ((Below.refl _ _).alloc hBw _)
  have c0 := h.blk.cell 0
  have HR := Lib.hid hr
  have HN := Lib.hid hn
  have HP := Lib.hid hp
  have HUP := Lib.hid hup
  have HRA := Lib.hid hra
  have HL2 := Lib.hid hl2
  have HBS := h.base
  clear h hr hn hp hup hra hW hO htx hs
  generalize (ns[i]).name = nm at *
  generalize (ns[i]).text = xt at *
  generalize (ns[i]).attrs = at_ at *
  have hat := len_sum at_
  have HSUM : Hid ((at_.map fun a => a.1.length + a.2.length + 1).sum ≤ 2000000) := Lib.hid (by omega)
  have hl2n : l2 ≤ 2000000 := by omega
  clear hl2 hat hbk
  obtain ⟨q, hq⟩ : ∃ q, q = parAt ns (i : Int) := ⟨_, rfl⟩
  rw [← hq] at e0 hl hl1 HBX HBN HB1 HUP ⊢
  clear hq
  obtain ⟨R, hR⟩ : ∃ R, R = run ++ closeW ns (openTo ns i) q := ⟨_, rfl⟩
  rw [← hR] at hl hl1 ⊢
  have HRR := Lib.hid hR
  clear hR
  obtain ⟨Z, hZ⟩ : ∃ Z : List UInt8, Z = (if kidsB ns i = true then [62] else [47, 62]) := ⟨_, rfl⟩
  obtain ⟨O, hO⟩ : ∃ O : Int, O = (if kidsB ns i = true then (i : Int) else q) := ⟨_, rfl⟩
  rw [← hZ] at hl ⊢
  rw [← hO]
  have hZ1 : 1 ≤ Z.length := by rw [hZ]; split <;> simp
  have HZ := Lib.hid hZ
  have HO := Lib.hid hO
  clear hZ hO
  have hl3 : R.length + ([60] ++ nm ++ attrsW at_).length + 2 ≤ 140737488355328 + 1 := by
    rw [List.length_append, List.length_append] at hl
    omega
  have hl4 : R.length + nm.length + 1 + (attrsW at_).length ≤ 140737488355328 := by
    simp only [List.length_append, List.length_cons, List.length_nil] at hl3
    omega
  go_enter Tryz.func37, Tryz.ntmps37
  go_wp2_with fail
  refine (leave_c B b _ n c i _ q p vb run ns _ HBX.out (HR.out.below HB1.out) HN.out HP.out (by omega) hob.1 hob.2 HUP.out hlen (by rw [← HRR.out]; exact hl1)).mono ?_
  rintro e w1 ⟨rfl, st1, hb1, hk1⟩
  rw [← HRR.out] at st1
  have HS1 : Hid (NwAt B b w.heap.size (.slice (some ⟨nb, no, none⟩) n c) (.int .i64 q) #[.int .i64 q, .string (tx nm), .string (tx xt), .slice A2 l2 c2] R w w1) := Lib.hid ⟨st1, HB1.out.trans hb1, hk1 _ _ _ (by decide) (by decide) HBN.out⟩
  clear st1 hb1 hk1
  have x0 := HS1.out.box.cell 0
  have x1 := HS1.out.box.cell 1
  have x2 := HS1.out.box.cell 2
  have x3 := HS1.out.box.cell 3
  go_wp2_with fail
  refine (isText_b _ _ _ _ _ _ _ false hd).mono ?_
  rintro e w2 ⟨rfl, hb2⟩
  have HS2 := Lib.hid (HS1.out.on hb2)
  clear hb2 x0 x1 x2 x3
  have y1 := HS2.out.box.cell 1
  go_wp2_with fail
  refine (write_n (HS2.out.alloc _) [[60], nm] (pcs_new _ _ _ rfl) rfl (by simp only [List.flatten_cons, List.flatten_nil, List.append_nil, List.length_append, List.length_cons, List.length_nil]; omega) (by simp)).mono ?_
  rintro e w3 ⟨rfl, hs3, _⟩
  obtain ⟨R2, hR2⟩ : ∃ R2, R2 = R ++ [[60], nm].flatten := ⟨_, rfl⟩
  rw [← hR2] at hs3
  have hR2l : R2.length = R.length + nm.length + 1 := by rw [hR2]; simp; omega
  have HR2 := Lib.hid hR2
  have HS3 := Lib.hid hs3
  clear hs3 hR2 y1
  have y3 := HS3.out.box.cell 3
  go_wp2_with fail
  go_loopw [34] (fun j wr => ∃ k : Nat, k ≤ l2 ∧ j = .int .i64 k ∧ Hid (AwAt B b w.heap.size (.slice (some ⟨nb, no, none⟩) n c) (.int .i64 q) #[.int .i64 q, .string (tx nm), .string (tx xt), .slice A2 l2 c2] R2 at_ w k wr)) (fun j _ => l2 - (intOf j).toNat)
  case atStart => exact ⟨0, Nat.zero_le _, rfl, ⟨by simpa [attrsW] using HS3.out⟩⟩
  case round =>
    obtain ⟨k, hk, rfl, hh⟩ := hrel
    by_cases hkn : k < l2
    · have hka : k < at_.length := by have := HL2.out; omega
      obtain ⟨d0, d1⟩ := attrCells_at at_ k hka
      have HX := Lib.hid (attrsW_take at_ k hka)
      have hxl := attrsW_len at_ k hka
      have hsum := sum_get at_ k hka
      obtain ⟨ab, ao, ac, hv, habB, hac, hcell⟩ := (HRA.out.below hh.out.nw.bel).some (by omega)
      have g0 := hcell _ _ d0
      have g1 : wr.cell? ⟨ab, ao + k * 2 + 1, none⟩ = some (.string (tx (at_[k]).2)) := hcell _ _ d1
      injection hv with hA h2 h3
      subst hA
      subst h3
      clear h2 hcell d0 d1
      have hs1 := HSUM.out
      generalize at_[k] = a at *
      obtain ⟨an, av⟩ := a
      simp only at g0 g1 hxl hsum HX
      have hav : (tx av).size ≤ 20000000000000 := by rw [tx_size]; omega
      have HAV := Lib.hid hav
      have hwl : R2.length + (attrsW (at_.take k)).length + (attrW (an, av)).length ≤ 140737488355328 := by omega
      have HWB : Hid ((R2 ++ attrsW (at_.take k)).length + [[32], an, [61, 34], escL av, [34]].flatten.length ≤ 140737488355328) := Lib.hid (by
        unfold attrW at hwl
        simp only [List.length_append, List.flatten_cons, List.flatten_nil, List.length_cons, List.length_nil] at hwl ⊢
        omega)
      clear hav hwl hxl hsum hs1
      have HSA := Lib.hid (hh.out.nw.alloc (.cells #[.string (tx an), .string (tx av)] 61)).draw
      have HAB : Hid (Blk (wr.alloc (.cells #[.string (tx an), .string (tx av)] 61)).drew wr.heap.size 61 #[.string (tx an), .string (tx av)]) := Lib.hid (Blk.new wr _ _)
      have t0 := HAB.out.cell 0
      have t1 := HAB.out.cell 1
      go_wp2_with fail
      go_region_held3 (fun w' => w'.cell? ⟨wr.heap.size, 0, none⟩ = some (.string (tx an)) ∧ w'.cell? ⟨wr.heap.size, 1, none⟩ = some (.string (tx av))) (first | exact ⟨t0, t1⟩ | exact ⟨r0, r1⟩ | exact ⟨v0, v1⟩ | exact ⟨z0, z1⟩) (first
        | (go_at_call 34; refine (mEscape_c (tx av) _ HAV.out).mono ?_; rintro e w4 ⟨rfl, hb4⟩; have HS4 := Lib.hid (HSA.out.on hb4); have HA4 := Lib.hid (HAB.out.below hb4); have r0 := HA4.out.cell 0; have r1 := HA4.out.cell 1; have v0 := (HA4.out.alloc (.cells #[.string ⟨#[32]⟩, .string (tx an), .string ⟨#[61, 34]⟩, .string (tx (escL (bs (tx av)))), .string ⟨#[34]⟩] 9)).cell 0; have v1 := (HA4.out.alloc (.cells #[.string ⟨#[32]⟩, .string (tx an), .string ⟨#[61, 34]⟩, .string (tx (escL (bs (tx av)))), .string ⟨#[34]⟩] 9)).cell 1; clear hb4)
        | (go_at_call 56; refine (write_n (HS4.out.alloc _) [[32], an, [61, 34], escL av, [34]] (pcs_new _ _ _ rfl) rfl HWB.out (by simp)).mono ?_; rintro e w5 ⟨rfl, hs5, hk5⟩; have HS5 := Lib.hid hs5; have HA5 := Lib.hid (hk5 _ _ _ (by decide) (by decide) (HA4.out.alloc _)); have z0 := HA5.out.cell 0; have z1 := HA5.out.cell 1; clear hs5 hk5))
      have X : Hid (AwAt B b w.heap.size (.slice (some ⟨nb, no, none⟩) n c) (.int .i64 q) #[.int .i64 q, .string (tx nm), .string (tx xt), .slice (some ⟨ab, ao, none⟩) l2 c2] R2 at_ w (k + 1) w5) := Lib.hid ⟨by
        have := HS5.out
        rw [HX.out]
        unfold attrW
        simpa using this⟩
      go_wp2_with fail
      go_roundw
      case rel => exact ⟨k + 1, by omega, by go_num, X⟩
      case measure => simp [intOf]; omega
    · obtain rfl : k = l2 := by omega
      have HS6 : Hid (NwAt B b w.heap.size (.slice (some ⟨nb, no, none⟩) n c) (.int .i64 q) #[.int .i64 q, .string (tx nm), .string (tx xt), .slice A2 k c2] (R2 ++ attrsW at_) w wr) := Lib.hid (by
        have := hh.out.nw
        rwa [HL2.out, List.take_length, ← HL2.out] at this)
      obtain ⟨p6, vb6, hv6⟩ := HS6.out.st
      have HV6 := Lib.hid hv6
      clear hv6
      have HT : Hid (∀ x : List UInt8, R ++ ([60] ++ nm ++ attrsW at_ ++ x) = R2 ++ attrsW at_ ++ x) := Lib.hid fun x => by rw [HR2.out]; simp
      cases hkd : kidsB ns i with
      | false =>
        have HKD := Lib.hid hkd
        obtain rfl : Z = [47, 62] := by rw [HZ.out, hkd]; rfl
        obtain rfl : O = q := by rw [HO.out, hkd]; rfl
        have hl' : (R2 ++ attrsW at_).length + [[47, 62]].flatten.length ≤ 140737488355328 := by
          simp only [List.length_append, List.flatten_cons, List.flatten_nil, List.length_cons, List.length_nil] at hl ⊢
          omega
        clear hkd hl
        go_wp2_with fail
        refine (hasKids_b B b _ n c i _ _ _ _ ns _ false HKD.out HV6.out (HR.out.below HS6.out.bel) HN.out hi hlen).mono ?_
        rintro e w7 ⟨rfl, rfl⟩
        go_wp2_with fail
        refine (write_n (HS6.out.alloc _) [[47, 62]] (pcs_new _ _ _ rfl) rfl hl' (by simp)).mono ?_
        rintro e w8 ⟨rfl, hs8, _⟩
        have HS8 := Lib.hid hs8
        clear hs8
        go_wp2_with fail
        obtain ⟨⟨p8, vb8, hv8⟩, hb8, _⟩ := HS8.out
        exact bodyPost_ret (v := .tuple #[]) (by simp [results, Tryz.results37]) rfl ⟨rfl, ⟨p8, vb8, by have v : WrV B b _ _ p8 vb8 (R2 ++ attrsW at_ ++ [47, 62]) w8 := hv8; rw [← HT.out] at v; exact v⟩, hb8⟩
      | true =>
        have HKD := Lib.hid hkd
        obtain rfl : Z = [62] := by rw [HZ.out, hkd]; rfl
        obtain rfl : O = (i : Int) := by rw [HO.out, hkd]; rfl
        have hl' : (R2 ++ attrsW at_).length + [[62]].flatten.length ≤ 140737488355328 := by
          simp only [List.length_append, List.flatten_cons, List.flatten_nil, List.length_cons, List.length_nil] at hl ⊢
          omega
        clear hkd hl
        go_wp2_with fail
        refine (hasKids_b B b _ n c i _ _ _ _ ns _ true HKD.out HV6.out (HR.out.below HS6.out.bel) HN.out hi hlen).mono ?_
        rintro e w7 ⟨rfl, rfl⟩
        go_wp2_with fail
        refine (write_n (HS6.out.alloc _) [[62]] (pcs_new _ _ _ rfl) rfl hl' (by simp)).mono ?_
        rintro e w8 ⟨rfl, hs8, _⟩
        have HS8 := Lib.hid hs8
        clear hs8
        obtain ⟨⟨p8, vb8, hv8⟩, hb8, _⟩ := HS8.out
        have z1 := hv8.blk.cell 1
        have f1 := hv8.blk.frozen 1
        have HF : Hid (WrV B b (.slice (some ⟨nb, no, none⟩) n c) (.int .i64 (i : Int)) p8 vb8 (R2 ++ attrsW at_ ++ [[62]].flatten) (w8.setCell ⟨b, 1, none⟩ (.int .i64 (i : Int)))) := Lib.hid (hv8.setOpen (i : Int))
        have HFB : Hid (Below B w (w8.setCell ⟨b, 1, none⟩ (.int .i64 (i : Int)))) := Lib.hid (hb8.setCell (p := ⟨b, 1, none⟩) HBS _)
        clear hv8 hb8
        go_wp2_with fail
        go_end0
        exact ⟨rfl, ⟨p8, vb8, by have v : WrV B b _ _ p8 vb8 (R2 ++ attrsW at_ ++ [62]) _ := HF.out; rw [← HT.out] at v; exact v⟩, HFB.out⟩

theorem node_c (B b : Nat) (A : Option Addr) (n c i : Nat) (p vb : Value) (run : List UInt8) (ns : List Nd) (w : World) (h : WrV B b (.slice A n c) (.int .i64 (openTo ns i)) p vb run w) (hr : NodesR B w (.slice A n c) ns) (hn : n = ns.length) (hp : Par ns i) (hi : i < n) (hup : parAt ns i = -1 ∨ parAt ns i ∈ chainL ns (openTo ns i)) (hlen : n ≤ 1000000000000) (hs : bulkN (nd ns i) ≤ 2000000)
    (hl : (run ++ closeW ns (openTo ns i) (parAt ns i) ++ nodeW ns i).length ≤ 140737488355328) :
    Calls Tryz.prog 37 #[.pointer (some ⟨b, 0, none⟩), .int .i64 (i : Int)] w fun e w' => e = .returned (.tuple #[]) ∧ (∃ p' vb', WrV B b (.slice A n c) (.int .i64 (openW ns i)) p' vb' (run ++ closeW ns (openTo ns i) (parAt ns i) ++ nodeW ns i) w') ∧ Below B w w' := by
  have hit : i < ns.length := by omega
  by_cases htx : (ns[i]).name = []
  · exact node_text B b A n c i p vb run ns w h hr hn hp hi hup hlen hs hl hit htx
  · exact node_elem B b A n c i p vb run ns w h hr hn hp hi hup hlen hs hl hit htx

end Go.Proofs.YtkccockdnjjanaaGreatDoor

namespace Nwl
/-- a right node's parent is open when it is written -/
theorem right_up {ns : List Nd} {i : Nat} (h : rightTo ns (i + 1) = true) : parAt ns i = -1 ∨ parAt ns i ∈ chainL ns (openTo ns i) := by
  have hi := rightTo_at h (Nat.lt_succ_self i)
  unfold nodeB at hi
  rw [Bool.and_eq_true] at hi
  have hs := hi.2
  cases i with
  | zero =>
    rw [mayStandB, Bool.and_eq_true, decide_eq_true_iff] at hs
    exact .inl hs.1
  | succ k =>
    have hp : Par ns (k + 1) := (right_par h).le (by omega)
    rw [mayStandB, Bool.and_eq_true, List.contains_iff_mem] at hs
    refine .inr ?_
    show parAt ns ((k + 1 : Nat) : Int) ∈ chainL ns (openW ns k)
    have hm := hs.1
    unfold innerN at hm
    unfold openW
    by_cases ht : textB (nd ns k) = true
    · rw [if_pos ht] at hm ⊢
      exact hm
    · rw [if_neg ht] at hm ⊢
      by_cases hk : kidsB ns k = true
      · rw [if_pos hk]
        exact hm
      · rw [if_neg hk]
        rw [chainL_step hp (by omega) (by omega), List.mem_cons] at hm
        rcases hm with hm | hm
        · exfalso
          apply hk
          have hkl : k + 1 < ns.length := by
            rcases Nat.lt_or_ge (k + 1) ns.length with h' | h'
            · exact h'
            · exfalso
              have : nd ns (k + 1) = ⟨-1, [], [], []⟩ := by
                unfold nd
                rw [List.getD_eq_getElem?_getD, List.getElem?_eq_none h']
                rfl
              unfold parAt at hm
              rw [Int.toNat_natCast, this] at hm
              simp only at hm
              omega
          rw [kidsB_yes hkl, decide_eq_true_iff]
          exact hm
        · exact hm
theorem outTo_le (ns : List Nd) : ∀ (d i : Nat), (outTo ns i).length ≤ (outTo ns (i + d)).length
  | 0, i => Nat.le_refl _
  | d + 1, i => by
    have := outTo_le ns d i
    show (outTo ns i).length ≤ (outTo ns (i + d) ++ closeW ns (openTo ns (i + d)) (parAt ns (i + d : Nat)) ++ nodeW ns (i + d)).length
    rw [List.length_append, List.length_append]
    omega
theorem write_ne {ns : List Nd} {n : Nat} (hn : n = ns.length) (h : rightTo ns n = true) (h0 : 0 < n) : writeL ns ≠ [] := by
  subst hn
  have hi := rightTo_at h h0
  unfold nodeB at hi
  rw [Bool.and_eq_true, mayStandB, Bool.and_eq_true] at hi
  have ht : textB (nd ns 0) = false := by simpa using hi.2.2
  have h1 : 1 ≤ (outTo ns 1).length := by
    show 1 ≤ (outTo ns 0 ++ closeW ns (openTo ns 0) (parAt ns (0 : Nat)) ++ nodeW ns 0).length
    have : 1 ≤ (nodeW ns 0).length := by
      unfold nodeW headW
      rw [if_neg (by rw [ht]; decide)]
      simp
    rw [List.length_append]
    omega
  have h2 := outTo_le ns (ns.length - 1) 1
  rw [show 1 + (ns.length - 1) = ns.length by omega] at h2
  intro e
  have : (writeL ns).length = 0 := by rw [e]; rfl
  unfold writeL at this
  rw [List.length_append] at this
  omega
def writeT (ns : List Nd) : List UInt8 := if rightB ns then writeL ns else []
def writeE (ns : List Nd) : Int := if rightB ns then 0 else 6
theorem write_yes {ns : List Nd} (h : rightB ns = true) : writeT ns = writeL ns ∧ writeE ns = 0 := by unfold writeT writeE; rw [if_pos h, if_pos h]; exact ⟨rfl, rfl⟩
theorem write_no {ns : List Nd} (h : rightB ns = false) : writeT ns = [] ∧ writeE ns = 6 := by unfold writeT writeE; rw [if_neg (by rw [h]; decide), if_neg (by rw [h]; decide)]; exact ⟨rfl, rfl⟩
theorem right_parts {ns : List Nd} (h : rightB ns = true) : ns ≠ [] ∧ ns.length ≤ 2000 ∧ rightTo ns ns.length = true := by
  unfold rightB at h
  rw [Bool.and_eq_true, Bool.and_eq_true, decide_eq_true_iff, decide_eq_true_iff] at h
  exact ⟨h.1, h.2.1, h.2.2⟩
theorem rightTo_le {ns : List Nd} {k m : Nat} (h : rightTo ns m = true) (hk : k ≤ m) : rightTo ns k = true := by
  unfold rightTo at h ⊢
  rw [List.all_eq_true] at h ⊢
  intro x hx
  exact h x (List.mem_range.2 (by have := List.mem_range.1 hx; omega))
end Nwl
namespace Go.Proofs.YtkccockdnjjanaaGreatDoor
open Nwl
open Go.RowKit Go.Maps
set_option linter.unusedVariables false

theorem Right_b (B : Nat) (ns : List Nd) (A : Option Addr) (n c : Nat) (w : World) (r : Bool) (hrr : rightB ns = r) (hr : NodesR B w (.slice A n c) ns) (hB : B ≤ w.heap.size) (hn : n = ns.length) (hlen : n ≤ 1000000000000) (hsm : Small ns 2000000) :
    Calls Tryz.prog 35 #[.slice A n c] w fun e w' => e = .returned (.bool r) ∧ Below w.heap.size w w' := by
  subst hrr
  exact Right_c B ns A n c w hr hB hn hlen hsm
theorem RowR.mono {B B' : Nat} {w : World} {v : Value} {n size : Nat} {cs : List Value} (h : RowR B w v n size cs) (hB : B ≤ B') : RowR B' w v n size cs := by
  refine ⟨h.1, ?_⟩
  rcases h.2 with h0 | ⟨b, o, c, hv, hb, r⟩
  · exact .inl h0
  · exact .inr ⟨b, o, c, hv, by omega, r⟩
theorem NdiCells.mono {B B' : Nat} {w : World} (hB : B ≤ B') : ∀ {ts : List Nd} {cs : List Value}, NdiCells B w ts cs → NdiCells B' w ts cs
  | [], _, h => h
  | t :: ts, _, ⟨av, tl, e, h1, h2⟩ => ⟨av, tl, e, h1.mono hB, NdiCells.mono hB h2⟩
theorem NodesR.mono {B B' : Nat} {w : World} {v : Value} {ts : List Nd} (h : NodesR B w v ts) (hB : B ≤ B') : NodesR B' w v ts := by
  obtain ⟨cs, h1, h2⟩ := h
  exact ⟨cs, h1.mono hB, h2.mono hB⟩
/-- a writer's text, at the end -/
theorem mString_any {B b : Nat} {vn vo p vb : Value} {run : List UInt8} {w : World} (h : WrV B b vn vo p vb run w) (h0 : run ≠ []) :
    Calls Tryz.prog 30 #[.pointer (some ⟨b, 2, none⟩)] w fun e w' => e = .returned (.string (tx run)) ∧ Below B w w' := by
  refine (mString_c h h0).mono ?_
  rintro e w' ⟨rfl, hg⟩
  exact ⟨rfl, (Below.refl B w).grown hg (by have := h.base; have := h.lt; omega) (fun k hk => (h.run.lt k hk).1)⟩

set_option maxRecDepth 100000 in
set_option maxHeartbeats 4000000 in
theorem Write_any (B : Nat) (ns : List Nd) (A : Option Addr) (n c : Nat) (w : World) (hr : NodesR B w (.slice A n c) ns) (hB : B ≤ w.heap.size) (hn : n = ns.length) (hlen : n ≤ 1000000000000) (hsm : Small ns 2000000) (hlo : (writeL ns).length ≤ 140737488355328 ∨ rightB ns = false) :
    Calls Tryz.prog 20 #[.slice A n c] w fun e w' => e = .returned (.tuple #[.string (tx (writeT ns)), .int .i64 (writeE ns)]) ∧ Below w.heap.size w w' := by
  have HR := Lib.hid hr
  have HN := Lib.hid hn
  have HS := Lib.hid hsm
  clear hr hsm
  cases hrb : rightB ns with
  | false =>
    obtain ⟨hT, hE⟩ := write_no hrb
    rw [hT, hE]
    have HRB := Lib.hid hrb
    clear hrb hT hE hn hlo
    go_enter Tryz.func20, Tryz.ntmps20
    go_wp2_with fail
    refine wp_scope_again 0 (fun _ _ => False) (fun _ _ => 0) rfl (fun _ _ h => h.elim) ?_
    intro hpass
    go_wp2_with fail
    refine (Right_b B ns _ _ _ _ false HRB.out HR.out hB HN.out hlen HS.out).mono ?_
    rintro e w1 ⟨rfl, hb1⟩
    go_wp2_with fail
    simp only [Exit.jump]
    go_ret2
    exact ⟨rfl, hb1⟩
  | true =>
    have hl : (writeL ns).length ≤ 140737488355328 := hlo.resolve_right (by rw [hrb]; decide)
    clear hlo
    obtain ⟨hT, hE⟩ := write_yes hrb
    obtain ⟨h0, h2, h1⟩ := right_parts hrb
    rw [hT, hE]
    have HRB := Lib.hid hrb
    have HRT : Hid (rightTo ns n = true) := Lib.hid (by rw [HN.out]; exact h1)
    have hn0 : 0 < n := by have := List.length_pos_iff.2 h0; omega
    have HWL : Hid (writeL ns = outTo ns n ++ closeW ns (openTo ns n) (-1)) := Lib.hid (by unfold writeL; rw [HN.out])
    have hn2 : n ≤ 2000 := by omega
    have hle : ∀ i, i ≤ n → (outTo ns i).length ≤ 140737488355328 := fun i hi => by
      have := outTo_le ns (n - i) i
      rw [show i + (n - i) = n by omega] at this
      rw [HWL.out, List.length_append] at hl
      omega
    have HLE := Lib.hid hle
    clear hrb hT hE hn h0 h1 h2 hle
    go_enter Tryz.func20, Tryz.ntmps20
    go_wp2_with fail
    refine wp_scope_again 0 (fun a' w' => ∃ (b k : Nat) (u6 u7 u8 u9 u10 u11 u12 u13 u14 u15 u16 u17 u18 u19 u20 u21 : Value), a' = { tmps := #[.slice A n c, undef, .string ⟨#[]⟩, .int .i64 0, .pointer (some ⟨b, 0, none⟩), .int .i64 (k : Int), u6, u7, u8, u9, u10, u11, u12, u13, u14, u15, u16, u17, u18, u19, u20, u21], defers := [] } ∧ Hid (k ≤ n ∧ (∃ p vb, WrV w.heap.size b (.slice A n c) (.int .i64 (openTo ns k)) p vb (outTo ns k) w') ∧ Below w.heap.size w w')) (fun a' _ => n - (intOf (a'.tmps.getD 5 undef)).toNat) rfl ?_ ?_
    · rintro a' w' ⟨b, k, u6, u7, u8, u9, u10, u11, u12, u13, u14, u15, u16, u17, u18, u19, u20, u21, rfl, hh⟩
      obtain ⟨hk, ⟨p1, vb1, hv⟩, hbel⟩ := hh.out
      clear hh
      have HV := Lib.hid hv
      have HB := Lib.hid hbel
      have hws := hbel.size
      clear hv hbel
      by_cases hlt : k < n
      · have hne : ((k : Int) == (n : Int)) = false := by rw [beq_eq_false_iff_ne]; omega
        have HK1 : Hid (rightTo ns (k + 1) = true) := Lib.hid (rightTo_le HRT.out (by omega))
        have HL1 := Lib.hid (HLE.out (k + 1) (by omega))
        go_wp2_with fail
        refine (node_c w.heap.size b _ n c k p1 vb1 (outTo ns k) ns _ HV.out ((HR.out.below (HB.out.mono hB)).mono hB) HN.out ((right_par HK1.out).le (by omega)) hlt (right_up HK1.out) hlen (HS.out k) HL1.out).mono ?_
        rintro e w1 ⟨rfl, ⟨p2, vb2, hv2⟩, hb2⟩
        have HV2 := Lib.hid hv2
        have HB2 : Hid (Below w.heap.size w w1) := Lib.hid (HB.out.trans hb2)
        clear hv2 hb2
        go_wp2_with fail
        go_step3
        refine ⟨rfl, ⟨b, k + 1, _, _, _, _, _, _, _, _, _, _, _, _, _, _, _, _, rfl, hlt, ⟨p2, vb2, HV2.out⟩, HB2.out⟩, ?_⟩
        simp [intOf]
        omega
      · obtain rfl : k = n := by omega
        have hob := openTo_bound (right_par HRT.out) (i := k) (Nat.le_refl _)
        go_wp2_with fail
        refine (leave_c w.heap.size b _ k c k _ (-1) p1 vb1 (outTo ns k) ns _ HV.out ((HR.out.below (HB.out.mono hB)).mono hB) HN.out (right_par HRT.out) (Nat.le_refl _) hob.1 hob.2 (.inl rfl) hlen (by rw [← HWL.out]; exact hl)).mono ?_
        rintro e w1 ⟨rfl, ⟨p2, vb2, hv2⟩, hb2, _⟩
        rw [← HWL.out] at hv2
        have HV2 := Lib.hid hv2
        have HB2 : Hid (Below w.heap.size w w1) := Lib.hid (HB.out.trans hb2)
        clear hv2 hb2
        go_wp2_with fail
        refine (mString_any HV2.out (write_ne HN.out HRT.out hn0)).mono ?_
        rintro e w2 ⟨rfl, hb3⟩
        have HB3 : Hid (Below w.heap.size w w2) := Lib.hid (HB2.out.trans hb3)
        clear hb3
        go_wp2_with fail
        simp only [Exit.jump]
        go_ret2
        exact ⟨rfl, HB3.out⟩
    · intro hpass
      go_wp2_with fail
      refine (Right_b B ns _ _ _ _ true HRB.out HR.out hB HN.out hlen HS.out).mono ?_
      rintro e w1 ⟨rfl, hb1⟩
      have hws := hb1.size
      have HB1 := Lib.hid hb1
      clear hb1
      go_wp2_with fail
      go_step3
      rename_i hK
      exact hK _ _ (hpass.out _ _ ⟨w1.heap.size, 0, _, _, _, _, _, _, _, _, _, _, _, _, _, _, _, _, rfl, Nat.zero_le _, ⟨.pointer none, .slice none 0 0, hws, Blk.new w1 _ _, .inl rfl, World.ownsRowF_nil _ _ _ _⟩, HB1.out.alloc hws _⟩)

theorem Write_c (B : Nat) (ns : List Nd) (A : Option Addr) (n c : Nat) (w : World) (hr : NodesR B w (.slice A n c) ns) (hB : B ≤ w.heap.size) (hn : n = ns.length) (hlen : n ≤ 1000000000000) (hsm : Small ns 2000000) (hl : (writeL ns).length ≤ 140737488355328) :
    Calls Tryz.prog 20 #[.slice A n c] w fun e w' => e = .returned (.tuple #[.string (tx (writeT ns)), .int .i64 (writeE ns)]) ∧ Below w.heap.size w w' :=
  Write_any B ns A n c w hr hB hn hlen hsm (.inl hl)

end Go.Proofs.YtkccockdnjjanaaGreatDoor

namespace Nwl
theorem small_of {ns : List Nd} {M : Nat} (h : ∀ n ∈ ns, bulkN n ≤ M) : Small ns M := by
  intro i
  rcases Nat.lt_or_ge i ns.length with hi | hi
  · rw [nd_eq ns i hi]
    exact h _ (List.getElem_mem hi)
  · have : nd ns i = ⟨-1, [], [], []⟩ := by
      unfold nd
      rw [List.getD_eq_getElem?_getD, List.getElem?_eq_none hi]
      rfl
    rw [this]
    exact Nat.zero_le _
def awN : List Nd := [⟨-1, [97], [], []⟩, ⟨0, [], [120, 60], []⟩]
theorem awT : writeT awN = [60, 97, 62, 120, 38, 108, 116, 59, 60, 47, 97, 62] := by decide +kernel
theorem awE : writeE awN = 0 := by decide +kernel
theorem awL : (writeL awN).length ≤ 140737488355328 := by decide +kernel
theorem awS : Small awN 2000000 := small_of (by decide +kernel)
end Nwl
namespace Go.Proofs.YtkccockdnjjanaaGreatDoor
open Nwl
open Go.RowKit Go.Maps
set_option linter.unusedVariables false
theorem NdiCells.length {B : Nat} {w : World} : ∀ {ts : List Nd} {cs : List Value}, NdiCells B w ts cs → cs.length = ts.length * 4
  | [], _, h => by unfold NdiCells at h; rw [h]; rfl
  | t :: ts, _, ⟨av, tl, e, h1, h2⟩ => by
    have := h2.length
    rw [e]
    simp only [List.length_append, List.length_cons, List.length_nil]
    omega
/-- nodes of a block -/
theorem NodesR.blk {B g cap : Nat} {w : World} {ns : List Nd} {cs : Array Value} (h : Blk w g 32 cs) (hB : g < B) (hc : NdiCells B w ns cs.toList) (hcap : ns.length ≤ cap) : NodesR B w (.slice (some ⟨g, 0, none⟩) ns.length cap) ns := by
  refine ⟨cs.toList, ⟨hc.length, .inr ⟨g, 0, cap, rfl, hB, hcap, fun j u hu => ?_⟩⟩, hc⟩
  rw [Nat.zero_add, h.cell j]
  simpa using hu
theorem RowR.none (B : Nat) (w : World) (size : Nat) : RowR B w (.slice none 0 0) 0 size [] := ⟨by simp, .inl ⟨⟨_, 0, rfl, fun _ => rfl⟩, rfl⟩⟩

theorem tx_app (a b : List UInt8) : tx a ++ tx b = tx (a ++ b) := by
  have h := bs_append (tx a) (tx b)
  rw [bs_tx, bs_tx] at h
  rw [← h, tx_bs]
theorem txl (l : List UInt8) : (tx l).toList = l := by rw [ByteArray.toList_eq]; rfl
theorem mEscape_b (s : ByteArray) (w : World) (r : List UInt8) (hr : escL (bs s) = r) (hs : s.size ≤ 20000000000000) :
    Calls Tryz.prog 34 #[.string s] w fun e w' => e = .returned (.string (tx r)) ∧ Below w.heap.size w w' := by
  subst hr
  exact mEscape_c s w hs

set_option maxRecDepth 100000 in
set_option maxHeartbeats 2000000 in
theorem awake4_c (w : World) : Calls Tryz.prog 19 #[] w fun e w' => e = .returned (.bool true) ∧ Below w.heap.size w w' := by
  have HB := Lib.hid (Blk.new w 32 #[.int .i64 (-1), .string ⟨#[97]⟩, .string ⟨#[]⟩, .slice none 0 0, .int .i64 0, .string ⟨#[]⟩, .string ⟨#[120, 60]⟩, .slice none 0 0])
  have hs : (w.alloc (.cells #[.int .i64 (-1), .string ⟨#[97]⟩, .string ⟨#[]⟩, .slice none 0 0, .int .i64 0, .string ⟨#[]⟩, .string ⟨#[120, 60]⟩, .slice none 0 0] 32)).heap.size = w.heap.size + 1 := by simp
  have HN : Hid (NodesR (w.heap.size + 1) (w.alloc (.cells #[.int .i64 (-1), .string ⟨#[97]⟩, .string ⟨#[]⟩, .slice none 0 0, .int .i64 0, .string ⟨#[]⟩, .string ⟨#[120, 60]⟩, .slice none 0 0] 32)) (.slice (some ⟨w.heap.size, 0, none⟩) 2 2) awN) := Lib.hid (NodesR.blk (ns := awN) HB.out (by omega) ⟨_, _, rfl, RowR.none _ _ _, _, _, rfl, RowR.none _ _ _, rfl⟩ (by decide))
  have htl := txl
  go_enter Tryz.func19, Tryz.ntmps19
  go_wp2_with fail
  refine (Write_c (w.heap.size + 1) awN _ 2 2 _ HN.out (by rw [hs]; exact Nat.le_refl _) rfl (by decide) awS awL).mono ?_
  rw [awT, awE]
  rintro e w1 ⟨rfl, hb1⟩
  have HW : Hid (Below w.heap.size w w1) := Lib.hid (((Below.refl _ _).alloc (Nat.le_refl _) _).trans (hb1.mono (by simp)))
  have hws := HW.out.size
  clear hb1
  go_wp2_with (go_at_call 34; refine (mEscape_b _ _ [38, 97, 109, 112, 59] (by decide) (by decide)).mono ?_; rintro e w2 ⟨rfl, hb2⟩; have HW2 : Hid (Below w.heap.size w w2) := Lib.hid (HW.out.trans (hb2.mono hws)); clear hb2)
  go_ret
  exact ⟨rfl, HW2.out⟩

end Go.Proofs.YtkccockdnjjanaaGreatDoor
