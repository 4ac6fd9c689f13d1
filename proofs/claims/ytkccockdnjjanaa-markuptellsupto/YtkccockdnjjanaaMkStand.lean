/-
  Layer 4: where a node may stand: innermost, mayStand.
-/
import Derived.Test.YtkccockdnjjanaaMkRight1
import Derived.Deep.RegionWith
import Derived.Deep.RegionHeld3
namespace Nwl
open Go
theorem innerN_text {ns : List Nd} {k : Nat} (hk : k < ns.length) (h : (ns[k]).name = []) : innerN ns k = parAt ns k := by
  unfold innerN textB
  rw [nd_eq ns k hk, if_pos (by simpa using h)]
theorem innerN_elem {ns : List Nd} {k : Nat} (hk : k < ns.length) (h : ¬ (ns[k]).name = []) : innerN ns k = k := by
  unfold innerN textB
  rw [nd_eq ns k hk, if_neg (by simpa using h)]
theorem stand_zero {ns : List Nd} (h : 0 < ns.length) : mayStandB ns 0 = (decide (parAt ns 0 = -1) && !decide ((ns[0]).name = [])) := by
  unfold mayStandB textB
  rw [nd_eq ns 0 h]
theorem stand_out {ns : List Nd} {k : Nat} (h : (chainL ns (innerN ns k)).contains (parAt ns (k + 1 : Nat)) = false) : mayStandB ns (k + 1) = false := by
  rw [mayStandB]
  rw [h]
  rfl
theorem stand_text {ns : List Nd} {k : Nat} (hk : k + 1 < ns.length) (h : (chainL ns (innerN ns k)).contains (parAt ns (k + 1 : Nat)) = true) (ht : (ns[k + 1]).name = []) : mayStandB ns (k + 1) = (!decide ((ns[k]'(by omega)).name = []) || decide (parAt ns k ≠ parAt ns (k + 1 : Nat))) := by
  rw [mayStandB]
  unfold textB
  rw [h, nd_eq ns (k + 1) hk, nd_eq ns k (by omega), if_pos (by simpa using ht)]
  rfl
theorem stand_elem {ns : List Nd} {k : Nat} (hk : k + 1 < ns.length) (h : (chainL ns (innerN ns k)).contains (parAt ns (k + 1 : Nat)) = true) (ht : ¬ (ns[k + 1]).name = []) : mayStandB ns (k + 1) = decide ((chainL ns (k + 1 : Nat)).length ≤ 20) := by
  rw [mayStandB]
  unfold textB
  rw [h, nd_eq ns (k + 1) hk, if_neg (by simpa using ht)]
  rfl
theorem in_par {ns : List Nd} {i : Nat} (h : Par ns (i + 1)) (hs : (chainL ns (innerN ns i)).contains (parAt ns (i + 1 : Nat)) = true) : Par ns (i + 2) := by
  intro j hj
  by_cases e : j < i + 1
  · exact h j e
  obtain rfl : j = i + 1 := by omega
  rw [List.contains_iff_mem] at hs
  have hb := innerN_bound h
  have := chainL_mem h (innerN ns i + 1).toNat _ (by omega) hb.1 (by omega) _ hs
  omega
end Nwl
namespace Go.Proofs.Ytkccockdnjjanaa
open Nwl
open Go.RowKit Go.Maps
set_option linter.unusedVariables false
/-- a node, as it is read -/
theorem NodesR.full {B : Nat} {w : World} {A : Option Addr} {n c : Nat} {ts : List Nd} (h : NodesR B w (.slice A n c) ts) (k : Nat) (hk : k < ts.length) : ∃ (b o : Nat) (A2 : Option Addr) (l2 c2 : Nat), A = some ⟨b, o, none⟩ ∧ b < B ∧ l2 = (ts[k]).attrs.length ∧ RowR B w (.slice A2 l2 c2) (ts[k]).attrs.length 2 (attrCells (ts[k]).attrs) ∧
    w.cell? ⟨b, o + k * 4, none⟩ = some (.int .i64 (parAt ts (k : Int))) ∧ w.cell? ⟨b, o + k * 4 + 1, none⟩ = some (.string (tx (ts[k]).name)) ∧ w.cell? ⟨b, o + k * 4 + 2, none⟩ = some (.string (tx (ts[k]).text)) ∧ w.cell? ⟨b, o + k * 4 + 3, none⟩ = some (.slice A2 l2 c2) := by
  obtain ⟨cs, h1, h2⟩ := h
  obtain ⟨b, o, c', hv, hbB, _, hc⟩ := h1.some (by omega)
  injection hv with e1 e2 e3
  obtain ⟨av, hav, c0, c1, c2, c3⟩ := h2.get k hk
  obtain ⟨A2, c2', rfl⟩ := hav.form
  exact ⟨b, o, A2, _, c2', e1, hbB, rfl, hav, by rw [parAt_nat ts k hk]; exact hc _ _ c0, hc _ _ c1, hc _ _ c2, hc _ _ c3⟩

set_option maxRecDepth 100000 in
set_option maxHeartbeats 2000000 in
theorem minnermost_c (B : Nat) (ns : List Nd) (A : Option Addr) (n c k : Nat) (w : World) (hr : NodesR B w (.slice A n c) ns) (hB : B ≤ w.heap.size) (hn : n = ns.length) (hk : k < n) (hlen : n ≤ 1000000000000) :
    Calls Try.prog 31 #[.slice A n c, .int .i64 k] w fun e w' => e = .returned (.int .i64 (innerN ns k)) ∧ Below w.heap.size w w' := by
  have hkt : k < ns.length := by omega
  obtain ⟨b, o, A2, l2, c2, rfl, hbB, hl2, hra, e0, e1, e2, e3⟩ := hr.full k hkt
  have HT := Lib.hid fun h => innerN_text hkt h
  have HE := Lib.hid fun h => innerN_elem hkt h
  clear hr hra hl2 hn
  generalize (ns[k]).name = nm at *
  generalize (ns[k]).text = xt at *
  by_cases h : nm = []
  · have hd : decide (nm = []) = true := by simp [h]
    have HI := Lib.hid (HT.out h)
    clear h
    go_enter Try.func31, Try.ntmps31
    go_wp2_with fail
    refine (isText_c _ _ _ _ _ _ _).mono ?_
    rintro e w1 ⟨rfl, hb1⟩
    have d0 : w1.cell? ⟨b, o + k * 4, none⟩ = some (.int .i64 (parAt ns (k : Int))) := (hb1.cell (p := ⟨b, o + k * 4, none⟩) (show b < w.heap.size by omega)).trans e0
    go_wp2_with fail
    go_ret
    exact ⟨by rw [HI.out]; rfl, hb1⟩
  · have hd : decide (nm = []) = false := by simp [h]
    have HI := Lib.hid (HE.out h)
    clear h
    go_enter Try.func31, Try.ntmps31
    go_wp2_with fail
    refine (isText_c _ _ _ _ _ _ _).mono ?_
    rintro e w1 ⟨rfl, hb1⟩
    go_wp2_with fail
    go_ret
    exact ⟨by rw [HI.out]; rfl, hb1⟩

set_option maxRecDepth 100000 in
set_option maxHeartbeats 2000000 in
theorem mayStand_zero (B : Nat) (ns : List Nd) (A : Option Addr) (n c : Nat) (w : World) (hr : NodesR B w (.slice A n c) ns) (hB : B ≤ w.heap.size) (hn : n = ns.length) (hk : 0 < n) (hlen : n ≤ 1000000000000) :
    Calls Try.prog 18 #[.slice A n c, .int .i64 0] w fun e w' => e = .returned (.bool (mayStandB ns 0)) ∧ Below w.heap.size w w' := by
  have hkt : 0 < ns.length := by omega
  obtain ⟨b, o, A2, l2, c2, rfl, hbB, hl2, hra, e0, e1, e2, e3⟩ := hr.full 0 hkt
  have HZ := Lib.hid (stand_zero hkt)
  clear hr hra hl2 hn
  rw [Nat.zero_mul, Nat.add_zero] at e0 e1 e2 e3
  have hpz : parAt ns ((0 : Nat) : Int) = parAt ns 0 := rfl
  rw [hpz] at e0
  clear hpz
  generalize (ns[0]).name = nm at *
  generalize (ns[0]).text = xt at *
  generalize parAt ns 0 = p at *
  by_cases hp : p = -1
  · subst hp
    go_enter Try.func18, Try.ntmps18
    go_wp2_with fail
    refine (isText_c _ _ _ _ _ _ _).mono ?_
    rintro e w1 ⟨rfl, hb1⟩
    have HW : Hid (Below w.heap.size w w1) := Lib.hid (((Below.refl _ _).alloc (Nat.le_refl _) _).trans (hb1.mono (by simp)))
    clear hb1
    go_wp2_with fail
    go_ret
    exact ⟨by rw [HZ.out]; simp, HW.out⟩
  · have hpe : (p == -1) = false := by rw [beq_eq_false_iff_ne]; exact hp
    have HD : Hid (decide (p = -1) = false) := Lib.hid (by simp [hp])
    clear hp
    go_enter Try.func18, Try.ntmps18
    go_wp2_with fail
    go_ret
    exact ⟨by rw [HZ.out, HD.out]; rfl, (Below.refl _ _).alloc (Nat.le_refl _) _⟩

theorem isText_b (p : Int) (n x : List UInt8) (A : Option Addr) (l c : Nat) (w : World) (r : Bool) (hr : decide (n = []) = r) :
    Calls Try.prog 23 #[.agg #[.int .i64 p, .string (tx n), .string (tx x), .slice A l c]] w fun e w' => e = .returned (.bool r) ∧ Below w.heap.size w w' := by
  subst hr
  exact isText_c p n x A l c w
theorem within_b (B : Nat) (ns : List Nd) (A : Option Addr) (n c m : Nat) (i above : Int) (w : World) (r : Bool) (hrr : (chainL ns i).contains above = r) (hr : NodesR B w (.slice A n c) ns) (hn : n = ns.length) (hp : Par ns m) (hm : m ≤ n) (h0 : -1 ≤ i) (h1 : i < m) (hlen : n ≤ 1000000000000) :
    Calls Try.prog 30 #[.slice A n c, .int .i64 i, .int .i64 above] w fun e w' => e = .returned (.bool r) ∧ w = w' := by
  subst hrr
  exact within_c B ns A n c m i above w hr hn hp hm h0 h1 hlen
theorem depth_b (B : Nat) (ns : List Nd) (A : Option Addr) (n c m : Nat) (i : Int) (w : World) (d : Nat) (hd : (chainL ns i).length = d) (hr : NodesR B w (.slice A n c) ns) (hn : n = ns.length) (hp : Par ns m) (hm : m ≤ n) (h0 : -1 ≤ i) (h1 : i < m) (hlen : n ≤ 1000000000000) :
    Calls Try.prog 32 #[.slice A n c, .int .i64 i] w fun e w' => e = .returned (.int .i64 (d : Int)) ∧ w = w' := by
  subst hd
  exact depth_c B ns A n c m i w hr hn hp hm h0 h1 hlen

/-- what stays read while something is written from B on -/
structure StAt (B : Nat) (ns : List Nd) (A : Option Addr) (n c : Nat) (w w' : World) (p : Int) (nm xt : List UInt8) (av : Value) : Prop where
  bel : Below w.heap.size w w'
  nodes : NodesR B w' (.slice A n c) ns
  box : Blk w' w.heap.size 32 #[.int .i64 p, .string (tx nm), .string (tx xt), av]
theorem StAt.on {B : Nat} {ns : List Nd} {A : Option Addr} {n c : Nat} {w w1 w2 : World} {p : Int} {nm xt : List UInt8} {av : Value} (h : StAt B ns A n c w w1 p nm xt av) (hB : B ≤ w.heap.size) (hb : Below w1.heap.size w1 w2) : StAt B ns A n c w w2 p nm xt av :=
  ⟨h.bel.trans (hb.mono h.bel.size), h.nodes.below (hb.mono (by have := h.bel.size; omega)), h.box.below hb⟩
theorem StAt.old {B : Nat} {ns : List Nd} {A : Option Addr} {n c b j : Nat} {w w1 : World} {p : Int} {nm xt : List UInt8} {av v : Value} (h : StAt B ns A n c w w1 p nm xt av) (hb : b < w.heap.size) (e : w.cell? ⟨b, j, none⟩ = some v) : w1.cell? ⟨b, j, none⟩ = some v :=
  (h.bel.cell (p := ⟨b, j, none⟩) hb).trans e
theorem StAt.draw {B : Nat} {ns : List Nd} {A : Option Addr} {n c : Nat} {w w1 : World} {p : Int} {nm xt : List UInt8} {av : Value} (h : StAt B ns A n c w w1 p nm xt av) (hB : B ≤ w.heap.size) : StAt B ns A n c w w1.drew p nm xt av :=
  h.on hB (Below.refl _ _).drew

set_option maxRecDepth 100000 in
set_option maxHeartbeats 2000000 in
theorem mayStand_succ (B : Nat) (ns : List Nd) (A : Option Addr) (n c k : Nat) (w : World) (hr : NodesR B w (.slice A n c) ns) (hB : B ≤ w.heap.size) (hn : n = ns.length) (hk : k + 1 < n) (hp : Par ns (k + 1)) (hlen : n ≤ 1000000000000) :
    Calls Try.prog 18 #[.slice A n c, .int .i64 ((k + 1 : Nat) : Int)] w fun e w' => e = .returned (.bool (mayStandB ns (k + 1))) ∧ Below w.heap.size w w' := by
  have hkt : k + 1 < ns.length := by omega
  have hk0 : k < ns.length := by omega
  obtain ⟨b, o, A2, l2, c2, rfl, hbB, hl2, hra, e0, e1, e2, e3⟩ := hr.full (k + 1) hkt
  obtain ⟨b', o', A3, l3, c3, hA', hbB', hl3, hra', f0, f1, f2, f3⟩ := hr.full k hk0
  injection hA' with hA'
  injection hA' with hb' ho' _
  subst hb' ho'
  have HI := Lib.hid (innerN_bound hp)
  have HP := Lib.hid hp
  have HN := Lib.hid hn
  have HO := Lib.hid fun h => stand_out (ns := ns) (k := k) h
  have HT := Lib.hid fun h ht => stand_text (ns := ns) (k := k) hkt h ht
  have HE := Lib.hid fun h ht => stand_elem (ns := ns) (k := k) hkt h ht
  have HST : Hid (StAt B ns (some ⟨b, o, none⟩) n c w (w.alloc (.cells #[.int .i64 (parAt ns ((k + 1 : Nat) : Int)), .string (tx (ns[k + 1]).name), .string (tx (ns[k + 1]).text), .slice A2 l2 c2] 32)) (parAt ns ((k + 1 : Nat) : Int)) (ns[k + 1]).name (ns[k + 1]).text (.slice A2 l2 c2)) :=
    Lib.hid ⟨(Below.refl _ _).alloc (Nat.le_refl _) _, hr.below ((Below.refl _ _).alloc hB _), Blk.new w _ _⟩
  clear hr hra hl2 hn hp hra' hl3 hbB'
  generalize (ns[k + 1]).name = nm at *
  generalize (ns[k + 1]).text = xt at *
  generalize (ns[k]).name = nm' at *
  generalize (ns[k]).text = xt' at *
  obtain ⟨q, hq⟩ : ∃ q, q = parAt ns (k : Int) := ⟨_, rfl⟩
  rw [← hq] at f0 HT
  have HQ := Lib.hid hq
  clear hq
  obtain ⟨p, hpp⟩ : ∃ p, p = parAt ns ((k + 1 : Nat) : Int) := ⟨_, rfl⟩
  rw [← hpp] at e0 HST HO HT HE
  have HPP := Lib.hid hpp
  clear hpp
  obtain ⟨i, hi⟩ : ∃ i, i = k + 1 := ⟨_, rfl⟩
  rw [← hi] at e0 e1 e2 e3 hk HO HT HE ⊢
  have HPI : Hid (Par ns i) := Lib.hid (by rw [hi]; exact HP.out)
  have hz : ((i : Int) == 0) = false := by rw [beq_eq_false_iff_ne]; omega
  have hz' : ¬ (i = 0) := by omega
  have hw1 : IntKind.i64.wrap ((i : Int) - 1) = (k : Int) := by rw [IntWalk.i64_in _ (by omega)]; omega
  have hib : -1 ≤ innerN ns k ∧ innerN ns k < i := by have := HI.out; omega
  have HKI := Lib.hid hi
  have hkn : k < n := by omega
  have hbw : b < w.heap.size := by omega
  clear hi HP HI
  cases hin : (chainL ns (innerN ns k)).contains p with
  | false =>
    have HF := Lib.hid (HO.out hin)
    have hst := (HST.out.draw hB).box.cell 0
    have HIN := Lib.hid hin
    clear hin
    clear HO HT HE
    go_enter Try.func18, Try.ntmps18
    go_wp2_with fail
    go_region_held3 (fun w' => w'.cell? ⟨w.heap.size, 0, none⟩ = some (.int .i64 p)) (first | exact hst | exact b0) (first
      | (go_at_call 31; refine (minnermost_c B ns _ _ _ k _ (HST.out.draw hB).nodes (by have := (HST.out.draw hB).bel.size; omega) HN.out hkn hlen).mono ?_; rintro e w2 ⟨rfl, hb2⟩; have HS2 := Lib.hid ((HST.out.draw hB).on hB hb2); have b0 := HS2.out.box.cell 0; clear hb2)
      | (go_at_call 30; refine (within_b B ns _ _ _ i _ _ _ _ HIN.out HS2.out.nodes HN.out HPI.out (by omega) hib.1 hib.2 hlen).mono ?_; rintro e w3 ⟨rfl, rfl⟩))
    all_goals (go_wp2_with fail; go_ret; exact ⟨ret_bool HF.out.symm, HS2.out.bel⟩)
  | true =>
    have HPJ : Hid (Par ns (i + 1)) := Lib.hid (by have := in_par (ns := ns) (i := k) (by rw [← HKI.out]; exact HPI.out) (by rw [← HPP.out]; exact hin); rw [HKI.out]; exact this)
    have hst := (HST.out.draw hB).box.cell 0
    have HIN := Lib.hid hin
    clear hin
    by_cases hnm : nm = []
    · have hd : decide (nm = []) = true := by simp [hnm]
      have HR1 := Lib.hid (HT.out HIN.out hnm)
      clear HO HT HE hnm
      by_cases hnm' : nm' = []
      · have hd' : decide (nm' = []) = true := by simp [hnm']
        have HF : Hid (mayStandB ns i = (q != p)) := Lib.hid (by
          rw [HR1.out, hd']
          by_cases h : q = p <;> simp [h])
        clear hnm'
        go_enter Try.func18, Try.ntmps18
        go_wp2_with fail
        go_region_held3 (fun w' => w'.cell? ⟨w.heap.size, 0, none⟩ = some (.int .i64 p)) (first | exact hst | exact b0) (first
          | (go_at_call 31; refine (minnermost_c B ns _ _ _ k _ (HST.out.draw hB).nodes (by have := (HST.out.draw hB).bel.size; omega) HN.out hkn hlen).mono ?_; rintro e w2 ⟨rfl, hb2⟩; have HS2 := Lib.hid ((HST.out.draw hB).on hB hb2); have b0 := HS2.out.box.cell 0; have b1 := HS2.out.box.cell 1; have b2 := HS2.out.box.cell 2; have b3 := HS2.out.box.cell 3; clear hb2)
          | (go_at_call 30; refine (within_b B ns _ _ _ i _ _ _ _ HIN.out HS2.out.nodes HN.out HPI.out (by omega) hib.1 hib.2 hlen).mono ?_; rintro e w3 ⟨rfl, rfl⟩))
        all_goals (
          go_wp2_with fail
          refine (isText_c _ _ _ _ _ _ _).mono ?_
          rintro e w3 ⟨rfl, hb3⟩
          have HS3 := Lib.hid ((HS2.out.on hB hb3).draw hB)
          clear hb3
          have g0 := HS3.out.old hbw f0
          have g1 := HS3.out.old hbw f1
          have g2 := HS3.out.old hbw f2
          have g3 := HS3.out.old hbw f3
          have y0 := HS3.out.box.cell 0
          go_wp2_with fail
          go_region_held3 (fun w' => w'.cell? ⟨b, o + k * 4, none⟩ = some (.int .i64 q) ∧ w'.cell? ⟨b, o + k * 4 + 1, none⟩ = some (.string (tx nm')) ∧ w'.cell? ⟨b, o + k * 4 + 2, none⟩ = some (.string (tx xt')) ∧ w'.cell? ⟨b, o + k * 4 + 3, none⟩ = some (.slice A3 l3 c3) ∧ w'.cell? ⟨w.heap.size, 0, none⟩ = some (.int .i64 p)) (first | exact ⟨g0, g1, g2, g3, y0⟩ | exact ⟨z0, z1, z2, z3, x0⟩) ((go_at_call 23; refine (isText_b _ _ _ _ _ _ _ _ hd').mono ?_; rintro e w4 ⟨rfl, hb4⟩; have HS4 := Lib.hid (HS3.out.on hB hb4); have z0 := HS4.out.old hbw f0; have z1 := HS4.out.old hbw f1; have z2 := HS4.out.old hbw f2; have z3 := HS4.out.old hbw f3; have x0 := HS4.out.box.cell 0; clear hb4))
          all_goals (
            go_wp2_with fail
            go_ret
            exact ⟨ret_bool HF.out.symm, HS4.out.bel⟩))
      · have hd' : decide (nm' = []) = false := by simp [hnm']
        have HF : Hid (mayStandB ns i = true) := Lib.hid (by rw [HR1.out, hd']; rfl)
        clear hnm'
        go_enter Try.func18, Try.ntmps18
        go_wp2_with fail
        go_region_held3 (fun w' => w'.cell? ⟨w.heap.size, 0, none⟩ = some (.int .i64 p)) (first | exact hst | exact b0) (first
          | (go_at_call 31; refine (minnermost_c B ns _ _ _ k _ (HST.out.draw hB).nodes (by have := (HST.out.draw hB).bel.size; omega) HN.out hkn hlen).mono ?_; rintro e w2 ⟨rfl, hb2⟩; have HS2 := Lib.hid ((HST.out.draw hB).on hB hb2); have b0 := HS2.out.box.cell 0; have b1 := HS2.out.box.cell 1; have b2 := HS2.out.box.cell 2; have b3 := HS2.out.box.cell 3; clear hb2)
          | (go_at_call 30; refine (within_b B ns _ _ _ i _ _ _ _ HIN.out HS2.out.nodes HN.out HPI.out (by omega) hib.1 hib.2 hlen).mono ?_; rintro e w3 ⟨rfl, rfl⟩))
        all_goals (
          go_wp2_with fail
          refine (isText_c _ _ _ _ _ _ _).mono ?_
          rintro e w3 ⟨rfl, hb3⟩
          have HS3 := Lib.hid ((HS2.out.on hB hb3).draw hB)
          clear hb3
          have g0 := HS3.out.old hbw f0
          have g1 := HS3.out.old hbw f1
          have g2 := HS3.out.old hbw f2
          have g3 := HS3.out.old hbw f3
          have y0 := HS3.out.box.cell 0
          go_wp2_with fail
          refine wp_region_any (by kernel_rfl) ?_
          change wpAny _ _ _ _ _ _ _ (World.drew _)
          refine wpAny_take (i := 0) (v := .slice (some ⟨b, o, none⟩) n c) rfl (by kernel_rfl) (by kernel_rfl) (by kernel_rfl) (fun _ _ _ h => h) (Or.inl ⟨by rfl, fun W => by go_simp⟩) ?_
          simp only [Act.put, List.getElem_toArray, List.getElem_cons_zero, List.setIfInBounds_toArray, List.set_cons_zero, List.set_cons_succ]
          refine wpAny_take (i := 1) (v := .int .i64 (i : Int)) rfl (by kernel_rfl) (by kernel_rfl) (by kernel_rfl) (fun _ _ _ h => h) (Or.inl ⟨by rfl, fun W => by go_simp⟩) ?_
          simp only [Act.put, List.getElem_toArray, List.getElem_cons_zero, List.getElem_cons_succ, List.setIfInBounds_toArray, List.set_cons_zero, List.set_cons_succ]
          refine wpAny_take (i := 2) (v := .int .i64 (k : Int)) rfl (by kernel_rfl) (by kernel_rfl) (by kernel_rfl) (fun _ _ _ h => h) (Or.inl ⟨by rfl, fun W => by go_simp⟩) ?_
          simp only [Act.put, List.getElem_toArray, List.getElem_cons_zero, List.getElem_cons_succ, List.setIfInBounds_toArray, List.set_cons_zero, List.set_cons_succ]
          refine wpAny_take (i := 3) (v := .pointer (some ⟨b, o + k * 4, none⟩)) rfl (by kernel_rfl) (by kernel_rfl) (by kernel_rfl) (fun _ _ _ h => h) (Or.inl ⟨by rfl, fun W => by go_simp⟩) ?_
          simp only [Act.put, List.getElem_toArray, List.getElem_cons_zero, List.getElem_cons_succ, List.setIfInBounds_toArray, List.set_cons_zero, List.set_cons_succ]
          refine wpAny_ready (rs := [4]) (by kernel_rfl) (by simp) ?_
          refine AllReady.cons rfl (fun K hK => ?_) AllReady.nil
          go_simp
          refine hK _ _ ?_
          clear hK K
          refine wpAny_ready (rs := [5]) (by kernel_rfl) (by simp) ?_
          refine AllReady.cons rfl (fun K hK => ?_) AllReady.nil
          go_simp
          go_wp2_with ((go_at_call 23; refine (isText_b _ _ _ _ _ _ _ _ hd').mono ?_; rintro e w4 ⟨rfl, hb4⟩; have HS4 := Lib.hid (HS3.out.on hB hb4); clear hb4))
          refine wpAny_take (i := 6) (v := .bool true) rfl (by kernel_rfl) (by kernel_rfl) (by kernel_rfl) (fun _ _ _ h => h) (Or.inl ⟨by rfl, fun W => by go_simp⟩) ?_
          simp only [Act.put, List.getElem_toArray, List.getElem_cons_zero, List.getElem_cons_succ, List.setIfInBounds_toArray, List.set_cons_zero, List.set_cons_succ]
          refine wpAny_take (i := 7) (v := .bool true) rfl (by kernel_rfl) (by kernel_rfl) (by kernel_rfl) (fun _ _ _ h => h) (Or.inl ⟨by rfl, fun W => by go_simp⟩) ?_
          simp only [Act.put, List.getElem_toArray, List.getElem_cons_zero, List.getElem_cons_succ, List.setIfInBounds_toArray, List.set_cons_zero, List.set_cons_succ]
          refine wpAny_take (i := 8) (v := undef) rfl (by kernel_rfl) (by kernel_rfl) (by kernel_rfl) (fun _ _ _ h => h) (Or.inr ⟨by rfl, rfl⟩) ?_
          simp only [Act.put, List.getElem_toArray, List.getElem_cons_zero, List.getElem_cons_succ, List.setIfInBounds_toArray, List.set_cons_zero, List.set_cons_succ]
          refine wpAny_take (i := 9) (v := undef) rfl (by kernel_rfl) (by kernel_rfl) (by kernel_rfl) (fun _ _ _ h => h) (Or.inr ⟨by rfl, rfl⟩) ?_
          simp only [Act.put, List.getElem_toArray, List.getElem_cons_zero, List.getElem_cons_succ, List.setIfInBounds_toArray, List.set_cons_zero, List.set_cons_succ]
          refine wpAny_take (i := 10) (v := undef) rfl (by kernel_rfl) (by kernel_rfl) (by kernel_rfl) (fun _ _ _ h => h) (Or.inr ⟨by rfl, rfl⟩) ?_
          simp only [Act.put, List.getElem_toArray, List.getElem_cons_zero, List.getElem_cons_succ, List.setIfInBounds_toArray, List.set_cons_zero, List.set_cons_succ]
          refine wpAny_take (i := 11) (v := undef) rfl (by kernel_rfl) (by kernel_rfl) (by kernel_rfl) (fun _ _ _ h => h) (Or.inr ⟨by rfl, rfl⟩) ?_
          simp only [Act.put, List.getElem_toArray, List.getElem_cons_zero, List.getElem_cons_succ, List.setIfInBounds_toArray, List.set_cons_zero, List.set_cons_succ]
          refine wpAny_take (i := 12) (v := undef) rfl (by kernel_rfl) (by kernel_rfl) (by kernel_rfl) (fun _ _ _ h => h) (Or.inr ⟨by rfl, rfl⟩) ?_
          simp only [Act.put, List.getElem_toArray, List.getElem_cons_zero, List.getElem_cons_succ, List.setIfInBounds_toArray, List.set_cons_zero, List.set_cons_succ]
          refine wpAny_take (i := 13) (v := undef) rfl (by kernel_rfl) (by kernel_rfl) (by kernel_rfl) (fun _ _ _ h => h) (Or.inr ⟨by rfl, rfl⟩) ?_
          simp only [Act.put, List.getElem_toArray, List.getElem_cons_zero, List.getElem_cons_succ, List.setIfInBounds_toArray, List.set_cons_zero, List.set_cons_succ]
          refine wpAny_take (i := 14) (v := undef) rfl (by kernel_rfl) (by kernel_rfl) (by kernel_rfl) (fun _ _ _ h => h) (Or.inr ⟨by rfl, rfl⟩) ?_
          simp only [Act.put, List.getElem_toArray, List.getElem_cons_zero, List.getElem_cons_succ, List.setIfInBounds_toArray, List.set_cons_zero, List.set_cons_succ]
          refine wpAny_take (i := 15) (v := undef) rfl (by kernel_rfl) (by kernel_rfl) (by kernel_rfl) (fun _ _ _ h => h) (Or.inr ⟨by rfl, rfl⟩) ?_
          simp only [Act.put, List.getElem_toArray, List.getElem_cons_zero, List.getElem_cons_succ, List.setIfInBounds_toArray, List.set_cons_zero, List.set_cons_succ]
          refine wpAny_take (i := 16) (v := undef) rfl (by kernel_rfl) (by kernel_rfl) (by kernel_rfl) (fun _ _ _ h => h) (Or.inr ⟨by rfl, rfl⟩) ?_
          simp only [Act.put, List.getElem_toArray, List.getElem_cons_zero, List.getElem_cons_succ, List.setIfInBounds_toArray, List.set_cons_zero, List.set_cons_succ]
          refine wpAny_take (i := 17) (v := .bool true) rfl (by kernel_rfl) (by kernel_rfl) (by kernel_rfl) (fun _ _ _ h => h) (Or.inl ⟨by rfl, fun W => by go_simp⟩) ?_
          simp only [Act.put, List.getElem_toArray, List.getElem_cons_zero, List.getElem_cons_succ, List.setIfInBounds_toArray, List.set_cons_zero, List.set_cons_succ]
          refine wpAny_take (i := 18) (v := .bool true) rfl (by kernel_rfl) (by kernel_rfl) (by kernel_rfl) (fun _ _ _ h => h) (Or.inl ⟨by rfl, fun W => by go_simp⟩) ?_
          simp only [Act.put, List.getElem_toArray, List.getElem_cons_zero, List.getElem_cons_succ, List.setIfInBounds_toArray, List.set_cons_zero, List.set_cons_succ]
          refine wpAny_done (by kernel_rfl) ?_ _
          all_goals (
            go_wp2_with fail
            go_ret
            exact ⟨ret_bool HF.out.symm, HS4.out.bel⟩))
    · have hd : decide (nm = []) = false := by simp [hnm]
      have HR1 := Lib.hid (HE.out HIN.out hnm)
      obtain ⟨d, hdd⟩ : ∃ d, (chainL ns (i : Int)).length = d := ⟨_, rfl⟩
      rw [hdd] at HR1
      have HDD := Lib.hid hdd
      clear hdd
      clear HO HT HE hnm
      go_enter Try.func18, Try.ntmps18
      go_wp2_with fail
      go_region_held3 (fun w' => w'.cell? ⟨w.heap.size, 0, none⟩ = some (.int .i64 p)) (first | exact hst | exact b0) (first
        | (go_at_call 31; refine (minnermost_c B ns _ _ _ k _ (HST.out.draw hB).nodes (by have := (HST.out.draw hB).bel.size; omega) HN.out hkn hlen).mono ?_; rintro e w2 ⟨rfl, hb2⟩; have HS2 := Lib.hid ((HST.out.draw hB).on hB hb2); have b0 := HS2.out.box.cell 0; have b1 := HS2.out.box.cell 1; have b2 := HS2.out.box.cell 2; have b3 := HS2.out.box.cell 3; clear hb2)
        | (go_at_call 30; refine (within_b B ns _ _ _ i _ _ _ _ HIN.out HS2.out.nodes HN.out HPI.out (by omega) hib.1 hib.2 hlen).mono ?_; rintro e w3 ⟨rfl, rfl⟩))
      all_goals (
        go_wp2_with fail
        refine (isText_c _ _ _ _ _ _ _).mono ?_
        rintro e w3 ⟨rfl, hb3⟩
        have HS3 := Lib.hid (HS2.out.on hB hb3)
        clear hb3
        go_wp2_with fail
        refine (depth_b B ns _ _ _ (i + 1) _ _ d HDD.out HS3.out.nodes HN.out HPJ.out (by omega) (by omega) (by omega) hlen).mono ?_
        rintro e w4 ⟨rfl, rfl⟩
        go_wp2_with fail
        go_ret
        refine ⟨?_, HS3.out.bel⟩
        rw [HR1.out]
        exact ret_bool (by rw [decide_eq_decide]; omega))

theorem mayStand_c (B : Nat) (ns : List Nd) (A : Option Addr) (n c i : Nat) (w : World) (hr : NodesR B w (.slice A n c) ns) (hB : B ≤ w.heap.size) (hn : n = ns.length) (hi : i < n) (hp : Par ns i) (hlen : n ≤ 1000000000000) :
    Calls Try.prog 18 #[.slice A n c, .int .i64 (i : Int)] w fun e w' => e = .returned (.bool (mayStandB ns i)) ∧ Below w.heap.size w w' := by
  cases i with
  | zero => exact mayStand_zero B ns A n c w hr hB hn hi hlen
  | succ k => exact mayStand_succ B ns A n c k w hr hB hn hi hp hlen

end Go.Proofs.Ytkccockdnjjanaa
