/-
  Versions in memory: order.newVersions, order.texts.
-/
import Derived.Test.YtkknhkfpabcjoaaDoorOrVer
import Derived.Laws.MakeOwn
namespace Nwl
open Go
/-- a version in memory: its text, and its words -/
structure Vn where
  t : List UInt8
  A : Option Addr
  n : Nat
  c : Nat
theorem madeCells_get (z : Array Value) (m i : Nat) (h : i < m) : (madeCells z m)[i]? = some (z[i % z.size]!) := by
  unfold madeCells
  simp [h]
end Nwl
namespace Go.Proofs.YtkknhkfpabcjoaaDoor
open Nwl
open Go.RowKit Go.Maps
set_option linter.unusedVariables false

/-- texts that may be read, below block B -/
def StrR (B : Nat) (w : World) (A : Option Addr) (n : Nat) (l : List (List UInt8)) : Prop := n = l.length ∧ ∀ j (hj : j < l.length), ∃ g o, A = some ⟨g, o, none⟩ ∧ g < B ∧ w.cell? ⟨g, o + j, none⟩ = some (.string (tx l[j]))
theorem StrR.below {B : Nat} {w w' : World} {A : Option Addr} {n : Nat} {l : List (List UInt8)} (h : StrR B w A n l) (hb : Below B w w') : StrR B w' A n l := by
  refine ⟨h.1, fun j hj => ?_⟩
  obtain ⟨g, o, hA, hg, c0⟩ := h.2 j hj
  exact ⟨g, o, hA, hg, (hb.cell (p := ⟨g, o + j, none⟩) hg).trans c0⟩
theorem StrR.mono {B B' : Nat} {w : World} {A : Option Addr} {n : Nat} {l : List (List UInt8)} (h : StrR B w A n l) (hb : B ≤ B') : StrR B' w A n l := by
  refine ⟨h.1, fun j hj => ?_⟩
  obtain ⟨g, o, hA, hg, c0⟩ := h.2 j hj
  exact ⟨g, o, hA, by omega, c0⟩
theorem StrR.drew {B : Nat} {w : World} {A : Option Addr} {n : Nat} {l : List (List UInt8)} (h : StrR B w A n l) : StrR B w.drew A n l := h
theorem StrR.on {B : Nat} {w w' : World} {A : Option Addr} {n : Nat} {l : List (List UInt8)} (h : StrR B w A n l) (hB : B ≤ w.heap.size) (hb : Below w.heap.size w w') : StrR B w' A n l := h.below (hb.mono hB)
/-- texts that were laid in a block of their own -/
theorem StrR.blk {B g : Nat} {w : World} {l : List (List UInt8)} {cs : Array Value} (h : Blk w g 9 cs) (hB : g < B) (hc : cs.toList = l.map fun x => .string (tx x)) : StrR B w (some ⟨g, 0, none⟩) l.length l := by
  refine ⟨rfl, fun j hj => ⟨g, 0, rfl, hB, ?_⟩⟩
  rw [h.cell, Nat.zero_add, ← Array.getElem?_toList, hc, List.getElem?_map, List.getElem?_eq_getElem hj]
  rfl
theorem wdrow_mono {B B' : Nat} {w : World} {A : Option Addr} {n c : Nat} {l : List Wd} (h : WdRow B w A n c l) (hb : B' ≤ B) : WdRow B' w A n c l := by
  obtain ⟨h0, h1, h2⟩ := h
  refine ⟨h0, h1, ?_⟩
  rcases h2 with h2 | ⟨g, cap, cur, e1, e2, e3⟩
  · exact .inl h2
  · exact .inr ⟨g, cap, cur, e1, Nat.le_trans hb e2, e3⟩
/-- a version whose words were made from block B on -/
def VnOk (B : Nat) (w : World) (v : Vn) : Prop := v.t.length ≤ 1000 ∧ WdRow B w v.A v.n v.c (splitW v.t)
theorem VnOk.below {B : Nat} {w w' : World} {v : Vn} (h : VnOk B w v) (hb : Below w.heap.size w w') : VnOk B w' v := ⟨h.1, h.2.below hb⟩
theorem VnOk.low {B b : Nat} {w : World} {v : Vn} (h : VnOk B w v) (hb : b < B) (i : Nat) (u : Value) : VnOk B (w.setCell ⟨b, i, none⟩ u) v := ⟨h.1, h.2.low hb i u⟩
/-- the row of versions: its first ones are filled in -/
def VerAt (w : World) (g n : Nat) (vs : List Vn) : Prop := ∃ cs : Array Value, Blk w g 46 cs ∧ cs.size = n * 2 ∧ ∀ j (hj : j < vs.length), cs[j * 2]? = some (.string (tx vs[j].t)) ∧ cs[j * 2 + 1]? = some (.slice vs[j].A vs[j].n vs[j].c)
theorem VerAt.below {w w' : World} {g n : Nat} {vs : List Vn} (h : VerAt w g n vs) (hb : Below w.heap.size w w') : VerAt w' g n vs := by
  obtain ⟨cs, h1, h2⟩ := h
  exact ⟨cs, h1.below hb, h2⟩
theorem VerAt.lt {w : World} {g n : Nat} {vs : List Vn} (h : VerAt w g n vs) : g < w.heap.size := by
  obtain ⟨cs, h1, h2⟩ := h
  exact h1.lt
theorem VerAt.room {w : World} {g n : Nat} {vs : List Vn} (h : VerAt w g n vs) (i : Nat) (hi : i < n * 2) : ∃ z, w.cell? ⟨g, i, none⟩ = some z ∧ w.frozen? ⟨g, i, none⟩ = false := by
  obtain ⟨cs, h1, h2, _⟩ := h
  exact ⟨cs[i]'(by omega), by rw [h1.cell, Array.getElem?_eq_getElem (by omega)], h1.frozen i⟩
theorem VerAt.put {w : World} {g n : Nat} {vs : List Vn} (h : VerAt w g n vs) (v : Vn) (i : Nat) (hi : i = vs.length) (hn : i < n) : VerAt ((w.setCell ⟨g, i * 2, none⟩ (.string (tx v.t))).setCell ⟨g, i * 2 + 1, none⟩ (.slice v.A v.n v.c)) g n (vs ++ [v]) := by
  obtain ⟨cs, h1, h2, h3⟩ := h
  refine ⟨_, (h1.set _ _).set _ _, by simp [h2], fun j hj => ?_⟩
  simp only [Array.getElem?_setIfInBounds]
  by_cases hji : j = i
  · subst hji
    have e : (vs ++ [v])[j] = v := by simp [hi]
    rw [e]
    refine ⟨?_, ?_⟩
    · rw [if_neg (by omega), if_pos rfl, if_pos (by omega)]
    · rw [if_pos rfl, if_pos (by simp; omega)]
  · have hlt : j < vs.length := by simp at hj; omega
    have e : (vs ++ [v])[j] = vs[j] := List.getElem_append_left hlt
    rw [e, if_neg (by omega), if_neg (by omega), if_neg (by omega), if_neg (by omega)]
    exact h3 j hlt
theorem info_vn : (Tryd.prog.info? 46).map (fun i => (i.zero, i.size, i.bytes)) = some (some (.agg #[.string ⟨#[]⟩, .slice none 0 0]), 2, 40) := by kernel_rfl
theorem info_st : (Tryd.prog.info? 9).map (fun i => (i.zero, i.size, i.bytes)) = some (some (.string ⟨#[]⟩), 1, 16) := by kernel_rfl
theorem make_vn (w : World) (n : Nat) (hn : n ≤ 1000000) : (Instr.makeSlice 56 (.int .i64 (n : Int)) (.int .i64 (n : Int))).run Tryd.prog w = .ok (.slice (some ⟨w.heap.size, 0, none⟩) n n) (w.alloc (.cells (madeCells #[.string ⟨#[]⟩, .slice none 0 0] (n * 2)) 46)) := by
  obtain ⟨i, h1, h2, h3, h4⟩ := info_parts2 info_vn
  have := run_make w 56 46 i _ Tryd.underlying56 h1 h2 .i64 .i64 n n (by omega) (by omega) (by rw [h4]; omega) (by omega)
  rw [h3] at this
  exact this
theorem make_st (w : World) (n : Nat) (hn : n ≤ 1000000) : (Instr.makeSlice 23 (.int .i64 (n : Int)) (.int .i64 (n : Int))).run Tryd.prog w = .ok (.slice (some ⟨w.heap.size, 0, none⟩) n n) (w.alloc (.cells (madeCells #[.string ⟨#[]⟩] n) 9)) := by
  obtain ⟨i, h1, h2, h3, h4⟩ := info_parts2 info_st
  have := run_make w 23 9 i _ Tryd.underlying23 h1 h2 .i64 .i64 n n (by omega) (by omega) (by rw [h4]; omega) (by omega)
  rw [h3, Nat.mul_one] at this
  exact this
theorem VerAt.made (w : World) (n : Nat) : VerAt (w.alloc (.cells (madeCells #[.string ⟨#[]⟩, .slice none 0 0] (n * 2)) 46)) w.heap.size n [] := ⟨_, Blk.new w _ _, size_madeCells _ _, fun j hj => by simp at hj⟩

set_option maxRecDepth 100000 in
set_option maxHeartbeats 2000000 in
theorem newVersions_c (A : Option Addr) (n c : Nat) (l : List (List UInt8)) (w : World) (h : StrR w.heap.size w A n l) (hn : n ≤ 1000) (hl : ∀ x ∈ l, x.length ≤ 1000) :
    Calls Tryd.prog 35 #[.slice A n c] w fun e w' => e = .returned (.slice (some ⟨w.heap.size, 0, none⟩) n n) ∧ ∃ vs : List Vn, vs.map Vn.t = l ∧ VerAt w' w.heap.size n vs ∧ (∀ v ∈ vs, VnOk (w.heap.size + 1) w' v) ∧ Below w.heap.size w w' := by
  have HMK := Lib.hid (make_vn w n (by omega))
  have hmk := HMK.out
  have H := Lib.hid h
  have HL := Lib.hid hl
  have B0 : Hid (Below w.heap.size w (w.alloc (.cells (madeCells #[.string ⟨#[]⟩, .slice none 0 0] (n * 2)) 46))) := Lib.hid ((Below.refl _ _).alloc (Nat.le_refl _) _)
  have V0 := Lib.hid (VerAt.made w n)
  clear h hl HMK
  go_enter Tryd.func35, Tryd.ntmps35
  go_wp2_with fail
  refine wp_scope_again 0 (fun a' w' => ∃ (i : Nat) (u5 u6 u7 u8 u9 u10 u11 u12 u13 u14 u15 u16 u17 u18 u19 u20 u21 u22 : Value), a' = { tmps := #[.slice A n c, undef, .slice none 0 0, .slice (some ⟨w.heap.size, 0, none⟩) n n, .int .i64 i, u5, u6, u7, u8, u9, u10, u11, u12, u13, u14, u15, u16, u17, u18, u19, u20, u21, u22], defers := [] } ∧ i ≤ n ∧ Hid (∃ vs : List Vn, vs.map Vn.t = l.take i ∧ vs.length = i ∧ VerAt w' w.heap.size n vs ∧ (∀ v ∈ vs, VnOk (w.heap.size + 1) w' v) ∧ Below w.heap.size w w')) (fun a' _ => n - (intOf (a'.tmps.getD 4 undef)).toNat) rfl ?_ ?_
  · rintro a' w' ⟨i, u5, u6, u7, u8, u9, u10, u11, u12, u13, u14, u15, u16, u17, u18, u19, u20, u21, u22, rfl, hi, hh⟩
    by_cases hend : i = n
    · subst hend
      have hfin : Hid (∃ vs : List Vn, vs.map Vn.t = l ∧ VerAt w' w.heap.size i vs ∧ (∀ v ∈ vs, VnOk (w.heap.size + 1) w' v) ∧ Below w.heap.size w w') := Lib.hid (by
        obtain ⟨vs, h1, h2, h3⟩ := hh.out
        exact ⟨vs, by rw [h1, List.take_of_length_le (by have := H.out.1; omega)], h3⟩)
      clear hh
      go_wp2_with fail
      simp only [Exit.jump]
      go_ret
      exact ⟨rfl, hfin.out⟩
    · have hlt : i < n := by omega
      have hil : i < l.length := by have := H.out.1; omega
      obtain ⟨g, o, rfl, hg, hc⟩ := H.out.2 i hil
      obtain ⟨vs, h1, h2, h3, h4, h5⟩ := hh.out
      obtain ⟨x, hx⟩ : ∃ x, l[i] = x := ⟨_, rfl⟩
      rw [hx] at hc
      have hc' : w'.cell? ⟨g, o + i, none⟩ = some (.string (tx x)) := (h5.cell (p := ⟨g, o + i, none⟩) hg).trans hc
      have hxs : (tx x).size ≤ 1000 := by rw [tx_size, ← hx]; exact HL.out _ (List.getElem_mem hil)
      have htk : l.take (i + 1) = l.take i ++ [x] := by rw [← List.take_append_getElem hil, hx]
      have HT := Lib.hid htk
      have HV := Lib.hid (show vs.map Vn.t = l.take i ∧ vs.length = i ∧ VerAt w' w.heap.size n vs ∧ (∀ v ∈ vs, VnOk (w.heap.size + 1) w' v) ∧ Below w.heap.size w w' from ⟨h1, h2, h3, h4, h5⟩)
      have hne : ((i : Int) == (n : Int)) = false := by rw [beq_eq_false_iff_ne]; omega
      clear hh hc hx h1 h2 h3 h4 h5 htk hend hil hg
      go_wp2_with fail
      refine (newVersion_w (tx x) _ hxs).mono ?_
      rintro e w1 ⟨A1, m1, c1, rfl, hr, hb1⟩
      obtain ⟨z0, q0, f0⟩ := (HV.out.2.2.1.below hb1.out).room (i * 2) (by omega)
      obtain ⟨z1, q1, f1⟩ := (HV.out.2.2.1.below hb1.out).room (i * 2 + 1) (by omega)
      have hz : ¬ i * 2 + 1 = i * 2 := by omega
      have HN : Hid (∃ vs : List Vn, vs.map Vn.t = l.take (i + 1) ∧ vs.length = i + 1 ∧ VerAt ((w1.setCell ⟨w.heap.size, i * 2, none⟩ (.string (tx x))).setCell ⟨w.heap.size, i * 2 + 1, none⟩ (.slice A1 m1 c1)) w.heap.size n vs ∧ (∀ v ∈ vs, VnOk (w.heap.size + 1) ((w1.setCell ⟨w.heap.size, i * 2, none⟩ (.string (tx x))).setCell ⟨w.heap.size, i * 2 + 1, none⟩ (.slice A1 m1 c1)) v) ∧ Below w.heap.size w ((w1.setCell ⟨w.heap.size, i * 2, none⟩ (.string (tx x))).setCell ⟨w.heap.size, i * 2 + 1, none⟩ (.slice A1 m1 c1))) := Lib.hid (by
        obtain ⟨h1, h2, h3, h4, h5⟩ := HV.out
        refine ⟨vs ++ [⟨x, A1, m1, c1⟩], by rw [List.map_append, h1, HT.out]; rfl, by simp [h2], (h3.below hb1.out).put ⟨x, A1, m1, c1⟩ i h2.symm hlt, ?_, ((h5.trans (hb1.out.mono h5.size)).setCell (Nat.le_refl _) _).setCell (Nat.le_refl _) _⟩
        intro v hv
        refine VnOk.low (VnOk.low ?_ (Nat.lt_succ_self _) _ _) (Nat.lt_succ_self _) _ _
        rcases List.mem_append.1 hv with hv | hv
        · exact (h4 v hv).below hb1.out
        · obtain rfl := List.mem_singleton.1 hv
          exact ⟨by rw [← tx_size]; exact hxs, wdrow_mono hr.out (by have := h3.lt; omega)⟩)
      clear HV HT hr hb1
      go_wp2_with fail
      go_step3
      refine ⟨rfl, ⟨i + 1, _, _, _, _, _, _, _, _, _, _, _, _, _, _, _, _, _, _, rfl, by omega, HN⟩, ?_⟩
      simp [intOf]
      omega
  · intro hpass
    go_wp2_with fail
    go_step3
    rename_i hK
    exact hK _ _ (hpass.out _ _ ⟨0, _, _, _, _, _, _, _, _, _, _, _, _, _, _, _, _, _, _, rfl, by omega, Lib.hid ⟨[], by simp, rfl, V0.out, fun v hv => by simp at hv, B0.out⟩⟩)

set_option maxRecDepth 100000 in
set_option maxHeartbeats 2000000 in
theorem texts_c (g n c : Nat) (ts : List (List UInt8)) (w : World) (hg : g < w.heap.size) (hts : n = ts.length) (h : ∀ j (hj : j < ts.length), w.cell? ⟨g, j * 2, none⟩ = some (.string (tx ts[j]))) (hn : n ≤ 1000) :
    Calls Tryd.prog 37 #[.slice (some ⟨g, 0, none⟩) n c] w fun e w' => e = .returned (.slice (some ⟨w.heap.size, 0, none⟩) n n) ∧ StrR w'.heap.size w' (some ⟨w.heap.size, 0, none⟩) n ts ∧ Below w.heap.size w w' := by
  have HMK := Lib.hid (make_st w n (by omega))
  have hmk := HMK.out
  have H := Lib.hid h
  have HL := Lib.hid hts
  have B0 : Hid (Below w.heap.size w (w.alloc (.cells (madeCells #[.string ⟨#[]⟩] n) 9))) := Lib.hid ((Below.refl _ _).alloc (Nat.le_refl _) _)
  have V0 : Hid (Blk (w.alloc (.cells (madeCells #[.string ⟨#[]⟩] n) 9)) w.heap.size 9 (madeCells #[.string ⟨#[]⟩] n)) := Lib.hid (Blk.new w _ _)
  clear h hts HMK
  go_enter Tryd.func37, Tryd.ntmps37
  go_wp2_with fail
  refine wp_scope_again 0 (fun a' w' => ∃ (i : Nat) (u5 u6 u7 u8 u9 u10 u11 u12 u13 u14 u15 u16 u17 u18 u19 u20 u21 u22 : Value), a' = { tmps := #[.slice (some ⟨g, 0, none⟩) n c, undef, .slice none 0 0, .slice (some ⟨w.heap.size, 0, none⟩) n n, .int .i64 i, u5, u6, u7, u8, u9, u10, u11, u12, u13, u14, u15, u16, u17, u18, u19, u20, u21, u22], defers := [] } ∧ i ≤ n ∧ Hid (∃ cs : Array Value, Blk w' w.heap.size 9 cs ∧ cs.size = n ∧ (∀ j (hj : j < ts.length), j < i → cs[j]? = some (.string (tx ts[j]))) ∧ Below w.heap.size w w')) (fun a' _ => n - (intOf (a'.tmps.getD 4 undef)).toNat) rfl ?_ ?_
  · rintro a' w' ⟨i, u5, u6, u7, u8, u9, u10, u11, u12, u13, u14, u15, u16, u17, u18, u19, u20, u21, u22, rfl, hi, hh⟩
    by_cases hend : i = n
    · subst hend
      have hfin : Hid (StrR w'.heap.size w' (some ⟨w.heap.size, 0, none⟩) i ts ∧ Below w.heap.size w w') := Lib.hid (by
        obtain ⟨cs, h1, h2, h3, h4⟩ := hh.out
        refine ⟨⟨HL.out, fun j hj => ⟨w.heap.size, 0, rfl, h1.lt, ?_⟩⟩, h4⟩
        rw [h1.cell, Nat.zero_add]
        exact h3 j hj (by have := HL.out; omega))
      clear hh
      go_wp2_with fail
      simp only [Exit.jump]
      go_ret
      exact ⟨rfl, hfin.out⟩
    · have hlt : i < n := by omega
      have hil : i < ts.length := by have := HL.out; omega
      have hc := H.out i hil
      obtain ⟨cs, h1, h2, h3, h4⟩ := hh.out
      obtain ⟨x, hx⟩ : ∃ x, ts[i] = x := ⟨_, rfl⟩
      rw [hx] at hc
      have hc' : w'.cell? ⟨g, i * 2, none⟩ = some (.string (tx x)) := (h4.cell (p := ⟨g, i * 2, none⟩) hg).trans hc
      have q0 : w'.cell? ⟨w.heap.size, i, none⟩ = some (cs[i]'(by omega)) := by rw [h1.cell, Array.getElem?_eq_getElem (by omega)]
      have f0 := h1.frozen i
      have HN : Hid (∃ cs : Array Value, Blk (w'.setCell ⟨w.heap.size, i, none⟩ (.string (tx x))) w.heap.size 9 cs ∧ cs.size = n ∧ (∀ j (hj : j < ts.length), j < i + 1 → cs[j]? = some (.string (tx ts[j]))) ∧ Below w.heap.size w (w'.setCell ⟨w.heap.size, i, none⟩ (.string (tx x)))) := Lib.hid (by
        refine ⟨_, h1.set i _, by simp [h2], fun j hj hji => ?_, h4.setCell (Nat.le_refl _) _⟩
        rw [Array.getElem?_setIfInBounds]
        by_cases e : i = j
        · subst e
          rw [if_pos rfl, if_pos (by omega), hx]
        · rw [if_neg e]
          exact h3 j hj (by omega))
      generalize cs[i]'(by omega) = z0 at q0
      have hne : ((i : Int) == (n : Int)) = false := by rw [beq_eq_false_iff_ne]; omega
      clear hh hc hx h1 h2 h3 h4 hend hil
      go_wp2_with fail
      go_step3
      refine ⟨rfl, ⟨i + 1, _, _, _, _, _, _, _, _, _, _, _, _, _, _, _, _, _, _, rfl, by omega, HN⟩, ?_⟩
      simp [intOf]
      omega
  · intro hpass
    go_wp2_with fail
    go_step3
    rename_i hK
    exact hK _ _ (hpass.out _ _ ⟨0, _, _, _, _, _, _, _, _, _, _, _, _, _, _, _, _, _, _, rfl, by omega, Lib.hid ⟨_, V0.out, size_madeCells _ _, fun j _ hj => by omega, B0.out⟩⟩)
end Go.Proofs.YtkknhkfpabcjoaaDoor
