/-
  The contract of order.Greatest.
-/
import Derived.Test.YtjmjklmndokdiaaDoorBe
import Derived.Deep.RegionWith
namespace Go.Proofs.YtjmjklmndokdiaaDoor
open Nwl
open Go.RowKit Go.Maps
set_option linter.unusedVariables false

/-- a version that may be read, and that does not lie in block b -/
def VnR (w : World) (b : Nat) (v : Vn) : Prop := v.t.length ≤ 1000 ∧ v.n = (splitW v.t).length ∧ ∀ j (hj : j < (splitW v.t).length), ∃ g, v.A = some ⟨g, 0, none⟩ ∧ g ≠ b ∧ g < w.heap.size ∧ w.cell? ⟨g, j * 2, none⟩ = some (.int .i64 ((splitW v.t)[j].k : Nat)) ∧ w.cell? ⟨g, j * 2 + 1, none⟩ = some (.string (tx (splitW v.t)[j].t))
theorem VnR.below {w w' : World} {b : Nat} {v : Vn} (h : VnR w b v) (hb : Below w.heap.size w w') : VnR w' b v := by
  refine ⟨h.1, h.2.1, fun j hj => ?_⟩
  obtain ⟨g, e1, e2, e3, e4, e5⟩ := h.2.2 j hj
  exact ⟨g, e1, e2, Nat.lt_of_lt_of_le e3 hb.size, (hb.cell (p := ⟨g, j * 2, none⟩) e3).trans e4, (hb.cell (p := ⟨g, j * 2 + 1, none⟩) e3).trans e5⟩
theorem VnR.set {w : World} {b : Nat} {v : Vn} (h : VnR w b v) (i : Nat) (u : Value) : VnR (w.setCell ⟨b, i, none⟩ u) b v := by
  refine ⟨h.1, h.2.1, fun j hj => ?_⟩
  obtain ⟨g, e1, e2, e3, e4, e5⟩ := h.2.2 j hj
  refine ⟨g, e1, e2, by simpa [World.setCell] using e3, ?_, ?_⟩
  · refine (World.cell?_setCell_other _ _ _ _ ?_).trans e4
    intro e; injection e with e _; exact e2 e.symm
  · refine (World.cell?_setCell_other _ _ _ _ ?_).trans e5
    intro e; injection e with e _; exact e2 e.symm
theorem VnR.z {w : World} {b : Nat} {v : Vn} (h : VnR w b v) : WzR w.heap.size w v.A v.n (spZ v.t) := by
  have hr : WdR w.heap.size w v.A v.n (splitW v.t) := by
    refine ⟨h.2.1, fun j hj => ?_⟩
    obtain ⟨g, e1, e2, e3, e4, e5⟩ := h.2.2 j hj
    exact ⟨g, e1, e3, e4, e5⟩
  exact hr.z
theorem VnR.small {w : World} {b : Nat} {v : Vn} (h : VnR w b v) : v.n ≤ 1000000 := by
  have h1 := h.2.1
  have h2 := splitW_le v.t
  have h3 := h.1
  omega
theorem VnR.short {w : World} {b : Nat} {v : Vn} (h : VnR w b v) : ShortW (spZ v.t) := spZ_short _ (by have := h.1; omega)
theorem VnR.of {B : Nat} {w : World} {b m c : Nat} {A : Option Addr} {t : List UInt8} (ht : t.length ≤ 1000) (h : WdRow B w A m c (splitW t)) (hb : b < B ∨ w.heap.size ≤ b) : VnR w b ⟨t, A, m, c⟩ := by
  refine ⟨ht, h.1, fun j hj => ?_⟩
  rcases h.cells with ⟨_, _, e, _⟩ | ⟨g, hA, hg, hgw, _, _, hcell⟩
  · have hj' : j < (splitW t).length := hj
    rw [e] at hj'; simp at hj'
  · obtain ⟨c0, c1⟩ := hcell j hj
    exact ⟨g, hA, by omega, hgw, c0, c1⟩
/-- the best one of them, in its box -/
def GrB (w0 w : World) (b : Nat) (v : Vn) : Prop := Blk w b 40 #[.string (tx v.t), .slice v.A v.n v.c] ∧ VnR w b v ∧ w0.heap.size ≤ b ∧ Below w0.heap.size w0 w
theorem GrB.below {w0 w w' : World} {b : Nat} {v : Vn} (h : GrB w0 w b v) (hb : Below w.heap.size w w') : GrB w0 w' b v := ⟨h.1.below hb, h.2.1.below hb, h.2.2.1, h.2.2.2.trans (hb.mono h.2.2.2.size)⟩
theorem GrB.put {w0 w : World} {b : Nat} {v u : Vn} (h : GrB w0 w b v) (hu : VnR w b u) : GrB w0 ((w.setCell ⟨b, 0, none⟩ (.string (tx u.t))).setCell ⟨b, 1, none⟩ (.slice u.A u.n u.c)) b u := by
  refine ⟨((h.1.set 0 _).set 1 _), (hu.set 0 _).set 1 _, h.2.2.1, ((h.2.2.2.setCell h.2.2.1 _).setCell h.2.2.1 _)⟩
theorem GrB.rd {w0 w : World} {b : Nat} {v : Vn} (h : Hid (GrB w0 w b v)) : w.cell? ⟨b, 0, none⟩ = some (.string (tx v.t)) ∧ w.cell? ⟨b, 1, none⟩ = some (.slice v.A v.n v.c) ∧ w.frozen? ⟨b, 0, none⟩ = false ∧ w.frozen? ⟨b, 1, none⟩ = false := ⟨h.out.1.cell 0, h.out.1.cell 1, h.out.1.frozen 0, h.out.1.frozen 1⟩
theorem below_box (w : World) (t : TypeId) (x y : Value) : Below w.heap.size w (w.alloc (.cells #[x, y] t)) := (Below.refl _ w).alloc (Nat.le_refl _) _

set_option maxRecDepth 100000 in
set_option maxHeartbeats 4000000 in
theorem Greatest_c (A : Option Addr) (n c : Nat) (y : List UInt8) (l : List (List UInt8)) (w : World) (h : StrR w.heap.size w A n (y :: l)) (hn : n ≤ 1000) (hl : ∀ x ∈ y :: l, x.length ≤ 1000) (F : List UInt8) (hF : greatV y l = F) :
    Calls Tryd.prog 8 #[.slice A n c] w fun e w' => e = .returned (.tuple #[.string (tx F), .bool true]) ∧ Hid (Below w.heap.size w w') := by
  have H := Lib.hid h
  have HL := Lib.hid hl
  have HF := Lib.hid hF
  have HLEN : Hid (n = l.length + 1) := Lib.hid (by have := h.1; simpa using this)
  obtain ⟨g, o, rfl, hg, hc⟩ := h.2 0 (by simp)
  have hc0 : w.cell? ⟨g, o, none⟩ = some (.string (tx y)) := hc
  have hys : (tx y).size ≤ 1000 := by rw [tx_size]; exact hl y List.mem_cons_self
  have hbs : bs (tx y) = y := bs_tx y
  have hn0 : ¬ (n : Int) = 0 := by have := HLEN.out; omega
  have hne0 : ((n : Int) == 0) = false := by rw [beq_eq_false_iff_ne]; exact hn0
  have hp : 0 < n := by have := HLEN.out; omega
  clear h hl hF hc
  go_enter Tryd.func8, Tryd.ntmps8
  go_wp2_with fail
  refine wp_scope_again 0 (fun a' w' => ∃ (i b : Nat) (v : Vn) (u6 u7 u8 u9 u10 u11 u12 u13 u14 u15 u16 u17 u18 u19 u20 u21 u22 u23 u24 u25 u26 u27 u28 u29 u30 u31 : Value), a' = { tmps := #[.slice (some ⟨g, o, none⟩) n c, undef, .string ⟨#[]⟩, .bool false, .pointer (some ⟨b, 0, none⟩), .int .i64 i, u6, u7, u8, u9, u10, u11, u12, u13, u14, u15, u16, u17, u18, u19, u20, u21, u22, u23, u24, u25, u26, u27, u28, u29, u30, u31], defers := [] } ∧ 1 ≤ i ∧ i ≤ n ∧ Hid (GrB w w' b v ∧ v.t = greatV y (l.take (i - 1)))) (fun a' _ => n - (intOf (a'.tmps.getD 5 undef)).toNat) rfl ?_ ?_
  · rintro a' w' ⟨i, b, v, u6, u7, u8, u9, u10, u11, u12, u13, u14, u15, u16, u17, u18, u19, u20, u21, u22, u23, u24, u25, u26, u27, u28, u29, u30, u31, rfl, hi1, hi, hh⟩
    obtain ⟨k0, k1, f0, f1⟩ := GrB.rd (Lib.hid hh.out.1)
    by_cases hend : i = n
    · subst hend
      have hfin : Hid (v.t = F ∧ Below w.heap.size w w') := Lib.hid ⟨by rw [hh.out.2, ← HF.out, List.take_of_length_le (by have := HLEN.out; omega)], hh.out.1.2.2.2⟩
      clear hh
      go_wp2_with fail
      simp only [Exit.jump]
      go_ret2
      exact ⟨by rw [hfin.out.1]; rfl, Lib.hid hfin.out.2⟩
    · have hlt : i < n := by omega
      have hil : i < (y :: l).length := by have := HLEN.out; simp; omega
      obtain ⟨g', o', hA, hg', hc⟩ := H.out.2 i hil
      injection hA with hA
      injection hA with hA1 hA2
      subst hA1 hA2
      obtain ⟨x, hx⟩ : ∃ x, (y :: l)[i] = x := ⟨_, rfl⟩
      rw [hx] at hc
      have hc' : w'.cell? ⟨g, o + i, none⟩ = some (.string (tx x)) := (hh.out.1.2.2.2.cell (p := ⟨g, o + i, none⟩) hg).trans hc
      have hxs : (tx x).size ≤ 1000 := by rw [tx_size, ← hx]; exact HL.out _ (List.getElem_mem hil)
      have hxb : bs (tx x) = x := bs_tx x
      have htk : greatV y (l.take i) = bestV v.t x := by
        have e : l.take i = l.take (i - 1) ++ [x] := by
          have h1 : i - 1 < l.length := by simp at hil; omega
          have h2 : l[i - 1] = x := by rw [← hx, List.getElem_cons]; simp; omega
          rw [← h2, List.take_append_getElem h1]
          congr 1; omega
        rw [e, hh.out.2]
        unfold greatV
        rw [List.foldl_append]; rfl
      have HT := Lib.hid htk
      have HG := Lib.hid hh.out.1
      have hne : ((i : Int) == (n : Int)) = false := by rw [beq_eq_false_iff_ne]; omega
      clear hh hc hx htk hend hil hg'
      go_wp2_with fail
      refine (newVersion_w (tx x) _ hxs).mono ?_
      rintro e w1 ⟨A1, m1, c1, rfl, hr, hb1⟩
      rw [hxb] at hr
      have G1 := HG.out.below hb1.out
      have hbw : b < w'.heap.size := HG.out.1.lt
      have hbw1 : b < w1.heap.size := G1.1.lt
      have V1 : VnR w1 b ⟨x, A1, m1, c1⟩ := VnR.of (by rw [← tx_size]; exact hxs) hr.out (.inl (by omega))
      have G2 := Lib.hid (G1.below (below_box w1 40 (.string (tx x)) (.slice A1 m1 c1)))
      have V2 := Lib.hid (V1.below (below_box w1 40 (.string (tx x)) (.slice A1 m1 c1)))
      obtain ⟨p0, p1, r0, r1⟩ := GrB.rd (Lib.hid G1)
      have hb2 : ¬ b = w1.heap.size := by omega
      have hb3 : ¬ w1.heap.size = b := by omega
      have X2 := Lib.hid (Blk.new w1 40 #[.string (tx x), .slice A1 m1 c1])
      have hbw2 : b ≠ w1.heap.size := by omega
      clear hr hb1 HG G1 V1 k0 k1 f0 f1 hc'
      go_wp2_with fail
      refine (compareVersion_c x v.t A1 v.A m1 v.n c1 v.c (spZ x) (spZ v.t) _ _ (Nat.le_refl _) V2.out.z G2.out.2.1.z V2.out.small G2.out.2.1.small V2.out.short G2.out.2.1.short (ordV x v.t) rfl).mono ?_
      rintro e w2 ⟨rfl, hbd⟩
      have G3 := Lib.hid (G2.out.below hbd.1)
      have V3 := Lib.hid (V2.out.below hbd.1)
      have X3 := X2.out.below hbd.1
      have s0 := X3.cell 0
      have s1 := X3.cell 1
      simp only [List.getElem?_toArray, List.getElem?_cons_zero, List.getElem?_cons_succ] at s0 s1
      obtain ⟨t0, t1, y0, y1⟩ := GrB.rd G3
      clear G2 V2 X2 X3 hbd p0 p1 r0 r1
      by_cases hpos : 0 < ordV x v.t
      · have HN : Hid (GrB w ((w2.setCell ⟨b, 0, none⟩ (.string (tx x))).setCell ⟨b, 1, none⟩ (.slice A1 m1 c1)) b ⟨x, A1, m1, c1⟩ ∧ x = greatV y (l.take (i + 1 - 1))) := Lib.hid ⟨GrB.put (u := ⟨x, A1, m1, c1⟩) G3.out V3.out, by rw [Nat.add_sub_cancel, HT.out]; unfold bestV; rw [if_pos hpos]⟩
        clear HT G3 V3
        go_wp2_with fail
        go_step3
        refine ⟨rfl, ⟨i + 1, b, ⟨x, A1, m1, c1⟩, _, _, _, _, _, _, _, _, _, _, _, _, _, _, _, _, _, _, _, _, _, _, _, _, _, _, rfl, by omega, by omega, HN⟩, ?_⟩
        simp [intOf]
        omega
      · have HN : Hid (GrB w w2 b v ∧ v.t = greatV y (l.take (i + 1 - 1))) := Lib.hid ⟨G3.out, by rw [Nat.add_sub_cancel, HT.out]; unfold bestV; rw [if_neg hpos]⟩
        clear HT G3 V3
        go_wp2_with fail
        go_step3
        refine ⟨rfl, ⟨i + 1, b, v, _, _, _, _, _, _, _, _, _, _, _, _, _, _, _, _, _, _, _, _, _, _, _, _, _, _, rfl, by omega, by omega, HN⟩, ?_⟩
        simp [intOf]
        omega
  · intro hpass
    go_wp2_with fail
    refine (newVersion_w (tx y) _ hys).mono ?_
    rintro e w1 ⟨A1, m1, c1, rfl, hr, hb1⟩
    rw [hbs] at hr
    have V1 : VnR w1 w1.heap.size ⟨y, A1, m1, c1⟩ := VnR.of (by rw [← tx_size]; exact hys) hr.out (.inr (Nat.le_refl _))
    have HN : Hid (GrB w (w1.alloc (.cells #[.string (tx y), .slice A1 m1 c1] 40)) w1.heap.size ⟨y, A1, m1, c1⟩ ∧ y = greatV y (l.take (1 - 1))) := Lib.hid ⟨⟨Blk.new w1 _ _, V1.below (below_box w1 _ _ _), hb1.out.size, hb1.out.trans ((below_box w1 _ _ _).mono hb1.out.size)⟩, rfl⟩
    clear hr hb1 V1
    go_wp2_with fail
    go_step3
    rename_i hK
    exact hK _ _ (hpass.out _ _ ⟨1, w1.heap.size, ⟨y, A1, m1, c1⟩, _, _, _, _, _, _, _, _, _, _, _, _, _, _, _, _, _, _, _, _, _, _, _, _, _, _, rfl, by omega, by omega, HN⟩)

set_option maxRecDepth 100000 in
theorem Greatest_none (A : Option Addr) (c : Nat) (w : World) :
    Calls Tryd.prog 8 #[.slice A 0 c] w fun e w' => e = .returned (.tuple #[.string ⟨#[]⟩, .bool false]) ∧ w = w' := by
  go_enter Tryd.func8, Tryd.ntmps8
  go_wp2_with fail
  refine wp_scope_again 0 (fun _ _ => False) (fun _ _ => 0) rfl (fun _ _ h => h.elim) ?_
  intro hpass
  go_wp2_with fail
  simp only [Exit.jump]
  go_ret2
  exact ⟨rfl, rfl⟩
end Go.Proofs.YtjmjklmndokdiaaDoor
