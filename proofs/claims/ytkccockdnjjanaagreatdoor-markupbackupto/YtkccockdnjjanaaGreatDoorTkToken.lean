/-
  The contract of one token (layer 2).
-/
import Derived.Test.YtkccockdnjjanaaGreatDoorTkOpen
namespace Go.Proofs.YtkccockdnjjanaaGreatDoor
open Nwl
open Go.RowKit Go.Maps
set_option linter.unusedVariables false

theorem row_mono {w : World} {base base' : Nat} {e : TypeId} {size n : Nat} {v : Value} {xs : List Value} (h : w.ownsRow base e size v n xs) (hb : base' ≤ base) : w.ownsRow base' e size v n xs := by
  refine ⟨h.1, ?_⟩
  rcases h.2 with h0 | ⟨g, cap, cur, h1, h2, h3⟩
  · exact .inl h0
  · exact .inr ⟨g, cap, cur, h1, Nat.le_trans hb h2, h3⟩
theorem opening_c (g : Nat) (r : List UInt8) (w : World) (hk : Wk g r w) (hg : Glob w) (hr : r.length ≤ 100000) :
    Calls Tryz.prog 71 #[.pointer (some ⟨g, 0, none⟩)] w (TokPost (openL r) g w) := by
  by_cases h : (nameP r).1 = []
  · exact opening_empty g r w hk hr h
  · exact opening_some g r w hk hg hr h
theorem tokPost_more {o : Option (Tok × List UInt8)} {g l c : Nat} {A : Option Addr} {t : Tok} {rest : List UInt8} {w : World} {e : Ending} {w' : World} (h : o = some (t, rest)) (h1 : e = .returned (.tuple #[.agg #[.int .i64 (t.kind : Int), .string (tx t.name), .string (tx t.text), .slice A l c, .bool t.empty], .bool true]))
    (hr : w'.ownsRow w.heap.size 61 2 (.slice A l c) t.attrs.length (attrCells t.attrs)) (h2 : Wk g rest w') (h3 : w.grownBy w' (some g)) : TokPost o g w e w' := by
  unfold TokPost; rw [h]; exact ⟨A, l, c, h1, hr, h2, h3⟩

set_option maxRecDepth 100000 in
set_option maxHeartbeats 2000000 in
theorem token_comment (g : Nat) (r : List UInt8) (first : Bool) (w : World) (hk : Wk g r w) (hg : Glob w) (hr : r.length ≤ 100000) (h0 : Lib.hasPrefix r [60, 33, 45, 45] = true) :
    Calls Tryz.prog 45 #[.pointer (some ⟨g, 0, none⟩), .bool first] w (TokPost (tokL first r) g w) := by
  have htk : tokL first r = commentL (r.drop 4) := by unfold tokL; rw [if_pos h0]
  have hlt := hk.lt
  have hgne : g ≠ w.heap.size := by omega
  have HK := Lib.hid (hk.alloc (.cells #[.int .i64 0, .string ⟨#[]⟩, .string ⟨#[]⟩, .slice none 0 0, .bool false] 53))
  have HG := Lib.hid (hg.alloc (.cells #[.int .i64 0, .string ⟨#[]⟩, .string ⟨#[]⟩, .slice none 0 0, .bool false] 53))
  have HB0 := Lib.hid (Blk.new w 53 #[.int .i64 0, .string ⟨#[]⟩, .string ⟨#[]⟩, .slice none 0 0, .bool false])
  clear hk hg
  have H0 := Lib.hid h0
  clear h0
  have hdl : (r.drop 4).length ≤ 100000 := by rw [List.length_drop]; omega
  cases ho : commentL (r.drop 4) with
  | none =>
    have HN : Hid (tokL first r = none) := Lib.hid (by rw [htk, ho])
    have HO := Lib.hid ho
    clear htk ho
    go_enter Tryz.func45, Tryz.ntmps45
    have HK0 := HK
    have HG0 := HG
    have HB00 := HB0
    have HGR0 : Hid (w.grownBy (w.alloc (.cells #[.int .i64 0, .string ⟨#[]⟩, .string ⟨#[]⟩, .slice none 0 0, .bool false] 53)) (some g)) := Lib.hid (World.grownBy_alloc _ _ _)
    go_wp2_with fail
    refine (skip_yes g _ _ _ HK0.out H0.out).mono ?_
    rintro e w1 ⟨rfl, hk1, hg1⟩
    have HK1 : Hid (Wk g (r.drop 4) w1) := Lib.hid hk1
    have HG1 := Lib.hid (HG0.out.grown HK0.out hg1)
    have HB01 := Lib.hid (HB00.out.grown hg1 (by simp; omega))
    have HGR1 := Lib.hid (HGR0.out.trans hg1)
    clear hk1 hg1
    go_wp2_with fail
    refine (comment_c g _ _ HK1.out HG1.out hdl).mono ?_
    intro e w8 hp8
    unfold TokPost at hp8
    rw [HO.out] at hp8
    obtain ⟨rfl, ⟨r8, hk8⟩, hg8⟩ := hp8
    have HK8 := Lib.hid hk8
    have HB8 := Lib.hid (HB01.out.grown hg8 (by simp; omega))
    have HGR8 := Lib.hid (HGR1.out.trans hg8)
    clear hk8 hg8
    have c0 := (HB8.out).cell 0
    have c1 := (HB8.out).cell 1
    have c2 := (HB8.out).cell 2
    have c3 := (HB8.out).cell 3
    have c4 := (HB8.out).cell 4
    have f0 := (HB8.out).frozen 0
    have f1 := (HB8.out).frozen 1
    have f2 := (HB8.out).frozen 2
    have f3 := (HB8.out).frozen 3
    have f4 := (HB8.out).frozen 4
    go_wp2_with fail
    have HF := (((((HB8.out).set 0 (.int .i64 0)).set 1 (.string ⟨#[]⟩)).set 2 (.string ⟨#[]⟩)).set 3 (.slice none 0 0)).set 4 (.bool false)
    have d0 := HF.cell 0
    have d1 := HF.cell 1
    have d2 := HF.cell 2
    have d3 := HF.cell 3
    have d4 := HF.cell 4
    exact bodyPost_ret (v := .tuple #[.agg #[.int .i64 0, .string ⟨#[]⟩, .string ⟨#[]⟩, .slice none 0 0, .bool false], .bool false]) (by simp [results, Tryz.results45, go_sem, d0, d1, d2, d3, d4]) rfl (tokPost_none HN.out rfl (HK8.out.set5 hgne _ _ _ _ _) (HGR8.out.set5 (Nat.le_refl _) _ _ _ _ _))
  | some x =>
    obtain ⟨t, rest⟩ := x
    have HN : Hid (tokL first r = some (t, rest)) := Lib.hid (by rw [htk, ho])
    have HO := Lib.hid ho
    clear htk ho
    go_enter Tryz.func45, Tryz.ntmps45
    have HK0 := HK
    have HG0 := HG
    have HB00 := HB0
    have HGR0 : Hid (w.grownBy (w.alloc (.cells #[.int .i64 0, .string ⟨#[]⟩, .string ⟨#[]⟩, .slice none 0 0, .bool false] 53)) (some g)) := Lib.hid (World.grownBy_alloc _ _ _)
    go_wp2_with fail
    refine (skip_yes g _ _ _ HK0.out H0.out).mono ?_
    rintro e w1 ⟨rfl, hk1, hg1⟩
    have HK1 : Hid (Wk g (r.drop 4) w1) := Lib.hid hk1
    have HG1 := Lib.hid (HG0.out.grown HK0.out hg1)
    have HB01 := Lib.hid (HB00.out.grown hg1 (by simp; omega))
    have HGR1 := Lib.hid (HGR0.out.trans hg1)
    clear hk1 hg1
    go_wp2_with fail
    refine (comment_c g _ _ HK1.out HG1.out hdl).mono ?_
    intro e w8 hp8
    unfold TokPost at hp8
    rw [HO.out] at hp8
    obtain ⟨A, l, c, rfl, hrow8, hk8, hg8⟩ := hp8
    have HK8 := Lib.hid hk8
    have HB8 := Lib.hid (HB01.out.grown hg8 (by simp; omega))
    have HGR8 := Lib.hid (HGR1.out.trans hg8)
    have HR8 := Lib.hid (row_mono hrow8 HGR1.out.size)
    clear hk8 hg8 hrow8
    have c0 := (HB8.out).cell 0
    have c1 := (HB8.out).cell 1
    have c2 := (HB8.out).cell 2
    have c3 := (HB8.out).cell 3
    have c4 := (HB8.out).cell 4
    have f0 := (HB8.out).frozen 0
    have f1 := (HB8.out).frozen 1
    have f2 := (HB8.out).frozen 2
    have f3 := (HB8.out).frozen 3
    have f4 := (HB8.out).frozen 4
    go_wp2_with fail
    have HF := (((((HB8.out).set 0 (.int .i64 (t.kind : Int))).set 1 (.string (tx t.name))).set 2 (.string (tx t.text))).set 3 (.slice A l c)).set 4 (.bool t.empty)
    have d0 := HF.cell 0
    have d1 := HF.cell 1
    have d2 := HF.cell 2
    have d3 := HF.cell 3
    have d4 := HF.cell 4
    exact bodyPost_ret (v := .tuple #[.agg #[.int .i64 (t.kind : Int), .string (tx t.name), .string (tx t.text), .slice A l c, .bool t.empty], .bool true]) (by simp [results, Tryz.results45, go_sem, d0, d1, d2, d3, d4]) rfl (tokPost_more HN.out rfl (row_done HR8.out HB8.out _ _ _ _ _) (HK8.out.set5 hgne _ _ _ _ _) (HGR8.out.set5 (Nat.le_refl _) _ _ _ _ _))

set_option maxRecDepth 100000 in
set_option maxHeartbeats 2000000 in
theorem token_close (g : Nat) (r : List UInt8) (first : Bool) (w : World) (hk : Wk g r w) (hg : Glob w) (hr : r.length ≤ 100000) (h0 : Lib.hasPrefix r [60, 33, 45, 45] = false) (h1 : Lib.hasPrefix r [60, 33, 91, 67, 68, 65, 84, 65, 91] = false) (h2 : Lib.hasPrefix r [60, 63] = false) (h3 : Lib.hasPrefix r [60, 47] = true) :
    Calls Tryz.prog 45 #[.pointer (some ⟨g, 0, none⟩), .bool first] w (TokPost (tokL first r) g w) := by
  have htk : tokL first r = closeL (r.drop 2) := by unfold tokL; rw [if_neg (by rw [h0]; decide), if_neg (by rw [h1]; decide), if_neg (by rw [h2]; decide), if_pos h3]
  have hlt := hk.lt
  have hgne : g ≠ w.heap.size := by omega
  have HK := Lib.hid (hk.alloc (.cells #[.int .i64 0, .string ⟨#[]⟩, .string ⟨#[]⟩, .slice none 0 0, .bool false] 53))
  have HG := Lib.hid (hg.alloc (.cells #[.int .i64 0, .string ⟨#[]⟩, .string ⟨#[]⟩, .slice none 0 0, .bool false] 53))
  have HB0 := Lib.hid (Blk.new w 53 #[.int .i64 0, .string ⟨#[]⟩, .string ⟨#[]⟩, .slice none 0 0, .bool false])
  clear hk hg
  have H0 := Lib.hid h0
  have H1 := Lib.hid h1
  have H2 := Lib.hid h2
  have H3 := Lib.hid h3
  clear h0 h1 h2 h3
  have hdl : (r.drop 2).length ≤ 100000 := by rw [List.length_drop]; omega
  cases ho : closeL (r.drop 2) with
  | none =>
    have HN : Hid (tokL first r = none) := Lib.hid (by rw [htk, ho])
    have HO := Lib.hid ho
    clear htk ho
    go_enter Tryz.func45, Tryz.ntmps45
    have HK0 := HK
    have HG0 := HG
    have HB00 := HB0
    have HGR0 : Hid (w.grownBy (w.alloc (.cells #[.int .i64 0, .string ⟨#[]⟩, .string ⟨#[]⟩, .slice none 0 0, .bool false] 53)) (some g)) := Lib.hid (World.grownBy_alloc _ _ _)
    go_wp2_with fail
    refine (skip_no g _ _ _ HK0.out H0.out).mono ?_
    rintro e w1 ⟨rfl, hk1, hg1⟩
    have HK1 : Hid (Wk g r w1) := Lib.hid hk1
    have HG1 := Lib.hid (HG0.out.grown HK0.out hg1)
    have HB01 := Lib.hid (HB00.out.grown hg1 (by simp; omega))
    have HGR1 := Lib.hid (HGR0.out.trans hg1)
    clear hk1 hg1
    go_wp2_with fail
    refine (skip_no g _ _ _ HK1.out H1.out).mono ?_
    rintro e w2 ⟨rfl, hk2, hg2⟩
    have HK2 : Hid (Wk g r w2) := Lib.hid hk2
    have HG2 := Lib.hid (HG1.out.grown HK1.out hg2)
    have HB02 := Lib.hid (HB01.out.grown hg2 (by simp; omega))
    have HGR2 := Lib.hid (HGR1.out.trans hg2)
    clear hk2 hg2
    go_wp2_with fail
    refine (skip_no g _ _ _ HK2.out H2.out).mono ?_
    rintro e w3 ⟨rfl, hk3, hg3⟩
    have HK3 : Hid (Wk g r w3) := Lib.hid hk3
    have HG3 := Lib.hid (HG2.out.grown HK2.out hg3)
    have HB03 := Lib.hid (HB02.out.grown hg3 (by simp; omega))
    have HGR3 := Lib.hid (HGR2.out.trans hg3)
    clear hk3 hg3
    go_wp2_with fail
    refine (skip_yes g _ _ _ HK3.out H3.out).mono ?_
    rintro e w4 ⟨rfl, hk4, hg4⟩
    have HK4 : Hid (Wk g (r.drop 2) w4) := Lib.hid hk4
    have HG4 := Lib.hid (HG3.out.grown HK3.out hg4)
    have HB04 := Lib.hid (HB03.out.grown hg4 (by simp; omega))
    have HGR4 := Lib.hid (HGR3.out.trans hg4)
    clear hk4 hg4
    go_wp2_with fail
    refine (closing_c g _ _ HK4.out HG4.out hdl).mono ?_
    intro e w8 hp8
    unfold TokPost at hp8
    rw [HO.out] at hp8
    obtain ⟨rfl, ⟨r8, hk8⟩, hg8⟩ := hp8
    have HK8 := Lib.hid hk8
    have HB8 := Lib.hid (HB04.out.grown hg8 (by simp; omega))
    have HGR8 := Lib.hid (HGR4.out.trans hg8)
    clear hk8 hg8
    have c0 := (HB8.out).cell 0
    have c1 := (HB8.out).cell 1
    have c2 := (HB8.out).cell 2
    have c3 := (HB8.out).cell 3
    have c4 := (HB8.out).cell 4
    have f0 := (HB8.out).frozen 0
    have f1 := (HB8.out).frozen 1
    have f2 := (HB8.out).frozen 2
    have f3 := (HB8.out).frozen 3
    have f4 := (HB8.out).frozen 4
    go_wp2_with fail
    have HF := (((((HB8.out).set 0 (.int .i64 0)).set 1 (.string ⟨#[]⟩)).set 2 (.string ⟨#[]⟩)).set 3 (.slice none 0 0)).set 4 (.bool false)
    have d0 := HF.cell 0
    have d1 := HF.cell 1
    have d2 := HF.cell 2
    have d3 := HF.cell 3
    have d4 := HF.cell 4
    exact bodyPost_ret (v := .tuple #[.agg #[.int .i64 0, .string ⟨#[]⟩, .string ⟨#[]⟩, .slice none 0 0, .bool false], .bool false]) (by simp [results, Tryz.results45, go_sem, d0, d1, d2, d3, d4]) rfl (tokPost_none HN.out rfl (HK8.out.set5 hgne _ _ _ _ _) (HGR8.out.set5 (Nat.le_refl _) _ _ _ _ _))
  | some x =>
    obtain ⟨t, rest⟩ := x
    have HN : Hid (tokL first r = some (t, rest)) := Lib.hid (by rw [htk, ho])
    have HO := Lib.hid ho
    clear htk ho
    go_enter Tryz.func45, Tryz.ntmps45
    have HK0 := HK
    have HG0 := HG
    have HB00 := HB0
    have HGR0 : Hid (w.grownBy (w.alloc (.cells #[.int .i64 0, .string ⟨#[]⟩, .string ⟨#[]⟩, .slice none 0 0, .bool false] 53)) (some g)) := Lib.hid (World.grownBy_alloc _ _ _)
    go_wp2_with fail
    refine (skip_no g _ _ _ HK0.out H0.out).mono ?_
    rintro e w1 ⟨rfl, hk1, hg1⟩
    have HK1 : Hid (Wk g r w1) := Lib.hid hk1
    have HG1 := Lib.hid (HG0.out.grown HK0.out hg1)
    have HB01 := Lib.hid (HB00.out.grown hg1 (by simp; omega))
    have HGR1 := Lib.hid (HGR0.out.trans hg1)
    clear hk1 hg1
    go_wp2_with fail
    refine (skip_no g _ _ _ HK1.out H1.out).mono ?_
    rintro e w2 ⟨rfl, hk2, hg2⟩
    have HK2 : Hid (Wk g r w2) := Lib.hid hk2
    have HG2 := Lib.hid (HG1.out.grown HK1.out hg2)
    have HB02 := Lib.hid (HB01.out.grown hg2 (by simp; omega))
    have HGR2 := Lib.hid (HGR1.out.trans hg2)
    clear hk2 hg2
    go_wp2_with fail
    refine (skip_no g _ _ _ HK2.out H2.out).mono ?_
    rintro e w3 ⟨rfl, hk3, hg3⟩
    have HK3 : Hid (Wk g r w3) := Lib.hid hk3
    have HG3 := Lib.hid (HG2.out.grown HK2.out hg3)
    have HB03 := Lib.hid (HB02.out.grown hg3 (by simp; omega))
    have HGR3 := Lib.hid (HGR2.out.trans hg3)
    clear hk3 hg3
    go_wp2_with fail
    refine (skip_yes g _ _ _ HK3.out H3.out).mono ?_
    rintro e w4 ⟨rfl, hk4, hg4⟩
    have HK4 : Hid (Wk g (r.drop 2) w4) := Lib.hid hk4
    have HG4 := Lib.hid (HG3.out.grown HK3.out hg4)
    have HB04 := Lib.hid (HB03.out.grown hg4 (by simp; omega))
    have HGR4 := Lib.hid (HGR3.out.trans hg4)
    clear hk4 hg4
    go_wp2_with fail
    refine (closing_c g _ _ HK4.out HG4.out hdl).mono ?_
    intro e w8 hp8
    unfold TokPost at hp8
    rw [HO.out] at hp8
    obtain ⟨A, l, c, rfl, hrow8, hk8, hg8⟩ := hp8
    have HK8 := Lib.hid hk8
    have HB8 := Lib.hid (HB04.out.grown hg8 (by simp; omega))
    have HGR8 := Lib.hid (HGR4.out.trans hg8)
    have HR8 := Lib.hid (row_mono hrow8 HGR4.out.size)
    clear hk8 hg8 hrow8
    have c0 := (HB8.out).cell 0
    have c1 := (HB8.out).cell 1
    have c2 := (HB8.out).cell 2
    have c3 := (HB8.out).cell 3
    have c4 := (HB8.out).cell 4
    have f0 := (HB8.out).frozen 0
    have f1 := (HB8.out).frozen 1
    have f2 := (HB8.out).frozen 2
    have f3 := (HB8.out).frozen 3
    have f4 := (HB8.out).frozen 4
    go_wp2_with fail
    have HF := (((((HB8.out).set 0 (.int .i64 (t.kind : Int))).set 1 (.string (tx t.name))).set 2 (.string (tx t.text))).set 3 (.slice A l c)).set 4 (.bool t.empty)
    have d0 := HF.cell 0
    have d1 := HF.cell 1
    have d2 := HF.cell 2
    have d3 := HF.cell 3
    have d4 := HF.cell 4
    exact bodyPost_ret (v := .tuple #[.agg #[.int .i64 (t.kind : Int), .string (tx t.name), .string (tx t.text), .slice A l c, .bool t.empty], .bool true]) (by simp [results, Tryz.results45, go_sem, d0, d1, d2, d3, d4]) rfl (tokPost_more HN.out rfl (row_done HR8.out HB8.out _ _ _ _ _) (HK8.out.set5 hgne _ _ _ _ _) (HGR8.out.set5 (Nat.le_refl _) _ _ _ _ _))

set_option maxRecDepth 100000 in
set_option maxHeartbeats 2000000 in
theorem token_open (g : Nat) (r : List UInt8) (first : Bool) (w : World) (hk : Wk g r w) (hg : Glob w) (hr : r.length ≤ 100000) (h0 : Lib.hasPrefix r [60, 33, 45, 45] = false) (h1 : Lib.hasPrefix r [60, 33, 91, 67, 68, 65, 84, 65, 91] = false) (h2 : Lib.hasPrefix r [60, 63] = false) (h3 : Lib.hasPrefix r [60, 47] = false) (h4 : Lib.hasPrefix r [60] = true) :
    Calls Tryz.prog 45 #[.pointer (some ⟨g, 0, none⟩), .bool first] w (TokPost (tokL first r) g w) := by
  have htk : tokL first r = openL (r.drop 1) := by unfold tokL; rw [if_neg (by rw [h0]; decide), if_neg (by rw [h1]; decide), if_neg (by rw [h2]; decide), if_neg (by rw [h3]; decide), if_pos h4]
  have hlt := hk.lt
  have hgne : g ≠ w.heap.size := by omega
  have HK := Lib.hid (hk.alloc (.cells #[.int .i64 0, .string ⟨#[]⟩, .string ⟨#[]⟩, .slice none 0 0, .bool false] 53))
  have HG := Lib.hid (hg.alloc (.cells #[.int .i64 0, .string ⟨#[]⟩, .string ⟨#[]⟩, .slice none 0 0, .bool false] 53))
  have HB0 := Lib.hid (Blk.new w 53 #[.int .i64 0, .string ⟨#[]⟩, .string ⟨#[]⟩, .slice none 0 0, .bool false])
  clear hk hg
  have H0 := Lib.hid h0
  have H1 := Lib.hid h1
  have H2 := Lib.hid h2
  have H3 := Lib.hid h3
  have H4 := Lib.hid h4
  clear h0 h1 h2 h3 h4
  have hdl : (r.drop 1).length ≤ 100000 := by rw [List.length_drop]; omega
  cases ho : openL (r.drop 1) with
  | none =>
    have HN : Hid (tokL first r = none) := Lib.hid (by rw [htk, ho])
    have HO := Lib.hid ho
    clear htk ho
    go_enter Tryz.func45, Tryz.ntmps45
    have HK0 := HK
    have HG0 := HG
    have HB00 := HB0
    have HGR0 : Hid (w.grownBy (w.alloc (.cells #[.int .i64 0, .string ⟨#[]⟩, .string ⟨#[]⟩, .slice none 0 0, .bool false] 53)) (some g)) := Lib.hid (World.grownBy_alloc _ _ _)
    go_wp2_with fail
    refine (skip_no g _ _ _ HK0.out H0.out).mono ?_
    rintro e w1 ⟨rfl, hk1, hg1⟩
    have HK1 : Hid (Wk g r w1) := Lib.hid hk1
    have HG1 := Lib.hid (HG0.out.grown HK0.out hg1)
    have HB01 := Lib.hid (HB00.out.grown hg1 (by simp; omega))
    have HGR1 := Lib.hid (HGR0.out.trans hg1)
    clear hk1 hg1
    go_wp2_with fail
    refine (skip_no g _ _ _ HK1.out H1.out).mono ?_
    rintro e w2 ⟨rfl, hk2, hg2⟩
    have HK2 : Hid (Wk g r w2) := Lib.hid hk2
    have HG2 := Lib.hid (HG1.out.grown HK1.out hg2)
    have HB02 := Lib.hid (HB01.out.grown hg2 (by simp; omega))
    have HGR2 := Lib.hid (HGR1.out.trans hg2)
    clear hk2 hg2
    go_wp2_with fail
    refine (skip_no g _ _ _ HK2.out H2.out).mono ?_
    rintro e w3 ⟨rfl, hk3, hg3⟩
    have HK3 : Hid (Wk g r w3) := Lib.hid hk3
    have HG3 := Lib.hid (HG2.out.grown HK2.out hg3)
    have HB03 := Lib.hid (HB02.out.grown hg3 (by simp; omega))
    have HGR3 := Lib.hid (HGR2.out.trans hg3)
    clear hk3 hg3
    go_wp2_with fail
    refine (skip_no g _ _ _ HK3.out H3.out).mono ?_
    rintro e w4 ⟨rfl, hk4, hg4⟩
    have HK4 : Hid (Wk g r w4) := Lib.hid hk4
    have HG4 := Lib.hid (HG3.out.grown HK3.out hg4)
    have HB04 := Lib.hid (HB03.out.grown hg4 (by simp; omega))
    have HGR4 := Lib.hid (HGR3.out.trans hg4)
    clear hk4 hg4
    go_wp2_with fail
    refine (skip_yes g _ _ _ HK4.out H4.out).mono ?_
    rintro e w5 ⟨rfl, hk5, hg5⟩
    have HK5 : Hid (Wk g (r.drop 1) w5) := Lib.hid hk5
    have HG5 := Lib.hid (HG4.out.grown HK4.out hg5)
    have HB05 := Lib.hid (HB04.out.grown hg5 (by simp; omega))
    have HGR5 := Lib.hid (HGR4.out.trans hg5)
    clear hk5 hg5
    go_wp2_with fail
    refine (opening_c g _ _ HK5.out HG5.out (by simpa using hdl)).mono ?_
    intro e w8 hp8
    unfold TokPost at hp8
    rw [HO.out] at hp8
    obtain ⟨rfl, ⟨r8, hk8⟩, hg8⟩ := hp8
    have HK8 := Lib.hid hk8
    have HB8 := Lib.hid (HB05.out.grown hg8 (by simp; omega))
    have HGR8 := Lib.hid (HGR5.out.trans hg8)
    clear hk8 hg8
    have c0 := (HB8.out).cell 0
    have c1 := (HB8.out).cell 1
    have c2 := (HB8.out).cell 2
    have c3 := (HB8.out).cell 3
    have c4 := (HB8.out).cell 4
    have f0 := (HB8.out).frozen 0
    have f1 := (HB8.out).frozen 1
    have f2 := (HB8.out).frozen 2
    have f3 := (HB8.out).frozen 3
    have f4 := (HB8.out).frozen 4
    go_wp2_with fail
    have HF := (((((HB8.out).set 0 (.int .i64 0)).set 1 (.string ⟨#[]⟩)).set 2 (.string ⟨#[]⟩)).set 3 (.slice none 0 0)).set 4 (.bool false)
    have d0 := HF.cell 0
    have d1 := HF.cell 1
    have d2 := HF.cell 2
    have d3 := HF.cell 3
    have d4 := HF.cell 4
    exact bodyPost_ret (v := .tuple #[.agg #[.int .i64 0, .string ⟨#[]⟩, .string ⟨#[]⟩, .slice none 0 0, .bool false], .bool false]) (by simp [results, Tryz.results45, go_sem, d0, d1, d2, d3, d4]) rfl (tokPost_none HN.out rfl (HK8.out.set5 hgne _ _ _ _ _) (HGR8.out.set5 (Nat.le_refl _) _ _ _ _ _))
  | some x =>
    obtain ⟨t, rest⟩ := x
    have HN : Hid (tokL first r = some (t, rest)) := Lib.hid (by rw [htk, ho])
    have HO := Lib.hid ho
    clear htk ho
    go_enter Tryz.func45, Tryz.ntmps45
    have HK0 := HK
    have HG0 := HG
    have HB00 := HB0
    have HGR0 : Hid (w.grownBy (w.alloc (.cells #[.int .i64 0, .string ⟨#[]⟩, .string ⟨#[]⟩, .slice none 0 0, .bool false] 53)) (some g)) := Lib.hid (World.grownBy_alloc _ _ _)
    go_wp2_with fail
    refine (skip_no g _ _ _ HK0.out H0.out).mono ?_
    rintro e w1 ⟨rfl, hk1, hg1⟩
    have HK1 : Hid (Wk g r w1) := Lib.hid hk1
    have HG1 := Lib.hid (HG0.out.grown HK0.out hg1)
    have HB01 := Lib.hid (HB00.out.grown hg1 (by simp; omega))
    have HGR1 := Lib.hid (HGR0.out.trans hg1)
    clear hk1 hg1
    go_wp2_with fail
    refine (skip_no g _ _ _ HK1.out H1.out).mono ?_
    rintro e w2 ⟨rfl, hk2, hg2⟩
    have HK2 : Hid (Wk g r w2) := Lib.hid hk2
    have HG2 := Lib.hid (HG1.out.grown HK1.out hg2)
    have HB02 := Lib.hid (HB01.out.grown hg2 (by simp; omega))
    have HGR2 := Lib.hid (HGR1.out.trans hg2)
    clear hk2 hg2
    go_wp2_with fail
    refine (skip_no g _ _ _ HK2.out H2.out).mono ?_
    rintro e w3 ⟨rfl, hk3, hg3⟩
    have HK3 : Hid (Wk g r w3) := Lib.hid hk3
    have HG3 := Lib.hid (HG2.out.grown HK2.out hg3)
    have HB03 := Lib.hid (HB02.out.grown hg3 (by simp; omega))
    have HGR3 := Lib.hid (HGR2.out.trans hg3)
    clear hk3 hg3
    go_wp2_with fail
    refine (skip_no g _ _ _ HK3.out H3.out).mono ?_
    rintro e w4 ⟨rfl, hk4, hg4⟩
    have HK4 : Hid (Wk g r w4) := Lib.hid hk4
    have HG4 := Lib.hid (HG3.out.grown HK3.out hg4)
    have HB04 := Lib.hid (HB03.out.grown hg4 (by simp; omega))
    have HGR4 := Lib.hid (HGR3.out.trans hg4)
    clear hk4 hg4
    go_wp2_with fail
    refine (skip_yes g _ _ _ HK4.out H4.out).mono ?_
    rintro e w5 ⟨rfl, hk5, hg5⟩
    have HK5 : Hid (Wk g (r.drop 1) w5) := Lib.hid hk5
    have HG5 := Lib.hid (HG4.out.grown HK4.out hg5)
    have HB05 := Lib.hid (HB04.out.grown hg5 (by simp; omega))
    have HGR5 := Lib.hid (HGR4.out.trans hg5)
    clear hk5 hg5
    go_wp2_with fail
    refine (opening_c g _ _ HK5.out HG5.out (by simpa using hdl)).mono ?_
    intro e w8 hp8
    unfold TokPost at hp8
    rw [HO.out] at hp8
    obtain ⟨A, l, c, rfl, hrow8, hk8, hg8⟩ := hp8
    have HK8 := Lib.hid hk8
    have HB8 := Lib.hid (HB05.out.grown hg8 (by simp; omega))
    have HGR8 := Lib.hid (HGR5.out.trans hg8)
    have HR8 := Lib.hid (row_mono hrow8 HGR5.out.size)
    clear hk8 hg8 hrow8
    have c0 := (HB8.out).cell 0
    have c1 := (HB8.out).cell 1
    have c2 := (HB8.out).cell 2
    have c3 := (HB8.out).cell 3
    have c4 := (HB8.out).cell 4
    have f0 := (HB8.out).frozen 0
    have f1 := (HB8.out).frozen 1
    have f2 := (HB8.out).frozen 2
    have f3 := (HB8.out).frozen 3
    have f4 := (HB8.out).frozen 4
    go_wp2_with fail
    have HF := (((((HB8.out).set 0 (.int .i64 (t.kind : Int))).set 1 (.string (tx t.name))).set 2 (.string (tx t.text))).set 3 (.slice A l c)).set 4 (.bool t.empty)
    have d0 := HF.cell 0
    have d1 := HF.cell 1
    have d2 := HF.cell 2
    have d3 := HF.cell 3
    have d4 := HF.cell 4
    exact bodyPost_ret (v := .tuple #[.agg #[.int .i64 (t.kind : Int), .string (tx t.name), .string (tx t.text), .slice A l c, .bool t.empty], .bool true]) (by simp [results, Tryz.results45, go_sem, d0, d1, d2, d3, d4]) rfl (tokPost_more HN.out rfl (row_done HR8.out HB8.out _ _ _ _ _) (HK8.out.set5 hgne _ _ _ _ _) (HGR8.out.set5 (Nat.le_refl _) _ _ _ _ _))

set_option maxRecDepth 100000 in
set_option maxHeartbeats 2000000 in
theorem token_text (g : Nat) (r : List UInt8) (first : Bool) (w : World) (hk : Wk g r w) (hg : Glob w) (hr : r.length ≤ 100000) (h0 : Lib.hasPrefix r [60, 33, 45, 45] = false) (h1 : Lib.hasPrefix r [60, 33, 91, 67, 68, 65, 84, 65, 91] = false) (h2 : Lib.hasPrefix r [60, 63] = false) (h3 : Lib.hasPrefix r [60, 47] = false) (h4 : Lib.hasPrefix r [60] = false) :
    Calls Tryz.prog 45 #[.pointer (some ⟨g, 0, none⟩), .bool first] w (TokPost (tokL first r) g w) := by
  have htk : tokL first r = textL r := by unfold tokL; rw [if_neg (by rw [h0]; decide), if_neg (by rw [h1]; decide), if_neg (by rw [h2]; decide), if_neg (by rw [h3]; decide), if_neg (by rw [h4]; decide)]
  have hlt := hk.lt
  have hgne : g ≠ w.heap.size := by omega
  have HK := Lib.hid (hk.alloc (.cells #[.int .i64 0, .string ⟨#[]⟩, .string ⟨#[]⟩, .slice none 0 0, .bool false] 53))
  have HG := Lib.hid (hg.alloc (.cells #[.int .i64 0, .string ⟨#[]⟩, .string ⟨#[]⟩, .slice none 0 0, .bool false] 53))
  have HB0 := Lib.hid (Blk.new w 53 #[.int .i64 0, .string ⟨#[]⟩, .string ⟨#[]⟩, .slice none 0 0, .bool false])
  clear hk hg
  have H0 := Lib.hid h0
  have H1 := Lib.hid h1
  have H2 := Lib.hid h2
  have H3 := Lib.hid h3
  have H4 := Lib.hid h4
  clear h0 h1 h2 h3 h4
  have hdl : (r.drop 0).length ≤ 100000 := by rw [List.length_drop]; omega
  cases ho : textL r with
  | none =>
    have HN : Hid (tokL first r = none) := Lib.hid (by rw [htk, ho])
    have HO := Lib.hid ho
    clear htk ho
    go_enter Tryz.func45, Tryz.ntmps45
    have HK0 := HK
    have HG0 := HG
    have HB00 := HB0
    have HGR0 : Hid (w.grownBy (w.alloc (.cells #[.int .i64 0, .string ⟨#[]⟩, .string ⟨#[]⟩, .slice none 0 0, .bool false] 53)) (some g)) := Lib.hid (World.grownBy_alloc _ _ _)
    go_wp2_with fail
    refine (skip_no g _ _ _ HK0.out H0.out).mono ?_
    rintro e w1 ⟨rfl, hk1, hg1⟩
    have HK1 : Hid (Wk g r w1) := Lib.hid hk1
    have HG1 := Lib.hid (HG0.out.grown HK0.out hg1)
    have HB01 := Lib.hid (HB00.out.grown hg1 (by simp; omega))
    have HGR1 := Lib.hid (HGR0.out.trans hg1)
    clear hk1 hg1
    go_wp2_with fail
    refine (skip_no g _ _ _ HK1.out H1.out).mono ?_
    rintro e w2 ⟨rfl, hk2, hg2⟩
    have HK2 : Hid (Wk g r w2) := Lib.hid hk2
    have HG2 := Lib.hid (HG1.out.grown HK1.out hg2)
    have HB02 := Lib.hid (HB01.out.grown hg2 (by simp; omega))
    have HGR2 := Lib.hid (HGR1.out.trans hg2)
    clear hk2 hg2
    go_wp2_with fail
    refine (skip_no g _ _ _ HK2.out H2.out).mono ?_
    rintro e w3 ⟨rfl, hk3, hg3⟩
    have HK3 : Hid (Wk g r w3) := Lib.hid hk3
    have HG3 := Lib.hid (HG2.out.grown HK2.out hg3)
    have HB03 := Lib.hid (HB02.out.grown hg3 (by simp; omega))
    have HGR3 := Lib.hid (HGR2.out.trans hg3)
    clear hk3 hg3
    go_wp2_with fail
    refine (skip_no g _ _ _ HK3.out H3.out).mono ?_
    rintro e w4 ⟨rfl, hk4, hg4⟩
    have HK4 : Hid (Wk g r w4) := Lib.hid hk4
    have HG4 := Lib.hid (HG3.out.grown HK3.out hg4)
    have HB04 := Lib.hid (HB03.out.grown hg4 (by simp; omega))
    have HGR4 := Lib.hid (HGR3.out.trans hg4)
    clear hk4 hg4
    go_wp2_with fail
    refine (skip_no g _ _ _ HK4.out H4.out).mono ?_
    rintro e w5 ⟨rfl, hk5, hg5⟩
    have HK5 : Hid (Wk g r w5) := Lib.hid hk5
    have HG5 := Lib.hid (HG4.out.grown HK4.out hg5)
    have HB05 := Lib.hid (HB04.out.grown hg5 (by simp; omega))
    have HGR5 := Lib.hid (HGR4.out.trans hg5)
    clear hk5 hg5
    go_wp2_with fail
    refine (text_c g _ _ HK5.out HG5.out hr).mono ?_
    intro e w8 hp8
    unfold TokPost at hp8
    rw [HO.out] at hp8
    obtain ⟨rfl, ⟨r8, hk8⟩, hg8⟩ := hp8
    have HK8 := Lib.hid hk8
    have HB8 := Lib.hid (HB05.out.grown hg8 (by simp; omega))
    have HGR8 := Lib.hid (HGR5.out.trans hg8)
    clear hk8 hg8
    have c0 := (HB8.out).cell 0
    have c1 := (HB8.out).cell 1
    have c2 := (HB8.out).cell 2
    have c3 := (HB8.out).cell 3
    have c4 := (HB8.out).cell 4
    have f0 := (HB8.out).frozen 0
    have f1 := (HB8.out).frozen 1
    have f2 := (HB8.out).frozen 2
    have f3 := (HB8.out).frozen 3
    have f4 := (HB8.out).frozen 4
    go_wp2_with fail
    have HF := (((((HB8.out).set 0 (.int .i64 0)).set 1 (.string ⟨#[]⟩)).set 2 (.string ⟨#[]⟩)).set 3 (.slice none 0 0)).set 4 (.bool false)
    have d0 := HF.cell 0
    have d1 := HF.cell 1
    have d2 := HF.cell 2
    have d3 := HF.cell 3
    have d4 := HF.cell 4
    exact bodyPost_ret (v := .tuple #[.agg #[.int .i64 0, .string ⟨#[]⟩, .string ⟨#[]⟩, .slice none 0 0, .bool false], .bool false]) (by simp [results, Tryz.results45, go_sem, d0, d1, d2, d3, d4]) rfl (tokPost_none HN.out rfl (HK8.out.set5 hgne _ _ _ _ _) (HGR8.out.set5 (Nat.le_refl _) _ _ _ _ _))
  | some x =>
    obtain ⟨t, rest⟩ := x
    have HN : Hid (tokL first r = some (t, rest)) := Lib.hid (by rw [htk, ho])
    have HO := Lib.hid ho
    clear htk ho
    go_enter Tryz.func45, Tryz.ntmps45
    have HK0 := HK
    have HG0 := HG
    have HB00 := HB0
    have HGR0 : Hid (w.grownBy (w.alloc (.cells #[.int .i64 0, .string ⟨#[]⟩, .string ⟨#[]⟩, .slice none 0 0, .bool false] 53)) (some g)) := Lib.hid (World.grownBy_alloc _ _ _)
    go_wp2_with fail
    refine (skip_no g _ _ _ HK0.out H0.out).mono ?_
    rintro e w1 ⟨rfl, hk1, hg1⟩
    have HK1 : Hid (Wk g r w1) := Lib.hid hk1
    have HG1 := Lib.hid (HG0.out.grown HK0.out hg1)
    have HB01 := Lib.hid (HB00.out.grown hg1 (by simp; omega))
    have HGR1 := Lib.hid (HGR0.out.trans hg1)
    clear hk1 hg1
    go_wp2_with fail
    refine (skip_no g _ _ _ HK1.out H1.out).mono ?_
    rintro e w2 ⟨rfl, hk2, hg2⟩
    have HK2 : Hid (Wk g r w2) := Lib.hid hk2
    have HG2 := Lib.hid (HG1.out.grown HK1.out hg2)
    have HB02 := Lib.hid (HB01.out.grown hg2 (by simp; omega))
    have HGR2 := Lib.hid (HGR1.out.trans hg2)
    clear hk2 hg2
    go_wp2_with fail
    refine (skip_no g _ _ _ HK2.out H2.out).mono ?_
    rintro e w3 ⟨rfl, hk3, hg3⟩
    have HK3 : Hid (Wk g r w3) := Lib.hid hk3
    have HG3 := Lib.hid (HG2.out.grown HK2.out hg3)
    have HB03 := Lib.hid (HB02.out.grown hg3 (by simp; omega))
    have HGR3 := Lib.hid (HGR2.out.trans hg3)
    clear hk3 hg3
    go_wp2_with fail
    refine (skip_no g _ _ _ HK3.out H3.out).mono ?_
    rintro e w4 ⟨rfl, hk4, hg4⟩
    have HK4 : Hid (Wk g r w4) := Lib.hid hk4
    have HG4 := Lib.hid (HG3.out.grown HK3.out hg4)
    have HB04 := Lib.hid (HB03.out.grown hg4 (by simp; omega))
    have HGR4 := Lib.hid (HGR3.out.trans hg4)
    clear hk4 hg4
    go_wp2_with fail
    refine (skip_no g _ _ _ HK4.out H4.out).mono ?_
    rintro e w5 ⟨rfl, hk5, hg5⟩
    have HK5 : Hid (Wk g r w5) := Lib.hid hk5
    have HG5 := Lib.hid (HG4.out.grown HK4.out hg5)
    have HB05 := Lib.hid (HB04.out.grown hg5 (by simp; omega))
    have HGR5 := Lib.hid (HGR4.out.trans hg5)
    clear hk5 hg5
    go_wp2_with fail
    refine (text_c g _ _ HK5.out HG5.out hr).mono ?_
    intro e w8 hp8
    unfold TokPost at hp8
    rw [HO.out] at hp8
    obtain ⟨A, l, c, rfl, hrow8, hk8, hg8⟩ := hp8
    have HK8 := Lib.hid hk8
    have HB8 := Lib.hid (HB05.out.grown hg8 (by simp; omega))
    have HGR8 := Lib.hid (HGR5.out.trans hg8)
    have HR8 := Lib.hid (row_mono hrow8 HGR5.out.size)
    clear hk8 hg8 hrow8
    have c0 := (HB8.out).cell 0
    have c1 := (HB8.out).cell 1
    have c2 := (HB8.out).cell 2
    have c3 := (HB8.out).cell 3
    have c4 := (HB8.out).cell 4
    have f0 := (HB8.out).frozen 0
    have f1 := (HB8.out).frozen 1
    have f2 := (HB8.out).frozen 2
    have f3 := (HB8.out).frozen 3
    have f4 := (HB8.out).frozen 4
    go_wp2_with fail
    have HF := (((((HB8.out).set 0 (.int .i64 (t.kind : Int))).set 1 (.string (tx t.name))).set 2 (.string (tx t.text))).set 3 (.slice A l c)).set 4 (.bool t.empty)
    have d0 := HF.cell 0
    have d1 := HF.cell 1
    have d2 := HF.cell 2
    have d3 := HF.cell 3
    have d4 := HF.cell 4
    exact bodyPost_ret (v := .tuple #[.agg #[.int .i64 (t.kind : Int), .string (tx t.name), .string (tx t.text), .slice A l c, .bool t.empty], .bool true]) (by simp [results, Tryz.results45, go_sem, d0, d1, d2, d3, d4]) rfl (tokPost_more HN.out rfl (row_done HR8.out HB8.out _ _ _ _ _) (HK8.out.set5 hgne _ _ _ _ _) (HGR8.out.set5 (Nat.le_refl _) _ _ _ _ _))

set_option maxRecDepth 100000 in
set_option maxHeartbeats 2000000 in
theorem token_cdata (g : Nat) (r : List UInt8) (first : Bool) (w : World) (hk : Wk g r w) (hg : Glob w) (hr : r.length ≤ 100000) (h0 : Lib.hasPrefix r [60, 33, 45, 45] = false) (h1 : Lib.hasPrefix r [60, 33, 91, 67, 68, 65, 84, 65, 91] = true) :
    Calls Tryz.prog 45 #[.pointer (some ⟨g, 0, none⟩), .bool first] w (TokPost (tokL first r) g w) := by
  have htk : tokL first r = (cutL [93, 93, 62] (r.drop 9)).map fun (x, rest) => (⟨3, [], x, [], false⟩, rest) := by unfold tokL; rw [if_neg (by rw [h0]; decide), if_pos h1]
  have hlt := hk.lt
  have hgne : g ≠ w.heap.size := by omega
  have HK := Lib.hid (hk.alloc (.cells #[.int .i64 0, .string ⟨#[]⟩, .string ⟨#[]⟩, .slice none 0 0, .bool false] 53))
  have HG := Lib.hid (hg.alloc (.cells #[.int .i64 0, .string ⟨#[]⟩, .string ⟨#[]⟩, .slice none 0 0, .bool false] 53))
  have HB0 := Lib.hid (Blk.new w 53 #[.int .i64 0, .string ⟨#[]⟩, .string ⟨#[]⟩, .slice none 0 0, .bool false])
  clear hk hg
  have H0 := Lib.hid h0
  have H1 := Lib.hid h1
  clear h0 h1
  have hdl : (r.drop 9).length ≤ 100000 := by rw [List.length_drop]; omega
  cases ho : cutL [93, 93, 62] (r.drop 9) with
  | none =>
    have HN : Hid (tokL first r = none) := Lib.hid (by rw [htk, ho]; rfl)
    have HO := Lib.hid ho
    clear htk ho
    go_enter Tryz.func45, Tryz.ntmps45
    have HK0 := HK
    have HG0 := HG
    have HB00 := HB0
    have HGR0 : Hid (w.grownBy (w.alloc (.cells #[.int .i64 0, .string ⟨#[]⟩, .string ⟨#[]⟩, .slice none 0 0, .bool false] 53)) (some g)) := Lib.hid (World.grownBy_alloc _ _ _)
    go_wp2_with fail
    refine (skip_no g _ _ _ HK0.out H0.out).mono ?_
    rintro e w1 ⟨rfl, hk1, hg1⟩
    have HK1 : Hid (Wk g r w1) := Lib.hid hk1
    have HG1 := Lib.hid (HG0.out.grown HK0.out hg1)
    have HB01 := Lib.hid (HB00.out.grown hg1 (by simp; omega))
    have HGR1 := Lib.hid (HGR0.out.trans hg1)
    clear hk1 hg1
    go_wp2_with fail
    refine (skip_yes g _ _ _ HK1.out H1.out).mono ?_
    rintro e w2 ⟨rfl, hk2, hg2⟩
    have HK2 : Hid (Wk g (r.drop 9) w2) := Lib.hid hk2
    have HG2 := Lib.hid (HG1.out.grown HK1.out hg2)
    have HB02 := Lib.hid (HB01.out.grown hg2 (by simp; omega))
    have HGR2 := Lib.hid (HGR1.out.trans hg2)
    clear hk2 hg2
    go_wp2_with fail
    refine (upTo_no g _ _ _ HK2.out HG2.out hdl HO.out).mono ?_
    rintro e w8 ⟨rfl, hk8, hg8⟩
    have HK8 := Lib.hid hk8
    have HB8 := Lib.hid (HB02.out.grown hg8 (by simp; omega))
    have HGR8 := Lib.hid (HGR2.out.trans hg8)
    clear hk8 hg8
    go_wp2_with fail
    refine (kept_no _ _ _ _ _ _ _ _).mono ?_
    rintro e w9 ⟨rfl, hb9⟩
    have HB9 := Lib.hid (HB8.out.below hb9)
    have c0 := (HB9.out).cell 0
    have c1 := (HB9.out).cell 1
    have c2 := (HB9.out).cell 2
    have c3 := (HB9.out).cell 3
    have c4 := (HB9.out).cell 4
    have f0 := (HB9.out).frozen 0
    have f1 := (HB9.out).frozen 1
    have f2 := (HB9.out).frozen 2
    have f3 := (HB9.out).frozen 3
    have f4 := (HB9.out).frozen 4
    go_wp2_with fail
    have HF := (((((HB9.out).set 0 (.int .i64 0)).set 1 (.string ⟨#[]⟩)).set 2 (.string ⟨#[]⟩)).set 3 (.slice none 0 0)).set 4 (.bool false)
    have d0 := HF.cell 0
    have d1 := HF.cell 1
    have d2 := HF.cell 2
    have d3 := HF.cell 3
    have d4 := HF.cell 4
    exact bodyPost_ret (v := .tuple #[.agg #[.int .i64 0, .string ⟨#[]⟩, .string ⟨#[]⟩, .slice none 0 0, .bool false], .bool false]) (by simp [results, Tryz.results45, go_sem, d0, d1, d2, d3, d4]) rfl (tokPost_none HN.out rfl ((HK8.out.below hb9).set5 hgne _ _ _ _ _) ((HGR8.out.trans (grown_of_below hb9 _)).set5 (Nat.le_refl _) _ _ _ _ _))
  | some q =>
    obtain ⟨x, rest⟩ := q
    have HN : Hid (tokL first r = some (⟨3, [], x, [], false⟩, rest)) := Lib.hid (by rw [htk, ho]; rfl)
    have HO := Lib.hid ho
    clear htk ho
    go_enter Tryz.func45, Tryz.ntmps45
    have HK0 := HK
    have HG0 := HG
    have HB00 := HB0
    have HGR0 : Hid (w.grownBy (w.alloc (.cells #[.int .i64 0, .string ⟨#[]⟩, .string ⟨#[]⟩, .slice none 0 0, .bool false] 53)) (some g)) := Lib.hid (World.grownBy_alloc _ _ _)
    go_wp2_with fail
    refine (skip_no g _ _ _ HK0.out H0.out).mono ?_
    rintro e w1 ⟨rfl, hk1, hg1⟩
    have HK1 : Hid (Wk g r w1) := Lib.hid hk1
    have HG1 := Lib.hid (HG0.out.grown HK0.out hg1)
    have HB01 := Lib.hid (HB00.out.grown hg1 (by simp; omega))
    have HGR1 := Lib.hid (HGR0.out.trans hg1)
    clear hk1 hg1
    go_wp2_with fail
    refine (skip_yes g _ _ _ HK1.out H1.out).mono ?_
    rintro e w2 ⟨rfl, hk2, hg2⟩
    have HK2 : Hid (Wk g (r.drop 9) w2) := Lib.hid hk2
    have HG2 := Lib.hid (HG1.out.grown HK1.out hg2)
    have HB02 := Lib.hid (HB01.out.grown hg2 (by simp; omega))
    have HGR2 := Lib.hid (HGR1.out.trans hg2)
    clear hk2 hg2
    go_wp2_with fail
    refine (upTo_yes g _ _ _ _ _ HK2.out HG2.out hdl HO.out).mono ?_
    rintro e w8 ⟨rfl, hk8, hg8⟩
    have HK8 := Lib.hid hk8
    have HB8 := Lib.hid (HB02.out.grown hg8 (by simp; omega))
    have HGR8 := Lib.hid (HGR2.out.trans hg8)
    clear hk8 hg8
    go_wp2_with fail
    refine (kept_yes _ _ _ _ _ _ _ _).mono ?_
    rintro e w9 ⟨rfl, hb9⟩
    have HB9 := Lib.hid (HB8.out.below hb9)
    have c0 := (HB9.out).cell 0
    have c1 := (HB9.out).cell 1
    have c2 := (HB9.out).cell 2
    have c3 := (HB9.out).cell 3
    have c4 := (HB9.out).cell 4
    have f0 := (HB9.out).frozen 0
    have f1 := (HB9.out).frozen 1
    have f2 := (HB9.out).frozen 2
    have f3 := (HB9.out).frozen 3
    have f4 := (HB9.out).frozen 4
    go_wp2_with fail
    have HF := (((((HB9.out).set 0 (.int .i64 3)).set 1 (.string ⟨#[]⟩)).set 2 (.string (tx x))).set 3 (.slice none 0 0)).set 4 (.bool false)
    have d0 := HF.cell 0
    have d1 := HF.cell 1
    have d2 := HF.cell 2
    have d3 := HF.cell 3
    have d4 := HF.cell 4
    exact bodyPost_ret (v := .tuple #[.agg #[.int .i64 3, .string ⟨#[]⟩, .string (tx x), .slice none 0 0, .bool false], .bool true]) (by simp [results, Tryz.results45, go_sem, d0, d1, d2, d3, d4]) rfl (tokPost_plain HN.out rfl ((HK8.out.below hb9).set5 hgne _ _ _ _ _) ((HGR8.out.trans (grown_of_below hb9 _)).set5 (Nat.le_refl _) _ _ _ _ _))

set_option maxRecDepth 100000 in
set_option maxHeartbeats 2000000 in
theorem token_pro1 (g : Nat) (r : List UInt8) (w : World) (hk : Wk g r w) (hg : Glob w) (hr : r.length ≤ 100000) (h0 : Lib.hasPrefix r [60, 33, 45, 45] = false) (h1 : Lib.hasPrefix r [60, 33, 91, 67, 68, 65, 84, 65, 91] = false) (h2 : Lib.hasPrefix r [60, 63] = true) :
    Calls Tryz.prog 45 #[.pointer (some ⟨g, 0, none⟩), .bool true] w (TokPost (tokL true r) g w) := by
  have htk : tokL true r = (cutL [63, 62] (r.drop 2)).map fun (x, rest) => (⟨5, [], x, [], false⟩, rest) := by unfold tokL; rw [if_neg (by rw [h0]; decide), if_neg (by rw [h1]; decide), if_pos h2]; rfl
  have hlt := hk.lt
  have hgne : g ≠ w.heap.size := by omega
  have HK := Lib.hid (hk.alloc (.cells #[.int .i64 0, .string ⟨#[]⟩, .string ⟨#[]⟩, .slice none 0 0, .bool false] 53))
  have HG := Lib.hid (hg.alloc (.cells #[.int .i64 0, .string ⟨#[]⟩, .string ⟨#[]⟩, .slice none 0 0, .bool false] 53))
  have HB0 := Lib.hid (Blk.new w 53 #[.int .i64 0, .string ⟨#[]⟩, .string ⟨#[]⟩, .slice none 0 0, .bool false])
  clear hk hg
  have H0 := Lib.hid h0
  have H1 := Lib.hid h1
  have H2 := Lib.hid h2
  clear h0 h1 h2
  have hdl : (r.drop 2).length ≤ 100000 := by rw [List.length_drop]; omega
  cases ho : cutL [63, 62] (r.drop 2) with
  | none =>
    have HN : Hid (tokL true r = none) := Lib.hid (by rw [htk, ho]; rfl)
    have HO := Lib.hid ho
    clear htk ho
    go_enter Tryz.func45, Tryz.ntmps45
    have HK0 := HK
    have HG0 := HG
    have HB00 := HB0
    have HGR0 : Hid (w.grownBy (w.alloc (.cells #[.int .i64 0, .string ⟨#[]⟩, .string ⟨#[]⟩, .slice none 0 0, .bool false] 53)) (some g)) := Lib.hid (World.grownBy_alloc _ _ _)
    go_wp2_with fail
    refine (skip_no g _ _ _ HK0.out H0.out).mono ?_
    rintro e w1 ⟨rfl, hk1, hg1⟩
    have HK1 : Hid (Wk g r w1) := Lib.hid hk1
    have HG1 := Lib.hid (HG0.out.grown HK0.out hg1)
    have HB01 := Lib.hid (HB00.out.grown hg1 (by simp; omega))
    have HGR1 := Lib.hid (HGR0.out.trans hg1)
    clear hk1 hg1
    go_wp2_with fail
    refine (skip_no g _ _ _ HK1.out H1.out).mono ?_
    rintro e w2 ⟨rfl, hk2, hg2⟩
    have HK2 : Hid (Wk g r w2) := Lib.hid hk2
    have HG2 := Lib.hid (HG1.out.grown HK1.out hg2)
    have HB02 := Lib.hid (HB01.out.grown hg2 (by simp; omega))
    have HGR2 := Lib.hid (HGR1.out.trans hg2)
    clear hk2 hg2
    go_wp2_with fail
    refine (skip_yes g _ _ _ HK2.out H2.out).mono ?_
    rintro e w3 ⟨rfl, hk3, hg3⟩
    have HK3 : Hid (Wk g (r.drop 2) w3) := Lib.hid hk3
    have HG3 := Lib.hid (HG2.out.grown HK2.out hg3)
    have HB03 := Lib.hid (HB02.out.grown hg3 (by simp; omega))
    have HGR3 := Lib.hid (HGR2.out.trans hg3)
    clear hk3 hg3
    go_wp2_with fail
    refine (upTo_no g _ _ _ HK3.out HG3.out hdl HO.out).mono ?_
    rintro e w8 ⟨rfl, hk8, hg8⟩
    have HK8 := Lib.hid hk8
    have HB8 := Lib.hid (HB03.out.grown hg8 (by simp; omega))
    have HGR8 := Lib.hid (HGR3.out.trans hg8)
    clear hk8 hg8
    go_wp2_with fail
    refine (kept_no _ _ _ _ _ _ _ _).mono ?_
    rintro e w9 ⟨rfl, hb9⟩
    have HB9 := Lib.hid (HB8.out.below hb9)
    have c0 := (HB9.out).cell 0
    have c1 := (HB9.out).cell 1
    have c2 := (HB9.out).cell 2
    have c3 := (HB9.out).cell 3
    have c4 := (HB9.out).cell 4
    have f0 := (HB9.out).frozen 0
    have f1 := (HB9.out).frozen 1
    have f2 := (HB9.out).frozen 2
    have f3 := (HB9.out).frozen 3
    have f4 := (HB9.out).frozen 4
    go_wp2_with fail
    have HF := (((((HB9.out).set 0 (.int .i64 0)).set 1 (.string ⟨#[]⟩)).set 2 (.string ⟨#[]⟩)).set 3 (.slice none 0 0)).set 4 (.bool false)
    have d0 := HF.cell 0
    have d1 := HF.cell 1
    have d2 := HF.cell 2
    have d3 := HF.cell 3
    have d4 := HF.cell 4
    exact bodyPost_ret (v := .tuple #[.agg #[.int .i64 0, .string ⟨#[]⟩, .string ⟨#[]⟩, .slice none 0 0, .bool false], .bool false]) (by simp [results, Tryz.results45, go_sem, d0, d1, d2, d3, d4]) rfl (tokPost_none HN.out rfl ((HK8.out.below hb9).set5 hgne _ _ _ _ _) ((HGR8.out.trans (grown_of_below hb9 _)).set5 (Nat.le_refl _) _ _ _ _ _))
  | some q =>
    obtain ⟨x, rest⟩ := q
    have HN : Hid (tokL true r = some (⟨5, [], x, [], false⟩, rest)) := Lib.hid (by rw [htk, ho]; rfl)
    have HO := Lib.hid ho
    clear htk ho
    go_enter Tryz.func45, Tryz.ntmps45
    have HK0 := HK
    have HG0 := HG
    have HB00 := HB0
    have HGR0 : Hid (w.grownBy (w.alloc (.cells #[.int .i64 0, .string ⟨#[]⟩, .string ⟨#[]⟩, .slice none 0 0, .bool false] 53)) (some g)) := Lib.hid (World.grownBy_alloc _ _ _)
    go_wp2_with fail
    refine (skip_no g _ _ _ HK0.out H0.out).mono ?_
    rintro e w1 ⟨rfl, hk1, hg1⟩
    have HK1 : Hid (Wk g r w1) := Lib.hid hk1
    have HG1 := Lib.hid (HG0.out.grown HK0.out hg1)
    have HB01 := Lib.hid (HB00.out.grown hg1 (by simp; omega))
    have HGR1 := Lib.hid (HGR0.out.trans hg1)
    clear hk1 hg1
    go_wp2_with fail
    refine (skip_no g _ _ _ HK1.out H1.out).mono ?_
    rintro e w2 ⟨rfl, hk2, hg2⟩
    have HK2 : Hid (Wk g r w2) := Lib.hid hk2
    have HG2 := Lib.hid (HG1.out.grown HK1.out hg2)
    have HB02 := Lib.hid (HB01.out.grown hg2 (by simp; omega))
    have HGR2 := Lib.hid (HGR1.out.trans hg2)
    clear hk2 hg2
    go_wp2_with fail
    refine (skip_yes g _ _ _ HK2.out H2.out).mono ?_
    rintro e w3 ⟨rfl, hk3, hg3⟩
    have HK3 : Hid (Wk g (r.drop 2) w3) := Lib.hid hk3
    have HG3 := Lib.hid (HG2.out.grown HK2.out hg3)
    have HB03 := Lib.hid (HB02.out.grown hg3 (by simp; omega))
    have HGR3 := Lib.hid (HGR2.out.trans hg3)
    clear hk3 hg3
    go_wp2_with fail
    refine (upTo_yes g _ _ _ _ _ HK3.out HG3.out hdl HO.out).mono ?_
    rintro e w8 ⟨rfl, hk8, hg8⟩
    have HK8 := Lib.hid hk8
    have HB8 := Lib.hid (HB03.out.grown hg8 (by simp; omega))
    have HGR8 := Lib.hid (HGR3.out.trans hg8)
    clear hk8 hg8
    go_wp2_with fail
    refine (kept_yes _ _ _ _ _ _ _ _).mono ?_
    rintro e w9 ⟨rfl, hb9⟩
    have HB9 := Lib.hid (HB8.out.below hb9)
    have c0 := (HB9.out).cell 0
    have c1 := (HB9.out).cell 1
    have c2 := (HB9.out).cell 2
    have c3 := (HB9.out).cell 3
    have c4 := (HB9.out).cell 4
    have f0 := (HB9.out).frozen 0
    have f1 := (HB9.out).frozen 1
    have f2 := (HB9.out).frozen 2
    have f3 := (HB9.out).frozen 3
    have f4 := (HB9.out).frozen 4
    go_wp2_with fail
    have HF := (((((HB9.out).set 0 (.int .i64 5)).set 1 (.string ⟨#[]⟩)).set 2 (.string (tx x))).set 3 (.slice none 0 0)).set 4 (.bool false)
    have d0 := HF.cell 0
    have d1 := HF.cell 1
    have d2 := HF.cell 2
    have d3 := HF.cell 3
    have d4 := HF.cell 4
    exact bodyPost_ret (v := .tuple #[.agg #[.int .i64 5, .string ⟨#[]⟩, .string (tx x), .slice none 0 0, .bool false], .bool true]) (by simp [results, Tryz.results45, go_sem, d0, d1, d2, d3, d4]) rfl (tokPost_plain HN.out rfl ((HK8.out.below hb9).set5 hgne _ _ _ _ _) ((HGR8.out.trans (grown_of_below hb9 _)).set5 (Nat.le_refl _) _ _ _ _ _))

set_option maxRecDepth 100000 in
set_option maxHeartbeats 2000000 in
theorem token_pro0 (g : Nat) (r : List UInt8) (w : World) (hk : Wk g r w) (hg : Glob w) (hr : r.length ≤ 100000) (h0 : Lib.hasPrefix r [60, 33, 45, 45] = false) (h1 : Lib.hasPrefix r [60, 33, 91, 67, 68, 65, 84, 65, 91] = false) (h2 : Lib.hasPrefix r [60, 63] = true) :
    Calls Tryz.prog 45 #[.pointer (some ⟨g, 0, none⟩), .bool false] w (TokPost (tokL false r) g w) := by
  have htk : tokL false r = none := by unfold tokL; rw [if_neg (by rw [h0]; decide), if_neg (by rw [h1]; decide), if_pos h2]; rfl
  have hlt := hk.lt
  have hgne : g ≠ w.heap.size := by omega
  have HK := Lib.hid (hk.alloc (.cells #[.int .i64 0, .string ⟨#[]⟩, .string ⟨#[]⟩, .slice none 0 0, .bool false] 53))
  have HG := Lib.hid (hg.alloc (.cells #[.int .i64 0, .string ⟨#[]⟩, .string ⟨#[]⟩, .slice none 0 0, .bool false] 53))
  have HB0 := Lib.hid (Blk.new w 53 #[.int .i64 0, .string ⟨#[]⟩, .string ⟨#[]⟩, .slice none 0 0, .bool false])
  clear hk hg
  have H0 := Lib.hid h0
  have H1 := Lib.hid h1
  have H2 := Lib.hid h2
  clear h0 h1 h2
  have hdl : (r.drop 2).length ≤ 100000 := by rw [List.length_drop]; omega
  cases ho : cutL [63, 62] (r.drop 2) with
  | none =>
    have HN : Hid (tokL false r = none) := Lib.hid (by rw [htk])
    have HO := Lib.hid ho
    clear htk ho
    go_enter Tryz.func45, Tryz.ntmps45
    have HK0 := HK
    have HG0 := HG
    have HB00 := HB0
    have HGR0 : Hid (w.grownBy (w.alloc (.cells #[.int .i64 0, .string ⟨#[]⟩, .string ⟨#[]⟩, .slice none 0 0, .bool false] 53)) (some g)) := Lib.hid (World.grownBy_alloc _ _ _)
    go_wp2_with fail
    refine (skip_no g _ _ _ HK0.out H0.out).mono ?_
    rintro e w1 ⟨rfl, hk1, hg1⟩
    have HK1 : Hid (Wk g r w1) := Lib.hid hk1
    have HG1 := Lib.hid (HG0.out.grown HK0.out hg1)
    have HB01 := Lib.hid (HB00.out.grown hg1 (by simp; omega))
    have HGR1 := Lib.hid (HGR0.out.trans hg1)
    clear hk1 hg1
    go_wp2_with fail
    refine (skip_no g _ _ _ HK1.out H1.out).mono ?_
    rintro e w2 ⟨rfl, hk2, hg2⟩
    have HK2 : Hid (Wk g r w2) := Lib.hid hk2
    have HG2 := Lib.hid (HG1.out.grown HK1.out hg2)
    have HB02 := Lib.hid (HB01.out.grown hg2 (by simp; omega))
    have HGR2 := Lib.hid (HGR1.out.trans hg2)
    clear hk2 hg2
    go_wp2_with fail
    refine (skip_yes g _ _ _ HK2.out H2.out).mono ?_
    rintro e w3 ⟨rfl, hk3, hg3⟩
    have HK3 : Hid (Wk g (r.drop 2) w3) := Lib.hid hk3
    have HG3 := Lib.hid (HG2.out.grown HK2.out hg3)
    have HB03 := Lib.hid (HB02.out.grown hg3 (by simp; omega))
    have HGR3 := Lib.hid (HGR2.out.trans hg3)
    clear hk3 hg3
    go_wp2_with fail
    refine (upTo_no g _ _ _ HK3.out HG3.out hdl HO.out).mono ?_
    rintro e w8 ⟨rfl, hk8, hg8⟩
    have HK8 := Lib.hid hk8
    have HB8 := Lib.hid (HB03.out.grown hg8 (by simp; omega))
    have HGR8 := Lib.hid (HGR3.out.trans hg8)
    clear hk8 hg8
    go_wp2_with fail
    refine (kept_no _ _ _ _ _ _ _ _).mono ?_
    rintro e w9 ⟨rfl, hb9⟩
    have HB9 := Lib.hid (HB8.out.below hb9)
    have c0 := (HB9.out).cell 0
    have c1 := (HB9.out).cell 1
    have c2 := (HB9.out).cell 2
    have c3 := (HB9.out).cell 3
    have c4 := (HB9.out).cell 4
    have f0 := (HB9.out).frozen 0
    have f1 := (HB9.out).frozen 1
    have f2 := (HB9.out).frozen 2
    have f3 := (HB9.out).frozen 3
    have f4 := (HB9.out).frozen 4
    go_wp2_with fail
    have HF := (((((HB9.out).set 0 (.int .i64 0)).set 1 (.string ⟨#[]⟩)).set 2 (.string ⟨#[]⟩)).set 3 (.slice none 0 0)).set 4 (.bool false)
    have d0 := HF.cell 0
    have d1 := HF.cell 1
    have d2 := HF.cell 2
    have d3 := HF.cell 3
    have d4 := HF.cell 4
    exact bodyPost_ret (v := .tuple #[.agg #[.int .i64 0, .string ⟨#[]⟩, .string ⟨#[]⟩, .slice none 0 0, .bool false], .bool false]) (by simp [results, Tryz.results45, go_sem, d0, d1, d2, d3, d4]) rfl (tokPost_none HN.out rfl ((HK8.out.below hb9).set5 hgne _ _ _ _ _) ((HGR8.out.trans (grown_of_below hb9 _)).set5 (Nat.le_refl _) _ _ _ _ _))
  | some q =>
    obtain ⟨x, rest⟩ := q
    have HN : Hid (tokL false r = none) := Lib.hid (by rw [htk])
    have HO := Lib.hid ho
    clear htk ho
    go_enter Tryz.func45, Tryz.ntmps45
    have HK0 := HK
    have HG0 := HG
    have HB00 := HB0
    have HGR0 : Hid (w.grownBy (w.alloc (.cells #[.int .i64 0, .string ⟨#[]⟩, .string ⟨#[]⟩, .slice none 0 0, .bool false] 53)) (some g)) := Lib.hid (World.grownBy_alloc _ _ _)
    go_wp2_with fail
    refine (skip_no g _ _ _ HK0.out H0.out).mono ?_
    rintro e w1 ⟨rfl, hk1, hg1⟩
    have HK1 : Hid (Wk g r w1) := Lib.hid hk1
    have HG1 := Lib.hid (HG0.out.grown HK0.out hg1)
    have HB01 := Lib.hid (HB00.out.grown hg1 (by simp; omega))
    have HGR1 := Lib.hid (HGR0.out.trans hg1)
    clear hk1 hg1
    go_wp2_with fail
    refine (skip_no g _ _ _ HK1.out H1.out).mono ?_
    rintro e w2 ⟨rfl, hk2, hg2⟩
    have HK2 : Hid (Wk g r w2) := Lib.hid hk2
    have HG2 := Lib.hid (HG1.out.grown HK1.out hg2)
    have HB02 := Lib.hid (HB01.out.grown hg2 (by simp; omega))
    have HGR2 := Lib.hid (HGR1.out.trans hg2)
    clear hk2 hg2
    go_wp2_with fail
    refine (skip_yes g _ _ _ HK2.out H2.out).mono ?_
    rintro e w3 ⟨rfl, hk3, hg3⟩
    have HK3 : Hid (Wk g (r.drop 2) w3) := Lib.hid hk3
    have HG3 := Lib.hid (HG2.out.grown HK2.out hg3)
    have HB03 := Lib.hid (HB02.out.grown hg3 (by simp; omega))
    have HGR3 := Lib.hid (HGR2.out.trans hg3)
    clear hk3 hg3
    go_wp2_with fail
    refine (upTo_yes g _ _ _ _ _ HK3.out HG3.out hdl HO.out).mono ?_
    rintro e w8 ⟨rfl, hk8, hg8⟩
    have HK8 := Lib.hid hk8
    have HB8 := Lib.hid (HB03.out.grown hg8 (by simp; omega))
    have HGR8 := Lib.hid (HGR3.out.trans hg8)
    clear hk8 hg8
    go_wp2_with fail
    refine (kept_no _ _ _ _ _ _ _ _).mono ?_
    rintro e w9 ⟨rfl, hb9⟩
    have HB9 := Lib.hid (HB8.out.below hb9)
    have c0 := (HB9.out).cell 0
    have c1 := (HB9.out).cell 1
    have c2 := (HB9.out).cell 2
    have c3 := (HB9.out).cell 3
    have c4 := (HB9.out).cell 4
    have f0 := (HB9.out).frozen 0
    have f1 := (HB9.out).frozen 1
    have f2 := (HB9.out).frozen 2
    have f3 := (HB9.out).frozen 3
    have f4 := (HB9.out).frozen 4
    go_wp2_with fail
    have HF := (((((HB9.out).set 0 (.int .i64 0)).set 1 (.string ⟨#[]⟩)).set 2 (.string ⟨#[]⟩)).set 3 (.slice none 0 0)).set 4 (.bool false)
    have d0 := HF.cell 0
    have d1 := HF.cell 1
    have d2 := HF.cell 2
    have d3 := HF.cell 3
    have d4 := HF.cell 4
    exact bodyPost_ret (v := .tuple #[.agg #[.int .i64 0, .string ⟨#[]⟩, .string ⟨#[]⟩, .slice none 0 0, .bool false], .bool false]) (by simp [results, Tryz.results45, go_sem, d0, d1, d2, d3, d4]) rfl (tokPost_none HN.out rfl ((HK8.out.below hb9).set5 hgne _ _ _ _ _) ((HGR8.out.trans (grown_of_below hb9 _)).set5 (Nat.le_refl _) _ _ _ _ _))

theorem token_c (g : Nat) (r : List UInt8) (first : Bool) (w : World) (hk : Wk g r w) (hg : Glob w) (hr : r.length ≤ 100000) :
    Calls Tryz.prog 45 #[.pointer (some ⟨g, 0, none⟩), .bool first] w (TokPost (tokL first r) g w) := by
  cases h0 : Lib.hasPrefix r [60, 33, 45, 45] with
  | true => exact token_comment g r first w hk hg hr h0
  | false =>
    cases h1 : Lib.hasPrefix r [60, 33, 91, 67, 68, 65, 84, 65, 91] with
    | true => exact token_cdata g r first w hk hg hr h0 h1
    | false =>
      cases h2 : Lib.hasPrefix r [60, 63] with
      | true =>
        cases first with
        | true => exact token_pro1 g r w hk hg hr h0 h1 h2
        | false => exact token_pro0 g r w hk hg hr h0 h1 h2
      | false =>
        cases h3 : Lib.hasPrefix r [60, 47] with
        | true => exact token_close g r first w hk hg hr h0 h1 h2 h3
        | false =>
          cases h4 : Lib.hasPrefix r [60] with
          | true => exact token_open g r first w hk hg hr h0 h1 h2 h3 h4
          | false => exact token_text g r first w hk hg hr h0 h1 h2 h3 h4

end Go.Proofs.YtkccockdnjjanaaGreatDoor
