/-
  The contract of a beginning (layer 2): its attributes, in order, each name once.
-/
import Derived.Test.YtkccockdnjjanaaGreatDoorTkText
import Derived.Test.YtkccockdnjjanaaGreatDoorGnMap
namespace Nwl
open Go
end Nwl
namespace Go.Proofs.YtkccockdnjjanaaGreatDoor
open Nwl
open Go.RowKit Go.Maps
set_option linter.unusedVariables false

/-- where a beginning stands: its boxes, its names, its attributes, and what is left -/
structure OpenAt (w : World) (g T M : Nat) (nm : List UInt8) (acc : List (List UInt8 × List UInt8)) (rest : List UInt8) (A : Option Addr) (l c : Nat) (w' : World) : Prop where
  hg : g < w.heap.size
  hT : w.heap.size < T
  hM : w.heap.size < M
  box : Blk w' w.heap.size 53 #[.int .i64 0, .string ⟨#[]⟩, .string ⟨#[]⟩, .slice none 0 0, .bool false]
  tok : Blk w' T 53 #[.int .i64 1, .string (tx nm), .string ⟨#[]⟩, .slice A l c, .bool false]
  map : w'.ownsMap Tryz.prog 9 (unitElem (H := Unit)) M acc.length (keysD acc)
  row : w'.ownsRow w.heap.size 61 2 (.slice A l c) acc.length (attrCells acc)
  wk : Wk g rest w'
  gr : w.grownBy w' (some g)
  glob : Glob w'
theorem OpenAt.walk {w w1 w2 : World} {g T M l c : Nat} {nm rest rest' : List UInt8} {acc : List (List UInt8 × List UInt8)} {A : Option Addr} (h : OpenAt w g T M nm acc rest A l c w1) (hg : w1.grownBy w2 (some g)) (hk : Wk g rest' w2) : OpenAt w g T M nm acc rest' A l c w2 where
  hg := h.hg
  hT := h.hT
  hM := h.hM
  box := h.box.grown hg (by have := h.hg; simp; omega)
  tok := h.tok.grown hg (by have := h.hg; have := h.hT; simp; omega)
  map := h.map.kept hg (by have := h.hg; have := h.hM; simp; omega)
  row := h.row.kept hg (by
    by_cases e : (Value.slice A l c).ownBlock = none
    · exact .inl e
    · refine .inr fun e2 => ?_
      have := (h.row.lt g e2).1
      have := h.hg
      omega)
  wk := hk
  gr := h.gr.trans hg
  glob := h.glob.grown h.wk hg
theorem OpenAt.alloc {w w1 : World} {g T M l c : Nat} {nm rest : List UInt8} {acc : List (List UInt8 × List UInt8)} {A : Option Addr} (h : OpenAt w g T M nm acc rest A l c w1) (o : Obj) : OpenAt w g T M nm acc rest A l c (w1.alloc o) where
  hg := h.hg
  hT := h.hT
  hM := h.hM
  box := h.box.alloc o
  tok := h.tok.alloc o
  map := h.map.alloc o
  row := h.row.alloc o
  wk := h.wk.alloc o
  gr := h.gr.trans (World.grownBy_alloc _ _ _)
  glob := h.glob.alloc o
/-- how much the walk has still to take -/
def wkLen (g : Nat) (w : World) : Nat := match w.heap[g]? with
  | some (.cells cs _ _) => strLen (cs.getD 0 undef)
  | _ => 0
theorem wkLen_eq {g : Nat} {r : List UInt8} {w : World} (h : Wk g r w) : wkLen g w = r.length := by
  unfold wkLen
  unfold Wk at h
  rw [h]
  show (tx r).size = _
  exact tx_size r
theorem OpenAt.done {w w1 : World} {g T M l c : Nat} {nm rest : List UInt8} {acc : List (List UInt8 × List UInt8)} {A : Option Addr} (h : OpenAt w g T M nm acc rest A l c w1) (u0 u1 u2 u3 u4 : Value) :
    (((((w1.setCell ⟨w.heap.size, 0, none⟩ u0).setCell ⟨w.heap.size, 1, none⟩ u1).setCell ⟨w.heap.size, 2, none⟩ u2).setCell ⟨w.heap.size, 3, none⟩ u3).setCell ⟨w.heap.size, 4, none⟩ u4).ownsRow w.heap.size 61 2 (.slice A l c) acc.length (attrCells acc) := by
  have h0 := own_ne h.row h.box (by decide)
  refine h.row.kept (row := some w.heap.size) ?_ (.inr h0)
  exact ((((grown_set _ _ _ _).trans (grown_set _ _ _ _)).trans (grown_set _ _ _ _)).trans (grown_set _ _ _ _)).trans (grown_set _ _ _ _)
theorem tokPost_open {o : Option (Tok × List UInt8)} {g l c : Nat} {A : Option Addr} {nm rest : List UInt8} {acc : List (List UInt8 × List UInt8)} {b : Bool} {w : World} {e : Ending} {w' : World} (h : o = some (⟨1, nm, [], acc, b⟩, rest)) (h1 : e = .returned (.tuple #[.agg #[.int .i64 1, .string (tx nm), .string ⟨#[]⟩, .slice A l c, .bool b], .bool true]))
    (hr : w'.ownsRow w.heap.size 61 2 (.slice A l c) acc.length (attrCells acc)) (h2 : Wk g rest w') (h3 : w.grownBy w' (some g)) : TokPost o g w e w' := by
  unfold TokPost; rw [h]; exact ⟨A, l, c, h1, hr, h2, h3⟩

set_option maxRecDepth 100000 in
set_option maxHeartbeats 2000000 in
theorem opening_empty (g : Nat) (r : List UInt8) (w : World) (hk : Wk g r w) (hr : r.length ≤ 100000) (hn : (nameP r).1 = []) :
    Calls Tryz.prog 71 #[.pointer (some ⟨g, 0, none⟩)] w (TokPost (openL r) g w) := by
  have hlt := hk.lt
  have hgne : g ≠ w.heap.size := by omega
  have HK := Lib.hid (hk.alloc (.cells #[.int .i64 0, .string ⟨#[]⟩, .string ⟨#[]⟩, .slice none 0 0, .bool false] 53))
  have HB0 := Lib.hid (Blk.new w 53 #[.int .i64 0, .string ⟨#[]⟩, .string ⟨#[]⟩, .slice none 0 0, .bool false])
  have hnl : (tx (nameP r).1).toList = [] := toList_nil_of _ (by rw [hn, tx_size]; rfl)
  have HN : Hid (openL r = none) := Lib.hid (by unfold openL; rw [if_pos hn])
  clear hk hn
  go_enter Tryz.func71, Tryz.ntmps71
  go_wp2_with fail
  go_step3
  go_wp2_with fail
  refine (name_c g _ _ HK.out hr).mono ?_
  rintro e w1 ⟨rfl, hk1, hg1⟩
  have HK1 := Lib.hid hk1
  have HB1 := Lib.hid (HB0.out.grown hg1 (by simp; omega))
  clear hk1
  have c0 := (HB1.out).cell 0
  have c1 := (HB1.out).cell 1
  have c2 := (HB1.out).cell 2
  have c3 := (HB1.out).cell 3
  have c4 := (HB1.out).cell 4
  have f0 := (HB1.out).frozen 0
  have f1 := (HB1.out).frozen 1
  have f2 := (HB1.out).frozen 2
  have f3 := (HB1.out).frozen 3
  have f4 := (HB1.out).frozen 4
  go_wp2_with fail
  rw [Exit.noGoto_ret]
  have HF := (((((HB1.out).set 0 (.int .i64 0)).set 1 (.string ⟨#[]⟩)).set 2 (.string ⟨#[]⟩)).set 3 (.slice none 0 0)).set 4 (.bool false)
  have d0 := HF.cell 0
  have d1 := HF.cell 1
  have d2 := HF.cell 2
  have d3 := HF.cell 3
  have d4 := HF.cell 4
  exact bodyPost_ret (v := .tuple #[.agg #[.int .i64 0, .string ⟨#[]⟩, .string ⟨#[]⟩, .slice none 0 0, .bool false], .bool false]) (by simp [results, Tryz.results71, go_sem, d0, d1, d2, d3, d4]) rfl (tokPost_none HN.out rfl (HK1.out.set5 hgne _ _ _ _ _) ((grown_after_alloc hg1).set5 (Nat.le_refl _) _ _ _ _ _))

set_option maxRecDepth 100000 in
set_option maxHeartbeats 8000000 in
theorem opening_some (g : Nat) (r : List UInt8) (w : World) (hk : Wk g r w) (hgl : Glob w) (hr : r.length ≤ 100000) (hn : ¬ (nameP r).1 = []) :
    Calls Tryz.prog 71 #[.pointer (some ⟨g, 0, none⟩)] w (TokPost (openL r) g w) := by
  have hlt := hk.lt
  have hgne : g ≠ w.heap.size := by omega
  have HK := Lib.hid (hk.alloc (.cells #[.int .i64 0, .string ⟨#[]⟩, .string ⟨#[]⟩, .slice none 0 0, .bool false] 53))
  have HG := Lib.hid (hgl.alloc (.cells #[.int .i64 0, .string ⟨#[]⟩, .string ⟨#[]⟩, .slice none 0 0, .bool false] 53))
  have HB0 := Lib.hid (Blk.new w 53 #[.int .i64 0, .string ⟨#[]⟩, .string ⟨#[]⟩, .slice none 0 0, .bool false])
  have hsz : 0 < (tx (nameP r).1).size := by
    rw [tx_size]
    cases h : (nameP r).1 with
    | nil => exact absurd h hn
    | cons => simp
  have hnl : ¬ (tx (nameP r).1).toList = [] := toList_ne_of _ hsz
  have hnl2 : (tx (nameP r).1).toList.isEmpty = false := by simpa using hnl
  have HO : Hid (openL r = (attrsL [] (nameP r).2).map fun (a, e, rest) => (⟨1, (nameP r).1, [], a, e⟩, rest)) := Lib.hid (by unfold openL; rw [if_neg hn]; rfl)
  have hl2 := nameP_le r
  have hmm := @run_makeMap Tryz.prog
  obtain ⟨i0, hi, hz0, hz1, hz2⟩ := info_parts info_at
  have HKW := Lib.hid hk
  have HGW := Lib.hid hgl
  clear hk hn hgl
  go_enter Tryz.func71, Tryz.ntmps71
  go_wp2_with fail
  refine wp_scope_again 0 (fun a' w' => ∃ (T M : Nat) (rest : List UInt8) (acc : List (List UInt8 × List UInt8)) (A : Option Addr) (l c : Nat) (u7 u8 u9 u10 u11 u12 u13 u14 u15 u16 u17 u18 u19 u20 u21 u22 u23 u24 u25 u26 u27 u28 u29 u30 u31 u32 u33 u34 u35 u36 u37 u38 u39 u40 u41 u42 u43 u44 u45 u46 u47 u48 u49 u50 u51 u52 u53 u54 u55 u56 u57 u58 u59 u60 : Value), a' = { tmps := #[.pointer (some ⟨g, 0, none⟩), undef, .pointer (some ⟨w.heap.size, 0, none⟩), .bool false, .string (tx (nameP r).1), .pointer (some ⟨T, 0, none⟩), .map (some M), u7, u8, u9, u10, u11, u12, u13, u14, u15, u16, u17, u18, u19, u20, u21, u22, u23, u24, u25, u26, u27, u28, u29, u30, u31, u32, u33, u34, u35, u36, u37, u38, u39, u40, u41, u42, u43, u44, u45, u46, u47, u48, u49, u50, u51, u52, u53, u54, u55, u56, u57, u58, u59, u60], defers := [] } ∧ Hid (OpenAt w g T M (nameP r).1 acc rest A l c w' ∧ rest.length + acc.length ≤ r.length ∧ attrsL [] (nameP r).2 = attrsL acc rest)) (fun _ w' => wkLen g w') rfl ?_ ?_
  · rintro a' w' ⟨T, M, rest, acc, A, l, c, u7, u8, u9, u10, u11, u12, u13, u14, u15, u16, u17, u18, u19, u20, u21, u22, u23, u24, u25, u26, u27, u28, u29, u30, u31, u32, u33, u34, u35, u36, u37, u38, u39, u40, u41, u42, u43, u44, u45, u46, u47, u48, u49, u50, u51, u52, u53, u54, u55, u56, u57, u58, u59, u60, rfl, hh⟩
    obtain ⟨hop, hlen, hat⟩ := hh.out
    clear hh
    have hwl := wkLen_eq hop.wk
    have HW := Lib.hid hwl
    have hrl : rest.length ≤ 100000 := by omega
    have hsk := skipL_le rest
    have HOP := Lib.hid hop
    clear hop hwl
    go_wp2_with fail
    refine (spaces_c g _ _ HOP.out.wk hrl).mono ?_
    rintro e w2 ⟨rfl, hk2, hg2⟩
    have HOP2 := Lib.hid (HOP.out.walk hg2 hk2)
    clear hk2 hg2
    have hsl : (skipL rest).length ≤ 100000 := by omega
    cases hp : Lib.hasPrefix (skipL rest) [62] with
    | true =>
      have HR : Hid (openL r = some (⟨1, (nameP r).1, [], acc, false⟩, (skipL rest).drop 1)) := Lib.hid (by rw [HO.out, hat, attrsL_gt hp]; rfl)
      have HP := Lib.hid hp
      clear hp hat
      go_wp2_with fail
      refine (skip_yes g _ _ _ HOP2.out.wk HP.out).mono ?_
      rintro e w3 ⟨rfl, hk3, hg3⟩
      have HOP3 := Lib.hid (HOP2.out.walk hg3 hk3)
      clear hk3 hg3
      have t0 := (HOP3.out.tok).cell 0
      have t1 := (HOP3.out.tok).cell 1
      have t2 := (HOP3.out.tok).cell 2
      have t3 := (HOP3.out.tok).cell 3
      have t4 := (HOP3.out.tok).cell 4
      have q0 := (HOP3.out.tok).frozen 0
      have q1 := (HOP3.out.tok).frozen 1
      have q2 := (HOP3.out.tok).frozen 2
      have q3 := (HOP3.out.tok).frozen 3
      have q4 := (HOP3.out.tok).frozen 4
      have c0 := (HOP3.out.box).cell 0
      have c1 := (HOP3.out.box).cell 1
      have c2 := (HOP3.out.box).cell 2
      have c3 := (HOP3.out.box).cell 3
      have c4 := (HOP3.out.box).cell 4
      have f0 := (HOP3.out.box).frozen 0
      have f1 := (HOP3.out.box).frozen 1
      have f2 := (HOP3.out.box).frozen 2
      have f3 := (HOP3.out.box).frozen 3
      have f4 := (HOP3.out.box).frozen 4
      go_wp2_with fail
      simp only [Exit.jump]
      have HF := (((((HOP3.out.box).set 0 (.int .i64 1)).set 1 (.string (tx (nameP r).1))).set 2 (.string ⟨#[]⟩)).set 3 (.slice A l c)).set 4 (.bool false)
      have d0 := HF.cell 0
      have d1 := HF.cell 1
      have d2 := HF.cell 2
      have d3 := HF.cell 3
      have d4 := HF.cell 4
      exact bodyPost_ret (v := .tuple #[.agg #[.int .i64 1, .string (tx (nameP r).1), .string ⟨#[]⟩, .slice A l c, .bool false], .bool true]) (by simp [results, Tryz.results71, go_sem, d0, d1, d2, d3, d4]) rfl (tokPost_open HR.out rfl (HOP3.out.done _ _ _ _ _) (HOP3.out.wk.set5 hgne _ _ _ _ _) (HOP3.out.gr.set5 (Nat.le_refl _) _ _ _ _ _))
    | false =>
      have HP := Lib.hid hp
      go_wp2_with fail
      refine (skip_no g _ _ _ HOP2.out.wk HP.out).mono ?_
      rintro e w3 ⟨rfl, hk3, hg3⟩
      have HOP3 := Lib.hid (HOP2.out.walk hg3 hk3)
      clear hk3 hg3
      cases hq : Lib.hasPrefix (skipL rest) [47, 62] with
      | true =>
        have HR : Hid (openL r = some (⟨1, (nameP r).1, [], acc, true⟩, (skipL rest).drop 2)) := Lib.hid (by rw [HO.out, hat, attrsL_sl hp hq]; rfl)
        have HQ := Lib.hid hq
        clear hp hq hat
        go_wp2_with fail
        refine (skip_yes g _ _ _ HOP3.out.wk HQ.out).mono ?_
        rintro e w4 ⟨rfl, hk4, hg4⟩
        have HOP4 := Lib.hid (HOP3.out.walk hg4 hk4)
        clear hk4 hg4
        have hTw := HOP4.out.hT
        have hTn : ¬ T = w.heap.size := by omega
        have hTn' : ¬ w.heap.size = T := by omega
        have t0 := (HOP4.out.tok).cell 0
        have t1 := (HOP4.out.tok).cell 1
        have t2 := (HOP4.out.tok).cell 2
        have t3 := (HOP4.out.tok).cell 3
        have t4 := (HOP4.out.tok).cell 4
        have q0 := (HOP4.out.tok).frozen 0
        have q1 := (HOP4.out.tok).frozen 1
        have q2 := (HOP4.out.tok).frozen 2
        have q3 := (HOP4.out.tok).frozen 3
        have q4 := (HOP4.out.tok).frozen 4
        have c0 := (HOP4.out.box).cell 0
        have c1 := (HOP4.out.box).cell 1
        have c2 := (HOP4.out.box).cell 2
        have c3 := (HOP4.out.box).cell 3
        have c4 := (HOP4.out.box).cell 4
        have f0 := (HOP4.out.box).frozen 0
        have f1 := (HOP4.out.box).frozen 1
        have f2 := (HOP4.out.box).frozen 2
        have f3 := (HOP4.out.box).frozen 3
        have f4 := (HOP4.out.box).frozen 4
        go_wp2_with fail
        simp only [Exit.jump]
        have HBT := HOP4.out.box.set_far (i := 4) hTn' (.bool true)
        have HRT := HOP4.out.row.kept (grown_set w4 T 4 (.bool true)) (.inr (own_ne HOP4.out.row HOP4.out.tok (by decide)))
        have hgT : g ≠ T := by omega
        have HF := (((((HBT).set 0 (.int .i64 1)).set 1 (.string (tx (nameP r).1))).set 2 (.string ⟨#[]⟩)).set 3 (.slice A l c)).set 4 (.bool true)
        have d0 := HF.cell 0
        have d1 := HF.cell 1
        have d2 := HF.cell 2
        have d3 := HF.cell 3
        have d4 := HF.cell 4
        exact bodyPost_ret (v := .tuple #[.agg #[.int .i64 1, .string (tx (nameP r).1), .string ⟨#[]⟩, .slice A l c, .bool true], .bool true]) (by simp [results, Tryz.results71, go_sem, d0, d1, d2, d3, d4]) rfl (tokPost_open HR.out rfl (row_done HRT HBT _ _ _ _ _) ((HOP4.out.wk.set_far hgT _).set5 hgne _ _ _ _ _) ((grown_set_new HOP4.out.gr (by omega) _).set5 (Nat.le_refl _) _ _ _ _ _))
      | false =>
        have HQ := Lib.hid hq
        go_wp2_with fail
        refine (skip_no g _ _ _ HOP3.out.wk HQ.out).mono ?_
        rintro e w4 ⟨rfl, hk4, hg4⟩
        have HOP4 := Lib.hid (HOP3.out.walk hg4 hk4)
        clear hk4 hg4
        cases ha : attrL (skipL rest) with
        | none =>
          have HR : Hid (openL r = none) := Lib.hid (by rw [HO.out, hat, attrsL_bad hp hq ha]; rfl)
          have HA := Lib.hid ha
          clear hp hq hat ha
          go_wp2_with fail
          refine (attr_c g _ _ HOP4.out.wk HOP4.out.glob hsl).mono ?_
          intro e w5 hp5
          unfold AttrPost at hp5
          rw [HA.out] at hp5
          obtain ⟨rfl, ⟨r5, hk5⟩, hg5⟩ := hp5
          have HOP5 := Lib.hid (HOP4.out.walk hg5 hk5)
          clear hk5 hg5
          have hkey : keyOf Tryz.prog 9 (.string ⟨#[]⟩) = some (.string []) := WideMaps.keyOf_string_mk (s := ⟨#[]⟩) Tryz.underlying9 (by decide)
          have HKY := Lib.hid hkey
          have hRlt := HOP5.out.box.lt
          clear hkey
          have c0 := (HOP5.out.box).cell 0
          have c1 := (HOP5.out.box).cell 1
          have c2 := (HOP5.out.box).cell 2
          have c3 := (HOP5.out.box).cell 3
          have c4 := (HOP5.out.box).cell 4
          have f0 := (HOP5.out.box).frozen 0
          have f1 := (HOP5.out.box).frozen 1
          have f2 := (HOP5.out.box).frozen 2
          have f3 := (HOP5.out.box).frozen 3
          have f4 := (HOP5.out.box).frozen 4
          go_wp2_with (at_lookup; refine wpList_lookup_own_unit _ rfl _ _ 113 rfl 9 116 lawS Tryz.underlying113 (zeroU _) M acc.length (keysD acc) rfl (HOP5.out.map.alloc _) _ _ rfl HKY.out ?_)
          simp only [Exit.jump]
          have HF0 := (((((HOP5.out.box).set 0 (.int .i64 0)).set 1 (.string ⟨#[]⟩)).set 2 (.string ⟨#[]⟩)).set 3 (.slice none 0 0)).set 4 (.bool false)
          have HF := (HF0.alloc (.cells #[.string ⟨#[]⟩, .string ⟨#[]⟩] 61)).alloc (.cells #[] 116)
          have d0 := HF.cell 0
          have d1 := HF.cell 1
          have d2 := HF.cell 2
          have d3 := HF.cell 3
          have d4 := HF.cell 4
          exact bodyPost_ret (v := .tuple #[.agg #[.int .i64 0, .string ⟨#[]⟩, .string ⟨#[]⟩, .slice none 0 0, .bool false], .bool false]) (by simp [results, Tryz.results71, go_sem, d0, d1, d2, d3, d4]) rfl (tokPost_none HR.out rfl (((HOP5.out.wk.set5 hgne _ _ _ _ _).alloc _).alloc _) (((HOP5.out.gr.set5 (Nat.le_refl _) _ _ _ _ _).trans (World.grownBy_alloc _ _ _)).trans (World.grownBy_alloc _ _ _)))
        | some x =>
          obtain ⟨⟨n, v⟩, rest2⟩ := x
          have hal := attrL_lt ha
          have hnl3 : (tx n).size ≤ maxLen := by
            rw [tx_size]
            have := attrL_name ha
            unfold maxLen
            omega
          have hkey : keyOf Tryz.prog 9 (.string (tx n)) = some (.string n) := WideMaps.keyOf_string_mk (s := tx n) Tryz.underlying9 hnl3
          have HKY := Lib.hid hkey
          have HA := Lib.hid ha
          clear hkey
          have hhas : Maps.has (keysD acc) (.string n) = takenB acc n := has_keys acc n
          go_wp2_with fail
          refine (attr_c g _ _ HOP4.out.wk HOP4.out.glob hsl).mono ?_
          intro e w5 hp5
          unfold AttrPost at hp5
          rw [HA.out] at hp5
          obtain ⟨rfl, hk5, hg5⟩ := hp5
          have HOP5 := Lib.hid (HOP4.out.walk hg5 hk5)
          clear hk5 hg5
          have hRlt := HOP5.out.box.lt
          cases hsp : spB rest with
          | false =>
            have HR : Hid (openL r = none) := Lib.hid (by rw [HO.out, hat, attrsL_near hp hq hsp]; rfl)
            clear hp hq hat ha hal
            have c0 := (HOP5.out.box).cell 0
            have c1 := (HOP5.out.box).cell 1
            have c2 := (HOP5.out.box).cell 2
            have c3 := (HOP5.out.box).cell 3
            have c4 := (HOP5.out.box).cell 4
            have f0 := (HOP5.out.box).frozen 0
            have f1 := (HOP5.out.box).frozen 1
            have f2 := (HOP5.out.box).frozen 2
            have f3 := (HOP5.out.box).frozen 3
            have f4 := (HOP5.out.box).frozen 4
            go_wp2_with (at_lookup; refine wpList_lookup_own_unit _ rfl _ _ 113 rfl 9 116 lawS Tryz.underlying113 (zeroU _) M acc.length (keysD acc) rfl (HOP5.out.map.alloc _) _ _ rfl HKY.out ?_)
            simp only [Exit.jump]
            have HF0 := (((((HOP5.out.box).set 0 (.int .i64 0)).set 1 (.string ⟨#[]⟩)).set 2 (.string ⟨#[]⟩)).set 3 (.slice none 0 0)).set 4 (.bool false)
            have HF := (HF0.alloc (.cells #[.string (tx n), .string (tx v)] 61)).alloc (.cells #[] 116)
            have d0 := HF.cell 0
            have d1 := HF.cell 1
            have d2 := HF.cell 2
            have d3 := HF.cell 3
            have d4 := HF.cell 4
            exact bodyPost_ret (v := .tuple #[.agg #[.int .i64 0, .string ⟨#[]⟩, .string ⟨#[]⟩, .slice none 0 0, .bool false], .bool false]) (by simp [results, Tryz.results71, go_sem, d0, d1, d2, d3, d4]) rfl (tokPost_none HR.out rfl (((HOP5.out.wk.set5 hgne _ _ _ _ _).alloc _).alloc _) (((HOP5.out.gr.set5 (Nat.le_refl _) _ _ _ _ _).trans (World.grownBy_alloc _ _ _)).trans (World.grownBy_alloc _ _ _)))
          | true =>
            cases htk : takenB acc n with
            | true =>
              rw [htk] at hhas
              have HR : Hid (openL r = none) := Lib.hid (by rw [HO.out, hat, attrsL_twice hp hq ha htk]; rfl)
              clear hp hq hat ha hal
              have c0 := (HOP5.out.box).cell 0
              have c1 := (HOP5.out.box).cell 1
              have c2 := (HOP5.out.box).cell 2
              have c3 := (HOP5.out.box).cell 3
              have c4 := (HOP5.out.box).cell 4
              have f0 := (HOP5.out.box).frozen 0
              have f1 := (HOP5.out.box).frozen 1
              have f2 := (HOP5.out.box).frozen 2
              have f3 := (HOP5.out.box).frozen 3
              have f4 := (HOP5.out.box).frozen 4
              go_wp2_with (at_lookup; refine wpList_lookup_own_unit _ rfl _ _ 113 rfl 9 116 lawS Tryz.underlying113 (zeroU _) M acc.length (keysD acc) rfl (HOP5.out.map.alloc _) _ _ rfl HKY.out ?_)
              simp only [Exit.jump]
              have HF0 := (((((HOP5.out.box).set 0 (.int .i64 0)).set 1 (.string ⟨#[]⟩)).set 2 (.string ⟨#[]⟩)).set 3 (.slice none 0 0)).set 4 (.bool false)
              have HF := (HF0.alloc (.cells #[.string (tx n), .string (tx v)] 61)).alloc (.cells #[] 116)
              have d0 := HF.cell 0
              have d1 := HF.cell 1
              have d2 := HF.cell 2
              have d3 := HF.cell 3
              have d4 := HF.cell 4
              exact bodyPost_ret (v := .tuple #[.agg #[.int .i64 0, .string ⟨#[]⟩, .string ⟨#[]⟩, .slice none 0 0, .bool false], .bool false]) (by simp [results, Tryz.results71, go_sem, d0, d1, d2, d3, d4]) rfl (tokPost_none HR.out rfl (((HOP5.out.wk.set5 hgne _ _ _ _ _).alloc _).alloc _) (((HOP5.out.gr.set5 (Nat.le_refl _) _ _ _ _ _).trans (World.grownBy_alloc _ _ _)).trans (World.grownBy_alloc _ _ _)))
            | false =>
              have HAT : Hid (attrsL [] (nameP r).2 = attrsL (acc ++ [(n, v)]) rest2) := Lib.hid (by rw [hat, attrsL_on hp hq hsp ha htk])
              have HAL := Lib.hid hal
              have hacc : acc.length ≤ 100000 := by omega
              clear hp hq hat ha hal
              rw [htk] at hhas
              go_wp2_with (first
                | (at_lookup; refine wpList_lookup_own_unit _ rfl _ _ 113 rfl 9 116 lawS Tryz.underlying113 (zeroU _) M acc.length (keysD acc) rfl (HOP5.out.map.alloc _) _ _ rfl HKY.out ?_)
                | (at_mapUpdate
                   refine wpList_mapUpdate_own _ rfl _ _ _ 113 rfl 9 116 lawS Tryz.underlying113 (unitElem (H := Unit)) M acc.length (keysD acc) rfl ((HOP5.out.map.alloc _).alloc _) (by unfold maxLen; omega) _ _ _ rfl rfl HKY.out _ [] unitElem_mk ?_
                   intro w6 hown6 hgrow6
                   have HM6 := Lib.hid hown6
                   have HG6 := Lib.hid hgrow6
                   have hTM : T ≠ M := blk_ne_map HOP5.out.tok HOP5.out.map
                   have hBM : w.heap.size ≠ M := blk_ne_map HOP5.out.box HOP5.out.map
                   have hgM : g ≠ M := by have := HOP5.out.hM; omega
                   have hs6 := hgrow6.size
                   have hTlt := HOP5.out.hT
                   have hT6 := HOP5.out.tok.lt
                   clear hown6 hgrow6
                   have HT6 : Hid (Blk w6 T 53 #[.int .i64 1, .string (tx (nameP r).1), .string ⟨#[]⟩, .slice A l c, .bool false]) := Lib.hid (((HOP5.out.tok.alloc _).alloc _).grown HG6.out (by simpa using hTM))
                   have HB6 := Lib.hid (((HOP5.out.box.alloc _).alloc _).grown HG6.out (by simpa using hBM))
                   have HA6 := Lib.hid (((Blk.new w5 61 #[.string (tx n), .string (tx v)]).alloc (.cells #[] 116)).grown HG6.out (by have := HOP5.out.map.lt; simp; omega))
                   have HW6 := Lib.hid (((HOP5.out.wk.alloc _).alloc _).grown HG6.out (by simpa using hgM))
                   have HR6 := Lib.hid (((HOP5.out.row.alloc _).alloc _).kept HG6.out (.inr (own_ne_map ((HOP5.out.row.alloc (.cells #[.string (tx n), .string (tx v)] 61)).alloc (.cells #[] 116)) ((HOP5.out.map.alloc _).alloc _))))
                   have HGR6 : Hid (w.grownBy w6 (some g)) := Lib.hid (((HOP5.out.gr.trans (World.grownBy_alloc _ _ _)).trans (World.grownBy_alloc _ _ _)).andThen HG6.out (fun j hj => by have := HOP5.out.hM; simp at hj; omega))
                   have hws6 := HGR6.out.size
                   have t0 := HT6.out.cell 0
                   have t1 := HT6.out.cell 1
                   have t2 := HT6.out.cell 2
                   have t3 := HT6.out.cell 3
                   have t4 := HT6.out.cell 4
                   have q3 := HT6.out.frozen 3
                   have a0 := HA6.out.cell 0
                   have a1 := HA6.out.cell 1)
                | (at_builtin
                   refine wpList_append_own_at _ rfl _ _ 30 rfl w.heap.size 61 i0 _ 2 32 Tryz.underlying30 hi hz0 hz1 hz2 rfl (by decide) _ acc.length (attrCells acc) rfl (HR6.out.alloc _) ⟨w6.heap.size, 0, none⟩ 1 1 [.string (tx n), .string (tx v)] rfl rfl (cells_two_new _ _ _ _) (two_oneCell _ _) (by unfold maxLen; omega) (by omega) (by simp; omega) ?_
                   intro v' w8 hown8 hgrow8 _ _
                   obtain ⟨A', c', rfl⟩ := own_form hown8
                   have HR8 := Lib.hid hown8
                   have HG8 := Lib.hid hgrow8
                   have hTR : (Value.slice A l c).ownBlock ≠ some T := own_ne HR6.out HT6.out (by decide)
                   have hBR : (Value.slice A l c).ownBlock ≠ some w.heap.size := own_ne HR6.out HB6.out (by decide)
                   have hMR : (Value.slice A l c).ownBlock ≠ some M := own_ne_map HR6.out HM6.out
                   have hgR : (Value.slice A l c).ownBlock ≠ some g := fun e => by have := (HR6.out.lt g e).1; omega
                   clear hown8 hgrow8
                   have HT8 := Lib.hid ((HT6.out.alloc _).grown HG8.out (fun e => hTR e.symm))
                   have z3 := HT8.out.cell 3
                   have y3 := HT8.out.frozen 3))
              go_step3
              have HB8 := (HB6.out.alloc _).grown HG8.out (fun e => hBR e.symm)
              have HW8 := (HW6.out.alloc _).grown HG8.out (fun e => hgR e.symm)
              have HM8 := (HM6.out.alloc _).kept HG8.out (fun e => hMR e.symm)
              have HGR8 := (HGR6.out.trans (World.grownBy_alloc _ _ _)).andThen HG8.out (fun j hj => .inl (HR6.out.lt j hj).1)
              have hgT : g ≠ T := by omega
              have hlen2 : (acc ++ [(n, v)]).length = acc.length + 1 := by simp
              have HFIN : OpenAt w g T M (nameP r).1 (acc ++ [(n, v)]) rest2 A' (acc.length + 1) c' (w8.setCell ⟨T, 3, none⟩ (.slice A' (acc.length + 1) c')) :=
                { hg := HOP5.out.hg
                  hT := HOP5.out.hT
                  hM := HOP5.out.hM
                  box := HB8.set_far (by omega) _
                  tok := HT8.out.set 3 _
                  map := by
                    rw [hlen2, keysD_snoc]
                    exact HM8.setCell (fun e => hTM e.symm) _
                  row := by
                    rw [hlen2, attrCells_snoc]
                    exact HR8.out.kept (grown_set _ _ _ _) (.inr (own_ne HR8.out HT8.out (by decide)))
                  wk := HW8.set_far hgT _
                  gr := grown_set_new HGR8 (by omega) _
                  glob := HGW.out.grown HKW.out (grown_set_new HGR8 (by omega) _) }
              refine ⟨rfl, ⟨T, M, rest2, acc ++ [(n, v)], A', acc.length + 1, c', _, _, _, _, _, _, _, _, _, _, _, _, _, _, _, _, _, _, _, _, _, _, _, _, _, _, _, _, _, _, _, _, _, _, _, _, _, _, _, _, _, _, _, _, _, _, _, _, _, _, _, _, _, _, rfl, HFIN, ?_, HAT.out⟩, ?_⟩
              · have := HAL.out
                rw [hlen2]
                omega
              · have := HAL.out
                rw [wkLen_eq HFIN.wk, HW.out]
                omega
  · intro hpass
    go_wp2_with fail
    refine (name_c g _ _ HK.out hr).mono ?_
    rintro e w1 ⟨rfl, hk1, hg1⟩
    have HK1 := Lib.hid hk1
    have HB1 := Lib.hid (HB0.out.grown hg1 (by simp; omega))
    have hw1 := hg1.size
    have HG1 := Lib.hid hg1
    clear hk1 hg1
    go_wp2_with fail
    go_step3
    rename_i hK
    refine hK _ _ (hpass.out _ _ ⟨w1.heap.size, w1.heap.size + 1, (nameP r).2, [], none, 0, 0, _, _, _, _, _, _, _, _, _, _, _, _, _, _, _, _, _, _, _, _, _, _, _, _, _, _, _, _, _, _, _, _, _, _, _, _, _, _, _, _, _, _, _, _, _, _, _, _, _, _, _, _, _, _, rfl, ?_, by simpa using hl2, rfl⟩)
    have hsz1 : w.heap.size < w1.heap.size := by simp at hw1; omega
    have hGR := ((grown_after_alloc HG1.out).trans (World.grownBy_alloc w1 (.cells #[.int .i64 1, .string (tx (nameP r).1), .string ⟨#[]⟩, .slice none 0 0, .bool false] 53) _)).trans (World.grownBy_alloc _ (.map #[] 0) _)
    exact
      { hg := hlt
        hT := hsz1
        hM := by omega
        box := (HB1.out.alloc _).alloc _
        tok := (Blk.new w1 _ _).alloc _
        map := by
          have := World.ownsMap_made (w1.alloc (.cells #[.int .i64 1, .string (tx (nameP r).1), .string ⟨#[]⟩, .slice none 0 0, .bool false] 53)) Tryz.prog 9 (unitElem (H := Unit))
          have e : (w1.alloc (.cells #[.int .i64 1, .string (tx (nameP r).1), .string ⟨#[]⟩, .slice none 0 0, .bool false] 53)).heap.size = w1.heap.size + 1 := by simp
          rw [e] at this
          exact this
        row := World.ownsRow_nil _ _ _ _
        wk := (HK1.out.alloc _).alloc _
        gr := hGR
        glob := HGW.out.grown HKW.out hGR }

end Go.Proofs.YtkccockdnjjanaaGreatDoor
