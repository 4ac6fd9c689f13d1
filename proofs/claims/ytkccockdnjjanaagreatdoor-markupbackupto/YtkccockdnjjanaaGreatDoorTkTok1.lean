/-
  Contracts of the tokens without attributes (layer 2): comment, closing, text.
-/
import Derived.Test.YtkccockdnjjanaaGreatDoorTkKept
namespace Go.Proofs.YtkccockdnjjanaaGreatDoor
open Nwl
open Go.RowKit
set_option linter.unusedVariables false

/-- what a token's step answers: the token, with its attributes in a row of the call's own, and what is left; or nothing -/
def TokPost (o : Option (Tok × List UInt8)) (g : Nat) (w : World) (e : Ending) (w' : World) : Prop :=
  match o with
  | some (t, rest) => ∃ (A : Option Addr) (l c : Nat), e = .returned (.tuple #[.agg #[.int .i64 (t.kind : Int), .string (tx t.name), .string (tx t.text), .slice A l c, .bool t.empty], .bool true]) ∧ w'.ownsRow w.heap.size 61 2 (.slice A l c) t.attrs.length (attrCells t.attrs) ∧ Wk g rest w' ∧ w.grownBy w' (some g)
  | none => e = .returned (.tuple #[.agg #[.int .i64 0, .string ⟨#[]⟩, .string ⟨#[]⟩, .slice none 0 0, .bool false], .bool false]) ∧ (∃ r', Wk g r' w') ∧ w.grownBy w' (some g)
theorem tokPost_plain {o : Option (Tok × List UInt8)} {g k : Nat} {n x rest : List UInt8} {w : World} {e : Ending} {w' : World} (h : o = some (⟨k, n, x, [], false⟩, rest)) (h1 : e = .returned (.tuple #[.agg #[.int .i64 (k : Int), .string (tx n), .string (tx x), .slice none 0 0, .bool false], .bool true])) (h2 : Wk g rest w') (h3 : w.grownBy w' (some g)) : TokPost o g w e w' := by
  unfold TokPost; rw [h]; exact ⟨none, 0, 0, h1, World.ownsRow_nil _ _ _ _, h2, h3⟩
theorem tokPost_none {o : Option (Tok × List UInt8)} {g : Nat} {r' : List UInt8} {w : World} {e : Ending} {w' : World} (h : o = none) (h1 : e = .returned (.tuple #[.agg #[.int .i64 0, .string ⟨#[]⟩, .string ⟨#[]⟩, .slice none 0 0, .bool false], .bool false])) (h2 : Wk g r' w') (h3 : w.grownBy w' (some g)) : TokPost o g w e w' := by
  unfold TokPost; rw [h]; exact ⟨h1, ⟨r', h2⟩, h3⟩
theorem Wk.set5 {g b : Nat} {r : List UInt8} {w : World} (h : Wk g r w) (hne : g ≠ b) (u0 u1 u2 u3 u4 : Value) :
    Wk g r (((((w.setCell ⟨b, 0, none⟩ u0).setCell ⟨b, 1, none⟩ u1).setCell ⟨b, 2, none⟩ u2).setCell ⟨b, 3, none⟩ u3).setCell ⟨b, 4, none⟩ u4) :=
  ((((h.set_far hne _).set_far hne _).set_far hne _).set_far hne _).set_far hne _
theorem _root_.Go.World.grownBy.set5 {w w' : World} {row : Option Nat} (h : w.grownBy w' row) {b : Nat} (hb : w.heap.size ≤ b) (u0 u1 u2 u3 u4 : Value) :
    w.grownBy (((((w'.setCell ⟨b, 0, none⟩ u0).setCell ⟨b, 1, none⟩ u1).setCell ⟨b, 2, none⟩ u2).setCell ⟨b, 3, none⟩ u3).setCell ⟨b, 4, none⟩ u4) row :=
  grown_set_new (grown_set_new (grown_set_new (grown_set_new (grown_set_new h hb _) hb _) hb _) hb _) hb _

theorem ContainsG_c (s : ByteArray) (l : List UInt8) (w : World) (hs : s.size ≤ 200000) (hg : Glob w) :
    Calls Tryz.prog 93 #[.string s, .string ⟨l.toArray⟩] w fun e w' => e = .returned (.bool (Lib.contains (bs s) l)) ∧ w = w' := by
  obtain ⟨⟨m, hm⟩, _⟩ := hg
  exact (Tryz.strings_Contains s ⟨l.toArray⟩ m w (by omega) hm).mono fun _ _ ⟨a, b⟩ => ⟨a, b.symm⟩

set_option maxRecDepth 100000 in
set_option maxHeartbeats 2000000 in
theorem comment_c (g : Nat) (r : List UInt8) (w : World) (hk : Wk g r w) (hg : Glob w) (hr : r.length ≤ 100000) :
    Calls Tryz.prog 67 #[.pointer (some ⟨g, 0, none⟩)] w (TokPost (commentL r) g w) := by
  have hlt := hk.lt
  have hgne : g ≠ w.heap.size := by omega
  have HK := Lib.hid (hk.alloc (.cells #[.int .i64 0, .string ⟨#[]⟩, .string ⟨#[]⟩, .slice none 0 0, .bool false] 53))
  have HG := Lib.hid (hg.alloc (.cells #[.int .i64 0, .string ⟨#[]⟩, .string ⟨#[]⟩, .slice none 0 0, .bool false] 53))
  have HB0 := Lib.hid (Blk.new w 53 #[.int .i64 0, .string ⟨#[]⟩, .string ⟨#[]⟩, .slice none 0 0, .bool false])
  clear hk hg
  cases hc : cutL [45, 45, 62] r with
  | none =>
    have HN : Hid (commentL r = none) := Lib.hid (by unfold commentL; rw [hc])
    have HC := Lib.hid hc
    clear hc
    go_enter Tryz.func67, Tryz.ntmps67
    go_wp2_with fail
    refine (upTo_no g _ _ _ HK.out HG.out hr HC.out).mono ?_
    rintro e w1 ⟨rfl, hk1, hg1⟩
    have HK1 := Lib.hid hk1
    have HB1 := Lib.hid (HB0.out.grown hg1 (by simp; omega))
    clear hk1
    go_wp2_with fail
    refine (kept_no _ _ _ _ _ _ _ _).mono ?_
    rintro e w2 ⟨rfl, hb2⟩
    have HB2 := Lib.hid (HB1.out.below hb2)
    have c0 := (HB2.out).cell 0
    have c1 := (HB2.out).cell 1
    have c2 := (HB2.out).cell 2
    have c3 := (HB2.out).cell 3
    have c4 := (HB2.out).cell 4
    have f0 := (HB2.out).frozen 0
    have f1 := (HB2.out).frozen 1
    have f2 := (HB2.out).frozen 2
    have f3 := (HB2.out).frozen 3
    have f4 := (HB2.out).frozen 4
    go_wp2_with fail
    have HF := (((((HB2.out).set 0 (.int .i64 0)).set 1 (.string ⟨#[]⟩)).set 2 (.string ⟨#[]⟩)).set 3 (.slice none 0 0)).set 4 (.bool false)
    have d0 := HF.cell 0
    have d1 := HF.cell 1
    have d2 := HF.cell 2
    have d3 := HF.cell 3
    have d4 := HF.cell 4
    exact bodyPost_ret (v := .tuple #[.agg #[.int .i64 0, .string ⟨#[]⟩, .string ⟨#[]⟩, .slice none 0 0, .bool false], .bool false]) (by simp [results, Tryz.results67, go_sem, d0, d1, d2, d3, d4]) rfl (tokPost_none HN.out rfl ((HK1.out.below hb2).set5 hgne _ _ _ _ _) ((grown_after_alloc (hg1.trans (grown_of_below hb2 _))).set5 (Nat.le_refl _) _ _ _ _ _))
  | some q =>
    obtain ⟨x, rest⟩ := q
    have hsum := cutL_sum hc
    have hxl : (tx x).size ≤ 100000 := by rw [tx_size]; simp at hsum; omega
    have hxl2 : (tx x ++ ⟨#[45]⟩).size ≤ 200000 := by
      rw [← bs_length, bs_append, List.length_append, bs_length]
      show (tx x).size + 1 ≤ 200000
      omega
    have hbx : bs (tx x ++ ⟨#[45]⟩) = x ++ [45] := by rw [bs_append, bs_tx]; rfl
    have HBX := Lib.hid hbx
    have HC := Lib.hid hc
    clear hsum hbx
    cases hd : Lib.contains (x ++ [45]) [45, 45] with
    | true =>
      have HN : Hid (commentL r = none) := Lib.hid (by unfold commentL; rw [hc]; simp only [hd, if_true])
      have HD := Lib.hid hd
      clear hc hd
      go_enter Tryz.func67, Tryz.ntmps67
      go_wp2_with fail
      refine (upTo_yes g _ _ _ _ _ HK.out HG.out hr HC.out).mono ?_
      rintro e w1 ⟨rfl, hk1, hg1⟩
      have HK1 := Lib.hid hk1
      have HG1 := Lib.hid (HG.out.grown HK.out hg1)
      have HB1 := Lib.hid (HB0.out.grown hg1 (by simp; omega))
      clear hk1
      go_wp2_with fail
      refine (ContainsG_c _ _ _ hxl2 HG1.out).mono ?_
      rintro e w1' ⟨rfl, rfl⟩
      rw [HBX.out, HD.out]
      go_wp2_with fail
      refine (kept_no _ _ _ _ _ _ _ _).mono ?_
      rintro e w2 ⟨rfl, hb2⟩
      have HB2 := Lib.hid (HB1.out.below hb2)
      have c0 := (HB2.out).cell 0
      have c1 := (HB2.out).cell 1
      have c2 := (HB2.out).cell 2
      have c3 := (HB2.out).cell 3
      have c4 := (HB2.out).cell 4
      have f0 := (HB2.out).frozen 0
      have f1 := (HB2.out).frozen 1
      have f2 := (HB2.out).frozen 2
      have f3 := (HB2.out).frozen 3
      have f4 := (HB2.out).frozen 4
      go_wp2_with fail
      have HF := (((((HB2.out).set 0 (.int .i64 0)).set 1 (.string ⟨#[]⟩)).set 2 (.string ⟨#[]⟩)).set 3 (.slice none 0 0)).set 4 (.bool false)
      have d0 := HF.cell 0
      have d1 := HF.cell 1
      have d2 := HF.cell 2
      have d3 := HF.cell 3
      have d4 := HF.cell 4
      exact bodyPost_ret (v := .tuple #[.agg #[.int .i64 0, .string ⟨#[]⟩, .string ⟨#[]⟩, .slice none 0 0, .bool false], .bool false]) (by simp [results, Tryz.results67, go_sem, d0, d1, d2, d3, d4]) rfl (tokPost_none HN.out rfl ((HK1.out.below hb2).set5 hgne _ _ _ _ _) ((grown_after_alloc (hg1.trans (grown_of_below hb2 _))).set5 (Nat.le_refl _) _ _ _ _ _))
    | false =>
      have HN : Hid (commentL r = some (⟨4, [], x, [], false⟩, rest)) := Lib.hid (by unfold commentL; rw [hc]; simp only [hd]; rfl)
      have HD := Lib.hid hd
      clear hc hd
      go_enter Tryz.func67, Tryz.ntmps67
      go_wp2_with fail
      refine (upTo_yes g _ _ _ _ _ HK.out HG.out hr HC.out).mono ?_
      rintro e w1 ⟨rfl, hk1, hg1⟩
      have HK1 := Lib.hid hk1
      have HG1 := Lib.hid (HG.out.grown HK.out hg1)
      have HB1 := Lib.hid (HB0.out.grown hg1 (by simp; omega))
      clear hk1
      go_wp2_with fail
      refine (ContainsG_c _ _ _ hxl2 HG1.out).mono ?_
      rintro e w1' ⟨rfl, rfl⟩
      rw [HBX.out, HD.out]
      go_wp2_with fail
      refine (kept_yes _ _ _ _ _ _ _ _).mono ?_
      rintro e w2 ⟨rfl, hb2⟩
      have HB2 := Lib.hid (HB1.out.below hb2)
      have c0 := (HB2.out).cell 0
      have c1 := (HB2.out).cell 1
      have c2 := (HB2.out).cell 2
      have c3 := (HB2.out).cell 3
      have c4 := (HB2.out).cell 4
      have f0 := (HB2.out).frozen 0
      have f1 := (HB2.out).frozen 1
      have f2 := (HB2.out).frozen 2
      have f3 := (HB2.out).frozen 3
      have f4 := (HB2.out).frozen 4
      go_wp2_with fail
      have HF := (((((HB2.out).set 0 (.int .i64 4)).set 1 (.string ⟨#[]⟩)).set 2 (.string (tx x))).set 3 (.slice none 0 0)).set 4 (.bool false)
      have d0 := HF.cell 0
      have d1 := HF.cell 1
      have d2 := HF.cell 2
      have d3 := HF.cell 3
      have d4 := HF.cell 4
      exact bodyPost_ret (v := .tuple #[.agg #[.int .i64 4, .string ⟨#[]⟩, .string (tx x), .slice none 0 0, .bool false], .bool true]) (by simp [results, Tryz.results67, go_sem, d0, d1, d2, d3, d4]) rfl (tokPost_plain HN.out rfl ((HK1.out.below hb2).set5 hgne _ _ _ _ _) ((grown_after_alloc (hg1.trans (grown_of_below hb2 _))).set5 (Nat.le_refl _) _ _ _ _ _))

set_option maxRecDepth 100000 in
set_option maxHeartbeats 2000000 in
theorem closing_c (g : Nat) (r : List UInt8) (w : World) (hk : Wk g r w) (hg : Glob w) (hr : r.length ≤ 100000) :
    Calls Tryz.prog 70 #[.pointer (some ⟨g, 0, none⟩)] w (TokPost (closeL r) g w) := by
  have hlt := hk.lt
  have hgne : g ≠ w.heap.size := by omega
  have HK := Lib.hid (hk.alloc (.cells #[.int .i64 0, .string ⟨#[]⟩, .string ⟨#[]⟩, .slice none 0 0, .bool false] 53))
  have HG := Lib.hid (hg.alloc (.cells #[.int .i64 0, .string ⟨#[]⟩, .string ⟨#[]⟩, .slice none 0 0, .bool false] 53))
  have HB0 := Lib.hid (Blk.new w 53 #[.int .i64 0, .string ⟨#[]⟩, .string ⟨#[]⟩, .slice none 0 0, .bool false])
  clear hk hg
  have hl2 := nameP_le r
  by_cases hn : (nameP r).1 = []
  · have hnl : (tx (nameP r).1).toList = [] := toList_nil_of _ (by rw [hn, tx_size]; rfl)
    have HN : Hid (closeL r = none) := Lib.hid (by unfold closeL; rw [if_pos hn])
    clear hn
    go_enter Tryz.func70, Tryz.ntmps70
    go_wp2_with fail
    refine (name_c g _ _ HK.out hr).mono ?_
    rintro e w1 ⟨rfl, hk1, hg1⟩
    have HK1 := Lib.hid hk1
    have HB1 := Lib.hid (HB0.out.grown hg1 (by simp; omega))
    clear hk1
    go_wp2_with fail
    refine (spaces_c g _ _ HK1.out (by omega)).mono ?_
    rintro e w2 ⟨rfl, hk2, hg2⟩
    have HK2 := Lib.hid hk2
    have HB2 := Lib.hid (HB1.out.grown hg2 (by simp; omega))
    clear hk2
    go_wp2_with fail
    refine (kept_no _ _ _ _ _ _ _ _).mono ?_
    rintro e w3 ⟨rfl, hb3⟩
    have HB3 := Lib.hid (HB2.out.below hb3)
    have c0 := (HB3.out).cell 0
    have c1 := (HB3.out).cell 1
    have c2 := (HB3.out).cell 2
    have c3 := (HB3.out).cell 3
    have c4 := (HB3.out).cell 4
    have f0 := (HB3.out).frozen 0
    have f1 := (HB3.out).frozen 1
    have f2 := (HB3.out).frozen 2
    have f3 := (HB3.out).frozen 3
    have f4 := (HB3.out).frozen 4
    go_wp2_with fail
    have HF := (((((HB3.out).set 0 (.int .i64 0)).set 1 (.string ⟨#[]⟩)).set 2 (.string ⟨#[]⟩)).set 3 (.slice none 0 0)).set 4 (.bool false)
    have d0 := HF.cell 0
    have d1 := HF.cell 1
    have d2 := HF.cell 2
    have d3 := HF.cell 3
    have d4 := HF.cell 4
    exact bodyPost_ret (v := .tuple #[.agg #[.int .i64 0, .string ⟨#[]⟩, .string ⟨#[]⟩, .slice none 0 0, .bool false], .bool false]) (by simp [results, Tryz.results70, go_sem, d0, d1, d2, d3, d4]) rfl (tokPost_none HN.out rfl ((HK2.out.below hb3).set5 hgne _ _ _ _ _) ((grown_after_alloc ((hg1.trans hg2).trans (grown_of_below hb3 _))).set5 (Nat.le_refl _) _ _ _ _ _))
  · have hsz : 0 < (tx (nameP r).1).size := by
      rw [tx_size]
      cases h : (nameP r).1 with
      | nil => exact absurd h hn
      | cons => simp
    have hnl : ¬ (tx (nameP r).1).toList = [] := toList_ne_of _ hsz
    have hnl2 : (tx (nameP r).1).toList.isEmpty = false := by simpa using hnl
    cases hp : Lib.hasPrefix (skipL (nameP r).2) [62] with
    | true =>
      have HN : Hid (closeL r = some (⟨2, (nameP r).1, [], [], false⟩, (skipL (nameP r).2).drop 1)) := Lib.hid (by unfold closeL; rw [if_neg hn, if_pos hp])
      have HP := Lib.hid hp
      clear hn hp
      go_enter Tryz.func70, Tryz.ntmps70
      go_wp2_with fail
      refine (name_c g _ _ HK.out hr).mono ?_
      rintro e w1 ⟨rfl, hk1, hg1⟩
      have HK1 := Lib.hid hk1
      have HB1 := Lib.hid (HB0.out.grown hg1 (by simp; omega))
      clear hk1
      go_wp2_with fail
      refine (spaces_c g _ _ HK1.out (by omega)).mono ?_
      rintro e w2 ⟨rfl, hk2, hg2⟩
      have HK2 := Lib.hid hk2
      have HB2 := Lib.hid (HB1.out.grown hg2 (by simp; omega))
      clear hk2
      go_wp2_with fail
      refine (skip_yes g _ _ _ HK2.out HP.out).mono ?_
      rintro e w3 ⟨rfl, hk3, hg3⟩
      have HK3 := Lib.hid hk3
      have HB3 := Lib.hid (HB2.out.grown hg3 (by simp; omega))
      clear hk3
      go_wp2_with fail
      refine (kept_yes _ _ _ _ _ _ _ _).mono ?_
      rintro e w4 ⟨rfl, hb4⟩
      have HB4 := Lib.hid (HB3.out.below hb4)
      have c0 := (HB4.out).cell 0
      have c1 := (HB4.out).cell 1
      have c2 := (HB4.out).cell 2
      have c3 := (HB4.out).cell 3
      have c4 := (HB4.out).cell 4
      have f0 := (HB4.out).frozen 0
      have f1 := (HB4.out).frozen 1
      have f2 := (HB4.out).frozen 2
      have f3 := (HB4.out).frozen 3
      have f4 := (HB4.out).frozen 4
      go_wp2_with fail
      have HF := (((((HB4.out).set 0 (.int .i64 2)).set 1 (.string (tx (nameP r).1))).set 2 (.string ⟨#[]⟩)).set 3 (.slice none 0 0)).set 4 (.bool false)
      have d0 := HF.cell 0
      have d1 := HF.cell 1
      have d2 := HF.cell 2
      have d3 := HF.cell 3
      have d4 := HF.cell 4
      exact bodyPost_ret (v := .tuple #[.agg #[.int .i64 2, .string (tx (nameP r).1), .string ⟨#[]⟩, .slice none 0 0, .bool false], .bool true]) (by simp [results, Tryz.results70, go_sem, d0, d1, d2, d3, d4]) rfl (tokPost_plain HN.out rfl ((HK3.out.below hb4).set5 hgne _ _ _ _ _) ((grown_after_alloc (((hg1.trans hg2).trans hg3).trans (grown_of_below hb4 _))).set5 (Nat.le_refl _) _ _ _ _ _))
    | false =>
      have HN : Hid (closeL r = none) := Lib.hid (by unfold closeL; rw [if_neg hn, if_neg (by rw [hp]; decide)])
      have HP := Lib.hid hp
      clear hn hp
      go_enter Tryz.func70, Tryz.ntmps70
      go_wp2_with fail
      refine (name_c g _ _ HK.out hr).mono ?_
      rintro e w1 ⟨rfl, hk1, hg1⟩
      have HK1 := Lib.hid hk1
      have HB1 := Lib.hid (HB0.out.grown hg1 (by simp; omega))
      clear hk1
      go_wp2_with fail
      refine (spaces_c g _ _ HK1.out (by omega)).mono ?_
      rintro e w2 ⟨rfl, hk2, hg2⟩
      have HK2 := Lib.hid hk2
      have HB2 := Lib.hid (HB1.out.grown hg2 (by simp; omega))
      clear hk2
      go_wp2_with fail
      refine (skip_no g _ _ _ HK2.out HP.out).mono ?_
      rintro e w3 ⟨rfl, hk3, hg3⟩
      have HK3 := Lib.hid hk3
      have HB3 := Lib.hid (HB2.out.grown hg3 (by simp; omega))
      clear hk3
      go_wp2_with fail
      refine (kept_no _ _ _ _ _ _ _ _).mono ?_
      rintro e w4 ⟨rfl, hb4⟩
      have HB4 := Lib.hid (HB3.out.below hb4)
      have c0 := (HB4.out).cell 0
      have c1 := (HB4.out).cell 1
      have c2 := (HB4.out).cell 2
      have c3 := (HB4.out).cell 3
      have c4 := (HB4.out).cell 4
      have f0 := (HB4.out).frozen 0
      have f1 := (HB4.out).frozen 1
      have f2 := (HB4.out).frozen 2
      have f3 := (HB4.out).frozen 3
      have f4 := (HB4.out).frozen 4
      go_wp2_with fail
      have HF := (((((HB4.out).set 0 (.int .i64 0)).set 1 (.string ⟨#[]⟩)).set 2 (.string ⟨#[]⟩)).set 3 (.slice none 0 0)).set 4 (.bool false)
      have d0 := HF.cell 0
      have d1 := HF.cell 1
      have d2 := HF.cell 2
      have d3 := HF.cell 3
      have d4 := HF.cell 4
      exact bodyPost_ret (v := .tuple #[.agg #[.int .i64 0, .string ⟨#[]⟩, .string ⟨#[]⟩, .slice none 0 0, .bool false], .bool false]) (by simp [results, Tryz.results70, go_sem, d0, d1, d2, d3, d4]) rfl (tokPost_none HN.out rfl ((HK3.out.below hb4).set5 hgne _ _ _ _ _) ((grown_after_alloc (((hg1.trans hg2).trans hg3).trans (grown_of_below hb4 _))).set5 (Nat.le_refl _) _ _ _ _ _))

end Go.Proofs.YtkccockdnjjanaaGreatDoor
