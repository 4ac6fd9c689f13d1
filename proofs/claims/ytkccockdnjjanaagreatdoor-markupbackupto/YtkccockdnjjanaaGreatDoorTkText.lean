/-
  The contract of a text token (layer 2).
-/
import Derived.Test.YtkccockdnjjanaaGreatDoorTkTok1
namespace Nwl
theorem text_ix : ∀ r : List UInt8, (Go.Lib.indexByte r 60 = -1 ∧ r.takeWhile (· != 60) = r ∧ r.dropWhile (· != 60) = []) ∨ (∃ k : Nat, Go.Lib.indexByte r 60 = k ∧ k ≤ r.length ∧ r.takeWhile (· != 60) = r.take k ∧ r.dropWhile (· != 60) = r.drop k)
  | [] => .inl ⟨rfl, rfl, rfl⟩
  | c :: r => by
    by_cases h : c = 60
    · subst h
      exact .inr ⟨0, by simp [Go.Lib.indexByte], by simp, by simp, by simp⟩
    · have hb : (c != 60) = true := by rw [bne_iff_ne]; exact h
      have hbe : (c == 60) = false := by rw [beq_eq_false_iff_ne]; exact h
      rcases text_ix r with ⟨h1, h2, h3⟩ | ⟨k, h1, h2, h3, h4⟩
      · refine .inl ⟨?_, ?_, ?_⟩
        · unfold Go.Lib.indexByte; rw [hbe, h1]; rfl
        · rw [List.takeWhile_cons, if_pos hb, h2]
        · rw [List.dropWhile_cons, if_pos hb, h3]
      · refine .inr ⟨k + 1, ?_, by simp; omega, ?_, ?_⟩
        · unfold Go.Lib.indexByte
          rw [hbe, h1, if_neg (by decide), if_neg (by rw [beq_iff_eq]; omega)]
          omega
        · rw [List.takeWhile_cons, if_pos hb, h3, List.take_succ_cons]
        · rw [List.dropWhile_cons, if_pos hb, h4, List.drop_succ_cons]
end Nwl
namespace Go.Proofs.YtkccockdnjjanaaGreatDoor
open Nwl
open Go.RowKit
set_option linter.unusedVariables false

theorem IndexLt_c (l : List UInt8) (w : World) :
    Calls Tryz.prog 98 #[.string (tx l), .int .u8 60] w fun e w' => e = .returned (.int .i64 (Lib.indexByte l 60)) ∧ w = w' :=
  (Tryz.strings_IndexByte (tx l) 60 w).mono fun _ _ ⟨a, b⟩ => ⟨a, b.symm⟩

set_option maxRecDepth 100000 in
set_option maxHeartbeats 2000000 in
theorem text_at (g kk : Nat) (r : List UInt8) (w : World) (hk : Wk g r w) (hg : Glob w) (hr : r.length ≤ 100000) (hkk : kk ≤ r.length) (hi : Lib.indexByte r 60 = (kk : Int)) (h1 : r.takeWhile (· != 60) = r.take kk) (h2 : r.dropWhile (· != 60) = r.drop kk) :
    Calls Tryz.prog 72 #[.pointer (some ⟨g, 0, none⟩)] w (TokPost (textL r) g w) := by
  have hc0 := (hk.alloc (.cells #[.int .i64 0, .string ⟨#[]⟩, .string ⟨#[]⟩, .slice none 0 0, .bool false] 53)).cell
  have hlt := hk.lt
  have hgne : g ≠ w.heap.size := by omega
  have HK := Lib.hid (hk.alloc (.cells #[.int .i64 0, .string ⟨#[]⟩, .string ⟨#[]⟩, .slice none 0 0, .bool false] 53))
  have HG := Lib.hid (hg.alloc (.cells #[.int .i64 0, .string ⟨#[]⟩, .string ⟨#[]⟩, .slice none 0 0, .bool false] 53))
  have HB0 := Lib.hid (Blk.new w 53 #[.int .i64 0, .string ⟨#[]⟩, .string ⟨#[]⟩, .slice none 0 0, .bool false])
  clear hk hg
  have htk : (tx (r.take kk)).size ≤ 100000 := by rw [tx_size, List.length_take]; omega
  have hnn : ¬ ((kk : Int) < 0) := by omega
  have HI := Lib.hid hi


  clear hi
  have htext : textL r = (entL (r.take kk)).map fun x => (⟨3, [], x, [], false⟩, r.drop kk) := by unfold textL; rw [h1, h2]
  clear h1 h2
  cases hen : entL (r.take kk) with
  | none =>
    have HN : Hid (textL r = none) := Lib.hid (by rw [htext, hen]; rfl)
    have HE : Hid (entE (entL (bs (tx (r.take kk)))) = 5) := Lib.hid (by rw [bs_tx, hen]; rfl)
    have HS : Hid (entS (entL (bs (tx (r.take kk)))) = tx []) := Lib.hid (by rw [bs_tx, hen]; rfl)
    clear hen htext
    go_enter Tryz.func72, Tryz.ntmps72
    go_wp2_with fail
    refine (IndexLt_c _ _).mono ?_
    rintro e w0 ⟨rfl, rfl⟩
    rw [HI.out]
    go_wp2_with fail
    refine (take_c g kk r _ HK.out hr hkk).mono ?_
    rintro e w1 ⟨rfl, hk1, hg1⟩
    skip
    have HK1 := Lib.hid hk1
    have HG1 := Lib.hid (HG.out.grown HK.out hg1)
    have HB1 := Lib.hid (HB0.out.grown hg1 (by simp; omega))
    clear hk1
    go_wp2_with fail
    refine (Entities_c _ _ htk HG1.out).mono ?_
    rintro e w2 ⟨rfl, hb2⟩
    rw [HE.out, HS.out]
    have HB2 := Lib.hid (HB1.out.below hb2)
    go_wp2_with fail
    refine (kept_no _ _ _ _ _ _ _ _).mono ?_
    rintro e w3 ⟨rfl, hb3⟩
    have HB3 := Lib.hid (HB2.out.below hb3)
    have c0 := (HB3.out).cell 0
    have c1 := (HB3.out).cell 1
    have c2 := (HB3.out).cell 2
    have c3 := (HB3.out).cell 3
    have c4 := (HB3.out).cell 4
    have f0 := (HB3.out).frozen 0
    have f1 := (HB3.out).frozen 1
    have f2 := (HB3.out).frozen 2
    have f3 := (HB3.out).frozen 3
    have f4 := (HB3.out).frozen 4
    go_wp2_with fail
    have HF := (((((HB3.out).set 0 (.int .i64 0)).set 1 (.string ⟨#[]⟩)).set 2 (.string ⟨#[]⟩)).set 3 (.slice none 0 0)).set 4 (.bool false)
    have d0 := HF.cell 0
    have d1 := HF.cell 1
    have d2 := HF.cell 2
    have d3 := HF.cell 3
    have d4 := HF.cell 4
    exact bodyPost_ret (v := .tuple #[.agg #[.int .i64 0, .string ⟨#[]⟩, .string ⟨#[]⟩, .slice none 0 0, .bool false], .bool false]) (by simp [results, Tryz.results72, go_sem, d0, d1, d2, d3, d4]) rfl (tokPost_none HN.out rfl (((HK1.out.below hb2).below hb3).set5 hgne _ _ _ _ _) ((grown_after_alloc ((hg1.trans (grown_of_below hb2 _)).trans (grown_of_below hb3 _))).set5 (Nat.le_refl _) _ _ _ _ _))
  | some x =>
    have HN : Hid (textL r = some (⟨3, [], x, [], false⟩, r.drop kk)) := Lib.hid (by rw [htext, hen]; rfl)
    have HE : Hid (entE (entL (bs (tx (r.take kk)))) = 0) := Lib.hid (by rw [bs_tx, hen]; rfl)
    have HS : Hid (entS (entL (bs (tx (r.take kk)))) = tx x) := Lib.hid (by rw [bs_tx, hen]; rfl)
    clear hen htext
    go_enter Tryz.func72, Tryz.ntmps72
    go_wp2_with fail
    refine (IndexLt_c _ _).mono ?_
    rintro e w0 ⟨rfl, rfl⟩
    rw [HI.out]
    go_wp2_with fail
    refine (take_c g kk r _ HK.out hr hkk).mono ?_
    rintro e w1 ⟨rfl, hk1, hg1⟩
    skip
    have HK1 := Lib.hid hk1
    have HG1 := Lib.hid (HG.out.grown HK.out hg1)
    have HB1 := Lib.hid (HB0.out.grown hg1 (by simp; omega))
    clear hk1
    go_wp2_with fail
    refine (Entities_c _ _ htk HG1.out).mono ?_
    rintro e w2 ⟨rfl, hb2⟩
    rw [HE.out, HS.out]
    have HB2 := Lib.hid (HB1.out.below hb2)
    go_wp2_with fail
    refine (kept_yes _ _ _ _ _ _ _ _).mono ?_
    rintro e w3 ⟨rfl, hb3⟩
    have HB3 := Lib.hid (HB2.out.below hb3)
    have c0 := (HB3.out).cell 0
    have c1 := (HB3.out).cell 1
    have c2 := (HB3.out).cell 2
    have c3 := (HB3.out).cell 3
    have c4 := (HB3.out).cell 4
    have f0 := (HB3.out).frozen 0
    have f1 := (HB3.out).frozen 1
    have f2 := (HB3.out).frozen 2
    have f3 := (HB3.out).frozen 3
    have f4 := (HB3.out).frozen 4
    go_wp2_with fail
    have HF := (((((HB3.out).set 0 (.int .i64 3)).set 1 (.string ⟨#[]⟩)).set 2 (.string (tx x))).set 3 (.slice none 0 0)).set 4 (.bool false)
    have d0 := HF.cell 0
    have d1 := HF.cell 1
    have d2 := HF.cell 2
    have d3 := HF.cell 3
    have d4 := HF.cell 4
    exact bodyPost_ret (v := .tuple #[.agg #[.int .i64 3, .string ⟨#[]⟩, .string (tx x), .slice none 0 0, .bool false], .bool true]) (by simp [results, Tryz.results72, go_sem, d0, d1, d2, d3, d4]) rfl (tokPost_plain HN.out rfl (((HK1.out.below hb2).below hb3).set5 hgne _ _ _ _ _) ((grown_after_alloc ((hg1.trans (grown_of_below hb2 _)).trans (grown_of_below hb3 _))).set5 (Nat.le_refl _) _ _ _ _ _))

set_option maxRecDepth 100000 in
set_option maxHeartbeats 2000000 in
theorem text_end (g kk : Nat) (r : List UInt8) (w : World) (hk : Wk g r w) (hg : Glob w) (hr : r.length ≤ 100000) (hkk : kk ≤ r.length) (hi : Lib.indexByte r 60 = -1) (hend : kk = r.length) (h1 : r.takeWhile (· != 60) = r.take kk) (h2 : r.dropWhile (· != 60) = r.drop kk) :
    Calls Tryz.prog 72 #[.pointer (some ⟨g, 0, none⟩)] w (TokPost (textL r) g w) := by
  have hc0 := (hk.alloc (.cells #[.int .i64 0, .string ⟨#[]⟩, .string ⟨#[]⟩, .slice none 0 0, .bool false] 53)).cell
  have hlt := hk.lt
  have hgne : g ≠ w.heap.size := by omega
  have HK := Lib.hid (hk.alloc (.cells #[.int .i64 0, .string ⟨#[]⟩, .string ⟨#[]⟩, .slice none 0 0, .bool false] 53))
  have HG := Lib.hid (hg.alloc (.cells #[.int .i64 0, .string ⟨#[]⟩, .string ⟨#[]⟩, .slice none 0 0, .bool false] 53))
  have HB0 := Lib.hid (Blk.new w 53 #[.int .i64 0, .string ⟨#[]⟩, .string ⟨#[]⟩, .slice none 0 0, .bool false])
  clear hk hg
  have htk : (tx (r.take kk)).size ≤ 100000 := by rw [tx_size, List.length_take]; omega
  have hnn : ¬ ((kk : Int) < 0) := by omega
  have HI := Lib.hid hi
  have HZ : Hid ((tx r).size = kk) := Lib.hid (by rw [tx_size, hend])
  clear hend
  clear hi
  have htext : textL r = (entL (r.take kk)).map fun x => (⟨3, [], x, [], false⟩, r.drop kk) := by unfold textL; rw [h1, h2]
  clear h1 h2
  cases hen : entL (r.take kk) with
  | none =>
    have HN : Hid (textL r = none) := Lib.hid (by rw [htext, hen]; rfl)
    have HE : Hid (entE (entL (bs (tx (r.take kk)))) = 5) := Lib.hid (by rw [bs_tx, hen]; rfl)
    have HS : Hid (entS (entL (bs (tx (r.take kk)))) = tx []) := Lib.hid (by rw [bs_tx, hen]; rfl)
    clear hen htext
    go_enter Tryz.func72, Tryz.ntmps72
    go_wp2_with fail
    refine (IndexLt_c _ _).mono ?_
    rintro e w0 ⟨rfl, rfl⟩
    rw [HI.out]
    go_wp2_with fail
    refine (take_c g (tx r).size r _ HK.out hr (by rw [HZ.out]; exact hkk)).mono ?_
    rintro e w1 ⟨rfl, hk1, hg1⟩
    rw [HZ.out] at hk1 ⊢
    have HK1 := Lib.hid hk1
    have HG1 := Lib.hid (HG.out.grown HK.out hg1)
    have HB1 := Lib.hid (HB0.out.grown hg1 (by simp; omega))
    clear hk1
    go_wp2_with fail
    refine (Entities_c _ _ htk HG1.out).mono ?_
    rintro e w2 ⟨rfl, hb2⟩
    rw [HE.out, HS.out]
    have HB2 := Lib.hid (HB1.out.below hb2)
    go_wp2_with fail
    refine (kept_no _ _ _ _ _ _ _ _).mono ?_
    rintro e w3 ⟨rfl, hb3⟩
    have HB3 := Lib.hid (HB2.out.below hb3)
    have c0 := (HB3.out).cell 0
    have c1 := (HB3.out).cell 1
    have c2 := (HB3.out).cell 2
    have c3 := (HB3.out).cell 3
    have c4 := (HB3.out).cell 4
    have f0 := (HB3.out).frozen 0
    have f1 := (HB3.out).frozen 1
    have f2 := (HB3.out).frozen 2
    have f3 := (HB3.out).frozen 3
    have f4 := (HB3.out).frozen 4
    go_wp2_with fail
    have HF := (((((HB3.out).set 0 (.int .i64 0)).set 1 (.string ⟨#[]⟩)).set 2 (.string ⟨#[]⟩)).set 3 (.slice none 0 0)).set 4 (.bool false)
    have d0 := HF.cell 0
    have d1 := HF.cell 1
    have d2 := HF.cell 2
    have d3 := HF.cell 3
    have d4 := HF.cell 4
    exact bodyPost_ret (v := .tuple #[.agg #[.int .i64 0, .string ⟨#[]⟩, .string ⟨#[]⟩, .slice none 0 0, .bool false], .bool false]) (by simp [results, Tryz.results72, go_sem, d0, d1, d2, d3, d4]) rfl (tokPost_none HN.out rfl (((HK1.out.below hb2).below hb3).set5 hgne _ _ _ _ _) ((grown_after_alloc ((hg1.trans (grown_of_below hb2 _)).trans (grown_of_below hb3 _))).set5 (Nat.le_refl _) _ _ _ _ _))
  | some x =>
    have HN : Hid (textL r = some (⟨3, [], x, [], false⟩, r.drop kk)) := Lib.hid (by rw [htext, hen]; rfl)
    have HE : Hid (entE (entL (bs (tx (r.take kk)))) = 0) := Lib.hid (by rw [bs_tx, hen]; rfl)
    have HS : Hid (entS (entL (bs (tx (r.take kk)))) = tx x) := Lib.hid (by rw [bs_tx, hen]; rfl)
    clear hen htext
    go_enter Tryz.func72, Tryz.ntmps72
    go_wp2_with fail
    refine (IndexLt_c _ _).mono ?_
    rintro e w0 ⟨rfl, rfl⟩
    rw [HI.out]
    go_wp2_with fail
    refine (take_c g (tx r).size r _ HK.out hr (by rw [HZ.out]; exact hkk)).mono ?_
    rintro e w1 ⟨rfl, hk1, hg1⟩
    rw [HZ.out] at hk1 ⊢
    have HK1 := Lib.hid hk1
    have HG1 := Lib.hid (HG.out.grown HK.out hg1)
    have HB1 := Lib.hid (HB0.out.grown hg1 (by simp; omega))
    clear hk1
    go_wp2_with fail
    refine (Entities_c _ _ htk HG1.out).mono ?_
    rintro e w2 ⟨rfl, hb2⟩
    rw [HE.out, HS.out]
    have HB2 := Lib.hid (HB1.out.below hb2)
    go_wp2_with fail
    refine (kept_yes _ _ _ _ _ _ _ _).mono ?_
    rintro e w3 ⟨rfl, hb3⟩
    have HB3 := Lib.hid (HB2.out.below hb3)
    have c0 := (HB3.out).cell 0
    have c1 := (HB3.out).cell 1
    have c2 := (HB3.out).cell 2
    have c3 := (HB3.out).cell 3
    have c4 := (HB3.out).cell 4
    have f0 := (HB3.out).frozen 0
    have f1 := (HB3.out).frozen 1
    have f2 := (HB3.out).frozen 2
    have f3 := (HB3.out).frozen 3
    have f4 := (HB3.out).frozen 4
    go_wp2_with fail
    have HF := (((((HB3.out).set 0 (.int .i64 3)).set 1 (.string ⟨#[]⟩)).set 2 (.string (tx x))).set 3 (.slice none 0 0)).set 4 (.bool false)
    have d0 := HF.cell 0
    have d1 := HF.cell 1
    have d2 := HF.cell 2
    have d3 := HF.cell 3
    have d4 := HF.cell 4
    exact bodyPost_ret (v := .tuple #[.agg #[.int .i64 3, .string ⟨#[]⟩, .string (tx x), .slice none 0 0, .bool false], .bool true]) (by simp [results, Tryz.results72, go_sem, d0, d1, d2, d3, d4]) rfl (tokPost_plain HN.out rfl (((HK1.out.below hb2).below hb3).set5 hgne _ _ _ _ _) ((grown_after_alloc ((hg1.trans (grown_of_below hb2 _)).trans (grown_of_below hb3 _))).set5 (Nat.le_refl _) _ _ _ _ _))

theorem text_c (g : Nat) (r : List UInt8) (w : World) (hk : Wk g r w) (hg : Glob w) (hr : r.length ≤ 100000) :
    Calls Tryz.prog 72 #[.pointer (some ⟨g, 0, none⟩)] w (TokPost (textL r) g w) := by
  rcases text_ix r with ⟨h1, h2, h3⟩ | ⟨k, h1, h2, h3, h4⟩
  · exact text_end g r.length r w hk hg hr (Nat.le_refl _) h1 rfl (by rw [List.take_of_length_le (Nat.le_refl _)]; exact h2) (by rw [List.drop_eq_nil_of_le (Nat.le_refl _)]; exact h3)
  · exact text_at g k r w hk hg hr h2 h1 h3 h4

end Go.Proofs.YtkccockdnjjanaaGreatDoor
