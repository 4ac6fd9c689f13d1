/-
  The document's own answers (layer 2): the walk: an end, a comment.
-/
import Derived.Test.YtlfpmfdlfhldbaaGreatDoorRfTok
namespace Nwl
open Go
theorem close_no1 {l : List UInt8} (h : (nameP l).1 = []) : closeL l = none := by unfold closeL; rw [if_pos h]
theorem close_no2 {l r : List UInt8} (h : (nameP l).1 ≠ []) (h2 : skipL (nameP l).2 = r) (h3 : Lib.hasPrefix r [62] = false) : closeL l = none := by
  unfold closeL
  rw [if_neg h, h2, if_neg (by rw [h3]; decide)]
theorem close_yes {l r : List UInt8} (h : (nameP l).1 ≠ []) (h2 : skipL (nameP l).2 = r) (h3 : Lib.hasPrefix r [62] = true) : closeL l = some (⟨2, (nameP l).1, [], [], false⟩, r.drop 1) := by
  unfold closeL
  rw [if_neg h, h2, if_pos h3]
end Nwl
namespace Go.Proofs.YtlfpmfdlfhldbaaGreatDoor
open Nwl
open Go.RowKit Go.Maps
set_option linter.unusedVariables false
set_option linter.unusedSimpArgs false

set_option maxRecDepth 100000 in
set_option maxHeartbeats 12000000 in
theorem rclosing_c (g : Nat) (S : ByteArray) (k : Nat) (w : World) (h : RW g S k w) (hk : k + 2 ≤ S.size) (hs : S.size ≤ 100000) :
    Calls Tryz.prog 36 #[.pointer (some ⟨g, 0, none⟩)] w (RtPost g S (closeL ((bs S).drop (k + 2))) w) := by
  have hwr : IntKind.i64.wrap ((k : Int) + 2) = ((k + 2 : Nat) : Int) := wrapR (by omega) (by omega)
  have P0 := Lib.hid (PX.start h)
  have P1 := Lib.hid (PX.start2 h (k + 2))
  obtain ⟨z0, z1, x0, x1, x2, x3, x4⟩ := PX.rd P0.out
  obtain ⟨f1, f50, f51, f52, f53, f54⟩ := PX.fz P0.out
  have c0 := h.c0
  have c1 := h.c1
  have f0 := h.f1
  have hlt := Blk.lt h
  clear h
  obtain ⟨nm, hnm⟩ : ∃ nm, (nameP ((bs S).drop (k + 2))).1 = nm := ⟨_, rfl⟩
  have HNM := Lib.hid hnm
  clear hnm
  go_enter Tryz.func36, Tryz.ntmps36
  go_wp2_with fail
  refine (rname_c g S (k + 2) _ P1.out.1 hk hs).mono ?_
  rintro e w1 ⟨i, hki, his, rfl, hr1, hg1, hrest⟩
  rw [HNM.out]
  have P2 := Lib.hid (P1.out.grown hg1 hr1)
  have X1 := Lib.hid (TX.new P2.out (.int .i64 2) (.string (tx nm)) (.string ⟨#[]⟩) (.slice none 0 0) (.bool false))
  have HRE : Hid (nm ≠ [] → (nameP ((bs S).drop (k + 2))).2 = (bs S).drop i) := Lib.hid (by rw [← HNM.out]; exact hrest)
  clear hr1 hg1 hrest z0 z1 x0 x1 x2 x3 x4 f1 f50 f51 f52 f53 f54 P0 P1 P2 c0 c1 f0 hlt hwr
  have K1 := Lib.hid X1.out.1.1
  go_wp2_with fail
  refine (rspaces_c g S i _ K1.out his hs).mono ?_
  rintro e w2 ⟨i2, hi2, hs2, rfl, hr2, hg2, hsk⟩
  have X2 := Lib.hid (X1.out.grown hg2 hr2)
  have HSK := Lib.hid hsk
  clear hr2 hg2 hsk X1 K1
  obtain ⟨z0, z1, x0, x1, x2, x3, x4⟩ := PX.rd X2.out.1
  obtain ⟨f1, f50, f51, f52, f53, f54⟩ := PX.fz X2.out.1
  obtain ⟨y0, y1, y2, y3, y4⟩ := TX.rd X2.out
  by_cases hn : nm = []
  · have HA : Hid (closeL ((bs S).drop (k + 2)) = none) := Lib.hid (close_no1 (by rw [HNM.out]; exact hn))
    subst hn
    have htn : (tx []).toList = [] := by rw [ByteArray.toList_eq]; rfl
    go_upto_region 4 with fail
    go_cut [32] from 5 to 42 (fun v wx => v = .bool true ∧ w2.drew = wx)
    case first =>
      refine wp_region_any (by kernel_rfl) ?_
      change wpAny _ _ _ _ _ _ _ (World.drew _)
      refine wpAny_take (i := 0) (v := .pointer (some ⟨w1.heap.size, 1, none⟩)) rfl (by kernel_rfl) (by kernel_rfl) (by kernel_rfl) (fun _ _ _ h => h) (Or.inl ⟨by rfl, fun W => by go_simp⟩) ?_
      simp only [Act.put, List.getElem_toArray, List.getElem_cons_zero, List.getElem_cons_succ, List.setIfInBounds_toArray, List.set_cons_zero, List.set_cons_succ]
      refine wpAny_ready (rs := [1]) (by kernel_rfl) (by simp) ?_
      refine AllReady.cons rfl (fun K hK => ?_) AllReady.nil
      go_simp
      refine hK _ _ ?_
      clear hK K
      refine wpAny_take (i := 2) (v := .bool true) rfl (by kernel_rfl) (by kernel_rfl) (by kernel_rfl) (fun _ _ _ h => h) (Or.inl ⟨by rfl, fun W => by go_simp⟩) ?_
      simp only [Act.put, List.getElem_toArray, List.getElem_cons_zero, List.getElem_cons_succ, List.setIfInBounds_toArray, List.set_cons_zero, List.set_cons_succ]
      refine wpAny_take (i := 3) (v := .bool true) rfl (by kernel_rfl) (by kernel_rfl) (by kernel_rfl) (fun _ _ _ h => h) (Or.inl ⟨by rfl, fun W => by go_simp⟩) ?_
      simp only [Act.put, List.getElem_toArray, List.getElem_cons_zero, List.getElem_cons_succ, List.setIfInBounds_toArray, List.set_cons_zero, List.set_cons_succ]
      refine wpAny_take (i := 4) (v := undef) rfl (by kernel_rfl) (by kernel_rfl) (by kernel_rfl) (fun _ _ _ h => h) (Or.inr ⟨by rfl, rfl⟩) ?_
      simp only [Act.put, List.getElem_toArray, List.getElem_cons_zero, List.getElem_cons_succ, List.setIfInBounds_toArray, List.set_cons_zero, List.set_cons_succ]
      refine wpAny_take (i := 5) (v := undef) rfl (by kernel_rfl) (by kernel_rfl) (by kernel_rfl) (fun _ _ _ h => h) (Or.inr ⟨by rfl, rfl⟩) ?_
      simp only [Act.put, List.getElem_toArray, List.getElem_cons_zero, List.getElem_cons_succ, List.setIfInBounds_toArray, List.set_cons_zero, List.set_cons_succ]
      refine wpAny_take (i := 6) (v := undef) rfl (by kernel_rfl) (by kernel_rfl) (by kernel_rfl) (fun _ _ _ h => h) (Or.inr ⟨by rfl, rfl⟩) ?_
      simp only [Act.put, List.getElem_toArray, List.getElem_cons_zero, List.getElem_cons_succ, List.setIfInBounds_toArray, List.set_cons_zero, List.set_cons_succ]
      refine wpAny_take (i := 7) (v := undef) rfl (by kernel_rfl) (by kernel_rfl) (by kernel_rfl) (fun _ _ _ h => h) (Or.inr ⟨by rfl, rfl⟩) ?_
      simp only [Act.put, List.getElem_toArray, List.getElem_cons_zero, List.getElem_cons_succ, List.setIfInBounds_toArray, List.set_cons_zero, List.set_cons_succ]
      refine wpAny_take (i := 8) (v := undef) rfl (by kernel_rfl) (by kernel_rfl) (by kernel_rfl) (fun _ _ _ h => h) (Or.inr ⟨by rfl, rfl⟩) ?_
      simp only [Act.put, List.getElem_toArray, List.getElem_cons_zero, List.getElem_cons_succ, List.setIfInBounds_toArray, List.set_cons_zero, List.set_cons_succ]
      refine wpAny_take (i := 9) (v := undef) rfl (by kernel_rfl) (by kernel_rfl) (by kernel_rfl) (fun _ _ _ h => h) (Or.inr ⟨by rfl, rfl⟩) ?_
      simp only [Act.put, List.getElem_toArray, List.getElem_cons_zero, List.getElem_cons_succ, List.setIfInBounds_toArray, List.set_cons_zero, List.set_cons_succ]
      refine wpAny_take (i := 10) (v := undef) rfl (by kernel_rfl) (by kernel_rfl) (by kernel_rfl) (fun _ _ _ h => h) (Or.inr ⟨by rfl, rfl⟩) ?_
      simp only [Act.put, List.getElem_toArray, List.getElem_cons_zero, List.getElem_cons_succ, List.setIfInBounds_toArray, List.set_cons_zero, List.set_cons_succ]
      refine wpAny_take (i := 11) (v := undef) rfl (by kernel_rfl) (by kernel_rfl) (by kernel_rfl) (fun _ _ _ h => h) (Or.inr ⟨by rfl, rfl⟩) ?_
      simp only [Act.put, List.getElem_toArray, List.getElem_cons_zero, List.getElem_cons_succ, List.setIfInBounds_toArray, List.set_cons_zero, List.set_cons_succ]
      refine wpAny_take (i := 12) (v := undef) rfl (by kernel_rfl) (by kernel_rfl) (by kernel_rfl) (fun _ _ _ h => h) (Or.inr ⟨by rfl, rfl⟩) ?_
      simp only [Act.put, List.getElem_toArray, List.getElem_cons_zero, List.getElem_cons_succ, List.setIfInBounds_toArray, List.set_cons_zero, List.set_cons_succ]
      refine wpAny_take (i := 13) (v := undef) rfl (by kernel_rfl) (by kernel_rfl) (by kernel_rfl) (fun _ _ _ h => h) (Or.inr ⟨by rfl, rfl⟩) ?_
      simp only [Act.put, List.getElem_toArray, List.getElem_cons_zero, List.getElem_cons_succ, List.setIfInBounds_toArray, List.set_cons_zero, List.set_cons_succ]
      refine wpAny_take (i := 14) (v := .bool true) rfl (by kernel_rfl) (by kernel_rfl) (by kernel_rfl) (fun _ _ _ h => h) (Or.inl ⟨by rfl, fun W => by go_simp⟩) ?_
      simp only [Act.put, List.getElem_toArray, List.getElem_cons_zero, List.getElem_cons_succ, List.setIfInBounds_toArray, List.set_cons_zero, List.set_cons_succ]
      refine wpAny_done (by kernel_rfl) ?_ _
      go_wp2_with fail
      go_meet
      exact ⟨rfl, rfl⟩
    case rest =>
    obtain ⟨rfl, rfl⟩ := hcut
    have QQ := Lib.hid (PX.fin X2.out.1.drew (.int .i64 2) (.string (tx [])) (.string ⟨#[]⟩) (.slice none 0 0) (.bool false))
    have DD := Lib.hid (PX.ed X2.out.1 (.int .i64 2) (.string (tx [])) (.string ⟨#[]⟩) (.slice none 0 0) (.bool false))
    go_wp2_with fail
    exact bodyPost_ret (v := .tuple #[.agg #[.int .i64 2, .string (tx []), .string ⟨#[]⟩, .slice none 0 0, .bool false], .bool false]) (by obtain ⟨d0, d1, d2, d3, d4⟩ := DD.out; simp [results, Tryz.results36, go_sem, d0, d1, d2, d3, d4]) rfl (rtPost_none HA.out rfl hs2 QQ.out.1 QQ.out.2)
  · have hne : (tx nm).toList.isEmpty = false := by
      rw [show (tx nm).toList = nm by rw [ByteArray.toList_eq]; rfl]
      cases nm with
      | nil => exact absurd rfl hn
      | cons => rfl
    have hne2 : ((tx nm).toList == []) = false := by
      rw [show (tx nm).toList = nm by rw [ByteArray.toList_eq]; rfl, beq_eq_false_iff_ne]; exact hn
    obtain ⟨d, hd⟩ : ∃ d, Lib.hasPrefix ((bs S).drop i2) (bs ⟨#[62]⟩) = d := ⟨_, rfl⟩
    have HD := Lib.hid hd
    have HNE : Hid (nm ≠ []) := Lib.hid hn
    clear hn hd
    go_upto_region 4 with fail
    go_cut [32] from 5 to 42 (fun v wx => v = .bool (!d) ∧ w2.drew = wx)
    case first =>
      refine wp_region_any (by kernel_rfl) ?_
      change wpAny _ _ _ _ _ _ _ (World.drew _)
      refine wpAny_take (i := 0) (v := .pointer (some ⟨w1.heap.size, 1, none⟩)) rfl (by kernel_rfl) (by kernel_rfl) (by kernel_rfl) (fun _ _ _ h => h) (Or.inl ⟨by rfl, fun W => by go_simp⟩) ?_
      simp only [Act.put, List.getElem_toArray, List.getElem_cons_zero, List.getElem_cons_succ, List.setIfInBounds_toArray, List.set_cons_zero, List.set_cons_succ]
      refine wpAny_ready (rs := [1]) (by kernel_rfl) (by simp) ?_
      refine AllReady.cons rfl (fun K hK => ?_) AllReady.nil
      go_simp
      refine hK _ _ ?_
      clear hK K
      refine wpAny_take (i := 2) (v := .bool false) rfl (by kernel_rfl) (by kernel_rfl) (by kernel_rfl) (fun _ _ _ h => h) (Or.inl ⟨by rfl, fun W => by go_simp⟩) ?_
      simp only [Act.put, List.getElem_toArray, List.getElem_cons_zero, List.getElem_cons_succ, List.setIfInBounds_toArray, List.set_cons_zero, List.set_cons_succ]
      refine wpAny_take (i := 3) (v := .bool false) rfl (by kernel_rfl) (by kernel_rfl) (by kernel_rfl) (fun _ _ _ h => h) (Or.inl ⟨by rfl, fun W => by go_simp⟩) ?_
      simp only [Act.put, List.getElem_toArray, List.getElem_cons_zero, List.getElem_cons_succ, List.setIfInBounds_toArray, List.set_cons_zero, List.set_cons_succ]
      refine wpAny_take (i := 4) (v := .pointer (some ⟨g, 0, none⟩)) rfl (by kernel_rfl) (by kernel_rfl) (by kernel_rfl) (fun _ _ _ h => h) (Or.inl ⟨by rfl, fun W => by go_simp⟩) ?_
      simp only [Act.put, List.getElem_toArray, List.getElem_cons_zero, List.getElem_cons_succ, List.setIfInBounds_toArray, List.set_cons_zero, List.set_cons_succ]
      refine wpAny_take (i := 5) (v := .pointer (some ⟨g, 0, none⟩)) rfl (by kernel_rfl) (by kernel_rfl) (by kernel_rfl) (fun _ _ _ h => h) (Or.inl ⟨by rfl, fun W => by go_simp⟩) ?_
      simp only [Act.put, List.getElem_toArray, List.getElem_cons_zero, List.getElem_cons_succ, List.setIfInBounds_toArray, List.set_cons_zero, List.set_cons_succ]
      refine wpAny_take (i := 6) (v := .pointer (some ⟨g, 0, none⟩)) rfl (by kernel_rfl) (by kernel_rfl) (by kernel_rfl) (fun _ _ _ h => h) (Or.inl ⟨by rfl, fun W => by go_simp⟩) ?_
      simp only [Act.put, List.getElem_toArray, List.getElem_cons_zero, List.getElem_cons_succ, List.setIfInBounds_toArray, List.set_cons_zero, List.set_cons_succ]
      refine wpAny_take (i := 8) (v := .pointer (some ⟨g, 0, none⟩)) rfl (by kernel_rfl) (by kernel_rfl) (by kernel_rfl) (fun _ _ _ h => h) (Or.inl ⟨by rfl, fun W => by go_simp⟩) ?_
      simp only [Act.put, List.getElem_toArray, List.getElem_cons_zero, List.getElem_cons_succ, List.setIfInBounds_toArray, List.set_cons_zero, List.set_cons_succ]
      refine wpAny_take (i := 9) (v := .pointer (some ⟨g, 0, none⟩)) rfl (by kernel_rfl) (by kernel_rfl) (by kernel_rfl) (fun _ _ _ h => h) (Or.inl ⟨by rfl, fun W => by go_simp⟩) ?_
      simp only [Act.put, List.getElem_toArray, List.getElem_cons_zero, List.getElem_cons_succ, List.setIfInBounds_toArray, List.set_cons_zero, List.set_cons_succ]
      refine wpAny_take (i := 10) (v := .pointer (some ⟨g, 1, none⟩)) rfl (by kernel_rfl) (by kernel_rfl) (by kernel_rfl) (fun _ _ _ h => h) (Or.inl ⟨by rfl, fun W => by go_simp⟩) ?_
      simp only [Act.put, List.getElem_toArray, List.getElem_cons_zero, List.getElem_cons_succ, List.setIfInBounds_toArray, List.set_cons_zero, List.set_cons_succ]
      refine wpAny_ready (rs := [7, 11]) (by kernel_rfl) (by simp) ?_
      refine AllReady.cons rfl (fun K hK => ?_) (AllReady.cons rfl (fun K hK => ?_) AllReady.nil)
      · go_simp
        refine hK _ _ ?_
        clear hK K
        refine wpAny_ready (rs := [11]) (by kernel_rfl) (by simp) ?_
        refine AllReady.cons rfl (fun K hK => ?_) AllReady.nil
        go_simp
        refine hK _ _ ?_
        clear hK K
        refine wpAny_ready (rs := [12]) (by kernel_rfl) (by simp) ?_
        refine AllReady.cons rfl (fun K hK => ?_) AllReady.nil
        go_simp
        go_wp2_with (go_at_call 33; refine (begins_c' S ⟨#[62]⟩ i2 _ (by omega) (by decide) (by decide) (by omega)).mono ?_; rintro e w9 ⟨rfl, rfl⟩)
        rw [HD.out]
        refine wpAny_take (i := 13) (v := .bool (!d)) rfl (by kernel_rfl) (by kernel_rfl) (by kernel_rfl) (fun _ _ _ h => h) (Or.inl ⟨by rfl, fun W => by go_simp⟩) ?_
        simp only [Act.put, List.getElem_toArray, List.getElem_cons_zero, List.getElem_cons_succ, List.setIfInBounds_toArray, List.set_cons_zero, List.set_cons_succ]
        refine wpAny_take (i := 14) (v := .bool (!d)) rfl (by kernel_rfl) (by kernel_rfl) (by kernel_rfl) (fun _ _ _ h => h) (Or.inl ⟨by rfl, fun W => by go_simp⟩) ?_
        simp only [Act.put, List.getElem_toArray, List.getElem_cons_zero, List.getElem_cons_succ, List.setIfInBounds_toArray, List.set_cons_zero, List.set_cons_succ]
        refine wpAny_done (by kernel_rfl) ?_ _
        go_wp2_with fail
        go_meet
        exact ⟨rfl, rfl⟩
      · go_simp
        refine hK _ _ ?_
        clear hK K
        refine wpAny_ready (rs := [7]) (by kernel_rfl) (by simp) ?_
        refine AllReady.cons rfl (fun K hK => ?_) AllReady.nil
        go_simp
        refine hK _ _ ?_
        clear hK K
        refine wpAny_ready (rs := [12]) (by kernel_rfl) (by simp) ?_
        refine AllReady.cons rfl (fun K hK => ?_) AllReady.nil
        go_simp
        go_wp2_with (go_at_call 33; refine (begins_c' S ⟨#[62]⟩ i2 _ (by omega) (by decide) (by decide) (by omega)).mono ?_; rintro e w9 ⟨rfl, rfl⟩)
        rw [HD.out]
        refine wpAny_take (i := 13) (v := .bool (!d)) rfl (by kernel_rfl) (by kernel_rfl) (by kernel_rfl) (fun _ _ _ h => h) (Or.inl ⟨by rfl, fun W => by go_simp⟩) ?_
        simp only [Act.put, List.getElem_toArray, List.getElem_cons_zero, List.getElem_cons_succ, List.setIfInBounds_toArray, List.set_cons_zero, List.set_cons_succ]
        refine wpAny_take (i := 14) (v := .bool (!d)) rfl (by kernel_rfl) (by kernel_rfl) (by kernel_rfl) (fun _ _ _ h => h) (Or.inl ⟨by rfl, fun W => by go_simp⟩) ?_
        simp only [Act.put, List.getElem_toArray, List.getElem_cons_zero, List.getElem_cons_succ, List.setIfInBounds_toArray, List.set_cons_zero, List.set_cons_succ]
        refine wpAny_done (by kernel_rfl) ?_ _
        go_wp2_with fail
        go_meet
        exact ⟨rfl, rfl⟩
    case rest =>
    obtain ⟨rfl, rfl⟩ := hcut
    cases d with
    | false =>
      have HA : Hid (closeL ((bs S).drop (k + 2)) = none) := Lib.hid (close_no2 (by rw [HNM.out]; exact HNE.out) (by rw [HRE.out HNE.out]; exact HSK.out) HD.out)
      have QQ := Lib.hid (PX.fin X2.out.1.drew (.int .i64 2) (.string (tx nm)) (.string ⟨#[]⟩) (.slice none 0 0) (.bool false))
      have DD := Lib.hid (PX.ed X2.out.1 (.int .i64 2) (.string (tx nm)) (.string ⟨#[]⟩) (.slice none 0 0) (.bool false))
      go_wp2_with fail
      exact bodyPost_ret (v := .tuple #[.agg #[.int .i64 2, .string (tx nm), .string ⟨#[]⟩, .slice none 0 0, .bool false], .bool false]) (by obtain ⟨d0, d1, d2, d3, d4⟩ := DD.out; simp [results, Tryz.results36, go_sem, d0, d1, d2, d3, d4]) rfl (rtPost_none HA.out rfl hs2 QQ.out.1 QQ.out.2)
    | true =>
      have hlt2 : i2 + 1 ≤ S.size := by
        have h1 := prefix_len HD.out
        have h2 := bs_length S
        rw [List.length_drop] at h1
        have h3 : (bs ⟨#[62]⟩).length = 1 := rfl
        omega
      have HA : Hid (closeL ((bs S).drop (k + 2)) = some (⟨2, nm, [], [], false⟩, (bs S).drop (i2 + 1))) := Lib.hid (by
        have := close_yes (by rw [HNM.out]; exact HNE.out) (by rw [HRE.out HNE.out]; exact HSK.out) HD.out
        rw [HNM.out, List.drop_drop] at this
        exact this)
      have hwr : IntKind.i64.wrap ((i2 : Int) + 1) = ((i2 + 1 : Nat) : Int) := wrapR (by omega) (by omega)
      have X5 := Lib.hid (X2.out.drew.at1)
      have hgb : g ≠ w.heap.size := Nat.ne_of_lt X5.out.1.2.2.2
      go_upto_region 7 with fail
      obtain ⟨w3, hw3⟩ : ∃ w3, (w2.setCell ⟨g, 1, none⟩ (.int .i64 ((i2 : Int) + 1))).drew = w3 := ⟨_, rfl⟩
      have X6 : Hid (TX w w3 g S (i2 + 1) w1.heap.size (.int .i64 2) (.string (tx nm)) (.string ⟨#[]⟩) (.slice none 0 0) (.bool false)) := Lib.hid (by rw [← hw3]; exact X5.out)
      rw [hw3]
      clear hw3 X5 X2 z0 z1 x0 x1 x2 x3 x4 f1 f50 f51 f52 f53 f54 y0 y1 y2 y3 y4 hgb hwr
      have QQ := Lib.hid (PX.fin X6.out.1 (.int .i64 2) (.string (tx nm)) (.string ⟨#[]⟩) (.slice none 0 0) (.bool false))
      have DD := Lib.hid (PX.ed X6.out.1 (.int .i64 2) (.string (tx nm)) (.string ⟨#[]⟩) (.slice none 0 0) (.bool false))
      obtain ⟨z0, z1, x0, x1, x2, x3, x4⟩ := PX.rd X6.out.1
      obtain ⟨f1, f50, f51, f52, f53, f54⟩ := PX.fz X6.out.1
      obtain ⟨y0, y1, y2, y3, y4⟩ := TX.rd X6.out
      go_wp2_with fail
      exact bodyPost_ret (v := .tuple #[.agg #[.int .i64 2, .string (tx nm), .string ⟨#[]⟩, .slice none 0 0, .bool false], .bool true]) (by obtain ⟨d0, d1, d2, d3, d4⟩ := DD.out; simp [results, Tryz.results36, go_sem, d0, d1, d2, d3, d4]) rfl (rtPost_plain HA.out rfl hlt2 rfl QQ.out.1 QQ.out.2)
end Go.Proofs.YtlfpmfdlfhldbaaGreatDoor
