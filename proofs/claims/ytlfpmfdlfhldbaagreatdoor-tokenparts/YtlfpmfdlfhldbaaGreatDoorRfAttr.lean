/-
  The document's own answers (layer 2): the walk: attr.
-/
import Derived.Test.YtlfpmfdlfhldbaaGreatDoorRfValue
import Derived.BigRegion
namespace Nwl
open Go
theorem attr_no1 {l : List UInt8} (h : (nameP l).1 = []) : attrL l = none := by unfold attrL; rw [if_pos h]
theorem pre_one (l : List UInt8) (c : UInt8) : Lib.hasPrefix l [c] = true ↔ ∃ r, l = c :: r := by
  cases l with
  | nil => exact ⟨fun h => absurd h (by simp [Lib.hasPrefix, List.isPrefixOf]), fun ⟨r, h⟩ => by cases h⟩
  | cons a r =>
    constructor
    · intro h
      have e : (c == a) = true := by simpa [Lib.hasPrefix, List.isPrefixOf] using h
      exact ⟨r, by rw [eq_of_beq e]⟩
    · rintro ⟨r', h⟩
      injection h with h1 h2
      subst h1
      simp [Lib.hasPrefix, List.isPrefixOf]
theorem attr_no2 {l : List UInt8} {r : List UInt8} (h : (nameP l).1 ≠ []) (h2 : skipL (nameP l).2 = r) (h3 : Lib.hasPrefix r [61] = false) : attrL l = none := by
  unfold attrL
  rw [if_neg h, h2]
  cases r with
  | nil => rfl
  | cons c r =>
    dsimp only
    rw [if_neg]
    rintro rfl
    rw [(pre_one (61 :: r) 61).2 ⟨r, rfl⟩] at h3
    cases h3
theorem attr_yes {l : List UInt8} {r : List UInt8} (h : (nameP l).1 ≠ []) (h2 : skipL (nameP l).2 = 61 :: r) : attrL l = (valueL (skipL r)).map fun (v, rest) => (((nameP l).1, v), rest) := by
  unfold attrL
  rw [if_neg h, h2]
  rfl
end Nwl
namespace Go.Proofs.YtlfpmfdlfhldbaaGreatDoor
open Nwl
open Go.RowKit Go.Maps
set_option linter.unusedVariables false
set_option linter.unusedSimpArgs false

def RaPost (g : Nat) (S : ByteArray) (x : Option ((List UInt8 × List UInt8) × List UInt8)) (w : World) (e : Ending) (w' : World) : Prop :=
  match x with
  | some (a, rest) => (∃ i : Nat, i ≤ S.size ∧ rest = (bs S).drop i ∧ RW g S i w') ∧ e = .returned (.tuple #[.agg #[.string (tx a.1), .string (tx a.2)], .bool true]) ∧ w.grownBy w' (some g)
  | none => (∃ i : Nat, i ≤ S.size ∧ RW g S i w') ∧ (∃ a b : ByteArray, e = .returned (.tuple #[.agg #[.string a, .string b], .bool false])) ∧ w.grownBy w' (some g)
theorem raPost_none {g : Nat} {S : ByteArray} {x : Option ((List UInt8 × List UInt8) × List UInt8)} {w : World} {e : Ending} {w' : World} {i : Nat} {a b : ByteArray} (h : x = none) (hi : i ≤ S.size) (hr : RW g S i w') (he : e = .returned (.tuple #[.agg #[.string a, .string b], .bool false])) (hg : w.grownBy w' (some g)) : RaPost g S x w e w' := by subst h; exact ⟨⟨i, hi, hr⟩, ⟨a, b, he⟩, hg⟩
theorem raPost_some {g : Nat} {S : ByteArray} {x : Option ((List UInt8 × List UInt8) × List UInt8)} {w : World} {e : Ending} {w' : World} {i : Nat} {n v rest : List UInt8} (h : x = some ((n, v), rest)) (hi : i ≤ S.size) (hrest : rest = (bs S).drop i) (hr : RW g S i w') (he : e = .returned (.tuple #[.agg #[.string (tx n), .string (tx v)], .bool true])) (hg : w.grownBy w' (some g)) : RaPost g S x w e w' := by subst h; exact ⟨⟨i, hi, hrest, hr⟩, he, hg⟩
/-- the walk and the two boxes of an attribute under way -/
def AX (w W : World) (g : Nat) (S : ByteArray) (i b : Nat) (n v : ByteArray) : Prop :=
  RW g S i W ∧ Blk W w.heap.size 63 #[.string ⟨#[]⟩, .string ⟨#[]⟩] ∧ Blk W b 63 #[.string n, .string v] ∧ w.grownBy W (some g) ∧ g < w.heap.size ∧ w.heap.size < b
theorem AX.grown {w W W' : World} {g i i' b : Nat} {S n v : ByteArray} (h : AX w W g S i b n v) (hg : W.grownBy W' (some g)) (hr : RW g S i' W') : AX w W' g S i' b n v := by
  obtain ⟨h1, h2, h3, h4, h5, h6⟩ := h
  exact ⟨hr, h2.grown hg (by simp; omega), h3.grown hg (by simp; omega), World.grownBy.trans h4 hg, h5, h6⟩
theorem AX.drew {w W : World} {g i b : Nat} {S n v : ByteArray} (h : AX w W g S i b n v) : AX w W.drew g S i b n v := by
  obtain ⟨h1, h2, h3, h4, h5, h6⟩ := h
  exact ⟨h1, h2, h3, grown_drewN h4 1, h5, h6⟩
theorem AX.at {w W : World} {g i b : Nat} {S n v : ByteArray} (h : AX w W g S i b n v) (i' : Nat) : AX w (W.setCell ⟨g, 1, none⟩ (.int .i64 (i' : Int))) g S i' b n v :=
  h.grown (set_grown _ _ _ _) (h.1.set i')
theorem AX.val {w W : World} {g i b : Nat} {S n v : ByteArray} (h : AX w W g S i b n v) (u : ByteArray) : AX w (W.setCell ⟨b, 1, none⟩ (.string u)) g S i b n u := by
  obtain ⟨h1, h2, h3, h4, h5, h6⟩ := h
  exact ⟨Blk.set_far h1 (by omega) _, h2.set_far (by omega) _, h3.set 1 _, grown_set_new h4 (by omega) _, h5, h6⟩
theorem AX.ed {w W : World} {g i b : Nat} {S n v : ByteArray} (h : AX w W g S i b n v) : (W.setCell ⟨w.heap.size, 0, none⟩ (.string n)).cell? ⟨w.heap.size, 0, none⟩ = some (.string n) ∧ ((W.setCell ⟨w.heap.size, 0, none⟩ (.string n)).setCell ⟨w.heap.size, 1, none⟩ (.string v)).cell? ⟨w.heap.size, 1, none⟩ = some (.string v) := ⟨(h.2.1.set 0 _).cell 0, ((h.2.1.set 0 _).set 1 _).cell 1⟩
/-- what is handed back lies in the first box -/
theorem AX.fin {w W : World} {g i b : Nat} {S n v : ByteArray} (h : AX w W g S i b n v) : RW g S i ((W.setCell ⟨w.heap.size, 0, none⟩ (.string n)).setCell ⟨w.heap.size, 1, none⟩ (.string v)) ∧ Blk ((W.setCell ⟨w.heap.size, 0, none⟩ (.string n)).setCell ⟨w.heap.size, 1, none⟩ (.string v)) w.heap.size 63 #[.string n, .string v] ∧ w.grownBy ((W.setCell ⟨w.heap.size, 0, none⟩ (.string n)).setCell ⟨w.heap.size, 1, none⟩ (.string v)) (some g) := by
  obtain ⟨h1, h2, h3, h4, h5, h6⟩ := h
  exact ⟨Blk.set_far (Blk.set_far h1 (by omega) _) (by omega) _, (h2.set 0 _).set 1 _, grown_set_new (grown_set_new h4 (Nat.le_refl _) _) (Nat.le_refl _) _⟩
theorem AX.rd {w W : World} {g i b : Nat} {S n v : ByteArray} (h : AX w W g S i b n v) : W.cell? ⟨g, 0, none⟩ = some (.string S) ∧ W.cell? ⟨g, 1, none⟩ = some (.int .i64 (i : Int)) ∧ W.cell? ⟨b, 0, none⟩ = some (.string n) ∧ W.cell? ⟨b, 1, none⟩ = some (.string v) ∧ W.cell? ⟨w.heap.size, 0, none⟩ = some (.string ⟨#[]⟩) ∧ W.cell? ⟨w.heap.size, 1, none⟩ = some (.string ⟨#[]⟩) := ⟨h.1.c0, h.1.c1, h.2.2.1.cell 0, h.2.2.1.cell 1, h.2.1.cell 0, h.2.1.cell 1⟩
theorem AX.fz {w W : World} {g i b : Nat} {S n v : ByteArray} (h : AX w W g S i b n v) : W.frozen? ⟨g, 1, none⟩ = false ∧ W.frozen? ⟨b, 0, none⟩ = false ∧ W.frozen? ⟨b, 1, none⟩ = false ∧ W.frozen? ⟨w.heap.size, 0, none⟩ = false ∧ W.frozen? ⟨w.heap.size, 1, none⟩ = false := ⟨h.1.f1, h.2.2.1.frozen 0, h.2.2.1.frozen 1, h.2.1.frozen 0, h.2.1.frozen 1⟩
theorem AX.new {w w1 : World} {g k i : Nat} {S n : ByteArray} (h : RW g S k w) (hr : RW g S i w1) (hg : (w.alloc (.cells #[.string ⟨#[]⟩, .string ⟨#[]⟩] 63)).grownBy w1 (some g)) : AX w (w1.alloc (.cells #[.string n, .string ⟨#[]⟩] 63)) g S i w1.heap.size n ⟨#[]⟩ := by
  have hlt := Blk.lt h
  have hsz := hg.size
  simp at hsz
  refine ⟨Blk.alloc hr _, ((Blk.new w _ _).grown hg (by simp; omega)).alloc _, Blk.new w1 _ _, ?_, hlt, by omega⟩
  exact World.grownBy.trans (grown_after_alloc hg) (World.grownBy_alloc w1 _ _)

set_option maxRecDepth 100000 in
set_option maxHeartbeats 4000000 in
theorem rattr_c (g : Nat) (S : ByteArray) (k : Nat) (w : World) (h : RW g S k w) (hk : k ≤ S.size) (hs : S.size ≤ 100000) :
    Calls Tryz.prog 56 #[.pointer (some ⟨g, 0, none⟩)] w (RaPost g S (attrL ((bs S).drop k)) w) := by
  have HH := Lib.hid h
  have HK : Hid (RW g S k (w.alloc (.cells #[.string ⟨#[]⟩, .string ⟨#[]⟩] 63))) := Lib.hid (Blk.alloc h _)
  clear h
  obtain ⟨nm, hnm⟩ : ∃ nm, (nameP ((bs S).drop k)).1 = nm := ⟨_, rfl⟩
  have HNM := Lib.hid hnm
  clear hnm
  go_enter Tryz.func56, Tryz.ntmps56
  go_wp2_with fail
  refine (rname_c g S k _ HK.out hk hs).mono ?_
  rintro e w1 ⟨i, hki, his, rfl, hr1, hg1, hrest⟩
  rw [HNM.out]
  have X1 := Lib.hid (AX.new (n := tx nm) HH.out hr1 hg1)
  have HRE : Hid (nm ≠ [] → (nameP ((bs S).drop k)).2 = (bs S).drop i) := Lib.hid (by rw [← HNM.out]; exact hrest)
  have K1 := Lib.hid X1.out.1
  clear hr1 hg1 hrest
  go_wp2_with fail
  refine (rspaces_c g S i _ K1.out his hs).mono ?_
  rintro e w2 ⟨i2, hi2, hs2, rfl, hr2, hg2, hsk⟩
  have X2 := Lib.hid (X1.out.grown hg2 hr2)
  have HSK := Lib.hid hsk
  clear hr2 hg2 hsk X1 K1
  obtain ⟨z0, z1, y0, y1, x0, x1⟩ := AX.rd X2.out
  by_cases hn : nm = []
  · have HA : Hid (attrL ((bs S).drop k) = none) := Lib.hid (attr_no1 (by rw [HNM.out]; exact hn))
    subst hn
    have htn : (tx []).toList = [] := by rw [ByteArray.toList_eq]; rfl
    go_upto_region 3 with fail
    go_cut [26] from 7 to 45 (fun v wx => v = .bool true ∧ w2.drew = wx)
    case first =>
      refine wp_region_any (by kernel_rfl) ?_
      change wpAny _ _ _ _ _ _ _ (World.drew _)
      refine wpAny_take (i := 0) (v := .pointer (some ⟨w1.heap.size, 0, none⟩)) rfl (by kernel_rfl) (by kernel_rfl) (by kernel_rfl) (fun _ _ _ h => h) (Or.inl ⟨by rfl, fun W => by go_simp⟩) ?_
      simp only [Act.put, List.getElem_toArray, List.getElem_cons_zero, List.getElem_cons_succ, List.setIfInBounds_toArray, List.set_cons_zero, List.set_cons_succ]
      refine wpAny_ready (rs := [1]) (by kernel_rfl) (by simp) ?_
      refine AllReady.cons rfl (fun K hK => ?_) AllReady.nil
      go_simp
      refine hK _ _ ?_
      clear hK K
      refine wpAny_take (i := 2) (v := .bool true) rfl (by kernel_rfl) (by kernel_rfl) (by kernel_rfl) (fun _ _ _ h => h) (Or.inl ⟨by rfl, fun W => by go_simp⟩) ?_
      simp only [Act.put, List.getElem_toArray, List.getElem_cons_zero, List.getElem_cons_succ, List.setIfInBounds_toArray, List.set_cons_zero, List.set_cons_succ]
      refine wpAny_take (i := 3) (v := .bool true) rfl (by kernel_rfl) (by kernel_rfl) (by kernel_rfl) (fun _ _ _ h => h) (Or.inl ⟨by rfl, fun W => by go_simp⟩) ?_
      simp only [Act.put, List.getElem_toArray, List.getElem_cons_zero, List.getElem_cons_succ, List.setIfInBounds_toArray, List.set_cons_zero, List.set_cons_succ]
      refine wpAny_take (i := 4) (v := undef) rfl (by kernel_rfl) (by kernel_rfl) (by kernel_rfl) (fun _ _ _ h => h) (Or.inr ⟨by rfl, rfl⟩) ?_
      simp only [Act.put, List.getElem_toArray, List.getElem_cons_zero, List.getElem_cons_succ, List.setIfInBounds_toArray, List.set_cons_zero, List.set_cons_succ]
      refine wpAny_take (i := 5) (v := undef) rfl (by kernel_rfl) (by kernel_rfl) (by kernel_rfl) (fun _ _ _ h => h) (Or.inr ⟨by rfl, rfl⟩) ?_
      simp only [Act.put, List.getElem_toArray, List.getElem_cons_zero, List.getElem_cons_succ, List.setIfInBounds_toArray, List.set_cons_zero, List.set_cons_succ]
      refine wpAny_take (i := 6) (v := undef) rfl (by kernel_rfl) (by kernel_rfl) (by kernel_rfl) (fun _ _ _ h => h) (Or.inr ⟨by rfl, rfl⟩) ?_
      simp only [Act.put, List.getElem_toArray, List.getElem_cons_zero, List.getElem_cons_succ, List.setIfInBounds_toArray, List.set_cons_zero, List.set_cons_succ]
      refine wpAny_take (i := 7) (v := undef) rfl (by kernel_rfl) (by kernel_rfl) (by kernel_rfl) (fun _ _ _ h => h) (Or.inr ⟨by rfl, rfl⟩) ?_
      simp only [Act.put, List.getElem_toArray, List.getElem_cons_zero, List.getElem_cons_succ, List.setIfInBounds_toArray, List.set_cons_zero, List.set_cons_succ]
      refine wpAny_take (i := 8) (v := undef) rfl (by kernel_rfl) (by kernel_rfl) (by kernel_rfl) (fun _ _ _ h => h) (Or.inr ⟨by rfl, rfl⟩) ?_
      simp only [Act.put, List.getElem_toArray, List.getElem_cons_zero, List.getElem_cons_succ, List.setIfInBounds_toArray, List.set_cons_zero, List.set_cons_succ]
      refine wpAny_take (i := 9) (v := undef) rfl (by kernel_rfl) (by kernel_rfl) (by kernel_rfl) (fun _ _ _ h => h) (Or.inr ⟨by rfl, rfl⟩) ?_
      simp only [Act.put, List.getElem_toArray, List.getElem_cons_zero, List.getElem_cons_succ, List.setIfInBounds_toArray, List.set_cons_zero, List.set_cons_succ]
      refine wpAny_take (i := 10) (v := undef) rfl (by kernel_rfl) (by kernel_rfl) (by kernel_rfl) (fun _ _ _ h => h) (Or.inr ⟨by rfl, rfl⟩) ?_
      simp only [Act.put, List.getElem_toArray, List.getElem_cons_zero, List.getElem_cons_succ, List.setIfInBounds_toArray, List.set_cons_zero, List.set_cons_succ]
      refine wpAny_take (i := 11) (v := undef) rfl (by kernel_rfl) (by kernel_rfl) (by kernel_rfl) (fun _ _ _ h => h) (Or.inr ⟨by rfl, rfl⟩) ?_
      simp only [Act.put, List.getElem_toArray, List.getElem_cons_zero, List.getElem_cons_succ, List.setIfInBounds_toArray, List.set_cons_zero, List.set_cons_succ]
      refine wpAny_take (i := 12) (v := undef) rfl (by kernel_rfl) (by kernel_rfl) (by kernel_rfl) (fun _ _ _ h => h) (Or.inr ⟨by rfl, rfl⟩) ?_
      simp only [Act.put, List.getElem_toArray, List.getElem_cons_zero, List.getElem_cons_succ, List.setIfInBounds_toArray, List.set_cons_zero, List.set_cons_succ]
      refine wpAny_take (i := 13) (v := undef) rfl (by kernel_rfl) (by kernel_rfl) (by kernel_rfl) (fun _ _ _ h => h) (Or.inr ⟨by rfl, rfl⟩) ?_
      simp only [Act.put, List.getElem_toArray, List.getElem_cons_zero, List.getElem_cons_succ, List.setIfInBounds_toArray, List.set_cons_zero, List.set_cons_succ]
      refine wpAny_take (i := 14) (v := .bool true) rfl (by kernel_rfl) (by kernel_rfl) (by kernel_rfl) (fun _ _ _ h => h) (Or.inl ⟨by rfl, fun W => by go_simp⟩) ?_
      simp only [Act.put, List.getElem_toArray, List.getElem_cons_zero, List.getElem_cons_succ, List.setIfInBounds_toArray, List.set_cons_zero, List.set_cons_succ]
      refine wpAny_done (by kernel_rfl) ?_ _
      go_wp2_with fail
      go_meet
      exact ⟨rfl, rfl⟩
    case rest =>
    obtain ⟨rfl, rfl⟩ := hcut
    have X3 := X2.out.drew
    obtain ⟨f1, f2, f3, f4, f5⟩ := AX.fz X2.out
    obtain ⟨q1, q2, q3⟩ := AX.fin X3
    obtain ⟨d0, d1⟩ := AX.ed X2.out
    clear q2
    go_wp2_with fail
    exact bodyPost_ret (v := .tuple #[.agg #[.string (tx []), .string ⟨#[]⟩], .bool false]) (by simp [results, Tryz.results56, go_sem, d0, d1]) rfl (raPost_none HA.out hs2 q1 rfl q3)
  · have hne : (tx nm).toList.isEmpty = false := by
      rw [show (tx nm).toList = nm by rw [ByteArray.toList_eq]; rfl]
      cases nm with
      | nil => exact absurd rfl hn
      | cons => rfl
    have hne2 : ((tx nm).toList == []) = false := by
      rw [show (tx nm).toList = nm by rw [ByteArray.toList_eq]; rfl, beq_eq_false_iff_ne]; exact hn
    obtain ⟨d, hd⟩ : ∃ d, Lib.hasPrefix ((bs S).drop i2) (bs ⟨#[61]⟩) = d := ⟨_, rfl⟩
    have HD := Lib.hid hd
    have HNE : Hid (nm ≠ []) := Lib.hid hn
    clear hn hd
    go_upto_region 3 with fail
    go_cut [26] from 7 to 45 (fun v wx => v = .bool (!d) ∧ w2.drew = wx)
    case first =>
      refine wp_region_any (by kernel_rfl) ?_
      change wpAny _ _ _ _ _ _ _ (World.drew _)
      refine wpAny_take (i := 0) (v := .pointer (some ⟨w1.heap.size, 0, none⟩)) rfl (by kernel_rfl) (by kernel_rfl) (by kernel_rfl) (fun _ _ _ h => h) (Or.inl ⟨by rfl, fun W => by go_simp⟩) ?_
      simp only [Act.put, List.getElem_toArray, List.getElem_cons_zero, List.getElem_cons_succ, List.setIfInBounds_toArray, List.set_cons_zero, List.set_cons_succ]
      refine wpAny_ready (rs := [1]) (by kernel_rfl) (by simp) ?_
      refine AllReady.cons rfl (fun K hK => ?_) AllReady.nil
      go_simp
      refine hK _ _ ?_
      clear hK K
      refine wpAny_take (i := 2) (v := .bool false) rfl (by kernel_rfl) (by kernel_rfl) (by kernel_rfl) (fun _ _ _ h => h) (Or.inl ⟨by rfl, fun W => by go_simp⟩) ?_
      simp only [Act.put, List.getElem_toArray, List.getElem_cons_zero, List.getElem_cons_succ, List.setIfInBounds_toArray, List.set_cons_zero, List.set_cons_succ]
      refine wpAny_take (i := 3) (v := .bool false) rfl (by kernel_rfl) (by kernel_rfl) (by kernel_rfl) (fun _ _ _ h => h) (Or.inl ⟨by rfl, fun W => by go_simp⟩) ?_
      simp only [Act.put, List.getElem_toArray, List.getElem_cons_zero, List.getElem_cons_succ, List.setIfInBounds_toArray, List.set_cons_zero, List.set_cons_succ]
      refine wpAny_take (i := 4) (v := .pointer (some ⟨g, 0, none⟩)) rfl (by kernel_rfl) (by kernel_rfl) (by kernel_rfl) (fun _ _ _ h => h) (Or.inl ⟨by rfl, fun W => by go_simp⟩) ?_
      simp only [Act.put, List.getElem_toArray, List.getElem_cons_zero, List.getElem_cons_succ, List.setIfInBounds_toArray, List.set_cons_zero, List.set_cons_succ]
      refine wpAny_take (i := 5) (v := .pointer (some ⟨g, 0, none⟩)) rfl (by kernel_rfl) (by kernel_rfl) (by kernel_rfl) (fun _ _ _ h => h) (Or.inl ⟨by rfl, fun W => by go_simp⟩) ?_
      simp only [Act.put, List.getElem_toArray, List.getElem_cons_zero, List.getElem_cons_succ, List.setIfInBounds_toArray, List.set_cons_zero, List.set_cons_succ]
      refine wpAny_take (i := 6) (v := .pointer (some ⟨g, 0, none⟩)) rfl (by kernel_rfl) (by kernel_rfl) (by kernel_rfl) (fun _ _ _ h => h) (Or.inl ⟨by rfl, fun W => by go_simp⟩) ?_
      simp only [Act.put, List.getElem_toArray, List.getElem_cons_zero, List.getElem_cons_succ, List.setIfInBounds_toArray, List.set_cons_zero, List.set_cons_succ]
      refine wpAny_take (i := 8) (v := .pointer (some ⟨g, 0, none⟩)) rfl (by kernel_rfl) (by kernel_rfl) (by kernel_rfl) (fun _ _ _ h => h) (Or.inl ⟨by rfl, fun W => by go_simp⟩) ?_
      simp only [Act.put, List.getElem_toArray, List.getElem_cons_zero, List.getElem_cons_succ, List.setIfInBounds_toArray, List.set_cons_zero, List.set_cons_succ]
      refine wpAny_take (i := 9) (v := .pointer (some ⟨g, 0, none⟩)) rfl (by kernel_rfl) (by kernel_rfl) (by kernel_rfl) (fun _ _ _ h => h) (Or.inl ⟨by rfl, fun W => by go_simp⟩) ?_
      simp only [Act.put, List.getElem_toArray, List.getElem_cons_zero, List.getElem_cons_succ, List.setIfInBounds_toArray, List.set_cons_zero, List.set_cons_succ]
      refine wpAny_take (i := 10) (v := .pointer (some ⟨g, 1, none⟩)) rfl (by kernel_rfl) (by kernel_rfl) (by kernel_rfl) (fun _ _ _ h => h) (Or.inl ⟨by rfl, fun W => by go_simp⟩) ?_
      simp only [Act.put, List.getElem_toArray, List.getElem_cons_zero, List.getElem_cons_succ, List.setIfInBounds_toArray, List.set_cons_zero, List.set_cons_succ]
      refine wpAny_ready (rs := [7, 11]) (by kernel_rfl) (by simp) ?_
      refine AllReady.cons rfl (fun K hK => ?_) (AllReady.cons rfl (fun K hK => ?_) AllReady.nil)
      · go_simp
        refine hK _ _ ?_
        clear hK K
        refine wpAny_ready (rs := [11]) (by kernel_rfl) (by simp) ?_
        refine AllReady.cons rfl (fun K hK => ?_) AllReady.nil
        go_simp
        refine hK _ _ ?_
        clear hK K
        refine wpAny_ready (rs := [12]) (by kernel_rfl) (by simp) ?_
        refine AllReady.cons rfl (fun K hK => ?_) AllReady.nil
        go_simp
        go_wp2_with (go_at_call 33; refine (begins_c' S ⟨#[61]⟩ i2 _ (by omega) (by decide) (by decide) (by omega)).mono ?_; rintro e w9 ⟨rfl, rfl⟩)
        rw [HD.out]
        refine wpAny_take (i := 13) (v := .bool (!d)) rfl (by kernel_rfl) (by kernel_rfl) (by kernel_rfl) (fun _ _ _ h => h) (Or.inl ⟨by rfl, fun W => by go_simp⟩) ?_
        simp only [Act.put, List.getElem_toArray, List.getElem_cons_zero, List.getElem_cons_succ, List.setIfInBounds_toArray, List.set_cons_zero, List.set_cons_succ]
        refine wpAny_take (i := 14) (v := .bool (!d)) rfl (by kernel_rfl) (by kernel_rfl) (by kernel_rfl) (fun _ _ _ h => h) (Or.inl ⟨by rfl, fun W => by go_simp⟩) ?_
        simp only [Act.put, List.getElem_toArray, List.getElem_cons_zero, List.getElem_cons_succ, List.setIfInBounds_toArray, List.set_cons_zero, List.set_cons_succ]
        refine wpAny_done (by kernel_rfl) ?_ _
        go_wp2_with fail
        go_meet
        exact ⟨rfl, rfl⟩
      · go_simp
        refine hK _ _ ?_
        clear hK K
        refine wpAny_ready (rs := [7]) (by kernel_rfl) (by simp) ?_
        refine AllReady.cons rfl (fun K hK => ?_) AllReady.nil
        go_simp
        refine hK _ _ ?_
        clear hK K
        refine wpAny_ready (rs := [12]) (by kernel_rfl) (by simp) ?_
        refine AllReady.cons rfl (fun K hK => ?_) AllReady.nil
        go_simp
        go_wp2_with (go_at_call 33; refine (begins_c' S ⟨#[61]⟩ i2 _ (by omega) (by decide) (by decide) (by omega)).mono ?_; rintro e w9 ⟨rfl, rfl⟩)
        rw [HD.out]
        refine wpAny_take (i := 13) (v := .bool (!d)) rfl (by kernel_rfl) (by kernel_rfl) (by kernel_rfl) (fun _ _ _ h => h) (Or.inl ⟨by rfl, fun W => by go_simp⟩) ?_
        simp only [Act.put, List.getElem_toArray, List.getElem_cons_zero, List.getElem_cons_succ, List.setIfInBounds_toArray, List.set_cons_zero, List.set_cons_succ]
        refine wpAny_take (i := 14) (v := .bool (!d)) rfl (by kernel_rfl) (by kernel_rfl) (by kernel_rfl) (fun _ _ _ h => h) (Or.inl ⟨by rfl, fun W => by go_simp⟩) ?_
        simp only [Act.put, List.getElem_toArray, List.getElem_cons_zero, List.getElem_cons_succ, List.setIfInBounds_toArray, List.set_cons_zero, List.set_cons_succ]
        refine wpAny_done (by kernel_rfl) ?_ _
        go_wp2_with fail
        go_meet
        exact ⟨rfl, rfl⟩
    case rest =>
    obtain ⟨rfl, rfl⟩ := hcut
    have X3 := Lib.hid X2.out.drew
    cases d with
    | false =>
      have HA : Hid (attrL ((bs S).drop k) = none) := Lib.hid (attr_no2 (by rw [HNM.out]; exact HNE.out) (by rw [HRE.out HNE.out]; exact HSK.out) HD.out)
      obtain ⟨f1, f2, f3, f4, f5⟩ := AX.fz X2.out
      obtain ⟨q1, q2, q3⟩ := AX.fin X3.out
      obtain ⟨d0, d1⟩ := AX.ed X2.out
      clear q2
      go_wp2_with fail
      exact bodyPost_ret (v := .tuple #[.agg #[.string (tx nm), .string ⟨#[]⟩], .bool false]) (by simp [results, Tryz.results56, go_sem, d0, d1]) rfl (raPost_none HA.out hs2 q1 rfl q3)
    | true =>
      obtain ⟨r, hr⟩ := (pre_one _ _).1 HD.out
      have hlt2 : i2 < S.size := by
        rcases Nat.lt_or_ge i2 S.size with h' | h'
        · exact h'
        · rw [List.drop_eq_nil_of_le (by rw [bs_length]; exact h')] at hr; cases hr
      have hr1 : r = (bs S).drop (i2 + 1) := by
        rw [List.drop_eq_getElem_cons (by rw [bs_length]; exact hlt2)] at hr
        injection hr with _ hr
        exact hr.symm
      have HA : Hid (attrL ((bs S).drop k) = (valueL (skipL ((bs S).drop (i2 + 1)))).map fun (v, rest) => ((nm, v), rest)) := Lib.hid (by
        rw [← hr1, ← HNM.out]
        exact attr_yes (by rw [HNM.out]; exact HNE.out) (by rw [HRE.out HNE.out, HSK.out, hr]))
      have X4 := Lib.hid (X3.out.at (i2 + 1))
      obtain ⟨f1, f2, f3, f4, f5⟩ := AX.fz X2.out
      have hwr : IntKind.i64.wrap ((i2 : Int) + 1) = ((i2 + 1 : Nat) : Int) := wrapR (by omega) (by omega)
      clear hr hr1 X3 X2
      go_wp2_with fail
      refine (rspaces_c g S (i2 + 1) _ X4.out.1 (by omega) hs).mono ?_
      rintro e w4 ⟨i3, hi3, hs3, rfl, hr3, hg3, hsk3⟩
      have X5 := Lib.hid (X4.out.grown hg3 hr3)
      have HSK3 := Lib.hid hsk3
      clear hr3 hg3 hsk3 X4 z0 z1 y0 y1 x0 x1 f1 f2 f3 f4 f5
      go_wp2_with fail
      refine (rvalue_c g S i3 _ X5.out.1 hs3 hs).mono ?_
      intro e w5 hp
      rw [← HSK3.out] at hp
      obtain ⟨V, hV⟩ : ∃ V, valueL (skipL ((bs S).drop (i2 + 1))) = V := ⟨_, rfl⟩
      rw [hV] at hp
      have HA2 : Hid (attrL ((bs S).drop k) = V.map fun (v, rest) => ((nm, v), rest)) := Lib.hid (by rw [HA.out, hV])
      clear hV
      cases V with
      | none =>
        obtain ⟨⟨i5, h5, hr5⟩, rfl, hg5⟩ := hp
        have X6 := Lib.hid (X5.out.grown hg5 hr5)
        have X7 := Lib.hid (X6.out.val ⟨#[]⟩)
        obtain ⟨z0, z1, y0, y1, x0, x1⟩ := AX.rd X6.out
        obtain ⟨f1, f2, f3, f4, f5⟩ := AX.fz X6.out
        obtain ⟨zz0, zz1, yy0, yy1, xx0, xx1⟩ := AX.rd X7.out
        obtain ⟨ff1, ff2, ff3, ff4, ff5⟩ := AX.fz X7.out
        obtain ⟨q1, q2, q3⟩ := AX.fin X7.out
        obtain ⟨d0, d1⟩ := AX.ed X7.out
        clear q2
        clear hr5 hg5 X5
        go_wp2_with fail
        exact bodyPost_ret (v := .tuple #[.agg #[.string (tx nm), .string ⟨#[]⟩], .bool false]) (by simp [results, Tryz.results56, go_sem, d0, d1]) rfl (raPost_none HA2.out h5 q1 rfl q3)
      | some p =>
        obtain ⟨v, rest⟩ := p
        obtain ⟨⟨i5, h5, hrest5, hr5⟩, rfl, hg5⟩ := hp
        have X6 := Lib.hid (X5.out.grown hg5 hr5)
        have X7 := Lib.hid (X6.out.val (tx v))
        have HRS := Lib.hid hrest5
        obtain ⟨z0, z1, y0, y1, x0, x1⟩ := AX.rd X6.out
        obtain ⟨f1, f2, f3, f4, f5⟩ := AX.fz X6.out
        obtain ⟨zz0, zz1, yy0, yy1, xx0, xx1⟩ := AX.rd X7.out
        obtain ⟨ff1, ff2, ff3, ff4, ff5⟩ := AX.fz X7.out
        obtain ⟨q1, q2, q3⟩ := AX.fin X7.out
        obtain ⟨d0, d1⟩ := AX.ed X7.out
        clear q2
        clear hr5 hg5 X5 hrest5
        go_wp2_with fail
        exact bodyPost_ret (v := .tuple #[.agg #[.string (tx nm), .string (tx v)], .bool true]) (by simp [results, Tryz.results56, go_sem, d0, d1]) rfl (raPost_some HA2.out h5 HRS.out q1 rfl q3)
end Go.Proofs.YtlfpmfdlfhldbaaGreatDoor
