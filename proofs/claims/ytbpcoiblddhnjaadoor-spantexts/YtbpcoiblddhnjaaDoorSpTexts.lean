/-
  The walk of SpanTexts.
-/
import Derived.Test.YtbpcoiblddhnjaaDoorSpRt
import Derived.Test.YtbpcoiblddhnjaaDoorSpArg
import Derived.Test.YtbpcoiblddhnjaaDoorGnRow
import Derived.Test.YtbpcoiblddhnjaaDoorWdParts
namespace Nwl
open Go
theorem sep_part (h c : UInt8) (hc : sep8 c = true) : partQ h c = false := by unfold partQ; rw [hc]; rfl
theorem sep_dig (c : UInt8) (hc : sep8 c = true) : dig8 c = false := by
  cases hd : dig8 c with
  | false => rfl
  | true => rw [dig_sep c hd] at hc; cases hc
theorem parts_at_sep (d : Bool) (c : UInt8) (R : List UInt8) (hc : sep8 c = true) : partsD d (c :: R) = ⟨[], d, false⟩ :: partsD (dashL (c :: R)) R := by
  have hn : partN (c :: R) = 0 := by
    unfold partN
    show (List.takeWhile (partQ c) (c :: R)).length = 0
    rw [List.takeWhile_cons, sep_part c c hc]; rfl
  rw [partsD_step (by rw [hn]; simp), hn]
  show (⟨[], d, dig8 c⟩ : Pt) :: partsD (dashL (c :: R)) (nextL (c :: R)) = _
  rw [sep_dig c hc]
  show _ = (⟨[], d, false⟩ : Pt) :: partsD (dashL (c :: R)) R
  have : nextL (c :: R) = R := by show (if sep8 c then R else c :: R) = R; rw [hc]; rfl
  rw [this]
theorem parts_sep (c : UInt8) (R : List UInt8) (hc : sep8 c = true) : ∀ (n : Nat) (v : List UInt8) (d : Bool), v.length ≤ n → partsD d (v ++ c :: R) = partsD d v ++ partsD (dashL (c :: R)) R
  | _, [], d, _ => by
    rw [List.nil_append, parts_at_sep d c R hc]
    rfl
  | 0, h :: x, d, hn => by simp at hn
  | n + 1, h :: x, d, hn => by
    have hx : x.length ≤ n := by simpa using hn
    cases hs : sep8 h with
    | true =>
      rw [List.cons_append, parts_at_sep d h (x ++ c :: R) hs, parts_at_sep d h x hs]
      show _ :: partsD (dashL (h :: x)) (x ++ c :: R) = _
      rw [parts_sep c R hc n x _ hx]
      rfl
    | false =>
      have hpq : partQ h h = true := by unfold partQ; rw [hs]; simp
      obtain ⟨p, hp⟩ : ∃ p, x.takeWhile (partQ h) = p := ⟨_, rfl⟩
      obtain ⟨r, hr⟩ : ∃ r, x.dropWhile (partQ h) = r := ⟨_, rfl⟩
      have hxr : x = p ++ r := by rw [← hp, ← hr, List.takeWhile_append_dropWhile]
      have hpa : ∀ a ∈ h :: p, partQ h a = true := by
        intro a ha
        rcases List.mem_cons.1 ha with rfl | ha
        · exact hpq
        · rw [← hp] at ha
          exact List.all_eq_true.1 (List.all_takeWhile (l := x) (p := partQ h)) a ha
      have hre : endsP h r = true := by
        unfold endsP
        cases hrc : r with
        | nil => rfl
        | cons y z =>
          have : ¬ partQ h y = true := by
            have := List.head?_dropWhile_not (partQ h) x
            rw [hr, hrc] at this
            simpa using this
          simp [this]
      subst hxr
      have e1 := parts_pre d h p r hpa hre
      cases r with
      | nil =>
        have e2 := parts_pre d h p (c :: R) hpa (by unfold endsP; show (false || !partQ h c) = true; rw [sep_part h c hc]; rfl)
        rw [List.append_nil] at e1 ⊢
        show partsD d ((h :: p) ++ c :: R) = partsD d (h :: p) ++ _
        rw [e1, e2]
        show (⟨h :: p, d, dig8 c⟩ : Pt) :: partsD (dashL (c :: R)) (nextL (c :: R)) = (⟨h :: p, d, false⟩ : Pt) :: [] ++ _
        have : nextL (c :: R) = R := by show (if sep8 c then R else c :: R) = R; rw [hc]; rfl
        rw [sep_dig c hc, this]
        rfl
      | cons y z =>
        have hpq2 : partQ h y = false := by
          unfold endsP at hre
          simpa using hre
        have e2 := parts_pre d h p (y :: z ++ c :: R) hpa (by unfold endsP; show (false || !partQ h y) = true; rw [hpq2]; rfl)
        have hl : (nextL (y :: z)).length ≤ n := by
          have : (nextL (y :: z)).length ≤ (y :: z).length := by
            show (if sep8 y then z else y :: z).length ≤ _
            split <;> simp
          simp at hx this ⊢
          omega
        have ih := parts_sep c R hc n (nextL (y :: z)) (dashL (y :: z)) hl
        have hnx : nextL (y :: z ++ c :: R) = nextL (y :: z) ++ c :: R := by
          show (if sep8 y then z ++ c :: R else y :: (z ++ c :: R)) = (if sep8 y then z else y :: z) ++ c :: R
          split <;> rfl
        show partsD d (((h :: p) ++ y :: z) ++ c :: R) = partsD d ((h :: p) ++ y :: z) ++ _
        rw [List.append_assoc]
        show partsD d ((h :: p) ++ (y :: z ++ c :: R)) = _
        rw [e1, e2]
        show (⟨h :: p, d, dig8 y⟩ : Pt) :: partsD (dashL (y :: z)) (nextL (y :: z ++ c :: R)) = (⟨h :: p, d, dig8 y⟩ : Pt) :: partsD (dashL (y :: z)) (nextL (y :: z)) ++ _
        rw [hnx, ih]
        rfl
/-- what stands behind a dot or a dash, and means nothing, plays no part -/
theorem split_tail (c : UInt8) (R : List UInt8) (hc : sep8 c = true) (hl : lowerL (c :: R) = c :: R) (hno : ((partsD (dashL (c :: R)) R).map wordP).all noN = true) (v : List UInt8) : splitW (v ++ c :: R) = splitW v := by
  unfold splitW wordsL partsL
  rw [lowerL_app, hl, parts_sep c R hc _ (lowerL v) false (Nat.le_refl _), List.map_append, clean_app _ (fun w hw => List.all_eq_true.1 hno w hw)]
theorem cmp_tail (c : UInt8) (R : List UInt8) (hc : sep8 c = true) (hl : lowerL (c :: R) = c :: R) (hno : ((partsD (dashL (c :: R)) R).map wordP).all noN = true) (v : List UInt8) : cmpV (v ++ c :: R) v = 0 := by
  unfold cmpV spZ
  rw [split_tail c R hc hl hno]
  exact ord_words.refl _
theorem holds_same (l : List Sp) (v u : List UInt8) (h0 : cmpV v u = 0) : holdsB l v = holdsB l u := by
  have h : ∀ t, cmpV v t = cmpV u t := fun t => ord_v.same t h0
  have h2 : ∀ t, cmpV t v = cmpV t u := fun t => by
    have a1 := ord_v.anti v t
    have a2 := ord_v.anti u t
    have := h t
    omega
  unfold holdsB
  congr 1
  funext s
  unfold withinB aboveB
  rw [h, h2]
theorem holds_zero (l : List Sp) (v : List UInt8) : holdsB l (v ++ [46, 48]) = holdsB l v := holds_same l _ _ (cmp_tail 46 [48] (by decide) (by decide) (by decide +kernel) v)
theorem holds_ga (l : List Sp) (v : List UInt8) : holdsB l (v ++ [45, 103, 97]) = holdsB l v := holds_same l _ _ (cmp_tail 45 [103, 97] (by decide) (by decide) (by decide +kernel) v)
end Nwl
namespace Go.Proofs.YtbpcoiblddhnjaaDoor
open Nwl
open Go.RowKit Go.Maps
set_option linter.unusedVariables false

theorem spr_blk {g : Nat} {W : World} {s : Sp} (h : Blk W g 39 #[.string (tx s.lo), .string (tx s.hi), .bool s.il, .bool s.ih]) : SpR W.heap.size W (some ⟨g, 0, none⟩) 1 [s] := by
  refine ⟨rfl, fun j hj => ?_⟩
  have hj0 : j = 0 := by simpa using hj
  subst hj0
  exact ⟨g, 0, rfl, h.lt, h.cell 0, h.cell 1, h.cell 2, h.cell 3⟩

set_option maxRecDepth 100000 in
set_option maxHeartbeats 4000000 in
theorem texts_no (A : Option Addr) (n c : Nat) (l : List Sp) (v : ByteArray) (w : World) (h : SpR w.heap.size w A n l) (hn : n ≤ maxLen) (hl : ∀ s ∈ l, s.lo.length ≤ maxLen ∧ s.hi.length ≤ maxLen) (hv : v.size ≤ maxLen) (hf : fewS l = false ∨ 60 < v.size) :
    Calls Tryd.prog 6 #[.slice A n c, .string v] w fun e w' => e = .returned (.bool true) ∧ Hid (Below w.heap.size w w') := by
  obtain ⟨f, hfe⟩ : ∃ f, fewS l = f := ⟨_, rfl⟩
  rw [hfe] at hf
  have HF := Lib.hid (few_c A n c l w _ (Nat.le_refl _) h hn hl f hfe)
  clear h hl hfe
  unfold maxLen at hv
  cases f with
  | false =>
    clear hf
    go_enter Tryd.func6, Tryd.ntmps6
    go_wp2_with fail
    refine HF.out.mono ?_
    rintro e w1 ⟨rfl, rfl⟩
    go_wp2_with fail
    refine (awake7_c w).mono ?_
    rintro e w2 ⟨rfl, b2⟩
    go_wp2_with fail
    go_ret
    exact ⟨rfl, b2⟩
  | true =>
    have h60 : 60 < v.size := by
      rcases hf with hf | hf
      · cases hf
      · exact hf
    clear hf
    go_enter Tryd.func6, Tryd.ntmps6
    go_wp2_with fail
    refine HF.out.mono ?_
    rintro e w1 ⟨rfl, rfl⟩
    go_wp2_with fail
    refine (awake7_c w).mono ?_
    rintro e w2 ⟨rfl, b2⟩
    go_wp2_with fail
    go_ret
    exact ⟨rfl, b2⟩

set_option maxRecDepth 100000 in
set_option maxHeartbeats 4000000 in
theorem texts_yes (A : Option Addr) (n c : Nat) (l : List Sp) (v : ByteArray) (w : World) (h : SpR w.heap.size w A n l) (hn : n ≤ maxLen) (hl : ∀ s ∈ l, s.lo.length ≤ maxLen ∧ s.hi.length ≤ maxLen) (hf : fewS l = true) (hv : v.size ≤ 60) :
    Calls Tryd.prog 6 #[.slice A n c, .string v] w fun e w' => e = .returned (.bool true) ∧ Hid (Below w.heap.size w w') := by
  have HF := Lib.hid (few_c A n c l w _ (Nat.le_refl _) h hn hl true hf)
  have HRT := Lib.hid (right_c A n c l w _ (Nat.le_refl _) h hf)
  have HLS := Lib.hid (fewS_len hf)
  clear h hl hf hn
  obtain ⟨Z, hZ⟩ : ∃ Z, v ++ ⟨#[46, 48]⟩ = Z := ⟨_, rfl⟩
  obtain ⟨G, hG⟩ : ∃ Z, v ++ ⟨#[45, 103, 97]⟩ = Z := ⟨_, rfl⟩
  have zs : Z.size ≤ 62 := by rw [← hZ, ByteArray.size_append]; show v.size + 2 ≤ 62; omega
  have gs : G.size ≤ 63 := by rw [← hG, ByteArray.size_append]; show v.size + 3 ≤ 63; omega
  have HZ : Hid (∀ r, holdsB r (bs Z) = holdsB r (bs v)) := Lib.hid fun r => by rw [← hZ, bs_append]; exact holds_zero r (bs v)
  have HG : Hid (∀ r, holdsB r (bs G) = holdsB r (bs v)) := Lib.hid fun r => by rw [← hG, bs_append]; exact holds_ga r (bs v)
  go_enter Tryd.func6, Tryd.ntmps6
  go_wp2_with fail
  refine HF.out.mono ?_
  rintro e w1 ⟨rfl, rfl⟩
  go_wp2_with fail
  refine HRT.out.mono ?_
  rintro e w2 hp
  obtain ⟨A2, n2, c2, r, rfl, hrow, hn12, hr, hb2⟩ := hp.out
  have HROW := Lib.hid hrow
  have HSH : Hid (SpShort r) := Lib.hid fun s hs => by have := HLS.out s (hr s hs).1; omega
  have B2 := Lib.hid hb2
  obtain ⟨F, hF⟩ : ∃ F, holdsB r (bs v) = F := ⟨_, rfl⟩
  have HFV := Lib.hid hF
  have HFZ := Lib.hid ((HZ.out r).trans hF)
  have HFG := Lib.hid ((HG.out r).trans hF)
  clear hp hrow hr hb2 hF
  go_wp2_with fail
  refine (awake7_c _).mono ?_
  rintro e w3 ⟨rfl, b3⟩
  have B3 := Lib.hid (B2.out.trans (b3.out.mono B2.out.size))
  have R3 := Lib.hid (HROW.out.below b3.out)
  clear b3 B2 HROW
  go_wp2_with fail
  refine (Holds_c A2 n2 c2 r v _ _ (Nat.le_refl _) R3.out.r (by omega) HSH.out (by omega) F HFV.out).mono ?_
  rintro e w4 ⟨rfl, b4⟩
  have B4 := Lib.hid (B3.out.trans (b4.out.mono B3.out.size))
  have R4 := Lib.hid (R3.out.below b4.out)
  clear b4 B3 R3
  go_wp2_with fail
  refine (Holds_c A2 n2 c2 r Z _ _ (Nat.le_refl _) R4.out.r (by omega) HSH.out (by omega) F HFZ.out).mono ?_
  rintro e w5 ⟨rfl, b5⟩
  have B5 := Lib.hid (B4.out.trans (b5.out.mono B4.out.size))
  have R5 := Lib.hid (R4.out.below b5.out)
  clear b5 B4 R4
  go_wp2_with fail
  refine (Holds_c A2 n2 c2 r v _ _ (Nat.le_refl _) R5.out.r (by omega) HSH.out (by omega) F HFV.out).mono ?_
  rintro e w6 ⟨rfl, b6⟩
  have B6 := Lib.hid (B5.out.trans (b6.out.mono B5.out.size))
  have R6 := Lib.hid (R5.out.below b6.out)
  clear b6 B5 R5
  go_wp2_with fail
  refine (Holds_c A2 n2 c2 r G _ _ (Nat.le_refl _) R6.out.r (by omega) HSH.out (by omega) F HFG.out).mono ?_
  rintro e w7 ⟨rfl, b7⟩
  have B7 := Lib.hid (B6.out.trans (b7.out.mono B6.out.size))
  clear b7 B6 R6
  go_wp2_with fail
  refine (Holds_c none 0 0 [] v _ _ (Nat.le_refl _) (SpR.nil _ _ _) (by omega) (fun s hs => by simp at hs) (by omega) false rfl).mono ?_
  rintro e w8 ⟨rfl, b8⟩
  have B8 := Lib.hid (B7.out.trans (b8.out.mono B7.out.size))
  clear b8 B7
  have X8 := Lib.hid (Blk.new w8 39 #[.string ⟨#[]⟩, .string ⟨#[]⟩, .bool false, .bool false])
  have B9 := Lib.hid (B8.out.alloc B8.out.size (.cells #[.string ⟨#[]⟩, .string ⟨#[]⟩, .bool false, .bool false] 39))
  go_wp2_with fail
  refine (Holds_c (some ⟨w8.heap.size, 0, none⟩) 1 1 [⟨[], [], false, false⟩] v _ _ (Nat.le_refl _) (spr_blk (s := ⟨[], [], false, false⟩) X8.out) (by omega) (fun s hs => by rw [List.mem_singleton.1 hs]; simp) (by omega) true rfl).mono ?_
  rintro e w10 ⟨rfl, b10⟩
  have B10 := Lib.hid (B9.out.trans (b10.out.mono B9.out.size))
  go_wp2_with fail
  go_ret
  exact ⟨rfl, B10⟩

theorem SpanTexts_walk (A : Option Addr) (n c : Nat) (v : ByteArray) (w : World) (hn : n ≤ maxLen) (hA : A = none → n = 0 ∧ c = 0) (h : ∃ l : List Sp, SpR w.heap.size w A n l ∧ ∀ s ∈ l, s.lo.length ≤ maxLen ∧ s.hi.length ≤ maxLen) (hv : v.size ≤ maxLen) (hg : Glob w) :
    Calls Tryd.prog 6 #[.slice A n c, .string v] w fun e w' => e = .returned (.bool true) ∧ Below w.heap.size w w' := by
  obtain ⟨l, h, hl⟩ := h
  have key : Calls Tryd.prog 6 #[.slice A n c, .string v] w fun e w' => e = .returned (.bool true) ∧ Hid (Below w.heap.size w w') := by
    by_cases hf : fewS l = true ∧ v.size ≤ 60
    · exact texts_yes A n c l v w h hn hl hf.1 hf.2
    · refine texts_no A n c l v w h hn hl hv ?_
      by_cases h1 : fewS l = true
      · right
        rcases Nat.lt_or_ge 60 v.size with h2 | h2
        · exact h2
        · exact absurd ⟨h1, h2⟩ hf
      · left
        simpa using h1
  exact key.mono fun e w' h => ⟨h.1, h.2.out⟩
end Go.Proofs.YtbpcoiblddhnjaaDoor
