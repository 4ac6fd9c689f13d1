/-
  The document's own answers (layer 2): the walk: upto, name, spaces.
-/
import Derived.Test.YtlfpmfdlfhldbaaGreatDoorRfEnt
import Derived.BigQuiet
namespace Nwl
open Go
/-- a run of such bytes, from k up to i -/
def RunTo (p : UInt8 → Bool) (s : ByteArray) (k i : Nat) : Prop := ∀ j (hj : j < s.size), k ≤ j → j < i → p s[j] = true
theorem runTo_start (p : UInt8 → Bool) (s : ByteArray) (k : Nat) : RunTo p s k k := fun j _ h1 h2 => by omega
theorem runTo_succ {p : UInt8 → Bool} {s : ByteArray} {k i : Nat} (h : RunTo p s k i) (hi : i < s.size) (hp : p s[i] = true) : RunTo p s k (i + 1) := fun j hj h1 h2 => by
  rcases Nat.lt_or_ge j i with h3 | h3
  · exact h j hj h1 h3
  · obtain rfl : j = i := by omega
    exact hp
theorem run_end {p : UInt8 → Bool} {s : ByteArray} {k i : Nat} (hk : k ≤ i) (his : i ≤ s.size) (h : RunTo p s k i) (he : ∀ hi : i < s.size, p s[i] = false) : ((bs s).drop k).takeWhile p = bs (s.extract k i) ∧ ((bs s).drop k).dropWhile p = (bs s).drop i := by
  have hsplit : (bs s).drop k = bs (s.extract k i) ++ (bs s).drop i := by
    rw [bs_extract]
    conv => lhs; rw [← List.take_append_drop (i - k) ((bs s).drop k)]
    rw [List.drop_drop, show k + (i - k) = i by omega]
  have hall : ∀ c ∈ bs (s.extract k i), p c = true := by
    intro c hc
    rw [bs_extract] at hc
    obtain ⟨j, hj, e⟩ := List.mem_iff_getElem.1 hc
    rw [List.getElem_take, List.getElem_drop] at e
    rw [List.length_take, List.length_drop, bs_length] at hj
    rw [← e]
    exact h (k + j) (by omega) (by omega) (by omega)
  have hhead : ((bs s).drop i).takeWhile p = [] ∧ ((bs s).drop i).dropWhile p = (bs s).drop i := by
    by_cases hi : i < s.size
    · rw [List.drop_eq_getElem_cons (by rw [bs_length]; exact hi)]
      have := he hi
      have e : (bs s)[i]'(by rw [bs_length]; exact hi) = s[i] := rfl
      rw [e, List.takeWhile_cons, List.dropWhile_cons, this]
      exact ⟨rfl, rfl⟩
    · rw [List.drop_eq_nil_of_le (by rw [bs_length]; omega)]
      exact ⟨rfl, rfl⟩
  rw [hsplit, List.takeWhile_append_of_pos hall, List.dropWhile_append_of_pos hall, hhead.1, hhead.2]
  exact ⟨by simp, rfl⟩
theorem nameP_ok {R : List UInt8} (h : nameL (R.takeWhile within8) = true) : nameP R = (R.takeWhile within8, R.dropWhile within8) := by
  cases R with
  | nil => simp [nameL] at h
  | cons c r =>
    unfold nameP
    by_cases hb : beginI c.toNat = true
    · simp only [hb, if_true]
    · rw [List.takeWhile_cons] at h
      split at h
      · simp [nameL, hb] at h
      · simp [nameL] at h
theorem nameP_not {R : List UInt8} (h : nameL (R.takeWhile within8) = false) : (nameP R).1 = [] := by
  cases R with
  | nil => rfl
  | cons c r =>
    unfold nameP
    by_cases hb : beginI c.toNat = true
    · exfalso
      have hw : within8 c = true := begin_within _ hb
      rw [List.takeWhile_cons, if_pos hw] at h
      have hall : ∀ x ∈ r.takeWhile within8, within8 x = true := fun x hx => List.all_eq_true.1 (List.all_takeWhile) x hx
      have : nameL (c :: r.takeWhile within8) = true := by
        simp only [nameL, hb, Bool.true_and]
        exact List.all_eq_true.2 hall
      rw [this] at h
      cases h
    · simp [hb]
end Nwl
namespace Go.Proofs.YtlfpmfdlfhldbaaGreatDoor
open Nwl
open Go.RowKit Go.Maps
set_option linter.unusedVariables false

/-- the walk: its text, and where it stands -/
def RW (g : Nat) (S : ByteArray) (k : Nat) (w : World) : Prop := Blk w g 42 #[.string S, .int .i64 (k : Int)]
theorem RW.set {g : Nat} {S : ByteArray} {k : Nat} {w : World} (h : RW g S k w) (k' : Nat) : RW g S k' (w.setCell ⟨g, 1, none⟩ (.int .i64 (k' : Int))) := Blk.set h 1 _
theorem RW.c0 {g : Nat} {S : ByteArray} {k : Nat} {w : World} (h : RW g S k w) : w.cell? ⟨g, 0, none⟩ = some (.string S) := Blk.cell h 0
theorem RW.c1 {g : Nat} {S : ByteArray} {k : Nat} {w : World} (h : RW g S k w) : w.cell? ⟨g, 1, none⟩ = some (.int .i64 (k : Int)) := Blk.cell h 1
theorem RW.f1 {g : Nat} {S : ByteArray} {k : Nat} {w : World} (h : RW g S k w) : w.frozen? ⟨g, 1, none⟩ = false := Blk.frozen h 1
theorem set_grown (w : World) (b i : Nat) (u : Value) : w.grownBy (w.setCell ⟨b, i, none⟩ u) (some b) :=
  ⟨rfl, rfl, rfl, by simp [World.setCell], fun k _ hk => Below.heap_setCell w ⟨b, i, none⟩ u k (fun e => hk (by simp [e]))⟩

def rwAt (g : Nat) (w : World) : Nat := match w.cell? ⟨g, 1, none⟩ with
  | some (.int _ z) => z.toNat
  | _ => 0
theorem RW.at {g : Nat} {S : ByteArray} {k : Nat} {w : World} (h : RW g S k w) : rwAt g w = k := by unfold rwAt; rw [h.c1]; simp
theorem RW.grown {g : Nat} {S : ByteArray} {k : Nat} {w w' : World} {row : Option Nat} (h : RW g S k w) (hb : w.grownBy w' row) (hg : some g ≠ row) : RW g S k w' := Blk.grown h hb hg
theorem RW.drewN {g : Nat} {S : ByteArray} {k : Nat} {w : World} (h : RW g S k w) (n : Nat) : RW g S k (w.drewN n) := h
theorem grown_drewN {w w' : World} {row : Option Nat} (h : w.grownBy w' row) (n : Nat) : w.grownBy (w'.drewN n) row := ⟨h.os, h.tape, h.output, h.size, h.block⟩
theorem grown_set2 {w w' : World} {b : Nat} (h : w.grownBy w' (some b)) (i : Nat) (u : Value) : w.grownBy (w'.setCell ⟨b, i, none⟩ u) (some b) := World.grownBy.trans h (set_grown w' b i u)

set_option maxRecDepth 100000 in
set_option maxHeartbeats 1000000 in
theorem rspaces_c (g : Nat) (S : ByteArray) (k : Nat) (w : World) (h : RW g S k w) (hk : k ≤ S.size) (hs : S.size ≤ 100000) :
    Calls Tryz.prog 55 #[.pointer (some ⟨g, 0, none⟩)] w fun e w' => ∃ i : Nat, k ≤ i ∧ i ≤ S.size ∧ e = .returned (.int .i64 ((i : Int) - k)) ∧ RW g S i w' ∧ w.grownBy w' (some g) ∧ skipL ((bs S).drop k) = (bs S).drop i := by
  have HH := Lib.hid h
  have c0 := h.c0
  have c1 := h.c1
  clear h
  go_enter Tryz.func55, Tryz.ntmps55
  go_wp2_with fail
  go_loopw [11] (fun _ wr => ∃ i : Nat, k ≤ i ∧ i ≤ S.size ∧ Hid (RW g S i wr ∧ w.grownBy wr (some g) ∧ RunTo space8 S k i)) (fun _ wr => S.size - rwAt g wr)
  case atStart => exact ⟨k, Nat.le_refl _, hk, HH.out, World.grownBy.refl _ _, runTo_start _ _ _⟩
  case round =>
    obtain ⟨i, hki, his, hh⟩ := hrel
    obtain ⟨hrw, hgr, hrun⟩ := hh.out
    clear hh c0 c1
    have HRW := Lib.hid hrw
    have HGR := Lib.hid hgr
    have HRUN := Lib.hid hrun
    have c0 := hrw.c0
    have c1 := hrw.c1
    clear hrw hgr hrun
    by_cases hlt : i < S.size
    · have hltd : decide (i < S.size) = true := by rw [decide_eq_true_iff]; exact hlt
      have hltI : (i : Int) < S.size := by omega
      cases hc : spaceI S[i].toNat with
      | true =>
        have HUP := Lib.hid (runTo_succ HRUN.out hlt (show space8 S[i] = true from hc))
        go_wp2_with fail
        go_quiet ((go_at_call 53; exact Calls.quiet_of_same ((refSpace_c _ _).mono fun _ _ h => ⟨by rw [h.1, hc], h.2.symm⟩)))
        have d1 := (HRW.out.drewN nq).c1
        have f1 := (HRW.out.drewN nq).f1
        go_wp2_with fail
        have X : RW g S (i + 1) ((wr.drewN nq).setCell ⟨g, 1, none⟩ (.int .i64 ((i : Int) + 1))) := (HRW.out.drewN nq).set (i + 1)
        refine ⟨⟨i + 1, by omega, by omega, X, grown_set2 (grown_drewN HGR.out nq) 1 _, HUP.out⟩, ?_⟩
        rw [X.at, HRW.out.at]
        omega
      | false =>
        have HE := Lib.hid (run_end (p := space8) hki his HRUN.out (fun _ => hc))
        go_wp2_with fail
        go_quiet ((go_at_call 53; exact Calls.quiet_of_same ((refSpace_c _ _).mono fun _ _ h => ⟨by rw [h.1, hc], h.2.symm⟩)))
        have d1 := (HRW.out.drewN nq).c1
        have d0 := (HRW.out.drewN nq).c0
        go_wp2_with fail
        go_ret
        exact ⟨i, hki, his, rfl, HRW.out.drewN nq, grown_drewN HGR.out nq, HE.out.2⟩
    · have HE := Lib.hid (run_end (p := space8) hki his HRUN.out (fun h => absurd h hlt))
      obtain rfl : i = S.size := by omega
      go_wp2_with fail
      go_quiet (fail)
      have d1 := (HRW.out.drewN nq).c1
      have d0 := (HRW.out.drewN nq).c0
      go_wp2_with fail
      go_ret
      exact ⟨S.size, hki, his, rfl, HRW.out.drewN nq, grown_drewN HGR.out nq, HE.out.2⟩

/-- what 'name' answers: one, and where the walk then stands; or none -/
def NmPost (g : Nat) (S : ByteArray) (k : Nat) (w : World) (e : Ending) (w' : World) : Prop :=
  ∃ i : Nat, k ≤ i ∧ i ≤ S.size ∧ e = .returned (.string (tx (nameP ((bs S).drop k)).1)) ∧ RW g S i w' ∧ w.grownBy w' (some g) ∧ ((nameP ((bs S).drop k)).1 ≠ [] → (nameP ((bs S).drop k)).2 = (bs S).drop i)

set_option maxRecDepth 100000 in
set_option maxHeartbeats 1000000 in
theorem rname_c (g : Nat) (S : ByteArray) (k : Nat) (w : World) (h : RW g S k w) (hk : k ≤ S.size) (hs : S.size ≤ 100000) :
    Calls Tryz.prog 54 #[.pointer (some ⟨g, 0, none⟩)] w (NmPost g S k w) := by
  have HH := Lib.hid h
  have c0 := h.c0
  have c1 := h.c1
  clear h
  go_enter Tryz.func54, Tryz.ntmps54
  go_wp2_with fail
  go_loopw [11] (fun _ wr => ∃ i : Nat, k ≤ i ∧ i ≤ S.size ∧ Hid (RW g S i wr ∧ w.grownBy wr (some g) ∧ RunTo within8 S k i)) (fun _ wr => S.size - rwAt g wr)
  case atStart => exact ⟨k, Nat.le_refl _, hk, HH.out, World.grownBy.refl _ _, runTo_start _ _ _⟩
  case round =>
    obtain ⟨i, hki, his, hh⟩ := hrel
    obtain ⟨hrw, hgr, hrun⟩ := hh.out
    clear hh c0 c1
    have HRW := Lib.hid hrw
    have HGR := Lib.hid hgr
    have HRUN := Lib.hid hrun
    have c0 := hrw.c0
    have c1 := hrw.c1
    clear hrw hgr hrun
    by_cases hlt : i < S.size
    · have hltd : decide (i < S.size) = true := by rw [decide_eq_true_iff]; exact hlt
      have hltI : (i : Int) < S.size := by omega
      cases hc : withinI S[i].toNat with
      | true =>
        have HUP := Lib.hid (runTo_succ HRUN.out hlt (show within8 S[i] = true from hc))
        go_wp2_with fail
        go_quiet ((go_at_call 69; exact Calls.quiet_of_same ((refwithin_c _ _).mono fun _ _ h => ⟨by rw [h.1, hc], h.2.symm⟩)))
        have d1 := (HRW.out.drewN nq).c1
        have f1 := (HRW.out.drewN nq).f1
        go_wp2_with fail
        have X : RW g S (i + 1) ((wr.drewN nq).setCell ⟨g, 1, none⟩ (.int .i64 ((i : Int) + 1))) := (HRW.out.drewN nq).set (i + 1)
        refine ⟨⟨i + 1, by omega, by omega, X, grown_set2 (grown_drewN HGR.out nq) 1 _, HUP.out⟩, ?_⟩
        rw [X.at, HRW.out.at]
        omega
      | false =>
        have HE := Lib.hid (run_end (p := within8) hki his HRUN.out (fun _ => hc))
        go_wp2_with fail
        go_quiet ((go_at_call 69; exact Calls.quiet_of_same ((refwithin_c _ _).mono fun _ _ h => ⟨by rw [h.1, hc], h.2.symm⟩)))
        obtain ⟨w1, hw1⟩ : ∃ w1, w1 = wr.drewN nq := ⟨_, rfl⟩
        have HRW1 : Hid (RW g S i w1) := Lib.hid (by rw [hw1]; exact HRW.out.drewN nq)
        have HGR1 : Hid (w.grownBy w1 (some g)) := Lib.hid (by rw [hw1]; exact grown_drewN HGR.out nq)
        rw [← hw1]
        have d1 := HRW1.out.c1
        have d0 := HRW1.out.c0
        clear hw1 c0 c1
        have hxz : (S.extract k i).size ≤ maxLen := by rw [extract_size _ _ _ (by omega)]; unfold maxLen; omega
        cases hnm : nameB (S.extract k i) with
        | true =>
          have HN : Hid (nameP ((bs S).drop k) = (bs (S.extract k i), (bs S).drop i)) := Lib.hid (by rw [← HE.out.1, ← HE.out.2]; exact nameP_ok (by rw [HE.out.1]; exact hnm))
          have HNM := Lib.hid hnm
          clear hnm
          go_wp2_with fail
          go_quiet ((go_at_call 70; exact Calls.quiet_of_same ((refName_c _ _ hxz).mono fun _ _ h => ⟨by rw [h.1, HNM.out], h.2.symm⟩)))
          go_wp2_with fail
          go_quiet (fail)
          go_wp2_with fail
          go_ret
          refine ⟨i, hki, his, ?_, (HRW1.out.drewN _).drewN _, grown_drewN (grown_drewN HGR1.out _) _, fun _ => by rw [HN.out]⟩
          rw [HN.out]
          rfl
        | false =>
          have HN : Hid ((nameP ((bs S).drop k)).1 = []) := Lib.hid (nameP_not (by rw [HE.out.1]; exact hnm))
          have HNM := Lib.hid hnm
          clear hnm
          go_wp2_with fail
          go_quiet ((go_at_call 70; exact Calls.quiet_of_same ((refName_c _ _ hxz).mono fun _ _ h => ⟨by rw [h.1, HNM.out], h.2.symm⟩)))
          go_wp2_with fail
          go_ret
          refine ⟨i, hki, his, ?_, HRW1.out.drewN _, grown_drewN HGR1.out _, fun h => absurd HN.out h⟩
          rw [HN.out]
          rfl
    · have HE := Lib.hid (run_end (p := within8) hki his HRUN.out (fun h => absurd h hlt))
      obtain rfl : i = S.size := by omega
      go_wp2_with fail
      go_quiet (fail)
      obtain ⟨w1, hw1⟩ : ∃ w1, w1 = wr.drewN nq := ⟨_, rfl⟩
      have HRW1 : Hid (RW g S S.size w1) := Lib.hid (by rw [hw1]; exact HRW.out.drewN nq)
      have HGR1 : Hid (w.grownBy w1 (some g)) := Lib.hid (by rw [hw1]; exact grown_drewN HGR.out nq)
      rw [← hw1]
      have d1 := HRW1.out.c1
      have d0 := HRW1.out.c0
      clear hw1 c0 c1
      have hxz : (S.extract k S.size).size ≤ maxLen := by rw [extract_size _ _ _ (by omega)]; unfold maxLen; omega
      cases hnm : nameB (S.extract k S.size) with
      | true =>
        have HN : Hid (nameP ((bs S).drop k) = (bs (S.extract k S.size), (bs S).drop S.size)) := Lib.hid (by rw [← HE.out.1, ← HE.out.2]; exact nameP_ok (by rw [HE.out.1]; exact hnm))
        have HNM := Lib.hid hnm
        clear hnm
        go_wp2_with fail
        go_quiet ((go_at_call 70; exact Calls.quiet_of_same ((refName_c _ _ hxz).mono fun _ _ h => ⟨by rw [h.1, HNM.out], h.2.symm⟩)))
        go_wp2_with fail
        go_quiet (fail)
        go_wp2_with fail
        go_ret
        refine ⟨S.size, hki, his, ?_, (HRW1.out.drewN _).drewN _, grown_drewN (grown_drewN HGR1.out _) _, fun _ => by rw [HN.out]⟩
        rw [HN.out]
        rfl
      | false =>
        have HN : Hid ((nameP ((bs S).drop k)).1 = []) := Lib.hid (nameP_not (by rw [HE.out.1]; exact hnm))
        have HNM := Lib.hid hnm
        clear hnm
        go_wp2_with fail
        go_quiet ((go_at_call 70; exact Calls.quiet_of_same ((refName_c _ _ hxz).mono fun _ _ h => ⟨by rw [h.1, HNM.out], h.2.symm⟩)))
        go_wp2_with fail
        go_ret
        refine ⟨S.size, hki, his, ?_, HRW1.out.drewN _, grown_drewN HGR1.out _, fun h => absurd HN.out h⟩
        rw [HN.out]
        rfl
end Go.Proofs.YtlfpmfdlfhldbaaGreatDoor
