/-
  The steps of a tree under way (layer 3): a text, an end.
-/
import Derived.Test.YtkccockdnjjanaaGreatDoorElAdd
namespace Go.Proofs.YtkccockdnjjanaaGreatDoor
open Nwl
open Go.RowKit Go.Maps
set_option linter.unusedVariables false

/-- what a step answers -/
def GrowPost (B b : Nat) (x : Except Int Gst) (w : World) (e : Ending) (w' : World) : Prop :=
  match x with
  | .ok g' => e = .returned (.int .i64 0) ∧ GrAt B b g' w' ∧ Below B w w'
  | .error n => e = .returned (.int .i64 n) ∧ Below B w w'
theorem growPost_ok {B b : Nat} {x : Except Int Gst} {w : World} {e : Ending} {w' : World} {g : Gst} (h : x = .ok g) (h1 : e = .returned (.int .i64 0)) (h2 : GrAt B b g w') (h3 : Below B w w') : GrowPost B b x w e w' := by
  rw [h]; exact ⟨h1, h2, h3⟩
theorem growPost_err {B b : Nat} {x : Except Int Gst} {w : World} {e : Ending} {w' : World} {n : Int} (h : x = .error n) (h1 : e = .returned (.int .i64 n)) (h3 : Below B w w') : GrowPost B b x w e w' := by
  rw [h]; exact ⟨h1, h3⟩

set_option maxRecDepth 100000 in
set_option maxHeartbeats 1000000 in
theorem gtext_c (B b : Nat) (g : Gst) (s : List UInt8) (w : World) (h : GrAt B b g w) (hs : g.run.length + s.length ≤ 140737488355328) :
    Calls Tryz.prog 41 #[.pointer (some ⟨b, 0, none⟩), .string (tx s)] w (GrowPost B b (textG g s) w) := by
  obtain ⟨hok, vn, vo, p, vb, hv⟩ := h
  have HV := Lib.hid hv
  have HOK := Lib.hid hok
  have hsz : (tx s).size ≤ maxLen := by rw [tx_size]; unfold maxLen; omega
  clear hv
  by_cases ho : g.opn = []
  · have HV' : Hid (GrV B b vn vo p vb g.mem [] g.run w) := Lib.hid (by rw [← ho]; exact HV.out)
    by_cases ht : trimL s = []
    · have HX : Hid (textG g s = .ok g) := Lib.hid (by unfold textG; rw [if_pos ho, if_pos ht])
      have he : (trimB (tx s)).toList = [] := toList_nil_of _ (by unfold trimB; rw [bs_tx, ht, tx_size]; rfl)
      clear ho ht hok
      go_enter Tryz.func41, Tryz.ntmps41
      go_wp2_with fail
      refine (outside_yes HV'.out).mono ?_
      rintro e w' ⟨rfl, rfl⟩
      go_wp2_with fail
      refine (Trim_c _ _ hsz).mono ?_
      rintro e w' ⟨rfl, rfl⟩
      go_wp2_with fail
      go_ret
      exact growPost_ok HX.out rfl ⟨HOK.out, _, _, _, _, HV.out⟩ (Below.refl _ _)
    · have HX : Hid (textG g s = .error 6) := Lib.hid (by unfold textG; rw [if_pos ho, if_neg ht])
      have he : ¬ (trimB (tx s)).toList = [] := toList_ne_of _ (by unfold trimB; rw [bs_tx, tx_size]; exact List.length_pos_iff.2 ht)
      have he2 : (trimB (tx s)).toList.isEmpty = false := by simpa using he
      clear ho ht hok
      go_enter Tryz.func41, Tryz.ntmps41
      go_wp2_with fail
      refine (outside_yes HV'.out).mono ?_
      rintro e w' ⟨rfl, rfl⟩
      go_wp2_with fail
      refine (Trim_c _ _ hsz).mono ?_
      rintro e w' ⟨rfl, rfl⟩
      go_wp2_with fail
      go_ret
      exact growPost_err HX.out rfl (Below.refl _ _)
  · have HO := Lib.hid ho
    by_cases hs0 : s = []
    · have HX : Hid (textG g s = .ok g) := Lib.hid (by unfold textG; rw [if_neg ho, if_pos hs0])
      have he : (tx s).toList = [] := toList_nil_of _ (by rw [hs0, tx_size]; rfl)
      clear ho hs0 hok
      go_enter Tryz.func41, Tryz.ntmps41
      go_wp2_with fail
      refine (outside_no HV.out HO.out).mono ?_
      rintro e w' ⟨rfl, rfl⟩
      go_wp2_with fail
      go_ret
      exact growPost_ok HX.out rfl ⟨HOK.out, _, _, _, _, HV.out⟩ (Below.refl _ _)
    · have he : ¬ (tx s).toList = [] := toList_ne_of _ (by rw [tx_size]; exact List.length_pos_iff.2 hs0)
      have he2 : (tx s).toList.isEmpty = false := by simpa using he
      have hfl := hok.flat
      by_cases hr : g.run = []
      · have HV' : Hid (GrV B b vn vo p vb g.mem g.opn [] w) := Lib.hid (by rw [← hr]; exact HV.out)
        by_cases hf : 2000 ≤ g.mem.length
        · have HX : Hid (textG g s = .error 3) := Lib.hid (by unfold textG; rw [if_neg ho, if_neg hs0, if_pos hr, if_pos hf])
          have HF := Lib.hid hf
          have HW := Lib.hid hok.few
          have hb1 := HV.out.base
          have hb2 := HV.out.lt
          clear ho hs0 hr hok hf
          go_enter Tryz.func41, Tryz.ntmps41
          go_wp2_with fail
          refine (outside_no HV.out HO.out).mono ?_
          rintro e w' ⟨rfl, rfl⟩
          go_wp2_with fail
          refine (gLen_c HV'.out).mono ?_
          rintro e w' ⟨rfl, rfl⟩
          go_wp2_with fail
          refine (add_full HV'.out HF.out (by have := HW.out; omega) _ _ _ _ _ _).mono ?_
          rintro e w' ⟨rfl, hb⟩
          go_wp2_with fail
          go_ret
          exact growPost_err HX.out rfl (hb.mono (by omega))
        · have HX : Hid (textG g s = .ok ⟨g.pre, g.opn, s⟩) := Lib.hid (by unfold textG; rw [if_neg ho, if_neg hs0, if_pos hr, if_neg hf])
          have HF : Hid (g.mem.length < 2000) := Lib.hid (by omega)
          have HM : Hid (g.mem ++ [⟨innerL g.opn, [], [], []⟩] = (⟨g.pre, g.opn, s⟩ : Gst).mem) := Lib.hid (by unfold Gst.mem; rw [if_pos hr, if_neg hs0])
          have hls : s.length ≤ 140737488355328 := by omega
          clear ho hs0 hr hok hf
          go_enter Tryz.func41, Tryz.ntmps41
          go_wp2_with fail
          refine (outside_no HV.out HO.out).mono ?_
          rintro e w' ⟨rfl, rfl⟩
          go_wp2_with fail
          refine (gLen_c HV'.out).mono ?_
          rintro e w' ⟨rfl, rfl⟩
          go_wp2_with fail
          refine (add_in (q := innerL g.opn) HV'.out rfl (by omega) HF.out _ ⟨innerL g.opn, [], [], []⟩ _ _ _ (World.ownsRow_nil _ _ _ _) rfl).mono ?_
          rintro e w1 ⟨rfl, ⟨vn', hv1⟩, hb1, _⟩
          have HV1 := Lib.hid hv1
          clear hv1
          go_wp2_with fail
          refine (gWrite_c HV1.out _ (by rw [tx_size]; simpa using hls)).mono ?_
          rintro e w2 ⟨rfl, ⟨p', vb', hv2⟩, hb2⟩
          have HV2 := Lib.hid hv2
          clear hv2
          go_wp2_with fail
          go_ret
          refine growPost_ok HX.out rfl ⟨textG_ok HOK.out HX.out, vn', vo, p', vb', ?_⟩ (hb1.trans hb2)
          rw [← HM.out]
          exact HV2.out
      · have HX : Hid (textG g s = .ok ⟨g.pre, g.opn, g.run ++ s⟩) := Lib.hid (by unfold textG; rw [if_neg ho, if_neg hs0, if_neg hr])
        have HM : Hid (g.mem = (⟨g.pre, g.opn, g.run ++ s⟩ : Gst).mem) := Lib.hid (by unfold Gst.mem; rw [if_neg hr, if_neg (by simp [hr])])
        have hrl : 0 < g.run.length := List.length_pos_iff.2 hr
        have hrz : ((g.run.length : Int) == 0) = false := by rw [beq_eq_false_iff_ne]; omega
        clear ho hs0 hr hok
        go_enter Tryz.func41, Tryz.ntmps41
        go_wp2_with fail
        refine (outside_no HV.out HO.out).mono ?_
        rintro e w' ⟨rfl, rfl⟩
        go_wp2_with fail
        refine (gLen_c HV.out).mono ?_
        rintro e w' ⟨rfl, rfl⟩
        go_wp2_with fail
        refine (gWrite_c HV.out _ (by rw [tx_size]; exact hs)).mono ?_
        rintro e w2 ⟨rfl, ⟨p', vb', hv2⟩, hb2⟩
        have HV2 := Lib.hid hv2
        clear hv2
        go_wp2_with fail
        go_ret
        refine growPost_ok HX.out rfl ⟨textG_ok HOK.out HX.out, vn, vo, p', vb', ?_⟩ hb2
        rw [← HM.out]
        exact HV2.out
end Go.Proofs.YtkccockdnjjanaaGreatDoor
