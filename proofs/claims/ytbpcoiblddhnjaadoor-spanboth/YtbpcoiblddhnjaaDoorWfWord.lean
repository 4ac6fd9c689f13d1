/-
  The document's own Right, number and word.
-/
import Derived.Test.YtbpcoiblddhnjaaDoorWfMath
import Derived.Test.YtbpcoiblddhnjaaDoorWdSplit2
import Derived.Deep.DeepCutAuto
namespace Go.Proofs.YtbpcoiblddhnjaaDoor
open Nwl
open Go.RowKit Go.Maps
set_option linter.unusedVariables false

set_option maxRecDepth 100000 in
set_option maxHeartbeats 2000000 in
theorem refRight_c (s : ByteArray) (w : World) (hs : s.size ≤ maxLen) (r : Bool) (hr : rightV (bs s) = r) :
    Calls Tryd.prog 35 #[.string s] w fun e w' => e = .returned (.bool r) ∧ w = w' := by
  unfold maxLen at hs
  have HR := Lib.hid hr
  clear hr
  go_enter Tryd.func35, Tryd.ntmps35
  go_wp2_with fail
  go_loop [3] (fun i => ∃ k : Nat, k ≤ s.size ∧ i = .int .i64 k ∧ Hid (MayTo s k)) (fun i => s.size - (intOf i).toNat)
  case atStart => exact ⟨0, by omega, rfl, Lib.hid (mayTo_start s)⟩
  case round =>
    obtain ⟨k, hk, rfl, hm⟩ := hrel
    by_cases hlt : k < s.size
    · obtain ⟨c, hc⟩ : ∃ c : Int, (s[k].toNat : Int) = c := ⟨_, rfl⟩
      cases hmv : mayV s[k].toNat with
      | true =>
        have hup := Lib.hid (mayTo_up s k hlt hm.out hmv)
        rw [hc] at hmv
        have hb : (33 ≤ c ∧ c ≤ 126) ∧ c ≠ 91 ∧ c ≠ 93 ∧ c ≠ 40 ∧ c ≠ 41 ∧ c ≠ 44 := by
          unfold mayV at hmv
          simp at hmv
          omega
        obtain ⟨⟨h1, h2⟩, h3, h4, h5, h6, h7⟩ := hb
        have e3 : (c == 91) = false := by rw [beq_eq_false_iff_ne]; exact h3
        have e4 : (c == 93) = false := by rw [beq_eq_false_iff_ne]; exact h4
        have e5 : (c == 40) = false := by rw [beq_eq_false_iff_ne]; exact h5
        have e6 : (c == 41) = false := by rw [beq_eq_false_iff_ne]; exact h6
        have e7 : (c == 44) = false := by rw [beq_eq_false_iff_ne]; exact h7
        clear hmv h3 h4 h5 h6 h7
        go_wp2_with fail
        go_round
        case rel => exact ⟨k + 1, by omega, by go_num, hup⟩
        case measure => simp [intOf]; omega
      | false =>
        have HF : Hid (false = r) := Lib.hid ((right_no s k hlt hmv).symm.trans HR.out)
        rw [hc] at hmv
        have hways : c < 33 ∨ 126 < c ∨ c = 91 ∨ c = 93 ∨ c = 40 ∨ c = 41 ∨ c = 44 := by
          unfold mayV at hmv
          rw [Bool.and_eq_false_iff, Bool.and_eq_false_iff, decide_eq_false_iff_not, decide_eq_false_iff_not] at hmv
          simp at hmv
          omega
        clear hm hmv
        rcases hways with h | h | rfl | rfl | rfl | rfl | rfl
        all_goals
          go_wp2_with fail
          go_ret
          exact ⟨ret_bool HF.out, rfl⟩
    · obtain rfl : k = s.size := by omega
      by_cases h0 : s.size = 0
      · have HF : Hid (false = r) := Lib.hid ((right_short s h0).symm.trans HR.out)
        have hn1 : ¬ (1 : Int) ≤ (s.size : Int) := by omega
        clear h0
        go_wp2_with fail
        go_ret
        exact ⟨ret_bool HF.out, rfl⟩
      · have hn1 : (1 : Int) ≤ (s.size : Int) := by omega
        by_cases hb : 100 < s.size
        · have HF : Hid (false = r) := Lib.hid ((right_long s hb).symm.trans HR.out)
          have hn2 : ¬ (s.size : Int) ≤ 100 := by omega
          clear hb h0
          go_wp2_with fail
          go_ret
          exact ⟨ret_bool HF.out, rfl⟩
        · have HF : Hid (true = r) := Lib.hid ((right_yes s (by omega) (by omega) hm.out).symm.trans HR.out)
          have hn2 : (s.size : Int) ≤ 100 := by omega
          clear hb h0
          go_wp2_with fail
          go_ret
          exact ⟨ret_bool HF.out, rfl⟩

set_option maxRecDepth 100000 in
set_option maxHeartbeats 2000000 in
theorem refnumber_c (s : ByteArray) (d n : Bool) (w : World) (hs : s.size ≤ maxLen) (r : Wd) (hr : numW (bs s) d = r) :
    Calls Tryd.prog 76 #[.agg #[.string s, .bool d, .bool n]] w fun e w' => e = .returned (wdV r) ∧ Below w.heap.size w w' := by
  unfold maxLen at hs
  have HR := Lib.hid hr
  clear hr
  go_enter Tryd.func76, Tryd.ntmps76
  go_wp2_with fail
  go_loop [3] (fun v => ∃ t : ByteArray, t.size ≤ s.size ∧ v = .string t ∧ Hid (drop0B t = drop0B s)) (fun v => match v with | .string t => t.size | _ => 0)
  case atStart => exact ⟨s, by omega, rfl, Lib.hid rfl⟩
  case round =>
    obtain ⟨t, ht, rfl, hd⟩ := hrel
    by_cases hgo : ∃ h : 0 < t.size, is0 t[0] = true
    · obtain ⟨hlt, hc⟩ := hgo
      have hst : Hid (drop0B (t.extract 1 t.size) = drop0B s) := Lib.hid ((drop0B_step t hlt hc).trans hd.out)
      have hsz : Hid ((t.extract 1 t.size).size = t.size - 1) := Lib.hid (extract_size t 1 t.size (Nat.le_refl _))
      have hcc : ((t[0].toNat : Int) == 48) = true := by
        unfold is0 at hc
        rw [beq_iff_eq] at hc ⊢
        omega
      clear hc
      go_wp2_with fail
      go_round
      case rel => exact ⟨_, by rw [hsz.out]; omega, rfl, hst⟩
      case measure => simp only []; rw [hsz.out]; omega
    · have hfin : t = drop0B s := (drop0B_end t fun h => by
        cases e : is0 t[0] with
        | false => rfl
        | true => exact absurd ⟨h, e⟩ hgo).symm.trans hd.out
      have hbt : bs t = (bs s).dropWhile is0 := by rw [hfin]; rfl
      have hr2 := HR.out
      rw [numW_eq, ← hbt] at hr2
      clear hd hfin
      by_cases h0 : 0 < t.size
      · have hcc : ((t[0].toNat : Int) == 48) = false := by
          rw [beq_eq_false_iff_ne]
          intro e
          exact hgo ⟨h0, by unfold is0; rw [beq_iff_eq]; omega⟩
        have hne : ¬ t.toList = [] := toList_ne_of t h0
        have hne2 : t.toList.isEmpty = false := by simpa using hne
        have hbe : (bs t).isEmpty = false := by rw [← toList_bs]; exact hne2
        rw [hbe, if_neg (by decide)] at hr2
        clear hgo hbt hbe
        cases d with
        | true =>
          have hrr : r = ⟨9, bs t⟩ := hr2.symm
          subst hrr
          clear hr2 HR
          go_wp2_with fail
          exact bodyPost_ret (v := .agg #[.int .i64 9, .string t]) (by simp [results, Tryd.results76, go_sem]) rfl ⟨rfl, ((Below.refl _ _).alloc (Nat.le_refl _) _).alloc (by simp) _⟩
        | false =>
          have hrr : r = ⟨10, bs t⟩ := hr2.symm
          subst hrr
          clear hr2 HR
          go_wp2_with fail
          exact bodyPost_ret (v := .agg #[.int .i64 10, .string t]) (by simp [results, Tryd.results76, go_sem]) rfl ⟨rfl, ((Below.refl _ _).alloc (Nat.le_refl _) _).alloc (by simp) _⟩
      · have he : t.toList = [] := toList_nil_of t (by omega)
        have hbe : (bs t).isEmpty = true := by rw [← toList_bs, he]; rfl
        rw [hbe, if_pos rfl] at hr2
        subst hr2
        clear hgo hbt hbe HR
        go_wp2_with fail
        exact bodyPost_ret (v := .agg #[.int .i64 6, .string ⟨#[]⟩]) (by simp [results, Tryd.results76, go_sem]) rfl ⟨rfl, ((Below.refl _ _).alloc (Nat.le_refl _) _).alloc (by simp) _⟩
end Go.Proofs.YtbpcoiblddhnjaaDoor
