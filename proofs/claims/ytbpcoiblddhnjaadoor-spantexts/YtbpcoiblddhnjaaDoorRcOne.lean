/-
  The document's span (newelref05).
-/
import Derived.Test.YtbpcoiblddhnjaaDoorRcSpan
import Derived.Test.YtbpcoiblddhnjaaDoorSpCut
import Derived.Deep.RegionHeld3
namespace Nwl
open Go
theorem byte_snoc (x c : UInt8) : ∀ l : List UInt8, Lib.indexByte (l ++ [c]) x = if Lib.indexByte l x = -1 then (if c == x then (l.length : Int) else -1) else Lib.indexByte l x
  | [] => by
    show (if c == x then 0 else if Lib.indexByte [] x == -1 then -1 else Lib.indexByte [] x + 1) = _
    have : Lib.indexByte [] x = -1 := rfl
    rw [this]
    cases c == x <;> simp
  | a :: l => by
    have ih := byte_snoc x c l
    have g := Lib.indexByte_ge l x
    rw [List.cons_append, Lib.indexByte, Lib.indexByte, ih, List.length_cons]
    cases a == x with
    | true => simp
    | false =>
      simp only [Bool.false_eq_true, if_false]
      by_cases h : Lib.indexByte l x = -1
      · rw [if_pos h, h]
        simp only [beq_self_eq_true, if_true]
        cases c == x with
        | true =>
          simp only [if_true]
          have : ((l.length : Int) == -1) = false := by rw [beq_eq_false_iff_ne]; omega
          rw [this]
          simp
        | false => simp
      · rw [if_neg h]
        have h2 : (Lib.indexByte l x == -1) = false := by rw [beq_eq_false_iff_ne]; exact h
        rw [h2]
        simp only [Bool.false_eq_true, if_false]
        rw [if_neg (by omega)]
theorem byte_lt (x : UInt8) : ∀ l : List UInt8, Lib.indexByte l x < l.length ∨ l = []
  | [] => .inr rfl
  | a :: l => by
    left
    have ih := byte_lt x l
    have g := Lib.indexByte_ge l x
    rw [Lib.indexByte, List.length_cons]
    split
    · omega
    · split
      · omega
      · rename_i h
        rw [beq_iff_eq] at h
        rcases ih with ih | rfl
        · omega
        · exact absurd rfl h
/-- a span of what stands between its brackets, as the document takes it -/
def refOne (m : List UInt8) (c d : Int) : Sp × Bool :=
  if Lib.indexByte m 44 < 0 then (⟨Lib.trimB m 32, Lib.trimB m 32, true, true⟩, (!(Lib.trimB m 32 == [])) && (c == 91) && (d == 93))
  else (⟨Lib.trimB (m.take (Lib.indexByte m 44).toNat) 32, Lib.trimB (m.drop ((Lib.indexByte m 44).toNat + 1)) 32, c == 91, d == 93⟩, true)
end Nwl
namespace Go.Proofs.YtbpcoiblddhnjaaDoor
set_option linter.unusedSimpArgs false
open Nwl
open Go.RowKit Go.Maps
set_option linter.unusedVariables false

set_option maxRecDepth 100000 in
set_option maxHeartbeats 8000000 in
theorem rspan_c (s : ByteArray) (c d : Int) (w : World) (hs : s.size ≤ 100000) (x : Sp) (is : Bool) (hx : refOne (bs s) c d = (x, is)) :
    Calls Tryd.prog 33 #[.string s, .int .u8 c, .int .u8 d] w fun e w' => e = .returned (.tuple #[spV x, .bool is]) ∧ Hid (Below w.heap.size w w') := by
  have HX := Lib.hid hx
  clear hx
  go_enter Tryd.func33, Tryd.ntmps33
  go_wp2_with fail
  go_loopw [8, 9] (fun av iv wr => ∃ (k : Nat) (a : Int), k ≤ s.size ∧ av = .int .i64 a ∧ iv = .int .i64 k ∧ Hid (Lib.indexByte ((bs s).take k) 44 = a) ∧ Hid (wr = w.alloc (.cells #[.string ⟨#[]⟩, .string ⟨#[]⟩, .bool false, .bool false] 39))) (fun _ iv _ => s.size - (intOf iv).toNat)
  case atStart => exact ⟨0, -1, by omega, rfl, rfl, Lib.hid (by rw [List.take_zero]; rfl), Lib.hid rfl⟩
  case round =>
    obtain ⟨k, a, hk, rfl, rfl, ha, hw⟩ := hrel
    by_cases hlt : k < s.size
    · have hkl : k < (bs s).length := by rw [bs_length]; exact hlt
      obtain ⟨b, hb⟩ : ∃ b, ((s[k].toNat : Int) == 44) = b := ⟨_, rfl⟩
      have hstep : Hid (Lib.indexByte ((bs s).take (k + 1)) 44 = if a = -1 then (if b then (k : Int) else -1) else a) := Lib.hid (by
        have e : (bs s)[k] = s[k] := rfl
        rw [← List.take_append_getElem hkl, byte_snoc, ha.out, e]
        have hb2 : (s[k] == 44) = b := by
          rw [← hb, Bool.eq_iff_iff, beq_iff_eq, beq_iff_eq, ← UInt8.toNat_inj]
          show s[k].toNat = 44 ↔ _
          omega
        rw [hb2, List.length_take]
        have : min k (bs s).length = k := by omega
        rw [this])
      have hge : Hid (-1 ≤ a) := Lib.hid (by rw [← ha.out]; exact Lib.indexByte_ge _ _)
      cases b with
      | false =>
        have hbp : ¬ (s[k].toNat : Int) = 44 := by rw [beq_eq_false_iff_ne] at hb; exact hb
        have hn : Hid (Lib.indexByte ((bs s).take (k + 1)) 44 = a) := Lib.hid (by rw [hstep.out]; split <;> simp_all)
        clear hstep ha hb
        go_wp2_with fail
        go_roundw
        case rel => exact ⟨k + 1, a, by omega, rfl, by go_num, hn, hw⟩
        case measure => simp [intOf]; omega
      | true =>
        have hbp : (s[k].toNat : Int) = 44 := by rw [beq_iff_eq] at hb; exact hb
        clear hb
        by_cases hneg : a < 0
        · have hn : Hid (Lib.indexByte ((bs s).take (k + 1)) 44 = k) := Lib.hid (by rw [hstep.out, if_pos (by have := hge.out; omega)]; rfl)
          clear hstep ha
          go_wp2_with fail
          go_roundw
          case rel => exact ⟨k + 1, k, by omega, rfl, by go_num, hn, hw⟩
          case measure => simp [intOf]; omega
        · have hn : Hid (Lib.indexByte ((bs s).take (k + 1)) 44 = a) := Lib.hid (by rw [hstep.out, if_neg (by omega)])
          have h0a : 0 ≤ a := by omega
          clear hstep ha hneg
          go_wp2_with fail
          go_roundw
          case rel => exact ⟨k + 1, a, by omega, rfl, by go_num, hn, hw⟩
          case measure => simp [intOf]; omega
    · obtain rfl : k = s.size := by omega
      have hF : Lib.indexByte (bs s) 44 = a := by
        have := ha.out
        rwa [List.take_of_length_le (by rw [bs_length]; exact Nat.le_refl _)] at this
      obtain rfl := hw.out
      have hx := HX.out
      unfold refOne at hx
      rw [hF] at hx
      have hlt2 := byte_lt 44 (bs s)
      rw [hF, bs_length] at hlt2
      by_cases hneg : a < 0
      · rw [if_pos hneg] at hx
        obtain ⟨T, hT⟩ : ∃ T, Lib.trimB (bs s) 32 = T := ⟨_, rfl⟩
        rw [hT] at hx
        have HT := Lib.hid hT
        obtain ⟨p, hp⟩ : ∃ p, (T == []) = p := ⟨_, rfl⟩
        have hpt : ((tx T).toList == []) = p := by rw [toList_bs, bs_tx]; exact hp
        have hpt2 : ((tx T).toList != []) = !p := by rw [bne, hpt]
        obtain ⟨q, hq⟩ : ∃ q, (c == 91) = q := ⟨_, rfl⟩
        obtain ⟨u, hu⟩ : ∃ u, (d == 93) = u := ⟨_, rfl⟩
        rw [hp, hq, hu] at hx
        injection hx with hx1 hx2
        subst hx1
        have HI := Lib.hid hx2
        have hss : tx (bs s) = s := rfl
        have XF := Lib.hid (KB.new w (.string (tx T)) (.string (tx T)) (.bool true) (.bool true))
        clear hx2 hT hp hF ha hlt2 hw hlt
        cases p <;> cases q
        all_goals (
          go_wp2_with fail
          refine (rblank_c (bs s) _ (by rw [bs_length]; exact hs) T HT.out).mono ?_
          rintro e w1 ⟨rfl, rfl⟩
          have hcp : (c = 91) ↔ (c == 91) = true := by rw [beq_iff_eq]
          obtain ⟨k0, k1, k2, k3⟩ := KB.rd XF
          go_wp2_with fail
          refine bodyPost_ret (v := .tuple #[spV ⟨T, T, true, true⟩, .bool is]) ?_ rfl ⟨rfl, Lib.hid XF.out.2⟩
          have hi := HI.out
          simp [results, Tryd.results33, go_sem, k0, k1, k2, k3]
          first | exact hi | (simp at hi; exact hi))
      · rw [if_neg hneg] at hx
        obtain ⟨F, rfl⟩ : ∃ F : Nat, a = F := ⟨a.toNat, by omega⟩
        have hFs : F < s.size := by
          rcases hlt2 with h | h
          · omega
          · have := congrArg List.length h
            rw [bs_length] at this
            rw [h] at hF
            exfalso
            have h3 : Lib.indexByte [] 44 = -1 := rfl
            rw [h3] at hF
            simp at this
            omega
        rw [Int.toNat_natCast] at hx
        obtain ⟨T, hT⟩ : ∃ T, Lib.trimB ((bs s).take F) 32 = T := ⟨_, rfl⟩
        obtain ⟨U, hU⟩ : ∃ T, Lib.trimB ((bs s).drop (F + 1)) 32 = T := ⟨_, rfl⟩
        rw [hT, hU] at hx
        obtain ⟨q, hq⟩ : ∃ q, (c == 91) = q := ⟨_, rfl⟩
        obtain ⟨u, hu⟩ : ∃ u, (d == 93) = u := ⟨_, rfl⟩
        rw [hq, hu] at hx
        injection hx with hx1 hx2
        subst hx1 hx2
        have eT : s.extract 0 F = tx ((bs s).take F) := by
          apply bs_inj
          rw [bs_extract, bs_tx]
          simp
        have eU : s.extract (F + 1) s.size = tx ((bs s).drop (F + 1)) := by
          apply bs_inj
          rw [bs_extract, bs_tx, List.take_of_length_le (by rw [List.length_drop, bs_length]; omega)]
        have HCT := Lib.hid (fun W => rblank_c ((bs s).take F) W (by rw [List.length_take, bs_length]; omega) T hT)
        have HCU := Lib.hid (fun W => rblank_c ((bs s).drop (F + 1)) W (by rw [List.length_drop, bs_length]; omega) U hU)
        rw [← eT] at HCT
        rw [← eU] at HCU
        have XF := Lib.hid (KB.new w (.string (tx T)) (.string (tx U)) (.bool q) (.bool u))
        have XF0 := Lib.hid (KB.new w (.string ⟨#[]⟩) (.string ⟨#[]⟩) (.bool false) (.bool false))
        have XP := KB.put XF0 (.string (tx T)) (.string (tx U)) (.bool q) (.bool u)
        have c1 : (0 : Int) ≤ (F : Int) := by omega
        have c2 : (F : Int) ≤ (s.size : Int) := by omega
        have c3 : (0 : Int) ≤ (F : Int) + 1 := by omega
        have c4 : (F : Int) + 1 ≤ (s.size : Int) := by omega
        have hi1 : IntKind.i64.wrap ((F : Int) + 1) = (F : Int) + 1 := by
          simp [IntKind.wrap, IntKind.bits, IntKind.signed]
          omega
        clear hT hU eT eU hF ha hlt2 hw hlt hneg
        go_wp2_with fail
        refine wp_region_any (by kernel_rfl) ?_
        change wpAny _ _ _ _ _ _ _ (World.drew _)
        refine wpAny_take (i := 0) (v := .string s) rfl (by kernel_rfl) (by kernel_rfl) (by kernel_rfl) (fun _ _ _ h => h) (Or.inl ⟨by rfl, fun W => by go_simp⟩) ?_
        simp only [Act.put, List.getElem_toArray, List.getElem_cons_zero, List.getElem_cons_succ, List.setIfInBounds_toArray, List.set_cons_zero, List.set_cons_succ]
        refine wpAny_take (i := 1) (v := .int .i64 (F : Int)) rfl (by kernel_rfl) (by kernel_rfl) (by kernel_rfl) (fun _ _ _ h => h) (Or.inl ⟨by rfl, fun W => by go_simp⟩) ?_
        simp only [Act.put, List.getElem_toArray, List.getElem_cons_zero, List.getElem_cons_succ, List.setIfInBounds_toArray, List.set_cons_zero, List.set_cons_succ]
        refine wpAny_take (i := 2) (v := .string (s.extract 0 F)) rfl (by kernel_rfl) (by kernel_rfl) (by kernel_rfl) (fun _ _ _ h => h) (Or.inl ⟨by rfl, fun W => by go_simp⟩) ?_
        simp only [Act.put, List.getElem_toArray, List.getElem_cons_zero, List.getElem_cons_succ, List.setIfInBounds_toArray, List.set_cons_zero, List.set_cons_succ]
        refine wpAny_take (i := 4) (v := .string s) rfl (by kernel_rfl) (by kernel_rfl) (by kernel_rfl) (fun _ _ _ h => h) (Or.inl ⟨by rfl, fun W => by go_simp⟩) ?_
        simp only [Act.put, List.getElem_toArray, List.getElem_cons_zero, List.getElem_cons_succ, List.setIfInBounds_toArray, List.set_cons_zero, List.set_cons_succ]
        refine wpAny_take (i := 5) (v := .int .i64 (F : Int)) rfl (by kernel_rfl) (by kernel_rfl) (by kernel_rfl) (fun _ _ _ h => h) (Or.inl ⟨by rfl, fun W => by go_simp⟩) ?_
        simp only [Act.put, List.getElem_toArray, List.getElem_cons_zero, List.getElem_cons_succ, List.setIfInBounds_toArray, List.set_cons_zero, List.set_cons_succ]
        refine wpAny_take (i := 6) (v := .int .i64 ((F : Int) + 1)) rfl (by kernel_rfl) (by kernel_rfl) (by kernel_rfl) (fun _ _ _ h => h) (Or.inl ⟨by rfl, fun W => by go_simp⟩) ?_
        simp only [Act.put, List.getElem_toArray, List.getElem_cons_zero, List.getElem_cons_succ, List.setIfInBounds_toArray, List.set_cons_zero, List.set_cons_succ]
        refine wpAny_take (i := 7) (v := .string (s.extract (F + 1) s.size)) rfl (by kernel_rfl) (by kernel_rfl) (by kernel_rfl) (fun _ _ _ h => h) (Or.inl ⟨by rfl, fun W => by go_simp⟩) ?_
        simp only [Act.put, List.getElem_toArray, List.getElem_cons_zero, List.getElem_cons_succ, List.setIfInBounds_toArray, List.set_cons_zero, List.set_cons_succ]
        refine wpAny_take (i := 9) (v := .int .u8 c) rfl (by kernel_rfl) (by kernel_rfl) (by kernel_rfl) (fun _ _ _ h => h) (Or.inl ⟨by rfl, fun W => by go_simp⟩) ?_
        simp only [Act.put, List.getElem_toArray, List.getElem_cons_zero, List.getElem_cons_succ, List.setIfInBounds_toArray, List.set_cons_zero, List.set_cons_succ]
        refine wpAny_take (i := 10) (v := .bool q) rfl (by kernel_rfl) (by kernel_rfl) (by kernel_rfl) (fun _ _ _ h => h) (Or.inl ⟨by rfl, fun W => by go_simp⟩) ?_
        simp only [Act.put, List.getElem_toArray, List.getElem_cons_zero, List.getElem_cons_succ, List.setIfInBounds_toArray, List.set_cons_zero, List.set_cons_succ]
        refine wpAny_take (i := 11) (v := .int .u8 d) rfl (by kernel_rfl) (by kernel_rfl) (by kernel_rfl) (fun _ _ _ h => h) (Or.inl ⟨by rfl, fun W => by go_simp⟩) ?_
        simp only [Act.put, List.getElem_toArray, List.getElem_cons_zero, List.getElem_cons_succ, List.setIfInBounds_toArray, List.set_cons_zero, List.set_cons_succ]
        refine wpAny_take (i := 12) (v := .bool u) rfl (by kernel_rfl) (by kernel_rfl) (by kernel_rfl) (fun _ _ _ h => h) (Or.inl ⟨by rfl, fun W => by go_simp⟩) ?_
        simp only [Act.put, List.getElem_toArray, List.getElem_cons_zero, List.getElem_cons_succ, List.setIfInBounds_toArray, List.set_cons_zero, List.set_cons_succ]
        refine wpAny_ready (rs := [3]) (by kernel_rfl) (by simp) ?_
        refine AllReady.cons rfl (fun K hK => ?_) AllReady.nil
        go_simp
        go_wp2_with (go_at_call 44; refine (HCT.out _).mono ?_; rintro e w4 ⟨rfl, rfl⟩)
        refine wpAny_ready (rs := [8]) (by kernel_rfl) (by simp) ?_
        refine AllReady.cons rfl (fun K hK => ?_) AllReady.nil
        go_simp
        go_wp2_with (go_at_call 44; refine (HCU.out _).mono ?_; rintro e w4 ⟨rfl, rfl⟩)
        refine wpAny_take (i := 13) (v := .agg #[.string (tx T), .string (tx U), .bool q, .bool u]) rfl (by kernel_rfl) (by kernel_rfl) (by kernel_rfl) (fun _ _ _ h => h) (Or.inl ⟨by rfl, fun W => by go_simp⟩) ?_
        simp only [Act.put, List.getElem_toArray, List.getElem_cons_zero, List.getElem_cons_succ, List.setIfInBounds_toArray, List.set_cons_zero, List.set_cons_succ]
        obtain ⟨k0, k1, k2, k3⟩ := KB.rd XF0
        obtain ⟨f0, f1, f2, f3⟩ := KB.fz XF0
        refine wpAny_ready (rs := [14]) (by kernel_rfl) (by simp) ?_
        refine AllReady.cons rfl (fun K hK => ?_) AllReady.nil
        go_simp
        refine hK _ _ ?_
        clear hK K k0 k1 k2 k3 f0 f1 f2 f3
        refine wpAny_take (i := 15) (v := .bool true) rfl (by kernel_rfl) (by kernel_rfl) (by kernel_rfl) (fun _ _ _ h => h) (Or.inl ⟨by rfl, fun W => by go_simp⟩) ?_
        simp only [Act.put, List.getElem_toArray, List.getElem_cons_zero, List.getElem_cons_succ, List.setIfInBounds_toArray, List.set_cons_zero, List.set_cons_succ]
        refine wpAny_done (by kernel_rfl) ?_ _
        obtain ⟨k0, k1, k2, k3⟩ := KB.rd XF
        go_wp2_with fail
        refine bodyPost_ret (v := .tuple #[spV ⟨T, U, q, u⟩, .bool true]) ?_ rfl ⟨rfl, Lib.hid XF.out.2.drew⟩
        simp [results, Tryd.results33, go_sem, k0, k1, k2, k3]
end Go.Proofs.YtbpcoiblddhnjaaDoor
