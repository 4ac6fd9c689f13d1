/-
  Layer 4: what a node may be by itself: attrsMayBe, mayBe.
-/
import Derived.Test.YtkccockdnjjanaaGreatDoorMkUp
namespace Nwl
open Go
theorem attrAtB_eq (l : List (List UInt8 × List UInt8)) (k : Nat) (h : k < l.length) : attrAtB l k = (!takenB (l.take k) (l[k]).1 && (nameL (l[k]).1 && allL (l[k]).2)) := by
  unfold attrAtB takenB
  rw [List.getElem?_eq_getElem h]
theorem sum_get : ∀ (l : List (List UInt8 × List UInt8)) (k : Nat) (h : k < l.length), (l[k]).1.length + (l[k]).2.length ≤ (l.map fun a => a.1.length + a.2.length + 1).sum
  | [], k, h => by simp at h
  | a :: r, 0, h => by simp; omega
  | a :: r, k + 1, h => by
    have := sum_get r k (by simpa using h)
    simp
    omega
theorem len_sum : ∀ (l : List (List UInt8 × List UInt8)), l.length ≤ (l.map fun a => a.1.length + a.2.length + 1).sum
  | [] => by simp
  | a :: r => by
    have := len_sum r
    simp
    omega
end Nwl
namespace Go.Proofs.YtkccockdnjjanaaGreatDoor
open Nwl
open Go.RowKit Go.Maps
set_option linter.unusedVariables false

theorem made_hint (n : Int) (w : World) : (Instr.makeMap 113 (some (.int .i64 n))).run Tryz.prog w = .ok (.map (some w.heap.size)) (w.alloc (.map #[] 0)) := by
  simp [Instr.makeMap, run_underlying Tryz.underlying113, Result.andThen]
  rfl
theorem attrCells_at : ∀ (l : List (List UInt8 × List UInt8)) (k : Nat) (h : k < l.length), (attrCells l)[k * 2]? = some (.string (tx (l[k]).1)) ∧ (attrCells l)[k * 2 + 1]? = some (.string (tx (l[k]).2))
  | [], k, h => by simp at h
  | a :: r, 0, h => ⟨rfl, rfl⟩
  | a :: r, k + 1, h => by
    have := attrCells_at r k (by simpa using h)
    have e : (k + 1) * 2 = k * 2 + 2 := by omega
    rw [e]
    exact this
/-- where the walk over the attributes stands -/
structure AtAt (w : World) (M k : Nat) (at_ : List (List UInt8 × List UInt8)) (w' : World) : Prop where
  hM : w.heap.size ≤ M
  map : w'.ownsMap Tryz.prog 9 (unitElem (H := Unit)) M k (keysD (at_.take k))
  bel : Below w.heap.size w w'
  ok : attrsTo at_ k = true

set_option maxRecDepth 100000 in
set_option maxHeartbeats 4000000 in
theorem attrsMayBe_c (B : Nat) (at_ : List (List UInt8 × List UInt8)) (A : Option Addr) (n c : Nat) (w : World) (hr : RowR B w (.slice A n c) at_.length 2 (attrCells at_)) (hB : B ≤ w.heap.size) (hn : n = at_.length) (hs : (at_.map fun a => a.1.length + a.2.length + 1).sum ≤ 2000000) :
    Calls Tryz.prog 84 #[.slice A n c] w fun e w' => e = .returned (.bool (attrsB at_)) ∧ Below w.heap.size w w' := by
  have HR := Lib.hid hr
  have HN := Lib.hid hn
  have HS := Lib.hid hs
  have hnl : n ≤ 2000000 := by have := len_sum at_; omega
  have hmm := made_hint
  clear hr hs hn
  go_enter Tryz.func84, Tryz.ntmps84
  go_wp2_with fail
  go_loopw [13] (fun i wr => ∃ k : Nat, k ≤ n ∧ i = .int .i64 k ∧ Hid (AtAt w w.heap.size k at_ wr)) (fun i _ => n - (intOf i).toNat)
  case atStart => exact ⟨0, Nat.zero_le _, rfl, Nat.le_refl _, World.ownsMap_made w Tryz.prog 9 (unitElem (H := Unit)), (Below.refl _ _).alloc (Nat.le_refl _) _, rfl⟩
  case round =>
    obtain ⟨k, hk, rfl, hh⟩ := hrel
    have hws := hh.out.bel.size
    by_cases hkn : k < n
    · have hka : k < at_.length := by have := HN.out; omega
      obtain ⟨c0, c1⟩ := attrCells_at at_ k hka
      have HAT := Lib.hid (attrAtB_eq at_ k hka)
      have hsum := sum_get at_ k hka
      have HX : Hid (at_.take (k + 1) = at_.take k ++ [(at_[k])]) := Lib.hid (List.take_succ_eq_append_getElem hka)
      obtain ⟨b, o, c', hv, hbB, hc', hcell⟩ := (HR.out.below (hh.out.bel.mono hB)).some (by omega)
      have e0 := hcell _ _ c0
      have e1 := hcell _ _ c1
      injection hv with hA h2 h3
      subst hA
      subst h3
      clear h2
      generalize at_[k] = a at *
      obtain ⟨nm, vl⟩ := a
      simp only at e0 e1 HAT hsum HX
      have hs1 := HS.out
      have hnm : (tx nm).size ≤ maxLen := by rw [tx_size]; unfold maxLen; omega
      have hvl : (tx vl).size ≤ maxLen := by rw [tx_size]; unfold maxLen; omega
      have hkey : keyOf Tryz.prog 9 (.string (tx nm)) = some (.string nm) := WideMaps.keyOf_string_mk (s := tx nm) Tryz.underlying9 hnm
      have HKY := Lib.hid hkey
      have HNM := Lib.hid hnm
      have HVL := Lib.hid hvl
      have hhas : Maps.has (keysD (at_.take k)) (.string nm) = takenB (at_.take k) nm := has_keys (at_.take k) nm
      have e1' : wr.cell? ⟨b, o + k * 2 + 1, none⟩ = some (.string (tx vl)) := e1
      have ho : o + (k * 2 + 1) = o + k * 2 + 1 := by omega
      clear hkey c0 c1 hcell hsum hnm hvl hs1
      cases htk : takenB (at_.take k) nm with
      | true =>
        rw [htk] at hhas
        have HF : Hid (attrsB at_ = false) := Lib.hid (attrsB_bad hka (by rw [HAT.out, htk]; rfl))
        clear htk
        go_wp2_with (at_lookup; refine wpList_lookup_own_unit _ rfl _ _ 113 rfl 9 116 lawS Tryz.underlying113 (zeroU _) w.heap.size k (keysD (at_.take k)) rfl (hh.out.map.alloc _) _ _ rfl HKY.out ?_)
        go_ret
        exact ⟨ret_bool HF.out.symm, (hh.out.bel.alloc hws _).alloc (by simp; omega) _⟩
      | false =>
        rw [htk] at hhas
        cases hnb : nameL nm with
        | false =>
          have HF : Hid (attrsB at_ = false) := Lib.hid (attrsB_bad hka (by rw [HAT.out, htk, hnb]; rfl))
          have hnb' : nameB (tx nm) = false := hnb
          clear htk hnb
          go_wp2_with (first
            | (at_lookup; refine wpList_lookup_own_unit _ rfl _ _ 113 rfl 9 116 lawS Tryz.underlying113 (zeroU _) w.heap.size k (keysD (at_.take k)) rfl (hh.out.map.alloc _) _ _ rfl HKY.out ?_)
            | (go_at_call 83; refine (Name_c _ _ HNM.out).mono ?_; rintro e w1 ⟨rfl, rfl⟩))
          go_ret
          exact ⟨ret_bool HF.out.symm, (hh.out.bel.alloc hws _).alloc (by simp; omega) _⟩
        | true =>
          have hnb' : nameB (tx nm) = true := hnb
          cases hal : allL vl with
          | false =>
            have HF : Hid (attrsB at_ = false) := Lib.hid (attrsB_bad hka (by rw [HAT.out, htk, hnb, hal]; rfl))
            have hal' : allL (bs (tx vl)) = false := hal
            clear htk hnb hal
            go_wp2_with (first
              | (at_lookup; refine wpList_lookup_own_unit _ rfl _ _ 113 rfl 9 116 lawS Tryz.underlying113 (zeroU _) w.heap.size k (keysD (at_.take k)) rfl (hh.out.map.alloc _) _ _ rfl HKY.out ?_)
              | (go_at_call 83; refine (Name_c _ _ HNM.out).mono ?_; rintro e w1 ⟨rfl, rfl⟩)
              | (go_at_call 82; refine (mallAllowed_c _ _ HVL.out).mono ?_; rintro e w1 ⟨rfl, rfl⟩))
            go_ret
            exact ⟨ret_bool HF.out.symm, (hh.out.bel.alloc hws _).alloc (by simp; omega) _⟩
          | true =>
            have HF : Hid (attrAtB at_ k = true) := Lib.hid (by rw [HAT.out, htk, hnb, hal]; rfl)
            have hal' : allL (bs (tx vl)) = true := hal
            clear htk hnb hal
            go_wp2_with (first
              | (at_lookup; refine wpList_lookup_own_unit _ rfl _ _ 113 rfl 9 116 lawS Tryz.underlying113 (zeroU _) w.heap.size k (keysD (at_.take k)) rfl (hh.out.map.alloc _) _ _ rfl HKY.out ?_)
              | (go_at_call 83; refine (Name_c _ _ HNM.out).mono ?_; rintro e w1 ⟨rfl, rfl⟩)
              | (go_at_call 82; refine (mallAllowed_c _ _ HVL.out).mono ?_; rintro e w1 ⟨rfl, rfl⟩)
              | (at_mapUpdate
                 refine wpList_mapUpdate_own _ rfl _ _ _ 113 rfl 9 116 lawS Tryz.underlying113 (unitElem (H := Unit)) w.heap.size k (keysD (at_.take k)) rfl ((hh.out.map.alloc _).alloc _) (by unfold maxLen; omega) _ _ _ rfl rfl HKY.out _ [] unitElem_mk ?_
                 intro w6 hown6 hgrow6
                 have HM6 := Lib.hid hown6
                 have HG6 := Lib.hid hgrow6
                 clear hown6 hgrow6))
            go_roundw
            case rel =>
              refine ⟨k + 1, by omega, by go_num, Nat.le_refl _, ?_, ?_, attrsTo_next hh.out.ok HF.out⟩
              · rw [HX.out, keysD_snoc]
                exact HM6.out
              · exact ((hh.out.bel.alloc hws _).alloc (by simp; omega) _).grown HG6.out (by simp; omega) (fun j hj => by simp at hj; omega)
            case measure => simp [intOf]; omega
    · obtain rfl : k = n := by omega
      have HF : Hid (attrsB at_ = true) := Lib.hid (by have := hh.out.ok; rw [HN.out] at this; exact this)
      go_wp2_with fail
      go_ret
      exact ⟨ret_bool HF.out.symm, hh.out.bel⟩

theorem mayBe_text {n : Nd} (h : n.name = []) : mayBeB n = (decide (n.text ≠ []) && (allL n.text && decide (n.attrs = []))) := by
  unfold mayBeB textB
  rw [if_pos (by simpa using h)]
theorem mayBe_elem {n : Nd} (h : ¬ n.name = []) : mayBeB n = (decide (n.text = []) && (nameL n.name && attrsB n.attrs)) := by
  unfold mayBeB textB
  rw [if_neg (by simpa using h)]

set_option maxRecDepth 100000 in
set_option maxHeartbeats 4000000 in
theorem mayBe_c (B : Nat) (n : Nd) (A : Option Addr) (l c : Nat) (w : World) (hr : RowR B w (.slice A l c) n.attrs.length 2 (attrCells n.attrs)) (hB : B ≤ w.heap.size) (hl : l = n.attrs.length) (hs : bulkN n ≤ 2000000) :
    Calls Tryz.prog 54 #[.agg #[.int .i64 n.parent, .string (tx n.name), .string (tx n.text), .slice A l c]] w fun e w' => e = .returned (.bool (mayBeB n)) ∧ Below w.heap.size w w' := by
  unfold bulkN at hs
  have hnm : (tx n.name).size ≤ maxLen := by rw [tx_size]; unfold maxLen; omega
  have htx : (tx n.text).size ≤ maxLen := by rw [tx_size]; unfold maxLen; omega
  have HNM := Lib.hid hnm
  have HTX := Lib.hid htx
  have HR := Lib.hid hr
  have HS : Hid ((n.attrs.map fun a => a.1.length + a.2.length + 1).sum ≤ 2000000) := Lib.hid (by omega)
  have HL := Lib.hid hl
  have HAB : Hid (∀ w', Below w.heap.size w w' → Below w.heap.size w w') := Lib.hid fun _ h => h
  clear hr hs hnm htx
  by_cases h : n.name = []
  · have HM := Lib.hid (mayBe_text h)
    have hdt : decide (n.name = []) = true := by simp [h]
    by_cases ht : n.text = []
    · have h1 := txl_nil ht
      have HF : Hid (mayBeB n = false) := Lib.hid (by rw [HM.out, ht]; rfl)
      clear h ht hl
      go_enter Tryz.func54, Tryz.ntmps54
      go_wp2_with fail
      refine (isText_c _ _ _ _ _ _ _).mono ?_
      rintro e w1 ⟨rfl, hb1⟩
      have c2 := (Blk.below (Blk.new w 32 #[.int .i64 n.parent, .string (tx n.name), .string (tx n.text), .slice A l c]) hb1).cell 2
      have HW : Hid (Below w.heap.size w w1) := Lib.hid (((Below.refl _ _).alloc (Nat.le_refl _) _).trans (hb1.mono (by simp)))
      clear hb1
      go_wp2_with fail
      go_ret
      exact ⟨ret_bool HF.out.symm, HW.out⟩
    · have h1 := txl_ne ht
      have h2 : (tx n.text).toList.isEmpty = false := by simpa using h1
      have hdn : decide (n.text ≠ []) = true := by simp [ht]
      cases ha : allL n.text with
      | false =>
        have HF : Hid (mayBeB n = false) := Lib.hid (by rw [HM.out, ha]; simp)
        have ha' : allL (bs (tx n.text)) = false := ha
        clear h ht hl ha
        go_enter Tryz.func54, Tryz.ntmps54
        go_wp2_with fail
        refine (isText_c _ _ _ _ _ _ _).mono ?_
        rintro e w1 ⟨rfl, hb1⟩
        have c2 := (Blk.below (Blk.new w 32 #[.int .i64 n.parent, .string (tx n.name), .string (tx n.text), .slice A l c]) hb1).cell 2
        have HW : Hid (Below w.heap.size w w1) := Lib.hid (((Below.refl _ _).alloc (Nat.le_refl _) _).trans (hb1.mono (by simp)))
        clear hb1
        go_wp2_with (go_at_call 82; refine (mallAllowed_c _ _ HTX.out).mono ?_; rintro e w1 ⟨rfl, rfl⟩)
        go_ret
        exact ⟨ret_bool HF.out.symm, HW.out⟩
      | true =>
        have ha' : allL (bs (tx n.text)) = true := ha
        have HF : Hid (mayBeB n = ((l : Int) == 0)) := Lib.hid (by
          rw [HM.out, hdn, ha, HL.out]
          cases n.attrs <;> simp <;> omega)
        clear h ht hl ha
        go_enter Tryz.func54, Tryz.ntmps54
        go_wp2_with fail
        refine (isText_c _ _ _ _ _ _ _).mono ?_
        rintro e w1 ⟨rfl, hb1⟩
        have c2 := (Blk.below (Blk.new w 32 #[.int .i64 n.parent, .string (tx n.name), .string (tx n.text), .slice A l c]) hb1).cell 2
        have c3 := (Blk.below (Blk.new w 32 #[.int .i64 n.parent, .string (tx n.name), .string (tx n.text), .slice A l c]) hb1).cell 3
        have HW : Hid (Below w.heap.size w w1) := Lib.hid (((Below.refl _ _).alloc (Nat.le_refl _) _).trans (hb1.mono (by simp)))
        clear hb1
        go_wp2_with (go_at_call 82; refine (mallAllowed_c _ _ HTX.out).mono ?_; rintro e w1 ⟨rfl, rfl⟩)
        go_ret
        exact ⟨ret_bool HF.out.symm, HW.out⟩
  · have HM := Lib.hid (mayBe_elem h)
    have hdt : decide (n.name = []) = false := by simp [h]
    by_cases ht : n.text = []
    · have h1 := txl_nil ht
      cases hn : nameL n.name with
      | false =>
        have hn' : nameB (tx n.name) = false := hn
        have HF : Hid (mayBeB n = false) := Lib.hid (by rw [HM.out, hn]; simp)
        clear h ht hl hn
        go_enter Tryz.func54, Tryz.ntmps54
        go_wp2_with fail
        refine (isText_c _ _ _ _ _ _ _).mono ?_
        rintro e w1 ⟨rfl, hb1⟩
        have c1 := (Blk.below (Blk.new w 32 #[.int .i64 n.parent, .string (tx n.name), .string (tx n.text), .slice A l c]) hb1).cell 1
        have c2 := (Blk.below (Blk.new w 32 #[.int .i64 n.parent, .string (tx n.name), .string (tx n.text), .slice A l c]) hb1).cell 2
        have HW : Hid (Below w.heap.size w w1) := Lib.hid (((Below.refl _ _).alloc (Nat.le_refl _) _).trans (hb1.mono (by simp)))
        clear hb1
        go_wp2_with (go_at_call 83; refine (Name_c _ _ HNM.out).mono ?_; rintro e w1 ⟨rfl, rfl⟩)
        go_ret
        exact ⟨ret_bool HF.out.symm, HW.out⟩
      | true =>
        have hn' : nameB (tx n.name) = true := hn
        have HF : Hid (mayBeB n = attrsB n.attrs) := Lib.hid (by rw [HM.out, hn, ht]; simp)
        clear h ht hl hn
        go_enter Tryz.func54, Tryz.ntmps54
        go_wp2_with fail
        refine (isText_c _ _ _ _ _ _ _).mono ?_
        rintro e w1 ⟨rfl, hb1⟩
        have c1 := (Blk.below (Blk.new w 32 #[.int .i64 n.parent, .string (tx n.name), .string (tx n.text), .slice A l c]) hb1).cell 1
        have c2 := (Blk.below (Blk.new w 32 #[.int .i64 n.parent, .string (tx n.name), .string (tx n.text), .slice A l c]) hb1).cell 2
        have c3 := (Blk.below (Blk.new w 32 #[.int .i64 n.parent, .string (tx n.name), .string (tx n.text), .slice A l c]) hb1).cell 3
        have HW : Hid (Below w.heap.size w w1) := Lib.hid (((Below.refl _ _).alloc (Nat.le_refl _) _).trans (hb1.mono (by simp)))
        have hws := HW.out.size
        clear hb1
        go_wp2_with (first
          | (go_at_call 83; refine (Name_c _ _ HNM.out).mono ?_; rintro e w1 ⟨rfl, rfl⟩)
          | (go_at_call 84; refine (attrsMayBe_c B _ _ _ _ _ (HR.out.below (HW.out.mono hB)) (by omega) HL.out HS.out).mono ?_; rintro e w2 ⟨rfl, hb2⟩; have HW2 : Hid (Below w.heap.size w w2) := Lib.hid (HW.out.trans (hb2.mono hws)); clear hb2))
        go_ret
        exact ⟨ret_bool HF.out.symm, HW2.out⟩
    · have h1 := txl_ne ht
      have h2 : (tx n.text).toList.isEmpty = false := by simpa using h1
      have HF : Hid (mayBeB n = false) := Lib.hid (by rw [HM.out]; simp [ht])
      clear h ht hl
      go_enter Tryz.func54, Tryz.ntmps54
      go_wp2_with fail
      refine (isText_c _ _ _ _ _ _ _).mono ?_
      rintro e w1 ⟨rfl, hb1⟩
      have c2 := (Blk.below (Blk.new w 32 #[.int .i64 n.parent, .string (tx n.name), .string (tx n.text), .slice A l c]) hb1).cell 2
      have HW : Hid (Below w.heap.size w w1) := Lib.hid (((Below.refl _ _).alloc (Nat.le_refl _) _).trans (hb1.mono (by simp)))
      clear hb1
      go_wp2_with fail
      go_ret
      exact ⟨ret_bool HF.out.symm, HW.out⟩

end Go.Proofs.YtkccockdnjjanaaGreatDoor
