/-
  Contracts of span.unblank and span.cut (over strings.IndexAny, strings.Cut, strings.Trim).
-/
import Derived.Test.YtkphkcpckgdgaaaGreatDoorSa
import Derived.Test.YtkphkcpckgdgaaaGreatDoorShelf
import Derived.Test.YtkphkcpckgdgaaaGreatDoorGnAny
import Derived.BigRegion
import Derived.Deep.RegionWith
import Derived.Lib.CutLaws
import Derived.Lib.IndexBytes
namespace Nwl
open Go
theorem bs_data (s : ByteArray) : s.data.toList = bs s := rfl
theorem any_lt : ∀ (l chars : List UInt8), Lib.indexAny l chars < l.length
  | [], _ => by simp [Lib.indexAny]
  | b :: l, chars => by
    have := any_lt l chars
    rw [Lib.indexAny, List.length_cons]
    split
    · omega
    · split <;> omega
theorem isR_pos (s : ByteArray) (h : isR (bs s) = true) : 0 < s.size := by
  rcases Nat.eq_zero_or_pos s.size with h0 | h0
  · rw [bs_nil h0] at h; cases h
  · exact h0
theorem isR_hd (s : ByteArray) (h : isR (bs s) = true) : s[0]'(isR_pos s h) = 91 ∨ s[0]'(isR_pos s h) = 40 := by
  rw [bs_hd (isR_pos s h)] at h
  simpa [isR] using h
theorem any_pos (s : ByteArray) (h : isR (bs s) = true) (h0 : 0 ≤ Lib.indexAny (bs s) [93, 41]) : 1 ≤ Lib.indexAny (bs s) [93, 41] := by
  have h1 := isR_hd s h
  rw [bs_hd (isR_pos s h)] at h0 ⊢
  rw [Lib.indexAny] at h0 ⊢
  have : List.contains ([93, 41] : List UInt8) (s[0]'(isR_pos s h)) = false := by
    rcases h1 with h1 | h1 <;> rw [h1] <;> decide
  rw [this] at h0 ⊢
  simp only [Bool.false_eq_true, if_false] at h0 ⊢
  split at h0
  · omega
  · rename_i hne
    rw [if_neg hne]
    have := Lib.indexAny_ge [93, 41] ((bs s).drop 1)
    rw [beq_iff_eq] at hne
    omega
theorem cut_yes_eq (s : ByteArray) (i : Nat) (hi : Lib.indexAny (bs s) [93, 41] = i) (hR : isR (bs s) = true) (h1 : 1 ≤ i) (h2 : i < s.size) (x y : List UInt8) (two p q : Bool) (hc : Lib.cut (bs (s.extract 1 i)) [44] = (x, y, two)) (hp : ((s[0]'(by omega)).toNat == 91) = p) (hq : (s[i].toNat == 93) = q) :
    cutS (bs s) = (⟨Lib.trimB x 32, Lib.trimB (if two then y else x) 32, p, q⟩, bs (s.extract (i + 1) s.size), two || (p && q)) := by
  have hm : midS (bs s) = bs (s.extract 1 i) := by
    unfold midS
    rw [hi, bs_extract, Int.toNat_natCast, List.drop_take]
  have hok : cutOk (bs s) = true := by
    unfold cutOk
    rw [hR, hi, decide_eq_true (by omega)]; rfl
  have hp2 : ((bs s).head? == some 91) = p := by
    rw [← hp, bs_hd (by omega : 0 < s.size)]
    show (some (s[0]'(by omega)) == some 91) = _
    rw [Bool.eq_iff_iff, beq_iff_eq, beq_iff_eq, Option.some_inj, ← UInt8.toNat_inj]; rfl
  have hq2 : ((bs s)[i]? == some 93) = q := by
    rw [← hq, List.getElem?_eq_getElem (by rw [bs_length]; exact h2)]
    show (some (s[i]) == some 93) = _
    rw [Bool.eq_iff_iff, beq_iff_eq, beq_iff_eq, Option.some_inj, ← UInt8.toNat_inj]; rfl
  have ho : oneS (bs s) = ⟨Lib.trimB x 32, Lib.trimB (if two then y else x) 32, p, q⟩ := by
    unfold oneS
    rw [hm, hc, hi, Int.toNat_natCast, hp2, hq2]
  unfold cutS
  rw [if_pos hok, ho, hm, hc, hi, Int.toNat_natCast]
  refine Prod.ext rfl (Prod.ext ?_ rfl)
  show (bs s).drop (i + 1) = bs (s.extract (i + 1) s.size)
  rw [bs_extract, List.take_of_length_le (by rw [List.length_drop, bs_length]; omega)]
end Nwl
namespace Go.Proofs.YtkphkcpckgdgaaaGreatDoor
open Nwl
open Go.RowKit Go.Maps
set_option linter.unusedVariables false

theorem blk_same {w : World} {b i : Nat} {t : TypeId} {cs : Array Value} {u : Value} (h : Blk w b t cs) (hu : cs[i]? = some u) : w.setCell ⟨b, i, none⟩ u = w := by
  obtain ⟨hi, he⟩ := Array.getElem?_eq_some_iff.1 hu
  unfold Blk at h
  obtain ⟨hb, hh⟩ := Array.getElem?_eq_some_iff.1 h
  have e : (w.setCell ⟨b, i, none⟩ u).heap = w.heap := by
    apply Array.ext_getElem?
    intro j
    by_cases hj : j = b
    · subst hj
      have := Blk.set (w := w) (b := j) (t := t) (cs := cs) h i u
      unfold Blk at this
      rw [this, h]
      congr 2
      apply Array.ext_getElem?
      intro k
      rw [Array.getElem?_setIfInBounds]
      split
      · rename_i hk; subst hk; exact hu.symm
      · rfl
    · exact Below.heap_setCell w ⟨b, i, none⟩ u j hj
  calc w.setCell ⟨b, i, none⟩ u = { w with heap := (w.setCell ⟨b, i, none⟩ u).heap } := rfl
    _ = w := by rw [e]

set_option maxRecDepth 100000 in
set_option maxHeartbeats 1000000 in
theorem lcut_c (s : ByteArray) (w : World) (hs : s.size ≤ 100000) (x y : List UInt8) (f : Bool) (hc : Lib.cut (bs s) [44] = (x, y, f)) :
    Calls Tryz.prog 81 #[.string s, .string ⟨#[44]⟩] w fun e w' => e = .returned (.tuple #[.string (tx x), .string (tx y), .bool f]) ∧ ∃ n, w' = w.drewN n := by
  have hix : Lib.index (bs s) [44] = Lib.indexByte (bs s) 44 := Lib.index_one _ _
  rcases Lib.indexB_cases s ⟨#[44]⟩ with h | ⟨i, h, hroom⟩
  · obtain ⟨e1, e2, e3⟩ := Lib.cutB_miss s ⟨#[44]⟩ h
    have h' : Lib.indexByte s.data.toList 44 = -1 := hix.symm.trans h
    have hc' : Lib.cut s.data.toList (⟨#[44]⟩ : ByteArray).data.toList = (x, y, f) := hc
    rw [hc'] at e1 e2 e3
    have e1' : tx x = s := e1
    have e2' : tx y = ByteArray.empty := e2
    obtain rfl : f = false := e3
    rw [e1', e2']
    have HI := Lib.hid h'
    clear h' e1 e2 e1' e2' hc hc' h hix
    go_enter Tryz.func81, Tryz.ntmps81
    go_wp2_with (go_at_call 89; refine (Tryz.stringslite_Index_one s 44 _).mono ?_; rintro e w' ⟨rfl, rfl⟩; rw [HI.out])
    go_ret3
    exact ⟨rfl, 0, rfl⟩
  · obtain ⟨e1, e2, e3⟩ := Lib.cutB_hit s ⟨#[44]⟩ i h
    have h' : Lib.indexByte s.data.toList 44 = i := hix.symm.trans h
    have hc' : Lib.cut s.data.toList (⟨#[44]⟩ : ByteArray).data.toList = (x, y, f) := hc
    rw [hc'] at e1 e2 e3
    have e1' : tx x = s.extract 0 i := e1
    have e2' : tx y = s.extract (i + 1) s.size := e2
    obtain rfl : f = true := e3
    rw [e1', e2']
    have HI := Lib.hid h'
    have hroom' : i + 1 ≤ s.size := hroom
    clear h' e1 e2 e1' e2' hc hc' h hix hroom
    have c1 : (0 : Int) ≤ ↑i := by omega
    have c2 : (↑i : Int) ≤ ↑s.size := by omega
    have c3 : (0 : Int) ≤ ↑i + 1 := by omega
    have c4 : (↑i + 1 : Int) ≤ ↑s.size := by omega
    go_enter Tryz.func81, Tryz.ntmps81
    go_wp2_with (go_at_call 89; refine (Tryz.stringslite_Index_one s 44 _).mono ?_; rintro e w' ⟨rfl, rfl⟩; rw [HI.out])
    go_region
    all_goals (go_wp2_with fail; go_ret3)
    all_goals exact ⟨rfl, 1, rfl⟩

set_option maxRecDepth 100000 in
theorem Cut_c (s : ByteArray) (w : World) (hs : s.size ≤ 100000) (x y : List UInt8) (f : Bool) (hc : Lib.cut (bs s) [44] = (x, y, f)) :
    Calls Tryz.prog 62 #[.string s, .string ⟨#[44]⟩] w fun e w' => e = .returned (.tuple #[.string (tx x), .string (tx y), .bool f]) ∧ Hid (Below w.heap.size w w') := by
  have HC := Lib.hid hc
  clear hc
  go_enter Tryz.func62, Tryz.ntmps62
  go_wp2_with (go_at_call 81; refine (lcut_c s _ hs x y f HC.out).mono ?_; rintro e w1 ⟨rfl, hw⟩)
  go_ret3
  obtain ⟨n, rfl⟩ := hw
  exact ⟨rfl, Lib.hid (below_drewN (Below.refl _ _) n)⟩

set_option maxRecDepth 100000 in
theorem unblank_c (l : List UInt8) (w : World) (hs : l.length ≤ 100000) :
    Calls Tryz.prog 63 #[.string (tx l)] w fun e w' => e = .returned (.string (tx (Lib.trimB l 32))) ∧ Hid (Below w.heap.size w w') := by
  have hs2 : (tx l).size ≤ 9223372036854775807 := by rw [tx_size]; omega
  have HT := Lib.hid (fun W => Tryz.strings_Trim_one (tx l) 32 (by decide) W hs2)
  have he : Hid ((⟨(Lib.trimB (tx l).data.toList 32).toArray⟩ : ByteArray) = tx (Lib.trimB l 32)) := Lib.hid rfl
  generalize Lib.trimB (tx l).data.toList 32 = A at *
  generalize Lib.trimB l 32 = B at *
  go_enter Tryz.func63, Tryz.ntmps63
  go_wp2_with (go_at_call 82; refine (HT.out _).mono ?_; rintro e w1 ⟨rfl, hw⟩)
  go_ret
  refine ⟨ret_str he.out, ?_⟩
  rcases hw with rfl | rfl
  · exact Lib.hid (Below.refl _ _)
  · exact Lib.hid (Below.refl _ _).drew

/-- the box of a result under way -/
def KB (w W : World) (v0 v1 v2 v3 : Value) : Prop := Blk W w.heap.size 27 #[v0, v1, v2, v3] ∧ Below w.heap.size w W
theorem KB.new (w : World) (v0 v1 v2 v3 : Value) : KB w (w.alloc (.cells #[v0, v1, v2, v3] 27)) v0 v1 v2 v3 := ⟨Blk.new _ _ _, (Below.refl _ _).alloc (Nat.le_refl _) _⟩
theorem KB.step {w W W' : World} {v0 v1 v2 v3 : Value} (h : Hid (KB w W v0 v1 v2 v3)) (hb : Hid (Below W.heap.size W W')) : Hid (KB w W' v0 v1 v2 v3) := Lib.hid ⟨h.out.1.below hb.out, h.out.2.trans (hb.out.mono h.out.2.size)⟩
theorem KB.stepd {w W W' : World} {v0 v1 v2 v3 : Value} (h : Hid (KB w W v0 v1 v2 v3)) (hb : Hid (Below W.drew.heap.size W.drew W')) : Hid (KB w W' v0 v1 v2 v3) := KB.step h (Lib.hid (below_d hb.out))
theorem KB.rd {w W : World} {v0 v1 v2 v3 : Value} (h : Hid (KB w W v0 v1 v2 v3)) : W.cell? ⟨w.heap.size, 0, none⟩ = some v0 ∧ W.cell? ⟨w.heap.size, 1, none⟩ = some v1 ∧ W.cell? ⟨w.heap.size, 2, none⟩ = some v2 ∧ W.cell? ⟨w.heap.size, 3, none⟩ = some v3 := ⟨h.out.1.cell 0, h.out.1.cell 1, h.out.1.cell 2, h.out.1.cell 3⟩
theorem KB.fz {w W : World} {v0 v1 v2 v3 : Value} (h : Hid (KB w W v0 v1 v2 v3)) : W.frozen? ⟨w.heap.size, 0, none⟩ = false ∧ W.frozen? ⟨w.heap.size, 1, none⟩ = false ∧ W.frozen? ⟨w.heap.size, 2, none⟩ = false ∧ W.frozen? ⟨w.heap.size, 3, none⟩ = false := ⟨h.out.1.frozen 0, h.out.1.frozen 1, h.out.1.frozen 2, h.out.1.frozen 3⟩
theorem KB.put {w W : World} {v0 v1 v2 v3 : Value} (h : Hid (KB w W v0 v1 v2 v3)) (u0 u1 u2 u3 : Value) : Hid (KB w ((((W.setCell ⟨w.heap.size, 0, none⟩ u0).setCell ⟨w.heap.size, 1, none⟩ u1).setCell ⟨w.heap.size, 2, none⟩ u2).setCell ⟨w.heap.size, 3, none⟩ u3) u0 u1 u2 u3) :=
  Lib.hid ⟨(((h.out.1.set 0 u0).set 1 u1).set 2 u2).set 3 u3, (((h.out.2.setCell (Nat.le_refl _) _).setCell (Nat.le_refl _) _).setCell (Nat.le_refl _) _).setCell (Nat.le_refl _) _⟩
theorem KB.eqs {w W : World} {v0 v1 v2 v3 : Value} (h : Hid (KB w W v0 v1 v2 v3)) : W.setCell ⟨w.heap.size, 0, none⟩ v0 = W ∧ W.setCell ⟨w.heap.size, 1, none⟩ v1 = W ∧ W.setCell ⟨w.heap.size, 2, none⟩ v2 = W ∧ W.setCell ⟨w.heap.size, 3, none⟩ v3 = W := ⟨blk_same h.out.1 rfl, blk_same h.out.1 rfl, blk_same h.out.1 rfl, blk_same h.out.1 rfl⟩

set_option maxRecDepth 100000 in
set_option maxHeartbeats 2000000 in
theorem cut_no (s : ByteArray) (w : World) (hs : s.size ≤ 1000) (h : cutOk (bs s) = false) :
    Calls Tryz.prog 43 #[.string s] w fun e w' => e = .returned (.tuple #[spV ⟨[], [], false, false⟩, .string ⟨#[]⟩, .bool false]) ∧ Hid (Below w.heap.size w w') := by
  have hs' : s.size ≤ 100000 := by omega
  obtain ⟨F, hF⟩ : ∃ F, Lib.indexAny (bs s) [93, 41] = F := ⟨_, rfl⟩
  obtain ⟨R, hR⟩ : ∃ F, isR (bs s) = F := ⟨_, rfl⟩
  have HF := Lib.hid hF
  have HR := Lib.hid hR
  have X0 := Lib.hid (KB.new w (.string ⟨#[]⟩) (.string ⟨#[]⟩) (.bool false) (.bool false))
  unfold cutOk at h
  rw [hF, hR] at h
  clear hF hR
  cases R
  · clear h
    go_enter Tryz.func43, Tryz.ntmps43
    go_wp2_with fail
    refine (any_c s _ hs' F HF.out).mono ?_
    rintro e w1 ⟨rfl, b1⟩
    have X1 := KB.step X0 b1
    go_wp2_with fail
    refine (Is_c s _ false HR.out).mono ?_
    rintro e w2 ⟨rfl, rfl⟩
    obtain ⟨k0, k1, k2, k3⟩ := KB.rd X1
    obtain ⟨f0, f1, f2, f3⟩ := KB.fz X1
    obtain ⟨e0, e1, e2, e3⟩ := KB.eqs X1
    go_wp2_with fail
    refine bodyPost_ret (v := .tuple #[spV ⟨[], [], false, false⟩, .string ⟨#[]⟩, .bool false]) ?_ rfl ⟨rfl, Lib.hid X1.out.2⟩
    simp [results, Tryz.results43, go_sem, k0, k1, k2, k3]
    rfl
  · have hneg : F < 0 := by
      rw [Bool.true_and, decide_eq_false_iff_not] at h
      omega
    clear h
    go_enter Tryz.func43, Tryz.ntmps43
    go_wp2_with fail
    refine (any_c s _ hs' F HF.out).mono ?_
    rintro e w1 ⟨rfl, b1⟩
    have X1 := KB.step X0 b1
    go_wp2_with fail
    refine (Is_c s _ true HR.out).mono ?_
    rintro e w2 ⟨rfl, rfl⟩
    obtain ⟨k0, k1, k2, k3⟩ := KB.rd X1
    obtain ⟨f0, f1, f2, f3⟩ := KB.fz X1
    obtain ⟨e0, e1, e2, e3⟩ := KB.eqs X1
    go_wp2_with fail
    refine bodyPost_ret (v := .tuple #[spV ⟨[], [], false, false⟩, .string ⟨#[]⟩, .bool false]) ?_ rfl ⟨rfl, Lib.hid X1.out.2⟩
    simp [results, Tryz.results43, go_sem, k0, k1, k2, k3]
    rfl
end Go.Proofs.YtkphkcpckgdgaaaGreatDoor
