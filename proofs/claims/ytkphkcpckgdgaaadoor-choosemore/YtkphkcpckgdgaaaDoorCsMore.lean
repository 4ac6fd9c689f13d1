/-
  The walk of ChooseMore.
-/
import Derived.Test.YtkphkcpckgdgaaaDoorCsHolds
import Derived.Test.YtkphkcpckgdgaaaDoorSpDec
import Derived.Test.YtkphkcpckgdgaaaDoorGnDigits
namespace Nwl
open Go
set_option linter.unusedVariables false
theorem pick_kind {l : List (List UInt8)} {w : List UInt8} {r : List Sp} (hR : isR w = true) (hp : parseL w = some r) {x : List UInt8} {k : Int} (h : pickV l w = (x, k)) : k = 0 ∨ k = 13 := by
  unfold pickV at h
  rw [if_pos hR, hp] at h
  dsimp only at h
  split at h
  · injection h with h1 h2; exact .inr h2.symm
  · injection h with h1 h2; exact .inl h2.symm
theorem more_b {l : List (List UInt8)} {m w a : List UInt8} (hR : isR w = true) (h : pickV l w = (a, 0)) : ∃ b, pickV (l ++ [m]) w = (b, 0) ∧ 0 ≤ cmpV b a := by
  obtain ⟨r, hr, h1, h2, h3⟩ := pick_held h hR
  have hm : a ∈ heldL r (l ++ [m]) := List.mem_filter.2 ⟨List.mem_append_left _ h1, h2⟩
  cases hg : greatO (heldL r (l ++ [m])) with
  | none =>
    rw [greatO_none hg] at hm
    simp at hm
  | some b =>
    refine ⟨b, ?_, ?_⟩
    · unfold pickV
      rw [if_pos hR, hr]
      dsimp only
      unfold highO
      rw [hg]
    · have := cmp_of_le ((greatO_spec hg).2 a hm)
      have := ord_v.anti a b
      omega
theorem dec_inj {x y : Nat} (hx : x < 10 ^ 9) (hy : y < 10 ^ 9) (h : cmpV (decF 9 x) (decF 9 y) = 0) : x = y := by
  rw [num_cmp x y hx hy] at h
  unfold Lib.compareInt at h
  split at h
  · omega
  · split at h <;> omega
theorem filter_step {l : List (List UInt8)} (p : List UInt8 → Bool) {j : Nat} (hj : j < l.length) : (l.take (j + 1)).filter p = (l.take j).filter p ++ (if p l[j] then [l[j]] else []) := by
  rw [← List.take_append_getElem hj, List.filter_append]
  congr 1
  cases h : p l[j] <;> simp [h]
theorem rest_c {l : List (List UInt8)} {w a c : List UInt8} {g : Int} (hR : isR w = true) (h : pickV l w = (a, 0)) (hl : ∀ x ∈ l, ∃ v, v < 10 ^ 9 ∧ x = decF 9 v) (hc : pickV (l.filter (fun x => !(x == a))) w = (c, g)) : g = 13 ∨ (g = 0 ∧ cmpV c a = -1) := by
  obtain ⟨r, hr, h1, h2, h3⟩ := pick_held h hR
  rcases pick_kind hR hr hc with rfl | rfl
  · refine .inr ⟨rfl, ?_⟩
    obtain ⟨r', hr', k1, k2, k3⟩ := pick_held hc hR
    rw [hr] at hr'
    injection hr' with hr'
    subst hr'
    obtain ⟨k4, k5⟩ := List.mem_filter.1 k1
    have hle := h3 c k4 k2
    have hne : c ≠ a := by simpa using k5
    rcases ord_v.sgn c a with q | q | q
    · exact q
    · exfalso
      obtain ⟨v, hv, rfl⟩ := hl c k4
      obtain ⟨u, hu, rfl⟩ := hl a h1
      exact hne (by rw [dec_inj hv hu q])
    · omega
  · exact .inl rfl
theorem parse_low (v : Nat) (hv : v < 10 ^ 9) : isR (91 :: (decF 9 v ++ [44]) ++ [41]) = true ∧ parseL (91 :: (decF 9 v ++ [44]) ++ [41]) = some [⟨decF 9 v, [], true, false⟩] := by
  refine ⟨rfl, ?_⟩
  have hcl := dec_cl v
  have hcut := cutS_of 91 41 (.inl rfl) (.inr rfl) (decF 9 v ++ [44]) [] (fun a ha => by
    rcases List.mem_append.1 ha with ha | ha
    · exact ⟨(hcl.2 a ha).2.2.2, (hcl.2 a ha).2.1⟩
    · rw [List.mem_singleton.1 ha]; decide) (decF 9 v) [] true (cut_two _ [] fun a ha => (hcl.2 a ha).2.2.1)
  rw [trim_no _ fun c hc => (hcl.2 c hc).1] at hcut
  simp only [if_true, Bool.true_or] at hcut
  have ht : Lib.trimB [] 32 = [] := rfl
  rw [ht] at hcut
  have hg : goodS [] (91 :: (decF 9 v ++ [44]) ++ [41]) = true := by
    unfold goodS
    rw [hcut]
    have : mayB ⟨decF 9 v, [], true, false⟩ = true := by
      unfold mayB boundB
      dsimp only
      rw [dec_right]; simp
    show (true && mayB ⟨decF 9 v, [], true, false⟩ && comeB [] _) = true
    rw [this]; rfl
  unfold parseL
  rw [parse_end hg (by rw [hcut]), hcut]
  rfl
end Nwl
namespace Go.Proofs.YtkphkcpckgdgaaaDoor
open Nwl
open Go.RowKit Go.Maps
set_option linter.unusedVariables false

/-- the first numbers of a slice, made small -/
def IntM (M C : Nat) (w : World) (A : Option Addr) (n : Nat) (xs : List Nat) : Prop := xs.length = min n C ∧ ∀ j (hj : j < xs.length), xs[j] < M ∧ ∃ g o z, A = some ⟨g, o, none⟩ ∧ g < w.heap.size ∧ w.cell? ⟨g, o + j, none⟩ = some (.int .i64 z) ∧ wrap64 ((IntKind.u64.wrap z).tmod (M : Nat)) = (xs[j] : Int)
theorem intM_of (M C : Nat) (hM : 0 < M) (hM2 : M ≤ 2147483648) {w : World} {A : Option Addr} {n : Nat} (h : ∀ j, j < n → ∃ b o z, A = some ⟨b, o, none⟩ ∧ b < w.heap.size ∧ w.cell? ⟨b, o + j, none⟩ = some (.int .i64 z)) : ∃ xs, IntM M C w A n xs := by
  have h2 : ∀ j, ∃ x : Nat, j < n → x < M ∧ ∃ g o z, A = some ⟨g, o, none⟩ ∧ g < w.heap.size ∧ w.cell? ⟨g, o + j, none⟩ = some (.int .i64 z) ∧ wrap64 ((IntKind.u64.wrap z).tmod (M : Nat)) = (x : Int) := by
    intro j
    by_cases hj : j < n
    · obtain ⟨b, o, z, h1, h2, h3⟩ := h j hj
      obtain ⟨x, hx, hx2⟩ := idxN z M (by omega) (by omega)
      exact ⟨x, fun _ => ⟨by omega, b, o, z, h1, h2, h3, hx⟩⟩
    · exact ⟨0, fun h => absurd h hj⟩
  refine ⟨(List.range (min n C)).map fun j => Classical.choose (h2 j), by simp, fun j hj => ?_⟩
  simp only [List.length_map, List.length_range] at hj
  simp only [List.getElem_map, List.getElem_range]
  exact Classical.choose_spec (h2 j) (by omega)
/-- the versions that are made of them -/
def numV (x : Nat) : List UInt8 := decF 9 (x + 1)
theorem numV_len (x : Nat) : (numV x).length ≤ 9 := decF_le 9 _

set_option maxRecDepth 100000 in
set_option maxHeartbeats 8000000 in
theorem ChooseMore_walk (A : Option Addr) (n c : Nat) (more low : Int) (w : World) (m1 : n ≤ maxLen) (h1 : ∀ j, j < n → ∃ b o z, A = some ⟨b, o, none⟩ ∧ b < w.heap.size ∧ w.cell? ⟨b, o + j, none⟩ = some (.int .i64 z)) (wm : (Lit.int .i64 more).wf = true) (wl : (Lit.int .i64 low).wf = true) (hg : Glob w) :
    Calls Tryd.prog 4 #[.slice A n c, .int .i64 more, .int .i64 low] w fun e w' => e = .returned (.bool true) ∧ Below w.heap.size w w' := by
  obtain ⟨xs, hX⟩ := intM_of 50 20 (by decide) (by decide) h1
  obtain ⟨xm, hm1, hm2⟩ := idxN more 50 (by decide) (by decide)
  obtain ⟨xl, hl1, hl2⟩ := idxN low 50 (by decide) (by decide)
  have HX := Lib.hid hX
  have HM1 := Lib.hid hm1
  have HL1 := Lib.hid hl1
  have hm3 : Hid (xm + 1 < 10 ^ 9) := Lib.hid (by omega)
  have hl3 : Hid (xl + 1 < 10 ^ 9) := Lib.hid (by omega)
  have hwm : Hid (wrap64 (1 + (xm : Int)) = ((xm + 1 : Nat) : Int)) := Lib.hid (by unfold wrap64; omega)
  have hwl : Hid (wrap64 (1 + (xl : Int)) = ((xl + 1 : Nat) : Int)) := Lib.hid (by unfold wrap64; omega)
  have hn1 := m1
  unfold maxLen at hn1
  obtain ⟨i0, hi, hz0, hz1, hz2⟩ := info_parts2 info_st
  clear h1 hX hm1 hl1 hm2 hl2 wm wl hg m1
  go_enter Tryd.func4, Tryd.ntmps4
  go_wp2_with fail
  go_loopw [7, 8] (fun rv iv wr => ∃ (k : Nat) (Ao : Option Addr) (co : Nat), k ≤ n ∧ k ≤ 20 ∧ rv = .slice Ao k co ∧ iv = .int .i64 k ∧ Hid (StrO w.heap.size wr Ao k co ((xs.take k).map numV) ∧ Below w.heap.size w wr)) (fun _ iv _ => 20 - (intOf iv).toNat)
  case atStart => exact ⟨0, none, 0, by omega, by omega, rfl, rfl, Lib.hid ⟨StrO.nil _ _, Below.refl _ _⟩⟩
  case round =>
    obtain ⟨k, Ao, co, hkn, hk20, rfl, rfl, hh⟩ := hrel
    by_cases hgo : k < n ∧ k < 20
    · obtain ⟨g1, g2⟩ := hgo
      have hkl : k < xs.length := by have := HX.out.1; omega
      obtain ⟨hs, g, o, z, rfl, hg, hc, hx⟩ := HX.out.2 k hkl
      have HB := Lib.hid hh.out.2
      have HROW := Lib.hid hh.out.1
      have hc' : wr.cell? ⟨g, o + k, none⟩ = some (.int .i64 z) := (HB.out.cell (p := ⟨g, o + k, none⟩) hg).trans hc
      obtain ⟨x, hxe⟩ : ∃ x, xs[k] = x := ⟨_, rfl⟩
      rw [hxe] at hs hx
      have HXX : Hid (wrap64 ((IntKind.u64.wrap z).tmod 50) = (x : Int)) := Lib.hid hx
      have hx9 : Hid (x + 1 < 10 ^ 9) := Lib.hid (by omega)
      have hw1 : Hid (wrap64 (1 + (x : Int)) = ((x + 1 : Nat) : Int)) := Lib.hid (by unfold wrap64; omega)
      have hup : (xs.take (k + 1)).map numV = (xs.take k).map numV ++ [numV x] := by
        rw [← List.take_append_getElem hkl, List.map_append, hxe]; rfl
      have HU := Lib.hid hup
      clear hup hxe hs hx hc hg hh hkl
      go_wp2_with fail
      simp only [HXX.out, hw1.out]
      refine (Digits_c 9 (x + 1) _ hx9.out (by decide) (by decide)).mono ?_
      rintro e w2 ⟨rfl, b2⟩
      have hvx : decF 9 (x + 1) = numV x := rfl
      rw [hvx]
      have HB2 := Lib.hid (HB.out.trans (b2.mono HB.out.size))
      have R2 := Lib.hid (HROW.out.below b2)
      have R5 := Lib.hid (R2.out.below ((Below.refl _ _).alloc (Nat.le_refl _) (.cells #[.string (tx (numV x))] 9)))
      have HCS := Lib.hid R5.out.2
      have HNEWS := Lib.hid (cells_one_new w2 (.string (tx (numV x))) 9)
      have hws := HB2.out.size
      clear hvx b2 hc'
      go_wp2_with (at_builtin; go_must (refine wpList_append_own_at _ rfl _ _ 22 rfl w.heap.size 9 i0 _ 1 16 Tryd.underlying22 hi hz0 hz1 hz2 rfl (by decide) _ k (List.map (fun x => .string (tx x)) ((xs.take k).map numV)) rfl HCS.out ⟨w2.heap.size, 0, none⟩ 1 1 [.string (tx (numV x))] rfl rfl HNEWS.out (str_one [numV x]) (by unfold maxLen; omega) (by omega) (by simp; omega) ?_); intro v' w5 hown5 hgrow5 _ _; obtain ⟨A', c', rfl⟩ := own_form hown5)
      have HN2 : Hid (StrO w.heap.size w5 A' (k + 1) c' ((xs.take (k + 1)).map numV) ∧ Below w.heap.size w w5) := Lib.hid ⟨⟨by rw [HU.out, List.length_append, ← R5.out.1]; rfl, by rw [HU.out, List.map_append]; exact hown5⟩, (HB2.out.alloc hws _).grown hgrow5 (by simp; omega) (fun k hk => (HCS.out.lt k hk).1)⟩
      clear hown5 hgrow5
      go_roundw
      case rel => exact ⟨k + 1, A', c', by omega, by omega, rfl, by go_num, HN2⟩
      case measure => simp [intOf]; omega
    · have hcase : k = n ∨ (k < n ∧ k = 20) := by omega
      clear hgo
      have HKX : Hid (k = xs.length) := Lib.hid (by have := HX.out.1; omega)
      go_upto_region 3 with fail
      go_cut [25] from 18 to 39 (fun v wx => v = .bool false ∧ wr = wx)
      case first =>
        rcases hcase with rfl | ⟨q1, rfl⟩
        all_goals
          go_wp2_with fail
          go_meet
          exact ⟨rfl, rfl⟩
      case rest =>
      obtain ⟨rfl, rfl⟩ := hcut
      clear hcase
      obtain ⟨l, hl⟩ : ∃ l, xs.map numV = l := ⟨_, rfl⟩
      have HROW : Hid (StrO w.heap.size wr Ao k co l) := Lib.hid (by
        have := hh.out.1
        rw [List.take_of_length_le (by have := HKX.out; omega), hl] at this
        exact this)
      have HB := Lib.hid hh.out.2
      have HNUM : Hid (∀ x ∈ l, ∃ v, v < 10 ^ 9 ∧ x = decF 9 v) := Lib.hid (by
        intro x hx
        rw [← hl] at hx
        obtain ⟨y, hy, rfl⟩ := List.mem_map.1 hx
        obtain ⟨j, hj, rfl⟩ := List.mem_iff_getElem.1 hy
        exact ⟨_, by have := (HX.out.2 j hj).1; omega, rfl⟩)
      have HLEN : Hid (∀ x ∈ l, x.length ≤ 1000) := Lib.hid (by
        intro x hx
        obtain ⟨v, _, rfl⟩ := HNUM.out x hx
        have := decF_le 9 v
        omega)
      have HPL := Lib.hid (parse_low (xl + 1) hl3.out)
      have hdl := decF_le 9 (xl + 1)
      obtain ⟨X, hXe⟩ : ∃ X, decF 9 (xl + 1) = X := ⟨_, rfl⟩
      obtain ⟨W1, hW1⟩ : ∃ W1, (91 :: X : List UInt8) = W1 := ⟨_, rfl⟩
      obtain ⟨W2, hW2⟩ : ∃ W2, W1 ++ [44, 41] = W2 := ⟨_, rfl⟩
      have eW : 91 :: (X ++ [44]) ++ [41] = W2 := by rw [← hW2, ← hW1]; simp
      have HPL2 : Hid (isR W2 = true ∧ parseL W2 = some [⟨X, [], true, false⟩]) := Lib.hid (by rw [← eW, ← hXe]; exact HPL.out)
      have HXE := Lib.hid hXe
      rw [hXe] at hdl
      have s1 : (tx X).size ≤ 9 := by rw [tx_size]; exact hdl
      have s2 : (tx W1).size ≤ 10 := by rw [tx_size, ← hW1]; simp; omega
      have s3 : (tx W2).size ≤ 1000 := by rw [tx_size, ← hW2, ← hW1]; simp; omega
      have c1 : ⟨#[91]⟩ ++ tx X = tx W1 := by rw [← hW1]; exact txA [91] X
      have c2 : tx W1 ++ ⟨#[44, 41]⟩ = tx W2 := by rw [← hW2]; exact txA W1 [44, 41]
      obtain ⟨⟨a, ka⟩, hpa⟩ : ∃ t, pickV l W2 = t := ⟨_, rfl⟩
      have HPA : Hid (pickV l (bs (tx W2)) = (a, ka)) := Lib.hid (by rw [bs_tx]; exact hpa)
      obtain ⟨M, hM⟩ : ∃ M, decF 9 (xm + 1) = M := ⟨_, rfl⟩
      have HME := Lib.hid hM
      have hMl : M.length ≤ 9 := by rw [← hM]; exact decF_le 9 _
      have HML : Hid (∀ x ∈ l ++ [M], x.length ≤ 1000) := Lib.hid (by
        intro x hx
        rcases List.mem_append.1 hx with hx | hx
        · exact HLEN.out x hx
        · rw [List.mem_singleton.1 hx]; omega)
      obtain ⟨⟨b, kb⟩, hpb⟩ : ∃ t, pickV (l ++ [M]) W2 = t := ⟨_, rfl⟩
      have HPB : Hid (pickV (l ++ [M]) (bs (tx W2)) = (b, kb)) := Lib.hid (by rw [bs_tx]; exact hpb)
      have hka : ka = 0 ∨ ka = 13 := pick_kind HPL2.out.1 HPL2.out.2 hpa
      have hkb : kb = 0 ∨ kb = 13 := pick_kind HPL2.out.1 HPL2.out.2 hpb
      have HKA := Lib.hid hpa
      have HKB := Lib.hid hpb
      clear hh hl hXe hW1 hW2 eW hdl hpa hpb hM hMl
      go_wp2_with fail
      simp only [HL1.out, hwl.out]
      refine (Digits_c 9 (xl + 1) _ hl3.out (by decide) (by decide)).mono ?_
      rw [HXE.out]
      rintro e w1 ⟨rfl, b1⟩
      have B1 := Lib.hid (HB.out.trans (b1.mono HB.out.size))
      have R1 := Lib.hid (HROW.out.below b1)
      clear b1 HB HROW
      go_wp2_with fail
      refine (Pick_c Ao k co l (tx W2) _ _ (Nat.le_refl _) R1.out.r (by omega) HLEN.out s3 a ka HPA.out).mono ?_
      rintro e w2 ⟨rfl, b2⟩
      have B2 := Lib.hid (B1.out.trans (b2.out.mono B1.out.size))
      have R2 := Lib.hid (R1.out.below b2.out)
      clear b2 B1 R1
      obtain ⟨A6, c6, w6, hap6, hO6, hb6⟩ := str_app (StrO.nil w2.heap.size w2) (Nat.le_refl _) R2.out.r R2.out.form (by omega) (by omega)
      rw [Nat.zero_add, List.nil_append] at hO6
      rw [Nat.zero_add] at hap6
      have HR6 := Lib.hid hap6
      have HO6 := Lib.hid hO6
      have B6 := Lib.hid (B2.out.trans (hb6.mono B2.out.size))
      have R6 := Lib.hid (R2.out.below hb6)
      have h26 := hb6.size
      have HC6 := Lib.hid hb6
      clear hap6 hO6 hb6
      go_wp2_with (at_builtin; go_must (refine wpl_append rfl _ _ _ rfl _ _ _ rfl rfl HR6.out ?_))
      simp only [HM1.out, hwm.out]
      refine (Digits_c 9 (xm + 1) _ hm3.out (by decide) (by decide)).mono ?_
      rw [HME.out]
      rintro e w7 ⟨rfl, b7⟩
      have B7 := Lib.hid (B6.out.trans (b7.mono B6.out.size))
      have R7 := Lib.hid (R6.out.below b7)
      have hO7 := HO6.out.below b7
      have h67 := b7.size
      obtain ⟨A8, c8, w8, hap8, hO8, hb8⟩ := str_app (W := w7.alloc (.cells #[.string (tx M)] 9)) (hO7.below ((Below.refl _ _).alloc (Nat.le_refl _) (.cells #[.string (tx M)] 9))) (by simp; omega) (StrR.blk (l := [M]) (Blk.new w7 9 #[.string (tx M)]) (Blk.new w7 9 #[.string (tx M)]).lt rfl) (fun e => by cases e) (by omega) (by simp) (c1 := 1)
      have HR8 := Lib.hid hap8
      have HO8 := Lib.hid hO8
      have C8 : Below w2.heap.size w2 w8 := ((HC6.out.trans (b7.mono h26)).alloc (by omega) _).trans hb8
      have B8 := Lib.hid (B2.out.trans (C8.mono B2.out.size))
      have V8 := Lib.hid (R2.out.r.below C8)
      have h28 := C8.size
      clear hap8 hO8 hb8 C8 b7 hO7 B7 R7 B6 R6 HO6
      go_wp2_with (at_builtin; go_must (refine wpl_append rfl _ _ _ rfl _ _ _ rfl rfl HR8.out ?_))
      refine (Pick_c A8 (k + 1) c8 (l ++ [M]) (tx W2) _ _ (Nat.le_refl _) HO8.out.r (by omega) HML.out s3 b kb HPB.out).mono ?_
      rintro e w9 ⟨rfl, b9⟩
      have B9 := Lib.hid (B8.out.trans (b9.out.mono B8.out.size))
      have V9 := Lib.hid (V8.out.below (b9.out.mono h28))
      have h29 : w2.heap.size ≤ w9.heap.size := Nat.le_trans h28 b9.out.size
      clear b9 B8 V8 HO8
      go_wp2_with fail
      refine (awake8_c _).mono ?_
      rintro e w10 ⟨rfl, b10⟩
      have B10 := Lib.hid (B9.out.trans (b10.out.mono B9.out.size))
      have V10 := Lib.hid ((V9.out.below (b10.out.mono h29)).mono (Nat.le_trans h29 b10.out.size))
      clear b10 B9 V9 B2 R2 h26 h67 h28 h29
      rcases hka with rfl | rfl
      · obtain ⟨b0, hb0, hge⟩ := more_b (m := M) HPL2.out.1 HKA.out
        have he0 := HKB.out.symm.trans hb0
        injection he0 with he1 he2
        subst he1 he2
        obtain ⟨r1, _, ha1, _, _⟩ := pick_held HKA.out HPL2.out.1
        obtain ⟨r2, _, hb1, _, _⟩ := pick_held HKB.out HPL2.out.1
        have za : (tx a).size ≤ 3000 := by rw [tx_size]; have := HLEN.out a ha1; omega
        have zb : (tx b).size ≤ 3000 := by rw [tx_size]; have := HML.out b hb1; omega
        obtain ⟨q, hq⟩ : ∃ q, cmpV (bs (tx b)) (bs (tx a)) = q := ⟨_, rfl⟩
        have hq0 : 0 ≤ q := by rw [bs_tx, bs_tx] at hq; omega
        have HQ := Lib.hid hq
        clear hb0 hge ha1 hb1 hq hkb
        have htl : ∀ l, (tx l).toList = l := fun l => by rw [toList_bs]; rfl
        go_wp2_with fail
        go_loopw [14, 15] (fun rv iv wq => ∃ (j : Nat) (Ar : Option Addr) (nr cr : Nat), j ≤ k ∧ nr ≤ j ∧ rv = .slice Ar nr cr ∧ iv = .int .i64 j ∧ Hid (StrO w10.heap.size wq Ar nr cr ((l.take j).filter (fun x => !(x == a))) ∧ Below w10.heap.size w10 wq)) (fun _ iv _ => k - (intOf iv).toNat)
        case atStart => exact ⟨0, none, 0, 0, by omega, by omega, rfl, rfl, Lib.hid ⟨StrO.nil _ _, Below.refl _ _⟩⟩
        case round =>
          obtain ⟨j, Ar, nr, cr, hjk, hnr, rfl, rfl, hh⟩ := hrel
          by_cases hj : j < k
          · have hjl : j < l.length := by have := V10.out.1; omega
            obtain ⟨g, o, rfl, hg, hc⟩ := V10.out.2 j hjl
            obtain ⟨x, hxe⟩ : ∃ x, l[j] = x := ⟨_, rfl⟩
            rw [hxe] at hc
            have HB2 := Lib.hid hh.out.2
            have HRW := Lib.hid hh.out.1
            have hc' : wr.cell? ⟨g, o + j, none⟩ = some (.string (tx x)) := (HB2.out.cell (p := ⟨g, o + j, none⟩) hg).trans hc
            obtain ⟨d, hd⟩ : ∃ d, (x == a) = d := ⟨_, rfl⟩
            have hd2 : (x != a) = !d := by rw [bne, hd]
            have hst := filter_step (fun x => !(x == a)) hjl
            rw [hxe, hd] at hst
            have HST := Lib.hid hst
            clear hst hxe hc hh hjl
            cases d with
            | true =>
              have HN2 : Hid (StrO w10.heap.size wr Ar nr cr ((l.take (j + 1)).filter (fun x => !(x == a))) ∧ Below w10.heap.size w10 wr) := Lib.hid ⟨by rw [HST.out]; simpa using HRW.out, HB2.out⟩
              go_wp2_with fail
              go_roundw
              case rel => exact ⟨j + 1, Ar, nr, cr, by omega, by omega, rfl, by go_num, HN2⟩
              case measure => simp [intOf]; omega
            | false =>
              have R5 := Lib.hid (HRW.out.below ((Below.refl _ _).alloc (Nat.le_refl _) (.cells #[.string (tx x)] 9)))
              have HCS := Lib.hid R5.out.2
              have HNEWS := Lib.hid (cells_one_new wr (.string (tx x)) 9)
              have hws := HB2.out.size
              go_wp2_with (at_builtin; go_must (refine wpList_append_own_at _ rfl _ _ 22 rfl w10.heap.size 9 i0 _ 1 16 Tryd.underlying22 hi hz0 hz1 hz2 rfl (by decide) _ nr (List.map (fun x => .string (tx x)) ((l.take j).filter (fun x => !(x == a)))) rfl HCS.out ⟨wr.heap.size, 0, none⟩ 1 1 [.string (tx x)] rfl rfl HNEWS.out (str_one [x]) (by unfold maxLen; omega) (by omega) (by simp; omega) ?_); intro v' w5 hown5 hgrow5 _ _; obtain ⟨A', c', rfl⟩ := own_form hown5)
              have HN2 : Hid (StrO w10.heap.size w5 A' (nr + 1) c' ((l.take (j + 1)).filter (fun x => !(x == a))) ∧ Below w10.heap.size w10 w5) := Lib.hid (by
                have e : (l.take (j + 1)).filter (fun x => !(x == a)) = (l.take j).filter (fun x => !(x == a)) ++ [x] := by rw [HST.out]; simp
                rw [e]
                exact ⟨⟨by rw [List.length_append, ← R5.out.1]; rfl, by rw [List.map_append]; exact hown5⟩, (HB2.out.alloc hws _).grown hgrow5 (by simp; omega) (fun k hk => (HCS.out.lt k hk).1)⟩)
              clear hown5 hgrow5
              go_roundw
              case rel => exact ⟨j + 1, A', nr + 1, c', by omega, by omega, rfl, by go_num, HN2⟩
              case measure => simp [intOf]; omega
          · obtain rfl : j = k := by omega
            obtain ⟨L, hL⟩ : ∃ L, l.filter (fun x => !(x == a)) = L := ⟨_, rfl⟩
            have HRW : Hid (StrO w10.heap.size wr Ar nr cr L) := Lib.hid (by
              have := hh.out.1
              rw [List.take_of_length_le (by have := V10.out.1; omega), hL] at this
              exact this)
            have HB2 := Lib.hid (B10.out.trans (hh.out.2.mono B10.out.size))
            have HLL : Hid (∀ x ∈ L, x.length ≤ 1000) := Lib.hid fun x hx => HLEN.out x (by rw [← hL] at hx; exact (List.mem_filter.1 hx).1)
            obtain ⟨⟨cc, g⟩, hpc⟩ : ∃ t, pickV L W2 = t := ⟨_, rfl⟩
            have HPC : Hid (pickV L (bs (tx W2)) = (cc, g)) := Lib.hid (by rw [bs_tx]; exact hpc)
            have hgc := rest_c (c := cc) (g := g) HPL2.out.1 HKA.out HNUM.out (by rw [hL]; exact hpc)
            have hcs : g = 0 → (tx cc).size ≤ 3000 := by
              rintro rfl
              obtain ⟨_, _, h2, _, _⟩ := pick_held hpc HPL2.out.1
              rw [tx_size]; have := HLL.out cc h2; omega
            clear hh hL hpc
            go_wp2_with fail
            refine (Pick_c Ar nr cr L (tx W2) _ _ (Nat.le_refl _) HRW.out.r (by omega) HLL.out s3 cc g HPC.out).mono ?_
            rintro e w11 ⟨rfl, b11⟩
            have B11 := Lib.hid (HB2.out.trans (b11.out.mono HB2.out.size))
            clear b11 HB2 HRW
            go_wp2_with fail
            refine (rCompare_c (tx b) (tx a) _ zb za q HQ.out).mono ?_
            rintro e w12 ⟨rfl, b12⟩
            have B12 := Lib.hid (B11.out.trans (b12.out.mono B11.out.size))
            clear b12 B11
            rcases hgc with rfl | ⟨rfl, hlt⟩
            · go_wp2_with fail
              go_ret
              exact ⟨rfl, B12.out⟩
            · have HC : Hid (cmpV (bs (tx cc)) (bs (tx a)) = -1) := Lib.hid (by rw [bs_tx, bs_tx]; exact hlt)
              have zc := hcs rfl
              clear hlt hcs
              go_wp2_with fail
              refine (rCompare_c (tx cc) (tx a) _ zc za (-1) HC.out).mono ?_
              rintro e w13 ⟨rfl, b13⟩
              have B13 := Lib.hid (B12.out.trans (b13.out.mono B12.out.size))
              go_wp2_with fail
              go_ret
              exact ⟨rfl, B13.out⟩
      · rcases hkb with rfl | rfl
        all_goals
          go_wp2_with fail
          refine (awake8_c _).mono ?_
          rintro e w11 ⟨rfl, b11⟩
          have B11 := Lib.hid (B10.out.trans (b11.out.mono B10.out.size))
          go_wp2_with fail
          go_ret
          exact ⟨rfl, B11.out⟩
end Go.Proofs.YtkphkcpckgdgaaaDoor
