/-
  The walk of OrderBehind.
-/
import Derived.Test.YtkknhkfpabcjoaaDoorOrAwake
import Derived.Test.YtkknhkfpabcjoaaDoorOrDots
import Derived.Test.YtkknhkfpabcjoaaDoorGnRow
namespace Nwl
open Go
theorem sep46 : sep8 46 = true := by decide
theorem tw_app (p : UInt8 → Bool) : ∀ (l T : List UInt8), p 46 = false → (l ++ 46 :: T).takeWhile p = l.takeWhile p
  | [], T, h => by simp [h]
  | c :: l, T, h => by
    rw [List.cons_append, List.takeWhile_cons, List.takeWhile_cons, tw_app p l T h]
theorem partN_app (h : UInt8) (l T : List UInt8) : partN ((h :: l) ++ 46 :: T) = partN (h :: l) := by
  unfold partN
  rw [show ((h :: l) ++ 46 :: T).headD 0 = h from rfl, show (h :: l).headD 0 = h from rfl]
  rw [tw_app (partQ h) (h :: l) T (by unfold partQ; rw [sep46]; rfl)]
/-- a dot parts -/
theorem parts_dot : ∀ (n : Nat) (l T : List UInt8) (d : Bool), l.length ≤ n → partsD d (l ++ 46 :: T) = partsD d l ++ partsD false T
  | n, [], T, d, _ => by
    have h0 : partN (46 :: T) = 0 := partN_zero sep46
    rw [List.nil_append, partsD_step (by rw [h0]; simp), h0, partsD_end (l := []) (by simp)]
    rfl
  | 0, _ :: _, _, _, h => by simp at h
  | n + 1, h :: l, T, d, hn => by
    have hp := partN_app h l T
    have hle := partN_le (h :: l)
    have hd : ((h :: l) ++ 46 :: T).drop (partN ((h :: l) ++ 46 :: T)) = (h :: l).drop (partN (h :: l)) ++ 46 :: T := by
      rw [hp, List.drop_append_of_le_length hle]
    have ht : ((h :: l) ++ 46 :: T).take (partN ((h :: l) ++ 46 :: T)) = (h :: l).take (partN (h :: l)) := by
      rw [hp, List.take_append_of_le_length hle]
    rw [partsD_step (by rw [hd]; simp), hd, ht]
    cases hr : (h :: l).drop (partN (h :: l)) with
    | nil =>
      rw [partsD_end hr]
      rfl
    | cons c r =>
      have hne : (h :: l).drop (partN (h :: l)) ≠ [] := by rw [hr]; simp
      rw [partsD_step hne, hr]
      have hlt := next_lt hne
      rw [hr] at hlt
      have e1 : nextL ((c :: r) ++ 46 :: T) = nextL (c :: r) ++ 46 :: T := by
        show (if sep8 c then r ++ 46 :: T else c :: (r ++ 46 :: T)) = (if sep8 c then r else c :: r) ++ 46 :: T
        split <;> rfl
      have e2 : digHd ((c :: r) ++ 46 :: T) = digHd (c :: r) := rfl
      have e3 : dashL ((c :: r) ++ 46 :: T) = dashL (c :: r) := rfl
      rw [e1, e2, e3, parts_dot n (nextL (c :: r)) T (dashL (c :: r)) (by simp at hlt hn ⊢; omega)]
      rfl
theorem words_dot (s T : List UInt8) : splitW (s ++ 46 :: T) = cleanW ((partsL (lowerL s)).map wordP ++ (partsD false (lowerL T)).map wordP) := by
  unfold splitW wordsL partsL
  rw [lowerL_app]
  show cleanW ((partsD false (lowerL s ++ 46 :: lowerL T)).map wordP) = _
  rw [parts_dot _ (lowerL s) (lowerL T) false (Nat.le_refl _), List.map_append]
theorem nought_behind (s : List UInt8) : cmpV s (s ++ [46, 48]) = 0 := by
  have h : splitW (s ++ [46, 48]) = splitW s := by
    rw [words_dot s [48]]
    show cleanW ((partsL (lowerL s)).map wordP ++ [⟨6, []⟩]) = splitW s
    rw [clean_app [⟨6, []⟩] (by intro w hw; simp at hw; subst hw; rfl)]
    rfl
  unfold cmpV spZ
  rw [h]
  exact ord_words.refl _
theorem wn_rest (l : List Wd) : ∃ ns, l = wn l ++ ns ∧ ∀ x ∈ ns, noN x = true := by
  refine ⟨(l.reverse.takeWhile noN).reverse, ?_, fun x hx => ?_⟩
  · unfold wn
    rw [← List.reverse_append, List.takeWhile_append_dropWhile, List.reverse_reverse]
  · rw [List.mem_reverse] at hx
    exact List.all_eq_true.1 List.all_takeWhile x hx
theorem one_behind (s : List UInt8) : cmpV (s ++ [46, 49]) s = 1 := by
  have h := words_dot s [49]
  have e : (partsD false (lowerL [49])).map wordP = [⟨10, [49]⟩] := by decide
  rw [e] at h
  obtain ⟨W, hW⟩ : ∃ W, (partsL (lowerL s)).map wordP = W := ⟨_, rfl⟩
  rw [hW] at h
  have hc : splitW s = cleanW W := by rw [← hW]; rfl
  have k1 := wn_clean W []
  have k2 := wn_clean (W ++ [⟨10, [49]⟩]) []
  have z : ∀ b : Bool, (if b then ([] : List Wd) else wn []) = [] := fun b => by cases b <;> rfl
  rw [z, List.nil_append] at k1 k2
  rw [List.foldl_append] at k2
  obtain ⟨F, hF⟩ : ∃ F, W.foldl stepW [] = F := ⟨_, rfl⟩
  rw [hF] at k1 k2
  have k3 : [(⟨10, [49]⟩ : Wd)].foldl stepW F = F ++ [⟨10, [49]⟩] := rfl
  rw [k3, wn_yes _ _ rfl] at k2
  obtain ⟨ns, e1, e2⟩ := wn_rest F
  unfold cmpV spZ
  rw [h, hc, ← k1, ← k2]
  conv => lhs; arg 1; rw [e1]
  rw [List.map_append, List.map_append, List.append_assoc]
  have := wordsC_pre ((wn F).map Wz.of) (ns.map Wz.of ++ [Wz.of ⟨10, [49]⟩]) []
  rw [List.append_nil] at this
  refine this.trans ?_
  have g : ∀ l : List Wd, (∀ x ∈ l, noN x = true) → wordsC (l.map Wz.of ++ [Wz.of ⟨10, [49]⟩]) [] = 1 := by
    intro l
    induction l with
    | nil => intro _; decide
    | cons x l ih =>
      intro hl
      rw [List.map_cons, List.cons_append, wordsC_step]
      show thenI (cmpZ (Wz.of x) nZ) (wordsC (l.map Wz.of ++ [Wz.of ⟨10, [49]⟩]) []) = 1
      rw [cmpZ_six _ _ (noN_six (hl x List.mem_cons_self)), ord_z.refl, ih fun y hy => hl y (List.mem_cons_of_mem _ hy)]
      rfl
  exact g ns e2
theorem two_cmp (p : List Nat) (a b c : Nat) (hp : ∀ x ∈ p, x < 10 ^ 9) (ha : a < 10 ^ 9) (hb : b < 10 ^ 9) (hc : c < 10 ^ 9) : cmpV (dotL (p ++ [a, b])) (dotL (p ++ [a, c])) = Lib.compareInt b c := by
  have hm : ∀ y, y < 10 ^ 9 → ∀ x ∈ p ++ [a, y], x < 10 ^ 9 := by
    intro y hy x hx
    rcases List.mem_append.1 hx with hx | hx
    · exact hp x hx
    · simp at hx
      rcases hx with rfl | rfl
      · exact ha
      · exact hy
  rw [dots_cmp _ _ (by simp) (by simp) (hm b hb) (hm c hc), List.map_append, List.map_append, wordsC_pre]
  show wordsC ([a, b].map numZ) ([a, c].map numZ) = _
  rw [nums_step [a, b] [a, c] (by intro x hx; exact hm b hb x (List.mem_append_right _ hx)) (by intro x hx; exact hm c hc x (List.mem_append_right _ hx))]
  show thenI (Lib.compareInt a a) (wordsC ([b].map numZ) ([c].map numZ)) = _
  rw [ci_eq rfl, thenI_zero, nums_step [b] [c] (by intro x hx; simp at hx; subst hx; exact hb) (by intro x hx; simp at hx; subst hx; exact hc)]
  show thenI (Lib.compareInt b c) 0 = _
  unfold thenI
  split
  · rename_i h; exact h.symm
  · rfl
end Nwl
namespace Go.Proofs.YtkknhkfpabcjoaaDoor
open Nwl
open Go.RowKit Go.Maps
set_option linter.unusedVariables false

set_option maxRecDepth 100000 in
theorem behind1_c (a : Int) (x : Nat) (w : World) (h : Hid (wrap64 ((IntKind.u64.wrap a).tmod 300) = x)) (hx : x < 10 ^ 9) (X : List UInt8) (hX : decF 9 x = X) :
    Calls Tryd.prog 25 #[.int .i64 a] w fun e w' => e = .returned (.string (tx X)) ∧ Hid (Below w.heap.size w w') := by
  have HX := Lib.hid hX
  have hx' := Lib.hid hx
  clear hX hx
  go_enter Tryd.func25, Tryd.ntmps25
  go_wp2_with fail
  simp only [h.out]
  refine (Digits_c 9 x _ hx'.out (by decide) (by decide)).mono ?_
  rw [HX.out]
  rintro e w1 ⟨rfl, b1⟩
  go_wp2_with fail
  go_ret
  exact ⟨rfl, b1⟩
theorem idxU (a n : Int) (h0 : 0 < n) (h1 : n ≤ 2147483648) : ∃ x : Nat, (IntKind.u64.wrap a).tmod n = (x : Int) ∧ wrap64 ((IntKind.u64.wrap a).tmod n) = (x : Int) ∧ (x : Int) < n := by
  have hu : 0 ≤ IntKind.u64.wrap a := by rw [IntKind.wrap_u64]; omega
  have h2 : (IntKind.u64.wrap a).tmod n = (IntKind.u64.wrap a) % n := Int.tmod_eq_emod_of_nonneg hu
  have h3 := Int.emod_nonneg (IntKind.u64.wrap a) (show n ≠ 0 by omega)
  have h4 := Int.emod_lt_of_pos (IntKind.u64.wrap a) h0
  rw [h2]
  generalize IntKind.u64.wrap a % n = x at *
  have h5 : wrap64 x = x := by unfold wrap64; omega
  rw [h5]
  exact ⟨x.toNat, by omega, by omega, by omega⟩

set_option maxRecDepth 100000 in
set_option maxHeartbeats 4000000 in
theorem OrderBehind_walk (a b c : Int) (s : ByteArray) (w : World) (ha : (Lit.int .i64 a).wf = true) (hb : (Lit.int .i64 b).wf = true) (hc : (Lit.int .i64 c).wf = true) (hs : s.size ≤ maxLen) (hg : Glob w) :
    Calls Tryd.prog 8 #[.int .i64 a, .int .i64 b, .int .i64 c, .string s] w fun e w' => e = .returned (.bool true) ∧ Below w.heap.size w w' := by
  clear hg ha hb hc
  by_cases hbig : 40 < s.size
  · go_enter Tryd.func8, Tryd.ntmps8
    go_wp2_with (go_at_call 11; refine (awake6_c _).mono ?_; rintro e w1 ⟨rfl, hb1⟩)
    go_ret
    exact ⟨rfl, hb1.out⟩
  · obtain ⟨x, _, hx, hx1⟩ := idxU a 300 (by decide) (by decide)
    obtain ⟨y, hy, hy0, hy1⟩ := idxU b 300 (by decide) (by decide)
    obtain ⟨z, hz, hz0, hz1⟩ := idxU c 300 (by decide) (by decide)
    have HX := Lib.hid hx
    have HY := Lib.hid hy0
    have HZ := Lib.hid hz0
    have HUY := Lib.hid hy
    have HUZ := Lib.hid hz
    have hs40 : s.size ≤ 40 := by omega
    clear hx hy0 hz0 hy hz hbig hs
    have hx9 : Hid (x < 10 ^ 9 ∧ y < 10 ^ 9 ∧ z < 10 ^ 9) := Lib.hid ⟨by omega, by omega, by omega⟩
    obtain ⟨X, hX⟩ : ∃ X, decF 9 x = X := ⟨_, rfl⟩
    obtain ⟨Y, hY⟩ : ∃ Y, decF 9 y = Y := ⟨_, rfl⟩
    obtain ⟨Z, hZ⟩ : ∃ Z, decF 9 z = Z := ⟨_, rfl⟩
    obtain ⟨P1, hP1⟩ : ∃ P, X ++ [46] = P := ⟨_, rfl⟩
    obtain ⟨U, hU⟩ : ∃ P, P1 ++ Y = P := ⟨_, rfl⟩
    obtain ⟨V, hV⟩ : ∃ P, P1 ++ Z = P := ⟨_, rfl⟩
    obtain ⟨U7, hU7⟩ : ∃ P, [55, 46] ++ U = P := ⟨_, rfl⟩
    obtain ⟨V7, hV7⟩ : ∃ P, [55, 46] ++ V = P := ⟨_, rfl⟩
    obtain ⟨S0, hS0⟩ : ∃ P, bs s ++ [46, 48] = P := ⟨_, rfl⟩
    obtain ⟨S1, hS1⟩ : ∃ P, bs s ++ [46, 49] = P := ⟨_, rfl⟩
    have lX : X.length ≤ 9 := by rw [← hX]; exact decF_le 9 _
    have lY : Y.length ≤ 9 := by rw [← hY]; exact decF_le 9 _
    have lZ : Z.length ≤ 9 := by rw [← hZ]; exact decF_le 9 _
    have eU : dotL ([] ++ [x, y]) = U := by rw [← hU, ← hP1, ← hX, ← hY]; show decF 9 x ++ 46 :: decF 9 y = _; simp
    have eV : dotL ([] ++ [x, z]) = V := by rw [← hV, ← hP1, ← hX, ← hZ]; show decF 9 x ++ 46 :: decF 9 z = _; simp
    have eU7 : dotL ([7] ++ [x, y]) = U7 := by rw [← hU7, ← eU]; rfl
    have eV7 : dotL ([7] ++ [x, z]) = V7 := by rw [← hV7, ← eV]; rfl
    obtain ⟨F, hF⟩ : ∃ F, Lib.compareInt (y : Int) (z : Int) = F := ⟨_, rfl⟩
    have C0 : Hid (cmpV (bs (tx U)) (bs (tx V)) = F) := Lib.hid (by rw [bs_tx, bs_tx, ← eU, ← eV, two_cmp [] x y z (by intro q hq; simp at hq) hx9.out.1 hx9.out.2.1 hx9.out.2.2, hF])
    have C1 : Hid (cmpV (bs (tx U7)) (bs (tx V7)) = F) := Lib.hid (by rw [bs_tx, bs_tx, ← eU7, ← eV7, two_cmp [7] x y z (by intro q hq; simp at hq; subst hq; decide) hx9.out.1 hx9.out.2.1 hx9.out.2.2, hF])
    have C2 : Hid (cmpV (bs s) (bs (tx S0)) = 0) := Lib.hid (by rw [bs_tx, ← hS0]; exact nought_behind _)
    have C3 : Hid (cmpV (bs (tx S1)) (bs s) = 1) := Lib.hid (by rw [bs_tx, ← hS1]; exact one_behind _)
    have sX : (tx X).size ≤ 9 := by rw [tx_size]; exact lX
    have sY : (tx Y).size ≤ 9 := by rw [tx_size]; exact lY
    have sZ : (tx Z).size ≤ 9 := by rw [tx_size]; exact lZ
    have sP : (tx P1).size ≤ 10 := by rw [tx_size, ← hP1]; simp; omega
    have sU : (tx U).size ≤ 19 := by rw [tx_size, ← hU, ← hP1]; simp; omega
    have sV : (tx V).size ≤ 19 := by rw [tx_size, ← hV, ← hP1]; simp; omega
    have K : Hid ((tx U).size ≤ 1000 ∧ (tx V).size ≤ 1000 ∧ (tx U7).size ≤ 1000 ∧ (tx V7).size ≤ 1000 ∧ s.size ≤ 1000 ∧ (tx S0).size ≤ 1000 ∧ (tx S1).size ≤ 1000) := Lib.hid (by
      refine ⟨by omega, by omega, ?_, ?_, by omega, ?_, ?_⟩
      · rw [tx_size, ← hU7, ← hU, ← hP1]; simp; omega
      · rw [tx_size, ← hV7, ← hV, ← hP1]; simp; omega
      · rw [tx_size, ← hS0, List.length_append, bs_length]; simp; omega
      · rw [tx_size, ← hS1, List.length_append, bs_length]; simp; omega)
    have c1 : tx X ++ ⟨#[46]⟩ = tx P1 := by rw [← hP1]; exact txA _ [46]
    have c2 : tx P1 ++ tx Y = tx U := by rw [txA, hU]
    have c3 : tx P1 ++ tx Z = tx V := by rw [txA, hV]
    have c4 : (⟨#[55, 46]⟩ : ByteArray) ++ tx U = tx U7 := by rw [← hU7]; exact txA [55, 46] U
    have c5 : (⟨#[55, 46]⟩ : ByteArray) ++ tx V = tx V7 := by rw [← hV7]; exact txA [55, 46] V
    have c6 : s ++ ⟨#[46, 48]⟩ = tx S0 := by rw [← hS0]; exact txA (bs s) [46, 48]
    have c7 : s ++ ⟨#[46, 49]⟩ = tx S1 := by rw [← hS1]; exact txA (bs s) [46, 49]
    have hF3 : y < z ∧ F = -1 ∨ y = z ∧ F = 0 ∨ z < y ∧ F = 1 := by
      rcases Nat.lt_trichotomy y z with h | h | h
      · exact .inl ⟨h, by rw [← hF]; exact ci_lt (by omega)⟩
      · exact .inr (.inl ⟨h, by rw [← hF]; exact ci_eq (by omega)⟩)
      · exact .inr (.inr ⟨h, by rw [← hF]; exact ci_gt (by omega)⟩)
    have KX := Lib.hid hX
    have KY := Lib.hid hY
    have KZ := Lib.hid hZ
    clear hX hY hZ hP1 hU hV hU7 hV7 hS0 hS1 lX lY lZ eU eV eU7 eV7 hF
    rcases hF3 with ⟨h1, rfl⟩ | ⟨h1, rfl⟩ | ⟨h1, rfl⟩
    all_goals
      go_enter Tryd.func8, Tryd.ntmps8
      go_wp2_with fail
      refine (behind1_c a x _ HX hx9.out.1 X KX.out).mono ?_
      rintro e w1 ⟨rfl, B1⟩
      go_wp2_with fail
      refine (behind1_c b y _ HY hx9.out.2.1 Y KY.out).mono ?_
      rintro e w2 ⟨rfl, b2⟩
      have B2 := Lib.hid (B1.out.trans (b2.out.mono B1.out.size))
      clear b2 B1
      go_wp2_with fail
      refine (behind1_c a x _ HX hx9.out.1 X KX.out).mono ?_
      rintro e w3 ⟨rfl, b3⟩
      have B3 := Lib.hid (B2.out.trans (b3.out.mono B2.out.size))
      clear b3 B2
      go_wp2_with fail
      refine (behind1_c c z _ HZ hx9.out.2.2 Z KZ.out).mono ?_
      rintro e w4 ⟨rfl, b4⟩
      have B4 := Lib.hid (B3.out.trans (b4.out.mono B3.out.size))
      clear b4 B3
      have hy := HUY.out
      have hz := HUZ.out
      go_wp2_with fail
      refine (awake6_c _).mono ?_
      rintro e w5 ⟨rfl, b5⟩
      have B5 := Lib.hid (B4.out.trans (b5.out.mono B4.out.size))
      clear b5 B4
      go_wp2_with fail
      refine (Compare_c (tx U) (tx V) _ K.out.1 K.out.2.1 _ C0.out).mono ?_
      rintro e w6 ⟨rfl, b6⟩
      have B6 := Lib.hid (B5.out.trans (b6.out.mono B5.out.size))
      clear b6 B5
      go_wp2_with fail
      refine (Compare_c (tx U7) (tx V7) _ K.out.2.2.1 K.out.2.2.2.1 _ C1.out).mono ?_
      rintro e w7 ⟨rfl, b7⟩
      have B7 := Lib.hid (B6.out.trans (b7.out.mono B6.out.size))
      clear b7 B6
      go_wp2_with fail
      refine (Compare_c s (tx S0) _ K.out.2.2.2.2.1 K.out.2.2.2.2.2.1 0 C2.out).mono ?_
      rintro e w8 ⟨rfl, b8⟩
      have B8 := Lib.hid (B7.out.trans (b8.out.mono B7.out.size))
      clear b8 B7
      go_wp2_with fail
      refine (Compare_c (tx S1) s _ K.out.2.2.2.2.2.2 K.out.2.2.2.2.1 1 C3.out).mono ?_
      rintro e w9 ⟨rfl, b9⟩
      have B9 := Lib.hid (B8.out.trans (b9.out.mono B8.out.size))
      clear b9 B8
      go_wp2_with fail
      go_ret
      exact ⟨rfl, B9.out⟩
end Go.Proofs.YtkknhkfpabcjoaaDoor
