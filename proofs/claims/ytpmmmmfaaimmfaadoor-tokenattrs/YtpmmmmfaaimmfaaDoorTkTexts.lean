/-
  The walk of TokenTexts.
-/
import Derived.Test.YtpmmmmfaaimmfaaDoorTkEsc
namespace Nwl
open Go
theorem three_take (F : List UInt8) (j : Nat) : bs ((tx F).extract j (j + 3)) = (F.drop j).take 3 := by
  rw [bs_extract, bs_tx]
  congr 1
  omega
theorem prefix_take (l : List UInt8) : [93, 93, 62].isPrefixOf l = (l.take 3 == [93, 93, 62]) := by
  match l with
  | [] => rfl
  | [a] => simp [List.isPrefixOf]
  | [a, b] => simp [List.isPrefixOf]
  | a :: b :: c :: l =>
    rw [Bool.eq_iff_iff]
    simp [List.isPrefixOf]
    constructor <;> (rintro ⟨h1, h2, h3⟩; exact ⟨h1.symm, h2.symm, h3.symm⟩)
theorem three_yes (F : List UInt8) (j : Nat) (h : [93, 93, 62].isPrefixOf (F.drop j) = true) : (((tx F).extract j (j + 3)).toList == [93, 93, 62]) = true := by
  rw [prefix_take, ← three_take] at h
  rw [ByteArray.toList_eq]
  exact h
theorem three_no (F : List UInt8) (j : Nat) (h : ¬ [93, 93, 62].isPrefixOf (F.drop j) = true) : (((tx F).extract j (j + 3)).toList == [93, 93, 62]) = false := by
  rw [prefix_take, ← three_take] at h
  rw [ByteArray.toList_eq]
  exact Bool.eq_false_iff.2 h
theorem tl_tx' (l : List UInt8) : (tx l).toList = l := by
  rw [ByteArray.toList_eq]; exact bs_tx l
theorem cut_at (c : UInt8) : ∀ (l r : List UInt8), c ∉ l → cutL [c] (l ++ c :: r) = some (l, r)
  | [], r, _ => by rw [List.nil_append, cutL_cons, if_pos rfl]
  | d :: l, r, h => by
    rw [List.cons_append, cutL_cons, if_neg (by intro e; exact h (by simp [e])), cut_at c l r (fun hm => h (List.mem_cons_of_mem _ hm))]
    rfl
theorem pre_no (c : UInt8) (r p : List UInt8) (d : UInt8) (h : c ≠ d) : Lib.hasPrefix (c :: r) (d :: p) = false := by
  unfold Lib.hasPrefix
  rw [List.isPrefixOf, beq_false_of_ne (Ne.symm h)]
  rfl
theorem pre_yes (c : UInt8) (r : List UInt8) : Lib.hasPrefix (c :: r) [c] = true := by
  unfold Lib.hasPrefix
  simp [List.isPrefixOf]
theorem not_contains {l : List UInt8} {c : UInt8} (h : c ∉ l) : l.contains c = false := by
  rw [List.contains_eq_mem]
  exact decide_eq_false h
theorem text_take : ∀ (E r : List UInt8), 60 ∉ E → (E ++ 60 :: r).takeWhile (· != 60) = E ∧ (E ++ 60 :: r).dropWhile (· != 60) = 60 :: r
  | [], r, _ => by simp
  | c :: E, r, h => by
    have hc : (c != 60) = true := by simp; intro e; exact h (by simp [e])
    have := text_take E r (fun hm => h (List.mem_cons_of_mem _ hm))
    simp only [List.cons_append, List.takeWhile_cons, List.dropWhile_cons, hc, if_true]
    rw [this.1]
    exact ⟨rfl, this.2⟩
theorem value_esc (s r : List UInt8) : valueL (34 :: (escL s ++ 34 :: r)) = some (s, r) := by
  unfold valueL
  simp only [true_or, if_true]
  rw [cut_at 34 (escL s) r (esc_34 s)]
  simp only []
  rw [not_contains (esc_60 s), ent_esc]
  rfl
theorem attr_b (s r : List UInt8) : attrL (98 :: 61 :: 34 :: (escL s ++ 34 :: r)) = some (([98], s), r) := by
  have hn : nameP (98 :: 61 :: 34 :: (escL s ++ 34 :: r)) = ([98], 61 :: 34 :: (escL s ++ 34 :: r)) := rfl
  have h1 : skipL (61 :: 34 :: (escL s ++ 34 :: r)) = 61 :: 34 :: (escL s ++ 34 :: r) := rfl
  have h2 : skipL (34 :: (escL s ++ 34 :: r)) = 34 :: (escL s ++ 34 :: r) := rfl
  unfold attrL
  rw [hn]
  simp only [h1, h2, value_esc]
  rfl
theorem open_a (s r : List UInt8) : openL (97 :: 32 :: 98 :: 61 :: 34 :: (escL s ++ 34 :: 62 :: r)) = some (⟨1, [97], [], [([98], s)], false⟩, r) := by
  have hn : nameP (97 :: 32 :: 98 :: 61 :: 34 :: (escL s ++ 34 :: 62 :: r)) = ([97], 32 :: 98 :: 61 :: 34 :: (escL s ++ 34 :: 62 :: r)) := rfl
  have h1 : skipL (32 :: 98 :: 61 :: 34 :: (escL s ++ 34 :: 62 :: r)) = 98 :: 61 :: 34 :: (escL s ++ 34 :: 62 :: r) := rfl
  have h2 : skipL (62 :: r) = 62 :: r := rfl
  unfold openL
  rw [hn]
  show (attrsL [] (32 :: 98 :: 61 :: 34 :: (escL s ++ 34 :: 62 :: r))).map _ = _
  have ha : attrsL [] (32 :: 98 :: 61 :: 34 :: (escL s ++ 34 :: 62 :: r)) = attrsL [([98], s)] (62 :: r) := by
    rw [attrsL_eq, h1, pre_no _ _ _ _ (by decide), pre_no _ _ _ _ (by decide), attr_b]
    rw [if_neg (by decide), if_neg (by decide), if_neg (by simp)]
    rfl
  rw [ha, attrsL_eq, h2, pre_yes]
  rfl
theorem tok_open (s r : List UInt8) (f : Bool) : tokL f (60 :: 97 :: 32 :: 98 :: 61 :: 34 :: (escL s ++ 34 :: 62 :: r)) = some (⟨1, [97], [], [([98], s)], false⟩, r) := by
  unfold tokL
  have p2 : ∀ (d : UInt8) (p : List UInt8), d ≠ 97 → Lib.hasPrefix (60 :: 97 :: 32 :: 98 :: 61 :: 34 :: (escL s ++ 34 :: 62 :: r)) (60 :: d :: p) = false := fun d p h => by
    unfold Lib.hasPrefix
    rw [List.isPrefixOf, List.isPrefixOf, beq_false_of_ne h]
    rfl
  rw [p2 33 _ (by decide), p2 33 _ (by decide), p2 63 _ (by decide), p2 47 _ (by decide), pre_yes]
  exact open_a s r
theorem tok_text (s r : List UInt8) (f : Bool) (hs : s ≠ []) : tokL f (escL s ++ 60 :: r) = some (⟨3, [], s, [], false⟩, 60 :: r) := by
  obtain ⟨c, e, he⟩ : ∃ c e, escL s = c :: e := by
    cases s with
    | nil => exact absurd rfl hs
    | cons c l =>
      have := (esc1_len c).1
      rw [escL]
      cases h : esc1 c with
      | nil => rw [h] at this; simp at this
      | cons d e => exact ⟨d, e ++ escL l, rfl⟩
  have hc : c ≠ 60 := fun h => esc_60 s (by rw [he, h]; simp)
  have ht := text_take (escL s) r (esc_60 s)
  unfold tokL
  have hp : ∀ p : List UInt8, Lib.hasPrefix (escL s ++ 60 :: r) (60 :: p) = false := fun p => by
    rw [he, List.cons_append]
    exact pre_no _ _ _ _ hc
  rw [hp, hp, hp, hp, hp]
  show textL (escL s ++ 60 :: r) = _
  unfold textL
  rw [ht.1, ht.2, ent_esc]
  rfl
theorem tok_close : tokL false [60, 47, 97, 62] = some (⟨2, [97], [], [], false⟩, []) := by decide +kernel
def textsL (s : List UInt8) : List UInt8 := 60 :: 97 :: 32 :: 98 :: 61 :: 34 :: (escL s ++ 34 :: 62 :: (escL s ++ [60, 47, 97, 62]))
theorem split_end : splitM false [60, 47, 97, 62] = some [⟨2, [97], [], [], false⟩] := by
  rw [splitM_step (by simp), tok_close]
  rfl
theorem texts_split (s : List UInt8) : splitL (textsL s) = some (⟨1, [97], [], [([98], s)], false⟩ :: ((if s = [] then [] else [⟨3, [], s, [], false⟩]) ++ [⟨2, [97], [], [], false⟩])) := by
  show splitM true (textsL s) = _
  unfold textsL
  rw [splitM_step (by simp), tok_open]
  simp only []
  by_cases hs : s = []
  · subst hs
    show (splitM false [60, 47, 97, 62]).map _ = _
    rw [split_end]
    rfl
  · rw [splitM_step (by simp), tok_text s [47, 97, 62] false hs]
    simp only []
    rw [split_end, if_neg hs]
    rfl
theorem allL_append (a b : List UInt8) : allL (a ++ b) = (allL a && allL b) := by unfold allL; rw [List.all_append]
theorem texts_all {s : List UInt8} (h : allL s = true) : allL (textsL s) = true := by
  have e : textsL s = [60, 97, 32, 98, 61, 34] ++ (escL s ++ ([34, 62] ++ (escL s ++ [60, 47, 97, 62]))) := by simp [textsL]
  rw [e, allL_append, allL_append, allL_append, allL_append, esc_all h]
  decide
theorem texts_len (s : List UInt8) (h : s.length ≤ 300) : (textsL s).length ≤ 3612 := by
  have := escL_len s
  have e : textsL s = [60, 97, 32, 98, 61, 34] ++ (escL s ++ ([34, 62] ++ (escL s ++ [60, 47, 97, 62]))) := by simp [textsL]
  rw [e]
  simp only [List.length_append, List.length_cons, List.length_nil]
  omega
theorem cutL_three (l : List UInt8) (b : UInt8) : cutL [93, 93, 62] (b :: l) = if [93, 93, 62].isPrefixOf (b :: l) then some ([], (b :: l).drop 3) else (cutL [93, 93, 62] l).map fun x => (b :: x.1, x.2) := by
  unfold cutL
  have hge := Lib.index_ge l [93, 93, 62]
  have hi : Lib.index (b :: l) [93, 93, 62] = if [93, 93, 62].isPrefixOf (b :: l) then 0 else if Lib.index l [93, 93, 62] = -1 then -1 else Lib.index l [93, 93, 62] + 1 := by
    rw [Lib.index]
    by_cases h : [93, 93, 62].isPrefixOf (b :: l) = true
    · rw [if_pos h, if_pos h]
    · rw [if_neg h, if_neg h]
      by_cases e2 : Lib.index l [93, 93, 62] = -1
      · rw [if_pos (by rw [beq_iff_eq]; exact e2), if_pos e2]
      · rw [if_neg (by rw [beq_iff_eq]; exact e2), if_neg e2]
  rw [hi]
  by_cases h : [93, 93, 62].isPrefixOf (b :: l) = true
  · rw [if_pos h, if_pos h]; simp
  · rw [if_neg h, if_neg h]
    by_cases e2 : Lib.index l [93, 93, 62] = -1
    · rw [if_pos e2, if_neg (by omega), if_neg (by omega)]; rfl
    · rw [if_neg e2, if_pos (by omega), if_pos (by omega)]
      have h1 : (Lib.index l [93, 93, 62] + 1).toNat = (Lib.index l [93, 93, 62]).toNat + 1 := by omega
      rw [h1]
      simp only [Option.map_some, List.take_succ_cons, List.length_cons, List.length_nil, Nat.add_right_comm _ 1, List.drop_succ_cons]
theorem cut_cdata : ∀ l : List UInt8, (∀ j, j < l.length → [93, 93, 62].isPrefixOf (l.drop j) = false) → cutL [93, 93, 62] (l ++ [93, 93, 62]) = some (l, [])
  | [], _ => by decide
  | c :: l, h => by
    rw [List.cons_append, cutL_three, cut_cdata l (fun j hj => h (j + 1) (by simp; omega))]
    have h0 := h 0 (by simp)
    rw [List.drop_zero] at h0
    rw [if_neg]
    · rfl
    · match l, h0 with
      | [], _ => simp [List.isPrefixOf]
      | [d], _ => simp [List.isPrefixOf]
      | d :: e :: l, h0 =>
        simp only [List.isPrefixOf, List.cons_append] at h0 ⊢
        rw [h0]; decide
def cdataL (s : List UInt8) : List UInt8 := [60, 33, 91, 67, 68, 65, 84, 65, 91] ++ (s ++ [93, 93, 62])
theorem cdata_split {s : List UInt8} (h : ∀ j, j < s.length → [93, 93, 62].isPrefixOf (s.drop j) = false) : splitL (cdataL s) = some [⟨3, [], s, [], false⟩] := by
  show splitM true (cdataL s) = _
  unfold cdataL
  rw [splitM_step (by simp)]
  have ht : tokL true ([60, 33, 91, 67, 68, 65, 84, 65, 91] ++ (s ++ [93, 93, 62])) = some (⟨3, [], s, [], false⟩, []) := by
    unfold tokL
    have p1 : Lib.hasPrefix ([60, 33, 91, 67, 68, 65, 84, 65, 91] ++ (s ++ [93, 93, 62])) [60, 33, 45, 45] = false := rfl
    have p2 : Lib.hasPrefix ([60, 33, 91, 67, 68, 65, 84, 65, 91] ++ (s ++ [93, 93, 62])) [60, 33, 91, 67, 68, 65, 84, 65, 91] = true := by
      unfold Lib.hasPrefix
      simp [List.isPrefixOf]
    have p3 : ([60, 33, 91, 67, 68, 65, 84, 65, 91] ++ (s ++ [93, 93, 62])).drop 9 = s ++ [93, 93, 62] := rfl
    rw [p1, p2, p3, cut_cdata s h]
    rfl
  rw [ht]
  rfl
theorem cdata_all {s : List UInt8} (h : allL s = true) : allL (cdataL s) = true := by
  unfold cdataL
  rw [allL_append, allL_append, h]
  decide
def filL (l : List UInt8) (k : Nat) : List UInt8 := (l.take k).filter fun c => allowedI c.toNat
theorem filL_len (l : List UInt8) (k : Nat) : (filL l k).length ≤ k := Nat.le_trans (List.length_filter_le _ _) (by rw [List.length_take]; omega)
theorem filL_all (l : List UInt8) (k : Nat) : allL (filL l k) = true := by
  unfold allL filL
  rw [List.all_eq_true]
  intro x hx
  exact (List.mem_filter.1 hx).2
theorem filL_yes (s : ByteArray) (k : Nat) (hk : k < s.size) (h : allowedI s[k].toNat = true) : filL (bs s) (k + 1) = filL (bs s) k ++ [s[k]] := by
  unfold filL
  rw [List.take_succ_eq_append_getElem (by rw [bs_length]; exact hk), List.filter_append]
  simp [bs_get s k hk, h]
theorem filL_no (s : ByteArray) (k : Nat) (hk : k < s.size) (h : allowedI s[k].toNat = false) : filL (bs s) (k + 1) = filL (bs s) k := by
  unfold filL
  rw [List.take_succ_eq_append_getElem (by rw [bs_length]; exact hk), List.filter_append]
  simp [bs_get s k hk, h]
end Nwl
namespace Go.Proofs.YtpmmmmfaaimmfaaDoor
open Nwl
open Go.RowKit Go.Maps
set_option linter.unusedVariables false

theorem cell_below {w : World} {a : Addr} {v : Value} (h : w.cell? a = some v) : a.block < w.heap.size := by
  apply Classical.byContradiction
  intro hn
  have : w.heap[a.block]? = none := Array.getElem?_eq_none (by omega)
  simp [World.cell?, this] at h

set_option maxRecDepth 100000 in
set_option maxHeartbeats 4000000 in
theorem TokenTexts_walk (s : ByteArray) (w : World) (hs : s.size ≤ maxLen) (hg : Glob w) :
    Calls Tryd.prog 3 #[.string s] w fun e w' => e = .returned (.bool true) ∧ Below w.heap.size w w' := by
  have HG := Lib.hid hg
  obtain ⟨i0, hi, hz0, hz1, hz2⟩ := info_parts info_b8
  unfold maxLen at hs
  clear hg
  go_enter Tryd.func3, Tryd.ntmps3
  go_wp2_with fail
  go_loopw [3, 4] (fun v i wr => ∃ k : Nat, k ≤ s.size ∧ k ≤ 300 ∧ i = .int .i64 k ∧ Hid (wr.ownsRow w.heap.size 5 1 v (filL (bs s) k).length (u8c (filL (bs s) k)) ∧ Below w.heap.size w wr)) (fun _ i _ => 300 - (intOf i).toNat)
  case atStart => exact ⟨0, Nat.zero_le _, by omega, rfl, World.ownsRow_nil _ _ _ _, Below.refl _ _⟩
  case round =>
    obtain ⟨k, hk, hk3, rfl, hh⟩ := hrel
    obtain ⟨hown, hbel⟩ := hh.out
    clear hh
    have hlen := filL_len (bs s) k
    have hbs := hbel.size
    by_cases hgo : k < s.size ∧ k < 300
    · obtain ⟨hlt, h300⟩ := hgo
      cases hc : allowedI s[k].toNat with
      | true =>
        have HF := Lib.hid (filL_yes s k hlt hc)
        go_wp2_with (first | (go_at_call 9; refine (refAllowed_c _ _).mono ?_; rintro e w2 ⟨rfl, rfl⟩) | (at_builtin; refine wpList_append_own _ rfl _ _ 22 rfl w.heap.size 5 i0 (.int .u8 0) 1 1 Tryd.underlying22 hi hz0 hz1 hz2 rfl (by decide) _ _ _ rfl (hown.alloc _) ⟨wr.heap.size, 0, none⟩ 1 1 [.int .u8 (s[k].toNat : Int)] rfl rfl (cell_one1 _ _ _) (fun u hu => by simp at hu; subst hu; rfl) (by unfold maxLen; omega) (by omega) (by simp; omega) ?_; intro v' w1 hown' hgrow _))
        have X : Hid (w1.ownsRow w.heap.size 5 1 v' (filL (bs s) (k + 1)).length (u8c (filL (bs s) (k + 1))) ∧ Below w.heap.size w w1) := Lib.hid (by rw [HF.out]; exact ⟨own_more rfl rfl hown', Below.grown (hbel.alloc (by omega) _) hgrow (by simp; omega) (fun j hj => (hown.lt _ hj).1)⟩)
        clear hown' hgrow
        go_roundw
        case rel => exact ⟨k + 1, by omega, by omega, by go_num, X.out⟩
        case measure => simp [intOf]; omega
      | false =>
        have HF := Lib.hid (filL_no s k hlt hc)
        go_wp2_with (go_at_call 9; refine (refAllowed_c _ _).mono ?_; rintro e w2 ⟨rfl, rfl⟩)
        have X : Hid (wr.ownsRow w.heap.size 5 1 u3 (filL (bs s) (k + 1)).length (u8c (filL (bs s) (k + 1))) ∧ Below w.heap.size w wr) := Lib.hid (by rw [HF.out]; exact ⟨hown, hbel⟩)
        go_roundw
        case rel => exact ⟨k + 1, by omega, by omega, by go_num, X.out⟩
        case measure => simp [intOf]; omega
    · have hback := own_str hown
      have HA := Lib.hid (filL_all (bs s) k)
      have HB := Lib.hid hbel
      have hF : (filL (bs s) k).length ≤ 300 := by omega
      clear hown hbel hlen
      generalize filL (bs s) k = F at *
      have hFs : (tx F).size = F.length := tx_size F
      have hk60 : k < s.size → ¬ k < 300 := fun h h2 => hgo ⟨h, h2⟩
      clear hgo
      have HLT := texts_len F hF
      have HSE : Hid (splitE (textsL F) = 0) := Lib.hid (splitE_some (by omega) (texts_all HA.out) (texts_split F))
      have HST0 : Hid (splitT (textsL F) = ⟨1, [97], [], [([98], F)], false⟩ :: ((if F = [] then [] else [⟨3, [], F, [], false⟩]) ++ [⟨2, [97], [], [], false⟩])) := Lib.hid (splitT_some (by omega) (texts_all HA.out) (texts_split F))
      have hEl := escL_len F
      have hEs : (tx (escL F)).size = (escL F).length := tx_size _
      have hcat : (⟨#[60, 97, 32, 98, 61, 34]⟩ : ByteArray) ++ tx (escL F) ++ ⟨#[34, 62]⟩ ++ tx (escL F) ++ ⟨#[60, 47, 97, 62]⟩ = tx (textsL F) := by
        have e1 : (⟨#[60, 97, 32, 98, 61, 34]⟩ : ByteArray) = tx [60, 97, 32, 98, 61, 34] := rfl
        have e2 : (⟨#[34, 62]⟩ : ByteArray) = tx [34, 62] := rfl
        have e3 : (⟨#[60, 47, 97, 62]⟩ : ByteArray) = tx [60, 47, 97, 62] := rfl
        rw [e1, e2, e3, tx_append, tx_append, tx_append, tx_append]
        simp [textsL]
      by_cases hlt : k < s.size <;> by_cases hF0 : F = []
      · have h300 := hk60 hlt
        clear hk60
        have hFe : (tx F).toList.isEmpty = true := by
          rw [tl_tx', hF0]; rfl
        have HST : Hid (splitT (textsL F) = [⟨1, [97], [], [([98], F)], false⟩, ⟨2, [97], [], [], false⟩]) := Lib.hid (by rw [HST0.out, if_pos hF0]; rfl)
        clear hF0
        go_wp2_with fail
        refine (Escape_c (tx F) wr (by omega)).mono ?_
        rintro e w2 ⟨rfl, hb2⟩
        rw [bs_tx]
        have HB2 : Hid (Below w.heap.size w w2) := Lib.hid (HB.out.trans (hb2.mono HB.out.size))
        clear hb2
        go_wp2_with fail
        refine (Escape_c (tx F) w2 (by omega)).mono ?_
        rintro e w3 ⟨rfl, hb3⟩
        rw [bs_tx]
        have HB3 : Hid (Below w.heap.size w w3) := Lib.hid (HB2.out.trans (hb3.mono HB2.out.size))
        clear hb3
        go_wp2_with fail
        refine (Split_c (tx (textsL F)) w3 (by rw [tx_size]; unfold maxLen; omega) (HG.out.below HB3.out)).mono ?_
        intro e w4 hp
        unfold SplitPost at hp
        rw [bs_tx, HSE.out, HST.out] at hp
        obtain ⟨A, c, rfl, ⟨cs, hrow, htc⟩, hbel4⟩ := hp
        obtain ⟨A1, l1, c1, tl1, rfl, hat, A3, l3, c3, tl3, rfl, _, htl⟩ := htc
        obtain ⟨g, cap, hv, _, hcap, hcells⟩ := row_cells hrow (by simp)
        obtain ⟨g1, cap1, hv1, _, hcap1, hcells1⟩ := row_cells hat (by simp)
        simp only [Value.slice.injEq] at hv hv1
        obtain ⟨rfl, _, rfl⟩ := hv
        obtain ⟨rfl, rfl, rfl⟩ := hv1
        have k3 := hcells 3 _ rfl
        have a1 := hcells1 1 _ rfl
        have HB4 : Hid (Below w.heap.size w w4) := Lib.hid (HB3.out.trans (hbel4.mono HB3.out.size))
        clear hcells hcells1 hrow hat htl hbel4
        simp only [] at k3 a1
        have k3' : w4.cell? ⟨g, 3, none⟩ = some (.slice (some ⟨g1, 0, none⟩) 1 c1) := k3
        go_wp2_with fail
        refine (awake_c w4 (HG.out.below HB4.out)).mono ?_
        rintro e w5 ⟨rfl, hb5⟩
        have m3 := (hb5.cell (p := ⟨g, 3, none⟩) (cell_below k3)).trans k3'
        have ma := (hb5.cell (p := ⟨g1, 1, none⟩) (cell_below a1)).trans a1
        have HB5 : Hid (Below w.heap.size w w5) := Lib.hid (HB4.out.trans (hb5.mono HB4.out.size))
        clear hb5 k3 k3' a1
        go_wp2_with fail
        go_loopw [7] (fun i wr => ∃ j : Nat, j ≤ F.length ∧ i = .int .i64 j ∧ Hid ((∀ q, q < j → [93, 93, 62].isPrefixOf (F.drop q) = false) ∧ Below w.heap.size w wr)) (fun i _ => F.length - (intOf i).toNat)
        case atStart => exact ⟨0, Nat.zero_le _, rfl, fun q hq => absurd hq (Nat.not_lt_zero _), HB5.out⟩
        case round =>
          obtain ⟨j, hj, rfl, hh⟩ := hrel
          by_cases hjlt : j + 2 < F.length
          · have hjs : j + 3 ≤ (tx F).size := by omega
            by_cases hit : [93, 93, 62].isPrefixOf (F.drop j) = true
            · have ht := three_yes F j hit
              clear hit
              go_wp2_with fail
              go_ret
              exact ⟨rfl, hh.out.2⟩
            · have ht := three_no F j hit
              have HN : Hid (∀ q, q < j + 1 → [93, 93, 62].isPrefixOf (F.drop q) = false) := Lib.hid (fun q hq => by
                rcases Nat.lt_succ_iff_lt_or_eq.1 hq with h | h
                · exact hh.out.1 q h
                · subst h; exact Bool.eq_false_iff.2 hit)
              clear hit
              go_wp2_with fail
              go_roundw
              case rel => exact ⟨j + 1, by omega, by go_num, HN.out, hh.out.2⟩
              case measure => simp [intOf]; omega
          · have HC : Hid (∀ q, q < F.length → [93, 93, 62].isPrefixOf (F.drop q) = false) := Lib.hid (fun q hq => by
              by_cases hqj : q < j
              · exact hh.out.1 q hqj
              · rw [prefix_take]
                rw [beq_eq_false_iff_ne]
                intro he
                have := congrArg List.length he
                simp only [List.length_take, List.length_drop, List.length_cons, List.length_nil] at this
                omega)
            have hcl : (cdataL F).length = F.length + 12 := by unfold cdataL; simp
            have HCE : Hid (splitE (cdataL F) = 0) := Lib.hid (splitE_some (by omega) (cdata_all HA.out) (cdata_split HC.out))
            have HCT : Hid (splitT (cdataL F) = [⟨3, [], F, [], false⟩]) := Lib.hid (splitT_some (by omega) (cdata_all HA.out) (cdata_split HC.out))
            have hcat2 : (⟨#[60, 33, 91, 67, 68, 65, 84, 65, 91]⟩ : ByteArray) ++ tx F ++ ⟨#[93, 93, 62]⟩ = tx (cdataL F) := by
              have e1 : (⟨#[60, 33, 91, 67, 68, 65, 84, 65, 91]⟩ : ByteArray) = tx [60, 33, 91, 67, 68, 65, 84, 65, 91] := rfl
              have e2 : (⟨#[93, 93, 62]⟩ : ByteArray) = tx [93, 93, 62] := rfl
              rw [e1, e2, tx_append, tx_append]
              unfold cdataL
              rw [List.append_assoc]
            have HB6 : Hid (Below w.heap.size w wr) := Lib.hid hh.out.2
            clear hh
            go_wp2_with fail
            refine (Split_c (tx (cdataL F)) wr (by rw [tx_size]; unfold maxLen; omega) (HG.out.below HB6.out)).mono ?_
            intro e w7 hp
            unfold SplitPost at hp
            rw [bs_tx, HCE.out, HCT.out] at hp
            obtain ⟨B, d, rfl, ⟨ds, hrow, htc⟩, hbel7⟩ := hp
            obtain ⟨B1, m1, d1, tm1, rfl, _, htm⟩ := htc
            obtain ⟨h, cap2, hv, _, hcap2, hcells⟩ := row_cells hrow (by simp)
            simp only [Value.slice.injEq] at hv
            obtain ⟨rfl, _, rfl⟩ := hv
            have n0 := hcells 0 _ rfl
            have n2 := hcells 2 _ rfl
            have HB7 : Hid (Below w.heap.size w w7) := Lib.hid (HB6.out.trans (hbel7.mono HB6.out.size))
            clear hcells hrow htm hbel7
            simp only [] at n0 n2
            go_wp2_with fail
            all_goals go_ret
            all_goals exact ⟨ret_bool (by simp), HB7.out⟩
      · have h300 := hk60 hlt
        clear hk60
        have hFe : (tx F).toList.isEmpty = false := by
          rw [tl_tx']
          cases F with
          | nil => exact absurd rfl hF0
          | cons c r => rfl
        have HST : Hid (splitT (textsL F) = [⟨1, [97], [], [([98], F)], false⟩, ⟨3, [], F, [], false⟩, ⟨2, [97], [], [], false⟩]) := Lib.hid (by rw [HST0.out, if_neg hF0]; rfl)
        go_wp2_with fail
        refine (Escape_c (tx F) wr (by omega)).mono ?_
        rintro e w2 ⟨rfl, hb2⟩
        rw [bs_tx]
        have HB2 : Hid (Below w.heap.size w w2) := Lib.hid (HB.out.trans (hb2.mono HB.out.size))
        clear hb2
        go_wp2_with fail
        refine (Escape_c (tx F) w2 (by omega)).mono ?_
        rintro e w3 ⟨rfl, hb3⟩
        rw [bs_tx]
        have HB3 : Hid (Below w.heap.size w w3) := Lib.hid (HB2.out.trans (hb3.mono HB2.out.size))
        clear hb3
        go_wp2_with fail
        refine (Split_c (tx (textsL F)) w3 (by rw [tx_size]; unfold maxLen; omega) (HG.out.below HB3.out)).mono ?_
        intro e w4 hp
        unfold SplitPost at hp
        rw [bs_tx, HSE.out, HST.out] at hp
        obtain ⟨A, c, rfl, ⟨cs, hrow, htc⟩, hbel4⟩ := hp
        obtain ⟨A1, l1, c1, tl1, rfl, hat, A2, l2, c2, tl2, rfl, _, A3, l3, c3, tl3, rfl, _, htl⟩ := htc
        obtain ⟨g, cap, hv, _, hcap, hcells⟩ := row_cells hrow (by simp)
        obtain ⟨g1, cap1, hv1, _, hcap1, hcells1⟩ := row_cells hat (by simp)
        simp only [Value.slice.injEq] at hv hv1
        obtain ⟨rfl, _, rfl⟩ := hv
        obtain ⟨rfl, rfl, rfl⟩ := hv1
        have k3 := hcells 3 _ rfl
        have a1 := hcells1 1 _ rfl
        have k7 := hcells 7 _ rfl
        have HB4 : Hid (Below w.heap.size w w4) := Lib.hid (HB3.out.trans (hbel4.mono HB3.out.size))
        clear hcells hcells1 hrow hat htl hbel4
        simp only [] at k3 a1 k7
        have k3' : w4.cell? ⟨g, 3, none⟩ = some (.slice (some ⟨g1, 0, none⟩) 1 c1) := k3
        go_wp2_with fail
        refine (awake_c w4 (HG.out.below HB4.out)).mono ?_
        rintro e w5 ⟨rfl, hb5⟩
        have m3 := (hb5.cell (p := ⟨g, 3, none⟩) (cell_below k3)).trans k3'
        have ma := (hb5.cell (p := ⟨g1, 1, none⟩) (cell_below a1)).trans a1
        have m7 := (hb5.cell (p := ⟨g, 7, none⟩) (cell_below k7)).trans k7
        have HB5 : Hid (Below w.heap.size w w5) := Lib.hid (HB4.out.trans (hb5.mono HB4.out.size))
        clear hb5 k3 k3' a1 k7
        go_wp2_with fail
        go_loopw [7] (fun i wr => ∃ j : Nat, j ≤ F.length ∧ i = .int .i64 j ∧ Hid ((∀ q, q < j → [93, 93, 62].isPrefixOf (F.drop q) = false) ∧ Below w.heap.size w wr)) (fun i _ => F.length - (intOf i).toNat)
        case atStart => exact ⟨0, Nat.zero_le _, rfl, fun q hq => absurd hq (Nat.not_lt_zero _), HB5.out⟩
        case round =>
          obtain ⟨j, hj, rfl, hh⟩ := hrel
          by_cases hjlt : j + 2 < F.length
          · have hjs : j + 3 ≤ (tx F).size := by omega
            by_cases hit : [93, 93, 62].isPrefixOf (F.drop j) = true
            · have ht := three_yes F j hit
              clear hit
              go_wp2_with fail
              go_ret
              exact ⟨rfl, hh.out.2⟩
            · have ht := three_no F j hit
              have HN : Hid (∀ q, q < j + 1 → [93, 93, 62].isPrefixOf (F.drop q) = false) := Lib.hid (fun q hq => by
                rcases Nat.lt_succ_iff_lt_or_eq.1 hq with h | h
                · exact hh.out.1 q h
                · subst h; exact Bool.eq_false_iff.2 hit)
              clear hit
              go_wp2_with fail
              go_roundw
              case rel => exact ⟨j + 1, by omega, by go_num, HN.out, hh.out.2⟩
              case measure => simp [intOf]; omega
          · have HC : Hid (∀ q, q < F.length → [93, 93, 62].isPrefixOf (F.drop q) = false) := Lib.hid (fun q hq => by
              by_cases hqj : q < j
              · exact hh.out.1 q hqj
              · rw [prefix_take]
                rw [beq_eq_false_iff_ne]
                intro he
                have := congrArg List.length he
                simp only [List.length_take, List.length_drop, List.length_cons, List.length_nil] at this
                omega)
            have hcl : (cdataL F).length = F.length + 12 := by unfold cdataL; simp
            have HCE : Hid (splitE (cdataL F) = 0) := Lib.hid (splitE_some (by omega) (cdata_all HA.out) (cdata_split HC.out))
            have HCT : Hid (splitT (cdataL F) = [⟨3, [], F, [], false⟩]) := Lib.hid (splitT_some (by omega) (cdata_all HA.out) (cdata_split HC.out))
            have hcat2 : (⟨#[60, 33, 91, 67, 68, 65, 84, 65, 91]⟩ : ByteArray) ++ tx F ++ ⟨#[93, 93, 62]⟩ = tx (cdataL F) := by
              have e1 : (⟨#[60, 33, 91, 67, 68, 65, 84, 65, 91]⟩ : ByteArray) = tx [60, 33, 91, 67, 68, 65, 84, 65, 91] := rfl
              have e2 : (⟨#[93, 93, 62]⟩ : ByteArray) = tx [93, 93, 62] := rfl
              rw [e1, e2, tx_append, tx_append]
              unfold cdataL
              rw [List.append_assoc]
            have HB6 : Hid (Below w.heap.size w wr) := Lib.hid hh.out.2
            clear hh
            go_wp2_with fail
            refine (Split_c (tx (cdataL F)) wr (by rw [tx_size]; unfold maxLen; omega) (HG.out.below HB6.out)).mono ?_
            intro e w7 hp
            unfold SplitPost at hp
            rw [bs_tx, HCE.out, HCT.out] at hp
            obtain ⟨B, d, rfl, ⟨ds, hrow, htc⟩, hbel7⟩ := hp
            obtain ⟨B1, m1, d1, tm1, rfl, _, htm⟩ := htc
            obtain ⟨h, cap2, hv, _, hcap2, hcells⟩ := row_cells hrow (by simp)
            simp only [Value.slice.injEq] at hv
            obtain ⟨rfl, _, rfl⟩ := hv
            have n0 := hcells 0 _ rfl
            have n2 := hcells 2 _ rfl
            have HB7 : Hid (Below w.heap.size w w7) := Lib.hid (HB6.out.trans (hbel7.mono HB6.out.size))
            clear hcells hrow htm hbel7
            simp only [] at n0 n2
            go_wp2_with fail
            all_goals go_ret
            all_goals exact ⟨ret_bool (by simp), HB7.out⟩
      · have hnot := hlt
        clear hk60
        have hFe : (tx F).toList.isEmpty = true := by
          rw [tl_tx', hF0]; rfl
        have HST : Hid (splitT (textsL F) = [⟨1, [97], [], [([98], F)], false⟩, ⟨2, [97], [], [], false⟩]) := Lib.hid (by rw [HST0.out, if_pos hF0]; rfl)
        clear hF0
        go_wp2_with fail
        refine (Escape_c (tx F) wr (by omega)).mono ?_
        rintro e w2 ⟨rfl, hb2⟩
        rw [bs_tx]
        have HB2 : Hid (Below w.heap.size w w2) := Lib.hid (HB.out.trans (hb2.mono HB.out.size))
        clear hb2
        go_wp2_with fail
        refine (Escape_c (tx F) w2 (by omega)).mono ?_
        rintro e w3 ⟨rfl, hb3⟩
        rw [bs_tx]
        have HB3 : Hid (Below w.heap.size w w3) := Lib.hid (HB2.out.trans (hb3.mono HB2.out.size))
        clear hb3
        go_wp2_with fail
        refine (Split_c (tx (textsL F)) w3 (by rw [tx_size]; unfold maxLen; omega) (HG.out.below HB3.out)).mono ?_
        intro e w4 hp
        unfold SplitPost at hp
        rw [bs_tx, HSE.out, HST.out] at hp
        obtain ⟨A, c, rfl, ⟨cs, hrow, htc⟩, hbel4⟩ := hp
        obtain ⟨A1, l1, c1, tl1, rfl, hat, A3, l3, c3, tl3, rfl, _, htl⟩ := htc
        obtain ⟨g, cap, hv, _, hcap, hcells⟩ := row_cells hrow (by simp)
        obtain ⟨g1, cap1, hv1, _, hcap1, hcells1⟩ := row_cells hat (by simp)
        simp only [Value.slice.injEq] at hv hv1
        obtain ⟨rfl, _, rfl⟩ := hv
        obtain ⟨rfl, rfl, rfl⟩ := hv1
        have k3 := hcells 3 _ rfl
        have a1 := hcells1 1 _ rfl
        have HB4 : Hid (Below w.heap.size w w4) := Lib.hid (HB3.out.trans (hbel4.mono HB3.out.size))
        clear hcells hcells1 hrow hat htl hbel4
        simp only [] at k3 a1
        have k3' : w4.cell? ⟨g, 3, none⟩ = some (.slice (some ⟨g1, 0, none⟩) 1 c1) := k3
        go_wp2_with fail
        refine (awake_c w4 (HG.out.below HB4.out)).mono ?_
        rintro e w5 ⟨rfl, hb5⟩
        have m3 := (hb5.cell (p := ⟨g, 3, none⟩) (cell_below k3)).trans k3'
        have ma := (hb5.cell (p := ⟨g1, 1, none⟩) (cell_below a1)).trans a1
        have HB5 : Hid (Below w.heap.size w w5) := Lib.hid (HB4.out.trans (hb5.mono HB4.out.size))
        clear hb5 k3 k3' a1
        go_wp2_with fail
        go_loopw [7] (fun i wr => ∃ j : Nat, j ≤ F.length ∧ i = .int .i64 j ∧ Hid ((∀ q, q < j → [93, 93, 62].isPrefixOf (F.drop q) = false) ∧ Below w.heap.size w wr)) (fun i _ => F.length - (intOf i).toNat)
        case atStart => exact ⟨0, Nat.zero_le _, rfl, fun q hq => absurd hq (Nat.not_lt_zero _), HB5.out⟩
        case round =>
          obtain ⟨j, hj, rfl, hh⟩ := hrel
          by_cases hjlt : j + 2 < F.length
          · have hjs : j + 3 ≤ (tx F).size := by omega
            by_cases hit : [93, 93, 62].isPrefixOf (F.drop j) = true
            · have ht := three_yes F j hit
              clear hit
              go_wp2_with fail
              go_ret
              exact ⟨rfl, hh.out.2⟩
            · have ht := three_no F j hit
              have HN : Hid (∀ q, q < j + 1 → [93, 93, 62].isPrefixOf (F.drop q) = false) := Lib.hid (fun q hq => by
                rcases Nat.lt_succ_iff_lt_or_eq.1 hq with h | h
                · exact hh.out.1 q h
                · subst h; exact Bool.eq_false_iff.2 hit)
              clear hit
              go_wp2_with fail
              go_roundw
              case rel => exact ⟨j + 1, by omega, by go_num, HN.out, hh.out.2⟩
              case measure => simp [intOf]; omega
          · have HC : Hid (∀ q, q < F.length → [93, 93, 62].isPrefixOf (F.drop q) = false) := Lib.hid (fun q hq => by
              by_cases hqj : q < j
              · exact hh.out.1 q hqj
              · rw [prefix_take]
                rw [beq_eq_false_iff_ne]
                intro he
                have := congrArg List.length he
                simp only [List.length_take, List.length_drop, List.length_cons, List.length_nil] at this
                omega)
            have hcl : (cdataL F).length = F.length + 12 := by unfold cdataL; simp
            have HCE : Hid (splitE (cdataL F) = 0) := Lib.hid (splitE_some (by omega) (cdata_all HA.out) (cdata_split HC.out))
            have HCT : Hid (splitT (cdataL F) = [⟨3, [], F, [], false⟩]) := Lib.hid (splitT_some (by omega) (cdata_all HA.out) (cdata_split HC.out))
            have hcat2 : (⟨#[60, 33, 91, 67, 68, 65, 84, 65, 91]⟩ : ByteArray) ++ tx F ++ ⟨#[93, 93, 62]⟩ = tx (cdataL F) := by
              have e1 : (⟨#[60, 33, 91, 67, 68, 65, 84, 65, 91]⟩ : ByteArray) = tx [60, 33, 91, 67, 68, 65, 84, 65, 91] := rfl
              have e2 : (⟨#[93, 93, 62]⟩ : ByteArray) = tx [93, 93, 62] := rfl
              rw [e1, e2, tx_append, tx_append]
              unfold cdataL
              rw [List.append_assoc]
            have HB6 : Hid (Below w.heap.size w wr) := Lib.hid hh.out.2
            clear hh
            go_wp2_with fail
            refine (Split_c (tx (cdataL F)) wr (by rw [tx_size]; unfold maxLen; omega) (HG.out.below HB6.out)).mono ?_
            intro e w7 hp
            unfold SplitPost at hp
            rw [bs_tx, HCE.out, HCT.out] at hp
            obtain ⟨B, d, rfl, ⟨ds, hrow, htc⟩, hbel7⟩ := hp
            obtain ⟨B1, m1, d1, tm1, rfl, _, htm⟩ := htc
            obtain ⟨h, cap2, hv, _, hcap2, hcells⟩ := row_cells hrow (by simp)
            simp only [Value.slice.injEq] at hv
            obtain ⟨rfl, _, rfl⟩ := hv
            have n0 := hcells 0 _ rfl
            have n2 := hcells 2 _ rfl
            have HB7 : Hid (Below w.heap.size w w7) := Lib.hid (HB6.out.trans (hbel7.mono HB6.out.size))
            clear hcells hrow htm hbel7
            simp only [] at n0 n2
            go_wp2_with fail
            all_goals go_ret
            all_goals exact ⟨ret_bool (by simp), HB7.out⟩
      · have hnot := hlt
        clear hk60
        have hFe : (tx F).toList.isEmpty = false := by
          rw [tl_tx']
          cases F with
          | nil => exact absurd rfl hF0
          | cons c r => rfl
        have HST : Hid (splitT (textsL F) = [⟨1, [97], [], [([98], F)], false⟩, ⟨3, [], F, [], false⟩, ⟨2, [97], [], [], false⟩]) := Lib.hid (by rw [HST0.out, if_neg hF0]; rfl)
        go_wp2_with fail
        refine (Escape_c (tx F) wr (by omega)).mono ?_
        rintro e w2 ⟨rfl, hb2⟩
        rw [bs_tx]
        have HB2 : Hid (Below w.heap.size w w2) := Lib.hid (HB.out.trans (hb2.mono HB.out.size))
        clear hb2
        go_wp2_with fail
        refine (Escape_c (tx F) w2 (by omega)).mono ?_
        rintro e w3 ⟨rfl, hb3⟩
        rw [bs_tx]
        have HB3 : Hid (Below w.heap.size w w3) := Lib.hid (HB2.out.trans (hb3.mono HB2.out.size))
        clear hb3
        go_wp2_with fail
        refine (Split_c (tx (textsL F)) w3 (by rw [tx_size]; unfold maxLen; omega) (HG.out.below HB3.out)).mono ?_
        intro e w4 hp
        unfold SplitPost at hp
        rw [bs_tx, HSE.out, HST.out] at hp
        obtain ⟨A, c, rfl, ⟨cs, hrow, htc⟩, hbel4⟩ := hp
        obtain ⟨A1, l1, c1, tl1, rfl, hat, A2, l2, c2, tl2, rfl, _, A3, l3, c3, tl3, rfl, _, htl⟩ := htc
        obtain ⟨g, cap, hv, _, hcap, hcells⟩ := row_cells hrow (by simp)
        obtain ⟨g1, cap1, hv1, _, hcap1, hcells1⟩ := row_cells hat (by simp)
        simp only [Value.slice.injEq] at hv hv1
        obtain ⟨rfl, _, rfl⟩ := hv
        obtain ⟨rfl, rfl, rfl⟩ := hv1
        have k3 := hcells 3 _ rfl
        have a1 := hcells1 1 _ rfl
        have k7 := hcells 7 _ rfl
        have HB4 : Hid (Below w.heap.size w w4) := Lib.hid (HB3.out.trans (hbel4.mono HB3.out.size))
        clear hcells hcells1 hrow hat htl hbel4
        simp only [] at k3 a1 k7
        have k3' : w4.cell? ⟨g, 3, none⟩ = some (.slice (some ⟨g1, 0, none⟩) 1 c1) := k3
        go_wp2_with fail
        refine (awake_c w4 (HG.out.below HB4.out)).mono ?_
        rintro e w5 ⟨rfl, hb5⟩
        have m3 := (hb5.cell (p := ⟨g, 3, none⟩) (cell_below k3)).trans k3'
        have ma := (hb5.cell (p := ⟨g1, 1, none⟩) (cell_below a1)).trans a1
        have m7 := (hb5.cell (p := ⟨g, 7, none⟩) (cell_below k7)).trans k7
        have HB5 : Hid (Below w.heap.size w w5) := Lib.hid (HB4.out.trans (hb5.mono HB4.out.size))
        clear hb5 k3 k3' a1 k7
        go_wp2_with fail
        go_loopw [7] (fun i wr => ∃ j : Nat, j ≤ F.length ∧ i = .int .i64 j ∧ Hid ((∀ q, q < j → [93, 93, 62].isPrefixOf (F.drop q) = false) ∧ Below w.heap.size w wr)) (fun i _ => F.length - (intOf i).toNat)
        case atStart => exact ⟨0, Nat.zero_le _, rfl, fun q hq => absurd hq (Nat.not_lt_zero _), HB5.out⟩
        case round =>
          obtain ⟨j, hj, rfl, hh⟩ := hrel
          by_cases hjlt : j + 2 < F.length
          · have hjs : j + 3 ≤ (tx F).size := by omega
            by_cases hit : [93, 93, 62].isPrefixOf (F.drop j) = true
            · have ht := three_yes F j hit
              clear hit
              go_wp2_with fail
              go_ret
              exact ⟨rfl, hh.out.2⟩
            · have ht := three_no F j hit
              have HN : Hid (∀ q, q < j + 1 → [93, 93, 62].isPrefixOf (F.drop q) = false) := Lib.hid (fun q hq => by
                rcases Nat.lt_succ_iff_lt_or_eq.1 hq with h | h
                · exact hh.out.1 q h
                · subst h; exact Bool.eq_false_iff.2 hit)
              clear hit
              go_wp2_with fail
              go_roundw
              case rel => exact ⟨j + 1, by omega, by go_num, HN.out, hh.out.2⟩
              case measure => simp [intOf]; omega
          · have HC : Hid (∀ q, q < F.length → [93, 93, 62].isPrefixOf (F.drop q) = false) := Lib.hid (fun q hq => by
              by_cases hqj : q < j
              · exact hh.out.1 q hqj
              · rw [prefix_take]
                rw [beq_eq_false_iff_ne]
                intro he
                have := congrArg List.length he
                simp only [List.length_take, List.length_drop, List.length_cons, List.length_nil] at this
                omega)
            have hcl : (cdataL F).length = F.length + 12 := by unfold cdataL; simp
            have HCE : Hid (splitE (cdataL F) = 0) := Lib.hid (splitE_some (by omega) (cdata_all HA.out) (cdata_split HC.out))
            have HCT : Hid (splitT (cdataL F) = [⟨3, [], F, [], false⟩]) := Lib.hid (splitT_some (by omega) (cdata_all HA.out) (cdata_split HC.out))
            have hcat2 : (⟨#[60, 33, 91, 67, 68, 65, 84, 65, 91]⟩ : ByteArray) ++ tx F ++ ⟨#[93, 93, 62]⟩ = tx (cdataL F) := by
              have e1 : (⟨#[60, 33, 91, 67, 68, 65, 84, 65, 91]⟩ : ByteArray) = tx [60, 33, 91, 67, 68, 65, 84, 65, 91] := rfl
              have e2 : (⟨#[93, 93, 62]⟩ : ByteArray) = tx [93, 93, 62] := rfl
              rw [e1, e2, tx_append, tx_append]
              unfold cdataL
              rw [List.append_assoc]
            have HB6 : Hid (Below w.heap.size w wr) := Lib.hid hh.out.2
            clear hh
            go_wp2_with fail
            refine (Split_c (tx (cdataL F)) wr (by rw [tx_size]; unfold maxLen; omega) (HG.out.below HB6.out)).mono ?_
            intro e w7 hp
            unfold SplitPost at hp
            rw [bs_tx, HCE.out, HCT.out] at hp
            obtain ⟨B, d, rfl, ⟨ds, hrow, htc⟩, hbel7⟩ := hp
            obtain ⟨B1, m1, d1, tm1, rfl, _, htm⟩ := htc
            obtain ⟨h, cap2, hv, _, hcap2, hcells⟩ := row_cells hrow (by simp)
            simp only [Value.slice.injEq] at hv
            obtain ⟨rfl, _, rfl⟩ := hv
            have n0 := hcells 0 _ rfl
            have n2 := hcells 2 _ rfl
            have HB7 : Hid (Below w.heap.size w w7) := Lib.hid (HB6.out.trans (hbel7.mono HB6.out.size))
            clear hcells hrow htm hbel7
            simp only [] at n0 n2
            go_wp2_with fail
            all_goals go_ret
            all_goals exact ⟨ret_bool (by simp), HB7.out⟩
end Go.Proofs.YtpmmmmfaaimmfaaDoor
