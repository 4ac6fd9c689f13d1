/-
  The walk of TokenAttrs.
-/
import Derived.Test.YtpmmmmfaaimmfaaDoorTkAttrsM
import Derived.Test.YtpmmmmfaaimmfaaDoorTkSame
namespace Nwl
open Go
theorem plain_snoc {V : List UInt8} {c : UInt8} (h : Plainv V) (h1 : 32 ≤ c.toNat) (h2 : c ≠ 60) (h3 : c ≠ 38) (h4 : c ≠ 34) : Plainv (V ++ [c]) := fun d hd => by
  rcases List.mem_append.1 hd with e | e
  · exact h d e
  · obtain rfl := List.mem_singleton.1 e
    exact ⟨h1, h2, h3, h4⟩
end Nwl
namespace Go.Proofs.YtpmmmmfaaimmfaaDoor
open Nwl
open Go.RowKit Go.Maps
set_option linter.unusedVariables false

theorem text_next (B V : List UInt8) (q : Nat) : Value.string (tx (textA B V q) ++ tx B ++ tx (nmN q) ++ tx B ++ ⟨#[61]⟩ ++ tx B ++ ⟨#[34]⟩ ++ tx (vlN V q) ++ ⟨#[34]⟩) = .string (tx (textA B V (q + 1))) := by
  have e : textA B V (q + 1) = textA B V q ++ B ++ nmN q ++ B ++ [61] ++ B ++ [34] ++ vlN V q ++ [34] := by simp [textA, bodyN, pieceN]
  have e1 : (⟨#[61]⟩ : ByteArray) = tx [61] := rfl
  have e2 : (⟨#[34]⟩ : ByteArray) = tx [34] := rfl
  rw [e, e1, e2]
  simp only [tx_append]
theorem cells_two_new2 (w : World) (x y : Value) (t : TypeId) (o : Obj) : ∀ j u, [x, y][j]? = some u → ((w.alloc o).alloc (.cells #[x, y] t)).cell? ((⟨w.heap.size + 1, 0, none⟩ : Addr).add j) = some u := by
  have := cells_two_new (w.alloc o) x y t
  have e : (w.alloc o).heap.size = w.heap.size + 1 := by simp
  rwa [e] at this
theorem plain_pre {w : World} {B1 B2 n c1 c2 : Nat} {A1 A2 : Option Addr} {l : List (List UInt8 × List UInt8)} (hl : l.length = n) (h1 : w.ownsRow B1 34 2 (.slice A1 n c1) n (attrCells l)) (h2 : w.ownsRow B2 34 2 (.slice A2 n c2) n (attrCells l)) :
    ∀ j, j < n → ∃ g1 g2 s t, A1 = some ⟨g1, 0, none⟩ ∧ A2 = some ⟨g2, 0, none⟩ ∧ w.cell? ⟨g1, 2 * j, none⟩ = some (.string s) ∧ w.cell? ⟨g1, 2 * j + 1, none⟩ = some (.string t) ∧ w.cell? ⟨g2, 2 * j, none⟩ = some (.string s) ∧ w.cell? ⟨g2, 2 * j + 1, none⟩ = some (.string t) := by
  intro j hj
  obtain ⟨g1, cap1, hv1, _, _, k1⟩ := row_cells h1 (by omega)
  obtain ⟨g2, cap2, hv2, _, _, k2⟩ := row_cells h2 (by omega)
  simp only [Value.slice.injEq] at hv1 hv2
  obtain ⟨e1, e2⟩ := attrCells_get l j (by omega)
  exact ⟨g1, g2, _, _, hv1.1, hv2.1, k1 _ _ e1, k1 _ _ e2, k2 _ _ e1, k2 _ _ e2⟩
theorem own_kept {w w' : World} {B n sz : Nat} {e : TypeId} {v : Value} {xs : List Value} (h : w.ownsRow B e sz v n xs) (hb : Below w.heap.size w w') : w'.ownsRow B e sz v n xs :=
  h.kept (grown_of_below hb none) (by
    rcases hv : v.ownBlock with _ | g
    · exact .inl rfl
    · exact .inr (by simp))
theorem own_two {w wr w2 w3 : World} {n sz : Nat} {e : TypeId} {v : Value} {xs : List Value} (h : wr.ownsRow w.heap.size e sz v n xs) (hb : Below w.heap.size w wr) (h2 : Below wr.heap.size wr w2) (h3 : Below w2.heap.size w2 w3) :
    w3.ownsRow w.heap.size e sz v n xs ∧ Below w.heap.size w w3 := by
  have hb2 : Below w.heap.size w w2 := hb.trans (h2.mono hb.size)
  exact ⟨own_kept (own_kept h h2) h3, hb2.trans (h3.mono hb2.size)⟩
theorem one_cut (s : ByteArray) (k : Nat) (hk : k < s.size) : s.extract k (k + 1) = tx [s[k]] := by
  apply bs_inj
  rw [bs_extract, bs_tx]
  rw [drop_get s k hk]
  have e : k + 1 - k = 1 := by omega
  rw [e]
  rfl

set_option maxRecDepth 100000 in
set_option maxHeartbeats 4000000 in
theorem attrs_at (a b : Int) (s : ByteArray) (B : List UInt8) (w : World) (hs : s.size ≤ maxLen) (hg : Glob w) (hB : Sps B) (hB3 : B.length ≤ 3)
    (hcell : ∀ q : Int, wrap64 ((IntKind.u64.wrap b).tmod 3) = q → (w.alloc (.cells #[.string ⟨#[32]⟩, .string ⟨#[10]⟩, .string ⟨#[9, 32, 13]⟩] 9)).cell? ⟨w.heap.size, q.toNat, none⟩ = some (.string (tx B))) :
    Calls Tryd.prog 8 #[.int .i64 a, .int .i64 b, .string s] w fun e w' => e = .returned (.bool true) ∧ Below w.heap.size w w' := by
  have HG := Lib.hid hg
  obtain ⟨i0, hi, hz0, hz1, hz2⟩ := info_parts info_at
  obtain ⟨x0, x1⟩ := idx_in a 12 (by decide) (by decide)
  obtain ⟨y0, y1⟩ := idx_in b 3 (by decide) (by decide)
  obtain ⟨n, hn⟩ : ∃ x : Nat, wrap64 ((IntKind.u64.wrap a).tmod 12) = (x : Int) := ⟨(wrap64 ((IntKind.u64.wrap a).tmod 12)).toNat, by omega⟩
  obtain ⟨m, hm⟩ : ∃ x : Nat, wrap64 ((IntKind.u64.wrap b).tmod 3) = (x : Int) := ⟨(wrap64 ((IntKind.u64.wrap b).tmod 3)).toNat, by omega⟩
  have hn12 : n < 12 := by omega
  have hm3 : m < 3 := by omega
  have hc1 : (w.alloc (.cells #[.string ⟨#[32]⟩, .string ⟨#[10]⟩, .string ⟨#[9, 32, 13]⟩] 9)).cell? ⟨w.heap.size, m, none⟩ = some (.string (tx B)) := hcell m hm
  have HBp := Lib.hid hB
  have hBW : Below w.heap.size w (w.alloc (.cells #[.string ⟨#[32]⟩, .string ⟨#[10]⟩, .string ⟨#[9, 32, 13]⟩] 9)) := (Below.refl _ _).alloc (Nat.le_refl _) _
  unfold maxLen at hs
  clear hg hcell x0 x1 y0 y1 hB
  go_enter Tryd.func8, Tryd.ntmps8
  go_wp2_with fail
  rw [hn, hm]
  clear hn hm
  generalize hW1 : w.alloc _ = W1 at *
  clear hW1
  go_loopw [8, 9] (fun vv i wr => ∃ (k : Nat) (V : List UInt8), k ≤ s.size ∧ k ≤ 40 ∧ vv = .string (tx V) ∧ i = .int .i64 k ∧ Hid (Plainv V ∧ V.length ≤ k ∧ Below w.heap.size w wr)) (fun _ i _ => 40 - (intOf i).toNat)
  case atStart => exact ⟨0, [], Nat.zero_le _, by omega, rfl, rfl, fun c h => by simp at h, by simp, hBW⟩
  case round =>
    obtain ⟨k, V, hk, hk4, rfl, rfl, hh⟩ := hrel
    have hVk := hh.out.2.1
    have hVs : (tx V).size ≤ 40 := by rw [tx_size]; omega
    by_cases hgo : k < s.size ∧ k < 40
    · obtain ⟨hlt, h40⟩ := hgo
      have hcut := one_cut s k hlt
      have hc1 : (s.extract k (k + 1)).size = 1 := by rw [hcut, tx_size]; rfl
      have hc2 : (tx [s[k]]).size = 1 := by rw [tx_size]; rfl
      have hc5 : s[k].toNat < 32 ∨ s[k] = 60 ∨ s[k] = 38 ∨ s[k] = 34 ∨ (32 ≤ s[k].toNat ∧ s[k] ≠ 60 ∧ s[k] ≠ 38 ∧ s[k] ≠ 34) := by
        by_cases h1 : s[k].toNat < 32
        · exact .inl h1
        by_cases h2 : s[k] = 60
        · exact .inr (.inl h2)
        by_cases h3 : s[k] = 38
        · exact .inr (.inr (.inl h3))
        by_cases h4 : s[k] = 34
        · exact .inr (.inr (.inr (.inl h4)))
        exact .inr (.inr (.inr (.inr ⟨by omega, h2, h3, h4⟩)))
      rcases hc5 with hc | hc | hc | hc | ⟨h1, h2, h3, h4⟩
      · go_wp2_with fail
        go_roundw
        case rel => exact ⟨k + 1, V, by omega, by omega, rfl, by go_num, hh.out.1, by omega, hh.out.2.2⟩
        case measure => simp [intOf]; omega
      · have ec : (s[k].toNat : Int) = 60 := by rw [hc]; rfl
        clear hc
        go_wp2_with fail
        go_roundw
        case rel => exact ⟨k + 1, V, by omega, by omega, rfl, by go_num, hh.out.1, by omega, hh.out.2.2⟩
        case measure => simp [intOf]; omega
      · have ec : (s[k].toNat : Int) = 38 := by rw [hc]; rfl
        clear hc
        go_wp2_with fail
        go_roundw
        case rel => exact ⟨k + 1, V, by omega, by omega, rfl, by go_num, hh.out.1, by omega, hh.out.2.2⟩
        case measure => simp [intOf]; omega
      · have ec : (s[k].toNat : Int) = 34 := by rw [hc]; rfl
        clear hc
        go_wp2_with fail
        go_roundw
        case rel => exact ⟨k + 1, V, by omega, by omega, rfl, by go_num, hh.out.1, by omega, hh.out.2.2⟩
        case measure => simp [intOf]; omega
      · have b2 := byte_ne h2
        have b3 := byte_ne h3
        have b4 := byte_ne h4
        simp only [show ((38 : UInt8).toNat : Int) = 38 from rfl, show ((60 : UInt8).toNat : Int) = 60 from rfl, show ((34 : UInt8).toNat : Int) = 34 from rfl] at b2 b3 b4
        have n2 : ((s[k].toNat : Int) != 60) = true := by rw [bne, b2]; rfl
        have n3 : ((s[k].toNat : Int) != 38) = true := by rw [bne, b3]; rfl
        have n4 : ((s[k].toNat : Int) != 34) = true := by rw [bne, b4]; rfl
        have HP : Hid (Plainv (V ++ [s[k]])) := Lib.hid (plain_snoc hh.out.1 h1 h2 h3 h4)
        clear h2 h3 h4
        go_wp2_with fail
        go_roundw
        case rel => exact ⟨k + 1, V ++ [s[k]], by omega, by omega, by rw [tx_append], by go_num, HP.out, by rw [List.length_append, List.length_singleton]; omega, hh.out.2.2⟩
        case measure => simp [intOf]; omega
    · have hk60 : k < s.size → ¬ k < 40 := fun h h2 => hgo ⟨h, h2⟩
      clear hgo
      have HPV := Lib.hid hh.out.1
      have HBW2 := Lib.hid hh.out.2.2
      have hV40 : V.length ≤ 40 := by omega
      clear hh hVk
      by_cases hlt : k < s.size
      · have h40 := hk60 hlt
        clear hk60
        go_wp2_with fail
        go_loopw [10, 11, 12] (fun tv v i wr => ∃ q : Nat, q ≤ n ∧ tv = .string (tx (textA B V q)) ∧ i = .int .i64 q ∧ Hid (wr.ownsRow w.heap.size 34 2 v q (attrCells (attN V q)) ∧ Below w.heap.size w wr)) (fun _ _ i _ => n - (intOf i).toNat)
        case atStart => exact ⟨0, Nat.zero_le _, rfl, rfl, World.ownsRow_nil _ _ _ _, HBW2.out⟩
        case round =>
          obtain ⟨q, hq, rfl, rfl, hh⟩ := hrel
          have HL := Lib.hid (body_len hB3 hV40 q)
          have hT : (tx (textA B V q)).size ≤ 629 := by rw [tx_size]; have := HL.out; simp only [textA, List.length_cons]; omega
          have hBz : (tx B).size ≤ 3 := by rw [tx_size]; exact hB3
          by_cases hqn : q < n
          · have hd2 := decF_le 2 q
            have hds : (tx (decF 2 q)).size ≤ 2 := by rw [tx_size]; exact hd2
            have hnm : (⟨#[110]⟩ : ByteArray) ++ tx (decF 2 q) = tx (nmN q) := tx_append [110] (decF 2 q)
            have hvl : tx V ++ tx (decF 2 q) = tx (vlN V q) := tx_append V (decF 2 q)
            have hns : (tx (nmN q)).size ≤ 3 := by rw [tx_size]; simp only [nmN, List.length_cons]; omega
            have hvs : (tx (vlN V q)).size ≤ 42 := by rw [tx_size]; simp only [vlN, List.length_append]; omega
            go_wp2_with fail
            refine (Digits_c 2 q wr (by omega) (by omega) (by omega)).mono ?_
            rintro e w2 ⟨rfl, hb2⟩
            go_wp2_with fail
            refine (Digits_c 2 q w2 (by omega) (by omega) (by omega)).mono ?_
            rintro e w3 ⟨rfl, hb3⟩
            have HOB := Lib.hid (own_two hh.out.1 hh.out.2 hb2 hb3)
            clear hh hb2 hb3
            obtain ⟨hown3, hbel3⟩ := HOB.out
            have hbs3 := hbel3.size
            go_wp2_with (at_builtin; refine wpList_append_own_at _ rfl _ _ 30 rfl w.heap.size 34 i0 _ 2 32 Tryd.underlying30 hi hz0 hz1 hz2 rfl (by decide) _ q (attrCells (attN V q)) rfl ((hown3.alloc _).alloc _) ⟨w3.heap.size + 1, 0, none⟩ 1 1 [.string (tx (nmN q)), .string (tx (vlN V q))] rfl rfl (cells_two_new2 _ _ _ _ _) (two_oneCell _ _) (by unfold maxLen; omega) (by omega) (by simp; omega) ?_; intro v' w8 hown8 hgrow8 _ _)
            have X : Hid (w8.ownsRow w.heap.size 34 2 v' (q + 1) (attrCells (attN V (q + 1))) ∧ Below w.heap.size w w8) := Lib.hid (by
              refine ⟨?_, Below.grown ((hbel3.alloc (by omega) _).alloc (by simp; omega) _) hgrow8 (by simp; omega) (fun j hj => (hown3.lt _ hj).1)⟩
              rw [attN, attrCells_snoc]
              exact hown8)
            clear hown8 hgrow8
            go_wp2_with fail
            go_roundw
            case rel => exact ⟨q + 1, by omega, text_next B V q, by go_num, X.out⟩
            case measure => simp [intOf]; omega
          · obtain rfl : q = n := by omega
            obtain ⟨hown, hbel⟩ := hh.out
            clear hh
            have HOW := Lib.hid hown
            have HB4 := Lib.hid hbel
            obtain ⟨A0, c0, rfl⟩ := own_form hown
            clear hown hbel
            have hlA : (textA B V q ++ B ++ [47, 62]).length ≤ 700 := by
              have := HL.out
              simp only [textA, List.length_append, List.length_cons, List.length_nil]; omega
            have hlB : (textA B V q ++ B ++ [110, 48, 61, 39, 39, 32, 110, 48, 61, 39, 39, 47, 62]).length ≤ 700 := by
              have := HL.out
              simp only [textA, List.length_append, List.length_cons, List.length_nil]; omega
            have HAA : Hid (allL (textA B V q ++ B ++ [47, 62]) = true) := Lib.hid (by rw [allL_append, allL_append, textA_all HBp.out HPV.out, allL_sps HBp.out]; decide)
            have HAB : Hid (allL (textA B V q ++ B ++ [110, 48, 61, 39, 39, 32, 110, 48, 61, 39, 39, 47, 62]) = true) := Lib.hid (by rw [allL_append, allL_append, textA_all HBp.out HPV.out, allL_sps HBp.out]; decide)
            have HSE : Hid (splitE (textA B V q ++ B ++ [47, 62]) = 0) := Lib.hid (splitE_some (by omega) HAA.out (attrs_split HBp.out HPV.out q (by omega)))
            have HST : Hid (splitT (textA B V q ++ B ++ [47, 62]) = [⟨1, [101], [], attN V q, true⟩]) := Lib.hid (splitT_some (by omega) HAA.out (attrs_split HBp.out HPV.out q (by omega)))
            have HSF : Hid (splitE (textA B V q ++ B ++ [110, 48, 61, 39, 39, 32, 110, 48, 61, 39, 39, 47, 62]) = 5) := Lib.hid (splitE_none (by omega) HAB.out (attrs_twice HBp.out HPV.out q (by omega)))
            have hcA : tx (textA B V q) ++ tx B ++ ⟨#[47, 62]⟩ = tx (textA B V q ++ B ++ [47, 62]) := by
              have e1 : (⟨#[47, 62]⟩ : ByteArray) = tx [47, 62] := rfl
              rw [e1, tx_append, tx_append]
            have hcB : tx (textA B V q) ++ tx B ++ ⟨#[110, 48, 61, 39, 39, 32, 110, 48, 61, 39, 39, 47, 62]⟩ = tx (textA B V q ++ B ++ [110, 48, 61, 39, 39, 32, 110, 48, 61, 39, 39, 47, 62]) := by
              have e1 : (⟨#[110, 48, 61, 39, 39, 32, 110, 48, 61, 39, 39, 47, 62]⟩ : ByteArray) = tx [110, 48, 61, 39, 39, 32, 110, 48, 61, 39, 39, 47, 62] := rfl
              rw [e1, tx_append, tx_append]
            generalize textA B V q ++ B ++ [47, 62] = LA at *
            generalize textA B V q ++ B ++ [110, 48, 61, 39, 39, 32, 110, 48, 61, 39, 39, 47, 62] = LB at *
            go_wp2_with fail
            refine (Split_c (tx LA) wr (by rw [tx_size]; unfold maxLen; omega) (HG.out.below HB4.out)).mono ?_
            intro e w5 hp
            unfold SplitPost at hp
            rw [bs_tx, HSE.out, HST.out] at hp
            obtain ⟨A, c, rfl, ⟨cs, hrow, htc⟩, hbel5⟩ := hp
            obtain ⟨A1, l1, c1, tl1, rfl, hat, htl⟩ := htc
            obtain ⟨g, cap, hv, _, hcap, hcells⟩ := row_cells hrow (by simp)
            simp only [Value.slice.injEq] at hv
            obtain ⟨rfl, _, rfl⟩ := hv
            obtain ⟨A1', c1', hv1⟩ := own_form hat
            simp only [Value.slice.injEq, att_len] at hv1
            obtain ⟨rfl, rfl, rfl⟩ := hv1
            have k3 := hcells 3 _ rfl
            have k4 := hcells 4 _ rfl
            have HAT := Lib.hid hat
            have HB5 : Hid (Below w.heap.size w w5) := Lib.hid (HB4.out.trans (hbel5.mono HB4.out.size))
            have HO5 := Lib.hid (own_kept HOW.out hbel5)
            clear hcells hrow hat htl hbel5
            simp only [] at k3 k4
            go_wp2_with fail
            refine (Split_at LB w5 (by omega) (HG.out.below HB5.out)).mono ?_
            rintro e w6 ⟨⟨A2, n2, c2, rfl⟩, hb6⟩
            rw [HSF.out]
            have m3 := (hb6.cell (p := ⟨g, 3, none⟩) (cell_below k3)).trans k3
            have m4 := (hb6.cell (p := ⟨g, 4, none⟩) (cell_below k4)).trans k4
            have HA6 := Lib.hid (own_kept HAT.out hb6)
            have HO6 := Lib.hid (own_kept HO5.out hb6)
            have HB6 : Hid (Below w.heap.size w w6) := Lib.hid (HB5.out.trans (hb6.mono HB5.out.size))
            clear hb6 k3 k4
            go_wp2_with fail
            refine (awake_c w6 (HG.out.below HB6.out)).mono ?_
            rintro e w7 ⟨rfl, hb7⟩
            have t3 := (hb7.cell (p := ⟨g, 3, none⟩) (cell_below m3)).trans m3
            have t4 := (hb7.cell (p := ⟨g, 4, none⟩) (cell_below m4)).trans m4
            have HA7 := Lib.hid (own_kept HA6.out hb7)
            have HO7 := Lib.hid (own_kept HO6.out hb7)
            have HB7 : Hid (Below w.heap.size w w7) := Lib.hid (HB6.out.trans (hb7.mono HB6.out.size))
            clear hb7 m3 m4
            have hA7 : w7.ownsRow wr.heap.size 34 2 (.slice A1 l1 c1) (attN V l1).length (attrCells (attN V l1)) := HA7.out
            rw [att_len] at hA7
            have HPR := Lib.hid (plain_pre (att_len V l1) hA7 HO7.out)
            clear hA7
            go_wp2_with fail
            refine (Plain_c A1 A0 l1 c1 c0 w7 (by omega) HPR.out).mono ?_
            rintro e w8 ⟨rfl, hb8⟩
            have HB8 : Hid (Below w.heap.size w w8) := Lib.hid (HB7.out.trans (hb8.mono HB7.out.size))
            clear hb8
            go_wp2_with fail
            all_goals go_ret
            all_goals exact ⟨ret_bool (by simp), HB8.out⟩
      · have hnot := hlt
        clear hk60
        go_wp2_with fail
        go_loopw [10, 11, 12] (fun tv v i wr => ∃ q : Nat, q ≤ n ∧ tv = .string (tx (textA B V q)) ∧ i = .int .i64 q ∧ Hid (wr.ownsRow w.heap.size 34 2 v q (attrCells (attN V q)) ∧ Below w.heap.size w wr)) (fun _ _ i _ => n - (intOf i).toNat)
        case atStart => exact ⟨0, Nat.zero_le _, rfl, rfl, World.ownsRow_nil _ _ _ _, HBW2.out⟩
        case round =>
          obtain ⟨q, hq, rfl, rfl, hh⟩ := hrel
          have HL := Lib.hid (body_len hB3 hV40 q)
          have hT : (tx (textA B V q)).size ≤ 629 := by rw [tx_size]; have := HL.out; simp only [textA, List.length_cons]; omega
          have hBz : (tx B).size ≤ 3 := by rw [tx_size]; exact hB3
          by_cases hqn : q < n
          · have hd2 := decF_le 2 q
            have hds : (tx (decF 2 q)).size ≤ 2 := by rw [tx_size]; exact hd2
            have hnm : (⟨#[110]⟩ : ByteArray) ++ tx (decF 2 q) = tx (nmN q) := tx_append [110] (decF 2 q)
            have hvl : tx V ++ tx (decF 2 q) = tx (vlN V q) := tx_append V (decF 2 q)
            have hns : (tx (nmN q)).size ≤ 3 := by rw [tx_size]; simp only [nmN, List.length_cons]; omega
            have hvs : (tx (vlN V q)).size ≤ 42 := by rw [tx_size]; simp only [vlN, List.length_append]; omega
            go_wp2_with fail
            refine (Digits_c 2 q wr (by omega) (by omega) (by omega)).mono ?_
            rintro e w2 ⟨rfl, hb2⟩
            go_wp2_with fail
            refine (Digits_c 2 q w2 (by omega) (by omega) (by omega)).mono ?_
            rintro e w3 ⟨rfl, hb3⟩
            have HOB := Lib.hid (own_two hh.out.1 hh.out.2 hb2 hb3)
            clear hh hb2 hb3
            obtain ⟨hown3, hbel3⟩ := HOB.out
            have hbs3 := hbel3.size
            go_wp2_with (at_builtin; refine wpList_append_own_at _ rfl _ _ 30 rfl w.heap.size 34 i0 _ 2 32 Tryd.underlying30 hi hz0 hz1 hz2 rfl (by decide) _ q (attrCells (attN V q)) rfl ((hown3.alloc _).alloc _) ⟨w3.heap.size + 1, 0, none⟩ 1 1 [.string (tx (nmN q)), .string (tx (vlN V q))] rfl rfl (cells_two_new2 _ _ _ _ _) (two_oneCell _ _) (by unfold maxLen; omega) (by omega) (by simp; omega) ?_; intro v' w8 hown8 hgrow8 _ _)
            have X : Hid (w8.ownsRow w.heap.size 34 2 v' (q + 1) (attrCells (attN V (q + 1))) ∧ Below w.heap.size w w8) := Lib.hid (by
              refine ⟨?_, Below.grown ((hbel3.alloc (by omega) _).alloc (by simp; omega) _) hgrow8 (by simp; omega) (fun j hj => (hown3.lt _ hj).1)⟩
              rw [attN, attrCells_snoc]
              exact hown8)
            clear hown8 hgrow8
            go_wp2_with fail
            go_roundw
            case rel => exact ⟨q + 1, by omega, text_next B V q, by go_num, X.out⟩
            case measure => simp [intOf]; omega
          · obtain rfl : q = n := by omega
            obtain ⟨hown, hbel⟩ := hh.out
            clear hh
            have HOW := Lib.hid hown
            have HB4 := Lib.hid hbel
            obtain ⟨A0, c0, rfl⟩ := own_form hown
            clear hown hbel
            have hlA : (textA B V q ++ B ++ [47, 62]).length ≤ 700 := by
              have := HL.out
              simp only [textA, List.length_append, List.length_cons, List.length_nil]; omega
            have hlB : (textA B V q ++ B ++ [110, 48, 61, 39, 39, 32, 110, 48, 61, 39, 39, 47, 62]).length ≤ 700 := by
              have := HL.out
              simp only [textA, List.length_append, List.length_cons, List.length_nil]; omega
            have HAA : Hid (allL (textA B V q ++ B ++ [47, 62]) = true) := Lib.hid (by rw [allL_append, allL_append, textA_all HBp.out HPV.out, allL_sps HBp.out]; decide)
            have HAB : Hid (allL (textA B V q ++ B ++ [110, 48, 61, 39, 39, 32, 110, 48, 61, 39, 39, 47, 62]) = true) := Lib.hid (by rw [allL_append, allL_append, textA_all HBp.out HPV.out, allL_sps HBp.out]; decide)
            have HSE : Hid (splitE (textA B V q ++ B ++ [47, 62]) = 0) := Lib.hid (splitE_some (by omega) HAA.out (attrs_split HBp.out HPV.out q (by omega)))
            have HST : Hid (splitT (textA B V q ++ B ++ [47, 62]) = [⟨1, [101], [], attN V q, true⟩]) := Lib.hid (splitT_some (by omega) HAA.out (attrs_split HBp.out HPV.out q (by omega)))
            have HSF : Hid (splitE (textA B V q ++ B ++ [110, 48, 61, 39, 39, 32, 110, 48, 61, 39, 39, 47, 62]) = 5) := Lib.hid (splitE_none (by omega) HAB.out (attrs_twice HBp.out HPV.out q (by omega)))
            have hcA : tx (textA B V q) ++ tx B ++ ⟨#[47, 62]⟩ = tx (textA B V q ++ B ++ [47, 62]) := by
              have e1 : (⟨#[47, 62]⟩ : ByteArray) = tx [47, 62] := rfl
              rw [e1, tx_append, tx_append]
            have hcB : tx (textA B V q) ++ tx B ++ ⟨#[110, 48, 61, 39, 39, 32, 110, 48, 61, 39, 39, 47, 62]⟩ = tx (textA B V q ++ B ++ [110, 48, 61, 39, 39, 32, 110, 48, 61, 39, 39, 47, 62]) := by
              have e1 : (⟨#[110, 48, 61, 39, 39, 32, 110, 48, 61, 39, 39, 47, 62]⟩ : ByteArray) = tx [110, 48, 61, 39, 39, 32, 110, 48, 61, 39, 39, 47, 62] := rfl
              rw [e1, tx_append, tx_append]
            generalize textA B V q ++ B ++ [47, 62] = LA at *
            generalize textA B V q ++ B ++ [110, 48, 61, 39, 39, 32, 110, 48, 61, 39, 39, 47, 62] = LB at *
            go_wp2_with fail
            refine (Split_c (tx LA) wr (by rw [tx_size]; unfold maxLen; omega) (HG.out.below HB4.out)).mono ?_
            intro e w5 hp
            unfold SplitPost at hp
            rw [bs_tx, HSE.out, HST.out] at hp
            obtain ⟨A, c, rfl, ⟨cs, hrow, htc⟩, hbel5⟩ := hp
            obtain ⟨A1, l1, c1, tl1, rfl, hat, htl⟩ := htc
            obtain ⟨g, cap, hv, _, hcap, hcells⟩ := row_cells hrow (by simp)
            simp only [Value.slice.injEq] at hv
            obtain ⟨rfl, _, rfl⟩ := hv
            obtain ⟨A1', c1', hv1⟩ := own_form hat
            simp only [Value.slice.injEq, att_len] at hv1
            obtain ⟨rfl, rfl, rfl⟩ := hv1
            have k3 := hcells 3 _ rfl
            have k4 := hcells 4 _ rfl
            have HAT := Lib.hid hat
            have HB5 : Hid (Below w.heap.size w w5) := Lib.hid (HB4.out.trans (hbel5.mono HB4.out.size))
            have HO5 := Lib.hid (own_kept HOW.out hbel5)
            clear hcells hrow hat htl hbel5
            simp only [] at k3 k4
            go_wp2_with fail
            refine (Split_at LB w5 (by omega) (HG.out.below HB5.out)).mono ?_
            rintro e w6 ⟨⟨A2, n2, c2, rfl⟩, hb6⟩
            rw [HSF.out]
            have m3 := (hb6.cell (p := ⟨g, 3, none⟩) (cell_below k3)).trans k3
            have m4 := (hb6.cell (p := ⟨g, 4, none⟩) (cell_below k4)).trans k4
            have HA6 := Lib.hid (own_kept HAT.out hb6)
            have HO6 := Lib.hid (own_kept HO5.out hb6)
            have HB6 : Hid (Below w.heap.size w w6) := Lib.hid (HB5.out.trans (hb6.mono HB5.out.size))
            clear hb6 k3 k4
            go_wp2_with fail
            refine (awake_c w6 (HG.out.below HB6.out)).mono ?_
            rintro e w7 ⟨rfl, hb7⟩
            have t3 := (hb7.cell (p := ⟨g, 3, none⟩) (cell_below m3)).trans m3
            have t4 := (hb7.cell (p := ⟨g, 4, none⟩) (cell_below m4)).trans m4
            have HA7 := Lib.hid (own_kept HA6.out hb7)
            have HO7 := Lib.hid (own_kept HO6.out hb7)
            have HB7 : Hid (Below w.heap.size w w7) := Lib.hid (HB6.out.trans (hb7.mono HB6.out.size))
            clear hb7 m3 m4
            have hA7 : w7.ownsRow wr.heap.size 34 2 (.slice A1 l1 c1) (attN V l1).length (attrCells (attN V l1)) := HA7.out
            rw [att_len] at hA7
            have HPR := Lib.hid (plain_pre (att_len V l1) hA7 HO7.out)
            clear hA7
            go_wp2_with fail
            refine (Plain_c A1 A0 l1 c1 c0 w7 (by omega) HPR.out).mono ?_
            rintro e w8 ⟨rfl, hb8⟩
            have HB8 : Hid (Below w.heap.size w w8) := Lib.hid (HB7.out.trans (hb8.mono HB7.out.size))
            clear hb8
            go_wp2_with fail
            all_goals go_ret
            all_goals exact ⟨ret_bool (by simp), HB8.out⟩

theorem sps_0 : Sps [32] := ⟨by simp, by decide⟩
theorem sps_1 : Sps [10] := ⟨by simp, by decide⟩
theorem sps_2 : Sps [9, 32, 13] := ⟨by simp, by decide⟩
theorem TokenAttrs_walk (a b : Int) (s : ByteArray) (w : World) (ha : (Lit.int .i64 a).wf = true) (hb : (Lit.int .i64 b).wf = true) (hs : s.size ≤ maxLen) (hg : Glob w) :
    Calls Tryd.prog 8 #[.int .i64 a, .int .i64 b, .string s] w fun e w' => e = .returned (.bool true) ∧ Below w.heap.size w w' := by
  obtain ⟨y0, y1⟩ := idx_in b 3 (by decide) (by decide)
  have h3 : wrap64 ((IntKind.u64.wrap b).tmod 3) = 0 ∨ wrap64 ((IntKind.u64.wrap b).tmod 3) = 1 ∨ wrap64 ((IntKind.u64.wrap b).tmod 3) = 2 := by omega
  rcases h3 with h | h | h
  · exact attrs_at a b s [32] w hs hg sps_0 (by simp) (fun q hq => by rw [h] at hq; subst hq; rw [(Blk.new w 9 _).cell]; rfl)
  · exact attrs_at a b s [10] w hs hg sps_1 (by simp) (fun q hq => by rw [h] at hq; subst hq; rw [(Blk.new w 9 _).cell]; rfl)
  · exact attrs_at a b s [9, 32, 13] w hs hg sps_2 (by simp) (fun q hq => by rw [h] at hq; subst hq; rw [(Blk.new w 9 _).cell]; rfl)
end Go.Proofs.YtpmmmmfaaimmfaaDoor
