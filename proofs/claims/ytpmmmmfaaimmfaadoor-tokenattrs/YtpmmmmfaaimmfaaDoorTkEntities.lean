/-
  The walk of TokenEntities.
-/
import Derived.Test.YtpmmmmfaaimmfaaDoorTkLong
import Derived.Deep.QuietTactic
import Derived.BigQuiet
namespace Nwl
open Go
theorem cutL_cons (c b : UInt8) (l : List UInt8) : cutL [c] (b :: l) = if b = c then some ([], l) else (cutL [c] l).map fun x => (b :: x.1, x.2) := by
  unfold cutL
  have hp : [c].isPrefixOf (b :: l) = (c == b) := by
    show ((c == b) && ([] : List UInt8).isPrefixOf l) = _
    rw [List.isPrefixOf, Bool.and_true]
  have hi : Lib.index (b :: l) [c] = if b = c then 0 else if Lib.index l [c] = -1 then -1 else Lib.index l [c] + 1 := by
    rw [Lib.index, hp]
    by_cases e : b = c
    · subst e; simp
    · rw [if_neg (by rw [beq_iff_eq]; exact fun h => e h.symm), if_neg e]
      by_cases e2 : Lib.index l [c] = -1
      · rw [if_pos (by rw [beq_iff_eq]; exact e2), if_pos e2]
      · rw [if_neg (by rw [beq_iff_eq]; exact e2), if_neg e2]
  rw [hi]
  have hge := Lib.index_ge l [c]
  by_cases e : b = c
  · rw [if_pos e, if_pos e]; simp
  · rw [if_neg e, if_neg e]
    by_cases e2 : Lib.index l [c] = -1
    · rw [if_pos e2, if_neg (by omega), if_neg (by omega)]; rfl
    · rw [if_neg e2, if_pos (by omega), if_pos (by omega)]
      have h1 : (Lib.index l [c] + 1).toNat = (Lib.index l [c]).toNat + 1 := by omega
      rw [h1]
      simp only [Option.map_some, List.take_succ_cons, List.length_cons, List.length_nil, List.drop_succ_cons]
theorem cutL_nil (c : UInt8) : cutL [c] [] = none := rfl
def nameN (k : Nat) : List UInt8 := [[38, 108, 116, 59], [38, 103, 116, 59], [38, 97, 109, 112, 59], [38, 113, 117, 111, 116, 59], [38, 97, 112, 111, 115, 59], [38, 35, 54, 53, 59], [38, 35, 120, 52, 50, 59], [99]].getD k []
def signN (k : Nat) : UInt8 := [60, 62, 38, 34, 39, 65, 66, 99].getD k 0
theorem char_lt : charL [108, 116] = some 60 := by decide
theorem char_gt : charL [103, 116] = some 62 := by decide
theorem char_amp : charL [97, 109, 112] = some 38 := by decide
theorem char_quot : charL [113, 117, 111, 116] = some 34 := by decide
theorem char_apos : charL [97, 112, 111, 115] = some 39 := by decide
theorem char_65 : charL [35, 54, 53] = some 65 := by decide
theorem char_66 : charL [35, 120, 52, 50] = some 66 := by decide
theorem ent_name (k : Nat) (hk : k < 8) (r : List UInt8) : entL (nameN k ++ r) = (entL r).map ([signN k] ++ ·) := by
  match k, hk with
  | 0, _ => show entL (38 :: 108 :: 116 :: 59 :: r) = _; rw [entL_amp, entAt]; simp [cutL_cons, char_lt]; rfl
  | 1, _ => show entL (38 :: 103 :: 116 :: 59 :: r) = _; rw [entL_amp, entAt]; simp [cutL_cons, char_gt]; rfl
  | 2, _ => show entL (38 :: 97 :: 109 :: 112 :: 59 :: r) = _; rw [entL_amp, entAt]; simp [cutL_cons, char_amp]; rfl
  | 3, _ => show entL (38 :: 113 :: 117 :: 111 :: 116 :: 59 :: r) = _; rw [entL_amp, entAt]; simp [cutL_cons, char_quot]; rfl
  | 4, _ => show entL (38 :: 97 :: 112 :: 111 :: 115 :: 59 :: r) = _; rw [entL_amp, entAt]; simp [cutL_cons, char_apos]; rfl
  | 5, _ => show entL (38 :: 35 :: 54 :: 53 :: 59 :: r) = _; rw [entL_amp, entAt]; simp [cutL_cons, char_65]; rfl
  | 6, _ => show entL (38 :: 35 :: 120 :: 52 :: 50 :: 59 :: r) = _; rw [entL_amp, entAt]; simp [cutL_cons, char_66]; rfl
  | 7, _ => show entL (99 :: r) = _; rw [entL_plain1 _ _ (by decide)]; rfl
  | k + 8, h => omega
theorem nameN_len (k : Nat) (hk : k < 8) : (nameN k).length ≤ 6 := by
  match k, hk with
  | 0, _ | 1, _ | 2, _ | 3, _ | 4, _ | 5, _ | 6, _ | 7, _ => decide
  | k + 8, h => omega
theorem sign_cut (k : Nat) (hk : k < 8) : (⟨#[60, 62, 38, 34, 39, 65, 66, 99]⟩ : ByteArray).extract k (k + 1) = tx [signN k] := by
  match k, hk with
  | 0, _ | 1, _ | 2, _ | 3, _ | 4, _ | 5, _ | 6, _ | 7, _ => apply bs_inj; rw [bs_extract, bs_tx]; rfl
  | k + 8, h => omega
/-- a text, and what it is with its entities, whatever stands behind -/
def EntTo (S W : List UInt8) : Prop := ∀ r, entL (S ++ r) = (entL r).map (W ++ ·)
theorem tx_append (a b : List UInt8) : tx a ++ tx b = tx (a ++ b) := by
  apply bs_inj
  rw [bs_append, bs_tx, bs_tx, bs_tx]
theorem tx_nil : tx [] = ByteArray.empty := rfl
theorem entTo_nil : EntTo [] [] := fun r => by simp
theorem entTo_snoc {S W : List UInt8} (h : EntTo S W) (k : Nat) (hk : k < 8) : EntTo (S ++ nameN k) (W ++ [signN k]) := by
  intro r
  rw [List.append_assoc, h, ent_name k hk, Option.map_map]
  congr 1
  funext q
  simp
theorem entTo_end {S W : List UInt8} (h : EntTo S W) : entL S = some W := by
  have := h []
  rw [List.append_nil, entL_nil] at this
  rw [this]
  simp
theorem entTo_amp {S W : List UInt8} (h : EntTo S W) : entL (S ++ [38]) = none := by
  rw [h, entL_amp]
  rfl
end Nwl
namespace Go.Proofs.YtpmmmmfaaimmfaaDoor
open Nwl
open Go.RowKit Go.Maps
set_option linter.unusedVariables false

theorem Entities_at (l : List UInt8) (w : World) (hs : l.length ≤ 100000) (hg : Glob w) :
    Calls Tryd.prog 14 #[.string (tx l)] w fun e w' => e = .returned (.tuple #[.string (entS (entL l)), .int .i64 (entE (entL l))]) ∧ Below w.heap.size w w' :=
  Entities_c (tx l) w (by rw [tx_size]; exact hs) hg

theorem Calls_arg {f : Nat} {a b : ByteArray} {w : World} {Q : Ending → World → Prop} (h : a = b) (hc : Calls Tryd.prog f #[.string b] w Q) : Calls Tryd.prog f #[.string a] w Q := h ▸ hc

theorem below_drewNof {B : Nat} {a w : World} (h : Below B a w) (n : Nat) : Below B a (w.drewN n) := ⟨h.os, h.tape, h.output, h.size, h.block⟩

theorem names_cells (w : World) (k : Nat) (hk : k < 8) : (w.alloc (.cells #[.string ⟨#[38, 108, 116, 59]⟩, .string ⟨#[38, 103, 116, 59]⟩, .string ⟨#[38, 97, 109, 112, 59]⟩, .string ⟨#[38, 113, 117, 111, 116, 59]⟩, .string ⟨#[38, 97, 112, 111, 115, 59]⟩, .string ⟨#[38, 35, 54, 53, 59]⟩, .string ⟨#[38, 35, 120, 52, 50, 59]⟩, .string ⟨#[99]⟩] 9)).cell? ⟨w.heap.size, k, none⟩ = some (.string (tx (nameN k))) := by
  rw [(Blk.new w 9 _).cell k]
  match k, hk with
  | 0, _ | 1, _ | 2, _ | 3, _ | 4, _ | 5, _ | 6, _ | 7, _ => rfl
  | k + 8, h => omega

set_option maxRecDepth 100000 in
set_option maxHeartbeats 4000000 in
theorem TokenEntities_walk (A : Option Addr) (n c : Nat) (w : World) (hn : n ≤ maxLen) (hr : ∀ j, j < n → ∃ b o z, A = some ⟨b, o, none⟩ ∧ b < w.heap.size ∧ w.cell? ⟨b, o + j, none⟩ = some (.int .i64 z)) (hg : Glob w) :
    Calls Tryd.prog 7 #[.slice A n c] w fun e w' => e = .returned (.bool true) ∧ Below w.heap.size w w' := by
  have HG := Lib.hid hg
  have HR := Lib.hid hr
  have HNC := Lib.hid (names_cells w)
  unfold maxLen at hn
  clear hg hr
  go_enter Tryd.func7, Tryd.ntmps7
  go_wp2_with fail
  have hBW : Below w.heap.size w (w.alloc (.cells #[.string ⟨#[38, 108, 116, 59]⟩, .string ⟨#[38, 103, 116, 59]⟩, .string ⟨#[38, 97, 109, 112, 59]⟩, .string ⟨#[38, 113, 117, 111, 116, 59]⟩, .string ⟨#[38, 97, 112, 111, 115, 59]⟩, .string ⟨#[38, 35, 54, 53, 59]⟩, .string ⟨#[38, 35, 120, 52, 50, 59]⟩, .string ⟨#[99]⟩] 9)) := (Below.refl _ _).alloc (Nat.le_refl _) _
  have hWs : w.heap.size < (w.alloc (.cells #[.string ⟨#[38, 108, 116, 59]⟩, .string ⟨#[38, 103, 116, 59]⟩, .string ⟨#[38, 97, 109, 112, 59]⟩, .string ⟨#[38, 113, 117, 111, 116, 59]⟩, .string ⟨#[38, 97, 112, 111, 115, 59]⟩, .string ⟨#[38, 35, 54, 53, 59]⟩, .string ⟨#[38, 35, 120, 52, 50, 59]⟩, .string ⟨#[99]⟩] 9)).heap.size := by simp
  generalize hW1 : w.alloc _ = W1 at *
  clear hW1
  go_loopw [5, 6, 7] (fun sv wv iv wr => ∃ (k : Nat) (S V : List UInt8), k ≤ 60 ∧ k ≤ n ∧ sv = .string (tx S) ∧ wv = .string (tx V) ∧ iv = .int .i64 k ∧ Hid (EntTo S V ∧ S.length ≤ 6 * k ∧ V.length ≤ k ∧ Below W1.heap.size W1 wr)) (fun _ _ iv _ => 60 - (intOf iv).toNat)
  case atStart => exact ⟨0, [], [], by omega, by omega, rfl, rfl, rfl, entTo_nil, by simp, by simp, Below.refl _ _⟩
  case round =>
    obtain ⟨k, S, V, hk60, hkn, rfl, rfl, rfl, hh⟩ := hrel
    obtain ⟨hent, hsl, hvl, hbel⟩ := hh.out
    clear hh
    have hS : (tx S).size ≤ 360 := by rw [tx_size]; omega
    have hV : (tx V).size ≤ 60 := by rw [tx_size]; omega
    have HB := Lib.hid hbel
    have HE := Lib.hid hent
    by_cases hgo : k < n ∧ k < 60
    · obtain ⟨hlt, h60⟩ := hgo
      obtain ⟨b, o, z, rfl, hb, hc⟩ := HR.out k hlt
      have hcw : wr.cell? ⟨b, o + k, none⟩ = some (.int .i64 z) := (hbel.cell (p := ⟨b, o + k, none⟩) (show b < W1.heap.size by omega)).trans ((hBW.cell (p := ⟨b, o + k, none⟩) hb).trans hc)
      obtain ⟨q0, q1⟩ := idx_in z 8 (by decide) (by decide)
      obtain ⟨q, hq⟩ : ∃ x : Nat, wrap64 ((IntKind.u64.wrap z).tmod 8) = (x : Int) := ⟨(wrap64 ((IntKind.u64.wrap z).tmod 8)).toNat, by omega⟩
      have hq8 : q < 8 := by omega
      have hnm : wr.cell? ⟨w.heap.size, q, none⟩ = some (.string (tx (nameN q))) := (hbel.cell (p := ⟨w.heap.size, q, none⟩) hWs).trans (HNC.out q hq8)
      have hcut := sign_cut q hq8
      have hN6 : (tx (nameN q)).size ≤ 6 := by rw [tx_size]; exact nameN_len q hq8
      have hS1 : (tx [signN q]).size = 1 := by rw [tx_size]; rfl
      have HNL := Lib.hid (nameN_len q hq8)
      clear hent hbel hc q0 q1
      go_wp2_with fail
      go_quiet (fail)
      go_wp2_with fail
      go_roundw
      case rel =>
        refine ⟨k + 1, S ++ nameN q, V ++ [signN q], by omega, by omega, by rw [tx_append], by rw [tx_append], by go_num, entTo_snoc HE.out q hq8, ?_, ?_, below_drewNof HB.out _⟩
        · have := HNL.out
          rw [List.length_append]; omega
        · rw [List.length_append, List.length_singleton]; omega
      case measure => simp [intOf]; omega
    · have HE1 : Hid (entL S = some V) := Lib.hid (entTo_end HE.out)
      have HE2 : Hid (entL (S ++ [38]) = none) := Lib.hid (entTo_amp HE.out)
      have HBw : Hid (Below w.heap.size w wr) := Lib.hid (hBW.trans (hbel.mono (Nat.le_of_lt hWs)))
      clear hent hbel HE HB
      have hcut : (k : Int) < n → ¬ ((k : Int) < 60) := fun h h2 => hgo ⟨by omega, by omega⟩
      have hcat : tx S ++ ⟨#[38]⟩ = tx (S ++ [38]) := tx_append S [38]
      by_cases hlt : k < n
      · have h60 : ¬ ((k : Int) < 60) := by omega
        go_wp2_with fail
        refine (Entities_at S wr (by omega) (HG.out.below HBw.out)).mono ?_
        rintro e w2 ⟨rfl, hb2⟩
        rw [HE1.out]
        have HB2 : Hid (Below w.heap.size w w2) := Lib.hid (HBw.out.trans (hb2.mono HBw.out.size))
        clear hb2
        go_wp2_with fail
        refine (Calls_arg hcat (Entities_at (S ++ [38]) w2 (by rw [List.length_append, List.length_singleton]; omega) (HG.out.below HB2.out))).mono ?_
        rintro e w3 ⟨rfl, hb3⟩
        rw [HE2.out]
        have HB3 : Hid (Below w.heap.size w w3) := Lib.hid (HB2.out.trans (hb3.mono HB2.out.size))
        clear hb3
        go_wp2_with (go_at_call 12; refine (awake_c _ (HG.out.below HB3.out)).mono ?_; rintro e w4 ⟨rfl, hb4⟩)
        all_goals go_ret
        all_goals exact ⟨ret_bool (by simp [entS, tx_nil]), HB3.out.trans (hb4.mono HB3.out.size)⟩
      · go_wp2_with fail
        refine (Entities_at S wr (by omega) (HG.out.below HBw.out)).mono ?_
        rintro e w2 ⟨rfl, hb2⟩
        rw [HE1.out]
        have HB2 : Hid (Below w.heap.size w w2) := Lib.hid (HBw.out.trans (hb2.mono HBw.out.size))
        clear hb2
        go_wp2_with fail
        refine (Calls_arg hcat (Entities_at (S ++ [38]) w2 (by rw [List.length_append, List.length_singleton]; omega) (HG.out.below HB2.out))).mono ?_
        rintro e w3 ⟨rfl, hb3⟩
        rw [HE2.out]
        have HB3 : Hid (Below w.heap.size w w3) := Lib.hid (HB2.out.trans (hb3.mono HB2.out.size))
        clear hb3
        go_wp2_with (go_at_call 12; refine (awake_c _ (HG.out.below HB3.out)).mono ?_; rintro e w4 ⟨rfl, hb4⟩)
        all_goals go_ret
        all_goals exact ⟨ret_bool (by simp [entS, tx_nil]), HB3.out.trans (hb4.mono HB3.out.size)⟩

end Go.Proofs.YtpmmmmfaaimmfaaDoor
