/-
  The document's text, one, Words, Compare (newelref05). The document's Words, Compare (newelref05). The document's May, behind, blank, Is (newelref05).
-/
import Derived.Test.YtkphkcpckgdgaaaGreatDoorWb
import Derived.Test.YtkphkcpckgdgaaaGreatDoorBe
import Derived.Deep.CutRange
import Derived.Test.YtkphkcpckgdgaaaGreatDoorSa
namespace Nwl
open Go
theorem less_cb : ∀ x y : List UInt8, Op.bytesLess x y = (Lib.compareBytes x y == -1)
  | [], [] => rfl
  | _ :: _, [] => rfl
  | [], _ :: _ => rfl
  | a :: x, b :: y => by
    have ih := less_cb x y
    rw [Op.bytesLess, Lib.compareBytes, ih]
    simp only [UInt8.lt_iff_toNat_lt]
    by_cases h1 : a.toNat < b.toNat
    · rw [if_pos h1, decide_eq_true h1]; rfl
    · rw [if_neg h1, decide_eq_false h1, Bool.false_or]
      by_cases h2 : b.toNat < a.toNat
      · rw [if_pos h2]
        have : (a == b) = false := by rw [beq_eq_false_iff_ne]; rintro rfl; omega
        rw [this]; rfl
      · rw [if_neg h2]
        have : (a == b) = true := by rw [beq_iff_eq, ← UInt8.toNat_inj]; omega
        rw [this]; rfl
theorem eq_cb : ∀ x y : List UInt8, (x == y) = (Lib.compareBytes x y == 0)
  | [], [] => rfl
  | _ :: _, [] => rfl
  | [], _ :: _ => rfl
  | a :: x, b :: y => by
    have ih := eq_cb x y
    rw [List.cons_beq_cons, Lib.compareBytes, ih]
    simp only [UInt8.lt_iff_toNat_lt]
    by_cases h1 : a.toNat < b.toNat
    · rw [if_pos h1]
      have : (a == b) = false := by rw [beq_eq_false_iff_ne]; rintro rfl; omega
      rw [this]; rfl
    · rw [if_neg h1]
      by_cases h2 : b.toNat < a.toNat
      · rw [if_pos h2]
        have : (a == b) = false := by rw [beq_eq_false_iff_ne]; rintro rfl; omega
        rw [this]; rfl
      · rw [if_neg h2]
        have : (a == b) = true := by rw [beq_iff_eq, ← UInt8.toNat_inj]; omega
        rw [this]; rfl
end Nwl
namespace Go.Proofs.YtkphkcpckgdgaaaGreatDoor
open Nwl
open Go.RowKit Go.Maps
set_option linter.unusedVariables false

set_option maxRecDepth 100000 in
theorem rtext_c (a b : ByteArray) (w : World) (r : Int) (hr : Lib.compareBytes (bs a) (bs b) = r) :
    Calls Tryz.prog 74 #[.string a, .string b] w fun e w' => e = .returned (.int .i64 r) ∧ w = w' := by
  have h1 := less_cb (bs a) (bs b)
  have h2 := eq_cb (bs a) (bs b)
  have h3 := cb_sgn (bs a) (bs b)
  rw [hr, ← toList_bs, ← toList_bs] at h1 h2
  rw [hr] at h3
  clear hr
  rcases h3 with rfl | rfl | rfl
  · have g1 : Op.bytesLess a.toList b.toList = true := h1.trans (by decide)
    have g2 : (a.toList == b.toList) = false := h2.trans (by decide)
    clear h1 h2
    go_enter Tryz.func74, Tryz.ntmps74
    go_wp2_with fail
    go_ret
    exact ⟨rfl, rfl⟩
  · have g1 : Op.bytesLess a.toList b.toList = false := h1.trans (by decide)
    have g2 : (a.toList == b.toList) = true := h2.trans (by decide)
    clear h1 h2
    go_enter Tryz.func74, Tryz.ntmps74
    go_wp2_with fail
    go_ret
    exact ⟨rfl, rfl⟩
  · have g1 : Op.bytesLess a.toList b.toList = false := h1.trans (by decide)
    have g2 : (a.toList == b.toList) = false := h2.trans (by decide)
    clear h1 h2
    go_enter Tryz.func74, Tryz.ntmps74
    go_wp2_with fail
    go_ret
    exact ⟨rfl, rfl⟩

set_option maxRecDepth 100000 in
set_option maxHeartbeats 1000000 in
theorem rone_c (a b : Wz) (w : World) (ha : a.t.length ≤ maxLen) (hb : b.t.length ≤ maxLen) (r : Int) (hr : cmpZ a b = r) :
    Calls Tryz.prog 57 #[wzV a, wzV b] w fun e w' => e = .returned (.int .i64 r) ∧ Hid (Below w.heap.size w w') := by
  have HB2 : Hid (Below w.heap.size w ((w.alloc (.cells #[.int .i64 a.k, .string (tx a.t)] 68)).alloc (.cells #[.int .i64 b.k, .string (tx b.t)] 68))) := Lib.hid (((Below.refl _ _).alloc (Nat.le_refl _) _).alloc (by simp) _)
  have sa : (tx a.t).size ≤ maxLen := by rw [tx_size]; assumption
  have sb : (tx b.t).size ≤ maxLen := by rw [tx_size]; assumption
  rcases Int.lt_trichotomy a.k b.k with hk | hk | hk
  · obtain rfl : -1 = r := by rw [← hr]; exact (cmpZ_kind a b (-1) (by unfold Lib.compareInt; rw [if_pos hk]) (by decide)).symm
    obtain ⟨ak, at'⟩ := a
    obtain ⟨bk, bt⟩ := b
    simp only at *
    have hd : decide (ak < bk) = true := decide_eq_true hk
    clear hr ha hb
    go_enter Tryz.func57, Tryz.ntmps57
    go_wp2_with fail
    go_ret
    exact ⟨rfl, HB2⟩
  · by_cases h8 : a.k = 8
    · have HC : Hid (Lib.compareBytes (bs (tx a.t)) (bs (tx b.t)) = r) := Lib.hid (by rw [← hr, keyT_8 a b hk h8]; rfl)
      obtain ⟨ak, at'⟩ := a
      obtain ⟨bk, bt⟩ := b
      simp only at *
      subst hk
      subst h8
      clear hr ha hb
      go_enter Tryz.func57, Tryz.ntmps57
      go_wp2_with fail
      refine (rtext_c _ _ _ r HC.out).mono ?_
      rintro e w' ⟨rfl, rfl⟩
      go_wp2_with fail
      go_ret
      exact ⟨rfl, HB2⟩
    · by_cases h9 : a.k = 9 ∨ a.k = 10
      · have HC := keyT_9 a b hk h9
        rw [hr] at HC
        obtain ⟨ak, at'⟩ := a
        obtain ⟨bk, bt⟩ := b
        simp only at *
        subst hk
        clear hr ha hb h8
        have z1 := tx_size at'
        have z2 := tx_size bt
        rcases Nat.lt_trichotomy at'.length bt.length with hl | hl | hl
        · obtain rfl : r = -1 := by rw [HC]; unfold Lib.compareInt; rw [if_pos (by omega)]; rfl
          have hl1 : (((tx at').size : Int) != ((tx bt).size : Int)) = true := by rw [bne_iff_ne]; omega
          have hl2 : (tx at').size < (tx bt).size := by omega
          clear HC z1 z2 hl
          rcases h9 with rfl | rfl
          all_goals (
            go_enter Tryz.func57, Tryz.ntmps57
            go_wp2_with fail
            go_ret
            exact ⟨rfl, HB2⟩)
        · have HC2 : Hid (Lib.compareBytes (bs (tx at')) (bs (tx bt)) = r) := Lib.hid (by rw [HC, show Lib.compareInt (at'.length : Nat) (bt.length : Nat) = 0 by unfold Lib.compareInt; rw [if_neg (by omega), if_neg (by omega)]]; rfl)
          have hl1 : (((tx at').size : Int) != ((tx bt).size : Int)) = false := by rw [bne_eq_false_iff_eq]; omega
          clear HC z1 z2 hl
          rcases h9 with rfl | rfl
          all_goals (
            go_enter Tryz.func57, Tryz.ntmps57
            go_wp2_with fail
            refine (rtext_c _ _ _ r HC2.out).mono ?_
            rintro e w' ⟨rfl, rfl⟩
            go_wp2_with fail
            go_ret
            exact ⟨rfl, HB2⟩)
        · obtain rfl : r = 1 := by rw [HC]; unfold Lib.compareInt; rw [if_neg (by omega), if_pos (by omega)]; rfl
          have hl1 : (((tx at').size : Int) != ((tx bt).size : Int)) = true := by rw [bne_iff_ne]; omega
          have hl2 : ¬ (tx at').size < (tx bt).size := by omega
          clear HC z1 z2 hl
          rcases h9 with rfl | rfl
          all_goals (
            go_enter Tryz.func57, Tryz.ntmps57
            go_wp2_with fail
            go_ret
            exact ⟨rfl, HB2⟩)
      · obtain rfl : 0 = r := by rw [← hr, keyT_no a b hk h8 h9]
        obtain ⟨ak, at'⟩ := a
        obtain ⟨bk, bt⟩ := b
        simp only at *
        subst hk
        have e8 : (ak == 8) = false := by rw [beq_eq_false_iff_ne]; exact h8
        have e9 : (ak == 9) = false := by rw [beq_eq_false_iff_ne]; omega
        have e10 : (ak == 10) = false := by rw [beq_eq_false_iff_ne]; omega
        clear hr ha hb h8 h9 sa sb
        go_enter Tryz.func57, Tryz.ntmps57
        go_wp2_with fail
        go_ret
        exact ⟨rfl, HB2⟩
  · obtain rfl : 1 = r := by rw [← hr]; exact (cmpZ_kind a b 1 (by unfold Lib.compareInt; rw [if_neg (by omega), if_pos hk]) (by decide)).symm
    obtain ⟨ak, at'⟩ := a
    obtain ⟨bk, bt⟩ := b
    simp only at *
    have hd : decide (ak < bk) = false := decide_eq_false (by omega)
    have hd2 : decide (bk < ak) = true := decide_eq_true hk
    clear hr ha hb
    go_enter Tryz.func57, Tryz.ntmps57
    go_wp2_with fail
    go_ret
    exact ⟨rfl, HB2⟩
end Go.Proofs.YtkphkcpckgdgaaaGreatDoor

namespace Go.Proofs.YtkphkcpckgdgaaaGreatDoor
open Nwl
open Go.RowKit Go.Maps
set_option linter.unusedVariables false

/-- the two words under way -/
def BW (wr W : World) (x y : Wz) : Prop := Blk W wr.heap.size 68 #[.int .i64 x.k, .string (tx x.t)] ∧ Blk W (wr.heap.size + 1) 68 #[.int .i64 y.k, .string (tx y.t)] ∧ Below wr.heap.size wr W
theorem BW.new (wr : World) (x y : Wz) : BW wr ((wr.alloc (.cells #[.int .i64 x.k, .string (tx x.t)] 68)).alloc (.cells #[.int .i64 y.k, .string (tx y.t)] 68)) x y := by
  refine ⟨(Blk.new wr _ _).alloc _, ?_, ((Below.refl _ _).alloc (Nat.le_refl _) _).alloc (by simp) _⟩
  have := Blk.new (wr.alloc (.cells #[.int .i64 x.k, .string (tx x.t)] 68)) 68 #[.int .i64 y.k, .string (tx y.t)]
  simpa using this
theorem BW.rd {wr W : World} {x y : Wz} (h : Hid (BW wr W x y)) : W.cell? ⟨wr.heap.size, 0, none⟩ = some (.int .i64 x.k) ∧ W.cell? ⟨wr.heap.size, 1, none⟩ = some (.string (tx x.t)) ∧ W.cell? ⟨wr.heap.size + 1, 0, none⟩ = some (.int .i64 y.k) ∧ W.cell? ⟨wr.heap.size + 1, 1, none⟩ = some (.string (tx y.t)) := ⟨h.out.1.cell 0, h.out.1.cell 1, h.out.2.1.cell 0, h.out.2.1.cell 1⟩
theorem BW.fz {wr W : World} {x y : Wz} (h : Hid (BW wr W x y)) : W.frozen? ⟨wr.heap.size, 0, none⟩ = false ∧ W.frozen? ⟨wr.heap.size, 1, none⟩ = false ∧ W.frozen? ⟨wr.heap.size + 1, 0, none⟩ = false ∧ W.frozen? ⟨wr.heap.size + 1, 1, none⟩ = false := ⟨h.out.1.frozen 0, h.out.1.frozen 1, h.out.2.1.frozen 0, h.out.2.1.frozen 1⟩
theorem BW.put1 {wr W : World} {x y : Wz} (h : Hid (BW wr W x y)) (z : Wz) : Hid (BW wr ((W.setCell ⟨wr.heap.size, 0, none⟩ (.int .i64 z.k)).setCell ⟨wr.heap.size, 1, none⟩ (.string (tx z.t))) z y) :=
  Lib.hid ⟨(h.out.1.set 0 _).set 1 _, (h.out.2.1.set_far (by simp) _).set_far (by simp) _, (h.out.2.2.setCell (Nat.le_refl _) _).setCell (Nat.le_refl _) _⟩
theorem BW.put2 {wr W : World} {x y : Wz} (h : Hid (BW wr W x y)) (z : Wz) : Hid (BW wr ((W.setCell ⟨wr.heap.size + 1, 0, none⟩ (.int .i64 z.k)).setCell ⟨wr.heap.size + 1, 1, none⟩ (.string (tx z.t))) x z) :=
  Lib.hid ⟨(h.out.1.set_far (by simp) _).set_far (by simp) _, (h.out.2.1.set 0 _).set 1 _, (h.out.2.2.setCell (Nat.le_succ _) _).setCell (Nat.le_succ _) _⟩
theorem wz_head (l : List Wz) (i : Nat) (h : i < l.length) (x : Wz) (hx : (l.drop i).headD nZ = x) : l[i] = x := by
  rw [List.drop_eq_getElem_cons h] at hx; exact hx
theorem wz_none (l : List Wz) (i : Nat) (h : l.length ≤ i) (x : Wz) (hx : (l.drop i).headD nZ = x) : x = nZ := by
  rw [List.drop_of_length_le h] at hx; exact hx.symm
theorem wz_at {B n i : Nat} {w : World} {A : Option Addr} {l : List Wz} (h : WzR B w A n l) (hi : i < n) {x : Wz} (hx : (l.drop i).headD nZ = x) : ∃ g o, A = some ⟨g, o, none⟩ ∧ w.cell? ⟨g, o + i * 2, none⟩ = some (.int .i64 x.k) ∧ w.cell? ⟨g, o + i * 2 + 1, none⟩ = some (.string (tx x.t)) := by
  have hl : i < l.length := by rw [← h.1]; exact hi
  obtain ⟨g, o, h1, _, h2, h3⟩ := h.2 i hl
  rw [wz_head l i hl x hx] at h2 h3
  exact ⟨g, o, h1, h2, h3⟩

set_option maxRecDepth 100000 in
set_option maxHeartbeats 4000000 in
theorem rWords_c (A1 A2 : Option Addr) (n1 n2 c1 c2 : Nat) (l1 l2 : List Wz) (w : World) (B : Nat) (hB : B ≤ w.heap.size) (h1 : WzR B w A1 n1 l1) (h2 : WzR B w A2 n2 l2) (hm1 : n1 ≤ 1000000) (hm2 : n2 ≤ 1000000) (s1 : ShortW l1) (s2 : ShortW l2) (F : Int) (hF : wordsC l1 l2 = F) :
    Calls Tryz.prog 40 #[.slice A1 n1 c1, .slice A2 n2 c2] w fun e w' => e = .returned (.int .i64 F) ∧ Hid (Below w.heap.size w w') := by
  have hF0 : wordsC (l1.drop 0) (l2.drop 0) = F := by rw [List.drop_zero, List.drop_zero]; exact hF
  have HF := Lib.hid hF0
  have HL : Hid (n1 = l1.length ∧ n2 = l2.length) := Lib.hid ⟨h1.1, h2.1⟩
  have H1 := Lib.hid h1
  have H2 := Lib.hid h2
  have S1 := Lib.hid s1
  have S2 := Lib.hid s2
  have HBB := Lib.hid hB
  clear hF hF0 h1 h2 s1 s2 hB
  go_enter Tryz.func40, Tryz.ntmps40
  go_wp2_with fail
  go_loopw [5] (fun iv wr => ∃ i : Nat, iv = .int .i64 i ∧ i ≤ 1000000 ∧ Hid (i ≤ n1 ∨ i ≤ n2) ∧ Hid (wordsC (l1.drop i) (l2.drop i) = F) ∧ Hid (Below w.heap.size w wr)) (fun iv _ => n1 + n2 - (intOf iv).toNat)
  case atStart => exact ⟨0, rfl, by omega, Lib.hid (by omega), HF, Lib.hid (Below.refl _ _)⟩
  case round =>
    obtain ⟨i, rfl, hi, hin, hgo, hbd⟩ := hrel
    by_cases hend : n1 ≤ i ∧ n2 ≤ i
    · have e1 : ¬ i < n1 := by omega
      have e2 : ¬ i < n2 := by omega
      have hz : Hid (0 = F) := Lib.hid (by rw [← hgo.out, wordsC_end _ _ _ (by rw [← HL.out.1]; exact hend.1) (by rw [← HL.out.2]; exact hend.2)])
      clear hend hgo hin
      go_wp2_with fail
      go_ret
      obtain rfl := hz.out
      exact ⟨rfl, hbd⟩
    · obtain ⟨x, hx⟩ : ∃ x, (l1.drop i).headD nZ = x := ⟨_, rfl⟩
      obtain ⟨y, hy⟩ : ∃ y, (l2.drop i).headD nZ = y := ⟨_, rfl⟩
      have hg := hgo.out
      rw [wordsC_go, hx, hy] at hg
      have lx : Hid (x.t.length ≤ maxLen) := Lib.hid (by rw [← hx]; exact S1.out.head i)
      have ly : Hid (y.t.length ≤ maxLen) := Lib.hid (by rw [← hy]; exact S2.out.head i)
      have HX := Lib.hid hx
      have HY := Lib.hid hy
      obtain ⟨q, hq⟩ : ∃ q, cmpZ x y = q := ⟨_, rfl⟩
      rw [hq] at hg
      have HQ := Lib.hid hq
      have HG := Lib.hid hg
      have hlt : i + 1 ≤ n1 ∨ i + 1 ≤ n2 := by omega
      have HLT := Lib.hid hlt
      have X0 : Hid (BW wr ((wr.alloc (.cells #[.int .i64 6, .string ⟨#[]⟩] 68)).alloc (.cells #[.int .i64 6, .string ⟨#[]⟩] 68)) nZ nZ) := Lib.hid (BW.new wr nZ nZ)
      have hguard : i < n1 ∨ ¬ i < n1 ∧ i < n2 := by omega
      clear hx hy hq hg hgo hlt
      have G1 : Hid (i < n1 ∨ n1 ≤ i) := Lib.hid (by omega)
      rcases hguard with hga | ⟨hga, hgb⟩
      all_goals (
        go_upto_if 26 with fail
        go_cut [] from 9 to 44 (fun wx => Hid (BW wr wx x nZ))
        case first =>
          by_cases hi1 : i < n1
          · first
              | exact absurd hi1 hga
              | (obtain ⟨g, o, rfl, a0, a1⟩ := wz_at (H1.out.below ((hbd.out.trans (X0.out.2.2.mono hbd.out.size)).mono HBB.out)) hi1 HX.out
                 obtain ⟨f0, f1, f2, f3⟩ := BW.fz X0
                 go_wp2_with fail
                 go_meet
                 exact Lib.hid (BW.new wr x nZ))
          · have hx0 : x = nZ := wz_none l1 i (by have := HL.out.1; omega) x HX.out
            first
              | exact absurd hga hi1
              | (subst hx0
                 go_wp2_with fail
                 go_meet
                 exact X0)
        case rest =>
        have X1 := hcut
        clear hcut X0
        go_upto_if 34 with fail
        go_cut [] from 9 to 44 (fun wx => Hid (BW wr wx x y))
        case first =>
          by_cases hi1 : i < n2
          · obtain ⟨g, o, rfl, a0, a1⟩ := wz_at (H2.out.below ((hbd.out.trans (X1.out.2.2.mono hbd.out.size)).mono HBB.out)) hi1 HY.out
            obtain ⟨f0, f1, f2, f3⟩ := BW.fz X1
            obtain ⟨k0, k1, k2, k3⟩ := BW.rd X1
            have X2 := BW.put2 X1 y
            go_wp2_with fail
            go_meet
            exact X2
          · have hx0 : y = nZ := wz_none l2 i (by have := HL.out.2; omega) y HY.out
            first
              | exact absurd hgb hi1
              | (subst hx0
                 go_wp2_with fail
                 go_meet
                 exact X1)
        case rest =>
        have X2 := hcut
        clear hcut X1
        obtain ⟨k0, k1, k2, k3⟩ := BW.rd X2
        go_wp2_with fail
        refine (rone_c x y _ lx.out ly.out q HQ.out).mono ?_
        rintro e w3 ⟨rfl, b3⟩
        have B3 := Lib.hid (hbd.out.trans ((X2.out.2.2.trans (b3.out.mono X2.out.2.2.size)).mono hbd.out.size))
        clear b3 X2
        by_cases hq0 : q = 0
        · subst hq0
          have hg2 : Hid (wordsC (l1.drop (i + 1)) (l2.drop (i + 1)) = F) := Lib.hid HG.out
          go_wp2_with fail
          go_roundw
          case rel => exact ⟨i + 1, by go_num, by have := HLT.out; omega, HLT, hg2, B3⟩
          case measure => (have := HLT.out); simp [intOf]; omega
        · have hz : Hid (q = F) := Lib.hid (by have := HG.out; unfold thenI at this; rw [if_neg hq0] at this; exact this)
          have hq1 : (q != 0) = true := by rw [bne_iff_ne]; exact hq0
          go_wp2_with fail
          go_ret
          obtain rfl := hz.out
          exact ⟨rfl, B3⟩)

set_option maxRecDepth 100000 in
set_option maxHeartbeats 1000000 in
theorem rCompare_c (a b : ByteArray) (w : World) (ha : a.size ≤ 3000) (hb : b.size ≤ 3000) (F : Int) (hF : cmpV (bs a) (bs b) = F) :
    Calls Tryz.prog 26 #[.string a, .string b] w fun e w' => e = .returned (.int .i64 F) ∧ Hid (Below w.heap.size w w') := by
  have HF := Lib.hid hF
  have KA := Lib.hid (spZ_short (bs a) (by rw [bs_length]; omega))
  have KB := Lib.hid (spZ_short (bs b) (by rw [bs_length]; omega))
  have LA := Lib.hid (splitW_le (bs a))
  have LB := Lib.hid (splitW_le (bs b))
  have ha3 : a.size ≤ 100000 := by omega
  have hb3 : b.size ≤ 100000 := by omega
  have sa := bs_length a
  have sb := bs_length b
  clear hF
  go_enter Tryz.func26, Tryz.ntmps26
  go_wp2_with fail
  refine (refsplit_c a _ ha3 _ rfl _ rfl).mono ?_
  rintro e w1 ⟨A1, c1, rfl, R1, b1⟩
  go_wp2_with fail
  refine (refsplit_c b _ hb3 _ rfl _ rfl).mono ?_
  rintro e w2 ⟨A2, c2, rfl, R2, b2⟩
  have B2 := Lib.hid (b1.out.trans (b2.out.mono b1.out.size))
  have Q1 := Lib.hid ((R1.out.below b2.out).mono b2.out.size)
  go_wp2_with fail
  refine (rWords_c A1 A2 _ _ c1 c2 _ _ w2 _ (Nat.le_refl _) (WdR.z Q1.out) (WdR.z R2.out) (by have := LA.out; omega) (by have := LB.out; omega) KA.out KB.out F HF.out).mono ?_
  rintro e w3 ⟨rfl, b3⟩
  have B3 := Lib.hid (B2.out.trans (b3.out.mono B2.out.size))
  go_wp2_with fail
  go_ret
  exact ⟨rfl, B3⟩
end Go.Proofs.YtkphkcpckgdgaaaGreatDoor

namespace Nwl
open Go
/-- the way the document puts it -/
theorem may_cmp (s : Sp) (c : Int) (hc : cmpV s.lo s.hi = c) (hl : s.lo ≠ []) (hh : s.hi ≠ []) (r1 : rightV s.lo = true) (r2 : rightV s.hi = true) : mayB s = (decide (c < 0) || (c == 0 && (s.il && s.ih))) := by
  have ha := ord_v.anti s.lo s.hi
  unfold mayB boundB aboveB
  rw [nil_beq _ hl, nil_beq _ hh, r1, r2, ha, hc]
  simp only [Bool.false_and, Bool.false_or, Bool.true_and]
  congr 1
  · rw [Bool.eq_iff_iff, decide_eq_true_eq, decide_eq_true_eq]; omega
  · congr 1
    rw [Bool.eq_iff_iff, beq_iff_eq, beq_iff_eq]; omega
theorem may_lo (s : Sp) (hl : s.lo = []) : mayB s = (!s.il && boundB s.hi s.ih) := by
  unfold mayB boundB
  rw [hl]
  have : rightV [] = false := by decide
  rw [this]
  simp
theorem may_hi (s : Sp) (hl : s.hi = []) : mayB s = (boundB s.lo s.il && !s.ih) := by
  unfold mayB boundB
  rw [hl]
  have : rightV [] = false := by decide
  rw [this]
  simp
theorem bound_ne (l : List UInt8) (i : Bool) (h : l ≠ []) : boundB l i = rightV l := by
  unfold boundB; rw [nil_beq _ h]; simp
theorem may_r1 (s : Sp) (hl : s.lo ≠ []) (r1 : rightV s.lo = false) : mayB s = false := by
  unfold mayB; rw [bound_ne _ _ hl, r1]; rfl
theorem may_r2 (s : Sp) (hl : s.hi ≠ []) (r1 : rightV s.hi = false) : mayB s = false := by
  unfold mayB; rw [bound_ne _ _ hl, r1]; simp
end Nwl
namespace Go.Proofs.YtkphkcpckgdgaaaGreatDoor
open Nwl
open Go.RowKit Go.Maps
set_option linter.unusedVariables false

set_option maxRecDepth 100000 in
set_option maxHeartbeats 2000000 in
theorem rMay_w (a b : ByteArray) (p q : Bool) (w : World) (ha : a.size ≤ 3000) (hb : b.size ≤ 3000) (r : Bool) (hr : mayB ⟨bs a, bs b, p, q⟩ = r) :
    Calls Tryz.prog 31 #[.agg #[.string a, .string b, .bool p, .bool q]] w fun e w' => e = .returned (.bool r) ∧ Hid (Below w.heap.size w w') := by
  have ha2 : a.size ≤ maxLen := by unfold maxLen; omega
  have hb2 : b.size ≤ maxLen := by unfold maxLen; omega
  have B0 : Hid (Below w.heap.size w (w.alloc (.cells #[.string a, .string b, .bool p, .bool q] 27))) := Lib.hid ((Below.refl _ _).alloc (Nat.le_refl _) _)
  obtain ⟨k0, k1, k2, k3⟩ := box4 w (.string a) (.string b) (.bool p) (.bool q)
  have X0 := Lib.hid (Blk.new w 27 #[.string a, .string b, .bool p, .bool q])
  by_cases h0 : a.size = 0
  · have he : a.toList = [] := toList_nil_of a h0
    rw [may_lo _ (bs_nil h0)] at hr
    dsimp only at hr
    by_cases h1 : b.size = 0
    · have he2 : b.toList = [] := toList_nil_of b h1
      rw [bs_nil h1] at hr
      cases p <;> cases q
      all_goals (
        have HR : Hid (_ = r) := Lib.hid hr
        clear hr h0 h1
        go_enter Tryz.func31, Tryz.ntmps31
        go_wp2_with fail
        go_ret
        exact ⟨ret_bool HR.out, B0⟩)
    · have hs : 0 < b.size := by omega
      have hne : (b.toList == []) = false := by rw [toList_bs]; exact bs_beq_nil hs
      have hne1 : (b.toList != []) = true := by rw [bne, hne]; rfl
      rw [bound_ne _ _ (by rw [bs_hd hs]; simp)] at hr
      obtain ⟨R, hR⟩ : ∃ R, rightV (bs b) = R := ⟨_, rfl⟩
      rw [hR] at hr
      have HRR := Lib.hid hR
      cases R <;> cases p
      all_goals (
        have HR : Hid (_ = r) := Lib.hid hr
        clear hr h0 h1 hR
        go_enter Tryz.func31, Tryz.ntmps31
        go_wp2_with fail
        refine (refRight_c b _ hb2 _ HRR.out).mono ?_
        rintro e w1 ⟨rfl, rfl⟩
        go_wp2_with fail
        go_ret
        exact ⟨ret_bool HR.out, B0⟩)
  · have hs : 0 < a.size := by omega
    have hne : (a.toList == []) = false := by rw [toList_bs]; exact bs_beq_nil hs
    have hne1 : (a.toList != []) = true := by rw [bne, hne]; rfl
    have hal : bs a ≠ [] := by rw [bs_hd hs]; simp
    obtain ⟨R, hR⟩ : ∃ R, rightV (bs a) = R := ⟨_, rfl⟩
    have HRA := Lib.hid hR
    cases R with
    | false =>
      rw [may_r1 _ hal hR] at hr
      have HR : Hid (_ = r) := Lib.hid hr
      clear hr h0 hR hal
      go_enter Tryz.func31, Tryz.ntmps31
      go_wp2_with fail
      refine (refRight_c a _ ha2 _ HRA.out).mono ?_
      rintro e w1 ⟨rfl, rfl⟩
      go_wp2_with fail
      go_ret
      exact ⟨ret_bool HR.out, B0⟩
    | true =>
      by_cases h1 : b.size = 0
      · have he2 : b.toList = [] := toList_nil_of b h1
        rw [may_hi _ (bs_nil h1)] at hr
        dsimp only at hr
        rw [bound_ne _ _ hal, hR] at hr
        cases q
        all_goals (
          have HR : Hid (_ = r) := Lib.hid hr
          clear hr h0 h1 hR hal
          go_enter Tryz.func31, Tryz.ntmps31
          go_wp2_with fail
          refine (refRight_c a _ ha2 _ HRA.out).mono ?_
          rintro e w1 ⟨rfl, rfl⟩
          go_wp2_with fail
          go_ret
          exact ⟨ret_bool HR.out, B0⟩)
      · have hs2 : 0 < b.size := by omega
        have hneb : (b.toList == []) = false := by rw [toList_bs]; exact bs_beq_nil hs2
        have hneb1 : (b.toList != []) = true := by rw [bne, hneb]; rfl
        have hbl : bs b ≠ [] := by rw [bs_hd hs2]; simp
        obtain ⟨R2, hR2⟩ : ∃ R, rightV (bs b) = R := ⟨_, rfl⟩
        have HRB := Lib.hid hR2
        cases R2 with
        | false =>
          rw [may_r2 _ hbl hR2] at hr
          have HR : Hid (_ = r) := Lib.hid hr
          clear hr h0 h1 hR hR2 hal hbl
          go_enter Tryz.func31, Tryz.ntmps31
          go_wp2_with fail
          refine (refRight_c a _ ha2 _ HRA.out).mono ?_
          rintro e w1 ⟨rfl, rfl⟩
          go_wp2_with fail
          refine (refRight_c b _ hb2 _ HRB.out).mono ?_
          rintro e w1 ⟨rfl, rfl⟩
          go_wp2_with fail
          go_ret
          exact ⟨ret_bool HR.out, B0⟩
        | true =>
          obtain ⟨c, hc⟩ : ∃ c, cmpV (bs a) (bs b) = c := ⟨_, rfl⟩
          have hsg := ord_v.sgn (bs a) (bs b)
          rw [hc] at hsg
          rw [may_cmp ⟨bs a, bs b, p, q⟩ c hc hal hbl hR hR2] at hr
          dsimp only at hr
          have HC := Lib.hid hc
          clear hc hR hR2 h0 h1 hal hbl
          rcases hsg with rfl | rfl | rfl
          · have HR : Hid (_ = r) := Lib.hid hr
            clear hr
            go_enter Tryz.func31, Tryz.ntmps31
            go_wp2_with fail
            refine (refRight_c a _ ha2 _ HRA.out).mono ?_
            rintro e w1 ⟨rfl, rfl⟩
            go_wp2_with fail
            refine (refRight_c b _ hb2 _ HRB.out).mono ?_
            rintro e w1 ⟨rfl, rfl⟩
            go_wp2_with fail
            refine (rCompare_c a b _ ha hb _ HC.out).mono ?_
            rintro e w1 ⟨rfl, b1⟩
            have B1 := Lib.hid (B0.out.trans (b1.out.mono B0.out.size))
            go_wp2_with fail
            go_ret
            exact ⟨ret_bool HR.out, B1⟩
          · have HR : Hid ((p && q) = r) := Lib.hid (by rw [← hr]; rfl)
            clear hr
            cases p
            all_goals (
              go_enter Tryz.func31, Tryz.ntmps31
              go_wp2_with fail
              refine (refRight_c a _ ha2 _ HRA.out).mono ?_
              rintro e w1 ⟨rfl, rfl⟩
              go_wp2_with fail
              refine (refRight_c b _ hb2 _ HRB.out).mono ?_
              rintro e w1 ⟨rfl, rfl⟩
              go_wp2_with fail
              refine (rCompare_c a b _ ha hb _ HC.out).mono ?_
              rintro e w1 ⟨rfl, b1⟩
              have B1 := Lib.hid (B0.out.trans (b1.out.mono B0.out.size))
              have X1 := X0.out.below b1.out
              have j2 := X1.cell 2
              have j3 := X1.cell 3
              simp at j2 j3
              clear X1
              go_wp2_with fail
              go_ret
              exact ⟨ret_bool HR.out, B1⟩)
          · have HR : Hid (_ = r) := Lib.hid hr
            clear hr
            go_enter Tryz.func31, Tryz.ntmps31
            go_wp2_with fail
            refine (refRight_c a _ ha2 _ HRA.out).mono ?_
            rintro e w1 ⟨rfl, rfl⟩
            go_wp2_with fail
            refine (refRight_c b _ hb2 _ HRB.out).mono ?_
            rintro e w1 ⟨rfl, rfl⟩
            go_wp2_with fail
            refine (rCompare_c a b _ ha hb _ HC.out).mono ?_
            rintro e w1 ⟨rfl, b1⟩
            have B1 := Lib.hid (B0.out.trans (b1.out.mono B0.out.size))
            go_wp2_with fail
            go_ret
            exact ⟨ret_bool HR.out, B1⟩
theorem rMay_c (s : Sp) (w : World) (ha : s.lo.length ≤ 3000) (hb : s.hi.length ≤ 3000) (r : Bool) (hr : mayB s = r) :
    Calls Tryz.prog 31 #[spV s] w fun e w' => e = .returned (.bool r) ∧ Hid (Below w.heap.size w w') :=
  rMay_w (tx s.lo) (tx s.hi) s.il s.ih w (by rw [tx_size]; exact ha) (by rw [tx_size]; exact hb) r (by rw [bs_tx, bs_tx]; exact hr)
end Go.Proofs.YtkphkcpckgdgaaaGreatDoor
