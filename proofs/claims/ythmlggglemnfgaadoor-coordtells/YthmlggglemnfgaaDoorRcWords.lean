/-
  The document's Words, Compare (newelref05).
-/
import Derived.Test.YthmlggglemnfgaaDoorRcCmp
import Derived.Deep.CutRange
namespace Go.Proofs.YthmlggglemnfgaaDoor
open Nwl
open Go.RowKit Go.Maps
set_option linter.unusedVariables false

/-- the two words under way -/
def BW (wr W : World) (x y : Wz) : Prop := Blk W wr.heap.size 53 #[.int .i64 x.k, .string (tx x.t)] ∧ Blk W (wr.heap.size + 1) 53 #[.int .i64 y.k, .string (tx y.t)] ∧ Below wr.heap.size wr W
theorem BW.new (wr : World) (x y : Wz) : BW wr ((wr.alloc (.cells #[.int .i64 x.k, .string (tx x.t)] 53)).alloc (.cells #[.int .i64 y.k, .string (tx y.t)] 53)) x y := by
  refine ⟨(Blk.new wr _ _).alloc _, ?_, ((Below.refl _ _).alloc (Nat.le_refl _) _).alloc (by simp) _⟩
  have := Blk.new (wr.alloc (.cells #[.int .i64 x.k, .string (tx x.t)] 53)) 53 #[.int .i64 y.k, .string (tx y.t)]
  simpa using this
theorem BW.rd {wr W : World} {x y : Wz} (h : Hid (BW wr W x y)) : W.cell? ⟨wr.heap.size, 0, none⟩ = some (.int .i64 x.k) ∧ W.cell? ⟨wr.heap.size, 1, none⟩ = some (.string (tx x.t)) ∧ W.cell? ⟨wr.heap.size + 1, 0, none⟩ = some (.int .i64 y.k) ∧ W.cell? ⟨wr.heap.size + 1, 1, none⟩ = some (.string (tx y.t)) := ⟨h.out.1.cell 0, h.out.1.cell 1, h.out.2.1.cell 0, h.out.2.1.cell 1⟩
theorem BW.fz {wr W : World} {x y : Wz} (h : Hid (BW wr W x y)) : W.frozen? ⟨wr.heap.size, 0, none⟩ = false ∧ W.frozen? ⟨wr.heap.size, 1, none⟩ = false ∧ W.frozen? ⟨wr.heap.size + 1, 0, none⟩ = false ∧ W.frozen? ⟨wr.heap.size + 1, 1, none⟩ = false := ⟨h.out.1.frozen 0, h.out.1.frozen 1, h.out.2.1.frozen 0, h.out.2.1.frozen 1⟩
theorem BW.put1 {wr W : World} {x y : Wz} (h : Hid (BW wr W x y)) (z : Wz) : Hid (BW wr ((W.setCell ⟨wr.heap.size, 0, none⟩ (.int .i64 z.k)).setCell ⟨wr.heap.size, 1, none⟩ (.string (tx z.t))) z y) :=
  Lib.hid ⟨(h.out.1.set 0 _).set 1 _, (h.out.2.1.set_far (by simp) _).set_far (by simp) _, (h.out.2.2.setCell (Nat.le_refl _) _).setCell (Nat.le_refl _) _⟩
theorem BW.put2 {wr W : World} {x y : Wz} (h : Hid (BW wr W x y)) (z : Wz) : Hid (BW wr ((W.setCell ⟨wr.heap.size + 1, 0, none⟩ (.int .i64 z.k)).setCell ⟨wr.heap.size + 1, 1, none⟩ (.string (tx z.t))) x z) :=
  Lib.hid ⟨(h.out.1.set_far (by simp) _).set_far (by simp) _, (h.out.2.1.set 0 _).set 1 _, (h.out.2.2.setCell (Nat.le_succ _) _).setCell (Nat.le_succ _) _⟩
theorem wz_head (l : List Wz) (i : Nat) (h : i < l.length) (x : Wz) (hx : (l.drop i).headD nZ = x) : l[i] = x := by
  rw [List.drop_eq_getElem_cons h] at hx; exact hx
theorem wz_none (l : List Wz) (i : Nat) (h : l.length ≤ i) (x : Wz) (hx : (l.drop i).headD nZ = x) : x = nZ := by
  rw [List.drop_of_length_le h] at hx; exact hx.symm
theorem wz_at {B n i : Nat} {w : World} {A : Option Addr} {l : List Wz} (h : WzR B w A n l) (hi : i < n) {x : Wz} (hx : (l.drop i).headD nZ = x) : ∃ g o, A = some ⟨g, o, none⟩ ∧ w.cell? ⟨g, o + i * 2, none⟩ = some (.int .i64 x.k) ∧ w.cell? ⟨g, o + i * 2 + 1, none⟩ = some (.string (tx x.t)) := by
  have hl : i < l.length := by rw [← h.1]; exact hi
  obtain ⟨g, o, h1, _, h2, h3⟩ := h.2 i hl
  rw [wz_head l i hl x hx] at h2 h3
  exact ⟨g, o, h1, h2, h3⟩

set_option maxRecDepth 100000 in
set_option maxHeartbeats 4000000 in
theorem rWords_c (A1 A2 : Option Addr) (n1 n2 c1 c2 : Nat) (l1 l2 : List Wz) (w : World) (B : Nat) (hB : B ≤ w.heap.size) (h1 : WzR B w A1 n1 l1) (h2 : WzR B w A2 n2 l2) (hm1 : n1 ≤ 1000000) (hm2 : n2 ≤ 1000000) (s1 : ShortW l1) (s2 : ShortW l2) (F : Int) (hF : wordsC l1 l2 = F) :
    Calls Tryd.prog 52 #[.slice A1 n1 c1, .slice A2 n2 c2] w fun e w' => e = .returned (.int .i64 F) ∧ Hid (Below w.heap.size w w') := by
  have hF0 : wordsC (l1.drop 0) (l2.drop 0) = F := by rw [List.drop_zero, List.drop_zero]; exact hF
  have HF := Lib.hid hF0
  have HL : Hid (n1 = l1.length ∧ n2 = l2.length) := Lib.hid ⟨h1.1, h2.1⟩
  have H1 := Lib.hid h1
  have H2 := Lib.hid h2
  have S1 := Lib.hid s1
  have S2 := Lib.hid s2
  have HBB := Lib.hid hB
  clear hF hF0 h1 h2 s1 s2 hB
  go_enter Tryd.func52, Tryd.ntmps52
  go_wp2_with fail
  go_loopw [5] (fun iv wr => ∃ i : Nat, iv = .int .i64 i ∧ i ≤ 1000000 ∧ Hid (i ≤ n1 ∨ i ≤ n2) ∧ Hid (wordsC (l1.drop i) (l2.drop i) = F) ∧ Hid (Below w.heap.size w wr)) (fun iv _ => n1 + n2 - (intOf iv).toNat)
  case atStart => exact ⟨0, rfl, by omega, Lib.hid (by omega), HF, Lib.hid (Below.refl _ _)⟩
  case round =>
    obtain ⟨i, rfl, hi, hin, hgo, hbd⟩ := hrel
    by_cases hend : n1 ≤ i ∧ n2 ≤ i
    · have e1 : ¬ i < n1 := by omega
      have e2 : ¬ i < n2 := by omega
      have hz : Hid (0 = F) := Lib.hid (by rw [← hgo.out, wordsC_end _ _ _ (by rw [← HL.out.1]; exact hend.1) (by rw [← HL.out.2]; exact hend.2)])
      clear hend hgo hin
      go_wp2_with fail
      go_ret
      obtain rfl := hz.out
      exact ⟨rfl, hbd⟩
    · obtain ⟨x, hx⟩ : ∃ x, (l1.drop i).headD nZ = x := ⟨_, rfl⟩
      obtain ⟨y, hy⟩ : ∃ y, (l2.drop i).headD nZ = y := ⟨_, rfl⟩
      have hg := hgo.out
      rw [wordsC_go, hx, hy] at hg
      have lx : Hid (x.t.length ≤ maxLen) := Lib.hid (by rw [← hx]; exact S1.out.head i)
      have ly : Hid (y.t.length ≤ maxLen) := Lib.hid (by rw [← hy]; exact S2.out.head i)
      have HX := Lib.hid hx
      have HY := Lib.hid hy
      obtain ⟨q, hq⟩ : ∃ q, cmpZ x y = q := ⟨_, rfl⟩
      rw [hq] at hg
      have HQ := Lib.hid hq
      have HG := Lib.hid hg
      have hlt : i + 1 ≤ n1 ∨ i + 1 ≤ n2 := by omega
      have HLT := Lib.hid hlt
      have X0 : Hid (BW wr ((wr.alloc (.cells #[.int .i64 6, .string ⟨#[]⟩] 53)).alloc (.cells #[.int .i64 6, .string ⟨#[]⟩] 53)) nZ nZ) := Lib.hid (BW.new wr nZ nZ)
      have hguard : i < n1 ∨ ¬ i < n1 ∧ i < n2 := by omega
      clear hx hy hq hg hgo hlt
      have G1 : Hid (i < n1 ∨ n1 ≤ i) := Lib.hid (by omega)
      rcases hguard with hga | ⟨hga, hgb⟩
      all_goals (
        go_upto_if 26 with fail
        go_cut [] from 9 to 44 (fun wx => Hid (BW wr wx x nZ))
        case first =>
          by_cases hi1 : i < n1
          · first
              | exact absurd hi1 hga
              | (obtain ⟨g, o, rfl, a0, a1⟩ := wz_at (H1.out.below ((hbd.out.trans (X0.out.2.2.mono hbd.out.size)).mono HBB.out)) hi1 HX.out
                 obtain ⟨f0, f1, f2, f3⟩ := BW.fz X0
                 go_wp2_with fail
                 go_meet
                 exact Lib.hid (BW.new wr x nZ))
          · have hx0 : x = nZ := wz_none l1 i (by have := HL.out.1; omega) x HX.out
            first
              | exact absurd hga hi1
              | (subst hx0
                 go_wp2_with fail
                 go_meet
                 exact X0)
        case rest =>
        have X1 := hcut
        clear hcut X0
        go_upto_if 34 with fail
        go_cut [] from 9 to 44 (fun wx => Hid (BW wr wx x y))
        case first =>
          by_cases hi1 : i < n2
          · obtain ⟨g, o, rfl, a0, a1⟩ := wz_at (H2.out.below ((hbd.out.trans (X1.out.2.2.mono hbd.out.size)).mono HBB.out)) hi1 HY.out
            obtain ⟨f0, f1, f2, f3⟩ := BW.fz X1
            obtain ⟨k0, k1, k2, k3⟩ := BW.rd X1
            have X2 := BW.put2 X1 y
            go_wp2_with fail
            go_meet
            exact X2
          · have hx0 : y = nZ := wz_none l2 i (by have := HL.out.2; omega) y HY.out
            first
              | exact absurd hgb hi1
              | (subst hx0
                 go_wp2_with fail
                 go_meet
                 exact X1)
        case rest =>
        have X2 := hcut
        clear hcut X1
        obtain ⟨k0, k1, k2, k3⟩ := BW.rd X2
        go_wp2_with fail
        refine (rone_c x y _ lx.out ly.out q HQ.out).mono ?_
        rintro e w3 ⟨rfl, b3⟩
        have B3 := Lib.hid (hbd.out.trans ((X2.out.2.2.trans (b3.out.mono X2.out.2.2.size)).mono hbd.out.size))
        clear b3 X2
        by_cases hq0 : q = 0
        · subst hq0
          have hg2 : Hid (wordsC (l1.drop (i + 1)) (l2.drop (i + 1)) = F) := Lib.hid HG.out
          go_wp2_with fail
          go_roundw
          case rel => exact ⟨i + 1, by go_num, by have := HLT.out; omega, HLT, hg2, B3⟩
          case measure => (have := HLT.out); simp [intOf]; omega
        · have hz : Hid (q = F) := Lib.hid (by have := HG.out; unfold thenI at this; rw [if_neg hq0] at this; exact this)
          have hq1 : (q != 0) = true := by rw [bne_iff_ne]; exact hq0
          go_wp2_with fail
          go_ret
          obtain rfl := hz.out
          exact ⟨rfl, B3⟩)

set_option maxRecDepth 100000 in
set_option maxHeartbeats 1000000 in
theorem rCompare_c (a b : ByteArray) (w : World) (ha : a.size ≤ 3000) (hb : b.size ≤ 3000) (F : Int) (hF : cmpV (bs a) (bs b) = F) :
    Calls Tryd.prog 39 #[.string a, .string b] w fun e w' => e = .returned (.int .i64 F) ∧ Hid (Below w.heap.size w w') := by
  have HF := Lib.hid hF
  have KA := Lib.hid (spZ_short (bs a) (by rw [bs_length]; omega))
  have KB := Lib.hid (spZ_short (bs b) (by rw [bs_length]; omega))
  have LA := Lib.hid (splitW_le (bs a))
  have LB := Lib.hid (splitW_le (bs b))
  have ha3 : a.size ≤ 100000 := by omega
  have hb3 : b.size ≤ 100000 := by omega
  have sa := bs_length a
  have sb := bs_length b
  clear hF
  go_enter Tryd.func39, Tryd.ntmps39
  go_wp2_with fail
  refine (refsplit_c a _ ha3 _ rfl _ rfl).mono ?_
  rintro e w1 ⟨A1, c1, rfl, R1, b1⟩
  go_wp2_with fail
  refine (refsplit_c b _ hb3 _ rfl _ rfl).mono ?_
  rintro e w2 ⟨A2, c2, rfl, R2, b2⟩
  have B2 := Lib.hid (b1.out.trans (b2.out.mono b1.out.size))
  have Q1 := Lib.hid ((R1.out.below b2.out).mono b2.out.size)
  go_wp2_with fail
  refine (rWords_c A1 A2 _ _ c1 c2 _ _ w2 _ (Nat.le_refl _) (WdR.z Q1.out) (WdR.z R2.out) (by have := LA.out; omega) (by have := LB.out; omega) KA.out KB.out F HF.out).mono ?_
  rintro e w3 ⟨rfl, b3⟩
  have B3 := Lib.hid (B2.out.trans (b3.out.mono B2.out.size))
  go_wp2_with fail
  go_ret
  exact ⟨rfl, B3⟩
end Go.Proofs.YthmlggglemnfgaaDoor
