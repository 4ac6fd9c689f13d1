/-
  The walk of OrderTells.
-/
import Derived.Test.YtjmjklmndokdiaaDoorOrAwake
import Derived.Test.YtjmjklmndokdiaaDoorOrGreat
import Derived.Test.YtjmjklmndokdiaaDoorRcSort
import Derived.Test.YtjmjklmndokdiaaDoorGnOwn
import Derived.Test.YtjmjklmndokdiaaDoorOrStrs
import Derived.Test.YtjmjklmndokdiaaDoorOrArg
namespace Go.Proofs.YtjmjklmndokdiaaDoor
open Nwl
open Go.RowKit Go.Maps
set_option linter.unusedVariables false

theorem own_in {B g n : Nat} {w : World} {l : List (List UInt8)} {f : List UInt8} (hn : n = l.length) (h : StrR B w (some ⟨g, 0, none⟩) (n + 3) (l ++ [f, f, f])) : StrR B w (some ⟨g, 0, none⟩) n l := by
  refine ⟨hn, fun j hj => ?_⟩
  obtain ⟨g', o', e, hg, hc⟩ := h.2 j (by simp; omega)
  rw [List.getElem_append_left (by omega)] at hc
  exact ⟨g', o', e, hg, hc⟩
theorem two_blk (w : World) (a b : ByteArray) : StrR (w.alloc (.cells #[.string a, .string b] 9)).heap.size (w.alloc (.cells #[.string a, .string b] 9)) (some ⟨w.heap.size, 0, none⟩) 2 [bs a, bs b] :=
  StrR.blk (l := [bs a, bs b]) (Blk.new w 9 #[.string a, .string b]) (Blk.new w 9 #[.string a, .string b]).lt (by simp [tx_bs])
theorem Great_c (A : Option Addr) (n c : Nat) (l : List (List UInt8)) (w : World) (h : StrR w.heap.size w A n l) (hn : n ≤ 1000) (hl : ∀ x ∈ l, x.length ≤ 1000) (x : List UInt8) (b : Bool) (hF : (match greatO l with | none => ([], false) | some v => (v, true)) = (x, b)) :
    Calls Tryd.prog 8 #[.slice A n c] w fun e w' => e = .returned (.tuple #[.string (tx x), .bool b]) ∧ Hid (Below w.heap.size w w') := by
  cases l with
  | nil =>
    obtain rfl : n = 0 := h.1
    injection hF with e1 e2
    subst e1 e2
    exact (Greatest_none A c w).mono fun e w' ⟨h1, h2⟩ => by subst h2; exact ⟨h1, Lib.hid (Below.refl _ _)⟩
  | cons y t =>
    injection hF with e1 e2
    subst e2
    exact Greatest_c A n c y t w h hn hl x e1

/-- the greatest, and whether there is one -/
def greatR (l : List (List UInt8)) : List UInt8 × Bool := ((greatO l).getD [], (greatO l).isSome)
theorem Great_r (A : Option Addr) (n c : Nat) (l : List (List UInt8)) (w : World) (h : StrR w.heap.size w A n l) (hn : n ≤ 1000) (hl : ∀ x ∈ l, x.length ≤ 1000) (x : List UInt8) (b : Bool) (hF : greatR l = (x, b)) :
    Calls Tryd.prog 8 #[.slice A n c] w fun e w' => e = .returned (.tuple #[.string (tx x), .bool b]) ∧ Hid (Below w.heap.size w w') := by
  refine Great_c A n c l w h hn hl x b ?_
  unfold greatR at hF
  cases ho : greatO l with
  | none => rw [ho] at hF; exact hF
  | some v => rw [ho] at hF; exact hF
theorem rGreat_r (A : Option Addr) (n c : Nat) (l : List (List UInt8)) (w : World) (h : StrR w.heap.size w A n l) (hn : n ≤ 1000) (hl : ∀ x ∈ l, x.length ≤ 3000) (x : List UInt8) (b : Bool) (hF : greatR l = (x, b)) :
    Calls Tryd.prog 9 #[.slice A n c] w fun e w' => e = .returned (.tuple #[.string (tx x), .bool b]) ∧ Hid (Below w.heap.size w w') := by
  refine rGreatest_c A n c l w h hn hl x b ?_
  unfold greatR at hF
  cases ho : greatO l with
  | none => rw [ho] at hF; exact hF
  | some v => rw [ho] at hF; exact hF

set_option maxRecDepth 100000 in
set_option maxHeartbeats 8000000 in
theorem OrderTells_walk (a b : ByteArray) (A3 : Option Addr) (n3 c3 : Nat) (A4 : Option Addr) (n4 c4 : Nat) (A : Option Addr) (n c : Nat) (w : World) (ma : a.size ≤ maxLen) (mb : b.size ≤ maxLen) (m3 : n3 ≤ maxLen) (k3 : A3 = none → n3 = 0 ∧ c3 = 0) (h3 : ∃ l : List Wz, WzR w.heap.size w A3 n3 l ∧ ShortW l) (m4 : n4 ≤ maxLen) (k4 : A4 = none → n4 = 0 ∧ c4 = 0) (h4 : ∃ l : List Wz, WzR w.heap.size w A4 n4 l ∧ ShortW l) (m1 : n ≤ maxLen) (k1 : A = none → n = 0 ∧ c = 0) (h1 : ∃ l : List (List UInt8), StrR w.heap.size w A n l ∧ ∀ x ∈ l, x.length ≤ maxLen) (hg : Glob w) :
    Calls Tryd.prog 3 #[.string a, .string b, .slice A3 n3 c3, .slice A4 n4 c4, .slice A n c] w fun e w' => e = .returned (.bool true) ∧ Below w.heap.size w w' := by
  obtain ⟨l, hR, hS⟩ := h1
  obtain ⟨lx, hX, sX⟩ := h3
  obtain ⟨ly, hY, sY⟩ := h4
  have HR := Lib.hid hR
  have HS := Lib.hid hS
  have HX := Lib.hid hX
  have HY := Lib.hid hY
  have SX := Lib.hid sX
  have SY := Lib.hid sY
  have HM := Lib.hid m1
  have HK := Lib.hid k1
  have BX : Hid (Below w.heap.size w (w.alloc (.cells #[.string a, .string b] 9))) := Lib.hid ((Below.refl _ _).alloc (Nat.le_refl _) _)
  have HBK : Hid (∀ w : World, StrR (w.alloc (.cells #[.string a, .string b] 9)).heap.size (w.alloc (.cells #[.string a, .string b] 9)) (some ⟨w.heap.size, 0, none⟩) 2 [bs a, bs b]) := Lib.hid fun w => two_blk w a b
  have HR1 := Lib.hid ((HR.out.below BX.out).mono BX.out.size)
  have HAB : Hid (∀ x ∈ [bs a, bs b], x.length ≤ maxLen) := Lib.hid (by
    intro x hx
    simp at hx
    rcases hx with rfl | rfl <;> rw [bs_length] <;> assumption)
  obtain ⟨f1, hf1⟩ : ∃ f, fewL [bs a, bs b] = f := ⟨_, rfl⟩
  obtain ⟨f2, hf2⟩ : ∃ f, fewL l = f := ⟨_, rfl⟩
  have HF1 := Lib.hid hf1
  have HF2 := Lib.hid hf2
  have hn1 := m1
  have hn3 := m3
  have hn4 := m4
  unfold maxLen at hn1 hn3 hn4
  clear hR hS hX hY sX sY ma mb m3 k3 m4 k4 m1 k1 hg
  cases f1 with
  | false =>
    clear hf1 hf2
    go_enter Tryd.func3, Tryd.ntmps3
    go_wp2_with fail
    refine (few_c (some ⟨w.heap.size, 0, none⟩) 2 2 [bs a, bs b] _ _ (HBK.out w) (by unfold maxLen; omega) HAB.out false HF1.out).mono ?_
    rintro e w1 ⟨rfl, rfl⟩
    go_wp2_with fail
    refine (awake6_c _).mono ?_
    rintro e w1 ⟨rfl, b9⟩
    have B9 := Lib.hid (BX.out.trans (b9.out.mono BX.out.size))
    go_wp2_with fail
    go_ret
    exact ⟨rfl, B9.out⟩
  | true =>
    obtain ⟨hab, _⟩ := fewL_mem hf1
    have ha : a.size ≤ 100 := by rw [← bs_length]; exact hab _ (by simp)
    have hb : b.size ≤ 100 := by rw [← bs_length]; exact hab _ (by simp)
    clear hab hf1
    cases f2 with
    | false =>
      clear hf2
      go_enter Tryd.func3, Tryd.ntmps3
      go_wp2_with fail
      refine (few_c (some ⟨w.heap.size, 0, none⟩) 2 2 [bs a, bs b] _ _ (HBK.out w) (by unfold maxLen; omega) HAB.out true HF1.out).mono ?_
      rintro e w1 ⟨rfl, rfl⟩
      go_wp2_with fail
      refine (few_c A n c l _ _ HR1.out HM.out HS.out false HF2.out).mono ?_
      rintro e w1 ⟨rfl, rfl⟩
      go_wp2_with fail
      refine (awake6_c _).mono ?_
      rintro e w1 ⟨rfl, b9⟩
      have B9 := Lib.hid (BX.out.trans (b9.out.mono BX.out.size))
      go_wp2_with fail
      go_ret
      exact ⟨rfl, B9.out⟩
    | true =>
      obtain ⟨hx, hn20⟩ := fewL_mem hf2
      have hnl := HR.out.1
      have hn : n ≤ 20 := by omega
      have HL1 : Hid (∀ x ∈ l, x.length ≤ 1000) := Lib.hid fun x h => by have := hx x h; omega
      have HL3 : Hid (∀ x ∈ l, x.length ≤ 3000) := Lib.hid fun x h => by have := hx x h; omega
      clear hf2 hx hn20 hnl
      by_cases hb1 : 30 < n3
      · go_enter Tryd.func3, Tryd.ntmps3
        go_wp2_with fail
        refine (few_c (some ⟨w.heap.size, 0, none⟩) 2 2 [bs a, bs b] _ _ (HBK.out w) (by unfold maxLen; omega) HAB.out true HF1.out).mono ?_
        rintro e w1 ⟨rfl, rfl⟩
        go_wp2_with fail
        refine (few_c A n c l _ _ HR1.out HM.out HS.out true HF2.out).mono ?_
        rintro e w1 ⟨rfl, rfl⟩
        go_wp2_with fail
        refine (awake6_c _).mono ?_
        rintro e w1 ⟨rfl, b9⟩
        have B9 := Lib.hid (BX.out.trans (b9.out.mono BX.out.size))
        go_wp2_with fail
        go_ret
        exact ⟨rfl, B9.out⟩
      by_cases hb2 : 30 < n4
      · go_enter Tryd.func3, Tryd.ntmps3
        go_wp2_with fail
        refine (few_c (some ⟨w.heap.size, 0, none⟩) 2 2 [bs a, bs b] _ _ (HBK.out w) (by unfold maxLen; omega) HAB.out true HF1.out).mono ?_
        rintro e w1 ⟨rfl, rfl⟩
        go_wp2_with fail
        refine (few_c A n c l _ _ HR1.out HM.out HS.out true HF2.out).mono ?_
        rintro e w1 ⟨rfl, rfl⟩
        go_wp2_with fail
        refine (awake6_c _).mono ?_
        rintro e w1 ⟨rfl, b9⟩
        have B9 := Lib.hid (BX.out.trans (b9.out.mono BX.out.size))
        go_wp2_with fail
        go_ret
        exact ⟨rfl, B9.out⟩
      have h30 : n3 ≤ 30 := by omega
      have h40 : n4 ≤ 30 := by omega
      obtain ⟨⟨x, t⟩, hp1⟩ : ∃ q, greatR l = q := ⟨_, rfl⟩
      obtain ⟨q, hq⟩ : ∃ q, cmpV (bs a) (bs b) = q := ⟨_, rfl⟩
      obtain ⟨v, hv⟩ : ∃ v, wordsC lx ly = v := ⟨_, rfl⟩
      obtain ⟨F, hF⟩ : ∃ F, sortV l = F := ⟨_, rfl⟩
      have HP1 := Lib.hid hp1
      have HQ := Lib.hid hq
      have HV := Lib.hid hv
      have HFF := Lib.hid hF
      have htt : (t == t) = true := by rw [beq_self_eq_true]
      have hqq : (q == q) = true := by rw [beq_self_eq_true]
      have hvv : (v == v) = true := by rw [beq_self_eq_true]
      have htl : ∀ l, (tx l).toList = l := fun l => by rw [toList_bs]; rfl
      have ht71 : (⟨#[55, 49]⟩ : ByteArray) = tx [55, 49] := rfl
      have hLF : Hid (F.length = n) := Lib.hid (by rw [← hF, sortV_len]; exact HR.out.1.symm)
      have X1 := Lib.hid ((HX.out.below BX.out).mono BX.out.size)
      have Y1 := Lib.hid ((HY.out.below BX.out).mono BX.out.size)
      clear hp1 hq hv hF hb1 hb2
      go_enter Tryd.func3, Tryd.ntmps3
      go_wp2_with fail
      refine (few_c (some ⟨w.heap.size, 0, none⟩) 2 2 [bs a, bs b] _ _ (HBK.out w) (by unfold maxLen; omega) HAB.out true HF1.out).mono ?_
      rintro e w1 ⟨rfl, rfl⟩
      go_wp2_with fail
      refine (few_c A n c l _ _ HR1.out HM.out HS.out true HF2.out).mono ?_
      rintro e w1 ⟨rfl, rfl⟩
      generalize w.alloc (.cells #[.string a, .string b] 9) = W0 at *
      go_wp2_with fail
      refine (Own_c A n c l [55, 49] _ HR1.out HK.out (by omega)).mono ?_
      rintro e w1 ⟨rfl, hh1⟩
      have b1 := Lib.hid hh1.out.2
      have B1 := Lib.hid (BX.out.trans (b1.out.mono BX.out.size))
      have O1 := Lib.hid hh1.out.1
      have L1 := Lib.hid ((HR1.out.below b1.out).mono b1.out.size)
      have X2 := Lib.hid ((X1.out.below b1.out).mono b1.out.size)
      have Y2 := Lib.hid ((Y1.out.below b1.out).mono b1.out.size)
      have I1 := Lib.hid (own_in HR.out.1 O1.out)
      clear hh1 b1 X1 Y1
      go_wp2_with fail
      refine (Great_r _ n (n + 3) l _ I1.out (by omega) HL1.out x t HP1.out).mono ?_
      rintro e w2 ⟨rfl, b2⟩
      have B2 := Lib.hid (B1.out.trans (b2.out.mono B1.out.size))
      have O2 := Lib.hid ((O1.out.below b2.out).mono b2.out.size)
      have L2 := Lib.hid ((L1.out.below b2.out).mono b2.out.size)
      have X3 := Lib.hid ((X2.out.below b2.out).mono b2.out.size)
      have Y3 := Lib.hid ((Y2.out.below b2.out).mono b2.out.size)
      clear b2 B1 O1 L1 X2 Y2 I1
      go_wp2_with fail
      refine (rGreat_r A n c l _ L2.out (by omega) HL3.out x t HP1.out).mono ?_
      rintro e w3 ⟨rfl, b3⟩
      have B3 := Lib.hid (B2.out.trans (b3.out.mono B2.out.size))
      have O3 := Lib.hid ((O2.out.below b3.out).mono b3.out.size)
      have L3 := Lib.hid ((L2.out.below b3.out).mono b3.out.size)
      have X4 := Lib.hid ((X3.out.below b3.out).mono b3.out.size)
      have Y4 := Lib.hid ((Y3.out.below b3.out).mono b3.out.size)
      clear b3 B2 O2 L2 X3 Y3
      go_wp2_with fail
      refine (awake6_c _).mono ?_
      rintro e w4 ⟨rfl, b4⟩
      have B4 := Lib.hid (B3.out.trans (b4.out.mono B3.out.size))
      have O4 := Lib.hid ((O3.out.below b4.out).mono b4.out.size)
      have L4 := Lib.hid ((L3.out.below b4.out).mono b4.out.size)
      have X5 := Lib.hid ((X4.out.below b4.out).mono b4.out.size)
      have Y5 := Lib.hid ((Y4.out.below b4.out).mono b4.out.size)
      clear b4 B3 O3 L3 X4 Y4
      go_wp2_with fail
      refine (Compare_c a b _ (by omega) (by omega) q HQ.out).mono ?_
      rintro e w5 ⟨rfl, b5⟩
      have B5 := Lib.hid (B4.out.trans (b5.out.mono B4.out.size))
      have O5 := Lib.hid ((O4.out.below b5.out).mono b5.out.size)
      have L5 := Lib.hid ((L4.out.below b5.out).mono b5.out.size)
      have X6 := Lib.hid ((X5.out.below b5.out).mono b5.out.size)
      have Y6 := Lib.hid ((Y5.out.below b5.out).mono b5.out.size)
      clear b5 B4 O4 L4 X5 Y5
      go_wp2_with fail
      refine (rCompare_c a b _ (by omega) (by omega) q HQ.out).mono ?_
      rintro e w6 ⟨rfl, b6⟩
      have B6 := Lib.hid (B5.out.trans (b6.out.mono B5.out.size))
      have O6 := Lib.hid ((O5.out.below b6.out).mono b6.out.size)
      have L6 := Lib.hid ((L5.out.below b6.out).mono b6.out.size)
      have X7 := Lib.hid ((X6.out.below b6.out).mono b6.out.size)
      have Y7 := Lib.hid ((Y6.out.below b6.out).mono b6.out.size)
      clear b6 B5 O5 L5 X6 Y6
      go_wp2_with fail
      refine (Words_c A3 A4 n3 n4 c3 c4 lx ly _ _ (Nat.le_refl _) X7.out Y7.out (by omega) (by omega) SX.out SY.out v HV.out).mono ?_
      rintro e w7 ⟨rfl, b7⟩
      have B7 := Lib.hid (B6.out.trans (b7.1.mono B6.out.size))
      have O7 := Lib.hid ((O6.out.below b7.1).mono b7.1.size)
      have L7 := Lib.hid ((L6.out.below b7.1).mono b7.1.size)
      have X8 := Lib.hid ((X7.out.below b7.1).mono b7.1.size)
      have Y8 := Lib.hid ((Y7.out.below b7.1).mono b7.1.size)
      clear b7 B6 O6 L6 X7 Y7
      go_wp2_with fail
      refine (rWords_c A3 A4 n3 n4 c3 c4 lx ly _ _ (Nat.le_refl _) X8.out Y8.out (by omega) (by omega) SX.out SY.out v HV.out).mono ?_
      rintro e w8 ⟨rfl, b8⟩
      have B8 := Lib.hid (B7.out.trans (b8.out.mono B7.out.size))
      have O8 := Lib.hid ((O7.out.below b8.out).mono b8.out.size)
      have L8 := Lib.hid ((L7.out.below b8.out).mono b8.out.size)
      have I8 := Lib.hid (own_in HR.out.1 O8.out)
      clear b8 B7 O7 L7 X8 Y8
      go_wp2_with fail
      refine (Sort_c _ n (n + 3) l _ I8.out (by omega) HL1.out F HFF.out).mono ?_
      rintro e w9 ⟨gs, rfl, s9, b9⟩
      have B9 := Lib.hid (B8.out.trans (b9.out.mono B8.out.size))
      have O9 := Lib.hid ((O8.out.below b9.out).mono b9.out.size)
      have L9 := Lib.hid ((L8.out.below b9.out).mono b9.out.size)
      clear b9 B8 O8 L8 I8
      go_wp2_with fail
      refine (rSort_c A n c l _ L9.out (by omega) HL3.out).mono ?_
      rintro e w10 ⟨A', c', rfl, hh⟩
      have b10 := Lib.hid hh.out.2
      have B10 := Lib.hid (B9.out.trans (b10.out.mono B9.out.size))
      have O10 := Lib.hid ((O9.out.below b10.out).mono b10.out.size)
      have L10 := Lib.hid ((L9.out.below b10.out).mono b10.out.size)
      have s10 := Lib.hid ((s9.out.below b10.out).mono b10.out.size)
      have t10 : Hid (StrR w10.heap.size w10 A' n F) := Lib.hid (by rw [← HFF.out]; exact hh.out.1.r)
      clear hh b10 B9 O9 L9 s9
      go_wp2_with fail
      refine (SPlain_c (some ⟨gs, 0, none⟩) A' n n n c' F F _ _ _ s10.out (Nat.le_refl _) t10.out (Nat.le_refl _) (by omega) (by omega) true (by simp)).mono ?_
      rintro e w11 ⟨rfl, b11⟩
      have B11 := Lib.hid (B10.out.trans (b11.out.mono B10.out.size))
      have O11 := Lib.hid ((O10.out.below b11.out).mono b11.out.size)
      have L11 := Lib.hid ((L10.out.below b11.out).mono b11.out.size)
      clear b11 B10 O10 L10 s10 t10
      go_wp2_with fail
      refine (Kept_c _ A n c l [55, 49] _ O11.out L11.out (by omega)).mono ?_
      rintro e w12 ⟨rfl, b12⟩
      have B12 := Lib.hid (B11.out.trans (b12.out.mono B11.out.size))
      go_wp2_with fail
      go_ret
      exact ⟨rfl, B12.out⟩
end Go.Proofs.YtjmjklmndokdiaaDoor
