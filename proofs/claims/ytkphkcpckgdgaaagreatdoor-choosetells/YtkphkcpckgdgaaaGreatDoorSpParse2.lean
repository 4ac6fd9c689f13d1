/-
  The contract of span.Parse.
-/
import Derived.Test.YtkphkcpckgdgaaaGreatDoorSb
namespace Go.Proofs.YtkphkcpckgdgaaaGreatDoor
open Nwl
open Go.RowKit Go.Maps
set_option linter.unusedVariables false

theorem sp_oneCell (a b : ByteArray) (p q : Bool) : ∀ u ∈ [Value.string a, Value.string b, Value.bool p, Value.bool q], u.oneCell' = true := by
  intro u hu
  simp at hu
  rcases hu with rfl | rfl | rfl | rfl <;> rfl
theorem cells4n (w : World) (x0 x1 x2 x3 : Value) (t : TypeId) : ∀ j u, [x0, x1, x2, x3][j]? = some u → (w.alloc (.cells #[x0, x1, x2, x3] t)).cell? ((⟨w.heap.size, 0, none⟩ : Addr).add j) = some u := by
  intro j u hj
  match j, hj with
  | 0, hj => simp at hj; subst hj; simp [Addr.add]
  | 1, hj => simp at hj; subst hj; simp [Addr.add]
  | 2, hj => simp at hj; subst hj; simp [Addr.add]
  | 3, hj => simp at hj; subst hj; simp [Addr.add]
  | j + 4, hj => simp at hj
/-- what Parse answers -/
def ParsePost (w : World) (F : Option (List Sp)) (e : Ending) (w' : World) : Prop :=
  Below w.heap.size w w' ∧ (F = none ∧ e = .returned (.tuple #[.slice none 0 0, .int .i64 12]) ∨ ∃ l A n c, F = some l ∧ e = .returned (.tuple #[.slice A n c, .int .i64 0]) ∧ SpRow w.heap.size w' A n c l ∧ SpShort l ∧ n ≤ 20)
def sizeAt (v : Value) : Nat := match v with
  | .string s => s.size
  | _ => 0
/-- the state of Parse -/
def PaInv (w w' : World) (s : ByteArray) (A : Option Addr) (n c : Nat) (acc : List Sp) (F : Option (List Sp)) : Prop :=
  SpRow w.heap.size w' A n c acc ∧ Below w.heap.size w w' ∧ s.size ≤ 1000 ∧ SpShort acc ∧ n ≤ 20 ∧ ∃ f, s.size < f ∧ F = parseF f acc (bs s)

theorem sp_short_app {l : List Sp} {s : Sp} (h : SpShort l) (h1 : s.lo.length ≤ 1000) (h2 : s.hi.length ≤ 1000) : SpShort (l ++ [s]) := by
  intro x hx
  rcases List.mem_append.1 hx with hx | hx
  · exact h x hx
  · rw [List.mem_singleton.1 hx]; exact ⟨h1, h2⟩
theorem box_sp (w : World) (s : Sp) : Blk (w.alloc (.cells #[.string (tx s.lo), .string (tx s.hi), .bool s.il, .bool s.ih] 27)) w.heap.size 27 #[.string (tx s.lo), .string (tx s.hi), .bool s.il, .bool s.ih] := Blk.new _ _ _
/-- a block's four cells -/
theorem blk4 {w : World} {b : Nat} {v0 v1 v2 v3 : Value} (h : Blk w b 27 #[v0, v1, v2, v3]) : w.cell? ⟨b, 0, none⟩ = some v0 ∧ w.cell? ⟨b, 1, none⟩ = some v1 ∧ w.cell? ⟨b, 2, none⟩ = some v2 ∧ w.cell? ⟨b, 3, none⟩ = some v3 := ⟨h.cell 0, h.cell 1, h.cell 2, h.cell 3⟩

set_option maxRecDepth 100000 in
set_option maxHeartbeats 4000000 in
theorem Parse_c (s : ByteArray) (w : World) (hs : s.size ≤ 1000) (F : Option (List Sp)) (hF : parseL (bs s) = F) :
    Calls Tryz.prog 28 #[.string s] w fun e w' => Hid (ParsePost w F e w') := by
  have HF := Lib.hid hF
  obtain ⟨i0, hi, hz0, hz1, hz2⟩ := info_parts2 info_sp
  clear hF
  go_enter Tryz.func28, Tryz.ntmps28
  go_wp2_with fail
  refine wp_scope_again 0 (fun a' w' => ∃ (s : ByteArray) (acc : List Sp) (A : Option Addr) (n c : Nat) (u5 u6 u7 u8 u9 u10 u11 u12 u13 u14 u15 u16 u17 u18 u19 u20 u21 u22 u23 u24 u25 u26 u27 u28 u29 u30 u31 u32 u33 u34 u35 u36 u37 u38 : Value), a' = { tmps := #[.string s, undef, .slice none 0 0, .int .i64 0, .slice A n c, u5, u6, u7, u8, u9, u10, u11, u12, u13, u14, u15, u16, u17, u18, u19, u20, u21, u22, u23, u24, u25, u26, u27, u28, u29, u30, u31, u32, u33, u34, u35, u36, u37, u38], defers := [] } ∧ Hid (PaInv w w' s A n c acc F)) (fun a' _ => sizeAt (a'.tmps.getD 0 undef)) rfl ?_ ?_
  · clear hs HF
    clear s
    rintro a' w1 ⟨s, acc, A, n, c, u5, u6, u7, u8, u9, u10, u11, u12, u13, u14, u15, u16, u17, u18, u19, u20, u21, u22, u23, u24, u25, u26, u27, u28, u29, u30, u31, u32, u33, u34, u35, u36, u37, u38, rfl, hh⟩
    obtain ⟨hrow, hbel, hs, hsh, hn20, f, hf, hgo⟩ := hh.out
    obtain ⟨f, rfl⟩ : ∃ f', f = f' + 1 := ⟨f - 1, by omega⟩
    clear hh
    obtain ⟨⟨one, rest, is⟩, hcut⟩ : ∃ t, cutS (bs s) = t := ⟨_, rfl⟩
    have hfc := cutS_facts (bs s)
    rw [hcut, bs_length] at hfc
    obtain ⟨hlo, hhi, hre, hmem⟩ := hfc
    dsimp only at hlo hhi hre hmem
    have hlo2 : one.lo.length ≤ 1000 := by omega
    have hhi2 : one.hi.length ≤ 1000 := by omega
    have hgood : goodS acc (bs s) = (is && mayB one && comeB acc one) := by unfold goodS; rw [hcut]
    have HCUT := Lib.hid hcut
    have HROW := Lib.hid hrow
    have HBEL := Lib.hid hbel
    have HSH := Lib.hid hsh
    have HBOX : Hid (∀ W, Below w1.heap.size w1 W → Blk (W.alloc (.cells #[.string (tx one.lo), .string (tx one.hi), .bool one.il, .bool one.ih] 27)) W.heap.size 27 #[.string (tx one.lo), .string (tx one.hi), .bool one.il, .bool one.ih]) := Lib.hid fun W _ => Blk.new _ _ _
    have hrestl : rest = [] ∨ ∃ x r, rest = x :: r := by cases rest with
      | nil => exact .inl rfl
      | cons x r => exact .inr ⟨x, r, rfl⟩
    cases is with
    | false =>
      have HFN : Hid (F = none) := Lib.hid (by rw [hgo]; exact parse_no (by rw [hgood]; rfl))
      clear hgo hgood hrow hbel hsh hcut hmem hrestl
      go_wp2_with fail
      refine (cut_c s _ hs one rest false HCUT.out).mono ?_
      rintro e w2 ⟨rfl, b2⟩
      have B2 := Lib.hid ((HBEL.out.trans (b2.out.mono HBEL.out.size)).alloc (HBEL.out.trans (b2.out.mono HBEL.out.size)).size (.cells #[.string (tx one.lo), .string (tx one.hi), .bool one.il, .bool one.ih] 27))
      go_wp2_with fail
      simp only [Exit.jump]
      go_ret2
      exact Lib.hid ⟨B2.out, .inl ⟨HFN.out, rfl⟩⟩
    | true =>
    obtain ⟨m, hm⟩ : ∃ m, mayB one = m := ⟨_, rfl⟩
    have HM := Lib.hid hm
    rw [hm] at hgood
    cases m with
    | false =>
      have HFN : Hid (F = none) := Lib.hid (by rw [hgo]; exact parse_no (by rw [hgood]; rfl))
      clear hgo hgood hrow hbel hsh hcut hmem hrestl hm
      go_wp2_with fail
      refine (cut_c s _ hs one rest true HCUT.out).mono ?_
      rintro e w2 ⟨rfl, b2⟩
      have B2 := Lib.hid ((HBEL.out.trans (b2.out.mono HBEL.out.size)).alloc (HBEL.out.trans (b2.out.mono HBEL.out.size)).size (.cells #[.string (tx one.lo), .string (tx one.hi), .bool one.il, .bool one.ih] 27))
      obtain ⟨k0, k1, k2, k3⟩ := blk4 (HBOX.out w2 b2.out)
      go_wp2_with fail
      refine (mayBe_c one _ hlo2 hhi2 false HM.out).mono ?_
      rintro e w3 ⟨rfl, b3⟩
      have B3 := Lib.hid (B2.out.trans (b3.out.mono B2.out.size))
      go_wp2_with fail
      simp only [Exit.jump]
      go_ret2
      exact Lib.hid ⟨B3.out, .inl ⟨HFN.out, rfl⟩⟩
    | true =>
    obtain ⟨t, ht⟩ : ∃ m, comeB acc one = m := ⟨_, rfl⟩
    have HT := Lib.hid ht
    rw [ht] at hgood
    cases t with
    | false =>
      have HFN : Hid (F = none) := Lib.hid (by rw [hgo]; exact parse_no (by rw [hgood]; rfl))
      clear hgo hgood hrow hbel hsh hcut hmem hrestl hm ht
      go_wp2_with fail
      refine (cut_c s _ hs one rest true HCUT.out).mono ?_
      rintro e w2 ⟨rfl, b2⟩
      have B2 := Lib.hid ((HBEL.out.trans (b2.out.mono HBEL.out.size)).alloc (HBEL.out.trans (b2.out.mono HBEL.out.size)).size (.cells #[.string (tx one.lo), .string (tx one.hi), .bool one.il, .bool one.ih] 27))
      have X2 := Lib.hid (HBOX.out w2 b2.out)
      obtain ⟨k0, k1, k2, k3⟩ := blk4 X2.out
      have R2 := Lib.hid ((HROW.out.below b2.out).below ((Below.refl _ _).alloc (Nat.le_refl _) (.cells #[.string (tx one.lo), .string (tx one.hi), .bool one.il, .bool one.ih] 27)))
      go_wp2_with fail
      refine (mayBe_c one _ hlo2 hhi2 true HM.out).mono ?_
      rintro e w3 ⟨rfl, b3⟩
      have B3 := Lib.hid (B2.out.trans (b3.out.mono B2.out.size))
      have X3 := Lib.hid (X2.out.below b3.out)
      obtain ⟨k0, k1, k2, k3⟩ := blk4 X3.out
      have R3 := Lib.hid (R2.out.below b3.out)
      go_wp2_with fail
      refine (mayCome_c A n c acc one _ _ (Nat.le_refl _) R3.out.r hn20 HSH.out hlo2 hhi2 false HT.out).mono ?_
      rintro e w4 ⟨rfl, b4⟩
      have B4 := Lib.hid (B3.out.trans (b4.out.mono B3.out.size))
      go_wp2_with fail
      simp only [Exit.jump]
      go_ret2
      exact Lib.hid ⟨B4.out, .inl ⟨HFN.out, rfl⟩⟩
    | true =>
    have hroom := come_room ht (by have := hrow.1; omega)
    rw [← hrow.1] at hroom
    have hgd : goodS acc (bs s) = true := by rw [hgood]; rfl
    have HGO := Lib.hid hgo
    have HGD := Lib.hid hgd
    clear hgo hgood hrow hbel hsh hmem hm ht hgd
    rcases hrestl with rfl | ⟨x, rr, rfl⟩
    · have HFN : Hid (F = some (acc ++ [one])) := Lib.hid (by rw [HGO.out, parse_end HGD.out (by rw [hcut]), hcut])
      have htl : (tx []).toList = [] := by rw [toList_bs]; rfl
      clear hcut
      go_wp2_with fail
      refine (cut_c s _ hs one [] true HCUT.out).mono ?_
      rintro e w2 ⟨rfl, b2⟩
      have B2 := Lib.hid ((HBEL.out.trans (b2.out.mono HBEL.out.size)).alloc (HBEL.out.trans (b2.out.mono HBEL.out.size)).size (.cells #[.string (tx one.lo), .string (tx one.hi), .bool one.il, .bool one.ih] 27))
      have X2 := Lib.hid (HBOX.out w2 b2.out)
      obtain ⟨k0, k1, k2, k3⟩ := blk4 X2.out
      have R2 := Lib.hid ((HROW.out.below b2.out).below ((Below.refl _ _).alloc (Nat.le_refl _) (.cells #[.string (tx one.lo), .string (tx one.hi), .bool one.il, .bool one.ih] 27)))
      go_wp2_with fail
      refine (mayBe_c one _ hlo2 hhi2 true HM.out).mono ?_
      rintro e w3 ⟨rfl, b3⟩
      have B3 := Lib.hid (B2.out.trans (b3.out.mono B2.out.size))
      have X3 := Lib.hid (X2.out.below b3.out)
      obtain ⟨k0, k1, k2, k3⟩ := blk4 X3.out
      have R3 := Lib.hid (R2.out.below b3.out)
      go_wp2_with fail
      refine (mayCome_c A n c acc one _ _ (Nat.le_refl _) R3.out.r hn20 HSH.out hlo2 hhi2 true HT.out).mono ?_
      rintro e w4 ⟨rfl, b4⟩
      have B4 := Lib.hid (B3.out.trans (b4.out.mono B3.out.size))
      have X4 := Lib.hid (X3.out.below b4.out)
      obtain ⟨k0, k1, k2, k3⟩ := blk4 X4.out
      have R4 := Lib.hid (R3.out.below b4.out)
      clear B3 B2 X2 X3 R2 R3 b2 b3 b4
      have R5 := Lib.hid (R4.out.below ((Below.refl _ _).alloc (Nat.le_refl _) (.cells #[.string (tx one.lo), .string (tx one.hi), .bool one.il, .bool one.ih] 27)))
      have HCS := Lib.hid R5.out.2
      have HNEWS := Lib.hid (cells4n w4 (.string (tx one.lo)) (.string (tx one.hi)) (.bool one.il) (.bool one.ih) 27)
      have hws := B4.out.size
      go_wp2_with (at_builtin; go_must (refine wpList_append_own_at _ rfl _ _ 23 rfl w.heap.size 27 i0 _ 4 40 Tryz.underlying23 hi hz0 hz1 hz2 rfl (by decide) _ n (spCells acc) rfl HCS.out ⟨w4.heap.size, 0, none⟩ 1 1 [.string (tx one.lo), .string (tx one.hi), .bool one.il, .bool one.ih] rfl rfl HNEWS.out (sp_oneCell _ _ _ _) (by unfold maxLen; omega) (by omega) (by simp; omega) ?_); intro v' w5 hown5 hgrow5 _ _; obtain ⟨A', c', rfl⟩ := own_form hown5)
      simp only [Exit.jump]
      go_ret2
      refine Lib.hid ⟨(B4.out.alloc hws _).grown hgrow5 (by simp; omega) (fun k hk => (HCS.out.lt k hk).1), .inr ⟨acc ++ [one], A', n + 1, c', HFN.out, rfl, ⟨by rw [List.length_append, R4.out.1]; rfl, by rw [spCells_app]; exact hown5⟩, sp_short_app HSH.out hlo2 hhi2, hroom⟩⟩
    · have hx0 : 0 < (tx (x :: rr)).size := by rw [tx_size]; simp
      have hne : ((tx (x :: rr)).toList == []) = false := by rw [toList_bs, bs_tx]; rfl
      have hxe : (tx (x :: rr))[0] = x := rfl
      obtain ⟨d, hd⟩ : ∃ d, ((x.toNat : Int) == 44) = d := ⟨_, rfl⟩
      have hd2 : (x == 44) = d := by
        rw [← hd, Bool.eq_iff_iff, beq_iff_eq, beq_iff_eq, ← UInt8.toNat_inj]
        show x.toNat = 44 ↔ _
        omega
      have hd3 : ((x.toNat : Int) != 44) = !d := by rw [bne, hd]
      have hex : (tx (x :: rr)).extract 1 (tx (x :: rr)).size = tx rr := by
        apply bs_inj
        rw [bs_extract, bs_tx, bs_tx, tx_size]
        simp
      have hle1 : (1 : Int) ≤ ((tx (x :: rr)).size : Int) := by omega
      have hrs : (tx rr).size < s.size := by rw [tx_size]; simp at hre; omega
      have HFIN : Hid (d = false → F = none) := Lib.hid fun h => by
        rw [HGO.out, parse_bad HGD.out (by rw [hcut]) (by rw [hd2, h])]
      have HON : Hid (d = true → F = parseF f (acc ++ [one]) rr) := Lib.hid fun h => by
        rw [HGO.out, parse_on HGD.out (by rw [hcut]) (by rw [hd2, h]), hcut]
      clear hcut hd2 hre
      generalize htx : tx (x :: rr) = T at *
      have HTX := Lib.hid htx
      clear htx
      have hT0 : ((T[0].toNat : Int) == 44) = d := by rw [hxe]; exact hd
      have hT1 : ((T[0].toNat : Int) != 44) = !d := by rw [hxe]; exact hd3
      clear hxe hd hd3
      cases d with
      | false =>
        go_wp2_with fail
        refine (cut_c s _ hs one (x :: rr) true HCUT.out).mono ?_
        rintro e w2 ⟨rfl, b2⟩
        rw [HTX.out]
        have B2 := Lib.hid ((HBEL.out.trans (b2.out.mono HBEL.out.size)).alloc (HBEL.out.trans (b2.out.mono HBEL.out.size)).size (.cells #[.string (tx one.lo), .string (tx one.hi), .bool one.il, .bool one.ih] 27))
        have X2 := Lib.hid (HBOX.out w2 b2.out)
        obtain ⟨k0, k1, k2, k3⟩ := blk4 X2.out
        have R2 := Lib.hid ((HROW.out.below b2.out).below ((Below.refl _ _).alloc (Nat.le_refl _) (.cells #[.string (tx one.lo), .string (tx one.hi), .bool one.il, .bool one.ih] 27)))
        go_wp2_with fail
        refine (mayBe_c one _ hlo2 hhi2 true HM.out).mono ?_
        rintro e w3 ⟨rfl, b3⟩
        have B3 := Lib.hid (B2.out.trans (b3.out.mono B2.out.size))
        have X3 := Lib.hid (X2.out.below b3.out)
        obtain ⟨k0, k1, k2, k3⟩ := blk4 X3.out
        have R3 := Lib.hid (R2.out.below b3.out)
        go_wp2_with fail
        refine (mayCome_c A n c acc one _ _ (Nat.le_refl _) R3.out.r hn20 HSH.out hlo2 hhi2 true HT.out).mono ?_
        rintro e w4 ⟨rfl, b4⟩
        have B4 := Lib.hid (B3.out.trans (b4.out.mono B3.out.size))
        have X4 := Lib.hid (X3.out.below b4.out)
        obtain ⟨k0, k1, k2, k3⟩ := blk4 X4.out
        have R4 := Lib.hid (R3.out.below b4.out)
        clear B3 B2 X2 X3 R2 R3 b2 b3 b4
        have R5 := Lib.hid (R4.out.below ((Below.refl _ _).alloc (Nat.le_refl _) (.cells #[.string (tx one.lo), .string (tx one.hi), .bool one.il, .bool one.ih] 27)))
        have HCS := Lib.hid R5.out.2
        have HNEWS := Lib.hid (cells4n w4 (.string (tx one.lo)) (.string (tx one.hi)) (.bool one.il) (.bool one.ih) 27)
        have hws := B4.out.size
        go_wp2_with (at_builtin; go_must (refine wpList_append_own_at _ rfl _ _ 23 rfl w.heap.size 27 i0 _ 4 40 Tryz.underlying23 hi hz0 hz1 hz2 rfl (by decide) _ n (spCells acc) rfl HCS.out ⟨w4.heap.size, 0, none⟩ 1 1 [.string (tx one.lo), .string (tx one.hi), .bool one.il, .bool one.ih] rfl rfl HNEWS.out (sp_oneCell _ _ _ _) (by unfold maxLen; omega) (by omega) (by simp; omega) ?_); intro v' w5 hown5 hgrow5 _ _; obtain ⟨A', c', rfl⟩ := own_form hown5)
        simp only [Exit.jump]
        go_ret2
        refine Lib.hid ⟨(B4.out.alloc hws _).grown hgrow5 (by simp; omega) (fun k hk => (HCS.out.lt k hk).1), .inl ⟨HFIN.out trivial, rfl⟩⟩
      | true =>
        go_wp2_with fail
        refine (cut_c s _ hs one (x :: rr) true HCUT.out).mono ?_
        rintro e w2 ⟨rfl, b2⟩
        rw [HTX.out]
        have B2 := Lib.hid ((HBEL.out.trans (b2.out.mono HBEL.out.size)).alloc (HBEL.out.trans (b2.out.mono HBEL.out.size)).size (.cells #[.string (tx one.lo), .string (tx one.hi), .bool one.il, .bool one.ih] 27))
        have X2 := Lib.hid (HBOX.out w2 b2.out)
        obtain ⟨k0, k1, k2, k3⟩ := blk4 X2.out
        have R2 := Lib.hid ((HROW.out.below b2.out).below ((Below.refl _ _).alloc (Nat.le_refl _) (.cells #[.string (tx one.lo), .string (tx one.hi), .bool one.il, .bool one.ih] 27)))
        go_wp2_with fail
        refine (mayBe_c one _ hlo2 hhi2 true HM.out).mono ?_
        rintro e w3 ⟨rfl, b3⟩
        have B3 := Lib.hid (B2.out.trans (b3.out.mono B2.out.size))
        have X3 := Lib.hid (X2.out.below b3.out)
        obtain ⟨k0, k1, k2, k3⟩ := blk4 X3.out
        have R3 := Lib.hid (R2.out.below b3.out)
        go_wp2_with fail
        refine (mayCome_c A n c acc one _ _ (Nat.le_refl _) R3.out.r hn20 HSH.out hlo2 hhi2 true HT.out).mono ?_
        rintro e w4 ⟨rfl, b4⟩
        have B4 := Lib.hid (B3.out.trans (b4.out.mono B3.out.size))
        have X4 := Lib.hid (X3.out.below b4.out)
        obtain ⟨k0, k1, k2, k3⟩ := blk4 X4.out
        have R4 := Lib.hid (R3.out.below b4.out)
        clear B3 B2 X2 X3 R2 R3 b2 b3 b4
        have R5 := Lib.hid (R4.out.below ((Below.refl _ _).alloc (Nat.le_refl _) (.cells #[.string (tx one.lo), .string (tx one.hi), .bool one.il, .bool one.ih] 27)))
        have HCS := Lib.hid R5.out.2
        have HNEWS := Lib.hid (cells4n w4 (.string (tx one.lo)) (.string (tx one.hi)) (.bool one.il) (.bool one.ih) 27)
        have hws := B4.out.size
        go_wp2_with (at_builtin; go_must (refine wpList_append_own_at _ rfl _ _ 23 rfl w.heap.size 27 i0 _ 4 40 Tryz.underlying23 hi hz0 hz1 hz2 rfl (by decide) _ n (spCells acc) rfl HCS.out ⟨w4.heap.size, 0, none⟩ 1 1 [.string (tx one.lo), .string (tx one.hi), .bool one.il, .bool one.ih] rfl rfl HNEWS.out (sp_oneCell _ _ _ _) (by unfold maxLen; omega) (by omega) (by simp; omega) ?_); intro v' w5 hown5 hgrow5 _ _; obtain ⟨A', c', rfl⟩ := own_form hown5)
        go_step3
        refine ⟨rfl, ⟨tx rr, acc ++ [one], A', n + 1, c', _, _, _, _, _, _, _, _, _, _, _, _, _, _, _, _, _, _, _, _, _, _, _, _, _, _, _, _, _, _, _, _, _, _, rfl, Lib.hid ⟨⟨by rw [List.length_append, R4.out.1]; rfl, by rw [spCells_app]; exact hown5⟩, (B4.out.alloc hws _).grown hgrow5 (by simp; omega) (fun k hk => (HCS.out.lt k hk).1), by omega, sp_short_app HSH.out hlo2 hhi2, hroom, f, by omega, by rw [bs_tx]; exact HON.out trivial⟩⟩, ?_⟩
        simp [sizeAt]
        omega
  · intro hpass
    go_wp2_with fail
    go_step3
    rename_i hK
    exact hK _ _ (hpass.out _ _ ⟨s, [], none, 0, 0, _, _, _, _, _, _, _, _, _, _, _, _, _, _, _, _, _, _, _, _, _, _, _, _, _, _, _, _, _, _, _, _, _, _, rfl, Lib.hid ⟨SpRow.nil _ _, Below.refl _ _, hs, fun x hx => by simp at hx, by omega, s.size + 1, by omega, by rw [← HF.out]; unfold parseL; rw [bs_length]⟩⟩)
end Go.Proofs.YtkphkcpckgdgaaaGreatDoor
