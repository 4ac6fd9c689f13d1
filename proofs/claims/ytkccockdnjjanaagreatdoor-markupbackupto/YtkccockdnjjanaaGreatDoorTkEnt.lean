/-
  The contract of Entities (layer 2).
-/
import Derived.Test.YtkccockdnjjanaaGreatDoorTkChar
import Derived.Test.YtkccockdnjjanaaGreatDoorBa
import Derived.WalkMore
import Derived.ScopeJumps
namespace Nwl
theorem cutL_spec (sep l : List UInt8) : (cutL sep l = none ∧ ¬ 0 ≤ Go.Lib.index l sep) ∨ (0 ≤ Go.Lib.index l sep ∧ cutL sep l = some (l.take (Go.Lib.index l sep).toNat, l.drop ((Go.Lib.index l sep).toNat + sep.length))) := by
  unfold cutL
  by_cases h : 0 ≤ Go.Lib.index l sep
  · exact .inr ⟨h, if_pos h⟩
  · exact .inl ⟨if_neg h, h⟩
theorem cut_none {sep l : List UInt8} (h : cutL sep l = none) : Go.Lib.cut l sep = (l, [], false) := by
  rcases cutL_spec sep l with ⟨_, h1⟩ | ⟨h1, h2⟩
  · unfold Go.Lib.cut; rw [if_neg h1]
  · rw [h] at h2; cases h2
theorem cut_some {sep l a b : List UInt8} (h : cutL sep l = some (a, b)) : Go.Lib.cut l sep = (a, b, true) := by
  rcases cutL_spec sep l with ⟨h1, _⟩ | ⟨h1, h2⟩
  · rw [h] at h1; cases h1
  · rw [h] at h2
    simp only [Option.some.injEq, Prod.mk.injEq] at h2
    unfold Go.Lib.cut
    rw [if_pos h1, h2.1, h2.2]
theorem ent_none {l : List UInt8} (h : cutL [38] l = none) : entL l = some l := by
  rcases cutL_spec [38] l with ⟨_, h1⟩ | ⟨h1, h2⟩
  · exact cut_amp_none h1
  · rw [h] at h2; cases h2
theorem ent_some {l a b : List UInt8} (h : cutL [38] l = some (a, b)) : entL l = (entAt b).map (a ++ ·) := by
  rcases cutL_spec [38] l with ⟨h1, _⟩ | ⟨h1, h2⟩
  · rw [h] at h1; cases h1
  · rw [h] at h2
    simp only [Option.some.injEq, Prod.mk.injEq] at h2
    have := cut_amp_some h1
    rw [h2.1, h2.2]
    exact this
theorem cutL_sum {sep l a b : List UInt8} (h : cutL sep l = some (a, b)) : a.length + sep.length + b.length = l.length := by
  rcases cutL_spec sep l with ⟨h1, _⟩ | ⟨h1, h2⟩
  · rw [h] at h1; cases h1
  · rw [h] at h2
    simp only [Option.some.injEq, Prod.mk.injEq] at h2
    have hr := Go.Lib.index_room l sep h1
    rw [h2.1, h2.2, List.length_take, List.length_drop]
    omega
/-- what Entities answers -/
def entS (o : Option (List UInt8)) : ByteArray := tx (o.getD [])
def entE (o : Option (List UInt8)) : Int := if o.isSome then 0 else 5
def strLen : Go.Value → Nat
  | .string r => r.size
  | _ => 0
end Nwl
namespace Go.Proofs.YtkccockdnjjanaaGreatDoor
open Nwl
open Go.RowKit
set_option linter.unusedVariables false

theorem wp_mono {P : Program} {c : Code} {a : Act} {w : World} {Q Q' : Exit → Act → World → Prop} (h : c.wp P Q a w) (hq : ∀ e a w, Q e a w → Q' e a w) : c.wp P Q' a w := by
  intro b k cs
  obtain ⟨e, a', w', h1, h2⟩ := h b k cs
  exact ⟨e, a', w', hq _ _ _ h1, h2⟩

theorem Cut_no (r : ByteArray) (sep : List UInt8) (w : World) (hs : r.size ≤ 100000) (hg : Glob w) (h : cutL sep (bs r) = none) :
    Calls Tryz.prog 94 #[.string r, .string ⟨sep.toArray⟩] w fun e w' => e = .returned (.tuple #[.string r, .string ⟨#[]⟩, .bool false]) ∧ Below w.heap.size w w' := by
  obtain ⟨⟨m, hm⟩, _⟩ := hg
  refine (Tryz.strings_Cut r ⟨sep.toArray⟩ m w (by omega) hm).mono ?_
  rintro e w' ⟨rfl, n, rfl⟩
  refine ⟨?_, below_drewN _ _ _⟩
  have h1 : Lib.cut r.data.toList sep = (bs r, [], false) := cut_none h
  show Ending.returned (.tuple #[.string ⟨(Lib.cut r.data.toList sep).1.toArray⟩, .string ⟨(Lib.cut r.data.toList sep).2.1.toArray⟩, .bool (Lib.cut r.data.toList sep).2.2]) = _
  rw [h1]
  rfl
theorem Cut_yes (r : ByteArray) (sep x y : List UInt8) (w : World) (hs : r.size ≤ 100000) (hg : Glob w) (h : cutL sep (bs r) = some (x, y)) :
    Calls Tryz.prog 94 #[.string r, .string ⟨sep.toArray⟩] w fun e w' => e = .returned (.tuple #[.string (tx x), .string (tx y), .bool true]) ∧ Below w.heap.size w w' := by
  obtain ⟨⟨m, hm⟩, _⟩ := hg
  refine (Tryz.strings_Cut r ⟨sep.toArray⟩ m w (by omega) hm).mono ?_
  rintro e w' ⟨rfl, n, rfl⟩
  refine ⟨?_, below_drewN _ _ _⟩
  have h1 : Lib.cut r.data.toList sep = (x, y, true) := cut_some h
  show Ending.returned (.tuple #[.string ⟨(Lib.cut r.data.toList sep).1.toArray⟩, .string ⟨(Lib.cut r.data.toList sep).2.1.toArray⟩, .bool (Lib.cut r.data.toList sep).2.2]) = _
  rw [h1]
  rfl
theorem size_of_tx (l : List UInt8) : (tx l).size = l.length := tx_size l

set_option maxRecDepth 100000 in
set_option maxHeartbeats 4000000 in
theorem Entities_c (s : ByteArray) (w : World) (hs : s.size ≤ 100000) (hg : Glob w) :
    Calls Tryz.prog 99 #[.string s] w fun e w' => e = .returned (.tuple #[.string (entS (entL (bs s))), .int .i64 (entE (entL (bs s)))]) ∧ Below w.heap.size w w' := by
  have HG := Lib.hid hg
  clear hg
  go_enter Tryz.func99, Tryz.ntmps99
  go_wp2
  refine wp_scope_again 0 (fun a' w' => ∃ (r : ByteArray) (acc : List UInt8) (u5 u6 u7 u8 u9 u10 u11 u12 u13 u14 u15 u16 u17 u18 u19 u20 u21 u22 u23 u24 u25 u26 u27 u28 u29 u30 u31 u32 u33 u34 u35 u36 u37 u38 u39 u40 u41 u42 : Value), a' = { tmps := #[.string r, undef, .string ⟨#[]⟩, .int .i64 0, .pointer (some ⟨w.heap.size, 0, none⟩), u5, u6, u7, u8, u9, u10, u11, u12, u13, u14, u15, u16, u17, u18, u19, u20, u21, u22, u23, u24, u25, u26, u27, u28, u29, u30, u31, u32, u33, u34, u35, u36, u37, u38, u39, u40, u41, u42], defers := [] } ∧ Hid (Bld w.heap.size w.heap.size acc w' ∧ Below w.heap.size w w' ∧ acc.length + 4 * r.size ≤ 4 * s.size ∧ entL (bs s) = (entL (bs r)).map (acc ++ ·))) (fun a' _ => strLen (a'.tmps.getD 0 undef)) rfl ?_ ?_
  · rintro a' w' ⟨r, acc, u5, u6, u7, u8, u9, u10, u11, u12, u13, u14, u15, u16, u17, u18, u19, u20, u21, u22, u23, u24, u25, u26, u27, u28, u29, u30, u31, u32, u33, u34, u35, u36, u37, u38, u39, u40, u41, u42, rfl, hh⟩
    obtain ⟨hbld, hbel, hlen, hent⟩ := hh.out
    clear hh
    have hBw := hbel.size
    have hr : r.size ≤ 100000 := by omega
    cases hc : cutL [38] (bs r) with
    | none =>
      rw [ent_none hc] at hent
      have HE := Lib.hid hent
      have HC := Lib.hid hc
      have HB := Lib.hid hbld
      clear hent hc hbld
      go_wp2_with fail
      refine (Cut_no _ _ _ hr (HG.out.below hbel) HC.out).mono ?_
      rintro e w1 ⟨rfl, hb1⟩
      have HB1 := Lib.hid (HB.out.below hb1)
      have hbel1 := hbel.trans (hb1.mono hBw)
      clear hb1
      have hs1 := hbel1.size
      go_wp2_with fail
      refine (WriteString_c _ _ _ _ _ HB1.out (by omega) hs1).mono ?_
      rintro e w2 ⟨rfl, hb2, hbel2⟩
      have HB2 := Lib.hid hb2
      have hbel3 := hbel1.trans hbel2
      clear hb2 hbel2
      have hs2 := hbel3.size
      go_wp2_with fail
      refine (String_c _ _ _ _ HB2.out hs2).mono ?_
      rintro e w3 ⟨rfl, hbel4⟩
      go_wp2_with fail
      simp only [Exit.jump]
      go_ret2
      exact ⟨by rw [HE.out]; rfl, hbel3.trans hbel4⟩
    | some x =>
      obtain ⟨x, y⟩ := x
      rw [ent_some hc] at hent
      have hsum := cutL_sum hc
      rw [bs_length] at hsum
      have hyl : (tx y).size ≤ 100000 := by rw [tx_size]; simp at hsum; omega
      have hxl : acc.length + (tx x).size ≤ 140737488355328 := by rw [tx_size]; simp at hsum; omega
      have HS : Hid (x.length + y.length + 1 = r.size) := Lib.hid (by simp at hsum; omega)
      have HC := Lib.hid hc
      have HB := Lib.hid hbld
      clear hc hbld hsum
      cases hd : cutL [59] y with
      | none =>
        have hn : entL (bs s) = none := by rw [hent, entAt, hd]; rfl
        have HN := Lib.hid hn
        have HD : Hid (cutL [59] (bs (tx y)) = none) := Lib.hid hd
        clear hn hd hent
        go_wp2_with fail
        refine (Cut_yes _ _ _ _ _ hr (HG.out.below hbel) HC.out).mono ?_
        rintro e w1 ⟨rfl, hb1⟩
        have HB1 := Lib.hid (HB.out.below hb1)
        have hbel1 := hbel.trans (hb1.mono hBw)
        clear hb1
        have hs1 := hbel1.size
        go_wp2_with fail
        refine (WriteString_c _ _ _ _ _ HB1.out hxl hs1).mono ?_
        rintro e w2 ⟨rfl, hb2, hbel2⟩
        have hbel3 := hbel1.trans hbel2
        clear hb2 hbel2
        have hs2 := hbel3.size
        go_wp2_with fail
        refine (Cut_no _ _ _ hyl (HG.out.below hbel3) HD.out).mono ?_
        rintro e w3 ⟨rfl, hb3⟩
        have hbel4 := hbel3.trans (hb3.mono hs2)
        clear hb3
        have hs3 := hbel4.size
        go_wp2_with fail
        refine (character_c _ _ (by unfold maxLen; omega) (HG.out.below hbel4)).mono ?_
        rintro e w4 ⟨rfl, hb4⟩
        have hbel5 := hbel4.trans (hb4.mono hs3)
        clear hb4
        go_wp2_with fail
        simp only [Exit.jump]
        go_ret2
        exact ⟨by rw [HN.out]; rfl, hbel5⟩
      | some z =>
        obtain ⟨body, rest⟩ := z
        have hsum := cutL_sum hd
        have hsy := HS.out
        have hbl : (tx body).size ≤ maxLen := by rw [tx_size]; unfold maxLen; simp at hsum; omega
        have HR : Hid (body.length + rest.length + 1 = y.length) := Lib.hid (by simp at hsum; omega)
        have HD : Hid (cutL [59] (bs (tx y)) = some (body, rest)) := Lib.hid hd
        clear hsum hsy
        cases hch : charL body with
        | none =>
          have hn : entL (bs s) = none := by rw [hent, entAt, hd]; simp only [hch]; rfl
          have HN := Lib.hid hn
          have HK : Hid (chB (charL (bs (tx body))) = false) := Lib.hid (by rw [bs_tx, hch]; rfl)
          clear hn hd hent hch
          go_wp2_with fail
          refine (Cut_yes _ _ _ _ _ hr (HG.out.below hbel) HC.out).mono ?_
          rintro e w1 ⟨rfl, hb1⟩
          have HB1 := Lib.hid (HB.out.below hb1)
          have hbel1 := hbel.trans (hb1.mono hBw)
          clear hb1
          have hs1 := hbel1.size
          go_wp2_with fail
          refine (WriteString_c _ _ _ _ _ HB1.out hxl hs1).mono ?_
          rintro e w2 ⟨rfl, hb2, hbel2⟩
          have hbel3 := hbel1.trans hbel2
          clear hb2 hbel2
          have hs2 := hbel3.size
          go_wp2_with fail
          refine (Cut_yes _ _ _ _ _ hyl (HG.out.below hbel3) HD.out).mono ?_
          rintro e w3 ⟨rfl, hb3⟩
          have hbel4 := hbel3.trans (hb3.mono hs2)
          clear hb3
          have hs3 := hbel4.size
          go_wp2_with fail
          refine (character_c _ _ hbl (HG.out.below hbel4)).mono ?_
          rintro e w4 ⟨rfl, hb4⟩
          have hbel5 := hbel4.trans (hb4.mono hs3)
          clear hb4
          rw [HK.out]
          go_wp2_with fail
          simp only [Exit.jump]
          go_ret2
          exact ⟨by rw [HN.out]; rfl, hbel5⟩
        | some v =>
          have hn : entL (bs s) = (entL rest).map ((acc ++ x ++ Lib.encodeRune v) ++ ·) := by
            rw [hent, entAt, hd]
            simp only [hch, Option.map_map]
            congr 1
            funext q
            simp
          have hk : chI (charL (bs (tx body))) = (v : Int) := by rw [bs_tx, hch]; rfl
          have hkb : chB (charL (bs (tx body))) = true := by rw [bs_tx, hch]; rfl
          have hv : v ≤ 1114111 := charL_le hch
          have HN := Lib.hid hn
          have HK := Lib.hid hk
          have HKB := Lib.hid hkb
          clear hn hd hent hch hk hkb
          go_wp2_with fail
          refine (Cut_yes _ _ _ _ _ hr (HG.out.below hbel) HC.out).mono ?_
          rintro e w1 ⟨rfl, hb1⟩
          have HB1 := Lib.hid (HB.out.below hb1)
          have hbel1 := hbel.trans (hb1.mono hBw)
          clear hb1
          have hs1 := hbel1.size
          go_wp2_with fail
          refine (WriteString_c _ _ _ _ _ HB1.out hxl hs1).mono ?_
          rintro e w2 ⟨rfl, hb2, hbel2⟩
          have HB2 := Lib.hid hb2
          have hbel3 := hbel1.trans hbel2
          clear hb2 hbel2
          have hs2 := hbel3.size
          go_wp2_with fail
          refine (Cut_yes _ _ _ _ _ hyl (HG.out.below hbel3) HD.out).mono ?_
          rintro e w3 ⟨rfl, hb3⟩
          have HB3 := Lib.hid (HB2.out.below hb3)
          have hbel4 := hbel3.trans (hb3.mono hs2)
          clear hb3
          have hs3 := hbel4.size
          go_wp2_with fail
          refine (character_c _ _ hbl (HG.out.below hbel4)).mono ?_
          rintro e w4 ⟨rfl, hb4⟩
          have HB4 := Lib.hid (HB3.out.below hb4)
          have hbel5 := hbel4.trans (hb4.mono hs3)
          clear hb4
          have hs4 := hbel5.size
          rw [HKB.out, HK.out]
          go_wp2_with fail
          have hll : (acc ++ bs (tx x)).length + 4 ≤ 140737488355328 := by rw [bs_tx, List.length_append]; have := HS.out; omega
          refine (WriteRune_c _ _ _ _ (by omega) (by omega) _ HB4.out hll hs4).mono ?_
          rintro e w5 ⟨⟨v5, rfl⟩, hb5, hbel6⟩
          have HB5 := Lib.hid hb5
          clear hb5
          go_wp2_with fail
          go_step3
          refine ⟨rfl, ⟨tx rest, acc ++ x ++ Lib.encodeRune v, _, _, _, _, _, _, _, _, _, _, _, _, _, _, _, _, _, _, _, _, _, _, _, _, _, _, _, _, _, _, _, _, _, _, _, _, _, _, rfl, HB5.out, hbel5.trans hbel6, ?_, HN.out⟩, ?_⟩
          · have h1 := HS.out
            have h2 := HR.out
            have h3 := (Lib.runeCells_le v).2
            rw [Lib.runeCells_length] at h3
            rw [tx_size]
            simp only [List.length_append]
            omega
          · have h1 := HS.out
            have h2 := HR.out
            show (tx rest).size < r.size
            rw [tx_size]
            omega
  · intro hpass
    go_wp2
    go_step3
    rename_i hK
    exact hK _ _ (hpass.out _ _ ⟨s, [], _, _, _, _, _, _, _, _, _, _, _, _, _, _, _, _, _, _, _, _, _, _, _, _, _, _, _, _, _, _, _, _, _, _, _, _, _, _, rfl, Lib.IsBuilderF.of (Lib.fresh_isBuilder _ _ w), (Below.refl _ _).alloc (Nat.le_refl _) _, by simp, by simp⟩)

end Go.Proofs.YtkccockdnjjanaaGreatDoor
