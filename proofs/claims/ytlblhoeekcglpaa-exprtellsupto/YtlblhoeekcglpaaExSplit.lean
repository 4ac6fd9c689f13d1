/-
  Contracts of expr.Split and expr.Join.
-/
import Derived.Test.YtlblhoeekcglpaaExProg
import Derived.Test.YtlblhoeekcglpaaGnBuild
namespace Nwl
theorem splitX_none {l : List UInt8} (hl : l ≠ []) (h : cutP l = none) : splitX l = none := by rw [splitX_step hl, h]; rfl
theorem splitX_some {l r : List UInt8} {p : Pc} (hl : l ≠ []) (h : cutP l = some (p, r)) : splitX l = (splitX r).map (p :: ·) := by rw [splitX_step hl, h]; rfl
theorem cutP_lt {l r : List UInt8} {p : Pc} (hl : l ≠ []) (h : cutP l = some (p, r)) : r.length < l.length := by
  cases l with
  | nil => exact absurd rfl hl
  | cons a l => exact writE_pos h
end Nwl
namespace Go.Proofs.Ytlblhoeekcglpaa
open Nwl
open Go.RowKit Go.Maps
set_option linter.unusedVariables false
set_option linter.unusedSimpArgs false
/-- how long a text is -/
def txtLen : Value → Nat
  | .string s => s.size
  | _ => 0
/-- what Split tells -/
def ExPost (l : List UInt8) (w : World) (e : Ending) (w' : World) : Prop :=
  match splitX l with
  | none => e = .returned (.tuple #[.slice none 0 0, .int .i64 17]) ∧ Below w.heap.size w w'
  | some ps => ∃ (A : Option Addr) (c : Nat), e = .returned (.tuple #[.slice A ps.length c, .int .i64 0]) ∧ PcO w.heap.size w' A ps.length c ps ∧ Below w.heap.size w w'
theorem exPost_err {l : List UInt8} {w w' : World} {e : Ending} (h : splitX l = none) (he : e = .returned (.tuple #[.slice none 0 0, .int .i64 17])) (hb : Below w.heap.size w w') : ExPost l w e w' := by
  unfold ExPost; rw [h]; exact ⟨he, hb⟩
theorem exPost_ok {l : List UInt8} {ps : List Pc} {w w' : World} {e : Ending} {A : Option Addr} {n c : Nat} (h : splitX l = some ps) (he : e = .returned (.tuple #[.slice A n c, .int .i64 0])) (ho : PcO w.heap.size w' A n c ps) (hb : Below w.heap.size w w') : ExPost l w e w' := by
  unfold ExPost; rw [h]
  obtain rfl := ho.1
  exact ⟨A, c, he, ho, hb⟩

set_option maxRecDepth 100000 in
set_option maxHeartbeats 4000000 in
theorem ESplit_c (l : List UInt8) (w : World) (hl : l.length ≤ 90000) (hg : GlobE w) :
    Calls Try.prog 8 #[.string (tx l)] w (ExPost l w) := by
  have HG := Lib.hid hg
  clear hg
  go_enter Try.func8, Try.ntmps8
  go_wp2_with fail
  refine wp_scope_again 0 (fun a' w' => ∃ (r : List UInt8) (ps : List Pc) (A : Option Addr) (n c : Nat) (u5 u6 u7 u8 u9 u10 u11 u12 u13 u14 u15 u16 u17 u18 u19 u20 u21 u22 u23 : Value), a' = { tmps := #[.string (tx r), undef, .slice none 0 0, .int .i64 0, .slice A n c, u5, u6, u7, u8, u9, u10, u11, u12, u13, u14, u15, u16, u17, u18, u19, u20, u21, u22, u23], defers := [] } ∧ Hid (PcO w.heap.size w' A n c ps ∧ Below w.heap.size w w' ∧ r.length + n ≤ l.length ∧ splitX l = (splitX r).map (ps ++ ·))) (fun a' _ => txtLen (a'.tmps.getD 0 undef)) rfl ?_ ?_
  · rintro a' w' ⟨r, ps, A, n, c, u5, u6, u7, u8, u9, u10, u11, u12, u13, u14, u15, u16, u17, u18, u19, u20, u21, u22, u23, rfl, hh⟩
    obtain ⟨ho, hbel, hlen, hsp⟩ := hh.out
    clear hh
    have HO := Lib.hid ho
    have hws := hbel.size
    have hrl : r.length ≤ 100000 := by omega
    have hn9 : n ≤ 99999 := by omega
    have HB := Lib.hid hbel
    clear ho
    by_cases hre : r = []
    · subst hre
      have H1 : Hid (splitX l = some ps) := Lib.hid (by rw [hsp, splitX_nil]; simp)
      have he : (tx []).toList = [] := tlx []
      clear hsp hbel
      go_wp2_with fail
      simp only [Exit.jump]
      go_ret2
      exact exPost_ok H1.out rfl HO.out HB.out
    · have hne : ¬ (tx r).toList = [] := by rw [tlx]; exact hre
      have hne2 : (tx r).toList.isEmpty = false := by simpa using hne
      cases hc : cutP r with
      | none =>
        have H1 : Hid (splitX l = none) := Lib.hid (by rw [hsp, splitX_none hre hc]; rfl)
        have HC := Lib.hid hc
        clear hsp hbel hc hre
        go_wp2_with fail
        refine (cut_bad r _ hrl HC.out).mono ?_
        rintro e w2 ⟨rfl, b2⟩
        have HB2 := Lib.hid (HB.out.trans (b2.out.mono HB.out.size))
        go_wp2_with fail
        simp only [Exit.jump]
        go_ret2
        exact exPost_err H1.out rfl (HB2.out.alloc HB2.out.size _)
      | some x =>
        obtain ⟨p, r2⟩ := x
        have hlt := cutP_lt hre hc
        have H1 : Hid (splitX l = (splitX r2).map ((ps ++ [p]) ++ ·)) := Lib.hid (by
          rw [hsp, splitX_some hre hc]
          simp only [Option.map_map]
          congr 1
          funext q
          simp)
        have HC := Lib.hid hc
        clear hsp hbel hc hre
        go_wp2_with fail
        refine (cut_good r _ hrl (HG.out.below HB.out) p r2 HC.out).mono ?_
        rintro e w2 ⟨rfl, b2⟩
        have HB2 := Lib.hid (HB.out.trans (b2.out.mono HB.out.size))
        obtain ⟨w3, hw3⟩ : ∃ w3, w2.alloc (.cells #[.bool p.nm, .string (tx p.t)] 29) = w3 := ⟨_, rfl⟩
        have HX3 : Hid (PB w2 w3 (.bool p.nm) (.string (tx p.t))) := Lib.hid (by rw [← hw3]; exact PB.new _ _ _)
        have HB3 := Lib.hid (HB2.out.trans (HX3.out.2.mono HB2.out.size))
        have HO3 := Lib.hid ((HO.out.below b2.out).below HX3.out.2)
        obtain ⟨A2, c2, W', hr, ho2, hb2⟩ := pc_snoc HO3.out HB3.out.size p hn9
        have HRUN := Lib.hid hr
        have HO4 := Lib.hid ho2
        have HB4 := Lib.hid (HB3.out.trans hb2)
        have hlen2 : Hid (r2.length + (n + 1) ≤ l.length ∧ r2.length < r.length) := Lib.hid ⟨by omega, hlt⟩
        obtain ⟨k0, k1⟩ := PB.rd HX3
        clear hr ho2 hb2 b2 hlt HO HO3 HB HB2 HB3 hws
        go_upto_region 7 with fail
        clear hw3
        go_wp2_with (at_builtin; refine wpl_app rfl _ _ _ rfl _ _ _ rfl rfl HRUN.out ?_)
        go_step3
        refine ⟨rfl, ⟨r2, ps ++ [p], A2, n + 1, c2, _, _, _, _, _, _, _, _, _, _, _, _, _, _, _, _, _, _, _, rfl, Lib.hid ⟨HO4.out, HB4.out, hlen2.out.1, H1.out⟩⟩, ?_⟩
        show (tx r2).size < (tx r).size
        rw [tx_size, tx_size]
        exact hlen2.out.2
  · intro hpass
    go_wp2_with fail
    go_step3
    rename_i hK
    refine hK _ _ (hpass.out _ _ ⟨l, [], none, 0, 0, _, _, _, _, _, _, _, _, _, _, _, _, _, _, _, _, _, _, _, rfl, Lib.hid ⟨PcO.nil _ _, Below.refl _ _, by omega, by simp⟩⟩)
end Go.Proofs.Ytlblhoeekcglpaa
