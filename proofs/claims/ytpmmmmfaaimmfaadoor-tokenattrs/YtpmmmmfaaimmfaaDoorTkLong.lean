/-
  The walk of TokenLong.
-/
import Derived.Test.YtpmmmmfaaimmfaaDoorTkRefuses
import Derived.Deep.DeepCutAuto
import Derived.Laws.OwnMore
import Derived.Lib.SlBytesConst
namespace Nwl
theorem no_lt : ∀ l : List UInt8, 60 ∉ l → l.takeWhile (· != 60) = l ∧ l.dropWhile (· != 60) = []
  | [], _ => ⟨rfl, rfl⟩
  | c :: r, h => by
    simp only [List.mem_cons, not_or] at h
    have hb : (c != 60) = true := by rw [bne_iff_ne]; exact fun e => h.1 e.symm
    obtain ⟨h1, h2⟩ := no_lt r h.2
    rw [List.takeWhile_cons, if_pos hb, h1, List.dropWhile_cons, if_pos hb, h2]
    exact ⟨rfl, rfl⟩
theorem plain_split {l : List UInt8} (h60 : 60 ∉ l) (h38 : 38 ∉ l) : splitL l = some (if l = [] then [] else [⟨3, [], l, [], false⟩]) := by
  by_cases e : l = []
  · subst e; rfl
  · rw [if_neg e, splitL_M, splitM_step e]
    have hp : ∀ p : List UInt8, Go.Lib.hasPrefix l (60 :: p) = false := by
      intro p
      cases l with
      | nil => exact absurd rfl e
      | cons c r =>
        simp only [List.mem_cons, not_or] at h60
        show ((60 == c) && p.isPrefixOf r) = false
        rw [beq_eq_false_iff_ne.2 h60.1, Bool.false_and]
    have ht : l.takeWhile (· != 60) = l := (no_lt l h60).1
    have hd : l.dropWhile (· != 60) = [] := (no_lt l h60).2
    have hent : entL l = some l := by
      have := entL_plain l [] h38
      rw [List.append_nil] at this
      rw [this, entL_nil]
      simp
    have htok : tokL true l = some (⟨3, [], l, [], false⟩, []) := by
      unfold tokL
      rw [if_neg (by rw [hp]; decide), if_neg (by rw [hp]; decide), if_neg (by rw [hp]; decide), if_neg (by rw [hp]; decide), if_neg (by rw [hp]; decide)]
      unfold textL
      rw [ht, hd, hent]
      rfl
    rw [htok]
    rfl
theorem rep_all (n : Nat) : allL (List.replicate n 120) = true := by
  unfold allL
  rw [List.all_eq_true]
  intro c hc
  rw [List.eq_of_mem_replicate hc]
  decide
theorem rep_split (n : Nat) (h : n ≤ 20000) : splitE (List.replicate n 120) = 0 :=
  splitE_some (by rw [List.length_replicate]; omega) (rep_all n) (plain_split (fun h => by have := List.eq_of_mem_replicate h; cases this) (fun h => by have := List.eq_of_mem_replicate h; cases this))
theorem splitE_four {l : List UInt8} (h : ¬ 20000 < l.length) : (splitE l == 4) = !allL l := by
  cases ha : allL l with
  | false => rw [splitE_byte h ha]; rfl
  | true =>
    unfold splitE
    rw [if_neg h, if_pos ha]
    split <;> rfl
def txtL : List UInt8 := [60, 97, 62, 116, 101, 120, 116, 60, 47, 97, 62]
theorem txt_all (k : Nat) (hk : k < 11) (c : UInt8) : allL (txtL.set k c) = allowedI c.toNat := by
  have h : ∀ d ∈ txtL, allowedI d.toNat = true := by decide
  unfold allL
  rw [Bool.eq_iff_iff, List.all_eq_true]
  constructor
  · intro hh
    exact hh c (List.mem_iff_getElem.2 ⟨k, by rw [List.length_set]; exact hk, List.getElem_set_self _⟩)
  · intro hc d hd
    rcases List.mem_or_eq_of_mem_set hd with hd | rfl
    · exact h d hd
    · exact hc
theorem txt_set (k j : Nat) (c : UInt8) (hj : j < (txtL.set k c).length) : (txtL.set k c)[j] = if j = k then c else txtL.getD j 0 := by
  rw [List.getElem_set]
  by_cases e : j = k
  · rw [if_pos e, if_pos e.symm]
  · rw [if_neg e, if_neg (fun h => e h.symm), List.getD_eq_getElem?_getD, List.getElem?_eq_getElem (by rw [List.length_set] at hj; exact hj)]
    rfl
theorem txt_len (k : Nat) (c : UInt8) : (txtL.set k c).length = 11 := by rw [List.length_set]; rfl
theorem allowed_bad (c : UInt8) : (!allowedI c.toNat) = (decide ((c.toNat : Int) < 32) && ((c.toNat : Int) != 9) && ((c.toNat : Int) != 10) && ((c.toNat : Int) != 13)) := by
  rw [Bool.eq_iff_iff]
  simp [allowedI, spaceI]
  omega
end Nwl
namespace Go.Proofs.YtpmmmmfaaimmfaaDoor
open Nwl
open Go.RowKit Go.Maps
set_option linter.unusedVariables false

def u8c (l : List UInt8) : List Value := l.map fun c => .int .u8 (c.toNat : Int)
def fillL (N k : Nat) : List Value := List.replicate k (.int .u8 120) ++ List.replicate (N - k) (.int .u8 0)
theorem fill_at (N k : Nat) (h : k < N) : (fillL N k)[k]? = some (.int .u8 0) := by
  unfold fillL
  rw [List.getElem?_append_right (by simp)]
  simp only [List.length_replicate, Nat.sub_self]
  rw [List.getElem?_replicate, if_pos (by omega)]
theorem fill_set (N k : Nat) (h : k < N) : (fillL N k).set k (.int .u8 120) = fillL N (k + 1) := by
  unfold fillL
  rw [List.set_append_right _ _ (by simp)]
  simp only [List.length_replicate, Nat.sub_self]
  rw [List.replicate_succ', List.append_assoc]
  congr 1
  obtain ⟨m, hm⟩ : ∃ m, N - k = m + 1 := ⟨N - k - 1, by omega⟩
  have hm2 : N - (k + 1) = m := by omega
  rw [hm, hm2, List.replicate_succ]
  rfl
theorem fill_end (N : Nat) : fillL N N = u8c (List.replicate N 120) := by
  unfold fillL u8c
  rw [Nat.sub_self, List.map_replicate]
  simp
theorem own_text {w : World} {base g cap : Nat} {l : List UInt8} (h : w.ownsRow base 5 1 (.slice (some ⟨g, 0, none⟩) l.length cap) l.length (u8c l)) :
    (convert 22 9 (.slice (some ⟨g, 0, none⟩) l.length cap)).run Tryd.prog w = .ok (.string (tx l)) w :=
  run_convert_bytes_back (P := Tryd.prog) w 22 9 5 ⟨g, 0, none⟩ cap l Tryd.underlying22 Tryd.underlying5 Tryd.underlying9 (by
    intro j hj
    exact h.cells (g := g) rfl j _ (by simp [u8c, List.getElem?_eq_getElem hj]))
theorem Split_at (l : List UInt8) (w : World) (hs : l.length ≤ 9223372036854775807) (hg : Glob w) :
    Calls Tryd.prog 10 #[.string (tx l)] w fun e w' => (∃ A n c, e = .returned (.tuple #[.slice A n c, .int .i64 (splitE l)])) ∧ Below w.heap.size w w' := by
  refine (Split_c (tx l) w (by rw [tx_size]; exact hs) hg).mono ?_
  rintro e w' ⟨A, c, rfl, _, hb⟩
  exact ⟨⟨A, _, c, rfl⟩, hb⟩
theorem byte_is (c : Int) (h : (Lit.int .u8 c).wf = true) : ∃ b : UInt8, c = (b.toNat : Int) := by
  have hx : 0 ≤ c ∧ c ≤ 255 := by simpa [Lit.wf, IntKind.min, IntKind.max, IntKind.signed, IntKind.bits] using h
  refine ⟨UInt8.ofNat c.toNat, ?_⟩
  rw [UInt8.toNat_ofNat']
  omega


theorem addr_ne {b j k : Nat} (h : ¬ j = k) : (⟨b, k, none⟩ : Addr) ≠ ⟨b, j, none⟩ := by
  intro e
  simp only [Addr.mk.injEq] at e
  exact h e.2.1.symm
/-- '[]byte' of the law's own text, one byte of it written, and back to a text -/
theorem const_text (w : World) (k : Nat) (hk : k < 11) (c : UInt8) : ∃ W : World,
    (convert 22 22 (.slice (some ⟨w.heap.size, 0, none⟩) 11 11)).run Tryd.prog (w.alloc (.cells #[.int .u8 60, .int .u8 97, .int .u8 62, .int .u8 116, .int .u8 101, .int .u8 120, .int .u8 116, .int .u8 60, .int .u8 47, .int .u8 97, .int .u8 62] 5)) = .ok (.slice (some ⟨w.heap.size, 0, none⟩) 11 11) W ∧
    (∃ v, W.cell? ⟨w.heap.size, k, none⟩ = some v) ∧ W.frozen? ⟨w.heap.size, k, none⟩ = false ∧ Below w.heap.size w W ∧
    (convert 22 9 (.slice (some ⟨w.heap.size, 0, none⟩) 11 11)).run Tryd.prog (W.setCell ⟨w.heap.size, k, none⟩ (.int .u8 (c.toNat : Int))) = .ok (.string (tx (txtL.set k c))) (W.setCell ⟨w.heap.size, k, none⟩ (.int .u8 (c.toNat : Int))) := by
  have h1 := Lib.run_convert_bytes_const (P := Tryd.prog) w 22 5 #[.int .u8 60, .int .u8 97, .int .u8 62, .int .u8 116, .int .u8 101, .int .u8 120, .int .u8 116, .int .u8 60, .int .u8 47, .int .u8 97, .int .u8 62] 11 11 Tryd.underlying22 Tryd.underlying5
  have hcell : ∀ j (hj : j < 11), (w.alloc (.cells #[.int .u8 60, .int .u8 97, .int .u8 62, .int .u8 116, .int .u8 101, .int .u8 120, .int .u8 116, .int .u8 60, .int .u8 47, .int .u8 97, .int .u8 62] 5 (11, 12))).cell? ⟨w.heap.size, j, none⟩ = some (.int .u8 ((txtL.getD j 0).toNat : Int)) := by
    intro j hj
    rw [World.cell?_alloc_mark]
    match j, hj with
    | 0, _ | 1, _ | 2, _ | 3, _ | 4, _ | 5, _ | 6, _ | 7, _ | 8, _ | 9, _ | 10, _ => rfl
    | j + 11, hj => omega
  have hfz : (w.alloc (.cells #[.int .u8 60, .int .u8 97, .int .u8 62, .int .u8 116, .int .u8 101, .int .u8 120, .int .u8 116, .int .u8 60, .int .u8 47, .int .u8 97, .int .u8 62] 5 (11, 12))).frozen? ⟨w.heap.size, k, none⟩ = false := by
    rw [World.frozen?_alloc_mark]
    simp
    omega
  refine ⟨_, h1, ⟨_, hcell k hk⟩, hfz, (Below.refl _ _).alloc (Nat.le_refl _) _, ?_⟩
  have := run_convert_bytes_back (P := Tryd.prog) ((w.alloc (.cells #[.int .u8 60, .int .u8 97, .int .u8 62, .int .u8 116, .int .u8 101, .int .u8 120, .int .u8 116, .int .u8 60, .int .u8 47, .int .u8 97, .int .u8 62] 5 (11, 12))).setCell ⟨w.heap.size, k, none⟩ (.int .u8 (c.toNat : Int))) 22 9 5 ⟨w.heap.size, 0, none⟩ 11 (txtL.set k c) Tryd.underlying22 Tryd.underlying5 Tryd.underlying9 (by
    intro j hj
    have hj' : j < 11 := by rw [txt_len] at hj; exact hj
    rw [addr_add0']
    by_cases e : j = k
    · subst e
      rw [World.cell?_setCell_same _ _ _ (hcell j hj'), txt_set, if_pos rfl]
    · rw [World.cell?_setCell_other _ _ _ _ (addr_ne e), hcell j hj', txt_set, if_neg e])
  rw [txt_len] at this
  exact this

set_option maxRecDepth 100000 in
set_option maxHeartbeats 4000000 in
theorem TokenLong_walk (a c0 b : Int) (w : World) (ha : (Lit.int .i64 a).wf = true) (hc : (Lit.int .u8 c0).wf = true) (hb : (Lit.int .i64 b).wf = true) (hg : Glob w) :
    Calls Tryd.prog 6 #[.int .i64 a, .int .u8 c0, .int .i64 b] w fun e w' => e = .returned (.bool true) ∧ Below w.heap.size w w' := by
  obtain ⟨c, rfl⟩ := byte_is c0 hc
  have HG := Lib.hid hg
  obtain ⟨x0, x1⟩ := idx_in a 10 (by decide) (by decide)
  obtain ⟨y0, y1⟩ := idx_in b 11 (by decide) (by decide)
  obtain ⟨i0, hi, hz0, hz1, hz2⟩ := info_parts info_b8
  obtain ⟨x, hx⟩ : ∃ x : Nat, wrap64 ((IntKind.u64.wrap a).tmod 10) = (x : Int) := ⟨(wrap64 ((IntKind.u64.wrap a).tmod 10)).toNat, by omega⟩
  obtain ⟨j, hy⟩ : ∃ x : Nat, wrap64 ((IntKind.u64.wrap b).tmod 11) = (x : Int) := ⟨(wrap64 ((IntKind.u64.wrap b).tmod 11)).toNat, by omega⟩
  have hx10 : x < 10 := by omega
  have hj : j < 11 := by omega
  clear hg ha hc hb x0 x1 y0 y1
  go_enter Tryd.func6, Tryd.ntmps6
  go_wp2_with (at_make; refine wpList_make_full _ rfl _ _ 22 rfl w.heap.size 5 i0 _ 1 Tryd.underlying22 hi hz0 hz1 _ _ _ _ (19995 + x) rfl rfl (by omega) (by omega) (by rw [hz2]; omega) (by unfold maxLen; omega) (Nat.le_refl _) ?_; intro w1 hown1 hgr1)
  have hb1 : Below w.heap.size w w1 := (Below.refl _ _).grown hgr1 (Nat.le_refl _) (fun k hk => by cases hk)
  have ho1 : w1.ownsRow w.heap.size 5 1 (.slice (some ⟨w.heap.size, 0, none⟩) (19995 + x) (19995 + x)) (19995 + x) (fillL (19995 + x) 0) := by
    have e : (madeCells (Value.int .u8 0).cells ((19995 + x) * 1)).toList = fillL (19995 + x) 0 := by
      rw [Nat.mul_one]
      have := toList_madeCells_one (.int .u8 0) (19995 + x)
      unfold fillL
      have e2 : (Value.int .u8 0).cells = #[Value.int .u8 0] := rfl
      rw [e2, this]
      simp
    rw [← e]
    exact hown1
  have HO1 := Lib.hid ho1
  clear hown1 hgr1 ho1
  go_loopw [25] (fun i wr => ∃ k : Nat, k ≤ 19995 + x ∧ i = .int .i64 k ∧ Hid (wr.ownsRow w.heap.size 5 1 (.slice (some ⟨w.heap.size, 0, none⟩) (19995 + x) (19995 + x)) (19995 + x) (fillL (19995 + x) k) ∧ Below w.heap.size w wr)) (fun i _ => 19995 + x - (intOf i).toNat)
  case atStart => exact ⟨0, Nat.zero_le _, rfl, HO1.out, hb1⟩
  case round =>
    clear HO1 hb1
    obtain ⟨k, hk, rfl, hh⟩ := hrel
    obtain ⟨hown, hbel⟩ := hh.out
    clear hh
    by_cases hlt : k < 19995 + x
    · have hcell := hown.cellAt k (by omega)
      rw [fill_at _ _ hlt] at hcell
      have hfz := hown.frozenAt k
      have hst := (hown.stored k (.int .u8 120)).1
      rw [fill_set _ _ hlt] at hst
      have HST := Lib.hid hst
      have HBL := Lib.hid hbel
      clear hown hst hbel
      go_wp2_with fail
      go_roundw
      case rel => exact ⟨k + 1, by omega, by go_num, HST.out, HBL.out.setCell (Nat.le_refl _) _⟩
      case measure => simp [intOf]; omega
    · obtain rfl : k = 19995 + x := by omega
      rw [fill_end] at hown
      have hconv := own_text (l := List.replicate (19995 + x) 120) (by simpa using hown)
      rw [List.length_replicate] at hconv
      have hsl : (List.replicate (19995 + x) (120 : UInt8)).length ≤ 9223372036854775807 := by rw [List.length_replicate]; omega
      have HBL := Lib.hid hbel
      clear hown hbel hlt
      by_cases hbig : 5 < x
      · have HE : Hid (splitE (List.replicate (19995 + x) 120) = 3) := Lib.hid (splitE_big (by rw [List.length_replicate]; omega))
        have htest : ¬ ((x : Int) ≤ 5) := by omega
        generalize hL : List.replicate (19995 + x) (120 : UInt8) = L at hconv hsl HE
        clear hL
        go_wp2_with fail
        refine (Split_at _ _ hsl (HG.out.below HBL.out)).mono ?_
        rintro e w2 ⟨⟨A2, n2, c2, rfl⟩, hb2⟩
        rw [HE.out]
        have hbel2 := HBL.out.trans (hb2.mono HBL.out.size)
        have HB2 := Lib.hid hbel2
        clear hb2 hbel2 hconv
        obtain ⟨W5, q1, ⟨q2v, q2⟩, q3, q4, q5⟩ := const_text w2 j hj c
        have hw2 := HB2.out.size
        have HB5 : Hid (Below w.heap.size w W5) := Lib.hid (HB2.out.trans (q4.mono hw2))
        clear q4
        go_wp2_with fail
        have HB6 : Hid (Below w.heap.size w (W5.setCell ⟨w2.heap.size, j, none⟩ (.int .u8 (c.toNat : Int)))) := Lib.hid (HB5.out.setCell hw2 _)
        refine (Split_at _ _ (by rw [txt_len]; decide) (HG.out.below HB6.out)).mono ?_
        rintro e w3 ⟨⟨A3, n3, c3, rfl⟩, hb3⟩
        have HB3 : Hid (Below w.heap.size w w3) := Lib.hid (HB6.out.trans (hb3.mono HB6.out.size))
        have h4 := splitE_four (l := txtL.set j c) (by rw [txt_len]; decide)
        rw [txt_all j hj, allowed_bad] at h4
        clear hb3 q1 q2 q3 q5
        go_wp2_with (go_at_call 12; refine (awake_c _ (HG.out.below HB3.out)).mono ?_; rintro e w4 ⟨rfl, hb4⟩)
        all_goals go_ret
        all_goals exact ⟨ret_bool (by simp <;> omega), HB3.out.trans (hb4.mono HB3.out.size)⟩
      · have HE : Hid (splitE (List.replicate (19995 + x) 120) = 0) := Lib.hid (rep_split _ (by omega))
        generalize hL : List.replicate (19995 + x) (120 : UInt8) = L at hconv hsl HE
        clear hL
        go_wp2_with fail
        refine (Split_at _ _ hsl (HG.out.below HBL.out)).mono ?_
        rintro e w2 ⟨⟨A2, n2, c2, rfl⟩, hb2⟩
        rw [HE.out]
        have hbel2 := HBL.out.trans (hb2.mono HBL.out.size)
        have HB2 := Lib.hid hbel2
        clear hb2 hbel2 hconv
        obtain ⟨W5, q1, ⟨q2v, q2⟩, q3, q4, q5⟩ := const_text w2 j hj c
        have hw2 := HB2.out.size
        have HB5 : Hid (Below w.heap.size w W5) := Lib.hid (HB2.out.trans (q4.mono hw2))
        clear q4
        go_wp2_with fail
        have HB6 : Hid (Below w.heap.size w (W5.setCell ⟨w2.heap.size, j, none⟩ (.int .u8 (c.toNat : Int)))) := Lib.hid (HB5.out.setCell hw2 _)
        refine (Split_at _ _ (by rw [txt_len]; decide) (HG.out.below HB6.out)).mono ?_
        rintro e w3 ⟨⟨A3, n3, c3, rfl⟩, hb3⟩
        have HB3 : Hid (Below w.heap.size w w3) := Lib.hid (HB6.out.trans (hb3.mono HB6.out.size))
        have h4 := splitE_four (l := txtL.set j c) (by rw [txt_len]; decide)
        rw [txt_all j hj, allowed_bad] at h4
        clear hb3 q1 q2 q3 q5
        go_wp2_with (go_at_call 12; refine (awake_c _ (HG.out.below HB3.out)).mono ?_; rintro e w4 ⟨rfl, hb4⟩)
        all_goals go_ret
        all_goals exact ⟨ret_bool (by simp <;> omega), HB3.out.trans (hb4.mono HB3.out.size)⟩


end Go.Proofs.YtpmmmmfaaimmfaaDoor
