/-
  Contracts of Trim and its parts (chars, and the document's own answer). Contracts of Lower (chars, and the document's own answer): the same text in small letters; nothing that was there is turned. Contracts of the calls that only read (package words): mayStand, separates, digitAt, Right, partEnd, namedKind, shortKind. Contracts of words.Right and words.partEnd: loops by goto that only read.
-/
import Derived.Test.YthmlggglemnfgaaDoorBa
import Derived.WalkMore
import Derived.ScopeJumps
import Derived.Laws.IdiomStrings
import Derived.Laws.AppendOwn
import Derived.OwnWalk
import Derived.Below
import Derived.Deep.QuietTactic
import Derived.Deep.RegionWith
import Derived.BigQuiet
namespace Go.Proofs.YthmlggglemnfgaaDoor
open Nwl
open Go.RowKit (Hid intOf)

theorem dropB_size (s : ByteArray) : (dropB s).size ≤ s.size := by
  rw [← bs_length (dropB s), ← bs_length s, dropB, bs_tx]; exact (List.dropWhile_sublist _).length_le
theorem trimB_size (s : ByteArray) : (trimB s).size ≤ s.size := by
  rw [← bs_length (trimB s), ← bs_length s, trimB, bs_tx, trimL, List.length_reverse]
  refine Nat.le_trans ((List.dropWhile_sublist _).length_le) ?_
  rw [List.length_reverse]
  exact (List.dropWhile_sublist _).length_le

end Go.Proofs.YthmlggglemnfgaaDoor

namespace Go.Proofs.YthmlggglemnfgaaDoor
open Nwl
open Go.RowKit

theorem low8_val (c : UInt8) (h : upperI c.toNat = true) : ((low8 c).toNat : Int) = (c.toNat : Int) + 32 := by
  unfold low8
  rw [if_pos h]
  simp [upperI] at h
  rw [UInt8.toNat_add]
  simp
  omega
theorem low8_same (c : UInt8) (h : upperI c.toNat = false) : low8 c = c := by
  unfold low8
  rw [if_neg (by rw [h]; decide)]

theorem addr_add0 (b j : Nat) : (⟨b, 0, none⟩ : Addr).add j = ⟨b, j, none⟩ := by
  unfold Addr.add
  by_cases h : j = 0 <;> simp [h]

/-- the block b holds the text s, its first k bytes lowered -/
def LowTo (s : ByteArray) (w : World) (b k : Nat) : Prop :=
  ∀ j (hj : j < s.size), w.cell? ⟨b, j, none⟩ = some (.int .u8 (if j < k then ((low8 s[j]).toNat : Int) else (s[j].toNat : Int))) ∧ w.frozen? ⟨b, j, none⟩ = false

theorem LowTo.keep {s : ByteArray} {w : World} {b k : Nat} (h : LowTo s w b k) (hk : k < s.size) (hu : upperI s[k].toNat = false) : LowTo s w b (k + 1) := by
  intro j hj
  refine ⟨?_, (h j hj).2⟩
  rw [(h j hj).1]
  by_cases e : j = k
  · subst e; rw [if_neg (by omega), if_pos (by omega), low8_same _ hu]
  · by_cases e2 : j < k
    · rw [if_pos e2, if_pos (by omega)]
    · rw [if_neg e2, if_neg (by omega)]
theorem LowTo.store {s : ByteArray} {w : World} {b k : Nat} (h : LowTo s w b k) (hk : k < s.size) (v : Int) (hv : v = ((low8 s[k]).toNat : Int)) : LowTo s (w.setCell ⟨b, k, none⟩ (.int .u8 v)) b (k + 1) := by
  intro j hj
  by_cases e : j = k
  · subst e
    have hc := (h j hj).1
    refine ⟨?_, ?_⟩
    · rw [World.cell?_setCell_same w _ _ hc, if_pos (by omega), hv]
    · rw [World.frozen?_setCell]; exact (h j hj).2
  · refine ⟨?_, ?_⟩
    · rw [World.cell?_setCell_other w _ _ _ (by intro h; apply e; injection h with _ h2; exact h2.symm), (h j hj).1]
      by_cases e2 : j < k
      · rw [if_pos e2, if_pos (by omega)]
      · rw [if_neg e2, if_neg (by omega)]
    · rw [World.frozen?_setCell]; exact (h j hj).2
theorem LowTo.back {s : ByteArray} {w : World} {b : Nat} (h : LowTo s w b s.size) (cap : Nat) :
    (convert 64 9 (.slice (some ⟨b, 0, none⟩) s.size cap)).run Tryd.prog w = .ok (.string (lowerB s)) w := by
  have hl : (lowerL (bs s)).length = s.size := by simp [lowerL, bs_length]
  have := run_convert_bytes_back (P := Tryd.prog) w 64 9 5 ⟨b, 0, none⟩ cap (lowerL (bs s)) Tryd.underlying64 Tryd.underlying5 Tryd.underlying9 (by
    intro j hj
    have hj' : j < s.size := by omega
    have hc := (h j hj').1
    rw [if_pos hj'] at hc
    simp only [lowerL, List.getElem_map]
    rw [bs_get s j hj']
    rw [addr_add0]; exact hc)
  rw [hl] at this
  exact this

set_option maxHeartbeats 400000 in
theorem Lower_c (s : ByteArray) (w : World) (hs : s.size ≤ maxLen) :
    Calls Tryd.prog 46 #[.string s] w fun e w' => e = .returned (.string (lowerB s)) ∧ Below w.heap.size w w' := by
  have hconv := run_bytes_of_string (P := Tryd.prog) w 9 64 5 s Tryd.underlying9 Tryd.underlying64 Tryd.underlying5
  have hC : ∀ j (hj : j < s.size), (bytesRow s (grownCap w s.size 0 5))[j]? = some (.int .u8 (s[j].toNat : Int)) := fun j hj => bytesRow_at s _ j hj
  have hCs : s.size ≤ (bytesRow s (grownCap w s.size 0 5)).size := by simp [bytesRow]
  generalize bytesRow s (grownCap w s.size 0 5) = C at hconv hC hCs
  generalize grownCap w s.size 0 5 = cap at hconv
  have hst : LowTo s (w.drew.alloc (.cells C 5 (C.size, C.size + 1))) w.heap.size 0 := by
    intro j hj
    refine ⟨?_, ?_⟩
    · rw [if_neg (by omega)]
      exact (World.cell?_alloc_mark w.drew C 5 (C.size, C.size + 1) j).trans (hC j hj)
    · refine (World.frozen?_alloc_mark w.drew C 5 C.size (C.size + 1) j).trans ?_
      simp; omega
  have HST := Lib.hid hst
  clear hst hC
  unfold maxLen at hs
  go_enter Tryd.func46, Tryd.ntmps46
  go_wp2
  go_loopw [10] (fun i wr => ∃ k : Nat, k ≤ s.size ∧ i = .int .i64 k ∧ LowTo s wr w.heap.size k ∧ Below w.heap.size w wr ∧ w.heap.size < wr.heap.size) (fun i _ => s.size - (intOf i).toNat)
  case atStart => exact ⟨0, Nat.zero_le _, rfl, HST.out, ((Below.refl _ _).alloc (Nat.le_refl _) _).drew, by simp⟩
  case round =>
    clear hconv HST
    obtain ⟨k, hk, rfl, hlow, hbel, hsz⟩ := hrel
    by_cases hlt : k < s.size
    · have hcell := (hlow k hlt).1
      have hfz := (hlow k hlt).2
      rw [if_neg (Nat.lt_irrefl k)] at hcell
      cases hu : upperI s[k].toNat with
      | true =>
        have hb : 65 ≤ (s[k].toNat : Int) ∧ (s[k].toNat : Int) ≤ 90 := by simpa [upperI] using hu
        obtain ⟨hb1, hb2⟩ := hb
        have hst : Hid (LowTo s (wr.setCell ⟨w.heap.size, k, none⟩ (.int .u8 ((s[k].toNat : Int) - 65 + 97))) w.heap.size (k + 1)) := Lib.hid (hlow.store hlt _ (by rw [low8_val _ hu]; omega))
        go_wp2_with (go_at_call 60; refine (upper_c _ _).mono ?_; rintro e w' ⟨rfl, rfl⟩)
        go_roundw
        case rel => exact ⟨k + 1, by omega, by go_num, hst.out, hbel.setCell (Nat.le_refl _) _, by simpa using hsz⟩
        case measure => simp [intOf]; omega
      | false =>
        have hst : Hid (LowTo s wr w.heap.size (k + 1)) := Lib.hid (hlow.keep hlt hu)
        go_wp2_with (go_at_call 60; refine (upper_c _ _).mono ?_; rintro e w' ⟨rfl, rfl⟩)
        go_roundw
        case rel => exact ⟨k + 1, by omega, by go_num, hst.out, hbel, hsz⟩
        case measure => simp [intOf]; omega
    · obtain rfl : k = s.size := by omega
      have hback := hlow.back cap
      go_wp2
      go_ret
      exact ⟨rfl, hbel⟩

end Go.Proofs.YthmlggglemnfgaaDoor

namespace Nwl
theorem bs_lit (l : List UInt8) (s : ByteArray) : (s = ⟨l.toArray⟩) ↔ bs s = l := by
  constructor
  · intro h; rw [h]; rfl
  · intro h; exact bs_inj (by rw [h]; rfl)
theorem digHd_drop (s : ByteArray) (k : Nat) (h : k < s.size) : digHd ((bs s).drop k) = digitI s[k].toNat := by
  have hl := bs_length s
  rw [List.drop_eq_getElem_cons (by omega)]
  rfl
theorem digHd_end (s : ByteArray) (k : Nat) (h : s.size ≤ k) : digHd ((bs s).drop k) = false := by
  rw [List.drop_eq_nil_of_le (by rw [bs_length]; exact h)]; rfl
end Nwl
namespace Go.Proofs.YthmlggglemnfgaaDoor
open Nwl
open Go.RowKit Go.Maps
set_option linter.unusedVariables false

theorem ret_i64 {a b : Int} (h : a = b) : Ending.returned (.int .i64 a) = .returned (.int .i64 b) := by rw [h]
theorem toList_bs (s : ByteArray) : s.toList = bs s := by rw [ByteArray.toList_eq]; rfl

set_option maxHeartbeats 400000 in
theorem mayStand_c (c : Int) (w : World) :
    Calls Tryd.prog 41 #[.int .u8 c] w fun e w' => e = .returned (.bool (mayV c)) ∧ w = w' := by
  go_enter Tryd.func41, Tryd.ntmps41
  go_wp2
  all_goals go_ret
  all_goals exact ⟨ret_bool (by rw [Bool.eq_iff_iff]; simp [mayV, *] <;> omega), rfl⟩

set_option maxHeartbeats 400000 in
theorem separates_c (c : Int) (w : World) :
    Calls Tryd.prog 51 #[.int .u8 c] w fun e w' => e = .returned (.bool (sepI c)) ∧ w = w' := by
  go_enter Tryd.func51, Tryd.ntmps51
  go_wp2
  all_goals go_ret
  all_goals exact ⟨by simp [sepI, *] <;> omega, rfl⟩

set_option maxHeartbeats 400000 in
theorem digitAt_c (s : ByteArray) (k : Nat) (w : World) (hs : s.size ≤ maxLen) (hk : k ≤ s.size) (r : Bool) (hr : digHd ((bs s).drop k) = r) :
    Calls Tryd.prog 49 #[.string s, .int .i64 k] w fun e w' => e = .returned (.bool r) ∧ w = w' := by
  unfold maxLen at hs
  by_cases h : k < s.size
  · rw [digHd_drop s k h] at hr
    go_enter Tryd.func49, Tryd.ntmps49
    go_wp2_with (go_at_call 31; refine (Digit_c _ _).mono ?_; rintro e w' ⟨rfl, rfl⟩)
    all_goals go_ret
    all_goals exact ⟨rfl, rfl⟩
  · rw [digHd_end s k (by omega)] at hr
    subst hr
    go_enter Tryd.func49, Tryd.ntmps49
    go_wp2
    all_goals go_ret
    all_goals exact ⟨rfl, rfl⟩

set_option maxHeartbeats 800000 in
theorem namedKind_c (s : ByteArray) (w : World) :
    Calls Tryd.prog 62 #[.string s] w fun e w' => e = .returned (.int .i64 (namedK (bs s) : Nat)) ∧ w = w' := by
  go_enter Tryd.func62, Tryd.ntmps62
  go_wp2
  all_goals go_ret
  all_goals exact ⟨ret_i64 (by simp_all [namedK, toList_bs]), rfl⟩

set_option maxHeartbeats 800000 in
theorem shortKind_c (s : ByteArray) (w : World) :
    Calls Tryd.prog 63 #[.string s] w fun e w' => e = .returned (.int .i64 (shortK (bs s) : Nat)) ∧ w = w' := by
  go_enter Tryd.func63, Tryd.ntmps63
  go_wp2
  all_goals go_ret
  all_goals exact ⟨ret_i64 (by simp_all [shortK, toList_bs]), rfl⟩
end Go.Proofs.YthmlggglemnfgaaDoor

namespace Go.Proofs.YthmlggglemnfgaaDoor
open Nwl
open Go.RowKit Go.Maps
set_option linter.unusedVariables false

set_option maxRecDepth 100000 in
set_option maxHeartbeats 800000 in
theorem Right_c (s : ByteArray) (w : World) (hs : s.size ≤ maxLen) :
    Calls Tryd.prog 32 #[.string s] w fun e w' => e = .returned (.bool (rightV (bs s))) ∧ w = w' := by
  unfold maxLen at hs
  by_cases h0 : s.size = 0
  · have he : s.toList = [] := toList_nil_of s h0
    have HR := Lib.hid (right_short s h0)
    clear h0
    go_enter Tryd.func32, Tryd.ntmps32
    go_wp2_with fail
    go_step3
    go_wp2_with fail
    rw [Exit.noGoto_ret]
    go_ret
    exact ⟨ret_bool HR.out.symm, rfl⟩
  · have hne : (s.toList == []) = false := by rw [toList_bs]; have := bs_length s; cases h : bs s with
      | nil => rw [h] at this; simp at this; omega
      | cons => rfl
    by_cases hb : 100 < s.size
    · have HR := Lib.hid (right_long s hb)
      go_enter Tryd.func32, Tryd.ntmps32
      go_wp2_with fail
      go_step3
      go_wp2_with fail
      rw [Exit.noGoto_ret]
      go_ret
      exact ⟨ret_bool HR.out.symm, rfl⟩
    · go_enter Tryd.func32, Tryd.ntmps32
      go_wp2_with fail
      refine wp_scope_again 0 (fun a' w' => w = w' ∧ ∃ (k : Nat) (u4 u5 u6 u7 u8 u9 u10 u11 u12 u13 u14 u15 u16 u17 u18 u19 u20 u21 : Value), a' = { tmps := #[.string s, undef, .bool false, .int .i64 k, u4, u5, u6, u7, u8, u9, u10, u11, u12, u13, u14, u15, u16, u17, u18, u19, u20, u21], defers := [] } ∧ k ≤ s.size ∧ Hid (MayTo s k)) (fun a' _ => s.size - (intOf (a'.tmps.getD 3 undef)).toNat) rfl ?_ ?_
      · rintro a' w' ⟨rfl, k, u4, u5, u6, u7, u8, u9, u10, u11, u12, u13, u14, u15, u16, u17, u18, u19, u20, u21, rfl, hk, hm⟩
        by_cases hlt : k < s.size
        · cases hc : mayV s[k].toNat with
          | true =>
            have hup := Lib.hid (mayTo_up s k hlt hm.out hc)
            go_wp2_with (go_at_call 41; refine (mayStand_c _ _).mono ?_; rintro e w' ⟨rfl, rfl⟩)
            go_step3
            refine ⟨rfl, ⟨rfl, k + 1, _, _, _, _, _, _, _, _, _, _, _, _, _, _, _, _, _, _, rfl, by omega, hup⟩, ?_⟩
            simp [intOf]
            omega
          | false =>
            have HR := Lib.hid (right_no s k hlt hc)
            go_wp2_with (go_at_call 41; refine (mayStand_c _ _).mono ?_; rintro e w' ⟨rfl, rfl⟩)
            simp only [Exit.jump]
            go_ret
            exact ⟨ret_bool HR.out.symm, rfl⟩
        · obtain rfl : k = s.size := by omega
          have HR := Lib.hid (right_yes s (by omega) (by omega) hm.out)
          go_wp2_with fail
          simp only [Exit.jump]
          go_ret
          exact ⟨ret_bool HR.out.symm, rfl⟩
      · intro hpass
        go_wp2_with fail
        go_step3
        rename_i hK
        exact hK _ _ (hpass.out _ _ ⟨rfl, 0, _, _, _, _, _, _, _, _, _, _, _, _, _, _, _, _, _, _, rfl, by omega, mayTo_start s⟩)

set_option maxRecDepth 100000 in
set_option maxHeartbeats 2000000 in
theorem partEnd_c (s : ByteArray) (a : Nat) (w : World) (hs : s.size ≤ maxLen) (ha : a ≤ s.size) (r : Nat) (hr : a + partN ((bs s).drop a) = r) :
    Calls Tryd.prog 47 #[.string s, .int .i64 a] w fun e w' => e = .returned (.int .i64 r) ∧ Below w.heap.size w w' := by
  unfold maxLen at hs
  have HR := Lib.hid hr
  clear hr
  go_enter Tryd.func47, Tryd.ntmps47
  go_wp2_with fail
  refine wp_scope_again 0 (fun a' w' => Hid (Below w.heap.size w w') ∧ ∃ (k : Nat) (u6 u7 u8 u9 u10 u11 u12 u13 u14 u15 u16 u17 u18 u19 u20 u21 u22 u23 u24 u25 u26 u27 u28 u29 u30 : Value), a' = { tmps := #[.string s, .int .i64 a, undef, undef, .int .i64 0, .int .i64 k, u6, u7, u8, u9, u10, u11, u12, u13, u14, u15, u16, u17, u18, u19, u20, u21, u22, u23, u24, u25, u26, u27, u28, u29, u30], defers := [] } ∧ a ≤ k ∧ k ≤ s.size ∧ Hid (PartTo s a k)) (fun a' _ => s.size - (intOf (a'.tmps.getD 5 undef)).toNat) rfl ?_ ?_
  · rintro a' w' ⟨hbel, k, u6, u7, u8, u9, u10, u11, u12, u13, u14, u15, u16, u17, u18, u19, u20, u21, u22, u23, u24, u25, u26, u27, u28, u29, u30, rfl, hak, hks, hp⟩
    have hfin : Hid ((∀ (hk : k < s.size), partQ (s[a]'(by omega)) s[k] = false) → (k : Int) = r) := Lib.hid fun h => by
      have := partN_of s a k hak hks hp.out h
      have := HR.out
      omega
    by_cases hlt : k < s.size
    · have hal : a < s.size := by omega
      have hupq : Hid (partQ s[a] s[k] = true → PartTo s a (k + 1)) := Lib.hid (partTo_up s a k hlt hal hp.out)
      have hq : partQ s[a] s[k] = (!sepI s[k].toNat && (digitI s[k].toNat == digitI s[a].toNat)) := rfl
      have hfin2 : Hid (partQ s[a] s[k] = false → (k : Int) = r) := Lib.hid fun h => hfin.out fun _ => h
      have hkn : ((k : Int) == (s.size : Int)) = false := by rw [beq_eq_false_iff_ne]; omega
      clear hfin hp
      cases hc : sepI s[k].toNat with
      | true =>
        have hd := Lib.hid (hfin2.out (by rw [hq, hc]; rfl))
        clear hq hupq hfin2
        go_wp2_with fail
        go_quiet (first
          | (go_at_call 51; exact Calls.quiet_of_same ((separates_c _ _).mono fun _ _ h => ⟨by rw [h.1, hc], h.2.symm⟩)))
        go_wp2_with fail
        simp only [Exit.jump]
        go_ret
        exact ⟨ret_i64 hd.out, below_drewN hbel.out _⟩
      | false =>
        obtain ⟨d1, h1⟩ : ∃ d, digitI s[k].toNat = d := ⟨_, rfl⟩
        obtain ⟨d2, h2⟩ : ∃ d, digitI s[a].toNat = d := ⟨_, rfl⟩
        rw [hc, h1, h2] at hq
        by_cases hdd : d1 = d2
        · have hup := Lib.hid (hupq.out (by rw [hq, hdd]; simp))
          clear hq hupq hfin2
          go_wp2_with fail
          go_quiet (first
            | (go_at_call 51; exact Calls.quiet_of_same ((separates_c _ _).mono fun _ _ h => ⟨by rw [h.1, hc], h.2.symm⟩))
            | (go_at_call 31; exact Calls.quiet_of_same ((Digit_c _ _).mono fun _ _ h => ⟨by rw [h.1, h1], h.2.symm⟩))
            | (go_at_call 31; exact Calls.quiet_of_same ((Digit_c _ _).mono fun _ _ h => ⟨by rw [h.1, h2], h.2.symm⟩)))
          go_wp2_with fail
          go_step3
          refine ⟨rfl, ⟨below_drewN hbel.out _, k + 1, _, _, _, _, _, _, _, _, _, _, _, _, _, _, _, _, _, _, _, _, _, _, _, _, _, rfl, by omega, by omega, hup⟩, ?_⟩
          simp [intOf]
          omega
        · have hdb : (d1 == d2) = false := by rw [beq_eq_false_iff_ne]; exact hdd
          have hd := Lib.hid (hfin2.out (by rw [hq, hdb]; rfl))
          clear hq hupq hfin2
          go_wp2_with fail
          go_quiet (first
            | (go_at_call 51; exact Calls.quiet_of_same ((separates_c _ _).mono fun _ _ h => ⟨by rw [h.1, hc], h.2.symm⟩))
            | (go_at_call 31; exact Calls.quiet_of_same ((Digit_c _ _).mono fun _ _ h => ⟨by rw [h.1, h1], h.2.symm⟩))
            | (go_at_call 31; exact Calls.quiet_of_same ((Digit_c _ _).mono fun _ _ h => ⟨by rw [h.1, h2], h.2.symm⟩)))
          go_wp2_with fail
          simp only [Exit.jump]
          go_ret
          exact ⟨ret_i64 hd.out, below_drewN hbel.out _⟩
    · obtain rfl : k = s.size := by omega
      have hd := Lib.hid (hfin.out fun h => absurd h hlt)
      clear hfin hp
      go_wp2_with fail
      go_quiet (fail)
      go_wp2_with fail
      simp only [Exit.jump]
      go_ret
      exact ⟨ret_i64 hd.out, below_drewN hbel.out _⟩
  · intro hpass
    go_wp2_with fail
    go_step3
    rename_i hK
    exact hK _ _ (hpass.out _ _ ⟨Below.refl _ _, a, _, _, _, _, _, _, _, _, _, _, _, _, _, _, _, _, _, _, _, _, _, _, _, _, _, rfl, by omega, by omega, partTo_start s a⟩)
end Go.Proofs.YthmlggglemnfgaaDoor
