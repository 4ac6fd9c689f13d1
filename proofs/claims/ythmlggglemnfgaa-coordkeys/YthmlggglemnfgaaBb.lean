/-
  Contracts of Trim and its parts (chars, and the document's own answer). Contracts of Lower (chars, and the document's own answer): the same text in small letters; nothing that was there is turned. Contracts of the calls that only read (package words): mayStand, separates, digitAt, Right, partEnd, namedKind, shortKind. Contracts of words.Right and words.partEnd: loops by goto that only read.
-/
import Derived.Test.YthmlggglemnfgaaBa
import Derived.WalkMore
import Derived.ScopeJumps
import Derived.Laws.IdiomStrings
import Derived.Laws.AppendOwn
import Derived.OwnWalk
import Derived.Below
import Derived.Deep.QuietTactic
import Derived.Deep.RegionWith
import Derived.BigQuiet
namespace Go.Proofs.Ythmlggglemnfgaa
open Nwl
open Go.RowKit (Hid intOf)

theorem dropB_size (s : ByteArray) : (dropB s).size ≤ s.size := by
  rw [← bs_length (dropB s), ← bs_length s, dropB, bs_tx]; exact (List.dropWhile_sublist _).length_le
theorem trimB_size (s : ByteArray) : (trimB s).size ≤ s.size := by
  rw [← bs_length (trimB s), ← bs_length s, trimB, bs_tx, trimL, List.length_reverse]
  refine Nat.le_trans ((List.dropWhile_sublist _).length_le) ?_
  rw [List.length_reverse]
  exact (List.dropWhile_sublist _).length_le

end Go.Proofs.Ythmlggglemnfgaa

namespace Go.Proofs.Ythmlggglemnfgaa
open Nwl
open Go.RowKit

theorem low8_val (c : UInt8) (h : upperI c.toNat = true) : ((low8 c).toNat : Int) = (c.toNat : Int) + 32 := by
  unfold low8
  rw [if_pos h]
  simp [upperI] at h
  rw [UInt8.toNat_add]
  simp
  omega
theorem low8_same (c : UInt8) (h : upperI c.toNat = false) : low8 c = c := by
  unfold low8
  rw [if_neg (by rw [h]; decide)]

theorem addr_add0 (b j : Nat) : (⟨b, 0, none⟩ : Addr).add j = ⟨b, j, none⟩ := by
  unfold Addr.add
  by_cases h : j = 0 <;> simp [h]

/-- the block b holds the text s, its first k bytes lowered -/
def LowTo (s : ByteArray) (w : World) (b k : Nat) : Prop :=
  ∀ j (hj : j < s.size), w.cell? ⟨b, j, none⟩ = some (.int .u8 (if j < k then ((low8 s[j]).toNat : Int) else (s[j].toNat : Int))) ∧ w.frozen? ⟨b, j, none⟩ = false

theorem LowTo.keep {s : ByteArray} {w : World} {b k : Nat} (h : LowTo s w b k) (hk : k < s.size) (hu : upperI s[k].toNat = false) : LowTo s w b (k + 1) := by
  intro j hj
  refine ⟨?_, (h j hj).2⟩
  rw [(h j hj).1]
  by_cases e : j = k
  · subst e; rw [if_neg (by omega), if_pos (by omega), low8_same _ hu]
  · by_cases e2 : j < k
    · rw [if_pos e2, if_pos (by omega)]
    · rw [if_neg e2, if_neg (by omega)]
theorem LowTo.store {s : ByteArray} {w : World} {b k : Nat} (h : LowTo s w b k) (hk : k < s.size) (v : Int) (hv : v = ((low8 s[k]).toNat : Int)) : LowTo s (w.setCell ⟨b, k, none⟩ (.int .u8 v)) b (k + 1) := by
  intro j hj
  by_cases e : j = k
  · subst e
    have hc := (h j hj).1
    refine ⟨?_, ?_⟩
    · rw [World.cell?_setCell_same w _ _ hc, if_pos (by omega), hv]
    · rw [World.frozen?_setCell]; exact (h j hj).2
  · refine ⟨?_, ?_⟩
    · rw [World.cell?_setCell_other w _ _ _ (by intro h; apply e; injection h with _ h2; exact h2.symm), (h j hj).1]
      by_cases e2 : j < k
      · rw [if_pos e2, if_pos (by omega)]
      · rw [if_neg e2, if_neg (by omega)]
    · rw [World.frozen?_setCell]; exact (h j hj).2
theorem LowTo.back {s : ByteArray} {w : World} {b : Nat} (h : LowTo s w b s.size) (cap : Nat) :
    (convert 30 9 (.slice (some ⟨b, 0, none⟩) s.size cap)).run Try.prog w = .ok (.string (lowerB s)) w := by
  have hl : (lowerL (bs s)).length = s.size := by simp [lowerL, bs_length]
  have := run_convert_bytes_back (P := Try.prog) w 30 9 5 ⟨b, 0, none⟩ cap (lowerL (bs s)) Try.underlying30 Try.underlying5 Try.underlying9 (by
    intro j hj
    have hj' : j < s.size := by omega
    have hc := (h j hj').1
    rw [if_pos hj'] at hc
    simp only [lowerL, List.getElem_map]
    rw [bs_get s j hj']
    rw [addr_add0]; exact hc)
  rw [hl] at this
  exact this

end Go.Proofs.Ythmlggglemnfgaa

namespace Nwl
theorem bs_lit (l : List UInt8) (s : ByteArray) : (s = ⟨l.toArray⟩) ↔ bs s = l := by
  constructor
  · intro h; rw [h]; rfl
  · intro h; exact bs_inj (by rw [h]; rfl)
theorem digHd_drop (s : ByteArray) (k : Nat) (h : k < s.size) : digHd ((bs s).drop k) = digitI s[k].toNat := by
  have hl := bs_length s
  rw [List.drop_eq_getElem_cons (by omega)]
  rfl
theorem digHd_end (s : ByteArray) (k : Nat) (h : s.size ≤ k) : digHd ((bs s).drop k) = false := by
  rw [List.drop_eq_nil_of_le (by rw [bs_length]; exact h)]; rfl
end Nwl
namespace Go.Proofs.Ythmlggglemnfgaa
open Nwl
open Go.RowKit Go.Maps
set_option linter.unusedVariables false

theorem ret_i64 {a b : Int} (h : a = b) : Ending.returned (.int .i64 a) = .returned (.int .i64 b) := by rw [h]
theorem toList_bs (s : ByteArray) : s.toList = bs s := by rw [ByteArray.toList_eq]; rfl

set_option maxHeartbeats 400000 in
theorem mayStand_c (c : Int) (w : World) :
    Calls Try.prog 25 #[.int .u8 c] w fun e w' => e = .returned (.bool (mayV c)) ∧ w = w' := by
  go_enter Try.func25, Try.ntmps25
  go_wp2
  all_goals go_ret
  all_goals exact ⟨ret_bool (by rw [Bool.eq_iff_iff]; simp [mayV, *] <;> omega), rfl⟩

end Go.Proofs.Ythmlggglemnfgaa

namespace Go.Proofs.Ythmlggglemnfgaa
open Nwl
open Go.RowKit Go.Maps
set_option linter.unusedVariables false

set_option maxRecDepth 100000 in
set_option maxHeartbeats 800000 in
theorem Right_c (s : ByteArray) (w : World) (hs : s.size ≤ maxLen) :
    Calls Try.prog 19 #[.string s] w fun e w' => e = .returned (.bool (rightV (bs s))) ∧ w = w' := by
  unfold maxLen at hs
  by_cases h0 : s.size = 0
  · have he : s.toList = [] := toList_nil_of s h0
    have HR := Lib.hid (right_short s h0)
    clear h0
    go_enter Try.func19, Try.ntmps19
    go_wp2_with fail
    go_step3
    go_wp2_with fail
    rw [Exit.noGoto_ret]
    go_ret
    exact ⟨ret_bool HR.out.symm, rfl⟩
  · have hne : (s.toList == []) = false := by rw [toList_bs]; have := bs_length s; cases h : bs s with
      | nil => rw [h] at this; simp at this; omega
      | cons => rfl
    by_cases hb : 100 < s.size
    · have HR := Lib.hid (right_long s hb)
      go_enter Try.func19, Try.ntmps19
      go_wp2_with fail
      go_step3
      go_wp2_with fail
      rw [Exit.noGoto_ret]
      go_ret
      exact ⟨ret_bool HR.out.symm, rfl⟩
    · go_enter Try.func19, Try.ntmps19
      go_wp2_with fail
      refine wp_scope_again 0 (fun a' w' => w = w' ∧ ∃ (k : Nat) (u4 u5 u6 u7 u8 u9 u10 u11 u12 u13 u14 u15 u16 u17 u18 u19 u20 u21 : Value), a' = { tmps := #[.string s, undef, .bool false, .int .i64 k, u4, u5, u6, u7, u8, u9, u10, u11, u12, u13, u14, u15, u16, u17, u18, u19, u20, u21], defers := [] } ∧ k ≤ s.size ∧ Hid (MayTo s k)) (fun a' _ => s.size - (intOf (a'.tmps.getD 3 undef)).toNat) rfl ?_ ?_
      · rintro a' w' ⟨rfl, k, u4, u5, u6, u7, u8, u9, u10, u11, u12, u13, u14, u15, u16, u17, u18, u19, u20, u21, rfl, hk, hm⟩
        by_cases hlt : k < s.size
        · cases hc : mayV s[k].toNat with
          | true =>
            have hup := Lib.hid (mayTo_up s k hlt hm.out hc)
            go_wp2_with (go_at_call 25; refine (mayStand_c _ _).mono ?_; rintro e w' ⟨rfl, rfl⟩)
            go_step3
            refine ⟨rfl, ⟨rfl, k + 1, _, _, _, _, _, _, _, _, _, _, _, _, _, _, _, _, _, _, rfl, by omega, hup⟩, ?_⟩
            simp [intOf]
            omega
          | false =>
            have HR := Lib.hid (right_no s k hlt hc)
            go_wp2_with (go_at_call 25; refine (mayStand_c _ _).mono ?_; rintro e w' ⟨rfl, rfl⟩)
            simp only [Exit.jump]
            go_ret
            exact ⟨ret_bool HR.out.symm, rfl⟩
        · obtain rfl : k = s.size := by omega
          have HR := Lib.hid (right_yes s (by omega) (by omega) hm.out)
          go_wp2_with fail
          simp only [Exit.jump]
          go_ret
          exact ⟨ret_bool HR.out.symm, rfl⟩
      · intro hpass
        go_wp2_with fail
        go_step3
        rename_i hK
        exact hK _ _ (hpass.out _ _ ⟨rfl, 0, _, _, _, _, _, _, _, _, _, _, _, _, _, _, _, _, _, _, rfl, by omega, mayTo_start s⟩)

end Go.Proofs.Ythmlggglemnfgaa