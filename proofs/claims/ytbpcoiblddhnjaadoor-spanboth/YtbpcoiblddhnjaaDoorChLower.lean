/-
  Contracts of Lower (chars, and the document's own answer): the same text in small letters; nothing that was there is turned.
-/
import Derived.Test.YtbpcoiblddhnjaaDoorChTrim
import Derived.Laws.IdiomStrings
import Derived.Laws.AppendOwn
import Derived.OwnWalk
import Derived.Below
namespace Go.Proofs.YtbpcoiblddhnjaaDoor
open Nwl
open Go.RowKit

theorem low8_val (c : UInt8) (h : upperI c.toNat = true) : ((low8 c).toNat : Int) = (c.toNat : Int) + 32 := by
  unfold low8
  rw [if_pos h]
  simp [upperI] at h
  rw [UInt8.toNat_add]
  simp
  omega
theorem low8_same (c : UInt8) (h : upperI c.toNat = false) : low8 c = c := by
  unfold low8
  rw [if_neg (by rw [h]; decide)]

theorem addr_add0 (b j : Nat) : (⟨b, 0, none⟩ : Addr).add j = ⟨b, j, none⟩ := by
  unfold Addr.add
  by_cases h : j = 0 <;> simp [h]

/-- the block b holds the text s, its first k bytes lowered -/
def LowTo (s : ByteArray) (w : World) (b k : Nat) : Prop :=
  ∀ j (hj : j < s.size), w.cell? ⟨b, j, none⟩ = some (.int .u8 (if j < k then ((low8 s[j]).toNat : Int) else (s[j].toNat : Int))) ∧ w.frozen? ⟨b, j, none⟩ = false

theorem LowTo.keep {s : ByteArray} {w : World} {b k : Nat} (h : LowTo s w b k) (hk : k < s.size) (hu : upperI s[k].toNat = false) : LowTo s w b (k + 1) := by
  intro j hj
  refine ⟨?_, (h j hj).2⟩
  rw [(h j hj).1]
  by_cases e : j = k
  · subst e; rw [if_neg (by omega), if_pos (by omega), low8_same _ hu]
  · by_cases e2 : j < k
    · rw [if_pos e2, if_pos (by omega)]
    · rw [if_neg e2, if_neg (by omega)]
theorem LowTo.store {s : ByteArray} {w : World} {b k : Nat} (h : LowTo s w b k) (hk : k < s.size) (v : Int) (hv : v = ((low8 s[k]).toNat : Int)) : LowTo s (w.setCell ⟨b, k, none⟩ (.int .u8 v)) b (k + 1) := by
  intro j hj
  by_cases e : j = k
  · subst e
    have hc := (h j hj).1
    refine ⟨?_, ?_⟩
    · rw [World.cell?_setCell_same w _ _ hc, if_pos (by omega), hv]
    · rw [World.frozen?_setCell]; exact (h j hj).2
  · refine ⟨?_, ?_⟩
    · rw [World.cell?_setCell_other w _ _ _ (by intro h; apply e; injection h with _ h2; exact h2.symm), (h j hj).1]
      by_cases e2 : j < k
      · rw [if_pos e2, if_pos (by omega)]
      · rw [if_neg e2, if_neg (by omega)]
    · rw [World.frozen?_setCell]; exact (h j hj).2
theorem LowTo.back {s : ByteArray} {w : World} {b : Nat} (h : LowTo s w b s.size) (cap : Nat) :
    (convert 46 9 (.slice (some ⟨b, 0, none⟩) s.size cap)).run Tryd.prog w = .ok (.string (lowerB s)) w := by
  have hl : (lowerL (bs s)).length = s.size := by simp [lowerL, bs_length]
  have := run_convert_bytes_back (P := Tryd.prog) w 46 9 5 ⟨b, 0, none⟩ cap (lowerL (bs s)) Tryd.underlying46 Tryd.underlying5 Tryd.underlying9 (by
    intro j hj
    have hj' : j < s.size := by omega
    have hc := (h j hj').1
    rw [if_pos hj'] at hc
    simp only [lowerL, List.getElem_map]
    rw [bs_get s j hj']
    rw [addr_add0]; exact hc)
  rw [hl] at this
  exact this

set_option maxHeartbeats 400000 in
theorem Lower_c (s : ByteArray) (w : World) (hs : s.size ≤ maxLen) :
    Calls Tryd.prog 79 #[.string s] w fun e w' => e = .returned (.string (lowerB s)) ∧ Below w.heap.size w w' := by
  have hconv := run_bytes_of_string (P := Tryd.prog) w 9 46 5 s Tryd.underlying9 Tryd.underlying46 Tryd.underlying5
  have hC : ∀ j (hj : j < s.size), (bytesRow s (grownCap w s.size 0 5))[j]? = some (.int .u8 (s[j].toNat : Int)) := fun j hj => bytesRow_at s _ j hj
  have hCs : s.size ≤ (bytesRow s (grownCap w s.size 0 5)).size := by simp [bytesRow]
  generalize bytesRow s (grownCap w s.size 0 5) = C at hconv hC hCs
  generalize grownCap w s.size 0 5 = cap at hconv
  have hst : LowTo s (w.drew.alloc (.cells C 5 (C.size, C.size + 1))) w.heap.size 0 := by
    intro j hj
    refine ⟨?_, ?_⟩
    · rw [if_neg (by omega)]
      exact (World.cell?_alloc_mark w.drew C 5 (C.size, C.size + 1) j).trans (hC j hj)
    · refine (World.frozen?_alloc_mark w.drew C 5 C.size (C.size + 1) j).trans ?_
      simp; omega
  have HST := Lib.hid hst
  clear hst hC
  unfold maxLen at hs
  go_enter Tryd.func79, Tryd.ntmps79
  go_wp2
  go_loopw [10] (fun i wr => ∃ k : Nat, k ≤ s.size ∧ i = .int .i64 k ∧ LowTo s wr w.heap.size k ∧ Below w.heap.size w wr ∧ w.heap.size < wr.heap.size) (fun i _ => s.size - (intOf i).toNat)
  case atStart => exact ⟨0, Nat.zero_le _, rfl, HST.out, ((Below.refl _ _).alloc (Nat.le_refl _) _).drew, by simp⟩
  case round =>
    clear hconv HST
    obtain ⟨k, hk, rfl, hlow, hbel, hsz⟩ := hrel
    by_cases hlt : k < s.size
    · have hcell := (hlow k hlt).1
      have hfz := (hlow k hlt).2
      rw [if_neg (Nat.lt_irrefl k)] at hcell
      cases hu : upperI s[k].toNat with
      | true =>
        have hb : 65 ≤ (s[k].toNat : Int) ∧ (s[k].toNat : Int) ≤ 90 := by simpa [upperI] using hu
        obtain ⟨hb1, hb2⟩ := hb
        have hst : Hid (LowTo s (wr.setCell ⟨w.heap.size, k, none⟩ (.int .u8 ((s[k].toNat : Int) - 65 + 97))) w.heap.size (k + 1)) := Lib.hid (hlow.store hlt _ (by rw [low8_val _ hu]; omega))
        go_wp2_with (go_at_call 93; refine (upper_c _ _).mono ?_; rintro e w' ⟨rfl, rfl⟩)
        go_roundw
        case rel => exact ⟨k + 1, by omega, by go_num, hst.out, hbel.setCell (Nat.le_refl _) _, by simpa using hsz⟩
        case measure => simp [intOf]; omega
      | false =>
        have hst : Hid (LowTo s wr w.heap.size (k + 1)) := Lib.hid (hlow.keep hlt hu)
        go_wp2_with (go_at_call 93; refine (upper_c _ _).mono ?_; rintro e w' ⟨rfl, rfl⟩)
        go_roundw
        case rel => exact ⟨k + 1, by omega, by go_num, hst.out, hbel, hsz⟩
        case measure => simp [intOf]; omega
    · obtain rfl : k = s.size := by omega
      have hback := hlow.back cap
      go_wp2
      go_ret
      exact ⟨rfl, hbel⟩

end Go.Proofs.YtbpcoiblddhnjaaDoor
