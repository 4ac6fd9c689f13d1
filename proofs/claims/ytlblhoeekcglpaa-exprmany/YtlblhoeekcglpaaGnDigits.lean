/-
  A number's digits: plain facts, and newelhelp.Digits.
-/
import Derived.Test.YtlblhoeekcglpaaGnIdx
import Derived.Deep.RegionWith
import Derived.BigRegion
import Derived.Laws.IdiomStrings
namespace Nwl
open Go
theorem u8n (x : Nat) (h : x < 256) : (x.toUInt8).toNat = x := by
  show x % 256 = x
  omega
def digN (d : Nat) : UInt8 := (48 + d).toUInt8
theorem digN_nat (d : Nat) (h : d < 10) : (digN d).toNat = 48 + d := u8n _ (by omega)
/-- the digits of v, in tens, if it has at most k of them -/
def decF : Nat → Nat → List UInt8
  | 0, _ => []
  | k + 1, v => if v < 10 then [digN v] else decF k (v / 10) ++ [digN (v % 10)]
theorem decF_dig : ∀ (k v : Nat), ∀ c ∈ decF k v, 48 ≤ c.toNat ∧ c.toNat ≤ 57
  | 0, v, c, h => by simp [decF] at h
  | k + 1, v, c, h => by
    unfold decF at h
    by_cases hv : v < 10
    · rw [if_pos hv] at h
      obtain rfl := List.mem_singleton.1 h
      rw [digN_nat v hv]; omega
    · rw [if_neg hv, List.mem_append] at h
      rcases h with h | h
      · exact decF_dig k _ c h
      · obtain rfl := List.mem_singleton.1 h
        rw [digN_nat _ (by omega)]; omega
theorem decF_ne : ∀ (k v : Nat), 0 < k → decF k v ≠ []
  | 0, v, h => by omega
  | k + 1, v, h => by
    unfold decF
    split <;> simp
theorem decF_le : ∀ (k v : Nat), (decF k v).length ≤ k
  | 0, v => by simp [decF]
  | k + 1, v => by
    unfold decF
    have := decF_le k (v / 10)
    split <;> simp <;> omega
theorem decF_len : ∀ (k m v : Nat), v < 10 ^ m → 0 < m → (decF k v).length ≤ m
  | 0, m, v, h, hm => by simp [decF]
  | k + 1, m, v, h, hm => by
    unfold decF
    by_cases hv : v < 10
    · rw [if_pos hv, List.length_singleton]; omega
    · rw [if_neg hv, List.length_append, List.length_singleton]
      obtain ⟨m, rfl⟩ : ∃ x, m = x + 1 := ⟨m - 1, by omega⟩
      rw [Nat.pow_succ] at h
      have hm0 : 0 < m := by
        rcases Nat.eq_zero_or_pos m with e | e
        · subst e; omega
        · exact e
      have := decF_len k m (v / 10) (by omega) hm0
      omega
theorem decF_long : ∀ (k m v : Nat), v < 10 ^ k → 10 ^ m ≤ v → m < (decF k v).length
  | 0, m, v, h, hm => by
    have : 0 < 10 ^ m := Nat.pow_pos (by decide)
    omega
  | k + 1, m, v, h, hm => by
    unfold decF
    by_cases hv : v < 10
    · rw [if_pos hv, List.length_singleton]
      rcases Nat.eq_zero_or_pos m with e | e
      · omega
      · obtain ⟨m, rfl⟩ : ∃ x, m = x + 1 := ⟨m - 1, by omega⟩
        rw [Nat.pow_succ] at hm
        have : 0 < 10 ^ m := Nat.pow_pos (by decide)
        omega
    · rw [if_neg hv, List.length_append, List.length_singleton]
      rcases Nat.eq_zero_or_pos m with e | e
      · subst e; omega
      · obtain ⟨m, rfl⟩ : ∃ x, m = x + 1 := ⟨m - 1, by omega⟩
        rw [Nat.pow_succ] at hm h
        have := decF_long k m (v / 10) (by omega) (by omega)
        omega
end Nwl
namespace Go.Proofs.Ytlblhoeekcglpaa
open Nwl
open Go.RowKit Go.Maps
set_option linter.unusedVariables false

theorem one_text (w : World) (b : Nat) (d : Nat) (hd : d < 10) (hc : w.cell? ⟨b, 0, none⟩ = some (.int .u8 (48 + (d : Int)))) :
    (convert 45 9 (.slice (some ⟨b, 0, none⟩) 1 1)).run Try.prog w = .ok (.string (tx [digN d])) w :=
  run_convert_bytes_back (P := Try.prog) w 45 9 5 ⟨b, 0, none⟩ 1 [digN d] Try.underlying45 Try.underlying5 Try.underlying9 (fun j hj => by
    have : j = 0 := by simpa using hj
    subst this
    show w.cell? ⟨b, 0, none⟩ = some (.int .u8 ((digN d).toNat : Int))
    rw [hc, digN_nat d hd]
    rfl)

theorem kept_cell {w w2 : World} {t : TypeId} {z : Int} (h : Below (w.drew.alloc (.cells #[.int .u8 z] t)).heap.size (w.drew.alloc (.cells #[.int .u8 z] t)) w2) : w2.cell? ⟨w.heap.size, 0, none⟩ = some (.int .u8 z) := by
  rw [h.cell (p := ⟨w.heap.size, 0, none⟩) (by show w.heap.size < (w.heap.push _).size; simp)]
  have := (Blk.new w.drew t #[.int .u8 z]).cell 0
  exact this
theorem kept_below {w w2 : World} {o : Obj} (h : Below (w.drew.alloc o).heap.size (w.drew.alloc o) w2) : Below w.heap.size w w2 := by
  have h1 : Below w.heap.size w (w.drew.alloc o) := ((Below.refl _ _).drew).alloc (Nat.le_refl _) _
  exact h1.trans (h.mono h1.size)

set_option maxRecDepth 100000 in
set_option maxHeartbeats 4000000 in
theorem Digits_c : ∀ (k v : Nat) (w : World), v < 10 ^ k → 0 < k → k ≤ 9 →
    Calls Try.prog 17 #[.int .i64 v] w fun e w' => e = .returned (.string (tx (decF k v))) ∧ Below w.heap.size w w'
  | 0, v, w, h, hk, _ => by omega
  | k + 1, v, w, h, hk, hk9 => by
    have hb : v < 1000000000 := Nat.lt_of_lt_of_le h (Nat.pow_le_pow_right (by decide) hk9)
    by_cases hv : v < 10
    · have hconv := one_text (w.alloc (.cells #[.int .u8 (48 + (v : Int))] 5)) w.heap.size v hv (by rw [(Blk.new w 5 _).cell 0]; rfl)
      have hd : decF (k + 1) v = [digN v] := by rw [decF, if_pos hv]
      rw [hd]
      clear h hd
      go_enter Try.func17, Try.ntmps17
      go_wp2_with fail
      go_ret
      exact ⟨rfl, (Below.refl _ _).alloc (Nat.le_refl _) _⟩
    · have hd : decF (k + 1) v = decF k (v / 10) ++ [digN (v % 10)] := by rw [decF, if_neg hv]
      rw [hd]
      have hk0 : 0 < k := by
        rcases Nat.eq_zero_or_pos k with e | e
        · subst e; omega
        · exact e
      rw [Nat.pow_succ] at h
      have hq : v / 10 < 10 ^ k := by omega
      have hr : v % 10 < 10 := by omega
      have IH := fun W => Digits_c k (v / 10) W hq hk0 (by omega)
      have hdl : (decF k (v / 10)).length ≤ 9 := Nat.le_trans (decF_le k _) (by omega)
      generalize decF k (v / 10) = L at *
      have e1 : IntKind.i64.wrap ((v : Int) / 10) = ((v / 10 : Nat) : Int) := by rw [IntWalk.i64_in _ (by omega)]; omega
      have e2 : IntKind.u8.wrap (IntKind.i64.wrap (48 + (v : Int).tmod 10)) = 48 + ((v % 10 : Nat) : Int) := by
        rw [Int.tmod_eq_emod_of_nonneg (by omega), IntWalk.i64_in _ (by omega)]
        show (48 + (v : Int) % 10) % 256 = _
        omega
      generalize v / 10 = q at *
      generalize v % 10 = r at *
      have hconv := fun W b => one_text W b r hr
      have hsz : (tx L).size ≤ 9 := by rw [tx_size]; exact hdl
      have h1 : (tx [digN r]).size = 1 := by rw [tx_size]; rfl
      clear hd hk hk0 hq h hr hk9 hdl
      go_enter Try.func17, Try.ntmps17
      go_wp2_with fail
      go_region_with (go_at_call 17; refine (IH _).mono ?_; rintro e w2 ⟨rfl, hb2⟩; (try (have hc2 := hconv _ _ (kept_cell hb2))); (try have hbw2 := kept_below hb2))
      all_goals (go_wp2_with fail; go_ret)
      all_goals first | exact ⟨by rw [← txA]; rfl, hbw2⟩ | exact ⟨by rw [← txA]; rfl, (show Below w.heap.size w w2 from ((Below.refl w.heap.size w).drew).trans hb2).alloc hb2.size _⟩
end Go.Proofs.Ytlblhoeekcglpaa
