/-
  The document's own answers (layer 2): the walk: upto, value.
-/
import Derived.Test.YtlfpmfdlfhldbaaGreatDoorRfWalk
import Derived.Deep.RegionWith
namespace Nwl
open Go
theorem find_cut {S x : ByteArray} {f : Nat} (hx : 0 < x.size) (_hf : f ≤ S.size) : (cutL (bs x) ((bs S).drop f) = none ∧ findI (bs S) (bs x) f = -1) ∨ (∃ e : Nat, f ≤ e ∧ e + x.size ≤ S.size ∧ findI (bs S) (bs x) f = e ∧ cutL (bs x) ((bs S).drop f) = some (bs (S.extract f e), (bs S).drop (e + x.size))) := by
  rcases Lib.index_spec ((bs S).drop f) (bs x) with ⟨h1, _⟩ | ⟨j, h1, h2, h3, _⟩
  · left
    exact ⟨by unfold cutL; rw [h1, if_neg (by omega)], by unfold findI; rw [h1, if_neg (by omega)]⟩
  · right
    unfold Lib.occAt at h3
    have h4 := (List.isPrefixOf_iff_prefix.1 h3).length_le
    rw [List.length_drop, List.length_drop, bs_length, bs_length] at h4
    rw [List.length_drop, bs_length] at h2
    refine ⟨f + j, by omega, by omega, ?_, ?_⟩
    · unfold findI
      rw [h1, if_pos (by omega)]
      omega
    · unfold cutL
      rw [h1, if_pos (by omega), bs_extract, List.drop_drop, bs_length]
      simp only [Int.toNat_natCast]
      rw [Nat.add_sub_cancel_left, Nat.add_assoc]
theorem one_byte (S : ByteArray) (k : Nat) (h : k < S.size) : bs (S.extract k (k + 1)) = [S[k]] := by
  rw [bs_extract, Nat.add_sub_cancel_left, List.drop_eq_getElem_cons (by rw [bs_length]; exact h)]
  rfl
theorem find_lt (v : ByteArray) : (0 ≤ findI (bs v) [60] 0) ↔ (bs v).contains 60 = true := by
  unfold findI
  rw [List.drop_zero, List.contains_iff_mem]
  rcases index_one (bs v) 60 with ⟨h1, h2⟩ | ⟨j, h1, h2, h3, _⟩
  · rw [h1, if_neg (by omega)]
    simp [h2]
  · rw [h1, if_pos (by omega)]
    have : (60 : UInt8) ∈ bs v := by rw [h3]; simp
    simp [this]
theorem valueL_end {S : ByteArray} {k : Nat} (h : S.size ≤ k) : valueL ((bs S).drop k) = none := by
  rw [List.drop_eq_nil_of_le (by rw [bs_length]; exact h)]; rfl
theorem valueL_at {S : ByteArray} {k : Nat} (h : k < S.size) : valueL ((bs S).drop k) = if S[k] = 34 ∨ S[k] = 39 then
      match cutL [S[k]] ((bs S).drop (k + 1)) with
      | none => none
      | some (raw, rest) => if raw.contains 60 then none else (entL raw).map (·, rest)
    else none := by
  have e : (bs S).drop k = S[k] :: (bs S).drop (k + 1) := List.drop_eq_getElem_cons (by rw [bs_length]; exact h)
  rw [e]; rfl
end Nwl
namespace Go.Proofs.YtlfpmfdlfhldbaaGreatDoor
open Nwl
open Go.RowKit Go.Maps
set_option linter.unusedVariables false

theorem wrapR {x : Int} (h0 : 0 ≤ x) (h1 : x ≤ 4611686018427387904) : IntKind.i64.wrap x = x := by
  unfold IntKind.wrap
  simp [IntKind.bits, IntKind.signed]
  omega
theorem below_grown {w w' : World} (h : Below w.heap.size w w') (row : Option Nat) : w.grownBy w' row := ⟨h.os, h.tape, h.output, h.size, fun k hk _ => h.block k hk⟩

def UpPost (g : Nat) (S : ByteArray) (k : Nat) (x : Option (List UInt8 × List UInt8)) (w : World) (e : Ending) (w' : World) : Prop :=
  match x with
  | some (a, rest) => (∃ i : Nat, i ≤ S.size ∧ rest = (bs S).drop i ∧ RW g S i w') ∧ e = .returned (.tuple #[.string (tx a), .bool true]) ∧ w.grownBy w' (some g)
  | none => RW g S k w' ∧ e = .returned (.tuple #[.string ⟨#[]⟩, .bool false]) ∧ w.grownBy w' (some g)

set_option maxRecDepth 100000 in
set_option maxHeartbeats 1000000 in
theorem rupto_c (g : Nat) (S x : ByteArray) (k f : Nat) (w : World) (h : RW g S k w) (hf : f ≤ S.size) (hs : S.size ≤ 100000) (hx : 0 < x.size) (hx2 : x.size ≤ 1000) :
    Calls Tryz.prog 35 #[.pointer (some ⟨g, 0, none⟩), .int .i64 (f : Int), .string x] w (UpPost g S k (cutL (bs x) ((bs S).drop f)) w) := by
  have HH := Lib.hid h
  have c0 := h.c0
  have c1 := h.c1
  have f1 := h.f1
  clear h
  rcases find_cut hx hf with ⟨hcut, hfi⟩ | ⟨e, he1, he2, hfi, hcut⟩
  · have HC := Lib.hid hcut
    have HF := Lib.hid hfi
    clear hcut hfi
    go_enter Tryz.func35, Tryz.ntmps35
    go_wp2_with fail
    refine (find_c S x f _ (by omega) hx hx2 (by omega)).mono ?_
    rw [HF.out]
    rintro e w' ⟨rfl, rfl⟩
    go_wp2_with fail
    go_ret2
    rw [HC.out]
    exact ⟨HH.out, rfl, World.grownBy.refl _ _⟩
  · have HC := Lib.hid hcut
    have HF := Lib.hid hfi
    clear hcut hfi
    go_enter Tryz.func35, Tryz.ntmps35
    go_wp2_with fail
    refine (find_c S x f _ (by omega) hx hx2 (by omega)).mono ?_
    rw [HF.out]
    rintro e' w' ⟨rfl, rfl⟩
    have HS := Lib.hid (HH.out.set (e + x.size))
    have d0 : (w.setCell ⟨g, 1, none⟩ (.int .i64 ((e : Int) + (x.size : Int)))).cell? ⟨g, 0, none⟩ = some (.string S) := HS.out.c0
    go_wp2_with fail
    go_ret2
    rw [HC.out]
    exact ⟨⟨e + x.size, he2, rfl, HS.out⟩, rfl, set_grown _ _ _ _⟩

def VlPost (g : Nat) (S : ByteArray) (x : Option (List UInt8 × List UInt8)) (w : World) (e : Ending) (w' : World) : Prop :=
  match x with
  | some (a, rest) => (∃ i : Nat, i ≤ S.size ∧ rest = (bs S).drop i ∧ RW g S i w') ∧ e = .returned (.tuple #[.string (tx a), .bool true]) ∧ w.grownBy w' (some g)
  | none => (∃ i : Nat, i ≤ S.size ∧ RW g S i w') ∧ e = .returned (.tuple #[.string ⟨#[]⟩, .bool false]) ∧ w.grownBy w' (some g)
theorem vlPost_none {g : Nat} {S : ByteArray} {x : Option (List UInt8 × List UInt8)} {w : World} {e : Ending} {w' : World} {i : Nat} (h : x = none) (hi : i ≤ S.size) (hr : RW g S i w') (he : e = .returned (.tuple #[.string ⟨#[]⟩, .bool false])) (hg : w.grownBy w' (some g)) : VlPost g S x w e w' := by subst h; exact ⟨⟨i, hi, hr⟩, he, hg⟩
theorem vlPost_some {g : Nat} {S : ByteArray} {x : Option (List UInt8 × List UInt8)} {w : World} {e : Ending} {w' : World} {i : Nat} {a rest : List UInt8} (h : x = some (a, rest)) (hi : i ≤ S.size) (hrest : rest = (bs S).drop i) (hr : RW g S i w') (he : e = .returned (.tuple #[.string (tx a), .bool true])) (hg : w.grownBy w' (some g)) : VlPost g S x w e w' := by subst h; exact ⟨⟨i, hi, hrest, hr⟩, he, hg⟩

end Go.Proofs.YtlfpmfdlfhldbaaGreatDoor
