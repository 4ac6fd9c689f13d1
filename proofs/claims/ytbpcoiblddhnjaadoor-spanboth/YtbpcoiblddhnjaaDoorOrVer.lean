/-
  Contracts of order.Compare, newVersion and compareVersion.
-/
import Derived.Test.YtbpcoiblddhnjaaDoorOrWords
import Derived.Deep.RegionHeld3
namespace Nwl
open Go
theorem partsF_short : ∀ (f : Nat) (d : Bool) (l : List UInt8), ∀ p ∈ partsF f d l, p.s.length ≤ l.length
  | 0, _, _, p, hp => by simp [partsF] at hp
  | f + 1, d, l, p, hp => by
    rw [partsF] at hp
    rcases List.mem_cons.1 hp with rfl | hp
    · show (l.take (partN l)).length ≤ _
      rw [List.length_take]; omega
    · split at hp
      · simp at hp
      · have h1 := partsF_short f _ _ p hp
        have h2 := nextL_le (l.drop (partN l))
        rw [List.length_drop] at h2
        omega
theorem numW_short (s : List UInt8) (d : Bool) : (numW s d).t.length ≤ s.length := by
  have hd : (s.dropWhile (fun c : UInt8 => c.toNat == 48)).length ≤ s.length := (List.dropWhile_sublist _).length_le
  cases he : (s.dropWhile (fun c : UInt8 => c.toNat == 48)).isEmpty with
  | true =>
    have : numW s d = ⟨6, []⟩ := by unfold numW; simp only [he, if_true]
    rw [this]; exact Nat.zero_le _
  | false =>
    cases d with
    | true =>
      have : numW s true = ⟨9, s.dropWhile (fun c : UInt8 => c.toNat == 48)⟩ := by unfold numW; simp [he]
      rw [this]; exact hd
    | false =>
      have : numW s false = ⟨10, s.dropWhile (fun c : UInt8 => c.toNat == 48)⟩ := by unfold numW; simp [he]
      rw [this]; exact hd
theorem wordW_short (s : List UInt8) (d n : Bool) : (wordW s d n).t.length ≤ s.length := by
  unfold wordW
  split
  · exact numW_short s d
  · split
    · exact Nat.le_refl _
    · exact Nat.zero_le _
theorem cleanW_sub : ∀ (ws : List Wd), ∀ x ∈ cleanW ws, x ∈ ws
  | [], x, h => by simp [cleanW] at h
  | w :: ws, x, h => by
    rw [cleanW] at h
    split at h
    · exact List.mem_cons_of_mem _ (cleanW_sub ws x h)
    · rcases List.mem_cons.1 h with rfl | h
      · exact List.mem_cons_self
      · exact List.mem_cons_of_mem _ (cleanW_sub ws x h)
theorem spZ_short (l : List UInt8) (h : l.length ≤ 100000) : ShortW (spZ l) := by
  intro x hx
  obtain ⟨y, hy, rfl⟩ := List.mem_map.1 hx
  have h1 := cleanW_sub _ y hy
  obtain ⟨p, hp, rfl⟩ := List.mem_map.1 h1
  have h2 := partsF_short _ _ _ p hp
  have h3 := wordW_short p.s p.dash p.num
  have h4 : (lowerL l).length = l.length := by unfold lowerL; rw [List.length_map]
  show (wordW p.s p.dash p.num).t.length ≤ maxLen
  unfold maxLen
  omega
theorem cleanW_le : ∀ ws : List Wd, (cleanW ws).length ≤ ws.length
  | [] => Nat.le_refl _
  | w :: ws => by
    have := cleanW_le ws
    rw [cleanW]
    split <;> simp <;> omega
theorem partsF_le : ∀ (f : Nat) (d : Bool) (l : List UInt8), (partsF f d l).length ≤ f
  | 0, _, _ => Nat.le_refl _
  | f + 1, d, l => by
    have := partsF_le f (dashL (l.drop (partN l))) (nextL (l.drop (partN l)))
    rw [partsF, List.length_cons]
    split <;> simp <;> omega
theorem splitW_le (l : List UInt8) : (splitW l).length ≤ l.length + 1 := by
  unfold splitW wordsL partsL partsD
  refine Nat.le_trans (cleanW_le _) ?_
  rw [List.length_map]
  refine Nat.le_trans (partsF_le _ _ _) ?_
  unfold lowerL
  rw [List.length_map]
  exact Nat.le_refl _
end Nwl
namespace Go.Proofs.YtbpcoiblddhnjaaDoor
open Nwl
open Go.RowKit Go.Maps
set_option linter.unusedVariables false

set_option maxRecDepth 100000 in
set_option maxHeartbeats 1000000 in
theorem Compare_c (a b : ByteArray) (w : World) (ha : a.size ≤ 1000) (hb : b.size ≤ 1000) (F : Int) (hF : cmpV (bs a) (bs b) = F) :
    Calls Tryd.prog 47 #[.string a, .string b] w fun e w' => e = .returned (.int .i64 F) ∧ Hid (Below w.heap.size w w') := by
  obtain ⟨X, hX⟩ : ∃ X, splitW (bs a) = X := ⟨_, rfl⟩
  obtain ⟨Y, hY⟩ : ∃ Y, splitW (bs b) = Y := ⟨_, rfl⟩
  have HF : Hid (wordsC (X.map Wz.of) (Y.map Wz.of) = F) := Lib.hid (by rw [← hF, ← hX, ← hY]; rfl)
  have SX : Hid (ShortW (X.map Wz.of)) := Lib.hid (by rw [← hX]; exact spZ_short _ (by rw [bs_length]; omega))
  have SY : Hid (ShortW (Y.map Wz.of)) := Lib.hid (by rw [← hY]; exact spZ_short _ (by rw [bs_length]; omega))
  obtain ⟨m, hm⟩ : ∃ m, X.length = m := ⟨_, rfl⟩
  obtain ⟨n, hn⟩ : ∃ n, Y.length = n := ⟨_, rfl⟩
  have lm : m ≤ 1000000 := by have := splitW_le (bs a); rw [hX, hm, bs_length] at this; omega
  have ln : n ≤ 1000000 := by have := splitW_le (bs b); rw [hY, hn, bs_length] at this; omega
  have HX := Lib.hid hX
  have HY := Lib.hid hY
  have HM := Lib.hid hm
  have HN := Lib.hid hn
  have ha' : a.size ≤ 100000 := by omega
  have hb' : b.size ≤ 100000 := by omega
  clear hF hX hY hm hn ha hb
  go_enter Tryd.func47, Tryd.ntmps47
  go_wp2_with fail
  refine (Split_b a _ ha' X HX.out m HM.out).mono ?_
  rintro e w1 ⟨A1, c1, rfl, R1, B1⟩
  go_wp2_with fail
  refine (Split_b b _ hb' Y HY.out n HN.out).mono ?_
  rintro e w2 ⟨A2, c2, rfl, R2, B2⟩
  have R12 := Lib.hid ((R1.out.below B2.out).mono B2.out.size)
  have B12 := Lib.hid (B1.out.trans (B2.out.mono B1.out.size))
  go_wp2_with fail
  refine (Words_c A1 A2 m n c1 c2 _ _ _ w2.heap.size (Nat.le_refl _) R12.out.z R2.out.z lm ln SX.out SY.out F HF.out).mono ?_
  rintro e w3 ⟨rfl, hb3⟩
  have B3 := Lib.hid (B12.out.trans (hb3.1.mono B12.out.size))
  clear hb3
  go_wp2_with fail
  go_ret
  exact ⟨rfl, B3⟩