/-
  Contracts of order.Compare, newVersion and compareVersion.
-/
import Derived.Test.YtkknhkfpabcjoaaDoorOrWords
import Derived.Deep.RegionHeld3
namespace Nwl
open Go
theorem partsF_short : ∀ (f : Nat) (d : Bool) (l : List UInt8), ∀ p ∈ partsF f d l, p.s.length ≤ l.length
  | 0, _, _, p, hp => by simp [partsF] at hp
  | f + 1, d, l, p, hp => by
    rw [partsF] at hp
    rcases List.mem_cons.1 hp with rfl | hp
    · show (l.take (partN l)).length ≤ _
      rw [List.length_take]; omega
    · split at hp
      · simp at hp
      · have h1 := partsF_short f _ _ p hp
        have h2 := nextL_le (l.drop (partN l))
        rw [List.length_drop] at h2
        omega
theorem numW_short (s : List UInt8) (d : Bool) : (numW s d).t.length ≤ s.length := by
  have hd : (s.dropWhile (fun c : UInt8 => c.toNat == 48)).length ≤ s.length := (List.dropWhile_sublist _).length_le
  cases he : (s.dropWhile (fun c : UInt8 => c.toNat == 48)).isEmpty with
  | true =>
    have : numW s d = ⟨6, []⟩ := by unfold numW; simp only [he, if_true]
    rw [this]; exact Nat.zero_le _
  | false =>
    cases d with
    | true =>
      have : numW s true = ⟨9, s.dropWhile (fun c : UInt8 => c.toNat == 48)⟩ := by unfold numW; simp [he]
      rw [this]; exact hd
    | false =>
      have : numW s false = ⟨10, s.dropWhile (fun c : UInt8 => c.toNat == 48)⟩ := by unfold numW; simp [he]
      rw [this]; exact hd
theorem wordW_short (s : List UInt8) (d n : Bool) : (wordW s d n).t.length ≤ s.length := by
  unfold wordW
  split
  · exact numW_short s d
  · split
    · exact Nat.le_refl _
    · exact Nat.zero_le _
theorem cleanW_sub : ∀ (ws : List Wd), ∀ x ∈ cleanW ws, x ∈ ws
  | [], x, h => by simp [cleanW] at h
  | w :: ws, x, h => by
    rw [cleanW] at h
    split at h
    · exact List.mem_cons_of_mem _ (cleanW_sub ws x h)
    · rcases List.mem_cons.1 h with rfl | h
      · exact List.mem_cons_self
      · exact List.mem_cons_of_mem _ (cleanW_sub ws x h)
theorem spZ_short (l : List UInt8) (h : l.length ≤ 100000) : ShortW (spZ l) := by
  intro x hx
  obtain ⟨y, hy, rfl⟩ := List.mem_map.1 hx
  have h1 := cleanW_sub _ y hy
  obtain ⟨p, hp, rfl⟩ := List.mem_map.1 h1
  have h2 := partsF_short _ _ _ p hp
  have h3 := wordW_short p.s p.dash p.num
  have h4 : (lowerL l).length = l.length := by unfold lowerL; rw [List.length_map]
  show (wordW p.s p.dash p.num).t.length ≤ maxLen
  unfold maxLen
  omega
theorem cleanW_le : ∀ ws : List Wd, (cleanW ws).length ≤ ws.length
  | [] => Nat.le_refl _
  | w :: ws => by
    have := cleanW_le ws
    rw [cleanW]
    split <;> simp <;> omega
theorem partsF_le : ∀ (f : Nat) (d : Bool) (l : List UInt8), (partsF f d l).length ≤ f
  | 0, _, _ => Nat.le_refl _
  | f + 1, d, l => by
    have := partsF_le f (dashL (l.drop (partN l))) (nextL (l.drop (partN l)))
    rw [partsF, List.length_cons]
    split <;> simp <;> omega
theorem splitW_le (l : List UInt8) : (splitW l).length ≤ l.length + 1 := by
  unfold splitW wordsL partsL partsD
  refine Nat.le_trans (cleanW_le _) ?_
  rw [List.length_map]
  refine Nat.le_trans (partsF_le _ _ _) ?_
  unfold lowerL
  rw [List.length_map]
  exact Nat.le_refl _
end Nwl
namespace Go.Proofs.YtkknhkfpabcjoaaDoor
open Nwl
open Go.RowKit Go.Maps
set_option linter.unusedVariables false

set_option maxRecDepth 100000 in
set_option maxHeartbeats 1000000 in
theorem Compare_c (a b : ByteArray) (w : World) (ha : a.size ≤ 1000) (hb : b.size ≤ 1000) (F : Int) (hF : cmpV (bs a) (bs b) = F) :
    Calls Tryd.prog 15 #[.string a, .string b] w fun e w' => e = .returned (.int .i64 F) ∧ Hid (Below w.heap.size w w') := by
  obtain ⟨X, hX⟩ : ∃ X, splitW (bs a) = X := ⟨_, rfl⟩
  obtain ⟨Y, hY⟩ : ∃ Y, splitW (bs b) = Y := ⟨_, rfl⟩
  have HF : Hid (wordsC (X.map Wz.of) (Y.map Wz.of) = F) := Lib.hid (by rw [← hF, ← hX, ← hY]; rfl)
  have SX : Hid (ShortW (X.map Wz.of)) := Lib.hid (by rw [← hX]; exact spZ_short _ (by rw [bs_length]; omega))
  have SY : Hid (ShortW (Y.map Wz.of)) := Lib.hid (by rw [← hY]; exact spZ_short _ (by rw [bs_length]; omega))
  obtain ⟨m, hm⟩ : ∃ m, X.length = m := ⟨_, rfl⟩
  obtain ⟨n, hn⟩ : ∃ n, Y.length = n := ⟨_, rfl⟩
  have lm : m ≤ 1000000 := by have := splitW_le (bs a); rw [hX, hm, bs_length] at this; omega
  have ln : n ≤ 1000000 := by have := splitW_le (bs b); rw [hY, hn, bs_length] at this; omega
  have HX := Lib.hid hX
  have HY := Lib.hid hY
  have HM := Lib.hid hm
  have HN := Lib.hid hn
  have ha' : a.size ≤ 100000 := by omega
  have hb' : b.size ≤ 100000 := by omega
  clear hF hX hY hm hn ha hb
  go_enter Tryd.func15, Tryd.ntmps15
  go_wp2_with fail
  refine (Split_b a _ ha' X HX.out m HM.out).mono ?_
  rintro e w1 ⟨A1, c1, rfl, R1, B1⟩
  go_wp2_with fail
  refine (Split_b b _ hb' Y HY.out n HN.out).mono ?_
  rintro e w2 ⟨A2, c2, rfl, R2, B2⟩
  have R12 := Lib.hid ((R1.out.below B2.out).mono B2.out.size)
  have B12 := Lib.hid (B1.out.trans (B2.out.mono B1.out.size))
  go_wp2_with fail
  refine (Words_c A1 A2 m n c1 c2 _ _ _ w2.heap.size (Nat.le_refl _) R12.out.z R2.out.z lm ln SX.out SY.out F HF.out).mono ?_
  rintro e w3 ⟨rfl, hb3⟩
  have B3 := Lib.hid (B12.out.trans (hb3.1.mono B12.out.size))
  clear hb3
  go_wp2_with fail
  go_ret
  exact ⟨rfl, B3⟩

/-- a version as a value -/
abbrev vsV (t : List UInt8) (A : Option Addr) (n c : Nat) : Value := .agg #[.string (tx t), .slice A n c]
/-- words that were made from block B on stay, whatever is written below -/
theorem WdRow.low {B b : Nat} {w : World} {A : Option Addr} {n c : Nat} {l : List Wd} (h : WdRow B w A n c l) (hb : b < B) (i : Nat) (u : Value) : WdRow B (w.setCell ⟨b, i, none⟩ u) A n c l := by
  obtain ⟨hn, h1, h2⟩ := h
  refine ⟨hn, h1, ?_⟩
  rcases h2 with h0 | ⟨g, cap, cur, hv, hg, hh, hc, hx, hs, ht⟩
  · exact .inl h0
  · exact .inr ⟨g, cap, cur, hv, hg, (Below.heap_setCell w ⟨b, i, none⟩ u g (show g ≠ b by omega)).trans hh, hc, hx, hs, ht⟩
set_option maxRecDepth 100000 in
set_option maxHeartbeats 1000000 in
theorem newVersion_c (a : ByteArray) (w : World) (ha : a.size ≤ 1000) :
    Calls Tryd.prog 26 #[.string a] w fun e w' => ∃ A c, e = .returned (vsV (bs a) A (splitW (bs a)).length c) ∧ Hid (WdRow (w.heap.size + 1) w' A (splitW (bs a)).length c (splitW (bs a))) ∧ Hid (Below w.heap.size w w') := by
  have ha' : a.size ≤ 100000 := by omega
  have HS := Lib.hid (fun W => split_walk a W ha')
  generalize splitW (bs a) = X at *
  generalize X.length = m at *
  clear ha
  go_enter Tryd.func26, Tryd.ntmps26
  go_wp2_with fail
  refine (HS.out _).mono ?_
  rintro e w1 ⟨A1, c1, rfl, hr, hb1⟩
  obtain ⟨k0, k1, f0, f1, hbel⟩ := box_two hb1
  have HB : Hid (∀ u v, Below w.heap.size w ((w1.setCell ⟨w.heap.size, 0, none⟩ u).setCell ⟨w.heap.size, 1, none⟩ v)) := Lib.hid fun u v => (hbel.setCell (Nat.le_refl _) _).setCell (Nat.le_refl _) _
  have RR : Hid (∀ u v, WdRow (w.heap.size + 1) ((w1.setCell ⟨w.heap.size, 0, none⟩ u).setCell ⟨w.heap.size, 1, none⟩ v) A1 m c1 X) := Lib.hid fun u v => by
    have hr' := hr
    rw [show (w.alloc (.cells #[.string ⟨#[]⟩, .slice none 0 0] 46)).heap.size = w.heap.size + 1 by simp] at hr'
    exact (hr'.low (by omega) 0 u).low (by omega) 1 v
  clear hb1 hbel hr
  go_wp2_with fail
  refine bodyPost_ret (v := vsV (bs a) A1 m c1) ?_ rfl ⟨A1, c1, rfl, Lib.hid (RR.out _ _), Lib.hid (HB.out _ _)⟩
  simp [results, Tryd.results26, go_sem, tx_bs, k0, k1]

theorem newVersion_w (a : ByteArray) (w : World) (ha : a.size ≤ 1000) :
    Calls Tryd.prog 26 #[.string a] w fun e w' => ∃ A m c, e = .returned (vsV (bs a) A m c) ∧ Hid (WdRow (w.heap.size + 1) w' A m c (splitW (bs a))) ∧ Hid (Below w.heap.size w w') := by
  refine (newVersion_c a w ha).mono ?_
  rintro e w' ⟨A, c, rfl, h1, h2⟩
  exact ⟨A, _, c, rfl, h1, h2⟩

/-- two versions' boxes -/
def Bx2 (w : World) (b : Nat) (v0 v1 v2 v3 : Value) : Prop := Blk w b 46 #[v0, v1] ∧ Blk w (b + 1) 46 #[v2, v3]
theorem Bx2.rd {w : World} {b : Nat} {v0 v1 v2 v3 : Value} (h : Hid (Bx2 w b v0 v1 v2 v3)) : w.cell? ⟨b, 0, none⟩ = some v0 ∧ w.cell? ⟨b, 1, none⟩ = some v1 ∧ w.cell? ⟨b + 1, 0, none⟩ = some v2 ∧ w.cell? ⟨b + 1, 1, none⟩ = some v3 := ⟨h.out.1.cell 0, h.out.1.cell 1, h.out.2.cell 0, h.out.2.cell 1⟩
theorem Bx2.below {w w' : World} {b : Nat} {v0 v1 v2 v3 : Value} (h : Bx2 w b v0 v1 v2 v3) (hb : Below w.heap.size w w') : Bx2 w' b v0 v1 v2 v3 := ⟨h.1.below hb, h.2.below hb⟩
theorem Bx2.alloc {w : World} {b : Nat} {v0 v1 v2 v3 : Value} (h : Bx2 w b v0 v1 v2 v3) (o : Obj) : Bx2 (w.alloc o) b v0 v1 v2 v3 := ⟨h.1.alloc o, h.2.alloc o⟩
theorem Bx2.new (w : World) (v0 v1 v2 v3 : Value) : Bx2 ((w.alloc (.cells #[v0, v1] 46)).alloc (.cells #[v2, v3] 46)) w.heap.size v0 v1 v2 v3 := by
  refine ⟨(Blk.new w _ _).alloc _, ?_⟩
  have := Blk.new (w.alloc (.cells #[v0, v1] 46)) 46 #[v2, v3]
  rw [show (w.alloc (.cells #[v0, v1] 46)).heap.size = w.heap.size + 1 by simp] at this
  exact this

theorem WzR.drew {B : Nat} {w : World} {A : Option Addr} {n : Nat} {l : List Wz} (h : WzR B w A n l) : WzR B w.drew A n l := h
theorem bd_d {w w1 : World} (h : Bd w.drew w1) : Bd w w1 := (Bd.refl w).drew.trans h
set_option maxRecDepth 100000 in
set_option maxHeartbeats 2000000 in
theorem compareVersion_c (ta tb : List UInt8) (A1 A2 : Option Addr) (n1 n2 c1 c2 : Nat) (l1 l2 : List Wz) (w : World) (B : Nat) (hB : B ≤ w.heap.size) (h1 : WzR B w A1 n1 l1) (h2 : WzR B w A2 n2 l2) (hm1 : n1 ≤ 1000000) (hm2 : n2 ≤ 1000000) (s1 : ShortW l1) (s2 : ShortW l2) (F : Int) (hF : thenI (wordsC l1 l2) (Lib.compareBytes ta tb) = F) :
    Calls Tryd.prog 27 #[vsV ta A1 n1 c1, vsV tb A2 n2 c2] w fun e w' => e = .returned (.int .i64 F) ∧ Bd w w' := by
  obtain ⟨x, hx⟩ : ∃ x, wordsC l1 l2 = x := ⟨_, rfl⟩
  obtain ⟨y, hy⟩ : ∃ y, Lib.compareBytes (bs (tx ta)) (bs (tx tb)) = y := ⟨_, rfl⟩
  have HF : Hid (thenI x y = F) := Lib.hid (by rw [← hF, hx, ← hy]; rfl)
  have HX := Lib.hid hx
  have HY := Lib.hid hy
  clear hF hx hy
  have W0 := Lib.hid (((Bd.refl w).alloc (.cells #[.string (tx ta), .slice A1 n1 c1] 46)).alloc (.cells #[.string (tx tb), .slice A2 n2 c2] 46))
  have X0 := Lib.hid (Bx2.new w (.string (tx ta)) (.slice A1 n1 c1) (.string (tx tb)) (.slice A2 n2 c2))
  have R1 := Lib.hid (h1.below (W0.out.1.mono hB))
  have R2 := Lib.hid (h2.below (W0.out.1.mono hB))
  have BB : Hid (B ≤ ((w.alloc (.cells #[.string (tx ta), .slice A1 n1 c1] 46)).alloc (.cells #[.string (tx tb), .slice A2 n2 c2] 46)).drew.heap.size) := Lib.hid (Nat.le_trans hB W0.out.1.size)
  have S1 := Lib.hid s1
  have S2 := Lib.hid s2
  clear h1 h2 hB s1 s2
  go_enter Tryd.func27, Tryd.ntmps27
  go_wp2_with fail
  go_region_held3 (fun w' => w'.cell? ⟨w.heap.size, 0, none⟩ = some (.string (tx ta)) ∧ w'.cell? ⟨w.heap.size, 1, none⟩ = some (.slice A1 n1 c1) ∧ w'.cell? ⟨w.heap.size + 1, 0, none⟩ = some (.string (tx tb)) ∧ w'.cell? ⟨w.heap.size + 1, 1, none⟩ = some (.slice A2 n2 c2)) (first | (have h := Bx2.rd X0; exact h) | (have h := Bx2.rd X1; exact h) | (have h := Bx2.rd X2; exact h) | fail) (first
    | (go_at_call 40; refine (cmpStr_c _ _ _ y HY.out).mono ?_; rintro e w2 ⟨rfl, rfl⟩)
    | (go_at_call 39; refine (cmpOr_c w1.heap.size x y _ ((Blk.new w1 3 #[.int .i64 x, .int .i64 y]).cell 0) ((Blk.new w1 3 #[.int .i64 x, .int .i64 y]).cell 1) F HF.out).mono ?_; rintro e w3 ⟨rfl, rfl⟩)
    | (go_at_call 17; refine (Words_c A1 A2 n1 n2 c1 c2 l1 l2 _ B BB.out R1.out.drew R2.out.drew hm1 hm2 S1.out S2.out x HX.out).mono ?_; rintro e w1 ⟨rfl, hb1⟩; have hc1 := bd_d hb1; have X1 := Lib.hid (X0.out.below hc1.1); have X2 := Lib.hid (X1.out.alloc (.cells #[.int .i64 x, .int .i64 y] 3)); have W1 := Lib.hid (W0.out.trans hc1); clear hb1 hc1))
  go_wp2_with fail
  go_ret
  exact ⟨rfl, W1.out.alloc _⟩
end Go.Proofs.YtkknhkfpabcjoaaDoor
