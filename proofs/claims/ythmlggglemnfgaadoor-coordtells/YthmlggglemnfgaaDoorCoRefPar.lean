/-
  Contract of the document's own CoordParse: byte by byte into three places.
-/
import Derived.Test.YthmlggglemnfgaaDoorCoRef
namespace Nwl
theorem tx_push (s : ByteArray) (k : Nat) (h : k < s.size) (l : List UInt8) : tx l ++ s.extract k (k + 1) = tx (l ++ [s[k]]) := by
  apply bs_inj
  rw [bs_append, bs_extract, show k + 1 - k = 1 by omega, bs_tx, bs_tx]
  congr 1
  rw [List.drop_eq_getElem_cons (by rw [bs_length]; exact h)]
  rfl
theorem drop_at (s : ByteArray) (k : Nat) (h : k < s.size) : (bs s).drop k = s[k] :: (bs s).drop (k + 1) := List.drop_eq_getElem_cons (by rw [bs_length]; exact h)
theorem col8 (c : UInt8) : (c = 58) ↔ ((c.toNat : Int) = 58) := by
  rw [← UInt8.toNat_inj]
  show c.toNat = 58 ↔ _
  omega
end Nwl
namespace Go.Proofs.YthmlggglemnfgaaDoor
open Nwl
open Go.RowKit Go.Maps
set_option linter.unusedVariables false
set_option linter.unusedSimpArgs false

set_option maxRecDepth 100000 in
set_option maxHeartbeats 4000000 in
theorem rParse9_c (s : ByteArray) (w : World) (hs : s.size ≤ 1000000) (g n v : List UInt8) (b : Bool) (hF : parX (bs s) = (⟨g, n, v⟩, b)) :
    Calls Tryd.prog 8 #[.string s] w fun e w' => e = .returned (.tuple #[crV g n v, .bool b]) ∧ Hid (Below w.heap.size w w') := by
  obtain ⟨kf, cf, hk⟩ : ∃ kf cf, pgo (bs s) 0 ⟨[], [], []⟩ = (kf, cf) := ⟨_, _, rfl⟩
  have HF : Hid ((if kf = 2 ∧ coordL cf = true then (cf, true) else (⟨[], [], []⟩, false)) = ((⟨g, n, v⟩ : Crd), b)) := Lib.hid (by rw [← hF, pgo_par _ _ _ hk])
  have P0 : Hid (PB w ((w.alloc (.cells cz 23)).alloc (.cells cz 40)) [] [] []) := Lib.hid (by
    refine ⟨(KX.start w).alloc _, ?_⟩
    have := Blk.new (w.alloc (.cells cz 23)) 40 cz
    rw [show (w.alloc (.cells cz 23)).heap.size = w.heap.size + 1 by simp] at this
    exact this)
  have HK := Lib.hid hk
  clear hF hk
  go_enter Tryd.func8, Tryd.ntmps8
  go_wp2_with fail
  go_loopw [5, 6] (fun kv iv wr => ∃ (k i : Nat) (x y z : List UInt8), k ≤ 2 ∧ i ≤ s.size ∧ kv = .int .i64 k ∧ iv = .int .i64 i ∧ Hid (PB w wr x y z ∧ x.length + y.length + z.length ≤ i ∧ pgo ((bs s).drop i) k ⟨x, y, z⟩ = (kf, cf))) (fun _ iv _ => s.size - (intOf iv).toNat)
  case atStart => exact ⟨0, 0, [], [], [], by omega, by omega, rfl, rfl, Lib.hid ⟨P0.out, by simp, HK.out⟩⟩
  case round =>
    obtain ⟨k, i, x, y, z, hk2, hi, rfl, rfl, hq⟩ := hrel
    obtain ⟨hp, hl, hgo⟩ := hq.out
    clear hq
    by_cases hlt : i < s.size
    · rw [drop_at s i hlt, pgo] at hgo
      have sx : ¬ 9223372036854775807 < (tx x).size + 1 := by rw [tx_size]; omega
      have sy : ¬ 9223372036854775807 < (tx y).size + 1 := by rw [tx_size]; omega
      have sz : ¬ 9223372036854775807 < (tx z).size + 1 := by rw [tx_size]; omega
      obtain ⟨a0, a1, a2, f0, f1, f2⟩ := PB.rd hp
      by_cases hc : s[i] = 58 ∧ k < 2
      · rw [if_pos hc] at hgo
        obtain ⟨hc1, hc2⟩ := hc
        have e1 : ((s[i].toNat : Int) == 58) = true := by rw [beq_iff_eq]; exact (col8 _).1 hc1
        have e2 : ((k : Int) < 2) := by omega
        have X := Lib.hid (And.intro hp (And.intro hl hgo))
        clear hp hl hgo hc1
        go_wp2_with fail
        go_roundw
        case rel => exact ⟨k + 1, i + 1, x, y, z, by omega, by omega, by go_num, by go_num, Lib.hid ⟨X.out.1, by have := X.out.2.1; omega, X.out.2.2⟩⟩
        case measure => simp [intOf]; omega
      · rw [if_neg hc] at hgo
        have hcc : ((s[i].toNat : Int) == 58) = false ∨ (((s[i].toNat : Int) == 58) = true ∧ k = 2) := by
          by_cases h : s[i] = 58
          · exact .inr ⟨by rw [beq_iff_eq]; exact (col8 _).1 h, by have : ¬ k < 2 := fun h2 => hc ⟨h, h2⟩; omega⟩
          · exact .inl (by rw [beq_eq_false_iff_ne]; exact fun h2 => h ((col8 _).2 h2))
        have c1 : (0 : Int) ≤ ↑i := by omega
        have c2 : (↑i : Int) ≤ ↑s.size := by omega
        have c3 : (0 : Int) ≤ ↑i + 1 := by omega
        have c4 : (↑i + 1 : Int) ≤ ↑s.size := by omega
        obtain rfl | rfl | rfl : k = 0 ∨ k = 1 ∨ k = 2 := by omega
        · rcases hcc with e1 | ⟨e1, h9⟩
          · unfold addAt at hgo
            simp only [if_pos] at hgo
            have X := Lib.hid (And.intro (PB.set0 hp (x ++ [s[i]])) (And.intro hl hgo))
            have HX := Lib.hid (tx_push s i hlt x)
            clear hp hl hgo hc
            go_upto_region 8 with fail
            go_region
            all_goals (go_wp2_with fail; rw [HX.out])
            all_goals go_roundw
            all_goals first
              | exact ⟨0, i + 1, (x ++ [s[i]]), y, z, by omega, by omega, by go_num, by go_num, Lib.hid ⟨X.out.1, by have := X.out.2.1; simp; omega, X.out.2.2⟩⟩
              | (simp [intOf]; omega)
          · omega
        · rcases hcc with e1 | ⟨e1, h9⟩
          · unfold addAt at hgo
            simp only [if_pos, Nat.one_ne_zero, if_false] at hgo
            have X := Lib.hid (And.intro (PB.set1 hp (y ++ [s[i]])) (And.intro hl hgo))
            have HX := Lib.hid (tx_push s i hlt y)
            clear hp hl hgo hc
            go_upto_region 8 with fail
            go_region
            all_goals (go_wp2_with fail; rw [HX.out])
            all_goals go_roundw
            all_goals first
              | exact ⟨1, i + 1, x, (y ++ [s[i]]), z, by omega, by omega, by go_num, by go_num, Lib.hid ⟨X.out.1, by have := X.out.2.1; simp; omega, X.out.2.2⟩⟩
              | (simp [intOf]; omega)
          · omega
        · have hgo2 : pgo ((bs s).drop (i + 1)) 2 ⟨x, y, z ++ [s[i]]⟩ = (kf, cf) := hgo
          clear hgo
          have hgo := hgo2
          clear hgo2
          rcases hcc with e1 | ⟨e1, h9⟩
          · have X := Lib.hid (And.intro (PB.set2 hp (z ++ [s[i]])) (And.intro hl hgo))
            have HX := Lib.hid (tx_push s i hlt z)
            clear hp hl hgo hc
            go_upto_region 8 with fail
            go_region
            all_goals (go_wp2_with fail; rw [HX.out])
            all_goals go_roundw
            all_goals first
              | exact ⟨2, i + 1, x, y, (z ++ [s[i]]), by omega, by omega, by go_num, by go_num, Lib.hid ⟨X.out.1, by have := X.out.2.1; simp; omega, X.out.2.2⟩⟩
              | (simp [intOf]; omega)
          · have X := Lib.hid (And.intro (PB.set2 hp (z ++ [s[i]])) (And.intro hl hgo))
            have HX := Lib.hid (tx_push s i hlt z)
            clear hp hl hgo hc
            go_upto_region 8 with fail
            go_region
            all_goals (go_wp2_with fail; rw [HX.out])
            all_goals go_roundw
            all_goals first
              | exact ⟨2, i + 1, x, y, (z ++ [s[i]]), by omega, by omega, by go_num, by go_num, Lib.hid ⟨X.out.1, by have := X.out.2.1; simp; omega, X.out.2.2⟩⟩
              | (simp [intOf]; omega)
    · obtain rfl : i = s.size := by omega
      rw [List.drop_eq_nil_of_le (by rw [bs_length]; exact Nat.le_refl _)] at hgo
      obtain ⟨rfl, rfl⟩ : k = kf ∧ (⟨x, y, z⟩ : Crd) = cf := by injection hgo with q1 q2; exact ⟨q1, q2⟩
      clear hgo
      have lx : x.length ≤ 1000000000000000 := by omega
      have ly : y.length ≤ 1000000000000000 := by omega
      have lz : z.length ≤ 1000000000000000 := by omega
      have X1 := Lib.hid hp
      have X2 := Lib.hid (hp.1.alloc (.cells #[.string (tx x), .string (tx y), .string (tx z)] 23))
      have Y2 := Lib.hid (Blk.new wr 23 #[.string (tx x), .string (tx y), .string (tx z)])
      obtain ⟨a0, a1, a2, f0, f1, f2⟩ := PB.rd hp
      clear hp hl
      by_cases h2 : k = 2
      · subst h2
        obtain ⟨q, hq⟩ : ∃ q, coordL ⟨x, y, z⟩ = q := ⟨_, rfl⟩
        have HQ := Lib.hid hq
        have HF2 : Hid ((if q = true then ((⟨x, y, z⟩ : Crd), true) else (⟨[], [], []⟩, false)) = ((⟨g, n, v⟩ : Crd), b)) := Lib.hid (by rw [← HF.out, ← hq]; simp)
        clear hq HF
        have y0 := Y2.out.cell 0
        have y1 := Y2.out.cell 1
        have y2 := Y2.out.cell 2
        go_wp2_with fail
        refine (rCoord_c x y z _ lx ly lz q HQ.out).mono ?_
        rintro e w4 ⟨rfl, hb4⟩
        have X4 := Lib.hid (X2.out.below hb4.out)
        have Y4 := Lib.hid (Y2.out.below hb4.out)
        clear hb4 X2 Y2 X1 y0 y1 y2 a0 a1 a2 f0 f1 f2
        obtain ⟨z0, z1, z2, f0, f1, f2⟩ := KX.fz X4.out
        cases q with
        | false =>
          have hF2 := HF2.out
          injection hF2 with p1 p2
          injection p1 with p3 p4 p5
          subst p2 p3 p4 p5
          have QQ := Lib.hid (KX.fin X4.out (.string ⟨#[]⟩) (.string ⟨#[]⟩) (.string ⟨#[]⟩))
          have DD := Lib.hid (KX.ed X4.out (.string ⟨#[]⟩) (.string ⟨#[]⟩) (.string ⟨#[]⟩))
          go_wp2_with fail
          exact bodyPost_ret (v := .tuple #[crV [] [] [], .bool false]) (by obtain ⟨d0, d1, d2⟩ := DD.out; simp [results, Tryd.results8, go_sem, d0, d1, d2, tx]) rfl ⟨rfl, QQ⟩
        | true =>
          have hF2 := HF2.out
          injection hF2 with p1 p2
          injection p1 with p3 p4 p5
          subst p2 p3 p4 p5
          have y0 := Y4.out.cell 0
          have y1 := Y4.out.cell 1
          have y2 := Y4.out.cell 2
          have QQ := Lib.hid (KX.fin X4.out (.string (tx x)) (.string (tx y)) (.string (tx z)))
          have DD := Lib.hid (KX.ed X4.out (.string (tx x)) (.string (tx y)) (.string (tx z)))
          go_wp2_with fail
          exact bodyPost_ret (v := .tuple #[crV x y z, .bool true]) (by obtain ⟨d0, d1, d2⟩ := DD.out; simp [results, Tryd.results8, go_sem, d0, d1, d2]) rfl ⟨rfl, QQ⟩
      · have hF2 := HF.out
        rw [if_neg (fun h => h2 h.1)] at hF2
        injection hF2 with p1 p2
        injection p1 with p3 p4 p5
        subst p2 p3 p4 p5
        have hk2' : ((k : Int) != 2) = true := by rw [bne_iff_ne]; omega
        obtain ⟨w5, hw5⟩ : ∃ w5, wr.alloc (.cells #[.string (tx x), .string (tx y), .string (tx z)] 23) = w5 := ⟨_, rfl⟩
        go_upto_region 11 with fail
        rw [hw5] at X2
        try rw [hw5]
        clear hw5 X1 Y2 a0 a1 a2 f0 f1 f2
        obtain ⟨z0, z1, z2, f5, f6, f7⟩ := KX.fz X2.out
        have QQ := Lib.hid (KX.fin X2.out (.string ⟨#[]⟩) (.string ⟨#[]⟩) (.string ⟨#[]⟩))
        have DD := Lib.hid (KX.ed X2.out (.string ⟨#[]⟩) (.string ⟨#[]⟩) (.string ⟨#[]⟩))
        clear HF HK
        go_wp2_with fail
        exact bodyPost_ret (v := .tuple #[crV [] [] [], .bool false]) (by obtain ⟨d0, d1, d2⟩ := DD.out; simp [results, Tryd.results8, go_sem, d0, d1, d2, tx]) rfl ⟨rfl, QQ⟩
end Go.Proofs.YthmlggglemnfgaaDoor
