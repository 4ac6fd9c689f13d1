/-
  The document's own Lower: bytes appended one by one, then a text. The document's own parts, byte by byte, are the parts. The document's own Right, number and word.
-/
import Derived.Test.YthmlggglemnfgaaDoorBb
import Derived.Test.YthmlggglemnfgaaDoorWdParts
import Derived.Test.YthmlggglemnfgaaDoorWdSplit2
import Derived.Deep.DeepCutAuto
namespace Go.Proofs.YthmlggglemnfgaaDoor
open Nwl
open Go.RowKit

theorem info_u8 : (Tryd.prog.info? 5).map (fun i => (i.zero, i.size, i.bytes)) = some (some (.int .u8 0), 1, 1) := by kernel_rfl

/-- bytes as cells -/
def u8s (l : List UInt8) : List Value := l.map fun c => .int .u8 (c.toNat : Int)
theorem u8s_length (l : List UInt8) : (u8s l).length = l.length := by simp [u8s]
theorem u8s_snoc (l : List UInt8) (c : UInt8) : u8s l ++ [.int .u8 (c.toNat : Int)] = u8s (l ++ [c]) := by simp [u8s]
theorem u8s_append (l r : List UInt8) : u8s l ++ u8s r = u8s (l ++ r) := by simp [u8s]

/-- 'string(b)' of a slice of the call's own -/
theorem owned_string {w : World} {base : Nat} {v : Value} {l : List UInt8} (h : w.ownsRow base 5 1 v l.length (u8s l)) :
    (convert 64 9 v).run Tryd.prog w = .ok (.string (tx l)) w := by
  rcases h.2 with ⟨rfl, h0⟩ | ⟨g, cap, cur, rfl, _, _, _, _, _, _⟩
  · have : l = [] := List.eq_nil_of_length_eq_zero h0
    subst this
    rw [run_convert_bytes_string w 64 9 5 none 0 0 Tryd.underlying64 Tryd.underlying5 Tryd.underlying9]
    rfl
  · exact run_convert_bytes_back (P := Tryd.prog) w 64 9 5 ⟨g, 0, none⟩ cap l Tryd.underlying64 Tryd.underlying5 Tryd.underlying9 (by
      intro j hj
      exact h.cells (g := g) rfl j _ (by simp [u8s, List.getElem?_eq_getElem hj]))

theorem lower_snoc (s : ByteArray) (k : Nat) (hk : k < s.size) : lowerL ((bs s).take (k + 1)) = lowerL ((bs s).take k) ++ [low8 s[k]] := by
  rw [List.take_succ_eq_append_getElem (by rw [bs_length]; exact hk)]
  simp [lowerL, bs_get s k hk]
theorem lower_len (s : ByteArray) (k : Nat) (hk : k ≤ s.size) : (lowerL ((bs s).take k)).length = k := by
  simp [lowerL, bs_length]; omega

theorem own_snoc {w : World} {base : Nat} {v : Value} {l : List UInt8} {n : Nat} {c : UInt8} (hn : l.length = n) (h : w.ownsRow base 5 1 v (n + 1) (u8s l ++ [.int .u8 (c.toNat : Int)])) :
    w.ownsRow base 5 1 v (l ++ [c]).length (u8s (l ++ [c])) := by
  rw [u8s_snoc] at h
  rw [List.length_append, hn]
  exact h

theorem cell_one (w : World) (a : Value) (t : TypeId) : ∀ j u, [a][j]? = some u → (w.alloc (.cells #[a] t)).cell? ((⟨w.heap.size, 0, none⟩ : Addr).add j) = some u := by
  intro j u hj
  match j, hj with
  | 0, hj => simp at hj; subst hj; simp [Addr.add]
  | j + 1, hj => simp at hj

set_option maxHeartbeats 800000 in
theorem refLower_c (s : ByteArray) (w : World) (hs : s.size ≤ 140737488351232) :
    Calls Tryd.prog 66 #[.string s] w fun e w' => e = .returned (.string (lowerB s)) ∧ Below w.heap.size w w' := by
  obtain ⟨i0, hi, hz0, hz1, hz2⟩ := info_parts info_u8
  go_enter Tryd.func66, Tryd.ntmps66
  go_wp2
  go_loopw [3, 4] (fun v i wr => ∃ k : Nat, k ≤ s.size ∧ i = .int .i64 k ∧ wr.ownsRow w.heap.size 5 1 v (lowerL ((bs s).take k)).length (u8s (lowerL ((bs s).take k))) ∧ Below w.heap.size w wr) (fun _ i _ => s.size - (intOf i).toNat)
  case atStart => exact ⟨0, Nat.zero_le _, rfl, World.ownsRow_nil _ _ _ _, Below.refl _ _⟩
  case round =>
    obtain ⟨k, hk, rfl, hown, hbel⟩ := hrel
    by_cases hlt : k < s.size
    · have hll : Hid ((lowerL ((bs s).take k)).length = k) := Lib.hid (lower_len s k hk)
      rw [hll.out] at hown
      have hsn : Hid (lowerL ((bs s).take (k + 1)) = lowerL ((bs s).take k) ++ [low8 s[k]]) := Lib.hid (lower_snoc s k hlt)
      have hbs := hbel.size
      cases hu : upperI s[k].toNat with
      | true =>
        have hb : 65 ≤ (s[k].toNat : Int) ∧ (s[k].toNat : Int) ≤ 90 := by simpa [upperI] using hu
        obtain ⟨hb1, hb2⟩ := hb
        have hlv : Hid (((low8 s[k]).toNat : Int) = (s[k].toNat : Int) + 32) := Lib.hid (low8_val _ hu)
        go_wp2_with (at_builtin; refine wpList_append_own _ rfl _ _ 64 rfl w.heap.size 5 i0 (.int .u8 0) 1 1 Tryd.underlying64 hi hz0 hz1 hz2 rfl (by decide) _ _ _ rfl (hown.alloc _) ⟨wr.heap.size, 0, none⟩ 1 1 [.int .u8 ((s[k].toNat : Int) + 32)] rfl rfl (cell_one _ _ _) (fun u hu => by simp at hu; subst hu; rfl) (by unfold maxLen; omega) (by omega) (by simp; omega) ?_; intro v' w1 hown' hgrow _)
        rw [← hlv.out] at hown'
        have hown2 := own_snoc hll.out hown'
        rw [← hsn.out] at hown2
        have hbel2 : Below w.heap.size w w1 := Below.grown (hbel.alloc (by omega) _) hgrow (by simp; omega) (fun j hj => (hown.lt _ hj).1)
        have X : Hid (w1.ownsRow w.heap.size 5 1 v' (lowerL ((bs s).take (k + 1))).length (u8s (lowerL ((bs s).take (k + 1)))) ∧ Below w.heap.size w w1) := ⟨hown2, hbel2⟩
        clear hown' hgrow hown2 hbel2 hown
        go_wp2
        go_roundw
        case rel => exact ⟨k + 1, by omega, by go_num, X.out.1, X.out.2⟩
        case measure => simp [intOf]; omega
      | false =>
        have hlv : Hid (low8 s[k] = s[k]) := Lib.hid (low8_same _ hu)
        have hways : ¬ 65 ≤ (s[k].toNat : Int) ∨ (65 ≤ (s[k].toNat : Int) ∧ ¬ (s[k].toNat : Int) ≤ 90) := by
          simp [upperI] at hu; omega
        rcases hways with hw1 | ⟨hw1, hw2⟩
        all_goals
          go_wp2_with (at_builtin; refine wpList_append_own _ rfl _ _ 64 rfl w.heap.size 5 i0 (.int .u8 0) 1 1 Tryd.underlying64 hi hz0 hz1 hz2 rfl (by decide) _ _ _ rfl (hown.alloc _) ⟨wr.heap.size, 0, none⟩ 1 1 [.int .u8 (s[k].toNat : Int)] rfl rfl (cell_one _ _ _) (fun u hu => by simp at hu; subst hu; rfl) (by unfold maxLen; omega) (by omega) (by simp; omega) ?_; intro v' w1 hown' hgrow _)
          have hown2 := own_snoc hll.out hown'
          rw [← hlv.out, ← hsn.out] at hown2
          have hbel2 : Below w.heap.size w w1 := Below.grown (hbel.alloc (by omega) _) hgrow (by simp; omega) (fun j hj => (hown.lt _ hj).1)
          have X : Hid (w1.ownsRow w.heap.size 5 1 v' (lowerL ((bs s).take (k + 1))).length (u8s (lowerL ((bs s).take (k + 1)))) ∧ Below w.heap.size w w1) := ⟨hown2, hbel2⟩
          clear hown' hgrow hown2 hbel2 hown
          go_wp2
          go_roundw
          case rel => exact ⟨k + 1, by omega, by go_num, X.out.1, X.out.2⟩
          case measure => simp [intOf]; omega
    · obtain rfl : k = s.size := by omega
      have hback := owned_string hown
      have hfin : Hid (tx (lowerL ((bs s).take s.size)) = lowerB s) := Lib.hid (by rw [List.take_of_length_le (by rw [bs_length]; omega)]; rfl)
      go_wp2
      go_ret
      exact ⟨ret_str hfin.out, hbel⟩

end Go.Proofs.YthmlggglemnfgaaDoor

namespace Nwl
set_option linter.unusedVariables false
/-- the document's step: what is closed, and what is under way -/
def stepR (st : List Pt × Pt) (c : UInt8) : List Pt × Pt :=
  if sep8 c then (st.1 ++ [st.2], ⟨[], c.toNat == 45, false⟩)
  else if !st.2.s.isEmpty && (dig8 (st.2.s.getLastD 0) != dig8 c) then (st.1 ++ [⟨st.2.s, st.2.dash, dig8 c⟩], ⟨[c], true, false⟩)
  else (st.1, ⟨st.2.s ++ [c], st.2.dash, st.2.num⟩)
/-- one part -/
def OneP (s : List UInt8) : Prop := ∀ h x, s = h :: x → ∀ c ∈ s, partQ h c = true
theorem partsD_one (d : Bool) (s T : List UInt8) (hs : OneP s) (hT : ∀ h x, s = h :: x → endsP h T = true) (h0 : s = [] → T = [] ∨ ∃ c T', T = c :: T' ∧ sep8 c = true) : partsD d (s ++ T) = ⟨s, d, digHd T⟩ :: tailP T := by
  cases s with
  | nil =>
    rcases h0 rfl with rfl | ⟨c, T', rfl, hc⟩
    · rfl
    · have hn : partN (c :: T') = 0 := partN_zero hc
      rw [List.nil_append, partsD_step (by rw [hn]; simp), hn]
      rfl
  | cons h x => exact parts_pre d h x T (hs h x rfl) (hT h x rfl)
theorem tailP_sep (c : UInt8) (T : List UInt8) (hc : sep8 c = true) : tailP (c :: T) = partsD (c.toNat == 45) T := by
  show partsD (!(c.toNat == 46)) (if sep8 c then T else c :: T) = _
  rw [if_pos hc]
  congr 1
  unfold sep8 sepI at hc
  simp at hc
  rcases hc with h | h
  · have : c.toNat = 46 := by omega
    rw [this]; rfl
  · have : c.toNat = 45 := by omega
    rw [this]; rfl
theorem tailP_plain (c : UInt8) (T : List UInt8) (hc : sep8 c = false) : tailP (c :: T) = partsD true (c :: T) := by
  show partsD (!(c.toNat == 46)) (if sep8 c then T else c :: T) = _
  rw [if_neg (by rw [hc]; decide)]
  congr 1
  unfold sep8 sepI at hc
  rw [Bool.or_eq_false_iff, beq_eq_false_iff_ne, beq_eq_false_iff_ne] at hc
  have : (c.toNat == 46) = false := by rw [beq_eq_false_iff_ne]; omega
  rw [this]; rfl
theorem getLastD_mem : ∀ (s : List UInt8) (h : s ≠ []), s.getLastD 0 ∈ s
  | [], h => absurd rfl h
  | c :: s, _ => by
    rw [List.getLastD_cons]
    cases s with
    | nil => simp
    | cons x s => exact List.mem_cons_of_mem _ (by rw [List.getLastD_cons, ← List.getLastD_cons (a := 0)]; exact getLastD_mem (x :: s) (by simp))
theorem fold_parts : ∀ (r : List UInt8) (init : List Pt) (s : List UInt8) (d : Bool), OneP s → (r.foldl stepR (init, ⟨s, d, false⟩)).1 ++ [(r.foldl stepR (init, ⟨s, d, false⟩)).2] = init ++ partsD d (s ++ r)
  | [], init, s, d, hs => by
    rw [partsD_one d s [] hs (fun _ _ _ => rfl) (fun _ => .inl rfl)]
    rfl
  | c :: r, init, s, d, hs => by
    rw [List.foldl_cons]
    cases hc : sep8 c with
    | true =>
      have e : stepR (init, ⟨s, d, false⟩) c = (init ++ [⟨s, d, false⟩], ⟨[], c.toNat == 45, false⟩) := by unfold stepR; rw [if_pos hc]
      rw [e, fold_parts r _ [] _ (fun h x e => by cases e)]
      rw [partsD_one d s (c :: r) hs (fun h x _ => by simp [endsP, partQ, hc]) (fun _ => .inr ⟨c, r, rfl, hc⟩), tailP_sep c r hc]
      have hd : digHd (c :: r) = false := by
        show dig8 c = false
        cases h : dig8 c with
        | false => rfl
        | true => rw [dig_sep c h] at hc; cases hc
      rw [hd]
      simp
    | false =>
      cases hq : (!s.isEmpty && (dig8 (s.getLastD 0) != dig8 c)) with
      | true =>
        have e : stepR (init, ⟨s, d, false⟩) c = (init ++ [⟨s, d, dig8 c⟩], ⟨[c], true, false⟩) := by unfold stepR; rw [if_neg (by rw [hc]; decide), if_pos hq]
        simp only [Bool.and_eq_true, Bool.not_eq_true', bne_iff_ne] at hq
        have hne : s ≠ [] := by intro h; rw [h] at hq; simp at hq
        rw [e, fold_parts r _ [c] _ (fun h x e => by
          injection e with e1 e2
          subst e1
          intro y hy
          have : y = c := by simpa using hy
          subst this
          unfold partQ
          rw [hc]; simp)]
        rw [partsD_one d s (c :: r) hs (fun h x hx => by
          have h1 := hs h x hx (s.getLastD 0) (getLastD_mem s hne)
          unfold partQ at h1
          simp only [Bool.and_eq_true, beq_iff_eq] at h1
          have h2 : ¬ dig8 c = dig8 h := fun e => hq.2 (by rw [h1.2, e])
          simp [endsP, partQ, hc, h2]) (fun h => absurd h hne), tailP_plain c r hc]
        simp [digHd]
      | false =>
        have e : stepR (init, ⟨s, d, false⟩) c = (init, ⟨s ++ [c], d, false⟩) := by unfold stepR; rw [if_neg (by rw [hc]; decide), if_neg (by rw [hq]; decide)]
        rw [e, fold_parts r _ (s ++ [c]) _ ?_]
        · simp
        · intro h x hx y hy
          cases s with
          | nil =>
            injection hx with e1 e2
            subst e1
            have : y = c := by simpa using hy
            subst this
            unfold partQ
            rw [hc]; simp
          | cons a s =>
            injection hx with e1 e2
            subst e1
            rcases List.mem_append.1 hy with hy | hy
            · exact hs a s rfl y hy
            · have : y = c := by simpa using hy
              subst this
              have h1 := hs a s rfl ((a :: s).getLastD 0) (getLastD_mem (a :: s) (by simp))
              unfold partQ at h1
              simp only [Bool.and_eq_true, beq_iff_eq] at h1
              have h2 : dig8 ((a :: s).getLastD 0) = dig8 y := by simpa using hq
              unfold partQ
              rw [hc, ← h2, h1.2]; simp
/-- the document's parts so far -/
def stR (l : List UInt8) : List Pt × Pt := l.foldl stepR ([], ⟨[], false, false⟩)
theorem stR_parts (l : List UInt8) : (stR l).1 ++ [(stR l).2] = partsL l := by
  have := fold_parts l [] [] false (fun h x e => by cases e)
  unfold stR partsL
  simpa using this
theorem stR_snoc (l : List UInt8) (c : UInt8) : stR (l ++ [c]) = stepR (stR l) c := by
  unfold stR
  rw [List.foldl_append]
  rfl
theorem stR_len : ∀ (l : List UInt8), (stR l).1.length ≤ l.length ∧ (stR l).2.s.length ≤ l.length := by
  have h : ∀ (l : List UInt8) (st : List Pt × Pt), (l.foldl stepR st).1.length ≤ st.1.length + l.length ∧ (l.foldl stepR st).2.s.length ≤ st.2.s.length + l.length := by
    intro l
    induction l with
    | nil => intro st; exact ⟨Nat.le_refl _, Nat.le_refl _⟩
    | cons c l ih =>
      intro st
      obtain ⟨h1, h2⟩ := ih (stepR st c)
      have h3 : (stepR st c).1.length ≤ st.1.length + 1 ∧ (stepR st c).2.s.length ≤ st.2.s.length + 1 := by
        unfold stepR
        split
        · simp
        · split <;> simp
      rw [List.foldl_cons, List.length_cons]
      omega
  intro l
  have := h l ([], ⟨[], false, false⟩)
  unfold stR
  simpa using this
theorem stR_num (l : List UInt8) : (stR l).2.num = false := by
  have h : ∀ (l : List UInt8) (st : List Pt × Pt), st.2.num = false → (l.foldl stepR st).2.num = false := by
    intro l
    induction l with
    | nil => intro st h; exact h
    | cons c l ih =>
      intro st h
      rw [List.foldl_cons]
      apply ih
      unfold stepR
      split
      · rfl
      · split
        · rfl
        · exact h
  exact h l _ rfl
end Nwl

namespace Go.Proofs.YthmlggglemnfgaaDoor
open Nwl
open Go.RowKit Go.Maps
set_option linter.unusedVariables false

set_option maxRecDepth 100000 in
set_option maxHeartbeats 2000000 in
theorem refRight_c (s : ByteArray) (w : World) (hs : s.size ≤ maxLen) (r : Bool) (hr : rightV (bs s) = r) :
    Calls Tryd.prog 34 #[.string s] w fun e w' => e = .returned (.bool r) ∧ w = w' := by
  unfold maxLen at hs
  have HR := Lib.hid hr
  clear hr
  go_enter Tryd.func34, Tryd.ntmps34
  go_wp2_with fail
  go_loop [3] (fun i => ∃ k : Nat, k ≤ s.size ∧ i = .int .i64 k ∧ Hid (MayTo s k)) (fun i => s.size - (intOf i).toNat)
  case atStart => exact ⟨0, by omega, rfl, Lib.hid (mayTo_start s)⟩
  case round =>
    obtain ⟨k, hk, rfl, hm⟩ := hrel
    by_cases hlt : k < s.size
    · obtain ⟨c, hc⟩ : ∃ c : Int, (s[k].toNat : Int) = c := ⟨_, rfl⟩
      cases hmv : mayV s[k].toNat with
      | true =>
        have hup := Lib.hid (mayTo_up s k hlt hm.out hmv)
        rw [hc] at hmv
        have hb : (33 ≤ c ∧ c ≤ 126) ∧ c ≠ 91 ∧ c ≠ 93 ∧ c ≠ 40 ∧ c ≠ 41 ∧ c ≠ 44 := by
          unfold mayV at hmv
          simp at hmv
          omega
        obtain ⟨⟨h1, h2⟩, h3, h4, h5, h6, h7⟩ := hb
        have e3 : (c == 91) = false := by rw [beq_eq_false_iff_ne]; exact h3
        have e4 : (c == 93) = false := by rw [beq_eq_false_iff_ne]; exact h4
        have e5 : (c == 40) = false := by rw [beq_eq_false_iff_ne]; exact h5
        have e6 : (c == 41) = false := by rw [beq_eq_false_iff_ne]; exact h6
        have e7 : (c == 44) = false := by rw [beq_eq_false_iff_ne]; exact h7
        clear hmv h3 h4 h5 h6 h7
        go_wp2_with fail
        go_round
        case rel => exact ⟨k + 1, by omega, by go_num, hup⟩
        case measure => simp [intOf]; omega
      | false =>
        have HF : Hid (false = r) := Lib.hid ((right_no s k hlt hmv).symm.trans HR.out)
        rw [hc] at hmv
        have hways : c < 33 ∨ 126 < c ∨ c = 91 ∨ c = 93 ∨ c = 40 ∨ c = 41 ∨ c = 44 := by
          unfold mayV at hmv
          rw [Bool.and_eq_false_iff, Bool.and_eq_false_iff, decide_eq_false_iff_not, decide_eq_false_iff_not] at hmv
          simp at hmv
          omega
        clear hm hmv
        rcases hways with h | h | rfl | rfl | rfl | rfl | rfl
        all_goals
          go_wp2_with fail
          go_ret
          exact ⟨ret_bool HF.out, rfl⟩
    · obtain rfl : k = s.size := by omega
      by_cases h0 : s.size = 0
      · have HF : Hid (false = r) := Lib.hid ((right_short s h0).symm.trans HR.out)
        have hn1 : ¬ (1 : Int) ≤ (s.size : Int) := by omega
        clear h0
        go_wp2_with fail
        go_ret
        exact ⟨ret_bool HF.out, rfl⟩
      · have hn1 : (1 : Int) ≤ (s.size : Int) := by omega
        by_cases hb : 100 < s.size
        · have HF : Hid (false = r) := Lib.hid ((right_long s hb).symm.trans HR.out)
          have hn2 : ¬ (s.size : Int) ≤ 100 := by omega
          clear hb h0
          go_wp2_with fail
          go_ret
          exact ⟨ret_bool HF.out, rfl⟩
        · have HF : Hid (true = r) := Lib.hid ((right_yes s (by omega) (by omega) hm.out).symm.trans HR.out)
          have hn2 : (s.size : Int) ≤ 100 := by omega
          clear hb h0
          go_wp2_with fail
          go_ret
          exact ⟨ret_bool HF.out, rfl⟩

set_option maxRecDepth 100000 in
set_option maxHeartbeats 2000000 in
theorem refnumber_c (s : ByteArray) (d n : Bool) (w : World) (hs : s.size ≤ maxLen) (r : Wd) (hr : numW (bs s) d = r) :
    Calls Tryd.prog 73 #[.agg #[.string s, .bool d, .bool n]] w fun e w' => e = .returned (wdV r) ∧ Below w.heap.size w w' := by
  unfold maxLen at hs
  have HR := Lib.hid hr
  clear hr
  go_enter Tryd.func73, Tryd.ntmps73
  go_wp2_with fail
  go_loop [3] (fun v => ∃ t : ByteArray, t.size ≤ s.size ∧ v = .string t ∧ Hid (drop0B t = drop0B s)) (fun v => match v with | .string t => t.size | _ => 0)
  case atStart => exact ⟨s, by omega, rfl, Lib.hid rfl⟩
  case round =>
    obtain ⟨t, ht, rfl, hd⟩ := hrel
    by_cases hgo : ∃ h : 0 < t.size, is0 t[0] = true
    · obtain ⟨hlt, hc⟩ := hgo
      have hst : Hid (drop0B (t.extract 1 t.size) = drop0B s) := Lib.hid ((drop0B_step t hlt hc).trans hd.out)
      have hsz : Hid ((t.extract 1 t.size).size = t.size - 1) := Lib.hid (extract_size t 1 t.size (Nat.le_refl _))
      have hcc : ((t[0].toNat : Int) == 48) = true := by
        unfold is0 at hc
        rw [beq_iff_eq] at hc ⊢
        omega
      clear hc
      go_wp2_with fail
      go_round
      case rel => exact ⟨_, by rw [hsz.out]; omega, rfl, hst⟩
      case measure => simp only []; rw [hsz.out]; omega
    · have hfin : t = drop0B s := (drop0B_end t fun h => by
        cases e : is0 t[0] with
        | false => rfl
        | true => exact absurd ⟨h, e⟩ hgo).symm.trans hd.out
      have hbt : bs t = (bs s).dropWhile is0 := by rw [hfin]; rfl
      have hr2 := HR.out
      rw [numW_eq, ← hbt] at hr2
      clear hd hfin
      by_cases h0 : 0 < t.size
      · have hcc : ((t[0].toNat : Int) == 48) = false := by
          rw [beq_eq_false_iff_ne]
          intro e
          exact hgo ⟨h0, by unfold is0; rw [beq_iff_eq]; omega⟩
        have hne : ¬ t.toList = [] := toList_ne_of t h0
        have hne2 : t.toList.isEmpty = false := by simpa using hne
        have hbe : (bs t).isEmpty = false := by rw [← toList_bs]; exact hne2
        rw [hbe, if_neg (by decide)] at hr2
        clear hgo hbt hbe
        cases d with
        | true =>
          have hrr : r = ⟨9, bs t⟩ := hr2.symm
          subst hrr
          clear hr2 HR
          go_wp2_with fail
          exact bodyPost_ret (v := .agg #[.int .i64 9, .string t]) (by simp [results, Tryd.results73, go_sem]) rfl ⟨rfl, ((Below.refl _ _).alloc (Nat.le_refl _) _).alloc (by simp) _⟩
        | false =>
          have hrr : r = ⟨10, bs t⟩ := hr2.symm
          subst hrr
          clear hr2 HR
          go_wp2_with fail
          exact bodyPost_ret (v := .agg #[.int .i64 10, .string t]) (by simp [results, Tryd.results73, go_sem]) rfl ⟨rfl, ((Below.refl _ _).alloc (Nat.le_refl _) _).alloc (by simp) _⟩
      · have he : t.toList = [] := toList_nil_of t (by omega)
        have hbe : (bs t).isEmpty = true := by rw [← toList_bs, he]; rfl
        rw [hbe, if_pos rfl] at hr2
        subst hr2
        clear hgo hbt hbe HR
        go_wp2_with fail
        exact bodyPost_ret (v := .agg #[.int .i64 6, .string ⟨#[]⟩]) (by simp [results, Tryd.results73, go_sem]) rfl ⟨rfl, ((Below.refl _ _).alloc (Nat.le_refl _) _).alloc (by simp) _⟩
end Go.Proofs.YthmlggglemnfgaaDoor
