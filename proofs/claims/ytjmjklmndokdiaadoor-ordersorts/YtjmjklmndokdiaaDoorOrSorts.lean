/-
  The walk of OrderSorts.
-/
import Derived.Test.YtjmjklmndokdiaaDoorOrAwake
import Derived.Test.YtjmjklmndokdiaaDoorOrGreat
import Derived.Test.YtjmjklmndokdiaaDoorOrStrs
import Derived.Test.YtjmjklmndokdiaaDoorBd
import Derived.BigRegion
import Derived.StillTailTactics
import Derived.Deep.CutRange
namespace Nwl
theorem cmp_le {a b : List UInt8} (h : leV a b = true) : cmpV a b ≤ 0 := by
  unfold leV ordV thenI at h
  rw [decide_eq_true_eq] at h
  split at h <;> omega
theorem sorted_at (l : List (List UInt8)) (k : Nat) (hk : k + 1 < (sortV l).length) : cmpV ((sortV l)[k]'(by omega)) ((sortV l)[k + 1]) ≤ 0 :=
  cmp_le ((List.pairwise_iff_getElem.1 (sortV_sorted l)) k (k + 1) (by omega) hk (by omega))
theorem last_at (l : List (List UInt8)) (y : List UInt8) (r : List (List UInt8)) (hp : (y :: r).Perm l) (n : Nat) (hn : (sortV l).length = n + 1) : (sortV l)[n] = greatV y r := by
  have e : sortV (y :: r) = sortV l := sortV_of_perm _ _ hp
  have hne : sortV (y :: r) ≠ [] := by rw [e]; intro h; rw [h] at hn; simp at hn
  have h2 := great_last y r hne
  rw [← h2, List.getLast_eq_getElem]
  simp only [e, hn, Nat.add_sub_cancel]
theorem tmod_nat (a b : Nat) : (a : Int).tmod (b : Int) = ((a % b : Nat) : Int) := by
  rw [Int.tmod_eq_emod_of_nonneg (by omega)]; rfl
end Nwl
namespace Go.Proofs.YtjmjklmndokdiaaDoor
open Nwl
open Go.RowKit Go.Maps
set_option linter.unusedVariables false
set_option linter.unusedSimpArgs false

theorem wrap_i64n {z : Int} {m : Nat} (h : z = ((m + 1 : Nat) : Int)) (hm : m ≤ 1000) : IntKind.i64.wrap (z - 1) = (m : Int) := by
  subst h
  have : (((m + 1 : Nat) : Int) - 1) = (m : Int) := by omega
  rw [this]
  simp [IntKind.wrap, IntKind.bits, IntKind.signed]
  omega
theorem wrap64_n {z : Int} {m : Nat} (h : z = ((m + 1 : Nat) : Int)) (hm : m ≤ 1000) : wrap64 (z - 1) = (m : Int) := by
  subst h
  unfold wrap64
  omega
theorem strm_drew {B : Nat} {w : World} {A : Option Addr} {n : Nat} {l : List (List UInt8)} (h : StrM B w A n l) : StrM B w.drew A n l := h
theorem wpl_append {P : Program} {w w' : World} {ops : Array Oper} {rest : List Oper} {o : Oper} {a : Act} {Q : Exit → Act → World → Prop} (hg : o.guard = none) (s x : Operand) (t : TypeId) (ho : o.op = .call { callee := .builtin .append, args := #[s, x], argTypes := #[t, t] })
    (v1 v2 v' : Value) (hs : a.eval s = v1) (hx : a.eval x = v2) (hr : (Builtin.append_ #[t, t] o.type #[v1, v2]).run P w = .ok v' w') (h : wpList P ops Q rest (a.put o.dst v') w') : wpList P ops Q (o :: rest) a w := by
  refine wpList_plain hg fun K hK => ?_
  unfold Oper.wp execOp
  simp only [ho, hs, hx, hr, resolve, invoke, builtin, List.map_toArray, List.map_cons, List.map_nil, Sem.run_bind, Sem.run_pure, Result.andThen_ok]
  exact hK _ _ h

set_option maxRecDepth 100000 in
set_option maxHeartbeats 4000000 in
theorem OrderSorts_walk (A : Option Addr) (n c : Nat) (A2 : Option Addr) (n2 c2 : Nat) (w : World) (m1 : n ≤ maxLen) (k1 : A = none → n = 0 ∧ c = 0) (h1 : ∃ l : List (List UInt8), StrR w.heap.size w A n l ∧ ∀ x ∈ l, x.length ≤ maxLen) (m2 : n2 ≤ maxLen) (h2 : ∀ j, j < n2 → ∃ b o z, A2 = some ⟨b, o, none⟩ ∧ b < w.heap.size ∧ w.cell? ⟨b, o + j, none⟩ = some (.int .i64 z)) (hg : Glob w) :
    Calls Tryd.prog 4 #[.slice A n c, .slice A2 n2 c2] w fun e w' => e = .returned (.bool true) ∧ Below w.heap.size w w' := by
  obtain ⟨l, hR, hS⟩ := h1
  have HR := Lib.hid hR
  have HS := Lib.hid hS
  have HM := Lib.hid m1
  have HK := Lib.hid k1
  have H2 := Lib.hid h2
  have hn2 := m2
  have hn1 := m1
  unfold maxLen at hn1 hn2
  clear hR hS m1 k1 h2 m2 hg
  obtain ⟨r, hr⟩ : ∃ r, fewL l = r := ⟨_, rfl⟩
  have HF := Lib.hid hr
  cases r with
  | false =>
    clear hr
    go_enter Tryd.func4, Tryd.ntmps4
    go_wp2_with fail
    refine (few_c A n c l w w.heap.size HR.out HM.out HS.out false HF.out).mono ?_
    rintro e w1 ⟨rfl, rfl⟩
    go_wp2_with fail
    refine (awake6_c _).mono ?_
    rintro e w1 ⟨rfl, B1⟩
    go_wp2_with fail
    go_ret
    exact ⟨rfl, B1.out⟩
  | true =>
    obtain ⟨hx, hn20⟩ := fewL_mem hr
    have hnl := HR.out.1
    have hn : n ≤ 20 := by omega
    have HX : Hid (∀ x ∈ l, x.length ≤ 1000) := Lib.hid fun x h => by have := hx x h; omega
    obtain ⟨A5, c5, w5, hap, hM, hb5⟩ := str_copy HR.out HK.out (by omega)
    have HAP := Lib.hid hM
    have HB5 := Lib.hid hb5
    have HRUN := Lib.hid hap
    clear hr hx hn20 hnl hM hb5 hap
    go_enter Tryd.func4, Tryd.ntmps4
    go_wp2_with fail
    refine (few_c A n c l w w.heap.size HR.out HM.out HS.out true HF.out).mono ?_
    rintro e w1 ⟨rfl, rfl⟩
    go_wp2_with (at_builtin; go_must (refine wpl_append rfl _ _ _ rfl _ _ _ rfl rfl HRUN.out ?_))
    go_loopw [6] (fun iv wr => ∃ k : Nat, k ≤ n2 ∧ k ≤ 30 ∧ iv = .int .i64 k ∧ Hid (∃ l2, l2.Perm l ∧ StrM w.heap.size wr A5 n l2 ∧ Below w.heap.size w wr)) (fun iv _ => 30 - (intOf iv).toNat)
    case atStart => exact ⟨0, by omega, by omega, rfl, Lib.hid ⟨l, List.Perm.refl _, HAP.out, HB5.out⟩⟩
    case round =>
      obtain ⟨k, hk2, hk30, rfl, hh⟩ := hrel
      by_cases hgo : k < n2 ∧ k < 30 ∧ 0 < n
      · obtain ⟨g1, g2, g3⟩ := hgo
        obtain ⟨l2, hp, hm, hb⟩ := hh.out
        have hll : n = l2.length := hm.1
        obtain ⟨q, hq⟩ : ∃ q, k % n = q := ⟨_, rfl⟩
        have hqn : q < n := by rw [← hq]; exact Nat.mod_lt _ g3
        have hqm : (k : Int).tmod (n : Int) = (q : Int) := by rw [tmod_nat, hq]
        obtain ⟨b2, o2, z, rfl, hb2, hc2⟩ := H2.out k g1
        have hc2' : wr.cell? ⟨b2, o2 + k, none⟩ = some (.int .i64 z) := (hb.cell (p := ⟨b2, o2 + k, none⟩) hb2).trans hc2
        obtain ⟨x, hx1, hx2⟩ := idxN z n (by omega) (by omega)
        have hxn : x < n := by omega
        have hnw : IntKind.u64.wrap (n : Int) = (n : Int) := by rw [IntKind.wrap_u64]; omega
        have hn0 : ¬ (n : Int) = 0 := by omega
        obtain ⟨g, cs, rfl, hgb, hbl, hcs, hcc⟩ := hm.2.resolve_left (by intro e; rw [e] at hll; simp at hll; omega)
        have d1 : wr.cell? ⟨g, q, none⟩ = some (.string (tx (l2[q]'(by omega)))) := by rw [hbl.cell]; exact hcc q (by omega)
        have d2 : wr.cell? ⟨g, x, none⟩ = some (.string (tx (l2[x]'(by omega)))) := by rw [hbl.cell]; exact hcc x (by omega)
        have f1 := hbl.frozen q
        have f2 := hbl.frozen x
        have f3 := (hbl.set q (.string (tx (l2[x]'(by omega))))).frozen x
        obtain ⟨V, hV⟩ := cell?_setCell_some (p := ⟨g, q, none⟩) (x := .string (tx (l2[x]'(by omega)))) d2
        have HN : Hid (∃ l3, l3.Perm l ∧ StrM w.heap.size ((wr.setCell ⟨g, q, none⟩ (.string (tx (l2[x]'(by omega))))).setCell ⟨g, x, none⟩ (.string (tx (l2[q]'(by omega))))).drew (some ⟨g, 0, none⟩) n l3 ∧ Below w.heap.size w ((wr.setCell ⟨g, q, none⟩ (.string (tx (l2[x]'(by omega))))).setCell ⟨g, x, none⟩ (.string (tx (l2[q]'(by omega))))).drew) := Lib.hid ⟨_, (swapL_perm l2 q x (by omega) (by omega)).trans hp, strm_drew (hm.swap (by omega) (by omega)), ((hb.setCell hgb _).setCell hgb _).drew⟩
        generalize l2[q]'(by omega) = X at *
        generalize l2[x]'(by omega) = Y at *
        clear hh hp hm hb hll hbl hcs hcc hq hc2 hb2
        go_wp2_with fail
        simp only [hx1]
        go_region
        all_goals (go_wp2_with fail; go_roundw)
        all_goals first
          | exact ⟨k + 1, by omega, by omega, by go_num, HN⟩
          | (simp [intOf]; omega)
      · have hcase : k = n2 ∨ (k < n2 ∧ k = 30) ∨ (k < n2 ∧ k < 30 ∧ n = 0) := by omega
        clear hgo
        go_upto_region 5 with fail
        go_cut [30] from 18 to 62 (fun v wx => v = .bool false ∧ wr = wx)
        case first =>
          rcases hcase with rfl | ⟨q1, rfl⟩ | ⟨q1, q2, rfl⟩
          all_goals
            go_wp2_with fail
            go_meet
            exact ⟨rfl, rfl⟩
        case rest =>
        obtain ⟨rfl, rfl⟩ := hcut
        clear hcase hk2 hk30
        obtain ⟨l2, hp, hm, hb⟩ := hh.out
        have HP := Lib.hid hp
        have HM2 := Lib.hid hm
        have HB := Lib.hid hb
        have HL2 : Hid (∀ x ∈ l2, x.length ≤ 1000) := Lib.hid fun x h => HX.out x (hp.mem_iff.1 h)
        obtain ⟨F, hF⟩ : ∃ F, sortV l = F := ⟨_, rfl⟩
        have HFF := Lib.hid hF
        have HF2 : Hid (sortV l2 = F) := Lib.hid (by rw [sortV_of_perm _ _ hp]; exact hF)
        have HFL : Hid (F.length = n) := Lib.hid (by rw [← hF, sortV_len]; exact HR.out.1.symm)
        clear hh hp hm hb hF
        generalize wr = wa at *
        by_cases h0 : n = 0
        · subst h0
          go_wp2_with fail
          refine (Sort_c A 0 c l _ ((HR.out.below HB.out).mono HB.out.size) (by omega) HX.out F HFF.out).mono ?_
          rintro e w6 ⟨gs, rfl, s6, b6⟩
          have B6 := Lib.hid (HB.out.trans (b6.out.mono HB.out.size))
          have M6 := Lib.hid (HM2.out.below b6.out)
          clear b6
          go_wp2_with fail
          refine (Greatest_none A5 c5 _).mono ?_
          rintro e w7 ⟨rfl, rfl⟩
          go_wp2_with fail
          refine (awake6_c _).mono ?_
          rintro e w8 ⟨rfl, b8⟩
          have B8 := Lib.hid (B6.out.trans (b8.out.mono B6.out.size))
          have M8 := Lib.hid (M6.out.below b8.out)
          have s8 := Lib.hid ((s6.out.below b8.out).mono b8.out.size)
          clear b8 M6 B6 s6
          go_wp2_with fail
          refine (Sort_c A5 0 c5 l2 _ M8.out.r (by omega) HL2.out F HF2.out).mono ?_
          rintro e w9 ⟨g9, rfl, t9, b9⟩
          have B9 := Lib.hid (B8.out.trans (b9.out.mono B8.out.size))
          have s9 := Lib.hid ((s8.out.below b9.out).mono b9.out.size)
          clear b9 M8 B8 s8
          go_wp2_with fail
          refine (SPlain_c (some ⟨g9, 0, none⟩) (some ⟨gs, 0, none⟩) 0 0 0 0 F F _ _ _ t9.out (Nat.le_refl _) s9.out (Nat.le_refl _) (by omega) (by omega) true (by simp)).mono ?_
          rintro e wz ⟨rfl, bz⟩
          have BZ := Lib.hid (B9.out.trans (bz.out.mono B9.out.size))
          clear bz B9 s9 t9
          go_wp2_with fail
          go_loopw [11] (fun iv wq => iv = .int .i64 1 ∧ wz = wq) (fun iv _ => 0)
          case atStart => exact ⟨rfl, rfl⟩
          case round =>
            obtain ⟨rfl, rfl⟩ := hrel
            go_wp2_with fail
            go_ret
            exact ⟨rfl, BZ.out⟩
        · have hpos : 0 < n := by omega
          obtain ⟨y, rr, hyr⟩ : ∃ y rr, l2 = y :: rr := by
            cases l2 with
            | nil => have := HM2.out.1; simp at this; omega
            | cons y rr => exact ⟨y, rr, rfl⟩
          subst hyr
          obtain ⟨G, hG⟩ : ∃ G, greatV y rr = G := ⟨_, rfl⟩
          have HG := Lib.hid hG
          clear hG
          have hne0 : ((n : Int) == 0) = false := by rw [beq_eq_false_iff_ne]; omega
          go_wp2_with fail
          refine (Sort_c A n c l _ ((HR.out.below HB.out).mono HB.out.size) (by omega) HX.out F HFF.out).mono ?_
          rintro e w6 ⟨gs, rfl, s6, b6⟩
          have B6 := Lib.hid (HB.out.trans (b6.out.mono HB.out.size))
          have M6 := Lib.hid (HM2.out.below b6.out)
          clear b6
          go_wp2_with fail
          refine (Greatest_c A5 n c5 y rr _ M6.out.r (by omega) HL2.out G HG.out).mono ?_
          rintro e w7 ⟨rfl, b7⟩
          have B7 := Lib.hid (B6.out.trans (b7.out.mono B6.out.size))
          have M7 := Lib.hid (M6.out.below b7.out)
          have s7 := Lib.hid ((s6.out.below b7.out).mono b7.out.size)
          clear b7 M6 B6 s6
          go_wp2_with fail
          refine (awake6_c _).mono ?_
          rintro e w8 ⟨rfl, b8⟩
          have B8 := Lib.hid (B7.out.trans (b8.out.mono B7.out.size))
          have M8 := Lib.hid (M7.out.below b8.out)
          have s8 := Lib.hid ((s7.out.below b8.out).mono b8.out.size)
          clear b8 M7 B7 s7
          go_wp2_with fail
          refine (Sort_c A5 n c5 (y :: rr) _ M8.out.r (by omega) HL2.out F HF2.out).mono ?_
          rintro e w9 ⟨g9, rfl, t9, b9⟩
          have B9 := Lib.hid (B8.out.trans (b9.out.mono B8.out.size))
          have s9 := Lib.hid ((s8.out.below b9.out).mono b9.out.size)
          clear b9 M8 B8 s8
          go_wp2_with fail
          refine (SPlain_c (some ⟨g9, 0, none⟩) (some ⟨gs, 0, none⟩) n n n n F F _ _ _ t9.out (Nat.le_refl _) s9.out (Nat.le_refl _) (by omega) (by omega) true (by simp)).mono ?_
          rintro e wz ⟨rfl, bz⟩
          have BZ := Lib.hid (B9.out.trans (bz.out.mono B9.out.size))
          have sz := Lib.hid ((s9.out.below bz.out).mono bz.out.size)
          clear bz B9 s9 t9
          go_wp2_with fail
          go_loopw [11] (fun iv wq => ∃ (j : Nat) (z : Int), j + 1 ≤ n ∧ iv = .int .i64 z ∧ z = ((j + 1 : Nat) : Int) ∧ Hid (Below w.heap.size w wq ∧ StrR wq.heap.size wq (some ⟨gs, 0, none⟩) n F)) (fun iv _ => n - (intOf iv).toNat)
          case atStart => exact ⟨0, _, by omega, rfl, rfl, Lib.hid ⟨BZ.out, sz.out⟩⟩
          case round =>
            obtain ⟨j, z, hj, rfl, hz, hq⟩ := hrel
            have hsb := hq.out.2
            by_cases hjn : j + 1 = n
            · obtain ⟨g', o', hA, _, hc⟩ := hsb.2 j (by have := HFL.out; omega)
              injection hA with hA
              injection hA with hA1 hA2
              subst hA1 hA2
              have hlast : F[j]'(by have := HFL.out; omega) = G := by
                have e1 := last_at l y rr HP.out j (by rw [HFF.out]; have := HFL.out; omega)
                rw [← HG.out, ← e1]
                simp only [HFF.out]
              rw [hlast, Nat.zero_add] at hc
              subst hz
              subst hjn
              have HB2 := Lib.hid hq.out.1
              clear hq hsb hlast
              go_wp2_with fail
              go_ret
              exact ⟨rfl, HB2.out⟩
            · have hjl : j + 1 < F.length := by have := HFL.out; omega
              obtain ⟨g', o', hA, _, hc⟩ := hsb.2 j (by omega)
              obtain ⟨g2', o2', hA', _, hc'⟩ := hsb.2 (j + 1) hjl
              injection hA with hA
              injection hA with hA1 hA2
              subst hA1 hA2
              injection hA' with hA'
              injection hA' with hA1 hA2
              subst hA1 hA2
              have hle : cmpV (F[j]'(by omega)) (F[j + 1]'hjl) ≤ 0 := by
                have e1 := sorted_at l j (by rw [HFF.out]; exact hjl)
                simp only [HFF.out] at e1
                exact e1
              have hsz : ∀ x ∈ F, (tx x).size ≤ 1000 := fun x h => by
                rw [tx_size]
                refine HX.out x ?_
                rw [← HFF.out] at h
                exact (sortV_perm l).mem_iff.1 h
              have z1 := hsz _ (List.getElem_mem (show j < F.length by omega))
              have z2 := hsz _ (List.getElem_mem hjl)
              generalize F[j]'(by omega) = P at hc hle z1
              generalize F[j + 1]'hjl = Q at hc' hle z2
              rw [Nat.zero_add] at hc hc'
              obtain ⟨q, hqe⟩ : ∃ q, cmpV (bs (tx P)) (bs (tx Q)) = q := ⟨_, rfl⟩
              have hq0 : ¬ 0 < q := by rw [← hqe, bs_tx, bs_tx]; omega
              have HC := Lib.hid hqe
              have Z := Lib.hid (And.intro z1 z2)
              have HQ := Lib.hid hq.out
              have i1 : j < n := by omega
              have i2 : j + 1 < n := by omega
              have i3 : z < (n : Int) := by omega
              have i4 : 0 ≤ z := by omega
              have i5 : z.toNat = j + 1 := by omega
              have hw1 : IntKind.i64.wrap (z - 1) = (j : Int) := wrap_i64n hz (by omega)
              have hw2 : wrap64 (z + 1) = ((j + 1 + 1 : Nat) : Int) := by subst hz; unfold wrap64; omega
              have HZT := Lib.hid hz
              clear hqe hle hsz z1 z2 hq hsb hjl hjn hz
              go_upto_region 16 with fail
              go_cut [109] from 93 to 109 (fun v wx => v = .bool false ∧ Hid (Below wr.heap.size wr wx))
              case first =>
                refine wp_region_any (by kernel_rfl) ?_
                change wpAny _ _ _ _ _ _ _ (World.drew _)
                refine wpAny_take (i := 0) (v := .slice (some ⟨gs, 0, none⟩) n n) rfl (by kernel_rfl) (by kernel_rfl) (by kernel_rfl) (fun _ _ _ h => h) (Or.inl ⟨by rfl, fun W => by go_simp⟩) ?_
                simp only [Act.put, List.getElem_toArray, List.getElem_cons_zero, List.getElem_cons_succ, List.setIfInBounds_toArray, List.set_cons_zero, List.set_cons_succ]
                refine wpAny_take (i := 1) (v := .int .i64 z) rfl (by kernel_rfl) (by kernel_rfl) (by kernel_rfl) (fun _ _ _ h => h) (Or.inl ⟨by rfl, fun W => by go_simp⟩) ?_
                simp only [Act.put, List.getElem_toArray, List.getElem_cons_zero, List.getElem_cons_succ, List.setIfInBounds_toArray, List.set_cons_zero, List.set_cons_succ]
                refine wpAny_take (i := 2) (v := .int .i64 (j : Int)) rfl (by kernel_rfl) (by kernel_rfl) (by kernel_rfl) (fun _ _ _ h => h) (Or.inl ⟨by rfl, fun W => by (go_simp; first | done | exact hw1 | (rw [hw1]))⟩) ?_
                simp only [Act.put, List.getElem_toArray, List.getElem_cons_zero, List.getElem_cons_succ, List.setIfInBounds_toArray, List.set_cons_zero, List.set_cons_succ]
                refine wpAny_take (i := 3) (v := .pointer (some ⟨gs, j, none⟩)) rfl (by kernel_rfl) (by kernel_rfl) (by kernel_rfl) (fun _ _ _ h => h) (Or.inl ⟨by rfl, fun W => by go_simp⟩) ?_
                simp only [Act.put, List.getElem_toArray, List.getElem_cons_zero, List.getElem_cons_succ, List.setIfInBounds_toArray, List.set_cons_zero, List.set_cons_succ]
                refine wpAny_take (i := 5) (v := .slice (some ⟨gs, 0, none⟩) n n) rfl (by kernel_rfl) (by kernel_rfl) (by kernel_rfl) (fun _ _ _ h => h) (Or.inl ⟨by rfl, fun W => by go_simp⟩) ?_
                simp only [Act.put, List.getElem_toArray, List.getElem_cons_zero, List.getElem_cons_succ, List.setIfInBounds_toArray, List.set_cons_zero, List.set_cons_succ]
                refine wpAny_take (i := 6) (v := .int .i64 z) rfl (by kernel_rfl) (by kernel_rfl) (by kernel_rfl) (fun _ _ _ h => h) (Or.inl ⟨by rfl, fun W => by go_simp⟩) ?_
                simp only [Act.put, List.getElem_toArray, List.getElem_cons_zero, List.getElem_cons_succ, List.setIfInBounds_toArray, List.set_cons_zero, List.set_cons_succ]
                refine wpAny_take (i := 7) (v := .pointer (some ⟨gs, j + 1, none⟩)) rfl (by kernel_rfl) (by kernel_rfl) (by kernel_rfl) (fun _ _ _ h => h) (Or.inl ⟨by rfl, fun W => by go_simp⟩) ?_
                simp only [Act.put, List.getElem_toArray, List.getElem_cons_zero, List.getElem_cons_succ, List.setIfInBounds_toArray, List.set_cons_zero, List.set_cons_succ]
                refine wpAny_ready (rs := [4, 8]) (by kernel_rfl) (by simp) ?_
                refine AllReady.cons rfl (fun K hK => ?_) (AllReady.cons rfl (fun K hK => ?_) AllReady.nil)
                · go_simp
                  refine hK _ _ ?_
                  clear hK K
                  refine wpAny_ready (rs := [8]) (by kernel_rfl) (by simp) ?_
                  refine AllReady.cons rfl (fun K hK => ?_) AllReady.nil
                  go_simp
                  refine hK _ _ ?_
                  clear hK K
                  refine wpAny_ready (rs := [9]) (by kernel_rfl) (by simp) ?_
                  refine AllReady.cons rfl (fun K hK => ?_) AllReady.nil
                  go_simp
                  go_wp2_with (go_at_call 10; refine (Compare_c (tx P) (tx Q) _ Z.out.1 Z.out.2 q HC.out).mono ?_; rintro e w2 ⟨rfl, b2⟩)
                  refine wpAny_take (i := 10) (v := .bool false) rfl (by kernel_rfl) (by kernel_rfl) (by kernel_rfl) (fun _ _ _ h => h) (Or.inl ⟨by rfl, fun W => by go_simp⟩) ?_
                  simp only [Act.put, List.getElem_toArray, List.getElem_cons_zero, List.getElem_cons_succ, List.setIfInBounds_toArray, List.set_cons_zero, List.set_cons_succ]
                  refine wpAny_done (by kernel_rfl) ?_ _
                  go_wp2_with fail
                  go_meet
                  exact ⟨rfl, Lib.hid (below_d b2.out)⟩
                · go_simp
                  refine hK _ _ ?_
                  clear hK K
                  refine wpAny_ready (rs := [4]) (by kernel_rfl) (by simp) ?_
                  refine AllReady.cons rfl (fun K hK => ?_) AllReady.nil
                  go_simp
                  refine hK _ _ ?_
                  clear hK K
                  refine wpAny_ready (rs := [9]) (by kernel_rfl) (by simp) ?_
                  refine AllReady.cons rfl (fun K hK => ?_) AllReady.nil
                  go_simp
                  go_wp2_with (go_at_call 10; refine (Compare_c (tx P) (tx Q) _ Z.out.1 Z.out.2 q HC.out).mono ?_; rintro e w2 ⟨rfl, b2⟩)
                  refine wpAny_take (i := 10) (v := .bool false) rfl (by kernel_rfl) (by kernel_rfl) (by kernel_rfl) (fun _ _ _ h => h) (Or.inl ⟨by rfl, fun W => by go_simp⟩) ?_
                  simp only [Act.put, List.getElem_toArray, List.getElem_cons_zero, List.getElem_cons_succ, List.setIfInBounds_toArray, List.set_cons_zero, List.set_cons_succ]
                  refine wpAny_done (by kernel_rfl) ?_ _
                  go_wp2_with fail
                  go_meet
                  exact ⟨rfl, Lib.hid (below_d b2.out)⟩
              case rest =>
              obtain ⟨rfl, bq⟩ := hcut
              have HN2 : Hid (Below w.heap.size w wc ∧ StrR wc.heap.size wc (some ⟨gs, 0, none⟩) n F) := Lib.hid ⟨HQ.out.1.trans (bq.out.mono HQ.out.1.size), (HQ.out.2.below bq.out).mono bq.out.size⟩
              clear bq HQ hc hc' hw1
              go_wp2_with fail
              go_roundw
              case rel => exact ⟨j + 1, _, by omega, rfl, by have := HZT.out; omega, HN2⟩
              case measure =>
                have := HZT.out
                simp [intOf]
                omega
end Go.Proofs.YtjmjklmndokdiaaDoor
