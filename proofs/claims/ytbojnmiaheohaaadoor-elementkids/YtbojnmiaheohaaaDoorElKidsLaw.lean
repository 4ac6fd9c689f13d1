/-
  ElementKids (layer 3): what is so of each tree.
-/
import Derived.Test.YtbojnmiaheohaaaDoorElAwake
namespace Nwl
/-- each node but the first stands behind its parent, which is an element -/
structure TreeOk (ns : List Nd) : Prop where
  root : ∀ h : 0 < ns.length, ns[0].parent = -1
  kid : ∀ (i : Nat) (h : i < ns.length), 0 < i → 0 ≤ ns[i].parent ∧ ns[i].parent < i ∧ nameAt ns (ns[i].parent).toNat ≠ []
/-- .. of a tree under way, whose open ones are elements -/
structure Gst.Fit (g : Gst) : Prop where
  ok : g.Ok
  tree : TreeOk g.pre
  named : ∀ p ∈ g.opn, nameAt g.pre p ≠ []
  first : g.pre = [] → g.opn = []
theorem nameAt_left (a b : List Nd) (i : Nat) (h : i < a.length) : nameAt (a ++ b) i = nameAt a i := by
  unfold nameAt; rw [List.getElem?_append_left h]
theorem treeOk_snoc {ns : List Nd} {n : Nd} (h : TreeOk ns) (h0 : ns = [] → n.parent = -1) (h1 : ns ≠ [] → 0 ≤ n.parent ∧ n.parent < ns.length ∧ nameAt ns n.parent.toNat ≠ []) : TreeOk (ns ++ [n]) := by
  constructor
  · intro hl
    cases ns with
    | nil => exact h0 rfl
    | cons a r => exact h.root (by simp)
  · intro i hi hp
    by_cases e : i < ns.length
    · obtain ⟨k1, k2, k3⟩ := h.kid i e hp
      have : (ns ++ [n])[i] = ns[i] := List.getElem_append_left e
      rw [this]
      refine ⟨k1, k2, ?_⟩
      rw [nameAt_left _ _ _ (by omega)]
      exact k3
    · have hi' : i = ns.length := by simp at hi; omega
      subst hi'
      have : (ns ++ [n])[ns.length] = n := by simp
      rw [this]
      have hne : ns ≠ [] := fun e => by subst e; simp at hp
      obtain ⟨k1, k2, k3⟩ := h1 hne
      refine ⟨k1, k2, ?_⟩
      rw [nameAt_left _ _ _ (by omega)]
      exact k3
theorem inner_in {g : Gst} (h : g.Fit) (ho : g.opn ≠ []) : 0 ≤ innerL g.opn ∧ innerL g.opn < g.pre.length ∧ nameAt g.pre (innerL g.opn).toNat ≠ [] := by
  rw [innerL_ne ho]
  have hm : g.opn[g.opn.length - 1]'(by have := List.length_pos_iff.2 ho; omega) ∈ g.opn := List.getElem_mem _
  refine ⟨by omega, ?_, ?_⟩
  · have := h.ok.below _ hm
    omega
  · exact h.named _ hm
theorem settled_fit {g : Gst} (h : g.Fit) : TreeOk g.settled ∧ ∀ p, p < g.pre.length → nameAt g.settled p = nameAt g.pre p := by
  unfold Gst.settled
  split
  · exact ⟨h.tree, fun _ _ => rfl⟩
  · rename_i hr
    have ho : g.opn ≠ [] := fun e => hr (h.ok.out e)
    refine ⟨treeOk_snoc h.tree (fun e => absurd (h.first e) ho) (fun _ => inner_in h ho), fun p hp => nameAt_left _ _ _ hp⟩
theorem grow_fit {g g' : Gst} {t : Tki} (h : g.Fit) (e : growG g t = .ok g') : g'.Fit := by
  have hok := growG_ok h.ok e
  obtain ⟨hs, hn⟩ := settled_fit h
  have hge := settled_ge g
  have hlen := g.len
  unfold growG at e
  split at e
  · injection e with e; subst e; exact h
  · split at e
    · unfold openG at e
      split at e
      · cases e
      · rename_i hname
        split at e
        · cases e
        · rename_i htwo
          split at e
          · cases e
          · split at e
            · cases e
            · injection e with e
              subst e
              have hT : TreeOk (g.settled ++ [⟨innerL g.opn, t.name, [], t.attrs⟩]) := by
                refine treeOk_snoc hs (fun e => ?_) (fun hne => ?_)
                · have hp : g.pre = [] := List.eq_nil_of_length_eq_zero (by rw [e] at hge; simpa using hge)
                  show innerL g.opn = -1
                  rw [h.first hp]; rfl
                · have ho : g.opn ≠ [] := fun e => htwo ⟨e, by rw [← hlen]; exact List.length_pos_iff.2 hne⟩
                  obtain ⟨k1, k2, k3⟩ := inner_in h ho
                  refine ⟨k1, by show innerL g.opn < _; omega, ?_⟩
                  show nameAt g.settled (innerL g.opn).toNat ≠ []
                  rw [hn _ (by omega)]
                  exact k3
              have hold : ∀ p ∈ g.opn, nameAt (g.settled ++ [(⟨innerL g.opn, t.name, [], t.attrs⟩ : Nd)]) p ≠ [] := by
                intro p hp
                have := h.ok.below p hp
                rw [nameAt_left _ _ _ (by omega), hn _ this]
                exact h.named p hp
              refine ⟨hok, hT, ?_, fun e => by simp at e⟩
              intro p hp
              simp only at hp
              split at hp
              · exact hold p hp
              · rw [List.mem_append] at hp
                rcases hp with hp | hp
                · exact hold p hp
                · rw [List.mem_singleton] at hp
                  subst hp
                  show nameAt (g.settled ++ _) g.mem.length ≠ []
                  rw [← hlen]
                  unfold nameAt
                  simp [hname]
    · split at e
      · unfold closeG at e
        split at e
        · cases e
        · split at e
          · injection e with e
            subst e
            refine ⟨hok, hs, fun p hp => ?_, fun e => ?_⟩
            · have hp' := List.dropLast_subset _ hp
              have := h.ok.below p hp'
              show nameAt g.settled p ≠ []
              rw [hn _ this]
              exact h.named p hp'
            · have hp : g.pre = [] := List.eq_nil_of_length_eq_zero (by have e' : g.settled = [] := e; rw [e'] at hge; simpa using hge)
              show g.opn.dropLast = []
              rw [h.first hp]; rfl
          · cases e
      · split at e
        · unfold textG at e
          split at e
          · split at e
            · injection e with e; subst e; exact h
            · cases e
          · split at e
            · injection e with e; subst e; exact h
            · split at e
              · split at e
                · cases e
                · injection e with e; subst e
                  exact ⟨hok, h.tree, h.named, h.first⟩
              · injection e with e; subst e
                exact ⟨hok, h.tree, h.named, h.first⟩
        · cases e
theorem none_fit : Gst.none.Fit := ⟨Gst.none_ok, ⟨fun h => by simp [Gst.none] at h, fun i h => by simp [Gst.none] at h⟩, fun p hp => by simp [Gst.none] at hp, fun _ => rfl⟩
theorem treeG_fit : ∀ (ts : List Tki) (g : Gst) (ns : List Nd), g.Fit → treeG g ts = .ok ns → TreeOk ns ∧ ns ≠ []
  | [], g, ns, h, e => by
    simp only [treeG, endG] at e
    split at e
    · cases e
    · rename_i hn
      injection e with e
      subst e
      have ho : g.opn = [] := Classical.byContradiction fun e => hn (.inr e)
      have hr := h.ok.out ho
      have hm : g.mem = g.pre := by unfold Gst.mem; rw [if_pos hr]
      rw [hm]
      refine ⟨h.tree, fun e => hn (.inl (by rw [hm, e]))⟩
  | t :: ts, g, ns, h, e => by
    simp only [treeG] at e
    split at e
    · cases e
    · rename_i g' hx
      exact treeG_fit ts g' ns (grow_fit h hx) e
theorem parse_fit {l : List UInt8} {ns : List Nd} (h : parseX l = .ok ns) : TreeOk ns ∧ ns ≠ [] := by
  unfold parseX at h
  split at h
  · exact treeG_fit _ _ _ none_fit h
  · cases h
theorem filter_step (f : Nat → Int) (i : Int) (h : 0 ≤ i) : ∀ l : List Nat, (l.filter fun j => decide (0 ≤ f j ∧ f j < i + 1)).length = (l.filter fun j => decide (0 ≤ f j ∧ f j < i)).length + (l.filter fun j => f j == i).length
  | [] => rfl
  | a :: r => by
    have ih := filter_step f i h r
    simp only [List.filter_cons]
    by_cases h1 : f a = i
    · have e1 : decide (0 ≤ f a ∧ f a < i + 1) = true := by simp; omega
      have e2 : decide (0 ≤ f a ∧ f a < i) = false := by simp; omega
      have e3 : (f a == i) = true := by simp [h1]
      rw [e1, e2, e3]
      simp only [if_true, Bool.false_eq_true, if_false, List.length_cons]
      omega
    · have e3 : (f a == i) = false := by simp [h1]
      by_cases h2 : 0 ≤ f a ∧ f a < i
      · have e1 : decide (0 ≤ f a ∧ f a < i + 1) = true := by simp; omega
        have e2 : decide (0 ≤ f a ∧ f a < i) = true := by simp; omega
        rw [e1, e2, e3]
        simp only [if_true, Bool.false_eq_true, if_false, List.length_cons]
        omega
      · have e1 : decide (0 ≤ f a ∧ f a < i + 1) = false := by simp; omega
        have e2 : decide (0 ≤ f a ∧ f a < i) = false := by simp; omega
        rw [e1, e2, e3]
        simp only [Bool.false_eq_true, if_false]
        omega
/-- how many stand under the first i -/
def cntK (ns : List Nd) (i : Nat) : Nat := ((List.range ns.length).filter fun j => decide (0 ≤ parentAt ns j ∧ parentAt ns j < i)).length
theorem cntK_zero (ns : List Nd) : cntK ns 0 = 0 := by
  unfold cntK
  rw [List.length_eq_zero_iff, List.filter_eq_nil_iff]
  intro a _
  simp
theorem cntK_succ (ns : List Nd) (i : Nat) (h : i < ns.length) : cntK ns (i + 1) = cntK ns i + (kidsL ns i).length := by
  rw [kidsL_in (by omega)]
  unfold cntK kidsTo
  have := filter_step (parentAt ns) i (by omega) (List.range ns.length)
  rw [← this]
  rfl
theorem cntK_le (ns : List Nd) (i : Nat) : cntK ns i ≤ ns.length := by
  unfold cntK
  have := List.length_filter_le (fun j => decide (0 ≤ parentAt ns j ∧ parentAt ns j < i)) (List.range ns.length)
  simpa using this
theorem cntK_all {ns : List Nd} (h : TreeOk ns) (hn : ns ≠ []) : cntK ns ns.length + 1 = ns.length := by
  have hp : 0 < ns.length := List.length_pos_iff.2 hn
  have key : ∀ k, k ≤ ns.length → ((List.range k).filter fun j => decide (0 ≤ parentAt ns j ∧ parentAt ns j < ns.length)).length = k - 1 := by
    intro k
    induction k with
    | zero => intro _; rfl
    | succ k ih =>
      intro hk
      rw [List.range_succ, List.filter_append, List.length_append, ih (by omega)]
      cases k with
      | zero =>
        have : decide (0 ≤ parentAt ns 0 ∧ parentAt ns 0 < ns.length) = false := by
          rw [parentAt_eq ns 0 hp, h.root hp]; simp
        simp only [List.filter_cons, this]
        rfl
      | succ k =>
        obtain ⟨k1, k2, _⟩ := h.kid (k + 1) (by omega) (by omega)
        have : decide (0 ≤ parentAt ns (k + 1) ∧ parentAt ns (k + 1) < ns.length) = true := by
          rw [parentAt_eq ns (k + 1) (by omega)]
          simp
          omega
        simp only [List.filter_cons, this]
        simp
  have := key ns.length (Nat.le_refl _)
  unfold cntK
  omega
/-- each kid: where it stands -/
theorem kid_of {ns : List Nd} (h : TreeOk ns) {i : Nat} (hi : i < ns.length) {j : Nat} (hj : j < (kidsL ns i).length) : ∃ hk : (kidsL ns i)[j] < ns.length, i < (kidsL ns i)[j] ∧ ns[(kidsL ns i)[j]].parent = i ∧ nameAt ns i ≠ [] := by
  have hm : (kidsL ns i)[j] ∈ kidsL ns i := List.getElem_mem hj
  have hlt := kidsL_lt hm
  refine ⟨hlt, ?_⟩
  generalize (kidsL ns i)[j] = K at hm hlt
  rw [kidsL_in (by omega)] at hm
  unfold kidsTo at hm
  rw [List.mem_filter] at hm
  have hp : parentAt ns K = i := by simpa using hm.2
  rw [parentAt_eq ns K hlt] at hp
  have hK : 0 < K := by
    rcases Nat.eq_zero_or_pos K with e | e
    · subst e
      rw [h.root hlt] at hp
      omega
    · exact e
  obtain ⟨k1, k2, k3⟩ := h.kid K hlt hK
  rw [hp] at k2 k3
  exact ⟨by omega, hp, by simpa using k3⟩
theorem kids_rise {ns : List Nd} {i : Int} {j : Nat} (hj : j + 1 < (kidsL ns i).length) : (kidsL ns i)[j]'(by omega) < (kidsL ns i)[j + 1] := by
  have hp : (kidsL ns i).Pairwise (· < ·) := by
    unfold kidsL
    split
    · exact List.Pairwise.filter _ List.pairwise_lt_range
    · exact List.Pairwise.nil
  exact List.pairwise_iff_getElem.1 hp j (j + 1) (by omega) hj (by omega)
theorem inner_none (ns : List Nd) : innerT ns (-1) = [] := by unfold innerT; rw [kidsL_out (by omega)]; rfl
theorem parse_few {l : List UInt8} {ns : List Nd} (h : parseX l = .ok ns) : ns.length ≤ 2000 := by
  have key : ∀ (ts : List Tki) (g : Gst), g.Ok → treeG g ts = .ok ns → ns.length ≤ 2000 := by
    intro ts
    induction ts with
    | nil =>
      intro g hg e
      simp only [treeG, endG] at e
      split at e
      · cases e
      · injection e with e; subst e; exact hg.few
    | cons t ts ih =>
      intro g hg e
      simp only [treeG] at e
      split at e
      · cases e
      · rename_i g' hx
        exact ih g' (growG_ok hg hx) e
  unfold parseX at h
  split at h
  · exact key _ _ Gst.none_ok h
  · cases h
theorem parse_errne {l : List UInt8} {n : Int} (h : parseX l = .error n) : n ≠ 0 := by
  have key : ∀ (ts : List Tki) (g : Gst), treeG g ts = .error n → n ≠ 0 := by
    intro ts
    induction ts with
    | nil =>
      intro g e
      simp only [treeG, endG] at e
      split at e
      · injection e with e; omega
      · cases e
    | cons t ts ih =>
      intro g e
      simp only [treeG] at e
      split at e
      · rename_i m hx
        injection e with e
        subst e
        exact growG_err hx
      · rename_i g' hx
        exact ih g' e
  unfold parseX at h
  split at h
  · exact key _ _ h
  · rename_i hne
    injection h with h
    subst h
    exact hne
end Nwl
namespace Go.Proofs.YtbojnmiaheohaaaDoor
open Nwl
open Go.RowKit Go.Maps
set_option linter.unusedVariables false

set_option maxRecDepth 100000 in
set_option maxHeartbeats 1000000 in
theorem ElementKids_walk (s : ByteArray) (w : World) (hs : s.size ≤ maxLen) (hg : Glob w) :
    Calls Tryd.prog 5 #[.string s] w fun e w' => e = .returned (.bool true) ∧ Below w.heap.size w w' := by
  have HG := Lib.hid hg
  have hs2 := hs
  unfold maxLen at hs2
  clear hg
  by_cases hbig : 2000 < s.size
  · go_enter Tryd.func5, Tryd.ntmps5
    go_wp2_with fail
    refine (awake3_c _ HG.out).mono ?_
    rintro e w1 ⟨rfl, hb1⟩
    go_wp2_with fail
    go_ret
    exact ⟨rfl, hb1⟩
  · cases hx : parseX (bs s) with
    | error m =>
      have hm0 : (m == 0) = false := by rw [beq_eq_false_iff_ne]; exact parse_errne hx
      have HX := Lib.hid hx
      clear hx
      go_enter Tryd.func5, Tryd.ntmps5
      go_wp2_with fail
      refine (Parse_c s w hs HG.out).mono ?_
      rw [HX.out]
      rintro e w1 ⟨A1, c1, rfl, hn1, hb1⟩
      simp only [errOf]
      have HB1 := Lib.hid hb1
      clear hn1 hb1
      go_wp2_with fail
      refine (awake3_c _ (HG.out.below HB1.out)).mono ?_
      rintro e w2 ⟨rfl, hb2⟩
      go_wp2_with fail
      go_ret
      exact ⟨rfl, HB1.out.trans (hb2.mono HB1.out.size)⟩
    | ok ns =>
      obtain ⟨htree, hne⟩ := parse_fit hx
      have hfew := parse_few hx
      have HX := Lib.hid hx
      have HT := Lib.hid htree
      have hcall := cntK_all htree hne
      have HC := Lib.hid hcall
      have HNE := Lib.hid hne
      clear hx htree hne hcall
      go_enter Tryd.func5, Tryd.ntmps5
      go_wp2_with fail
      refine (Parse_c s w hs HG.out).mono ?_
      rw [HX.out]
      rintro e w1 ⟨A1, c1, rfl, hn1, hb1⟩
      simp only [errOf, nodesOf] at hn1 ⊢
      have HB1 := Lib.hid hb1
      have HR := Lib.hid (NodesR.of hn1)
      clear hn1 hb1
      obtain ⟨N, hN⟩ : ∃ N, N = ns.length := ⟨_, rfl⟩
      rw [← hN] at hfew HR ⊢
      have HN := Lib.hid hN
      clear hN
      go_wp2_with fail
      go_loopw [5, 6] (fun cv iv wr => ∃ q : Nat, q ≤ N ∧ cv = .int .i64 (cntK ns q) ∧ iv = .int .i64 q ∧ Hid (Below w1.heap.size w1 wr)) (fun _ iv _ => N - (intOf iv).toNat)
      case atStart => exact ⟨0, Nat.zero_le _, by rw [cntK_zero]; rfl, rfl, Below.refl _ _⟩
      case round =>
        obtain ⟨q, hq, rfl, rfl, hh⟩ := hrel
        have HB := hh
        clear hh
        have hs1 := HB1.out.size
        have hs2' := HB.out.size
        have hcn := cntK_le ns q
        rw [← HN.out] at hcn
        by_cases hqn : q < N
        · have hql : q < ns.length := by have := HN.out; omega
          have HCS := Lib.hid (cntK_succ ns q hql)
          have hkl := kidsL_len ns q
          rw [← HN.out] at hkl
          go_wp2_with fail
          refine (Kids_c ns A1 N c1 (q : Int) _ ((HR.out.below HB.out).mono hs2') HN.out (by omega)).mono ?_
          rintro e w2 ⟨Ak, ck, rfl, hrow, hb2⟩
          have HB2 : Hid (Below w1.heap.size w1 w2) := Lib.hid (HB.out.trans (hb2.mono hs2'))
          have HRK := Lib.hid (RowR.of hrow (Nat.le_refl _))
          have hw2 := HB2.out.size
          clear hrow hb2
          obtain ⟨ks, hks⟩ : ∃ ks, ks = kidsL ns (q : Int) := ⟨_, rfl⟩
          have HKS := Lib.hid hks
          rw [← hks] at HRK HCS hkl ⊢
          clear hks
          obtain ⟨m, hm⟩ : ∃ m, m = ks.length := ⟨_, rfl⟩
          have HM := Lib.hid hm
          rw [← hm] at HRK HCS hkl ⊢
          clear hm
          obtain ⟨cq, hcq⟩ : ∃ c, c = cntK ns q := ⟨_, rfl⟩
          have HCQ := Lib.hid hcq
          rw [← hcq] at HCS hcn ⊢
          clear hcq
          go_wp2_with fail
          go_loopw [8] (fun jv wr2 => ∃ r : Nat, r ≤ m ∧ jv = .int .i64 r ∧ Hid (Below w2.heap.size w2 wr2)) (fun jv _ => m - (intOf jv).toNat)
          case atStart => exact ⟨0, Nat.zero_le _, rfl, Below.refl _ _⟩
          case round =>
            obtain ⟨r, hr, rfl, hh⟩ := hrel
            have HB3 := hh
            clear hh
            have hs3 := HB3.out.size
            by_cases hrm : r < m
            · have hrk : r < ks.length := by have := HM.out; omega
              have hrk' : r < (kidsL ns (q : Int)).length := by rw [← HKS.out]; exact hrk
              obtain ⟨hk1, hk2, hk3, hk4⟩ := kid_of HT.out hql hrk'
              obtain ⟨bk, ok, ck', hvk, _, hck, hcells⟩ := (HRK.out.below HB3.out).some (by omega)
              injection hvk with hAk _ hcc
              subst hAk
              subst hcc
              obtain ⟨b, o, A2, l2, c2, hA, hra, e0, e1, e2, e3⟩ := (HR.out.below (HB2.out.trans (HB3.out.mono hw2))).at ((kidsL ns (q : Int))[r]) hk1
              subst hA
              rw [hk3] at e0
              obtain ⟨b', o', A3, l3, c3, hA', hra', _, d1, _, _⟩ := (HR.out.below (HB2.out.trans (HB3.out.mono hw2))).at q hql
              injection hA' with hA'
              injection hA' with hb' ho' _
              subst hb' ho'
              have hke : (kidsL ns (q : Int))[r] = ks[r] := by simp only [HKS.out]
              have hk2' : q < ks[r] := by rw [← hke]; exact hk2
              have e0' : wr.cell? ⟨b, o + ks[r] * 4, none⟩ = some (.int .i64 (q : Int)) := by rw [← hke]; exact e0
              have cr : wr.cell? ⟨bk, ok + r, none⟩ = some (.int .i64 ((ks[r] : Nat) : Int)) := hcells r _ (by simp [placesC, hrk])
              have hprev : ∀ r', r = r' + 1 → ∃ K' : Nat, wr.cell? ⟨bk, ok + r', none⟩ = some (.int .i64 (K' : Int)) ∧ K' < ks[r] := by
                intro r' e
                subst e
                refine ⟨ks[r'], hcells r' _ (by simp [placesC, show r' < ks.length by omega]), ?_⟩
                have := kids_rise (ns := ns) (i := (q : Int)) (j := r') hrk'
                simp only [← HKS.out] at this
                exact this
              have hk1N : ks[r] < N := by rw [← hke]; have := HN.out; omega
              rw [nameAt_eq _ _ hql] at hk4
              have he : ¬ (tx (ns[q]).name).toList = [] := toList_ne_of _ (by rw [tx_size]; exact List.length_pos_iff.2 hk4)
              have he2 : (tx (ns[q]).name).toList.isEmpty = false := by simpa using he
              obtain ⟨nm, hnm⟩ : ∃ x, x = tx (ns[q]).name := ⟨_, rfl⟩
              rw [← hnm] at d1 he he2
              obtain ⟨K, hK⟩ : ∃ K, K = ks[r] := ⟨_, rfl⟩
              simp only [← hK] at hk2' e0' cr hprev hk1N
              have HPV := Lib.hid hprev
              clear hprev hK hnm hk4 hke hcells hra hra' e0 e1 e2 e3 hk3 hk2 hk1 hrk'
              by_cases hr0 : r = 0
              · subst hr0
                rw [Nat.add_zero] at cr
                have hb1 : decide (K ≤ q) = false := by rw [decide_eq_false_iff_not]; omega
                have hb2 : decide (N ≤ K) = false := by rw [decide_eq_false_iff_not]; omega
                have ha1 : ¬ K ≤ q := by omega
                have ha2 : ¬ N ≤ K := by omega
                go_wp2_with fail
                go_quiet (fail)
                go_wp2_with fail
                go_roundw
                case rel => exact ⟨0 + 1, by omega, by go_num, bel_drewN HB3.out _⟩
                case measure => simp [intOf]; omega
              · obtain ⟨r', hr'⟩ : ∃ r', r = r' + 1 := ⟨r - 1, by omega⟩
                obtain ⟨K', pc, pk⟩ := HPV.out r' hr'
                have hrp : 0 < r := by omega
                have hrpd : decide (0 < r) = true := by rw [decide_eq_true_iff]; omega
                have hrl' : (r' : Int) < m := by omega
                have hb1 : decide (K ≤ q) = false := by rw [decide_eq_false_iff_not]; omega
                have hb2 : decide (N ≤ K) = false := by rw [decide_eq_false_iff_not]; omega
                have hb3 : decide (K ≤ K') = false := by rw [decide_eq_false_iff_not]; omega
                have ha1 : ¬ K ≤ q := by omega
                have ha2 : ¬ N ≤ K := by omega
                have ha3 : ¬ K ≤ K' := by omega
                have hw1 : IntKind.i64.wrap ((r : Int) - 1) = r' := by rw [wrap64 (by omega) (by omega)]; omega
                have HR' := Lib.hid hr'
                clear hr' hr0
                go_wp2_with fail
                go_quiet (fail)
                go_wp2_with fail
                go_roundw
                case rel => exact ⟨r + 1, by omega, by go_num, bel_drewN HB3.out _⟩
                case measure => simp [intOf]; omega
            · obtain rfl : r = m := by omega
              go_wp2_with fail
              refine ⟨⟨q + 1, by omega, ?_, by go_num, HB2.out.trans (HB3.out.mono hw2)⟩, by simp [intOf]; omega⟩
              rw [HCS.out]
              go_num
        · obtain rfl : q = N := by omega
          have HCA : Hid (cntK ns q + 1 = q) := Lib.hid (by have := HC.out; rw [← HN.out] at this; exact this)
          have HI := Lib.hid (inner_none ns)
          have HK1 : Hid (kidsL ns (-1) = []) := Lib.hid (kidsL_out (by omega))
          have HK2 : Hid (kidsL ns (q : Int) = []) := Lib.hid (kidsL_out (by have := HN.out; omega))
          obtain ⟨cq, hcq⟩ : ∃ c, c = cntK ns q := ⟨_, rfl⟩
          rw [← hcq] at HCA hcn ⊢
          clear hcq
          go_wp2_with fail
          refine (awake3_c _ (HG.out.below (HB1.out.trans (HB.out.mono hs1)))).mono ?_
          rintro e w3 ⟨rfl, hb3⟩
          have HB3 : Hid (Below w1.heap.size w1 w3) := Lib.hid (HB.out.trans (hb3.mono hs2'))
          have hs3 := HB3.out.size
          clear hb3
          have hce : ((cq : Int) == (q : Int) - 1) = true := by rw [beq_iff_eq]; have := HCA.out; omega
          have hq1 : 1 ≤ q := by have := HCA.out; omega
          go_wp2_with fail
          refine (Kids_c ns A1 q c1 (-1) _ ((HR.out.below HB3.out).mono hs3) HN.out (by omega)).mono ?_
          rw [HK1.out]
          rintro e w4 ⟨Ak4, ck4, rfl, _, hb4⟩
          have HB4 : Hid (Below w1.heap.size w1 w4) := Lib.hid (HB3.out.trans (hb4.mono hs3))
          have hs4 := HB4.out.size
          clear hb4
          go_wp2_with fail
          refine (Kids_c ns A1 q c1 (q : Int) _ ((HR.out.below HB4.out).mono hs4) HN.out (by omega)).mono ?_
          rw [HK2.out]
          rintro e w5 ⟨Ak5, ck5, rfl, _, hb5⟩
          have HB5 : Hid (Below w1.heap.size w1 w5) := Lib.hid (HB4.out.trans (hb5.mono hs4))
          have hs5 := HB5.out.size
          clear hb5
          go_wp2_with fail
          refine (Inner_c ns A1 q c1 (-1) _ ((HR.out.below HB5.out).mono hs5) HN.out (by omega) (by rw [HI.out]; decide)).mono ?_
          rw [HI.out]
          rintro e w6 ⟨rfl, hb6⟩
          have HB6 : Hid (Below w.heap.size w w6) := Lib.hid (HB1.out.trans ((HB5.out.trans (hb6.mono hs5)).mono hs1))
          clear hb6
          have hnil : (tx []).toList = [] := toList_nil_of _ (by rw [tx_size]; rfl)
          go_wp2_with fail
          go_ret
          exact ⟨rfl, HB6.out⟩
end Go.Proofs.YtbojnmiaheohaaaDoor
