/-
  Plain facts: what is parsed is right.
-/
import Derived.Test.YtkccockdnjjanaaGreatDoorEqTok
import Derived.Test.YtkccockdnjjanaaGreatDoorBa
import Derived.Test.YtkccockdnjjanaaGreatDoorMtRightM
import Derived.Test.YtkccockdnjjanaaGreatDoorElParse
namespace Nwl
theorem nd_left {ns ms : List Nd} {i : Nat} (h : i < ns.length) : nd (ns ++ ms) i = nd ns i := by
  unfold nd
  rw [List.getD_eq_getElem?_getD, List.getD_eq_getElem?_getD, List.getElem?_append_left h]
theorem nd_last (ns : List Nd) (x : Nd) : nd (ns ++ [x]) ns.length = x := by
  unfold nd
  rw [List.getD_eq_getElem?_getD, List.getElem?_append_right (Nat.le_refl _), Nat.sub_self]; rfl
theorem par_left {ns ms : List Nd} {i : Int} (h : i.toNat < ns.length) : parAt (ns ++ ms) i = parAt ns i := by
  unfold parAt; rw [nd_left h]
theorem upL_left {ns : List Nd} (ms : List Nd) (h : Par ns ns.length) : ∀ (f : Nat) (i : Int), i < ns.length → upL (ns ++ ms) f i = upL ns f i
  | 0, i, _ => rfl
  | f + 1, i, hi => by
    unfold upL
    by_cases h0 : i < 0
    · rw [if_pos h0, if_pos h0]
    · have hp := h.at (i := i) (by omega) hi
      rw [if_neg h0, if_neg h0, par_left (by omega), upL_left ms h f _ (by omega)]
theorem chain_left {ns : List Nd} (ms : List Nd) (h : Par ns ns.length) {i : Int} (hi : i < ns.length) : chainL (ns ++ ms) i = chainL ns i := upL_left ms h _ _ hi
theorem inner_left {ns ms : List Nd} {i : Nat} (h : i < ns.length) : innerN (ns ++ ms) i = innerN ns i := by
  unfold innerN
  rw [nd_left h, par_left (by simpa using h)]
theorem eq_succ (ns : List Nd) (i : Nat) : mayStandB ns (i + 1) = ((chainL ns (innerN ns i)).contains (parAt ns (i + 1 : Nat)) && (if textB (nd ns (i + 1)) then !textB (nd ns i) || decide (parAt ns i ≠ parAt ns (i + 1 : Nat)) else decide ((chainL ns (i + 1 : Nat)).length ≤ 20))) := rfl
theorem stand_left {ns : List Nd} (ms : List Nd) (h : Par ns ns.length) {i : Nat} (hi : i < ns.length) : mayStandB (ns ++ ms) i = mayStandB ns i := by
  cases i with
  | zero =>
    unfold mayStandB
    rw [par_left (by simpa using hi), nd_left hi]
  | succ i =>
    have hb := innerN_bound (Par.le h (by omega : i + 1 ≤ ns.length))
    rw [eq_succ, eq_succ, inner_left (by omega), chain_left ms h (by omega), par_left (by simpa using hi), nd_left hi, nd_left (by omega), par_left (by simp; omega), chain_left ms h (by omega)]
theorem node_left {ns : List Nd} (ms : List Nd) (h : Par ns ns.length) {i : Nat} (hi : i < ns.length) : nodeB (ns ++ ms) i = nodeB ns i := by
  unfold nodeB
  rw [nd_left hi, stand_left ms h hi]
theorem right_snoc {ns : List Nd} {x : Nd} (h : rightTo ns ns.length = true) (hm : mayBeB x = true) (hs : mayStandB (ns ++ [x]) ns.length = true) : rightTo (ns ++ [x]) (ns ++ [x]).length = true := by
  have hp := right_par h
  rw [List.length_append, List.length_singleton]
  have h1 : rightTo (ns ++ [x]) ns.length = true := by
    unfold rightTo at h ⊢
    rw [List.all_eq_true] at h ⊢
    intro k hk
    rw [node_left [x] hp (List.mem_range.1 hk)]
    exact h k hk
  refine rightTo_next h1 ?_
  unfold nodeB
  rw [nd_last, hm, hs]; rfl
/-- nodes that are right so far, and what is open behind them -/
structure Std (ns : List Nd) (o : List Nat) : Prop where
  right : rightTo ns ns.length = true
  few : ∀ p ∈ o, p < ns.length
  chain : chainL ns (innerL o) = o.reverse.map (fun (p : Nat) => (p : Int))
  about : ∀ k, ns.length = k + 1 → o ≠ [] → innerL o ∈ chainL ns (innerN ns k)
theorem Std.inner {ns : List Nd} {o : List Nat} (h : Std ns o) : -1 ≤ innerL o ∧ innerL o < ns.length := by
  by_cases ho : o = []
  · subst ho; rw [innerL_nil]; omega
  · rw [innerL_ne ho]
    have := h.few _ (List.getElem_mem (by have := List.length_pos_iff.2 ho; omega : o.length - 1 < o.length))
    omega
theorem Std.ne {ns : List Nd} {o : List Nat} (h : Std ns o) (ho : o ≠ []) : 0 < ns.length ∧ 0 ≤ innerL o := by
  rw [innerL_ne ho]
  have := h.few _ (List.getElem_mem (by have := List.length_pos_iff.2 ho; omega : o.length - 1 < o.length))
  omega
theorem par_last (ns : List Nd) (x : Nd) : parAt (ns ++ [x]) (ns.length : Nat) = x.parent := by
  unfold parAt
  rw [Int.toNat_natCast, nd_last]
/-- one node more, in the innermost one -/
theorem Std.snoc {ns : List Nd} {o : List Nat} {x : Nd} (h : Std ns o) (hx : x.parent = innerL o) (hm : mayBeB x = true) (h0 : ns = [] → textB x = false) (h1 : ns ≠ [] → o ≠ []) (ht : textB x = true → ∀ k, ns.length = k + 1 → textB (nd ns k) = true → parAt ns k ≠ innerL o) (hd : textB x = false → o.length < 20) :
    Std (ns ++ [x]) o ∧ Par (ns ++ [x]) (ns.length + 1) ∧ chainL (ns ++ [x]) (ns.length : Nat) = (ns.length : Int) :: o.reverse.map (fun (p : Nat) => (p : Int)) := by
  have hp := right_par h.right
  have hin := h.inner
  have hch : chainL (ns ++ [x]) (innerL o) = o.reverse.map (fun (p : Nat) => (p : Int)) := by rw [chain_left [x] hp hin.2]; exact h.chain
  have hpar : Par (ns ++ [x]) (ns.length + 1) := by
    intro j hj
    by_cases e : j < ns.length
    · rw [par_left (by simpa using e)]; exact hp j e
    · obtain rfl : j = ns.length := by omega
      rw [par_last, hx]; omega
  have hstep : chainL (ns ++ [x]) (ns.length : Nat) = (ns.length : Int) :: o.reverse.map (fun (p : Nat) => (p : Int)) := by
    rw [chainL_step hpar (by omega) (by omega), par_last, hx, hch]
  have hs : mayStandB (ns ++ [x]) ns.length = true := by
    cases hl : ns.length with
    | zero =>
      have hn : ns = [] := List.eq_nil_of_length_eq_zero hl
      subst hn
      unfold mayStandB
      have ho : o = [] := by
        cases o with
        | nil => rfl
        | cons p o => have := h.few p (by simp); simp at this
      have e1 : parAt ([] ++ [x]) 0 = -1 := by
        have := par_last [] x
        rw [hx, ho, innerL_nil] at this
        exact this
      rw [e1, show nd ([] ++ [x]) 0 = x from rfl, h0 rfl]; rfl
    | succ k =>
      have hne : ns ≠ [] := fun e => by rw [e] at hl; cases hl
      have ho := h1 hne
      have hab := h.about k hl ho
      have hb := innerN_bound (Par.le hp (by omega : k + 1 ≤ ns.length))
      have hpl := par_last ns x
      rw [hl] at hpl
      have hnl := nd_last ns x
      rw [hl] at hnl
      have hc1 : (chainL (ns ++ [x]) (innerN (ns ++ [x]) k)).contains (parAt (ns ++ [x]) ((k + 1 : Nat) : Int)) = true := by
        rw [inner_left (by omega), chain_left [x] hp (by omega), hpl, hx, List.contains_iff_mem]; exact hab
      rw [eq_succ, hc1, Bool.true_and, hnl]
      cases htx : textB x with
      | true =>
        simp only [if_true]
        rw [nd_left (by omega), par_left (by simp; omega), hpl, hx]
        cases htk : textB (nd ns k) with
        | false => rfl
        | true =>
          have := ht htx k hl htk
          rw [decide_eq_true this]; rfl
      | false =>
        simp only [Bool.false_eq_true, if_false]
        rw [← hl, hstep]
        have := hd htx
        simp; omega
  refine ⟨⟨right_snoc h.right hm hs, fun p hp => ?_, hch, fun k hk ho => ?_⟩, hpar, hstep⟩
  · have := h.few p hp
    simp; omega
  · have hk' : k = ns.length := by simp at hk; omega
    subst hk'
    have hi := h.ne ho
    have hself : innerL o ∈ chainL (ns ++ [x]) (innerL o) := by
      rw [chainL_step hpar hi.2 (by omega)]; exact List.mem_cons_self ..
    unfold innerN
    rw [nd_last, par_last, hx]
    split
    · exact hself
    · rw [hstep]
      rw [hch] at hself
      exact List.mem_cons_of_mem _ hself
/-- a tree under way -/
structure Gst.Std (g : Gst) : Prop where
  std : Nwl.Std g.pre g.opn
  run : allL g.run = true
  ok : g.Ok
  beside : ∀ k, g.pre.length = k + 1 → textB (nd g.pre k) = true → parAt g.pre k ≠ innerL g.opn
  first : g.pre ≠ [] ∨ g.opn = []
theorem settle_std {g : Gst} (h : g.Std) : Nwl.Std g.settled g.opn := by
  unfold Gst.settled
  split
  · exact h.std
  · rename_i hr
    have ho : g.opn ≠ [] := fun e => hr (h.ok.out e)
    have hne : g.pre ≠ [] := by
      rcases h.first with h1 | h1
      · exact h1
      · exact absurd h1 ho
    refine (h.std.snoc (x := ⟨innerL g.opn, [], g.run, []⟩) rfl ?_ (fun e => absurd e hne) (fun _ => ho) (fun _ => h.beside) (fun e => by cases e)).1
    unfold mayBeB
    rw [show textB ⟨innerL g.opn, [], g.run, []⟩ = true from rfl, if_pos rfl, decide_eq_true hr, h.run]; rfl
/-- what is asked of a token -/
def TkiOk (t : Tki) : Prop := (t.kind = 1 → nameL t.name = true ∧ attrsB t.attrs = true) ∧ (t.kind = 3 → allL t.text = true)
theorem allL_cat {a b : List UInt8} (ha : allL a = true) (hb : allL b = true) : allL (a ++ b) = true := allL_app ha hb
theorem grow_std {g g' : Gst} {t : Tki} (h : g.Std) (ht : TkiOk t) (e : growG g t = .ok g') : g'.Std := by
  have hok := growG_ok h.ok e
  have hset := settle_std h
  have hlen := g.len
  have hge := settled_ge g
  unfold growG at e
  split at e
  · injection e with e; subst e; exact h
  · split at e
    · rename_i hk
      obtain ⟨hn, ha⟩ := ht.1 hk
      unfold openG at e
      split at e
      · cases e
      · rename_i hname
        split at e
        · cases e
        · rename_i htwo
          split at e
          · cases e
          · rename_i hdeep
            split at e
            · cases e
            · injection e with e
              have hb : mayBeB ⟨innerL g.opn, t.name, [], t.attrs⟩ = true := by
                unfold mayBeB
                have : textB ⟨innerL g.opn, t.name, [], t.attrs⟩ = false := decide_eq_false hname
                rw [this, if_neg (by decide), hn, ha]; rfl
              have htb : textB ⟨innerL g.opn, t.name, [], t.attrs⟩ = false := decide_eq_false hname
              obtain ⟨s1, s2, s3⟩ := hset.snoc (x := ⟨innerL g.opn, t.name, [], t.attrs⟩) rfl hb (fun _ => htb) (fun hne ho => htwo ⟨ho, by rw [← hlen]; exact List.length_pos_iff.2 hne⟩) (fun e => by rw [htb] at e; cases e) (fun _ => by omega)
              have hbes : ∀ (o : List Nat) k, (g.settled ++ [(⟨innerL g.opn, t.name, [], t.attrs⟩ : Nd)]).length = k + 1 → textB (nd (g.settled ++ [⟨innerL g.opn, t.name, [], t.attrs⟩]) k) = true → parAt (g.settled ++ [⟨innerL g.opn, t.name, [], t.attrs⟩]) k ≠ innerL o := by
                intro o k hk2 htk
                have : k = g.settled.length := by simp at hk2; omega
                rw [this, nd_last, htb] at htk
                cases htk
              subst e
              refine ⟨?_, rfl, hok, hbes _, .inl (by simp)⟩
              show Nwl.Std _ (if t.empty then g.opn else g.opn ++ [g.mem.length])
              split
              · exact s1
              · rw [← hlen]
                refine ⟨s1.right, fun p hp => ?_, ?_, fun k hk2 _ => ?_⟩
                · rcases List.mem_append.1 hp with hp | hp
                  · exact s1.few p hp
                  · rw [List.mem_singleton] at hp
                    subst hp; simp
                · rw [innerL_snoc, s3, List.reverse_append]; rfl
                · have : k = g.settled.length := by simp at hk2; omega
                  subst this
                  rw [innerL_snoc]
                  unfold innerN
                  rw [nd_last, htb]
                  simp only [Bool.false_eq_true, if_false]
                  rw [s3]; exact List.mem_cons_self ..
    · split at e
      · unfold closeG at e
        split at e
        · cases e
        · rename_i p hl
          split at e
          · injection e with e
            obtain ⟨o, ho⟩ := List.getLast?_eq_some_iff.1 hl
            have hp := right_par hset.right
            have hpl : p < g.settled.length := hset.few p (by rw [ho]; simp)
            have hch := hset.chain
            rw [ho, innerL_snoc, List.reverse_append, List.map_append] at hch
            rw [chainL_step hp (by omega) (by omega)] at hch
            have hch2 : chainL g.settled (parAt g.settled p) = o.reverse.map (fun (q : Nat) => (q : Int)) := by
              have := (List.cons.inj hch).2
              simpa using this
            have hpp := hp p hpl
            have hio : innerL o = parAt g.settled p := by
              by_cases hoe : o = []
              · subst hoe
                rw [innerL_nil]
                by_cases h0 : parAt g.settled p = -1
                · exact h0.symm
                · rw [chainL_step hp (by omega) (by omega)] at hch2
                  cases hch2
              · obtain ⟨o', q, hq⟩ : ∃ o' q, o = o' ++ [q] := ⟨o.dropLast, o.getLast hoe, (List.dropLast_concat_getLast hoe).symm⟩
                subst hq
                rw [innerL_snoc]
                by_cases h0 : parAt g.settled p = -1
                · rw [h0, chainL_neg] at hch2
                  simp at hch2
                · rw [chainL_step hp (by omega) (by omega), List.reverse_append] at hch2
                  exact (List.cons.inj hch2).1.symm
            have hlast : ∀ k, g.settled.length = k + 1 → (p : Int) ∈ chainL g.settled (innerN g.settled k) := by
              intro k hk2
              have := hset.about k hk2 (by rw [ho]; simp)
              rw [ho, innerL_snoc] at this
              exact this
            subst e
            have hdl : g.opn.dropLast = o := by rw [ho, List.dropLast_concat]
            refine ⟨⟨hset.right, fun q hq => ?_, ?_, fun k hk2 hoe => ?_⟩, rfl, hok, fun k hk2 htk => ?_, .inl ?_⟩
            · exact hset.few q (List.dropLast_subset _ hq)
            · show chainL g.settled (innerL g.opn.dropLast) = _
              rw [hdl, hio, hch2]
            · show innerL g.opn.dropLast ∈ _
              rw [hdl, hio]
              have hk3 : g.settled.length = k + 1 := hk2
              have hb := innerN_bound (Par.le hp (by omega : k + 1 ≤ g.settled.length))
              have hoe' : o ≠ [] := by rw [← hdl]; exact hoe
              refine chain_sub hp hb.1 (by omega) (hlast k hk2) _ ?_
              rw [chainL_step hp (by omega) (by omega)]
              refine List.mem_cons_of_mem _ ?_
              have h0 : parAt g.settled p ≠ -1 := by
                intro h0
                rw [h0, chainL_neg] at hch2
                have := congrArg List.length hch2
                simp at this
                exact hoe' (List.eq_nil_of_length_eq_zero this.symm)
              rw [chainL_step hp (by omega) (by omega)]; exact List.mem_cons_self ..
            · show parAt g.settled k ≠ innerL g.opn.dropLast
              rw [hdl, hio]
              have hk3 : g.settled.length = k + 1 := hk2
              have hin := hlast k hk2
              unfold innerN at hin
              rw [htk, if_pos rfl] at hin
              have hpk := hp k (by omega)
              have := chain_le hp hpk.1 (by omega) hin
              omega
            · show g.settled ≠ []
              intro e0
              rw [e0] at hpl
              simp at hpl
          · cases e
      · split at e
        · rename_i hk3
          have htx := ht.2 hk3
          unfold textG at e
          split at e
          · split at e
            · injection e with e; subst e; exact h
            · cases e
          · rename_i ho
            have hne : g.pre ≠ [] := by
              rcases h.first with h1 | h1
              · exact h1
              · exact absurd h1 ho
            split at e
            · injection e with e; subst e; exact h
            · split at e
              · split at e
                · cases e
                · injection e with e
                  subst e
                  exact ⟨h.std, htx, hok, h.beside, .inl hne⟩
              · injection e with e
                subst e
                exact ⟨h.std, allL_cat h.run htx, hok, h.beside, .inl hne⟩
        · cases e
theorem none_std : Gst.none.Std := ⟨⟨rfl, (fun p hp => by cases hp), rfl, (fun k hk => by cases hk)⟩, rfl, Gst.none_ok, (fun k hk => by cases hk), .inr rfl⟩
theorem tree_right : ∀ (ts : List Tki) (g : Gst) (ns : List Nd), g.Std → (∀ t ∈ ts, TkiOk t) → treeG g ts = .ok ns → rightB ns = true
  | [], g, ns, h, _, e => by
    unfold treeG endG at e
    split at e
    · cases e
    · rename_i hh
      injection e with e
      have ho : g.opn = [] := by
        by_cases q : g.opn = []
        · exact q
        · exact absurd (.inr q) hh
      have hr := h.ok.out ho
      have hm : g.mem = g.pre := by unfold Gst.mem; rw [if_pos hr]
      rw [hm] at e
      subst e
      have hne : g.pre ≠ [] := fun q => hh (.inl (by rw [hm, q]))
      have hf := h.ok.few
      rw [hm] at hf
      unfold rightB
      rw [decide_eq_true hne, decide_eq_true hf, h.std.right]; rfl
  | t :: ts, g, ns, h, ht, e => by
    unfold treeG at e
    cases hg : growG g t with
    | error n => rw [hg] at e; cases e
    | ok g' =>
      rw [hg] at e
      exact tree_right ts g' ns (grow_std h (ht t (by simp)) hg) (fun u hu => ht u (by simp [hu])) e
theorem parse_right {l : List UInt8} {ns : List Nd} (h : parseX l = .ok ns) : rightB ns = true := by
  unfold parseX at h
  split at h
  · refine tree_right _ _ ns none_std (fun t ht => ?_) h
    obtain ⟨u, hu, rfl⟩ := List.mem_map.1 ht
    have := splitT_tok u hu
    refine ⟨fun e => this.1 ?_, fun e => this.2 ?_⟩
    · have : (u.kind : Int) = 1 := e
      omega
    · have : (u.kind : Int) = 3 := e
      omega
  · cases h
end Nwl
