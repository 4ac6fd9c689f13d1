/-
  The contracts of token, end and Tree (layer 3), and of Parse.
-/
import Derived.Test.YtkccockdnjjanaaGreatDoorElOpen
namespace Nwl
theorem growG_pass {g : Gst} {t : Tki} (h : t.kind = 4 ∨ t.kind = 5) : growG g t = .ok g := by unfold growG; rw [if_pos h]
theorem growG_open {g : Gst} {t : Tki} (h : t.kind = 1) : growG g t = openG g t := by unfold growG; rw [if_neg (by omega), if_pos h]
theorem growG_close {g : Gst} {t : Tki} (h : t.kind = 2) : growG g t = closeG g t.name := by unfold growG; rw [if_neg (by omega), if_neg (by omega), if_pos h]
theorem growG_text {g : Gst} {t : Tki} (h : t.kind = 3) : growG g t = textG g t.text := by unfold growG; rw [if_neg (by omega), if_neg (by omega), if_neg (by omega), if_pos h]
theorem growG_other {g : Gst} {t : Tki} (h : t.kind ≠ 1 ∧ t.kind ≠ 2 ∧ t.kind ≠ 3 ∧ t.kind ≠ 4 ∧ t.kind ≠ 5) : growG g t = .error 5 := by unfold growG; rw [if_neg (by omega), if_neg (by omega), if_neg (by omega), if_neg (by omega)]
theorem endG_no {g : Gst} (h : g.mem = [] ∨ g.opn ≠ []) : endG g = .error 6 := by unfold endG; rw [if_pos h]
theorem endG_yes {g : Gst} (h : ¬ (g.mem = [] ∨ g.opn ≠ [])) : endG g = .ok g.mem := by unfold endG; rw [if_neg h]
theorem growG_run {g g' : Gst} {t : Tki} (h : growG g t = .ok g') : g'.run.length ≤ g.run.length + t.text.length := by
  unfold growG at h
  split at h
  · injection h with h; subst h; omega
  · split at h
    · unfold openG at h
      split at h
      · cases h
      · split at h
        · cases h
        · split at h
          · cases h
          · split at h
            · cases h
            · injection h with h; subst h; simp
    · split at h
      · unfold closeG at h
        split at h
        · cases h
        · split at h
          · injection h with h; subst h; simp
          · cases h
      · split at h
        · unfold textG at h
          split at h
          · split at h
            · injection h with h; subst h; omega
            · cases h
          · split at h
            · injection h with h; subst h; omega
            · split at h
              · split at h
                · cases h
                · injection h with h; subst h; simp
              · injection h with h; subst h; simp
        · cases h
theorem growG_err {g : Gst} {t : Tki} {n : Int} (h : growG g t = .error n) : n ≠ 0 := by
  have hx : ∀ {m k : Int} {x : Gst}, (Except.error m : Except Int Gst) = .error k → m ≠ 0 → k ≠ 0 := fun h h0 => by injection h with h; omega
  unfold growG at h
  split at h
  · cases h
  · split at h
    · unfold openG at h
      split at h
      · exact hx (x := g) h (by decide)
      · split at h
        · exact hx (x := g) h (by decide)
        · split at h
          · exact hx (x := g) h (by decide)
          · split at h
            · exact hx (x := g) h (by decide)
            · cases h
    · split at h
      · unfold closeG at h
        split at h
        · exact hx (x := g) h (by decide)
        · split at h
          · cases h
          · exact hx (x := g) h (by decide)
      · split at h
        · unfold textG at h
          split at h
          · split at h
            · cases h
            · exact hx (x := g) h (by decide)
          · split at h
            · cases h
            · split at h
              · split at h
                · exact hx (x := g) h (by decide)
                · cases h
              · cases h
        · exact hx (x := g) h (by decide)
theorem treeG_end (g : Gst) (ts : List Tki) (k : Nat) (h : ts.length ≤ k) : treeG g (ts.drop k) = endG g := by rw [List.drop_eq_nil_of_le h]; rfl
theorem treeG_ok {g g' : Gst} (ts : List Tki) (k : Nat) (h : k < ts.length) (hx : growG g ts[k] = .ok g') : treeG g (ts.drop k) = treeG g' (ts.drop (k + 1)) := by
  rw [List.drop_eq_getElem_cons h, treeG, hx]
theorem treeG_err {g : Gst} {n : Int} (ts : List Tki) (k : Nat) (h : k < ts.length) (hx : growG g ts[k] = .error n) : treeG g (ts.drop k) = .error n := by
  rw [List.drop_eq_getElem_cons h, treeG, hx]
def textsL (ts : List Tki) : Nat := (ts.map fun t => t.text.length).sum
theorem textsL_drop (ts : List Tki) (k : Nat) (h : k < ts.length) : textsL (ts.drop k) = ts[k].text.length + textsL (ts.drop (k + 1)) := by
  unfold textsL
  rw [List.drop_eq_getElem_cons h, List.map_cons, List.sum_cons]
end Nwl
namespace Go.Proofs.YtkccockdnjjanaaGreatDoor
open Nwl
open Go.RowKit Go.Maps
set_option linter.unusedVariables false

set_option maxRecDepth 100000 in
set_option maxHeartbeats 1000000 in
theorem gtoken_c (B b : Nat) (g : Gst) (t : Tki) (A : Option Addr) (l c : Nat) (w : World) (h : GrAt B b g w) (hr : RowR B w (.slice A l c) t.attrs.length 2 (attrCells t.attrs)) (hl : t.attrs.length ≤ 4000000000000) (hs : g.run.length + t.text.length ≤ 140737488355328) :
    Calls Tryz.prog 22 #[.pointer (some ⟨b, 0, none⟩), tkV t (.slice A l c)] w (GrowPost B b (growG g t) w) := by
  have hlt : b < w.heap.size := by obtain ⟨_, vn, vo, p, vb, hv⟩ := h; exact hv.lt
  have hbase : B ≤ b := by obtain ⟨_, vn, vo, p, vb, hv⟩ := h; exact hv.base
  have HH : Hid (GrAt B b g (w.alloc (tkO t (.slice A l c)))) := Lib.hid (by obtain ⟨hok, vn, vo, p, vb, hv⟩ := h; exact ⟨hok, vn, vo, p, vb, hv.alloc _⟩)
  have HB : Hid (Below B w (w.alloc (tkO t (.slice A l c)))) := Lib.hid ((Below.refl _ _).alloc (by omega) _)
  have HR := Lib.hid (hr.below HB.out)
  have HL := Lib.hid hl
  have HS := Lib.hid hs
  clear h hr hl hs
  obtain ⟨k, nm, txt, atts, em⟩ := t
  by_cases h4 : k = 4
  · subst h4
    have HX := Lib.hid (growG_pass (g := g) (t := ⟨4, nm, txt, atts, em⟩) (.inl rfl))
    go_enter Tryz.func22, Tryz.ntmps22
    go_wp2_with fail
    go_ret
    exact growPost_ok HX.out rfl HH.out HB.out
  by_cases h5 : k = 5
  · subst h5
    have HX := Lib.hid (growG_pass (g := g) (t := ⟨5, nm, txt, atts, em⟩) (.inr rfl))
    go_enter Tryz.func22, Tryz.ntmps22
    go_wp2_with fail
    go_ret
    exact growPost_ok HX.out rfl HH.out HB.out
  by_cases h1 : k = 1
  · subst h1
    have HX := Lib.hid (growG_open (g := g) (t := ⟨1, nm, txt, atts, em⟩) rfl)
    go_enter Tryz.func22, Tryz.ntmps22
    go_wp2_with fail
    refine (gopening_c B b g ⟨1, nm, txt, atts, em⟩ A l c _ HH.out HR.out HL.out).mono ?_
    intro e w1 hp
    cases hx : openG g ⟨1, nm, txt, atts, em⟩ with
    | ok g' =>
      rw [hx] at hp
      obtain ⟨rfl, hg', hb'⟩ := hp
      have HX2 := Lib.hid hx
      clear hx
      go_wp2_with fail
      go_ret
      exact growPost_ok (HX.out.trans HX2.out) rfl hg' (HB.out.trans hb')
    | error n =>
      rw [hx] at hp
      obtain ⟨rfl, hb'⟩ := hp
      have HX2 := Lib.hid hx
      clear hx
      go_wp2_with fail
      go_ret
      exact growPost_err (HX.out.trans HX2.out) rfl (HB.out.trans hb')
  by_cases h2 : k = 2
  · subst h2
    have HX := Lib.hid (growG_close (g := g) (t := ⟨2, nm, txt, atts, em⟩) rfl)
    go_enter Tryz.func22, Tryz.ntmps22
    go_wp2_with fail
    refine (gclosing_c B b g nm _ HH.out).mono ?_
    intro e w1 hp
    cases hx : closeG g nm with
    | ok g' =>
      rw [hx] at hp
      obtain ⟨rfl, hg', hb'⟩ := hp
      have HX2 := Lib.hid hx
      clear hx
      go_wp2_with fail
      go_ret
      exact growPost_ok (HX.out.trans HX2.out) rfl hg' (HB.out.trans hb')
    | error n =>
      rw [hx] at hp
      obtain ⟨rfl, hb'⟩ := hp
      have HX2 := Lib.hid hx
      clear hx
      go_wp2_with fail
      go_ret
      exact growPost_err (HX.out.trans HX2.out) rfl (HB.out.trans hb')
  by_cases h3 : k = 3
  · subst h3
    have HX := Lib.hid (growG_text (g := g) (t := ⟨3, nm, txt, atts, em⟩) rfl)
    go_enter Tryz.func22, Tryz.ntmps22
    go_wp2_with fail
    refine (gtext_c B b g txt _ HH.out HS.out).mono ?_
    intro e w1 hp
    cases hx : textG g txt with
    | ok g' =>
      rw [hx] at hp
      obtain ⟨rfl, hg', hb'⟩ := hp
      have HX2 := Lib.hid hx
      clear hx
      go_wp2_with fail
      go_ret
      exact growPost_ok (HX.out.trans HX2.out) rfl hg' (HB.out.trans hb')
    | error n =>
      rw [hx] at hp
      obtain ⟨rfl, hb'⟩ := hp
      have HX2 := Lib.hid hx
      clear hx
      go_wp2_with fail
      go_ret
      exact growPost_err (HX.out.trans HX2.out) rfl (HB.out.trans hb')
  have HX := Lib.hid (growG_other (g := g) (t := ⟨k, nm, txt, atts, em⟩) ⟨h1, h2, h3, h4, h5⟩)
  have e1 : (k == 1) = false := beq_eq_false_iff_ne.2 h1
  have e2 : (k == 2) = false := beq_eq_false_iff_ne.2 h2
  have e3 : (k == 3) = false := beq_eq_false_iff_ne.2 h3
  have e4 : (k == 4) = false := beq_eq_false_iff_ne.2 h4
  have e5 : (k == 5) = false := beq_eq_false_iff_ne.2 h5
  go_enter Tryz.func22, Tryz.ntmps22
  go_wp2_with fail
  go_ret
  exact growPost_err HX.out rfl HB.out

/-- nodes, as a result -/
def NodesAt (B : Nat) (w : World) (v : Value) (ns : List Nd) : Prop := ∃ cs : List Value, w.ownsRow B 32 4 v ns.length cs ∧ NdCells w B ns cs
def TreePost (B : Nat) (x : Except Int (List Nd)) (w : World) (e : Ending) (w' : World) : Prop :=
  ∃ (A : Option Addr) (c : Nat), e = .returned (.tuple #[.slice A (nodesOf x).length c, .int .i64 (errOf x)]) ∧ NodesAt B w' (.slice A (nodesOf x).length c) (nodesOf x) ∧ Below B w w'
theorem treePost_err {B : Nat} {x : Except Int (List Nd)} {w : World} {e : Ending} {w' : World} {n : Int} (h : x = .error n) (he : e = .returned (.tuple #[.slice none 0 0, .int .i64 n])) (hb : Below B w w') : TreePost B x w e w' := by
  subst h
  exact ⟨none, 0, he, ⟨[], World.ownsRow_nil _ _ _ _, rfl⟩, hb⟩
theorem treePost_ok {B : Nat} {x : Except Int (List Nd)} {w : World} {e : Ending} {w' : World} {ns : List Nd} {A : Option Addr} {c : Nat} (h : x = .ok ns) (he : e = .returned (.tuple #[.slice A ns.length c, .int .i64 0])) (hn : NodesAt B w' (.slice A ns.length c) ns) (hb : Below B w w') : TreePost B x w e w' := by
  subst h
  exact ⟨A, c, he, hn, hb⟩

set_option maxRecDepth 100000 in
set_option maxHeartbeats 1000000 in
theorem gend_c (B b : Nat) (g : Gst) (w : World) (h : GrAt B b g w) :
    Calls Tryz.prog 21 #[.pointer (some ⟨b, 0, none⟩)] w (TreePost B (endG g) w) := by
  obtain ⟨hok, vn, vo, p, vb, hv⟩ := h
  obtain ⟨An, cn, hvn⟩ := nodes_form hv
  subst hvn
  have HV := Lib.hid hv
  have c0 := hv.blk.cell 0
  have hfew := hok.few
  by_cases hm : g.mem = []
  · have HX := Lib.hid (endG_no (g := g) (.inl hm))
    have hz : (g.mem.length : Int) = 0 := by rw [hm]; rfl
    clear hv hok hm
    go_enter Tryz.func21, Tryz.ntmps21
    go_wp2_with fail
    go_ret2
    exact treePost_err HX.out rfl (Below.refl _ _)
  · have hp : 0 < g.mem.length := List.length_pos_iff.2 hm
    have hz : ((g.mem.length : Int) == 0) = false := by rw [beq_eq_false_iff_ne]; omega
    by_cases ho : g.opn = []
    · have HX := Lib.hid (endG_yes (g := g) (by simp [hm, ho]))
      have HV' := Lib.hid (op0 ho hv)
      clear hv hok hm ho
      go_enter Tryz.func21, Tryz.ntmps21
      go_wp2_with fail
      refine (outside_yes HV'.out).mono ?_
      rintro e w' ⟨rfl, rfl⟩
      go_wp2_with fail
      go_ret2
      exact treePost_ok HX.out rfl HV.out.nodes (Below.refl _ _)
    · have HX := Lib.hid (endG_no (g := g) (.inr ho))
      have HO := Lib.hid ho
      clear hv hok hm ho
      go_enter Tryz.func21, Tryz.ntmps21
      go_wp2_with fail
      refine (outside_no HV.out HO.out).mono ?_
      rintro e w' ⟨rfl, rfl⟩
      go_wp2_with fail
      go_ret2
      exact treePost_err HX.out rfl (Below.refl _ _)

/-- a token of a row, read -/
theorem ToksR.at {B : Nat} {w : World} {A : Option Addr} {n c : Nat} {ts : List Tki} (h : ToksR B w (.slice A n c) ts) (k : Nat) (hk : k < ts.length) : ∃ (b o : Nat) (A2 : Option Addr) (l2 c2 : Nat), A = some ⟨b, o, none⟩ ∧ RowR B w (.slice A2 l2 c2) (ts[k]).attrs.length 2 (attrCells (ts[k]).attrs) ∧
    w.cell? ⟨b, o + k * 5, none⟩ = some (.int .i64 (ts[k]).kind) ∧ w.cell? ⟨b, o + k * 5 + 1, none⟩ = some (.string (tx (ts[k]).name)) ∧ w.cell? ⟨b, o + k * 5 + 2, none⟩ = some (.string (tx (ts[k]).text)) ∧ w.cell? ⟨b, o + k * 5 + 3, none⟩ = some (.slice A2 l2 c2) ∧ w.cell? ⟨b, o + k * 5 + 4, none⟩ = some (.bool (ts[k]).empty) := by
  obtain ⟨cs, h1, h2⟩ := h
  obtain ⟨b, o, c', hv, _, _, hc⟩ := h1.some (by omega)
  injection hv with e1 e2 e3
  obtain ⟨av, hav, c0, c1, c2, c3, c4⟩ := h2.get k hk
  obtain ⟨A2, c2', rfl⟩ := hav.form
  exact ⟨b, o, A2, _, c2', e1, hav, hc _ _ c0, hc _ _ c1, hc _ _ c2, hc _ _ c3, hc _ _ c4⟩

set_option maxRecDepth 100000 in
set_option maxHeartbeats 2000000 in
theorem Tree_c (ts : List Tki) (A : Option Addr) (n c : Nat) (w : World) (hr : ToksR w.heap.size w (.slice A n c) ts) (hn : n = ts.length) (hlen : n ≤ 1000000000000) (hl : ∀ t ∈ ts, t.attrs.length ≤ 4000000000000) (hs : textsL ts ≤ 140737488355328) :
    Calls Tryz.prog 7 #[.slice A n c] w (TreePost w.heap.size (treeL ts) w) := by
  have HR := Lib.hid hr
  have HN := Lib.hid hn
  have HL := Lib.hid hl
  have HS := Lib.hid hs
  clear hr hn hl hs
  go_enter Tryz.func7, Tryz.ntmps7
  go_wp2_with fail
  refine wp_scope_again 0 (fun a' w' => ∃ (k : Nat) (g : Gst) (u6 u7 u8 u9 u10 u11 u12 u13 u14 u15 u16 u17 u18 u19 u20 u21 u22 u23 : Value), a' = { tmps := #[.slice A n c, undef, .slice none 0 0, .int .i64 0, .pointer (some ⟨w.heap.size, 0, none⟩), .int .i64 k, u6, u7, u8, u9, u10, u11, u12, u13, u14, u15, u16, u17, u18, u19, u20, u21, u22, u23], defers := [] } ∧ Hid (k ≤ n ∧ GrAt w.heap.size w.heap.size g w' ∧ Below w.heap.size w w' ∧ treeL ts = treeG g (ts.drop k) ∧ g.run.length + textsL (ts.drop k) ≤ 140737488355328)) (fun a' _ => n - (intOf (a'.tmps.getD 5 undef)).toNat) rfl ?_ ?_
  · rintro a' w' ⟨k, g, u6, u7, u8, u9, u10, u11, u12, u13, u14, u15, u16, u17, u18, u19, u20, u21, u22, u23, rfl, hh⟩
    obtain ⟨hk, hg, hbel, htr, htl⟩ := hh.out
    clear hh
    have HG := Lib.hid hg
    have HB := Lib.hid hbel
    clear hg hbel
    by_cases hkn : k < n
    · have hkt : k < ts.length := by have := HN.out; omega
      obtain ⟨b, o, A2, l2, c2, hA, hra, e0, e1, e2, e3, e4⟩ := (HR.out.below HB.out).at k hkt
      have hlk := HL.out _ (List.getElem_mem hkt)
      have htd := textsL_drop ts k hkt
      subst hA
      have hkne : ((k : Int) == (n : Int)) = false := by rw [beq_eq_false_iff_ne]; omega
      have HRA := Lib.hid hra
      have HLK := Lib.hid hlk
      have HTL : Hid (g.run.length + (ts[k]).text.length ≤ 140737488355328 ∧ (∀ g' : Gst, g'.run.length ≤ g.run.length + (ts[k]).text.length → g'.run.length + textsL (ts.drop (k + 1)) ≤ 140737488355328)) := Lib.hid ⟨by omega, fun g' h => by omega⟩
      cases hx : growG g ts[k] with
      | ok g' =>
        have HT : Hid (treeL ts = treeG g' (ts.drop (k + 1))) := Lib.hid (htr.trans (treeG_ok ts k hkt hx))
        have HX := Lib.hid hx
        clear hra hlk htd htr htl hx
        obtain ⟨t, ht⟩ : ∃ t, t = ts[k] := ⟨_, rfl⟩
        rw [← ht] at e0 e1 e2 e4 HRA HLK HTL HX
        clear ht hkt
        go_wp2_with fail
        refine (gtoken_c _ _ g t A2 l2 c2 _ HG.out HRA.out HLK.out HTL.out.1).mono ?_
        intro e w2 hp
        rw [HX.out] at hp
        obtain ⟨rfl, hg2, hb2⟩ := hp
        have HG2 := Lib.hid hg2
        have HB2 : Hid (Below w.heap.size w w2) := Lib.hid (HB.out.trans hb2)
        clear hg2 hb2 e0 e1 e2 e3 e4
        go_wp2_with fail
        go_step3
        refine ⟨rfl, ⟨k + 1, g', _, _, _, _, _, _, _, _, _, _, _, _, _, _, _, _, _, _, by first | rfl | (simp only [Nat.cast_add, Nat.cast_one]; rfl), by omega, HG2.out, HB2.out, HT.out, HTL.out.2 g' (growG_run HX.out)⟩, ?_⟩
        simp [intOf]
        omega
      | error m =>
        have HT : Hid (treeL ts = .error m) := Lib.hid (htr.trans (treeG_err ts k hkt hx))
        have HX := Lib.hid hx
        clear hra hlk htd htr htl hx
        obtain ⟨t, ht⟩ : ∃ t, t = ts[k] := ⟨_, rfl⟩
        rw [← ht] at e0 e1 e2 e4 HRA HLK HTL HX
        clear ht hkt
        go_wp2_with fail
        refine (gtoken_c _ _ g t A2 l2 c2 _ HG.out HRA.out HLK.out HTL.out.1).mono ?_
        intro e w2 hp
        rw [HX.out] at hp
        obtain ⟨rfl, hb2⟩ := hp
        have HB2 : Hid (Below w.heap.size w w2) := Lib.hid (HB.out.trans hb2)
        have hm0 : (m == 0) = false := by rw [beq_eq_false_iff_ne]; exact growG_err HX.out
        clear hb2 e0 e1 e2 e3 e4
        go_wp2_with fail
        simp only [Exit.jump]
        go_ret2
        exact treePost_err HT.out rfl HB2.out
    · have hke : k = n := by omega
      subst hke
      have HT : Hid (treeL ts = endG g) := Lib.hid (htr.trans (treeG_end g ts k (by have := HN.out; omega)))
      clear htr htl hkn hk
      go_wp2_with fail
      refine (gend_c _ _ g _ HG.out).mono ?_
      rintro e w2 ⟨A2, c2, rfl, hn2, hb2⟩
      have HN2 := Lib.hid hn2
      clear hn2
      go_wp2_with fail
      simp only [Exit.jump]
      go_ret2
      unfold TreePost
      rw [HT.out]
      exact ⟨A2, c2, rfl, HN2.out, HB.out.trans hb2⟩
  · intro hpass
    go_wp2_with fail
    go_step3
    rename_i hK
    refine hK _ _ (hpass.out _ _ ⟨0, Gst.none, _, _, _, _, _, _, _, _, _, _, _, _, _, _, _, _, _, _, rfl, Nat.zero_le _, GrAt.fresh w, (Below.refl _ _).alloc (Nat.le_refl _) _, rfl, by simpa [Gst.none] using HS.out⟩)
end Go.Proofs.YtkccockdnjjanaaGreatDoor
