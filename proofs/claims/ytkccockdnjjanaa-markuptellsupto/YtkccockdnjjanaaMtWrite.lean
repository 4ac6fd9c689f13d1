/-
  The document's own answers (layer 4): a node, and all in it, written.
-/
import Derived.Test.YtkccockdnjjanaaMtKids
import Derived.Test.YtkccockdnjjanaaMtEsc
import Derived.Test.YtkccockdnjjanaaMtSize
import Derived.Deep.RegionHeld3
namespace Nwl
open Go
theorem attrsW_le (l : List (List UInt8 × List UInt8)) (k : Nat) : (attrsW (l.take k)).length ≤ (attrsW l).length := by
  have hap : ∀ a b : List (List UInt8 × List UInt8), attrsW (a ++ b) = attrsW a ++ attrsW b := fun a b => by simp [attrsW]
  have : attrsW l = attrsW (l.take k) ++ attrsW (l.drop k) := by
    rw [← hap, List.take_append_drop]
  rw [this, List.length_append]
  omega
theorem attrsW_next {l : List (List UInt8 × List UInt8)} {k : Nat} (h : k < l.length) : attrsW (l.take (k + 1)) = attrsW (l.take k) ++ attrW l[k] := by
  rw [← List.take_append_getElem h, attrsW_snoc]
theorem kidsN_lt {ns : List Nd} {i : Nat} (hp : Par ns ns.length) {j : Nat} (h : j ∈ kidsN ns i) : i < j ∧ j < ns.length := by
  obtain ⟨_, h2, h3⟩ := kidsF_mem h
  have := hp j (by omega)
  omega
theorem flat_next {α : Type} (f : Nat → List α) {l : List Nat} {k : Nat} (h : k < l.length) : (l.take (k + 1)).flatMap f = (l.take k).flatMap f ++ f l[k] := by
  rw [← List.take_append_getElem h, List.flatMap_append]
  simp
theorem flat_le {α : Type} (f : Nat → List α) (l : List Nat) (k : Nat) : ((l.take k).flatMap f).length ≤ (l.flatMap f).length := by
  have : l.flatMap f = (l.take k).flatMap f ++ (l.drop k).flatMap f := by
    conv => lhs; rw [← List.take_append_drop k l]
    rw [List.flatMap_append]
  rw [this, List.length_append]
  omega
theorem nmem_sum : ∀ {L : List Nat} {x : Nat}, x ∈ L → x ≤ L.sum
  | y :: L, x, h => by
    rw [List.sum_cons]
    rcases List.mem_cons.1 h with e | e
    · omega
    · have := nmem_sum e; omega
theorem nlen_sum (l : List (List UInt8 × List UInt8)) : l.length ≤ (l.map fun a => a.1.length + a.2.length + 1).sum := by
  induction l with
  | nil => simp
  | cons a l ih => rw [List.map_cons, List.sum_cons, List.length_cons]; omega
theorem wrF_text {ns : List Nd} {d i : Nat} (h : textB (nd ns i) = true) : wrF ns (d + 1) i = escL (nd ns i).text := by
  show (if textB (nd ns i) then _ else _) = _
  rw [if_pos h]
theorem wrF_none {ns : List Nd} {d i : Nat} (h : textB (nd ns i) = false) (hk : kidsN ns i = []) : wrF ns (d + 1) i = headW (nd ns i) ++ [47, 62] := by
  show (if textB (nd ns i) then _ else _) = _
  rw [if_neg (by rw [h]; decide), if_pos hk]
theorem wrF_kids {ns : List Nd} {d i : Nat} (h : textB (nd ns i) = false) (hk : kidsN ns i ≠ []) : wrF ns (d + 1) i = headW (nd ns i) ++ ([62] ++ (kidsN ns i).flatMap (wrF ns d) ++ endL (nd ns i).name) := by
  show (if textB (nd ns i) then _ else _) = _
  rw [if_neg (by rw [h]; decide), if_neg hk]
end Nwl
namespace Go.Proofs.Ytkccockdnjjanaa
open Nwl
open Go.RowKit Go.Maps
set_option linter.unusedVariables false
set_option linter.unusedSimpArgs false

theorem NdRd.up {B B' : Nat} {w : World} {A : Option Addr} {n : Nat} {ns : List Nd} (h : NdRd B w A n ns) (hB : B ≤ B') : NdRd B' w A n ns :=
  ⟨h.1, fun j hj => by
    obtain ⟨b, o, A', l, c, q1, q2, q3, q4, q5, q6, q7⟩ := h.2 j hj
    exact ⟨b, o, A', l, c, q1, by omega, q3, q4, q5, q6, q7.up hB⟩⟩
theorem NdRd.on {w w' : World} {A : Option Addr} {n : Nat} {ns : List Nd} (h : NdRd w.heap.size w A n ns) (hb : Below w.heap.size w w') : NdRd w'.heap.size w' A n ns := (h.below hb).up hb.size
/-- the node's box, and what lies behind -/
def NB (w W : World) (p : Int) (nm tt : List UInt8) (A' : Option Addr) (l' c' : Nat) : Prop := Blk W w.heap.size 32 #[.int .i64 p, .string (tx nm), .string (tx tt), .slice A' l' c'] ∧ Below w.heap.size w W
theorem NB.new (w : World) (p : Int) (nm tt : List UInt8) (A' : Option Addr) (l' c' : Nat) : NB w (w.alloc (.cells #[.int .i64 p, .string (tx nm), .string (tx tt), .slice A' l' c'] 32)) p nm tt A' l' c' := ⟨Blk.new _ _ _, (Below.refl _ _).alloc (Nat.le_refl _) _⟩
theorem NB.step {w W W' : World} {p : Int} {nm tt : List UInt8} {A' : Option Addr} {l' c' : Nat} (h : NB w W p nm tt A' l' c') (hb : Below W.heap.size W W') : NB w W' p nm tt A' l' c' := ⟨h.1.below hb, h.2.trans (hb.mono h.2.size)⟩
theorem NB.rd {w W : World} {p : Int} {nm tt : List UInt8} {A' : Option Addr} {l' c' : Nat} (h : NB w W p nm tt A' l' c') : W.cell? ⟨w.heap.size, 0, none⟩ = some (.int .i64 p) ∧ W.cell? ⟨w.heap.size, 1, none⟩ = some (.string (tx nm)) ∧ W.cell? ⟨w.heap.size, 2, none⟩ = some (.string (tx tt)) ∧ W.cell? ⟨w.heap.size, 3, none⟩ = some (.slice A' l' c') := ⟨h.1.cell 0, h.1.cell 1, h.1.cell 2, h.1.cell 3⟩

set_option maxRecDepth 100000 in
set_option maxHeartbeats 8000000 in
theorem rwrite_c (ns : List Nd) (A : Option Addr) (n c : Nat) (hn : n ≤ 2000) (hsm : Small ns 2000000) (hr : rightTo ns ns.length = true) : ∀ (d i : Nat) (w : World), i < n → n - i ≤ d → NdRd w.heap.size w A n ns →
    Calls Try.prog 14 #[.slice A n c, .int .i64 i] w fun e w' => e = .returned (.string (tx (wrF ns d i))) ∧ Hid (Below w.heap.size w w')
  | 0, i, w, hi, hd, h => by omega
  | d + 1, i, w, hi, hd, h => by
    have H := Lib.hid h
    have HN : Hid (n = ns.length) := Lib.hid h.1
    have hil : i < ns.length := by have := HN.out; omega
    have hlen := wrF_len hsm hr (by have := HN.out; omega) (Nat.le_refl _) (d + 1) i hil (by have := HN.out; omega)
    have HLEN := Lib.hid hlen
    have hbk := hsm i
    unfold bulkN at hbk
    obtain ⟨b, o, A', l', c', rfl, hb, q1, q2, q3, q4, q5⟩ := h.2 i hil
    obtain ⟨x, hx⟩ : ∃ x, ns[i]'hil = x := ⟨_, rfl⟩
    have hnd : nd ns i = x := by rw [nd_eq ns i hil, hx]
    rw [hx] at q1 q2 q3 q5
    rw [hnd] at hbk
    have hab := attrs_bulk x.attrs
    have hal := nlen_sum x.attrs
    obtain ⟨p, nm, tt, at'⟩ := x
    dsimp only at q1 q2 q3 q5 hbk hab hal
    have HND := Lib.hid hnd
    have HAT := Lib.hid q5
    have HBK : Hid (nm.length ≤ 2000000 ∧ tt.length ≤ 2000000 ∧ (attrsW at').length ≤ 12000000 ∧ at'.length ≤ 2000000) := Lib.hid ⟨by omega, by omega, by omega, by omega⟩
    have HAV : Hid (∀ a ∈ at', a.1.length ≤ 2000000 ∧ a.2.length ≤ 2000000) := Lib.hid (by
      intro a ha
      have hsum : a.1.length + a.2.length + 1 ≤ (at'.map fun a => a.1.length + a.2.length + 1).sum := by
        have hm := List.mem_map_of_mem (f := fun a : List UInt8 × List UInt8 => a.1.length + a.2.length + 1) ha
        exact nmem_sum hm
      omega)
    have hinI : (i : Int) < (n : Int) := by omega
    have X0 := Lib.hid (NB.new w p nm tt A' l' c')
    have htl : ∀ l, (tx l).toList = l := fun l => by rw [ByteArray.toList_eq]; rfl
    clear h hx hnd q5 hbk hab hal hlen
    by_cases hnm : nm = []
    · have hW : Hid (wrF ns (d + 1) i = escL tt) := Lib.hid (by rw [wrF_text (by rw [HND.out]; exact decide_eq_true hnm), HND.out])
      have hte : nm.isEmpty = true := by rw [hnm]; rfl
      rw [hW.out]
      have hs2 : (tx tt).size ≤ 10000000000 := by rw [tx_size]; have := HBK.out; omega
      clear hnm
      go_enter Try.func14, Try.ntmps14
      go_upto_region 2 with fail
      obtain ⟨w0, hw0⟩ : ∃ w0, w.alloc (.cells #[.int .i64 p, .string (tx nm), .string (tx tt), .slice A' l' c'] 32) = w0 := ⟨_, rfl⟩
      rw [hw0] at X0 ⊢
      clear hw0
      obtain ⟨z0, z1, z2, z3⟩ := X0.out.rd
      go_wp2_with fail
      refine (rEscape_c (tx tt) _ hs2 (escL tt) rfl).mono ?_
      rintro e w1 ⟨rfl, b1⟩
      have X1 := Lib.hid (X0.out.step b1.out)
      go_wp2_with fail
      go_ret
      exact ⟨rfl, Lib.hid X1.out.2⟩
    · have hTB : Hid (textB (nd ns i) = false) := Lib.hid (by rw [HND.out]; exact decide_eq_false hnm)
      have hte : nm.isEmpty = false := by
        cases nm with
        | nil => exact absurd rfl hnm
        | cons => rfl
      have hln : l' = at'.length := HAT.out.1
      have HLN := Lib.hid hln
      have s1 : ¬ 9223372036854775807 < 1 + (tx nm).size := by rw [tx_size]; have := HBK.out; omega
      have h0 : (⟨#[60]⟩ : ByteArray) ++ tx nm = tx ([60] ++ nm) := bs_inj (by rw [bs_append]; rfl)
      have H0 : Hid ((⟨#[60]⟩ : ByteArray) ++ tx nm = tx ([60] ++ nm ++ attrsW (at'.take 0))) := Lib.hid (by rw [h0, List.take_zero]; simp [attrsW])
      clear hnm hln h0
      go_enter Try.func14, Try.ntmps14
      go_upto_region 2 with fail
      obtain ⟨w0, hw0⟩ : ∃ w0, w.alloc (.cells #[.int .i64 p, .string (tx nm), .string (tx tt), .slice A' l' c'] 32) = w0 := ⟨_, rfl⟩
      rw [hw0] at X0 ⊢
      clear hw0
      obtain ⟨z0, z1, z2, z3⟩ := X0.out.rd
      go_wp2_with fail
      go_loopw [6, 7] (fun ov kv wr => ∃ (k : Nat) (out : ByteArray), k ≤ l' ∧ kv = .int .i64 k ∧ ov = .string out ∧ Hid (out = tx ([60] ++ nm ++ attrsW (at'.take k))) ∧ Hid (NB w wr p nm tt A' l' c')) (fun _ kv _ => l' - (intOf kv).toNat)
      case atStart => exact ⟨0, _, Nat.zero_le _, rfl, rfl, H0, X0⟩
      case round =>
        clear X0 z0 z1 z2 z3 H0 s1
        obtain ⟨k, out, hk, rfl, rfl, HO, XX⟩ := hrel
        obtain ⟨z0, z1, z2, z3⟩ := XX.out.rd
        by_cases hlt : k < l'
        · have hltI : (k : Int) < (l' : Int) := by omega
          have hkl : k < at'.length := by have := HLN.out; omega
          obtain ⟨b2, o2, rfl, hb2, a1, a2⟩ := HAT.out.2 k hkl
          obtain ⟨u, hu⟩ : ∃ u, (at'[k]'hkl).1 = u := ⟨_, rfl⟩
          obtain ⟨v, hv⟩ : ∃ v, (at'[k]'hkl).2 = v := ⟨_, rfl⟩
          rw [hu] at a1
          rw [hv] at a2
          have r1 : wr.cell? ⟨b2, o2 + k * 2, none⟩ = some (.string (tx u)) := (XX.out.2.cell (p := ⟨b2, o2 + k * 2, none⟩) hb2).trans a1
          have r2 : wr.cell? ⟨b2, o2 + k * 2 + 1, none⟩ = some (.string (tx v)) := (XX.out.2.cell (p := ⟨b2, o2 + k * 2 + 1, none⟩) hb2).trans a2
          have hmem := HAV.out _ (List.getElem_mem hkl)
          rw [hu, hv] at hmem
          obtain ⟨g1, g2⟩ := hmem
          have hEV := escL_len v
          obtain ⟨E, hE⟩ : ∃ E, escL v = E := ⟨_, rfl⟩
          rw [hE] at hEV
          have HE : Hid (escL (bs (tx v)) = E) := Lib.hid hE
          have hout : out.size ≤ 20000000 := by
            rw [HO.out, tx_size, List.length_append, List.length_append, List.length_singleton]
            have := attrsW_le at' k
            have := HBK.out
            omega
          have su : (tx u).size = u.length := tx_size u
          have sE : (tx E).size = E.length := tx_size E
          have t1 : ¬ 9223372036854775807 < out.size + 1 := by omega
          have t2 : ¬ 9223372036854775807 < out.size + 1 + (tx u).size := by omega
          have t3 : ¬ 9223372036854775807 < out.size + 1 + (tx u).size + 2 := by omega
          have t4 : ¬ 9223372036854775807 < out.size + 1 + (tx u).size + 2 + (tx E).size := by omega
          have t5 : ¬ 9223372036854775807 < out.size + 1 + (tx u).size + 2 + (tx E).size + 1 := by omega
          have HNX : Hid (((((out ++ ⟨#[32]⟩) ++ tx u) ++ ⟨#[61, 34]⟩) ++ tx E) ++ ⟨#[34]⟩ = tx ([60] ++ nm ++ attrsW (at'.take (k + 1)))) := Lib.hid (bs_inj (by
            rw [attrsW_next hkl, HO.out]
            simp only [bs_append, bs_tx, attrW]
            rw [hu, hv, hE]
            show [60] ++ nm ++ attrsW (List.take k at') ++ [32] ++ u ++ [61, 34] ++ E ++ [34] = _
            simp only [List.append_assoc]))
          have hs3 : (tx v).size ≤ 10000000000 := by rw [tx_size]; omega
          have hw1 : IntKind.i64.wrap ((k : Int) + 1) = (k : Int) + 1 := by
            simp [IntKind.wrap, IntKind.bits, IntKind.signed]
            have := HLN.out
            have := HBK.out
            omega
          have hB2 : Hid (b2 < w.heap.size) := Lib.hid hb2
          clear a1 a2 hu hv hE hEV su sE g1 g2 hout
          go_upto_region 8 with fail
          clear z0 z1 z2
          go_region_held3 (fun w' => w'.cell? ⟨w.heap.size, 3, none⟩ = some (.slice (some ⟨b2, o2, none⟩) l' c') ∧ w'.cell? ⟨b2, o2 + k * 2, none⟩ = some (.string (tx u)) ∧ w'.cell? ⟨b2, o2 + k * 2 + 1, none⟩ = some (.string (tx v))) (first | exact ⟨z3, r1, r2⟩ | exact ⟨XE.out.rd.2.2.2, (rE.out).1, (rE.out).2⟩ | fail) (first
            | (go_at_call 8; refine (rEscape_c (tx v) _ hs3 E HE.out).mono ?_; rintro e wE ⟨rfl, bE⟩; have XE := Lib.hid (XX.out.step (W' := wE) ((Below.refl _ _).drew.trans bE.out)); have rE : Hid (wE.cell? ⟨b2, o2 + k * 2, none⟩ = some (.string (tx u)) ∧ wE.cell? ⟨b2, o2 + k * 2 + 1, none⟩ = some (.string (tx v))) := Lib.hid ⟨(bE.out.cell (p := ⟨b2, o2 + k * 2, none⟩) (Nat.lt_of_lt_of_le hB2.out XX.out.2.size)).trans r1, (bE.out.cell (p := ⟨b2, o2 + k * 2 + 1, none⟩) (Nat.lt_of_lt_of_le hB2.out XX.out.2.size)).trans r2⟩))
          clear z3 r1 r2 XX
          go_wp2_with fail
          go_roundw
          case rel => exact ⟨k + 1, _, by omega, by go_num, rfl, HNX, XE⟩
          case measure => simp [intOf]; omega
        · obtain rfl : k = l' := by omega
          have hltI : ¬ ((k : Nat) : Int) < ((k : Nat) : Int) := by omega
          have HOH : Hid (out = tx (headW (nd ns i))) := Lib.hid (by
            rw [HO.out, List.take_of_length_le (by have := HLN.out; omega), HND.out]; rfl)
          have hout : out.size ≤ 20000000 := by
            rw [HO.out, tx_size, List.length_append, List.length_append, List.length_singleton]
            have := attrsW_le at' k
            have := HBK.out
            omega
          have NN := Lib.hid (H.out.on XX.out.2)
          have hi0 : Hid (0 ≤ (i : Int) ∧ (i : Int) < ns.length) := Lib.hid (by have := HN.out; omega)
          clear HO
          go_wp2_with fail
          clear z0 z1 z2 z3
          refine (rKids_c ns (some ⟨b, o, none⟩) n c i _ NN.out (by omega)).mono ?_
          intro e w2 hp
          obtain ⟨AK, cK, rfl, hK, bK⟩ := hp
          have hkx : kidsX ns i = kidsN ns i := by unfold kidsX; rw [if_pos hi0.out]
          rw [hkx] at hK ⊢
          obtain ⟨ks, hks⟩ : ∃ ks, kidsN ns i = ks := ⟨_, rfl⟩
          rw [hks] at hK ⊢
          have HKS := Lib.hid hks
          have KR := Lib.hid hK.r
          have X2 := Lib.hid (XX.out.step bK)
          obtain ⟨m, hm⟩ : ∃ m, ks.length = m := ⟨_, rfl⟩
          rw [hm] at KR ⊢
          have HMM := Lib.hid hm
          have HML : Hid (m ≤ 2000) := Lib.hid (by
            rw [← hm, ← hks, kidsN_A]
            have := kidsA_len ns i ns.length
            have := HN.out
            omega)
          clear hK bK hkx hks hm XX NN
          obtain ⟨z0, z1, z2, z3⟩ := X2.out.rd
          by_cases hm0 : m = 0
          · subst hm0
            have hke : Hid (kidsN ns i = []) := Lib.hid (by rw [HKS.out]; exact List.eq_nil_of_length_eq_zero HMM.out)
            have HF : Hid (out ++ ⟨#[47, 62]⟩ = tx (wrF ns (d + 1) i)) := Lib.hid (bs_inj (by
              rw [wrF_none hTB.out hke.out, HOH.out, bs_append]; rfl))
            have t1 : ¬ 9223372036854775807 < out.size + 2 := by omega
            clear hout
            go_wp2_with fail
            go_ret
            exact ⟨ret_str HF.out, Lib.hid X2.out.2⟩
          · have hke : Hid (kidsN ns i ≠ []) := Lib.hid (by
              rw [HKS.out]
              intro e
              apply hm0
              rw [← HMM.out, e]; rfl)
            have hm1 : ((m : Int) == 0) = false := by rw [beq_eq_false_iff_ne]; omega
            have t1 : ¬ 9223372036854775807 < out.size + 1 := by omega
            have HO1 : Hid (out ++ ⟨#[62]⟩ = tx (headW (nd ns i) ++ [62] ++ (ks.take 0).flatMap (wrF ns d))) := Lib.hid (bs_inj (by
              rw [HOH.out, bs_append]
              simp only [List.take_zero, List.flatMap_nil, List.append_nil]; rfl))
            have HTOT : Hid (headW (nd ns i) ++ ([62] ++ ks.flatMap (wrF ns d) ++ endL nm) = wrF ns (d + 1) i) := Lib.hid (by
              rw [wrF_kids hTB.out hke.out, HKS.out, HND.out])
            have HLT : Hid ((headW (nd ns i)).length + 1 + (ks.flatMap (wrF ns d)).length + nm.length + 3 ≤ 10000000000000) := Lib.hid (by
              have h1 := HLEN.out
              rw [← HTOT.out] at h1
              simp only [List.length_append, List.length_singleton, endL, List.length_cons, List.length_nil] at h1
              omega)
            clear hout hm0
            go_wp2_with fail
            go_loopw [6, 9] (fun ov kv wr => ∃ (q : Nat) (out : ByteArray), q ≤ m ∧ kv = .int .i64 q ∧ ov = .string out ∧ Hid (out = tx (headW (nd ns i) ++ [62] ++ (ks.take q).flatMap (wrF ns d))) ∧ Hid (NB w wr p nm tt A' k c' ∧ IoR wr.heap.size wr AK m ks)) (fun _ kv _ => m - (intOf kv).toNat)
            case atStart => exact ⟨0, _, Nat.zero_le _, rfl, rfl, HO1, Lib.hid ⟨X2.out, KR.out⟩⟩
            case round =>
              clear X2 KR z0 z1 z2 z3 HO1 t1
              obtain ⟨q, out, hq, rfl, rfl, HO, HH⟩ := hrel
              have XX := Lib.hid HH.out.1
              have KR := Lib.hid HH.out.2
              clear HH
              obtain ⟨z0, z1, z2, z3⟩ := XX.out.rd
              have hout : out.size ≤ 10000000000000 := by
                rw [HO.out, tx_size, List.length_append, List.length_append, List.length_singleton]
                have := flat_le (wrF ns d) ks q
                have := HLT.out
                omega
              by_cases hlt : q < m
              · have hltJ : (q : Int) < (m : Int) := by omega
                have hql : q < ks.length := by have := HMM.out; omega
                obtain ⟨b2, o2, rfl, hb2, a1⟩ := KR.out.2 q hql
                obtain ⟨x, hx⟩ : ∃ x, ks[q]'hql = x := ⟨_, rfl⟩
                rw [hx] at a1
                have hmem : x ∈ kidsN ns i := by rw [HKS.out, ← hx]; exact List.getElem_mem hql
                have hlx := kidsN_lt (right_par hr) hmem
                have hxn : x < n := by have := HN.out; omega
                have hxd : n - x ≤ d := by omega
                have hwl := wrF_len hsm hr (by have := HN.out; omega) (Nat.le_refl _) d x hlx.2 (by have := HN.out; omega)
                obtain ⟨Z, hZ⟩ : ∃ Z, wrF ns d x = Z := ⟨_, rfl⟩
                rw [hZ] at hwl
                have sZ : (tx Z).size = Z.length := tx_size Z
                have t2 : ¬ 9223372036854775807 < out.size + (tx Z).size := by omega
                have HNX : Hid (out ++ tx Z = tx (headW (nd ns i) ++ [62] ++ (ks.take (q + 1)).flatMap (wrF ns d))) := Lib.hid (bs_inj (by
                  rw [flat_next _ hql, hx, hZ, HO.out, bs_append]
                  simp only [bs_tx, List.append_assoc]))
                have hw1 : IntKind.i64.wrap ((q : Int) + 1) = (q : Int) + 1 := by
                  simp [IntKind.wrap, IntKind.bits, IntKind.signed]
                  have := HML.out
                  omega
                have NN := Lib.hid (H.out.on XX.out.2)
                have hrec := rwrite_c ns (some ⟨b, o, none⟩) n c hn hsm hr d x wr hxn hxd NN.out
                rw [hZ] at hrec
                have HREC := Lib.hid hrec
                clear hrec NN hmem hlx hx hZ hwl sZ hout HO
                go_wp2_with (go_at_call 14; refine HREC.out.mono ?_; rintro e w3 ⟨rfl, b3⟩)
                have X3 : Hid (NB w w3 p nm tt A' k c' ∧ IoR w3.heap.size w3 (some ⟨b2, o2, none⟩) m ks) := Lib.hid ⟨XX.out.step b3.out, KR.out.on b3.out⟩
                go_roundw
                case rel => exact ⟨q + 1, _, by omega, by go_num, rfl, HNX, X3⟩
                case measure => simp [intOf]; omega
              · obtain rfl : q = m := by omega
                have t2 : ¬ 9223372036854775807 < out.size + 2 := by omega
                have t3 : ¬ 9223372036854775807 < out.size + 2 + (tx nm).size := by rw [tx_size]; have := HBK.out; omega
                have t4 : ¬ 9223372036854775807 < out.size + 2 + (tx nm).size + 1 := by rw [tx_size]; have := HBK.out; omega
                have HF : Hid (((out ++ ⟨#[60, 47]⟩) ++ tx nm) ++ ⟨#[62]⟩ = tx (wrF ns (d + 1) i)) := Lib.hid (bs_inj (by
                  rw [← HTOT.out, HO.out, List.take_of_length_le (by have := HMM.out; omega)]
                  simp only [bs_append, bs_tx, endL]
                  show headW (nd ns i) ++ [62] ++ ks.flatMap (wrF ns d) ++ [60, 47] ++ nm ++ [62] = headW (nd ns i) ++ ([62] ++ ks.flatMap (wrF ns d) ++ ([60, 47] ++ nm ++ [62]))
                  simp only [List.append_assoc]))
                clear hout HO
                go_wp2_with fail
                go_ret
                exact ⟨ret_str HF.out, Lib.hid XX.out.2⟩
end Go.Proofs.Ytkccockdnjjanaa
