/-
  The document's own answers (layer 4): the walk of Right.
-/
import Derived.Test.YtkccockdnjjanaaGreatDoorMtRight
import Derived.Deep.RegionHeld3
import Derived.BigQuiet
import Derived.Deep.CutRange
namespace Nwl
open Go
theorem pop_nil (p : Int) : popS [] p = [] := rfl
theorem pop_head (p : Int) (S : List Int) : popS (p :: S) p = p :: S := by unfold popS; rw [List.dropWhile_cons]; simp
theorem pop_on {t p : Int} (S : List Int) (h : t ≠ p) : popS (t :: S) p = popS S p := by
  unfold popS
  rw [List.dropWhile_cons, (by rw [bne_iff_ne]; exact h : (t != p) = true), if_pos rfl]
end Nwl
namespace Go.Proofs.YtkccockdnjjanaaGreatDoor
open Nwl
open Go.RowKit Go.Maps
set_option linter.unusedVariables false
set_option linter.unusedSimpArgs false
def slN : Value → Nat
  | .slice _ n _ => n
  | _ => 0
theorem bel_dr {B : Nat} {w w' : World} (h : Below B w w') (k : Nat) : Below B w (w'.drewN k) := ⟨h.os, h.tape, h.output, h.size, h.block⟩
theorem tx_ne {l : List UInt8} (h : ¬ l = []) : (tx l) ≠ ⟨#[]⟩ := fun e => h (by have := congrArg bs e; rwa [bs_tx] at this)
/-- a node's box, what is open, and what lies behind -/
def RX (w W : World) (xb : Nat) (p : Int) (nm tt : List UInt8) (A' : Option Addr) (l' c' : Nat) (Q : Option Addr) (m d : Nat) (S : List Int) : Prop := Below w.heap.size w W ∧ Blk W xb 32 #[.int .i64 p, .string (tx nm), .string (tx tt), .slice A' l' c'] ∧ StO w.heap.size W Q m d S ∧ w.heap.size ≤ xb
theorem RX.drew {w W : World} {xb : Nat} {p : Int} {nm tt : List UInt8} {A' : Option Addr} {l' c' : Nat} {Q : Option Addr} {m d : Nat} {S : List Int} (h : RX w W xb p nm tt A' l' c' Q m d S) : RX w W.drew xb p nm tt A' l' c' Q m d S := ⟨h.1.drew, h.2.1, h.2.2.1, h.2.2.2⟩
theorem RX.below {w W W' : World} {xb : Nat} {p : Int} {nm tt : List UInt8} {A' : Option Addr} {l' c' : Nat} {Q : Option Addr} {m d : Nat} {S : List Int} (h : RX w W xb p nm tt A' l' c' Q m d S) (hb : Below W.heap.size W W') : RX w W' xb p nm tt A' l' c' Q m d S := ⟨h.1.trans (hb.mono h.1.size), h.2.1.below hb, h.2.2.1.below hb, h.2.2.2⟩

set_option maxRecDepth 100000 in
set_option maxHeartbeats 16000000 in
theorem right_main (B b o n c : Nat) (ns : List Nd) (w : World) (hB : B ≤ w.heap.size) (hbB : b < B) (hn : n = ns.length) (h0 : 0 < n) (hle : n ≤ 2000) (hp0 : parAt ns (0 : Nat) = -1) (ht0 : textB (nd ns 0) = false)
    (hN : ∀ j (hj : j < ns.length), ∃ (A' : Option Addr) (l c : Nat), w.cell? ⟨b, o + j * 4, none⟩ = some (.int .i64 (ns[j]).parent) ∧ w.cell? ⟨b, o + j * 4 + 1, none⟩ = some (.string (tx (ns[j]).name)) ∧ w.cell? ⟨b, o + j * 4 + 2, none⟩ = some (.string (tx (ns[j]).text)) ∧ w.cell? ⟨b, o + j * 4 + 3, none⟩ = some (.slice A' l c) ∧ AttR B w A' l (ns[j]).attrs)
    (hS : ∀ x ∈ ns, x.name.length ≤ 1000000000 ∧ x.text.length ≤ 1000000000 ∧ x.attrs.length ≤ 1000000000 ∧ ∀ a ∈ x.attrs, a.1.length ≤ 1000000000 ∧ a.2.length ≤ 1000000000) (r : Bool) (hr : rightB ns = r) :
    Calls Tryz.prog 18 #[.slice (some ⟨b, o, none⟩) n c] w fun e w' => e = .returned (.bool r) ∧ Hid (Below w.heap.size w w') := by
  obtain ⟨i0, hi0, hz0, hz1, hz2⟩ := info_parts info_i
  have HN := Lib.hid hN
  have HS := Lib.hid hS
  have HR := Lib.hid hr
  have HL := Lib.hid hn
  have HP0 := Lib.hid hp0
  have HT0 := Lib.hid ht0
  obtain ⟨A0, l0, c0, q1, q2, -⟩ := hN 0 (by omega)
  have e0 : ns[0]'(by omega) = nd ns 0 := (nd_eq ns 0 (by omega)).symm
  have q1' : w.cell? ⟨b, o, none⟩ = some (.int .i64 (-1)) := by
    have : (ns[0]'(by omega)).parent = -1 := by rw [e0]; exact hp0
    rw [this] at q1
    simpa using q1
  obtain ⟨nm0, hnm0⟩ : ∃ x, (ns[0]'(by omega)).name = x := ⟨_, rfl⟩
  have q2' : w.cell? ⟨b, o + 1, none⟩ = some (.string (tx nm0)) := by rw [hnm0] at q2; simpa using q2
  have hne0 : nm0.isEmpty = false := by
    have : ¬ (nd ns 0).name = [] := of_decide_eq_false ht0
    rw [← e0, hnm0] at this
    cases nm0 with
    | nil => exact absurd rfl this
    | cons => rfl
  have g0 : (tx nm0).toList = nm0 := by rw [ByteArray.toList_eq]; rfl
  have h0I : ¬ (n : Int) = 0 := by omega
  have h0b : ((n : Int) == 0) = false := by rw [beq_eq_false_iff_ne]; exact h0I
  have hleI : ¬ (2000 : Int) < (n : Int) := by omega
  have h0J : (0 : Int) < (n : Int) := by omega
  clear hN hS hr hn hp0 ht0 q1 q2 e0 hnm0
  go_enter Tryz.func18, Tryz.ntmps18
  go_wp2_with fail
  clear q1' q2' hne0 g0 h0I h0b hleI h0J
  go_loopw [3, 4] (fun sv iv wr => ∃ (i m : Nat) (Q : Option Addr) (d : Nat), i ≤ n ∧ iv = .int .i64 i ∧ sv = .slice Q m d ∧ m ≤ i ∧ Hid (Below w.heap.size w wr ∧ StO w.heap.size wr Q m d (openS ns i) ∧ rightTo ns i = true)) (fun _ iv _ => n - (intOf iv).toNat)
  case atStart => exact ⟨0, 0, none, 0, by omega, rfl, rfl, by omega, Lib.hid ⟨Below.refl _ _, StO.nil _ _, rfl⟩⟩
  case round =>
    obtain ⟨i, m, Q, d, hi, rfl, rfl, hmi, hh⟩ := hrel
    by_cases hlt : i < n
    · have hil : i < ns.length := by have := HL.out; omega
      have HIL := Lib.hid hil
      have BB := Lib.hid hh.out.1
      have SS := Lib.hid hh.out.2.1
      have RT := Lib.hid hh.out.2.2
      obtain ⟨A', l', c', q1, q2, q3, q4, q5⟩ := HN.out i hil
      have hmem : ns[i]'hil ∈ ns := List.getElem_mem hil
      obtain ⟨u1, u2, u3, u4⟩ := HS.out _ hmem
      have hnd : nd ns i = ns[i]'hil := nd_eq ns i hil
      obtain ⟨x, hx⟩ : ∃ x, ns[i]'hil = x := ⟨_, rfl⟩
      rw [hx] at q1 q2 q3 q5 u1 u2 u3 u4 hnd
      clear hx hmem hh
      obtain ⟨p, nm, tt, at'⟩ := x
      dsimp only at q1 q2 q3 q5 u1 u2 u3 u4
      have HND := Lib.hid hnd
      have HAT := Lib.hid q5
      have HSA := Lib.hid u4
      have hl9 : l' ≤ 1000000000 := by rw [q5.1]; exact u3
      have hb9 : b < w.heap.size := by omega
      have p1 : wr.cell? ⟨b, o + i * 4, none⟩ = some (.int .i64 p) := (BB.out.cell (p := ⟨b, o + i * 4, none⟩) hb9).trans q1
      have p2 : wr.cell? ⟨b, o + i * 4 + 1, none⟩ = some (.string (tx nm)) := (BB.out.cell (p := ⟨b, o + i * 4 + 1, none⟩) hb9).trans q2
      have p3 : wr.cell? ⟨b, o + i * 4 + 2, none⟩ = some (.string (tx tt)) := (BB.out.cell (p := ⟨b, o + i * 4 + 2, none⟩) hb9).trans q3
      have p4 : wr.cell? ⟨b, o + i * 4 + 3, none⟩ = some (.slice A' l' c') := (BB.out.cell (p := ⟨b, o + i * 4 + 3, none⟩) hb9).trans q4
      have hltI : (i : Int) < (n : Int) := by omega
      have s1 : (tx nm).size ≤ maxLen := by rw [tx_size]; unfold maxLen; omega
      have s2 : (tx tt).size ≤ maxLen := by rw [tx_size]; unfold maxLen; omega
      have g1 : (tx nm).toList = nm := by rw [ByteArray.toList_eq]; rfl
      have g2 : (tx tt).toList = tt := by rw [ByteArray.toList_eq]; rfl
      obtain ⟨x1, hx1⟩ : ∃ x, nameL (bs (tx nm)) = x := ⟨_, rfl⟩
      have HX1 := Lib.hid hx1
      obtain ⟨x3, hx3⟩ : ∃ x, attrsB at' = x := ⟨_, rfl⟩
      have HX3 := Lib.hid hx3
      obtain ⟨y2, hy2⟩ : ∃ y, allL (bs (tx tt)) = y := ⟨_, rfl⟩
      have HY2 := Lib.hid hy2
      clear q1 q2 q3 q4 q5 u1 u2 u3 u4 hx1 hx3 hy2 hnd
      go_upto_region 8 with fail
      obtain ⟨xb, hxb⟩ : ∃ x, wr.heap.size = x := ⟨_, rfl⟩
      have R0 : Hid (RX w (wr.alloc (.cells #[.int .i64 p, .string (tx nm), .string (tx tt), .slice A' l' c'] 32)) xb p nm tt A' l' c' Q m d (openS ns i)) := Lib.hid ⟨BB.out.alloc BB.out.size _, by rw [← hxb]; exact Blk.new wr _ _, SS.out.below ((Below.refl _ _).alloc (Nat.le_refl _) _), by rw [← hxb]; exact BB.out.size⟩
      rw [hxb]
      generalize wr.alloc (.cells #[.int .i64 p, .string (tx nm), .string (tx tt), .slice A' l' c'] 32) = wb at *
      go_loopw [3] (fun sv wq => ∃ (m2 : Nat) (Q2 : Option Addr) (d2 : Nat) (S : List Int), sv = .slice Q2 m2 d2 ∧ m2 ≤ m ∧ Hid (RX w wq xb p nm tt A' l' c' Q2 m2 d2 S ∧ popS S p = popS (openS ns i) p)) (fun sv _ => slN sv)
      case atStart => exact ⟨m, Q, d, _, rfl, Nat.le_refl _, Lib.hid ⟨R0.out, rfl⟩⟩
      case round =>
        obtain ⟨m2, Q2, d2, S, rfl, hm2, hh⟩ := hrel
        have XX := Lib.hid hh.out.1
        have PP := Lib.hid hh.out.2
        clear hh
        obtain ⟨z0, z1, z2, z3⟩ : _ ∧ _ ∧ _ ∧ _ := ⟨XX.out.2.1.cell 0, XX.out.2.1.cell 1, XX.out.2.1.cell 2, XX.out.2.1.cell 3⟩
        cases S with
        | nil =>
          obtain rfl : m2 = 0 := XX.out.2.2.1.1
          by_cases hiz : i = 0
          · have hizI : ¬ (0 : Int) < (i : Int) := by omega
            have htx : textB (nd ns i) = false := by rw [hiz]; exact HT0.out
            have NE : Hid (nodeB ns i = (nameL nm && (decide (tt = []) && (attrsB at' && decide (([] : List Int).length < 20))))) := Lib.hid (by
              have h1 := node_elem htx [] (by rw [hiz]; exact ⟨fun _ => by decide, fun _ => stand_first HP0.out HT0.out⟩)
              rw [HND.out] at h1
              exact h1)
            have hne : nm.isEmpty = false := by
              have : ¬ nm = [] := by
                have := of_decide_eq_false htx
                rw [HND.out] at this
                exact this
              cases nm with
              | nil => exact absurd rfl this
              | cons => rfl
            have HIZ := Lib.hid hiz
            have TX := Lib.hid htx
            have CH : Hid (chainL ns (parAt ns i) = []) := Lib.hid (by rw [hiz, HP0.out, chainL_neg])
            clear htx hiz
            go_upto_region 8 with fail
            go_quiet (fail)
            have YY : Hid (RX w (wr.drewN nq) xb p nm tt A' l' c' Q2 0 d2 []) := Lib.hid (XX.out.below (bel_dr (Below.refl _ _) _))
            generalize wr.drewN nq = wq at *
            clear z0 z1 z2 z3
            obtain ⟨z0, z1, z2, z3⟩ : _ ∧ _ ∧ _ ∧ _ := ⟨YY.out.2.1.cell 0, YY.out.2.1.cell 1, YY.out.2.1.cell 2, YY.out.2.1.cell 3⟩
            obtain ⟨z0, z1, z2, z3⟩ : _ ∧ _ ∧ _ ∧ _ := ⟨YY.out.2.1.cell 0, YY.out.2.1.cell 1, YY.out.2.1.cell 2, YY.out.2.1.cell 3⟩
            go_wp2_with fail
            refine (rName_b (tx nm) _ s1 x1 HX1.out).mono ?_
            rintro e w' ⟨rfl, rfl⟩
            cases x1 with
            | false =>
              have HF : Hid (false = r) := Lib.hid (by rw [← HR.out, rB_bad HIL.out (by have hq := HX1.out; rw [bs_tx] at hq; rw [NE.out, hq]; rfl)])
              go_wp2_with fail
              go_ret
              exact ⟨ret_bool HF.out, Lib.hid YY.out.1⟩
            | true =>
              by_cases hx2 : tt = []
              · have hte : tt.isEmpty = true := by rw [hx2]; rfl
                have NE2 : Hid (nodeB ns i = (x3 && decide ((([] : List Int)).length < 20))) := Lib.hid (by have hq := HX1.out; rw [bs_tx] at hq; rw [NE.out, hq, decide_eq_true hx2, HX3.out]; rfl)
                clear hx2
                go_wp2_with fail
                refine (rattrs_c B at' A' l' c' _ (Nat.le_trans hB YY.out.1.size) (HAT.out.below (YY.out.1.mono hB)) hl9 HSA.out x3 HX3.out).mono ?_
                rintro e w9 ⟨rfl, b9⟩
                have X9 := Lib.hid (YY.out.below b9.out)
                clear b9
                cases x3 with
                | false =>
                  have HF : Hid (false = r) := Lib.hid (by rw [← HR.out, rB_bad HIL.out (by rw [NE2.out]; rfl)])
                  go_wp2_with fail
                  go_ret
                  exact ⟨ret_bool HF.out, Lib.hid X9.out.1⟩
                | true =>
                  by_cases hx4 : 0 < 20
                  · have hx4I : ¬ (20 : Int) ≤ ((0 : Nat) : Int) := by omega
                    have hx4J : (0 : Int) < 20 := by omega
                    have NE3 : Hid (nodeB ns i = true) := Lib.hid (by
                      rw [NE2.out]
                      have : (([] : List Int)).length < 20 := by have := X9.out.2.2.1.1; omega
                      rw [decide_eq_true this]; rfl)
                    have HCS := Lib.hid (X9.out.2.2.1.2.alloc (.cells #[.int .i64 ((i : Nat) : Int)] 3))
                    have hws : w.heap.size ≤ w9.heap.size := X9.out.1.size
                    have hm9 : m ≤ 2000 := by omega
                    have hc0 := cells_one_new w9 (.int .i64 ((i : Nat) : Int)) 3
                    go_wp2_with (at_builtin; go_must (refine wpList_append_own_at _ rfl _ _ 35 rfl w.heap.size 3 i0 _ 1 8 Tryz.underlying35 hi0 hz0 hz1 hz2 rfl (by decide) _ 0 (((([] : List Int)).reverse).map (.int .i64 ·)) rfl HCS.out ⟨w9.heap.size, 0, none⟩ 1 1 [.int .i64 ((i : Nat) : Int)] rfl rfl hc0 (by simp [Value.oneCell']) (by unfold maxLen; omega) (by omega) (by simp; omega) ?_); intro v' w5 hown5 hgrow5 _ _; obtain ⟨A5, c5, rfl⟩ := own_form hown5)
                    have HH : Hid (Below w.heap.size w w5 ∧ StO w.heap.size w5 A5 (0 + 1) c5 (openS ns (i + 1)) ∧ rightTo ns (i + 1) = true) := Lib.hid (by
                      have h5 := rightTo_next RT.out NE3.out
                      refine ⟨(X9.out.1.alloc hws _).grown hgrow5 (by simp; omega) (fun k hk => (HCS.out.lt k hk).1), ?_, h5⟩
                      rw [open_next h5 TX.out, CH.out]
                      have h6 := X9.out.2.2.1.1
                      exact ⟨by rw [List.length_cons, ← h6], by rw [List.reverse_cons, List.map_append]; exact hown5⟩)
                    clear hown5 hgrow5
                    go_wp2_with fail
                    go_roundw
                    case rel => exact ⟨i + 1, 0 + 1, A5, c5, by omega, by go_num, rfl, by omega, HH⟩
                    case measure => simp [intOf]; omega
                  · have hx4I : (20 : Int) ≤ ((0 : Nat) : Int) := by omega
                    have NE3 : Hid (nodeB ns i = false) := Lib.hid (by
                      rw [NE2.out]
                      have : ¬ (([] : List Int)).length < 20 := by have := X9.out.2.2.1.1; omega
                      rw [decide_eq_false this]; rfl)
                    exact absurd (by decide) hx4
              · have hte : tt.isEmpty = false := by cases tt with | nil => exact absurd rfl hx2 | cons => rfl
                have NE2 : Hid (nodeB ns i = false) := Lib.hid (by have hq := HX1.out; rw [bs_tx] at hq; rw [NE.out, hq, decide_eq_false hx2]; rfl)
                clear hx2
                have HF : Hid (false = r) := Lib.hid (by rw [← HR.out, rB_bad HIL.out NE2.out])
                go_wp2_with fail
                go_ret
                exact ⟨ret_bool HF.out, Lib.hid YY.out.1⟩
          · have hiz1 : (0 : Int) < (i : Int) := by omega
            go_upto_region 8 with fail
            go_quiet (fail)
            have YY : Hid (RX w (wr.drewN nq) xb p nm tt A' l' c' Q2 0 d2 []) := Lib.hid (XX.out.below (bel_dr (Below.refl _ _) _))
            generalize wr.drewN nq = wq at *
            clear z0 z1 z2 z3
            obtain ⟨z0, z1, z2, z3⟩ : _ ∧ _ ∧ _ ∧ _ := ⟨YY.out.2.1.cell 0, YY.out.2.1.cell 1, YY.out.2.1.cell 2, YY.out.2.1.cell 3⟩
            have HF : Hid (false = r) := Lib.hid (by
              rw [← HR.out]
              obtain ⟨k, rfl⟩ : ∃ k, i = k + 1 := ⟨i - 1, by omega⟩
              refine (rB_bad HIL.out (stand_no ?_)).symm
              have h1 := open_pop RT.out p
              have h2 := PP.out
              have hpk : parAt ns (k + 1 : Nat) = p := by
                show (nd ns ((k + 1 : Nat) : Int).toNat).parent = p
                rw [Int.toNat_natCast, HND.out]
              rw [hpk]
              cases hc : (chainL ns (innerN ns k)).contains p with
              | false => rfl
              | true =>
                exfalso
                rw [hc, if_pos rfl] at h1
                rw [pop_nil, h1] at h2
                rw [List.contains_iff_mem] at hc
                have hb := innerN_bound (right_par RT.out)
                have hle := chain_le (right_par RT.out) hb.1 (by omega) hc
                rw [chainL_step (right_par RT.out) hle.1 (by omega)] at h2
                cases h2)
            go_wp2_with fail
            go_ret
            exact ⟨ret_bool HF.out, Lib.hid YY.out.1⟩
        | cons t S =>
          obtain ⟨g, rfl, hg1, hg2, hg3, hg4, hg5, hg6⟩ := XX.out.2.2.1.top
          have hm3 : (0 : Int) < (m2 : Int) := by omega
          have hm4 : ((m2 : Int) - 1) = (S.length : Int) := by omega
          have HP : Hid (parAt ns i = p) := Lib.hid (by
            show (nd ns (i : Int).toNat).parent = p
            rw [Int.toNat_natCast, HND.out])
          by_cases htp : t = p
          · subst htp
            subst hg2
            have H0 : Hid (∃ k, i = k + 1 ∧ (chainL ns (innerN ns k)).contains t = true ∧ chainL ns t = t :: S) := Lib.hid (by
              have h2 := PP.out
              rw [pop_head] at h2
              cases i with
              | zero => cases h2
              | succ k =>
                have h1 := open_pop RT.out t
                rw [← h2] at h1
                cases hc : (chainL ns (innerN ns k)).contains t with
                | false => rw [hc] at h1; cases h1
                | true => rw [hc, if_pos rfl] at h1; exact ⟨k, rfl, hc, h1.symm⟩)
            have hiz1 : (0 : Int) < (i : Int) := by obtain ⟨k, hk, -⟩ := H0.out; omega
            have hd : decide ((t : Int) = t) = true := decide_eq_true rfl
            have CH : Hid (chainL ns (parAt ns i) = t :: S) := Lib.hid (by
              obtain ⟨k, rfl, -, h3⟩ := H0.out
              rw [HP.out, h3])
            have hm5 : ¬ ((S.length : Int) + 1 = 0) := by omega
            have hm6 : ((S.length : Int) + 1 == 0) = false := by rw [beq_eq_false_iff_ne]; exact hm5
            by_cases hnm : nm = []
            · have TX : Hid (textB (nd ns i) = true) := Lib.hid (by rw [HND.out]; exact decide_eq_true hnm)
              have hne : nm.isEmpty = true := by rw [hnm]; rfl
              have NE : Hid (nodeB ns i = (decide (tt ≠ []) && (allL tt && (decide (at' = []) && !(textB (nd ns (sibK ns t (i - 1))) && decide (parAt ns (sibK ns t (i - 1)) = t)))))) := Lib.hid (by
                obtain ⟨k, rfl, hc, h3⟩ := H0.out
                have h4 := stand_rt (by rw [HP.out]; exact hc) TX.out
                rw [HP.out, ← sib_text RT.out (List.contains_iff_mem.1 hc), HND.out] at h4
                exact h4)
              clear hnm
              go_upto_region 8 with fail
              go_quiet (fail)
              have YY : Hid (RX w (wr.drewN nq) xb t nm tt A' l' c' (some ⟨g, 0, none⟩) (S.length + 1) d2 (t :: S)) := Lib.hid (XX.out.below (bel_dr (Below.refl _ _) _))
              generalize wr.drewN nq = wq at *
              clear z0 z1 z2 z3 hg5 hg6
              obtain ⟨z0, z1, z2, z3⟩ : _ ∧ _ ∧ _ ∧ _ := ⟨YY.out.2.1.cell 0, YY.out.2.1.cell 1, YY.out.2.1.cell 2, YY.out.2.1.cell 3⟩
              have HI1 : Hid (∃ k : Nat, i = k + 1) := Lib.hid (by obtain ⟨k, hk, -⟩ := H0.out; exact ⟨k, hk⟩)
              have hi1 : (i : Int) - 1 = ((i - 1 : Nat) : Int) := by omega
              have hin : i < n := hlt
              go_upto_region 17 with fail
              go_loopw [6] (fun jv wz => ∃ j : Nat, j < i ∧ jv = .int .i64 j ∧ Hid (RX w wz xb t nm tt A' l' c' (some ⟨g, 0, none⟩) (S.length + 1) d2 (t :: S) ∧ sibK ns t j = sibK ns t (i - 1))) (fun jv _ => (intOf jv).toNat)
              case atStart => exact ⟨i - 1, by omega, by go_num, Lib.hid ⟨YY.out, rfl⟩⟩
              case round =>
                obtain ⟨j, hj, rfl, hh⟩ := hrel
                have ZZ := Lib.hid hh.out.1
                have SB := Lib.hid hh.out.2
                clear hh z0 z1 z2 z3 p1 p2 p3 p4
                obtain ⟨z0, z1, z2, z3⟩ : _ ∧ _ ∧ _ ∧ _ := ⟨ZZ.out.2.1.cell 0, ZZ.out.2.1.cell 1, ZZ.out.2.1.cell 2, ZZ.out.2.1.cell 3⟩
                have hjl : j < ns.length := by have := HIL.out; omega
                obtain ⟨A6, l6, c6, q1, q2, -⟩ := HN.out j hjl
                have ej : nd ns j = ns[j]'hjl := nd_eq ns j hjl
                rw [← ej] at q1 q2
                obtain ⟨pj, hpj⟩ : ∃ x, (nd ns j).parent = x := ⟨_, rfl⟩
                obtain ⟨nj, hnj⟩ : ∃ x, (nd ns j).name = x := ⟨_, rfl⟩
                have g3 : (tx nj).toList = nj := by rw [ByteArray.toList_eq]; rfl
                rw [hpj] at q1
                rw [hnj] at q2
                have r1 : wr.cell? ⟨b, o + j * 4, none⟩ = some (.int .i64 pj) := (ZZ.out.1.cell (p := ⟨b, o + j * 4, none⟩) hb9).trans q1
                have r2 : wr.cell? ⟨b, o + j * 4 + 1, none⟩ = some (.string (tx nj)) := (ZZ.out.1.cell (p := ⟨b, o + j * 4 + 1, none⟩) hb9).trans q2
                have hjn : (j : Int) < (n : Int) := by omega
                have PJ : Hid (parAt ns j = pj) := Lib.hid (by
                  show (nd ns (j : Int).toNat).parent = pj
                  rw [Int.toNat_natCast, hpj])
                have TJ : Hid (textB (nd ns j) = decide (nj = [])) := Lib.hid (by unfold textB; rw [hnj])
                clear q1 q2 ej hpj hnj hjl
                by_cases hgo : 0 < j ∧ pj ≠ t
                · have hj1 : (0 : Int) < (j : Int) := by omega
                  have hj4 : 0 < j := hgo.1
                  have hd2 : decide ((0 : Int) < (j : Int)) = true := decide_eq_true hj1
                  have hd3 : decide (0 < j) = true := decide_eq_true hj4
                  have hd1 : decide (pj = t) = false := decide_eq_false hgo.2
                  have hd5 : (pj != t) = true := by rw [bne_iff_ne]; exact hgo.2
                  have hj2 : (j : Int) - 1 = ((j - 1 : Nat) : Int) := by omega
                  have hj3 : j - 1 < j := by omega
                  have SB2 : Hid (sibK ns t (j - 1) = sibK ns t (i - 1)) := Lib.hid (by
                    rw [← SB.out]
                    obtain ⟨q, rfl⟩ : ∃ q, j = q + 1 := ⟨j - 1, by omega⟩
                    show sibK ns t q = if parAt ns (q + 1 : Nat) = t then q + 1 else sibK ns t q
                    rw [if_neg (by rw [PJ.out]; exact hgo.2)])
                  clear hgo
                  go_upto_region 17 with fail
                  go_quiet (fail)
                  go_wp2_with fail
                  exact ⟨⟨j - 1, by omega, by go_num, Lib.hid ⟨ZZ.out.below (bel_dr (Below.refl _ _) _), SB2.out⟩⟩, by simp only [intOf]; omega⟩
                · have SK : Hid (sibK ns t (i - 1) = j) := Lib.hid (by
                    rw [← SB.out]
                    by_cases e : pj = t
                    · exact sib_same ns t j (by rw [PJ.out]; exact e)
                    · obtain rfl : j = 0 := by
                        by_cases e0 : 0 < j
                        · exact absurd ⟨e0, e⟩ hgo
                        · omega
                      rfl)
                  have hex : (0 < j ∧ pj = t) ∨ j = 0 := by
                    by_cases e0 : 0 < j
                    · exact .inl ⟨e0, by by_cases e : pj = t; exact e; exact absurd ⟨e0, e⟩ hgo⟩
                    · exact .inr (by omega)
                  clear hgo
                  rcases hex with hex | hex
                  · obtain ⟨hj4, hpt⟩ := hex
                    have hj1 : (0 : Int) < (j : Int) := by omega
                    have hd2 : decide ((0 : Int) < (j : Int)) = true := decide_eq_true hj1
                    have hd3 : decide (0 < j) = true := decide_eq_true hj4
                    have hd1 : decide (pj = t) = true := decide_eq_true hpt
                    have hd5 : (pj != t) = false := by rw [hpt]; simp
                    have HPT := Lib.hid hpt
                    clear hpt
                    go_upto_region 17 with fail
                    go_quiet (fail)
                    go_upto_region 19 with fail
                    have VV : Hid (RX w (wr.drewN nq) xb t nm tt A' l' c' (some ⟨g, 0, none⟩) (S.length + 1) d2 (t :: S)) := Lib.hid (ZZ.out.below (bel_dr (Below.refl _ _) _))
                    have r1v : (wr.drewN nq).cell? ⟨b, o + j * 4, none⟩ = some (.int .i64 pj) := r1
                    have r2v : (wr.drewN nq).cell? ⟨b, o + j * 4 + 1, none⟩ = some (.string (tx nj)) := r2
                    clear r1 r2 z0 z1 z2 z3
                    generalize wr.drewN nq = wv at *
                    obtain ⟨z0, z1, z2, z3⟩ : _ ∧ _ ∧ _ ∧ _ := ⟨VV.out.2.1.cell 0, VV.out.2.1.cell 1, VV.out.2.1.cell 2, VV.out.2.1.cell 3⟩
                    by_cases hx2 : tt = []
                    · have hte : tt.isEmpty = true := by rw [hx2]; rfl
                      have HF : Hid (false = r) := Lib.hid (by rw [← HR.out, rB_bad HIL.out (by rw [NE.out, decide_eq_false (fun h => h hx2)]; rfl)])
                      clear hx2
                      go_quiet (fail)
                      go_wp2_with fail
                      go_ret
                      exact ⟨ret_bool HF.out, Lib.hid (bel_dr VV.out.1 _)⟩
                    · have hte : tt.isEmpty = false := by
                        cases tt with
                        | nil => exact absurd rfl hx2
                        | cons => rfl
                      have TT : Hid (decide (tt ≠ []) = true) := Lib.hid (decide_eq_true hx2)
                      clear hx2
                      cases y2 with
                      | false =>
                        have HF : Hid (false = r) := Lib.hid (by
                          have hq := HY2.out
                          rw [bs_tx] at hq
                          rw [← HR.out, rB_bad HIL.out (by rw [NE.out, TT.out, hq]; rfl)])
                        go_quiet ((go_at_call 33; exact Calls.quiet_of_same ((rall_b _ _ s2 _ HY2.out).mono fun _ _ h => ⟨h.1, h.2.symm⟩)))
                        go_wp2_with fail
                        go_ret
                        exact ⟨ret_bool HF.out, Lib.hid (bel_dr VV.out.1 _)⟩
                      | true =>
                        have hll : l' = at'.length := HAT.out.1
                        by_cases hat : at' = []
                        · have AT : Hid (decide (at' = []) = true) := Lib.hid (decide_eq_true hat)
                          have hl0 : l' = 0 := by rw [hll, hat]; rfl
                          have hl1 : ¬ (0 : Int) < (l' : Int) := by omega
                          have hl2 : decide ((0 : Int) < (l' : Int)) = false := decide_eq_false hl1
                          have hl3 : decide (0 < l') = false := decide_eq_false (by omega)
                          clear hll hat hl0
                          by_cases hnj : nj = []
                          · have hnje : nj.isEmpty = true := by rw [hnj]; rfl
                            have NJ : Hid (decide (nj = []) = true) := Lib.hid (decide_eq_true hnj)
                            clear hnj
                            have hpt := HPT.out
                            clear hd1 hd5
                            have hpe : (pj == t) = true := by rw [hpt]; simp
                            have hpd : decide (pj = t) = true := decide_eq_true hpt
                            have HF : Hid (false = r) := Lib.hid (by
                              have hq := HY2.out
                              rw [bs_tx] at hq
                              rw [← HR.out, rB_bad HIL.out (by rw [NE.out, TT.out, hq, AT.out, SK.out, TJ.out, NJ.out, PJ.out, hpd]; rfl)])
                            clear hpt
                            go_quiet ((go_at_call 33; exact Calls.quiet_of_same ((rall_b _ _ s2 _ HY2.out).mono fun _ _ h => ⟨h.1, h.2.symm⟩)))
                            go_wp2_with fail
                            go_ret
                            exact ⟨ret_bool HF.out, Lib.hid (bel_dr VV.out.1 _)⟩
                          · have hnje : nj.isEmpty = false := by
                              cases nj with
                              | nil => exact absurd rfl hnj
                              | cons => rfl
                            have NE3 : Hid (nodeB ns i = true) := Lib.hid (by
                              have hq := HY2.out
                              rw [bs_tx] at hq
                              rw [NE.out, TT.out, hq, AT.out, SK.out, TJ.out, decide_eq_false hnj]; rfl)
                            clear hnj
                            have RT5 : Hid (rightTo ns (i + 1) = true) := Lib.hid (rightTo_next RT.out NE3.out)
                            have OP5 : Hid (openS ns (i + 1) = t :: S) := Lib.hid (by rw [open_text TX.out, CH.out])
                            go_quiet ((go_at_call 33; exact Calls.quiet_of_same ((rall_b _ _ s2 _ HY2.out).mono fun _ _ h => ⟨h.1, h.2.symm⟩)))
                            go_wp2_with fail
                            go_roundw
                            case rel => exact ⟨i + 1, S.length + 1, _, d2, by omega, by go_num, rfl, by omega, Lib.hid ⟨bel_dr VV.out.1 _, by rw [OP5.out]; exact VV.out.2.2.1.below (bel_dr (Below.refl _ _) _), RT5.out⟩⟩
                            case measure => simp [intOf]; omega
                        · have hl1 : (0 : Int) < (l' : Int) := by
                            have : 0 < at'.length := List.length_pos_iff.2 hat
                            omega
                          have hl2 : decide ((0 : Int) < (l' : Int)) = true := decide_eq_true hl1
                          have hl3 : decide (0 < l') = true := decide_eq_true (by omega)
                          have HF : Hid (false = r) := Lib.hid (by
                            have hq := HY2.out
                            rw [bs_tx] at hq
                            rw [← HR.out, rB_bad HIL.out (by rw [NE.out, TT.out, hq, decide_eq_false hat]; rfl)])
                          clear hll hat
                          go_quiet ((go_at_call 33; exact Calls.quiet_of_same ((rall_b _ _ s2 _ HY2.out).mono fun _ _ h => ⟨h.1, h.2.symm⟩)))
                          go_wp2_with fail
                          go_ret
                          exact ⟨ret_bool HF.out, Lib.hid (bel_dr VV.out.1 _)⟩
                  · have hd2 : decide ((0 : Int) < (j : Int)) = false := decide_eq_false (by omega)
                    have hd3 : decide (0 < j) = false := decide_eq_false (by omega)
                    clear hex
                    go_upto_region 17 with fail
                    go_quiet (fail)
                    go_upto_region 19 with fail
                    have VV : Hid (RX w (wr.drewN nq) xb t nm tt A' l' c' (some ⟨g, 0, none⟩) (S.length + 1) d2 (t :: S)) := Lib.hid (ZZ.out.below (bel_dr (Below.refl _ _) _))
                    have r1v : (wr.drewN nq).cell? ⟨b, o + j * 4, none⟩ = some (.int .i64 pj) := r1
                    have r2v : (wr.drewN nq).cell? ⟨b, o + j * 4 + 1, none⟩ = some (.string (tx nj)) := r2
                    clear r1 r2 z0 z1 z2 z3
                    generalize wr.drewN nq = wv at *
                    obtain ⟨z0, z1, z2, z3⟩ : _ ∧ _ ∧ _ ∧ _ := ⟨VV.out.2.1.cell 0, VV.out.2.1.cell 1, VV.out.2.1.cell 2, VV.out.2.1.cell 3⟩
                    by_cases hx2 : tt = []
                    · have hte : tt.isEmpty = true := by rw [hx2]; rfl
                      have HF : Hid (false = r) := Lib.hid (by rw [← HR.out, rB_bad HIL.out (by rw [NE.out, decide_eq_false (fun h => h hx2)]; rfl)])
                      clear hx2
                      go_quiet (fail)
                      go_wp2_with fail
                      go_ret
                      exact ⟨ret_bool HF.out, Lib.hid (bel_dr VV.out.1 _)⟩
                    · have hte : tt.isEmpty = false := by
                        cases tt with
                        | nil => exact absurd rfl hx2
                        | cons => rfl
                      have TT : Hid (decide (tt ≠ []) = true) := Lib.hid (decide_eq_true hx2)
                      clear hx2
                      cases y2 with
                      | false =>
                        have HF : Hid (false = r) := Lib.hid (by
                          have hq := HY2.out
                          rw [bs_tx] at hq
                          rw [← HR.out, rB_bad HIL.out (by rw [NE.out, TT.out, hq]; rfl)])
                        go_quiet ((go_at_call 33; exact Calls.quiet_of_same ((rall_b _ _ s2 _ HY2.out).mono fun _ _ h => ⟨h.1, h.2.symm⟩)))
                        go_wp2_with fail
                        go_ret
                        exact ⟨ret_bool HF.out, Lib.hid (bel_dr VV.out.1 _)⟩
                      | true =>
                        have hll : l' = at'.length := HAT.out.1
                        by_cases hat : at' = []
                        · have AT : Hid (decide (at' = []) = true) := Lib.hid (decide_eq_true hat)
                          have hl0 : l' = 0 := by rw [hll, hat]; rfl
                          have hl1 : ¬ (0 : Int) < (l' : Int) := by omega
                          have hl2 : decide ((0 : Int) < (l' : Int)) = false := decide_eq_false hl1
                          have hl3 : decide (0 < l') = false := decide_eq_false (by omega)
                          clear hll hat hl0
                          by_cases hnj : nj = []
                          · have hnje : nj.isEmpty = true := by rw [hnj]; rfl
                            have NJ : Hid (decide (nj = []) = true) := Lib.hid (decide_eq_true hnj)
                            clear hnj
                            by_cases hpt : pj = t
                            · have hpe : (pj == t) = true := by rw [hpt]; simp
                              have hpd : decide (pj = t) = true := decide_eq_true hpt
                              have HF : Hid (false = r) := Lib.hid (by
                                have hq := HY2.out
                                rw [bs_tx] at hq
                                rw [← HR.out, rB_bad HIL.out (by rw [NE.out, TT.out, hq, AT.out, SK.out, TJ.out, NJ.out, PJ.out, hpd]; rfl)])
                              clear hpt
                              go_quiet ((go_at_call 33; exact Calls.quiet_of_same ((rall_b _ _ s2 _ HY2.out).mono fun _ _ h => ⟨h.1, h.2.symm⟩)))
                              go_wp2_with fail
                              go_ret
                              exact ⟨ret_bool HF.out, Lib.hid (bel_dr VV.out.1 _)⟩
                            · have hpe : (pj == t) = false := by rw [beq_eq_false_iff_ne]; exact hpt
                              have hpd : decide (pj = t) = false := decide_eq_false hpt
                              have NE3 : Hid (nodeB ns i = true) := Lib.hid (by
                                have hq := HY2.out
                                rw [bs_tx] at hq
                                rw [NE.out, TT.out, hq, AT.out, SK.out, PJ.out, hpd, Bool.and_false]; rfl)
                              clear hpt
                              have RT5 : Hid (rightTo ns (i + 1) = true) := Lib.hid (rightTo_next RT.out NE3.out)
                              have OP5 : Hid (openS ns (i + 1) = t :: S) := Lib.hid (by rw [open_text TX.out, CH.out])
                              go_quiet ((go_at_call 33; exact Calls.quiet_of_same ((rall_b _ _ s2 _ HY2.out).mono fun _ _ h => ⟨h.1, h.2.symm⟩)))
                              go_wp2_with fail
                              go_roundw
                              case rel => exact ⟨i + 1, S.length + 1, _, d2, by omega, by go_num, rfl, by omega, Lib.hid ⟨bel_dr VV.out.1 _, by rw [OP5.out]; exact VV.out.2.2.1.below (bel_dr (Below.refl _ _) _), RT5.out⟩⟩
                              case measure => simp [intOf]; omega
                          · have hnje : nj.isEmpty = false := by
                              cases nj with
                              | nil => exact absurd rfl hnj
                              | cons => rfl
                            have NE3 : Hid (nodeB ns i = true) := Lib.hid (by
                              have hq := HY2.out
                              rw [bs_tx] at hq
                              rw [NE.out, TT.out, hq, AT.out, SK.out, TJ.out, decide_eq_false hnj]; rfl)
                            clear hnj
                            have RT5 : Hid (rightTo ns (i + 1) = true) := Lib.hid (rightTo_next RT.out NE3.out)
                            have OP5 : Hid (openS ns (i + 1) = t :: S) := Lib.hid (by rw [open_text TX.out, CH.out])
                            go_quiet ((go_at_call 33; exact Calls.quiet_of_same ((rall_b _ _ s2 _ HY2.out).mono fun _ _ h => ⟨h.1, h.2.symm⟩)))
                            go_wp2_with fail
                            go_roundw
                            case rel => exact ⟨i + 1, S.length + 1, _, d2, by omega, by go_num, rfl, by omega, Lib.hid ⟨bel_dr VV.out.1 _, by rw [OP5.out]; exact VV.out.2.2.1.below (bel_dr (Below.refl _ _) _), RT5.out⟩⟩
                            case measure => simp [intOf]; omega
                        · have hl1 : (0 : Int) < (l' : Int) := by
                            have : 0 < at'.length := List.length_pos_iff.2 hat
                            omega
                          have hl2 : decide ((0 : Int) < (l' : Int)) = true := decide_eq_true hl1
                          have hl3 : decide (0 < l') = true := decide_eq_true (by omega)
                          have HF : Hid (false = r) := Lib.hid (by
                            have hq := HY2.out
                            rw [bs_tx] at hq
                            rw [← HR.out, rB_bad HIL.out (by rw [NE.out, TT.out, hq, decide_eq_false hat]; rfl)])
                          clear hll hat
                          go_quiet ((go_at_call 33; exact Calls.quiet_of_same ((rall_b _ _ s2 _ HY2.out).mono fun _ _ h => ⟨h.1, h.2.symm⟩)))
                          go_wp2_with fail
                          go_ret
                          exact ⟨ret_bool HF.out, Lib.hid (bel_dr VV.out.1 _)⟩
            · have TX : Hid (textB (nd ns i) = false) := Lib.hid (by rw [HND.out]; exact decide_eq_false hnm)
              have hne : nm.isEmpty = false := by
                cases nm with
                | nil => exact absurd rfl hnm
                | cons => rfl
              clear hnm
              have NE : Hid (nodeB ns i = (nameL nm && (decide (tt = []) && (attrsB at' && decide ((t :: S).length < 20))))) := Lib.hid (by
                have h1 := node_elem TX.out (t :: S) (by
                  obtain ⟨k, rfl, hc, h3⟩ := H0.out
                  have h4 := stand_re RT.out (by rw [HP.out]; exact hc) TX.out
                  rw [HP.out, h3] at h4
                  exact h4)
                rw [HND.out] at h1
                exact h1)
              go_upto_region 8 with fail
              go_quiet (fail)
              have YY : Hid (RX w (wr.drewN nq) xb t nm tt A' l' c' (some ⟨g, 0, none⟩) (S.length + 1) d2 (t :: S)) := Lib.hid (XX.out.below (bel_dr (Below.refl _ _) _))
              generalize wr.drewN nq = wq at *
              clear z0 z1 z2 z3 hg5 hg6
              obtain ⟨z0, z1, z2, z3⟩ : _ ∧ _ ∧ _ ∧ _ := ⟨YY.out.2.1.cell 0, YY.out.2.1.cell 1, YY.out.2.1.cell 2, YY.out.2.1.cell 3⟩
              obtain ⟨z0, z1, z2, z3⟩ : _ ∧ _ ∧ _ ∧ _ := ⟨YY.out.2.1.cell 0, YY.out.2.1.cell 1, YY.out.2.1.cell 2, YY.out.2.1.cell 3⟩
              go_wp2_with fail
              refine (rName_b (tx nm) _ s1 x1 HX1.out).mono ?_
              rintro e w' ⟨rfl, rfl⟩
              cases x1 with
              | false =>
                have HF : Hid (false = r) := Lib.hid (by rw [← HR.out, rB_bad HIL.out (by have hq := HX1.out; rw [bs_tx] at hq; rw [NE.out, hq]; rfl)])
                go_wp2_with fail
                go_ret
                exact ⟨ret_bool HF.out, Lib.hid YY.out.1⟩
              | true =>
                by_cases hx2 : tt = []
                · have hte : tt.isEmpty = true := by rw [hx2]; rfl
                  have NE2 : Hid (nodeB ns i = (x3 && decide (((t :: S)).length < 20))) := Lib.hid (by have hq := HX1.out; rw [bs_tx] at hq; rw [NE.out, hq, decide_eq_true hx2, HX3.out]; rfl)
                  clear hx2
                  go_wp2_with fail
                  refine (rattrs_c B at' A' l' c' _ (Nat.le_trans hB YY.out.1.size) (HAT.out.below (YY.out.1.mono hB)) hl9 HSA.out x3 HX3.out).mono ?_
                  rintro e w9 ⟨rfl, b9⟩
                  have X9 := Lib.hid (YY.out.below b9.out)
                  clear b9
                  cases x3 with
                  | false =>
                    have HF : Hid (false = r) := Lib.hid (by rw [← HR.out, rB_bad HIL.out (by rw [NE2.out]; rfl)])
                    go_wp2_with fail
                    go_ret
                    exact ⟨ret_bool HF.out, Lib.hid X9.out.1⟩
                  | true =>
                    by_cases hx4 : (S.length + 1) < 20
                    · have hx4I : ¬ (20 : Int) ≤ (((S.length + 1) : Nat) : Int) := by omega
                      have hx4J : ((S.length + 1) : Int) < 20 := by omega
                      have NE3 : Hid (nodeB ns i = true) := Lib.hid (by
                        rw [NE2.out]
                        have : ((t :: S)).length < 20 := by have := X9.out.2.2.1.1; omega
                        rw [decide_eq_true this]; rfl)
                      have HCS := Lib.hid (X9.out.2.2.1.2.alloc (.cells #[.int .i64 ((i : Nat) : Int)] 3))
                      have hws : w.heap.size ≤ w9.heap.size := X9.out.1.size
                      have hm9 : m ≤ 2000 := by omega
                      have hc0 := cells_one_new w9 (.int .i64 ((i : Nat) : Int)) 3
                      go_wp2_with (at_builtin; go_must (refine wpList_append_own_at _ rfl _ _ 35 rfl w.heap.size 3 i0 _ 1 8 Tryz.underlying35 hi0 hz0 hz1 hz2 rfl (by decide) _ (S.length + 1) ((((t :: S)).reverse).map (.int .i64 ·)) rfl HCS.out ⟨w9.heap.size, 0, none⟩ 1 1 [.int .i64 ((i : Nat) : Int)] rfl rfl hc0 (by simp [Value.oneCell']) (by unfold maxLen; omega) (by omega) (by simp; omega) ?_); intro v' w5 hown5 hgrow5 _ _; obtain ⟨A5, c5, rfl⟩ := own_form hown5)
                      have HH : Hid (Below w.heap.size w w5 ∧ StO w.heap.size w5 A5 ((S.length + 1) + 1) c5 (openS ns (i + 1)) ∧ rightTo ns (i + 1) = true) := Lib.hid (by
                        have h5 := rightTo_next RT.out NE3.out
                        refine ⟨(X9.out.1.alloc hws _).grown hgrow5 (by simp; omega) (fun k hk => (HCS.out.lt k hk).1), ?_, h5⟩
                        rw [open_next h5 TX.out, CH.out]
                        have h6 := X9.out.2.2.1.1
                        exact ⟨by rw [List.length_cons, ← h6], by rw [List.reverse_cons, List.map_append]; exact hown5⟩)
                      clear hown5 hgrow5
                      go_wp2_with fail
                      go_roundw
                      case rel => exact ⟨i + 1, (S.length + 1) + 1, A5, c5, by omega, by go_num, rfl, by omega, HH⟩
                      case measure => simp [intOf]; omega
                    · have hx4I : (20 : Int) ≤ (((S.length + 1) : Nat) : Int) := by omega
                      have NE3 : Hid (nodeB ns i = false) := Lib.hid (by
                        rw [NE2.out]
                        have : ¬ ((t :: S)).length < 20 := by have := X9.out.2.2.1.1; omega
                        rw [decide_eq_false this]; rfl)
                      have HF : Hid (false = r) := Lib.hid (by rw [← HR.out, rB_bad HIL.out NE3.out])
                      go_wp2_with fail
                      go_ret
                      exact ⟨ret_bool HF.out, Lib.hid X9.out.1⟩
                · have hte : tt.isEmpty = false := by cases tt with | nil => exact absurd rfl hx2 | cons => rfl
                  have NE2 : Hid (nodeB ns i = false) := Lib.hid (by have hq := HX1.out; rw [bs_tx] at hq; rw [NE.out, hq, decide_eq_false hx2]; rfl)
                  clear hx2
                  have HF : Hid (false = r) := Lib.hid (by rw [← HR.out, rB_bad HIL.out NE2.out])
                  go_wp2_with fail
                  go_ret
                  exact ⟨ret_bool HF.out, Lib.hid YY.out.1⟩

          · have hd : decide ((t : Int) = p) = false := decide_eq_false htp
            have Y := Lib.hid hg6
            have PQ : Hid (popS S p = popS (openS ns i) p) := Lib.hid (by rw [← PP.out, pop_on S htp])
            clear hg6
            go_upto_region 8 with fail
            go_quiet (fail)
            go_wp2_with fail
            exact ⟨⟨S.length, _, d2, S, rfl, by omega, Lib.hid ⟨⟨bel_dr XX.out.1 _, XX.out.2.1, Y.out.below (bel_dr (Below.refl _ _) _), XX.out.2.2.2⟩, PQ.out⟩⟩, by simp only [slN]; omega⟩
    · have HF : Hid (true = r) := Lib.hid (by
        have : i = ns.length := by have := HL.out; omega
        rw [← HR.out]
        have h3 := hh.out.2.2
        rw [this] at h3
        exact (rB_all (by intro e; rw [e] at this; simp at this; omega) (by have := HL.out; omega) h3).symm)
      go_wp2_with fail
      go_ret
      exact ⟨ret_bool HF.out, Lib.hid hh.out.1⟩
end Go.Proofs.YtkccockdnjjanaaGreatDoor
