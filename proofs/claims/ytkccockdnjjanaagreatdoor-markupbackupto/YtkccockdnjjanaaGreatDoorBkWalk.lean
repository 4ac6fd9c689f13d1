/-
  The walk of MarkupBack.
-/
import Derived.Test.YtkccockdnjjanaaGreatDoorMka
import Derived.Test.YtkccockdnjjanaaGreatDoorElKids
import Derived.Test.YtkccockdnjjanaaGreatDoorEqa
import Derived.Test.YtkccockdnjjanaaGreatDoorMqa
import Derived.Test.YtkccockdnjjanaaGreatDoorNda
namespace Nwl
theorem parse_big {l : List UInt8} (h : 20000 < l.length) : parseX l = .error 3 := by
  unfold parseX
  rw [splitE_big h, if_neg (by decide)]
theorem small_up {ns : List Nd} (h : ∀ x ∈ ns, bulkN x ≤ 80000) : Small ns 2000000 := small_all h (by omega)
theorem few_attrs {ns : List Nd} (h : ∀ x ∈ ns, bulkN x ≤ 80000) : ∀ x ∈ ns, x.attrs.length ≤ 100000 := by
  intro x hx
  have hb := h x hx
  unfold bulkN at hb
  have := nlen_sum x.attrs
  omega
theorem right_none : rightB [] = false := by decide
end Nwl
namespace Go.Proofs.YtkccockdnjjanaaGreatDoor
open Nwl
open Go.RowKit Go.Maps
set_option linter.unusedVariables false
set_option linter.unusedSimpArgs false

/-- what Write answers, of nodes that are right -/
theorem Write_yes (ns : List Nd) (A : Option Addr) (n c : Nat) (w : World) (hr : NodesR w.heap.size w (.slice A n c) ns) (hn : n = ns.length) (hsm : Small ns 2000000) (h : rightB ns = true) :
    Calls Tryz.prog 20 #[.slice A n c] w fun e w' => e = .returned (.tuple #[.string (tx (writeL ns)), .int .i64 0]) ∧ Below w.heap.size w w' := by
  have hp := right_parts h
  have := writeL_len hsm hp.2.2 hp.2.1
  have hw := Write_any w.heap.size ns A n c w hr (Nat.le_refl _) hn (by omega) hsm (.inl (by omega))
  rw [(write_yes h).1, (write_yes h).2] at hw
  exact hw
theorem Write_not (ns : List Nd) (A : Option Addr) (n c : Nat) (w : World) (hr : NodesR w.heap.size w (.slice A n c) ns) (hn : n = ns.length) (hf : n ≤ 1000000000) (hsm : Small ns 2000000) (h : rightB ns = false) :
    Calls Tryz.prog 20 #[.slice A n c] w fun e w' => e = .returned (.tuple #[.string ⟨#[]⟩, .int .i64 6]) ∧ Below w.heap.size w w' := by
  have hw := Write_any w.heap.size ns A n c w hr (Nat.le_refl _) hn (by omega) hsm (.inr h)
  rw [(write_no h).1, (write_no h).2] at hw
  exact hw
/-- what Parse answers, of what may be parsed -/
theorem Parse_yes (l : List UInt8) (ns : List Nd) (w : World) (hs : l.length ≤ maxLen) (hg : Glob w) (h : parseX l = .ok ns) :
    Calls Tryz.prog 9 #[.string (tx l)] w fun e w' => ∃ A c, e = .returned (.tuple #[.slice A ns.length c, .int .i64 0]) ∧ NodesR w'.heap.size w' (.slice A ns.length c) ns ∧ Below w.heap.size w w' := by
  refine (Parse_c (tx l) w (by rw [tx_size]; exact hs) hg).mono ?_
  intro e w' hp
  rw [bs_tx, h] at hp
  obtain ⟨A, c, he, hn, hb⟩ := hp
  exact ⟨A, c, he, NodesR.of hn, hb⟩
theorem Parse_not (l : List UInt8) (m : Int) (w : World) (hs : l.length ≤ maxLen) (hg : Glob w) (h : parseX l = .error m) :
    Calls Tryz.prog 9 #[.string (tx l)] w fun e w' => ∃ A c, e = .returned (.tuple #[.slice A 0 c, .int .i64 m]) ∧ NodesR w'.heap.size w' (.slice A 0 c) [] ∧ Below w.heap.size w w' := by
  refine (Parse_c (tx l) w (by rw [tx_size]; exact hs) hg).mono ?_
  intro e w' hp
  rw [bs_tx, h] at hp
  obtain ⟨A, c, he, hn, hb⟩ := hp
  exact ⟨A, c, he, NodesR.of hn, hb⟩
theorem Same_yes (ns : List Nd) (A1 A2 : Option Addr) (n c1 c2 : Nat) (w : World) (hn : n = ns.length) (hf : n ≤ 100000) (ha : ∀ t ∈ ns, t.attrs.length ≤ 100000) (h1 : NodesR w.heap.size w (.slice A1 n c1) ns) (h2 : NodesR w.heap.size w (.slice A2 n c2) ns) :
    Calls Tryz.prog 11 #[.slice A1 n c1, .slice A2 n c2, .func (.func 12) #[] #[]] w fun e w' => e = .returned (.bool true) ∧ Hid (Below w.heap.size w w') :=
  SameN_r A1 A2 n c1 c2 ns w w.heap.size (Nat.le_refl _) hf ha (NdRd.ofR h1 hn) (NdRd.ofR h2 hn)
theorem NodesR.on {w w' : World} {v : Value} {ts : List Nd} (h : NodesR w.heap.size w v ts) (hb : Below w.heap.size w w') : NodesR w'.heap.size w' v ts := (h.below hb).mono hb.size

set_option maxRecDepth 100000 in
set_option maxHeartbeats 8000000 in
theorem back_A (A : Option Addr) (n c : Nat) (ns : List Nd) (l : List UInt8) (w : World) (HLL : Hid (l.length ≤ maxLen)) (H : Hid (NodesR w.heap.size w (.slice A n c) ns)) (HL : Hid (n = ns.length)) (HSM : Hid (Small ns 2000000)) (HG : Hid (Glob w)) (k1 : ¬ (100 : Int) < (n : Int)) (k2 : ¬ (2000 : Int) < ((tx l).size : Int)) (hrb : rightB ns = true) (hlen : (writeL ns).length ≤ 20000) :
    Calls Tryz.prog 5 #[.slice A n c, .string (tx l)] w fun e w' => e = .returned (.bool true) ∧ Below w.heap.size w w' := by
  have htl := txl
  obtain ⟨U, hU⟩ : ∃ U, writeL ns = U := ⟨_, rfl⟩
  rw [hU] at hlen
  have HW := Lib.hid (fun W (hW : NodesR W.heap.size W (.slice A n c) ns) => Write_yes ns A n c W hW HL.out HSM.out hrb)
  rw [hU] at HW
  have hpa : parseX U = .ok ns := by rw [← hU]; exact Bk.parse_write hrb (by rw [hU]; exact hlen)
  have HHU : Hid (U.length ≤ maxLen) := Lib.hid (by unfold maxLen; omega)
  have HP := Lib.hid (fun W (hW : Glob W) => Parse_yes U ns W HHU.out hW hpa)
  have hlz : ((tx U).size : Int) ≤ 20000 := by rw [tx_size]; omega
  rw [← HL.out] at HP
  have HSA := Lib.hid (fun W A1 c1 (h1 : NodesR W.heap.size W (.slice A1 n c1) ns) (h2 : NodesR W.heap.size W (.slice A n c) ns) => Same_yes ns A1 A n c1 c W HL.out (by omega) (few_attrs (parse_bk hpa)) h1 h2)
  clear hpa hlen hU hrb
  cases hx : parseX l with
  | error m =>
    have hm0 : (m == 0) = false := by rw [beq_eq_false_iff_ne]; exact parse_ne hx
    have hm1 : (m != 0) = true := by rw [bne_iff_ne]; exact parse_ne hx
    have HPL := Lib.hid (fun W (hW : Glob W) => Parse_not l m W HLL.out hW hx)
    clear hx
    go_enter Tryz.func5, Tryz.ntmps5
    go_wp2_with fail
    refine (HW.out _ H.out).mono ?_
    rintro e w1 ⟨rfl, b1⟩
    have HB := Lib.hid b1
    clear b1
    go_wp2_with fail
    refine (HP.out _ (HG.out.below HB.out)).mono ?_
    rintro e w2 ⟨A2, c2, rfl, hr2, b2⟩
    have HR2 := Lib.hid hr2
    have HB2 := Lib.hid (HB.out.trans (b2.mono HB.out.size))
    have H2 := Lib.hid (H.out.on HB2.out)
    clear hr2 b2 HB
    go_wp2_with fail
    refine (HSA.out _ A2 c2 HR2.out H2.out).mono ?_
    rintro e w3 ⟨rfl, b3⟩
    have HB := Lib.hid (HB2.out.trans (b3.out.mono HB2.out.size))
    clear b3 HR2 H2 HB2
    go_wp2_with fail
    refine (HPL.out _ (HG.out.below HB.out)).mono ?_
    rintro e w4 ⟨A4, c4, rfl, hr4, b4⟩
    have HB4 := Lib.hid (HB.out.trans (b4.mono HB.out.size))
    clear hr4 b4 HB
    go_wp2_with fail
    refine (awake4_c _).mono ?_
    rintro e w5 ⟨rfl, b5⟩
    go_wp2_with fail
    go_ret
    exact ⟨rfl, HB4.out.trans (b5.mono HB4.out.size)⟩
  | ok ts =>
    have hrt := parse_right hx
    have hbk := parse_bk hx
    have hft : ts.length ≤ 2000 := (rightB_few hrt).2
    have hpt := right_parts hrt
    have hwl := writeL_len (small_up hbk) hpt.2.2 hpt.2.1
    have HPL := Lib.hid (fun W (hW : Glob W) => Parse_yes l ts W HLL.out hW hx)
    have HWT := Lib.hid (fun W A' c' (hW : NodesR W.heap.size W (.slice A' ts.length c') ts) => Write_yes ts A' ts.length c' W hW rfl (small_up hbk) hrt)
    obtain ⟨V, hV⟩ : ∃ V, writeL ts = V := ⟨_, rfl⟩
    rw [hV] at HWT hwl
    have hVV : (V == V) = true := beq_self_eq_true V
    have hm : V.length ≤ maxLen := by unfold maxLen; omega
    have HHM := Lib.hid hm
    obtain ⟨k, hk⟩ : ∃ k, ts.length = k := ⟨_, rfl⟩
    by_cases hvl : V.length ≤ 20000
    · have hlv : ((tx V).size : Int) ≤ 20000 := by rw [tx_size]; omega
      have hlw : ¬ (20000 : Int) < ((tx V).size : Int) := by omega
      have hpv : parseX V = .ok ts := by rw [← hV]; exact Bk.parse_write hrt (by rw [hV]; exact hvl)
      have HPV := Lib.hid (fun W (hW : Glob W) => Parse_yes V ts W HHM.out hW hpv)
      have HWV := HWT
      have HST := Lib.hid (fun W A1 c1 A2 c2 (h1 : NodesR W.heap.size W (.slice A1 ts.length c1) ts) (h2 : NodesR W.heap.size W (.slice A2 ts.length c2) ts) => Same_yes ts A1 A2 ts.length c1 c2 W rfl (by omega) (few_attrs hbk) h1 h2)
      rw [hk] at HPL HWT HPV HWV HST
      clear hx hrt hbk hpt hwl hm hpv hV hvl hk hft
      go_enter Tryz.func5, Tryz.ntmps5
      go_wp2_with fail
      refine (HW.out _ H.out).mono ?_
      rintro e w1 ⟨rfl, b1⟩
      have HB := Lib.hid b1
      clear b1
      go_wp2_with fail
      refine (HP.out _ (HG.out.below HB.out)).mono ?_
      rintro e w2 ⟨A2, c2, rfl, hr2, b2⟩
      have HR2 := Lib.hid hr2
      have HB2 := Lib.hid (HB.out.trans (b2.mono HB.out.size))
      have H2 := Lib.hid (H.out.on HB2.out)
      clear hr2 b2 HB
      go_wp2_with fail
      refine (HSA.out _ A2 c2 HR2.out H2.out).mono ?_
      rintro e w3 ⟨rfl, b3⟩
      have HB := Lib.hid (HB2.out.trans (b3.out.mono HB2.out.size))
      clear b3 HR2 H2 HB2
      go_wp2_with fail
      refine (HPL.out _ (HG.out.below HB.out)).mono ?_
      rintro e w4 ⟨A4, c4, rfl, hr4, b4⟩
      have HR4 := Lib.hid hr4
      have HB4 := Lib.hid (HB.out.trans (b4.mono HB.out.size))
      clear hr4 b4 HB
      go_wp2_with fail
      refine (HWT.out _ A4 c4 HR4.out).mono ?_
      rintro e w5 ⟨rfl, b5⟩
      have HR5 := Lib.hid (HR4.out.on b5)
      have HB5 := Lib.hid (HB4.out.trans (b5.mono HB4.out.size))
      clear b5 HR4 HB4
      go_wp2_with fail
      refine (HPV.out _ (HG.out.below HB5.out)).mono ?_
      rintro e w6 ⟨A6, c6, rfl, hr6, b6⟩
      have HR6 := Lib.hid (HR5.out.on b6)
      have HV6 := Lib.hid hr6
      have HB6 := Lib.hid (HB5.out.trans (b6.mono HB5.out.size))
      clear hr6 b6 HR5 HB5
      go_wp2_with fail
      refine (HWV.out _ A6 c6 HV6.out).mono ?_
      rintro e w7 ⟨rfl, b7⟩
      have HR7 := Lib.hid (HR6.out.on b7)
      have HV7 := Lib.hid (HV6.out.on b7)
      have HB7 := Lib.hid (HB6.out.trans (b7.mono HB6.out.size))
      clear b7 HR6 HV6 HB6
      go_wp2_with fail
      refine (awake4_c _).mono ?_
      rintro e w8 ⟨rfl, b8⟩
      have HR8 := Lib.hid (HR7.out.on b8)
      have HV8 := Lib.hid (HV7.out.on b8)
      have HB8 := Lib.hid (HB7.out.trans (b8.mono HB7.out.size))
      clear b8 HR7 HV7 HB7
      go_wp2_with fail
      refine (HST.out _ A4 c4 A6 c6 HR8.out HV8.out).mono ?_
      rintro e w9 ⟨rfl, b9⟩
      have HB9 := Lib.hid (HB8.out.trans (b9.out.mono HB8.out.size))
      clear b9 HR8 HV8 HB8
      go_wp2_with fail
      go_ret
      exact ⟨rfl, HB9.out⟩
    · have hlw : (20000 : Int) < ((tx V).size : Int) := by rw [tx_size]; omega
      have hpv : parseX V = .error 3 := parse_big (by omega)
      have HPV := Lib.hid (fun W (hW : Glob W) => Parse_not V 3 W HHM.out hW hpv)
      have HWV := Lib.hid (fun W A' c' (hW : NodesR W.heap.size W (.slice A' 0 c') []) => Write_not [] A' 0 c' W hW rfl (by omega) (fun i => by unfold nd bulkN; simp) right_none)
      rw [hk] at HPL HWT
      clear hx hrt hbk hpt hwl hm hpv hV hvl hk hft
      go_enter Tryz.func5, Tryz.ntmps5
      go_wp2_with fail
      refine (HW.out _ H.out).mono ?_
      rintro e w1 ⟨rfl, b1⟩
      have HB := Lib.hid b1
      clear b1
      go_wp2_with fail
      refine (HP.out _ (HG.out.below HB.out)).mono ?_
      rintro e w2 ⟨A2, c2, rfl, hr2, b2⟩
      have HR2 := Lib.hid hr2
      have HB2 := Lib.hid (HB.out.trans (b2.mono HB.out.size))
      have H2 := Lib.hid (H.out.on HB2.out)
      clear hr2 b2 HB
      go_wp2_with fail
      refine (HSA.out _ A2 c2 HR2.out H2.out).mono ?_
      rintro e w3 ⟨rfl, b3⟩
      have HB := Lib.hid (HB2.out.trans (b3.out.mono HB2.out.size))
      clear b3 HR2 H2 HB2
      go_wp2_with fail
      refine (HPL.out _ (HG.out.below HB.out)).mono ?_
      rintro e w4 ⟨A4, c4, rfl, hr4, b4⟩
      have HR4 := Lib.hid hr4
      have HB4 := Lib.hid (HB.out.trans (b4.mono HB.out.size))
      clear hr4 b4 HB
      go_wp2_with fail
      refine (HWT.out _ A4 c4 HR4.out).mono ?_
      rintro e w5 ⟨rfl, b5⟩
      have HR5 := Lib.hid (HR4.out.on b5)
      have HB5 := Lib.hid (HB4.out.trans (b5.mono HB4.out.size))
      clear b5 HR4 HB4
      go_wp2_with fail
      refine (HPV.out _ (HG.out.below HB5.out)).mono ?_
      rintro e w6 ⟨A6, c6, rfl, hr6, b6⟩
      have HR6 := Lib.hid (HR5.out.on b6)
      have HV6 := Lib.hid hr6
      have HB6 := Lib.hid (HB5.out.trans (b6.mono HB5.out.size))
      clear hr6 b6 HR5 HB5
      go_wp2_with fail
      refine (HWV.out _ A6 c6 HV6.out).mono ?_
      rintro e w7 ⟨rfl, b7⟩
      have HR7 := Lib.hid (HR6.out.on b7)
      have HV7 := Lib.hid (HV6.out.on b7)
      have HB7 := Lib.hid (HB6.out.trans (b7.mono HB6.out.size))
      clear b7 HR6 HV6 HB6
      go_wp2_with fail
      refine (awake4_c _).mono ?_
      rintro e w8 ⟨rfl, b8⟩
      have HR8 := Lib.hid (HR7.out.on b8)
      have HV8 := Lib.hid (HV7.out.on b8)
      have HB8 := Lib.hid (HB7.out.trans (b8.mono HB7.out.size))
      clear b8 HR7 HV7 HB7
      go_wp2_with fail
      go_ret
      exact ⟨rfl, HB8.out⟩

set_option maxRecDepth 100000 in
set_option maxHeartbeats 8000000 in
theorem back_B (A : Option Addr) (n c : Nat) (ns : List Nd) (l : List UInt8) (w : World) (HLL : Hid (l.length ≤ maxLen)) (H : Hid (NodesR w.heap.size w (.slice A n c) ns)) (HL : Hid (n = ns.length)) (HSM : Hid (Small ns 2000000)) (HG : Hid (Glob w)) (k1 : ¬ (100 : Int) < (n : Int)) (k2 : ¬ (2000 : Int) < ((tx l).size : Int)) (hrb : rightB ns = true) (hlen : ¬ (writeL ns).length ≤ 20000) :
    Calls Tryz.prog 5 #[.slice A n c, .string (tx l)] w fun e w' => e = .returned (.bool true) ∧ Below w.heap.size w w' := by
  have htl := txl
  obtain ⟨U, hU⟩ : ∃ U, writeL ns = U := ⟨_, rfl⟩
  rw [hU] at hlen
  have HW := Lib.hid (fun W (hW : NodesR W.heap.size W (.slice A n c) ns) => Write_yes ns A n c W hW HL.out HSM.out hrb)
  rw [hU] at HW
  have hlz : ¬ ((tx U).size : Int) ≤ 20000 := by rw [tx_size]; omega
  clear hlen hU hrb
  cases hx : parseX l with
  | error m =>
    have hm0 : (m == 0) = false := by rw [beq_eq_false_iff_ne]; exact parse_ne hx
    have hm1 : (m != 0) = true := by rw [bne_iff_ne]; exact parse_ne hx
    have HPL := Lib.hid (fun W (hW : Glob W) => Parse_not l m W HLL.out hW hx)
    clear hx
    go_enter Tryz.func5, Tryz.ntmps5
    go_wp2_with fail
    refine (HW.out _ H.out).mono ?_
    rintro e w1 ⟨rfl, b1⟩
    have HB := Lib.hid b1
    clear b1
    go_wp2_with fail
    refine (HPL.out _ (HG.out.below HB.out)).mono ?_
    rintro e w4 ⟨A4, c4, rfl, hr4, b4⟩
    have HB4 := Lib.hid (HB.out.trans (b4.mono HB.out.size))
    clear hr4 b4 HB
    go_wp2_with fail
    refine (awake4_c _).mono ?_
    rintro e w5 ⟨rfl, b5⟩
    go_wp2_with fail
    go_ret
    exact ⟨rfl, HB4.out.trans (b5.mono HB4.out.size)⟩
  | ok ts =>
    have hrt := parse_right hx
    have hbk := parse_bk hx
    have hft : ts.length ≤ 2000 := (rightB_few hrt).2
    have hpt := right_parts hrt
    have hwl := writeL_len (small_up hbk) hpt.2.2 hpt.2.1
    have HPL := Lib.hid (fun W (hW : Glob W) => Parse_yes l ts W HLL.out hW hx)
    have HWT := Lib.hid (fun W A' c' (hW : NodesR W.heap.size W (.slice A' ts.length c') ts) => Write_yes ts A' ts.length c' W hW rfl (small_up hbk) hrt)
    obtain ⟨V, hV⟩ : ∃ V, writeL ts = V := ⟨_, rfl⟩
    rw [hV] at HWT hwl
    have hVV : (V == V) = true := beq_self_eq_true V
    have hm : V.length ≤ maxLen := by unfold maxLen; omega
    have HHM := Lib.hid hm
    obtain ⟨k, hk⟩ : ∃ k, ts.length = k := ⟨_, rfl⟩
    by_cases hvl : V.length ≤ 20000
    · have hlv : ((tx V).size : Int) ≤ 20000 := by rw [tx_size]; omega
      have hlw : ¬ (20000 : Int) < ((tx V).size : Int) := by omega
      have hpv : parseX V = .ok ts := by rw [← hV]; exact Bk.parse_write hrt (by rw [hV]; exact hvl)
      have HPV := Lib.hid (fun W (hW : Glob W) => Parse_yes V ts W HHM.out hW hpv)
      have HWV := HWT
      have HST := Lib.hid (fun W A1 c1 A2 c2 (h1 : NodesR W.heap.size W (.slice A1 ts.length c1) ts) (h2 : NodesR W.heap.size W (.slice A2 ts.length c2) ts) => Same_yes ts A1 A2 ts.length c1 c2 W rfl (by omega) (few_attrs hbk) h1 h2)
      rw [hk] at HPL HWT HPV HWV HST
      clear hx hrt hbk hpt hwl hm hpv hV hvl hk hft
      go_enter Tryz.func5, Tryz.ntmps5
      go_wp2_with fail
      refine (HW.out _ H.out).mono ?_
      rintro e w1 ⟨rfl, b1⟩
      have HB := Lib.hid b1
      clear b1
      go_wp2_with fail
      refine (HPL.out _ (HG.out.below HB.out)).mono ?_
      rintro e w4 ⟨A4, c4, rfl, hr4, b4⟩
      have HR4 := Lib.hid hr4
      have HB4 := Lib.hid (HB.out.trans (b4.mono HB.out.size))
      clear hr4 b4 HB
      go_wp2_with fail
      refine (HWT.out _ A4 c4 HR4.out).mono ?_
      rintro e w5 ⟨rfl, b5⟩
      have HR5 := Lib.hid (HR4.out.on b5)
      have HB5 := Lib.hid (HB4.out.trans (b5.mono HB4.out.size))
      clear b5 HR4 HB4
      go_wp2_with fail
      refine (HPV.out _ (HG.out.below HB5.out)).mono ?_
      rintro e w6 ⟨A6, c6, rfl, hr6, b6⟩
      have HR6 := Lib.hid (HR5.out.on b6)
      have HV6 := Lib.hid hr6
      have HB6 := Lib.hid (HB5.out.trans (b6.mono HB5.out.size))
      clear hr6 b6 HR5 HB5
      go_wp2_with fail
      refine (HWV.out _ A6 c6 HV6.out).mono ?_
      rintro e w7 ⟨rfl, b7⟩
      have HR7 := Lib.hid (HR6.out.on b7)
      have HV7 := Lib.hid (HV6.out.on b7)
      have HB7 := Lib.hid (HB6.out.trans (b7.mono HB6.out.size))
      clear b7 HR6 HV6 HB6
      go_wp2_with fail
      refine (awake4_c _).mono ?_
      rintro e w8 ⟨rfl, b8⟩
      have HR8 := Lib.hid (HR7.out.on b8)
      have HV8 := Lib.hid (HV7.out.on b8)
      have HB8 := Lib.hid (HB7.out.trans (b8.mono HB7.out.size))
      clear b8 HR7 HV7 HB7
      go_wp2_with fail
      refine (HST.out _ A4 c4 A6 c6 HR8.out HV8.out).mono ?_
      rintro e w9 ⟨rfl, b9⟩
      have HB9 := Lib.hid (HB8.out.trans (b9.out.mono HB8.out.size))
      clear b9 HR8 HV8 HB8
      go_wp2_with fail
      go_ret
      exact ⟨rfl, HB9.out⟩
    · have hlw : (20000 : Int) < ((tx V).size : Int) := by rw [tx_size]; omega
      have hpv : parseX V = .error 3 := parse_big (by omega)
      have HPV := Lib.hid (fun W (hW : Glob W) => Parse_not V 3 W HHM.out hW hpv)
      have HWV := Lib.hid (fun W A' c' (hW : NodesR W.heap.size W (.slice A' 0 c') []) => Write_not [] A' 0 c' W hW rfl (by omega) (fun i => by unfold nd bulkN; simp) right_none)
      rw [hk] at HPL HWT
      clear hx hrt hbk hpt hwl hm hpv hV hvl hk hft
      go_enter Tryz.func5, Tryz.ntmps5
      go_wp2_with fail
      refine (HW.out _ H.out).mono ?_
      rintro e w1 ⟨rfl, b1⟩
      have HB := Lib.hid b1
      clear b1
      go_wp2_with fail
      refine (HPL.out _ (HG.out.below HB.out)).mono ?_
      rintro e w4 ⟨A4, c4, rfl, hr4, b4⟩
      have HR4 := Lib.hid hr4
      have HB4 := Lib.hid (HB.out.trans (b4.mono HB.out.size))
      clear hr4 b4 HB
      go_wp2_with fail
      refine (HWT.out _ A4 c4 HR4.out).mono ?_
      rintro e w5 ⟨rfl, b5⟩
      have HR5 := Lib.hid (HR4.out.on b5)
      have HB5 := Lib.hid (HB4.out.trans (b5.mono HB4.out.size))
      clear b5 HR4 HB4
      go_wp2_with fail
      refine (HPV.out _ (HG.out.below HB5.out)).mono ?_
      rintro e w6 ⟨A6, c6, rfl, hr6, b6⟩
      have HR6 := Lib.hid (HR5.out.on b6)
      have HV6 := Lib.hid hr6
      have HB6 := Lib.hid (HB5.out.trans (b6.mono HB5.out.size))
      clear hr6 b6 HR5 HB5
      go_wp2_with fail
      refine (HWV.out _ A6 c6 HV6.out).mono ?_
      rintro e w7 ⟨rfl, b7⟩
      have HR7 := Lib.hid (HR6.out.on b7)
      have HV7 := Lib.hid (HV6.out.on b7)
      have HB7 := Lib.hid (HB6.out.trans (b7.mono HB6.out.size))
      clear b7 HR6 HV6 HB6
      go_wp2_with fail
      refine (awake4_c _).mono ?_
      rintro e w8 ⟨rfl, b8⟩
      have HR8 := Lib.hid (HR7.out.on b8)
      have HV8 := Lib.hid (HV7.out.on b8)
      have HB8 := Lib.hid (HB7.out.trans (b8.mono HB7.out.size))
      clear b8 HR7 HV7 HB7
      go_wp2_with fail
      go_ret
      exact ⟨rfl, HB8.out⟩

set_option maxRecDepth 100000 in
set_option maxHeartbeats 8000000 in
theorem back_C (A : Option Addr) (n c : Nat) (ns : List Nd) (l : List UInt8) (w : World) (HLL : Hid (l.length ≤ maxLen)) (H : Hid (NodesR w.heap.size w (.slice A n c) ns)) (HL : Hid (n = ns.length)) (HSM : Hid (Small ns 2000000)) (HG : Hid (Glob w)) (k1 : ¬ (100 : Int) < (n : Int)) (k2 : ¬ (2000 : Int) < ((tx l).size : Int)) (hrb : rightB ns = false) :
    Calls Tryz.prog 5 #[.slice A n c, .string (tx l)] w fun e w' => e = .returned (.bool true) ∧ Below w.heap.size w w' := by
  have htl := txl
  have HW := Lib.hid (fun W (hW : NodesR W.heap.size W (.slice A n c) ns) => Write_not ns A n c W hW HL.out (by omega) HSM.out hrb)
  clear hrb
  cases hx : parseX l with
  | error m =>
    have hm0 : (m == 0) = false := by rw [beq_eq_false_iff_ne]; exact parse_ne hx
    have hm1 : (m != 0) = true := by rw [bne_iff_ne]; exact parse_ne hx
    have HPL := Lib.hid (fun W (hW : Glob W) => Parse_not l m W HLL.out hW hx)
    clear hx
    go_enter Tryz.func5, Tryz.ntmps5
    go_wp2_with fail
    refine (HW.out _ H.out).mono ?_
    rintro e w1 ⟨rfl, b1⟩
    have HB := Lib.hid b1
    clear b1
    go_wp2_with fail
    refine (HPL.out _ (HG.out.below HB.out)).mono ?_
    rintro e w4 ⟨A4, c4, rfl, hr4, b4⟩
    have HB4 := Lib.hid (HB.out.trans (b4.mono HB.out.size))
    clear hr4 b4 HB
    go_wp2_with fail
    refine (awake4_c _).mono ?_
    rintro e w5 ⟨rfl, b5⟩
    go_wp2_with fail
    go_ret
    exact ⟨rfl, HB4.out.trans (b5.mono HB4.out.size)⟩
  | ok ts =>
    have hrt := parse_right hx
    have hbk := parse_bk hx
    have hft : ts.length ≤ 2000 := (rightB_few hrt).2
    have hpt := right_parts hrt
    have hwl := writeL_len (small_up hbk) hpt.2.2 hpt.2.1
    have HPL := Lib.hid (fun W (hW : Glob W) => Parse_yes l ts W HLL.out hW hx)
    have HWT := Lib.hid (fun W A' c' (hW : NodesR W.heap.size W (.slice A' ts.length c') ts) => Write_yes ts A' ts.length c' W hW rfl (small_up hbk) hrt)
    obtain ⟨V, hV⟩ : ∃ V, writeL ts = V := ⟨_, rfl⟩
    rw [hV] at HWT hwl
    have hVV : (V == V) = true := beq_self_eq_true V
    have hm : V.length ≤ maxLen := by unfold maxLen; omega
    have HHM := Lib.hid hm
    obtain ⟨k, hk⟩ : ∃ k, ts.length = k := ⟨_, rfl⟩
    by_cases hvl : V.length ≤ 20000
    · have hlv : ((tx V).size : Int) ≤ 20000 := by rw [tx_size]; omega
      have hlw : ¬ (20000 : Int) < ((tx V).size : Int) := by omega
      have hpv : parseX V = .ok ts := by rw [← hV]; exact Bk.parse_write hrt (by rw [hV]; exact hvl)
      have HPV := Lib.hid (fun W (hW : Glob W) => Parse_yes V ts W HHM.out hW hpv)
      have HWV := HWT
      have HST := Lib.hid (fun W A1 c1 A2 c2 (h1 : NodesR W.heap.size W (.slice A1 ts.length c1) ts) (h2 : NodesR W.heap.size W (.slice A2 ts.length c2) ts) => Same_yes ts A1 A2 ts.length c1 c2 W rfl (by omega) (few_attrs hbk) h1 h2)
      rw [hk] at HPL HWT HPV HWV HST
      clear hx hrt hbk hpt hwl hm hpv hV hvl hk hft
      go_enter Tryz.func5, Tryz.ntmps5
      go_wp2_with fail
      refine (HW.out _ H.out).mono ?_
      rintro e w1 ⟨rfl, b1⟩
      have HB := Lib.hid b1
      clear b1
      go_wp2_with fail
      refine (HPL.out _ (HG.out.below HB.out)).mono ?_
      rintro e w4 ⟨A4, c4, rfl, hr4, b4⟩
      have HR4 := Lib.hid hr4
      have HB4 := Lib.hid (HB.out.trans (b4.mono HB.out.size))
      clear hr4 b4 HB
      go_wp2_with fail
      refine (HWT.out _ A4 c4 HR4.out).mono ?_
      rintro e w5 ⟨rfl, b5⟩
      have HR5 := Lib.hid (HR4.out.on b5)
      have HB5 := Lib.hid (HB4.out.trans (b5.mono HB4.out.size))
      clear b5 HR4 HB4
      go_wp2_with fail
      refine (HPV.out _ (HG.out.below HB5.out)).mono ?_
      rintro e w6 ⟨A6, c6, rfl, hr6, b6⟩
      have HR6 := Lib.hid (HR5.out.on b6)
      have HV6 := Lib.hid hr6
      have HB6 := Lib.hid (HB5.out.trans (b6.mono HB5.out.size))
      clear hr6 b6 HR5 HB5
      go_wp2_with fail
      refine (HWV.out _ A6 c6 HV6.out).mono ?_
      rintro e w7 ⟨rfl, b7⟩
      have HR7 := Lib.hid (HR6.out.on b7)
      have HV7 := Lib.hid (HV6.out.on b7)
      have HB7 := Lib.hid (HB6.out.trans (b7.mono HB6.out.size))
      clear b7 HR6 HV6 HB6
      go_wp2_with fail
      refine (awake4_c _).mono ?_
      rintro e w8 ⟨rfl, b8⟩
      have HR8 := Lib.hid (HR7.out.on b8)
      have HV8 := Lib.hid (HV7.out.on b8)
      have HB8 := Lib.hid (HB7.out.trans (b8.mono HB7.out.size))
      clear b8 HR7 HV7 HB7
      go_wp2_with fail
      refine (HST.out _ A4 c4 A6 c6 HR8.out HV8.out).mono ?_
      rintro e w9 ⟨rfl, b9⟩
      have HB9 := Lib.hid (HB8.out.trans (b9.out.mono HB8.out.size))
      clear b9 HR8 HV8 HB8
      go_wp2_with fail
      go_ret
      exact ⟨rfl, HB9.out⟩
    · have hlw : (20000 : Int) < ((tx V).size : Int) := by rw [tx_size]; omega
      have hpv : parseX V = .error 3 := parse_big (by omega)
      have HPV := Lib.hid (fun W (hW : Glob W) => Parse_not V 3 W HHM.out hW hpv)
      have HWV := Lib.hid (fun W A' c' (hW : NodesR W.heap.size W (.slice A' 0 c') []) => Write_not [] A' 0 c' W hW rfl (by omega) (fun i => by unfold nd bulkN; simp) right_none)
      rw [hk] at HPL HWT
      clear hx hrt hbk hpt hwl hm hpv hV hvl hk hft
      go_enter Tryz.func5, Tryz.ntmps5
      go_wp2_with fail
      refine (HW.out _ H.out).mono ?_
      rintro e w1 ⟨rfl, b1⟩
      have HB := Lib.hid b1
      clear b1
      go_wp2_with fail
      refine (HPL.out _ (HG.out.below HB.out)).mono ?_
      rintro e w4 ⟨A4, c4, rfl, hr4, b4⟩
      have HR4 := Lib.hid hr4
      have HB4 := Lib.hid (HB.out.trans (b4.mono HB.out.size))
      clear hr4 b4 HB
      go_wp2_with fail
      refine (HWT.out _ A4 c4 HR4.out).mono ?_
      rintro e w5 ⟨rfl, b5⟩
      have HR5 := Lib.hid (HR4.out.on b5)
      have HB5 := Lib.hid (HB4.out.trans (b5.mono HB4.out.size))
      clear b5 HR4 HB4
      go_wp2_with fail
      refine (HPV.out _ (HG.out.below HB5.out)).mono ?_
      rintro e w6 ⟨A6, c6, rfl, hr6, b6⟩
      have HR6 := Lib.hid (HR5.out.on b6)
      have HV6 := Lib.hid hr6
      have HB6 := Lib.hid (HB5.out.trans (b6.mono HB5.out.size))
      clear hr6 b6 HR5 HB5
      go_wp2_with fail
      refine (HWV.out _ A6 c6 HV6.out).mono ?_
      rintro e w7 ⟨rfl, b7⟩
      have HR7 := Lib.hid (HR6.out.on b7)
      have HV7 := Lib.hid (HV6.out.on b7)
      have HB7 := Lib.hid (HB6.out.trans (b7.mono HB6.out.size))
      clear b7 HR6 HV6 HB6
      go_wp2_with fail
      refine (awake4_c _).mono ?_
      rintro e w8 ⟨rfl, b8⟩
      have HR8 := Lib.hid (HR7.out.on b8)
      have HV8 := Lib.hid (HV7.out.on b8)
      have HB8 := Lib.hid (HB7.out.trans (b8.mono HB7.out.size))
      clear b8 HR7 HV7 HB7
      go_wp2_with fail
      go_ret
      exact ⟨rfl, HB8.out⟩

set_option maxRecDepth 100000 in
set_option maxHeartbeats 8000000 in
theorem MarkupBack_walk (A : Option Addr) (n c : Nat) (ns : List Nd) (s : ByteArray) (w : World) (hr : NodesR w.heap.size w (.slice A n c) ns) (hl : n = ns.length) (hsm : Small ns 2000000) (hs : s.size ≤ maxLen) (hg : Glob w) :
    Calls Tryz.prog 5 #[.slice A n c, .string s] w fun e w' => e = .returned (.bool true) ∧ Below w.heap.size w w' := by
  by_cases hsz : n ≤ 100 ∧ s.size ≤ 2000
  · obtain ⟨hz1, hz2⟩ := hsz
    have k1 : ¬ (100 : Int) < (n : Int) := by omega
    have k2 : ¬ (2000 : Int) < ((tx (bs s)).size : Int) := by rw [tx_bs]; omega
    have HLL : Hid ((bs s).length ≤ maxLen) := Lib.hid (by rw [bs_length]; exact hs)
    show Calls Tryz.prog 5 #[.slice A n c, .string (tx (bs s))] w _
    cases hrb : rightB ns with
    | true =>
      by_cases hlen : (writeL ns).length ≤ 20000
      · exact back_A A n c ns (bs s) w HLL (Lib.hid hr) (Lib.hid hl) (Lib.hid hsm) (Lib.hid hg) k1 k2 hrb hlen
      · exact back_B A n c ns (bs s) w HLL (Lib.hid hr) (Lib.hid hl) (Lib.hid hsm) (Lib.hid hg) k1 k2 hrb hlen
    | false => exact back_C A n c ns (bs s) w HLL (Lib.hid hr) (Lib.hid hl) (Lib.hid hsm) (Lib.hid hg) k1 k2 hrb
  · have hways : (100 : Int) < (n : Int) ∨ (¬ (100 : Int) < (n : Int) ∧ (2000 : Int) < (s.size : Int)) := by omega
    clear hsz hs hr hl hsm hg
    rcases hways with h1 | ⟨h1, h2⟩
    all_goals
      go_enter Tryz.func5, Tryz.ntmps5
      go_wp2_with fail
      refine (awake4_c _).mono ?_
      rintro e w2 ⟨rfl, b2⟩
      go_wp2_with fail
      go_ret
      exact ⟨rfl, b2⟩
end Go.Proofs.YtkccockdnjjanaaGreatDoor
