/-
  The walk of MarkupTells.
-/
import Derived.Test.YtkccockdnjjanaaMtTells
import Derived.Test.YtkccockdnjjanaaMkAwake
namespace Go.Proofs.Ytkccockdnjjanaa
open Nwl
open Go.RowKit Go.Maps
set_option linter.unusedVariables false
set_option linter.unusedSimpArgs false

/-- nodes that may be read, as the document's contracts want them -/
theorem NdRd.ofR {B : Nat} {w : World} {A : Option Addr} {n c : Nat} {ns : List Nd} (h : NodesR B w (.slice A n c) ns) (hn : n = ns.length) : NdRd B w A n ns := by
  refine ⟨hn, fun j hj => ?_⟩
  obtain ⟨b, o, A2, l2, c2, hA, hr, q1, q2, q3, q4⟩ := h.at j hj
  have hl : l2 = (ns[j]).attrs.length := by
    rcases hr.2 with ⟨⟨A0, c0, hv, _⟩, h0⟩ | ⟨b', o', c', hv, _⟩
    · injection hv with _ e2 _
      omega
    · injection hv with _ e2 _
  refine ⟨b, o, A2, l2, c2, hA, ?_, q1, q2, q3, q4, AttR.ofR hr hl⟩
  obtain ⟨cs, h1, h2⟩ := h
  rcases h1.2 with ⟨_, h0⟩ | ⟨b', o', c', hv, hb, _⟩
  · omega
  · injection hv with e1 _ _
    rw [hA] at e1
    injection e1 with e1
    injection e1 with e1 _ _
    omega

set_option maxRecDepth 100000 in
set_option maxHeartbeats 4000000 in
theorem tells4_small (s : List UInt8) (A : Option Addr) (n c : Nat) (ns : List Nd) (w : World) (hs : s.length ≤ 1000) (hn : n ≤ 100) (hr : NodesR w.heap.size w (.slice A n c) ns) (hl : n = ns.length) (hsm : Small ns 2000000) :
    Calls Try.prog 3 #[.string (tx s), .slice A n c] w fun e w' => e = .returned (.bool true) ∧ Below w.heap.size w w' := by
  have k1 : ¬ (1000 : Int) < ((tx s).size : Int) := by rw [tx_size]; omega
  have k2 : ¬ (100 : Int) < (n : Int) := by omega
  have HL := Lib.hid hl
  have H := Lib.hid hr
  have hnd := NdRd.ofR hr hl
  have HD := Lib.hid hnd
  have HS := Lib.hid hs
  obtain ⟨r, hrr⟩ : ∃ r, rightB ns = r := ⟨_, rfl⟩
  obtain ⟨T, hT⟩ : ∃ T, writeT ns = T := ⟨_, rfl⟩
  obtain ⟨E, hE⟩ : ∃ E, writeE ns = E := ⟨_, rfl⟩
  obtain ⟨X, hX⟩ : ∃ X, escL s = X := ⟨_, rfl⟩
  have hlen : (writeL ns).length ≤ 140737488355328 ∨ rightB ns = false := by
    cases hb : rightB ns with
    | false => exact .inr rfl
    | true =>
      have hp := right_parts hb
      have := writeL_len hsm hp.2.2 hp.2.1 (Nat.le_refl _)
      exact .inl (by omega)
  have HRR := Lib.hid hrr
  have HX : Hid (escL (bs (tx s)) = X) := Lib.hid hX
  have hWP : ∀ W, NodesR W.heap.size W (.slice A n c) ns → Calls Try.prog 5 #[.slice A n c] W fun e w' => e = .returned (.tuple #[.string (tx T), .int .i64 E]) ∧ Below W.heap.size W w' := fun W hW => by
    have h := Write_any W.heap.size ns A n c W hW (Nat.le_refl _) hl (by omega) hsm hlen
    rw [hT, hE] at h
    exact h
  have hWR : ∀ W, NdRd W.heap.size W A n ns → Calls Try.prog 6 #[.slice A n c] W fun e w' => e = .returned (.tuple #[.string (tx T), .int .i64 E]) ∧ Hid (Below W.heap.size W w') := fun W hW => rWrite_c ns A n c W hW (by omega) hsm T E (by rw [← hT]; rfl) (by rw [← hE]; rfl)
  have hRP : ∀ W, NodesR W.heap.size W (.slice A n c) ns → Calls Try.prog 9 #[.slice A n c] W fun e w' => e = .returned (.bool r) ∧ Below W.heap.size W w' := fun W hW => Right_b W.heap.size ns A n c W r hrr hW (Nat.le_refl _) hl (by omega) hsm
  have hRR : ∀ W, NdRd W.heap.size W A n ns → Calls Try.prog 10 #[.slice A n c] W fun e w' => e = .returned (.bool r) ∧ Hid (Below W.heap.size W w') := fun W hW => rRight_c ns A n c W hW (by omega) hsm r hrr
  have WP := Lib.hid hWP
  have WR := Lib.hid hWR
  have RP := Lib.hid hRP
  have RR := Lib.hid hRR
  have htl := txl
  have hs2 : (tx s).size ≤ 1000 := by rw [tx_size]; exact hs
  clear hr hl hsm hnd hrr hT hE hX hlen hWP hWR hRP hRR hs
  go_enter Try.func3, Try.ntmps3
  go_wp2_with fail
  refine (WP.out _ H.out).mono ?_
  rintro e w1 ⟨rfl, b1⟩
  have B1 := Lib.hid b1
  have D1 := Lib.hid (HD.out.on b1)
  clear b1
  go_wp2_with fail
  refine (WR.out _ D1.out).mono ?_
  rintro e w2 ⟨rfl, b2⟩
  have B2 := Lib.hid (B1.out.trans (b2.out.mono B1.out.size))
  clear b2 B1 D1
  go_wp2_with fail
  refine (awake4_c _).mono ?_
  rintro e w3 ⟨rfl, b3⟩
  have B3 := Lib.hid (B2.out.trans (b3.mono B2.out.size))
  clear b3 B2
  go_wp2_with fail
  refine (mEscape_b (tx s) _ X HX.out (by omega)).mono ?_
  rintro e w4 ⟨rfl, b4⟩
  have B4 := Lib.hid (B3.out.trans (b4.mono B3.out.size))
  clear b4 B3
  go_wp2_with fail
  refine (rEscape_c (tx s) _ (by omega) X HX.out).mono ?_
  rintro e w5 ⟨rfl, b5⟩
  have B5 := Lib.hid (B4.out.trans (b5.out.mono B4.out.size))
  have H5 := Lib.hid ((H.out.below B5.out).mono B5.out.size)
  have hxx : (X == X) = true := beq_self_eq_true X
  clear b5 B4
  go_wp2_with fail
  refine (RP.out _ H5.out).mono ?_
  rintro e w6 ⟨rfl, b6⟩
  have B6 := Lib.hid (B5.out.trans (b6.mono B5.out.size))
  have D6 := Lib.hid (HD.out.on B6.out)
  clear b6 B5 H5
  go_wp2_with fail
  refine (RR.out _ D6.out).mono ?_
  rintro e w7 ⟨rfl, b7⟩
  have B7 := Lib.hid (B6.out.trans (b7.out.mono B6.out.size))
  have hr2 : (r == r) = true := beq_self_eq_true r
  have hT2 : (T == T) = true := beq_self_eq_true T
  have hE2 : (E == E) = true := beq_self_eq_true E
  go_wp2_with fail
  go_ret
  exact ⟨rfl, B7.out⟩

set_option maxRecDepth 100000 in
set_option maxHeartbeats 4000000 in
theorem MarkupTells_walk (s : ByteArray) (A : Option Addr) (n c : Nat) (ns : List Nd) (w : World) (hs : s.size ≤ maxLen) (hr : NodesR w.heap.size w (.slice A n c) ns) (hl : n = ns.length) (hsm : Small ns 2000000) :
    Calls Try.prog 3 #[.string s, .slice A n c] w fun e w' => e = .returned (.bool true) ∧ Below w.heap.size w w' := by
  by_cases hsz : s.size ≤ 1000 ∧ n ≤ 100
  · exact tells4_small (bs s) A n c ns w (by rw [bs_length]; exact hsz.1) hsz.2 hr hl hsm
  · have hways : (1000 : Int) < (s.size : Int) ∨ (¬ (1000 : Int) < (s.size : Int) ∧ (100 : Int) < (n : Int)) := by omega
    clear hsz hr hl hsm hs
    rcases hways with h1 | ⟨h1, h2⟩
    all_goals
      go_enter Try.func3, Try.ntmps3
      go_wp2_with fail
      refine (awake4_c _).mono ?_
      rintro e w2 ⟨rfl, b2⟩
      go_wp2_with fail
      go_ret
      exact ⟨rfl, b2⟩
end Go.Proofs.Ytkccockdnjjanaa
