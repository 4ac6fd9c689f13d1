/-
  Layer 4: the contract of Write.
-/
import Derived.Test.YtkccockdnjjanaaMkNode
namespace Nwl
/-- a right node's parent is open when it is written -/
theorem right_up {ns : List Nd} {i : Nat} (h : rightTo ns (i + 1) = true) : parAt ns i = -1 ∨ parAt ns i ∈ chainL ns (openTo ns i) := by
  have hi := rightTo_at h (Nat.lt_succ_self i)
  unfold nodeB at hi
  rw [Bool.and_eq_true] at hi
  have hs := hi.2
  cases i with
  | zero =>
    rw [mayStandB, Bool.and_eq_true, decide_eq_true_iff] at hs
    exact .inl hs.1
  | succ k =>
    have hp : Par ns (k + 1) := (right_par h).le (by omega)
    rw [mayStandB, Bool.and_eq_true, List.contains_iff_mem] at hs
    refine .inr ?_
    show parAt ns ((k + 1 : Nat) : Int) ∈ chainL ns (openW ns k)
    have hm := hs.1
    unfold innerN at hm
    unfold openW
    by_cases ht : textB (nd ns k) = true
    · rw [if_pos ht] at hm ⊢
      exact hm
    · rw [if_neg ht] at hm ⊢
      by_cases hk : kidsB ns k = true
      · rw [if_pos hk]
        exact hm
      · rw [if_neg hk]
        rw [chainL_step hp (by omega) (by omega), List.mem_cons] at hm
        rcases hm with hm | hm
        · exfalso
          apply hk
          have hkl : k + 1 < ns.length := by
            rcases Nat.lt_or_ge (k + 1) ns.length with h' | h'
            · exact h'
            · exfalso
              have : nd ns (k + 1) = ⟨-1, [], [], []⟩ := by
                unfold nd
                rw [List.getD_eq_getElem?_getD, List.getElem?_eq_none h']
                rfl
              unfold parAt at hm
              rw [Int.toNat_natCast, this] at hm
              simp only at hm
              omega
          rw [kidsB_yes hkl, decide_eq_true_iff]
          exact hm
        · exact hm
theorem outTo_le (ns : List Nd) : ∀ (d i : Nat), (outTo ns i).length ≤ (outTo ns (i + d)).length
  | 0, i => Nat.le_refl _
  | d + 1, i => by
    have := outTo_le ns d i
    show (outTo ns i).length ≤ (outTo ns (i + d) ++ closeW ns (openTo ns (i + d)) (parAt ns (i + d : Nat)) ++ nodeW ns (i + d)).length
    rw [List.length_append, List.length_append]
    omega
theorem write_ne {ns : List Nd} {n : Nat} (hn : n = ns.length) (h : rightTo ns n = true) (h0 : 0 < n) : writeL ns ≠ [] := by
  subst hn
  have hi := rightTo_at h h0
  unfold nodeB at hi
  rw [Bool.and_eq_true, mayStandB, Bool.and_eq_true] at hi
  have ht : textB (nd ns 0) = false := by simpa using hi.2.2
  have h1 : 1 ≤ (outTo ns 1).length := by
    show 1 ≤ (outTo ns 0 ++ closeW ns (openTo ns 0) (parAt ns (0 : Nat)) ++ nodeW ns 0).length
    have : 1 ≤ (nodeW ns 0).length := by
      unfold nodeW headW
      rw [if_neg (by rw [ht]; decide)]
      simp
    rw [List.length_append]
    omega
  have h2 := outTo_le ns (ns.length - 1) 1
  rw [show 1 + (ns.length - 1) = ns.length by omega] at h2
  intro e
  have : (writeL ns).length = 0 := by rw [e]; rfl
  unfold writeL at this
  rw [List.length_append] at this
  omega
def writeT (ns : List Nd) : List UInt8 := if rightB ns then writeL ns else []
def writeE (ns : List Nd) : Int := if rightB ns then 0 else 6
theorem write_yes {ns : List Nd} (h : rightB ns = true) : writeT ns = writeL ns ∧ writeE ns = 0 := by unfold writeT writeE; rw [if_pos h, if_pos h]; exact ⟨rfl, rfl⟩
theorem write_no {ns : List Nd} (h : rightB ns = false) : writeT ns = [] ∧ writeE ns = 6 := by unfold writeT writeE; rw [if_neg (by rw [h]; decide), if_neg (by rw [h]; decide)]; exact ⟨rfl, rfl⟩
theorem right_parts {ns : List Nd} (h : rightB ns = true) : ns ≠ [] ∧ ns.length ≤ 2000 ∧ rightTo ns ns.length = true := by
  unfold rightB at h
  rw [Bool.and_eq_true, Bool.and_eq_true, decide_eq_true_iff, decide_eq_true_iff] at h
  exact ⟨h.1, h.2.1, h.2.2⟩
theorem rightTo_le {ns : List Nd} {k m : Nat} (h : rightTo ns m = true) (hk : k ≤ m) : rightTo ns k = true := by
  unfold rightTo at h ⊢
  rw [List.all_eq_true] at h ⊢
  intro x hx
  exact h x (List.mem_range.2 (by have := List.mem_range.1 hx; omega))
end Nwl
namespace Go.Proofs.Ytkccockdnjjanaa
open Nwl
open Go.RowKit Go.Maps
set_option linter.unusedVariables false

theorem Right_b (B : Nat) (ns : List Nd) (A : Option Addr) (n c : Nat) (w : World) (r : Bool) (hrr : rightB ns = r) (hr : NodesR B w (.slice A n c) ns) (hB : B ≤ w.heap.size) (hn : n = ns.length) (hlen : n ≤ 1000000000000) (hsm : Small ns 2000000) :
    Calls Try.prog 9 #[.slice A n c] w fun e w' => e = .returned (.bool r) ∧ Below w.heap.size w w' := by
  subst hrr
  exact Right_c B ns A n c w hr hB hn hlen hsm
theorem RowR.mono {B B' : Nat} {w : World} {v : Value} {n size : Nat} {cs : List Value} (h : RowR B w v n size cs) (hB : B ≤ B') : RowR B' w v n size cs := by
  refine ⟨h.1, ?_⟩
  rcases h.2 with h0 | ⟨b, o, c, hv, hb, r⟩
  · exact .inl h0
  · exact .inr ⟨b, o, c, hv, by omega, r⟩
theorem NdiCells.mono {B B' : Nat} {w : World} (hB : B ≤ B') : ∀ {ts : List Nd} {cs : List Value}, NdiCells B w ts cs → NdiCells B' w ts cs
  | [], _, h => h
  | t :: ts, _, ⟨av, tl, e, h1, h2⟩ => ⟨av, tl, e, h1.mono hB, NdiCells.mono hB h2⟩
theorem NodesR.mono {B B' : Nat} {w : World} {v : Value} {ts : List Nd} (h : NodesR B w v ts) (hB : B ≤ B') : NodesR B' w v ts := by
  obtain ⟨cs, h1, h2⟩ := h
  exact ⟨cs, h1.mono hB, h2.mono hB⟩
/-- a writer's text, at the end -/
theorem mString_any {B b : Nat} {vn vo p vb : Value} {run : List UInt8} {w : World} (h : WrV B b vn vo p vb run w) (h0 : run ≠ []) :
    Calls Try.prog 12 #[.pointer (some ⟨b, 2, none⟩)] w fun e w' => e = .returned (.string (tx run)) ∧ Below B w w' := by
  refine (mString_c h h0).mono ?_
  rintro e w' ⟨rfl, hg⟩
  exact ⟨rfl, (Below.refl B w).grown hg (by have := h.base; have := h.lt; omega) (fun k hk => (h.run.lt k hk).1)⟩

set_option maxRecDepth 100000 in
set_option maxHeartbeats 4000000 in
theorem Write_any (B : Nat) (ns : List Nd) (A : Option Addr) (n c : Nat) (w : World) (hr : NodesR B w (.slice A n c) ns) (hB : B ≤ w.heap.size) (hn : n = ns.length) (hlen : n ≤ 1000000000000) (hsm : Small ns 2000000) (hlo : (writeL ns).length ≤ 140737488355328 ∨ rightB ns = false) :
    Calls Try.prog 5 #[.slice A n c] w fun e w' => e = .returned (.tuple #[.string (tx (writeT ns)), .int .i64 (writeE ns)]) ∧ Below w.heap.size w w' := by
  have HR := Lib.hid hr
  have HN := Lib.hid hn
  have HS := Lib.hid hsm
  clear hr hsm
  cases hrb : rightB ns with
  | false =>
    obtain ⟨hT, hE⟩ := write_no hrb
    rw [hT, hE]
    have HRB := Lib.hid hrb
    clear hrb hT hE hn hlo
    go_enter Try.func5, Try.ntmps5
    go_wp2_with fail
    refine wp_scope_again 0 (fun _ _ => False) (fun _ _ => 0) rfl (fun _ _ h => h.elim) ?_
    intro hpass
    go_wp2_with fail
    refine (Right_b B ns _ _ _ _ false HRB.out HR.out hB HN.out hlen HS.out).mono ?_
    rintro e w1 ⟨rfl, hb1⟩
    go_wp2_with fail
    simp only [Exit.jump]
    go_ret2
    exact ⟨rfl, hb1⟩
  | true =>
    have hl : (writeL ns).length ≤ 140737488355328 := hlo.resolve_right (by rw [hrb]; decide)
    clear hlo
    obtain ⟨hT, hE⟩ := write_yes hrb
    obtain ⟨h0, h2, h1⟩ := right_parts hrb
    rw [hT, hE]
    have HRB := Lib.hid hrb
    have HRT : Hid (rightTo ns n = true) := Lib.hid (by rw [HN.out]; exact h1)
    have hn0 : 0 < n := by have := List.length_pos_iff.2 h0; omega
    have HWL : Hid (writeL ns = outTo ns n ++ closeW ns (openTo ns n) (-1)) := Lib.hid (by unfold writeL; rw [HN.out])
    have hn2 : n ≤ 2000 := by omega
    have hle : ∀ i, i ≤ n → (outTo ns i).length ≤ 140737488355328 := fun i hi => by
      have := outTo_le ns (n - i) i
      rw [show i + (n - i) = n by omega] at this
      rw [HWL.out, List.length_append] at hl
      omega
    have HLE := Lib.hid hle
    clear hrb hT hE hn h0 h1 h2 hle
    go_enter Try.func5, Try.ntmps5
    go_wp2_with fail
    refine wp_scope_again 0 (fun a' w' => ∃ (b k : Nat) (u6 u7 u8 u9 u10 u11 u12 u13 u14 u15 u16 u17 u18 u19 u20 u21 : Value), a' = { tmps := #[.slice A n c, undef, .string ⟨#[]⟩, .int .i64 0, .pointer (some ⟨b, 0, none⟩), .int .i64 (k : Int), u6, u7, u8, u9, u10, u11, u12, u13, u14, u15, u16, u17, u18, u19, u20, u21], defers := [] } ∧ Hid (k ≤ n ∧ (∃ p vb, WrV w.heap.size b (.slice A n c) (.int .i64 (openTo ns k)) p vb (outTo ns k) w') ∧ Below w.heap.size w w')) (fun a' _ => n - (intOf (a'.tmps.getD 5 undef)).toNat) rfl ?_ ?_
    · rintro a' w' ⟨b, k, u6, u7, u8, u9, u10, u11, u12, u13, u14, u15, u16, u17, u18, u19, u20, u21, rfl, hh⟩
      obtain ⟨hk, ⟨p1, vb1, hv⟩, hbel⟩ := hh.out
      clear hh
      have HV := Lib.hid hv
      have HB := Lib.hid hbel
      have hws := hbel.size
      clear hv hbel
      by_cases hlt : k < n
      · have hne : ((k : Int) == (n : Int)) = false := by rw [beq_eq_false_iff_ne]; omega
        have HK1 : Hid (rightTo ns (k + 1) = true) := Lib.hid (rightTo_le HRT.out (by omega))
        have HL1 := Lib.hid (HLE.out (k + 1) (by omega))
        go_wp2_with fail
        refine (node_c w.heap.size b _ n c k p1 vb1 (outTo ns k) ns _ HV.out ((HR.out.below (HB.out.mono hB)).mono hB) HN.out ((right_par HK1.out).le (by omega)) hlt (right_up HK1.out) hlen (HS.out k) HL1.out).mono ?_
        rintro e w1 ⟨rfl, ⟨p2, vb2, hv2⟩, hb2⟩
        have HV2 := Lib.hid hv2
        have HB2 : Hid (Below w.heap.size w w1) := Lib.hid (HB.out.trans hb2)
        clear hv2 hb2
        go_wp2_with fail
        go_step3
        refine ⟨rfl, ⟨b, k + 1, _, _, _, _, _, _, _, _, _, _, _, _, _, _, _, _, rfl, hlt, ⟨p2, vb2, HV2.out⟩, HB2.out⟩, ?_⟩
        simp [intOf]
        omega
      · obtain rfl : k = n := by omega
        have hob := openTo_bound (right_par HRT.out) (i := k) (Nat.le_refl _)
        go_wp2_with fail
        refine (leave_c w.heap.size b _ k c k _ (-1) p1 vb1 (outTo ns k) ns _ HV.out ((HR.out.below (HB.out.mono hB)).mono hB) HN.out (right_par HRT.out) (Nat.le_refl _) hob.1 hob.2 (.inl rfl) hlen (by rw [← HWL.out]; exact hl)).mono ?_
        rintro e w1 ⟨rfl, ⟨p2, vb2, hv2⟩, hb2, _⟩
        rw [← HWL.out] at hv2
        have HV2 := Lib.hid hv2
        have HB2 : Hid (Below w.heap.size w w1) := Lib.hid (HB.out.trans hb2)
        clear hv2 hb2
        go_wp2_with fail
        refine (mString_any HV2.out (write_ne HN.out HRT.out hn0)).mono ?_
        rintro e w2 ⟨rfl, hb3⟩
        have HB3 : Hid (Below w.heap.size w w2) := Lib.hid (HB2.out.trans hb3)
        clear hb3
        go_wp2_with fail
        simp only [Exit.jump]
        go_ret2
        exact ⟨rfl, HB3.out⟩
    · intro hpass
      go_wp2_with fail
      refine (Right_b B ns _ _ _ _ true HRB.out HR.out hB HN.out hlen HS.out).mono ?_
      rintro e w1 ⟨rfl, hb1⟩
      have hws := hb1.size
      have HB1 := Lib.hid hb1
      clear hb1
      go_wp2_with fail
      go_step3
      rename_i hK
      exact hK _ _ (hpass.out _ _ ⟨w1.heap.size, 0, _, _, _, _, _, _, _, _, _, _, _, _, _, _, _, _, rfl, Nat.zero_le _, ⟨.pointer none, .slice none 0 0, hws, Blk.new w1 _ _, .inl rfl, World.ownsRowF_nil _ _ _ _⟩, HB1.out.alloc hws _⟩)

theorem Write_c (B : Nat) (ns : List Nd) (A : Option Addr) (n c : Nat) (w : World) (hr : NodesR B w (.slice A n c) ns) (hB : B ≤ w.heap.size) (hn : n = ns.length) (hlen : n ≤ 1000000000000) (hsm : Small ns 2000000) (hl : (writeL ns).length ≤ 140737488355328) :
    Calls Try.prog 5 #[.slice A n c] w fun e w' => e = .returned (.tuple #[.string (tx (writeT ns)), .int .i64 (writeE ns)]) ∧ Below w.heap.size w w' :=
  Write_any B ns A n c w hr hB hn hlen hsm (.inl hl)

end Go.Proofs.Ytkccockdnjjanaa
