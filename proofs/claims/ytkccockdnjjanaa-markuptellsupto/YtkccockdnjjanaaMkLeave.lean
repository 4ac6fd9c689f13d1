/-
  Layer 4: the writer's calls: leave.
-/
import Derived.Test.YtkccockdnjjanaaMkWrite1
namespace Nwl
theorem close_next {ns : List Nd} {m : Nat} (h : Par ns m) {k : Nat} {t : Int} (hk : k < m) (hne : ¬ (k : Int) = t) : closeW ns k t = endL (nd ns k).name ++ closeW ns (parAt ns k) t := by
  rw [closeW_step h (by omega) (by omega) hne, Int.toNat_natCast]
theorem chain_next {ns : List Nd} {m : Nat} (h : Par ns m) {k : Nat} {t : Int} (hk : k < m) (hne : ¬ (k : Int) = t) (ht : t = -1 ∨ t ∈ chainL ns k) : t = -1 ∨ t ∈ chainL ns (parAt ns k) := by
  rcases ht with ht | ht
  · exact .inl ht
  · rw [chainL_step h (by omega) (by omega), List.mem_cons] at ht
    rcases ht with ht | ht
    · exact absurd ht.symm hne
    · exact .inr ht
end Nwl
namespace Go.Proofs.Ytkccockdnjjanaa
open Nwl
open Go.RowKit Go.Maps
set_option linter.unusedVariables false
theorem WrV.draw {B b : Nat} {vn vo p vb : Value} {run : List UInt8} {w : World} (h : WrV B b vn vo p vb run w) : WrV B b vn vo p vb run w.drew :=
  h.same (w' := w.drew) ⟨rfl, rfl, rfl, Nat.le_refl _, fun _ _ _ => rfl⟩
/-- what is open, in memory -/
def opOf (b : Nat) (w : World) : Nat := match w.cell? ⟨b, 1, none⟩ with
  | some (.int _ v) => (v + 1).toNat
  | _ => 0
theorem opOf_eq {b : Nat} {w : World} {v : Int} (h : w.cell? ⟨b, 1, none⟩ = some (.int .i64 v)) : opOf b w = (v + 1).toNat := by
  unfold opOf
  rw [h]
/-- where leaving stands -/
structure LvAt (B b : Nat) (A : Option Addr) (n c m : Nat) (ns : List Nd) (all : List UInt8) (t : Int) (w : World) (o : Int) (w' : World) : Prop where
  st : ∃ p vb run, WrV B b (.slice A n c) (.int .i64 o) p vb run w' ∧ all = run ++ closeW ns o t
  bel : Below B w w'
  kp : Keep w w'
  lo : -1 ≤ o
  hi : o < m
  up : t = -1 ∨ t ∈ chainL ns o

set_option maxRecDepth 100000 in
set_option maxHeartbeats 2000000 in
theorem leave_c (B b : Nat) (A : Option Addr) (n c m : Nat) (o t : Int) (p vb : Value) (run : List UInt8) (ns : List Nd) (w : World) (h : WrV B b (.slice A n c) (.int .i64 o) p vb run w) (hr : NodesR B w (.slice A n c) ns) (hn : n = ns.length) (hp : Par ns m) (hm : m ≤ n) (h0 : -1 ≤ o) (h1 : o < m) (ht : t = -1 ∨ t ∈ chainL ns o) (hlen : n ≤ 1000000000000) (hl : (run ++ closeW ns o t).length ≤ 140737488355328) :
    Calls Try.prog 11 #[.pointer (some ⟨b, 0, none⟩), .int .i64 t] w fun e w' => e = .returned (.tuple #[]) ∧ (∃ p' vb', WrV B b (.slice A n c) (.int .i64 t) p' vb' (run ++ closeW ns o t) w') ∧ Below B w w' ∧ Keep w w' := by
  obtain ⟨all, hall⟩ : ∃ all, all = run ++ closeW ns o t := ⟨_, rfl⟩
  rw [← hall] at hl ⊢
  have HH : Hid (LvAt B b A n c m ns all t w o w) := Lib.hid ⟨⟨p, vb, run, h, hall⟩, Below.refl _ _, Keep.refl _, h0, h1, ht⟩
  have HR := Lib.hid hr
  have HN := Lib.hid hn
  have HP := Lib.hid hp
  have HBS := h.base
  clear h hr hn hp hall ht h0 h1
  go_enter Try.func11, Try.ntmps11
  go_wp2_with fail
  refine wp_scope_again 0 (fun a' w' => ∃ (o : Int) (u4 u5 u6 u7 u8 u9 u10 u11 u12 u13 u14 u15 u16 u17 u18 u19 u20 u21 u22 u23 u24 u25 u26 u27 u28 u29 u30 : Value), a' = { tmps := #[.pointer (some ⟨b, 0, none⟩), .int .i64 t, undef, undef, u4, u5, u6, u7, u8, u9, u10, u11, u12, u13, u14, u15, u16, u17, u18, u19, u20, u21, u22, u23, u24, u25, u26, u27, u28, u29, u30], defers := [] } ∧ Hid (LvAt B b A n c m ns all t w o w')) (fun _ w' => opOf b w') rfl ?_ ?_
  · rintro a' w' ⟨o, u4, u5, u6, u7, u8, u9, u10, u11, u12, u13, u14, u15, u16, u17, u18, u19, u20, u21, u22, u23, u24, u25, u26, u27, u28, u29, u30, rfl, hh⟩
    obtain ⟨p1, vb1, run1, hv, hal⟩ := hh.out.st
    have c0 := hv.blk.cell 0
    have c1 := hv.blk.cell 1
    have HMU := Lib.hid (opOf_eq c1)
    by_cases hot : o = t
    · subst hot
      have HV : Hid (∃ p' vb', WrV B b (.slice A n c) (.int .i64 o) p' vb' all w') := Lib.hid ⟨p1, vb1, by rw [hal, closeW_same, List.append_nil]; exact hv⟩
      clear hv hal HMU
      go_wp2_with fail
      simp only [Exit.jump]
      exact bodyPost_ret (v := .tuple #[]) (by simp [results, Try.results11]) rfl ⟨rfl, HV.out, hh.out.bel, hh.out.kp⟩
    · have h0 : 0 ≤ o := by
        have := hh.out.lo
        rcases Int.lt_or_le o 0 with h | h
        · obtain rfl : o = -1 := by omega
          rcases hh.out.up with h | h
          · omega
          · rw [chainL_neg] at h
            cases h
        · exact h
      have hhi := hh.out.hi
      obtain ⟨k, rfl⟩ : ∃ k : Nat, o = k := ⟨o.toNat, by omega⟩
      have hkm : k < m := by omega
      have hkt : k < ns.length := by have := HN.out; omega
      have hkn : k < n := by omega
      have hoe : ((k : Int) == t) = false := by rw [beq_eq_false_iff_ne]; exact hot
      obtain ⟨nb, no, A2, l2, c2, hA, hbB, hl2, hra, e0, e1, e2, e3⟩ := (HR.out.below hh.out.bel).full k hkt
      subst hA
      have HUP := Lib.hid (chain_next HP.out hkm hot hh.out.up)
      have HPB := Lib.hid (HP.out k hkm)
      have HCL := Lib.hid (close_next HP.out hkm hot)
      rw [nd_eq ns k hkt] at HCL
      have HV := Lib.hid hv
      have HAL := Lib.hid hal
      obtain ⟨q, hq⟩ : ∃ q, q = parAt ns (k : Int) := ⟨_, rfl⟩
      rw [← hq] at e0 HUP HPB HCL
      have hvlt := hv.lt
      clear hv hal hra hl2 hq
      generalize (ns[k]).name = nm at *
      generalize (ns[k]).text = xt at *
      have s0 : w'.drew.cell? ⟨b, 0, none⟩ = some (.slice (some ⟨nb, no, none⟩) n c) := c0
      have s1 : w'.drew.cell? ⟨b, 1, none⟩ = some (.int .i64 (k : Int)) := c1
      have s2 : w'.drew.cell? ⟨nb, no + k * 4, none⟩ = some (.int .i64 q) := e0
      have s3 : w'.drew.cell? ⟨nb, no + k * 4 + 1, none⟩ = some (.string (tx nm)) := e1
      have s4 : w'.drew.cell? ⟨nb, no + k * 4 + 2, none⟩ = some (.string (tx xt)) := e2
      have s5 : w'.drew.cell? ⟨nb, no + k * 4 + 3, none⟩ = some (.slice A2 l2 c2) := e3
      have hb1 : ¬ w'.heap.size = b := by omega
      have hb2 : ¬ w'.heap.size = nb := by omega
      go_wp2_with fail
      go_region_held3 (fun w2 => w2.cell? ⟨b, 0, none⟩ = some (.slice (some ⟨nb, no, none⟩) n c) ∧ w2.cell? ⟨b, 1, none⟩ = some (.int .i64 (k : Int)) ∧ w2.cell? ⟨nb, no + k * 4, none⟩ = some (.int .i64 q) ∧ w2.cell? ⟨nb, no + k * 4 + 1, none⟩ = some (.string (tx nm)) ∧ w2.cell? ⟨nb, no + k * 4 + 2, none⟩ = some (.string (tx xt)) ∧ w2.cell? ⟨nb, no + k * 4 + 3, none⟩ = some (.slice A2 l2 c2)) (first | exact ⟨s0, s1, s2, s3, s4, s5⟩ | go_keep) (fail)
      have HW1 : Hid (WrV B b (.slice (some ⟨nb, no, none⟩) n c) (.int .i64 (k : Int)) p1 vb1 run1 ((w'.alloc (.cells #[.int .i64 q, .string (tx nm), .string (tx xt), .slice A2 l2 c2] 32)).alloc (.cells #[.string ⟨#[60, 47]⟩, .string (tx nm), .string ⟨#[62]⟩] 9)).drew) := Lib.hid ((HV.out.alloc _).alloc _).draw
      have HX0 : Hid (Blk ((w'.alloc (.cells #[.int .i64 q, .string (tx nm), .string (tx xt), .slice A2 l2 c2] 32)).alloc (.cells #[.string ⟨#[60, 47]⟩, .string (tx nm), .string ⟨#[62]⟩] 9)).drew w'.heap.size 32 #[.int .i64 q, .string (tx nm), .string (tx xt), .slice A2 l2 c2]) := Lib.hid ((Blk.new w' _ _).alloc _)
      have HPC : Hid (Blk ((w'.alloc (.cells #[.int .i64 q, .string (tx nm), .string (tx xt), .slice A2 l2 c2] 32)).alloc (.cells #[.string ⟨#[60, 47]⟩, .string (tx nm), .string ⟨#[62]⟩] 9)).drew (w'.heap.size + 1) 9 (pcs [[60, 47], nm, [62]])) := Lib.hid (by
        have := Blk.new (w'.alloc (.cells #[.int .i64 q, .string (tx nm), .string (tx xt), .slice A2 l2 c2] 32)) 9 #[.string ⟨#[60, 47]⟩, .string (tx nm), .string ⟨#[62]⟩]
        rw [show (w'.alloc (.cells #[.int .i64 q, .string (tx nm), .string (tx xt), .slice A2 l2 c2] 32)).heap.size = w'.heap.size + 1 by simp] at this
        exact this)
      have HBW : Hid (Below B w ((w'.alloc (.cells #[.int .i64 q, .string (tx nm), .string (tx xt), .slice A2 l2 c2] 32)).alloc (.cells #[.string ⟨#[60, 47]⟩, .string (tx nm), .string ⟨#[62]⟩] 9)).drew) := Lib.hid (((hh.out.bel.alloc (by omega) _).alloc (by simp; omega) _).drew)
      have HKW : Hid (Keep w ((w'.alloc (.cells #[.int .i64 q, .string (tx nm), .string (tx xt), .slice A2 l2 c2] 32)).alloc (.cells #[.string ⟨#[60, 47]⟩, .string (tx nm), .string ⟨#[62]⟩] 9)).drew) := Lib.hid ((((hh.out.kp.alloc _).alloc _)).below (Below.refl _ _).drew)
      have hbl : run1.length + [[60, 47], nm, [62]].flatten.length ≤ 140737488355328 := by
        have := HAL.out
        rw [HCL.out] at this
        rw [this] at hl
        unfold endL at hl
        simp only [List.length_append, List.flatten_cons, List.flatten_nil, List.length_cons, List.length_nil] at hl ⊢
        omega
      go_wp2_with fail
      refine (write_c B b (w'.heap.size + 1) 3 3 _ _ _ _ run1 [[60, 47], nm, [62]] _ HW1.out HPC.out rfl hbl (by decide)).mono ?_
      rintro e w2 ⟨rfl, ⟨p2, vb2, hv2⟩, hb2, hk2⟩
      have y0 := (hk2 _ _ _ (by decide) (by decide) HX0.out).cell 0
      have z1 := hv2.blk.cell 1
      have f1 := hv2.blk.frozen 1
      have HF : Hid (LvAt B b (some ⟨nb, no, none⟩) n c m ns all t w q (w2.setCell ⟨b, 1, none⟩ (.int .i64 q))) := Lib.hid
        { st := ⟨p2, vb2, _, hv2.setOpen q, by rw [HAL.out, HCL.out]; unfold endL; simp⟩
          bel := (HBW.out.trans hb2).setCell (p := ⟨b, 1, none⟩) HBS _
          kp := (HKW.out.trans hk2).setCell hv2.blk _
          lo := HPB.out.1
          hi := by have := HPB.out.2; omega
          up := HUP.out }
      have HM : Hid (opOf b (w2.setCell ⟨b, 1, none⟩ (.int .i64 q)) = (q + 1).toNat) := Lib.hid (opOf_eq ((hv2.setOpen q).blk.cell 1))
      clear hv2 hb2 hk2
      go_wp2_with fail
      go_step3
      refine ⟨rfl, ⟨q, _, _, _, _, _, _, _, _, _, _, _, _, _, _, _, _, _, _, _, _, _, _, _, _, _, _, _, rfl, HF⟩, ?_⟩
      rw [HM.out, HMU.out]
      have := HPB.out.2
      omega
  · intro hpass
    go_wp2_with fail
    go_step3
    rename_i hK
    exact hK _ _ (hpass.out _ _ ⟨o, _, _, _, _, _, _, _, _, _, _, _, _, _, _, _, _, _, _, _, _, _, _, _, _, _, _, _, rfl, HH⟩)

end Go.Proofs.Ytkccockdnjjanaa
