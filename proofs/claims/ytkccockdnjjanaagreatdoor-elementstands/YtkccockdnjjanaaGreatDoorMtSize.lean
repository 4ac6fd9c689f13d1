/-
  Plain facts: how long a written tree may be.
-/
import Derived.Test.YtkccockdnjjanaaGreatDoorMtWriteM
namespace Nwl
open Go
theorem nmem_sum : ∀ {L : List Nat} {x : Nat}, x ∈ L → x ≤ L.sum
  | y :: L, x, h => by
    rw [List.sum_cons]
    rcases List.mem_cons.1 h with e | e
    · omega
    · have := nmem_sum e; omega
theorem nlen_sum (l : List (List UInt8 × List UInt8)) : l.length ≤ (l.map fun a => a.1.length + a.2.length + 1).sum := by
  induction l with
  | nil => simp
  | cons a l ih => rw [List.map_cons, List.sum_cons, List.length_cons]; omega
theorem attrs_bulk (l : List (List UInt8 × List UInt8)) : (attrsW l).length ≤ 6 * (l.map fun a => a.1.length + a.2.length + 1).sum := by
  induction l with
  | nil => simp [attrsW]
  | cons a l ih =>
    have h1 : (attrsW (a :: l)).length = (attrW a).length + (attrsW l).length := by simp [attrsW]
    have h2 : (attrW a).length ≤ 6 * (a.1.length + a.2.length + 1) := by
      have := escL_len a.2
      simp only [attrW, List.length_append, List.length_cons, List.length_nil]
      omega
    rw [h1, List.map_cons, List.sum_cons]
    omega
theorem nodeW_len {ns : List Nd} {M : Nat} (h : Small ns M) (i : Nat) : (nodeW ns i).length ≤ 6 * M + 10 := by
  have hb := h i
  unfold bulkN at hb
  have h1 := attrs_bulk (nd ns i).attrs
  have h2 := escL_len (nd ns i).text
  unfold nodeW headW
  split
  · omega
  · split <;> simp only [List.length_append, List.length_cons, List.length_nil] <;> omega
theorem closeU_len {ns : List Nd} {M : Nat} (h : Small ns M) (t : Int) : ∀ (f : Nat) (o : Int), (closeU ns t f o).length ≤ f * (M + 3)
  | 0, o => by simp [closeU]
  | f + 1, o => by
    have ih := closeU_len h t f (parAt ns o)
    have hb := h o.toNat
    unfold bulkN at hb
    unfold closeU
    split
    · simp
    · rw [List.length_append, Nat.succ_mul]
      have : (endL (nd ns o.toNat).name).length ≤ M + 3 := by
        simp only [endL, List.length_append, List.length_cons, List.length_nil]; omega
      omega
theorem closeW_len {ns : List Nd} {M K : Nat} (h : Small ns M) (o t : Int) (hK : o < K) : (closeW ns o t).length ≤ K * (M + 3) := by
  have h1 := closeU_len h t (o + 1).toNat o
  have h2 : (o + 1).toNat ≤ K := by omega
  exact Nat.le_trans h1 (Nat.mul_le_mul_right _ h2)
theorem outTo_len {ns : List Nd} {M K : Nat} (h : Small ns M) (hp : Par ns K) : ∀ (k : Nat), k ≤ K → (outTo ns k).length ≤ k * (K * (M + 3) + (6 * M + 10))
  | 0, _ => by simp [outTo]
  | k + 1, hk => by
    have ih := outTo_len h hp k (by omega)
    have ho := openTo_bound hp (i := k) (by omega)
    have h1 := closeW_len (K := K) h (openTo ns k) (parAt ns k) (by omega)
    have h2 := nodeW_len h k
    rw [outTo_succ, List.length_append, List.length_append, Nat.succ_mul]
    omega
theorem write_len {ns : List Nd} {M : Nat} (h : Small ns M) (hr : rightTo ns ns.length = true) (hl : ns.length ≤ 2000) (hM : M ≤ 2000000) : ∀ (k : Nat) (t : Int), k ≤ ns.length → (outTo ns k ++ closeW ns (openTo ns k) t).length ≤ 10000000000000 := by
  intro k t hk
  have hp := right_par hr
  have h1 := outTo_len h hp k hk
  have ho := openTo_bound hp (i := k) hk
  have h2 := closeW_len (K := ns.length) h (openTo ns k) t (by omega)
  have h3 : ns.length * (M + 3) ≤ 2000 * 2000003 := Nat.mul_le_mul hl (by omega)
  have h4 : k * (ns.length * (M + 3) + (6 * M + 10)) ≤ 2000 * (2000 * 2000003 + 12000010) := Nat.mul_le_mul (by omega) (by omega)
  rw [List.length_append]
  omega
theorem wrF_len {ns : List Nd} {M : Nat} (h : Small ns M) (hr : rightTo ns ns.length = true) (hl : ns.length ≤ 2000) (hM : M ≤ 2000000) (d i : Nat) (hi : i < ns.length) (hd : ns.length - i ≤ d) : (wrF ns d i).length ≤ 10000000000000 := by
  obtain ⟨e, e1, e2, _, _, e5, _⟩ := sub_ok hr d i hi hd
  have h1 := write_len h hr hl hM e (parAt ns i) e2
  rw [e5, List.length_append] at h1
  omega
theorem writeL_len {ns : List Nd} {M : Nat} (h : Small ns M) (hr : rightTo ns ns.length = true) (hl : ns.length ≤ 2000) (hM : M ≤ 2000000) : (writeL ns).length ≤ 10000000000000 := write_len h hr hl hM ns.length (-1) (Nat.le_refl _)
end Nwl
