/-
  Plain facts: all bytes up to a place are of a kind.
-/
import Derived.Test.YtbpcoiblddhnjaaDoorChMath
namespace Nwl
/-- from the beginning up to k all bytes are of a kind -/
def AllTo (p : UInt8 → Bool) (l : List UInt8) (k : Nat) : Prop := ∀ j (hj : j < l.length), j < k → p l[j] = true
theorem allTo_zero (p : UInt8 → Bool) (l : List UInt8) : AllTo p l 0 := fun j _ h => by omega
theorem allTo_succ {p : UInt8 → Bool} {l : List UInt8} {k : Nat} (h : AllTo p l k) (hk : k < l.length) (hc : p l[k] = true) : AllTo p l (k + 1) := by
  intro j hj h1
  by_cases e : j = k
  · subst e; exact hc
  · exact h j hj (by omega)
def allL (l : List UInt8) : Bool := l.all fun c => allowedI c.toNat
/-- from the beginning up to k all bytes are Allowed -/
theorem allL_of {l : List UInt8} {k : Nat} (h : AllTo (fun c => allowedI c.toNat) l k) (hk : l.length ≤ k) : allL l = true := by
  unfold allL
  rw [List.all_eq_true]
  intro c hc
  obtain ⟨j, hj, rfl⟩ := List.mem_iff_getElem.1 hc
  exact h j hj (by omega)
theorem allL_not {l : List UInt8} {k : Nat} (hk : k < l.length) (h : ∀ hk : k < l.length, allowedI (l[k]).toNat = false) : allL l = false := by
  cases e : allL l with
  | false => rfl
  | true =>
    unfold allL at e
    rw [List.all_eq_true] at e
    have := e _ (List.getElem_mem hk)
    rw [h hk] at this
    cases this
def AllowTo (s : ByteArray) (k : Nat) : Prop := AllTo (fun c => allowedI c.toNat) (bs s) k
theorem allowTo_zero (s : ByteArray) : AllowTo s 0 := allTo_zero _ _
theorem allowTo_succ {s : ByteArray} {k : Nat} (h : AllowTo s k) (hk : k < s.size) (hc : allowedI s[k].toNat = true) : AllowTo s (k + 1) := allTo_succ h (by rw [bs_length]; exact hk) hc
theorem allowTo_no {s : ByteArray} {k : Nat} (hk : k < s.size) (hc : allowedI s[k].toNat = false) : allL (bs s) = false := allL_not (by rw [bs_length]; exact hk) (fun _ => hc)
theorem allowTo_end {s : ByteArray} {k : Nat} (h : AllowTo s k) (hk : s.size ≤ k) : allL (bs s) = true := allL_of h (by rw [bs_length]; exact hk)
theorem bs_at (s : ByteArray) (k : Nat) (h : k < s.size) : ∃ c : UInt8, s[k] = c ∧ ∀ (p : UInt8 → Bool) (b : Bool), p c = b → ∀ h : k < (bs s).length, p (bs s)[k] = b :=
  ⟨s[k], rfl, fun _ _ e _ => e⟩
end Nwl
