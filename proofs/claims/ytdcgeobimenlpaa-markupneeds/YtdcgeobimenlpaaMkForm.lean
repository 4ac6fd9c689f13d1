/-
  MarkupForm: a tree of so many, one within the other, or beside each other, is written just so.
-/
import Derived.Test.YtdcgeobimenlpaaMkAwake
namespace Nwl
open Go Go.RowKit
theorem idxF (a n : Int) (h0 : 0 < n) (h1 : n ≤ 2147483648) : 0 ≤ Go.RowKit.wrap64 ((IntKind.u64.wrap a).tmod n) ∧ Go.RowKit.wrap64 ((IntKind.u64.wrap a).tmod n) < n := by
  have hu : 0 ≤ IntKind.u64.wrap a := by rw [IntKind.wrap_u64]; omega
  have h2 : (IntKind.u64.wrap a).tmod n = (IntKind.u64.wrap a) % n := Int.tmod_eq_emod_of_nonneg hu
  have h3 := Int.emod_nonneg (IntKind.u64.wrap a) (show n ≠ 0 by omega)
  have h4 := Int.emod_lt_of_pos (IntKind.u64.wrap a) h0
  rw [h2]
  have h5 : Go.RowKit.wrap64 (IntKind.u64.wrap a % n) = IntKind.u64.wrap a % n := by
    generalize IntKind.u64.wrap a % n = x at *
    unfold Go.RowKit.wrap64
    omega
  rw [h5]
  exact ⟨h3, h4⟩
/-- the nodes: the root, and k within -/
def fN (deep : Bool) (k : Nat) : List Nd := ⟨-1, [114], [], []⟩ :: (List.range k).map fun i : Nat => ⟨if deep then (i : Int) else 0, [97], [], []⟩
theorem fN_succ (deep : Bool) (k : Nat) : fN deep (k + 1) = fN deep k ++ [⟨if deep then (k : Int) else 0, [97], [], []⟩] := by
  unfold fN
  rw [List.range_succ, List.map_append]
  rfl
theorem fN_length (deep : Bool) (k : Nat) : (fN deep k).length = k + 1 := by simp [fN]
def fT (deep text : Bool) (n : Nat) : List Nd := fN deep n ++ (if text then [⟨(n : Int), [], [38], []⟩] else [])
theorem fT_length (deep text : Bool) (n : Nat) : (fT deep text n).length = n + 1 + (if text then 1 else 0) := by
  unfold fT
  rw [List.length_append, fN_length]
  cases text <;> rfl
def stepF (deep text : Bool) (j : Nat) (acc : List UInt8) : List UInt8 :=
  if deep then (if j = 0 then (if text then [60, 97, 62] ++ [38, 97, 109, 112, 59] ++ acc ++ [60, 47, 97, 62] else [60, 97, 47, 62]) else [60, 97, 62] ++ acc ++ [60, 47, 97, 62])
  else if j = 0 then (if text then [60, 97, 62] ++ [38, 97, 109, 112, 59] ++ [60, 47, 97, 62] else [60, 97, 47, 62] ++ acc) else [60, 97, 47, 62] ++ acc
def wantF (deep text : Bool) : Nat → List UInt8
  | 0 => []
  | j + 1 => stepF deep text j (wantF deep text j)
theorem wantF_len (deep text : Bool) : ∀ j, (wantF deep text j).length ≤ 12 * j
  | 0 => by simp [wantF]
  | j + 1 => by
    have := wantF_len deep text j
    rw [wantF]
    unfold stepF
    repeat' split
    all_goals simp only [List.length_append, List.length_cons, List.length_nil]
    all_goals omega
def formR (deep text : Bool) (n : Nat) : List UInt8 := [60, 114, 62] ++ wantF deep text n ++ [60, 47, 114, 62]
theorem form_all : ∀ deep text : Bool, ∀ x : Nat, x < 15 → writeT (fT deep text (x + 1)) = formR deep text (x + 1) ∧ writeE (fT deep text (x + 1)) = 0 ∧ (writeL (fT deep text (x + 1))).length ≤ 140737488355328 ∧ ∀ n ∈ fT deep text (x + 1), bulkN n ≤ 1000000 := by decide +kernel
end Nwl
namespace Go.Proofs.Ytdcgeobimenlpaa
open Nwl
open Go.RowKit Go.Maps
set_option linter.unusedVariables false
/-- nodes without attributes, as cells -/
def plC (ns : List Nd) : List Value := ns.flatMap fun n => [.int .i64 n.parent, .string (tx n.name), .string (tx n.text), .slice none 0 0]
theorem plC_snoc (ns : List Nd) (n : Nd) : plC (ns ++ [n]) = plC ns ++ [.int .i64 n.parent, .string (tx n.name), .string (tx n.text), .slice none 0 0] := by simp [plC, List.flatMap_append]
theorem plC_ndi (B : Nat) (w : World) : ∀ ns : List Nd, (∀ n ∈ ns, n.attrs = []) → NdiCells B w ns (plC ns)
  | [], _ => rfl
  | n :: ns, h => ⟨.slice none 0 0, plC ns, rfl, by rw [h n (by simp)]; exact RowR.none _ _ _, plC_ndi B w ns fun m hm => h m (by simp [hm])⟩
theorem NodesR.own {base : Nat} {w : World} {v : Value} {ns : List Nd} (h : w.ownsRow base 26 4 v ns.length (plC ns)) (ha : ∀ n ∈ ns, n.attrs = []) : NodesR w.heap.size w v ns := ⟨plC ns, RowR.of h (Nat.le_refl _), plC_ndi _ _ _ ha⟩
theorem fT_attrs (deep text : Bool) (n : Nat) : ∀ m ∈ fT deep text n, m.attrs = [] := by
  intro m hm
  unfold fT fN at hm
  rw [List.mem_append, List.mem_cons, List.mem_map] at hm
  rcases hm with (rfl | ⟨i, _, rfl⟩) | hm
  · rfl
  · rfl
  · cases text with
    | false => cases hm
    | true =>
      obtain rfl := List.mem_singleton.1 hm
      rfl
theorem Write_b (B : Nat) (ns : List Nd) (A : Option Addr) (n c : Nat) (w : World) (r : List UInt8) (e0 : Int) (hT : writeT ns = r) (hE : writeE ns = e0) (hr : NodesR B w (.slice A n c) ns) (hB : B ≤ w.heap.size) (hn : n = ns.length) (hlen : n ≤ 1000000000000) (hsm : ∀ n ∈ ns, bulkN n ≤ 1000000) (hl : (writeL ns).length ≤ 140737488355328) :
    Calls Try.prog 8 #[.slice A n c] w fun e w' => e = .returned (.tuple #[.string (tx r), .int .i64 e0]) ∧ Below w.heap.size w w' := by
  subst hT hE
  exact Write_c B ns A n c w hr hB hn hlen (small_of hsm) hl
/-- a row of one, made right now -/
theorem own_made (w : World) (t : TypeId) (xs : List Value) (size : Nat) (h : xs.length = size) : (w.alloc (.cells xs.toArray t)).ownsRow w.heap.size t size (.slice (some ⟨w.heap.size, 0, none⟩) 1 1) 1 xs := by
  refine ⟨by omega, .inr ⟨w.heap.size, 1, xs.toArray, rfl, Nat.le_refl _, heap_alloc_new w _, Nat.le_refl _, by decide, by simp [h], by rw [Nat.one_mul]; exact List.take_of_length_le (by rw [h]; exact Nat.le_refl _)⟩⟩

set_option maxRecDepth 100000 in
set_option maxHeartbeats 8000000 in
theorem MarkupForm_walk (a : Int) (deep text : Bool) (w : World) (ha : (Lit.int .i64 a).wf = true) :
    Calls Try.prog 5 #[.int .i64 a, .bool deep, .bool text] w fun e w' => e = .returned (.bool true) ∧ Below w.heap.size w w' := by
  obtain ⟨x0, x1⟩ := idxF a 15 (by decide) (by decide)
  obtain ⟨x, hx⟩ : ∃ x : Nat, Go.RowKit.wrap64 ((IntKind.u64.wrap a).tmod 15) = (x : Int) := ⟨(Go.RowKit.wrap64 ((IntKind.u64.wrap a).tmod 15)).toNat, by omega⟩
  have hx15 : x < 15 := by omega
  obtain ⟨i0, hi, hz0, hz1, hz2⟩ := info_parts info_nd
  have HALL := Lib.hid (form_all deep text x hx15)
  have HOWN : Hid ((w.alloc (.cells #[.int .i64 (-1), .string ⟨#[114]⟩, .string ⟨#[]⟩, .slice none 0 0] 26)).ownsRow w.heap.size 26 4 (.slice (some ⟨w.heap.size, 0, none⟩) 1 1) 1 (plC (fN deep 0))) := Lib.hid (own_made w 26 (plC (fN deep 0)) 4 rfl)
  clear ha x0 x1
  go_enter Try.func5, Try.ntmps5
  go_wp2_with fail
  simp only [hx]
  clear hx
  have hn1 : (1 : Int) + (x : Int) = ((x + 1 : Nat) : Int) := by omega
  obtain ⟨n, hn⟩ : ∃ n, n = x + 1 := ⟨_, rfl⟩
  rw [hn1, ← hn]
  rw [← hn] at HALL
  have hn16 : n ≤ 15 := by omega
  clear hn hn1 hx15
  go_loopw [7, 9] (fun v i wr => ∃ k : Nat, k ≤ n ∧ i = .int .i64 k ∧ Hid (wr.ownsRow w.heap.size 26 4 v (k + 1) (plC (fN deep k)) ∧ Below w.heap.size w wr)) (fun _ i _ => n - (intOf i).toNat)
  case atStart => exact ⟨0, Nat.zero_le _, rfl, HOWN.out, (Below.refl _ _).alloc (Nat.le_refl _) _⟩
  case round =>
    obtain ⟨k, hk, rfl, hh⟩ := hrel
    obtain ⟨hown, hbel⟩ := hh.out
    clear hh
    obtain ⟨Ak, ck, rfl⟩ := own_form hown
    have HO := Lib.hid hown
    have HB := Lib.hid hbel
    have hbs := hbel.size
    clear hown hbel
    by_cases hkn : k < n
    · have HS := Lib.hid (fN_succ deep k)
      cases deep with
      | false =>
        go_wp2_with (at_builtin; refine wpList_append_own _ rfl _ _ 27 rfl w.heap.size 26 i0 _ 4 64 Try.underlying27 hi hz0 hz1 hz2 rfl (by decide) _ (k + 1) (plC (fN false k)) rfl (HO.out.alloc _) ⟨wr.heap.size, 0, none⟩ 1 1 [.int .i64 0, .string ⟨#[97]⟩, .string ⟨#[]⟩, .slice none 0 0] rfl rfl (cells_four_new _ _ _ _ _ _) (four_oneCell _ _ _ _ _ _) (by unfold maxLen; omega) (by omega) (by simp; omega) ?_)
        intro v' w5 hown5 hgrow5 _
        have X : Hid (w5.ownsRow w.heap.size 26 4 v' (k + 1 + 1) (plC (fN false (k + 1))) ∧ Below w.heap.size w w5) := Lib.hid (by
          refine ⟨?_, Below.grown (HB.out.alloc (by omega) _) hgrow5 (by simp; omega) (fun j hj => (HO.out.lt _ hj).1)⟩
          rw [HS.out, plC_snoc]
          exact hown5)
        clear hown5 hgrow5
        go_wp2_with fail
        go_roundw
        case rel => exact ⟨k + 1, by omega, by go_num, X.out⟩
        case measure => simp [intOf]; omega
      | true =>
        go_wp2_with (at_builtin; refine wpList_append_own _ rfl _ _ 27 rfl w.heap.size 26 i0 _ 4 64 Try.underlying27 hi hz0 hz1 hz2 rfl (by decide) _ (k + 1) (plC (fN true k)) rfl (HO.out.alloc _) ⟨wr.heap.size, 0, none⟩ 1 1 [.int .i64 (k : Int), .string ⟨#[97]⟩, .string ⟨#[]⟩, .slice none 0 0] rfl rfl (cells_four_new _ _ _ _ _ _) (four_oneCell _ _ _ _ _ _) (by unfold maxLen; omega) (by omega) (by simp; omega) ?_)
        intro v' w5 hown5 hgrow5 _
        have X : Hid (w5.ownsRow w.heap.size 26 4 v' (k + 1 + 1) (plC (fN true (k + 1))) ∧ Below w.heap.size w w5) := Lib.hid (by
          refine ⟨?_, Below.grown (HB.out.alloc (by omega) _) hgrow5 (by simp; omega) (fun j hj => (HO.out.lt _ hj).1)⟩
          rw [HS.out, plC_snoc]
          exact hown5)
        clear hown5 hgrow5
        go_wp2_with fail
        go_roundw
        case rel => exact ⟨k + 1, by omega, by go_num, X.out⟩
        case measure => simp [intOf]; omega
    · obtain rfl : k = n := by omega
      cases text with
      | false =>
        have HOW : Hid (wr.ownsRow w.heap.size 26 4 (.slice Ak (k + 1) ck) (fT deep false k).length (plC (fT deep false k))) := Lib.hid (by
          have e : fT deep false k = fN deep k := by unfold fT; simp
          rw [e, fN_length]
          exact HO.out)
        have HBW := HB
        have hbs2 := hbs
        go_wp2_with fail
        go_loop [8, 11] (fun wv iv => ∃ j i : Nat, i + j = k ∧ wv = .string (tx (wantF deep false j)) ∧ iv = .int .i64 (i : Int)) (fun _ iv => (intOf iv).toNat)
        case atStart => exact ⟨0, k, by omega, rfl, rfl⟩
        case round =>
          obtain ⟨j, i, hij, rfl, rfl⟩ := hrel
          have hwl := wantF_len deep false j
          by_cases hi0 : i = 0
          · subst hi0
            obtain rfl : j = k := by omega
            have HF : Hid (writeT (fT deep false j) = formR deep false j) := Lib.hid HALL.out.1
            have HE := Lib.hid HALL.out.2.1
            have HL := Lib.hid HALL.out.2.2.1
            have HSM := Lib.hid HALL.out.2.2.2
            have hA6 : ∀ l, (⟨#[60, 114, 62]⟩ : ByteArray) ++ tx l = tx ([60, 114, 62] ++ l) := fun l => tx_app [60, 114, 62] l
            have hA7 : ∀ l, tx l ++ ⟨#[60, 47, 114, 62]⟩ = tx (l ++ [60, 47, 114, 62]) := fun l => tx_app l [60, 47, 114, 62]
            have HR : Hid (formR deep false j = [60, 114, 62] ++ wantF deep false j ++ [60, 47, 114, 62]) := Lib.hid rfl
            generalize wantF deep false j = W at *
            rw [HR.out] at HF
            have hz := tx_size
            have htl := txl
            go_wp2_with fail
            refine (Write_b _ _ _ _ _ _ _ _ HF.out HE.out (NodesR.own HOW.out (fT_attrs deep false j)) (Nat.le_refl _) (by rw [fT_length]; simp) (by omega) HSM.out HL.out).mono ?_
            rintro e w6 ⟨rfl, hb6⟩
            have HW6 : Hid (Below w.heap.size w w6) := Lib.hid (HBW.out.trans (hb6.mono hbs2))
            have hws6 := HW6.out.size
            clear hb6
            go_wp2_with fail
            refine (awake4_c _).mono ?_
            rintro e w7 ⟨rfl, hb7⟩
            have HW7 : Hid (Below w.heap.size w w7) := Lib.hid (HW6.out.trans (hb7.mono hws6))
            clear hb7
            go_wp2_with fail
            go_ret
            exact ⟨rfl, HW7.out⟩
          · have hip : 0 < i := by omega
            obtain ⟨i', rfl⟩ : ∃ i', i = i' + 1 := ⟨i - 1, by omega⟩
            have hz := tx_size
            have hA0 : (⟨#[60, 97, 62]⟩ : ByteArray) ++ ⟨#[]⟩ = tx [60, 97, 62] := rfl
            have hA1 : (⟨#[60, 97, 62]⟩ : ByteArray) ++ ⟨#[38, 97, 109, 112, 59]⟩ = tx [60, 97, 62, 38, 97, 109, 112, 59] := rfl
            have hA3 := tx_app
            have hA4 : ∀ l, tx l ++ ⟨#[60, 47, 97, 62]⟩ = tx (l ++ [60, 47, 97, 62]) := fun l => tx_app l [60, 47, 97, 62]
            have hA5 : ∀ l, (⟨#[60, 97, 47, 62]⟩ : ByteArray) ++ tx l = tx ([60, 97, 47, 62] ++ l) := fun l => tx_app [60, 97, 47, 62] l
            have hw1 : IntKind.i64.wrap (((i' + 1 : Nat) : Int) - 1) = (i' : Int) := by rw [IntWalk.i64_in _ (by omega)]; omega
            by_cases hj : j = 0
            · have hik : ((i' + 1 : Nat) : Int) = (k : Int) := by omega
              subst hj
              cases deep with
              | false =>
                have HN : Hid (wantF false false (0 + 1) = [60, 97, 47, 62] ++ wantF false false 0) := Lib.hid rfl
                go_wp2_with fail
                go_round
                case rel => exact ⟨0 + 1, i', by omega, by rw [HN.out]; rfl, congrArg (Value.int .i64) (by omega)⟩
                case measure => simp [intOf] <;> omega
              | true =>
                have HN : Hid (wantF true false (0 + 1) = [60, 97, 47, 62]) := Lib.hid rfl
                go_wp2_with fail
                go_round
                case rel => exact ⟨0 + 1, i', by omega, by rw [HN.out]; rfl, congrArg (Value.int .i64) (by omega)⟩
                case measure => simp [intOf] <;> omega
            · have hik : (((i' + 1 : Nat) : Int) == (k : Int)) = false := by rw [beq_eq_false_iff_ne]; omega
              cases deep with
              | false =>
                have HN : Hid (wantF false false (j + 1) = [60, 97, 47, 62] ++ wantF false false j) := Lib.hid (by rw [wantF, stepF, if_neg (by decide), if_neg hj])
                go_wp2_with fail
                go_round
                case rel => exact ⟨j + 1, i', by omega, by rw [HN.out]; rfl, congrArg (Value.int .i64) (by omega)⟩
                case measure => simp [intOf] <;> omega
              | true =>
                have HN : Hid (wantF true false (j + 1) = [60, 97, 62] ++ wantF true false j ++ [60, 47, 97, 62]) := Lib.hid (by rw [wantF, stepF, if_pos rfl, if_neg hj])
                go_wp2_with fail
                go_round
                case rel => exact ⟨j + 1, i', by omega, by rw [HN.out]; rfl, congrArg (Value.int .i64) (by omega)⟩
                case measure => simp [intOf] <;> omega

      | true =>
        go_wp2_with (at_builtin; refine wpList_append_own _ rfl _ _ 27 rfl w.heap.size 26 i0 _ 4 64 Try.underlying27 hi hz0 hz1 hz2 rfl (by decide) _ (k + 1) (plC (fN deep k)) rfl (HO.out.alloc _) ⟨wr.heap.size, 0, none⟩ 1 1 [.int .i64 (k : Int), .string ⟨#[]⟩, .string ⟨#[38]⟩, .slice none 0 0] rfl rfl (cells_four_new _ _ _ _ _ _) (four_oneCell _ _ _ _ _ _) (by unfold maxLen; omega) (by omega) (by simp; omega) ?_)
        intro v' w5 hown5 hgrow5 _
        have HOW : Hid (w5.ownsRow w.heap.size 26 4 v' (fT deep true k).length (plC (fT deep true k))) := Lib.hid (by
          rw [fT_length, show fT deep true k = fN deep k ++ [⟨(k : Int), [], [38], []⟩] from rfl, plC_snoc]
          exact hown5)
        have HBW : Hid (Below w.heap.size w w5) := Lib.hid (Below.grown (HB.out.alloc (by omega) _) hgrow5 (by simp; omega) (fun j hj => (HO.out.lt _ hj).1))
        have hbs2 := HBW.out.size
        obtain ⟨A5, c5, rfl⟩ : ∃ A c, v' = .slice A (k + 1 + 1) c := own_form hown5
        clear hown5 hgrow5
        go_wp2_with fail
        go_loop [8, 11] (fun wv iv => ∃ j i : Nat, i + j = k ∧ wv = .string (tx (wantF deep true j)) ∧ iv = .int .i64 (i : Int)) (fun _ iv => (intOf iv).toNat)
        case atStart => exact ⟨0, k, by omega, rfl, rfl⟩
        case round =>
          obtain ⟨j, i, hij, rfl, rfl⟩ := hrel
          have hwl := wantF_len deep true j
          by_cases hi0 : i = 0
          · subst hi0
            obtain rfl : j = k := by omega
            have HF : Hid (writeT (fT deep true j) = formR deep true j) := Lib.hid HALL.out.1
            have HE := Lib.hid HALL.out.2.1
            have HL := Lib.hid HALL.out.2.2.1
            have HSM := Lib.hid HALL.out.2.2.2
            have hA6 : ∀ l, (⟨#[60, 114, 62]⟩ : ByteArray) ++ tx l = tx ([60, 114, 62] ++ l) := fun l => tx_app [60, 114, 62] l
            have hA7 : ∀ l, tx l ++ ⟨#[60, 47, 114, 62]⟩ = tx (l ++ [60, 47, 114, 62]) := fun l => tx_app l [60, 47, 114, 62]
            have HR : Hid (formR deep true j = [60, 114, 62] ++ wantF deep true j ++ [60, 47, 114, 62]) := Lib.hid rfl
            generalize wantF deep true j = W at *
            rw [HR.out] at HF
            have hz := tx_size
            have htl := txl
            go_wp2_with fail
            refine (Write_b _ _ _ _ _ _ _ _ HF.out HE.out (NodesR.own HOW.out (fT_attrs deep true j)) (Nat.le_refl _) (by rw [fT_length]; rfl) (by omega) HSM.out HL.out).mono ?_
            rintro e w6 ⟨rfl, hb6⟩
            have HW6 : Hid (Below w.heap.size w w6) := Lib.hid (HBW.out.trans (hb6.mono hbs2))
            have hws6 := HW6.out.size
            clear hb6
            go_wp2_with fail
            refine (awake4_c _).mono ?_
            rintro e w7 ⟨rfl, hb7⟩
            have HW7 : Hid (Below w.heap.size w w7) := Lib.hid (HW6.out.trans (hb7.mono hws6))
            clear hb7
            go_wp2_with fail
            go_ret
            exact ⟨rfl, HW7.out⟩
          · have hip : 0 < i := by omega
            obtain ⟨i', rfl⟩ : ∃ i', i = i' + 1 := ⟨i - 1, by omega⟩
            have hz := tx_size
            have hA0 : (⟨#[60, 97, 62]⟩ : ByteArray) ++ ⟨#[]⟩ = tx [60, 97, 62] := rfl
            have hA1 : (⟨#[60, 97, 62]⟩ : ByteArray) ++ ⟨#[38, 97, 109, 112, 59]⟩ = tx [60, 97, 62, 38, 97, 109, 112, 59] := rfl
            have hA3 := tx_app
            have hA4 : ∀ l, tx l ++ ⟨#[60, 47, 97, 62]⟩ = tx (l ++ [60, 47, 97, 62]) := fun l => tx_app l [60, 47, 97, 62]
            have hA5 : ∀ l, (⟨#[60, 97, 47, 62]⟩ : ByteArray) ++ tx l = tx ([60, 97, 47, 62] ++ l) := fun l => tx_app [60, 97, 47, 62] l
            have hw1 : IntKind.i64.wrap (((i' + 1 : Nat) : Int) - 1) = (i' : Int) := by rw [IntWalk.i64_in _ (by omega)]; omega
            by_cases hj : j = 0
            · have hik : ((i' + 1 : Nat) : Int) = (k : Int) := by omega
              subst hj
              cases deep with
              | false =>
                have HN : Hid (wantF false true (0 + 1) = [60, 97, 62] ++ [38, 97, 109, 112, 59] ++ [60, 47, 97, 62]) := Lib.hid rfl
                go_wp2_with fail
                go_round
                case rel => exact ⟨0 + 1, i', by omega, by rw [HN.out]; rfl, congrArg (Value.int .i64) (by omega)⟩
                case measure => simp [intOf] <;> omega
              | true =>
                have HN : Hid (wantF true true (0 + 1) = [60, 97, 62] ++ [38, 97, 109, 112, 59] ++ wantF true true 0 ++ [60, 47, 97, 62]) := Lib.hid rfl
                go_wp2_with fail
                go_round
                case rel => exact ⟨0 + 1, i', by omega, by rw [HN.out]; rfl, congrArg (Value.int .i64) (by omega)⟩
                case measure => simp [intOf] <;> omega
            · have hik : (((i' + 1 : Nat) : Int) == (k : Int)) = false := by rw [beq_eq_false_iff_ne]; omega
              cases deep with
              | false =>
                have HN : Hid (wantF false true (j + 1) = [60, 97, 47, 62] ++ wantF false true j) := Lib.hid (by rw [wantF, stepF, if_neg (by decide), if_neg hj])
                go_wp2_with fail
                go_round
                case rel => exact ⟨j + 1, i', by omega, by rw [HN.out]; rfl, congrArg (Value.int .i64) (by omega)⟩
                case measure => simp [intOf] <;> omega
              | true =>
                have HN : Hid (wantF true true (j + 1) = [60, 97, 62] ++ wantF true true j ++ [60, 47, 97, 62]) := Lib.hid (by rw [wantF, stepF, if_pos rfl, if_neg hj])
                go_wp2_with fail
                go_round
                case rel => exact ⟨j + 1, i', by omega, by rw [HN.out]; rfl, congrArg (Value.int .i64) (by omega)⟩
                case measure => simp [intOf] <;> omega

end Go.Proofs.Ytdcgeobimenlpaa
