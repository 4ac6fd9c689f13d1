/-
  ElementJoins (layer 3): what the pieces make.
-/
import Derived.Test.YtbojnmiaheohaaaDoorElAwake
namespace Nwl
open Go
/-- the pieces -/
def pcB (k : Nat) : List UInt8 :=
  if k = 0 then [97] else if k = 1 then [60, 33, 91, 67, 68, 65, 84, 65, 91, 60, 98, 62, 93, 93, 62]
  else if k = 2 then [60, 33, 45, 45, 32, 99, 32, 45, 45, 62] else [60, 100, 47, 62]
def pcsB : List Nat → List UInt8
  | [] => []
  | k :: r => pcB k ++ pcsB r
/-- what is wanted so far, and the text under way -/
abbrev Wt := List (List UInt8) × List UInt8
def wtStep (s : Wt) (k : Nat) : Wt :=
  if k = 0 then (s.1, s.2 ++ [97]) else if k = 1 then (s.1, s.2 ++ [60, 98, 62]) else if k = 2 then s
  else (s.1 ++ (if s.2 = [] then [] else [s.2]) ++ [[]], [])
def wtEnd (s : Wt) : List (List UInt8) := s.1 ++ (if s.2 = [] then [] else [s.2])
def ndOf (t : List UInt8) : Nd := if t = [] then ⟨0, [100], [], []⟩ else ⟨0, [], t, []⟩
def gOf (s : Wt) : Gst := ⟨⟨-1, [114], [], []⟩ :: s.1.map ndOf, [0], s.2⟩
theorem gOf_settled (s : Wt) : (gOf s).settled = ⟨-1, [114], [], []⟩ :: (wtEnd s).map ndOf := by
  unfold Gst.settled gOf wtEnd
  by_cases h : s.2 = []
  · simp [h]
  · simp [h, ndOf, innerL]
theorem gOf_mem (s : Wt) : (gOf s).mem.length ≤ s.1.length + 2 := by
  unfold Gst.mem gOf
  split <;> simp
theorem g_text (s : Wt) (x : List UInt8) (hx : x ≠ []) (h : s.1.length < 1000) : textG (gOf s) x = .ok (gOf (s.1, s.2 ++ x)) := by
  have hm := gOf_mem s
  unfold textG
  rw [if_neg (by simp [gOf]), if_neg hx]
  by_cases hr : (gOf s).run = []
  · rw [if_pos hr, if_neg (by omega)]
    have : s.2 = [] := hr
    simp [gOf, this]
  · rw [if_neg hr]
    rfl
theorem g_d (s : Wt) (h : s.1.length < 1000) : openG (gOf s) ⟨1, [100], [], [], true⟩ = .ok (gOf (s.1 ++ (if s.2 = [] then [] else [s.2]) ++ [[]], [])) := by
  have hm := gOf_mem s
  rw [openG_empty (by simp) (by simp [gOf]) (by simp [gOf]) (by omega) rfl, gOf_settled]
  simp [gOf, wtEnd, ndOf, innerL]
/-- the tree of what is left of a text, from a tree under way on -/
def restP (g : Gst) (l : List UInt8) : Option (Except Int (List Nd)) := (splitM false l).map fun ts => treeG g (ts.map Tok.up)
theorem rest_tok {g g' : Gst} {l rest : List UInt8} {t : Tok} (hl : l ≠ []) (h : tokL false l = some (t, rest)) (hg : growG g t.up = .ok g') : restP g l = restP g' rest := by
  unfold restP
  rw [splitM_step hl, h]
  simp only [Option.map_map]
  congr 1
  funext ts
  simp only [Function.comp, List.map_cons, treeG, hg]
theorem text_split (l : List UInt8) (h60 : l.head? ≠ some 60) : tokL false l = textL l := by
  have hp : ∀ p : List UInt8, Lib.hasPrefix l (60 :: p) = false := fun p => by
    unfold Lib.hasPrefix
    cases l with
    | nil => rfl
    | cons c r =>
      rw [List.isPrefixOf]
      have : ((60 : UInt8) == c) = false := by
        rw [beq_eq_false_iff_ne]
        intro e
        subst e
        exact h60 rfl
      rw [this]; rfl
  unfold tokL
  rw [hp, hp, hp, hp, hp]
  rfl
/-- a sign of a text -/
theorem rest_a (s : Wt) (X : List UInt8) (h38 : 38 ∉ X) (h : s.1.length < 1000) : restP (gOf s) (97 :: X) = restP (gOf (s.1, s.2 ++ [97])) X := by
  obtain ⟨t, ht⟩ : ∃ t, t = X.takeWhile (· != 60) := ⟨_, rfl⟩
  obtain ⟨r, hr⟩ : ∃ r, r = X.dropWhile (· != 60) := ⟨_, rfl⟩
  have hX : X = t ++ r := by rw [ht, hr, List.takeWhile_append_dropWhile]
  have ht38 : 38 ∉ t := fun hm => h38 (by rw [hX]; simp [hm])
  have he : ∀ u : List UInt8, 38 ∉ u → entL u = some u := fun u hu => by
    have := entL_plain u [] hu
    rw [List.append_nil] at this
    rw [this, entL_nil]; simp
  have h1 : tokL false (97 :: X) = some (⟨3, [], 97 :: t, [], false⟩, r) := by
    rw [text_split _ (by simp)]
    unfold textL
    rw [List.takeWhile_cons, List.dropWhile_cons, if_pos (by decide), if_pos (by decide), ← ht, ← hr, he (97 :: t) (by simp [ht38])]
    rfl
  rw [rest_tok (by simp) h1 (g' := gOf (s.1, s.2 ++ 97 :: t)) (by rw [growG_text rfl]; exact g_text s (97 :: t) (by simp) h)]
  by_cases ht0 : t = []
  · subst ht0
    rw [hX]; rfl
  · have hXh : X.head? ≠ some 60 := by
      intro e
      cases X with
      | nil => simp at e
      | cons c X' =>
        simp at e
        subst e
        simp at ht
        exact ht0 ht
    have h2 : tokL false X = some (⟨3, [], t, [], false⟩, r) := by
      rw [text_split _ hXh]
      unfold textL
      rw [← ht, ← hr, he t ht38]
      rfl
    have hne : X ≠ [] := fun e => by subst e; simp at ht; exact ht0 ht
    rw [rest_tok hne h2 (g' := gOf (s.1, (s.2 ++ [97]) ++ t)) (by rw [growG_text rfl]; exact g_text (s.1, s.2 ++ [97]) t ht0 h)]
    simp
theorem rest_c (s : Wt) (X : List UInt8) (h : s.1.length < 1000) : restP (gOf s) ([60, 33, 91, 67, 68, 65, 84, 65, 91, 60, 98, 62, 93, 93, 62] ++ X) = restP (gOf (s.1, s.2 ++ [60, 98, 62])) X := by
  refine rest_tok (by simp) (t := ⟨3, [], [60, 98, 62], [], false⟩) ?_ (by rw [growG_text rfl]; exact g_text s [60, 98, 62] (by simp) h)
  simp [tokL, Lib.hasPrefix, List.isPrefixOf, cutL, Lib.index]
theorem rest_m (s : Wt) (X : List UInt8) : restP (gOf s) ([60, 33, 45, 45, 32, 99, 32, 45, 45, 62] ++ X) = restP (gOf s) X := by
  refine rest_tok (by simp) (t := ⟨4, [], [32, 99, 32], [], false⟩) ?_ (growG_pass (.inl rfl))
  simp [tokL, commentL, Lib.hasPrefix, List.isPrefixOf, cutL, Lib.index, Lib.contains]
theorem rest_d (s : Wt) (X : List UInt8) (h : s.1.length < 1000) : restP (gOf s) ([60, 100, 47, 62] ++ X) = restP (gOf (s.1 ++ (if s.2 = [] then [] else [s.2]) ++ [[]], [])) X := by
  refine rest_tok (by simp) (t := ⟨1, [100], [], [], true⟩) ?_ (by rw [growG_open rfl]; exact g_d s h)
  have hw : within8 100 = true := by decide
  have hw2 : within8 47 = false := by decide
  have hb : beginI 100 = true := by decide
  have hs : space8 47 = false := by decide
  have hn : nameP (100 :: 47 :: 62 :: X) = ([100], 47 :: 62 :: X) := by
    unfold nameP
    simp [hb, hw, hw2]
  have hk : skipL (47 :: 62 :: X) = 47 :: 62 :: X := by
    unfold skipL; rw [List.dropWhile_cons, if_neg (by rw [hs]; decide)]
  simp [tokL, openL, Lib.hasPrefix, List.isPrefixOf, hn, attrsF, hk]
theorem rest_end (s : Wt) : restP (gOf s) [60, 47, 114, 62] = some (.ok (⟨-1, [114], [], []⟩ :: (wtEnd s).map ndOf)) := by
  rw [rest_tok (t := ⟨2, [114], [], [], false⟩) (rest := []) (g' := ⟨(gOf s).settled, [], []⟩) (by simp) (by decide +kernel) (by rw [growG_close rfl]; exact closeG_yes (o := []) (q := 0) rfl rfl)]
  unfold restP
  rw [splitM_nil]
  simp only [Option.map_some, List.map_nil, treeG]
  rw [endG_yes (by simp [Gst.mem, gOf_settled]), mem_none, gOf_settled]
theorem pcB_38 (k : Nat) : 38 ∉ pcB k := by
  unfold pcB
  split
  · decide
  · split
    · decide
    · split <;> decide
theorem pcsB_38 : ∀ ks : List Nat, 38 ∉ pcsB ks ++ [60, 47, 114, 62]
  | [] => by decide
  | k :: r => by
    rw [pcsB, List.append_assoc, List.mem_append, not_or]
    exact ⟨pcB_38 k, pcsB_38 r⟩
theorem wt_len (s : Wt) (k : Nat) : (wtStep s k).1.length ≤ s.1.length + 2 := by
  unfold wtStep
  split
  · simp
  · split
    · simp
    · split
      · simp
      · split <;> simp
theorem rest_all : ∀ (ks : List Nat) (s : Wt), s.1.length + 2 * ks.length < 1000 → restP (gOf s) (pcsB ks ++ [60, 47, 114, 62]) = some (.ok (⟨-1, [114], [], []⟩ :: (wtEnd (ks.foldl wtStep s)).map ndOf))
  | [], s, _ => rest_end s
  | k :: r, s, h => by
    simp only [List.length_cons] at h
    have hl := wt_len s k
    rw [pcsB, List.append_assoc, List.foldl_cons, ← rest_all r (wtStep s k) (by omega)]
    unfold pcB wtStep
    split
    · exact rest_a s _ (pcsB_38 r) (by omega)
    · split
      · exact rest_c s _ (by omega)
      · split
        · exact rest_m s _
        · exact rest_d s _ (by omega)
/-- the whole text -/
def joinB (ks : List Nat) : List UInt8 := [60, 114, 62] ++ pcsB ks
theorem join_split (ks : List Nat) (h : 2 * ks.length < 1000) : ∃ ts, splitL (joinB ks ++ [60, 47, 114, 62]) = some ts ∧ treeL (ts.map Tok.up) = .ok (⟨-1, [114], [], []⟩ :: (wtEnd (ks.foldl wtStep ([], []))).map ndOf) := by
  have hr := rest_all ks ([], []) (by simpa using h)
  unfold restP at hr
  cases hs : splitM false (pcsB ks ++ [60, 47, 114, 62]) with
  | none => rw [hs] at hr; cases hr
  | some ts =>
    rw [hs] at hr
    simp only [Option.map_some, Option.some.injEq] at hr
    have ht : tokL true (joinB ks ++ [60, 47, 114, 62]) = some (⟨1, [114], [], [], false⟩, pcsB ks ++ [60, 47, 114, 62]) := by
      have hw : within8 114 = true := by decide
      have hw2 : within8 62 = false := by decide
      have hb : beginI 114 = true := by decide
      have hs : space8 62 = false := by decide
      have hn : ∀ X, nameP (114 :: 62 :: X) = ([114], 62 :: X) := fun X => by
        unfold nameP
        simp [hb, hw, hw2]
      have hk : ∀ X, skipL (62 :: X) = 62 :: X := fun X => by
        unfold skipL; rw [List.dropWhile_cons, if_neg (by rw [hs]; decide)]
      simp [joinB, tokL, openL, Lib.hasPrefix, List.isPrefixOf, hn, attrsF, hk]
    refine ⟨⟨1, [114], [], [], false⟩ :: ts, ?_, ?_⟩
    · rw [splitL_M, splitM_step (by simp [joinB]), ht]
      simp only [hs, Option.map_some]
    · unfold treeL
      rw [List.map_cons, treeG]
      have : growG Gst.none (Tok.up ⟨1, [114], [], [], false⟩) = .ok (gOf ([], [])) := by rfl
      rw [this]
      exact hr
theorem pcs_all : ∀ ks : List Nat, allL (pcsB ks) = true
  | [] => rfl
  | k :: r => by
    have hk : allL (pcB k) = true := by
      unfold pcB
      split
      · decide
      · split
        · decide
        · split <;> decide
    have := pcs_all r
    unfold allL at *
    rw [pcsB, List.all_append, hk, this]; rfl
theorem pcs_len : ∀ ks : List Nat, (pcsB ks).length ≤ 15 * ks.length
  | [] => by simp [pcsB]
  | k :: r => by
    have hk : (pcB k).length ≤ 15 := by
      unfold pcB
      split
      · decide
      · split
        · decide
        · split <;> decide
    have := pcs_len r
    rw [pcsB, List.length_append, List.length_cons]
    omega
theorem join_parse (ks : List Nat) (h : ks.length ≤ 40) : parseX (joinB ks ++ [60, 47, 114, 62]) = .ok (⟨-1, [114], [], []⟩ :: (wtEnd (ks.foldl wtStep ([], []))).map ndOf) := by
  obtain ⟨ts, h1, h2⟩ := join_split ks (by omega)
  have hl := pcs_len ks
  have hns : ¬ 20000 < (joinB ks ++ [60, 47, 114, 62]).length := by
    simp only [joinB, List.length_append, List.length_cons, List.length_nil]; omega
  have ha : allL (joinB ks ++ [60, 47, 114, 62]) = true := by
    have := pcs_all ks
    unfold allL at *
    rw [joinB, List.all_append, List.all_append, this]; decide
  unfold parseX
  rw [if_pos (splitE_some hns ha h1), splitT_some hns ha h1, h2]
theorem pcsB_snoc : ∀ (ks : List Nat) (k : Nat), pcsB (ks ++ [k]) = pcsB ks ++ pcB k
  | [], k => by simp [pcsB]
  | a :: r, k => by rw [List.cons_append, pcsB, pcsB, pcsB_snoc r k, List.append_assoc]
end Nwl
namespace Go.Proofs.YtbojnmiaheohaaaDoor
end Go.Proofs.YtbojnmiaheohaaaDoor
