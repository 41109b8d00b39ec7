/-
  Plain lemmas: a text's parts at another text, texts joined, and a text of whole units; what the law UstrWhole says of lists.
-/
import Derived.Test.YthnkidncjkhndaaDoorIndex
import Derived.Test.YthnkidncjkhndaaDoorSlice
import Derived.Test.YthnkidncjkhndaaDoorCmp
namespace Go.Proofs.YthnkidncjkhndaaDoor
open Go.RowKit
/-- The parts of s from fr on, at t. -/
inductive Spl (s t : List Nat) : Nat → List (List Nat) → Prop
  | last (fr : Nat) : FindIs s t fr (-1) → Spl s t fr [s.drop fr]
  | more (fr j : Nat) (ps : List (List Nat)) : FindIs s t fr (j : Int) → Spl s t (j + t.length) ps → Spl s t fr ((s.drop fr).take (j - fr) :: ps)
theorem Spl_unique {s t : List Nat} {fr : Nat} {ps : List (List Nat)} (h : Spl s t fr ps) : ∀ {qs : List (List Nat)}, Spl s t fr qs → ps = qs := by
  induction h with
  | last fr hf =>
    intro qs g
    cases g with
    | last _ _ => rfl
    | more _ j _ hj _ => exact absurd (FindIs_unique hf hj) (by omega)
  | more fr j ps hj _ ih =>
    intro qs g
    cases g with
    | last _ hf => exact absurd (FindIs_unique hf hj) (by omega)
    | more _ j' qs hj' hq =>
      have := FindIs_unique hj hj'
      obtain rfl : j = j' := by omega
      rw [ih hq]
/-- Texts, one behind the other, with t between. -/
def jn (t : List Nat) : List (List Nat) → List Nat
  | [] => []
  | x :: r => x ++ r.flatMap fun y => t ++ y
theorem jn_snoc (t : List Nat) (L : List (List Nat)) (x : List Nat) : jn t (L ++ [x]) = if L = [] then x else jn t L ++ (t ++ x) := by
  cases L with
  | nil => simp [jn]
  | cons a r => simp [jn]
theorem Spl_some {s t : List Nat} {fr : Nat} {ps : List (List Nat)} (h : Spl s t fr ps) : ∃ x r, ps = x :: r := by
  cases h with
  | last _ _ => exact ⟨_, _, rfl⟩
  | more _ _ _ _ _ => exact ⟨_, _, rfl⟩
theorem Spl_join {s t : List Nat} {fr : Nat} {ps : List (List Nat)} (h : Spl s t fr ps) : jn t ps = s.drop fr := by
  induction h with
  | last fr hf => simp [jn]
  | more fr j ps hj hp ih =>
    obtain ⟨x, r, rfl⟩ := Spl_some hp
    have e : jn t ((s.drop fr).take (j - fr) :: x :: r) = (s.drop fr).take (j - fr) ++ (t ++ jn t (x :: r)) := by simp [jn]
    rw [e, ih]
    rcases hj with ⟨h1, _⟩ | ⟨k, h1, h2, h3, _⟩
    · omega
    · obtain rfl : j = k := by omega
      have e1 : s.drop j = t ++ s.drop (j + t.length) := by
        have := List.take_append_drop t.length (s.drop j)
        rw [h3.2, List.drop_drop] at this
        exact this.symm
      have e2 : s.drop j = (s.drop fr).drop (j - fr) := by rw [List.drop_drop]; congr 1; omega
      rw [← e1, e2, List.take_append_drop]
theorem Spl_lt {s t : List Nat} {fr : Nat} {ps : List (List Nat)} (h : Spl s t fr ps) (hs : ∀ u ∈ s, u < 65536) : ∀ p ∈ ps, ∀ u ∈ p, u < 65536 := by
  induction h with
  | last fr hf =>
    intro p hp u hu
    simp at hp
    subst hp
    exact hs u (List.mem_of_mem_drop hu)
  | more fr j ps hj _ ih =>
    intro p hp u hu
    simp only [List.mem_cons] at hp
    rcases hp with rfl | hp
    · exact hs u (List.mem_of_mem_drop (List.mem_of_mem_take hu))
    · exact ih p hp u hu
/-- A text as the program has it. -/
def tx (l : List Nat) : ByteArray := ⟨(bL l).toArray⟩
theorem tx_data (l : List Nat) : (tx l).data.toList = bL l := by simp [tx]
theorem tx_size (l : List Nat) : (tx l).size = 2 * l.length := by rw [Lib.size_eq, tx_data, bL_length]
theorem ln_tx (l : List Nat) : ln (tx l) = l.length := by unfold ln; rw [tx_size]; omega
theorem us_tx (l : List Nat) (h : ∀ u ∈ l, u < 65536) : us (tx l) = l := by unfold us; rw [tx_data, uL_bL l h]
theorem tx_us (s : ByteArray) : tx (us s) = wh s := (wh_eq s).symm
theorem wh_even (s : ByteArray) (h : s.size % 2 = 0) : wh s = s := by
  apply ByteArray.ext
  apply Array.toList_inj.1
  rw [wh_data]
  unfold us
  rw [bL_uL, ← Lib.size_eq]
  apply List.take_of_length_le
  rw [← Lib.size_eq]
  omega
theorem slS_tx (s : ByteArray) (f t : Nat) (h1 : f ≤ t) (h2 : t ≤ ln s) : slS s f t = tx (((us s).drop f).take (t - f)) := by
  by_cases h : f < t
  · rw [slS_mid s f t (by omega) (by omega) (by omega)]
    apply ByteArray.ext
    apply Array.toList_inj.1
    rw [tx_data, ← cut_data s f (t - f) (by omega)]
    rw [show (f : Int).toNat = f by omega, show (t : Int).toNat = t by omega, show 2 * t = 2 * f + 2 * (t - f) by omega]
  · have e : f = t := by omega
    subst e
    unfold slS
    rw [if_neg (by omega)]
    simp [tx, bL]
theorem slS_end (s : ByteArray) (f : Nat) (h1 : f ≤ ln s) : slS s f (ln s : Nat) = tx ((us s).drop f) := by
  rw [slS_tx s f (ln s) h1 (Nat.le_refl _), List.take_of_length_le (by rw [List.length_drop, us_length]; exact Nat.le_refl _)]
theorem slS_one (s : ByteArray) (i : Nat) (h : i < ln s) : slS s i ((i : Int) + 1) = tx [un s i] := by
  have := slS_tx s i (i + 1) (by omega) h
  rw [show ((i + 1 : Nat) : Int) = (i : Int) + 1 by omega] at this
  rw [this, us_drop s i h]
  rw [show i + 1 - i = 1 by omega]
  rfl
theorem slS_two (s : ByteArray) (at' : Int) (h0 : 0 ≤ at') (h1 : at' ≤ ln s) (he : s.size % 2 = 0) : (⟨(slS s 0 at').data ++ (slS s at' (ln s : Nat)).data⟩ : ByteArray) = s := by
  obtain ⟨k, rfl⟩ := Int.eq_ofNat_of_zero_le h0
  have hk : k ≤ ln s := by omega
  have e1 := slS_tx s 0 k (by omega) hk
  rw [show (((0 : Nat)) : Int) = 0 from rfl] at e1
  rw [e1, slS_end s k hk]
  have : (⟨(tx (((us s).drop 0).take (k - 0))).data ++ (tx ((us s).drop k)).data⟩ : ByteArray) = wh s := by
    rw [wh_eq]
    simp only [tx, List.drop_zero, Nat.sub_zero]
    congr 1
    apply Array.toList_inj.1
    simp only [Array.toList_append]
    rw [← bL_append, List.take_append_drop]
  rw [this, wh_even s he]
end Go.Proofs.YthnkidncjkhndaaDoor
