/-
  The program's quotient of 62 bits and the reference's of 70 tell the float nearest to a decimal; how a whole number is rounded to the bits of a float. No program in it. The program's and the reference's way from a decimal's digits to its float: what is left away, and what is cut off. No program in it. Plain lemmas: the decimal letters of a natural. No program in it. Plain lemmas: the candidates of each number of digits, and the shortest digits of a float. No program in it. Strings as lists of bytes: what the library's functions on prefixes, on cutsets and on small letters make of them. No program in it.
-/
import Ieee.Arith
import GoSem.Core.Float
import GoSem.Core.Utf8
import Derived.WalkKit
import Derived.WalkSpells
import Derived.WalkLawsBesides
import Derived.Deep.QuietTactic
import Derived.BigQuiet
import Derived.Lib.Hide
import Derived.Deep.OwnRows
import Derived.Laws.CopyOwn
import Derived.Deep.AppendLies
import Derived.Lib.BitFns
import Derived.Lib.Strings
import Derived.Laws.BitsAllLaws
import Derived.Lib.LaidTab
import Derived.Test.YtfpmhahjemdodaaGreatDoorProg
import Derived.Test.YtfpmhahjemdodaaGreatDoorShelf
import Derived.Test.YtfpmhahjemdodaaGreatDoorMqau
import Derived.Lib.ItoaNum
import Derived.Lib.SlTrimSet
import Derived.Lib.Case
import Derived.ProofKit
import Derived.OpenShut
import Derived.SizedLaws
import Derived.Laws.BytesString
import Derived.Laws.Cells
import Derived.Deep.RegionWith
import Derived.BigRegion
import Derived.Deep.RegionHeld3
import Derived.Laws.Closers25b
import Derived.Test.YtfpmhahjemdodaaGreatDoorRows
import Derived.Deep.WholeRow
import Derived.Laws.Tables
import Derived.Laws.EntriesVeiled
import Derived.Laws.FloatArith
import Derived.Laws.Externs
import Derived.Deep.DeepCutAuto
import Derived.Test.YtfpmhahjemdodaaGreatDoorMqae
namespace Go.Proofs.YtfpmhahjemdodaaGreatDoor
theorem two_pos (k : Nat) : 0 < 2 ^ k := Nat.two_pow_pos k
end Go.Proofs.YtfpmhahjemdodaaGreatDoor
namespace Go.Proofs.YtfpmhahjemdodaaGreatDoor
def trz (f : List Nat) : List Nat := (f.reverse.dropWhile (· == 48)).reverse
theorem num_lo {g : List Nat} (hd : ∀ x ∈ g, dg10 x = true) (h0 : g ≠ []) (hh : g.head? ≠ some 48) : 10 ^ (g.length - 1) ≤ num 10 g := by
  cases g with
  | nil => exact absurd rfl h0
  | cons c r =>
    have := num_ge (f := r) (c := c) hd (fun e => hh (by rw [e]; rfl))
    simpa using this
theorem num_hi {g : List Nat} (hd : ∀ x ∈ g, dg10 x = true) : num 10 g < 10 ^ g.length := num_lt (fun c hc => (dgt_ten (hd c hc)).2)
/-! ### The program's way -/
/-! ### The reference's way -/
end Go.Proofs.YtfpmhahjemdodaaGreatDoor
namespace Go.Proofs.YtfpmhahjemdodaaGreatDoor
/-- The decimal letters of a natural. -/
def dL (n : Nat) : List Nat := (Lib.decDigits n).map UInt8.toNat
theorem u8_toNat {n : Nat} (h : n < 256) : (UInt8.ofNat n).toNat = n := by simp; omega
theorem dL_small {n : Nat} (h : n < 10) : dL n = [48 + n] := by
  unfold dL
  rw [Lib.decDigits, dif_pos h, List.map_cons, List.map_nil, u8_toNat (by omega)]
theorem dL_big {n : Nat} (h : 10 ≤ n) : dL n = dL (n / 10) ++ [48 + n % 10] := by
  unfold dL
  rw [Lib.decDigits, dif_neg (by omega), List.map_append, List.map_cons, List.map_nil, u8_toNat (by omega)]
theorem dL_ind {P : Nat → Prop} (h1 : ∀ n, n < 10 → P n) (h2 : ∀ n, 10 ≤ n → P (n / 10) → P n) (n : Nat) : P n := by
  induction n using Nat.strongRecOn with
  | _ n ih =>
    by_cases h : n < 10
    · exact h1 n h
    · exact h2 n (by omega) (ih _ (by omega))
theorem dL_dig (n : Nat) : ∀ c ∈ dL n, dg10 c = true := by
  refine dL_ind (P := fun n => ∀ c ∈ dL n, dg10 c = true) ?_ ?_ n
  · intro n h c hc
    rw [dL_small h, List.mem_singleton] at hc
    subst hc
    exact dg10_iff.2 (by omega)
  · intro n h ih c hc
    rw [dL_big h, List.mem_append, List.mem_singleton] at hc
    rcases hc with hc | rfl
    · exact ih c hc
    · exact dg10_iff.2 (by omega)
theorem dL_ne (n : Nat) : dL n ≠ [] := by
  by_cases h : n < 10
  · rw [dL_small h]; simp
  · rw [dL_big (by omega)]; simp
theorem dgt_48p {d : Nat} (h : d < 10) : dgt (48 + d) = d := by
  have := dgt_ten (c := 48 + d) (dg10_iff.2 (by omega))
  omega
theorem dL_num (n : Nat) : num 10 (dL n) = n := by
  refine dL_ind (P := fun n => num 10 (dL n) = n) ?_ ?_ n
  · intro n h
    rw [dL_small h, num_one, dgt_48p h]
  · intro n h ih
    rw [dL_big h, num_append, ih, num_one, dgt_48p (by omega), List.length_singleton]
    omega
theorem dL_head {n : Nat} : 0 < n → (dL n).head? ≠ some 48 := by
  refine dL_ind (P := fun n => 0 < n → (dL n).head? ≠ some 48) ?_ ?_ n
  · intro n h h0
    rw [dL_small h]
    simp
    omega
  · intro n h ih _
    have := dL_ne (n / 10)
    have ih' := ih (by omega)
    rw [dL_big h]
    cases hd : dL (n / 10) with
    | nil => exact absurd hd this
    | cons a b =>
      rw [hd] at ih'
      simpa using ih'
theorem dL_lt (n : Nat) : n < 10 ^ (dL n).length := by
  have := num_hi (g := dL n) (dL_dig n)
  rwa [dL_num] at this
theorem dL_ge {n : Nat} (h : 0 < n) : 10 ^ ((dL n).length - 1) ≤ n := by
  have := num_lo (g := dL n) (dL_dig n) (dL_ne n) (dL_head h)
  rwa [dL_num] at this
theorem ten_lt {a b : Nat} (h : 10 ^ a < 10 ^ b) : a < b := by
  rcases Nat.lt_or_ge a b with h1 | h1
  · exact h1
  · have := Nat.pow_le_pow_right (n := 10) (by omega) h1
    omega
theorem dL_len {n k : Nat} (h1 : 10 ^ k ≤ n) (h2 : n < 10 ^ (k + 1)) : (dL n).length = k + 1 := by
  have hp := ten_pos k
  have a1 := ten_lt (Nat.lt_of_le_of_lt h1 (dL_lt n))
  have a2 := ten_lt (Nat.lt_of_le_of_lt (dL_ge (n := n) (by omega)) h2)
  omega
end Go.Proofs.YtfpmhahjemdodaaGreatDoor
namespace Go.Proofs.YtfpmhahjemdodaaGreatDoor
def powK (K : Nat) : Nat := 2 ^ K
theorem powK_pos (K : Nat) : 0 < powK K := two_pos K
/-- How many of the least float make 1. -/
def big : Nat := powK 1074
theorem big_pos : 0 < big := powK_pos 1074
/-- A float's number times 10^s, as a fraction. -/
def vU (r : Nat) (s : Int) : Nat := fmag r * 10 ^ s.toNat
def vV (s : Int) : Nat := big * 10 ^ (-s).toNat
theorem vV_pos (s : Int) : 0 < vV s := Nat.mul_pos big_pos (ten_pos _)
theorem ten_iff {u v a b c d : Nat} (e : c + b = a + d) : v * 10 ^ a ≤ u * 10 ^ b ↔ v * 10 ^ c ≤ u * 10 ^ d := by
  have hb := ten_pos b
  have hd := ten_pos d
  have e1 : v * 10 ^ a * 10 ^ d = v * 10 ^ c * 10 ^ b := by rw [Nat.mul_assoc, Nat.mul_assoc, ← Nat.pow_add, ← Nat.pow_add, e]
  have e2 : u * 10 ^ b * 10 ^ d = u * 10 ^ d * 10 ^ b := Nat.mul_right_comm _ _ _
  rw [← Nat.mul_le_mul_right_iff hd, e1, e2, Nat.mul_le_mul_right_iff hb]
theorem le10_at {r j : Nat} {m s : Int} (h : m + s = j) : le10 m (fmag r) big ↔ 10 ^ j * vV s ≤ vU r s := by
  unfold le10 vU vV
  rw [Nat.mul_left_comm, ← Nat.pow_add]
  exact ten_iff (by omega)
/-- The candidate with k digits ahead of what is cut off: rounded down or up, whichever is read as the float; if both are, the nearer one, of two as near the even one. -/
def cq (r : Nat) (n : Int) (k : Nat) : Nat := vU r (k - n) / vV (k - n)
def cnear (r : Nat) (n : Int) (k : Nat) : Bool := decide (2 * (vU r (k - n) % vV (k - n)) < vV (k - n)) || (decide (2 * (vU r (k - n) % vV (k - n)) = vV (k - n)) && decide (cq r n k % 2 = 0))
def clow (r : Nat) (n : Int) (k : Nat) : Bool := decide (decR (cq r n k) (n - k) = r)
def chigh (r : Nat) (n : Int) (k : Nat) : Bool := decide (decR (cq r n k + 1) (n - k) = r)
def cnd (r : Nat) (n : Int) (k : Nat) : Option Nat :=
  if (clow r n k && (!chigh r n k || cnear r n k)) = true then some (cq r n k) else if chigh r n k = true then some (cq r n k + 1) else none
theorem cq_lo {r k : Nat} {n : Int} (hp : PointAt (fmag r) big n) (hk : 1 ≤ k) : 10 ^ (k - 1) ≤ cq r n k := by
  unfold cq
  rw [Nat.le_div_iff_mul_le (vV_pos _)]
  exact (le10_at (by omega)).1 hp.1
theorem cq_hi {r k : Nat} {n : Int} (hp : PointAt (fmag r) big n) : cq r n k < 10 ^ k := by
  unfold cq
  rw [Nat.div_lt_iff_lt_mul (vV_pos _)]
  exact Nat.lt_of_not_le fun h => hp.2 ((le10_at (by omega)).2 h)
/-- The shortest digits of a float above 0, and where its point stands. -/
def SQ (r : Nat) (D : List Nat) (N : Int) : Prop := ∃ n k c, PointAt (fmag r) big n ∧ 1 ≤ k ∧ k ≤ 17 ∧ (∀ j, 1 ≤ j → j < k → cnd r n j = none) ∧ cnd r n k = some c ∧ D = trz (dL c) ∧ N = (dL c).length + n - k
end Go.Proofs.YtfpmhahjemdodaaGreatDoor
namespace Go.Proofs.YtfpmhahjemdodaaGreatDoor
theorem bl_data (s : ByteArray) : s.data.toList.map UInt8.toNat = bl s := rfl
theorem strOf_size (l : List Nat) : (strOf l).size = l.length := by
  unfold strOf
  show (Array.size _) = _
  simp
end Go.Proofs.YtfpmhahjemdodaaGreatDoor
