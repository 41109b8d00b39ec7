/-
  Merged texts (Dc, De, Dh, St, Sa, Sc, Sd, BG, Nv, Tc, Tj, Wf, Wg, Wh, Wi, Ta, Tb, Td, Te, Tf).
-/
import Derived.Test.YtfcpkdafkmohkaaGreatDoorPrc
import Derived.Shelf.Strings.SlTrimAscii
import Derived.Shelf.Strings.Builder1
import Derived.Shelf.Strings.Builder2
import Derived.Shelf.Strings.OnBuilder
import Derived.Shelf.Strings.Trim
import Derived.Shelf.Small.Utf8
import Derived.Shelf.Small.Bits
import Derived.Shelf.Small.Strs
import Derived.Shelf.Small.Wraps
import Derived.Shelf.Strings.BuilderF
import Derived.Shelf.Strings.BuilderK
import Derived.Shelf.Strconv.Itoa0
import Derived.Shelf.Strconv.Itoa1
import Derived.Shelf.LaysM
import Derived.Shelf.Strconv.Itoa2
import Derived.Shelf.Strconv.Itoa3
import Derived.Shelf.Strings.Search1
import Derived.Shelf.Strings.Prefix
import Derived.Shelf.Unicode.Latin
import Derived.Shelf.Strings.Runes
import Derived.Shelf.Strings.AsciiSet
import Derived.Shelf.Bits.Mul64
import Derived.Shelf.Strings.Repeat
import Derived.Shelf.Unicode.DecodeSlow
import Derived.Shelf.Unicode.CaseLookup
import Derived.Shelf.Unicode.CaseConvert
import Derived.Shelf.Unicode.CaseTo
import Derived.Shelf.Unicode.CaseLaid
import Derived.Test.YtfcpkdafkmohkaaGreatDoorProg
import GoSem.Core.Utf8
import Derived.WalkKit
import Derived.WalkSpells
import Derived.WalkLawsBesides
import Derived.Deep.QuietTactic
import Derived.BigQuiet
import Derived.Lib.Hide
import Derived.Deep.OwnRows
import Derived.Laws.CopyOwn
import Derived.Deep.AppendLies
import Derived.Lib.BitFns
import Derived.Lib.Strings
import Derived.Laws.BitsAllLaws
import Derived.Lib.LaidTab
import Derived.ProofKit
import Derived.OpenShut
import Derived.SizedLaws
import Derived.Laws.BytesString
import Derived.Laws.Cells
import Derived.Deep.RegionWith
import Derived.BigRegion
import Derived.Test.YtfcpkdafkmohkaaGreatDoorRows
import Derived.Lib.ItoaNum
import Derived.Deep.DeepCutAuto
import Ieee.Arith
import GoSem.Core.Float
import Derived.Laws.FloatArith
import Derived.Laws.Externs
import Derived.Deep.RegionHeld3
import Derived.Laws.Closers25b
import Derived.Lib.SlTrimSet
import Derived.Lib.Case
import Derived.Deep.WholeRow
import Derived.Laws.Tables
import Derived.Laws.EntriesVeiled
import Derived.Lib.AppendIntMem
namespace Go.Proofs.YtfcpkdafkmohkaaGreatDoor
def dg10 (c : Nat) : Bool := decide (48 ≤ c) && decide (c ≤ 57)
theorem dg10_iff {c : Nat} : dg10 c = true ↔ 48 ≤ c ∧ c ≤ 57 := by unfold dg10; simp
theorem dgt_ten {c : Nat} (h : dg10 c = true) : dgt c = c - 48 ∧ dgt c < 10 := by
 have := dg10_iff.1 h
 unfold dgt
 rw [if_pos this]
 exact ⟨rfl, by omega⟩
theorem dgt_lt_ten {c : Nat} : dgt c < 10 ↔ dg10 c = true := by
 constructor
 ·intro h
  unfold dgt at h
  by_cases h1 : 48 ≤ c ∧ c ≤ 57
  ·exact dg10_iff.2 h1
  ·rw [if_neg h1] at h
   split at h
   ·omega
   ·split at h <;> omega
 ·intro h; exact (dgt_ten h).2
def sgnB (l : List Nat) : Bool := l.head? == some 45
def unsg (l : List Nat) : List Nat := if l.head? = some 45 ∨ l.head? = some 43 then l.tail else l
def run10 (l : List Nat) : List Nat := l.takeWhile dg10
def aft10 (l : List Nat) : List Nat := l.dropWhile dg10
theorem run_aft (l : List Nat) : run10 l ++ aft10 l = l := List.takeWhile_append_dropWhile
theorem run10_all : ∀ (l : List Nat), ∀ c ∈ run10 l, dg10 c = true := by
 intro l
 induction l with
 | nil => intro c hc; simp [run10] at hc
 | cons d r ih =>
  intro c hc
  unfold run10 at hc ih
  rw [List.takeWhile_cons] at hc
  cases hd : dg10 d
  ·rw [hd] at hc; simp at hc
  ·rw [hd] at hc
   simp only [if_true] at hc
   rcases List.mem_cons.1 hc with rfl | h
   ·exact hd
   ·exact ih c h
theorem run_len (l : List Nat) : (run10 l).length + (aft10 l).length = l.length := by
 have := congrArg List.length (run_aft l)
 rw [List.length_append] at this
 exact this
def amtS (n c : Nat) : Nat := if n < 1099511627776 then n * 10 + (c - 48) else n
def amt (f : List Nat) : Nat := f.foldl amtS 0
theorem amt_snoc (f : List Nat) (c : Nat) : amt (f ++ [c]) = amtS (amt f) c := by unfold amt; rw [List.foldl_append]; rfl
theorem amt_lt : ∀ (f : List Nat), (∀ c ∈ f, dg10 c = true) → amt f < 10995116277760 := by
 intro f hf
 have main : ∀ (l : List Nat) (a : Nat), a < 10995116277760 → (∀ c ∈ l, dg10 c = true) → l.foldl amtS a < 10995116277760 := by
  intro l
  induction l with
  | nil => intro a h _; exact h
  | cons c r ih =>
   intro a h hl
   refine ih (amtS a c) ?_ (fun d hd => hl d (by simp [hd]))
   have := dg10_iff.1 (hl c (by simp))
   unfold amtS
   split <;> omega
 exact main f 0 (by omega) hf
def expB (l : List Nat) : Bool := (l.head? == some 101 || l.head? == some 69) && !(run10 (unsg l.tail)).isEmpty
def expV (l : List Nat) : Int := if sgnB l.tail = true then -(amt (run10 (unsg l.tail)) : Int) else (amt (run10 (unsg l.tail)) : Int)
def expR (l : List Nat) : List Nat := aft10 (unsg l.tail)
def exV (l : List Nat) : Int := if expB l = true then expV l else 0
def exR (l : List Nat) : List Nat := if expB l = true then expR l else l
theorem expV_le (l : List Nat) : -10995116277760 < expV l ∧ expV l < 10995116277760 := by
 have := amt_lt (run10 (unsg l.tail)) (run10_all _)
 unfold expV
 split <;> omega
theorem exV_le (l : List Nat) : -10995116277760 < exV l ∧ exV l < 10995116277760 := by
 have := expV_le l
 unfold exV
 split <;> omega
def dotB (t : List Nat) : Bool := t.head? == some 46
def dW (l : List Nat) : List Nat := run10 l
def dF (l : List Nat) : List Nat := if dotB (aft10 l) = true then run10 (aft10 l).tail else []
def dB (l : List Nat) : Bool := !((dW l).isEmpty && (dF l).isEmpty)
def dT (l : List Nat) : List Nat := if dotB (aft10 l) = true then aft10 (aft10 l).tail else aft10 l
def dX (l : List Nat) : Int := exV (dT l)
def dR (l : List Nat) : List Nat := exR (dT l)
def num (r : Nat) (f : List Nat) : Nat := pv r (fun i => dgt (f.getD i 0)) f.length
def dV (l : List Nat) : Nat := decR (num 10 (dW l ++ dF l)) (dX l - (dF l).length)
/-! ### Numbers of digits -/
theorem num_nil (r : Nat) : num r [] = 0 := rfl
theorem num_append (r : Nat) (f g : List Nat) : num r (f ++ g) = num r f * r ^ g.length + num r g := by
 unfold num
 rw [List.length_append, pv_add]
 congr 1
 ·congr 1
  refine pv_congr (fun i hi => ?_)
  rw [List.getD_eq_getElem?_getD, List.getElem?_append_left hi, ← List.getD_eq_getElem?_getD]
 ·refine pv_congr (fun i hi => ?_)
  rw [List.getD_eq_getElem?_getD, List.getElem?_append_right (by omega), Nat.add_sub_cancel_left, ← List.getD_eq_getElem?_getD]
theorem num_one (r c : Nat) : num r [c] = dgt c := by
 unfold num
 show pv r _ 1 = _
 simp [pv]
theorem num_cons (r c : Nat) (f : List Nat) : num r (c :: f) = dgt c * r ^ f.length + num r f := by
 rw [show c :: f = [c] ++ f from rfl, num_append, num_one]
theorem num_lt {r : Nat} {f : List Nat} (h : ∀ c ∈ f, dgt c < r) : num r f < r ^ f.length := by
 unfold num
 refine pv_lt (fun i hi => ?_)
 rw [List.getD_eq_getElem?_getD, List.getElem?_eq_getElem hi]
 exact h _ (List.getElem_mem hi)
theorem dgt_48 : dgt 48 = 0 := by decide
theorem num_zeros (r : Nat) : ∀ k : Nat, num r (List.replicate k 48) = 0
 | 0 => rfl
 | k + 1 => by rw [List.replicate_succ, num_cons, dgt_48, num_zeros r k]; simp
theorem num_lead (r : Nat) : ∀ f : List Nat, num r (f.dropWhile (· == 48)) = num r f
 | [] => rfl
 | c :: f => by
  by_cases h : c = 48
  ·subst h
   rw [List.dropWhile_cons_of_pos (by simp), num_lead r f, num_cons, dgt_48]
   simp
  ·rw [List.dropWhile_cons_of_neg (by simpa using h)]
theorem lead_head (f : List Nat) : (f.dropWhile (· == 48)).head? ≠ some 48 := by
 intro h
 have := List.head?_dropWhile_not (p := (· == 48)) f
 rw [h] at this
 simp at this
theorem num_ge {f : List Nat} {c : Nat} (hd : ∀ x ∈ c :: f, dg10 x = true) (hc : c ≠ 48) : 10 ^ f.length ≤ num 10 (c :: f) := by
 have h1 := dgt_ten (hd c (by simp))
 have h2 := dg10_iff.1 (hd c (by simp))
 rw [num_cons]
 have h3 : 1 * 10 ^ f.length ≤ dgt c * 10 ^ f.length := Nat.mul_le_mul_right _ (by omega)
 omega
theorem num_pos_iff {f : List Nat} (hd : ∀ x ∈ f, dg10 x = true) : num 10 f = 0 ↔ f.dropWhile (· == 48) = [] := by
 rw [← num_lead 10 f]
 constructor
 ·intro h
  cases hf : f.dropWhile (· == 48) with
  | nil => rfl
  | cons c g =>
   exfalso
   rw [hf] at h
   have h1 : c ≠ 48 := by
    have := lead_head f
    rw [hf] at this
    intro e
    exact this (by rw [e]; rfl)
   have h2 := num_ge (f := g) (c := c) (fun x hx => hd x (by
    have : x ∈ f.dropWhile (· == 48) := by rw [hf]; exact hx
    exact (List.dropWhile_sublist _).subset this)) h1
   have := ten_pos g.length
   omega
 ·intro h; rw [h]; rfl

end Go.Proofs.YtfcpkdafkmohkaaGreatDoor
namespace Go.Proofs.YtfcpkdafkmohkaaGreatDoor
def ldz (f : List Nat) : List Nat := f.dropWhile (· == 48)
def trz (f : List Nat) : List Nat := (f.reverse.dropWhile (· == 48)).reverse
theorem ldz_mem {f : List Nat} {c : Nat} (h : c ∈ ldz f) : c ∈ f := (List.dropWhile_sublist _).subset h
theorem trz_mem {f : List Nat} {c : Nat} (h : c ∈ trz f) : c ∈ f := by
 unfold trz at h
 rw [List.mem_reverse] at h
 exact List.mem_reverse.1 ((List.dropWhile_sublist _).subset h)
theorem dropWhile_zeros : ∀ g : List Nat, ∃ z, g = List.replicate z 48 ++ g.dropWhile (· == 48)
 | [] => ⟨0, rfl⟩
 | c :: g => by
  by_cases h : c = 48
  ·subst h
   obtain ⟨z, hz⟩ := dropWhile_zeros g
   refine ⟨z + 1, ?_⟩
   rw [List.dropWhile_cons_of_pos (by simp), List.replicate_succ, List.cons_append, ← hz]
  ·exact ⟨0, by rw [List.dropWhile_cons_of_neg (by simpa using h)]; rfl⟩
theorem trz_zeros (f : List Nat) : ∃ z, f = trz f ++ List.replicate z 48 := by
 obtain ⟨z, hz⟩ := dropWhile_zeros f.reverse
 refine ⟨z, ?_⟩
 have h := congrArg List.reverse hz
 rw [List.reverse_reverse, List.reverse_append, List.reverse_replicate] at h
 exact h
theorem trz_last (f : List Nat) : (trz f).getLast? ≠ some 48 := by
 unfold trz
 rw [List.getLast?_reverse]
 exact lead_head f.reverse
theorem num_trz (f : List Nat) : num 10 f = num 10 (trz f) * 10 ^ (f.length - (trz f).length) := by
 obtain ⟨z, hz⟩ := trz_zeros f
 have hl : f.length - (trz f).length = z := by
  have := congrArg List.length hz
  rw [List.length_append, List.length_replicate] at this
  omega
 have h2 := congrArg (num 10) hz
 rw [num_append, num_zeros, List.length_replicate, Nat.add_zero] at h2
 rw [hl, h2]
theorem trz_len (f : List Nat) : (trz f).length ≤ f.length := by
 obtain ⟨z, hz⟩ := trz_zeros f
 have := congrArg List.length hz
 rw [List.length_append] at this
 omega
theorem num_any_pos {f : List Nat} (hd : ∀ x ∈ f, dg10 x = true) {c : Nat} (hc : c ∈ f) (h : c ≠ 48) : 0 < num 10 f := by
 rcases Nat.eq_zero_or_pos (num 10 f) with h0 | h0
 ·exfalso
  have h1 := (num_pos_iff hd).1 h0
  obtain ⟨z, hz⟩ := dropWhile_zeros f
  rw [h1, List.append_nil] at hz
  rw [hz] at hc
  exact h (List.eq_of_mem_replicate hc)
 ·exact h0
theorem num_lo {g : List Nat} (hd : ∀ x ∈ g, dg10 x = true) (h0 : g ≠ []) (hh : g.head? ≠ some 48) : 10 ^ (g.length - 1) ≤ num 10 g := by
 cases g with
 | nil => exact absurd rfl h0
 | cons c r =>
  have := num_ge (f := r) (c := c) hd (fun e => hh (by rw [e]; rfl))
  simpa using this
theorem num_hi {g : List Nat} (hd : ∀ x ∈ g, dg10 x = true) : num 10 g < 10 ^ g.length := num_lt (fun c hc => (dgt_ten (hd c hc)).2)
theorem head_take {g : List Nat} {k : Nat} (hk : 0 < k) : (g.take k).head? = g.head? := by
 cases g with
 | nil => simp
 | cons c r =>
  obtain ⟨j, rfl⟩ : ∃ j, k = j + 1 := ⟨k - 1, by omega⟩
  rw [List.take_succ_cons]
  rfl
theorem dgt_49 : dgt 49 = 1 := by decide
theorem cut_tail {g : List Nat} {k : Nat} {e : Int} (hd : ∀ x ∈ g, dg10 x = true) (hh : g.head? ≠ some 48) (hk : 769 ≤ k) (hl : k < g.length) (hpt : (g.length : Int) + e ≤ 768) (hc : ∃ c ∈ g.drop k, c ≠ 48) :
  decR (num 10 g) e = decR (num 10 (g.take k ++ [49])) (e + (g.length - k : Nat) - 1) := by
 obtain ⟨p, hp⟩ : ∃ p, g.take k = p := ⟨_, rfl⟩
 obtain ⟨q, hq⟩ : ∃ q, g.drop k = q := ⟨_, rfl⟩
 have hg : g = p ++ q := by rw [← hp, ← hq, List.take_append_drop]
 have lp : p.length = k := by rw [← hp, List.length_take]; omega
 have lq : q.length = g.length - k := by rw [← hq, List.length_drop]
 have dp : ∀ x ∈ p, dg10 x = true := fun x hx => hd x (by rw [hg]; exact List.mem_append_left _ hx)
 have dq : ∀ x ∈ q, dg10 x = true := fun x hx => hd x (by rw [hg]; exact List.mem_append_right _ hx)
 have hhp : p.head? ≠ some 48 := by rw [← hp, head_take (by omega)]; exact hh
 have p0 : p ≠ [] := fun e => by rw [e] at lp; simp at lp; omega
 rw [hq] at hc
 obtain ⟨c, hc1, hc2⟩ := hc
 have q0 := num_any_pos dq hc1 hc2
 have h1 := num_lo dp p0 hhp
 rw [lp] at h1
 have h2 := num_hi dp
 rw [lp] at h2
 have h3 := num_hi dq
 rw [hp, num_append, num_one, dgt_49, ← lq]
 have h4 := decR_cut (p := num 10 p) (r := q.length) (q := num 10 q) (k := k) (e := e) hk h1 h2 h3 q0 (by rw [hg, List.length_append, lp] at hpt; omega)
 rw [← num_append, ← hg] at h4
 rw [h4]
 rfl
/-! ### The program's way -/
theorem pway_none {f : List Nat} {e : Int} (h : trz (ldz f) = []) : decR (num 10 f) e = 0 := by
 have h1 := num_trz (ldz f)
 rw [h, num_nil, Nat.zero_mul] at h1
 have h2 : num 10 (ldz f) = num 10 f := num_lead 10 f
 rw [← h2, h1]
 exact decR_zero e
theorem pway_low {f : List Nat} {e : Int} (hd : ∀ x ∈ f, dg10 x = true) (h : ((ldz f).length : Int) + e < -323) : decR (num 10 f) e = 0 := by
 have h2 : num 10 (ldz f) = num 10 f := num_lead 10 f
 rw [← h2]
 exact decR_tiny (num_hi (fun x hx => hd x (ldz_mem hx))) (by omega)
theorem pway_high {f : List Nat} {e : Int} (hd : ∀ x ∈ f, dg10 x = true) (h0 : trz (ldz f) ≠ []) (h : 309 < ((ldz f).length : Int) + e) : decR (num 10 f) e = 9218868437227405312 := by
 have h2 : num 10 (ldz f) = num 10 f := num_lead 10 f
 have h3 : ldz f ≠ [] := fun e => h0 (by rw [e]; rfl)
 have h4 : 0 < (ldz f).length := List.length_pos_iff.2 h3
 rw [← h2]
 exact decR_huge (num_lo (fun x hx => hd x (ldz_mem hx)) h3 (lead_head f)) (by omega)
theorem pway_short {f : List Nat} (e : Int) : decR (num 10 f) e = decR (num 10 (trz (ldz f))) ((ldz f).length + e - (trz (ldz f)).length) := by
 have h2 : num 10 (ldz f) = num 10 f := num_lead 10 f
 have h3 := trz_len (ldz f)
 rw [← h2, num_trz (ldz f), decR_shift]
 exact congrArg (decR _) (by omega)
theorem trz_head {f : List Nat} (h : f.head? ≠ some 48) : (trz f).head? ≠ some 48 := by
 obtain ⟨z, hz⟩ := trz_zeros f
 cases ht : trz f with
 | nil => simp
 | cons c r =>
  rw [ht] at hz
  rw [hz] at h
  exact h
theorem pway_long {f : List Nat} {e : Int} (hd : ∀ x ∈ f, dg10 x = true) (hl : 800 < (trz (ldz f)).length) (h : ((ldz f).length : Int) + e ≤ 309) : decR (num 10 f) e = decR (num 10 ((trz (ldz f)).take 800 ++ [49])) ((ldz f).length + e - 801) := by
 rw [pway_short]
 have h3 := trz_len (ldz f)
 have hdh : ∀ x ∈ trz (ldz f), dg10 x = true := fun x hx => hd x (ldz_mem (trz_mem hx))
 have key := cut_tail (g := trz (ldz f)) (k := 800) (e := (ldz f).length + e - (trz (ldz f)).length) hdh (trz_head (lead_head f)) (by omega) hl (by omega) ?_
 ·rw [key]
  exact congrArg (decR _) (by omega)
 ·have hne : trz (ldz f) ≠ [] := fun e => by rw [e] at hl; simp at hl
  obtain ⟨c, hc⟩ : ∃ c, (trz (ldz f)).getLast? = some c := ⟨_, List.getLast?_eq_some_getLast hne⟩
  refine ⟨c, ?_, fun e => trz_last (ldz f) (by rw [← e]; exact hc)⟩
  have h5 : ((trz (ldz f)).drop 800).getLast? = some c := by
   rw [List.getLast?_drop, if_neg (by omega)]
   exact hc
  exact List.mem_of_getLast? h5
/-! ### The reference's way -/
theorem rway_high {f : List Nat} {e : Int} (hd : ∀ x ∈ f, dg10 x = true) (h0 : ldz f ≠ []) (h : 400 < ((ldz f).length : Int) + e) : decR (num 10 f) e = 9218868437227405312 := by
 have h2 : num 10 (ldz f) = num 10 f := num_lead 10 f
 have h4 : 0 < (ldz f).length := List.length_pos_iff.2 h0
 rw [← h2]
 exact decR_huge (num_lo (fun x hx => hd x (ldz_mem hx)) h0 (lead_head f)) (by omega)
theorem rway_some {f : List Nat} {e : Int} (hd : ∀ x ∈ f, dg10 x = true) (hl : 820 < (ldz f).length) (h : ((ldz f).length : Int) + e ≤ 400) (hc : ∃ c ∈ (ldz f).drop 810, c ≠ 48) : decR (num 10 f) e = decR (num 10 ((ldz f).take 810 ++ [49])) (e + ((ldz f).length - 810 : Nat) - 1) := by
 have h2 : num 10 (ldz f) = num 10 f := num_lead 10 f
 rw [← h2]
 exact cut_tail (fun x hx => hd x (ldz_mem hx)) (lead_head f) (by omega) (by omega) (by omega) hc
theorem rway_none {f : List Nat} {e : Int} (hc : ∀ c ∈ (ldz f).drop 810, c = 48) : decR (num 10 f) e = decR (num 10 ((ldz f).take 810)) (e + ((ldz f).length - 810 : Nat)) := by
 have h2 : num 10 (ldz f) = num 10 f := num_lead 10 f
 rw [← h2, ← decR_shift]
 have h3 : num 10 (ldz f) = num 10 ((ldz f).take 810 ++ (ldz f).drop 810) := by rw [List.take_append_drop]
 have h4 : (ldz f).drop 810 = List.replicate ((ldz f).length - 810) 48 := by
  rw [← List.length_drop]
  exact List.eq_replicate_of_mem hc
 rw [h3, num_append, h4, num_zeros, List.length_replicate, Nat.add_zero]

end Go.Proofs.YtfcpkdafkmohkaaGreatDoor
namespace Go.Proofs.YtfcpkdafkmohkaaGreatDoor
def hxA (l : List Nat) : Bool := l.head? == some 48 && (l.tail.head? == some 120 || l.tail.head? == some 88)
def hx16 (c : Nat) : Bool := decide (dgt c < 16)
def hxB (l : List Nat) : Bool := hxA l && !(l.drop 2).isEmpty && (l.drop 2).all hx16
def natV (r : Nat) (f : List Nat) : Nat := decR (num r f) 0
def infL : List Nat := [73, 110, 102, 105, 110, 105, 116, 121]
def infB (l : List Nat) : Bool := infL.isPrefixOf l
def sgW (s : Bool) (r : Nat) : Nat := if s = true then 9223372036854775808 + r else r
def nanW : Nat := 9221120237041090560
def numW (l : List Nat) : Nat :=
 if l = [] then 0 else if hxB l = true then natV 16 (l.drop 2)
 else if unsg l = infL then sgW (sgnB l) 9218868437227405312
 else if dB (unsg l) = true ∧ dR (unsg l) = [] then sgW (sgnB l) (dV (unsg l)) else nanW
def dgq (r : Nat) (c : Nat) : Bool := decide (dgt c < r)
def nrw (z : Nat) (us : List Nat) : List Nat := us.map fun u => if 127 < u then z else u
theorem nrw_lt {z : Nat} (hz : z < 128) (us : List Nat) : ∀ c ∈ nrw z us, c < 128 := by
 intro c hc
 unfold nrw at hc
 obtain ⟨u, _, rfl⟩ := List.mem_map.1 hc
 split <;> omega
end Go.Proofs.YtfcpkdafkmohkaaGreatDoor
namespace Go.Proofs.YtfcpkdafkmohkaaGreatDoor
theorem bl_lt (s : ByteArray) : ∀ c ∈ bl s, c < 256 := by
 intro c hc
 unfold bl at hc
 obtain ⟨b, _, rfl⟩ := List.mem_map.1 hc
 exact b.toNat_lt
theorem bl_mk (X : List UInt8) : bl ⟨X.toArray⟩ = X.map UInt8.toNat := by unfold bl; simp
theorem str_eq {X : List UInt8} {L : List Nat} (h : X.map UInt8.toNat = L) : (⟨X.toArray⟩ : ByteArray) = strOf L := by
 refine bl_inj ?_
 rw [bl_mk, h, bl_strOf]
 intro u hu
 rw [← h] at hu
 obtain ⟨b, _, rfl⟩ := List.mem_map.1 hu
 exact b.toNat_lt
theorem strOf_bl (s : ByteArray) : strOf (bl s) = s := bl_inj (bl_strOf (bl_lt s))
theorem bl_data (s : ByteArray) : s.data.toList.map UInt8.toNat = bl s := rfl
theorem strOf_size (l : List Nat) : (strOf l).size = l.length := by
 unfold strOf
 show (Array.size _) = _
 simp
theorem bl_size (s : ByteArray) : (bl s).length = s.size := bl_len s
theorem strOf_nil : strOf [] = ByteArray.empty := rfl
theorem drop_map' {p : UInt8 → Bool} {q : Nat → Bool} (h : ∀ b : UInt8, p b = q b.toNat) : ∀ l : List UInt8, (l.dropWhile p).map UInt8.toNat = (l.map UInt8.toNat).dropWhile q := by
 intro l
 rw [List.dropWhile_map]
 congr 1
 congr 1
 funext b
 exact h b
theorem hp_one (s : ByteArray) (k : UInt8) : Lib.hasPrefix s.data.toList [k] = ((bl s).head? == some k.toNat) := by
 unfold Lib.hasPrefix bl
 cases s.data.toList with
 | nil => rfl
 | cons c r =>
  show (k == c && true) = (some c.toNat == some k.toNat)
  rw [Bool.eq_iff_iff]
  simp only [Bool.and_true, beq_iff_eq, Option.some.injEq]
  exact ⟨fun e => by rw [e], fun e => (UInt8.toNat_inj.1 e).symm⟩
theorem tp_one (s : ByteArray) (k : UInt8) : (⟨(Lib.trimPrefix s.data.toList [k]).toArray⟩ : ByteArray) = strOf (if (bl s).head? = some k.toNat then (bl s).tail else bl s) := by
 refine str_eq ?_
 unfold Lib.trimPrefix
 rw [hp_one]
 by_cases h : (bl s).head? = some k.toNat
 ·rw [if_pos h, beq_iff_eq.2 h, if_pos rfl, List.map_drop, bl_data]
  exact List.drop_one
 ·rw [if_neg h, beq_eq_false_iff_ne.2 h, if_neg (by simp), bl_data]
theorem isp_map : ∀ (p l : List UInt8), p.isPrefixOf l = (p.map UInt8.toNat).isPrefixOf (l.map UInt8.toNat)
 | [], l => by cases l <;> rfl
 | c :: p, [] => rfl
 | c :: p, d :: l => by
  show (c == d && p.isPrefixOf l) = (c.toNat == d.toNat && (p.map UInt8.toNat).isPrefixOf (l.map UInt8.toNat))
  rw [isp_map p l]
  congr 1
  rw [Bool.eq_iff_iff, beq_iff_eq, beq_iff_eq]
  exact ⟨fun e => by rw [e], fun e => UInt8.toNat_inj.1 e⟩
theorem hp_any (s p : ByteArray) : Lib.hasPrefix s.data.toList p.data.toList = (bl p).isPrefixOf (bl s) := isp_map _ _
theorem tp_any (s p : ByteArray) : (⟨(Lib.trimPrefix s.data.toList p.data.toList).toArray⟩ : ByteArray) = strOf (if (bl p).isPrefixOf (bl s) = true then (bl s).drop p.size else bl s) := by
 refine str_eq ?_
 unfold Lib.trimPrefix
 rw [hp_any]
 by_cases h : (bl p).isPrefixOf (bl s) = true
 ·rw [if_pos h, if_pos h, List.map_drop, bl_data, ← Lib.size_eq]
 ·rw [if_neg h, if_neg h, bl_data]
def lowS (r : Nat) : ByteArray := (⟨#[48, 49, 50, 51, 52, 53, 54, 55, 56, 57, 97, 98, 99, 100, 101, 102, 103, 104, 105, 106, 107, 108, 109, 110, 111, 112, 113, 114, 115, 116, 117, 118, 119, 120, 121, 122]⟩ : ByteArray).extract 0 r
def ldq (r : Nat) (c : Nat) : Bool := decide (dgt c < r) && !(decide (65 ≤ c) && decide (c ≤ 90))
theorem low_has : ∀ (r : Fin 37) (b : Fin 256), (lowS r.val).data.toList.contains (UInt8.ofNat b.val) = ldq r.val b.val := by decide +kernel
theorem low_contains {r : Nat} (hr : r ≤ 36) (b : UInt8) : (lowS r).data.toList.contains b = ldq r b.toNat := by
 have := low_has ⟨r, by omega⟩ ⟨b.toNat, b.toNat_lt⟩
 simpa using this
theorem low_ascii : ∀ (r : Fin 37) (j : Fin 37), ∀ b, (lowS r.val).data.toList[j.val]? = some b → b.toNat < 128 := by decide +kernel
theorem low_len : ∀ r : Fin 37, (lowS r.val).data.toList.length = r.val := by decide +kernel
theorem low_small {r : Nat} (hr : r ≤ 36) : (lowS r).size = r := by rw [Lib.size_eq]; exact low_len ⟨r, by omega⟩
theorem low_asc {r : Nat} (hr : r ≤ 36) : ∀ (j : Nat) (b : UInt8), (lowS r).data.toList[j]? = some b → b.toNat < 128 := by
 intro j b hb
 rcases Nat.lt_or_ge j 37 with h | h
 ·exact low_ascii ⟨r, by omega⟩ ⟨j, h⟩ b hb
 ·exfalso
  rw [List.getElem?_eq_none (by rw [low_len ⟨r, by omega⟩]; show r ≤ j; omega)] at hb
  cases hb
theorem ldq_ten (c : Nat) : ldq 10 c = dg10 c := by
 unfold ldq
 rw [Bool.eq_iff_iff, Bool.and_eq_true, decide_eq_true_eq, dgt_lt_ten]
 constructor
 ·exact fun h => h.1
 ·intro h
  refine ⟨h, ?_⟩
  have := dg10_iff.1 h
  simp; omega
theorem tl_low {r : Nat} (hr : r ≤ 36) (s : ByteArray) : (⟨(Lib.trimLeftS s.data.toList (lowS r).data.toList).toArray⟩ : ByteArray) = strOf ((bl s).dropWhile (ldq r)) :=
 str_eq (drop_map' (fun b => low_contains hr b) _)
theorem contains_48 (b : UInt8) : [(48 : UInt8)].contains b = (b.toNat == 48) := by
 rw [Lib.contains_one, Bool.eq_iff_iff, beq_iff_eq, beq_iff_eq]
 exact ⟨fun e => by rw [e]; rfl, fun e => UInt8.toNat_inj.1 e⟩
theorem tl_48 (s : ByteArray) : (⟨(Lib.trimLeftS s.data.toList [48]).toArray⟩ : ByteArray) = strOf (ldz (bl s)) :=
 str_eq (drop_map' (q := (· == 48)) (fun b => contains_48 b) _)
theorem tr_48 (s : ByteArray) : (⟨(Lib.trimRightS s.data.toList [48]).toArray⟩ : ByteArray) = strOf (trz (bl s)) := by
 refine str_eq ?_
 unfold Lib.trimRightS trz
 rw [List.map_reverse, drop_map' (q := (· == 48)) (fun b => contains_48 b), List.map_reverse]
 rfl
def lowC (c : Nat) : Nat := if 65 ≤ c ∧ c ≤ 90 then c + 32 else c
theorem low_byte : ∀ b : Fin 128, (Lib.lowerB (UInt8.ofNat b.val)).toNat = lowC b.val := by decide +kernel
theorem lower_eq {s : ByteArray} (h : ∀ c ∈ bl s, c < 128) : (⟨(Lib.toLowerA s.data.toList).toArray⟩ : ByteArray) = strOf ((bl s).map lowC) := by
 refine str_eq ?_
 unfold Lib.toLowerA bl
 rw [List.map_map, List.map_map]
 refine List.map_congr_left (fun b hb => ?_)
 have h1 : b.toNat < 128 := h b.toNat (List.mem_map.2 ⟨b, hb, rfl⟩)
 have := low_byte ⟨b.toNat, h1⟩
 simpa using this
theorem asc_of {s : ByteArray} (h : ∀ c ∈ bl s, c < 128) : ∀ (j : Nat) (b : UInt8), s.data.toList[j]? = some b → b.toNat < 128 := fun _ b hb => h b.toNat (List.mem_map.2 ⟨b, List.mem_of_getElem? hb, rfl⟩)
theorem dgt_low (c : Nat) : dgt (lowC c) = dgt c := by
 unfold dgt lowC
 split <;> (repeat' split) <;> omega
theorem ldq_low (r c : Nat) : ldq r (lowC c) = decide (dgt c < r) := by
 unfold ldq
 rw [dgt_low]
 have : (decide (65 ≤ lowC c) && decide (lowC c ≤ 90)) = false := by unfold lowC; split <;> simp <;> omega
 rw [this]
 simp
theorem num_low (r : Nat) : ∀ l : List Nat, num r (l.map lowC) = num r l
 | [] => rfl
 | c :: l => by rw [List.map_cons, num_cons, num_cons, dgt_low, num_low r l, List.length_map]
theorem take_low (r : Nat) (l : List Nat) : (l.map lowC).takeWhile (ldq r) = (l.takeWhile (fun c => decide (dgt c < r))).map lowC := by
 rw [List.takeWhile_map]
 congr 1
 congr 1
 funext c
 exact ldq_low r c
theorem drop_low (r : Nat) (l : List Nat) : (l.map lowC).dropWhile (ldq r) = (l.dropWhile (fun c => decide (dgt c < r))).map lowC := by
 rw [List.dropWhile_map]
 congr 1
 congr 1
 funext c
 exact ldq_low r c
theorem ext_take (s : ByteArray) (k : Nat) : s.extract 0 k = strOf ((bl s).take k) := by
 refine bl_inj ?_
 rw [bl_strOf (fun u hu => bl_lt s u (List.mem_of_mem_take hu))]
 unfold bl
 rw [Lib.extract_data, List.drop_zero, Nat.sub_zero, List.map_take]
theorem ext_drop (s : ByteArray) (k : Nat) : s.extract k s.size = strOf ((bl s).drop k) := by
 refine bl_inj ?_
 rw [bl_strOf (fun u hu => bl_lt s u (List.mem_of_mem_drop hu)), bl_drop]
theorem take_run (p : Nat → Bool) (l : List Nat) : l.take (l.length - (l.dropWhile p).length) = l.takeWhile p := by
 have h := List.takeWhile_append_dropWhile (p := p) (l := l)
 have hl := congrArg List.length h
 rw [List.length_append] at hl
 have h2 : l.length - (l.dropWhile p).length = (l.takeWhile p).length := by omega
 rw [h2]
 have h3 : (l.takeWhile p ++ l.dropWhile p).take (l.takeWhile p).length = l.takeWhile p := List.take_left
 rw [h] at h3
 exact h3
theorem strOf_append (a b : List Nat) : strOf a ++ strOf b = strOf (a ++ b) := by
 unfold strOf
 rw [List.map_append]
 apply ByteArray.ext
 simp

end Go.Proofs.YtfcpkdafkmohkaaGreatDoor
namespace Go.Proofs.YtfcpkdafkmohkaaGreatDoor
def dL (n : Nat) : List Nat := (Lib.decDigits n).map UInt8.toNat
theorem u8_toNat {n : Nat} (h : n < 256) : (UInt8.ofNat n).toNat = n := by simp; omega
theorem dL_small {n : Nat} (h : n < 10) : dL n = [48 + n] := by
 unfold dL
 rw [Lib.decDigits, dif_pos h, List.map_cons, List.map_nil, u8_toNat (by omega)]
theorem dL_big {n : Nat} (h : 10 ≤ n) : dL n = dL (n / 10) ++ [48 + n % 10] := by
 unfold dL
 rw [Lib.decDigits, dif_neg (by omega), List.map_append, List.map_cons, List.map_nil, u8_toNat (by omega)]
theorem dL_snoc {n d : Nat} (hn : 0 < n) (hd : d < 10) : dL (n * 10 + d) = dL n ++ [48 + d] := by
 rw [dL_big (by omega), show (n * 10 + d) / 10 = n by omega, show (n * 10 + d) % 10 = d by omega]
theorem dL_ind {P : Nat → Prop} (h1 : ∀ n, n < 10 → P n) (h2 : ∀ n, 10 ≤ n → P (n / 10) → P n) (n : Nat) : P n := by
 induction n using Nat.strongRecOn with
 | _ n ih =>
  by_cases h : n < 10
  ·exact h1 n h
  ·exact h2 n (by omega) (ih _ (by omega))
theorem dL_dig (n : Nat) : ∀ c ∈ dL n, dg10 c = true := by
 refine dL_ind (P := fun n => ∀ c ∈ dL n, dg10 c = true) ?_ ?_ n
 ·intro n h c hc
  rw [dL_small h, List.mem_singleton] at hc
  subst hc
  exact dg10_iff.2 (by omega)
 ·intro n h ih c hc
  rw [dL_big h, List.mem_append, List.mem_singleton] at hc
  rcases hc with hc | rfl
  ·exact ih c hc
  ·exact dg10_iff.2 (by omega)
theorem dL_ne (n : Nat) : dL n ≠ [] := by
 by_cases h : n < 10
 ·rw [dL_small h]; simp
 ·rw [dL_big (by omega)]; simp
theorem dL_pos (n : Nat) : 0 < (dL n).length := List.length_pos_iff.2 (dL_ne n)
theorem dgt_48p {d : Nat} (h : d < 10) : dgt (48 + d) = d := by
 have := dgt_ten (c := 48 + d) (dg10_iff.2 (by omega))
 omega
theorem dL_num (n : Nat) : num 10 (dL n) = n := by
 refine dL_ind (P := fun n => num 10 (dL n) = n) ?_ ?_ n
 ·intro n h
  rw [dL_small h, num_one, dgt_48p h]
 ·intro n h ih
  rw [dL_big h, num_append, ih, num_one, dgt_48p (by omega), List.length_singleton]
  omega
theorem dL_head {n : Nat} : 0 < n → (dL n).head? ≠ some 48 := by
 refine dL_ind (P := fun n => 0 < n → (dL n).head? ≠ some 48) ?_ ?_ n
 ·intro n h h0
  rw [dL_small h]
  simp
  omega
 ·intro n h ih _
  have := dL_ne (n / 10)
  have ih' := ih (by omega)
  rw [dL_big h]
  cases hd : dL (n / 10) with
  | nil => exact absurd hd this
  | cons a b =>
   rw [hd] at ih'
   simpa using ih'
theorem dL_lt (n : Nat) : n < 10 ^ (dL n).length := by
 have := num_hi (g := dL n) (dL_dig n)
 rwa [dL_num] at this
theorem dL_ge {n : Nat} (h : 0 < n) : 10 ^ ((dL n).length - 1) ≤ n := by
 have := num_lo (g := dL n) (dL_dig n) (dL_ne n) (dL_head h)
 rwa [dL_num] at this
theorem ten_lt {a b : Nat} (h : 10 ^ a < 10 ^ b) : a < b := by
 rcases Nat.lt_or_ge a b with h1 | h1
 ·exact h1
 ·have := Nat.pow_le_pow_right (n := 10) (by omega) h1
  omega
theorem dL_len {n k : Nat} (h1 : 10 ^ k ≤ n) (h2 : n < 10 ^ (k + 1)) : (dL n).length = k + 1 := by
 have hp := ten_pos k
 have a1 := ten_lt (Nat.lt_of_le_of_lt h1 (dL_lt n))
 have a2 := ten_lt (Nat.lt_of_le_of_lt (dL_ge (n := n) (by omega)) h2)
 omega
theorem dL_zeros {n : Nat} (hn : 0 < n) : ∀ j : Nat, dL (n * 10 ^ j) = dL n ++ List.replicate j 48
 | 0 => by simp
 | j + 1 => by
  have h := dL_snoc (n := n * 10 ^ j) (d := 0) (Nat.mul_pos hn (ten_pos j)) (by omega)
  rw [Nat.pow_succ, ← Nat.mul_assoc, show n * 10 ^ j * 10 = n * 10 ^ j * 10 + 0 by omega, h, dL_zeros hn j, List.replicate_succ', List.append_assoc]
theorem dL_one {d : Nat} (h : d < 10) : dch d = 48 + d := by unfold dch; rw [if_pos h]
theorem dL_rev : ∀ {D : List Nat}, Ds 10 D → 0 < dv 10 D → ((dstrip D).map dch).reverse = dL (dv 10 D)
 | [], _, h => by simp [dv] at h
 | x :: l, hd, h => by
  have hx := hd.head
  have hl := hd.tail
  rcases Nat.eq_zero_or_pos (dv 10 l) with h0 | h0
  ·have e := dstrip_zero (r := 10) (by omega) h0
   rw [dv, h0] at h
   rw [dstrip, e, if_neg (by omega), dv, h0, Nat.mul_zero, Nat.add_zero, dL_small hx]
   simp [dL_one hx]
  ·have ih := dL_rev hl h0
   have hne : dstrip l ≠ [] := by
    intro e
    rw [e] at ih
    exact dL_ne _ ih.symm
   rw [dstrip, if_neg (fun h => hne h.2), dv, List.map_cons, List.reverse_cons, ih, dL_one hx, Nat.add_comm x, Nat.mul_comm 10, dL_snoc h0 hx]
theorem text_dL {n : Nat} {t : ByteArray} (h : TextQ 10 n t) : bl t = dL n := by
 rcases h with ⟨rfl, h⟩ | ⟨h0, D, h1, rfl, h2⟩
 ·rw [h, dL_small (by omega)]
 ·rw [h2, dL_rev h1 h0]
theorem text_str {n : Nat} {t : ByteArray} (h : TextQ 10 n t) : t = strOf (dL n) := by rw [← text_dL h, strOf_bl]
theorem trz_snoc {l : List Nat} {c : Nat} (h : c ≠ 48) : trz (l ++ [c]) = l ++ [c] := by
 unfold trz
 rw [List.reverse_append, List.reverse_singleton, List.singleton_append, List.dropWhile_cons_of_neg (by simpa using h)]
 simp
theorem trz_rep (l : List Nat) : ∀ j : Nat, trz (l ++ List.replicate j 48) = trz l
 | 0 => by simp
 | j + 1 => by
  rw [List.replicate_succ', ← List.append_assoc]
  have : ∀ m : List Nat, trz (m ++ [48]) = trz m := fun m => by
   unfold trz
   rw [List.reverse_append, List.reverse_singleton, List.singleton_append, List.dropWhile_cons_of_pos (by simp)]
  rw [this, trz_rep l j]
theorem dL_last {n : Nat} (h : n % 10 ≠ 0) : trz (dL n) = dL n := by
 by_cases h1 : n < 10
 ·rw [dL_small h1, show [48 + n] = [] ++ [48 + n] from rfl, trz_snoc (by omega)]
 ·rw [dL_big (by omega), trz_snoc (by omega)]
theorem dL_trz {n : Nat} (h : n % 10 ≠ 0) (j : Nat) : trz (dL (n * 10 ^ j)) = dL n := by
 rw [dL_zeros (by omega), trz_rep, dL_last h]

end Go.Proofs.YtfcpkdafkmohkaaGreatDoor
namespace Go.Proofs.YtfcpkdafkmohkaaGreatDoor
def powK (K : Nat) : Nat := 2 ^ K
theorem powK_eq (K : Nat) : powK K = 2 ^ K := rfl
theorem powK_pos (K : Nat) : 0 < powK K := two_pos K
def big : Nat := powK 1074
theorem big_pos : 0 < big := powK_pos 1074
theorem big_K : ∃ K : Nat, K = 1074 ∧ big = 2 ^ K := ⟨1074, rfl, powK_eq 1074⟩
def vU (r : Nat) (s : Int) : Nat := fmag r * 10 ^ s.toNat
def vV (s : Int) : Nat := big * 10 ^ (-s).toNat
theorem vV_pos (s : Int) : 0 < vV s := Nat.mul_pos big_pos (ten_pos _)
theorem decR_big (N : Nat) (e : Int) : decR N e = rnd (N * vV (-e)) (10 ^ (-e).toNat) := by
 obtain ⟨K, hK, hd⟩ := decR_K
 obtain ⟨K', hK', hb⟩ := big_K
 have : K' = K := by omega
 subst this
 unfold vV
 rw [hd, hb, show (- -e).toNat = e.toNat by omega, Nat.mul_assoc, Nat.mul_comm (10 ^ e.toNat)]
theorem ten_iff {u v a b c d : Nat} (e : c + b = a + d) : v * 10 ^ a ≤ u * 10 ^ b ↔ v * 10 ^ c ≤ u * 10 ^ d := by
 have hb := ten_pos b
 have hd := ten_pos d
 have e1 : v * 10 ^ a * 10 ^ d = v * 10 ^ c * 10 ^ b := by rw [Nat.mul_assoc, Nat.mul_assoc, ← Nat.pow_add, ← Nat.pow_add, e]
 have e2 : u * 10 ^ b * 10 ^ d = u * 10 ^ d * 10 ^ b := Nat.mul_right_comm _ _ _
 rw [← Nat.mul_le_mul_right_iff hd, e1, e2, Nat.mul_le_mul_right_iff hb]
theorem le10_at {r j : Nat} {m s : Int} (h : m + s = j) : le10 m (fmag r) big ↔ 10 ^ j * vV s ≤ vU r s := by
 unfold le10 vU vV
 rw [Nat.mul_left_comm, ← Nat.pow_add]
 exact ten_iff (by omega)
theorem vU_cross (r i : Nat) (s : Int) : vU r (s - i) * (vV s * 10 ^ i) = vU r s * vV (s - i) := by
 unfold vU vV
 have h1 : fmag r * 10 ^ (s - i).toNat * (big * 10 ^ (-s).toNat * 10 ^ i) = fmag r * big * (10 ^ (s - i).toNat * 10 ^ (-s).toNat * 10 ^ i) := by
  generalize 10 ^ (s - i).toNat = a
  generalize 10 ^ (-s).toNat = b
  generalize 10 ^ i = c
  grind
 have h2 : fmag r * 10 ^ s.toNat * (big * 10 ^ (-(s - i)).toNat) = fmag r * big * (10 ^ s.toNat * 10 ^ (-(s - i)).toNat) := by
  generalize 10 ^ s.toNat = a
  generalize 10 ^ (-(s - i)).toNat = b
  grind
 rw [h1, h2, ← Nat.pow_add, ← Nat.pow_add, ← Nat.pow_add]
 exact congrArg (fun k => fmag r * big * 10 ^ k) (by omega)
theorem lower_quot (r i : Nat) (s : Int) : vU r (s - i) / vV (s - i) = vU r s / vV s / 10 ^ i := by
 rw [(quot_cross (vV_pos _) (Nat.mul_pos (vV_pos s) (ten_pos i)) (vU_cross r i s)).1, Nat.div_div_eq_div_mul]
theorem lower_rest (r i half : Nat) (s : Int) (hi : 10 ^ i = 2 * half) :
  (2 * (vU r (s - i) % vV (s - i)) < vV (s - i) ↔ vU r s / vV s % 10 ^ i < half) ∧ (2 * (vU r (s - i) % vV (s - i)) = vV (s - i) ↔ vU r s / vV s % 10 ^ i = half ∧ vU r s % vV s = 0) := by
 have h := quot_cross (vV_pos _) (Nat.mul_pos (vV_pos s) (ten_pos i)) (vU_cross r i s)
 have g := unit_rest (U := vU r s) (half := half) (vV_pos s)
 rw [← hi] at g
 exact ⟨h.2.1.trans g.2.1, h.2.2.trans g.2.2⟩
def cq (r : Nat) (n : Int) (k : Nat) : Nat := vU r (k - n) / vV (k - n)
def cnear (r : Nat) (n : Int) (k : Nat) : Bool := decide (2 * (vU r (k - n) % vV (k - n)) < vV (k - n)) || (decide (2 * (vU r (k - n) % vV (k - n)) = vV (k - n)) && decide (cq r n k % 2 = 0))
def clow (r : Nat) (n : Int) (k : Nat) : Bool := decide (decR (cq r n k) (n - k) = r)
def chigh (r : Nat) (n : Int) (k : Nat) : Bool := decide (decR (cq r n k + 1) (n - k) = r)
def cnd (r : Nat) (n : Int) (k : Nat) : Option Nat :=
 if (clow r n k && (!chigh r n k || cnear r n k)) = true then some (cq r n k) else if chigh r n k = true then some (cq r n k + 1) else none
theorem cnd_none {r k : Nat} {n : Int} : cnd r n k = none ↔ clow r n k = false ∧ chigh r n k = false := by
 unfold cnd
 cases clow r n k <;> cases chigh r n k <;> cases cnear r n k <;> simp
theorem cnd_some {r k c : Nat} {n : Int} (h : cnd r n k = some c) : (c = cq r n k ∨ c = cq r n k + 1) ∧ decR c (n - k) = r := by
 unfold cnd at h
 split at h
 ·rename_i hc
  injection h with h
  subst h
  refine ⟨.inl rfl, ?_⟩
  have := (Bool.and_eq_true _ _ ▸ hc).1
  exact of_decide_eq_true this
 ·split at h
  ·rename_i hc
   injection h with h
   subst h
   exact ⟨.inr rfl, of_decide_eq_true hc⟩
  ·cases h
theorem cq_lo {r k : Nat} {n : Int} (hp : PointAt (fmag r) big n) (hk : 1 ≤ k) : 10 ^ (k - 1) ≤ cq r n k := by
 unfold cq
 rw [Nat.le_div_iff_mul_le (vV_pos _)]
 exact (le10_at (by omega)).1 hp.1
theorem cq_hi {r k : Nat} {n : Int} (hp : PointAt (fmag r) big n) : cq r n k < 10 ^ k := by
 unfold cq
 rw [Nat.div_lt_iff_lt_mul (vV_pos _)]
 exact Nat.lt_of_not_le fun h => hp.2 ((le10_at (by omega)).2 h)
theorem cq_ten (r k : Nat) (n : Int) : cq r n k = cq r n (k + 1) / 10 := by
 unfold cq
 have := lower_quot r 1 (((k + 1 : Nat) : Int) - n)
 rw [Nat.pow_one, show ((k + 1 : Nat) : Int) - n - ((1 : Nat) : Int) = (k : Int) - n by omega] at this
 exact this
theorem cnd_last {r k c : Nat} {n : Int} (hp : PointAt (fmag r) big n) (hk : 1 ≤ k) (hmin : ∀ j, 1 ≤ j → j < k → cnd r n j = none) (h : cnd r n k = some c) :
  (c % 10 ≠ 0 ∧ 10 ^ (k - 1) ≤ c ∧ c < 10 ^ k) ∨ (k = 1 ∧ c = 10) := by
 obtain ⟨hc, hd⟩ := cnd_some h
 have b1 := cq_lo (k := k) hp hk
 have b2 := cq_hi (k := k) hp
 by_cases h0 : c % 10 = 0
 ·right
  rcases Nat.lt_or_ge 1 k with h1 | h1
  ·exfalso
   obtain ⟨j, rfl⟩ : ∃ j, k = j + 1 := ⟨k - 1, by omega⟩
   have hn := cnd_none.1 (hmin j (by omega) (by omega))
   have hq := cq_ten r j n
   obtain ⟨d, rfl⟩ : ∃ d, c = d * 10 ^ 1 := ⟨c / 10, by omega⟩
   rw [decR_shift, show n - ((j + 1 : Nat) : Int) + ((1 : Nat) : Int) = n - (j : Int) by omega] at hd
   rcases hc with hc | hc
   ·have : d = cq r n j := by rw [hq]; omega
    rw [this] at hd
    have := hn.1
    unfold clow at this
    exact of_decide_eq_false this hd
   ·have : d = cq r n j + 1 := by rw [hq]; omega
    rw [this] at hd
    have := hn.2
    unfold chigh at this
    exact of_decide_eq_false this hd
  ·have hk1 : k = 1 := by omega
   subst hk1
   refine ⟨rfl, ?_⟩
   simp at b1 b2
   omega
 ·left
  refine ⟨h0, by omega, ?_⟩
  rcases hc with rfl | hc
  ·exact b2
  ·rcases Nat.lt_or_ge c (10 ^ k) with h1 | h1
   ·exact h1
   ·exfalso
    have : c = 10 ^ k := by omega
    obtain ⟨j, rfl⟩ : ∃ j, k = j + 1 := ⟨k - 1, by omega⟩
    rw [this, Nat.pow_succ] at h0
    omega
def SQ (r : Nat) (D : List Nat) (N : Int) : Prop := ∃ n k c, PointAt (fmag r) big n ∧ 1 ≤ k ∧ k ≤ 17 ∧ (∀ j, 1 ≤ j → j < k → cnd r n j = none) ∧ cnd r n k = some c ∧ D = trz (dL c) ∧ N = (dL c).length + n - k
theorem SQ.one {r : Nat} {D E : List Nat} {N M : Int} (h : SQ r D N) (g : SQ r E M) : D = E ∧ N = M := by
 obtain ⟨n, k, c, h1, h2, _, h3, h4, h5, h6⟩ := h
 obtain ⟨n', k', c', g1, g2, _, g3, g4, g5, g6⟩ := g
 have hn := point_one h1 g1
 subst hn
 have hk : k = k' := by
  rcases Nat.lt_trichotomy k k' with h | h | h
  ·rw [g3 k h2 h] at h4; cases h4
  ·exact h
  ·rw [h3 k' g2 h] at g4; cases g4
 subst hk
 rw [h4] at g4
 injection g4 with g4
 subst g4
 exact ⟨h5.trans g5.symm, h6.trans g6.symm⟩
theorem cnd_ends {r : Nat} {n : Int} (hp : PointAt (fmag r) big n) (h0 : 0 < r) (hr : r < 9218868437227405312) : cnd r n 17 ≠ none := by
 intro hn
 obtain ⟨n1, n2⟩ := cnd_none.1 hn
 have hbig : 100000000000000000 * vV (18 - n) ≤ fmag r * 10 ^ ((18 : Int) - n).toNat := (le10_at (j := 17) (s := 18 - n) (by omega)).1 hp.1
 have hB := ten_pos ((18 : Int) - n).toNat
 have hq := lower_quot r 1 (18 - n)
 rw [Nat.pow_one, show (18 : Int) - n - ((1 : Nat) : Int) = ((17 : Nat) : Int) - n by omega] at hq
 have l1 := low_iff (unit := 10) (vV_pos (18 - n)) hB h0 hr
 have l2 := high_iff (unit := 10) (vV_pos (18 - n)) hB (by omega) h0 hr
 have hH : vU r (18 - n) = fmag r * 10 ^ ((18 : Int) - n).toNat := rfl
 have sh : ∀ c, decR c (n - ((17 : Nat) : Int)) = rnd (c * 10 * vV (18 - n)) (10 ^ ((18 : Int) - n).toNat) := by
  intro c
  have e1 := decR_shift c 1 (n - 18)
  rw [Nat.pow_one, show n - 18 + ((1 : Nat) : Int) = n - ((17 : Nat) : Int) by omega] at e1
  rw [← e1, decR_big, show -(n - 18) = 18 - n by omega]
 have m1 := of_decide_eq_false n1
 have m2 := of_decide_eq_false n2
 unfold cq at m1 m2
 rw [sh, hq, hH] at m1 m2
 rcases ten_found (vV_pos (18 - n)) hB h0 hbig with h | h
 ·exact m1 (l1.2 h)
 ·exact m2 (l2.2 h)

end Go.Proofs.YtfcpkdafkmohkaaGreatDoor
namespace Go.Proofs.YtfcpkdafkmohkaaGreatDoor
def pcn (H : Nat) (ex : Bool) (L M unit : Nat) : Option Nat :=
 if L ≤ H - H % unit ∧ (¬ H - H % unit + unit ≤ M ∨ H % unit < unit / 2 ∨ (H % unit = unit / 2 ∧ ex = true ∧ (H - H % unit) / unit % 2 = 0)) then some (H - H % unit)
 else if H - H % unit + unit ≤ M then some (H - H % unit + unit) else none
theorem pcn_cnd {r k i M : Nat} {n : Int} (hk : k + i = 18) (hi : 1 ≤ i) (h0 : 0 < r) (hr : r < 9218868437227405312)
  (hM : ∀ c, c ≤ M ↔ mostLe (vV (18 - n)) (10 ^ ((18 : Int) - n).toNat) r c) :
  pcn (vU r (18 - n) / vV (18 - n)) (decide (vU r (18 - n) % vV (18 - n) = 0)) (leastOf (vV (18 - n)) (10 ^ ((18 : Int) - n).toNat) r) M (10 ^ i) = (cnd r n k).map (· * 10 ^ i) := by
 have hB := ten_pos ((18 : Int) - n).toNat
 have hu := ten_pos i
 obtain ⟨half, hh⟩ : ∃ half, 10 ^ i = 2 * half := ⟨5 * 10 ^ (i - 1), by
  obtain ⟨j, rfl⟩ : ∃ j, i = j + 1 := ⟨i - 1, by omega⟩
  rw [Nat.pow_succ, Nat.add_sub_cancel]
  omega⟩
 have hs : (18 : Int) - n - (i : Int) = (k : Int) - n := by omega
 have hq := lower_quot r i (18 - n)
 have hl := lower_rest r i half (18 - n) hh
 rw [hs] at hq hl
 have l1 := low_iff (unit := 10 ^ i) (vV_pos (18 - n)) hB h0 hr
 have l2 := high_iff (unit := 10 ^ i) (vV_pos (18 - n)) hB hu h0 hr
 rw [show fmag r * 10 ^ ((18 : Int) - n).toNat = vU r (18 - n) from rfl] at l1 l2
 have sh : ∀ c, decR c (n - (k : Int)) = rnd (c * 10 ^ i * vV (18 - n)) (10 ^ ((18 : Int) - n).toNat) := by
  intro c
  have e1 := decR_shift c i (n - 18)
  rw [show n - 18 + (i : Int) = n - (k : Int) by omega] at e1
  rw [← e1, decR_big, show -(n - 18) = 18 - n by omega]
 have hcq : cq r n k = vU r (18 - n) / vV (18 - n) / 10 ^ i := hq
 generalize hH : vU r (18 - n) / vV (18 - n) = H at *
 have hdn : H - H % 10 ^ i = H / 10 ^ i * 10 ^ i := by
  have := Nat.div_add_mod H (10 ^ i)
  rw [Nat.mul_comm] at this
  omega
 have hup : H / 10 ^ i * 10 ^ i + 10 ^ i = (H / 10 ^ i + 1) * 10 ^ i := by rw [Nat.add_mul, Nat.one_mul]
 have ta : leastOf (vV (18 - n)) (10 ^ ((18 : Int) - n).toNat) r ≤ H / 10 ^ i * 10 ^ i ↔ clow r n k = true := by
  rw [← l1]
  unfold clow
  rw [decide_eq_true_iff, hcq, sh]
 have tb : H / 10 ^ i * 10 ^ i + 10 ^ i ≤ M ↔ chigh r n k = true := by
  rw [hM, hup, ← l2]
  unfold chigh
  rw [decide_eq_true_iff, hcq, sh]
 have tc : (H % 10 ^ i < 10 ^ i / 2 ∨ (H % 10 ^ i = 10 ^ i / 2 ∧ decide (vU r (18 - n) % vV (18 - n) = 0) = true ∧ H / 10 ^ i * 10 ^ i / 10 ^ i % 2 = 0)) ↔ cnear r n k = true := by
  unfold cnear
  rw [Bool.or_eq_true, Bool.and_eq_true, decide_eq_true_iff, decide_eq_true_iff, decide_eq_true_iff, decide_eq_true_iff, hl.1, hl.2, hcq, Nat.mul_div_cancel _ hu, show 10 ^ i / 2 = half by omega]
  constructor
  ·rintro (h | ⟨a, b, c⟩)
   ·exact .inl h
   ·exact .inr ⟨⟨a, b⟩, c⟩
  ·rintro (h | ⟨⟨a, b⟩, c⟩)
   ·exact .inl h
   ·exact .inr ⟨a, b, c⟩
 unfold pcn cnd
 rw [hdn, hcq]
 by_cases h1 : clow r n k = true <;> by_cases h2 : chigh r n k = true <;> by_cases h3 : cnear r n k = true
 all_goals
  simp only [ta, tb, tc, h1, h2, h3]
  simp [Nat.add_mul]
theorem rnd_above {r s u : Nat} (hr : r < 9218868437227405312) (hrs : r < s) (h : fmag s ≤ u) : rnd u 1 ≠ r := by
 rcases Nat.lt_or_ge s 9218868437227405312 with hs | hs
 ·have h1 := rnd_own (v := 1) (by omega) hs
  have h2 := rnd_mono (u := fmag s * 1) (v := 1) (u' := u) (v' := 1) (by omega) (by omega) (by omega)
  omega
 ·have hf : fmag 9218868437227405312 ≤ fmag s := by
   rcases Nat.eq_or_lt_of_le hs with e | e
   ·rw [← e]; exact Nat.le_refl _
   ·exact Nat.le_of_lt (fmag_lt.2 e)
  have := rnd_top (u := u) (v := 1) (by omega) (by rw [Nat.mul_one]; exact Nat.le_trans hf h)
  omega
theorem rnd_below {r s u : Nat} (hr : r < 9218868437227405312) (hrs : s < r) (h : u ≤ fmag s) : rnd u 1 ≠ r := by
 have h1 := rnd_own (v := 1) (r := s) (by omega) (by omega)
 have h2 := rnd_mono (u := u) (v := 1) (u' := fmag s * 1) (v' := 1) (by omega) (by omega) (by omega)
 omega
theorem strip_tens {N : Nat} (h : 0 < N) : ∃ c j, N = c * 10 ^ j ∧ c % 10 ≠ 0 := by
 induction N using Nat.strongRecOn with
 | _ N ih =>
  by_cases h0 : N % 10 = 0
  ·obtain ⟨c, j, h1, h2⟩ := ih (N / 10) (by omega) (by omega)
   refine ⟨c, j + 1, ?_, h2⟩
   rw [Nat.pow_succ, ← Nat.mul_assoc, ← h1]
   omega
  ·exact ⟨N, 0, by simp, h0⟩
theorem sq_whole {r N : Nat} (h0 : 0 < N) (hN : N < 9007199254740992) (hr : r < 9218868437227405312) (hm : fmag r = N * big) : SQ r (trz (dL N)) (dL N).length := by
 obtain ⟨K, hK, hbig⟩ := big_K
 obtain ⟨c, j, e, hc⟩ := strip_tens h0
 have hc0 : 0 < c := by omega
 have hlen : (dL N).length = (dL c).length + j := by rw [e, dL_zeros hc0, List.length_append, List.length_replicate]
 obtain ⟨k, hk⟩ : ∃ k, (dL c).length = k := ⟨_, rfl⟩
 have hk1 : 1 ≤ k := by rw [← hk]; exact dL_pos c
 have hl1 := dL_lt N
 have hl2 := dL_ge h0
 rw [hlen, hk] at hl1 hl2
 have hle : k + j ≤ 16 := by
  have h3 : 10 ^ (k + j - 1) < 10 ^ 16 := Nat.lt_of_le_of_lt hl2 (by omega)
  have := ten_lt h3
  omega
 have hq : ∀ i : Nat, i ≤ k + j → cq r ((k + j : Nat) : Int) i = N / 10 ^ (k + j - i) ∧ vU r ((i : Int) - ((k + j : Nat) : Int)) % vV ((i : Int) - ((k + j : Nat) : Int)) = big * (N % 10 ^ (k + j - i)) := by
  intro i hi
  unfold cq vU vV
  rw [show ((i : Int) - ((k + j : Nat) : Int)).toNat = 0 by omega, show (-((i : Int) - ((k + j : Nat) : Int))).toNat = k + j - i by omega, Nat.pow_zero, Nat.mul_one, hm, Nat.mul_comm N]
  exact ⟨Nat.mul_div_mul_left _ _ big_pos, Nat.mul_mod_mul_left _ _ _⟩
 have sh : ∀ d i : Nat, i ≤ k + j → decR d (((k + j : Nat) : Int) - (i : Int)) = rnd (d * 10 ^ (k + j - i) * big) 1 := by
  intro d i hi
  rw [decR_big]
  unfold vV
  rw [show (-(-(((k + j : Nat) : Int) - (i : Int)))).toNat = k + j - i by omega, show (-(((k + j : Nat) : Int) - (i : Int))).toNat = 0 by omega, Nat.pow_zero, Nat.mul_comm big, ← Nat.mul_assoc]
 have hNk : N / 10 ^ j = c := by rw [e]; exact Nat.mul_div_cancel _ (ten_pos j)
 have hNr : N % 10 ^ j = 0 := by rw [e]; exact Nat.mul_mod_left _ _
 have hqk := hq k (by omega)
 rw [show k + j - k = j by omega, hNk, hNr, Nat.mul_zero] at hqk
 have hlow : clow r ((k + j : Nat) : Int) k = true := by
  unfold clow
  rw [decide_eq_true_iff, hqk.1, sh c k (by omega), show k + j - k = j by omega, ← e, ← hm, ← Nat.mul_one (fmag r)]
  exact rnd_own (by omega) hr
 have hnear : cnear r ((k + j : Nat) : Int) k = true := by
  unfold cnear
  rw [hqk.2, Nat.mul_zero, decide_eq_true (vV_pos _), Bool.true_or]
 refine ⟨((k + j : Nat) : Int), k, c, ⟨?_, ?_⟩, hk1, by omega, ?_, ?_, by rw [e, dL_trz hc, dL_last hc], by omega⟩
 ·unfold le10
  rw [show (((k + j : Nat) : Int) - 1).toNat = k + j - 1 by omega, show (-(((k + j : Nat) : Int) - 1)).toNat = 0 by omega, Nat.pow_zero, Nat.mul_one, hm, Nat.mul_comm N]
  exact Nat.mul_le_mul_left _ hl2
 ·unfold le10
  rw [show (((k + j : Nat) : Int)).toNat = k + j by omega, show (-(((k + j : Nat) : Int))).toNat = 0 by omega, Nat.pow_zero, Nat.mul_one, hm, Nat.mul_comm N]
  intro h
  have := Nat.le_of_mul_le_mul_left h big_pos
  omega
 ·intro i hi1 hi2
  rw [cnd_none]
  have hqi := (hq i (by omega)).1
  obtain ⟨d, hd⟩ : ∃ d, k + j - i = j + 1 + d := ⟨k - 1 - i, by omega⟩
  rw [hd] at hqi
  have hne : N % 10 ^ (j + 1 + d) ≠ 0 := by
   intro h
   have h1 : 10 ^ (j + 1) ∣ N := Nat.dvd_trans ⟨10 ^ d, by rw [Nat.pow_add]⟩ (Nat.dvd_of_mod_eq_zero h)
   obtain ⟨f, hf⟩ := h1
   rw [e, Nat.pow_succ, Nat.mul_comm c, Nat.mul_assoc] at hf
   have := Nat.eq_of_mul_eq_mul_left (ten_pos j) hf
   omega
  have hdm := Nat.div_add_mod N (10 ^ (j + 1 + d))
  have hml := Nat.mod_lt N (ten_pos (j + 1 + d))
  constructor
  ·unfold clow
   rw [decide_eq_false_iff_not, hqi, sh _ i (by omega), hd]
   have hW : N / 10 ^ (j + 1 + d) * 10 ^ (j + 1 + d) ≤ N - 1 := by
    rw [Nat.mul_comm]
    omega
   obtain ⟨f1, f2⟩ := fmag_fl (N := N - 1) (by omega) hK
   rw [← hbig] at f1
   refine rnd_below (s := fl (N - 1)) hr (fmag_lt.1 ?_) ?_
   ·rw [f1, hm]
    exact Nat.mul_lt_mul_of_pos_right (by omega) big_pos
   ·rw [f1]
    exact Nat.mul_le_mul_right _ hW
  ·unfold chigh
   rw [decide_eq_false_iff_not, hqi, sh _ i (by omega), hd]
   have hW : N + 1 ≤ (N / 10 ^ (j + 1 + d) + 1) * 10 ^ (j + 1 + d) := by
    rw [Nat.add_mul, Nat.one_mul, Nat.mul_comm]
    omega
   obtain ⟨s, hs⟩ : ∃ s, fmag s = (N + 1) * big := by
    rcases Nat.lt_or_ge (N + 1) 9007199254740992 with h | h
    ·exact rep_of (j := K) (by rw [hbig]) h
    ·have : N + 1 = 9007199254740992 := by omega
     rw [this]
     refine rep_of (M := 1) (j := 53 + K) ?_ (by omega)
     rw [hbig, Nat.pow_add, Nat.one_mul]
   refine rnd_above (s := s) hr (fmag_lt.1 ?_) ?_
   ·rw [hs, hm]
    exact Nat.mul_lt_mul_of_pos_right (by omega) big_pos
   ·rw [hs]
    exact Nat.mul_le_mul_right _ hW
 ·unfold cnd
  rw [hlow, hnear, hqk.1]
  simp

end Go.Proofs.YtfcpkdafkmohkaaGreatDoor
namespace Go.Proofs.YtfcpkdafkmohkaaGreatDoor
open Go.RowKit
set_option maxHeartbeats 1000000 in
theorem ldexp_down_n {M k D : Nat} (x u : Nat) (a1 : 4503599627370496 ≤ M) (a2 : M < 9007199254740992) (hx : x = k * 4503599627370496 + M) (h2 : x < 9218868437227405312) (hD : D ≤ k) (hu : u = (k - D) * 4503599627370496 + M) (w : World) :
  Cq 231 #[.float .f64 x, .int .i64 (-(D : Int))] (.float .f64 u) w := by
 have h1 : 4503599627370496 ≤ x := by omega
 obtain ⟨p1, p2, p3⟩ := pos_rung (x := x) (by omega)
 have C1 := Lib.hid (fun W => isNaN_any x W)
 have C2 := Lib.hid (fun W => isInf0_any x W (by omega))
 rw [show fnan x = false from by unfold fnan; rw [p1]; exact decide_eq_false (by omega)] at C1
 rw [show finf x = false from by unfold finf; rw [p1]; exact decide_eq_false (by omega)] at C2
 have C3 := Lib.hid (fun W => normalize_any x W h1 h2)
 have h3 := ord_zero x
 rw [p1, decide_eq_false (by omega)] at h3
 have h5 := f64bits_run x w
 have h6 := not_exp x (by omega)
 obtain ⟨t, ht2⟩ : ∃ t, M = 4503599627370496 + t := ⟨M - 4503599627370496, by omega⟩
 rw [show x % 4503599627370496 = t by omega] at h6
 have h7 := and_2047 (k + 1) (by omega)
 obtain ⟨Q, hQ⟩ : ∃ Q, k + 1 - D = Q := ⟨_, rfl⟩
 have h8 := or_exp t Q (by omega) (by omega)
 have e8 : t + Q * 4503599627370496 = u := by
  rw [hu, ht2, ← hQ, show k + 1 - D = (k - D) + 1 by omega]; omega
 rw [e8] at h8
 have h9 := f64from_run u w
 have h10 := one_mul (y := u) (by omega) (by omega)
 have h11 : (binOp BinOp.mul 22 (.float .f64 4607182418800017408) (.float .f64 u)).run Tryz.prog w = .ok (.float .f64 u) w := run_float_arith _ _ _ _ _ _ _ h10
 have k1 : (x : Int) / 4503599627370496 = ((k + 1 : Nat) : Int) := by omega
 have k2 : IntKind.i64.wrap ((k + 1 : Nat) : Int) = ((k + 1 : Nat) : Int) := IntWalk.i64_in _ (by omega)
 have k3 : IntKind.i64.wrap (((k + 1 : Nat) : Int) - 1023) = (k : Int) - 1022 := by rw [IntWalk.i64_in _ (by omega)]; omega
 obtain ⟨X0, hX0⟩ : ∃ X0, -(D : Int) = X0 := ⟨_, rfl⟩
 have k4 : IntKind.i64.wrap X0 = X0 := IntWalk.i64_in _ (by omega)
 have k4' : IntKind.i64.wrap (X0 + 0) = X0 := by rw [Int.add_zero]; exact k4
 have k5 : IntKind.i64.wrap (X0 + ((k : Int) - 1022)) = (Q : Int) - 1023 := by rw [IntWalk.i64_in _ (by omega)]; omega
 have k6 : IntKind.i64.wrap ((Q : Int) - 1023 + 1023) = (Q : Int) := by rw [IntWalk.i64_in _ (by omega)]; omega
 have k7 : IntKind.u64.wrap (Q : Int) = (Q : Int) := by rw [IntKind.wrap_u64]; omega
 have k8 : IntKind.u64.wrap ((Q : Int) * 4503599627370496) = ((Q * 4503599627370496 : Nat) : Int) := by rw [IntKind.wrap_u64]; omega
 have t1 : decide ((Q : Int) - 1023 < -1075) = false := decide_eq_false (by omega)
 have t2 : decide (1023 < (Q : Int) - 1023) = false := decide_eq_false (by omega)
 have t3 : decide ((Q : Int) - 1023 < -1022) = false := decide_eq_false (by omega)
 obtain ⟨q, hq⟩ : ∃ q, k + 1 = q := ⟨_, rfl⟩
 obtain ⟨X1, hX1⟩ : ∃ X1, (k : Int) - 1022 = X1 := ⟨_, rfl⟩
 obtain ⟨X3, hX3⟩ : ∃ X3, (Q : Int) - 1023 = X3 := ⟨_, rfl⟩
 rw [hq] at h7 k1 k2 k3
 rw [hX1] at k3 k5
 rw [hX3] at k5 k6 t1 t2 t3
 rw [hX0]
 rw [← k8] at h8
 clear h1 h2 hx a1 a2 hD hu p1 p2 p3 ht2 hQ e8 h10 k8 hq hX1 hX0 hX3
 go_enter Tryz.func231, Tryz.ntmps231
 go_wp2_with fail
 refine (C2.out _).mono ?_
 rintro e w' ⟨rfl, rfl⟩
 go_wp2_with fail
 refine (C1.out _).mono ?_
 rintro e w' ⟨rfl, rfl⟩
 go_wp2_with fail
 refine (C3.out _).mono ?_
 rintro e w' ⟨rfl, rfl⟩
 go_wp2
 go_ret
 exact ⟨rfl, rfl⟩
set_option maxHeartbeats 1000000 in
theorem ldexp_down_d {M k D : Nat} (x v r : Nat) (a1 : 4503599627370496 ≤ M) (a2 : M < 9007199254740992) (hx : x = k * 4503599627370496 + M) (h2 : x < 9218868437227405312) (hD : k < D) (hD2 : D ≤ k + 52) (hv : v = (k + 53 - D) * 4503599627370496 + M) (hr : Ieee.double.mul 4368491638549381120 v = some r) (w : World) :
  Cq 231 #[.float .f64 x, .int .i64 (-(D : Int))] (.float .f64 r) w := by
 have h1 : 4503599627370496 ≤ x := by omega
 obtain ⟨p1, p2, p3⟩ := pos_rung (x := x) (by omega)
 have C1 := Lib.hid (fun W => isNaN_any x W)
 have C2 := Lib.hid (fun W => isInf0_any x W (by omega))
 rw [show fnan x = false from by unfold fnan; rw [p1]; exact decide_eq_false (by omega)] at C1
 rw [show finf x = false from by unfold finf; rw [p1]; exact decide_eq_false (by omega)] at C2
 have C3 := Lib.hid (fun W => normalize_any x W h1 h2)
 have h3 := ord_zero x
 rw [p1, decide_eq_false (by omega)] at h3
 have h5 := f64bits_run x w
 have h6 := not_exp x (by omega)
 obtain ⟨t, ht2⟩ : ∃ t, M = 4503599627370496 + t := ⟨M - 4503599627370496, by omega⟩
 rw [show x % 4503599627370496 = t by omega] at h6
 have h7 := and_2047 (k + 1) (by omega)
 obtain ⟨Q, hQ⟩ : ∃ Q, k + 54 - D = Q := ⟨_, rfl⟩
 have h8 := or_exp t Q (by omega) (by omega)
 have e8 : t + Q * 4503599627370496 = v := by
  rw [hv, ht2, ← hQ, show k + 54 - D = (k + 53 - D) + 1 by omega]; omega
 rw [e8] at h8
 have h9 := f64from_run v w
 have h11 : (binOp BinOp.mul 22 (.float .f64 4368491638549381120) (.float .f64 v)).run Tryz.prog w = .ok (.float .f64 r) w := run_float_arith _ _ _ _ _ _ _ hr
 have k1 : (x : Int) / 4503599627370496 = ((k + 1 : Nat) : Int) := by omega
 have k2 : IntKind.i64.wrap ((k + 1 : Nat) : Int) = ((k + 1 : Nat) : Int) := IntWalk.i64_in _ (by omega)
 have k3 : IntKind.i64.wrap (((k + 1 : Nat) : Int) - 1023) = (k : Int) - 1022 := by rw [IntWalk.i64_in _ (by omega)]; omega
 obtain ⟨X0, hX0⟩ : ∃ X0, -(D : Int) = X0 := ⟨_, rfl⟩
 have k4 : IntKind.i64.wrap X0 = X0 := IntWalk.i64_in _ (by omega)
 have k4' : IntKind.i64.wrap (X0 + 0) = X0 := by rw [Int.add_zero]; exact k4
 have k5 : IntKind.i64.wrap (X0 + ((k : Int) - 1022)) = (Q : Int) - 1076 := by rw [IntWalk.i64_in _ (by omega)]; omega
 have k9 : IntKind.i64.wrap ((Q : Int) - 1076 + 53) = (Q : Int) - 1023 := by rw [IntWalk.i64_in _ (by omega)]; omega
 have k6 : IntKind.i64.wrap ((Q : Int) - 1023 + 1023) = (Q : Int) := by rw [IntWalk.i64_in _ (by omega)]; omega
 have k7 : IntKind.u64.wrap (Q : Int) = (Q : Int) := by rw [IntKind.wrap_u64]; omega
 have k8 : IntKind.u64.wrap ((Q : Int) * 4503599627370496) = ((Q * 4503599627370496 : Nat) : Int) := by rw [IntKind.wrap_u64]; omega
 have t1 : decide ((Q : Int) - 1076 < -1075) = false := decide_eq_false (by omega)
 have t2 : decide (1023 < (Q : Int) - 1076) = false := decide_eq_false (by omega)
 have t3 : decide ((Q : Int) - 1076 < -1022) = true := decide_eq_true (by omega)
 obtain ⟨q, hq⟩ : ∃ q, k + 1 = q := ⟨_, rfl⟩
 obtain ⟨X1, hX1⟩ : ∃ X1, (k : Int) - 1022 = X1 := ⟨_, rfl⟩
 obtain ⟨X3, hX3⟩ : ∃ X3, (Q : Int) - 1076 = X3 := ⟨_, rfl⟩
 obtain ⟨X4, hX4⟩ : ∃ X4, (Q : Int) - 1023 = X4 := ⟨_, rfl⟩
 rw [hq] at h7 k1 k2 k3
 rw [hX1] at k3 k5
 rw [hX3] at k5 k9 t1 t2 t3
 rw [hX4] at k9 k6
 rw [hX0]
 rw [← k8] at h8
 clear h1 h2 hx a1 a2 hD hD2 hv hr p1 p2 p3 ht2 hQ e8 k8 hq hX1 hX0 hX3 hX4
 go_enter Tryz.func231, Tryz.ntmps231
 go_wp2_with fail
 refine (C2.out _).mono ?_
 rintro e w' ⟨rfl, rfl⟩
 go_wp2_with fail
 refine (C1.out _).mono ?_
 rintro e w' ⟨rfl, rfl⟩
 go_wp2_with fail
 refine (C3.out _).mono ?_
 rintro e w' ⟨rfl, rfl⟩
 go_wp2
 go_ret
 exact ⟨rfl, rfl⟩
theorem ldexp_down {y D u : Nat} (h0 : 4503599627370496 ≤ y) (hy : y < 9218868437227405312) (hu0 : 0 < u) (h : fmag u * 2 ^ D = fmag y) (w : World) :
  Cq 231 #[.float .f64 y, .int .i64 (-(D : Int))] (.float .f64 u) w := by
 obtain ⟨M, k, a1, a2, a3, a4⟩ := fmag_split h0
 have hu1 := fmag_pos.2 hu0
 have huy : u ≤ y := by
  rcases Nat.lt_or_ge y u with h1 | h1
  ·have h2 := fmag_step h1
   have h3 : fmag u * 1 ≤ fmag u * 2 ^ D := Nat.mul_le_mul_left _ (Nat.two_pow_pos D)
   omega
  ·exact h1
 by_cases hDk : D ≤ k
 ·refine ldexp_down_n y u a1 a2 a3 hy hDk ?_ w
  refine fmag_inj ?_
  rw [fmag_make _ _ a1 a2]
  refine (pow_cancel (x := M) (a := k - D) (b := D) (y := fmag u) ?_).symm
  rw [show k - D + D = k by omega, ← a4, h]
 ·obtain ⟨j, rfl⟩ : ∃ j, D = k + j := ⟨D - k, by omega⟩
  have hM : fmag u * 2 ^ j = M := by
   refine pow_cancel (x := fmag u) (a := j) (b := k) (y := M) ?_
   rw [Nat.add_comm j k, h, a4]
  have hj : j < 53 := by
   have h3 : 1 * 2 ^ j ≤ fmag u * 2 ^ j := Nat.mul_le_mul_right _ hu1
   have h6 : 2 ^ j < 2 ^ 53 := by have : (2 : Nat) ^ 53 = 9007199254740992 := rfl; omega
   exact (Nat.pow_lt_pow_iff_right (a := 2) (by omega)).1 h6
  refine ldexp_down_d y ((k + 53 - (k + j)) * 4503599627370496 + M) u a1 a2 a3 hy (by omega) (by omega) rfl ?_ w
  obtain ⟨J, hJ⟩ : ∃ J : Nat, J = 969 := ⟨_, rfl⟩
  obtain ⟨L, hL⟩ : ∃ L : Nat, L = 1074 := ⟨_, rfl⟩
  have e1 := fmag_make 4503599627370496 J (by omega) (by omega)
  rw [show J * 4503599627370496 + 4503599627370496 = 4368491638549381120 by rw [hJ]] at e1
  refine mul_exact (K := L) (by omega) (by omega) (by omega) hL ?_
  rw [e1, fmag_make _ _ a1 a2, ← hM, show (4503599627370496 : Nat) = 2 ^ 52 from rfl, ← Nat.pow_add, Nat.mul_comm, Nat.mul_assoc, Nat.mul_assoc, ← Nat.pow_add, ← Nat.pow_add, show j + (k + 53 - (k + j) + (52 + J)) = L by omega]
theorem Ldexp_down {y D u : Nat} (h0 : 4503599627370496 ≤ y) (hy : y < 9218868437227405312) (hu0 : 0 < u) (h : fmag u * 2 ^ D = fmag y) (w : World) :
  Cq 206 #[.float .f64 y, .int .i64 (-(D : Int))] (.float .f64 u) w := by
 have C := Lib.hid (ldexp_down h0 hy hu0 h w)
 obtain ⟨X, hX⟩ : ∃ X, -(D : Int) = X := ⟨_, rfl⟩
 rw [hX] at C ⊢
 clear h0 hy hu0 h hX
 go_enter Tryz.func206, Tryz.ntmps206
 go_wp2_with fail
 refine C.out.mono ?_
 rintro e w' ⟨rfl, rfl⟩
 go_wp2
 go_ret
 exact ⟨rfl, rfl⟩
theorem Ldexp_fl {N u : Nat} {e : Int} (hN0 : 0 < N) (hN : N < 9007199254740992) (hu : u < 9218868437227405312) (he : -1074 ≤ e) (h : N * 2 ^ (e + 1074).toNat = fmag u) (w : World) :
  Cp 206 #[.float .f64 (fl N), .int .i64 e] w fun r w' => r = .returned (.float .f64 u) ∧ w = w' := by
 obtain ⟨K, hK⟩ : ∃ K : Nat, K = 1074 := ⟨_, rfl⟩
 obtain ⟨f1, f2⟩ := fmag_fl hN hK
 have f3 := (fl_pos hN0 (Nat.lt_trans hN (by decide))).1
 have hu0 : 0 < u := by
  refine fmag_pos.1 ?_
  rw [← h]
  exact Nat.mul_pos hN0 (Nat.two_pow_pos _)
 by_cases hs : 0 ≤ e
 ·obtain ⟨D, rfl⟩ : ∃ D : Nat, e = D := ⟨e.toNat, by omega⟩
  refine Ldexp_rep (by omega) f2 hu ?_ w
  rw [← h, f1, show ((D : Int) + 1074).toNat = K + D by omega, Nat.pow_add, Nat.mul_assoc]
 ·obtain ⟨D, rfl⟩ : ∃ D : Nat, e = -(D : Int) := ⟨(-e).toNat, by omega⟩
  refine Ldexp_down f3 f2 hu0 ?_ w
  rw [← h, f1, Nat.mul_assoc, ← Nat.pow_add, show (-(D : Int) + 1074).toNat + D = K by omega]

end Go.Proofs.YtfcpkdafkmohkaaGreatDoor
namespace Go.Proofs.YtfcpkdafkmohkaaGreatDoor
open Go.RowKit
set_option maxHeartbeats 1000000 in
theorem rnear_none (A : Option Addr) (n c : Nat) (ex : Int) (l : List Nat) (w : World) (hn : l.length = n) (hc : n ≤ c) (hm : n ≤ 35184372087808) (h : RW w w.heap.size A l) (hb : btl l = 0) :
  Ct 154 #[.slice A n c, .int .i64 ex] (.float .f64 0) w := by
 have C1 := Lib.hid (rbits_any A n c l w.heap.size w hn hc (by omega) h)
 rw [hb] at C1
 clear hn hc hm h hb
 go_enter Tryz.func154, Tryz.ntmps154
 go_wp2_with fail
 refine C1.out.mono ?_
 rintro e w' ⟨rfl, hbw⟩
 go_wp2
 go_ret
 exact ⟨rfl, hbw⟩
set_option maxRecDepth 100000 in
set_option maxHeartbeats 1000000 in
theorem rnear_in (A : Option Addr) (n c u0 : Nat) (ex : Int) (l : List Nat) (w : World) (hn : l.length = n) (hc : n ≤ c) (hm : n ≤ 35184372087808) (h : RW w w.heap.size A l) (hb : btl l ≤ 53) (hb0 : 0 < btl l) (he1 : -1074 ≤ ex) (he2 : ex ≤ 1023) (htop : (btl l : Int) + ex ≤ 1024) (hcut : ¬ (btl l : Int) - 53 + ex < -1074)
  (C3 : RowKit.Hid (∀ W, Cq 206 #[.float .f64 (fl (val l)), .int .i64 ex] (.float .f64 u0) W)) :
  Ct 154 #[.slice A n c, .int .i64 ex] (.float .f64 u0) w := by
 have C1 := Lib.hid (rbits_any A n c l w.heap.size w hn hc (by omega) h)
 have HWS := Lib.hid h.1
 have h0 : nrm l ≠ [] := by intro e; unfold btl at hb0; rw [if_pos e] at hb0; omega
 obtain ⟨b1, b2, b3⟩ := btl_bounds h.1 h0
 have hv53 : val l < 9007199254740992 := Nat.lt_of_lt_of_le b2 (Nat.le_trans (Nat.pow_le_pow_right (by omega) hb) (by decide))
 have C2 := Lib.hid (fun W (hW : Below w.heap.size w W) => (rnorm_any A n c l W.heap.size W hn hc (by omega) ((h.below hW).more hW.size)).mono (fun e w' x => SlPost.of h.1.nrm x))
 have hnl : (nrm l).length ≤ n := by have := nrm_len l; omega
 have HV : Hid (∀ k, val ((nrm l).drop k) < 9007199254740992) := Lib.hid (fun k => Nat.lt_of_le_of_lt (val_drop_le _ _) (by rw [val_nrm]; exact hv53))
 have HVN : Hid (val (nrm l) = val l) := Lib.hid (val_nrm l)
 obtain ⟨u, hu⟩ : ∃ u, fl (val l) = u := ⟨_, rfl⟩
 rw [hu] at C3
 have HU := Lib.hid hu
 obtain ⟨L, hL⟩ : ∃ L, nrm l = L := ⟨_, rfl⟩
 rw [hL] at C2 HV HVN hnl
 obtain ⟨N, hN⟩ : ∃ N, L.length = N := ⟨_, rfl⟩
 rw [hN] at hnl
 have HN := Lib.hid hN
 obtain ⟨m, hm2⟩ : ∃ m, btl l = m := ⟨_, rfl⟩
 rw [hm2] at C1 hb hb0 htop hcut
 have t0 : ((m : Int) == 0) = false := by rw [beq_eq_false_iff_ne]; omega
 have k1 : IntKind.i64.wrap ((m : Int)) = (m : Int) := IntWalk.i64_in _ (by omega)
 obtain ⟨X1, hX1⟩ : ∃ X1, (m : Int) + ex = X1 := ⟨_, rfl⟩
 obtain ⟨X2, hX2⟩ : ∃ X2, (m : Int) - 53 = X2 := ⟨_, rfl⟩
 obtain ⟨X3, hX3⟩ : ∃ X3, -1074 - ex = X3 := ⟨_, rfl⟩
 obtain ⟨X4, hX4⟩ : ∃ X4, X2 + ex = X4 := ⟨_, rfl⟩
 have k2 : IntKind.i64.wrap ((m : Int) + ex) = X1 := by rw [IntWalk.i64_in _ (by omega)]; exact hX1
 have k3 : IntKind.i64.wrap ((m : Int) - 53) = X2 := by rw [IntWalk.i64_in _ (by omega)]; exact hX2
 have k4 : IntKind.i64.wrap (X2 + ex) = X4 := by rw [IntWalk.i64_in _ (by omega)]; exact hX4
 have k5 : IntKind.i64.wrap (-1074 - ex) = X3 := by rw [IntWalk.i64_in _ (by omega)]; exact hX3
 have t1 : decide ((1024 : Int) < X1) = false := decide_eq_false (by omega)
 have t2 : decide (X4 < -1074) = false := decide_eq_false (by omega)
 have t3 : decide (X2 ≤ 0) = true := decide_eq_true (by omega)
 have t4 : X3 ≤ 0 := by omega
 have hnm : N ≤ 35184372087808 := by omega
 clear hn hc hm h hm2 hb hb0 h0 b1 b2 b3 hv53 hu hL hN hnl HWS he1 he2 htop hX1 hX2 hX3 hX4 hcut
 go_enter Tryz.func154, Tryz.ntmps154
 go_wp2_with fail
 refine C1.out.mono ?_
 rintro e w1 ⟨rfl, hbw⟩
 go_wp2_with fail
 refine (C2.out _ hbw).mono ?_
 rintro e w2 ⟨v2, rfl, ⟨A2, c2, rfl, hc2, r2⟩, hb2⟩
 rw [HN.out] at hc2 ⊢
 have HB := Lib.hid (below_le hbw hb2)
 have HR := Lib.hid r2
 have HC2 := Lib.hid hc2
 clear r2 hb2 hbw hc2
 go_wp2
 go_loopw [7, 9] (fun fv iv wr => ∃ (k : Nat), iv = .int .i64 ((k : Int) - 1) ∧ k ≤ N ∧ fv = .float .f64 (fl (val (L.drop k))) ∧ w2 = wr) (fun _ iv _ => (intOf iv + 1).toNat)
 case atStart => exact ⟨N, rfl, Nat.le_refl _, by rw [← HN.out, List.drop_length]; exact congrArg (Value.float .f64) fl_zero.symm, rfl⟩
 case round =>
  obtain ⟨k, rfl, hk, rfl, rfl⟩ := hrel
  by_cases hk0 : k = 0
  ·subst hk0
   have e : fl (val (L.drop 0)) = u := by rw [List.drop_zero, HVN.out]; exact HU.out
   rw [e]
   clear e hk C2 C1
   go_wp2_with fail
   refine (C3.out _).mono ?_
   rintro e w' ⟨rfl, rfl⟩
   go_wp2
   go_ret
   exact ⟨rfl, HB.out⟩
  ·obtain ⟨j, rfl⟩ : ∃ j, k = j + 1 := ⟨k - 1, by omega⟩
   rw [show (((j + 1 : Nat) : Int) - 1) = (j : Int) by omega]
   obtain ⟨ab, ao, rfl, hab, hca⟩ := HR.out.2 (by have := HN.out; omega)
   have hcl := hca j _ (getD_some (by have := HN.out; omega))
   have hyl := HR.out.1.getD j
   have hnx := val_drop_next (l := L) (k := j) (by have := HN.out; omega)
   have hv1 := HV.out j
   have hv2 := HV.out (j + 1)
   obtain ⟨y, hy⟩ : ∃ y, L.getD j 0 = y := ⟨_, rfl⟩
   rw [hy] at hcl hyl hnx
   have HNX := Lib.hid (show fl (val (L.drop j)) = fl (val (L.drop (j + 1)) * 4294967296 + y) by rw [hnx]; congr 1; omega)
   obtain ⟨x, hx⟩ : ∃ x, val (L.drop (j + 1)) = x := ⟨_, rfl⟩
   rw [hx] at hnx hv2 HNX ⊢
   have e32 : fl 4294967296 = 4751297606875873280 := by
    rw [fl_low (N := 4294967296) (L := 32) (by decide) (by decide) (by decide)]
   have hmul : (binOp BinOp.mul 22 (.float .f64 (fl x)) (.float .f64 4751297606875873280)).run Tryz.prog w2 = .ok (.float .f64 (fl (x * 4294967296))) w2 := run_float_arith _ _ _ _ _ _ _ (by
    have := fl_mul (a := x) (b := 4294967296) (by omega) (by omega) (by omega)
    rw [e32] at this
    exact this)
   have hadd : (binOp BinOp.add 22 (.float .f64 (fl (x * 4294967296))) (.float .f64 (floatOfInt FloatKind.f64 (y : Int)))).run Tryz.prog w2 = .ok (.float .f64 (fl (x * 4294967296 + y))) w2 := run_float_arith _ _ _ _ _ _ _ (fl_add (a := x * 4294967296) (b := y) (by omega) (by omega) (by omega))
   have hjn : (j : Int) < (N : Int) := by omega
   have HJ := Lib.hid hk
   clear hk hk0 hab hca hyl hnx hv1 hv2 hy hx e32 C1 C2 C3
   go_wp2
   go_roundw
   case rel => exact ⟨j, by go_num, by have := HJ.out; omega, by rw [HNX.out], trivial⟩
   case measure => simp [intOf]
set_option maxRecDepth 100000 in
set_option maxHeartbeats 1000000 in
theorem rnear_under (A : Option Addr) (n c u0 : Nat) (ex : Int) (l : List Nat) (w : World) (hn : l.length = n) (hc : n ≤ c) (hm : n ≤ 35184372087808) (h : RW w w.heap.size A l) (hb : btl l ≤ 53) (hb0 : 0 < btl l) (he1 : -1074 ≤ ex) (he2 : ex ≤ 1023) (hcut : (btl l : Int) - 53 + ex < -1074)
  (C3 : RowKit.Hid (∀ W, Cq 206 #[.float .f64 (fl (val l)), .int .i64 ex] (.float .f64 u0) W)) :
  Ct 154 #[.slice A n c, .int .i64 ex] (.float .f64 u0) w := by
 have C1 := Lib.hid (rbits_any A n c l w.heap.size w hn hc (by omega) h)
 have HWS := Lib.hid h.1
 have h0 : nrm l ≠ [] := by intro e; unfold btl at hb0; rw [if_pos e] at hb0; omega
 obtain ⟨b1, b2, b3⟩ := btl_bounds h.1 h0
 have hv53 : val l < 9007199254740992 := Nat.lt_of_lt_of_le b2 (Nat.le_trans (Nat.pow_le_pow_right (by omega) hb) (by decide))
 have C2 := Lib.hid (fun W (hW : Below w.heap.size w W) => (rnorm_any A n c l W.heap.size W hn hc (by omega) ((h.below hW).more hW.size)).mono (fun e w' x => SlPost.of h.1.nrm x))
 have hnl : (nrm l).length ≤ n := by have := nrm_len l; omega
 have HV : Hid (∀ k, val ((nrm l).drop k) < 9007199254740992) := Lib.hid (fun k => Nat.lt_of_le_of_lt (val_drop_le _ _) (by rw [val_nrm]; exact hv53))
 have HVN : Hid (val (nrm l) = val l) := Lib.hid (val_nrm l)
 obtain ⟨u, hu⟩ : ∃ u, fl (val l) = u := ⟨_, rfl⟩
 rw [hu] at C3
 have HU := Lib.hid hu
 obtain ⟨L, hL⟩ : ∃ L, nrm l = L := ⟨_, rfl⟩
 rw [hL] at C2 HV HVN hnl
 obtain ⟨N, hN⟩ : ∃ N, L.length = N := ⟨_, rfl⟩
 rw [hN] at hnl
 have HN := Lib.hid hN
 obtain ⟨m, hm2⟩ : ∃ m, btl l = m := ⟨_, rfl⟩
 rw [hm2] at C1 hb hb0 hcut
 have t0 : ((m : Int) == 0) = false := by rw [beq_eq_false_iff_ne]; omega
 have k1 : IntKind.i64.wrap ((m : Int)) = (m : Int) := IntWalk.i64_in _ (by omega)
 obtain ⟨X1, hX1⟩ : ∃ X1, (m : Int) + ex = X1 := ⟨_, rfl⟩
 obtain ⟨X2, hX2⟩ : ∃ X2, (m : Int) - 53 = X2 := ⟨_, rfl⟩
 obtain ⟨X3, hX3⟩ : ∃ X3, -1074 - ex = X3 := ⟨_, rfl⟩
 obtain ⟨X4, hX4⟩ : ∃ X4, X2 + ex = X4 := ⟨_, rfl⟩
 have k2 : IntKind.i64.wrap ((m : Int) + ex) = X1 := by rw [IntWalk.i64_in _ (by omega)]; exact hX1
 have k3 : IntKind.i64.wrap ((m : Int) - 53) = X2 := by rw [IntWalk.i64_in _ (by omega)]; exact hX2
 have k4 : IntKind.i64.wrap (X2 + ex) = X4 := by rw [IntWalk.i64_in _ (by omega)]; exact hX4
 have k5 : IntKind.i64.wrap (-1074 - ex) = X3 := by rw [IntWalk.i64_in _ (by omega)]; exact hX3
 have t1 : decide ((1024 : Int) < X1) = false := decide_eq_false (by omega)
 have t2 : decide (X4 < -1074) = true := decide_eq_true (by omega)
 have t3 : X2 ≤ 0 := by omega
 have t4 : decide (X3 ≤ 0) = true := decide_eq_true (by omega)
 have hnm : N ≤ 35184372087808 := by omega
 clear hn hc hm h hm2 hb hb0 h0 b1 b2 b3 hv53 hu hL hN hnl HWS he1 he2 hX1 hX2 hX3 hX4 hcut
 go_enter Tryz.func154, Tryz.ntmps154
 go_wp2_with fail
 refine C1.out.mono ?_
 rintro e w1 ⟨rfl, hbw⟩
 go_wp2_with fail
 refine (C2.out _ hbw).mono ?_
 rintro e w2 ⟨v2, rfl, ⟨A2, c2, rfl, hc2, r2⟩, hb2⟩
 rw [HN.out] at hc2 ⊢
 have HB := Lib.hid (below_le hbw hb2)
 have HR := Lib.hid r2
 have HC2 := Lib.hid hc2
 clear r2 hb2 hbw hc2
 go_wp2
 go_loopw [7, 9] (fun fv iv wr => ∃ (k : Nat), iv = .int .i64 ((k : Int) - 1) ∧ k ≤ N ∧ fv = .float .f64 (fl (val (L.drop k))) ∧ w2 = wr) (fun _ iv _ => (intOf iv + 1).toNat)
 case atStart => exact ⟨N, rfl, Nat.le_refl _, by rw [← HN.out, List.drop_length]; exact congrArg (Value.float .f64) fl_zero.symm, rfl⟩
 case round =>
  obtain ⟨k, rfl, hk, rfl, rfl⟩ := hrel
  by_cases hk0 : k = 0
  ·subst hk0
   have e : fl (val (L.drop 0)) = u := by rw [List.drop_zero, HVN.out]; exact HU.out
   rw [e]
   clear e hk C2 C1
   go_wp2_with fail
   refine (C3.out _).mono ?_
   rintro e w' ⟨rfl, rfl⟩
   go_wp2
   go_ret
   exact ⟨rfl, HB.out⟩
  ·obtain ⟨j, rfl⟩ : ∃ j, k = j + 1 := ⟨k - 1, by omega⟩
   rw [show (((j + 1 : Nat) : Int) - 1) = (j : Int) by omega]
   obtain ⟨ab, ao, rfl, hab, hca⟩ := HR.out.2 (by have := HN.out; omega)
   have hcl := hca j _ (getD_some (by have := HN.out; omega))
   have hyl := HR.out.1.getD j
   have hnx := val_drop_next (l := L) (k := j) (by have := HN.out; omega)
   have hv1 := HV.out j
   have hv2 := HV.out (j + 1)
   obtain ⟨y, hy⟩ : ∃ y, L.getD j 0 = y := ⟨_, rfl⟩
   rw [hy] at hcl hyl hnx
   have HNX := Lib.hid (show fl (val (L.drop j)) = fl (val (L.drop (j + 1)) * 4294967296 + y) by rw [hnx]; congr 1; omega)
   obtain ⟨x, hx⟩ : ∃ x, val (L.drop (j + 1)) = x := ⟨_, rfl⟩
   rw [hx] at hnx hv2 HNX ⊢
   have e32 : fl 4294967296 = 4751297606875873280 := by
    rw [fl_low (N := 4294967296) (L := 32) (by decide) (by decide) (by decide)]
   have hmul : (binOp BinOp.mul 22 (.float .f64 (fl x)) (.float .f64 4751297606875873280)).run Tryz.prog w2 = .ok (.float .f64 (fl (x * 4294967296))) w2 := run_float_arith _ _ _ _ _ _ _ (by
    have := fl_mul (a := x) (b := 4294967296) (by omega) (by omega) (by omega)
    rw [e32] at this
    exact this)
   have hadd : (binOp BinOp.add 22 (.float .f64 (fl (x * 4294967296))) (.float .f64 (floatOfInt FloatKind.f64 (y : Int)))).run Tryz.prog w2 = .ok (.float .f64 (fl (x * 4294967296 + y))) w2 := run_float_arith _ _ _ _ _ _ _ (fl_add (a := x * 4294967296) (b := y) (by omega) (by omega) (by omega))
   have hjn : (j : Int) < (N : Int) := by omega
   have HJ := Lib.hid hk
   clear hk hk0 hab hca hyl hnx hv1 hv2 hy hx e32 C1 C2 C3
   go_wp2
   go_roundw
   case rel => exact ⟨j, by go_num, by have := HJ.out; omega, by rw [HNX.out], trivial⟩
   case measure => simp [intOf]
theorem rnear_ex (A : Option Addr) (n c u : Nat) (ex : Int) (l : List Nat) (w : World) (hn : l.length = n) (hc : n ≤ c) (hm : n ≤ 35184372087808) (h : RW w w.heap.size A l) (hv : val l < 9007199254740992) (he1 : -1074 ≤ ex) (he2 : ex ≤ 1023) (hu : u < 9218868437227405312) (hfu : val l * 2 ^ (ex + 1074).toNat = fmag u) :
  Ct 154 #[.slice A n c, .int .i64 ex] (.float .f64 u) w := by
 by_cases h0 : btl l = 0
 ·have h1 : val l = 0 := by
   rw [← val_nrm l, (btl_zero h.1).1 h0]; rfl
  have h2 : u = 0 := by
   rw [h1, Nat.zero_mul] at hfu
   rcases Nat.eq_zero_or_pos u with h3 | h3
   ·exact h3
   ·have := fmag_pos.2 h3; omega
  rw [h2]
  exact rnear_none A n c ex l w hn hc hm h h0
 ·obtain ⟨b1, b2, b3⟩ := btl_bounds h.1 (fun e => h0 ((btl_zero h.1).2 e))
  have hv0 : 0 < val l := Nat.lt_of_lt_of_le (Nat.two_pow_pos _) b1
  have hb : btl l ≤ 53 := by
   have h6 : 2 ^ (btl l - 1) < 2 ^ 53 := by have : (2 : Nat) ^ 53 = 9007199254740992 := rfl; omega
   have := (Nat.pow_lt_pow_iff_right (a := 2) (by omega)).1 h6
   omega
  have htop : (btl l : Int) + ex ≤ 1024 := by
   obtain ⟨K, hK⟩ : ∃ K : Nat, K = 2098 := ⟨_, rfl⟩
   have h1 := fmag_inf hu K hK
   rw [← hfu] at h1
   have h2 : 2 ^ (btl l - 1) * 2 ^ (ex + 1074).toNat ≤ val l * 2 ^ (ex + 1074).toNat := Nat.mul_le_mul_right _ b1
   rw [← Nat.pow_add] at h2
   have := (Nat.pow_lt_pow_iff_right (a := 2) (by omega)).1 (Nat.lt_of_le_of_lt h2 h1)
   omega
  have C3 := Lib.hid (fun W => Ldexp_fl hv0 hv hu he1 hfu W)
  by_cases hcut : (btl l : Int) - 53 + ex < -1074
  ·exact rnear_under A n c u ex l w hn hc hm h hb (by omega) he1 he2 hcut C3
  ·exact rnear_in A n c u ex l w hn hc hm h hb (by omega) he1 he2 htop hcut C3

end Go.Proofs.YtfcpkdafkmohkaaGreatDoor
namespace Go.Proofs.YtfcpkdafkmohkaaGreatDoor
open Go.RowKit
set_option maxRecDepth 100000 in
set_option maxHeartbeats 2000000 in
theorem rnear_round (A : Option Addr) (n c d u : Nat) (ex : Int) (l : List Nat) (w : World) (hn : l.length = n) (hc : n ≤ c) (hm : n ≤ 35184372087808) (h : RW w w.heap.size A l) (hb : btl l = 54 + d) (hd : d ≤ 32768) (he2 : (d : Int) + ex ≤ 970) (he3 : -1075 ≤ (d : Int) + ex)
  (C5 : RowKit.Hid (∀ W, Cq 206 #[.float .f64 (fl (evn (val l) (d + 1))), .int .i64 (ex + (((54 + d : Nat) : Int) - 53))] (.float .f64 u) W)) :
  Ct 154 #[.slice A n c, .int .i64 ex] (.float .f64 u) w := by
 have C1 := Lib.hid (rbits_any A n c l w.heap.size w hn hc (by omega) h)
 have h0 : nrm l ≠ [] := by intro e; unfold btl at hb; rw [if_pos e] at hb; omega
 obtain ⟨b1, b2, b3⟩ := btl_bounds h.1 h0
 rw [hb] at C1 b1 b2
 have C2 := Lib.hid (fun W (hW : Below w.heap.size w W) => rshr_any A n c (((54 + d : Nat) : Int) - 53) l W hn hc hm ((h.below hW).more hW.size))
 have C3 := Lib.hid (fun W (hW : Below w.heap.size w W) => rshr_any A n c (((54 + d : Nat) : Int) - 53 - 1) l W hn hc hm ((h.below hW).more hW.size))
 rw [show (((54 + d : Nat) : Int) - 53).toNat = d + 1 by omega] at C2
 rw [show (((54 + d : Nat) : Int) - 53 - 1).toNat = d by omega] at C3
 obtain ⟨v, hv⟩ : ∃ v, val l = v := ⟨_, rfl⟩
 rw [hv] at C2 C3 C5 b1 b2
 have a1 : 2 ^ (52 + (d + 1)) ≤ v := by rw [show 52 + (d + 1) = 54 + d - 1 by omega]; exact b1
 have a2 : v < 2 ^ (52 + (d + 1) + 1) := by rw [show 52 + (d + 1) + 1 = 54 + d by omega]; exact b2
 obtain ⟨r1, r2⟩ := evn_range a1 a2 (by omega)
 rw [show 52 + (d + 1) - 52 = d + 1 by omega] at r1 r2
 have hq1 : 4503599627370496 ≤ v / 2 ^ (d + 1) := by
  rw [Nat.le_div_iff_mul_le (Nat.two_pow_pos _), show 4503599627370496 = 2 ^ 52 from rfl, ← Nat.pow_add]; exact a1
 have hpq : v / 2 ^ (d + 1) = v / 2 ^ d / 2 := by rw [Nat.pow_succ, Nat.div_div_eq_div_mul]
 have hev := evn_half v d
 obtain ⟨E, hE⟩ : ∃ E, evn v (d + 1) = E := ⟨_, rfl⟩
 rw [hE] at C5 r1 r2 hev
 have hPl : v / 2 ^ d < 18446744073709551616 := by
  have : v / 2 ^ d < 2 ^ 54 := by rw [Nat.div_lt_iff_lt_mul (Nat.two_pow_pos _), ← Nat.pow_add]; exact b2
  exact Nat.lt_trans this (by decide)
 obtain ⟨m, hm2⟩ : ∃ m, 54 + d = m := ⟨_, rfl⟩
 rw [hm2] at C1 C2 C3 C5
 have hm3 : 53 < (m : Int) ∧ (m : Int) + ex ≤ 1024 ∧ (m : Int) ≤ 33000 ∧ -1074 ≤ (m : Int) - 53 + ex := by omega
 obtain ⟨m1, m2, m3, m4⟩ := hm3
 obtain ⟨X1, hX1⟩ : ∃ X1, (m : Int) + ex = X1 := ⟨_, rfl⟩
 obtain ⟨X4, hX4⟩ : ∃ X4, (m : Int) - 53 + ex = X4 := ⟨_, rfl⟩
 obtain ⟨X7, hX7⟩ : ∃ X7, ex + ((m : Int) - 53) = X7 := ⟨_, rfl⟩
 rw [hX7] at C5
 have t0 : ((m : Int) == 0) = false := by rw [beq_eq_false_iff_ne]; omega
 have t1 : decide ((1024 : Int) < X1) = false := decide_eq_false (by omega)
 have k1 : IntKind.i64.wrap ((m : Int)) = (m : Int) := IntWalk.i64_in _ (by omega)
 have k2 : IntKind.i64.wrap ((m : Int) + ex) = X1 := by rw [IntWalk.i64_in _ (by omega)]; exact hX1
 have k3 : IntKind.i64.wrap ((m : Int) - 53) = (m : Int) - 53 := IntWalk.i64_in _ (by omega)
 have k4 : IntKind.i64.wrap ((m : Int) - 53 + ex) = X4 := by rw [IntWalk.i64_in _ (by omega)]; exact hX4
 have k5 : IntKind.i64.wrap ((m : Int) + 1) = (m : Int) + 1 := IntWalk.i64_in _ (by omega)
 have k6 : IntKind.i64.wrap ((m : Int) - 53 - 1) = (m : Int) - 53 - 1 := IntWalk.i64_in _ (by omega)
 have k7 : IntKind.i64.wrap (ex + ((m : Int) - 53)) = X7 := by rw [IntWalk.i64_in _ (by omega)]; exact hX7
 have t2 : decide (X4 < -1074) = false := decide_eq_false (by omega)
 have t3 : decide ((m : Int) - 53 ≤ 0) = false := decide_eq_false (by omega)
 have t4 : decide ((m : Int) + 1 < (m : Int) - 53) = false := decide_eq_false (by omega)
 have HEV := Lib.hid hev
 have HR1 := Lib.hid r1
 have HR2 := Lib.hid r2
 clear hn hc hm h hb hd h0 b1 b2 b3 hv a1 a2 hE hev r1 r2 hm2 he2 he3 hX1 hX4 hX7
 unfold ShrQ at C2 C3
 obtain ⟨mo, hmo⟩ : ∃ mo, decide (v % 2 ^ d ≠ 0) = mo := ⟨_, rfl⟩
 obtain ⟨mq, hmq⟩ : ∃ mq, decide (v % 2 ^ (d + 1) ≠ 0) = mq := ⟨_, rfl⟩
 obtain ⟨Q, hQ⟩ : ∃ Q, v / 2 ^ (d + 1) = Q := ⟨_, rfl⟩
 obtain ⟨P, hP⟩ : ∃ P, v / 2 ^ d = P := ⟨_, rfl⟩
 rw [hmq, hQ] at C2
 rw [hmo, hP] at C3
 rw [hmo, hQ, hP] at HEV
 rw [hQ] at hq1 hpq
 rw [hP] at hpq hPl
 clear hmo hmq hQ hP
 obtain ⟨NQ, hNQ⟩ : ∃ NQ, (wds Q).length = NQ := ⟨_, rfl⟩
 obtain ⟨NP, hNP⟩ : ∃ NP, (wds P).length = NP := ⟨_, rfl⟩
 have hNQ0 : 0 < NQ := by rw [← hNQ]; exact wds_pos (by omega)
 have hNP0 : 0 < NP := by rw [← hNP]; exact wds_pos (by omega)
 have hNQ2 : NQ ≤ 2 := by
  have := nrm_len (two Q)
  rw [two_wds' Q (by omega), hNQ] at this
  exact this
 have g1 := get_zero (wds_ws Q)
 have g2 := get_zero (wds_ws P)
 rw [wds_val] at g1 g2
 have o1 := and_one32 (Q % 4294967296) (by omega)
 have o2 := and_one32 (P % 4294967296) (by omega)
 rw [show Q % 4294967296 % 2 = Q % 2 by omega] at o1
 rw [show P % 4294967296 % 2 = P % 2 by omega] at o2
 obtain ⟨x, hx⟩ : ∃ x, Q % 4294967296 = x := ⟨_, rfl⟩
 obtain ⟨y, hy⟩ : ∃ y, P % 4294967296 = y := ⟨_, rfl⟩
 rw [hx] at g1 o1
 rw [hy] at g2 o2
 have HNQ := Lib.hid hNQ
 have HNP := Lib.hid hNP
 have HNQ2 := Lib.hid hNQ2
 have HQ1 := Lib.hid hq1
 have HPQ := Lib.hid hpq
 have HPL := Lib.hid hPl
 have n1 : decide ((0 : Int) < (NQ : Int)) = true := decide_eq_true (by omega)
 have n2 : decide ((0 : Int) < (NP : Int)) = true := decide_eq_true (by omega)
 have n3 : (0 : Int) < (NQ : Int) := by omega
 have n4 : (0 : Int) < (NP : Int) := by omega
 clear hx hy hNQ hNP hNQ2 hq1 hpq hPl m1 m2 m3 m4
 go_enter Tryz.func154, Tryz.ntmps154
 go_wp2_with fail
 refine C1.out.mono ?_
 rintro e w1 ⟨rfl, hb1⟩
 go_wp2_with fail
 refine (C2.out _ hb1).mono ?_
 rintro e w2 ⟨A2, N2, c2, rfl, rfl, hc2, q2, hb2⟩
 rw [HNQ.out] at hc2 ⊢
 have hb12 := below_le hb1 hb2
 have HC2 := Lib.hid hc2
 clear hc2
 go_wp2_with fail
 refine (C3.out _ hb12).mono ?_
 rintro e w3 ⟨A3, N3, c3, rfl, rfl, hc3, p3, hb3⟩
 rw [HNP.out] at hc3 ⊢
 have HC3 := Lib.hid hc3
 have hb13 := below_le hb12 hb3
 have q3 := q2.step hb3
 have HB := Lib.hid hb13
 have HQ3 := Lib.hid q3
 obtain ⟨ab, ao, rfl, _, hca⟩ := q3.2 (by rw [HNQ.out]; exact hNQ0)
 obtain ⟨pb, po, rfl, _, hcb⟩ := p3.2 (by rw [HNP.out]; exact hNP0)
 have l1 := hca 0 _ (getD_some (by rw [HNQ.out]; exact hNQ0))
 have l2 := hcb 0 _ (getD_some (by rw [HNP.out]; exact hNP0))
 rw [g1, Nat.add_zero] at l1
 rw [g2, Nat.add_zero] at l2
 clear g1 g2 hca hcb q2 q3 p3 hb1 hb2 hb3 hb12 hb13 hc3 C1 C2 C3 hNQ0 hNP0
 cases hpo : decide (P % 2 = 1)
 ·have hp0 : P % 2 = 0 := by have := of_decide_eq_false hpo; omega
  rw [hp0] at o2
  have HE : Hid (E = Q) := Lib.hid (by rw [HEV.out, hpo]; rfl)
  clear hpo hp0 o1
  obtain rfl : Q = E := HE.out.symm
  go_wp2_with fail
  have K1 := Lib.hid (show Cp 164 #[.slice (some ⟨ab, ao, none⟩) NQ c2, .int .i64 1] w3 fun e w' => e = .returned (.int .u64 (Q / 4294967296 : Nat)) ∧ w3 = w' from by
   have := rword_any (some ⟨ab, ao, none⟩) NQ c2 1 (wds (Q)) w3.heap.size w3 HNQ.out (by have := HNQ2.out; omega) HQ3.out
   rw [get_one (wds_ws _), wds_val, Nat.mod_eq_of_lt (by have := HR2.out; omega)] at this
   exact this)
  have K0 := Lib.hid (show Cp 164 #[.slice (some ⟨ab, ao, none⟩) NQ c2, .int .i64 0] w3 fun e w' => e = .returned (.int .u64 ((Q) % 4294967296 : Nat)) ∧ w3 = w' from by
   have := rword_any (some ⟨ab, ao, none⟩) NQ c2 0 (wds (Q)) w3.heap.size w3 HNQ.out (by have := HNQ2.out; omega) HQ3.out
   rw [get_zero (wds_ws _), wds_val] at this
   exact this)
  have hj := join64 ((Q) / 4294967296) ((Q) % 4294967296) (by have := HR2.out; omega) (by omega)
  rw [show (Q) % 4294967296 + (Q) / 4294967296 * 4294967296 = Q by omega] at hj
  obtain ⟨yy, hyy⟩ : ∃ yy, (Q) / 4294967296 = yy := ⟨_, rfl⟩
  obtain ⟨zz, hzz⟩ : ∃ zz, (Q) % 4294967296 = zz := ⟨_, rfl⟩
  rw [hyy] at K1 hj
  rw [hzz] at K0 hj
  obtain ⟨e9, he9⟩ : ∃ e9, Q = e9 := ⟨_, rfl⟩
  rw [he9] at hj C5
  clear hyy hzz he9
  refine K1.out.mono ?_
  rintro e w' ⟨rfl, rfl⟩
  go_wp2_with fail
  refine K0.out.mono ?_
  rintro e w' ⟨rfl, rfl⟩
  go_wp2_with fail
  refine (C5.out _).mono ?_
  rintro e w' ⟨rfl, rfl⟩
  go_wp2
  go_ret
  exact ⟨rfl, HB.out⟩
 ·have hp1 : P % 2 = 1 := of_decide_eq_true hpo
  rw [hp1] at o2
  cases mo
  ·cases hqo : decide (Q % 2 = 1)
   ·have hq0 : Q % 2 = 0 := by have := of_decide_eq_false hqo; omega
    rw [hq0] at o1
    have HE : Hid (E = Q) := Lib.hid (by rw [HEV.out, hpo, hqo]; rfl)
    clear hpo hp1 hqo hq0
    obtain rfl : Q = E := HE.out.symm
    go_wp2_with fail
    have K1 := Lib.hid (show Cp 164 #[.slice (some ⟨ab, ao, none⟩) NQ c2, .int .i64 1] w3 fun e w' => e = .returned (.int .u64 (Q / 4294967296 : Nat)) ∧ w3 = w' from by
     have := rword_any (some ⟨ab, ao, none⟩) NQ c2 1 (wds (Q)) w3.heap.size w3 HNQ.out (by have := HNQ2.out; omega) HQ3.out
     rw [get_one (wds_ws _), wds_val, Nat.mod_eq_of_lt (by have := HR2.out; omega)] at this
     exact this)
    have K0 := Lib.hid (show Cp 164 #[.slice (some ⟨ab, ao, none⟩) NQ c2, .int .i64 0] w3 fun e w' => e = .returned (.int .u64 ((Q) % 4294967296 : Nat)) ∧ w3 = w' from by
     have := rword_any (some ⟨ab, ao, none⟩) NQ c2 0 (wds (Q)) w3.heap.size w3 HNQ.out (by have := HNQ2.out; omega) HQ3.out
     rw [get_zero (wds_ws _), wds_val] at this
     exact this)
    have hj := join64 ((Q) / 4294967296) ((Q) % 4294967296) (by have := HR2.out; omega) (by omega)
    rw [show (Q) % 4294967296 + (Q) / 4294967296 * 4294967296 = Q by omega] at hj
    obtain ⟨yy, hyy⟩ : ∃ yy, (Q) / 4294967296 = yy := ⟨_, rfl⟩
    obtain ⟨zz, hzz⟩ : ∃ zz, (Q) % 4294967296 = zz := ⟨_, rfl⟩
    rw [hyy] at K1 hj
    rw [hzz] at K0 hj
    obtain ⟨e9, he9⟩ : ∃ e9, Q = e9 := ⟨_, rfl⟩
    rw [he9] at hj C5
    clear hyy hzz he9
    refine K1.out.mono ?_
    rintro e w' ⟨rfl, rfl⟩
    go_wp2_with fail
    refine K0.out.mono ?_
    rintro e w' ⟨rfl, rfl⟩
    go_wp2_with fail
    refine (C5.out _).mono ?_
    rintro e w' ⟨rfl, rfl⟩
    go_wp2
    go_ret
    exact ⟨rfl, HB.out⟩
   ·have hq0 : Q % 2 = 1 := of_decide_eq_true hqo
    rw [hq0] at o1
    have HE : Hid (E = Q + 1) := Lib.hid (by rw [HEV.out, hpo, hqo]; rfl)
    clear hpo hp1 hqo hq0
    have C6 := Lib.hid (plus_any (some ⟨ab, ao, none⟩) (some ⟨w3.heap.size, 0, none⟩) NQ c2 1 1 (wds Q) [1] (w3.alloc (.cells #[.int .u32 1] 42)) HNQ.out (by have := HNQ2.out; omega) (HQ3.out.step ((Below.refl w3.heap.size w3).alloc (Nat.le_refl _) _)) rfl (by omega) ((one_rw w3).more (by simp)))
    rw [wds_val, show val [1] = 1 from rfl] at C6
    go_wp2_with fail
    refine C6.out.mono ?_
    rintro e w5 ⟨v5, rfl, ⟨A5, c5, rfl, hc5, r5⟩, b5⟩
    have HB5 := Lib.hid (below_le HB.out (below_le ((Below.refl w3.heap.size w3).alloc (Nat.le_refl _) _) b5))
    obtain ⟨N5, hN5⟩ : ∃ N5, (wds (Q + 1)).length = N5 := ⟨_, rfl⟩
    have hN52 : N5 ≤ 2 := by
     have := nrm_len (two (Q + 1))
     rw [two_wds' (Q + 1) (by have := HPQ.out; have := HPL.out; omega), hN5] at this
     exact this
    rw [hN5] at hc5 ⊢
    have HN5 := Lib.hid hN5
    have HN52 := Lib.hid hN52
    have HR5 := Lib.hid r5
    clear hc5 r5 b5 hN5 hN52 C6
    go_wp2_with fail
    obtain rfl : E = Q + 1 := HE.out
    have K1 := Lib.hid (show Cp 164 #[.slice A5 N5 c5, .int .i64 1] w5 fun e w' => e = .returned (.int .u64 ((Q + 1) / 4294967296 : Nat)) ∧ w5 = w' from by
     have := rword_any A5 N5 c5 1 (wds (Q + 1)) w5.heap.size w5 HN5.out (by have := HN52.out; omega) HR5.out
     rw [get_one (wds_ws _), wds_val, Nat.mod_eq_of_lt (by have := HR2.out; omega)] at this
     exact this)
    have K0 := Lib.hid (show Cp 164 #[.slice A5 N5 c5, .int .i64 0] w5 fun e w' => e = .returned (.int .u64 ((Q + 1) % 4294967296 : Nat)) ∧ w5 = w' from by
     have := rword_any A5 N5 c5 0 (wds (Q + 1)) w5.heap.size w5 HN5.out (by have := HN52.out; omega) HR5.out
     rw [get_zero (wds_ws _), wds_val] at this
     exact this)
    have hj := join64 ((Q + 1) / 4294967296) ((Q + 1) % 4294967296) (by have := HR2.out; omega) (by omega)
    rw [show (Q + 1) % 4294967296 + (Q + 1) / 4294967296 * 4294967296 = Q + 1 by omega] at hj
    obtain ⟨yy, hyy⟩ : ∃ yy, (Q + 1) / 4294967296 = yy := ⟨_, rfl⟩
    obtain ⟨zz, hzz⟩ : ∃ zz, (Q + 1) % 4294967296 = zz := ⟨_, rfl⟩
    rw [hyy] at K1 hj
    rw [hzz] at K0 hj
    obtain ⟨e9, he9⟩ : ∃ e9, Q + 1 = e9 := ⟨_, rfl⟩
    rw [he9] at hj C5
    clear hyy hzz he9
    refine K1.out.mono ?_
    rintro e w' ⟨rfl, rfl⟩
    go_wp2_with fail
    refine K0.out.mono ?_
    rintro e w' ⟨rfl, rfl⟩
    go_wp2_with fail
    refine (C5.out _).mono ?_
    rintro e w' ⟨rfl, rfl⟩
    go_wp2
    go_ret
    exact ⟨rfl, HB5.out⟩
  ·have HE : Hid (E = Q + 1) := Lib.hid (by rw [HEV.out, hpo]; rfl)
   clear hpo hp1 o1
   have C6 := Lib.hid (plus_any (some ⟨ab, ao, none⟩) (some ⟨w3.heap.size, 0, none⟩) NQ c2 1 1 (wds Q) [1] (w3.alloc (.cells #[.int .u32 1] 42)) HNQ.out (by have := HNQ2.out; omega) (HQ3.out.step ((Below.refl w3.heap.size w3).alloc (Nat.le_refl _) _)) rfl (by omega) ((one_rw w3).more (by simp)))
   rw [wds_val, show val [1] = 1 from rfl] at C6
   go_wp2_with fail
   refine C6.out.mono ?_
   rintro e w5 ⟨v5, rfl, ⟨A5, c5, rfl, hc5, r5⟩, b5⟩
   have HB5 := Lib.hid (below_le HB.out (below_le ((Below.refl w3.heap.size w3).alloc (Nat.le_refl _) _) b5))
   obtain ⟨N5, hN5⟩ : ∃ N5, (wds (Q + 1)).length = N5 := ⟨_, rfl⟩
   have hN52 : N5 ≤ 2 := by
    have := nrm_len (two (Q + 1))
    rw [two_wds' (Q + 1) (by have := HPQ.out; have := HPL.out; omega), hN5] at this
    exact this
   rw [hN5] at hc5 ⊢
   have HN5 := Lib.hid hN5
   have HN52 := Lib.hid hN52
   have HR5 := Lib.hid r5
   clear hc5 r5 b5 hN5 hN52 C6
   go_wp2_with fail
   obtain rfl : E = Q + 1 := HE.out
   have K1 := Lib.hid (show Cp 164 #[.slice A5 N5 c5, .int .i64 1] w5 fun e w' => e = .returned (.int .u64 ((Q + 1) / 4294967296 : Nat)) ∧ w5 = w' from by
    have := rword_any A5 N5 c5 1 (wds (Q + 1)) w5.heap.size w5 HN5.out (by have := HN52.out; omega) HR5.out
    rw [get_one (wds_ws _), wds_val, Nat.mod_eq_of_lt (by have := HR2.out; omega)] at this
    exact this)
   have K0 := Lib.hid (show Cp 164 #[.slice A5 N5 c5, .int .i64 0] w5 fun e w' => e = .returned (.int .u64 ((Q + 1) % 4294967296 : Nat)) ∧ w5 = w' from by
    have := rword_any A5 N5 c5 0 (wds (Q + 1)) w5.heap.size w5 HN5.out (by have := HN52.out; omega) HR5.out
    rw [get_zero (wds_ws _), wds_val] at this
    exact this)
   have hj := join64 ((Q + 1) / 4294967296) ((Q + 1) % 4294967296) (by have := HR2.out; omega) (by omega)
   rw [show (Q + 1) % 4294967296 + (Q + 1) / 4294967296 * 4294967296 = Q + 1 by omega] at hj
   obtain ⟨yy, hyy⟩ : ∃ yy, (Q + 1) / 4294967296 = yy := ⟨_, rfl⟩
   obtain ⟨zz, hzz⟩ : ∃ zz, (Q + 1) % 4294967296 = zz := ⟨_, rfl⟩
   rw [hyy] at K1 hj
   rw [hzz] at K0 hj
   obtain ⟨e9, he9⟩ : ∃ e9, Q + 1 = e9 := ⟨_, rfl⟩
   rw [he9] at hj C5
   clear hyy hzz he9
   refine K1.out.mono ?_
   rintro e w' ⟨rfl, rfl⟩
   go_wp2_with fail
   refine K0.out.mono ?_
   rintro e w' ⟨rfl, rfl⟩
   go_wp2_with fail
   refine (C5.out _).mono ?_
   rintro e w' ⟨rfl, rfl⟩
   go_wp2
   go_ret
   exact ⟨rfl, HB5.out⟩

end Go.Proofs.YtfcpkdafkmohkaaGreatDoor
namespace Go.Proofs.YtfcpkdafkmohkaaGreatDoor
open Go.RowKit
set_option maxRecDepth 100000 in
set_option maxHeartbeats 2000000 in
theorem rnear_sub (A : Option Addr) (n c d mm u : Nat) (ex : Int) (l : List Nat) (w : World) (hn : l.length = n) (hc : n ≤ c) (hm : n ≤ 35184372087808) (h : RW w w.heap.size A l) (hb : btl l = mm) (hd : d ≤ 32768) (hmm : mm ≤ 32768) (hcut : -1074 - ex = ((d + 1 : Nat) : Int)) (hlo : d + 1 < mm) (hhi : mm < 54 + d)
  (C5 : RowKit.Hid (∀ W, Cq 206 #[.float .f64 (fl (evn (val l) (d + 1))), .int .i64 (ex + ((d + 1 : Nat) : Int))] (.float .f64 u) W)) :
  Ct 154 #[.slice A n c, .int .i64 ex] (.float .f64 u) w := by
 have C1 := Lib.hid (rbits_any A n c l w.heap.size w hn hc (by omega) h)
 have h0 : nrm l ≠ [] := by intro e; unfold btl at hb; rw [if_pos e] at hb; omega
 obtain ⟨b1, b2, b3⟩ := btl_bounds h.1 h0
 rw [hb] at C1 b1 b2
 have C2 := Lib.hid (fun W (hW : Below w.heap.size w W) => rshr_any A n c ((d + 1 : Nat) : Int) l W hn hc hm ((h.below hW).more hW.size))
 have C3 := Lib.hid (fun W (hW : Below w.heap.size w W) => rshr_any A n c (((d + 1 : Nat) : Int) - 1) l W hn hc hm ((h.below hW).more hW.size))
 rw [show (((d + 1 : Nat) : Int)).toNat = d + 1 by omega] at C2
 rw [show (((d + 1 : Nat) : Int) - 1).toNat = d by omega] at C3
 obtain ⟨v, hv⟩ : ∃ v, val l = v := ⟨_, rfl⟩
 rw [hv] at C2 C3 C5 b1 b2
 have hq1 : 1 ≤ v / 2 ^ (d + 1) := by
  rw [Nat.le_div_iff_mul_le (Nat.two_pow_pos _), Nat.one_mul]
  exact Nat.le_trans (Nat.pow_le_pow_right (by omega) (by omega)) b1
 have hq2 : v / 2 ^ (d + 1) < 2 ^ 53 := by
  rw [Nat.div_lt_iff_lt_mul (Nat.two_pow_pos _), ← Nat.pow_add]
  exact Nat.lt_of_lt_of_le b2 (Nat.pow_le_pow_right (by omega) (by omega))
 have hq3 : (2 : Nat) ^ 53 = 9007199254740992 := rfl
 have hpq : v / 2 ^ (d + 1) = v / 2 ^ d / 2 := by rw [Nat.pow_succ, Nat.div_div_eq_div_mul]
 have hev := evn_half v d
 obtain ⟨E, hE⟩ : ∃ E, evn v (d + 1) = E := ⟨_, rfl⟩
 rw [hE] at C5 hev
 have r1 : 1 ≤ E := by omega
 have r2 : E ≤ 9007199254740992 := by
  rw [hev]
  have : ∀ b : Bool, b.toNat ≤ 1 := by intro b; cases b <;> decide
  have := this (decide (v / 2 ^ d % 2 = 1) && (decide (v % 2 ^ d ≠ 0) || decide (v / 2 ^ (d + 1) % 2 = 1)))
  omega
 have hPl : v / 2 ^ d < 18446744073709551616 := by
  omega
 obtain ⟨m, hm2⟩ : ∃ m, mm = m := ⟨_, rfl⟩
 rw [hm2] at C1
 obtain ⟨X1, hX1⟩ : ∃ X1, (m : Int) + ex = X1 := ⟨_, rfl⟩
 obtain ⟨X2, hX2⟩ : ∃ X2, (m : Int) - 53 = X2 := ⟨_, rfl⟩
 obtain ⟨X4, hX4⟩ : ∃ X4, X2 + ex = X4 := ⟨_, rfl⟩
 obtain ⟨X3, hX3⟩ : ∃ X3, ((d + 1 : Nat) : Int) = X3 := ⟨_, rfl⟩
 obtain ⟨X6, hX6⟩ : ∃ X6, X3 - 1 = X6 := ⟨_, rfl⟩
 obtain ⟨X7, hX7⟩ : ∃ X7, ex + X3 = X7 := ⟨_, rfl⟩
 rw [hX3] at C2 C3 C5 hcut
 rw [hX6] at C3
 rw [hX7] at C5
 have t0 : ((m : Int) == 0) = false := by rw [beq_eq_false_iff_ne]; omega
 have t1 : decide ((1024 : Int) < X1) = false := decide_eq_false (by omega)
 have k1 : IntKind.i64.wrap ((m : Int)) = (m : Int) := IntWalk.i64_in _ (by omega)
 have k2 : IntKind.i64.wrap ((m : Int) + ex) = X1 := by rw [IntWalk.i64_in _ (by omega)]; exact hX1
 have k3 : IntKind.i64.wrap ((m : Int) - 53) = X2 := by rw [IntWalk.i64_in _ (by omega)]; exact hX2
 have k8 : IntKind.i64.wrap (-1074 - ex) = X3 := by rw [IntWalk.i64_in _ (by omega)]; exact hcut
 have k4 : IntKind.i64.wrap (X2 + ex) = X4 := by rw [IntWalk.i64_in _ (by omega)]; exact hX4
 have k5 : IntKind.i64.wrap ((m : Int) + 1) = (m : Int) + 1 := IntWalk.i64_in _ (by omega)
 have k6 : IntKind.i64.wrap (X3 - 1) = X6 := by rw [IntWalk.i64_in _ (by omega)]; exact hX6
 have k7 : IntKind.i64.wrap (ex + X3) = X7 := by rw [IntWalk.i64_in _ (by omega)]; exact hX7
 have t2 : decide (X4 < -1074) = true := decide_eq_true (by omega)
 have t3 : decide (X3 ≤ 0) = false := decide_eq_false (by omega)
 have t4 : decide ((m : Int) + 1 < X3) = false := decide_eq_false (by omega)
 have HEV := Lib.hid hev
 have HR1 := Lib.hid r1
 have HR2 := Lib.hid r2
 clear hn hc hm h hb hd h0 b1 b2 b3 hv hE hev r1 r2 hm2 hmm hcut hlo hhi hq3 hX1 hX2 hX3 hX4 hX6 hX7
 unfold ShrQ at C2 C3
 obtain ⟨mo, hmo⟩ : ∃ mo, decide (v % 2 ^ d ≠ 0) = mo := ⟨_, rfl⟩
 obtain ⟨mq, hmq⟩ : ∃ mq, decide (v % 2 ^ (d + 1) ≠ 0) = mq := ⟨_, rfl⟩
 obtain ⟨Q, hQ⟩ : ∃ Q, v / 2 ^ (d + 1) = Q := ⟨_, rfl⟩
 obtain ⟨P, hP⟩ : ∃ P, v / 2 ^ d = P := ⟨_, rfl⟩
 rw [hmq, hQ] at C2
 rw [hmo, hP] at C3
 rw [hmo, hQ, hP] at HEV
 rw [hQ] at hq1 hq2 hpq
 have hq3 : (2 : Nat) ^ 53 = 9007199254740992 := rfl
 rw [hP] at hpq hPl
 clear hmo hmq hQ hP
 obtain ⟨NQ, hNQ⟩ : ∃ NQ, (wds Q).length = NQ := ⟨_, rfl⟩
 obtain ⟨NP, hNP⟩ : ∃ NP, (wds P).length = NP := ⟨_, rfl⟩
 have hNQ0 : 0 < NQ := by rw [← hNQ]; exact wds_pos (by omega)
 have hNP0 : 0 < NP := by rw [← hNP]; exact wds_pos (by omega)
 have hNQ2 : NQ ≤ 2 := by
  have := nrm_len (two Q)
  rw [two_wds' Q (by omega), hNQ] at this
  exact this
 have g1 := get_zero (wds_ws Q)
 have g2 := get_zero (wds_ws P)
 rw [wds_val] at g1 g2
 have o1 := and_one32 (Q % 4294967296) (by omega)
 have o2 := and_one32 (P % 4294967296) (by omega)
 rw [show Q % 4294967296 % 2 = Q % 2 by omega] at o1
 rw [show P % 4294967296 % 2 = P % 2 by omega] at o2
 obtain ⟨x, hx⟩ : ∃ x, Q % 4294967296 = x := ⟨_, rfl⟩
 obtain ⟨y, hy⟩ : ∃ y, P % 4294967296 = y := ⟨_, rfl⟩
 rw [hx] at g1 o1
 rw [hy] at g2 o2
 have HNQ := Lib.hid hNQ
 have HNP := Lib.hid hNP
 have HNQ2 := Lib.hid hNQ2
 have HQ1 := Lib.hid hq1
 have HPQ := Lib.hid hpq
 have HPL := Lib.hid hPl
 have n1 : decide ((0 : Int) < (NQ : Int)) = true := decide_eq_true (by omega)
 have n2 : decide ((0 : Int) < (NP : Int)) = true := decide_eq_true (by omega)
 have n3 : (0 : Int) < (NQ : Int) := by omega
 have n4 : (0 : Int) < (NP : Int) := by omega
 clear hx hy hNQ hNP hNQ2 hq1 hq2 hq3 hpq hPl
 go_enter Tryz.func154, Tryz.ntmps154
 go_wp2_with fail
 refine C1.out.mono ?_
 rintro e w1 ⟨rfl, hb1⟩
 go_wp2_with fail
 refine (C2.out _ hb1).mono ?_
 rintro e w2 ⟨A2, N2, c2, rfl, rfl, hc2, q2, hb2⟩
 rw [HNQ.out] at hc2 ⊢
 have hb12 := below_le hb1 hb2
 have HC2 := Lib.hid hc2
 clear hc2
 go_wp2_with fail
 refine (C3.out _ hb12).mono ?_
 rintro e w3 ⟨A3, N3, c3, rfl, rfl, hc3, p3, hb3⟩
 rw [HNP.out] at hc3 ⊢
 have HC3 := Lib.hid hc3
 have hb13 := below_le hb12 hb3
 have q3 := q2.step hb3
 have HB := Lib.hid hb13
 have HQ3 := Lib.hid q3
 obtain ⟨ab, ao, rfl, _, hca⟩ := q3.2 (by rw [HNQ.out]; exact hNQ0)
 obtain ⟨pb, po, rfl, _, hcb⟩ := p3.2 (by rw [HNP.out]; exact hNP0)
 have l1 := hca 0 _ (getD_some (by rw [HNQ.out]; exact hNQ0))
 have l2 := hcb 0 _ (getD_some (by rw [HNP.out]; exact hNP0))
 rw [g1, Nat.add_zero] at l1
 rw [g2, Nat.add_zero] at l2
 clear g1 g2 hca hcb q2 q3 p3 hb1 hb2 hb3 hb12 hb13 hc3 C1 C2 C3 hNQ0 hNP0
 cases hpo : decide (P % 2 = 1)
 ·have hp0 : P % 2 = 0 := by have := of_decide_eq_false hpo; omega
  rw [hp0] at o2
  have HE : Hid (E = Q) := Lib.hid (by rw [HEV.out, hpo]; rfl)
  clear hpo hp0 o1
  obtain rfl : Q = E := HE.out.symm
  go_wp2_with fail
  have K1 := Lib.hid (show Cp 164 #[.slice (some ⟨ab, ao, none⟩) NQ c2, .int .i64 1] w3 fun e w' => e = .returned (.int .u64 (Q / 4294967296 : Nat)) ∧ w3 = w' from by
   have := rword_any (some ⟨ab, ao, none⟩) NQ c2 1 (wds (Q)) w3.heap.size w3 HNQ.out (by have := HNQ2.out; omega) HQ3.out
   rw [get_one (wds_ws _), wds_val, Nat.mod_eq_of_lt (by have := HR2.out; omega)] at this
   exact this)
  have K0 := Lib.hid (show Cp 164 #[.slice (some ⟨ab, ao, none⟩) NQ c2, .int .i64 0] w3 fun e w' => e = .returned (.int .u64 ((Q) % 4294967296 : Nat)) ∧ w3 = w' from by
   have := rword_any (some ⟨ab, ao, none⟩) NQ c2 0 (wds (Q)) w3.heap.size w3 HNQ.out (by have := HNQ2.out; omega) HQ3.out
   rw [get_zero (wds_ws _), wds_val] at this
   exact this)
  have hj := join64 ((Q) / 4294967296) ((Q) % 4294967296) (by have := HR2.out; omega) (by omega)
  rw [show (Q) % 4294967296 + (Q) / 4294967296 * 4294967296 = Q by omega] at hj
  obtain ⟨yy, hyy⟩ : ∃ yy, (Q) / 4294967296 = yy := ⟨_, rfl⟩
  obtain ⟨zz, hzz⟩ : ∃ zz, (Q) % 4294967296 = zz := ⟨_, rfl⟩
  rw [hyy] at K1 hj
  rw [hzz] at K0 hj
  obtain ⟨e9, he9⟩ : ∃ e9, Q = e9 := ⟨_, rfl⟩
  rw [he9] at hj C5
  clear hyy hzz he9
  refine K1.out.mono ?_
  rintro e w' ⟨rfl, rfl⟩
  go_wp2_with fail
  refine K0.out.mono ?_
  rintro e w' ⟨rfl, rfl⟩
  go_wp2_with fail
  refine (C5.out _).mono ?_
  rintro e w' ⟨rfl, rfl⟩
  go_wp2
  go_ret
  exact ⟨rfl, HB.out⟩
 ·have hp1 : P % 2 = 1 := of_decide_eq_true hpo
  rw [hp1] at o2
  cases mo
  ·cases hqo : decide (Q % 2 = 1)
   ·have hq0 : Q % 2 = 0 := by have := of_decide_eq_false hqo; omega
    rw [hq0] at o1
    have HE : Hid (E = Q) := Lib.hid (by rw [HEV.out, hpo, hqo]; rfl)
    clear hpo hp1 hqo hq0
    obtain rfl : Q = E := HE.out.symm
    go_wp2_with fail
    have K1 := Lib.hid (show Cp 164 #[.slice (some ⟨ab, ao, none⟩) NQ c2, .int .i64 1] w3 fun e w' => e = .returned (.int .u64 (Q / 4294967296 : Nat)) ∧ w3 = w' from by
     have := rword_any (some ⟨ab, ao, none⟩) NQ c2 1 (wds (Q)) w3.heap.size w3 HNQ.out (by have := HNQ2.out; omega) HQ3.out
     rw [get_one (wds_ws _), wds_val, Nat.mod_eq_of_lt (by have := HR2.out; omega)] at this
     exact this)
    have K0 := Lib.hid (show Cp 164 #[.slice (some ⟨ab, ao, none⟩) NQ c2, .int .i64 0] w3 fun e w' => e = .returned (.int .u64 ((Q) % 4294967296 : Nat)) ∧ w3 = w' from by
     have := rword_any (some ⟨ab, ao, none⟩) NQ c2 0 (wds (Q)) w3.heap.size w3 HNQ.out (by have := HNQ2.out; omega) HQ3.out
     rw [get_zero (wds_ws _), wds_val] at this
     exact this)
    have hj := join64 ((Q) / 4294967296) ((Q) % 4294967296) (by have := HR2.out; omega) (by omega)
    rw [show (Q) % 4294967296 + (Q) / 4294967296 * 4294967296 = Q by omega] at hj
    obtain ⟨yy, hyy⟩ : ∃ yy, (Q) / 4294967296 = yy := ⟨_, rfl⟩
    obtain ⟨zz, hzz⟩ : ∃ zz, (Q) % 4294967296 = zz := ⟨_, rfl⟩
    rw [hyy] at K1 hj
    rw [hzz] at K0 hj
    obtain ⟨e9, he9⟩ : ∃ e9, Q = e9 := ⟨_, rfl⟩
    rw [he9] at hj C5
    clear hyy hzz he9
    refine K1.out.mono ?_
    rintro e w' ⟨rfl, rfl⟩
    go_wp2_with fail
    refine K0.out.mono ?_
    rintro e w' ⟨rfl, rfl⟩
    go_wp2_with fail
    refine (C5.out _).mono ?_
    rintro e w' ⟨rfl, rfl⟩
    go_wp2
    go_ret
    exact ⟨rfl, HB.out⟩
   ·have hq0 : Q % 2 = 1 := of_decide_eq_true hqo
    rw [hq0] at o1
    have HE : Hid (E = Q + 1) := Lib.hid (by rw [HEV.out, hpo, hqo]; rfl)
    clear hpo hp1 hqo hq0
    have C6 := Lib.hid (plus_any (some ⟨ab, ao, none⟩) (some ⟨w3.heap.size, 0, none⟩) NQ c2 1 1 (wds Q) [1] (w3.alloc (.cells #[.int .u32 1] 42)) HNQ.out (by have := HNQ2.out; omega) (HQ3.out.step ((Below.refl w3.heap.size w3).alloc (Nat.le_refl _) _)) rfl (by omega) ((one_rw w3).more (by simp)))
    rw [wds_val, show val [1] = 1 from rfl] at C6
    go_wp2_with fail
    refine C6.out.mono ?_
    rintro e w5 ⟨v5, rfl, ⟨A5, c5, rfl, hc5, r5⟩, b5⟩
    have HB5 := Lib.hid (below_le HB.out (below_le ((Below.refl w3.heap.size w3).alloc (Nat.le_refl _) _) b5))
    obtain ⟨N5, hN5⟩ : ∃ N5, (wds (Q + 1)).length = N5 := ⟨_, rfl⟩
    have hN52 : N5 ≤ 2 := by
     have := nrm_len (two (Q + 1))
     rw [two_wds' (Q + 1) (by have := HPQ.out; have := HPL.out; omega), hN5] at this
     exact this
    rw [hN5] at hc5 ⊢
    have HN5 := Lib.hid hN5
    have HN52 := Lib.hid hN52
    have HR5 := Lib.hid r5
    clear hc5 r5 b5 hN5 hN52 C6
    go_wp2_with fail
    obtain rfl : E = Q + 1 := HE.out
    have K1 := Lib.hid (show Cp 164 #[.slice A5 N5 c5, .int .i64 1] w5 fun e w' => e = .returned (.int .u64 ((Q + 1) / 4294967296 : Nat)) ∧ w5 = w' from by
     have := rword_any A5 N5 c5 1 (wds (Q + 1)) w5.heap.size w5 HN5.out (by have := HN52.out; omega) HR5.out
     rw [get_one (wds_ws _), wds_val, Nat.mod_eq_of_lt (by have := HR2.out; omega)] at this
     exact this)
    have K0 := Lib.hid (show Cp 164 #[.slice A5 N5 c5, .int .i64 0] w5 fun e w' => e = .returned (.int .u64 ((Q + 1) % 4294967296 : Nat)) ∧ w5 = w' from by
     have := rword_any A5 N5 c5 0 (wds (Q + 1)) w5.heap.size w5 HN5.out (by have := HN52.out; omega) HR5.out
     rw [get_zero (wds_ws _), wds_val] at this
     exact this)
    have hj := join64 ((Q + 1) / 4294967296) ((Q + 1) % 4294967296) (by have := HR2.out; omega) (by omega)
    rw [show (Q + 1) % 4294967296 + (Q + 1) / 4294967296 * 4294967296 = Q + 1 by omega] at hj
    obtain ⟨yy, hyy⟩ : ∃ yy, (Q + 1) / 4294967296 = yy := ⟨_, rfl⟩
    obtain ⟨zz, hzz⟩ : ∃ zz, (Q + 1) % 4294967296 = zz := ⟨_, rfl⟩
    rw [hyy] at K1 hj
    rw [hzz] at K0 hj
    obtain ⟨e9, he9⟩ : ∃ e9, Q + 1 = e9 := ⟨_, rfl⟩
    rw [he9] at hj C5
    clear hyy hzz he9
    refine K1.out.mono ?_
    rintro e w' ⟨rfl, rfl⟩
    go_wp2_with fail
    refine K0.out.mono ?_
    rintro e w' ⟨rfl, rfl⟩
    go_wp2_with fail
    refine (C5.out _).mono ?_
    rintro e w' ⟨rfl, rfl⟩
    go_wp2
    go_ret
    exact ⟨rfl, HB5.out⟩
  ·have HE : Hid (E = Q + 1) := Lib.hid (by rw [HEV.out, hpo]; rfl)
   clear hpo hp1 o1
   have C6 := Lib.hid (plus_any (some ⟨ab, ao, none⟩) (some ⟨w3.heap.size, 0, none⟩) NQ c2 1 1 (wds Q) [1] (w3.alloc (.cells #[.int .u32 1] 42)) HNQ.out (by have := HNQ2.out; omega) (HQ3.out.step ((Below.refl w3.heap.size w3).alloc (Nat.le_refl _) _)) rfl (by omega) ((one_rw w3).more (by simp)))
   rw [wds_val, show val [1] = 1 from rfl] at C6
   go_wp2_with fail
   refine C6.out.mono ?_
   rintro e w5 ⟨v5, rfl, ⟨A5, c5, rfl, hc5, r5⟩, b5⟩
   have HB5 := Lib.hid (below_le HB.out (below_le ((Below.refl w3.heap.size w3).alloc (Nat.le_refl _) _) b5))
   obtain ⟨N5, hN5⟩ : ∃ N5, (wds (Q + 1)).length = N5 := ⟨_, rfl⟩
   have hN52 : N5 ≤ 2 := by
    have := nrm_len (two (Q + 1))
    rw [two_wds' (Q + 1) (by have := HPQ.out; have := HPL.out; omega), hN5] at this
    exact this
   rw [hN5] at hc5 ⊢
   have HN5 := Lib.hid hN5
   have HN52 := Lib.hid hN52
   have HR5 := Lib.hid r5
   clear hc5 r5 b5 hN5 hN52 C6
   go_wp2_with fail
   obtain rfl : E = Q + 1 := HE.out
   have K1 := Lib.hid (show Cp 164 #[.slice A5 N5 c5, .int .i64 1] w5 fun e w' => e = .returned (.int .u64 ((Q + 1) / 4294967296 : Nat)) ∧ w5 = w' from by
    have := rword_any A5 N5 c5 1 (wds (Q + 1)) w5.heap.size w5 HN5.out (by have := HN52.out; omega) HR5.out
    rw [get_one (wds_ws _), wds_val, Nat.mod_eq_of_lt (by have := HR2.out; omega)] at this
    exact this)
   have K0 := Lib.hid (show Cp 164 #[.slice A5 N5 c5, .int .i64 0] w5 fun e w' => e = .returned (.int .u64 ((Q + 1) % 4294967296 : Nat)) ∧ w5 = w' from by
    have := rword_any A5 N5 c5 0 (wds (Q + 1)) w5.heap.size w5 HN5.out (by have := HN52.out; omega) HR5.out
    rw [get_zero (wds_ws _), wds_val] at this
    exact this)
   have hj := join64 ((Q + 1) / 4294967296) ((Q + 1) % 4294967296) (by have := HR2.out; omega) (by omega)
   rw [show (Q + 1) % 4294967296 + (Q + 1) / 4294967296 * 4294967296 = Q + 1 by omega] at hj
   obtain ⟨yy, hyy⟩ : ∃ yy, (Q + 1) / 4294967296 = yy := ⟨_, rfl⟩
   obtain ⟨zz, hzz⟩ : ∃ zz, (Q + 1) % 4294967296 = zz := ⟨_, rfl⟩
   rw [hyy] at K1 hj
   rw [hzz] at K0 hj
   obtain ⟨e9, he9⟩ : ∃ e9, Q + 1 = e9 := ⟨_, rfl⟩
   rw [he9] at hj C5
   clear hyy hzz he9
   refine K1.out.mono ?_
   rintro e w' ⟨rfl, rfl⟩
   go_wp2_with fail
   refine K0.out.mono ?_
   rintro e w' ⟨rfl, rfl⟩
   go_wp2_with fail
   refine (C5.out _).mono ?_
   rintro e w' ⟨rfl, rfl⟩
   go_wp2
   go_ret
   exact ⟨rfl, HB5.out⟩

end Go.Proofs.YtfcpkdafkmohkaaGreatDoor
namespace Go.Proofs.YtfcpkdafkmohkaaGreatDoor
open Go.RowKit
set_option maxRecDepth 100000 in
set_option maxHeartbeats 1000000 in
theorem rnear_inf (A : Option Addr) (n c : Nat) (ex : Int) (l : List Nat) (w : World) (hn : l.length = n) (hc : n ≤ c) (hm : n ≤ 35184372087808) (h : RW w w.heap.size A l) (h0 : 0 < btl l) (hb : btl l ≤ 1048576) (he : ex ≤ 1048576) (hx : 1024 < (btl l : Int) + ex) :
  Ct 154 #[.slice A n c, .int .i64 ex] (.float .f64 9218868437227405312) w := by
 have C1 := Lib.hid (rbits_any A n c l w.heap.size w hn hc (by omega) h)
 have C2 := Lib.hid (fun W => inf1_any W)
 obtain ⟨m, hm2⟩ : ∃ m, btl l = m := ⟨_, rfl⟩
 rw [hm2] at C1 h0 hb hx
 have t0 : ((m : Int) == 0) = false := by rw [beq_eq_false_iff_ne]; omega
 obtain ⟨X1, hX1⟩ : ∃ X1, (m : Int) + ex = X1 := ⟨_, rfl⟩
 have k2 : IntKind.i64.wrap ((m : Int) + ex) = X1 := by rw [IntWalk.i64_in _ (by omega)]; exact hX1
 have t1 : decide ((1024 : Int) < X1) = true := decide_eq_true (by omega)
 clear hn hc hm h hm2 h0 hb he hx hX1
 go_enter Tryz.func154, Tryz.ntmps154
 go_wp2_with fail
 refine C1.out.mono ?_
 rintro e w' ⟨rfl, hbw⟩
 go_wp2_with fail
 refine (C2.out _).mono ?_
 rintro e w' ⟨rfl, rfl⟩
 go_wp2
 go_ret
 exact ⟨rfl, hbw⟩
set_option maxRecDepth 100000 in
set_option maxHeartbeats 1000000 in
theorem rnear_far (A : Option Addr) (n c : Nat) (ex : Int) (l : List Nat) (w : World) (hn : l.length = n) (hc : n ≤ c) (hm : n ≤ 35184372087808) (h : RW w w.heap.size A l) (h0 : 0 < btl l) (hb : btl l ≤ 1048576) (he : -1048576 ≤ ex) (hx : (btl l : Int) + 1 < -1074 - ex) :
  Ct 154 #[.slice A n c, .int .i64 ex] (.float .f64 0) w := by
 have C1 := Lib.hid (rbits_any A n c l w.heap.size w hn hc (by omega) h)
 obtain ⟨m, hm2⟩ : ∃ m, btl l = m := ⟨_, rfl⟩
 rw [hm2] at C1 h0 hb hx
 have t0 : ((m : Int) == 0) = false := by rw [beq_eq_false_iff_ne]; omega
 obtain ⟨X1, hX1⟩ : ∃ X1, (m : Int) + ex = X1 := ⟨_, rfl⟩
 obtain ⟨X2, hX2⟩ : ∃ X2, (m : Int) - 53 = X2 := ⟨_, rfl⟩
 obtain ⟨X3, hX3⟩ : ∃ X3, -1074 - ex = X3 := ⟨_, rfl⟩
 obtain ⟨X4, hX4⟩ : ∃ X4, X2 + ex = X4 := ⟨_, rfl⟩
 have k2 : IntKind.i64.wrap ((m : Int) + ex) = X1 := by rw [IntWalk.i64_in _ (by omega)]; exact hX1
 have k3 : IntKind.i64.wrap ((m : Int) - 53) = X2 := by rw [IntWalk.i64_in _ (by omega)]; exact hX2
 have k4 : IntKind.i64.wrap (X2 + ex) = X4 := by rw [IntWalk.i64_in _ (by omega)]; exact hX4
 have k5 : IntKind.i64.wrap (-1074 - ex) = X3 := by rw [IntWalk.i64_in _ (by omega)]; exact hX3
 have k6 : IntKind.i64.wrap ((m : Int) + 1) = (m : Int) + 1 := IntWalk.i64_in _ (by omega)
 have t1 : decide ((1024 : Int) < X1) = false := decide_eq_false (by omega)
 have t2 : decide (X4 < -1074) = true := decide_eq_true (by omega)
 have t3 : decide (X3 ≤ 0) = false := decide_eq_false (by omega)
 have t4 : decide ((m : Int) + 1 < X3) = true := decide_eq_true (by omega)
 clear hn hc hm h hm2 h0 hb he hx hX1 hX2 hX3 hX4
 go_enter Tryz.func154, Tryz.ntmps154
 go_wp2_with fail
 refine C1.out.mono ?_
 rintro e w' ⟨rfl, hbw⟩
 go_wp2
 go_ret
 exact ⟨rfl, hbw⟩
/-   One half and perhaps more, or less than a half: no bit of the quotient stands. -/
set_option maxRecDepth 100000 in
set_option maxHeartbeats 2000000 in
theorem rnear_less (A : Option Addr) (n c d mm u : Nat) (ex : Int) (l : List Nat) (w : World) (hn : l.length = n) (hc : n ≤ c) (hm : n ≤ 35184372087808) (h : RW w w.heap.size A l) (hb : btl l = mm) (hd : d ≤ 32768) (hmm : 0 < mm) (hcut : -1074 - ex = ((d + 1 : Nat) : Int)) (hlo : d = mm) 
  (C5 : RowKit.Hid (∀ W, Cq 206 #[.float .f64 0, .int .i64 (ex + ((d + 1 : Nat) : Int))] (.float .f64 u) W)) :
  Ct 154 #[.slice A n c, .int .i64 ex] (.float .f64 u) w := by
 have C1 := Lib.hid (rbits_any A n c l w.heap.size w hn hc (by omega) h)
 have h0 : nrm l ≠ [] := by intro e; unfold btl at hb; rw [if_pos e] at hb; omega
 obtain ⟨b1, b2, b3⟩ := btl_bounds h.1 h0
 rw [hb] at C1 b1 b2
 have C2 := Lib.hid (fun W (hW : Below w.heap.size w W) => rshr_any A n c ((d + 1 : Nat) : Int) l W hn hc hm ((h.below hW).more hW.size))
 have C3 := Lib.hid (fun W (hW : Below w.heap.size w W) => rshr_any A n c (((d + 1 : Nat) : Int) - 1) l W hn hc hm ((h.below hW).more hW.size))
 rw [show (((d + 1 : Nat) : Int)).toNat = d + 1 by omega] at C2
 rw [show (((d + 1 : Nat) : Int) - 1).toNat = d by omega] at C3
 obtain ⟨v, hv⟩ : ∃ v, val l = v := ⟨_, rfl⟩
 rw [hv] at C2 C3 b1 b2
 have z1 : v / 2 ^ (d + 1) = 0 := Nat.div_eq_of_lt (Nat.lt_of_lt_of_le b2 (Nat.pow_le_pow_right (by omega) (by omega)))
 have z2 : v / 2 ^ d = 0 := Nat.div_eq_of_lt (by rw [hlo]; exact b2)
 unfold ShrQ at C2 C3
 rw [z1] at C2
 rw [z2] at C3
 rw [show (wds 0).length = 0 by decide] at C2 C3
 obtain ⟨mo, hmo⟩ : ∃ mo, decide (v % 2 ^ d ≠ 0) = mo := ⟨_, rfl⟩
 obtain ⟨mq, hmq⟩ : ∃ mq, decide (v % 2 ^ (d + 1) ≠ 0) = mq := ⟨_, rfl⟩
 rw [hmq] at C2
 rw [hmo] at C3
 clear hv z1 z2 hmo hmq
 obtain ⟨m, hm2⟩ : ∃ m, mm = m := ⟨_, rfl⟩
 rw [hm2] at C1
 obtain ⟨X1, hX1⟩ : ∃ X1, (m : Int) + ex = X1 := ⟨_, rfl⟩
 obtain ⟨X2, hX2⟩ : ∃ X2, (m : Int) - 53 = X2 := ⟨_, rfl⟩
 obtain ⟨X4, hX4⟩ : ∃ X4, X2 + ex = X4 := ⟨_, rfl⟩
 obtain ⟨X3, hX3⟩ : ∃ X3, ((d + 1 : Nat) : Int) = X3 := ⟨_, rfl⟩
 obtain ⟨X6, hX6⟩ : ∃ X6, X3 - 1 = X6 := ⟨_, rfl⟩
 obtain ⟨X7, hX7⟩ : ∃ X7, ex + X3 = X7 := ⟨_, rfl⟩
 rw [hX3] at C2 C3 C5 hcut
 rw [hX6] at C3
 rw [hX7] at C5
 have t0 : ((m : Int) == 0) = false := by rw [beq_eq_false_iff_ne]; omega
 have t1 : decide ((1024 : Int) < X1) = false := decide_eq_false (by omega)
 have k1 : IntKind.i64.wrap ((m : Int)) = (m : Int) := IntWalk.i64_in _ (by omega)
 have k2 : IntKind.i64.wrap ((m : Int) + ex) = X1 := by rw [IntWalk.i64_in _ (by omega)]; exact hX1
 have k3 : IntKind.i64.wrap ((m : Int) - 53) = X2 := by rw [IntWalk.i64_in _ (by omega)]; exact hX2
 have k8 : IntKind.i64.wrap (-1074 - ex) = X3 := by rw [IntWalk.i64_in _ (by omega)]; exact hcut
 have k4 : IntKind.i64.wrap (X2 + ex) = X4 := by rw [IntWalk.i64_in _ (by omega)]; exact hX4
 have k5 : IntKind.i64.wrap ((m : Int) + 1) = (m : Int) + 1 := IntWalk.i64_in _ (by omega)
 have k6 : IntKind.i64.wrap (X3 - 1) = X6 := by rw [IntWalk.i64_in _ (by omega)]; exact hX6
 have k7 : IntKind.i64.wrap (ex + X3) = X7 := by rw [IntWalk.i64_in _ (by omega)]; exact hX7
 have t2 : decide (X4 < -1074) = true := decide_eq_true (by omega)
 have t3 : decide (X3 ≤ 0) = false := decide_eq_false (by omega)
 have t4 : decide ((m : Int) + 1 < X3) = false := decide_eq_false (by omega)
 clear hn hc hm h hb hd h0 b1 b2 b3 hm2 hmm hcut hlo hX1 hX2 hX3 hX4 hX6 hX7
 go_enter Tryz.func154, Tryz.ntmps154
 go_wp2_with fail
 refine C1.out.mono ?_
 rintro e w1 ⟨rfl, hb1⟩
 go_wp2_with fail
 refine (C2.out _ hb1).mono ?_
 rintro e w2 ⟨A2, N2, c2, rfl, hN2, hc2, q2, hb2⟩
 obtain rfl : N2 = 0 := hN2
 have hb12 := below_le hb1 hb2
 have HC2 := Lib.hid hc2
 clear hc2
 go_wp2_with fail
 refine (C3.out _ hb12).mono ?_
 rintro e w3 ⟨A3, N3, c3, rfl, hN3, hc3, p3, hb3⟩
 have HB := Lib.hid (below_le hb12 hb3)
 have HQ3 := Lib.hid (q2.step hb3)
 have HC3 := Lib.hid hc3
 obtain rfl : N3 = 0 := hN3
 clear hb1 hb2 hb3 hb12 hc3 q2 p3 C1 C2 C3
 have K1 := Lib.hid (show Cp 164 #[.slice A2 0 c2, .int .i64 1] w3 fun e w' => e = .returned (.int .u64 0) ∧ w3 = w' from rword_any A2 0 c2 1 (wds 0) w3.heap.size w3 rfl (by omega) HQ3.out)
 have K0 := Lib.hid (show Cp 164 #[.slice A2 0 c2, .int .i64 0] w3 fun e w' => e = .returned (.int .u64 0) ∧ w3 = w' from rword_any A2 0 c2 0 (wds 0) w3.heap.size w3 rfl (by omega) HQ3.out)
 go_wp2_with fail
 refine K1.out.mono ?_
 rintro e w' ⟨rfl, rfl⟩
 go_wp2_with fail
 refine K0.out.mono ?_
 rintro e w' ⟨rfl, rfl⟩
 go_wp2_with fail
 refine (C5.out _).mono ?_
 rintro e w' ⟨rfl, rfl⟩
 go_wp2
 go_ret
 exact ⟨rfl, HB.out⟩
set_option maxRecDepth 100000 in
set_option maxHeartbeats 2000000 in
theorem rnear_even (A : Option Addr) (n c d mm u : Nat) (ex : Int) (l : List Nat) (w : World) (hn : l.length = n) (hc : n ≤ c) (hm : n ≤ 35184372087808) (h : RW w w.heap.size A l) (hb : btl l = mm) (hd : d ≤ 32768) (hmm : 0 < mm) (hcut : -1074 - ex = ((d + 1 : Nat) : Int)) (hlo : d + 1 = mm) (hmo0 : decide (val l % 2 ^ d ≠ 0) = false)
  (C5 : RowKit.Hid (∀ W, Cq 206 #[.float .f64 0, .int .i64 (ex + ((d + 1 : Nat) : Int))] (.float .f64 u) W)) :
  Ct 154 #[.slice A n c, .int .i64 ex] (.float .f64 u) w := by
 have C1 := Lib.hid (rbits_any A n c l w.heap.size w hn hc (by omega) h)
 have h0 : nrm l ≠ [] := by intro e; unfold btl at hb; rw [if_pos e] at hb; omega
 obtain ⟨b1, b2, b3⟩ := btl_bounds h.1 h0
 rw [hb] at C1 b1 b2
 have C2 := Lib.hid (fun W (hW : Below w.heap.size w W) => rshr_any A n c ((d + 1 : Nat) : Int) l W hn hc hm ((h.below hW).more hW.size))
 have C3 := Lib.hid (fun W (hW : Below w.heap.size w W) => rshr_any A n c (((d + 1 : Nat) : Int) - 1) l W hn hc hm ((h.below hW).more hW.size))
 rw [show (((d + 1 : Nat) : Int)).toNat = d + 1 by omega] at C2
 rw [show (((d + 1 : Nat) : Int) - 1).toNat = d by omega] at C3
 obtain ⟨v, hv⟩ : ∃ v, val l = v := ⟨_, rfl⟩
 rw [hv] at C2 C3 b1 b2 hmo0
 have z1 : v / 2 ^ (d + 1) = 0 := Nat.div_eq_of_lt (by rw [hlo]; exact b2)
 have z2 : v / 2 ^ d = 1 := by
  have e1 : 2 ^ d ≤ v := by rw [show d = mm - 1 by omega]; exact b1
  have e2 : v < 2 * 2 ^ d := by rw [Nat.mul_comm, ← Nat.pow_succ, show d.succ = mm by omega]; exact b2
  have l1 : 1 ≤ v / 2 ^ d := (Nat.le_div_iff_mul_le (Nat.two_pow_pos d)).2 (by omega)
  have l2 : v / 2 ^ d < 2 := (Nat.div_lt_iff_lt_mul (Nat.two_pow_pos d)).2 e2
  omega
 unfold ShrQ at C2 C3
 rw [z1] at C2
 rw [z2] at C3
 rw [show (wds 0).length = 0 by decide] at C2
 rw [show (wds 1).length = 1 by decide] at C3
 obtain ⟨mo, hmo⟩ : ∃ mo, decide (v % 2 ^ d ≠ 0) = mo := ⟨_, rfl⟩
 obtain ⟨mq, hmq⟩ : ∃ mq, decide (v % 2 ^ (d + 1) ≠ 0) = mq := ⟨_, rfl⟩
 rw [hmq] at C2
 rw [hmo] at C3 hmo0
 have o2 := and_one32 1 (by omega)
 clear hv z1 z2 hmo hmq
 subst hmo0
 obtain ⟨m, hm2⟩ : ∃ m, mm = m := ⟨_, rfl⟩
 rw [hm2] at C1
 obtain ⟨X1, hX1⟩ : ∃ X1, (m : Int) + ex = X1 := ⟨_, rfl⟩
 obtain ⟨X2, hX2⟩ : ∃ X2, (m : Int) - 53 = X2 := ⟨_, rfl⟩
 obtain ⟨X4, hX4⟩ : ∃ X4, X2 + ex = X4 := ⟨_, rfl⟩
 obtain ⟨X3, hX3⟩ : ∃ X3, ((d + 1 : Nat) : Int) = X3 := ⟨_, rfl⟩
 obtain ⟨X6, hX6⟩ : ∃ X6, X3 - 1 = X6 := ⟨_, rfl⟩
 obtain ⟨X7, hX7⟩ : ∃ X7, ex + X3 = X7 := ⟨_, rfl⟩
 rw [hX3] at C2 C3 C5 hcut
 rw [hX6] at C3
 rw [hX7] at C5
 have t0 : ((m : Int) == 0) = false := by rw [beq_eq_false_iff_ne]; omega
 have t1 : decide ((1024 : Int) < X1) = false := decide_eq_false (by omega)
 have k1 : IntKind.i64.wrap ((m : Int)) = (m : Int) := IntWalk.i64_in _ (by omega)
 have k2 : IntKind.i64.wrap ((m : Int) + ex) = X1 := by rw [IntWalk.i64_in _ (by omega)]; exact hX1
 have k3 : IntKind.i64.wrap ((m : Int) - 53) = X2 := by rw [IntWalk.i64_in _ (by omega)]; exact hX2
 have k8 : IntKind.i64.wrap (-1074 - ex) = X3 := by rw [IntWalk.i64_in _ (by omega)]; exact hcut
 have k4 : IntKind.i64.wrap (X2 + ex) = X4 := by rw [IntWalk.i64_in _ (by omega)]; exact hX4
 have k5 : IntKind.i64.wrap ((m : Int) + 1) = (m : Int) + 1 := IntWalk.i64_in _ (by omega)
 have k6 : IntKind.i64.wrap (X3 - 1) = X6 := by rw [IntWalk.i64_in _ (by omega)]; exact hX6
 have k7 : IntKind.i64.wrap (ex + X3) = X7 := by rw [IntWalk.i64_in _ (by omega)]; exact hX7
 have t2 : decide (X4 < -1074) = true := decide_eq_true (by omega)
 have t3 : decide (X3 ≤ 0) = false := decide_eq_false (by omega)
 have t4 : decide ((m : Int) + 1 < X3) = false := decide_eq_false (by omega)
 clear hn hc hm h hb hd h0 b1 b2 b3 hm2 hmm hcut hlo hX1 hX2 hX3 hX4 hX6 hX7
 go_enter Tryz.func154, Tryz.ntmps154
 go_wp2_with fail
 refine C1.out.mono ?_
 rintro e w1 ⟨rfl, hb1⟩
 go_wp2_with fail
 refine (C2.out _ hb1).mono ?_
 rintro e w2 ⟨A2, N2, c2, rfl, hN2, hc2, q2, hb2⟩
 obtain rfl : N2 = 0 := hN2
 have hb12 := below_le hb1 hb2
 have HC2 := Lib.hid hc2
 clear hc2
 go_wp2_with fail
 refine (C3.out _ hb12).mono ?_
 rintro e w3 ⟨A3, N3, c3, rfl, hN3, hc3, p3, hb3⟩
 have HB := Lib.hid (below_le hb12 hb3)
 have HQ3 := Lib.hid (q2.step hb3)
 have HC3 := Lib.hid hc3
 obtain rfl : N3 = 1 := hN3
 obtain ⟨pb, po, rfl, _, hcb⟩ := p3.2 (by rw [show (wds 1).length = 1 by decide]; omega)
 have l2 := hcb 0 1 (by decide)
 rw [Nat.add_zero] at l2
 clear hb1 hb2 hb3 hb12 hc3 q2 p3 C1 C2 C3 hcb
 have K1 := Lib.hid (show Cp 164 #[.slice A2 0 c2, .int .i64 1] w3 fun e w' => e = .returned (.int .u64 0) ∧ w3 = w' from rword_any A2 0 c2 1 (wds 0) w3.heap.size w3 rfl (by omega) HQ3.out)
 have K0 := Lib.hid (show Cp 164 #[.slice A2 0 c2, .int .i64 0] w3 fun e w' => e = .returned (.int .u64 0) ∧ w3 = w' from rword_any A2 0 c2 0 (wds 0) w3.heap.size w3 rfl (by omega) HQ3.out)
 go_wp2_with fail
 refine K1.out.mono ?_
 rintro e w' ⟨rfl, rfl⟩
 go_wp2_with fail
 refine K0.out.mono ?_
 rintro e w' ⟨rfl, rfl⟩
 go_wp2_with fail
 refine (C5.out _).mono ?_
 rintro e w' ⟨rfl, rfl⟩
 go_wp2
 go_ret
 exact ⟨rfl, HB.out⟩
set_option maxRecDepth 100000 in
set_option maxHeartbeats 2000000 in
theorem rnear_up (A : Option Addr) (n c d mm u : Nat) (ex : Int) (l : List Nat) (w : World) (hn : l.length = n) (hc : n ≤ c) (hm : n ≤ 35184372087808) (h : RW w w.heap.size A l) (hb : btl l = mm) (hd : d ≤ 32768) (hmm : 0 < mm) (hcut : -1074 - ex = ((d + 1 : Nat) : Int)) (hlo : d + 1 = mm) (hmo0 : decide (val l % 2 ^ d ≠ 0) = true)
  (C5 : RowKit.Hid (∀ W, Cq 206 #[.float .f64 (fl 1), .int .i64 (ex + ((d + 1 : Nat) : Int))] (.float .f64 u) W)) :
  Ct 154 #[.slice A n c, .int .i64 ex] (.float .f64 u) w := by
 have C1 := Lib.hid (rbits_any A n c l w.heap.size w hn hc (by omega) h)
 have h0 : nrm l ≠ [] := by intro e; unfold btl at hb; rw [if_pos e] at hb; omega
 obtain ⟨b1, b2, b3⟩ := btl_bounds h.1 h0
 rw [hb] at C1 b1 b2
 have C2 := Lib.hid (fun W (hW : Below w.heap.size w W) => rshr_any A n c ((d + 1 : Nat) : Int) l W hn hc hm ((h.below hW).more hW.size))
 have C3 := Lib.hid (fun W (hW : Below w.heap.size w W) => rshr_any A n c (((d + 1 : Nat) : Int) - 1) l W hn hc hm ((h.below hW).more hW.size))
 rw [show (((d + 1 : Nat) : Int)).toNat = d + 1 by omega] at C2
 rw [show (((d + 1 : Nat) : Int) - 1).toNat = d by omega] at C3
 obtain ⟨v, hv⟩ : ∃ v, val l = v := ⟨_, rfl⟩
 rw [hv] at C2 C3 b1 b2 hmo0
 have z1 : v / 2 ^ (d + 1) = 0 := Nat.div_eq_of_lt (by rw [hlo]; exact b2)
 have z2 : v / 2 ^ d = 1 := by
  have e1 : 2 ^ d ≤ v := by rw [show d = mm - 1 by omega]; exact b1
  have e2 : v < 2 * 2 ^ d := by rw [Nat.mul_comm, ← Nat.pow_succ, show d.succ = mm by omega]; exact b2
  have l1 : 1 ≤ v / 2 ^ d := (Nat.le_div_iff_mul_le (Nat.two_pow_pos d)).2 (by omega)
  have l2 : v / 2 ^ d < 2 := (Nat.div_lt_iff_lt_mul (Nat.two_pow_pos d)).2 e2
  omega
 unfold ShrQ at C2 C3
 rw [z1] at C2
 rw [z2] at C3
 rw [show (wds 0).length = 0 by decide] at C2
 rw [show (wds 1).length = 1 by decide] at C3
 obtain ⟨mo, hmo⟩ : ∃ mo, decide (v % 2 ^ d ≠ 0) = mo := ⟨_, rfl⟩
 obtain ⟨mq, hmq⟩ : ∃ mq, decide (v % 2 ^ (d + 1) ≠ 0) = mq := ⟨_, rfl⟩
 rw [hmq] at C2
 rw [hmo] at C3 hmo0
 have o2 := and_one32 1 (by omega)
 clear hv z1 z2 hmo hmq
 subst hmo0
 obtain ⟨m, hm2⟩ : ∃ m, mm = m := ⟨_, rfl⟩
 rw [hm2] at C1
 obtain ⟨X1, hX1⟩ : ∃ X1, (m : Int) + ex = X1 := ⟨_, rfl⟩
 obtain ⟨X2, hX2⟩ : ∃ X2, (m : Int) - 53 = X2 := ⟨_, rfl⟩
 obtain ⟨X4, hX4⟩ : ∃ X4, X2 + ex = X4 := ⟨_, rfl⟩
 obtain ⟨X3, hX3⟩ : ∃ X3, ((d + 1 : Nat) : Int) = X3 := ⟨_, rfl⟩
 obtain ⟨X6, hX6⟩ : ∃ X6, X3 - 1 = X6 := ⟨_, rfl⟩
 obtain ⟨X7, hX7⟩ : ∃ X7, ex + X3 = X7 := ⟨_, rfl⟩
 rw [hX3] at C2 C3 C5 hcut
 rw [hX6] at C3
 rw [hX7] at C5
 have t0 : ((m : Int) == 0) = false := by rw [beq_eq_false_iff_ne]; omega
 have t1 : decide ((1024 : Int) < X1) = false := decide_eq_false (by omega)
 have k1 : IntKind.i64.wrap ((m : Int)) = (m : Int) := IntWalk.i64_in _ (by omega)
 have k2 : IntKind.i64.wrap ((m : Int) + ex) = X1 := by rw [IntWalk.i64_in _ (by omega)]; exact hX1
 have k3 : IntKind.i64.wrap ((m : Int) - 53) = X2 := by rw [IntWalk.i64_in _ (by omega)]; exact hX2
 have k8 : IntKind.i64.wrap (-1074 - ex) = X3 := by rw [IntWalk.i64_in _ (by omega)]; exact hcut
 have k4 : IntKind.i64.wrap (X2 + ex) = X4 := by rw [IntWalk.i64_in _ (by omega)]; exact hX4
 have k5 : IntKind.i64.wrap ((m : Int) + 1) = (m : Int) + 1 := IntWalk.i64_in _ (by omega)
 have k6 : IntKind.i64.wrap (X3 - 1) = X6 := by rw [IntWalk.i64_in _ (by omega)]; exact hX6
 have k7 : IntKind.i64.wrap (ex + X3) = X7 := by rw [IntWalk.i64_in _ (by omega)]; exact hX7
 have t2 : decide (X4 < -1074) = true := decide_eq_true (by omega)
 have t3 : decide (X3 ≤ 0) = false := decide_eq_false (by omega)
 have t4 : decide ((m : Int) + 1 < X3) = false := decide_eq_false (by omega)
 clear hn hc hm h hb hd h0 b1 b2 b3 hm2 hmm hcut hlo hX1 hX2 hX3 hX4 hX6 hX7
 go_enter Tryz.func154, Tryz.ntmps154
 go_wp2_with fail
 refine C1.out.mono ?_
 rintro e w1 ⟨rfl, hb1⟩
 go_wp2_with fail
 refine (C2.out _ hb1).mono ?_
 rintro e w2 ⟨A2, N2, c2, rfl, hN2, hc2, q2, hb2⟩
 obtain rfl : N2 = 0 := hN2
 have hb12 := below_le hb1 hb2
 have HC2 := Lib.hid hc2
 clear hc2
 go_wp2_with fail
 refine (C3.out _ hb12).mono ?_
 rintro e w3 ⟨A3, N3, c3, rfl, hN3, hc3, p3, hb3⟩
 have HB := Lib.hid (below_le hb12 hb3)
 have HQ3 := Lib.hid (q2.step hb3)
 have HC3 := Lib.hid hc3
 obtain rfl : N3 = 1 := hN3
 obtain ⟨pb, po, rfl, _, hcb⟩ := p3.2 (by rw [show (wds 1).length = 1 by decide]; omega)
 have l2 := hcb 0 1 (by decide)
 rw [Nat.add_zero] at l2
 clear hb1 hb2 hb3 hb12 hc3 q2 p3 C1 C2 C3 hcb
 have C6 := Lib.hid (plus_any A2 (some ⟨w3.heap.size, 0, none⟩) 0 c2 1 1 (wds 0) [1] (w3.alloc (.cells #[.int .u32 1] 42)) (by decide) (by omega) (HQ3.out.step ((Below.refl w3.heap.size w3).alloc (Nat.le_refl _) _)) rfl (by omega) ((one_rw w3).more (by simp)))
 rw [wds_val, show val [1] = 1 from rfl] at C6
 go_wp2_with fail
 refine C6.out.mono ?_
 rintro e w5 ⟨v5, rfl, ⟨A5, c5, rfl, hc5, r5⟩, b5⟩
 have HB5 := Lib.hid (below_le HB.out (below_le ((Below.refl w3.heap.size w3).alloc (Nat.le_refl _) _) b5))
 rw [show (wds (0 + 1)).length = 1 by decide] at hc5 ⊢
 have HR5 := Lib.hid r5
 clear hc5 r5 b5 C6
 go_wp2_with fail
 have K1 := Lib.hid (show Cp 164 #[.slice A5 1 c5, .int .i64 1] w5 fun e w' => e = .returned (.int .u64 0) ∧ w5 = w' from rword_any A5 1 c5 1 (wds (0 + 1)) w5.heap.size w5 (by decide) (by omega) HR5.out)
 have K0 := Lib.hid (show Cp 164 #[.slice A5 1 c5, .int .i64 0] w5 fun e w' => e = .returned (.int .u64 1) ∧ w5 = w' from rword_any A5 1 c5 0 (wds (0 + 1)) w5.heap.size w5 (by decide) (by omega) HR5.out)
 refine K1.out.mono ?_
 rintro e w' ⟨rfl, rfl⟩
 go_wp2_with fail
 refine K0.out.mono ?_
 rintro e w' ⟨rfl, rfl⟩
 go_wp2_with fail
 refine (C5.out _).mono ?_
 rintro e w' ⟨rfl, rfl⟩
 go_wp2
 go_ret
 exact ⟨rfl, HB5.out⟩
theorem fl_upto {N K : Nat} (h : N ≤ 9007199254740992) (hK : K = 1074) : fl N < 9218868437227405312 ∧ fmag (fl N) = N * 2 ^ K := by
 rcases Nat.eq_or_lt_of_le h with h1 | h1
 ·rw [h1, show fl 9007199254740992 = 4845873199050653696 by decide +kernel]
  refine ⟨by omega, ?_⟩
  obtain ⟨d, hd⟩ : ∃ d : Nat, d = 1075 := ⟨_, rfl⟩
  have := fmag_make 4503599627370496 d (by omega) (by omega)
  rw [show d * 4503599627370496 + 4503599627370496 = 4845873199050653696 by omega] at this
  rw [this, show d = K + 1 by omega, Nat.pow_succ, Nat.mul_comm (2 ^ K) 2, ← Nat.mul_assoc]
 ·obtain ⟨a, b⟩ := fmag_fl h1 hK
  exact ⟨b, a⟩
theorem rung_make {D E : Nat} (hE : E ≤ 9007199254740992) (hD : D = 0 ∨ 4503599627370496 ≤ E) : fmag (D * 4503599627370496 + E) = E * 2 ^ D := by
 rcases Nat.eq_or_lt_of_le hE with h | h
 ·rw [h, show D * 4503599627370496 + 9007199254740992 = (D + 1) * 4503599627370496 + 4503599627370496 by omega, fmag_make _ _ (by omega) (by omega), Nat.pow_succ, Nat.mul_comm (2 ^ D) 2, ← Nat.mul_assoc]
 ·rcases hD with h0 | h0
  ·rw [h0, Nat.zero_mul, Nat.zero_add, Nat.pow_zero, Nat.mul_one]; exact fmag_low h
  ·exact fmag_make _ _ h0 h
theorem Ld_make {E D : Nat} {e' : Int} (hE : E ≤ 9007199254740992) (hD : D = 0 ∨ 4503599627370496 ≤ E) (hD2 : D ≤ 2045) (he : e' = (D : Int) - 1074) (w : World) : Cq 206 #[.float .f64 (fl E), .int .i64 e'] (.float .f64 (min (D * 4503599627370496 + E) 9218868437227405312)) w := by
 obtain ⟨K, hK⟩ : ∃ K : Nat, K = 1074 := ⟨_, rfl⟩
 obtain ⟨y1, y2⟩ := fl_upto hE hK
 have hmk := rung_make hE hD
 rcases Nat.eq_zero_or_pos E with h0 | h0
 ·subst h0
  have : D = 0 := by omega
  subst this
  rw [fl_zero]
  exact ldexp_zero e' w
 ·have hy0 : 0 < fl E := fmag_pos.1 (by rw [y2]; exact Nat.mul_pos h0 (Nat.two_pow_pos K))
  have hyn : 4503599627370496 ≤ fl E := by
   rcases Nat.lt_or_ge (fl E) 4503599627370496 with h | h
   ·have h1 := fmag_low (r := fl E) (by omega)
    rw [y2] at h1
    have h2 : 1 * 2 ^ K ≤ E * 2 ^ K := Nat.mul_le_mul_right _ h0
    have h3 : 2 ^ 60 ≤ 2 ^ K := Nat.pow_le_pow_right (by omega) (by omega)
    have h4 : (2 : Nat) ^ 60 = 1152921504606846976 := by decide
    omega
   ·exact h
  rcases Nat.lt_or_ge (D * 4503599627370496 + E) 9218868437227405312 with h | h
  ·rw [Nat.min_eq_left (by omega)]
   rcases Nat.lt_or_ge D K with h1 | h1
   ·obtain ⟨j, hj⟩ : ∃ j, K = D + j := ⟨K - D, by omega⟩
    have := Ldexp_down (y := fl E) (D := j) (u := D * 4503599627370496 + E) hyn y1 (by omega) (by rw [hmk, y2, hj, Nat.pow_add, Nat.mul_assoc]) w
    rw [show e' = -(j : Int) by omega]
    exact this
   ·obtain ⟨j, hj⟩ : ∃ j, D = K + j := ⟨D - K, by omega⟩
    have := Ldexp_rep (y := fl E) (D := j) (u := D * 4503599627370496 + E) hy0 y1 h (by rw [hmk, y2, hj, Nat.pow_add, Nat.mul_assoc]) w
    rw [show e' = (j : Int) by omega]
    exact this
  ·rw [Nat.min_eq_right h]
   have hD3 : D = 2045 := by omega
   have hE3 : E = 9007199254740992 := by omega
   have := ldexp_any (fl E) 971 w hyn y1 (by omega)
   rw [show scl (fl E) 971 = 9218868437227405312 from by rw [hE3, show fl 9007199254740992 = 4845873199050653696 by decide +kernel]; decide] at this
   rw [show e' = ((971 : Nat) : Int) by omega]
   exact this
theorem rnear_all (A : Option Addr) (n c a b : Nat) (ex : Int) (l : List Nat) (w : World) (hn : l.length = n) (hc : n ≤ c) (hm : n ≤ 35184372087808) (h : RW w w.heap.size A l) (hb : btl l ≤ 32768) (he1 : -32768 ≤ ex) (he2 : ex ≤ 32768) (hab : (a : Int) - b = ex + 1074) :
  Ct 154 #[.slice A n c, .int .i64 ex] (.float .f64 (rnd (val l * 2 ^ a) (2 ^ b))) w := by
 have hB := Nat.two_pow_pos b
 rcases Nat.eq_zero_or_pos (btl l) with h0 | h0
 ·have h1 : val l = 0 := by
   by_cases e : nrm l = []
   ·have := val_nrm l
    rw [e] at this
    exact this.symm
   ·have b2 := (btl_bounds h.1 e).2.1
    rw [h0, Nat.pow_zero] at b2
    omega
  have h2 : rnd (val l * 2 ^ a) (2 ^ b) = 0 := by
   rw [h1, Nat.zero_mul]
   unfold rnd rplace
   rw [Nat.zero_div, ediv_zero]
   rfl
  rw [h2]
  exact rnear_none A n c ex l w hn hc hm h (by assumption)
 ·have hne : nrm l ≠ [] := by intro e; unfold btl at h0; rw [if_pos e] at h0; omega
  obtain ⟨b1, b2, b3⟩ := btl_bounds h.1 hne
  obtain ⟨m, hm2⟩ : ∃ m, btl l = m := ⟨_, rfl⟩
  rw [hm2] at b1 b2 h0 hb
  obtain ⟨v, hv⟩ : ∃ v, val l = v := ⟨_, rfl⟩
  rw [hv] at b1 b2 ⊢
  by_cases hinf : 1024 < (m : Int) + ex
  ·have : rnd (v * 2 ^ a) (2 ^ b) = 9218868437227405312 := by
    unfold rnd
    refine Nat.min_eq_right ?_
    have hp : 2046 ≤ rplace (v * 2 ^ a) (2 ^ b) := by
     unfold rplace
     have h1 : 2 ^ (m - 1 + a - b) ≤ v * 2 ^ a / 2 ^ b := by
      rw [Nat.le_div_iff_mul_le hB, ← Nat.pow_add, show m - 1 + a - b + b = m - 1 + a by omega, Nat.pow_add]
      exact Nat.mul_le_mul_right _ b1
     have h2 := (Nat.le_log2 (by have := Nat.two_pow_pos (m - 1 + a - b); omega)).2 h1
     omega
    have hc1 : 4503599627370496 ≤ ediv (v * 2 ^ a) (2 ^ rplace (v * 2 ^ a) (2 ^ b) * 2 ^ b) := by
     refine ediv_ge (Nat.mul_pos (Nat.two_pow_pos _) hB) ?_
     obtain ⟨D, hD⟩ : ∃ D, rplace (v * 2 ^ a) (2 ^ b) = D := ⟨_, rfl⟩
     rw [hD] at hp ⊢
     unfold rplace at hD
     have h3 : 2 ^ (v * 2 ^ a / 2 ^ b).log2 ≤ v * 2 ^ a / 2 ^ b := (log2_two _ (by
      rcases Nat.eq_zero_or_pos (v * 2 ^ a / 2 ^ b) with h4 | h4
      ·rw [h4, show Nat.log2 0 = 0 by decide] at hD; omega
      ·exact h4)).1
     have h5 := (Nat.le_div_iff_mul_le hB).1 h3
     rw [show (v * 2 ^ a / 2 ^ b).log2 = 52 + D by omega, Nat.pow_add] at h5
     rw [show (4503599627370496 : Nat) = 2 ^ 52 from rfl, ← Nat.mul_assoc]
     exact h5
    have : 2046 * 4503599627370496 ≤ rplace (v * 2 ^ a) (2 ^ b) * 4503599627370496 := Nat.mul_le_mul_right _ hp
    omega
   rw [this]
   exact rnear_inf A n c ex l w hn hc hm h (by omega) (by omega) (by omega) (by rw [hm2]; exact hinf)
  ·-- the place
   obtain ⟨D, hD⟩ : ∃ D : Nat, (max ((m : Int) - 53 + ex + 1074) 0).toNat = D := ⟨_, rfl⟩
   have hpl : rplace (v * 2 ^ a) (2 ^ b) = D := by
    refine rplace_of hB ?_ ?_
    ·rcases Nat.eq_zero_or_pos D with h1 | h1
     ·exact Or.inl h1
     ·refine Or.inr ?_
      rw [show (4503599627370496 : Nat) = 2 ^ 52 from rfl, ← Nat.pow_add, ← Nat.pow_add]
      refine Nat.le_trans ?_ (Nat.mul_le_mul_right _ b1)
      rw [← Nat.pow_add]
      exact Nat.pow_le_pow_right (by omega) (by omega)
    ·refine Nat.lt_of_lt_of_le (Nat.mul_lt_mul_of_pos_right b2 (Nat.two_pow_pos a)) ?_
     rw [show (9007199254740992 : Nat) = 2 ^ 53 from rfl, ← Nat.pow_add, ← Nat.pow_add, ← Nat.pow_add]
     exact Nat.pow_le_pow_right (by omega) (by omega)
   have hrnd : rnd (v * 2 ^ a) (2 ^ b) = min (D * 4503599627370496 + ediv (v * 2 ^ a) (2 ^ D * 2 ^ b)) 9218868437227405312 := by unfold rnd; rw [hpl]
   rw [hrnd]
   -- the digits kept, either way
   have hup : ∀ k : Nat, (D : Int) - 1074 - ex = -(k : Int) → ediv (v * 2 ^ a) (2 ^ D * 2 ^ b) = v * 2 ^ k := by
    intro k hk
    rw [← Nat.pow_add]
    have e0 : evn (v * 2 ^ k) 0 = v * 2 ^ k := by have := evn_exact (v * 2 ^ k) 0; rwa [Nat.pow_zero, Nat.mul_one] at this
    rw [← e0, ← ediv_evn, Nat.pow_zero]
    have := ediv_scale (u := v * 2 ^ k) (w := 1) (k := 2 ^ (D + b)) (Nat.two_pow_pos _)
    rw [Nat.one_mul] at this
    rw [← this, Nat.mul_assoc, ← Nat.pow_add, show k + (D + b) = a by omega]
   have hdn : ∀ k : Nat, (D : Int) - 1074 - ex = (k : Int) → ediv (v * 2 ^ a) (2 ^ D * 2 ^ b) = evn v k := by
    intro k hk
    rw [← Nat.pow_add, ← ediv_evn, show D + b = k + a by omega, Nat.pow_add, ediv_scale (Nat.two_pow_pos a)]
   rcases Int.lt_or_le ((D : Int) - 1074 - ex) 1 with hcut | hcut
   ·obtain ⟨k, hk⟩ : ∃ k : Nat, (D : Int) - 1074 - ex = -(k : Int) := ⟨(-((D : Int) - 1074 - ex)).toNat, by omega⟩
    rw [hup k hk]
    have hv53 : v < 9007199254740992 := Nat.lt_of_lt_of_le b2 (Nat.le_trans (Nat.pow_le_pow_right (by omega) (show m ≤ 53 by omega)) (by decide))
    have hc3 : v * 2 ^ k < 9007199254740992 := by
     have h1 : v * 2 ^ k < 2 ^ m * 2 ^ k := Nat.mul_lt_mul_of_pos_right b2 (Nat.two_pow_pos k)
     rw [← Nat.pow_add] at h1
     exact Nat.lt_of_lt_of_le h1 (Nat.le_trans (Nat.pow_le_pow_right (by omega) (show m + k ≤ 53 by omega)) (by decide))
    have hc4 : D = 0 ∨ 4503599627370496 ≤ v * 2 ^ k := by
     rcases Nat.eq_zero_or_pos D with h1 | h1
     ·exact Or.inl h1
     ·refine Or.inr ?_
      refine Nat.le_trans ?_ (Nat.mul_le_mul_right _ b1)
      rw [← Nat.pow_add, show m - 1 + k = 52 by omega]
      decide
    have hmk := rung_make (D := D) (E := v * 2 ^ k) (by omega) hc4
    have hD2 : D ≤ 2045 := by omega
    rw [Nat.min_eq_left (by omega)]
    refine rnear_ex A n c _ ex l w hn hc hm h (by rw [hv]; exact hv53) (by omega) (by omega) (by omega) ?_
    rw [hv, hmk, Nat.mul_assoc, ← Nat.pow_add, show k + D = (ex + 1074).toNat by omega]
   ·obtain ⟨d, hd⟩ : ∃ d : Nat, (D : Int) - 1074 - ex = ((d + 1 : Nat) : Int) := ⟨((D : Int) - 1074 - ex - 1).toNat, by omega⟩
    rw [hdn (d + 1) hd]
    have hE : evn v (d + 1) ≤ 9007199254740992 := by
     refine evn_le (Nat.le_of_lt (Nat.lt_of_lt_of_le b2 ?_))
     rw [show (9007199254740992 : Nat) = 2 ^ 53 from rfl, ← Nat.pow_add]
     exact Nat.pow_le_pow_right (by omega) (by omega)
    have hE2 : D = 0 ∨ 4503599627370496 ≤ evn v (d + 1) := by
     rcases Nat.eq_zero_or_pos D with h1 | h1
     ·exact Or.inl h1
     ·refine Or.inr (evn_ge ?_)
      rw [show (4503599627370496 : Nat) = 2 ^ 52 from rfl, ← Nat.pow_add]
      exact Nat.le_trans (Nat.pow_le_pow_right (by omega) (by omega)) b1
    have C5 := Lib.hid (fun W => Ld_make (e' := (D : Int) - 1074) hE hE2 (by omega) rfl W)
    by_cases hr : m = 54 + d
    ·refine rnear_round A n c d _ ex l w hn hc hm h (by rw [hm2]; exact hr) (by omega) (by omega) (by omega) ?_
     rw [hv, show ex + (((54 + d : Nat) : Int) - 53) = (D : Int) - 1074 by omega]
     exact C5
    ·have hD0 : D = 0 := by omega
     have he : ex + ((d + 1 : Nat) : Int) = (D : Int) - 1074 := by omega
     rcases Nat.lt_trichotomy (d + 1) m with h1 | h1 | h1
     ·refine rnear_sub A n c d m _ ex l w hn hc hm h hm2 (by omega) (by omega) (by omega) h1 (by omega) ?_
      rw [hv, he]
      exact C5
     ·have hq : v / 2 ^ (d + 1) = 0 := Nat.div_eq_of_lt (by rw [h1]; exact b2)
      have hev := evn_half v d
      have hp : v / 2 ^ d = 1 := by
       have e1 : 2 ^ d ≤ v := by rw [show d = m - 1 by omega]; exact b1
       have e2 : v < 2 * 2 ^ d := by rw [Nat.mul_comm, ← Nat.pow_succ, show d.succ = m by omega]; exact b2
       have l1 : 1 ≤ v / 2 ^ d := (Nat.le_div_iff_mul_le (Nat.two_pow_pos d)).2 (by omega)
       have l2 : v / 2 ^ d < 2 := (Nat.div_lt_iff_lt_mul (Nat.two_pow_pos d)).2 e2
       omega
      rw [hq, hp] at hev
      cases hmo : decide (v % 2 ^ d ≠ 0)
      ·rw [hmo] at hev
       have hev0 : evn v (d + 1) = 0 := by rw [hev]; decide
       rw [hev0, fl_zero, ← he] at C5
       rw [hev0]
       exact rnear_even A n c d m _ ex l w hn hc hm h hm2 (by omega) (by omega) (by omega) h1 (by rw [hv]; exact hmo) C5
      ·rw [hmo] at hev
       have hev1 : evn v (d + 1) = 1 := by rw [hev]; decide
       rw [hev1, ← he] at C5
       rw [hev1]
       exact rnear_up A n c d m _ ex l w hn hc hm h hm2 (by omega) (by omega) (by omega) h1 (by rw [hv]; exact hmo) C5
     ·have hev0 : evn v (d + 1) = 0 := by
       refine evn_far ?_
       rw [Nat.pow_succ]
       have : v < 2 ^ d := Nat.lt_of_lt_of_le b2 (Nat.pow_le_pow_right (by omega) (by omega))
       omega
      rw [hev0, fl_zero, ← he] at C5
      rw [hev0]
      by_cases h2 : d = m
      ·exact rnear_less A n c d m _ ex l w hn hc hm h hm2 (by omega) (by omega) (by omega) h2 C5
      ·rw [hD0]
       exact rnear_far A n c ex l w hn hc hm h (by omega) (by omega) (by omega) (by rw [hm2]; omega)


end Go.Proofs.YtfcpkdafkmohkaaGreatDoor
namespace Go.Proofs.YtfcpkdafkmohkaaGreatDoor
open Go.RowKit
structure NV (w : World) (A : Option Addr) (n c v : Nat) : Prop where
 len : (wds v).length = n
 cap : n ≤ c
 row : RW w w.heap.size A (wds v)
theorem NV.step {w w' : World} {A : Option Addr} {n c v : Nat} (h : NV w A n c v) (hb : Below w.heap.size w w') : NV w' A n c v := ⟨h.len, h.cap, h.row.step hb⟩
def bln (v : Nat) : Nat := btl (wds v)
theorem wds_nil {v : Nat} (h : 0 < v) : nrm (wds v) ≠ [] := by
 intro e
 have := nrm_eq_nil e
 rw [wds_val] at this
 omega
theorem bln_bounds {v : Nat} (h : 0 < v) : 2 ^ (bln v - 1) ≤ v ∧ v < 2 ^ bln v ∧ 0 < bln v := by
 have := btl_bounds (wds_ws v) (wds_nil h)
 rw [wds_val] at this
 exact this
theorem bln_zero : bln 0 = 0 := by decide
theorem bln_le {v L : Nat} (h : v < 2 ^ L) : bln v ≤ L := by
 rcases Nat.eq_zero_or_pos v with h0 | h0
 ·rw [h0, bln_zero]; omega
 ·have h1 := (bln_bounds h0).1
  have h2 := (Nat.pow_lt_pow_iff_right (a := 2) (by omega)).1 (Nat.lt_of_le_of_lt h1 h)
  omega
theorem len_bits {v L : Nat} (h : v < 2 ^ (32 * L)) : (wds v).length ≤ L := by
 refine wds_len_lt ?_
 rw [show (4294967296 : Nat) = 2 ^ 32 from rfl, ← Nat.pow_mul]
 exact h
theorem small_len {v : Nat} (h : bln v ≤ 30000) : (wds v).length ≤ 940 := by
 obtain ⟨L, hL⟩ : ∃ L : Nat, L = 940 := ⟨_, rfl⟩
 rw [← hL]
 rcases Nat.eq_zero_or_pos v with h0 | h0
 ·rw [h0]; show 0 ≤ L; omega
 ·exact len_bits (Nat.lt_of_lt_of_le (bln_bounds h0).2.1 (Nat.pow_le_pow_right (by omega) (by omega)))
theorem lng_bln {v : Nat} (h : bln v ≤ 30000) : lngB v = false := by
 unfold lngB
 have := small_len h
 exact decide_eq_false (by omega)
theorem bln_mul (a b : Nat) : bln (a * b) ≤ bln a + bln b := by
 rcases Nat.eq_zero_or_pos a with h0 | h0
 ·rw [h0, Nat.zero_mul, bln_zero]; omega
 rcases Nat.eq_zero_or_pos b with h1 | h1
 ·rw [h1, Nat.mul_zero, bln_zero]; omega
 ·refine bln_le ?_
  rw [Nat.pow_add]
  exact Nat.mul_lt_mul'' (bln_bounds h0).2.1 (bln_bounds h1).2.1
theorem bln_mono {a b : Nat} (h : a ≤ b) : bln a ≤ bln b := by
 rcases Nat.eq_zero_or_pos b with h0 | h0
 ·have : a = 0 := by omega
  rw [this, h0]; omega
 ·exact bln_le (Nat.lt_of_le_of_lt h (bln_bounds h0).2.1)
theorem bln_pow2 (k : Nat) : bln (2 ^ k) ≤ k + 1 := bln_le (by rw [Nat.pow_succ]; have := Nat.two_pow_pos k; omega)
theorem bln_pow (b k : Nat) : bln (b ^ k) ≤ bln b * k + 1 := by
 rcases Nat.eq_zero_or_pos b with h0 | h0
 ·cases k with
  | zero => rw [Nat.pow_zero, show bln 1 = 1 by decide]; omega
  | succ k => rw [h0, Nat.zero_pow (by omega), bln_zero]; omega
 ·refine bln_le ?_
  have h1 := (bln_bounds h0).2.1
  have h2 : b ^ k ≤ (2 ^ bln b) ^ k := Nat.pow_le_pow_left (Nat.le_of_lt h1) k
  rw [← Nat.pow_mul] at h2
  rw [Nat.pow_succ]
  have := Nat.two_pow_pos (bln b * k)
  omega
theorem bln_five (k : Nat) : bln (5 ^ k) ≤ 3 * k + 1 := by have := bln_pow 5 k; rw [show bln 5 = 3 by decide] at this; exact this
theorem bln_ten (k : Nat) : bln (10 ^ k) ≤ 4 * k + 1 := by have := bln_pow 10 k; rw [show bln 10 = 4 by decide] at this; exact this
/-! ### The program's functions -/
def NOk (v : Nat) (w : World) (e : Ending) (w' : World) : Prop := ∃ A n c, e = .returned (.tuple #[.slice A n c, .int .i64 0]) ∧ NV w' A n c v ∧ Below w.heap.size w w'
theorem NOk.of {v : Nat} {w w' : World} {e : Ending} (hl : lngB v = false) (h : NatPost v w e w') : NOk v w e w' := by
 obtain ⟨A, n, c, k, he, hp, hb⟩ := h
 rw [if_neg (by rw [hl]; simp)] at hp
 obtain ⟨h1, h2, h3, h4⟩ := hp
 subst h3
 exact ⟨A, n, c, he, ⟨h1.symm, h2, h4⟩, hb⟩
theorem nmul {w : World} {A C : Option Addr} {n c m d a b : Nat} (hA : NV w A n c a) (hB : NV w C m d b) (ha : bln a ≤ 15000) (hb : bln b ≤ 15000) :
  Cp 108 #[.slice A n c, .slice C m d] w (NOk (a * b) w) := by
 have la := lng_bln (v := a) (by omega)
 have lb := lng_bln (v := b) (by omega)
 have lab := lng_bln (v := a * b) (Nat.le_trans (bln_mul a b) (by omega))
 have h1 := small_len (v := a) (by omega)
 have h2 := small_len (v := b) (by omega)
 rw [hA.len] at h1
 rw [hB.len] at h2
 have := mul_any A C n c m d (wds a) (wds b) w hA.len hA.cap (by omega) hA.row hB.len hB.cap (by omega) hB.row
 rw [wds_val, wds_val] at this
 refine this.mono fun e w' x => ?_
 unfold MulPost at x
 rw [if_neg (by rw [la, lb]; simp)] at x
 exact NOk.of lab x
theorem npow (b n : Nat) (w : World) (hb : b < 4294967296) (hl : bln (b ^ n) ≤ 30000) (hn : n < 100000) : Cp 107 #[.int .u32 b, .int .i64 n] w (NOk (b ^ n) w) :=
 (pow_any b n w hb (by omega)).mono fun e w' x => NOk.of (lng_bln hl) x
theorem nshl {w : World} {A : Option Addr} {n c a : Nat} (hA : NV w A n c a) (p : Nat) (ha : bln a + p ≤ 29000) : Cp 157 #[.slice A n c, .int .i64 p] w (NOk (a * 2 ^ p) w) := by
 have la := lng_bln (v := a) (by omega)
 have h1 := small_len (v := a) (by omega)
 rw [hA.len] at h1
 have hp := bln_pow2 p
 have lab := lng_bln (v := a * 2 ^ p) (Nat.le_trans (bln_mul a _) (by omega))
 have := pshl_any A n c p (wds a) w hA.len hA.cap (by omega) hA.row
 rw [wds_val] at this
 refine this.mono fun e w' x => ?_
 unfold ShlQ at x
 rw [if_neg (by rw [la]; simp), if_neg (by omega), Int.toNat_natCast] at x
 exact NOk.of lab x
theorem nadd {w : World} {A C : Option Addr} {n c m d a b : Nat} (hA : NV w A n c a) (hB : NV w C m d b) (ha : bln (a + b) ≤ 30000) :
  Cp 124 #[.slice A n c, .slice C m d] w (NOk (a + b) w) := by
 have b1 := bln_mono (show a ≤ a + b by omega)
 have b2 := bln_mono (show b ≤ a + b by omega)
 have la := lng_bln (v := a) (by omega)
 have lb := lng_bln (v := b) (by omega)
 have h1 := small_len (v := a) (by omega)
 have h2 := small_len (v := b) (by omega)
 rw [hA.len] at h1
 rw [hB.len] at h2
 have := add_any A C n c m d (wds a) (wds b) w hA.len hA.cap (by omega) hA.row hB.len hB.cap (by omega) hB.row
 rw [wds_val, wds_val] at this
 refine this.mono fun e w' x => ?_
 unfold AddP at x
 rw [if_neg (by rw [la, lb]; simp)] at x
 exact NOk.of (lng_bln ha) x
theorem nsub {w : World} {A C : Option Addr} {n c m d a b : Nat} (hA : NV w A n c a) (hB : NV w C m d b) (ha : bln a ≤ 30000) (hle : b ≤ a) :
  Cp 158 #[.slice A n c, .slice C m d] w (NOk (a - b) w) := by
 have b2 := bln_mono hle
 have b3 := bln_mono (show a - b ≤ a by omega)
 have la := lng_bln (v := a) (by omega)
 have lb := lng_bln (v := b) (by omega)
 have h1 := small_len (v := a) (by omega)
 have h2 := small_len (v := b) (by omega)
 rw [hA.len] at h1
 rw [hB.len] at h2
 have := sub_any A C n c m d (wds a) (wds b) w hA.len hA.cap (by omega) hA.row hB.len hB.cap (by omega) hB.row
 rw [wds_val, wds_val] at this
 refine this.mono fun e w' x => ?_
 unfold SubP at x
 rw [if_neg (by rw [la, lb]; simp), if_neg (by omega)] at x
 exact NOk.of (lng_bln (by omega)) x
def DOk (a b : Nat) (w : World) (e : Ending) (w' : World) : Prop := ∃ A n c C m d, e = .returned (.tuple #[.slice A n c, .slice C m d, .int .i64 0]) ∧ NV w' A n c (a / b) ∧ NV w' C m d (a % b) ∧ Below w.heap.size w w'
theorem ndiv {w : World} {A C : Option Addr} {n c m d a b : Nat} (hA : NV w A n c a) (hB : NV w C m d b) (ha : bln a ≤ 30000) (hb : bln b ≤ 30000) (h0 : 0 < b) :
  Cp 174 #[.slice A n c, .slice C m d] w (DOk a b w) := by
 have la := lng_bln (v := a) (by omega)
 have lb := lng_bln (v := b) (by omega)
 have h1 := small_len (v := a) (by omega)
 have h2 := small_len (v := b) (by omega)
 rw [hA.len] at h1
 rw [hB.len] at h2
 have := div_any A C n c m d (wds a) (wds b) w hA.len hA.cap (by omega) hA.row hB.len hB.cap (by omega) hB.row
 rw [wds_val, wds_val] at this
 refine this.mono fun e w' x => ?_
 have hlb : (lngB a || lngB b) = false := by rw [la, lb]; rfl
 obtain ⟨A2, n2, c2, C2, m2, d2, he, ⟨x1, x2, x3, x4, x5, x6⟩, hbw⟩ := x
 have hB2 := divB_ok hlb h0
 unfold divQ at x1 x5
 unfold divR at x3 x6
 rw [if_pos hB2] at x1 x5 x3 x6
 have hk : divK a b = 0 := by unfold divK; rw [if_neg (by rw [hlb]; simp), if_neg (by omega)]
 rw [hk] at he
 exact ⟨A2, n2, c2, C2, m2, d2, he, ⟨x1.symm, x2, x5⟩, ⟨x3.symm, x4, x6⟩, hbw⟩
theorem nbits {w : World} {A : Option Addr} {n c a : Nat} (hA : NV w A n c a) (ha : bln a ≤ 30000) : Cq 156 #[.slice A n c] (.int .i64 (bln a : Nat)) w := by
 have h1 := small_len (v := a) (by omega)
 rw [hA.len] at h1
 exact bits_any A n c (wds a) w.heap.size w hA.len hA.cap (by omega) hA.row
def NRet (v : Nat) (w : World) (e : Ending) (w' : World) : Prop := ∃ A n c, e = .returned (.slice A n c) ∧ NV w' A n c v ∧ Below w.heap.size w w'
theorem NRet.of {v : Nat} {w w' : World} {e : Ending} (h : SlPost (wds v) w e w') : NRet v w e w' := by
 obtain ⟨V, he, ⟨A, c, hv, hc, hr⟩, hb⟩ := h
 subst hv
 exact ⟨A, _, c, he, ⟨rfl, hc, hr⟩, hb⟩
theorem nof (n : Nat) (hn : n < 18446744073709551616) (w : World) : Cp 110 #[.int .u64 n] w (NRet n w) :=
 (of_any n hn w).mono fun e w' x => NRet.of (by rw [two_wds n hn] at x; exact x)
/-! ### The reference's functions -/
theorem rnof (n : Nat) (hn : n < 18446744073709551616) (w : World) : Cp 184 #[.int .u64 n] w (NRet n w) :=
 (rof_any n hn w).mono fun e w' x => NRet.of (by rw [two_wds n hn] at x; exact x)
theorem rntimes {w : World} {A C : Option Addr} {n c m d a b : Nat} (hA : NV w A n c a) (hB : NV w C m d b) (ha : bln a ≤ 30000) (hb : bln b ≤ 30000) :
  Cp 51 #[.slice A n c, .slice C m d] w (NRet (a * b) w) := by
 have h1 := small_len (v := a) (by omega)
 have h2 := small_len (v := b) (by omega)
 rw [hA.len] at h1
 rw [hB.len] at h2
 have := times_any A C n c m d (wds a) (wds b) w hA.len (by omega) hA.row hB.len (by omega) hB.row
 rw [wds_val, wds_val] at this
 exact this.mono fun e w' x => NRet.of x
theorem rnplus {w : World} {A C : Option Addr} {n c m d a b : Nat} (hA : NV w A n c a) (hB : NV w C m d b) (ha : bln a ≤ 30000) (hb : bln b ≤ 30000) :
  Cp 103 #[.slice A n c, .slice C m d] w (NRet (a + b) w) := by
 have h1 := small_len (v := a) (by omega)
 have h2 := small_len (v := b) (by omega)
 rw [hA.len] at h1
 rw [hB.len] at h2
 have := plus_any A C n c m d (wds a) (wds b) w hA.len (by omega) hA.row hB.len (by omega) hB.row
 rw [wds_val, wds_val] at this
 exact this.mono fun e w' x => NRet.of x
theorem rnup {w : World} {A : Option Addr} {n c a : Nat} (hA : NV w A n c a) (p : Nat) (ha : bln a ≤ 30000) (hp : p ≤ 32768) : Cp 102 #[.slice A n c, .int .i64 p] w (NRet (a * 2 ^ p) w) := by
 have h1 := small_len (v := a) (by omega)
 rw [hA.len] at h1
 have := up_any A n c p (wds a) w hA.len hA.cap (by omega) hA.row hp
 rw [wds_val] at this
 exact this.mono fun e w' x => NRet.of x
def HRet (a b : Nat) (w : World) (e : Ending) (w' : World) : Prop := ∃ A n c C m d, e = .returned (.tuple #[.slice A n c, .slice C m d]) ∧ NV w' A n c (a / b) ∧ NV w' C m d (a % b) ∧ Below w.heap.size w w'
theorem rnbits {w : World} {A : Option Addr} {n c a : Nat} (hA : NV w A n c a) (ha : bln a ≤ 30000) : Ct 163 #[.slice A n c] (.int .i64 (bln a : Nat)) w := by
 have h1 := small_len (v := a) (by omega)
 rw [hA.len] at h1
 exact rbits_any A n c (wds a) w.heap.size w hA.len hA.cap (by omega) hA.row
theorem rnnear {w : World} {A : Option Addr} {n c a : Nat} (hA : NV w A n c a) (ha : bln a ≤ 30000) (x y : Nat) (ex : Int) (he1 : -32768 ≤ ex) (he2 : ex ≤ 32768) (hxy : (x : Int) - y = ex + 1074) :
  Ct 154 #[.slice A n c, .int .i64 ex] (.float .f64 (rnd (a * 2 ^ x) (2 ^ y))) w := by
 have h1 := small_len (v := a) (by omega)
 rw [hA.len] at h1
 have := rnear_all A n c x y ex (wds a) w hA.len hA.cap (by omega) hA.row (show bln a ≤ 32768 by omega) he1 he2 hxy
 rw [wds_val] at this
 exact this
theorem rnhalved {w : World} {A C : Option Addr} {n c m d a b : Nat} (hA : NV w A n c a) (hB : NV w C m d b) (ha : bln a ≤ 30000) (hb : bln b ≤ 30000) (h0 : 0 < b) :
  Cp 49 #[.slice A n c, .slice C m d] w (HRet a b w) := by
 have h1 := small_len (v := a) (by omega)
 have h2 := small_len (v := b) (by omega)
 rw [hA.len] at h1
 rw [hB.len] at h2
 have := halved_any A C n c m d (wds a) (wds b) w hA.len (by omega) hA.row hB.len (by omega) hB.row (wds_nrm b) (by rw [wds_val]; exact h0)
 rw [wds_val, wds_val] at this
 refine this.mono fun e w' x => ?_
 obtain ⟨A2, n2, c2, C2, m2, d2, he, ⟨x1, x2, x3, x4, x5, x6⟩, hbw⟩ := x
 exact ⟨A2, n2, c2, C2, m2, d2, he, ⟨x1.symm, x2, x5⟩, ⟨x3.symm, x4, x6⟩, hbw⟩
theorem wds_one {x : Nat} (h0 : 0 < x) (hx : x < 4294967296) : wds x = [x] := by
 have h := nrm_wds (l := [x]) (Ws.cons hx Ws.nil)
 rw [show val [x] = x by simp [val]] at h
 rw [← h]
 exact nrm_cons (fun e => by have := e.1; omega)
theorem NV.lit (W : World) (x : Nat) (h0 : 0 < x) (hx : x < 4294967296) : NV (W.alloc (.cells #[.int .u32 (x : Int)] 42)) (some ⟨W.heap.size, 0, none⟩) 1 1 x :=
 ⟨by rw [wds_one h0 hx]; rfl, Nat.le_refl _, by rw [wds_one h0 hx]; exact lit_new W x hx⟩

end Go.Proofs.YtfcpkdafkmohkaaGreatDoor
namespace Go.Proofs.YtfcpkdafkmohkaaGreatDoor
open Go.RowKit
theorem below_setRow' {B g : Nat} {a w : World} (h : Below B a w) (hg : B ≤ g) (c : Array Value) : Below B a (w.setRow g c) :=
 ⟨h.os, h.tape, h.output, by rw [setRow_size]; exact h.size, fun k hk => (setRow_other w g k c (by omega)).trans (h.block k hk)⟩
theorem results_cell_two {fn : Func} {p t u : Tmp} {ty : TypeId} (h : fn.results = #[.cell p ty, .tmp t, .tmp u]) (tmps : Array Value) (P : Program) (w : World) (a : Addr) (v : Value) (ha : tmps.getD p undef = .pointer (some a)) (hl : (loadVar ty a).run P w = .ok v w) :
  (results fn tmps).run P w = .ok (.tuple #[v, tmps.getD t undef, tmps.getD u undef]) w := by
 simp only [results, h]
 simp [-Array.getD_eq_getD_getElem?, ha, asAddr, hl]
def Rc (w : World) (g : Nat) (a b c : Value) : Prop := w.heap[g]? = some (.cells #[a, b, c] 64 (0, 0))
theorem Rc.cells {w : World} {g : Nat} {a b c : Value} (h : Rc w g a b c) : w.cell? ⟨g, 0, none⟩ = some a ∧ w.cell? ⟨g, 1, none⟩ = some b ∧ w.cell? ⟨g, 2, none⟩ = some c ∧ (∀ k, w.frozen? ⟨g, k, none⟩ = false) := by
 unfold Rc at h
 refine ⟨by simp [World.cell?, h], by simp [World.cell?, h], by simp [World.cell?, h], fun k => by simp [World.frozen?, h]⟩
theorem Rc.below {w w' : World} {g B : Nat} {a b c : Value} (h : Rc w g a b c) (hb : Below B w w') (hg : g < B) : Rc w' g a b c := (hb.block g hg).trans h
theorem Rc.set0 {w : World} {g : Nat} {a b c : Value} (h : Rc w g a b c) (v : Value) : Rc (w.setCell ⟨g, 0, none⟩ v) g v b c := by
 have := heap_setCell_same w g 0 _ _ v h
 exact this
theorem Rc.set1 {w : World} {g : Nat} {a b c : Value} (h : Rc w g a b c) (v : Value) : Rc (w.setCell ⟨g, 1, none⟩ v) g a v c := by
 have := heap_setCell_same w g 1 _ _ v h
 exact this
theorem Rc.set2 {w : World} {g : Nat} {a b c : Value} (h : Rc w g a b c) (v : Value) : Rc (w.setCell ⟨g, 2, none⟩ v) g a b v := by
 have := heap_setCell_same w g 2 _ _ v h
 exact this
theorem Rc.other {w : World} {g k i : Nat} {a b c v : Value} (h : Rc w g a b c) (hk : g ≠ k) : Rc (w.setCell ⟨k, i, none⟩ v) g a b c := (heap_setCell_other w ⟨k, i, none⟩ g v hk).trans h
def zs : Value := .string ⟨#[]⟩
structure Rd (W w : World) (a b c : Value) : Prop where
 lo : Rc w W.heap.size zs zs (.int .i64 0)
 hi : Rc w (W.heap.size + 1) a b c
 bw : Below W.heap.size W w
 sz : W.heap.size + 2 ≤ w.heap.size
theorem Rd.start (W : World) : Rd W ((W.alloc (.cells #[zs, zs, .int .i64 0] 64)).alloc (.cells #[zs, zs, .int .i64 0] 64)) zs zs (.int .i64 0) := by
 obtain ⟨V, hV⟩ : ∃ V, W.alloc (.cells #[zs, zs, .int .i64 0] 64) = V := ⟨_, rfl⟩
 have hs : V.heap.size = W.heap.size + 1 := by rw [← hV]; simp
 have h1 : Rc V W.heap.size zs zs (.int .i64 0) := by rw [← hV]; exact heap_alloc_last W _
 have b1 : Below W.heap.size W V := by rw [← hV]; exact (Below.refl _ _).alloc (Nat.le_refl _) _
 have b2 : Below V.heap.size V (V.alloc (.cells #[zs, zs, .int .i64 0] 64)) := (Below.refl _ _).alloc (Nat.le_refl _) _
 rw [hV]
 refine ⟨h1.below b2 (by omega), ?_, below_le b1 b2, by simp; omega⟩
 rw [← hs]
 exact heap_alloc_last V _
theorem Rd.step {W w w' : World} {a b c : Value} (h : Rd W w a b c) (hb : Below w.heap.size w w') : Rd W w' a b c :=
 ⟨h.lo.below hb (by have := h.sz; omega), h.hi.below hb (by have := h.sz; omega), below_le h.bw hb, Nat.le_trans h.sz hb.size⟩
theorem Rd.put0 {W w : World} {a b c : Value} (h : Rd W w a b c) (v : Value) : Rd W (w.setCell ⟨W.heap.size + 1, 0, none⟩ v) v b c :=
 ⟨h.lo.other (by omega), h.hi.set0 v, h.bw.setCell (by show W.heap.size ≤ W.heap.size + 1; omega) _, by simp only [World.setCell, Array.size_modify]; exact h.sz⟩
theorem Rd.put1 {W w : World} {a b c : Value} (h : Rd W w a b c) (v : Value) : Rd W (w.setCell ⟨W.heap.size + 1, 1, none⟩ v) a v c :=
 ⟨h.lo.other (by omega), h.hi.set1 v, h.bw.setCell (by show W.heap.size ≤ W.heap.size + 1; omega) _, by simp only [World.setCell, Array.size_modify]; exact h.sz⟩
theorem Rd.put2 {W w : World} {a b c : Value} (h : Rd W w a b c) (v : Value) : Rd W (w.setCell ⟨W.heap.size + 1, 2, none⟩ v) a b v :=
 ⟨h.lo.other (by omega), h.hi.set2 v, h.bw.setCell (by show W.heap.size ≤ W.heap.size + 1; omega) _, by simp only [World.setCell, Array.size_modify]; exact h.sz⟩
set_option maxRecDepth 100000 in
set_option maxHeartbeats 1000000 in
theorem tcutDecimal_none (s : ByteArray) (w : World) (S1 : ByteArray)
   (C1 : Hid (∀ W, Ct 86 #[.string s, .int .i64 10] (.tuple #[.string ⟨#[]⟩, .string S1]) W))
   (C2 : Hid (∀ W, Cq 131 #[.string S1, .string ⟨#[46]⟩] (.tuple #[.string S1, .bool false]) W)) :
    Cp 68 #[.string s] w (fun e w' => e = .returned (.tuple #[.agg #[.string ⟨#[]⟩, .string ⟨#[]⟩, .int .i64 0], .string ⟨#[]⟩, .bool false]) ∧ Below w.heap.size w w') := by
  have R0 := Lib.hid (Rd.start w)
  go_enter Tryz.func68, Tryz.ntmps68
  go_wp2_with fail
  refine (C1.out _).mono ?_
  rintro e w1 ⟨rfl, hb1⟩
  have R1 := Lib.hid (R0.out.step hb1)
  obtain ⟨c0, c1, c2, fz⟩ := R1.out.hi.cells
  have f0 := fz 0
  clear fz hb1
  go_wp2_with fail
  refine (C2.out _).mono ?_
  rintro e w2 ⟨rfl, rfl⟩
  have R2 := Lib.hid (R1.out.put0 (.string ⟨#[]⟩))
  generalize w1.setCell ⟨w.heap.size + 1, 0, none⟩ (.string ⟨#[]⟩) = w2 at *
  clear c0 c1 c2 f0
  obtain ⟨c0, c1, c2, fz⟩ := R2.out.hi.cells
  have f0 := fz 0
  clear fz
  unfold zs at c1
  have HG := Lib.hid (show w2.heap[w.heap.size]? = some (.cells #[.string ⟨#[]⟩, .string ⟨#[]⟩, .int .i64 0] 64 (0, 0)) from R2.out.lo)
  have HB := Lib.hid R2.out.bw
  go_wp2_with (first | (refine wpList_store_row rfl 64 _ _ rfl w.heap.size #[.string ⟨#[]⟩, .string ⟨#[]⟩, .int .i64 0] rfl rfl 64 #[.string ⟨#[]⟩, .string ⟨#[]⟩, .int .i64 0] HG.out (by first | kernel_rfl | rfl) rfl (by first | kernel_rfl | rfl) ?_))
  exact bodyPost_ret (results_cell_two rfl _ _ _ _ _ rfl (run_loadVar_row _ w.heap.size 64 64 _ (0, 0) _ (setRow_heap _ _ _ _ _ _ HG.out) Tryz.underlying64 rfl (by first | kernel_rfl | rfl))) rfl ⟨rfl, below_setRow' HB.out (Nat.le_refl _) _⟩
set_option maxRecDepth 100000 in
set_option maxHeartbeats 2000000 in
theorem tcutDecimal_a_false (s : ByteArray) (w : World) (Wt S1 t0 Rt : ByteArray) (X : Int) (n2 : Wt.toList.isEmpty = false)
   (C1 : Hid (∀ W, Ct 86 #[.string s, .int .i64 10] (.tuple #[.string Wt, .string S1]) W))
   (C2 : Hid (∀ W, Cq 131 #[.string S1, .string ⟨#[46]⟩] (.tuple #[.string t0, .bool false]) W))
   (C3 : Hid (∀ W, Ct 132 #[.string S1] (.tuple #[.int .i64 X, .string Rt, .bool false]) W)) :
    Cp 68 #[.string s] w (fun e w' => e = .returned (.tuple #[.agg #[.string Wt, .string ⟨#[]⟩, .int .i64 0], .string S1, .bool true]) ∧ Below w.heap.size w w') := by
  have R0 := Lib.hid (Rd.start w)
  go_enter Tryz.func68, Tryz.ntmps68
  go_wp2_with fail
  refine (C1.out _).mono ?_
  rintro e w1 ⟨rfl, hb1⟩
  have R1 := Lib.hid (R0.out.step hb1)
  clear hb1
  obtain ⟨c0, c1, c2, fz⟩ := R1.out.hi.cells
  have f0 := fz 0
  have f1 := fz 1
  have f2 := fz 2
  clear fz
  try unfold zs at c0
  try unfold zs at c1
  go_wp2_with fail
  refine (C2.out _).mono ?_
  rintro e w2 ⟨rfl, rfl⟩
  have R2 := Lib.hid (R1.out.put0 (.string Wt))
  generalize w1.setCell ⟨w.heap.size + 1, 0, none⟩ (.string Wt) = w2 at *
  clear c0 c1 c2 f0 f1 f2
  obtain ⟨c0, c1, c2, fz⟩ := R2.out.hi.cells
  have f0 := fz 0
  have f1 := fz 1
  have f2 := fz 2
  clear fz
  try unfold zs at c0
  try unfold zs at c1
  go_wp2_with fail
  refine (C3.out _).mono ?_
  rintro e w3 ⟨rfl, hb3⟩
  have R3 := Lib.hid (R2.out.step hb3)
  clear hb3 c0 c1 c2 f0 f1 f2
  obtain ⟨c0, c1, c2, fz⟩ := R3.out.hi.cells
  have f0 := fz 0
  have f1 := fz 1
  have f2 := fz 2
  clear fz
  try unfold zs at c0
  try unfold zs at c1
  have HG := Lib.hid (show w3.heap[w.heap.size]? = some (.cells #[.string ⟨#[]⟩, .string ⟨#[]⟩, .int .i64 0] 64 (0, 0)) from R3.out.lo)
  have HB := Lib.hid R3.out.bw
  go_wp2_with (first | (refine wpList_store_row rfl 64 _ _ rfl w.heap.size #[.string Wt, .string ⟨#[]⟩, .int .i64 0] rfl rfl 64 #[.string ⟨#[]⟩, .string ⟨#[]⟩, .int .i64 0] HG.out (by first | kernel_rfl | rfl) rfl (by first | kernel_rfl | rfl) ?_))
  exact bodyPost_ret (results_cell_two rfl _ _ _ _ _ rfl (run_loadVar_row _ w.heap.size 64 64 _ (0, 0) _ (setRow_heap _ _ _ _ _ _ HG.out) Tryz.underlying64 rfl (by first | kernel_rfl | rfl))) rfl ⟨rfl, below_setRow' HB.out (Nat.le_refl _) _⟩
set_option maxRecDepth 100000 in
set_option maxHeartbeats 2000000 in
theorem tcutDecimal_a_true (s : ByteArray) (w : World) (Wt S1 t0 Rt : ByteArray) (X : Int) (n2 : Wt.toList.isEmpty = false)
   (C1 : Hid (∀ W, Ct 86 #[.string s, .int .i64 10] (.tuple #[.string Wt, .string S1]) W))
   (C2 : Hid (∀ W, Cq 131 #[.string S1, .string ⟨#[46]⟩] (.tuple #[.string t0, .bool false]) W))
   (C3 : Hid (∀ W, Ct 132 #[.string S1] (.tuple #[.int .i64 X, .string Rt, .bool true]) W)) :
    Cp 68 #[.string s] w (fun e w' => e = .returned (.tuple #[.agg #[.string Wt, .string ⟨#[]⟩, .int .i64 X], .string Rt, .bool true]) ∧ Below w.heap.size w w') := by
  have R0 := Lib.hid (Rd.start w)
  go_enter Tryz.func68, Tryz.ntmps68
  go_wp2_with fail
  refine (C1.out _).mono ?_
  rintro e w1 ⟨rfl, hb1⟩
  have R1 := Lib.hid (R0.out.step hb1)
  clear hb1
  obtain ⟨c0, c1, c2, fz⟩ := R1.out.hi.cells
  have f0 := fz 0
  have f1 := fz 1
  have f2 := fz 2
  clear fz
  try unfold zs at c0
  try unfold zs at c1
  go_wp2_with fail
  refine (C2.out _).mono ?_
  rintro e w2 ⟨rfl, rfl⟩
  have R2 := Lib.hid (R1.out.put0 (.string Wt))
  generalize w1.setCell ⟨w.heap.size + 1, 0, none⟩ (.string Wt) = w2 at *
  clear c0 c1 c2 f0 f1 f2
  obtain ⟨c0, c1, c2, fz⟩ := R2.out.hi.cells
  have f0 := fz 0
  have f1 := fz 1
  have f2 := fz 2
  clear fz
  try unfold zs at c0
  try unfold zs at c1
  go_wp2_with fail
  refine (C3.out _).mono ?_
  rintro e w3 ⟨rfl, hb3⟩
  have R3 := Lib.hid (R2.out.step hb3)
  clear hb3 c0 c1 c2 f0 f1 f2
  obtain ⟨c0, c1, c2, fz⟩ := R3.out.hi.cells
  have f0 := fz 0
  have f1 := fz 1
  have f2 := fz 2
  clear fz
  try unfold zs at c0
  try unfold zs at c1
  have HR := Lib.hid (R3.out.put2 (.int .i64 X))
  have HG := Lib.hid (show (w3.setCell ⟨w.heap.size + 1, 2, none⟩ (.int .i64 X)).heap[w.heap.size]? = some (.cells #[.string ⟨#[]⟩, .string ⟨#[]⟩, .int .i64 0] 64 (0, 0)) from HR.out.lo)
  have HB := Lib.hid HR.out.bw
  obtain ⟨d0, d1, d2, _⟩ := HR.out.hi.cells
  try unfold zs at d1
  go_wp2_with (first | (refine wpList_store_row rfl 64 _ _ rfl w.heap.size #[.string Wt, .string ⟨#[]⟩, .int .i64 X] rfl rfl 64 #[.string ⟨#[]⟩, .string ⟨#[]⟩, .int .i64 0] HG.out (by first | kernel_rfl | rfl) rfl (by first | kernel_rfl | rfl) ?_))
  exact bodyPost_ret (results_cell_two rfl _ _ _ _ _ rfl (run_loadVar_row _ w.heap.size 64 64 _ (0, 0) _ (setRow_heap _ _ _ _ _ _ HG.out) Tryz.underlying64 rfl (by first | kernel_rfl | rfl))) rfl ⟨rfl, below_setRow' HB.out (Nat.le_refl _) _⟩
set_option maxRecDepth 100000 in
set_option maxHeartbeats 2000000 in
theorem tcutDecimal_b0_false (s : ByteArray) (w : World) (Wt S1 S2 Bt Ft Rt : ByteArray) (X : Int) (n2 : Wt.toList.isEmpty = false)
   (C1 : Hid (∀ W, Ct 86 #[.string s, .int .i64 10] (.tuple #[.string Wt, .string S1]) W))
   (C2 : Hid (∀ W, Cq 131 #[.string S1, .string ⟨#[46]⟩] (.tuple #[.string Bt, .bool true]) W))
   (C4 : Hid (∀ W, Ct 86 #[.string Bt, .int .i64 10] (.tuple #[.string Ft, .string S2]) W))
   (C3 : Hid (∀ W, Ct 132 #[.string S2] (.tuple #[.int .i64 X, .string Rt, .bool false]) W)) :
    Cp 68 #[.string s] w (fun e w' => e = .returned (.tuple #[.agg #[.string Wt, .string Ft, .int .i64 0], .string S2, .bool true]) ∧ Below w.heap.size w w') := by
  have R0 := Lib.hid (Rd.start w)
  go_enter Tryz.func68, Tryz.ntmps68
  go_wp2_with fail
  refine (C1.out _).mono ?_
  rintro e w1 ⟨rfl, hb1⟩
  have R1 := Lib.hid (R0.out.step hb1)
  clear hb1
  obtain ⟨c0, c1, c2, fz⟩ := R1.out.hi.cells
  have f0 := fz 0
  have f1 := fz 1
  have f2 := fz 2
  clear fz
  try unfold zs at c0
  try unfold zs at c1
  go_wp2_with fail
  refine (C2.out _).mono ?_
  rintro e w2 ⟨rfl, rfl⟩
  have R2 := Lib.hid (R1.out.put0 (.string Wt))
  generalize w1.setCell ⟨w.heap.size + 1, 0, none⟩ (.string Wt) = w2 at *
  clear c0 c1 c2 f0 f1 f2
  obtain ⟨c0, c1, c2, fz⟩ := R2.out.hi.cells
  have f0 := fz 0
  have f1 := fz 1
  have f2 := fz 2
  clear fz
  try unfold zs at c0
  try unfold zs at c1
  go_wp2_with fail
  refine (C4.out _).mono ?_
  rintro e w3 ⟨rfl, hb3⟩
  have R3 := Lib.hid (R2.out.step hb3)
  clear hb3 c0 c1 c2 f0 f1 f2
  obtain ⟨c0, c1, c2, fz⟩ := R3.out.hi.cells
  have f0 := fz 0
  have f1 := fz 1
  have f2 := fz 2
  clear fz
  try unfold zs at c0
  try unfold zs at c1
  have R4 := Lib.hid (R3.out.put1 (.string Ft))
  obtain ⟨e0, e1, e2, ez⟩ := R4.out.hi.cells
  have g0 := ez 0
  have g1 := ez 1
  have g2 := ez 2
  clear ez
  go_wp2_with fail
  refine (C3.out _).mono ?_
  rintro e w5 ⟨rfl, hb5⟩
  have R5 := Lib.hid (R4.out.step hb5)
  clear hb5 c0 c1 c2 f0 f1 f2
  obtain ⟨c0, c1, c2, fz⟩ := R5.out.hi.cells
  have f0 := fz 0
  have f1 := fz 1
  have f2 := fz 2
  clear fz
  try unfold zs at c0
  try unfold zs at c1
  have HG := Lib.hid (show w5.heap[w.heap.size]? = some (.cells #[.string ⟨#[]⟩, .string ⟨#[]⟩, .int .i64 0] 64 (0, 0)) from R5.out.lo)
  have HB := Lib.hid R5.out.bw
  go_wp2_with (first | (refine wpList_store_row rfl 64 _ _ rfl w.heap.size #[.string Wt, .string Ft, .int .i64 0] rfl rfl 64 #[.string ⟨#[]⟩, .string ⟨#[]⟩, .int .i64 0] HG.out (by first | kernel_rfl | rfl) rfl (by first | kernel_rfl | rfl) ?_))
  exact bodyPost_ret (results_cell_two rfl _ _ _ _ _ rfl (run_loadVar_row _ w.heap.size 64 64 _ (0, 0) _ (setRow_heap _ _ _ _ _ _ HG.out) Tryz.underlying64 rfl (by first | kernel_rfl | rfl))) rfl ⟨rfl, below_setRow' HB.out (Nat.le_refl _) _⟩
set_option maxRecDepth 100000 in
set_option maxHeartbeats 2000000 in
theorem tcutDecimal_b0_true (s : ByteArray) (w : World) (Wt S1 S2 Bt Ft Rt : ByteArray) (X : Int) (n2 : Wt.toList.isEmpty = false)
   (C1 : Hid (∀ W, Ct 86 #[.string s, .int .i64 10] (.tuple #[.string Wt, .string S1]) W))
   (C2 : Hid (∀ W, Cq 131 #[.string S1, .string ⟨#[46]⟩] (.tuple #[.string Bt, .bool true]) W))
   (C4 : Hid (∀ W, Ct 86 #[.string Bt, .int .i64 10] (.tuple #[.string Ft, .string S2]) W))
   (C3 : Hid (∀ W, Ct 132 #[.string S2] (.tuple #[.int .i64 X, .string Rt, .bool true]) W)) :
    Cp 68 #[.string s] w (fun e w' => e = .returned (.tuple #[.agg #[.string Wt, .string Ft, .int .i64 X], .string Rt, .bool true]) ∧ Below w.heap.size w w') := by
  have R0 := Lib.hid (Rd.start w)
  go_enter Tryz.func68, Tryz.ntmps68
  go_wp2_with fail
  refine (C1.out _).mono ?_
  rintro e w1 ⟨rfl, hb1⟩
  have R1 := Lib.hid (R0.out.step hb1)
  clear hb1
  obtain ⟨c0, c1, c2, fz⟩ := R1.out.hi.cells
  have f0 := fz 0
  have f1 := fz 1
  have f2 := fz 2
  clear fz
  try unfold zs at c0
  try unfold zs at c1
  go_wp2_with fail
  refine (C2.out _).mono ?_
  rintro e w2 ⟨rfl, rfl⟩
  have R2 := Lib.hid (R1.out.put0 (.string Wt))
  generalize w1.setCell ⟨w.heap.size + 1, 0, none⟩ (.string Wt) = w2 at *
  clear c0 c1 c2 f0 f1 f2
  obtain ⟨c0, c1, c2, fz⟩ := R2.out.hi.cells
  have f0 := fz 0
  have f1 := fz 1
  have f2 := fz 2
  clear fz
  try unfold zs at c0
  try unfold zs at c1
  go_wp2_with fail
  refine (C4.out _).mono ?_
  rintro e w3 ⟨rfl, hb3⟩
  have R3 := Lib.hid (R2.out.step hb3)
  clear hb3 c0 c1 c2 f0 f1 f2
  obtain ⟨c0, c1, c2, fz⟩ := R3.out.hi.cells
  have f0 := fz 0
  have f1 := fz 1
  have f2 := fz 2
  clear fz
  try unfold zs at c0
  try unfold zs at c1
  have R4 := Lib.hid (R3.out.put1 (.string Ft))
  obtain ⟨e0, e1, e2, ez⟩ := R4.out.hi.cells
  have g0 := ez 0
  have g1 := ez 1
  have g2 := ez 2
  clear ez
  go_wp2_with fail
  refine (C3.out _).mono ?_
  rintro e w5 ⟨rfl, hb5⟩
  have R5 := Lib.hid (R4.out.step hb5)
  clear hb5 c0 c1 c2 f0 f1 f2
  obtain ⟨c0, c1, c2, fz⟩ := R5.out.hi.cells
  have f0 := fz 0
  have f1 := fz 1
  have f2 := fz 2
  clear fz
  try unfold zs at c0
  try unfold zs at c1
  have HR := Lib.hid (R5.out.put2 (.int .i64 X))
  have HG := Lib.hid (show (w5.setCell ⟨w.heap.size + 1, 2, none⟩ (.int .i64 X)).heap[w.heap.size]? = some (.cells #[.string ⟨#[]⟩, .string ⟨#[]⟩, .int .i64 0] 64 (0, 0)) from HR.out.lo)
  have HB := Lib.hid HR.out.bw
  obtain ⟨d0, d1, d2, _⟩ := HR.out.hi.cells
  try unfold zs at d1
  go_wp2_with (first | (refine wpList_store_row rfl 64 _ _ rfl w.heap.size #[.string Wt, .string Ft, .int .i64 X] rfl rfl 64 #[.string ⟨#[]⟩, .string ⟨#[]⟩, .int .i64 0] HG.out (by first | kernel_rfl | rfl) rfl (by first | kernel_rfl | rfl) ?_))
  exact bodyPost_ret (results_cell_two rfl _ _ _ _ _ rfl (run_loadVar_row _ w.heap.size 64 64 _ (0, 0) _ (setRow_heap _ _ _ _ _ _ HG.out) Tryz.underlying64 rfl (by first | kernel_rfl | rfl))) rfl ⟨rfl, below_setRow' HB.out (Nat.le_refl _) _⟩
set_option maxRecDepth 100000 in
set_option maxHeartbeats 2000000 in
theorem tcutDecimal_b1_false (s : ByteArray) (w : World) (S1 S2 Bt Ft Rt : ByteArray) (X : Int) (m2 : Ft.toList.isEmpty = false)
   (C1 : Hid (∀ W, Ct 86 #[.string s, .int .i64 10] (.tuple #[.string ⟨#[]⟩, .string S1]) W))
   (C2 : Hid (∀ W, Cq 131 #[.string S1, .string ⟨#[46]⟩] (.tuple #[.string Bt, .bool true]) W))
   (C4 : Hid (∀ W, Ct 86 #[.string Bt, .int .i64 10] (.tuple #[.string Ft, .string S2]) W))
   (C3 : Hid (∀ W, Ct 132 #[.string S2] (.tuple #[.int .i64 X, .string Rt, .bool false]) W)) :
    Cp 68 #[.string s] w (fun e w' => e = .returned (.tuple #[.agg #[.string ⟨#[]⟩, .string Ft, .int .i64 0], .string S2, .bool true]) ∧ Below w.heap.size w w') := by
  have R0 := Lib.hid (Rd.start w)
  go_enter Tryz.func68, Tryz.ntmps68
  go_wp2_with fail
  refine (C1.out _).mono ?_
  rintro e w1 ⟨rfl, hb1⟩
  have R1 := Lib.hid (R0.out.step hb1)
  clear hb1
  obtain ⟨c0, c1, c2, fz⟩ := R1.out.hi.cells
  have f0 := fz 0
  have f1 := fz 1
  have f2 := fz 2
  clear fz
  try unfold zs at c0
  try unfold zs at c1
  go_wp2_with fail
  refine (C2.out _).mono ?_
  rintro e w2 ⟨rfl, rfl⟩
  have R2 := Lib.hid (R1.out.put0 (.string ⟨#[]⟩))
  generalize w1.setCell ⟨w.heap.size + 1, 0, none⟩ (.string ⟨#[]⟩) = w2 at *
  clear c0 c1 c2 f0 f1 f2
  obtain ⟨c0, c1, c2, fz⟩ := R2.out.hi.cells
  have f0 := fz 0
  have f1 := fz 1
  have f2 := fz 2
  clear fz
  try unfold zs at c0
  try unfold zs at c1
  go_wp2_with fail
  refine (C4.out _).mono ?_
  rintro e w3 ⟨rfl, hb3⟩
  have R3 := Lib.hid (R2.out.step hb3)
  clear hb3 c0 c1 c2 f0 f1 f2
  obtain ⟨c0, c1, c2, fz⟩ := R3.out.hi.cells
  have f0 := fz 0
  have f1 := fz 1
  have f2 := fz 2
  clear fz
  try unfold zs at c0
  try unfold zs at c1
  have R4 := Lib.hid (R3.out.put1 (.string Ft))
  obtain ⟨e0, e1, e2, ez⟩ := R4.out.hi.cells
  have g0 := ez 0
  have g1 := ez 1
  have g2 := ez 2
  clear ez
  go_wp2_with fail
  refine (C3.out _).mono ?_
  rintro e w5 ⟨rfl, hb5⟩
  have R5 := Lib.hid (R4.out.step hb5)
  clear hb5 c0 c1 c2 f0 f1 f2
  obtain ⟨c0, c1, c2, fz⟩ := R5.out.hi.cells
  have f0 := fz 0
  have f1 := fz 1
  have f2 := fz 2
  clear fz
  try unfold zs at c0
  try unfold zs at c1
  have HG := Lib.hid (show w5.heap[w.heap.size]? = some (.cells #[.string ⟨#[]⟩, .string ⟨#[]⟩, .int .i64 0] 64 (0, 0)) from R5.out.lo)
  have HB := Lib.hid R5.out.bw
  go_wp2_with (first | (refine wpList_store_row rfl 64 _ _ rfl w.heap.size #[.string ⟨#[]⟩, .string Ft, .int .i64 0] rfl rfl 64 #[.string ⟨#[]⟩, .string ⟨#[]⟩, .int .i64 0] HG.out (by first | kernel_rfl | rfl) rfl (by first | kernel_rfl | rfl) ?_))
  exact bodyPost_ret (results_cell_two rfl _ _ _ _ _ rfl (run_loadVar_row _ w.heap.size 64 64 _ (0, 0) _ (setRow_heap _ _ _ _ _ _ HG.out) Tryz.underlying64 rfl (by first | kernel_rfl | rfl))) rfl ⟨rfl, below_setRow' HB.out (Nat.le_refl _) _⟩
set_option maxRecDepth 100000 in
set_option maxHeartbeats 2000000 in
theorem tcutDecimal_b1_true (s : ByteArray) (w : World) (S1 S2 Bt Ft Rt : ByteArray) (X : Int) (m2 : Ft.toList.isEmpty = false)
   (C1 : Hid (∀ W, Ct 86 #[.string s, .int .i64 10] (.tuple #[.string ⟨#[]⟩, .string S1]) W))
   (C2 : Hid (∀ W, Cq 131 #[.string S1, .string ⟨#[46]⟩] (.tuple #[.string Bt, .bool true]) W))
   (C4 : Hid (∀ W, Ct 86 #[.string Bt, .int .i64 10] (.tuple #[.string Ft, .string S2]) W))
   (C3 : Hid (∀ W, Ct 132 #[.string S2] (.tuple #[.int .i64 X, .string Rt, .bool true]) W)) :
    Cp 68 #[.string s] w (fun e w' => e = .returned (.tuple #[.agg #[.string ⟨#[]⟩, .string Ft, .int .i64 X], .string Rt, .bool true]) ∧ Below w.heap.size w w') := by
  have R0 := Lib.hid (Rd.start w)
  go_enter Tryz.func68, Tryz.ntmps68
  go_wp2_with fail
  refine (C1.out _).mono ?_
  rintro e w1 ⟨rfl, hb1⟩
  have R1 := Lib.hid (R0.out.step hb1)
  clear hb1
  obtain ⟨c0, c1, c2, fz⟩ := R1.out.hi.cells
  have f0 := fz 0
  have f1 := fz 1
  have f2 := fz 2
  clear fz
  try unfold zs at c0
  try unfold zs at c1
  go_wp2_with fail
  refine (C2.out _).mono ?_
  rintro e w2 ⟨rfl, rfl⟩
  have R2 := Lib.hid (R1.out.put0 (.string ⟨#[]⟩))
  generalize w1.setCell ⟨w.heap.size + 1, 0, none⟩ (.string ⟨#[]⟩) = w2 at *
  clear c0 c1 c2 f0 f1 f2
  obtain ⟨c0, c1, c2, fz⟩ := R2.out.hi.cells
  have f0 := fz 0
  have f1 := fz 1
  have f2 := fz 2
  clear fz
  try unfold zs at c0
  try unfold zs at c1
  go_wp2_with fail
  refine (C4.out _).mono ?_
  rintro e w3 ⟨rfl, hb3⟩
  have R3 := Lib.hid (R2.out.step hb3)
  clear hb3 c0 c1 c2 f0 f1 f2
  obtain ⟨c0, c1, c2, fz⟩ := R3.out.hi.cells
  have f0 := fz 0
  have f1 := fz 1
  have f2 := fz 2
  clear fz
  try unfold zs at c0
  try unfold zs at c1
  have R4 := Lib.hid (R3.out.put1 (.string Ft))
  obtain ⟨e0, e1, e2, ez⟩ := R4.out.hi.cells
  have g0 := ez 0
  have g1 := ez 1
  have g2 := ez 2
  clear ez
  go_wp2_with fail
  refine (C3.out _).mono ?_
  rintro e w5 ⟨rfl, hb5⟩
  have R5 := Lib.hid (R4.out.step hb5)
  clear hb5 c0 c1 c2 f0 f1 f2
  obtain ⟨c0, c1, c2, fz⟩ := R5.out.hi.cells
  have f0 := fz 0
  have f1 := fz 1
  have f2 := fz 2
  clear fz
  try unfold zs at c0
  try unfold zs at c1
  have HR := Lib.hid (R5.out.put2 (.int .i64 X))
  have HG := Lib.hid (show (w5.setCell ⟨w.heap.size + 1, 2, none⟩ (.int .i64 X)).heap[w.heap.size]? = some (.cells #[.string ⟨#[]⟩, .string ⟨#[]⟩, .int .i64 0] 64 (0, 0)) from HR.out.lo)
  have HB := Lib.hid HR.out.bw
  obtain ⟨d0, d1, d2, _⟩ := HR.out.hi.cells
  try unfold zs at d1
  go_wp2_with (first | (refine wpList_store_row rfl 64 _ _ rfl w.heap.size #[.string ⟨#[]⟩, .string Ft, .int .i64 X] rfl rfl 64 #[.string ⟨#[]⟩, .string ⟨#[]⟩, .int .i64 0] HG.out (by first | kernel_rfl | rfl) rfl (by first | kernel_rfl | rfl) ?_))
  exact bodyPost_ret (results_cell_two rfl _ _ _ _ _ rfl (run_loadVar_row _ w.heap.size 64 64 _ (0, 0) _ (setRow_heap _ _ _ _ _ _ HG.out) Tryz.underlying64 rfl (by first | kernel_rfl | rfl))) rfl ⟨rfl, below_setRow' HB.out (Nat.le_refl _) _⟩
set_option maxRecDepth 100000 in
set_option maxHeartbeats 2000000 in
theorem tcutDecimal_dot (s : ByteArray) (w : World) (S1 S2 Bt : ByteArray)
   (C1 : Hid (∀ W, Ct 86 #[.string s, .int .i64 10] (.tuple #[.string ⟨#[]⟩, .string S1]) W))
   (C2 : Hid (∀ W, Cq 131 #[.string S1, .string ⟨#[46]⟩] (.tuple #[.string Bt, .bool true]) W))
   (C4 : Hid (∀ W, Ct 86 #[.string Bt, .int .i64 10] (.tuple #[.string ⟨#[]⟩, .string S2]) W)) :
    Cp 68 #[.string s] w (fun e w' => e = .returned (.tuple #[.agg #[.string ⟨#[]⟩, .string ⟨#[]⟩, .int .i64 0], .string ⟨#[]⟩, .bool false]) ∧ Below w.heap.size w w') := by
  have R0 := Lib.hid (Rd.start w)
  go_enter Tryz.func68, Tryz.ntmps68
  go_wp2_with fail
  refine (C1.out _).mono ?_
  rintro e w1 ⟨rfl, hb1⟩
  have R1 := Lib.hid (R0.out.step hb1)
  clear hb1
  obtain ⟨c0, c1, c2, fz⟩ := R1.out.hi.cells
  have f0 := fz 0
  have f1 := fz 1
  have f2 := fz 2
  clear fz
  try unfold zs at c0
  try unfold zs at c1
  go_wp2_with fail
  refine (C2.out _).mono ?_
  rintro e w2 ⟨rfl, rfl⟩
  have R2 := Lib.hid (R1.out.put0 (.string ⟨#[]⟩))
  generalize w1.setCell ⟨w.heap.size + 1, 0, none⟩ (.string ⟨#[]⟩) = w2 at *
  clear c0 c1 c2 f0 f1 f2
  obtain ⟨c0, c1, c2, fz⟩ := R2.out.hi.cells
  have f0 := fz 0
  have f1 := fz 1
  have f2 := fz 2
  clear fz
  try unfold zs at c0
  try unfold zs at c1
  go_wp2_with fail
  refine (C4.out _).mono ?_
  rintro e w3 ⟨rfl, hb3⟩
  have R3 := Lib.hid (R2.out.step hb3)
  clear hb3 c0 c1 c2 f0 f1 f2
  obtain ⟨c0, c1, c2, fz⟩ := R3.out.hi.cells
  have f0 := fz 0
  have f1 := fz 1
  have f2 := fz 2
  clear fz
  try unfold zs at c0
  try unfold zs at c1
  have HG := Lib.hid (show w3.heap[w.heap.size]? = some (.cells #[.string ⟨#[]⟩, .string ⟨#[]⟩, .int .i64 0] 64 (0, 0)) from R3.out.lo)
  have HB := Lib.hid R3.out.bw
  go_wp2_with (first | (refine wpList_store_row rfl 64 _ _ rfl w.heap.size #[.string ⟨#[]⟩, .string ⟨#[]⟩, .int .i64 0] rfl rfl 64 #[.string ⟨#[]⟩, .string ⟨#[]⟩, .int .i64 0] HG.out (by first | kernel_rfl | rfl) rfl (by first | kernel_rfl | rfl) ?_))
  exact bodyPost_ret (results_cell_two rfl _ _ _ _ _ rfl (run_loadVar_row _ w.heap.size 64 64 _ (0, 0) _ (setRow_heap _ _ _ _ _ _ HG.out) Tryz.underlying64 rfl (by first | kernel_rfl | rfl))) rfl ⟨rfl, below_setRow' HB.out (Nat.le_refl _) _⟩

end Go.Proofs.YtfcpkdafkmohkaaGreatDoor
namespace Go.Proofs.YtfcpkdafkmohkaaGreatDoor
open Go.RowKit
theorem trimL48 (s : ByteArray) (w : World) : Ct 133 #[.string s, .string ⟨#[48]⟩] (.string (strOf (ldz (bl s)))) w := by
 have h := Tryz.strings_TrimLeft_laid s ⟨#[48]⟩ w (by decide) (fun j b hb => by
  have h1 : b ∈ ([48] : List UInt8) := List.mem_of_getElem? hb
  simp at h1
  rw [h1]
  decide)
 rw [show (⟨#[48]⟩ : ByteArray).data.toList = [48] from rfl, tl_48] at h
 exact h
theorem trimR48 (s : ByteArray) (w : World) (hs : s.size ≤ 9223372036854775807) : Ct 113 #[.string s, .string ⟨#[48]⟩] (.string (strOf (trz (bl s)))) w := by
 have h := Tryz.strings_TrimRight_laid s ⟨#[48]⟩ w hs (by decide) (fun j b hb => by
  have h1 : b ∈ ([48] : List UInt8) := List.mem_of_getElem? hb
  simp at h1
  rw [h1]
  decide)
 rw [show (⟨#[48]⟩ : ByteArray).data.toList = [48] from rfl, tr_48] at h
 exact h
theorem btn_bl (s : ByteArray) (i : Nat) (h : i < s.size) : btn s i = (bl s).getD i 0 := by
 rw [List.getD_eq_getElem?_getD, bl_get s i h]
 exact (btn_eq s i h).symm
theorem sv_num (r : Nat) (s : ByteArray) : sv r s = num r (bl s) := by
 unfold sv num
 rw [bl_size]
 exact pv_congr (fun i hi => by rw [btn_bl s i hi])
theorem adB_all {r : Nat} {s : ByteArray} (h0 : bl s ≠ []) (h : ∀ c ∈ bl s, dgt c < r) : adB r s = true := by
 rw [adB_yes (fun i hi => by
  rw [btn_bl s i hi, List.getD_eq_getElem?_getD, List.getElem?_eq_getElem (by rw [bl_size]; exact hi)]
  exact h _ (List.getElem_mem _))]
 have : 0 < (bl s).length := List.length_pos_iff.2 h0
 rw [bl_size] at this
 exact decide_eq_true this
set_option maxRecDepth 100000 in
set_option maxHeartbeats 1000000 in
theorem tfloat_none (s1 s2 g h : ByteArray) (X y P : Int) (w : World) (hs1 : s1.size + s2.size ≤ 4611686018427387903)
  (C1 : Hid (∀ W, Ct 133 #[.string (s1 ++ s2), .string ⟨#[48]⟩] (.string g) W))
  (C2 : Hid (∀ W, Ct 113 #[.string g, .string ⟨#[48]⟩] (.string h) W))
  (k1 : IntKind.i64.wrap ((g.size : Int) - (s2.size : Int)) = y) (k2 : IntKind.i64.wrap (y + X) = P)
  (t1 : h.toList.isEmpty = true) :
  Ct 69 #[.agg #[.string s1, .string s2, .int .i64 X]] (.float .f64 0) w := by
 have hs2 : ¬ 9223372036854775807 < s1.size + s2.size := by omega
 have R0 := Lib.hid (show Rc (w.alloc (.cells #[.string s1, .string s2, .int .i64 X] 64)) w.heap.size (.string s1) (.string s2) (.int .i64 X) from heap_alloc_last w _)
 have B0 := Lib.hid (show Below w.heap.size w (w.alloc (.cells #[.string s1, .string s2, .int .i64 X] 64)) from (Below.refl _ _).alloc (Nat.le_refl _) _)
 have S0 := Lib.hid (show w.heap.size < (w.alloc (.cells #[.string s1, .string s2, .int .i64 X] 64)).heap.size by simp)
 clear hs1
 go_enter Tryz.func69, Tryz.ntmps69
 go_wp2_with fail
 refine (C1.out _).mono ?_
 rintro e w1 ⟨rfl, b1⟩
 have R1 := Lib.hid (R0.out.below b1 S0.out)
 have B1 := Lib.hid (below_le B0.out b1)
 clear b1
 obtain ⟨c0, c1, c2, _⟩ := R1.out.cells
 go_wp2_with fail
 refine (C2.out _).mono ?_
 rintro e w2 ⟨rfl, b2⟩
 have B2 := Lib.hid (below_le B1.out b2)
 clear b2
 go_wp2
 go_ret
 exact ⟨rfl, B2.out⟩
set_option maxRecDepth 100000 in
set_option maxHeartbeats 1000000 in
theorem tfloat_low (s1 s2 g h : ByteArray) (X y P : Int) (w : World) (hs1 : s1.size + s2.size ≤ 4611686018427387903)
  (C1 : Hid (∀ W, Ct 133 #[.string (s1 ++ s2), .string ⟨#[48]⟩] (.string g) W))
  (C2 : Hid (∀ W, Ct 113 #[.string g, .string ⟨#[48]⟩] (.string h) W))
  (k1 : IntKind.i64.wrap ((g.size : Int) - (s2.size : Int)) = y) (k2 : IntKind.i64.wrap (y + X) = P)
  (t1 : h.toList.isEmpty = false) (t2 : decide (P < -323) = true) :
  Ct 69 #[.agg #[.string s1, .string s2, .int .i64 X]] (.float .f64 0) w := by
 have hs2 : ¬ 9223372036854775807 < s1.size + s2.size := by omega
 have R0 := Lib.hid (show Rc (w.alloc (.cells #[.string s1, .string s2, .int .i64 X] 64)) w.heap.size (.string s1) (.string s2) (.int .i64 X) from heap_alloc_last w _)
 have B0 := Lib.hid (show Below w.heap.size w (w.alloc (.cells #[.string s1, .string s2, .int .i64 X] 64)) from (Below.refl _ _).alloc (Nat.le_refl _) _)
 have S0 := Lib.hid (show w.heap.size < (w.alloc (.cells #[.string s1, .string s2, .int .i64 X] 64)).heap.size by simp)
 clear hs1
 go_enter Tryz.func69, Tryz.ntmps69
 go_wp2_with fail
 refine (C1.out _).mono ?_
 rintro e w1 ⟨rfl, b1⟩
 have R1 := Lib.hid (R0.out.below b1 S0.out)
 have B1 := Lib.hid (below_le B0.out b1)
 clear b1
 obtain ⟨c0, c1, c2, _⟩ := R1.out.cells
 go_wp2_with fail
 refine (C2.out _).mono ?_
 rintro e w2 ⟨rfl, b2⟩
 have B2 := Lib.hid (below_le B1.out b2)
 clear b2
 go_wp2
 go_ret
 exact ⟨rfl, B2.out⟩
set_option maxRecDepth 100000 in
set_option maxHeartbeats 1000000 in
theorem tfloat_high (s1 s2 g h : ByteArray) (X y P : Int) (w : World) (hs1 : s1.size + s2.size ≤ 4611686018427387903)
  (C1 : Hid (∀ W, Ct 133 #[.string (s1 ++ s2), .string ⟨#[48]⟩] (.string g) W))
  (C2 : Hid (∀ W, Ct 113 #[.string g, .string ⟨#[48]⟩] (.string h) W))
  (k1 : IntKind.i64.wrap ((g.size : Int) - (s2.size : Int)) = y) (k2 : IntKind.i64.wrap (y + X) = P)
  (t1 : h.toList.isEmpty = false) (t2 : decide (P < -323) = false) (t3 : decide (309 < P) = true) :
  Ct 69 #[.agg #[.string s1, .string s2, .int .i64 X]] (.float .f64 9218868437227405312) w := by
 have hs2 : ¬ 9223372036854775807 < s1.size + s2.size := by omega
 have R0 := Lib.hid (show Rc (w.alloc (.cells #[.string s1, .string s2, .int .i64 X] 64)) w.heap.size (.string s1) (.string s2) (.int .i64 X) from heap_alloc_last w _)
 have B0 := Lib.hid (show Below w.heap.size w (w.alloc (.cells #[.string s1, .string s2, .int .i64 X] 64)) from (Below.refl _ _).alloc (Nat.le_refl _) _)
 have S0 := Lib.hid (show w.heap.size < (w.alloc (.cells #[.string s1, .string s2, .int .i64 X] 64)).heap.size by simp)
 clear hs1
 go_enter Tryz.func69, Tryz.ntmps69
 go_wp2_with fail
 refine (C1.out _).mono ?_
 rintro e w1 ⟨rfl, b1⟩
 have R1 := Lib.hid (R0.out.below b1 S0.out)
 have B1 := Lib.hid (below_le B0.out b1)
 clear b1
 obtain ⟨c0, c1, c2, _⟩ := R1.out.cells
 go_wp2_with fail
 refine (C2.out _).mono ?_
 rintro e w2 ⟨rfl, b2⟩
 have B2 := Lib.hid (below_le B1.out b2)
 clear b2
 have C3 := Lib.hid (fun W => inf1_any W)
 go_wp2_with fail
 refine (C3.out _).mono ?_
 rintro e w' ⟨rfl, rfl⟩
 go_wp2
 go_ret
 exact ⟨rfl, B2.out⟩
set_option maxRecDepth 100000 in
set_option maxHeartbeats 1000000 in
theorem tfloat_short (s1 s2 g h : ByteArray) (X y P : Int) (Z : Int) (m F : Nat) (w : World) (hs1 : s1.size + s2.size ≤ 4611686018427387903)
  (C1 : Hid (∀ W, Ct 133 #[.string (s1 ++ s2), .string ⟨#[48]⟩] (.string g) W))
  (C2 : Hid (∀ W, Ct 113 #[.string g, .string ⟨#[48]⟩] (.string h) W))
  (k1 : IntKind.i64.wrap ((g.size : Int) - (s2.size : Int)) = y) (k2 : IntKind.i64.wrap (y + X) = P)
  (t1 : h.toList.isEmpty = false) (t2 : decide (P < -323) = false) (t3 : decide (309 < P) = false) (t4 : decide (800 < (h.size : Int)) = false)
  (k3 : IntKind.i64.wrap (P - (h.size : Int)) = Z)
  (C3 : Hid (∀ W, Cp 134 #[.string h, .int .i64 10] W (NOk m W)))
  (C4 : Hid (∀ W A n c, NV W A n c m → Ct 135 #[.slice A n c, .int .i64 Z] (.float .f64 F) W)) :
  Ct 69 #[.agg #[.string s1, .string s2, .int .i64 X]] (.float .f64 F) w := by
 have hs2 : ¬ 9223372036854775807 < s1.size + s2.size := by omega
 have R0 := Lib.hid (show Rc (w.alloc (.cells #[.string s1, .string s2, .int .i64 X] 64)) w.heap.size (.string s1) (.string s2) (.int .i64 X) from heap_alloc_last w _)
 have B0 := Lib.hid (show Below w.heap.size w (w.alloc (.cells #[.string s1, .string s2, .int .i64 X] 64)) from (Below.refl _ _).alloc (Nat.le_refl _) _)
 have S0 := Lib.hid (show w.heap.size < (w.alloc (.cells #[.string s1, .string s2, .int .i64 X] 64)).heap.size by simp)
 clear hs1
 go_enter Tryz.func69, Tryz.ntmps69
 go_wp2_with fail
 refine (C1.out _).mono ?_
 rintro e w1 ⟨rfl, b1⟩
 have R1 := Lib.hid (R0.out.below b1 S0.out)
 have B1 := Lib.hid (below_le B0.out b1)
 clear b1
 obtain ⟨c0, c1, c2, _⟩ := R1.out.cells
 go_wp2_with fail
 refine (C2.out _).mono ?_
 rintro e w2 ⟨rfl, b2⟩
 have B2 := Lib.hid (below_le B1.out b2)
 clear b2
 go_wp2_with fail
 refine (C3.out _).mono ?_
 rintro e w3 ⟨A, n, c, rfl, g3, b3⟩
 have G3 := Lib.hid g3
 have B3 := Lib.hid (below_le B2.out b3)
 clear g3 b3
 go_wp2_with fail
 refine (C4.out _ _ _ _ G3.out).mono ?_
 rintro e w4 ⟨rfl, b4⟩
 have B4 := Lib.hid (below_le B3.out b4)
 clear b4
 go_wp2
 go_ret
 exact ⟨rfl, B4.out⟩
set_option maxRecDepth 100000 in
set_option maxHeartbeats 1000000 in
theorem tfloat_long (s1 s2 g h : ByteArray) (X y P : Int) (Z : Int) (m F : Nat) (w : World) (hs1 : s1.size + s2.size ≤ 4611686018427387903)
  (C1 : Hid (∀ W, Ct 133 #[.string (s1 ++ s2), .string ⟨#[48]⟩] (.string g) W))
  (C2 : Hid (∀ W, Ct 113 #[.string g, .string ⟨#[48]⟩] (.string h) W))
  (k1 : IntKind.i64.wrap ((g.size : Int) - (s2.size : Int)) = y) (k2 : IntKind.i64.wrap (y + X) = P)
  (t1 : h.toList.isEmpty = false) (t2 : decide (P < -323) = false) (t3 : decide (309 < P) = false) (t4 : decide (800 < (h.size : Int)) = true) (t5 : (800 : Int) ≤ (h.size : Int)) (t6 : (h.extract 0 800).size = 800)
  (k3 : IntKind.i64.wrap (P - 801) = Z)
  (C3 : Hid (∀ W, Cp 134 #[.string (h.extract 0 800 ++ ⟨#[49]⟩), .int .i64 10] W (NOk m W)))
  (C4 : Hid (∀ W A n c, NV W A n c m → Ct 135 #[.slice A n c, .int .i64 Z] (.float .f64 F) W)) :
  Ct 69 #[.agg #[.string s1, .string s2, .int .i64 X]] (.float .f64 F) w := by
 have hs2 : ¬ 9223372036854775807 < s1.size + s2.size := by omega
 have R0 := Lib.hid (show Rc (w.alloc (.cells #[.string s1, .string s2, .int .i64 X] 64)) w.heap.size (.string s1) (.string s2) (.int .i64 X) from heap_alloc_last w _)
 have B0 := Lib.hid (show Below w.heap.size w (w.alloc (.cells #[.string s1, .string s2, .int .i64 X] 64)) from (Below.refl _ _).alloc (Nat.le_refl _) _)
 have S0 := Lib.hid (show w.heap.size < (w.alloc (.cells #[.string s1, .string s2, .int .i64 X] 64)).heap.size by simp)
 clear hs1
 go_enter Tryz.func69, Tryz.ntmps69
 go_wp2_with fail
 refine (C1.out _).mono ?_
 rintro e w1 ⟨rfl, b1⟩
 have R1 := Lib.hid (R0.out.below b1 S0.out)
 have B1 := Lib.hid (below_le B0.out b1)
 clear b1
 obtain ⟨c0, c1, c2, _⟩ := R1.out.cells
 go_wp2_with fail
 refine (C2.out _).mono ?_
 rintro e w2 ⟨rfl, b2⟩
 have B2 := Lib.hid (below_le B1.out b2)
 clear b2
 go_wp2_with fail
 refine (C3.out _).mono ?_
 rintro e w3 ⟨A, n, c, rfl, g3, b3⟩
 have G3 := Lib.hid g3
 have B3 := Lib.hid (below_le B2.out b3)
 clear g3 b3
 go_wp2_with fail
 refine (C4.out _ _ _ _ G3.out).mono ?_
 rintro e w4 ⟨rfl, b4⟩
 have B4 := Lib.hid (below_le B3.out b4)
 clear b4
 go_wp2
 go_ret
 exact ⟨rfl, B4.out⟩

end Go.Proofs.YtfcpkdafkmohkaaGreatDoor
namespace Go.Proofs.YtfcpkdafkmohkaaGreatDoor
open Go.RowKit
theorem below_al (w : World) (o : Obj) : Below w.heap.size w (w.alloc o) := (Below.refl _ _).alloc (Nat.le_refl _) _
set_option maxRecDepth 100000 in
set_option maxHeartbeats 1000000 in
theorem tnearer_other (H L M down unit D h : Nat) (hE : Bool) (w : World) (hD : H - down = D) (hd : down ≤ H) (hH : H < 9223372036854775808) (hU : unit < 9223372036854775808) (hu : unit / 2 = h) (hne : D ≠ h) :
  Ct 160 #[.agg #[.int .u64 (H : Nat), .bool hE, .int .u64 (L : Nat), .int .u64 (M : Nat)], .int .u64 (down : Nat), .int .u64 (unit : Nat)] (.bool (decide ((D : Int) < (h : Int)))) w := by
 have k1 : IntKind.u64.wrap ((H : Int) - (down : Int)) = (D : Int) := by rw [IntKind.wrap_u64]; omega
 have k2 : (unit : Int) / 2 = (h : Int) := by omega
 have k3 : IntKind.u64.wrap (h : Int) = (h : Int) := by rw [IntKind.wrap_u64]; omega
 have t1 : ((D : Int) != (h : Int)) = true := by rw [bne_iff_ne]; omega
 clear hD hd hH hu hne hU
 go_enter Tryz.func160, Tryz.ntmps160
 go_wp2
 go_ret
 exact ⟨by simp, below_al _ _⟩
set_option maxRecDepth 100000 in
set_option maxHeartbeats 1000000 in
theorem tnearer_more (H L M down unit D h : Nat) (w : World) (hD : H - down = D) (hd : down ≤ H) (hU : unit < 9223372036854775808) (hu : unit / 2 = h) (hne : D = h) :
  Ct 160 #[.agg #[.int .u64 (H : Nat), .bool false, .int .u64 (L : Nat), .int .u64 (M : Nat)], .int .u64 (down : Nat), .int .u64 (unit : Nat)] (.bool false) w := by
 have k1 : IntKind.u64.wrap ((H : Int) - (down : Int)) = (D : Int) := by rw [IntKind.wrap_u64]; omega
 have k2 : (unit : Int) / 2 = (h : Int) := by omega
 have k3 : IntKind.u64.wrap (h : Int) = (h : Int) := by rw [IntKind.wrap_u64]; omega
 have t1 : ((D : Int) != (h : Int)) = false := by rw [bne_eq_false_iff_eq]; omega
 clear hD hd hu hne hU
 go_enter Tryz.func160, Tryz.ntmps160
 go_wp2
 go_ret
 exact ⟨rfl, below_al _ _⟩
set_option maxRecDepth 100000 in
set_option maxHeartbeats 1000000 in
theorem tnearer_exact (H L M down unit D h q : Nat) (w : World) (hD : H - down = D) (hd : down ≤ H) (hH : H < 9223372036854775808) (hU : unit < 9223372036854775808) (hu : unit / 2 = h) (hne : D = h) (h0 : 0 < unit) (hq : down / unit = q) :
  Ct 160 #[.agg #[.int .u64 (H : Nat), .bool true, .int .u64 (L : Nat), .int .u64 (M : Nat)], .int .u64 (down : Nat), .int .u64 (unit : Nat)] (.bool ((q : Int) % 2 == 0)) w := by
 have k1 : IntKind.u64.wrap ((H : Int) - (down : Int)) = (D : Int) := by rw [IntKind.wrap_u64]; omega
 have k2 : (unit : Int) / 2 = (h : Int) := by omega
 have k3 : IntKind.u64.wrap (h : Int) = (h : Int) := by rw [IntKind.wrap_u64]; omega
 have t1 : ((D : Int) != (h : Int)) = false := by rw [bne_eq_false_iff_eq]; omega
 have k4 : (down : Int) / (unit : Int) = (q : Int) := by rw [← hq]; rfl
 have k5 : IntKind.u64.wrap (q : Int) = (q : Int) := by
  have : q ≤ down := by rw [← hq]; exact Nat.div_le_self _ _
  rw [IntKind.wrap_u64]
  omega
 have k6 : (0 : Int) < (unit : Int) := by omega
 have k7 : ¬ (unit : Int) = 0 := by omega
 clear hD hd hu hne hU h0 hq hH
 go_enter Tryz.func160, Tryz.ntmps160
 go_wp2
 go_ret
 exact ⟨rfl, below_al _ _⟩

end Go.Proofs.YtfcpkdafkmohkaaGreatDoor
namespace Go.Proofs.YtfcpkdafkmohkaaGreatDoor
open Go.RowKit
set_option maxRecDepth 100000 in
set_option maxHeartbeats 2000000 in
theorem tcand_tt (H L M unit dn up : Nat) (hE : Bool) (w : World) (h0 : 0 < unit) (hd : H - H % unit = dn) (hu : dn + unit = up) (hl : up < 9223372036854775808) (g1 : L ≤ dn) (g2 : up ≤ M)
  (CN : Hid (∀ W, Ct 160 #[.agg #[.int .u64 (H : Nat), .bool hE, .int .u64 (L : Nat), .int .u64 (M : Nat)], .int .u64 (dn : Nat), .int .u64 (unit : Nat)] (.bool true) W)) :
  Ct 96 #[.agg #[.int .u64 (H : Nat), .bool hE, .int .u64 (L : Nat), .int .u64 (M : Nat)], .int .u64 (unit : Nat)] (.tuple #[.int .u64 (dn : Nat), .bool true]) w := by
 obtain ⟨r, hr⟩ : ∃ r, H % unit = r := ⟨_, rfl⟩
 have hrH : r ≤ H := by rw [← hr]; exact Nat.mod_le _ _
 have hru : r < unit := by rw [← hr]; exact Nat.mod_lt _ h0
 rw [hr] at hd
 have k0 := Lib.hid (show (H : Int) % (unit : Int) = (r : Int) by rw [← hr]; rfl)
 have k2 := Lib.hid (show IntKind.u64.wrap ((H : Int) - (r : Int)) = (dn : Int) by rw [IntKind.wrap_u64]; omega)
 have k3 := Lib.hid (show IntKind.u64.wrap ((dn : Int) + (unit : Int)) = (up : Int) by rw [IntKind.wrap_u64]; omega)
 have k6 : (0 : Int) < (unit : Int) := by omega
 have k7 : ¬ (unit : Int) = 0 := by omega
 have t1 := Lib.hid (show decide (L ≤ dn) = true by first | exact decide_eq_true (by omega) | exact decide_eq_false (by omega))
 have t2 := Lib.hid (show decide (up ≤ M) = true by first | exact decide_eq_true (by omega) | exact decide_eq_false (by omega))
 have B0 := Lib.hid (below_al w (.cells #[.int .u64 (H : Nat), .bool hE, .int .u64 (L : Nat), .int .u64 (M : Nat)] 91))
 clear h0 hd hu hl g1 g2 hr hrH hru
 go_enter Tryz.func96, Tryz.ntmps96
 go_wp2
 go_quiet (fail)
 rw [k0.out, k2.out]
 have k3' := k3.out
 go_wp2
 clear k3'
 go_quiet (fail)
 have t1' := t1.out
 have t2' := t2.out
 have BW := Lib.hid (fun q => below_drewN' B0.out q)
 go_wp2_with fail
 refine (CN.out _).mono ?_
 rintro e w1 ⟨rfl, b1⟩
 have B1 := Lib.hid (below_le (BW.out _) b1)
 clear b1
 go_wp2
 go_ret2
 exact ⟨rfl, B1.out⟩
set_option maxRecDepth 100000 in
set_option maxHeartbeats 2000000 in
theorem tcand_tf (H L M unit dn up : Nat) (hE : Bool) (w : World) (h0 : 0 < unit) (hd : H - H % unit = dn) (hu : dn + unit = up) (hl : up < 9223372036854775808) (g1 : L ≤ dn) (g2 : up ≤ M)
  (CN : Hid (∀ W, Ct 160 #[.agg #[.int .u64 (H : Nat), .bool hE, .int .u64 (L : Nat), .int .u64 (M : Nat)], .int .u64 (dn : Nat), .int .u64 (unit : Nat)] (.bool false) W)) :
  Ct 96 #[.agg #[.int .u64 (H : Nat), .bool hE, .int .u64 (L : Nat), .int .u64 (M : Nat)], .int .u64 (unit : Nat)] (.tuple #[.int .u64 (up : Nat), .bool true]) w := by
 obtain ⟨r, hr⟩ : ∃ r, H % unit = r := ⟨_, rfl⟩
 have hrH : r ≤ H := by rw [← hr]; exact Nat.mod_le _ _
 have hru : r < unit := by rw [← hr]; exact Nat.mod_lt _ h0
 rw [hr] at hd
 have k0 := Lib.hid (show (H : Int) % (unit : Int) = (r : Int) by rw [← hr]; rfl)
 have k2 := Lib.hid (show IntKind.u64.wrap ((H : Int) - (r : Int)) = (dn : Int) by rw [IntKind.wrap_u64]; omega)
 have k3 := Lib.hid (show IntKind.u64.wrap ((dn : Int) + (unit : Int)) = (up : Int) by rw [IntKind.wrap_u64]; omega)
 have k6 : (0 : Int) < (unit : Int) := by omega
 have k7 : ¬ (unit : Int) = 0 := by omega
 have t1 := Lib.hid (show decide (L ≤ dn) = true by first | exact decide_eq_true (by omega) | exact decide_eq_false (by omega))
 have t2 := Lib.hid (show decide (up ≤ M) = true by first | exact decide_eq_true (by omega) | exact decide_eq_false (by omega))
 have B0 := Lib.hid (below_al w (.cells #[.int .u64 (H : Nat), .bool hE, .int .u64 (L : Nat), .int .u64 (M : Nat)] 91))
 clear h0 hd hu hl g1 g2 hr hrH hru
 go_enter Tryz.func96, Tryz.ntmps96
 go_wp2
 go_quiet (fail)
 rw [k0.out, k2.out]
 have k3' := k3.out
 go_wp2
 clear k3'
 go_quiet (fail)
 have t1' := t1.out
 have t2' := t2.out
 have BW := Lib.hid (fun q => below_drewN' B0.out q)
 go_wp2_with fail
 refine (CN.out _).mono ?_
 rintro e w1 ⟨rfl, b1⟩
 have B1 := Lib.hid (below_le (BW.out _) b1)
 clear b1
 go_wp2
 go_ret2
 exact ⟨rfl, B1.out⟩
set_option maxRecDepth 100000 in
set_option maxHeartbeats 2000000 in
theorem tcand_down (H L M unit dn up : Nat) (hE : Bool) (w : World) (h0 : 0 < unit) (hd : H - H % unit = dn) (hu : dn + unit = up) (hl : up < 9223372036854775808) (g1 : L ≤ dn) (g2 : ¬ up ≤ M) :
  Ct 96 #[.agg #[.int .u64 (H : Nat), .bool hE, .int .u64 (L : Nat), .int .u64 (M : Nat)], .int .u64 (unit : Nat)] (.tuple #[.int .u64 (dn : Nat), .bool true]) w := by
 obtain ⟨r, hr⟩ : ∃ r, H % unit = r := ⟨_, rfl⟩
 have hrH : r ≤ H := by rw [← hr]; exact Nat.mod_le _ _
 have hru : r < unit := by rw [← hr]; exact Nat.mod_lt _ h0
 rw [hr] at hd
 have k0 := Lib.hid (show (H : Int) % (unit : Int) = (r : Int) by rw [← hr]; rfl)
 have k2 := Lib.hid (show IntKind.u64.wrap ((H : Int) - (r : Int)) = (dn : Int) by rw [IntKind.wrap_u64]; omega)
 have k3 := Lib.hid (show IntKind.u64.wrap ((dn : Int) + (unit : Int)) = (up : Int) by rw [IntKind.wrap_u64]; omega)
 have k6 : (0 : Int) < (unit : Int) := by omega
 have k7 : ¬ (unit : Int) = 0 := by omega
 have t1 := Lib.hid (show decide (L ≤ dn) = true by first | exact decide_eq_true (by omega) | exact decide_eq_false (by omega))
 have t2 := Lib.hid (show decide (up ≤ M) = false by first | exact decide_eq_true (by omega) | exact decide_eq_false (by omega))
 have B0 := Lib.hid (below_al w (.cells #[.int .u64 (H : Nat), .bool hE, .int .u64 (L : Nat), .int .u64 (M : Nat)] 91))
 clear h0 hd hu hl g1 g2 hr hrH hru
 go_enter Tryz.func96, Tryz.ntmps96
 go_wp2
 go_quiet (fail)
 rw [k0.out, k2.out]
 have k3' := k3.out
 go_wp2
 clear k3'
 go_quiet (fail)
 have t1' := t1.out
 have t2' := t2.out
 have BW := Lib.hid (fun q => below_drewN' B0.out q)
 go_wp2
 go_ret2
 exact ⟨rfl, BW.out _⟩
set_option maxRecDepth 100000 in
set_option maxHeartbeats 2000000 in
theorem tcand_up (H L M unit dn up : Nat) (hE : Bool) (w : World) (h0 : 0 < unit) (hd : H - H % unit = dn) (hu : dn + unit = up) (hl : up < 9223372036854775808) (g1 : ¬ L ≤ dn) (g2 : up ≤ M) :
  Ct 96 #[.agg #[.int .u64 (H : Nat), .bool hE, .int .u64 (L : Nat), .int .u64 (M : Nat)], .int .u64 (unit : Nat)] (.tuple #[.int .u64 (up : Nat), .bool true]) w := by
 obtain ⟨r, hr⟩ : ∃ r, H % unit = r := ⟨_, rfl⟩
 have hrH : r ≤ H := by rw [← hr]; exact Nat.mod_le _ _
 have hru : r < unit := by rw [← hr]; exact Nat.mod_lt _ h0
 rw [hr] at hd
 have k0 := Lib.hid (show (H : Int) % (unit : Int) = (r : Int) by rw [← hr]; rfl)
 have k2 := Lib.hid (show IntKind.u64.wrap ((H : Int) - (r : Int)) = (dn : Int) by rw [IntKind.wrap_u64]; omega)
 have k3 := Lib.hid (show IntKind.u64.wrap ((dn : Int) + (unit : Int)) = (up : Int) by rw [IntKind.wrap_u64]; omega)
 have k6 : (0 : Int) < (unit : Int) := by omega
 have k7 : ¬ (unit : Int) = 0 := by omega
 have t1 := Lib.hid (show decide (L ≤ dn) = false by first | exact decide_eq_true (by omega) | exact decide_eq_false (by omega))
 have t2 := Lib.hid (show decide (up ≤ M) = true by first | exact decide_eq_true (by omega) | exact decide_eq_false (by omega))
 have B0 := Lib.hid (below_al w (.cells #[.int .u64 (H : Nat), .bool hE, .int .u64 (L : Nat), .int .u64 (M : Nat)] 91))
 clear h0 hd hu hl g1 g2 hr hrH hru
 go_enter Tryz.func96, Tryz.ntmps96
 go_wp2
 go_quiet (fail)
 rw [k0.out, k2.out]
 have k3' := k3.out
 go_wp2
 clear k3'
 go_quiet (fail)
 have t1' := t1.out
 have t2' := t2.out
 have BW := Lib.hid (fun q => below_drewN' B0.out q)
 go_wp2
 go_ret2
 exact ⟨rfl, BW.out _⟩
set_option maxRecDepth 100000 in
set_option maxHeartbeats 2000000 in
theorem tcand_none (H L M unit dn up : Nat) (hE : Bool) (w : World) (h0 : 0 < unit) (hd : H - H % unit = dn) (hu : dn + unit = up) (hl : up < 9223372036854775808) (g1 : ¬ L ≤ dn) (g2 : ¬ up ≤ M) :
  Ct 96 #[.agg #[.int .u64 (H : Nat), .bool hE, .int .u64 (L : Nat), .int .u64 (M : Nat)], .int .u64 (unit : Nat)] (.tuple #[.int .u64 (up : Nat), .bool false]) w := by
 obtain ⟨r, hr⟩ : ∃ r, H % unit = r := ⟨_, rfl⟩
 have hrH : r ≤ H := by rw [← hr]; exact Nat.mod_le _ _
 have hru : r < unit := by rw [← hr]; exact Nat.mod_lt _ h0
 rw [hr] at hd
 have k0 := Lib.hid (show (H : Int) % (unit : Int) = (r : Int) by rw [← hr]; rfl)
 have k2 := Lib.hid (show IntKind.u64.wrap ((H : Int) - (r : Int)) = (dn : Int) by rw [IntKind.wrap_u64]; omega)
 have k3 := Lib.hid (show IntKind.u64.wrap ((dn : Int) + (unit : Int)) = (up : Int) by rw [IntKind.wrap_u64]; omega)
 have k6 : (0 : Int) < (unit : Int) := by omega
 have k7 : ¬ (unit : Int) = 0 := by omega
 have t1 := Lib.hid (show decide (L ≤ dn) = false by first | exact decide_eq_true (by omega) | exact decide_eq_false (by omega))
 have t2 := Lib.hid (show decide (up ≤ M) = false by first | exact decide_eq_true (by omega) | exact decide_eq_false (by omega))
 have B0 := Lib.hid (below_al w (.cells #[.int .u64 (H : Nat), .bool hE, .int .u64 (L : Nat), .int .u64 (M : Nat)] 91))
 clear h0 hd hu hl g1 g2 hr hrH hru
 go_enter Tryz.func96, Tryz.ntmps96
 go_wp2
 go_quiet (fail)
 rw [k0.out, k2.out]
 have k3' := k3.out
 go_wp2
 clear k3'
 go_quiet (fail)
 have t1' := t1.out
 have t2' := t2.out
 have BW := Lib.hid (fun q => below_drewN' B0.out q)
 go_wp2
 go_ret2
 exact ⟨rfl, BW.out _⟩

end Go.Proofs.YtfcpkdafkmohkaaGreatDoor
namespace Go.Proofs.YtfcpkdafkmohkaaGreatDoor
open Go.RowKit
set_option maxRecDepth 100000 in
set_option maxHeartbeats 1000000 in
theorem ifmt_small (u : Nat) (w : World) (h : u < 100) : Ct 208 #[.int .u64 u, .int .i64 10] (.string ⟨(Lib.decDigits u).toArray⟩) w := by
 have t1 : (u : Int) < 100 := by omega
 have t2 : (u : Int) < 9223372036854775808 := by omega
 go_enter Tryz.func208, Tryz.ntmps208
 go_wp2_with (go_at_call 232; refine (Tryz.internal_strconv_small u h _).mono ?_; rintro e w' ⟨rfl, rfl⟩)
 go_ret
 exact ⟨rfl, Below.refl _ _⟩
open Go.Sort in
set_option maxRecDepth 100000 in
set_option maxHeartbeats 1000000 in
theorem ifmt_big (u : Nat) (w : World) (h : 100 ≤ u) (hu64 : u < 18446744073709551616) (htab : Lib.TabIs Tryz.prog w "internal/strconv.uint64pow10" .u64 Lib.pow10Tab) :
  Ct 208 #[.int .u64 u, .int .i64 10] (.string ⟨(Lib.decDigits u).toArray⟩) w := by
 have hu1 : 1 ≤ u := by omega
 have hnd20 : Lib.nDigits u ≤ 20 := by have := Lib.numDigits_eq u hu1 hu64; split at this <;> omega
 have t1 : ¬ (u : Int) < 100 := by omega
 have hal : Tryz.prog.arrayLen 202 = 24 := by kernel_rfl
 have hsl1 : ∀ W, (Instr.sliceAt 202 (.pointer (some ⟨w.heap.size, 0, none⟩)) none (some (.int .i64 (Lib.nDigits u : Int))) none).run Tryz.prog W = .ok (.slice (some ⟨w.heap.size, 0, none⟩) (Lib.nDigits u) 24) W := fun W => by
  rw [run_sliceAt_array_h W 202 ⟨w.heap.size, 0, none⟩ (by simp [Program.arrayLen, Program.elem, Tryz.underlying202]) .i64 (Lib.nDigits u : Int) (by omega) (by rw [hal]; omega)]
  go_simp
 have hH0 := Lib.holds_zero0 w 202 (Lib.nDigits u) (by omega)
 have hfmt := Tryz.internal_strconv_formatBase10 w.heap.size 0 24 u (Array.replicate (Lib.nDigits u) 0) (w.alloc (.cells Lib.zeros24 202)) hH0 (by rw [Array.size_replicate]; exact Lib.lt_pow_nDigits u) hu64 (by rw [Array.size_replicate]; omega)
 rw [Array.size_replicate] at hfmt
 have HH0 := Lib.hid hH0
 clear hH0 hal h
 go_enter Tryz.func208, Tryz.ntmps208
 go_wp2_with (first
  | (go_at_call 233; refine (Tryz.internal_strconv_numDigits u hu1 hu64 _ (Lib.tabIs_alloc htab _)).mono ?_; rintro e w' ⟨rfl, rfl⟩))
 go_at_call 234
 refine hfmt.mono ?_
 rintro e w' ⟨rfl, k, v', dk, rfl, hF⟩
 have hcv : (convert 85 9 (.slice (some ⟨w.heap.size, 0, none⟩) (Lib.nDigits u) 24)).run Tryz.prog ((putRow (fun (b : UInt8) => Value.int .u8 (b.toNat : Int)) (w.alloc (.cells Lib.zeros24 202)) w.heap.size 0 dk).drewN k) = .ok (.string ⟨(Lib.decDigits u).toArray⟩) ((putRow (fun (b : UInt8) => Value.int .u8 (b.toNat : Int)) (w.alloc (.cells Lib.zeros24 202)) w.heap.size 0 dk).drewN k) := by
  have h := run_convert_bytes_back (P := Tryz.prog) ((putRow (fun (b : UInt8) => Value.int .u8 (b.toNat : Int)) (w.alloc (.cells Lib.zeros24 202)) w.heap.size 0 dk).drewN k) 85 9 5 ⟨w.heap.size, 0, none⟩ 24 (Lib.decDigits u) Tryz.underlying85 Tryz.underlying5 Tryz.underlying9 (fun j hj => by
   rw [Lib.row_is_numeral hF j hj, Lib.add_plain, World.cell?_drewN]
   exact cell?_putRow (fun (b : UInt8) => Value.int .u8 (b.toNat : Int)) _ w.heap.size 0 _ dk HH0.out (by rw [hF.size, Array.size_replicate]) j (by rw [hF.size]; rw [Lib.decDigits_length] at hj; exact hj))
  rw [Lib.decDigits_length] at h
  exact h
 go_wp2
 go_ret
 obtain ⟨os, eo⟩ := Lib.fin_at w (.cells Lib.zeros24 202) dk k 0
 refine ⟨rfl, ?_⟩
 have hb := Lib.below_grow w.heap.size w (Nat.le_refl _) k os
 rw [← eo] at hb
 exact hb
theorem cfmt_any (u : Nat) (w : World) (hu : u < 18446744073709551616) (htab : Lib.TabIs Tryz.prog w "internal/strconv.uint64pow10" .u64 Lib.pow10Tab) :
  Ct 155 #[.int .u64 u, .int .i64 10] (.string (strOf (dL u))) w := by
 have C : Hid (∀ W, W = w → Ct 208 #[.int .u64 u, .int .i64 10] (.string ⟨(Lib.decDigits u).toArray⟩) W) := Lib.hid (fun W hW => by
  subst hW
  rcases Nat.lt_or_ge u 100 with h | h
  ·exact ifmt_small u W h
  ·exact ifmt_big u W h hu htab)
 have he : (⟨(Lib.decDigits u).toArray⟩ : ByteArray) = strOf (dL u) := str_eq rfl
 rw [← he]
 clear he htab hu
 go_enter Tryz.func155, Tryz.ntmps155
 go_wp2_with fail
 refine (C.out _ rfl).mono ?_
 rintro e w1 ⟨rfl, b1⟩
 go_wp2
 go_ret
 exact ⟨rfl, b1⟩

end Go.Proofs.YtfcpkdafkmohkaaGreatDoor
namespace Go.Proofs.YtfcpkdafkmohkaaGreatDoor
open Go.RowKit
theorem tnearer_any (H L M unit dn : Nat) (hE : Bool) (w : World) (h0 : 0 < unit) (hd : H - H % unit = dn) (hH : H < 9223372036854775808) (hU : unit < 9223372036854775808) :
  Ct 160 #[.agg #[.int .u64 (H : Nat), .bool hE, .int .u64 (L : Nat), .int .u64 (M : Nat)], .int .u64 (dn : Nat), .int .u64 (unit : Nat)] (.bool (decide (H % unit < unit / 2 ∨ (H % unit = unit / 2 ∧ hE = true ∧ dn / unit % 2 = 0)))) w := by
 have hle := Nat.mod_le H unit
 have hD : H - dn = H % unit := by omega
 have hdn : dn ≤ H := by omega
 by_cases h1 : H % unit = unit / 2
 ·cases hE
  ·refine (tnearer_more H L M dn unit _ _ w hD hdn hU rfl h1).mono ?_
   rintro e w' ⟨rfl, hb⟩
   exact ⟨by rw [decide_eq_false (by rw [h1]; simp)], hb⟩
  ·refine (tnearer_exact H L M dn unit _ _ _ w hD hdn hH hU rfl h1 h0 rfl).mono ?_
   rintro e w' ⟨rfl, hb⟩
   refine ⟨congrArg (fun b => Ending.returned (.bool b)) ?_, hb⟩
   rw [Bool.eq_iff_iff, beq_iff_eq, decide_eq_true_iff]
   generalize dn / unit = q
   constructor
   ·intro h
    exact .inr ⟨h1, rfl, by omega⟩
   ·rintro (h | ⟨_, _, h⟩)
    ·omega
    ·omega
 ·refine (tnearer_other H L M dn unit _ _ hE w hD hdn hH hU rfl h1).mono ?_
  rintro e w' ⟨rfl, hb⟩
  refine ⟨congrArg (fun b => Ending.returned (.bool b)) ?_, hb⟩
  rw [Bool.eq_iff_iff, decide_eq_true_iff, decide_eq_true_iff]
  generalize H % unit = a at *
  generalize unit / 2 = b at *
  omega
def candV (o : Option Nat) (d : Nat) : Value := .tuple #[.int .u64 ((o.getD d : Nat) : Int), .bool o.isSome]
theorem tcand_any (H L M unit : Nat) (hE : Bool) (w : World) (h0 : 0 < unit) (hl : H + unit < 9223372036854775808) :
  Ct 96 #[.agg #[.int .u64 (H : Nat), .bool hE, .int .u64 (L : Nat), .int .u64 (M : Nat)], .int .u64 (unit : Nat)] (candV (pcn H hE L M unit) (H - H % unit + unit)) w := by
 obtain ⟨dn, hd⟩ : ∃ dn, H - H % unit = dn := ⟨_, rfl⟩
 obtain ⟨up, hu⟩ : ∃ up, dn + unit = up := ⟨_, rfl⟩
 have hup : up < 9223372036854775808 := by omega
 have CN := fun W => tnearer_any H L M unit dn hE W h0 hd (by omega) (by omega)
 unfold pcn
 rw [hd, hu]
 by_cases g1 : L ≤ dn
 ·by_cases g2 : up ≤ M
  ·by_cases g3 : H % unit < unit / 2 ∨ (H % unit = unit / 2 ∧ hE = true ∧ dn / unit % 2 = 0)
   ·rw [if_pos ⟨g1, .inr g3⟩]
    rw [decide_eq_true g3] at CN
    exact tcand_tt H L M unit dn up hE w h0 hd hu hup g1 g2 (Lib.hid CN)
   ·rw [if_neg (fun h => h.2.elim (fun h => h g2) g3), if_pos g2]
    rw [decide_eq_false g3] at CN
    exact tcand_tf H L M unit dn up hE w h0 hd hu hup g1 g2 (Lib.hid CN)
  ·rw [if_pos ⟨g1, .inl g2⟩]
   exact tcand_down H L M unit dn up hE w h0 hd hu hup g1 g2
 ·rw [if_neg (fun h => g1 h.1)]
  by_cases g2 : up ≤ M
  ·rw [if_pos g2]
   exact tcand_up H L M unit dn up hE w h0 hd hu hup g1 g2
  ·rw [if_neg g2]
   exact tcand_none H L M unit dn up hE w h0 hd hu hup g1 g2
abbrev Tab10 (w : World) : Prop := Lib.TabIs Tryz.prog w "internal/strconv.uint64pow10" .u64 Lib.pow10Tab
theorem Tab10.on {w w' : World} (h : Tab10 w) (hb : Below w.heap.size w w') : Tab10 w' := (Lib.tabBelow_of_tabIs h) w' hb
theorem ttrimmed_walk (u n : Nat) (ten x : Int) (D T : ByteArray) (w : World) (hn : D.size = n) (hx : wrap64 ((n : Int) + ten) = x)
  (C1 : Hid (∀ W, W = w → Ct 155 #[.int .u64 u, .int .i64 10] (.string D) W))
  (C2 : Hid (∀ W, Ct 113 #[.string D, .string ⟨#[48]⟩] (.string T) W)) :
  Ct 93 #[.int .u64 u, .int .i64 ten] (.tuple #[.string T, .int .i64 x]) w := by
 go_enter Tryz.func93, Tryz.ntmps93
 go_wp2_with fail
 refine (C1.out _ rfl).mono ?_
 rintro e w1 ⟨rfl, b1⟩
 have B1 := Lib.hid b1
 clear b1
 go_wp2_with fail
 refine (C2.out _).mono ?_
 rintro e w2 ⟨rfl, b2⟩
 have B2 := Lib.hid (below_le B1.out b2)
 clear b2
 go_wp2
 go_ret2
 exact ⟨congrArg (fun z => Ending.returned (.tuple #[.string T, .int .i64 z])) hx, B2.out⟩
theorem ttrimmed_any (u : Nat) (ten : Int) (w : World) (hu : u < 18446744073709551616) (h1 : -1000 ≤ ten) (h2 : ten ≤ 1000) (ht : Tab10 w) :
  Ct 93 #[.int .u64 u, .int .i64 ten] (.tuple #[.string (strOf (trz (dL u))), .int .i64 ((dL u).length + ten)]) w := by
 have hl : (dL u).length ≤ 20 := by
  rcases Nat.eq_zero_or_pos u with h | h
  ·rw [h, dL_small (by omega)]; simp
  ·have h3 : 10 ^ ((dL u).length - 1) < 10 ^ 20 := Nat.lt_of_le_of_lt (dL_ge h) (by omega)
   have := ten_lt h3
   omega
 have hb : bl (strOf (dL u)) = dL u := bl_strOf fun c hc => by have := dg10_iff.1 (dL_dig u c hc); omega
 have C2 := fun W => trimR48 (strOf (dL u)) W (by rw [strOf_size]; omega)
 rw [hb] at C2
 exact ttrimmed_walk u (dL u).length ten _ _ _ w (strOf_size _) (by unfold wrap64; omega) (Lib.hid fun W h => by subst h; exact cfmt_any u W hu ht) (Lib.hid C2)

end Go.Proofs.YtfcpkdafkmohkaaGreatDoor
namespace Go.Proofs.YtfcpkdafkmohkaaGreatDoor
open Go.RowKit
theorem cut_one (s : ByteArray) (k : UInt8) (w : World) : Cq 131 #[.string s, .string ⟨#[k]⟩] (.tuple #[.string (strOf (if (bl s).head? = some k.toNat then (bl s).tail else bl s)), .bool ((bl s).head? == some k.toNat)]) w := by
 refine (Tryz.strings_CutPrefix s ⟨#[k]⟩ w).mono fun e w' h => ⟨?_, h.2.symm⟩
 rw [h.1]
 have e1 := tp_one s k
 have e2 := hp_one s k
 exact congrArg Ending.returned (by rw [show (⟨#[k]⟩ : ByteArray).data.toList = [k] from rfl, e1, e2])
theorem trim_one (s : ByteArray) (k : UInt8) (w : World) : Cq 149 #[.string s, .string ⟨#[k]⟩] (.string (strOf (if (bl s).head? = some k.toNat then (bl s).tail else bl s))) w := by
 refine (Tryz.strings_TrimPrefix s ⟨#[k]⟩ w).mono fun e w' h => ⟨?_, h.2.symm⟩
 rw [h.1]
 have e1 := tp_one s k
 exact congrArg Ending.returned (by rw [show (⟨#[k]⟩ : ByteArray).data.toList = [k] from rfl, e1])
theorem cut_any' (s p : ByteArray) (w : World) : Cq 131 #[.string s, .string p] (.tuple #[.string (strOf (if (bl p).isPrefixOf (bl s) = true then (bl s).drop p.size else bl s)), .bool ((bl p).isPrefixOf (bl s))]) w := by
 refine (Tryz.strings_CutPrefix s p w).mono fun e w' h => ⟨?_, h.2.symm⟩
 rw [h.1, tp_any, hp_any]
def sgF (b : Bool) : Nat := if b = true then 13830554455654793216 else 4607182418800017408
theorem tcutSign_any (s : ByteArray) (w : World) : Cq 84 #[.string s] (.tuple #[.float .f64 (sgF (sgnB (bl s)) : Nat), .string (strOf (unsg (bl s)))]) w := by
 have C1 := Lib.hid (cut_one s 45 w)
 have C2 := Lib.hid (trim_one s 43 w)
 have h1 : ((bl s).head? == some (45 : UInt8).toNat) = sgnB (bl s) := rfl
 rw [h1] at C1
 cases h : sgnB (bl s)
 ·rw [h] at C1
  have e1 : unsg (bl s) = if (bl s).head? = some (43 : UInt8).toNat then (bl s).tail else bl s := by
   have h2 : ¬ (bl s).head? = some 45 := by
    intro e
    unfold sgnB at h
    rw [e] at h
    simp at h
   unfold unsg
   by_cases h3 : (bl s).head? = some 43
   ·rw [if_pos (Or.inr h3)]; exact (if_pos h3).symm
   ·rw [if_neg (by rintro (h4 | h4); exact h2 h4; exact h3 h4)]; exact (if_neg h3).symm
  rw [← e1] at C2
  obtain ⟨t, ht⟩ : ∃ t, strOf (unsg (bl s)) = t := ⟨_, rfl⟩
  rw [ht] at C2 ⊢
  obtain ⟨t1, ht1⟩ : ∃ t1, strOf (if (bl s).head? = some (45 : UInt8).toNat then (bl s).tail else bl s) = t1 := ⟨_, rfl⟩
  rw [ht1] at C1
  clear h h1 e1 ht ht1
  go_enter Tryz.func84, Tryz.ntmps84
  go_wp2_with fail
  refine C1.out.mono ?_
  rintro e w' ⟨rfl, rfl⟩
  go_wp2_with fail
  refine C2.out.mono ?_
  rintro e w' ⟨rfl, rfl⟩
  go_wp2
  go_ret2
  exact ⟨rfl, rfl⟩
 ·rw [h] at C1
  have e1 : unsg (bl s) = if (bl s).head? = some (45 : UInt8).toNat then (bl s).tail else bl s := by
   have h2 : (bl s).head? = some 45 := by
    unfold sgnB at h
    exact beq_iff_eq.1 h
   unfold unsg
   rw [if_pos (Or.inl h2)]
   exact (if_pos h2).symm
  rw [← e1] at C1
  obtain ⟨t, ht⟩ : ∃ t, strOf (unsg (bl s)) = t := ⟨_, rfl⟩
  rw [ht] at C1 ⊢
  clear h h1 e1 ht C2
  go_enter Tryz.func84, Tryz.ntmps84
  go_wp2_with fail
  refine C1.out.mono ?_
  rintro e w' ⟨rfl, rfl⟩
  go_wp2
  go_ret2
  exact ⟨rfl, rfl⟩
theorem two_ahead (a b : Nat) (l : List Nat) : [a, b].isPrefixOf l = (l.head? == some a && l.tail.head? == some b) := by
 cases l with
 | nil => rfl
 | cons c r =>
  cases r with
  | nil =>
   show (a == c && false) = (some c == some a && (none : Option Nat) == some b)
   rw [Bool.eq_iff_iff]; simp
  | cons d q =>
   show (a == c && (b == d && true)) = (some c == some a && some d == some b)
   rw [Bool.eq_iff_iff]
   simp only [Bool.and_true, Bool.and_eq_true, beq_iff_eq, Option.some.injEq]
   exact ⟨fun e => ⟨e.1.symm, e.2.symm⟩, fun e => ⟨e.1.symm, e.2.symm⟩⟩
theorem tcutHex_any (s : ByteArray) (w : World) : Cq 85 #[.string s] (.tuple #[.string (strOf (if hxA (bl s) = true then (bl s).drop 2 else bl s)), .bool (hxA (bl s))]) w := by
 have C1 := Lib.hid (cut_any' s ⟨#[48, 120]⟩ w)
 have C2 := Lib.hid (cut_any' s ⟨#[48, 88]⟩ w)
 have h1 : (bl ⟨#[48, 120]⟩).isPrefixOf (bl s) = ((bl s).head? == some 48 && (bl s).tail.head? == some 120) := two_ahead 48 120 (bl s)
 have h2 : (bl ⟨#[48, 88]⟩).isPrefixOf (bl s) = ((bl s).head? == some 48 && (bl s).tail.head? == some 88) := two_ahead 48 88 (bl s)
 have hx : hxA (bl s) = ((bl ⟨#[48, 120]⟩).isPrefixOf (bl s) || (bl ⟨#[48, 88]⟩).isPrefixOf (bl s)) := by
  rw [h1, h2]; unfold hxA; cases ((bl s).head? == some 48) <;> rfl
 rw [hx]
 clear h1 h2 hx
 obtain ⟨p, hp⟩ : ∃ p, (bl ⟨#[48, 120]⟩).isPrefixOf (bl s) = p := ⟨_, rfl⟩
 obtain ⟨q, hq⟩ : ∃ q, (bl ⟨#[48, 88]⟩).isPrefixOf (bl s) = q := ⟨_, rfl⟩
 rw [hp] at C1
 rw [hq] at C2
 rw [hp, hq]
 rw [show (⟨#[48, 120]⟩ : ByteArray).size = 2 from rfl] at C1
 rw [show (⟨#[48, 88]⟩ : ByteArray).size = 2 from rfl] at C2
 clear hp hq
 cases p
 ·rw [if_neg (by simp)] at C1
  rw [Bool.false_or]
  obtain ⟨t, ht⟩ : ∃ t, strOf (if q = true then (bl s).drop 2 else bl s) = t := ⟨_, rfl⟩
  rw [ht] at C2 ⊢
  obtain ⟨t1, ht1⟩ : ∃ t1, strOf (bl s) = t1 := ⟨_, rfl⟩
  clear ht ht1
  go_enter Tryz.func85, Tryz.ntmps85
  go_wp2_with fail
  refine C1.out.mono ?_
  rintro e w' ⟨rfl, rfl⟩
  go_wp2_with fail
  refine C2.out.mono ?_
  rintro e w' ⟨rfl, rfl⟩
  go_wp2
  go_ret2
  exact ⟨rfl, rfl⟩
 ·rw [if_pos rfl] at C1
  rw [Bool.true_or, if_pos rfl]
  obtain ⟨t, ht⟩ : ∃ t, strOf ((bl s).drop 2) = t := ⟨_, rfl⟩
  rw [ht] at C1 ⊢
  clear ht C2
  go_enter Tryz.func85, Tryz.ntmps85
  go_wp2_with fail
  refine C1.out.mono ?_
  rintro e w' ⟨rfl, rfl⟩
  go_wp2
  go_ret2
  exact ⟨rfl, rfl⟩

end Go.Proofs.YtfcpkdafkmohkaaGreatDoor
namespace Go.Proofs.YtfcpkdafkmohkaaGreatDoor
open Go.RowKit
theorem low_trim (s : ByteArray) {r : Nat} (hr : r ≤ 36) (w : World) : Ct 133 #[.string s, .string (lowS r)] (.string (strOf ((bl s).dropWhile (ldq r)))) w := by
 have h := Tryz.strings_TrimLeft_laid s (lowS r) w (by rw [low_small hr]; omega) (low_asc hr)
 rw [tl_low hr s] at h
 exact h
theorem drop_len_le (p : Nat → Bool) (l : List Nat) : (l.dropWhile p).length ≤ l.length := (List.dropWhile_sublist p).length_le
set_option maxRecDepth 100000 in
theorem tcutDigits_any (s : ByteArray) (r : Nat) (w : World) (hr : r ≤ 36) (hs : s.size ≤ 4611686018427387903) :
  Ct 86 #[.string s, .int .i64 r] (.tuple #[.string (strOf ((bl s).takeWhile (ldq r))), .string (strOf ((bl s).dropWhile (ldq r)))]) w := by
 have C1 := Lib.hid (low_trim s hr w)
 unfold lowS at C1
 have hle := drop_len_le (ldq r) (bl s)
 rw [bl_size] at hle
 have hk := take_run (ldq r) (bl s)
 rw [bl_size] at hk
 have hsz := strOf_size ((bl s).dropWhile (ldq r))
 obtain ⟨t, ht⟩ : ∃ t, strOf ((bl s).dropWhile (ldq r)) = t := ⟨_, rfl⟩
 rw [ht] at C1 hsz ⊢
 obtain ⟨k, hk2⟩ : ∃ k, s.size - t.size = k := ⟨_, rfl⟩
 have HE := Lib.hid (show s.extract 0 k = strOf ((bl s).takeWhile (ldq r)) from by rw [ext_take, ← hk, ← hk2, hsz])
 have h1 : (t.size : Int) ≤ (s.size : Int) := by omega
 have h2 : (s.size : Int) ≤ 4611686018427387903 := by omega
 have h3 : (s.size : Int) - (t.size : Int) = (k : Int) := by omega
 have h4 : (k : Int) ≤ (s.size : Int) := by omega
 have hr1 : (r : Int) ≤ 36 := by omega
 rw [← HE.out]
 clear hle hk hsz ht hk2 hr hs
 go_enter Tryz.func86, Tryz.ntmps86
 go_wp2_with fail
 refine C1.out.mono ?_
 rintro e w' ⟨rfl, hb⟩
 go_wp2
 go_ret2
 exact ⟨rfl, hb⟩
set_option maxRecDepth 100000 in
set_option maxHeartbeats 1000000 in
theorem tamount_any (s : ByteArray) (w : World) (hs : s.size ≤ 4611686018427387903) (hd : ∀ c ∈ bl s, dg10 c = true) :
  Cq 192 #[.string s] (.int .i64 (amt (bl s) : Nat)) w := by
 have h2 : (s.size : Int) ≤ 4611686018427387903 := by omega
 have HD := Lib.hid hd
 clear hd hs
 go_enter Tryz.func192, Tryz.ntmps192
 go_wp2
 go_loopw [3, 7] (fun nv i wr => ∃ k : Nat, i = .int .i64 k ∧ k ≤ s.size ∧ nv = .int .i64 (amt ((bl s).take k) : Nat) ∧ w = wr) (fun _ i _ => s.size - (intOf i).toNat)
 case atStart => exact ⟨0, rfl, Nat.zero_le _, rfl, rfl⟩
 case round =>
  obtain ⟨k, rfl, hk, rfl, rfl⟩ := hrel
  by_cases hlt : k < s.size
  ·obtain ⟨B, hB⟩ : ∃ B : Nat, (s[k]'hlt).toNat = B := ⟨_, rfl⟩
   have hget : (bl s)[k]? = some B := by rw [bl_get s k hlt, hB]
   have hdB := dg10_iff.1 (HD.out B (List.mem_of_getElem? hget))
   obtain ⟨N, hN⟩ : ∃ N, amt ((bl s).take k) = N := ⟨_, rfl⟩
   have hNl : N < 10995116277760 := by rw [← hN]; exact amt_lt _ (fun c hc => HD.out c (List.mem_of_mem_take hc))
   have hstep : amt ((bl s).take (k + 1)) = amtS N B := by rw [List.take_add_one, hget, ← hN]; exact amt_snoc _ _
   rw [hN]
   have a1 : (0 : Int) ≤ (k : Int) := by omega
   have a2 : (k : Int) < (s.size : Int) := by omega
   have a3 : ((s[k]'hlt).toNat : Int) = (B : Int) := by rw [hB]
   obtain ⟨D, hD⟩ : ∃ D : Nat, B - 48 = D := ⟨_, rfl⟩
   have a4 : IntKind.u8.wrap ((B : Int) - 48) = (D : Int) := by rw [IntWalk.u8_in _ (by omega)]; omega
   have a5 : IntKind.i64.wrap (D : Int) = (D : Int) := IntWalk.i64_in _ (by omega)
   by_cases hc : N < 1099511627776
   ·obtain ⟨M, hM⟩ : ∃ M : Nat, N * 10 + D = M := ⟨_, rfl⟩
    have HS := Lib.hid (show amt ((bl s).take (k + 1)) = M from by rw [hstep]; unfold amtS; rw [if_pos hc, hD, hM])
    have a6 : IntKind.i64.wrap (10 * (N : Int)) = 10 * (N : Int) := IntWalk.i64_in _ (by omega)
    have a7 : IntKind.i64.wrap (10 * (N : Int) + (D : Int)) = (M : Int) := by rw [IntWalk.i64_in _ (by omega)]; omega
    have t1 : decide ((N : Int) < 1099511627776) = true := decide_eq_true (by omega)
    clear hget hdB hN hNl hstep hB hD hM hc HD hk
    go_wp2
    exact ⟨⟨k + 1, by go_num, by omega, by rw [HS.out], trivial⟩, by simp [intOf]; omega⟩
   ·have HS := Lib.hid (show amt ((bl s).take (k + 1)) = N from by rw [hstep]; unfold amtS; rw [if_neg hc])
    have t1 : decide ((N : Int) < 1099511627776) = false := decide_eq_false (by omega)
    clear hget hdB hN hNl hstep hB hD hc HD hk a3 a4 a5
    go_wp2
    exact ⟨⟨k + 1, by go_num, by omega, by rw [HS.out], trivial⟩, by simp [intOf]; omega⟩
  ·have HZ := Lib.hid (show (bl s).take k = bl s from List.take_of_length_le (by rw [bl_size]; omega))
   go_wp2
   go_ret
   exact ⟨by rw [HZ.out]; rfl, rfl⟩
def sgI (b : Bool) : Int := if b = true then -1 else 1
set_option maxRecDepth 100000 in
theorem conv_sg (b : Bool) : ∀ W : World, (convert 22 3 (.float .f64 (sgF b))).run Tryz.prog W = .ok (.int .i64 (sgI b)) W := by
 intro W
 cases b
 ·rfl
 ·rfl
theorem tail_sub {l : List Nat} : ∀ c ∈ l.tail, c ∈ l := fun _ h => List.mem_of_mem_tail h
theorem unsg_sub {l : List Nat} : ∀ c ∈ unsg l, c ∈ l := by
 intro c h
 unfold unsg at h
 split at h
 ·exact tail_sub c h
 ·exact h
theorem run_sub {l : List Nat} : ∀ c ∈ run10 l, c ∈ l := fun _ h => (List.takeWhile_sublist _).subset h
theorem aft_sub {l : List Nat} : ∀ c ∈ aft10 l, c ∈ l := fun _ h => (List.dropWhile_sublist _).subset h
theorem unsg_len (l : List Nat) : (unsg l).length ≤ l.length := by
 unfold unsg
 split
 ·rw [List.length_tail]; omega
 ·omega
theorem ldq_dg : ldq 10 = dg10 := funext ldq_ten
theorem str_ne {l : List Nat} (h : l ≠ []) : ¬ (strOf l).toList = [] ∧ (strOf l).toList.isEmpty = false := by
 have h1 : ¬ (strOf l).toList = [] := by
  rw [Lib.toList_data]
  unfold strOf
  simpa using h
 refine ⟨h1, ?_⟩
 cases hh : (strOf l).toList with
 | nil => exact absurd hh h1
 | cons => rfl
theorem cut_ten (l : List Nat) (w : World) (hl : ∀ c ∈ l, c < 256) (hs : l.length ≤ 4611686018427387903) :
  Ct 86 #[.string (strOf l), .int .i64 10] (.tuple #[.string (strOf (run10 l)), .string (strOf (aft10 l))]) w := by
 have h := tcutDigits_any (strOf l) 10 w (by omega) (by rw [strOf_size]; exact hs)
 rw [bl_strOf hl, ldq_dg] at h
 exact h
theorem expB_no {l : List Nat} (h : ¬ (l.head? = some 101 ∨ l.head? = some 69)) : expB l = false := by
 unfold expB
 have h1 : (l.head? == some 101) = false := beq_eq_false_iff_ne.2 (fun e => h (Or.inl e))
 have h2 : (l.head? == some 69) = false := beq_eq_false_iff_ne.2 (fun e => h (Or.inr e))
 rw [h1, h2]; rfl
theorem expB_is {l : List Nat} (h : l.head? = some 101 ∨ l.head? = some 69) : expB l = !(run10 (unsg l.tail)).isEmpty := by
 unfold expB
 have h1 : (l.head? == some 101 || l.head? == some 69) = true := by
  rcases h with h | h
  ·rw [h]; rfl
  ·rw [h]; rfl
 rw [h1, Bool.true_and]
def ExpQ (l : List Nat) (w : World) (e : Ending) (w' : World) : Prop :=
 e = .returned (.tuple #[.int .i64 (exV l), .string (strOf (if expB l = true then expR l else [])), .bool (expB l)]) ∧ Below w.heap.size w w'
theorem ExpQ.no {l : List Nat} {w w' : World} (h : expB l = false) (hb : Below w.heap.size w w') : ExpQ l w (.returned (.tuple #[.int .i64 0, .string ⟨#[]⟩, .bool false])) w' := by
 refine ⟨?_, hb⟩
 unfold exV
 rw [h, if_neg (by simp), if_neg (by simp)]
 rfl
theorem ExpQ.yes {l : List Nat} {w w' : World} (h : expB l = true) (hb : Below w.heap.size w w') : ExpQ l w (.returned (.tuple #[.int .i64 (expV l), .string (strOf (expR l)), .bool true])) w' := by
 refine ⟨?_, hb⟩
 unfold exV
 rw [h, if_pos rfl, if_pos rfl]
set_option maxRecDepth 100000 in
set_option maxHeartbeats 1000000 in
theorem tcutExponent_any (s : ByteArray) (w : World) (hs : s.size ≤ 4611686018427387903) :
  Cp 132 #[.string s] w (ExpQ (bl s) w) := by
 have h2 : (s.size : Int) ≤ 4611686018427387903 := by omega
 by_cases h0 : s.size = 0
 ·have hnil : bl s = [] := List.eq_nil_of_length_eq_zero (by rw [bl_size]; exact h0)
  have hE := ExpQ.no (l := bl s) (expB_no (by rw [hnil]; simp)) (Below.refl w.heap.size w)
  have hz : s = ⟨#[]⟩ := by
   have := strOf_bl s
   rw [hnil] at this
   exact this.symm
  clear hnil
  subst hz
  have HE := Lib.hid hE
  clear hE h0 hs h2
  go_enter Tryz.func132, Tryz.ntmps132
  go_wp2
  refine bodyPost_ret (results_tmp3 rfl _ _ _) rfl ?_
  exact HE.out
 ·have hp : 0 < s.size := by omega
  obtain ⟨B, hB⟩ : ∃ B : Nat, (s[0]'hp).toNat = B := ⟨_, rfl⟩
  have hhd : (bl s).head? = some B := by rw [List.head?_eq_getElem?, bl_get s 0 hp, hB]
  have a2 : (0 : Int) < (s.size : Int) := by omega
  have a3 : ((s[0]'hp).toNat : Int) = (B : Int) := by rw [hB]
  have hne := str_ne (l := bl s) (by intro e; rw [e] at hhd; cases hhd)
  rw [strOf_bl] at hne
  obtain ⟨n1, n2⟩ := hne
  by_cases hc : B = 101 ∨ B = 69
  ·have hx := expB_is (l := bl s) (by rw [hhd]; rcases hc with h | h <;> simp [h])
   have e1 : bl (s.extract 1 s.size) = (bl s).tail := by rw [bl_drop]; exact List.drop_one
   have C1 := Lib.hid (tcutSign_any (s.extract 1 s.size) w)
   rw [e1] at C1
   obtain ⟨U, hU⟩ : ∃ U, unsg (bl s).tail = U := ⟨_, rfl⟩
   rw [hU] at C1 hx
   have hU2 : ∀ c ∈ U, c < 256 := fun c h => bl_lt s c (tail_sub c (unsg_sub c (by rw [hU]; exact h)))
   have hU3 : U.length ≤ 4611686018427387903 := by
    have k1 := unsg_len (bl s).tail
    rw [hU, List.length_tail, bl_size] at k1
    omega
   have C2 := Lib.hid (cut_ten U w hU2 hU3)
   have hR := run10_all U
   have hRl := run_len U
   have hR2 : ∀ c ∈ run10 U, c < 256 := fun c h => hU2 c (run_sub c h)
   have hV : expV (bl s) = if sgnB (bl s).tail = true then -(amt (run10 U) : Int) else (amt (run10 U) : Int) := by unfold expV; rw [hU]
   have hT : expR (bl s) = aft10 U := by unfold expR; rw [hU]
   obtain ⟨b, hb⟩ : ∃ b, sgnB (bl s).tail = b := ⟨_, rfl⟩
   rw [hb] at C1 hV
   obtain ⟨R, hRR⟩ : ∃ R, run10 U = R := ⟨_, rfl⟩
   rw [hRR] at C2 hR hRl hR2 hV hx
   have m1 : ∀ W, Cq 84 #[.string (s.extract 1 s.size)] (.tuple #[.float .f64 (sgF b : Nat), .string (strOf U)]) W := by
    intro W
    have := tcutSign_any (s.extract 1 s.size) W
    rw [e1, hU, hb] at this
    exact this
   by_cases hR0 : R = []
   ·have HE := Lib.hid (fun w' => ExpQ.no (l := bl s) (w := w) (w' := w') (by rw [hx, hR0]; rfl))
    rw [hR0, strOf_nil] at C2
    rw [show ByteArray.empty = (⟨#[]⟩ : ByteArray) from rfl] at C2
    obtain ⟨u, hu⟩ : ∃ u, strOf U = u := ⟨_, rfl⟩
    obtain ⟨v, hv⟩ : ∃ v, strOf (aft10 U) = v := ⟨_, rfl⟩
    rw [hu] at C1 C2
    rw [hv] at C2
    clear hx e1 hU hU2 hU3 hR hRl hR2 hV hT hb hRR hR0 hu hv hhd hB hs m1 h0
    have t1 : ((B : Int) != 101 && (B : Int) != 69) = false := by rcases hc with rfl | rfl <;> rfl
    have t2 : (B = 101 ∧ ((B : Int) != 101) = false) ∨ (((B : Int) != 101) = true ∧ ((B : Int) != 69) = false) := by rcases hc with rfl | rfl <;> simp
    clear hc
    rcases t2 with ⟨_, t2⟩ | ⟨t2, t3⟩
    ·go_enter Tryz.func132, Tryz.ntmps132
     go_wp2_with fail
     refine C1.out.mono ?_
     rintro e w' ⟨rfl, rfl⟩
     go_wp2_with fail
     refine C2.out.mono ?_
     rintro e w' ⟨rfl, hbw⟩
     go_wp2
     refine bodyPost_ret (results_tmp3 rfl _ _ _) rfl ?_
     exact HE.out _ hbw
    ·go_enter Tryz.func132, Tryz.ntmps132
     go_wp2_with fail
     refine C1.out.mono ?_
     rintro e w' ⟨rfl, rfl⟩
     go_wp2_with fail
     refine C2.out.mono ?_
     rintro e w' ⟨rfl, hbw⟩
     go_wp2
     refine bodyPost_ret (results_tmp3 rfl _ _ _) rfl ?_
     exact HE.out _ hbw
   ·have HE := Lib.hid (fun w' => ExpQ.yes (l := bl s) (w := w) (w' := w') (by rw [hx]; cases R with | nil => exact absurd rfl hR0 | cons => rfl))
    obtain ⟨r1, r2⟩ := str_ne hR0
    have C3 := Lib.hid (fun W => tamount_any (strOf R) W (by rw [strOf_size]; omega) (by rw [bl_strOf hR2]; exact hR))
    rw [bl_strOf hR2] at C3
    have hal := amt_lt R hR
    obtain ⟨N, hN⟩ : ∃ N, amt R = N := ⟨_, rfl⟩
    rw [hN] at C3 hal hV
    have K1 := Lib.hid (conv_sg b)
    have a5 : IntKind.i64.wrap (sgI b * (N : Int)) = expV (bl s) := by
     rw [hV]
     cases b
     ·rw [if_neg (by simp), show sgI false = 1 from rfl, IntWalk.i64_in _ (by omega)]; omega
     ·rw [if_pos rfl, show sgI true = -1 from rfl, IntWalk.i64_in _ (by omega)]; omega
    obtain ⟨X, hX⟩ : ∃ X, expV (bl s) = X := ⟨_, rfl⟩
    rw [hX] at HE a5
    rw [hT] at HE
    obtain ⟨u, hu⟩ : ∃ u, strOf U = u := ⟨_, rfl⟩
    obtain ⟨v, hv⟩ : ∃ v, strOf (aft10 U) = v := ⟨_, rfl⟩
    obtain ⟨f, hf⟩ : ∃ f, strOf R = f := ⟨_, rfl⟩
    rw [hu] at C1 C2
    rw [hv] at C2 HE
    rw [hf] at C2 C3 r1 r2
    have K1 := K1.out
    have t2 : (B = 101 ∧ ((B : Int) != 101) = false) ∨ (((B : Int) != 101) = true ∧ ((B : Int) != 69) = false) := by rcases hc with rfl | rfl <;> simp
    clear hx e1 hU hU2 hU3 hR hRl hR2 hV hT hb hRR hR0 hu hv hf hhd hB hs m1 h0 hc hN hal hX
    rcases t2 with ⟨_, t2⟩ | ⟨t2, t3⟩
    ·go_enter Tryz.func132, Tryz.ntmps132
     go_wp2_with fail
     refine C1.out.mono ?_
     rintro e w' ⟨rfl, rfl⟩
     go_wp2_with fail
     refine C2.out.mono ?_
     rintro e w' ⟨rfl, hbw⟩
     go_wp2_with fail
     refine (C3.out _).mono ?_
     rintro e w' ⟨rfl, rfl⟩
     go_wp2
     refine bodyPost_ret (results_tmp3 rfl _ _ _) rfl ?_
     exact HE.out _ hbw
    ·go_enter Tryz.func132, Tryz.ntmps132
     go_wp2_with fail
     refine C1.out.mono ?_
     rintro e w' ⟨rfl, rfl⟩
     go_wp2_with fail
     refine C2.out.mono ?_
     rintro e w' ⟨rfl, hbw⟩
     go_wp2_with fail
     refine (C3.out _).mono ?_
     rintro e w' ⟨rfl, rfl⟩
     go_wp2
     refine bodyPost_ret (results_tmp3 rfl _ _ _) rfl ?_
     exact HE.out _ hbw
  ·have HE := Lib.hid (ExpQ.no (l := bl s) (expB_no (by rw [hhd]; rintro (h | h) <;> exact hc (by simp at h; omega))) (Below.refl w.heap.size w))
   have t1 : ((B : Int) != 101) = true := by rw [bne_iff_ne]; omega
   have t2 : ((B : Int) != 69) = true := by rw [bne_iff_ne]; omega
   clear hhd hB hs hc h0
   go_enter Tryz.func132, Tryz.ntmps132
   go_wp2
   refine bodyPost_ret (results_tmp3 rfl _ _ _) rfl ?_
   exact HE.out

end Go.Proofs.YtfcpkdafkmohkaaGreatDoor
namespace Go.Proofs.YtfcpkdafkmohkaaGreatDoor
open Go.RowKit
theorem expq_no {l : List Nat} {w w' : World} {e : Ending} (h : ExpQ l w e w') (hb : expB l = false) : e = .returned (.tuple #[.int .i64 0, .string ⟨#[]⟩, .bool false]) ∧ Below w.heap.size w w' := by
 obtain ⟨h1, h2⟩ := h
 refine ⟨?_, h2⟩
 rw [h1]
 unfold exV
 rw [hb, if_neg (by simp), if_neg (by simp)]
 rfl
theorem expq_yes {l : List Nat} {w w' : World} {e : Ending} (h : ExpQ l w e w') (hb : expB l = true) : e = .returned (.tuple #[.int .i64 (expV l), .string (strOf (expR l)), .bool true]) ∧ Below w.heap.size w w' := by
 obtain ⟨h1, h2⟩ := h
 refine ⟨?_, h2⟩
 rw [h1]
 unfold exV
 rw [hb, if_pos rfl, if_pos rfl]
def DecQ (l : List Nat) (w : World) (e : Ending) (w' : World) : Prop :=
 e = .returned (.tuple #[.agg #[.string (strOf (dW l)), .string (strOf (dF l)), .int .i64 (dX l)], .string (strOf (dR l)), .bool true]) ∧ Below w.heap.size w w'
theorem tcutDecimal_yes (s : ByteArray) (w : World) (hs : s.size ≤ 4611686018427387903) (h : dB (bl s) = true) : Cp 68 #[.string s] w (DecQ (bl s) w) := by
 obtain ⟨l, hl⟩ : ∃ l, bl s = l := ⟨_, rfl⟩
 have hlt := bl_lt s
 have hlen := bl_size s
 rw [hl] at h hlt hlen ⊢
 have hA : ∀ c ∈ aft10 l, c < 256 := fun c hc => hlt c (aft_sub c hc)
 have hAl := run_len l
 have C1 := fun W => tcutDigits_any s 10 W (by omega) hs
 rw [hl, ldq_dg] at C1
 have C2 := fun W => cut_one (strOf (aft10 l)) 46 W
 rw [bl_strOf hA] at C2
 have e2 : ((aft10 l).head? == some (46 : UInt8).toNat) = dotB (aft10 l) := rfl
 rw [e2] at C2
 have key : ∀ T : List Nat, (∀ c ∈ T, c < 256) → T.length ≤ 4611686018427387903 → ∀ W, Cp 132 #[.string (strOf T)] W (ExpQ T W) := by
  intro T h1 h2 W
  have := tcutExponent_any (strOf T) W (by rw [strOf_size]; exact h2)
  rw [bl_strOf h1] at this
  exact this
 have ne : ∀ R : List Nat, R ≠ [] → (strOf R).toList.isEmpty = false := fun R hR => (str_ne hR).2
 cases hd : dotB (aft10 l)
 ·rw [hd] at C2
  have hF : dF l = [] := by unfold dF; rw [hd, if_neg (by simp)]
  have hT : dT l = aft10 l := by unfold dT; rw [hd, if_neg (by simp)]
  have hW : dW l ≠ [] := by
   intro e
   unfold dB at h
   rw [hF, e] at h
   simp at h
  have C3 := key (aft10 l) hA (by omega)
  unfold DecQ
  have hX : dX l = exV (aft10 l) := by unfold dX; rw [hT]
  have hR : dR l = exR (aft10 l) := by unfold dR; rw [hT]
  rw [hF, hX, hR]
  unfold exV exR
  cases hb : expB (aft10 l)
  ·rw [if_neg (by simp), if_neg (by simp)]
   exact tcutDecimal_a_false s w _ _ _ _ 0 (ne _ hW) (Lib.hid C1) (Lib.hid C2) (Lib.hid (fun W => (C3 W).mono fun e w' x => expq_no x hb))
  ·rw [if_pos rfl, if_pos rfl]
   exact tcutDecimal_a_true s w _ _ _ _ _ (ne _ hW) (Lib.hid C1) (Lib.hid C2) (Lib.hid (fun W => (C3 W).mono fun e w' x => expq_yes x hb))
 ·rw [hd] at C2
  have hh : (aft10 l).head? = some (46 : UInt8).toNat := beq_iff_eq.1 hd
  rw [if_pos hh] at C2
  have hF : dF l = run10 (aft10 l).tail := by unfold dF; rw [hd, if_pos rfl]
  have hT : dT l = aft10 (aft10 l).tail := by unfold dT; rw [hd, if_pos rfl]
  have hA2 : ∀ c ∈ (aft10 l).tail, c < 256 := fun c hc => hA c (tail_sub c hc)
  have hl2 : (aft10 l).tail.length ≤ 4611686018427387903 := by rw [List.length_tail]; omega
  have C4 := fun W => cut_ten (aft10 l).tail W hA2 hl2
  have hl3 := run_len (aft10 l).tail
  have C3 := key (aft10 (aft10 l).tail) (fun c hc => hA2 c (aft_sub c hc)) (by omega)
  unfold DecQ
  have hX : dX l = exV (aft10 (aft10 l).tail) := by unfold dX; rw [hT]
  have hR : dR l = exR (aft10 (aft10 l).tail) := by unfold dR; rw [hT]
  rw [hF, hX, hR]
  unfold exV exR
  by_cases hW : run10 l = []
  ·have hF2 : run10 (aft10 l).tail ≠ [] := by
    intro e
    unfold dB dW at h
    rw [hF, e, hW] at h
    simp at h
   have C1 : ∀ W, Ct 86 #[.string s, .int .i64 10] (.tuple #[.string ⟨#[]⟩, .string (strOf (aft10 l))]) W := by
    have C1' : ∀ W, Ct 86 #[.string s, .int .i64 10] (.tuple #[.string (strOf (run10 l)), .string (strOf (aft10 l))]) W := C1
    rw [hW] at C1'
    exact C1'
   unfold dW
   rw [hW]
   cases hb : expB (aft10 (aft10 l).tail)
   ·rw [if_neg (by simp), if_neg (by simp)]
    exact tcutDecimal_b1_false s w _ _ _ _ ⟨#[]⟩ 0 (ne _ hF2) (Lib.hid C1) (Lib.hid C2) (Lib.hid C4) (Lib.hid (fun W => (C3 W).mono fun e w' x => expq_no x hb))
   ·rw [if_pos rfl, if_pos rfl]
    exact tcutDecimal_b1_true s w _ _ _ _ _ _ (ne _ hF2) (Lib.hid C1) (Lib.hid C2) (Lib.hid C4) (Lib.hid (fun W => (C3 W).mono fun e w' x => expq_yes x hb))
  ·cases hb : expB (aft10 (aft10 l).tail)
   ·rw [if_neg (by simp), if_neg (by simp)]
    exact tcutDecimal_b0_false s w _ _ _ _ _ ⟨#[]⟩ 0 (ne _ hW) (Lib.hid C1) (Lib.hid C2) (Lib.hid C4) (Lib.hid (fun W => (C3 W).mono fun e w' x => expq_no x hb))
   ·rw [if_pos rfl, if_pos rfl]
    exact tcutDecimal_b0_true s w _ _ _ _ _ _ _ (ne _ hW) (Lib.hid C1) (Lib.hid C2) (Lib.hid C4) (Lib.hid (fun W => (C3 W).mono fun e w' x => expq_yes x hb))
theorem tcutDecimal_no (s : ByteArray) (w : World) (hs : s.size ≤ 4611686018427387903) (h : dB (bl s) = false) :
  Cp 68 #[.string s] w (fun e w' => e = .returned (.tuple #[.agg #[.string ⟨#[]⟩, .string ⟨#[]⟩, .int .i64 0], .string ⟨#[]⟩, .bool false]) ∧ Below w.heap.size w w') := by
 obtain ⟨l, hl⟩ : ∃ l, bl s = l := ⟨_, rfl⟩
 have hlt := bl_lt s
 have hlen := bl_size s
 rw [hl] at h hlt hlen
 have hA : ∀ c ∈ aft10 l, c < 256 := fun c hc => hlt c (aft_sub c hc)
 have hAl := run_len l
 have C1 : ∀ W, Ct 86 #[.string s, .int .i64 10] (.tuple #[.string (strOf (run10 l)), .string (strOf (aft10 l))]) W := by
  intro W
  have := tcutDigits_any s 10 W (by omega) hs
  rw [hl, ldq_dg] at this
  exact this
 have C2 := fun W => cut_one (strOf (aft10 l)) 46 W
 rw [bl_strOf hA] at C2
 have e2 : ((aft10 l).head? == some (46 : UInt8).toNat) = dotB (aft10 l) := rfl
 rw [e2] at C2
 unfold dB dW at h
 have hW : run10 l = [] := by
  cases hr : run10 l with
  | nil => rfl
  | cons => rw [hr] at h; simp at h
 have hF : dF l = [] := by
  cases hr : dF l with
  | nil => rfl
  | cons => rw [hr, hW] at h; simp at h
 rw [hW] at C1
 cases hd : dotB (aft10 l)
 ·rw [hd] at C2
  have hne : ¬ (aft10 l).head? = some (46 : UInt8).toNat := by
   intro e
   unfold dotB at hd
   rw [e] at hd
   simp at hd
  rw [if_neg hne] at C2
  exact tcutDecimal_none s w _ (Lib.hid C1) (Lib.hid C2)
 ·rw [hd] at C2
  have hh : (aft10 l).head? = some (46 : UInt8).toNat := beq_iff_eq.1 hd
  rw [if_pos hh] at C2
  have hA2 : ∀ c ∈ (aft10 l).tail, c < 256 := fun c hc => hA c (tail_sub c hc)
  have hl2 : (aft10 l).tail.length ≤ 4611686018427387903 := by rw [List.length_tail]; omega
  have C4 := fun W => cut_ten (aft10 l).tail W hA2 hl2
  have hF2 : run10 (aft10 l).tail = [] := by
   unfold dF at hF
   rw [hd, if_pos rfl] at hF
   exact hF
  rw [hF2] at C4
  exact tcutDecimal_dot s w _ _ _ (Lib.hid C1) (Lib.hid C2) (Lib.hid C4)

end Go.Proofs.YtfcpkdafkmohkaaGreatDoor
namespace Go.Proofs.YtfcpkdafkmohkaaGreatDoor
open Go.RowKit
set_option maxRecDepth 100000 in
theorem traised_any {w : World} {A : Option Addr} {n c m : Nat} (t : Int) (hA : NV w A n c m) (hm : bln m ≤ 6000) (ht1 : -2000 ≤ t) (ht : t ≤ 2000) :
  Cp 185 #[.slice A n c, .int .i64 t] w (NRet (m * 5 ^ t.toNat) w) := by
 have hp := bln_five t.toNat
 obtain ⟨k, hk⟩ : ∃ k, t.toNat = k := ⟨_, rfl⟩
 rw [hk] at hp ⊢
 have C1 := Lib.hid (fun W => npow 5 k W (by omega) (by omega) (by omega))
 have C2 := Lib.hid (fun W C k2 d (h : NV W C k2 d (5 ^ k)) (g : NV W A n c m) => nmul g h (by omega) (by omega))
 have H := Lib.hid hA
 have e0 : max t 0 = (k : Int) := by omega
 clear hA hp hk hm ht1 ht
 go_enter Tryz.func185, Tryz.ntmps185
 go_wp2_with fail
 refine (C1.out _).mono ?_
 rintro e w1 ⟨A1, n1, c1, rfl, g1, b1⟩
 have G1 := Lib.hid g1
 have G0 := Lib.hid (H.out.step b1)
 have B1 := Lib.hid b1
 clear g1 b1
 go_wp2_with fail
 refine (C2.out _ _ _ _ G1.out G0.out).mono ?_
 rintro e w2 ⟨A2, n2, c2, rfl, g2, b2⟩
 have G2 := Lib.hid g2
 have B2 := Lib.hid b2
 clear g2 b2
 go_wp2
 go_ret
 exact ⟨A2, n2, c2, rfl, G2.out, below_le B1.out B2.out⟩
def QRet (a b : Nat) (w : World) (e : Ending) (w' : World) : Prop := ∃ A n c, e = .returned (.tuple #[.slice A n c, .bool (decide (a % b = 0))]) ∧ NV w' A n c (a / b) ∧ Below w.heap.size w w'
theorem len_zero {v n : Nat} (h : (wds v).length = n) : ((n : Int) == 0) = decide (v = 0) := by
 by_cases h0 : v = 0
 ·rw [h0] at h
  have : n = 0 := by rw [← h]; rfl
  rw [this, h0]; rfl
 ·have h1 : (wds v) ≠ [] := by
   intro e
   have := wds_val v
   rw [e] at this
   exact h0 this.symm
  have h2 := List.length_pos_iff.2 h1
  rw [decide_eq_false h0, beq_eq_false_iff_ne]
  omega
set_option maxRecDepth 100000 in
set_option maxHeartbeats 1000000 in
theorem tratio_any {w : World} {A C : Option Addr} {n c m d a b : Nat} (t : Int) (hA : NV w A n c a) (hC : NV w C m d b) (ha : bln a ≤ 6000) (hb : bln b ≤ 6000) (h0 : 0 < b) (ht1 : -8000 ≤ t) (ht : t ≤ 8000) :
  Cp 109 #[.slice A n c, .slice C m d, .int .i64 t] w (QRet (a * 2 ^ t.toNat) (b * 2 ^ (-t).toNat) w) := by
 have hp1 := bln_pow2 t.toNat
 have hp2 := bln_pow2 (-t).toNat
 have hm1 := bln_mul a (2 ^ t.toNat)
 have hm2 := bln_mul b (2 ^ (-t).toNat)
 have h00 : 0 < b * 2 ^ (-t).toNat := Nat.mul_pos h0 (two_pos _)
 obtain ⟨x, hx⟩ : ∃ x, t.toNat = x := ⟨_, rfl⟩
 obtain ⟨y, hy⟩ : ∃ y, (-t).toNat = y := ⟨_, rfl⟩
 rw [hx] at hp1 hm1 ⊢
 rw [hy] at hp2 hm2 h00 ⊢
 have C1 := Lib.hid (fun W (h : NV W A n c a) => nshl h x (by omega))
 have C2 := Lib.hid (fun W (h : NV W C m d b) => nshl h y (by omega))
 obtain ⟨P, hP⟩ : ∃ P, a * 2 ^ x = P := ⟨_, rfl⟩
 obtain ⟨Q, hQ⟩ : ∃ Q, b * 2 ^ y = Q := ⟨_, rfl⟩
 rw [hP] at C1 hm1 ⊢
 rw [hQ] at C2 hm2 h00 ⊢
 have C3 := Lib.hid (fun W A1 n1 c1 A2 n2 c2 (h : NV W A1 n1 c1 P) (g : NV W A2 n2 c2 Q) => ndiv h g (by omega) (by omega) h00)
 have HA := Lib.hid hA
 have HC := Lib.hid hC
 have e0 : max t 0 = (x : Int) := by omega
 have e1 : max (-t) 0 = (y : Int) := by omega
 have e2 : IntKind.i64.wrap (-t) = -t := IntWalk.i64_in _ (by omega)
 clear hA hC ha hb h0 ht1 ht hp1 hp2 hm1 hm2 hx hy hP hQ
 go_enter Tryz.func109, Tryz.ntmps109
 go_wp2_with fail
 refine (C1.out _ HA.out).mono ?_
 rintro e w1 ⟨A1, n1, c1, rfl, g1, b1⟩
 have G1 := Lib.hid g1
 have GC := Lib.hid (HC.out.step b1)
 have B1 := Lib.hid b1
 clear g1 b1
 go_wp2_with fail
 refine (C2.out _ GC.out).mono ?_
 rintro e w2 ⟨A2, n2, c2, rfl, g2, b2⟩
 have G2 := Lib.hid g2
 have G1' := Lib.hid (G1.out.step b2)
 have B2 := Lib.hid (below_le B1.out b2)
 clear g2 b2
 go_wp2_with fail
 refine (C3.out _ _ _ _ _ _ _ G1'.out G2.out).mono ?_
 rintro e w3 ⟨A3, n3, c3, A4, n4, c4, rfl, g3, g4, b3⟩
 have G3 := Lib.hid g3
 have B3 := Lib.hid (below_le B2.out b3)
 have HZ := Lib.hid (len_zero g4.len)
 clear g3 g4 b3
 go_wp2
 go_ret2
 exact ⟨A3, n3, c3, by rw [← HZ.out]; rfl, G3.out, B3.out⟩

end Go.Proofs.YtfcpkdafkmohkaaGreatDoor
namespace Go.Proofs.YtfcpkdafkmohkaaGreatDoor
open Go.RowKit
set_option maxRecDepth 100000 in
set_option maxHeartbeats 1000000 in
theorem tword_any {w : World} {A : Option Addr} {n c v : Nat} (hA : NV w A n c v) (hv : v < 18446744073709551616) :
  Cq 159 #[.slice A n c] (.int .u64 v) w := by
 have hn : n ≤ 2 := by
  rw [← hA.len]
  exact wds_len_lt (by rw [show (4294967296 : Nat) ^ 2 = 18446744073709551616 from by decide]; exact hv)
 have hL := hA.len
 have hws := wds_ws v
 by_cases hn0 : n = 0
 ·subst hn0
  have hv0 : v = 0 := by
   have h1 := wds_val v
   rw [List.eq_nil_of_length_eq_zero hL] at h1
   exact h1.symm
  subst hv0
  clear hL hws hv hA hn
  go_enter Tryz.func159, Tryz.ntmps159
  go_wp2
  go_loopw [3, 8] (fun a i wr => a = .int .u64 0 ∧ i = .int .i64 0 ∧ w = wr) (fun _ _ _ => 0)
  case atStart => exact ⟨rfl, rfl, rfl⟩
  case round =>
   obtain ⟨rfl, rfl, rfl⟩ := hrel
   go_wp2
   go_ret
   exact ⟨rfl, rfl⟩
 ·obtain ⟨b, off, rfl, _, hc⟩ := hA.row.2 (by omega)
  obtain ⟨x, hx⟩ : ∃ x, (wds v).getD 0 0 = x := ⟨_, rfl⟩
  obtain ⟨y, hy⟩ : ∃ y, (wds v).getD 1 0 = y := ⟨_, rfl⟩
  have hxl : x < 4294967296 := by rw [← hx]; exact hws.getD 0
  have hyl : y < 4294967296 := by rw [← hy]; exact hws.getD 1
  have hV1 : n = 1 → v = x := by
   intro h1
   have h2 := wds_val v
   rw [← val_take_end (k := 1) (by omega), val_take_next, hx] at h2
   simp [val] at h2
   exact h2.symm
  have hV2 : n = 2 → v = x + 4294967296 * y := by
   intro h1
   have h2 := wds_val v
   rw [← val_take_end (k := 2) (by omega), val_take_next, val_take_next, hx, hy] at h2
   simp [val] at h2
   exact h2.symm
  have c0 : w.cell? ⟨b, off, none⟩ = some (.int .u32 (x : Int)) := by
   rw [← hx]
   exact hc 0 _ (getD_some (by omega))
  have hx0 : bits BinOp.or IntKind.u64 0 (x : Int) = (x : Int) := by
   have := or_u64 0 x (by omega) (by omega)
   rw [Nat.zero_or] at this
   exact this
  have k1 : IntKind.u64.wrap (x : Int) = (x : Int) := IntWalk.u64_in _ (by omega)
  rcases (show n = 1 ∨ n = 2 by omega) with rfl | rfl
  ·have hv1 := hV1 rfl
   subst hv1
   clear hV1 hV2 hx hy hyl hws hL hA hn hn0 hc
   go_enter Tryz.func159, Tryz.ntmps159
   go_wp2
   go_loopw [3, 8] (fun a i wr => ((a = .int .u64 0 ∧ i = .int .i64 0) ∨ (a = .int .u64 (v : Int) ∧ i = .int .i64 1)) ∧ w = wr) (fun _ i _ => 1 - (intOf i).toNat)
   case atStart => exact ⟨Or.inl ⟨rfl, rfl⟩, rfl⟩
   case round =>
    obtain ⟨⟨rfl, rfl⟩ | ⟨rfl, rfl⟩, rfl⟩ := hrel
    ·go_wp2
     exact ⟨⟨Or.inr ⟨rfl, rfl⟩, trivial⟩, by simp [intOf]⟩
    ·go_wp2
     go_ret
     exact ⟨rfl, rfl⟩
  ·have hv2 := hV2 rfl
   have c1 : w.cell? ⟨b, off + 1, none⟩ = some (.int .u32 (y : Int)) := by
    rw [← hy]
    exact hc 1 _ (getD_some (by omega))
   have k2 : IntKind.u64.wrap (y : Int) = (y : Int) := IntWalk.u64_in _ (by omega)
   have k3 : IntKind.u64.wrap ((y : Int) * 4294967296) = (y : Int) * 4294967296 := IntWalk.u64_in _ (by omega)
   have hy0 : bits BinOp.or IntKind.u64 (x : Int) ((y : Int) * 4294967296) = (v : Int) := by
    have h1 := or_u64 x (y * 4294967296) (by omega) (by omega)
    have h2 : ((y * 4294967296 : Nat) : Int) = (y : Int) * 4294967296 := by omega
    rw [h2] at h1
    rw [h1, Nat.or_comm, two_word y x hxl, hv2, Nat.mul_comm y, Nat.add_comm]
   clear hV1 hV2 hx hy hws hL hA hn hn0 hc hv2 hxl hyl hv
   go_enter Tryz.func159, Tryz.ntmps159
   go_wp2
   go_loopw [3, 8] (fun a i wr => ((a = .int .u64 0 ∧ i = .int .i64 0) ∨ (a = .int .u64 (x : Int) ∧ i = .int .i64 1) ∨ (a = .int .u64 (v : Int) ∧ i = .int .i64 2)) ∧ w = wr) (fun _ i _ => 2 - (intOf i).toNat)
   case atStart => exact ⟨Or.inl ⟨rfl, rfl⟩, rfl⟩
   case round =>
    obtain ⟨⟨rfl, rfl⟩ | ⟨rfl, rfl⟩ | ⟨rfl, rfl⟩, rfl⟩ := hrel
    ·go_wp2
     exact ⟨⟨Or.inr (Or.inl ⟨rfl, rfl⟩), trivial⟩, by simp [intOf]⟩
    ·go_wp2
     exact ⟨⟨Or.inr (Or.inr ⟨rfl, rfl⟩), trivial⟩, by simp [intOf]⟩
    ·go_wp2
     go_ret
     exact ⟨rfl, rfl⟩

end Go.Proofs.YtfcpkdafkmohkaaGreatDoor
