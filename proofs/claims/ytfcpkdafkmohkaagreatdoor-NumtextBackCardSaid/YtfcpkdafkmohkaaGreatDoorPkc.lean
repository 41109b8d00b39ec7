/-
  Merged texts (De, Dh, St, Sa, Sc, Sd, BG, Nv, Tc, Tj, Wf, Wg, Wh, Wi, Ta, Tb, Td, Te, Tf, Tg, Th, Ti, Tk, Tl, Tm, Tn, To, Us).
-/
import Derived.Test.YtfcpkdafkmohkaaGreatDoorPkb
import Derived.Shelf.Strings.SlTrimAscii
import Derived.Shelf.Strings.Builder1
import Derived.Shelf.Strings.Builder2
import Derived.Shelf.Strings.OnBuilder
import Derived.Shelf.Strings.Trim
import Derived.Shelf.Small.Utf8
import Derived.Shelf.Small.Bits
import Derived.Shelf.Small.Strs
import Derived.Shelf.Small.Wraps
import Derived.Shelf.Strings.BuilderF
import Derived.Shelf.Strings.BuilderK
import Derived.Shelf.Strconv.Itoa0
import Derived.Shelf.Strconv.Itoa1
import Derived.Shelf.LaysM
import Derived.Shelf.Strconv.Itoa2
import Derived.Shelf.Strconv.Itoa3
import Derived.Shelf.Strings.Search1
import Derived.Shelf.Strings.Prefix
import Derived.Shelf.Unicode.Latin
import Derived.Shelf.Strings.Runes
import Derived.Shelf.Strings.AsciiSet
import Derived.Shelf.Bits.Mul64
import Derived.Shelf.Strings.Repeat
import Derived.Shelf.Unicode.DecodeSlow
import Derived.Shelf.Unicode.CaseLookup
import Derived.Shelf.Unicode.CaseConvert
import Derived.Shelf.Unicode.CaseTo
import Derived.Shelf.Unicode.CaseLaid
import Derived.Test.YtfcpkdafkmohkaaGreatDoorProg
import GoSem.Core.Utf8
import Derived.WalkKit
import Derived.WalkSpells
import Derived.WalkLawsBesides
import Derived.Deep.QuietTactic
import Derived.BigQuiet
import Derived.Lib.Hide
import Derived.Deep.OwnRows
import Derived.Laws.CopyOwn
import Derived.Deep.AppendLies
import Derived.Lib.BitFns
import Derived.Lib.Strings
import Derived.Laws.BitsAllLaws
import Derived.Lib.LaidTab
import Derived.ProofKit
import Derived.OpenShut
import Derived.SizedLaws
import Derived.Laws.BytesString
import Derived.Laws.Cells
import Derived.Deep.RegionWith
import Derived.BigRegion
import Derived.Test.YtfcpkdafkmohkaaGreatDoorRows
import Derived.Lib.ItoaNum
import Derived.Deep.DeepCutAuto
import Ieee.Arith
import GoSem.Core.Float
import Derived.Laws.FloatArith
import Derived.Laws.Externs
import Derived.Deep.RegionHeld3
import Derived.Laws.Closers25b
import Derived.Lib.SlTrimSet
import Derived.Lib.Case
import Derived.Deep.WholeRow
import Derived.Laws.Tables
import Derived.Laws.EntriesVeiled
import Derived.Lib.AppendIntMem
namespace Go.Proofs.YtfcpkdafkmohkaaGreatDoor
def ldz (f : List Nat) : List Nat := f.dropWhile (· == 48)
def trz (f : List Nat) : List Nat := (f.reverse.dropWhile (· == 48)).reverse
theorem ldz_mem {f : List Nat} {c : Nat} (h : c ∈ ldz f) : c ∈ f := (List.dropWhile_sublist _).subset h
theorem trz_mem {f : List Nat} {c : Nat} (h : c ∈ trz f) : c ∈ f := by
 unfold trz at h
 rw [List.mem_reverse] at h
 exact List.mem_reverse.1 ((List.dropWhile_sublist _).subset h)
theorem dropWhile_zeros : ∀ g : List Nat, ∃ z, g = List.replicate z 48 ++ g.dropWhile (· == 48)
 | [] => ⟨0, rfl⟩
 | c :: g => by
  by_cases h : c = 48
  ·subst h
   obtain ⟨z, hz⟩ := dropWhile_zeros g
   refine ⟨z + 1, ?_⟩
   rw [List.dropWhile_cons_of_pos (by simp), List.replicate_succ, List.cons_append, ← hz]
  ·exact ⟨0, by rw [List.dropWhile_cons_of_neg (by simpa using h)]; rfl⟩
theorem trz_zeros (f : List Nat) : ∃ z, f = trz f ++ List.replicate z 48 := by
 obtain ⟨z, hz⟩ := dropWhile_zeros f.reverse
 refine ⟨z, ?_⟩
 have h := congrArg List.reverse hz
 rw [List.reverse_reverse, List.reverse_append, List.reverse_replicate] at h
 exact h
theorem trz_last (f : List Nat) : (trz f).getLast? ≠ some 48 := by
 unfold trz
 rw [List.getLast?_reverse]
 exact lead_head f.reverse
theorem num_trz (f : List Nat) : num 10 f = num 10 (trz f) * 10 ^ (f.length - (trz f).length) := by
 obtain ⟨z, hz⟩ := trz_zeros f
 have hl : f.length - (trz f).length = z := by
  have := congrArg List.length hz
  rw [List.length_append, List.length_replicate] at this
  omega
 have h2 := congrArg (num 10) hz
 rw [num_append, num_zeros, List.length_replicate, Nat.add_zero] at h2
 rw [hl, h2]
theorem trz_len (f : List Nat) : (trz f).length ≤ f.length := by
 obtain ⟨z, hz⟩ := trz_zeros f
 have := congrArg List.length hz
 rw [List.length_append] at this
 omega
theorem num_any_pos {f : List Nat} (hd : ∀ x ∈ f, dg10 x = true) {c : Nat} (hc : c ∈ f) (h : c ≠ 48) : 0 < num 10 f := by
 rcases Nat.eq_zero_or_pos (num 10 f) with h0 | h0
 ·exfalso
  have h1 := (num_pos_iff hd).1 h0
  obtain ⟨z, hz⟩ := dropWhile_zeros f
  rw [h1, List.append_nil] at hz
  rw [hz] at hc
  exact h (List.eq_of_mem_replicate hc)
 ·exact h0
theorem num_lo {g : List Nat} (hd : ∀ x ∈ g, dg10 x = true) (h0 : g ≠ []) (hh : g.head? ≠ some 48) : 10 ^ (g.length - 1) ≤ num 10 g := by
 cases g with
 | nil => exact absurd rfl h0
 | cons c r =>
  have := num_ge (f := r) (c := c) hd (fun e => hh (by rw [e]; rfl))
  simpa using this
theorem num_hi {g : List Nat} (hd : ∀ x ∈ g, dg10 x = true) : num 10 g < 10 ^ g.length := num_lt (fun c hc => (dgt_ten (hd c hc)).2)
theorem head_take {g : List Nat} {k : Nat} (hk : 0 < k) : (g.take k).head? = g.head? := by
 cases g with
 | nil => simp
 | cons c r =>
  obtain ⟨j, rfl⟩ : ∃ j, k = j + 1 := ⟨k - 1, by omega⟩
  rw [List.take_succ_cons]
  rfl
theorem dgt_49 : dgt 49 = 1 := by decide
theorem cut_tail {g : List Nat} {k : Nat} {e : Int} (hd : ∀ x ∈ g, dg10 x = true) (hh : g.head? ≠ some 48) (hk : 769 ≤ k) (hl : k < g.length) (hpt : (g.length : Int) + e ≤ 768) (hc : ∃ c ∈ g.drop k, c ≠ 48) :
  decR (num 10 g) e = decR (num 10 (g.take k ++ [49])) (e + (g.length - k : Nat) - 1) := by
 obtain ⟨p, hp⟩ : ∃ p, g.take k = p := ⟨_, rfl⟩
 obtain ⟨q, hq⟩ : ∃ q, g.drop k = q := ⟨_, rfl⟩
 have hg : g = p ++ q := by rw [← hp, ← hq, List.take_append_drop]
 have lp : p.length = k := by rw [← hp, List.length_take]; omega
 have lq : q.length = g.length - k := by rw [← hq, List.length_drop]
 have dp : ∀ x ∈ p, dg10 x = true := fun x hx => hd x (by rw [hg]; exact List.mem_append_left _ hx)
 have dq : ∀ x ∈ q, dg10 x = true := fun x hx => hd x (by rw [hg]; exact List.mem_append_right _ hx)
 have hhp : p.head? ≠ some 48 := by rw [← hp, head_take (by omega)]; exact hh
 have p0 : p ≠ [] := fun e => by rw [e] at lp; simp at lp; omega
 rw [hq] at hc
 obtain ⟨c, hc1, hc2⟩ := hc
 have q0 := num_any_pos dq hc1 hc2
 have h1 := num_lo dp p0 hhp
 rw [lp] at h1
 have h2 := num_hi dp
 rw [lp] at h2
 have h3 := num_hi dq
 rw [hp, num_append, num_one, dgt_49, ← lq]
 have h4 := decR_cut (p := num 10 p) (r := q.length) (q := num 10 q) (k := k) (e := e) hk h1 h2 h3 q0 (by rw [hg, List.length_append, lp] at hpt; omega)
 rw [← num_append, ← hg] at h4
 rw [h4]
 rfl
/-! ### The program's way -/
theorem pway_none {f : List Nat} {e : Int} (h : trz (ldz f) = []) : decR (num 10 f) e = 0 := by
 have h1 := num_trz (ldz f)
 rw [h, num_nil, Nat.zero_mul] at h1
 have h2 : num 10 (ldz f) = num 10 f := num_lead 10 f
 rw [← h2, h1]
 exact decR_zero e
theorem pway_low {f : List Nat} {e : Int} (hd : ∀ x ∈ f, dg10 x = true) (h : ((ldz f).length : Int) + e < -323) : decR (num 10 f) e = 0 := by
 have h2 : num 10 (ldz f) = num 10 f := num_lead 10 f
 rw [← h2]
 exact decR_tiny (num_hi (fun x hx => hd x (ldz_mem hx))) (by omega)
theorem pway_high {f : List Nat} {e : Int} (hd : ∀ x ∈ f, dg10 x = true) (h0 : trz (ldz f) ≠ []) (h : 309 < ((ldz f).length : Int) + e) : decR (num 10 f) e = 9218868437227405312 := by
 have h2 : num 10 (ldz f) = num 10 f := num_lead 10 f
 have h3 : ldz f ≠ [] := fun e => h0 (by rw [e]; rfl)
 have h4 : 0 < (ldz f).length := List.length_pos_iff.2 h3
 rw [← h2]
 exact decR_huge (num_lo (fun x hx => hd x (ldz_mem hx)) h3 (lead_head f)) (by omega)
theorem pway_short {f : List Nat} (e : Int) : decR (num 10 f) e = decR (num 10 (trz (ldz f))) ((ldz f).length + e - (trz (ldz f)).length) := by
 have h2 : num 10 (ldz f) = num 10 f := num_lead 10 f
 have h3 := trz_len (ldz f)
 rw [← h2, num_trz (ldz f), decR_shift]
 exact congrArg (decR _) (by omega)
theorem trz_head {f : List Nat} (h : f.head? ≠ some 48) : (trz f).head? ≠ some 48 := by
 obtain ⟨z, hz⟩ := trz_zeros f
 cases ht : trz f with
 | nil => simp
 | cons c r =>
  rw [ht] at hz
  rw [hz] at h
  exact h
theorem pway_long {f : List Nat} {e : Int} (hd : ∀ x ∈ f, dg10 x = true) (hl : 800 < (trz (ldz f)).length) (h : ((ldz f).length : Int) + e ≤ 309) : decR (num 10 f) e = decR (num 10 ((trz (ldz f)).take 800 ++ [49])) ((ldz f).length + e - 801) := by
 rw [pway_short]
 have h3 := trz_len (ldz f)
 have hdh : ∀ x ∈ trz (ldz f), dg10 x = true := fun x hx => hd x (ldz_mem (trz_mem hx))
 have key := cut_tail (g := trz (ldz f)) (k := 800) (e := (ldz f).length + e - (trz (ldz f)).length) hdh (trz_head (lead_head f)) (by omega) hl (by omega) ?_
 ·rw [key]
  exact congrArg (decR _) (by omega)
 ·have hne : trz (ldz f) ≠ [] := fun e => by rw [e] at hl; simp at hl
  obtain ⟨c, hc⟩ : ∃ c, (trz (ldz f)).getLast? = some c := ⟨_, List.getLast?_eq_some_getLast hne⟩
  refine ⟨c, ?_, fun e => trz_last (ldz f) (by rw [← e]; exact hc)⟩
  have h5 : ((trz (ldz f)).drop 800).getLast? = some c := by
   rw [List.getLast?_drop, if_neg (by omega)]
   exact hc
  exact List.mem_of_getLast? h5
/-! ### The reference's way -/
end Go.Proofs.YtfcpkdafkmohkaaGreatDoor
namespace Go.Proofs.YtfcpkdafkmohkaaGreatDoor
def hxA (l : List Nat) : Bool := l.head? == some 48 && (l.tail.head? == some 120 || l.tail.head? == some 88)
def hx16 (c : Nat) : Bool := decide (dgt c < 16)
def hxB (l : List Nat) : Bool := hxA l && !(l.drop 2).isEmpty && (l.drop 2).all hx16
def natV (r : Nat) (f : List Nat) : Nat := decR (num r f) 0
def infL : List Nat := [73, 110, 102, 105, 110, 105, 116, 121]
def infB (l : List Nat) : Bool := infL.isPrefixOf l
def sgW (s : Bool) (r : Nat) : Nat := if s = true then 9223372036854775808 + r else r
def nanW : Nat := 9221120237041090560
def numW (l : List Nat) : Nat :=
 if l = [] then 0 else if hxB l = true then natV 16 (l.drop 2)
 else if unsg l = infL then sgW (sgnB l) 9218868437227405312
 else if dB (unsg l) = true ∧ dR (unsg l) = [] then sgW (sgnB l) (dV (unsg l)) else nanW
def litB (l : List Nat) : Bool := hxB l || (dB l && (dR l).isEmpty && !(l.head? == some 48 && (l.tail.head?.map dg10 == some true)))
def litV (l : List Nat) : Nat := if hxB l = true then natV 16 (l.drop 2) else if litB l = true then dV l else 0
def fltW (l : List Nat) : Nat :=
 if infB (unsg l) = true then sgW (sgnB l) 9218868437227405312 else if dB (unsg l) = true then sgW (sgnB l) (dV (unsg l)) else nanW
def dgq (r : Nat) (c : Nat) : Bool := decide (dgt c < r)
def nrw (z : Nat) (us : List Nat) : List Nat := us.map fun u => if 127 < u then z else u
theorem nrw_lt {z : Nat} (hz : z < 128) (us : List Nat) : ∀ c ∈ nrw z us, c < 128 := by
 intro c hc
 unfold nrw at hc
 obtain ⟨u, _, rfl⟩ := List.mem_map.1 hc
 split <;> omega
end Go.Proofs.YtfcpkdafkmohkaaGreatDoor
namespace Go.Proofs.YtfcpkdafkmohkaaGreatDoor
theorem bl_lt (s : ByteArray) : ∀ c ∈ bl s, c < 256 := by
 intro c hc
 unfold bl at hc
 obtain ⟨b, _, rfl⟩ := List.mem_map.1 hc
 exact b.toNat_lt
theorem bl_mk (X : List UInt8) : bl ⟨X.toArray⟩ = X.map UInt8.toNat := by unfold bl; simp
theorem str_eq {X : List UInt8} {L : List Nat} (h : X.map UInt8.toNat = L) : (⟨X.toArray⟩ : ByteArray) = strOf L := by
 refine bl_inj ?_
 rw [bl_mk, h, bl_strOf]
 intro u hu
 rw [← h] at hu
 obtain ⟨b, _, rfl⟩ := List.mem_map.1 hu
 exact b.toNat_lt
theorem strOf_bl (s : ByteArray) : strOf (bl s) = s := bl_inj (bl_strOf (bl_lt s))
theorem bl_data (s : ByteArray) : s.data.toList.map UInt8.toNat = bl s := rfl
theorem strOf_size (l : List Nat) : (strOf l).size = l.length := by
 unfold strOf
 show (Array.size _) = _
 simp
theorem bl_size (s : ByteArray) : (bl s).length = s.size := bl_len s
theorem strOf_nil : strOf [] = ByteArray.empty := rfl
theorem drop_map' {p : UInt8 → Bool} {q : Nat → Bool} (h : ∀ b : UInt8, p b = q b.toNat) : ∀ l : List UInt8, (l.dropWhile p).map UInt8.toNat = (l.map UInt8.toNat).dropWhile q := by
 intro l
 rw [List.dropWhile_map]
 congr 1
 congr 1
 funext b
 exact h b
theorem hp_one (s : ByteArray) (k : UInt8) : Lib.hasPrefix s.data.toList [k] = ((bl s).head? == some k.toNat) := by
 unfold Lib.hasPrefix bl
 cases s.data.toList with
 | nil => rfl
 | cons c r =>
  show (k == c && true) = (some c.toNat == some k.toNat)
  rw [Bool.eq_iff_iff]
  simp only [Bool.and_true, beq_iff_eq, Option.some.injEq]
  exact ⟨fun e => by rw [e], fun e => (UInt8.toNat_inj.1 e).symm⟩
theorem tp_one (s : ByteArray) (k : UInt8) : (⟨(Lib.trimPrefix s.data.toList [k]).toArray⟩ : ByteArray) = strOf (if (bl s).head? = some k.toNat then (bl s).tail else bl s) := by
 refine str_eq ?_
 unfold Lib.trimPrefix
 rw [hp_one]
 by_cases h : (bl s).head? = some k.toNat
 ·rw [if_pos h, beq_iff_eq.2 h, if_pos rfl, List.map_drop, bl_data]
  exact List.drop_one
 ·rw [if_neg h, beq_eq_false_iff_ne.2 h, if_neg (by simp), bl_data]
theorem isp_map : ∀ (p l : List UInt8), p.isPrefixOf l = (p.map UInt8.toNat).isPrefixOf (l.map UInt8.toNat)
 | [], l => by cases l <;> rfl
 | c :: p, [] => rfl
 | c :: p, d :: l => by
  show (c == d && p.isPrefixOf l) = (c.toNat == d.toNat && (p.map UInt8.toNat).isPrefixOf (l.map UInt8.toNat))
  rw [isp_map p l]
  congr 1
  rw [Bool.eq_iff_iff, beq_iff_eq, beq_iff_eq]
  exact ⟨fun e => by rw [e], fun e => UInt8.toNat_inj.1 e⟩
theorem hp_any (s p : ByteArray) : Lib.hasPrefix s.data.toList p.data.toList = (bl p).isPrefixOf (bl s) := isp_map _ _
theorem tp_any (s p : ByteArray) : (⟨(Lib.trimPrefix s.data.toList p.data.toList).toArray⟩ : ByteArray) = strOf (if (bl p).isPrefixOf (bl s) = true then (bl s).drop p.size else bl s) := by
 refine str_eq ?_
 unfold Lib.trimPrefix
 rw [hp_any]
 by_cases h : (bl p).isPrefixOf (bl s) = true
 ·rw [if_pos h, if_pos h, List.map_drop, bl_data, ← Lib.size_eq]
 ·rw [if_neg h, if_neg h, bl_data]
def lowS (r : Nat) : ByteArray := (⟨#[48, 49, 50, 51, 52, 53, 54, 55, 56, 57, 97, 98, 99, 100, 101, 102, 103, 104, 105, 106, 107, 108, 109, 110, 111, 112, 113, 114, 115, 116, 117, 118, 119, 120, 121, 122]⟩ : ByteArray).extract 0 r
def ldq (r : Nat) (c : Nat) : Bool := decide (dgt c < r) && !(decide (65 ≤ c) && decide (c ≤ 90))
theorem low_has : ∀ (r : Fin 37) (b : Fin 256), (lowS r.val).data.toList.contains (UInt8.ofNat b.val) = ldq r.val b.val := by decide +kernel
theorem low_contains {r : Nat} (hr : r ≤ 36) (b : UInt8) : (lowS r).data.toList.contains b = ldq r b.toNat := by
 have := low_has ⟨r, by omega⟩ ⟨b.toNat, b.toNat_lt⟩
 simpa using this
theorem low_ascii : ∀ (r : Fin 37) (j : Fin 37), ∀ b, (lowS r.val).data.toList[j.val]? = some b → b.toNat < 128 := by decide +kernel
theorem low_len : ∀ r : Fin 37, (lowS r.val).data.toList.length = r.val := by decide +kernel
theorem low_small {r : Nat} (hr : r ≤ 36) : (lowS r).size = r := by rw [Lib.size_eq]; exact low_len ⟨r, by omega⟩
theorem low_asc {r : Nat} (hr : r ≤ 36) : ∀ (j : Nat) (b : UInt8), (lowS r).data.toList[j]? = some b → b.toNat < 128 := by
 intro j b hb
 rcases Nat.lt_or_ge j 37 with h | h
 ·exact low_ascii ⟨r, by omega⟩ ⟨j, h⟩ b hb
 ·exfalso
  rw [List.getElem?_eq_none (by rw [low_len ⟨r, by omega⟩]; show r ≤ j; omega)] at hb
  cases hb
theorem ldq_ten (c : Nat) : ldq 10 c = dg10 c := by
 unfold ldq
 rw [Bool.eq_iff_iff, Bool.and_eq_true, decide_eq_true_eq, dgt_lt_ten]
 constructor
 ·exact fun h => h.1
 ·intro h
  refine ⟨h, ?_⟩
  have := dg10_iff.1 h
  simp; omega
theorem tl_low {r : Nat} (hr : r ≤ 36) (s : ByteArray) : (⟨(Lib.trimLeftS s.data.toList (lowS r).data.toList).toArray⟩ : ByteArray) = strOf ((bl s).dropWhile (ldq r)) :=
 str_eq (drop_map' (fun b => low_contains hr b) _)
theorem contains_48 (b : UInt8) : [(48 : UInt8)].contains b = (b.toNat == 48) := by
 rw [Lib.contains_one, Bool.eq_iff_iff, beq_iff_eq, beq_iff_eq]
 exact ⟨fun e => by rw [e]; rfl, fun e => UInt8.toNat_inj.1 e⟩
theorem tl_48 (s : ByteArray) : (⟨(Lib.trimLeftS s.data.toList [48]).toArray⟩ : ByteArray) = strOf (ldz (bl s)) :=
 str_eq (drop_map' (q := (· == 48)) (fun b => contains_48 b) _)
theorem tr_48 (s : ByteArray) : (⟨(Lib.trimRightS s.data.toList [48]).toArray⟩ : ByteArray) = strOf (trz (bl s)) := by
 refine str_eq ?_
 unfold Lib.trimRightS trz
 rw [List.map_reverse, drop_map' (q := (· == 48)) (fun b => contains_48 b), List.map_reverse]
 rfl
def lowC (c : Nat) : Nat := if 65 ≤ c ∧ c ≤ 90 then c + 32 else c
theorem low_byte : ∀ b : Fin 128, (Lib.lowerB (UInt8.ofNat b.val)).toNat = lowC b.val := by decide +kernel
theorem lower_eq {s : ByteArray} (h : ∀ c ∈ bl s, c < 128) : (⟨(Lib.toLowerA s.data.toList).toArray⟩ : ByteArray) = strOf ((bl s).map lowC) := by
 refine str_eq ?_
 unfold Lib.toLowerA bl
 rw [List.map_map, List.map_map]
 refine List.map_congr_left (fun b hb => ?_)
 have h1 : b.toNat < 128 := h b.toNat (List.mem_map.2 ⟨b, hb, rfl⟩)
 have := low_byte ⟨b.toNat, h1⟩
 simpa using this
theorem asc_of {s : ByteArray} (h : ∀ c ∈ bl s, c < 128) : ∀ (j : Nat) (b : UInt8), s.data.toList[j]? = some b → b.toNat < 128 := fun _ b hb => h b.toNat (List.mem_map.2 ⟨b, List.mem_of_getElem? hb, rfl⟩)
theorem dgt_low (c : Nat) : dgt (lowC c) = dgt c := by
 unfold dgt lowC
 split <;> (repeat' split) <;> omega
theorem ldq_low (r c : Nat) : ldq r (lowC c) = decide (dgt c < r) := by
 unfold ldq
 rw [dgt_low]
 have : (decide (65 ≤ lowC c) && decide (lowC c ≤ 90)) = false := by unfold lowC; split <;> simp <;> omega
 rw [this]
 simp
theorem num_low (r : Nat) : ∀ l : List Nat, num r (l.map lowC) = num r l
 | [] => rfl
 | c :: l => by rw [List.map_cons, num_cons, num_cons, dgt_low, num_low r l, List.length_map]
theorem take_low (r : Nat) (l : List Nat) : (l.map lowC).takeWhile (ldq r) = (l.takeWhile (fun c => decide (dgt c < r))).map lowC := by
 rw [List.takeWhile_map]
 congr 1
 congr 1
 funext c
 exact ldq_low r c
theorem drop_low (r : Nat) (l : List Nat) : (l.map lowC).dropWhile (ldq r) = (l.dropWhile (fun c => decide (dgt c < r))).map lowC := by
 rw [List.dropWhile_map]
 congr 1
 congr 1
 funext c
 exact ldq_low r c
theorem ext_take (s : ByteArray) (k : Nat) : s.extract 0 k = strOf ((bl s).take k) := by
 refine bl_inj ?_
 rw [bl_strOf (fun u hu => bl_lt s u (List.mem_of_mem_take hu))]
 unfold bl
 rw [Lib.extract_data, List.drop_zero, Nat.sub_zero, List.map_take]
theorem ext_drop (s : ByteArray) (k : Nat) : s.extract k s.size = strOf ((bl s).drop k) := by
 refine bl_inj ?_
 rw [bl_strOf (fun u hu => bl_lt s u (List.mem_of_mem_drop hu)), bl_drop]
theorem take_run (p : Nat → Bool) (l : List Nat) : l.take (l.length - (l.dropWhile p).length) = l.takeWhile p := by
 have h := List.takeWhile_append_dropWhile (p := p) (l := l)
 have hl := congrArg List.length h
 rw [List.length_append] at hl
 have h2 : l.length - (l.dropWhile p).length = (l.takeWhile p).length := by omega
 rw [h2]
 have h3 : (l.takeWhile p ++ l.dropWhile p).take (l.takeWhile p).length = l.takeWhile p := List.take_left
 rw [h] at h3
 exact h3
theorem strOf_append (a b : List Nat) : strOf a ++ strOf b = strOf (a ++ b) := by
 unfold strOf
 rw [List.map_append]
 apply ByteArray.ext
 simp

end Go.Proofs.YtfcpkdafkmohkaaGreatDoor
namespace Go.Proofs.YtfcpkdafkmohkaaGreatDoor
def dL (n : Nat) : List Nat := (Lib.decDigits n).map UInt8.toNat
theorem u8_toNat {n : Nat} (h : n < 256) : (UInt8.ofNat n).toNat = n := by simp; omega
theorem dL_small {n : Nat} (h : n < 10) : dL n = [48 + n] := by
 unfold dL
 rw [Lib.decDigits, dif_pos h, List.map_cons, List.map_nil, u8_toNat (by omega)]
theorem dL_big {n : Nat} (h : 10 ≤ n) : dL n = dL (n / 10) ++ [48 + n % 10] := by
 unfold dL
 rw [Lib.decDigits, dif_neg (by omega), List.map_append, List.map_cons, List.map_nil, u8_toNat (by omega)]
theorem dL_snoc {n d : Nat} (hn : 0 < n) (hd : d < 10) : dL (n * 10 + d) = dL n ++ [48 + d] := by
 rw [dL_big (by omega), show (n * 10 + d) / 10 = n by omega, show (n * 10 + d) % 10 = d by omega]
theorem dL_ind {P : Nat → Prop} (h1 : ∀ n, n < 10 → P n) (h2 : ∀ n, 10 ≤ n → P (n / 10) → P n) (n : Nat) : P n := by
 induction n using Nat.strongRecOn with
 | _ n ih =>
  by_cases h : n < 10
  ·exact h1 n h
  ·exact h2 n (by omega) (ih _ (by omega))
theorem dL_dig (n : Nat) : ∀ c ∈ dL n, dg10 c = true := by
 refine dL_ind (P := fun n => ∀ c ∈ dL n, dg10 c = true) ?_ ?_ n
 ·intro n h c hc
  rw [dL_small h, List.mem_singleton] at hc
  subst hc
  exact dg10_iff.2 (by omega)
 ·intro n h ih c hc
  rw [dL_big h, List.mem_append, List.mem_singleton] at hc
  rcases hc with hc | rfl
  ·exact ih c hc
  ·exact dg10_iff.2 (by omega)
theorem dL_ne (n : Nat) : dL n ≠ [] := by
 by_cases h : n < 10
 ·rw [dL_small h]; simp
 ·rw [dL_big (by omega)]; simp
theorem dL_pos (n : Nat) : 0 < (dL n).length := List.length_pos_iff.2 (dL_ne n)
theorem dgt_48p {d : Nat} (h : d < 10) : dgt (48 + d) = d := by
 have := dgt_ten (c := 48 + d) (dg10_iff.2 (by omega))
 omega
theorem dL_num (n : Nat) : num 10 (dL n) = n := by
 refine dL_ind (P := fun n => num 10 (dL n) = n) ?_ ?_ n
 ·intro n h
  rw [dL_small h, num_one, dgt_48p h]
 ·intro n h ih
  rw [dL_big h, num_append, ih, num_one, dgt_48p (by omega), List.length_singleton]
  omega
theorem dL_head {n : Nat} : 0 < n → (dL n).head? ≠ some 48 := by
 refine dL_ind (P := fun n => 0 < n → (dL n).head? ≠ some 48) ?_ ?_ n
 ·intro n h h0
  rw [dL_small h]
  simp
  omega
 ·intro n h ih _
  have := dL_ne (n / 10)
  have ih' := ih (by omega)
  rw [dL_big h]
  cases hd : dL (n / 10) with
  | nil => exact absurd hd this
  | cons a b =>
   rw [hd] at ih'
   simpa using ih'
theorem dL_lt (n : Nat) : n < 10 ^ (dL n).length := by
 have := num_hi (g := dL n) (dL_dig n)
 rwa [dL_num] at this
theorem dL_ge {n : Nat} (h : 0 < n) : 10 ^ ((dL n).length - 1) ≤ n := by
 have := num_lo (g := dL n) (dL_dig n) (dL_ne n) (dL_head h)
 rwa [dL_num] at this
theorem ten_lt {a b : Nat} (h : 10 ^ a < 10 ^ b) : a < b := by
 rcases Nat.lt_or_ge a b with h1 | h1
 ·exact h1
 ·have := Nat.pow_le_pow_right (n := 10) (by omega) h1
  omega
theorem dL_len {n k : Nat} (h1 : 10 ^ k ≤ n) (h2 : n < 10 ^ (k + 1)) : (dL n).length = k + 1 := by
 have hp := ten_pos k
 have a1 := ten_lt (Nat.lt_of_le_of_lt h1 (dL_lt n))
 have a2 := ten_lt (Nat.lt_of_le_of_lt (dL_ge (n := n) (by omega)) h2)
 omega
theorem dL_zeros {n : Nat} (hn : 0 < n) : ∀ j : Nat, dL (n * 10 ^ j) = dL n ++ List.replicate j 48
 | 0 => by simp
 | j + 1 => by
  have h := dL_snoc (n := n * 10 ^ j) (d := 0) (Nat.mul_pos hn (ten_pos j)) (by omega)
  rw [Nat.pow_succ, ← Nat.mul_assoc, show n * 10 ^ j * 10 = n * 10 ^ j * 10 + 0 by omega, h, dL_zeros hn j, List.replicate_succ', List.append_assoc]
theorem trz_snoc {l : List Nat} {c : Nat} (h : c ≠ 48) : trz (l ++ [c]) = l ++ [c] := by
 unfold trz
 rw [List.reverse_append, List.reverse_singleton, List.singleton_append, List.dropWhile_cons_of_neg (by simpa using h)]
 simp
theorem trz_rep (l : List Nat) : ∀ j : Nat, trz (l ++ List.replicate j 48) = trz l
 | 0 => by simp
 | j + 1 => by
  rw [List.replicate_succ', ← List.append_assoc]
  have : ∀ m : List Nat, trz (m ++ [48]) = trz m := fun m => by
   unfold trz
   rw [List.reverse_append, List.reverse_singleton, List.singleton_append, List.dropWhile_cons_of_pos (by simp)]
  rw [this, trz_rep l j]
theorem dL_last {n : Nat} (h : n % 10 ≠ 0) : trz (dL n) = dL n := by
 by_cases h1 : n < 10
 ·rw [dL_small h1, show [48 + n] = [] ++ [48 + n] from rfl, trz_snoc (by omega)]
 ·rw [dL_big (by omega), trz_snoc (by omega)]
theorem dL_trz {n : Nat} (h : n % 10 ≠ 0) (j : Nat) : trz (dL (n * 10 ^ j)) = dL n := by
 rw [dL_zeros (by omega), trz_rep, dL_last h]

end Go.Proofs.YtfcpkdafkmohkaaGreatDoor
namespace Go.Proofs.YtfcpkdafkmohkaaGreatDoor
def powK (K : Nat) : Nat := 2 ^ K
theorem powK_eq (K : Nat) : powK K = 2 ^ K := rfl
theorem powK_pos (K : Nat) : 0 < powK K := two_pos K
def big : Nat := powK 1074
theorem big_pos : 0 < big := powK_pos 1074
theorem big_K : ∃ K : Nat, K = 1074 ∧ big = 2 ^ K := ⟨1074, rfl, powK_eq 1074⟩
def vU (r : Nat) (s : Int) : Nat := fmag r * 10 ^ s.toNat
def vV (s : Int) : Nat := big * 10 ^ (-s).toNat
theorem vV_pos (s : Int) : 0 < vV s := Nat.mul_pos big_pos (ten_pos _)
theorem decR_big (N : Nat) (e : Int) : decR N e = rnd (N * vV (-e)) (10 ^ (-e).toNat) := by
 obtain ⟨K, hK, hd⟩ := decR_K
 obtain ⟨K', hK', hb⟩ := big_K
 have : K' = K := by omega
 subst this
 unfold vV
 rw [hd, hb, show (- -e).toNat = e.toNat by omega, Nat.mul_assoc, Nat.mul_comm (10 ^ e.toNat)]
theorem ten_iff {u v a b c d : Nat} (e : c + b = a + d) : v * 10 ^ a ≤ u * 10 ^ b ↔ v * 10 ^ c ≤ u * 10 ^ d := by
 have hb := ten_pos b
 have hd := ten_pos d
 have e1 : v * 10 ^ a * 10 ^ d = v * 10 ^ c * 10 ^ b := by rw [Nat.mul_assoc, Nat.mul_assoc, ← Nat.pow_add, ← Nat.pow_add, e]
 have e2 : u * 10 ^ b * 10 ^ d = u * 10 ^ d * 10 ^ b := Nat.mul_right_comm _ _ _
 rw [← Nat.mul_le_mul_right_iff hd, e1, e2, Nat.mul_le_mul_right_iff hb]
theorem le10_at {r j : Nat} {m s : Int} (h : m + s = j) : le10 m (fmag r) big ↔ 10 ^ j * vV s ≤ vU r s := by
 unfold le10 vU vV
 rw [Nat.mul_left_comm, ← Nat.pow_add]
 exact ten_iff (by omega)
theorem vU_cross (r i : Nat) (s : Int) : vU r (s - i) * (vV s * 10 ^ i) = vU r s * vV (s - i) := by
 unfold vU vV
 have h1 : fmag r * 10 ^ (s - i).toNat * (big * 10 ^ (-s).toNat * 10 ^ i) = fmag r * big * (10 ^ (s - i).toNat * 10 ^ (-s).toNat * 10 ^ i) := by
  generalize 10 ^ (s - i).toNat = a
  generalize 10 ^ (-s).toNat = b
  generalize 10 ^ i = c
  grind
 have h2 : fmag r * 10 ^ s.toNat * (big * 10 ^ (-(s - i)).toNat) = fmag r * big * (10 ^ s.toNat * 10 ^ (-(s - i)).toNat) := by
  generalize 10 ^ s.toNat = a
  generalize 10 ^ (-(s - i)).toNat = b
  grind
 rw [h1, h2, ← Nat.pow_add, ← Nat.pow_add, ← Nat.pow_add]
 exact congrArg (fun k => fmag r * big * 10 ^ k) (by omega)
theorem lower_quot (r i : Nat) (s : Int) : vU r (s - i) / vV (s - i) = vU r s / vV s / 10 ^ i := by
 rw [(quot_cross (vV_pos _) (Nat.mul_pos (vV_pos s) (ten_pos i)) (vU_cross r i s)).1, Nat.div_div_eq_div_mul]
theorem lower_rest (r i half : Nat) (s : Int) (hi : 10 ^ i = 2 * half) :
  (2 * (vU r (s - i) % vV (s - i)) < vV (s - i) ↔ vU r s / vV s % 10 ^ i < half) ∧ (2 * (vU r (s - i) % vV (s - i)) = vV (s - i) ↔ vU r s / vV s % 10 ^ i = half ∧ vU r s % vV s = 0) := by
 have h := quot_cross (vV_pos _) (Nat.mul_pos (vV_pos s) (ten_pos i)) (vU_cross r i s)
 have g := unit_rest (U := vU r s) (half := half) (vV_pos s)
 rw [← hi] at g
 exact ⟨h.2.1.trans g.2.1, h.2.2.trans g.2.2⟩
def cq (r : Nat) (n : Int) (k : Nat) : Nat := vU r (k - n) / vV (k - n)
def cnear (r : Nat) (n : Int) (k : Nat) : Bool := decide (2 * (vU r (k - n) % vV (k - n)) < vV (k - n)) || (decide (2 * (vU r (k - n) % vV (k - n)) = vV (k - n)) && decide (cq r n k % 2 = 0))
def clow (r : Nat) (n : Int) (k : Nat) : Bool := decide (decR (cq r n k) (n - k) = r)
def chigh (r : Nat) (n : Int) (k : Nat) : Bool := decide (decR (cq r n k + 1) (n - k) = r)
def cnd (r : Nat) (n : Int) (k : Nat) : Option Nat :=
 if (clow r n k && (!chigh r n k || cnear r n k)) = true then some (cq r n k) else if chigh r n k = true then some (cq r n k + 1) else none
theorem cnd_none {r k : Nat} {n : Int} : cnd r n k = none ↔ clow r n k = false ∧ chigh r n k = false := by
 unfold cnd
 cases clow r n k <;> cases chigh r n k <;> cases cnear r n k <;> simp
theorem cnd_some {r k c : Nat} {n : Int} (h : cnd r n k = some c) : (c = cq r n k ∨ c = cq r n k + 1) ∧ decR c (n - k) = r := by
 unfold cnd at h
 split at h
 ·rename_i hc
  injection h with h
  subst h
  refine ⟨.inl rfl, ?_⟩
  have := (Bool.and_eq_true _ _ ▸ hc).1
  exact of_decide_eq_true this
 ·split at h
  ·rename_i hc
   injection h with h
   subst h
   exact ⟨.inr rfl, of_decide_eq_true hc⟩
  ·cases h
theorem cq_lo {r k : Nat} {n : Int} (hp : PointAt (fmag r) big n) (hk : 1 ≤ k) : 10 ^ (k - 1) ≤ cq r n k := by
 unfold cq
 rw [Nat.le_div_iff_mul_le (vV_pos _)]
 exact (le10_at (by omega)).1 hp.1
theorem cq_hi {r k : Nat} {n : Int} (hp : PointAt (fmag r) big n) : cq r n k < 10 ^ k := by
 unfold cq
 rw [Nat.div_lt_iff_lt_mul (vV_pos _)]
 exact Nat.lt_of_not_le fun h => hp.2 ((le10_at (by omega)).2 h)
theorem cq_ten (r k : Nat) (n : Int) : cq r n k = cq r n (k + 1) / 10 := by
 unfold cq
 have := lower_quot r 1 (((k + 1 : Nat) : Int) - n)
 rw [Nat.pow_one, show ((k + 1 : Nat) : Int) - n - ((1 : Nat) : Int) = (k : Int) - n by omega] at this
 exact this
theorem cnd_last {r k c : Nat} {n : Int} (hp : PointAt (fmag r) big n) (hk : 1 ≤ k) (hmin : ∀ j, 1 ≤ j → j < k → cnd r n j = none) (h : cnd r n k = some c) :
  (c % 10 ≠ 0 ∧ 10 ^ (k - 1) ≤ c ∧ c < 10 ^ k) ∨ (k = 1 ∧ c = 10) := by
 obtain ⟨hc, hd⟩ := cnd_some h
 have b1 := cq_lo (k := k) hp hk
 have b2 := cq_hi (k := k) hp
 by_cases h0 : c % 10 = 0
 ·right
  rcases Nat.lt_or_ge 1 k with h1 | h1
  ·exfalso
   obtain ⟨j, rfl⟩ : ∃ j, k = j + 1 := ⟨k - 1, by omega⟩
   have hn := cnd_none.1 (hmin j (by omega) (by omega))
   have hq := cq_ten r j n
   obtain ⟨d, rfl⟩ : ∃ d, c = d * 10 ^ 1 := ⟨c / 10, by omega⟩
   rw [decR_shift, show n - ((j + 1 : Nat) : Int) + ((1 : Nat) : Int) = n - (j : Int) by omega] at hd
   rcases hc with hc | hc
   ·have : d = cq r n j := by rw [hq]; omega
    rw [this] at hd
    have := hn.1
    unfold clow at this
    exact of_decide_eq_false this hd
   ·have : d = cq r n j + 1 := by rw [hq]; omega
    rw [this] at hd
    have := hn.2
    unfold chigh at this
    exact of_decide_eq_false this hd
  ·have hk1 : k = 1 := by omega
   subst hk1
   refine ⟨rfl, ?_⟩
   simp at b1 b2
   omega
 ·left
  refine ⟨h0, by omega, ?_⟩
  rcases hc with rfl | hc
  ·exact b2
  ·rcases Nat.lt_or_ge c (10 ^ k) with h1 | h1
   ·exact h1
   ·exfalso
    have : c = 10 ^ k := by omega
    obtain ⟨j, rfl⟩ : ∃ j, k = j + 1 := ⟨k - 1, by omega⟩
    rw [this, Nat.pow_succ] at h0
    omega
def SQ (r : Nat) (D : List Nat) (N : Int) : Prop := ∃ n k c, PointAt (fmag r) big n ∧ 1 ≤ k ∧ k ≤ 17 ∧ (∀ j, 1 ≤ j → j < k → cnd r n j = none) ∧ cnd r n k = some c ∧ D = trz (dL c) ∧ N = (dL c).length + n - k
theorem SQ.one {r : Nat} {D E : List Nat} {N M : Int} (h : SQ r D N) (g : SQ r E M) : D = E ∧ N = M := by
 obtain ⟨n, k, c, h1, h2, _, h3, h4, h5, h6⟩ := h
 obtain ⟨n', k', c', g1, g2, _, g3, g4, g5, g6⟩ := g
 have hn := point_one h1 g1
 subst hn
 have hk : k = k' := by
  rcases Nat.lt_trichotomy k k' with h | h | h
  ·rw [g3 k h2 h] at h4; cases h4
  ·exact h
  ·rw [h3 k' g2 h] at g4; cases g4
 subst hk
 rw [h4] at g4
 injection g4 with g4
 subst g4
 exact ⟨h5.trans g5.symm, h6.trans g6.symm⟩
theorem cnd_ends {r : Nat} {n : Int} (hp : PointAt (fmag r) big n) (h0 : 0 < r) (hr : r < 9218868437227405312) : cnd r n 17 ≠ none := by
 intro hn
 obtain ⟨n1, n2⟩ := cnd_none.1 hn
 have hbig : 100000000000000000 * vV (18 - n) ≤ fmag r * 10 ^ ((18 : Int) - n).toNat := (le10_at (j := 17) (s := 18 - n) (by omega)).1 hp.1
 have hB := ten_pos ((18 : Int) - n).toNat
 have hq := lower_quot r 1 (18 - n)
 rw [Nat.pow_one, show (18 : Int) - n - ((1 : Nat) : Int) = ((17 : Nat) : Int) - n by omega] at hq
 have l1 := low_iff (unit := 10) (vV_pos (18 - n)) hB h0 hr
 have l2 := high_iff (unit := 10) (vV_pos (18 - n)) hB (by omega) h0 hr
 have hH : vU r (18 - n) = fmag r * 10 ^ ((18 : Int) - n).toNat := rfl
 have sh : ∀ c, decR c (n - ((17 : Nat) : Int)) = rnd (c * 10 * vV (18 - n)) (10 ^ ((18 : Int) - n).toNat) := by
  intro c
  have e1 := decR_shift c 1 (n - 18)
  rw [Nat.pow_one, show n - 18 + ((1 : Nat) : Int) = n - ((17 : Nat) : Int) by omega] at e1
  rw [← e1, decR_big, show -(n - 18) = 18 - n by omega]
 have m1 := of_decide_eq_false n1
 have m2 := of_decide_eq_false n2
 unfold cq at m1 m2
 rw [sh, hq, hH] at m1 m2
 rcases ten_found (vV_pos (18 - n)) hB h0 hbig with h | h
 ·exact m1 (l1.2 h)
 ·exact m2 (l2.2 h)

end Go.Proofs.YtfcpkdafkmohkaaGreatDoor
namespace Go.Proofs.YtfcpkdafkmohkaaGreatDoor
def pcn (H : Nat) (ex : Bool) (L M unit : Nat) : Option Nat :=
 if L ≤ H - H % unit ∧ (¬ H - H % unit + unit ≤ M ∨ H % unit < unit / 2 ∨ (H % unit = unit / 2 ∧ ex = true ∧ (H - H % unit) / unit % 2 = 0)) then some (H - H % unit)
 else if H - H % unit + unit ≤ M then some (H - H % unit + unit) else none
theorem pcn_cnd {r k i M : Nat} {n : Int} (hk : k + i = 18) (hi : 1 ≤ i) (h0 : 0 < r) (hr : r < 9218868437227405312)
  (hM : ∀ c, c ≤ M ↔ mostLe (vV (18 - n)) (10 ^ ((18 : Int) - n).toNat) r c) :
  pcn (vU r (18 - n) / vV (18 - n)) (decide (vU r (18 - n) % vV (18 - n) = 0)) (leastOf (vV (18 - n)) (10 ^ ((18 : Int) - n).toNat) r) M (10 ^ i) = (cnd r n k).map (· * 10 ^ i) := by
 have hB := ten_pos ((18 : Int) - n).toNat
 have hu := ten_pos i
 obtain ⟨half, hh⟩ : ∃ half, 10 ^ i = 2 * half := ⟨5 * 10 ^ (i - 1), by
  obtain ⟨j, rfl⟩ : ∃ j, i = j + 1 := ⟨i - 1, by omega⟩
  rw [Nat.pow_succ, Nat.add_sub_cancel]
  omega⟩
 have hs : (18 : Int) - n - (i : Int) = (k : Int) - n := by omega
 have hq := lower_quot r i (18 - n)
 have hl := lower_rest r i half (18 - n) hh
 rw [hs] at hq hl
 have l1 := low_iff (unit := 10 ^ i) (vV_pos (18 - n)) hB h0 hr
 have l2 := high_iff (unit := 10 ^ i) (vV_pos (18 - n)) hB hu h0 hr
 rw [show fmag r * 10 ^ ((18 : Int) - n).toNat = vU r (18 - n) from rfl] at l1 l2
 have sh : ∀ c, decR c (n - (k : Int)) = rnd (c * 10 ^ i * vV (18 - n)) (10 ^ ((18 : Int) - n).toNat) := by
  intro c
  have e1 := decR_shift c i (n - 18)
  rw [show n - 18 + (i : Int) = n - (k : Int) by omega] at e1
  rw [← e1, decR_big, show -(n - 18) = 18 - n by omega]
 have hcq : cq r n k = vU r (18 - n) / vV (18 - n) / 10 ^ i := hq
 generalize hH : vU r (18 - n) / vV (18 - n) = H at *
 have hdn : H - H % 10 ^ i = H / 10 ^ i * 10 ^ i := by
  have := Nat.div_add_mod H (10 ^ i)
  rw [Nat.mul_comm] at this
  omega
 have hup : H / 10 ^ i * 10 ^ i + 10 ^ i = (H / 10 ^ i + 1) * 10 ^ i := by rw [Nat.add_mul, Nat.one_mul]
 have ta : leastOf (vV (18 - n)) (10 ^ ((18 : Int) - n).toNat) r ≤ H / 10 ^ i * 10 ^ i ↔ clow r n k = true := by
  rw [← l1]
  unfold clow
  rw [decide_eq_true_iff, hcq, sh]
 have tb : H / 10 ^ i * 10 ^ i + 10 ^ i ≤ M ↔ chigh r n k = true := by
  rw [hM, hup, ← l2]
  unfold chigh
  rw [decide_eq_true_iff, hcq, sh]
 have tc : (H % 10 ^ i < 10 ^ i / 2 ∨ (H % 10 ^ i = 10 ^ i / 2 ∧ decide (vU r (18 - n) % vV (18 - n) = 0) = true ∧ H / 10 ^ i * 10 ^ i / 10 ^ i % 2 = 0)) ↔ cnear r n k = true := by
  unfold cnear
  rw [Bool.or_eq_true, Bool.and_eq_true, decide_eq_true_iff, decide_eq_true_iff, decide_eq_true_iff, decide_eq_true_iff, hl.1, hl.2, hcq, Nat.mul_div_cancel _ hu, show 10 ^ i / 2 = half by omega]
  constructor
  ·rintro (h | ⟨a, b, c⟩)
   ·exact .inl h
   ·exact .inr ⟨⟨a, b⟩, c⟩
  ·rintro (h | ⟨⟨a, b⟩, c⟩)
   ·exact .inl h
   ·exact .inr ⟨a, b, c⟩
 unfold pcn cnd
 rw [hdn, hcq]
 by_cases h1 : clow r n k = true <;> by_cases h2 : chigh r n k = true <;> by_cases h3 : cnear r n k = true
 all_goals
  simp only [ta, tb, tc, h1, h2, h3]
  simp [Nat.add_mul]
theorem rnd_above {r s u : Nat} (hr : r < 9218868437227405312) (hrs : r < s) (h : fmag s ≤ u) : rnd u 1 ≠ r := by
 rcases Nat.lt_or_ge s 9218868437227405312 with hs | hs
 ·have h1 := rnd_own (v := 1) (by omega) hs
  have h2 := rnd_mono (u := fmag s * 1) (v := 1) (u' := u) (v' := 1) (by omega) (by omega) (by omega)
  omega
 ·have hf : fmag 9218868437227405312 ≤ fmag s := by
   rcases Nat.eq_or_lt_of_le hs with e | e
   ·rw [← e]; exact Nat.le_refl _
   ·exact Nat.le_of_lt (fmag_lt.2 e)
  have := rnd_top (u := u) (v := 1) (by omega) (by rw [Nat.mul_one]; exact Nat.le_trans hf h)
  omega
theorem rnd_below {r s u : Nat} (hr : r < 9218868437227405312) (hrs : s < r) (h : u ≤ fmag s) : rnd u 1 ≠ r := by
 have h1 := rnd_own (v := 1) (r := s) (by omega) (by omega)
 have h2 := rnd_mono (u := u) (v := 1) (u' := fmag s * 1) (v' := 1) (by omega) (by omega) (by omega)
 omega
theorem strip_tens {N : Nat} (h : 0 < N) : ∃ c j, N = c * 10 ^ j ∧ c % 10 ≠ 0 := by
 induction N using Nat.strongRecOn with
 | _ N ih =>
  by_cases h0 : N % 10 = 0
  ·obtain ⟨c, j, h1, h2⟩ := ih (N / 10) (by omega) (by omega)
   refine ⟨c, j + 1, ?_, h2⟩
   rw [Nat.pow_succ, ← Nat.mul_assoc, ← h1]
   omega
  ·exact ⟨N, 0, by simp, h0⟩
theorem sq_whole {r N : Nat} (h0 : 0 < N) (hN : N < 9007199254740992) (hr : r < 9218868437227405312) (hm : fmag r = N * big) : SQ r (trz (dL N)) (dL N).length := by
 obtain ⟨K, hK, hbig⟩ := big_K
 obtain ⟨c, j, e, hc⟩ := strip_tens h0
 have hc0 : 0 < c := by omega
 have hlen : (dL N).length = (dL c).length + j := by rw [e, dL_zeros hc0, List.length_append, List.length_replicate]
 obtain ⟨k, hk⟩ : ∃ k, (dL c).length = k := ⟨_, rfl⟩
 have hk1 : 1 ≤ k := by rw [← hk]; exact dL_pos c
 have hl1 := dL_lt N
 have hl2 := dL_ge h0
 rw [hlen, hk] at hl1 hl2
 have hle : k + j ≤ 16 := by
  have h3 : 10 ^ (k + j - 1) < 10 ^ 16 := Nat.lt_of_le_of_lt hl2 (by omega)
  have := ten_lt h3
  omega
 have hq : ∀ i : Nat, i ≤ k + j → cq r ((k + j : Nat) : Int) i = N / 10 ^ (k + j - i) ∧ vU r ((i : Int) - ((k + j : Nat) : Int)) % vV ((i : Int) - ((k + j : Nat) : Int)) = big * (N % 10 ^ (k + j - i)) := by
  intro i hi
  unfold cq vU vV
  rw [show ((i : Int) - ((k + j : Nat) : Int)).toNat = 0 by omega, show (-((i : Int) - ((k + j : Nat) : Int))).toNat = k + j - i by omega, Nat.pow_zero, Nat.mul_one, hm, Nat.mul_comm N]
  exact ⟨Nat.mul_div_mul_left _ _ big_pos, Nat.mul_mod_mul_left _ _ _⟩
 have sh : ∀ d i : Nat, i ≤ k + j → decR d (((k + j : Nat) : Int) - (i : Int)) = rnd (d * 10 ^ (k + j - i) * big) 1 := by
  intro d i hi
  rw [decR_big]
  unfold vV
  rw [show (-(-(((k + j : Nat) : Int) - (i : Int)))).toNat = k + j - i by omega, show (-(((k + j : Nat) : Int) - (i : Int))).toNat = 0 by omega, Nat.pow_zero, Nat.mul_comm big, ← Nat.mul_assoc]
 have hNk : N / 10 ^ j = c := by rw [e]; exact Nat.mul_div_cancel _ (ten_pos j)
 have hNr : N % 10 ^ j = 0 := by rw [e]; exact Nat.mul_mod_left _ _
 have hqk := hq k (by omega)
 rw [show k + j - k = j by omega, hNk, hNr, Nat.mul_zero] at hqk
 have hlow : clow r ((k + j : Nat) : Int) k = true := by
  unfold clow
  rw [decide_eq_true_iff, hqk.1, sh c k (by omega), show k + j - k = j by omega, ← e, ← hm, ← Nat.mul_one (fmag r)]
  exact rnd_own (by omega) hr
 have hnear : cnear r ((k + j : Nat) : Int) k = true := by
  unfold cnear
  rw [hqk.2, Nat.mul_zero, decide_eq_true (vV_pos _), Bool.true_or]
 refine ⟨((k + j : Nat) : Int), k, c, ⟨?_, ?_⟩, hk1, by omega, ?_, ?_, by rw [e, dL_trz hc, dL_last hc], by omega⟩
 ·unfold le10
  rw [show (((k + j : Nat) : Int) - 1).toNat = k + j - 1 by omega, show (-(((k + j : Nat) : Int) - 1)).toNat = 0 by omega, Nat.pow_zero, Nat.mul_one, hm, Nat.mul_comm N]
  exact Nat.mul_le_mul_left _ hl2
 ·unfold le10
  rw [show (((k + j : Nat) : Int)).toNat = k + j by omega, show (-(((k + j : Nat) : Int))).toNat = 0 by omega, Nat.pow_zero, Nat.mul_one, hm, Nat.mul_comm N]
  intro h
  have := Nat.le_of_mul_le_mul_left h big_pos
  omega
 ·intro i hi1 hi2
  rw [cnd_none]
  have hqi := (hq i (by omega)).1
  obtain ⟨d, hd⟩ : ∃ d, k + j - i = j + 1 + d := ⟨k - 1 - i, by omega⟩
  rw [hd] at hqi
  have hne : N % 10 ^ (j + 1 + d) ≠ 0 := by
   intro h
   have h1 : 10 ^ (j + 1) ∣ N := Nat.dvd_trans ⟨10 ^ d, by rw [Nat.pow_add]⟩ (Nat.dvd_of_mod_eq_zero h)
   obtain ⟨f, hf⟩ := h1
   rw [e, Nat.pow_succ, Nat.mul_comm c, Nat.mul_assoc] at hf
   have := Nat.eq_of_mul_eq_mul_left (ten_pos j) hf
   omega
  have hdm := Nat.div_add_mod N (10 ^ (j + 1 + d))
  have hml := Nat.mod_lt N (ten_pos (j + 1 + d))
  constructor
  ·unfold clow
   rw [decide_eq_false_iff_not, hqi, sh _ i (by omega), hd]
   have hW : N / 10 ^ (j + 1 + d) * 10 ^ (j + 1 + d) ≤ N - 1 := by
    rw [Nat.mul_comm]
    omega
   obtain ⟨f1, f2⟩ := fmag_fl (N := N - 1) (by omega) hK
   rw [← hbig] at f1
   refine rnd_below (s := fl (N - 1)) hr (fmag_lt.1 ?_) ?_
   ·rw [f1, hm]
    exact Nat.mul_lt_mul_of_pos_right (by omega) big_pos
   ·rw [f1]
    exact Nat.mul_le_mul_right _ hW
  ·unfold chigh
   rw [decide_eq_false_iff_not, hqi, sh _ i (by omega), hd]
   have hW : N + 1 ≤ (N / 10 ^ (j + 1 + d) + 1) * 10 ^ (j + 1 + d) := by
    rw [Nat.add_mul, Nat.one_mul, Nat.mul_comm]
    omega
   obtain ⟨s, hs⟩ : ∃ s, fmag s = (N + 1) * big := by
    rcases Nat.lt_or_ge (N + 1) 9007199254740992 with h | h
    ·exact rep_of (j := K) (by rw [hbig]) h
    ·have : N + 1 = 9007199254740992 := by omega
     rw [this]
     refine rep_of (M := 1) (j := 53 + K) ?_ (by omega)
     rw [hbig, Nat.pow_add, Nat.one_mul]
   refine rnd_above (s := s) hr (fmag_lt.1 ?_) ?_
   ·rw [hs, hm]
    exact Nat.mul_lt_mul_of_pos_right (by omega) big_pos
   ·rw [hs]
    exact Nat.mul_le_mul_right _ hW
 ·unfold cnd
  rw [hlow, hnear, hqk.1]
  simp

end Go.Proofs.YtfcpkdafkmohkaaGreatDoor
namespace Go.Proofs.YtfcpkdafkmohkaaGreatDoor
open Go.RowKit
set_option maxHeartbeats 1000000 in
theorem ldexp_down_n {M k D : Nat} (x u : Nat) (a1 : 4503599627370496 ≤ M) (a2 : M < 9007199254740992) (hx : x = k * 4503599627370496 + M) (h2 : x < 9218868437227405312) (hD : D ≤ k) (hu : u = (k - D) * 4503599627370496 + M) (w : World) :
  Cq 231 #[.float .f64 x, .int .i64 (-(D : Int))] (.float .f64 u) w := by
 have h1 : 4503599627370496 ≤ x := by omega
 obtain ⟨p1, p2, p3⟩ := pos_rung (x := x) (by omega)
 have C1 := Lib.hid (fun W => isNaN_any x W)
 have C2 := Lib.hid (fun W => isInf0_any x W (by omega))
 rw [show fnan x = false from by unfold fnan; rw [p1]; exact decide_eq_false (by omega)] at C1
 rw [show finf x = false from by unfold finf; rw [p1]; exact decide_eq_false (by omega)] at C2
 have C3 := Lib.hid (fun W => normalize_any x W h1 h2)
 have h3 := ord_zero x
 rw [p1, decide_eq_false (by omega)] at h3
 have h5 := f64bits_run x w
 have h6 := not_exp x (by omega)
 obtain ⟨t, ht2⟩ : ∃ t, M = 4503599627370496 + t := ⟨M - 4503599627370496, by omega⟩
 rw [show x % 4503599627370496 = t by omega] at h6
 have h7 := and_2047 (k + 1) (by omega)
 obtain ⟨Q, hQ⟩ : ∃ Q, k + 1 - D = Q := ⟨_, rfl⟩
 have h8 := or_exp t Q (by omega) (by omega)
 have e8 : t + Q * 4503599627370496 = u := by
  rw [hu, ht2, ← hQ, show k + 1 - D = (k - D) + 1 by omega]; omega
 rw [e8] at h8
 have h9 := f64from_run u w
 have h10 := one_mul (y := u) (by omega) (by omega)
 have h11 : (binOp BinOp.mul 22 (.float .f64 4607182418800017408) (.float .f64 u)).run Tryz.prog w = .ok (.float .f64 u) w := run_float_arith _ _ _ _ _ _ _ h10
 have k1 : (x : Int) / 4503599627370496 = ((k + 1 : Nat) : Int) := by omega
 have k2 : IntKind.i64.wrap ((k + 1 : Nat) : Int) = ((k + 1 : Nat) : Int) := IntWalk.i64_in _ (by omega)
 have k3 : IntKind.i64.wrap (((k + 1 : Nat) : Int) - 1023) = (k : Int) - 1022 := by rw [IntWalk.i64_in _ (by omega)]; omega
 obtain ⟨X0, hX0⟩ : ∃ X0, -(D : Int) = X0 := ⟨_, rfl⟩
 have k4 : IntKind.i64.wrap X0 = X0 := IntWalk.i64_in _ (by omega)
 have k4' : IntKind.i64.wrap (X0 + 0) = X0 := by rw [Int.add_zero]; exact k4
 have k5 : IntKind.i64.wrap (X0 + ((k : Int) - 1022)) = (Q : Int) - 1023 := by rw [IntWalk.i64_in _ (by omega)]; omega
 have k6 : IntKind.i64.wrap ((Q : Int) - 1023 + 1023) = (Q : Int) := by rw [IntWalk.i64_in _ (by omega)]; omega
 have k7 : IntKind.u64.wrap (Q : Int) = (Q : Int) := by rw [IntKind.wrap_u64]; omega
 have k8 : IntKind.u64.wrap ((Q : Int) * 4503599627370496) = ((Q * 4503599627370496 : Nat) : Int) := by rw [IntKind.wrap_u64]; omega
 have t1 : decide ((Q : Int) - 1023 < -1075) = false := decide_eq_false (by omega)
 have t2 : decide (1023 < (Q : Int) - 1023) = false := decide_eq_false (by omega)
 have t3 : decide ((Q : Int) - 1023 < -1022) = false := decide_eq_false (by omega)
 obtain ⟨q, hq⟩ : ∃ q, k + 1 = q := ⟨_, rfl⟩
 obtain ⟨X1, hX1⟩ : ∃ X1, (k : Int) - 1022 = X1 := ⟨_, rfl⟩
 obtain ⟨X3, hX3⟩ : ∃ X3, (Q : Int) - 1023 = X3 := ⟨_, rfl⟩
 rw [hq] at h7 k1 k2 k3
 rw [hX1] at k3 k5
 rw [hX3] at k5 k6 t1 t2 t3
 rw [hX0]
 rw [← k8] at h8
 clear h1 h2 hx a1 a2 hD hu p1 p2 p3 ht2 hQ e8 h10 k8 hq hX1 hX0 hX3
 go_enter Tryz.func231, Tryz.ntmps231
 go_wp2_with fail
 refine (C2.out _).mono ?_
 rintro e w' ⟨rfl, rfl⟩
 go_wp2_with fail
 refine (C1.out _).mono ?_
 rintro e w' ⟨rfl, rfl⟩
 go_wp2_with fail
 refine (C3.out _).mono ?_
 rintro e w' ⟨rfl, rfl⟩
 go_wp2
 go_ret
 exact ⟨rfl, rfl⟩
set_option maxHeartbeats 1000000 in
theorem ldexp_down_d {M k D : Nat} (x v r : Nat) (a1 : 4503599627370496 ≤ M) (a2 : M < 9007199254740992) (hx : x = k * 4503599627370496 + M) (h2 : x < 9218868437227405312) (hD : k < D) (hD2 : D ≤ k + 52) (hv : v = (k + 53 - D) * 4503599627370496 + M) (hr : Ieee.double.mul 4368491638549381120 v = some r) (w : World) :
  Cq 231 #[.float .f64 x, .int .i64 (-(D : Int))] (.float .f64 r) w := by
 have h1 : 4503599627370496 ≤ x := by omega
 obtain ⟨p1, p2, p3⟩ := pos_rung (x := x) (by omega)
 have C1 := Lib.hid (fun W => isNaN_any x W)
 have C2 := Lib.hid (fun W => isInf0_any x W (by omega))
 rw [show fnan x = false from by unfold fnan; rw [p1]; exact decide_eq_false (by omega)] at C1
 rw [show finf x = false from by unfold finf; rw [p1]; exact decide_eq_false (by omega)] at C2
 have C3 := Lib.hid (fun W => normalize_any x W h1 h2)
 have h3 := ord_zero x
 rw [p1, decide_eq_false (by omega)] at h3
 have h5 := f64bits_run x w
 have h6 := not_exp x (by omega)
 obtain ⟨t, ht2⟩ : ∃ t, M = 4503599627370496 + t := ⟨M - 4503599627370496, by omega⟩
 rw [show x % 4503599627370496 = t by omega] at h6
 have h7 := and_2047 (k + 1) (by omega)
 obtain ⟨Q, hQ⟩ : ∃ Q, k + 54 - D = Q := ⟨_, rfl⟩
 have h8 := or_exp t Q (by omega) (by omega)
 have e8 : t + Q * 4503599627370496 = v := by
  rw [hv, ht2, ← hQ, show k + 54 - D = (k + 53 - D) + 1 by omega]; omega
 rw [e8] at h8
 have h9 := f64from_run v w
 have h11 : (binOp BinOp.mul 22 (.float .f64 4368491638549381120) (.float .f64 v)).run Tryz.prog w = .ok (.float .f64 r) w := run_float_arith _ _ _ _ _ _ _ hr
 have k1 : (x : Int) / 4503599627370496 = ((k + 1 : Nat) : Int) := by omega
 have k2 : IntKind.i64.wrap ((k + 1 : Nat) : Int) = ((k + 1 : Nat) : Int) := IntWalk.i64_in _ (by omega)
 have k3 : IntKind.i64.wrap (((k + 1 : Nat) : Int) - 1023) = (k : Int) - 1022 := by rw [IntWalk.i64_in _ (by omega)]; omega
 obtain ⟨X0, hX0⟩ : ∃ X0, -(D : Int) = X0 := ⟨_, rfl⟩
 have k4 : IntKind.i64.wrap X0 = X0 := IntWalk.i64_in _ (by omega)
 have k4' : IntKind.i64.wrap (X0 + 0) = X0 := by rw [Int.add_zero]; exact k4
 have k5 : IntKind.i64.wrap (X0 + ((k : Int) - 1022)) = (Q : Int) - 1076 := by rw [IntWalk.i64_in _ (by omega)]; omega
 have k9 : IntKind.i64.wrap ((Q : Int) - 1076 + 53) = (Q : Int) - 1023 := by rw [IntWalk.i64_in _ (by omega)]; omega
 have k6 : IntKind.i64.wrap ((Q : Int) - 1023 + 1023) = (Q : Int) := by rw [IntWalk.i64_in _ (by omega)]; omega
 have k7 : IntKind.u64.wrap (Q : Int) = (Q : Int) := by rw [IntKind.wrap_u64]; omega
 have k8 : IntKind.u64.wrap ((Q : Int) * 4503599627370496) = ((Q * 4503599627370496 : Nat) : Int) := by rw [IntKind.wrap_u64]; omega
 have t1 : decide ((Q : Int) - 1076 < -1075) = false := decide_eq_false (by omega)
 have t2 : decide (1023 < (Q : Int) - 1076) = false := decide_eq_false (by omega)
 have t3 : decide ((Q : Int) - 1076 < -1022) = true := decide_eq_true (by omega)
 obtain ⟨q, hq⟩ : ∃ q, k + 1 = q := ⟨_, rfl⟩
 obtain ⟨X1, hX1⟩ : ∃ X1, (k : Int) - 1022 = X1 := ⟨_, rfl⟩
 obtain ⟨X3, hX3⟩ : ∃ X3, (Q : Int) - 1076 = X3 := ⟨_, rfl⟩
 obtain ⟨X4, hX4⟩ : ∃ X4, (Q : Int) - 1023 = X4 := ⟨_, rfl⟩
 rw [hq] at h7 k1 k2 k3
 rw [hX1] at k3 k5
 rw [hX3] at k5 k9 t1 t2 t3
 rw [hX4] at k9 k6
 rw [hX0]
 rw [← k8] at h8
 clear h1 h2 hx a1 a2 hD hD2 hv hr p1 p2 p3 ht2 hQ e8 k8 hq hX1 hX0 hX3 hX4
 go_enter Tryz.func231, Tryz.ntmps231
 go_wp2_with fail
 refine (C2.out _).mono ?_
 rintro e w' ⟨rfl, rfl⟩
 go_wp2_with fail
 refine (C1.out _).mono ?_
 rintro e w' ⟨rfl, rfl⟩
 go_wp2_with fail
 refine (C3.out _).mono ?_
 rintro e w' ⟨rfl, rfl⟩
 go_wp2
 go_ret
 exact ⟨rfl, rfl⟩
theorem ldexp_down {y D u : Nat} (h0 : 4503599627370496 ≤ y) (hy : y < 9218868437227405312) (hu0 : 0 < u) (h : fmag u * 2 ^ D = fmag y) (w : World) :
  Cq 231 #[.float .f64 y, .int .i64 (-(D : Int))] (.float .f64 u) w := by
 obtain ⟨M, k, a1, a2, a3, a4⟩ := fmag_split h0
 have hu1 := fmag_pos.2 hu0
 have huy : u ≤ y := by
  rcases Nat.lt_or_ge y u with h1 | h1
  ·have h2 := fmag_step h1
   have h3 : fmag u * 1 ≤ fmag u * 2 ^ D := Nat.mul_le_mul_left _ (Nat.two_pow_pos D)
   omega
  ·exact h1
 by_cases hDk : D ≤ k
 ·refine ldexp_down_n y u a1 a2 a3 hy hDk ?_ w
  refine fmag_inj ?_
  rw [fmag_make _ _ a1 a2]
  refine (pow_cancel (x := M) (a := k - D) (b := D) (y := fmag u) ?_).symm
  rw [show k - D + D = k by omega, ← a4, h]
 ·obtain ⟨j, rfl⟩ : ∃ j, D = k + j := ⟨D - k, by omega⟩
  have hM : fmag u * 2 ^ j = M := by
   refine pow_cancel (x := fmag u) (a := j) (b := k) (y := M) ?_
   rw [Nat.add_comm j k, h, a4]
  have hj : j < 53 := by
   have h3 : 1 * 2 ^ j ≤ fmag u * 2 ^ j := Nat.mul_le_mul_right _ hu1
   have h6 : 2 ^ j < 2 ^ 53 := by have : (2 : Nat) ^ 53 = 9007199254740992 := rfl; omega
   exact (Nat.pow_lt_pow_iff_right (a := 2) (by omega)).1 h6
  refine ldexp_down_d y ((k + 53 - (k + j)) * 4503599627370496 + M) u a1 a2 a3 hy (by omega) (by omega) rfl ?_ w
  obtain ⟨J, hJ⟩ : ∃ J : Nat, J = 969 := ⟨_, rfl⟩
  obtain ⟨L, hL⟩ : ∃ L : Nat, L = 1074 := ⟨_, rfl⟩
  have e1 := fmag_make 4503599627370496 J (by omega) (by omega)
  rw [show J * 4503599627370496 + 4503599627370496 = 4368491638549381120 by rw [hJ]] at e1
  refine mul_exact (K := L) (by omega) (by omega) (by omega) hL ?_
  rw [e1, fmag_make _ _ a1 a2, ← hM, show (4503599627370496 : Nat) = 2 ^ 52 from rfl, ← Nat.pow_add, Nat.mul_comm, Nat.mul_assoc, Nat.mul_assoc, ← Nat.pow_add, ← Nat.pow_add, show j + (k + 53 - (k + j) + (52 + J)) = L by omega]
theorem Ldexp_down {y D u : Nat} (h0 : 4503599627370496 ≤ y) (hy : y < 9218868437227405312) (hu0 : 0 < u) (h : fmag u * 2 ^ D = fmag y) (w : World) :
  Cq 206 #[.float .f64 y, .int .i64 (-(D : Int))] (.float .f64 u) w := by
 have C := Lib.hid (ldexp_down h0 hy hu0 h w)
 obtain ⟨X, hX⟩ : ∃ X, -(D : Int) = X := ⟨_, rfl⟩
 rw [hX] at C ⊢
 clear h0 hy hu0 h hX
 go_enter Tryz.func206, Tryz.ntmps206
 go_wp2_with fail
 refine C.out.mono ?_
 rintro e w' ⟨rfl, rfl⟩
 go_wp2
 go_ret
 exact ⟨rfl, rfl⟩
end Go.Proofs.YtfcpkdafkmohkaaGreatDoor
namespace Go.Proofs.YtfcpkdafkmohkaaGreatDoor
open Go.RowKit
end Go.Proofs.YtfcpkdafkmohkaaGreatDoor
namespace Go.Proofs.YtfcpkdafkmohkaaGreatDoor
open Go.RowKit
end Go.Proofs.YtfcpkdafkmohkaaGreatDoor
namespace Go.Proofs.YtfcpkdafkmohkaaGreatDoor
open Go.RowKit
end Go.Proofs.YtfcpkdafkmohkaaGreatDoor
namespace Go.Proofs.YtfcpkdafkmohkaaGreatDoor
open Go.RowKit
theorem fl_upto {N K : Nat} (h : N ≤ 9007199254740992) (hK : K = 1074) : fl N < 9218868437227405312 ∧ fmag (fl N) = N * 2 ^ K := by
 rcases Nat.eq_or_lt_of_le h with h1 | h1
 ·rw [h1, show fl 9007199254740992 = 4845873199050653696 by decide +kernel]
  refine ⟨by omega, ?_⟩
  obtain ⟨d, hd⟩ : ∃ d : Nat, d = 1075 := ⟨_, rfl⟩
  have := fmag_make 4503599627370496 d (by omega) (by omega)
  rw [show d * 4503599627370496 + 4503599627370496 = 4845873199050653696 by omega] at this
  rw [this, show d = K + 1 by omega, Nat.pow_succ, Nat.mul_comm (2 ^ K) 2, ← Nat.mul_assoc]
 ·obtain ⟨a, b⟩ := fmag_fl h1 hK
  exact ⟨b, a⟩
theorem rung_make {D E : Nat} (hE : E ≤ 9007199254740992) (hD : D = 0 ∨ 4503599627370496 ≤ E) : fmag (D * 4503599627370496 + E) = E * 2 ^ D := by
 rcases Nat.eq_or_lt_of_le hE with h | h
 ·rw [h, show D * 4503599627370496 + 9007199254740992 = (D + 1) * 4503599627370496 + 4503599627370496 by omega, fmag_make _ _ (by omega) (by omega), Nat.pow_succ, Nat.mul_comm (2 ^ D) 2, ← Nat.mul_assoc]
 ·rcases hD with h0 | h0
  ·rw [h0, Nat.zero_mul, Nat.zero_add, Nat.pow_zero, Nat.mul_one]; exact fmag_low h
  ·exact fmag_make _ _ h0 h
theorem Ld_make {E D : Nat} {e' : Int} (hE : E ≤ 9007199254740992) (hD : D = 0 ∨ 4503599627370496 ≤ E) (hD2 : D ≤ 2045) (he : e' = (D : Int) - 1074) (w : World) : Cq 206 #[.float .f64 (fl E), .int .i64 e'] (.float .f64 (min (D * 4503599627370496 + E) 9218868437227405312)) w := by
 obtain ⟨K, hK⟩ : ∃ K : Nat, K = 1074 := ⟨_, rfl⟩
 obtain ⟨y1, y2⟩ := fl_upto hE hK
 have hmk := rung_make hE hD
 rcases Nat.eq_zero_or_pos E with h0 | h0
 ·subst h0
  have : D = 0 := by omega
  subst this
  rw [fl_zero]
  exact ldexp_zero e' w
 ·have hy0 : 0 < fl E := fmag_pos.1 (by rw [y2]; exact Nat.mul_pos h0 (Nat.two_pow_pos K))
  have hyn : 4503599627370496 ≤ fl E := by
   rcases Nat.lt_or_ge (fl E) 4503599627370496 with h | h
   ·have h1 := fmag_low (r := fl E) (by omega)
    rw [y2] at h1
    have h2 : 1 * 2 ^ K ≤ E * 2 ^ K := Nat.mul_le_mul_right _ h0
    have h3 : 2 ^ 60 ≤ 2 ^ K := Nat.pow_le_pow_right (by omega) (by omega)
    have h4 : (2 : Nat) ^ 60 = 1152921504606846976 := by decide
    omega
   ·exact h
  rcases Nat.lt_or_ge (D * 4503599627370496 + E) 9218868437227405312 with h | h
  ·rw [Nat.min_eq_left (by omega)]
   rcases Nat.lt_or_ge D K with h1 | h1
   ·obtain ⟨j, hj⟩ : ∃ j, K = D + j := ⟨K - D, by omega⟩
    have := Ldexp_down (y := fl E) (D := j) (u := D * 4503599627370496 + E) hyn y1 (by omega) (by rw [hmk, y2, hj, Nat.pow_add, Nat.mul_assoc]) w
    rw [show e' = -(j : Int) by omega]
    exact this
   ·obtain ⟨j, hj⟩ : ∃ j, D = K + j := ⟨D - K, by omega⟩
    have := Ldexp_rep (y := fl E) (D := j) (u := D * 4503599627370496 + E) hy0 y1 h (by rw [hmk, y2, hj, Nat.pow_add, Nat.mul_assoc]) w
    rw [show e' = (j : Int) by omega]
    exact this
  ·rw [Nat.min_eq_right h]
   have hD3 : D = 2045 := by omega
   have hE3 : E = 9007199254740992 := by omega
   have := ldexp_any (fl E) 971 w hyn y1 (by omega)
   rw [show scl (fl E) 971 = 9218868437227405312 from by rw [hE3, show fl 9007199254740992 = 4845873199050653696 by decide +kernel]; decide] at this
   rw [show e' = ((971 : Nat) : Int) by omega]
   exact this
end Go.Proofs.YtfcpkdafkmohkaaGreatDoor
namespace Go.Proofs.YtfcpkdafkmohkaaGreatDoor
open Go.RowKit
structure NV (w : World) (A : Option Addr) (n c v : Nat) : Prop where
 len : (wds v).length = n
 cap : n ≤ c
 row : RW w w.heap.size A (wds v)
theorem NV.step {w w' : World} {A : Option Addr} {n c v : Nat} (h : NV w A n c v) (hb : Below w.heap.size w w') : NV w' A n c v := ⟨h.len, h.cap, h.row.step hb⟩
def bln (v : Nat) : Nat := btl (wds v)
theorem wds_nil {v : Nat} (h : 0 < v) : nrm (wds v) ≠ [] := by
 intro e
 have := nrm_eq_nil e
 rw [wds_val] at this
 omega
theorem bln_bounds {v : Nat} (h : 0 < v) : 2 ^ (bln v - 1) ≤ v ∧ v < 2 ^ bln v ∧ 0 < bln v := by
 have := btl_bounds (wds_ws v) (wds_nil h)
 rw [wds_val] at this
 exact this
theorem bln_zero : bln 0 = 0 := by decide
theorem bln_le {v L : Nat} (h : v < 2 ^ L) : bln v ≤ L := by
 rcases Nat.eq_zero_or_pos v with h0 | h0
 ·rw [h0, bln_zero]; omega
 ·have h1 := (bln_bounds h0).1
  have h2 := (Nat.pow_lt_pow_iff_right (a := 2) (by omega)).1 (Nat.lt_of_le_of_lt h1 h)
  omega
theorem len_bits {v L : Nat} (h : v < 2 ^ (32 * L)) : (wds v).length ≤ L := by
 refine wds_len_lt ?_
 rw [show (4294967296 : Nat) = 2 ^ 32 from rfl, ← Nat.pow_mul]
 exact h
theorem small_len {v : Nat} (h : bln v ≤ 30000) : (wds v).length ≤ 940 := by
 obtain ⟨L, hL⟩ : ∃ L : Nat, L = 940 := ⟨_, rfl⟩
 rw [← hL]
 rcases Nat.eq_zero_or_pos v with h0 | h0
 ·rw [h0]; show 0 ≤ L; omega
 ·exact len_bits (Nat.lt_of_lt_of_le (bln_bounds h0).2.1 (Nat.pow_le_pow_right (by omega) (by omega)))
theorem lng_bln {v : Nat} (h : bln v ≤ 30000) : lngB v = false := by
 unfold lngB
 have := small_len h
 exact decide_eq_false (by omega)
theorem bln_mul (a b : Nat) : bln (a * b) ≤ bln a + bln b := by
 rcases Nat.eq_zero_or_pos a with h0 | h0
 ·rw [h0, Nat.zero_mul, bln_zero]; omega
 rcases Nat.eq_zero_or_pos b with h1 | h1
 ·rw [h1, Nat.mul_zero, bln_zero]; omega
 ·refine bln_le ?_
  rw [Nat.pow_add]
  exact Nat.mul_lt_mul'' (bln_bounds h0).2.1 (bln_bounds h1).2.1
theorem bln_mono {a b : Nat} (h : a ≤ b) : bln a ≤ bln b := by
 rcases Nat.eq_zero_or_pos b with h0 | h0
 ·have : a = 0 := by omega
  rw [this, h0]; omega
 ·exact bln_le (Nat.lt_of_le_of_lt h (bln_bounds h0).2.1)
theorem bln_pow2 (k : Nat) : bln (2 ^ k) ≤ k + 1 := bln_le (by rw [Nat.pow_succ]; have := Nat.two_pow_pos k; omega)
theorem bln_pow (b k : Nat) : bln (b ^ k) ≤ bln b * k + 1 := by
 rcases Nat.eq_zero_or_pos b with h0 | h0
 ·cases k with
  | zero => rw [Nat.pow_zero, show bln 1 = 1 by decide]; omega
  | succ k => rw [h0, Nat.zero_pow (by omega), bln_zero]; omega
 ·refine bln_le ?_
  have h1 := (bln_bounds h0).2.1
  have h2 : b ^ k ≤ (2 ^ bln b) ^ k := Nat.pow_le_pow_left (Nat.le_of_lt h1) k
  rw [← Nat.pow_mul] at h2
  rw [Nat.pow_succ]
  have := Nat.two_pow_pos (bln b * k)
  omega
theorem bln_five (k : Nat) : bln (5 ^ k) ≤ 3 * k + 1 := by have := bln_pow 5 k; rw [show bln 5 = 3 by decide] at this; exact this
theorem bln_ten (k : Nat) : bln (10 ^ k) ≤ 4 * k + 1 := by have := bln_pow 10 k; rw [show bln 10 = 4 by decide] at this; exact this
/-! ### The program's functions -/
def NOk (v : Nat) (w : World) (e : Ending) (w' : World) : Prop := ∃ A n c, e = .returned (.tuple #[.slice A n c, .int .i64 0]) ∧ NV w' A n c v ∧ Below w.heap.size w w'
theorem NOk.of {v : Nat} {w w' : World} {e : Ending} (hl : lngB v = false) (h : NatPost v w e w') : NOk v w e w' := by
 obtain ⟨A, n, c, k, he, hp, hb⟩ := h
 rw [if_neg (by rw [hl]; simp)] at hp
 obtain ⟨h1, h2, h3, h4⟩ := hp
 subst h3
 exact ⟨A, n, c, he, ⟨h1.symm, h2, h4⟩, hb⟩
theorem nmul {w : World} {A C : Option Addr} {n c m d a b : Nat} (hA : NV w A n c a) (hB : NV w C m d b) (ha : bln a ≤ 15000) (hb : bln b ≤ 15000) :
  Cp 108 #[.slice A n c, .slice C m d] w (NOk (a * b) w) := by
 have la := lng_bln (v := a) (by omega)
 have lb := lng_bln (v := b) (by omega)
 have lab := lng_bln (v := a * b) (Nat.le_trans (bln_mul a b) (by omega))
 have h1 := small_len (v := a) (by omega)
 have h2 := small_len (v := b) (by omega)
 rw [hA.len] at h1
 rw [hB.len] at h2
 have := mul_any A C n c m d (wds a) (wds b) w hA.len hA.cap (by omega) hA.row hB.len hB.cap (by omega) hB.row
 rw [wds_val, wds_val] at this
 refine this.mono fun e w' x => ?_
 unfold MulPost at x
 rw [if_neg (by rw [la, lb]; simp)] at x
 exact NOk.of lab x
theorem npow (b n : Nat) (w : World) (hb : b < 4294967296) (hl : bln (b ^ n) ≤ 30000) (hn : n < 100000) : Cp 107 #[.int .u32 b, .int .i64 n] w (NOk (b ^ n) w) :=
 (pow_any b n w hb (by omega)).mono fun e w' x => NOk.of (lng_bln hl) x
theorem nshl {w : World} {A : Option Addr} {n c a : Nat} (hA : NV w A n c a) (p : Nat) (ha : bln a + p ≤ 29000) : Cp 157 #[.slice A n c, .int .i64 p] w (NOk (a * 2 ^ p) w) := by
 have la := lng_bln (v := a) (by omega)
 have h1 := small_len (v := a) (by omega)
 rw [hA.len] at h1
 have hp := bln_pow2 p
 have lab := lng_bln (v := a * 2 ^ p) (Nat.le_trans (bln_mul a _) (by omega))
 have := pshl_any A n c p (wds a) w hA.len hA.cap (by omega) hA.row
 rw [wds_val] at this
 refine this.mono fun e w' x => ?_
 unfold ShlQ at x
 rw [if_neg (by rw [la]; simp), if_neg (by omega), Int.toNat_natCast] at x
 exact NOk.of lab x
theorem nadd {w : World} {A C : Option Addr} {n c m d a b : Nat} (hA : NV w A n c a) (hB : NV w C m d b) (ha : bln (a + b) ≤ 30000) :
  Cp 124 #[.slice A n c, .slice C m d] w (NOk (a + b) w) := by
 have b1 := bln_mono (show a ≤ a + b by omega)
 have b2 := bln_mono (show b ≤ a + b by omega)
 have la := lng_bln (v := a) (by omega)
 have lb := lng_bln (v := b) (by omega)
 have h1 := small_len (v := a) (by omega)
 have h2 := small_len (v := b) (by omega)
 rw [hA.len] at h1
 rw [hB.len] at h2
 have := add_any A C n c m d (wds a) (wds b) w hA.len hA.cap (by omega) hA.row hB.len hB.cap (by omega) hB.row
 rw [wds_val, wds_val] at this
 refine this.mono fun e w' x => ?_
 unfold AddP at x
 rw [if_neg (by rw [la, lb]; simp)] at x
 exact NOk.of (lng_bln ha) x
theorem nsub {w : World} {A C : Option Addr} {n c m d a b : Nat} (hA : NV w A n c a) (hB : NV w C m d b) (ha : bln a ≤ 30000) (hle : b ≤ a) :
  Cp 158 #[.slice A n c, .slice C m d] w (NOk (a - b) w) := by
 have b2 := bln_mono hle
 have b3 := bln_mono (show a - b ≤ a by omega)
 have la := lng_bln (v := a) (by omega)
 have lb := lng_bln (v := b) (by omega)
 have h1 := small_len (v := a) (by omega)
 have h2 := small_len (v := b) (by omega)
 rw [hA.len] at h1
 rw [hB.len] at h2
 have := sub_any A C n c m d (wds a) (wds b) w hA.len hA.cap (by omega) hA.row hB.len hB.cap (by omega) hB.row
 rw [wds_val, wds_val] at this
 refine this.mono fun e w' x => ?_
 unfold SubP at x
 rw [if_neg (by rw [la, lb]; simp), if_neg (by omega)] at x
 exact NOk.of (lng_bln (by omega)) x
def DOk (a b : Nat) (w : World) (e : Ending) (w' : World) : Prop := ∃ A n c C m d, e = .returned (.tuple #[.slice A n c, .slice C m d, .int .i64 0]) ∧ NV w' A n c (a / b) ∧ NV w' C m d (a % b) ∧ Below w.heap.size w w'
theorem ndiv {w : World} {A C : Option Addr} {n c m d a b : Nat} (hA : NV w A n c a) (hB : NV w C m d b) (ha : bln a ≤ 30000) (hb : bln b ≤ 30000) (h0 : 0 < b) :
  Cp 174 #[.slice A n c, .slice C m d] w (DOk a b w) := by
 have la := lng_bln (v := a) (by omega)
 have lb := lng_bln (v := b) (by omega)
 have h1 := small_len (v := a) (by omega)
 have h2 := small_len (v := b) (by omega)
 rw [hA.len] at h1
 rw [hB.len] at h2
 have := div_any A C n c m d (wds a) (wds b) w hA.len hA.cap (by omega) hA.row hB.len hB.cap (by omega) hB.row
 rw [wds_val, wds_val] at this
 refine this.mono fun e w' x => ?_
 have hlb : (lngB a || lngB b) = false := by rw [la, lb]; rfl
 obtain ⟨A2, n2, c2, C2, m2, d2, he, ⟨x1, x2, x3, x4, x5, x6⟩, hbw⟩ := x
 have hB2 := divB_ok hlb h0
 unfold divQ at x1 x5
 unfold divR at x3 x6
 rw [if_pos hB2] at x1 x5 x3 x6
 have hk : divK a b = 0 := by unfold divK; rw [if_neg (by rw [hlb]; simp), if_neg (by omega)]
 rw [hk] at he
 exact ⟨A2, n2, c2, C2, m2, d2, he, ⟨x1.symm, x2, x5⟩, ⟨x3.symm, x4, x6⟩, hbw⟩
theorem nbits {w : World} {A : Option Addr} {n c a : Nat} (hA : NV w A n c a) (ha : bln a ≤ 30000) : Cq 156 #[.slice A n c] (.int .i64 (bln a : Nat)) w := by
 have h1 := small_len (v := a) (by omega)
 rw [hA.len] at h1
 exact bits_any A n c (wds a) w.heap.size w hA.len hA.cap (by omega) hA.row
def NRet (v : Nat) (w : World) (e : Ending) (w' : World) : Prop := ∃ A n c, e = .returned (.slice A n c) ∧ NV w' A n c v ∧ Below w.heap.size w w'
theorem NRet.of {v : Nat} {w w' : World} {e : Ending} (h : SlPost (wds v) w e w') : NRet v w e w' := by
 obtain ⟨V, he, ⟨A, c, hv, hc, hr⟩, hb⟩ := h
 subst hv
 exact ⟨A, _, c, he, ⟨rfl, hc, hr⟩, hb⟩
theorem nof (n : Nat) (hn : n < 18446744073709551616) (w : World) : Cp 110 #[.int .u64 n] w (NRet n w) :=
 (of_any n hn w).mono fun e w' x => NRet.of (by rw [two_wds n hn] at x; exact x)
/-! ### The reference's functions -/
end Go.Proofs.YtfcpkdafkmohkaaGreatDoor
namespace Go.Proofs.YtfcpkdafkmohkaaGreatDoor
open Go.RowKit
theorem below_setRow' {B g : Nat} {a w : World} (h : Below B a w) (hg : B ≤ g) (c : Array Value) : Below B a (w.setRow g c) :=
 ⟨h.os, h.tape, h.output, by rw [setRow_size]; exact h.size, fun k hk => (setRow_other w g k c (by omega)).trans (h.block k hk)⟩
theorem results_cell_two {fn : Func} {p t u : Tmp} {ty : TypeId} (h : fn.results = #[.cell p ty, .tmp t, .tmp u]) (tmps : Array Value) (P : Program) (w : World) (a : Addr) (v : Value) (ha : tmps.getD p undef = .pointer (some a)) (hl : (loadVar ty a).run P w = .ok v w) :
  (results fn tmps).run P w = .ok (.tuple #[v, tmps.getD t undef, tmps.getD u undef]) w := by
 simp only [results, h]
 simp [-Array.getD_eq_getD_getElem?, ha, asAddr, hl]
def Rc (w : World) (g : Nat) (a b c : Value) : Prop := w.heap[g]? = some (.cells #[a, b, c] 64 (0, 0))
theorem Rc.cells {w : World} {g : Nat} {a b c : Value} (h : Rc w g a b c) : w.cell? ⟨g, 0, none⟩ = some a ∧ w.cell? ⟨g, 1, none⟩ = some b ∧ w.cell? ⟨g, 2, none⟩ = some c ∧ (∀ k, w.frozen? ⟨g, k, none⟩ = false) := by
 unfold Rc at h
 refine ⟨by simp [World.cell?, h], by simp [World.cell?, h], by simp [World.cell?, h], fun k => by simp [World.frozen?, h]⟩
theorem Rc.below {w w' : World} {g B : Nat} {a b c : Value} (h : Rc w g a b c) (hb : Below B w w') (hg : g < B) : Rc w' g a b c := (hb.block g hg).trans h
theorem Rc.set0 {w : World} {g : Nat} {a b c : Value} (h : Rc w g a b c) (v : Value) : Rc (w.setCell ⟨g, 0, none⟩ v) g v b c := by
 have := heap_setCell_same w g 0 _ _ v h
 exact this
theorem Rc.set1 {w : World} {g : Nat} {a b c : Value} (h : Rc w g a b c) (v : Value) : Rc (w.setCell ⟨g, 1, none⟩ v) g a v c := by
 have := heap_setCell_same w g 1 _ _ v h
 exact this
theorem Rc.set2 {w : World} {g : Nat} {a b c : Value} (h : Rc w g a b c) (v : Value) : Rc (w.setCell ⟨g, 2, none⟩ v) g a b v := by
 have := heap_setCell_same w g 2 _ _ v h
 exact this
theorem Rc.other {w : World} {g k i : Nat} {a b c v : Value} (h : Rc w g a b c) (hk : g ≠ k) : Rc (w.setCell ⟨k, i, none⟩ v) g a b c := (heap_setCell_other w ⟨k, i, none⟩ g v hk).trans h
def zs : Value := .string ⟨#[]⟩
structure Rd (W w : World) (a b c : Value) : Prop where
 lo : Rc w W.heap.size zs zs (.int .i64 0)
 hi : Rc w (W.heap.size + 1) a b c
 bw : Below W.heap.size W w
 sz : W.heap.size + 2 ≤ w.heap.size
theorem Rd.start (W : World) : Rd W ((W.alloc (.cells #[zs, zs, .int .i64 0] 64)).alloc (.cells #[zs, zs, .int .i64 0] 64)) zs zs (.int .i64 0) := by
 obtain ⟨V, hV⟩ : ∃ V, W.alloc (.cells #[zs, zs, .int .i64 0] 64) = V := ⟨_, rfl⟩
 have hs : V.heap.size = W.heap.size + 1 := by rw [← hV]; simp
 have h1 : Rc V W.heap.size zs zs (.int .i64 0) := by rw [← hV]; exact heap_alloc_last W _
 have b1 : Below W.heap.size W V := by rw [← hV]; exact (Below.refl _ _).alloc (Nat.le_refl _) _
 have b2 : Below V.heap.size V (V.alloc (.cells #[zs, zs, .int .i64 0] 64)) := (Below.refl _ _).alloc (Nat.le_refl _) _
 rw [hV]
 refine ⟨h1.below b2 (by omega), ?_, below_le b1 b2, by simp; omega⟩
 rw [← hs]
 exact heap_alloc_last V _
theorem Rd.step {W w w' : World} {a b c : Value} (h : Rd W w a b c) (hb : Below w.heap.size w w') : Rd W w' a b c :=
 ⟨h.lo.below hb (by have := h.sz; omega), h.hi.below hb (by have := h.sz; omega), below_le h.bw hb, Nat.le_trans h.sz hb.size⟩
theorem Rd.put0 {W w : World} {a b c : Value} (h : Rd W w a b c) (v : Value) : Rd W (w.setCell ⟨W.heap.size + 1, 0, none⟩ v) v b c :=
 ⟨h.lo.other (by omega), h.hi.set0 v, h.bw.setCell (by show W.heap.size ≤ W.heap.size + 1; omega) _, by simp only [World.setCell, Array.size_modify]; exact h.sz⟩
theorem Rd.put1 {W w : World} {a b c : Value} (h : Rd W w a b c) (v : Value) : Rd W (w.setCell ⟨W.heap.size + 1, 1, none⟩ v) a v c :=
 ⟨h.lo.other (by omega), h.hi.set1 v, h.bw.setCell (by show W.heap.size ≤ W.heap.size + 1; omega) _, by simp only [World.setCell, Array.size_modify]; exact h.sz⟩
theorem Rd.put2 {W w : World} {a b c : Value} (h : Rd W w a b c) (v : Value) : Rd W (w.setCell ⟨W.heap.size + 1, 2, none⟩ v) a b v :=
 ⟨h.lo.other (by omega), h.hi.set2 v, h.bw.setCell (by show W.heap.size ≤ W.heap.size + 1; omega) _, by simp only [World.setCell, Array.size_modify]; exact h.sz⟩
set_option maxRecDepth 100000 in
set_option maxHeartbeats 1000000 in
theorem tcutDecimal_none (s : ByteArray) (w : World) (S1 : ByteArray)
   (C1 : Hid (∀ W, Ct 86 #[.string s, .int .i64 10] (.tuple #[.string ⟨#[]⟩, .string S1]) W))
   (C2 : Hid (∀ W, Cq 131 #[.string S1, .string ⟨#[46]⟩] (.tuple #[.string S1, .bool false]) W)) :
    Cp 68 #[.string s] w (fun e w' => e = .returned (.tuple #[.agg #[.string ⟨#[]⟩, .string ⟨#[]⟩, .int .i64 0], .string ⟨#[]⟩, .bool false]) ∧ Below w.heap.size w w') := by
  have R0 := Lib.hid (Rd.start w)
  go_enter Tryz.func68, Tryz.ntmps68
  go_wp2_with fail
  refine (C1.out _).mono ?_
  rintro e w1 ⟨rfl, hb1⟩
  have R1 := Lib.hid (R0.out.step hb1)
  obtain ⟨c0, c1, c2, fz⟩ := R1.out.hi.cells
  have f0 := fz 0
  clear fz hb1
  go_wp2_with fail
  refine (C2.out _).mono ?_
  rintro e w2 ⟨rfl, rfl⟩
  have R2 := Lib.hid (R1.out.put0 (.string ⟨#[]⟩))
  generalize w1.setCell ⟨w.heap.size + 1, 0, none⟩ (.string ⟨#[]⟩) = w2 at *
  clear c0 c1 c2 f0
  obtain ⟨c0, c1, c2, fz⟩ := R2.out.hi.cells
  have f0 := fz 0
  clear fz
  unfold zs at c1
  have HG := Lib.hid (show w2.heap[w.heap.size]? = some (.cells #[.string ⟨#[]⟩, .string ⟨#[]⟩, .int .i64 0] 64 (0, 0)) from R2.out.lo)
  have HB := Lib.hid R2.out.bw
  go_wp2_with (first | (refine wpList_store_row rfl 64 _ _ rfl w.heap.size #[.string ⟨#[]⟩, .string ⟨#[]⟩, .int .i64 0] rfl rfl 64 #[.string ⟨#[]⟩, .string ⟨#[]⟩, .int .i64 0] HG.out (by first | kernel_rfl | rfl) rfl (by first | kernel_rfl | rfl) ?_))
  exact bodyPost_ret (results_cell_two rfl _ _ _ _ _ rfl (run_loadVar_row _ w.heap.size 64 64 _ (0, 0) _ (setRow_heap _ _ _ _ _ _ HG.out) Tryz.underlying64 rfl (by first | kernel_rfl | rfl))) rfl ⟨rfl, below_setRow' HB.out (Nat.le_refl _) _⟩
set_option maxRecDepth 100000 in
set_option maxHeartbeats 2000000 in
theorem tcutDecimal_a_false (s : ByteArray) (w : World) (Wt S1 t0 Rt : ByteArray) (X : Int) (n2 : Wt.toList.isEmpty = false)
   (C1 : Hid (∀ W, Ct 86 #[.string s, .int .i64 10] (.tuple #[.string Wt, .string S1]) W))
   (C2 : Hid (∀ W, Cq 131 #[.string S1, .string ⟨#[46]⟩] (.tuple #[.string t0, .bool false]) W))
   (C3 : Hid (∀ W, Ct 132 #[.string S1] (.tuple #[.int .i64 X, .string Rt, .bool false]) W)) :
    Cp 68 #[.string s] w (fun e w' => e = .returned (.tuple #[.agg #[.string Wt, .string ⟨#[]⟩, .int .i64 0], .string S1, .bool true]) ∧ Below w.heap.size w w') := by
  have R0 := Lib.hid (Rd.start w)
  go_enter Tryz.func68, Tryz.ntmps68
  go_wp2_with fail
  refine (C1.out _).mono ?_
  rintro e w1 ⟨rfl, hb1⟩
  have R1 := Lib.hid (R0.out.step hb1)
  clear hb1
  obtain ⟨c0, c1, c2, fz⟩ := R1.out.hi.cells
  have f0 := fz 0
  have f1 := fz 1
  have f2 := fz 2
  clear fz
  try unfold zs at c0
  try unfold zs at c1
  go_wp2_with fail
  refine (C2.out _).mono ?_
  rintro e w2 ⟨rfl, rfl⟩
  have R2 := Lib.hid (R1.out.put0 (.string Wt))
  generalize w1.setCell ⟨w.heap.size + 1, 0, none⟩ (.string Wt) = w2 at *
  clear c0 c1 c2 f0 f1 f2
  obtain ⟨c0, c1, c2, fz⟩ := R2.out.hi.cells
  have f0 := fz 0
  have f1 := fz 1
  have f2 := fz 2
  clear fz
  try unfold zs at c0
  try unfold zs at c1
  go_wp2_with fail
  refine (C3.out _).mono ?_
  rintro e w3 ⟨rfl, hb3⟩
  have R3 := Lib.hid (R2.out.step hb3)
  clear hb3 c0 c1 c2 f0 f1 f2
  obtain ⟨c0, c1, c2, fz⟩ := R3.out.hi.cells
  have f0 := fz 0
  have f1 := fz 1
  have f2 := fz 2
  clear fz
  try unfold zs at c0
  try unfold zs at c1
  have HG := Lib.hid (show w3.heap[w.heap.size]? = some (.cells #[.string ⟨#[]⟩, .string ⟨#[]⟩, .int .i64 0] 64 (0, 0)) from R3.out.lo)
  have HB := Lib.hid R3.out.bw
  go_wp2_with (first | (refine wpList_store_row rfl 64 _ _ rfl w.heap.size #[.string Wt, .string ⟨#[]⟩, .int .i64 0] rfl rfl 64 #[.string ⟨#[]⟩, .string ⟨#[]⟩, .int .i64 0] HG.out (by first | kernel_rfl | rfl) rfl (by first | kernel_rfl | rfl) ?_))
  exact bodyPost_ret (results_cell_two rfl _ _ _ _ _ rfl (run_loadVar_row _ w.heap.size 64 64 _ (0, 0) _ (setRow_heap _ _ _ _ _ _ HG.out) Tryz.underlying64 rfl (by first | kernel_rfl | rfl))) rfl ⟨rfl, below_setRow' HB.out (Nat.le_refl _) _⟩
set_option maxRecDepth 100000 in
set_option maxHeartbeats 2000000 in
theorem tcutDecimal_a_true (s : ByteArray) (w : World) (Wt S1 t0 Rt : ByteArray) (X : Int) (n2 : Wt.toList.isEmpty = false)
   (C1 : Hid (∀ W, Ct 86 #[.string s, .int .i64 10] (.tuple #[.string Wt, .string S1]) W))
   (C2 : Hid (∀ W, Cq 131 #[.string S1, .string ⟨#[46]⟩] (.tuple #[.string t0, .bool false]) W))
   (C3 : Hid (∀ W, Ct 132 #[.string S1] (.tuple #[.int .i64 X, .string Rt, .bool true]) W)) :
    Cp 68 #[.string s] w (fun e w' => e = .returned (.tuple #[.agg #[.string Wt, .string ⟨#[]⟩, .int .i64 X], .string Rt, .bool true]) ∧ Below w.heap.size w w') := by
  have R0 := Lib.hid (Rd.start w)
  go_enter Tryz.func68, Tryz.ntmps68
  go_wp2_with fail
  refine (C1.out _).mono ?_
  rintro e w1 ⟨rfl, hb1⟩
  have R1 := Lib.hid (R0.out.step hb1)
  clear hb1
  obtain ⟨c0, c1, c2, fz⟩ := R1.out.hi.cells
  have f0 := fz 0
  have f1 := fz 1
  have f2 := fz 2
  clear fz
  try unfold zs at c0
  try unfold zs at c1
  go_wp2_with fail
  refine (C2.out _).mono ?_
  rintro e w2 ⟨rfl, rfl⟩
  have R2 := Lib.hid (R1.out.put0 (.string Wt))
  generalize w1.setCell ⟨w.heap.size + 1, 0, none⟩ (.string Wt) = w2 at *
  clear c0 c1 c2 f0 f1 f2
  obtain ⟨c0, c1, c2, fz⟩ := R2.out.hi.cells
  have f0 := fz 0
  have f1 := fz 1
  have f2 := fz 2
  clear fz
  try unfold zs at c0
  try unfold zs at c1
  go_wp2_with fail
  refine (C3.out _).mono ?_
  rintro e w3 ⟨rfl, hb3⟩
  have R3 := Lib.hid (R2.out.step hb3)
  clear hb3 c0 c1 c2 f0 f1 f2
  obtain ⟨c0, c1, c2, fz⟩ := R3.out.hi.cells
  have f0 := fz 0
  have f1 := fz 1
  have f2 := fz 2
  clear fz
  try unfold zs at c0
  try unfold zs at c1
  have HR := Lib.hid (R3.out.put2 (.int .i64 X))
  have HG := Lib.hid (show (w3.setCell ⟨w.heap.size + 1, 2, none⟩ (.int .i64 X)).heap[w.heap.size]? = some (.cells #[.string ⟨#[]⟩, .string ⟨#[]⟩, .int .i64 0] 64 (0, 0)) from HR.out.lo)
  have HB := Lib.hid HR.out.bw
  obtain ⟨d0, d1, d2, _⟩ := HR.out.hi.cells
  try unfold zs at d1
  go_wp2_with (first | (refine wpList_store_row rfl 64 _ _ rfl w.heap.size #[.string Wt, .string ⟨#[]⟩, .int .i64 X] rfl rfl 64 #[.string ⟨#[]⟩, .string ⟨#[]⟩, .int .i64 0] HG.out (by first | kernel_rfl | rfl) rfl (by first | kernel_rfl | rfl) ?_))
  exact bodyPost_ret (results_cell_two rfl _ _ _ _ _ rfl (run_loadVar_row _ w.heap.size 64 64 _ (0, 0) _ (setRow_heap _ _ _ _ _ _ HG.out) Tryz.underlying64 rfl (by first | kernel_rfl | rfl))) rfl ⟨rfl, below_setRow' HB.out (Nat.le_refl _) _⟩
set_option maxRecDepth 100000 in
set_option maxHeartbeats 2000000 in
theorem tcutDecimal_b0_false (s : ByteArray) (w : World) (Wt S1 S2 Bt Ft Rt : ByteArray) (X : Int) (n2 : Wt.toList.isEmpty = false)
   (C1 : Hid (∀ W, Ct 86 #[.string s, .int .i64 10] (.tuple #[.string Wt, .string S1]) W))
   (C2 : Hid (∀ W, Cq 131 #[.string S1, .string ⟨#[46]⟩] (.tuple #[.string Bt, .bool true]) W))
   (C4 : Hid (∀ W, Ct 86 #[.string Bt, .int .i64 10] (.tuple #[.string Ft, .string S2]) W))
   (C3 : Hid (∀ W, Ct 132 #[.string S2] (.tuple #[.int .i64 X, .string Rt, .bool false]) W)) :
    Cp 68 #[.string s] w (fun e w' => e = .returned (.tuple #[.agg #[.string Wt, .string Ft, .int .i64 0], .string S2, .bool true]) ∧ Below w.heap.size w w') := by
  have R0 := Lib.hid (Rd.start w)
  go_enter Tryz.func68, Tryz.ntmps68
  go_wp2_with fail
  refine (C1.out _).mono ?_
  rintro e w1 ⟨rfl, hb1⟩
  have R1 := Lib.hid (R0.out.step hb1)
  clear hb1
  obtain ⟨c0, c1, c2, fz⟩ := R1.out.hi.cells
  have f0 := fz 0
  have f1 := fz 1
  have f2 := fz 2
  clear fz
  try unfold zs at c0
  try unfold zs at c1
  go_wp2_with fail
  refine (C2.out _).mono ?_
  rintro e w2 ⟨rfl, rfl⟩
  have R2 := Lib.hid (R1.out.put0 (.string Wt))
  generalize w1.setCell ⟨w.heap.size + 1, 0, none⟩ (.string Wt) = w2 at *
  clear c0 c1 c2 f0 f1 f2
  obtain ⟨c0, c1, c2, fz⟩ := R2.out.hi.cells
  have f0 := fz 0
  have f1 := fz 1
  have f2 := fz 2
  clear fz
  try unfold zs at c0
  try unfold zs at c1
  go_wp2_with fail
  refine (C4.out _).mono ?_
  rintro e w3 ⟨rfl, hb3⟩
  have R3 := Lib.hid (R2.out.step hb3)
  clear hb3 c0 c1 c2 f0 f1 f2
  obtain ⟨c0, c1, c2, fz⟩ := R3.out.hi.cells
  have f0 := fz 0
  have f1 := fz 1
  have f2 := fz 2
  clear fz
  try unfold zs at c0
  try unfold zs at c1
  have R4 := Lib.hid (R3.out.put1 (.string Ft))
  obtain ⟨e0, e1, e2, ez⟩ := R4.out.hi.cells
  have g0 := ez 0
  have g1 := ez 1
  have g2 := ez 2
  clear ez
  go_wp2_with fail
  refine (C3.out _).mono ?_
  rintro e w5 ⟨rfl, hb5⟩
  have R5 := Lib.hid (R4.out.step hb5)
  clear hb5 c0 c1 c2 f0 f1 f2
  obtain ⟨c0, c1, c2, fz⟩ := R5.out.hi.cells
  have f0 := fz 0
  have f1 := fz 1
  have f2 := fz 2
  clear fz
  try unfold zs at c0
  try unfold zs at c1
  have HG := Lib.hid (show w5.heap[w.heap.size]? = some (.cells #[.string ⟨#[]⟩, .string ⟨#[]⟩, .int .i64 0] 64 (0, 0)) from R5.out.lo)
  have HB := Lib.hid R5.out.bw
  go_wp2_with (first | (refine wpList_store_row rfl 64 _ _ rfl w.heap.size #[.string Wt, .string Ft, .int .i64 0] rfl rfl 64 #[.string ⟨#[]⟩, .string ⟨#[]⟩, .int .i64 0] HG.out (by first | kernel_rfl | rfl) rfl (by first | kernel_rfl | rfl) ?_))
  exact bodyPost_ret (results_cell_two rfl _ _ _ _ _ rfl (run_loadVar_row _ w.heap.size 64 64 _ (0, 0) _ (setRow_heap _ _ _ _ _ _ HG.out) Tryz.underlying64 rfl (by first | kernel_rfl | rfl))) rfl ⟨rfl, below_setRow' HB.out (Nat.le_refl _) _⟩
set_option maxRecDepth 100000 in
set_option maxHeartbeats 2000000 in
theorem tcutDecimal_b0_true (s : ByteArray) (w : World) (Wt S1 S2 Bt Ft Rt : ByteArray) (X : Int) (n2 : Wt.toList.isEmpty = false)
   (C1 : Hid (∀ W, Ct 86 #[.string s, .int .i64 10] (.tuple #[.string Wt, .string S1]) W))
   (C2 : Hid (∀ W, Cq 131 #[.string S1, .string ⟨#[46]⟩] (.tuple #[.string Bt, .bool true]) W))
   (C4 : Hid (∀ W, Ct 86 #[.string Bt, .int .i64 10] (.tuple #[.string Ft, .string S2]) W))
   (C3 : Hid (∀ W, Ct 132 #[.string S2] (.tuple #[.int .i64 X, .string Rt, .bool true]) W)) :
    Cp 68 #[.string s] w (fun e w' => e = .returned (.tuple #[.agg #[.string Wt, .string Ft, .int .i64 X], .string Rt, .bool true]) ∧ Below w.heap.size w w') := by
  have R0 := Lib.hid (Rd.start w)
  go_enter Tryz.func68, Tryz.ntmps68
  go_wp2_with fail
  refine (C1.out _).mono ?_
  rintro e w1 ⟨rfl, hb1⟩
  have R1 := Lib.hid (R0.out.step hb1)
  clear hb1
  obtain ⟨c0, c1, c2, fz⟩ := R1.out.hi.cells
  have f0 := fz 0
  have f1 := fz 1
  have f2 := fz 2
  clear fz
  try unfold zs at c0
  try unfold zs at c1
  go_wp2_with fail
  refine (C2.out _).mono ?_
  rintro e w2 ⟨rfl, rfl⟩
  have R2 := Lib.hid (R1.out.put0 (.string Wt))
  generalize w1.setCell ⟨w.heap.size + 1, 0, none⟩ (.string Wt) = w2 at *
  clear c0 c1 c2 f0 f1 f2
  obtain ⟨c0, c1, c2, fz⟩ := R2.out.hi.cells
  have f0 := fz 0
  have f1 := fz 1
  have f2 := fz 2
  clear fz
  try unfold zs at c0
  try unfold zs at c1
  go_wp2_with fail
  refine (C4.out _).mono ?_
  rintro e w3 ⟨rfl, hb3⟩
  have R3 := Lib.hid (R2.out.step hb3)
  clear hb3 c0 c1 c2 f0 f1 f2
  obtain ⟨c0, c1, c2, fz⟩ := R3.out.hi.cells
  have f0 := fz 0
  have f1 := fz 1
  have f2 := fz 2
  clear fz
  try unfold zs at c0
  try unfold zs at c1
  have R4 := Lib.hid (R3.out.put1 (.string Ft))
  obtain ⟨e0, e1, e2, ez⟩ := R4.out.hi.cells
  have g0 := ez 0
  have g1 := ez 1
  have g2 := ez 2
  clear ez
  go_wp2_with fail
  refine (C3.out _).mono ?_
  rintro e w5 ⟨rfl, hb5⟩
  have R5 := Lib.hid (R4.out.step hb5)
  clear hb5 c0 c1 c2 f0 f1 f2
  obtain ⟨c0, c1, c2, fz⟩ := R5.out.hi.cells
  have f0 := fz 0
  have f1 := fz 1
  have f2 := fz 2
  clear fz
  try unfold zs at c0
  try unfold zs at c1
  have HR := Lib.hid (R5.out.put2 (.int .i64 X))
  have HG := Lib.hid (show (w5.setCell ⟨w.heap.size + 1, 2, none⟩ (.int .i64 X)).heap[w.heap.size]? = some (.cells #[.string ⟨#[]⟩, .string ⟨#[]⟩, .int .i64 0] 64 (0, 0)) from HR.out.lo)
  have HB := Lib.hid HR.out.bw
  obtain ⟨d0, d1, d2, _⟩ := HR.out.hi.cells
  try unfold zs at d1
  go_wp2_with (first | (refine wpList_store_row rfl 64 _ _ rfl w.heap.size #[.string Wt, .string Ft, .int .i64 X] rfl rfl 64 #[.string ⟨#[]⟩, .string ⟨#[]⟩, .int .i64 0] HG.out (by first | kernel_rfl | rfl) rfl (by first | kernel_rfl | rfl) ?_))
  exact bodyPost_ret (results_cell_two rfl _ _ _ _ _ rfl (run_loadVar_row _ w.heap.size 64 64 _ (0, 0) _ (setRow_heap _ _ _ _ _ _ HG.out) Tryz.underlying64 rfl (by first | kernel_rfl | rfl))) rfl ⟨rfl, below_setRow' HB.out (Nat.le_refl _) _⟩
set_option maxRecDepth 100000 in
set_option maxHeartbeats 2000000 in
theorem tcutDecimal_b1_false (s : ByteArray) (w : World) (S1 S2 Bt Ft Rt : ByteArray) (X : Int) (m2 : Ft.toList.isEmpty = false)
   (C1 : Hid (∀ W, Ct 86 #[.string s, .int .i64 10] (.tuple #[.string ⟨#[]⟩, .string S1]) W))
   (C2 : Hid (∀ W, Cq 131 #[.string S1, .string ⟨#[46]⟩] (.tuple #[.string Bt, .bool true]) W))
   (C4 : Hid (∀ W, Ct 86 #[.string Bt, .int .i64 10] (.tuple #[.string Ft, .string S2]) W))
   (C3 : Hid (∀ W, Ct 132 #[.string S2] (.tuple #[.int .i64 X, .string Rt, .bool false]) W)) :
    Cp 68 #[.string s] w (fun e w' => e = .returned (.tuple #[.agg #[.string ⟨#[]⟩, .string Ft, .int .i64 0], .string S2, .bool true]) ∧ Below w.heap.size w w') := by
  have R0 := Lib.hid (Rd.start w)
  go_enter Tryz.func68, Tryz.ntmps68
  go_wp2_with fail
  refine (C1.out _).mono ?_
  rintro e w1 ⟨rfl, hb1⟩
  have R1 := Lib.hid (R0.out.step hb1)
  clear hb1
  obtain ⟨c0, c1, c2, fz⟩ := R1.out.hi.cells
  have f0 := fz 0
  have f1 := fz 1
  have f2 := fz 2
  clear fz
  try unfold zs at c0
  try unfold zs at c1
  go_wp2_with fail
  refine (C2.out _).mono ?_
  rintro e w2 ⟨rfl, rfl⟩
  have R2 := Lib.hid (R1.out.put0 (.string ⟨#[]⟩))
  generalize w1.setCell ⟨w.heap.size + 1, 0, none⟩ (.string ⟨#[]⟩) = w2 at *
  clear c0 c1 c2 f0 f1 f2
  obtain ⟨c0, c1, c2, fz⟩ := R2.out.hi.cells
  have f0 := fz 0
  have f1 := fz 1
  have f2 := fz 2
  clear fz
  try unfold zs at c0
  try unfold zs at c1
  go_wp2_with fail
  refine (C4.out _).mono ?_
  rintro e w3 ⟨rfl, hb3⟩
  have R3 := Lib.hid (R2.out.step hb3)
  clear hb3 c0 c1 c2 f0 f1 f2
  obtain ⟨c0, c1, c2, fz⟩ := R3.out.hi.cells
  have f0 := fz 0
  have f1 := fz 1
  have f2 := fz 2
  clear fz
  try unfold zs at c0
  try unfold zs at c1
  have R4 := Lib.hid (R3.out.put1 (.string Ft))
  obtain ⟨e0, e1, e2, ez⟩ := R4.out.hi.cells
  have g0 := ez 0
  have g1 := ez 1
  have g2 := ez 2
  clear ez
  go_wp2_with fail
  refine (C3.out _).mono ?_
  rintro e w5 ⟨rfl, hb5⟩
  have R5 := Lib.hid (R4.out.step hb5)
  clear hb5 c0 c1 c2 f0 f1 f2
  obtain ⟨c0, c1, c2, fz⟩ := R5.out.hi.cells
  have f0 := fz 0
  have f1 := fz 1
  have f2 := fz 2
  clear fz
  try unfold zs at c0
  try unfold zs at c1
  have HG := Lib.hid (show w5.heap[w.heap.size]? = some (.cells #[.string ⟨#[]⟩, .string ⟨#[]⟩, .int .i64 0] 64 (0, 0)) from R5.out.lo)
  have HB := Lib.hid R5.out.bw
  go_wp2_with (first | (refine wpList_store_row rfl 64 _ _ rfl w.heap.size #[.string ⟨#[]⟩, .string Ft, .int .i64 0] rfl rfl 64 #[.string ⟨#[]⟩, .string ⟨#[]⟩, .int .i64 0] HG.out (by first | kernel_rfl | rfl) rfl (by first | kernel_rfl | rfl) ?_))
  exact bodyPost_ret (results_cell_two rfl _ _ _ _ _ rfl (run_loadVar_row _ w.heap.size 64 64 _ (0, 0) _ (setRow_heap _ _ _ _ _ _ HG.out) Tryz.underlying64 rfl (by first | kernel_rfl | rfl))) rfl ⟨rfl, below_setRow' HB.out (Nat.le_refl _) _⟩
set_option maxRecDepth 100000 in
set_option maxHeartbeats 2000000 in
theorem tcutDecimal_b1_true (s : ByteArray) (w : World) (S1 S2 Bt Ft Rt : ByteArray) (X : Int) (m2 : Ft.toList.isEmpty = false)
   (C1 : Hid (∀ W, Ct 86 #[.string s, .int .i64 10] (.tuple #[.string ⟨#[]⟩, .string S1]) W))
   (C2 : Hid (∀ W, Cq 131 #[.string S1, .string ⟨#[46]⟩] (.tuple #[.string Bt, .bool true]) W))
   (C4 : Hid (∀ W, Ct 86 #[.string Bt, .int .i64 10] (.tuple #[.string Ft, .string S2]) W))
   (C3 : Hid (∀ W, Ct 132 #[.string S2] (.tuple #[.int .i64 X, .string Rt, .bool true]) W)) :
    Cp 68 #[.string s] w (fun e w' => e = .returned (.tuple #[.agg #[.string ⟨#[]⟩, .string Ft, .int .i64 X], .string Rt, .bool true]) ∧ Below w.heap.size w w') := by
  have R0 := Lib.hid (Rd.start w)
  go_enter Tryz.func68, Tryz.ntmps68
  go_wp2_with fail
  refine (C1.out _).mono ?_
  rintro e w1 ⟨rfl, hb1⟩
  have R1 := Lib.hid (R0.out.step hb1)
  clear hb1
  obtain ⟨c0, c1, c2, fz⟩ := R1.out.hi.cells
  have f0 := fz 0
  have f1 := fz 1
  have f2 := fz 2
  clear fz
  try unfold zs at c0
  try unfold zs at c1
  go_wp2_with fail
  refine (C2.out _).mono ?_
  rintro e w2 ⟨rfl, rfl⟩
  have R2 := Lib.hid (R1.out.put0 (.string ⟨#[]⟩))
  generalize w1.setCell ⟨w.heap.size + 1, 0, none⟩ (.string ⟨#[]⟩) = w2 at *
  clear c0 c1 c2 f0 f1 f2
  obtain ⟨c0, c1, c2, fz⟩ := R2.out.hi.cells
  have f0 := fz 0
  have f1 := fz 1
  have f2 := fz 2
  clear fz
  try unfold zs at c0
  try unfold zs at c1
  go_wp2_with fail
  refine (C4.out _).mono ?_
  rintro e w3 ⟨rfl, hb3⟩
  have R3 := Lib.hid (R2.out.step hb3)
  clear hb3 c0 c1 c2 f0 f1 f2
  obtain ⟨c0, c1, c2, fz⟩ := R3.out.hi.cells
  have f0 := fz 0
  have f1 := fz 1
  have f2 := fz 2
  clear fz
  try unfold zs at c0
  try unfold zs at c1
  have R4 := Lib.hid (R3.out.put1 (.string Ft))
  obtain ⟨e0, e1, e2, ez⟩ := R4.out.hi.cells
  have g0 := ez 0
  have g1 := ez 1
  have g2 := ez 2
  clear ez
  go_wp2_with fail
  refine (C3.out _).mono ?_
  rintro e w5 ⟨rfl, hb5⟩
  have R5 := Lib.hid (R4.out.step hb5)
  clear hb5 c0 c1 c2 f0 f1 f2
  obtain ⟨c0, c1, c2, fz⟩ := R5.out.hi.cells
  have f0 := fz 0
  have f1 := fz 1
  have f2 := fz 2
  clear fz
  try unfold zs at c0
  try unfold zs at c1
  have HR := Lib.hid (R5.out.put2 (.int .i64 X))
  have HG := Lib.hid (show (w5.setCell ⟨w.heap.size + 1, 2, none⟩ (.int .i64 X)).heap[w.heap.size]? = some (.cells #[.string ⟨#[]⟩, .string ⟨#[]⟩, .int .i64 0] 64 (0, 0)) from HR.out.lo)
  have HB := Lib.hid HR.out.bw
  obtain ⟨d0, d1, d2, _⟩ := HR.out.hi.cells
  try unfold zs at d1
  go_wp2_with (first | (refine wpList_store_row rfl 64 _ _ rfl w.heap.size #[.string ⟨#[]⟩, .string Ft, .int .i64 X] rfl rfl 64 #[.string ⟨#[]⟩, .string ⟨#[]⟩, .int .i64 0] HG.out (by first | kernel_rfl | rfl) rfl (by first | kernel_rfl | rfl) ?_))
  exact bodyPost_ret (results_cell_two rfl _ _ _ _ _ rfl (run_loadVar_row _ w.heap.size 64 64 _ (0, 0) _ (setRow_heap _ _ _ _ _ _ HG.out) Tryz.underlying64 rfl (by first | kernel_rfl | rfl))) rfl ⟨rfl, below_setRow' HB.out (Nat.le_refl _) _⟩
set_option maxRecDepth 100000 in
set_option maxHeartbeats 2000000 in
theorem tcutDecimal_dot (s : ByteArray) (w : World) (S1 S2 Bt : ByteArray)
   (C1 : Hid (∀ W, Ct 86 #[.string s, .int .i64 10] (.tuple #[.string ⟨#[]⟩, .string S1]) W))
   (C2 : Hid (∀ W, Cq 131 #[.string S1, .string ⟨#[46]⟩] (.tuple #[.string Bt, .bool true]) W))
   (C4 : Hid (∀ W, Ct 86 #[.string Bt, .int .i64 10] (.tuple #[.string ⟨#[]⟩, .string S2]) W)) :
    Cp 68 #[.string s] w (fun e w' => e = .returned (.tuple #[.agg #[.string ⟨#[]⟩, .string ⟨#[]⟩, .int .i64 0], .string ⟨#[]⟩, .bool false]) ∧ Below w.heap.size w w') := by
  have R0 := Lib.hid (Rd.start w)
  go_enter Tryz.func68, Tryz.ntmps68
  go_wp2_with fail
  refine (C1.out _).mono ?_
  rintro e w1 ⟨rfl, hb1⟩
  have R1 := Lib.hid (R0.out.step hb1)
  clear hb1
  obtain ⟨c0, c1, c2, fz⟩ := R1.out.hi.cells
  have f0 := fz 0
  have f1 := fz 1
  have f2 := fz 2
  clear fz
  try unfold zs at c0
  try unfold zs at c1
  go_wp2_with fail
  refine (C2.out _).mono ?_
  rintro e w2 ⟨rfl, rfl⟩
  have R2 := Lib.hid (R1.out.put0 (.string ⟨#[]⟩))
  generalize w1.setCell ⟨w.heap.size + 1, 0, none⟩ (.string ⟨#[]⟩) = w2 at *
  clear c0 c1 c2 f0 f1 f2
  obtain ⟨c0, c1, c2, fz⟩ := R2.out.hi.cells
  have f0 := fz 0
  have f1 := fz 1
  have f2 := fz 2
  clear fz
  try unfold zs at c0
  try unfold zs at c1
  go_wp2_with fail
  refine (C4.out _).mono ?_
  rintro e w3 ⟨rfl, hb3⟩
  have R3 := Lib.hid (R2.out.step hb3)
  clear hb3 c0 c1 c2 f0 f1 f2
  obtain ⟨c0, c1, c2, fz⟩ := R3.out.hi.cells
  have f0 := fz 0
  have f1 := fz 1
  have f2 := fz 2
  clear fz
  try unfold zs at c0
  try unfold zs at c1
  have HG := Lib.hid (show w3.heap[w.heap.size]? = some (.cells #[.string ⟨#[]⟩, .string ⟨#[]⟩, .int .i64 0] 64 (0, 0)) from R3.out.lo)
  have HB := Lib.hid R3.out.bw
  go_wp2_with (first | (refine wpList_store_row rfl 64 _ _ rfl w.heap.size #[.string ⟨#[]⟩, .string ⟨#[]⟩, .int .i64 0] rfl rfl 64 #[.string ⟨#[]⟩, .string ⟨#[]⟩, .int .i64 0] HG.out (by first | kernel_rfl | rfl) rfl (by first | kernel_rfl | rfl) ?_))
  exact bodyPost_ret (results_cell_two rfl _ _ _ _ _ rfl (run_loadVar_row _ w.heap.size 64 64 _ (0, 0) _ (setRow_heap _ _ _ _ _ _ HG.out) Tryz.underlying64 rfl (by first | kernel_rfl | rfl))) rfl ⟨rfl, below_setRow' HB.out (Nat.le_refl _) _⟩

end Go.Proofs.YtfcpkdafkmohkaaGreatDoor
namespace Go.Proofs.YtfcpkdafkmohkaaGreatDoor
open Go.RowKit
theorem trimL48 (s : ByteArray) (w : World) : Ct 133 #[.string s, .string ⟨#[48]⟩] (.string (strOf (ldz (bl s)))) w := by
 have h := Tryz.strings_TrimLeft_laid s ⟨#[48]⟩ w (by decide) (fun j b hb => by
  have h1 : b ∈ ([48] : List UInt8) := List.mem_of_getElem? hb
  simp at h1
  rw [h1]
  decide)
 rw [show (⟨#[48]⟩ : ByteArray).data.toList = [48] from rfl, tl_48] at h
 exact h
theorem trimR48 (s : ByteArray) (w : World) (hs : s.size ≤ 9223372036854775807) : Ct 113 #[.string s, .string ⟨#[48]⟩] (.string (strOf (trz (bl s)))) w := by
 have h := Tryz.strings_TrimRight_laid s ⟨#[48]⟩ w hs (by decide) (fun j b hb => by
  have h1 : b ∈ ([48] : List UInt8) := List.mem_of_getElem? hb
  simp at h1
  rw [h1]
  decide)
 rw [show (⟨#[48]⟩ : ByteArray).data.toList = [48] from rfl, tr_48] at h
 exact h
theorem btn_bl (s : ByteArray) (i : Nat) (h : i < s.size) : btn s i = (bl s).getD i 0 := by
 rw [List.getD_eq_getElem?_getD, bl_get s i h]
 exact (btn_eq s i h).symm
theorem sv_num (r : Nat) (s : ByteArray) : sv r s = num r (bl s) := by
 unfold sv num
 rw [bl_size]
 exact pv_congr (fun i hi => by rw [btn_bl s i hi])
theorem adB_all {r : Nat} {s : ByteArray} (h0 : bl s ≠ []) (h : ∀ c ∈ bl s, dgt c < r) : adB r s = true := by
 rw [adB_yes (fun i hi => by
  rw [btn_bl s i hi, List.getD_eq_getElem?_getD, List.getElem?_eq_getElem (by rw [bl_size]; exact hi)]
  exact h _ (List.getElem_mem _))]
 have : 0 < (bl s).length := List.length_pos_iff.2 h0
 rw [bl_size] at this
 exact decide_eq_true this
set_option maxRecDepth 100000 in
set_option maxHeartbeats 1000000 in
theorem tfloat_none (s1 s2 g h : ByteArray) (X y P : Int) (w : World) (hs1 : s1.size + s2.size ≤ 4611686018427387903)
  (C1 : Hid (∀ W, Ct 133 #[.string (s1 ++ s2), .string ⟨#[48]⟩] (.string g) W))
  (C2 : Hid (∀ W, Ct 113 #[.string g, .string ⟨#[48]⟩] (.string h) W))
  (k1 : IntKind.i64.wrap ((g.size : Int) - (s2.size : Int)) = y) (k2 : IntKind.i64.wrap (y + X) = P)
  (t1 : h.toList.isEmpty = true) :
  Ct 69 #[.agg #[.string s1, .string s2, .int .i64 X]] (.float .f64 0) w := by
 have hs2 : ¬ 9223372036854775807 < s1.size + s2.size := by omega
 have R0 := Lib.hid (show Rc (w.alloc (.cells #[.string s1, .string s2, .int .i64 X] 64)) w.heap.size (.string s1) (.string s2) (.int .i64 X) from heap_alloc_last w _)
 have B0 := Lib.hid (show Below w.heap.size w (w.alloc (.cells #[.string s1, .string s2, .int .i64 X] 64)) from (Below.refl _ _).alloc (Nat.le_refl _) _)
 have S0 := Lib.hid (show w.heap.size < (w.alloc (.cells #[.string s1, .string s2, .int .i64 X] 64)).heap.size by simp)
 clear hs1
 go_enter Tryz.func69, Tryz.ntmps69
 go_wp2_with fail
 refine (C1.out _).mono ?_
 rintro e w1 ⟨rfl, b1⟩
 have R1 := Lib.hid (R0.out.below b1 S0.out)
 have B1 := Lib.hid (below_le B0.out b1)
 clear b1
 obtain ⟨c0, c1, c2, _⟩ := R1.out.cells
 go_wp2_with fail
 refine (C2.out _).mono ?_
 rintro e w2 ⟨rfl, b2⟩
 have B2 := Lib.hid (below_le B1.out b2)
 clear b2
 go_wp2
 go_ret
 exact ⟨rfl, B2.out⟩
set_option maxRecDepth 100000 in
set_option maxHeartbeats 1000000 in
theorem tfloat_low (s1 s2 g h : ByteArray) (X y P : Int) (w : World) (hs1 : s1.size + s2.size ≤ 4611686018427387903)
  (C1 : Hid (∀ W, Ct 133 #[.string (s1 ++ s2), .string ⟨#[48]⟩] (.string g) W))
  (C2 : Hid (∀ W, Ct 113 #[.string g, .string ⟨#[48]⟩] (.string h) W))
  (k1 : IntKind.i64.wrap ((g.size : Int) - (s2.size : Int)) = y) (k2 : IntKind.i64.wrap (y + X) = P)
  (t1 : h.toList.isEmpty = false) (t2 : decide (P < -323) = true) :
  Ct 69 #[.agg #[.string s1, .string s2, .int .i64 X]] (.float .f64 0) w := by
 have hs2 : ¬ 9223372036854775807 < s1.size + s2.size := by omega
 have R0 := Lib.hid (show Rc (w.alloc (.cells #[.string s1, .string s2, .int .i64 X] 64)) w.heap.size (.string s1) (.string s2) (.int .i64 X) from heap_alloc_last w _)
 have B0 := Lib.hid (show Below w.heap.size w (w.alloc (.cells #[.string s1, .string s2, .int .i64 X] 64)) from (Below.refl _ _).alloc (Nat.le_refl _) _)
 have S0 := Lib.hid (show w.heap.size < (w.alloc (.cells #[.string s1, .string s2, .int .i64 X] 64)).heap.size by simp)
 clear hs1
 go_enter Tryz.func69, Tryz.ntmps69
 go_wp2_with fail
 refine (C1.out _).mono ?_
 rintro e w1 ⟨rfl, b1⟩
 have R1 := Lib.hid (R0.out.below b1 S0.out)
 have B1 := Lib.hid (below_le B0.out b1)
 clear b1
 obtain ⟨c0, c1, c2, _⟩ := R1.out.cells
 go_wp2_with fail
 refine (C2.out _).mono ?_
 rintro e w2 ⟨rfl, b2⟩
 have B2 := Lib.hid (below_le B1.out b2)
 clear b2
 go_wp2
 go_ret
 exact ⟨rfl, B2.out⟩
set_option maxRecDepth 100000 in
set_option maxHeartbeats 1000000 in
theorem tfloat_high (s1 s2 g h : ByteArray) (X y P : Int) (w : World) (hs1 : s1.size + s2.size ≤ 4611686018427387903)
  (C1 : Hid (∀ W, Ct 133 #[.string (s1 ++ s2), .string ⟨#[48]⟩] (.string g) W))
  (C2 : Hid (∀ W, Ct 113 #[.string g, .string ⟨#[48]⟩] (.string h) W))
  (k1 : IntKind.i64.wrap ((g.size : Int) - (s2.size : Int)) = y) (k2 : IntKind.i64.wrap (y + X) = P)
  (t1 : h.toList.isEmpty = false) (t2 : decide (P < -323) = false) (t3 : decide (309 < P) = true) :
  Ct 69 #[.agg #[.string s1, .string s2, .int .i64 X]] (.float .f64 9218868437227405312) w := by
 have hs2 : ¬ 9223372036854775807 < s1.size + s2.size := by omega
 have R0 := Lib.hid (show Rc (w.alloc (.cells #[.string s1, .string s2, .int .i64 X] 64)) w.heap.size (.string s1) (.string s2) (.int .i64 X) from heap_alloc_last w _)
 have B0 := Lib.hid (show Below w.heap.size w (w.alloc (.cells #[.string s1, .string s2, .int .i64 X] 64)) from (Below.refl _ _).alloc (Nat.le_refl _) _)
 have S0 := Lib.hid (show w.heap.size < (w.alloc (.cells #[.string s1, .string s2, .int .i64 X] 64)).heap.size by simp)
 clear hs1
 go_enter Tryz.func69, Tryz.ntmps69
 go_wp2_with fail
 refine (C1.out _).mono ?_
 rintro e w1 ⟨rfl, b1⟩
 have R1 := Lib.hid (R0.out.below b1 S0.out)
 have B1 := Lib.hid (below_le B0.out b1)
 clear b1
 obtain ⟨c0, c1, c2, _⟩ := R1.out.cells
 go_wp2_with fail
 refine (C2.out _).mono ?_
 rintro e w2 ⟨rfl, b2⟩
 have B2 := Lib.hid (below_le B1.out b2)
 clear b2
 have C3 := Lib.hid (fun W => inf1_any W)
 go_wp2_with fail
 refine (C3.out _).mono ?_
 rintro e w' ⟨rfl, rfl⟩
 go_wp2
 go_ret
 exact ⟨rfl, B2.out⟩
set_option maxRecDepth 100000 in
set_option maxHeartbeats 1000000 in
theorem tfloat_short (s1 s2 g h : ByteArray) (X y P : Int) (Z : Int) (m F : Nat) (w : World) (hs1 : s1.size + s2.size ≤ 4611686018427387903)
  (C1 : Hid (∀ W, Ct 133 #[.string (s1 ++ s2), .string ⟨#[48]⟩] (.string g) W))
  (C2 : Hid (∀ W, Ct 113 #[.string g, .string ⟨#[48]⟩] (.string h) W))
  (k1 : IntKind.i64.wrap ((g.size : Int) - (s2.size : Int)) = y) (k2 : IntKind.i64.wrap (y + X) = P)
  (t1 : h.toList.isEmpty = false) (t2 : decide (P < -323) = false) (t3 : decide (309 < P) = false) (t4 : decide (800 < (h.size : Int)) = false)
  (k3 : IntKind.i64.wrap (P - (h.size : Int)) = Z)
  (C3 : Hid (∀ W, Cp 134 #[.string h, .int .i64 10] W (NOk m W)))
  (C4 : Hid (∀ W A n c, NV W A n c m → Ct 135 #[.slice A n c, .int .i64 Z] (.float .f64 F) W)) :
  Ct 69 #[.agg #[.string s1, .string s2, .int .i64 X]] (.float .f64 F) w := by
 have hs2 : ¬ 9223372036854775807 < s1.size + s2.size := by omega
 have R0 := Lib.hid (show Rc (w.alloc (.cells #[.string s1, .string s2, .int .i64 X] 64)) w.heap.size (.string s1) (.string s2) (.int .i64 X) from heap_alloc_last w _)
 have B0 := Lib.hid (show Below w.heap.size w (w.alloc (.cells #[.string s1, .string s2, .int .i64 X] 64)) from (Below.refl _ _).alloc (Nat.le_refl _) _)
 have S0 := Lib.hid (show w.heap.size < (w.alloc (.cells #[.string s1, .string s2, .int .i64 X] 64)).heap.size by simp)
 clear hs1
 go_enter Tryz.func69, Tryz.ntmps69
 go_wp2_with fail
 refine (C1.out _).mono ?_
 rintro e w1 ⟨rfl, b1⟩
 have R1 := Lib.hid (R0.out.below b1 S0.out)
 have B1 := Lib.hid (below_le B0.out b1)
 clear b1
 obtain ⟨c0, c1, c2, _⟩ := R1.out.cells
 go_wp2_with fail
 refine (C2.out _).mono ?_
 rintro e w2 ⟨rfl, b2⟩
 have B2 := Lib.hid (below_le B1.out b2)
 clear b2
 go_wp2_with fail
 refine (C3.out _).mono ?_
 rintro e w3 ⟨A, n, c, rfl, g3, b3⟩
 have G3 := Lib.hid g3
 have B3 := Lib.hid (below_le B2.out b3)
 clear g3 b3
 go_wp2_with fail
 refine (C4.out _ _ _ _ G3.out).mono ?_
 rintro e w4 ⟨rfl, b4⟩
 have B4 := Lib.hid (below_le B3.out b4)
 clear b4
 go_wp2
 go_ret
 exact ⟨rfl, B4.out⟩
set_option maxRecDepth 100000 in
set_option maxHeartbeats 1000000 in
theorem tfloat_long (s1 s2 g h : ByteArray) (X y P : Int) (Z : Int) (m F : Nat) (w : World) (hs1 : s1.size + s2.size ≤ 4611686018427387903)
  (C1 : Hid (∀ W, Ct 133 #[.string (s1 ++ s2), .string ⟨#[48]⟩] (.string g) W))
  (C2 : Hid (∀ W, Ct 113 #[.string g, .string ⟨#[48]⟩] (.string h) W))
  (k1 : IntKind.i64.wrap ((g.size : Int) - (s2.size : Int)) = y) (k2 : IntKind.i64.wrap (y + X) = P)
  (t1 : h.toList.isEmpty = false) (t2 : decide (P < -323) = false) (t3 : decide (309 < P) = false) (t4 : decide (800 < (h.size : Int)) = true) (t5 : (800 : Int) ≤ (h.size : Int)) (t6 : (h.extract 0 800).size = 800)
  (k3 : IntKind.i64.wrap (P - 801) = Z)
  (C3 : Hid (∀ W, Cp 134 #[.string (h.extract 0 800 ++ ⟨#[49]⟩), .int .i64 10] W (NOk m W)))
  (C4 : Hid (∀ W A n c, NV W A n c m → Ct 135 #[.slice A n c, .int .i64 Z] (.float .f64 F) W)) :
  Ct 69 #[.agg #[.string s1, .string s2, .int .i64 X]] (.float .f64 F) w := by
 have hs2 : ¬ 9223372036854775807 < s1.size + s2.size := by omega
 have R0 := Lib.hid (show Rc (w.alloc (.cells #[.string s1, .string s2, .int .i64 X] 64)) w.heap.size (.string s1) (.string s2) (.int .i64 X) from heap_alloc_last w _)
 have B0 := Lib.hid (show Below w.heap.size w (w.alloc (.cells #[.string s1, .string s2, .int .i64 X] 64)) from (Below.refl _ _).alloc (Nat.le_refl _) _)
 have S0 := Lib.hid (show w.heap.size < (w.alloc (.cells #[.string s1, .string s2, .int .i64 X] 64)).heap.size by simp)
 clear hs1
 go_enter Tryz.func69, Tryz.ntmps69
 go_wp2_with fail
 refine (C1.out _).mono ?_
 rintro e w1 ⟨rfl, b1⟩
 have R1 := Lib.hid (R0.out.below b1 S0.out)
 have B1 := Lib.hid (below_le B0.out b1)
 clear b1
 obtain ⟨c0, c1, c2, _⟩ := R1.out.cells
 go_wp2_with fail
 refine (C2.out _).mono ?_
 rintro e w2 ⟨rfl, b2⟩
 have B2 := Lib.hid (below_le B1.out b2)
 clear b2
 go_wp2_with fail
 refine (C3.out _).mono ?_
 rintro e w3 ⟨A, n, c, rfl, g3, b3⟩
 have G3 := Lib.hid g3
 have B3 := Lib.hid (below_le B2.out b3)
 clear g3 b3
 go_wp2_with fail
 refine (C4.out _ _ _ _ G3.out).mono ?_
 rintro e w4 ⟨rfl, b4⟩
 have B4 := Lib.hid (below_le B3.out b4)
 clear b4
 go_wp2
 go_ret
 exact ⟨rfl, B4.out⟩

end Go.Proofs.YtfcpkdafkmohkaaGreatDoor
namespace Go.Proofs.YtfcpkdafkmohkaaGreatDoor
open Go.RowKit
theorem below_al (w : World) (o : Obj) : Below w.heap.size w (w.alloc o) := (Below.refl _ _).alloc (Nat.le_refl _) _
set_option maxRecDepth 100000 in
set_option maxHeartbeats 1000000 in
theorem tnearer_other (H L M down unit D h : Nat) (hE : Bool) (w : World) (hD : H - down = D) (hd : down ≤ H) (hH : H < 9223372036854775808) (hU : unit < 9223372036854775808) (hu : unit / 2 = h) (hne : D ≠ h) :
  Ct 160 #[.agg #[.int .u64 (H : Nat), .bool hE, .int .u64 (L : Nat), .int .u64 (M : Nat)], .int .u64 (down : Nat), .int .u64 (unit : Nat)] (.bool (decide ((D : Int) < (h : Int)))) w := by
 have k1 : IntKind.u64.wrap ((H : Int) - (down : Int)) = (D : Int) := by rw [IntKind.wrap_u64]; omega
 have k2 : (unit : Int) / 2 = (h : Int) := by omega
 have k3 : IntKind.u64.wrap (h : Int) = (h : Int) := by rw [IntKind.wrap_u64]; omega
 have t1 : ((D : Int) != (h : Int)) = true := by rw [bne_iff_ne]; omega
 clear hD hd hH hu hne hU
 go_enter Tryz.func160, Tryz.ntmps160
 go_wp2
 go_ret
 exact ⟨by simp, below_al _ _⟩
set_option maxRecDepth 100000 in
set_option maxHeartbeats 1000000 in
theorem tnearer_more (H L M down unit D h : Nat) (w : World) (hD : H - down = D) (hd : down ≤ H) (hU : unit < 9223372036854775808) (hu : unit / 2 = h) (hne : D = h) :
  Ct 160 #[.agg #[.int .u64 (H : Nat), .bool false, .int .u64 (L : Nat), .int .u64 (M : Nat)], .int .u64 (down : Nat), .int .u64 (unit : Nat)] (.bool false) w := by
 have k1 : IntKind.u64.wrap ((H : Int) - (down : Int)) = (D : Int) := by rw [IntKind.wrap_u64]; omega
 have k2 : (unit : Int) / 2 = (h : Int) := by omega
 have k3 : IntKind.u64.wrap (h : Int) = (h : Int) := by rw [IntKind.wrap_u64]; omega
 have t1 : ((D : Int) != (h : Int)) = false := by rw [bne_eq_false_iff_eq]; omega
 clear hD hd hu hne hU
 go_enter Tryz.func160, Tryz.ntmps160
 go_wp2
 go_ret
 exact ⟨rfl, below_al _ _⟩
set_option maxRecDepth 100000 in
set_option maxHeartbeats 1000000 in
theorem tnearer_exact (H L M down unit D h q : Nat) (w : World) (hD : H - down = D) (hd : down ≤ H) (hH : H < 9223372036854775808) (hU : unit < 9223372036854775808) (hu : unit / 2 = h) (hne : D = h) (h0 : 0 < unit) (hq : down / unit = q) :
  Ct 160 #[.agg #[.int .u64 (H : Nat), .bool true, .int .u64 (L : Nat), .int .u64 (M : Nat)], .int .u64 (down : Nat), .int .u64 (unit : Nat)] (.bool ((q : Int) % 2 == 0)) w := by
 have k1 : IntKind.u64.wrap ((H : Int) - (down : Int)) = (D : Int) := by rw [IntKind.wrap_u64]; omega
 have k2 : (unit : Int) / 2 = (h : Int) := by omega
 have k3 : IntKind.u64.wrap (h : Int) = (h : Int) := by rw [IntKind.wrap_u64]; omega
 have t1 : ((D : Int) != (h : Int)) = false := by rw [bne_eq_false_iff_eq]; omega
 have k4 : (down : Int) / (unit : Int) = (q : Int) := by rw [← hq]; rfl
 have k5 : IntKind.u64.wrap (q : Int) = (q : Int) := by
  have : q ≤ down := by rw [← hq]; exact Nat.div_le_self _ _
  rw [IntKind.wrap_u64]
  omega
 have k6 : (0 : Int) < (unit : Int) := by omega
 have k7 : ¬ (unit : Int) = 0 := by omega
 clear hD hd hu hne hU h0 hq hH
 go_enter Tryz.func160, Tryz.ntmps160
 go_wp2
 go_ret
 exact ⟨rfl, below_al _ _⟩

end Go.Proofs.YtfcpkdafkmohkaaGreatDoor
namespace Go.Proofs.YtfcpkdafkmohkaaGreatDoor
open Go.RowKit
set_option maxRecDepth 100000 in
set_option maxHeartbeats 2000000 in
theorem tcand_tt (H L M unit dn up : Nat) (hE : Bool) (w : World) (h0 : 0 < unit) (hd : H - H % unit = dn) (hu : dn + unit = up) (hl : up < 9223372036854775808) (g1 : L ≤ dn) (g2 : up ≤ M)
  (CN : Hid (∀ W, Ct 160 #[.agg #[.int .u64 (H : Nat), .bool hE, .int .u64 (L : Nat), .int .u64 (M : Nat)], .int .u64 (dn : Nat), .int .u64 (unit : Nat)] (.bool true) W)) :
  Ct 96 #[.agg #[.int .u64 (H : Nat), .bool hE, .int .u64 (L : Nat), .int .u64 (M : Nat)], .int .u64 (unit : Nat)] (.tuple #[.int .u64 (dn : Nat), .bool true]) w := by
 obtain ⟨r, hr⟩ : ∃ r, H % unit = r := ⟨_, rfl⟩
 have hrH : r ≤ H := by rw [← hr]; exact Nat.mod_le _ _
 have hru : r < unit := by rw [← hr]; exact Nat.mod_lt _ h0
 rw [hr] at hd
 have k0 := Lib.hid (show (H : Int) % (unit : Int) = (r : Int) by rw [← hr]; rfl)
 have k2 := Lib.hid (show IntKind.u64.wrap ((H : Int) - (r : Int)) = (dn : Int) by rw [IntKind.wrap_u64]; omega)
 have k3 := Lib.hid (show IntKind.u64.wrap ((dn : Int) + (unit : Int)) = (up : Int) by rw [IntKind.wrap_u64]; omega)
 have k6 : (0 : Int) < (unit : Int) := by omega
 have k7 : ¬ (unit : Int) = 0 := by omega
 have t1 := Lib.hid (show decide (L ≤ dn) = true by first | exact decide_eq_true (by omega) | exact decide_eq_false (by omega))
 have t2 := Lib.hid (show decide (up ≤ M) = true by first | exact decide_eq_true (by omega) | exact decide_eq_false (by omega))
 have B0 := Lib.hid (below_al w (.cells #[.int .u64 (H : Nat), .bool hE, .int .u64 (L : Nat), .int .u64 (M : Nat)] 91))
 clear h0 hd hu hl g1 g2 hr hrH hru
 go_enter Tryz.func96, Tryz.ntmps96
 go_wp2
 go_quiet (fail)
 rw [k0.out, k2.out]
 have k3' := k3.out
 go_wp2
 clear k3'
 go_quiet (fail)
 have t1' := t1.out
 have t2' := t2.out
 have BW := Lib.hid (fun q => below_drewN' B0.out q)
 go_wp2_with fail
 refine (CN.out _).mono ?_
 rintro e w1 ⟨rfl, b1⟩
 have B1 := Lib.hid (below_le (BW.out _) b1)
 clear b1
 go_wp2
 go_ret2
 exact ⟨rfl, B1.out⟩
set_option maxRecDepth 100000 in
set_option maxHeartbeats 2000000 in
theorem tcand_tf (H L M unit dn up : Nat) (hE : Bool) (w : World) (h0 : 0 < unit) (hd : H - H % unit = dn) (hu : dn + unit = up) (hl : up < 9223372036854775808) (g1 : L ≤ dn) (g2 : up ≤ M)
  (CN : Hid (∀ W, Ct 160 #[.agg #[.int .u64 (H : Nat), .bool hE, .int .u64 (L : Nat), .int .u64 (M : Nat)], .int .u64 (dn : Nat), .int .u64 (unit : Nat)] (.bool false) W)) :
  Ct 96 #[.agg #[.int .u64 (H : Nat), .bool hE, .int .u64 (L : Nat), .int .u64 (M : Nat)], .int .u64 (unit : Nat)] (.tuple #[.int .u64 (up : Nat), .bool true]) w := by
 obtain ⟨r, hr⟩ : ∃ r, H % unit = r := ⟨_, rfl⟩
 have hrH : r ≤ H := by rw [← hr]; exact Nat.mod_le _ _
 have hru : r < unit := by rw [← hr]; exact Nat.mod_lt _ h0
 rw [hr] at hd
 have k0 := Lib.hid (show (H : Int) % (unit : Int) = (r : Int) by rw [← hr]; rfl)
 have k2 := Lib.hid (show IntKind.u64.wrap ((H : Int) - (r : Int)) = (dn : Int) by rw [IntKind.wrap_u64]; omega)
 have k3 := Lib.hid (show IntKind.u64.wrap ((dn : Int) + (unit : Int)) = (up : Int) by rw [IntKind.wrap_u64]; omega)
 have k6 : (0 : Int) < (unit : Int) := by omega
 have k7 : ¬ (unit : Int) = 0 := by omega
 have t1 := Lib.hid (show decide (L ≤ dn) = true by first | exact decide_eq_true (by omega) | exact decide_eq_false (by omega))
 have t2 := Lib.hid (show decide (up ≤ M) = true by first | exact decide_eq_true (by omega) | exact decide_eq_false (by omega))
 have B0 := Lib.hid (below_al w (.cells #[.int .u64 (H : Nat), .bool hE, .int .u64 (L : Nat), .int .u64 (M : Nat)] 91))
 clear h0 hd hu hl g1 g2 hr hrH hru
 go_enter Tryz.func96, Tryz.ntmps96
 go_wp2
 go_quiet (fail)
 rw [k0.out, k2.out]
 have k3' := k3.out
 go_wp2
 clear k3'
 go_quiet (fail)
 have t1' := t1.out
 have t2' := t2.out
 have BW := Lib.hid (fun q => below_drewN' B0.out q)
 go_wp2_with fail
 refine (CN.out _).mono ?_
 rintro e w1 ⟨rfl, b1⟩
 have B1 := Lib.hid (below_le (BW.out _) b1)
 clear b1
 go_wp2
 go_ret2
 exact ⟨rfl, B1.out⟩
set_option maxRecDepth 100000 in
set_option maxHeartbeats 2000000 in
theorem tcand_down (H L M unit dn up : Nat) (hE : Bool) (w : World) (h0 : 0 < unit) (hd : H - H % unit = dn) (hu : dn + unit = up) (hl : up < 9223372036854775808) (g1 : L ≤ dn) (g2 : ¬ up ≤ M) :
  Ct 96 #[.agg #[.int .u64 (H : Nat), .bool hE, .int .u64 (L : Nat), .int .u64 (M : Nat)], .int .u64 (unit : Nat)] (.tuple #[.int .u64 (dn : Nat), .bool true]) w := by
 obtain ⟨r, hr⟩ : ∃ r, H % unit = r := ⟨_, rfl⟩
 have hrH : r ≤ H := by rw [← hr]; exact Nat.mod_le _ _
 have hru : r < unit := by rw [← hr]; exact Nat.mod_lt _ h0
 rw [hr] at hd
 have k0 := Lib.hid (show (H : Int) % (unit : Int) = (r : Int) by rw [← hr]; rfl)
 have k2 := Lib.hid (show IntKind.u64.wrap ((H : Int) - (r : Int)) = (dn : Int) by rw [IntKind.wrap_u64]; omega)
 have k3 := Lib.hid (show IntKind.u64.wrap ((dn : Int) + (unit : Int)) = (up : Int) by rw [IntKind.wrap_u64]; omega)
 have k6 : (0 : Int) < (unit : Int) := by omega
 have k7 : ¬ (unit : Int) = 0 := by omega
 have t1 := Lib.hid (show decide (L ≤ dn) = true by first | exact decide_eq_true (by omega) | exact decide_eq_false (by omega))
 have t2 := Lib.hid (show decide (up ≤ M) = false by first | exact decide_eq_true (by omega) | exact decide_eq_false (by omega))
 have B0 := Lib.hid (below_al w (.cells #[.int .u64 (H : Nat), .bool hE, .int .u64 (L : Nat), .int .u64 (M : Nat)] 91))
 clear h0 hd hu hl g1 g2 hr hrH hru
 go_enter Tryz.func96, Tryz.ntmps96
 go_wp2
 go_quiet (fail)
 rw [k0.out, k2.out]
 have k3' := k3.out
 go_wp2
 clear k3'
 go_quiet (fail)
 have t1' := t1.out
 have t2' := t2.out
 have BW := Lib.hid (fun q => below_drewN' B0.out q)
 go_wp2
 go_ret2
 exact ⟨rfl, BW.out _⟩
set_option maxRecDepth 100000 in
set_option maxHeartbeats 2000000 in
theorem tcand_up (H L M unit dn up : Nat) (hE : Bool) (w : World) (h0 : 0 < unit) (hd : H - H % unit = dn) (hu : dn + unit = up) (hl : up < 9223372036854775808) (g1 : ¬ L ≤ dn) (g2 : up ≤ M) :
  Ct 96 #[.agg #[.int .u64 (H : Nat), .bool hE, .int .u64 (L : Nat), .int .u64 (M : Nat)], .int .u64 (unit : Nat)] (.tuple #[.int .u64 (up : Nat), .bool true]) w := by
 obtain ⟨r, hr⟩ : ∃ r, H % unit = r := ⟨_, rfl⟩
 have hrH : r ≤ H := by rw [← hr]; exact Nat.mod_le _ _
 have hru : r < unit := by rw [← hr]; exact Nat.mod_lt _ h0
 rw [hr] at hd
 have k0 := Lib.hid (show (H : Int) % (unit : Int) = (r : Int) by rw [← hr]; rfl)
 have k2 := Lib.hid (show IntKind.u64.wrap ((H : Int) - (r : Int)) = (dn : Int) by rw [IntKind.wrap_u64]; omega)
 have k3 := Lib.hid (show IntKind.u64.wrap ((dn : Int) + (unit : Int)) = (up : Int) by rw [IntKind.wrap_u64]; omega)
 have k6 : (0 : Int) < (unit : Int) := by omega
 have k7 : ¬ (unit : Int) = 0 := by omega
 have t1 := Lib.hid (show decide (L ≤ dn) = false by first | exact decide_eq_true (by omega) | exact decide_eq_false (by omega))
 have t2 := Lib.hid (show decide (up ≤ M) = true by first | exact decide_eq_true (by omega) | exact decide_eq_false (by omega))
 have B0 := Lib.hid (below_al w (.cells #[.int .u64 (H : Nat), .bool hE, .int .u64 (L : Nat), .int .u64 (M : Nat)] 91))
 clear h0 hd hu hl g1 g2 hr hrH hru
 go_enter Tryz.func96, Tryz.ntmps96
 go_wp2
 go_quiet (fail)
 rw [k0.out, k2.out]
 have k3' := k3.out
 go_wp2
 clear k3'
 go_quiet (fail)
 have t1' := t1.out
 have t2' := t2.out
 have BW := Lib.hid (fun q => below_drewN' B0.out q)
 go_wp2
 go_ret2
 exact ⟨rfl, BW.out _⟩
set_option maxRecDepth 100000 in
set_option maxHeartbeats 2000000 in
theorem tcand_none (H L M unit dn up : Nat) (hE : Bool) (w : World) (h0 : 0 < unit) (hd : H - H % unit = dn) (hu : dn + unit = up) (hl : up < 9223372036854775808) (g1 : ¬ L ≤ dn) (g2 : ¬ up ≤ M) :
  Ct 96 #[.agg #[.int .u64 (H : Nat), .bool hE, .int .u64 (L : Nat), .int .u64 (M : Nat)], .int .u64 (unit : Nat)] (.tuple #[.int .u64 (up : Nat), .bool false]) w := by
 obtain ⟨r, hr⟩ : ∃ r, H % unit = r := ⟨_, rfl⟩
 have hrH : r ≤ H := by rw [← hr]; exact Nat.mod_le _ _
 have hru : r < unit := by rw [← hr]; exact Nat.mod_lt _ h0
 rw [hr] at hd
 have k0 := Lib.hid (show (H : Int) % (unit : Int) = (r : Int) by rw [← hr]; rfl)
 have k2 := Lib.hid (show IntKind.u64.wrap ((H : Int) - (r : Int)) = (dn : Int) by rw [IntKind.wrap_u64]; omega)
 have k3 := Lib.hid (show IntKind.u64.wrap ((dn : Int) + (unit : Int)) = (up : Int) by rw [IntKind.wrap_u64]; omega)
 have k6 : (0 : Int) < (unit : Int) := by omega
 have k7 : ¬ (unit : Int) = 0 := by omega
 have t1 := Lib.hid (show decide (L ≤ dn) = false by first | exact decide_eq_true (by omega) | exact decide_eq_false (by omega))
 have t2 := Lib.hid (show decide (up ≤ M) = false by first | exact decide_eq_true (by omega) | exact decide_eq_false (by omega))
 have B0 := Lib.hid (below_al w (.cells #[.int .u64 (H : Nat), .bool hE, .int .u64 (L : Nat), .int .u64 (M : Nat)] 91))
 clear h0 hd hu hl g1 g2 hr hrH hru
 go_enter Tryz.func96, Tryz.ntmps96
 go_wp2
 go_quiet (fail)
 rw [k0.out, k2.out]
 have k3' := k3.out
 go_wp2
 clear k3'
 go_quiet (fail)
 have t1' := t1.out
 have t2' := t2.out
 have BW := Lib.hid (fun q => below_drewN' B0.out q)
 go_wp2
 go_ret2
 exact ⟨rfl, BW.out _⟩

end Go.Proofs.YtfcpkdafkmohkaaGreatDoor
namespace Go.Proofs.YtfcpkdafkmohkaaGreatDoor
open Go.RowKit
set_option maxRecDepth 100000 in
set_option maxHeartbeats 1000000 in
theorem ifmt_small (u : Nat) (w : World) (h : u < 100) : Ct 208 #[.int .u64 u, .int .i64 10] (.string ⟨(Lib.decDigits u).toArray⟩) w := by
 have t1 : (u : Int) < 100 := by omega
 have t2 : (u : Int) < 9223372036854775808 := by omega
 go_enter Tryz.func208, Tryz.ntmps208
 go_wp2_with (go_at_call 232; refine (Tryz.internal_strconv_small u h _).mono ?_; rintro e w' ⟨rfl, rfl⟩)
 go_ret
 exact ⟨rfl, Below.refl _ _⟩
open Go.Sort in
set_option maxRecDepth 100000 in
set_option maxHeartbeats 1000000 in
theorem ifmt_big (u : Nat) (w : World) (h : 100 ≤ u) (hu64 : u < 18446744073709551616) (htab : Lib.TabIs Tryz.prog w "internal/strconv.uint64pow10" .u64 Lib.pow10Tab) :
  Ct 208 #[.int .u64 u, .int .i64 10] (.string ⟨(Lib.decDigits u).toArray⟩) w := by
 have hu1 : 1 ≤ u := by omega
 have hnd20 : Lib.nDigits u ≤ 20 := by have := Lib.numDigits_eq u hu1 hu64; split at this <;> omega
 have t1 : ¬ (u : Int) < 100 := by omega
 have hal : Tryz.prog.arrayLen 202 = 24 := by kernel_rfl
 have hsl1 : ∀ W, (Instr.sliceAt 202 (.pointer (some ⟨w.heap.size, 0, none⟩)) none (some (.int .i64 (Lib.nDigits u : Int))) none).run Tryz.prog W = .ok (.slice (some ⟨w.heap.size, 0, none⟩) (Lib.nDigits u) 24) W := fun W => by
  rw [run_sliceAt_array_h W 202 ⟨w.heap.size, 0, none⟩ (by simp [Program.arrayLen, Program.elem, Tryz.underlying202]) .i64 (Lib.nDigits u : Int) (by omega) (by rw [hal]; omega)]
  go_simp
 have hH0 := Lib.holds_zero0 w 202 (Lib.nDigits u) (by omega)
 have hfmt := Tryz.internal_strconv_formatBase10 w.heap.size 0 24 u (Array.replicate (Lib.nDigits u) 0) (w.alloc (.cells Lib.zeros24 202)) hH0 (by rw [Array.size_replicate]; exact Lib.lt_pow_nDigits u) hu64 (by rw [Array.size_replicate]; omega)
 rw [Array.size_replicate] at hfmt
 have HH0 := Lib.hid hH0
 clear hH0 hal h
 go_enter Tryz.func208, Tryz.ntmps208
 go_wp2_with (first
  | (go_at_call 233; refine (Tryz.internal_strconv_numDigits u hu1 hu64 _ (Lib.tabIs_alloc htab _)).mono ?_; rintro e w' ⟨rfl, rfl⟩))
 go_at_call 234
 refine hfmt.mono ?_
 rintro e w' ⟨rfl, k, v', dk, rfl, hF⟩
 have hcv : (convert 85 9 (.slice (some ⟨w.heap.size, 0, none⟩) (Lib.nDigits u) 24)).run Tryz.prog ((putRow (fun (b : UInt8) => Value.int .u8 (b.toNat : Int)) (w.alloc (.cells Lib.zeros24 202)) w.heap.size 0 dk).drewN k) = .ok (.string ⟨(Lib.decDigits u).toArray⟩) ((putRow (fun (b : UInt8) => Value.int .u8 (b.toNat : Int)) (w.alloc (.cells Lib.zeros24 202)) w.heap.size 0 dk).drewN k) := by
  have h := run_convert_bytes_back (P := Tryz.prog) ((putRow (fun (b : UInt8) => Value.int .u8 (b.toNat : Int)) (w.alloc (.cells Lib.zeros24 202)) w.heap.size 0 dk).drewN k) 85 9 5 ⟨w.heap.size, 0, none⟩ 24 (Lib.decDigits u) Tryz.underlying85 Tryz.underlying5 Tryz.underlying9 (fun j hj => by
   rw [Lib.row_is_numeral hF j hj, Lib.add_plain, World.cell?_drewN]
   exact cell?_putRow (fun (b : UInt8) => Value.int .u8 (b.toNat : Int)) _ w.heap.size 0 _ dk HH0.out (by rw [hF.size, Array.size_replicate]) j (by rw [hF.size]; rw [Lib.decDigits_length] at hj; exact hj))
  rw [Lib.decDigits_length] at h
  exact h
 go_wp2
 go_ret
 obtain ⟨os, eo⟩ := Lib.fin_at w (.cells Lib.zeros24 202) dk k 0
 refine ⟨rfl, ?_⟩
 have hb := Lib.below_grow w.heap.size w (Nat.le_refl _) k os
 rw [← eo] at hb
 exact hb
theorem cfmt_any (u : Nat) (w : World) (hu : u < 18446744073709551616) (htab : Lib.TabIs Tryz.prog w "internal/strconv.uint64pow10" .u64 Lib.pow10Tab) :
  Ct 155 #[.int .u64 u, .int .i64 10] (.string (strOf (dL u))) w := by
 have C : Hid (∀ W, W = w → Ct 208 #[.int .u64 u, .int .i64 10] (.string ⟨(Lib.decDigits u).toArray⟩) W) := Lib.hid (fun W hW => by
  subst hW
  rcases Nat.lt_or_ge u 100 with h | h
  ·exact ifmt_small u W h
  ·exact ifmt_big u W h hu htab)
 have he : (⟨(Lib.decDigits u).toArray⟩ : ByteArray) = strOf (dL u) := str_eq rfl
 rw [← he]
 clear he htab hu
 go_enter Tryz.func155, Tryz.ntmps155
 go_wp2_with fail
 refine (C.out _ rfl).mono ?_
 rintro e w1 ⟨rfl, b1⟩
 go_wp2
 go_ret
 exact ⟨rfl, b1⟩

end Go.Proofs.YtfcpkdafkmohkaaGreatDoor
namespace Go.Proofs.YtfcpkdafkmohkaaGreatDoor
open Go.RowKit
theorem tnearer_any (H L M unit dn : Nat) (hE : Bool) (w : World) (h0 : 0 < unit) (hd : H - H % unit = dn) (hH : H < 9223372036854775808) (hU : unit < 9223372036854775808) :
  Ct 160 #[.agg #[.int .u64 (H : Nat), .bool hE, .int .u64 (L : Nat), .int .u64 (M : Nat)], .int .u64 (dn : Nat), .int .u64 (unit : Nat)] (.bool (decide (H % unit < unit / 2 ∨ (H % unit = unit / 2 ∧ hE = true ∧ dn / unit % 2 = 0)))) w := by
 have hle := Nat.mod_le H unit
 have hD : H - dn = H % unit := by omega
 have hdn : dn ≤ H := by omega
 by_cases h1 : H % unit = unit / 2
 ·cases hE
  ·refine (tnearer_more H L M dn unit _ _ w hD hdn hU rfl h1).mono ?_
   rintro e w' ⟨rfl, hb⟩
   exact ⟨by rw [decide_eq_false (by rw [h1]; simp)], hb⟩
  ·refine (tnearer_exact H L M dn unit _ _ _ w hD hdn hH hU rfl h1 h0 rfl).mono ?_
   rintro e w' ⟨rfl, hb⟩
   refine ⟨congrArg (fun b => Ending.returned (.bool b)) ?_, hb⟩
   rw [Bool.eq_iff_iff, beq_iff_eq, decide_eq_true_iff]
   generalize dn / unit = q
   constructor
   ·intro h
    exact .inr ⟨h1, rfl, by omega⟩
   ·rintro (h | ⟨_, _, h⟩)
    ·omega
    ·omega
 ·refine (tnearer_other H L M dn unit _ _ hE w hD hdn hH hU rfl h1).mono ?_
  rintro e w' ⟨rfl, hb⟩
  refine ⟨congrArg (fun b => Ending.returned (.bool b)) ?_, hb⟩
  rw [Bool.eq_iff_iff, decide_eq_true_iff, decide_eq_true_iff]
  generalize H % unit = a at *
  generalize unit / 2 = b at *
  omega
def candV (o : Option Nat) (d : Nat) : Value := .tuple #[.int .u64 ((o.getD d : Nat) : Int), .bool o.isSome]
theorem tcand_any (H L M unit : Nat) (hE : Bool) (w : World) (h0 : 0 < unit) (hl : H + unit < 9223372036854775808) :
  Ct 96 #[.agg #[.int .u64 (H : Nat), .bool hE, .int .u64 (L : Nat), .int .u64 (M : Nat)], .int .u64 (unit : Nat)] (candV (pcn H hE L M unit) (H - H % unit + unit)) w := by
 obtain ⟨dn, hd⟩ : ∃ dn, H - H % unit = dn := ⟨_, rfl⟩
 obtain ⟨up, hu⟩ : ∃ up, dn + unit = up := ⟨_, rfl⟩
 have hup : up < 9223372036854775808 := by omega
 have CN := fun W => tnearer_any H L M unit dn hE W h0 hd (by omega) (by omega)
 unfold pcn
 rw [hd, hu]
 by_cases g1 : L ≤ dn
 ·by_cases g2 : up ≤ M
  ·by_cases g3 : H % unit < unit / 2 ∨ (H % unit = unit / 2 ∧ hE = true ∧ dn / unit % 2 = 0)
   ·rw [if_pos ⟨g1, .inr g3⟩]
    rw [decide_eq_true g3] at CN
    exact tcand_tt H L M unit dn up hE w h0 hd hu hup g1 g2 (Lib.hid CN)
   ·rw [if_neg (fun h => h.2.elim (fun h => h g2) g3), if_pos g2]
    rw [decide_eq_false g3] at CN
    exact tcand_tf H L M unit dn up hE w h0 hd hu hup g1 g2 (Lib.hid CN)
  ·rw [if_pos ⟨g1, .inl g2⟩]
   exact tcand_down H L M unit dn up hE w h0 hd hu hup g1 g2
 ·rw [if_neg (fun h => g1 h.1)]
  by_cases g2 : up ≤ M
  ·rw [if_pos g2]
   exact tcand_up H L M unit dn up hE w h0 hd hu hup g1 g2
  ·rw [if_neg g2]
   exact tcand_none H L M unit dn up hE w h0 hd hu hup g1 g2
abbrev Tab10 (w : World) : Prop := Lib.TabIs Tryz.prog w "internal/strconv.uint64pow10" .u64 Lib.pow10Tab
theorem Tab10.on {w w' : World} (h : Tab10 w) (hb : Below w.heap.size w w') : Tab10 w' := (Lib.tabBelow_of_tabIs h) w' hb
theorem ttrimmed_walk (u n : Nat) (ten x : Int) (D T : ByteArray) (w : World) (hn : D.size = n) (hx : wrap64 ((n : Int) + ten) = x)
  (C1 : Hid (∀ W, W = w → Ct 155 #[.int .u64 u, .int .i64 10] (.string D) W))
  (C2 : Hid (∀ W, Ct 113 #[.string D, .string ⟨#[48]⟩] (.string T) W)) :
  Ct 93 #[.int .u64 u, .int .i64 ten] (.tuple #[.string T, .int .i64 x]) w := by
 go_enter Tryz.func93, Tryz.ntmps93
 go_wp2_with fail
 refine (C1.out _ rfl).mono ?_
 rintro e w1 ⟨rfl, b1⟩
 have B1 := Lib.hid b1
 clear b1
 go_wp2_with fail
 refine (C2.out _).mono ?_
 rintro e w2 ⟨rfl, b2⟩
 have B2 := Lib.hid (below_le B1.out b2)
 clear b2
 go_wp2
 go_ret2
 exact ⟨congrArg (fun z => Ending.returned (.tuple #[.string T, .int .i64 z])) hx, B2.out⟩
theorem ttrimmed_any (u : Nat) (ten : Int) (w : World) (hu : u < 18446744073709551616) (h1 : -1000 ≤ ten) (h2 : ten ≤ 1000) (ht : Tab10 w) :
  Ct 93 #[.int .u64 u, .int .i64 ten] (.tuple #[.string (strOf (trz (dL u))), .int .i64 ((dL u).length + ten)]) w := by
 have hl : (dL u).length ≤ 20 := by
  rcases Nat.eq_zero_or_pos u with h | h
  ·rw [h, dL_small (by omega)]; simp
  ·have h3 : 10 ^ ((dL u).length - 1) < 10 ^ 20 := Nat.lt_of_le_of_lt (dL_ge h) (by omega)
   have := ten_lt h3
   omega
 have hb : bl (strOf (dL u)) = dL u := bl_strOf fun c hc => by have := dg10_iff.1 (dL_dig u c hc); omega
 have C2 := fun W => trimR48 (strOf (dL u)) W (by rw [strOf_size]; omega)
 rw [hb] at C2
 exact ttrimmed_walk u (dL u).length ten _ _ _ w (strOf_size _) (by unfold wrap64; omega) (Lib.hid fun W h => by subst h; exact cfmt_any u W hu ht) (Lib.hid C2)

end Go.Proofs.YtfcpkdafkmohkaaGreatDoor
namespace Go.Proofs.YtfcpkdafkmohkaaGreatDoor
open Go.RowKit
theorem cut_one (s : ByteArray) (k : UInt8) (w : World) : Cq 131 #[.string s, .string ⟨#[k]⟩] (.tuple #[.string (strOf (if (bl s).head? = some k.toNat then (bl s).tail else bl s)), .bool ((bl s).head? == some k.toNat)]) w := by
 refine (Tryz.strings_CutPrefix s ⟨#[k]⟩ w).mono fun e w' h => ⟨?_, h.2.symm⟩
 rw [h.1]
 have e1 := tp_one s k
 have e2 := hp_one s k
 exact congrArg Ending.returned (by rw [show (⟨#[k]⟩ : ByteArray).data.toList = [k] from rfl, e1, e2])
theorem trim_one (s : ByteArray) (k : UInt8) (w : World) : Cq 149 #[.string s, .string ⟨#[k]⟩] (.string (strOf (if (bl s).head? = some k.toNat then (bl s).tail else bl s))) w := by
 refine (Tryz.strings_TrimPrefix s ⟨#[k]⟩ w).mono fun e w' h => ⟨?_, h.2.symm⟩
 rw [h.1]
 have e1 := tp_one s k
 exact congrArg Ending.returned (by rw [show (⟨#[k]⟩ : ByteArray).data.toList = [k] from rfl, e1])
theorem cut_any' (s p : ByteArray) (w : World) : Cq 131 #[.string s, .string p] (.tuple #[.string (strOf (if (bl p).isPrefixOf (bl s) = true then (bl s).drop p.size else bl s)), .bool ((bl p).isPrefixOf (bl s))]) w := by
 refine (Tryz.strings_CutPrefix s p w).mono fun e w' h => ⟨?_, h.2.symm⟩
 rw [h.1, tp_any, hp_any]
def sgF (b : Bool) : Nat := if b = true then 13830554455654793216 else 4607182418800017408
theorem tcutSign_any (s : ByteArray) (w : World) : Cq 84 #[.string s] (.tuple #[.float .f64 (sgF (sgnB (bl s)) : Nat), .string (strOf (unsg (bl s)))]) w := by
 have C1 := Lib.hid (cut_one s 45 w)
 have C2 := Lib.hid (trim_one s 43 w)
 have h1 : ((bl s).head? == some (45 : UInt8).toNat) = sgnB (bl s) := rfl
 rw [h1] at C1
 cases h : sgnB (bl s)
 ·rw [h] at C1
  have e1 : unsg (bl s) = if (bl s).head? = some (43 : UInt8).toNat then (bl s).tail else bl s := by
   have h2 : ¬ (bl s).head? = some 45 := by
    intro e
    unfold sgnB at h
    rw [e] at h
    simp at h
   unfold unsg
   by_cases h3 : (bl s).head? = some 43
   ·rw [if_pos (Or.inr h3)]; exact (if_pos h3).symm
   ·rw [if_neg (by rintro (h4 | h4); exact h2 h4; exact h3 h4)]; exact (if_neg h3).symm
  rw [← e1] at C2
  obtain ⟨t, ht⟩ : ∃ t, strOf (unsg (bl s)) = t := ⟨_, rfl⟩
  rw [ht] at C2 ⊢
  obtain ⟨t1, ht1⟩ : ∃ t1, strOf (if (bl s).head? = some (45 : UInt8).toNat then (bl s).tail else bl s) = t1 := ⟨_, rfl⟩
  rw [ht1] at C1
  clear h h1 e1 ht ht1
  go_enter Tryz.func84, Tryz.ntmps84
  go_wp2_with fail
  refine C1.out.mono ?_
  rintro e w' ⟨rfl, rfl⟩
  go_wp2_with fail
  refine C2.out.mono ?_
  rintro e w' ⟨rfl, rfl⟩
  go_wp2
  go_ret2
  exact ⟨rfl, rfl⟩
 ·rw [h] at C1
  have e1 : unsg (bl s) = if (bl s).head? = some (45 : UInt8).toNat then (bl s).tail else bl s := by
   have h2 : (bl s).head? = some 45 := by
    unfold sgnB at h
    exact beq_iff_eq.1 h
   unfold unsg
   rw [if_pos (Or.inl h2)]
   exact (if_pos h2).symm
  rw [← e1] at C1
  obtain ⟨t, ht⟩ : ∃ t, strOf (unsg (bl s)) = t := ⟨_, rfl⟩
  rw [ht] at C1 ⊢
  clear h h1 e1 ht C2
  go_enter Tryz.func84, Tryz.ntmps84
  go_wp2_with fail
  refine C1.out.mono ?_
  rintro e w' ⟨rfl, rfl⟩
  go_wp2
  go_ret2
  exact ⟨rfl, rfl⟩
theorem two_ahead (a b : Nat) (l : List Nat) : [a, b].isPrefixOf l = (l.head? == some a && l.tail.head? == some b) := by
 cases l with
 | nil => rfl
 | cons c r =>
  cases r with
  | nil =>
   show (a == c && false) = (some c == some a && (none : Option Nat) == some b)
   rw [Bool.eq_iff_iff]; simp
  | cons d q =>
   show (a == c && (b == d && true)) = (some c == some a && some d == some b)
   rw [Bool.eq_iff_iff]
   simp only [Bool.and_true, Bool.and_eq_true, beq_iff_eq, Option.some.injEq]
   exact ⟨fun e => ⟨e.1.symm, e.2.symm⟩, fun e => ⟨e.1.symm, e.2.symm⟩⟩
theorem tcutHex_any (s : ByteArray) (w : World) : Cq 85 #[.string s] (.tuple #[.string (strOf (if hxA (bl s) = true then (bl s).drop 2 else bl s)), .bool (hxA (bl s))]) w := by
 have C1 := Lib.hid (cut_any' s ⟨#[48, 120]⟩ w)
 have C2 := Lib.hid (cut_any' s ⟨#[48, 88]⟩ w)
 have h1 : (bl ⟨#[48, 120]⟩).isPrefixOf (bl s) = ((bl s).head? == some 48 && (bl s).tail.head? == some 120) := two_ahead 48 120 (bl s)
 have h2 : (bl ⟨#[48, 88]⟩).isPrefixOf (bl s) = ((bl s).head? == some 48 && (bl s).tail.head? == some 88) := two_ahead 48 88 (bl s)
 have hx : hxA (bl s) = ((bl ⟨#[48, 120]⟩).isPrefixOf (bl s) || (bl ⟨#[48, 88]⟩).isPrefixOf (bl s)) := by
  rw [h1, h2]; unfold hxA; cases ((bl s).head? == some 48) <;> rfl
 rw [hx]
 clear h1 h2 hx
 obtain ⟨p, hp⟩ : ∃ p, (bl ⟨#[48, 120]⟩).isPrefixOf (bl s) = p := ⟨_, rfl⟩
 obtain ⟨q, hq⟩ : ∃ q, (bl ⟨#[48, 88]⟩).isPrefixOf (bl s) = q := ⟨_, rfl⟩
 rw [hp] at C1
 rw [hq] at C2
 rw [hp, hq]
 rw [show (⟨#[48, 120]⟩ : ByteArray).size = 2 from rfl] at C1
 rw [show (⟨#[48, 88]⟩ : ByteArray).size = 2 from rfl] at C2
 clear hp hq
 cases p
 ·rw [if_neg (by simp)] at C1
  rw [Bool.false_or]
  obtain ⟨t, ht⟩ : ∃ t, strOf (if q = true then (bl s).drop 2 else bl s) = t := ⟨_, rfl⟩
  rw [ht] at C2 ⊢
  obtain ⟨t1, ht1⟩ : ∃ t1, strOf (bl s) = t1 := ⟨_, rfl⟩
  clear ht ht1
  go_enter Tryz.func85, Tryz.ntmps85
  go_wp2_with fail
  refine C1.out.mono ?_
  rintro e w' ⟨rfl, rfl⟩
  go_wp2_with fail
  refine C2.out.mono ?_
  rintro e w' ⟨rfl, rfl⟩
  go_wp2
  go_ret2
  exact ⟨rfl, rfl⟩
 ·rw [if_pos rfl] at C1
  rw [Bool.true_or, if_pos rfl]
  obtain ⟨t, ht⟩ : ∃ t, strOf ((bl s).drop 2) = t := ⟨_, rfl⟩
  rw [ht] at C1 ⊢
  clear ht C2
  go_enter Tryz.func85, Tryz.ntmps85
  go_wp2_with fail
  refine C1.out.mono ?_
  rintro e w' ⟨rfl, rfl⟩
  go_wp2
  go_ret2
  exact ⟨rfl, rfl⟩

end Go.Proofs.YtfcpkdafkmohkaaGreatDoor
namespace Go.Proofs.YtfcpkdafkmohkaaGreatDoor
open Go.RowKit
theorem low_trim (s : ByteArray) {r : Nat} (hr : r ≤ 36) (w : World) : Ct 133 #[.string s, .string (lowS r)] (.string (strOf ((bl s).dropWhile (ldq r)))) w := by
 have h := Tryz.strings_TrimLeft_laid s (lowS r) w (by rw [low_small hr]; omega) (low_asc hr)
 rw [tl_low hr s] at h
 exact h
theorem drop_len_le (p : Nat → Bool) (l : List Nat) : (l.dropWhile p).length ≤ l.length := (List.dropWhile_sublist p).length_le
set_option maxRecDepth 100000 in
theorem tcutDigits_any (s : ByteArray) (r : Nat) (w : World) (hr : r ≤ 36) (hs : s.size ≤ 4611686018427387903) :
  Ct 86 #[.string s, .int .i64 r] (.tuple #[.string (strOf ((bl s).takeWhile (ldq r))), .string (strOf ((bl s).dropWhile (ldq r)))]) w := by
 have C1 := Lib.hid (low_trim s hr w)
 unfold lowS at C1
 have hle := drop_len_le (ldq r) (bl s)
 rw [bl_size] at hle
 have hk := take_run (ldq r) (bl s)
 rw [bl_size] at hk
 have hsz := strOf_size ((bl s).dropWhile (ldq r))
 obtain ⟨t, ht⟩ : ∃ t, strOf ((bl s).dropWhile (ldq r)) = t := ⟨_, rfl⟩
 rw [ht] at C1 hsz ⊢
 obtain ⟨k, hk2⟩ : ∃ k, s.size - t.size = k := ⟨_, rfl⟩
 have HE := Lib.hid (show s.extract 0 k = strOf ((bl s).takeWhile (ldq r)) from by rw [ext_take, ← hk, ← hk2, hsz])
 have h1 : (t.size : Int) ≤ (s.size : Int) := by omega
 have h2 : (s.size : Int) ≤ 4611686018427387903 := by omega
 have h3 : (s.size : Int) - (t.size : Int) = (k : Int) := by omega
 have h4 : (k : Int) ≤ (s.size : Int) := by omega
 have hr1 : (r : Int) ≤ 36 := by omega
 rw [← HE.out]
 clear hle hk hsz ht hk2 hr hs
 go_enter Tryz.func86, Tryz.ntmps86
 go_wp2_with fail
 refine C1.out.mono ?_
 rintro e w' ⟨rfl, hb⟩
 go_wp2
 go_ret2
 exact ⟨rfl, hb⟩
set_option maxRecDepth 100000 in
set_option maxHeartbeats 1000000 in
theorem tamount_any (s : ByteArray) (w : World) (hs : s.size ≤ 4611686018427387903) (hd : ∀ c ∈ bl s, dg10 c = true) :
  Cq 192 #[.string s] (.int .i64 (amt (bl s) : Nat)) w := by
 have h2 : (s.size : Int) ≤ 4611686018427387903 := by omega
 have HD := Lib.hid hd
 clear hd hs
 go_enter Tryz.func192, Tryz.ntmps192
 go_wp2
 go_loopw [3, 7] (fun nv i wr => ∃ k : Nat, i = .int .i64 k ∧ k ≤ s.size ∧ nv = .int .i64 (amt ((bl s).take k) : Nat) ∧ w = wr) (fun _ i _ => s.size - (intOf i).toNat)
 case atStart => exact ⟨0, rfl, Nat.zero_le _, rfl, rfl⟩
 case round =>
  obtain ⟨k, rfl, hk, rfl, rfl⟩ := hrel
  by_cases hlt : k < s.size
  ·obtain ⟨B, hB⟩ : ∃ B : Nat, (s[k]'hlt).toNat = B := ⟨_, rfl⟩
   have hget : (bl s)[k]? = some B := by rw [bl_get s k hlt, hB]
   have hdB := dg10_iff.1 (HD.out B (List.mem_of_getElem? hget))
   obtain ⟨N, hN⟩ : ∃ N, amt ((bl s).take k) = N := ⟨_, rfl⟩
   have hNl : N < 10995116277760 := by rw [← hN]; exact amt_lt _ (fun c hc => HD.out c (List.mem_of_mem_take hc))
   have hstep : amt ((bl s).take (k + 1)) = amtS N B := by rw [List.take_add_one, hget, ← hN]; exact amt_snoc _ _
   rw [hN]
   have a1 : (0 : Int) ≤ (k : Int) := by omega
   have a2 : (k : Int) < (s.size : Int) := by omega
   have a3 : ((s[k]'hlt).toNat : Int) = (B : Int) := by rw [hB]
   obtain ⟨D, hD⟩ : ∃ D : Nat, B - 48 = D := ⟨_, rfl⟩
   have a4 : IntKind.u8.wrap ((B : Int) - 48) = (D : Int) := by rw [IntWalk.u8_in _ (by omega)]; omega
   have a5 : IntKind.i64.wrap (D : Int) = (D : Int) := IntWalk.i64_in _ (by omega)
   by_cases hc : N < 1099511627776
   ·obtain ⟨M, hM⟩ : ∃ M : Nat, N * 10 + D = M := ⟨_, rfl⟩
    have HS := Lib.hid (show amt ((bl s).take (k + 1)) = M from by rw [hstep]; unfold amtS; rw [if_pos hc, hD, hM])
    have a6 : IntKind.i64.wrap (10 * (N : Int)) = 10 * (N : Int) := IntWalk.i64_in _ (by omega)
    have a7 : IntKind.i64.wrap (10 * (N : Int) + (D : Int)) = (M : Int) := by rw [IntWalk.i64_in _ (by omega)]; omega
    have t1 : decide ((N : Int) < 1099511627776) = true := decide_eq_true (by omega)
    clear hget hdB hN hNl hstep hB hD hM hc HD hk
    go_wp2
    exact ⟨⟨k + 1, by go_num, by omega, by rw [HS.out], trivial⟩, by simp [intOf]; omega⟩
   ·have HS := Lib.hid (show amt ((bl s).take (k + 1)) = N from by rw [hstep]; unfold amtS; rw [if_neg hc])
    have t1 : decide ((N : Int) < 1099511627776) = false := decide_eq_false (by omega)
    clear hget hdB hN hNl hstep hB hD hc HD hk a3 a4 a5
    go_wp2
    exact ⟨⟨k + 1, by go_num, by omega, by rw [HS.out], trivial⟩, by simp [intOf]; omega⟩
  ·have HZ := Lib.hid (show (bl s).take k = bl s from List.take_of_length_le (by rw [bl_size]; omega))
   go_wp2
   go_ret
   exact ⟨by rw [HZ.out]; rfl, rfl⟩
def sgI (b : Bool) : Int := if b = true then -1 else 1
set_option maxRecDepth 100000 in
theorem conv_sg (b : Bool) : ∀ W : World, (convert 22 3 (.float .f64 (sgF b))).run Tryz.prog W = .ok (.int .i64 (sgI b)) W := by
 intro W
 cases b
 ·rfl
 ·rfl
theorem tail_sub {l : List Nat} : ∀ c ∈ l.tail, c ∈ l := fun _ h => List.mem_of_mem_tail h
theorem unsg_sub {l : List Nat} : ∀ c ∈ unsg l, c ∈ l := by
 intro c h
 unfold unsg at h
 split at h
 ·exact tail_sub c h
 ·exact h
theorem run_sub {l : List Nat} : ∀ c ∈ run10 l, c ∈ l := fun _ h => (List.takeWhile_sublist _).subset h
theorem aft_sub {l : List Nat} : ∀ c ∈ aft10 l, c ∈ l := fun _ h => (List.dropWhile_sublist _).subset h
theorem unsg_len (l : List Nat) : (unsg l).length ≤ l.length := by
 unfold unsg
 split
 ·rw [List.length_tail]; omega
 ·omega
theorem ldq_dg : ldq 10 = dg10 := funext ldq_ten
theorem str_ne {l : List Nat} (h : l ≠ []) : ¬ (strOf l).toList = [] ∧ (strOf l).toList.isEmpty = false := by
 have h1 : ¬ (strOf l).toList = [] := by
  rw [Lib.toList_data]
  unfold strOf
  simpa using h
 refine ⟨h1, ?_⟩
 cases hh : (strOf l).toList with
 | nil => exact absurd hh h1
 | cons => rfl
theorem cut_ten (l : List Nat) (w : World) (hl : ∀ c ∈ l, c < 256) (hs : l.length ≤ 4611686018427387903) :
  Ct 86 #[.string (strOf l), .int .i64 10] (.tuple #[.string (strOf (run10 l)), .string (strOf (aft10 l))]) w := by
 have h := tcutDigits_any (strOf l) 10 w (by omega) (by rw [strOf_size]; exact hs)
 rw [bl_strOf hl, ldq_dg] at h
 exact h
theorem expB_no {l : List Nat} (h : ¬ (l.head? = some 101 ∨ l.head? = some 69)) : expB l = false := by
 unfold expB
 have h1 : (l.head? == some 101) = false := beq_eq_false_iff_ne.2 (fun e => h (Or.inl e))
 have h2 : (l.head? == some 69) = false := beq_eq_false_iff_ne.2 (fun e => h (Or.inr e))
 rw [h1, h2]; rfl
theorem expB_is {l : List Nat} (h : l.head? = some 101 ∨ l.head? = some 69) : expB l = !(run10 (unsg l.tail)).isEmpty := by
 unfold expB
 have h1 : (l.head? == some 101 || l.head? == some 69) = true := by
  rcases h with h | h
  ·rw [h]; rfl
  ·rw [h]; rfl
 rw [h1, Bool.true_and]
def ExpQ (l : List Nat) (w : World) (e : Ending) (w' : World) : Prop :=
 e = .returned (.tuple #[.int .i64 (exV l), .string (strOf (if expB l = true then expR l else [])), .bool (expB l)]) ∧ Below w.heap.size w w'
theorem ExpQ.no {l : List Nat} {w w' : World} (h : expB l = false) (hb : Below w.heap.size w w') : ExpQ l w (.returned (.tuple #[.int .i64 0, .string ⟨#[]⟩, .bool false])) w' := by
 refine ⟨?_, hb⟩
 unfold exV
 rw [h, if_neg (by simp), if_neg (by simp)]
 rfl
theorem ExpQ.yes {l : List Nat} {w w' : World} (h : expB l = true) (hb : Below w.heap.size w w') : ExpQ l w (.returned (.tuple #[.int .i64 (expV l), .string (strOf (expR l)), .bool true])) w' := by
 refine ⟨?_, hb⟩
 unfold exV
 rw [h, if_pos rfl, if_pos rfl]
set_option maxRecDepth 100000 in
set_option maxHeartbeats 1000000 in
theorem tcutExponent_any (s : ByteArray) (w : World) (hs : s.size ≤ 4611686018427387903) :
  Cp 132 #[.string s] w (ExpQ (bl s) w) := by
 have h2 : (s.size : Int) ≤ 4611686018427387903 := by omega
 by_cases h0 : s.size = 0
 ·have hnil : bl s = [] := List.eq_nil_of_length_eq_zero (by rw [bl_size]; exact h0)
  have hE := ExpQ.no (l := bl s) (expB_no (by rw [hnil]; simp)) (Below.refl w.heap.size w)
  have hz : s = ⟨#[]⟩ := by
   have := strOf_bl s
   rw [hnil] at this
   exact this.symm
  clear hnil
  subst hz
  have HE := Lib.hid hE
  clear hE h0 hs h2
  go_enter Tryz.func132, Tryz.ntmps132
  go_wp2
  refine bodyPost_ret (results_tmp3 rfl _ _ _) rfl ?_
  exact HE.out
 ·have hp : 0 < s.size := by omega
  obtain ⟨B, hB⟩ : ∃ B : Nat, (s[0]'hp).toNat = B := ⟨_, rfl⟩
  have hhd : (bl s).head? = some B := by rw [List.head?_eq_getElem?, bl_get s 0 hp, hB]
  have a2 : (0 : Int) < (s.size : Int) := by omega
  have a3 : ((s[0]'hp).toNat : Int) = (B : Int) := by rw [hB]
  have hne := str_ne (l := bl s) (by intro e; rw [e] at hhd; cases hhd)
  rw [strOf_bl] at hne
  obtain ⟨n1, n2⟩ := hne
  by_cases hc : B = 101 ∨ B = 69
  ·have hx := expB_is (l := bl s) (by rw [hhd]; rcases hc with h | h <;> simp [h])
   have e1 : bl (s.extract 1 s.size) = (bl s).tail := by rw [bl_drop]; exact List.drop_one
   have C1 := Lib.hid (tcutSign_any (s.extract 1 s.size) w)
   rw [e1] at C1
   obtain ⟨U, hU⟩ : ∃ U, unsg (bl s).tail = U := ⟨_, rfl⟩
   rw [hU] at C1 hx
   have hU2 : ∀ c ∈ U, c < 256 := fun c h => bl_lt s c (tail_sub c (unsg_sub c (by rw [hU]; exact h)))
   have hU3 : U.length ≤ 4611686018427387903 := by
    have k1 := unsg_len (bl s).tail
    rw [hU, List.length_tail, bl_size] at k1
    omega
   have C2 := Lib.hid (cut_ten U w hU2 hU3)
   have hR := run10_all U
   have hRl := run_len U
   have hR2 : ∀ c ∈ run10 U, c < 256 := fun c h => hU2 c (run_sub c h)
   have hV : expV (bl s) = if sgnB (bl s).tail = true then -(amt (run10 U) : Int) else (amt (run10 U) : Int) := by unfold expV; rw [hU]
   have hT : expR (bl s) = aft10 U := by unfold expR; rw [hU]
   obtain ⟨b, hb⟩ : ∃ b, sgnB (bl s).tail = b := ⟨_, rfl⟩
   rw [hb] at C1 hV
   obtain ⟨R, hRR⟩ : ∃ R, run10 U = R := ⟨_, rfl⟩
   rw [hRR] at C2 hR hRl hR2 hV hx
   have m1 : ∀ W, Cq 84 #[.string (s.extract 1 s.size)] (.tuple #[.float .f64 (sgF b : Nat), .string (strOf U)]) W := by
    intro W
    have := tcutSign_any (s.extract 1 s.size) W
    rw [e1, hU, hb] at this
    exact this
   by_cases hR0 : R = []
   ·have HE := Lib.hid (fun w' => ExpQ.no (l := bl s) (w := w) (w' := w') (by rw [hx, hR0]; rfl))
    rw [hR0, strOf_nil] at C2
    rw [show ByteArray.empty = (⟨#[]⟩ : ByteArray) from rfl] at C2
    obtain ⟨u, hu⟩ : ∃ u, strOf U = u := ⟨_, rfl⟩
    obtain ⟨v, hv⟩ : ∃ v, strOf (aft10 U) = v := ⟨_, rfl⟩
    rw [hu] at C1 C2
    rw [hv] at C2
    clear hx e1 hU hU2 hU3 hR hRl hR2 hV hT hb hRR hR0 hu hv hhd hB hs m1 h0
    have t1 : ((B : Int) != 101 && (B : Int) != 69) = false := by rcases hc with rfl | rfl <;> rfl
    have t2 : (B = 101 ∧ ((B : Int) != 101) = false) ∨ (((B : Int) != 101) = true ∧ ((B : Int) != 69) = false) := by rcases hc with rfl | rfl <;> simp
    clear hc
    rcases t2 with ⟨_, t2⟩ | ⟨t2, t3⟩
    ·go_enter Tryz.func132, Tryz.ntmps132
     go_wp2_with fail
     refine C1.out.mono ?_
     rintro e w' ⟨rfl, rfl⟩
     go_wp2_with fail
     refine C2.out.mono ?_
     rintro e w' ⟨rfl, hbw⟩
     go_wp2
     refine bodyPost_ret (results_tmp3 rfl _ _ _) rfl ?_
     exact HE.out _ hbw
    ·go_enter Tryz.func132, Tryz.ntmps132
     go_wp2_with fail
     refine C1.out.mono ?_
     rintro e w' ⟨rfl, rfl⟩
     go_wp2_with fail
     refine C2.out.mono ?_
     rintro e w' ⟨rfl, hbw⟩
     go_wp2
     refine bodyPost_ret (results_tmp3 rfl _ _ _) rfl ?_
     exact HE.out _ hbw
   ·have HE := Lib.hid (fun w' => ExpQ.yes (l := bl s) (w := w) (w' := w') (by rw [hx]; cases R with | nil => exact absurd rfl hR0 | cons => rfl))
    obtain ⟨r1, r2⟩ := str_ne hR0
    have C3 := Lib.hid (fun W => tamount_any (strOf R) W (by rw [strOf_size]; omega) (by rw [bl_strOf hR2]; exact hR))
    rw [bl_strOf hR2] at C3
    have hal := amt_lt R hR
    obtain ⟨N, hN⟩ : ∃ N, amt R = N := ⟨_, rfl⟩
    rw [hN] at C3 hal hV
    have K1 := Lib.hid (conv_sg b)
    have a5 : IntKind.i64.wrap (sgI b * (N : Int)) = expV (bl s) := by
     rw [hV]
     cases b
     ·rw [if_neg (by simp), show sgI false = 1 from rfl, IntWalk.i64_in _ (by omega)]; omega
     ·rw [if_pos rfl, show sgI true = -1 from rfl, IntWalk.i64_in _ (by omega)]; omega
    obtain ⟨X, hX⟩ : ∃ X, expV (bl s) = X := ⟨_, rfl⟩
    rw [hX] at HE a5
    rw [hT] at HE
    obtain ⟨u, hu⟩ : ∃ u, strOf U = u := ⟨_, rfl⟩
    obtain ⟨v, hv⟩ : ∃ v, strOf (aft10 U) = v := ⟨_, rfl⟩
    obtain ⟨f, hf⟩ : ∃ f, strOf R = f := ⟨_, rfl⟩
    rw [hu] at C1 C2
    rw [hv] at C2 HE
    rw [hf] at C2 C3 r1 r2
    have K1 := K1.out
    have t2 : (B = 101 ∧ ((B : Int) != 101) = false) ∨ (((B : Int) != 101) = true ∧ ((B : Int) != 69) = false) := by rcases hc with rfl | rfl <;> simp
    clear hx e1 hU hU2 hU3 hR hRl hR2 hV hT hb hRR hR0 hu hv hf hhd hB hs m1 h0 hc hN hal hX
    rcases t2 with ⟨_, t2⟩ | ⟨t2, t3⟩
    ·go_enter Tryz.func132, Tryz.ntmps132
     go_wp2_with fail
     refine C1.out.mono ?_
     rintro e w' ⟨rfl, rfl⟩
     go_wp2_with fail
     refine C2.out.mono ?_
     rintro e w' ⟨rfl, hbw⟩
     go_wp2_with fail
     refine (C3.out _).mono ?_
     rintro e w' ⟨rfl, rfl⟩
     go_wp2
     refine bodyPost_ret (results_tmp3 rfl _ _ _) rfl ?_
     exact HE.out _ hbw
    ·go_enter Tryz.func132, Tryz.ntmps132
     go_wp2_with fail
     refine C1.out.mono ?_
     rintro e w' ⟨rfl, rfl⟩
     go_wp2_with fail
     refine C2.out.mono ?_
     rintro e w' ⟨rfl, hbw⟩
     go_wp2_with fail
     refine (C3.out _).mono ?_
     rintro e w' ⟨rfl, rfl⟩
     go_wp2
     refine bodyPost_ret (results_tmp3 rfl _ _ _) rfl ?_
     exact HE.out _ hbw
  ·have HE := Lib.hid (ExpQ.no (l := bl s) (expB_no (by rw [hhd]; rintro (h | h) <;> exact hc (by simp at h; omega))) (Below.refl w.heap.size w))
   have t1 : ((B : Int) != 101) = true := by rw [bne_iff_ne]; omega
   have t2 : ((B : Int) != 69) = true := by rw [bne_iff_ne]; omega
   clear hhd hB hs hc h0
   go_enter Tryz.func132, Tryz.ntmps132
   go_wp2
   refine bodyPost_ret (results_tmp3 rfl _ _ _) rfl ?_
   exact HE.out

end Go.Proofs.YtfcpkdafkmohkaaGreatDoor
namespace Go.Proofs.YtfcpkdafkmohkaaGreatDoor
open Go.RowKit
theorem expq_no {l : List Nat} {w w' : World} {e : Ending} (h : ExpQ l w e w') (hb : expB l = false) : e = .returned (.tuple #[.int .i64 0, .string ⟨#[]⟩, .bool false]) ∧ Below w.heap.size w w' := by
 obtain ⟨h1, h2⟩ := h
 refine ⟨?_, h2⟩
 rw [h1]
 unfold exV
 rw [hb, if_neg (by simp), if_neg (by simp)]
 rfl
theorem expq_yes {l : List Nat} {w w' : World} {e : Ending} (h : ExpQ l w e w') (hb : expB l = true) : e = .returned (.tuple #[.int .i64 (expV l), .string (strOf (expR l)), .bool true]) ∧ Below w.heap.size w w' := by
 obtain ⟨h1, h2⟩ := h
 refine ⟨?_, h2⟩
 rw [h1]
 unfold exV
 rw [hb, if_pos rfl, if_pos rfl]
def DecQ (l : List Nat) (w : World) (e : Ending) (w' : World) : Prop :=
 e = .returned (.tuple #[.agg #[.string (strOf (dW l)), .string (strOf (dF l)), .int .i64 (dX l)], .string (strOf (dR l)), .bool true]) ∧ Below w.heap.size w w'
theorem tcutDecimal_yes (s : ByteArray) (w : World) (hs : s.size ≤ 4611686018427387903) (h : dB (bl s) = true) : Cp 68 #[.string s] w (DecQ (bl s) w) := by
 obtain ⟨l, hl⟩ : ∃ l, bl s = l := ⟨_, rfl⟩
 have hlt := bl_lt s
 have hlen := bl_size s
 rw [hl] at h hlt hlen ⊢
 have hA : ∀ c ∈ aft10 l, c < 256 := fun c hc => hlt c (aft_sub c hc)
 have hAl := run_len l
 have C1 := fun W => tcutDigits_any s 10 W (by omega) hs
 rw [hl, ldq_dg] at C1
 have C2 := fun W => cut_one (strOf (aft10 l)) 46 W
 rw [bl_strOf hA] at C2
 have e2 : ((aft10 l).head? == some (46 : UInt8).toNat) = dotB (aft10 l) := rfl
 rw [e2] at C2
 have key : ∀ T : List Nat, (∀ c ∈ T, c < 256) → T.length ≤ 4611686018427387903 → ∀ W, Cp 132 #[.string (strOf T)] W (ExpQ T W) := by
  intro T h1 h2 W
  have := tcutExponent_any (strOf T) W (by rw [strOf_size]; exact h2)
  rw [bl_strOf h1] at this
  exact this
 have ne : ∀ R : List Nat, R ≠ [] → (strOf R).toList.isEmpty = false := fun R hR => (str_ne hR).2
 cases hd : dotB (aft10 l)
 ·rw [hd] at C2
  have hF : dF l = [] := by unfold dF; rw [hd, if_neg (by simp)]
  have hT : dT l = aft10 l := by unfold dT; rw [hd, if_neg (by simp)]
  have hW : dW l ≠ [] := by
   intro e
   unfold dB at h
   rw [hF, e] at h
   simp at h
  have C3 := key (aft10 l) hA (by omega)
  unfold DecQ
  have hX : dX l = exV (aft10 l) := by unfold dX; rw [hT]
  have hR : dR l = exR (aft10 l) := by unfold dR; rw [hT]
  rw [hF, hX, hR]
  unfold exV exR
  cases hb : expB (aft10 l)
  ·rw [if_neg (by simp), if_neg (by simp)]
   exact tcutDecimal_a_false s w _ _ _ _ 0 (ne _ hW) (Lib.hid C1) (Lib.hid C2) (Lib.hid (fun W => (C3 W).mono fun e w' x => expq_no x hb))
  ·rw [if_pos rfl, if_pos rfl]
   exact tcutDecimal_a_true s w _ _ _ _ _ (ne _ hW) (Lib.hid C1) (Lib.hid C2) (Lib.hid (fun W => (C3 W).mono fun e w' x => expq_yes x hb))
 ·rw [hd] at C2
  have hh : (aft10 l).head? = some (46 : UInt8).toNat := beq_iff_eq.1 hd
  rw [if_pos hh] at C2
  have hF : dF l = run10 (aft10 l).tail := by unfold dF; rw [hd, if_pos rfl]
  have hT : dT l = aft10 (aft10 l).tail := by unfold dT; rw [hd, if_pos rfl]
  have hA2 : ∀ c ∈ (aft10 l).tail, c < 256 := fun c hc => hA c (tail_sub c hc)
  have hl2 : (aft10 l).tail.length ≤ 4611686018427387903 := by rw [List.length_tail]; omega
  have C4 := fun W => cut_ten (aft10 l).tail W hA2 hl2
  have hl3 := run_len (aft10 l).tail
  have C3 := key (aft10 (aft10 l).tail) (fun c hc => hA2 c (aft_sub c hc)) (by omega)
  unfold DecQ
  have hX : dX l = exV (aft10 (aft10 l).tail) := by unfold dX; rw [hT]
  have hR : dR l = exR (aft10 (aft10 l).tail) := by unfold dR; rw [hT]
  rw [hF, hX, hR]
  unfold exV exR
  by_cases hW : run10 l = []
  ·have hF2 : run10 (aft10 l).tail ≠ [] := by
    intro e
    unfold dB dW at h
    rw [hF, e, hW] at h
    simp at h
   have C1 : ∀ W, Ct 86 #[.string s, .int .i64 10] (.tuple #[.string ⟨#[]⟩, .string (strOf (aft10 l))]) W := by
    have C1' : ∀ W, Ct 86 #[.string s, .int .i64 10] (.tuple #[.string (strOf (run10 l)), .string (strOf (aft10 l))]) W := C1
    rw [hW] at C1'
    exact C1'
   unfold dW
   rw [hW]
   cases hb : expB (aft10 (aft10 l).tail)
   ·rw [if_neg (by simp), if_neg (by simp)]
    exact tcutDecimal_b1_false s w _ _ _ _ ⟨#[]⟩ 0 (ne _ hF2) (Lib.hid C1) (Lib.hid C2) (Lib.hid C4) (Lib.hid (fun W => (C3 W).mono fun e w' x => expq_no x hb))
   ·rw [if_pos rfl, if_pos rfl]
    exact tcutDecimal_b1_true s w _ _ _ _ _ _ (ne _ hF2) (Lib.hid C1) (Lib.hid C2) (Lib.hid C4) (Lib.hid (fun W => (C3 W).mono fun e w' x => expq_yes x hb))
  ·cases hb : expB (aft10 (aft10 l).tail)
   ·rw [if_neg (by simp), if_neg (by simp)]
    exact tcutDecimal_b0_false s w _ _ _ _ _ ⟨#[]⟩ 0 (ne _ hW) (Lib.hid C1) (Lib.hid C2) (Lib.hid C4) (Lib.hid (fun W => (C3 W).mono fun e w' x => expq_no x hb))
   ·rw [if_pos rfl, if_pos rfl]
    exact tcutDecimal_b0_true s w _ _ _ _ _ _ _ (ne _ hW) (Lib.hid C1) (Lib.hid C2) (Lib.hid C4) (Lib.hid (fun W => (C3 W).mono fun e w' x => expq_yes x hb))
theorem tcutDecimal_no (s : ByteArray) (w : World) (hs : s.size ≤ 4611686018427387903) (h : dB (bl s) = false) :
  Cp 68 #[.string s] w (fun e w' => e = .returned (.tuple #[.agg #[.string ⟨#[]⟩, .string ⟨#[]⟩, .int .i64 0], .string ⟨#[]⟩, .bool false]) ∧ Below w.heap.size w w') := by
 obtain ⟨l, hl⟩ : ∃ l, bl s = l := ⟨_, rfl⟩
 have hlt := bl_lt s
 have hlen := bl_size s
 rw [hl] at h hlt hlen
 have hA : ∀ c ∈ aft10 l, c < 256 := fun c hc => hlt c (aft_sub c hc)
 have hAl := run_len l
 have C1 : ∀ W, Ct 86 #[.string s, .int .i64 10] (.tuple #[.string (strOf (run10 l)), .string (strOf (aft10 l))]) W := by
  intro W
  have := tcutDigits_any s 10 W (by omega) hs
  rw [hl, ldq_dg] at this
  exact this
 have C2 := fun W => cut_one (strOf (aft10 l)) 46 W
 rw [bl_strOf hA] at C2
 have e2 : ((aft10 l).head? == some (46 : UInt8).toNat) = dotB (aft10 l) := rfl
 rw [e2] at C2
 unfold dB dW at h
 have hW : run10 l = [] := by
  cases hr : run10 l with
  | nil => rfl
  | cons => rw [hr] at h; simp at h
 have hF : dF l = [] := by
  cases hr : dF l with
  | nil => rfl
  | cons => rw [hr, hW] at h; simp at h
 rw [hW] at C1
 cases hd : dotB (aft10 l)
 ·rw [hd] at C2
  have hne : ¬ (aft10 l).head? = some (46 : UInt8).toNat := by
   intro e
   unfold dotB at hd
   rw [e] at hd
   simp at hd
  rw [if_neg hne] at C2
  exact tcutDecimal_none s w _ (Lib.hid C1) (Lib.hid C2)
 ·rw [hd] at C2
  have hh : (aft10 l).head? = some (46 : UInt8).toNat := beq_iff_eq.1 hd
  rw [if_pos hh] at C2
  have hA2 : ∀ c ∈ (aft10 l).tail, c < 256 := fun c hc => hA c (tail_sub c hc)
  have hl2 : (aft10 l).tail.length ≤ 4611686018427387903 := by rw [List.length_tail]; omega
  have C4 := fun W => cut_ten (aft10 l).tail W hA2 hl2
  have hF2 : run10 (aft10 l).tail = [] := by
   unfold dF at hF
   rw [hd, if_pos rfl] at hF
   exact hF
  rw [hF2] at C4
  exact tcutDecimal_dot s w _ _ _ (Lib.hid C1) (Lib.hid C2) (Lib.hid C4)

end Go.Proofs.YtfcpkdafkmohkaaGreatDoor
namespace Go.Proofs.YtfcpkdafkmohkaaGreatDoor
open Go.RowKit
set_option maxRecDepth 100000 in
theorem traised_any {w : World} {A : Option Addr} {n c m : Nat} (t : Int) (hA : NV w A n c m) (hm : bln m ≤ 6000) (ht1 : -2000 ≤ t) (ht : t ≤ 2000) :
  Cp 185 #[.slice A n c, .int .i64 t] w (NRet (m * 5 ^ t.toNat) w) := by
 have hp := bln_five t.toNat
 obtain ⟨k, hk⟩ : ∃ k, t.toNat = k := ⟨_, rfl⟩
 rw [hk] at hp ⊢
 have C1 := Lib.hid (fun W => npow 5 k W (by omega) (by omega) (by omega))
 have C2 := Lib.hid (fun W C k2 d (h : NV W C k2 d (5 ^ k)) (g : NV W A n c m) => nmul g h (by omega) (by omega))
 have H := Lib.hid hA
 have e0 : max t 0 = (k : Int) := by omega
 clear hA hp hk hm ht1 ht
 go_enter Tryz.func185, Tryz.ntmps185
 go_wp2_with fail
 refine (C1.out _).mono ?_
 rintro e w1 ⟨A1, n1, c1, rfl, g1, b1⟩
 have G1 := Lib.hid g1
 have G0 := Lib.hid (H.out.step b1)
 have B1 := Lib.hid b1
 clear g1 b1
 go_wp2_with fail
 refine (C2.out _ _ _ _ G1.out G0.out).mono ?_
 rintro e w2 ⟨A2, n2, c2, rfl, g2, b2⟩
 have G2 := Lib.hid g2
 have B2 := Lib.hid b2
 clear g2 b2
 go_wp2
 go_ret
 exact ⟨A2, n2, c2, rfl, G2.out, below_le B1.out B2.out⟩
def QRet (a b : Nat) (w : World) (e : Ending) (w' : World) : Prop := ∃ A n c, e = .returned (.tuple #[.slice A n c, .bool (decide (a % b = 0))]) ∧ NV w' A n c (a / b) ∧ Below w.heap.size w w'
theorem len_zero {v n : Nat} (h : (wds v).length = n) : ((n : Int) == 0) = decide (v = 0) := by
 by_cases h0 : v = 0
 ·rw [h0] at h
  have : n = 0 := by rw [← h]; rfl
  rw [this, h0]; rfl
 ·have h1 : (wds v) ≠ [] := by
   intro e
   have := wds_val v
   rw [e] at this
   exact h0 this.symm
  have h2 := List.length_pos_iff.2 h1
  rw [decide_eq_false h0, beq_eq_false_iff_ne]
  omega
set_option maxRecDepth 100000 in
set_option maxHeartbeats 1000000 in
theorem tratio_any {w : World} {A C : Option Addr} {n c m d a b : Nat} (t : Int) (hA : NV w A n c a) (hC : NV w C m d b) (ha : bln a ≤ 6000) (hb : bln b ≤ 6000) (h0 : 0 < b) (ht1 : -8000 ≤ t) (ht : t ≤ 8000) :
  Cp 109 #[.slice A n c, .slice C m d, .int .i64 t] w (QRet (a * 2 ^ t.toNat) (b * 2 ^ (-t).toNat) w) := by
 have hp1 := bln_pow2 t.toNat
 have hp2 := bln_pow2 (-t).toNat
 have hm1 := bln_mul a (2 ^ t.toNat)
 have hm2 := bln_mul b (2 ^ (-t).toNat)
 have h00 : 0 < b * 2 ^ (-t).toNat := Nat.mul_pos h0 (two_pos _)
 obtain ⟨x, hx⟩ : ∃ x, t.toNat = x := ⟨_, rfl⟩
 obtain ⟨y, hy⟩ : ∃ y, (-t).toNat = y := ⟨_, rfl⟩
 rw [hx] at hp1 hm1 ⊢
 rw [hy] at hp2 hm2 h00 ⊢
 have C1 := Lib.hid (fun W (h : NV W A n c a) => nshl h x (by omega))
 have C2 := Lib.hid (fun W (h : NV W C m d b) => nshl h y (by omega))
 obtain ⟨P, hP⟩ : ∃ P, a * 2 ^ x = P := ⟨_, rfl⟩
 obtain ⟨Q, hQ⟩ : ∃ Q, b * 2 ^ y = Q := ⟨_, rfl⟩
 rw [hP] at C1 hm1 ⊢
 rw [hQ] at C2 hm2 h00 ⊢
 have C3 := Lib.hid (fun W A1 n1 c1 A2 n2 c2 (h : NV W A1 n1 c1 P) (g : NV W A2 n2 c2 Q) => ndiv h g (by omega) (by omega) h00)
 have HA := Lib.hid hA
 have HC := Lib.hid hC
 have e0 : max t 0 = (x : Int) := by omega
 have e1 : max (-t) 0 = (y : Int) := by omega
 have e2 : IntKind.i64.wrap (-t) = -t := IntWalk.i64_in _ (by omega)
 clear hA hC ha hb h0 ht1 ht hp1 hp2 hm1 hm2 hx hy hP hQ
 go_enter Tryz.func109, Tryz.ntmps109
 go_wp2_with fail
 refine (C1.out _ HA.out).mono ?_
 rintro e w1 ⟨A1, n1, c1, rfl, g1, b1⟩
 have G1 := Lib.hid g1
 have GC := Lib.hid (HC.out.step b1)
 have B1 := Lib.hid b1
 clear g1 b1
 go_wp2_with fail
 refine (C2.out _ GC.out).mono ?_
 rintro e w2 ⟨A2, n2, c2, rfl, g2, b2⟩
 have G2 := Lib.hid g2
 have G1' := Lib.hid (G1.out.step b2)
 have B2 := Lib.hid (below_le B1.out b2)
 clear g2 b2
 go_wp2_with fail
 refine (C3.out _ _ _ _ _ _ _ G1'.out G2.out).mono ?_
 rintro e w3 ⟨A3, n3, c3, A4, n4, c4, rfl, g3, g4, b3⟩
 have G3 := Lib.hid g3
 have B3 := Lib.hid (below_le B2.out b3)
 have HZ := Lib.hid (len_zero g4.len)
 clear g3 g4 b3
 go_wp2
 go_ret2
 exact ⟨A3, n3, c3, by rw [← HZ.out]; rfl, G3.out, B3.out⟩

end Go.Proofs.YtfcpkdafkmohkaaGreatDoor
namespace Go.Proofs.YtfcpkdafkmohkaaGreatDoor
open Go.RowKit
set_option maxRecDepth 100000 in
set_option maxHeartbeats 1000000 in
theorem tword_any {w : World} {A : Option Addr} {n c v : Nat} (hA : NV w A n c v) (hv : v < 18446744073709551616) :
  Cq 159 #[.slice A n c] (.int .u64 v) w := by
 have hn : n ≤ 2 := by
  rw [← hA.len]
  exact wds_len_lt (by rw [show (4294967296 : Nat) ^ 2 = 18446744073709551616 from by decide]; exact hv)
 have hL := hA.len
 have hws := wds_ws v
 by_cases hn0 : n = 0
 ·subst hn0
  have hv0 : v = 0 := by
   have h1 := wds_val v
   rw [List.eq_nil_of_length_eq_zero hL] at h1
   exact h1.symm
  subst hv0
  clear hL hws hv hA hn
  go_enter Tryz.func159, Tryz.ntmps159
  go_wp2
  go_loopw [3, 8] (fun a i wr => a = .int .u64 0 ∧ i = .int .i64 0 ∧ w = wr) (fun _ _ _ => 0)
  case atStart => exact ⟨rfl, rfl, rfl⟩
  case round =>
   obtain ⟨rfl, rfl, rfl⟩ := hrel
   go_wp2
   go_ret
   exact ⟨rfl, rfl⟩
 ·obtain ⟨b, off, rfl, _, hc⟩ := hA.row.2 (by omega)
  obtain ⟨x, hx⟩ : ∃ x, (wds v).getD 0 0 = x := ⟨_, rfl⟩
  obtain ⟨y, hy⟩ : ∃ y, (wds v).getD 1 0 = y := ⟨_, rfl⟩
  have hxl : x < 4294967296 := by rw [← hx]; exact hws.getD 0
  have hyl : y < 4294967296 := by rw [← hy]; exact hws.getD 1
  have hV1 : n = 1 → v = x := by
   intro h1
   have h2 := wds_val v
   rw [← val_take_end (k := 1) (by omega), val_take_next, hx] at h2
   simp [val] at h2
   exact h2.symm
  have hV2 : n = 2 → v = x + 4294967296 * y := by
   intro h1
   have h2 := wds_val v
   rw [← val_take_end (k := 2) (by omega), val_take_next, val_take_next, hx, hy] at h2
   simp [val] at h2
   exact h2.symm
  have c0 : w.cell? ⟨b, off, none⟩ = some (.int .u32 (x : Int)) := by
   rw [← hx]
   exact hc 0 _ (getD_some (by omega))
  have hx0 : bits BinOp.or IntKind.u64 0 (x : Int) = (x : Int) := by
   have := or_u64 0 x (by omega) (by omega)
   rw [Nat.zero_or] at this
   exact this
  have k1 : IntKind.u64.wrap (x : Int) = (x : Int) := IntWalk.u64_in _ (by omega)
  rcases (show n = 1 ∨ n = 2 by omega) with rfl | rfl
  ·have hv1 := hV1 rfl
   subst hv1
   clear hV1 hV2 hx hy hyl hws hL hA hn hn0 hc
   go_enter Tryz.func159, Tryz.ntmps159
   go_wp2
   go_loopw [3, 8] (fun a i wr => ((a = .int .u64 0 ∧ i = .int .i64 0) ∨ (a = .int .u64 (v : Int) ∧ i = .int .i64 1)) ∧ w = wr) (fun _ i _ => 1 - (intOf i).toNat)
   case atStart => exact ⟨Or.inl ⟨rfl, rfl⟩, rfl⟩
   case round =>
    obtain ⟨⟨rfl, rfl⟩ | ⟨rfl, rfl⟩, rfl⟩ := hrel
    ·go_wp2
     exact ⟨⟨Or.inr ⟨rfl, rfl⟩, trivial⟩, by simp [intOf]⟩
    ·go_wp2
     go_ret
     exact ⟨rfl, rfl⟩
  ·have hv2 := hV2 rfl
   have c1 : w.cell? ⟨b, off + 1, none⟩ = some (.int .u32 (y : Int)) := by
    rw [← hy]
    exact hc 1 _ (getD_some (by omega))
   have k2 : IntKind.u64.wrap (y : Int) = (y : Int) := IntWalk.u64_in _ (by omega)
   have k3 : IntKind.u64.wrap ((y : Int) * 4294967296) = (y : Int) * 4294967296 := IntWalk.u64_in _ (by omega)
   have hy0 : bits BinOp.or IntKind.u64 (x : Int) ((y : Int) * 4294967296) = (v : Int) := by
    have h1 := or_u64 x (y * 4294967296) (by omega) (by omega)
    have h2 : ((y * 4294967296 : Nat) : Int) = (y : Int) * 4294967296 := by omega
    rw [h2] at h1
    rw [h1, Nat.or_comm, two_word y x hxl, hv2, Nat.mul_comm y, Nat.add_comm]
   clear hV1 hV2 hx hy hws hL hA hn hn0 hc hv2 hxl hyl hv
   go_enter Tryz.func159, Tryz.ntmps159
   go_wp2
   go_loopw [3, 8] (fun a i wr => ((a = .int .u64 0 ∧ i = .int .i64 0) ∨ (a = .int .u64 (x : Int) ∧ i = .int .i64 1) ∨ (a = .int .u64 (v : Int) ∧ i = .int .i64 2)) ∧ w = wr) (fun _ i _ => 2 - (intOf i).toNat)
   case atStart => exact ⟨Or.inl ⟨rfl, rfl⟩, rfl⟩
   case round =>
    obtain ⟨⟨rfl, rfl⟩ | ⟨rfl, rfl⟩ | ⟨rfl, rfl⟩, rfl⟩ := hrel
    ·go_wp2
     exact ⟨⟨Or.inr (Or.inl ⟨rfl, rfl⟩), trivial⟩, by simp [intOf]⟩
    ·go_wp2
     exact ⟨⟨Or.inr (Or.inr ⟨rfl, rfl⟩), trivial⟩, by simp [intOf]⟩
    ·go_wp2
     go_ret
     exact ⟨rfl, rfl⟩

end Go.Proofs.YtfcpkdafkmohkaaGreatDoor
namespace Go.Proofs.YtfcpkdafkmohkaaGreatDoor
open Go.RowKit
theorem fmag_mono {r s : Nat} (h : fmag r ≤ fmag s) : r ≤ s := by
 rcases Nat.lt_or_ge s r with h1 | h1
 ·have := fmag_step h1
  omega
 ·exact h1
theorem Ld_make2 {E D : Nat} {e' : Int} (hE : E ≤ 9007199254740992) (hD : D = 0 ∨ 4503599627370496 ≤ E) (hD2 : D ≤ 8000) (he : e' = (D : Int) - 1074) (w : World) : Cq 206 #[.float .f64 (fl E), .int .i64 e'] (.float .f64 (min (D * 4503599627370496 + E) 9218868437227405312)) w := by
 rcases Nat.lt_or_ge 2045 D with h | h
 ·obtain ⟨K, hK⟩ : ∃ K : Nat, K = 1074 := ⟨_, rfl⟩
  obtain ⟨y1, y2⟩ := fl_upto hE hK
  have hE2 : 4503599627370496 ≤ E := hD.resolve_left (by omega)
  have e1 := fmag_make 4503599627370496 K (by omega) (by omega)
  have h3 : K * 4503599627370496 + 4503599627370496 ≤ fl E := by
   refine fmag_mono ?_
   rw [e1, y2]
   exact Nat.mul_le_mul_right _ hE2
  have h4 := ldexp_any (fl E) (D - 1074) w (by omega) y1 (by omega)
  have h5 : scl (fl E) (D - 1074) = 9218868437227405312 := by
   unfold scl
   rw [if_neg]
   have : K + 1 ≤ fl E / 4503599627370496 := by
    rw [Nat.le_div_iff_mul_le (by omega)]
    omega
   omega
  rw [h5] at h4
  rw [show e' = ((D - 1074 : Nat) : Int) by omega, Nat.min_eq_right (by omega)]
  exact h4
 ·exact Ld_make hE hD h he w
set_option maxRecDepth 100000 in
set_option maxHeartbeats 1000000 in
theorem trounded_a (n d L q H P r s E F : Nat) (two X : Int) (w : World) (hnb : n < 18446744073709551616) (hL : Lib.bitLen n = L) (hd0 : 1 ≤ d) (hd3 : d ≤ 10) (k1 : IntKind.i64.wrap (-1074 - two) = -1074 - two) (k2 : IntKind.i64.wrap ((L : Int) - 53) = (L : Int) - 53) (hd : max ((L : Int) - 53) (-1074 - two) = (d : Int))
  (q1 : (n : Int) / 2 ^ d = (q : Int)) (q2 : IntKind.u64.wrap (2 ^ d) = (P : Int)) (q3 : IntKind.u64.wrap ((P : Int) - 1) = (P : Int) - 1) (q4 : IntKind.u64.wrap (2 ^ (d - 1)) = (H : Int)) (q5 : bits BinOp.and IntKind.u64 (n : Int) ((P : Int) - 1) = (r : Int)) (q6 : bits BinOp.and IntKind.u64 (q : Int) 1 = (s : Int)) (q7 : IntKind.u64.wrap ((q : Int) + 1) = (q : Int) + 1) (q8 : wrap64 (two + (d : Int)) = X)
  (t1 : decide (H < r) = true) (hE : (q : Int) + 1 = (E : Int))
  (C2 : Hid (∀ W, Cq 206 #[.float .f64 (floatOfInt .f64 (E : Int)), .int .i64 X] (.float .f64 F) W)) :
  Ct 199 #[.int .u64 n, .int .i64 two] (.float .f64 F) w := by
 have C1 := Lib.hid (fun W => (Tryz.bits_Len64 (n : Int) W (by omega) (by omega)).mono fun e w' h => And.intro h.1 h.2.symm)
 rw [Int.toNat_natCast, hL] at C1
 have k3 : (0 : Int) ≤ (d : Int) := by omega
 have k4 : (0 : Int) ≤ (d : Int) - 1 := by omega
 rw [← hE] at C2
 have Q1 := Lib.hid q1
 have Q2 := Lib.hid q2
 have Q3 := Lib.hid q3
 have Q4 := Lib.hid q4
 have Q5 := Lib.hid q5
 have Q6 := Lib.hid q6
 have Q7 := Lib.hid q7
 have Q8 := Lib.hid q8
 have T1 := Lib.hid t1
 clear t1 hL hnb hE q1 q2 q3 q4 q5 q6 q7 q8
 go_enter Tryz.func199, Tryz.ntmps199
 go_wp2_with fail
 refine (C1.out _).mono ?_
 rintro e w' ⟨rfl, rfl⟩
 go_wp2
 go_quiet (fail)
 have q1 := Q1.out
 have q2 := Q2.out
 have q3 := Q3.out
 have q4 := Q4.out
 have q5 := Q5.out
 have q6 := Q6.out
 have q7 := Q7.out
 have q8 := Q8.out
 have t1 := T1.out
 go_wp2_with fail
 refine (C2.out _).mono ?_
 rintro e w' ⟨rfl, rfl⟩
 go_wp2
 go_ret
 exact ⟨rfl, below_drewN' (Below.refl _ _) _⟩
set_option maxRecDepth 100000 in
set_option maxHeartbeats 1000000 in
theorem trounded_b (n d L q H P s E F : Nat) (two X : Int) (w : World) (hnb : n < 18446744073709551616) (hL : Lib.bitLen n = L) (hd0 : 1 ≤ d) (hd3 : d ≤ 10) (k1 : IntKind.i64.wrap (-1074 - two) = -1074 - two) (k2 : IntKind.i64.wrap ((L : Int) - 53) = (L : Int) - 53) (hd : max ((L : Int) - 53) (-1074 - two) = (d : Int))
  (q1 : (n : Int) / 2 ^ d = (q : Int)) (q2 : IntKind.u64.wrap (2 ^ d) = (P : Int)) (q3 : IntKind.u64.wrap ((P : Int) - 1) = (P : Int) - 1) (q4 : IntKind.u64.wrap (2 ^ (d - 1)) = (H : Int)) (q5 : bits BinOp.and IntKind.u64 (n : Int) ((P : Int) - 1) = (H : Int)) (q6 : bits BinOp.and IntKind.u64 (q : Int) 1 = (s : Int)) (q7 : IntKind.u64.wrap ((q : Int) + 1) = (q : Int) + 1) (q8 : wrap64 (two + (d : Int)) = X)
  (t3 : ((s : Int) == 1) = true) (hE : (q : Int) + 1 = (E : Int))
  (C2 : Hid (∀ W, Cq 206 #[.float .f64 (floatOfInt .f64 (E : Int)), .int .i64 X] (.float .f64 F) W)) :
  Ct 199 #[.int .u64 n, .int .i64 two] (.float .f64 F) w := by
 have C1 := Lib.hid (fun W => (Tryz.bits_Len64 (n : Int) W (by omega) (by omega)).mono fun e w' h => And.intro h.1 h.2.symm)
 rw [Int.toNat_natCast, hL] at C1
 have k3 : (0 : Int) ≤ (d : Int) := by omega
 have k4 : (0 : Int) ≤ (d : Int) - 1 := by omega
 rw [← hE] at C2
 have Q1 := Lib.hid q1
 have Q2 := Lib.hid q2
 have Q3 := Lib.hid q3
 have Q4 := Lib.hid q4
 have Q5 := Lib.hid q5
 have Q6 := Lib.hid q6
 have Q7 := Lib.hid q7
 have Q8 := Lib.hid q8
 have T3 := Lib.hid t3
 clear t3 hL hnb hE q1 q2 q3 q4 q5 q6 q7 q8
 go_enter Tryz.func199, Tryz.ntmps199
 go_wp2_with fail
 refine (C1.out _).mono ?_
 rintro e w' ⟨rfl, rfl⟩
 go_wp2
 go_quiet (fail)
 have q1 := Q1.out
 have q2 := Q2.out
 have q3 := Q3.out
 have q4 := Q4.out
 have q5 := Q5.out
 have q6 := Q6.out
 have q7 := Q7.out
 have q8 := Q8.out
 have t3 := T3.out
 go_wp2_with fail
 refine (C2.out _).mono ?_
 rintro e w' ⟨rfl, rfl⟩
 go_wp2
 go_ret
 exact ⟨rfl, below_drewN' (Below.refl _ _) _⟩
set_option maxRecDepth 100000 in
set_option maxHeartbeats 1000000 in
theorem trounded_c (n d L q H P s E F : Nat) (two X : Int) (w : World) (hnb : n < 18446744073709551616) (hL : Lib.bitLen n = L) (hd0 : 1 ≤ d) (hd3 : d ≤ 10) (k1 : IntKind.i64.wrap (-1074 - two) = -1074 - two) (k2 : IntKind.i64.wrap ((L : Int) - 53) = (L : Int) - 53) (hd : max ((L : Int) - 53) (-1074 - two) = (d : Int))
  (q1 : (n : Int) / 2 ^ d = (q : Int)) (q2 : IntKind.u64.wrap (2 ^ d) = (P : Int)) (q3 : IntKind.u64.wrap ((P : Int) - 1) = (P : Int) - 1) (q4 : IntKind.u64.wrap (2 ^ (d - 1)) = (H : Int)) (q5 : bits BinOp.and IntKind.u64 (n : Int) ((P : Int) - 1) = (H : Int)) (q6 : bits BinOp.and IntKind.u64 (q : Int) 1 = (s : Int)) (q7 : IntKind.u64.wrap ((q : Int) + 1) = (q : Int) + 1) (q8 : wrap64 (two + (d : Int)) = X)
  (t3 : ((s : Int) == 1) = false) (hE : (q : Int) = (E : Int))
  (C2 : Hid (∀ W, Cq 206 #[.float .f64 (floatOfInt .f64 (E : Int)), .int .i64 X] (.float .f64 F) W)) :
  Ct 199 #[.int .u64 n, .int .i64 two] (.float .f64 F) w := by
 have C1 := Lib.hid (fun W => (Tryz.bits_Len64 (n : Int) W (by omega) (by omega)).mono fun e w' h => And.intro h.1 h.2.symm)
 rw [Int.toNat_natCast, hL] at C1
 have k3 : (0 : Int) ≤ (d : Int) := by omega
 have k4 : (0 : Int) ≤ (d : Int) - 1 := by omega
 rw [← hE] at C2
 have Q1 := Lib.hid q1
 have Q2 := Lib.hid q2
 have Q3 := Lib.hid q3
 have Q4 := Lib.hid q4
 have Q5 := Lib.hid q5
 have Q6 := Lib.hid q6
 have Q7 := Lib.hid q7
 have Q8 := Lib.hid q8
 have T3 := Lib.hid t3
 clear t3 hL hnb hE q1 q2 q3 q4 q5 q6 q7 q8
 go_enter Tryz.func199, Tryz.ntmps199
 go_wp2_with fail
 refine (C1.out _).mono ?_
 rintro e w' ⟨rfl, rfl⟩
 go_wp2
 go_quiet (fail)
 have q1 := Q1.out
 have q2 := Q2.out
 have q3 := Q3.out
 have q4 := Q4.out
 have q5 := Q5.out
 have q6 := Q6.out
 have q7 := Q7.out
 have q8 := Q8.out
 have t3 := T3.out
 go_wp2_with fail
 refine (C2.out _).mono ?_
 rintro e w' ⟨rfl, rfl⟩
 go_wp2
 go_ret
 exact ⟨rfl, below_drewN' (Below.refl _ _) _⟩
set_option maxRecDepth 100000 in
set_option maxHeartbeats 1000000 in
theorem trounded_d (n d L q H P r s E F : Nat) (two X : Int) (w : World) (hnb : n < 18446744073709551616) (hL : Lib.bitLen n = L) (hd0 : 1 ≤ d) (hd3 : d ≤ 10) (k1 : IntKind.i64.wrap (-1074 - two) = -1074 - two) (k2 : IntKind.i64.wrap ((L : Int) - 53) = (L : Int) - 53) (hd : max ((L : Int) - 53) (-1074 - two) = (d : Int))
  (q1 : (n : Int) / 2 ^ d = (q : Int)) (q2 : IntKind.u64.wrap (2 ^ d) = (P : Int)) (q3 : IntKind.u64.wrap ((P : Int) - 1) = (P : Int) - 1) (q4 : IntKind.u64.wrap (2 ^ (d - 1)) = (H : Int)) (q5 : bits BinOp.and IntKind.u64 (n : Int) ((P : Int) - 1) = (r : Int)) (q6 : bits BinOp.and IntKind.u64 (q : Int) 1 = (s : Int)) (q7 : IntKind.u64.wrap ((q : Int) + 1) = (q : Int) + 1) (q8 : wrap64 (two + (d : Int)) = X)
  (t1 : decide (H < r) = false) (t2 : ((r : Int) == (H : Int)) = false) (hE : (q : Int) = (E : Int))
  (C2 : Hid (∀ W, Cq 206 #[.float .f64 (floatOfInt .f64 (E : Int)), .int .i64 X] (.float .f64 F) W)) :
  Ct 199 #[.int .u64 n, .int .i64 two] (.float .f64 F) w := by
 have C1 := Lib.hid (fun W => (Tryz.bits_Len64 (n : Int) W (by omega) (by omega)).mono fun e w' h => And.intro h.1 h.2.symm)
 rw [Int.toNat_natCast, hL] at C1
 have k3 : (0 : Int) ≤ (d : Int) := by omega
 have k4 : (0 : Int) ≤ (d : Int) - 1 := by omega
 rw [← hE] at C2
 have Q1 := Lib.hid q1
 have Q2 := Lib.hid q2
 have Q3 := Lib.hid q3
 have Q4 := Lib.hid q4
 have Q5 := Lib.hid q5
 have Q6 := Lib.hid q6
 have Q7 := Lib.hid q7
 have Q8 := Lib.hid q8
 have T1 := Lib.hid t1
 have T2 := Lib.hid t2
 clear t1 t2 hL hnb hE q1 q2 q3 q4 q5 q6 q7 q8
 go_enter Tryz.func199, Tryz.ntmps199
 go_wp2_with fail
 refine (C1.out _).mono ?_
 rintro e w' ⟨rfl, rfl⟩
 go_wp2
 go_quiet (fail)
 have q1 := Q1.out
 have q2 := Q2.out
 have q3 := Q3.out
 have q4 := Q4.out
 have q5 := Q5.out
 have q6 := Q6.out
 have q7 := Q7.out
 have q8 := Q8.out
 have t1 := T1.out
 have t2 := T2.out
 go_wp2_with fail
 refine (C2.out _).mono ?_
 rintro e w' ⟨rfl, rfl⟩
 go_wp2
 go_ret
 exact ⟨rfl, below_drewN' (Below.refl _ _) _⟩

end Go.Proofs.YtfcpkdafkmohkaaGreatDoor
namespace Go.Proofs.YtfcpkdafkmohkaaGreatDoor
open Go.RowKit
theorem bit_bounds {n : Nat} (hn : n < 9223372036854775808) : n < 2 ^ Lib.bitLen n ∧ (Lib.bitLen n = 0 ∨ 2 ^ (Lib.bitLen n - 1) ≤ n) ∧ Lib.bitLen n ≤ 63 := by
 have h63 := Lib.bitLen_le n 63 (by omega) (by rw [show (2 : Nat) ^ 63 = 9223372036854775808 by decide]; exact hn)
 rcases Nat.eq_zero_or_pos n with h0 | h0
 ·rw [h0, show Lib.bitLen 0 = 0 by decide]
  exact ⟨by decide, Or.inl rfl, by omega⟩
 ·have h := Lib.bitLenAux_bounds 64 n (by omega) (by omega)
  exact ⟨h.2.2, Or.inr h.2.1, h63⟩
set_option maxRecDepth 100000 in
theorem trounded_any (n : Nat) (two : Int) (w : World) (hn : n < 9223372036854775808) (h1 : -1076 ≤ two) (h2 : two ≤ 6000) (hb : two = -1076 ∨ 2 ^ 60 ≤ n) :
  Ct 199 #[.int .u64 n, .int .i64 two] (.float .f64 (rnd (n * 2 ^ (two + 1074).toNat) (2 ^ (-(two + 1074)).toNat))) w := by
 obtain ⟨b1, b2, b3⟩ := bit_bounds hn
 obtain ⟨L, hL⟩ : ∃ L, Lib.bitLen n = L := ⟨_, rfl⟩
 rw [hL] at b1 b2 b3
 have hL60 : two = -1076 ∨ 61 ≤ L := by
  rcases hb with h | h
  ·exact Or.inl h
  ·refine Or.inr ?_
   have := (Nat.pow_lt_pow_iff_right (a := 2) (by omega)).1 (Nat.lt_of_le_of_lt h b1)
   omega
 obtain ⟨d, hd⟩ : ∃ d : Nat, max ((L : Int) - 53) (-1074 - two) = (d : Int) := ⟨(max ((L : Int) - 53) (-1074 - two)).toNat, by omega⟩
 have hd2 : 2 ≤ d := by omega
 have hd3 : d ≤ 10 := by omega
 obtain ⟨D, hD⟩ : ∃ D : Nat, two + d + 1074 = (D : Int) := ⟨(two + d + 1074).toNat, by omega⟩
 obtain ⟨A, hA⟩ : ∃ A, (two + 1074).toNat = A := ⟨_, rfl⟩
 obtain ⟨B, hB⟩ : ∃ B, (-(two + 1074)).toNat = B := ⟨_, rfl⟩
 rw [hA, hB]
 obtain ⟨r1, r2, r3⟩ := rnd_drop (n := n) (L := L) (drop := d) (A := A) (B := B) (D := D) b1 b2 (by omega) (by omega) (by omega)
 rw [r1]
 obtain ⟨E, hE⟩ : ∃ E, ediv n (2 ^ d) = E := ⟨_, rfl⟩
 rw [hE] at r2 r3 ⊢
 have C2 : Hid (∀ W, Cq 206 #[.float .f64 (floatOfInt .f64 (E : Int)), .int .i64 (two + d)] (.float .f64 (min (D * 4503599627370496 + E) 9218868437227405312)) W) :=
  Lib.hid (fun W => Ld_make2 (D := D) r2 r3 (by omega) (by omega) W)
 obtain ⟨c, rfl⟩ : ∃ c, d = c + 1 := ⟨d - 1, by omega⟩
 have hP : 2 ^ (c + 1) = 2 * 2 ^ c := by rw [Nat.pow_succ, Nat.mul_comm]
 obtain ⟨H, hH⟩ : ∃ H, 2 ^ c = H := ⟨_, rfl⟩
 rw [hH] at hP
 have hH0 : 0 < H := by rw [← hH]; exact two_pos c
 have hH9 : H ≤ 512 := by
  rw [← hH]
  have := Nat.pow_le_pow_right (n := 2) (by omega) (show c ≤ 9 by omega)
  omega
 obtain ⟨P, hPP⟩ : ∃ P, 2 ^ (c + 1) = P := ⟨_, rfl⟩
 rw [hPP] at hP
 have cast : ∀ k : Nat, ((2 : Int) ^ k) = ((2 ^ k : Nat) : Int) := fun k => by simp
 obtain ⟨q, hq⟩ : ∃ q, n / P = q := ⟨_, rfl⟩
 obtain ⟨r, hr⟩ : ∃ r, n % P = r := ⟨_, rfl⟩
 have hql : q ≤ n := by rw [← hq]; exact Nat.div_le_self _ _
 have hrl : r < P := by rw [← hr]; exact Nat.mod_lt _ (by omega)
 have q1 : (n : Int) / 2 ^ (c + 1) = (q : Int) := by rw [cast, hPP, ← hq]; exact (Int.natCast_ediv n P).symm
 have q2 : IntKind.u64.wrap (2 ^ (c + 1)) = (P : Int) := by rw [cast, hPP]; exact IntWalk.u64_in _ (by omega)
 have q3 : IntKind.u64.wrap ((P : Int) - 1) = (P : Int) - 1 := IntWalk.u64_in _ (by omega)
 have q4 : IntKind.u64.wrap (2 ^ (c + 1 - 1)) = (H : Int) := by rw [Nat.add_sub_cancel, cast, hH]; exact IntWalk.u64_in _ (by omega)
 have q5 : bits BinOp.and IntKind.u64 (n : Int) ((P : Int) - 1) = (r : Int) := by
  rw [show ((P : Int) - 1) = ((P - 1 : Nat) : Int) by omega, u64_and_nat _ _ (by omega) (by omega), ← hPP, Nat.and_two_pow_sub_one_eq_mod, hPP, hr]
 have q6 : bits BinOp.and IntKind.u64 (q : Int) 1 = ((q % 2 : Nat) : Int) := by
  have := u64_and_nat q 1 (by omega) (by omega)
  rw [show ((1 : Nat) : Int) = 1 from rfl] at this
  rw [this, show (1 : Nat) = 2 ^ 1 - 1 from rfl, Nat.and_two_pow_sub_one_eq_mod]
 have q7 : IntKind.u64.wrap ((q : Int) + 1) = (q : Int) + 1 := IntWalk.u64_in _ (by omega)
 have q8 : wrap64 (two + ((c + 1 : Nat) : Int)) = two + ((c + 1 : Nat) : Int) := by
  unfold wrap64; omega
 have k1 : IntKind.i64.wrap (-1074 - two) = -1074 - two := IntWalk.i64_in _ (by omega)
 have k2 : IntKind.i64.wrap ((L : Int) - 53) = (L : Int) - 53 := IntWalk.i64_in _ (by omega)
 have hEE : E = if H < r ∨ (r = H ∧ q % 2 = 1) then q + 1 else q := by
  rw [← hE, hPP, hP, ediv_half', ← hP, hq, hr]
 rcases Nat.lt_trichotomy r H with h | h | h
 ·rw [if_neg (by omega)] at hEE
  exact trounded_d n (c + 1) L q H P r (q % 2) E _ two _ w (by omega) hL (by omega) hd3 k1 k2 hd q1 q2 q3 q4 q5 q6 q7 q8 (decide_eq_false (by omega)) (by rw [beq_eq_false_iff_ne]; omega) (by rw [hEE]) C2
 ·subst h
  by_cases ho : q % 2 = 1
  ·rw [if_pos (Or.inr ⟨rfl, ho⟩)] at hEE
   exact trounded_b n (c + 1) L q r P (q % 2) E _ two _ w (by omega) hL (by omega) hd3 k1 k2 hd q1 q2 q3 q4 q5 q6 q7 q8 (by rw [ho]; rfl) (by rw [hEE]; rfl) C2
  ·rw [if_neg (by omega)] at hEE
   exact trounded_c n (c + 1) L q r P (q % 2) E _ two _ w (by omega) hL (by omega) hd3 k1 k2 hd q1 q2 q3 q4 q5 q6 q7 q8 (by rw [beq_eq_false_iff_ne]; omega) (by rw [hEE]) C2
 ·rw [if_pos (Or.inl h)] at hEE
  exact trounded_a n (c + 1) L q H P r (q % 2) E _ two _ w (by omega) hL (by omega) hd3 k1 k2 hd q1 q2 q3 q4 q5 q6 q7 q8 (decide_eq_true h) (by rw [hEE]; rfl) C2
theorem quot_bits {a b x y p q : Nat} (ha1 : 2 ^ p ≤ a) (ha2 : a < 2 ^ (p + 1)) (hb1 : 2 ^ q ≤ b) (hb2 : b < 2 ^ (q + 1)) (k : Nat) :
  (p + 1 + x ≤ k + q + y → a * 2 ^ x / (b * 2 ^ y) < 2 ^ k) ∧ (k + q + 1 + y ≤ p + x → 2 ^ k ≤ a * 2 ^ x / (b * 2 ^ y)) := by
 have hX := two_pos x
 have hY := two_pos y
 have hb : 0 < b := Nat.lt_of_lt_of_le (two_pos q) hb1
 constructor
 ·intro h
  rw [Nat.div_lt_iff_lt_mul (Nat.mul_pos hb hY)]
  have h1 : a * 2 ^ x < 2 ^ (p + 1) * 2 ^ x := Nat.mul_lt_mul_of_pos_right ha2 hX
  have h2 : 2 ^ k * (2 ^ q * 2 ^ y) ≤ 2 ^ k * (b * 2 ^ y) := Nat.mul_le_mul_left _ (Nat.mul_le_mul_right _ hb1)
  have h3 : 2 ^ (p + 1) * 2 ^ x ≤ 2 ^ k * (2 ^ q * 2 ^ y) := by
   rw [← Nat.pow_add, ← Nat.pow_add, ← Nat.pow_add]
   exact Nat.pow_le_pow_right (by omega) (by omega)
  omega
 ·intro h
  rw [Nat.le_div_iff_mul_le (Nat.mul_pos hb hY)]
  have h1 : 2 ^ p * 2 ^ x ≤ a * 2 ^ x := Nat.mul_le_mul_right _ ha1
  have h2 : 2 ^ k * (b * 2 ^ y) ≤ 2 ^ k * (2 ^ (q + 1) * 2 ^ y) := Nat.mul_le_mul_left _ (Nat.mul_le_mul_right _ (Nat.le_of_lt hb2))
  have h3 : 2 ^ k * (2 ^ (q + 1) * 2 ^ y) ≤ 2 ^ p * 2 ^ x := by
   rw [← Nat.pow_add, ← Nat.pow_add, ← Nat.pow_add]
   exact Nat.pow_le_pow_right (by omega) (by omega)
  omega
def NearP (m : Nat) (ten : Int) (w : World) (e : Ending) (w' : World) : Prop := e = .returned (.float .f64 (decR m ten)) ∧ Below w.heap.size w w'
set_option maxRecDepth 100000 in
set_option maxHeartbeats 2000000 in
theorem tnearest_walk {w : World} {A : Option Addr} {n c m T B bt bb q nn F : Nat} {ten x1 x2 x3 last two : Int} {ex : Bool} (hA : NV w A n c m)
  (C1 : Hid (∀ W, NV W A n c m → Cp 185 #[.slice A n c, .int .i64 ten] W (NRet T W)))
  (C3 : Hid (∀ W A1 n1 c1, NV W A1 n1 c1 1 → Cp 185 #[.slice A1 n1 c1, .int .i64 (-ten)] W (NRet B W)))
  (C4 : Hid (∀ W A1 n1 c1, NV W A1 n1 c1 T → Cq 156 #[.slice A1 n1 c1] (.int .i64 (bt : Nat)) W))
  (C5 : Hid (∀ W A1 n1 c1, NV W A1 n1 c1 B → Cq 156 #[.slice A1 n1 c1] (.int .i64 (bb : Nat)) W))
  (C6 : Hid (∀ W A1 n1 c1 A2 n2 c2, NV W A1 n1 c1 T → NV W A2 n2 c2 B → Cp 109 #[.slice A1 n1 c1, .slice A2 n2 c2, .int .i64 two] W fun e w' => ∃ A3 n3 c3, e = .returned (.tuple #[.slice A3 n3 c3, .bool ex]) ∧ NV w' A3 n3 c3 q ∧ Below W.heap.size W w'))
  (C7 : Hid (∀ W A1 n1 c1, NV W A1 n1 c1 q → Cq 159 #[.slice A1 n1 c1] (.int .u64 q) W))
  (C8 : Hid (∀ W, Ct 199 #[.int .u64 nn, .int .i64 last] (.float .f64 F) W))
  (k1 : IntKind.i64.wrap (-ten) = -ten) (k2 : IntKind.i64.wrap ((bt : Int) - (bb : Int)) = x1) (k3 : IntKind.i64.wrap (x1 + ten) = x2) (k4 : IntKind.i64.wrap (x2 - 62) = x3) (hmax : max x3 (-1076) = last) (k5 : IntKind.i64.wrap (ten - last) = two)
  (hor : (ex = true ∧ nn = q) ∨ (ex = false ∧ bits BinOp.or IntKind.u64 (q : Int) 1 = (nn : Int))) :
  Ct 135 #[.slice A n c, .int .i64 ten] (.float .f64 F) w := by
 have C2 := Lib.hid (fun W => nof 1 (by omega) W)
 have HA := Lib.hid hA
 clear hA
 rcases hor with ⟨rfl, rfl⟩ | ⟨rfl, hor⟩
 all_goals
  go_enter Tryz.func135, Tryz.ntmps135
  go_wp2_with fail
  refine (C1.out _ HA.out).mono ?_
  rintro e w1 ⟨A1, n1, c1, rfl, g1, b1⟩
  have G1 := Lib.hid g1
  have B1 := Lib.hid b1
  clear g1 b1
  go_wp2_with fail
  refine (C2.out _).mono ?_
  rintro e w2 ⟨A2, n2, c2, rfl, g2, b2⟩
  have G2 := Lib.hid g2
  have G1' := Lib.hid (G1.out.step b2)
  have B2 := Lib.hid (below_le B1.out b2)
  clear g2 b2
  go_wp2_with fail
  refine (C3.out _ _ _ _ G2.out).mono ?_
  rintro e w3 ⟨A3, n3, c3, rfl, g3, b3⟩
  have G3 := Lib.hid g3
  have G1'' := Lib.hid (G1'.out.step b3)
  have B3 := Lib.hid (below_le B2.out b3)
  clear g3 b3
  go_wp2_with fail
  refine (C4.out _ _ _ _ G1''.out).mono ?_
  rintro e w' ⟨rfl, rfl⟩
  go_wp2_with fail
  refine (C5.out _ _ _ _ G3.out).mono ?_
  rintro e w' ⟨rfl, rfl⟩
  go_wp2_with fail
  refine (C6.out _ _ _ _ _ _ _ G1''.out G3.out).mono ?_
  rintro e w4 ⟨A4, n4, c4, rfl, g4, b4⟩
  have G4 := Lib.hid g4
  have B4 := Lib.hid (below_le B3.out b4)
  clear g4 b4
  go_wp2_with fail
  refine (C7.out _ _ _ _ G4.out).mono ?_
  rintro e w' ⟨rfl, rfl⟩
  go_wp2_with fail
  refine (C8.out _).mono ?_
  rintro e w5 ⟨rfl, b5⟩
  have B5 := Lib.hid (below_le B4.out b5)
  clear b5
  go_wp2
  go_ret
  exact ⟨rfl, B5.out⟩

end Go.Proofs.YtfcpkdafkmohkaaGreatDoor
namespace Go.Proofs.YtfcpkdafkmohkaaGreatDoor
open Go.RowKit
theorem or_small {q s : Nat} (hq : q < 9223372036854775808) (hs : s ≤ 1) : q ||| s < 9223372036854775808 ∧ q ≤ q ||| s := by
 refine ⟨?_, Nat.left_le_or⟩
 have : q ||| s < 2 ^ 63 := Nat.or_lt_two_pow (by rw [show (2 : Nat) ^ 63 = 9223372036854775808 by decide]; exact hq) (by rw [show (2 : Nat) ^ 63 = 9223372036854775808 by decide]; omega)
 rw [show (2 : Nat) ^ 63 = 9223372036854775808 by decide] at this
 exact this
theorem tnearest_any {w : World} {A : Option Addr} {n c m : Nat} (ten : Int) (hA : NV w A n c m) (hm : bln m ≤ 3300) (h0 : 0 < m) (ht1 : -1200 ≤ ten) (ht2 : ten ≤ 400) :
  Cp 135 #[.slice A n c, .int .i64 ten] w (NearP m ten w) := by
 have f1 := bln_five ten.toNat
 have f2 := bln_five (-ten).toNat
 have g1 := bln_mul m (5 ^ ten.toNat)
 have p1 : 0 < 5 ^ ten.toNat := Nat.pow_pos (by omega)
 have p2 : 0 < 5 ^ (-ten).toNat := Nat.pow_pos (by omega)
 have e1 : 1 * 5 ^ (-ten).toNat = 5 ^ (-ten).toNat := Nat.one_mul _
 have C1 := Lib.hid (fun W (h : NV W A n c m) => traised_any ten h (by omega) (by omega) (by omega))
 have C3 := Lib.hid (fun W A1 n1 c1 (h : NV W A1 n1 c1 1) => traised_any (-ten) h (by rw [show bln 1 = 1 by decide]; omega) (by omega) (by omega))
 rw [e1] at C3
 obtain ⟨T, hT⟩ : ∃ T, m * 5 ^ ten.toNat = T := ⟨_, rfl⟩
 obtain ⟨B, hB⟩ : ∃ B, 5 ^ (-ten).toNat = B := ⟨_, rfl⟩
 have hT0 : 0 < T := by rw [← hT]; exact Nat.mul_pos h0 p1
 rw [hT] at C1 g1
 rw [hB] at C3 f2 p2
 obtain ⟨u1, u2, u3⟩ := bln_bounds hT0
 obtain ⟨v1, v2, v3⟩ := bln_bounds p2
 have C4 := Lib.hid (fun W A1 n1 c1 (h : NV W A1 n1 c1 T) => nbits h (by omega))
 have C5 := Lib.hid (fun W A1 n1 c1 (h : NV W A1 n1 c1 B) => nbits h (by omega))
 have cr := fun (t : Int) (h1 : -8000 ≤ t) (h2 : t ≤ 8000) W A1 n1 c1 A2 n2 c2 (h : NV W A1 n1 c1 T) (g : NV W A2 n2 c2 B) => tratio_any t h g (by omega) (by omega) p2 h1 h2
 obtain ⟨bt, hbt⟩ : ∃ bt, bln T = bt := ⟨_, rfl⟩
 obtain ⟨bb, hbb⟩ : ∃ bb, bln B = bb := ⟨_, rfl⟩
 rw [hbt] at C4 u1 u2 u3 g1
 rw [hbb] at C5 v1 v2 v3 f2
 obtain ⟨p, rfl⟩ : ∃ p, bt = p + 1 := ⟨bt - 1, by omega⟩
 obtain ⟨r, rfl⟩ : ∃ r, bb = r + 1 := ⟨bb - 1, by omega⟩
 rw [Nat.add_sub_cancel] at u1 v1
 obtain ⟨x1, hx1⟩ : ∃ x1, ((p + 1 : Nat) : Int) - ((r + 1 : Nat) : Int) = x1 := ⟨_, rfl⟩
 obtain ⟨x2, hx2⟩ : ∃ x2, x1 + ten = x2 := ⟨_, rfl⟩
 obtain ⟨x3, hx3⟩ : ∃ x3, x2 - 62 = x3 := ⟨_, rfl⟩
 obtain ⟨last, hlast⟩ : ∃ last, max x3 (-1076) = last := ⟨_, rfl⟩
 obtain ⟨two, htwo⟩ : ∃ two, ten - last = two := ⟨_, rfl⟩
 have C6 := cr two (by omega) (by omega)
 obtain ⟨q1, q2⟩ := quot_bits (x := two.toNat) (y := (-two).toNat) u1 u2 v1 v2 63
 have q3 := (quot_bits (x := two.toNat) (y := (-two).toNat) u1 u2 v1 v2 60).2
 have hql := q1 (by omega)
 have hqb : last = -1076 ∨ 2 ^ 60 ≤ T * 2 ^ two.toNat / (B * 2 ^ (-two).toNat) := by
  by_cases hh : last = -1076
  ·exact Or.inl hh
  ·exact Or.inr (q3 (by omega))
 obtain ⟨N, hN⟩ : ∃ N, T * 2 ^ two.toNat = N := ⟨_, rfl⟩
 obtain ⟨d, hd⟩ : ∃ d, B * 2 ^ (-two).toNat = d := ⟨_, rfl⟩
 have hd0 : 0 < d := by rw [← hd]; exact Nat.mul_pos p2 (two_pos _)
 rw [hN, hd] at C6 hql hqb
 obtain ⟨q, hq⟩ : ∃ q, N / d = q := ⟨_, rfl⟩
 obtain ⟨t, ht⟩ : ∃ t, N % d = t := ⟨_, rfl⟩
 have hNd : N = q * d + t := by rw [← hq, ← ht, Nat.mul_comm]; exact (Nat.div_add_mod N d).symm
 have htd : t < d := by rw [← ht]; exact Nat.mod_lt _ hd0
 unfold QRet at C6
 rw [ht, hq] at C6
 rw [hq] at hql hqb
 rw [show (2 : Nat) ^ 63 = 9223372036854775808 by decide] at hql
 obtain ⟨s, hs⟩ : ∃ s, (if t = 0 then 0 else 1) = s := ⟨_, rfl⟩
 have hs1 : s ≤ 1 := by rw [← hs]; split <;> omega
 obtain ⟨o1, o2⟩ := or_small hql hs1
 obtain ⟨nn, hnn⟩ : ∃ nn, q ||| s = nn := ⟨_, rfl⟩
 have key := decR_near (m := m) (N := N) (n := d) (q := q) (t := t) (s := s) (ten := ten) (last := last) (by rw [← hN, ← hT, htwo]) (by rw [← hd, ← hB, show last - ten = -two by omega]) hNd htd hs.symm hqb
 rw [hnn] at key o1 o2
 have C8 := fun W => trounded_any nn last W o1 (by omega) (by omega) (by
  rcases hqb with h | h
  ·exact Or.inl h
  ·exact Or.inr (Nat.le_trans h o2))
 rw [← key] at C8
 refine tnearest_walk (q := q) (nn := nn) (two := two) (last := last) (x1 := x1) (x2 := x2) (x3 := x3) (ex := decide (t = 0)) hA C1 C3 C4 C5 (Lib.hid C6)
  (Lib.hid (fun W A1 n1 c1 h => tword_any h (by omega))) (Lib.hid C8) (IntWalk.i64_in _ (by omega)) (by rw [IntWalk.i64_in _ (by omega)]; exact hx1) (by rw [IntWalk.i64_in _ (by omega)]; exact hx2) (by rw [IntWalk.i64_in _ (by omega)]; exact hx3) hlast (by rw [IntWalk.i64_in _ (by omega)]; exact htwo) ?_
 by_cases h : t = 0
 ·refine Or.inl ⟨decide_eq_true h, ?_⟩
  rw [← hnn, ← hs, if_pos h, Nat.or_zero]
 ·refine Or.inr ⟨decide_eq_false h, ?_⟩
  have := or_u64 q 1 (by omega) (by omega)
  rw [show ((1 : Nat) : Int) = 1 from rfl] at this
  rw [this, ← hnn, ← hs, if_neg h]

end Go.Proofs.YtfcpkdafkmohkaaGreatDoor
namespace Go.Proofs.YtfcpkdafkmohkaaGreatDoor
open Go.RowKit
theorem dg_byte {l : List Nat} (h : ∀ c ∈ l, dg10 c = true) : ∀ c ∈ l, c < 256 := fun c hc => by
 have := dg10_iff.1 (h c hc)
 omega
theorem parse_dec (l : List Nat) (w : World) (hd : ∀ c ∈ l, dg10 c = true) (h0 : l ≠ []) (hl : l.length ≤ 801) : Cp 134 #[.string (strOf l), .int .i64 10] w (NOk (num 10 l) w) := by
 have hb := bl_strOf (dg_byte hd)
 have h := parse_ok (strOf l) 10 w (by rw [strOf_size]; omega) (by omega) (by omega) (adB_all (by rw [hb]; exact h0) (by rw [hb]; exact fun c hc => (dgt_ten (hd c hc)).2))
 rw [sv_num, hb] at h
 refine h.mono fun e w' x => NOk.of (lng_bln ?_) x
 have h1 := num_hi hd
 have h2 := bln_mono (Nat.le_of_lt h1)
 have h3 := bln_ten l.length
 omega
theorem bln_dec {l : List Nat} (hd : ∀ c ∈ l, dg10 c = true) (hl : l.length ≤ 801) : bln (num 10 l) ≤ 3300 := by
 have h2 := bln_mono (Nat.le_of_lt (num_hi hd))
 have h3 := bln_ten l.length
 omega
theorem tfloat_any (W F : List Nat) (X : Int) (w : World) (hW : ∀ c ∈ W, dg10 c = true) (hF : ∀ c ∈ F, dg10 c = true) (hs : W.length + F.length ≤ 4611686018427387903) (hX : -10995116277760 < X ∧ X < 10995116277760) :
  Ct 69 #[.agg #[.string (strOf W), .string (strOf F), .int .i64 X]] (.float .f64 (decR (num 10 (W ++ F)) (X - F.length))) w := by
 obtain ⟨f, hf⟩ : ∃ f, W ++ F = f := ⟨_, rfl⟩
 have hd : ∀ c ∈ f, dg10 c = true := by
  intro c hc
  rw [← hf] at hc
  rcases List.mem_append.1 hc with h | h
  ·exact hW c h
  ·exact hF c h
 have hfl : f.length = W.length + F.length := by rw [← hf, List.length_append]
 rw [hf]
 have hg : ∀ c ∈ ldz f, dg10 c = true := fun c hc => hd c (ldz_mem hc)
 have hh : ∀ c ∈ trz (ldz f), dg10 c = true := fun c hc => hg c (trz_mem hc)
 have hgl : (ldz f).length ≤ f.length := (List.dropWhile_sublist _).length_le
 have htl := trz_len (ldz f)
 have hcat : strOf W ++ strOf F = strOf f := by rw [strOf_append, hf]
 have C1 : Hid (∀ V, Ct 133 #[.string (strOf W ++ strOf F), .string ⟨#[48]⟩] (.string (strOf (ldz f))) V) := Lib.hid (fun V => by
  have := trimL48 (strOf f) V
  rw [bl_strOf (dg_byte hd)] at this
  rw [hcat]
  exact this)
 have C2 : Hid (∀ V, Ct 113 #[.string (strOf (ldz f)), .string ⟨#[48]⟩] (.string (strOf (trz (ldz f)))) V) := Lib.hid (fun V => by
  have := trimR48 (strOf (ldz f)) V (by rw [strOf_size]; omega)
  rw [bl_strOf (dg_byte hg)] at this
  exact this)
 have z1 := strOf_size (ldz f)
 have z2 := strOf_size F
 have z3 := strOf_size (trz (ldz f))
 have z4 := strOf_size W
 obtain ⟨P, hP⟩ : ∃ P, ((ldz f).length : Int) + (X - F.length) = P := ⟨_, rfl⟩
 have k1 : IntKind.i64.wrap (((strOf (ldz f)).size : Int) - ((strOf F).size : Int)) = ((ldz f).length : Int) - F.length := by rw [z1, z2]; exact IntWalk.i64_in _ (by omega)
 have k2 : IntKind.i64.wrap (((ldz f).length : Int) - F.length + X) = P := by rw [IntWalk.i64_in _ (by omega)]; omega
 by_cases h0 : trz (ldz f) = []
 ·rw [pway_none h0]
  exact tfloat_none _ _ _ _ X _ P w (by omega) C1 C2 k1 k2 (by rw [h0, Lib.toList_data]; rfl)
 ·have t1 := (str_ne h0).2
  by_cases h1 : P < -323
  ·rw [pway_low hd (by omega)]
   exact tfloat_low _ _ _ _ X _ P w (by omega) C1 C2 k1 k2 t1 (decide_eq_true h1)
  ·by_cases h2 : 309 < P
   ·rw [pway_high hd h0 (by omega)]
    exact tfloat_high _ _ _ _ X _ P w (by omega) C1 C2 k1 k2 t1 (decide_eq_false h1) (decide_eq_true h2)
   ·by_cases h3 : 800 < (trz (ldz f)).length
    ·rw [pway_long hd h3 (by omega), show ((ldz f).length : Int) + (X - F.length) - 801 = P - 801 by omega]
     obtain ⟨l, hl⟩ : ∃ l, (trz (ldz f)).take 800 ++ [49] = l := ⟨_, rfl⟩
     have ll : l.length = 801 := by rw [← hl, List.length_append, List.length_take]; simp; omega
     have ld : ∀ c ∈ l, dg10 c = true := by
      intro c hc
      rw [← hl] at hc
      rcases List.mem_append.1 hc with h | h
      ·exact hh c (List.mem_of_mem_take h)
      ·rw [List.mem_singleton.1 h]; rfl
     have lh : l.head? ≠ some 48 := by
      rw [← hl]
      have := trz_head (lead_head f)
      cases ht : trz (ldz f) with
      | nil => exact absurd ht h0
      | cons a b =>
       rw [show List.dropWhile (fun x => x == 48) f = ldz f from rfl, ht] at this
       exact this
     have l0 : l ≠ [] := fun e => by rw [e] at ll; simp at ll
     have lp : 0 < num 10 l := Nat.lt_of_lt_of_le (ten_pos _) (num_lo ld l0 lh)
     have hstr : (strOf (trz (ldz f))).extract 0 800 ++ (⟨#[49]⟩ : ByteArray) = strOf l := by
      rw [ext_take, bl_strOf (dg_byte hh), ← hl, ← strOf_append]
      rfl
     rw [hl]
     have t5 : (800 : Int) ≤ ((strOf (trz (ldz f))).size : Int) := by rw [z3]; omega
     have t4 : decide (800 < ((strOf (trz (ldz f))).size : Int)) = true := decide_eq_true (by rw [z3]; omega)
     have t6 : ((strOf (trz (ldz f))).extract 0 800).size = 800 := by
      rw [ext_take, bl_strOf (dg_byte hh), strOf_size, List.length_take]
      exact Nat.min_eq_left (by omega)
     have k3 : IntKind.i64.wrap (P - 801) = P - 801 := IntWalk.i64_in _ (by omega)
     have C3 : Hid (∀ V, Cp 134 #[.string ((strOf (trz (ldz f))).extract 0 800 ++ (⟨#[49]⟩ : ByteArray)), .int .i64 10] V (NOk (num 10 l) V)) := Lib.hid (fun V => by
      rw [hstr]
      exact parse_dec l V ld l0 (by omega))
     have C4 : Hid (∀ V A n c, NV V A n c (num 10 l) → Ct 135 #[.slice A n c, .int .i64 (P - 801)] (.float .f64 (decR (num 10 l) (P - 801))) V) := Lib.hid (fun V A n c h => tnearest_any (P - 801) h (bln_dec ld (by omega)) lp (by omega) (by omega))
     exact tfloat_long _ _ _ _ X _ P _ (num 10 l) _ w (by omega) C1 C2 k1 k2 t1 (decide_eq_false h1) (decide_eq_false h2) t4 t5 t6 k3 C3 C4
    ·rw [pway_short, show ((ldz f).length : Int) + (X - F.length) - (trz (ldz f)).length = P - (trz (ldz f)).length by omega]
     have lp : 0 < num 10 (trz (ldz f)) := Nat.lt_of_lt_of_le (ten_pos _) (num_lo hh h0 (trz_head (lead_head f)))
     have C3 : Hid (∀ V, Cp 134 #[.string (strOf (trz (ldz f))), .int .i64 10] V (NOk (num 10 (trz (ldz f))) V)) := Lib.hid (fun V => parse_dec _ V hh h0 (by omega))
     obtain ⟨Z, hZ⟩ : ∃ Z, P - ((trz (ldz f)).length : Int) = Z := ⟨_, rfl⟩
     rw [hZ]
     have C4 : Hid (∀ V A n c, NV V A n c (num 10 (trz (ldz f))) → Ct 135 #[.slice A n c, .int .i64 Z] (.float .f64 (decR (num 10 (trz (ldz f))) Z)) V) := Lib.hid (fun V A n c h => tnearest_any Z h (bln_dec hh (by omega)) lp (by omega) (by omega))
     have k3 : IntKind.i64.wrap (P - ((strOf (trz (ldz f))).size : Int)) = Z := by rw [z3, ← hZ]; exact IntWalk.i64_in _ (by omega)
     have t4 : decide (800 < ((strOf (trz (ldz f))).size : Int)) = false := decide_eq_false (by rw [z3]; omega)
     exact tfloat_short _ _ _ _ X _ P Z (num 10 (trz (ldz f))) _ w (by omega) C1 C2 k1 k2 t1 (decide_eq_false h1) (decide_eq_false h2) t4 k3 C3 C4
theorem tfloat_dec (l : List Nat) (w : World) (hs : l.length ≤ 4611686018427387903) :
  Ct 69 #[.agg #[.string (strOf (dW l)), .string (strOf (dF l)), .int .i64 (dX l)]] (.float .f64 (dV l)) w := by
 have h1 := run_len l
 have h2 : (dF l).length ≤ (aft10 l).length := by
  unfold dF
  split
  ·have := run_len (aft10 l).tail
   rw [List.length_tail] at this
   omega
  ·simp
 refine tfloat_any (dW l) (dF l) (dX l) w (run10_all l) ?_ (by unfold dW; omega) (exV_le _)
 intro c hc
 unfold dF at hc
 split at hc
 ·exact run10_all _ c hc
 ·simp at hc

end Go.Proofs.YtfcpkdafkmohkaaGreatDoor
namespace Go.Proofs.YtfcpkdafkmohkaaGreatDoor
open Go.RowKit
theorem fl_decR (N : Nat) : fl N = decR N 0 := by
 obtain ⟨K, hK, hd⟩ := decR_K
 rw [fl_near, near_rnd false (a := K) (b := 0) (by omega), hd, show (0 : Int).toNat = 0 from rfl, show (-(0 : Int)).toNat = 0 from rfl, Nat.pow_zero, Nat.mul_one, word_pos]
theorem decR_top {N : Nat} {D : Nat} (hD : D = 1024) (h : 2 ^ D ≤ N) : decR N 0 = 9218868437227405312 := by
 obtain ⟨K, hK, hd⟩ := decR_K
 rw [hd]
 refine rnd_top (ten_pos _) ?_
 obtain ⟨E, hE⟩ : ∃ E : Nat, E = 2046 := ⟨_, rfl⟩
 have e1 := fmag_make 4503599627370496 E (by omega) (by omega)
 rw [show E * 4503599627370496 + 4503599627370496 = 9218868437227405312 by omega] at e1
 rw [e1, show (0 : Int).toNat = 0 from rfl, show (-(0 : Int)).toNat = 0 from rfl, Nat.pow_zero, Nat.mul_one, Nat.mul_one]
 have h2 : 4503599627370496 * 2 ^ E = 2 ^ D * 2 ^ K := by
  rw [show (4503599627370496 : Nat) = 2 ^ 52 from rfl, ← Nat.pow_add, ← Nat.pow_add]
  exact congrArg (fun k => 2 ^ k) (show 52 + E = D + K by omega)
 rw [h2]
 exact Nat.mul_le_mul_right _ h
theorem dgt_zero {c : Nat} (h : dgt c = 0) : c = 48 := by
 unfold dgt at h
 split at h
 ·omega
 ·split at h
  ·omega
  ·split at h <;> omega
theorem num_lo_r {r : Nat} {g : List Nat} (h0 : g ≠ []) (hh : g.head? ≠ some 48) : r ^ (g.length - 1) ≤ num r g := by
 cases g with
 | nil => exact absurd rfl h0
 | cons c l =>
  have h1 : dgt c ≠ 0 := fun e => hh (by rw [dgt_zero e]; rfl)
  rw [num_cons]
  have h3 : 1 * r ^ l.length ≤ dgt c * r ^ l.length := Nat.mul_le_mul_right _ (by omega)
  simp only [List.length_cons, Nat.add_sub_cancel]
  omega
set_option maxRecDepth 100000 in
set_option maxHeartbeats 1000000 in
theorem twhole_top (s g : ByteArray) (r : Nat) (w : World)
  (C1 : Hid (∀ W, Ct 133 #[.string s, .string ⟨#[48]⟩] (.string g) W)) (t1 : decide (1024 < (g.size : Int)) = true) :
  Ct 89 #[.string s, .int .i64 r] (.float .f64 9218868437227405312) w := by
 have C2 := Lib.hid (fun W => inf1_any W)
 go_enter Tryz.func89, Tryz.ntmps89
 go_wp2_with fail
 refine (C1.out _).mono ?_
 rintro e w1 ⟨rfl, b1⟩
 go_wp2_with fail
 refine (C2.out _).mono ?_
 rintro e w' ⟨rfl, rfl⟩
 go_wp2
 go_ret
 exact ⟨rfl, b1⟩
set_option maxRecDepth 100000 in
set_option maxHeartbeats 1000000 in
theorem twhole_low (s g : ByteArray) (r N : Nat) (w : World)
  (C1 : Hid (∀ W, Ct 133 #[.string s, .string ⟨#[48]⟩] (.string g) W)) (t1 : decide (1024 < (g.size : Int)) = false)
  (C2 : Hid (∀ W, Cp 134 #[.string s, .int .i64 r] W (NOk N W)))
  (C3 : Hid (∀ W A n c, NV W A n c N → Ct 153 #[.slice A n c] (.float .f64 (fl N)) W)) :
  Ct 89 #[.string s, .int .i64 r] (.float .f64 (fl N)) w := by
 go_enter Tryz.func89, Tryz.ntmps89
 go_wp2_with fail
 refine (C1.out _).mono ?_
 rintro e w1 ⟨rfl, b1⟩
 have B1 := Lib.hid b1
 clear b1
 go_wp2_with fail
 refine (C2.out _).mono ?_
 rintro e w2 ⟨A, n, c, rfl, g2, b2⟩
 have G2 := Lib.hid g2
 have B2 := Lib.hid (below_le B1.out b2)
 clear g2 b2
 go_wp2_with fail
 refine (C3.out _ _ _ _ G2.out).mono ?_
 rintro e w3 ⟨rfl, b3⟩
 have B3 := Lib.hid (below_le B2.out b3)
 clear b3
 go_wp2
 go_ret
 exact ⟨rfl, B3.out⟩
theorem natV_lead (r : Nat) (l : List Nat) : natV r (ldz l) = natV r l := by unfold natV ldz; rw [num_lead]
theorem twhole_any (l : List Nat) (r : Nat) (w : World) (h2 : 2 ≤ r) (h36 : r ≤ 36) (h0 : l ≠ []) (hd : ∀ c ∈ l, dgt c < r) (hb : ∀ c ∈ l, c < 256) (hs : l.length ≤ 4611686018427387903) :
  Ct 89 #[.string (strOf l), .int .i64 r] (.float .f64 (natV r l)) w := by
 have C1 : Hid (∀ V, Ct 133 #[.string (strOf l), .string ⟨#[48]⟩] (.string (strOf (ldz l))) V) := Lib.hid (fun V => by
  have := trimL48 (strOf l) V
  rw [bl_strOf hb] at this
  exact this)
 have z1 := strOf_size (ldz l)
 by_cases h : 1024 < (ldz l).length
 ·have key : natV r l = 9218868437227405312 := by
   rw [← natV_lead]
   obtain ⟨D, hD⟩ : ∃ D : Nat, D = 1024 := ⟨_, rfl⟩
   refine decR_top hD ?_
   refine Nat.le_trans ?_ (num_lo_r (r := r) (fun e => by rw [e] at h; simp at h) (lead_head l))
   exact Nat.le_trans (Nat.pow_le_pow_left h2 D) (Nat.pow_le_pow_right (by omega) (by omega))
  rw [key]
  exact twhole_top _ _ r w C1 (decide_eq_true (by rw [z1]; omega))
 ·have hdl : ∀ c ∈ ldz l, dgt c < r := fun c hc => hd c (ldz_mem hc)
  have hnum : num r (ldz l) = num r l := num_lead r l
  have hbn : bln (num r l) ≤ 30000 := by
   rw [← hnum]
   have a1 := bln_mono (Nat.le_of_lt (num_lt hdl))
   have a2 := bln_pow r (ldz l).length
   have a3 : bln r ≤ 6 := bln_le (by omega)
   have a4 : bln r * (ldz l).length ≤ 6 * 1024 := Nat.mul_le_mul a3 (by omega)
   omega
  have C2 : Hid (∀ V, Cp 134 #[.string (strOf l), .int .i64 r] V (NOk (num r l) V)) := Lib.hid (fun V => by
   have hbl := bl_strOf hb
   have h := parse_ok (strOf l) r V (by rw [strOf_size]; exact hs) h2 h36 (adB_all (by rw [hbl]; exact h0) (by rw [hbl]; exact hd))
   rw [sv_num, hbl] at h
   exact h.mono fun e w' x => NOk.of (lng_bln hbn) x)
  have C3 : Hid (∀ V A n c, NV V A n c (num r l) → Ct 153 #[.slice A n c] (.float .f64 (fl (num r l))) V) := Lib.hid (fun V A n c g => by
   have a1 := small_len hbn
   rw [g.len] at a1
   have := pfloat_any A n c (wds (num r l)) V g.len g.cap (by omega) g.row
   rw [wds_val] at this
   exact this)
  have key : natV r l = fl (num r l) := (fl_decR _).symm
  rw [key]
  exact twhole_low _ _ r _ w C1 (decide_eq_false (by rw [z1]; omega)) C2 C3

end Go.Proofs.YtfcpkdafkmohkaaGreatDoor
namespace Go.Proofs.YtfcpkdafkmohkaaGreatDoor
open Go.RowKit
theorem lower_str (l : List Nat) (w : World) (hl : ∀ c ∈ l, c < 128) (hs : l.length ≤ 140737488355328) :
  Ct 87 #[.string (strOf l)] (.string (strOf (l.map lowC))) w := by
 have hb : ∀ c ∈ l, c < 256 := fun c hc => Nat.lt_trans (hl c hc) (by omega)
 have h := Tryz.strings_ToLower_ascii (strOf l) w (by rw [strOf_size]; exact hs) (asc_of (by rw [bl_strOf hb]; exact hl))
 rw [lower_eq (by rw [bl_strOf hb]; exact hl), bl_strOf hb] at h
 exact h
theorem low_lt {l : List Nat} (hl : ∀ c ∈ l, c < 128) : ∀ c ∈ l.map lowC, c < 256 := by
 intro c hc
 obtain ⟨d, hd, rfl⟩ := List.mem_map.1 hc
 have := hl d hd
 unfold lowC
 split <;> omega
theorem cut_low (l : List Nat) (r : Nat) (w : World) (hr : r ≤ 36) (hl : ∀ c ∈ l, c < 128) (hs : l.length ≤ 140737488355328) :
  Ct 86 #[.string (strOf (l.map lowC)), .int .i64 r] (.tuple #[.string (strOf ((l.takeWhile (dgq r)).map lowC)), .string (strOf ((l.dropWhile (dgq r)).map lowC))]) w := by
 have h := tcutDigits_any (strOf (l.map lowC)) r w hr (by rw [strOf_size, List.length_map]; omega)
 rw [bl_strOf (low_lt hl), take_low, drop_low] at h
 exact h
theorem natV_low (r : Nat) (l : List Nat) : natV r (l.map lowC) = natV r l := by unfold natV; rw [num_low]
theorem take_dgq (r : Nat) (l : List Nat) : ∀ c ∈ l.takeWhile (dgq r), dgt c < r := by
 induction l with
 | nil => intro c hc; simp at hc
 | cons d t ih =>
  intro c hc
  rw [List.takeWhile_cons] at hc
  cases hd : dgq r d
  ·rw [hd] at hc; simp at hc
  ·rw [hd] at hc
   simp only [if_true] at hc
   rcases List.mem_cons.1 hc with rfl | h
   ·exact of_decide_eq_true hd
   ·exact ih c h
theorem drop_nil (p : Nat → Bool) : ∀ l : List Nat, l.dropWhile p = [] ↔ l.all p = true
 | [] => by simp
 | c :: l => by
  by_cases h : p c = true
  ·rw [List.dropWhile_cons_of_pos h, List.all_cons, h, Bool.true_and]
   exact drop_nil p l
  ·rw [List.dropWhile_cons_of_neg h, List.all_cons]
   simp [h]
theorem take_all (p : Nat → Bool) : ∀ l : List Nat, l.all p = true → l.takeWhile p = l
 | [], _ => rfl
 | c :: l, h => by
  rw [List.all_cons, Bool.and_eq_true] at h
  rw [List.takeWhile_cons_of_pos h.1, take_all p l h.2]
theorem dgq_hx : dgq 16 = hx16 := rfl
set_option maxRecDepth 100000 in
set_option maxHeartbeats 1000000 in
theorem thex_no (s u : ByteArray) (w : World) (C1 : Hid (∀ W, Cq 85 #[.string s] (.tuple #[.string u, .bool false]) W)) :
  Ct 67 #[.string s] (.tuple #[.float .f64 0, .bool false]) w := by
 go_enter Tryz.func67, Tryz.ntmps67
 go_wp2_with fail
 refine (C1.out _).mono ?_
 rintro e w' ⟨rfl, rfl⟩
 go_wp2
 go_ret2
 exact ⟨rfl, Below.refl _ _⟩
set_option maxRecDepth 100000 in
set_option maxHeartbeats 1000000 in
theorem thex_not (s u v f q : ByteArray) (w : World) (C1 : Hid (∀ W, Cq 85 #[.string s] (.tuple #[.string u, .bool true]) W))
  (C2 : Hid (∀ W, Ct 87 #[.string u] (.string v) W))
  (C3 : Hid (∀ W, Ct 86 #[.string v, .int .i64 16] (.tuple #[.string f, .string q]) W))
  (t : f.toList.isEmpty = true ∨ (f.toList.isEmpty = false ∧ q.toList.isEmpty = false)) :
  Ct 67 #[.string s] (.tuple #[.float .f64 0, .bool false]) w := by
 rcases t with t1 | ⟨t1, t2⟩
 all_goals
  go_enter Tryz.func67, Tryz.ntmps67
  go_wp2_with fail
  refine (C1.out _).mono ?_
  rintro e w' ⟨rfl, rfl⟩
  go_wp2_with fail
  refine (C2.out _).mono ?_
  rintro e w1 ⟨rfl, b1⟩
  go_wp2_with fail
  refine (C3.out _).mono ?_
  rintro e w2 ⟨rfl, b2⟩
  have B2 := Lib.hid (below_le b1 b2)
  clear b1 b2
  go_wp2
  go_ret2
  exact ⟨rfl, B2.out⟩
set_option maxRecDepth 100000 in
set_option maxHeartbeats 1000000 in
theorem thex_yes (s u v f q : ByteArray) (F : Nat) (w : World) (C1 : Hid (∀ W, Cq 85 #[.string s] (.tuple #[.string u, .bool true]) W))
  (C2 : Hid (∀ W, Ct 87 #[.string u] (.string v) W))
  (C3 : Hid (∀ W, Ct 86 #[.string v, .int .i64 16] (.tuple #[.string f, .string q]) W))
  (C4 : Hid (∀ W, Ct 89 #[.string f, .int .i64 16] (.float .f64 F) W))
  (t1 : f.toList.isEmpty = false) (t2 : q.toList.isEmpty = true) :
  Ct 67 #[.string s] (.tuple #[.float .f64 F, .bool true]) w := by
 go_enter Tryz.func67, Tryz.ntmps67
 go_wp2_with fail
 refine (C1.out _).mono ?_
 rintro e w' ⟨rfl, rfl⟩
 go_wp2_with fail
 refine (C2.out _).mono ?_
 rintro e w1 ⟨rfl, b1⟩
 go_wp2_with fail
 refine (C3.out _).mono ?_
 rintro e w2 ⟨rfl, b2⟩
 have B2 := Lib.hid (below_le b1 b2)
 clear b1 b2
 go_wp2_with fail
 refine (C4.out _).mono ?_
 rintro e w3 ⟨rfl, b3⟩
 have B3 := Lib.hid (below_le B2.out b3)
 clear b3
 go_wp2
 go_ret2
 exact ⟨rfl, B3.out⟩

end Go.Proofs.YtfcpkdafkmohkaaGreatDoor
namespace Go.Proofs.YtfcpkdafkmohkaaGreatDoor
open Go.RowKit
theorem thexadecimal_any (l : List Nat) (w : World) (hl : ∀ c ∈ l, c < 128) (hs : l.length ≤ 140737488355328) :
  Ct 67 #[.string (strOf l)] (.tuple #[.float .f64 (if hxB l = true then natV 16 (l.drop 2) else 0 : Nat), .bool (hxB l)]) w := by
 have hb : ∀ c ∈ l, c < 256 := fun c hc => Nat.lt_trans (hl c hc) (by omega)
 have C1 : ∀ W, Cq 85 #[.string (strOf l)] (.tuple #[.string (strOf (if hxA l = true then l.drop 2 else l)), .bool (hxA l)]) W := by
  intro W
  have := tcutHex_any (strOf l) W
  rw [bl_strOf hb] at this
  exact this
 obtain ⟨u, hu⟩ : ∃ u, l.drop 2 = u := ⟨_, rfl⟩
 have hul : ∀ c ∈ u, c < 128 := fun c hc => hl c (by rw [← hu] at hc; exact List.mem_of_mem_drop hc)
 have hus : u.length ≤ 140737488355328 := by rw [← hu, List.length_drop]; omega
 have hx : hxB l = (hxA l && !u.isEmpty && u.all hx16) := by unfold hxB; rw [hu]
 rw [hu]
 rw [hu] at C1
 cases ha : hxA l
 ·rw [ha] at C1 hx
  rw [hx, Bool.false_and, Bool.false_and, if_neg (by simp)]
  exact thex_no _ _ w (Lib.hid C1)
 ·rw [ha, if_pos rfl] at C1
  rw [ha, Bool.true_and] at hx
  have C2 := Lib.hid (fun W => lower_str u W hul hus)
  have C3 := Lib.hid (fun W => cut_low u 16 W (by omega) hul hus)
  have ne : ∀ R : List Nat, R ≠ [] → (strOf R).toList.isEmpty = false := fun R hR => (str_ne hR).2
  have em : (strOf []).toList.isEmpty = true := by rw [Lib.toList_data]; rfl
  by_cases h1 : u.takeWhile (dgq 16) = []
  ·have hn : hxB l = false := by
    rw [hx]
    cases u with
    | nil => rfl
    | cons c t =>
     have : dgq 16 c = false := by
      cases h : dgq 16 c
      ·rfl
      ·rw [List.takeWhile_cons_of_pos h] at h1; cases h1
     show (true && (hx16 c && t.all hx16)) = false
     rw [← dgq_hx, this]
     rfl
   rw [hn, if_neg (by simp)]
   exact thex_not _ _ _ _ _ w (Lib.hid C1) C2 C3 (Or.inl (by rw [h1]; exact em))
  ·by_cases h2 : u.dropWhile (dgq 16) = []
   ·have h3 := (drop_nil _ _).1 h2
    have h4 := take_all _ _ h3
    have hu0 : u ≠ [] := fun e => h1 (by rw [e]; rfl)
    have hn : hxB l = true := by
     rw [hx, ← dgq_hx, h3, Bool.and_true]
     cases u with
     | nil => exact absurd rfl hu0
     | cons => rfl
    rw [hn, if_pos rfl]
    rw [h4, h2] at C3
    have hd : ∀ c ∈ u, dgt c < 16 := by
     have := take_dgq 16 u
     rw [h4] at this
     exact this
    have C4 : ∀ W, Ct 89 #[.string (strOf (u.map lowC)), .int .i64 16] (.float .f64 (natV 16 u)) W := by
     intro W
     have := twhole_any (u.map lowC) 16 W (by omega) (by omega) (by simpa using hu0) (by
      intro c hc
      obtain ⟨d, hd2, rfl⟩ := List.mem_map.1 hc
      rw [dgt_low]
      exact hd d hd2) (low_lt hul) (by rw [List.length_map]; omega)
     rw [natV_low] at this
     exact this
    exact thex_yes _ _ _ _ _ _ w (Lib.hid C1) C2 C3 (Lib.hid C4) (ne _ (by simpa using hu0)) em
   ·have hn : hxB l = false := by
     rw [hx, ← dgq_hx]
     cases h3 : u.all (dgq 16)
     ·rw [Bool.and_false]
     ·exact absurd ((drop_nil _ _).2 h3) h2
    rw [hn, if_neg (by simp)]
    exact thex_not _ _ _ _ _ w (Lib.hid C1) C2 C3 (Or.inr ⟨ne _ (by simpa using h1), ne _ (by simpa using h2)⟩)
theorem and_sign (x : Nat) (hx : x < 18446744073709551616) : bits BinOp.and IntKind.u64 (x : Int) 9223372036854775808 = ((if fneg x = true then 9223372036854775808 else 0 : Nat) : Int) := by
 show IntKind.u64.wrap ((BitVec.ofInt 64 (x : Int) &&& BitVec.ofInt 64 9223372036854775808).toNat : Int) = _
 have e1 : (BitVec.ofInt 64 (x : Int)) = BitVec.ofNat 64 x := by rw [BitVec.ofInt_natCast]
 have e2 : (BitVec.ofInt 64 9223372036854775808) = BitVec.ofNat 64 (2 ^ 63) := by decide
 rw [e1, e2, BitVec.toNat_and, BitVec.toNat_ofNat, BitVec.toNat_ofNat, Nat.mod_eq_of_lt (by omega : x < 2 ^ 64), Nat.mod_eq_of_lt (by omega : 2 ^ 63 < 2 ^ 64), IntKind.wrap_u64]
 have h2 : x &&& 2 ^ 63 = x / 2 ^ 63 % 2 * 2 ^ 63 := by
  apply Nat.eq_of_testBit_eq
  intro i
  rw [Nat.testBit_and, Nat.testBit_two_pow]
  by_cases h : 63 = i
  ·subst h
   rw [decide_eq_true rfl, Bool.and_true, Nat.testBit_mul_two_pow, Nat.testBit_eq_decide_div_mod_eq]
   simp
  ·rw [decide_eq_false h, Bool.and_false, Nat.testBit_mul_two_pow]
   by_cases hi : 63 ≤ i
   ·have : x / 2 ^ 63 % 2 < 2 ^ (i - 63) := Nat.lt_of_lt_of_le (Nat.mod_lt _ (by omega)) (by have := Nat.pow_le_pow_right (n := 2) (by omega) (show 1 ≤ i - 63 by omega); omega)
    rw [Nat.testBit_lt_two_pow this]; simp
   ·simp [hi]
 rw [h2]
 unfold fneg
 have h4 : x / 2 ^ 63 % 2 = 0 ∨ x / 2 ^ 63 % 2 = 1 := by omega
 rw [show (9223372036854775808 : Nat) = 2 ^ 63 from rfl]
 rcases h4 with h4 | h4 <;> rw [h4] <;> simp
theorem or_sign (s : Bool) {r : Nat} (hr : r < 9223372036854775808) : bits BinOp.or IntKind.u64 (r : Int) ((if s = true then 9223372036854775808 else 0 : Nat) : Int) = ((Ieee.double.word s r : Nat) : Int) := by
 cases s
 ·rw [if_neg (by simp), or_u64 r 0 (by omega) (by omega), Nat.or_zero]; rfl
 ·rw [if_pos rfl, or_u64 r 9223372036854775808 (by omega) (by omega)]
  have := Nat.two_pow_add_eq_or_of_lt (i := 63) (b := r) hr 1
  rw [Nat.or_comm, show (9223372036854775808 : Nat) = 2 ^ 63 * 1 from rfl, ← this]
  rfl
set_option maxRecDepth 100000 in
theorem copysign_word (f x : Nat) (w : World) (hf : f < 18446744073709551616) (hx : x < 18446744073709551616) : Cq 88 #[.float .f64 f, .float .f64 x] (.float .f64 (Ieee.double.word (fneg x) (rung f))) w := by
 have h1 := f64bits_run f w
 have h2 := f64bits_run x w
 have h3 := not_sign f hf
 have h4 := and_sign x hx
 have hr : rung f < 9223372036854775808 := Nat.mod_lt _ (by omega)
 have h5 := or_sign (fneg x) hr
 have h6 := f64from_run (Ieee.double.word (fneg x) (rung f)) w
 obtain ⟨a, ha⟩ : ∃ a, rung f = a := ⟨_, rfl⟩
 obtain ⟨b, hb⟩ : ∃ b : Nat, (if fneg x = true then 9223372036854775808 else 0 : Nat) = b := ⟨_, rfl⟩
 rw [ha] at h3 h5 h6 ⊢
 rw [hb] at h4 h5
 obtain ⟨c, hc⟩ : ∃ c, Ieee.double.word (fneg x) a = c := ⟨_, rfl⟩
 rw [hc] at h5 h6 ⊢
 clear hf hx hr ha hb hc
 go_enter Tryz.func88, Tryz.ntmps88
 go_wp2
 go_ret
 exact ⟨rfl, rfl⟩
theorem word_sg (b : Bool) (x : Nat) : Ieee.double.word b x = sgW b x := by cases b <;> rfl
theorem fneg_sg (b : Bool) : fneg (sgF b) = b := by cases b <;> rfl
theorem tcopysign_any (x : Nat) (b : Bool) (w : World) (hx : x < 9223372036854775808) :
  Cq 88 #[.float .f64 x, .float .f64 (sgF b)] (.float .f64 (sgW b x)) w := by
 have h := copysign_word x (sgF b) w (by omega) (by cases b <;> decide)
 rw [fneg_sg, show rung x = x from Nat.mod_eq_of_lt hx, word_sg] at h
 exact h

end Go.Proofs.YtfcpkdafkmohkaaGreatDoor
namespace Go.Proofs.YtfcpkdafkmohkaaGreatDoor
open Go.RowKit
set_option maxRecDepth 100000 in
set_option maxHeartbeats 1000000 in
theorem tnumber_inf (s u v : ByteArray) (b : Bool) (w : World)
  (C1 : Hid (∀ W, Cq 84 #[.string s] (.tuple #[.float .f64 (sgF b : Nat), .string u]) W))
  (C2 : Hid (∀ W, Cq 131 #[.string u, .string ⟨#[73, 110, 102, 105, 110, 105, 116, 121]⟩] (.tuple #[.string v, .bool true]) W)) :
  Ct 76 #[.string s] (.tuple #[.float .f64 (sgW b 9218868437227405312), .string v, .bool true]) w := by
 have C3 := Lib.hid (fun W => inf1_any W)
 have C4 := Lib.hid (fun W => tcopysign_any 9218868437227405312 b W (by omega))
 go_enter Tryz.func76, Tryz.ntmps76
 go_wp2_with fail
 refine (C1.out _).mono ?_
 rintro e w' ⟨rfl, rfl⟩
 go_wp2_with fail
 refine (C2.out _).mono ?_
 rintro e w' ⟨rfl, rfl⟩
 go_wp2_with fail
 refine (C3.out _).mono ?_
 rintro e w' ⟨rfl, rfl⟩
 go_wp2_with fail
 refine (C4.out _).mono ?_
 rintro e w' ⟨rfl, rfl⟩
 go_wp2
 refine bodyPost_ret (results_tmp3 rfl _ _ _) rfl ?_
 exact ⟨rfl, Below.refl _ _⟩
set_option maxRecDepth 100000 in
set_option maxHeartbeats 1000000 in
theorem tnumber_dec (s u v p q r : ByteArray) (X : Int) (F : Nat) (b : Bool) (w : World) (hF : F < 9223372036854775808)
  (C1 : Hid (∀ W, Cq 84 #[.string s] (.tuple #[.float .f64 (sgF b : Nat), .string u]) W))
  (C2 : Hid (∀ W, Cq 131 #[.string u, .string ⟨#[73, 110, 102, 105, 110, 105, 116, 121]⟩] (.tuple #[.string v, .bool false]) W))
  (C3 : Hid (∀ W, Ct 68 #[.string u] (.tuple #[.agg #[.string p, .string q, .int .i64 X], .string r, .bool true]) W))
  (C4 : Hid (∀ W, Ct 69 #[.agg #[.string p, .string q, .int .i64 X]] (.float .f64 F) W)) :
  Ct 76 #[.string s] (.tuple #[.float .f64 (sgW b F), .string r, .bool true]) w := by
 have C5 := Lib.hid (fun W => tcopysign_any F b W hF)
 clear hF
 go_enter Tryz.func76, Tryz.ntmps76
 go_wp2_with fail
 refine (C1.out _).mono ?_
 rintro e w' ⟨rfl, rfl⟩
 go_wp2_with fail
 refine (C2.out _).mono ?_
 rintro e w' ⟨rfl, rfl⟩
 go_wp2_with fail
 refine (C3.out _).mono ?_
 rintro e w1 ⟨rfl, b1⟩
 have B1 := Lib.hid (alloc_below (.cells #[.string p, .string q, .int .i64 X] 64) b1)
 clear b1
 go_wp2_with fail
 refine (C4.out _).mono ?_
 rintro e w2 ⟨rfl, b2⟩
 have B2 := Lib.hid (below_le B1.out b2)
 clear b2
 go_wp2_with fail
 refine (C5.out _).mono ?_
 rintro e w' ⟨rfl, rfl⟩
 go_wp2
 refine bodyPost_ret (results_tmp3 rfl _ _ _) rfl ?_
 exact ⟨rfl, B2.out⟩
set_option maxRecDepth 100000 in
set_option maxHeartbeats 1000000 in
theorem tnumber_none (s u v : ByteArray) (b : Bool) (w : World)
  (C1 : Hid (∀ W, Cq 84 #[.string s] (.tuple #[.float .f64 (sgF b : Nat), .string u]) W))
  (C2 : Hid (∀ W, Cq 131 #[.string u, .string ⟨#[73, 110, 102, 105, 110, 105, 116, 121]⟩] (.tuple #[.string v, .bool false]) W))
  (C3 : Hid (∀ W, Ct 68 #[.string u] (.tuple #[.agg #[.string ⟨#[]⟩, .string ⟨#[]⟩, .int .i64 0], .string ⟨#[]⟩, .bool false]) W)) :
  Ct 76 #[.string s] (.tuple #[.float .f64 0, .string ⟨#[]⟩, .bool false]) w := by
 go_enter Tryz.func76, Tryz.ntmps76
 go_wp2_with fail
 refine (C1.out _).mono ?_
 rintro e w' ⟨rfl, rfl⟩
 go_wp2_with fail
 refine (C2.out _).mono ?_
 rintro e w' ⟨rfl, rfl⟩
 go_wp2_with fail
 refine (C3.out _).mono ?_
 rintro e w1 ⟨rfl, b1⟩
 have B1 := Lib.hid (alloc_below (.cells #[.string ⟨#[]⟩, .string ⟨#[]⟩, .int .i64 0] 64) b1)
 clear b1
 go_wp2
 refine bodyPost_ret (results_tmp3 rfl _ _ _) rfl ?_
 exact ⟨rfl, B1.out⟩
theorem decR_fin (N : Nat) (e : Int) : decR N e ≤ 9218868437227405312 := by unfold decR rnd; exact Nat.min_le_right _ _
def nbB (l : List Nat) : Bool := infB (unsg l) || dB (unsg l)
def nbV (l : List Nat) : Nat := if infB (unsg l) = true then sgW (sgnB l) 9218868437227405312 else if dB (unsg l) = true then sgW (sgnB l) (dV (unsg l)) else 0
def nbR (l : List Nat) : List Nat := if infB (unsg l) = true then (unsg l).drop 8 else if dB (unsg l) = true then dR (unsg l) else []
theorem tnumber_any (l : List Nat) (w : World) (hl : ∀ c ∈ l, c < 256) (hs : l.length ≤ 140737488355328) :
  Ct 76 #[.string (strOf l)] (.tuple #[.float .f64 (nbV l), .string (strOf (nbR l)), .bool (nbB l)]) w := by
 have C1 : ∀ W, Cq 84 #[.string (strOf l)] (.tuple #[.float .f64 (sgF (sgnB l) : Nat), .string (strOf (unsg l))]) W := by
  intro W
  have := tcutSign_any (strOf l) W
  rw [bl_strOf hl] at this
  exact this
 obtain ⟨u, hu⟩ : ∃ u, unsg l = u := ⟨_, rfl⟩
 have hul : ∀ c ∈ u, c < 256 := fun c hc => hl c (unsg_sub c (by rw [hu]; exact hc))
 have hus : u.length ≤ 140737488355328 := by rw [← hu]; exact Nat.le_trans (unsg_len l) hs
 rw [hu] at C1
 have C2 := fun W => cut_any' (strOf u) ⟨#[73, 110, 102, 105, 110, 105, 116, 121]⟩ W
 rw [bl_strOf hul, show bl ⟨#[73, 110, 102, 105, 110, 105, 116, 121]⟩ = infL from rfl, show (⟨#[73, 110, 102, 105, 110, 105, 116, 121]⟩ : ByteArray).size = 8 from rfl] at C2
 have e1 : infL.isPrefixOf u = infB u := rfl
 rw [e1] at C2
 unfold nbV nbR nbB
 rw [hu]
 cases hi : infB u
 ·rw [hi, if_neg (by simp)] at C2
  simp only [Bool.false_eq_true, if_false, Bool.false_or]
  cases hd : dB u
  ·simp only [Bool.false_eq_true, if_false]
   refine tnumber_none _ _ _ _ w (Lib.hid C1) (Lib.hid C2) (Lib.hid (fun W => ?_))
   have := tcutDecimal_no (strOf u) W (by rw [strOf_size]; omega) (by rw [bl_strOf hul]; exact hd)
   exact this
  ·simp only [if_true]
   refine tnumber_dec _ _ _ _ _ _ _ _ _ w (by have := decR_fin (num 10 (dW u ++ dF u)) (dX u - (dF u).length); unfold dV; omega) (Lib.hid C1) (Lib.hid C2) (Lib.hid (fun W => ?_)) (Lib.hid (fun W => tfloat_dec u W (by omega)))
   have := tcutDecimal_yes (strOf u) W (by rw [strOf_size]; omega) (by rw [bl_strOf hul]; exact hd)
   rw [bl_strOf hul] at this
   exact this
 ·rw [hi, if_pos rfl] at C2
  simp only [if_true, Bool.true_or]
  exact tnumber_inf _ _ _ _ w (Lib.hid C1) (Lib.hid C2)

end Go.Proofs.YtfcpkdafkmohkaaGreatDoor
namespace Go.Proofs.YtfcpkdafkmohkaaGreatDoor
def uL : List UInt8 → List Nat
 | a :: b :: r => (a.toNat * 256 + b.toNat) :: uL r
 | _ => []

def bL (l : List Nat) : List UInt8 := l.flatMap fun u => [UInt8.ofNat (u / 256), UInt8.ofNat u]

theorem uL_length : ∀ l : List UInt8, (uL l).length = l.length / 2
 | [] => rfl
 | [_] => by simp [uL]
 | a :: b :: r => by
  have := uL_length r
  simp only [uL, List.length_cons, this]
  omega

theorem uL_get : ∀ (l : List UInt8) (i : Nat) (h : 2 * i + 1 < l.length), (uL l)[i]? = some (l[2 * i].toNat * 256 + l[2 * i + 1].toNat)
 | [], i, h => by simp at h
 | [_], i, h => by simp at h
 | a :: b :: r, 0, _ => by simp [uL]
 | a :: b :: r, i + 1, h => by
  have := uL_get r i (by simp at h; omega)
  simp only [uL, List.getElem?_cons_succ, this]
  rfl

theorem uL_lt : ∀ (l : List UInt8), ∀ u ∈ uL l, u < 65536
 | [], u, h => by simp [uL] at h
 | [_], u, h => by simp [uL] at h
 | a :: b :: r, u, h => by
  simp only [uL, List.mem_cons] at h
  rcases h with rfl | h
  ·have := a.toNat_lt; have := b.toNat_lt; omega
  ·exact uL_lt r u h

theorem bL_cons (u : Nat) (l : List Nat) : bL (u :: l) = UInt8.ofNat (u / 256) :: UInt8.ofNat u :: bL l := rfl
theorem bL_append (l m : List Nat) : bL (l ++ m) = bL l ++ bL m := by simp [bL]
theorem bL_one (u : Nat) : bL [u] = [UInt8.ofNat (u / 256), UInt8.ofNat u] := rfl
theorem bL_length : ∀ l : List Nat, (bL l).length = 2 * l.length
 | [] => rfl
 | u :: r => by rw [bL_cons]; simp [bL_length r]; omega

theorem uL_bL : ∀ (l : List Nat), (∀ u ∈ l, u < 65536) → uL (bL l) = l
 | [], _ => rfl
 | u :: r, h => by
  have hu := h u (by simp)
  rw [bL_cons, uL, uL_bL r (fun v hv => h v (by simp [hv]))]
  simp
  omega

def us (s : ByteArray) : List Nat := uL s.data.toList
def ln (s : ByteArray) : Nat := s.size / 2
def un (s : ByteArray) (i : Nat) : Nat := (us s).getD i 0

theorem ln_le (s : ByteArray) : 2 * ln s ≤ s.size := by unfold ln; omega
theorem us_length (s : ByteArray) : (us s).length = ln s := by
 unfold us ln; rw [uL_length, Go.Lib.size_eq]
theorem us_lt (s : ByteArray) : ∀ u ∈ us s, u < 65536 := uL_lt _
theorem un_eq (s : ByteArray) (i : Nat) (h : 2 * i + 1 < s.size) : un s i = (s[2 * i]'(by omega)).toNat * 256 + (s[2 * i + 1]'h).toNat := by
 have := uL_get s.data.toList i (by rw [← Go.Lib.size_eq]; exact h)
 unfold un us
 rw [List.getD_eq_getElem?_getD, this]
 rfl
theorem un_lt (s : ByteArray) (i : Nat) : un s i < 65536 := by
 unfold un
 rw [List.getD_eq_getElem?_getD]
 cases h : (us s)[i]? with
 | none => simp
 | some u => exact us_lt s u (List.mem_of_getElem? h)
theorem us_getElem (s : ByteArray) (i : Nat) (h : i < (us s).length) : (us s)[i] = un s i := by
 unfold un; rw [List.getD_eq_getElem?_getD, List.getElem?_eq_getElem h]; rfl
theorem us_take_succ (s : ByteArray) (i : Nat) (h : i < ln s) : (us s).take (i + 1) = (us s).take i ++ [un s i] := by
 have h' : i < (us s).length := by rw [us_length]; exact h
 rw [List.take_succ_eq_append_getElem h', us_getElem]
theorem us_take_all (s : ByteArray) : (us s).take (ln s) = us s := List.take_of_length_le (by rw [us_length]; exact Nat.le_refl _)
end Go.Proofs.YtfcpkdafkmohkaaGreatDoor
namespace Go.Proofs.YtfcpkdafkmohkaaGreatDoor
open Go.RowKit
abbrev Bld (B : Nat) (l : List UInt8) (w : World) : Prop := Lib.IsBuilderF 97 5 B B (Lib.byteCells l) w
theorem bld_lt {B : Nat} {l : List UInt8} {w : World} (h : Bld B l w) : B < w.heap.size := by
 rcases h with h | h <;> exact Lib.BuilderAtF.lt h
theorem alloc_new (w : World) (o : Obj) : (w.alloc o).heap[w.heap.size]? = some o := by
 show (w.heap.push o)[w.heap.size]? = _
 rw [Array.getElem?_push, if_pos rfl]
theorem ln_int (s : ByteArray) : (s.size : Int) / 2 = (ln s : Int) := by unfold ln; omega
theorem len_any (s : ByteArray) (w : World) (hs : s.size ≤ maxLen) : Cq 128 #[.string s] (.int .i64 (ln s)) w := by
 unfold maxLen at hs
 have hm : (s.size : Int) ≤ 9223372036854775807 := by omega
 go_enter Tryz.func128, Tryz.ntmps128
 go_wp2
 go_ret
 exact ⟨by rw [← ln_int]; rfl, rfl⟩
theorem or_u16 (a b : Nat) (ha : a < 256) (hb : b < 256) : bits BinOp.or IntKind.u16 ((a : Int) * 256) (b : Int) = ((a * 256 + b : Nat) : Int) := by
 have e : ((a : Int) * 256) = ((a * 256 : Nat) : Int) := by omega
 rw [e, u16_or_nat _ _ (by omega) (by omega)]
 have := Nat.two_pow_add_eq_or_of_lt (i := 8) (b := b) (by omega) a
 rw [show a * 256 = 2 ^ 8 * a by omega, ← this]
theorem at_value (s : ByteArray) (i : Nat) (h0 : 2 * i < s.size) (h1 : 2 * i + 1 < s.size) :
  bits BinOp.or IntKind.u16 (IntKind.u16.wrap (IntKind.u16.wrap ((s[2 * i]'h0).toNat : Int) * 256)) (IntKind.u16.wrap ((s[2 * i + 1]'h1).toNat : Int)) = (un s i : Int) := by
 have c0 := (s[2 * i]'h0).toNat_lt
 have c1 := (s[2 * i + 1]'h1).toNat_lt
 rw [IntWalk.u16_in ((s[2 * i]'h0).toNat : Int) (by omega), IntWalk.u16_in (((s[2 * i]'h0).toNat : Int) * 256) (by omega), IntWalk.u16_in _ (by omega)]
 rw [or_u16 _ _ c0 c1, un_eq s i h1]
set_option maxHeartbeats 400000 in
theorem at_any (s : ByteArray) (i : Nat) (w : World) (h : i < ln s) (hs : s.size ≤ maxLen) :
  Cp 140 #[.string s, .int .i64 i] w fun e w' => e = .returned (.int .u16 (un s i)) ∧ ∃ n, w' = w.drewN n := by
 unfold maxLen at hs
 have hl := ln_le s
 have a0 : (0 : Int) ≤ 2 * (i : Int) := by omega
 have a1 : 2 * (i : Int) < (s.size : Int) := by omega
 have a2 : (0 : Int) ≤ 2 * (i : Int) + 1 := by omega
 have a3 : 2 * (i : Int) + 1 < (s.size : Int) := by omega
 have b0 : IntKind.i64.wrap (2 * (i : Int)) = 2 * (i : Int) := IntWalk.i64_in _ (by omega)
 have b1 : IntKind.i64.wrap (2 * (i : Int) + 1) = 2 * (i : Int) + 1 := IntWalk.i64_in _ (by omega)
 have b2 : (2 * (i : Int)).toNat = 2 * i := by omega
 have b3 : (2 * (i : Int) + 1).toNat = 2 * i + 1 := by omega
 have H := Lib.hid (at_value s i (by omega) (by omega))
 clear hl
 go_enter Tryz.func140, Tryz.ntmps140
 go_wp2
 go_quiet (fail)
 go_wp2
 go_ret
 exact ⟨by rw [← H.out]; rfl, _, rfl⟩
theorem cells_two (l : List UInt8) (u : Nat) (hu : u < 65536) :
  Lib.byteCells (l ++ bL [u]) = (Lib.byteCells l ++ [Value.int .u8 ((u : Int) / 256)]) ++ [Value.int .u8 ((u : Int) % 256)] := by
 rw [Lib.byteCells_append, bL_one]
 simp [Lib.byteCells]
 omega
theorem writeUnit_any (B : Nat) (l : List UInt8) (u : Nat) (hu : u < 65536) (w : World) (h : Bld B l w) (hlen : l.length + 2 ≤ 140737488355328) (hBw : B ≤ w.heap.size) :
  Cp 98 #[.pointer (some ⟨B, 0, none⟩), .int .u16 u] w fun e w' => e = .returned (.tuple #[]) ∧ Bld B (l ++ bL [u]) w' ∧ Below B w w' := by
 have h1 : (Lib.byteCells l).length + 1 ≤ 140737488355328 := by rw [Lib.byteCells_length]; omega
 have h2 : ((Lib.byteCells l) ++ [Value.int .u8 ((u : Int) / 256)]).length + 1 ≤ 140737488355328 := by rw [List.length_append, Lib.byteCells_length]; simp; omega
 go_enter Tryz.func98, Tryz.ntmps98
 go_wp2_with fail
 refine (Tryz.Builder_WriteByte_k B B _ _ _ h h1 hBw).mono ?_
 rintro e w1 ⟨rfl, hb1, bl1, _⟩
 have hBw1 := Nat.le_trans hBw bl1.size
 go_wp2_with fail
 refine (Tryz.Builder_WriteByte_k B B _ _ _ (Or.inr hb1) h2 hBw1).mono ?_
 rintro e w2 ⟨rfl, hb2, bl2, _⟩
 go_wp2
 go_end0
 refine ⟨rfl, ?_, bl1.trans bl2⟩
 rw [Bld, cells_two l u hu]
 exact Or.inr hb2
end Go.Proofs.YtfcpkdafkmohkaaGreatDoor
namespace Go.Proofs.YtfcpkdafkmohkaaGreatDoor
open Go.RowKit
abbrev Own (B : Nat) (l : List UInt8) (v : Value) (w : World) : Prop := w.ownsRow B 5 1 v l.length (Lib.byteCells l)
theorem info5 : (Tryz.prog.info? 5).map (fun i => (i.zero, i.size, i.bytes)) = some (some (.int .u8 0), 1, 1) := by kernel_rfl
theorem and_u16 (u : Nat) (hu : u < 65536) : bits BinOp.and IntKind.u16 (u : Int) 255 % 256 = (u : Int) % 256 := by
 have := u16_and_nat u 255 hu (by omega)
 rw [show (255 : Int) = ((255 : Nat) : Int) from rfl, this]
 have h2 := Nat.and_two_pow_sub_one_eq_mod u 8
 rw [show (255 : Nat) = 2 ^ 8 - 1 from rfl, h2]
 omega
theorem Own.nil (B : Nat) (w : World) : Own B [] (.slice none 0 0) w := World.ownsRow_nil _ _ _ _
set_option maxHeartbeats 400000 in
theorem put_any (B : Nat) (l : List UInt8) (v : Value) (u : Nat) (hu : u < 65536) (w : World) (h : Own B l v w) (hlen : l.length + 2 ≤ 140737488355328) (hBw : B ≤ w.heap.size) :
  Cp 92 #[v, .int .u16 u] w fun e w' => ∃ v', e = .returned v' ∧ Own B (l ++ bL [u]) v' w' ∧ Below B w w' := by
 obtain ⟨i0, hi, hz0, hz1, hz2⟩ := info_parts info5
 have hA := and_u16 u hu
 go_enter Tryz.func92, Tryz.ntmps92
 go_wp2_with (at_builtin; refine wpList_append_own _ rfl _ _ 85 rfl B 5 i0 (.int .u8 0) 1 1 Tryz.underlying85 hi hz0 hz1 hz2 rfl (by decide) v l.length (Lib.byteCells l) rfl (h.alloc _) ⟨w.heap.size, 0, none⟩ 2 2 [.int .u8 ((u : Int) / 256), .int .u8 ((u : Int) % 256)] rfl rfl ?c1 ?c2 ?c3 ?c4 ?c5 ?_)
 case c1 => exact cell_two_new _ _ _ _
 case c2 => simp [Value.oneCell']
 case c3 => unfold maxLen; omega
 case c4 => omega
 case c5 => simp; omega
 intro v' w1 hown hg _
 go_wp2
 go_ret
 refine ⟨v', rfl, ?_, ((Below.refl B w).alloc hBw _).grown hg (by simp; omega) (fun k hk => (h.lt k hk).1)⟩
 rw [Own, cells_two l u hu]
 simpa [bL_one] using hown
end Go.Proofs.YtfcpkdafkmohkaaGreatDoor
namespace Go.Proofs.YtfcpkdafkmohkaaGreatDoor
open Go.RowKit
def spB (u : Int) : Bool := u == 9 || u == 11 || u == 12 || u == 32 || u == 160 || u == 5760 || u == 6158 || u == 8239 || u == 8287 || u == 12288 || u == 65279 || (decide (8192 ≤ u) && decide (u ≤ 8202))
def enB (u : Int) : Bool := u == 10 || u == 13 || u == 8232 || u == 8233
def blB (u : Int) : Bool := spB u || enB u
set_option maxHeartbeats 1000000 in
theorem space_any (u : Int) (w : World) : Cq 147 #[.int .u16 u] (.bool (spB u)) w := by
 go_enter Tryz.func147, Tryz.ntmps147
 go_wp2
 all_goals go_ret
 all_goals exact ⟨by simp [spB, *] <;> omega, rfl⟩
set_option maxHeartbeats 1000000 in
theorem ends_any (u : Int) (w : World) : Cq 148 #[.int .u16 u] (.bool (enB u)) w := by
 go_enter Tryz.func148, Tryz.ntmps148
 go_wp2
 all_goals go_ret
 all_goals exact ⟨by simp [enB, *], rfl⟩
set_option maxHeartbeats 1000000 in
theorem blank_any (u : Int) (w : World) : Cq 139 #[.int .u16 u] (.bool (blB u)) w := by
 go_enter Tryz.func139, Tryz.ntmps139
 go_wp2_with (first | (go_at_call 147; refine (space_any _ _).mono ?_; rintro e w' ⟨rfl, rfl⟩) | (go_at_call 148; refine (ends_any _ _).mono ?_; rintro e w' ⟨rfl, rfl⟩))
 all_goals go_ret
 all_goals exact ⟨by simp [blB, *], rfl⟩
end Go.Proofs.YtfcpkdafkmohkaaGreatDoor
namespace Go.Proofs.YtfcpkdafkmohkaaGreatDoor
open Go.RowKit
theorem foldl_push (ns : List UInt8) (s : ByteArray) : (ns.map fun b => (b.toNat : Int)).foldl (fun r n => r.push (UInt8.ofNat n.toNat)) s = ⟨s.data ++ ns.toArray⟩ := by
 induction ns generalizing s with
 | nil => simp
 | cons b r ih =>
  simp only [List.map_cons, List.foldl_cons, ih]
  apply ByteArray.ext
  simp [ByteArray.push]
set_option maxRecDepth 100000 in
theorem own_string {B : Nat} {l : List UInt8} {v : Value} {w : World} (h : Own B l v w) : (convert 85 9 v).run Tryz.prog w = .ok (.string ⟨l.toArray⟩) w := by
 rcases h.2 with ⟨rfl, hn⟩ | ⟨g, cap, cur, rfl, hB, hg, hcap, hmax, hcur, htk⟩
 ·have : l = [] := List.eq_nil_of_length_eq_zero hn
  subst this
  rfl
 ·have hc := h.cells (g := g) rfl
  rw [run_convert_bytes_string w 85 9 5 _ _ _ Tryz.underlying85 Tryz.underlying5 Tryz.underlying9]
  have hl := run_loadCells_list (P := Tryz.prog) w ⟨g, 0, none⟩ (Lib.byteCells l) hc
  rw [Lib.byteCells_length] at hl
  rw [run_bytesToString w ⟨g, 0, none⟩ l.length cap (l.map fun b => (b.toNat : Int)) (by rw [hl]; simp [Lib.byteCells, Function.comp_def])]
  rw [foldl_push]
  simp
end Go.Proofs.YtfcpkdafkmohkaaGreatDoor
namespace Go.Proofs.YtfcpkdafkmohkaaGreatDoor
open Go.RowKit
def wdL (s : ByteArray) : List Nat := s.data.toList.map fun b => b.toNat
theorem wdL_length (s : ByteArray) : (wdL s).length = s.size := by rw [wdL, List.length_map, ← Lib.size_eq]
theorem wdL_succ (s : ByteArray) (k : Nat) (h : k < s.size) : (wdL s).take (k + 1) = (wdL s).take k ++ [(s[k]'h).toNat] := by
 have h' : k < (wdL s).length := by rw [wdL_length]; exact h
 rw [List.take_succ_eq_append_getElem h']
 simp [wdL]; rfl
theorem wdL_all (s : ByteArray) : (wdL s).take s.size = wdL s := List.take_of_length_le (by rw [wdL_length]; exact Nat.le_refl _)
theorem take_len {α : Type} (l : List α) (k : Nat) : (l.take k).length ≤ k := List.length_take_le _ _
set_option maxRecDepth 100000 in
set_option maxHeartbeats 1000000 in
theorem wide_any (s : ByteArray) (w : World) (hs : s.size ≤ 35184372088832) :
  Ct 41 #[.string s] (.string ⟨(bL (wdL s)).toArray⟩) w := by
 have hm : (s.size : Int) ≤ 35184372088832 := by omega
 have HS := Lib.hid hs
 clear hs
 have hg : Cp 97 #[.pointer (some ⟨w.heap.size, 0, none⟩), .int .i64 (2 * (s.size : Int))] (w.alloc (.cells #[.pointer none, .slice none 0 0] 97)) fun e w' => e = .returned (.tuple #[]) ∧ (Lib.BuilderAt 97 5 w.heap.size w.heap.size (.pointer (some ⟨w.heap.size, 0, none⟩)) [] w' ∧ Below w.heap.size (w.alloc (.cells #[.pointer none, .slice none 0 0] 97)) w') :=
  Tryz.Builder_Grow_fresh w.heap.size w.heap.size (2 * s.size) _ (Nat.le_refl _) (alloc_new w _) (by simp) (by have := HS.out; omega)
 go_enter Tryz.func41, Tryz.ntmps41
 go_wp2_with fail
 refine hg.mono ?_
 rintro e w1 ⟨rfl, hb1, bl1⟩
 have hbl : Below w.heap.size w w1 := ((Below.refl w.heap.size w).alloc (Nat.le_refl _) _).trans bl1
 clear hg
 go_wp2
 go_loopw [11] (fun i wr => ∃ k : Nat, i = .int .i64 k ∧ k ≤ s.size ∧ Bld w.heap.size (bL ((wdL s).take k)) wr ∧ Below w.heap.size w wr) (fun i _ => s.size - (intOf i).toNat)
 case atStart => exact ⟨0, rfl, Nat.zero_le _, Lib.IsBuilderF.of (.inr hb1), hbl⟩
 case round =>
  obtain ⟨k, rfl, hk, hI, hbw⟩ := hrel
  have hsz := bld_lt hI
  by_cases hlt : k < s.size
  ·have hl := take_len (wdL s) k
   have hu := (s[k]'hlt).toNat_lt
   have hr := fun W h hb => writeUnit_any w.heap.size (bL ((wdL s).take k)) (s[k]'hlt).toNat (by omega) W h (by rw [bL_length]; have := HS.out; omega) hb
   have HW := Lib.hid (show IntKind.u16.wrap (((s[k]'hlt).toNat : Nat) : Int) = ((s[k]'hlt).toNat : Int) from IntWalk.u16_in _ (by omega))
   have HG := Lib.hid (wdL_succ s k hlt)
   clear hl hu
   go_wp2_with fail
   rw [HW.out]
   refine (hr _ hI (by omega)).mono ?_
   rintro e w2 ⟨rfl, hI2, hb2⟩
   go_wp2
   go_roundw
   case rel => exact ⟨k + 1, by go_num, by omega, by rw [HG.out, bL_append]; exact hI2, hbw.trans hb2⟩
   case measure => simp [intOf]; omega
  ·have hS := Tryz.Builder_String_any_k w.heap.size w.heap.size _ wr hI (by omega)
   have HZ := Lib.hid (show (wdL s).take k = wdL s by rw [show k = s.size by omega]; exact wdL_all s)
   go_wp2_with (go_at_call 99; refine hS.mono ?_; rintro e w2 ⟨rfl, _, hb2, _⟩)
   go_ret
   rw [HZ.out]
   exact ⟨rfl, hbw.trans hb2⟩
set_option maxRecDepth 100000 in
set_option maxHeartbeats 1000000 in
theorem rwide_any (s : ByteArray) (w : World) (hs : s.size ≤ 35184372088832) :
  Ct 38 #[.string s] (.string ⟨(bL (wdL s)).toArray⟩) w := by
 have hm : (s.size : Int) ≤ 35184372088832 := by omega
 have HS := Lib.hid hs
 clear hs
 go_enter Tryz.func38, Tryz.ntmps38
 go_wp2
 go_loopw [3, 4] (fun v i wr => ∃ k : Nat, i = .int .i64 k ∧ k ≤ s.size ∧ Own w.heap.size (bL ((wdL s).take k)) v wr ∧ Below w.heap.size w wr) (fun _ i _ => s.size - (intOf i).toNat)
 case atStart => exact ⟨0, rfl, Nat.zero_le _, Own.nil _ _, Below.refl _ _⟩
 case round =>
  obtain ⟨k, rfl, hk, hI, hbw⟩ := hrel
  by_cases hlt : k < s.size
  ·have hl := take_len (wdL s) k
   have hu := (s[k]'hlt).toNat_lt
   have hr := fun W v h hb => put_any w.heap.size (bL ((wdL s).take k)) v (s[k]'hlt).toNat (by omega) W h (by rw [bL_length]; have := HS.out; omega) hb
   have HW := Lib.hid (show IntKind.u16.wrap (((s[k]'hlt).toNat : Nat) : Int) = ((s[k]'hlt).toNat : Int) from IntWalk.u16_in _ (by omega))
   have HG := Lib.hid (wdL_succ s k hlt)
   clear hl hu
   go_wp2_with fail
   rw [HW.out]
   refine (hr _ _ hI hbw.size).mono ?_
   rintro e w2 ⟨v2, rfl, hI2, hb2⟩
   go_wp2
   go_roundw
   case rel => exact ⟨k + 1, by go_num, by omega, by rw [HG.out, bL_append]; exact hI2, hbw.trans hb2⟩
   case measure => simp [intOf]; omega
  ·have HZ := Lib.hid (show (wdL s).take k = wdL s by rw [show k = s.size by omega]; exact wdL_all s)
   have hcv := own_string hI
   go_wp2
   go_ret
   rw [HZ.out]
   exact ⟨rfl, hbw⟩
end Go.Proofs.YtfcpkdafkmohkaaGreatDoor
namespace Go.Proofs.YtfcpkdafkmohkaaGreatDoor
open Go.RowKit
theorem info_u16 : (Tryz.prog.info? 87).map (fun i => (i.zero, i.size, i.bytes)) = some (some (.int .u16 0), 1, 2) := by kernel_rfl
theorem row_drewN {w : World} {b : Nat} {t : TypeId} {n : Nat} {f : Nat → Value} (h : w.rowIs b t n f) (m : Nat) : (w.drewN m).rowIs b t n f := h
set_option maxRecDepth 100000 in
set_option maxHeartbeats 1000000 in
theorem units_any (s : ByteArray) (w : World) (hs : s.size ≤ 140737488355328) :
  Cp 129 #[.string s] w fun e w' => e = .returned (.slice (some ⟨w.heap.size, 0, none⟩) (ln s) (ln s)) ∧ w'.rowIs w.heap.size 87 (ln s) (fun j => .int .u16 (un s j : Nat)) ∧ Below w.heap.size w w' := by
 have hl := ln_le s
 have hs63 : s.size ≤ maxLen := by unfold maxLen; omega
 have hm : ((ln s : Nat) : Int) ≤ 70368744177664 := by omega
 have hmk := run_make_row' (P := Tryz.prog) 124 87 (.int .u16 0) 2 Tryz.underlying124 info_u16 rfl .i64 .i64 (ln s) (by omega) (by omega) w
 have hmade := World.rowIs_made w (.int .u16 0) (ln s) 87
 have H63 := Lib.hid hs63
 have c1 := fun W => len_any s W H63.out
 clear hs hl hs63
 have hr0 : (w.alloc (.cells (madeCells #[.int .u16 0] (ln s)) 87)).rowIs w.heap.size 87 (ln s) (fun j => .int .u16 ((if j < 0 then un s j else 0 : Nat) : Int)) := hmade.congr (fun j _ => by simp)
 clear hmade
 go_enter Tryz.func129, Tryz.ntmps129
 go_wp2_with (go_at_call 128; refine (c1 _).mono ?_; rintro e w' ⟨rfl, rfl⟩)
 clear hmk
 go_loopw [10] (fun i wr => ∃ k : Nat, i = .int .i64 k ∧ k ≤ ln s ∧ wr.rowIs w.heap.size 87 (ln s) (fun j => .int .u16 ((if j < k then un s j else 0 : Nat) : Int)) ∧ Below w.heap.size w wr) (fun i _ => ln s - (intOf i).toNat)
 case atStart => exact ⟨0, rfl, Nat.zero_le _, hr0, (Below.refl _ _).alloc (Nat.le_refl _) _⟩
 case round =>
  obtain ⟨k, rfl, hk, hI, hbw⟩ := hrel
  by_cases hlt : k < ln s
  ·have hcell : wr.cell? ⟨w.heap.size, k, none⟩ = some (.int .u16 0) := by
    have := hI.cell hlt
    simpa using this
   have hfz := hI.frozen k
   have c2 := fun W => at_any s k W hlt H63.out
   have hI2 := hI.set k (.int .u16 (un s k : Nat))
   have hI3 : (wr.setCell ⟨w.heap.size, k, none⟩ (.int .u16 (un s k : Nat))).rowIs w.heap.size 87 (ln s) (fun j => .int .u16 ((if j < k + 1 then un s j else 0 : Nat) : Int)) := by
    refine hI2.congr fun j hj => ?_
    by_cases h1 : j = k
    ·subst h1; simp
    ·by_cases h2 : j < k
     ·rw [if_neg h1, if_pos h2, if_pos (by omega)]
     ·rw [if_neg h1, if_neg h2, if_neg (by omega)]
   have HI := Lib.hid hI3
   clear hI hI2 hI3
   go_wp2_with fail
   refine (c2 _).mono ?_
   rintro e w' ⟨rfl, n, rfl⟩
   go_wp2
   go_roundw
   case rel => exact ⟨k + 1, by go_num, by omega, row_drewN HI.out n, below_drewN' (hbw.setCell (Nat.le_refl _) _) n⟩
   case measure => simp [intOf]; omega
  ·have HI := Lib.hid (show wr.rowIs w.heap.size 87 (ln s) (fun j => .int .u16 (un s j : Nat)) from hI.congr fun j hj => by rw [if_pos (by omega)])
   clear hI
   go_wp2
   go_ret
   exact ⟨rfl, HI.out, hbw⟩
end Go.Proofs.YtfcpkdafkmohkaaGreatDoor
namespace Go.Proofs.YtfcpkdafkmohkaaGreatDoor
open Go.RowKit
def unOk (s : ByteArray) (i : Int) : Bool := decide (0 ≤ i) && decide (i < ln s)
def unV (s : ByteArray) (i : Int) : Nat := if unOk s i then un s i.toNat else 0
set_option maxRecDepth 100000 in
theorem unit_any (s : ByteArray) (i : Int) (w : World) (hs : s.size ≤ maxLen) :
  Cp 146 #[.string s, .int .i64 i] w fun e w' => e = .returned (.tuple #[.int .u16 (unV s i), .bool (unOk s i)]) ∧ ∃ n, w' = w.drewN n := by
 have c1 := fun W => len_any s W hs
 by_cases h0 : 0 ≤ i
 ·obtain ⟨k, rfl⟩ := Int.eq_ofNat_of_zero_le h0
  by_cases h1 : k < ln s
  ·have e1 : unOk s (k : Int) = true := by simp [unOk]; omega
   have e2 : unV s (k : Int) = un s k := by unfold unV; rw [if_pos e1]; rfl
   have c2 := fun W => at_any s k W h1 hs
   have h1' : (k : Int) < (ln s : Int) := by omega
   rw [e1, e2]
   clear e1 e2
   go_enter Tryz.func146, Tryz.ntmps146
   go_wp2_with (first | (go_at_call 128; refine (c1 _).mono ?_; rintro e w' ⟨rfl, rfl⟩) | (go_at_call 140; refine (c2 _).mono ?_; rintro e w' ⟨rfl, n, rfl⟩))
   go_ret2
   exact ⟨rfl, n, rfl⟩
  ·have e1 : unOk s (k : Int) = false := by simp [unOk]; omega
   have e2 : unV s (k : Int) = 0 := by unfold unV; rw [e1]; rfl
   have h1' : ¬ ((k : Int) < (ln s : Int)) := by omega
   rw [e1, e2]
   clear e1 e2
   go_enter Tryz.func146, Tryz.ntmps146
   go_wp2_with (first | (go_at_call 128; refine (c1 _).mono ?_; rintro e w' ⟨rfl, rfl⟩))
   go_ret2
   exact ⟨rfl, 0, rfl⟩
 ·have e1 : unOk s i = false := by simp [unOk]; omega
  have e2 : unV s i = 0 := by unfold unV; rw [e1]; rfl
  rw [e1, e2]
  clear e1 e2
  go_enter Tryz.func146, Tryz.ntmps146
  go_wp2_with (first | (go_at_call 128; refine (c1 _).mono ?_; rintro e w' ⟨rfl, rfl⟩))
  go_ret2
  exact ⟨rfl, 0, rfl⟩
end Go.Proofs.YtfcpkdafkmohkaaGreatDoor
namespace Go.Proofs.YtfcpkdafkmohkaaGreatDoor
open Go.RowKit
def slS (s : ByteArray) (f t : Int) : ByteArray := if max f 0 < min t (ln s) then s.extract (2 * (max f 0).toNat) (2 * (min t (ln s)).toNat) else { data := #[] }
theorem slS_mid (s : ByteArray) (f t : Int) (h0 : 0 ≤ f) (h1 : f < t) (h2 : t ≤ ln s) : slS s f t = s.extract (2 * f.toNat) (2 * t.toNat) := by
 unfold slS
 rw [Int.max_eq_left h0, Int.min_eq_left h2, if_pos h1]
set_option maxHeartbeats 1000000 in
theorem slice_any (s : ByteArray) (f t : Int) (w : World) (hs : s.size ≤ maxLen) :
  Cq 141 #[.string s, .int .i64 f, .int .i64 t] (.string (slS s f t)) w := by
 have hl := ln_le s
 have hm : (s.size : Int) ≤ 9223372036854775807 := by unfold maxLen at hs; omega
 have c1 := fun W => len_any s W hs
 have hsl : slS s f t = if max f 0 < min t (ln s) then s.extract (2 * (max f 0).toNat) (2 * (min t (ln s)).toNat) else { data := #[] } := rfl
 have hm1 : 0 ≤ max f 0 := by omega
 have hn1 : min t (ln s) ≤ ln s := by omega
 have hl2 : 2 * ((ln s : Nat) : Int) ≤ (s.size : Int) := by omega
 obtain ⟨m, hm0⟩ : ∃ m : Int, max f 0 = m := ⟨_, rfl⟩
 obtain ⟨n, hn0⟩ : ∃ n : Int, min t (ln s) = n := ⟨_, rfl⟩
 rw [hm0, hn0] at hsl
 rw [hm0] at hm1
 rw [hn0] at hn1
 by_cases h : m < n
 ·rw [if_pos h] at hsl
  have HS := Lib.hid hsl
  have k1 : 2 * m ≤ 2 * n := by omega
  have k2 : 2 * n ≤ (s.size : Int) := by omega
  have k3 : 0 ≤ 2 * m := by omega
  have k4 : 0 ≤ 2 * n := by omega
  have e1 : (2 * m).toNat = 2 * m.toNat := by omega
  have e2 : (2 * n).toNat = 2 * n.toNat := by omega
  clear hsl hl hs hl2 hn1
  go_enter Tryz.func141, Tryz.ntmps141
  go_wp2_with (go_at_call 128; refine (c1 _).mono ?_; rintro e w' ⟨rfl, rfl⟩)
  go_ret
  exact ⟨by rw [HS.out]; rfl, rfl⟩
 ·rw [if_neg h] at hsl
  have HS := Lib.hid hsl
  clear hsl hl hs hl2 hn1
  go_enter Tryz.func141, Tryz.ntmps141
  go_wp2_with (go_at_call 128; refine (c1 _).mono ?_; rintro e w' ⟨rfl, rfl⟩)
  go_ret
  exact ⟨by rw [HS.out]; rfl, rfl⟩
end Go.Proofs.YtfcpkdafkmohkaaGreatDoor
namespace Go.Proofs.YtfcpkdafkmohkaaGreatDoor
open Go.RowKit
def blU (s : ByteArray) (i : Nat) : Bool := blB ((un s i : Nat) : Int)
def tF (s : ByteArray) : Nat → Nat → Nat
 | 0, i => i
 | f + 1, i => if i < ln s ∧ blU s i = true then tF s f (i + 1) else i
def tT (s : ByteArray) (F : Nat) : Nat → Nat → Nat
 | 0, t => t
 | f + 1, t => if F < t ∧ blU s (t - 1) = true then tT s F f (t - 1) else t
def frS (s : ByteArray) : Nat := tF s (ln s) 0
def toS (s : ByteArray) : Nat := tT s (frS s) (ln s) (ln s)
def trimS (s : ByteArray) : ByteArray := slS s (frS s) (toS s)
theorem tF_go (s : ByteArray) (f i : Nat) (h : i < ln s) (hb : blU s i = true) : tF s (f + 1) i = tF s f (i + 1) := by simp [tF, h, hb]
theorem tF_end (s : ByteArray) (f i : Nat) (h : ¬ (i < ln s ∧ blU s i = true)) : tF s f i = i := by
 cases f with
 | zero => rfl
 | succ f => rw [tF, if_neg h]
theorem tT_go (s : ByteArray) (F f t : Nat) (h : F < t + 1) (hb : blU s t = true) : tT s F (f + 1) (t + 1) = tT s F f t := by simp [tT, h, hb]
theorem tT_end (s : ByteArray) (F f t : Nat) (h : ¬ (F < t ∧ blU s (t - 1) = true)) : tT s F f t = t := by
 cases f with
 | zero => rfl
 | succ f => rw [tT, if_neg h]
theorem blankU_any (s : ByteArray) (i : Nat) (w : World) (b : Bool) (hb : blU s i = b) : Cq 139 #[.int .u16 (un s i : Nat)] (.bool b) w := by
 refine (blank_any _ w).mono ?_
 rintro e w' ⟨rfl, rfl⟩
 exact ⟨by rw [← hb]; rfl, rfl⟩
set_option maxRecDepth 100000 in
set_option maxHeartbeats 2000000 in
theorem trim_any (s : ByteArray) (w : World) (hs : s.size ≤ maxLen) :
  Cp 75 #[.string s] w fun e w' => e = .returned (.string (trimS s)) ∧ ∃ n, w' = w.drewN n := by
 have hl := ln_le s
 have hm : ((ln s : Nat) : Int) ≤ 4611686018427387903 := by unfold maxLen at hs; omega
 have H63 := Lib.hid hs
 have c1 := fun W => len_any s W H63.out
 clear hs hl
 go_enter Tryz.func75, Tryz.ntmps75
 go_wp2_with (go_at_call 128; refine (c1 _).mono ?_; rintro e w' ⟨rfl, rfl⟩)
 go_loopw [3] (fun i wr => ∃ k f : Nat, i = .int .i64 k ∧ k ≤ ln s ∧ tF s f k = frS s ∧ ln s ≤ k + f ∧ ∃ n, wr = w.drewN n) (fun i _ => ln s - (intOf i).toNat)
 case atStart => exact ⟨0, ln s, rfl, Nat.zero_le _, rfl, by omega, 0, rfl⟩
 case round =>
  obtain ⟨k, fuel, rfl, hk, hF, hfu, n, rfl⟩ := hrel
  have HF := Lib.hid hF
  clear hF
  by_cases hc : k < ln s ∧ blU s k = true
  ·obtain ⟨hlt, hb⟩ := hc
   obtain ⟨f, rfl⟩ : ∃ f, fuel = f + 1 := ⟨fuel - 1, by omega⟩
   have HG := Lib.hid (show tF s f (k + 1) = frS s by rw [← HF.out, tF_go s f k hlt hb])
   have c2 := fun W => at_any s k W hlt H63.out
   have c3 := fun W => blankU_any s k W true hb
   have hlt' : (k : Int) < (ln s : Int) := by omega
   clear hb HF
   go_wp2_with (first | (go_at_call 140; refine (c2 _).mono ?_; rintro e w' ⟨rfl, n2, rfl⟩) | (go_at_call 139; refine (c3 _).mono ?_; rintro e w' ⟨rfl, rfl⟩))
   go_roundw
   case rel => exact ⟨k + 1, f, by go_num, by omega, HG.out, by omega, _, rfl⟩
   case measure => simp [intOf]; omega
  ·have HK := Lib.hid (show frS s = k by rw [← HF.out, tF_end s fuel k hc])
   have hor : (¬ ((k : Int) < (ln s : Int))) ∨ ((k : Int) < (ln s : Int) ∧ blU s k = false ∧ k < ln s) := by
    by_cases h : k < ln s
    ·right; refine ⟨by omega, ?_, h⟩
     cases hb : blU s k
     ·rfl
     ·exact absurd ⟨h, hb⟩ hc
    ·left; omega
   have H1 := Lib.hid (fun W (h : k < ln s) => at_any s k W h H63.out)
   have H2 := Lib.hid (fun W (h : blU s k = false) => blankU_any s k W false h)
   clear hc HF
   rcases hor with h1 | ⟨h1, h2, h3⟩
   all_goals
    try have c2 := fun W => H1.out W h3
    try have c3 := fun W => H2.out W h2
    try clear h2
    go_wp2_with (first | (go_at_call 140; refine (c2 _).mono ?_; rintro e w' ⟨rfl, n2, rfl⟩) | (go_at_call 139; refine (c3 _).mono ?_; rintro e w' ⟨rfl, rfl⟩))
    go_loopw [4] (fun i wr => ∃ t f : Nat, i = .int .i64 t ∧ t ≤ ln s ∧ tT s k f t = tT s k (ln s) (ln s) ∧ t ≤ f ∧ ∃ n, wr = w.drewN n) (fun i _ => (intOf i).toNat)
    case atStart => exact ⟨ln s, ln s, rfl, by omega, rfl, by omega, _, rfl⟩
    case round =>
     obtain ⟨t, fu, rfl, ht, hT, hfu2, n3, rfl⟩ := hrel
     have HT := Lib.hid hT
     clear hT
     by_cases hc2 : k < t ∧ blU s (t - 1) = true
     ·obtain ⟨hlt2, hb2⟩ := hc2
      obtain ⟨t, rfl⟩ : ∃ t', t = t' + 1 := ⟨t - 1, by omega⟩
      obtain ⟨f2, rfl⟩ : ∃ f', fu = f' + 1 := ⟨fu - 1, by omega⟩
      have hb3 : blU s t = true := hb2
      have HG2 := Lib.hid (show tT s k f2 t = tT s k (ln s) (ln s) by rw [← HT.out, tT_go s k f2 t hlt2 hb3])
      have c4 := fun W => at_any s t W (by omega) H63.out
      have c5 := fun W => blankU_any s t W true hb3
      have g1 : (k : Int) < (t : Int) + 1 := by omega
      clear hb2 hb3 HT
      go_wp2_with (first | (go_at_call 140; refine (c4 _).mono ?_; rintro e w' ⟨rfl, n4, rfl⟩) | (go_at_call 139; refine (c5 _).mono ?_; rintro e w' ⟨rfl, rfl⟩))
      go_roundw
      case rel => exact ⟨t, f2, rfl, by omega, HG2.out, by omega, _, rfl⟩
      case measure => simp [intOf]
     ·have HK2 := Lib.hid (show toS s = t by unfold toS; rw [HK.out, ← HT.out, tT_end s k fu t hc2])
      have hor2 : (¬ ((k : Int) < (t : Int))) ∨ ((k : Int) < (t : Int) ∧ blU s (t - 1) = false ∧ k < t) := by
       by_cases h : k < t
       ·right; refine ⟨by omega, ?_, h⟩
        cases hb : blU s (t - 1)
        ·rfl
        ·exact absurd ⟨h, hb⟩ hc2
       ·left; omega
      have hsl := fun W => slice_any s k t W H63.out
      have HR := Lib.hid (show trimS s = slS s k t by unfold trimS; rw [HK.out, HK2.out])
      clear hc2 HT
      rcases hor2 with g1 | ⟨g1, g2, g3⟩
      ·go_wp2_with (go_at_call 141; refine (hsl _).mono ?_; rintro e w' ⟨rfl, rfl⟩)
       go_ret
       exact ⟨by rw [HR.out]; rfl, _, rfl⟩
      ·obtain ⟨t, rfl⟩ : ∃ t', t = t' + 1 := ⟨t - 1, by omega⟩
       have c4 := fun W => at_any s t W (by omega) H63.out
       have c5 := fun W => blankU_any s t W false g2
       have g1' : (k : Int) < (t : Int) + 1 := by omega
       clear g2 g1
       go_wp2_with (first | (go_at_call 140; refine (c4 _).mono ?_; rintro e w' ⟨rfl, n4, rfl⟩) | (go_at_call 139; refine (c5 _).mono ?_; rintro e w' ⟨rfl, rfl⟩) | (go_at_call 141; refine (hsl _).mono ?_; rintro e w' ⟨rfl, rfl⟩))
       go_ret
       exact ⟨by rw [HR.out]; rfl, _, rfl⟩
end Go.Proofs.YtfcpkdafkmohkaaGreatDoor
