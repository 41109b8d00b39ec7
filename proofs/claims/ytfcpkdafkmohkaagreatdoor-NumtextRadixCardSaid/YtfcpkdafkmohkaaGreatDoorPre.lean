/-
  Merged texts (Tg, Th, Ti, Tk, Tl, Tm, Tn, To, Us, Tp, Tr, Vb, Vc, Vd, Ve, Vf, Vn, Vo, Vv).
-/
import Derived.Test.YtfcpkdafkmohkaaGreatDoorPrd
import Derived.Shelf.Strings.SlTrimAscii
import Derived.Shelf.Strings.Builder1
import Derived.Shelf.Strings.Builder2
import Derived.Shelf.Strings.OnBuilder
import Derived.Shelf.Strings.Trim
import Derived.Shelf.Small.Utf8
import Derived.Shelf.Small.Bits
import Derived.Shelf.Small.Strs
import Derived.Shelf.Small.Wraps
import Derived.Shelf.Strings.BuilderF
import Derived.Shelf.Strings.BuilderK
import Derived.Shelf.Strconv.Itoa0
import Derived.Shelf.Strconv.Itoa1
import Derived.Shelf.LaysM
import Derived.Shelf.Strconv.Itoa2
import Derived.Shelf.Strconv.Itoa3
import Derived.Shelf.Strings.Search1
import Derived.Shelf.Strings.Prefix
import Derived.Shelf.Unicode.Latin
import Derived.Shelf.Strings.Runes
import Derived.Shelf.Strings.AsciiSet
import Derived.Shelf.Bits.Mul64
import Derived.Shelf.Strings.Repeat
import Derived.Shelf.Unicode.DecodeSlow
import Derived.Shelf.Unicode.CaseLookup
import Derived.Shelf.Unicode.CaseConvert
import Derived.Shelf.Unicode.CaseTo
import Derived.Shelf.Unicode.CaseLaid
import Derived.Test.YtfcpkdafkmohkaaGreatDoorProg
import GoSem.Core.Utf8
import Derived.WalkKit
import Derived.WalkSpells
import Derived.WalkLawsBesides
import Derived.Deep.QuietTactic
import Derived.BigQuiet
import Derived.Lib.Hide
import Derived.Deep.OwnRows
import Derived.Laws.CopyOwn
import Derived.Deep.AppendLies
import Derived.Lib.BitFns
import Derived.Lib.Strings
import Derived.Laws.BitsAllLaws
import Derived.Lib.LaidTab
import Derived.ProofKit
import Derived.OpenShut
import Derived.SizedLaws
import Derived.Laws.BytesString
import Derived.Laws.Cells
import Derived.Deep.RegionWith
import Derived.BigRegion
import Derived.Test.YtfcpkdafkmohkaaGreatDoorRows
import Derived.Lib.ItoaNum
import Derived.Deep.DeepCutAuto
import Ieee.Arith
import GoSem.Core.Float
import Derived.Laws.FloatArith
import Derived.Laws.Externs
import Derived.Deep.RegionHeld3
import Derived.Laws.Closers25b
import Derived.Lib.SlTrimSet
import Derived.Lib.Case
import Derived.Deep.WholeRow
import Derived.Laws.Tables
import Derived.Laws.EntriesVeiled
import Derived.Lib.AppendIntMem
namespace Go.Proofs.YtfcpkdafkmohkaaGreatDoor
open Go.RowKit
theorem fmag_mono {r s : Nat} (h : fmag r ≤ fmag s) : r ≤ s := by
 rcases Nat.lt_or_ge s r with h1 | h1
 ·have := fmag_step h1
  omega
 ·exact h1
theorem Ld_make2 {E D : Nat} {e' : Int} (hE : E ≤ 9007199254740992) (hD : D = 0 ∨ 4503599627370496 ≤ E) (hD2 : D ≤ 8000) (he : e' = (D : Int) - 1074) (w : World) : Cq 206 #[.float .f64 (fl E), .int .i64 e'] (.float .f64 (min (D * 4503599627370496 + E) 9218868437227405312)) w := by
 rcases Nat.lt_or_ge 2045 D with h | h
 ·obtain ⟨K, hK⟩ : ∃ K : Nat, K = 1074 := ⟨_, rfl⟩
  obtain ⟨y1, y2⟩ := fl_upto hE hK
  have hE2 : 4503599627370496 ≤ E := hD.resolve_left (by omega)
  have e1 := fmag_make 4503599627370496 K (by omega) (by omega)
  have h3 : K * 4503599627370496 + 4503599627370496 ≤ fl E := by
   refine fmag_mono ?_
   rw [e1, y2]
   exact Nat.mul_le_mul_right _ hE2
  have h4 := ldexp_any (fl E) (D - 1074) w (by omega) y1 (by omega)
  have h5 : scl (fl E) (D - 1074) = 9218868437227405312 := by
   unfold scl
   rw [if_neg]
   have : K + 1 ≤ fl E / 4503599627370496 := by
    rw [Nat.le_div_iff_mul_le (by omega)]
    omega
   omega
  rw [h5] at h4
  rw [show e' = ((D - 1074 : Nat) : Int) by omega, Nat.min_eq_right (by omega)]
  exact h4
 ·exact Ld_make hE hD h he w
set_option maxRecDepth 100000 in
set_option maxHeartbeats 1000000 in
theorem trounded_a (n d L q H P r s E F : Nat) (two X : Int) (w : World) (hnb : n < 18446744073709551616) (hL : Lib.bitLen n = L) (hd0 : 1 ≤ d) (hd3 : d ≤ 10) (k1 : IntKind.i64.wrap (-1074 - two) = -1074 - two) (k2 : IntKind.i64.wrap ((L : Int) - 53) = (L : Int) - 53) (hd : max ((L : Int) - 53) (-1074 - two) = (d : Int))
  (q1 : (n : Int) / 2 ^ d = (q : Int)) (q2 : IntKind.u64.wrap (2 ^ d) = (P : Int)) (q3 : IntKind.u64.wrap ((P : Int) - 1) = (P : Int) - 1) (q4 : IntKind.u64.wrap (2 ^ (d - 1)) = (H : Int)) (q5 : bits BinOp.and IntKind.u64 (n : Int) ((P : Int) - 1) = (r : Int)) (q6 : bits BinOp.and IntKind.u64 (q : Int) 1 = (s : Int)) (q7 : IntKind.u64.wrap ((q : Int) + 1) = (q : Int) + 1) (q8 : wrap64 (two + (d : Int)) = X)
  (t1 : decide (H < r) = true) (hE : (q : Int) + 1 = (E : Int))
  (C2 : Hid (∀ W, Cq 206 #[.float .f64 (floatOfInt .f64 (E : Int)), .int .i64 X] (.float .f64 F) W)) :
  Ct 199 #[.int .u64 n, .int .i64 two] (.float .f64 F) w := by
 have C1 := Lib.hid (fun W => (Tryz.bits_Len64 (n : Int) W (by omega) (by omega)).mono fun e w' h => And.intro h.1 h.2.symm)
 rw [Int.toNat_natCast, hL] at C1
 have k3 : (0 : Int) ≤ (d : Int) := by omega
 have k4 : (0 : Int) ≤ (d : Int) - 1 := by omega
 rw [← hE] at C2
 have Q1 := Lib.hid q1
 have Q2 := Lib.hid q2
 have Q3 := Lib.hid q3
 have Q4 := Lib.hid q4
 have Q5 := Lib.hid q5
 have Q6 := Lib.hid q6
 have Q7 := Lib.hid q7
 have Q8 := Lib.hid q8
 have T1 := Lib.hid t1
 clear t1 hL hnb hE q1 q2 q3 q4 q5 q6 q7 q8
 go_enter Tryz.func199, Tryz.ntmps199
 go_wp2_with fail
 refine (C1.out _).mono ?_
 rintro e w' ⟨rfl, rfl⟩
 go_wp2
 go_quiet (fail)
 have q1 := Q1.out
 have q2 := Q2.out
 have q3 := Q3.out
 have q4 := Q4.out
 have q5 := Q5.out
 have q6 := Q6.out
 have q7 := Q7.out
 have q8 := Q8.out
 have t1 := T1.out
 go_wp2_with fail
 refine (C2.out _).mono ?_
 rintro e w' ⟨rfl, rfl⟩
 go_wp2
 go_ret
 exact ⟨rfl, below_drewN' (Below.refl _ _) _⟩
set_option maxRecDepth 100000 in
set_option maxHeartbeats 1000000 in
theorem trounded_b (n d L q H P s E F : Nat) (two X : Int) (w : World) (hnb : n < 18446744073709551616) (hL : Lib.bitLen n = L) (hd0 : 1 ≤ d) (hd3 : d ≤ 10) (k1 : IntKind.i64.wrap (-1074 - two) = -1074 - two) (k2 : IntKind.i64.wrap ((L : Int) - 53) = (L : Int) - 53) (hd : max ((L : Int) - 53) (-1074 - two) = (d : Int))
  (q1 : (n : Int) / 2 ^ d = (q : Int)) (q2 : IntKind.u64.wrap (2 ^ d) = (P : Int)) (q3 : IntKind.u64.wrap ((P : Int) - 1) = (P : Int) - 1) (q4 : IntKind.u64.wrap (2 ^ (d - 1)) = (H : Int)) (q5 : bits BinOp.and IntKind.u64 (n : Int) ((P : Int) - 1) = (H : Int)) (q6 : bits BinOp.and IntKind.u64 (q : Int) 1 = (s : Int)) (q7 : IntKind.u64.wrap ((q : Int) + 1) = (q : Int) + 1) (q8 : wrap64 (two + (d : Int)) = X)
  (t3 : ((s : Int) == 1) = true) (hE : (q : Int) + 1 = (E : Int))
  (C2 : Hid (∀ W, Cq 206 #[.float .f64 (floatOfInt .f64 (E : Int)), .int .i64 X] (.float .f64 F) W)) :
  Ct 199 #[.int .u64 n, .int .i64 two] (.float .f64 F) w := by
 have C1 := Lib.hid (fun W => (Tryz.bits_Len64 (n : Int) W (by omega) (by omega)).mono fun e w' h => And.intro h.1 h.2.symm)
 rw [Int.toNat_natCast, hL] at C1
 have k3 : (0 : Int) ≤ (d : Int) := by omega
 have k4 : (0 : Int) ≤ (d : Int) - 1 := by omega
 rw [← hE] at C2
 have Q1 := Lib.hid q1
 have Q2 := Lib.hid q2
 have Q3 := Lib.hid q3
 have Q4 := Lib.hid q4
 have Q5 := Lib.hid q5
 have Q6 := Lib.hid q6
 have Q7 := Lib.hid q7
 have Q8 := Lib.hid q8
 have T3 := Lib.hid t3
 clear t3 hL hnb hE q1 q2 q3 q4 q5 q6 q7 q8
 go_enter Tryz.func199, Tryz.ntmps199
 go_wp2_with fail
 refine (C1.out _).mono ?_
 rintro e w' ⟨rfl, rfl⟩
 go_wp2
 go_quiet (fail)
 have q1 := Q1.out
 have q2 := Q2.out
 have q3 := Q3.out
 have q4 := Q4.out
 have q5 := Q5.out
 have q6 := Q6.out
 have q7 := Q7.out
 have q8 := Q8.out
 have t3 := T3.out
 go_wp2_with fail
 refine (C2.out _).mono ?_
 rintro e w' ⟨rfl, rfl⟩
 go_wp2
 go_ret
 exact ⟨rfl, below_drewN' (Below.refl _ _) _⟩
set_option maxRecDepth 100000 in
set_option maxHeartbeats 1000000 in
theorem trounded_c (n d L q H P s E F : Nat) (two X : Int) (w : World) (hnb : n < 18446744073709551616) (hL : Lib.bitLen n = L) (hd0 : 1 ≤ d) (hd3 : d ≤ 10) (k1 : IntKind.i64.wrap (-1074 - two) = -1074 - two) (k2 : IntKind.i64.wrap ((L : Int) - 53) = (L : Int) - 53) (hd : max ((L : Int) - 53) (-1074 - two) = (d : Int))
  (q1 : (n : Int) / 2 ^ d = (q : Int)) (q2 : IntKind.u64.wrap (2 ^ d) = (P : Int)) (q3 : IntKind.u64.wrap ((P : Int) - 1) = (P : Int) - 1) (q4 : IntKind.u64.wrap (2 ^ (d - 1)) = (H : Int)) (q5 : bits BinOp.and IntKind.u64 (n : Int) ((P : Int) - 1) = (H : Int)) (q6 : bits BinOp.and IntKind.u64 (q : Int) 1 = (s : Int)) (q7 : IntKind.u64.wrap ((q : Int) + 1) = (q : Int) + 1) (q8 : wrap64 (two + (d : Int)) = X)
  (t3 : ((s : Int) == 1) = false) (hE : (q : Int) = (E : Int))
  (C2 : Hid (∀ W, Cq 206 #[.float .f64 (floatOfInt .f64 (E : Int)), .int .i64 X] (.float .f64 F) W)) :
  Ct 199 #[.int .u64 n, .int .i64 two] (.float .f64 F) w := by
 have C1 := Lib.hid (fun W => (Tryz.bits_Len64 (n : Int) W (by omega) (by omega)).mono fun e w' h => And.intro h.1 h.2.symm)
 rw [Int.toNat_natCast, hL] at C1
 have k3 : (0 : Int) ≤ (d : Int) := by omega
 have k4 : (0 : Int) ≤ (d : Int) - 1 := by omega
 rw [← hE] at C2
 have Q1 := Lib.hid q1
 have Q2 := Lib.hid q2
 have Q3 := Lib.hid q3
 have Q4 := Lib.hid q4
 have Q5 := Lib.hid q5
 have Q6 := Lib.hid q6
 have Q7 := Lib.hid q7
 have Q8 := Lib.hid q8
 have T3 := Lib.hid t3
 clear t3 hL hnb hE q1 q2 q3 q4 q5 q6 q7 q8
 go_enter Tryz.func199, Tryz.ntmps199
 go_wp2_with fail
 refine (C1.out _).mono ?_
 rintro e w' ⟨rfl, rfl⟩
 go_wp2
 go_quiet (fail)
 have q1 := Q1.out
 have q2 := Q2.out
 have q3 := Q3.out
 have q4 := Q4.out
 have q5 := Q5.out
 have q6 := Q6.out
 have q7 := Q7.out
 have q8 := Q8.out
 have t3 := T3.out
 go_wp2_with fail
 refine (C2.out _).mono ?_
 rintro e w' ⟨rfl, rfl⟩
 go_wp2
 go_ret
 exact ⟨rfl, below_drewN' (Below.refl _ _) _⟩
set_option maxRecDepth 100000 in
set_option maxHeartbeats 1000000 in
theorem trounded_d (n d L q H P r s E F : Nat) (two X : Int) (w : World) (hnb : n < 18446744073709551616) (hL : Lib.bitLen n = L) (hd0 : 1 ≤ d) (hd3 : d ≤ 10) (k1 : IntKind.i64.wrap (-1074 - two) = -1074 - two) (k2 : IntKind.i64.wrap ((L : Int) - 53) = (L : Int) - 53) (hd : max ((L : Int) - 53) (-1074 - two) = (d : Int))
  (q1 : (n : Int) / 2 ^ d = (q : Int)) (q2 : IntKind.u64.wrap (2 ^ d) = (P : Int)) (q3 : IntKind.u64.wrap ((P : Int) - 1) = (P : Int) - 1) (q4 : IntKind.u64.wrap (2 ^ (d - 1)) = (H : Int)) (q5 : bits BinOp.and IntKind.u64 (n : Int) ((P : Int) - 1) = (r : Int)) (q6 : bits BinOp.and IntKind.u64 (q : Int) 1 = (s : Int)) (q7 : IntKind.u64.wrap ((q : Int) + 1) = (q : Int) + 1) (q8 : wrap64 (two + (d : Int)) = X)
  (t1 : decide (H < r) = false) (t2 : ((r : Int) == (H : Int)) = false) (hE : (q : Int) = (E : Int))
  (C2 : Hid (∀ W, Cq 206 #[.float .f64 (floatOfInt .f64 (E : Int)), .int .i64 X] (.float .f64 F) W)) :
  Ct 199 #[.int .u64 n, .int .i64 two] (.float .f64 F) w := by
 have C1 := Lib.hid (fun W => (Tryz.bits_Len64 (n : Int) W (by omega) (by omega)).mono fun e w' h => And.intro h.1 h.2.symm)
 rw [Int.toNat_natCast, hL] at C1
 have k3 : (0 : Int) ≤ (d : Int) := by omega
 have k4 : (0 : Int) ≤ (d : Int) - 1 := by omega
 rw [← hE] at C2
 have Q1 := Lib.hid q1
 have Q2 := Lib.hid q2
 have Q3 := Lib.hid q3
 have Q4 := Lib.hid q4
 have Q5 := Lib.hid q5
 have Q6 := Lib.hid q6
 have Q7 := Lib.hid q7
 have Q8 := Lib.hid q8
 have T1 := Lib.hid t1
 have T2 := Lib.hid t2
 clear t1 t2 hL hnb hE q1 q2 q3 q4 q5 q6 q7 q8
 go_enter Tryz.func199, Tryz.ntmps199
 go_wp2_with fail
 refine (C1.out _).mono ?_
 rintro e w' ⟨rfl, rfl⟩
 go_wp2
 go_quiet (fail)
 have q1 := Q1.out
 have q2 := Q2.out
 have q3 := Q3.out
 have q4 := Q4.out
 have q5 := Q5.out
 have q6 := Q6.out
 have q7 := Q7.out
 have q8 := Q8.out
 have t1 := T1.out
 have t2 := T2.out
 go_wp2_with fail
 refine (C2.out _).mono ?_
 rintro e w' ⟨rfl, rfl⟩
 go_wp2
 go_ret
 exact ⟨rfl, below_drewN' (Below.refl _ _) _⟩

end Go.Proofs.YtfcpkdafkmohkaaGreatDoor
namespace Go.Proofs.YtfcpkdafkmohkaaGreatDoor
open Go.RowKit
theorem bit_bounds {n : Nat} (hn : n < 9223372036854775808) : n < 2 ^ Lib.bitLen n ∧ (Lib.bitLen n = 0 ∨ 2 ^ (Lib.bitLen n - 1) ≤ n) ∧ Lib.bitLen n ≤ 63 := by
 have h63 := Lib.bitLen_le n 63 (by omega) (by rw [show (2 : Nat) ^ 63 = 9223372036854775808 by decide]; exact hn)
 rcases Nat.eq_zero_or_pos n with h0 | h0
 ·rw [h0, show Lib.bitLen 0 = 0 by decide]
  exact ⟨by decide, Or.inl rfl, by omega⟩
 ·have h := Lib.bitLenAux_bounds 64 n (by omega) (by omega)
  exact ⟨h.2.2, Or.inr h.2.1, h63⟩
set_option maxRecDepth 100000 in
theorem trounded_any (n : Nat) (two : Int) (w : World) (hn : n < 9223372036854775808) (h1 : -1076 ≤ two) (h2 : two ≤ 6000) (hb : two = -1076 ∨ 2 ^ 60 ≤ n) :
  Ct 199 #[.int .u64 n, .int .i64 two] (.float .f64 (rnd (n * 2 ^ (two + 1074).toNat) (2 ^ (-(two + 1074)).toNat))) w := by
 obtain ⟨b1, b2, b3⟩ := bit_bounds hn
 obtain ⟨L, hL⟩ : ∃ L, Lib.bitLen n = L := ⟨_, rfl⟩
 rw [hL] at b1 b2 b3
 have hL60 : two = -1076 ∨ 61 ≤ L := by
  rcases hb with h | h
  ·exact Or.inl h
  ·refine Or.inr ?_
   have := (Nat.pow_lt_pow_iff_right (a := 2) (by omega)).1 (Nat.lt_of_le_of_lt h b1)
   omega
 obtain ⟨d, hd⟩ : ∃ d : Nat, max ((L : Int) - 53) (-1074 - two) = (d : Int) := ⟨(max ((L : Int) - 53) (-1074 - two)).toNat, by omega⟩
 have hd2 : 2 ≤ d := by omega
 have hd3 : d ≤ 10 := by omega
 obtain ⟨D, hD⟩ : ∃ D : Nat, two + d + 1074 = (D : Int) := ⟨(two + d + 1074).toNat, by omega⟩
 obtain ⟨A, hA⟩ : ∃ A, (two + 1074).toNat = A := ⟨_, rfl⟩
 obtain ⟨B, hB⟩ : ∃ B, (-(two + 1074)).toNat = B := ⟨_, rfl⟩
 rw [hA, hB]
 obtain ⟨r1, r2, r3⟩ := rnd_drop (n := n) (L := L) (drop := d) (A := A) (B := B) (D := D) b1 b2 (by omega) (by omega) (by omega)
 rw [r1]
 obtain ⟨E, hE⟩ : ∃ E, ediv n (2 ^ d) = E := ⟨_, rfl⟩
 rw [hE] at r2 r3 ⊢
 have C2 : Hid (∀ W, Cq 206 #[.float .f64 (floatOfInt .f64 (E : Int)), .int .i64 (two + d)] (.float .f64 (min (D * 4503599627370496 + E) 9218868437227405312)) W) :=
  Lib.hid (fun W => Ld_make2 (D := D) r2 r3 (by omega) (by omega) W)
 obtain ⟨c, rfl⟩ : ∃ c, d = c + 1 := ⟨d - 1, by omega⟩
 have hP : 2 ^ (c + 1) = 2 * 2 ^ c := by rw [Nat.pow_succ, Nat.mul_comm]
 obtain ⟨H, hH⟩ : ∃ H, 2 ^ c = H := ⟨_, rfl⟩
 rw [hH] at hP
 have hH0 : 0 < H := by rw [← hH]; exact two_pos c
 have hH9 : H ≤ 512 := by
  rw [← hH]
  have := Nat.pow_le_pow_right (n := 2) (by omega) (show c ≤ 9 by omega)
  omega
 obtain ⟨P, hPP⟩ : ∃ P, 2 ^ (c + 1) = P := ⟨_, rfl⟩
 rw [hPP] at hP
 have cast : ∀ k : Nat, ((2 : Int) ^ k) = ((2 ^ k : Nat) : Int) := fun k => by simp
 obtain ⟨q, hq⟩ : ∃ q, n / P = q := ⟨_, rfl⟩
 obtain ⟨r, hr⟩ : ∃ r, n % P = r := ⟨_, rfl⟩
 have hql : q ≤ n := by rw [← hq]; exact Nat.div_le_self _ _
 have hrl : r < P := by rw [← hr]; exact Nat.mod_lt _ (by omega)
 have q1 : (n : Int) / 2 ^ (c + 1) = (q : Int) := by rw [cast, hPP, ← hq]; exact (Int.natCast_ediv n P).symm
 have q2 : IntKind.u64.wrap (2 ^ (c + 1)) = (P : Int) := by rw [cast, hPP]; exact IntWalk.u64_in _ (by omega)
 have q3 : IntKind.u64.wrap ((P : Int) - 1) = (P : Int) - 1 := IntWalk.u64_in _ (by omega)
 have q4 : IntKind.u64.wrap (2 ^ (c + 1 - 1)) = (H : Int) := by rw [Nat.add_sub_cancel, cast, hH]; exact IntWalk.u64_in _ (by omega)
 have q5 : bits BinOp.and IntKind.u64 (n : Int) ((P : Int) - 1) = (r : Int) := by
  rw [show ((P : Int) - 1) = ((P - 1 : Nat) : Int) by omega, u64_and_nat _ _ (by omega) (by omega), ← hPP, Nat.and_two_pow_sub_one_eq_mod, hPP, hr]
 have q6 : bits BinOp.and IntKind.u64 (q : Int) 1 = ((q % 2 : Nat) : Int) := by
  have := u64_and_nat q 1 (by omega) (by omega)
  rw [show ((1 : Nat) : Int) = 1 from rfl] at this
  rw [this, show (1 : Nat) = 2 ^ 1 - 1 from rfl, Nat.and_two_pow_sub_one_eq_mod]
 have q7 : IntKind.u64.wrap ((q : Int) + 1) = (q : Int) + 1 := IntWalk.u64_in _ (by omega)
 have q8 : wrap64 (two + ((c + 1 : Nat) : Int)) = two + ((c + 1 : Nat) : Int) := by
  unfold wrap64; omega
 have k1 : IntKind.i64.wrap (-1074 - two) = -1074 - two := IntWalk.i64_in _ (by omega)
 have k2 : IntKind.i64.wrap ((L : Int) - 53) = (L : Int) - 53 := IntWalk.i64_in _ (by omega)
 have hEE : E = if H < r ∨ (r = H ∧ q % 2 = 1) then q + 1 else q := by
  rw [← hE, hPP, hP, ediv_half', ← hP, hq, hr]
 rcases Nat.lt_trichotomy r H with h | h | h
 ·rw [if_neg (by omega)] at hEE
  exact trounded_d n (c + 1) L q H P r (q % 2) E _ two _ w (by omega) hL (by omega) hd3 k1 k2 hd q1 q2 q3 q4 q5 q6 q7 q8 (decide_eq_false (by omega)) (by rw [beq_eq_false_iff_ne]; omega) (by rw [hEE]) C2
 ·subst h
  by_cases ho : q % 2 = 1
  ·rw [if_pos (Or.inr ⟨rfl, ho⟩)] at hEE
   exact trounded_b n (c + 1) L q r P (q % 2) E _ two _ w (by omega) hL (by omega) hd3 k1 k2 hd q1 q2 q3 q4 q5 q6 q7 q8 (by rw [ho]; rfl) (by rw [hEE]; rfl) C2
  ·rw [if_neg (by omega)] at hEE
   exact trounded_c n (c + 1) L q r P (q % 2) E _ two _ w (by omega) hL (by omega) hd3 k1 k2 hd q1 q2 q3 q4 q5 q6 q7 q8 (by rw [beq_eq_false_iff_ne]; omega) (by rw [hEE]) C2
 ·rw [if_pos (Or.inl h)] at hEE
  exact trounded_a n (c + 1) L q H P r (q % 2) E _ two _ w (by omega) hL (by omega) hd3 k1 k2 hd q1 q2 q3 q4 q5 q6 q7 q8 (decide_eq_true h) (by rw [hEE]; rfl) C2
theorem quot_bits {a b x y p q : Nat} (ha1 : 2 ^ p ≤ a) (ha2 : a < 2 ^ (p + 1)) (hb1 : 2 ^ q ≤ b) (hb2 : b < 2 ^ (q + 1)) (k : Nat) :
  (p + 1 + x ≤ k + q + y → a * 2 ^ x / (b * 2 ^ y) < 2 ^ k) ∧ (k + q + 1 + y ≤ p + x → 2 ^ k ≤ a * 2 ^ x / (b * 2 ^ y)) := by
 have hX := two_pos x
 have hY := two_pos y
 have hb : 0 < b := Nat.lt_of_lt_of_le (two_pos q) hb1
 constructor
 ·intro h
  rw [Nat.div_lt_iff_lt_mul (Nat.mul_pos hb hY)]
  have h1 : a * 2 ^ x < 2 ^ (p + 1) * 2 ^ x := Nat.mul_lt_mul_of_pos_right ha2 hX
  have h2 : 2 ^ k * (2 ^ q * 2 ^ y) ≤ 2 ^ k * (b * 2 ^ y) := Nat.mul_le_mul_left _ (Nat.mul_le_mul_right _ hb1)
  have h3 : 2 ^ (p + 1) * 2 ^ x ≤ 2 ^ k * (2 ^ q * 2 ^ y) := by
   rw [← Nat.pow_add, ← Nat.pow_add, ← Nat.pow_add]
   exact Nat.pow_le_pow_right (by omega) (by omega)
  omega
 ·intro h
  rw [Nat.le_div_iff_mul_le (Nat.mul_pos hb hY)]
  have h1 : 2 ^ p * 2 ^ x ≤ a * 2 ^ x := Nat.mul_le_mul_right _ ha1
  have h2 : 2 ^ k * (b * 2 ^ y) ≤ 2 ^ k * (2 ^ (q + 1) * 2 ^ y) := Nat.mul_le_mul_left _ (Nat.mul_le_mul_right _ (Nat.le_of_lt hb2))
  have h3 : 2 ^ k * (2 ^ (q + 1) * 2 ^ y) ≤ 2 ^ p * 2 ^ x := by
   rw [← Nat.pow_add, ← Nat.pow_add, ← Nat.pow_add]
   exact Nat.pow_le_pow_right (by omega) (by omega)
  omega
def NearP (m : Nat) (ten : Int) (w : World) (e : Ending) (w' : World) : Prop := e = .returned (.float .f64 (decR m ten)) ∧ Below w.heap.size w w'
set_option maxRecDepth 100000 in
set_option maxHeartbeats 2000000 in
theorem tnearest_walk {w : World} {A : Option Addr} {n c m T B bt bb q nn F : Nat} {ten x1 x2 x3 last two : Int} {ex : Bool} (hA : NV w A n c m)
  (C1 : Hid (∀ W, NV W A n c m → Cp 185 #[.slice A n c, .int .i64 ten] W (NRet T W)))
  (C3 : Hid (∀ W A1 n1 c1, NV W A1 n1 c1 1 → Cp 185 #[.slice A1 n1 c1, .int .i64 (-ten)] W (NRet B W)))
  (C4 : Hid (∀ W A1 n1 c1, NV W A1 n1 c1 T → Cq 156 #[.slice A1 n1 c1] (.int .i64 (bt : Nat)) W))
  (C5 : Hid (∀ W A1 n1 c1, NV W A1 n1 c1 B → Cq 156 #[.slice A1 n1 c1] (.int .i64 (bb : Nat)) W))
  (C6 : Hid (∀ W A1 n1 c1 A2 n2 c2, NV W A1 n1 c1 T → NV W A2 n2 c2 B → Cp 109 #[.slice A1 n1 c1, .slice A2 n2 c2, .int .i64 two] W fun e w' => ∃ A3 n3 c3, e = .returned (.tuple #[.slice A3 n3 c3, .bool ex]) ∧ NV w' A3 n3 c3 q ∧ Below W.heap.size W w'))
  (C7 : Hid (∀ W A1 n1 c1, NV W A1 n1 c1 q → Cq 159 #[.slice A1 n1 c1] (.int .u64 q) W))
  (C8 : Hid (∀ W, Ct 199 #[.int .u64 nn, .int .i64 last] (.float .f64 F) W))
  (k1 : IntKind.i64.wrap (-ten) = -ten) (k2 : IntKind.i64.wrap ((bt : Int) - (bb : Int)) = x1) (k3 : IntKind.i64.wrap (x1 + ten) = x2) (k4 : IntKind.i64.wrap (x2 - 62) = x3) (hmax : max x3 (-1076) = last) (k5 : IntKind.i64.wrap (ten - last) = two)
  (hor : (ex = true ∧ nn = q) ∨ (ex = false ∧ bits BinOp.or IntKind.u64 (q : Int) 1 = (nn : Int))) :
  Ct 135 #[.slice A n c, .int .i64 ten] (.float .f64 F) w := by
 have C2 := Lib.hid (fun W => nof 1 (by omega) W)
 have HA := Lib.hid hA
 clear hA
 rcases hor with ⟨rfl, rfl⟩ | ⟨rfl, hor⟩
 all_goals
  go_enter Tryz.func135, Tryz.ntmps135
  go_wp2_with fail
  refine (C1.out _ HA.out).mono ?_
  rintro e w1 ⟨A1, n1, c1, rfl, g1, b1⟩
  have G1 := Lib.hid g1
  have B1 := Lib.hid b1
  clear g1 b1
  go_wp2_with fail
  refine (C2.out _).mono ?_
  rintro e w2 ⟨A2, n2, c2, rfl, g2, b2⟩
  have G2 := Lib.hid g2
  have G1' := Lib.hid (G1.out.step b2)
  have B2 := Lib.hid (below_le B1.out b2)
  clear g2 b2
  go_wp2_with fail
  refine (C3.out _ _ _ _ G2.out).mono ?_
  rintro e w3 ⟨A3, n3, c3, rfl, g3, b3⟩
  have G3 := Lib.hid g3
  have G1'' := Lib.hid (G1'.out.step b3)
  have B3 := Lib.hid (below_le B2.out b3)
  clear g3 b3
  go_wp2_with fail
  refine (C4.out _ _ _ _ G1''.out).mono ?_
  rintro e w' ⟨rfl, rfl⟩
  go_wp2_with fail
  refine (C5.out _ _ _ _ G3.out).mono ?_
  rintro e w' ⟨rfl, rfl⟩
  go_wp2_with fail
  refine (C6.out _ _ _ _ _ _ _ G1''.out G3.out).mono ?_
  rintro e w4 ⟨A4, n4, c4, rfl, g4, b4⟩
  have G4 := Lib.hid g4
  have B4 := Lib.hid (below_le B3.out b4)
  clear g4 b4
  go_wp2_with fail
  refine (C7.out _ _ _ _ G4.out).mono ?_
  rintro e w' ⟨rfl, rfl⟩
  go_wp2_with fail
  refine (C8.out _).mono ?_
  rintro e w5 ⟨rfl, b5⟩
  have B5 := Lib.hid (below_le B4.out b5)
  clear b5
  go_wp2
  go_ret
  exact ⟨rfl, B5.out⟩

end Go.Proofs.YtfcpkdafkmohkaaGreatDoor
namespace Go.Proofs.YtfcpkdafkmohkaaGreatDoor
open Go.RowKit
theorem or_small {q s : Nat} (hq : q < 9223372036854775808) (hs : s ≤ 1) : q ||| s < 9223372036854775808 ∧ q ≤ q ||| s := by
 refine ⟨?_, Nat.left_le_or⟩
 have : q ||| s < 2 ^ 63 := Nat.or_lt_two_pow (by rw [show (2 : Nat) ^ 63 = 9223372036854775808 by decide]; exact hq) (by rw [show (2 : Nat) ^ 63 = 9223372036854775808 by decide]; omega)
 rw [show (2 : Nat) ^ 63 = 9223372036854775808 by decide] at this
 exact this
theorem tnearest_any {w : World} {A : Option Addr} {n c m : Nat} (ten : Int) (hA : NV w A n c m) (hm : bln m ≤ 3300) (h0 : 0 < m) (ht1 : -1200 ≤ ten) (ht2 : ten ≤ 400) :
  Cp 135 #[.slice A n c, .int .i64 ten] w (NearP m ten w) := by
 have f1 := bln_five ten.toNat
 have f2 := bln_five (-ten).toNat
 have g1 := bln_mul m (5 ^ ten.toNat)
 have p1 : 0 < 5 ^ ten.toNat := Nat.pow_pos (by omega)
 have p2 : 0 < 5 ^ (-ten).toNat := Nat.pow_pos (by omega)
 have e1 : 1 * 5 ^ (-ten).toNat = 5 ^ (-ten).toNat := Nat.one_mul _
 have C1 := Lib.hid (fun W (h : NV W A n c m) => traised_any ten h (by omega) (by omega) (by omega))
 have C3 := Lib.hid (fun W A1 n1 c1 (h : NV W A1 n1 c1 1) => traised_any (-ten) h (by rw [show bln 1 = 1 by decide]; omega) (by omega) (by omega))
 rw [e1] at C3
 obtain ⟨T, hT⟩ : ∃ T, m * 5 ^ ten.toNat = T := ⟨_, rfl⟩
 obtain ⟨B, hB⟩ : ∃ B, 5 ^ (-ten).toNat = B := ⟨_, rfl⟩
 have hT0 : 0 < T := by rw [← hT]; exact Nat.mul_pos h0 p1
 rw [hT] at C1 g1
 rw [hB] at C3 f2 p2
 obtain ⟨u1, u2, u3⟩ := bln_bounds hT0
 obtain ⟨v1, v2, v3⟩ := bln_bounds p2
 have C4 := Lib.hid (fun W A1 n1 c1 (h : NV W A1 n1 c1 T) => nbits h (by omega))
 have C5 := Lib.hid (fun W A1 n1 c1 (h : NV W A1 n1 c1 B) => nbits h (by omega))
 have cr := fun (t : Int) (h1 : -8000 ≤ t) (h2 : t ≤ 8000) W A1 n1 c1 A2 n2 c2 (h : NV W A1 n1 c1 T) (g : NV W A2 n2 c2 B) => tratio_any t h g (by omega) (by omega) p2 h1 h2
 obtain ⟨bt, hbt⟩ : ∃ bt, bln T = bt := ⟨_, rfl⟩
 obtain ⟨bb, hbb⟩ : ∃ bb, bln B = bb := ⟨_, rfl⟩
 rw [hbt] at C4 u1 u2 u3 g1
 rw [hbb] at C5 v1 v2 v3 f2
 obtain ⟨p, rfl⟩ : ∃ p, bt = p + 1 := ⟨bt - 1, by omega⟩
 obtain ⟨r, rfl⟩ : ∃ r, bb = r + 1 := ⟨bb - 1, by omega⟩
 rw [Nat.add_sub_cancel] at u1 v1
 obtain ⟨x1, hx1⟩ : ∃ x1, ((p + 1 : Nat) : Int) - ((r + 1 : Nat) : Int) = x1 := ⟨_, rfl⟩
 obtain ⟨x2, hx2⟩ : ∃ x2, x1 + ten = x2 := ⟨_, rfl⟩
 obtain ⟨x3, hx3⟩ : ∃ x3, x2 - 62 = x3 := ⟨_, rfl⟩
 obtain ⟨last, hlast⟩ : ∃ last, max x3 (-1076) = last := ⟨_, rfl⟩
 obtain ⟨two, htwo⟩ : ∃ two, ten - last = two := ⟨_, rfl⟩
 have C6 := cr two (by omega) (by omega)
 obtain ⟨q1, q2⟩ := quot_bits (x := two.toNat) (y := (-two).toNat) u1 u2 v1 v2 63
 have q3 := (quot_bits (x := two.toNat) (y := (-two).toNat) u1 u2 v1 v2 60).2
 have hql := q1 (by omega)
 have hqb : last = -1076 ∨ 2 ^ 60 ≤ T * 2 ^ two.toNat / (B * 2 ^ (-two).toNat) := by
  by_cases hh : last = -1076
  ·exact Or.inl hh
  ·exact Or.inr (q3 (by omega))
 obtain ⟨N, hN⟩ : ∃ N, T * 2 ^ two.toNat = N := ⟨_, rfl⟩
 obtain ⟨d, hd⟩ : ∃ d, B * 2 ^ (-two).toNat = d := ⟨_, rfl⟩
 have hd0 : 0 < d := by rw [← hd]; exact Nat.mul_pos p2 (two_pos _)
 rw [hN, hd] at C6 hql hqb
 obtain ⟨q, hq⟩ : ∃ q, N / d = q := ⟨_, rfl⟩
 obtain ⟨t, ht⟩ : ∃ t, N % d = t := ⟨_, rfl⟩
 have hNd : N = q * d + t := by rw [← hq, ← ht, Nat.mul_comm]; exact (Nat.div_add_mod N d).symm
 have htd : t < d := by rw [← ht]; exact Nat.mod_lt _ hd0
 unfold QRet at C6
 rw [ht, hq] at C6
 rw [hq] at hql hqb
 rw [show (2 : Nat) ^ 63 = 9223372036854775808 by decide] at hql
 obtain ⟨s, hs⟩ : ∃ s, (if t = 0 then 0 else 1) = s := ⟨_, rfl⟩
 have hs1 : s ≤ 1 := by rw [← hs]; split <;> omega
 obtain ⟨o1, o2⟩ := or_small hql hs1
 obtain ⟨nn, hnn⟩ : ∃ nn, q ||| s = nn := ⟨_, rfl⟩
 have key := decR_near (m := m) (N := N) (n := d) (q := q) (t := t) (s := s) (ten := ten) (last := last) (by rw [← hN, ← hT, htwo]) (by rw [← hd, ← hB, show last - ten = -two by omega]) hNd htd hs.symm hqb
 rw [hnn] at key o1 o2
 have C8 := fun W => trounded_any nn last W o1 (by omega) (by omega) (by
  rcases hqb with h | h
  ·exact Or.inl h
  ·exact Or.inr (Nat.le_trans h o2))
 rw [← key] at C8
 refine tnearest_walk (q := q) (nn := nn) (two := two) (last := last) (x1 := x1) (x2 := x2) (x3 := x3) (ex := decide (t = 0)) hA C1 C3 C4 C5 (Lib.hid C6)
  (Lib.hid (fun W A1 n1 c1 h => tword_any h (by omega))) (Lib.hid C8) (IntWalk.i64_in _ (by omega)) (by rw [IntWalk.i64_in _ (by omega)]; exact hx1) (by rw [IntWalk.i64_in _ (by omega)]; exact hx2) (by rw [IntWalk.i64_in _ (by omega)]; exact hx3) hlast (by rw [IntWalk.i64_in _ (by omega)]; exact htwo) ?_
 by_cases h : t = 0
 ·refine Or.inl ⟨decide_eq_true h, ?_⟩
  rw [← hnn, ← hs, if_pos h, Nat.or_zero]
 ·refine Or.inr ⟨decide_eq_false h, ?_⟩
  have := or_u64 q 1 (by omega) (by omega)
  rw [show ((1 : Nat) : Int) = 1 from rfl] at this
  rw [this, ← hnn, ← hs, if_neg h]

end Go.Proofs.YtfcpkdafkmohkaaGreatDoor
namespace Go.Proofs.YtfcpkdafkmohkaaGreatDoor
open Go.RowKit
theorem dg_byte {l : List Nat} (h : ∀ c ∈ l, dg10 c = true) : ∀ c ∈ l, c < 256 := fun c hc => by
 have := dg10_iff.1 (h c hc)
 omega
theorem parse_dec (l : List Nat) (w : World) (hd : ∀ c ∈ l, dg10 c = true) (h0 : l ≠ []) (hl : l.length ≤ 801) : Cp 134 #[.string (strOf l), .int .i64 10] w (NOk (num 10 l) w) := by
 have hb := bl_strOf (dg_byte hd)
 have h := parse_ok (strOf l) 10 w (by rw [strOf_size]; omega) (by omega) (by omega) (adB_all (by rw [hb]; exact h0) (by rw [hb]; exact fun c hc => (dgt_ten (hd c hc)).2))
 rw [sv_num, hb] at h
 refine h.mono fun e w' x => NOk.of (lng_bln ?_) x
 have h1 := num_hi hd
 have h2 := bln_mono (Nat.le_of_lt h1)
 have h3 := bln_ten l.length
 omega
theorem bln_dec {l : List Nat} (hd : ∀ c ∈ l, dg10 c = true) (hl : l.length ≤ 801) : bln (num 10 l) ≤ 3300 := by
 have h2 := bln_mono (Nat.le_of_lt (num_hi hd))
 have h3 := bln_ten l.length
 omega
theorem tfloat_any (W F : List Nat) (X : Int) (w : World) (hW : ∀ c ∈ W, dg10 c = true) (hF : ∀ c ∈ F, dg10 c = true) (hs : W.length + F.length ≤ 4611686018427387903) (hX : -10995116277760 < X ∧ X < 10995116277760) :
  Ct 69 #[.agg #[.string (strOf W), .string (strOf F), .int .i64 X]] (.float .f64 (decR (num 10 (W ++ F)) (X - F.length))) w := by
 obtain ⟨f, hf⟩ : ∃ f, W ++ F = f := ⟨_, rfl⟩
 have hd : ∀ c ∈ f, dg10 c = true := by
  intro c hc
  rw [← hf] at hc
  rcases List.mem_append.1 hc with h | h
  ·exact hW c h
  ·exact hF c h
 have hfl : f.length = W.length + F.length := by rw [← hf, List.length_append]
 rw [hf]
 have hg : ∀ c ∈ ldz f, dg10 c = true := fun c hc => hd c (ldz_mem hc)
 have hh : ∀ c ∈ trz (ldz f), dg10 c = true := fun c hc => hg c (trz_mem hc)
 have hgl : (ldz f).length ≤ f.length := (List.dropWhile_sublist _).length_le
 have htl := trz_len (ldz f)
 have hcat : strOf W ++ strOf F = strOf f := by rw [strOf_append, hf]
 have C1 : Hid (∀ V, Ct 133 #[.string (strOf W ++ strOf F), .string ⟨#[48]⟩] (.string (strOf (ldz f))) V) := Lib.hid (fun V => by
  have := trimL48 (strOf f) V
  rw [bl_strOf (dg_byte hd)] at this
  rw [hcat]
  exact this)
 have C2 : Hid (∀ V, Ct 113 #[.string (strOf (ldz f)), .string ⟨#[48]⟩] (.string (strOf (trz (ldz f)))) V) := Lib.hid (fun V => by
  have := trimR48 (strOf (ldz f)) V (by rw [strOf_size]; omega)
  rw [bl_strOf (dg_byte hg)] at this
  exact this)
 have z1 := strOf_size (ldz f)
 have z2 := strOf_size F
 have z3 := strOf_size (trz (ldz f))
 have z4 := strOf_size W
 obtain ⟨P, hP⟩ : ∃ P, ((ldz f).length : Int) + (X - F.length) = P := ⟨_, rfl⟩
 have k1 : IntKind.i64.wrap (((strOf (ldz f)).size : Int) - ((strOf F).size : Int)) = ((ldz f).length : Int) - F.length := by rw [z1, z2]; exact IntWalk.i64_in _ (by omega)
 have k2 : IntKind.i64.wrap (((ldz f).length : Int) - F.length + X) = P := by rw [IntWalk.i64_in _ (by omega)]; omega
 by_cases h0 : trz (ldz f) = []
 ·rw [pway_none h0]
  exact tfloat_none _ _ _ _ X _ P w (by omega) C1 C2 k1 k2 (by rw [h0, Lib.toList_data]; rfl)
 ·have t1 := (str_ne h0).2
  by_cases h1 : P < -323
  ·rw [pway_low hd (by omega)]
   exact tfloat_low _ _ _ _ X _ P w (by omega) C1 C2 k1 k2 t1 (decide_eq_true h1)
  ·by_cases h2 : 309 < P
   ·rw [pway_high hd h0 (by omega)]
    exact tfloat_high _ _ _ _ X _ P w (by omega) C1 C2 k1 k2 t1 (decide_eq_false h1) (decide_eq_true h2)
   ·by_cases h3 : 800 < (trz (ldz f)).length
    ·rw [pway_long hd h3 (by omega), show ((ldz f).length : Int) + (X - F.length) - 801 = P - 801 by omega]
     obtain ⟨l, hl⟩ : ∃ l, (trz (ldz f)).take 800 ++ [49] = l := ⟨_, rfl⟩
     have ll : l.length = 801 := by rw [← hl, List.length_append, List.length_take]; simp; omega
     have ld : ∀ c ∈ l, dg10 c = true := by
      intro c hc
      rw [← hl] at hc
      rcases List.mem_append.1 hc with h | h
      ·exact hh c (List.mem_of_mem_take h)
      ·rw [List.mem_singleton.1 h]; rfl
     have lh : l.head? ≠ some 48 := by
      rw [← hl]
      have := trz_head (lead_head f)
      cases ht : trz (ldz f) with
      | nil => exact absurd ht h0
      | cons a b =>
       rw [show List.dropWhile (fun x => x == 48) f = ldz f from rfl, ht] at this
       exact this
     have l0 : l ≠ [] := fun e => by rw [e] at ll; simp at ll
     have lp : 0 < num 10 l := Nat.lt_of_lt_of_le (ten_pos _) (num_lo ld l0 lh)
     have hstr : (strOf (trz (ldz f))).extract 0 800 ++ (⟨#[49]⟩ : ByteArray) = strOf l := by
      rw [ext_take, bl_strOf (dg_byte hh), ← hl, ← strOf_append]
      rfl
     rw [hl]
     have t5 : (800 : Int) ≤ ((strOf (trz (ldz f))).size : Int) := by rw [z3]; omega
     have t4 : decide (800 < ((strOf (trz (ldz f))).size : Int)) = true := decide_eq_true (by rw [z3]; omega)
     have t6 : ((strOf (trz (ldz f))).extract 0 800).size = 800 := by
      rw [ext_take, bl_strOf (dg_byte hh), strOf_size, List.length_take]
      exact Nat.min_eq_left (by omega)
     have k3 : IntKind.i64.wrap (P - 801) = P - 801 := IntWalk.i64_in _ (by omega)
     have C3 : Hid (∀ V, Cp 134 #[.string ((strOf (trz (ldz f))).extract 0 800 ++ (⟨#[49]⟩ : ByteArray)), .int .i64 10] V (NOk (num 10 l) V)) := Lib.hid (fun V => by
      rw [hstr]
      exact parse_dec l V ld l0 (by omega))
     have C4 : Hid (∀ V A n c, NV V A n c (num 10 l) → Ct 135 #[.slice A n c, .int .i64 (P - 801)] (.float .f64 (decR (num 10 l) (P - 801))) V) := Lib.hid (fun V A n c h => tnearest_any (P - 801) h (bln_dec ld (by omega)) lp (by omega) (by omega))
     exact tfloat_long _ _ _ _ X _ P _ (num 10 l) _ w (by omega) C1 C2 k1 k2 t1 (decide_eq_false h1) (decide_eq_false h2) t4 t5 t6 k3 C3 C4
    ·rw [pway_short, show ((ldz f).length : Int) + (X - F.length) - (trz (ldz f)).length = P - (trz (ldz f)).length by omega]
     have lp : 0 < num 10 (trz (ldz f)) := Nat.lt_of_lt_of_le (ten_pos _) (num_lo hh h0 (trz_head (lead_head f)))
     have C3 : Hid (∀ V, Cp 134 #[.string (strOf (trz (ldz f))), .int .i64 10] V (NOk (num 10 (trz (ldz f))) V)) := Lib.hid (fun V => parse_dec _ V hh h0 (by omega))
     obtain ⟨Z, hZ⟩ : ∃ Z, P - ((trz (ldz f)).length : Int) = Z := ⟨_, rfl⟩
     rw [hZ]
     have C4 : Hid (∀ V A n c, NV V A n c (num 10 (trz (ldz f))) → Ct 135 #[.slice A n c, .int .i64 Z] (.float .f64 (decR (num 10 (trz (ldz f))) Z)) V) := Lib.hid (fun V A n c h => tnearest_any Z h (bln_dec hh (by omega)) lp (by omega) (by omega))
     have k3 : IntKind.i64.wrap (P - ((strOf (trz (ldz f))).size : Int)) = Z := by rw [z3, ← hZ]; exact IntWalk.i64_in _ (by omega)
     have t4 : decide (800 < ((strOf (trz (ldz f))).size : Int)) = false := decide_eq_false (by rw [z3]; omega)
     exact tfloat_short _ _ _ _ X _ P Z (num 10 (trz (ldz f))) _ w (by omega) C1 C2 k1 k2 t1 (decide_eq_false h1) (decide_eq_false h2) t4 k3 C3 C4
theorem tfloat_dec (l : List Nat) (w : World) (hs : l.length ≤ 4611686018427387903) :
  Ct 69 #[.agg #[.string (strOf (dW l)), .string (strOf (dF l)), .int .i64 (dX l)]] (.float .f64 (dV l)) w := by
 have h1 := run_len l
 have h2 : (dF l).length ≤ (aft10 l).length := by
  unfold dF
  split
  ·have := run_len (aft10 l).tail
   rw [List.length_tail] at this
   omega
  ·simp
 refine tfloat_any (dW l) (dF l) (dX l) w (run10_all l) ?_ (by unfold dW; omega) (exV_le _)
 intro c hc
 unfold dF at hc
 split at hc
 ·exact run10_all _ c hc
 ·simp at hc

end Go.Proofs.YtfcpkdafkmohkaaGreatDoor
namespace Go.Proofs.YtfcpkdafkmohkaaGreatDoor
open Go.RowKit
theorem fl_decR (N : Nat) : fl N = decR N 0 := by
 obtain ⟨K, hK, hd⟩ := decR_K
 rw [fl_near, near_rnd false (a := K) (b := 0) (by omega), hd, show (0 : Int).toNat = 0 from rfl, show (-(0 : Int)).toNat = 0 from rfl, Nat.pow_zero, Nat.mul_one, word_pos]
theorem decR_top {N : Nat} {D : Nat} (hD : D = 1024) (h : 2 ^ D ≤ N) : decR N 0 = 9218868437227405312 := by
 obtain ⟨K, hK, hd⟩ := decR_K
 rw [hd]
 refine rnd_top (ten_pos _) ?_
 obtain ⟨E, hE⟩ : ∃ E : Nat, E = 2046 := ⟨_, rfl⟩
 have e1 := fmag_make 4503599627370496 E (by omega) (by omega)
 rw [show E * 4503599627370496 + 4503599627370496 = 9218868437227405312 by omega] at e1
 rw [e1, show (0 : Int).toNat = 0 from rfl, show (-(0 : Int)).toNat = 0 from rfl, Nat.pow_zero, Nat.mul_one, Nat.mul_one]
 have h2 : 4503599627370496 * 2 ^ E = 2 ^ D * 2 ^ K := by
  rw [show (4503599627370496 : Nat) = 2 ^ 52 from rfl, ← Nat.pow_add, ← Nat.pow_add]
  exact congrArg (fun k => 2 ^ k) (show 52 + E = D + K by omega)
 rw [h2]
 exact Nat.mul_le_mul_right _ h
theorem dgt_zero {c : Nat} (h : dgt c = 0) : c = 48 := by
 unfold dgt at h
 split at h
 ·omega
 ·split at h
  ·omega
  ·split at h <;> omega
theorem num_lo_r {r : Nat} {g : List Nat} (h0 : g ≠ []) (hh : g.head? ≠ some 48) : r ^ (g.length - 1) ≤ num r g := by
 cases g with
 | nil => exact absurd rfl h0
 | cons c l =>
  have h1 : dgt c ≠ 0 := fun e => hh (by rw [dgt_zero e]; rfl)
  rw [num_cons]
  have h3 : 1 * r ^ l.length ≤ dgt c * r ^ l.length := Nat.mul_le_mul_right _ (by omega)
  simp only [List.length_cons, Nat.add_sub_cancel]
  omega
set_option maxRecDepth 100000 in
set_option maxHeartbeats 1000000 in
theorem twhole_top (s g : ByteArray) (r : Nat) (w : World)
  (C1 : Hid (∀ W, Ct 133 #[.string s, .string ⟨#[48]⟩] (.string g) W)) (t1 : decide (1024 < (g.size : Int)) = true) :
  Ct 89 #[.string s, .int .i64 r] (.float .f64 9218868437227405312) w := by
 have C2 := Lib.hid (fun W => inf1_any W)
 go_enter Tryz.func89, Tryz.ntmps89
 go_wp2_with fail
 refine (C1.out _).mono ?_
 rintro e w1 ⟨rfl, b1⟩
 go_wp2_with fail
 refine (C2.out _).mono ?_
 rintro e w' ⟨rfl, rfl⟩
 go_wp2
 go_ret
 exact ⟨rfl, b1⟩
set_option maxRecDepth 100000 in
set_option maxHeartbeats 1000000 in
theorem twhole_low (s g : ByteArray) (r N : Nat) (w : World)
  (C1 : Hid (∀ W, Ct 133 #[.string s, .string ⟨#[48]⟩] (.string g) W)) (t1 : decide (1024 < (g.size : Int)) = false)
  (C2 : Hid (∀ W, Cp 134 #[.string s, .int .i64 r] W (NOk N W)))
  (C3 : Hid (∀ W A n c, NV W A n c N → Ct 153 #[.slice A n c] (.float .f64 (fl N)) W)) :
  Ct 89 #[.string s, .int .i64 r] (.float .f64 (fl N)) w := by
 go_enter Tryz.func89, Tryz.ntmps89
 go_wp2_with fail
 refine (C1.out _).mono ?_
 rintro e w1 ⟨rfl, b1⟩
 have B1 := Lib.hid b1
 clear b1
 go_wp2_with fail
 refine (C2.out _).mono ?_
 rintro e w2 ⟨A, n, c, rfl, g2, b2⟩
 have G2 := Lib.hid g2
 have B2 := Lib.hid (below_le B1.out b2)
 clear g2 b2
 go_wp2_with fail
 refine (C3.out _ _ _ _ G2.out).mono ?_
 rintro e w3 ⟨rfl, b3⟩
 have B3 := Lib.hid (below_le B2.out b3)
 clear b3
 go_wp2
 go_ret
 exact ⟨rfl, B3.out⟩
theorem natV_lead (r : Nat) (l : List Nat) : natV r (ldz l) = natV r l := by unfold natV ldz; rw [num_lead]
theorem twhole_any (l : List Nat) (r : Nat) (w : World) (h2 : 2 ≤ r) (h36 : r ≤ 36) (h0 : l ≠ []) (hd : ∀ c ∈ l, dgt c < r) (hb : ∀ c ∈ l, c < 256) (hs : l.length ≤ 4611686018427387903) :
  Ct 89 #[.string (strOf l), .int .i64 r] (.float .f64 (natV r l)) w := by
 have C1 : Hid (∀ V, Ct 133 #[.string (strOf l), .string ⟨#[48]⟩] (.string (strOf (ldz l))) V) := Lib.hid (fun V => by
  have := trimL48 (strOf l) V
  rw [bl_strOf hb] at this
  exact this)
 have z1 := strOf_size (ldz l)
 by_cases h : 1024 < (ldz l).length
 ·have key : natV r l = 9218868437227405312 := by
   rw [← natV_lead]
   obtain ⟨D, hD⟩ : ∃ D : Nat, D = 1024 := ⟨_, rfl⟩
   refine decR_top hD ?_
   refine Nat.le_trans ?_ (num_lo_r (r := r) (fun e => by rw [e] at h; simp at h) (lead_head l))
   exact Nat.le_trans (Nat.pow_le_pow_left h2 D) (Nat.pow_le_pow_right (by omega) (by omega))
  rw [key]
  exact twhole_top _ _ r w C1 (decide_eq_true (by rw [z1]; omega))
 ·have hdl : ∀ c ∈ ldz l, dgt c < r := fun c hc => hd c (ldz_mem hc)
  have hnum : num r (ldz l) = num r l := num_lead r l
  have hbn : bln (num r l) ≤ 30000 := by
   rw [← hnum]
   have a1 := bln_mono (Nat.le_of_lt (num_lt hdl))
   have a2 := bln_pow r (ldz l).length
   have a3 : bln r ≤ 6 := bln_le (by omega)
   have a4 : bln r * (ldz l).length ≤ 6 * 1024 := Nat.mul_le_mul a3 (by omega)
   omega
  have C2 : Hid (∀ V, Cp 134 #[.string (strOf l), .int .i64 r] V (NOk (num r l) V)) := Lib.hid (fun V => by
   have hbl := bl_strOf hb
   have h := parse_ok (strOf l) r V (by rw [strOf_size]; exact hs) h2 h36 (adB_all (by rw [hbl]; exact h0) (by rw [hbl]; exact hd))
   rw [sv_num, hbl] at h
   exact h.mono fun e w' x => NOk.of (lng_bln hbn) x)
  have C3 : Hid (∀ V A n c, NV V A n c (num r l) → Ct 153 #[.slice A n c] (.float .f64 (fl (num r l))) V) := Lib.hid (fun V A n c g => by
   have a1 := small_len hbn
   rw [g.len] at a1
   have := pfloat_any A n c (wds (num r l)) V g.len g.cap (by omega) g.row
   rw [wds_val] at this
   exact this)
  have key : natV r l = fl (num r l) := (fl_decR _).symm
  rw [key]
  exact twhole_low _ _ r _ w C1 (decide_eq_false (by rw [z1]; omega)) C2 C3

end Go.Proofs.YtfcpkdafkmohkaaGreatDoor
namespace Go.Proofs.YtfcpkdafkmohkaaGreatDoor
open Go.RowKit
theorem lower_str (l : List Nat) (w : World) (hl : ∀ c ∈ l, c < 128) (hs : l.length ≤ 140737488355328) :
  Ct 87 #[.string (strOf l)] (.string (strOf (l.map lowC))) w := by
 have hb : ∀ c ∈ l, c < 256 := fun c hc => Nat.lt_trans (hl c hc) (by omega)
 have h := Tryz.strings_ToLower_ascii (strOf l) w (by rw [strOf_size]; exact hs) (asc_of (by rw [bl_strOf hb]; exact hl))
 rw [lower_eq (by rw [bl_strOf hb]; exact hl), bl_strOf hb] at h
 exact h
theorem low_lt {l : List Nat} (hl : ∀ c ∈ l, c < 128) : ∀ c ∈ l.map lowC, c < 256 := by
 intro c hc
 obtain ⟨d, hd, rfl⟩ := List.mem_map.1 hc
 have := hl d hd
 unfold lowC
 split <;> omega
theorem cut_low (l : List Nat) (r : Nat) (w : World) (hr : r ≤ 36) (hl : ∀ c ∈ l, c < 128) (hs : l.length ≤ 140737488355328) :
  Ct 86 #[.string (strOf (l.map lowC)), .int .i64 r] (.tuple #[.string (strOf ((l.takeWhile (dgq r)).map lowC)), .string (strOf ((l.dropWhile (dgq r)).map lowC))]) w := by
 have h := tcutDigits_any (strOf (l.map lowC)) r w hr (by rw [strOf_size, List.length_map]; omega)
 rw [bl_strOf (low_lt hl), take_low, drop_low] at h
 exact h
theorem natV_low (r : Nat) (l : List Nat) : natV r (l.map lowC) = natV r l := by unfold natV; rw [num_low]
theorem take_dgq (r : Nat) (l : List Nat) : ∀ c ∈ l.takeWhile (dgq r), dgt c < r := by
 induction l with
 | nil => intro c hc; simp at hc
 | cons d t ih =>
  intro c hc
  rw [List.takeWhile_cons] at hc
  cases hd : dgq r d
  ·rw [hd] at hc; simp at hc
  ·rw [hd] at hc
   simp only [if_true] at hc
   rcases List.mem_cons.1 hc with rfl | h
   ·exact of_decide_eq_true hd
   ·exact ih c h
theorem drop_nil (p : Nat → Bool) : ∀ l : List Nat, l.dropWhile p = [] ↔ l.all p = true
 | [] => by simp
 | c :: l => by
  by_cases h : p c = true
  ·rw [List.dropWhile_cons_of_pos h, List.all_cons, h, Bool.true_and]
   exact drop_nil p l
  ·rw [List.dropWhile_cons_of_neg h, List.all_cons]
   simp [h]
theorem take_all (p : Nat → Bool) : ∀ l : List Nat, l.all p = true → l.takeWhile p = l
 | [], _ => rfl
 | c :: l, h => by
  rw [List.all_cons, Bool.and_eq_true] at h
  rw [List.takeWhile_cons_of_pos h.1, take_all p l h.2]
theorem dgq_hx : dgq 16 = hx16 := rfl
set_option maxRecDepth 100000 in
set_option maxHeartbeats 1000000 in
theorem thex_no (s u : ByteArray) (w : World) (C1 : Hid (∀ W, Cq 85 #[.string s] (.tuple #[.string u, .bool false]) W)) :
  Ct 67 #[.string s] (.tuple #[.float .f64 0, .bool false]) w := by
 go_enter Tryz.func67, Tryz.ntmps67
 go_wp2_with fail
 refine (C1.out _).mono ?_
 rintro e w' ⟨rfl, rfl⟩
 go_wp2
 go_ret2
 exact ⟨rfl, Below.refl _ _⟩
set_option maxRecDepth 100000 in
set_option maxHeartbeats 1000000 in
theorem thex_not (s u v f q : ByteArray) (w : World) (C1 : Hid (∀ W, Cq 85 #[.string s] (.tuple #[.string u, .bool true]) W))
  (C2 : Hid (∀ W, Ct 87 #[.string u] (.string v) W))
  (C3 : Hid (∀ W, Ct 86 #[.string v, .int .i64 16] (.tuple #[.string f, .string q]) W))
  (t : f.toList.isEmpty = true ∨ (f.toList.isEmpty = false ∧ q.toList.isEmpty = false)) :
  Ct 67 #[.string s] (.tuple #[.float .f64 0, .bool false]) w := by
 rcases t with t1 | ⟨t1, t2⟩
 all_goals
  go_enter Tryz.func67, Tryz.ntmps67
  go_wp2_with fail
  refine (C1.out _).mono ?_
  rintro e w' ⟨rfl, rfl⟩
  go_wp2_with fail
  refine (C2.out _).mono ?_
  rintro e w1 ⟨rfl, b1⟩
  go_wp2_with fail
  refine (C3.out _).mono ?_
  rintro e w2 ⟨rfl, b2⟩
  have B2 := Lib.hid (below_le b1 b2)
  clear b1 b2
  go_wp2
  go_ret2
  exact ⟨rfl, B2.out⟩
set_option maxRecDepth 100000 in
set_option maxHeartbeats 1000000 in
theorem thex_yes (s u v f q : ByteArray) (F : Nat) (w : World) (C1 : Hid (∀ W, Cq 85 #[.string s] (.tuple #[.string u, .bool true]) W))
  (C2 : Hid (∀ W, Ct 87 #[.string u] (.string v) W))
  (C3 : Hid (∀ W, Ct 86 #[.string v, .int .i64 16] (.tuple #[.string f, .string q]) W))
  (C4 : Hid (∀ W, Ct 89 #[.string f, .int .i64 16] (.float .f64 F) W))
  (t1 : f.toList.isEmpty = false) (t2 : q.toList.isEmpty = true) :
  Ct 67 #[.string s] (.tuple #[.float .f64 F, .bool true]) w := by
 go_enter Tryz.func67, Tryz.ntmps67
 go_wp2_with fail
 refine (C1.out _).mono ?_
 rintro e w' ⟨rfl, rfl⟩
 go_wp2_with fail
 refine (C2.out _).mono ?_
 rintro e w1 ⟨rfl, b1⟩
 go_wp2_with fail
 refine (C3.out _).mono ?_
 rintro e w2 ⟨rfl, b2⟩
 have B2 := Lib.hid (below_le b1 b2)
 clear b1 b2
 go_wp2_with fail
 refine (C4.out _).mono ?_
 rintro e w3 ⟨rfl, b3⟩
 have B3 := Lib.hid (below_le B2.out b3)
 clear b3
 go_wp2
 go_ret2
 exact ⟨rfl, B3.out⟩

end Go.Proofs.YtfcpkdafkmohkaaGreatDoor
namespace Go.Proofs.YtfcpkdafkmohkaaGreatDoor
open Go.RowKit
theorem thexadecimal_any (l : List Nat) (w : World) (hl : ∀ c ∈ l, c < 128) (hs : l.length ≤ 140737488355328) :
  Ct 67 #[.string (strOf l)] (.tuple #[.float .f64 (if hxB l = true then natV 16 (l.drop 2) else 0 : Nat), .bool (hxB l)]) w := by
 have hb : ∀ c ∈ l, c < 256 := fun c hc => Nat.lt_trans (hl c hc) (by omega)
 have C1 : ∀ W, Cq 85 #[.string (strOf l)] (.tuple #[.string (strOf (if hxA l = true then l.drop 2 else l)), .bool (hxA l)]) W := by
  intro W
  have := tcutHex_any (strOf l) W
  rw [bl_strOf hb] at this
  exact this
 obtain ⟨u, hu⟩ : ∃ u, l.drop 2 = u := ⟨_, rfl⟩
 have hul : ∀ c ∈ u, c < 128 := fun c hc => hl c (by rw [← hu] at hc; exact List.mem_of_mem_drop hc)
 have hus : u.length ≤ 140737488355328 := by rw [← hu, List.length_drop]; omega
 have hx : hxB l = (hxA l && !u.isEmpty && u.all hx16) := by unfold hxB; rw [hu]
 rw [hu]
 rw [hu] at C1
 cases ha : hxA l
 ·rw [ha] at C1 hx
  rw [hx, Bool.false_and, Bool.false_and, if_neg (by simp)]
  exact thex_no _ _ w (Lib.hid C1)
 ·rw [ha, if_pos rfl] at C1
  rw [ha, Bool.true_and] at hx
  have C2 := Lib.hid (fun W => lower_str u W hul hus)
  have C3 := Lib.hid (fun W => cut_low u 16 W (by omega) hul hus)
  have ne : ∀ R : List Nat, R ≠ [] → (strOf R).toList.isEmpty = false := fun R hR => (str_ne hR).2
  have em : (strOf []).toList.isEmpty = true := by rw [Lib.toList_data]; rfl
  by_cases h1 : u.takeWhile (dgq 16) = []
  ·have hn : hxB l = false := by
    rw [hx]
    cases u with
    | nil => rfl
    | cons c t =>
     have : dgq 16 c = false := by
      cases h : dgq 16 c
      ·rfl
      ·rw [List.takeWhile_cons_of_pos h] at h1; cases h1
     show (true && (hx16 c && t.all hx16)) = false
     rw [← dgq_hx, this]
     rfl
   rw [hn, if_neg (by simp)]
   exact thex_not _ _ _ _ _ w (Lib.hid C1) C2 C3 (Or.inl (by rw [h1]; exact em))
  ·by_cases h2 : u.dropWhile (dgq 16) = []
   ·have h3 := (drop_nil _ _).1 h2
    have h4 := take_all _ _ h3
    have hu0 : u ≠ [] := fun e => h1 (by rw [e]; rfl)
    have hn : hxB l = true := by
     rw [hx, ← dgq_hx, h3, Bool.and_true]
     cases u with
     | nil => exact absurd rfl hu0
     | cons => rfl
    rw [hn, if_pos rfl]
    rw [h4, h2] at C3
    have hd : ∀ c ∈ u, dgt c < 16 := by
     have := take_dgq 16 u
     rw [h4] at this
     exact this
    have C4 : ∀ W, Ct 89 #[.string (strOf (u.map lowC)), .int .i64 16] (.float .f64 (natV 16 u)) W := by
     intro W
     have := twhole_any (u.map lowC) 16 W (by omega) (by omega) (by simpa using hu0) (by
      intro c hc
      obtain ⟨d, hd2, rfl⟩ := List.mem_map.1 hc
      rw [dgt_low]
      exact hd d hd2) (low_lt hul) (by rw [List.length_map]; omega)
     rw [natV_low] at this
     exact this
    exact thex_yes _ _ _ _ _ _ w (Lib.hid C1) C2 C3 (Lib.hid C4) (ne _ (by simpa using hu0)) em
   ·have hn : hxB l = false := by
     rw [hx, ← dgq_hx]
     cases h3 : u.all (dgq 16)
     ·rw [Bool.and_false]
     ·exact absurd ((drop_nil _ _).2 h3) h2
    rw [hn, if_neg (by simp)]
    exact thex_not _ _ _ _ _ w (Lib.hid C1) C2 C3 (Or.inr ⟨ne _ (by simpa using h1), ne _ (by simpa using h2)⟩)
theorem and_sign (x : Nat) (hx : x < 18446744073709551616) : bits BinOp.and IntKind.u64 (x : Int) 9223372036854775808 = ((if fneg x = true then 9223372036854775808 else 0 : Nat) : Int) := by
 show IntKind.u64.wrap ((BitVec.ofInt 64 (x : Int) &&& BitVec.ofInt 64 9223372036854775808).toNat : Int) = _
 have e1 : (BitVec.ofInt 64 (x : Int)) = BitVec.ofNat 64 x := by rw [BitVec.ofInt_natCast]
 have e2 : (BitVec.ofInt 64 9223372036854775808) = BitVec.ofNat 64 (2 ^ 63) := by decide
 rw [e1, e2, BitVec.toNat_and, BitVec.toNat_ofNat, BitVec.toNat_ofNat, Nat.mod_eq_of_lt (by omega : x < 2 ^ 64), Nat.mod_eq_of_lt (by omega : 2 ^ 63 < 2 ^ 64), IntKind.wrap_u64]
 have h2 : x &&& 2 ^ 63 = x / 2 ^ 63 % 2 * 2 ^ 63 := by
  apply Nat.eq_of_testBit_eq
  intro i
  rw [Nat.testBit_and, Nat.testBit_two_pow]
  by_cases h : 63 = i
  ·subst h
   rw [decide_eq_true rfl, Bool.and_true, Nat.testBit_mul_two_pow, Nat.testBit_eq_decide_div_mod_eq]
   simp
  ·rw [decide_eq_false h, Bool.and_false, Nat.testBit_mul_two_pow]
   by_cases hi : 63 ≤ i
   ·have : x / 2 ^ 63 % 2 < 2 ^ (i - 63) := Nat.lt_of_lt_of_le (Nat.mod_lt _ (by omega)) (by have := Nat.pow_le_pow_right (n := 2) (by omega) (show 1 ≤ i - 63 by omega); omega)
    rw [Nat.testBit_lt_two_pow this]; simp
   ·simp [hi]
 rw [h2]
 unfold fneg
 have h4 : x / 2 ^ 63 % 2 = 0 ∨ x / 2 ^ 63 % 2 = 1 := by omega
 rw [show (9223372036854775808 : Nat) = 2 ^ 63 from rfl]
 rcases h4 with h4 | h4 <;> rw [h4] <;> simp
theorem or_sign (s : Bool) {r : Nat} (hr : r < 9223372036854775808) : bits BinOp.or IntKind.u64 (r : Int) ((if s = true then 9223372036854775808 else 0 : Nat) : Int) = ((Ieee.double.word s r : Nat) : Int) := by
 cases s
 ·rw [if_neg (by simp), or_u64 r 0 (by omega) (by omega), Nat.or_zero]; rfl
 ·rw [if_pos rfl, or_u64 r 9223372036854775808 (by omega) (by omega)]
  have := Nat.two_pow_add_eq_or_of_lt (i := 63) (b := r) hr 1
  rw [Nat.or_comm, show (9223372036854775808 : Nat) = 2 ^ 63 * 1 from rfl, ← this]
  rfl
set_option maxRecDepth 100000 in
theorem copysign_word (f x : Nat) (w : World) (hf : f < 18446744073709551616) (hx : x < 18446744073709551616) : Cq 88 #[.float .f64 f, .float .f64 x] (.float .f64 (Ieee.double.word (fneg x) (rung f))) w := by
 have h1 := f64bits_run f w
 have h2 := f64bits_run x w
 have h3 := not_sign f hf
 have h4 := and_sign x hx
 have hr : rung f < 9223372036854775808 := Nat.mod_lt _ (by omega)
 have h5 := or_sign (fneg x) hr
 have h6 := f64from_run (Ieee.double.word (fneg x) (rung f)) w
 obtain ⟨a, ha⟩ : ∃ a, rung f = a := ⟨_, rfl⟩
 obtain ⟨b, hb⟩ : ∃ b : Nat, (if fneg x = true then 9223372036854775808 else 0 : Nat) = b := ⟨_, rfl⟩
 rw [ha] at h3 h5 h6 ⊢
 rw [hb] at h4 h5
 obtain ⟨c, hc⟩ : ∃ c, Ieee.double.word (fneg x) a = c := ⟨_, rfl⟩
 rw [hc] at h5 h6 ⊢
 clear hf hx hr ha hb hc
 go_enter Tryz.func88, Tryz.ntmps88
 go_wp2
 go_ret
 exact ⟨rfl, rfl⟩
theorem word_sg (b : Bool) (x : Nat) : Ieee.double.word b x = sgW b x := by cases b <;> rfl
theorem fneg_sg (b : Bool) : fneg (sgF b) = b := by cases b <;> rfl
theorem tcopysign_any (x : Nat) (b : Bool) (w : World) (hx : x < 9223372036854775808) :
  Cq 88 #[.float .f64 x, .float .f64 (sgF b)] (.float .f64 (sgW b x)) w := by
 have h := copysign_word x (sgF b) w (by omega) (by cases b <;> decide)
 rw [fneg_sg, show rung x = x from Nat.mod_eq_of_lt hx, word_sg] at h
 exact h

end Go.Proofs.YtfcpkdafkmohkaaGreatDoor
namespace Go.Proofs.YtfcpkdafkmohkaaGreatDoor
open Go.RowKit
set_option maxRecDepth 100000 in
set_option maxHeartbeats 1000000 in
theorem tnumber_inf (s u v : ByteArray) (b : Bool) (w : World)
  (C1 : Hid (∀ W, Cq 84 #[.string s] (.tuple #[.float .f64 (sgF b : Nat), .string u]) W))
  (C2 : Hid (∀ W, Cq 131 #[.string u, .string ⟨#[73, 110, 102, 105, 110, 105, 116, 121]⟩] (.tuple #[.string v, .bool true]) W)) :
  Ct 76 #[.string s] (.tuple #[.float .f64 (sgW b 9218868437227405312), .string v, .bool true]) w := by
 have C3 := Lib.hid (fun W => inf1_any W)
 have C4 := Lib.hid (fun W => tcopysign_any 9218868437227405312 b W (by omega))
 go_enter Tryz.func76, Tryz.ntmps76
 go_wp2_with fail
 refine (C1.out _).mono ?_
 rintro e w' ⟨rfl, rfl⟩
 go_wp2_with fail
 refine (C2.out _).mono ?_
 rintro e w' ⟨rfl, rfl⟩
 go_wp2_with fail
 refine (C3.out _).mono ?_
 rintro e w' ⟨rfl, rfl⟩
 go_wp2_with fail
 refine (C4.out _).mono ?_
 rintro e w' ⟨rfl, rfl⟩
 go_wp2
 refine bodyPost_ret (results_tmp3 rfl _ _ _) rfl ?_
 exact ⟨rfl, Below.refl _ _⟩
set_option maxRecDepth 100000 in
set_option maxHeartbeats 1000000 in
theorem tnumber_dec (s u v p q r : ByteArray) (X : Int) (F : Nat) (b : Bool) (w : World) (hF : F < 9223372036854775808)
  (C1 : Hid (∀ W, Cq 84 #[.string s] (.tuple #[.float .f64 (sgF b : Nat), .string u]) W))
  (C2 : Hid (∀ W, Cq 131 #[.string u, .string ⟨#[73, 110, 102, 105, 110, 105, 116, 121]⟩] (.tuple #[.string v, .bool false]) W))
  (C3 : Hid (∀ W, Ct 68 #[.string u] (.tuple #[.agg #[.string p, .string q, .int .i64 X], .string r, .bool true]) W))
  (C4 : Hid (∀ W, Ct 69 #[.agg #[.string p, .string q, .int .i64 X]] (.float .f64 F) W)) :
  Ct 76 #[.string s] (.tuple #[.float .f64 (sgW b F), .string r, .bool true]) w := by
 have C5 := Lib.hid (fun W => tcopysign_any F b W hF)
 clear hF
 go_enter Tryz.func76, Tryz.ntmps76
 go_wp2_with fail
 refine (C1.out _).mono ?_
 rintro e w' ⟨rfl, rfl⟩
 go_wp2_with fail
 refine (C2.out _).mono ?_
 rintro e w' ⟨rfl, rfl⟩
 go_wp2_with fail
 refine (C3.out _).mono ?_
 rintro e w1 ⟨rfl, b1⟩
 have B1 := Lib.hid (alloc_below (.cells #[.string p, .string q, .int .i64 X] 64) b1)
 clear b1
 go_wp2_with fail
 refine (C4.out _).mono ?_
 rintro e w2 ⟨rfl, b2⟩
 have B2 := Lib.hid (below_le B1.out b2)
 clear b2
 go_wp2_with fail
 refine (C5.out _).mono ?_
 rintro e w' ⟨rfl, rfl⟩
 go_wp2
 refine bodyPost_ret (results_tmp3 rfl _ _ _) rfl ?_
 exact ⟨rfl, B2.out⟩
set_option maxRecDepth 100000 in
set_option maxHeartbeats 1000000 in
theorem tnumber_none (s u v : ByteArray) (b : Bool) (w : World)
  (C1 : Hid (∀ W, Cq 84 #[.string s] (.tuple #[.float .f64 (sgF b : Nat), .string u]) W))
  (C2 : Hid (∀ W, Cq 131 #[.string u, .string ⟨#[73, 110, 102, 105, 110, 105, 116, 121]⟩] (.tuple #[.string v, .bool false]) W))
  (C3 : Hid (∀ W, Ct 68 #[.string u] (.tuple #[.agg #[.string ⟨#[]⟩, .string ⟨#[]⟩, .int .i64 0], .string ⟨#[]⟩, .bool false]) W)) :
  Ct 76 #[.string s] (.tuple #[.float .f64 0, .string ⟨#[]⟩, .bool false]) w := by
 go_enter Tryz.func76, Tryz.ntmps76
 go_wp2_with fail
 refine (C1.out _).mono ?_
 rintro e w' ⟨rfl, rfl⟩
 go_wp2_with fail
 refine (C2.out _).mono ?_
 rintro e w' ⟨rfl, rfl⟩
 go_wp2_with fail
 refine (C3.out _).mono ?_
 rintro e w1 ⟨rfl, b1⟩
 have B1 := Lib.hid (alloc_below (.cells #[.string ⟨#[]⟩, .string ⟨#[]⟩, .int .i64 0] 64) b1)
 clear b1
 go_wp2
 refine bodyPost_ret (results_tmp3 rfl _ _ _) rfl ?_
 exact ⟨rfl, B1.out⟩
theorem decR_fin (N : Nat) (e : Int) : decR N e ≤ 9218868437227405312 := by unfold decR rnd; exact Nat.min_le_right _ _
def nbB (l : List Nat) : Bool := infB (unsg l) || dB (unsg l)
def nbV (l : List Nat) : Nat := if infB (unsg l) = true then sgW (sgnB l) 9218868437227405312 else if dB (unsg l) = true then sgW (sgnB l) (dV (unsg l)) else 0
def nbR (l : List Nat) : List Nat := if infB (unsg l) = true then (unsg l).drop 8 else if dB (unsg l) = true then dR (unsg l) else []
theorem tnumber_any (l : List Nat) (w : World) (hl : ∀ c ∈ l, c < 256) (hs : l.length ≤ 140737488355328) :
  Ct 76 #[.string (strOf l)] (.tuple #[.float .f64 (nbV l), .string (strOf (nbR l)), .bool (nbB l)]) w := by
 have C1 : ∀ W, Cq 84 #[.string (strOf l)] (.tuple #[.float .f64 (sgF (sgnB l) : Nat), .string (strOf (unsg l))]) W := by
  intro W
  have := tcutSign_any (strOf l) W
  rw [bl_strOf hl] at this
  exact this
 obtain ⟨u, hu⟩ : ∃ u, unsg l = u := ⟨_, rfl⟩
 have hul : ∀ c ∈ u, c < 256 := fun c hc => hl c (unsg_sub c (by rw [hu]; exact hc))
 have hus : u.length ≤ 140737488355328 := by rw [← hu]; exact Nat.le_trans (unsg_len l) hs
 rw [hu] at C1
 have C2 := fun W => cut_any' (strOf u) ⟨#[73, 110, 102, 105, 110, 105, 116, 121]⟩ W
 rw [bl_strOf hul, show bl ⟨#[73, 110, 102, 105, 110, 105, 116, 121]⟩ = infL from rfl, show (⟨#[73, 110, 102, 105, 110, 105, 116, 121]⟩ : ByteArray).size = 8 from rfl] at C2
 have e1 : infL.isPrefixOf u = infB u := rfl
 rw [e1] at C2
 unfold nbV nbR nbB
 rw [hu]
 cases hi : infB u
 ·rw [hi, if_neg (by simp)] at C2
  simp only [Bool.false_eq_true, if_false, Bool.false_or]
  cases hd : dB u
  ·simp only [Bool.false_eq_true, if_false]
   refine tnumber_none _ _ _ _ w (Lib.hid C1) (Lib.hid C2) (Lib.hid (fun W => ?_))
   have := tcutDecimal_no (strOf u) W (by rw [strOf_size]; omega) (by rw [bl_strOf hul]; exact hd)
   exact this
  ·simp only [if_true]
   refine tnumber_dec _ _ _ _ _ _ _ _ _ w (by have := decR_fin (num 10 (dW u ++ dF u)) (dX u - (dF u).length); unfold dV; omega) (Lib.hid C1) (Lib.hid C2) (Lib.hid (fun W => ?_)) (Lib.hid (fun W => tfloat_dec u W (by omega)))
   have := tcutDecimal_yes (strOf u) W (by rw [strOf_size]; omega) (by rw [bl_strOf hul]; exact hd)
   rw [bl_strOf hul] at this
   exact this
 ·rw [hi, if_pos rfl] at C2
  simp only [if_true, Bool.true_or]
  exact tnumber_inf _ _ _ _ w (Lib.hid C1) (Lib.hid C2)

end Go.Proofs.YtfcpkdafkmohkaaGreatDoor
namespace Go.Proofs.YtfcpkdafkmohkaaGreatDoor
def uL : List UInt8 → List Nat
 | a :: b :: r => (a.toNat * 256 + b.toNat) :: uL r
 | _ => []

def bL (l : List Nat) : List UInt8 := l.flatMap fun u => [UInt8.ofNat (u / 256), UInt8.ofNat u]

theorem uL_length : ∀ l : List UInt8, (uL l).length = l.length / 2
 | [] => rfl
 | [_] => by simp [uL]
 | a :: b :: r => by
  have := uL_length r
  simp only [uL, List.length_cons, this]
  omega

theorem uL_get : ∀ (l : List UInt8) (i : Nat) (h : 2 * i + 1 < l.length), (uL l)[i]? = some (l[2 * i].toNat * 256 + l[2 * i + 1].toNat)
 | [], i, h => by simp at h
 | [_], i, h => by simp at h
 | a :: b :: r, 0, _ => by simp [uL]
 | a :: b :: r, i + 1, h => by
  have := uL_get r i (by simp at h; omega)
  simp only [uL, List.getElem?_cons_succ, this]
  rfl

theorem uL_lt : ∀ (l : List UInt8), ∀ u ∈ uL l, u < 65536
 | [], u, h => by simp [uL] at h
 | [_], u, h => by simp [uL] at h
 | a :: b :: r, u, h => by
  simp only [uL, List.mem_cons] at h
  rcases h with rfl | h
  ·have := a.toNat_lt; have := b.toNat_lt; omega
  ·exact uL_lt r u h

theorem bL_cons (u : Nat) (l : List Nat) : bL (u :: l) = UInt8.ofNat (u / 256) :: UInt8.ofNat u :: bL l := rfl
theorem bL_append (l m : List Nat) : bL (l ++ m) = bL l ++ bL m := by simp [bL]
theorem bL_one (u : Nat) : bL [u] = [UInt8.ofNat (u / 256), UInt8.ofNat u] := rfl
theorem bL_length : ∀ l : List Nat, (bL l).length = 2 * l.length
 | [] => rfl
 | u :: r => by rw [bL_cons]; simp [bL_length r]; omega

def us (s : ByteArray) : List Nat := uL s.data.toList
def ln (s : ByteArray) : Nat := s.size / 2
def un (s : ByteArray) (i : Nat) : Nat := (us s).getD i 0

theorem ln_le (s : ByteArray) : 2 * ln s ≤ s.size := by unfold ln; omega
theorem us_length (s : ByteArray) : (us s).length = ln s := by
 unfold us ln; rw [uL_length, Go.Lib.size_eq]
theorem us_lt (s : ByteArray) : ∀ u ∈ us s, u < 65536 := uL_lt _
theorem un_eq (s : ByteArray) (i : Nat) (h : 2 * i + 1 < s.size) : un s i = (s[2 * i]'(by omega)).toNat * 256 + (s[2 * i + 1]'h).toNat := by
 have := uL_get s.data.toList i (by rw [← Go.Lib.size_eq]; exact h)
 unfold un us
 rw [List.getD_eq_getElem?_getD, this]
 rfl
theorem un_lt (s : ByteArray) (i : Nat) : un s i < 65536 := by
 unfold un
 rw [List.getD_eq_getElem?_getD]
 cases h : (us s)[i]? with
 | none => simp
 | some u => exact us_lt s u (List.mem_of_getElem? h)
theorem us_getElem (s : ByteArray) (i : Nat) (h : i < (us s).length) : (us s)[i] = un s i := by
 unfold un; rw [List.getD_eq_getElem?_getD, List.getElem?_eq_getElem h]; rfl
theorem us_take_succ (s : ByteArray) (i : Nat) (h : i < ln s) : (us s).take (i + 1) = (us s).take i ++ [un s i] := by
 have h' : i < (us s).length := by rw [us_length]; exact h
 rw [List.take_succ_eq_append_getElem h', us_getElem]
theorem us_take_all (s : ByteArray) : (us s).take (ln s) = us s := List.take_of_length_le (by rw [us_length]; exact Nat.le_refl _)
end Go.Proofs.YtfcpkdafkmohkaaGreatDoor
namespace Go.Proofs.YtfcpkdafkmohkaaGreatDoor
open Go.RowKit
abbrev Bld (B : Nat) (l : List UInt8) (w : World) : Prop := Lib.IsBuilderF 97 5 B B (Lib.byteCells l) w
theorem bld_lt {B : Nat} {l : List UInt8} {w : World} (h : Bld B l w) : B < w.heap.size := by
 rcases h with h | h <;> exact Lib.BuilderAtF.lt h
theorem alloc_new (w : World) (o : Obj) : (w.alloc o).heap[w.heap.size]? = some o := by
 show (w.heap.push o)[w.heap.size]? = _
 rw [Array.getElem?_push, if_pos rfl]
theorem ln_int (s : ByteArray) : (s.size : Int) / 2 = (ln s : Int) := by unfold ln; omega
theorem len_any (s : ByteArray) (w : World) (hs : s.size ≤ maxLen) : Cq 128 #[.string s] (.int .i64 (ln s)) w := by
 unfold maxLen at hs
 have hm : (s.size : Int) ≤ 9223372036854775807 := by omega
 go_enter Tryz.func128, Tryz.ntmps128
 go_wp2
 go_ret
 exact ⟨by rw [← ln_int]; rfl, rfl⟩
theorem or_u16 (a b : Nat) (ha : a < 256) (hb : b < 256) : bits BinOp.or IntKind.u16 ((a : Int) * 256) (b : Int) = ((a * 256 + b : Nat) : Int) := by
 have e : ((a : Int) * 256) = ((a * 256 : Nat) : Int) := by omega
 rw [e, u16_or_nat _ _ (by omega) (by omega)]
 have := Nat.two_pow_add_eq_or_of_lt (i := 8) (b := b) (by omega) a
 rw [show a * 256 = 2 ^ 8 * a by omega, ← this]
theorem at_value (s : ByteArray) (i : Nat) (h0 : 2 * i < s.size) (h1 : 2 * i + 1 < s.size) :
  bits BinOp.or IntKind.u16 (IntKind.u16.wrap (IntKind.u16.wrap ((s[2 * i]'h0).toNat : Int) * 256)) (IntKind.u16.wrap ((s[2 * i + 1]'h1).toNat : Int)) = (un s i : Int) := by
 have c0 := (s[2 * i]'h0).toNat_lt
 have c1 := (s[2 * i + 1]'h1).toNat_lt
 rw [IntWalk.u16_in ((s[2 * i]'h0).toNat : Int) (by omega), IntWalk.u16_in (((s[2 * i]'h0).toNat : Int) * 256) (by omega), IntWalk.u16_in _ (by omega)]
 rw [or_u16 _ _ c0 c1, un_eq s i h1]
set_option maxHeartbeats 400000 in
theorem at_any (s : ByteArray) (i : Nat) (w : World) (h : i < ln s) (hs : s.size ≤ maxLen) :
  Cp 140 #[.string s, .int .i64 i] w fun e w' => e = .returned (.int .u16 (un s i)) ∧ ∃ n, w' = w.drewN n := by
 unfold maxLen at hs
 have hl := ln_le s
 have a0 : (0 : Int) ≤ 2 * (i : Int) := by omega
 have a1 : 2 * (i : Int) < (s.size : Int) := by omega
 have a2 : (0 : Int) ≤ 2 * (i : Int) + 1 := by omega
 have a3 : 2 * (i : Int) + 1 < (s.size : Int) := by omega
 have b0 : IntKind.i64.wrap (2 * (i : Int)) = 2 * (i : Int) := IntWalk.i64_in _ (by omega)
 have b1 : IntKind.i64.wrap (2 * (i : Int) + 1) = 2 * (i : Int) + 1 := IntWalk.i64_in _ (by omega)
 have b2 : (2 * (i : Int)).toNat = 2 * i := by omega
 have b3 : (2 * (i : Int) + 1).toNat = 2 * i + 1 := by omega
 have H := Lib.hid (at_value s i (by omega) (by omega))
 clear hl
 go_enter Tryz.func140, Tryz.ntmps140
 go_wp2
 go_quiet (fail)
 go_wp2
 go_ret
 exact ⟨by rw [← H.out]; rfl, _, rfl⟩
theorem cells_two (l : List UInt8) (u : Nat) (hu : u < 65536) :
  Lib.byteCells (l ++ bL [u]) = (Lib.byteCells l ++ [Value.int .u8 ((u : Int) / 256)]) ++ [Value.int .u8 ((u : Int) % 256)] := by
 rw [Lib.byteCells_append, bL_one]
 simp [Lib.byteCells]
 omega
theorem writeUnit_any (B : Nat) (l : List UInt8) (u : Nat) (hu : u < 65536) (w : World) (h : Bld B l w) (hlen : l.length + 2 ≤ 140737488355328) (hBw : B ≤ w.heap.size) :
  Cp 98 #[.pointer (some ⟨B, 0, none⟩), .int .u16 u] w fun e w' => e = .returned (.tuple #[]) ∧ Bld B (l ++ bL [u]) w' ∧ Below B w w' := by
 have h1 : (Lib.byteCells l).length + 1 ≤ 140737488355328 := by rw [Lib.byteCells_length]; omega
 have h2 : ((Lib.byteCells l) ++ [Value.int .u8 ((u : Int) / 256)]).length + 1 ≤ 140737488355328 := by rw [List.length_append, Lib.byteCells_length]; simp; omega
 go_enter Tryz.func98, Tryz.ntmps98
 go_wp2_with fail
 refine (Tryz.Builder_WriteByte_k B B _ _ _ h h1 hBw).mono ?_
 rintro e w1 ⟨rfl, hb1, bl1, _⟩
 have hBw1 := Nat.le_trans hBw bl1.size
 go_wp2_with fail
 refine (Tryz.Builder_WriteByte_k B B _ _ _ (Or.inr hb1) h2 hBw1).mono ?_
 rintro e w2 ⟨rfl, hb2, bl2, _⟩
 go_wp2
 go_end0
 refine ⟨rfl, ?_, bl1.trans bl2⟩
 rw [Bld, cells_two l u hu]
 exact Or.inr hb2
end Go.Proofs.YtfcpkdafkmohkaaGreatDoor
namespace Go.Proofs.YtfcpkdafkmohkaaGreatDoor
open Go.RowKit
abbrev Own (B : Nat) (l : List UInt8) (v : Value) (w : World) : Prop := w.ownsRow B 5 1 v l.length (Lib.byteCells l)
theorem info5 : (Tryz.prog.info? 5).map (fun i => (i.zero, i.size, i.bytes)) = some (some (.int .u8 0), 1, 1) := by kernel_rfl
theorem and_u16 (u : Nat) (hu : u < 65536) : bits BinOp.and IntKind.u16 (u : Int) 255 % 256 = (u : Int) % 256 := by
 have := u16_and_nat u 255 hu (by omega)
 rw [show (255 : Int) = ((255 : Nat) : Int) from rfl, this]
 have h2 := Nat.and_two_pow_sub_one_eq_mod u 8
 rw [show (255 : Nat) = 2 ^ 8 - 1 from rfl, h2]
 omega
theorem Own.nil (B : Nat) (w : World) : Own B [] (.slice none 0 0) w := World.ownsRow_nil _ _ _ _
set_option maxHeartbeats 400000 in
theorem put_any (B : Nat) (l : List UInt8) (v : Value) (u : Nat) (hu : u < 65536) (w : World) (h : Own B l v w) (hlen : l.length + 2 ≤ 140737488355328) (hBw : B ≤ w.heap.size) :
  Cp 92 #[v, .int .u16 u] w fun e w' => ∃ v', e = .returned v' ∧ Own B (l ++ bL [u]) v' w' ∧ Below B w w' := by
 obtain ⟨i0, hi, hz0, hz1, hz2⟩ := info_parts info5
 have hA := and_u16 u hu
 go_enter Tryz.func92, Tryz.ntmps92
 go_wp2_with (at_builtin; refine wpList_append_own _ rfl _ _ 85 rfl B 5 i0 (.int .u8 0) 1 1 Tryz.underlying85 hi hz0 hz1 hz2 rfl (by decide) v l.length (Lib.byteCells l) rfl (h.alloc _) ⟨w.heap.size, 0, none⟩ 2 2 [.int .u8 ((u : Int) / 256), .int .u8 ((u : Int) % 256)] rfl rfl ?c1 ?c2 ?c3 ?c4 ?c5 ?_)
 case c1 => exact cell_two_new _ _ _ _
 case c2 => simp [Value.oneCell']
 case c3 => unfold maxLen; omega
 case c4 => omega
 case c5 => simp; omega
 intro v' w1 hown hg _
 go_wp2
 go_ret
 refine ⟨v', rfl, ?_, ((Below.refl B w).alloc hBw _).grown hg (by simp; omega) (fun k hk => (h.lt k hk).1)⟩
 rw [Own, cells_two l u hu]
 simpa [bL_one] using hown
end Go.Proofs.YtfcpkdafkmohkaaGreatDoor
namespace Go.Proofs.YtfcpkdafkmohkaaGreatDoor
open Go.RowKit
def spB (u : Int) : Bool := u == 9 || u == 11 || u == 12 || u == 32 || u == 160 || u == 5760 || u == 6158 || u == 8239 || u == 8287 || u == 12288 || u == 65279 || (decide (8192 ≤ u) && decide (u ≤ 8202))
def enB (u : Int) : Bool := u == 10 || u == 13 || u == 8232 || u == 8233
def blB (u : Int) : Bool := spB u || enB u
set_option maxHeartbeats 1000000 in
theorem space_any (u : Int) (w : World) : Cq 147 #[.int .u16 u] (.bool (spB u)) w := by
 go_enter Tryz.func147, Tryz.ntmps147
 go_wp2
 all_goals go_ret
 all_goals exact ⟨by simp [spB, *] <;> omega, rfl⟩
set_option maxHeartbeats 1000000 in
theorem ends_any (u : Int) (w : World) : Cq 148 #[.int .u16 u] (.bool (enB u)) w := by
 go_enter Tryz.func148, Tryz.ntmps148
 go_wp2
 all_goals go_ret
 all_goals exact ⟨by simp [enB, *], rfl⟩
set_option maxHeartbeats 1000000 in
theorem blank_any (u : Int) (w : World) : Cq 139 #[.int .u16 u] (.bool (blB u)) w := by
 go_enter Tryz.func139, Tryz.ntmps139
 go_wp2_with (first | (go_at_call 147; refine (space_any _ _).mono ?_; rintro e w' ⟨rfl, rfl⟩) | (go_at_call 148; refine (ends_any _ _).mono ?_; rintro e w' ⟨rfl, rfl⟩))
 all_goals go_ret
 all_goals exact ⟨by simp [blB, *], rfl⟩
end Go.Proofs.YtfcpkdafkmohkaaGreatDoor
namespace Go.Proofs.YtfcpkdafkmohkaaGreatDoor
open Go.RowKit
theorem foldl_push (ns : List UInt8) (s : ByteArray) : (ns.map fun b => (b.toNat : Int)).foldl (fun r n => r.push (UInt8.ofNat n.toNat)) s = ⟨s.data ++ ns.toArray⟩ := by
 induction ns generalizing s with
 | nil => simp
 | cons b r ih =>
  simp only [List.map_cons, List.foldl_cons, ih]
  apply ByteArray.ext
  simp [ByteArray.push]
set_option maxRecDepth 100000 in
theorem own_string {B : Nat} {l : List UInt8} {v : Value} {w : World} (h : Own B l v w) : (convert 85 9 v).run Tryz.prog w = .ok (.string ⟨l.toArray⟩) w := by
 rcases h.2 with ⟨rfl, hn⟩ | ⟨g, cap, cur, rfl, hB, hg, hcap, hmax, hcur, htk⟩
 ·have : l = [] := List.eq_nil_of_length_eq_zero hn
  subst this
  rfl
 ·have hc := h.cells (g := g) rfl
  rw [run_convert_bytes_string w 85 9 5 _ _ _ Tryz.underlying85 Tryz.underlying5 Tryz.underlying9]
  have hl := run_loadCells_list (P := Tryz.prog) w ⟨g, 0, none⟩ (Lib.byteCells l) hc
  rw [Lib.byteCells_length] at hl
  rw [run_bytesToString w ⟨g, 0, none⟩ l.length cap (l.map fun b => (b.toNat : Int)) (by rw [hl]; simp [Lib.byteCells, Function.comp_def])]
  rw [foldl_push]
  simp
end Go.Proofs.YtfcpkdafkmohkaaGreatDoor
namespace Go.Proofs.YtfcpkdafkmohkaaGreatDoor
open Go.RowKit
def wdL (s : ByteArray) : List Nat := s.data.toList.map fun b => b.toNat
theorem wdL_length (s : ByteArray) : (wdL s).length = s.size := by rw [wdL, List.length_map, ← Lib.size_eq]
theorem wdL_succ (s : ByteArray) (k : Nat) (h : k < s.size) : (wdL s).take (k + 1) = (wdL s).take k ++ [(s[k]'h).toNat] := by
 have h' : k < (wdL s).length := by rw [wdL_length]; exact h
 rw [List.take_succ_eq_append_getElem h']
 simp [wdL]; rfl
theorem wdL_all (s : ByteArray) : (wdL s).take s.size = wdL s := List.take_of_length_le (by rw [wdL_length]; exact Nat.le_refl _)
theorem take_len {α : Type} (l : List α) (k : Nat) : (l.take k).length ≤ k := List.length_take_le _ _
set_option maxRecDepth 100000 in
set_option maxHeartbeats 1000000 in
theorem wide_any (s : ByteArray) (w : World) (hs : s.size ≤ 35184372088832) :
  Ct 41 #[.string s] (.string ⟨(bL (wdL s)).toArray⟩) w := by
 have hm : (s.size : Int) ≤ 35184372088832 := by omega
 have HS := Lib.hid hs
 clear hs
 have hg : Cp 97 #[.pointer (some ⟨w.heap.size, 0, none⟩), .int .i64 (2 * (s.size : Int))] (w.alloc (.cells #[.pointer none, .slice none 0 0] 97)) fun e w' => e = .returned (.tuple #[]) ∧ (Lib.BuilderAt 97 5 w.heap.size w.heap.size (.pointer (some ⟨w.heap.size, 0, none⟩)) [] w' ∧ Below w.heap.size (w.alloc (.cells #[.pointer none, .slice none 0 0] 97)) w') :=
  Tryz.Builder_Grow_fresh w.heap.size w.heap.size (2 * s.size) _ (Nat.le_refl _) (alloc_new w _) (by simp) (by have := HS.out; omega)
 go_enter Tryz.func41, Tryz.ntmps41
 go_wp2_with fail
 refine hg.mono ?_
 rintro e w1 ⟨rfl, hb1, bl1⟩
 have hbl : Below w.heap.size w w1 := ((Below.refl w.heap.size w).alloc (Nat.le_refl _) _).trans bl1
 clear hg
 go_wp2
 go_loopw [11] (fun i wr => ∃ k : Nat, i = .int .i64 k ∧ k ≤ s.size ∧ Bld w.heap.size (bL ((wdL s).take k)) wr ∧ Below w.heap.size w wr) (fun i _ => s.size - (intOf i).toNat)
 case atStart => exact ⟨0, rfl, Nat.zero_le _, Lib.IsBuilderF.of (.inr hb1), hbl⟩
 case round =>
  obtain ⟨k, rfl, hk, hI, hbw⟩ := hrel
  have hsz := bld_lt hI
  by_cases hlt : k < s.size
  ·have hl := take_len (wdL s) k
   have hu := (s[k]'hlt).toNat_lt
   have hr := fun W h hb => writeUnit_any w.heap.size (bL ((wdL s).take k)) (s[k]'hlt).toNat (by omega) W h (by rw [bL_length]; have := HS.out; omega) hb
   have HW := Lib.hid (show IntKind.u16.wrap (((s[k]'hlt).toNat : Nat) : Int) = ((s[k]'hlt).toNat : Int) from IntWalk.u16_in _ (by omega))
   have HG := Lib.hid (wdL_succ s k hlt)
   clear hl hu
   go_wp2_with fail
   rw [HW.out]
   refine (hr _ hI (by omega)).mono ?_
   rintro e w2 ⟨rfl, hI2, hb2⟩
   go_wp2
   go_roundw
   case rel => exact ⟨k + 1, by go_num, by omega, by rw [HG.out, bL_append]; exact hI2, hbw.trans hb2⟩
   case measure => simp [intOf]; omega
  ·have hS := Tryz.Builder_String_any_k w.heap.size w.heap.size _ wr hI (by omega)
   have HZ := Lib.hid (show (wdL s).take k = wdL s by rw [show k = s.size by omega]; exact wdL_all s)
   go_wp2_with (go_at_call 99; refine hS.mono ?_; rintro e w2 ⟨rfl, _, hb2, _⟩)
   go_ret
   rw [HZ.out]
   exact ⟨rfl, hbw.trans hb2⟩
set_option maxRecDepth 100000 in
set_option maxHeartbeats 1000000 in
theorem rwide_any (s : ByteArray) (w : World) (hs : s.size ≤ 35184372088832) :
  Ct 38 #[.string s] (.string ⟨(bL (wdL s)).toArray⟩) w := by
 have hm : (s.size : Int) ≤ 35184372088832 := by omega
 have HS := Lib.hid hs
 clear hs
 go_enter Tryz.func38, Tryz.ntmps38
 go_wp2
 go_loopw [3, 4] (fun v i wr => ∃ k : Nat, i = .int .i64 k ∧ k ≤ s.size ∧ Own w.heap.size (bL ((wdL s).take k)) v wr ∧ Below w.heap.size w wr) (fun _ i _ => s.size - (intOf i).toNat)
 case atStart => exact ⟨0, rfl, Nat.zero_le _, Own.nil _ _, Below.refl _ _⟩
 case round =>
  obtain ⟨k, rfl, hk, hI, hbw⟩ := hrel
  by_cases hlt : k < s.size
  ·have hl := take_len (wdL s) k
   have hu := (s[k]'hlt).toNat_lt
   have hr := fun W v h hb => put_any w.heap.size (bL ((wdL s).take k)) v (s[k]'hlt).toNat (by omega) W h (by rw [bL_length]; have := HS.out; omega) hb
   have HW := Lib.hid (show IntKind.u16.wrap (((s[k]'hlt).toNat : Nat) : Int) = ((s[k]'hlt).toNat : Int) from IntWalk.u16_in _ (by omega))
   have HG := Lib.hid (wdL_succ s k hlt)
   clear hl hu
   go_wp2_with fail
   rw [HW.out]
   refine (hr _ _ hI hbw.size).mono ?_
   rintro e w2 ⟨v2, rfl, hI2, hb2⟩
   go_wp2
   go_roundw
   case rel => exact ⟨k + 1, by go_num, by omega, by rw [HG.out, bL_append]; exact hI2, hbw.trans hb2⟩
   case measure => simp [intOf]; omega
  ·have HZ := Lib.hid (show (wdL s).take k = wdL s by rw [show k = s.size by omega]; exact wdL_all s)
   have hcv := own_string hI
   go_wp2
   go_ret
   rw [HZ.out]
   exact ⟨rfl, hbw⟩
end Go.Proofs.YtfcpkdafkmohkaaGreatDoor
namespace Go.Proofs.YtfcpkdafkmohkaaGreatDoor
open Go.RowKit
theorem info_u16 : (Tryz.prog.info? 87).map (fun i => (i.zero, i.size, i.bytes)) = some (some (.int .u16 0), 1, 2) := by kernel_rfl
theorem row_drewN {w : World} {b : Nat} {t : TypeId} {n : Nat} {f : Nat → Value} (h : w.rowIs b t n f) (m : Nat) : (w.drewN m).rowIs b t n f := h
set_option maxRecDepth 100000 in
set_option maxHeartbeats 1000000 in
theorem units_any (s : ByteArray) (w : World) (hs : s.size ≤ 140737488355328) :
  Cp 129 #[.string s] w fun e w' => e = .returned (.slice (some ⟨w.heap.size, 0, none⟩) (ln s) (ln s)) ∧ w'.rowIs w.heap.size 87 (ln s) (fun j => .int .u16 (un s j : Nat)) ∧ Below w.heap.size w w' := by
 have hl := ln_le s
 have hs63 : s.size ≤ maxLen := by unfold maxLen; omega
 have hm : ((ln s : Nat) : Int) ≤ 70368744177664 := by omega
 have hmk := run_make_row' (P := Tryz.prog) 124 87 (.int .u16 0) 2 Tryz.underlying124 info_u16 rfl .i64 .i64 (ln s) (by omega) (by omega) w
 have hmade := World.rowIs_made w (.int .u16 0) (ln s) 87
 have H63 := Lib.hid hs63
 have c1 := fun W => len_any s W H63.out
 clear hs hl hs63
 have hr0 : (w.alloc (.cells (madeCells #[.int .u16 0] (ln s)) 87)).rowIs w.heap.size 87 (ln s) (fun j => .int .u16 ((if j < 0 then un s j else 0 : Nat) : Int)) := hmade.congr (fun j _ => by simp)
 clear hmade
 go_enter Tryz.func129, Tryz.ntmps129
 go_wp2_with (go_at_call 128; refine (c1 _).mono ?_; rintro e w' ⟨rfl, rfl⟩)
 clear hmk
 go_loopw [10] (fun i wr => ∃ k : Nat, i = .int .i64 k ∧ k ≤ ln s ∧ wr.rowIs w.heap.size 87 (ln s) (fun j => .int .u16 ((if j < k then un s j else 0 : Nat) : Int)) ∧ Below w.heap.size w wr) (fun i _ => ln s - (intOf i).toNat)
 case atStart => exact ⟨0, rfl, Nat.zero_le _, hr0, (Below.refl _ _).alloc (Nat.le_refl _) _⟩
 case round =>
  obtain ⟨k, rfl, hk, hI, hbw⟩ := hrel
  by_cases hlt : k < ln s
  ·have hcell : wr.cell? ⟨w.heap.size, k, none⟩ = some (.int .u16 0) := by
    have := hI.cell hlt
    simpa using this
   have hfz := hI.frozen k
   have c2 := fun W => at_any s k W hlt H63.out
   have hI2 := hI.set k (.int .u16 (un s k : Nat))
   have hI3 : (wr.setCell ⟨w.heap.size, k, none⟩ (.int .u16 (un s k : Nat))).rowIs w.heap.size 87 (ln s) (fun j => .int .u16 ((if j < k + 1 then un s j else 0 : Nat) : Int)) := by
    refine hI2.congr fun j hj => ?_
    by_cases h1 : j = k
    ·subst h1; simp
    ·by_cases h2 : j < k
     ·rw [if_neg h1, if_pos h2, if_pos (by omega)]
     ·rw [if_neg h1, if_neg h2, if_neg (by omega)]
   have HI := Lib.hid hI3
   clear hI hI2 hI3
   go_wp2_with fail
   refine (c2 _).mono ?_
   rintro e w' ⟨rfl, n, rfl⟩
   go_wp2
   go_roundw
   case rel => exact ⟨k + 1, by go_num, by omega, row_drewN HI.out n, below_drewN' (hbw.setCell (Nat.le_refl _) _) n⟩
   case measure => simp [intOf]; omega
  ·have HI := Lib.hid (show wr.rowIs w.heap.size 87 (ln s) (fun j => .int .u16 (un s j : Nat)) from hI.congr fun j hj => by rw [if_pos (by omega)])
   clear hI
   go_wp2
   go_ret
   exact ⟨rfl, HI.out, hbw⟩
end Go.Proofs.YtfcpkdafkmohkaaGreatDoor
namespace Go.Proofs.YtfcpkdafkmohkaaGreatDoor
open Go.RowKit
end Go.Proofs.YtfcpkdafkmohkaaGreatDoor
namespace Go.Proofs.YtfcpkdafkmohkaaGreatDoor
open Go.RowKit
def slS (s : ByteArray) (f t : Int) : ByteArray := if max f 0 < min t (ln s) then s.extract (2 * (max f 0).toNat) (2 * (min t (ln s)).toNat) else { data := #[] }
set_option maxHeartbeats 1000000 in
theorem slice_any (s : ByteArray) (f t : Int) (w : World) (hs : s.size ≤ maxLen) :
  Cq 141 #[.string s, .int .i64 f, .int .i64 t] (.string (slS s f t)) w := by
 have hl := ln_le s
 have hm : (s.size : Int) ≤ 9223372036854775807 := by unfold maxLen at hs; omega
 have c1 := fun W => len_any s W hs
 have hsl : slS s f t = if max f 0 < min t (ln s) then s.extract (2 * (max f 0).toNat) (2 * (min t (ln s)).toNat) else { data := #[] } := rfl
 have hm1 : 0 ≤ max f 0 := by omega
 have hn1 : min t (ln s) ≤ ln s := by omega
 have hl2 : 2 * ((ln s : Nat) : Int) ≤ (s.size : Int) := by omega
 obtain ⟨m, hm0⟩ : ∃ m : Int, max f 0 = m := ⟨_, rfl⟩
 obtain ⟨n, hn0⟩ : ∃ n : Int, min t (ln s) = n := ⟨_, rfl⟩
 rw [hm0, hn0] at hsl
 rw [hm0] at hm1
 rw [hn0] at hn1
 by_cases h : m < n
 ·rw [if_pos h] at hsl
  have HS := Lib.hid hsl
  have k1 : 2 * m ≤ 2 * n := by omega
  have k2 : 2 * n ≤ (s.size : Int) := by omega
  have k3 : 0 ≤ 2 * m := by omega
  have k4 : 0 ≤ 2 * n := by omega
  have e1 : (2 * m).toNat = 2 * m.toNat := by omega
  have e2 : (2 * n).toNat = 2 * n.toNat := by omega
  clear hsl hl hs hl2 hn1
  go_enter Tryz.func141, Tryz.ntmps141
  go_wp2_with (go_at_call 128; refine (c1 _).mono ?_; rintro e w' ⟨rfl, rfl⟩)
  go_ret
  exact ⟨by rw [HS.out]; rfl, rfl⟩
 ·rw [if_neg h] at hsl
  have HS := Lib.hid hsl
  clear hsl hl hs hl2 hn1
  go_enter Tryz.func141, Tryz.ntmps141
  go_wp2_with (go_at_call 128; refine (c1 _).mono ?_; rintro e w' ⟨rfl, rfl⟩)
  go_ret
  exact ⟨by rw [HS.out]; rfl, rfl⟩
end Go.Proofs.YtfcpkdafkmohkaaGreatDoor
namespace Go.Proofs.YtfcpkdafkmohkaaGreatDoor
open Go.RowKit
def blU (s : ByteArray) (i : Nat) : Bool := blB ((un s i : Nat) : Int)
def tF (s : ByteArray) : Nat → Nat → Nat
 | 0, i => i
 | f + 1, i => if i < ln s ∧ blU s i = true then tF s f (i + 1) else i
def tT (s : ByteArray) (F : Nat) : Nat → Nat → Nat
 | 0, t => t
 | f + 1, t => if F < t ∧ blU s (t - 1) = true then tT s F f (t - 1) else t
def frS (s : ByteArray) : Nat := tF s (ln s) 0
def toS (s : ByteArray) : Nat := tT s (frS s) (ln s) (ln s)
def trimS (s : ByteArray) : ByteArray := slS s (frS s) (toS s)
theorem tF_go (s : ByteArray) (f i : Nat) (h : i < ln s) (hb : blU s i = true) : tF s (f + 1) i = tF s f (i + 1) := by simp [tF, h, hb]
theorem tF_end (s : ByteArray) (f i : Nat) (h : ¬ (i < ln s ∧ blU s i = true)) : tF s f i = i := by
 cases f with
 | zero => rfl
 | succ f => rw [tF, if_neg h]
theorem tT_go (s : ByteArray) (F f t : Nat) (h : F < t + 1) (hb : blU s t = true) : tT s F (f + 1) (t + 1) = tT s F f t := by simp [tT, h, hb]
theorem tT_end (s : ByteArray) (F f t : Nat) (h : ¬ (F < t ∧ blU s (t - 1) = true)) : tT s F f t = t := by
 cases f with
 | zero => rfl
 | succ f => rw [tT, if_neg h]
theorem blankU_any (s : ByteArray) (i : Nat) (w : World) (b : Bool) (hb : blU s i = b) : Cq 139 #[.int .u16 (un s i : Nat)] (.bool b) w := by
 refine (blank_any _ w).mono ?_
 rintro e w' ⟨rfl, rfl⟩
 exact ⟨by rw [← hb]; rfl, rfl⟩
set_option maxRecDepth 100000 in
set_option maxHeartbeats 2000000 in
theorem trim_any (s : ByteArray) (w : World) (hs : s.size ≤ maxLen) :
  Cp 75 #[.string s] w fun e w' => e = .returned (.string (trimS s)) ∧ ∃ n, w' = w.drewN n := by
 have hl := ln_le s
 have hm : ((ln s : Nat) : Int) ≤ 4611686018427387903 := by unfold maxLen at hs; omega
 have H63 := Lib.hid hs
 have c1 := fun W => len_any s W H63.out
 clear hs hl
 go_enter Tryz.func75, Tryz.ntmps75
 go_wp2_with (go_at_call 128; refine (c1 _).mono ?_; rintro e w' ⟨rfl, rfl⟩)
 go_loopw [3] (fun i wr => ∃ k f : Nat, i = .int .i64 k ∧ k ≤ ln s ∧ tF s f k = frS s ∧ ln s ≤ k + f ∧ ∃ n, wr = w.drewN n) (fun i _ => ln s - (intOf i).toNat)
 case atStart => exact ⟨0, ln s, rfl, Nat.zero_le _, rfl, by omega, 0, rfl⟩
 case round =>
  obtain ⟨k, fuel, rfl, hk, hF, hfu, n, rfl⟩ := hrel
  have HF := Lib.hid hF
  clear hF
  by_cases hc : k < ln s ∧ blU s k = true
  ·obtain ⟨hlt, hb⟩ := hc
   obtain ⟨f, rfl⟩ : ∃ f, fuel = f + 1 := ⟨fuel - 1, by omega⟩
   have HG := Lib.hid (show tF s f (k + 1) = frS s by rw [← HF.out, tF_go s f k hlt hb])
   have c2 := fun W => at_any s k W hlt H63.out
   have c3 := fun W => blankU_any s k W true hb
   have hlt' : (k : Int) < (ln s : Int) := by omega
   clear hb HF
   go_wp2_with (first | (go_at_call 140; refine (c2 _).mono ?_; rintro e w' ⟨rfl, n2, rfl⟩) | (go_at_call 139; refine (c3 _).mono ?_; rintro e w' ⟨rfl, rfl⟩))
   go_roundw
   case rel => exact ⟨k + 1, f, by go_num, by omega, HG.out, by omega, _, rfl⟩
   case measure => simp [intOf]; omega
  ·have HK := Lib.hid (show frS s = k by rw [← HF.out, tF_end s fuel k hc])
   have hor : (¬ ((k : Int) < (ln s : Int))) ∨ ((k : Int) < (ln s : Int) ∧ blU s k = false ∧ k < ln s) := by
    by_cases h : k < ln s
    ·right; refine ⟨by omega, ?_, h⟩
     cases hb : blU s k
     ·rfl
     ·exact absurd ⟨h, hb⟩ hc
    ·left; omega
   have H1 := Lib.hid (fun W (h : k < ln s) => at_any s k W h H63.out)
   have H2 := Lib.hid (fun W (h : blU s k = false) => blankU_any s k W false h)
   clear hc HF
   rcases hor with h1 | ⟨h1, h2, h3⟩
   all_goals
    try have c2 := fun W => H1.out W h3
    try have c3 := fun W => H2.out W h2
    try clear h2
    go_wp2_with (first | (go_at_call 140; refine (c2 _).mono ?_; rintro e w' ⟨rfl, n2, rfl⟩) | (go_at_call 139; refine (c3 _).mono ?_; rintro e w' ⟨rfl, rfl⟩))
    go_loopw [4] (fun i wr => ∃ t f : Nat, i = .int .i64 t ∧ t ≤ ln s ∧ tT s k f t = tT s k (ln s) (ln s) ∧ t ≤ f ∧ ∃ n, wr = w.drewN n) (fun i _ => (intOf i).toNat)
    case atStart => exact ⟨ln s, ln s, rfl, by omega, rfl, by omega, _, rfl⟩
    case round =>
     obtain ⟨t, fu, rfl, ht, hT, hfu2, n3, rfl⟩ := hrel
     have HT := Lib.hid hT
     clear hT
     by_cases hc2 : k < t ∧ blU s (t - 1) = true
     ·obtain ⟨hlt2, hb2⟩ := hc2
      obtain ⟨t, rfl⟩ : ∃ t', t = t' + 1 := ⟨t - 1, by omega⟩
      obtain ⟨f2, rfl⟩ : ∃ f', fu = f' + 1 := ⟨fu - 1, by omega⟩
      have hb3 : blU s t = true := hb2
      have HG2 := Lib.hid (show tT s k f2 t = tT s k (ln s) (ln s) by rw [← HT.out, tT_go s k f2 t hlt2 hb3])
      have c4 := fun W => at_any s t W (by omega) H63.out
      have c5 := fun W => blankU_any s t W true hb3
      have g1 : (k : Int) < (t : Int) + 1 := by omega
      clear hb2 hb3 HT
      go_wp2_with (first | (go_at_call 140; refine (c4 _).mono ?_; rintro e w' ⟨rfl, n4, rfl⟩) | (go_at_call 139; refine (c5 _).mono ?_; rintro e w' ⟨rfl, rfl⟩))
      go_roundw
      case rel => exact ⟨t, f2, rfl, by omega, HG2.out, by omega, _, rfl⟩
      case measure => simp [intOf]
     ·have HK2 := Lib.hid (show toS s = t by unfold toS; rw [HK.out, ← HT.out, tT_end s k fu t hc2])
      have hor2 : (¬ ((k : Int) < (t : Int))) ∨ ((k : Int) < (t : Int) ∧ blU s (t - 1) = false ∧ k < t) := by
       by_cases h : k < t
       ·right; refine ⟨by omega, ?_, h⟩
        cases hb : blU s (t - 1)
        ·rfl
        ·exact absurd ⟨h, hb⟩ hc2
       ·left; omega
      have hsl := fun W => slice_any s k t W H63.out
      have HR := Lib.hid (show trimS s = slS s k t by unfold trimS; rw [HK.out, HK2.out])
      clear hc2 HT
      rcases hor2 with g1 | ⟨g1, g2, g3⟩
      ·go_wp2_with (go_at_call 141; refine (hsl _).mono ?_; rintro e w' ⟨rfl, rfl⟩)
       go_ret
       exact ⟨by rw [HR.out]; rfl, _, rfl⟩
      ·obtain ⟨t, rfl⟩ : ∃ t', t = t' + 1 := ⟨t - 1, by omega⟩
       have c4 := fun W => at_any s t W (by omega) H63.out
       have c5 := fun W => blankU_any s t W false g2
       have g1' : (k : Int) < (t : Int) + 1 := by omega
       clear g2 g1
       go_wp2_with (first | (go_at_call 140; refine (c4 _).mono ?_; rintro e w' ⟨rfl, n4, rfl⟩) | (go_at_call 139; refine (c5 _).mono ?_; rintro e w' ⟨rfl, rfl⟩) | (go_at_call 141; refine (hsl _).mono ?_; rintro e w' ⟨rfl, rfl⟩))
       go_ret
       exact ⟨by rw [HR.out]; rfl, _, rfl⟩
end Go.Proofs.YtfcpkdafkmohkaaGreatDoor
namespace Go.Proofs.YtfcpkdafkmohkaaGreatDoor
open Go.RowKit
theorem bld_below {B : Nat} {l : List UInt8} {w w' : World} (h : Bld B l w) (hb : Below w.heap.size w w') : Bld B l w' := by
 have hg : w.grownBy w' none := ⟨hb.os, hb.tape, hb.output, hb.size, fun k hk _ => hb.block k hk⟩
 have key : ∀ p, Lib.BuilderAtF 97 5 B B p (Lib.byteCells l) w → Lib.BuilderAtF 97 5 B B p (Lib.byteCells l) w' := by
  intro p hA
  have hlt := Lib.BuilderAtF.lt hA
  obtain ⟨hB, v, hbk, hown, hne⟩ := hA
  exact ⟨hB, v, by rw [hb.block B hlt]; exact hbk, hown.kept hg (by cases v.ownBlock <;> simp), hne⟩
 rcases h with h | h
 ·exact .inl (key _ h)
 ·exact .inr (key _ h)
def nr0 (u : Nat) : Nat := if 127 < u then 0 else u
theorem nr0_lt (u : Nat) : nr0 u < 128 := by unfold nr0; split <;> omega
theorem row_others {w w' : World} {R B n : Nat} {f : Nat → Value} (h : w.rowIs R 87 n f) (ho : Lib.OthersKept 5 (some B) w w') (hR : R ≠ B) : w'.rowIs R 87 n f := by
 obtain ⟨c, hb, hn, hc⟩ := h
 refine ⟨c, ho R _ hb (by simpa using hR) (fun c' fz e => ?_), hn, hc⟩
 injection e with _ e2 _
 exact absurd e2 (by decide)
theorem cells_snoc (l : List UInt8) (u : Nat) (hu : u < 256) : Lib.byteCells l ++ [Value.int .u8 (u : Int)] = Lib.byteCells (l ++ [UInt8.ofNat u]) := by
 rw [Lib.byteCells_append]
 simp [Lib.byteCells]
 omega
set_option maxRecDepth 100000 in
set_option maxHeartbeats 1000000 in
theorem tnarrow_any (s : ByteArray) (w : World) (hs : s.size ≤ 140737488355328) :
  Ct 66 #[.string s] (.string (strOf (nrw 0 (us s)))) w := by
 have hl := ln_le s
 have hs63 : s.size ≤ maxLen := by unfold maxLen; omega
 have hm : ((ln s : Nat) : Int) ≤ 70368744177664 := by omega
 have H63 := Lib.hid hs63
 have C1 := Lib.hid (fun W => len_any s W H63.out)
 have C2 := Lib.hid (fun W => units_any s W hs)
 have HS := Lib.hid (show ln s ≤ 70368744177664 by omega)
 have hg : Cp 97 #[.pointer (some ⟨w.heap.size, 0, none⟩), .int .i64 (ln s : Nat)] (w.alloc (.cells #[.pointer none, .slice none 0 0] 97)) fun e w' => e = .returned (.tuple #[]) ∧ (Lib.BuilderAt 97 5 w.heap.size w.heap.size (.pointer (some ⟨w.heap.size, 0, none⟩)) [] w' ∧ Below w.heap.size (w.alloc (.cells #[.pointer none, .slice none 0 0] 97)) w') :=
  Tryz.Builder_Grow_fresh w.heap.size w.heap.size (ln s) _ (Nat.le_refl _) (alloc_new w _) (by simp) (by omega)
 have HG := Lib.hid hg
 clear hl hs hs63 hg
 go_enter Tryz.func66, Tryz.ntmps66
 go_wp2_with fail
 refine (C1.out _).mono ?_
 rintro e w' ⟨rfl, rfl⟩
 go_wp2_with fail
 refine HG.out.mono ?_
 rintro e w1 ⟨rfl, hb1, bl1⟩
 have hbl : Below w.heap.size w w1 := ((Below.refl w.heap.size w).alloc (Nat.le_refl _) _).trans bl1
 have I1 := Lib.hid (show Bld w.heap.size [] w1 from Lib.IsBuilderF.of (.inr hb1))
 have B1 := Lib.hid hbl
 clear hb1 bl1 hbl
 go_wp2_with fail
 refine (C2.out _).mono ?_
 rintro e w2 ⟨rfl, hr2, b2⟩
 have R2 := Lib.hid hr2
 have hlt1 := bld_lt I1.out
 have I2 := Lib.hid (bld_below I1.out b2)
 have B2 := Lib.hid (below_le B1.out b2)
 have HR := Lib.hid (show w1.heap.size ≠ w.heap.size by omega)
 obtain ⟨R, hR⟩ : ∃ R, w1.heap.size = R := ⟨_, rfl⟩
 rw [hR] at R2 HR ⊢
 clear hr2 b2 hlt1 hR
 go_wp2
 go_loopw [12] (fun i wr => ∃ k : Nat, i = .int .i64 k ∧ k ≤ ln s ∧ Hid (Bld w.heap.size ((((us s).take k).map nr0).map UInt8.ofNat) wr) ∧ Hid (wr.rowIs R 87 (ln s) (fun j => .int .u16 (un s j : Nat))) ∧ Hid (Below w.heap.size w wr)) (fun i _ => ln s - (intOf i).toNat)
 case atStart => exact ⟨0, rfl, Nat.zero_le _, I2, R2, B2⟩
 case round =>
  obtain ⟨k, rfl, hk, I3, R3, B3⟩ := hrel
  by_cases hlt : k < ln s
  ·have hcell : wr.cell? ⟨R, k, none⟩ = some (.int .u16 (un s k : Nat)) := R3.out.cell hlt
   have hul := un_lt s k
   have HST := Lib.hid (us_take_succ s k hlt)
   obtain ⟨u, hu⟩ : ∃ u, un s k = u := ⟨_, rfl⟩
   rw [hu] at hcell hul HST
   have hc1 := nr0_lt u
   have hlen : (Lib.byteCells ((((us s).take k).map nr0).map UInt8.ofNat)).length + 1 ≤ 140737488355328 := by
    rw [Lib.byteCells_length, List.length_map, List.length_map, List.length_take]
    have := HS.out
    omega
   have C4 := Lib.hid (fun c : Int => Tryz.Builder_WriteByte_k w.heap.size w.heap.size _ c wr I3.out hlen B3.out.size)
   have KEY := Lib.hid (show ∀ w', Lib.BuilderAtF 97 5 w.heap.size w.heap.size (.pointer (some ⟨w.heap.size, 0, none⟩)) (Lib.byteCells ((((us s).take k).map nr0).map UInt8.ofNat) ++ [.int .u8 (nr0 u : Nat)]) w' → Bld w.heap.size ((((us s).take (k + 1)).map nr0).map UInt8.ofNat) w' from fun w' h => by
    rw [cells_snoc _ _ (by omega)] at h
    rw [HST.out, List.map_append, List.map_append]
    exact Or.inr h)
   have a1 : (0 : Int) ≤ (k : Int) := by omega
   have a2 : (k : Int) < (ln s : Int) := by omega
   clear hlen
   by_cases hb : 127 < u
   ·have e0 : nr0 u = 0 := if_pos hb
    rw [e0] at KEY
    have t1 : decide ((127 : Int) < (u : Int)) = true := decide_eq_true (by omega)
    clear hu hul hc1 hb e0
    go_wp2_with fail
    refine (C4.out 0).mono ?_
    rintro e w3 ⟨rfl, hI, hb3, ho3⟩
    have I4 := Lib.hid (KEY.out _ hI)
    have R4 := Lib.hid (row_others R3.out ho3 HR.out)
    have B4 := Lib.hid (B3.out.trans hb3)
    clear hI hb3 ho3
    go_wp2
    exact ⟨⟨k + 1, by go_num, by omega, I4, R4, B4⟩, by simp [intOf]; omega⟩
   ·have e0 : nr0 u = u := if_neg hb
    rw [e0] at KEY
    have t1 : decide ((127 : Int) < (u : Int)) = false := decide_eq_false (by omega)
    have k1 : IntKind.u8.wrap (u : Int) = (u : Int) := IntWalk.u8_in _ (by omega)
    clear hu hul hc1 hb e0
    go_wp2_with fail
    refine (C4.out _).mono ?_
    rintro e w3 ⟨rfl, hI, hb3, ho3⟩
    have I4 := Lib.hid (KEY.out _ hI)
    have R4 := Lib.hid (row_others R3.out ho3 HR.out)
    have B4 := Lib.hid (B3.out.trans hb3)
    clear hI hb3 ho3
    go_wp2
    exact ⟨⟨k + 1, by go_num, by omega, I4, R4, B4⟩, by simp [intOf]; omega⟩
  ·obtain ⟨T, hT⟩ : ∃ T, (((us s).take k).map nr0).map UInt8.ofNat = T := ⟨_, rfl⟩
   have I5 := I3.out
   rw [hT] at I5
   have hS := Lib.hid (Tryz.Builder_String_any_k w.heap.size w.heap.size T wr I5 B3.out.size)
   have HZ := Lib.hid (show (⟨T.toArray⟩ : ByteArray) = strOf (nrw 0 (us s)) from by
    rw [← hT, show (us s).take k = us s by rw [show k = ln s by omega]; exact us_take_all s]
    rfl)
   clear hT I5 I3
   go_wp2_with (go_at_call 99; refine hS.out.mono ?_; rintro e w2 ⟨rfl, _, hb2, _⟩)
   go_ret
   exact ⟨by rw [← HZ.out]; rfl, B3.out.trans hb2⟩

end Go.Proofs.YtfcpkdafkmohkaaGreatDoor
namespace Go.Proofs.YtfcpkdafkmohkaaGreatDoor
open Go.RowKit
set_option maxRecDepth 100000 in
theorem tnan_any (w : World) : Cq 77 #[] (.float .f64 nanW) w := by
 have h1 : (callFunc 120 #[.int .u64 9221120237041090560]).run Tryz.prog w = .ok (.value (.float .f64 9221120237041090560)) w := f64from_run 9221120237041090560 w
 go_enter Tryz.func77, Tryz.ntmps77
 go_wp2
 go_ret
 exact ⟨rfl, rfl⟩
theorem inf_split {u : List Nat} (h : infB u = true) : u = infL ++ u.drop 8 := by
 unfold infB at h
 obtain ⟨t, ht⟩ := List.isPrefixOf_iff_prefix.1 h
 rw [← ht, show (infL ++ t).drop 8 = t from rfl]
theorem inf_dec {u : List Nat} (h : infB u = true) : dB u = false := by
 rw [inf_split h]
 rfl
theorem inf_all {u : List Nat} : (infB u = true ∧ u.drop 8 = []) ↔ u = infL := by
 constructor
 ·rintro ⟨h1, h2⟩
  have := inf_split h1
  rw [h2, List.append_nil] at this
  exact this
 ·intro h; rw [h]; exact ⟨by decide, by decide⟩
theorem numW_nb (l : List Nat) : numW l = if l = [] then 0 else if hxB l = true then natV 16 (l.drop 2) else if nbB l = true ∧ nbR l = [] then nbV l else nanW := by
 unfold numW
 by_cases h0 : l = []
 ·rw [if_pos h0, if_pos h0]
 ·rw [if_neg h0, if_neg h0]
  by_cases h1 : hxB l = true
  ·rw [if_pos h1, if_pos h1]
  ·rw [if_neg h1, if_neg h1]
   unfold nbB nbR nbV
   cases hi : infB (unsg l)
   ·have hn : ¬ unsg l = infL := fun e => by rw [e] at hi; revert hi; decide
    rw [if_neg hn]
    simp only [Bool.false_or, Bool.false_eq_true, if_false]
    cases hd : dB (unsg l)
    ·simp
    ·simp
   ·have hd := inf_dec hi
    simp only [Bool.true_or, if_true, true_and, hd, Bool.false_eq_true, false_and, if_false]
    by_cases he : (unsg l).drop 8 = []
    ·rw [if_pos (inf_all.1 ⟨hi, he⟩), if_pos he]
    ·rw [if_neg (fun e => he (inf_all.2 e).2), if_neg he]
theorem trim_len (s : ByteArray) : (trimS s).size ≤ s.size := by
 unfold trimS slS
 split
 ·rw [ByteArray.size_extract]; omega
 ·exact Nat.zero_le _
theorem nrw_len (z : Nat) (l : List Nat) : (nrw z l).length = l.length := by unfold nrw; rw [List.length_map]
theorem nrw_size {s : ByteArray} (h : s.size ≤ 140737488355328) : (nrw 0 (us s)).length ≤ 140737488355328 := by
 rw [nrw_len, us_length]
 have := ln_le s
 omega
theorem em_str : (strOf []).toList.isEmpty = true := by rw [Lib.toList_data]; rfl
theorem em_iff (l : List Nat) : (strOf l).toList.isEmpty = decide (l = []) := by
 by_cases h : l = []
 ·rw [h, em_str]; rfl
 ·rw [(str_ne h).2, decide_eq_false h]
set_option maxRecDepth 100000 in
set_option maxHeartbeats 1000000 in
theorem tNumber_walk (s t l r : ByteArray) (H F : Nat) (c1 c2 c3 c4 : Bool) (w : World)
  (C1 : Hid (∀ W, Cp 75 #[.string s] W fun e w' => e = .returned (.string t) ∧ ∃ n, w' = W.drewN n))
  (C2 : Hid (∀ W, Ct 66 #[.string t] (.string l) W))
  (C3 : Hid (∀ W, Ct 67 #[.string l] (.tuple #[.float .f64 H, .bool c2]) W))
  (C4 : Hid (∀ W, Ct 76 #[.string l] (.tuple #[.float .f64 F, .string r, .bool c3]) W))
  (t1 : l.toList.isEmpty = c1) (t2 : r.toList.isEmpty = c4) :
  Ct 28 #[.string s] (.float .f64 (if c1 = true then 0 else if c2 = true then H else if c3 = true ∧ c4 = true then F else nanW : Nat)) w := by
 have C5 := Lib.hid (fun W => tnan_any W)
 cases c1
 ·cases c2
  ·cases c3
   ·simp only [Bool.false_eq_true, if_false, false_and]
    go_enter Tryz.func28, Tryz.ntmps28
    go_wp2_with fail
    refine (C1.out _).mono ?_
    rintro e w' ⟨rfl, n, rfl⟩
    go_wp2_with fail
    refine (C2.out _).mono ?_
    rintro e w1 ⟨rfl, b1⟩
    have B1 := Lib.hid (below_drewN' (Below.refl w.heap.size w) n |>.trans b1)
    clear b1
    go_wp2_with fail
    refine (C3.out _).mono ?_
    rintro e w2 ⟨rfl, b2⟩
    have B2 := Lib.hid (below_le B1.out b2)
    clear b2
    go_wp2_with fail
    refine (C4.out _).mono ?_
    rintro e w3 ⟨rfl, b3⟩
    have B3 := Lib.hid (below_le B2.out b3)
    clear b3
    go_wp2_with fail
    refine (C5.out _).mono ?_
    rintro e w' ⟨rfl, rfl⟩
    go_wp2
    go_ret
    exact ⟨rfl, B3.out⟩
   ·cases c4
    ·simp only [Bool.false_eq_true, if_false, and_false]
     go_enter Tryz.func28, Tryz.ntmps28
     go_wp2_with fail
     refine (C1.out _).mono ?_
     rintro e w' ⟨rfl, n, rfl⟩
     go_wp2_with fail
     refine (C2.out _).mono ?_
     rintro e w1 ⟨rfl, b1⟩
     have B1 := Lib.hid (below_drewN' (Below.refl w.heap.size w) n |>.trans b1)
     clear b1
     go_wp2_with fail
     refine (C3.out _).mono ?_
     rintro e w2 ⟨rfl, b2⟩
     have B2 := Lib.hid (below_le B1.out b2)
     clear b2
     go_wp2_with fail
     refine (C4.out _).mono ?_
     rintro e w3 ⟨rfl, b3⟩
     have B3 := Lib.hid (below_le B2.out b3)
     clear b3
     go_wp2_with fail
     refine (C5.out _).mono ?_
     rintro e w' ⟨rfl, rfl⟩
     go_wp2
     go_ret
     exact ⟨rfl, B3.out⟩
    ·simp only [Bool.false_eq_true, if_false, and_self, if_true]
     go_enter Tryz.func28, Tryz.ntmps28
     go_wp2_with fail
     refine (C1.out _).mono ?_
     rintro e w' ⟨rfl, n, rfl⟩
     go_wp2_with fail
     refine (C2.out _).mono ?_
     rintro e w1 ⟨rfl, b1⟩
     have B1 := Lib.hid (below_drewN' (Below.refl w.heap.size w) n |>.trans b1)
     clear b1
     go_wp2_with fail
     refine (C3.out _).mono ?_
     rintro e w2 ⟨rfl, b2⟩
     have B2 := Lib.hid (below_le B1.out b2)
     clear b2
     go_wp2_with fail
     refine (C4.out _).mono ?_
     rintro e w3 ⟨rfl, b3⟩
     have B3 := Lib.hid (below_le B2.out b3)
     clear b3
     go_wp2
     go_ret
     exact ⟨rfl, B3.out⟩
  ·simp only [Bool.false_eq_true, if_false, if_true]
   go_enter Tryz.func28, Tryz.ntmps28
   go_wp2_with fail
   refine (C1.out _).mono ?_
   rintro e w' ⟨rfl, n, rfl⟩
   go_wp2_with fail
   refine (C2.out _).mono ?_
   rintro e w1 ⟨rfl, b1⟩
   have B1 := Lib.hid (below_drewN' (Below.refl w.heap.size w) n |>.trans b1)
   clear b1
   go_wp2_with fail
   refine (C3.out _).mono ?_
   rintro e w2 ⟨rfl, b2⟩
   have B2 := Lib.hid (below_le B1.out b2)
   clear b2
   go_wp2
   go_ret
   exact ⟨rfl, B2.out⟩
 ·simp only [if_true]
  go_enter Tryz.func28, Tryz.ntmps28
  go_wp2_with fail
  refine (C1.out _).mono ?_
  rintro e w' ⟨rfl, n, rfl⟩
  go_wp2_with fail
  refine (C2.out _).mono ?_
  rintro e w1 ⟨rfl, b1⟩
  have B1 := Lib.hid (below_drewN' (Below.refl w.heap.size w) n |>.trans b1)
  clear b1
  go_wp2
  go_ret
  exact ⟨rfl, B1.out⟩
theorem tNumber_any (s : ByteArray) (w : World) (hs : s.size ≤ 140737488355328) :
  Ct 28 #[.string s] (.float .f64 (numW (nrw 0 (us (trimS s))))) w := by
 have ht := trim_len s
 have hl := nrw_lt (z := 0) (by omega) (us (trimS s))
 have hln := nrw_size (s := trimS s) (by omega)
 obtain ⟨l, hll⟩ : ∃ l, nrw 0 (us (trimS s)) = l := ⟨_, rfl⟩
 have C2 := fun W => tnarrow_any (trimS s) W (by omega)
 rw [hll] at C2 hl hln ⊢
 have h := tNumber_walk s (trimS s) (strOf l) (strOf (nbR l)) _ _ (decide (l = [])) (hxB l) (nbB l) (decide (nbR l = [])) w (Lib.hid (fun W => trim_any s W (by unfold maxLen; omega))) (Lib.hid C2)
  (Lib.hid (fun W => thexadecimal_any l W hl hln)) (Lib.hid (fun W => tnumber_any l W (fun c hc => Nat.lt_trans (hl c hc) (by omega)) hln)) (em_iff l) (em_iff _)
 refine h.mono fun e w' x => ⟨?_, x.2⟩
 rw [x.1, numW_nb]
 simp only [decide_eq_true_eq]
 cases h1 : hxB l
 ·simp only [Bool.false_eq_true, if_false]
 ·simp only [if_true]
end Go.Proofs.YtfcpkdafkmohkaaGreatDoor
namespace Go.Proofs.YtfcpkdafkmohkaaGreatDoor
open Go.RowKit
theorem bln_ten1 : bln 10 = 4 := by decide
set_option maxRecDepth 100000 in
set_option maxHeartbeats 1000000 in
theorem ypow_any (n : Nat) (w : World) (hn : n ≤ 3000) : Cp 115 #[.int .i64 n] w (NRet (10 ^ n) w) := by
 have hn1 : (n : Int) ≤ 3000 := by omega
 have N0 := Lib.hid (NV.lit w 1 (by omega) (by omega))
 have B0 := Lib.hid (show Below w.heap.size w (w.alloc (.cells #[.int .u32 1] 42)) from (Below.refl _ _).alloc (Nat.le_refl _) _)
 go_enter Tryz.func115, Tryz.ntmps115
 go_wp2
 go_loopw [3, 4] (fun v i wr => ∃ (k : Nat) (A : Option Addr) (m c : Nat), i = .int .i64 k ∧ k ≤ n ∧ v = .slice A m c ∧ Hid (NV wr A m c (10 ^ k)) ∧ Hid (Below w.heap.size w wr)) (fun _ i _ => n - (intOf i).toNat)
 case atStart => exact ⟨0, _, _, _, rfl, Nat.zero_le _, rfl, N0, B0⟩
 case round =>
  obtain ⟨k, A, m, c, rfl, hk, rfl, HV, HB⟩ := hrel
  by_cases hlt : k < n
  ·have hlt' : (k : Int) < (n : Int) := by omega
   have hb := bln_ten k
   have b1 : Below wr.heap.size wr (wr.alloc (.cells #[.int .u32 10] 42)) := (Below.refl _ _).alloc (Nat.le_refl _) _
   have C1 := Lib.hid (rntimes (HV.out.step b1) (NV.lit wr 10 (by omega) (by omega)) (by omega) (by rw [bln_ten1]; omega))
   have HB1 := Lib.hid (below_le HB.out b1)
   rw [← Nat.pow_succ] at C1
   clear hb b1
   go_wp2_with fail
   refine C1.out.mono ?_
   rintro e w2 ⟨A2, m2, c2, rfl, g2, b2⟩
   have G2 := Lib.hid g2
   have HB2 := Lib.hid (below_le HB1.out b2)
   clear g2 b2
   go_wp2
   exact ⟨⟨k + 1, A2, m2, c2, by go_num, by omega, rfl, G2, HB2⟩, by simp [intOf]; omega⟩
  ·have HZ := Lib.hid (show k = n by omega)
   go_wp2
   go_ret
   exact ⟨A, m, c, rfl, by rw [← HZ.out]; exact HV.out, HB.out⟩
end Go.Proofs.YtfcpkdafkmohkaaGreatDoor
namespace Go.Proofs.YtfcpkdafkmohkaaGreatDoor
open Go.RowKit
set_option maxRecDepth 100000 in
set_option maxHeartbeats 2000000 in
theorem ydec_none (s : ByteArray) (K N : Nat) (X : Int) (w : World) (hs : s.size ≤ 281474976710656) (hK : K ≤ s.size) (hN : s.size - K = N)
  (Z1 : Hid (∀ k (h : k < s.size), k < K → (s[k]'h).toNat = 48)) (Z2 : Hid (∀ h : K < s.size, (s[K]'h).toNat ≠ 48))
  (hN0 : N = 0) :
  Ct 104 #[.string s, .int .i64 X] (.float .f64 0) w := by
 have h1 : (s.size : Int) ≤ 281474976710656 := by omega
 have HN := Lib.hid hN
 have HK := Lib.hid hK
 subst hN0
 clear hs hK hN
 go_enter Tryz.func104, Tryz.ntmps104
 go_wp2
 go_loopw [5] (fun i wr => ∃ k : Nat, i = .int .i64 k ∧ k ≤ K ∧ w = wr) (fun i _ => K - (intOf i).toNat)
 case atStart => exact ⟨0, rfl, Nat.zero_le _, rfl⟩
 case round =>
  obtain ⟨k, rfl, hk, rfl⟩ := hrel
  have hk2 := HK.out
  by_cases hlt : k < K
  ·have hks : k < s.size := by omega
   have e0 : ((s[k]'hks).toNat : Int) = 48 := by rw [Z1.out k hks hlt]; rfl
   have a2 : (k : Int) < (s.size : Int) := by omega
   have a1 : (0 : Int) ≤ (k : Int) := by omega
   clear hk2
   go_wp2
   exact ⟨⟨k + 1, by go_num, by omega, trivial⟩, by simp [intOf]; omega⟩
  ·obtain rfl : k = K := by omega
   have a2 : (s.size : Int) = (k : Int) := by have := HN.out; omega
   have a3 : (k : Int) ≤ (s.size : Int) := by omega
   have a1 : (0 : Int) ≤ (k : Int) := by omega
   have a4 : ((s.size - k : Nat) : Int) = 0 := by rw [HN.out]; rfl
   have t1 : decide ((k : Int) < (s.size : Int)) = false := decide_eq_false (by omega)
   clear hk2 a2
   go_wp2
   go_ret
   exact ⟨rfl, Below.refl _ _⟩
set_option maxRecDepth 100000 in
set_option maxHeartbeats 2000000 in
theorem ydec_high (s : ByteArray) (K N : Nat) (X P : Int) (w : World) (hs : s.size ≤ 281474976710656) (hK : K ≤ s.size) (hN : s.size - K = N)
  (Z1 : Hid (∀ k (h : k < s.size), k < K → (s[k]'h).toNat = 48)) (Z2 : Hid (∀ h : K < s.size, (s[K]'h).toNat ≠ 48))
  (hN0 : 0 < N) (p1 : wrap64 ((N : Int) + X) = P) (t0 : ((N : Int) == 0) = false) (t1 : decide (400 < P) = true) :
  Ct 104 #[.string s, .int .i64 X] (.float .f64 9218868437227405312) w := by
 have h1 : (s.size : Int) ≤ 281474976710656 := by omega
 have HN := Lib.hid hN
 have HK := Lib.hid hK
 have HN0 := Lib.hid hN0
 clear hs hK hN hN0
 go_enter Tryz.func104, Tryz.ntmps104
 go_wp2
 go_loopw [5] (fun i wr => ∃ k : Nat, i = .int .i64 k ∧ k ≤ K ∧ w = wr) (fun i _ => K - (intOf i).toNat)
 case atStart => exact ⟨0, rfl, Nat.zero_le _, rfl⟩
 case round =>
  obtain ⟨k, rfl, hk, rfl⟩ := hrel
  have hk2 := HK.out
  by_cases hlt : k < K
  ·have hks : k < s.size := by omega
   have e0 : ((s[k]'hks).toNat : Int) = 48 := by rw [Z1.out k hks hlt]; rfl
   have a2 : (k : Int) < (s.size : Int) := by omega
   have a1 : (0 : Int) ≤ (k : Int) := by omega
   clear hk2
   go_wp2
   exact ⟨⟨k + 1, by go_num, by omega, trivial⟩, by simp [intOf]; omega⟩
  ·obtain rfl : k = K := by omega
   have hz : k < s.size := by have := HN.out; have := HN0.out; omega
   obtain ⟨B, hB⟩ : ∃ B : Nat, (s[k]'hz).toNat = B := ⟨_, rfl⟩
   have hB48 := Z2.out hz
   rw [hB] at hB48
   have e0 : ((s[k]'hz).toNat : Int) = (B : Int) := by rw [hB]
   have e1 : ((B : Int) == 48) = false := by rw [beq_eq_false_iff_ne]; omega
   have a2 : (k : Int) < (s.size : Int) := by omega
   have a1 : (0 : Int) ≤ (k : Int) := by omega
   have a3 : (k : Int) ≤ (s.size : Int) := by omega
   have a4 : ((s.size - k : Nat) : Int) = (N : Int) := by rw [HN.out]
   clear hk2 hB hB48
   have C3 := Lib.hid (fun W => inf1_any W)
   go_wp2_with fail
   refine (C3.out _).mono ?_
   rintro e w' ⟨rfl, rfl⟩
   go_wp2
   go_ret
   exact ⟨rfl, Below.refl _ _⟩
set_option maxRecDepth 100000 in
set_option maxHeartbeats 2000000 in
theorem ydec_low (s : ByteArray) (K N : Nat) (X P : Int) (w : World) (hs : s.size ≤ 281474976710656) (hK : K ≤ s.size) (hN : s.size - K = N)
  (Z1 : Hid (∀ k (h : k < s.size), k < K → (s[k]'h).toNat = 48)) (Z2 : Hid (∀ h : K < s.size, (s[K]'h).toNat ≠ 48))
  (hN0 : 0 < N) (p1 : wrap64 ((N : Int) + X) = P) (t0 : ((N : Int) == 0) = false) (t1 : decide (400 < P) = false) (t2 : decide (P < -400) = true) :
  Ct 104 #[.string s, .int .i64 X] (.float .f64 0) w := by
 have h1 : (s.size : Int) ≤ 281474976710656 := by omega
 have HN := Lib.hid hN
 have HK := Lib.hid hK
 have HN0 := Lib.hid hN0
 clear hs hK hN hN0
 go_enter Tryz.func104, Tryz.ntmps104
 go_wp2
 go_loopw [5] (fun i wr => ∃ k : Nat, i = .int .i64 k ∧ k ≤ K ∧ w = wr) (fun i _ => K - (intOf i).toNat)
 case atStart => exact ⟨0, rfl, Nat.zero_le _, rfl⟩
 case round =>
  obtain ⟨k, rfl, hk, rfl⟩ := hrel
  have hk2 := HK.out
  by_cases hlt : k < K
  ·have hks : k < s.size := by omega
   have e0 : ((s[k]'hks).toNat : Int) = 48 := by rw [Z1.out k hks hlt]; rfl
   have a2 : (k : Int) < (s.size : Int) := by omega
   have a1 : (0 : Int) ≤ (k : Int) := by omega
   clear hk2
   go_wp2
   exact ⟨⟨k + 1, by go_num, by omega, trivial⟩, by simp [intOf]; omega⟩
  ·obtain rfl : k = K := by omega
   have hz : k < s.size := by have := HN.out; have := HN0.out; omega
   obtain ⟨B, hB⟩ : ∃ B : Nat, (s[k]'hz).toNat = B := ⟨_, rfl⟩
   have hB48 := Z2.out hz
   rw [hB] at hB48
   have e0 : ((s[k]'hz).toNat : Int) = (B : Int) := by rw [hB]
   have e1 : ((B : Int) == 48) = false := by rw [beq_eq_false_iff_ne]; omega
   have a2 : (k : Int) < (s.size : Int) := by omega
   have a1 : (0 : Int) ≤ (k : Int) := by omega
   have a3 : (k : Int) ≤ (s.size : Int) := by omega
   have a4 : ((s.size - k : Nat) : Int) = (N : Int) := by rw [HN.out]
   clear hk2 hB hB48
   go_wp2
   go_ret
   exact ⟨rfl, Below.refl _ _⟩
set_option maxRecDepth 100000 in
set_option maxHeartbeats 2000000 in
theorem ydec_short_pos (s : ByteArray) (K N : Nat) (X P : Int) (m F : Nat) (D M : Nat) (w : World) (hs : s.size ≤ 281474976710656) (hK : K ≤ s.size) (hN : s.size - K = N)
  (Z1 : Hid (∀ k (h : k < s.size), k < K → (s[k]'h).toNat = 48)) (Z2 : Hid (∀ h : K < s.size, (s[K]'h).toNat ≠ 48))
  (hN0 : 0 < N) (p1 : wrap64 ((N : Int) + X) = P) (t0 : ((N : Int) == 0) = false) (t1 : decide (400 < P) = false) (t2 : decide (P < -400) = false) (t3 : decide (820 < (N : Int)) = false)
  (C3 : Hid (∀ W, Cp 165 #[.string (s.extract K s.size), .int .i64 10] W (NOk m W)))
  (C4 : Hid (∀ W, Cp 115 #[.int .i64 X] W (NRet D W)))
  (C5 : Hid (∀ W A1 n1 c1 A2 n2 c2, NV W A1 n1 c1 m → NV W A2 n2 c2 D → Cp 51 #[.slice A1 n1 c1, .slice A2 n2 c2] W (NRet M W)))
  (C6 : Hid (∀ W A1 n1 c1, NV W A1 n1 c1 M → Ct 154 #[.slice A1 n1 c1, .int .i64 0] (.float .f64 F) W))
  (u0 : decide (0 ≤ X) = true) :
  Ct 104 #[.string s, .int .i64 X] (.float .f64 F) w := by
 have h1 : (s.size : Int) ≤ 281474976710656 := by omega
 have HN := Lib.hid hN
 have HK := Lib.hid hK
 have HN0 := Lib.hid hN0
 clear hs hK hN hN0
 go_enter Tryz.func104, Tryz.ntmps104
 go_wp2
 go_loopw [5] (fun i wr => ∃ k : Nat, i = .int .i64 k ∧ k ≤ K ∧ w = wr) (fun i _ => K - (intOf i).toNat)
 case atStart => exact ⟨0, rfl, Nat.zero_le _, rfl⟩
 case round =>
  obtain ⟨k, rfl, hk, rfl⟩ := hrel
  have hk2 := HK.out
  by_cases hlt : k < K
  ·have hks : k < s.size := by omega
   have e0 : ((s[k]'hks).toNat : Int) = 48 := by rw [Z1.out k hks hlt]; rfl
   have a2 : (k : Int) < (s.size : Int) := by omega
   have a1 : (0 : Int) ≤ (k : Int) := by omega
   clear hk2
   go_wp2
   exact ⟨⟨k + 1, by go_num, by omega, trivial⟩, by simp [intOf]; omega⟩
  ·obtain rfl : k = K := by omega
   have hz : k < s.size := by have := HN.out; have := HN0.out; omega
   obtain ⟨B, hB⟩ : ∃ B : Nat, (s[k]'hz).toNat = B := ⟨_, rfl⟩
   have hB48 := Z2.out hz
   rw [hB] at hB48
   have e0 : ((s[k]'hz).toNat : Int) = (B : Int) := by rw [hB]
   have e1 : ((B : Int) == 48) = false := by rw [beq_eq_false_iff_ne]; omega
   have a2 : (k : Int) < (s.size : Int) := by omega
   have a1 : (0 : Int) ≤ (k : Int) := by omega
   have a3 : (k : Int) ≤ (s.size : Int) := by omega
   have a4 : ((s.size - k : Nat) : Int) = (N : Int) := by rw [HN.out]
   clear hk2 hB hB48
   go_wp2_with fail
   refine (C3.out _).mono ?_
   rintro e w1 ⟨A1, n1, c1, rfl, g1, b1⟩
   have G1 := Lib.hid g1
   have B1 := Lib.hid b1
   clear g1 b1
   go_wp2_with fail
   refine (C4.out _).mono ?_
   rintro e w2 ⟨A2, n2, c2, rfl, g2, b2⟩
   have G2 := Lib.hid g2
   have G1a := Lib.hid (G1.out.step b2)
   have B2 := Lib.hid (below_le B1.out b2)
   clear g2 b2
   go_wp2_with fail
   refine (C5.out _ _ _ _ _ _ _ G1a.out G2.out).mono ?_
   rintro e w3 ⟨A3, n3, c3, rfl, g3, b3⟩
   have G3 := Lib.hid g3
   have B3 := Lib.hid (below_le B2.out b3)
   clear g3 b3
   go_wp2_with fail
   refine (C6.out _ _ _ _ G3.out).mono ?_
   rintro e w4 ⟨rfl, b4⟩
   have B4 := Lib.hid (below_le B3.out b4)
   clear b4
   go_wp2
   go_ret
   exact ⟨rfl, B4.out⟩
set_option maxRecDepth 100000 in
set_option maxHeartbeats 2000000 in
theorem ydec_short_neg00 (s : ByteArray) (K N : Nat) (X P : Int) (m F : Nat) (D M Q bd ba : Nat) (x1 up Y : Int) (w : World) (hs : s.size ≤ 281474976710656) (hK : K ≤ s.size) (hN : s.size - K = N)
  (Z1 : Hid (∀ k (h : k < s.size), k < K → (s[k]'h).toNat = 48)) (Z2 : Hid (∀ h : K < s.size, (s[K]'h).toNat ≠ 48))
  (hN0 : 0 < N) (p1 : wrap64 ((N : Int) + X) = P) (t0 : ((N : Int) == 0) = false) (t1 : decide (400 < P) = false) (t2 : decide (P < -400) = false) (t3 : decide (820 < (N : Int)) = false)
  (C3 : Hid (∀ W, Cp 165 #[.string (s.extract K s.size), .int .i64 10] W (NOk m W)))
  (C4 : Hid (∀ W, Cp 115 #[.int .i64 (-X)] W (NRet D W)))
  (C5 : Hid (∀ W A1 n1 c1, NV W A1 n1 c1 D → Ct 163 #[.slice A1 n1 c1] (.int .i64 (bd : Nat)) W))
  (C6 : Hid (∀ W A1 n1 c1, NV W A1 n1 c1 m → Ct 163 #[.slice A1 n1 c1] (.int .i64 (ba : Nat)) W))
  (C7 : Hid (∀ W A1 n1 c1, NV W A1 n1 c1 m → Cp 102 #[.slice A1 n1 c1, .int .i64 0] W (NRet M W)))
  (C8 : Hid (∀ W A1 n1 c1 A2 n2 c2, NV W A1 n1 c1 M → NV W A2 n2 c2 D → Cp 49 #[.slice A1 n1 c1, .slice A2 n2 c2] W (HRet M D W)))
  (C9 : Hid (∀ W A1 n1 c1, NV W A1 n1 c1 (M / D) → Cp 102 #[.slice A1 n1 c1, .int .i64 1] W (NRet Q W)))
  (C11 : Hid (∀ W A1 n1 c1, NV W A1 n1 c1 Q → Ct 154 #[.slice A1 n1 c1, .int .i64 Y] (.float .f64 F) W))
  (hrem : M % D = 0)
  (u0 : decide (0 ≤ X) = false) (u1 : wrap64 (-X) = -X) (u2 : wrap64 ((bd : Int) - (ba : Int)) = x1) (u3 : wrap64 (x1 + 70) = up) (u4 : decide (up < 0) = true) (u6 : Y = -1) :
  Ct 104 #[.string s, .int .i64 X] (.float .f64 F) w := by
 have h1 : (s.size : Int) ≤ 281474976710656 := by omega
 have HN := Lib.hid hN
 have HK := Lib.hid hK
 have HN0 := Lib.hid hN0
 have HREM := Lib.hid hrem
 subst u6
 clear hs hK hN hN0 hrem
 go_enter Tryz.func104, Tryz.ntmps104
 go_wp2
 go_loopw [5] (fun i wr => ∃ k : Nat, i = .int .i64 k ∧ k ≤ K ∧ w = wr) (fun i _ => K - (intOf i).toNat)
 case atStart => exact ⟨0, rfl, Nat.zero_le _, rfl⟩
 case round =>
  obtain ⟨k, rfl, hk, rfl⟩ := hrel
  have hk2 := HK.out
  by_cases hlt : k < K
  ·have hks : k < s.size := by omega
   have e0 : ((s[k]'hks).toNat : Int) = 48 := by rw [Z1.out k hks hlt]; rfl
   have a2 : (k : Int) < (s.size : Int) := by omega
   have a1 : (0 : Int) ≤ (k : Int) := by omega
   clear hk2
   go_wp2
   exact ⟨⟨k + 1, by go_num, by omega, trivial⟩, by simp [intOf]; omega⟩
  ·obtain rfl : k = K := by omega
   have hz : k < s.size := by have := HN.out; have := HN0.out; omega
   obtain ⟨B, hB⟩ : ∃ B : Nat, (s[k]'hz).toNat = B := ⟨_, rfl⟩
   have hB48 := Z2.out hz
   rw [hB] at hB48
   have e0 : ((s[k]'hz).toNat : Int) = (B : Int) := by rw [hB]
   have e1 : ((B : Int) == 48) = false := by rw [beq_eq_false_iff_ne]; omega
   have a2 : (k : Int) < (s.size : Int) := by omega
   have a1 : (0 : Int) ≤ (k : Int) := by omega
   have a3 : (k : Int) ≤ (s.size : Int) := by omega
   have a4 : ((s.size - k : Nat) : Int) = (N : Int) := by rw [HN.out]
   clear hk2 hB hB48
   go_wp2_with fail
   refine (C3.out _).mono ?_
   rintro e w1 ⟨A1, n1, c1, rfl, g1, b1⟩
   have G1 := Lib.hid g1
   have B1 := Lib.hid b1
   clear g1 b1
   go_wp2_with fail
   refine (C4.out _).mono ?_
   rintro e w2 ⟨A2, n2, c2, rfl, g2, b2⟩
   have G2 := Lib.hid g2
   have G1a := Lib.hid (G1.out.step b2)
   have B2 := Lib.hid (below_le B1.out b2)
   clear g2 b2
   go_wp2_with fail
   refine (C5.out _ _ _ _ G2.out).mono ?_
   rintro e w3 ⟨rfl, b3⟩
   have G2a := Lib.hid (G2.out.step b3)
   have G1b := Lib.hid (G1a.out.step b3)
   have B3 := Lib.hid (below_le B2.out b3)
   clear b3
   go_wp2_with fail
   refine (C6.out _ _ _ _ G1b.out).mono ?_
   rintro e w4 ⟨rfl, b4⟩
   have G2b := Lib.hid (G2a.out.step b4)
   have G1c := Lib.hid (G1b.out.step b4)
   have B4 := Lib.hid (below_le B3.out b4)
   clear b4
   go_wp2_with fail
   refine (C7.out _ _ _ _ G1c.out).mono ?_
   rintro e w5 ⟨A5, n5, c5, rfl, g5, b5⟩
   have G5 := Lib.hid g5
   have G25 := Lib.hid (G2b.out.step b5)
   have B5 := Lib.hid (below_le B4.out b5)
   clear g5 b5
   go_wp2_with fail
   refine (C8.out _ _ _ _ _ _ _ G5.out G25.out).mono ?_
   rintro e w6 ⟨A6, n6, c6, A7, n7, c7, rfl, g6, g7, b6⟩
   have G6 := Lib.hid g6
   have B6 := Lib.hid (below_le B5.out b6)
   obtain rfl : n7 = 0 := by
    have h1 := g7.len
    rw [HREM.out] at h1
    exact h1.symm
   clear g6 g7 b6
   go_wp2_with fail
   refine (C9.out _ _ _ _ G6.out).mono ?_
   rintro e w7 ⟨A8, n8, c8, rfl, g8, b7⟩
   have G8 := Lib.hid g8
   have B7 := Lib.hid (below_le B6.out b7)
   clear g8 b7
   go_wp2_with fail
   refine (C11.out _ _ _ _ G8.out).mono ?_
   rintro e w9 ⟨rfl, b9⟩
   have B9 := Lib.hid (below_le B7.out b9)
   clear b9
   go_wp2
   go_ret
   exact ⟨rfl, B9.out⟩
set_option maxRecDepth 100000 in
set_option maxHeartbeats 2000000 in
theorem ydec_short_neg01 (s : ByteArray) (K N : Nat) (X P : Int) (m F : Nat) (D M Q Q2 bd ba : Nat) (x1 up Y : Int) (w : World) (hs : s.size ≤ 281474976710656) (hK : K ≤ s.size) (hN : s.size - K = N)
  (Z1 : Hid (∀ k (h : k < s.size), k < K → (s[k]'h).toNat = 48)) (Z2 : Hid (∀ h : K < s.size, (s[K]'h).toNat ≠ 48))
  (hN0 : 0 < N) (p1 : wrap64 ((N : Int) + X) = P) (t0 : ((N : Int) == 0) = false) (t1 : decide (400 < P) = false) (t2 : decide (P < -400) = false) (t3 : decide (820 < (N : Int)) = false)
  (C3 : Hid (∀ W, Cp 165 #[.string (s.extract K s.size), .int .i64 10] W (NOk m W)))
  (C4 : Hid (∀ W, Cp 115 #[.int .i64 (-X)] W (NRet D W)))
  (C5 : Hid (∀ W A1 n1 c1, NV W A1 n1 c1 D → Ct 163 #[.slice A1 n1 c1] (.int .i64 (bd : Nat)) W))
  (C6 : Hid (∀ W A1 n1 c1, NV W A1 n1 c1 m → Ct 163 #[.slice A1 n1 c1] (.int .i64 (ba : Nat)) W))
  (C7 : Hid (∀ W A1 n1 c1, NV W A1 n1 c1 m → Cp 102 #[.slice A1 n1 c1, .int .i64 0] W (NRet M W)))
  (C8 : Hid (∀ W A1 n1 c1 A2 n2 c2, NV W A1 n1 c1 M → NV W A2 n2 c2 D → Cp 49 #[.slice A1 n1 c1, .slice A2 n2 c2] W (HRet M D W)))
  (C9 : Hid (∀ W A1 n1 c1, NV W A1 n1 c1 (M / D) → Cp 102 #[.slice A1 n1 c1, .int .i64 1] W (NRet Q W)))
  (C10 : Hid (∀ W A1 n1 c1 A2 n2 c2, NV W A1 n1 c1 Q → NV W A2 n2 c2 1 → Cp 103 #[.slice A1 n1 c1, .slice A2 n2 c2] W (NRet Q2 W)))
  (C11 : Hid (∀ W A1 n1 c1, NV W A1 n1 c1 Q2 → Ct 154 #[.slice A1 n1 c1, .int .i64 Y] (.float .f64 F) W))
  (hrem : M % D ≠ 0)
  (u0 : decide (0 ≤ X) = false) (u1 : wrap64 (-X) = -X) (u2 : wrap64 ((bd : Int) - (ba : Int)) = x1) (u3 : wrap64 (x1 + 70) = up) (u4 : decide (up < 0) = true) (u6 : Y = -1) :
  Ct 104 #[.string s, .int .i64 X] (.float .f64 F) w := by
 have h1 : (s.size : Int) ≤ 281474976710656 := by omega
 have HN := Lib.hid hN
 have HK := Lib.hid hK
 have HN0 := Lib.hid hN0
 have HREM := Lib.hid hrem
 subst u6
 clear hs hK hN hN0 hrem
 go_enter Tryz.func104, Tryz.ntmps104
 go_wp2
 go_loopw [5] (fun i wr => ∃ k : Nat, i = .int .i64 k ∧ k ≤ K ∧ w = wr) (fun i _ => K - (intOf i).toNat)
 case atStart => exact ⟨0, rfl, Nat.zero_le _, rfl⟩
 case round =>
  obtain ⟨k, rfl, hk, rfl⟩ := hrel
  have hk2 := HK.out
  by_cases hlt : k < K
  ·have hks : k < s.size := by omega
   have e0 : ((s[k]'hks).toNat : Int) = 48 := by rw [Z1.out k hks hlt]; rfl
   have a2 : (k : Int) < (s.size : Int) := by omega
   have a1 : (0 : Int) ≤ (k : Int) := by omega
   clear hk2
   go_wp2
   exact ⟨⟨k + 1, by go_num, by omega, trivial⟩, by simp [intOf]; omega⟩
  ·obtain rfl : k = K := by omega
   have hz : k < s.size := by have := HN.out; have := HN0.out; omega
   obtain ⟨B, hB⟩ : ∃ B : Nat, (s[k]'hz).toNat = B := ⟨_, rfl⟩
   have hB48 := Z2.out hz
   rw [hB] at hB48
   have e0 : ((s[k]'hz).toNat : Int) = (B : Int) := by rw [hB]
   have e1 : ((B : Int) == 48) = false := by rw [beq_eq_false_iff_ne]; omega
   have a2 : (k : Int) < (s.size : Int) := by omega
   have a1 : (0 : Int) ≤ (k : Int) := by omega
   have a3 : (k : Int) ≤ (s.size : Int) := by omega
   have a4 : ((s.size - k : Nat) : Int) = (N : Int) := by rw [HN.out]
   clear hk2 hB hB48
   go_wp2_with fail
   refine (C3.out _).mono ?_
   rintro e w1 ⟨A1, n1, c1, rfl, g1, b1⟩
   have G1 := Lib.hid g1
   have B1 := Lib.hid b1
   clear g1 b1
   go_wp2_with fail
   refine (C4.out _).mono ?_
   rintro e w2 ⟨A2, n2, c2, rfl, g2, b2⟩
   have G2 := Lib.hid g2
   have G1a := Lib.hid (G1.out.step b2)
   have B2 := Lib.hid (below_le B1.out b2)
   clear g2 b2
   go_wp2_with fail
   refine (C5.out _ _ _ _ G2.out).mono ?_
   rintro e w3 ⟨rfl, b3⟩
   have G2a := Lib.hid (G2.out.step b3)
   have G1b := Lib.hid (G1a.out.step b3)
   have B3 := Lib.hid (below_le B2.out b3)
   clear b3
   go_wp2_with fail
   refine (C6.out _ _ _ _ G1b.out).mono ?_
   rintro e w4 ⟨rfl, b4⟩
   have G2b := Lib.hid (G2a.out.step b4)
   have G1c := Lib.hid (G1b.out.step b4)
   have B4 := Lib.hid (below_le B3.out b4)
   clear b4
   go_wp2_with fail
   refine (C7.out _ _ _ _ G1c.out).mono ?_
   rintro e w5 ⟨A5, n5, c5, rfl, g5, b5⟩
   have G5 := Lib.hid g5
   have G25 := Lib.hid (G2b.out.step b5)
   have B5 := Lib.hid (below_le B4.out b5)
   clear g5 b5
   go_wp2_with fail
   refine (C8.out _ _ _ _ _ _ _ G5.out G25.out).mono ?_
   rintro e w6 ⟨A6, n6, c6, A7, n7, c7, rfl, g6, g7, b6⟩
   have G6 := Lib.hid g6
   have B6 := Lib.hid (below_le B5.out b6)
   have hn7 : (0 : Int) < (n7 : Int) := by
    have h1 := g7.len
    have h2 : (wds (M % D)) ≠ [] := fun e => HREM.out (by have h3 := wds_val (M % D); rw [e] at h3; exact h3.symm)
    have := List.length_pos_iff.2 h2
    omega
   clear g6 g7 b6
   go_wp2_with fail
   refine (C9.out _ _ _ _ G6.out).mono ?_
   rintro e w7 ⟨A8, n8, c8, rfl, g8, b7⟩
   have G8 := Lib.hid g8
   have B7 := Lib.hid (below_le B6.out b7)
   clear g8 b7
   have bl := Lib.hid (show Below w7.heap.size w7 (w7.alloc (.cells #[.int .u32 1] 42)) from (Below.refl _ _).alloc (Nat.le_refl _) _)
   have C10' := Lib.hid (C10.out _ _ _ _ _ _ _ (G8.out.step bl.out) (NV.lit w7 1 (by omega) (by omega)))
   go_wp2_with fail
   refine C10'.out.mono ?_
   rintro e w8 ⟨A9, n9, c9, rfl, g9, b8⟩
   have G9 := Lib.hid g9
   have B8 := Lib.hid (below_le (below_le B7.out bl.out) b8)
   clear g9 b8
   go_wp2_with fail
   refine (C11.out _ _ _ _ G9.out).mono ?_
   rintro e w9 ⟨rfl, b9⟩
   have B9 := Lib.hid (below_le B8.out b9)
   clear b9
   go_wp2
   go_ret
   exact ⟨rfl, B9.out⟩
set_option maxRecDepth 100000 in
set_option maxHeartbeats 2000000 in
theorem ydec_short_neg10 (s : ByteArray) (K N : Nat) (X P : Int) (m F : Nat) (D M Q bd ba : Nat) (x1 up x2 Y : Int) (w : World) (hs : s.size ≤ 281474976710656) (hK : K ≤ s.size) (hN : s.size - K = N)
  (Z1 : Hid (∀ k (h : k < s.size), k < K → (s[k]'h).toNat = 48)) (Z2 : Hid (∀ h : K < s.size, (s[K]'h).toNat ≠ 48))
  (hN0 : 0 < N) (p1 : wrap64 ((N : Int) + X) = P) (t0 : ((N : Int) == 0) = false) (t1 : decide (400 < P) = false) (t2 : decide (P < -400) = false) (t3 : decide (820 < (N : Int)) = false)
  (C3 : Hid (∀ W, Cp 165 #[.string (s.extract K s.size), .int .i64 10] W (NOk m W)))
  (C4 : Hid (∀ W, Cp 115 #[.int .i64 (-X)] W (NRet D W)))
  (C5 : Hid (∀ W A1 n1 c1, NV W A1 n1 c1 D → Ct 163 #[.slice A1 n1 c1] (.int .i64 (bd : Nat)) W))
  (C6 : Hid (∀ W A1 n1 c1, NV W A1 n1 c1 m → Ct 163 #[.slice A1 n1 c1] (.int .i64 (ba : Nat)) W))
  (C7 : Hid (∀ W A1 n1 c1, NV W A1 n1 c1 m → Cp 102 #[.slice A1 n1 c1, .int .i64 up] W (NRet M W)))
  (C8 : Hid (∀ W A1 n1 c1 A2 n2 c2, NV W A1 n1 c1 M → NV W A2 n2 c2 D → Cp 49 #[.slice A1 n1 c1, .slice A2 n2 c2] W (HRet M D W)))
  (C9 : Hid (∀ W A1 n1 c1, NV W A1 n1 c1 (M / D) → Cp 102 #[.slice A1 n1 c1, .int .i64 1] W (NRet Q W)))
  (C11 : Hid (∀ W A1 n1 c1, NV W A1 n1 c1 Q → Ct 154 #[.slice A1 n1 c1, .int .i64 Y] (.float .f64 F) W))
  (hrem : M % D = 0)
  (u0 : decide (0 ≤ X) = false) (u1 : wrap64 (-X) = -X) (u2 : wrap64 ((bd : Int) - (ba : Int)) = x1) (u3 : wrap64 (x1 + 70) = up) (u4 : decide (up < 0) = false) (u5 : wrap64 (-up) = x2) (u6 : wrap64 (x2 - 1) = Y) :
  Ct 104 #[.string s, .int .i64 X] (.float .f64 F) w := by
 have h1 : (s.size : Int) ≤ 281474976710656 := by omega
 have HN := Lib.hid hN
 have HK := Lib.hid hK
 have HN0 := Lib.hid hN0
 have HREM := Lib.hid hrem
 clear hs hK hN hN0 hrem
 go_enter Tryz.func104, Tryz.ntmps104
 go_wp2
 go_loopw [5] (fun i wr => ∃ k : Nat, i = .int .i64 k ∧ k ≤ K ∧ w = wr) (fun i _ => K - (intOf i).toNat)
 case atStart => exact ⟨0, rfl, Nat.zero_le _, rfl⟩
 case round =>
  obtain ⟨k, rfl, hk, rfl⟩ := hrel
  have hk2 := HK.out
  by_cases hlt : k < K
  ·have hks : k < s.size := by omega
   have e0 : ((s[k]'hks).toNat : Int) = 48 := by rw [Z1.out k hks hlt]; rfl
   have a2 : (k : Int) < (s.size : Int) := by omega
   have a1 : (0 : Int) ≤ (k : Int) := by omega
   clear hk2
   go_wp2
   exact ⟨⟨k + 1, by go_num, by omega, trivial⟩, by simp [intOf]; omega⟩
  ·obtain rfl : k = K := by omega
   have hz : k < s.size := by have := HN.out; have := HN0.out; omega
   obtain ⟨B, hB⟩ : ∃ B : Nat, (s[k]'hz).toNat = B := ⟨_, rfl⟩
   have hB48 := Z2.out hz
   rw [hB] at hB48
   have e0 : ((s[k]'hz).toNat : Int) = (B : Int) := by rw [hB]
   have e1 : ((B : Int) == 48) = false := by rw [beq_eq_false_iff_ne]; omega
   have a2 : (k : Int) < (s.size : Int) := by omega
   have a1 : (0 : Int) ≤ (k : Int) := by omega
   have a3 : (k : Int) ≤ (s.size : Int) := by omega
   have a4 : ((s.size - k : Nat) : Int) = (N : Int) := by rw [HN.out]
   clear hk2 hB hB48
   go_wp2_with fail
   refine (C3.out _).mono ?_
   rintro e w1 ⟨A1, n1, c1, rfl, g1, b1⟩
   have G1 := Lib.hid g1
   have B1 := Lib.hid b1
   clear g1 b1
   go_wp2_with fail
   refine (C4.out _).mono ?_
   rintro e w2 ⟨A2, n2, c2, rfl, g2, b2⟩
   have G2 := Lib.hid g2
   have G1a := Lib.hid (G1.out.step b2)
   have B2 := Lib.hid (below_le B1.out b2)
   clear g2 b2
   go_wp2_with fail
   refine (C5.out _ _ _ _ G2.out).mono ?_
   rintro e w3 ⟨rfl, b3⟩
   have G2a := Lib.hid (G2.out.step b3)
   have G1b := Lib.hid (G1a.out.step b3)
   have B3 := Lib.hid (below_le B2.out b3)
   clear b3
   go_wp2_with fail
   refine (C6.out _ _ _ _ G1b.out).mono ?_
   rintro e w4 ⟨rfl, b4⟩
   have G2b := Lib.hid (G2a.out.step b4)
   have G1c := Lib.hid (G1b.out.step b4)
   have B4 := Lib.hid (below_le B3.out b4)
   clear b4
   go_wp2_with fail
   refine (C7.out _ _ _ _ G1c.out).mono ?_
   rintro e w5 ⟨A5, n5, c5, rfl, g5, b5⟩
   have G5 := Lib.hid g5
   have G25 := Lib.hid (G2b.out.step b5)
   have B5 := Lib.hid (below_le B4.out b5)
   clear g5 b5
   go_wp2_with fail
   refine (C8.out _ _ _ _ _ _ _ G5.out G25.out).mono ?_
   rintro e w6 ⟨A6, n6, c6, A7, n7, c7, rfl, g6, g7, b6⟩
   have G6 := Lib.hid g6
   have B6 := Lib.hid (below_le B5.out b6)
   obtain rfl : n7 = 0 := by
    have h1 := g7.len
    rw [HREM.out] at h1
    exact h1.symm
   clear g6 g7 b6
   go_wp2_with fail
   refine (C9.out _ _ _ _ G6.out).mono ?_
   rintro e w7 ⟨A8, n8, c8, rfl, g8, b7⟩
   have G8 := Lib.hid g8
   have B7 := Lib.hid (below_le B6.out b7)
   clear g8 b7
   go_wp2_with fail
   refine (C11.out _ _ _ _ G8.out).mono ?_
   rintro e w9 ⟨rfl, b9⟩
   have B9 := Lib.hid (below_le B7.out b9)
   clear b9
   go_wp2
   go_ret
   exact ⟨rfl, B9.out⟩
set_option maxRecDepth 100000 in
set_option maxHeartbeats 2000000 in
theorem ydec_short_neg11 (s : ByteArray) (K N : Nat) (X P : Int) (m F : Nat) (D M Q Q2 bd ba : Nat) (x1 up x2 Y : Int) (w : World) (hs : s.size ≤ 281474976710656) (hK : K ≤ s.size) (hN : s.size - K = N)
  (Z1 : Hid (∀ k (h : k < s.size), k < K → (s[k]'h).toNat = 48)) (Z2 : Hid (∀ h : K < s.size, (s[K]'h).toNat ≠ 48))
  (hN0 : 0 < N) (p1 : wrap64 ((N : Int) + X) = P) (t0 : ((N : Int) == 0) = false) (t1 : decide (400 < P) = false) (t2 : decide (P < -400) = false) (t3 : decide (820 < (N : Int)) = false)
  (C3 : Hid (∀ W, Cp 165 #[.string (s.extract K s.size), .int .i64 10] W (NOk m W)))
  (C4 : Hid (∀ W, Cp 115 #[.int .i64 (-X)] W (NRet D W)))
  (C5 : Hid (∀ W A1 n1 c1, NV W A1 n1 c1 D → Ct 163 #[.slice A1 n1 c1] (.int .i64 (bd : Nat)) W))
  (C6 : Hid (∀ W A1 n1 c1, NV W A1 n1 c1 m → Ct 163 #[.slice A1 n1 c1] (.int .i64 (ba : Nat)) W))
  (C7 : Hid (∀ W A1 n1 c1, NV W A1 n1 c1 m → Cp 102 #[.slice A1 n1 c1, .int .i64 up] W (NRet M W)))
  (C8 : Hid (∀ W A1 n1 c1 A2 n2 c2, NV W A1 n1 c1 M → NV W A2 n2 c2 D → Cp 49 #[.slice A1 n1 c1, .slice A2 n2 c2] W (HRet M D W)))
  (C9 : Hid (∀ W A1 n1 c1, NV W A1 n1 c1 (M / D) → Cp 102 #[.slice A1 n1 c1, .int .i64 1] W (NRet Q W)))
  (C10 : Hid (∀ W A1 n1 c1 A2 n2 c2, NV W A1 n1 c1 Q → NV W A2 n2 c2 1 → Cp 103 #[.slice A1 n1 c1, .slice A2 n2 c2] W (NRet Q2 W)))
  (C11 : Hid (∀ W A1 n1 c1, NV W A1 n1 c1 Q2 → Ct 154 #[.slice A1 n1 c1, .int .i64 Y] (.float .f64 F) W))
  (hrem : M % D ≠ 0)
  (u0 : decide (0 ≤ X) = false) (u1 : wrap64 (-X) = -X) (u2 : wrap64 ((bd : Int) - (ba : Int)) = x1) (u3 : wrap64 (x1 + 70) = up) (u4 : decide (up < 0) = false) (u5 : wrap64 (-up) = x2) (u6 : wrap64 (x2 - 1) = Y) :
  Ct 104 #[.string s, .int .i64 X] (.float .f64 F) w := by
 have h1 : (s.size : Int) ≤ 281474976710656 := by omega
 have HN := Lib.hid hN
 have HK := Lib.hid hK
 have HN0 := Lib.hid hN0
 have HREM := Lib.hid hrem
 clear hs hK hN hN0 hrem
 go_enter Tryz.func104, Tryz.ntmps104
 go_wp2
 go_loopw [5] (fun i wr => ∃ k : Nat, i = .int .i64 k ∧ k ≤ K ∧ w = wr) (fun i _ => K - (intOf i).toNat)
 case atStart => exact ⟨0, rfl, Nat.zero_le _, rfl⟩
 case round =>
  obtain ⟨k, rfl, hk, rfl⟩ := hrel
  have hk2 := HK.out
  by_cases hlt : k < K
  ·have hks : k < s.size := by omega
   have e0 : ((s[k]'hks).toNat : Int) = 48 := by rw [Z1.out k hks hlt]; rfl
   have a2 : (k : Int) < (s.size : Int) := by omega
   have a1 : (0 : Int) ≤ (k : Int) := by omega
   clear hk2
   go_wp2
   exact ⟨⟨k + 1, by go_num, by omega, trivial⟩, by simp [intOf]; omega⟩
  ·obtain rfl : k = K := by omega
   have hz : k < s.size := by have := HN.out; have := HN0.out; omega
   obtain ⟨B, hB⟩ : ∃ B : Nat, (s[k]'hz).toNat = B := ⟨_, rfl⟩
   have hB48 := Z2.out hz
   rw [hB] at hB48
   have e0 : ((s[k]'hz).toNat : Int) = (B : Int) := by rw [hB]
   have e1 : ((B : Int) == 48) = false := by rw [beq_eq_false_iff_ne]; omega
   have a2 : (k : Int) < (s.size : Int) := by omega
   have a1 : (0 : Int) ≤ (k : Int) := by omega
   have a3 : (k : Int) ≤ (s.size : Int) := by omega
   have a4 : ((s.size - k : Nat) : Int) = (N : Int) := by rw [HN.out]
   clear hk2 hB hB48
   go_wp2_with fail
   refine (C3.out _).mono ?_
   rintro e w1 ⟨A1, n1, c1, rfl, g1, b1⟩
   have G1 := Lib.hid g1
   have B1 := Lib.hid b1
   clear g1 b1
   go_wp2_with fail
   refine (C4.out _).mono ?_
   rintro e w2 ⟨A2, n2, c2, rfl, g2, b2⟩
   have G2 := Lib.hid g2
   have G1a := Lib.hid (G1.out.step b2)
   have B2 := Lib.hid (below_le B1.out b2)
   clear g2 b2
   go_wp2_with fail
   refine (C5.out _ _ _ _ G2.out).mono ?_
   rintro e w3 ⟨rfl, b3⟩
   have G2a := Lib.hid (G2.out.step b3)
   have G1b := Lib.hid (G1a.out.step b3)
   have B3 := Lib.hid (below_le B2.out b3)
   clear b3
   go_wp2_with fail
   refine (C6.out _ _ _ _ G1b.out).mono ?_
   rintro e w4 ⟨rfl, b4⟩
   have G2b := Lib.hid (G2a.out.step b4)
   have G1c := Lib.hid (G1b.out.step b4)
   have B4 := Lib.hid (below_le B3.out b4)
   clear b4
   go_wp2_with fail
   refine (C7.out _ _ _ _ G1c.out).mono ?_
   rintro e w5 ⟨A5, n5, c5, rfl, g5, b5⟩
   have G5 := Lib.hid g5
   have G25 := Lib.hid (G2b.out.step b5)
   have B5 := Lib.hid (below_le B4.out b5)
   clear g5 b5
   go_wp2_with fail
   refine (C8.out _ _ _ _ _ _ _ G5.out G25.out).mono ?_
   rintro e w6 ⟨A6, n6, c6, A7, n7, c7, rfl, g6, g7, b6⟩
   have G6 := Lib.hid g6
   have B6 := Lib.hid (below_le B5.out b6)
   have hn7 : (0 : Int) < (n7 : Int) := by
    have h1 := g7.len
    have h2 : (wds (M % D)) ≠ [] := fun e => HREM.out (by have h3 := wds_val (M % D); rw [e] at h3; exact h3.symm)
    have := List.length_pos_iff.2 h2
    omega
   clear g6 g7 b6
   go_wp2_with fail
   refine (C9.out _ _ _ _ G6.out).mono ?_
   rintro e w7 ⟨A8, n8, c8, rfl, g8, b7⟩
   have G8 := Lib.hid g8
   have B7 := Lib.hid (below_le B6.out b7)
   clear g8 b7
   have bl := Lib.hid (show Below w7.heap.size w7 (w7.alloc (.cells #[.int .u32 1] 42)) from (Below.refl _ _).alloc (Nat.le_refl _) _)
   have C10' := Lib.hid (C10.out _ _ _ _ _ _ _ (G8.out.step bl.out) (NV.lit w7 1 (by omega) (by omega)))
   go_wp2_with fail
   refine C10'.out.mono ?_
   rintro e w8 ⟨A9, n9, c9, rfl, g9, b8⟩
   have G9 := Lib.hid g9
   have B8 := Lib.hid (below_le (below_le B7.out bl.out) b8)
   clear g9 b8
   go_wp2_with fail
   refine (C11.out _ _ _ _ G9.out).mono ?_
   rintro e w9 ⟨rfl, b9⟩
   have B9 := Lib.hid (below_le B8.out b9)
   clear b9
   go_wp2
   go_ret
   exact ⟨rfl, B9.out⟩

end Go.Proofs.YtfcpkdafkmohkaaGreatDoor
namespace Go.Proofs.YtfcpkdafkmohkaaGreatDoor
open Go.RowKit
set_option maxRecDepth 100000 in
set_option maxHeartbeats 2000000 in
theorem ydec_longn_pos (s : ByteArray) (K N : Nat) (X P : Int) (m F : Nat) (D M : Nat) (g : ByteArray) (y1 : Int) (E : Int) (w : World) (hs : s.size ≤ 281474976710656) (hK : K ≤ s.size) (hN : s.size - K = N)
  (Z1 : Hid (∀ k (h : k < s.size), k < K → (s[k]'h).toNat = 48)) (Z2 : Hid (∀ h : K < s.size, (s[K]'h).toNat ≠ 48))
  (hN0 : 0 < N) (p1 : wrap64 ((N : Int) + X) = P) (t0 : ((N : Int) == 0) = false) (t1 : decide (400 < P) = false) (t2 : decide (P < -400) = false) (t3 : decide (820 < (N : Int)) = true)
  (hg : s.extract K s.size = g) (hgN : g.size = N) (hN8 : 820 < N) (hrb : ((bl g).drop 810).any (· != 48) = false)
  (q0 : wrap64 (X + (N : Int)) = y1) (q1 : wrap64 (y1 - 810) = E)
  (C3 : Hid (∀ W, Cp 165 #[.string (g.extract 0 810), .int .i64 10] W (NOk m W)))
  (C4 : Hid (∀ W, Cp 115 #[.int .i64 E] W (NRet D W)))
  (C5 : Hid (∀ W A1 n1 c1 A2 n2 c2, NV W A1 n1 c1 m → NV W A2 n2 c2 D → Cp 51 #[.slice A1 n1 c1, .slice A2 n2 c2] W (NRet M W)))
  (C6 : Hid (∀ W A1 n1 c1, NV W A1 n1 c1 M → Ct 154 #[.slice A1 n1 c1, .int .i64 0] (.float .f64 F) W))
  (u0 : decide (0 ≤ E) = true) :
  Ct 104 #[.string s, .int .i64 X] (.float .f64 F) w := by
 have h1 : (s.size : Int) ≤ 281474976710656 := by omega
 have HN := Lib.hid hN
 have HK := Lib.hid hK
 have HN0 := Lib.hid hN0
 have HG := Lib.hid hg
 have HGN := Lib.hid hgN
 have HN8 := Lib.hid hN8
 have HRB := Lib.hid hrb
 clear hs hK hN hN0 hg hgN hN8 hrb
 go_enter Tryz.func104, Tryz.ntmps104
 go_wp2
 go_loopw [5] (fun i wr => ∃ k : Nat, i = .int .i64 k ∧ k ≤ K ∧ w = wr) (fun i _ => K - (intOf i).toNat)
 case atStart => exact ⟨0, rfl, Nat.zero_le _, rfl⟩
 case round =>
  obtain ⟨k, rfl, hk, rfl⟩ := hrel
  have hk2 := HK.out
  by_cases hlt : k < K
  ·have hks : k < s.size := by omega
   have e0 : ((s[k]'hks).toNat : Int) = 48 := by rw [Z1.out k hks hlt]; rfl
   have a2 : (k : Int) < (s.size : Int) := by omega
   have a1 : (0 : Int) ≤ (k : Int) := by omega
   clear hk2
   go_wp2
   exact ⟨⟨k + 1, by go_num, by omega, trivial⟩, by simp [intOf]; omega⟩
  ·obtain rfl : k = K := by omega
   have hz : k < s.size := by have := HN.out; have := HN0.out; omega
   obtain ⟨B, hB⟩ : ∃ B : Nat, (s[k]'hz).toNat = B := ⟨_, rfl⟩
   have hB48 := Z2.out hz
   rw [hB] at hB48
   have e0 : ((s[k]'hz).toNat : Int) = (B : Int) := by rw [hB]
   have e1 : ((B : Int) == 48) = false := by rw [beq_eq_false_iff_ne]; omega
   have a2 : (k : Int) < (s.size : Int) := by omega
   have a1 : (0 : Int) ≤ (k : Int) := by omega
   have a3 : (k : Int) ≤ (s.size : Int) := by omega
   have a4 : ((s.size - k : Nat) : Int) = (N : Int) := by rw [HN.out]
   clear hk2 hB hB48
   have hext : s.extract k s.size = g := HG.out
   have b4 : (g.size : Int) = (N : Int) := by rw [HGN.out]
   go_wp2
   clear a1 a2 a3 e0 e1 hext hz b4
   go_loopw [6, 7] (fun v i wr => ∃ j : Nat, i = .int .i64 (810 + (j : Int)) ∧ 810 + j ≤ N ∧ v = .bool ((((bl g).drop 810).take j).any (· != 48)) ∧ w = wr) (fun _ i _ => N - (intOf i).toNat)
   case atStart => exact ⟨0, rfl, by have := HN8.out; omega, rfl, rfl⟩
   case round =>
    obtain ⟨j, rfl, hj, rfl, rfl⟩ := hrel
    by_cases hjl : 810 + j < N
    ·have hgs : 810 + j < g.size := by rw [HGN.out]; exact hjl
     obtain ⟨D8, hD8⟩ : ∃ D8 : Nat, (g[810 + j]'hgs).toNat = D8 := ⟨_, rfl⟩
     have hstep : (((bl g).drop 810).take (j + 1)).any (· != 48) = ((((bl g).drop 810).take j).any (· != 48) || (D8 != 48)) := by
      rw [List.take_add_one, List.getElem?_drop, bl_get g (810 + j) hgs, hD8, List.any_append]
      simp
     have b0 : ((810 + (j : Int)) : Int) < (N : Int) := by omega
     have b1 : (0 : Int) ≤ 810 + (j : Int) := by omega
     have b2 : (810 + (j : Int)).toNat = 810 + j := by omega
     have b3 : ((g[810 + j]'hgs).toNat : Int) = (D8 : Int) := by rw [hD8]
     have b4 : (g.size : Int) = (N : Int) := by rw [HGN.out]
     have b5 : 810 + (j : Int) < (g.size : Int) := by omega
     obtain ⟨r, hr⟩ : ∃ r, (((bl g).drop 810).take j).any (· != 48) = r := ⟨_, rfl⟩
     rw [hr] at hstep ⊢
     have HST := Lib.hid hstep
     clear hstep hr hD8
     cases r
     ·cases h48 : (D8 != 48)
      ·have b6 : ((D8 : Int) != 48) = false := by rw [bne_eq_false_iff_eq]; have := bne_eq_false_iff_eq.1 h48; omega
       have HS2 := Lib.hid (show (((bl g).drop 810).take (j + 1)).any (· != 48) = false from by rw [HST.out, h48]; rfl)
       clear h48
       go_wp2
       exact ⟨⟨j + 1, by go_num, by omega, by rw [HS2.out], trivial⟩, by simp [intOf]; omega⟩
      ·have b6 : ((D8 : Int) != 48) = true := by rw [bne_iff_ne]; have := bne_iff_ne.1 h48; omega
       have HS2 := Lib.hid (show (((bl g).drop 810).take (j + 1)).any (· != 48) = true from by rw [HST.out, h48]; rfl)
       clear h48
       go_wp2
       exact ⟨⟨j + 1, by go_num, by omega, by rw [HS2.out], trivial⟩, by simp [intOf]; omega⟩
     ·have HS2 := Lib.hid (show (((bl g).drop 810).take (j + 1)).any (· != 48) = true from by rw [HST.out]; rfl)
      go_wp2
      exact ⟨⟨j + 1, by go_num, by omega, by rw [HS2.out], trivial⟩, by simp [intOf]; omega⟩
    ·have hz2 : (((bl g).drop 810).take j).any (· != 48) = false := by
      rw [List.take_of_length_le (by rw [List.length_drop, bl_size, HGN.out]; omega)]
      exact HRB.out
     rw [hz2]
     have b4 : (g.size : Int) = (N : Int) := by rw [HGN.out]
     have b0 : decide (810 + (j : Int) < (N : Int)) = false := decide_eq_false (by omega)
     have b5 : (810 : Int) ≤ (g.size : Int) := by have := HN8.out; omega
     clear hz2
     go_wp2_with fail
     refine (C3.out _).mono ?_
     rintro e w1 ⟨A1, n1, c1, rfl, g1, b1⟩
     have G1 := Lib.hid g1
     have B1 := Lib.hid b1
     clear g1 b1
     go_wp2_with fail
     refine (C4.out _).mono ?_
     rintro e w2 ⟨A2, n2, c2, rfl, g2, b2⟩
     have G2 := Lib.hid g2
     have G1a := Lib.hid (G1.out.step b2)
     have B2 := Lib.hid (below_le B1.out b2)
     clear g2 b2
     go_wp2_with fail
     refine (C5.out _ _ _ _ _ _ _ G1a.out G2.out).mono ?_
     rintro e w3 ⟨A3, n3, c3, rfl, g3, b3⟩
     have G3 := Lib.hid g3
     have B3 := Lib.hid (below_le B2.out b3)
     clear g3 b3
     go_wp2_with fail
     refine (C6.out _ _ _ _ G3.out).mono ?_
     rintro e w4 ⟨rfl, b4⟩
     have B4 := Lib.hid (below_le B3.out b4)
     clear b4
     go_wp2
     go_ret
     exact ⟨rfl, B4.out⟩
set_option maxRecDepth 100000 in
set_option maxHeartbeats 2000000 in
theorem ydec_longn_neg00 (s : ByteArray) (K N : Nat) (X P : Int) (m F : Nat) (D M Q bd ba : Nat) (x1 up Y : Int) (g : ByteArray) (y1 : Int) (E : Int) (w : World) (hs : s.size ≤ 281474976710656) (hK : K ≤ s.size) (hN : s.size - K = N)
  (Z1 : Hid (∀ k (h : k < s.size), k < K → (s[k]'h).toNat = 48)) (Z2 : Hid (∀ h : K < s.size, (s[K]'h).toNat ≠ 48))
  (hN0 : 0 < N) (p1 : wrap64 ((N : Int) + X) = P) (t0 : ((N : Int) == 0) = false) (t1 : decide (400 < P) = false) (t2 : decide (P < -400) = false) (t3 : decide (820 < (N : Int)) = true)
  (hg : s.extract K s.size = g) (hgN : g.size = N) (hN8 : 820 < N) (hrb : ((bl g).drop 810).any (· != 48) = false)
  (q0 : wrap64 (X + (N : Int)) = y1) (q1 : wrap64 (y1 - 810) = E)
  (C3 : Hid (∀ W, Cp 165 #[.string (g.extract 0 810), .int .i64 10] W (NOk m W)))
  (C4 : Hid (∀ W, Cp 115 #[.int .i64 (-E)] W (NRet D W)))
  (C5 : Hid (∀ W A1 n1 c1, NV W A1 n1 c1 D → Ct 163 #[.slice A1 n1 c1] (.int .i64 (bd : Nat)) W))
  (C6 : Hid (∀ W A1 n1 c1, NV W A1 n1 c1 m → Ct 163 #[.slice A1 n1 c1] (.int .i64 (ba : Nat)) W))
  (C7 : Hid (∀ W A1 n1 c1, NV W A1 n1 c1 m → Cp 102 #[.slice A1 n1 c1, .int .i64 0] W (NRet M W)))
  (C8 : Hid (∀ W A1 n1 c1 A2 n2 c2, NV W A1 n1 c1 M → NV W A2 n2 c2 D → Cp 49 #[.slice A1 n1 c1, .slice A2 n2 c2] W (HRet M D W)))
  (C9 : Hid (∀ W A1 n1 c1, NV W A1 n1 c1 (M / D) → Cp 102 #[.slice A1 n1 c1, .int .i64 1] W (NRet Q W)))
  (C11 : Hid (∀ W A1 n1 c1, NV W A1 n1 c1 Q → Ct 154 #[.slice A1 n1 c1, .int .i64 Y] (.float .f64 F) W))
  (hrem : M % D = 0)
  (u0 : decide (0 ≤ E) = false) (u1 : wrap64 (-E) = -E) (u2 : wrap64 ((bd : Int) - (ba : Int)) = x1) (u3 : wrap64 (x1 + 70) = up) (u4 : decide (up < 0) = true) (u6 : Y = -1) :
  Ct 104 #[.string s, .int .i64 X] (.float .f64 F) w := by
 have h1 : (s.size : Int) ≤ 281474976710656 := by omega
 have HN := Lib.hid hN
 have HK := Lib.hid hK
 have HN0 := Lib.hid hN0
 have HREM := Lib.hid hrem
 subst u6
 have HG := Lib.hid hg
 have HGN := Lib.hid hgN
 have HN8 := Lib.hid hN8
 have HRB := Lib.hid hrb
 clear hs hK hN hN0 hrem hg hgN hN8 hrb
 go_enter Tryz.func104, Tryz.ntmps104
 go_wp2
 go_loopw [5] (fun i wr => ∃ k : Nat, i = .int .i64 k ∧ k ≤ K ∧ w = wr) (fun i _ => K - (intOf i).toNat)
 case atStart => exact ⟨0, rfl, Nat.zero_le _, rfl⟩
 case round =>
  obtain ⟨k, rfl, hk, rfl⟩ := hrel
  have hk2 := HK.out
  by_cases hlt : k < K
  ·have hks : k < s.size := by omega
   have e0 : ((s[k]'hks).toNat : Int) = 48 := by rw [Z1.out k hks hlt]; rfl
   have a2 : (k : Int) < (s.size : Int) := by omega
   have a1 : (0 : Int) ≤ (k : Int) := by omega
   clear hk2
   go_wp2
   exact ⟨⟨k + 1, by go_num, by omega, trivial⟩, by simp [intOf]; omega⟩
  ·obtain rfl : k = K := by omega
   have hz : k < s.size := by have := HN.out; have := HN0.out; omega
   obtain ⟨B, hB⟩ : ∃ B : Nat, (s[k]'hz).toNat = B := ⟨_, rfl⟩
   have hB48 := Z2.out hz
   rw [hB] at hB48
   have e0 : ((s[k]'hz).toNat : Int) = (B : Int) := by rw [hB]
   have e1 : ((B : Int) == 48) = false := by rw [beq_eq_false_iff_ne]; omega
   have a2 : (k : Int) < (s.size : Int) := by omega
   have a1 : (0 : Int) ≤ (k : Int) := by omega
   have a3 : (k : Int) ≤ (s.size : Int) := by omega
   have a4 : ((s.size - k : Nat) : Int) = (N : Int) := by rw [HN.out]
   clear hk2 hB hB48
   have hext : s.extract k s.size = g := HG.out
   have b4 : (g.size : Int) = (N : Int) := by rw [HGN.out]
   go_wp2
   clear a1 a2 a3 e0 e1 hext hz b4
   go_loopw [6, 7] (fun v i wr => ∃ j : Nat, i = .int .i64 (810 + (j : Int)) ∧ 810 + j ≤ N ∧ v = .bool ((((bl g).drop 810).take j).any (· != 48)) ∧ w = wr) (fun _ i _ => N - (intOf i).toNat)
   case atStart => exact ⟨0, rfl, by have := HN8.out; omega, rfl, rfl⟩
   case round =>
    obtain ⟨j, rfl, hj, rfl, rfl⟩ := hrel
    by_cases hjl : 810 + j < N
    ·have hgs : 810 + j < g.size := by rw [HGN.out]; exact hjl
     obtain ⟨D8, hD8⟩ : ∃ D8 : Nat, (g[810 + j]'hgs).toNat = D8 := ⟨_, rfl⟩
     have hstep : (((bl g).drop 810).take (j + 1)).any (· != 48) = ((((bl g).drop 810).take j).any (· != 48) || (D8 != 48)) := by
      rw [List.take_add_one, List.getElem?_drop, bl_get g (810 + j) hgs, hD8, List.any_append]
      simp
     have b0 : ((810 + (j : Int)) : Int) < (N : Int) := by omega
     have b1 : (0 : Int) ≤ 810 + (j : Int) := by omega
     have b2 : (810 + (j : Int)).toNat = 810 + j := by omega
     have b3 : ((g[810 + j]'hgs).toNat : Int) = (D8 : Int) := by rw [hD8]
     have b4 : (g.size : Int) = (N : Int) := by rw [HGN.out]
     have b5 : 810 + (j : Int) < (g.size : Int) := by omega
     obtain ⟨r, hr⟩ : ∃ r, (((bl g).drop 810).take j).any (· != 48) = r := ⟨_, rfl⟩
     rw [hr] at hstep ⊢
     have HST := Lib.hid hstep
     clear hstep hr hD8
     cases r
     ·cases h48 : (D8 != 48)
      ·have b6 : ((D8 : Int) != 48) = false := by rw [bne_eq_false_iff_eq]; have := bne_eq_false_iff_eq.1 h48; omega
       have HS2 := Lib.hid (show (((bl g).drop 810).take (j + 1)).any (· != 48) = false from by rw [HST.out, h48]; rfl)
       clear h48
       go_wp2
       exact ⟨⟨j + 1, by go_num, by omega, by rw [HS2.out], trivial⟩, by simp [intOf]; omega⟩
      ·have b6 : ((D8 : Int) != 48) = true := by rw [bne_iff_ne]; have := bne_iff_ne.1 h48; omega
       have HS2 := Lib.hid (show (((bl g).drop 810).take (j + 1)).any (· != 48) = true from by rw [HST.out, h48]; rfl)
       clear h48
       go_wp2
       exact ⟨⟨j + 1, by go_num, by omega, by rw [HS2.out], trivial⟩, by simp [intOf]; omega⟩
     ·have HS2 := Lib.hid (show (((bl g).drop 810).take (j + 1)).any (· != 48) = true from by rw [HST.out]; rfl)
      go_wp2
      exact ⟨⟨j + 1, by go_num, by omega, by rw [HS2.out], trivial⟩, by simp [intOf]; omega⟩
    ·have hz2 : (((bl g).drop 810).take j).any (· != 48) = false := by
      rw [List.take_of_length_le (by rw [List.length_drop, bl_size, HGN.out]; omega)]
      exact HRB.out
     rw [hz2]
     have b4 : (g.size : Int) = (N : Int) := by rw [HGN.out]
     have b0 : decide (810 + (j : Int) < (N : Int)) = false := decide_eq_false (by omega)
     have b5 : (810 : Int) ≤ (g.size : Int) := by have := HN8.out; omega
     clear hz2
     go_wp2_with fail
     refine (C3.out _).mono ?_
     rintro e w1 ⟨A1, n1, c1, rfl, g1, b1⟩
     have G1 := Lib.hid g1
     have B1 := Lib.hid b1
     clear g1 b1
     go_wp2_with fail
     refine (C4.out _).mono ?_
     rintro e w2 ⟨A2, n2, c2, rfl, g2, b2⟩
     have G2 := Lib.hid g2
     have G1a := Lib.hid (G1.out.step b2)
     have B2 := Lib.hid (below_le B1.out b2)
     clear g2 b2
     go_wp2_with fail
     refine (C5.out _ _ _ _ G2.out).mono ?_
     rintro e w3 ⟨rfl, b3⟩
     have G2a := Lib.hid (G2.out.step b3)
     have G1b := Lib.hid (G1a.out.step b3)
     have B3 := Lib.hid (below_le B2.out b3)
     clear b3
     go_wp2_with fail
     refine (C6.out _ _ _ _ G1b.out).mono ?_
     rintro e w4 ⟨rfl, b4⟩
     have G2b := Lib.hid (G2a.out.step b4)
     have G1c := Lib.hid (G1b.out.step b4)
     have B4 := Lib.hid (below_le B3.out b4)
     clear b4
     go_wp2_with fail
     refine (C7.out _ _ _ _ G1c.out).mono ?_
     rintro e w5 ⟨A5, n5, c5, rfl, g5, b5⟩
     have G5 := Lib.hid g5
     have G25 := Lib.hid (G2b.out.step b5)
     have B5 := Lib.hid (below_le B4.out b5)
     clear g5 b5
     go_wp2_with fail
     refine (C8.out _ _ _ _ _ _ _ G5.out G25.out).mono ?_
     rintro e w6 ⟨A6, n6, c6, A7, n7, c7, rfl, g6, g7, b6⟩
     have G6 := Lib.hid g6
     have B6 := Lib.hid (below_le B5.out b6)
     obtain rfl : n7 = 0 := by
      have h1 := g7.len
      rw [HREM.out] at h1
      exact h1.symm
     clear g6 g7 b6
     go_wp2_with fail
     refine (C9.out _ _ _ _ G6.out).mono ?_
     rintro e w7 ⟨A8, n8, c8, rfl, g8, b7⟩
     have G8 := Lib.hid g8
     have B7 := Lib.hid (below_le B6.out b7)
     clear g8 b7
     go_wp2_with fail
     refine (C11.out _ _ _ _ G8.out).mono ?_
     rintro e w9 ⟨rfl, b9⟩
     have B9 := Lib.hid (below_le B7.out b9)
     clear b9
     go_wp2
     go_ret
     exact ⟨rfl, B9.out⟩
set_option maxRecDepth 100000 in
set_option maxHeartbeats 2000000 in
theorem ydec_longn_neg01 (s : ByteArray) (K N : Nat) (X P : Int) (m F : Nat) (D M Q Q2 bd ba : Nat) (x1 up Y : Int) (g : ByteArray) (y1 : Int) (E : Int) (w : World) (hs : s.size ≤ 281474976710656) (hK : K ≤ s.size) (hN : s.size - K = N)
  (Z1 : Hid (∀ k (h : k < s.size), k < K → (s[k]'h).toNat = 48)) (Z2 : Hid (∀ h : K < s.size, (s[K]'h).toNat ≠ 48))
  (hN0 : 0 < N) (p1 : wrap64 ((N : Int) + X) = P) (t0 : ((N : Int) == 0) = false) (t1 : decide (400 < P) = false) (t2 : decide (P < -400) = false) (t3 : decide (820 < (N : Int)) = true)
  (hg : s.extract K s.size = g) (hgN : g.size = N) (hN8 : 820 < N) (hrb : ((bl g).drop 810).any (· != 48) = false)
  (q0 : wrap64 (X + (N : Int)) = y1) (q1 : wrap64 (y1 - 810) = E)
  (C3 : Hid (∀ W, Cp 165 #[.string (g.extract 0 810), .int .i64 10] W (NOk m W)))
  (C4 : Hid (∀ W, Cp 115 #[.int .i64 (-E)] W (NRet D W)))
  (C5 : Hid (∀ W A1 n1 c1, NV W A1 n1 c1 D → Ct 163 #[.slice A1 n1 c1] (.int .i64 (bd : Nat)) W))
  (C6 : Hid (∀ W A1 n1 c1, NV W A1 n1 c1 m → Ct 163 #[.slice A1 n1 c1] (.int .i64 (ba : Nat)) W))
  (C7 : Hid (∀ W A1 n1 c1, NV W A1 n1 c1 m → Cp 102 #[.slice A1 n1 c1, .int .i64 0] W (NRet M W)))
  (C8 : Hid (∀ W A1 n1 c1 A2 n2 c2, NV W A1 n1 c1 M → NV W A2 n2 c2 D → Cp 49 #[.slice A1 n1 c1, .slice A2 n2 c2] W (HRet M D W)))
  (C9 : Hid (∀ W A1 n1 c1, NV W A1 n1 c1 (M / D) → Cp 102 #[.slice A1 n1 c1, .int .i64 1] W (NRet Q W)))
  (C10 : Hid (∀ W A1 n1 c1 A2 n2 c2, NV W A1 n1 c1 Q → NV W A2 n2 c2 1 → Cp 103 #[.slice A1 n1 c1, .slice A2 n2 c2] W (NRet Q2 W)))
  (C11 : Hid (∀ W A1 n1 c1, NV W A1 n1 c1 Q2 → Ct 154 #[.slice A1 n1 c1, .int .i64 Y] (.float .f64 F) W))
  (hrem : M % D ≠ 0)
  (u0 : decide (0 ≤ E) = false) (u1 : wrap64 (-E) = -E) (u2 : wrap64 ((bd : Int) - (ba : Int)) = x1) (u3 : wrap64 (x1 + 70) = up) (u4 : decide (up < 0) = true) (u6 : Y = -1) :
  Ct 104 #[.string s, .int .i64 X] (.float .f64 F) w := by
 have h1 : (s.size : Int) ≤ 281474976710656 := by omega
 have HN := Lib.hid hN
 have HK := Lib.hid hK
 have HN0 := Lib.hid hN0
 have HREM := Lib.hid hrem
 subst u6
 have HG := Lib.hid hg
 have HGN := Lib.hid hgN
 have HN8 := Lib.hid hN8
 have HRB := Lib.hid hrb
 clear hs hK hN hN0 hrem hg hgN hN8 hrb
 go_enter Tryz.func104, Tryz.ntmps104
 go_wp2
 go_loopw [5] (fun i wr => ∃ k : Nat, i = .int .i64 k ∧ k ≤ K ∧ w = wr) (fun i _ => K - (intOf i).toNat)
 case atStart => exact ⟨0, rfl, Nat.zero_le _, rfl⟩
 case round =>
  obtain ⟨k, rfl, hk, rfl⟩ := hrel
  have hk2 := HK.out
  by_cases hlt : k < K
  ·have hks : k < s.size := by omega
   have e0 : ((s[k]'hks).toNat : Int) = 48 := by rw [Z1.out k hks hlt]; rfl
   have a2 : (k : Int) < (s.size : Int) := by omega
   have a1 : (0 : Int) ≤ (k : Int) := by omega
   clear hk2
   go_wp2
   exact ⟨⟨k + 1, by go_num, by omega, trivial⟩, by simp [intOf]; omega⟩
  ·obtain rfl : k = K := by omega
   have hz : k < s.size := by have := HN.out; have := HN0.out; omega
   obtain ⟨B, hB⟩ : ∃ B : Nat, (s[k]'hz).toNat = B := ⟨_, rfl⟩
   have hB48 := Z2.out hz
   rw [hB] at hB48
   have e0 : ((s[k]'hz).toNat : Int) = (B : Int) := by rw [hB]
   have e1 : ((B : Int) == 48) = false := by rw [beq_eq_false_iff_ne]; omega
   have a2 : (k : Int) < (s.size : Int) := by omega
   have a1 : (0 : Int) ≤ (k : Int) := by omega
   have a3 : (k : Int) ≤ (s.size : Int) := by omega
   have a4 : ((s.size - k : Nat) : Int) = (N : Int) := by rw [HN.out]
   clear hk2 hB hB48
   have hext : s.extract k s.size = g := HG.out
   have b4 : (g.size : Int) = (N : Int) := by rw [HGN.out]
   go_wp2
   clear a1 a2 a3 e0 e1 hext hz b4
   go_loopw [6, 7] (fun v i wr => ∃ j : Nat, i = .int .i64 (810 + (j : Int)) ∧ 810 + j ≤ N ∧ v = .bool ((((bl g).drop 810).take j).any (· != 48)) ∧ w = wr) (fun _ i _ => N - (intOf i).toNat)
   case atStart => exact ⟨0, rfl, by have := HN8.out; omega, rfl, rfl⟩
   case round =>
    obtain ⟨j, rfl, hj, rfl, rfl⟩ := hrel
    by_cases hjl : 810 + j < N
    ·have hgs : 810 + j < g.size := by rw [HGN.out]; exact hjl
     obtain ⟨D8, hD8⟩ : ∃ D8 : Nat, (g[810 + j]'hgs).toNat = D8 := ⟨_, rfl⟩
     have hstep : (((bl g).drop 810).take (j + 1)).any (· != 48) = ((((bl g).drop 810).take j).any (· != 48) || (D8 != 48)) := by
      rw [List.take_add_one, List.getElem?_drop, bl_get g (810 + j) hgs, hD8, List.any_append]
      simp
     have b0 : ((810 + (j : Int)) : Int) < (N : Int) := by omega
     have b1 : (0 : Int) ≤ 810 + (j : Int) := by omega
     have b2 : (810 + (j : Int)).toNat = 810 + j := by omega
     have b3 : ((g[810 + j]'hgs).toNat : Int) = (D8 : Int) := by rw [hD8]
     have b4 : (g.size : Int) = (N : Int) := by rw [HGN.out]
     have b5 : 810 + (j : Int) < (g.size : Int) := by omega
     obtain ⟨r, hr⟩ : ∃ r, (((bl g).drop 810).take j).any (· != 48) = r := ⟨_, rfl⟩
     rw [hr] at hstep ⊢
     have HST := Lib.hid hstep
     clear hstep hr hD8
     cases r
     ·cases h48 : (D8 != 48)
      ·have b6 : ((D8 : Int) != 48) = false := by rw [bne_eq_false_iff_eq]; have := bne_eq_false_iff_eq.1 h48; omega
       have HS2 := Lib.hid (show (((bl g).drop 810).take (j + 1)).any (· != 48) = false from by rw [HST.out, h48]; rfl)
       clear h48
       go_wp2
       exact ⟨⟨j + 1, by go_num, by omega, by rw [HS2.out], trivial⟩, by simp [intOf]; omega⟩
      ·have b6 : ((D8 : Int) != 48) = true := by rw [bne_iff_ne]; have := bne_iff_ne.1 h48; omega
       have HS2 := Lib.hid (show (((bl g).drop 810).take (j + 1)).any (· != 48) = true from by rw [HST.out, h48]; rfl)
       clear h48
       go_wp2
       exact ⟨⟨j + 1, by go_num, by omega, by rw [HS2.out], trivial⟩, by simp [intOf]; omega⟩
     ·have HS2 := Lib.hid (show (((bl g).drop 810).take (j + 1)).any (· != 48) = true from by rw [HST.out]; rfl)
      go_wp2
      exact ⟨⟨j + 1, by go_num, by omega, by rw [HS2.out], trivial⟩, by simp [intOf]; omega⟩
    ·have hz2 : (((bl g).drop 810).take j).any (· != 48) = false := by
      rw [List.take_of_length_le (by rw [List.length_drop, bl_size, HGN.out]; omega)]
      exact HRB.out
     rw [hz2]
     have b4 : (g.size : Int) = (N : Int) := by rw [HGN.out]
     have b0 : decide (810 + (j : Int) < (N : Int)) = false := decide_eq_false (by omega)
     have b5 : (810 : Int) ≤ (g.size : Int) := by have := HN8.out; omega
     clear hz2
     go_wp2_with fail
     refine (C3.out _).mono ?_
     rintro e w1 ⟨A1, n1, c1, rfl, g1, b1⟩
     have G1 := Lib.hid g1
     have B1 := Lib.hid b1
     clear g1 b1
     go_wp2_with fail
     refine (C4.out _).mono ?_
     rintro e w2 ⟨A2, n2, c2, rfl, g2, b2⟩
     have G2 := Lib.hid g2
     have G1a := Lib.hid (G1.out.step b2)
     have B2 := Lib.hid (below_le B1.out b2)
     clear g2 b2
     go_wp2_with fail
     refine (C5.out _ _ _ _ G2.out).mono ?_
     rintro e w3 ⟨rfl, b3⟩
     have G2a := Lib.hid (G2.out.step b3)
     have G1b := Lib.hid (G1a.out.step b3)
     have B3 := Lib.hid (below_le B2.out b3)
     clear b3
     go_wp2_with fail
     refine (C6.out _ _ _ _ G1b.out).mono ?_
     rintro e w4 ⟨rfl, b4⟩
     have G2b := Lib.hid (G2a.out.step b4)
     have G1c := Lib.hid (G1b.out.step b4)
     have B4 := Lib.hid (below_le B3.out b4)
     clear b4
     go_wp2_with fail
     refine (C7.out _ _ _ _ G1c.out).mono ?_
     rintro e w5 ⟨A5, n5, c5, rfl, g5, b5⟩
     have G5 := Lib.hid g5
     have G25 := Lib.hid (G2b.out.step b5)
     have B5 := Lib.hid (below_le B4.out b5)
     clear g5 b5
     go_wp2_with fail
     refine (C8.out _ _ _ _ _ _ _ G5.out G25.out).mono ?_
     rintro e w6 ⟨A6, n6, c6, A7, n7, c7, rfl, g6, g7, b6⟩
     have G6 := Lib.hid g6
     have B6 := Lib.hid (below_le B5.out b6)
     have hn7 : (0 : Int) < (n7 : Int) := by
      have h1 := g7.len
      have h2 : (wds (M % D)) ≠ [] := fun e => HREM.out (by have h3 := wds_val (M % D); rw [e] at h3; exact h3.symm)
      have := List.length_pos_iff.2 h2
      omega
     clear g6 g7 b6
     go_wp2_with fail
     refine (C9.out _ _ _ _ G6.out).mono ?_
     rintro e w7 ⟨A8, n8, c8, rfl, g8, b7⟩
     have G8 := Lib.hid g8
     have B7 := Lib.hid (below_le B6.out b7)
     clear g8 b7
     have bl := Lib.hid (show Below w7.heap.size w7 (w7.alloc (.cells #[.int .u32 1] 42)) from (Below.refl _ _).alloc (Nat.le_refl _) _)
     have C10' := Lib.hid (C10.out _ _ _ _ _ _ _ (G8.out.step bl.out) (NV.lit w7 1 (by omega) (by omega)))
     go_wp2_with fail
     refine C10'.out.mono ?_
     rintro e w8 ⟨A9, n9, c9, rfl, g9, b8⟩
     have G9 := Lib.hid g9
     have B8 := Lib.hid (below_le (below_le B7.out bl.out) b8)
     clear g9 b8
     go_wp2_with fail
     refine (C11.out _ _ _ _ G9.out).mono ?_
     rintro e w9 ⟨rfl, b9⟩
     have B9 := Lib.hid (below_le B8.out b9)
     clear b9
     go_wp2
     go_ret
     exact ⟨rfl, B9.out⟩
set_option maxRecDepth 100000 in
set_option maxHeartbeats 2000000 in
theorem ydec_longn_neg10 (s : ByteArray) (K N : Nat) (X P : Int) (m F : Nat) (D M Q bd ba : Nat) (x1 up x2 Y : Int) (g : ByteArray) (y1 : Int) (E : Int) (w : World) (hs : s.size ≤ 281474976710656) (hK : K ≤ s.size) (hN : s.size - K = N)
  (Z1 : Hid (∀ k (h : k < s.size), k < K → (s[k]'h).toNat = 48)) (Z2 : Hid (∀ h : K < s.size, (s[K]'h).toNat ≠ 48))
  (hN0 : 0 < N) (p1 : wrap64 ((N : Int) + X) = P) (t0 : ((N : Int) == 0) = false) (t1 : decide (400 < P) = false) (t2 : decide (P < -400) = false) (t3 : decide (820 < (N : Int)) = true)
  (hg : s.extract K s.size = g) (hgN : g.size = N) (hN8 : 820 < N) (hrb : ((bl g).drop 810).any (· != 48) = false)
  (q0 : wrap64 (X + (N : Int)) = y1) (q1 : wrap64 (y1 - 810) = E)
  (C3 : Hid (∀ W, Cp 165 #[.string (g.extract 0 810), .int .i64 10] W (NOk m W)))
  (C4 : Hid (∀ W, Cp 115 #[.int .i64 (-E)] W (NRet D W)))
  (C5 : Hid (∀ W A1 n1 c1, NV W A1 n1 c1 D → Ct 163 #[.slice A1 n1 c1] (.int .i64 (bd : Nat)) W))
  (C6 : Hid (∀ W A1 n1 c1, NV W A1 n1 c1 m → Ct 163 #[.slice A1 n1 c1] (.int .i64 (ba : Nat)) W))
  (C7 : Hid (∀ W A1 n1 c1, NV W A1 n1 c1 m → Cp 102 #[.slice A1 n1 c1, .int .i64 up] W (NRet M W)))
  (C8 : Hid (∀ W A1 n1 c1 A2 n2 c2, NV W A1 n1 c1 M → NV W A2 n2 c2 D → Cp 49 #[.slice A1 n1 c1, .slice A2 n2 c2] W (HRet M D W)))
  (C9 : Hid (∀ W A1 n1 c1, NV W A1 n1 c1 (M / D) → Cp 102 #[.slice A1 n1 c1, .int .i64 1] W (NRet Q W)))
  (C11 : Hid (∀ W A1 n1 c1, NV W A1 n1 c1 Q → Ct 154 #[.slice A1 n1 c1, .int .i64 Y] (.float .f64 F) W))
  (hrem : M % D = 0)
  (u0 : decide (0 ≤ E) = false) (u1 : wrap64 (-E) = -E) (u2 : wrap64 ((bd : Int) - (ba : Int)) = x1) (u3 : wrap64 (x1 + 70) = up) (u4 : decide (up < 0) = false) (u5 : wrap64 (-up) = x2) (u6 : wrap64 (x2 - 1) = Y) :
  Ct 104 #[.string s, .int .i64 X] (.float .f64 F) w := by
 have h1 : (s.size : Int) ≤ 281474976710656 := by omega
 have HN := Lib.hid hN
 have HK := Lib.hid hK
 have HN0 := Lib.hid hN0
 have HREM := Lib.hid hrem
 have HG := Lib.hid hg
 have HGN := Lib.hid hgN
 have HN8 := Lib.hid hN8
 have HRB := Lib.hid hrb
 clear hs hK hN hN0 hrem hg hgN hN8 hrb
 go_enter Tryz.func104, Tryz.ntmps104
 go_wp2
 go_loopw [5] (fun i wr => ∃ k : Nat, i = .int .i64 k ∧ k ≤ K ∧ w = wr) (fun i _ => K - (intOf i).toNat)
 case atStart => exact ⟨0, rfl, Nat.zero_le _, rfl⟩
 case round =>
  obtain ⟨k, rfl, hk, rfl⟩ := hrel
  have hk2 := HK.out
  by_cases hlt : k < K
  ·have hks : k < s.size := by omega
   have e0 : ((s[k]'hks).toNat : Int) = 48 := by rw [Z1.out k hks hlt]; rfl
   have a2 : (k : Int) < (s.size : Int) := by omega
   have a1 : (0 : Int) ≤ (k : Int) := by omega
   clear hk2
   go_wp2
   exact ⟨⟨k + 1, by go_num, by omega, trivial⟩, by simp [intOf]; omega⟩
  ·obtain rfl : k = K := by omega
   have hz : k < s.size := by have := HN.out; have := HN0.out; omega
   obtain ⟨B, hB⟩ : ∃ B : Nat, (s[k]'hz).toNat = B := ⟨_, rfl⟩
   have hB48 := Z2.out hz
   rw [hB] at hB48
   have e0 : ((s[k]'hz).toNat : Int) = (B : Int) := by rw [hB]
   have e1 : ((B : Int) == 48) = false := by rw [beq_eq_false_iff_ne]; omega
   have a2 : (k : Int) < (s.size : Int) := by omega
   have a1 : (0 : Int) ≤ (k : Int) := by omega
   have a3 : (k : Int) ≤ (s.size : Int) := by omega
   have a4 : ((s.size - k : Nat) : Int) = (N : Int) := by rw [HN.out]
   clear hk2 hB hB48
   have hext : s.extract k s.size = g := HG.out
   have b4 : (g.size : Int) = (N : Int) := by rw [HGN.out]
   go_wp2
   clear a1 a2 a3 e0 e1 hext hz b4
   go_loopw [6, 7] (fun v i wr => ∃ j : Nat, i = .int .i64 (810 + (j : Int)) ∧ 810 + j ≤ N ∧ v = .bool ((((bl g).drop 810).take j).any (· != 48)) ∧ w = wr) (fun _ i _ => N - (intOf i).toNat)
   case atStart => exact ⟨0, rfl, by have := HN8.out; omega, rfl, rfl⟩
   case round =>
    obtain ⟨j, rfl, hj, rfl, rfl⟩ := hrel
    by_cases hjl : 810 + j < N
    ·have hgs : 810 + j < g.size := by rw [HGN.out]; exact hjl
     obtain ⟨D8, hD8⟩ : ∃ D8 : Nat, (g[810 + j]'hgs).toNat = D8 := ⟨_, rfl⟩
     have hstep : (((bl g).drop 810).take (j + 1)).any (· != 48) = ((((bl g).drop 810).take j).any (· != 48) || (D8 != 48)) := by
      rw [List.take_add_one, List.getElem?_drop, bl_get g (810 + j) hgs, hD8, List.any_append]
      simp
     have b0 : ((810 + (j : Int)) : Int) < (N : Int) := by omega
     have b1 : (0 : Int) ≤ 810 + (j : Int) := by omega
     have b2 : (810 + (j : Int)).toNat = 810 + j := by omega
     have b3 : ((g[810 + j]'hgs).toNat : Int) = (D8 : Int) := by rw [hD8]
     have b4 : (g.size : Int) = (N : Int) := by rw [HGN.out]
     have b5 : 810 + (j : Int) < (g.size : Int) := by omega
     obtain ⟨r, hr⟩ : ∃ r, (((bl g).drop 810).take j).any (· != 48) = r := ⟨_, rfl⟩
     rw [hr] at hstep ⊢
     have HST := Lib.hid hstep
     clear hstep hr hD8
     cases r
     ·cases h48 : (D8 != 48)
      ·have b6 : ((D8 : Int) != 48) = false := by rw [bne_eq_false_iff_eq]; have := bne_eq_false_iff_eq.1 h48; omega
       have HS2 := Lib.hid (show (((bl g).drop 810).take (j + 1)).any (· != 48) = false from by rw [HST.out, h48]; rfl)
       clear h48
       go_wp2
       exact ⟨⟨j + 1, by go_num, by omega, by rw [HS2.out], trivial⟩, by simp [intOf]; omega⟩
      ·have b6 : ((D8 : Int) != 48) = true := by rw [bne_iff_ne]; have := bne_iff_ne.1 h48; omega
       have HS2 := Lib.hid (show (((bl g).drop 810).take (j + 1)).any (· != 48) = true from by rw [HST.out, h48]; rfl)
       clear h48
       go_wp2
       exact ⟨⟨j + 1, by go_num, by omega, by rw [HS2.out], trivial⟩, by simp [intOf]; omega⟩
     ·have HS2 := Lib.hid (show (((bl g).drop 810).take (j + 1)).any (· != 48) = true from by rw [HST.out]; rfl)
      go_wp2
      exact ⟨⟨j + 1, by go_num, by omega, by rw [HS2.out], trivial⟩, by simp [intOf]; omega⟩
    ·have hz2 : (((bl g).drop 810).take j).any (· != 48) = false := by
      rw [List.take_of_length_le (by rw [List.length_drop, bl_size, HGN.out]; omega)]
      exact HRB.out
     rw [hz2]
     have b4 : (g.size : Int) = (N : Int) := by rw [HGN.out]
     have b0 : decide (810 + (j : Int) < (N : Int)) = false := decide_eq_false (by omega)
     have b5 : (810 : Int) ≤ (g.size : Int) := by have := HN8.out; omega
     clear hz2
     go_wp2_with fail
     refine (C3.out _).mono ?_
     rintro e w1 ⟨A1, n1, c1, rfl, g1, b1⟩
     have G1 := Lib.hid g1
     have B1 := Lib.hid b1
     clear g1 b1
     go_wp2_with fail
     refine (C4.out _).mono ?_
     rintro e w2 ⟨A2, n2, c2, rfl, g2, b2⟩
     have G2 := Lib.hid g2
     have G1a := Lib.hid (G1.out.step b2)
     have B2 := Lib.hid (below_le B1.out b2)
     clear g2 b2
     go_wp2_with fail
     refine (C5.out _ _ _ _ G2.out).mono ?_
     rintro e w3 ⟨rfl, b3⟩
     have G2a := Lib.hid (G2.out.step b3)
     have G1b := Lib.hid (G1a.out.step b3)
     have B3 := Lib.hid (below_le B2.out b3)
     clear b3
     go_wp2_with fail
     refine (C6.out _ _ _ _ G1b.out).mono ?_
     rintro e w4 ⟨rfl, b4⟩
     have G2b := Lib.hid (G2a.out.step b4)
     have G1c := Lib.hid (G1b.out.step b4)
     have B4 := Lib.hid (below_le B3.out b4)
     clear b4
     go_wp2_with fail
     refine (C7.out _ _ _ _ G1c.out).mono ?_
     rintro e w5 ⟨A5, n5, c5, rfl, g5, b5⟩
     have G5 := Lib.hid g5
     have G25 := Lib.hid (G2b.out.step b5)
     have B5 := Lib.hid (below_le B4.out b5)
     clear g5 b5
     go_wp2_with fail
     refine (C8.out _ _ _ _ _ _ _ G5.out G25.out).mono ?_
     rintro e w6 ⟨A6, n6, c6, A7, n7, c7, rfl, g6, g7, b6⟩
     have G6 := Lib.hid g6
     have B6 := Lib.hid (below_le B5.out b6)
     obtain rfl : n7 = 0 := by
      have h1 := g7.len
      rw [HREM.out] at h1
      exact h1.symm
     clear g6 g7 b6
     go_wp2_with fail
     refine (C9.out _ _ _ _ G6.out).mono ?_
     rintro e w7 ⟨A8, n8, c8, rfl, g8, b7⟩
     have G8 := Lib.hid g8
     have B7 := Lib.hid (below_le B6.out b7)
     clear g8 b7
     go_wp2_with fail
     refine (C11.out _ _ _ _ G8.out).mono ?_
     rintro e w9 ⟨rfl, b9⟩
     have B9 := Lib.hid (below_le B7.out b9)
     clear b9
     go_wp2
     go_ret
     exact ⟨rfl, B9.out⟩
set_option maxRecDepth 100000 in
set_option maxHeartbeats 2000000 in
theorem ydec_longn_neg11 (s : ByteArray) (K N : Nat) (X P : Int) (m F : Nat) (D M Q Q2 bd ba : Nat) (x1 up x2 Y : Int) (g : ByteArray) (y1 : Int) (E : Int) (w : World) (hs : s.size ≤ 281474976710656) (hK : K ≤ s.size) (hN : s.size - K = N)
  (Z1 : Hid (∀ k (h : k < s.size), k < K → (s[k]'h).toNat = 48)) (Z2 : Hid (∀ h : K < s.size, (s[K]'h).toNat ≠ 48))
  (hN0 : 0 < N) (p1 : wrap64 ((N : Int) + X) = P) (t0 : ((N : Int) == 0) = false) (t1 : decide (400 < P) = false) (t2 : decide (P < -400) = false) (t3 : decide (820 < (N : Int)) = true)
  (hg : s.extract K s.size = g) (hgN : g.size = N) (hN8 : 820 < N) (hrb : ((bl g).drop 810).any (· != 48) = false)
  (q0 : wrap64 (X + (N : Int)) = y1) (q1 : wrap64 (y1 - 810) = E)
  (C3 : Hid (∀ W, Cp 165 #[.string (g.extract 0 810), .int .i64 10] W (NOk m W)))
  (C4 : Hid (∀ W, Cp 115 #[.int .i64 (-E)] W (NRet D W)))
  (C5 : Hid (∀ W A1 n1 c1, NV W A1 n1 c1 D → Ct 163 #[.slice A1 n1 c1] (.int .i64 (bd : Nat)) W))
  (C6 : Hid (∀ W A1 n1 c1, NV W A1 n1 c1 m → Ct 163 #[.slice A1 n1 c1] (.int .i64 (ba : Nat)) W))
  (C7 : Hid (∀ W A1 n1 c1, NV W A1 n1 c1 m → Cp 102 #[.slice A1 n1 c1, .int .i64 up] W (NRet M W)))
  (C8 : Hid (∀ W A1 n1 c1 A2 n2 c2, NV W A1 n1 c1 M → NV W A2 n2 c2 D → Cp 49 #[.slice A1 n1 c1, .slice A2 n2 c2] W (HRet M D W)))
  (C9 : Hid (∀ W A1 n1 c1, NV W A1 n1 c1 (M / D) → Cp 102 #[.slice A1 n1 c1, .int .i64 1] W (NRet Q W)))
  (C10 : Hid (∀ W A1 n1 c1 A2 n2 c2, NV W A1 n1 c1 Q → NV W A2 n2 c2 1 → Cp 103 #[.slice A1 n1 c1, .slice A2 n2 c2] W (NRet Q2 W)))
  (C11 : Hid (∀ W A1 n1 c1, NV W A1 n1 c1 Q2 → Ct 154 #[.slice A1 n1 c1, .int .i64 Y] (.float .f64 F) W))
  (hrem : M % D ≠ 0)
  (u0 : decide (0 ≤ E) = false) (u1 : wrap64 (-E) = -E) (u2 : wrap64 ((bd : Int) - (ba : Int)) = x1) (u3 : wrap64 (x1 + 70) = up) (u4 : decide (up < 0) = false) (u5 : wrap64 (-up) = x2) (u6 : wrap64 (x2 - 1) = Y) :
  Ct 104 #[.string s, .int .i64 X] (.float .f64 F) w := by
 have h1 : (s.size : Int) ≤ 281474976710656 := by omega
 have HN := Lib.hid hN
 have HK := Lib.hid hK
 have HN0 := Lib.hid hN0
 have HREM := Lib.hid hrem
 have HG := Lib.hid hg
 have HGN := Lib.hid hgN
 have HN8 := Lib.hid hN8
 have HRB := Lib.hid hrb
 clear hs hK hN hN0 hrem hg hgN hN8 hrb
 go_enter Tryz.func104, Tryz.ntmps104
 go_wp2
 go_loopw [5] (fun i wr => ∃ k : Nat, i = .int .i64 k ∧ k ≤ K ∧ w = wr) (fun i _ => K - (intOf i).toNat)
 case atStart => exact ⟨0, rfl, Nat.zero_le _, rfl⟩
 case round =>
  obtain ⟨k, rfl, hk, rfl⟩ := hrel
  have hk2 := HK.out
  by_cases hlt : k < K
  ·have hks : k < s.size := by omega
   have e0 : ((s[k]'hks).toNat : Int) = 48 := by rw [Z1.out k hks hlt]; rfl
   have a2 : (k : Int) < (s.size : Int) := by omega
   have a1 : (0 : Int) ≤ (k : Int) := by omega
   clear hk2
   go_wp2
   exact ⟨⟨k + 1, by go_num, by omega, trivial⟩, by simp [intOf]; omega⟩
  ·obtain rfl : k = K := by omega
   have hz : k < s.size := by have := HN.out; have := HN0.out; omega
   obtain ⟨B, hB⟩ : ∃ B : Nat, (s[k]'hz).toNat = B := ⟨_, rfl⟩
   have hB48 := Z2.out hz
   rw [hB] at hB48
   have e0 : ((s[k]'hz).toNat : Int) = (B : Int) := by rw [hB]
   have e1 : ((B : Int) == 48) = false := by rw [beq_eq_false_iff_ne]; omega
   have a2 : (k : Int) < (s.size : Int) := by omega
   have a1 : (0 : Int) ≤ (k : Int) := by omega
   have a3 : (k : Int) ≤ (s.size : Int) := by omega
   have a4 : ((s.size - k : Nat) : Int) = (N : Int) := by rw [HN.out]
   clear hk2 hB hB48
   have hext : s.extract k s.size = g := HG.out
   have b4 : (g.size : Int) = (N : Int) := by rw [HGN.out]
   go_wp2
   clear a1 a2 a3 e0 e1 hext hz b4
   go_loopw [6, 7] (fun v i wr => ∃ j : Nat, i = .int .i64 (810 + (j : Int)) ∧ 810 + j ≤ N ∧ v = .bool ((((bl g).drop 810).take j).any (· != 48)) ∧ w = wr) (fun _ i _ => N - (intOf i).toNat)
   case atStart => exact ⟨0, rfl, by have := HN8.out; omega, rfl, rfl⟩
   case round =>
    obtain ⟨j, rfl, hj, rfl, rfl⟩ := hrel
    by_cases hjl : 810 + j < N
    ·have hgs : 810 + j < g.size := by rw [HGN.out]; exact hjl
     obtain ⟨D8, hD8⟩ : ∃ D8 : Nat, (g[810 + j]'hgs).toNat = D8 := ⟨_, rfl⟩
     have hstep : (((bl g).drop 810).take (j + 1)).any (· != 48) = ((((bl g).drop 810).take j).any (· != 48) || (D8 != 48)) := by
      rw [List.take_add_one, List.getElem?_drop, bl_get g (810 + j) hgs, hD8, List.any_append]
      simp
     have b0 : ((810 + (j : Int)) : Int) < (N : Int) := by omega
     have b1 : (0 : Int) ≤ 810 + (j : Int) := by omega
     have b2 : (810 + (j : Int)).toNat = 810 + j := by omega
     have b3 : ((g[810 + j]'hgs).toNat : Int) = (D8 : Int) := by rw [hD8]
     have b4 : (g.size : Int) = (N : Int) := by rw [HGN.out]
     have b5 : 810 + (j : Int) < (g.size : Int) := by omega
     obtain ⟨r, hr⟩ : ∃ r, (((bl g).drop 810).take j).any (· != 48) = r := ⟨_, rfl⟩
     rw [hr] at hstep ⊢
     have HST := Lib.hid hstep
     clear hstep hr hD8
     cases r
     ·cases h48 : (D8 != 48)
      ·have b6 : ((D8 : Int) != 48) = false := by rw [bne_eq_false_iff_eq]; have := bne_eq_false_iff_eq.1 h48; omega
       have HS2 := Lib.hid (show (((bl g).drop 810).take (j + 1)).any (· != 48) = false from by rw [HST.out, h48]; rfl)
       clear h48
       go_wp2
       exact ⟨⟨j + 1, by go_num, by omega, by rw [HS2.out], trivial⟩, by simp [intOf]; omega⟩
      ·have b6 : ((D8 : Int) != 48) = true := by rw [bne_iff_ne]; have := bne_iff_ne.1 h48; omega
       have HS2 := Lib.hid (show (((bl g).drop 810).take (j + 1)).any (· != 48) = true from by rw [HST.out, h48]; rfl)
       clear h48
       go_wp2
       exact ⟨⟨j + 1, by go_num, by omega, by rw [HS2.out], trivial⟩, by simp [intOf]; omega⟩
     ·have HS2 := Lib.hid (show (((bl g).drop 810).take (j + 1)).any (· != 48) = true from by rw [HST.out]; rfl)
      go_wp2
      exact ⟨⟨j + 1, by go_num, by omega, by rw [HS2.out], trivial⟩, by simp [intOf]; omega⟩
    ·have hz2 : (((bl g).drop 810).take j).any (· != 48) = false := by
      rw [List.take_of_length_le (by rw [List.length_drop, bl_size, HGN.out]; omega)]
      exact HRB.out
     rw [hz2]
     have b4 : (g.size : Int) = (N : Int) := by rw [HGN.out]
     have b0 : decide (810 + (j : Int) < (N : Int)) = false := decide_eq_false (by omega)
     have b5 : (810 : Int) ≤ (g.size : Int) := by have := HN8.out; omega
     clear hz2
     go_wp2_with fail
     refine (C3.out _).mono ?_
     rintro e w1 ⟨A1, n1, c1, rfl, g1, b1⟩
     have G1 := Lib.hid g1
     have B1 := Lib.hid b1
     clear g1 b1
     go_wp2_with fail
     refine (C4.out _).mono ?_
     rintro e w2 ⟨A2, n2, c2, rfl, g2, b2⟩
     have G2 := Lib.hid g2
     have G1a := Lib.hid (G1.out.step b2)
     have B2 := Lib.hid (below_le B1.out b2)
     clear g2 b2
     go_wp2_with fail
     refine (C5.out _ _ _ _ G2.out).mono ?_
     rintro e w3 ⟨rfl, b3⟩
     have G2a := Lib.hid (G2.out.step b3)
     have G1b := Lib.hid (G1a.out.step b3)
     have B3 := Lib.hid (below_le B2.out b3)
     clear b3
     go_wp2_with fail
     refine (C6.out _ _ _ _ G1b.out).mono ?_
     rintro e w4 ⟨rfl, b4⟩
     have G2b := Lib.hid (G2a.out.step b4)
     have G1c := Lib.hid (G1b.out.step b4)
     have B4 := Lib.hid (below_le B3.out b4)
     clear b4
     go_wp2_with fail
     refine (C7.out _ _ _ _ G1c.out).mono ?_
     rintro e w5 ⟨A5, n5, c5, rfl, g5, b5⟩
     have G5 := Lib.hid g5
     have G25 := Lib.hid (G2b.out.step b5)
     have B5 := Lib.hid (below_le B4.out b5)
     clear g5 b5
     go_wp2_with fail
     refine (C8.out _ _ _ _ _ _ _ G5.out G25.out).mono ?_
     rintro e w6 ⟨A6, n6, c6, A7, n7, c7, rfl, g6, g7, b6⟩
     have G6 := Lib.hid g6
     have B6 := Lib.hid (below_le B5.out b6)
     have hn7 : (0 : Int) < (n7 : Int) := by
      have h1 := g7.len
      have h2 : (wds (M % D)) ≠ [] := fun e => HREM.out (by have h3 := wds_val (M % D); rw [e] at h3; exact h3.symm)
      have := List.length_pos_iff.2 h2
      omega
     clear g6 g7 b6
     go_wp2_with fail
     refine (C9.out _ _ _ _ G6.out).mono ?_
     rintro e w7 ⟨A8, n8, c8, rfl, g8, b7⟩
     have G8 := Lib.hid g8
     have B7 := Lib.hid (below_le B6.out b7)
     clear g8 b7
     have bl := Lib.hid (show Below w7.heap.size w7 (w7.alloc (.cells #[.int .u32 1] 42)) from (Below.refl _ _).alloc (Nat.le_refl _) _)
     have C10' := Lib.hid (C10.out _ _ _ _ _ _ _ (G8.out.step bl.out) (NV.lit w7 1 (by omega) (by omega)))
     go_wp2_with fail
     refine C10'.out.mono ?_
     rintro e w8 ⟨A9, n9, c9, rfl, g9, b8⟩
     have G9 := Lib.hid g9
     have B8 := Lib.hid (below_le (below_le B7.out bl.out) b8)
     clear g9 b8
     go_wp2_with fail
     refine (C11.out _ _ _ _ G9.out).mono ?_
     rintro e w9 ⟨rfl, b9⟩
     have B9 := Lib.hid (below_le B8.out b9)
     clear b9
     go_wp2
     go_ret
     exact ⟨rfl, B9.out⟩

end Go.Proofs.YtfcpkdafkmohkaaGreatDoor
namespace Go.Proofs.YtfcpkdafkmohkaaGreatDoor
open Go.RowKit
set_option maxRecDepth 100000 in
set_option maxHeartbeats 2000000 in
theorem ydec_longr_pos (s : ByteArray) (K N : Nat) (X P : Int) (m F : Nat) (D M : Nat) (g : ByteArray) (y1 y2 : Int) (E : Int) (w : World) (hs : s.size ≤ 281474976710656) (hK : K ≤ s.size) (hN : s.size - K = N)
  (Z1 : Hid (∀ k (h : k < s.size), k < K → (s[k]'h).toNat = 48)) (Z2 : Hid (∀ h : K < s.size, (s[K]'h).toNat ≠ 48))
  (hN0 : 0 < N) (p1 : wrap64 ((N : Int) + X) = P) (t0 : ((N : Int) == 0) = false) (t1 : decide (400 < P) = false) (t2 : decide (P < -400) = false) (t3 : decide (820 < (N : Int)) = true)
  (hg : s.extract K s.size = g) (hgN : g.size = N) (hN8 : 820 < N) (hrb : ((bl g).drop 810).any (· != 48) = true)
  (q0 : wrap64 (X + (N : Int)) = y1) (q1 : wrap64 (y1 - 810) = y2) (q2 : wrap64 (y2 - 1) = E) (_q3 : ¬ 9223372036854775807 < (g.extract 0 810).size + 1) 
  (C3 : Hid (∀ W, Cp 165 #[.string (g.extract 0 810 ++ ⟨#[49]⟩), .int .i64 10] W (NOk m W)))
  (C4 : Hid (∀ W, Cp 115 #[.int .i64 E] W (NRet D W)))
  (C5 : Hid (∀ W A1 n1 c1 A2 n2 c2, NV W A1 n1 c1 m → NV W A2 n2 c2 D → Cp 51 #[.slice A1 n1 c1, .slice A2 n2 c2] W (NRet M W)))
  (C6 : Hid (∀ W A1 n1 c1, NV W A1 n1 c1 M → Ct 154 #[.slice A1 n1 c1, .int .i64 0] (.float .f64 F) W))
  (u0 : decide (0 ≤ E) = true) :
  Ct 104 #[.string s, .int .i64 X] (.float .f64 F) w := by
 have h1 : (s.size : Int) ≤ 281474976710656 := by omega
 have HN := Lib.hid hN
 have HK := Lib.hid hK
 have HN0 := Lib.hid hN0
 have HG := Lib.hid hg
 have HGN := Lib.hid hgN
 have HN8 := Lib.hid hN8
 have HRB := Lib.hid hrb
 clear hs hK hN hN0 hg hgN hN8 hrb
 go_enter Tryz.func104, Tryz.ntmps104
 go_wp2
 go_loopw [5] (fun i wr => ∃ k : Nat, i = .int .i64 k ∧ k ≤ K ∧ w = wr) (fun i _ => K - (intOf i).toNat)
 case atStart => exact ⟨0, rfl, Nat.zero_le _, rfl⟩
 case round =>
  obtain ⟨k, rfl, hk, rfl⟩ := hrel
  have hk2 := HK.out
  by_cases hlt : k < K
  ·have hks : k < s.size := by omega
   have e0 : ((s[k]'hks).toNat : Int) = 48 := by rw [Z1.out k hks hlt]; rfl
   have a2 : (k : Int) < (s.size : Int) := by omega
   have a1 : (0 : Int) ≤ (k : Int) := by omega
   clear hk2
   go_wp2
   exact ⟨⟨k + 1, by go_num, by omega, trivial⟩, by simp [intOf]; omega⟩
  ·obtain rfl : k = K := by omega
   have hz : k < s.size := by have := HN.out; have := HN0.out; omega
   obtain ⟨B, hB⟩ : ∃ B : Nat, (s[k]'hz).toNat = B := ⟨_, rfl⟩
   have hB48 := Z2.out hz
   rw [hB] at hB48
   have e0 : ((s[k]'hz).toNat : Int) = (B : Int) := by rw [hB]
   have e1 : ((B : Int) == 48) = false := by rw [beq_eq_false_iff_ne]; omega
   have a2 : (k : Int) < (s.size : Int) := by omega
   have a1 : (0 : Int) ≤ (k : Int) := by omega
   have a3 : (k : Int) ≤ (s.size : Int) := by omega
   have a4 : ((s.size - k : Nat) : Int) = (N : Int) := by rw [HN.out]
   clear hk2 hB hB48
   have hext : s.extract k s.size = g := HG.out
   have b4 : (g.size : Int) = (N : Int) := by rw [HGN.out]
   go_wp2
   clear a1 a2 a3 e0 e1 hext hz b4
   go_loopw [6, 7] (fun v i wr => ∃ j : Nat, i = .int .i64 (810 + (j : Int)) ∧ 810 + j ≤ N ∧ v = .bool ((((bl g).drop 810).take j).any (· != 48)) ∧ w = wr) (fun _ i _ => N - (intOf i).toNat)
   case atStart => exact ⟨0, rfl, by have := HN8.out; omega, rfl, rfl⟩
   case round =>
    obtain ⟨j, rfl, hj, rfl, rfl⟩ := hrel
    by_cases hjl : 810 + j < N
    ·have hgs : 810 + j < g.size := by rw [HGN.out]; exact hjl
     obtain ⟨D8, hD8⟩ : ∃ D8 : Nat, (g[810 + j]'hgs).toNat = D8 := ⟨_, rfl⟩
     have hstep : (((bl g).drop 810).take (j + 1)).any (· != 48) = ((((bl g).drop 810).take j).any (· != 48) || (D8 != 48)) := by
      rw [List.take_add_one, List.getElem?_drop, bl_get g (810 + j) hgs, hD8, List.any_append]
      simp
     have b0 : ((810 + (j : Int)) : Int) < (N : Int) := by omega
     have b1 : (0 : Int) ≤ 810 + (j : Int) := by omega
     have b2 : (810 + (j : Int)).toNat = 810 + j := by omega
     have b3 : ((g[810 + j]'hgs).toNat : Int) = (D8 : Int) := by rw [hD8]
     have b4 : (g.size : Int) = (N : Int) := by rw [HGN.out]
     have b5 : 810 + (j : Int) < (g.size : Int) := by omega
     obtain ⟨r, hr⟩ : ∃ r, (((bl g).drop 810).take j).any (· != 48) = r := ⟨_, rfl⟩
     rw [hr] at hstep ⊢
     have HST := Lib.hid hstep
     clear hstep hr hD8
     cases r
     ·cases h48 : (D8 != 48)
      ·have b6 : ((D8 : Int) != 48) = false := by rw [bne_eq_false_iff_eq]; have := bne_eq_false_iff_eq.1 h48; omega
       have HS2 := Lib.hid (show (((bl g).drop 810).take (j + 1)).any (· != 48) = false from by rw [HST.out, h48]; rfl)
       clear h48
       go_wp2
       exact ⟨⟨j + 1, by go_num, by omega, by rw [HS2.out], trivial⟩, by simp [intOf]; omega⟩
      ·have b6 : ((D8 : Int) != 48) = true := by rw [bne_iff_ne]; have := bne_iff_ne.1 h48; omega
       have HS2 := Lib.hid (show (((bl g).drop 810).take (j + 1)).any (· != 48) = true from by rw [HST.out, h48]; rfl)
       clear h48
       go_wp2
       exact ⟨⟨j + 1, by go_num, by omega, by rw [HS2.out], trivial⟩, by simp [intOf]; omega⟩
     ·have HS2 := Lib.hid (show (((bl g).drop 810).take (j + 1)).any (· != 48) = true from by rw [HST.out]; rfl)
      go_wp2
      exact ⟨⟨j + 1, by go_num, by omega, by rw [HS2.out], trivial⟩, by simp [intOf]; omega⟩
    ·have hz2 : (((bl g).drop 810).take j).any (· != 48) = true := by
      rw [List.take_of_length_le (by rw [List.length_drop, bl_size, HGN.out]; omega)]
      exact HRB.out
     rw [hz2]
     have b4 : (g.size : Int) = (N : Int) := by rw [HGN.out]
     have b0 : decide (810 + (j : Int) < (N : Int)) = false := decide_eq_false (by omega)
     have b5 : (810 : Int) ≤ (g.size : Int) := by have := HN8.out; omega
     clear hz2
     go_wp2_with fail
     refine (C3.out _).mono ?_
     rintro e w1 ⟨A1, n1, c1, rfl, g1, b1⟩
     have G1 := Lib.hid g1
     have B1 := Lib.hid b1
     clear g1 b1
     go_wp2_with fail
     refine (C4.out _).mono ?_
     rintro e w2 ⟨A2, n2, c2, rfl, g2, b2⟩
     have G2 := Lib.hid g2
     have G1a := Lib.hid (G1.out.step b2)
     have B2 := Lib.hid (below_le B1.out b2)
     clear g2 b2
     go_wp2_with fail
     refine (C5.out _ _ _ _ _ _ _ G1a.out G2.out).mono ?_
     rintro e w3 ⟨A3, n3, c3, rfl, g3, b3⟩
     have G3 := Lib.hid g3
     have B3 := Lib.hid (below_le B2.out b3)
     clear g3 b3
     go_wp2_with fail
     refine (C6.out _ _ _ _ G3.out).mono ?_
     rintro e w4 ⟨rfl, b4⟩
     have B4 := Lib.hid (below_le B3.out b4)
     clear b4
     go_wp2
     go_ret
     exact ⟨rfl, B4.out⟩
set_option maxRecDepth 100000 in
set_option maxHeartbeats 2000000 in
theorem ydec_longr_neg00 (s : ByteArray) (K N : Nat) (X P : Int) (m F : Nat) (D M Q bd ba : Nat) (x1 up Y : Int) (g : ByteArray) (y1 y2 : Int) (E : Int) (w : World) (hs : s.size ≤ 281474976710656) (hK : K ≤ s.size) (hN : s.size - K = N)
  (Z1 : Hid (∀ k (h : k < s.size), k < K → (s[k]'h).toNat = 48)) (Z2 : Hid (∀ h : K < s.size, (s[K]'h).toNat ≠ 48))
  (hN0 : 0 < N) (p1 : wrap64 ((N : Int) + X) = P) (t0 : ((N : Int) == 0) = false) (t1 : decide (400 < P) = false) (t2 : decide (P < -400) = false) (t3 : decide (820 < (N : Int)) = true)
  (hg : s.extract K s.size = g) (hgN : g.size = N) (hN8 : 820 < N) (hrb : ((bl g).drop 810).any (· != 48) = true)
  (q0 : wrap64 (X + (N : Int)) = y1) (q1 : wrap64 (y1 - 810) = y2) (q2 : wrap64 (y2 - 1) = E) (_q3 : ¬ 9223372036854775807 < (g.extract 0 810).size + 1) 
  (C3 : Hid (∀ W, Cp 165 #[.string (g.extract 0 810 ++ ⟨#[49]⟩), .int .i64 10] W (NOk m W)))
  (C4 : Hid (∀ W, Cp 115 #[.int .i64 (-E)] W (NRet D W)))
  (C5 : Hid (∀ W A1 n1 c1, NV W A1 n1 c1 D → Ct 163 #[.slice A1 n1 c1] (.int .i64 (bd : Nat)) W))
  (C6 : Hid (∀ W A1 n1 c1, NV W A1 n1 c1 m → Ct 163 #[.slice A1 n1 c1] (.int .i64 (ba : Nat)) W))
  (C7 : Hid (∀ W A1 n1 c1, NV W A1 n1 c1 m → Cp 102 #[.slice A1 n1 c1, .int .i64 0] W (NRet M W)))
  (C8 : Hid (∀ W A1 n1 c1 A2 n2 c2, NV W A1 n1 c1 M → NV W A2 n2 c2 D → Cp 49 #[.slice A1 n1 c1, .slice A2 n2 c2] W (HRet M D W)))
  (C9 : Hid (∀ W A1 n1 c1, NV W A1 n1 c1 (M / D) → Cp 102 #[.slice A1 n1 c1, .int .i64 1] W (NRet Q W)))
  (C11 : Hid (∀ W A1 n1 c1, NV W A1 n1 c1 Q → Ct 154 #[.slice A1 n1 c1, .int .i64 Y] (.float .f64 F) W))
  (hrem : M % D = 0)
  (u0 : decide (0 ≤ E) = false) (u1 : wrap64 (-E) = -E) (u2 : wrap64 ((bd : Int) - (ba : Int)) = x1) (u3 : wrap64 (x1 + 70) = up) (u4 : decide (up < 0) = true) (u6 : Y = -1) :
  Ct 104 #[.string s, .int .i64 X] (.float .f64 F) w := by
 have h1 : (s.size : Int) ≤ 281474976710656 := by omega
 have HN := Lib.hid hN
 have HK := Lib.hid hK
 have HN0 := Lib.hid hN0
 have HREM := Lib.hid hrem
 subst u6
 have HG := Lib.hid hg
 have HGN := Lib.hid hgN
 have HN8 := Lib.hid hN8
 have HRB := Lib.hid hrb
 clear hs hK hN hN0 hrem hg hgN hN8 hrb
 go_enter Tryz.func104, Tryz.ntmps104
 go_wp2
 go_loopw [5] (fun i wr => ∃ k : Nat, i = .int .i64 k ∧ k ≤ K ∧ w = wr) (fun i _ => K - (intOf i).toNat)
 case atStart => exact ⟨0, rfl, Nat.zero_le _, rfl⟩
 case round =>
  obtain ⟨k, rfl, hk, rfl⟩ := hrel
  have hk2 := HK.out
  by_cases hlt : k < K
  ·have hks : k < s.size := by omega
   have e0 : ((s[k]'hks).toNat : Int) = 48 := by rw [Z1.out k hks hlt]; rfl
   have a2 : (k : Int) < (s.size : Int) := by omega
   have a1 : (0 : Int) ≤ (k : Int) := by omega
   clear hk2
   go_wp2
   exact ⟨⟨k + 1, by go_num, by omega, trivial⟩, by simp [intOf]; omega⟩
  ·obtain rfl : k = K := by omega
   have hz : k < s.size := by have := HN.out; have := HN0.out; omega
   obtain ⟨B, hB⟩ : ∃ B : Nat, (s[k]'hz).toNat = B := ⟨_, rfl⟩
   have hB48 := Z2.out hz
   rw [hB] at hB48
   have e0 : ((s[k]'hz).toNat : Int) = (B : Int) := by rw [hB]
   have e1 : ((B : Int) == 48) = false := by rw [beq_eq_false_iff_ne]; omega
   have a2 : (k : Int) < (s.size : Int) := by omega
   have a1 : (0 : Int) ≤ (k : Int) := by omega
   have a3 : (k : Int) ≤ (s.size : Int) := by omega
   have a4 : ((s.size - k : Nat) : Int) = (N : Int) := by rw [HN.out]
   clear hk2 hB hB48
   have hext : s.extract k s.size = g := HG.out
   have b4 : (g.size : Int) = (N : Int) := by rw [HGN.out]
   go_wp2
   clear a1 a2 a3 e0 e1 hext hz b4
   go_loopw [6, 7] (fun v i wr => ∃ j : Nat, i = .int .i64 (810 + (j : Int)) ∧ 810 + j ≤ N ∧ v = .bool ((((bl g).drop 810).take j).any (· != 48)) ∧ w = wr) (fun _ i _ => N - (intOf i).toNat)
   case atStart => exact ⟨0, rfl, by have := HN8.out; omega, rfl, rfl⟩
   case round =>
    obtain ⟨j, rfl, hj, rfl, rfl⟩ := hrel
    by_cases hjl : 810 + j < N
    ·have hgs : 810 + j < g.size := by rw [HGN.out]; exact hjl
     obtain ⟨D8, hD8⟩ : ∃ D8 : Nat, (g[810 + j]'hgs).toNat = D8 := ⟨_, rfl⟩
     have hstep : (((bl g).drop 810).take (j + 1)).any (· != 48) = ((((bl g).drop 810).take j).any (· != 48) || (D8 != 48)) := by
      rw [List.take_add_one, List.getElem?_drop, bl_get g (810 + j) hgs, hD8, List.any_append]
      simp
     have b0 : ((810 + (j : Int)) : Int) < (N : Int) := by omega
     have b1 : (0 : Int) ≤ 810 + (j : Int) := by omega
     have b2 : (810 + (j : Int)).toNat = 810 + j := by omega
     have b3 : ((g[810 + j]'hgs).toNat : Int) = (D8 : Int) := by rw [hD8]
     have b4 : (g.size : Int) = (N : Int) := by rw [HGN.out]
     have b5 : 810 + (j : Int) < (g.size : Int) := by omega
     obtain ⟨r, hr⟩ : ∃ r, (((bl g).drop 810).take j).any (· != 48) = r := ⟨_, rfl⟩
     rw [hr] at hstep ⊢
     have HST := Lib.hid hstep
     clear hstep hr hD8
     cases r
     ·cases h48 : (D8 != 48)
      ·have b6 : ((D8 : Int) != 48) = false := by rw [bne_eq_false_iff_eq]; have := bne_eq_false_iff_eq.1 h48; omega
       have HS2 := Lib.hid (show (((bl g).drop 810).take (j + 1)).any (· != 48) = false from by rw [HST.out, h48]; rfl)
       clear h48
       go_wp2
       exact ⟨⟨j + 1, by go_num, by omega, by rw [HS2.out], trivial⟩, by simp [intOf]; omega⟩
      ·have b6 : ((D8 : Int) != 48) = true := by rw [bne_iff_ne]; have := bne_iff_ne.1 h48; omega
       have HS2 := Lib.hid (show (((bl g).drop 810).take (j + 1)).any (· != 48) = true from by rw [HST.out, h48]; rfl)
       clear h48
       go_wp2
       exact ⟨⟨j + 1, by go_num, by omega, by rw [HS2.out], trivial⟩, by simp [intOf]; omega⟩
     ·have HS2 := Lib.hid (show (((bl g).drop 810).take (j + 1)).any (· != 48) = true from by rw [HST.out]; rfl)
      go_wp2
      exact ⟨⟨j + 1, by go_num, by omega, by rw [HS2.out], trivial⟩, by simp [intOf]; omega⟩
    ·have hz2 : (((bl g).drop 810).take j).any (· != 48) = true := by
      rw [List.take_of_length_le (by rw [List.length_drop, bl_size, HGN.out]; omega)]
      exact HRB.out
     rw [hz2]
     have b4 : (g.size : Int) = (N : Int) := by rw [HGN.out]
     have b0 : decide (810 + (j : Int) < (N : Int)) = false := decide_eq_false (by omega)
     have b5 : (810 : Int) ≤ (g.size : Int) := by have := HN8.out; omega
     clear hz2
     go_wp2_with fail
     refine (C3.out _).mono ?_
     rintro e w1 ⟨A1, n1, c1, rfl, g1, b1⟩
     have G1 := Lib.hid g1
     have B1 := Lib.hid b1
     clear g1 b1
     go_wp2_with fail
     refine (C4.out _).mono ?_
     rintro e w2 ⟨A2, n2, c2, rfl, g2, b2⟩
     have G2 := Lib.hid g2
     have G1a := Lib.hid (G1.out.step b2)
     have B2 := Lib.hid (below_le B1.out b2)
     clear g2 b2
     go_wp2_with fail
     refine (C5.out _ _ _ _ G2.out).mono ?_
     rintro e w3 ⟨rfl, b3⟩
     have G2a := Lib.hid (G2.out.step b3)
     have G1b := Lib.hid (G1a.out.step b3)
     have B3 := Lib.hid (below_le B2.out b3)
     clear b3
     go_wp2_with fail
     refine (C6.out _ _ _ _ G1b.out).mono ?_
     rintro e w4 ⟨rfl, b4⟩
     have G2b := Lib.hid (G2a.out.step b4)
     have G1c := Lib.hid (G1b.out.step b4)
     have B4 := Lib.hid (below_le B3.out b4)
     clear b4
     go_wp2_with fail
     refine (C7.out _ _ _ _ G1c.out).mono ?_
     rintro e w5 ⟨A5, n5, c5, rfl, g5, b5⟩
     have G5 := Lib.hid g5
     have G25 := Lib.hid (G2b.out.step b5)
     have B5 := Lib.hid (below_le B4.out b5)
     clear g5 b5
     go_wp2_with fail
     refine (C8.out _ _ _ _ _ _ _ G5.out G25.out).mono ?_
     rintro e w6 ⟨A6, n6, c6, A7, n7, c7, rfl, g6, g7, b6⟩
     have G6 := Lib.hid g6
     have B6 := Lib.hid (below_le B5.out b6)
     obtain rfl : n7 = 0 := by
      have h1 := g7.len
      rw [HREM.out] at h1
      exact h1.symm
     clear g6 g7 b6
     go_wp2_with fail
     refine (C9.out _ _ _ _ G6.out).mono ?_
     rintro e w7 ⟨A8, n8, c8, rfl, g8, b7⟩
     have G8 := Lib.hid g8
     have B7 := Lib.hid (below_le B6.out b7)
     clear g8 b7
     go_wp2_with fail
     refine (C11.out _ _ _ _ G8.out).mono ?_
     rintro e w9 ⟨rfl, b9⟩
     have B9 := Lib.hid (below_le B7.out b9)
     clear b9
     go_wp2
     go_ret
     exact ⟨rfl, B9.out⟩
set_option maxRecDepth 100000 in
set_option maxHeartbeats 2000000 in
theorem ydec_longr_neg01 (s : ByteArray) (K N : Nat) (X P : Int) (m F : Nat) (D M Q Q2 bd ba : Nat) (x1 up Y : Int) (g : ByteArray) (y1 y2 : Int) (E : Int) (w : World) (hs : s.size ≤ 281474976710656) (hK : K ≤ s.size) (hN : s.size - K = N)
  (Z1 : Hid (∀ k (h : k < s.size), k < K → (s[k]'h).toNat = 48)) (Z2 : Hid (∀ h : K < s.size, (s[K]'h).toNat ≠ 48))
  (hN0 : 0 < N) (p1 : wrap64 ((N : Int) + X) = P) (t0 : ((N : Int) == 0) = false) (t1 : decide (400 < P) = false) (t2 : decide (P < -400) = false) (t3 : decide (820 < (N : Int)) = true)
  (hg : s.extract K s.size = g) (hgN : g.size = N) (hN8 : 820 < N) (hrb : ((bl g).drop 810).any (· != 48) = true)
  (q0 : wrap64 (X + (N : Int)) = y1) (q1 : wrap64 (y1 - 810) = y2) (q2 : wrap64 (y2 - 1) = E) (_q3 : ¬ 9223372036854775807 < (g.extract 0 810).size + 1) 
  (C3 : Hid (∀ W, Cp 165 #[.string (g.extract 0 810 ++ ⟨#[49]⟩), .int .i64 10] W (NOk m W)))
  (C4 : Hid (∀ W, Cp 115 #[.int .i64 (-E)] W (NRet D W)))
  (C5 : Hid (∀ W A1 n1 c1, NV W A1 n1 c1 D → Ct 163 #[.slice A1 n1 c1] (.int .i64 (bd : Nat)) W))
  (C6 : Hid (∀ W A1 n1 c1, NV W A1 n1 c1 m → Ct 163 #[.slice A1 n1 c1] (.int .i64 (ba : Nat)) W))
  (C7 : Hid (∀ W A1 n1 c1, NV W A1 n1 c1 m → Cp 102 #[.slice A1 n1 c1, .int .i64 0] W (NRet M W)))
  (C8 : Hid (∀ W A1 n1 c1 A2 n2 c2, NV W A1 n1 c1 M → NV W A2 n2 c2 D → Cp 49 #[.slice A1 n1 c1, .slice A2 n2 c2] W (HRet M D W)))
  (C9 : Hid (∀ W A1 n1 c1, NV W A1 n1 c1 (M / D) → Cp 102 #[.slice A1 n1 c1, .int .i64 1] W (NRet Q W)))
  (C10 : Hid (∀ W A1 n1 c1 A2 n2 c2, NV W A1 n1 c1 Q → NV W A2 n2 c2 1 → Cp 103 #[.slice A1 n1 c1, .slice A2 n2 c2] W (NRet Q2 W)))
  (C11 : Hid (∀ W A1 n1 c1, NV W A1 n1 c1 Q2 → Ct 154 #[.slice A1 n1 c1, .int .i64 Y] (.float .f64 F) W))
  (hrem : M % D ≠ 0)
  (u0 : decide (0 ≤ E) = false) (u1 : wrap64 (-E) = -E) (u2 : wrap64 ((bd : Int) - (ba : Int)) = x1) (u3 : wrap64 (x1 + 70) = up) (u4 : decide (up < 0) = true) (u6 : Y = -1) :
  Ct 104 #[.string s, .int .i64 X] (.float .f64 F) w := by
 have h1 : (s.size : Int) ≤ 281474976710656 := by omega
 have HN := Lib.hid hN
 have HK := Lib.hid hK
 have HN0 := Lib.hid hN0
 have HREM := Lib.hid hrem
 subst u6
 have HG := Lib.hid hg
 have HGN := Lib.hid hgN
 have HN8 := Lib.hid hN8
 have HRB := Lib.hid hrb
 clear hs hK hN hN0 hrem hg hgN hN8 hrb
 go_enter Tryz.func104, Tryz.ntmps104
 go_wp2
 go_loopw [5] (fun i wr => ∃ k : Nat, i = .int .i64 k ∧ k ≤ K ∧ w = wr) (fun i _ => K - (intOf i).toNat)
 case atStart => exact ⟨0, rfl, Nat.zero_le _, rfl⟩
 case round =>
  obtain ⟨k, rfl, hk, rfl⟩ := hrel
  have hk2 := HK.out
  by_cases hlt : k < K
  ·have hks : k < s.size := by omega
   have e0 : ((s[k]'hks).toNat : Int) = 48 := by rw [Z1.out k hks hlt]; rfl
   have a2 : (k : Int) < (s.size : Int) := by omega
   have a1 : (0 : Int) ≤ (k : Int) := by omega
   clear hk2
   go_wp2
   exact ⟨⟨k + 1, by go_num, by omega, trivial⟩, by simp [intOf]; omega⟩
  ·obtain rfl : k = K := by omega
   have hz : k < s.size := by have := HN.out; have := HN0.out; omega
   obtain ⟨B, hB⟩ : ∃ B : Nat, (s[k]'hz).toNat = B := ⟨_, rfl⟩
   have hB48 := Z2.out hz
   rw [hB] at hB48
   have e0 : ((s[k]'hz).toNat : Int) = (B : Int) := by rw [hB]
   have e1 : ((B : Int) == 48) = false := by rw [beq_eq_false_iff_ne]; omega
   have a2 : (k : Int) < (s.size : Int) := by omega
   have a1 : (0 : Int) ≤ (k : Int) := by omega
   have a3 : (k : Int) ≤ (s.size : Int) := by omega
   have a4 : ((s.size - k : Nat) : Int) = (N : Int) := by rw [HN.out]
   clear hk2 hB hB48
   have hext : s.extract k s.size = g := HG.out
   have b4 : (g.size : Int) = (N : Int) := by rw [HGN.out]
   go_wp2
   clear a1 a2 a3 e0 e1 hext hz b4
   go_loopw [6, 7] (fun v i wr => ∃ j : Nat, i = .int .i64 (810 + (j : Int)) ∧ 810 + j ≤ N ∧ v = .bool ((((bl g).drop 810).take j).any (· != 48)) ∧ w = wr) (fun _ i _ => N - (intOf i).toNat)
   case atStart => exact ⟨0, rfl, by have := HN8.out; omega, rfl, rfl⟩
   case round =>
    obtain ⟨j, rfl, hj, rfl, rfl⟩ := hrel
    by_cases hjl : 810 + j < N
    ·have hgs : 810 + j < g.size := by rw [HGN.out]; exact hjl
     obtain ⟨D8, hD8⟩ : ∃ D8 : Nat, (g[810 + j]'hgs).toNat = D8 := ⟨_, rfl⟩
     have hstep : (((bl g).drop 810).take (j + 1)).any (· != 48) = ((((bl g).drop 810).take j).any (· != 48) || (D8 != 48)) := by
      rw [List.take_add_one, List.getElem?_drop, bl_get g (810 + j) hgs, hD8, List.any_append]
      simp
     have b0 : ((810 + (j : Int)) : Int) < (N : Int) := by omega
     have b1 : (0 : Int) ≤ 810 + (j : Int) := by omega
     have b2 : (810 + (j : Int)).toNat = 810 + j := by omega
     have b3 : ((g[810 + j]'hgs).toNat : Int) = (D8 : Int) := by rw [hD8]
     have b4 : (g.size : Int) = (N : Int) := by rw [HGN.out]
     have b5 : 810 + (j : Int) < (g.size : Int) := by omega
     obtain ⟨r, hr⟩ : ∃ r, (((bl g).drop 810).take j).any (· != 48) = r := ⟨_, rfl⟩
     rw [hr] at hstep ⊢
     have HST := Lib.hid hstep
     clear hstep hr hD8
     cases r
     ·cases h48 : (D8 != 48)
      ·have b6 : ((D8 : Int) != 48) = false := by rw [bne_eq_false_iff_eq]; have := bne_eq_false_iff_eq.1 h48; omega
       have HS2 := Lib.hid (show (((bl g).drop 810).take (j + 1)).any (· != 48) = false from by rw [HST.out, h48]; rfl)
       clear h48
       go_wp2
       exact ⟨⟨j + 1, by go_num, by omega, by rw [HS2.out], trivial⟩, by simp [intOf]; omega⟩
      ·have b6 : ((D8 : Int) != 48) = true := by rw [bne_iff_ne]; have := bne_iff_ne.1 h48; omega
       have HS2 := Lib.hid (show (((bl g).drop 810).take (j + 1)).any (· != 48) = true from by rw [HST.out, h48]; rfl)
       clear h48
       go_wp2
       exact ⟨⟨j + 1, by go_num, by omega, by rw [HS2.out], trivial⟩, by simp [intOf]; omega⟩
     ·have HS2 := Lib.hid (show (((bl g).drop 810).take (j + 1)).any (· != 48) = true from by rw [HST.out]; rfl)
      go_wp2
      exact ⟨⟨j + 1, by go_num, by omega, by rw [HS2.out], trivial⟩, by simp [intOf]; omega⟩
    ·have hz2 : (((bl g).drop 810).take j).any (· != 48) = true := by
      rw [List.take_of_length_le (by rw [List.length_drop, bl_size, HGN.out]; omega)]
      exact HRB.out
     rw [hz2]
     have b4 : (g.size : Int) = (N : Int) := by rw [HGN.out]
     have b0 : decide (810 + (j : Int) < (N : Int)) = false := decide_eq_false (by omega)
     have b5 : (810 : Int) ≤ (g.size : Int) := by have := HN8.out; omega
     clear hz2
     go_wp2_with fail
     refine (C3.out _).mono ?_
     rintro e w1 ⟨A1, n1, c1, rfl, g1, b1⟩
     have G1 := Lib.hid g1
     have B1 := Lib.hid b1
     clear g1 b1
     go_wp2_with fail
     refine (C4.out _).mono ?_
     rintro e w2 ⟨A2, n2, c2, rfl, g2, b2⟩
     have G2 := Lib.hid g2
     have G1a := Lib.hid (G1.out.step b2)
     have B2 := Lib.hid (below_le B1.out b2)
     clear g2 b2
     go_wp2_with fail
     refine (C5.out _ _ _ _ G2.out).mono ?_
     rintro e w3 ⟨rfl, b3⟩
     have G2a := Lib.hid (G2.out.step b3)
     have G1b := Lib.hid (G1a.out.step b3)
     have B3 := Lib.hid (below_le B2.out b3)
     clear b3
     go_wp2_with fail
     refine (C6.out _ _ _ _ G1b.out).mono ?_
     rintro e w4 ⟨rfl, b4⟩
     have G2b := Lib.hid (G2a.out.step b4)
     have G1c := Lib.hid (G1b.out.step b4)
     have B4 := Lib.hid (below_le B3.out b4)
     clear b4
     go_wp2_with fail
     refine (C7.out _ _ _ _ G1c.out).mono ?_
     rintro e w5 ⟨A5, n5, c5, rfl, g5, b5⟩
     have G5 := Lib.hid g5
     have G25 := Lib.hid (G2b.out.step b5)
     have B5 := Lib.hid (below_le B4.out b5)
     clear g5 b5
     go_wp2_with fail
     refine (C8.out _ _ _ _ _ _ _ G5.out G25.out).mono ?_
     rintro e w6 ⟨A6, n6, c6, A7, n7, c7, rfl, g6, g7, b6⟩
     have G6 := Lib.hid g6
     have B6 := Lib.hid (below_le B5.out b6)
     have hn7 : (0 : Int) < (n7 : Int) := by
      have h1 := g7.len
      have h2 : (wds (M % D)) ≠ [] := fun e => HREM.out (by have h3 := wds_val (M % D); rw [e] at h3; exact h3.symm)
      have := List.length_pos_iff.2 h2
      omega
     clear g6 g7 b6
     go_wp2_with fail
     refine (C9.out _ _ _ _ G6.out).mono ?_
     rintro e w7 ⟨A8, n8, c8, rfl, g8, b7⟩
     have G8 := Lib.hid g8
     have B7 := Lib.hid (below_le B6.out b7)
     clear g8 b7
     have bl := Lib.hid (show Below w7.heap.size w7 (w7.alloc (.cells #[.int .u32 1] 42)) from (Below.refl _ _).alloc (Nat.le_refl _) _)
     have C10' := Lib.hid (C10.out _ _ _ _ _ _ _ (G8.out.step bl.out) (NV.lit w7 1 (by omega) (by omega)))
     go_wp2_with fail
     refine C10'.out.mono ?_
     rintro e w8 ⟨A9, n9, c9, rfl, g9, b8⟩
     have G9 := Lib.hid g9
     have B8 := Lib.hid (below_le (below_le B7.out bl.out) b8)
     clear g9 b8
     go_wp2_with fail
     refine (C11.out _ _ _ _ G9.out).mono ?_
     rintro e w9 ⟨rfl, b9⟩
     have B9 := Lib.hid (below_le B8.out b9)
     clear b9
     go_wp2
     go_ret
     exact ⟨rfl, B9.out⟩
set_option maxRecDepth 100000 in
set_option maxHeartbeats 2000000 in
theorem ydec_longr_neg10 (s : ByteArray) (K N : Nat) (X P : Int) (m F : Nat) (D M Q bd ba : Nat) (x1 up x2 Y : Int) (g : ByteArray) (y1 y2 : Int) (E : Int) (w : World) (hs : s.size ≤ 281474976710656) (hK : K ≤ s.size) (hN : s.size - K = N)
  (Z1 : Hid (∀ k (h : k < s.size), k < K → (s[k]'h).toNat = 48)) (Z2 : Hid (∀ h : K < s.size, (s[K]'h).toNat ≠ 48))
  (hN0 : 0 < N) (p1 : wrap64 ((N : Int) + X) = P) (t0 : ((N : Int) == 0) = false) (t1 : decide (400 < P) = false) (t2 : decide (P < -400) = false) (t3 : decide (820 < (N : Int)) = true)
  (hg : s.extract K s.size = g) (hgN : g.size = N) (hN8 : 820 < N) (hrb : ((bl g).drop 810).any (· != 48) = true)
  (q0 : wrap64 (X + (N : Int)) = y1) (q1 : wrap64 (y1 - 810) = y2) (q2 : wrap64 (y2 - 1) = E) (_q3 : ¬ 9223372036854775807 < (g.extract 0 810).size + 1) 
  (C3 : Hid (∀ W, Cp 165 #[.string (g.extract 0 810 ++ ⟨#[49]⟩), .int .i64 10] W (NOk m W)))
  (C4 : Hid (∀ W, Cp 115 #[.int .i64 (-E)] W (NRet D W)))
  (C5 : Hid (∀ W A1 n1 c1, NV W A1 n1 c1 D → Ct 163 #[.slice A1 n1 c1] (.int .i64 (bd : Nat)) W))
  (C6 : Hid (∀ W A1 n1 c1, NV W A1 n1 c1 m → Ct 163 #[.slice A1 n1 c1] (.int .i64 (ba : Nat)) W))
  (C7 : Hid (∀ W A1 n1 c1, NV W A1 n1 c1 m → Cp 102 #[.slice A1 n1 c1, .int .i64 up] W (NRet M W)))
  (C8 : Hid (∀ W A1 n1 c1 A2 n2 c2, NV W A1 n1 c1 M → NV W A2 n2 c2 D → Cp 49 #[.slice A1 n1 c1, .slice A2 n2 c2] W (HRet M D W)))
  (C9 : Hid (∀ W A1 n1 c1, NV W A1 n1 c1 (M / D) → Cp 102 #[.slice A1 n1 c1, .int .i64 1] W (NRet Q W)))
  (C11 : Hid (∀ W A1 n1 c1, NV W A1 n1 c1 Q → Ct 154 #[.slice A1 n1 c1, .int .i64 Y] (.float .f64 F) W))
  (hrem : M % D = 0)
  (u0 : decide (0 ≤ E) = false) (u1 : wrap64 (-E) = -E) (u2 : wrap64 ((bd : Int) - (ba : Int)) = x1) (u3 : wrap64 (x1 + 70) = up) (u4 : decide (up < 0) = false) (u5 : wrap64 (-up) = x2) (u6 : wrap64 (x2 - 1) = Y) :
  Ct 104 #[.string s, .int .i64 X] (.float .f64 F) w := by
 have h1 : (s.size : Int) ≤ 281474976710656 := by omega
 have HN := Lib.hid hN
 have HK := Lib.hid hK
 have HN0 := Lib.hid hN0
 have HREM := Lib.hid hrem
 have HG := Lib.hid hg
 have HGN := Lib.hid hgN
 have HN8 := Lib.hid hN8
 have HRB := Lib.hid hrb
 clear hs hK hN hN0 hrem hg hgN hN8 hrb
 go_enter Tryz.func104, Tryz.ntmps104
 go_wp2
 go_loopw [5] (fun i wr => ∃ k : Nat, i = .int .i64 k ∧ k ≤ K ∧ w = wr) (fun i _ => K - (intOf i).toNat)
 case atStart => exact ⟨0, rfl, Nat.zero_le _, rfl⟩
 case round =>
  obtain ⟨k, rfl, hk, rfl⟩ := hrel
  have hk2 := HK.out
  by_cases hlt : k < K
  ·have hks : k < s.size := by omega
   have e0 : ((s[k]'hks).toNat : Int) = 48 := by rw [Z1.out k hks hlt]; rfl
   have a2 : (k : Int) < (s.size : Int) := by omega
   have a1 : (0 : Int) ≤ (k : Int) := by omega
   clear hk2
   go_wp2
   exact ⟨⟨k + 1, by go_num, by omega, trivial⟩, by simp [intOf]; omega⟩
  ·obtain rfl : k = K := by omega
   have hz : k < s.size := by have := HN.out; have := HN0.out; omega
   obtain ⟨B, hB⟩ : ∃ B : Nat, (s[k]'hz).toNat = B := ⟨_, rfl⟩
   have hB48 := Z2.out hz
   rw [hB] at hB48
   have e0 : ((s[k]'hz).toNat : Int) = (B : Int) := by rw [hB]
   have e1 : ((B : Int) == 48) = false := by rw [beq_eq_false_iff_ne]; omega
   have a2 : (k : Int) < (s.size : Int) := by omega
   have a1 : (0 : Int) ≤ (k : Int) := by omega
   have a3 : (k : Int) ≤ (s.size : Int) := by omega
   have a4 : ((s.size - k : Nat) : Int) = (N : Int) := by rw [HN.out]
   clear hk2 hB hB48
   have hext : s.extract k s.size = g := HG.out
   have b4 : (g.size : Int) = (N : Int) := by rw [HGN.out]
   go_wp2
   clear a1 a2 a3 e0 e1 hext hz b4
   go_loopw [6, 7] (fun v i wr => ∃ j : Nat, i = .int .i64 (810 + (j : Int)) ∧ 810 + j ≤ N ∧ v = .bool ((((bl g).drop 810).take j).any (· != 48)) ∧ w = wr) (fun _ i _ => N - (intOf i).toNat)
   case atStart => exact ⟨0, rfl, by have := HN8.out; omega, rfl, rfl⟩
   case round =>
    obtain ⟨j, rfl, hj, rfl, rfl⟩ := hrel
    by_cases hjl : 810 + j < N
    ·have hgs : 810 + j < g.size := by rw [HGN.out]; exact hjl
     obtain ⟨D8, hD8⟩ : ∃ D8 : Nat, (g[810 + j]'hgs).toNat = D8 := ⟨_, rfl⟩
     have hstep : (((bl g).drop 810).take (j + 1)).any (· != 48) = ((((bl g).drop 810).take j).any (· != 48) || (D8 != 48)) := by
      rw [List.take_add_one, List.getElem?_drop, bl_get g (810 + j) hgs, hD8, List.any_append]
      simp
     have b0 : ((810 + (j : Int)) : Int) < (N : Int) := by omega
     have b1 : (0 : Int) ≤ 810 + (j : Int) := by omega
     have b2 : (810 + (j : Int)).toNat = 810 + j := by omega
     have b3 : ((g[810 + j]'hgs).toNat : Int) = (D8 : Int) := by rw [hD8]
     have b4 : (g.size : Int) = (N : Int) := by rw [HGN.out]
     have b5 : 810 + (j : Int) < (g.size : Int) := by omega
     obtain ⟨r, hr⟩ : ∃ r, (((bl g).drop 810).take j).any (· != 48) = r := ⟨_, rfl⟩
     rw [hr] at hstep ⊢
     have HST := Lib.hid hstep
     clear hstep hr hD8
     cases r
     ·cases h48 : (D8 != 48)
      ·have b6 : ((D8 : Int) != 48) = false := by rw [bne_eq_false_iff_eq]; have := bne_eq_false_iff_eq.1 h48; omega
       have HS2 := Lib.hid (show (((bl g).drop 810).take (j + 1)).any (· != 48) = false from by rw [HST.out, h48]; rfl)
       clear h48
       go_wp2
       exact ⟨⟨j + 1, by go_num, by omega, by rw [HS2.out], trivial⟩, by simp [intOf]; omega⟩
      ·have b6 : ((D8 : Int) != 48) = true := by rw [bne_iff_ne]; have := bne_iff_ne.1 h48; omega
       have HS2 := Lib.hid (show (((bl g).drop 810).take (j + 1)).any (· != 48) = true from by rw [HST.out, h48]; rfl)
       clear h48
       go_wp2
       exact ⟨⟨j + 1, by go_num, by omega, by rw [HS2.out], trivial⟩, by simp [intOf]; omega⟩
     ·have HS2 := Lib.hid (show (((bl g).drop 810).take (j + 1)).any (· != 48) = true from by rw [HST.out]; rfl)
      go_wp2
      exact ⟨⟨j + 1, by go_num, by omega, by rw [HS2.out], trivial⟩, by simp [intOf]; omega⟩
    ·have hz2 : (((bl g).drop 810).take j).any (· != 48) = true := by
      rw [List.take_of_length_le (by rw [List.length_drop, bl_size, HGN.out]; omega)]
      exact HRB.out
     rw [hz2]
     have b4 : (g.size : Int) = (N : Int) := by rw [HGN.out]
     have b0 : decide (810 + (j : Int) < (N : Int)) = false := decide_eq_false (by omega)
     have b5 : (810 : Int) ≤ (g.size : Int) := by have := HN8.out; omega
     clear hz2
     go_wp2_with fail
     refine (C3.out _).mono ?_
     rintro e w1 ⟨A1, n1, c1, rfl, g1, b1⟩
     have G1 := Lib.hid g1
     have B1 := Lib.hid b1
     clear g1 b1
     go_wp2_with fail
     refine (C4.out _).mono ?_
     rintro e w2 ⟨A2, n2, c2, rfl, g2, b2⟩
     have G2 := Lib.hid g2
     have G1a := Lib.hid (G1.out.step b2)
     have B2 := Lib.hid (below_le B1.out b2)
     clear g2 b2
     go_wp2_with fail
     refine (C5.out _ _ _ _ G2.out).mono ?_
     rintro e w3 ⟨rfl, b3⟩
     have G2a := Lib.hid (G2.out.step b3)
     have G1b := Lib.hid (G1a.out.step b3)
     have B3 := Lib.hid (below_le B2.out b3)
     clear b3
     go_wp2_with fail
     refine (C6.out _ _ _ _ G1b.out).mono ?_
     rintro e w4 ⟨rfl, b4⟩
     have G2b := Lib.hid (G2a.out.step b4)
     have G1c := Lib.hid (G1b.out.step b4)
     have B4 := Lib.hid (below_le B3.out b4)
     clear b4
     go_wp2_with fail
     refine (C7.out _ _ _ _ G1c.out).mono ?_
     rintro e w5 ⟨A5, n5, c5, rfl, g5, b5⟩
     have G5 := Lib.hid g5
     have G25 := Lib.hid (G2b.out.step b5)
     have B5 := Lib.hid (below_le B4.out b5)
     clear g5 b5
     go_wp2_with fail
     refine (C8.out _ _ _ _ _ _ _ G5.out G25.out).mono ?_
     rintro e w6 ⟨A6, n6, c6, A7, n7, c7, rfl, g6, g7, b6⟩
     have G6 := Lib.hid g6
     have B6 := Lib.hid (below_le B5.out b6)
     obtain rfl : n7 = 0 := by
      have h1 := g7.len
      rw [HREM.out] at h1
      exact h1.symm
     clear g6 g7 b6
     go_wp2_with fail
     refine (C9.out _ _ _ _ G6.out).mono ?_
     rintro e w7 ⟨A8, n8, c8, rfl, g8, b7⟩
     have G8 := Lib.hid g8
     have B7 := Lib.hid (below_le B6.out b7)
     clear g8 b7
     go_wp2_with fail
     refine (C11.out _ _ _ _ G8.out).mono ?_
     rintro e w9 ⟨rfl, b9⟩
     have B9 := Lib.hid (below_le B7.out b9)
     clear b9
     go_wp2
     go_ret
     exact ⟨rfl, B9.out⟩
set_option maxRecDepth 100000 in
set_option maxHeartbeats 2000000 in
theorem ydec_longr_neg11 (s : ByteArray) (K N : Nat) (X P : Int) (m F : Nat) (D M Q Q2 bd ba : Nat) (x1 up x2 Y : Int) (g : ByteArray) (y1 y2 : Int) (E : Int) (w : World) (hs : s.size ≤ 281474976710656) (hK : K ≤ s.size) (hN : s.size - K = N)
  (Z1 : Hid (∀ k (h : k < s.size), k < K → (s[k]'h).toNat = 48)) (Z2 : Hid (∀ h : K < s.size, (s[K]'h).toNat ≠ 48))
  (hN0 : 0 < N) (p1 : wrap64 ((N : Int) + X) = P) (t0 : ((N : Int) == 0) = false) (t1 : decide (400 < P) = false) (t2 : decide (P < -400) = false) (t3 : decide (820 < (N : Int)) = true)
  (hg : s.extract K s.size = g) (hgN : g.size = N) (hN8 : 820 < N) (hrb : ((bl g).drop 810).any (· != 48) = true)
  (q0 : wrap64 (X + (N : Int)) = y1) (q1 : wrap64 (y1 - 810) = y2) (q2 : wrap64 (y2 - 1) = E) (_q3 : ¬ 9223372036854775807 < (g.extract 0 810).size + 1) 
  (C3 : Hid (∀ W, Cp 165 #[.string (g.extract 0 810 ++ ⟨#[49]⟩), .int .i64 10] W (NOk m W)))
  (C4 : Hid (∀ W, Cp 115 #[.int .i64 (-E)] W (NRet D W)))
  (C5 : Hid (∀ W A1 n1 c1, NV W A1 n1 c1 D → Ct 163 #[.slice A1 n1 c1] (.int .i64 (bd : Nat)) W))
  (C6 : Hid (∀ W A1 n1 c1, NV W A1 n1 c1 m → Ct 163 #[.slice A1 n1 c1] (.int .i64 (ba : Nat)) W))
  (C7 : Hid (∀ W A1 n1 c1, NV W A1 n1 c1 m → Cp 102 #[.slice A1 n1 c1, .int .i64 up] W (NRet M W)))
  (C8 : Hid (∀ W A1 n1 c1 A2 n2 c2, NV W A1 n1 c1 M → NV W A2 n2 c2 D → Cp 49 #[.slice A1 n1 c1, .slice A2 n2 c2] W (HRet M D W)))
  (C9 : Hid (∀ W A1 n1 c1, NV W A1 n1 c1 (M / D) → Cp 102 #[.slice A1 n1 c1, .int .i64 1] W (NRet Q W)))
  (C10 : Hid (∀ W A1 n1 c1 A2 n2 c2, NV W A1 n1 c1 Q → NV W A2 n2 c2 1 → Cp 103 #[.slice A1 n1 c1, .slice A2 n2 c2] W (NRet Q2 W)))
  (C11 : Hid (∀ W A1 n1 c1, NV W A1 n1 c1 Q2 → Ct 154 #[.slice A1 n1 c1, .int .i64 Y] (.float .f64 F) W))
  (hrem : M % D ≠ 0)
  (u0 : decide (0 ≤ E) = false) (u1 : wrap64 (-E) = -E) (u2 : wrap64 ((bd : Int) - (ba : Int)) = x1) (u3 : wrap64 (x1 + 70) = up) (u4 : decide (up < 0) = false) (u5 : wrap64 (-up) = x2) (u6 : wrap64 (x2 - 1) = Y) :
  Ct 104 #[.string s, .int .i64 X] (.float .f64 F) w := by
 have h1 : (s.size : Int) ≤ 281474976710656 := by omega
 have HN := Lib.hid hN
 have HK := Lib.hid hK
 have HN0 := Lib.hid hN0
 have HREM := Lib.hid hrem
 have HG := Lib.hid hg
 have HGN := Lib.hid hgN
 have HN8 := Lib.hid hN8
 have HRB := Lib.hid hrb
 clear hs hK hN hN0 hrem hg hgN hN8 hrb
 go_enter Tryz.func104, Tryz.ntmps104
 go_wp2
 go_loopw [5] (fun i wr => ∃ k : Nat, i = .int .i64 k ∧ k ≤ K ∧ w = wr) (fun i _ => K - (intOf i).toNat)
 case atStart => exact ⟨0, rfl, Nat.zero_le _, rfl⟩
 case round =>
  obtain ⟨k, rfl, hk, rfl⟩ := hrel
  have hk2 := HK.out
  by_cases hlt : k < K
  ·have hks : k < s.size := by omega
   have e0 : ((s[k]'hks).toNat : Int) = 48 := by rw [Z1.out k hks hlt]; rfl
   have a2 : (k : Int) < (s.size : Int) := by omega
   have a1 : (0 : Int) ≤ (k : Int) := by omega
   clear hk2
   go_wp2
   exact ⟨⟨k + 1, by go_num, by omega, trivial⟩, by simp [intOf]; omega⟩
  ·obtain rfl : k = K := by omega
   have hz : k < s.size := by have := HN.out; have := HN0.out; omega
   obtain ⟨B, hB⟩ : ∃ B : Nat, (s[k]'hz).toNat = B := ⟨_, rfl⟩
   have hB48 := Z2.out hz
   rw [hB] at hB48
   have e0 : ((s[k]'hz).toNat : Int) = (B : Int) := by rw [hB]
   have e1 : ((B : Int) == 48) = false := by rw [beq_eq_false_iff_ne]; omega
   have a2 : (k : Int) < (s.size : Int) := by omega
   have a1 : (0 : Int) ≤ (k : Int) := by omega
   have a3 : (k : Int) ≤ (s.size : Int) := by omega
   have a4 : ((s.size - k : Nat) : Int) = (N : Int) := by rw [HN.out]
   clear hk2 hB hB48
   have hext : s.extract k s.size = g := HG.out
   have b4 : (g.size : Int) = (N : Int) := by rw [HGN.out]
   go_wp2
   clear a1 a2 a3 e0 e1 hext hz b4
   go_loopw [6, 7] (fun v i wr => ∃ j : Nat, i = .int .i64 (810 + (j : Int)) ∧ 810 + j ≤ N ∧ v = .bool ((((bl g).drop 810).take j).any (· != 48)) ∧ w = wr) (fun _ i _ => N - (intOf i).toNat)
   case atStart => exact ⟨0, rfl, by have := HN8.out; omega, rfl, rfl⟩
   case round =>
    obtain ⟨j, rfl, hj, rfl, rfl⟩ := hrel
    by_cases hjl : 810 + j < N
    ·have hgs : 810 + j < g.size := by rw [HGN.out]; exact hjl
     obtain ⟨D8, hD8⟩ : ∃ D8 : Nat, (g[810 + j]'hgs).toNat = D8 := ⟨_, rfl⟩
     have hstep : (((bl g).drop 810).take (j + 1)).any (· != 48) = ((((bl g).drop 810).take j).any (· != 48) || (D8 != 48)) := by
      rw [List.take_add_one, List.getElem?_drop, bl_get g (810 + j) hgs, hD8, List.any_append]
      simp
     have b0 : ((810 + (j : Int)) : Int) < (N : Int) := by omega
     have b1 : (0 : Int) ≤ 810 + (j : Int) := by omega
     have b2 : (810 + (j : Int)).toNat = 810 + j := by omega
     have b3 : ((g[810 + j]'hgs).toNat : Int) = (D8 : Int) := by rw [hD8]
     have b4 : (g.size : Int) = (N : Int) := by rw [HGN.out]
     have b5 : 810 + (j : Int) < (g.size : Int) := by omega
     obtain ⟨r, hr⟩ : ∃ r, (((bl g).drop 810).take j).any (· != 48) = r := ⟨_, rfl⟩
     rw [hr] at hstep ⊢
     have HST := Lib.hid hstep
     clear hstep hr hD8
     cases r
     ·cases h48 : (D8 != 48)
      ·have b6 : ((D8 : Int) != 48) = false := by rw [bne_eq_false_iff_eq]; have := bne_eq_false_iff_eq.1 h48; omega
       have HS2 := Lib.hid (show (((bl g).drop 810).take (j + 1)).any (· != 48) = false from by rw [HST.out, h48]; rfl)
       clear h48
       go_wp2
       exact ⟨⟨j + 1, by go_num, by omega, by rw [HS2.out], trivial⟩, by simp [intOf]; omega⟩
      ·have b6 : ((D8 : Int) != 48) = true := by rw [bne_iff_ne]; have := bne_iff_ne.1 h48; omega
       have HS2 := Lib.hid (show (((bl g).drop 810).take (j + 1)).any (· != 48) = true from by rw [HST.out, h48]; rfl)
       clear h48
       go_wp2
       exact ⟨⟨j + 1, by go_num, by omega, by rw [HS2.out], trivial⟩, by simp [intOf]; omega⟩
     ·have HS2 := Lib.hid (show (((bl g).drop 810).take (j + 1)).any (· != 48) = true from by rw [HST.out]; rfl)
      go_wp2
      exact ⟨⟨j + 1, by go_num, by omega, by rw [HS2.out], trivial⟩, by simp [intOf]; omega⟩
    ·have hz2 : (((bl g).drop 810).take j).any (· != 48) = true := by
      rw [List.take_of_length_le (by rw [List.length_drop, bl_size, HGN.out]; omega)]
      exact HRB.out
     rw [hz2]
     have b4 : (g.size : Int) = (N : Int) := by rw [HGN.out]
     have b0 : decide (810 + (j : Int) < (N : Int)) = false := decide_eq_false (by omega)
     have b5 : (810 : Int) ≤ (g.size : Int) := by have := HN8.out; omega
     clear hz2
     go_wp2_with fail
     refine (C3.out _).mono ?_
     rintro e w1 ⟨A1, n1, c1, rfl, g1, b1⟩
     have G1 := Lib.hid g1
     have B1 := Lib.hid b1
     clear g1 b1
     go_wp2_with fail
     refine (C4.out _).mono ?_
     rintro e w2 ⟨A2, n2, c2, rfl, g2, b2⟩
     have G2 := Lib.hid g2
     have G1a := Lib.hid (G1.out.step b2)
     have B2 := Lib.hid (below_le B1.out b2)
     clear g2 b2
     go_wp2_with fail
     refine (C5.out _ _ _ _ G2.out).mono ?_
     rintro e w3 ⟨rfl, b3⟩
     have G2a := Lib.hid (G2.out.step b3)
     have G1b := Lib.hid (G1a.out.step b3)
     have B3 := Lib.hid (below_le B2.out b3)
     clear b3
     go_wp2_with fail
     refine (C6.out _ _ _ _ G1b.out).mono ?_
     rintro e w4 ⟨rfl, b4⟩
     have G2b := Lib.hid (G2a.out.step b4)
     have G1c := Lib.hid (G1b.out.step b4)
     have B4 := Lib.hid (below_le B3.out b4)
     clear b4
     go_wp2_with fail
     refine (C7.out _ _ _ _ G1c.out).mono ?_
     rintro e w5 ⟨A5, n5, c5, rfl, g5, b5⟩
     have G5 := Lib.hid g5
     have G25 := Lib.hid (G2b.out.step b5)
     have B5 := Lib.hid (below_le B4.out b5)
     clear g5 b5
     go_wp2_with fail
     refine (C8.out _ _ _ _ _ _ _ G5.out G25.out).mono ?_
     rintro e w6 ⟨A6, n6, c6, A7, n7, c7, rfl, g6, g7, b6⟩
     have G6 := Lib.hid g6
     have B6 := Lib.hid (below_le B5.out b6)
     have hn7 : (0 : Int) < (n7 : Int) := by
      have h1 := g7.len
      have h2 : (wds (M % D)) ≠ [] := fun e => HREM.out (by have h3 := wds_val (M % D); rw [e] at h3; exact h3.symm)
      have := List.length_pos_iff.2 h2
      omega
     clear g6 g7 b6
     go_wp2_with fail
     refine (C9.out _ _ _ _ G6.out).mono ?_
     rintro e w7 ⟨A8, n8, c8, rfl, g8, b7⟩
     have G8 := Lib.hid g8
     have B7 := Lib.hid (below_le B6.out b7)
     clear g8 b7
     have bl := Lib.hid (show Below w7.heap.size w7 (w7.alloc (.cells #[.int .u32 1] 42)) from (Below.refl _ _).alloc (Nat.le_refl _) _)
     have C10' := Lib.hid (C10.out _ _ _ _ _ _ _ (G8.out.step bl.out) (NV.lit w7 1 (by omega) (by omega)))
     go_wp2_with fail
     refine C10'.out.mono ?_
     rintro e w8 ⟨A9, n9, c9, rfl, g9, b8⟩
     have G9 := Lib.hid g9
     have B8 := Lib.hid (below_le (below_le B7.out bl.out) b8)
     clear g9 b8
     go_wp2_with fail
     refine (C11.out _ _ _ _ G9.out).mono ?_
     rintro e w9 ⟨rfl, b9⟩
     have B9 := Lib.hid (below_le B8.out b9)
     clear b9
     go_wp2
     go_ret
     exact ⟨rfl, B9.out⟩

end Go.Proofs.YtfcpkdafkmohkaaGreatDoor
namespace Go.Proofs.YtfcpkdafkmohkaaGreatDoor
open Go.RowKit
theorem yneg_pack (m k : Nat) (h0 : 0 < m) (hb : bln m ≤ 3300) (hk : k ≤ 1300) : ∃ (D M bd ba : Nat) (U : Int), U = max 0 ((bd : Int) - ba + 70) ∧ bd ≤ 6000 ∧ ba ≤ 6000 ∧
  Hid (∀ W, Cp 115 #[.int .i64 (k : Nat)] W (NRet D W)) ∧
  Hid (∀ W A1 n1 c1, NV W A1 n1 c1 D → Ct 163 #[.slice A1 n1 c1] (.int .i64 (bd : Nat)) W) ∧
  Hid (∀ W A1 n1 c1, NV W A1 n1 c1 m → Ct 163 #[.slice A1 n1 c1] (.int .i64 (ba : Nat)) W) ∧
  Hid (∀ W A1 n1 c1, NV W A1 n1 c1 m → Cp 102 #[.slice A1 n1 c1, .int .i64 U] W (NRet M W)) ∧
  Hid (∀ W A1 n1 c1 A2 n2 c2, NV W A1 n1 c1 M → NV W A2 n2 c2 D → Cp 49 #[.slice A1 n1 c1, .slice A2 n2 c2] W (HRet M D W)) ∧
  Hid (∀ W A1 n1 c1, NV W A1 n1 c1 (M / D) → Cp 102 #[.slice A1 n1 c1, .int .i64 1] W (NRet (M / D * 2) W)) ∧
  Hid (∀ W A1 n1 c1 A2 n2 c2, NV W A1 n1 c1 (M / D * 2) → NV W A2 n2 c2 1 → Cp 103 #[.slice A1 n1 c1, .slice A2 n2 c2] W (NRet (M / D * 2 + 1) W)) ∧
  (M % D = 0 → Hid (∀ W A1 n1 c1, NV W A1 n1 c1 (M / D * 2) → Ct 154 #[.slice A1 n1 c1, .int .i64 (-U - 1)] (.float .f64 (decR m (-(k : Int)))) W)) ∧
  (M % D ≠ 0 → Hid (∀ W A1 n1 c1, NV W A1 n1 c1 (M / D * 2 + 1) → Ct 154 #[.slice A1 n1 c1, .int .i64 (-U - 1)] (.float .f64 (decR m (-(k : Int)))) W)) := by
 obtain ⟨u1, u2, u3⟩ := bln_bounds h0
 obtain ⟨v1, v2, v3⟩ := bln_bounds (ten_pos k)
 have ft := bln_ten k
 obtain ⟨D, hD⟩ : ∃ D, 10 ^ k = D := ⟨_, rfl⟩
 rw [hD] at v1 v2 v3 ft
 obtain ⟨bd, hbd⟩ : ∃ bd, bln D = bd := ⟨_, rfl⟩
 obtain ⟨ba, hba⟩ : ∃ ba, bln m = ba := ⟨_, rfl⟩
 have hD0 : 0 < D := by rw [← hD]; exact ten_pos k
 obtain ⟨up, hup⟩ : ∃ up : Nat, (up : Int) = max 0 ((bd : Int) - ba + 70) := ⟨(max 0 ((bd : Int) - ba + 70)).toNat, by omega⟩
 have g1 := bln_mul m (2 ^ up)
 have g2 := bln_pow2 up
 obtain ⟨M, hM⟩ : ∃ M, m * 2 ^ up = M := ⟨_, rfl⟩
 have hM0 : 0 < M := by rw [← hM]; exact Nat.mul_pos h0 (two_pos _)
 rw [hM] at g1
 rw [hba] at hb u1 u2 u3 g1
 rw [hbd] at v1 v2 v3 ft
 have hup2 : up ≤ 5400 := by omega
 obtain ⟨p, rfl⟩ : ∃ p, ba = p + 1 := ⟨ba - 1, by omega⟩
 obtain ⟨r, rfl⟩ : ∃ r, bd = r + 1 := ⟨bd - 1, by omega⟩
 rw [Nat.add_sub_cancel] at u1 v1
 have hbig := (quot_bits (x := up) (y := 0) u1 u2 v1 v2 60).2 (by omega)
 rw [Nat.pow_zero, Nat.mul_one, hM] at hbig
 have hqM : M / D ≤ M := Nat.div_le_self _ _
 have l1 := bln_mono hqM
 have l2 := bln_mono (show M / D * 2 ≤ M * 4 by omega)
 have l3 := bln_mono (show M / D * 2 + 1 ≤ M * 4 by omega)
 have l4 := bln_mul M 4
 rw [show bln 4 = 3 by decide] at l4
 obtain ⟨q, hq⟩ : ∃ q, M / D = q := ⟨_, rfl⟩
 obtain ⟨t, ht⟩ : ∃ t, M % D = t := ⟨_, rfl⟩
 have hNd : M = q * D + t := by rw [← hq, ← ht, Nat.mul_comm]; exact (Nat.div_add_mod M D).symm
 have htd : t < D := by rw [← ht]; exact Nat.mod_lt _ hD0
 obtain ⟨a, ha⟩ : ∃ a, 1074 - up = a := ⟨_, rfl⟩
 obtain ⟨b, hb2⟩ : ∃ b, up - 1074 = b := ⟨_, rfl⟩
 have key := fun s hs => decR_refq (m := m) (N := M) (q := q) (t := t) (s := s) (k := k) (up := up) (a := a) (b := b) hM.symm (by rw [hD]; exact hNd) (by rw [hD]; exact htd) hs (by rw [← hq]; exact hbig) ha.symm hb2.symm
 rw [hq] at l1 l2 l3
 refine ⟨D, M, r + 1, p + 1, (up : Int), hup, by omega, by omega, Lib.hid (fun W => ?_), Lib.hid (fun W A1 n1 c1 h => ?_), Lib.hid (fun W A1 n1 c1 h => ?_), Lib.hid (fun W A1 n1 c1 h => ?_), Lib.hid (fun W A1 n1 c1 A2 n2 c2 h g => rnhalved h g (by omega) (by omega) hD0), Lib.hid (fun W A1 n1 c1 h => ?_), Lib.hid (fun W A1 n1 c1 A2 n2 c2 h g => rnplus h g (by rw [hq]; omega) (by decide)), ?_, ?_⟩
 ·rw [← hD]; exact ypow_any k W (by omega)
 ·rw [← hbd]; exact rnbits h (by omega)
 ·rw [← hba]; exact rnbits h (by omega)
 ·rw [← hM]; exact rnup h up (by omega) (by omega)
 ·exact rnup h 1 (by rw [hq]; omega) (by omega)
 ·rw [hq, ht]
  intro h1
  have k1 := key 0 (by rw [if_pos h1])
  rw [Nat.add_zero, Nat.mul_comm 2 q] at k1
  exact Lib.hid (fun W A1 n1 c1 h => by rw [← k1]; exact rnnear h (by omega) a (b + 1) (-(up : Int) - 1) (by omega) (by omega) (by omega))
 ·rw [hq, ht]
  intro h1
  have k1 := key 1 (by rw [if_neg h1])
  rw [Nat.mul_comm 2 q] at k1
  exact Lib.hid (fun W A1 n1 c1 h => by rw [← k1]; exact rnnear h (by omega) a (b + 1) (-(up : Int) - 1) (by omega) (by omega) (by omega))
theorem ypos_pack (m k : Nat) (hb : bln m ≤ 3300) (hk : k ≤ 1300) : ∃ (D M : Nat),
  Hid (∀ W, Cp 115 #[.int .i64 (k : Nat)] W (NRet D W)) ∧
  Hid (∀ W A1 n1 c1 A2 n2 c2, NV W A1 n1 c1 m → NV W A2 n2 c2 D → Cp 51 #[.slice A1 n1 c1, .slice A2 n2 c2] W (NRet M W)) ∧
  Hid (∀ W A1 n1 c1, NV W A1 n1 c1 M → Ct 154 #[.slice A1 n1 c1, .int .i64 0] (.float .f64 (decR m (k : Int))) W) := by
 have ft := bln_ten k
 have g1 := bln_mul m (10 ^ k)
 refine ⟨10 ^ k, m * 10 ^ k, Lib.hid (fun W => ypow_any k W (by omega)), Lib.hid (fun W A1 n1 c1 A2 n2 c2 h g => rntimes h g (by omega) (by omega)), Lib.hid (fun W A1 n1 c1 h => ?_)⟩
 obtain ⟨K, hK, hd⟩ := decR_K
 have := rnnear h (by omega) K 0 0 (by omega) (by omega) (by omega)
 rw [hd, show ((k : Int)).toNat = k by omega, show (-(k : Int)).toNat = 0 by omega]
 exact this
theorem ydec_short (s : ByteArray) (K N : Nat) (X P : Int) (m : Nat) (w : World) (hs : s.size ≤ 281474976710656) (hK : K ≤ s.size) (hN : s.size - K = N)
  (Z1 : Hid (∀ k (h : k < s.size), k < K → (s[k]'h).toNat = 48)) (Z2 : Hid (∀ h : K < s.size, (s[K]'h).toNat ≠ 48))
  (hN0 : 0 < N) (p1 : wrap64 ((N : Int) + X) = P) (t0 : ((N : Int) == 0) = false) (t1 : decide (400 < P) = false) (t2 : decide (P < -400) = false) (t3 : decide (820 < (N : Int)) = false)
  (C3 : Hid (∀ W, Cp 165 #[.string (s.extract K s.size), .int .i64 10] W (NOk m W))) (h0 : 0 < m) (hb : bln m ≤ 3300) (hE1 : -1300 ≤ X) (hE2 : X ≤ 1300) :
  Ct 104 #[.string s, .int .i64 X] (.float .f64 (decR m X)) w := by
 by_cases hp : 0 ≤ X
 ·obtain ⟨k, rfl⟩ : ∃ k : Nat, X = k := ⟨X.toNat, by omega⟩
  obtain ⟨D, M, C4, C5, C6⟩ := ypos_pack m k hb (by omega)
  exact ydec_short_pos (w := w) (hs := hs) (hK := hK) (hN := hN) (Z1 := Z1) (Z2 := Z2) (C3 := C3) (C4 := C4) (C5 := C5) (C6 := C6) (u0 := decide_eq_true hp) (hN0 := hN0) (p1 := p1) (t0 := t0) (t1 := t1) (t2 := t2) (t3 := t3)
 ·obtain ⟨k, rfl⟩ : ∃ k : Nat, X = -(k : Int) := ⟨(-X).toNat, by omega⟩
  obtain ⟨D, M, bd, ba, U, hU, e1, e2, C4, C5, C6, C7, C8, C9, C10, C11, C12⟩ := yneg_pack m k h0 hb (by omega)
  rw [show (k : Int) = -(-(k : Int)) by omega] at C4
  have u0 : decide (0 ≤ -(k : Int)) = false := decide_eq_false hp
  have u1 : wrap64 (- -(k : Int)) = - -(k : Int) := by unfold wrap64; omega
  have u2 : wrap64 ((bd : Int) - (ba : Int)) = (bd : Int) - ba := by unfold wrap64; omega
  have u3 : wrap64 ((bd : Int) - ba + 70) = (bd : Int) - ba + 70 := by unfold wrap64; omega
  by_cases hU0 : (bd : Int) - ba + 70 < 0
  ·obtain rfl : U = 0 := by omega
   have u4 : decide ((bd : Int) - ba + 70 < 0) = true := decide_eq_true hU0
   by_cases hr : M % D = 0
   ·exact ydec_short_neg00 (w := w) (hs := hs) (hK := hK) (hN := hN) (Z1 := Z1) (Z2 := Z2) (C3 := C3) (C4 := C4) (C5 := C5) (C6 := C6) (C7 := C7) (C8 := C8) (C9 := C9) (C11 := C11 hr) (hrem := hr) (u0 := u0) (u1 := u1) (u2 := u2) (u3 := u3) (u4 := u4) (u6 := by omega) (hN0 := hN0) (p1 := p1) (t0 := t0) (t1 := t1) (t2 := t2) (t3 := t3)
   ·exact ydec_short_neg01 (w := w) (hs := hs) (hK := hK) (hN := hN) (Z1 := Z1) (Z2 := Z2) (C3 := C3) (C4 := C4) (C5 := C5) (C6 := C6) (C7 := C7) (C8 := C8) (C9 := C9) (C10 := C10) (C11 := C12 hr) (hrem := hr) (u0 := u0) (u1 := u1) (u2 := u2) (u3 := u3) (u4 := u4) (u6 := by omega) (hN0 := hN0) (p1 := p1) (t0 := t0) (t1 := t1) (t2 := t2) (t3 := t3)
  ·obtain rfl : U = (bd : Int) - ba + 70 := by omega
   have u4 : decide ((bd : Int) - ba + 70 < 0) = false := decide_eq_false hU0
   have u5 : wrap64 (-((bd : Int) - ba + 70)) = -((bd : Int) - ba + 70) := by unfold wrap64; omega
   have u6 : wrap64 (-((bd : Int) - ba + 70) - 1) = -((bd : Int) - ba + 70) - 1 := by unfold wrap64; omega
   by_cases hr : M % D = 0
   ·exact ydec_short_neg10 (w := w) (hs := hs) (hK := hK) (hN := hN) (Z1 := Z1) (Z2 := Z2) (C3 := C3) (C4 := C4) (C5 := C5) (C6 := C6) (C7 := C7) (C8 := C8) (C9 := C9) (C11 := C11 hr) (hrem := hr) (u0 := u0) (u1 := u1) (u2 := u2) (u3 := u3) (u4 := u4) (u5 := u5) (u6 := u6) (hN0 := hN0) (p1 := p1) (t0 := t0) (t1 := t1) (t2 := t2) (t3 := t3)
   ·exact ydec_short_neg11 (w := w) (hs := hs) (hK := hK) (hN := hN) (Z1 := Z1) (Z2 := Z2) (C3 := C3) (C4 := C4) (C5 := C5) (C6 := C6) (C7 := C7) (C8 := C8) (C9 := C9) (C10 := C10) (C11 := C12 hr) (hrem := hr) (u0 := u0) (u1 := u1) (u2 := u2) (u3 := u3) (u4 := u4) (u5 := u5) (u6 := u6) (hN0 := hN0) (p1 := p1) (t0 := t0) (t1 := t1) (t2 := t2) (t3 := t3)
theorem ydec_longn (s : ByteArray) (K N : Nat) (X P : Int) (m : Nat) (g : ByteArray) (y1 : Int) (E : Int) (w : World) (hs : s.size ≤ 281474976710656) (hK : K ≤ s.size) (hN : s.size - K = N)
  (Z1 : Hid (∀ k (h : k < s.size), k < K → (s[k]'h).toNat = 48)) (Z2 : Hid (∀ h : K < s.size, (s[K]'h).toNat ≠ 48))
  (hN0 : 0 < N) (p1 : wrap64 ((N : Int) + X) = P) (t0 : ((N : Int) == 0) = false) (t1 : decide (400 < P) = false) (t2 : decide (P < -400) = false) (t3 : decide (820 < (N : Int)) = true)
  (hg : s.extract K s.size = g) (hgN : g.size = N) (hN8 : 820 < N) (hrb : ((bl g).drop 810).any (· != 48) = false)
  (q0 : wrap64 (X + (N : Int)) = y1) (q1 : wrap64 (y1 - 810) = E)
  (C3 : Hid (∀ W, Cp 165 #[.string (g.extract 0 810), .int .i64 10] W (NOk m W))) (h0 : 0 < m) (hb : bln m ≤ 3300) (hE1 : -1300 ≤ E) (hE2 : E ≤ 1300) :
  Ct 104 #[.string s, .int .i64 X] (.float .f64 (decR m E)) w := by
 by_cases hp : 0 ≤ E
 ·obtain ⟨k, rfl⟩ : ∃ k : Nat, E = k := ⟨E.toNat, by omega⟩
  obtain ⟨D, M, C4, C5, C6⟩ := ypos_pack m k hb (by omega)
  exact ydec_longn_pos (w := w) (hs := hs) (hK := hK) (hN := hN) (Z1 := Z1) (Z2 := Z2) (C3 := C3) (C4 := C4) (C5 := C5) (C6 := C6) (u0 := decide_eq_true hp) (hN0 := hN0) (p1 := p1) (t0 := t0) (t1 := t1) (t2 := t2) (t3 := t3) (hg := hg) (hgN := hgN) (hN8 := hN8) (hrb := hrb) (q0 := q0) (q1 := q1)
 ·obtain ⟨k, rfl⟩ : ∃ k : Nat, E = -(k : Int) := ⟨(-E).toNat, by omega⟩
  obtain ⟨D, M, bd, ba, U, hU, e1, e2, C4, C5, C6, C7, C8, C9, C10, C11, C12⟩ := yneg_pack m k h0 hb (by omega)
  rw [show (k : Int) = -(-(k : Int)) by omega] at C4
  have u0 : decide (0 ≤ -(k : Int)) = false := decide_eq_false hp
  have u1 : wrap64 (- -(k : Int)) = - -(k : Int) := by unfold wrap64; omega
  have u2 : wrap64 ((bd : Int) - (ba : Int)) = (bd : Int) - ba := by unfold wrap64; omega
  have u3 : wrap64 ((bd : Int) - ba + 70) = (bd : Int) - ba + 70 := by unfold wrap64; omega
  by_cases hU0 : (bd : Int) - ba + 70 < 0
  ·obtain rfl : U = 0 := by omega
   have u4 : decide ((bd : Int) - ba + 70 < 0) = true := decide_eq_true hU0
   by_cases hr : M % D = 0
   ·exact ydec_longn_neg00 (w := w) (hs := hs) (hK := hK) (hN := hN) (Z1 := Z1) (Z2 := Z2) (C3 := C3) (C4 := C4) (C5 := C5) (C6 := C6) (C7 := C7) (C8 := C8) (C9 := C9) (C11 := C11 hr) (hrem := hr) (u0 := u0) (u1 := u1) (u2 := u2) (u3 := u3) (u4 := u4) (u6 := by omega) (hN0 := hN0) (p1 := p1) (t0 := t0) (t1 := t1) (t2 := t2) (t3 := t3) (hg := hg) (hgN := hgN) (hN8 := hN8) (hrb := hrb) (q0 := q0) (q1 := q1)
   ·exact ydec_longn_neg01 (w := w) (hs := hs) (hK := hK) (hN := hN) (Z1 := Z1) (Z2 := Z2) (C3 := C3) (C4 := C4) (C5 := C5) (C6 := C6) (C7 := C7) (C8 := C8) (C9 := C9) (C10 := C10) (C11 := C12 hr) (hrem := hr) (u0 := u0) (u1 := u1) (u2 := u2) (u3 := u3) (u4 := u4) (u6 := by omega) (hN0 := hN0) (p1 := p1) (t0 := t0) (t1 := t1) (t2 := t2) (t3 := t3) (hg := hg) (hgN := hgN) (hN8 := hN8) (hrb := hrb) (q0 := q0) (q1 := q1)
  ·obtain rfl : U = (bd : Int) - ba + 70 := by omega
   have u4 : decide ((bd : Int) - ba + 70 < 0) = false := decide_eq_false hU0
   have u5 : wrap64 (-((bd : Int) - ba + 70)) = -((bd : Int) - ba + 70) := by unfold wrap64; omega
   have u6 : wrap64 (-((bd : Int) - ba + 70) - 1) = -((bd : Int) - ba + 70) - 1 := by unfold wrap64; omega
   by_cases hr : M % D = 0
   ·exact ydec_longn_neg10 (w := w) (hs := hs) (hK := hK) (hN := hN) (Z1 := Z1) (Z2 := Z2) (C3 := C3) (C4 := C4) (C5 := C5) (C6 := C6) (C7 := C7) (C8 := C8) (C9 := C9) (C11 := C11 hr) (hrem := hr) (u0 := u0) (u1 := u1) (u2 := u2) (u3 := u3) (u4 := u4) (u5 := u5) (u6 := u6) (hN0 := hN0) (p1 := p1) (t0 := t0) (t1 := t1) (t2 := t2) (t3 := t3) (hg := hg) (hgN := hgN) (hN8 := hN8) (hrb := hrb) (q0 := q0) (q1 := q1)
   ·exact ydec_longn_neg11 (w := w) (hs := hs) (hK := hK) (hN := hN) (Z1 := Z1) (Z2 := Z2) (C3 := C3) (C4 := C4) (C5 := C5) (C6 := C6) (C7 := C7) (C8 := C8) (C9 := C9) (C10 := C10) (C11 := C12 hr) (hrem := hr) (u0 := u0) (u1 := u1) (u2 := u2) (u3 := u3) (u4 := u4) (u5 := u5) (u6 := u6) (hN0 := hN0) (p1 := p1) (t0 := t0) (t1 := t1) (t2 := t2) (t3 := t3) (hg := hg) (hgN := hgN) (hN8 := hN8) (hrb := hrb) (q0 := q0) (q1 := q1)
theorem ydec_longr (s : ByteArray) (K N : Nat) (X P : Int) (m : Nat) (g : ByteArray) (y1 y2 : Int) (E : Int) (w : World) (hs : s.size ≤ 281474976710656) (hK : K ≤ s.size) (hN : s.size - K = N)
  (Z1 : Hid (∀ k (h : k < s.size), k < K → (s[k]'h).toNat = 48)) (Z2 : Hid (∀ h : K < s.size, (s[K]'h).toNat ≠ 48))
  (hN0 : 0 < N) (p1 : wrap64 ((N : Int) + X) = P) (t0 : ((N : Int) == 0) = false) (t1 : decide (400 < P) = false) (t2 : decide (P < -400) = false) (t3 : decide (820 < (N : Int)) = true)
  (hg : s.extract K s.size = g) (hgN : g.size = N) (hN8 : 820 < N) (hrb : ((bl g).drop 810).any (· != 48) = true)
  (q0 : wrap64 (X + (N : Int)) = y1) (q1 : wrap64 (y1 - 810) = y2) (q2 : wrap64 (y2 - 1) = E) (q3 : ¬ 9223372036854775807 < (g.extract 0 810).size + 1)
  (C3 : Hid (∀ W, Cp 165 #[.string (g.extract 0 810 ++ ⟨#[49]⟩), .int .i64 10] W (NOk m W))) (h0 : 0 < m) (hb : bln m ≤ 3300) (hE1 : -1300 ≤ E) (hE2 : E ≤ 1300) :
  Ct 104 #[.string s, .int .i64 X] (.float .f64 (decR m E)) w := by
 by_cases hp : 0 ≤ E
 ·obtain ⟨k, rfl⟩ : ∃ k : Nat, E = k := ⟨E.toNat, by omega⟩
  obtain ⟨D, M, C4, C5, C6⟩ := ypos_pack m k hb (by omega)
  exact ydec_longr_pos (w := w) (hs := hs) (hK := hK) (hN := hN) (Z1 := Z1) (Z2 := Z2) (C3 := C3) (C4 := C4) (C5 := C5) (C6 := C6) (u0 := decide_eq_true hp) (hN0 := hN0) (p1 := p1) (t0 := t0) (t1 := t1) (t2 := t2) (t3 := t3) (hg := hg) (hgN := hgN) (hN8 := hN8) (hrb := hrb) (q0 := q0) (q1 := q1) (q2 := q2) (_q3 := q3)
 ·obtain ⟨k, rfl⟩ : ∃ k : Nat, E = -(k : Int) := ⟨(-E).toNat, by omega⟩
  obtain ⟨D, M, bd, ba, U, hU, e1, e2, C4, C5, C6, C7, C8, C9, C10, C11, C12⟩ := yneg_pack m k h0 hb (by omega)
  rw [show (k : Int) = -(-(k : Int)) by omega] at C4
  have u0 : decide (0 ≤ -(k : Int)) = false := decide_eq_false hp
  have u1 : wrap64 (- -(k : Int)) = - -(k : Int) := by unfold wrap64; omega
  have u2 : wrap64 ((bd : Int) - (ba : Int)) = (bd : Int) - ba := by unfold wrap64; omega
  have u3 : wrap64 ((bd : Int) - ba + 70) = (bd : Int) - ba + 70 := by unfold wrap64; omega
  by_cases hU0 : (bd : Int) - ba + 70 < 0
  ·obtain rfl : U = 0 := by omega
   have u4 : decide ((bd : Int) - ba + 70 < 0) = true := decide_eq_true hU0
   by_cases hr : M % D = 0
   ·exact ydec_longr_neg00 (w := w) (hs := hs) (hK := hK) (hN := hN) (Z1 := Z1) (Z2 := Z2) (C3 := C3) (C4 := C4) (C5 := C5) (C6 := C6) (C7 := C7) (C8 := C8) (C9 := C9) (C11 := C11 hr) (hrem := hr) (u0 := u0) (u1 := u1) (u2 := u2) (u3 := u3) (u4 := u4) (u6 := by omega) (hN0 := hN0) (p1 := p1) (t0 := t0) (t1 := t1) (t2 := t2) (t3 := t3) (hg := hg) (hgN := hgN) (hN8 := hN8) (hrb := hrb) (q0 := q0) (q1 := q1) (q2 := q2) (_q3 := q3)
   ·exact ydec_longr_neg01 (w := w) (hs := hs) (hK := hK) (hN := hN) (Z1 := Z1) (Z2 := Z2) (C3 := C3) (C4 := C4) (C5 := C5) (C6 := C6) (C7 := C7) (C8 := C8) (C9 := C9) (C10 := C10) (C11 := C12 hr) (hrem := hr) (u0 := u0) (u1 := u1) (u2 := u2) (u3 := u3) (u4 := u4) (u6 := by omega) (hN0 := hN0) (p1 := p1) (t0 := t0) (t1 := t1) (t2 := t2) (t3 := t3) (hg := hg) (hgN := hgN) (hN8 := hN8) (hrb := hrb) (q0 := q0) (q1 := q1) (q2 := q2) (_q3 := q3)
  ·obtain rfl : U = (bd : Int) - ba + 70 := by omega
   have u4 : decide ((bd : Int) - ba + 70 < 0) = false := decide_eq_false hU0
   have u5 : wrap64 (-((bd : Int) - ba + 70)) = -((bd : Int) - ba + 70) := by unfold wrap64; omega
   have u6 : wrap64 (-((bd : Int) - ba + 70) - 1) = -((bd : Int) - ba + 70) - 1 := by unfold wrap64; omega
   by_cases hr : M % D = 0
   ·exact ydec_longr_neg10 (w := w) (hs := hs) (hK := hK) (hN := hN) (Z1 := Z1) (Z2 := Z2) (C3 := C3) (C4 := C4) (C5 := C5) (C6 := C6) (C7 := C7) (C8 := C8) (C9 := C9) (C11 := C11 hr) (hrem := hr) (u0 := u0) (u1 := u1) (u2 := u2) (u3 := u3) (u4 := u4) (u5 := u5) (u6 := u6) (hN0 := hN0) (p1 := p1) (t0 := t0) (t1 := t1) (t2 := t2) (t3 := t3) (hg := hg) (hgN := hgN) (hN8 := hN8) (hrb := hrb) (q0 := q0) (q1 := q1) (q2 := q2) (_q3 := q3)
   ·exact ydec_longr_neg11 (w := w) (hs := hs) (hK := hK) (hN := hN) (Z1 := Z1) (Z2 := Z2) (C3 := C3) (C4 := C4) (C5 := C5) (C6 := C6) (C7 := C7) (C8 := C8) (C9 := C9) (C10 := C10) (C11 := C12 hr) (hrem := hr) (u0 := u0) (u1 := u1) (u2 := u2) (u3 := u3) (u4 := u4) (u5 := u5) (u6 := u6) (hN0 := hN0) (p1 := p1) (t0 := t0) (t1 := t1) (t2 := t2) (t3 := t3) (hg := hg) (hgN := hgN) (hN8 := hN8) (hrb := hrb) (q0 := q0) (q1 := q1) (q2 := q2) (_q3 := q3)
theorem rparse_dec (l : List Nat) (w : World) (hd : ∀ c ∈ l, dg10 c = true) (h0 : l ≠ []) (hl : l.length ≤ 820) : Cp 165 #[.string (strOf l), .int .i64 10] w (NOk (num 10 l) w) := by
 have hb := bl_strOf (dg_byte hd)
 have hz := strOf_size l
 have hp : 0 < l.length := List.length_pos_iff.2 h0
 have h := rparse_ok (strOf l) 10 w (by omega) (by omega) (by omega) (fun i hi => by
  rw [btn_bl _ _ hi, hb, List.getD_eq_getElem?_getD, List.getElem?_eq_getElem (by omega)]
  exact (dgt_ten (hd _ (List.getElem_mem _))).2) (by omega)
 rw [sv_num, hb] at h
 refine h.mono fun e w' x => NOk.of (lng_bln ?_) x
 have h1 := num_hi hd
 have h2 := bln_mono (Nat.le_of_lt h1)
 have h3 := bln_ten l.length
 omega
theorem bln_dec2 {l : List Nat} (hd : ∀ c ∈ l, dg10 c = true) (hl : l.length ≤ 820) : bln (num 10 l) ≤ 3300 := by
 have h2 := bln_mono (Nat.le_of_lt (num_hi hd))
 have h3 := bln_ten l.length
 omega
theorem ldz_drop (f : List Nat) : f.drop (f.length - (ldz f).length) = ldz f := by
 obtain ⟨z, hz⟩ := dropWhile_zeros f
 have hz' : f = List.replicate z 48 ++ ldz f := hz
 have hl := congrArg List.length hz'
 rw [List.length_append, List.length_replicate] at hl
 rw [show f.length - (ldz f).length = z by omega]
 conv => lhs; rw [hz']
 rw [List.drop_append, List.drop_of_length_le (by simp)]
 simp
theorem ldz_ahead (f : List Nat) (k : Nat) (h : k < f.length - (ldz f).length) : f[k]? = some 48 := by
 obtain ⟨z, hz⟩ := dropWhile_zeros f
 have hz' : f = List.replicate z 48 ++ ldz f := hz
 have hl := congrArg List.length hz'
 rw [List.length_append, List.length_replicate] at hl
 rw [hz', List.getElem?_append_left (by rw [List.length_replicate]; omega), List.getElem?_replicate, if_pos (by omega)]
theorem ydecimal_any (f : List Nat) (X : Int) (w : World) (hd : ∀ c ∈ f, dg10 c = true) (hl : f.length ≤ 281474976710656) (hX : -1125899906842624 < X ∧ X < 1125899906842624) :
  Ct 104 #[.string (strOf f), .int .i64 X] (.float .f64 (decR (num 10 f) X)) w := by
 have hb := bl_strOf (dg_byte hd)
 have hz := strOf_size f
 have hg : ∀ c ∈ ldz f, dg10 c = true := fun c hc => hd c (ldz_mem hc)
 have hgl : (ldz f).length ≤ f.length := (List.dropWhile_sublist _).length_le
 have hdr := ldz_drop f
 have hex : (strOf f).extract (f.length - (ldz f).length) (strOf f).size = strOf (ldz f) := by rw [ext_drop, hb, hdr]
 have hnum : num 10 (ldz f) = num 10 f := num_lead 10 f
 have Z1 : Hid (∀ k (h : k < (strOf f).size), k < f.length - (ldz f).length → ((strOf f)[k]'h).toNat = 48) := Lib.hid (fun k h hk => by
  have h1 := bl_get (strOf f) k h
  rw [hb, ldz_ahead f k hk] at h1
  exact (Option.some.inj h1).symm)
 have Z2 : Hid (∀ h : f.length - (ldz f).length < (strOf f).size, ((strOf f)[f.length - (ldz f).length]'h).toNat ≠ 48) := Lib.hid (fun h e => by
  have h1 := bl_get (strOf f) _ h
  rw [hb, e] at h1
  have h2 : (f.drop (f.length - (ldz f).length)).head? = some 48 := by rw [List.head?_drop]; exact h1
  rw [hdr] at h2
  exact lead_head f h2)
 obtain ⟨N, hN⟩ : ∃ N, (ldz f).length = N := ⟨_, rfl⟩
 obtain ⟨K, hK⟩ : ∃ K, f.length - (ldz f).length = K := ⟨_, rfl⟩
 rw [hK] at hex Z1 Z2
 have a1 : (strOf f).size ≤ 281474976710656 := by omega
 have a2 : K ≤ (strOf f).size := by omega
 have a3 : (strOf f).size - K = N := by omega
 by_cases h0 : N = 0
 ·have : ldz f = [] := List.length_eq_zero_iff.1 (by omega)
  rw [show decR (num 10 f) X = 0 by rw [← hnum, this, num_nil, decR_zero]]
  exact ydec_none (strOf f) K N X w a1 a2 a3 Z1 Z2 h0
 ·have hne : ldz f ≠ [] := fun e => h0 (by rw [← hN, e]; rfl)
  have p1 : wrap64 ((N : Int) + X) = (N : Int) + X := by unfold wrap64; omega
  have t0 : ((N : Int) == 0) = false := by rw [beq_eq_false_iff_ne]; omega
  by_cases h1 : 400 < (N : Int) + X
  ·rw [rway_high hd hne (by omega)]
   exact ydec_high (strOf f) K N X _ w a1 a2 a3 Z1 Z2 (by omega) p1 t0 (decide_eq_true h1)
  ·by_cases h2 : (N : Int) + X < -400
   ·rw [← hnum, decR_tiny (num_hi hg) (by omega)]
    exact ydec_low (strOf f) K N X _ w a1 a2 a3 Z1 Z2 (by omega) p1 t0 (decide_eq_false h1) (decide_eq_true h2)
   ·by_cases h3 : 820 < (N : Int)
    ·have hlen : (strOf (ldz f)).size = N := by rw [strOf_size, hN]
     have hbg := bl_strOf (dg_byte hg)
     have q0 : wrap64 (X + (N : Int)) = X + N := by unfold wrap64; omega
     have hlt : ((ldz f).take 810).length = 810 := by rw [List.length_take]; omega
     have htd : ∀ c ∈ (ldz f).take 810, dg10 c = true := fun c hc => hg c (List.mem_of_mem_take hc)
     have ht0 : (ldz f).take 810 ≠ [] := fun e => by rw [e] at hlt; simp at hlt
     have hth : ((ldz f).take 810).head? ≠ some 48 := by rw [head_take (by omega)]; exact lead_head f
     have hx8 : (strOf (ldz f)).extract 0 810 = strOf ((ldz f).take 810) := by rw [ext_take, hbg]
     cases hrb : ((ldz f).drop 810).any (· != 48)
     ·have hc : ∀ c ∈ (ldz f).drop 810, c = 48 := fun c hc => by
       have := List.any_eq_false.1 hrb c hc
       simpa using this
      rw [rway_none hc, hN, show X + ((N - 810 : Nat) : Int) = X + N - 810 by omega]
      have C3 : Hid (∀ W, Cp 165 #[.string ((strOf (ldz f)).extract 0 810), .int .i64 10] W (NOk (num 10 ((ldz f).take 810)) W)) := Lib.hid (fun W => by
       rw [hx8]
       exact rparse_dec _ W htd ht0 (by omega))
      exact ydec_longn (strOf f) K N X _ (num 10 ((ldz f).take 810)) (strOf (ldz f)) (X + N) (X + N - 810) w a1 a2 a3 Z1 Z2 (by omega) p1 t0 (decide_eq_false h1) (decide_eq_false h2) (decide_eq_true h3) hex hlen (by omega) (by rw [hbg]; exact hrb) q0 (by unfold wrap64; omega) C3
       (Nat.lt_of_lt_of_le (ten_pos _) (num_lo htd ht0 hth)) (bln_dec2 htd (by omega)) (by omega) (by omega)
     ·obtain ⟨c, hc1, hc2⟩ := List.any_eq_true.1 hrb
      rw [rway_some hd (by omega) (by omega) ⟨c, hc1, by simpa using hc2⟩, hN, show X + ((N - 810 : Nat) : Int) - 1 = X + N - 810 - 1 by omega]
      obtain ⟨l, hl2⟩ : ∃ l, (ldz f).take 810 ++ [49] = l := ⟨_, rfl⟩
      have ll : l.length = 811 := by rw [← hl2, List.length_append, hlt]; rfl
      have ld : ∀ c ∈ l, dg10 c = true := by
       intro c hc
       rw [← hl2] at hc
       rcases List.mem_append.1 hc with h | h
       ·exact htd c h
       ·rw [List.mem_singleton.1 h]; rfl
      have l0 : l ≠ [] := fun e => by rw [e] at ll; simp at ll
      have lh : l.head? ≠ some 48 := by
       rw [← hl2]
       cases ht : (ldz f).take 810 with
       | nil => exact absurd ht ht0
       | cons a b =>
        rw [ht] at hth
        exact hth
      have hstr : (strOf (ldz f)).extract 0 810 ++ (⟨#[49]⟩ : ByteArray) = strOf l := by
       rw [hx8, ← hl2, ← strOf_append]
       rfl
      rw [hl2]
      have C3 : Hid (∀ W, Cp 165 #[.string ((strOf (ldz f)).extract 0 810 ++ ⟨#[49]⟩), .int .i64 10] W (NOk (num 10 l) W)) := Lib.hid (fun W => by
       rw [hstr]
       exact rparse_dec _ W ld l0 (by omega))
      exact ydec_longr (strOf f) K N X _ (num 10 l) (strOf (ldz f)) (X + N) (X + N - 810) (X + N - 810 - 1) w a1 a2 a3 Z1 Z2 (by omega) p1 t0 (decide_eq_false h1) (decide_eq_false h2) (decide_eq_true h3) hex hlen (by omega) (by rw [hbg]; exact hrb) q0 (by unfold wrap64; omega) (by unfold wrap64; omega) (by rw [hx8, strOf_size]; omega) C3
       (Nat.lt_of_lt_of_le (ten_pos _) (num_lo ld l0 lh)) (bln_dec2 ld (by omega)) (by omega) (by omega)
    ·rw [← hnum]
     have C3 : Hid (∀ W, Cp 165 #[.string ((strOf f).extract K (strOf f).size), .int .i64 10] W (NOk (num 10 (ldz f)) W)) := Lib.hid (fun W => by
      rw [hex]
      exact rparse_dec _ W hg hne (by omega))
     exact ydec_short (strOf f) K N X _ (num 10 (ldz f)) w a1 a2 a3 Z1 Z2 (by omega) p1 t0 (decide_eq_false h1) (decide_eq_false h2) (decide_eq_false h3) C3
      (Nat.lt_of_lt_of_le (ten_pos _) (num_lo hg hne (lead_head f))) (bln_dec2 hg (by omega)) (by omega) (by omega)

end Go.Proofs.YtfcpkdafkmohkaaGreatDoor
namespace Go.Proofs.YtfcpkdafkmohkaaGreatDoor
open Go.RowKit
def negW (r : Nat) : Nat := Op.negFloat .f64 r
end Go.Proofs.YtfcpkdafkmohkaaGreatDoor
namespace Go.Proofs.YtfcpkdafkmohkaaGreatDoor
open Go.RowKit
theorem negW_eq {r : Nat} (h : r < 9223372036854775808) : negW r = sgW true r := by
 have key : r ^^^ 9223372036854775808 = 2 ^ 63 * 1 + r := by
  rw [show (9223372036854775808 : Nat) = 2 ^ 63 from rfl] at h ⊢
  apply Nat.eq_of_testBit_eq
  intro j
  rw [Nat.testBit_xor, Nat.testBit_two_pow, Nat.testBit_two_pow_mul_add _ h]
  by_cases hj : j < 63
  ·rw [if_pos hj, decide_eq_false (by omega), Bool.xor_false]
  ·rw [if_neg hj]
   obtain ⟨i, rfl⟩ : ∃ i, j = 63 + i := ⟨j - 63, by omega⟩
   rw [Nat.add_sub_cancel_left, Nat.testBit_lt_two_pow (Nat.lt_of_lt_of_le h (Nat.pow_le_pow_right (by omega) (by omega)))]
   cases i with
   | zero => rfl
   | succ i => rw [decide_eq_false (by omega)]; simp [Nat.testBit_succ]
 exact key
end Go.Proofs.YtfcpkdafkmohkaaGreatDoor
namespace Go.Proofs.YtfcpkdafkmohkaaGreatDoor
open Go.RowKit
theorem sgW_f (r : Nat) : sgW false r = r := rfl
end Go.Proofs.YtfcpkdafkmohkaaGreatDoor
