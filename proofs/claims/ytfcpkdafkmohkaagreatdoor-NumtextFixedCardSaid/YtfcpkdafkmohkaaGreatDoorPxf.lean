/-
  Merged texts (Tg, Th, Ti, Tk, Tl, Tm, Tn, To, Tr, Vc, Vd, Ve, Vf, Vn, Vo, Vv, Lk, Lp, Ye, Yf, Zd).
-/
import Derived.Test.YtfcpkdafkmohkaaGreatDoorPxe
import Derived.Shelf.Strings.SlTrimAscii
import Derived.Shelf.Strings.Builder1
import Derived.Shelf.Strings.Builder2
import Derived.Shelf.Strings.OnBuilder
import Derived.Shelf.Strings.Trim
import Derived.Shelf.Small.Utf8
import Derived.Shelf.Small.Bits
import Derived.Shelf.Small.Strs
import Derived.Shelf.Small.Wraps
import Derived.Shelf.Strings.BuilderF
import Derived.Shelf.Strings.BuilderK
import Derived.Shelf.Strconv.Itoa0
import Derived.Shelf.Strconv.Itoa1
import Derived.Shelf.LaysM
import Derived.Shelf.Strconv.Itoa2
import Derived.Shelf.Strconv.Itoa3
import Derived.Shelf.Strings.Search1
import Derived.Shelf.Strings.Prefix
import Derived.Shelf.Unicode.Latin
import Derived.Shelf.Strings.Runes
import Derived.Shelf.Strings.AsciiSet
import Derived.Shelf.Bits.Mul64
import Derived.Shelf.Strings.Repeat
import Derived.Shelf.Unicode.DecodeSlow
import Derived.Shelf.Unicode.CaseLookup
import Derived.Shelf.Unicode.CaseConvert
import Derived.Shelf.Unicode.CaseTo
import Derived.Shelf.Unicode.CaseLaid
import Derived.Test.YtfcpkdafkmohkaaGreatDoorProg
import GoSem.Core.Utf8
import Derived.WalkKit
import Derived.WalkSpells
import Derived.WalkLawsBesides
import Derived.Deep.QuietTactic
import Derived.BigQuiet
import Derived.Lib.Hide
import Derived.Deep.OwnRows
import Derived.Laws.CopyOwn
import Derived.Deep.AppendLies
import Derived.Lib.BitFns
import Derived.Lib.Strings
import Derived.Laws.BitsAllLaws
import Derived.Lib.LaidTab
import Derived.ProofKit
import Derived.OpenShut
import Derived.SizedLaws
import Derived.Laws.BytesString
import Derived.Laws.Cells
import Derived.Deep.RegionWith
import Derived.BigRegion
import Derived.Test.YtfcpkdafkmohkaaGreatDoorRows
import Derived.Lib.ItoaNum
import Derived.Deep.DeepCutAuto
import Ieee.Arith
import GoSem.Core.Float
import Derived.Laws.FloatArith
import Derived.Laws.Externs
import Derived.Deep.RegionHeld3
import Derived.Laws.Closers25b
import Derived.Lib.SlTrimSet
import Derived.Lib.Case
import Derived.Deep.WholeRow
import Derived.Laws.Tables
import Derived.Laws.EntriesVeiled
import Derived.Lib.AppendIntMem
namespace Go.Proofs.YtfcpkdafkmohkaaGreatDoor
open Go.RowKit
theorem fmag_mono {r s : Nat} (h : fmag r ≤ fmag s) : r ≤ s := by
 rcases Nat.lt_or_ge s r with h1 | h1
 ·have := fmag_step h1
  omega
 ·exact h1
theorem Ld_make2 {E D : Nat} {e' : Int} (hE : E ≤ 9007199254740992) (hD : D = 0 ∨ 4503599627370496 ≤ E) (hD2 : D ≤ 8000) (he : e' = (D : Int) - 1074) (w : World) : Cq 206 #[.float .f64 (fl E), .int .i64 e'] (.float .f64 (min (D * 4503599627370496 + E) 9218868437227405312)) w := by
 rcases Nat.lt_or_ge 2045 D with h | h
 ·obtain ⟨K, hK⟩ : ∃ K : Nat, K = 1074 := ⟨_, rfl⟩
  obtain ⟨y1, y2⟩ := fl_upto hE hK
  have hE2 : 4503599627370496 ≤ E := hD.resolve_left (by omega)
  have e1 := fmag_make 4503599627370496 K (by omega) (by omega)
  have h3 : K * 4503599627370496 + 4503599627370496 ≤ fl E := by
   refine fmag_mono ?_
   rw [e1, y2]
   exact Nat.mul_le_mul_right _ hE2
  have h4 := ldexp_any (fl E) (D - 1074) w (by omega) y1 (by omega)
  have h5 : scl (fl E) (D - 1074) = 9218868437227405312 := by
   unfold scl
   rw [if_neg]
   have : K + 1 ≤ fl E / 4503599627370496 := by
    rw [Nat.le_div_iff_mul_le (by omega)]
    omega
   omega
  rw [h5] at h4
  rw [show e' = ((D - 1074 : Nat) : Int) by omega, Nat.min_eq_right (by omega)]
  exact h4
 ·exact Ld_make hE hD h he w
set_option maxRecDepth 100000 in
set_option maxHeartbeats 1000000 in
theorem trounded_a (n d L q H P r s E F : Nat) (two X : Int) (w : World) (hnb : n < 18446744073709551616) (hL : Lib.bitLen n = L) (hd0 : 1 ≤ d) (hd3 : d ≤ 10) (k1 : IntKind.i64.wrap (-1074 - two) = -1074 - two) (k2 : IntKind.i64.wrap ((L : Int) - 53) = (L : Int) - 53) (hd : max ((L : Int) - 53) (-1074 - two) = (d : Int))
  (q1 : (n : Int) / 2 ^ d = (q : Int)) (q2 : IntKind.u64.wrap (2 ^ d) = (P : Int)) (q3 : IntKind.u64.wrap ((P : Int) - 1) = (P : Int) - 1) (q4 : IntKind.u64.wrap (2 ^ (d - 1)) = (H : Int)) (q5 : bits BinOp.and IntKind.u64 (n : Int) ((P : Int) - 1) = (r : Int)) (q6 : bits BinOp.and IntKind.u64 (q : Int) 1 = (s : Int)) (q7 : IntKind.u64.wrap ((q : Int) + 1) = (q : Int) + 1) (q8 : wrap64 (two + (d : Int)) = X)
  (t1 : decide (H < r) = true) (hE : (q : Int) + 1 = (E : Int))
  (C2 : Hid (∀ W, Cq 206 #[.float .f64 (floatOfInt .f64 (E : Int)), .int .i64 X] (.float .f64 F) W)) :
  Ct 199 #[.int .u64 n, .int .i64 two] (.float .f64 F) w := by
 have C1 := Lib.hid (fun W => (Tryz.bits_Len64 (n : Int) W (by omega) (by omega)).mono fun e w' h => And.intro h.1 h.2.symm)
 rw [Int.toNat_natCast, hL] at C1
 have k3 : (0 : Int) ≤ (d : Int) := by omega
 have k4 : (0 : Int) ≤ (d : Int) - 1 := by omega
 rw [← hE] at C2
 have Q1 := Lib.hid q1
 have Q2 := Lib.hid q2
 have Q3 := Lib.hid q3
 have Q4 := Lib.hid q4
 have Q5 := Lib.hid q5
 have Q6 := Lib.hid q6
 have Q7 := Lib.hid q7
 have Q8 := Lib.hid q8
 have T1 := Lib.hid t1
 clear t1 hL hnb hE q1 q2 q3 q4 q5 q6 q7 q8
 go_enter Tryz.func199, Tryz.ntmps199
 go_wp2_with fail
 refine (C1.out _).mono ?_
 rintro e w' ⟨rfl, rfl⟩
 go_wp2
 go_quiet (fail)
 have q1 := Q1.out
 have q2 := Q2.out
 have q3 := Q3.out
 have q4 := Q4.out
 have q5 := Q5.out
 have q6 := Q6.out
 have q7 := Q7.out
 have q8 := Q8.out
 have t1 := T1.out
 go_wp2_with fail
 refine (C2.out _).mono ?_
 rintro e w' ⟨rfl, rfl⟩
 go_wp2
 go_ret
 exact ⟨rfl, below_drewN' (Below.refl _ _) _⟩
set_option maxRecDepth 100000 in
set_option maxHeartbeats 1000000 in
theorem trounded_b (n d L q H P s E F : Nat) (two X : Int) (w : World) (hnb : n < 18446744073709551616) (hL : Lib.bitLen n = L) (hd0 : 1 ≤ d) (hd3 : d ≤ 10) (k1 : IntKind.i64.wrap (-1074 - two) = -1074 - two) (k2 : IntKind.i64.wrap ((L : Int) - 53) = (L : Int) - 53) (hd : max ((L : Int) - 53) (-1074 - two) = (d : Int))
  (q1 : (n : Int) / 2 ^ d = (q : Int)) (q2 : IntKind.u64.wrap (2 ^ d) = (P : Int)) (q3 : IntKind.u64.wrap ((P : Int) - 1) = (P : Int) - 1) (q4 : IntKind.u64.wrap (2 ^ (d - 1)) = (H : Int)) (q5 : bits BinOp.and IntKind.u64 (n : Int) ((P : Int) - 1) = (H : Int)) (q6 : bits BinOp.and IntKind.u64 (q : Int) 1 = (s : Int)) (q7 : IntKind.u64.wrap ((q : Int) + 1) = (q : Int) + 1) (q8 : wrap64 (two + (d : Int)) = X)
  (t3 : ((s : Int) == 1) = true) (hE : (q : Int) + 1 = (E : Int))
  (C2 : Hid (∀ W, Cq 206 #[.float .f64 (floatOfInt .f64 (E : Int)), .int .i64 X] (.float .f64 F) W)) :
  Ct 199 #[.int .u64 n, .int .i64 two] (.float .f64 F) w := by
 have C1 := Lib.hid (fun W => (Tryz.bits_Len64 (n : Int) W (by omega) (by omega)).mono fun e w' h => And.intro h.1 h.2.symm)
 rw [Int.toNat_natCast, hL] at C1
 have k3 : (0 : Int) ≤ (d : Int) := by omega
 have k4 : (0 : Int) ≤ (d : Int) - 1 := by omega
 rw [← hE] at C2
 have Q1 := Lib.hid q1
 have Q2 := Lib.hid q2
 have Q3 := Lib.hid q3
 have Q4 := Lib.hid q4
 have Q5 := Lib.hid q5
 have Q6 := Lib.hid q6
 have Q7 := Lib.hid q7
 have Q8 := Lib.hid q8
 have T3 := Lib.hid t3
 clear t3 hL hnb hE q1 q2 q3 q4 q5 q6 q7 q8
 go_enter Tryz.func199, Tryz.ntmps199
 go_wp2_with fail
 refine (C1.out _).mono ?_
 rintro e w' ⟨rfl, rfl⟩
 go_wp2
 go_quiet (fail)
 have q1 := Q1.out
 have q2 := Q2.out
 have q3 := Q3.out
 have q4 := Q4.out
 have q5 := Q5.out
 have q6 := Q6.out
 have q7 := Q7.out
 have q8 := Q8.out
 have t3 := T3.out
 go_wp2_with fail
 refine (C2.out _).mono ?_
 rintro e w' ⟨rfl, rfl⟩
 go_wp2
 go_ret
 exact ⟨rfl, below_drewN' (Below.refl _ _) _⟩
set_option maxRecDepth 100000 in
set_option maxHeartbeats 1000000 in
theorem trounded_c (n d L q H P s E F : Nat) (two X : Int) (w : World) (hnb : n < 18446744073709551616) (hL : Lib.bitLen n = L) (hd0 : 1 ≤ d) (hd3 : d ≤ 10) (k1 : IntKind.i64.wrap (-1074 - two) = -1074 - two) (k2 : IntKind.i64.wrap ((L : Int) - 53) = (L : Int) - 53) (hd : max ((L : Int) - 53) (-1074 - two) = (d : Int))
  (q1 : (n : Int) / 2 ^ d = (q : Int)) (q2 : IntKind.u64.wrap (2 ^ d) = (P : Int)) (q3 : IntKind.u64.wrap ((P : Int) - 1) = (P : Int) - 1) (q4 : IntKind.u64.wrap (2 ^ (d - 1)) = (H : Int)) (q5 : bits BinOp.and IntKind.u64 (n : Int) ((P : Int) - 1) = (H : Int)) (q6 : bits BinOp.and IntKind.u64 (q : Int) 1 = (s : Int)) (q7 : IntKind.u64.wrap ((q : Int) + 1) = (q : Int) + 1) (q8 : wrap64 (two + (d : Int)) = X)
  (t3 : ((s : Int) == 1) = false) (hE : (q : Int) = (E : Int))
  (C2 : Hid (∀ W, Cq 206 #[.float .f64 (floatOfInt .f64 (E : Int)), .int .i64 X] (.float .f64 F) W)) :
  Ct 199 #[.int .u64 n, .int .i64 two] (.float .f64 F) w := by
 have C1 := Lib.hid (fun W => (Tryz.bits_Len64 (n : Int) W (by omega) (by omega)).mono fun e w' h => And.intro h.1 h.2.symm)
 rw [Int.toNat_natCast, hL] at C1
 have k3 : (0 : Int) ≤ (d : Int) := by omega
 have k4 : (0 : Int) ≤ (d : Int) - 1 := by omega
 rw [← hE] at C2
 have Q1 := Lib.hid q1
 have Q2 := Lib.hid q2
 have Q3 := Lib.hid q3
 have Q4 := Lib.hid q4
 have Q5 := Lib.hid q5
 have Q6 := Lib.hid q6
 have Q7 := Lib.hid q7
 have Q8 := Lib.hid q8
 have T3 := Lib.hid t3
 clear t3 hL hnb hE q1 q2 q3 q4 q5 q6 q7 q8
 go_enter Tryz.func199, Tryz.ntmps199
 go_wp2_with fail
 refine (C1.out _).mono ?_
 rintro e w' ⟨rfl, rfl⟩
 go_wp2
 go_quiet (fail)
 have q1 := Q1.out
 have q2 := Q2.out
 have q3 := Q3.out
 have q4 := Q4.out
 have q5 := Q5.out
 have q6 := Q6.out
 have q7 := Q7.out
 have q8 := Q8.out
 have t3 := T3.out
 go_wp2_with fail
 refine (C2.out _).mono ?_
 rintro e w' ⟨rfl, rfl⟩
 go_wp2
 go_ret
 exact ⟨rfl, below_drewN' (Below.refl _ _) _⟩
set_option maxRecDepth 100000 in
set_option maxHeartbeats 1000000 in
theorem trounded_d (n d L q H P r s E F : Nat) (two X : Int) (w : World) (hnb : n < 18446744073709551616) (hL : Lib.bitLen n = L) (hd0 : 1 ≤ d) (hd3 : d ≤ 10) (k1 : IntKind.i64.wrap (-1074 - two) = -1074 - two) (k2 : IntKind.i64.wrap ((L : Int) - 53) = (L : Int) - 53) (hd : max ((L : Int) - 53) (-1074 - two) = (d : Int))
  (q1 : (n : Int) / 2 ^ d = (q : Int)) (q2 : IntKind.u64.wrap (2 ^ d) = (P : Int)) (q3 : IntKind.u64.wrap ((P : Int) - 1) = (P : Int) - 1) (q4 : IntKind.u64.wrap (2 ^ (d - 1)) = (H : Int)) (q5 : bits BinOp.and IntKind.u64 (n : Int) ((P : Int) - 1) = (r : Int)) (q6 : bits BinOp.and IntKind.u64 (q : Int) 1 = (s : Int)) (q7 : IntKind.u64.wrap ((q : Int) + 1) = (q : Int) + 1) (q8 : wrap64 (two + (d : Int)) = X)
  (t1 : decide (H < r) = false) (t2 : ((r : Int) == (H : Int)) = false) (hE : (q : Int) = (E : Int))
  (C2 : Hid (∀ W, Cq 206 #[.float .f64 (floatOfInt .f64 (E : Int)), .int .i64 X] (.float .f64 F) W)) :
  Ct 199 #[.int .u64 n, .int .i64 two] (.float .f64 F) w := by
 have C1 := Lib.hid (fun W => (Tryz.bits_Len64 (n : Int) W (by omega) (by omega)).mono fun e w' h => And.intro h.1 h.2.symm)
 rw [Int.toNat_natCast, hL] at C1
 have k3 : (0 : Int) ≤ (d : Int) := by omega
 have k4 : (0 : Int) ≤ (d : Int) - 1 := by omega
 rw [← hE] at C2
 have Q1 := Lib.hid q1
 have Q2 := Lib.hid q2
 have Q3 := Lib.hid q3
 have Q4 := Lib.hid q4
 have Q5 := Lib.hid q5
 have Q6 := Lib.hid q6
 have Q7 := Lib.hid q7
 have Q8 := Lib.hid q8
 have T1 := Lib.hid t1
 have T2 := Lib.hid t2
 clear t1 t2 hL hnb hE q1 q2 q3 q4 q5 q6 q7 q8
 go_enter Tryz.func199, Tryz.ntmps199
 go_wp2_with fail
 refine (C1.out _).mono ?_
 rintro e w' ⟨rfl, rfl⟩
 go_wp2
 go_quiet (fail)
 have q1 := Q1.out
 have q2 := Q2.out
 have q3 := Q3.out
 have q4 := Q4.out
 have q5 := Q5.out
 have q6 := Q6.out
 have q7 := Q7.out
 have q8 := Q8.out
 have t1 := T1.out
 have t2 := T2.out
 go_wp2_with fail
 refine (C2.out _).mono ?_
 rintro e w' ⟨rfl, rfl⟩
 go_wp2
 go_ret
 exact ⟨rfl, below_drewN' (Below.refl _ _) _⟩

end Go.Proofs.YtfcpkdafkmohkaaGreatDoor
namespace Go.Proofs.YtfcpkdafkmohkaaGreatDoor
open Go.RowKit
theorem bit_bounds {n : Nat} (hn : n < 9223372036854775808) : n < 2 ^ Lib.bitLen n ∧ (Lib.bitLen n = 0 ∨ 2 ^ (Lib.bitLen n - 1) ≤ n) ∧ Lib.bitLen n ≤ 63 := by
 have h63 := Lib.bitLen_le n 63 (by omega) (by rw [show (2 : Nat) ^ 63 = 9223372036854775808 by decide]; exact hn)
 rcases Nat.eq_zero_or_pos n with h0 | h0
 ·rw [h0, show Lib.bitLen 0 = 0 by decide]
  exact ⟨by decide, Or.inl rfl, by omega⟩
 ·have h := Lib.bitLenAux_bounds 64 n (by omega) (by omega)
  exact ⟨h.2.2, Or.inr h.2.1, h63⟩
set_option maxRecDepth 100000 in
theorem trounded_any (n : Nat) (two : Int) (w : World) (hn : n < 9223372036854775808) (h1 : -1076 ≤ two) (h2 : two ≤ 6000) (hb : two = -1076 ∨ 2 ^ 60 ≤ n) :
  Ct 199 #[.int .u64 n, .int .i64 two] (.float .f64 (rnd (n * 2 ^ (two + 1074).toNat) (2 ^ (-(two + 1074)).toNat))) w := by
 obtain ⟨b1, b2, b3⟩ := bit_bounds hn
 obtain ⟨L, hL⟩ : ∃ L, Lib.bitLen n = L := ⟨_, rfl⟩
 rw [hL] at b1 b2 b3
 have hL60 : two = -1076 ∨ 61 ≤ L := by
  rcases hb with h | h
  ·exact Or.inl h
  ·refine Or.inr ?_
   have := (Nat.pow_lt_pow_iff_right (a := 2) (by omega)).1 (Nat.lt_of_le_of_lt h b1)
   omega
 obtain ⟨d, hd⟩ : ∃ d : Nat, max ((L : Int) - 53) (-1074 - two) = (d : Int) := ⟨(max ((L : Int) - 53) (-1074 - two)).toNat, by omega⟩
 have hd2 : 2 ≤ d := by omega
 have hd3 : d ≤ 10 := by omega
 obtain ⟨D, hD⟩ : ∃ D : Nat, two + d + 1074 = (D : Int) := ⟨(two + d + 1074).toNat, by omega⟩
 obtain ⟨A, hA⟩ : ∃ A, (two + 1074).toNat = A := ⟨_, rfl⟩
 obtain ⟨B, hB⟩ : ∃ B, (-(two + 1074)).toNat = B := ⟨_, rfl⟩
 rw [hA, hB]
 obtain ⟨r1, r2, r3⟩ := rnd_drop (n := n) (L := L) (drop := d) (A := A) (B := B) (D := D) b1 b2 (by omega) (by omega) (by omega)
 rw [r1]
 obtain ⟨E, hE⟩ : ∃ E, ediv n (2 ^ d) = E := ⟨_, rfl⟩
 rw [hE] at r2 r3 ⊢
 have C2 : Hid (∀ W, Cq 206 #[.float .f64 (floatOfInt .f64 (E : Int)), .int .i64 (two + d)] (.float .f64 (min (D * 4503599627370496 + E) 9218868437227405312)) W) :=
  Lib.hid (fun W => Ld_make2 (D := D) r2 r3 (by omega) (by omega) W)
 obtain ⟨c, rfl⟩ : ∃ c, d = c + 1 := ⟨d - 1, by omega⟩
 have hP : 2 ^ (c + 1) = 2 * 2 ^ c := by rw [Nat.pow_succ, Nat.mul_comm]
 obtain ⟨H, hH⟩ : ∃ H, 2 ^ c = H := ⟨_, rfl⟩
 rw [hH] at hP
 have hH0 : 0 < H := by rw [← hH]; exact two_pos c
 have hH9 : H ≤ 512 := by
  rw [← hH]
  have := Nat.pow_le_pow_right (n := 2) (by omega) (show c ≤ 9 by omega)
  omega
 obtain ⟨P, hPP⟩ : ∃ P, 2 ^ (c + 1) = P := ⟨_, rfl⟩
 rw [hPP] at hP
 have cast : ∀ k : Nat, ((2 : Int) ^ k) = ((2 ^ k : Nat) : Int) := fun k => by simp
 obtain ⟨q, hq⟩ : ∃ q, n / P = q := ⟨_, rfl⟩
 obtain ⟨r, hr⟩ : ∃ r, n % P = r := ⟨_, rfl⟩
 have hql : q ≤ n := by rw [← hq]; exact Nat.div_le_self _ _
 have hrl : r < P := by rw [← hr]; exact Nat.mod_lt _ (by omega)
 have q1 : (n : Int) / 2 ^ (c + 1) = (q : Int) := by rw [cast, hPP, ← hq]; exact (Int.natCast_ediv n P).symm
 have q2 : IntKind.u64.wrap (2 ^ (c + 1)) = (P : Int) := by rw [cast, hPP]; exact IntWalk.u64_in _ (by omega)
 have q3 : IntKind.u64.wrap ((P : Int) - 1) = (P : Int) - 1 := IntWalk.u64_in _ (by omega)
 have q4 : IntKind.u64.wrap (2 ^ (c + 1 - 1)) = (H : Int) := by rw [Nat.add_sub_cancel, cast, hH]; exact IntWalk.u64_in _ (by omega)
 have q5 : bits BinOp.and IntKind.u64 (n : Int) ((P : Int) - 1) = (r : Int) := by
  rw [show ((P : Int) - 1) = ((P - 1 : Nat) : Int) by omega, u64_and_nat _ _ (by omega) (by omega), ← hPP, Nat.and_two_pow_sub_one_eq_mod, hPP, hr]
 have q6 : bits BinOp.and IntKind.u64 (q : Int) 1 = ((q % 2 : Nat) : Int) := by
  have := u64_and_nat q 1 (by omega) (by omega)
  rw [show ((1 : Nat) : Int) = 1 from rfl] at this
  rw [this, show (1 : Nat) = 2 ^ 1 - 1 from rfl, Nat.and_two_pow_sub_one_eq_mod]
 have q7 : IntKind.u64.wrap ((q : Int) + 1) = (q : Int) + 1 := IntWalk.u64_in _ (by omega)
 have q8 : wrap64 (two + ((c + 1 : Nat) : Int)) = two + ((c + 1 : Nat) : Int) := by
  unfold wrap64; omega
 have k1 : IntKind.i64.wrap (-1074 - two) = -1074 - two := IntWalk.i64_in _ (by omega)
 have k2 : IntKind.i64.wrap ((L : Int) - 53) = (L : Int) - 53 := IntWalk.i64_in _ (by omega)
 have hEE : E = if H < r ∨ (r = H ∧ q % 2 = 1) then q + 1 else q := by
  rw [← hE, hPP, hP, ediv_half', ← hP, hq, hr]
 rcases Nat.lt_trichotomy r H with h | h | h
 ·rw [if_neg (by omega)] at hEE
  exact trounded_d n (c + 1) L q H P r (q % 2) E _ two _ w (by omega) hL (by omega) hd3 k1 k2 hd q1 q2 q3 q4 q5 q6 q7 q8 (decide_eq_false (by omega)) (by rw [beq_eq_false_iff_ne]; omega) (by rw [hEE]) C2
 ·subst h
  by_cases ho : q % 2 = 1
  ·rw [if_pos (Or.inr ⟨rfl, ho⟩)] at hEE
   exact trounded_b n (c + 1) L q r P (q % 2) E _ two _ w (by omega) hL (by omega) hd3 k1 k2 hd q1 q2 q3 q4 q5 q6 q7 q8 (by rw [ho]; rfl) (by rw [hEE]; rfl) C2
  ·rw [if_neg (by omega)] at hEE
   exact trounded_c n (c + 1) L q r P (q % 2) E _ two _ w (by omega) hL (by omega) hd3 k1 k2 hd q1 q2 q3 q4 q5 q6 q7 q8 (by rw [beq_eq_false_iff_ne]; omega) (by rw [hEE]) C2
 ·rw [if_pos (Or.inl h)] at hEE
  exact trounded_a n (c + 1) L q H P r (q % 2) E _ two _ w (by omega) hL (by omega) hd3 k1 k2 hd q1 q2 q3 q4 q5 q6 q7 q8 (decide_eq_true h) (by rw [hEE]; rfl) C2
theorem quot_bits {a b x y p q : Nat} (ha1 : 2 ^ p ≤ a) (ha2 : a < 2 ^ (p + 1)) (hb1 : 2 ^ q ≤ b) (hb2 : b < 2 ^ (q + 1)) (k : Nat) :
  (p + 1 + x ≤ k + q + y → a * 2 ^ x / (b * 2 ^ y) < 2 ^ k) ∧ (k + q + 1 + y ≤ p + x → 2 ^ k ≤ a * 2 ^ x / (b * 2 ^ y)) := by
 have hX := two_pos x
 have hY := two_pos y
 have hb : 0 < b := Nat.lt_of_lt_of_le (two_pos q) hb1
 constructor
 ·intro h
  rw [Nat.div_lt_iff_lt_mul (Nat.mul_pos hb hY)]
  have h1 : a * 2 ^ x < 2 ^ (p + 1) * 2 ^ x := Nat.mul_lt_mul_of_pos_right ha2 hX
  have h2 : 2 ^ k * (2 ^ q * 2 ^ y) ≤ 2 ^ k * (b * 2 ^ y) := Nat.mul_le_mul_left _ (Nat.mul_le_mul_right _ hb1)
  have h3 : 2 ^ (p + 1) * 2 ^ x ≤ 2 ^ k * (2 ^ q * 2 ^ y) := by
   rw [← Nat.pow_add, ← Nat.pow_add, ← Nat.pow_add]
   exact Nat.pow_le_pow_right (by omega) (by omega)
  omega
 ·intro h
  rw [Nat.le_div_iff_mul_le (Nat.mul_pos hb hY)]
  have h1 : 2 ^ p * 2 ^ x ≤ a * 2 ^ x := Nat.mul_le_mul_right _ ha1
  have h2 : 2 ^ k * (b * 2 ^ y) ≤ 2 ^ k * (2 ^ (q + 1) * 2 ^ y) := Nat.mul_le_mul_left _ (Nat.mul_le_mul_right _ (Nat.le_of_lt hb2))
  have h3 : 2 ^ k * (2 ^ (q + 1) * 2 ^ y) ≤ 2 ^ p * 2 ^ x := by
   rw [← Nat.pow_add, ← Nat.pow_add, ← Nat.pow_add]
   exact Nat.pow_le_pow_right (by omega) (by omega)
  omega
def NearP (m : Nat) (ten : Int) (w : World) (e : Ending) (w' : World) : Prop := e = .returned (.float .f64 (decR m ten)) ∧ Below w.heap.size w w'
set_option maxRecDepth 100000 in
set_option maxHeartbeats 2000000 in
theorem tnearest_walk {w : World} {A : Option Addr} {n c m T B bt bb q nn F : Nat} {ten x1 x2 x3 last two : Int} {ex : Bool} (hA : NV w A n c m)
  (C1 : Hid (∀ W, NV W A n c m → Cp 185 #[.slice A n c, .int .i64 ten] W (NRet T W)))
  (C3 : Hid (∀ W A1 n1 c1, NV W A1 n1 c1 1 → Cp 185 #[.slice A1 n1 c1, .int .i64 (-ten)] W (NRet B W)))
  (C4 : Hid (∀ W A1 n1 c1, NV W A1 n1 c1 T → Cq 156 #[.slice A1 n1 c1] (.int .i64 (bt : Nat)) W))
  (C5 : Hid (∀ W A1 n1 c1, NV W A1 n1 c1 B → Cq 156 #[.slice A1 n1 c1] (.int .i64 (bb : Nat)) W))
  (C6 : Hid (∀ W A1 n1 c1 A2 n2 c2, NV W A1 n1 c1 T → NV W A2 n2 c2 B → Cp 109 #[.slice A1 n1 c1, .slice A2 n2 c2, .int .i64 two] W fun e w' => ∃ A3 n3 c3, e = .returned (.tuple #[.slice A3 n3 c3, .bool ex]) ∧ NV w' A3 n3 c3 q ∧ Below W.heap.size W w'))
  (C7 : Hid (∀ W A1 n1 c1, NV W A1 n1 c1 q → Cq 159 #[.slice A1 n1 c1] (.int .u64 q) W))
  (C8 : Hid (∀ W, Ct 199 #[.int .u64 nn, .int .i64 last] (.float .f64 F) W))
  (k1 : IntKind.i64.wrap (-ten) = -ten) (k2 : IntKind.i64.wrap ((bt : Int) - (bb : Int)) = x1) (k3 : IntKind.i64.wrap (x1 + ten) = x2) (k4 : IntKind.i64.wrap (x2 - 62) = x3) (hmax : max x3 (-1076) = last) (k5 : IntKind.i64.wrap (ten - last) = two)
  (hor : (ex = true ∧ nn = q) ∨ (ex = false ∧ bits BinOp.or IntKind.u64 (q : Int) 1 = (nn : Int))) :
  Ct 135 #[.slice A n c, .int .i64 ten] (.float .f64 F) w := by
 have C2 := Lib.hid (fun W => nof 1 (by omega) W)
 have HA := Lib.hid hA
 clear hA
 rcases hor with ⟨rfl, rfl⟩ | ⟨rfl, hor⟩
 all_goals
  go_enter Tryz.func135, Tryz.ntmps135
  go_wp2_with fail
  refine (C1.out _ HA.out).mono ?_
  rintro e w1 ⟨A1, n1, c1, rfl, g1, b1⟩
  have G1 := Lib.hid g1
  have B1 := Lib.hid b1
  clear g1 b1
  go_wp2_with fail
  refine (C2.out _).mono ?_
  rintro e w2 ⟨A2, n2, c2, rfl, g2, b2⟩
  have G2 := Lib.hid g2
  have G1' := Lib.hid (G1.out.step b2)
  have B2 := Lib.hid (below_le B1.out b2)
  clear g2 b2
  go_wp2_with fail
  refine (C3.out _ _ _ _ G2.out).mono ?_
  rintro e w3 ⟨A3, n3, c3, rfl, g3, b3⟩
  have G3 := Lib.hid g3
  have G1'' := Lib.hid (G1'.out.step b3)
  have B3 := Lib.hid (below_le B2.out b3)
  clear g3 b3
  go_wp2_with fail
  refine (C4.out _ _ _ _ G1''.out).mono ?_
  rintro e w' ⟨rfl, rfl⟩
  go_wp2_with fail
  refine (C5.out _ _ _ _ G3.out).mono ?_
  rintro e w' ⟨rfl, rfl⟩
  go_wp2_with fail
  refine (C6.out _ _ _ _ _ _ _ G1''.out G3.out).mono ?_
  rintro e w4 ⟨A4, n4, c4, rfl, g4, b4⟩
  have G4 := Lib.hid g4
  have B4 := Lib.hid (below_le B3.out b4)
  clear g4 b4
  go_wp2_with fail
  refine (C7.out _ _ _ _ G4.out).mono ?_
  rintro e w' ⟨rfl, rfl⟩
  go_wp2_with fail
  refine (C8.out _).mono ?_
  rintro e w5 ⟨rfl, b5⟩
  have B5 := Lib.hid (below_le B4.out b5)
  clear b5
  go_wp2
  go_ret
  exact ⟨rfl, B5.out⟩

end Go.Proofs.YtfcpkdafkmohkaaGreatDoor
namespace Go.Proofs.YtfcpkdafkmohkaaGreatDoor
open Go.RowKit
theorem or_small {q s : Nat} (hq : q < 9223372036854775808) (hs : s ≤ 1) : q ||| s < 9223372036854775808 ∧ q ≤ q ||| s := by
 refine ⟨?_, Nat.left_le_or⟩
 have : q ||| s < 2 ^ 63 := Nat.or_lt_two_pow (by rw [show (2 : Nat) ^ 63 = 9223372036854775808 by decide]; exact hq) (by rw [show (2 : Nat) ^ 63 = 9223372036854775808 by decide]; omega)
 rw [show (2 : Nat) ^ 63 = 9223372036854775808 by decide] at this
 exact this
theorem tnearest_any {w : World} {A : Option Addr} {n c m : Nat} (ten : Int) (hA : NV w A n c m) (hm : bln m ≤ 3300) (h0 : 0 < m) (ht1 : -1200 ≤ ten) (ht2 : ten ≤ 400) :
  Cp 135 #[.slice A n c, .int .i64 ten] w (NearP m ten w) := by
 have f1 := bln_five ten.toNat
 have f2 := bln_five (-ten).toNat
 have g1 := bln_mul m (5 ^ ten.toNat)
 have p1 : 0 < 5 ^ ten.toNat := Nat.pow_pos (by omega)
 have p2 : 0 < 5 ^ (-ten).toNat := Nat.pow_pos (by omega)
 have e1 : 1 * 5 ^ (-ten).toNat = 5 ^ (-ten).toNat := Nat.one_mul _
 have C1 := Lib.hid (fun W (h : NV W A n c m) => traised_any ten h (by omega) (by omega) (by omega))
 have C3 := Lib.hid (fun W A1 n1 c1 (h : NV W A1 n1 c1 1) => traised_any (-ten) h (by rw [show bln 1 = 1 by decide]; omega) (by omega) (by omega))
 rw [e1] at C3
 obtain ⟨T, hT⟩ : ∃ T, m * 5 ^ ten.toNat = T := ⟨_, rfl⟩
 obtain ⟨B, hB⟩ : ∃ B, 5 ^ (-ten).toNat = B := ⟨_, rfl⟩
 have hT0 : 0 < T := by rw [← hT]; exact Nat.mul_pos h0 p1
 rw [hT] at C1 g1
 rw [hB] at C3 f2 p2
 obtain ⟨u1, u2, u3⟩ := bln_bounds hT0
 obtain ⟨v1, v2, v3⟩ := bln_bounds p2
 have C4 := Lib.hid (fun W A1 n1 c1 (h : NV W A1 n1 c1 T) => nbits h (by omega))
 have C5 := Lib.hid (fun W A1 n1 c1 (h : NV W A1 n1 c1 B) => nbits h (by omega))
 have cr := fun (t : Int) (h1 : -8000 ≤ t) (h2 : t ≤ 8000) W A1 n1 c1 A2 n2 c2 (h : NV W A1 n1 c1 T) (g : NV W A2 n2 c2 B) => tratio_any t h g (by omega) (by omega) p2 h1 h2
 obtain ⟨bt, hbt⟩ : ∃ bt, bln T = bt := ⟨_, rfl⟩
 obtain ⟨bb, hbb⟩ : ∃ bb, bln B = bb := ⟨_, rfl⟩
 rw [hbt] at C4 u1 u2 u3 g1
 rw [hbb] at C5 v1 v2 v3 f2
 obtain ⟨p, rfl⟩ : ∃ p, bt = p + 1 := ⟨bt - 1, by omega⟩
 obtain ⟨r, rfl⟩ : ∃ r, bb = r + 1 := ⟨bb - 1, by omega⟩
 rw [Nat.add_sub_cancel] at u1 v1
 obtain ⟨x1, hx1⟩ : ∃ x1, ((p + 1 : Nat) : Int) - ((r + 1 : Nat) : Int) = x1 := ⟨_, rfl⟩
 obtain ⟨x2, hx2⟩ : ∃ x2, x1 + ten = x2 := ⟨_, rfl⟩
 obtain ⟨x3, hx3⟩ : ∃ x3, x2 - 62 = x3 := ⟨_, rfl⟩
 obtain ⟨last, hlast⟩ : ∃ last, max x3 (-1076) = last := ⟨_, rfl⟩
 obtain ⟨two, htwo⟩ : ∃ two, ten - last = two := ⟨_, rfl⟩
 have C6 := cr two (by omega) (by omega)
 obtain ⟨q1, q2⟩ := quot_bits (x := two.toNat) (y := (-two).toNat) u1 u2 v1 v2 63
 have q3 := (quot_bits (x := two.toNat) (y := (-two).toNat) u1 u2 v1 v2 60).2
 have hql := q1 (by omega)
 have hqb : last = -1076 ∨ 2 ^ 60 ≤ T * 2 ^ two.toNat / (B * 2 ^ (-two).toNat) := by
  by_cases hh : last = -1076
  ·exact Or.inl hh
  ·exact Or.inr (q3 (by omega))
 obtain ⟨N, hN⟩ : ∃ N, T * 2 ^ two.toNat = N := ⟨_, rfl⟩
 obtain ⟨d, hd⟩ : ∃ d, B * 2 ^ (-two).toNat = d := ⟨_, rfl⟩
 have hd0 : 0 < d := by rw [← hd]; exact Nat.mul_pos p2 (two_pos _)
 rw [hN, hd] at C6 hql hqb
 obtain ⟨q, hq⟩ : ∃ q, N / d = q := ⟨_, rfl⟩
 obtain ⟨t, ht⟩ : ∃ t, N % d = t := ⟨_, rfl⟩
 have hNd : N = q * d + t := by rw [← hq, ← ht, Nat.mul_comm]; exact (Nat.div_add_mod N d).symm
 have htd : t < d := by rw [← ht]; exact Nat.mod_lt _ hd0
 unfold QRet at C6
 rw [ht, hq] at C6
 rw [hq] at hql hqb
 rw [show (2 : Nat) ^ 63 = 9223372036854775808 by decide] at hql
 obtain ⟨s, hs⟩ : ∃ s, (if t = 0 then 0 else 1) = s := ⟨_, rfl⟩
 have hs1 : s ≤ 1 := by rw [← hs]; split <;> omega
 obtain ⟨o1, o2⟩ := or_small hql hs1
 obtain ⟨nn, hnn⟩ : ∃ nn, q ||| s = nn := ⟨_, rfl⟩
 have key := decR_near (m := m) (N := N) (n := d) (q := q) (t := t) (s := s) (ten := ten) (last := last) (by rw [← hN, ← hT, htwo]) (by rw [← hd, ← hB, show last - ten = -two by omega]) hNd htd hs.symm hqb
 rw [hnn] at key o1 o2
 have C8 := fun W => trounded_any nn last W o1 (by omega) (by omega) (by
  rcases hqb with h | h
  ·exact Or.inl h
  ·exact Or.inr (Nat.le_trans h o2))
 rw [← key] at C8
 refine tnearest_walk (q := q) (nn := nn) (two := two) (last := last) (x1 := x1) (x2 := x2) (x3 := x3) (ex := decide (t = 0)) hA C1 C3 C4 C5 (Lib.hid C6)
  (Lib.hid (fun W A1 n1 c1 h => tword_any h (by omega))) (Lib.hid C8) (IntWalk.i64_in _ (by omega)) (by rw [IntWalk.i64_in _ (by omega)]; exact hx1) (by rw [IntWalk.i64_in _ (by omega)]; exact hx2) (by rw [IntWalk.i64_in _ (by omega)]; exact hx3) hlast (by rw [IntWalk.i64_in _ (by omega)]; exact htwo) ?_
 by_cases h : t = 0
 ·refine Or.inl ⟨decide_eq_true h, ?_⟩
  rw [← hnn, ← hs, if_pos h, Nat.or_zero]
 ·refine Or.inr ⟨decide_eq_false h, ?_⟩
  have := or_u64 q 1 (by omega) (by omega)
  rw [show ((1 : Nat) : Int) = 1 from rfl] at this
  rw [this, ← hnn, ← hs, if_neg h]

end Go.Proofs.YtfcpkdafkmohkaaGreatDoor
namespace Go.Proofs.YtfcpkdafkmohkaaGreatDoor
open Go.RowKit
theorem dg_byte {l : List Nat} (h : ∀ c ∈ l, dg10 c = true) : ∀ c ∈ l, c < 256 := fun c hc => by
 have := dg10_iff.1 (h c hc)
 omega
theorem parse_dec (l : List Nat) (w : World) (hd : ∀ c ∈ l, dg10 c = true) (h0 : l ≠ []) (hl : l.length ≤ 801) : Cp 134 #[.string (strOf l), .int .i64 10] w (NOk (num 10 l) w) := by
 have hb := bl_strOf (dg_byte hd)
 have h := parse_ok (strOf l) 10 w (by rw [strOf_size]; omega) (by omega) (by omega) (adB_all (by rw [hb]; exact h0) (by rw [hb]; exact fun c hc => (dgt_ten (hd c hc)).2))
 rw [sv_num, hb] at h
 refine h.mono fun e w' x => NOk.of (lng_bln ?_) x
 have h1 := num_hi hd
 have h2 := bln_mono (Nat.le_of_lt h1)
 have h3 := bln_ten l.length
 omega
theorem bln_dec {l : List Nat} (hd : ∀ c ∈ l, dg10 c = true) (hl : l.length ≤ 801) : bln (num 10 l) ≤ 3300 := by
 have h2 := bln_mono (Nat.le_of_lt (num_hi hd))
 have h3 := bln_ten l.length
 omega
theorem tfloat_any (W F : List Nat) (X : Int) (w : World) (hW : ∀ c ∈ W, dg10 c = true) (hF : ∀ c ∈ F, dg10 c = true) (hs : W.length + F.length ≤ 4611686018427387903) (hX : -10995116277760 < X ∧ X < 10995116277760) :
  Ct 69 #[.agg #[.string (strOf W), .string (strOf F), .int .i64 X]] (.float .f64 (decR (num 10 (W ++ F)) (X - F.length))) w := by
 obtain ⟨f, hf⟩ : ∃ f, W ++ F = f := ⟨_, rfl⟩
 have hd : ∀ c ∈ f, dg10 c = true := by
  intro c hc
  rw [← hf] at hc
  rcases List.mem_append.1 hc with h | h
  ·exact hW c h
  ·exact hF c h
 have hfl : f.length = W.length + F.length := by rw [← hf, List.length_append]
 rw [hf]
 have hg : ∀ c ∈ ldz f, dg10 c = true := fun c hc => hd c (ldz_mem hc)
 have hh : ∀ c ∈ trz (ldz f), dg10 c = true := fun c hc => hg c (trz_mem hc)
 have hgl : (ldz f).length ≤ f.length := (List.dropWhile_sublist _).length_le
 have htl := trz_len (ldz f)
 have hcat : strOf W ++ strOf F = strOf f := by rw [strOf_append, hf]
 have C1 : Hid (∀ V, Ct 133 #[.string (strOf W ++ strOf F), .string ⟨#[48]⟩] (.string (strOf (ldz f))) V) := Lib.hid (fun V => by
  have := trimL48 (strOf f) V
  rw [bl_strOf (dg_byte hd)] at this
  rw [hcat]
  exact this)
 have C2 : Hid (∀ V, Ct 113 #[.string (strOf (ldz f)), .string ⟨#[48]⟩] (.string (strOf (trz (ldz f)))) V) := Lib.hid (fun V => by
  have := trimR48 (strOf (ldz f)) V (by rw [strOf_size]; omega)
  rw [bl_strOf (dg_byte hg)] at this
  exact this)
 have z1 := strOf_size (ldz f)
 have z2 := strOf_size F
 have z3 := strOf_size (trz (ldz f))
 have z4 := strOf_size W
 obtain ⟨P, hP⟩ : ∃ P, ((ldz f).length : Int) + (X - F.length) = P := ⟨_, rfl⟩
 have k1 : IntKind.i64.wrap (((strOf (ldz f)).size : Int) - ((strOf F).size : Int)) = ((ldz f).length : Int) - F.length := by rw [z1, z2]; exact IntWalk.i64_in _ (by omega)
 have k2 : IntKind.i64.wrap (((ldz f).length : Int) - F.length + X) = P := by rw [IntWalk.i64_in _ (by omega)]; omega
 by_cases h0 : trz (ldz f) = []
 ·rw [pway_none h0]
  exact tfloat_none _ _ _ _ X _ P w (by omega) C1 C2 k1 k2 (by rw [h0, Lib.toList_data]; rfl)
 ·have t1 := (str_ne h0).2
  by_cases h1 : P < -323
  ·rw [pway_low hd (by omega)]
   exact tfloat_low _ _ _ _ X _ P w (by omega) C1 C2 k1 k2 t1 (decide_eq_true h1)
  ·by_cases h2 : 309 < P
   ·rw [pway_high hd h0 (by omega)]
    exact tfloat_high _ _ _ _ X _ P w (by omega) C1 C2 k1 k2 t1 (decide_eq_false h1) (decide_eq_true h2)
   ·by_cases h3 : 800 < (trz (ldz f)).length
    ·rw [pway_long hd h3 (by omega), show ((ldz f).length : Int) + (X - F.length) - 801 = P - 801 by omega]
     obtain ⟨l, hl⟩ : ∃ l, (trz (ldz f)).take 800 ++ [49] = l := ⟨_, rfl⟩
     have ll : l.length = 801 := by rw [← hl, List.length_append, List.length_take]; simp; omega
     have ld : ∀ c ∈ l, dg10 c = true := by
      intro c hc
      rw [← hl] at hc
      rcases List.mem_append.1 hc with h | h
      ·exact hh c (List.mem_of_mem_take h)
      ·rw [List.mem_singleton.1 h]; rfl
     have lh : l.head? ≠ some 48 := by
      rw [← hl]
      have := trz_head (lead_head f)
      cases ht : trz (ldz f) with
      | nil => exact absurd ht h0
      | cons a b =>
       rw [show List.dropWhile (fun x => x == 48) f = ldz f from rfl, ht] at this
       exact this
     have l0 : l ≠ [] := fun e => by rw [e] at ll; simp at ll
     have lp : 0 < num 10 l := Nat.lt_of_lt_of_le (ten_pos _) (num_lo ld l0 lh)
     have hstr : (strOf (trz (ldz f))).extract 0 800 ++ (⟨#[49]⟩ : ByteArray) = strOf l := by
      rw [ext_take, bl_strOf (dg_byte hh), ← hl, ← strOf_append]
      rfl
     rw [hl]
     have t5 : (800 : Int) ≤ ((strOf (trz (ldz f))).size : Int) := by rw [z3]; omega
     have t4 : decide (800 < ((strOf (trz (ldz f))).size : Int)) = true := decide_eq_true (by rw [z3]; omega)
     have t6 : ((strOf (trz (ldz f))).extract 0 800).size = 800 := by
      rw [ext_take, bl_strOf (dg_byte hh), strOf_size, List.length_take]
      exact Nat.min_eq_left (by omega)
     have k3 : IntKind.i64.wrap (P - 801) = P - 801 := IntWalk.i64_in _ (by omega)
     have C3 : Hid (∀ V, Cp 134 #[.string ((strOf (trz (ldz f))).extract 0 800 ++ (⟨#[49]⟩ : ByteArray)), .int .i64 10] V (NOk (num 10 l) V)) := Lib.hid (fun V => by
      rw [hstr]
      exact parse_dec l V ld l0 (by omega))
     have C4 : Hid (∀ V A n c, NV V A n c (num 10 l) → Ct 135 #[.slice A n c, .int .i64 (P - 801)] (.float .f64 (decR (num 10 l) (P - 801))) V) := Lib.hid (fun V A n c h => tnearest_any (P - 801) h (bln_dec ld (by omega)) lp (by omega) (by omega))
     exact tfloat_long _ _ _ _ X _ P _ (num 10 l) _ w (by omega) C1 C2 k1 k2 t1 (decide_eq_false h1) (decide_eq_false h2) t4 t5 t6 k3 C3 C4
    ·rw [pway_short, show ((ldz f).length : Int) + (X - F.length) - (trz (ldz f)).length = P - (trz (ldz f)).length by omega]
     have lp : 0 < num 10 (trz (ldz f)) := Nat.lt_of_lt_of_le (ten_pos _) (num_lo hh h0 (trz_head (lead_head f)))
     have C3 : Hid (∀ V, Cp 134 #[.string (strOf (trz (ldz f))), .int .i64 10] V (NOk (num 10 (trz (ldz f))) V)) := Lib.hid (fun V => parse_dec _ V hh h0 (by omega))
     obtain ⟨Z, hZ⟩ : ∃ Z, P - ((trz (ldz f)).length : Int) = Z := ⟨_, rfl⟩
     rw [hZ]
     have C4 : Hid (∀ V A n c, NV V A n c (num 10 (trz (ldz f))) → Ct 135 #[.slice A n c, .int .i64 Z] (.float .f64 (decR (num 10 (trz (ldz f))) Z)) V) := Lib.hid (fun V A n c h => tnearest_any Z h (bln_dec hh (by omega)) lp (by omega) (by omega))
     have k3 : IntKind.i64.wrap (P - ((strOf (trz (ldz f))).size : Int)) = Z := by rw [z3, ← hZ]; exact IntWalk.i64_in _ (by omega)
     have t4 : decide (800 < ((strOf (trz (ldz f))).size : Int)) = false := decide_eq_false (by rw [z3]; omega)
     exact tfloat_short _ _ _ _ X _ P Z (num 10 (trz (ldz f))) _ w (by omega) C1 C2 k1 k2 t1 (decide_eq_false h1) (decide_eq_false h2) t4 k3 C3 C4
theorem tfloat_dec (l : List Nat) (w : World) (hs : l.length ≤ 4611686018427387903) :
  Ct 69 #[.agg #[.string (strOf (dW l)), .string (strOf (dF l)), .int .i64 (dX l)]] (.float .f64 (dV l)) w := by
 have h1 := run_len l
 have h2 : (dF l).length ≤ (aft10 l).length := by
  unfold dF
  split
  ·have := run_len (aft10 l).tail
   rw [List.length_tail] at this
   omega
  ·simp
 refine tfloat_any (dW l) (dF l) (dX l) w (run10_all l) ?_ (by unfold dW; omega) (exV_le _)
 intro c hc
 unfold dF at hc
 split at hc
 ·exact run10_all _ c hc
 ·simp at hc

end Go.Proofs.YtfcpkdafkmohkaaGreatDoor
namespace Go.Proofs.YtfcpkdafkmohkaaGreatDoor
open Go.RowKit
theorem fl_decR (N : Nat) : fl N = decR N 0 := by
 obtain ⟨K, hK, hd⟩ := decR_K
 rw [fl_near, near_rnd false (a := K) (b := 0) (by omega), hd, show (0 : Int).toNat = 0 from rfl, show (-(0 : Int)).toNat = 0 from rfl, Nat.pow_zero, Nat.mul_one, word_pos]
theorem decR_top {N : Nat} {D : Nat} (hD : D = 1024) (h : 2 ^ D ≤ N) : decR N 0 = 9218868437227405312 := by
 obtain ⟨K, hK, hd⟩ := decR_K
 rw [hd]
 refine rnd_top (ten_pos _) ?_
 obtain ⟨E, hE⟩ : ∃ E : Nat, E = 2046 := ⟨_, rfl⟩
 have e1 := fmag_make 4503599627370496 E (by omega) (by omega)
 rw [show E * 4503599627370496 + 4503599627370496 = 9218868437227405312 by omega] at e1
 rw [e1, show (0 : Int).toNat = 0 from rfl, show (-(0 : Int)).toNat = 0 from rfl, Nat.pow_zero, Nat.mul_one, Nat.mul_one]
 have h2 : 4503599627370496 * 2 ^ E = 2 ^ D * 2 ^ K := by
  rw [show (4503599627370496 : Nat) = 2 ^ 52 from rfl, ← Nat.pow_add, ← Nat.pow_add]
  exact congrArg (fun k => 2 ^ k) (show 52 + E = D + K by omega)
 rw [h2]
 exact Nat.mul_le_mul_right _ h
theorem dgt_zero {c : Nat} (h : dgt c = 0) : c = 48 := by
 unfold dgt at h
 split at h
 ·omega
 ·split at h
  ·omega
  ·split at h <;> omega
theorem num_lo_r {r : Nat} {g : List Nat} (h0 : g ≠ []) (hh : g.head? ≠ some 48) : r ^ (g.length - 1) ≤ num r g := by
 cases g with
 | nil => exact absurd rfl h0
 | cons c l =>
  have h1 : dgt c ≠ 0 := fun e => hh (by rw [dgt_zero e]; rfl)
  rw [num_cons]
  have h3 : 1 * r ^ l.length ≤ dgt c * r ^ l.length := Nat.mul_le_mul_right _ (by omega)
  simp only [List.length_cons, Nat.add_sub_cancel]
  omega
set_option maxRecDepth 100000 in
set_option maxHeartbeats 1000000 in
theorem twhole_top (s g : ByteArray) (r : Nat) (w : World)
  (C1 : Hid (∀ W, Ct 133 #[.string s, .string ⟨#[48]⟩] (.string g) W)) (t1 : decide (1024 < (g.size : Int)) = true) :
  Ct 89 #[.string s, .int .i64 r] (.float .f64 9218868437227405312) w := by
 have C2 := Lib.hid (fun W => inf1_any W)
 go_enter Tryz.func89, Tryz.ntmps89
 go_wp2_with fail
 refine (C1.out _).mono ?_
 rintro e w1 ⟨rfl, b1⟩
 go_wp2_with fail
 refine (C2.out _).mono ?_
 rintro e w' ⟨rfl, rfl⟩
 go_wp2
 go_ret
 exact ⟨rfl, b1⟩
set_option maxRecDepth 100000 in
set_option maxHeartbeats 1000000 in
theorem twhole_low (s g : ByteArray) (r N : Nat) (w : World)
  (C1 : Hid (∀ W, Ct 133 #[.string s, .string ⟨#[48]⟩] (.string g) W)) (t1 : decide (1024 < (g.size : Int)) = false)
  (C2 : Hid (∀ W, Cp 134 #[.string s, .int .i64 r] W (NOk N W)))
  (C3 : Hid (∀ W A n c, NV W A n c N → Ct 153 #[.slice A n c] (.float .f64 (fl N)) W)) :
  Ct 89 #[.string s, .int .i64 r] (.float .f64 (fl N)) w := by
 go_enter Tryz.func89, Tryz.ntmps89
 go_wp2_with fail
 refine (C1.out _).mono ?_
 rintro e w1 ⟨rfl, b1⟩
 have B1 := Lib.hid b1
 clear b1
 go_wp2_with fail
 refine (C2.out _).mono ?_
 rintro e w2 ⟨A, n, c, rfl, g2, b2⟩
 have G2 := Lib.hid g2
 have B2 := Lib.hid (below_le B1.out b2)
 clear g2 b2
 go_wp2_with fail
 refine (C3.out _ _ _ _ G2.out).mono ?_
 rintro e w3 ⟨rfl, b3⟩
 have B3 := Lib.hid (below_le B2.out b3)
 clear b3
 go_wp2
 go_ret
 exact ⟨rfl, B3.out⟩
theorem natV_lead (r : Nat) (l : List Nat) : natV r (ldz l) = natV r l := by unfold natV ldz; rw [num_lead]
theorem twhole_any (l : List Nat) (r : Nat) (w : World) (h2 : 2 ≤ r) (h36 : r ≤ 36) (h0 : l ≠ []) (hd : ∀ c ∈ l, dgt c < r) (hb : ∀ c ∈ l, c < 256) (hs : l.length ≤ 4611686018427387903) :
  Ct 89 #[.string (strOf l), .int .i64 r] (.float .f64 (natV r l)) w := by
 have C1 : Hid (∀ V, Ct 133 #[.string (strOf l), .string ⟨#[48]⟩] (.string (strOf (ldz l))) V) := Lib.hid (fun V => by
  have := trimL48 (strOf l) V
  rw [bl_strOf hb] at this
  exact this)
 have z1 := strOf_size (ldz l)
 by_cases h : 1024 < (ldz l).length
 ·have key : natV r l = 9218868437227405312 := by
   rw [← natV_lead]
   obtain ⟨D, hD⟩ : ∃ D : Nat, D = 1024 := ⟨_, rfl⟩
   refine decR_top hD ?_
   refine Nat.le_trans ?_ (num_lo_r (r := r) (fun e => by rw [e] at h; simp at h) (lead_head l))
   exact Nat.le_trans (Nat.pow_le_pow_left h2 D) (Nat.pow_le_pow_right (by omega) (by omega))
  rw [key]
  exact twhole_top _ _ r w C1 (decide_eq_true (by rw [z1]; omega))
 ·have hdl : ∀ c ∈ ldz l, dgt c < r := fun c hc => hd c (ldz_mem hc)
  have hnum : num r (ldz l) = num r l := num_lead r l
  have hbn : bln (num r l) ≤ 30000 := by
   rw [← hnum]
   have a1 := bln_mono (Nat.le_of_lt (num_lt hdl))
   have a2 := bln_pow r (ldz l).length
   have a3 : bln r ≤ 6 := bln_le (by omega)
   have a4 : bln r * (ldz l).length ≤ 6 * 1024 := Nat.mul_le_mul a3 (by omega)
   omega
  have C2 : Hid (∀ V, Cp 134 #[.string (strOf l), .int .i64 r] V (NOk (num r l) V)) := Lib.hid (fun V => by
   have hbl := bl_strOf hb
   have h := parse_ok (strOf l) r V (by rw [strOf_size]; exact hs) h2 h36 (adB_all (by rw [hbl]; exact h0) (by rw [hbl]; exact hd))
   rw [sv_num, hbl] at h
   exact h.mono fun e w' x => NOk.of (lng_bln hbn) x)
  have C3 : Hid (∀ V A n c, NV V A n c (num r l) → Ct 153 #[.slice A n c] (.float .f64 (fl (num r l))) V) := Lib.hid (fun V A n c g => by
   have a1 := small_len hbn
   rw [g.len] at a1
   have := pfloat_any A n c (wds (num r l)) V g.len g.cap (by omega) g.row
   rw [wds_val] at this
   exact this)
  have key : natV r l = fl (num r l) := (fl_decR _).symm
  rw [key]
  exact twhole_low _ _ r _ w C1 (decide_eq_false (by rw [z1]; omega)) C2 C3

end Go.Proofs.YtfcpkdafkmohkaaGreatDoor
namespace Go.Proofs.YtfcpkdafkmohkaaGreatDoor
open Go.RowKit
theorem lower_str (l : List Nat) (w : World) (hl : ∀ c ∈ l, c < 128) (hs : l.length ≤ 140737488355328) :
  Ct 87 #[.string (strOf l)] (.string (strOf (l.map lowC))) w := by
 have hb : ∀ c ∈ l, c < 256 := fun c hc => Nat.lt_trans (hl c hc) (by omega)
 have h := Tryz.strings_ToLower_ascii (strOf l) w (by rw [strOf_size]; exact hs) (asc_of (by rw [bl_strOf hb]; exact hl))
 rw [lower_eq (by rw [bl_strOf hb]; exact hl), bl_strOf hb] at h
 exact h
theorem low_lt {l : List Nat} (hl : ∀ c ∈ l, c < 128) : ∀ c ∈ l.map lowC, c < 256 := by
 intro c hc
 obtain ⟨d, hd, rfl⟩ := List.mem_map.1 hc
 have := hl d hd
 unfold lowC
 split <;> omega
theorem cut_low (l : List Nat) (r : Nat) (w : World) (hr : r ≤ 36) (hl : ∀ c ∈ l, c < 128) (hs : l.length ≤ 140737488355328) :
  Ct 86 #[.string (strOf (l.map lowC)), .int .i64 r] (.tuple #[.string (strOf ((l.takeWhile (dgq r)).map lowC)), .string (strOf ((l.dropWhile (dgq r)).map lowC))]) w := by
 have h := tcutDigits_any (strOf (l.map lowC)) r w hr (by rw [strOf_size, List.length_map]; omega)
 rw [bl_strOf (low_lt hl), take_low, drop_low] at h
 exact h
theorem natV_low (r : Nat) (l : List Nat) : natV r (l.map lowC) = natV r l := by unfold natV; rw [num_low]
theorem take_dgq (r : Nat) (l : List Nat) : ∀ c ∈ l.takeWhile (dgq r), dgt c < r := by
 induction l with
 | nil => intro c hc; simp at hc
 | cons d t ih =>
  intro c hc
  rw [List.takeWhile_cons] at hc
  cases hd : dgq r d
  ·rw [hd] at hc; simp at hc
  ·rw [hd] at hc
   simp only [if_true] at hc
   rcases List.mem_cons.1 hc with rfl | h
   ·exact of_decide_eq_true hd
   ·exact ih c h
theorem drop_nil (p : Nat → Bool) : ∀ l : List Nat, l.dropWhile p = [] ↔ l.all p = true
 | [] => by simp
 | c :: l => by
  by_cases h : p c = true
  ·rw [List.dropWhile_cons_of_pos h, List.all_cons, h, Bool.true_and]
   exact drop_nil p l
  ·rw [List.dropWhile_cons_of_neg h, List.all_cons]
   simp [h]
theorem take_all (p : Nat → Bool) : ∀ l : List Nat, l.all p = true → l.takeWhile p = l
 | [], _ => rfl
 | c :: l, h => by
  rw [List.all_cons, Bool.and_eq_true] at h
  rw [List.takeWhile_cons_of_pos h.1, take_all p l h.2]
theorem dgq_hx : dgq 16 = hx16 := rfl
set_option maxRecDepth 100000 in
set_option maxHeartbeats 1000000 in
theorem thex_no (s u : ByteArray) (w : World) (C1 : Hid (∀ W, Cq 85 #[.string s] (.tuple #[.string u, .bool false]) W)) :
  Ct 67 #[.string s] (.tuple #[.float .f64 0, .bool false]) w := by
 go_enter Tryz.func67, Tryz.ntmps67
 go_wp2_with fail
 refine (C1.out _).mono ?_
 rintro e w' ⟨rfl, rfl⟩
 go_wp2
 go_ret2
 exact ⟨rfl, Below.refl _ _⟩
set_option maxRecDepth 100000 in
set_option maxHeartbeats 1000000 in
theorem thex_not (s u v f q : ByteArray) (w : World) (C1 : Hid (∀ W, Cq 85 #[.string s] (.tuple #[.string u, .bool true]) W))
  (C2 : Hid (∀ W, Ct 87 #[.string u] (.string v) W))
  (C3 : Hid (∀ W, Ct 86 #[.string v, .int .i64 16] (.tuple #[.string f, .string q]) W))
  (t : f.toList.isEmpty = true ∨ (f.toList.isEmpty = false ∧ q.toList.isEmpty = false)) :
  Ct 67 #[.string s] (.tuple #[.float .f64 0, .bool false]) w := by
 rcases t with t1 | ⟨t1, t2⟩
 all_goals
  go_enter Tryz.func67, Tryz.ntmps67
  go_wp2_with fail
  refine (C1.out _).mono ?_
  rintro e w' ⟨rfl, rfl⟩
  go_wp2_with fail
  refine (C2.out _).mono ?_
  rintro e w1 ⟨rfl, b1⟩
  go_wp2_with fail
  refine (C3.out _).mono ?_
  rintro e w2 ⟨rfl, b2⟩
  have B2 := Lib.hid (below_le b1 b2)
  clear b1 b2
  go_wp2
  go_ret2
  exact ⟨rfl, B2.out⟩
set_option maxRecDepth 100000 in
set_option maxHeartbeats 1000000 in
theorem thex_yes (s u v f q : ByteArray) (F : Nat) (w : World) (C1 : Hid (∀ W, Cq 85 #[.string s] (.tuple #[.string u, .bool true]) W))
  (C2 : Hid (∀ W, Ct 87 #[.string u] (.string v) W))
  (C3 : Hid (∀ W, Ct 86 #[.string v, .int .i64 16] (.tuple #[.string f, .string q]) W))
  (C4 : Hid (∀ W, Ct 89 #[.string f, .int .i64 16] (.float .f64 F) W))
  (t1 : f.toList.isEmpty = false) (t2 : q.toList.isEmpty = true) :
  Ct 67 #[.string s] (.tuple #[.float .f64 F, .bool true]) w := by
 go_enter Tryz.func67, Tryz.ntmps67
 go_wp2_with fail
 refine (C1.out _).mono ?_
 rintro e w' ⟨rfl, rfl⟩
 go_wp2_with fail
 refine (C2.out _).mono ?_
 rintro e w1 ⟨rfl, b1⟩
 go_wp2_with fail
 refine (C3.out _).mono ?_
 rintro e w2 ⟨rfl, b2⟩
 have B2 := Lib.hid (below_le b1 b2)
 clear b1 b2
 go_wp2_with fail
 refine (C4.out _).mono ?_
 rintro e w3 ⟨rfl, b3⟩
 have B3 := Lib.hid (below_le B2.out b3)
 clear b3
 go_wp2
 go_ret2
 exact ⟨rfl, B3.out⟩

end Go.Proofs.YtfcpkdafkmohkaaGreatDoor
namespace Go.Proofs.YtfcpkdafkmohkaaGreatDoor
open Go.RowKit
theorem thexadecimal_any (l : List Nat) (w : World) (hl : ∀ c ∈ l, c < 128) (hs : l.length ≤ 140737488355328) :
  Ct 67 #[.string (strOf l)] (.tuple #[.float .f64 (if hxB l = true then natV 16 (l.drop 2) else 0 : Nat), .bool (hxB l)]) w := by
 have hb : ∀ c ∈ l, c < 256 := fun c hc => Nat.lt_trans (hl c hc) (by omega)
 have C1 : ∀ W, Cq 85 #[.string (strOf l)] (.tuple #[.string (strOf (if hxA l = true then l.drop 2 else l)), .bool (hxA l)]) W := by
  intro W
  have := tcutHex_any (strOf l) W
  rw [bl_strOf hb] at this
  exact this
 obtain ⟨u, hu⟩ : ∃ u, l.drop 2 = u := ⟨_, rfl⟩
 have hul : ∀ c ∈ u, c < 128 := fun c hc => hl c (by rw [← hu] at hc; exact List.mem_of_mem_drop hc)
 have hus : u.length ≤ 140737488355328 := by rw [← hu, List.length_drop]; omega
 have hx : hxB l = (hxA l && !u.isEmpty && u.all hx16) := by unfold hxB; rw [hu]
 rw [hu]
 rw [hu] at C1
 cases ha : hxA l
 ·rw [ha] at C1 hx
  rw [hx, Bool.false_and, Bool.false_and, if_neg (by simp)]
  exact thex_no _ _ w (Lib.hid C1)
 ·rw [ha, if_pos rfl] at C1
  rw [ha, Bool.true_and] at hx
  have C2 := Lib.hid (fun W => lower_str u W hul hus)
  have C3 := Lib.hid (fun W => cut_low u 16 W (by omega) hul hus)
  have ne : ∀ R : List Nat, R ≠ [] → (strOf R).toList.isEmpty = false := fun R hR => (str_ne hR).2
  have em : (strOf []).toList.isEmpty = true := by rw [Lib.toList_data]; rfl
  by_cases h1 : u.takeWhile (dgq 16) = []
  ·have hn : hxB l = false := by
    rw [hx]
    cases u with
    | nil => rfl
    | cons c t =>
     have : dgq 16 c = false := by
      cases h : dgq 16 c
      ·rfl
      ·rw [List.takeWhile_cons_of_pos h] at h1; cases h1
     show (true && (hx16 c && t.all hx16)) = false
     rw [← dgq_hx, this]
     rfl
   rw [hn, if_neg (by simp)]
   exact thex_not _ _ _ _ _ w (Lib.hid C1) C2 C3 (Or.inl (by rw [h1]; exact em))
  ·by_cases h2 : u.dropWhile (dgq 16) = []
   ·have h3 := (drop_nil _ _).1 h2
    have h4 := take_all _ _ h3
    have hu0 : u ≠ [] := fun e => h1 (by rw [e]; rfl)
    have hn : hxB l = true := by
     rw [hx, ← dgq_hx, h3, Bool.and_true]
     cases u with
     | nil => exact absurd rfl hu0
     | cons => rfl
    rw [hn, if_pos rfl]
    rw [h4, h2] at C3
    have hd : ∀ c ∈ u, dgt c < 16 := by
     have := take_dgq 16 u
     rw [h4] at this
     exact this
    have C4 : ∀ W, Ct 89 #[.string (strOf (u.map lowC)), .int .i64 16] (.float .f64 (natV 16 u)) W := by
     intro W
     have := twhole_any (u.map lowC) 16 W (by omega) (by omega) (by simpa using hu0) (by
      intro c hc
      obtain ⟨d, hd2, rfl⟩ := List.mem_map.1 hc
      rw [dgt_low]
      exact hd d hd2) (low_lt hul) (by rw [List.length_map]; omega)
     rw [natV_low] at this
     exact this
    exact thex_yes _ _ _ _ _ _ w (Lib.hid C1) C2 C3 (Lib.hid C4) (ne _ (by simpa using hu0)) em
   ·have hn : hxB l = false := by
     rw [hx, ← dgq_hx]
     cases h3 : u.all (dgq 16)
     ·rw [Bool.and_false]
     ·exact absurd ((drop_nil _ _).2 h3) h2
    rw [hn, if_neg (by simp)]
    exact thex_not _ _ _ _ _ w (Lib.hid C1) C2 C3 (Or.inr ⟨ne _ (by simpa using h1), ne _ (by simpa using h2)⟩)
theorem and_sign (x : Nat) (hx : x < 18446744073709551616) : bits BinOp.and IntKind.u64 (x : Int) 9223372036854775808 = ((if fneg x = true then 9223372036854775808 else 0 : Nat) : Int) := by
 show IntKind.u64.wrap ((BitVec.ofInt 64 (x : Int) &&& BitVec.ofInt 64 9223372036854775808).toNat : Int) = _
 have e1 : (BitVec.ofInt 64 (x : Int)) = BitVec.ofNat 64 x := by rw [BitVec.ofInt_natCast]
 have e2 : (BitVec.ofInt 64 9223372036854775808) = BitVec.ofNat 64 (2 ^ 63) := by decide
 rw [e1, e2, BitVec.toNat_and, BitVec.toNat_ofNat, BitVec.toNat_ofNat, Nat.mod_eq_of_lt (by omega : x < 2 ^ 64), Nat.mod_eq_of_lt (by omega : 2 ^ 63 < 2 ^ 64), IntKind.wrap_u64]
 have h2 : x &&& 2 ^ 63 = x / 2 ^ 63 % 2 * 2 ^ 63 := by
  apply Nat.eq_of_testBit_eq
  intro i
  rw [Nat.testBit_and, Nat.testBit_two_pow]
  by_cases h : 63 = i
  ·subst h
   rw [decide_eq_true rfl, Bool.and_true, Nat.testBit_mul_two_pow, Nat.testBit_eq_decide_div_mod_eq]
   simp
  ·rw [decide_eq_false h, Bool.and_false, Nat.testBit_mul_two_pow]
   by_cases hi : 63 ≤ i
   ·have : x / 2 ^ 63 % 2 < 2 ^ (i - 63) := Nat.lt_of_lt_of_le (Nat.mod_lt _ (by omega)) (by have := Nat.pow_le_pow_right (n := 2) (by omega) (show 1 ≤ i - 63 by omega); omega)
    rw [Nat.testBit_lt_two_pow this]; simp
   ·simp [hi]
 rw [h2]
 unfold fneg
 have h4 : x / 2 ^ 63 % 2 = 0 ∨ x / 2 ^ 63 % 2 = 1 := by omega
 rw [show (9223372036854775808 : Nat) = 2 ^ 63 from rfl]
 rcases h4 with h4 | h4 <;> rw [h4] <;> simp
theorem or_sign (s : Bool) {r : Nat} (hr : r < 9223372036854775808) : bits BinOp.or IntKind.u64 (r : Int) ((if s = true then 9223372036854775808 else 0 : Nat) : Int) = ((Ieee.double.word s r : Nat) : Int) := by
 cases s
 ·rw [if_neg (by simp), or_u64 r 0 (by omega) (by omega), Nat.or_zero]; rfl
 ·rw [if_pos rfl, or_u64 r 9223372036854775808 (by omega) (by omega)]
  have := Nat.two_pow_add_eq_or_of_lt (i := 63) (b := r) hr 1
  rw [Nat.or_comm, show (9223372036854775808 : Nat) = 2 ^ 63 * 1 from rfl, ← this]
  rfl
set_option maxRecDepth 100000 in
theorem copysign_word (f x : Nat) (w : World) (hf : f < 18446744073709551616) (hx : x < 18446744073709551616) : Cq 88 #[.float .f64 f, .float .f64 x] (.float .f64 (Ieee.double.word (fneg x) (rung f))) w := by
 have h1 := f64bits_run f w
 have h2 := f64bits_run x w
 have h3 := not_sign f hf
 have h4 := and_sign x hx
 have hr : rung f < 9223372036854775808 := Nat.mod_lt _ (by omega)
 have h5 := or_sign (fneg x) hr
 have h6 := f64from_run (Ieee.double.word (fneg x) (rung f)) w
 obtain ⟨a, ha⟩ : ∃ a, rung f = a := ⟨_, rfl⟩
 obtain ⟨b, hb⟩ : ∃ b : Nat, (if fneg x = true then 9223372036854775808 else 0 : Nat) = b := ⟨_, rfl⟩
 rw [ha] at h3 h5 h6 ⊢
 rw [hb] at h4 h5
 obtain ⟨c, hc⟩ : ∃ c, Ieee.double.word (fneg x) a = c := ⟨_, rfl⟩
 rw [hc] at h5 h6 ⊢
 clear hf hx hr ha hb hc
 go_enter Tryz.func88, Tryz.ntmps88
 go_wp2
 go_ret
 exact ⟨rfl, rfl⟩
theorem word_sg (b : Bool) (x : Nat) : Ieee.double.word b x = sgW b x := by cases b <;> rfl
theorem fneg_sg (b : Bool) : fneg (sgF b) = b := by cases b <;> rfl
theorem tcopysign_any (x : Nat) (b : Bool) (w : World) (hx : x < 9223372036854775808) :
  Cq 88 #[.float .f64 x, .float .f64 (sgF b)] (.float .f64 (sgW b x)) w := by
 have h := copysign_word x (sgF b) w (by omega) (by cases b <;> decide)
 rw [fneg_sg, show rung x = x from Nat.mod_eq_of_lt hx, word_sg] at h
 exact h

end Go.Proofs.YtfcpkdafkmohkaaGreatDoor
namespace Go.Proofs.YtfcpkdafkmohkaaGreatDoor
open Go.RowKit
set_option maxRecDepth 100000 in
set_option maxHeartbeats 1000000 in
theorem tnumber_inf (s u v : ByteArray) (b : Bool) (w : World)
  (C1 : Hid (∀ W, Cq 84 #[.string s] (.tuple #[.float .f64 (sgF b : Nat), .string u]) W))
  (C2 : Hid (∀ W, Cq 131 #[.string u, .string ⟨#[73, 110, 102, 105, 110, 105, 116, 121]⟩] (.tuple #[.string v, .bool true]) W)) :
  Ct 76 #[.string s] (.tuple #[.float .f64 (sgW b 9218868437227405312), .string v, .bool true]) w := by
 have C3 := Lib.hid (fun W => inf1_any W)
 have C4 := Lib.hid (fun W => tcopysign_any 9218868437227405312 b W (by omega))
 go_enter Tryz.func76, Tryz.ntmps76
 go_wp2_with fail
 refine (C1.out _).mono ?_
 rintro e w' ⟨rfl, rfl⟩
 go_wp2_with fail
 refine (C2.out _).mono ?_
 rintro e w' ⟨rfl, rfl⟩
 go_wp2_with fail
 refine (C3.out _).mono ?_
 rintro e w' ⟨rfl, rfl⟩
 go_wp2_with fail
 refine (C4.out _).mono ?_
 rintro e w' ⟨rfl, rfl⟩
 go_wp2
 refine bodyPost_ret (results_tmp3 rfl _ _ _) rfl ?_
 exact ⟨rfl, Below.refl _ _⟩
set_option maxRecDepth 100000 in
set_option maxHeartbeats 1000000 in
theorem tnumber_dec (s u v p q r : ByteArray) (X : Int) (F : Nat) (b : Bool) (w : World) (hF : F < 9223372036854775808)
  (C1 : Hid (∀ W, Cq 84 #[.string s] (.tuple #[.float .f64 (sgF b : Nat), .string u]) W))
  (C2 : Hid (∀ W, Cq 131 #[.string u, .string ⟨#[73, 110, 102, 105, 110, 105, 116, 121]⟩] (.tuple #[.string v, .bool false]) W))
  (C3 : Hid (∀ W, Ct 68 #[.string u] (.tuple #[.agg #[.string p, .string q, .int .i64 X], .string r, .bool true]) W))
  (C4 : Hid (∀ W, Ct 69 #[.agg #[.string p, .string q, .int .i64 X]] (.float .f64 F) W)) :
  Ct 76 #[.string s] (.tuple #[.float .f64 (sgW b F), .string r, .bool true]) w := by
 have C5 := Lib.hid (fun W => tcopysign_any F b W hF)
 clear hF
 go_enter Tryz.func76, Tryz.ntmps76
 go_wp2_with fail
 refine (C1.out _).mono ?_
 rintro e w' ⟨rfl, rfl⟩
 go_wp2_with fail
 refine (C2.out _).mono ?_
 rintro e w' ⟨rfl, rfl⟩
 go_wp2_with fail
 refine (C3.out _).mono ?_
 rintro e w1 ⟨rfl, b1⟩
 have B1 := Lib.hid (alloc_below (.cells #[.string p, .string q, .int .i64 X] 64) b1)
 clear b1
 go_wp2_with fail
 refine (C4.out _).mono ?_
 rintro e w2 ⟨rfl, b2⟩
 have B2 := Lib.hid (below_le B1.out b2)
 clear b2
 go_wp2_with fail
 refine (C5.out _).mono ?_
 rintro e w' ⟨rfl, rfl⟩
 go_wp2
 refine bodyPost_ret (results_tmp3 rfl _ _ _) rfl ?_
 exact ⟨rfl, B2.out⟩
set_option maxRecDepth 100000 in
set_option maxHeartbeats 1000000 in
theorem tnumber_none (s u v : ByteArray) (b : Bool) (w : World)
  (C1 : Hid (∀ W, Cq 84 #[.string s] (.tuple #[.float .f64 (sgF b : Nat), .string u]) W))
  (C2 : Hid (∀ W, Cq 131 #[.string u, .string ⟨#[73, 110, 102, 105, 110, 105, 116, 121]⟩] (.tuple #[.string v, .bool false]) W))
  (C3 : Hid (∀ W, Ct 68 #[.string u] (.tuple #[.agg #[.string ⟨#[]⟩, .string ⟨#[]⟩, .int .i64 0], .string ⟨#[]⟩, .bool false]) W)) :
  Ct 76 #[.string s] (.tuple #[.float .f64 0, .string ⟨#[]⟩, .bool false]) w := by
 go_enter Tryz.func76, Tryz.ntmps76
 go_wp2_with fail
 refine (C1.out _).mono ?_
 rintro e w' ⟨rfl, rfl⟩
 go_wp2_with fail
 refine (C2.out _).mono ?_
 rintro e w' ⟨rfl, rfl⟩
 go_wp2_with fail
 refine (C3.out _).mono ?_
 rintro e w1 ⟨rfl, b1⟩
 have B1 := Lib.hid (alloc_below (.cells #[.string ⟨#[]⟩, .string ⟨#[]⟩, .int .i64 0] 64) b1)
 clear b1
 go_wp2
 refine bodyPost_ret (results_tmp3 rfl _ _ _) rfl ?_
 exact ⟨rfl, B1.out⟩
theorem decR_fin (N : Nat) (e : Int) : decR N e ≤ 9218868437227405312 := by unfold decR rnd; exact Nat.min_le_right _ _
def nbB (l : List Nat) : Bool := infB (unsg l) || dB (unsg l)
def nbV (l : List Nat) : Nat := if infB (unsg l) = true then sgW (sgnB l) 9218868437227405312 else if dB (unsg l) = true then sgW (sgnB l) (dV (unsg l)) else 0
def nbR (l : List Nat) : List Nat := if infB (unsg l) = true then (unsg l).drop 8 else if dB (unsg l) = true then dR (unsg l) else []
theorem tnumber_any (l : List Nat) (w : World) (hl : ∀ c ∈ l, c < 256) (hs : l.length ≤ 140737488355328) :
  Ct 76 #[.string (strOf l)] (.tuple #[.float .f64 (nbV l), .string (strOf (nbR l)), .bool (nbB l)]) w := by
 have C1 : ∀ W, Cq 84 #[.string (strOf l)] (.tuple #[.float .f64 (sgF (sgnB l) : Nat), .string (strOf (unsg l))]) W := by
  intro W
  have := tcutSign_any (strOf l) W
  rw [bl_strOf hl] at this
  exact this
 obtain ⟨u, hu⟩ : ∃ u, unsg l = u := ⟨_, rfl⟩
 have hul : ∀ c ∈ u, c < 256 := fun c hc => hl c (unsg_sub c (by rw [hu]; exact hc))
 have hus : u.length ≤ 140737488355328 := by rw [← hu]; exact Nat.le_trans (unsg_len l) hs
 rw [hu] at C1
 have C2 := fun W => cut_any' (strOf u) ⟨#[73, 110, 102, 105, 110, 105, 116, 121]⟩ W
 rw [bl_strOf hul, show bl ⟨#[73, 110, 102, 105, 110, 105, 116, 121]⟩ = infL from rfl, show (⟨#[73, 110, 102, 105, 110, 105, 116, 121]⟩ : ByteArray).size = 8 from rfl] at C2
 have e1 : infL.isPrefixOf u = infB u := rfl
 rw [e1] at C2
 unfold nbV nbR nbB
 rw [hu]
 cases hi : infB u
 ·rw [hi, if_neg (by simp)] at C2
  simp only [Bool.false_eq_true, if_false, Bool.false_or]
  cases hd : dB u
  ·simp only [Bool.false_eq_true, if_false]
   refine tnumber_none _ _ _ _ w (Lib.hid C1) (Lib.hid C2) (Lib.hid (fun W => ?_))
   have := tcutDecimal_no (strOf u) W (by rw [strOf_size]; omega) (by rw [bl_strOf hul]; exact hd)
   exact this
  ·simp only [if_true]
   refine tnumber_dec _ _ _ _ _ _ _ _ _ w (by have := decR_fin (num 10 (dW u ++ dF u)) (dX u - (dF u).length); unfold dV; omega) (Lib.hid C1) (Lib.hid C2) (Lib.hid (fun W => ?_)) (Lib.hid (fun W => tfloat_dec u W (by omega)))
   have := tcutDecimal_yes (strOf u) W (by rw [strOf_size]; omega) (by rw [bl_strOf hul]; exact hd)
   rw [bl_strOf hul] at this
   exact this
 ·rw [hi, if_pos rfl] at C2
  simp only [if_true, Bool.true_or]
  exact tnumber_inf _ _ _ _ w (Lib.hid C1) (Lib.hid C2)

end Go.Proofs.YtfcpkdafkmohkaaGreatDoor
namespace Go.Proofs.YtfcpkdafkmohkaaGreatDoor
open Go.RowKit
set_option maxRecDepth 100000 in
theorem tnan_any (w : World) : Cq 77 #[] (.float .f64 nanW) w := by
 have h1 : (callFunc 120 #[.int .u64 9221120237041090560]).run Tryz.prog w = .ok (.value (.float .f64 9221120237041090560)) w := f64from_run 9221120237041090560 w
 go_enter Tryz.func77, Tryz.ntmps77
 go_wp2
 go_ret
 exact ⟨rfl, rfl⟩
theorem inf_split {u : List Nat} (h : infB u = true) : u = infL ++ u.drop 8 := by
 unfold infB at h
 obtain ⟨t, ht⟩ := List.isPrefixOf_iff_prefix.1 h
 rw [← ht, show (infL ++ t).drop 8 = t from rfl]
theorem inf_dec {u : List Nat} (h : infB u = true) : dB u = false := by
 rw [inf_split h]
 rfl
theorem inf_all {u : List Nat} : (infB u = true ∧ u.drop 8 = []) ↔ u = infL := by
 constructor
 ·rintro ⟨h1, h2⟩
  have := inf_split h1
  rw [h2, List.append_nil] at this
  exact this
 ·intro h; rw [h]; exact ⟨by decide, by decide⟩
theorem numW_nb (l : List Nat) : numW l = if l = [] then 0 else if hxB l = true then natV 16 (l.drop 2) else if nbB l = true ∧ nbR l = [] then nbV l else nanW := by
 unfold numW
 by_cases h0 : l = []
 ·rw [if_pos h0, if_pos h0]
 ·rw [if_neg h0, if_neg h0]
  by_cases h1 : hxB l = true
  ·rw [if_pos h1, if_pos h1]
  ·rw [if_neg h1, if_neg h1]
   unfold nbB nbR nbV
   cases hi : infB (unsg l)
   ·have hn : ¬ unsg l = infL := fun e => by rw [e] at hi; revert hi; decide
    rw [if_neg hn]
    simp only [Bool.false_or, Bool.false_eq_true, if_false]
    cases hd : dB (unsg l)
    ·simp
    ·simp
   ·have hd := inf_dec hi
    simp only [Bool.true_or, if_true, true_and, hd, Bool.false_eq_true, false_and, if_false]
    by_cases he : (unsg l).drop 8 = []
    ·rw [if_pos (inf_all.1 ⟨hi, he⟩), if_pos he]
    ·rw [if_neg (fun e => he (inf_all.2 e).2), if_neg he]
theorem trim_len (s : ByteArray) : (trimS s).size ≤ s.size := by
 unfold trimS slS
 split
 ·rw [ByteArray.size_extract]; omega
 ·exact Nat.zero_le _
theorem nrw_len (z : Nat) (l : List Nat) : (nrw z l).length = l.length := by unfold nrw; rw [List.length_map]
theorem nrw_size {s : ByteArray} (h : s.size ≤ 140737488355328) : (nrw 0 (us s)).length ≤ 140737488355328 := by
 rw [nrw_len, us_length]
 have := ln_le s
 omega
theorem em_str : (strOf []).toList.isEmpty = true := by rw [Lib.toList_data]; rfl
theorem em_iff (l : List Nat) : (strOf l).toList.isEmpty = decide (l = []) := by
 by_cases h : l = []
 ·rw [h, em_str]; rfl
 ·rw [(str_ne h).2, decide_eq_false h]
set_option maxRecDepth 100000 in
set_option maxHeartbeats 1000000 in
theorem tNumber_walk (s t l r : ByteArray) (H F : Nat) (c1 c2 c3 c4 : Bool) (w : World)
  (C1 : Hid (∀ W, Cp 75 #[.string s] W fun e w' => e = .returned (.string t) ∧ ∃ n, w' = W.drewN n))
  (C2 : Hid (∀ W, Ct 66 #[.string t] (.string l) W))
  (C3 : Hid (∀ W, Ct 67 #[.string l] (.tuple #[.float .f64 H, .bool c2]) W))
  (C4 : Hid (∀ W, Ct 76 #[.string l] (.tuple #[.float .f64 F, .string r, .bool c3]) W))
  (t1 : l.toList.isEmpty = c1) (t2 : r.toList.isEmpty = c4) :
  Ct 28 #[.string s] (.float .f64 (if c1 = true then 0 else if c2 = true then H else if c3 = true ∧ c4 = true then F else nanW : Nat)) w := by
 have C5 := Lib.hid (fun W => tnan_any W)
 cases c1
 ·cases c2
  ·cases c3
   ·simp only [Bool.false_eq_true, if_false, false_and]
    go_enter Tryz.func28, Tryz.ntmps28
    go_wp2_with fail
    refine (C1.out _).mono ?_
    rintro e w' ⟨rfl, n, rfl⟩
    go_wp2_with fail
    refine (C2.out _).mono ?_
    rintro e w1 ⟨rfl, b1⟩
    have B1 := Lib.hid (below_drewN' (Below.refl w.heap.size w) n |>.trans b1)
    clear b1
    go_wp2_with fail
    refine (C3.out _).mono ?_
    rintro e w2 ⟨rfl, b2⟩
    have B2 := Lib.hid (below_le B1.out b2)
    clear b2
    go_wp2_with fail
    refine (C4.out _).mono ?_
    rintro e w3 ⟨rfl, b3⟩
    have B3 := Lib.hid (below_le B2.out b3)
    clear b3
    go_wp2_with fail
    refine (C5.out _).mono ?_
    rintro e w' ⟨rfl, rfl⟩
    go_wp2
    go_ret
    exact ⟨rfl, B3.out⟩
   ·cases c4
    ·simp only [Bool.false_eq_true, if_false, and_false]
     go_enter Tryz.func28, Tryz.ntmps28
     go_wp2_with fail
     refine (C1.out _).mono ?_
     rintro e w' ⟨rfl, n, rfl⟩
     go_wp2_with fail
     refine (C2.out _).mono ?_
     rintro e w1 ⟨rfl, b1⟩
     have B1 := Lib.hid (below_drewN' (Below.refl w.heap.size w) n |>.trans b1)
     clear b1
     go_wp2_with fail
     refine (C3.out _).mono ?_
     rintro e w2 ⟨rfl, b2⟩
     have B2 := Lib.hid (below_le B1.out b2)
     clear b2
     go_wp2_with fail
     refine (C4.out _).mono ?_
     rintro e w3 ⟨rfl, b3⟩
     have B3 := Lib.hid (below_le B2.out b3)
     clear b3
     go_wp2_with fail
     refine (C5.out _).mono ?_
     rintro e w' ⟨rfl, rfl⟩
     go_wp2
     go_ret
     exact ⟨rfl, B3.out⟩
    ·simp only [Bool.false_eq_true, if_false, and_self, if_true]
     go_enter Tryz.func28, Tryz.ntmps28
     go_wp2_with fail
     refine (C1.out _).mono ?_
     rintro e w' ⟨rfl, n, rfl⟩
     go_wp2_with fail
     refine (C2.out _).mono ?_
     rintro e w1 ⟨rfl, b1⟩
     have B1 := Lib.hid (below_drewN' (Below.refl w.heap.size w) n |>.trans b1)
     clear b1
     go_wp2_with fail
     refine (C3.out _).mono ?_
     rintro e w2 ⟨rfl, b2⟩
     have B2 := Lib.hid (below_le B1.out b2)
     clear b2
     go_wp2_with fail
     refine (C4.out _).mono ?_
     rintro e w3 ⟨rfl, b3⟩
     have B3 := Lib.hid (below_le B2.out b3)
     clear b3
     go_wp2
     go_ret
     exact ⟨rfl, B3.out⟩
  ·simp only [Bool.false_eq_true, if_false, if_true]
   go_enter Tryz.func28, Tryz.ntmps28
   go_wp2_with fail
   refine (C1.out _).mono ?_
   rintro e w' ⟨rfl, n, rfl⟩
   go_wp2_with fail
   refine (C2.out _).mono ?_
   rintro e w1 ⟨rfl, b1⟩
   have B1 := Lib.hid (below_drewN' (Below.refl w.heap.size w) n |>.trans b1)
   clear b1
   go_wp2_with fail
   refine (C3.out _).mono ?_
   rintro e w2 ⟨rfl, b2⟩
   have B2 := Lib.hid (below_le B1.out b2)
   clear b2
   go_wp2
   go_ret
   exact ⟨rfl, B2.out⟩
 ·simp only [if_true]
  go_enter Tryz.func28, Tryz.ntmps28
  go_wp2_with fail
  refine (C1.out _).mono ?_
  rintro e w' ⟨rfl, n, rfl⟩
  go_wp2_with fail
  refine (C2.out _).mono ?_
  rintro e w1 ⟨rfl, b1⟩
  have B1 := Lib.hid (below_drewN' (Below.refl w.heap.size w) n |>.trans b1)
  clear b1
  go_wp2
  go_ret
  exact ⟨rfl, B1.out⟩
theorem tNumber_any (s : ByteArray) (w : World) (hs : s.size ≤ 140737488355328) :
  Ct 28 #[.string s] (.float .f64 (numW (nrw 0 (us (trimS s))))) w := by
 have ht := trim_len s
 have hl := nrw_lt (z := 0) (by omega) (us (trimS s))
 have hln := nrw_size (s := trimS s) (by omega)
 obtain ⟨l, hll⟩ : ∃ l, nrw 0 (us (trimS s)) = l := ⟨_, rfl⟩
 have C2 := fun W => tnarrow_any (trimS s) W (by omega)
 rw [hll] at C2 hl hln ⊢
 have h := tNumber_walk s (trimS s) (strOf l) (strOf (nbR l)) _ _ (decide (l = [])) (hxB l) (nbB l) (decide (nbR l = [])) w (Lib.hid (fun W => trim_any s W (by unfold maxLen; omega))) (Lib.hid C2)
  (Lib.hid (fun W => thexadecimal_any l W hl hln)) (Lib.hid (fun W => tnumber_any l W (fun c hc => Nat.lt_trans (hl c hc) (by omega)) hln)) (em_iff l) (em_iff _)
 refine h.mono fun e w' x => ⟨?_, x.2⟩
 rw [x.1, numW_nb]
 simp only [decide_eq_true_eq]
 cases h1 : hxB l
 ·simp only [Bool.false_eq_true, if_false]
 ·simp only [if_true]
end Go.Proofs.YtfcpkdafkmohkaaGreatDoor
namespace Go.Proofs.YtfcpkdafkmohkaaGreatDoor
open Go.RowKit
set_option maxRecDepth 100000 in
set_option maxHeartbeats 2000000 in
theorem ydec_none (s : ByteArray) (K N : Nat) (X : Int) (w : World) (hs : s.size ≤ 281474976710656) (hK : K ≤ s.size) (hN : s.size - K = N)
  (Z1 : Hid (∀ k (h : k < s.size), k < K → (s[k]'h).toNat = 48)) (Z2 : Hid (∀ h : K < s.size, (s[K]'h).toNat ≠ 48))
  (hN0 : N = 0) :
  Ct 104 #[.string s, .int .i64 X] (.float .f64 0) w := by
 have h1 : (s.size : Int) ≤ 281474976710656 := by omega
 have HN := Lib.hid hN
 have HK := Lib.hid hK
 subst hN0
 clear hs hK hN
 go_enter Tryz.func104, Tryz.ntmps104
 go_wp2
 go_loopw [5] (fun i wr => ∃ k : Nat, i = .int .i64 k ∧ k ≤ K ∧ w = wr) (fun i _ => K - (intOf i).toNat)
 case atStart => exact ⟨0, rfl, Nat.zero_le _, rfl⟩
 case round =>
  obtain ⟨k, rfl, hk, rfl⟩ := hrel
  have hk2 := HK.out
  by_cases hlt : k < K
  ·have hks : k < s.size := by omega
   have e0 : ((s[k]'hks).toNat : Int) = 48 := by rw [Z1.out k hks hlt]; rfl
   have a2 : (k : Int) < (s.size : Int) := by omega
   have a1 : (0 : Int) ≤ (k : Int) := by omega
   clear hk2
   go_wp2
   exact ⟨⟨k + 1, by go_num, by omega, trivial⟩, by simp [intOf]; omega⟩
  ·obtain rfl : k = K := by omega
   have a2 : (s.size : Int) = (k : Int) := by have := HN.out; omega
   have a3 : (k : Int) ≤ (s.size : Int) := by omega
   have a1 : (0 : Int) ≤ (k : Int) := by omega
   have a4 : ((s.size - k : Nat) : Int) = 0 := by rw [HN.out]; rfl
   have t1 : decide ((k : Int) < (s.size : Int)) = false := decide_eq_false (by omega)
   clear hk2 a2
   go_wp2
   go_ret
   exact ⟨rfl, Below.refl _ _⟩
set_option maxRecDepth 100000 in
set_option maxHeartbeats 2000000 in
theorem ydec_high (s : ByteArray) (K N : Nat) (X P : Int) (w : World) (hs : s.size ≤ 281474976710656) (hK : K ≤ s.size) (hN : s.size - K = N)
  (Z1 : Hid (∀ k (h : k < s.size), k < K → (s[k]'h).toNat = 48)) (Z2 : Hid (∀ h : K < s.size, (s[K]'h).toNat ≠ 48))
  (hN0 : 0 < N) (p1 : wrap64 ((N : Int) + X) = P) (t0 : ((N : Int) == 0) = false) (t1 : decide (400 < P) = true) :
  Ct 104 #[.string s, .int .i64 X] (.float .f64 9218868437227405312) w := by
 have h1 : (s.size : Int) ≤ 281474976710656 := by omega
 have HN := Lib.hid hN
 have HK := Lib.hid hK
 have HN0 := Lib.hid hN0
 clear hs hK hN hN0
 go_enter Tryz.func104, Tryz.ntmps104
 go_wp2
 go_loopw [5] (fun i wr => ∃ k : Nat, i = .int .i64 k ∧ k ≤ K ∧ w = wr) (fun i _ => K - (intOf i).toNat)
 case atStart => exact ⟨0, rfl, Nat.zero_le _, rfl⟩
 case round =>
  obtain ⟨k, rfl, hk, rfl⟩ := hrel
  have hk2 := HK.out
  by_cases hlt : k < K
  ·have hks : k < s.size := by omega
   have e0 : ((s[k]'hks).toNat : Int) = 48 := by rw [Z1.out k hks hlt]; rfl
   have a2 : (k : Int) < (s.size : Int) := by omega
   have a1 : (0 : Int) ≤ (k : Int) := by omega
   clear hk2
   go_wp2
   exact ⟨⟨k + 1, by go_num, by omega, trivial⟩, by simp [intOf]; omega⟩
  ·obtain rfl : k = K := by omega
   have hz : k < s.size := by have := HN.out; have := HN0.out; omega
   obtain ⟨B, hB⟩ : ∃ B : Nat, (s[k]'hz).toNat = B := ⟨_, rfl⟩
   have hB48 := Z2.out hz
   rw [hB] at hB48
   have e0 : ((s[k]'hz).toNat : Int) = (B : Int) := by rw [hB]
   have e1 : ((B : Int) == 48) = false := by rw [beq_eq_false_iff_ne]; omega
   have a2 : (k : Int) < (s.size : Int) := by omega
   have a1 : (0 : Int) ≤ (k : Int) := by omega
   have a3 : (k : Int) ≤ (s.size : Int) := by omega
   have a4 : ((s.size - k : Nat) : Int) = (N : Int) := by rw [HN.out]
   clear hk2 hB hB48
   have C3 := Lib.hid (fun W => inf1_any W)
   go_wp2_with fail
   refine (C3.out _).mono ?_
   rintro e w' ⟨rfl, rfl⟩
   go_wp2
   go_ret
   exact ⟨rfl, Below.refl _ _⟩
set_option maxRecDepth 100000 in
set_option maxHeartbeats 2000000 in
theorem ydec_low (s : ByteArray) (K N : Nat) (X P : Int) (w : World) (hs : s.size ≤ 281474976710656) (hK : K ≤ s.size) (hN : s.size - K = N)
  (Z1 : Hid (∀ k (h : k < s.size), k < K → (s[k]'h).toNat = 48)) (Z2 : Hid (∀ h : K < s.size, (s[K]'h).toNat ≠ 48))
  (hN0 : 0 < N) (p1 : wrap64 ((N : Int) + X) = P) (t0 : ((N : Int) == 0) = false) (t1 : decide (400 < P) = false) (t2 : decide (P < -400) = true) :
  Ct 104 #[.string s, .int .i64 X] (.float .f64 0) w := by
 have h1 : (s.size : Int) ≤ 281474976710656 := by omega
 have HN := Lib.hid hN
 have HK := Lib.hid hK
 have HN0 := Lib.hid hN0
 clear hs hK hN hN0
 go_enter Tryz.func104, Tryz.ntmps104
 go_wp2
 go_loopw [5] (fun i wr => ∃ k : Nat, i = .int .i64 k ∧ k ≤ K ∧ w = wr) (fun i _ => K - (intOf i).toNat)
 case atStart => exact ⟨0, rfl, Nat.zero_le _, rfl⟩
 case round =>
  obtain ⟨k, rfl, hk, rfl⟩ := hrel
  have hk2 := HK.out
  by_cases hlt : k < K
  ·have hks : k < s.size := by omega
   have e0 : ((s[k]'hks).toNat : Int) = 48 := by rw [Z1.out k hks hlt]; rfl
   have a2 : (k : Int) < (s.size : Int) := by omega
   have a1 : (0 : Int) ≤ (k : Int) := by omega
   clear hk2
   go_wp2
   exact ⟨⟨k + 1, by go_num, by omega, trivial⟩, by simp [intOf]; omega⟩
  ·obtain rfl : k = K := by omega
   have hz : k < s.size := by have := HN.out; have := HN0.out; omega
   obtain ⟨B, hB⟩ : ∃ B : Nat, (s[k]'hz).toNat = B := ⟨_, rfl⟩
   have hB48 := Z2.out hz
   rw [hB] at hB48
   have e0 : ((s[k]'hz).toNat : Int) = (B : Int) := by rw [hB]
   have e1 : ((B : Int) == 48) = false := by rw [beq_eq_false_iff_ne]; omega
   have a2 : (k : Int) < (s.size : Int) := by omega
   have a1 : (0 : Int) ≤ (k : Int) := by omega
   have a3 : (k : Int) ≤ (s.size : Int) := by omega
   have a4 : ((s.size - k : Nat) : Int) = (N : Int) := by rw [HN.out]
   clear hk2 hB hB48
   go_wp2
   go_ret
   exact ⟨rfl, Below.refl _ _⟩
set_option maxRecDepth 100000 in
set_option maxHeartbeats 2000000 in
theorem ydec_short_pos (s : ByteArray) (K N : Nat) (X P : Int) (m F : Nat) (D M : Nat) (w : World) (hs : s.size ≤ 281474976710656) (hK : K ≤ s.size) (hN : s.size - K = N)
  (Z1 : Hid (∀ k (h : k < s.size), k < K → (s[k]'h).toNat = 48)) (Z2 : Hid (∀ h : K < s.size, (s[K]'h).toNat ≠ 48))
  (hN0 : 0 < N) (p1 : wrap64 ((N : Int) + X) = P) (t0 : ((N : Int) == 0) = false) (t1 : decide (400 < P) = false) (t2 : decide (P < -400) = false) (t3 : decide (820 < (N : Int)) = false)
  (C3 : Hid (∀ W, Cp 165 #[.string (s.extract K s.size), .int .i64 10] W (NOk m W)))
  (C4 : Hid (∀ W, Cp 115 #[.int .i64 X] W (NRet D W)))
  (C5 : Hid (∀ W A1 n1 c1 A2 n2 c2, NV W A1 n1 c1 m → NV W A2 n2 c2 D → Cp 51 #[.slice A1 n1 c1, .slice A2 n2 c2] W (NRet M W)))
  (C6 : Hid (∀ W A1 n1 c1, NV W A1 n1 c1 M → Ct 154 #[.slice A1 n1 c1, .int .i64 0] (.float .f64 F) W))
  (u0 : decide (0 ≤ X) = true) :
  Ct 104 #[.string s, .int .i64 X] (.float .f64 F) w := by
 have h1 : (s.size : Int) ≤ 281474976710656 := by omega
 have HN := Lib.hid hN
 have HK := Lib.hid hK
 have HN0 := Lib.hid hN0
 clear hs hK hN hN0
 go_enter Tryz.func104, Tryz.ntmps104
 go_wp2
 go_loopw [5] (fun i wr => ∃ k : Nat, i = .int .i64 k ∧ k ≤ K ∧ w = wr) (fun i _ => K - (intOf i).toNat)
 case atStart => exact ⟨0, rfl, Nat.zero_le _, rfl⟩
 case round =>
  obtain ⟨k, rfl, hk, rfl⟩ := hrel
  have hk2 := HK.out
  by_cases hlt : k < K
  ·have hks : k < s.size := by omega
   have e0 : ((s[k]'hks).toNat : Int) = 48 := by rw [Z1.out k hks hlt]; rfl
   have a2 : (k : Int) < (s.size : Int) := by omega
   have a1 : (0 : Int) ≤ (k : Int) := by omega
   clear hk2
   go_wp2
   exact ⟨⟨k + 1, by go_num, by omega, trivial⟩, by simp [intOf]; omega⟩
  ·obtain rfl : k = K := by omega
   have hz : k < s.size := by have := HN.out; have := HN0.out; omega
   obtain ⟨B, hB⟩ : ∃ B : Nat, (s[k]'hz).toNat = B := ⟨_, rfl⟩
   have hB48 := Z2.out hz
   rw [hB] at hB48
   have e0 : ((s[k]'hz).toNat : Int) = (B : Int) := by rw [hB]
   have e1 : ((B : Int) == 48) = false := by rw [beq_eq_false_iff_ne]; omega
   have a2 : (k : Int) < (s.size : Int) := by omega
   have a1 : (0 : Int) ≤ (k : Int) := by omega
   have a3 : (k : Int) ≤ (s.size : Int) := by omega
   have a4 : ((s.size - k : Nat) : Int) = (N : Int) := by rw [HN.out]
   clear hk2 hB hB48
   go_wp2_with fail
   refine (C3.out _).mono ?_
   rintro e w1 ⟨A1, n1, c1, rfl, g1, b1⟩
   have G1 := Lib.hid g1
   have B1 := Lib.hid b1
   clear g1 b1
   go_wp2_with fail
   refine (C4.out _).mono ?_
   rintro e w2 ⟨A2, n2, c2, rfl, g2, b2⟩
   have G2 := Lib.hid g2
   have G1a := Lib.hid (G1.out.step b2)
   have B2 := Lib.hid (below_le B1.out b2)
   clear g2 b2
   go_wp2_with fail
   refine (C5.out _ _ _ _ _ _ _ G1a.out G2.out).mono ?_
   rintro e w3 ⟨A3, n3, c3, rfl, g3, b3⟩
   have G3 := Lib.hid g3
   have B3 := Lib.hid (below_le B2.out b3)
   clear g3 b3
   go_wp2_with fail
   refine (C6.out _ _ _ _ G3.out).mono ?_
   rintro e w4 ⟨rfl, b4⟩
   have B4 := Lib.hid (below_le B3.out b4)
   clear b4
   go_wp2
   go_ret
   exact ⟨rfl, B4.out⟩
set_option maxRecDepth 100000 in
set_option maxHeartbeats 2000000 in
theorem ydec_short_neg00 (s : ByteArray) (K N : Nat) (X P : Int) (m F : Nat) (D M Q bd ba : Nat) (x1 up Y : Int) (w : World) (hs : s.size ≤ 281474976710656) (hK : K ≤ s.size) (hN : s.size - K = N)
  (Z1 : Hid (∀ k (h : k < s.size), k < K → (s[k]'h).toNat = 48)) (Z2 : Hid (∀ h : K < s.size, (s[K]'h).toNat ≠ 48))
  (hN0 : 0 < N) (p1 : wrap64 ((N : Int) + X) = P) (t0 : ((N : Int) == 0) = false) (t1 : decide (400 < P) = false) (t2 : decide (P < -400) = false) (t3 : decide (820 < (N : Int)) = false)
  (C3 : Hid (∀ W, Cp 165 #[.string (s.extract K s.size), .int .i64 10] W (NOk m W)))
  (C4 : Hid (∀ W, Cp 115 #[.int .i64 (-X)] W (NRet D W)))
  (C5 : Hid (∀ W A1 n1 c1, NV W A1 n1 c1 D → Ct 163 #[.slice A1 n1 c1] (.int .i64 (bd : Nat)) W))
  (C6 : Hid (∀ W A1 n1 c1, NV W A1 n1 c1 m → Ct 163 #[.slice A1 n1 c1] (.int .i64 (ba : Nat)) W))
  (C7 : Hid (∀ W A1 n1 c1, NV W A1 n1 c1 m → Cp 102 #[.slice A1 n1 c1, .int .i64 0] W (NRet M W)))
  (C8 : Hid (∀ W A1 n1 c1 A2 n2 c2, NV W A1 n1 c1 M → NV W A2 n2 c2 D → Cp 49 #[.slice A1 n1 c1, .slice A2 n2 c2] W (HRet M D W)))
  (C9 : Hid (∀ W A1 n1 c1, NV W A1 n1 c1 (M / D) → Cp 102 #[.slice A1 n1 c1, .int .i64 1] W (NRet Q W)))
  (C11 : Hid (∀ W A1 n1 c1, NV W A1 n1 c1 Q → Ct 154 #[.slice A1 n1 c1, .int .i64 Y] (.float .f64 F) W))
  (hrem : M % D = 0)
  (u0 : decide (0 ≤ X) = false) (u1 : wrap64 (-X) = -X) (u2 : wrap64 ((bd : Int) - (ba : Int)) = x1) (u3 : wrap64 (x1 + 70) = up) (u4 : decide (up < 0) = true) (u6 : Y = -1) :
  Ct 104 #[.string s, .int .i64 X] (.float .f64 F) w := by
 have h1 : (s.size : Int) ≤ 281474976710656 := by omega
 have HN := Lib.hid hN
 have HK := Lib.hid hK
 have HN0 := Lib.hid hN0
 have HREM := Lib.hid hrem
 subst u6
 clear hs hK hN hN0 hrem
 go_enter Tryz.func104, Tryz.ntmps104
 go_wp2
 go_loopw [5] (fun i wr => ∃ k : Nat, i = .int .i64 k ∧ k ≤ K ∧ w = wr) (fun i _ => K - (intOf i).toNat)
 case atStart => exact ⟨0, rfl, Nat.zero_le _, rfl⟩
 case round =>
  obtain ⟨k, rfl, hk, rfl⟩ := hrel
  have hk2 := HK.out
  by_cases hlt : k < K
  ·have hks : k < s.size := by omega
   have e0 : ((s[k]'hks).toNat : Int) = 48 := by rw [Z1.out k hks hlt]; rfl
   have a2 : (k : Int) < (s.size : Int) := by omega
   have a1 : (0 : Int) ≤ (k : Int) := by omega
   clear hk2
   go_wp2
   exact ⟨⟨k + 1, by go_num, by omega, trivial⟩, by simp [intOf]; omega⟩
  ·obtain rfl : k = K := by omega
   have hz : k < s.size := by have := HN.out; have := HN0.out; omega
   obtain ⟨B, hB⟩ : ∃ B : Nat, (s[k]'hz).toNat = B := ⟨_, rfl⟩
   have hB48 := Z2.out hz
   rw [hB] at hB48
   have e0 : ((s[k]'hz).toNat : Int) = (B : Int) := by rw [hB]
   have e1 : ((B : Int) == 48) = false := by rw [beq_eq_false_iff_ne]; omega
   have a2 : (k : Int) < (s.size : Int) := by omega
   have a1 : (0 : Int) ≤ (k : Int) := by omega
   have a3 : (k : Int) ≤ (s.size : Int) := by omega
   have a4 : ((s.size - k : Nat) : Int) = (N : Int) := by rw [HN.out]
   clear hk2 hB hB48
   go_wp2_with fail
   refine (C3.out _).mono ?_
   rintro e w1 ⟨A1, n1, c1, rfl, g1, b1⟩
   have G1 := Lib.hid g1
   have B1 := Lib.hid b1
   clear g1 b1
   go_wp2_with fail
   refine (C4.out _).mono ?_
   rintro e w2 ⟨A2, n2, c2, rfl, g2, b2⟩
   have G2 := Lib.hid g2
   have G1a := Lib.hid (G1.out.step b2)
   have B2 := Lib.hid (below_le B1.out b2)
   clear g2 b2
   go_wp2_with fail
   refine (C5.out _ _ _ _ G2.out).mono ?_
   rintro e w3 ⟨rfl, b3⟩
   have G2a := Lib.hid (G2.out.step b3)
   have G1b := Lib.hid (G1a.out.step b3)
   have B3 := Lib.hid (below_le B2.out b3)
   clear b3
   go_wp2_with fail
   refine (C6.out _ _ _ _ G1b.out).mono ?_
   rintro e w4 ⟨rfl, b4⟩
   have G2b := Lib.hid (G2a.out.step b4)
   have G1c := Lib.hid (G1b.out.step b4)
   have B4 := Lib.hid (below_le B3.out b4)
   clear b4
   go_wp2_with fail
   refine (C7.out _ _ _ _ G1c.out).mono ?_
   rintro e w5 ⟨A5, n5, c5, rfl, g5, b5⟩
   have G5 := Lib.hid g5
   have G25 := Lib.hid (G2b.out.step b5)
   have B5 := Lib.hid (below_le B4.out b5)
   clear g5 b5
   go_wp2_with fail
   refine (C8.out _ _ _ _ _ _ _ G5.out G25.out).mono ?_
   rintro e w6 ⟨A6, n6, c6, A7, n7, c7, rfl, g6, g7, b6⟩
   have G6 := Lib.hid g6
   have B6 := Lib.hid (below_le B5.out b6)
   obtain rfl : n7 = 0 := by
    have h1 := g7.len
    rw [HREM.out] at h1
    exact h1.symm
   clear g6 g7 b6
   go_wp2_with fail
   refine (C9.out _ _ _ _ G6.out).mono ?_
   rintro e w7 ⟨A8, n8, c8, rfl, g8, b7⟩
   have G8 := Lib.hid g8
   have B7 := Lib.hid (below_le B6.out b7)
   clear g8 b7
   go_wp2_with fail
   refine (C11.out _ _ _ _ G8.out).mono ?_
   rintro e w9 ⟨rfl, b9⟩
   have B9 := Lib.hid (below_le B7.out b9)
   clear b9
   go_wp2
   go_ret
   exact ⟨rfl, B9.out⟩
set_option maxRecDepth 100000 in
set_option maxHeartbeats 2000000 in
theorem ydec_short_neg01 (s : ByteArray) (K N : Nat) (X P : Int) (m F : Nat) (D M Q Q2 bd ba : Nat) (x1 up Y : Int) (w : World) (hs : s.size ≤ 281474976710656) (hK : K ≤ s.size) (hN : s.size - K = N)
  (Z1 : Hid (∀ k (h : k < s.size), k < K → (s[k]'h).toNat = 48)) (Z2 : Hid (∀ h : K < s.size, (s[K]'h).toNat ≠ 48))
  (hN0 : 0 < N) (p1 : wrap64 ((N : Int) + X) = P) (t0 : ((N : Int) == 0) = false) (t1 : decide (400 < P) = false) (t2 : decide (P < -400) = false) (t3 : decide (820 < (N : Int)) = false)
  (C3 : Hid (∀ W, Cp 165 #[.string (s.extract K s.size), .int .i64 10] W (NOk m W)))
  (C4 : Hid (∀ W, Cp 115 #[.int .i64 (-X)] W (NRet D W)))
  (C5 : Hid (∀ W A1 n1 c1, NV W A1 n1 c1 D → Ct 163 #[.slice A1 n1 c1] (.int .i64 (bd : Nat)) W))
  (C6 : Hid (∀ W A1 n1 c1, NV W A1 n1 c1 m → Ct 163 #[.slice A1 n1 c1] (.int .i64 (ba : Nat)) W))
  (C7 : Hid (∀ W A1 n1 c1, NV W A1 n1 c1 m → Cp 102 #[.slice A1 n1 c1, .int .i64 0] W (NRet M W)))
  (C8 : Hid (∀ W A1 n1 c1 A2 n2 c2, NV W A1 n1 c1 M → NV W A2 n2 c2 D → Cp 49 #[.slice A1 n1 c1, .slice A2 n2 c2] W (HRet M D W)))
  (C9 : Hid (∀ W A1 n1 c1, NV W A1 n1 c1 (M / D) → Cp 102 #[.slice A1 n1 c1, .int .i64 1] W (NRet Q W)))
  (C10 : Hid (∀ W A1 n1 c1 A2 n2 c2, NV W A1 n1 c1 Q → NV W A2 n2 c2 1 → Cp 103 #[.slice A1 n1 c1, .slice A2 n2 c2] W (NRet Q2 W)))
  (C11 : Hid (∀ W A1 n1 c1, NV W A1 n1 c1 Q2 → Ct 154 #[.slice A1 n1 c1, .int .i64 Y] (.float .f64 F) W))
  (hrem : M % D ≠ 0)
  (u0 : decide (0 ≤ X) = false) (u1 : wrap64 (-X) = -X) (u2 : wrap64 ((bd : Int) - (ba : Int)) = x1) (u3 : wrap64 (x1 + 70) = up) (u4 : decide (up < 0) = true) (u6 : Y = -1) :
  Ct 104 #[.string s, .int .i64 X] (.float .f64 F) w := by
 have h1 : (s.size : Int) ≤ 281474976710656 := by omega
 have HN := Lib.hid hN
 have HK := Lib.hid hK
 have HN0 := Lib.hid hN0
 have HREM := Lib.hid hrem
 subst u6
 clear hs hK hN hN0 hrem
 go_enter Tryz.func104, Tryz.ntmps104
 go_wp2
 go_loopw [5] (fun i wr => ∃ k : Nat, i = .int .i64 k ∧ k ≤ K ∧ w = wr) (fun i _ => K - (intOf i).toNat)
 case atStart => exact ⟨0, rfl, Nat.zero_le _, rfl⟩
 case round =>
  obtain ⟨k, rfl, hk, rfl⟩ := hrel
  have hk2 := HK.out
  by_cases hlt : k < K
  ·have hks : k < s.size := by omega
   have e0 : ((s[k]'hks).toNat : Int) = 48 := by rw [Z1.out k hks hlt]; rfl
   have a2 : (k : Int) < (s.size : Int) := by omega
   have a1 : (0 : Int) ≤ (k : Int) := by omega
   clear hk2
   go_wp2
   exact ⟨⟨k + 1, by go_num, by omega, trivial⟩, by simp [intOf]; omega⟩
  ·obtain rfl : k = K := by omega
   have hz : k < s.size := by have := HN.out; have := HN0.out; omega
   obtain ⟨B, hB⟩ : ∃ B : Nat, (s[k]'hz).toNat = B := ⟨_, rfl⟩
   have hB48 := Z2.out hz
   rw [hB] at hB48
   have e0 : ((s[k]'hz).toNat : Int) = (B : Int) := by rw [hB]
   have e1 : ((B : Int) == 48) = false := by rw [beq_eq_false_iff_ne]; omega
   have a2 : (k : Int) < (s.size : Int) := by omega
   have a1 : (0 : Int) ≤ (k : Int) := by omega
   have a3 : (k : Int) ≤ (s.size : Int) := by omega
   have a4 : ((s.size - k : Nat) : Int) = (N : Int) := by rw [HN.out]
   clear hk2 hB hB48
   go_wp2_with fail
   refine (C3.out _).mono ?_
   rintro e w1 ⟨A1, n1, c1, rfl, g1, b1⟩
   have G1 := Lib.hid g1
   have B1 := Lib.hid b1
   clear g1 b1
   go_wp2_with fail
   refine (C4.out _).mono ?_
   rintro e w2 ⟨A2, n2, c2, rfl, g2, b2⟩
   have G2 := Lib.hid g2
   have G1a := Lib.hid (G1.out.step b2)
   have B2 := Lib.hid (below_le B1.out b2)
   clear g2 b2
   go_wp2_with fail
   refine (C5.out _ _ _ _ G2.out).mono ?_
   rintro e w3 ⟨rfl, b3⟩
   have G2a := Lib.hid (G2.out.step b3)
   have G1b := Lib.hid (G1a.out.step b3)
   have B3 := Lib.hid (below_le B2.out b3)
   clear b3
   go_wp2_with fail
   refine (C6.out _ _ _ _ G1b.out).mono ?_
   rintro e w4 ⟨rfl, b4⟩
   have G2b := Lib.hid (G2a.out.step b4)
   have G1c := Lib.hid (G1b.out.step b4)
   have B4 := Lib.hid (below_le B3.out b4)
   clear b4
   go_wp2_with fail
   refine (C7.out _ _ _ _ G1c.out).mono ?_
   rintro e w5 ⟨A5, n5, c5, rfl, g5, b5⟩
   have G5 := Lib.hid g5
   have G25 := Lib.hid (G2b.out.step b5)
   have B5 := Lib.hid (below_le B4.out b5)
   clear g5 b5
   go_wp2_with fail
   refine (C8.out _ _ _ _ _ _ _ G5.out G25.out).mono ?_
   rintro e w6 ⟨A6, n6, c6, A7, n7, c7, rfl, g6, g7, b6⟩
   have G6 := Lib.hid g6
   have B6 := Lib.hid (below_le B5.out b6)
   have hn7 : (0 : Int) < (n7 : Int) := by
    have h1 := g7.len
    have h2 : (wds (M % D)) ≠ [] := fun e => HREM.out (by have h3 := wds_val (M % D); rw [e] at h3; exact h3.symm)
    have := List.length_pos_iff.2 h2
    omega
   clear g6 g7 b6
   go_wp2_with fail
   refine (C9.out _ _ _ _ G6.out).mono ?_
   rintro e w7 ⟨A8, n8, c8, rfl, g8, b7⟩
   have G8 := Lib.hid g8
   have B7 := Lib.hid (below_le B6.out b7)
   clear g8 b7
   have bl := Lib.hid (show Below w7.heap.size w7 (w7.alloc (.cells #[.int .u32 1] 42)) from (Below.refl _ _).alloc (Nat.le_refl _) _)
   have C10' := Lib.hid (C10.out _ _ _ _ _ _ _ (G8.out.step bl.out) (NV.lit w7 1 (by omega) (by omega)))
   go_wp2_with fail
   refine C10'.out.mono ?_
   rintro e w8 ⟨A9, n9, c9, rfl, g9, b8⟩
   have G9 := Lib.hid g9
   have B8 := Lib.hid (below_le (below_le B7.out bl.out) b8)
   clear g9 b8
   go_wp2_with fail
   refine (C11.out _ _ _ _ G9.out).mono ?_
   rintro e w9 ⟨rfl, b9⟩
   have B9 := Lib.hid (below_le B8.out b9)
   clear b9
   go_wp2
   go_ret
   exact ⟨rfl, B9.out⟩
set_option maxRecDepth 100000 in
set_option maxHeartbeats 2000000 in
theorem ydec_short_neg10 (s : ByteArray) (K N : Nat) (X P : Int) (m F : Nat) (D M Q bd ba : Nat) (x1 up x2 Y : Int) (w : World) (hs : s.size ≤ 281474976710656) (hK : K ≤ s.size) (hN : s.size - K = N)
  (Z1 : Hid (∀ k (h : k < s.size), k < K → (s[k]'h).toNat = 48)) (Z2 : Hid (∀ h : K < s.size, (s[K]'h).toNat ≠ 48))
  (hN0 : 0 < N) (p1 : wrap64 ((N : Int) + X) = P) (t0 : ((N : Int) == 0) = false) (t1 : decide (400 < P) = false) (t2 : decide (P < -400) = false) (t3 : decide (820 < (N : Int)) = false)
  (C3 : Hid (∀ W, Cp 165 #[.string (s.extract K s.size), .int .i64 10] W (NOk m W)))
  (C4 : Hid (∀ W, Cp 115 #[.int .i64 (-X)] W (NRet D W)))
  (C5 : Hid (∀ W A1 n1 c1, NV W A1 n1 c1 D → Ct 163 #[.slice A1 n1 c1] (.int .i64 (bd : Nat)) W))
  (C6 : Hid (∀ W A1 n1 c1, NV W A1 n1 c1 m → Ct 163 #[.slice A1 n1 c1] (.int .i64 (ba : Nat)) W))
  (C7 : Hid (∀ W A1 n1 c1, NV W A1 n1 c1 m → Cp 102 #[.slice A1 n1 c1, .int .i64 up] W (NRet M W)))
  (C8 : Hid (∀ W A1 n1 c1 A2 n2 c2, NV W A1 n1 c1 M → NV W A2 n2 c2 D → Cp 49 #[.slice A1 n1 c1, .slice A2 n2 c2] W (HRet M D W)))
  (C9 : Hid (∀ W A1 n1 c1, NV W A1 n1 c1 (M / D) → Cp 102 #[.slice A1 n1 c1, .int .i64 1] W (NRet Q W)))
  (C11 : Hid (∀ W A1 n1 c1, NV W A1 n1 c1 Q → Ct 154 #[.slice A1 n1 c1, .int .i64 Y] (.float .f64 F) W))
  (hrem : M % D = 0)
  (u0 : decide (0 ≤ X) = false) (u1 : wrap64 (-X) = -X) (u2 : wrap64 ((bd : Int) - (ba : Int)) = x1) (u3 : wrap64 (x1 + 70) = up) (u4 : decide (up < 0) = false) (u5 : wrap64 (-up) = x2) (u6 : wrap64 (x2 - 1) = Y) :
  Ct 104 #[.string s, .int .i64 X] (.float .f64 F) w := by
 have h1 : (s.size : Int) ≤ 281474976710656 := by omega
 have HN := Lib.hid hN
 have HK := Lib.hid hK
 have HN0 := Lib.hid hN0
 have HREM := Lib.hid hrem
 clear hs hK hN hN0 hrem
 go_enter Tryz.func104, Tryz.ntmps104
 go_wp2
 go_loopw [5] (fun i wr => ∃ k : Nat, i = .int .i64 k ∧ k ≤ K ∧ w = wr) (fun i _ => K - (intOf i).toNat)
 case atStart => exact ⟨0, rfl, Nat.zero_le _, rfl⟩
 case round =>
  obtain ⟨k, rfl, hk, rfl⟩ := hrel
  have hk2 := HK.out
  by_cases hlt : k < K
  ·have hks : k < s.size := by omega
   have e0 : ((s[k]'hks).toNat : Int) = 48 := by rw [Z1.out k hks hlt]; rfl
   have a2 : (k : Int) < (s.size : Int) := by omega
   have a1 : (0 : Int) ≤ (k : Int) := by omega
   clear hk2
   go_wp2
   exact ⟨⟨k + 1, by go_num, by omega, trivial⟩, by simp [intOf]; omega⟩
  ·obtain rfl : k = K := by omega
   have hz : k < s.size := by have := HN.out; have := HN0.out; omega
   obtain ⟨B, hB⟩ : ∃ B : Nat, (s[k]'hz).toNat = B := ⟨_, rfl⟩
   have hB48 := Z2.out hz
   rw [hB] at hB48
   have e0 : ((s[k]'hz).toNat : Int) = (B : Int) := by rw [hB]
   have e1 : ((B : Int) == 48) = false := by rw [beq_eq_false_iff_ne]; omega
   have a2 : (k : Int) < (s.size : Int) := by omega
   have a1 : (0 : Int) ≤ (k : Int) := by omega
   have a3 : (k : Int) ≤ (s.size : Int) := by omega
   have a4 : ((s.size - k : Nat) : Int) = (N : Int) := by rw [HN.out]
   clear hk2 hB hB48
   go_wp2_with fail
   refine (C3.out _).mono ?_
   rintro e w1 ⟨A1, n1, c1, rfl, g1, b1⟩
   have G1 := Lib.hid g1
   have B1 := Lib.hid b1
   clear g1 b1
   go_wp2_with fail
   refine (C4.out _).mono ?_
   rintro e w2 ⟨A2, n2, c2, rfl, g2, b2⟩
   have G2 := Lib.hid g2
   have G1a := Lib.hid (G1.out.step b2)
   have B2 := Lib.hid (below_le B1.out b2)
   clear g2 b2
   go_wp2_with fail
   refine (C5.out _ _ _ _ G2.out).mono ?_
   rintro e w3 ⟨rfl, b3⟩
   have G2a := Lib.hid (G2.out.step b3)
   have G1b := Lib.hid (G1a.out.step b3)
   have B3 := Lib.hid (below_le B2.out b3)
   clear b3
   go_wp2_with fail
   refine (C6.out _ _ _ _ G1b.out).mono ?_
   rintro e w4 ⟨rfl, b4⟩
   have G2b := Lib.hid (G2a.out.step b4)
   have G1c := Lib.hid (G1b.out.step b4)
   have B4 := Lib.hid (below_le B3.out b4)
   clear b4
   go_wp2_with fail
   refine (C7.out _ _ _ _ G1c.out).mono ?_
   rintro e w5 ⟨A5, n5, c5, rfl, g5, b5⟩
   have G5 := Lib.hid g5
   have G25 := Lib.hid (G2b.out.step b5)
   have B5 := Lib.hid (below_le B4.out b5)
   clear g5 b5
   go_wp2_with fail
   refine (C8.out _ _ _ _ _ _ _ G5.out G25.out).mono ?_
   rintro e w6 ⟨A6, n6, c6, A7, n7, c7, rfl, g6, g7, b6⟩
   have G6 := Lib.hid g6
   have B6 := Lib.hid (below_le B5.out b6)
   obtain rfl : n7 = 0 := by
    have h1 := g7.len
    rw [HREM.out] at h1
    exact h1.symm
   clear g6 g7 b6
   go_wp2_with fail
   refine (C9.out _ _ _ _ G6.out).mono ?_
   rintro e w7 ⟨A8, n8, c8, rfl, g8, b7⟩
   have G8 := Lib.hid g8
   have B7 := Lib.hid (below_le B6.out b7)
   clear g8 b7
   go_wp2_with fail
   refine (C11.out _ _ _ _ G8.out).mono ?_
   rintro e w9 ⟨rfl, b9⟩
   have B9 := Lib.hid (below_le B7.out b9)
   clear b9
   go_wp2
   go_ret
   exact ⟨rfl, B9.out⟩
set_option maxRecDepth 100000 in
set_option maxHeartbeats 2000000 in
theorem ydec_short_neg11 (s : ByteArray) (K N : Nat) (X P : Int) (m F : Nat) (D M Q Q2 bd ba : Nat) (x1 up x2 Y : Int) (w : World) (hs : s.size ≤ 281474976710656) (hK : K ≤ s.size) (hN : s.size - K = N)
  (Z1 : Hid (∀ k (h : k < s.size), k < K → (s[k]'h).toNat = 48)) (Z2 : Hid (∀ h : K < s.size, (s[K]'h).toNat ≠ 48))
  (hN0 : 0 < N) (p1 : wrap64 ((N : Int) + X) = P) (t0 : ((N : Int) == 0) = false) (t1 : decide (400 < P) = false) (t2 : decide (P < -400) = false) (t3 : decide (820 < (N : Int)) = false)
  (C3 : Hid (∀ W, Cp 165 #[.string (s.extract K s.size), .int .i64 10] W (NOk m W)))
  (C4 : Hid (∀ W, Cp 115 #[.int .i64 (-X)] W (NRet D W)))
  (C5 : Hid (∀ W A1 n1 c1, NV W A1 n1 c1 D → Ct 163 #[.slice A1 n1 c1] (.int .i64 (bd : Nat)) W))
  (C6 : Hid (∀ W A1 n1 c1, NV W A1 n1 c1 m → Ct 163 #[.slice A1 n1 c1] (.int .i64 (ba : Nat)) W))
  (C7 : Hid (∀ W A1 n1 c1, NV W A1 n1 c1 m → Cp 102 #[.slice A1 n1 c1, .int .i64 up] W (NRet M W)))
  (C8 : Hid (∀ W A1 n1 c1 A2 n2 c2, NV W A1 n1 c1 M → NV W A2 n2 c2 D → Cp 49 #[.slice A1 n1 c1, .slice A2 n2 c2] W (HRet M D W)))
  (C9 : Hid (∀ W A1 n1 c1, NV W A1 n1 c1 (M / D) → Cp 102 #[.slice A1 n1 c1, .int .i64 1] W (NRet Q W)))
  (C10 : Hid (∀ W A1 n1 c1 A2 n2 c2, NV W A1 n1 c1 Q → NV W A2 n2 c2 1 → Cp 103 #[.slice A1 n1 c1, .slice A2 n2 c2] W (NRet Q2 W)))
  (C11 : Hid (∀ W A1 n1 c1, NV W A1 n1 c1 Q2 → Ct 154 #[.slice A1 n1 c1, .int .i64 Y] (.float .f64 F) W))
  (hrem : M % D ≠ 0)
  (u0 : decide (0 ≤ X) = false) (u1 : wrap64 (-X) = -X) (u2 : wrap64 ((bd : Int) - (ba : Int)) = x1) (u3 : wrap64 (x1 + 70) = up) (u4 : decide (up < 0) = false) (u5 : wrap64 (-up) = x2) (u6 : wrap64 (x2 - 1) = Y) :
  Ct 104 #[.string s, .int .i64 X] (.float .f64 F) w := by
 have h1 : (s.size : Int) ≤ 281474976710656 := by omega
 have HN := Lib.hid hN
 have HK := Lib.hid hK
 have HN0 := Lib.hid hN0
 have HREM := Lib.hid hrem
 clear hs hK hN hN0 hrem
 go_enter Tryz.func104, Tryz.ntmps104
 go_wp2
 go_loopw [5] (fun i wr => ∃ k : Nat, i = .int .i64 k ∧ k ≤ K ∧ w = wr) (fun i _ => K - (intOf i).toNat)
 case atStart => exact ⟨0, rfl, Nat.zero_le _, rfl⟩
 case round =>
  obtain ⟨k, rfl, hk, rfl⟩ := hrel
  have hk2 := HK.out
  by_cases hlt : k < K
  ·have hks : k < s.size := by omega
   have e0 : ((s[k]'hks).toNat : Int) = 48 := by rw [Z1.out k hks hlt]; rfl
   have a2 : (k : Int) < (s.size : Int) := by omega
   have a1 : (0 : Int) ≤ (k : Int) := by omega
   clear hk2
   go_wp2
   exact ⟨⟨k + 1, by go_num, by omega, trivial⟩, by simp [intOf]; omega⟩
  ·obtain rfl : k = K := by omega
   have hz : k < s.size := by have := HN.out; have := HN0.out; omega
   obtain ⟨B, hB⟩ : ∃ B : Nat, (s[k]'hz).toNat = B := ⟨_, rfl⟩
   have hB48 := Z2.out hz
   rw [hB] at hB48
   have e0 : ((s[k]'hz).toNat : Int) = (B : Int) := by rw [hB]
   have e1 : ((B : Int) == 48) = false := by rw [beq_eq_false_iff_ne]; omega
   have a2 : (k : Int) < (s.size : Int) := by omega
   have a1 : (0 : Int) ≤ (k : Int) := by omega
   have a3 : (k : Int) ≤ (s.size : Int) := by omega
   have a4 : ((s.size - k : Nat) : Int) = (N : Int) := by rw [HN.out]
   clear hk2 hB hB48
   go_wp2_with fail
   refine (C3.out _).mono ?_
   rintro e w1 ⟨A1, n1, c1, rfl, g1, b1⟩
   have G1 := Lib.hid g1
   have B1 := Lib.hid b1
   clear g1 b1
   go_wp2_with fail
   refine (C4.out _).mono ?_
   rintro e w2 ⟨A2, n2, c2, rfl, g2, b2⟩
   have G2 := Lib.hid g2
   have G1a := Lib.hid (G1.out.step b2)
   have B2 := Lib.hid (below_le B1.out b2)
   clear g2 b2
   go_wp2_with fail
   refine (C5.out _ _ _ _ G2.out).mono ?_
   rintro e w3 ⟨rfl, b3⟩
   have G2a := Lib.hid (G2.out.step b3)
   have G1b := Lib.hid (G1a.out.step b3)
   have B3 := Lib.hid (below_le B2.out b3)
   clear b3
   go_wp2_with fail
   refine (C6.out _ _ _ _ G1b.out).mono ?_
   rintro e w4 ⟨rfl, b4⟩
   have G2b := Lib.hid (G2a.out.step b4)
   have G1c := Lib.hid (G1b.out.step b4)
   have B4 := Lib.hid (below_le B3.out b4)
   clear b4
   go_wp2_with fail
   refine (C7.out _ _ _ _ G1c.out).mono ?_
   rintro e w5 ⟨A5, n5, c5, rfl, g5, b5⟩
   have G5 := Lib.hid g5
   have G25 := Lib.hid (G2b.out.step b5)
   have B5 := Lib.hid (below_le B4.out b5)
   clear g5 b5
   go_wp2_with fail
   refine (C8.out _ _ _ _ _ _ _ G5.out G25.out).mono ?_
   rintro e w6 ⟨A6, n6, c6, A7, n7, c7, rfl, g6, g7, b6⟩
   have G6 := Lib.hid g6
   have B6 := Lib.hid (below_le B5.out b6)
   have hn7 : (0 : Int) < (n7 : Int) := by
    have h1 := g7.len
    have h2 : (wds (M % D)) ≠ [] := fun e => HREM.out (by have h3 := wds_val (M % D); rw [e] at h3; exact h3.symm)
    have := List.length_pos_iff.2 h2
    omega
   clear g6 g7 b6
   go_wp2_with fail
   refine (C9.out _ _ _ _ G6.out).mono ?_
   rintro e w7 ⟨A8, n8, c8, rfl, g8, b7⟩
   have G8 := Lib.hid g8
   have B7 := Lib.hid (below_le B6.out b7)
   clear g8 b7
   have bl := Lib.hid (show Below w7.heap.size w7 (w7.alloc (.cells #[.int .u32 1] 42)) from (Below.refl _ _).alloc (Nat.le_refl _) _)
   have C10' := Lib.hid (C10.out _ _ _ _ _ _ _ (G8.out.step bl.out) (NV.lit w7 1 (by omega) (by omega)))
   go_wp2_with fail
   refine C10'.out.mono ?_
   rintro e w8 ⟨A9, n9, c9, rfl, g9, b8⟩
   have G9 := Lib.hid g9
   have B8 := Lib.hid (below_le (below_le B7.out bl.out) b8)
   clear g9 b8
   go_wp2_with fail
   refine (C11.out _ _ _ _ G9.out).mono ?_
   rintro e w9 ⟨rfl, b9⟩
   have B9 := Lib.hid (below_le B8.out b9)
   clear b9
   go_wp2
   go_ret
   exact ⟨rfl, B9.out⟩

end Go.Proofs.YtfcpkdafkmohkaaGreatDoor
namespace Go.Proofs.YtfcpkdafkmohkaaGreatDoor
open Go.RowKit
set_option maxRecDepth 100000 in
set_option maxHeartbeats 2000000 in
theorem ydec_longn_pos (s : ByteArray) (K N : Nat) (X P : Int) (m F : Nat) (D M : Nat) (g : ByteArray) (y1 : Int) (E : Int) (w : World) (hs : s.size ≤ 281474976710656) (hK : K ≤ s.size) (hN : s.size - K = N)
  (Z1 : Hid (∀ k (h : k < s.size), k < K → (s[k]'h).toNat = 48)) (Z2 : Hid (∀ h : K < s.size, (s[K]'h).toNat ≠ 48))
  (hN0 : 0 < N) (p1 : wrap64 ((N : Int) + X) = P) (t0 : ((N : Int) == 0) = false) (t1 : decide (400 < P) = false) (t2 : decide (P < -400) = false) (t3 : decide (820 < (N : Int)) = true)
  (hg : s.extract K s.size = g) (hgN : g.size = N) (hN8 : 820 < N) (hrb : ((bl g).drop 810).any (· != 48) = false)
  (q0 : wrap64 (X + (N : Int)) = y1) (q1 : wrap64 (y1 - 810) = E)
  (C3 : Hid (∀ W, Cp 165 #[.string (g.extract 0 810), .int .i64 10] W (NOk m W)))
  (C4 : Hid (∀ W, Cp 115 #[.int .i64 E] W (NRet D W)))
  (C5 : Hid (∀ W A1 n1 c1 A2 n2 c2, NV W A1 n1 c1 m → NV W A2 n2 c2 D → Cp 51 #[.slice A1 n1 c1, .slice A2 n2 c2] W (NRet M W)))
  (C6 : Hid (∀ W A1 n1 c1, NV W A1 n1 c1 M → Ct 154 #[.slice A1 n1 c1, .int .i64 0] (.float .f64 F) W))
  (u0 : decide (0 ≤ E) = true) :
  Ct 104 #[.string s, .int .i64 X] (.float .f64 F) w := by
 have h1 : (s.size : Int) ≤ 281474976710656 := by omega
 have HN := Lib.hid hN
 have HK := Lib.hid hK
 have HN0 := Lib.hid hN0
 have HG := Lib.hid hg
 have HGN := Lib.hid hgN
 have HN8 := Lib.hid hN8
 have HRB := Lib.hid hrb
 clear hs hK hN hN0 hg hgN hN8 hrb
 go_enter Tryz.func104, Tryz.ntmps104
 go_wp2
 go_loopw [5] (fun i wr => ∃ k : Nat, i = .int .i64 k ∧ k ≤ K ∧ w = wr) (fun i _ => K - (intOf i).toNat)
 case atStart => exact ⟨0, rfl, Nat.zero_le _, rfl⟩
 case round =>
  obtain ⟨k, rfl, hk, rfl⟩ := hrel
  have hk2 := HK.out
  by_cases hlt : k < K
  ·have hks : k < s.size := by omega
   have e0 : ((s[k]'hks).toNat : Int) = 48 := by rw [Z1.out k hks hlt]; rfl
   have a2 : (k : Int) < (s.size : Int) := by omega
   have a1 : (0 : Int) ≤ (k : Int) := by omega
   clear hk2
   go_wp2
   exact ⟨⟨k + 1, by go_num, by omega, trivial⟩, by simp [intOf]; omega⟩
  ·obtain rfl : k = K := by omega
   have hz : k < s.size := by have := HN.out; have := HN0.out; omega
   obtain ⟨B, hB⟩ : ∃ B : Nat, (s[k]'hz).toNat = B := ⟨_, rfl⟩
   have hB48 := Z2.out hz
   rw [hB] at hB48
   have e0 : ((s[k]'hz).toNat : Int) = (B : Int) := by rw [hB]
   have e1 : ((B : Int) == 48) = false := by rw [beq_eq_false_iff_ne]; omega
   have a2 : (k : Int) < (s.size : Int) := by omega
   have a1 : (0 : Int) ≤ (k : Int) := by omega
   have a3 : (k : Int) ≤ (s.size : Int) := by omega
   have a4 : ((s.size - k : Nat) : Int) = (N : Int) := by rw [HN.out]
   clear hk2 hB hB48
   have hext : s.extract k s.size = g := HG.out
   have b4 : (g.size : Int) = (N : Int) := by rw [HGN.out]
   go_wp2
   clear a1 a2 a3 e0 e1 hext hz b4
   go_loopw [6, 7] (fun v i wr => ∃ j : Nat, i = .int .i64 (810 + (j : Int)) ∧ 810 + j ≤ N ∧ v = .bool ((((bl g).drop 810).take j).any (· != 48)) ∧ w = wr) (fun _ i _ => N - (intOf i).toNat)
   case atStart => exact ⟨0, rfl, by have := HN8.out; omega, rfl, rfl⟩
   case round =>
    obtain ⟨j, rfl, hj, rfl, rfl⟩ := hrel
    by_cases hjl : 810 + j < N
    ·have hgs : 810 + j < g.size := by rw [HGN.out]; exact hjl
     obtain ⟨D8, hD8⟩ : ∃ D8 : Nat, (g[810 + j]'hgs).toNat = D8 := ⟨_, rfl⟩
     have hstep : (((bl g).drop 810).take (j + 1)).any (· != 48) = ((((bl g).drop 810).take j).any (· != 48) || (D8 != 48)) := by
      rw [List.take_add_one, List.getElem?_drop, bl_get g (810 + j) hgs, hD8, List.any_append]
      simp
     have b0 : ((810 + (j : Int)) : Int) < (N : Int) := by omega
     have b1 : (0 : Int) ≤ 810 + (j : Int) := by omega
     have b2 : (810 + (j : Int)).toNat = 810 + j := by omega
     have b3 : ((g[810 + j]'hgs).toNat : Int) = (D8 : Int) := by rw [hD8]
     have b4 : (g.size : Int) = (N : Int) := by rw [HGN.out]
     have b5 : 810 + (j : Int) < (g.size : Int) := by omega
     obtain ⟨r, hr⟩ : ∃ r, (((bl g).drop 810).take j).any (· != 48) = r := ⟨_, rfl⟩
     rw [hr] at hstep ⊢
     have HST := Lib.hid hstep
     clear hstep hr hD8
     cases r
     ·cases h48 : (D8 != 48)
      ·have b6 : ((D8 : Int) != 48) = false := by rw [bne_eq_false_iff_eq]; have := bne_eq_false_iff_eq.1 h48; omega
       have HS2 := Lib.hid (show (((bl g).drop 810).take (j + 1)).any (· != 48) = false from by rw [HST.out, h48]; rfl)
       clear h48
       go_wp2
       exact ⟨⟨j + 1, by go_num, by omega, by rw [HS2.out], trivial⟩, by simp [intOf]; omega⟩
      ·have b6 : ((D8 : Int) != 48) = true := by rw [bne_iff_ne]; have := bne_iff_ne.1 h48; omega
       have HS2 := Lib.hid (show (((bl g).drop 810).take (j + 1)).any (· != 48) = true from by rw [HST.out, h48]; rfl)
       clear h48
       go_wp2
       exact ⟨⟨j + 1, by go_num, by omega, by rw [HS2.out], trivial⟩, by simp [intOf]; omega⟩
     ·have HS2 := Lib.hid (show (((bl g).drop 810).take (j + 1)).any (· != 48) = true from by rw [HST.out]; rfl)
      go_wp2
      exact ⟨⟨j + 1, by go_num, by omega, by rw [HS2.out], trivial⟩, by simp [intOf]; omega⟩
    ·have hz2 : (((bl g).drop 810).take j).any (· != 48) = false := by
      rw [List.take_of_length_le (by rw [List.length_drop, bl_size, HGN.out]; omega)]
      exact HRB.out
     rw [hz2]
     have b4 : (g.size : Int) = (N : Int) := by rw [HGN.out]
     have b0 : decide (810 + (j : Int) < (N : Int)) = false := decide_eq_false (by omega)
     have b5 : (810 : Int) ≤ (g.size : Int) := by have := HN8.out; omega
     clear hz2
     go_wp2_with fail
     refine (C3.out _).mono ?_
     rintro e w1 ⟨A1, n1, c1, rfl, g1, b1⟩
     have G1 := Lib.hid g1
     have B1 := Lib.hid b1
     clear g1 b1
     go_wp2_with fail
     refine (C4.out _).mono ?_
     rintro e w2 ⟨A2, n2, c2, rfl, g2, b2⟩
     have G2 := Lib.hid g2
     have G1a := Lib.hid (G1.out.step b2)
     have B2 := Lib.hid (below_le B1.out b2)
     clear g2 b2
     go_wp2_with fail
     refine (C5.out _ _ _ _ _ _ _ G1a.out G2.out).mono ?_
     rintro e w3 ⟨A3, n3, c3, rfl, g3, b3⟩
     have G3 := Lib.hid g3
     have B3 := Lib.hid (below_le B2.out b3)
     clear g3 b3
     go_wp2_with fail
     refine (C6.out _ _ _ _ G3.out).mono ?_
     rintro e w4 ⟨rfl, b4⟩
     have B4 := Lib.hid (below_le B3.out b4)
     clear b4
     go_wp2
     go_ret
     exact ⟨rfl, B4.out⟩
set_option maxRecDepth 100000 in
set_option maxHeartbeats 2000000 in
theorem ydec_longn_neg00 (s : ByteArray) (K N : Nat) (X P : Int) (m F : Nat) (D M Q bd ba : Nat) (x1 up Y : Int) (g : ByteArray) (y1 : Int) (E : Int) (w : World) (hs : s.size ≤ 281474976710656) (hK : K ≤ s.size) (hN : s.size - K = N)
  (Z1 : Hid (∀ k (h : k < s.size), k < K → (s[k]'h).toNat = 48)) (Z2 : Hid (∀ h : K < s.size, (s[K]'h).toNat ≠ 48))
  (hN0 : 0 < N) (p1 : wrap64 ((N : Int) + X) = P) (t0 : ((N : Int) == 0) = false) (t1 : decide (400 < P) = false) (t2 : decide (P < -400) = false) (t3 : decide (820 < (N : Int)) = true)
  (hg : s.extract K s.size = g) (hgN : g.size = N) (hN8 : 820 < N) (hrb : ((bl g).drop 810).any (· != 48) = false)
  (q0 : wrap64 (X + (N : Int)) = y1) (q1 : wrap64 (y1 - 810) = E)
  (C3 : Hid (∀ W, Cp 165 #[.string (g.extract 0 810), .int .i64 10] W (NOk m W)))
  (C4 : Hid (∀ W, Cp 115 #[.int .i64 (-E)] W (NRet D W)))
  (C5 : Hid (∀ W A1 n1 c1, NV W A1 n1 c1 D → Ct 163 #[.slice A1 n1 c1] (.int .i64 (bd : Nat)) W))
  (C6 : Hid (∀ W A1 n1 c1, NV W A1 n1 c1 m → Ct 163 #[.slice A1 n1 c1] (.int .i64 (ba : Nat)) W))
  (C7 : Hid (∀ W A1 n1 c1, NV W A1 n1 c1 m → Cp 102 #[.slice A1 n1 c1, .int .i64 0] W (NRet M W)))
  (C8 : Hid (∀ W A1 n1 c1 A2 n2 c2, NV W A1 n1 c1 M → NV W A2 n2 c2 D → Cp 49 #[.slice A1 n1 c1, .slice A2 n2 c2] W (HRet M D W)))
  (C9 : Hid (∀ W A1 n1 c1, NV W A1 n1 c1 (M / D) → Cp 102 #[.slice A1 n1 c1, .int .i64 1] W (NRet Q W)))
  (C11 : Hid (∀ W A1 n1 c1, NV W A1 n1 c1 Q → Ct 154 #[.slice A1 n1 c1, .int .i64 Y] (.float .f64 F) W))
  (hrem : M % D = 0)
  (u0 : decide (0 ≤ E) = false) (u1 : wrap64 (-E) = -E) (u2 : wrap64 ((bd : Int) - (ba : Int)) = x1) (u3 : wrap64 (x1 + 70) = up) (u4 : decide (up < 0) = true) (u6 : Y = -1) :
  Ct 104 #[.string s, .int .i64 X] (.float .f64 F) w := by
 have h1 : (s.size : Int) ≤ 281474976710656 := by omega
 have HN := Lib.hid hN
 have HK := Lib.hid hK
 have HN0 := Lib.hid hN0
 have HREM := Lib.hid hrem
 subst u6
 have HG := Lib.hid hg
 have HGN := Lib.hid hgN
 have HN8 := Lib.hid hN8
 have HRB := Lib.hid hrb
 clear hs hK hN hN0 hrem hg hgN hN8 hrb
 go_enter Tryz.func104, Tryz.ntmps104
 go_wp2
 go_loopw [5] (fun i wr => ∃ k : Nat, i = .int .i64 k ∧ k ≤ K ∧ w = wr) (fun i _ => K - (intOf i).toNat)
 case atStart => exact ⟨0, rfl, Nat.zero_le _, rfl⟩
 case round =>
  obtain ⟨k, rfl, hk, rfl⟩ := hrel
  have hk2 := HK.out
  by_cases hlt : k < K
  ·have hks : k < s.size := by omega
   have e0 : ((s[k]'hks).toNat : Int) = 48 := by rw [Z1.out k hks hlt]; rfl
   have a2 : (k : Int) < (s.size : Int) := by omega
   have a1 : (0 : Int) ≤ (k : Int) := by omega
   clear hk2
   go_wp2
   exact ⟨⟨k + 1, by go_num, by omega, trivial⟩, by simp [intOf]; omega⟩
  ·obtain rfl : k = K := by omega
   have hz : k < s.size := by have := HN.out; have := HN0.out; omega
   obtain ⟨B, hB⟩ : ∃ B : Nat, (s[k]'hz).toNat = B := ⟨_, rfl⟩
   have hB48 := Z2.out hz
   rw [hB] at hB48
   have e0 : ((s[k]'hz).toNat : Int) = (B : Int) := by rw [hB]
   have e1 : ((B : Int) == 48) = false := by rw [beq_eq_false_iff_ne]; omega
   have a2 : (k : Int) < (s.size : Int) := by omega
   have a1 : (0 : Int) ≤ (k : Int) := by omega
   have a3 : (k : Int) ≤ (s.size : Int) := by omega
   have a4 : ((s.size - k : Nat) : Int) = (N : Int) := by rw [HN.out]
   clear hk2 hB hB48
   have hext : s.extract k s.size = g := HG.out
   have b4 : (g.size : Int) = (N : Int) := by rw [HGN.out]
   go_wp2
   clear a1 a2 a3 e0 e1 hext hz b4
   go_loopw [6, 7] (fun v i wr => ∃ j : Nat, i = .int .i64 (810 + (j : Int)) ∧ 810 + j ≤ N ∧ v = .bool ((((bl g).drop 810).take j).any (· != 48)) ∧ w = wr) (fun _ i _ => N - (intOf i).toNat)
   case atStart => exact ⟨0, rfl, by have := HN8.out; omega, rfl, rfl⟩
   case round =>
    obtain ⟨j, rfl, hj, rfl, rfl⟩ := hrel
    by_cases hjl : 810 + j < N
    ·have hgs : 810 + j < g.size := by rw [HGN.out]; exact hjl
     obtain ⟨D8, hD8⟩ : ∃ D8 : Nat, (g[810 + j]'hgs).toNat = D8 := ⟨_, rfl⟩
     have hstep : (((bl g).drop 810).take (j + 1)).any (· != 48) = ((((bl g).drop 810).take j).any (· != 48) || (D8 != 48)) := by
      rw [List.take_add_one, List.getElem?_drop, bl_get g (810 + j) hgs, hD8, List.any_append]
      simp
     have b0 : ((810 + (j : Int)) : Int) < (N : Int) := by omega
     have b1 : (0 : Int) ≤ 810 + (j : Int) := by omega
     have b2 : (810 + (j : Int)).toNat = 810 + j := by omega
     have b3 : ((g[810 + j]'hgs).toNat : Int) = (D8 : Int) := by rw [hD8]
     have b4 : (g.size : Int) = (N : Int) := by rw [HGN.out]
     have b5 : 810 + (j : Int) < (g.size : Int) := by omega
     obtain ⟨r, hr⟩ : ∃ r, (((bl g).drop 810).take j).any (· != 48) = r := ⟨_, rfl⟩
     rw [hr] at hstep ⊢
     have HST := Lib.hid hstep
     clear hstep hr hD8
     cases r
     ·cases h48 : (D8 != 48)
      ·have b6 : ((D8 : Int) != 48) = false := by rw [bne_eq_false_iff_eq]; have := bne_eq_false_iff_eq.1 h48; omega
       have HS2 := Lib.hid (show (((bl g).drop 810).take (j + 1)).any (· != 48) = false from by rw [HST.out, h48]; rfl)
       clear h48
       go_wp2
       exact ⟨⟨j + 1, by go_num, by omega, by rw [HS2.out], trivial⟩, by simp [intOf]; omega⟩
      ·have b6 : ((D8 : Int) != 48) = true := by rw [bne_iff_ne]; have := bne_iff_ne.1 h48; omega
       have HS2 := Lib.hid (show (((bl g).drop 810).take (j + 1)).any (· != 48) = true from by rw [HST.out, h48]; rfl)
       clear h48
       go_wp2
       exact ⟨⟨j + 1, by go_num, by omega, by rw [HS2.out], trivial⟩, by simp [intOf]; omega⟩
     ·have HS2 := Lib.hid (show (((bl g).drop 810).take (j + 1)).any (· != 48) = true from by rw [HST.out]; rfl)
      go_wp2
      exact ⟨⟨j + 1, by go_num, by omega, by rw [HS2.out], trivial⟩, by simp [intOf]; omega⟩
    ·have hz2 : (((bl g).drop 810).take j).any (· != 48) = false := by
      rw [List.take_of_length_le (by rw [List.length_drop, bl_size, HGN.out]; omega)]
      exact HRB.out
     rw [hz2]
     have b4 : (g.size : Int) = (N : Int) := by rw [HGN.out]
     have b0 : decide (810 + (j : Int) < (N : Int)) = false := decide_eq_false (by omega)
     have b5 : (810 : Int) ≤ (g.size : Int) := by have := HN8.out; omega
     clear hz2
     go_wp2_with fail
     refine (C3.out _).mono ?_
     rintro e w1 ⟨A1, n1, c1, rfl, g1, b1⟩
     have G1 := Lib.hid g1
     have B1 := Lib.hid b1
     clear g1 b1
     go_wp2_with fail
     refine (C4.out _).mono ?_
     rintro e w2 ⟨A2, n2, c2, rfl, g2, b2⟩
     have G2 := Lib.hid g2
     have G1a := Lib.hid (G1.out.step b2)
     have B2 := Lib.hid (below_le B1.out b2)
     clear g2 b2
     go_wp2_with fail
     refine (C5.out _ _ _ _ G2.out).mono ?_
     rintro e w3 ⟨rfl, b3⟩
     have G2a := Lib.hid (G2.out.step b3)
     have G1b := Lib.hid (G1a.out.step b3)
     have B3 := Lib.hid (below_le B2.out b3)
     clear b3
     go_wp2_with fail
     refine (C6.out _ _ _ _ G1b.out).mono ?_
     rintro e w4 ⟨rfl, b4⟩
     have G2b := Lib.hid (G2a.out.step b4)
     have G1c := Lib.hid (G1b.out.step b4)
     have B4 := Lib.hid (below_le B3.out b4)
     clear b4
     go_wp2_with fail
     refine (C7.out _ _ _ _ G1c.out).mono ?_
     rintro e w5 ⟨A5, n5, c5, rfl, g5, b5⟩
     have G5 := Lib.hid g5
     have G25 := Lib.hid (G2b.out.step b5)
     have B5 := Lib.hid (below_le B4.out b5)
     clear g5 b5
     go_wp2_with fail
     refine (C8.out _ _ _ _ _ _ _ G5.out G25.out).mono ?_
     rintro e w6 ⟨A6, n6, c6, A7, n7, c7, rfl, g6, g7, b6⟩
     have G6 := Lib.hid g6
     have B6 := Lib.hid (below_le B5.out b6)
     obtain rfl : n7 = 0 := by
      have h1 := g7.len
      rw [HREM.out] at h1
      exact h1.symm
     clear g6 g7 b6
     go_wp2_with fail
     refine (C9.out _ _ _ _ G6.out).mono ?_
     rintro e w7 ⟨A8, n8, c8, rfl, g8, b7⟩
     have G8 := Lib.hid g8
     have B7 := Lib.hid (below_le B6.out b7)
     clear g8 b7
     go_wp2_with fail
     refine (C11.out _ _ _ _ G8.out).mono ?_
     rintro e w9 ⟨rfl, b9⟩
     have B9 := Lib.hid (below_le B7.out b9)
     clear b9
     go_wp2
     go_ret
     exact ⟨rfl, B9.out⟩
set_option maxRecDepth 100000 in
set_option maxHeartbeats 2000000 in
theorem ydec_longn_neg01 (s : ByteArray) (K N : Nat) (X P : Int) (m F : Nat) (D M Q Q2 bd ba : Nat) (x1 up Y : Int) (g : ByteArray) (y1 : Int) (E : Int) (w : World) (hs : s.size ≤ 281474976710656) (hK : K ≤ s.size) (hN : s.size - K = N)
  (Z1 : Hid (∀ k (h : k < s.size), k < K → (s[k]'h).toNat = 48)) (Z2 : Hid (∀ h : K < s.size, (s[K]'h).toNat ≠ 48))
  (hN0 : 0 < N) (p1 : wrap64 ((N : Int) + X) = P) (t0 : ((N : Int) == 0) = false) (t1 : decide (400 < P) = false) (t2 : decide (P < -400) = false) (t3 : decide (820 < (N : Int)) = true)
  (hg : s.extract K s.size = g) (hgN : g.size = N) (hN8 : 820 < N) (hrb : ((bl g).drop 810).any (· != 48) = false)
  (q0 : wrap64 (X + (N : Int)) = y1) (q1 : wrap64 (y1 - 810) = E)
  (C3 : Hid (∀ W, Cp 165 #[.string (g.extract 0 810), .int .i64 10] W (NOk m W)))
  (C4 : Hid (∀ W, Cp 115 #[.int .i64 (-E)] W (NRet D W)))
  (C5 : Hid (∀ W A1 n1 c1, NV W A1 n1 c1 D → Ct 163 #[.slice A1 n1 c1] (.int .i64 (bd : Nat)) W))
  (C6 : Hid (∀ W A1 n1 c1, NV W A1 n1 c1 m → Ct 163 #[.slice A1 n1 c1] (.int .i64 (ba : Nat)) W))
  (C7 : Hid (∀ W A1 n1 c1, NV W A1 n1 c1 m → Cp 102 #[.slice A1 n1 c1, .int .i64 0] W (NRet M W)))
  (C8 : Hid (∀ W A1 n1 c1 A2 n2 c2, NV W A1 n1 c1 M → NV W A2 n2 c2 D → Cp 49 #[.slice A1 n1 c1, .slice A2 n2 c2] W (HRet M D W)))
  (C9 : Hid (∀ W A1 n1 c1, NV W A1 n1 c1 (M / D) → Cp 102 #[.slice A1 n1 c1, .int .i64 1] W (NRet Q W)))
  (C10 : Hid (∀ W A1 n1 c1 A2 n2 c2, NV W A1 n1 c1 Q → NV W A2 n2 c2 1 → Cp 103 #[.slice A1 n1 c1, .slice A2 n2 c2] W (NRet Q2 W)))
  (C11 : Hid (∀ W A1 n1 c1, NV W A1 n1 c1 Q2 → Ct 154 #[.slice A1 n1 c1, .int .i64 Y] (.float .f64 F) W))
  (hrem : M % D ≠ 0)
  (u0 : decide (0 ≤ E) = false) (u1 : wrap64 (-E) = -E) (u2 : wrap64 ((bd : Int) - (ba : Int)) = x1) (u3 : wrap64 (x1 + 70) = up) (u4 : decide (up < 0) = true) (u6 : Y = -1) :
  Ct 104 #[.string s, .int .i64 X] (.float .f64 F) w := by
 have h1 : (s.size : Int) ≤ 281474976710656 := by omega
 have HN := Lib.hid hN
 have HK := Lib.hid hK
 have HN0 := Lib.hid hN0
 have HREM := Lib.hid hrem
 subst u6
 have HG := Lib.hid hg
 have HGN := Lib.hid hgN
 have HN8 := Lib.hid hN8
 have HRB := Lib.hid hrb
 clear hs hK hN hN0 hrem hg hgN hN8 hrb
 go_enter Tryz.func104, Tryz.ntmps104
 go_wp2
 go_loopw [5] (fun i wr => ∃ k : Nat, i = .int .i64 k ∧ k ≤ K ∧ w = wr) (fun i _ => K - (intOf i).toNat)
 case atStart => exact ⟨0, rfl, Nat.zero_le _, rfl⟩
 case round =>
  obtain ⟨k, rfl, hk, rfl⟩ := hrel
  have hk2 := HK.out
  by_cases hlt : k < K
  ·have hks : k < s.size := by omega
   have e0 : ((s[k]'hks).toNat : Int) = 48 := by rw [Z1.out k hks hlt]; rfl
   have a2 : (k : Int) < (s.size : Int) := by omega
   have a1 : (0 : Int) ≤ (k : Int) := by omega
   clear hk2
   go_wp2
   exact ⟨⟨k + 1, by go_num, by omega, trivial⟩, by simp [intOf]; omega⟩
  ·obtain rfl : k = K := by omega
   have hz : k < s.size := by have := HN.out; have := HN0.out; omega
   obtain ⟨B, hB⟩ : ∃ B : Nat, (s[k]'hz).toNat = B := ⟨_, rfl⟩
   have hB48 := Z2.out hz
   rw [hB] at hB48
   have e0 : ((s[k]'hz).toNat : Int) = (B : Int) := by rw [hB]
   have e1 : ((B : Int) == 48) = false := by rw [beq_eq_false_iff_ne]; omega
   have a2 : (k : Int) < (s.size : Int) := by omega
   have a1 : (0 : Int) ≤ (k : Int) := by omega
   have a3 : (k : Int) ≤ (s.size : Int) := by omega
   have a4 : ((s.size - k : Nat) : Int) = (N : Int) := by rw [HN.out]
   clear hk2 hB hB48
   have hext : s.extract k s.size = g := HG.out
   have b4 : (g.size : Int) = (N : Int) := by rw [HGN.out]
   go_wp2
   clear a1 a2 a3 e0 e1 hext hz b4
   go_loopw [6, 7] (fun v i wr => ∃ j : Nat, i = .int .i64 (810 + (j : Int)) ∧ 810 + j ≤ N ∧ v = .bool ((((bl g).drop 810).take j).any (· != 48)) ∧ w = wr) (fun _ i _ => N - (intOf i).toNat)
   case atStart => exact ⟨0, rfl, by have := HN8.out; omega, rfl, rfl⟩
   case round =>
    obtain ⟨j, rfl, hj, rfl, rfl⟩ := hrel
    by_cases hjl : 810 + j < N
    ·have hgs : 810 + j < g.size := by rw [HGN.out]; exact hjl
     obtain ⟨D8, hD8⟩ : ∃ D8 : Nat, (g[810 + j]'hgs).toNat = D8 := ⟨_, rfl⟩
     have hstep : (((bl g).drop 810).take (j + 1)).any (· != 48) = ((((bl g).drop 810).take j).any (· != 48) || (D8 != 48)) := by
      rw [List.take_add_one, List.getElem?_drop, bl_get g (810 + j) hgs, hD8, List.any_append]
      simp
     have b0 : ((810 + (j : Int)) : Int) < (N : Int) := by omega
     have b1 : (0 : Int) ≤ 810 + (j : Int) := by omega
     have b2 : (810 + (j : Int)).toNat = 810 + j := by omega
     have b3 : ((g[810 + j]'hgs).toNat : Int) = (D8 : Int) := by rw [hD8]
     have b4 : (g.size : Int) = (N : Int) := by rw [HGN.out]
     have b5 : 810 + (j : Int) < (g.size : Int) := by omega
     obtain ⟨r, hr⟩ : ∃ r, (((bl g).drop 810).take j).any (· != 48) = r := ⟨_, rfl⟩
     rw [hr] at hstep ⊢
     have HST := Lib.hid hstep
     clear hstep hr hD8
     cases r
     ·cases h48 : (D8 != 48)
      ·have b6 : ((D8 : Int) != 48) = false := by rw [bne_eq_false_iff_eq]; have := bne_eq_false_iff_eq.1 h48; omega
       have HS2 := Lib.hid (show (((bl g).drop 810).take (j + 1)).any (· != 48) = false from by rw [HST.out, h48]; rfl)
       clear h48
       go_wp2
       exact ⟨⟨j + 1, by go_num, by omega, by rw [HS2.out], trivial⟩, by simp [intOf]; omega⟩
      ·have b6 : ((D8 : Int) != 48) = true := by rw [bne_iff_ne]; have := bne_iff_ne.1 h48; omega
       have HS2 := Lib.hid (show (((bl g).drop 810).take (j + 1)).any (· != 48) = true from by rw [HST.out, h48]; rfl)
       clear h48
       go_wp2
       exact ⟨⟨j + 1, by go_num, by omega, by rw [HS2.out], trivial⟩, by simp [intOf]; omega⟩
     ·have HS2 := Lib.hid (show (((bl g).drop 810).take (j + 1)).any (· != 48) = true from by rw [HST.out]; rfl)
      go_wp2
      exact ⟨⟨j + 1, by go_num, by omega, by rw [HS2.out], trivial⟩, by simp [intOf]; omega⟩
    ·have hz2 : (((bl g).drop 810).take j).any (· != 48) = false := by
      rw [List.take_of_length_le (by rw [List.length_drop, bl_size, HGN.out]; omega)]
      exact HRB.out
     rw [hz2]
     have b4 : (g.size : Int) = (N : Int) := by rw [HGN.out]
     have b0 : decide (810 + (j : Int) < (N : Int)) = false := decide_eq_false (by omega)
     have b5 : (810 : Int) ≤ (g.size : Int) := by have := HN8.out; omega
     clear hz2
     go_wp2_with fail
     refine (C3.out _).mono ?_
     rintro e w1 ⟨A1, n1, c1, rfl, g1, b1⟩
     have G1 := Lib.hid g1
     have B1 := Lib.hid b1
     clear g1 b1
     go_wp2_with fail
     refine (C4.out _).mono ?_
     rintro e w2 ⟨A2, n2, c2, rfl, g2, b2⟩
     have G2 := Lib.hid g2
     have G1a := Lib.hid (G1.out.step b2)
     have B2 := Lib.hid (below_le B1.out b2)
     clear g2 b2
     go_wp2_with fail
     refine (C5.out _ _ _ _ G2.out).mono ?_
     rintro e w3 ⟨rfl, b3⟩
     have G2a := Lib.hid (G2.out.step b3)
     have G1b := Lib.hid (G1a.out.step b3)
     have B3 := Lib.hid (below_le B2.out b3)
     clear b3
     go_wp2_with fail
     refine (C6.out _ _ _ _ G1b.out).mono ?_
     rintro e w4 ⟨rfl, b4⟩
     have G2b := Lib.hid (G2a.out.step b4)
     have G1c := Lib.hid (G1b.out.step b4)
     have B4 := Lib.hid (below_le B3.out b4)
     clear b4
     go_wp2_with fail
     refine (C7.out _ _ _ _ G1c.out).mono ?_
     rintro e w5 ⟨A5, n5, c5, rfl, g5, b5⟩
     have G5 := Lib.hid g5
     have G25 := Lib.hid (G2b.out.step b5)
     have B5 := Lib.hid (below_le B4.out b5)
     clear g5 b5
     go_wp2_with fail
     refine (C8.out _ _ _ _ _ _ _ G5.out G25.out).mono ?_
     rintro e w6 ⟨A6, n6, c6, A7, n7, c7, rfl, g6, g7, b6⟩
     have G6 := Lib.hid g6
     have B6 := Lib.hid (below_le B5.out b6)
     have hn7 : (0 : Int) < (n7 : Int) := by
      have h1 := g7.len
      have h2 : (wds (M % D)) ≠ [] := fun e => HREM.out (by have h3 := wds_val (M % D); rw [e] at h3; exact h3.symm)
      have := List.length_pos_iff.2 h2
      omega
     clear g6 g7 b6
     go_wp2_with fail
     refine (C9.out _ _ _ _ G6.out).mono ?_
     rintro e w7 ⟨A8, n8, c8, rfl, g8, b7⟩
     have G8 := Lib.hid g8
     have B7 := Lib.hid (below_le B6.out b7)
     clear g8 b7
     have bl := Lib.hid (show Below w7.heap.size w7 (w7.alloc (.cells #[.int .u32 1] 42)) from (Below.refl _ _).alloc (Nat.le_refl _) _)
     have C10' := Lib.hid (C10.out _ _ _ _ _ _ _ (G8.out.step bl.out) (NV.lit w7 1 (by omega) (by omega)))
     go_wp2_with fail
     refine C10'.out.mono ?_
     rintro e w8 ⟨A9, n9, c9, rfl, g9, b8⟩
     have G9 := Lib.hid g9
     have B8 := Lib.hid (below_le (below_le B7.out bl.out) b8)
     clear g9 b8
     go_wp2_with fail
     refine (C11.out _ _ _ _ G9.out).mono ?_
     rintro e w9 ⟨rfl, b9⟩
     have B9 := Lib.hid (below_le B8.out b9)
     clear b9
     go_wp2
     go_ret
     exact ⟨rfl, B9.out⟩
set_option maxRecDepth 100000 in
set_option maxHeartbeats 2000000 in
theorem ydec_longn_neg10 (s : ByteArray) (K N : Nat) (X P : Int) (m F : Nat) (D M Q bd ba : Nat) (x1 up x2 Y : Int) (g : ByteArray) (y1 : Int) (E : Int) (w : World) (hs : s.size ≤ 281474976710656) (hK : K ≤ s.size) (hN : s.size - K = N)
  (Z1 : Hid (∀ k (h : k < s.size), k < K → (s[k]'h).toNat = 48)) (Z2 : Hid (∀ h : K < s.size, (s[K]'h).toNat ≠ 48))
  (hN0 : 0 < N) (p1 : wrap64 ((N : Int) + X) = P) (t0 : ((N : Int) == 0) = false) (t1 : decide (400 < P) = false) (t2 : decide (P < -400) = false) (t3 : decide (820 < (N : Int)) = true)
  (hg : s.extract K s.size = g) (hgN : g.size = N) (hN8 : 820 < N) (hrb : ((bl g).drop 810).any (· != 48) = false)
  (q0 : wrap64 (X + (N : Int)) = y1) (q1 : wrap64 (y1 - 810) = E)
  (C3 : Hid (∀ W, Cp 165 #[.string (g.extract 0 810), .int .i64 10] W (NOk m W)))
  (C4 : Hid (∀ W, Cp 115 #[.int .i64 (-E)] W (NRet D W)))
  (C5 : Hid (∀ W A1 n1 c1, NV W A1 n1 c1 D → Ct 163 #[.slice A1 n1 c1] (.int .i64 (bd : Nat)) W))
  (C6 : Hid (∀ W A1 n1 c1, NV W A1 n1 c1 m → Ct 163 #[.slice A1 n1 c1] (.int .i64 (ba : Nat)) W))
  (C7 : Hid (∀ W A1 n1 c1, NV W A1 n1 c1 m → Cp 102 #[.slice A1 n1 c1, .int .i64 up] W (NRet M W)))
  (C8 : Hid (∀ W A1 n1 c1 A2 n2 c2, NV W A1 n1 c1 M → NV W A2 n2 c2 D → Cp 49 #[.slice A1 n1 c1, .slice A2 n2 c2] W (HRet M D W)))
  (C9 : Hid (∀ W A1 n1 c1, NV W A1 n1 c1 (M / D) → Cp 102 #[.slice A1 n1 c1, .int .i64 1] W (NRet Q W)))
  (C11 : Hid (∀ W A1 n1 c1, NV W A1 n1 c1 Q → Ct 154 #[.slice A1 n1 c1, .int .i64 Y] (.float .f64 F) W))
  (hrem : M % D = 0)
  (u0 : decide (0 ≤ E) = false) (u1 : wrap64 (-E) = -E) (u2 : wrap64 ((bd : Int) - (ba : Int)) = x1) (u3 : wrap64 (x1 + 70) = up) (u4 : decide (up < 0) = false) (u5 : wrap64 (-up) = x2) (u6 : wrap64 (x2 - 1) = Y) :
  Ct 104 #[.string s, .int .i64 X] (.float .f64 F) w := by
 have h1 : (s.size : Int) ≤ 281474976710656 := by omega
 have HN := Lib.hid hN
 have HK := Lib.hid hK
 have HN0 := Lib.hid hN0
 have HREM := Lib.hid hrem
 have HG := Lib.hid hg
 have HGN := Lib.hid hgN
 have HN8 := Lib.hid hN8
 have HRB := Lib.hid hrb
 clear hs hK hN hN0 hrem hg hgN hN8 hrb
 go_enter Tryz.func104, Tryz.ntmps104
 go_wp2
 go_loopw [5] (fun i wr => ∃ k : Nat, i = .int .i64 k ∧ k ≤ K ∧ w = wr) (fun i _ => K - (intOf i).toNat)
 case atStart => exact ⟨0, rfl, Nat.zero_le _, rfl⟩
 case round =>
  obtain ⟨k, rfl, hk, rfl⟩ := hrel
  have hk2 := HK.out
  by_cases hlt : k < K
  ·have hks : k < s.size := by omega
   have e0 : ((s[k]'hks).toNat : Int) = 48 := by rw [Z1.out k hks hlt]; rfl
   have a2 : (k : Int) < (s.size : Int) := by omega
   have a1 : (0 : Int) ≤ (k : Int) := by omega
   clear hk2
   go_wp2
   exact ⟨⟨k + 1, by go_num, by omega, trivial⟩, by simp [intOf]; omega⟩
  ·obtain rfl : k = K := by omega
   have hz : k < s.size := by have := HN.out; have := HN0.out; omega
   obtain ⟨B, hB⟩ : ∃ B : Nat, (s[k]'hz).toNat = B := ⟨_, rfl⟩
   have hB48 := Z2.out hz
   rw [hB] at hB48
   have e0 : ((s[k]'hz).toNat : Int) = (B : Int) := by rw [hB]
   have e1 : ((B : Int) == 48) = false := by rw [beq_eq_false_iff_ne]; omega
   have a2 : (k : Int) < (s.size : Int) := by omega
   have a1 : (0 : Int) ≤ (k : Int) := by omega
   have a3 : (k : Int) ≤ (s.size : Int) := by omega
   have a4 : ((s.size - k : Nat) : Int) = (N : Int) := by rw [HN.out]
   clear hk2 hB hB48
   have hext : s.extract k s.size = g := HG.out
   have b4 : (g.size : Int) = (N : Int) := by rw [HGN.out]
   go_wp2
   clear a1 a2 a3 e0 e1 hext hz b4
   go_loopw [6, 7] (fun v i wr => ∃ j : Nat, i = .int .i64 (810 + (j : Int)) ∧ 810 + j ≤ N ∧ v = .bool ((((bl g).drop 810).take j).any (· != 48)) ∧ w = wr) (fun _ i _ => N - (intOf i).toNat)
   case atStart => exact ⟨0, rfl, by have := HN8.out; omega, rfl, rfl⟩
   case round =>
    obtain ⟨j, rfl, hj, rfl, rfl⟩ := hrel
    by_cases hjl : 810 + j < N
    ·have hgs : 810 + j < g.size := by rw [HGN.out]; exact hjl
     obtain ⟨D8, hD8⟩ : ∃ D8 : Nat, (g[810 + j]'hgs).toNat = D8 := ⟨_, rfl⟩
     have hstep : (((bl g).drop 810).take (j + 1)).any (· != 48) = ((((bl g).drop 810).take j).any (· != 48) || (D8 != 48)) := by
      rw [List.take_add_one, List.getElem?_drop, bl_get g (810 + j) hgs, hD8, List.any_append]
      simp
     have b0 : ((810 + (j : Int)) : Int) < (N : Int) := by omega
     have b1 : (0 : Int) ≤ 810 + (j : Int) := by omega
     have b2 : (810 + (j : Int)).toNat = 810 + j := by omega
     have b3 : ((g[810 + j]'hgs).toNat : Int) = (D8 : Int) := by rw [hD8]
     have b4 : (g.size : Int) = (N : Int) := by rw [HGN.out]
     have b5 : 810 + (j : Int) < (g.size : Int) := by omega
     obtain ⟨r, hr⟩ : ∃ r, (((bl g).drop 810).take j).any (· != 48) = r := ⟨_, rfl⟩
     rw [hr] at hstep ⊢
     have HST := Lib.hid hstep
     clear hstep hr hD8
     cases r
     ·cases h48 : (D8 != 48)
      ·have b6 : ((D8 : Int) != 48) = false := by rw [bne_eq_false_iff_eq]; have := bne_eq_false_iff_eq.1 h48; omega
       have HS2 := Lib.hid (show (((bl g).drop 810).take (j + 1)).any (· != 48) = false from by rw [HST.out, h48]; rfl)
       clear h48
       go_wp2
       exact ⟨⟨j + 1, by go_num, by omega, by rw [HS2.out], trivial⟩, by simp [intOf]; omega⟩
      ·have b6 : ((D8 : Int) != 48) = true := by rw [bne_iff_ne]; have := bne_iff_ne.1 h48; omega
       have HS2 := Lib.hid (show (((bl g).drop 810).take (j + 1)).any (· != 48) = true from by rw [HST.out, h48]; rfl)
       clear h48
       go_wp2
       exact ⟨⟨j + 1, by go_num, by omega, by rw [HS2.out], trivial⟩, by simp [intOf]; omega⟩
     ·have HS2 := Lib.hid (show (((bl g).drop 810).take (j + 1)).any (· != 48) = true from by rw [HST.out]; rfl)
      go_wp2
      exact ⟨⟨j + 1, by go_num, by omega, by rw [HS2.out], trivial⟩, by simp [intOf]; omega⟩
    ·have hz2 : (((bl g).drop 810).take j).any (· != 48) = false := by
      rw [List.take_of_length_le (by rw [List.length_drop, bl_size, HGN.out]; omega)]
      exact HRB.out
     rw [hz2]
     have b4 : (g.size : Int) = (N : Int) := by rw [HGN.out]
     have b0 : decide (810 + (j : Int) < (N : Int)) = false := decide_eq_false (by omega)
     have b5 : (810 : Int) ≤ (g.size : Int) := by have := HN8.out; omega
     clear hz2
     go_wp2_with fail
     refine (C3.out _).mono ?_
     rintro e w1 ⟨A1, n1, c1, rfl, g1, b1⟩
     have G1 := Lib.hid g1
     have B1 := Lib.hid b1
     clear g1 b1
     go_wp2_with fail
     refine (C4.out _).mono ?_
     rintro e w2 ⟨A2, n2, c2, rfl, g2, b2⟩
     have G2 := Lib.hid g2
     have G1a := Lib.hid (G1.out.step b2)
     have B2 := Lib.hid (below_le B1.out b2)
     clear g2 b2
     go_wp2_with fail
     refine (C5.out _ _ _ _ G2.out).mono ?_
     rintro e w3 ⟨rfl, b3⟩
     have G2a := Lib.hid (G2.out.step b3)
     have G1b := Lib.hid (G1a.out.step b3)
     have B3 := Lib.hid (below_le B2.out b3)
     clear b3
     go_wp2_with fail
     refine (C6.out _ _ _ _ G1b.out).mono ?_
     rintro e w4 ⟨rfl, b4⟩
     have G2b := Lib.hid (G2a.out.step b4)
     have G1c := Lib.hid (G1b.out.step b4)
     have B4 := Lib.hid (below_le B3.out b4)
     clear b4
     go_wp2_with fail
     refine (C7.out _ _ _ _ G1c.out).mono ?_
     rintro e w5 ⟨A5, n5, c5, rfl, g5, b5⟩
     have G5 := Lib.hid g5
     have G25 := Lib.hid (G2b.out.step b5)
     have B5 := Lib.hid (below_le B4.out b5)
     clear g5 b5
     go_wp2_with fail
     refine (C8.out _ _ _ _ _ _ _ G5.out G25.out).mono ?_
     rintro e w6 ⟨A6, n6, c6, A7, n7, c7, rfl, g6, g7, b6⟩
     have G6 := Lib.hid g6
     have B6 := Lib.hid (below_le B5.out b6)
     obtain rfl : n7 = 0 := by
      have h1 := g7.len
      rw [HREM.out] at h1
      exact h1.symm
     clear g6 g7 b6
     go_wp2_with fail
     refine (C9.out _ _ _ _ G6.out).mono ?_
     rintro e w7 ⟨A8, n8, c8, rfl, g8, b7⟩
     have G8 := Lib.hid g8
     have B7 := Lib.hid (below_le B6.out b7)
     clear g8 b7
     go_wp2_with fail
     refine (C11.out _ _ _ _ G8.out).mono ?_
     rintro e w9 ⟨rfl, b9⟩
     have B9 := Lib.hid (below_le B7.out b9)
     clear b9
     go_wp2
     go_ret
     exact ⟨rfl, B9.out⟩
set_option maxRecDepth 100000 in
set_option maxHeartbeats 2000000 in
theorem ydec_longn_neg11 (s : ByteArray) (K N : Nat) (X P : Int) (m F : Nat) (D M Q Q2 bd ba : Nat) (x1 up x2 Y : Int) (g : ByteArray) (y1 : Int) (E : Int) (w : World) (hs : s.size ≤ 281474976710656) (hK : K ≤ s.size) (hN : s.size - K = N)
  (Z1 : Hid (∀ k (h : k < s.size), k < K → (s[k]'h).toNat = 48)) (Z2 : Hid (∀ h : K < s.size, (s[K]'h).toNat ≠ 48))
  (hN0 : 0 < N) (p1 : wrap64 ((N : Int) + X) = P) (t0 : ((N : Int) == 0) = false) (t1 : decide (400 < P) = false) (t2 : decide (P < -400) = false) (t3 : decide (820 < (N : Int)) = true)
  (hg : s.extract K s.size = g) (hgN : g.size = N) (hN8 : 820 < N) (hrb : ((bl g).drop 810).any (· != 48) = false)
  (q0 : wrap64 (X + (N : Int)) = y1) (q1 : wrap64 (y1 - 810) = E)
  (C3 : Hid (∀ W, Cp 165 #[.string (g.extract 0 810), .int .i64 10] W (NOk m W)))
  (C4 : Hid (∀ W, Cp 115 #[.int .i64 (-E)] W (NRet D W)))
  (C5 : Hid (∀ W A1 n1 c1, NV W A1 n1 c1 D → Ct 163 #[.slice A1 n1 c1] (.int .i64 (bd : Nat)) W))
  (C6 : Hid (∀ W A1 n1 c1, NV W A1 n1 c1 m → Ct 163 #[.slice A1 n1 c1] (.int .i64 (ba : Nat)) W))
  (C7 : Hid (∀ W A1 n1 c1, NV W A1 n1 c1 m → Cp 102 #[.slice A1 n1 c1, .int .i64 up] W (NRet M W)))
  (C8 : Hid (∀ W A1 n1 c1 A2 n2 c2, NV W A1 n1 c1 M → NV W A2 n2 c2 D → Cp 49 #[.slice A1 n1 c1, .slice A2 n2 c2] W (HRet M D W)))
  (C9 : Hid (∀ W A1 n1 c1, NV W A1 n1 c1 (M / D) → Cp 102 #[.slice A1 n1 c1, .int .i64 1] W (NRet Q W)))
  (C10 : Hid (∀ W A1 n1 c1 A2 n2 c2, NV W A1 n1 c1 Q → NV W A2 n2 c2 1 → Cp 103 #[.slice A1 n1 c1, .slice A2 n2 c2] W (NRet Q2 W)))
  (C11 : Hid (∀ W A1 n1 c1, NV W A1 n1 c1 Q2 → Ct 154 #[.slice A1 n1 c1, .int .i64 Y] (.float .f64 F) W))
  (hrem : M % D ≠ 0)
  (u0 : decide (0 ≤ E) = false) (u1 : wrap64 (-E) = -E) (u2 : wrap64 ((bd : Int) - (ba : Int)) = x1) (u3 : wrap64 (x1 + 70) = up) (u4 : decide (up < 0) = false) (u5 : wrap64 (-up) = x2) (u6 : wrap64 (x2 - 1) = Y) :
  Ct 104 #[.string s, .int .i64 X] (.float .f64 F) w := by
 have h1 : (s.size : Int) ≤ 281474976710656 := by omega
 have HN := Lib.hid hN
 have HK := Lib.hid hK
 have HN0 := Lib.hid hN0
 have HREM := Lib.hid hrem
 have HG := Lib.hid hg
 have HGN := Lib.hid hgN
 have HN8 := Lib.hid hN8
 have HRB := Lib.hid hrb
 clear hs hK hN hN0 hrem hg hgN hN8 hrb
 go_enter Tryz.func104, Tryz.ntmps104
 go_wp2
 go_loopw [5] (fun i wr => ∃ k : Nat, i = .int .i64 k ∧ k ≤ K ∧ w = wr) (fun i _ => K - (intOf i).toNat)
 case atStart => exact ⟨0, rfl, Nat.zero_le _, rfl⟩
 case round =>
  obtain ⟨k, rfl, hk, rfl⟩ := hrel
  have hk2 := HK.out
  by_cases hlt : k < K
  ·have hks : k < s.size := by omega
   have e0 : ((s[k]'hks).toNat : Int) = 48 := by rw [Z1.out k hks hlt]; rfl
   have a2 : (k : Int) < (s.size : Int) := by omega
   have a1 : (0 : Int) ≤ (k : Int) := by omega
   clear hk2
   go_wp2
   exact ⟨⟨k + 1, by go_num, by omega, trivial⟩, by simp [intOf]; omega⟩
  ·obtain rfl : k = K := by omega
   have hz : k < s.size := by have := HN.out; have := HN0.out; omega
   obtain ⟨B, hB⟩ : ∃ B : Nat, (s[k]'hz).toNat = B := ⟨_, rfl⟩
   have hB48 := Z2.out hz
   rw [hB] at hB48
   have e0 : ((s[k]'hz).toNat : Int) = (B : Int) := by rw [hB]
   have e1 : ((B : Int) == 48) = false := by rw [beq_eq_false_iff_ne]; omega
   have a2 : (k : Int) < (s.size : Int) := by omega
   have a1 : (0 : Int) ≤ (k : Int) := by omega
   have a3 : (k : Int) ≤ (s.size : Int) := by omega
   have a4 : ((s.size - k : Nat) : Int) = (N : Int) := by rw [HN.out]
   clear hk2 hB hB48
   have hext : s.extract k s.size = g := HG.out
   have b4 : (g.size : Int) = (N : Int) := by rw [HGN.out]
   go_wp2
   clear a1 a2 a3 e0 e1 hext hz b4
   go_loopw [6, 7] (fun v i wr => ∃ j : Nat, i = .int .i64 (810 + (j : Int)) ∧ 810 + j ≤ N ∧ v = .bool ((((bl g).drop 810).take j).any (· != 48)) ∧ w = wr) (fun _ i _ => N - (intOf i).toNat)
   case atStart => exact ⟨0, rfl, by have := HN8.out; omega, rfl, rfl⟩
   case round =>
    obtain ⟨j, rfl, hj, rfl, rfl⟩ := hrel
    by_cases hjl : 810 + j < N
    ·have hgs : 810 + j < g.size := by rw [HGN.out]; exact hjl
     obtain ⟨D8, hD8⟩ : ∃ D8 : Nat, (g[810 + j]'hgs).toNat = D8 := ⟨_, rfl⟩
     have hstep : (((bl g).drop 810).take (j + 1)).any (· != 48) = ((((bl g).drop 810).take j).any (· != 48) || (D8 != 48)) := by
      rw [List.take_add_one, List.getElem?_drop, bl_get g (810 + j) hgs, hD8, List.any_append]
      simp
     have b0 : ((810 + (j : Int)) : Int) < (N : Int) := by omega
     have b1 : (0 : Int) ≤ 810 + (j : Int) := by omega
     have b2 : (810 + (j : Int)).toNat = 810 + j := by omega
     have b3 : ((g[810 + j]'hgs).toNat : Int) = (D8 : Int) := by rw [hD8]
     have b4 : (g.size : Int) = (N : Int) := by rw [HGN.out]
     have b5 : 810 + (j : Int) < (g.size : Int) := by omega
     obtain ⟨r, hr⟩ : ∃ r, (((bl g).drop 810).take j).any (· != 48) = r := ⟨_, rfl⟩
     rw [hr] at hstep ⊢
     have HST := Lib.hid hstep
     clear hstep hr hD8
     cases r
     ·cases h48 : (D8 != 48)
      ·have b6 : ((D8 : Int) != 48) = false := by rw [bne_eq_false_iff_eq]; have := bne_eq_false_iff_eq.1 h48; omega
       have HS2 := Lib.hid (show (((bl g).drop 810).take (j + 1)).any (· != 48) = false from by rw [HST.out, h48]; rfl)
       clear h48
       go_wp2
       exact ⟨⟨j + 1, by go_num, by omega, by rw [HS2.out], trivial⟩, by simp [intOf]; omega⟩
      ·have b6 : ((D8 : Int) != 48) = true := by rw [bne_iff_ne]; have := bne_iff_ne.1 h48; omega
       have HS2 := Lib.hid (show (((bl g).drop 810).take (j + 1)).any (· != 48) = true from by rw [HST.out, h48]; rfl)
       clear h48
       go_wp2
       exact ⟨⟨j + 1, by go_num, by omega, by rw [HS2.out], trivial⟩, by simp [intOf]; omega⟩
     ·have HS2 := Lib.hid (show (((bl g).drop 810).take (j + 1)).any (· != 48) = true from by rw [HST.out]; rfl)
      go_wp2
      exact ⟨⟨j + 1, by go_num, by omega, by rw [HS2.out], trivial⟩, by simp [intOf]; omega⟩
    ·have hz2 : (((bl g).drop 810).take j).any (· != 48) = false := by
      rw [List.take_of_length_le (by rw [List.length_drop, bl_size, HGN.out]; omega)]
      exact HRB.out
     rw [hz2]
     have b4 : (g.size : Int) = (N : Int) := by rw [HGN.out]
     have b0 : decide (810 + (j : Int) < (N : Int)) = false := decide_eq_false (by omega)
     have b5 : (810 : Int) ≤ (g.size : Int) := by have := HN8.out; omega
     clear hz2
     go_wp2_with fail
     refine (C3.out _).mono ?_
     rintro e w1 ⟨A1, n1, c1, rfl, g1, b1⟩
     have G1 := Lib.hid g1
     have B1 := Lib.hid b1
     clear g1 b1
     go_wp2_with fail
     refine (C4.out _).mono ?_
     rintro e w2 ⟨A2, n2, c2, rfl, g2, b2⟩
     have G2 := Lib.hid g2
     have G1a := Lib.hid (G1.out.step b2)
     have B2 := Lib.hid (below_le B1.out b2)
     clear g2 b2
     go_wp2_with fail
     refine (C5.out _ _ _ _ G2.out).mono ?_
     rintro e w3 ⟨rfl, b3⟩
     have G2a := Lib.hid (G2.out.step b3)
     have G1b := Lib.hid (G1a.out.step b3)
     have B3 := Lib.hid (below_le B2.out b3)
     clear b3
     go_wp2_with fail
     refine (C6.out _ _ _ _ G1b.out).mono ?_
     rintro e w4 ⟨rfl, b4⟩
     have G2b := Lib.hid (G2a.out.step b4)
     have G1c := Lib.hid (G1b.out.step b4)
     have B4 := Lib.hid (below_le B3.out b4)
     clear b4
     go_wp2_with fail
     refine (C7.out _ _ _ _ G1c.out).mono ?_
     rintro e w5 ⟨A5, n5, c5, rfl, g5, b5⟩
     have G5 := Lib.hid g5
     have G25 := Lib.hid (G2b.out.step b5)
     have B5 := Lib.hid (below_le B4.out b5)
     clear g5 b5
     go_wp2_with fail
     refine (C8.out _ _ _ _ _ _ _ G5.out G25.out).mono ?_
     rintro e w6 ⟨A6, n6, c6, A7, n7, c7, rfl, g6, g7, b6⟩
     have G6 := Lib.hid g6
     have B6 := Lib.hid (below_le B5.out b6)
     have hn7 : (0 : Int) < (n7 : Int) := by
      have h1 := g7.len
      have h2 : (wds (M % D)) ≠ [] := fun e => HREM.out (by have h3 := wds_val (M % D); rw [e] at h3; exact h3.symm)
      have := List.length_pos_iff.2 h2
      omega
     clear g6 g7 b6
     go_wp2_with fail
     refine (C9.out _ _ _ _ G6.out).mono ?_
     rintro e w7 ⟨A8, n8, c8, rfl, g8, b7⟩
     have G8 := Lib.hid g8
     have B7 := Lib.hid (below_le B6.out b7)
     clear g8 b7
     have bl := Lib.hid (show Below w7.heap.size w7 (w7.alloc (.cells #[.int .u32 1] 42)) from (Below.refl _ _).alloc (Nat.le_refl _) _)
     have C10' := Lib.hid (C10.out _ _ _ _ _ _ _ (G8.out.step bl.out) (NV.lit w7 1 (by omega) (by omega)))
     go_wp2_with fail
     refine C10'.out.mono ?_
     rintro e w8 ⟨A9, n9, c9, rfl, g9, b8⟩
     have G9 := Lib.hid g9
     have B8 := Lib.hid (below_le (below_le B7.out bl.out) b8)
     clear g9 b8
     go_wp2_with fail
     refine (C11.out _ _ _ _ G9.out).mono ?_
     rintro e w9 ⟨rfl, b9⟩
     have B9 := Lib.hid (below_le B8.out b9)
     clear b9
     go_wp2
     go_ret
     exact ⟨rfl, B9.out⟩

end Go.Proofs.YtfcpkdafkmohkaaGreatDoor
namespace Go.Proofs.YtfcpkdafkmohkaaGreatDoor
open Go.RowKit
set_option maxRecDepth 100000 in
set_option maxHeartbeats 2000000 in
theorem ydec_longr_pos (s : ByteArray) (K N : Nat) (X P : Int) (m F : Nat) (D M : Nat) (g : ByteArray) (y1 y2 : Int) (E : Int) (w : World) (hs : s.size ≤ 281474976710656) (hK : K ≤ s.size) (hN : s.size - K = N)
  (Z1 : Hid (∀ k (h : k < s.size), k < K → (s[k]'h).toNat = 48)) (Z2 : Hid (∀ h : K < s.size, (s[K]'h).toNat ≠ 48))
  (hN0 : 0 < N) (p1 : wrap64 ((N : Int) + X) = P) (t0 : ((N : Int) == 0) = false) (t1 : decide (400 < P) = false) (t2 : decide (P < -400) = false) (t3 : decide (820 < (N : Int)) = true)
  (hg : s.extract K s.size = g) (hgN : g.size = N) (hN8 : 820 < N) (hrb : ((bl g).drop 810).any (· != 48) = true)
  (q0 : wrap64 (X + (N : Int)) = y1) (q1 : wrap64 (y1 - 810) = y2) (q2 : wrap64 (y2 - 1) = E) (_q3 : ¬ 9223372036854775807 < (g.extract 0 810).size + 1) 
  (C3 : Hid (∀ W, Cp 165 #[.string (g.extract 0 810 ++ ⟨#[49]⟩), .int .i64 10] W (NOk m W)))
  (C4 : Hid (∀ W, Cp 115 #[.int .i64 E] W (NRet D W)))
  (C5 : Hid (∀ W A1 n1 c1 A2 n2 c2, NV W A1 n1 c1 m → NV W A2 n2 c2 D → Cp 51 #[.slice A1 n1 c1, .slice A2 n2 c2] W (NRet M W)))
  (C6 : Hid (∀ W A1 n1 c1, NV W A1 n1 c1 M → Ct 154 #[.slice A1 n1 c1, .int .i64 0] (.float .f64 F) W))
  (u0 : decide (0 ≤ E) = true) :
  Ct 104 #[.string s, .int .i64 X] (.float .f64 F) w := by
 have h1 : (s.size : Int) ≤ 281474976710656 := by omega
 have HN := Lib.hid hN
 have HK := Lib.hid hK
 have HN0 := Lib.hid hN0
 have HG := Lib.hid hg
 have HGN := Lib.hid hgN
 have HN8 := Lib.hid hN8
 have HRB := Lib.hid hrb
 clear hs hK hN hN0 hg hgN hN8 hrb
 go_enter Tryz.func104, Tryz.ntmps104
 go_wp2
 go_loopw [5] (fun i wr => ∃ k : Nat, i = .int .i64 k ∧ k ≤ K ∧ w = wr) (fun i _ => K - (intOf i).toNat)
 case atStart => exact ⟨0, rfl, Nat.zero_le _, rfl⟩
 case round =>
  obtain ⟨k, rfl, hk, rfl⟩ := hrel
  have hk2 := HK.out
  by_cases hlt : k < K
  ·have hks : k < s.size := by omega
   have e0 : ((s[k]'hks).toNat : Int) = 48 := by rw [Z1.out k hks hlt]; rfl
   have a2 : (k : Int) < (s.size : Int) := by omega
   have a1 : (0 : Int) ≤ (k : Int) := by omega
   clear hk2
   go_wp2
   exact ⟨⟨k + 1, by go_num, by omega, trivial⟩, by simp [intOf]; omega⟩
  ·obtain rfl : k = K := by omega
   have hz : k < s.size := by have := HN.out; have := HN0.out; omega
   obtain ⟨B, hB⟩ : ∃ B : Nat, (s[k]'hz).toNat = B := ⟨_, rfl⟩
   have hB48 := Z2.out hz
   rw [hB] at hB48
   have e0 : ((s[k]'hz).toNat : Int) = (B : Int) := by rw [hB]
   have e1 : ((B : Int) == 48) = false := by rw [beq_eq_false_iff_ne]; omega
   have a2 : (k : Int) < (s.size : Int) := by omega
   have a1 : (0 : Int) ≤ (k : Int) := by omega
   have a3 : (k : Int) ≤ (s.size : Int) := by omega
   have a4 : ((s.size - k : Nat) : Int) = (N : Int) := by rw [HN.out]
   clear hk2 hB hB48
   have hext : s.extract k s.size = g := HG.out
   have b4 : (g.size : Int) = (N : Int) := by rw [HGN.out]
   go_wp2
   clear a1 a2 a3 e0 e1 hext hz b4
   go_loopw [6, 7] (fun v i wr => ∃ j : Nat, i = .int .i64 (810 + (j : Int)) ∧ 810 + j ≤ N ∧ v = .bool ((((bl g).drop 810).take j).any (· != 48)) ∧ w = wr) (fun _ i _ => N - (intOf i).toNat)
   case atStart => exact ⟨0, rfl, by have := HN8.out; omega, rfl, rfl⟩
   case round =>
    obtain ⟨j, rfl, hj, rfl, rfl⟩ := hrel
    by_cases hjl : 810 + j < N
    ·have hgs : 810 + j < g.size := by rw [HGN.out]; exact hjl
     obtain ⟨D8, hD8⟩ : ∃ D8 : Nat, (g[810 + j]'hgs).toNat = D8 := ⟨_, rfl⟩
     have hstep : (((bl g).drop 810).take (j + 1)).any (· != 48) = ((((bl g).drop 810).take j).any (· != 48) || (D8 != 48)) := by
      rw [List.take_add_one, List.getElem?_drop, bl_get g (810 + j) hgs, hD8, List.any_append]
      simp
     have b0 : ((810 + (j : Int)) : Int) < (N : Int) := by omega
     have b1 : (0 : Int) ≤ 810 + (j : Int) := by omega
     have b2 : (810 + (j : Int)).toNat = 810 + j := by omega
     have b3 : ((g[810 + j]'hgs).toNat : Int) = (D8 : Int) := by rw [hD8]
     have b4 : (g.size : Int) = (N : Int) := by rw [HGN.out]
     have b5 : 810 + (j : Int) < (g.size : Int) := by omega
     obtain ⟨r, hr⟩ : ∃ r, (((bl g).drop 810).take j).any (· != 48) = r := ⟨_, rfl⟩
     rw [hr] at hstep ⊢
     have HST := Lib.hid hstep
     clear hstep hr hD8
     cases r
     ·cases h48 : (D8 != 48)
      ·have b6 : ((D8 : Int) != 48) = false := by rw [bne_eq_false_iff_eq]; have := bne_eq_false_iff_eq.1 h48; omega
       have HS2 := Lib.hid (show (((bl g).drop 810).take (j + 1)).any (· != 48) = false from by rw [HST.out, h48]; rfl)
       clear h48
       go_wp2
       exact ⟨⟨j + 1, by go_num, by omega, by rw [HS2.out], trivial⟩, by simp [intOf]; omega⟩
      ·have b6 : ((D8 : Int) != 48) = true := by rw [bne_iff_ne]; have := bne_iff_ne.1 h48; omega
       have HS2 := Lib.hid (show (((bl g).drop 810).take (j + 1)).any (· != 48) = true from by rw [HST.out, h48]; rfl)
       clear h48
       go_wp2
       exact ⟨⟨j + 1, by go_num, by omega, by rw [HS2.out], trivial⟩, by simp [intOf]; omega⟩
     ·have HS2 := Lib.hid (show (((bl g).drop 810).take (j + 1)).any (· != 48) = true from by rw [HST.out]; rfl)
      go_wp2
      exact ⟨⟨j + 1, by go_num, by omega, by rw [HS2.out], trivial⟩, by simp [intOf]; omega⟩
    ·have hz2 : (((bl g).drop 810).take j).any (· != 48) = true := by
      rw [List.take_of_length_le (by rw [List.length_drop, bl_size, HGN.out]; omega)]
      exact HRB.out
     rw [hz2]
     have b4 : (g.size : Int) = (N : Int) := by rw [HGN.out]
     have b0 : decide (810 + (j : Int) < (N : Int)) = false := decide_eq_false (by omega)
     have b5 : (810 : Int) ≤ (g.size : Int) := by have := HN8.out; omega
     clear hz2
     go_wp2_with fail
     refine (C3.out _).mono ?_
     rintro e w1 ⟨A1, n1, c1, rfl, g1, b1⟩
     have G1 := Lib.hid g1
     have B1 := Lib.hid b1
     clear g1 b1
     go_wp2_with fail
     refine (C4.out _).mono ?_
     rintro e w2 ⟨A2, n2, c2, rfl, g2, b2⟩
     have G2 := Lib.hid g2
     have G1a := Lib.hid (G1.out.step b2)
     have B2 := Lib.hid (below_le B1.out b2)
     clear g2 b2
     go_wp2_with fail
     refine (C5.out _ _ _ _ _ _ _ G1a.out G2.out).mono ?_
     rintro e w3 ⟨A3, n3, c3, rfl, g3, b3⟩
     have G3 := Lib.hid g3
     have B3 := Lib.hid (below_le B2.out b3)
     clear g3 b3
     go_wp2_with fail
     refine (C6.out _ _ _ _ G3.out).mono ?_
     rintro e w4 ⟨rfl, b4⟩
     have B4 := Lib.hid (below_le B3.out b4)
     clear b4
     go_wp2
     go_ret
     exact ⟨rfl, B4.out⟩
set_option maxRecDepth 100000 in
set_option maxHeartbeats 2000000 in
theorem ydec_longr_neg00 (s : ByteArray) (K N : Nat) (X P : Int) (m F : Nat) (D M Q bd ba : Nat) (x1 up Y : Int) (g : ByteArray) (y1 y2 : Int) (E : Int) (w : World) (hs : s.size ≤ 281474976710656) (hK : K ≤ s.size) (hN : s.size - K = N)
  (Z1 : Hid (∀ k (h : k < s.size), k < K → (s[k]'h).toNat = 48)) (Z2 : Hid (∀ h : K < s.size, (s[K]'h).toNat ≠ 48))
  (hN0 : 0 < N) (p1 : wrap64 ((N : Int) + X) = P) (t0 : ((N : Int) == 0) = false) (t1 : decide (400 < P) = false) (t2 : decide (P < -400) = false) (t3 : decide (820 < (N : Int)) = true)
  (hg : s.extract K s.size = g) (hgN : g.size = N) (hN8 : 820 < N) (hrb : ((bl g).drop 810).any (· != 48) = true)
  (q0 : wrap64 (X + (N : Int)) = y1) (q1 : wrap64 (y1 - 810) = y2) (q2 : wrap64 (y2 - 1) = E) (_q3 : ¬ 9223372036854775807 < (g.extract 0 810).size + 1) 
  (C3 : Hid (∀ W, Cp 165 #[.string (g.extract 0 810 ++ ⟨#[49]⟩), .int .i64 10] W (NOk m W)))
  (C4 : Hid (∀ W, Cp 115 #[.int .i64 (-E)] W (NRet D W)))
  (C5 : Hid (∀ W A1 n1 c1, NV W A1 n1 c1 D → Ct 163 #[.slice A1 n1 c1] (.int .i64 (bd : Nat)) W))
  (C6 : Hid (∀ W A1 n1 c1, NV W A1 n1 c1 m → Ct 163 #[.slice A1 n1 c1] (.int .i64 (ba : Nat)) W))
  (C7 : Hid (∀ W A1 n1 c1, NV W A1 n1 c1 m → Cp 102 #[.slice A1 n1 c1, .int .i64 0] W (NRet M W)))
  (C8 : Hid (∀ W A1 n1 c1 A2 n2 c2, NV W A1 n1 c1 M → NV W A2 n2 c2 D → Cp 49 #[.slice A1 n1 c1, .slice A2 n2 c2] W (HRet M D W)))
  (C9 : Hid (∀ W A1 n1 c1, NV W A1 n1 c1 (M / D) → Cp 102 #[.slice A1 n1 c1, .int .i64 1] W (NRet Q W)))
  (C11 : Hid (∀ W A1 n1 c1, NV W A1 n1 c1 Q → Ct 154 #[.slice A1 n1 c1, .int .i64 Y] (.float .f64 F) W))
  (hrem : M % D = 0)
  (u0 : decide (0 ≤ E) = false) (u1 : wrap64 (-E) = -E) (u2 : wrap64 ((bd : Int) - (ba : Int)) = x1) (u3 : wrap64 (x1 + 70) = up) (u4 : decide (up < 0) = true) (u6 : Y = -1) :
  Ct 104 #[.string s, .int .i64 X] (.float .f64 F) w := by
 have h1 : (s.size : Int) ≤ 281474976710656 := by omega
 have HN := Lib.hid hN
 have HK := Lib.hid hK
 have HN0 := Lib.hid hN0
 have HREM := Lib.hid hrem
 subst u6
 have HG := Lib.hid hg
 have HGN := Lib.hid hgN
 have HN8 := Lib.hid hN8
 have HRB := Lib.hid hrb
 clear hs hK hN hN0 hrem hg hgN hN8 hrb
 go_enter Tryz.func104, Tryz.ntmps104
 go_wp2
 go_loopw [5] (fun i wr => ∃ k : Nat, i = .int .i64 k ∧ k ≤ K ∧ w = wr) (fun i _ => K - (intOf i).toNat)
 case atStart => exact ⟨0, rfl, Nat.zero_le _, rfl⟩
 case round =>
  obtain ⟨k, rfl, hk, rfl⟩ := hrel
  have hk2 := HK.out
  by_cases hlt : k < K
  ·have hks : k < s.size := by omega
   have e0 : ((s[k]'hks).toNat : Int) = 48 := by rw [Z1.out k hks hlt]; rfl
   have a2 : (k : Int) < (s.size : Int) := by omega
   have a1 : (0 : Int) ≤ (k : Int) := by omega
   clear hk2
   go_wp2
   exact ⟨⟨k + 1, by go_num, by omega, trivial⟩, by simp [intOf]; omega⟩
  ·obtain rfl : k = K := by omega
   have hz : k < s.size := by have := HN.out; have := HN0.out; omega
   obtain ⟨B, hB⟩ : ∃ B : Nat, (s[k]'hz).toNat = B := ⟨_, rfl⟩
   have hB48 := Z2.out hz
   rw [hB] at hB48
   have e0 : ((s[k]'hz).toNat : Int) = (B : Int) := by rw [hB]
   have e1 : ((B : Int) == 48) = false := by rw [beq_eq_false_iff_ne]; omega
   have a2 : (k : Int) < (s.size : Int) := by omega
   have a1 : (0 : Int) ≤ (k : Int) := by omega
   have a3 : (k : Int) ≤ (s.size : Int) := by omega
   have a4 : ((s.size - k : Nat) : Int) = (N : Int) := by rw [HN.out]
   clear hk2 hB hB48
   have hext : s.extract k s.size = g := HG.out
   have b4 : (g.size : Int) = (N : Int) := by rw [HGN.out]
   go_wp2
   clear a1 a2 a3 e0 e1 hext hz b4
   go_loopw [6, 7] (fun v i wr => ∃ j : Nat, i = .int .i64 (810 + (j : Int)) ∧ 810 + j ≤ N ∧ v = .bool ((((bl g).drop 810).take j).any (· != 48)) ∧ w = wr) (fun _ i _ => N - (intOf i).toNat)
   case atStart => exact ⟨0, rfl, by have := HN8.out; omega, rfl, rfl⟩
   case round =>
    obtain ⟨j, rfl, hj, rfl, rfl⟩ := hrel
    by_cases hjl : 810 + j < N
    ·have hgs : 810 + j < g.size := by rw [HGN.out]; exact hjl
     obtain ⟨D8, hD8⟩ : ∃ D8 : Nat, (g[810 + j]'hgs).toNat = D8 := ⟨_, rfl⟩
     have hstep : (((bl g).drop 810).take (j + 1)).any (· != 48) = ((((bl g).drop 810).take j).any (· != 48) || (D8 != 48)) := by
      rw [List.take_add_one, List.getElem?_drop, bl_get g (810 + j) hgs, hD8, List.any_append]
      simp
     have b0 : ((810 + (j : Int)) : Int) < (N : Int) := by omega
     have b1 : (0 : Int) ≤ 810 + (j : Int) := by omega
     have b2 : (810 + (j : Int)).toNat = 810 + j := by omega
     have b3 : ((g[810 + j]'hgs).toNat : Int) = (D8 : Int) := by rw [hD8]
     have b4 : (g.size : Int) = (N : Int) := by rw [HGN.out]
     have b5 : 810 + (j : Int) < (g.size : Int) := by omega
     obtain ⟨r, hr⟩ : ∃ r, (((bl g).drop 810).take j).any (· != 48) = r := ⟨_, rfl⟩
     rw [hr] at hstep ⊢
     have HST := Lib.hid hstep
     clear hstep hr hD8
     cases r
     ·cases h48 : (D8 != 48)
      ·have b6 : ((D8 : Int) != 48) = false := by rw [bne_eq_false_iff_eq]; have := bne_eq_false_iff_eq.1 h48; omega
       have HS2 := Lib.hid (show (((bl g).drop 810).take (j + 1)).any (· != 48) = false from by rw [HST.out, h48]; rfl)
       clear h48
       go_wp2
       exact ⟨⟨j + 1, by go_num, by omega, by rw [HS2.out], trivial⟩, by simp [intOf]; omega⟩
      ·have b6 : ((D8 : Int) != 48) = true := by rw [bne_iff_ne]; have := bne_iff_ne.1 h48; omega
       have HS2 := Lib.hid (show (((bl g).drop 810).take (j + 1)).any (· != 48) = true from by rw [HST.out, h48]; rfl)
       clear h48
       go_wp2
       exact ⟨⟨j + 1, by go_num, by omega, by rw [HS2.out], trivial⟩, by simp [intOf]; omega⟩
     ·have HS2 := Lib.hid (show (((bl g).drop 810).take (j + 1)).any (· != 48) = true from by rw [HST.out]; rfl)
      go_wp2
      exact ⟨⟨j + 1, by go_num, by omega, by rw [HS2.out], trivial⟩, by simp [intOf]; omega⟩
    ·have hz2 : (((bl g).drop 810).take j).any (· != 48) = true := by
      rw [List.take_of_length_le (by rw [List.length_drop, bl_size, HGN.out]; omega)]
      exact HRB.out
     rw [hz2]
     have b4 : (g.size : Int) = (N : Int) := by rw [HGN.out]
     have b0 : decide (810 + (j : Int) < (N : Int)) = false := decide_eq_false (by omega)
     have b5 : (810 : Int) ≤ (g.size : Int) := by have := HN8.out; omega
     clear hz2
     go_wp2_with fail
     refine (C3.out _).mono ?_
     rintro e w1 ⟨A1, n1, c1, rfl, g1, b1⟩
     have G1 := Lib.hid g1
     have B1 := Lib.hid b1
     clear g1 b1
     go_wp2_with fail
     refine (C4.out _).mono ?_
     rintro e w2 ⟨A2, n2, c2, rfl, g2, b2⟩
     have G2 := Lib.hid g2
     have G1a := Lib.hid (G1.out.step b2)
     have B2 := Lib.hid (below_le B1.out b2)
     clear g2 b2
     go_wp2_with fail
     refine (C5.out _ _ _ _ G2.out).mono ?_
     rintro e w3 ⟨rfl, b3⟩
     have G2a := Lib.hid (G2.out.step b3)
     have G1b := Lib.hid (G1a.out.step b3)
     have B3 := Lib.hid (below_le B2.out b3)
     clear b3
     go_wp2_with fail
     refine (C6.out _ _ _ _ G1b.out).mono ?_
     rintro e w4 ⟨rfl, b4⟩
     have G2b := Lib.hid (G2a.out.step b4)
     have G1c := Lib.hid (G1b.out.step b4)
     have B4 := Lib.hid (below_le B3.out b4)
     clear b4
     go_wp2_with fail
     refine (C7.out _ _ _ _ G1c.out).mono ?_
     rintro e w5 ⟨A5, n5, c5, rfl, g5, b5⟩
     have G5 := Lib.hid g5
     have G25 := Lib.hid (G2b.out.step b5)
     have B5 := Lib.hid (below_le B4.out b5)
     clear g5 b5
     go_wp2_with fail
     refine (C8.out _ _ _ _ _ _ _ G5.out G25.out).mono ?_
     rintro e w6 ⟨A6, n6, c6, A7, n7, c7, rfl, g6, g7, b6⟩
     have G6 := Lib.hid g6
     have B6 := Lib.hid (below_le B5.out b6)
     obtain rfl : n7 = 0 := by
      have h1 := g7.len
      rw [HREM.out] at h1
      exact h1.symm
     clear g6 g7 b6
     go_wp2_with fail
     refine (C9.out _ _ _ _ G6.out).mono ?_
     rintro e w7 ⟨A8, n8, c8, rfl, g8, b7⟩
     have G8 := Lib.hid g8
     have B7 := Lib.hid (below_le B6.out b7)
     clear g8 b7
     go_wp2_with fail
     refine (C11.out _ _ _ _ G8.out).mono ?_
     rintro e w9 ⟨rfl, b9⟩
     have B9 := Lib.hid (below_le B7.out b9)
     clear b9
     go_wp2
     go_ret
     exact ⟨rfl, B9.out⟩
set_option maxRecDepth 100000 in
set_option maxHeartbeats 2000000 in
theorem ydec_longr_neg01 (s : ByteArray) (K N : Nat) (X P : Int) (m F : Nat) (D M Q Q2 bd ba : Nat) (x1 up Y : Int) (g : ByteArray) (y1 y2 : Int) (E : Int) (w : World) (hs : s.size ≤ 281474976710656) (hK : K ≤ s.size) (hN : s.size - K = N)
  (Z1 : Hid (∀ k (h : k < s.size), k < K → (s[k]'h).toNat = 48)) (Z2 : Hid (∀ h : K < s.size, (s[K]'h).toNat ≠ 48))
  (hN0 : 0 < N) (p1 : wrap64 ((N : Int) + X) = P) (t0 : ((N : Int) == 0) = false) (t1 : decide (400 < P) = false) (t2 : decide (P < -400) = false) (t3 : decide (820 < (N : Int)) = true)
  (hg : s.extract K s.size = g) (hgN : g.size = N) (hN8 : 820 < N) (hrb : ((bl g).drop 810).any (· != 48) = true)
  (q0 : wrap64 (X + (N : Int)) = y1) (q1 : wrap64 (y1 - 810) = y2) (q2 : wrap64 (y2 - 1) = E) (_q3 : ¬ 9223372036854775807 < (g.extract 0 810).size + 1) 
  (C3 : Hid (∀ W, Cp 165 #[.string (g.extract 0 810 ++ ⟨#[49]⟩), .int .i64 10] W (NOk m W)))
  (C4 : Hid (∀ W, Cp 115 #[.int .i64 (-E)] W (NRet D W)))
  (C5 : Hid (∀ W A1 n1 c1, NV W A1 n1 c1 D → Ct 163 #[.slice A1 n1 c1] (.int .i64 (bd : Nat)) W))
  (C6 : Hid (∀ W A1 n1 c1, NV W A1 n1 c1 m → Ct 163 #[.slice A1 n1 c1] (.int .i64 (ba : Nat)) W))
  (C7 : Hid (∀ W A1 n1 c1, NV W A1 n1 c1 m → Cp 102 #[.slice A1 n1 c1, .int .i64 0] W (NRet M W)))
  (C8 : Hid (∀ W A1 n1 c1 A2 n2 c2, NV W A1 n1 c1 M → NV W A2 n2 c2 D → Cp 49 #[.slice A1 n1 c1, .slice A2 n2 c2] W (HRet M D W)))
  (C9 : Hid (∀ W A1 n1 c1, NV W A1 n1 c1 (M / D) → Cp 102 #[.slice A1 n1 c1, .int .i64 1] W (NRet Q W)))
  (C10 : Hid (∀ W A1 n1 c1 A2 n2 c2, NV W A1 n1 c1 Q → NV W A2 n2 c2 1 → Cp 103 #[.slice A1 n1 c1, .slice A2 n2 c2] W (NRet Q2 W)))
  (C11 : Hid (∀ W A1 n1 c1, NV W A1 n1 c1 Q2 → Ct 154 #[.slice A1 n1 c1, .int .i64 Y] (.float .f64 F) W))
  (hrem : M % D ≠ 0)
  (u0 : decide (0 ≤ E) = false) (u1 : wrap64 (-E) = -E) (u2 : wrap64 ((bd : Int) - (ba : Int)) = x1) (u3 : wrap64 (x1 + 70) = up) (u4 : decide (up < 0) = true) (u6 : Y = -1) :
  Ct 104 #[.string s, .int .i64 X] (.float .f64 F) w := by
 have h1 : (s.size : Int) ≤ 281474976710656 := by omega
 have HN := Lib.hid hN
 have HK := Lib.hid hK
 have HN0 := Lib.hid hN0
 have HREM := Lib.hid hrem
 subst u6
 have HG := Lib.hid hg
 have HGN := Lib.hid hgN
 have HN8 := Lib.hid hN8
 have HRB := Lib.hid hrb
 clear hs hK hN hN0 hrem hg hgN hN8 hrb
 go_enter Tryz.func104, Tryz.ntmps104
 go_wp2
 go_loopw [5] (fun i wr => ∃ k : Nat, i = .int .i64 k ∧ k ≤ K ∧ w = wr) (fun i _ => K - (intOf i).toNat)
 case atStart => exact ⟨0, rfl, Nat.zero_le _, rfl⟩
 case round =>
  obtain ⟨k, rfl, hk, rfl⟩ := hrel
  have hk2 := HK.out
  by_cases hlt : k < K
  ·have hks : k < s.size := by omega
   have e0 : ((s[k]'hks).toNat : Int) = 48 := by rw [Z1.out k hks hlt]; rfl
   have a2 : (k : Int) < (s.size : Int) := by omega
   have a1 : (0 : Int) ≤ (k : Int) := by omega
   clear hk2
   go_wp2
   exact ⟨⟨k + 1, by go_num, by omega, trivial⟩, by simp [intOf]; omega⟩
  ·obtain rfl : k = K := by omega
   have hz : k < s.size := by have := HN.out; have := HN0.out; omega
   obtain ⟨B, hB⟩ : ∃ B : Nat, (s[k]'hz).toNat = B := ⟨_, rfl⟩
   have hB48 := Z2.out hz
   rw [hB] at hB48
   have e0 : ((s[k]'hz).toNat : Int) = (B : Int) := by rw [hB]
   have e1 : ((B : Int) == 48) = false := by rw [beq_eq_false_iff_ne]; omega
   have a2 : (k : Int) < (s.size : Int) := by omega
   have a1 : (0 : Int) ≤ (k : Int) := by omega
   have a3 : (k : Int) ≤ (s.size : Int) := by omega
   have a4 : ((s.size - k : Nat) : Int) = (N : Int) := by rw [HN.out]
   clear hk2 hB hB48
   have hext : s.extract k s.size = g := HG.out
   have b4 : (g.size : Int) = (N : Int) := by rw [HGN.out]
   go_wp2
   clear a1 a2 a3 e0 e1 hext hz b4
   go_loopw [6, 7] (fun v i wr => ∃ j : Nat, i = .int .i64 (810 + (j : Int)) ∧ 810 + j ≤ N ∧ v = .bool ((((bl g).drop 810).take j).any (· != 48)) ∧ w = wr) (fun _ i _ => N - (intOf i).toNat)
   case atStart => exact ⟨0, rfl, by have := HN8.out; omega, rfl, rfl⟩
   case round =>
    obtain ⟨j, rfl, hj, rfl, rfl⟩ := hrel
    by_cases hjl : 810 + j < N
    ·have hgs : 810 + j < g.size := by rw [HGN.out]; exact hjl
     obtain ⟨D8, hD8⟩ : ∃ D8 : Nat, (g[810 + j]'hgs).toNat = D8 := ⟨_, rfl⟩
     have hstep : (((bl g).drop 810).take (j + 1)).any (· != 48) = ((((bl g).drop 810).take j).any (· != 48) || (D8 != 48)) := by
      rw [List.take_add_one, List.getElem?_drop, bl_get g (810 + j) hgs, hD8, List.any_append]
      simp
     have b0 : ((810 + (j : Int)) : Int) < (N : Int) := by omega
     have b1 : (0 : Int) ≤ 810 + (j : Int) := by omega
     have b2 : (810 + (j : Int)).toNat = 810 + j := by omega
     have b3 : ((g[810 + j]'hgs).toNat : Int) = (D8 : Int) := by rw [hD8]
     have b4 : (g.size : Int) = (N : Int) := by rw [HGN.out]
     have b5 : 810 + (j : Int) < (g.size : Int) := by omega
     obtain ⟨r, hr⟩ : ∃ r, (((bl g).drop 810).take j).any (· != 48) = r := ⟨_, rfl⟩
     rw [hr] at hstep ⊢
     have HST := Lib.hid hstep
     clear hstep hr hD8
     cases r
     ·cases h48 : (D8 != 48)
      ·have b6 : ((D8 : Int) != 48) = false := by rw [bne_eq_false_iff_eq]; have := bne_eq_false_iff_eq.1 h48; omega
       have HS2 := Lib.hid (show (((bl g).drop 810).take (j + 1)).any (· != 48) = false from by rw [HST.out, h48]; rfl)
       clear h48
       go_wp2
       exact ⟨⟨j + 1, by go_num, by omega, by rw [HS2.out], trivial⟩, by simp [intOf]; omega⟩
      ·have b6 : ((D8 : Int) != 48) = true := by rw [bne_iff_ne]; have := bne_iff_ne.1 h48; omega
       have HS2 := Lib.hid (show (((bl g).drop 810).take (j + 1)).any (· != 48) = true from by rw [HST.out, h48]; rfl)
       clear h48
       go_wp2
       exact ⟨⟨j + 1, by go_num, by omega, by rw [HS2.out], trivial⟩, by simp [intOf]; omega⟩
     ·have HS2 := Lib.hid (show (((bl g).drop 810).take (j + 1)).any (· != 48) = true from by rw [HST.out]; rfl)
      go_wp2
      exact ⟨⟨j + 1, by go_num, by omega, by rw [HS2.out], trivial⟩, by simp [intOf]; omega⟩
    ·have hz2 : (((bl g).drop 810).take j).any (· != 48) = true := by
      rw [List.take_of_length_le (by rw [List.length_drop, bl_size, HGN.out]; omega)]
      exact HRB.out
     rw [hz2]
     have b4 : (g.size : Int) = (N : Int) := by rw [HGN.out]
     have b0 : decide (810 + (j : Int) < (N : Int)) = false := decide_eq_false (by omega)
     have b5 : (810 : Int) ≤ (g.size : Int) := by have := HN8.out; omega
     clear hz2
     go_wp2_with fail
     refine (C3.out _).mono ?_
     rintro e w1 ⟨A1, n1, c1, rfl, g1, b1⟩
     have G1 := Lib.hid g1
     have B1 := Lib.hid b1
     clear g1 b1
     go_wp2_with fail
     refine (C4.out _).mono ?_
     rintro e w2 ⟨A2, n2, c2, rfl, g2, b2⟩
     have G2 := Lib.hid g2
     have G1a := Lib.hid (G1.out.step b2)
     have B2 := Lib.hid (below_le B1.out b2)
     clear g2 b2
     go_wp2_with fail
     refine (C5.out _ _ _ _ G2.out).mono ?_
     rintro e w3 ⟨rfl, b3⟩
     have G2a := Lib.hid (G2.out.step b3)
     have G1b := Lib.hid (G1a.out.step b3)
     have B3 := Lib.hid (below_le B2.out b3)
     clear b3
     go_wp2_with fail
     refine (C6.out _ _ _ _ G1b.out).mono ?_
     rintro e w4 ⟨rfl, b4⟩
     have G2b := Lib.hid (G2a.out.step b4)
     have G1c := Lib.hid (G1b.out.step b4)
     have B4 := Lib.hid (below_le B3.out b4)
     clear b4
     go_wp2_with fail
     refine (C7.out _ _ _ _ G1c.out).mono ?_
     rintro e w5 ⟨A5, n5, c5, rfl, g5, b5⟩
     have G5 := Lib.hid g5
     have G25 := Lib.hid (G2b.out.step b5)
     have B5 := Lib.hid (below_le B4.out b5)
     clear g5 b5
     go_wp2_with fail
     refine (C8.out _ _ _ _ _ _ _ G5.out G25.out).mono ?_
     rintro e w6 ⟨A6, n6, c6, A7, n7, c7, rfl, g6, g7, b6⟩
     have G6 := Lib.hid g6
     have B6 := Lib.hid (below_le B5.out b6)
     have hn7 : (0 : Int) < (n7 : Int) := by
      have h1 := g7.len
      have h2 : (wds (M % D)) ≠ [] := fun e => HREM.out (by have h3 := wds_val (M % D); rw [e] at h3; exact h3.symm)
      have := List.length_pos_iff.2 h2
      omega
     clear g6 g7 b6
     go_wp2_with fail
     refine (C9.out _ _ _ _ G6.out).mono ?_
     rintro e w7 ⟨A8, n8, c8, rfl, g8, b7⟩
     have G8 := Lib.hid g8
     have B7 := Lib.hid (below_le B6.out b7)
     clear g8 b7
     have bl := Lib.hid (show Below w7.heap.size w7 (w7.alloc (.cells #[.int .u32 1] 42)) from (Below.refl _ _).alloc (Nat.le_refl _) _)
     have C10' := Lib.hid (C10.out _ _ _ _ _ _ _ (G8.out.step bl.out) (NV.lit w7 1 (by omega) (by omega)))
     go_wp2_with fail
     refine C10'.out.mono ?_
     rintro e w8 ⟨A9, n9, c9, rfl, g9, b8⟩
     have G9 := Lib.hid g9
     have B8 := Lib.hid (below_le (below_le B7.out bl.out) b8)
     clear g9 b8
     go_wp2_with fail
     refine (C11.out _ _ _ _ G9.out).mono ?_
     rintro e w9 ⟨rfl, b9⟩
     have B9 := Lib.hid (below_le B8.out b9)
     clear b9
     go_wp2
     go_ret
     exact ⟨rfl, B9.out⟩
set_option maxRecDepth 100000 in
set_option maxHeartbeats 2000000 in
theorem ydec_longr_neg10 (s : ByteArray) (K N : Nat) (X P : Int) (m F : Nat) (D M Q bd ba : Nat) (x1 up x2 Y : Int) (g : ByteArray) (y1 y2 : Int) (E : Int) (w : World) (hs : s.size ≤ 281474976710656) (hK : K ≤ s.size) (hN : s.size - K = N)
  (Z1 : Hid (∀ k (h : k < s.size), k < K → (s[k]'h).toNat = 48)) (Z2 : Hid (∀ h : K < s.size, (s[K]'h).toNat ≠ 48))
  (hN0 : 0 < N) (p1 : wrap64 ((N : Int) + X) = P) (t0 : ((N : Int) == 0) = false) (t1 : decide (400 < P) = false) (t2 : decide (P < -400) = false) (t3 : decide (820 < (N : Int)) = true)
  (hg : s.extract K s.size = g) (hgN : g.size = N) (hN8 : 820 < N) (hrb : ((bl g).drop 810).any (· != 48) = true)
  (q0 : wrap64 (X + (N : Int)) = y1) (q1 : wrap64 (y1 - 810) = y2) (q2 : wrap64 (y2 - 1) = E) (_q3 : ¬ 9223372036854775807 < (g.extract 0 810).size + 1) 
  (C3 : Hid (∀ W, Cp 165 #[.string (g.extract 0 810 ++ ⟨#[49]⟩), .int .i64 10] W (NOk m W)))
  (C4 : Hid (∀ W, Cp 115 #[.int .i64 (-E)] W (NRet D W)))
  (C5 : Hid (∀ W A1 n1 c1, NV W A1 n1 c1 D → Ct 163 #[.slice A1 n1 c1] (.int .i64 (bd : Nat)) W))
  (C6 : Hid (∀ W A1 n1 c1, NV W A1 n1 c1 m → Ct 163 #[.slice A1 n1 c1] (.int .i64 (ba : Nat)) W))
  (C7 : Hid (∀ W A1 n1 c1, NV W A1 n1 c1 m → Cp 102 #[.slice A1 n1 c1, .int .i64 up] W (NRet M W)))
  (C8 : Hid (∀ W A1 n1 c1 A2 n2 c2, NV W A1 n1 c1 M → NV W A2 n2 c2 D → Cp 49 #[.slice A1 n1 c1, .slice A2 n2 c2] W (HRet M D W)))
  (C9 : Hid (∀ W A1 n1 c1, NV W A1 n1 c1 (M / D) → Cp 102 #[.slice A1 n1 c1, .int .i64 1] W (NRet Q W)))
  (C11 : Hid (∀ W A1 n1 c1, NV W A1 n1 c1 Q → Ct 154 #[.slice A1 n1 c1, .int .i64 Y] (.float .f64 F) W))
  (hrem : M % D = 0)
  (u0 : decide (0 ≤ E) = false) (u1 : wrap64 (-E) = -E) (u2 : wrap64 ((bd : Int) - (ba : Int)) = x1) (u3 : wrap64 (x1 + 70) = up) (u4 : decide (up < 0) = false) (u5 : wrap64 (-up) = x2) (u6 : wrap64 (x2 - 1) = Y) :
  Ct 104 #[.string s, .int .i64 X] (.float .f64 F) w := by
 have h1 : (s.size : Int) ≤ 281474976710656 := by omega
 have HN := Lib.hid hN
 have HK := Lib.hid hK
 have HN0 := Lib.hid hN0
 have HREM := Lib.hid hrem
 have HG := Lib.hid hg
 have HGN := Lib.hid hgN
 have HN8 := Lib.hid hN8
 have HRB := Lib.hid hrb
 clear hs hK hN hN0 hrem hg hgN hN8 hrb
 go_enter Tryz.func104, Tryz.ntmps104
 go_wp2
 go_loopw [5] (fun i wr => ∃ k : Nat, i = .int .i64 k ∧ k ≤ K ∧ w = wr) (fun i _ => K - (intOf i).toNat)
 case atStart => exact ⟨0, rfl, Nat.zero_le _, rfl⟩
 case round =>
  obtain ⟨k, rfl, hk, rfl⟩ := hrel
  have hk2 := HK.out
  by_cases hlt : k < K
  ·have hks : k < s.size := by omega
   have e0 : ((s[k]'hks).toNat : Int) = 48 := by rw [Z1.out k hks hlt]; rfl
   have a2 : (k : Int) < (s.size : Int) := by omega
   have a1 : (0 : Int) ≤ (k : Int) := by omega
   clear hk2
   go_wp2
   exact ⟨⟨k + 1, by go_num, by omega, trivial⟩, by simp [intOf]; omega⟩
  ·obtain rfl : k = K := by omega
   have hz : k < s.size := by have := HN.out; have := HN0.out; omega
   obtain ⟨B, hB⟩ : ∃ B : Nat, (s[k]'hz).toNat = B := ⟨_, rfl⟩
   have hB48 := Z2.out hz
   rw [hB] at hB48
   have e0 : ((s[k]'hz).toNat : Int) = (B : Int) := by rw [hB]
   have e1 : ((B : Int) == 48) = false := by rw [beq_eq_false_iff_ne]; omega
   have a2 : (k : Int) < (s.size : Int) := by omega
   have a1 : (0 : Int) ≤ (k : Int) := by omega
   have a3 : (k : Int) ≤ (s.size : Int) := by omega
   have a4 : ((s.size - k : Nat) : Int) = (N : Int) := by rw [HN.out]
   clear hk2 hB hB48
   have hext : s.extract k s.size = g := HG.out
   have b4 : (g.size : Int) = (N : Int) := by rw [HGN.out]
   go_wp2
   clear a1 a2 a3 e0 e1 hext hz b4
   go_loopw [6, 7] (fun v i wr => ∃ j : Nat, i = .int .i64 (810 + (j : Int)) ∧ 810 + j ≤ N ∧ v = .bool ((((bl g).drop 810).take j).any (· != 48)) ∧ w = wr) (fun _ i _ => N - (intOf i).toNat)
   case atStart => exact ⟨0, rfl, by have := HN8.out; omega, rfl, rfl⟩
   case round =>
    obtain ⟨j, rfl, hj, rfl, rfl⟩ := hrel
    by_cases hjl : 810 + j < N
    ·have hgs : 810 + j < g.size := by rw [HGN.out]; exact hjl
     obtain ⟨D8, hD8⟩ : ∃ D8 : Nat, (g[810 + j]'hgs).toNat = D8 := ⟨_, rfl⟩
     have hstep : (((bl g).drop 810).take (j + 1)).any (· != 48) = ((((bl g).drop 810).take j).any (· != 48) || (D8 != 48)) := by
      rw [List.take_add_one, List.getElem?_drop, bl_get g (810 + j) hgs, hD8, List.any_append]
      simp
     have b0 : ((810 + (j : Int)) : Int) < (N : Int) := by omega
     have b1 : (0 : Int) ≤ 810 + (j : Int) := by omega
     have b2 : (810 + (j : Int)).toNat = 810 + j := by omega
     have b3 : ((g[810 + j]'hgs).toNat : Int) = (D8 : Int) := by rw [hD8]
     have b4 : (g.size : Int) = (N : Int) := by rw [HGN.out]
     have b5 : 810 + (j : Int) < (g.size : Int) := by omega
     obtain ⟨r, hr⟩ : ∃ r, (((bl g).drop 810).take j).any (· != 48) = r := ⟨_, rfl⟩
     rw [hr] at hstep ⊢
     have HST := Lib.hid hstep
     clear hstep hr hD8
     cases r
     ·cases h48 : (D8 != 48)
      ·have b6 : ((D8 : Int) != 48) = false := by rw [bne_eq_false_iff_eq]; have := bne_eq_false_iff_eq.1 h48; omega
       have HS2 := Lib.hid (show (((bl g).drop 810).take (j + 1)).any (· != 48) = false from by rw [HST.out, h48]; rfl)
       clear h48
       go_wp2
       exact ⟨⟨j + 1, by go_num, by omega, by rw [HS2.out], trivial⟩, by simp [intOf]; omega⟩
      ·have b6 : ((D8 : Int) != 48) = true := by rw [bne_iff_ne]; have := bne_iff_ne.1 h48; omega
       have HS2 := Lib.hid (show (((bl g).drop 810).take (j + 1)).any (· != 48) = true from by rw [HST.out, h48]; rfl)
       clear h48
       go_wp2
       exact ⟨⟨j + 1, by go_num, by omega, by rw [HS2.out], trivial⟩, by simp [intOf]; omega⟩
     ·have HS2 := Lib.hid (show (((bl g).drop 810).take (j + 1)).any (· != 48) = true from by rw [HST.out]; rfl)
      go_wp2
      exact ⟨⟨j + 1, by go_num, by omega, by rw [HS2.out], trivial⟩, by simp [intOf]; omega⟩
    ·have hz2 : (((bl g).drop 810).take j).any (· != 48) = true := by
      rw [List.take_of_length_le (by rw [List.length_drop, bl_size, HGN.out]; omega)]
      exact HRB.out
     rw [hz2]
     have b4 : (g.size : Int) = (N : Int) := by rw [HGN.out]
     have b0 : decide (810 + (j : Int) < (N : Int)) = false := decide_eq_false (by omega)
     have b5 : (810 : Int) ≤ (g.size : Int) := by have := HN8.out; omega
     clear hz2
     go_wp2_with fail
     refine (C3.out _).mono ?_
     rintro e w1 ⟨A1, n1, c1, rfl, g1, b1⟩
     have G1 := Lib.hid g1
     have B1 := Lib.hid b1
     clear g1 b1
     go_wp2_with fail
     refine (C4.out _).mono ?_
     rintro e w2 ⟨A2, n2, c2, rfl, g2, b2⟩
     have G2 := Lib.hid g2
     have G1a := Lib.hid (G1.out.step b2)
     have B2 := Lib.hid (below_le B1.out b2)
     clear g2 b2
     go_wp2_with fail
     refine (C5.out _ _ _ _ G2.out).mono ?_
     rintro e w3 ⟨rfl, b3⟩
     have G2a := Lib.hid (G2.out.step b3)
     have G1b := Lib.hid (G1a.out.step b3)
     have B3 := Lib.hid (below_le B2.out b3)
     clear b3
     go_wp2_with fail
     refine (C6.out _ _ _ _ G1b.out).mono ?_
     rintro e w4 ⟨rfl, b4⟩
     have G2b := Lib.hid (G2a.out.step b4)
     have G1c := Lib.hid (G1b.out.step b4)
     have B4 := Lib.hid (below_le B3.out b4)
     clear b4
     go_wp2_with fail
     refine (C7.out _ _ _ _ G1c.out).mono ?_
     rintro e w5 ⟨A5, n5, c5, rfl, g5, b5⟩
     have G5 := Lib.hid g5
     have G25 := Lib.hid (G2b.out.step b5)
     have B5 := Lib.hid (below_le B4.out b5)
     clear g5 b5
     go_wp2_with fail
     refine (C8.out _ _ _ _ _ _ _ G5.out G25.out).mono ?_
     rintro e w6 ⟨A6, n6, c6, A7, n7, c7, rfl, g6, g7, b6⟩
     have G6 := Lib.hid g6
     have B6 := Lib.hid (below_le B5.out b6)
     obtain rfl : n7 = 0 := by
      have h1 := g7.len
      rw [HREM.out] at h1
      exact h1.symm
     clear g6 g7 b6
     go_wp2_with fail
     refine (C9.out _ _ _ _ G6.out).mono ?_
     rintro e w7 ⟨A8, n8, c8, rfl, g8, b7⟩
     have G8 := Lib.hid g8
     have B7 := Lib.hid (below_le B6.out b7)
     clear g8 b7
     go_wp2_with fail
     refine (C11.out _ _ _ _ G8.out).mono ?_
     rintro e w9 ⟨rfl, b9⟩
     have B9 := Lib.hid (below_le B7.out b9)
     clear b9
     go_wp2
     go_ret
     exact ⟨rfl, B9.out⟩
set_option maxRecDepth 100000 in
set_option maxHeartbeats 2000000 in
theorem ydec_longr_neg11 (s : ByteArray) (K N : Nat) (X P : Int) (m F : Nat) (D M Q Q2 bd ba : Nat) (x1 up x2 Y : Int) (g : ByteArray) (y1 y2 : Int) (E : Int) (w : World) (hs : s.size ≤ 281474976710656) (hK : K ≤ s.size) (hN : s.size - K = N)
  (Z1 : Hid (∀ k (h : k < s.size), k < K → (s[k]'h).toNat = 48)) (Z2 : Hid (∀ h : K < s.size, (s[K]'h).toNat ≠ 48))
  (hN0 : 0 < N) (p1 : wrap64 ((N : Int) + X) = P) (t0 : ((N : Int) == 0) = false) (t1 : decide (400 < P) = false) (t2 : decide (P < -400) = false) (t3 : decide (820 < (N : Int)) = true)
  (hg : s.extract K s.size = g) (hgN : g.size = N) (hN8 : 820 < N) (hrb : ((bl g).drop 810).any (· != 48) = true)
  (q0 : wrap64 (X + (N : Int)) = y1) (q1 : wrap64 (y1 - 810) = y2) (q2 : wrap64 (y2 - 1) = E) (_q3 : ¬ 9223372036854775807 < (g.extract 0 810).size + 1) 
  (C3 : Hid (∀ W, Cp 165 #[.string (g.extract 0 810 ++ ⟨#[49]⟩), .int .i64 10] W (NOk m W)))
  (C4 : Hid (∀ W, Cp 115 #[.int .i64 (-E)] W (NRet D W)))
  (C5 : Hid (∀ W A1 n1 c1, NV W A1 n1 c1 D → Ct 163 #[.slice A1 n1 c1] (.int .i64 (bd : Nat)) W))
  (C6 : Hid (∀ W A1 n1 c1, NV W A1 n1 c1 m → Ct 163 #[.slice A1 n1 c1] (.int .i64 (ba : Nat)) W))
  (C7 : Hid (∀ W A1 n1 c1, NV W A1 n1 c1 m → Cp 102 #[.slice A1 n1 c1, .int .i64 up] W (NRet M W)))
  (C8 : Hid (∀ W A1 n1 c1 A2 n2 c2, NV W A1 n1 c1 M → NV W A2 n2 c2 D → Cp 49 #[.slice A1 n1 c1, .slice A2 n2 c2] W (HRet M D W)))
  (C9 : Hid (∀ W A1 n1 c1, NV W A1 n1 c1 (M / D) → Cp 102 #[.slice A1 n1 c1, .int .i64 1] W (NRet Q W)))
  (C10 : Hid (∀ W A1 n1 c1 A2 n2 c2, NV W A1 n1 c1 Q → NV W A2 n2 c2 1 → Cp 103 #[.slice A1 n1 c1, .slice A2 n2 c2] W (NRet Q2 W)))
  (C11 : Hid (∀ W A1 n1 c1, NV W A1 n1 c1 Q2 → Ct 154 #[.slice A1 n1 c1, .int .i64 Y] (.float .f64 F) W))
  (hrem : M % D ≠ 0)
  (u0 : decide (0 ≤ E) = false) (u1 : wrap64 (-E) = -E) (u2 : wrap64 ((bd : Int) - (ba : Int)) = x1) (u3 : wrap64 (x1 + 70) = up) (u4 : decide (up < 0) = false) (u5 : wrap64 (-up) = x2) (u6 : wrap64 (x2 - 1) = Y) :
  Ct 104 #[.string s, .int .i64 X] (.float .f64 F) w := by
 have h1 : (s.size : Int) ≤ 281474976710656 := by omega
 have HN := Lib.hid hN
 have HK := Lib.hid hK
 have HN0 := Lib.hid hN0
 have HREM := Lib.hid hrem
 have HG := Lib.hid hg
 have HGN := Lib.hid hgN
 have HN8 := Lib.hid hN8
 have HRB := Lib.hid hrb
 clear hs hK hN hN0 hrem hg hgN hN8 hrb
 go_enter Tryz.func104, Tryz.ntmps104
 go_wp2
 go_loopw [5] (fun i wr => ∃ k : Nat, i = .int .i64 k ∧ k ≤ K ∧ w = wr) (fun i _ => K - (intOf i).toNat)
 case atStart => exact ⟨0, rfl, Nat.zero_le _, rfl⟩
 case round =>
  obtain ⟨k, rfl, hk, rfl⟩ := hrel
  have hk2 := HK.out
  by_cases hlt : k < K
  ·have hks : k < s.size := by omega
   have e0 : ((s[k]'hks).toNat : Int) = 48 := by rw [Z1.out k hks hlt]; rfl
   have a2 : (k : Int) < (s.size : Int) := by omega
   have a1 : (0 : Int) ≤ (k : Int) := by omega
   clear hk2
   go_wp2
   exact ⟨⟨k + 1, by go_num, by omega, trivial⟩, by simp [intOf]; omega⟩
  ·obtain rfl : k = K := by omega
   have hz : k < s.size := by have := HN.out; have := HN0.out; omega
   obtain ⟨B, hB⟩ : ∃ B : Nat, (s[k]'hz).toNat = B := ⟨_, rfl⟩
   have hB48 := Z2.out hz
   rw [hB] at hB48
   have e0 : ((s[k]'hz).toNat : Int) = (B : Int) := by rw [hB]
   have e1 : ((B : Int) == 48) = false := by rw [beq_eq_false_iff_ne]; omega
   have a2 : (k : Int) < (s.size : Int) := by omega
   have a1 : (0 : Int) ≤ (k : Int) := by omega
   have a3 : (k : Int) ≤ (s.size : Int) := by omega
   have a4 : ((s.size - k : Nat) : Int) = (N : Int) := by rw [HN.out]
   clear hk2 hB hB48
   have hext : s.extract k s.size = g := HG.out
   have b4 : (g.size : Int) = (N : Int) := by rw [HGN.out]
   go_wp2
   clear a1 a2 a3 e0 e1 hext hz b4
   go_loopw [6, 7] (fun v i wr => ∃ j : Nat, i = .int .i64 (810 + (j : Int)) ∧ 810 + j ≤ N ∧ v = .bool ((((bl g).drop 810).take j).any (· != 48)) ∧ w = wr) (fun _ i _ => N - (intOf i).toNat)
   case atStart => exact ⟨0, rfl, by have := HN8.out; omega, rfl, rfl⟩
   case round =>
    obtain ⟨j, rfl, hj, rfl, rfl⟩ := hrel
    by_cases hjl : 810 + j < N
    ·have hgs : 810 + j < g.size := by rw [HGN.out]; exact hjl
     obtain ⟨D8, hD8⟩ : ∃ D8 : Nat, (g[810 + j]'hgs).toNat = D8 := ⟨_, rfl⟩
     have hstep : (((bl g).drop 810).take (j + 1)).any (· != 48) = ((((bl g).drop 810).take j).any (· != 48) || (D8 != 48)) := by
      rw [List.take_add_one, List.getElem?_drop, bl_get g (810 + j) hgs, hD8, List.any_append]
      simp
     have b0 : ((810 + (j : Int)) : Int) < (N : Int) := by omega
     have b1 : (0 : Int) ≤ 810 + (j : Int) := by omega
     have b2 : (810 + (j : Int)).toNat = 810 + j := by omega
     have b3 : ((g[810 + j]'hgs).toNat : Int) = (D8 : Int) := by rw [hD8]
     have b4 : (g.size : Int) = (N : Int) := by rw [HGN.out]
     have b5 : 810 + (j : Int) < (g.size : Int) := by omega
     obtain ⟨r, hr⟩ : ∃ r, (((bl g).drop 810).take j).any (· != 48) = r := ⟨_, rfl⟩
     rw [hr] at hstep ⊢
     have HST := Lib.hid hstep
     clear hstep hr hD8
     cases r
     ·cases h48 : (D8 != 48)
      ·have b6 : ((D8 : Int) != 48) = false := by rw [bne_eq_false_iff_eq]; have := bne_eq_false_iff_eq.1 h48; omega
       have HS2 := Lib.hid (show (((bl g).drop 810).take (j + 1)).any (· != 48) = false from by rw [HST.out, h48]; rfl)
       clear h48
       go_wp2
       exact ⟨⟨j + 1, by go_num, by omega, by rw [HS2.out], trivial⟩, by simp [intOf]; omega⟩
      ·have b6 : ((D8 : Int) != 48) = true := by rw [bne_iff_ne]; have := bne_iff_ne.1 h48; omega
       have HS2 := Lib.hid (show (((bl g).drop 810).take (j + 1)).any (· != 48) = true from by rw [HST.out, h48]; rfl)
       clear h48
       go_wp2
       exact ⟨⟨j + 1, by go_num, by omega, by rw [HS2.out], trivial⟩, by simp [intOf]; omega⟩
     ·have HS2 := Lib.hid (show (((bl g).drop 810).take (j + 1)).any (· != 48) = true from by rw [HST.out]; rfl)
      go_wp2
      exact ⟨⟨j + 1, by go_num, by omega, by rw [HS2.out], trivial⟩, by simp [intOf]; omega⟩
    ·have hz2 : (((bl g).drop 810).take j).any (· != 48) = true := by
      rw [List.take_of_length_le (by rw [List.length_drop, bl_size, HGN.out]; omega)]
      exact HRB.out
     rw [hz2]
     have b4 : (g.size : Int) = (N : Int) := by rw [HGN.out]
     have b0 : decide (810 + (j : Int) < (N : Int)) = false := decide_eq_false (by omega)
     have b5 : (810 : Int) ≤ (g.size : Int) := by have := HN8.out; omega
     clear hz2
     go_wp2_with fail
     refine (C3.out _).mono ?_
     rintro e w1 ⟨A1, n1, c1, rfl, g1, b1⟩
     have G1 := Lib.hid g1
     have B1 := Lib.hid b1
     clear g1 b1
     go_wp2_with fail
     refine (C4.out _).mono ?_
     rintro e w2 ⟨A2, n2, c2, rfl, g2, b2⟩
     have G2 := Lib.hid g2
     have G1a := Lib.hid (G1.out.step b2)
     have B2 := Lib.hid (below_le B1.out b2)
     clear g2 b2
     go_wp2_with fail
     refine (C5.out _ _ _ _ G2.out).mono ?_
     rintro e w3 ⟨rfl, b3⟩
     have G2a := Lib.hid (G2.out.step b3)
     have G1b := Lib.hid (G1a.out.step b3)
     have B3 := Lib.hid (below_le B2.out b3)
     clear b3
     go_wp2_with fail
     refine (C6.out _ _ _ _ G1b.out).mono ?_
     rintro e w4 ⟨rfl, b4⟩
     have G2b := Lib.hid (G2a.out.step b4)
     have G1c := Lib.hid (G1b.out.step b4)
     have B4 := Lib.hid (below_le B3.out b4)
     clear b4
     go_wp2_with fail
     refine (C7.out _ _ _ _ G1c.out).mono ?_
     rintro e w5 ⟨A5, n5, c5, rfl, g5, b5⟩
     have G5 := Lib.hid g5
     have G25 := Lib.hid (G2b.out.step b5)
     have B5 := Lib.hid (below_le B4.out b5)
     clear g5 b5
     go_wp2_with fail
     refine (C8.out _ _ _ _ _ _ _ G5.out G25.out).mono ?_
     rintro e w6 ⟨A6, n6, c6, A7, n7, c7, rfl, g6, g7, b6⟩
     have G6 := Lib.hid g6
     have B6 := Lib.hid (below_le B5.out b6)
     have hn7 : (0 : Int) < (n7 : Int) := by
      have h1 := g7.len
      have h2 : (wds (M % D)) ≠ [] := fun e => HREM.out (by have h3 := wds_val (M % D); rw [e] at h3; exact h3.symm)
      have := List.length_pos_iff.2 h2
      omega
     clear g6 g7 b6
     go_wp2_with fail
     refine (C9.out _ _ _ _ G6.out).mono ?_
     rintro e w7 ⟨A8, n8, c8, rfl, g8, b7⟩
     have G8 := Lib.hid g8
     have B7 := Lib.hid (below_le B6.out b7)
     clear g8 b7
     have bl := Lib.hid (show Below w7.heap.size w7 (w7.alloc (.cells #[.int .u32 1] 42)) from (Below.refl _ _).alloc (Nat.le_refl _) _)
     have C10' := Lib.hid (C10.out _ _ _ _ _ _ _ (G8.out.step bl.out) (NV.lit w7 1 (by omega) (by omega)))
     go_wp2_with fail
     refine C10'.out.mono ?_
     rintro e w8 ⟨A9, n9, c9, rfl, g9, b8⟩
     have G9 := Lib.hid g9
     have B8 := Lib.hid (below_le (below_le B7.out bl.out) b8)
     clear g9 b8
     go_wp2_with fail
     refine (C11.out _ _ _ _ G9.out).mono ?_
     rintro e w9 ⟨rfl, b9⟩
     have B9 := Lib.hid (below_le B8.out b9)
     clear b9
     go_wp2
     go_ret
     exact ⟨rfl, B9.out⟩

end Go.Proofs.YtfcpkdafkmohkaaGreatDoor
namespace Go.Proofs.YtfcpkdafkmohkaaGreatDoor
open Go.RowKit
theorem yneg_pack (m k : Nat) (h0 : 0 < m) (hb : bln m ≤ 3300) (hk : k ≤ 1300) : ∃ (D M bd ba : Nat) (U : Int), U = max 0 ((bd : Int) - ba + 70) ∧ bd ≤ 6000 ∧ ba ≤ 6000 ∧
  Hid (∀ W, Cp 115 #[.int .i64 (k : Nat)] W (NRet D W)) ∧
  Hid (∀ W A1 n1 c1, NV W A1 n1 c1 D → Ct 163 #[.slice A1 n1 c1] (.int .i64 (bd : Nat)) W) ∧
  Hid (∀ W A1 n1 c1, NV W A1 n1 c1 m → Ct 163 #[.slice A1 n1 c1] (.int .i64 (ba : Nat)) W) ∧
  Hid (∀ W A1 n1 c1, NV W A1 n1 c1 m → Cp 102 #[.slice A1 n1 c1, .int .i64 U] W (NRet M W)) ∧
  Hid (∀ W A1 n1 c1 A2 n2 c2, NV W A1 n1 c1 M → NV W A2 n2 c2 D → Cp 49 #[.slice A1 n1 c1, .slice A2 n2 c2] W (HRet M D W)) ∧
  Hid (∀ W A1 n1 c1, NV W A1 n1 c1 (M / D) → Cp 102 #[.slice A1 n1 c1, .int .i64 1] W (NRet (M / D * 2) W)) ∧
  Hid (∀ W A1 n1 c1 A2 n2 c2, NV W A1 n1 c1 (M / D * 2) → NV W A2 n2 c2 1 → Cp 103 #[.slice A1 n1 c1, .slice A2 n2 c2] W (NRet (M / D * 2 + 1) W)) ∧
  (M % D = 0 → Hid (∀ W A1 n1 c1, NV W A1 n1 c1 (M / D * 2) → Ct 154 #[.slice A1 n1 c1, .int .i64 (-U - 1)] (.float .f64 (decR m (-(k : Int)))) W)) ∧
  (M % D ≠ 0 → Hid (∀ W A1 n1 c1, NV W A1 n1 c1 (M / D * 2 + 1) → Ct 154 #[.slice A1 n1 c1, .int .i64 (-U - 1)] (.float .f64 (decR m (-(k : Int)))) W)) := by
 obtain ⟨u1, u2, u3⟩ := bln_bounds h0
 obtain ⟨v1, v2, v3⟩ := bln_bounds (ten_pos k)
 have ft := bln_ten k
 obtain ⟨D, hD⟩ : ∃ D, 10 ^ k = D := ⟨_, rfl⟩
 rw [hD] at v1 v2 v3 ft
 obtain ⟨bd, hbd⟩ : ∃ bd, bln D = bd := ⟨_, rfl⟩
 obtain ⟨ba, hba⟩ : ∃ ba, bln m = ba := ⟨_, rfl⟩
 have hD0 : 0 < D := by rw [← hD]; exact ten_pos k
 obtain ⟨up, hup⟩ : ∃ up : Nat, (up : Int) = max 0 ((bd : Int) - ba + 70) := ⟨(max 0 ((bd : Int) - ba + 70)).toNat, by omega⟩
 have g1 := bln_mul m (2 ^ up)
 have g2 := bln_pow2 up
 obtain ⟨M, hM⟩ : ∃ M, m * 2 ^ up = M := ⟨_, rfl⟩
 have hM0 : 0 < M := by rw [← hM]; exact Nat.mul_pos h0 (two_pos _)
 rw [hM] at g1
 rw [hba] at hb u1 u2 u3 g1
 rw [hbd] at v1 v2 v3 ft
 have hup2 : up ≤ 5400 := by omega
 obtain ⟨p, rfl⟩ : ∃ p, ba = p + 1 := ⟨ba - 1, by omega⟩
 obtain ⟨r, rfl⟩ : ∃ r, bd = r + 1 := ⟨bd - 1, by omega⟩
 rw [Nat.add_sub_cancel] at u1 v1
 have hbig := (quot_bits (x := up) (y := 0) u1 u2 v1 v2 60).2 (by omega)
 rw [Nat.pow_zero, Nat.mul_one, hM] at hbig
 have hqM : M / D ≤ M := Nat.div_le_self _ _
 have l1 := bln_mono hqM
 have l2 := bln_mono (show M / D * 2 ≤ M * 4 by omega)
 have l3 := bln_mono (show M / D * 2 + 1 ≤ M * 4 by omega)
 have l4 := bln_mul M 4
 rw [show bln 4 = 3 by decide] at l4
 obtain ⟨q, hq⟩ : ∃ q, M / D = q := ⟨_, rfl⟩
 obtain ⟨t, ht⟩ : ∃ t, M % D = t := ⟨_, rfl⟩
 have hNd : M = q * D + t := by rw [← hq, ← ht, Nat.mul_comm]; exact (Nat.div_add_mod M D).symm
 have htd : t < D := by rw [← ht]; exact Nat.mod_lt _ hD0
 obtain ⟨a, ha⟩ : ∃ a, 1074 - up = a := ⟨_, rfl⟩
 obtain ⟨b, hb2⟩ : ∃ b, up - 1074 = b := ⟨_, rfl⟩
 have key := fun s hs => decR_refq (m := m) (N := M) (q := q) (t := t) (s := s) (k := k) (up := up) (a := a) (b := b) hM.symm (by rw [hD]; exact hNd) (by rw [hD]; exact htd) hs (by rw [← hq]; exact hbig) ha.symm hb2.symm
 rw [hq] at l1 l2 l3
 refine ⟨D, M, r + 1, p + 1, (up : Int), hup, by omega, by omega, Lib.hid (fun W => ?_), Lib.hid (fun W A1 n1 c1 h => ?_), Lib.hid (fun W A1 n1 c1 h => ?_), Lib.hid (fun W A1 n1 c1 h => ?_), Lib.hid (fun W A1 n1 c1 A2 n2 c2 h g => rnhalved h g (by omega) (by omega) hD0), Lib.hid (fun W A1 n1 c1 h => ?_), Lib.hid (fun W A1 n1 c1 A2 n2 c2 h g => rnplus h g (by rw [hq]; omega) (by decide)), ?_, ?_⟩
 ·rw [← hD]; exact ypow_any k W (by omega)
 ·rw [← hbd]; exact rnbits h (by omega)
 ·rw [← hba]; exact rnbits h (by omega)
 ·rw [← hM]; exact rnup h up (by omega) (by omega)
 ·exact rnup h 1 (by rw [hq]; omega) (by omega)
 ·rw [hq, ht]
  intro h1
  have k1 := key 0 (by rw [if_pos h1])
  rw [Nat.add_zero, Nat.mul_comm 2 q] at k1
  exact Lib.hid (fun W A1 n1 c1 h => by rw [← k1]; exact rnnear h (by omega) a (b + 1) (-(up : Int) - 1) (by omega) (by omega) (by omega))
 ·rw [hq, ht]
  intro h1
  have k1 := key 1 (by rw [if_neg h1])
  rw [Nat.mul_comm 2 q] at k1
  exact Lib.hid (fun W A1 n1 c1 h => by rw [← k1]; exact rnnear h (by omega) a (b + 1) (-(up : Int) - 1) (by omega) (by omega) (by omega))
theorem ypos_pack (m k : Nat) (hb : bln m ≤ 3300) (hk : k ≤ 1300) : ∃ (D M : Nat),
  Hid (∀ W, Cp 115 #[.int .i64 (k : Nat)] W (NRet D W)) ∧
  Hid (∀ W A1 n1 c1 A2 n2 c2, NV W A1 n1 c1 m → NV W A2 n2 c2 D → Cp 51 #[.slice A1 n1 c1, .slice A2 n2 c2] W (NRet M W)) ∧
  Hid (∀ W A1 n1 c1, NV W A1 n1 c1 M → Ct 154 #[.slice A1 n1 c1, .int .i64 0] (.float .f64 (decR m (k : Int))) W) := by
 have ft := bln_ten k
 have g1 := bln_mul m (10 ^ k)
 refine ⟨10 ^ k, m * 10 ^ k, Lib.hid (fun W => ypow_any k W (by omega)), Lib.hid (fun W A1 n1 c1 A2 n2 c2 h g => rntimes h g (by omega) (by omega)), Lib.hid (fun W A1 n1 c1 h => ?_)⟩
 obtain ⟨K, hK, hd⟩ := decR_K
 have := rnnear h (by omega) K 0 0 (by omega) (by omega) (by omega)
 rw [hd, show ((k : Int)).toNat = k by omega, show (-(k : Int)).toNat = 0 by omega]
 exact this
theorem ydec_short (s : ByteArray) (K N : Nat) (X P : Int) (m : Nat) (w : World) (hs : s.size ≤ 281474976710656) (hK : K ≤ s.size) (hN : s.size - K = N)
  (Z1 : Hid (∀ k (h : k < s.size), k < K → (s[k]'h).toNat = 48)) (Z2 : Hid (∀ h : K < s.size, (s[K]'h).toNat ≠ 48))
  (hN0 : 0 < N) (p1 : wrap64 ((N : Int) + X) = P) (t0 : ((N : Int) == 0) = false) (t1 : decide (400 < P) = false) (t2 : decide (P < -400) = false) (t3 : decide (820 < (N : Int)) = false)
  (C3 : Hid (∀ W, Cp 165 #[.string (s.extract K s.size), .int .i64 10] W (NOk m W))) (h0 : 0 < m) (hb : bln m ≤ 3300) (hE1 : -1300 ≤ X) (hE2 : X ≤ 1300) :
  Ct 104 #[.string s, .int .i64 X] (.float .f64 (decR m X)) w := by
 by_cases hp : 0 ≤ X
 ·obtain ⟨k, rfl⟩ : ∃ k : Nat, X = k := ⟨X.toNat, by omega⟩
  obtain ⟨D, M, C4, C5, C6⟩ := ypos_pack m k hb (by omega)
  exact ydec_short_pos (w := w) (hs := hs) (hK := hK) (hN := hN) (Z1 := Z1) (Z2 := Z2) (C3 := C3) (C4 := C4) (C5 := C5) (C6 := C6) (u0 := decide_eq_true hp) (hN0 := hN0) (p1 := p1) (t0 := t0) (t1 := t1) (t2 := t2) (t3 := t3)
 ·obtain ⟨k, rfl⟩ : ∃ k : Nat, X = -(k : Int) := ⟨(-X).toNat, by omega⟩
  obtain ⟨D, M, bd, ba, U, hU, e1, e2, C4, C5, C6, C7, C8, C9, C10, C11, C12⟩ := yneg_pack m k h0 hb (by omega)
  rw [show (k : Int) = -(-(k : Int)) by omega] at C4
  have u0 : decide (0 ≤ -(k : Int)) = false := decide_eq_false hp
  have u1 : wrap64 (- -(k : Int)) = - -(k : Int) := by unfold wrap64; omega
  have u2 : wrap64 ((bd : Int) - (ba : Int)) = (bd : Int) - ba := by unfold wrap64; omega
  have u3 : wrap64 ((bd : Int) - ba + 70) = (bd : Int) - ba + 70 := by unfold wrap64; omega
  by_cases hU0 : (bd : Int) - ba + 70 < 0
  ·obtain rfl : U = 0 := by omega
   have u4 : decide ((bd : Int) - ba + 70 < 0) = true := decide_eq_true hU0
   by_cases hr : M % D = 0
   ·exact ydec_short_neg00 (w := w) (hs := hs) (hK := hK) (hN := hN) (Z1 := Z1) (Z2 := Z2) (C3 := C3) (C4 := C4) (C5 := C5) (C6 := C6) (C7 := C7) (C8 := C8) (C9 := C9) (C11 := C11 hr) (hrem := hr) (u0 := u0) (u1 := u1) (u2 := u2) (u3 := u3) (u4 := u4) (u6 := by omega) (hN0 := hN0) (p1 := p1) (t0 := t0) (t1 := t1) (t2 := t2) (t3 := t3)
   ·exact ydec_short_neg01 (w := w) (hs := hs) (hK := hK) (hN := hN) (Z1 := Z1) (Z2 := Z2) (C3 := C3) (C4 := C4) (C5 := C5) (C6 := C6) (C7 := C7) (C8 := C8) (C9 := C9) (C10 := C10) (C11 := C12 hr) (hrem := hr) (u0 := u0) (u1 := u1) (u2 := u2) (u3 := u3) (u4 := u4) (u6 := by omega) (hN0 := hN0) (p1 := p1) (t0 := t0) (t1 := t1) (t2 := t2) (t3 := t3)
  ·obtain rfl : U = (bd : Int) - ba + 70 := by omega
   have u4 : decide ((bd : Int) - ba + 70 < 0) = false := decide_eq_false hU0
   have u5 : wrap64 (-((bd : Int) - ba + 70)) = -((bd : Int) - ba + 70) := by unfold wrap64; omega
   have u6 : wrap64 (-((bd : Int) - ba + 70) - 1) = -((bd : Int) - ba + 70) - 1 := by unfold wrap64; omega
   by_cases hr : M % D = 0
   ·exact ydec_short_neg10 (w := w) (hs := hs) (hK := hK) (hN := hN) (Z1 := Z1) (Z2 := Z2) (C3 := C3) (C4 := C4) (C5 := C5) (C6 := C6) (C7 := C7) (C8 := C8) (C9 := C9) (C11 := C11 hr) (hrem := hr) (u0 := u0) (u1 := u1) (u2 := u2) (u3 := u3) (u4 := u4) (u5 := u5) (u6 := u6) (hN0 := hN0) (p1 := p1) (t0 := t0) (t1 := t1) (t2 := t2) (t3 := t3)
   ·exact ydec_short_neg11 (w := w) (hs := hs) (hK := hK) (hN := hN) (Z1 := Z1) (Z2 := Z2) (C3 := C3) (C4 := C4) (C5 := C5) (C6 := C6) (C7 := C7) (C8 := C8) (C9 := C9) (C10 := C10) (C11 := C12 hr) (hrem := hr) (u0 := u0) (u1 := u1) (u2 := u2) (u3 := u3) (u4 := u4) (u5 := u5) (u6 := u6) (hN0 := hN0) (p1 := p1) (t0 := t0) (t1 := t1) (t2 := t2) (t3 := t3)
theorem ydec_longn (s : ByteArray) (K N : Nat) (X P : Int) (m : Nat) (g : ByteArray) (y1 : Int) (E : Int) (w : World) (hs : s.size ≤ 281474976710656) (hK : K ≤ s.size) (hN : s.size - K = N)
  (Z1 : Hid (∀ k (h : k < s.size), k < K → (s[k]'h).toNat = 48)) (Z2 : Hid (∀ h : K < s.size, (s[K]'h).toNat ≠ 48))
  (hN0 : 0 < N) (p1 : wrap64 ((N : Int) + X) = P) (t0 : ((N : Int) == 0) = false) (t1 : decide (400 < P) = false) (t2 : decide (P < -400) = false) (t3 : decide (820 < (N : Int)) = true)
  (hg : s.extract K s.size = g) (hgN : g.size = N) (hN8 : 820 < N) (hrb : ((bl g).drop 810).any (· != 48) = false)
  (q0 : wrap64 (X + (N : Int)) = y1) (q1 : wrap64 (y1 - 810) = E)
  (C3 : Hid (∀ W, Cp 165 #[.string (g.extract 0 810), .int .i64 10] W (NOk m W))) (h0 : 0 < m) (hb : bln m ≤ 3300) (hE1 : -1300 ≤ E) (hE2 : E ≤ 1300) :
  Ct 104 #[.string s, .int .i64 X] (.float .f64 (decR m E)) w := by
 by_cases hp : 0 ≤ E
 ·obtain ⟨k, rfl⟩ : ∃ k : Nat, E = k := ⟨E.toNat, by omega⟩
  obtain ⟨D, M, C4, C5, C6⟩ := ypos_pack m k hb (by omega)
  exact ydec_longn_pos (w := w) (hs := hs) (hK := hK) (hN := hN) (Z1 := Z1) (Z2 := Z2) (C3 := C3) (C4 := C4) (C5 := C5) (C6 := C6) (u0 := decide_eq_true hp) (hN0 := hN0) (p1 := p1) (t0 := t0) (t1 := t1) (t2 := t2) (t3 := t3) (hg := hg) (hgN := hgN) (hN8 := hN8) (hrb := hrb) (q0 := q0) (q1 := q1)
 ·obtain ⟨k, rfl⟩ : ∃ k : Nat, E = -(k : Int) := ⟨(-E).toNat, by omega⟩
  obtain ⟨D, M, bd, ba, U, hU, e1, e2, C4, C5, C6, C7, C8, C9, C10, C11, C12⟩ := yneg_pack m k h0 hb (by omega)
  rw [show (k : Int) = -(-(k : Int)) by omega] at C4
  have u0 : decide (0 ≤ -(k : Int)) = false := decide_eq_false hp
  have u1 : wrap64 (- -(k : Int)) = - -(k : Int) := by unfold wrap64; omega
  have u2 : wrap64 ((bd : Int) - (ba : Int)) = (bd : Int) - ba := by unfold wrap64; omega
  have u3 : wrap64 ((bd : Int) - ba + 70) = (bd : Int) - ba + 70 := by unfold wrap64; omega
  by_cases hU0 : (bd : Int) - ba + 70 < 0
  ·obtain rfl : U = 0 := by omega
   have u4 : decide ((bd : Int) - ba + 70 < 0) = true := decide_eq_true hU0
   by_cases hr : M % D = 0
   ·exact ydec_longn_neg00 (w := w) (hs := hs) (hK := hK) (hN := hN) (Z1 := Z1) (Z2 := Z2) (C3 := C3) (C4 := C4) (C5 := C5) (C6 := C6) (C7 := C7) (C8 := C8) (C9 := C9) (C11 := C11 hr) (hrem := hr) (u0 := u0) (u1 := u1) (u2 := u2) (u3 := u3) (u4 := u4) (u6 := by omega) (hN0 := hN0) (p1 := p1) (t0 := t0) (t1 := t1) (t2 := t2) (t3 := t3) (hg := hg) (hgN := hgN) (hN8 := hN8) (hrb := hrb) (q0 := q0) (q1 := q1)
   ·exact ydec_longn_neg01 (w := w) (hs := hs) (hK := hK) (hN := hN) (Z1 := Z1) (Z2 := Z2) (C3 := C3) (C4 := C4) (C5 := C5) (C6 := C6) (C7 := C7) (C8 := C8) (C9 := C9) (C10 := C10) (C11 := C12 hr) (hrem := hr) (u0 := u0) (u1 := u1) (u2 := u2) (u3 := u3) (u4 := u4) (u6 := by omega) (hN0 := hN0) (p1 := p1) (t0 := t0) (t1 := t1) (t2 := t2) (t3 := t3) (hg := hg) (hgN := hgN) (hN8 := hN8) (hrb := hrb) (q0 := q0) (q1 := q1)
  ·obtain rfl : U = (bd : Int) - ba + 70 := by omega
   have u4 : decide ((bd : Int) - ba + 70 < 0) = false := decide_eq_false hU0
   have u5 : wrap64 (-((bd : Int) - ba + 70)) = -((bd : Int) - ba + 70) := by unfold wrap64; omega
   have u6 : wrap64 (-((bd : Int) - ba + 70) - 1) = -((bd : Int) - ba + 70) - 1 := by unfold wrap64; omega
   by_cases hr : M % D = 0
   ·exact ydec_longn_neg10 (w := w) (hs := hs) (hK := hK) (hN := hN) (Z1 := Z1) (Z2 := Z2) (C3 := C3) (C4 := C4) (C5 := C5) (C6 := C6) (C7 := C7) (C8 := C8) (C9 := C9) (C11 := C11 hr) (hrem := hr) (u0 := u0) (u1 := u1) (u2 := u2) (u3 := u3) (u4 := u4) (u5 := u5) (u6 := u6) (hN0 := hN0) (p1 := p1) (t0 := t0) (t1 := t1) (t2 := t2) (t3 := t3) (hg := hg) (hgN := hgN) (hN8 := hN8) (hrb := hrb) (q0 := q0) (q1 := q1)
   ·exact ydec_longn_neg11 (w := w) (hs := hs) (hK := hK) (hN := hN) (Z1 := Z1) (Z2 := Z2) (C3 := C3) (C4 := C4) (C5 := C5) (C6 := C6) (C7 := C7) (C8 := C8) (C9 := C9) (C10 := C10) (C11 := C12 hr) (hrem := hr) (u0 := u0) (u1 := u1) (u2 := u2) (u3 := u3) (u4 := u4) (u5 := u5) (u6 := u6) (hN0 := hN0) (p1 := p1) (t0 := t0) (t1 := t1) (t2 := t2) (t3 := t3) (hg := hg) (hgN := hgN) (hN8 := hN8) (hrb := hrb) (q0 := q0) (q1 := q1)
theorem ydec_longr (s : ByteArray) (K N : Nat) (X P : Int) (m : Nat) (g : ByteArray) (y1 y2 : Int) (E : Int) (w : World) (hs : s.size ≤ 281474976710656) (hK : K ≤ s.size) (hN : s.size - K = N)
  (Z1 : Hid (∀ k (h : k < s.size), k < K → (s[k]'h).toNat = 48)) (Z2 : Hid (∀ h : K < s.size, (s[K]'h).toNat ≠ 48))
  (hN0 : 0 < N) (p1 : wrap64 ((N : Int) + X) = P) (t0 : ((N : Int) == 0) = false) (t1 : decide (400 < P) = false) (t2 : decide (P < -400) = false) (t3 : decide (820 < (N : Int)) = true)
  (hg : s.extract K s.size = g) (hgN : g.size = N) (hN8 : 820 < N) (hrb : ((bl g).drop 810).any (· != 48) = true)
  (q0 : wrap64 (X + (N : Int)) = y1) (q1 : wrap64 (y1 - 810) = y2) (q2 : wrap64 (y2 - 1) = E) (q3 : ¬ 9223372036854775807 < (g.extract 0 810).size + 1)
  (C3 : Hid (∀ W, Cp 165 #[.string (g.extract 0 810 ++ ⟨#[49]⟩), .int .i64 10] W (NOk m W))) (h0 : 0 < m) (hb : bln m ≤ 3300) (hE1 : -1300 ≤ E) (hE2 : E ≤ 1300) :
  Ct 104 #[.string s, .int .i64 X] (.float .f64 (decR m E)) w := by
 by_cases hp : 0 ≤ E
 ·obtain ⟨k, rfl⟩ : ∃ k : Nat, E = k := ⟨E.toNat, by omega⟩
  obtain ⟨D, M, C4, C5, C6⟩ := ypos_pack m k hb (by omega)
  exact ydec_longr_pos (w := w) (hs := hs) (hK := hK) (hN := hN) (Z1 := Z1) (Z2 := Z2) (C3 := C3) (C4 := C4) (C5 := C5) (C6 := C6) (u0 := decide_eq_true hp) (hN0 := hN0) (p1 := p1) (t0 := t0) (t1 := t1) (t2 := t2) (t3 := t3) (hg := hg) (hgN := hgN) (hN8 := hN8) (hrb := hrb) (q0 := q0) (q1 := q1) (q2 := q2) (_q3 := q3)
 ·obtain ⟨k, rfl⟩ : ∃ k : Nat, E = -(k : Int) := ⟨(-E).toNat, by omega⟩
  obtain ⟨D, M, bd, ba, U, hU, e1, e2, C4, C5, C6, C7, C8, C9, C10, C11, C12⟩ := yneg_pack m k h0 hb (by omega)
  rw [show (k : Int) = -(-(k : Int)) by omega] at C4
  have u0 : decide (0 ≤ -(k : Int)) = false := decide_eq_false hp
  have u1 : wrap64 (- -(k : Int)) = - -(k : Int) := by unfold wrap64; omega
  have u2 : wrap64 ((bd : Int) - (ba : Int)) = (bd : Int) - ba := by unfold wrap64; omega
  have u3 : wrap64 ((bd : Int) - ba + 70) = (bd : Int) - ba + 70 := by unfold wrap64; omega
  by_cases hU0 : (bd : Int) - ba + 70 < 0
  ·obtain rfl : U = 0 := by omega
   have u4 : decide ((bd : Int) - ba + 70 < 0) = true := decide_eq_true hU0
   by_cases hr : M % D = 0
   ·exact ydec_longr_neg00 (w := w) (hs := hs) (hK := hK) (hN := hN) (Z1 := Z1) (Z2 := Z2) (C3 := C3) (C4 := C4) (C5 := C5) (C6 := C6) (C7 := C7) (C8 := C8) (C9 := C9) (C11 := C11 hr) (hrem := hr) (u0 := u0) (u1 := u1) (u2 := u2) (u3 := u3) (u4 := u4) (u6 := by omega) (hN0 := hN0) (p1 := p1) (t0 := t0) (t1 := t1) (t2 := t2) (t3 := t3) (hg := hg) (hgN := hgN) (hN8 := hN8) (hrb := hrb) (q0 := q0) (q1 := q1) (q2 := q2) (_q3 := q3)
   ·exact ydec_longr_neg01 (w := w) (hs := hs) (hK := hK) (hN := hN) (Z1 := Z1) (Z2 := Z2) (C3 := C3) (C4 := C4) (C5 := C5) (C6 := C6) (C7 := C7) (C8 := C8) (C9 := C9) (C10 := C10) (C11 := C12 hr) (hrem := hr) (u0 := u0) (u1 := u1) (u2 := u2) (u3 := u3) (u4 := u4) (u6 := by omega) (hN0 := hN0) (p1 := p1) (t0 := t0) (t1 := t1) (t2 := t2) (t3 := t3) (hg := hg) (hgN := hgN) (hN8 := hN8) (hrb := hrb) (q0 := q0) (q1 := q1) (q2 := q2) (_q3 := q3)
  ·obtain rfl : U = (bd : Int) - ba + 70 := by omega
   have u4 : decide ((bd : Int) - ba + 70 < 0) = false := decide_eq_false hU0
   have u5 : wrap64 (-((bd : Int) - ba + 70)) = -((bd : Int) - ba + 70) := by unfold wrap64; omega
   have u6 : wrap64 (-((bd : Int) - ba + 70) - 1) = -((bd : Int) - ba + 70) - 1 := by unfold wrap64; omega
   by_cases hr : M % D = 0
   ·exact ydec_longr_neg10 (w := w) (hs := hs) (hK := hK) (hN := hN) (Z1 := Z1) (Z2 := Z2) (C3 := C3) (C4 := C4) (C5 := C5) (C6 := C6) (C7 := C7) (C8 := C8) (C9 := C9) (C11 := C11 hr) (hrem := hr) (u0 := u0) (u1 := u1) (u2 := u2) (u3 := u3) (u4 := u4) (u5 := u5) (u6 := u6) (hN0 := hN0) (p1 := p1) (t0 := t0) (t1 := t1) (t2 := t2) (t3 := t3) (hg := hg) (hgN := hgN) (hN8 := hN8) (hrb := hrb) (q0 := q0) (q1 := q1) (q2 := q2) (_q3 := q3)
   ·exact ydec_longr_neg11 (w := w) (hs := hs) (hK := hK) (hN := hN) (Z1 := Z1) (Z2 := Z2) (C3 := C3) (C4 := C4) (C5 := C5) (C6 := C6) (C7 := C7) (C8 := C8) (C9 := C9) (C10 := C10) (C11 := C12 hr) (hrem := hr) (u0 := u0) (u1 := u1) (u2 := u2) (u3 := u3) (u4 := u4) (u5 := u5) (u6 := u6) (hN0 := hN0) (p1 := p1) (t0 := t0) (t1 := t1) (t2 := t2) (t3 := t3) (hg := hg) (hgN := hgN) (hN8 := hN8) (hrb := hrb) (q0 := q0) (q1 := q1) (q2 := q2) (_q3 := q3)
theorem rparse_dec (l : List Nat) (w : World) (hd : ∀ c ∈ l, dg10 c = true) (h0 : l ≠ []) (hl : l.length ≤ 820) : Cp 165 #[.string (strOf l), .int .i64 10] w (NOk (num 10 l) w) := by
 have hb := bl_strOf (dg_byte hd)
 have hz := strOf_size l
 have hp : 0 < l.length := List.length_pos_iff.2 h0
 have h := rparse_ok (strOf l) 10 w (by omega) (by omega) (by omega) (fun i hi => by
  rw [btn_bl _ _ hi, hb, List.getD_eq_getElem?_getD, List.getElem?_eq_getElem (by omega)]
  exact (dgt_ten (hd _ (List.getElem_mem _))).2) (by omega)
 rw [sv_num, hb] at h
 refine h.mono fun e w' x => NOk.of (lng_bln ?_) x
 have h1 := num_hi hd
 have h2 := bln_mono (Nat.le_of_lt h1)
 have h3 := bln_ten l.length
 omega
theorem bln_dec2 {l : List Nat} (hd : ∀ c ∈ l, dg10 c = true) (hl : l.length ≤ 820) : bln (num 10 l) ≤ 3300 := by
 have h2 := bln_mono (Nat.le_of_lt (num_hi hd))
 have h3 := bln_ten l.length
 omega
theorem ldz_drop (f : List Nat) : f.drop (f.length - (ldz f).length) = ldz f := by
 obtain ⟨z, hz⟩ := dropWhile_zeros f
 have hz' : f = List.replicate z 48 ++ ldz f := hz
 have hl := congrArg List.length hz'
 rw [List.length_append, List.length_replicate] at hl
 rw [show f.length - (ldz f).length = z by omega]
 conv => lhs; rw [hz']
 rw [List.drop_append, List.drop_of_length_le (by simp)]
 simp
theorem ldz_ahead (f : List Nat) (k : Nat) (h : k < f.length - (ldz f).length) : f[k]? = some 48 := by
 obtain ⟨z, hz⟩ := dropWhile_zeros f
 have hz' : f = List.replicate z 48 ++ ldz f := hz
 have hl := congrArg List.length hz'
 rw [List.length_append, List.length_replicate] at hl
 rw [hz', List.getElem?_append_left (by rw [List.length_replicate]; omega), List.getElem?_replicate, if_pos (by omega)]
theorem ydecimal_any (f : List Nat) (X : Int) (w : World) (hd : ∀ c ∈ f, dg10 c = true) (hl : f.length ≤ 281474976710656) (hX : -1125899906842624 < X ∧ X < 1125899906842624) :
  Ct 104 #[.string (strOf f), .int .i64 X] (.float .f64 (decR (num 10 f) X)) w := by
 have hb := bl_strOf (dg_byte hd)
 have hz := strOf_size f
 have hg : ∀ c ∈ ldz f, dg10 c = true := fun c hc => hd c (ldz_mem hc)
 have hgl : (ldz f).length ≤ f.length := (List.dropWhile_sublist _).length_le
 have hdr := ldz_drop f
 have hex : (strOf f).extract (f.length - (ldz f).length) (strOf f).size = strOf (ldz f) := by rw [ext_drop, hb, hdr]
 have hnum : num 10 (ldz f) = num 10 f := num_lead 10 f
 have Z1 : Hid (∀ k (h : k < (strOf f).size), k < f.length - (ldz f).length → ((strOf f)[k]'h).toNat = 48) := Lib.hid (fun k h hk => by
  have h1 := bl_get (strOf f) k h
  rw [hb, ldz_ahead f k hk] at h1
  exact (Option.some.inj h1).symm)
 have Z2 : Hid (∀ h : f.length - (ldz f).length < (strOf f).size, ((strOf f)[f.length - (ldz f).length]'h).toNat ≠ 48) := Lib.hid (fun h e => by
  have h1 := bl_get (strOf f) _ h
  rw [hb, e] at h1
  have h2 : (f.drop (f.length - (ldz f).length)).head? = some 48 := by rw [List.head?_drop]; exact h1
  rw [hdr] at h2
  exact lead_head f h2)
 obtain ⟨N, hN⟩ : ∃ N, (ldz f).length = N := ⟨_, rfl⟩
 obtain ⟨K, hK⟩ : ∃ K, f.length - (ldz f).length = K := ⟨_, rfl⟩
 rw [hK] at hex Z1 Z2
 have a1 : (strOf f).size ≤ 281474976710656 := by omega
 have a2 : K ≤ (strOf f).size := by omega
 have a3 : (strOf f).size - K = N := by omega
 by_cases h0 : N = 0
 ·have : ldz f = [] := List.length_eq_zero_iff.1 (by omega)
  rw [show decR (num 10 f) X = 0 by rw [← hnum, this, num_nil, decR_zero]]
  exact ydec_none (strOf f) K N X w a1 a2 a3 Z1 Z2 h0
 ·have hne : ldz f ≠ [] := fun e => h0 (by rw [← hN, e]; rfl)
  have p1 : wrap64 ((N : Int) + X) = (N : Int) + X := by unfold wrap64; omega
  have t0 : ((N : Int) == 0) = false := by rw [beq_eq_false_iff_ne]; omega
  by_cases h1 : 400 < (N : Int) + X
  ·rw [rway_high hd hne (by omega)]
   exact ydec_high (strOf f) K N X _ w a1 a2 a3 Z1 Z2 (by omega) p1 t0 (decide_eq_true h1)
  ·by_cases h2 : (N : Int) + X < -400
   ·rw [← hnum, decR_tiny (num_hi hg) (by omega)]
    exact ydec_low (strOf f) K N X _ w a1 a2 a3 Z1 Z2 (by omega) p1 t0 (decide_eq_false h1) (decide_eq_true h2)
   ·by_cases h3 : 820 < (N : Int)
    ·have hlen : (strOf (ldz f)).size = N := by rw [strOf_size, hN]
     have hbg := bl_strOf (dg_byte hg)
     have q0 : wrap64 (X + (N : Int)) = X + N := by unfold wrap64; omega
     have hlt : ((ldz f).take 810).length = 810 := by rw [List.length_take]; omega
     have htd : ∀ c ∈ (ldz f).take 810, dg10 c = true := fun c hc => hg c (List.mem_of_mem_take hc)
     have ht0 : (ldz f).take 810 ≠ [] := fun e => by rw [e] at hlt; simp at hlt
     have hth : ((ldz f).take 810).head? ≠ some 48 := by rw [head_take (by omega)]; exact lead_head f
     have hx8 : (strOf (ldz f)).extract 0 810 = strOf ((ldz f).take 810) := by rw [ext_take, hbg]
     cases hrb : ((ldz f).drop 810).any (· != 48)
     ·have hc : ∀ c ∈ (ldz f).drop 810, c = 48 := fun c hc => by
       have := List.any_eq_false.1 hrb c hc
       simpa using this
      rw [rway_none hc, hN, show X + ((N - 810 : Nat) : Int) = X + N - 810 by omega]
      have C3 : Hid (∀ W, Cp 165 #[.string ((strOf (ldz f)).extract 0 810), .int .i64 10] W (NOk (num 10 ((ldz f).take 810)) W)) := Lib.hid (fun W => by
       rw [hx8]
       exact rparse_dec _ W htd ht0 (by omega))
      exact ydec_longn (strOf f) K N X _ (num 10 ((ldz f).take 810)) (strOf (ldz f)) (X + N) (X + N - 810) w a1 a2 a3 Z1 Z2 (by omega) p1 t0 (decide_eq_false h1) (decide_eq_false h2) (decide_eq_true h3) hex hlen (by omega) (by rw [hbg]; exact hrb) q0 (by unfold wrap64; omega) C3
       (Nat.lt_of_lt_of_le (ten_pos _) (num_lo htd ht0 hth)) (bln_dec2 htd (by omega)) (by omega) (by omega)
     ·obtain ⟨c, hc1, hc2⟩ := List.any_eq_true.1 hrb
      rw [rway_some hd (by omega) (by omega) ⟨c, hc1, by simpa using hc2⟩, hN, show X + ((N - 810 : Nat) : Int) - 1 = X + N - 810 - 1 by omega]
      obtain ⟨l, hl2⟩ : ∃ l, (ldz f).take 810 ++ [49] = l := ⟨_, rfl⟩
      have ll : l.length = 811 := by rw [← hl2, List.length_append, hlt]; rfl
      have ld : ∀ c ∈ l, dg10 c = true := by
       intro c hc
       rw [← hl2] at hc
       rcases List.mem_append.1 hc with h | h
       ·exact htd c h
       ·rw [List.mem_singleton.1 h]; rfl
      have l0 : l ≠ [] := fun e => by rw [e] at ll; simp at ll
      have lh : l.head? ≠ some 48 := by
       rw [← hl2]
       cases ht : (ldz f).take 810 with
       | nil => exact absurd ht ht0
       | cons a b =>
        rw [ht] at hth
        exact hth
      have hstr : (strOf (ldz f)).extract 0 810 ++ (⟨#[49]⟩ : ByteArray) = strOf l := by
       rw [hx8, ← hl2, ← strOf_append]
       rfl
      rw [hl2]
      have C3 : Hid (∀ W, Cp 165 #[.string ((strOf (ldz f)).extract 0 810 ++ ⟨#[49]⟩), .int .i64 10] W (NOk (num 10 l) W)) := Lib.hid (fun W => by
       rw [hstr]
       exact rparse_dec _ W ld l0 (by omega))
      exact ydec_longr (strOf f) K N X _ (num 10 l) (strOf (ldz f)) (X + N) (X + N - 810) (X + N - 810 - 1) w a1 a2 a3 Z1 Z2 (by omega) p1 t0 (decide_eq_false h1) (decide_eq_false h2) (decide_eq_true h3) hex hlen (by omega) (by rw [hbg]; exact hrb) q0 (by unfold wrap64; omega) (by unfold wrap64; omega) (by rw [hx8, strOf_size]; omega) C3
       (Nat.lt_of_lt_of_le (ten_pos _) (num_lo ld l0 lh)) (bln_dec2 ld (by omega)) (by omega) (by omega)
    ·rw [← hnum]
     have C3 : Hid (∀ W, Cp 165 #[.string ((strOf f).extract K (strOf f).size), .int .i64 10] W (NOk (num 10 (ldz f)) W)) := Lib.hid (fun W => by
      rw [hex]
      exact rparse_dec _ W hg hne (by omega))
     exact ydec_short (strOf f) K N X _ (num 10 (ldz f)) w a1 a2 a3 Z1 Z2 (by omega) p1 t0 (decide_eq_false h1) (decide_eq_false h2) (decide_eq_false h3) C3
      (Nat.lt_of_lt_of_le (ten_pos _) (num_lo hg hne (lead_head f))) (bln_dec2 hg (by omega)) (by omega) (by omega)

end Go.Proofs.YtfcpkdafkmohkaaGreatDoor
namespace Go.Proofs.YtfcpkdafkmohkaaGreatDoor
open Go.RowKit
def negW (r : Nat) : Nat := Op.negFloat .f64 r
end Go.Proofs.YtfcpkdafkmohkaaGreatDoor
namespace Go.Proofs.YtfcpkdafkmohkaaGreatDoor
open Go.RowKit
theorem negW_eq {r : Nat} (h : r < 9223372036854775808) : negW r = sgW true r := by
 have key : r ^^^ 9223372036854775808 = 2 ^ 63 * 1 + r := by
  rw [show (9223372036854775808 : Nat) = 2 ^ 63 from rfl] at h ⊢
  apply Nat.eq_of_testBit_eq
  intro j
  rw [Nat.testBit_xor, Nat.testBit_two_pow, Nat.testBit_two_pow_mul_add _ h]
  by_cases hj : j < 63
  ·rw [if_pos hj, decide_eq_false (by omega), Bool.xor_false]
  ·rw [if_neg hj]
   obtain ⟨i, rfl⟩ : ∃ i, j = 63 + i := ⟨j - 63, by omega⟩
   rw [Nat.add_sub_cancel_left, Nat.testBit_lt_two_pow (Nat.lt_of_lt_of_le h (Nat.pow_le_pow_right (by omega) (by omega)))]
   cases i with
   | zero => rfl
   | succ i => rw [decide_eq_false (by omega)]; simp [Nat.testBit_succ]
 exact key
end Go.Proofs.YtfcpkdafkmohkaaGreatDoor
namespace Go.Proofs.YtfcpkdafkmohkaaGreatDoor
open Go.RowKit
theorem sgW_f (r : Nat) : sgW false r = r := rfl
end Go.Proofs.YtfcpkdafkmohkaaGreatDoor
namespace Go.Proofs.YtfcpkdafkmohkaaGreatDoor
open Go.RowKit
theorem big_tenth : ∃ X : Nat, 0 < X ∧ big = 72057594037927936 * X ∧ fmag 4591870180066957722 = 7205759403792794 * X ∧ fmag 4591870180066957721 = 7205759403792793 * X ∧ fmag 4591870180066957723 = 7205759403792795 * X := by
 obtain ⟨K, hK, hb⟩ := big_K
 obtain ⟨J, hJ⟩ : ∃ J : Nat, J = 1018 := ⟨_, rfl⟩
 have h1 := fmag_make 7205759403792794 J (by omega) (by omega)
 have h2 := fmag_make 7205759403792793 J (by omega) (by omega)
 have h3 := fmag_make 7205759403792795 J (by omega) (by omega)
 rw [show J * 4503599627370496 + 7205759403792794 = 4591870180066957722 by omega] at h1
 rw [show J * 4503599627370496 + 7205759403792793 = 4591870180066957721 by omega] at h2
 rw [show J * 4503599627370496 + 7205759403792795 = 4591870180066957723 by omega] at h3
 refine ⟨2 ^ J, two_pos J, ?_, h1, h2, h3⟩
 rw [hb, show K = 56 + J by omega, Nat.pow_add]
theorem decR_tenth : decR 1 (-1) = 4591870180066957722 := by
 obtain ⟨X, hX, hb, h1, h2, h3⟩ := big_tenth
 rw [decR_big]
 unfold vV
 rw [show (-(-(-1 : Int))).toNat = 0 by omega, show (-(-1 : Int)).toNat = 1 by omega, Nat.pow_zero, Nat.pow_one, Nat.mul_one, Nat.one_mul, rnd_iff (by omega) (by omega) (by omega), h1, show 4591870180066957722 - 1 = 4591870180066957721 by omega, h2, show 4591870180066957722 + 1 = 4591870180066957723 by omega, h3, hb]
 exact ⟨.inl (by omega), .inl (by omega)⟩
theorem sq_tenth : SQ 4591870180066957722 [49] 0 := by
 obtain ⟨X, hX, hb, h1, _, _⟩ := big_tenth
 have e1 : dL 1 = [49] := dL_small (by omega)
 have hU : vU 4591870180066957722 (((1 : Nat) : Int) - 0) = 72057594037927940 * X := by
  unfold vU
  rw [h1, show (((1 : Nat) : Int) - 0).toNat = 1 by omega, Nat.pow_one]
  omega
 have hV : vV (((1 : Nat) : Int) - 0) = 72057594037927936 * X := by
  unfold vV
  rw [hb, show (-(((1 : Nat) : Int) - 0)).toNat = 0 by omega, Nat.pow_zero, Nat.mul_one]
 have hq : cq 4591870180066957722 0 1 = 1 := by
  unfold cq
  rw [hU, hV, Nat.mul_div_mul_right _ _ hX]
 have hm : vU 4591870180066957722 (((1 : Nat) : Int) - 0) % vV (((1 : Nat) : Int) - 0) = 4 * X := by
  rw [hU, hV, Nat.mul_mod_mul_right]
 have hl : clow 4591870180066957722 0 1 = true := by
  unfold clow
  rw [hq]
  exact decide_eq_true decR_tenth
 have hn : cnear 4591870180066957722 0 1 = true := by
  unfold cnear
  rw [hm, hV, decide_eq_true (by omega), Bool.true_or]
 refine ⟨0, 1, 1, ⟨?_, ?_⟩, by omega, by omega, by omega, ?_, by rw [e1]; rfl, by rw [e1]; rfl⟩
 ·unfold le10
  rw [h1, hb, show ((0 : Int) - 1).toNat = 0 by omega, show (-((0 : Int) - 1)).toNat = 1 by omega, Nat.pow_zero, Nat.pow_one]
  omega
 ·unfold le10
  rw [h1, hb, show (0 : Int).toNat = 0 by omega, show (-(0 : Int)).toNat = 0 by omega, Nat.pow_zero]
  omega
 ·unfold cnd
  rw [hl, hn, hq]
  simp
theorem tx_tenth : TxQ 4591870180066957722 [48, 46, 49] := by
 refine .inr (.inr ⟨by decide, by decide, [48, 46, 49], .inr ⟨by decide, [49], 0, ?_, by decide⟩, by decide⟩)
 have : rung 4591870180066957722 = 4591870180066957722 := by decide
 rw [this]
 exact sq_tenth
theorem num_tenth : numW (nrw 0 (us (trimS (wdS [48, 46, 49])))) = 4591870180066957722 := by
 have h : nrw 0 (us (trimS (wdS [48, 46, 49]))) = [48, 46, 49] := by decide +kernel
 rw [h]
 unfold numW
 rw [if_neg (by decide), if_neg (by decide), if_neg (by decide), if_pos (by decide)]
 have h1 : sgnB [48, 46, 49] = false := by decide
 rw [h1, sgW_f]
 have h2 : unsg [48, 46, 49] = [48, 46, 49] := by decide
 rw [h2]
 unfold dV
 rw [show num 10 (dW [48, 46, 49] ++ dF [48, 46, 49]) = 1 by decide, show dX [48, 46, 49] - ((dF [48, 46, 49]).length : Int) = -1 by decide]
 exact decR_tenth
theorem awake_any (w : World) (ht : Tab10 w) (hz : TzTab w) : Ct 16 #[] (.bool true) w := by
 have C1 := Lib.hid (fun W (hW : W = w) => tText_any (x := 4591870180066957722) (L := [48, 46, 49]) (w := W) (by omega) (hW ▸ ht) (hW ▸ hz) tx_tenth)
 have C2 := Lib.hid (fun W => vwide_any [48, 46, 49] W (by simp) (by simp))
 have C3 := Lib.hid (fun W => tNumber_any (wdS [48, 46, 49]) W (by decide +kernel))
 rw [num_tenth] at C3
 have t1 : (FloatKind.f64.format.order 4591870180066957722 4591870180066957722 == some .eq) = true := by rw [ord_eq_pos (by omega) (by omega)]; exact decide_eq_true rfl
 obtain ⟨S, hS⟩ : ∃ S, wdS [48, 46, 49] = S := ⟨_, rfl⟩
 rw [hS] at C1 C2 C3
 rw [show strOf [48, 46, 49] = ⟨#[48, 46, 49]⟩ from rfl] at C2
 clear ht hz hS
 go_enter Tryz.func16, Tryz.ntmps16
 go_wp2_with fail
 refine (C1.out _ rfl).mono ?_
 rintro e w1 ⟨rfl, b1⟩
 have B1 := Lib.hid b1
 clear b1
 go_wp2_with fail
 refine (C2.out _).mono ?_
 rintro e w2 ⟨rfl, b2⟩
 have B2 := Lib.hid (below_le B1.out b2)
 clear b2
 go_wp2_with fail
 refine (C2.out _).mono ?_
 rintro e w3 ⟨rfl, b3⟩
 have B3 := Lib.hid (below_le B2.out b3)
 clear b3
 go_wp2_with fail
 refine (C3.out _).mono ?_
 rintro e w4 ⟨rfl, b4⟩
 have B4 := Lib.hid (below_le B3.out b4)
 clear b4
 go_wp2
 go_ret
 exact ⟨rfl, B4.out⟩
end Go.Proofs.YtfcpkdafkmohkaaGreatDoor
namespace Go.Proofs.YtfcpkdafkmohkaaGreatDoor
open Go.RowKit
theorem decR_le_inf (N : Nat) (e : Int) : decR N e ≤ 9218868437227405312 := Nat.min_le_right _ _
end Go.Proofs.YtfcpkdafkmohkaaGreatDoor
namespace Go.Proofs.YtfcpkdafkmohkaaGreatDoor
open Go.RowKit
theorem word_low {v : Nat} (h : 0 < v) : ∃ x0, (wds v)[0]? = some x0 ∧ x0 < 4294967296 ∧ x0 % 2 = v % 2 := by
 have hne : (wds v) ≠ [] := by
  intro e
  have := wds_val v
  rw [e] at this
  have h0 : val [] = 0 := rfl
  omega
 have hv := wds_val v
 have hws := wds_ws v
 cases hw : wds v with
 | nil => exact absurd hw hne
 | cons a t =>
  rw [hw] at hv hws
  refine ⟨a, rfl, hws a (by simp), ?_⟩
  rw [← hv]
  show a % 2 = (a + 4294967296 * val t) % 2
  omega
set_option maxRecDepth 100000 in
set_option maxHeartbeats 8000000 in
theorem yDigits_walk {x : Nat} {n : Int} {w : World} {Nf Df : Nat → Nat} {R : ByteArray → Int → Prop} (b1 : -400 ≤ n) (b2 : n ≤ 400)
  (C0 : Hid (∀ W, W = w → Ct 100 #[.float .f64 x] (.int .i64 n) W))
  (CS : Hid (∀ W (k : Nat), k ≤ 17 → Cp 48 #[.float .f64 x, .int .i64 (k - n)] W fun e w' => ∃ A a c C b d, e = .returned (.tuple #[.slice A a c, .slice C b d]) ∧ NV w' A a c (Nf k) ∧ NV w' C b d (Df k) ∧ Below W.heap.size W w'))
  (CH : Hid (∀ W (k : Nat) A a c C b d, k ≤ 17 → NV W A a c (Nf k) → NV W C b d (Df k) → Cp 49 #[.slice A a c, .slice C b d] W (HRet (Nf k) (Df k) W)))
  (CU : Hid (∀ W (k : Nat) A a c, k ≤ 17 → NV W A a c (Nf k % Df k) → Cp 102 #[.slice A a c, .int .i64 1] W (NRet (Nf k % Df k * 2 ^ 1) W)))
  (CC : Hid (∀ W (k : Nat) A a c C b d, k ≤ 17 → NV W A a c (Nf k % Df k * 2 ^ 1) → NV W C b d (Df k) → Cq 101 #[.slice A a c, .slice C b d] (.int .i64 (cmpN (Nf k % Df k * 2 ^ 1) (Df k))) W))
  (CP : Hid (∀ W (k : Nat) A a c C b d, k ≤ 17 → NV W A a c (Nf k / Df k) → NV W C b d 1 → Cp 103 #[.slice A a c, .slice C b d] W (NRet (Nf k / Df k + 1) W)))
  (CN : Hid (∀ W (k : Nat) A a c, k ≤ 17 → NV W A a c (Nf k / Df k) → Ct 105 #[.slice A a c] (.string (strOf (dL (Nf k / Df k)))) W))
  (CM : Hid (∀ W (k : Nat) A a c, k ≤ 17 → NV W A a c (Nf k / Df k + 1) → Ct 105 #[.slice A a c] (.string (strOf (dL (Nf k / Df k + 1)))) W))
  (CD : Hid (∀ W (k v : Nat), k ≤ 17 → v < 10 ^ 18 → Ct 104 #[.string (strOf (dL v)), .int .i64 (n - k)] (.float .f64 (decR v (n - k))) W))
  (hq0 : Hid (∀ k, 1 ≤ k → k ≤ 17 → 0 < Nf k / Df k ∧ Nf k / Df k + 1 < 10 ^ 18))
  (hlow : Hid (∀ k, 1 ≤ k → k ≤ 17 → (FloatKind.f64.format.order (decR (Nf k / Df k) (n - k)) x == some .eq) = clow x n k))
  (hhigh : Hid (∀ k, 1 ≤ k → k ≤ 17 → (FloatKind.f64.format.order (decR (Nf k / Df k + 1) (n - k)) x == some .eq) = chigh x n k))
  (hnear : Hid (∀ k, 1 ≤ k → k ≤ 17 → (decide (cmpN (Nf k % Df k * 2 ^ 1) (Df k) < 0) || ((cmpN (Nf k % Df k * 2 ^ 1) (Df k) == 0) && !(((Nf k / Df k : Nat) : Int) % 2 == 1))) = cnear x n k))
  (hend : Hid (clow x n 17 = false → chigh x n 17 = false → False))
  (rq : Hid (∀ k, 1 ≤ k → k ≤ 17 → (∀ j, 1 ≤ j → j < k → cnd x n j = none) → clow x n k = true → (chigh x n k = false ∨ cnear x n k = true) → R (strOf (dL (Nf k / Df k))) n))
  (rs : Hid (∀ k, 1 ≤ k → k ≤ 17 → (∀ j, 1 ≤ j → j < k → cnd x n j = none) → chigh x n k = true → (clow x n k = false ∨ cnear x n k = false) → (dL (Nf k / Df k + 1)).length ≤ k → R (strOf (dL (Nf k / Df k + 1))) n))
  (rl : Hid (∀ k, 1 ≤ k → k ≤ 17 → (∀ j, 1 ≤ j → j < k → cnd x n j = none) → chigh x n k = true → (clow x n k = false ∨ cnear x n k = false) → k < (dL (Nf k / Df k + 1)).length → R ((strOf (dL (Nf k / Df k + 1))).extract 0 k) (n + 1))) :
  Cp 42 #[.float .f64 x] w fun e w' => (∃ S m, e = .returned (.tuple #[.string S, .int .i64 m]) ∧ R S m) ∧ Below w.heap.size w w' := by
 have b3 : -400 ≤ n ∧ n ≤ 400 := ⟨b1, b2⟩
 obtain ⟨b4, b5⟩ := b3
 go_enter Tryz.func42, Tryz.ntmps42
 go_wp2_with fail
 refine (C0.out _ rfl).mono ?_
 rintro e w1 ⟨rfl, b1'⟩
 have B1 := Lib.hid b1'
 clear b1'
 go_wp2
 go_loopw [5] (fun v wr => ∃ k : Nat, v = .int .i64 k ∧ 1 ≤ k ∧ k ≤ 17 ∧ Hid (∀ j, 1 ≤ j → j < k → cnd x n j = none) ∧ Hid (Below w.heap.size w wr)) (fun v _ => 17 - (intOf v).toNat)
 case atStart => exact ⟨1, rfl, by omega, by omega, Lib.hid (fun j h1 h2 => by omega), B1⟩
 case round =>
  obtain ⟨k, rfl, hk1, hk2, HN, B1⟩ := hrel
  have HK1 := Lib.hid hk1
  have HK2 := Lib.hid hk2
  have e1 : (1 : Int) ≤ (k : Int) := by omega
  have e2 : (k : Int) ≤ 17 := by omega
  obtain ⟨q, hq⟩ : ∃ q, Nf k / Df k = q := ⟨_, rfl⟩
  obtain ⟨r, hr⟩ : ∃ r, Nf k % Df k = r := ⟨_, rfl⟩
  have CH := Lib.hid (fun W A a c C b d => CH.out W k A a c C b d hk2)
  have CU := Lib.hid (fun W A a c => CU.out W k A a c hk2)
  have CC := Lib.hid (fun W A a c C b d => CC.out W k A a c C b d hk2)
  have CP := Lib.hid (fun W A a c C b d => CP.out W k A a c C b d hk2)
  have CN := Lib.hid (fun W A a c => CN.out W k A a c hk2)
  have CM := Lib.hid (fun W A a c => CM.out W k A a c hk2)
  obtain ⟨q1, q2⟩ := hq0.out k hk1 hk2
  have Q1 := Lib.hid q1
  have CD1 := Lib.hid (fun W => CD.out W k (Nf k / Df k) hk2 (by omega))
  have CD2 := Lib.hid (fun W => CD.out W k (Nf k / Df k + 1) hk2 q2)
  have tl := hlow.out k hk1 hk2
  have th := hhigh.out k hk1 hk2
  have tn := hnear.out k hk1 hk2
  have rq := Lib.hid (rq.out k hk1 hk2 HN.out)
  have rs := Lib.hid (rs.out k hk1 hk2 HN.out)
  have rl := Lib.hid (rl.out k hk1 hk2 HN.out)
  unfold HRet at CH
  rw [hq] at CH CP CN CM CD1 CD2 Q1 tl th tn rq rs rl
  rw [hr] at CH CU CC tn
  obtain ⟨o, ho⟩ : ∃ o, cmpN (r * 2 ^ 1) (Df k) = o := ⟨_, rfl⟩
  rw [ho] at CC tn
  obtain ⟨f1, hf1⟩ : ∃ f, decR q (n - k) = f := ⟨_, rfl⟩
  obtain ⟨f2, hf2⟩ : ∃ f, decR (q + 1) (n - k) = f := ⟨_, rfl⟩
  rw [hf1] at CD1 tl
  rw [hf2] at CD2 th
  obtain ⟨lo, hlo⟩ : ∃ lo, clow x n k = lo := ⟨_, rfl⟩
  obtain ⟨hi, hhi⟩ : ∃ hi, chigh x n k = hi := ⟨_, rfl⟩
  obtain ⟨nr, hnr⟩ : ∃ nr, cnear x n k = nr := ⟨_, rfl⟩
  rw [hlo] at tl rq rs rl
  rw [hhi] at th rq rs rl
  rw [hnr] at tn rq rs rl
  have HLO := Lib.hid hlo
  have HHI := Lib.hid hhi
  have TN := Lib.hid tn
  obtain ⟨x0, hx1, hx2, hx3⟩ := word_low Q1.out
  have HX1 := Lib.hid hx1
  have ka : bits BinOp.and IntKind.u32 (x0 : Int) 1 = ((q % 2 : Nat) : Int) := by rw [and_one32 x0 hx2, hx3]
  have KA := Lib.hid ka
  have TL := Lib.hid tl
  have TH := Lib.hid th
  obtain ⟨s1, hs1⟩ : ∃ s, strOf (dL q) = s := ⟨_, rfl⟩
  obtain ⟨s2, hs2⟩ : ∃ s, strOf (dL (q + 1)) = s := ⟨_, rfl⟩
  rw [hs1] at CN CD1 rq
  rw [hs2] at CM CD2 rs rl
  obtain ⟨ls, hls⟩ : ∃ ls, (dL (q + 1)).length = ls := ⟨_, rfl⟩
  rw [hls] at rs rl
  have hsz : s2.size = ls := by rw [← hs2, strOf_size, hls]
  have HSZ := Lib.hid hsz
  clear hk1 hk2 hq hr q1 q2 ho hf1 hf2 hlo hhi hnr tn hx1 hx2 hx3 ka tl th hs1 hs2 hls hsz
  go_wp2_with fail
  refine (CS.out _ k HK2.out).mono ?_
  rintro e w2 ⟨A2, n2, c2, A3, n3, c3, rfl, g2, g3, b2'⟩
  have GN := Lib.hid g2
  have GD := Lib.hid g3
  have B2 := Lib.hid (below_le B1.out b2')
  clear g2 g3 b2'
  go_wp2_with fail
  refine (CH.out _ _ _ _ _ _ _ GN.out GD.out).mono ?_
  rintro e w3 ⟨A4, n4, c4, A5, n5, c5, rfl, g4, g5, b3'⟩
  have GQ := Lib.hid g4
  have GR := Lib.hid g5
  have GD := Lib.hid (GD.out.step b3')
  have B3 := Lib.hid (below_le B2.out b3')
  clear g4 g5 b3'
  go_wp2_with fail
  refine (CU.out _ _ _ _ GR.out).mono ?_
  rintro e w4 ⟨A6, n6, c6, rfl, g6, b4'⟩
  have GU := Lib.hid g6
  have GQ := Lib.hid (GQ.out.step b4')
  have GD := Lib.hid (GD.out.step b4')
  have B4 := Lib.hid (below_le B3.out b4')
  clear g6 b4'
  go_wp2_with fail
  refine (CC.out _ _ _ _ _ _ _ GU.out GD.out).mono ?_
  rintro e w' ⟨rfl, rfl⟩
  have G1 := Lib.hid (NV.lit w4 1 (by omega) (by omega))
  have GQ := Lib.hid (GQ.out.step (below_al w4 (.cells #[.int .u32 1] 42)))
  have B4 := Lib.hid (alloc_below (.cells #[.int .u32 1] 42) B4.out)
  go_wp2_with fail
  generalize w4.alloc (.cells #[.int .u32 1] 42) = w5 at *
  refine (CP.out _ _ _ _ _ _ _ GQ.out G1.out).mono ?_
  rintro e w6 ⟨A7, n7, c7, rfl, g7, b6'⟩
  have GS := Lib.hid g7
  have GQ := Lib.hid (GQ.out.step b6')
  have B6 := Lib.hid (below_le B4.out b6')
  clear g7 b6'
  go_wp2_with fail
  refine (CN.out _ _ _ _ GQ.out).mono ?_
  rintro e w7 ⟨rfl, b7'⟩
  have GS := Lib.hid (GS.out.step b7')
  have GQ := Lib.hid (GQ.out.step b7')
  have B7 := Lib.hid (below_le B6.out b7')
  clear b7'
  go_wp2_with fail
  refine (CD1.out _).mono ?_
  rintro e w8 ⟨rfl, b8'⟩
  have GS := Lib.hid (GS.out.step b8')
  have GQ := Lib.hid (GQ.out.step b8')
  have B8 := Lib.hid (below_le B7.out b8')
  clear b8'
  have tl := TL.out
  go_wp2_with fail
  clear tl
  refine (CM.out _ _ _ _ GS.out).mono ?_
  rintro e w9 ⟨rfl, b9'⟩
  have GS := Lib.hid (GS.out.step b9')
  have GQ := Lib.hid (GQ.out.step b9')
  have B9 := Lib.hid (below_le B8.out b9')
  clear b9'
  go_wp2_with fail
  refine (CD2.out _).mono ?_
  rintro e wA ⟨rfl, bA'⟩
  have GS := Lib.hid (GS.out.step bA')
  have GQ := Lib.hid (GQ.out.step bA')
  have BA := Lib.hid (below_le B9.out bA')
  clear bA'
  have hlq : 0 < n4 := by
   have h1 := GQ.out.len
   have h2 := HX1.out
   rcases Nat.eq_zero_or_pos n4 with h | h
   ·rw [List.eq_nil_of_length_eq_zero (h1.trans h)] at h2
    cases h2
   ·exact h
  obtain ⟨bq, oq, rfl, _, hcq⟩ := GQ.out.row.2 (by rw [GQ.out.len]; exact hlq)
  have c0 := hcq 0 _ HX1.out
  rw [Nat.add_zero] at c0
  clear hcq
  have hl4 : (0 : Int) < (n4 : Int) := by omega
  clear hlq
  have th := TH.out
  have ka := KA.out
  go_upto_region 11 with (fail)
  clear th ka c0
  obtain ⟨od, hod⟩ : ∃ od, ((q : Int) % 2 == 1) = od := ⟨_, rfl⟩
  rw [hod] at TN ⊢
  clear hod
  cases lo
  ·cases hi
   ·have hn : cnd x n k = none := cnd_none.2 ⟨HLO.out, HHI.out⟩
    have h17 : k ≠ 17 := by
     rintro rfl
     exact hend.out HLO.out HHI.out
    have HN' : Hid (∀ j, 1 ≤ j → j < k + 1 → cnd x n j = none) := Lib.hid (fun j h1 h2 => by
     rcases Nat.lt_or_ge j k with h | h
     ·exact HN.out j h1 h
     ·rw [show j = k by omega]
      exact hn)
    have hk2 := HK2.out
    clear hn
    go_wp2
    go_roundw
    case rel => exact ⟨k + 1, by go_num, by omega, by omega, HN', BA⟩
    case measure => simp [intOf]; omega
   ·have tt : True := trivial
    go_wp2_with fail
    refine (CM.out _ _ _ _ GS.out).mono ?_
    rintro e wB ⟨rfl, bB'⟩
    have BB := Lib.hid (below_le BA.out bB')
    clear bB'
    have hz' := HSZ.out
    by_cases hlk : k < ls
    ·have t9 : (k : Int) < (ls : Int) := by omega
     have t8 : (0 : Int) ≤ (k : Int) := by omega
     have t7 : (k : Int) ≤ (ls : Int) := by omega
     go_wp2
     go_ret2
     exact ⟨⟨_, _, rfl, rl.out (by simp) (.inl (by simp)) hlk⟩, BB.out⟩
    ·have t9 : decide (k < ls) = false := decide_eq_false hlk
     go_wp2
     go_ret2
     exact ⟨⟨_, _, rfl, rs.out (by simp) (.inl (by simp)) (by omega)⟩, BB.out⟩
  ·cases hi
   ·have tt : True := trivial
    go_wp2_with fail
    refine (CN.out _ _ _ _ GQ.out).mono ?_
    rintro e wB ⟨rfl, bB'⟩
    have BB := Lib.hid (below_le BA.out bB')
    clear bB'
    go_wp2
    go_ret2
    exact ⟨⟨_, _, rfl, rq.out (by simp) (.inl (by simp))⟩, BB.out⟩
   ·by_cases t1 : o < 0
    ·have hn : nr = true := by rw [← TN.out, decide_eq_true t1]; rfl
     go_wp2_with fail
     refine (CN.out _ _ _ _ GQ.out).mono ?_
     rintro e wB ⟨rfl, bB'⟩
     have BB := Lib.hid (below_le BA.out bB')
     clear bB'
     go_wp2
     go_ret2
     exact ⟨⟨_, _, rfl, rq.out (by simp) (.inr hn)⟩, BB.out⟩
    ·by_cases t2 : o = 0
     ·have t3 : (o == 0) = true := by rw [beq_iff_eq]; exact t2
      cases od
      ·have hn : nr = true := by rw [← TN.out, decide_eq_false t1, t3]; rfl
       clear t2
       go_wp2_with fail
       refine (CN.out _ _ _ _ GQ.out).mono ?_
       rintro e wB ⟨rfl, bB'⟩
       have BB := Lib.hid (below_le BA.out bB')
       clear bB'
       go_wp2
       go_ret2
       exact ⟨⟨_, _, rfl, rq.out (by simp) (.inr hn)⟩, BB.out⟩
      ·have hn : nr = false := by rw [← TN.out, decide_eq_false t1, t3]; rfl
       clear t2
       go_wp2_with fail
       refine (CM.out _ _ _ _ GS.out).mono ?_
       rintro e wB ⟨rfl, bB'⟩
       have BB := Lib.hid (below_le BA.out bB')
       clear bB'
       have hz' := HSZ.out
       by_cases hlk : k < ls
       ·have t9 : (k : Int) < (ls : Int) := by omega
        have t8 : (0 : Int) ≤ (k : Int) := by omega
        have t7 : (k : Int) ≤ (ls : Int) := by omega
        go_wp2
        go_ret2
        exact ⟨⟨_, _, rfl, rl.out (by simp) (.inr hn) hlk⟩, BB.out⟩
       ·have t9 : decide (k < ls) = false := decide_eq_false hlk
        go_wp2
        go_ret2
        exact ⟨⟨_, _, rfl, rs.out (by simp) (.inr hn) (by omega)⟩, BB.out⟩
     ·have t3 : (o == 0) = false := by rw [beq_eq_false_iff_ne]; exact t2
      have hn : nr = false := by rw [← TN.out, decide_eq_false t1, t3]; rfl
      clear t2
      go_wp2_with fail
      refine (CM.out _ _ _ _ GS.out).mono ?_
      rintro e wB ⟨rfl, bB'⟩
      have BB := Lib.hid (below_le BA.out bB')
      clear bB'
      have hz' := HSZ.out
      by_cases hlk : k < ls
      ·have t9 : (k : Int) < (ls : Int) := by omega
       have t8 : (0 : Int) ≤ (k : Int) := by omega
       have t7 : (k : Int) ≤ (ls : Int) := by omega
       go_wp2
       go_ret2
       exact ⟨⟨_, _, rfl, rl.out (by simp) (.inr hn) hlk⟩, BB.out⟩
      ·have t9 : decide (k < ls) = false := decide_eq_false hlk
       go_wp2
       go_ret2
       exact ⟨⟨_, _, rfl, rs.out (by simp) (.inr hn) (by omega)⟩, BB.out⟩

end Go.Proofs.YtfcpkdafkmohkaaGreatDoor
namespace Go.Proofs.YtfcpkdafkmohkaaGreatDoor
open Go.RowKit
theorem sc_quot {x m : Nat} {two : Int} (h : PartG x m two) (p : Int) :
  scN m two p / scD two p = vU x p / vV p ∧ (2 * (scN m two p % scD two p) < scD two p ↔ 2 * (vU x p % vV p) < vV p) ∧ (2 * (scN m two p % scD two p) = scD two p ↔ 2 * (vU x p % vV p) = vV p) :=
 quot_cross (scD_pos _ _) (vV_pos p) (sc_facts h p)
theorem cmpN_lt {a b : Nat} : cmpN a b < 0 ↔ a < b := by
 unfold cmpN
 split
 ·omega
 ·split <;> omega
theorem cmpN_eq {a b : Nat} : cmpN a b = 0 ↔ a = b := by
 unfold cmpN
 split
 ·omega
 ·split <;> omega
theorem cnd_low {x k : Nat} {n : Int} (h1 : clow x n k = true) (h2 : chigh x n k = false ∨ cnear x n k = true) : cnd x n k = some (cq x n k) := by
 unfold cnd
 rw [h1]
 rcases h2 with h | h <;> rw [h] <;> simp
theorem cnd_high {x k : Nat} {n : Int} (h1 : chigh x n k = true) (h2 : clow x n k = false ∨ cnear x n k = false) : cnd x n k = some (cq x n k + 1) := by
 unfold cnd
 rw [h1]
 rcases h2 with h | h <;> rw [h] <;> simp
theorem bln_succ (a : Nat) : bln (a + 1) ≤ bln a + 1 := by
 rcases Nat.eq_zero_or_pos a with h | h
 ·subst h
  decide
 ·have h1 := bln_shift (k := 1) h
  rw [← h1]
  exact bln_mono (by omega)
theorem yDigits_any {x : Nat} {w : World} (h0 : 0 < x) (hx : x < 9218868437227405312) : Cp 42 #[.float .f64 x] w (ShortQ x w) := by
 obtain ⟨m0, two0, hp0⟩ := part_ex h0 hx
 obtain ⟨n, hn, n1, n2⟩ := point_ex hp0
 obtain ⟨m, two, hG, hC⟩ := yscaled_fix x hx
 obtain ⟨gb1, gb2, gb3⟩ := hG.bd
 have hq : ∀ k : Nat, scN m two (k - n) / scD two (k - n) = cq x n k := fun k => (sc_quot hG _).1
 have hqb : ∀ k : Nat, 1 ≤ k → k ≤ 17 → 0 < cq x n k ∧ cq x n k + 1 ≤ 10 ^ k ∧ 10 ^ k ≤ 10 ^ 17 := fun k hk1 hk2 => by
  have h1 := cq_lo hn hk1
  have h2 := cq_hi (k := k) hn
  have h3 := ten_pos (k - 1)
  exact ⟨by omega, by omega, Nat.pow_le_pow_right (by omega) hk2⟩
 have bN : ∀ k : Nat, k ≤ 17 → bln (scN m two (k - n)) ≤ 5000 := fun k hk => scN_bln hG (by omega)
 have bD : ∀ k : Nat, k ≤ 17 → bln (scD two (k - n)) ≤ 5000 := fun k hk => scD_bln gb2 (by omega)
 have bR : ∀ k : Nat, k ≤ 17 → bln (scN m two (k - n) % scD two (k - n)) ≤ 5000 := fun k hk => Nat.le_trans (bln_mono (Nat.mod_le _ _)) (bN k hk)
 have bQ : ∀ k : Nat, k ≤ 17 → bln (scN m two (k - n) / scD two (k - n)) ≤ 5000 := fun k hk => Nat.le_trans (bln_mono (Nat.div_le_self _ _)) (bN k hk)
 have bQ1 : ∀ k : Nat, k ≤ 17 → bln (scN m two (k - n) / scD two (k - n) + 1) ≤ 6000 := fun k hk => by
  have h1 := bln_succ (scN m two (k - n) / scD two (k - n))
  have h2 := bQ k hk
  omega
 refine (yDigits_walk (n := n) (Nf := fun k => scN m two (k - n)) (Df := fun k => scD two (k - n)) (R := fun S N => ∃ D, S = strOf D ∧ SQ x D N) (by omega) (by omega)
  (Lib.hid fun W _ => ypoint_is h0 hx hn n1 n2) (Lib.hid fun W k hk => hC _ W (by omega) (by omega))
  (Lib.hid fun W k A a c C b d hk h g => rnhalved h g (by have := bN k hk; omega) (by have := bD k hk; omega) (scD_pos _ _))
  (Lib.hid fun W k A a c hk h => rnup h 1 (by have := bR k hk; omega) (by omega))
  (Lib.hid fun W k A a c C b d hk h g => rncmp h g (by have := bR k hk; have := bln_mul (scN m two (k - n) % scD two (k - n)) (2 ^ 1); have := bln_pow2 1; omega) (by have := bD k hk; omega))
  (Lib.hid fun W k A a c C b d hk h g => rnplus h g (by have := bQ k hk; omega) (by decide))
  (Lib.hid fun W k A a c hk h => ynumber_any h (by have := bQ k hk; omega))
  (Lib.hid fun W k A a c hk h => ynumber_any h (by have := bQ1 k hk; omega))
  (Lib.hid fun W k v hk hv => ?_) (Lib.hid ?_) (Lib.hid ?_) (Lib.hid ?_) (Lib.hid ?_) (Lib.hid ?_) (Lib.hid ?_) (Lib.hid ?_) (Lib.hid ?_)).mono ?_
 ·have h1 := ydecimal_any (dL v) (n - k) W (dL_dig v) (by have := dL_le hv (by omega); omega) (by omega)
  rw [dL_num] at h1
  exact h1
 ·intro k hk1 hk2
  obtain ⟨h1, h2, h3⟩ := hqb k hk1 hk2
  simp only [hq]
  omega
 ·intro k hk1 hk2
  simp only [hq]
  rw [ord_eq_pos (decR_le_inf _ _) (by omega)]
  rfl
 ·intro k hk1 hk2
  simp only [hq]
  rw [ord_eq_pos (decR_le_inf _ _) (by omega)]
  rfl
 ·intro k hk1 hk2
  obtain ⟨s1, s2, s3⟩ := sc_quot hG ((k : Int) - n)
  unfold cnear
  simp only [hq]
  rw [Bool.eq_iff_iff, Bool.or_eq_true, Bool.or_eq_true, Bool.and_eq_true, Bool.and_eq_true, decide_eq_true_iff, decide_eq_true_iff, decide_eq_true_iff, decide_eq_true_iff, beq_iff_eq, cmpN_lt, cmpN_eq, ← s2, ← s3, Bool.not_eq_true', beq_eq_false_iff_ne]
  generalize cq x n k = q
  generalize scN m two (↑k - n) % scD two (↑k - n) = r
  generalize scD two (↑k - n) = d
  omega
 ·intro h1 h2
  exact cnd_ends hn h0 hx (cnd_none.2 ⟨h1, h2⟩)
 ·intro k hk1 hk2 hmin h1 h2
  simp only [hq]
  have hc := cnd_low h1 h2
  have hlt := cq_hi (k := k) hn
  rcases cnd_last hn hk1 hmin hc with ⟨g1, g2, g3⟩ | ⟨g1, g2⟩
  ·have e := dL_last g1
   obtain ⟨j, rfl⟩ : ∃ j, k = j + 1 := ⟨k - 1, by omega⟩
   have hl := dL_len (k := j) g2 g3
   exact ⟨_, rfl, n, j + 1, _, hn, hk1, hk2, hmin, hc, e.symm, by rw [hl]; omega⟩
  ·subst g1
   rw [g2] at hlt
   omega
 ·intro k hk1 hk2 hmin h1 h2 hle
  simp only [hq] at hle ⊢
  have hc := cnd_high h1 h2
  rcases cnd_last hn hk1 hmin hc with ⟨g1, g2, g3⟩ | ⟨g1, g2⟩
  ·have e := dL_last g1
   obtain ⟨j, rfl⟩ : ∃ j, k = j + 1 := ⟨k - 1, by omega⟩
   have hl := dL_len (k := j) g2 g3
   exact ⟨_, rfl, n, j + 1, _, hn, hk1, hk2, hmin, hc, e.symm, by rw [hl]; omega⟩
  ·subst g1
   rw [g2, show dL 10 = [49, 48] by rw [dL_big (by omega), dL_small (by omega)]; rfl] at hle
   simp at hle
 ·intro k hk1 hk2 hmin h1 h2 hle
  simp only [hq] at hle ⊢
  have hc := cnd_high h1 h2
  rcases cnd_last hn hk1 hmin hc with ⟨g1, g2, g3⟩ | ⟨g1, g2⟩
  ·exfalso
   obtain ⟨j, rfl⟩ : ∃ j, k = j + 1 := ⟨k - 1, by omega⟩
   have hl := dL_len (k := j) g2 g3
   omega
  ·subst g1
   have e10 : dL 10 = [49, 48] := by rw [dL_big (by omega), dL_small (by omega)]; rfl
   refine ⟨[49], ?_, n, 1, _, hn, hk1, hk2, hmin, hc, ?_, ?_⟩
   ·rw [g2, e10, ext_take, bl_strOf (by simp)]
    rfl
   ·rw [g2, e10]
    rfl
   ·rw [g2, e10]
    simp
    omega
 ·rintro e w' ⟨⟨S, N, rfl, D, rfl, hq⟩, hb⟩
  exact ⟨D, N, rfl, hq, hb⟩
theorem yDigits_is {x : Nat} {D : List Nat} {N : Int} {w : World} (h0 : 0 < x) (hx : x < 9218868437227405312) (h : SQ x D N) :
  Ct 42 #[.float .f64 x] (.tuple #[.string (strOf D), .int .i64 N]) w := by
 refine (yDigits_any h0 hx).mono ?_
 rintro e w' ⟨L, p, rfl, hq, hb⟩
 obtain ⟨rfl, rfl⟩ := h.one hq
 exact ⟨rfl, hb⟩

end Go.Proofs.YtfcpkdafkmohkaaGreatDoor
namespace Go.Proofs.YtfcpkdafkmohkaaGreatDoor
open Go.RowKit
def rhu (u v : Nat) : Nat := u / v + (if v ≤ 2 * (u % v) then 1 else 0)
def rhN (x : Nat) (p : Int) : Nat := rhu (vU x p) (vV p)
theorem rhu_cross {a b c d : Nat} (hb : 0 < b) (hd : 0 < d) (h : a * d = c * b) : rhu a b = rhu c d := by
 obtain ⟨q1, q2, q3⟩ := quot_cross hb hd h
 unfold rhu
 rw [q1]
 congr 1
 by_cases k : b ≤ 2 * (a % b)
 ·rw [if_pos k, if_pos (by omega)]
 ·rw [if_neg k, if_neg (by omega)]
theorem nshr1 {w : World} {A : Option Addr} {n c a : Nat} (hA : NV w A n c a) (ha : bln a ≤ 30000) :
  Cp 125 #[.slice A n c, .int .i64 1] w fun e w' => ∃ A2 n2 c2 b, e = .returned (.tuple #[.slice A2 n2 c2, .bool b]) ∧ NV w' A2 n2 c2 (a / 2) ∧ Below w.heap.size w w' := by
 have h1 := small_len ha
 rw [hA.len] at h1
 have key : Cp 125 #[.slice A n c, .int .i64 ((1 : Nat) : Int)] w (ShrQ (val (wds a)) 1 w) := by
  by_cases hf : btl (nrm (wds a)) ≤ 1
  ·exact pshr_far A n c 1 (wds a) w hA.len hA.cap (by omega) hA.row (by omega) hf
  ·exact pshr_mid A n c 1 0 1 (wds a) w hA.len hA.cap (by omega) hA.row (by omega) (by omega) (by omega) (by omega)
 rw [wds_val] at key
 refine key.mono ?_
 rintro e w' ⟨A2, n2, c2, rfl, g1, g2, g3, g4⟩
 rw [Nat.pow_one] at g1 g3
 exact ⟨A2, n2, c2, _, rfl, ⟨g1.symm, g2, g3⟩, g4⟩
theorem ntext {A : Option Addr} {n c v : Nat} {w : World} (hA : NV w A n c v) (hv : bln v ≤ 20000) : Ct 111 #[.slice A n c, .int .i64 10] (.tuple #[.string (strOf (dL v)), .int .i64 0]) w := by
 have h1 := small_len (v := v) (by omega)
 have C := text_any A n c 10 (wds v) w hA.len hA.cap (by have := hA.len; omega) hA.row
 rw [wds_val] at C
 refine C.mono ?_
 rintro e w' ⟨t, k, rfl, ht, hb⟩
 have hbad : ¬ badR 10 := by unfold badR; omega
 rcases ht with ⟨h, _⟩ | ⟨_, h, _⟩ | ⟨_, _, h, rfl⟩
 ·exact absurd h hbad
 ·rw [lng_bln (by omega)] at h
  cases h
 ·rw [text_str h]
  exact ⟨rfl, hb⟩
set_option maxRecDepth 100000 in
set_option maxHeartbeats 1000000 in
theorem tnear_walk {A : Option Addr} {n c m h : Nat} {two two1 ten : Int} {S : ByteArray} {w : World} (hA : NV w A n c m) (k1 : IntKind.i64.wrap (two + 1) = two1)
  (C1 : Hid (∀ W, NV W A n c m → Cp 123 #[.slice A n c, .int .i64 two1, .int .i64 ten] W fun e w' => ∃ A3 n3 c3 b, e = .returned (.tuple #[.slice A3 n3 c3, .bool b]) ∧ NV w' A3 n3 c3 h ∧ Below W.heap.size W w'))
  (C3 : Hid (∀ W A n c C m d, NV W A n c h → NV W C m d 1 → Cp 124 #[.slice A n c, .slice C m d] W (NOk (h + 1) W)))
  (C4 : Hid (∀ W A n c, NV W A n c (h + 1) → Cp 125 #[.slice A n c, .int .i64 1] W fun e w' => ∃ A2 n2 c2 b, e = .returned (.tuple #[.slice A2 n2 c2, .bool b]) ∧ NV w' A2 n2 c2 ((h + 1) / 2) ∧ Below W.heap.size W w'))
  (C5 : Hid (∀ W A n c, NV W A n c ((h + 1) / 2) → Ct 111 #[.slice A n c, .int .i64 10] (.tuple #[.string S, .int .i64 0]) W)) :
  Ct 56 #[.slice A n c, .int .i64 two, .int .i64 ten] (.string S) w := by
 have C2 := Lib.hid (fun W => nof 1 (by omega) W)
 have HA := Lib.hid hA
 clear hA
 go_enter Tryz.func56, Tryz.ntmps56
 go_wp2_with fail
 refine (C1.out _ HA.out).mono ?_
 rintro e w1 ⟨A1, n1, c1, b, rfl, g1, b1⟩
 have G1 := Lib.hid g1
 have B1 := Lib.hid b1
 clear g1 b1
 go_wp2_with fail
 refine (C2.out _).mono ?_
 rintro e w2 ⟨A2, n2, c2, rfl, g2, b2⟩
 have G2 := Lib.hid g2
 have G1 := Lib.hid (G1.out.step b2)
 have B2 := Lib.hid (below_le B1.out b2)
 clear g2 b2
 go_wp2_with fail
 refine (C3.out _ _ _ _ _ _ _ G1.out G2.out).mono ?_
 rintro e w3 ⟨A3, n3, c3, rfl, g3, b3⟩
 have G3 := Lib.hid g3
 have B3 := Lib.hid (below_le B2.out b3)
 clear g3 b3
 go_wp2_with fail
 refine (C4.out _ _ _ _ G3.out).mono ?_
 rintro e w4 ⟨A4, n4, c4, b4', rfl, g4, b4⟩
 have G4 := Lib.hid g4
 have B4 := Lib.hid (below_le B3.out b4)
 clear g4 b4
 go_wp2_with fail
 refine (C5.out _ _ _ _ G4.out).mono ?_
 rintro e w5 ⟨rfl, b5⟩
 have B5 := Lib.hid (below_le B4.out b5)
 clear b5
 go_wp2
 go_ret
 exact ⟨rfl, B5.out⟩
theorem near_val {x m : Nat} {two : Int} (h : PartG x m two) (ten : Int) : (scA m (two + 1) ten / scB (two + 1) ten + 1) / 2 = rhN x ten := by
 have key : scA m (two + 1) ten * vV ten = 2 * vU x ten * scB (two + 1) ten := by
  rcases h with ⟨rfl, rfl, rfl⟩ | ⟨_, h⟩
  ·unfold scA vU
   rw [fmag_zero]
   simp
  ·obtain ⟨K, hK, hb⟩ := big_K
   obtain ⟨t, ht, hm⟩ := h.mag hK
   have hx : m * 2 ^ (t + 1) = 2 * fmag x * 2 ^ 0 := by
    rw [hm, Nat.pow_succ, Nat.pow_zero]
    grind
   have hc := sc_cross (M := K) (two := two + 1) (ten := ten) (x := t + 1) (y := 0) (by omega) hx
   unfold vV vU
   rw [hb, hc]
   grind
 have e := (quot_cross (scB_pos _ _) (vV_pos ten) key).1
 rw [e, half_up (vV_pos ten)]
 rfl
theorem scA_bln {x m : Nat} {two ten : Int} (h : PartG x m two) (h1 : -1000 ≤ ten) (h2 : ten ≤ 1000) : bln (scA m (two + 1) ten / scB (two + 1) ten) ≤ 8000 := by
 obtain ⟨b1, b2, b3⟩ := h.bd
 refine Nat.le_trans (bln_mono (Nat.div_le_self _ _)) ?_
 unfold scA
 have e1 := bln_mul (m * 5 ^ ten.toNat) (2 ^ (two + 1 + ten).toNat)
 have e2 := bln_mul m (5 ^ ten.toNat)
 have e3 := bln_five ten.toNat
 have e4 := bln_pow2 (two + 1 + ten).toNat
 omega
theorem bln_half {a : Nat} : bln (a / 2) ≤ bln a := bln_mono (Nat.div_le_self _ _)
theorem tnear_any {A : Option Addr} {n c x m : Nat} {two ten : Int} {w : World} (hA : NV w A n c m) (hp : PartG x m two) (h1 : -1000 ≤ ten) (h2 : ten ≤ 1000) :
  Ct 56 #[.slice A n c, .int .i64 two, .int .i64 ten] (.string (strOf (dL (rhN x ten)))) w := by
 obtain ⟨b1, b2, b3⟩ := hp.bd
 have hv := near_val hp ten
 have hb := scA_bln hp h1 h2
 have hC : Hid (∀ W, NV W A n c m → Cp 123 #[.slice A n c, .int .i64 (two + 1), .int .i64 ten] W fun e w' => ∃ A3 n3 c3 b, e = .returned (.tuple #[.slice A3 n3 c3, .bool b]) ∧ NV w' A3 n3 c3 (scA m (two + 1) ten / scB (two + 1) ten) ∧ Below W.heap.size W w') := Lib.hid (fun W g => (tscaled_any (two + 1) ten g (by omega) h1 h2 (by omega) (by omega)).mono (by
  rintro e w' ⟨A3, n3, c3, rfl, hv, hb⟩
  exact ⟨A3, n3, c3, _, rfl, hv, hb⟩))
 obtain ⟨h, hh⟩ : ∃ h, scA m (two + 1) ten / scB (two + 1) ten = h := ⟨_, rfl⟩
 rw [hh] at hv hb hC
 have hs := bln_succ h
 rw [← hv]
 exact tnear_walk hA (IntWalk.i64_in _ (by omega)) hC (Lib.hid fun W A n c C m d g1 g2 => nadd g1 g2 (by omega)) (Lib.hid fun W A n c g => nshr1 g (by omega)) (Lib.hid fun W A n c g => ntext g (by have := bln_half (a := h + 1); omega))
end Go.Proofs.YtfcpkdafkmohkaaGreatDoor
