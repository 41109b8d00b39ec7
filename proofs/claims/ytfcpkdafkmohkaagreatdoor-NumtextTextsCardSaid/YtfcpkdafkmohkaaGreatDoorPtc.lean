/-
  Merged texts (BF, BD, Dp, Dq, BE, Dc, De, Dh).
-/
import Derived.Test.YtfcpkdafkmohkaaGreatDoorPtb
import Derived.Shelf.Strings.SlTrimAscii
import Derived.Shelf.Strings.Builder1
import Derived.Shelf.Strings.Builder2
import Derived.Shelf.Strings.OnBuilder
import Derived.Shelf.Strings.Trim
import Derived.Shelf.Small.Utf8
import Derived.Shelf.Small.Bits
import Derived.Shelf.Small.Strs
import Derived.Shelf.Small.Wraps
import Derived.Shelf.Strings.BuilderF
import Derived.Shelf.Strings.BuilderK
import Derived.Shelf.Strconv.Itoa0
import Derived.Shelf.Strconv.Itoa1
import Derived.Shelf.LaysM
import Derived.Shelf.Strconv.Itoa2
import Derived.Shelf.Strconv.Itoa3
import Derived.Shelf.Strings.Search1
import Derived.Shelf.Strings.Prefix
import Derived.Shelf.Unicode.Latin
import Derived.Shelf.Strings.Runes
import Derived.Shelf.Strings.AsciiSet
import Derived.Shelf.Bits.Mul64
import Derived.Shelf.Strings.Repeat
import Derived.Shelf.Unicode.DecodeSlow
import Derived.Shelf.Unicode.CaseLookup
import Derived.Shelf.Unicode.CaseConvert
import Derived.Shelf.Unicode.CaseTo
import Derived.Shelf.Unicode.CaseLaid
import Derived.Test.YtfcpkdafkmohkaaGreatDoorProg
import GoSem.Core.Utf8
import Derived.WalkKit
import Derived.WalkSpells
import Derived.WalkLawsBesides
import Derived.Deep.QuietTactic
import Derived.BigQuiet
import Derived.Lib.Hide
import Derived.Deep.OwnRows
import Derived.Laws.CopyOwn
import Derived.Deep.AppendLies
import Derived.Lib.BitFns
import Derived.Lib.Strings
import Derived.Laws.BitsAllLaws
import Derived.Lib.LaidTab
import Derived.ProofKit
import Derived.OpenShut
import Derived.SizedLaws
import Derived.Laws.BytesString
import Derived.Laws.Cells
import Derived.Deep.RegionWith
import Derived.BigRegion
import Derived.Test.YtfcpkdafkmohkaaGreatDoorRows
import Derived.Lib.ItoaNum
import Derived.Deep.DeepCutAuto
import Ieee.Arith
import GoSem.Core.Float
import Derived.Laws.FloatArith
import Derived.Laws.Externs
import Derived.Deep.RegionHeld3
import Derived.Laws.Closers25b
import Derived.Lib.SlTrimSet
import Derived.Lib.Case
namespace Go.Proofs.YtfcpkdafkmohkaaGreatDoor
open Go.RowKit
def fnan (x : Nat) : Bool := decide (9218868437227405312 < rung x)
def finf (x : Nat) : Bool := decide (rung x = 9218868437227405312)
theorem ord_self (x : Nat) : (FloatKind.f64.format.order x x != some .eq) = fnan x := by
 unfold fnan
 show (Ieee.double.order x x != some .eq) = _
 by_cases h : 9218868437227405312 < rung x
 ·rw [order_nan (.inl h), decide_eq_true h]; rfl
 ·rw [order_eq (by omega) (by omega), decide_eq_false h]
  have : compare (frank x) (frank x) = .eq := by simp [compare, compareOfLessAndEq]
  rw [this]; rfl
theorem cmp_lt (a b : Int) : (some (compare a b) == some Ordering.lt) = decide (a < b) := by
 simp only [compare, compareOfLessAndEq]
 by_cases h : a < b
 ·simp [h]
 ·by_cases h2 : a = b
  ·simp [h2]
  ·simp [h, h2]
theorem cmp_gt (a b : Int) : (some (compare a b) == some Ordering.gt) = decide (b < a) := by
 simp only [compare, compareOfLessAndEq]
 by_cases h : a < b
 ·simp [h]; omega
 ·by_cases h2 : a = b
  ·simp [h2]
  ·simp [h, h2]; omega
theorem cmp_eq (a b : Int) : (some (compare a b) == some Ordering.eq) = decide (a = b) := by
 simp only [compare, compareOfLessAndEq]
 by_cases h : a < b
 ·simp [h]; omega
 ·by_cases h2 : a = b
  ·simp [h2]
  ·simp [h, h2]
theorem ord_below (x : Nat) : (FloatKind.f64.format.order x 0 == some .lt) = (!fnan x && (fneg x && decide (0 < rung x))) := by
 show (Ieee.double.order x 0 == some .lt) = _
 unfold fnan
 by_cases h : 9218868437227405312 < rung x
 ·rw [order_nan (.inl h), decide_eq_true h]; rfl
 ·rw [order_eq (by omega) (by decide), decide_eq_false h, cmp_lt]
  have e : frank 0 = 0 := by decide
  rw [e]
  unfold frank
  cases fneg x <;> simp <;> omega
theorem ord_zero (x : Nat) : (FloatKind.f64.format.order x 0 == some .eq) = decide (rung x = 0) := by
 show (Ieee.double.order x 0 == some .eq) = _
 by_cases h : 9218868437227405312 < rung x
 ·rw [order_nan (.inl h)]
  have : ¬ rung x = 0 := by omega
  rw [decide_eq_false this]; rfl
 ·rw [order_eq (by omega) (by decide), cmp_eq]
  have e : frank 0 = 0 := by decide
  rw [e]
  unfold frank
  cases fneg x <;> simp
theorem ord_most (x : Nat) : (FloatKind.f64.format.order x 9218868437227405311 == some .gt) = (finf x && !fneg x) := by
 show (Ieee.double.order x 9218868437227405311 == some .gt) = _
 unfold finf
 by_cases h : 9218868437227405312 < rung x
 ·rw [order_nan (.inl h)]
  have : ¬ rung x = 9218868437227405312 := by omega
  rw [decide_eq_false this]; rfl
 ·rw [order_eq (by omega) (by decide), cmp_gt]
  have e : frank 9218868437227405311 = 9218868437227405311 := by decide
  rw [e]
  unfold frank
  cases fneg x
  ·simp; omega
  ·simp
theorem isNaN_any (x : Nat) (w : World) : Cq 34 #[.float .f64 x] (.bool (fnan x)) w := by
 have h := ord_self x
 go_enter Tryz.func34, Tryz.ntmps34
 go_wp2
 go_ret
 exact ⟨by rw [← h]; rfl, rfl⟩
theorem isInf1_any (x : Nat) (w : World) : Cq 36 #[.float .f64 x, .int .i64 1] (.bool (finf x && !fneg x)) w := by
 have h := ord_most x
 go_enter Tryz.func36, Tryz.ntmps36
 go_wp2
 go_ret
 exact ⟨by rw [← h]; rfl, rfl⟩
theorem not_sign (x : Nat) (hx : x < 18446744073709551616) : bits BinOp.andNot IntKind.u64 (x : Int) 9223372036854775808 = ((rung x : Nat) : Int) := by
 show IntKind.u64.wrap ((BitVec.ofInt 64 (x : Int) &&& ~~~ BitVec.ofInt 64 9223372036854775808).toNat : Int) = _
 have e1 : (BitVec.ofInt 64 (x : Int)) = BitVec.ofNat 64 x := by rw [BitVec.ofInt_natCast]
 have e2 : (~~~ BitVec.ofInt 64 9223372036854775808) = BitVec.ofNat 64 (2 ^ 63 - 1) := by decide
 rw [e1, e2, BitVec.toNat_and, BitVec.toNat_ofNat, BitVec.toNat_ofNat, Nat.mod_eq_of_lt (by omega : x < 2 ^ 64), Nat.mod_eq_of_lt (by omega : 2 ^ 63 - 1 < 2 ^ 64), Nat.and_two_pow_sub_one_eq_mod, IntKind.wrap_u64]
 unfold rung
 omega
theorem f64bits_run (x : Nat) (w : World) : (callFunc 74 #[.float .f64 x]).run Tryz.prog w = .ok (.value (.int .u64 x)) w := by
 rw [run_callFunc_extern (e := Extern.MathFloatBits.float64bits) Tryz.func74 (by kernel_rfl) (by kernel_rfl) (by kernel_rfl) (by kernel_rfl)]
 rfl
theorem f64from_run (x : Nat) (w : World) : (callFunc 120 #[.int .u64 x]).run Tryz.prog w = .ok (.value (.float .f64 x)) w := by
 rw [run_callFunc_extern (e := Extern.MathFloatBits.float64frombits) Tryz.func120 (by kernel_rfl) (by kernel_rfl) (by kernel_rfl) (by kernel_rfl)]
 rfl
theorem abs_any (x : Nat) (w : World) (hx : x < 18446744073709551616) : Cq 52 #[.float .f64 x] (.float .f64 (rung x)) w := by
 have h := not_sign x hx
 have h1 := f64bits_run x w
 have h2 := f64from_run (rung x) w
 clear hx
 go_enter Tryz.func52, Tryz.ntmps52
 go_wp2
 go_ret
 exact ⟨by rfl, rfl⟩
theorem rung_rung (x : Nat) : rung (rung x) = rung x ∧ fneg (rung x) = false := by
 unfold rung fneg
 refine ⟨by omega, ?_⟩
 rw [Nat.div_eq_of_lt (Nat.mod_lt _ (by omega))]; rfl
theorem isInf0_any (x : Nat) (w : World) (hx : x < 18446744073709551616) : Cq 36 #[.float .f64 x, .int .i64 0] (.bool (finf x)) w := by
 have h := ord_most (rung x)
 have h2 : (finf (rung x) && !fneg (rung x)) = finf x := by
  unfold finf
  rw [(rung_rung x).1, (rung_rung x).2]; simp
 rw [h2] at h
 have C1 := Lib.hid (fun W => abs_any x W hx)
 clear hx h2
 go_enter Tryz.func36, Tryz.ntmps36
 go_wp2_with fail
 refine (C1.out _).mono ?_
 rintro e w' ⟨rfl, rfl⟩
 go_wp2
 go_ret
 exact ⟨by rw [← h]; rfl, rfl⟩

end Go.Proofs.YtfcpkdafkmohkaaGreatDoor
namespace Go.Proofs.YtfcpkdafkmohkaaGreatDoor
open Go.RowKit
def fwhole (x : Nat) : Nat := if x / 4503599627370496 = 0 then x % 4503599627370496 else x % 4503599627370496 + 4503599627370496
def fpow (x : Nat) : Int := if x / 4503599627370496 = 0 then -1074 else ((x / 4503599627370496 : Nat) : Int) - 1075
def fbad (x : Nat) : Bool := fnan x || finf x || (fneg x && decide (0 < rung x))
theorem odd_part : ∀ n : Nat, 0 < n → ∃ k m, n = 2 ^ (k + 1) * m + 2 ^ k := by
 intro n
 induction n using Nat.strongRecOn with
 | _ n ih =>
  intro h
  by_cases h2 : n % 2 = 1
  ·exact ⟨0, n / 2, by simp; omega⟩
  ·obtain ⟨k, m, e⟩ := ih (n / 2) (by omega) (by omega)
   refine ⟨k + 1, m, ?_⟩
   rw [Nat.pow_succ 2 (k + 1), Nat.pow_succ 2 k]
   rw [Nat.pow_succ 2 k] at e
   have : n = 2 * (n / 2) := by omega
   rw [this, e]
   grind
theorem odd_one {k m j l : Nat} {n : Nat} (h : n = 2 ^ (k + 1) * m + 2 ^ k) (g : n = 2 ^ (j + 1) * l + 2 ^ j) (hn : n < 2 ^ 64) : k = j ∧ m = l := by
 have h1 := low_bit h hn
 have h2 := low_bit g hn
 rw [h1] at h2
 have h3 : k = j := by
  rcases Nat.lt_trichotomy k j with h4 | h4 | h4
  ·have := Nat.pow_lt_pow_right (a := 2) (by omega) h4; omega
  ·exact h4
  ·have := Nat.pow_lt_pow_right (a := 2) (by omega) h4; omega
 subst h3
 refine ⟨rfl, ?_⟩
 rw [h] at g
 have h4 := Nat.add_right_cancel g
 exact Nat.eq_of_mul_eq_mul_left (Nat.two_pow_pos _) h4
theorem and_mask (x : Nat) (hx : x < 18446744073709551616) : bits BinOp.and IntKind.u64 (x : Int) 4503599627370495 = ((x % 4503599627370496 : Nat) : Int) := by
 show IntKind.u64.wrap ((BitVec.ofInt 64 (x : Int) &&& BitVec.ofInt 64 4503599627370495).toNat : Int) = _
 have e1 : (BitVec.ofInt 64 (x : Int)) = BitVec.ofNat 64 x := by rw [BitVec.ofInt_natCast]
 have e2 : (BitVec.ofInt 64 4503599627370495) = BitVec.ofNat 64 (2 ^ 52 - 1) := by decide
 rw [e1, e2, BitVec.toNat_and, BitVec.toNat_ofNat, BitVec.toNat_ofNat, Nat.mod_eq_of_lt (by omega : x < 2 ^ 64), Nat.mod_eq_of_lt (by omega : 2 ^ 52 - 1 < 2 ^ 64), Nat.and_two_pow_sub_one_eq_mod, IntKind.wrap_u64]
 omega
theorem or_hidden (t : Nat) (ht : t < 4503599627370496) : bits BinOp.or IntKind.u64 (t : Int) 4503599627370496 = ((t + 4503599627370496 : Nat) : Int) := by
 rw [show (4503599627370496 : Int) = ((4503599627370496 : Nat) : Int) from rfl, or_u64 t 4503599627370496 (by omega) (by omega)]
 have := Nat.two_pow_add_eq_or_of_lt (i := 52) (b := t) ht 1
 rw [Nat.or_comm, show (4503599627370496 : Nat) = 2 ^ 52 * 1 from rfl, ← this, Nat.add_comm]
set_option maxHeartbeats 1000000 in
theorem split_any (x : Nat) (w : World) (hx : x < 9218868437227405312) : Cq 121 #[.float .f64 x] (.tuple #[.int .u64 (fwhole x : Nat), .int .i64 (fpow x)]) w := by
 have h1 := f64bits_run x w
 have h2 := and_mask x (by omega)
 have h3 := or_hidden (x % 4503599627370496) (Nat.mod_lt _ (by omega))
 unfold fwhole fpow
 obtain ⟨q, hq⟩ : ∃ q, x / 4503599627370496 = q := ⟨_, rfl⟩
 obtain ⟨t, ht⟩ : ∃ t, x % 4503599627370496 = t := ⟨_, rfl⟩
 rw [ht] at h2 h3
 rw [hq, ht]
 have k1 : (x : Int) / 4503599627370496 = (q : Int) := by omega
 have k2 : IntKind.i64.wrap (q : Int) = (q : Int) := IntWalk.i64_in _ (by omega)
 have k3 : IntKind.i64.wrap (-1074 + (q : Int)) = -1074 + (q : Int) := IntWalk.i64_in _ (by omega)
 have k4 : IntKind.i64.wrap (-1074 + (q : Int) - 1) = (q : Int) - 1075 := by rw [IntWalk.i64_in _ (by omega)]; omega
 by_cases h0 : q = 0
 ·rw [if_pos h0, if_pos h0]
  have b0 : ((q : Int) == 0) = true := by rw [h0]; rfl
  clear hx hq ht h0
  go_enter Tryz.func121, Tryz.ntmps121
  go_wp2
  go_ret2
  exact ⟨rfl, rfl⟩
 ·rw [if_neg h0, if_neg h0]
  have b0 : ((q : Int) == 0) = false := by rw [beq_eq_false_iff_ne]; omega
  clear hx hq ht h0
  go_enter Tryz.func121, Tryz.ntmps121
  go_wp2
  go_ret2
  exact ⟨congrArg (fun z : Int => Ending.returned (.tuple #[.int .u64 ((t + 4503599627370496 : Nat) : Int), .int .i64 z])) (by first | exact k4 | omega), rfl⟩
theorem results_three {fn : Func} {t u v : Tmp} (h : fn.results = #[.tmp t, .tmp u, .tmp v]) (tmps : Array Value) (P : Program) (w : World) :
  (results fn tmps).run P w = .ok (.tuple #[tmps.getD t undef, tmps.getD u undef, tmps.getD v undef]) w := by
 simp [results, h]
def PartsP (x : Nat) (w : World) (e : Ending) (w' : World) : Prop :=
 ∃ k m A n c, fwhole x = 2 ^ (k + 1) * m + 2 ^ k ∧ e = .returned (.tuple #[.slice A n c, .int .i64 (fpow x + (k : Nat)), .int .i64 0]) ∧ (n = (wds (2 * m + 1)).length ∧ n ≤ c ∧ RW w' w'.heap.size A (wds (2 * m + 1))) ∧ Below w.heap.size w w'
theorem two_wds' (n : Nat) (h : n < 18446744073709551616) : nrm (two n) = wds n := by rw [nrm_wds (two_ws h), two_val]
theorem fgood {x : Nat} (hx : x < 18446744073709551616) (hb : fbad x = false) : fnan x = false ∧ finf x = false ∧ (rung x = 0 ∨ (0 < rung x ∧ rung x = x ∧ x < 9218868437227405312 ∧ fneg x = false)) := by
 unfold fbad at hb
 have h1 : fnan x = false := by cases e : fnan x <;> rw [e] at hb <;> first | rfl | simp at hb
 have h2 : finf x = false := by cases e : finf x <;> rw [e] at hb <;> first | rfl | simp at hb
 refine ⟨h1, h2, ?_⟩
 rw [h1, h2] at hb
 have h3 := of_decide_eq_false h1
 have h4 := of_decide_eq_false h2
 rcases Nat.eq_zero_or_pos (rung x) with h0 | h0
 ·exact .inl h0
 ·right
  have h5 : fneg x = false := by cases e : fneg x <;> rw [e] at hb <;> first | rfl | (simp at hb; omega)
  have h6 : rung x = x := by
   unfold fneg at h5
   unfold rung
   rw [beq_eq_false_iff_ne] at h5
   omega
  exact ⟨h0, h6, by omega, h5⟩
set_option maxHeartbeats 1000000 in
theorem rparts_zero (x : Nat) (w : World) (hx : x < 18446744073709551616) (hb : fbad x = false) (h0 : rung x = 0) : Cq 114 #[.float .f64 x] (.tuple #[.slice none 0 0, .int .i64 0, .int .i64 0]) w := by
 obtain ⟨g1, g2, _⟩ := fgood hx hb
 have C1 := Lib.hid (fun W => isNaN_any x W)
 have C2 := Lib.hid (fun W => isInf0_any x W hx)
 have h1 := ord_below x
 have h2 := ord_zero x
 rw [g1, h0] at h1
 rw [h0] at h2
 rw [g1] at C1
 rw [g2] at C2
 simp only [Bool.not_false, Nat.lt_irrefl, decide_false, Bool.and_false] at h1
 simp only [decide_true] at h2
 clear hx hb h0 g1 g2
 go_enter Tryz.func114, Tryz.ntmps114
 go_wp2_with fail
 refine (C1.out _).mono ?_
 rintro e w' ⟨rfl, rfl⟩
 go_wp2_with fail
 refine (C2.out _).mono ?_
 rintro e w' ⟨rfl, rfl⟩
 go_wp2
 refine bodyPost_ret (results_three rfl _ _ _) rfl ?_
 exact ⟨rfl, rfl⟩
theorem fwhole_pos {x : Nat} (h0 : 0 < x) : 0 < fwhole x ∧ fwhole x < 9007199254740992 := by
 unfold fwhole
 split <;> omega
set_option maxRecDepth 100000 in
set_option maxHeartbeats 1000000 in
theorem pparts_ok (x : Nat) (w : World) (hx : x < 18446744073709551616) (hb : fbad x = false) (h0 : 0 < rung x) (ht : TzTab w) : Cp 54 #[.float .f64 x] w (PartsP x w) := by
 obtain ⟨g1, g2, g3⟩ := fgood hx hb
 obtain ⟨_, g4, g5, g6⟩ := g3.resolve_left (by omega)
 rw [g4] at h0
 obtain ⟨f1, f2⟩ := fwhole_pos h0
 obtain ⟨k, m, hkm⟩ := odd_part _ f1
 have C1 := Lib.hid (fun W => isNaN_any x W)
 have C2 := Lib.hid (fun W => isInf1_any x W)
 have h1 := ord_below x
 have h2 := ord_zero x
 rw [g1, g6] at h1
 rw [decide_eq_false (show ¬ rung x = 0 by omega)] at h2
 rw [g1] at C1
 rw [g2] at C2
 simp only [Bool.not_false, Bool.true_and, Bool.false_and] at h1
 simp only [Bool.false_and] at C2
 have C3 := Lib.hid (split_any x w g5)
 have C4 := Lib.hid (tz_any (fwhole x) k m w hkm (by omega) ht)
 have hk64 : k < 53 := by
  have : 2 ^ k < 2 ^ 53 := by
   have h9 : 2 ^ k ≤ fwhole x := by rw [hkm]; exact Nat.le_add_left _ _
   exact Nat.lt_of_le_of_lt h9 f2
  exact (Nat.pow_lt_pow_iff_right (a := 2) (by omega)).1 this
 have hodd : fwhole x / 2 ^ k = 2 * m + 1 := by
  rw [hkm, Nat.pow_succ, show 2 ^ k * 2 * m + 2 ^ k = 2 ^ k * (2 * m + 1) by grind, Nat.mul_div_cancel_left _ (Nat.two_pow_pos k)]
 have hml : 2 * m + 1 < 18446744073709551616 := by
  rw [← hodd]
  exact Nat.lt_of_le_of_lt (Nat.div_le_self _ _) (by omega)
 have k1 : ((fwhole x : Int) / 2 ^ k) = ((2 * m + 1 : Nat) : Int) := by rw [← hodd, Int.natCast_ediv, Int.natCast_pow]; rfl
 have C5 := Lib.hid (fun W => (of_any (2 * m + 1) hml W).mono fun _ _ y => y.told (n := (wds (2 * m + 1)).length) (by rw [two_wds' _ hml]))
 rw [two_wds' _ hml] at C5
 have hp1 : -1074 ≤ fpow x ∧ fpow x ≤ 971 := by unfold fpow; split <;> omega
 have k2 : IntKind.i64.wrap (fpow x + (k : Nat)) = fpow x + (k : Nat) := IntWalk.i64_in _ (by omega)
 have HKM := Lib.hid hkm
 obtain ⟨W0, hW0⟩ : ∃ v, fwhole x = v := ⟨_, rfl⟩
 obtain ⟨p, hp⟩ : ∃ p, fpow x = p := ⟨_, rfl⟩
 have HP := Lib.hid hp
 obtain ⟨o, ho⟩ : ∃ o, 2 * m + 1 = o := ⟨_, rfl⟩
 have HO := Lib.hid ho
 rw [hW0] at C3 C4 k1
 rw [hp] at C3 k2
 rw [ho] at C5 k1
 have hk1 : (k : Int) < 53 := by omega
 have hk0 : (0 : Int) ≤ (k : Int) := by omega
 clear hx hb h0 ht g1 g2 g3 g4 g5 g6 f1 f2 hkm hodd hml hp1 hW0 hp ho hk64
 go_enter Tryz.func54, Tryz.ntmps54
 go_wp2_with fail
 refine (C1.out _).mono ?_
 rintro e w' ⟨rfl, rfl⟩
 go_wp2_with fail
 refine (C2.out _).mono ?_
 rintro e w' ⟨rfl, rfl⟩
 go_wp2_with fail
 refine C3.out.mono ?_
 rintro e w' ⟨rfl, rfl⟩
 go_wp2_with fail
 refine C4.out.mono ?_
 rintro e w' ⟨rfl, rfl⟩
 go_wp2_with fail
 refine (C5.out _).mono ?_
 rintro e w2 ⟨A2, c2, rfl, ⟨hc2, r2⟩, b2⟩
 have HF := Lib.hid (show PartsP x w (.returned (.tuple #[.slice A2 (wds o).length c2, .int .i64 (p + (k : Nat)), .int .i64 0])) w2 from
  ⟨k, m, A2, _, c2, HKM.out, by rw [HP.out], ⟨by rw [HO.out], hc2, by rw [HO.out]; exact r2⟩, b2⟩)
 clear hc2 r2 b2 C5
 go_wp2
 refine bodyPost_ret (results_three rfl _ _ _) rfl ?_
 exact HF.out
theorem and_one64 (x : Nat) (hx : x < 18446744073709551616) : bits BinOp.and IntKind.u64 (x : Int) 1 = ((x % 2 : Nat) : Int) := by
 show IntKind.u64.wrap ((BitVec.ofInt 64 (x : Int) &&& BitVec.ofInt 64 1).toNat : Int) = _
 have e1 : (BitVec.ofInt 64 (x : Int)) = BitVec.ofNat 64 x := by rw [BitVec.ofInt_natCast]
 have e2 : (BitVec.ofInt 64 1) = BitVec.ofNat 64 (2 ^ 1 - 1) := by decide
 rw [e1, e2, BitVec.toNat_and, BitVec.toNat_ofNat, BitVec.toNat_ofNat, Nat.mod_eq_of_lt (by omega : x < 2 ^ 64), Nat.mod_eq_of_lt (by omega : 2 ^ 1 - 1 < 2 ^ 64), Nat.and_two_pow_sub_one_eq_mod, IntKind.wrap_u64]
 omega
def hlv (k m j : Nat) : Nat := 2 ^ (k - j + 1) * m + 2 ^ (k - j)
theorem hlv_next {k m j : Nat} (h : j < k) : hlv k m j % 2 = 0 ∧ hlv k m j / 2 = hlv k m (j + 1) := by
 obtain ⟨i, hi⟩ : ∃ i, k - j = i + 1 := ⟨k - j - 1, by omega⟩
 unfold hlv
 rw [hi, show k - (j + 1) = i by omega, Nat.pow_succ 2 (i + 1), Nat.pow_succ 2 i]
 have e : 2 ^ i * 2 * 2 * m + 2 ^ i * 2 = 2 * (2 ^ i * 2 * m + 2 ^ i) := by grind
 rw [e]
 omega
theorem hlv_last {k m : Nat} : hlv k m k % 2 = 1 ∧ hlv k m k = 2 * m + 1 := by
 unfold hlv
 rw [Nat.sub_self]
 omega
theorem hlv_le {k m j : Nat} (h : j ≤ k) : hlv k m j ≤ hlv k m 0 := by
 unfold hlv
 have h1 : 2 ^ (k - j) ≤ 2 ^ (k - 0) := Nat.pow_le_pow_right (by omega) (by omega)
 have h2 : 2 ^ (k - j + 1) ≤ 2 ^ (k - 0 + 1) := Nat.pow_le_pow_right (by omega) (by omega)
 exact Nat.add_le_add (Nat.mul_le_mul_right _ h2) h1
set_option maxRecDepth 100000 in
set_option maxHeartbeats 1000000 in
theorem rparts_ok (x : Nat) (w : World) (hx : x < 18446744073709551616) (hb : fbad x = false) (h0 : 0 < rung x) : Cp 114 #[.float .f64 x] w (PartsP x w) := by
 obtain ⟨g1, g2, g3⟩ := fgood hx hb
 obtain ⟨_, g4, g5, g6⟩ := g3.resolve_left (by omega)
 rw [g4] at h0
 obtain ⟨f1, f2⟩ := fwhole_pos h0
 obtain ⟨k, m, hkm⟩ := odd_part _ f1
 have C1 := Lib.hid (fun W => isNaN_any x W)
 have C2 := Lib.hid (fun W => isInf0_any x W hx)
 have h1 := ord_below x
 have h2 := ord_zero x
 rw [g1, g6] at h1
 rw [decide_eq_false (show ¬ rung x = 0 by omega)] at h2
 rw [g1] at C1
 rw [g2] at C2
 simp only [Bool.not_false, Bool.true_and, Bool.false_and] at h1
 have hk64 : k < 53 := by
  have : 2 ^ k < 2 ^ 53 := by
   have h9 : 2 ^ k ≤ fwhole x := by rw [hkm]; exact Nat.le_add_left _ _
   exact Nat.lt_of_le_of_lt h9 f2
  exact (Nat.pow_lt_pow_iff_right (a := 2) (by omega)).1 this
 have hh0 : hlv k m 0 = fwhole x := by unfold hlv; rw [Nat.sub_zero, hkm]
 have hml : 2 * m + 1 < 18446744073709551616 := by
  have h3 := hlv_le (m := m) (Nat.le_refl k)
  rw [hlv_last.2, hh0] at h3
  omega
 have C5 := Lib.hid (fun W => (rof_any (2 * m + 1) hml W).mono fun _ _ y => y.told (n := (wds (2 * m + 1)).length) (by rw [two_wds' _ hml]))
 rw [two_wds' _ hml] at C5
 have hp1 : -1074 ≤ fpow x ∧ fpow x ≤ 971 := by unfold fpow; split <;> omega
 have HKM := Lib.hid hkm
 have HLT := Lib.hid (fun j (hj : j ≤ k) => show hlv k m j < 9007199254740992 from by
  have h3 := hlv_le (m := m) hj
  rw [hh0] at h3
  omega)
 have hbits := f64bits_run x w
 have hand := and_mask x (by omega)
 have hor := or_hidden (x % 4503599627370496) (Nat.mod_lt _ (by omega))
 obtain ⟨o, ho⟩ : ∃ o, 2 * m + 1 = o := ⟨_, rfl⟩
 have HO := Lib.hid ho
 rw [ho] at C5
 obtain ⟨q, hq⟩ : ∃ q, x / 4503599627370496 = q := ⟨_, rfl⟩
 obtain ⟨t, ht⟩ : ∃ t, x % 4503599627370496 = t := ⟨_, rfl⟩
 rw [ht] at hand hor
 have hw0 : fwhole x = if q = 0 then t else t + 4503599627370496 := by unfold fwhole; rw [hq, ht]
 have hpw : fpow x = if q = 0 then -1074 else (q : Int) - 1075 := by unfold fpow; rw [hq]
 have k1 : (x : Int) / 4503599627370496 = (q : Int) := by omega
 have k2 : IntKind.i64.wrap (q : Int) = (q : Int) := IntWalk.i64_in _ (by omega)
 have k3 : IntKind.i64.wrap ((q : Int) - 1075) = (q : Int) - 1075 := IntWalk.i64_in _ (by omega)
 have hk1 : (k : Int) < 53 := by omega
 rw [← hh0] at hw0
 obtain ⟨p, hp⟩ : ∃ p, fpow x = p := ⟨_, rfl⟩
 have HP := Lib.hid hp
 rw [hp] at hpw hp1
 have HW0 := Lib.hid hw0
 have HPW := Lib.hid hpw
 clear hx hb h0 g1 g2 g3 g4 g5 g6 f1 f2 hkm hh0 hml ho hq ht hw0 hpw hp hk64
 by_cases hq0 : q = 0
 ·have b0 : ((q : Int) == 0) = true := by rw [hq0]; rfl
  have hw0 := HW0.out
  have hpw := HPW.out
  rw [if_pos hq0] at hw0 hpw
  have HA := Lib.hid hw0
  have HB := Lib.hid hpw
  clear hq0 hw0 hpw
  go_enter Tryz.func114, Tryz.ntmps114
  go_wp2_with fail
  refine (C1.out _).mono ?_
  rintro e w' ⟨rfl, rfl⟩
  go_wp2_with fail
  refine (C2.out _).mono ?_
  rintro e w' ⟨rfl, rfl⟩
  go_wp2
  go_loopw [6, 7] (fun mv ev wr => ∃ (j y : Nat), mv = .int .u64 (y : Nat) ∧ ev = .int .i64 (p + (j : Nat)) ∧ j ≤ k ∧ Hid (hlv k m j = y) ∧ w = wr) (fun _ ev _ => (p + k - intOf ev).toNat)
  case atStart => exact ⟨0, t, rfl, by rw [HB.out]; rfl, Nat.zero_le _, Lib.hid HA.out, rfl⟩
  case round =>
   obtain ⟨j, y, rfl, rfl, hj, HY, rfl⟩ := hrel
   have hy64 : y < 9007199254740992 := by rw [← HY.out]; exact HLT.out j hj
   have hone := and_one64 y (by omega)
   by_cases hjk : j < k
   ·obtain ⟨n1, n2⟩ := hlv_next (m := m) hjk
    rw [HY.out] at n1 n2
    rw [n1] at hone
    obtain ⟨z, hz⟩ : ∃ z, hlv k m (j + 1) = z := ⟨_, rfl⟩
    rw [hz] at n2
    have HZ := Lib.hid hz
    have k4 : (y : Int) / 2 = (z : Int) := by omega
    have k5 : IntKind.i64.wrap (p + (j : Nat) + 1) = p + ((j + 1 : Nat) : Int) := by rw [IntWalk.i64_in _ (by omega)]; omega
    have HJ := Lib.hid hjk
    have HP1 := Lib.hid hp1
    clear hy64 n1 n2 hz hj hjk C5
    go_wp2
    go_roundw
    case rel => exact ⟨j + 1, z, rfl, by go_num, HJ.out, HZ, trivial⟩
    case measure => have := HJ.out; simp [intOf]; omega
   ·have hjk2 : j = k := by omega
    subst hjk2
    obtain ⟨n1, n2⟩ := hlv_last (k := j) (m := m)
    rw [HY.out] at n1 n2
    rw [n1] at hone
    have hyo : y = o := by rw [n2]; exact HO.out
    subst hyo
    clear hy64 n1 n2 hj hjk hp1 hk1
    go_wp2_with fail
    refine (C5.out _).mono ?_
    rintro e w2 ⟨A2, c2, rfl, ⟨hc2, r2⟩, b2⟩
    have HF := Lib.hid (show PartsP x w (.returned (.tuple #[.slice A2 (wds y).length c2, .int .i64 (p + (j : Nat)), .int .i64 0])) w2 from
     ⟨j, m, A2, _, c2, HKM.out, by rw [HP.out], ⟨by rw [HO.out], hc2, by rw [HO.out]; exact r2⟩, b2⟩)
    clear hc2 r2 b2 C5
    go_wp2
    refine bodyPost_ret (results_three rfl _ _ _) rfl ?_
    exact HF.out
 ·have b0 : ((q : Int) == 0) = false := by rw [beq_eq_false_iff_ne]; omega
  have hw0 := HW0.out
  have hpw := HPW.out
  rw [if_neg hq0] at hw0 hpw
  have HA := Lib.hid hw0
  have HB := Lib.hid hpw
  clear hq0 hw0 hpw
  go_enter Tryz.func114, Tryz.ntmps114
  go_wp2_with fail
  refine (C1.out _).mono ?_
  rintro e w' ⟨rfl, rfl⟩
  go_wp2_with fail
  refine (C2.out _).mono ?_
  rintro e w' ⟨rfl, rfl⟩
  go_wp2
  go_loopw [6, 7] (fun mv ev wr => ∃ (j y : Nat), mv = .int .u64 (y : Nat) ∧ ev = .int .i64 (p + (j : Nat)) ∧ j ≤ k ∧ Hid (hlv k m j = y) ∧ w = wr) (fun _ ev _ => (p + k - intOf ev).toNat)
  case atStart => exact ⟨0, t + 4503599627370496, rfl, by rw [HB.out]; simp, Nat.zero_le _, Lib.hid HA.out, rfl⟩
  case round =>
   obtain ⟨j, y, rfl, rfl, hj, HY, rfl⟩ := hrel
   have hy64 : y < 9007199254740992 := by rw [← HY.out]; exact HLT.out j hj
   have hone := and_one64 y (by omega)
   by_cases hjk : j < k
   ·obtain ⟨n1, n2⟩ := hlv_next (m := m) hjk
    rw [HY.out] at n1 n2
    rw [n1] at hone
    obtain ⟨z, hz⟩ : ∃ z, hlv k m (j + 1) = z := ⟨_, rfl⟩
    rw [hz] at n2
    have HZ := Lib.hid hz
    have k4 : (y : Int) / 2 = (z : Int) := by omega
    have k5 : IntKind.i64.wrap (p + (j : Nat) + 1) = p + ((j + 1 : Nat) : Int) := by rw [IntWalk.i64_in _ (by omega)]; omega
    have HJ := Lib.hid hjk
    have HP1 := Lib.hid hp1
    clear hy64 n1 n2 hz hj hjk C5
    go_wp2
    go_roundw
    case rel => exact ⟨j + 1, z, rfl, by go_num, HJ.out, HZ, trivial⟩
    case measure => have := HJ.out; simp [intOf]; omega
   ·have hjk2 : j = k := by omega
    subst hjk2
    obtain ⟨n1, n2⟩ := hlv_last (k := j) (m := m)
    rw [HY.out] at n1 n2
    rw [n1] at hone
    have hyo : y = o := by rw [n2]; exact HO.out
    subst hyo
    clear hy64 n1 n2 hj hjk hp1 hk1
    go_wp2_with fail
    refine (C5.out _).mono ?_
    rintro e w2 ⟨A2, c2, rfl, ⟨hc2, r2⟩, b2⟩
    have HF := Lib.hid (show PartsP x w (.returned (.tuple #[.slice A2 (wds y).length c2, .int .i64 (p + (j : Nat)), .int .i64 0])) w2 from
     ⟨j, m, A2, _, c2, HKM.out, by rw [HP.out], ⟨by rw [HO.out], hc2, by rw [HO.out]; exact r2⟩, b2⟩)
    clear hc2 r2 b2 C5
    go_wp2
    refine bodyPost_ret (results_three rfl _ _ _) rfl ?_
    exact HF.out

end Go.Proofs.YtfcpkdafkmohkaaGreatDoor
namespace Go.Proofs.YtfcpkdafkmohkaaGreatDoor
def stk (N b : Nat) : Nat := if N % 2 ^ b = 0 then N / 2 ^ b else N / 2 ^ b / 2 * 2 + 1
theorem evn_stk (N b : Nat) : evn (stk N b) 11 = evn N (11 + b) := by
 have hP := Nat.two_pow_pos b
 have hr := Nat.mod_lt N hP
 have hN := Nat.div_add_mod N (2 ^ b)
 have hp : 2 ^ (11 + b) = 2048 * 2 ^ b := by rw [Nat.pow_add]
 have hdiv : N / 2 ^ (11 + b) = N / 2 ^ b / 2048 := by rw [hp, Nat.mul_comm, ← Nat.div_div_eq_div_mul]
 have hmod : N % 2 ^ (11 + b) = N / 2 ^ b % 2048 * 2 ^ b + N % 2 ^ b := by
  rw [hp, Nat.mul_comm 2048, Nat.mod_mul, Nat.mul_comm, Nat.add_comm]
 unfold evn stk
 rw [hdiv, hmod, hp]
 rw [show (2 : Nat) ^ 11 = 2048 from rfl]
 generalize 2 ^ b = P at *
 generalize N / P = H at *
 generalize N % P = r at *
 clear hN hdiv hmod hp
 have hh : H % 2048 < 2048 := Nat.mod_lt _ (by omega)
 have hW : (if r = 0 then H else H / 2 * 2 + 1) / 2048 = H / 2048 := by split <;> omega
 rw [hW]
 rcases Nat.lt_trichotomy (H % 2048) 1024 with h1 | h1 | h1
 ·have h2 : (H % 2048 + 1) * P ≤ 1024 * P := Nat.mul_le_mul_right _ (by omega)
  rw [Nat.add_mul, Nat.one_mul] at h2
  have h3 : (if r = 0 then H else H / 2 * 2 + 1) % 2048 < 1024 := by split <;> omega
  rw [decide_eq_false (show ¬ 2048 < 2 * ((if r = 0 then H else H / 2 * 2 + 1) % 2048) by omega), decide_eq_false (show ¬ 2048 = 2 * ((if r = 0 then H else H / 2 * 2 + 1) % 2048) by omega)]
  rw [decide_eq_false (show ¬ 2048 * P < 2 * (H % 2048 * P + r) by omega), decide_eq_false (show ¬ 2048 * P = 2 * (H % 2048 * P + r) by omega)]
 ·rw [h1]
  by_cases h0 : r = 0
  ·subst h0
   rw [if_pos rfl, h1]
   rw [decide_eq_false (show ¬ 2048 < 2 * 1024 by omega), decide_eq_true (show 2048 = 2 * 1024 by omega), decide_eq_false (show ¬ 2048 * P < 2 * (1024 * P + 0) by omega), decide_eq_true (show 2048 * P = 2 * (1024 * P + 0) by omega)]
  ·rw [if_neg h0, decide_eq_true (show 2048 < 2 * ((H / 2 * 2 + 1) % 2048) by omega), decide_eq_true (show 2048 * P < 2 * (1024 * P + r) by omega)]
   rfl
 ·have h2 : 1025 * P ≤ H % 2048 * P := Nat.mul_le_mul_right _ (by omega)
  have h3 : 1024 < (if r = 0 then H else H / 2 * 2 + 1) % 2048 := by split <;> omega
  rw [decide_eq_true (show 2048 < 2 * ((if r = 0 then H else H / 2 * 2 + 1) % 2048) by omega), decide_eq_true (show 2048 * P < 2 * (H % 2048 * P + r) by omega)]
  rfl
def scl (x b : Nat) : Nat := if x / 4503599627370496 + b < 2047 then x + b * 4503599627370496 else 9218868437227405312
theorem evn_range {N L : Nat} (h1 : 2 ^ L ≤ N) (h2 : N < 2 ^ (L + 1)) (hL : 52 ≤ L) : 4503599627370496 ≤ evn N (L - 52) ∧ evn N (L - 52) ≤ 9007199254740992 := by
 have e1 : 4503599627370496 ≤ N / 2 ^ (L - 52) := by
  rw [Nat.le_div_iff_mul_le (Nat.two_pow_pos _), show 4503599627370496 = 2 ^ 52 from rfl, ← Nat.pow_add, show 52 + (L - 52) = L by omega]
  exact h1
 have e2 : N / 2 ^ (L - 52) < 9007199254740992 := by
  rw [Nat.div_lt_iff_lt_mul (Nat.two_pow_pos _), show 9007199254740992 = 2 ^ 53 from rfl, ← Nat.pow_add, show 53 + (L - 52) = L + 1 by omega]
  exact h2
 unfold evn
 have : ∀ c : Bool, c.toNat ≤ 1 := by decide
 have := this (decide (2 ^ (L - 52) < 2 * (N % 2 ^ (L - 52))) || (decide (2 ^ (L - 52) = 2 * (N % 2 ^ (L - 52))) && decide (N / 2 ^ (L - 52) % 2 = 1)))
 omega
theorem stk_range {N b : Nat} (h1 : 2 ^ (63 + b) ≤ N) (h2 : N < 2 ^ (63 + b + 1)) : 2 ^ 63 ≤ stk N b ∧ stk N b < 2 ^ 64 := by
 have e1 : 2 ^ 63 ≤ N / 2 ^ b := by
  rw [Nat.le_div_iff_mul_le (Nat.two_pow_pos _), ← Nat.pow_add]
  exact h1
 have e2 : N / 2 ^ b < 2 ^ 64 := by
  rw [Nat.div_lt_iff_lt_mul (Nat.two_pow_pos _), ← Nat.pow_add, show 64 + b = 63 + b + 1 by omega]
  exact h2
 unfold stk
 rw [show (2 : Nat) ^ 63 = 9223372036854775808 from rfl] at *
 rw [show (2 : Nat) ^ 64 = 18446744073709551616 from rfl] at *
 split <;> omega
theorem fl_stk {N b : Nat} (h1 : 2 ^ (63 + b) ≤ N) (h2 : N < 2 ^ (63 + b + 1)) : fl N = scl (fl (stk N b)) b := by
 obtain ⟨s1, s2⟩ := stk_range h1 h2
 have f1 := fl_high h1 h2 (by omega)
 have f2 := fl_high s1 s2 (by omega)
 obtain ⟨r1, r2⟩ := evn_range s1 s2 (by omega)
 rw [show 63 + b - 52 = 11 + b by omega] at f1
 rw [show 63 - 52 = 11 from rfl, evn_stk] at f2 r1 r2
 rw [f1, f2]
 generalize evn N (11 + b) = v at *
 clear f1 f2 h1 h2 s1 s2
 unfold scl
 split <;> omega
theorem fl_top {N : Nat} (K : Nat) (hK : K = 1024) (h : 2 ^ K ≤ N) : fl N = 9218868437227405312 := by
 have h0 : 0 < N := Nat.lt_of_lt_of_le (Nat.two_pow_pos K) h
 obtain ⟨a1, a2⟩ := log2_two N h0
 have hL : 1024 ≤ N.log2 := by
  have : 2 ^ K < 2 ^ (N.log2 + 1) := Nat.lt_of_le_of_lt h a2
  have := (Nat.pow_lt_pow_iff_right (a := 2) (by omega)).1 this
  omega
 obtain ⟨r1, r2⟩ := evn_range a1 a2 (by omega)
 rw [fl_high a1 a2 (by omega)]
 generalize N.log2 = L at *
 omega
theorem scl_zero {X : Nat} (h : X < 9218868437227405312) : scl X 0 = X := by
 unfold scl
 split <;> omega
theorem one_mul {y : Nat} (h1 : 4503599627370496 ≤ y) (h2 : y < 9218868437227405312) : Ieee.double.mul 4607182418800017408 y = some y := by
 have e1 : Ieee.double.signWeight = 9223372036854775808 := by decide
 have e2 : Ieee.double.binade = 4503599627370496 := by decide
 have e3 : Ieee.double.infRung = 9218868437227405312 := by decide
 have e4 : Ieee.double.leastPlace = -1074 := by decide
 have e5 : Ieee.double.fractionBits = 52 := rfl
 have r1 : Ieee.double.read 4607182418800017408 = .number false 4503599627370496 (-52) := by decide
 have r2 : Ieee.double.read y = .number false (4503599627370496 + y % 4503599627370496) (-1074 + ((y / 4503599627370496 - 1 : Nat) : Int)) := by
  unfold Ieee.Format.read
  rw [e1, e2, e3, e4]
  have q1 : y % 9223372036854775808 = y := Nat.mod_eq_of_lt (by omega)
  have q2 : y / 9223372036854775808 % 2 = 0 := by omega
  simp only [q1, q2]
  rw [if_neg (by omega), if_pos h2]
  rfl
 unfold Ieee.Format.mul
 rw [r1, r2]
 show some (Ieee.double.nearest false (4503599627370496 * (4503599627370496 + y % 4503599627370496)) (-52 + (-1074 + ((y / 4503599627370496 - 1 : Nat) : Int)))) = _
 have ht : y % 4503599627370496 < 4503599627370496 := Nat.mod_lt _ (by omega)
 have hq : y / 4503599627370496 < 2047 := by omega
 have hy := Nat.div_add_mod y 4503599627370496
 have hq1 : 1 ≤ y / 4503599627370496 := by omega
 generalize y % 4503599627370496 = t at *
 generalize y / 4503599627370496 = q at *
 have hlog : (4503599627370496 * (4503599627370496 + t)).log2 = 104 := by
  refine log2_of ?_ ?_
  ·rw [show (2 : Nat) ^ 104 = 4503599627370496 * 4503599627370496 from rfl]; omega
  ·rw [show (2 : Nat) ^ (104 + 1) = 4503599627370496 * 9007199254740992 from rfl]; omega
 unfold Ieee.Format.nearest
 rw [if_neg (by omega), e2, e3, e4, e5, hlog]
 have e6 : max (-52 + (-1074 + ((q - 1 : Nat) : Int)) + ((104 : Nat) : Int) - ((52 : Nat) : Int)) (-1074) = (q : Int) - 1075 := by omega
 rw [e6]
 dsimp only
 have q1 : (-52 + (-1074 + ((q - 1 : Nat) : Int)) - ((q : Int) - 1075)).toNat = 0 := by omega
 have q2 : ((q : Int) - 1075 - (-52 + (-1074 + ((q - 1 : Nat) : Int)))).toNat = 52 := by omega
 have q3 : ((q : Int) - 1075 - -1074).toNat = q - 1 := by omega
 rw [q1, q2, q3, Nat.shiftLeft_zero, cut_evn _ _ (by rw [hlog]; omega), Nat.mul_comm 4503599627370496]
 have hev := evn_exact (4503599627370496 + t) 52
 rw [show (2 : Nat) ^ 52 = 4503599627370496 from rfl] at hev
 rw [hev, word_pos, Nat.min_eq_left (by omega)]
 exact congrArg some (by omega)

end Go.Proofs.YtfcpkdafkmohkaaGreatDoor
namespace Go.Proofs.YtfcpkdafkmohkaaGreatDoor
open Go.RowKit
theorem pos_rung {x : Nat} (h : x < 9223372036854775808) : rung x = x ∧ fneg x = false ∧ frank x = (x : Int) := by
 have h1 : rung x = x := Nat.mod_eq_of_lt h
 have h2 : fneg x = false := by unfold fneg; rw [Nat.div_eq_of_lt h]; rfl
 refine ⟨h1, h2, ?_⟩
 unfold frank
 rw [h1, h2]
 rfl
theorem ford_lt {x y : Nat} (hx : x ≤ 9218868437227405312) (hy : y ≤ 9218868437227405312) : (FloatKind.f64.format.order x y == some .lt) = decide (x < y) := by
 show (Ieee.double.order x y == some .lt) = _
 obtain ⟨a1, _, a3⟩ := pos_rung (x := x) (by omega)
 obtain ⟨b1, _, b3⟩ := pos_rung (x := y) (by omega)
 rw [order_eq (by omega) (by omega), cmp_lt, a3, b3]
 simp
theorem inf1_any (w : World) : Cq 79 #[.int .i64 1] (.float .f64 9218868437227405312) w := by
 have h2 : (callFunc 120 #[.int .u64 9218868437227405312]).run Tryz.prog w = .ok (.value (.float .f64 9218868437227405312)) w := f64from_run 9218868437227405312 w
 go_enter Tryz.func79, Tryz.ntmps79
 go_wp2
 go_ret
 exact ⟨by rfl, rfl⟩
theorem normalize_any (x : Nat) (w : World) (h1 : 4503599627370496 ≤ x) (h2 : x < 9218868437227405312) : Cq 245 #[.float .f64 x] (.tuple #[.float .f64 x, .int .i64 0]) w := by
 have C1 := Lib.hid (fun W => abs_any x W (by omega))
 rw [(pos_rung (x := x) (by omega)).1] at C1
 have h := ford_lt (x := x) (y := 4503599627370496) (by omega) (by omega)
 rw [decide_eq_false (by omega)] at h
 clear h1 h2
 go_enter Tryz.func245, Tryz.ntmps245
 go_wp2_with fail
 refine (C1.out _).mono ?_
 rintro e w' ⟨rfl, rfl⟩
 go_wp2
 go_ret2
 exact ⟨rfl, rfl⟩
theorem and_top {x : Nat} (hx : x < 9223372036854775808) : x &&& 2 ^ 63 = 0 := by
 apply Nat.eq_of_testBit_eq
 intro i
 rw [Nat.testBit_and, Nat.testBit_two_pow, Nat.zero_testBit]
 by_cases h : 63 = i
 ·subst h
  rw [Nat.testBit_lt_two_pow (show x < 2 ^ 63 from hx)]; rfl
 ·rw [decide_eq_false h, Bool.and_false]
theorem not_exp (x : Nat) (hx : x < 9223372036854775808) : bits BinOp.andNot IntKind.u64 (x : Int) 9218868437227405312 = ((x % 4503599627370496 : Nat) : Int) := by
 show IntKind.u64.wrap ((BitVec.ofInt 64 (x : Int) &&& ~~~ BitVec.ofInt 64 9218868437227405312).toNat : Int) = _
 have e1 : (BitVec.ofInt 64 (x : Int)) = BitVec.ofNat 64 x := by rw [BitVec.ofInt_natCast]
 have e2 : (~~~ BitVec.ofInt 64 9218868437227405312) = BitVec.ofNat 64 (2 ^ 63 ||| (2 ^ 52 - 1)) := by decide
 rw [e1, e2, BitVec.toNat_and, BitVec.toNat_ofNat, BitVec.toNat_ofNat, Nat.mod_eq_of_lt (by omega : x < 2 ^ 64), Nat.mod_eq_of_lt (by decide : 2 ^ 63 ||| (2 ^ 52 - 1) < 2 ^ 64), Nat.and_or_distrib_left, Nat.and_two_pow_sub_one_eq_mod, and_top hx, Nat.zero_or, IntKind.wrap_u64]
 omega
theorem and_2047 (q : Nat) (hq : q < 2048) : bits BinOp.and IntKind.i64 (q : Int) 2047 = (q : Int) := by
 show IntKind.i64.wrap ((BitVec.ofInt 64 (q : Int) &&& BitVec.ofInt 64 2047).toNat : Int) = _
 have e1 : (BitVec.ofInt 64 (q : Int)) = BitVec.ofNat 64 q := by rw [BitVec.ofInt_natCast]
 have e2 : (BitVec.ofInt 64 2047) = BitVec.ofNat 64 (2 ^ 11 - 1) := by decide
 rw [e1, e2, BitVec.toNat_and, BitVec.toNat_ofNat, BitVec.toNat_ofNat, Nat.mod_eq_of_lt (by omega : q < 2 ^ 64), Nat.mod_eq_of_lt (by omega : 2 ^ 11 - 1 < 2 ^ 64), Nat.and_two_pow_sub_one_eq_mod, Nat.mod_eq_of_lt hq, IntWalk.i64_in _ (by omega)]
theorem or_exp (t q : Nat) (ht : t < 4503599627370496) (hq : q < 2048) : bits BinOp.or IntKind.u64 (t : Int) ((q * 4503599627370496 : Nat) : Int) = ((t + q * 4503599627370496 : Nat) : Int) := by
 rw [or_u64 t (q * 4503599627370496) (by omega) (by omega)]
 have := Nat.two_pow_add_eq_or_of_lt (i := 52) (b := t) ht q
 rw [Nat.or_comm, show q * 4503599627370496 = 2 ^ 52 * q by rw [Nat.mul_comm], ← this, Nat.add_comm]
set_option maxHeartbeats 1000000 in
theorem ldexp_zero (b : Int) (w : World) : Cq 206 #[.float .f64 0, .int .i64 b] (.float .f64 0) w := by
 have h : (FloatKind.f64.format.order 0 0 == some .eq) = true := by decide
 have C : Cq 231 #[.float .f64 0, .int .i64 b] (.float .f64 0) w := by
  go_enter Tryz.func231, Tryz.ntmps231
  go_wp2
  go_ret
  exact ⟨rfl, rfl⟩
 have C := Lib.hid C
 clear h
 go_enter Tryz.func206, Tryz.ntmps206
 go_wp2_with fail
 refine C.out.mono ?_
 rintro e w' ⟨rfl, rfl⟩
 go_wp2
 go_ret
 exact ⟨rfl, rfl⟩
set_option maxHeartbeats 1000000 in
theorem ldexpl_any (x b : Nat) (w : World) (h1 : 4503599627370496 ≤ x) (h2 : x < 9218868437227405312) (hb : b < 1048576) : Cq 231 #[.float .f64 x, .int .i64 b] (.float .f64 (scl x b)) w := by
 obtain ⟨p1, p2, p3⟩ := pos_rung (x := x) (by omega)
 have C1 := Lib.hid (fun W => isNaN_any x W)
 have C2 := Lib.hid (fun W => isInf0_any x W (by omega))
 rw [show fnan x = false from by unfold fnan; rw [p1]; exact decide_eq_false (by omega)] at C1
 rw [show finf x = false from by unfold finf; rw [p1]; exact decide_eq_false (by omega)] at C2
 have C3 := Lib.hid (fun W => normalize_any x W h1 h2)
 have C4 := Lib.hid (fun W => inf1_any W)
 have h3 := ord_zero x
 rw [p1, decide_eq_false (by omega)] at h3
 have h4 := ord_below x
 rw [p2, Bool.false_and, Bool.and_false] at h4
 have h5 := f64bits_run x w
 have h6 := not_exp x (by omega)
 unfold scl
 obtain ⟨q, hq⟩ : ∃ q, x / 4503599627370496 = q := ⟨_, rfl⟩
 obtain ⟨t, ht⟩ : ∃ t, x % 4503599627370496 = t := ⟨_, rfl⟩
 rw [ht] at h6
 rw [hq]
 have h7 := and_2047 q (by omega)
 have k1 : (x : Int) / 4503599627370496 = (q : Int) := by omega
 have k2 : IntKind.i64.wrap (q : Int) = (q : Int) := IntWalk.i64_in _ (by omega)
 have k3 : IntKind.i64.wrap ((q : Int) - 1023) = (q : Int) - 1023 := IntWalk.i64_in _ (by omega)
 have k4 : IntKind.i64.wrap ((b : Int) + ((q : Int) - 1023)) = (b : Int) + ((q : Int) - 1023) := IntWalk.i64_in _ (by omega)
 have k5 : IntKind.i64.wrap (b : Int) = (b : Int) := IntWalk.i64_in _ (by omega)
 have t1 : decide ((b : Int) + ((q : Int) - 1023) < -1075) = false := decide_eq_false (by omega)
 by_cases hlt : q + b < 2047
 ·rw [if_pos hlt]
  have h8 := or_exp t (b + q) (by omega) (by omega)
  have h9 := f64from_run (t + (b + q) * 4503599627370496) w
  have h10 := one_mul (y := t + (b + q) * 4503599627370496) (by omega) (by omega)
  have h11 : (binOp BinOp.mul 22 (.float .f64 4607182418800017408) (.float .f64 (t + (b + q) * 4503599627370496))).run Tryz.prog w = .ok (.float .f64 (t + (b + q) * 4503599627370496)) w := run_float_arith _ _ _ _ _ _ _ h10
  clear h10
  have t2 : decide (1023 < (b : Int) + ((q : Int) - 1023)) = false := decide_eq_false (by omega)
  have t3 : decide ((b : Int) + ((q : Int) - 1023) < -1022) = false := decide_eq_false (by omega)
  have k6 : IntKind.i64.wrap ((b : Int) + ((q : Int) - 1023) + 1023) = ((b + q : Nat) : Int) := by rw [IntWalk.i64_in _ (by omega)]; omega
  have k7 : IntKind.u64.wrap ((b + q : Nat) : Int) = ((b + q : Nat) : Int) := by rw [IntKind.wrap_u64]; omega
  have hx : x + b * 4503599627370496 = t + (b + q) * 4503599627370496 := by omega
  rw [hx]
  obtain ⟨y, hy⟩ : ∃ y, t + (b + q) * 4503599627370496 = y := ⟨_, rfl⟩
  obtain ⟨z, hz⟩ : ∃ z, b + q = z := ⟨_, rfl⟩
  rw [hy] at h8 h9 h11 ⊢
  rw [hz] at h8 k6 k7
  have k8 : IntKind.u64.wrap ((z : Int) * 4503599627370496) = ((z * 4503599627370496 : Nat) : Int) := by rw [IntKind.wrap_u64]; omega
  rw [← k8] at h8
  clear k8
  clear h1 h2 hb p1 p2 p3 hq ht hlt hx hy hz
  go_enter Tryz.func231, Tryz.ntmps231
  go_wp2_with fail
  refine (C2.out _).mono ?_
  rintro e w' ⟨rfl, rfl⟩
  go_wp2_with fail
  refine (C1.out _).mono ?_
  rintro e w' ⟨rfl, rfl⟩
  go_wp2_with fail
  refine (C3.out _).mono ?_
  rintro e w' ⟨rfl, rfl⟩
  go_wp2
  go_ret
  exact ⟨rfl, rfl⟩
 ·rw [if_neg hlt]
  have t2 : decide (1023 < (b : Int) + ((q : Int) - 1023)) = true := decide_eq_true (by omega)
  clear h1 h2 hb p1 p2 p3 hq ht hlt h6
  go_enter Tryz.func231, Tryz.ntmps231
  go_wp2_with fail
  refine (C2.out _).mono ?_
  rintro e w' ⟨rfl, rfl⟩
  go_wp2_with fail
  refine (C1.out _).mono ?_
  rintro e w' ⟨rfl, rfl⟩
  go_wp2_with fail
  refine (C3.out _).mono ?_
  rintro e w' ⟨rfl, rfl⟩
  go_wp2_with fail
  refine (C4.out _).mono ?_
  rintro e w' ⟨rfl, rfl⟩
  go_wp2
  go_ret
  exact ⟨rfl, rfl⟩
theorem ldexp_any (x b : Nat) (w : World) (h1 : 4503599627370496 ≤ x) (h2 : x < 9218868437227405312) (hb : b < 1048576) : Cq 206 #[.float .f64 x, .int .i64 b] (.float .f64 (scl x b)) w := by
 have C := Lib.hid (ldexpl_any x b w h1 h2 hb)
 clear h1 h2 hb
 go_enter Tryz.func206, Tryz.ntmps206
 go_wp2_with fail
 refine C.out.mono ?_
 rintro e w' ⟨rfl, rfl⟩
 go_wp2
 go_ret
 exact ⟨rfl, rfl⟩

end Go.Proofs.YtfcpkdafkmohkaaGreatDoor
namespace Go.Proofs.YtfcpkdafkmohkaaGreatDoor
open Go.RowKit
theorem get_zero {l : List Nat} (h : Ws l) : l.getD 0 0 = val l % 4294967296 := by
 cases l with
 | nil => rfl
 | cons a r =>
  have := h.getD 0
  simp only [List.getD_cons_zero] at this ⊢
  simp only [val]
  omega
theorem get_one {l : List Nat} (h : Ws l) : l.getD 1 0 = val l / 4294967296 % 4294967296 := by
 cases l with
 | nil => rfl
 | cons a r =>
  have h0 := h.getD 0
  have h1 := get_zero (l := r) (fun x hx => h x (List.mem_cons_of_mem _ hx))
  simp only [List.getD_cons_zero] at h0
  simp only [List.getD_cons_succ, val]
  omega
theorem fl_pos {N : Nat} (h : 0 < N) (hN : N < 2 ^ 65) : 4503599627370496 ≤ fl N ∧ fl N < 9218868437227405312 := by
 obtain ⟨a1, a2⟩ := log2_two N h
 have hL : N.log2 < 65 := by
  have : 2 ^ N.log2 < 2 ^ 65 := Nat.lt_of_le_of_lt a1 hN
  exact (Nat.pow_lt_pow_iff_right (a := 2) (by omega)).1 this
 rcases Nat.lt_or_ge N.log2 52 with h1 | h1
 ·rw [fl_low a1 a2 (by omega)]
  have h3 : N * 2 ^ (52 - N.log2) < 9007199254740992 := by
   have : N * 2 ^ (52 - N.log2) < 2 ^ (N.log2 + 1) * 2 ^ (52 - N.log2) := Nat.mul_lt_mul_of_pos_right a2 (Nat.two_pow_pos _)
   rw [← Nat.pow_add, show N.log2 + 1 + (52 - N.log2) = 53 by omega] at this
   exact this
  omega
 ·obtain ⟨r1, r2⟩ := evn_range a1 a2 h1
  rw [fl_high a1 a2 h1]
  omega
theorem fl_top64 {v n : Nat} (h1 : 2 ^ (n - 1) ≤ v) (h2 : v < 2 ^ n) (h0 : 0 < n) : stk v (n - 64) < 18446744073709551616 ∧ 0 < stk v (n - 64) ∧ fl v = scl (fl (stk v (n - 64))) (n - 64) := by
 rcases Nat.lt_or_ge 64 n with h | h
 ·obtain ⟨b, rfl⟩ : ∃ b, n = 64 + b := ⟨n - 64, by omega⟩
  have a1 : 2 ^ (63 + b) ≤ v := by rw [show 63 + b = 64 + b - 1 by omega]; exact h1
  have a2 : v < 2 ^ (63 + b + 1) := by rw [show 63 + b + 1 = 64 + b by omega]; exact h2
  rw [Nat.add_sub_cancel_left]
  obtain ⟨s1, s2⟩ := stk_range a1 a2
  have := Nat.two_pow_pos 63
  exact ⟨s2, by omega, fl_stk a1 a2⟩
 ·rw [show n - 64 = 0 by omega]
  have e : stk v 0 = v := by unfold stk; rw [Nat.pow_zero, Nat.mod_one, if_pos rfl, Nat.div_one]
  have hv : v < 2 ^ 64 := Nat.lt_of_lt_of_le h2 (Nat.pow_le_pow_right (by omega) h)
  have hp := Nat.two_pow_pos (n - 1)
  have hf := fl_pos (N := v) (by omega) (Nat.lt_of_lt_of_le hv (by decide))
  rw [e, scl_zero hf.2]
  exact ⟨hv, by omega, rfl⟩
theorem or_one64 (x : Nat) (hx : x < 18446744073709551616) : bits BinOp.or IntKind.u64 (x : Int) 1 = ((x / 2 * 2 + 1 : Nat) : Int) := by
 have h := or_u64 x 1 hx (by omega)
 rw [show ((1 : Nat) : Int) = 1 from rfl] at h
 rw [h]
 have e : x ||| 1 = x / 2 * 2 + 1 := by
  have h1 : x = 2 * (x / 2) + x % 2 := by omega
  have h2 := Nat.two_pow_add_eq_or_of_lt (i := 1) (b := 1) (by omega) (x / 2)
  rcases Nat.mod_two_eq_zero_or_one x with h3 | h3
  ·rw [h3, Nat.add_zero] at h1
   rw [Nat.pow_one] at h2
   rw [← h1] at h2
   omega
  ·have h4 := Nat.two_pow_add_eq_or_of_lt (i := 1) (b := 1) (by omega) (x / 2)
   rw [Nat.pow_one] at h4
   have h5 : x = 2 * (x / 2) ||| 1 := by rw [← h4]; omega
   rw [h5, Nat.or_assoc, Nat.or_self, ← h5]
   omega
 rw [e]
theorem join64 (y z : Nat) (hy : y < 4294967296) (hz : z < 4294967296) : bits BinOp.or IntKind.u64 (IntKind.u64.wrap ((y : Int) * 4294967296)) (z : Int) = ((z + y * 4294967296 : Nat) : Int) := by
 have e : IntKind.u64.wrap ((y : Int) * 4294967296) = ((y * 4294967296 : Nat) : Int) := by rw [IntKind.wrap_u64]; omega
 rw [e, or_u64 (y * 4294967296) z (by omega) (by omega)]
 have := Nat.two_pow_add_eq_or_of_lt (i := 32) (b := z) hz y
 rw [show y * 4294967296 = 2 ^ 32 * y by rw [Nat.mul_comm], ← this, Nat.add_comm]
set_option maxHeartbeats 1000000 in
theorem pfloat_top (A : Option Addr) (n c : Nat) (l : List Nat) (w : World) (hn : l.length = n) (hc : n ≤ c) (hm : n ≤ 35184372087808) (h : RW w w.heap.size A l) (hb : 1024 < btl l) :
  Ct 153 #[.slice A n c] (.float .f64 (fl (val l))) w := by
 have C1 := Lib.hid (bits_any A n c l w.heap.size w hn hc (by omega) h)
 have C2 := Lib.hid (fun W => inf1_any W)
 have h0 : nrm l ≠ [] := by intro e; unfold btl at hb; rw [if_pos e] at hb; omega
 obtain ⟨b1, b2, b3⟩ := btl_bounds h.1 h0
 obtain ⟨K, hK⟩ : ∃ K, K = 1024 := ⟨_, rfl⟩
 have hf : fl (val l) = 9218868437227405312 := fl_top K hK (Nat.le_trans (Nat.pow_le_pow_right (by omega) (by omega)) b1)
 rw [hf]
 obtain ⟨m, hm2⟩ : ∃ m, btl l = m := ⟨_, rfl⟩
 rw [hm2] at C1 hb
 have t1 : (1024 : Int) < (m : Int) := by omega
 clear hn hc hm h h0 b1 b2 b3 hK hf hm2 hb
 go_enter Tryz.func153, Tryz.ntmps153
 go_wp2_with fail
 refine C1.out.mono ?_
 rintro e w' ⟨rfl, rfl⟩
 go_wp2_with fail
 refine (C2.out _).mono ?_
 rintro e w' ⟨rfl, rfl⟩
 go_wp2
 go_ret
 exact ⟨rfl, Below.refl _ _⟩
set_option maxRecDepth 100000 in
set_option maxHeartbeats 1000000 in
theorem pfloat_ok (A : Option Addr) (n c : Nat) (l : List Nat) (w : World) (hn : l.length = n) (hc : n ≤ c) (hm : n ≤ 35184372087808) (h : RW w w.heap.size A l) (hb : btl l ≤ 1024) :
  Ct 153 #[.slice A n c] (.float .f64 (fl (val l))) w := by
 have C1 := Lib.hid (bits_any A n c l w.heap.size w hn hc (by omega) h)
 have C2 := Lib.hid (pshr_any A n c ((btl l - 64 : Nat) : Int) l w hn hc hm h)
 rw [Int.toNat_natCast] at C2
 obtain ⟨v, hv⟩ : ∃ v, val l = v := ⟨_, rfl⟩
 -- what is told of the number
 have hT : stk v (btl l - 64) < 18446744073709551616 ∧ (∀ W, Cq 206 #[.float .f64 (fl (stk v (btl l - 64))), .int .i64 (btl l - 64 : Nat)] (.float .f64 (fl v)) W) := by
  by_cases h0 : nrm l = []
  ·have e1 : btl l = 0 := by unfold btl; rw [if_pos h0]
   have e2 : v = 0 := by rw [← hv, ← val_nrm, h0]; rfl
   rw [e1, e2]
   have e3 : stk 0 (0 - 64) = 0 := by decide
   rw [e3, fl_zero]
   exact ⟨by omega, fun W => ldexp_zero _ W⟩
  ·obtain ⟨b1, b2, b3⟩ := btl_bounds h.1 h0
   rw [hv] at b1 b2
   obtain ⟨s1, s2, s3⟩ := fl_top64 b1 b2 b3
   have hf := fl_pos s2 (Nat.lt_trans s1 (by decide))
   refine ⟨s1, fun W => ?_⟩
   rw [s3]
   exact ldexp_any _ _ W hf.1 hf.2 (by omega)
 rw [hv] at C2 ⊢
 obtain ⟨m, hm2⟩ : ∃ m, btl l = m := ⟨_, rfl⟩
 rw [hm2] at C1 C2 hT hb
 obtain ⟨b, hb2⟩ : ∃ b, m - 64 = b := ⟨_, rfl⟩
 rw [hb2] at C2 hT
 obtain ⟨u, hu⟩ : ∃ u, fl v = u := ⟨_, rfl⟩
 rw [hu] at hT ⊢
 obtain ⟨hlt, hL⟩ := hT
 have C4 := Lib.hid hL
 have HST : Hid (stk v b < 18446744073709551616) := Lib.hid hlt
 have t1 : decide ((1024 : Int) < (m : Int)) = false := decide_eq_false (by omega)
 have k1 : IntKind.i64.wrap ((m : Int) - 64) = (m : Int) - 64 := IntWalk.i64_in _ (by omega)
 have k2 : max ((m : Int) - 64) 0 = (b : Int) := by omega
 clear hn hc hm h hb hv hm2 hb2 hlt hL hu
 go_enter Tryz.func153, Tryz.ntmps153
 go_wp2_with fail
 refine C1.out.mono ?_
 rintro e w' ⟨rfl, rfl⟩
 go_wp2_with fail
 refine C2.out.mono ?_
 rintro e w2 ⟨A2, n2, c2, he, hn2, hc2, r2, hb2⟩
 obtain ⟨H, hH⟩ : ∃ H, v / 2 ^ b = H := ⟨_, rfl⟩
 obtain ⟨lb, hlb⟩ : ∃ lb, decide (v % 2 ^ b ≠ 0) = lb := ⟨_, rfl⟩
 have hs : stk v b = if lb = true then H / 2 * 2 + 1 else H := by
  unfold stk
  rw [hH, ← hlb]
  by_cases h0 : v % 2 ^ b = 0
  ·simp [h0]
  ·simp [h0]
 rw [hH] at hn2 r2
 rw [hlb] at he
 subst he
 rw [hs] at C4
 have hHl : H < 18446744073709551616 := by
  have := HST.out
  rw [hs] at this
  split at this <;> omega
 have hn22 : n2 ≤ 2 := by
  have := nrm_len (two H)
  rw [two_wds' H hHl, ← hn2] at this
  exact this
 have W1 := Lib.hid (fun W (hW : Below w2.heap.size w2 W) => show Cp 187 #[.slice A2 n2 c2, .int .i64 1] W fun e w' => e = .returned (.int .u32 (H / 4294967296 : Nat)) ∧ W = w' from by
  have := word_nat A2 n2 c2 1 (wds H) w2.heap.size W hn2.symm (by omega) (r2.below hW)
  rw [get_one (wds_ws H), wds_val, Nat.mod_eq_of_lt (by omega)] at this
  exact this)
 have W0 := Lib.hid (fun W (hW : Below w2.heap.size w2 W) => show Cp 187 #[.slice A2 n2 c2, .int .i64 0] W fun e w' => e = .returned (.int .u32 (H % 4294967296 : Nat)) ∧ W = w' from by
  have := word_nat A2 n2 c2 0 (wds H) w2.heap.size W hn2.symm (by omega) (r2.below hW)
  rw [get_zero (wds_ws H), wds_val] at this
  exact this)
 have hj := join64 (H / 4294967296) (H % 4294967296) (by omega) (by omega)
 rw [show H % 4294967296 + H / 4294967296 * 4294967296 = H by omega] at hj
 have ho := or_one64 H hHl
 have hy := show H / 4294967296 < 4294967296 by omega
 have hz := show H % 4294967296 < 4294967296 by omega
 obtain ⟨y, hyy⟩ : ∃ y, H / 4294967296 = y := ⟨_, rfl⟩
 obtain ⟨z, hzz⟩ : ∃ z, H % 4294967296 = z := ⟨_, rfl⟩
 rw [hyy] at W1 hj hy
 rw [hzz] at W0 hj hz
 have y1 : IntKind.u64.wrap (y : Int) = (y : Int) := by rw [IntKind.wrap_u64]; omega
 have z1 : IntKind.u64.wrap (z : Int) = (z : Int) := by rw [IntKind.wrap_u64]; omega
 have HB := Lib.hid hb2
 have hbd := Below.refl w2.heap.size w2
 clear hyy hzz hy hz hH hlb hs hHl hn2 hn22 hc2 r2 hb2 HST C1 C2 t1 k1 k2
 cases lb
 ·rw [if_neg (by decide)] at C4
  clear ho
  go_wp2_with (first
   | (go_at_call 187; (with_reducible refine (W1.out _ ?_).mono ?_); exact hbd; rintro e w' ⟨rfl, rfl⟩)
   | (go_at_call 187; (with_reducible refine (W0.out _ ?_).mono ?_); exact hbd; rintro e w' ⟨rfl, rfl⟩)
   | fail)
  refine (C4.out _).mono ?_
  rintro e w' ⟨rfl, rfl⟩
  go_wp2
  go_ret
  exact ⟨rfl, HB.out⟩
 ·rw [if_pos rfl] at C4
  go_wp2_with (first
   | (go_at_call 187; (with_reducible refine (W1.out _ ?_).mono ?_); exact hbd; rintro e w' ⟨rfl, rfl⟩)
   | (go_at_call 187; (with_reducible refine (W0.out _ ?_).mono ?_); exact hbd; rintro e w' ⟨rfl, rfl⟩)
   | fail)
  refine (C4.out _).mono ?_
  rintro e w' ⟨rfl, rfl⟩
  go_wp2
  go_ret
  exact ⟨rfl, HB.out⟩
theorem pfloat_any (A : Option Addr) (n c : Nat) (l : List Nat) (w : World) (hn : l.length = n) (hc : n ≤ c) (hm : n ≤ 35184372087808) (h : RW w w.heap.size A l) :
  Ct 153 #[.slice A n c] (.float .f64 (fl (val l))) w := by
 by_cases hb : 1024 < btl l
 ·exact pfloat_top A n c l w hn hc hm h hb
 ·exact pfloat_ok A n c l w hn hc hm h (by omega)

end Go.Proofs.YtfcpkdafkmohkaaGreatDoor
namespace Go.Proofs.YtfcpkdafkmohkaaGreatDoor
open Go.RowKit
structure NF (r z c M k : Nat) : Prop where
 lo : 4503599627370496 ≤ M
 hi : M < 9007199254740992
 hz : z = k * 4503599627370496 + M
 hc : fmag r * 2 ^ c = M * 2 ^ k
 top : z < 9218868437227405312
 way : (c = 0 ∧ z = r) ∨ (c = 52 ∧ r < 4503599627370496 ∧ Ieee.double.mul r 4841369599423283200 = some z)
theorem nf_of {r : Nat} (h0 : 0 < r) (hr : r < 9218868437227405312) : ∃ z c M k, NF r z c M k := by
 rcases Nat.lt_or_ge r 4503599627370496 with h | h
 ·have hf := fmag_low (r := r) (by omega)
  obtain ⟨z, hz⟩ := rep_of (N := r * 2 ^ 52) (M := r) (j := 52) rfl (by omega)
  have h1 : fmag z < fmag 4845873199050653696 := by
   obtain ⟨K, hK⟩ : ∃ K : Nat, K = 1075 := ⟨_, rfl⟩
   have e1 := fmag_make 4503599627370496 K (by omega) (by omega)
   rw [show K * 4503599627370496 + 4503599627370496 = 4845873199050653696 by rw [hK]] at e1
   rw [hz, e1]
   have h2 : r * 2 ^ 52 < 4503599627370496 * 2 ^ 52 := Nat.mul_lt_mul_of_pos_right h (Nat.two_pow_pos 52)
   have h3 : 4503599627370496 * 2 ^ 52 ≤ 4503599627370496 * 2 ^ K := Nat.mul_le_mul_left _ (Nat.pow_le_pow_right (by omega) (by omega))
   exact Nat.lt_of_lt_of_le h2 h3
  have hzt := fmag_lt.1 h1
  have hzl : 4503599627370496 ≤ z := by
   rcases Nat.lt_or_ge z 4503599627370496 with h4 | h4
   ·have h5 := fmag_low (r := z) (by omega)
    have h6 : 1 * 2 ^ 52 ≤ r * 2 ^ 52 := Nat.mul_le_mul_right _ h0
    omega
   ·exact h4
  obtain ⟨M, k, a1, a2, a3, a4⟩ := fmag_split hzl
  refine ⟨z, 52, M, k, a1, a2, a3, by rw [hf, ← hz, a4], by omega, .inr ⟨rfl, h, ?_⟩⟩
  obtain ⟨K, hK⟩ : ∃ K : Nat, K = 1074 := ⟨_, rfl⟩
  refine mul_exact (K := K) hr (by omega) (by omega) hK ?_
  have e1 := fmag_make 4503599627370496 K (by omega) (by omega)
  rw [show K * 4503599627370496 + 4503599627370496 = 4841369599423283200 by rw [hK]] at e1
  rw [e1, hz, hf, show (4503599627370496 : Nat) = 2 ^ 52 from rfl, ← Nat.mul_assoc]
 ·obtain ⟨M, k, a1, a2, a3, a4⟩ := fmag_split h
  exact ⟨r, 0, M, k, a1, a2, a3, by rw [Nat.pow_zero, Nat.mul_one, a4], hr, .inl ⟨rfl, rfl⟩⟩
theorem normalize_sub (r z : Nat) (w : World) (h1 : r < 4503599627370496) (hm : Ieee.double.mul r 4841369599423283200 = some z) : Cq 245 #[.float .f64 r] (.tuple #[.float .f64 z, .int .i64 (-52)]) w := by
 have C1 := Lib.hid (fun W => abs_any r W (by omega))
 rw [(pos_rung (x := r) (by omega)).1] at C1
 have h := ford_lt (x := r) (y := 4503599627370496) (by omega) (by omega)
 rw [decide_eq_true h1] at h
 have h11 : (binOp BinOp.mul 22 (.float .f64 r) (.float .f64 4841369599423283200)).run Tryz.prog w = .ok (.float .f64 z) w := run_float_arith _ _ _ _ _ _ _ hm
 clear h1 hm
 go_enter Tryz.func245, Tryz.ntmps245
 go_wp2_with fail
 refine (C1.out _).mono ?_
 rintro e w' ⟨rfl, rfl⟩
 go_wp2
 go_ret2
 exact ⟨rfl, rfl⟩
end Go.Proofs.YtfcpkdafkmohkaaGreatDoor
namespace Go.Proofs.YtfcpkdafkmohkaaGreatDoor
open Go.RowKit
theorem fmag_up {y D : Nat} (h : 4503599627370496 ≤ y) : fmag (y + D * 4503599627370496) = fmag y * 2 ^ D := by
 obtain ⟨M, d, a1, a2, a3, a4⟩ := fmag_split h
 rw [a4, a3, show d * 4503599627370496 + M + D * 4503599627370496 = (d + D) * 4503599627370496 + M by omega, fmag_make _ _ a1 a2, Nat.pow_add, Nat.mul_assoc]
set_option maxHeartbeats 1000000 in
theorem ldexp_sub_n {z M k D u : Nat} (y : Nat) (hy0 : 0 < y) (hy : y < 4503599627370496) (hm : Ieee.double.mul y 4841369599423283200 = some z) (a1 : 4503599627370496 ≤ M) (a2 : M < 9007199254740992) (a3 : z = k * 4503599627370496 + M) (a4 : z < 9218868437227405312) (hD : D < 1048576) (hd : 52 ≤ D + k) (ht : D + k < 2098) (hu : u = (D + k - 52) * 4503599627370496 + M) (w : World) :
  Cq 231 #[.float .f64 y, .int .i64 (D : Nat)] (.float .f64 u) w := by
 obtain ⟨p1, p2, p3⟩ := pos_rung (x := y) (by omega)
 have C1 := Lib.hid (fun W => isNaN_any y W)
 have C2 := Lib.hid (fun W => isInf0_any y W (by omega))
 rw [show fnan y = false from by unfold fnan; rw [p1]; exact decide_eq_false (by omega)] at C1
 rw [show finf y = false from by unfold finf; rw [p1]; exact decide_eq_false (by omega)] at C2
 have C3 := Lib.hid (fun W => normalize_sub y z W hy hm)
 have h3 := ord_zero y
 rw [p1, decide_eq_false (by omega)] at h3
 have h5 := f64bits_run z w
 have h6 := not_exp z (by omega)
 obtain ⟨t, ht2⟩ : ∃ t, M = 4503599627370496 + t := ⟨M - 4503599627370496, by omega⟩
 rw [show z % 4503599627370496 = t by omega] at h6
 have h7 := and_2047 (k + 1) (by omega)
 obtain ⟨Q, hQ⟩ : ∃ Q, D + k = Q + 51 := ⟨D + k - 51, by omega⟩
 have h8 := or_exp t Q (by omega) (by omega)
 have e8 : t + Q * 4503599627370496 = u := by omega
 rw [e8] at h8
 have h9 := f64from_run u w
 have h10 := one_mul (y := u) (by omega) (by omega)
 have h11 : (binOp BinOp.mul 22 (.float .f64 4607182418800017408) (.float .f64 u)).run Tryz.prog w = .ok (.float .f64 u) w := run_float_arith _ _ _ _ _ _ _ h10
 have k1 : (z : Int) / 4503599627370496 = ((k + 1 : Nat) : Int) := by omega
 have k2 : IntKind.i64.wrap ((k + 1 : Nat) : Int) = ((k + 1 : Nat) : Int) := IntWalk.i64_in _ (by omega)
 have k3 : IntKind.i64.wrap (((k + 1 : Nat) : Int) - 1023) = (k : Int) - 1022 := by rw [IntWalk.i64_in _ (by omega)]; omega
 have k4 : IntKind.i64.wrap ((D : Int) + -52) = (D : Int) - 52 := by rw [IntWalk.i64_in _ (by omega)]; omega
 have k5 : IntKind.i64.wrap ((D : Int) - 52 + ((k : Int) - 1022)) = (Q : Int) - 1023 := by rw [IntWalk.i64_in _ (by omega)]; omega
 have k6 : IntKind.i64.wrap ((Q : Int) - 1023 + 1023) = (Q : Int) := by rw [IntWalk.i64_in _ (by omega)]; omega
 have k7 : IntKind.u64.wrap (Q : Int) = (Q : Int) := by rw [IntKind.wrap_u64]; omega
 have k8 : IntKind.u64.wrap ((Q : Int) * 4503599627370496) = ((Q * 4503599627370496 : Nat) : Int) := by rw [IntKind.wrap_u64]; omega
 have t1 : decide ((Q : Int) - 1023 < -1075) = false := decide_eq_false (by omega)
 have t2 : decide (1023 < (Q : Int) - 1023) = false := decide_eq_false (by omega)
 have t3 : decide ((Q : Int) - 1023 < -1022) = false := decide_eq_false (by omega)
 obtain ⟨q, hq⟩ : ∃ q, k + 1 = q := ⟨_, rfl⟩
 obtain ⟨X1, hX1⟩ : ∃ X1, (k : Int) - 1022 = X1 := ⟨_, rfl⟩
 obtain ⟨X2, hX2⟩ : ∃ X2, (D : Int) - 52 = X2 := ⟨_, rfl⟩
 obtain ⟨X3, hX3⟩ : ∃ X3, (Q : Int) - 1023 = X3 := ⟨_, rfl⟩
 rw [hq] at h7 k1 k2 k3
 rw [hX1] at k3 k5
 rw [hX2] at k4 k5
 rw [hX3] at k5 k6 t1 t2 t3
 rw [← k8] at h8
 clear hy0 hy hm a1 a2 a3 a4 hD hd ht hu p1 p2 p3 ht2 hQ e8 h10 k8 hq hX1 hX2 hX3
 go_enter Tryz.func231, Tryz.ntmps231
 go_wp2_with fail
 refine (C2.out _).mono ?_
 rintro e w' ⟨rfl, rfl⟩
 go_wp2_with fail
 refine (C1.out _).mono ?_
 rintro e w' ⟨rfl, rfl⟩
 go_wp2_with fail
 refine (C3.out _).mono ?_
 rintro e w' ⟨rfl, rfl⟩
 go_wp2
 go_ret
 exact ⟨rfl, rfl⟩
set_option maxHeartbeats 1000000 in
theorem ldexp_sub_d {z M k D u r : Nat} (y : Nat) (hy0 : 0 < y) (hy : y < 4503599627370496) (hm : Ieee.double.mul y 4841369599423283200 = some z) (a1 : 4503599627370496 ≤ M) (a2 : M < 9007199254740992) (a3 : z = k * 4503599627370496 + M) (a4 : z < 9218868437227405312) (hd : D + k < 52) (hu : u = (D + k + 1) * 4503599627370496 + M) (hr : Ieee.double.mul 4368491638549381120 u = some r) (w : World) :
  Cq 231 #[.float .f64 y, .int .i64 (D : Nat)] (.float .f64 r) w := by
 obtain ⟨p1, p2, p3⟩ := pos_rung (x := y) (by omega)
 have C1 := Lib.hid (fun W => isNaN_any y W)
 have C2 := Lib.hid (fun W => isInf0_any y W (by omega))
 rw [show fnan y = false from by unfold fnan; rw [p1]; exact decide_eq_false (by omega)] at C1
 rw [show finf y = false from by unfold finf; rw [p1]; exact decide_eq_false (by omega)] at C2
 have C3 := Lib.hid (fun W => normalize_sub y z W hy hm)
 have h3 := ord_zero y
 rw [p1, decide_eq_false (by omega)] at h3
 have h5 := f64bits_run z w
 have h6 := not_exp z (by omega)
 obtain ⟨t, ht2⟩ : ∃ t, M = 4503599627370496 + t := ⟨M - 4503599627370496, by omega⟩
 rw [show z % 4503599627370496 = t by omega] at h6
 have h7 := and_2047 (k + 1) (by omega)
 obtain ⟨Q, hQ⟩ : ∃ Q, D + k + 2 = Q := ⟨_, rfl⟩
 have h8 := or_exp t Q (by omega) (by omega)
 have e8 : t + Q * 4503599627370496 = u := by omega
 rw [e8] at h8
 have h9 := f64from_run u w
 have h11 : (binOp BinOp.mul 22 (.float .f64 4368491638549381120) (.float .f64 u)).run Tryz.prog w = .ok (.float .f64 r) w := run_float_arith _ _ _ _ _ _ _ hr
 have k1 : (z : Int) / 4503599627370496 = ((k + 1 : Nat) : Int) := by omega
 have k2 : IntKind.i64.wrap ((k + 1 : Nat) : Int) = ((k + 1 : Nat) : Int) := IntWalk.i64_in _ (by omega)
 have k3 : IntKind.i64.wrap (((k + 1 : Nat) : Int) - 1023) = (k : Int) - 1022 := by rw [IntWalk.i64_in _ (by omega)]; omega
 have k4 : IntKind.i64.wrap ((D : Int) + -52) = (D : Int) - 52 := by rw [IntWalk.i64_in _ (by omega)]; omega
 have k5 : IntKind.i64.wrap ((D : Int) - 52 + ((k : Int) - 1022)) = (Q : Int) - 1076 := by rw [IntWalk.i64_in _ (by omega)]; omega
 have k9 : IntKind.i64.wrap ((Q : Int) - 1076 + 53) = (Q : Int) - 1023 := by rw [IntWalk.i64_in _ (by omega)]; omega
 have k6 : IntKind.i64.wrap ((Q : Int) - 1023 + 1023) = (Q : Int) := by rw [IntWalk.i64_in _ (by omega)]; omega
 have k7 : IntKind.u64.wrap (Q : Int) = (Q : Int) := by rw [IntKind.wrap_u64]; omega
 have k8 : IntKind.u64.wrap ((Q : Int) * 4503599627370496) = ((Q * 4503599627370496 : Nat) : Int) := by rw [IntKind.wrap_u64]; omega
 have t1 : decide ((Q : Int) - 1076 < -1075) = false := decide_eq_false (by omega)
 have t2 : decide (1023 < (Q : Int) - 1076) = false := decide_eq_false (by omega)
 have t3 : decide ((Q : Int) - 1076 < -1022) = true := decide_eq_true (by omega)
 obtain ⟨q, hq⟩ : ∃ q, k + 1 = q := ⟨_, rfl⟩
 obtain ⟨X1, hX1⟩ : ∃ X1, (k : Int) - 1022 = X1 := ⟨_, rfl⟩
 obtain ⟨X2, hX2⟩ : ∃ X2, (D : Int) - 52 = X2 := ⟨_, rfl⟩
 obtain ⟨X3, hX3⟩ : ∃ X3, (Q : Int) - 1076 = X3 := ⟨_, rfl⟩
 obtain ⟨X4, hX4⟩ : ∃ X4, (Q : Int) - 1023 = X4 := ⟨_, rfl⟩
 rw [hq] at h7 k1 k2 k3
 rw [hX1] at k3 k5
 rw [hX2] at k4 k5
 rw [hX3] at k5 k9 t1 t2 t3
 rw [hX4] at k9 k6
 rw [← k8] at h8
 clear hy0 hy hm a1 a2 a3 a4 hd hu hr p1 p2 p3 ht2 hQ e8 k8 hq hX1 hX2 hX3 hX4
 go_enter Tryz.func231, Tryz.ntmps231
 go_wp2_with fail
 refine (C2.out _).mono ?_
 rintro e w' ⟨rfl, rfl⟩
 go_wp2_with fail
 refine (C1.out _).mono ?_
 rintro e w' ⟨rfl, rfl⟩
 go_wp2_with fail
 refine (C3.out _).mono ?_
 rintro e w' ⟨rfl, rfl⟩
 go_wp2
 go_ret
 exact ⟨rfl, rfl⟩
theorem fmag_inf {r : Nat} (h : r < 9218868437227405312) (K : Nat) (hK : K = 2098) : fmag r < 2 ^ K := by
 obtain ⟨J, hJ⟩ : ∃ J : Nat, J = 2046 := ⟨_, rfl⟩
 have e1 := fmag_make 4503599627370496 J (by omega) (by omega)
 rw [show J * 4503599627370496 + 4503599627370496 = 9218868437227405312 by rw [hJ]] at e1
 have := fmag_step h
 rw [e1, show (4503599627370496 : Nat) = 2 ^ 52 from rfl, ← Nat.pow_add, show 52 + J = K by omega] at this
 exact this
theorem ldexp_rep {y D u : Nat} (h0 : 0 < y) (hy : y < 9218868437227405312) (hu : u < 9218868437227405312) (h : fmag u = fmag y * 2 ^ D) (w : World) :
  Cq 231 #[.float .f64 y, .int .i64 (D : Nat)] (.float .f64 u) w := by
 obtain ⟨K, hK⟩ : ∃ K : Nat, K = 2098 := ⟨_, rfl⟩
 have hDK : D < K := by
  have h1 := fmag_inf hu K hK
  have h2 := fmag_pos.2 h0
  have h3 : 1 * 2 ^ D ≤ fmag y * 2 ^ D := Nat.mul_le_mul_right _ h2
  exact (Nat.pow_lt_pow_iff_right (a := 2) (by omega)).1 (by omega)
 by_cases hn : 4503599627370496 ≤ y
 ·have h1 := fmag_up (D := D) hn
  rw [← h] at h1
  have h2 := fmag_inj h1
  have h3 := ldexpl_any y D w hn hy (by omega)
  have h4 : scl y D = u := by unfold scl; rw [if_pos (by omega)]; exact h2
  rw [h4] at h3
  exact h3
 ·obtain ⟨z, c, M, k, hnf⟩ := nf_of h0 hy
  rcases hnf.way with ⟨_, h1⟩ | ⟨rfl, _, h1⟩
  ·have := hnf.hz; have := hnf.lo; omega
  ·have a1 := hnf.lo
   have a2 := hnf.hi
   have a3 := hnf.hz
   have a4 := hnf.top
   have a5 := hnf.hc
   have hU : fmag u * 2 ^ 52 = M * 2 ^ (D + k) := by
    rw [h, Nat.mul_assoc, Nat.mul_comm (2 ^ D), ← Nat.mul_assoc, a5, Nat.mul_assoc, ← Nat.pow_add, Nat.add_comm k D]
   by_cases hd : 52 ≤ D + k
   ·obtain ⟨d, hd2⟩ : ∃ d, D + k = d + 52 := ⟨D + k - 52, by omega⟩
    rw [hd2] at hU
    have h2 : M * 2 ^ d = fmag u := pow_cancel (x := M) (y := fmag u) hU.symm
    rw [← fmag_make M d a1 a2] at h2
    have h3 := fmag_inj h2
    exact ldexp_sub_n y h0 (by omega) h1 a1 a2 a3 a4 (by omega) hd (by omega) (by rw [show D + k - 52 = d by omega]; exact h3.symm) w
   ·refine ldexp_sub_d (u := (D + k + 1) * 4503599627370496 + M) y h0 (by omega) h1 a1 a2 a3 a4 (by omega) rfl ?_ w
    obtain ⟨J, hJ⟩ : ∃ J : Nat, J = 969 := ⟨_, rfl⟩
    obtain ⟨L, hL⟩ : ∃ L : Nat, L = 1074 := ⟨_, rfl⟩
    have e1 := fmag_make 4503599627370496 J (by omega) (by omega)
    rw [show J * 4503599627370496 + 4503599627370496 = 4368491638549381120 by rw [hJ]] at e1
    refine mul_exact (K := L) (by omega) (by omega) hu hL ?_
    have h2 : fmag u * 2 ^ L = fmag u * 2 ^ 52 * 2 ^ (J + 53) := by rw [Nat.mul_assoc, ← Nat.pow_add, show 52 + (J + 53) = L by omega]
    rw [e1, fmag_make _ _ a1 a2, h2, hU, show (4503599627370496 : Nat) = 2 ^ 52 from rfl, ← Nat.pow_add, Nat.mul_left_comm, ← Nat.pow_add, Nat.mul_assoc, ← Nat.pow_add, show 52 + J + (D + k + 1) = D + k + (J + 53) by omega]
theorem Ldexp_rep {y D u : Nat} (h0 : 0 < y) (hy : y < 9218868437227405312) (hu : u < 9218868437227405312) (h : fmag u = fmag y * 2 ^ D) (w : World) :
  Cq 206 #[.float .f64 y, .int .i64 (D : Nat)] (.float .f64 u) w := by
 have C := Lib.hid (ldexp_rep h0 hy hu h w)
 clear h0 hy hu h
 go_enter Tryz.func206, Tryz.ntmps206
 go_wp2_with fail
 refine C.out.mono ?_
 rintro e w' ⟨rfl, rfl⟩
 go_wp2
 go_ret
 exact ⟨rfl, rfl⟩

end Go.Proofs.YtfcpkdafkmohkaaGreatDoor
namespace Go.Proofs.YtfcpkdafkmohkaaGreatDoor
open Go.RowKit
theorem val_drop_le : ∀ (l : List Nat) (k : Nat), val (l.drop k) ≤ val l := by
 intro l
 induction l with
 | nil => intro k; simp [val]
 | cons a r ih =>
  intro k
  cases k with
  | zero => exact Nat.le_refl _
  | succ k =>
   have := ih k
   simp only [List.drop_succ_cons, val]
   omega
theorem val_drop_next {l : List Nat} {k : Nat} (h : k < l.length) : val (l.drop k) = l.getD k 0 + 4294967296 * val (l.drop (k + 1)) := by
 rw [List.drop_eq_getElem_cons h]
 simp only [val]
 rw [List.getD_eq_getElem?_getD, List.getElem?_eq_getElem h, Option.getD_some]
end Go.Proofs.YtfcpkdafkmohkaaGreatDoor
namespace Go.Proofs.YtfcpkdafkmohkaaGreatDoor
open Go.RowKit
theorem evn_half (v d : Nat) : evn v (d + 1) = v / 2 ^ (d + 1) + (decide (v / 2 ^ d % 2 = 1) && (decide (v % 2 ^ d ≠ 0) || decide (v / 2 ^ (d + 1) % 2 = 1))).toNat := by
 have hP := Nat.two_pow_pos d
 have hr := Nat.mod_lt v hP
 have hp : 2 ^ (d + 1) = 2 * 2 ^ d := by rw [Nat.pow_succ, Nat.mul_comm]
 have hmod : v % 2 ^ (d + 1) = v / 2 ^ d % 2 * 2 ^ d + v % 2 ^ d := by
  rw [hp, Nat.mul_comm 2, Nat.mod_mul, Nat.mul_comm, Nat.add_comm]
 unfold evn
 rw [hmod, hp]
 generalize v / (2 * 2 ^ d) = Q
 generalize v / 2 ^ d = P at *
 generalize v % 2 ^ d = r at *
 generalize 2 ^ d = T at *
 congr 2
 rcases Nat.mod_two_eq_zero_or_one P with h | h
 ·rw [h]
  rw [decide_eq_false (show ¬ 2 * T < 2 * (0 * T + r) by omega), decide_eq_false (show ¬ 2 * T = 2 * (0 * T + r) by omega)]
  rfl
 ·rw [h]
  by_cases h0 : r = 0
  ·subst h0
   rw [decide_eq_false (show ¬ 2 * T < 2 * (1 * T + 0) by omega), decide_eq_true (show 2 * T = 2 * (1 * T + 0) by omega)]
   simp
  ·rw [decide_eq_true (show 2 * T < 2 * (1 * T + r) by omega), decide_eq_true (show r ≠ 0 from h0)]
   simp
theorem one_rw (w : World) : RW (w.alloc (.cells #[.int .u32 1] 42)) (w.heap.size + 1) (some ⟨w.heap.size, 0, none⟩) [1] := ⟨Ws.cons (by omega) Ws.nil, fun _ => by
 refine ⟨w.heap.size, 0, rfl, by omega, fun k u hu => ?_⟩
 rw [Nat.zero_add, cell_of_row _ _ _ _ _ _ (heap_alloc_new w (.cells #[.int .u32 1] 42))]
 match k, hu with
 | 0, hu => simp at hu; subst hu; rfl
 | k + 1, hu => simp at hu⟩
theorem and_one32 (x : Nat) (hx : x < 4294967296) : bits BinOp.and IntKind.u32 (x : Int) 1 = ((x % 2 : Nat) : Int) := by
 have h := bit_and x 0 hx
 rw [Nat.pow_zero, Nat.div_one] at h
 rw [← h]
 congr 1
 simp
theorem wds_pos {n : Nat} (h : 0 < n) : 0 < (wds n).length := by
 rcases Nat.eq_zero_or_pos (wds n).length with h0 | h0
 ·have := wds_val n
  rw [List.length_eq_zero_iff.1 h0] at this
  simp only [val] at this
  omega
 ·exact h0
end Go.Proofs.YtfcpkdafkmohkaaGreatDoor
namespace Go.Proofs.YtfcpkdafkmohkaaGreatDoor
open Go.RowKit
def OneP (L : List Nat) (N : Nat) (w : World) (e : Ending) (w' : World) : Prop := ∃ A c, e = .returned (.tuple #[.slice A N c, .int .i64 0]) ∧ (N ≤ c ∧ RW w' w'.heap.size A L) ∧ Below w.heap.size w w'
theorem NatPost.one {v N : Nat} {w w' : World} {e : Ending} (h : NatPost v w e w') (hl : lngB v = false) (hN : (wds v).length = N) : OneP (wds v) N w e w' := by
 obtain ⟨A, c, h1, h2, h3⟩ := h.get hl
 rw [hN] at h1 h2
 exact ⟨A, c, h1, h2, h3⟩
end Go.Proofs.YtfcpkdafkmohkaaGreatDoor
namespace Go.Proofs.YtfcpkdafkmohkaaGreatDoor
structure LongT (A D n M i : Nat) (R Q : List Nat) : Prop where
 lenR : R.length = M + n
 lenQ : Q.length = M
 wsR : Ws R
 wsQ : Ws Q
 sum : val R + 4294967296 ^ i * (val (Q.drop i) * D) = A
 rest : val (R.drop i) < D
theorem LongT.start {va vb s la n M : Nat} {R : List Nat} (hR : Ws R) (hl : R.length = M + n) (hM : la + 1 = M + n) (hn : 0 < n) (ha : va < 4294967296 ^ la) (hb : 4294967296 ^ (n - 1) ≤ vb) (hv : val R = 2 ^ s * va) :
  LongT (2 ^ s * va) (2 ^ s * vb) n M M R (List.replicate M 0) := by
 refine ⟨hl, List.length_replicate, hR, Ws.zeros _, ?_, ?_⟩
 ·rw [List.drop_of_length_le (by rw [List.length_replicate]; exact Nat.le_refl _)]
  simp [val, hv]
 ·have e := val_split R M (by omega)
  rw [hv] at e
  have e2 : 4294967296 ^ la = 4294967296 ^ M * 4294967296 ^ (n - 1) := by rw [← Nat.pow_add]; congr 1; omega
  have h1 : 2 ^ s * va < 2 ^ s * (4294967296 ^ M * 4294967296 ^ (n - 1)) := by rw [← e2]; exact Nat.mul_lt_mul_of_pos_left ha (Nat.two_pow_pos s)
  have h2 : 4294967296 ^ M * val (R.drop M) < 4294967296 ^ M * (2 ^ s * 4294967296 ^ (n - 1)) := by
   have : 4294967296 ^ M * (2 ^ s * 4294967296 ^ (n - 1)) = 2 ^ s * (4294967296 ^ M * 4294967296 ^ (n - 1)) := by grind
   omega
  have h3 := Nat.lt_of_mul_lt_mul_left h2
  exact Nat.lt_of_lt_of_le h3 (Nat.mul_le_mul_left _ hb)
theorem LongT.part {A D n M i : Nat} {R Q : List Nat} (h : LongT A D n M (i + 1) R Q) (hi : i < M) (hD : D < 4294967296 ^ n) :
  val ((R.drop i).take (n + 1)) = val (R.drop i) ∧ val ((R.drop i).take (n + 1)) < 4294967296 * D := by
 have e := val_drop_cons R i (by have := h.lenR; omega)
 have h1 := h.wsR.getD i
 have h2 := h.rest
 have h3 : val (R.drop i) < 4294967296 * D := by
  have : 4294967296 * (val (R.drop (i + 1)) + 1) ≤ 4294967296 * D := Nat.mul_le_mul_left _ h2
  omega
 have h4 : val (R.drop i) < 4294967296 ^ (n + 1) := by
  rw [Nat.pow_succ, Nat.mul_comm]
  exact Nat.lt_trans h3 (Nat.mul_lt_mul_of_pos_left hD (by omega))
 have h5 := val_take_small h4
 exact ⟨h5, by rw [h5]; exact h3⟩
theorem LongT.next {A D n M i : Nat} {R Q S : List Nat} (h : LongT A D n M (i + 1) R Q) (hi : i < M) (hD : D < 4294967296 ^ n) (hD0 : 0 < D)
  (hlen : S.length = R.length) (hws : Ws S) (hfar : ∀ j, j < i ∨ i + (n + 1) ≤ j → S.getD j 0 = R.getD j 0)
  (hs : val ((S.drop i).take (n + 1)) = val ((R.drop i).take (n + 1)) % D) :
  LongT A D n M i S (Q.set i (val ((R.drop i).take (n + 1)) / D)) := by
 obtain ⟨p1, p2⟩ := h.part hi hD
 obtain ⟨h1, h2, h3, h4, h5, h6⟩ := h
 have hq : val ((R.drop i).take (n + 1)) / D < 4294967296 := by rw [Nat.div_lt_iff_lt_mul hD0]; exact p2
 have r1 := val_split (R.drop i) (n + 1) (by rw [List.length_drop]; omega)
 have s1 := val_split (S.drop i) (n + 1) (by rw [List.length_drop]; omega)
 have e1 : val ((S.drop i).drop (n + 1)) = val ((R.drop i).drop (n + 1)) := by
  rw [List.drop_drop, List.drop_drop]
  exact val_eq (fun j => by rw [getD_drop, getD_drop]; exact hfar _ (.inr (by omega)))
 have e2 : 4294967296 ^ (n + 1) * val ((R.drop i).drop (n + 1)) = 0 := by omega
 rw [e1, e2, Nat.add_zero] at s1
 have e3 : val (R.take i) = val (S.take i) := by
  rw [take_congr (l := R) (m := S) i (by omega) (by omega) (fun j hj => (hfar j (.inl hj)).symm)]
 have r2 := val_split R i (by omega)
 have s2 := val_split S i (by omega)
 have e4 : val (R.drop i) = val (S.drop i) + val (R.drop i) / D * D := by
  rw [s1, hs, p1, Nat.mul_comm]
  exact (Nat.mod_add_div _ _).symm
 have q1 := val_drop_cons (Q.set i (val ((R.drop i).take (n + 1)) / D)) i (by rw [List.length_set]; omega)
 rw [getD_set_eq (by omega)] at q1
 have e5 : (Q.set i (val ((R.drop i).take (n + 1)) / D)).drop (i + 1) = Q.drop (i + 1) := by
  rw [List.drop_set, if_pos (by omega)]
 rw [e5] at q1
 refine ⟨by omega, by rw [List.length_set]; exact h2, hws, h4.set hq, ?_, ?_⟩
 ·rw [q1, s2, ← e3, p1]
  rw [r2] at h5
  rw [Nat.pow_succ] at h5
  generalize val (R.drop i) / D = q at *
  generalize val (Q.drop (i + 1)) = V at *
  generalize 4294967296 ^ i = K at *
  rw [e4] at h5
  grind
 ·rw [s1, hs]; exact Nat.mod_lt _ hD0
theorem LongT.fin {A D n M : Nat} {R Q : List Nat} (h : LongT A D n M 0 R Q) (hD0 : 0 < D) : val Q = A / D ∧ val R = A % D := by
 obtain ⟨h1, h2, h3, h4, h5, h6⟩ := h
 rw [Nat.pow_zero, Nat.one_mul, List.drop_zero] at h5
 rw [List.drop_zero] at h6
 have e1 : A / D = val Q := by
  rw [← h5, Nat.add_mul_div_right _ _ hD0, Nat.div_eq_of_lt h6, Nat.zero_add]
 have e2 := Nat.mod_add_div A D
 rw [e1] at e2
 refine ⟨e1.symm, ?_⟩
 rw [Nat.mul_comm] at e2
 omega
/-! ### bit by bit -/
theorem or_bit (x s : Nat) (h : x / 2 ^ s % 2 = 0) : x ||| 2 ^ s = x + 2 ^ s := by
 have h1 := Nat.mod_pow_succ (b := 2) (x := x) (k := s)
 rw [h, Nat.mul_zero] at h1
 have h2 := Nat.mod_add_div x (2 ^ (s + 1))
 rw [h1, Nat.add_zero] at h2
 have hl : x % 2 ^ s < 2 ^ s := Nat.mod_lt _ (Nat.two_pow_pos s)
 generalize x % 2 ^ s = l at *
 generalize x / 2 ^ (s + 1) = q at *
 have hp : 2 ^ (s + 1) = 2 * 2 ^ s := by rw [Nat.pow_succ, Nat.mul_comm]
 have e1 : x = 2 ^ (s + 1) * q ||| l := by rw [← Nat.two_pow_add_eq_or_of_lt (by omega), Nat.add_comm]; exact h2.symm
 have e2 : 2 ^ s * 1 ||| l = 2 ^ s + l := by rw [← Nat.two_pow_add_eq_or_of_lt hl, Nat.mul_one]
 rw [Nat.mul_one] at e2
 have e3 : x ||| 2 ^ s = 2 ^ (s + 1) * q ||| (2 ^ s + l) := by rw [e1, Nat.or_assoc, Nat.or_comm l, e2]
 rw [e3, ← Nat.two_pow_add_eq_or_of_lt (by omega)]
 omega
theorem half_div {X v bit : Nat} (hv : 0 < v) (hb : bit < 2) :
  (v ≤ 2 * (X % v) + bit → (2 * X + bit) / v = 2 * (X / v) + 1 ∧ (2 * X + bit) % v = 2 * (X % v) + bit - v) ∧
  (2 * (X % v) + bit < v → (2 * X + bit) / v = 2 * (X / v) ∧ (2 * X + bit) % v = 2 * (X % v) + bit) := by
 have e := Nat.mod_add_div X v
 have hr := Nat.mod_lt X hv
 generalize X % v = r at *
 generalize X / v = q at *
 refine ⟨fun h => ?_, fun h => ?_⟩
 ·have e2 : 2 * X + bit = (2 * r + bit - v) + v * (2 * q + 1) := by
   have : v * (2 * q + 1) = 2 * (v * q) + v := by grind
   omega
  rw [e2, Nat.add_mul_div_left _ _ hv, Nat.add_mul_mod_self_left, Nat.div_eq_of_lt (by omega), Nat.mod_eq_of_lt (by omega)]
  omega
 ·have e2 : 2 * X + bit = (2 * r + bit) + v * (2 * q) := by
   have : v * (2 * q) = 2 * (v * q) := by grind
   omega
  rw [e2, Nat.add_mul_div_left _ _ hv, Nat.add_mul_mod_self_left, Nat.div_eq_of_lt h, Nat.mod_eq_of_lt h]
  omega
structure HalfT (a : List Nat) (v i : Nat) (Q : List Nat) (r : Nat) : Prop where
 len : Q.length = a.length
 ws : Ws Q
 sum : val Q = 2 ^ i * (val a / 2 ^ i / v)
 rest : r = val a / 2 ^ i % v
theorem HalfT.start {a : List Nat} (ha : Ws a) (v : Nat) : HalfT a v (32 * a.length) (List.replicate a.length 0) 0 := by
 have h := val_lt ha
 rw [pow32] at h
 refine ⟨List.length_replicate, Ws.zeros _, ?_, ?_⟩
 ·rw [val_zeros, Nat.div_eq_of_lt h, Nat.zero_div, Nat.mul_zero]
 ·rw [Nat.div_eq_of_lt h, Nat.zero_mod]
theorem half_bit {a : List Nat} (ha : Ws a) (j s : Nat) (hj : j ≤ a.length) (hs : s < 32) : val a / 2 ^ (32 * j + s) = 2 * (val a / 2 ^ (32 * j + s + 1)) + a.getD j 0 / 2 ^ s % 2 := by
 have h := bit_word ha j s hj hs
 rw [← h, Nat.pow_succ, ← Nat.div_div_eq_div_mul]
 omega
theorem HalfT.down {a : List Nat} {v j s : Nat} {Q : List Nat} {r : Nat} (h : HalfT a v (32 * j + s + 1) Q r) (ha : Ws a) (hv : 0 < v) (hj : j < a.length) (hs : s < 32) (hlt : 2 * r + a.getD j 0 / 2 ^ s % 2 < v) :
  HalfT a v (32 * j + s) Q (2 * r + a.getD j 0 / 2 ^ s % 2) := by
 obtain ⟨h1, h2, h3, h4⟩ := h
 have e := half_bit ha j s (by omega) hs
 have hb : a.getD j 0 / 2 ^ s % 2 < 2 := Nat.mod_lt _ (by omega)
 rw [h4] at hlt
 obtain ⟨g1, g2⟩ := (half_div (X := val a / 2 ^ (32 * j + s + 1)) hv hb).2 hlt
 refine ⟨h1, h2, ?_, ?_⟩
 ·rw [h3, e, g1, Nat.pow_succ]; grind
 ·rw [e, g2, h4]
theorem HalfT.up {a : List Nat} {v j s : Nat} {Q : List Nat} {r : Nat} (h : HalfT a v (32 * j + s + 1) Q r) (ha : Ws a) (hv : 0 < v) (hj : j < a.length) (hs : s < 32) (hle : v ≤ 2 * r + a.getD j 0 / 2 ^ s % 2) :
  Q.getD j 0 ||| 2 ^ s < 4294967296 ∧ HalfT a v (32 * j + s) (Q.set j (Q.getD j 0 ||| 2 ^ s)) (2 * r + a.getD j 0 / 2 ^ s % 2 - v) := by
 obtain ⟨h1, h2, h3, h4⟩ := h
 have e := half_bit ha j s (by omega) hs
 have hb : a.getD j 0 / 2 ^ s % 2 < 2 := Nat.mod_lt _ (by omega)
 rw [h4] at hle
 obtain ⟨g1, g2⟩ := (half_div (X := val a / 2 ^ (32 * j + s + 1)) hv hb).1 hle
 have hbit := bit_word h2 j s (by omega) hs
 have hz : val Q / 2 ^ (32 * j + s) % 2 = 0 := by
  rw [h3, Nat.pow_succ, Nat.mul_assoc, Nat.mul_div_cancel_left _ (Nat.two_pow_pos _)]
  omega
 rw [hz] at hbit
 have hor := or_bit _ s hbit.symm
 have hlt : Q.getD j 0 ||| 2 ^ s < 4294967296 := Nat.or_lt_two_pow (n := 32) (h2.getD j) (Nat.pow_lt_pow_right (by omega) hs)
 refine ⟨hlt, by rw [List.length_set]; exact h1, h2.set hlt, ?_, ?_⟩
 ·have q1 := val_split Q j (by omega)
  have q2 := val_drop_cons Q j (by omega)
  have s1 := val_split (Q.set j (Q.getD j 0 ||| 2 ^ s)) j (by rw [List.length_set]; omega)
  have s2 := val_drop_cons (Q.set j (Q.getD j 0 ||| 2 ^ s)) j (by rw [List.length_set]; omega)
  have e7 : (Q.set j (Q.getD j 0 ||| 2 ^ s)).drop (j + 1) = Q.drop (j + 1) := by rw [List.drop_set, if_pos (by omega)]
  rw [getD_set_eq (by omega), e7] at s2
  rw [take_congr (l := Q.set j _) (m := Q) j (by rw [List.length_set]; omega) (by omega) (fun k hk => getD_set_ne (by omega))] at s1
  have e5 : val (Q.set j (Q.getD j 0 ||| 2 ^ s)) = val Q + 2 ^ (32 * j + s) := by
   rw [s1, s2, q1, q2, hor, Nat.pow_add, pow32]; grind
  rw [e5, h3, e, g1, Nat.pow_succ]; grind
 ·rw [e, g2, h4]
theorem HalfT.fin {a : List Nat} {v : Nat} {Q : List Nat} {r : Nat} (h : HalfT a v 0 Q r) : val Q = val a / v ∧ r = val a % v := by
 obtain ⟨h1, h2, h3, h4⟩ := h
 rw [Nat.pow_zero, Nat.div_one] at h3 h4
 exact ⟨by omega, h4⟩

end Go.Proofs.YtfcpkdafkmohkaaGreatDoor
namespace Go.Proofs.YtfcpkdafkmohkaaGreatDoor
open Go.RowKit
def gues (hi lo y : Nat) : Nat := if y ≤ hi then 4294967295 else (hi * 4294967296 + lo) / y
set_option maxHeartbeats 1000000 in
theorem guess_any (hi lo y : Nat) (w : World) (hl : lo < 4294967296) (hy : y < 4294967296) :
  Cp 252 #[.int .u32 hi, .int .u32 lo, .int .u32 y] w fun e w' => e = .returned (.int .u32 (gues hi lo y : Nat)) ∧ ∃ j, w' = w.drewN j := by
 unfold gues
 by_cases h : y ≤ hi
 ·rw [if_pos h]
  have y1 : (y : Int) ≤ (hi : Int) := by omega
  clear hl hy h
  go_enter Tryz.func252, Tryz.ntmps252
  go_wp2
  go_ret
  exact ⟨rfl, 0, rfl⟩
 ·rw [if_neg h]
  have C1 := Lib.hid (fun W => div32_any hi lo y W (by omega) hl hy)
  have y1 : ¬ (y : Int) ≤ (hi : Int) := by omega
  obtain ⟨q, hq⟩ : ∃ q, (hi * 4294967296 + lo) / y = q := ⟨_, rfl⟩
  obtain ⟨r, hr⟩ : ∃ r, (hi * 4294967296 + lo) % y = r := ⟨_, rfl⟩
  rw [hq, hr] at C1
  rw [hq]
  clear hl hy h hq hr
  go_enter Tryz.func252, Tryz.ntmps252
  go_wp2_with fail
  refine (C1.out _).mono ?_
  rintro e w' ⟨rfl, j, rfl⟩
  go_wp2
  go_ret
  exact ⟨rfl, j, rfl⟩

end Go.Proofs.YtfcpkdafkmohkaaGreatDoor
namespace Go.Proofs.YtfcpkdafkmohkaaGreatDoor
open Go.RowKit
def TakePost (g : Nat) (R : List Nat) (o : Nat) (b : List Nat) (x : Nat) (w : World) (e : Ending) (w' : World) : Prop :=
 ∃ S q, e = .returned (.int .u32 (q : Nat)) ∧ Row w' g S ∧ TakeT R o b x b.length S q ∧ Only g w w'
set_option maxRecDepth 100000 in
set_option maxHeartbeats 2000000 in
theorem subTimes_any (g o n c : Nat) (R : List Nat) (A : Option Addr) (m d : Nat) (b : List Nat) (x B : Nat) (w : World) (hR : Row w g R) (hRw : Ws R) (ho : o + n ≤ R.length) (hmn : m ≤ n) (hbl : b.length = m) (hm0 : 0 < m)
  (hB : RW w B A b) (hgB : B ≤ g) (hx : x < 4294967296) (hm : R.length ≤ 35184372088832) :
  Cp 253 #[.slice (some ⟨g, o, none⟩) n c, .slice A m d, .int .u32 x] w (TakePost g R o b x w) := by
 obtain ⟨a, p, rfl, hab, hc⟩ := hB.2 (by omega)
 have HBW := Lib.hid hB.1
 have HRW := Lib.hid hRw
 have HBL := Lib.hid hbl
 have HC := Lib.hid hc
 have HX := Lib.hid hx
 have HR := Lib.hid hR
 have hm1 : (m : Int) ≤ (n : Int) := by omega
 have hn1 : (n : Int) ≤ 35184372088832 := by omega
 have HO := Lib.hid ho
 have hag : a < g := by omega
 have h0' : (0 : Int) ≤ (x : Int) := by omega
 clear hR hRw ho hmn hbl hB hgB hx hm hc hm0
 go_enter Tryz.func253, Tryz.ntmps253
 go_wp2
 go_loopw [14, 7] (fun i v wr => ∃ (k : Nat) (S : List Nat) (q : Nat), i = .int .i64 k ∧ v = .int .u64 (q : Nat) ∧ k ≤ m ∧ Hid (Row wr g S) ∧ Hid (TakeT R o b x k S q) ∧ Only g w wr) (fun i _ _ => m - (intOf i).toNat)
 case atStart => exact ⟨0, R, 0, rfl, rfl, Nat.zero_le _, HR, Lib.hid (TakeT.start o b x HRW.out), Only.refl _ _⟩
 case round =>
  obtain ⟨k, S, q, rfl, rfl, hk, HS, HT, hbw⟩ := hrel
  by_cases hlt : k < m
  ·have hkb : k < b.length := by rw [HBL.out]; exact hlt
   have hok : o + k < R.length := by have := HO.out; omega
   obtain ⟨e1, hnext⟩ := HT.out.next HRW.out HBW.out HX.out hok
   have hS := HS.out.cell (o + k) (by rw [HT.out.len]; exact hok)
   have hfz := HS.out.frozen (o + k)
   have hcl := HC.out k _ (getD_some hkb)
   rw [← hbw.below.cell (p := ⟨a, p + k, none⟩) hag] at hcl
   obtain ⟨l1, l2⟩ := takC_le (k := k) HBW.out HX.out HT.out.low
   have hset := HS.out.set (o + k) (takW (R.getD (o + k) 0) (takC b x k q))
   have HE := Lib.hid (show takC b x k q = q + b.getD k 0 * x from rfl)
   have u1 := HBW.out.getD k
   have r1 := HRW.out.getD (o + k)
   have q1 := HT.out.low
   rw [e1] at hS
   obtain ⟨t, ht⟩ : ∃ t, takC b x k q = t := ⟨_, rfl⟩
   obtain ⟨u, hu⟩ : ∃ u, b.getD k 0 = u := ⟨_, rfl⟩
   obtain ⟨r, hr⟩ : ∃ r, R.getD (o + k) 0 = r := ⟨_, rfl⟩
   rw [ht, hu] at HE
   rw [ht] at l2
   rw [hr, ht] at hnext hset
   rw [hu] at hcl l1 u1
   rw [hr] at hS r1
   have low := tak_low r t l2
   have C1 := Lib.hid (fun W => show Cp 212 #[.int .u32 (r : Nat), .int .u32 ((t : Int) % 4294967296), .int .u32 0] W fun e w' => e = .returned (.tuple #[.int .u32 (takW r t : Nat), .int .u32 (takB r t : Nat)]) ∧ W = w' from by
    have := sub32_any r (t % 4294967296) 0 W r1 (by omega) (by omega)
    rw [show ((t % 4294967296 : Nat) : Int) = (t : Int) % 4294967296 by omega] at this
    exact this)
   obtain ⟨W', hW'⟩ : ∃ W', takW r t = W' := ⟨_, rfl⟩
   obtain ⟨B', hB'⟩ : ∃ B', takB r t = B' := ⟨_, rfl⟩
   rw [hW', hB'] at C1 hnext
   rw [hW'] at hset
   rw [hB'] at low
   have hB1 : B' ≤ 1 := by rw [← hB']; unfold takB; split <;> omega
   have HNX := Lib.hid hnext
   have k1 : IntKind.u64.wrap (u : Int) = (u : Int) := IntWalk.u64_in _ (by omega)
   have k2 : IntKind.u64.wrap (x : Int) = (x : Int) := IntWalk.u64_in _ (by have := HX.out; omega)
   have k4 : IntKind.u64.wrap ((u : Int) * (x : Int)) = (u : Int) * (x : Int) := IntWalk.u64_in _ (by
    have : ((u * x : Nat) : Int) = (u : Int) * (x : Int) := Int.natCast_mul u x
    omega)
   have k6 : IntKind.u64.wrap ((q : Int) + (u : Int) * (x : Int)) = (t : Int) := by
    have : ((u * x : Nat) : Int) = (u : Int) * (x : Int) := Int.natCast_mul u x
    have := HE.out
    rw [IntWalk.u64_in _ (by omega)]
    omega
   obtain ⟨T, hT⟩ : ∃ T, t / 4294967296 + B' = T := ⟨_, rfl⟩
   have k7 : IntKind.u64.wrap (B' : Int) = (B' : Int) := IntWalk.u64_in _ (by omega)
   have k8 : IntKind.u64.wrap ((t : Int) / 4294967296 + (B' : Int)) = (T : Int) := by rw [IntWalk.u64_in _ (by omega)]; omega
   rw [hT] at HNX
   have HSET := Lib.hid hset
   clear e1 hnext l1 l2 u1 r1 q1 ht hu hr hkb hok hset low hW' hB' hB1 hT HE
   go_wp2_with (go_at_call 212; refine (C1.out _).mono ?_; rintro e w' ⟨rfl, rfl⟩)
   go_roundw
   case rel => exact ⟨k + 1, _, T, by go_num, rfl, by omega, HSET, HNX, hbw.setCell _⟩
   case measure => simp [intOf]; omega
  ·have HZ := Lib.hid (show k = b.length by rw [HBL.out]; omega)
   have q1 := HT.out.low
   have k1 : IntKind.u32.wrap (q : Int) = (q : Int) := IntWalk.u32_in _ (by omega)
   have HT2 := Lib.hid (HZ.out ▸ HT.out : TakeT R o b x b.length S q)
   clear q1
   go_wp2
   go_ret
   exact ⟨S, q, rfl, HS.out, HT2.out, hbw⟩
theorem quiet_plus {P : Program} {f : FuncId} {args : Array Value} {w : World} {n : Nat} {v : Value}
  (h : Calls P f args (w.drewN n) fun e w' => e = .returned v ∧ ∃ j, w' = (w.drewN n).drewN j) : Calls P f args (w.drewN n) fun e w'' => e = .returned v ∧ ∃ m, w'' = w.drewN m :=
 h.mono fun _ _ ⟨he, j, hj⟩ => ⟨he, n + j, by rw [hj, World.drewN_drewN]⟩
def StepPost (g : Nat) (R : List Nat) (o : Nat) (b : List Nat) (w : World) (e : Ending) (w' : World) : Prop :=
 ∃ S, e = .returned (.int .u32 ((val ((R.drop o).take (b.length + 1)) / val b : Nat) : Int)) ∧ Row w' g S ∧ S.length = R.length ∧ Ws S ∧ (∀ j, j < o ∨ o + (b.length + 1) ≤ j → S.getD j 0 = R.getD j 0) ∧
  val ((S.drop o).take (b.length + 1)) = val ((R.drop o).take (b.length + 1)) % val b ∧ Only g w w'
theorem guess_high {R : List Nat} {o N : Nat} {b : List Nat} (hR : Ws R) (hb : Ws b) (hN : b.length = N + 1) (ho : o + b.length < R.length) (hb0 : 0 < val b) (htop : 0 < b.getD N 0)
  (hP : val ((R.drop o).take (b.length + 1)) < 4294967296 * val b) :
  val ((R.drop o).take (b.length + 1)) / val b ≤ gues (R.getD (o + (N + 1)) 0) (R.getD (o + N) 0) (b.getD N 0) ∧ gues (R.getD (o + (N + 1)) 0) (R.getD (o + N) 0) (b.getD N 0) < 4294967296 := by
 have hlo := hR.getD (o + N)
 have hy := hb.getD N
 refine ⟨?_, ?_⟩
 ·unfold gues
  split
  ·have : val ((R.drop o).take (b.length + 1)) / val b < 4294967296 := by rw [Nat.div_lt_iff_lt_mul hb0]; exact hP
   omega
  ·rw [hN]
   refine guess_div (p' := val ((R.drop o).take N)) (d' := val (b.take N)) (K := 4294967296 ^ N) ?_ ?_ ?_ htop
   ·rw [val_part_succ R o (N + 1) (by omega), val_part_succ R o N (by omega), Nat.pow_succ]
    grind
   ·have := val_lt ((hR.drop o).take N)
    rwa [List.length_take, List.length_drop, Nat.min_eq_left (by omega)] at this
   ·have := val_take_succ b N (by omega)
    rw [List.take_of_length_le (by omega)] at this
    rw [this]
 ·unfold gues
  split
  ·omega
  ·next h =>
   rw [Nat.div_lt_iff_lt_mul htop]
   have : (R.getD (o + (N + 1)) 0 + 1) * 4294967296 ≤ b.getD N 0 * 4294967296 := Nat.mul_le_mul_right _ (by omega)
   omega
set_option maxRecDepth 100000 in
set_option maxHeartbeats 4000000 in
theorem step_any (g o n c : Nat) (R : List Nat) (A : Option Addr) (N m d : Nat) (b : List Nat) (B : Nat) (w : World) (hR : Row w g R) (hRw : Ws R) (hn : n = N + 2) (hmN : m = N + 1) (ho : o + n ≤ R.length) (hbl : b.length = N + 1)
  (hB : RW w B A b) (hgB : B ≤ g) (hm : R.length ≤ 35184372088832) (hb0 : 0 < val b) (htop : 0 < b.getD N 0) (hP : val ((R.drop o).take (b.length + 1)) < 4294967296 * val b) :
  Cp 239 #[.slice (some ⟨g, o, none⟩) n c, .slice A m d] w (StepPost g R o b w) := by
 subst hn
 subst hmN
 obtain ⟨a, p, rfl, hab, hc⟩ := hB.2 (by omega)
 obtain ⟨gh1, gh2⟩ := guess_high hRw hB.1 hbl (by omega) hb0 htop hP
 have d1 := hc N _ (getD_some (by omega))
 have d2 := hR.cell (o + (N + 1)) (by omega)
 have d3 := hR.cell (o + N) (by omega)
 have l1 := hRw.getD (o + (N + 1))
 have l2 := hRw.getD (o + N)
 have l3 := hB.1.getD N
 have C1 := Lib.hid (fun W => guess_any (R.getD (o + (N + 1)) 0) (R.getD (o + N) 0) (b.getD N 0) W l2 l3)
 obtain ⟨x, hx⟩ : ∃ x, gues (R.getD (o + (N + 1)) 0) (R.getD (o + N) 0) (b.getD N 0) = x := ⟨_, rfl⟩
 rw [hx] at C1 gh1 gh2
 obtain ⟨u1, hu1⟩ : ∃ u, R.getD (o + (N + 1)) 0 = u := ⟨_, rfl⟩
 obtain ⟨u2, hu2⟩ : ∃ u, R.getD (o + N) 0 = u := ⟨_, rfl⟩
 obtain ⟨u3, hu3⟩ : ∃ u, b.getD N 0 = u := ⟨_, rfl⟩
 rw [hu1, hu2, hu3] at C1
 rw [hu1] at d2 l1
 rw [hu2] at d3
 rw [hu3] at d1
 have C2 := Lib.hid (fun j => subTimes_any g o (N + 2) c R (some ⟨a, p, none⟩) (N + 1) d b x B (w.drewN j) (hR.drewN j) hRw ho (by omega) hbl (by omega) (hB.drewN j) hgB gh2 hm)
 have HRW := Lib.hid hRw
 have HBL := Lib.hid hbl
 have HB := Lib.hid hB
 have HGB := Lib.hid hgB
 have HO := Lib.hid ho
 have HB0 := Lib.hid hb0
 have HG := Lib.hid gh1
 have HG2 := Lib.hid gh2
 have HU1 := Lib.hid hu1
 have HM := Lib.hid hm
 have hN1 : (N : Int) + 2 ≤ 35184372088832 := by omega
 have hoN1 : (o : Int) + (N : Int) + 2 ≤ 35184372088832 := by omega
 have L1 := Lib.hid l1
 clear hR hRw ho hbl hB hgB hm hb0 htop hP hc gh1 gh2 l1 l2 l3 hx hu1 hu2 hu3 hab
 go_enter Tryz.func239, Tryz.ntmps239
 go_wp2
 go_quiet ((go_at_call 252; exact quiet_plus (C1.out _)))
 go_wp2_with fail
 refine (C2.out _).mono ?_
 rintro e w2 ⟨S, q, rfl, hrow, ht, hb2⟩
 have hbw2 : Only g w w2 := ((Only.refl _ _).drewN nq).trans hb2
 have hql := ht.low
 have hSl := ht.len
 obtain ⟨e1, hst⟩ := ht.step (by rw [HBL.out]; have := HO.out; omega) HRW.out HG2.out HG.out
 rw [HBL.out, HU1.out] at e1 hst
 have hcell := hrow.cell (o + (N + 1)) (by rw [hSl]; have := HO.out; omega)
 have hfz := hrow.frozen (o + (N + 1))
 rw [e1] at hcell
 have C3 := Lib.hid (fun W => show Cp 212 #[.int .u32 (u1 : Nat), .int .u32 (q : Nat), .int .u32 0] W fun e w' => e = .returned (.tuple #[.int .u32 ((u1 + 4294967296 * 2 - q - 0) % 4294967296 : Nat), .int .u32 ((if u1 < q + 0 then 1 else 0 : Nat) : Int)]) ∧ W = w' from sub32_any u1 q 0 W L1.out hql (by omega))
 obtain ⟨W3, hW3⟩ : ∃ W3, (u1 + 4294967296 * 2 - q - 0) % 4294967296 = W3 := ⟨_, rfl⟩
 obtain ⟨B3, hB3⟩ : ∃ B3, (if u1 < q + 0 then 1 else 0) = B3 := ⟨_, rfl⟩
 rw [hW3, hB3] at C3 hst
 have HROW := Lib.hid (hrow.set (o + (N + 1)) W3)
 have HST := Lib.hid hst
 have HBW := Lib.hid hbw2
 clear hrow ht hb2 hbw2 hql hSl e1 hst hW3 hB3 C1 C2
 go_wp2_with (go_at_call 212; refine (C3.out _).mono ?_; rintro e w' ⟨rfl, rfl⟩)
 go_loopw [6, 8] (fun ov bv wr => ∃ (of bl : Nat) (S : List Nat), ov = .int .u32 (of : Nat) ∧ bv = .int .u32 (bl : Nat) ∧ Hid (Row wr g S) ∧ Hid (StepT R o b S of bl) ∧ Only g w wr) (fun ov _ _ => (intOf ov).toNat)
 case atStart => exact ⟨x, B3, _, rfl, rfl, HROW, HST, HBW.out.setCell _⟩
 case round =>
  obtain ⟨of, bl, T, rfl, rfl, HR2, HT2, hbw⟩ := hrel
  have hbl : bl = 0 ∨ bl = 1 := by have := HT2.out.low; omega
  rcases hbl with h0 | h0
  ·have b0 : ((bl : Int) == 1) = false := by rw [h0]; rfl
   rw [h0] at HT2
   obtain ⟨f1, f2⟩ := HT2.out.fin HB0.out
   have HF1 := Lib.hid f1
   have HF2 := Lib.hid f2
   clear f1 f2 h0
   go_wp2
   go_ret
   exact ⟨T, congrArg (fun k : Nat => Ending.returned (.int .u32 (k : Int))) HF1.out, HR2.out, HT2.out.len, HT2.out.ws, HT2.out.far, HF2.out, hbw⟩
  ·have b0 : ((bl : Int) == 1) = true := by rw [h0]; rfl
   rw [h0] at HT2
   have HBL1 := Lib.hid h0
   obtain ⟨m1, _⟩ := HT2.out.more HB0.out (by rw [HBL.out]; have := HO.out; omega)
   have hofl := HT2.out.word
   have hTl := HT2.out.len
   have C4 := Lib.hid (addTimes_only g o (N + 2) c T (some ⟨a, p, none⟩) (N + 1) d b 1 B wr HR2.out HT2.out.ws (by rw [hTl]; exact HO.out) (by omega) HBL.out (HB.out.below (hbw.below.mono HGB.out)) HGB.out (by omega) (by rw [hTl]; exact HM.out))
   obtain ⟨k, rfl⟩ : ∃ k, of = k + 1 := ⟨of - 1, by omega⟩
   have k1 : IntKind.u32.wrap (((k + 1 : Nat) : Int) - 1) = (k : Int) := by rw [IntWalk.u32_in _ (by omega)]; omega
   have HTL := Lib.hid hTl
   have hkl : (k : Int) < 4294967296 := by omega
   clear m1 hofl hTl h0
   go_wp2_with fail
   refine C4.out.mono ?_
   rintro e w4 ⟨U, q4, rfl, hrow4, hadd, hb4⟩
   have hbw4 : Only g w w4 := hbw.trans hb4
   have hUl := hadd.len
   have hq4 := hadd.low
   obtain ⟨f1, f2, f3⟩ := HT2.out.back HB0.out (by rw [HBL.out]; have := HO.out; omega) hadd
   rw [HBL.out] at f1 f2 f3
   have hcell4 := hrow4.cell (o + (N + 1)) (by rw [hUl, HTL.out]; have := HO.out; omega)
   have hfz4 := hrow4.frozen (o + (N + 1))
   rw [f1] at hcell4
   have htl := HT2.out.ws.getD (o + (N + 1))
   obtain ⟨u4, hu4⟩ : ∃ u, T.getD (o + (N + 1)) 0 = u := ⟨_, rfl⟩
   rw [hu4] at hcell4 f2 f3 htl
   have C5 := Lib.hid (fun W => show Cp 186 #[.int .u32 (u4 : Nat), .int .u32 (q4 : Nat), .int .u32 0] W fun e w' => e = .returned (.tuple #[.int .u32 ((u4 + q4 + 0) % 4294967296 : Nat), .int .u32 ((u4 + q4 + 0) / 4294967296 : Nat)]) ∧ W = w' from add32_any u4 q4 0 W htl hq4 (by omega))
   obtain ⟨W4, hW4⟩ : ∃ W4, (u4 + q4 + 0) % 4294967296 = W4 := ⟨_, rfl⟩
   obtain ⟨c4, hc4⟩ : ∃ c4, (u4 + q4 + 0) / 4294967296 = c4 := ⟨_, rfl⟩
   rw [hW4, hc4] at C5 f3
   rw [hc4] at f2
   rw [Nat.add_sub_cancel] at f3
   have k2 : IntKind.u32.wrap ((bl : Int) - (c4 : Int)) = ((1 - c4 : Nat) : Int) := by rw [HBL1.out, IntWalk.u32_in _ (by omega)]; omega
   have HROW4 := Lib.hid (hrow4.set (o + (N + 1)) W4)
   have HST4 := Lib.hid f3
   have HBW4 := Lib.hid hbw4
   clear hrow4 hadd hb4 hbw4 hUl hq4 f1 f2 f3 htl hu4 hW4 hc4 C4
   go_wp2_with (go_at_call 186; refine (C5.out _).mono ?_; rintro e w' ⟨rfl, rfl⟩)
   go_roundw
   case rel => exact ⟨k, 1 - c4, _, rfl, rfl, HROW4, HST4, HBW4.out.setCell _⟩
   case measure => simp [intOf]

end Go.Proofs.YtfcpkdafkmohkaaGreatDoor
namespace Go.Proofs.YtfcpkdafkmohkaaGreatDoor
open Go.RowKit
theorem results_tmp3 {fn : Func} {t u v : Tmp} (h : fn.results = #[.tmp t, .tmp u, .tmp v]) (tmps : Array Value) (P : Program) (w : World) :
  (results fn tmps).run P w = .ok (.tuple #[tmps.getD t undef, tmps.getD u undef, tmps.getD v undef]) w := by
 simp [results, h]
def DivT (Q R : List Nat) (t : Nat) (w : World) (e : Ending) (w' : World) : Prop :=
 ∃ A n c C m d, e = .returned (.tuple #[.slice A n c, .slice C m d, .int .i64 (t : Nat)]) ∧ (n = Q.length ∧ n ≤ c ∧ m = R.length ∧ m ≤ d ∧ RW w' w'.heap.size A Q ∧ RW w' w'.heap.size C R) ∧ Below w.heap.size w w'
def divB (v u : Nat) : Bool := !(lngB v || lngB u) && !decide (u = 0)
def divQ (v u : Nat) : List Nat := if divB v u = true then wds (v / u) else []
def divR (v u : Nat) : List Nat := if divB v u = true then wds (v % u) else []
def divK (v u : Nat) : Nat := if (lngB v || lngB u) = true then 3 else if u = 0 then 4 else 0
theorem divB_ok {v u : Nat} (h : (lngB v || lngB u) = false) (hu : 0 < u) : divB v u = true := by
 unfold divB; rw [h, decide_eq_false (by omega)]; rfl
theorem DivT.ok {v u : Nat} {w w' : World} {A C : Option Addr} {n c m d : Nat} (h : (lngB v || lngB u) = false) (hu : 0 < u) (hn : n = (wds (v / u)).length) (hc : n ≤ c) (hm : m = (wds (v % u)).length) (hd : m ≤ d)
  (hA : RW w' w'.heap.size A (wds (v / u))) (hC : RW w' w'.heap.size C (wds (v % u))) (hb : Below w.heap.size w w') : DivT (divQ v u) (divR v u) (divK v u) w (.returned (.tuple #[.slice A n c, .slice C m d, .int .i64 0])) w' := by
 have e0 : divK v u = 0 := by unfold divK; rw [if_neg (by rw [h]; simp), if_neg (by omega)]
 unfold divQ divR
 rw [e0, if_pos (divB_ok h hu), if_pos (divB_ok h hu)]
 exact ⟨A, n, c, C, m, d, rfl, ⟨hn, hc, hm, hd, hA, hC⟩, hb⟩
theorem DivT.long {v u : Nat} {w w' : World} (h : (lngB v || lngB u) = true) (hb : Below w.heap.size w w') : DivT (divQ v u) (divR v u) (divK v u) w (.returned (.tuple #[.slice none 0 0, .slice none 0 0, .int .i64 3])) w' := by
 have e0 : divK v u = 3 := by unfold divK; rw [if_pos h]
 have e1 : divB v u = false := by unfold divB; rw [h]; rfl
 unfold divQ divR
 rw [e0, if_neg (by rw [e1]; simp), if_neg (by rw [e1]; simp)]
 exact ⟨none, 0, 0, none, 0, 0, rfl, ⟨rfl, Nat.le_refl _, rfl, Nat.le_refl _, RW.nil _ _ _, RW.nil _ _ _⟩, hb⟩
theorem DivT.zero {v u : Nat} {w w' : World} (h : (lngB v || lngB u) = false) (hu : u = 0) (hb : Below w.heap.size w w') : DivT (divQ v u) (divR v u) (divK v u) w (.returned (.tuple #[.slice none 0 0, .slice none 0 0, .int .i64 4])) w' := by
 have e0 : divK v u = 4 := by unfold divK; rw [if_neg (by rw [h]; simp), if_pos hu]
 have e1 : divB v u = false := by unfold divB; rw [decide_eq_true hu]; simp
 unfold divQ divR
 rw [e0, if_neg (by rw [e1]; simp), if_neg (by rw [e1]; simp)]
 exact ⟨none, 0, 0, none, 0, 0, rfl, ⟨rfl, Nat.le_refl _, rfl, Nat.le_refl _, RW.nil _ _ _, RW.nil _ _ _⟩, hb⟩
end Go.Proofs.YtfcpkdafkmohkaaGreatDoor
namespace Go.Proofs.YtfcpkdafkmohkaaGreatDoor
open Go.RowKit
theorem lit_u1 (W : World) : RW (W.alloc (.cells #[.int .u32 1] 42)) (W.alloc (.cells #[.int .u32 1] 42)).heap.size (some ⟨W.heap.size, 0, none⟩) [1] := (lit_one W 1 (by omega)).more (by simp)
theorem plus_one (A : Option Addr) (n c : Nat) (l : List Nat) (W : World) (hn : l.length = n) (hm : n ≤ 4096) (h : RW W W.heap.size A l) :
  Cp 103 #[.slice A n c, .slice (some ⟨W.heap.size, 0, none⟩) 1 1] (W.alloc (.cells #[.int .u32 1] 42)) (SlPost (wds (val l + 1)) (W.alloc (.cells #[.int .u32 1] 42))) := by
 have g := lit_u1 W
 have h2 : RW (W.alloc (.cells #[.int .u32 1] 42)) (W.alloc (.cells #[.int .u32 1] 42)).heap.size A l := h.step ((Below.refl _ _).alloc (Nat.le_refl _) _)
 generalize W.alloc (.cells #[.int .u32 1] 42) = W' at *
 exact plus_any A (some ⟨W.heap.size, 0, none⟩) n c 1 1 l [1] W' hn (by omega) h2 rfl (by omega) g
theorem or_one (y s : Nat) (hy : y < 4294967296) (hs : s < 32) : bits BinOp.or IntKind.u32 (y : Int) (2 ^ s % 4294967296) = ((y ||| 2 ^ s : Nat) : Int) := by
 have h : 2 ^ s < 4294967296 := Nat.pow_lt_pow_right (n := 32) (by omega) hs
 rw [← or_u32 y (2 ^ s) hy h, show ((2 : Int) ^ s) = ((2 ^ s : Nat) : Int) by rw [Int.natCast_pow]; rfl]
 generalize 2 ^ s = P at *
 rw [show (P : Int) % 4294967296 = (P : Int) by omega]
set_option maxRecDepth 100000 in
set_option maxHeartbeats 1000000 in
theorem halved_any (A C : Option Addr) (n c m d : Nat) (a b : List Nat) (w : World) (hn : a.length = n) (hm : n ≤ 1024) (h : RW w w.heap.size A a)
  (gn : b.length = m) (gm : m ≤ 1024) (g : RW w w.heap.size C b) (hnb : nrm b = b) (hb0 : 0 < val b) :
  Cp 49 #[.slice A n c, .slice C m d] w (fun e w' => ∃ A2 n2 c2 C2 m2 d2, e = .returned (.tuple #[.slice A2 n2 c2, .slice C2 m2 d2]) ∧ (n2 = (wds (val a / val b)).length ∧ n2 ≤ c2 ∧ m2 = (wds (val a % val b)).length ∧ m2 ≤ d2 ∧ RW w' w'.heap.size A2 (wds (val a / val b)) ∧ RW w' w'.heap.size C2 (wds (val a % val b))) ∧ Below w.heap.size w w') := by
 have hmk := run_make_row' (P := Tryz.prog) 48 42 (.int .u32 0) 4 Tryz.underlying48 infoW rfl .i64 .i64 n (by omega) (by omega) w
 have HROW := Lib.hid (Row.made w n)
 have HBL := Lib.hid (show Below w.heap.size w (w.alloc (.cells (madeCells #[.int .u32 0] n) 42)) from (Below.refl _ _).alloc (Nat.le_refl _) _)
 have HA := Lib.hid h
 have HB := Lib.hid g
 have HN := Lib.hid hn
 have HM := Lib.hid gn
 have HB0 := Lib.hid hb0
 have HNB := Lib.hid hnb
 have HST := Lib.hid (show HalfT a (val b) (32 * n) (List.replicate n 0) 0 by rw [← hn]; exact HalfT.start h.1 _)
 have hn1 : (n : Int) ≤ 1024 := by omega
 have hm1 : (m : Int) ≤ 1024 := by omega
 have hbw : b = wds (val b) := by rw [← nrm_wds g.1, hnb]
 have HBW := Lib.hid (show (wds (val b)).length ≤ 1024 by rw [← hbw, gn]; exact gm)
 clear h g hn gn hb0 hnb hm gm hbw
 go_enter Tryz.func49, Tryz.ntmps49
 go_wp2
 clear hmk
 go_loopw [7, 8] (fun v i wr => ∃ (k : Nat) (Q : List Nat) (r : Nat), i = .int .i64 ((k : Int) - 1) ∧ k ≤ 32 * n ∧ Hid (Sl wr wr.heap.size v (wds r)) ∧ Hid (Row wr w.heap.size Q) ∧ Hid (HalfT a (val b) k Q r) ∧ Below w.heap.size w wr) (fun _ i _ => (intOf i + 1).toNat)
 case atStart => exact ⟨32 * n, _, 0, by rw [Int.natCast_mul]; rfl, Nat.le_refl _, Lib.hid (Sl.nil _ _ _), HROW, HST, HBL.out⟩
 case round =>
  obtain ⟨k, Q, r, rfl, hk, HS, HR, HT, hbw⟩ := hrel
  obtain ⟨A0, c0, rfl, hc0, hr0⟩ := HS.out
  obtain ⟨L0, hL0⟩ : ∃ L, (wds r).length = L := ⟨_, rfl⟩
  rw [hL0] at hc0 ⊢
  have hQl : Q.length = n := by rw [HT.out.len, HN.out]
  by_cases h0 : k = 0
  ·subst h0
   obtain ⟨f1, f2⟩ := HT.out.fin
   have hlt := HR.out.lt
   have C1 := Lib.hid ((rnorm_any (some ⟨w.heap.size, 0, none⟩) n n Q wr.heap.size wr hQl (Nat.le_refl _) (by omega) ((HR.out.rw0 HT.out.ws).more hlt)).mono (fun e w' x => SlPost.of HT.out.ws.nrm x))
   rw [nrm_wds HT.out.ws, f1] at C1
   rw [f2] at hr0 hL0
   have HR0 := Lib.hid hr0
   have HC0 := Lib.hid hc0
   have HL0 := Lib.hid hL0
   clear f1 f2 hlt hr0 hc0 hL0 hQl
   go_wp2_with fail
   refine C1.out.mono ?_
   rintro e w2 ⟨v2, rfl, ⟨A2, c2, rfl, hc2, r2⟩, b2⟩
   have H2 := Lib.hid r2
   have H3 := Lib.hid hc2
   have H4 := Lib.hid (HR0.out.step b2)
   have H5 := Lib.hid (below_le hbw b2)
   clear r2 hc2 b2 C1
   go_wp2
   go_ret2
   exact ⟨A2, _, c2, A0, L0, c0, rfl, ⟨rfl, H3.out, HL0.out.symm, HC0.out, H2.out, H4.out⟩, H5.out⟩
  ·obtain ⟨I, rfl⟩ : ∃ I, k = I + 1 := ⟨k - 1, by omega⟩
   rw [show (((I + 1 : Nat) : Int) - 1) = (I : Int) by omega]
   obtain ⟨j, s, hjs, hs⟩ : ∃ j s, I = 32 * j + s ∧ s < 32 := ⟨I / 32, I % 32, by omega, by omega⟩
   have hjn : j < n := by omega
   have hja : j < a.length := by rw [HN.out]; exact hjn
   have hrv : r < val b := by have := HT.out.rest; rw [this]; exact Nat.mod_lt _ HB0.out
   have l0 : L0 ≤ 1024 := by have := wds_mono (Nat.le_of_lt hrv); have := HBW.out; omega
   rw [hjs] at HT
   have HRW := Lib.hid (fun W (hb : Below w.heap.size w W) => HB.out.step hb)
   obtain ⟨ab, ao, rfl, hab, hca⟩ := HA.out.2 (by omega)
   have hcl := hca j _ (getD_some hja)
   have hxl := HA.out.1.getD j
   obtain ⟨x, hx⟩ : ∃ x, a.getD j 0 = x := ⟨_, rfl⟩
   obtain ⟨bt, hbt⟩ : ∃ bt, x / 2 ^ s % 2 = bt := ⟨_, rfl⟩
   have hb2 : bt < 2 := by omega
   have hba := bit_and x s (by rw [← hx]; exact hxl)
   rw [hbt] at hba
   have hup := fun h => (HT.out.up HA.out.1 HB0.out hja hs h)
   have hdown := fun h => (HT.out.down HA.out.1 HB0.out hja hs h)
   rw [hx, hbt] at hup hdown
   rw [hx] at hcl
   obtain ⟨L1, hL1⟩ : ∃ L, (wds (2 * r)).length = L := ⟨_, rfl⟩
   have l1 : L1 ≤ 1025 := by have := sum_len_max r r; rw [← Nat.two_mul, hL1] at this; omega
   obtain ⟨r2, hr2⟩ : ∃ r2, 2 * r + bt = r2 := ⟨_, rfl⟩
   obtain ⟨L2, hL2⟩ : ∃ L, (wds r2).length = L := ⟨_, rfl⟩
   have l2 : L2 ≤ 1026 := by
    have := sum_len_max (2 * r) bt
    have h3 : (wds bt).length ≤ 1 := wds_len_lt (by omega)
    rw [hr2] at this; omega
   obtain ⟨L3, hL3⟩ : ∃ L, (wds (r2 - val b)).length = L := ⟨_, rfl⟩
   rw [hr2] at hup hdown
   have K1 := Lib.hid (show Cp 102 #[.slice A0 L0 c0, .int .i64 1] wr (Told (wds (2 * r)) L1 wr) from by
    have := up_any A0 L0 c0 1 (wds r) wr hL0 hc0 (by omega) hr0 (by omega)
    rw [wds_val, Nat.pow_one, Nat.mul_comm] at this
    exact this.mono fun _ _ y => y.told hL1)
   have K2 := Lib.hid (fun W A2 c2 (r1 : RW W W.heap.size A2 (wds (2 * r))) => show bt = 1 → Cp 103 #[.slice A2 L1 c2, .slice (some ⟨W.heap.size, 0, none⟩) 1 1] (W.alloc (.cells #[.int .u32 1] 42)) (Told (wds r2) L2 (W.alloc (.cells #[.int .u32 1] 42))) from fun hb1 => by
    have := plus_one A2 L1 c2 (wds (2 * r)) W hL1 (by omega) r1
    rw [wds_val, show 2 * r + 1 = r2 by omega] at this
    exact this.mono fun _ _ y => y.told hL2)
   have K3 := Lib.hid (fun W A2 c2 (hb : Below w.heap.size w W) (r1 : RW W W.heap.size A2 (wds r2)) => rcmp_any A2 C L2 c2 m d (wds r2) b W.heap.size W.heap.size W hL2 (by omega) r1 HM.out (by omega) (HRW.out W hb))
   have K4 := Lib.hid (fun W A2 c2 (hb : Below w.heap.size w W) (r1 : RW W W.heap.size A2 (wds r2)) => show val b ≤ r2 → Cp 116 #[.slice A2 L2 c2, .slice C m d] W (ToldN (wds (r2 - val b)) L3 W) from fun hle => by
    have hmL : m ≤ L2 := by
     have h1 := wds_mono hle
     have h2 : b = wds (val b) := by rw [← nrm_wds HB.out.1, HNB.out]
     rw [← h2, HM.out, hL2] at h1
     exact h1
    have := less_own A2 C L2 c2 m d (wds r2) b W hL2 (by omega) r1 HM.out hmL (HRW.out W hb) (by rw [wds_val]; exact hle)
    rw [wds_val] at this
    exact this.mono fun _ _ y => y.toldN (wds_ws _) hL3)
   have HL1 := Lib.hid hL1
   have HR2E := Lib.hid hr2
   have HL2 := Lib.hid hL2
   have HL3 := Lib.hid hL3
   obtain ⟨y, hy⟩ : ∃ y, Q.getD j 0 = y := ⟨_, rfl⟩
   have hcell := fun (W : World) (hb : Row W w.heap.size Q) => hb.cell j (by rw [hQl]; exact hjn)
   have hfz := fun (W : World) (hb : Row W w.heap.size Q) => hb.frozen j
   rw [hy] at hup hcell
   have hyl := HT.out.ws.getD j
   rw [hy] at hyl
   have HW := Lib.hid (show bits BinOp.or IntKind.u32 (y : Int) (2 ^ s % 4294967296) = ((y ||| 2 ^ s : Nat) : Int) from or_one y s hyl hs)
   have HCELL := Lib.hid hcell
   have HFZ := Lib.hid hfz
   have HUP := Lib.hid hup
   have HDOWN := Lib.hid hdown
   have HCA := Lib.hid (fun (W : World) (hb : Below w.heap.size w W) => (hb.cell (p := ⟨ab, ao + j, none⟩) hab).trans hcl)
   have e3 : (I : Int) / 32 = (j : Int) := by omega
   have e4 : (I : Int) % 32 = (s : Int) := by omega
   have hj1 : (j : Int) < (n : Int) := by omega
   have hs0 : (0 : Int) ≤ (s : Int) := by omega
   have hI0 : (0 : Int) ≤ (I : Int) := by omega
   have hI2 : (I : Int) ≤ 32768 := by omega
   have hI3 : I ≤ 32 * n := by omega
   have HS32 := Lib.hid hs
   have HJS := Lib.hid hjs
   have HBT := Lib.hid hb2
   have HRLT := Lib.hid HR.out.lt
   clear hk h0 hjs hjn hja hrv l0 l1 l2 hL0 hc0 hr0 hL1 hr2 hL2 hL3 hca hxl hx hbt hcell hfz hup hdown hQl hcl hab hy hyl
   cases hbit : decide (bt = 1)
   ·have hbe : bt = 0 := by have := of_decide_eq_false hbit; have := HBT.out; omega
    have hT : (bits BinOp.and IntKind.u32 ((x : Int) / 2 ^ s) 1 == 1) = false := by rw [hba, hbe]; rfl
    obtain rfl : 2 * r = r2 := by rw [← HR2E.out, hbe, Nat.add_zero]
    obtain rfl : L1 = L2 := by rw [← HL1.out, ← HL2.out]
    clear hba hbe hbit hs hb2 K2
    go_wp2_with fail
    refine K1.out.mono ?_
    rintro e w3 ⟨A3, c3, rfl, ⟨hc3, r3⟩, b1⟩
    have B3 := below_le hbw b1
    have hcx := HCA.out w3 B3
    have R3 := HR.out.below HRLT.out b1
    have D3 := K3.out w3 A3 c3 B3 r3
    have D4 := Lib.hid (K4.out w3 A3 c3 B3 r3)
    clear K1 K3 K4 b1
    by_cases hle : val b ≤ (2 * r)
    ·have ho : (0 : Int) ≤ ord (wds (2 * r)) b := by
      rcases Nat.lt_or_ge (val b) (2 * r) with h1 | h1
      ·rw [ord_gt (by rw [wds_val]; exact h1)]; omega
      ·rw [ord_eq (by rw [wds_val]; omega)]; omega
     obtain ⟨o, hoe⟩ : ∃ o, ord (wds (2 * r)) b = o := ⟨_, rfl⟩
     rw [hoe] at ho D3
     have D5 := D4.out hle
     obtain ⟨u1, u2⟩ := HUP.out hle
     have HU2 := Lib.hid u2
     clear hle hoe u1 u2 D4 r3
     go_wp2_with fail
     refine D3.mono ?_
     rintro e w' ⟨rfl, rfl⟩
     go_wp2_with fail
     refine D5.mono ?_
     rintro e w5 ⟨A5, c5, rfl, ⟨hc5, r5, q5⟩, b5⟩
     have B5 := below_le B3 b5
     have R5 := R3.below R3.lt b5
     have hcell := HCELL.out w5 R5
     have hfz := HFZ.out w5 R5
     have HR5 := Lib.hid (R5.set j (y ||| 2 ^ s))
     have HS5 := Lib.hid (r5.other (g := w.heap.size) (j := j) (fun ad h => Nat.lt_of_lt_of_le R3.lt (q5 ad h)) (.int .u32 ((y ||| 2 ^ s : Nat) : Int)))
     have HC5 := Lib.hid hc5
     have HB5 := Lib.hid (B5.setCell (p := ⟨w.heap.size, j, none⟩) (Nat.le_refl _) (.int .u32 ((y ||| 2 ^ s : Nat) : Int)))
     clear r5 q5 b5 R5 B5 hc5 D3 D5 B3 R3
     go_wp2
     rw [HW.out]
     refine ⟨⟨I, _, (2 * r) - val b, rfl, by omega, Lib.hid ⟨A5, c5, by rw [HL3.out], by rw [HL3.out]; exact HC5.out, ?_⟩, HR5, by rw [HJS.out]; exact HU2, HB5.out⟩, ?_⟩
     ·have := HS5.out
      rw [show (w5.setCell ⟨w.heap.size, j, none⟩ (.int .u32 ((y ||| 2 ^ s : Nat) : Int))).heap.size = w5.heap.size by simp [World.setCell]]
      exact this
     ·simp [intOf]
    ·have ho : ¬ (0 : Int) ≤ ord (wds (2 * r)) b := by rw [ord_lt (by rw [wds_val]; omega)]; omega
     obtain ⟨o, hoe⟩ : ∃ o, ord (wds (2 * r)) b = o := ⟨_, rfl⟩
     rw [hoe] at ho D3
     have HD2 := Lib.hid (HDOWN.out (by omega))
     have HS3 := Lib.hid r3
     have HC3 := Lib.hid hc3
     clear hle hoe D4 r3 hc3
     go_wp2_with fail
     refine D3.mono ?_
     rintro e w' ⟨rfl, rfl⟩
     go_wp2
     go_roundw
     case rel => exact ⟨I, Q, (2 * r), by go_num, by omega, Lib.hid ⟨A3, c3, by rw [HL2.out], by rw [HL2.out]; exact HC3.out, HS3.out⟩, Lib.hid R3, by rw [HJS.out]; exact HD2, B3⟩
     case measure => simp [intOf]
   ·have hbe : bt = 1 := of_decide_eq_true hbit
    have hT : (bits BinOp.and IntKind.u32 ((x : Int) / 2 ^ s) 1 == 1) = true := by rw [hba, hbe]; rfl
    have K2b := Lib.hid (fun W A2 c2 r1 => K2.out W A2 c2 r1 hbe)
    clear hba hbe hbit hs hb2 K2
    go_wp2_with fail
    refine K1.out.mono ?_
    rintro e w1 ⟨A1, c1, rfl, ⟨hc1, r1⟩, b1⟩
    have B1 := below_le hbw b1
    have hcx := HCA.out w1 B1
    have D2 := K2b.out w1 A1 c1 r1
    have R1 := HR.out.below HRLT.out b1
    have B2 : Below w.heap.size w (w1.alloc (.cells #[.int .u32 1] 42)) := B1.alloc B1.size _
    have R2 : Row (w1.alloc (.cells #[.int .u32 1] 42)) w.heap.size Q := R1.below R1.lt ((Below.refl _ _).alloc (Nat.le_refl _) _)
    have HB2 := Lib.hid B2
    have HR2 := Lib.hid R2
    clear r1 b1 B2 R2 R1 K1 K2b hc1
    go_wp2_with fail
    refine D2.mono ?_
    rintro e w3 ⟨A3, c3, rfl, ⟨hc3, r3⟩, b3⟩
    have B3 := below_le HB2.out b3
    have R3 := HR2.out.below HR2.out.lt b3
    have D3 := K3.out w3 A3 c3 B3 r3
    have D4 := Lib.hid (K4.out w3 A3 c3 B3 r3)
    clear K3 K4 b3
    by_cases hle : val b ≤ r2
    ·have ho : (0 : Int) ≤ ord (wds r2) b := by
      rcases Nat.lt_or_ge (val b) r2 with h1 | h1
      ·rw [ord_gt (by rw [wds_val]; exact h1)]; omega
      ·rw [ord_eq (by rw [wds_val]; omega)]; omega
     obtain ⟨o, hoe⟩ : ∃ o, ord (wds r2) b = o := ⟨_, rfl⟩
     rw [hoe] at ho D3
     have D5 := D4.out hle
     obtain ⟨u1, u2⟩ := HUP.out hle
     have HU2 := Lib.hid u2
     clear hle hoe u1 u2 D4 r3
     go_wp2_with fail
     refine D3.mono ?_
     rintro e w' ⟨rfl, rfl⟩
     go_wp2_with fail
     refine D5.mono ?_
     rintro e w5 ⟨A5, c5, rfl, ⟨hc5, r5, q5⟩, b5⟩
     have B5 := below_le B3 b5
     have R5 := R3.below R3.lt b5
     have hcell := HCELL.out w5 R5
     have hfz := HFZ.out w5 R5
     have HR5 := Lib.hid (R5.set j (y ||| 2 ^ s))
     have HS5 := Lib.hid (r5.other (g := w.heap.size) (j := j) (fun ad h => Nat.lt_of_lt_of_le R3.lt (q5 ad h)) (.int .u32 ((y ||| 2 ^ s : Nat) : Int)))
     have HC5 := Lib.hid hc5
     have HB5 := Lib.hid (B5.setCell (p := ⟨w.heap.size, j, none⟩) (Nat.le_refl _) (.int .u32 ((y ||| 2 ^ s : Nat) : Int)))
     clear r5 q5 b5 R5 B5 hc5 D3 D5 B3 R3
     go_wp2
     rw [HW.out]
     refine ⟨⟨I, _, r2 - val b, rfl, by omega, Lib.hid ⟨A5, c5, by rw [HL3.out], by rw [HL3.out]; exact HC5.out, ?_⟩, HR5, by rw [HJS.out]; exact HU2, HB5.out⟩, ?_⟩
     ·have := HS5.out
      rw [show (w5.setCell ⟨w.heap.size, j, none⟩ (.int .u32 ((y ||| 2 ^ s : Nat) : Int))).heap.size = w5.heap.size by simp [World.setCell]]
      exact this
     ·simp [intOf]
    ·have ho : ¬ (0 : Int) ≤ ord (wds r2) b := by rw [ord_lt (by rw [wds_val]; omega)]; omega
     obtain ⟨o, hoe⟩ : ∃ o, ord (wds r2) b = o := ⟨_, rfl⟩
     rw [hoe] at ho D3
     have HD2 := Lib.hid (HDOWN.out (by omega))
     have HS3 := Lib.hid r3
     have HC3 := Lib.hid hc3
     clear hle hoe D4 r3 hc3
     go_wp2_with fail
     refine D3.mono ?_
     rintro e w' ⟨rfl, rfl⟩
     go_wp2
     go_roundw
     case rel => exact ⟨I, Q, r2, by go_num, by omega, Lib.hid ⟨A3, c3, by rw [HL2.out], by rw [HL2.out]; exact HC3.out, HS3.out⟩, Lib.hid R3, by rw [HJS.out]; exact HD2, B3⟩
     case measure => simp [intOf]

end Go.Proofs.YtfcpkdafkmohkaaGreatDoor
namespace Go.Proofs.YtfcpkdafkmohkaaGreatDoor
open Go.RowKit
theorem shift_top {b : List Nat} {N : Nat} (hb : Ws b) (hN : b.length = N + 1) (hnb : nrm b = b) : 0 < b.getD N 0 ∧ 0 < Lib.bitLen (b.getD N 0) ∧ Lib.bitLen (b.getD N 0) ≤ 32 ∧ b.getD N 0 < 2 ^ Lib.bitLen (b.getD N 0) := by
 have h0 : nrm b ≠ [] := by rw [hnb]; intro e; rw [e] at hN; simp at hN
 have h1 := nrm_last h0
 rw [hnb, hN, Nat.add_sub_cancel] at h1
 have h2 := hb.getD N
 have h3 := bitLen_le32 _ h2
 obtain ⟨b1, b2, b3⟩ := Lib.bitLenAux_bounds 64 (b.getD N 0) (by omega) h1
 exact ⟨by omega, b1, h3, b3⟩
theorem ShlP.exact {R : List Nat} {o : Nat} {a : List Nat} {s N : Nat} {S : List Nat} (h : ShlP R o a s (N + 1) S) (hn : a.length = N + 1) (ht : a.getD N 0 < 2 ^ (32 - s)) : val ((S.drop o).take (N + 1)) = 2 ^ s * val a := by
 have h4 := h.sum
 have e : carL a s (N + 1) = 0 := by
  unfold carL
  rw [if_neg (by omega), Nat.add_sub_cancel]
  exact Nat.div_eq_of_lt ht
 rw [e, Nat.mul_zero, Nat.add_zero, val_take_end (l := a) (by omega)] at h4
 exact h4
theorem top_pos {S : List Nat} {N : Nat} (hS : Ws S) (hl : S.length = N + 1) (hv : 4294967296 ^ N ≤ val S) : 0 < S.getD N 0 := by
 rcases Nat.eq_zero_or_pos (S.getD N 0) with h | h
 ·have e := val_take_succ S N (by omega)
  rw [List.take_of_length_le (by omega), h, Nat.mul_zero, Nat.add_zero] at e
  have := val_lt (hS.take N)
  rw [List.length_take, Nat.min_eq_left (by omega)] at this
  omega
 ·exact h
def LongPost (n M va vb : Nat) (w : World) (e : Ending) (w' : World) : Prop :=
 ∃ S T g1 g2, e = .returned (.tuple #[.slice (some ⟨g2, 0, none⟩) M M, .slice (some ⟨g1, 0, none⟩) (n + 1) (n + 1)]) ∧ Row w' g2 S ∧ Row w' g1 T ∧ S.length = M ∧ T.length = n + 1 ∧ Ws S ∧ Ws T ∧ val S = va / vb ∧ val T = va % vb ∧ Below w.heap.size w w'
set_option maxRecDepth 100000 in
set_option maxHeartbeats 1000000 in
theorem divideLong_any (A C : Option Addr) (n c m M N d : Nat) (a b : List Nat) (w : World) (hn : a.length = n) (hm : n ≤ 1024) (h : RW w w.heap.size A a)
  (gn : b.length = m) (gN : m = N + 1) (g : RW w w.heap.size C b) (hnb : nrm b = b) (hM : n + 1 = M + m) (hM0 : 0 < M) :
  Cp 219 #[.slice A n c, .slice C m d] w (LongPost n M (val a) (val b) w) := by
 subst gN
 obtain ⟨t1, t2, t3, t4⟩ := shift_top g.1 gn hnb
 have h0 : nrm b ≠ [] := by rw [hnb]; intro e; rw [e] at gn; simp at gn
 have hge := val_ge h0
 rw [hnb, gn, Nat.add_sub_cancel] at hge
 obtain ⟨cb, coff, rfl, hcb, hcc⟩ := g.2 (by omega)
 have d1 := hcc N _ (getD_some (by omega))
 have htl := g.1.getD N
 obtain ⟨u, hu⟩ : ∃ u, b.getD N 0 = u := ⟨_, rfl⟩
 rw [hu] at d1 t1 t2 t3 t4 htl
 obtain ⟨L, hL⟩ : ∃ L, Lib.bitLen u = L := ⟨_, rfl⟩
 have C1 := Lib.hid (fun W => show Cp 238 #[.int .u32 (u : Nat)] W fun e w' => e = .returned (.int .i64 (32 - (L : Int))) ∧ W = w' from by
  have := Tryz.bits_LeadingZeros32 (u : Int) W (by omega) (by omega)
  rw [Int.toNat_natCast, hL] at this; exact this.mono fun _ _ ⟨x, y⟩ => ⟨x, y.symm⟩)
 rw [hL] at t2 t3 t4
 obtain ⟨s, hs⟩ : ∃ s, 32 - L = s := ⟨_, rfl⟩
 have hs2 : 32 - (L : Int) = (s : Int) := by omega
 rw [hs2] at C1
 have hs32 : s < 32 := by omega
 have HT4 := Lib.hid (show b.getD N 0 < 2 ^ (32 - s) by rw [hu, show 32 - s = L by omega]; exact t4)
 have hN1 : (N : Int) ≤ 1024 := by omega
 have hn1 : (n : Int) ≤ 1024 := by omega
 have hM1 : (1 : Int) ≤ (M : Int) := by omega
 have hM2 : (M : Int) ≤ 1024 := by omega
 have HA := Lib.hid h
 have HB := Lib.hid g
 have HGB := Lib.hid (show (b.length = N + 1 ∧ a.length = n) from ⟨gn, hn⟩)
 have HGE := Lib.hid hge
 have HM := Lib.hid hM
 have HM0 := Lib.hid hM0
 have hm1 := run_make_row' (P := Tryz.prog) 48 42 (.int .u32 0) 4 Tryz.underlying48 infoW rfl .i64 .i64 (N + 1) (by omega) (by omega) w
 rw [show ((N + 1 : Nat) : Int) = (N : Int) + 1 by omega] at hm1
 have hm2 := fun W => run_make_row' (P := Tryz.prog) 48 42 (.int .u32 0) 4 Tryz.underlying48 infoW rfl .i64 .i64 (n + 1) (by omega) (by omega) W
 rw [show ((n + 1 : Nat) : Int) = (n : Int) + 1 by omega] at hm2
 have hm3 := fun W => run_make_row' (P := Tryz.prog) 48 42 (.int .u32 0) 4 Tryz.underlying48 infoW rfl .i64 .i64 M (by omega) (by omega) W
 have HM2 := Lib.hid hm2
 have HM3 := Lib.hid hm3
 have hMe0 : IntKind.i64.wrap ((n : Int) - ((N : Int) + 1)) = (n : Int) - ((N : Int) + 1) := IntWalk.i64_in _ (by omega)
 have hMe : IntKind.i64.wrap (((n : Int) - ((N : Int) + 1)) + 1) = (M : Int) := by rw [IntWalk.i64_in _ (by omega)]; omega
 have hR1 := Row.made w (N + 1)
 have hB1 : Below w.heap.size w (w.alloc (.cells (madeCells #[.int .u32 0] (N + 1)) 42)) := (Below.refl _ _).alloc (Nat.le_refl _) _
 have hz1 : (w.alloc (.cells (madeCells #[.int .u32 0] (N + 1)) 42)).heap.size = w.heap.size + 1 := by simp
 obtain ⟨w1, hw1⟩ : ∃ w1, w.alloc (.cells (madeCells #[.int .u32 0] (N + 1)) 42) = w1 := ⟨_, rfl⟩
 rw [hw1] at hR1 hB1 hz1 hm1
 have C2 := Lib.hid (shl_any w.heap.size 0 (N + 1) (N + 1) s (List.replicate (N + 1) 0) (some ⟨cb, coff, none⟩) (N + 1) d b w.heap.size w1 hR1 (Ws.zeros _) (by rw [List.length_replicate]; omega) gn (by omega) (by omega) (g.below hB1) (Nat.le_refl _) hs32)
 have HB1 := Lib.hid hB1
 have HZ1 := Lib.hid hz1
 clear t1 t2 t3 t4 hu hL hs hs2 htl hcc h g hn gn hge hM hM0 hnb h0 hm hm2 hm3 hR1 hB1 hz1 hw1
 go_enter Tryz.func219, Tryz.ntmps219
 go_wp2_with fail
 refine (C1.out _).mono ?_
 rintro e w' ⟨rfl, rfl⟩
 go_wp2_with fail
 refine C2.out.mono ?_
 rintro e w2 ⟨rfl, D, hD, hRD, hbD⟩
 have hB2 : Below w.heap.size w w2 := HB1.out.trans hbD
 have hg0 := hRD.lt
 have hDl : D.length = N + 1 := by rw [hD.len, List.length_replicate]
 have hDv : val D = 2 ^ s * val b := by
  have := hD.exact HGB.out.1 HT4.out
  rw [List.drop_zero, List.take_of_length_le (by omega)] at this
  exact this
 have hDw := hD.ws
 have hm2 := HM2.out w2
 have hR2 := Row.made w2 (n + 1)
 have hB3 : Below w.heap.size w (w2.alloc (.cells (madeCells #[.int .u32 0] (n + 1)) 42)) := hB2.alloc hB2.size _
 have hB23 : Below w2.heap.size w2 (w2.alloc (.cells (madeCells #[.int .u32 0] (n + 1)) 42)) := (Below.refl _ _).alloc (Nat.le_refl _) _
 have C3 := Lib.hid (shl_any w2.heap.size 0 (n + 1) (n + 1) s (List.replicate (n + 1) 0) A n c a w.heap.size _ hR2 (Ws.zeros _) (by rw [List.length_replicate]; omega) HGB.out.2 (by omega) (by omega) (HA.out.below hB3) hB2.size hs32)
 have HRD := Lib.hid (hRD.below hg0 hB23)
 have HD := Lib.hid (show D.length = N + 1 ∧ val D = 2 ^ s * val b ∧ Ws D from ⟨hDl, hDv, hDw⟩)
 have HB3 := Lib.hid hB3
 have HG0 := Lib.hid hg0
 clear hD hRD hbD hB2 hg0 hDl hDv hDw hR2 hB3 hB23 hm1 C1 C2
 go_wp2_with fail
 refine C3.out.mono ?_
 rintro e w4 ⟨rfl, R, hR, hRR, hbR⟩
 have hB4 : Below w.heap.size w w4 := HB3.out.trans (hbR.mono (Nat.le_of_lt HG0.out))
 have hg1 := hRR.lt
 have hRl : R.length = n + 1 := by rw [hR.len, List.length_replicate]
 have hRv : val R = 2 ^ s * val a := by
  have := hR.whole (by rw [HGB.out.2]; omega)
  rw [List.drop_zero, List.take_of_length_le (by omega)] at this
  exact this
 have hRw := hR.ws
 have hRD4 : Row w4 w.heap.size D := HRD.out.below HG0.out hbR
 have hm3 := HM3.out w4
 have hQ5 := Row.made w4 M
 have hB5 : Below w.heap.size w (w4.alloc (.cells (madeCells #[.int .u32 0] M) 42)) := hB4.alloc hB4.size _
 have hB45 : Below w4.heap.size w4 (w4.alloc (.cells (madeCells #[.int .u32 0] M) 42)) := (Below.refl _ _).alloc (Nat.le_refl _) _
 have HQ5 := Lib.hid hQ5
 have HR5 := Lib.hid (hRR.below hg1 hB45)
 have HD5 := Lib.hid (hRD4.below (Nat.lt_trans HG0.out hg1) hB45)
 have HB5 := Lib.hid hB5
 have HG1 := Lib.hid hg1
 have hlong := LongT.start (va := val a) (vb := val b) (s := s) (la := n) (n := N + 1) (M := M) hRw (by rw [hRl]; exact HM.out) HM.out (by omega) (by have := val_lt HA.out.1; rw [HGB.out.2] at this; exact this) (by rw [Nat.add_sub_cancel]; exact HGE.out) hRv
 have HLONG := Lib.hid hlong
 have hDp : 0 < val b := Nat.lt_of_lt_of_le (Nat.pow_pos (by omega)) HGE.out
 have HDP := Lib.hid (show 0 < 2 ^ s * val b ∧ 2 ^ s * val b < 4294967296 ^ (N + 1) ∧ 0 < D.getD N 0 by
  have h1 := val_lt HD.out.2.2
  rw [HD.out.2.1, HD.out.1] at h1
  refine ⟨Nat.mul_pos (Nat.two_pow_pos s) hDp, h1, top_pos HD.out.2.2 HD.out.1 ?_⟩
  rw [HD.out.2.1]
  exact Nat.le_trans HGE.out (Nat.le_mul_of_pos_left _ (Nat.two_pow_pos s)))
 clear hR hRR hbR hB4 hg1 hRl hRv hRw hRD4 hQ5 hB5 hB45 hlong hDp hm2 C3
 go_wp2
 clear hm3
 go_loopw [10] (fun i wr => ∃ (k : Nat) (R Q : List Nat), i = .int .i64 ((k : Int) - 1) ∧ k ≤ M ∧ Hid (Row wr w2.heap.size R) ∧ Hid (Row wr w4.heap.size Q) ∧ Hid (Row wr w.heap.size D) ∧ Hid (LongT (2 ^ s * val a) (2 ^ s * val b) (N + 1) M k R Q) ∧ Below w.heap.size w wr) (fun i _ => (intOf i + 1).toNat)
 case atStart => exact ⟨M, R, _, rfl, Nat.le_refl _, HR5, HQ5, HD5, HLONG, HB5.out⟩
 case round =>
  obtain ⟨k, R2, Q, rfl, hk, HR, HQ, HDD, HT, hbw⟩ := hrel
  have hRl := HT.out.lenR
  have hQl := HT.out.lenQ
  have hMn := HM.out
  by_cases h0 : k = 0
  ·subst h0
   obtain ⟨f1, f2⟩ := HT.out.fin HDP.out.1
   rw [Nat.mul_div_mul_left _ _ (Nat.two_pow_pos s)] at f1
   rw [Nat.mul_mod_mul_left] at f2
   have C1 := Lib.hid (shr_self w2.heap.size (n + 1) (n + 1) (n + 1) s R2 wr HR.out HT.out.wsR (by omega) (by omega) hs32)
   have HF1 := Lib.hid f1
   have HF2 := Lib.hid f2
   have HQW := Lib.hid HT.out.wsQ
   have HL := Lib.hid (show Q.length = M ∧ R2.length = n + 1 from ⟨hQl, by omega⟩)
   have HNE := Lib.hid (show w4.heap.size ≠ w2.heap.size from Nat.ne_of_gt HG1.out)
   have HBG := Lib.hid (Nat.le_of_lt (Nat.lt_of_lt_of_le HG0.out (Nat.le_refl _)))
   clear f1 f2 hRl hQl hMn
   go_wp2_with fail
   refine C1.out.mono ?_
   rintro e w5 ⟨rfl, S, hS, hRow, hO⟩
   have hv := hS.whole (by rw [HL.out.2]; exact Nat.le_refl _)
   have hSl := hS.len
   rw [List.drop_zero, List.take_of_length_le (by rw [hSl, HL.out.2]; exact Nat.le_refl _), HF2.out, Nat.mul_div_cancel_left _ (Nat.two_pow_pos s)] at hv
   have HFIN := Lib.hid (show LongPost n M (val a) (val b) w (.returned (.tuple #[.slice (some ⟨w4.heap.size, 0, none⟩) M M, .slice (some ⟨w2.heap.size, 0, none⟩) (n + 1) (n + 1)])) w5 from
    ⟨Q, S, w2.heap.size, w4.heap.size, rfl, HQ.out.only HNE.out hO, hRow, HL.out.1, by rw [hSl, HL.out.2], HQW.out, hS.ws, HF1.out, hv, hbw.trans (hO.below.mono HBG.out)⟩)
   clear hS hRow hO hv hSl C1
   go_wp2
   go_ret2
   exact HFIN.out
  ·obtain ⟨j, rfl⟩ : ∃ j, k = j + 1 := ⟨k - 1, by omega⟩
   rw [show (((j + 1 : Nat) : Int) - 1) = (j : Int) by omega]
   obtain ⟨p1, p2⟩ := HT.out.part (by omega) HDP.out.2.1
   have C1 := Lib.hid (step_any w2.heap.size j (N + 2) (n + 1 - j) R2 (some ⟨w.heap.size, 0, none⟩) N (N + 1) (N + 1) D (w.heap.size + 1) wr HR.out HT.out.wsR rfl rfl (by omega) HD.out.1 (HDD.out.rw0 HD.out.2.2) HG0.out (by omega) (by rw [HD.out.2.1]; exact HDP.out.1) HDP.out.2.2 (by rw [HD.out.1, HD.out.2.1]; exact p2))
   have HNX := Lib.hid (fun S h1 h2 h3 h4 => HT.out.next (S := S) (by omega) HDP.out.2.1 HDP.out.1 h1 h2 h3 h4)
   unfold StepPost at C1
   rw [HD.out.1, HD.out.2.1] at C1
   obtain ⟨q, hq⟩ : ∃ q, val ((R2.drop j).take (N + 1 + 1)) / (2 ^ s * val b) = q := ⟨_, rfl⟩
   rw [hq] at C1 HNX
   have hcell := fun (W : World) (h : Row W w4.heap.size Q) => h.cell j (by omega)
   have hfz := fun (W : World) (h : Row W w4.heap.size Q) => h.frozen j
   have HCELL := Lib.hid hcell
   have HFZ := Lib.hid hfz
   have HNE := Lib.hid (show w4.heap.size ≠ w2.heap.size ∧ w.heap.size ≠ w2.heap.size ∧ w2.heap.size ≠ w4.heap.size ∧ w.heap.size ≠ w4.heap.size from by
    have h1 := HG1.out
    have h2 := HG0.out
    omega)
   have HBG := Lib.hid (show w.heap.size ≤ w2.heap.size ∧ w.heap.size ≤ w4.heap.size from by
    have h1 := HG1.out
    have h2 := HG0.out
    omega)
   have hj1 : (j : Int) < (M : Int) := by omega
   have hjn : (j : Int) + (N : Int) + 2 ≤ (n : Int) + 1 := by omega
   have hjn2 : j + (N + 2) ≤ n + 1 := by omega
   have hk2 : j + 1 ≤ M := hk
   clear hRl hQl hMn hk h0 p1 p2 hq hcell hfz
   go_wp2_with fail
   rw [show j + (N + 1) + 1 - j = N + 2 by omega]
   refine C1.out.mono ?_
   rintro e w5 ⟨S, rfl, hrow, hlen, hws, hfar, hval, hO⟩
   have rQ := HQ.out.only HNE.out.1 hO
   have rD := HDD.out.only HNE.out.2.1 hO
   have hcell := HCELL.out w5 rQ
   have hfz := HFZ.out w5 rQ
   have HTN := Lib.hid (HNX.out S hlen hws hfar hval)
   have HQ2 := Lib.hid (rQ.set j q)
   have HR2 := Lib.hid (show Row (w5.setCell ⟨w4.heap.size, j, none⟩ (.int .u32 (q : Nat))) w2.heap.size S from (Below.heap_setCell w5 _ _ _ HNE.out.2.2.1).trans hrow)
   have HD2 := Lib.hid (show Row (w5.setCell ⟨w4.heap.size, j, none⟩ (.int .u32 (q : Nat))) w.heap.size D from (Below.heap_setCell w5 _ _ _ HNE.out.2.2.2).trans rD)
   have HB2 := Lib.hid ((hbw.trans (hO.below.mono HBG.out.1)).setCell (p := ⟨w4.heap.size, j, none⟩) HBG.out.2 (.int .u32 (q : Nat)))
   clear hrow hlen hws hfar hval hO rQ rD C1 HNX
   go_wp2
   go_roundw
   case rel => exact ⟨j, S, _, by go_num, by omega, HR2, HQ2, HD2, HTN, HB2.out⟩
   case measure => simp [intOf]
end Go.Proofs.YtfcpkdafkmohkaaGreatDoor
namespace Go.Proofs.YtfcpkdafkmohkaaGreatDoor
open Go.RowKit
set_option maxHeartbeats 1000000 in
theorem div_long (A C : Option Addr) (n c m d : Nat) (l k : List Nat) (w : World) (hn : l.length = n) (hc : n ≤ c) (hm : n ≤ 35184372088832) (h : RW w w.heap.size A l)
  (gn : k.length = m) (gc : m ≤ d) (gm : m ≤ 35184372088832) (g : RW w w.heap.size C k) (hl : (lngB (val l) || lngB (val k)) = true) :
  Cp 174 #[.slice A n c, .slice C m d] w (DivT (divQ (val l) (val k)) (divR (val l) (val k)) (divK (val l) (val k)) w) := by
 have c1 := tooTwo_any A C n c m d l k w hn hc hm h gn gc gm g
 have hp : Below w.heap.size w (pair w (.slice A n c) (.slice C m d)) := (Below.refl _ _).alloc (Nat.le_refl _) _
 have HF := Lib.hid (DivT.long (w := w) hl hp)
 rw [hl] at c1
 clear h g hn hc hm gn gc gm hl hp
 go_enter Tryz.func174, Tryz.ntmps174
 go_wp2_with fail
 refine c1.mono ?_
 rintro e w1 ⟨rfl, rfl⟩
 go_wp2
 (try simp only [Exit.inBlock, Exit.then])
 refine bodyPost_ret (results_tmp3 rfl _ _ _) rfl ?_
 exact HF.out
set_option maxRecDepth 100000 in
set_option maxHeartbeats 2000000 in
theorem div_zero (A C : Option Addr) (n c m d : Nat) (l k : List Nat) (w : World) (hn : l.length = n) (hc : n ≤ c) (hm : n ≤ 35184372088832) (h : RW w w.heap.size A l)
  (gn : k.length = m) (gc : m ≤ d) (gm : m ≤ 35184372088832) (g : RW w w.heap.size C k) (hl : (lngB (val l) || lngB (val k)) = false) (hk : val k = 0) :
  Cp 174 #[.slice A n c, .slice C m d] w (DivT (divQ (val l) (val k)) (divR (val l) (val k)) (divK (val l) (val k)) w) := by
 have c1 := tooTwo_any A C n c m d l k w hn hc hm h gn gc gm g
 have hp : Below w.heap.size w (pair w (.slice A n c) (.slice C m d)) := (Below.refl _ _).alloc (Nat.le_refl _) _
 have HF := Lib.hid (DivT.zero (w := w) hl hk hp)
 rw [hl] at c1
 have c2 := cut_any A n c l w.heap.size _ hn hc hm (h.below hp)
 have c3 := cut_any C m d k w.heap.size _ gn gc gm (g.below hp)
 rw [nrm_val_zero hk] at c3
 clear h g hn hc hm gn gc gm hl hp hk
 go_enter Tryz.func174, Tryz.ntmps174
 go_wp2_with fail
 refine c1.mono ?_
 rintro e w1 ⟨rfl, rfl⟩
 go_wp2_with fail
 refine c2.mono ?_
 rintro e w1 ⟨rfl, rfl⟩
 go_wp2_with fail
 refine c3.mono ?_
 rintro e w1 ⟨rfl, rfl⟩
 go_wp2
 (try simp only [Exit.inBlock, Exit.then])
 refine bodyPost_ret (results_tmp3 rfl _ _ _) rfl ?_
 exact HF.out
set_option maxRecDepth 100000 in
set_option maxHeartbeats 2000000 in
theorem div_small (A C : Option Addr) (n c m d : Nat) (l k : List Nat) (w : World) (hn : l.length = n) (hc : n ≤ c) (hm : n ≤ 35184372088832) (h : RW w w.heap.size A l)
  (gn : k.length = m) (gc : m ≤ d) (gm : m ≤ 35184372088832) (g : RW w w.heap.size C k) (hl : (lngB (val l) || lngB (val k)) = false) (hlt : (nrm l).length < (nrm k).length) :
  Cp 174 #[.slice A n c, .slice C m d] w (DivT (divQ (val l) (val k)) (divR (val l) (val k)) (divK (val l) (val k)) w) := by
 have c1 := tooTwo_any A C n c m d l k w hn hc hm h gn gc gm g
 have hp : Below w.heap.size w (pair w (.slice A n c) (.slice C m d)) := (Below.refl _ _).alloc (Nat.le_refl _) _
 rw [hl] at c1
 have c2 := cut_any A n c l w.heap.size _ hn hc hm (h.below hp)
 have c3 := cut_any C m d k w.heap.size _ gn gc gm (g.below hp)
 obtain ⟨hl1, hl2⟩ : lngB (val l) = false ∧ lngB (val k) = false := by simpa using hl
 have n1 := lng_len h.1 hl1
 have n2 := lng_len g.1 hl2
 have hval := cmp_len h.1 hlt
 have e1 : val l / val k = 0 := Nat.div_eq_of_lt hval
 have e2 : val l % val k = val l := Nat.mod_eq_of_lt hval
 obtain ⟨N, hN⟩ : ∃ N, (nrm l).length = N := ⟨_, rfl⟩
 obtain ⟨M, hM⟩ : ∃ M, (nrm k).length = M := ⟨_, rfl⟩
 rw [hN] at n1 c2 hlt
 rw [hM] at n2 c3 hlt
 obtain ⟨W, hW⟩ : ∃ W, pair w (.slice A n c) (.slice C m d) = W := ⟨_, rfl⟩
 rw [hW] at c1 c2 c3 hp
 have HOK := Lib.hid (fun (w' : World) A2 n2 c2 C2 m2 d2 h3 h4 h5 h6 h7 h8 h9 => DivT.ok (w := w) (w' := w') (A := A2) (C := C2) (n := n2) (c := c2) (m := m2) (d := d2) hl (by omega) h3 h4 h5 h6 h7 h8 h9)
 rw [e1, e2] at HOK
 have hND : (wds (val l)).length = N := by rw [← nrm_wds h.1]; exact hN
 have c4 := (normT A N N (nrm l) N W hN (Nat.le_refl _) (by omega) ((h.nrm.below hp).more hp.size) (by rw [nrm_nrm]; exact hN))
 rw [nrm_nrm, nrm_wds h.1] at c4
 have HW := Lib.hid hW
 have HP := Lib.hid hp
 have HND := Lib.hid hND
 have z0 : ((M : Int) == 0) = false := by simp; omega
 have z1 : (N : Int) < (M : Int) := by omega
 clear h g hn hc hm gn gc gm hl hp hl1 hl2 n1 n2 hval e1 e2 hN hM hW hND hlt
 go_enter Tryz.func174, Tryz.ntmps174
 go_wp2_with fail
 rw [show w.alloc (.cells #[.slice A n c, .slice C m d] 48) = W from HW.out]
 refine c1.mono ?_
 rintro e w1 ⟨rfl, rfl⟩
 go_wp2_with fail
 refine c2.mono ?_
 rintro e w1 ⟨rfl, rfl⟩
 go_wp2_with fail
 refine c3.mono ?_
 rintro e w1 ⟨rfl, rfl⟩
 go_wp2_with fail
 refine c4.mono ?_
 rintro e w2 ⟨A2, c2, rfl, ⟨hc2, r2⟩, b2⟩
 have HF := Lib.hid (HOK.out w2 none 0 0 A2 N c2 rfl (Nat.le_refl _) HND.out.symm hc2 (RW.nil _ _ _) r2 (below_le HP.out b2))
 clear r2 hc2 b2
 go_wp2
 (try simp only [Exit.inBlock, Exit.then])
 refine bodyPost_ret (results_tmp3 rfl _ _ _) rfl ?_
 exact HF.out
set_option maxRecDepth 100000 in
set_option maxHeartbeats 4000000 in
theorem div_word (A C : Option Addr) (n c m d : Nat) (l k : List Nat) (w : World) (hn : l.length = n) (hc : n ≤ c) (hm : n ≤ 35184372088832) (h : RW w w.heap.size A l)
  (gn : k.length = m) (gc : m ≤ d) (gm : m ≤ 35184372088832) (g : RW w w.heap.size C k) (hl : (lngB (val l) || lngB (val k)) = false) (hle : (nrm k).length ≤ (nrm l).length) (h1k : (nrm k).length = 1) :
  Cp 174 #[.slice A n c, .slice C m d] w (DivT (divQ (val l) (val k)) (divR (val l) (val k)) (divK (val l) (val k)) w) := by
 have c1 := tooTwo_any A C n c m d l k w hn hc hm h gn gc gm g
 have hp : Below w.heap.size w (pair w (.slice A n c) (.slice C m d)) := (Below.refl _ _).alloc (Nat.le_refl _) _
 rw [hl] at c1
 have c2 := cut_any A n c l w.heap.size _ hn hc hm (h.below hp)
 have c3 := cut_any C m d k w.heap.size _ gn gc gm (g.below hp)
 obtain ⟨hl1, hl2⟩ : lngB (val l) = false ∧ lngB (val k) = false := by simpa using hl
 have n1 := lng_len h.1 hl1
 obtain ⟨u, hu⟩ : ∃ u, nrm k = [u] := List.length_eq_one_iff.1 h1k
 have hkv : val k = u := by rw [← val_nrm, hu]; simp [val]
 have hgB := g.nrm
 rw [hu] at hgB c3
 have hul : u < 4294967296 := hgB.1 u (by simp)
 have hu0 : 0 < u := by
  rcases Nat.eq_zero_or_pos u with h0 | h0
  ·have := nrm_val_zero (l := k) (by rw [hkv, h0])
   rw [this] at hu; cases hu
  ·exact h0
 obtain ⟨b, off, hCe, hbB, hcell⟩ := hgB.2 (by simp)
 have d0 := hcell 0 u rfl
 rw [Nat.add_zero] at d0
 subst hCe
 obtain ⟨N, hN⟩ : ∃ N, (nrm l).length = N := ⟨_, rfl⟩
 rw [h1k, hN] at hle
 rw [hN] at n1 c2
 obtain ⟨W, hW⟩ : ∃ W, pair w (.slice A n c) (.slice (some ⟨b, off, none⟩) m d) = W := ⟨_, rfl⟩
 rw [hW] at c1 c2 c3 hp
 have HOK := Lib.hid (fun (w' : World) A2 n2 c2 C2 m2 d2 h3 h4 h5 h6 h7 h8 h9 => DivT.ok (w := w) (w' := w') (A := A2) (C := C2) (n := n2) (c := c2) (m := m2) (d := d2) hl (by omega) h3 h4 h5 h6 h7 h8 h9)
 have c4 := norm_row A N N (nrm l) W hN (Nat.le_refl _) (by omega) ((h.nrm.below hp).more hp.size)
 rw [nrm_nrm, hN] at c4
 have C5 := Lib.hid (fun W2 (r : Row W2 W.heap.size (nrm l)) => divideWord_any W.heap.size N N u (nrm l) W2 r h.1.nrm hN (by omega) hul hu0)
 rw [val_nrm] at C5
 rw [hkv] at HOK ⊢
 have hrl : val l % u < u := Nat.mod_lt _ hu0
 obtain ⟨q, hq⟩ : ∃ q, val l / u = q := ⟨_, rfl⟩
 obtain ⟨z, hz⟩ : ∃ z, val l % u = z := ⟨_, rfl⟩
 rw [hq, hz] at HOK C5
 rw [hz] at hrl
 have C7 := Lib.hid (fun W => (of_any z (by omega) W).mono fun _ _ y => y.told (n := (wds z).length) (by rw [two_wds z (by omega)]))
 rw [two_wds z (by omega)] at C7
 have HW := Lib.hid hW
 have HP := Lib.hid hp
 rw [← hp.cell (p := ⟨b, off, none⟩) hbB] at d0
 have z0 : ((1 : Int) == 0) = false := rfl
 have z1 : ¬ (N : Int) < 1 := by omega
 have z2 : IntKind.u64.wrap (z : Int) = (z : Int) := IntWalk.u64_in _ (by omega)
 have HN1 := Lib.hid n1
 clear h g hn hc hm gn gc gm hl hp hl1 hl2 n1 hkv hu hul hu0 hN hW hle h1k hgB hcell hrl hq hz
 go_enter Tryz.func174, Tryz.ntmps174
 go_wp2_with fail
 rw [show w.alloc (.cells #[.slice A n c, .slice (some ⟨b, off, none⟩) m d] 48) = W from HW.out]
 refine c1.mono ?_
 rintro e w1 ⟨rfl, rfl⟩
 go_wp2_with fail
 refine c2.mono ?_
 rintro e w1 ⟨rfl, rfl⟩
 go_wp2_with fail
 refine c3.mono ?_
 rintro e w1 ⟨rfl, rfl⟩
 go_wp2_with fail
 refine c4.mono ?_
 rintro e w2 ⟨rfl, r2, b2⟩
 have d2 := d0
 rw [← b2.cell (p := ⟨b, off, none⟩) (Nat.lt_of_lt_of_le hbB HP.out.size)] at d2
 have C6 := C5.out _ r2
 clear c1 c2 c3 c4 C5 r2
 go_wp2_with fail
 refine C6.mono ?_
 rintro e w3 ⟨rfl, S, r3, s1, s2, s3, b3⟩
 have B3 := below_le HP.out (b2.trans b3)
 have hlt3 := r3.lt
 have c8 := cut_any (some ⟨W.heap.size, 0, none⟩) N N S w3.heap.size w3 s1 (Nat.le_refl _) (by have := HN1.out; omega) ((r3.rw0 s2).more hlt3)
 have HR3 := Lib.hid ((r3.rw0 s2).more hlt3).nrm
 rw [nrm_wds s2, s3] at c8 HR3
 have HLQ := Lib.hid (show (wds q).length ≤ N by rw [← s3, ← nrm_wds s2, ← s1]; exact nrm_len S)
 clear r3 s1 s2 s3 b3 b2 C6 d0 hlt3
 go_wp2_with fail
 refine c8.mono ?_
 rintro e w' ⟨rfl, rfl⟩
 go_wp2_with fail
 refine (C7.out _).mono ?_
 rintro e w4 ⟨A4, c4, rfl, ⟨hc4, r4⟩, b4⟩
 have HF := Lib.hid (HOK.out w4 _ _ (wds q).length A4 _ c4 rfl (Nat.le_refl _) rfl hc4 (HR3.out.step b4) r4 (below_le B3 b4))
 clear r4 hc4 b4
 go_wp2
 (try simp only [Exit.inBlock, Exit.then])
 refine bodyPost_ret (results_tmp3 rfl _ _ _) rfl ?_
 exact HF.out
set_option maxRecDepth 100000 in
set_option maxHeartbeats 400000 in
theorem div_many (A C : Option Addr) (n c m d : Nat) (l k : List Nat) (w : World) (hn : l.length = n) (hc : n ≤ c) (hm : n ≤ 35184372088832) (h : RW w w.heap.size A l)
  (gn : k.length = m) (gc : m ≤ d) (gm : m ≤ 35184372088832) (g : RW w w.heap.size C k) (hl : (lngB (val l) || lngB (val k)) = false) (hle : (nrm k).length ≤ (nrm l).length) (h1k : 1 < (nrm k).length) :
  Cp 174 #[.slice A n c, .slice C m d] w (DivT (divQ (val l) (val k)) (divR (val l) (val k)) (divK (val l) (val k)) w) := by
 have c1 := tooTwo_any A C n c m d l k w hn hc hm h gn gc gm g
 have hp : Below w.heap.size w (pair w (.slice A n c) (.slice C m d)) := (Below.refl _ _).alloc (Nat.le_refl _) _
 rw [hl] at c1
 have c2 := cut_any A n c l w.heap.size _ hn hc hm (h.below hp)
 have c3 := cut_any C m d k w.heap.size _ gn gc gm (g.below hp)
 obtain ⟨hl1, hl2⟩ : lngB (val l) = false ∧ lngB (val k) = false := by simpa using hl
 have n1 := lng_len h.1 hl1
 have n2 := lng_len g.1 hl2
 have hk0 : 0 < val k := by
  rcases Nat.eq_zero_or_pos (val k) with h0 | h0
  ·rw [nrm_val_zero h0] at h1k; simp at h1k
  ·exact h0
 obtain ⟨N, hN⟩ : ∃ N, (nrm l).length = N := ⟨_, rfl⟩
 obtain ⟨M, hM⟩ : ∃ M, (nrm k).length = M := ⟨_, rfl⟩
 rw [hN] at n1 c2 hle
 rw [hM] at n2 c3 hle h1k
 obtain ⟨W, hW⟩ : ∃ W, pair w (.slice A n c) (.slice C m d) = W := ⟨_, rfl⟩
 rw [hW] at c1 c2 c3 hp
 have HOK := Lib.hid (fun (w' : World) A2 n2 c2 C2 m2 d2 h3 h4 h5 h6 h7 h8 h9 => DivT.ok (w := w) (w' := w') (A := A2) (C := C2) (n := n2) (c := c2) (m := m2) (d := d2) hl hk0 h3 h4 h5 h6 h7 h8 h9)
 obtain ⟨K, hK⟩ : ∃ K, N + 1 = K + M := ⟨N + 1 - M, by omega⟩
 have c4 := divideLong_any A C N N M K (M - 1) M (nrm l) (nrm k) W hN n1 ((h.nrm.below hp).more hp.size) hM (by omega) ((g.nrm.below hp).more hp.size) (nrm_nrm k) hK (by omega)
 rw [val_nrm, val_nrm] at c4
 have HW := Lib.hid hW
 have HP := Lib.hid hp
 have z0 : ((M : Int) == 0) = false := by simp; omega
 have z1 : ¬ (N : Int) < (M : Int) := by omega
 have z2 : ((M : Int) == 1) = false := by simp; omega
 have HK := Lib.hid (show K ≤ 1024 ∧ N + 1 ≤ 1025 by omega)
 obtain ⟨q, hq⟩ : ∃ q, val l / val k = q := ⟨_, rfl⟩
 obtain ⟨z, hz⟩ : ∃ z, val l % val k = z := ⟨_, rfl⟩
 rw [hq, hz] at HOK
 unfold LongPost at c4
 rw [hq, hz] at c4
 clear h g hn hc hm gn gc gm hl hp hl1 hl2 n1 n2 hN hM hW hle h1k hk0 hq hz hK
 go_enter Tryz.func174, Tryz.ntmps174
 go_wp2_with fail
 rw [show w.alloc (.cells #[.slice A n c, .slice C m d] 48) = W from HW.out]
 refine c1.mono ?_
 rintro e w1 ⟨rfl, rfl⟩
 go_wp2_with fail
 refine c2.mono ?_
 rintro e w1 ⟨rfl, rfl⟩
 go_wp2_with fail
 refine c3.mono ?_
 rintro e w1 ⟨rfl, rfl⟩
 go_wp2_with fail
 refine c4.mono ?_
 rintro e w2 ⟨S, T, g1, g2, rfl, r2, t2, s1, s2, s3, s4, s5, s6, b2⟩
 have B2 := below_le HP.out b2
 have hlt2 := r2.lt
 have hlt3 := t2.lt
 have c5 := cut_any (some ⟨g2, 0, none⟩) K K S w2.heap.size w2 s1 (Nat.le_refl _) (by have := HK.out; omega) ((r2.rw0 s3).more hlt2)
 have c6 := cut_any (some ⟨g1, 0, none⟩) (N + 1) (N + 1) T w2.heap.size w2 s2 (Nat.le_refl _) (by have := HK.out; omega) ((t2.rw0 s4).more hlt3)
 have HR2 := Lib.hid ((r2.rw0 s3).more hlt2).nrm
 have HR3 := Lib.hid ((t2.rw0 s4).more hlt3).nrm
 rw [nrm_wds s3, s5] at c5 HR2
 rw [nrm_wds s4, s6] at c6 HR3
 have HF := Lib.hid (HOK.out w2 _ _ (wds q).length _ _ (wds z).length rfl (Nat.le_refl _) rfl (Nat.le_refl _) HR2.out HR3.out B2)
 clear r2 t2 s1 s2 s3 s4 s5 s6 b2 hlt2 hlt3 c1 c2 c3 c4
 go_wp2_with fail
 refine c5.mono ?_
 rintro e w' ⟨rfl, rfl⟩
 go_wp2_with fail
 refine c6.mono ?_
 rintro e w' ⟨rfl, rfl⟩
 go_wp2
 (try simp only [Exit.inBlock, Exit.then])
 refine bodyPost_ret (results_tmp3 rfl _ _ _) rfl ?_
 exact HF.out
theorem div_any (A C : Option Addr) (n c m d : Nat) (l k : List Nat) (w : World) (hn : l.length = n) (hc : n ≤ c) (hm : n ≤ 35184372088832) (h : RW w w.heap.size A l)
  (gn : k.length = m) (gc : m ≤ d) (gm : m ≤ 35184372088832) (g : RW w w.heap.size C k) :
  Cp 174 #[.slice A n c, .slice C m d] w (DivT (divQ (val l) (val k)) (divR (val l) (val k)) (divK (val l) (val k)) w) := by
 cases hl : (lngB (val l) || lngB (val k))
 ·rcases Nat.eq_zero_or_pos (val k) with h0 | h0
  ·exact div_zero A C n c m d l k w hn hc hm h gn gc gm g hl h0
  ·have hp : 0 < (nrm k).length := List.length_pos_iff.2 (fun e => by rw [← val_nrm, e] at h0; simp [val] at h0)
   rcases Nat.lt_or_ge (nrm l).length (nrm k).length with h1 | h1
   ·exact div_small A C n c m d l k w hn hc hm h gn gc gm g hl h1
   ·by_cases h2 : (nrm k).length = 1
    ·exact div_word A C n c m d l k w hn hc hm h gn gc gm g hl h1 h2
    ·exact div_many A C n c m d l k w hn hc hm h gn gc gm g hl h1 (by omega)
 ·exact div_long A C n c m d l k w hn hc hm h gn gc gm g hl

end Go.Proofs.YtfcpkdafkmohkaaGreatDoor
namespace Go.Proofs.YtfcpkdafkmohkaaGreatDoor
open Go.RowKit
theorem NatPost.err {v : Nat} {w w' : World} {e : Ending} (h : NatPost v w e w') (hl : lngB v = true) : e = .returned (.tuple #[.slice none 0 0, .int .i64 3]) ∧ Below w.heap.size w w' := by
 obtain ⟨A, n, c, k, h1, h2, h3⟩ := h
 rw [if_pos hl] at h2
 obtain ⟨rfl, rfl, rfl, rfl⟩ := h2
 exact ⟨h1, h3⟩
theorem bit_test (n i : Nat) (hn : n < 9223372036854775808) : bits BinOp.and IntKind.i64 ((n : Int) / 2 ^ i) 1 = ((n / 2 ^ i % 2 : Nat) : Int) := by
 have h1 : n / 2 ^ i ≤ n := Nat.div_le_self _ _
 have e : ((n : Int) / 2 ^ i) = ((n / 2 ^ i : Nat) : Int) := by rw [Int.natCast_ediv, Int.natCast_pow]; rfl
 rw [e]
 obtain ⟨m, hm⟩ : ∃ m, n / 2 ^ i = m := ⟨_, rfl⟩
 rw [hm] at h1 ⊢
 show IntKind.i64.wrap ((BitVec.ofInt 64 (m : Int) &&& BitVec.ofInt 64 1).toNat : Int) = _
 have e1 : (BitVec.ofInt 64 1).toNat = 1 := by decide
 have e2 : (BitVec.ofInt 64 (m : Int)).toNat = m := by
  rw [BitVec.ofInt_natCast, BitVec.toNat_ofNat]; exact Nat.mod_eq_of_lt (by omega)
 rw [BitVec.toNat_and, e1, e2, Nat.and_one_is_mod, IntKind.wrap_i64]
 omega
set_option maxRecDepth 100000 in
set_option maxHeartbeats 4000000 in
theorem pow_any (b n : Nat) (w : World) (hb : b < 4294967296) (hn : n < 9223372036854775808) :
  Cp 107 #[.int .u32 b, .int .i64 n] w (NatPost (b ^ n) w) := by
 obtain ⟨F, hF⟩ : ∃ F, (wds b).length = F := ⟨_, rfl⟩
 obtain ⟨O, hO⟩ : ∃ O, (wds 1).length = O := ⟨_, rfl⟩
 have K1 := Lib.hid (fun W => show Cp 110 #[.int .u64 b] W (Told (wds b) F W) from by
  have := (of_any b (by omega) W).mono fun _ _ y => y.told (n := F) (by rw [two_wds b (by omega)]; exact hF)
  rw [two_wds b (by omega)] at this; exact this)
 have K2 := Lib.hid (fun W => show Cp 110 #[.int .u64 1] W (Told (wds 1) O W) from by
  have := (of_any 1 (by omega) W).mono fun _ _ y => y.told (n := O) (by rw [two_wds 1 (by omega)]; exact hO)
  rw [two_wds 1 (by omega)] at this; exact this)
 have hbl := Lib.bitLen_le n 64 (by omega) (by omega)
 have c3 := fun W => (Tryz.bits_Len (n : Int) W (by omega) (by omega)).mono fun _ _ (h : _ ∧ _ = W) => And.intro h.1 h.2.symm
 rw [Int.toNat_natCast] at c3
 obtain ⟨q0, hq0⟩ : ∃ q0, Lib.bitLen n = q0 := ⟨_, rfl⟩
 rw [hq0] at c3 hbl
 have hz : n / 2 ^ q0 = 0 := by
  rw [← hq0]
  rcases Nat.eq_zero_or_pos n with h0 | h0
  ·rw [h0]; exact Nat.zero_div _
  ·exact Nat.div_eq_of_lt (Lib.bitLenAux_bounds 64 n (by omega) (by omega)).2.2
 have HZ := Lib.hid (show b ^ (n / 2 ^ q0) = 1 by rw [hz]; rfl)
 have HF := Lib.hid hF
 have HO := Lib.hid hO
 have hF1 : F ≤ 2 := by rw [← hF, ← two_wds b (by omega)]; exact nrm_len _
 have k1 : IntKind.u64.wrap (b : Int) = (b : Int) := IntWalk.u64_in _ (by omega)
 have k2 : IntKind.u64.wrap (n : Int) = (n : Int) := IntWalk.u64_in _ (by omega)
 have HB := Lib.hid hb
 have HN := Lib.hid hn
 have n0 : (0 : Int) ≤ (n : Int) := by omega
 clear hb hn hF hO hq0 hz
 go_enter Tryz.func107, Tryz.ntmps107
 go_wp2_with fail
 refine (K1.out _).mono ?_
 rintro e w1 ⟨A1, c1, rfl, ⟨hc1, r1⟩, b1⟩
 go_wp2_with fail
 refine (K2.out _).mono ?_
 rintro e w2 ⟨A2, c2, rfl, ⟨hc2, r2⟩, b2⟩
 go_wp2_with fail
 refine (c3 _).mono ?_
 rintro e w' ⟨rfl, rfl⟩
 have HR1 := Lib.hid (r1.step b2)
 have HR2 := Lib.hid r2
 have HB2 := Lib.hid (below_le b1 b2)
 clear r1 r2 b1 b2 c3
 go_wp2
 go_loopw [7, 8] (fun v i wr => ∃ (q : Nat) (A : Option Addr) (N c : Nat), v = .slice A N c ∧ i = .int .i64 ((q : Int) - 1) ∧ q ≤ 64 ∧ Hid ((wds (b ^ (n / 2 ^ q))).length = N) ∧ N ≤ c ∧ Hid (RW wr wr.heap.size A (wds (b ^ (n / 2 ^ q)))) ∧ Hid (lngB (b ^ (n / 2 ^ q)) = false) ∧ Below w2.heap.size w2 wr) (fun _ i _ => (intOf i + 1).toNat)
 case atStart => exact ⟨q0, A2, O, c2, rfl, rfl, hbl, Lib.hid (by rw [HZ.out]; exact HO.out), hc2, Lib.hid (by rw [HZ.out]; exact HR2.out), Lib.hid (by rw [HZ.out]; exact lng_small (by omega)), Below.refl _ _⟩
 case round =>
  obtain ⟨q, A, N, c, rfl, rfl, hq, HNq, hNc, HR, HL, hbw⟩ := hrel
  by_cases h0 : q = 0
  ·subst h0
   have HE := Lib.hid (show b ^ (n / 2 ^ 0) = b ^ n by rw [Nat.pow_zero, Nat.div_one])
   have HX := Lib.hid (NatPost.ok (w := w) HL.out HNq.out.symm hNc HR.out (below_le HB2.out hbw))
   go_wp2
   go_ret2
   rw [← HE.out]
   exact HX.out
  ·obtain ⟨i, rfl⟩ : ∃ i, q = i + 1 := ⟨q - 1, by omega⟩
   have hNl := lng_le HL.out
   rw [HNq.out] at hNl
   have C1 := Lib.hid (mul_ok A A N c N c (wds (b ^ (n / 2 ^ (i + 1)))) (wds (b ^ (n / 2 ^ (i + 1)))) wr HNq.out hNc (by omega) HR.out HNq.out hNc (by omega) HR.out (by rw [wds_val, HL.out]; rfl))
   rw [wds_val] at C1
   clear h0
   cases hsq : lngB (b ^ (n / 2 ^ (i + 1)) * b ^ (n / 2 ^ (i + 1)))
   ·obtain ⟨N3, hN3⟩ : ∃ N3, (wds (b ^ (n / 2 ^ (i + 1)) * b ^ (n / 2 ^ (i + 1)))).length = N3 := ⟨_, rfl⟩
    have C2 := Lib.hid (C1.out.mono fun _ _ x => x.one hsq hN3)
    have hi1 : (i : Int) ≤ 63 := by omega
    have hbt := bit_test n i HN.out
    have hhalf := half_pow b n i
    have hbit : n / 2 ^ i % 2 = 0 ∨ n / 2 ^ i % 2 = 1 := by omega
    rcases hbit with hbit | hbit
    ·rw [hbit, Nat.pow_zero, Nat.mul_one] at hhalf
     rw [hhalf] at C2 hsq hN3
     have hT : (bits BinOp.and IntKind.i64 ((n : Int) / 2 ^ i) 1 == 1) = false := by rw [hbt, hbit]; rfl
     have HN3 := Lib.hid hN3
     have HSQ := Lib.hid hsq
     clear hbit hbt hhalf hN3 hsq C1 hNl
     go_wp2_with fail
     refine C2.out.mono ?_
     rintro e w3 ⟨A3, c3, rfl, ⟨hc3, r3⟩, b3⟩
     have HR3 := Lib.hid r3
     have HB3 := Lib.hid (below_le hbw b3)
     clear r3 b3 C2
     go_wp2
     go_roundw
     case rel => exact ⟨i, A3, N3, c3, rfl, by go_num, by omega, HN3, hc3, HR3, HSQ, HB3.out⟩
     case measure => simp [intOf]
    ·rw [hbit, Nat.pow_one] at hhalf
     have hT : (bits BinOp.and IntKind.i64 ((n : Int) / 2 ^ i) 1 == 1) = true := by rw [hbt, hbit]; rfl
     have hN3l := lng_le hsq
     rw [hN3] at hN3l
     have C4 := Lib.hid (fun W A5 c5 (h5 : N3 ≤ c5) (r5 : RW W W.heap.size A5 (wds (b ^ (n / 2 ^ (i + 1)) * b ^ (n / 2 ^ (i + 1))))) (r6 : RW W W.heap.size A1 (wds b)) =>
      show Cp 108 #[.slice A5 N3 c5, .slice A1 F c1] W (NatPost (b ^ (n / 2 ^ i)) W) from by
       have := mul_ok A5 A1 N3 c5 F c1 _ _ W hN3 h5 (by omega) r5 HF.out hc1 (by omega) r6 (by rw [wds_val, wds_val, hsq, lng_small HB.out]; rfl)
       rw [wds_val, wds_val, hhalf] at this
       exact this)
     clear hbit hbt hhalf hN3 hsq C1 hNl hN3l
     cases hmu : lngB (b ^ (n / 2 ^ i))
     ·obtain ⟨N4, hN4⟩ : ∃ N4, (wds (b ^ (n / 2 ^ i))).length = N4 := ⟨_, rfl⟩
      have HN4 := Lib.hid hN4
      have HMU := Lib.hid hmu
      clear hN4 hmu
      go_wp2_with fail
      refine C2.out.mono ?_
      rintro e w3 ⟨A3, c3, rfl, ⟨hc3, r3⟩, b3⟩
      have D4 := Lib.hid ((C4.out w3 A3 c3 hc3 r3 ((HR1.out.step hbw).step b3)).mono fun _ _ x => x.one HMU.out HN4.out)
      have hbw3 := below_le hbw b3
      clear r3 b3 C2 C4
      go_wp2_with fail
      refine D4.out.mono ?_
      rintro e w4 ⟨A4, c4, rfl, ⟨hc4, r4⟩, b4⟩
      have HR4 := Lib.hid r4
      have HB4 := Lib.hid (below_le hbw3 b4)
      clear r4 b4 D4
      go_wp2
      go_roundw
      case rel => exact ⟨i, A4, N4, c4, rfl, by go_num, by omega, HN4, hc4, HR4, HMU, HB4.out⟩
      case measure => simp [intOf]
     ·have HMU := Lib.hid hmu
      have HLN := Lib.hid (pow_le b _ n (Nat.div_le_self n (2 ^ i)) hmu)
      clear hmu
      go_wp2_with fail
      refine C2.out.mono ?_
      rintro e w3 ⟨A3, c3, rfl, ⟨hc3, r3⟩, b3⟩
      have D4 := Lib.hid ((C4.out w3 A3 c3 hc3 r3 ((HR1.out.step hbw).step b3)).mono fun _ _ x => x.err HMU.out)
      have hbw3 := below_le hbw b3
      clear r3 b3 C2 C4
      go_wp2_with fail
      refine D4.out.mono ?_
      rintro e w4 ⟨rfl, b4⟩
      have HB4 := Lib.hid (below_le HB2.out (below_le hbw3 b4))
      clear b4 D4
      go_wp2
      go_ret2
      exact NatPost.long HLN.out HB4.out
   ·have HSQ := Lib.hid hsq
    have HLN := Lib.hid (show lngB (b ^ n) = true by rw [sq_pow] at hsq; exact pow_le b _ n (sq_le n i) hsq)
    have C2 := Lib.hid (C1.out.mono fun _ _ x => x.err hsq)
    clear hsq hNl C1
    go_wp2_with fail
    refine C2.out.mono ?_
    rintro e w3 ⟨rfl, b3⟩
    have HB3 := Lib.hid (below_le HB2.out (below_le hbw b3))
    clear b3 C2
    go_wp2
    go_ret2
    exact NatPost.long HLN.out HB3.out

end Go.Proofs.YtfcpkdafkmohkaaGreatDoor
namespace Go.Proofs.YtfcpkdafkmohkaaGreatDoor
open Go.RowKit
end Go.Proofs.YtfcpkdafkmohkaaGreatDoor
namespace Go.Proofs.YtfcpkdafkmohkaaGreatDoor
def decR (N : Nat) (e : Int) : Nat := rnd (N * 10 ^ e.toNat * 2 ^ 1074) (10 ^ (-e).toNat)
theorem decR_K : ∃ K : Nat, K = 1074 ∧ ∀ N e, decR N e = rnd (N * 10 ^ e.toNat * 2 ^ K) (10 ^ (-e).toNat) := ⟨1074, rfl, fun _ _ => rfl⟩
theorem ten_pos (k : Nat) : 0 < 10 ^ k := Nat.pow_pos (by omega)
theorem rnd_tiny {u v : Nat} (h : 2 * u < v) : rnd u v = 0 := by
 have h1 : u / v = 0 := Nat.div_eq_of_lt (by omega)
 have h2 : rplace u v = 0 := by unfold rplace; rw [h1]; rfl
 unfold rnd
 rw [h2, Nat.pow_zero, Nat.one_mul]
 unfold ediv
 rw [h1, Nat.mod_eq_of_lt (by omega), decide_eq_false (by omega), decide_eq_false (by omega)]
 rfl
theorem decR_zero (e : Int) : decR 0 e = 0 := by
 obtain ⟨K, hK, h⟩ := decR_K
 rw [h, Nat.zero_mul, Nat.zero_mul]
 exact rnd_tiny (ten_pos _)
theorem decR_shift (N j : Nat) (e : Int) : decR (N * 10 ^ j) e = decR N (e + j) := by
 obtain ⟨K, hK, h⟩ := decR_K
 rw [h, h]
 refine rnd_cross (ten_pos _) (ten_pos _) ?_
 have e1 : 10 ^ j * 10 ^ e.toNat * 10 ^ (-(e + j)).toNat = 10 ^ (e + j).toNat * 10 ^ (-e).toNat := by
  rw [← Nat.pow_add, ← Nat.pow_add, ← Nat.pow_add]
  congr 1
  omega
 generalize 10 ^ j = x at *
 generalize 10 ^ e.toNat = y at *
 generalize 10 ^ (-(e + j)).toNat = z at *
 generalize 10 ^ (e + j).toNat = p at *
 generalize 10 ^ (-e).toNat = q at *
 generalize 2 ^ K = U at *
 have h1 : N * x * y * U * z = N * (x * y * z) * U := by grind
 have h2 : N * p * U * q = N * (p * q) * U := by grind
 rw [h1, h2, e1]
set_option exponentiation.threshold 2000 in
theorem two_ten : ∀ K T : Nat, K = 1075 → T = 324 → 2 ^ K < 10 ^ T := by
 intro K T hK hT
 subst hK
 subst hT
 decide +kernel
set_option exponentiation.threshold 2000 in
theorem ten_two : ∀ K T : Nat, K = 1024 → T = 309 → 2 ^ K ≤ 10 ^ T := by
 intro K T hK hT
 subst hK
 subst hT
 decide +kernel
theorem decR_tiny {N L : Nat} {e : Int} (hN : N < 10 ^ L) (h : (L : Int) + e ≤ -324) : decR N e = 0 := by
 obtain ⟨K, hK, hd⟩ := decR_K
 rw [hd, show e.toNat = 0 by omega, Nat.pow_zero, Nat.mul_one]
 refine rnd_tiny ?_
 obtain ⟨T, hT⟩ : ∃ T : Nat, T = 324 := ⟨_, rfl⟩
 have h1 := two_ten (K + 1) T (by omega) hT
 have h2 : 10 ^ L * 10 ^ T ≤ 10 ^ (-e).toNat := by
  rw [← Nat.pow_add]
  exact Nat.pow_le_pow_right (by omega) (by omega)
 rw [Nat.pow_succ] at h1
 refine Nat.lt_of_lt_of_le ?_ h2
 have hL := ten_pos L
 generalize 10 ^ L = x at *
 generalize 10 ^ T = y at *
 generalize 2 ^ K = U at *
 have a1 : N * (U * 2) ≤ x * (U * 2) := Nat.mul_le_mul_right _ (Nat.le_of_lt hN)
 have a2 : x * (U * 2) < x * y := Nat.mul_lt_mul_of_pos_left h1 hL
 have a3 : 2 * (N * U) = N * (U * 2) := by grind
 omega
theorem decR_huge {N M : Nat} {e : Int} (hN : 10 ^ M ≤ N) (h : 309 ≤ (M : Int) + e) : decR N e = 9218868437227405312 := by
 obtain ⟨K, hK, hd⟩ := decR_K
 rw [hd]
 refine rnd_top (ten_pos _) ?_
 obtain ⟨D, hD⟩ : ∃ D : Nat, D = 2046 := ⟨_, rfl⟩
 have e1 := fmag_make 4503599627370496 D (by omega) (by omega)
 rw [show D * 4503599627370496 + 4503599627370496 = 9218868437227405312 by omega] at e1
 rw [e1]
 obtain ⟨T, hT⟩ : ∃ T : Nat, T = 309 := ⟨_, rfl⟩
 have h1 := ten_two (D + 52 - K) T (by omega) hT
 have h2 : 4503599627370496 * 2 ^ D = 2 ^ (D + 52 - K) * 2 ^ K := by
  rw [show (4503599627370496 : Nat) = 2 ^ 52 from rfl, ← Nat.pow_add, ← Nat.pow_add]
  exact congrArg (fun k => 2 ^ k) (show 52 + D = D + 52 - K + K by omega)
 have h3 : 10 ^ T * 10 ^ (-e).toNat ≤ 10 ^ M * 10 ^ e.toNat := by
  rw [← Nat.pow_add, ← Nat.pow_add]
  exact Nat.pow_le_pow_right (by omega) (by omega)
 rw [h2]
 generalize 2 ^ (D + 52 - K) = A at *
 generalize 2 ^ K = U at *
 generalize 10 ^ T = Tn at *
 generalize 10 ^ (-e).toNat = z at *
 generalize 10 ^ M = m at *
 generalize 10 ^ e.toNat = y at *
 have a1 : A * U * z = A * z * U := by grind
 rw [a1]
 refine Nat.mul_le_mul_right _ ?_
 have a2 : A * z ≤ Tn * z := Nat.mul_le_mul_right _ h1
 have a3 : m * y ≤ N * y := Nat.mul_le_mul_right _ hN
 omega
theorem decR_same {N N' p r T : Nat} {e : Int} (hT : T = 768) (hp : 10 ^ T ≤ p) (a1 : p * 10 ^ r < N) (a2 : N < (p + 1) * 10 ^ r) (b1 : p * 10 ^ r < N') (b2 : N' < (p + 1) * 10 ^ r) (htop : (p + 1) * 10 ^ (e + r).toNat ≤ 10 ^ T * 10 ^ (-(e + r)).toNat) : decR N e = decR N' e := by
 have main : ∀ N N' : Nat, N ≤ N' → p * 10 ^ r < N → N' < (p + 1) * 10 ^ r → decR N e = decR N' e := by
  intro N N' hle c1 c2
  obtain ⟨K, hK, hd⟩ := decR_K
  rw [hd, hd]
  refine rnd_same (ten_pos _) (ten_pos _) (Nat.mul_le_mul_right _ (Nat.mul_le_mul_right _ (Nat.mul_le_mul_right _ hle))) ?_
  intro c D hc h1 h2
  have e1 : 10 ^ r * 10 ^ e.toNat * 10 ^ (-(e + r)).toNat = 10 ^ (e + r).toNat * 10 ^ (-e).toNat := by
   rw [← Nat.pow_add, ← Nat.pow_add, ← Nat.pow_add]
   congr 1
   omega
  have hy := ten_pos e.toNat
  have hz := ten_pos (-(e + r)).toNat
  have hq := ten_pos (-e).toNat
  have hU := Nat.two_pow_pos K
  refine gap_free (p := p) (s := (e + r).toNat) (t := (-(e + r)).toNat) (c := c) (D := D) (K := K + 1) (by omega) hT hp hc ?_ ?_ htop
  ·rw [Nat.pow_succ]
   generalize 10 ^ r = x at *
   generalize 10 ^ e.toNat = y at *
   generalize 10 ^ (-(e + r)).toNat = z at *
   generalize 10 ^ (e + r).toNat = s at *
   generalize 10 ^ (-e).toNat = q at *
   generalize 2 ^ K = U at *
   generalize c * 2 ^ D = C at *
   refine Nat.lt_of_mul_lt_mul_right (a := q) ?_
   have g1 : p * x * (y * (U * 2) * z) < N * (y * (U * 2) * z) := Nat.mul_lt_mul_of_pos_right c1 (Nat.mul_pos (Nat.mul_pos hy (by omega)) hz)
   have g2 : 2 * (N * y * U) * z ≤ C * q * z := Nat.mul_le_mul_right _ h1
   have g3 : p * s * (U * 2) * q = p * x * (y * (U * 2) * z) := by
    have : p * s * (U * 2) * q = p * (s * q) * (U * 2) := by grind
    rw [this, ← e1]; grind
   have g4 : N * (y * (U * 2) * z) = 2 * (N * y * U) * z := by grind
   have g5 : C * z * q = C * q * z := by grind
   omega
  ·rw [Nat.pow_succ]
   generalize 10 ^ r = x at *
   generalize 10 ^ e.toNat = y at *
   generalize 10 ^ (-(e + r)).toNat = z at *
   generalize 10 ^ (e + r).toNat = s at *
   generalize 10 ^ (-e).toNat = q at *
   generalize 2 ^ K = U at *
   generalize c * 2 ^ D = C at *
   refine Nat.lt_of_mul_lt_mul_right (a := q) ?_
   have g1 : N' * (y * (U * 2) * z) < (p + 1) * x * (y * (U * 2) * z) := Nat.mul_lt_mul_of_pos_right c2 (Nat.mul_pos (Nat.mul_pos hy (by omega)) hz)
   have g2 : C * q * z ≤ 2 * (N' * y * U) * z := Nat.mul_le_mul_right _ h2
   have g3 : (p + 1) * s * (U * 2) * q = (p + 1) * x * (y * (U * 2) * z) := by
    have : (p + 1) * s * (U * 2) * q = (p + 1) * (s * q) * (U * 2) := by grind
    rw [this, ← e1]; grind
   have g4 : N' * (y * (U * 2) * z) = 2 * (N' * y * U) * z := by grind
   have g5 : C * z * q = C * q * z := by grind
   omega
 rcases Nat.le_total N N' with h | h
 ·exact main N N' h a1 b2
 ·exact (main N' N h b1 a2).symm
theorem decR_cut {p r q k : Nat} {e : Int} (hk : 769 ≤ k) (hp : 10 ^ (k - 1) ≤ p) (hp2 : p < 10 ^ k) (hq : q < 10 ^ r) (h0 : 0 < q) (hpt : (k : Int) + (e + r) ≤ 768) : decR (p * 10 ^ r + q) e = decR (p * 10 + 1) (e + r - 1) := by
 obtain ⟨T, hT⟩ : ∃ T : Nat, T = 768 := ⟨_, rfl⟩
 have hr : 0 < r := by
  rcases Nat.eq_zero_or_pos r with h | h
  ·rw [h, Nat.pow_zero] at hq; omega
  ·exact h
 obtain ⟨j, rfl⟩ : ∃ j, r = j + 1 := ⟨r - 1, by omega⟩
 have e1 : decR ((p * 10 + 1) * 10 ^ j) e = decR (p * 10 + 1) (e + (j + 1 : Nat) - 1) := by
  rw [decR_shift]
  exact congrArg (decR _) (by omega)
 rw [← e1]
 have hj := ten_pos j
 have hpT : 10 ^ T ≤ p := Nat.le_trans (Nat.pow_le_pow_right (by omega) (by omega)) hp
 refine decR_same hT hpT ?_ ?_ ?_ ?_ (r := j + 1) ?_
 ·omega
 ·rw [Nat.add_mul, Nat.one_mul]; omega
 ·rw [Nat.pow_succ]; grind
 ·rw [Nat.pow_succ]; grind
 ·have h1 : (p + 1) * 10 ^ (e + (j + 1 : Nat)).toNat ≤ 10 ^ k * 10 ^ (e + (j + 1 : Nat)).toNat := Nat.mul_le_mul_right _ hp2
  have h2 : 10 ^ k * 10 ^ (e + (j + 1 : Nat)).toNat ≤ 10 ^ T * 10 ^ (-(e + (j + 1 : Nat))).toNat := by
   rw [← Nat.pow_add, ← Nat.pow_add]
   exact Nat.pow_le_pow_right (by omega) (by omega)
  exact Nat.le_trans h1 h2

end Go.Proofs.YtfcpkdafkmohkaaGreatDoor
namespace Go.Proofs.YtfcpkdafkmohkaaGreatDoor
theorem two_pos (k : Nat) : 0 < 2 ^ k := Nat.two_pow_pos k
theorem big_place {N n q t A B D : Nat} (hq : N = q * n + t) (hn : 0 < n) (hD : rplace (N * 2 ^ A) (2 ^ B * n) = D) (hbig : 2 ^ 60 ≤ q) : A + 7 ≤ D + B := by
 have s2 := (rplace_spec (Nat.mul_pos (two_pos B) hn) hD).2
 rcases Nat.lt_or_ge (D + B) (A + 7) with h | h
 ·exfalso
  have h1 : 2 ^ 60 * n ≤ N := by
   have := Nat.mul_le_mul_right n hbig
   omega
  have h2 : 2 ^ 60 * n * 2 ^ A ≤ N * 2 ^ A := Nat.mul_le_mul_right _ h1
  have h3 : 2 ^ D * 2 ^ B ≤ 2 ^ (A + 6) := by rw [← Nat.pow_add]; exact Nat.pow_le_pow_right (by omega) (by omega)
  have h4 : (2 : Nat) ^ (A + 6) = 2 ^ A * 64 := by rw [Nat.pow_add]
  have h5 : 9007199254740992 * 2 ^ D * (2 ^ B * n) = 9007199254740992 * (2 ^ D * 2 ^ B) * n := by grind
  rw [h5] at s2
  have h6 : 9007199254740992 * (2 ^ D * 2 ^ B) * n ≤ 9007199254740992 * (2 ^ A * 64) * n := Nat.mul_le_mul_right _ (Nat.mul_le_mul_left _ (by omega))
  have h7 : (2 : Nat) ^ 60 = 1152921504606846976 := by decide
  rw [h7] at h2
  have hP := two_pos A
  generalize 2 ^ A = P at *
  have h8 : 9007199254740992 * (P * 64) * n = 576460752303423488 * (n * P) := by grind
  have h9 : 1152921504606846976 * n * P = 1152921504606846976 * (n * P) := Nat.mul_assoc _ _ _
  omega
 ·exact h
theorem decR_near {m N n q t s : Nat} {ten last : Int} (hN : N = m * 5 ^ ten.toNat * 2 ^ (ten - last).toNat) (hn : n = 5 ^ (-ten).toNat * 2 ^ (last - ten).toNat) (hq : N = q * n + t) (ht : t < n) (hs : s = if t = 0 then 0 else 1) (hbig : last = -1076 ∨ 2 ^ 60 ≤ q) :
  decR m ten = rnd ((q ||| s) * 2 ^ (last + 1074).toNat) (2 ^ (-(last + 1074)).toNat) := by
 obtain ⟨K, hK, hd⟩ := decR_K
 obtain ⟨A, hA⟩ : ∃ A, (last + 1074).toNat = A := ⟨_, rfl⟩
 obtain ⟨B, hB⟩ : ∃ B, (-(last + 1074)).toNat = B := ⟨_, rfl⟩
 have hn0 : 0 < n := by omega
 obtain ⟨D, hD⟩ : ∃ D, rplace (N * 2 ^ A) (2 ^ B * n) = D := ⟨_, rfl⟩
 have key : A + 2 ≤ D + B := by
  rcases hbig with h | h
  ·omega
  ·have := big_place hq hn0 hD h
   omega
 obtain ⟨d, hd2⟩ : ∃ d, D + B = A + d := ⟨D + B - A, by omega⟩
 rw [hA, hB, (rnd_quot hn0 hq ht hs hD hd2 (by omega)).2 (by omega), hd]
 refine rnd_cross (ten_pos _) (Nat.mul_pos (two_pos B) hn0) ?_
 rw [hN, hn, show (10 : Nat) = 5 * 2 from rfl, Nat.mul_pow, Nat.mul_pow]
 have e1 : 2 ^ ten.toNat * 2 ^ K * 2 ^ B * 2 ^ (last - ten).toNat = 2 ^ (ten - last).toNat * 2 ^ A * 2 ^ (-ten).toNat := by
  rw [← Nat.pow_add, ← Nat.pow_add, ← Nat.pow_add, ← Nat.pow_add, ← Nat.pow_add]
  congr 1
  omega
 generalize 5 ^ ten.toNat = f at *
 generalize 5 ^ (-ten).toNat = g at *
 generalize 2 ^ ten.toNat = x1 at *
 generalize 2 ^ K = x2 at *
 generalize 2 ^ B = x3 at *
 generalize 2 ^ (last - ten).toNat = x4 at *
 generalize 2 ^ (ten - last).toNat = y1 at *
 generalize 2 ^ A = y2 at *
 generalize 2 ^ (-ten).toNat = y3 at *
 have a1 : m * (f * x1) * x2 * (x3 * (g * x4)) = m * f * g * (x1 * x2 * x3 * x4) := by grind
 have a2 : m * f * y1 * y2 * (g * y3) = m * f * g * (y1 * y2 * y3) := by grind
 rw [a1, a2, e1]
theorem decR_refq {m N q t s k up a b : Nat} (hN : N = m * 2 ^ up) (hq : N = q * 10 ^ k + t) (ht : t < 10 ^ k) (hs : s = if t = 0 then 0 else 1) (hbig : 2 ^ 60 ≤ q) (ha : a = 1074 - up) (hb : b = up - 1074) :
  rnd ((2 * q + s) * 2 ^ a) (2 ^ (b + 1)) = decR m (-(k : Int)) := by
 obtain ⟨K, hK, hd⟩ := decR_K
 obtain ⟨n, hn⟩ : ∃ n, 10 ^ k = n := ⟨_, rfl⟩
 rw [hn] at hq ht
 have hn0 : 0 < n := by omega
 obtain ⟨D, hD⟩ : ∃ D, rplace (N * 2 ^ a) (2 ^ b * n) = D := ⟨_, rfl⟩
 have key := big_place hq hn0 hD hbig
 obtain ⟨d, hd2⟩ : ∃ d, D + b = a + d := ⟨D + b - a, by omega⟩
 rw [(rnd_quot hn0 hq ht hs hD hd2 (by omega)).1, hd, show (-(k : Int)).toNat = 0 by omega, show (-(-(k : Int))).toNat = k by omega, hn, Nat.pow_zero, Nat.mul_one]
 refine rnd_cross (Nat.mul_pos (two_pos b) hn0) hn0 ?_
 rw [hN]
 have e1 : 2 ^ up * 2 ^ a = 2 ^ K * 2 ^ b := by
  rw [← Nat.pow_add, ← Nat.pow_add]
  congr 1
  omega
 generalize 2 ^ up = x1 at *
 generalize 2 ^ a = x2 at *
 generalize 2 ^ K = y1 at *
 generalize 2 ^ b = y2 at *
 have a1 : m * x1 * x2 * n = m * n * (x1 * x2) := by grind
 have a2 : m * y1 * (y2 * n) = m * n * (y1 * y2) := by grind
 rw [a1, a2, e1]
theorem rnd_drop {n L drop A B D : Nat} (h1 : n < 2 ^ L) (h2 : L = 0 ∨ 2 ^ (L - 1) ≤ n) (hL : L ≤ drop + 53) (h3 : D = 0 ∨ L = drop + 53) (hD : D + B = A + drop) :
  rnd (n * 2 ^ A) (2 ^ B) = min (D * 4503599627370496 + ediv n (2 ^ drop)) 9218868437227405312 ∧ ediv n (2 ^ drop) ≤ 9007199254740992 ∧ (D = 0 ∨ 4503599627370496 ≤ ediv n (2 ^ drop)) := by
 have hP : 2 ^ D * 2 ^ B = 2 ^ A * 2 ^ drop := by rw [← Nat.pow_add, ← Nat.pow_add, hD]
 have hA := two_pos A
 have hd := two_pos drop
 have up : n ≤ 9007199254740992 * 2 ^ drop ∧ n < 9007199254740992 * 2 ^ drop := by
  have : 2 ^ L ≤ 9007199254740992 * 2 ^ drop := by
   rw [show (9007199254740992 : Nat) = 2 ^ 53 from rfl, ← Nat.pow_add]
   exact Nat.pow_le_pow_right (by omega) (by omega)
  omega
 have lo : D = 0 ∨ 4503599627370496 * 2 ^ drop ≤ n := by
  rcases h3 with h | h
  ·exact Or.inl h
  ·refine Or.inr ?_
   rw [show (4503599627370496 : Nat) = 2 ^ 52 from rfl, ← Nat.pow_add, show 52 + drop = L - 1 by omega]
   exact h2.resolve_left (by omega)
 have hp : rplace (n * 2 ^ A) (2 ^ B) = D := by
  refine rplace_of (two_pos B) ?_ ?_
  ·rcases lo with h | h
   ·exact Or.inl h
   ·refine Or.inr ?_
    rw [Nat.mul_assoc, hP]
    have := Nat.mul_le_mul_right (2 ^ A) h
    have e : 4503599627370496 * 2 ^ drop * 2 ^ A = 4503599627370496 * (2 ^ A * 2 ^ drop) := by rw [Nat.mul_assoc, Nat.mul_comm (2 ^ drop)]
    omega
  ·rw [Nat.mul_assoc, hP]
   have := Nat.mul_lt_mul_of_pos_right up.2 hA
   have e : 9007199254740992 * 2 ^ drop * 2 ^ A = 9007199254740992 * (2 ^ A * 2 ^ drop) := by rw [Nat.mul_assoc, Nat.mul_comm (2 ^ drop)]
   omega
 refine ⟨?_, ediv_le hd up.1, ?_⟩
 ·unfold rnd
  rw [hp, hP, Nat.mul_comm (2 ^ A), ediv_scale hA]
 ·rcases lo with h | h
  ·exact Or.inl h
  ·exact Or.inr (ediv_ge hd h)
theorem ediv_half' {n h : Nat} : ediv n (2 * h) = if h < n % (2 * h) ∨ (n % (2 * h) = h ∧ n / (2 * h) % 2 = 1) then n / (2 * h) + 1 else n / (2 * h) := by
 unfold ediv
 generalize n % (2 * h) = r
 generalize n / (2 * h) = q
 by_cases c1 : h < r
 ·rw [if_pos (Or.inl c1), decide_eq_true (by omega), Bool.true_or]; rfl
 ·rw [decide_eq_false (show ¬ 2 * h < 2 * r by omega), Bool.false_or]
  by_cases c2 : r = h
  ·rw [decide_eq_true (by omega), Bool.true_and]
   by_cases c3 : q % 2 = 1
   ·rw [decide_eq_true c3, if_pos (Or.inr ⟨c2, c3⟩)]; rfl
   ·rw [decide_eq_false c3, if_neg (by omega)]; rfl
  ·rw [decide_eq_false (show ¬ 2 * h = 2 * r by omega), Bool.false_and, if_neg (by omega)]; rfl

end Go.Proofs.YtfcpkdafkmohkaaGreatDoor
namespace Go.Proofs.YtfcpkdafkmohkaaGreatDoor
open Go.RowKit
theorem nrm_full {l : List Nat} (h : Ws l) (hv : l = [] ∨ 4294967296 ^ (l.length - 1) ≤ val l) : nrm l = l := by
 rcases hv with rfl | hv
 ·rfl
 ·have h1 := nrm_len l
  rcases Nat.lt_or_ge (nrm l).length l.length with h2 | h2
  ·have h3 := val_lt h.nrm
   rw [val_nrm] at h3
   have h4 : 4294967296 ^ (nrm l).length ≤ 4294967296 ^ (l.length - 1) := Nat.pow_le_pow_right (by omega) (by omega)
   omega
  ·have h3 := nrm_take l
   rw [List.take_of_length_le h2] at h3
   exact h3
structure TpT (a : List Nat) (x y k : Nat) (S : List Nat) (q : Nat) : Prop where
 len : S.length = a.length
 ws : Ws S
 far : ∀ j, k ≤ j → S.getD j 0 = a.getD j 0
 sum : val (S.take k) + 4294967296 ^ k * q = x * val (a.take k) + y
 low : q < 4294967296
theorem TpT.start {a : List Nat} (ha : Ws a) {x y : Nat} (hy : y < 4294967296) : TpT a x y 0 a y := ⟨rfl, ha, fun _ _ => rfl, by simp [val], hy⟩
def tpC (a : List Nat) (x k q : Nat) : Nat := q + a.getD k 0 * x
theorem tpC_lt {a : List Nat} {x k q : Nat} (ha : Ws a) (hx : x < 4294967296) (hq : q < 4294967296) : a.getD k 0 * x ≤ 18446744065119617025 ∧ tpC a x k q ≤ 18446744069414584320 := by
 have h1 := ha.getD k
 have h3 : a.getD k 0 * x ≤ 4294967295 * 4294967295 := Nat.mul_le_mul (by omega) (by omega)
 unfold tpC
 omega
theorem TpT.next {a : List Nat} {x y k : Nat} {S : List Nat} {q : Nat} (h : TpT a x y k S q) (ha : Ws a) (hx : x < 4294967296) (hk : k < a.length) :
  TpT a x y (k + 1) (S.set k (tpC a x k q % 4294967296)) (tpC a x k q / 4294967296) := by
 obtain ⟨h1, h2, h3, h4, h5⟩ := h
 have hc := (tpC_lt (k := k) ha hx h5).2
 refine ⟨by rw [List.length_set]; exact h1, h2.set (by omega), fun j hj => by rw [getD_set_ne (by omega)]; exact h3 j (by omega), ?_, by omega⟩
 rw [val_take_succ _ k (by rw [List.length_set]; omega), val_take_succ a k hk, getD_set_eq (by omega)]
 rw [take_congr (l := S.set k (tpC a x k q % 4294967296)) (m := S) k (by rw [List.length_set]; omega) (by omega) (fun j hj => getD_set_ne (by omega))]
 have e := step_words (4294967296 ^ k) (tpC a x k q) (val (S.take k)) (x * (val (a.take k) + 4294967296 ^ k * a.getD k 0) + y) (by
  have : tpC a x k q = q + a.getD k 0 * x := rfl
  rw [this]
  grind)
 rw [Nat.pow_succ]
 exact e
theorem TpT.fin {n x y q : Nat} {S : List Nat} (h : TpT (wds n) x y (wds n).length S q) (hx : 0 < x) : (if q = 0 then S else S ++ [q]) = wds (n * x + y) := by
 obtain ⟨h1, h2, h3, h4, h5⟩ := h
 rw [List.take_of_length_le (by omega), List.take_of_length_le (Nat.le_refl _), wds_val] at h4
 by_cases hq : q = 0
 ·rw [if_pos hq]
  rw [hq, Nat.mul_zero, Nat.add_zero] at h4
  have hv : val S = n * x + y := by rw [h4, Nat.mul_comm]
  rw [← hv, ← nrm_wds h2]
  refine (nrm_full h2 ?_).symm
  rcases Nat.eq_zero_or_pos (wds n).length with h0 | h0
  ·left; exact List.eq_nil_of_length_eq_zero (by omega)
  ·right
   have h6 := val_ge (l := wds n) (by rw [wds_nrm]; intro e; rw [e] at h0; simp at h0)
   rw [wds_nrm, wds_val] at h6
   rw [h1, hv]
   have : n * 1 ≤ n * x := Nat.mul_le_mul_left _ hx
   omega
 ·rw [if_neg hq]
  have hw : Ws (S ++ [q]) := h2.append (Ws.cons h5 Ws.nil)
  have hv : val (S ++ [q]) = n * x + y := by rw [val_snoc, h1, h4, Nat.mul_comm]
  rw [← hv, ← nrm_wds hw]
  refine (nrm_full hw (.inr ?_)).symm
  rw [val_snoc, List.length_append, List.length_singleton, Nat.add_sub_cancel]
  have : 4294967296 ^ S.length * 1 ≤ 4294967296 ^ S.length * q := Nat.mul_le_mul_left _ (by omega)
  omega
theorem OwnW.cell {B : Nat} {l : List Nat} {g n c : Nat} {w : World} (h : OwnW B l (.slice (some ⟨g, 0, none⟩) n c) w) (k : Nat) (hk : k < l.length) :
  w.cell? ⟨g, k, none⟩ = some (.int .u32 (l.getD k 0 : Nat)) ∧ w.frozen? ⟨g, k, none⟩ = false := by
 rcases h.2 with ⟨e, _⟩ | ⟨g', cap, cur, e, hB, hg, hcap, hmax, hcur, htk⟩
 ·cases e
 ·cases e
  refine ⟨?_, by simp [World.frozen?, hg]⟩
  have := World.ownsRow.cells (g := g) h rfl k (.int .u32 (l.getD k 0 : Nat)) (by rw [List.getElem?_map, getD_some hk]; rfl)
  by_cases hz : k = 0
  ·subst hz; simpa [Addr.add] using this
  ·simpa [Addr.add, hz] using this
theorem OwnW.set {B : Nat} {l : List Nat} {g n c : Nat} {w : World} (h : OwnW B l (.slice (some ⟨g, 0, none⟩) n c) w) (k u : Nat) :
  OwnW B (l.set k u) (.slice (some ⟨g, 0, none⟩) n c) (w.setCell ⟨g, k, none⟩ (.int .u32 (u : Nat))) := by
 rcases h.2 with ⟨e, _⟩ | ⟨g', cap, cur, e, hB, hg, hcap, hmax, hcur, htk⟩
 ·cases e
 ·cases e
  refine ⟨by rw [List.length_map, List.length_set, Nat.mul_one], .inr ⟨g, c, cur.set! k (.int .u32 (u : Nat)), by rw [List.length_set], hB, ?_, by rw [List.length_set]; exact hcap, hmax, ?_, ?_⟩⟩
  ·simp [World.setCell, Array.getElem?_modify, hg]
  ·simpa using hcur
  ·rw [List.map_set, ← htk]
   simp only [Array.set!_eq_setIfInBounds, Array.toList_setIfInBounds, List.length_set]
   rw [List.take_set]
set_option maxRecDepth 100000 in
set_option maxHeartbeats 1000000 in
theorem timesPlus_any (B : Nat) (v : Value) (n x y : Nat) (w : World) (h : OwnW B (wds n) v w) (hB : B ≤ w.heap.size) (hl : (wds n).length ≤ 1024) (hx : x < 4294967296) (hx0 : 0 < x) (hy : y < 4294967296) :
  Cp 198 #[v, .int .u32 x, .int .u32 y] w fun e w' => ∃ v', e = .returned v' ∧ OwnW B (wds (n * x + y)) v' w' ∧ Below B w w' := by
 obtain ⟨i0, hi, hz0, hz1, hz2⟩ := info_parts infoW
 have hy1 : IntKind.u64.wrap (y : Int) = (y : Int) := IntWalk.u64_in _ (by omega)
 have hx1 : IntKind.u64.wrap (x : Int) = (x : Int) := IntWalk.u64_in _ (by omega)
 have HX := Lib.hid hx
 have HX0 := Lib.hid hx0
 have HST := Lib.hid (TpT.start (x := x) (wds_ws n) hy)
 rcases h.2 with ⟨rfl, h0⟩ | ⟨g, cap, cur, rfl, hBg, hg, hcap, hmax, hcur, htk⟩
 ·have hnil : wds n = [] := List.eq_nil_of_length_eq_zero h0
  have hn0 : n = 0 := by rw [← wds_val n, hnil]; rfl
  have HF := Lib.hid (show (if y = 0 then ([] : List Nat) else [y]) = wds (n * x + y) from by
   have := (show TpT (wds n) x y (wds n).length [] y from by rw [hnil]; exact TpT.start Ws.nil hy).fin hx0
   rw [← this]; rfl)
  have hOn : OwnW B [] (.slice none 0 0) w := OwnW.nil _ _
  by_cases hy0 : y = 0
  ·rw [if_pos hy0] at HF
   have b0 : ((y : Int) == 0) = true := by rw [hy0]; rfl
   clear h hl hx hx0 hy h0 hnil hn0 hy0 HST
   go_enter Tryz.func198, Tryz.ntmps198
   go_wp2
   go_loopw [14, 7] (fun iv cv wr => iv = .int .i64 0 ∧ cv = .int .u64 (y : Nat) ∧ w = wr) (fun _ _ _ => 0)
   case atStart => exact ⟨rfl, rfl, rfl⟩
   case round =>
    obtain ⟨rfl, rfl, rfl⟩ := hrel
    go_wp2
    go_ret
    exact ⟨_, rfl, by rw [← HF.out]; exact hOn, Below.refl _ _⟩
  ·rw [if_neg hy0] at HF
   have b0 : ((y : Int) == 0) = false := by simp; omega
   have k1 : IntKind.u32.wrap (y : Int) = (y : Int) := IntWalk.u32_in _ (by omega)
   clear h hl hx hx0 hy h0 hnil hn0 hy0 HST
   go_enter Tryz.func198, Tryz.ntmps198
   go_wp2
   go_loopw [14, 7] (fun iv cv wr => iv = .int .i64 0 ∧ cv = .int .u64 (y : Nat) ∧ w = wr) (fun _ _ _ => 0)
   case atStart => exact ⟨rfl, rfl, rfl⟩
   case round =>
    obtain ⟨rfl, rfl, rfl⟩ := hrel
    go_wp2_with (at_builtin; refine wpList_append_own _ rfl _ _ 48 rfl B 42 i0 (.int .u32 0) 1 4 Tryz.underlying48 hi hz0 hz1 hz2 rfl (by decide) _ _ _ rfl (World.ownsRow.alloc (w := w) hOn _) ⟨w.heap.size, 0, none⟩ 1 1 [.int .u32 (y : Nat)] rfl rfl ?c1 ?c2 ?c3 ?c4 ?c5 ?_)
    case c1 => exact (cell_one_new _ _ _)
    case c2 => simp [Value.oneCell']
    case c3 => simp [maxLen]
    case c4 => simp
    case c5 => simp; omega
    intro v' w2 hown hgr _
    have HO2 := Lib.hid (OwnW.snoc (L := []) hown)
    have hbb : Below B w w2 := ((Below.refl _ _).alloc hB _).grown hgr (by simp; omega) (fun j hj => by simp [Value.ownBlock] at hj)
    clear hown hgr
    go_wp2
    go_ret
    exact ⟨_, rfl, by rw [← HF.out]; exact HO2.out, hbb⟩
 ·obtain ⟨N, hN⟩ : ∃ N, (wds n).length = N := ⟨_, rfl⟩
  have HO0 := Lib.hid h
  have HN := Lib.hid hN
  have HWS := Lib.hid (wds_ws n)
  rw [hN] at hl hcap HO0 ⊢
  have hN1 : (N : Int) ≤ 1024 := by omega
  clear h hx hx0 hy hg hcur htk hN hmax
  go_enter Tryz.func198, Tryz.ntmps198
  go_wp2
  go_loopw [14, 7] (fun iv cv wr => ∃ (k : Nat) (S : List Nat) (q : Nat), iv = .int .i64 (k : Nat) ∧ cv = .int .u64 (q : Nat) ∧ k ≤ N ∧ Hid (OwnW B S (.slice (some ⟨g, 0, none⟩) N cap) wr) ∧ Hid (TpT (wds n) x y k S q) ∧ Below B w wr) (fun iv _ _ => N - (intOf iv).toNat)
  case atStart => exact ⟨0, wds n, y, rfl, rfl, Nat.zero_le _, HO0, HST, Below.refl _ _⟩
  case round =>
   obtain ⟨k, S, q, rfl, rfl, hk, HO, HT, hbw⟩ := hrel
   by_cases hlt : k < N
   ·have hkl : k < (wds n).length := by rw [HN.out]; exact hlt
    have hnx := HT.out.next HWS.out HX.out hkl
    obtain ⟨hcell, hfz⟩ := HO.out.cell k (by rw [HT.out.len]; exact hkl)
    rw [HT.out.far k (Nat.le_refl _)] at hcell
    obtain ⟨l1, l2⟩ := tpC_lt (k := k) HWS.out HX.out HT.out.low
    have ul := HWS.out.getD k
    have ql := HT.out.low
    have et : tpC (wds n) x k q = q + (wds n).getD k 0 * x := rfl
    obtain ⟨t, ht⟩ : ∃ t, tpC (wds n) x k q = t := ⟨_, rfl⟩
    obtain ⟨u, hu⟩ : ∃ u, (wds n).getD k 0 = u := ⟨_, rfl⟩
    rw [ht] at hnx l2 et
    rw [hu] at hcell l1 ul et
    have HOS := Lib.hid (HO.out.set k (t % 4294967296))
    have HNX := Lib.hid hnx
    have k1 : IntKind.u64.wrap (u : Int) = (u : Int) := IntWalk.u64_in _ (by omega)
    have k2 : IntKind.u64.wrap ((u : Int) * (x : Int)) = (u : Int) * (x : Int) := IntWalk.u64_in _ (by
     have : ((u * x : Nat) : Int) = (u : Int) * (x : Int) := Int.natCast_mul u x
     omega)
    have k3 : IntKind.u64.wrap ((q : Int) + (u : Int) * (x : Int)) = (t : Int) := by
     have : ((u * x : Nat) : Int) = (u : Int) * (x : Int) := Int.natCast_mul u x
     rw [IntWalk.u64_in _ (by omega)]
     omega
    have hk1 : (k : Int) < (N : Int) := by omega
    rw [show ((t % 4294967296 : Nat) : Int) = (t : Int) % 4294967296 by omega] at HOS
    clear hkl hnx l1 l2 ul ql et ht hu
    go_wp2
    go_roundw
    case rel => exact ⟨k + 1, _, t / 4294967296, by go_num, by go_num, by omega, HOS, HNX, hbw.setCell hBg _⟩
    case measure => simp [intOf]; omega
   ·have hkN : k = N := by omega
    have hT2 : TpT (wds n) x y (wds n).length S q := by rw [HN.out, ← hkN]; exact HT.out
    have HF := Lib.hid (hT2.fin HX0.out)
    have hql := HT.out.low
    have hSl := HT.out.len
    have hSW := HT.out.ws
    by_cases hq0 : q = 0
    ·rw [if_pos hq0] at HF
     have b0 : ((q : Int) == 0) = true := by rw [hq0]; rfl
     clear hT2 hql hSl hSW hq0 hkN
     go_wp2
     go_ret
     exact ⟨_, rfl, by rw [← HF.out]; exact HO.out, hbw⟩
    ·rw [if_neg hq0] at HF
     have b0 : ((q : Int) == 0) = false := by simp; omega
     have k1 : IntKind.u32.wrap (q : Int) = (q : Int) := IntWalk.u32_in _ (by omega)
     have HSL := Lib.hid (show (N + 1) * 4 ≤ 140737488355328 ∧ N + 1 ≤ maxLen ∧ S.length = N from by unfold maxLen; rw [hSl, HN.out]; omega)
     have hbs := hbw.size
     have hon : wr.ownsRow B 42 1 (.slice (some ⟨g, 0, none⟩) N cap) N (S.map fun u => Value.int .u32 (u : Nat)) := by
      have := HO.out
      unfold OwnW at this
      rw [HSL.out.2.2] at this
      exact this
     have HON := Lib.hid hon
     clear hT2 hql hSl hSW hq0 hkN hon
     go_wp2_with (at_builtin; refine wpList_append_own _ rfl _ _ 48 rfl B 42 i0 (.int .u32 0) 1 4 Tryz.underlying48 hi hz0 hz1 hz2 rfl (by decide) _ _ _ rfl (World.ownsRow.alloc (w := wr) HON.out _) ⟨wr.heap.size, 0, none⟩ 1 1 [.int .u32 (q : Nat)] rfl rfl ?c1 ?c2 ?c3 ?c4 ?c5 ?_)
     case c1 => exact (cell_one_new _ _ _)
     case c2 => simp [Value.oneCell']
     case c3 => exact HSL.out.2.1
     case c4 => exact HSL.out.1
     case c5 => simp; omega
     intro v' w2 hown hgr _
     rw [← HSL.out.2.2] at hown
     have HO2 := Lib.hid (OwnW.snoc hown)
     have hbb : Below B w w2 := (hbw.alloc (by omega) _).grown hgr (by simp; omega) (fun j hj => (World.ownsRow.lt HO.out j hj).1)
     clear hown hgr
     go_wp2
     go_ret
     exact ⟨_, rfl, by rw [← HF.out]; exact HO2.out, hbb⟩
theorem own_low {B C : Nat} {l : List Nat} {v : Value} {w : World} (h : OwnW C l v w) (hB : B ≤ C) : OwnW B l v w :=
 ⟨h.1, h.2.imp id (fun ⟨g, cap, cur, e, h1, r⟩ => ⟨g, cap, cur, e, Nat.le_trans hB h1, r⟩)⟩
structure SmT (a : List Nat) (d i : Nat) (S : List Nat) (r : Nat) : Prop where
 len : S.length = a.length
 ws : Ws S
 sum : val (S.drop i) * d + r = val (a.drop i)
 low : r < d
theorem SmT.start (a : List Nat) {d : Nat} (hd : 0 < d) : SmT a d a.length (List.replicate a.length 0) 0 :=
 ⟨List.length_replicate, Ws.zeros _, by rw [List.drop_of_length_le (by rw [List.length_replicate]; exact Nat.le_refl _), List.drop_of_length_le (Nat.le_refl _)]; simp [val], hd⟩
theorem SmT.next {a : List Nat} {d i : Nat} {S : List Nat} {r : Nat} (h : SmT a d (i + 1) S r) (ha : Ws a) (hi : i < a.length) (hd : d < 4294967296) :
  (r * 4294967296 + a.getD i 0) / d < 4294967296 ∧ r * 4294967296 + a.getD i 0 < 18446744073709551616 ∧ SmT a d i (S.set i ((r * 4294967296 + a.getD i 0) / d)) ((r * 4294967296 + a.getD i 0) % d) := by
 obtain ⟨h1, h2, h4, h5⟩ := h
 have hx := ha.getD i
 have hd0 : 0 < d := by omega
 have hq : (r * 4294967296 + a.getD i 0) / d < 4294967296 := by
  rw [Nat.div_lt_iff_lt_mul hd0]
  have : (r + 1) * 4294967296 ≤ d * 4294967296 := Nat.mul_le_mul_right _ h5
  omega
 refine ⟨hq, by omega, by rw [List.length_set]; exact h1, h2.set hq, ?_, Nat.mod_lt _ hd0⟩
 rw [val_drop_cons _ i (by rw [List.length_set]; omega), getD_set_eq (by omega), val_drop_cons a i hi, List.drop_set, if_pos (by omega)]
 have e := Nat.mod_add_div (r * 4294967296 + a.getD i 0) d
 generalize (r * 4294967296 + a.getD i 0) / d = q at *
 generalize (r * 4294967296 + a.getD i 0) % d = z at *
 generalize val (S.drop (i + 1)) = V at *
 rw [← h4]
 grind
theorem SmT.fin {a : List Nat} {d : Nat} {S : List Nat} {r : Nat} (h : SmT a d 0 S r) : val S = val a / d ∧ r = val a % d := by
 obtain ⟨h1, h2, h4, h5⟩ := h
 rw [List.drop_zero, List.drop_zero] at h4
 have e1 : val a / d = val S := by
  rw [← h4, Nat.add_comm, Nat.add_mul_div_right _ _ (by omega), Nat.div_eq_of_lt h5, Nat.zero_add]
 have e2 := Nat.mod_add_div (val a) d
 rw [e1, Nat.mul_comm] at e2
 exact ⟨e1.symm, by omega⟩
set_option maxRecDepth 100000 in
set_option maxHeartbeats 1000000 in
theorem rsmall_any (A : Option Addr) (n c d : Nat) (a : List Nat) (w : World) (hn : a.length = n) (hm : n ≤ 1024) (h : RW w w.heap.size A a) (hd : d < 4294967296) (hd0 : 0 < d) :
  Cp 119 #[.slice A n c, .int .u32 d] w (fun e w' => ∃ v2, e = .returned (.tuple #[v2, .int .u32 (val a % d : Nat)]) ∧ OwnW w.heap.size (wds (val a / d)) v2 w' ∧ Below w.heap.size w w') := by
 have hmk := run_make_row' (P := Tryz.prog) 48 42 (.int .u32 0) 4 Tryz.underlying48 infoW rfl .i64 .i64 n (by omega) (by omega) w
 have HROW := Lib.hid (Row.made w n)
 have HBL := Lib.hid (show Below w.heap.size w (w.alloc (.cells (madeCells #[.int .u32 0] n) 42)) from (Below.refl _ _).alloc (Nat.le_refl _) _)
 have HA := Lib.hid h
 have HN := Lib.hid hn
 have HD := Lib.hid hd
 have HD0 := Lib.hid hd0
 have hn1 : (n : Int) ≤ 1024 := by omega
 have kd : IntKind.u64.wrap (d : Int) = (d : Int) := IntWalk.u64_in _ (by omega)
 have d0 : ((d : Int) == 0) = false := by simp; omega
 have d1 : ¬ (d : Int) = 0 := by omega
 have HST := Lib.hid (show SmT a d n (List.replicate n 0) 0 from by rw [← hn]; exact SmT.start a hd0)
 clear h hn hm hd hd0
 go_enter Tryz.func119, Tryz.ntmps119
 go_wp2
 clear hmk
 go_loopw [7, 8] (fun rv iv wr => ∃ (k : Nat) (Q : List Nat) (r : Nat), iv = .int .i64 ((k : Int) - 1) ∧ rv = .int .u64 (r : Nat) ∧ k ≤ n ∧ Hid (Row wr w.heap.size Q) ∧ Hid (SmT a d k Q r) ∧ Below w.heap.size w wr) (fun _ iv _ => (intOf iv + 1).toNat)
 case atStart => exact ⟨n, _, 0, by first | rfl | go_num, rfl, Nat.le_refl _, HROW, HST, HBL.out⟩
 case round =>
  obtain ⟨k, Q, r, rfl, rfl, hk, HR, HT, hbw⟩ := hrel
  have hQl : Q.length = n := by rw [HT.out.len, HN.out]
  by_cases h0 : k = 0
  ·subst h0
   obtain ⟨f1, f2⟩ := HT.out.fin
   have hlt := HR.out.lt
   have C1 := Lib.hid ((rnorm_any (some ⟨w.heap.size, 0, none⟩) n n Q wr.heap.size wr hQl (Nat.le_refl _) (by omega) ((HR.out.rw0 HT.out.ws).more hlt)))
   rw [nrm_wds HT.out.ws, f1] at C1
   have k1 : IntKind.u32.wrap (r : Int) = (r : Int) := IntWalk.u32_in _ (by have := HT.out.low; have := HD.out; omega)
   have HF2 := Lib.hid f2
   clear f1 f2 hlt hQl
   go_wp2_with fail
   refine C1.out.mono ?_
   rintro e w2 ⟨v2, rfl, ho2, b2⟩
   have H2 := Lib.hid (own_low ho2 hbw.size)
   have H5 := Lib.hid (below_le hbw b2)
   obtain ⟨A2, c2, hv2, _, _⟩ := ho2.sl (wds_ws _)
   subst hv2
   clear ho2 b2 C1
   go_wp2
   go_ret2
   exact ⟨_, congrArg (fun z : Nat => Ending.returned (.tuple #[.slice A2 (wds (val a / d)).length c2, .int .u32 (z : Int)])) HF2.out, H2.out, H5.out⟩
  ·obtain ⟨j, rfl⟩ : ∃ j, k = j + 1 := ⟨k - 1, by omega⟩
   rw [show (((j + 1 : Nat) : Int) - 1) = (j : Int) by omega]
   have hja : j < a.length := by rw [HN.out]; omega
   obtain ⟨e2, e3, hnx⟩ := HT.out.next HA.out.1 hja HD.out
   obtain ⟨ab, ao, rfl, hab, hca⟩ := HA.out.2 (by omega)
   have hcl := hca j _ (getD_some hja)
   rw [← hbw.cell (p := ⟨ab, ao + j, none⟩) hab] at hcl
   have hcell := HR.out.cell j (by rw [hQl]; omega)
   have hfz := HR.out.frozen j
   have hx := HA.out.1.getD j
   obtain ⟨x, hxe⟩ : ∃ x, a.getD j 0 = x := ⟨_, rfl⟩
   rw [hxe] at hcl e2 e3 hnx hx
   obtain ⟨t, ht⟩ : ∃ t, r * 4294967296 + x = t := ⟨_, rfl⟩
   obtain ⟨U, hU⟩ : ∃ U, r * 4294967296 = U := ⟨_, rfl⟩
   have hor := two_word r x hx
   rw [ht] at e2 e3 hnx hor
   rw [hU] at ht hor
   have k1 : IntKind.u64.wrap ((r : Int) * 4294967296) = (U : Int) := by rw [IntWalk.u64_in _ (by omega)]; omega
   have k2 : IntKind.u64.wrap (x : Int) = (x : Int) := IntWalk.u64_in _ (by omega)
   have k3 : bits BinOp.or IntKind.u64 (U : Int) (x : Int) = (t : Int) := by rw [or_u64 U x (by omega) (by omega), hor]
   obtain ⟨q, hq⟩ : ∃ q, t / d = q := ⟨_, rfl⟩
   obtain ⟨z, hz⟩ : ∃ z, t % d = z := ⟨_, rfl⟩
   rw [hq] at e2
   rw [hq, hz] at hnx
   have hzl : z < 4294967296 := by rw [← hz]; exact Nat.lt_trans (Nat.mod_lt _ HD0.out) HD.out
   have k4 : IntKind.u64.wrap ((t : Int) / (d : Int)) = (q : Int) := by rw [← Int.natCast_ediv, hq]; exact IntWalk.u64_in _ (by omega)
   have k5 : (t : Int) / (d : Int) = (q : Int) := by rw [← Int.natCast_ediv, hq]
   have k6 : (t : Int) % (d : Int) = (z : Int) := by rw [← Int.natCast_emod, hz]
   have k7 : IntKind.u32.wrap (q : Int) = (q : Int) := IntWalk.u32_in _ (by omega)
   have k8 : IntKind.u64.wrap (q : Int) = (q : Int) := IntWalk.u64_in _ (by omega)
   have k9 : IntKind.u64.wrap (z : Int) = (z : Int) := IntWalk.u64_in _ (by omega)
   have HSET := Lib.hid (HR.out.set j q)
   have HNX := Lib.hid hnx
   have hjn : (j : Int) < (n : Int) := by omega
   clear e2 e3 hnx hja hx hxe hq hz h0 hca hQl ht hU hor hzl hab
   go_wp2
   go_roundw
   case rel => exact ⟨j, _, z, by go_num, by rw [k6], by omega, HSET, HNX, hbw.setCell (Nat.le_refl _) _⟩
   case measure => simp [intOf]

end Go.Proofs.YtfcpkdafkmohkaaGreatDoor
namespace Go.Proofs.YtfcpkdafkmohkaaGreatDoor
open Go.RowKit
theorem OwnW.below {B : Nat} {l : List Nat} {v : Value} {w w' : World} (h : OwnW B l v w) (hb : Below w.heap.size w w') : OwnW B l v w' := by
 refine World.ownsRow.kept (row := none) h ⟨hb.os, hb.tape, hb.output, hb.size, fun k hk _ => hb.block k hk⟩ ?_
 cases v.ownBlock <;> simp
theorem lng_le' {v : Nat} (h : lngB v = false) : (wds v).length ≤ 1024 := by
 unfold lngB at h
 have := of_decide_eq_false h
 omega
theorem lng_mono' {v u : Nat} (h : u ≤ v) (hu : lngB u = true) : lngB v = true := by
 unfold lngB at hu ⊢
 have h1 := of_decide_eq_true hu
 have h2 := wds_len_lt (n := u) (k := (wds v).length) (Nat.lt_of_le_of_lt h (wds_lt v))
 exact decide_eq_true (by omega)
theorem sum_len_max' (v u : Nat) : (wds (v + u)).length ≤ max (wds v).length (wds u).length + 1 := by
 refine wds_len_lt ?_
 have h1 := wds_lt v
 have h2 := wds_lt u
 have h3 : 4294967296 ^ (wds v).length ≤ 4294967296 ^ max (wds v).length (wds u).length := Nat.pow_le_pow_right (by omega) (by omega)
 have h4 : 4294967296 ^ (wds u).length ≤ 4294967296 ^ max (wds v).length (wds u).length := Nat.pow_le_pow_right (by omega) (by omega)
 have := pow_twice (max (wds v).length (wds u).length)
 omega
theorem prod_len_sum' (v u : Nat) : (wds (v * u)).length ≤ (wds v).length + (wds u).length := by
 refine wds_len_lt ?_
 rw [Nat.pow_add]
 exact Nat.mul_lt_mul'' (wds_lt v) (wds_lt u)
def sv (r : Nat) (s : ByteArray) : Nat := pv r (fun i => dgt (btn s i)) s.size
structure Rest (s : ByteArray) (o : Nat) (t : ByteArray) : Prop where
 le : o ≤ s.size
 size : t.size = s.size - o
 byte : ∀ i, i < t.size → btn t i = btn s (o + i)
theorem btn_extract (t : ByteArray) (a b i : Nat) (hi : i < b - a) (hb : b ≤ t.size) : btn (t.extract a b) i = btn t (a + i) := by
 have h1 : i < (t.extract a b).size := by rw [ByteArray.size_extract]; omega
 rw [← btn_eq _ i h1, ← btn_eq t (a + i) (by omega), ByteArray.getElem_extract]
theorem Rest.all (s : ByteArray) : Rest s 0 s := ⟨Nat.zero_le _, rfl, fun i _ => by rw [Nat.zero_add]⟩
theorem Rest.next {s t : ByteArray} {o m : Nat} (h : Rest s o t) (hm : m ≤ t.size) : Rest s (o + m) (t.extract m t.size) :=
 ⟨by have := h.le; have := h.size; omega, by rw [ByteArray.size_extract, h.size]; omega, fun i hi => by
  have h1 : i < t.size - m := by rw [ByteArray.size_extract] at hi; omega
  rw [btn_extract t m t.size i h1 (Nat.le_refl _), h.byte _ (by omega), Nat.add_assoc]⟩
def strLen : Value → Nat
 | .string s => s.size
 | _ => 0
set_option maxRecDepth 100000 in
set_option maxHeartbeats 1000000 in
theorem parse_ok (s : ByteArray) (r : Nat) (w : World) (hs : s.size ≤ 4611686018427387903) (h2 : 2 ≤ r) (h36 : r ≤ 36) (hd : adB r s = true) :
  Cp 134 #[.string s, .int .i64 r] w (NatPost (sv r s) w) := by
 have c1 := allDigits_any s r w hs h36
 have C2 := Lib.hid (fun W => group_any r W h2 h36)
 rw [hd] at c1
 have hdd : ∀ i, i < s.size → dgt (btn s i) < r := by
  unfold adB at hd
  exact of_decide_eq_true (Bool.and_eq_true _ _ ▸ hd : _ ∧ _).2
 have HD := Lib.hid hdd
 have H2 := Lib.hid h2
 have H36 := Lib.hid h36
 have hr1 : ¬ (r : Int) < 2 := by omega
 have hr2 : ¬ (36 : Int) < (r : Int) := by omega
 have hs1 : (s.size : Int) ≤ 4611686018427387903 := by omega
 clear hd hdd hs h2 h36
 go_enter Tryz.func134, Tryz.ntmps134
 go_wp2_with fail
 refine c1.mono ?_
 rintro e w1 ⟨rfl, rfl⟩
 go_wp2_with fail
 refine (C2.out _).mono ?_
 rintro e w1 ⟨⟨c, p, rfl, hp, hc1, hc2, hpl⟩, rfl⟩
 have HP := Lib.hid hp
 have HPL := Lib.hid hpl
 have HC1 := Lib.hid hc1
 have hc0 : (c : Int) ≤ 32 := by omega
 clear hp hpl hc1 hc2 c1 C2
 go_wp2
 go_loopw [0, 8] (fun tv av wr => ∃ (t : ByteArray) (o : Nat), tv = .string t ∧ Hid (Rest s o t) ∧ Hid (OwnW w.heap.size (wds (pv r (fun i => dgt (btn s i)) o)) av wr) ∧ Hid (lngB (pv r (fun i => dgt (btn s i)) o) = false) ∧ Below w.heap.size w wr) (fun tv _ _ => strLen tv)
 case atStart => exact ⟨s, 0, rfl, Lib.hid (Rest.all s), Lib.hid (OwnW.nil _ _), Lib.hid (lng_small (by simp [pv])), Below.refl _ _⟩
 case round =>
  obtain ⟨t, o, rfl, HR, HO, HL, hbw⟩ := hrel
  obtain ⟨V, hV⟩ : ∃ V, pv r (fun i => dgt (btn s i)) o = V := ⟨_, rfl⟩
  rw [hV] at HO HL
  have HV := Lib.hid hV
  have hle := lng_le' HL.out
  obtain ⟨A0, c0, rfl, hc0', hr0⟩ := HO.out.sl (wds_ws V)
  obtain ⟨L0, hL0⟩ : ∃ L, (wds V).length = L := ⟨_, rfl⟩
  have hts : (t.size : Int) ≤ 4611686018427387903 := by have := HR.out.size; omega
  by_cases h0 : t.size = 0
  ·have C1 := Lib.hid (answer_any A0 L0 c0 (wds V) wr hL0 (by omega) (by omega) hr0)
   rw [wds_val] at C1
   have HFV := Lib.hid (show V = sv r s from by
    have h1 := HR.out.size
    have h2 := HR.out.le
    rw [← HV.out]; unfold sv; congr 1; omega)
   have HL0 := Lib.hid hL0
   rw [hL0]
   have b0 : ¬ (0 : Int) < (t.size : Int) := by omega
   clear hV hle hc0' hr0 hL0 h0
   go_wp2_with fail
   refine C1.out.mono ?_
   rintro e w2 h
   have h2 := NatPost.from_ hbw h
   rw [HFV.out] at h2
   obtain ⟨A2, n2, c2, k2, rfl, h3, h4⟩ := h2
   have H3 := Lib.hid h3
   have H4 := Lib.hid h4
   clear h h3 h4 C1
   go_wp2
   go_ret2
   exact ⟨A2, n2, c2, k2, rfl, H3.out, H4.out⟩
  ·obtain ⟨m, hm⟩ : ∃ m, min c t.size = m := ⟨_, rfl⟩
   have hc1 := HC1.out
   have hm0 : 0 < m := by omega
   have hmt : m ≤ t.size := by omega
   have hmc : (m = c ∧ (c : Int) ≤ (t.size : Int)) ∨ (m = t.size ∧ ¬ (c : Int) ≤ (t.size : Int)) := by omega
   have hRn := HR.out.next hmt
   have hsz : (t.extract 0 m).size = m := by rw [ByteArray.size_extract]; omega
   have hby : ∀ i, i < m → btn (t.extract 0 m) i = btn s (o + i) := fun i hi => by
    rw [btn_extract t 0 m i (by omega) hmt, Nat.zero_add]; exact HR.out.byte i (by omega)
   have hom : o + m ≤ s.size := hRn.le
   have hpm : r ^ m < 4294967296 := by
    have h1 : r ^ m ≤ r ^ c := Nat.pow_le_pow_right (by have := H2.out; omega) (by omega)
    have h2 := HPL.out
    rw [HP.out] at h2
    omega
   have hpm0 : 0 < r ^ m := Nat.pow_pos (by have := H2.out; omega)
   have hpv : pv r (fun i => dgt (btn (t.extract 0 m) i)) m = pv r (fun i => dgt (btn s (o + i))) m := pv_congr (fun i hi => by rw [hby i hi])
   have C1 := Lib.hid (fun W => show Cp 197 #[.string (t.extract 0 m), .int .i64 r] W fun e w' => e = .returned (.tuple #[.int .u32 (pv r (fun i => dgt (btn s (o + i))) m : Nat), .int .u32 (r ^ m : Nat)]) ∧ W = w' from by
    have := small_any (t.extract 0 m) r W H36.out H2.out (by rw [hsz]; exact hpm) (fun i hi => by rw [hsz] at hi; rw [hby i hi]; exact HD.out _ (by omega))
    rw [hsz, hpv] at this
    exact this)
   have hyl : pv r (fun i => dgt (btn s (o + i))) m < 4294967296 := Nat.lt_trans (pv_lt (fun i hi => HD.out _ (by omega))) hpm
   have hadd := pv_add r (fun i => dgt (btn s i)) o m
   rw [hV] at hadd
   obtain ⟨x, hx⟩ : ∃ x, r ^ m = x := ⟨_, rfl⟩
   obtain ⟨y, hy⟩ : ∃ y, pv r (fun i => dgt (btn s (o + i))) m = y := ⟨_, rfl⟩
   rw [hx] at C1 hpm hpm0 hadd
   rw [hy] at C1 hyl hadd
   have C2 := Lib.hid (timesPlus_any w.heap.size (.slice A0 L0 c0) V x y wr (by have := HO.out; rw [hL0] at this; exact this) hbw.size hle hpm hpm0 hyl)
   obtain ⟨V2, hV2⟩ : ∃ V2, V * x + y = V2 := ⟨_, rfl⟩
   rw [hV2] at C2 hadd
   have HV2 := Lib.hid hadd
   have l1 : (wds V2).length ≤ 1026 := by
    have h1 := prod_len_sum' V x
    have h2 := sum_len_max' (V * x) y
    have h3 : (wds x).length ≤ 1 := wds_len_lt (by omega)
    have h4 : (wds y).length ≤ 1 := wds_len_lt (by omega)
    rw [hV2] at h2
    omega
   have HLE2 := Lib.hid l1
   have HRN := Lib.hid hRn
   have HMONO := Lib.hid (show V2 ≤ sv r s from by rw [← hadd]; exact pv_mono (by have := H2.out; omega) hom)
   have HM0 := Lib.hid hm0
   have hmt1 : (m : Int) ≤ (t.size : Int) := by omega
   have b0 : (0 : Int) < (t.size : Int) := by omega
   rw [hL0]
   clear hV hle hc0' hr0 hL0 h0 hm hc1 hm0 hmt hRn hsz hby hom hpm hpm0 hpv hyl hadd hx hy hV2 l1
   rcases hmc with ⟨rfl, a1⟩ | ⟨rfl, a1⟩
   ·have e0 : min (m : Int) (t.size : Int) = (m : Int) := Int.min_eq_left a1
    go_wp2_with fail
    refine (C1.out _).mono ?_
    rintro e w' ⟨rfl, rfl⟩
    go_wp2_with fail
    refine C2.out.mono ?_
    rintro e w2 ⟨v2, rfl, ho2, hb2⟩
    have hbw2 : Below w.heap.size w w2 := hbw.trans hb2
    obtain ⟨A2, c2, rfl, hc2, hr2⟩ := ho2.sl (wds_ws _)
    obtain ⟨L2, hL2⟩ : ∃ L, (wds V2).length = L := ⟨_, rfl⟩
    rw [hL2] at hc2 ho2 ⊢
    have C3 := Lib.hid (tooOne_any A2 L2 c2 (wds V2) w2 hL2 hc2 (by have := HLE2.out; omega) hr2)
    rw [wds_val] at C3
    have HO2 := Lib.hid ho2
    have hp : Below w2.heap.size w2 (lone w2 (.slice A2 L2 c2)) := (Below.refl _ _).alloc (Nat.le_refl _) _
    have HB2 := Lib.hid (below_le hbw2 hp)
    have HO3 := Lib.hid (ho2.below hp)
    have HL2 := Lib.hid hL2
    clear ho2 hb2 hbw2 hc2 hr2 hL2 hp C1 C2
    cases hl : lngB V2
    ·rw [hl] at C3
     have HLN := Lib.hid hl
     clear hl
     go_wp2_with fail
     refine C3.out.mono ?_
     rintro e w3 ⟨rfl, rfl⟩
     go_wp2
     exact ⟨⟨_, _, rfl, HRN, Lib.hid (by rw [HV2.out]; exact HO3.out), Lib.hid (by rw [HV2.out]; exact HLN.out), HB2.out⟩, by
      have h1 := HM0.out
      have h2 := HRN.out.size
      have h3 := HRN.out.le
      have h4 := HR.out.size
      simp only [strLen]
      omega⟩
    ·rw [hl] at C3
     have HLN := Lib.hid (lng_mono' HMONO.out hl)
     clear hl
     go_wp2_with fail
     refine C3.out.mono ?_
     rintro e w3 ⟨rfl, rfl⟩
     go_wp2
     go_ret2
     exact NatPost.long HLN.out HB2.out
   ·have e0 : min (c : Int) (t.size : Int) = (t.size : Int) := Int.min_eq_right (by omega)
    rw [show t.extract 0 t.size = t from by simp] at C1
    rw [show t.extract t.size t.size = ByteArray.empty from by simp] at HRN
    go_wp2_with fail
    refine (C1.out _).mono ?_
    rintro e w' ⟨rfl, rfl⟩
    go_wp2_with fail
    refine C2.out.mono ?_
    rintro e w2 ⟨v2, rfl, ho2, hb2⟩
    have hbw2 : Below w.heap.size w w2 := hbw.trans hb2
    obtain ⟨A2, c2, rfl, hc2, hr2⟩ := ho2.sl (wds_ws _)
    obtain ⟨L2, hL2⟩ : ∃ L, (wds V2).length = L := ⟨_, rfl⟩
    rw [hL2] at hc2 ho2 ⊢
    have C3 := Lib.hid (tooOne_any A2 L2 c2 (wds V2) w2 hL2 hc2 (by have := HLE2.out; omega) hr2)
    rw [wds_val] at C3
    have HO2 := Lib.hid ho2
    have hp : Below w2.heap.size w2 (lone w2 (.slice A2 L2 c2)) := (Below.refl _ _).alloc (Nat.le_refl _) _
    have HB2 := Lib.hid (below_le hbw2 hp)
    have HO3 := Lib.hid (ho2.below hp)
    have HL2 := Lib.hid hL2
    clear ho2 hb2 hbw2 hc2 hr2 hL2 hp C1 C2
    cases hl : lngB V2
    ·rw [hl] at C3
     have HLN := Lib.hid hl
     clear hl
     go_wp2_with fail
     refine C3.out.mono ?_
     rintro e w3 ⟨rfl, rfl⟩
     go_wp2
     exact ⟨⟨_, _, rfl, HRN, Lib.hid (by rw [HV2.out]; exact HO3.out), Lib.hid (by rw [HV2.out]; exact HLN.out), HB2.out⟩, by
      have h1 := HM0.out
      have h2 := HRN.out.size
      have h3 := HRN.out.le
      have h4 := HR.out.size
      simp only [strLen]
      omega⟩
    ·rw [hl] at C3
     have HLN := Lib.hid (lng_mono' HMONO.out hl)
     clear hl
     go_wp2_with fail
     refine C3.out.mono ?_
     rintro e w3 ⟨rfl, rfl⟩
     go_wp2
     go_ret2
     exact NatPost.long HLN.out HB2.out

end Go.Proofs.YtfcpkdafkmohkaaGreatDoor
namespace Go.Proofs.YtfcpkdafkmohkaaGreatDoor
open Go.RowKit
theorem timesOne (A : Option Addr) (n c g x : Nat) (l : List Nat) (N : Nat) (W : World) (hn : l.length = n) (hm : n ≤ 1024) (h : RW W W.heap.size A l) (g1 : RW W W.heap.size (some ⟨g, 0, none⟩) [x]) (hN : (wds (val l * x)).length = N) :
  Cp 51 #[.slice A n c, .slice (some ⟨g, 0, none⟩) 1 1] W (Told (wds (val l * x)) N W) := by
 have := times_any A (some ⟨g, 0, none⟩) n c 1 1 l [x] W hn (by omega) h rfl (by omega) g1
 rw [show val [x] = x from by simp [val]] at this
 exact this.mono fun _ _ y => y.told hN
theorem plusOne (A : Option Addr) (n c g x : Nat) (l : List Nat) (N : Nat) (W : World) (hn : l.length = n) (hm : n ≤ 4096) (h : RW W W.heap.size A l) (g1 : RW W W.heap.size (some ⟨g, 0, none⟩) [x]) (hN : (wds (val l + x)).length = N) :
  Cp 103 #[.slice A n c, .slice (some ⟨g, 0, none⟩) 1 1] W (Told (wds (val l + x)) N W) := by
 have := plus_any A (some ⟨g, 0, none⟩) n c 1 1 l [x] W hn (by omega) h rfl (by omega) g1
 rw [show val [x] = x from by simp [val]] at this
 exact this.mono fun _ _ y => y.told hN
theorem lit_new (W : World) (x : Nat) (hx : x < 4294967296) : RW (W.alloc (.cells #[.int .u32 (x : Int)] 42)) (W.alloc (.cells #[.int .u32 (x : Int)] 42)).heap.size (some ⟨W.heap.size, 0, none⟩) [x] := (lit_one W x hx).more (by simp)
theorem alloc_below {w W : World} (o : Obj) (h : Below w.heap.size w W) : Below w.heap.size w (W.alloc o) := h.alloc h.size _
set_option maxRecDepth 100000 in
set_option maxHeartbeats 1000000 in
theorem rparse_ok (s : ByteArray) (r : Nat) (w : World) (hs : s.size ≤ 4611686018427387903) (h2 : 2 ≤ r) (h36 : r ≤ 36) (hd : ∀ i, i < s.size → dgt (btn s i) < r) (h0 : 0 < s.size) :
  Cp 165 #[.string s, .int .i64 r] w (NatPost (sv r s) w) := by
 have HD := Lib.hid hd
 have H2 := Lib.hid h2
 have H36 := Lib.hid h36
 have hr1 : ¬ (r : Int) < 2 := by omega
 have hr2 : ¬ (36 : Int) < (r : Int) := by omega
 have hs1 : (s.size : Int) ≤ 4611686018427387903 := by omega
 have hs0 : ((s.size : Int) == 0) = false := by rw [beq_eq_false_iff_ne]; omega
 have kr : IntKind.u32.wrap (r : Int) = (r : Int) := IntWalk.u32_in _ (by omega)
 clear hd hs h2 h36 h0
 go_enter Tryz.func165, Tryz.ntmps165
 go_wp2
 go_loopw [6] (fun iv wr => ∃ k : Nat, iv = .int .i64 (k : Nat) ∧ k ≤ s.size ∧ w = wr) (fun iv _ => s.size - (intOf iv).toNat)
 case atStart => exact ⟨0, rfl, Nat.zero_le _, rfl⟩
 case round =>
  obtain ⟨k, rfl, hk, rfl⟩ := hrel
  by_cases hlt : k < s.size
  ·have C1 := Lib.hid (fun W => show Cp 90 #[.int .u8 ((s[k]'hlt).toNat : Nat)] W fun e w' => e = .returned (.int .i64 (dgz (btn s k) : Nat)) ∧ W = w' from by
    rw [btn_eq s k hlt]; exact rdigit_any _ W (btn_lt s k))
   have hk1 : (k : Int) < (s.size : Int) := by omega
   have hd := HD.out k hlt
   rw [dgz_eq H36.out hd] at C1
   obtain ⟨d, hde⟩ : ∃ d, dgt (btn s k) = d := ⟨_, rfl⟩
   rw [hde] at C1 hd
   have a1 : ¬ (r : Int) ≤ (d : Int) := by omega
   clear hde hd
   go_wp2_with fail
   refine (C1.out _).mono ?_
   rintro e w' ⟨rfl, rfl⟩
   go_wp2
   go_roundw
   case rel => exact ⟨k + 1, by go_num, by omega, trivial⟩
   case measure => simp [intOf]; omega
  ·have hks : k = s.size := by omega
   subst hks
   clear hlt hk
   go_wp2
   go_loopw [7, 8] (fun av iv wr => ∃ o : Nat, iv = .int .i64 (o : Nat) ∧ o ≤ s.size ∧ Hid (Sl wr wr.heap.size av (wds (pv r (fun i => dgt (btn s i)) o))) ∧ Hid (lngB (pv r (fun i => dgt (btn s i)) o) = false) ∧ Below w.heap.size w wr) (fun _ iv _ => s.size - (intOf iv).toNat)
   case atStart => exact ⟨0, rfl, Nat.zero_le _, Lib.hid (Sl.nil _ _ _), Lib.hid (lng_small (by simp [pv])), Below.refl _ _⟩
   case round =>
    obtain ⟨o, rfl, ho, HS, HL, hbw⟩ := hrel
    obtain ⟨V, hV⟩ : ∃ V, pv r (fun i => dgt (btn s i)) o = V := ⟨_, rfl⟩
    rw [hV] at HS HL
    have HV := Lib.hid hV
    obtain ⟨A0, c0, rfl, hc0, hr0⟩ := HS.out
    obtain ⟨L0, hL0⟩ : ∃ L, (wds V).length = L := ⟨_, rfl⟩
    have hle := lng_le' HL.out
    rw [hL0] at hc0 hle ⊢
    by_cases hlt : o < s.size
    ·have hd := HD.out o hlt
     have hx1 : (o : Int) < (s.size : Int) := by omega
     have C1 := Lib.hid (fun W => show Cp 90 #[.int .u8 ((s[o]'hlt).toNat : Nat)] W fun e w' => e = .returned (.int .i64 (dgt (btn s o) : Nat)) ∧ W = w' from by
      rw [btn_eq s o hlt, ← dgz_eq H36.out hd]; exact rdigit_any _ W (btn_lt s o))
     have hpv : pv r (fun i => dgt (btn s i)) (o + 1) = V * r + dgt (btn s o) := by rw [← hV]; rfl
     have hd36 := dgt_le (btn s o)
     obtain ⟨d, hde⟩ : ∃ d, dgt (btn s o) = d := ⟨_, rfl⟩
     rw [hde] at C1 hpv hd36
     have kd : IntKind.u32.wrap (d : Int) = (d : Int) := IntWalk.u32_in _ (by omega)
     obtain ⟨L1, hL1⟩ : ∃ L, (wds (V * r)).length = L := ⟨_, rfl⟩
     obtain ⟨L2, hL2⟩ : ∃ L, (wds (V * r + d)).length = L := ⟨_, rfl⟩
     have l1 : L1 ≤ 1025 := by
      have h1 := prod_len_sum' V r
      have h3 : (wds r).length ≤ 1 := wds_len_lt (by have := H36.out; omega)
      omega
     have l2 : L2 ≤ 1026 := by
      have h1 := sum_len_max' (V * r) d
      have h3 : (wds d).length ≤ 1 := wds_len_lt (by omega)
      omega
     have K1 := Lib.hid (fun W g (hb : Below wr.heap.size wr W) (g1 : RW W W.heap.size (some ⟨g, 0, none⟩) [r]) => show Cp 51 #[.slice A0 L0 c0, .slice (some ⟨g, 0, none⟩) 1 1] W (Told (wds (V * r)) L1 W) from by
      have := timesOne A0 L0 c0 g r (wds V) L1 W hL0 hle (hr0.step hb) g1 (by rw [wds_val]; exact hL1)
      rw [wds_val] at this; exact this)
     have K2 := Lib.hid (fun W A2 c2 g (r2 : RW W W.heap.size A2 (wds (V * r))) (g1 : RW W W.heap.size (some ⟨g, 0, none⟩) [d]) => show Cp 103 #[.slice A2 L1 c2, .slice (some ⟨g, 0, none⟩) 1 1] W (Told (wds (V * r + d)) L2 W) from by
      have := plusOne A2 L1 c2 g d (wds (V * r)) L2 W hL1 (by omega) r2 g1 (by rw [wds_val]; exact hL2)
      rw [wds_val] at this; exact this)
     have HLR := Lib.hid (fun W => lit_new W r (by have := H36.out; omega))
     have HLD := Lib.hid (fun W => lit_new W d (by omega))
     have HPV := Lib.hid hpv
     have HL2 := Lib.hid hL2
     clear hpv hL2
     clear hV hL0 hle hc0 hr0 hd hde hd36 hL1 l1
     go_wp2
     go_region_held3 (fun w' => True) (trivial) (first | (go_at_call 51; refine (K1.out _ _ (below_drewN' ((Below.refl _ _).alloc (Nat.le_refl _) _) 1) ((HLR.out wr).drewN 1)).mono ?_; rintro e w2 ⟨A2, c2, rfl, ⟨hc2, r2⟩, b2⟩) | (go_at_call 90; refine (C1.out _).mono ?_; rintro e w' ⟨rfl, rfl⟩) | (go_at_call 103; refine (K2.out _ _ _ _ (r2.step ((Below.refl _ _).alloc (Nat.le_refl _) _)) (HLD.out _)).mono ?_; rintro e w3 ⟨A3, c3, rfl, ⟨hc3, r3⟩, b3⟩))
     all_goals
      have B2 : Below w.heap.size w w2 := below_le (below_drewN' (hbw.alloc hbw.size _) 1) b2
      have B3 : Below w.heap.size w w3 := below_le (B2.alloc B2.size _) b3
      clear r2 b2 b3 B2 hc2 K1 K2
      have C5 := Lib.hid (rlong_any A3 L2 c3 (wds (V * r + d)) w3.heap.size w3 HL2.out hc3 (by omega) r3)
      rw [wds_val, ← HPV.out] at C5
      have HSL := Lib.hid (fun (w4 : World) (b4 : Below w3.heap.size w3 w4) => (⟨A3, c3, by rw [HL2.out], by rw [HL2.out]; exact hc3, r3.step b4⟩ : Sl w4 w4.heap.size (.slice A3 L2 c3) (wds (V * r + d))))
      have HB3 := Lib.hid B3
      clear r3 hc3 B3
      cases hl : lngB (pv r (fun i => dgt (btn s i)) (o + 1))
      ·rw [hl] at C5
       have HLN := Lib.hid hl
       clear hl
       go_wp2_with fail
       refine C5.out.mono ?_
       rintro e w4 ⟨rfl, b4⟩
       have HS4 := Lib.hid (HSL.out w4 b4)
       have HB4 := Lib.hid (below_le HB3.out b4)
       clear b4 C5
       go_wp2
       go_roundw
       case rel => exact ⟨o + 1, by go_num, by omega, Lib.hid (by rw [HPV.out]; exact HS4.out), HLN, HB4.out⟩
       case measure => simp [intOf]; omega
      ·rw [hl] at C5
       have HLN := Lib.hid (lng_mono' (v := sv r s) (pv_mono (by have := H2.out; omega) (by omega)) hl)
       clear hl
       go_wp2_with fail
       refine C5.out.mono ?_
       rintro e w4 ⟨rfl, b4⟩
       have HB4 := Lib.hid (below_le HB3.out b4)
       clear b4 C5
       go_wp2
       go_ret2
       exact NatPost.long HLN.out HB4.out
    ·have hos : o = s.size := by omega
     have HF := Lib.hid (show NatPost (sv r s) w (.returned (.tuple #[.slice A0 L0 c0, .int .i64 0])) wr from by
      have e : V = sv r s := by rw [← HV.out, hos]; rfl
      rw [← e]
      exact NatPost.ok HL.out hL0.symm hc0 hr0 hbw)
     have b0 : ¬ (o : Int) < (s.size : Int) := by omega
     clear hos hlt hc0 hr0 hL0 hle hV
     go_wp2
     go_ret2
     exact HF.out

end Go.Proofs.YtfcpkdafkmohkaaGreatDoor
namespace Go.Proofs.YtfcpkdafkmohkaaGreatDoor
open Go.RowKit
end Go.Proofs.YtfcpkdafkmohkaaGreatDoor
namespace Go.Proofs.YtfcpkdafkmohkaaGreatDoor
open Go.RowKit
def slLen : Value → Nat
 | .slice _ n _ => n
 | _ => 0
theorem Own8.len {B : Nat} {l : List Nat} {v : Value} {w : World} (h : Own8 B l v w) : slLen v = l.length := by
 rcases h.2 with ⟨rfl, h1⟩ | ⟨g, cap, cur, rfl, _⟩
 ·rw [h1]; rfl
 ·rfl
def TextQ (r n : Nat) (t : ByteArray) : Prop := (n = 0 ∧ bl t = [48]) ∨ (0 < n ∧ ∃ D, Ds r D ∧ dv r D = n ∧ bl t = ((dstrip D).map dch).reverse)
def TextP (r n : Nat) (w : World) (e : Ending) (w' : World) : Prop := ∃ t, e = .returned (.tuple #[.string t, .int .i64 0]) ∧ TextQ r n t ∧ Below w.heap.size w w'
abbrev digS : ByteArray := ⟨#[48, 49, 50, 51, 52, 53, 54, 55, 56, 57, 97, 98, 99, 100, 101, 102, 103, 104, 105, 106, 107, 108, 109, 110, 111, 112, 113, 114, 115, 116, 117, 118, 119, 120, 121, 122]⟩
theorem digS_all : ∀ d : Fin 36, (digS[d.val]'(by have := d.isLt; exact this)).toNat = dch d.val := by decide
theorem digS_at (d : Nat) (h : d < 36) : ((digS[d]'h).toNat : Int) = (dch d : Nat) := congrArg Int.ofNat (digS_all ⟨d, h⟩)
structure TextT (r n c v k : Nat) (D : List Nat) : Prop where
 ds : Ds r D
 sum : dv r D + r ^ D.length * v = n
 len : D.length = c * k
 low : 2 ^ k * v ≤ n
theorem TextT.bound {r n c v k : Nat} {D : List Nat} (h : TextT r n c v k D) (hv : 0 < v) {K : Nat} (hc : c ≤ 32) (hn : n < 2 ^ K) (hK : K ≤ 32768) : c * (k + 1) ≤ 1048576 := by
 have h1 : 2 ^ k ≤ n := Nat.le_trans (Nat.le_mul_of_pos_right _ hv) h.low
 have h2 : k < K := (Nat.pow_lt_pow_iff_right (a := 2) (by omega)).1 (Nat.lt_of_le_of_lt h1 hn)
 exact Nat.le_trans (Nat.mul_le_mul hc (show k + 1 ≤ 32768 by omega)) (by omega)
theorem small_pow {n K : Nat} (h : (wds n).length ≤ 1024) (hK : 32768 ≤ K) : n < 2 ^ K := by
 have h1 := wds_lt n
 rw [show (4294967296 : Nat) = 2 ^ 32 from rfl, ← Nat.pow_mul] at h1
 exact Nat.lt_of_lt_of_le h1 (Nat.pow_le_pow_right (by omega) (by omega))
end Go.Proofs.YtfcpkdafkmohkaaGreatDoor
namespace Go.Proofs.YtfcpkdafkmohkaaGreatDoor
open Go.RowKit
structure RtxT (r n v k : Nat) (D : List Nat) : Prop where
 base : TextT r n 1 v k D
 last : v = 0 → dstrip D = D
theorem RtxT.next {r n v k : Nat} {D : List Nat} (h : RtxT r n v k D) (hr : 2 ≤ r) (hv : 0 < v) : RtxT r n (v / r) (k + 1) (D ++ [v % r]) := by
 obtain ⟨⟨h1, h2, h3, h4⟩, _⟩ := h
 have hm : v % r < r := Nat.mod_lt _ (by omega)
 have e := Nat.mod_add_div v r
 refine ⟨⟨h1.snoc hm, ?_, by rw [List.length_append, h3]; simp, ?_⟩, fun h0 => ?_⟩
 ·rw [dv_snoc, List.length_append, List.length_singleton, Nat.pow_succ, ← h2]
  generalize v % r = z at *
  generalize v / r = x at *
  rw [← e]
  grind
 ·have h5 : 2 * (v / r) ≤ v := by
   have h6 : v / r * 2 ≤ v / r * r := Nat.mul_le_mul_left _ hr
   have h7 := Nat.div_mul_le_self v r
   omega
  rw [Nat.pow_succ, Nat.mul_assoc]
  exact Nat.le_trans (Nat.mul_le_mul_left _ h5) h4
 ·refine dstrip_pos (.inr ?_)
  rw [List.getLast?_append, List.getLast?_singleton]
  simp
  rw [h0, Nat.mul_zero, Nat.add_zero] at e
  omega
theorem OwnW.grown {C : Nat} {l : List Nat} {v bv : Value} {w w' : World} (h : OwnW C l v w) (hgr : w.grownBy w' bv.ownBlock) (hb : ∀ j, bv.ownBlock = some j → j < C) : OwnW C l v w' := by
 refine World.ownsRow.kept h hgr ?_
 cases hv : v.ownBlock with
 | none => exact .inl rfl
 | some b =>
  right
  intro e
  have h1 := (World.ownsRow.lt h b hv).1
  have h2 := hb b e.symm
  omega
set_option maxRecDepth 100000 in
set_option maxHeartbeats 1000000 in
theorem rtext_ok (A : Option Addr) (N c0 r : Nat) (l : List Nat) (w : World) (hn : l.length = N) (hc : N ≤ c0) (hm : N ≤ 35184372088832) (h : RW w w.heap.size A l) (h2 : 2 ≤ r) (h36 : r ≤ 36) (hl : lngB (val l) = false) (hv : 0 < val l) :
  Cp 50 #[.slice A N c0, .int .i64 r] w (TextP r (val l) w) := by
 obtain ⟨i0, hi, hz0, hz1, hz2⟩ := info_parts infoB
 have c1 := rlong_any A N c0 l w.heap.size w hn hc hm h
 rw [hl] at c1
 have C2 := Lib.hid (fun W (hb : Below w.heap.size w W) => rnorm_any A N c0 l W.heap.size W hn hc hm (h.step hb))
 rw [nrm_wds h.1] at C2
 have hlen := lng_le' hl
 obtain ⟨n, hne⟩ : ∃ n, val l = n := ⟨_, rfl⟩
 rw [hne] at C2 hlen hv ⊢
 obtain ⟨K, hK⟩ : ∃ K, K = 32768 := ⟨_, rfl⟩
 have HN := Lib.hid (small_pow hlen (K := K) (by omega))
 have HK := Lib.hid (show K ≤ 32768 by omega)
 obtain ⟨M, hM⟩ : ∃ M, (wds n).length = M := ⟨_, rfl⟩
 rw [hM] at hlen
 have HM := Lib.hid hM
 have hM0 : 0 < M := by
  rcases Nat.eq_zero_or_pos M with h0 | h0
  ·rw [h0] at hM
   have := wds_val n
   rw [List.eq_nil_of_length_eq_zero hM] at this
   simp [val] at this
   omega
  ·exact h0
 have HV := Lib.hid hv
 have H2 := Lib.hid h2
 have H36 := Lib.hid h36
 have hr1 : ¬ (r : Int) < 2 := by omega
 have hr2 : ¬ (36 : Int) < (r : Int) := by omega
 have hM1 : ((M : Int) == 0) = false := by rw [beq_eq_false_iff_ne]; omega
 have hM2 : (M : Int) ≤ 1024 := by omega
 have kr : IntKind.u32.wrap (r : Int) = (r : Int) := IntWalk.u32_in _ (by omega)
 have HST := Lib.hid (show RtxT r n n 0 [] from ⟨⟨Ds.nil r, by simp [dv], by simp, by simp⟩, fun e => by omega⟩)
 clear h hn hc hm hl hne hM hv h2 h36 hM0 hK
 go_enter Tryz.func50, Tryz.ntmps50
 go_wp2_with fail
 refine c1.mono ?_
 rintro e w1 ⟨rfl, b1⟩
 go_wp2_with fail
 refine (C2.out _ b1).mono ?_
 rintro e w2 ⟨v2, rfl, ho2, b2⟩
 have HO2 := Lib.hid (own_low ho2 b1.size)
 have HB2 := Lib.hid (below_le b1 b2)
 obtain ⟨A2, c2, hv2, hc2, _⟩ := ho2.sl (wds_ws _)
 subst hv2
 rw [HM.out] at HO2 hc2 ⊢
 clear ho2 b1 b2 c1 C2
 go_wp2
 go_loopw [0, 6] (fun av bv wr => ∃ (v k m : Nat) (D : List Nat) (A : Option Addr) (ca : Nat), av = .slice A m ca ∧ Hid ((wds v).length = m) ∧ (m : Int) ≤ 1024 ∧ Hid (OwnW w.heap.size (wds v) (.slice A m ca) wr) ∧ Hid (Own8 w.heap.size (D.map dch) bv wr) ∧ Hid (RtxT r n v k D) ∧ Hid (D.length ≤ 1048576) ∧ Below w.heap.size w wr) (fun _ bv _ => 2097152 - slLen bv)
 case atStart => exact ⟨n, 0, M, [], A2, c2, rfl, HM, hM2, HO2, Lib.hid (Own8.nil _ _), HST, Lib.hid (by simp), HB2.out⟩
 case round =>
  obtain ⟨v, k, m, D, A3, ca, rfl, HMV, hm1, HA, HO, HT, HDL, hbw⟩ := hrel
  by_cases h0 : m = 0
  ·have hv0 : v = 0 := by
    have h1 := HMV.out
    rw [h0] at h1
    have h3 := wds_val v
    rw [List.eq_nil_of_length_eq_zero h1] at h3
    exact h3.symm
   have hsum := HT.out.base.sum
   rw [hv0, Nat.mul_zero, Nat.add_zero] at hsum
   have hD0 : 0 < (D.map dch).length := by
    rw [List.length_map]
    cases D with
    | nil => have := HV.out; simp [dv] at hsum; omega
    | cons => simp
   obtain ⟨g2, cb, rfl, hcb, hg2, _, _⟩ := HO.out.row hD0
   obtain ⟨L, hL⟩ : ∃ L, (D.map dch).length = L := ⟨_, rfl⟩
   have hLl : L ≤ 1048576 := by rw [← hL, List.length_map]; exact HDL.out
   have HQ := Lib.hid (fun (t : ByteArray) (ht : t = strOf (D.map dch).reverse) => show TextQ r n t from .inr ⟨HV.out, D, HT.out.base.ds, hsum, by
    rw [ht, bl_strOf (fun u hu => by
     rw [List.mem_reverse, List.mem_map] at hu
     obtain ⟨d, hd, rfl⟩ := hu
     have := dch_lt (Nat.lt_of_lt_of_le (HT.out.base.ds d hd) H36.out)
     omega), HT.out.last hv0]⟩)
   have HOL := Lib.hid (show Own8 w.heap.size (D.map dch) (.slice (some ⟨g2, 0, none⟩) L cb) wr from by have := HO.out; rw [hL] at this; exact this)
   have HRV := Lib.hid (RvT.start hL)
   have HLN := Lib.hid hL
   have hL1 : (L : Int) ≤ 1048576 := by omega
   subst h0
   rw [hL]
   clear hsum hD0 hcb hL hLl hv0 HO
   go_wp2
   go_loopw [9] (fun iv wr' => ∃ (j : Nat) (S : List Nat), iv = .int .i64 (j : Nat) ∧ 2 * j ≤ L + 1 ∧ Hid (Own8 w.heap.size S (.slice (some ⟨g2, 0, none⟩) L cb) wr') ∧ Hid (RvT (D.map dch) L j S) ∧ Below w.heap.size w wr') (fun iv _ => L - (intOf iv).toNat)
   case atStart => exact ⟨0, _, rfl, by omega, HOL, HRV, hbw⟩
   case round =>
    obtain ⟨j, S, rfl, hj, HI, HT2, hbi⟩ := hrel
    by_cases hlt : 2 * j + 1 < L
    ·obtain ⟨m, hm⟩ : ∃ m, L - 1 - j = m := ⟨_, rfl⟩
     have hkm : j < m := by omega
     obtain ⟨e1, e2, hnx⟩ := HT2.out.next hm.symm hkm
     have hSl := HT2.out.len
     obtain ⟨k1, f1⟩ := HI.out.cell j (by omega)
     obtain ⟨k2, f2⟩ := HI.out.cell m (by omega)
     rw [e1] at k1
     rw [e2] at k2
     obtain ⟨x, hx⟩ : ∃ x, (D.map dch).getD j 0 = x := ⟨_, rfl⟩
     obtain ⟨y, hy⟩ : ∃ y, (D.map dch).getD m 0 = y := ⟨_, rfl⟩
     rw [hx] at k1 hnx
     rw [hy] at k2 hnx
     have HI2 := Lib.hid ((HI.out.set j y).set m x)
     have HNX := Lib.hid hnx
     have a2 : (m : Int) < (L : Nat) := by omega
     have a3 : (j : Int) < (L : Nat) := by omega
     have a4 : (j : Int) < (L : Int) / 2 := by omega
     have w1 : IntKind.i64.wrap ((L : Int) - 1) = (L : Int) - 1 := IntWalk.i64_in _ (by omega)
     have w2' : IntKind.i64.wrap ((L : Int) - 1 - (j : Int)) = (m : Int) := by rw [IntWalk.i64_in _ (by omega)]; omega
     have hmi : (L : Int) - 1 - (j : Int) = (m : Int) := by omega
     have HKM := Lib.hid (show m + j + 1 = L from by omega)
     clear hm e1 e2 hnx hSl hx hy hlt hj
     go_wp2
     go_region
     go_wp2
     go_roundw
     case rel => exact ⟨j + 1, _, by go_num, by have := HKM.out; omega, Lib.hid HI2.out.drew, HNX, ((hbi.setCell (p := ⟨g2, j, none⟩) hg2 _).setCell (p := ⟨g2, m, none⟩) hg2 _).drew⟩
     case measure => simp [intOf]; omega
    ·have HZ := Lib.hid (HT2.out.fin HLN.out hlt)
     have a4 : ¬ (j : Int) < (L : Int) / 2 := by omega
     have ho := HI.out
     rw [HZ.out] at ho
     have hcv := own8_string ho
     clear hlt ho hj
     go_wp2
     go_ret2
     exact ⟨_, rfl, HQ.out _ rfl, hbi⟩
  ·have hv0 : 0 < v := by
    rcases Nat.eq_zero_or_pos v with h1 | h1
    ·rw [h1] at HMV
     have := HMV.out
     simp [wds_zero] at this
     omega
    ·exact h1
   have hbd := HT.out.base.bound hv0 (by omega) HN.out HK.out
   have hnx := HT.out.next H2.out hv0
   obtain ⟨A4, c4, he, hc4, hr4⟩ := HA.out.sl (wds_ws v)
   injection he with e1 e2 e3
   subst e1
   subst e3
   have C1 := Lib.hid (rsmall_any A3 m ca r (wds v) wr HMV.out (by omega) hr4 (by have := H36.out; omega) (by have := H2.out; omega))
   rw [wds_val] at C1
   have hd : v % r < r := Nat.mod_lt _ (by have := H2.out; omega)
   have hEl : D.length + 1 ≤ 1048576 := by rw [HT.out.base.len]; omega
   obtain ⟨d, hde⟩ : ∃ d, v % r = d := ⟨_, rfl⟩
   obtain ⟨z, hze⟩ : ∃ z, v / r = z := ⟨_, rfl⟩
   have hlz : (wds z).length ≤ m := by
    rw [← hze, ← HMV.out]
    exact wds_len_lt (Nat.lt_of_le_of_lt (Nat.div_le_self _ _) (wds_lt v))
   rw [hde] at C1 hnx hd
   rw [hze] at C1 hnx
   have hd36 : d < 36 := Nat.lt_of_lt_of_le hd H36.out
   have kd := digS_at d hd36
   have HNX := Lib.hid hnx
   have HEL := Lib.hid hEl
   have HSL := Lib.hid (show (D.map dch).length + 1 ≤ 140737488355328 ∧ (D.map dch).length + 1 ≤ maxLen from by rw [List.length_map]; unfold maxLen; omega)
   obtain ⟨m2, hm2⟩ : ∃ m2, (wds z).length = m2 := ⟨_, rfl⟩
   have HM2 := Lib.hid hm2
   have hm2l : (m2 : Int) ≤ 1024 := by omega
   have hdi : (d : Int) < 36 := by omega
   have hd0 : (0 : Int) ≤ (d : Int) := by omega
   have hm0 : (0 : Int) < (m : Int) := by omega
   have HLE := Lib.hid hbw.size
   clear hv0 hbd hnx e2 hc4 hr4 hd hEl hde hze hlz hm2 h0
   go_wp2_with fail
   refine C1.out.mono ?_
   rintro e w3 ⟨v3, rfl, ho3, hb3⟩
   have HO3 := Lib.hid ho3
   have HB3 := Lib.hid (below_le hbw hb3)
   have HS3 := Lib.hid hb3.size
   have HE := Lib.hid (HO.out.below hb3)
   obtain ⟨A5, c5, hv5, hc5, _⟩ := ho3.sl (wds_ws _)
   subst hv5
   rw [HM2.out] at HO3 hc5 ⊢
   clear ho3 hb3 C1
   go_wp2_with (at_builtin; refine wpList_append_own _ rfl _ _ 85 rfl w.heap.size 5 i0 (.int .u8 0) 1 1 Tryz.underlying85 hi hz0 hz1 hz2 rfl (by decide) _ _ _ rfl (World.ownsRow.alloc HE.out _) ⟨w3.heap.size, 0, none⟩ 1 1 [.int .u8 (dch d : Nat)] rfl rfl ?c1 ?c2 ?c3 ?c4 ?c5 ?_)
   case c1 => exact (cell_one_new _ _ _)
   case c2 => simp [Value.oneCell']
   case c3 => exact HSL.out.2
   case c4 => have := HSL.out.1; omega
   case c5 => have := HB3.out.size; simp; omega
   intro v' w5 hown hgr _
   have hown2 : w5.ownsRow w.heap.size 5 1 v' ((D.map dch).length + 1) ((D.map dch).map (fun u => Value.int .u8 (u : Nat)) ++ [Value.int .u8 (dch d : Nat)]) := by rw [List.map_map, List.length_map]; exact hown
   have HO5 := Lib.hid (show Own8 w.heap.size ((D ++ [d]).map dch) v' w5 from by rw [List.map_append]; exact Own8.snoc (L := D.map dch) (u := dch d) hown2)
   have hbs := HB3.out.size
   have hbb : Below w.heap.size w w5 := (HB3.out.alloc (by omega) _).grown hgr (by simp; omega) (fun i hi => (World.ownsRow.lt HE.out i hi).1)
   have HA5 := Lib.hid (own_low (OwnW.grown (World.ownsRow.alloc HO3.out _) hgr (fun j hj => (World.ownsRow.lt HO.out j hj).2)) HLE.out)
   have hbl1 := HO.out.len
   have hbl2 := HO5.out.len
   rw [List.length_map] at hbl1 hbl2
   have HLL := Lib.hid (And.intro hbl1 hbl2)
   clear hown hown2 hgr hbs hbl1 hbl2
   go_wp2
   exact ⟨⟨z, k + 1, m2, _, _, _, rfl, HM2, hm2l, HA5, HO5, HNX, Lib.hid (by rw [List.length_append]; exact HEL.out), hbb⟩, by
    have h1 := HLL.out.1
    have h3 := HLL.out.2
    have h4 := HEL.out
    rw [List.length_append, List.length_singleton] at h3
    omega⟩

end Go.Proofs.YtfcpkdafkmohkaaGreatDoor
namespace Go.Proofs.YtfcpkdafkmohkaaGreatDoor
open Go.RowKit
def badR (p : Int) : Prop := p < 2 ∨ 36 < p
instance (p : Int) : Decidable (badR p) := by unfold badR; infer_instance
def TextR (p : Int) (v : Nat) (t : ByteArray) (k : Nat) : Prop :=
 (badR p ∧ t = ByteArray.empty ∧ k = 1) ∨ (¬ badR p ∧ lngB v = true ∧ t = ByteArray.empty ∧ k = 3) ∨ (¬ badR p ∧ lngB v = false ∧ TextQ p.toNat v t ∧ k = 0)
def TextA (p : Int) (v : Nat) (w : World) (e : Ending) (w' : World) : Prop := ∃ t k, e = .returned (.tuple #[.string t, .int .i64 (k : Nat)]) ∧ TextR p v t k ∧ Below w.heap.size w w'
theorem bl_nought : bl ⟨#[48]⟩ = [48] := rfl
set_option maxRecDepth 100000 in
set_option maxHeartbeats 1000000 in
theorem rtext_any (A : Option Addr) (N c0 : Nat) (p : Int) (l : List Nat) (w : World) (hn : l.length = N) (hc : N ≤ c0) (hm : N ≤ 35184372088832) (h : RW w w.heap.size A l) :
  Cp 50 #[.slice A N c0, .int .i64 p] w (TextA p (val l) w) := by
 by_cases hb : badR p
 ·have HF := Lib.hid (show TextR p (val l) ByteArray.empty 1 from .inl ⟨hb, rfl, rfl⟩)
  have hb2 : p < 2 ∨ (¬ p < 2 ∧ 36 < p) := by unfold badR at hb; omega
  clear hn hc hm h hb
  rcases hb2 with h1 | ⟨h1, h2⟩
  all_goals
   go_enter Tryz.func50, Tryz.ntmps50
   go_wp2
   go_ret2
   exact ⟨_, 1, rfl, HF.out, Below.refl _ _⟩
 ·have h1 : ¬ p < 2 := by unfold badR at hb; omega
  have h2 : ¬ 36 < p := by unfold badR at hb; omega
  cases hl : lngB (val l)
  ·rcases Nat.eq_zero_or_pos (val l) with h0 | h0
   ·have HF := Lib.hid (show TextR p (val l) ⟨#[48]⟩ 0 from .inr (.inr ⟨hb, hl, .inl ⟨h0, bl_nought⟩, rfl⟩))
    have c1 := rlong_any A N c0 l w.heap.size w hn hc hm h
    rw [hl] at c1
    have C2 := Lib.hid (fun W (hb : Below w.heap.size w W) => rnormT A N c0 l 0 W hn hc hm (h.step hb) (by rw [nrm_val_zero h0]; rfl))
    clear hn hc hm h hb hl h0
    go_enter Tryz.func50, Tryz.ntmps50
    go_wp2_with fail
    refine c1.mono ?_
    rintro e w1 ⟨rfl, b1⟩
    go_wp2_with fail
    refine (C2.out _ b1).mono ?_
    rintro e w2 ⟨A2, c2, rfl, _, b2⟩
    have HB := Lib.hid (below_le b1 b2)
    clear b1 b2 C2
    go_wp2
    go_ret2
    exact ⟨_, 0, rfl, HF.out, HB.out⟩
   ·obtain ⟨r, rfl⟩ : ∃ r : Nat, p = (r : Int) := ⟨p.toNat, by omega⟩
    refine (rtext_ok A N c0 r l w hn hc hm h (by omega) (by omega) hl h0).mono fun e w' x => ?_
    obtain ⟨t, he, hq, hbw⟩ := x
    exact ⟨t, 0, he, .inr (.inr ⟨hb, hl, by rw [Int.toNat_natCast]; exact hq, rfl⟩), hbw⟩
  ·have HF := Lib.hid (show TextR p (val l) ByteArray.empty 3 from .inr (.inl ⟨hb, hl, rfl, rfl⟩))
   have c1 := rlong_any A N c0 l w.heap.size w hn hc hm h
   rw [hl] at c1
   clear hn hc hm h hb hl
   go_enter Tryz.func50, Tryz.ntmps50
   go_wp2_with fail
   refine c1.mono ?_
   rintro e w1 ⟨rfl, b1⟩
   go_wp2
   go_ret2
   exact ⟨_, 3, rfl, HF.out, b1⟩
end Go.Proofs.YtfcpkdafkmohkaaGreatDoor
namespace Go.Proofs.YtfcpkdafkmohkaaGreatDoor
def dg10 (c : Nat) : Bool := decide (48 ≤ c) && decide (c ≤ 57)
theorem dg10_iff {c : Nat} : dg10 c = true ↔ 48 ≤ c ∧ c ≤ 57 := by unfold dg10; simp
theorem dgt_ten {c : Nat} (h : dg10 c = true) : dgt c = c - 48 ∧ dgt c < 10 := by
 have := dg10_iff.1 h
 unfold dgt
 rw [if_pos this]
 exact ⟨rfl, by omega⟩
theorem dgt_lt_ten {c : Nat} : dgt c < 10 ↔ dg10 c = true := by
 constructor
 ·intro h
  unfold dgt at h
  by_cases h1 : 48 ≤ c ∧ c ≤ 57
  ·exact dg10_iff.2 h1
  ·rw [if_neg h1] at h
   split at h
   ·omega
   ·split at h <;> omega
 ·intro h; exact (dgt_ten h).2
def sgnB (l : List Nat) : Bool := l.head? == some 45
def unsg (l : List Nat) : List Nat := if l.head? = some 45 ∨ l.head? = some 43 then l.tail else l
def run10 (l : List Nat) : List Nat := l.takeWhile dg10
def aft10 (l : List Nat) : List Nat := l.dropWhile dg10
theorem run_aft (l : List Nat) : run10 l ++ aft10 l = l := List.takeWhile_append_dropWhile
theorem run10_all : ∀ (l : List Nat), ∀ c ∈ run10 l, dg10 c = true := by
 intro l
 induction l with
 | nil => intro c hc; simp [run10] at hc
 | cons d r ih =>
  intro c hc
  unfold run10 at hc ih
  rw [List.takeWhile_cons] at hc
  cases hd : dg10 d
  ·rw [hd] at hc; simp at hc
  ·rw [hd] at hc
   simp only [if_true] at hc
   rcases List.mem_cons.1 hc with rfl | h
   ·exact hd
   ·exact ih c h
theorem run_len (l : List Nat) : (run10 l).length + (aft10 l).length = l.length := by
 have := congrArg List.length (run_aft l)
 rw [List.length_append] at this
 exact this
def amtS (n c : Nat) : Nat := if n < 1099511627776 then n * 10 + (c - 48) else n
def amt (f : List Nat) : Nat := f.foldl amtS 0
theorem amt_snoc (f : List Nat) (c : Nat) : amt (f ++ [c]) = amtS (amt f) c := by unfold amt; rw [List.foldl_append]; rfl
theorem amt_lt : ∀ (f : List Nat), (∀ c ∈ f, dg10 c = true) → amt f < 10995116277760 := by
 intro f hf
 have main : ∀ (l : List Nat) (a : Nat), a < 10995116277760 → (∀ c ∈ l, dg10 c = true) → l.foldl amtS a < 10995116277760 := by
  intro l
  induction l with
  | nil => intro a h _; exact h
  | cons c r ih =>
   intro a h hl
   refine ih (amtS a c) ?_ (fun d hd => hl d (by simp [hd]))
   have := dg10_iff.1 (hl c (by simp))
   unfold amtS
   split <;> omega
 exact main f 0 (by omega) hf
def expB (l : List Nat) : Bool := (l.head? == some 101 || l.head? == some 69) && !(run10 (unsg l.tail)).isEmpty
def expV (l : List Nat) : Int := if sgnB l.tail = true then -(amt (run10 (unsg l.tail)) : Int) else (amt (run10 (unsg l.tail)) : Int)
def expR (l : List Nat) : List Nat := aft10 (unsg l.tail)
def exV (l : List Nat) : Int := if expB l = true then expV l else 0
def exR (l : List Nat) : List Nat := if expB l = true then expR l else l
theorem expV_le (l : List Nat) : -10995116277760 < expV l ∧ expV l < 10995116277760 := by
 have := amt_lt (run10 (unsg l.tail)) (run10_all _)
 unfold expV
 split <;> omega
theorem exV_le (l : List Nat) : -10995116277760 < exV l ∧ exV l < 10995116277760 := by
 have := expV_le l
 unfold exV
 split <;> omega
def dotB (t : List Nat) : Bool := t.head? == some 46
def dW (l : List Nat) : List Nat := run10 l
def dF (l : List Nat) : List Nat := if dotB (aft10 l) = true then run10 (aft10 l).tail else []
def dB (l : List Nat) : Bool := !((dW l).isEmpty && (dF l).isEmpty)
def dT (l : List Nat) : List Nat := if dotB (aft10 l) = true then aft10 (aft10 l).tail else aft10 l
def dX (l : List Nat) : Int := exV (dT l)
def dR (l : List Nat) : List Nat := exR (dT l)
def num (r : Nat) (f : List Nat) : Nat := pv r (fun i => dgt (f.getD i 0)) f.length
def dV (l : List Nat) : Nat := decR (num 10 (dW l ++ dF l)) (dX l - (dF l).length)
/-! ### Numbers of digits -/
theorem num_nil (r : Nat) : num r [] = 0 := rfl
theorem num_append (r : Nat) (f g : List Nat) : num r (f ++ g) = num r f * r ^ g.length + num r g := by
 unfold num
 rw [List.length_append, pv_add]
 congr 1
 ·congr 1
  refine pv_congr (fun i hi => ?_)
  rw [List.getD_eq_getElem?_getD, List.getElem?_append_left hi, ← List.getD_eq_getElem?_getD]
 ·refine pv_congr (fun i hi => ?_)
  rw [List.getD_eq_getElem?_getD, List.getElem?_append_right (by omega), Nat.add_sub_cancel_left, ← List.getD_eq_getElem?_getD]
theorem num_one (r c : Nat) : num r [c] = dgt c := by
 unfold num
 show pv r _ 1 = _
 simp [pv]
theorem num_cons (r c : Nat) (f : List Nat) : num r (c :: f) = dgt c * r ^ f.length + num r f := by
 rw [show c :: f = [c] ++ f from rfl, num_append, num_one]
theorem num_lt {r : Nat} {f : List Nat} (h : ∀ c ∈ f, dgt c < r) : num r f < r ^ f.length := by
 unfold num
 refine pv_lt (fun i hi => ?_)
 rw [List.getD_eq_getElem?_getD, List.getElem?_eq_getElem hi]
 exact h _ (List.getElem_mem hi)
theorem dgt_48 : dgt 48 = 0 := by decide
theorem num_zeros (r : Nat) : ∀ k : Nat, num r (List.replicate k 48) = 0
 | 0 => rfl
 | k + 1 => by rw [List.replicate_succ, num_cons, dgt_48, num_zeros r k]; simp
theorem num_lead (r : Nat) : ∀ f : List Nat, num r (f.dropWhile (· == 48)) = num r f
 | [] => rfl
 | c :: f => by
  by_cases h : c = 48
  ·subst h
   rw [List.dropWhile_cons_of_pos (by simp), num_lead r f, num_cons, dgt_48]
   simp
  ·rw [List.dropWhile_cons_of_neg (by simpa using h)]
theorem lead_head (f : List Nat) : (f.dropWhile (· == 48)).head? ≠ some 48 := by
 intro h
 have := List.head?_dropWhile_not (p := (· == 48)) f
 rw [h] at this
 simp at this
theorem num_ge {f : List Nat} {c : Nat} (hd : ∀ x ∈ c :: f, dg10 x = true) (hc : c ≠ 48) : 10 ^ f.length ≤ num 10 (c :: f) := by
 have h1 := dgt_ten (hd c (by simp))
 have h2 := dg10_iff.1 (hd c (by simp))
 rw [num_cons]
 have h3 : 1 * 10 ^ f.length ≤ dgt c * 10 ^ f.length := Nat.mul_le_mul_right _ (by omega)
 omega
theorem num_pos_iff {f : List Nat} (hd : ∀ x ∈ f, dg10 x = true) : num 10 f = 0 ↔ f.dropWhile (· == 48) = [] := by
 rw [← num_lead 10 f]
 constructor
 ·intro h
  cases hf : f.dropWhile (· == 48) with
  | nil => rfl
  | cons c g =>
   exfalso
   rw [hf] at h
   have h1 : c ≠ 48 := by
    have := lead_head f
    rw [hf] at this
    intro e
    exact this (by rw [e]; rfl)
   have h2 := num_ge (f := g) (c := c) (fun x hx => hd x (by
    have : x ∈ f.dropWhile (· == 48) := by rw [hf]; exact hx
    exact (List.dropWhile_sublist _).subset this)) h1
   have := ten_pos g.length
   omega
 ·intro h; rw [h]; rfl

end Go.Proofs.YtfcpkdafkmohkaaGreatDoor
namespace Go.Proofs.YtfcpkdafkmohkaaGreatDoor
def ldz (f : List Nat) : List Nat := f.dropWhile (· == 48)
def trz (f : List Nat) : List Nat := (f.reverse.dropWhile (· == 48)).reverse
theorem ldz_mem {f : List Nat} {c : Nat} (h : c ∈ ldz f) : c ∈ f := (List.dropWhile_sublist _).subset h
theorem trz_mem {f : List Nat} {c : Nat} (h : c ∈ trz f) : c ∈ f := by
 unfold trz at h
 rw [List.mem_reverse] at h
 exact List.mem_reverse.1 ((List.dropWhile_sublist _).subset h)
theorem dropWhile_zeros : ∀ g : List Nat, ∃ z, g = List.replicate z 48 ++ g.dropWhile (· == 48)
 | [] => ⟨0, rfl⟩
 | c :: g => by
  by_cases h : c = 48
  ·subst h
   obtain ⟨z, hz⟩ := dropWhile_zeros g
   refine ⟨z + 1, ?_⟩
   rw [List.dropWhile_cons_of_pos (by simp), List.replicate_succ, List.cons_append, ← hz]
  ·exact ⟨0, by rw [List.dropWhile_cons_of_neg (by simpa using h)]; rfl⟩
theorem trz_zeros (f : List Nat) : ∃ z, f = trz f ++ List.replicate z 48 := by
 obtain ⟨z, hz⟩ := dropWhile_zeros f.reverse
 refine ⟨z, ?_⟩
 have h := congrArg List.reverse hz
 rw [List.reverse_reverse, List.reverse_append, List.reverse_replicate] at h
 exact h
theorem trz_last (f : List Nat) : (trz f).getLast? ≠ some 48 := by
 unfold trz
 rw [List.getLast?_reverse]
 exact lead_head f.reverse
theorem num_trz (f : List Nat) : num 10 f = num 10 (trz f) * 10 ^ (f.length - (trz f).length) := by
 obtain ⟨z, hz⟩ := trz_zeros f
 have hl : f.length - (trz f).length = z := by
  have := congrArg List.length hz
  rw [List.length_append, List.length_replicate] at this
  omega
 have h2 := congrArg (num 10) hz
 rw [num_append, num_zeros, List.length_replicate, Nat.add_zero] at h2
 rw [hl, h2]
theorem trz_len (f : List Nat) : (trz f).length ≤ f.length := by
 obtain ⟨z, hz⟩ := trz_zeros f
 have := congrArg List.length hz
 rw [List.length_append] at this
 omega
theorem num_any_pos {f : List Nat} (hd : ∀ x ∈ f, dg10 x = true) {c : Nat} (hc : c ∈ f) (h : c ≠ 48) : 0 < num 10 f := by
 rcases Nat.eq_zero_or_pos (num 10 f) with h0 | h0
 ·exfalso
  have h1 := (num_pos_iff hd).1 h0
  obtain ⟨z, hz⟩ := dropWhile_zeros f
  rw [h1, List.append_nil] at hz
  rw [hz] at hc
  exact h (List.eq_of_mem_replicate hc)
 ·exact h0
theorem num_lo {g : List Nat} (hd : ∀ x ∈ g, dg10 x = true) (h0 : g ≠ []) (hh : g.head? ≠ some 48) : 10 ^ (g.length - 1) ≤ num 10 g := by
 cases g with
 | nil => exact absurd rfl h0
 | cons c r =>
  have := num_ge (f := r) (c := c) hd (fun e => hh (by rw [e]; rfl))
  simpa using this
theorem num_hi {g : List Nat} (hd : ∀ x ∈ g, dg10 x = true) : num 10 g < 10 ^ g.length := num_lt (fun c hc => (dgt_ten (hd c hc)).2)
theorem head_take {g : List Nat} {k : Nat} (hk : 0 < k) : (g.take k).head? = g.head? := by
 cases g with
 | nil => simp
 | cons c r =>
  obtain ⟨j, rfl⟩ : ∃ j, k = j + 1 := ⟨k - 1, by omega⟩
  rw [List.take_succ_cons]
  rfl
theorem dgt_49 : dgt 49 = 1 := by decide
theorem cut_tail {g : List Nat} {k : Nat} {e : Int} (hd : ∀ x ∈ g, dg10 x = true) (hh : g.head? ≠ some 48) (hk : 769 ≤ k) (hl : k < g.length) (hpt : (g.length : Int) + e ≤ 768) (hc : ∃ c ∈ g.drop k, c ≠ 48) :
  decR (num 10 g) e = decR (num 10 (g.take k ++ [49])) (e + (g.length - k : Nat) - 1) := by
 obtain ⟨p, hp⟩ : ∃ p, g.take k = p := ⟨_, rfl⟩
 obtain ⟨q, hq⟩ : ∃ q, g.drop k = q := ⟨_, rfl⟩
 have hg : g = p ++ q := by rw [← hp, ← hq, List.take_append_drop]
 have lp : p.length = k := by rw [← hp, List.length_take]; omega
 have lq : q.length = g.length - k := by rw [← hq, List.length_drop]
 have dp : ∀ x ∈ p, dg10 x = true := fun x hx => hd x (by rw [hg]; exact List.mem_append_left _ hx)
 have dq : ∀ x ∈ q, dg10 x = true := fun x hx => hd x (by rw [hg]; exact List.mem_append_right _ hx)
 have hhp : p.head? ≠ some 48 := by rw [← hp, head_take (by omega)]; exact hh
 have p0 : p ≠ [] := fun e => by rw [e] at lp; simp at lp; omega
 rw [hq] at hc
 obtain ⟨c, hc1, hc2⟩ := hc
 have q0 := num_any_pos dq hc1 hc2
 have h1 := num_lo dp p0 hhp
 rw [lp] at h1
 have h2 := num_hi dp
 rw [lp] at h2
 have h3 := num_hi dq
 rw [hp, num_append, num_one, dgt_49, ← lq]
 have h4 := decR_cut (p := num 10 p) (r := q.length) (q := num 10 q) (k := k) (e := e) hk h1 h2 h3 q0 (by rw [hg, List.length_append, lp] at hpt; omega)
 rw [← num_append, ← hg] at h4
 rw [h4]
 rfl
/-! ### The program's way -/
theorem pway_none {f : List Nat} {e : Int} (h : trz (ldz f) = []) : decR (num 10 f) e = 0 := by
 have h1 := num_trz (ldz f)
 rw [h, num_nil, Nat.zero_mul] at h1
 have h2 : num 10 (ldz f) = num 10 f := num_lead 10 f
 rw [← h2, h1]
 exact decR_zero e
theorem pway_low {f : List Nat} {e : Int} (hd : ∀ x ∈ f, dg10 x = true) (h : ((ldz f).length : Int) + e < -323) : decR (num 10 f) e = 0 := by
 have h2 : num 10 (ldz f) = num 10 f := num_lead 10 f
 rw [← h2]
 exact decR_tiny (num_hi (fun x hx => hd x (ldz_mem hx))) (by omega)
theorem pway_high {f : List Nat} {e : Int} (hd : ∀ x ∈ f, dg10 x = true) (h0 : trz (ldz f) ≠ []) (h : 309 < ((ldz f).length : Int) + e) : decR (num 10 f) e = 9218868437227405312 := by
 have h2 : num 10 (ldz f) = num 10 f := num_lead 10 f
 have h3 : ldz f ≠ [] := fun e => h0 (by rw [e]; rfl)
 have h4 : 0 < (ldz f).length := List.length_pos_iff.2 h3
 rw [← h2]
 exact decR_huge (num_lo (fun x hx => hd x (ldz_mem hx)) h3 (lead_head f)) (by omega)
theorem pway_short {f : List Nat} (e : Int) : decR (num 10 f) e = decR (num 10 (trz (ldz f))) ((ldz f).length + e - (trz (ldz f)).length) := by
 have h2 : num 10 (ldz f) = num 10 f := num_lead 10 f
 have h3 := trz_len (ldz f)
 rw [← h2, num_trz (ldz f), decR_shift]
 exact congrArg (decR _) (by omega)
theorem trz_head {f : List Nat} (h : f.head? ≠ some 48) : (trz f).head? ≠ some 48 := by
 obtain ⟨z, hz⟩ := trz_zeros f
 cases ht : trz f with
 | nil => simp
 | cons c r =>
  rw [ht] at hz
  rw [hz] at h
  exact h
theorem pway_long {f : List Nat} {e : Int} (hd : ∀ x ∈ f, dg10 x = true) (hl : 800 < (trz (ldz f)).length) (h : ((ldz f).length : Int) + e ≤ 309) : decR (num 10 f) e = decR (num 10 ((trz (ldz f)).take 800 ++ [49])) ((ldz f).length + e - 801) := by
 rw [pway_short]
 have h3 := trz_len (ldz f)
 have hdh : ∀ x ∈ trz (ldz f), dg10 x = true := fun x hx => hd x (ldz_mem (trz_mem hx))
 have key := cut_tail (g := trz (ldz f)) (k := 800) (e := (ldz f).length + e - (trz (ldz f)).length) hdh (trz_head (lead_head f)) (by omega) hl (by omega) ?_
 ·rw [key]
  exact congrArg (decR _) (by omega)
 ·have hne : trz (ldz f) ≠ [] := fun e => by rw [e] at hl; simp at hl
  obtain ⟨c, hc⟩ : ∃ c, (trz (ldz f)).getLast? = some c := ⟨_, List.getLast?_eq_some_getLast hne⟩
  refine ⟨c, ?_, fun e => trz_last (ldz f) (by rw [← e]; exact hc)⟩
  have h5 : ((trz (ldz f)).drop 800).getLast? = some c := by
   rw [List.getLast?_drop, if_neg (by omega)]
   exact hc
  exact List.mem_of_getLast? h5
/-! ### The reference's way -/
theorem rway_high {f : List Nat} {e : Int} (hd : ∀ x ∈ f, dg10 x = true) (h0 : ldz f ≠ []) (h : 400 < ((ldz f).length : Int) + e) : decR (num 10 f) e = 9218868437227405312 := by
 have h2 : num 10 (ldz f) = num 10 f := num_lead 10 f
 have h4 : 0 < (ldz f).length := List.length_pos_iff.2 h0
 rw [← h2]
 exact decR_huge (num_lo (fun x hx => hd x (ldz_mem hx)) h0 (lead_head f)) (by omega)
theorem rway_some {f : List Nat} {e : Int} (hd : ∀ x ∈ f, dg10 x = true) (hl : 820 < (ldz f).length) (h : ((ldz f).length : Int) + e ≤ 400) (hc : ∃ c ∈ (ldz f).drop 810, c ≠ 48) : decR (num 10 f) e = decR (num 10 ((ldz f).take 810 ++ [49])) (e + ((ldz f).length - 810 : Nat) - 1) := by
 have h2 : num 10 (ldz f) = num 10 f := num_lead 10 f
 rw [← h2]
 exact cut_tail (fun x hx => hd x (ldz_mem hx)) (lead_head f) (by omega) (by omega) (by omega) hc
theorem rway_none {f : List Nat} {e : Int} (hc : ∀ c ∈ (ldz f).drop 810, c = 48) : decR (num 10 f) e = decR (num 10 ((ldz f).take 810)) (e + ((ldz f).length - 810 : Nat)) := by
 have h2 : num 10 (ldz f) = num 10 f := num_lead 10 f
 rw [← h2, ← decR_shift]
 have h3 : num 10 (ldz f) = num 10 ((ldz f).take 810 ++ (ldz f).drop 810) := by rw [List.take_append_drop]
 have h4 : (ldz f).drop 810 = List.replicate ((ldz f).length - 810) 48 := by
  rw [← List.length_drop]
  exact List.eq_replicate_of_mem hc
 rw [h3, num_append, h4, num_zeros, List.length_replicate, Nat.add_zero]

end Go.Proofs.YtfcpkdafkmohkaaGreatDoor
namespace Go.Proofs.YtfcpkdafkmohkaaGreatDoor
def hxA (l : List Nat) : Bool := l.head? == some 48 && (l.tail.head? == some 120 || l.tail.head? == some 88)
def hx16 (c : Nat) : Bool := decide (dgt c < 16)
def hxB (l : List Nat) : Bool := hxA l && !(l.drop 2).isEmpty && (l.drop 2).all hx16
def natV (r : Nat) (f : List Nat) : Nat := decR (num r f) 0
def infL : List Nat := [73, 110, 102, 105, 110, 105, 116, 121]
def infB (l : List Nat) : Bool := infL.isPrefixOf l
def sgW (s : Bool) (r : Nat) : Nat := if s = true then 9223372036854775808 + r else r
def nanW : Nat := 9221120237041090560
def numW (l : List Nat) : Nat :=
 if l = [] then 0 else if hxB l = true then natV 16 (l.drop 2)
 else if unsg l = infL then sgW (sgnB l) 9218868437227405312
 else if dB (unsg l) = true ∧ dR (unsg l) = [] then sgW (sgnB l) (dV (unsg l)) else nanW
def dgq (r : Nat) (c : Nat) : Bool := decide (dgt c < r)
def nrw (z : Nat) (us : List Nat) : List Nat := us.map fun u => if 127 < u then z else u
theorem nrw_lt {z : Nat} (hz : z < 128) (us : List Nat) : ∀ c ∈ nrw z us, c < 128 := by
 intro c hc
 unfold nrw at hc
 obtain ⟨u, _, rfl⟩ := List.mem_map.1 hc
 split <;> omega
end Go.Proofs.YtfcpkdafkmohkaaGreatDoor
