/-
  Merged texts (BF, Cp, E1, F0, F1, F2, T0, Us, Cm, BD, Dp, Dq).
-/
import Derived.Test.YtmakhfekiieneaaGreatDoorQtb
import Derived.Deep.RegionHeld3
import Derived.Laws.StructEq
import Derived.Deep.WholeRow
import Derived.Laws.Rows
import Derived.Laws.Tables
import Derived.Laws.EntriesVeiled
import Derived.Laws.Closers25b
open Go.RowKit
set_option maxRecDepth 100000
set_option maxHeartbeats 40000000
namespace Go.Proofs.YtmakhfekiieneaaGreatDoor
section
def Cs (x : Nat) : Bool := decide (9218868437227405312 < Ba x)
def Fa (x : Nat) : Bool := decide (Ba x = 9218868437227405312)
theorem Ahd (x : Nat) : (FloatKind.f64.format.order x x != some .eq) = Cs x := by
 unfold Cs
 show (Ieee.double.order x x != some .eq) = _
 by_cases h : 9218868437227405312 < Ba x
 ·rw [F6 (.inl h), decide_eq_true h]; rfl
 ·rw [Ex (by omega) (by omega), decide_eq_false h]
  have : compare (E1 x) (E1 x) = .eq := by simp [compare, compareOfLessAndEq]
  rw [this]; rfl
theorem Alo (a b : Int) : (some (compare a b) == some Ordering.lt) = decide (a < b) := by
 simp only [compare, compareOfLessAndEq]
 by_cases h : a < b
 ·simp [h]
 ·by_cases h2 : a = b
  ·simp [h2]
  ·simp [h, h2]
theorem Ape (a b : Int) : (some (compare a b) == some Ordering.gt) = decide (b < a) := by
 simp only [compare, compareOfLessAndEq]
 by_cases h : a < b
 ·simp [h]; omega
 ·by_cases h2 : a = b
  ·simp [h2]
  ·simp [h, h2]; omega
theorem Apt (a b : Int) : (some (compare a b) == some Ordering.eq) = decide (a = b) := by
 simp only [compare, compareOfLessAndEq]
 by_cases h : a < b
 ·simp [h]; omega
 ·by_cases h2 : a = b
  ·simp [h2]
  ·simp [h, h2]
theorem Iu (x : Nat) : (FloatKind.f64.format.order x 0 == some .lt) = (!Cs x && (Ca x && decide (0 < Ba x))) := by
 show (Ieee.double.order x 0 == some .lt) = _
 unfold Cs
 by_cases h : 9218868437227405312 < Ba x
 ·rw [F6 (.inl h), decide_eq_true h]; rfl
 ·rw [Ex (by omega) (by decide), decide_eq_false h, Alo]
  have e : E1 0 = 0 := by decide
  rw [e]
  unfold E1
  cases Ca x <;> simp <;> omega
theorem Fj (x : Nat) : (FloatKind.f64.format.order x 0 == some .eq) = decide (Ba x = 0) := by
 show (Ieee.double.order x 0 == some .eq) = _
 by_cases h : 9218868437227405312 < Ba x
 ·rw [F6 (.inl h)]
  have : ¬ Ba x = 0 := by omega
  rw [decide_eq_false this]; rfl
 ·rw [Ex (by omega) (by decide), Apt]
  have e : E1 0 = 0 := by decide
  rw [e]
  unfold E1
  cases Ca x <;> simp
theorem W7 (x : Nat) : (FloatKind.f64.format.order x 9218868437227405311 == some .gt) = (Fa x && !Ca x) := by
 show (Ieee.double.order x 9218868437227405311 == some .gt) = _
 unfold Fa
 by_cases h : 9218868437227405312 < Ba x
 ·rw [F6 (.inl h)]
  have : ¬ Ba x = 9218868437227405312 := by omega
  rw [decide_eq_false this]; rfl
 ·rw [Ex (by omega) (by decide), Ape]
  have e : E1 9218868437227405311 = 9218868437227405311 := by decide
  rw [e]
  unfold E1
  cases Ca x
  ·simp; omega
  ·simp
theorem By (x : Nat) (w : World) : Cq 41 #[.float .f64 x] (.bool (Cs x)) w := by
 have h := Ahd x
 go_enter Tryz.func41, Tryz.ntmps41
 go_wp2
 go_ret
 exact ⟨by rw [← h]; rfl, rfl⟩
theorem Ji (x : Nat) (w : World) : Cq 114 #[.float .f64 x, .int .i64 1] (.bool (Fa x && !Ca x)) w := by
 have h := W7 x
 go_enter Tryz.func114, Tryz.ntmps114
 go_wp2
 go_ret
 exact ⟨by rw [← h]; rfl, rfl⟩
theorem Yi (x : Nat) (hx : x < 18446744073709551616) : bits BinOp.andNot IntKind.u64 (x : Int) 9223372036854775808 = ((Ba x : Nat) : Int) := by
 show IntKind.u64.wrap ((BitVec.ofInt 64 (x : Int) &&& ~~~ BitVec.ofInt 64 9223372036854775808).toNat : Int) = _
 have e1 : (BitVec.ofInt 64 (x : Int)) = BitVec.ofNat 64 x := by rw [BitVec.ofInt_natCast]
 have e2 : (~~~ BitVec.ofInt 64 9223372036854775808) = BitVec.ofNat 64 (2 ^ 63 - 1) := by decide
 rw [e1, e2, BitVec.toNat_and, BitVec.toNat_ofNat, BitVec.toNat_ofNat, Nat.mod_eq_of_lt (by omega : x < 2 ^ 64), Nat.mod_eq_of_lt (by omega : 2 ^ 63 - 1 < 2 ^ 64), Nat.and_two_pow_sub_one_eq_mod, IntKind.wrap_u64]
 unfold Ba
 omega
theorem Bq (x : Nat) (w : World) : (callFunc 30 #[.float .f64 x]).run Tryz.prog w = .ok (.value (.int .u64 x)) w := by
 rw [run_callFunc_extern (e := Extern.MathFloatBits.float64bits) Tryz.func30 (by kernel_rfl) (by kernel_rfl) (by kernel_rfl) (by kernel_rfl)]
 rfl
theorem Bx (x : Nat) (w : World) : (callFunc 69 #[.int .u64 x]).run Tryz.prog w = .ok (.value (.float .f64 x)) w := by
 rw [run_callFunc_extern (e := Extern.MathFloatBits.float64frombits) Tryz.func69 (by kernel_rfl) (by kernel_rfl) (by kernel_rfl) (by kernel_rfl)]
 rfl
theorem Ni (x : Nat) (w : World) (hx : x < 18446744073709551616) : Cq 115 #[.float .f64 x] (.float .f64 (Ba x)) w := by
 have h := Yi x hx
 have h1 := Bq x w
 have h2 := Bx (Ba x) w
 clear hx
 go_enter Tryz.func115, Tryz.ntmps115
 go_wp2
 go_ret
 exact ⟨by rfl, rfl⟩
theorem Rw (x : Nat) : Ba (Ba x) = Ba x ∧ Ca (Ba x) = false := by
 unfold Ba Ca
 refine ⟨by omega, ?_⟩
 rw [Nat.div_eq_of_lt (Nat.mod_lt _ (by omega))]; rfl
theorem Dv (x : Nat) (w : World) (hx : x < 18446744073709551616) : Cq 114 #[.float .f64 x, .int .i64 0] (.bool (Fa x)) w := by
 have h := W7 (Ba x)
 have h2 : (Fa (Ba x) && !Ca (Ba x)) = Fa x := by
  unfold Fa
  rw [(Rw x).1, (Rw x).2]; simp
 rw [h2] at h
 have C1 := Lh (fun W => Ni x W hx)
 clear hx h2
 go_enter Tryz.func114, Tryz.ntmps114
 go_wp2_with fail
 refine Sm (C1.out _) ?_
 go_wp2
 go_ret
 exact ⟨by rw [← h]; rfl, rfl⟩
def Co (x : Nat) : Nat := if x / 4503599627370496 = 0 then x % 4503599627370496 else x % 4503599627370496 + 4503599627370496
def Hj (x : Nat) : Int := if x / 4503599627370496 = 0 then -1074 else ((x / 4503599627370496 : Nat) : Int) - 1075
def Yl (x : Nat) : Bool := Cs x || Fa x || (Ca x && decide (0 < Ba x))
theorem J6 : ∀ n : Nat, 0 < n → ∃ k m, n = 2 ^ (k + 1) * m + 2 ^ k := by
 intro n
 induction n using Nat.strongRecOn with
 | _ n ih =>
  intro h
  by_cases h2 : n % 2 = 1
  ·exact ⟨0, n / 2, by simp; omega⟩
  ·obtain ⟨k, m, e⟩ := ih (n / 2) (by omega) (by omega)
   refine ⟨k + 1, m, ?_⟩
   rw [Nat.pow_succ 2 (k + 1), Nat.pow_succ 2 k]
   rw [Nat.pow_succ 2 k] at e
   have : n = 2 * (n / 2) := by omega
   rw [this, e]
   grind
theorem Ant {k m j l : Nat} {n : Nat} (h : n = 2 ^ (k + 1) * m + 2 ^ k) (g : n = 2 ^ (j + 1) * l + 2 ^ j) (hn : n < 2 ^ 64) : k = j ∧ m = l := by
 have h1 := Ts h hn
 have h2 := Ts g hn
 rw [h1] at h2
 have h3 : k = j := by
  rcases Nat.lt_trichotomy k j with h4 | h4 | h4
  ·have := Nat.pow_lt_pow_right (a := 2) (by omega) h4; omega
  ·exact h4
  ·have := Nat.pow_lt_pow_right (a := 2) (by omega) h4; omega
 subst h3
 refine ⟨rfl, ?_⟩
 rw [h] at g
 have h4 := Nat.add_right_cancel g
 exact Nat.eq_of_mul_eq_mul_left (Nat.two_pow_pos _) h4
theorem Vl (x : Nat) (hx : x < 18446744073709551616) : bits BinOp.and IntKind.u64 (x : Int) 4503599627370495 = ((x % 4503599627370496 : Nat) : Int) := by
 show IntKind.u64.wrap ((BitVec.ofInt 64 (x : Int) &&& BitVec.ofInt 64 4503599627370495).toNat : Int) = _
 have e1 : (BitVec.ofInt 64 (x : Int)) = BitVec.ofNat 64 x := by rw [BitVec.ofInt_natCast]
 have e2 : (BitVec.ofInt 64 4503599627370495) = BitVec.ofNat 64 (2 ^ 52 - 1) := by decide
 rw [e1, e2, BitVec.toNat_and, BitVec.toNat_ofNat, BitVec.toNat_ofNat, Nat.mod_eq_of_lt (by omega : x < 2 ^ 64), Nat.mod_eq_of_lt (by omega : 2 ^ 52 - 1 < 2 ^ 64), Nat.and_two_pow_sub_one_eq_mod, IntKind.wrap_u64]
 omega
theorem Sh (t : Nat) (ht : t < 4503599627370496) : bits BinOp.or IntKind.u64 (t : Int) 4503599627370496 = ((t + 4503599627370496 : Nat) : Int) := by
 rw [show (4503599627370496 : Int) = ((4503599627370496 : Nat) : Int) from rfl, E8 t 4503599627370496 (by omega) (by omega)]
 have := Nat.two_pow_add_eq_or_of_lt (i := 52) (b := t) ht 1
 rw [Nat.or_comm, show (4503599627370496 : Nat) = 2 ^ 52 * 1 from rfl, ← this, Nat.add_comm]
theorem Aei (x : Nat) (w : World) (hx : x < 9218868437227405312) : Cq 198 #[.float .f64 x] (.tuple #[.int .u64 (Co x : Nat), .int .i64 (Hj x)]) w := by
 have h1 := Bq x w
 have h2 := Vl x (by omega)
 have h3 := Sh (x % 4503599627370496) (Nat.mod_lt _ (by omega))
 unfold Co Hj
 obtain ⟨q, hq⟩ : ∃ q, x / 4503599627370496 = q := ⟨_, rfl⟩
 obtain ⟨t, ht⟩ : ∃ t, x % 4503599627370496 = t := ⟨_, rfl⟩
 rw [ht] at h2 h3
 rw [hq, ht]
 have k1 : (x : Int) / 4503599627370496 = (q : Int) := by omega
 have k2 : IntKind.i64.wrap (q : Int) = (q : Int) := IntWalk.i64_in _ (by omega)
 have k3 : IntKind.i64.wrap (-1074 + (q : Int)) = -1074 + (q : Int) := IntWalk.i64_in _ (by omega)
 have k4 : IntKind.i64.wrap (-1074 + (q : Int) - 1) = (q : Int) - 1075 := by rw [IntWalk.i64_in _ (by omega)]; omega
 by_cases h0 : q = 0
 ·rw [if_pos h0, if_pos h0]
  have b0 : ((q : Int) == 0) = true := by rw [h0]; rfl
  clear hx hq ht h0
  go_enter Tryz.func198, Tryz.ntmps198
  go_wp2
  go_ret2
  exact ⟨rfl, rfl⟩
 ·rw [if_neg h0, if_neg h0]
  have b0 : ((q : Int) == 0) = false := by rw [beq_eq_false_iff_ne]; omega
  clear hx hq ht h0
  go_enter Tryz.func198, Tryz.ntmps198
  go_wp2
  go_ret2
  exact ⟨congrArg (fun z : Int => Ending.returned (.tuple #[.int .u64 ((t + 4503599627370496 : Nat) : Int), .int .i64 z])) (by first | exact k4 | omega), rfl⟩
theorem Fd {fn : Func} {t u v : Tmp} (h : fn.results = #[.tmp t, .tmp u, .tmp v]) (tmps : Array Value) (P : Program) (w : World) :
  (results fn tmps).run P w = .ok (.tuple #[tmps.getD t undef, tmps.getD u undef, tmps.getD v undef]) w := by
 simp [results, h]
def PartsP (x : Nat) (w : World) (e : Ending) (w' : World) : Prop :=
 ∃ k m A n c, Co x = 2 ^ (k + 1) * m + 2 ^ k ∧ e = .returned (.tuple #[.slice A n c, .int .i64 (Hj x + (k : Nat)), .int .i64 0]) ∧ (n = (wds (2 * m + 1)).length ∧ n ≤ c ∧ RW w' w'.heap.size A (wds (2 * m + 1))) ∧ Below w.heap.size w w'
theorem Dr (n : Nat) (h : n < 18446744073709551616) : nrm (two n) = wds n := by rw [Bg (Aab h), Adg]
theorem Ahl {x : Nat} (hx : x < 18446744073709551616) (hb : Yl x = false) : Cs x = false ∧ Fa x = false ∧ (Ba x = 0 ∨ (0 < Ba x ∧ Ba x = x ∧ x < 9218868437227405312 ∧ Ca x = false)) := by
 unfold Yl at hb
 have h1 : Cs x = false := by cases e : Cs x <;> rw [e] at hb <;> first | rfl | simp at hb
 have h2 : Fa x = false := by cases e : Fa x <;> rw [e] at hb <;> first | rfl | simp at hb
 refine ⟨h1, h2, ?_⟩
 rw [h1, h2] at hb
 have h3 := of_decide_eq_false h1
 have h4 := of_decide_eq_false h2
 rcases Nat.eq_zero_or_pos (Ba x) with h0 | h0
 ·exact .inl h0
 ·right
  have h5 : Ca x = false := by cases e : Ca x <;> rw [e] at hb <;> first | rfl | (simp at hb; omega)
  have h6 : Ba x = x := by
   unfold Ca at h5
   unfold Ba
   rw [beq_eq_false_iff_ne] at h5
   omega
  exact ⟨h0, h6, by omega, h5⟩
theorem Yr (x : Nat) (w : World) (hx : x < 18446744073709551616) (hb : Yl x = false) (h0 : Ba x = 0) : Cq 208 #[.float .f64 x] (.tuple #[.slice none 0 0, .int .i64 0, .int .i64 0]) w := by
 obtain ⟨g1, g2, _⟩ := Ahl hx hb
 have C1 := Lh (fun W => By x W)
 have C2 := Lh (fun W => Dv x W hx)
 have h1 := Iu x
 have h2 := Fj x
 rw [g1, h0] at h1
 rw [h0] at h2
 rw [g1] at C1
 rw [g2] at C2
 simp only [Bool.not_false, Nat.lt_irrefl, decide_false, Bool.and_false] at h1
 simp only [decide_true] at h2
 clear hx hb h0 g1 g2
 go_enter Tryz.func208, Tryz.ntmps208
 go_wp2_with fail
 refine Sm (C1.out _) ?_
 go_wp2_with fail
 refine Sm (C2.out _) ?_
 go_wp2
 refine bodyPost_ret (Fd rfl _ _ _) rfl ?_
 exact ⟨rfl, rfl⟩
theorem Ge {x : Nat} (h0 : 0 < x) : 0 < Co x ∧ Co x < 9007199254740992 := by
 unfold Co
 split <;> omega
theorem Aeq (x : Nat) (w : World) (hx : x < 18446744073709551616) (hb : Yl x = false) (h0 : 0 < Ba x) (ht : Ep w) : Cp 145 #[.float .f64 x] w (PartsP x w) := by
 obtain ⟨g1, g2, g3⟩ := Ahl hx hb
 obtain ⟨_, g4, g5, g6⟩ := g3.resolve_left (by omega)
 rw [g4] at h0
 obtain ⟨f1, f2⟩ := Ge h0
 obtain ⟨k, m, hkm⟩ := J6 _ f1
 have C1 := Lh (fun W => By x W)
 have C2 := Lh (fun W => Ji x W)
 have h1 := Iu x
 have h2 := Fj x
 rw [g1, g6] at h1
 rw [decide_eq_false (show ¬ Ba x = 0 by omega)] at h2
 rw [g1] at C1
 rw [g2] at C2
 simp only [Bool.not_false, Bool.true_and, Bool.false_and] at h1
 simp only [Bool.false_and] at C2
 have C3 := Lh (Aei x w g5)
 have C4 := Lh (Aow (Co x) k m w hkm (by omega) ht)
 have hk64 : k < 53 := by
  have : 2 ^ k < 2 ^ 53 := by
   have h9 : 2 ^ k ≤ Co x := by rw [hkm]; exact Nat.le_add_left _ _
   exact Nat.lt_of_le_of_lt h9 f2
  exact (Nat.pow_lt_pow_iff_right (a := 2) (by omega)).1 this
 have hodd : Co x / 2 ^ k = 2 * m + 1 := by
  rw [hkm, Nat.pow_succ, show 2 ^ k * 2 * m + 2 ^ k = 2 ^ k * (2 * m + 1) by grind, Nat.mul_div_cancel_left _ (Nat.two_pow_pos k)]
 have hml : 2 * m + 1 < 18446744073709551616 := by
  rw [← hodd]
  exact Nat.lt_of_le_of_lt (Nat.div_le_self _ _) (by omega)
 have k1 : ((Co x : Int) / 2 ^ k) = ((2 * m + 1 : Nat) : Int) := by rw [← hodd, Int.natCast_ediv, Int.natCast_pow]; rfl
 have C5 := Lh (fun W => (O1 (2 * m + 1) hml W).mono fun _ _ y => y.told (n := (wds (2 * m + 1)).length) (by rw [Dr _ hml]))
 rw [Dr _ hml] at C5
 have hp1 : -1074 ≤ Hj x ∧ Hj x ≤ 971 := by unfold Hj; split <;> omega
 have k2 : IntKind.i64.wrap (Hj x + (k : Nat)) = Hj x + (k : Nat) := IntWalk.i64_in _ (by omega)
 have HKM := Lh hkm
 obtain ⟨W0, hW0⟩ : ∃ v, Co x = v := ⟨_, rfl⟩
 obtain ⟨p, hp⟩ : ∃ p, Hj x = p := ⟨_, rfl⟩
 have HP := Lh hp
 obtain ⟨o, ho⟩ : ∃ o, 2 * m + 1 = o := ⟨_, rfl⟩
 have HO := Lh ho
 rw [hW0] at C3 C4 k1
 rw [hp] at C3 k2
 rw [ho] at C5 k1
 have hk1 : (k : Int) < 53 := by omega
 have hk0 : (0 : Int) ≤ (k : Int) := by omega
 clear hx hb h0 ht g1 g2 g3 g4 g5 g6 f1 f2 hkm hodd hml hp1 hW0 hp ho hk64
 go_enter Tryz.func145, Tryz.ntmps145
 go_wp2_with fail
 refine Sm (C1.out _) ?_
 go_wp2_with fail
 refine Sm (C2.out _) ?_
 go_wp2_with fail
 refine C3.out.mono ?_
 rintro e w' ⟨rfl, rfl⟩
 go_wp2_with fail
 refine C4.out.mono ?_
 rintro e w' ⟨rfl, rfl⟩
 go_wp2_with fail
 refine (C5.out _).mono ?_
 rintro e w2 ⟨A2, c2, rfl, ⟨hc2, r2⟩, b2⟩
 have HF := Lh (show PartsP x w (.returned (.tuple #[.slice A2 (wds o).length c2, .int .i64 (p + (k : Nat)), .int .i64 0])) w2 from
  ⟨k, m, A2, _, c2, HKM.out, by rw [HP.out], ⟨by rw [HO.out], hc2, by rw [HO.out]; exact r2⟩, b2⟩)
 clear hc2 r2 b2 C5
 go_wp2
 refine bodyPost_ret (Fd rfl _ _ _) rfl ?_
 exact HF.out
theorem Rn (x : Nat) (hx : x < 18446744073709551616) : bits BinOp.and IntKind.u64 (x : Int) 1 = ((x % 2 : Nat) : Int) := by
 show IntKind.u64.wrap ((BitVec.ofInt 64 (x : Int) &&& BitVec.ofInt 64 1).toNat : Int) = _
 have e1 : (BitVec.ofInt 64 (x : Int)) = BitVec.ofNat 64 x := by rw [BitVec.ofInt_natCast]
 have e2 : (BitVec.ofInt 64 1) = BitVec.ofNat 64 (2 ^ 1 - 1) := by decide
 rw [e1, e2, BitVec.toNat_and, BitVec.toNat_ofNat, BitVec.toNat_ofNat, Nat.mod_eq_of_lt (by omega : x < 2 ^ 64), Nat.mod_eq_of_lt (by omega : 2 ^ 1 - 1 < 2 ^ 64), Nat.and_two_pow_sub_one_eq_mod, IntKind.wrap_u64]
 omega
def hlv (k m j : Nat) : Nat := 2 ^ (k - j + 1) * m + 2 ^ (k - j)
theorem Vv {k m j : Nat} (h : j < k) : hlv k m j % 2 = 0 ∧ hlv k m j / 2 = hlv k m (j + 1) := by
 obtain ⟨i, hi⟩ : ∃ i, k - j = i + 1 := ⟨k - j - 1, by omega⟩
 unfold hlv
 rw [hi, show k - (j + 1) = i by omega, Nat.pow_succ 2 (i + 1), Nat.pow_succ 2 i]
 have e : 2 ^ i * 2 * 2 * m + 2 ^ i * 2 = 2 * (2 ^ i * 2 * m + 2 ^ i) := by grind
 rw [e]
 omega
theorem Ol {k m : Nat} : hlv k m k % 2 = 1 ∧ hlv k m k = 2 * m + 1 := by
 unfold hlv
 rw [Nat.sub_self]
 omega
theorem Aki {k m j : Nat} (h : j ≤ k) : hlv k m j ≤ hlv k m 0 := by
 unfold hlv
 have h1 : 2 ^ (k - j) ≤ 2 ^ (k - 0) := Nat.pow_le_pow_right (by omega) (by omega)
 have h2 : 2 ^ (k - j + 1) ≤ 2 ^ (k - 0 + 1) := Nat.pow_le_pow_right (by omega) (by omega)
 exact Nat.add_le_add (Nat.mul_le_mul_right _ h2) h1
theorem Agb (x : Nat) (w : World) (hx : x < 18446744073709551616) (hb : Yl x = false) (h0 : 0 < Ba x) : Cp 208 #[.float .f64 x] w (PartsP x w) := by
 obtain ⟨g1, g2, g3⟩ := Ahl hx hb
 obtain ⟨_, g4, g5, g6⟩ := g3.resolve_left (by omega)
 rw [g4] at h0
 obtain ⟨f1, f2⟩ := Ge h0
 obtain ⟨k, m, hkm⟩ := J6 _ f1
 have C1 := Lh (fun W => By x W)
 have C2 := Lh (fun W => Dv x W hx)
 have h1 := Iu x
 have h2 := Fj x
 rw [g1, g6] at h1
 rw [decide_eq_false (show ¬ Ba x = 0 by omega)] at h2
 rw [g1] at C1
 rw [g2] at C2
 simp only [Bool.not_false, Bool.true_and, Bool.false_and] at h1
 have hk64 : k < 53 := by
  have : 2 ^ k < 2 ^ 53 := by
   have h9 : 2 ^ k ≤ Co x := by rw [hkm]; exact Nat.le_add_left _ _
   exact Nat.lt_of_le_of_lt h9 f2
  exact (Nat.pow_lt_pow_iff_right (a := 2) (by omega)).1 this
 have hh0 : hlv k m 0 = Co x := by unfold hlv; rw [Nat.sub_zero, hkm]
 have hml : 2 * m + 1 < 18446744073709551616 := by
  have h3 := Aki (m := m) (Nat.le_refl k)
  rw [Ol.2, hh0] at h3
  omega
 have C5 := Lh (fun W => (Acl (2 * m + 1) hml W).mono fun _ _ y => y.told (n := (wds (2 * m + 1)).length) (by rw [Dr _ hml]))
 rw [Dr _ hml] at C5
 have hp1 : -1074 ≤ Hj x ∧ Hj x ≤ 971 := by unfold Hj; split <;> omega
 have HKM := Lh hkm
 have HLT := Lh (fun j (hj : j ≤ k) => show hlv k m j < 9007199254740992 from by
  have h3 := Aki (m := m) hj
  rw [hh0] at h3
  omega)
 have hbits := Bq x w
 have hand := Vl x (by omega)
 have hor := Sh (x % 4503599627370496) (Nat.mod_lt _ (by omega))
 obtain ⟨o, ho⟩ : ∃ o, 2 * m + 1 = o := ⟨_, rfl⟩
 have HO := Lh ho
 rw [ho] at C5
 obtain ⟨q, hq⟩ : ∃ q, x / 4503599627370496 = q := ⟨_, rfl⟩
 obtain ⟨t, ht⟩ : ∃ t, x % 4503599627370496 = t := ⟨_, rfl⟩
 rw [ht] at hand hor
 have hw0 : Co x = if q = 0 then t else t + 4503599627370496 := by unfold Co; rw [hq, ht]
 have hpw : Hj x = if q = 0 then -1074 else (q : Int) - 1075 := by unfold Hj; rw [hq]
 have k1 : (x : Int) / 4503599627370496 = (q : Int) := by omega
 have k2 : IntKind.i64.wrap (q : Int) = (q : Int) := IntWalk.i64_in _ (by omega)
 have k3 : IntKind.i64.wrap ((q : Int) - 1075) = (q : Int) - 1075 := IntWalk.i64_in _ (by omega)
 have hk1 : (k : Int) < 53 := by omega
 rw [← hh0] at hw0
 obtain ⟨p, hp⟩ : ∃ p, Hj x = p := ⟨_, rfl⟩
 have HP := Lh hp
 rw [hp] at hpw hp1
 have HW0 := Lh hw0
 have HPW := Lh hpw
 clear hx hb h0 g1 g2 g3 g4 g5 g6 f1 f2 hkm hh0 hml ho hq ht hw0 hpw hp hk64
 by_cases hq0 : q = 0
 ·have b0 : ((q : Int) == 0) = true := by rw [hq0]; rfl
  have hw0 := HW0.out
  have hpw := HPW.out
  rw [if_pos hq0] at hw0 hpw
  have HA := Lh hw0
  have HB := Lh hpw
  clear hq0 hw0 hpw
  go_enter Tryz.func208, Tryz.ntmps208
  go_wp2_with fail
  refine Sm (C1.out _) ?_
  go_wp2_with fail
  refine Sm (C2.out _) ?_
  go_wp2
  go_loopw [6, 7] (fun mv ev wr => ∃ (j y : Nat), mv = .int .u64 (y : Nat) ∧ ev = .int .i64 (p + (j : Nat)) ∧ j ≤ k ∧ Hid (hlv k m j = y) ∧ w = wr) (fun _ ev _ => (p + k - intOf ev).toNat)
  case atStart => exact ⟨0, t, rfl, by rw [HB.out]; rfl, Nat.zero_le _, Lh HA.out, rfl⟩
  case round =>
   obtain ⟨j, y, rfl, rfl, hj, HY, rfl⟩ := hrel
   have hy64 : y < 9007199254740992 := by rw [← HY.out]; exact HLT.out j hj
   have hone := Rn y (by omega)
   by_cases hjk : j < k
   ·obtain ⟨n1, n2⟩ := Vv (m := m) hjk
    rw [HY.out] at n1 n2
    rw [n1] at hone
    obtain ⟨z, hz⟩ : ∃ z, hlv k m (j + 1) = z := ⟨_, rfl⟩
    rw [hz] at n2
    have HZ := Lh hz
    have k4 : (y : Int) / 2 = (z : Int) := by omega
    have k5 : IntKind.i64.wrap (p + (j : Nat) + 1) = p + ((j + 1 : Nat) : Int) := by rw [IntWalk.i64_in _ (by omega)]; omega
    have HJ := Lh hjk
    have HP1 := Lh hp1
    clear hy64 n1 n2 hz hj hjk C5
    go_wp2
    go_roundw
    case rel => exact ⟨j + 1, z, rfl, by go_num, HJ.out, HZ, trivial⟩
    case measure => have := HJ.out; simp [intOf]; omega
   ·have hjk2 : j = k := by omega
    subst hjk2
    obtain ⟨n1, n2⟩ := Ol (k := j) (m := m)
    rw [HY.out] at n1 n2
    rw [n1] at hone
    have hyo : y = o := by rw [n2]; exact HO.out
    subst hyo
    clear hy64 n1 n2 hj hjk hp1 hk1
    go_wp2_with fail
    refine (C5.out _).mono ?_
    rintro e w2 ⟨A2, c2, rfl, ⟨hc2, r2⟩, b2⟩
    have HF := Lh (show PartsP x w (.returned (.tuple #[.slice A2 (wds y).length c2, .int .i64 (p + (j : Nat)), .int .i64 0])) w2 from
     ⟨j, m, A2, _, c2, HKM.out, by rw [HP.out], ⟨by rw [HO.out], hc2, by rw [HO.out]; exact r2⟩, b2⟩)
    clear hc2 r2 b2 C5
    go_wp2
    refine bodyPost_ret (Fd rfl _ _ _) rfl ?_
    exact HF.out
 ·have b0 : ((q : Int) == 0) = false := by rw [beq_eq_false_iff_ne]; omega
  have hw0 := HW0.out
  have hpw := HPW.out
  rw [if_neg hq0] at hw0 hpw
  have HA := Lh hw0
  have HB := Lh hpw
  clear hq0 hw0 hpw
  go_enter Tryz.func208, Tryz.ntmps208
  go_wp2_with fail
  refine Sm (C1.out _) ?_
  go_wp2_with fail
  refine Sm (C2.out _) ?_
  go_wp2
  go_loopw [6, 7] (fun mv ev wr => ∃ (j y : Nat), mv = .int .u64 (y : Nat) ∧ ev = .int .i64 (p + (j : Nat)) ∧ j ≤ k ∧ Hid (hlv k m j = y) ∧ w = wr) (fun _ ev _ => (p + k - intOf ev).toNat)
  case atStart => exact ⟨0, t + 4503599627370496, rfl, by rw [HB.out]; simp, Nat.zero_le _, Lh HA.out, rfl⟩
  case round =>
   obtain ⟨j, y, rfl, rfl, hj, HY, rfl⟩ := hrel
   have hy64 : y < 9007199254740992 := by rw [← HY.out]; exact HLT.out j hj
   have hone := Rn y (by omega)
   by_cases hjk : j < k
   ·obtain ⟨n1, n2⟩ := Vv (m := m) hjk
    rw [HY.out] at n1 n2
    rw [n1] at hone
    obtain ⟨z, hz⟩ : ∃ z, hlv k m (j + 1) = z := ⟨_, rfl⟩
    rw [hz] at n2
    have HZ := Lh hz
    have k4 : (y : Int) / 2 = (z : Int) := by omega
    have k5 : IntKind.i64.wrap (p + (j : Nat) + 1) = p + ((j + 1 : Nat) : Int) := by rw [IntWalk.i64_in _ (by omega)]; omega
    have HJ := Lh hjk
    have HP1 := Lh hp1
    clear hy64 n1 n2 hz hj hjk C5
    go_wp2
    go_roundw
    case rel => exact ⟨j + 1, z, rfl, by go_num, HJ.out, HZ, trivial⟩
    case measure => have := HJ.out; simp [intOf]; omega
   ·have hjk2 : j = k := by omega
    subst hjk2
    obtain ⟨n1, n2⟩ := Ol (k := j) (m := m)
    rw [HY.out] at n1 n2
    rw [n1] at hone
    have hyo : y = o := by rw [n2]; exact HO.out
    subst hyo
    clear hy64 n1 n2 hj hjk hp1 hk1
    go_wp2_with fail
    refine (C5.out _).mono ?_
    rintro e w2 ⟨A2, c2, rfl, ⟨hc2, r2⟩, b2⟩
    have HF := Lh (show PartsP x w (.returned (.tuple #[.slice A2 (wds y).length c2, .int .i64 (p + (j : Nat)), .int .i64 0])) w2 from
     ⟨j, m, A2, _, c2, HKM.out, by rw [HP.out], ⟨by rw [HO.out], hc2, by rw [HO.out]; exact r2⟩, b2⟩)
    clear hc2 r2 b2 C5
    go_wp2
    refine bodyPost_ret (Fd rfl _ _ _) rfl ?_
    exact HF.out
def stk (N b : Nat) : Nat := if N % 2 ^ b = 0 then N / 2 ^ b else N / 2 ^ b / 2 * 2 + 1
theorem Amv (N b : Nat) : evn (stk N b) 11 = evn N (11 + b) := by
 have hP := Nat.two_pow_pos b
 have hr := Nat.mod_lt N hP
 have hN := Nat.div_add_mod N (2 ^ b)
 have hp : 2 ^ (11 + b) = 2048 * 2 ^ b := by rw [Nat.pow_add]
 have hdiv : N / 2 ^ (11 + b) = N / 2 ^ b / 2048 := by rw [hp, Nat.mul_comm, ← Nat.div_div_eq_div_mul]
 have hmod : N % 2 ^ (11 + b) = N / 2 ^ b % 2048 * 2 ^ b + N % 2 ^ b := by
  rw [hp, Nat.mul_comm 2048, Nat.mod_mul, Nat.mul_comm, Nat.add_comm]
 unfold evn stk
 rw [hdiv, hmod, hp]
 rw [show (2 : Nat) ^ 11 = 2048 from rfl]
 generalize 2 ^ b = P at *
 generalize N / P = H at *
 generalize N % P = r at *
 clear hN hdiv hmod hp
 have hh : H % 2048 < 2048 := Nat.mod_lt _ (by omega)
 have hW : (if r = 0 then H else H / 2 * 2 + 1) / 2048 = H / 2048 := by split <;> omega
 rw [hW]
 rcases Nat.lt_trichotomy (H % 2048) 1024 with h1 | h1 | h1
 ·have h2 : (H % 2048 + 1) * P ≤ 1024 * P := Nat.mul_le_mul_right _ (by omega)
  rw [Nat.add_mul, Nat.one_mul] at h2
  have h3 : (if r = 0 then H else H / 2 * 2 + 1) % 2048 < 1024 := by split <;> omega
  rw [decide_eq_false (show ¬ 2048 < 2 * ((if r = 0 then H else H / 2 * 2 + 1) % 2048) by omega), decide_eq_false (show ¬ 2048 = 2 * ((if r = 0 then H else H / 2 * 2 + 1) % 2048) by omega)]
  rw [decide_eq_false (show ¬ 2048 * P < 2 * (H % 2048 * P + r) by omega), decide_eq_false (show ¬ 2048 * P = 2 * (H % 2048 * P + r) by omega)]
 ·rw [h1]
  by_cases h0 : r = 0
  ·subst h0
   rw [if_pos rfl, h1]
   rw [decide_eq_false (show ¬ 2048 < 2 * 1024 by omega), decide_eq_true (show 2048 = 2 * 1024 by omega), decide_eq_false (show ¬ 2048 * P < 2 * (1024 * P + 0) by omega), decide_eq_true (show 2048 * P = 2 * (1024 * P + 0) by omega)]
  ·rw [if_neg h0, decide_eq_true (show 2048 < 2 * ((H / 2 * 2 + 1) % 2048) by omega), decide_eq_true (show 2048 * P < 2 * (1024 * P + r) by omega)]
   rfl
 ·have h2 : 1025 * P ≤ H % 2048 * P := Nat.mul_le_mul_right _ (by omega)
  have h3 : 1024 < (if r = 0 then H else H / 2 * 2 + 1) % 2048 := by split <;> omega
  rw [decide_eq_true (show 2048 < 2 * ((if r = 0 then H else H / 2 * 2 + 1) % 2048) by omega), decide_eq_true (show 2048 * P < 2 * (H % 2048 * P + r) by omega)]
  rfl
def scl (x b : Nat) : Nat := if x / 4503599627370496 + b < 2047 then x + b * 4503599627370496 else 9218868437227405312
theorem Il {N L : Nat} (h1 : 2 ^ L ≤ N) (h2 : N < 2 ^ (L + 1)) (hL : 52 ≤ L) : 4503599627370496 ≤ evn N (L - 52) ∧ evn N (L - 52) ≤ 9007199254740992 := by
 have e1 : 4503599627370496 ≤ N / 2 ^ (L - 52) := by
  rw [Nat.le_div_iff_mul_le (Nat.two_pow_pos _), show 4503599627370496 = 2 ^ 52 from rfl, ← Nat.pow_add, show 52 + (L - 52) = L by omega]
  exact h1
 have e2 : N / 2 ^ (L - 52) < 9007199254740992 := by
  rw [Nat.div_lt_iff_lt_mul (Nat.two_pow_pos _), show 9007199254740992 = 2 ^ 53 from rfl, ← Nat.pow_add, show 53 + (L - 52) = L + 1 by omega]
  exact h2
 unfold evn
 have : ∀ c : Bool, c.toNat ≤ 1 := by decide
 have := this (decide (2 ^ (L - 52) < 2 * (N % 2 ^ (L - 52))) || (decide (2 ^ (L - 52) = 2 * (N % 2 ^ (L - 52))) && decide (N / 2 ^ (L - 52) % 2 = 1)))
 omega
theorem Rx {N b : Nat} (h1 : 2 ^ (63 + b) ≤ N) (h2 : N < 2 ^ (63 + b + 1)) : 2 ^ 63 ≤ stk N b ∧ stk N b < 2 ^ 64 := by
 have e1 : 2 ^ 63 ≤ N / 2 ^ b := by
  rw [Nat.le_div_iff_mul_le (Nat.two_pow_pos _), ← Nat.pow_add]
  exact h1
 have e2 : N / 2 ^ b < 2 ^ 64 := by
  rw [Nat.div_lt_iff_lt_mul (Nat.two_pow_pos _), ← Nat.pow_add, show 64 + b = 63 + b + 1 by omega]
  exact h2
 unfold stk
 rw [show (2 : Nat) ^ 63 = 9223372036854775808 from rfl] at *
 rw [show (2 : Nat) ^ 64 = 18446744073709551616 from rfl] at *
 split <;> omega
theorem Apo {N b : Nat} (h1 : 2 ^ (63 + b) ≤ N) (h2 : N < 2 ^ (63 + b + 1)) : fl N = scl (fl (stk N b)) b := by
 obtain ⟨s1, s2⟩ := Rx h1 h2
 have f1 := No h1 h2 (by omega)
 have f2 := No s1 s2 (by omega)
 obtain ⟨r1, r2⟩ := Il s1 s2 (by omega)
 rw [show 63 + b - 52 = 11 + b by omega] at f1
 rw [show 63 - 52 = 11 from rfl, Amv] at f2 r1 r2
 rw [f1, f2]
 generalize evn N (11 + b) = v at *
 clear f1 f2 h1 h2 s1 s2
 unfold scl
 split <;> omega
theorem Aou {N : Nat} (K : Nat) (hK : K = 1024) (h : 2 ^ K ≤ N) : fl N = 9218868437227405312 := by
 have h0 : 0 < N := Nat.lt_of_lt_of_le (Nat.two_pow_pos K) h
 obtain ⟨a1, a2⟩ := Dd N h0
 have hL : 1024 ≤ N.log2 := by
  have : 2 ^ K < 2 ^ (N.log2 + 1) := Nat.lt_of_le_of_lt h a2
  have := (Nat.pow_lt_pow_iff_right (a := 2) (by omega)).1 this
  omega
 obtain ⟨r1, r2⟩ := Il a1 a2 (by omega)
 rw [No a1 a2 (by omega)]
 generalize N.log2 = L at *
 omega
theorem Aj0 {X : Nat} (h : X < 9218868437227405312) : scl X 0 = X := by
 unfold scl
 split <;> omega
theorem one_mul {y : Nat} (h1 : 4503599627370496 ≤ y) (h2 : y < 9218868437227405312) : Ieee.double.mul 4607182418800017408 y = some y := by
 have e1 : Ieee.double.signWeight = 9223372036854775808 := by decide
 have e2 : Ieee.double.binade = 4503599627370496 := by decide
 have e3 : Ieee.double.infRung = 9218868437227405312 := by decide
 have e4 : Ieee.double.leastPlace = -1074 := by decide
 have e5 : Ieee.double.fractionBits = 52 := rfl
 have r1 : Ieee.double.read 4607182418800017408 = .number false 4503599627370496 (-52) := by decide
 have r2 : Ieee.double.read y = .number false (4503599627370496 + y % 4503599627370496) (-1074 + ((y / 4503599627370496 - 1 : Nat) : Int)) := by
  unfold Ieee.Format.read
  rw [e1, e2, e3, e4]
  have q1 : y % 9223372036854775808 = y := Nat.mod_eq_of_lt (by omega)
  have q2 : y / 9223372036854775808 % 2 = 0 := by omega
  simp only [q1, q2]
  rw [if_neg (by omega), if_pos h2]
  rfl
 unfold Ieee.Format.mul
 rw [r1, r2]
 show some (Ieee.double.nearest false (4503599627370496 * (4503599627370496 + y % 4503599627370496)) (-52 + (-1074 + ((y / 4503599627370496 - 1 : Nat) : Int)))) = _
 have ht : y % 4503599627370496 < 4503599627370496 := Nat.mod_lt _ (by omega)
 have hq : y / 4503599627370496 < 2047 := by omega
 have hy := Nat.div_add_mod y 4503599627370496
 have hq1 : 1 ≤ y / 4503599627370496 := by omega
 generalize y % 4503599627370496 = t at *
 generalize y / 4503599627370496 = q at *
 have hlog : (4503599627370496 * (4503599627370496 + t)).log2 = 104 := by
  refine Jx ?_ ?_
  ·rw [show (2 : Nat) ^ 104 = 4503599627370496 * 4503599627370496 from rfl]; omega
  ·rw [show (2 : Nat) ^ (104 + 1) = 4503599627370496 * 9007199254740992 from rfl]; omega
 unfold Ieee.Format.nearest
 rw [if_neg (by omega), e2, e3, e4, e5, hlog]
 have e6 : max (-52 + (-1074 + ((q - 1 : Nat) : Int)) + ((104 : Nat) : Int) - ((52 : Nat) : Int)) (-1074) = (q : Int) - 1075 := by omega
 rw [e6]
 dsimp only
 have q1 : (-52 + (-1074 + ((q - 1 : Nat) : Int)) - ((q : Int) - 1075)).toNat = 0 := by omega
 have q2 : ((q : Int) - 1075 - (-52 + (-1074 + ((q - 1 : Nat) : Int)))).toNat = 52 := by omega
 have q3 : ((q : Int) - 1075 - -1074).toNat = q - 1 := by omega
 rw [q1, q2, q3, Nat.shiftLeft_zero, Fb _ _ (by rw [hlog]; omega), Nat.mul_comm 4503599627370496]
 have hev := Er (4503599627370496 + t) 52
 rw [show (2 : Nat) ^ 52 = 4503599627370496 from rfl] at hev
 rw [hev, Ke, Nat.min_eq_left (by omega)]
 exact congrArg some (by omega)
theorem Ez {x : Nat} (h : x < 9223372036854775808) : Ba x = x ∧ Ca x = false ∧ E1 x = (x : Int) := by
 have h1 : Ba x = x := Nat.mod_eq_of_lt h
 have h2 : Ca x = false := by unfold Ca; rw [Nat.div_eq_of_lt h]; rfl
 refine ⟨h1, h2, ?_⟩
 unfold E1
 rw [h1, h2]
 rfl
theorem Adv {x y : Nat} (hx : x ≤ 9218868437227405312) (hy : y ≤ 9218868437227405312) : (FloatKind.f64.format.order x y == some .lt) = decide (x < y) := by
 show (Ieee.double.order x y == some .lt) = _
 obtain ⟨a1, _, a3⟩ := Ez (x := x) (by omega)
 obtain ⟨b1, _, b3⟩ := Ez (x := y) (by omega)
 rw [Ex (by omega) (by omega), Alo, a3, b3]
 simp
theorem Dy (w : World) : Cq 79 #[.int .i64 1] (.float .f64 9218868437227405312) w := by
 have h2 : (callFunc 69 #[.int .u64 9218868437227405312]).run Tryz.prog w = .ok (.value (.float .f64 9218868437227405312)) w := Bx 9218868437227405312 w
 go_enter Tryz.func79, Tryz.ntmps79
 go_wp2
 go_ret
 exact ⟨by rfl, rfl⟩
theorem Gw (x : Nat) (w : World) (h1 : 4503599627370496 ≤ x) (h2 : x < 9218868437227405312) : Cq 242 #[.float .f64 x] (.tuple #[.float .f64 x, .int .i64 0]) w := by
 have C1 := Lh (fun W => Ni x W (by omega))
 rw [(Ez (x := x) (by omega)).1] at C1
 have h := Adv (x := x) (y := 4503599627370496) (by omega) (by omega)
 rw [decide_eq_false (by omega)] at h
 clear h1 h2
 go_enter Tryz.func242, Tryz.ntmps242
 go_wp2_with fail
 refine Sm (C1.out _) ?_
 go_wp2
 go_ret2
 exact ⟨rfl, rfl⟩
theorem An8 {x : Nat} (hx : x < 9223372036854775808) : x &&& 2 ^ 63 = 0 := by
 apply Nat.eq_of_testBit_eq
 intro i
 rw [Nat.testBit_and, Nat.testBit_two_pow, Nat.zero_testBit]
 by_cases h : 63 = i
 ·subst h
  rw [Nat.testBit_lt_two_pow (show x < 2 ^ 63 from hx)]; rfl
 ·rw [decide_eq_false h, Bool.and_false]
theorem Kn (x : Nat) (hx : x < 9223372036854775808) : bits BinOp.andNot IntKind.u64 (x : Int) 9218868437227405312 = ((x % 4503599627370496 : Nat) : Int) := by
 show IntKind.u64.wrap ((BitVec.ofInt 64 (x : Int) &&& ~~~ BitVec.ofInt 64 9218868437227405312).toNat : Int) = _
 have e1 : (BitVec.ofInt 64 (x : Int)) = BitVec.ofNat 64 x := by rw [BitVec.ofInt_natCast]
 have e2 : (~~~ BitVec.ofInt 64 9218868437227405312) = BitVec.ofNat 64 (2 ^ 63 ||| (2 ^ 52 - 1)) := by decide
 rw [e1, e2, BitVec.toNat_and, BitVec.toNat_ofNat, BitVec.toNat_ofNat, Nat.mod_eq_of_lt (by omega : x < 2 ^ 64), Nat.mod_eq_of_lt (by decide : 2 ^ 63 ||| (2 ^ 52 - 1) < 2 ^ 64), Nat.and_or_distrib_left, Nat.and_two_pow_sub_one_eq_mod, An8 hx, Nat.zero_or, IntKind.wrap_u64]
 omega
theorem H6 (q : Nat) (hq : q < 2048) : bits BinOp.and IntKind.i64 (q : Int) 2047 = (q : Int) := by
 show IntKind.i64.wrap ((BitVec.ofInt 64 (q : Int) &&& BitVec.ofInt 64 2047).toNat : Int) = _
 have e1 : (BitVec.ofInt 64 (q : Int)) = BitVec.ofNat 64 q := by rw [BitVec.ofInt_natCast]
 have e2 : (BitVec.ofInt 64 2047) = BitVec.ofNat 64 (2 ^ 11 - 1) := by decide
 rw [e1, e2, BitVec.toNat_and, BitVec.toNat_ofNat, BitVec.toNat_ofNat, Nat.mod_eq_of_lt (by omega : q < 2 ^ 64), Nat.mod_eq_of_lt (by omega : 2 ^ 11 - 1 < 2 ^ 64), Nat.and_two_pow_sub_one_eq_mod, Nat.mod_eq_of_lt hq, IntWalk.i64_in _ (by omega)]
theorem Ny (t q : Nat) (ht : t < 4503599627370496) (hq : q < 2048) : bits BinOp.or IntKind.u64 (t : Int) ((q * 4503599627370496 : Nat) : Int) = ((t + q * 4503599627370496 : Nat) : Int) := by
 rw [E8 t (q * 4503599627370496) (by omega) (by omega)]
 have := Nat.two_pow_add_eq_or_of_lt (i := 52) (b := t) ht q
 rw [Nat.or_comm, show q * 4503599627370496 = 2 ^ 52 * q by rw [Nat.mul_comm], ← this, Nat.add_comm]
theorem Nu (b : Int) (w : World) : Cq 179 #[.float .f64 0, .int .i64 b] (.float .f64 0) w := by
 have h : (FloatKind.f64.format.order 0 0 == some .eq) = true := by decide
 have C : Cq 224 #[.float .f64 0, .int .i64 b] (.float .f64 0) w := by
  go_enter Tryz.func224, Tryz.ntmps224
  go_wp2
  go_ret
  exact ⟨rfl, rfl⟩
 have C := Lh C
 clear h
 go_enter Tryz.func179, Tryz.ntmps179
 go_wp2_with fail
 refine C.out.mono ?_
 rintro e w' ⟨rfl, rfl⟩
 go_wp2
 go_ret
 exact ⟨rfl, rfl⟩
theorem Ow (x b : Nat) (w : World) (h1 : 4503599627370496 ≤ x) (h2 : x < 9218868437227405312) (hb : b < 1048576) : Cq 224 #[.float .f64 x, .int .i64 b] (.float .f64 (scl x b)) w := by
 obtain ⟨p1, p2, p3⟩ := Ez (x := x) (by omega)
 have C1 := Lh (fun W => By x W)
 have C2 := Lh (fun W => Dv x W (by omega))
 rw [show Cs x = false from by unfold Cs; rw [p1]; exact decide_eq_false (by omega)] at C1
 rw [show Fa x = false from by unfold Fa; rw [p1]; exact decide_eq_false (by omega)] at C2
 have C3 := Lh (fun W => Gw x W h1 h2)
 have C4 := Lh (fun W => Dy W)
 have h3 := Fj x
 rw [p1, decide_eq_false (by omega)] at h3
 have h4 := Iu x
 rw [p2, Bool.false_and, Bool.and_false] at h4
 have h5 := Bq x w
 have h6 := Kn x (by omega)
 unfold scl
 obtain ⟨q, hq⟩ : ∃ q, x / 4503599627370496 = q := ⟨_, rfl⟩
 obtain ⟨t, ht⟩ : ∃ t, x % 4503599627370496 = t := ⟨_, rfl⟩
 rw [ht] at h6
 rw [hq]
 have h7 := H6 q (by omega)
 have k1 : (x : Int) / 4503599627370496 = (q : Int) := by omega
 have k2 : IntKind.i64.wrap (q : Int) = (q : Int) := IntWalk.i64_in _ (by omega)
 have k3 : IntKind.i64.wrap ((q : Int) - 1023) = (q : Int) - 1023 := IntWalk.i64_in _ (by omega)
 have k4 : IntKind.i64.wrap ((b : Int) + ((q : Int) - 1023)) = (b : Int) + ((q : Int) - 1023) := IntWalk.i64_in _ (by omega)
 have k5 : IntKind.i64.wrap (b : Int) = (b : Int) := IntWalk.i64_in _ (by omega)
 have t1 : decide ((b : Int) + ((q : Int) - 1023) < -1075) = false := decide_eq_false (by omega)
 by_cases hlt : q + b < 2047
 ·rw [if_pos hlt]
  have h8 := Ny t (b + q) (by omega) (by omega)
  have h9 := Bx (t + (b + q) * 4503599627370496) w
  have h10 := one_mul (y := t + (b + q) * 4503599627370496) (by omega) (by omega)
  have h11 : (binOp BinOp.mul 22 (.float .f64 4607182418800017408) (.float .f64 (t + (b + q) * 4503599627370496))).run Tryz.prog w = .ok (.float .f64 (t + (b + q) * 4503599627370496)) w := run_float_arith _ _ _ _ _ _ _ h10
  clear h10
  have t2 : decide (1023 < (b : Int) + ((q : Int) - 1023)) = false := decide_eq_false (by omega)
  have t3 : decide ((b : Int) + ((q : Int) - 1023) < -1022) = false := decide_eq_false (by omega)
  have k6 : IntKind.i64.wrap ((b : Int) + ((q : Int) - 1023) + 1023) = ((b + q : Nat) : Int) := by rw [IntWalk.i64_in _ (by omega)]; omega
  have k7 : IntKind.u64.wrap ((b + q : Nat) : Int) = ((b + q : Nat) : Int) := by rw [IntKind.wrap_u64]; omega
  have hx : x + b * 4503599627370496 = t + (b + q) * 4503599627370496 := by omega
  rw [hx]
  obtain ⟨y, hy⟩ : ∃ y, t + (b + q) * 4503599627370496 = y := ⟨_, rfl⟩
  obtain ⟨z, hz⟩ : ∃ z, b + q = z := ⟨_, rfl⟩
  rw [hy] at h8 h9 h11 ⊢
  rw [hz] at h8 k6 k7
  have k8 : IntKind.u64.wrap ((z : Int) * 4503599627370496) = ((z * 4503599627370496 : Nat) : Int) := by rw [IntKind.wrap_u64]; omega
  rw [← k8] at h8
  clear k8
  clear h1 h2 hb p1 p2 p3 hq ht hlt hx hy hz
  go_enter Tryz.func224, Tryz.ntmps224
  go_wp2_with fail
  refine Sm (C2.out _) ?_
  go_wp2_with fail
  refine Sm (C1.out _) ?_
  go_wp2_with fail
  refine Sm (C3.out _) ?_
  go_wp2
  go_ret
  exact ⟨rfl, rfl⟩
 ·rw [if_neg hlt]
  have t2 : decide (1023 < (b : Int) + ((q : Int) - 1023)) = true := decide_eq_true (by omega)
  clear h1 h2 hb p1 p2 p3 hq ht hlt h6
  go_enter Tryz.func224, Tryz.ntmps224
  go_wp2_with fail
  refine Sm (C2.out _) ?_
  go_wp2_with fail
  refine Sm (C1.out _) ?_
  go_wp2_with fail
  refine Sm (C3.out _) ?_
  go_wp2_with fail
  refine Sm (C4.out _) ?_
  go_wp2
  go_ret
  exact ⟨rfl, rfl⟩
theorem Lu (x b : Nat) (w : World) (h1 : 4503599627370496 ≤ x) (h2 : x < 9218868437227405312) (hb : b < 1048576) : Cq 179 #[.float .f64 x, .int .i64 b] (.float .f64 (scl x b)) w := by
 have C := Lh (Ow x b w h1 h2 hb)
 clear h1 h2 hb
 go_enter Tryz.func179, Tryz.ntmps179
 go_wp2_with fail
 refine C.out.mono ?_
 rintro e w' ⟨rfl, rfl⟩
 go_wp2
 go_ret
 exact ⟨rfl, rfl⟩
theorem Cu {l : List Nat} (h : Ws l) : l.getD 0 0 = val l % 4294967296 := by
 cases l with
 | nil => rfl
 | cons a r =>
  have := h.getD 0
  simp only [List.getD_cons_zero] at this ⊢
  simp only [val]
  omega
theorem F0 {l : List Nat} (h : Ws l) : l.getD 1 0 = val l / 4294967296 % 4294967296 := by
 cases l with
 | nil => rfl
 | cons a r =>
  have h0 := h.getD 0
  have h1 := Cu (l := r) (fun x hx => h x (List.mem_cons_of_mem _ hx))
  simp only [List.getD_cons_zero] at h0
  simp only [List.getD_cons_succ, val]
  omega
theorem Ab8 {N : Nat} (h : 0 < N) (hN : N < 2 ^ 65) : 4503599627370496 ≤ fl N ∧ fl N < 9218868437227405312 := by
 obtain ⟨a1, a2⟩ := Dd N h
 have hL : N.log2 < 65 := by
  have : 2 ^ N.log2 < 2 ^ 65 := Nat.lt_of_le_of_lt a1 hN
  exact (Nat.pow_lt_pow_iff_right (a := 2) (by omega)).1 this
 rcases Nat.lt_or_ge N.log2 52 with h1 | h1
 ·rw [Oe a1 a2 (by omega)]
  have h3 : N * 2 ^ (52 - N.log2) < 9007199254740992 := by
   have : N * 2 ^ (52 - N.log2) < 2 ^ (N.log2 + 1) * 2 ^ (52 - N.log2) := Nat.mul_lt_mul_of_pos_right a2 (Nat.two_pow_pos _)
   rw [← Nat.pow_add, show N.log2 + 1 + (52 - N.log2) = 53 by omega] at this
   exact this
  omega
 ·obtain ⟨r1, r2⟩ := Il a1 a2 h1
  rw [No a1 a2 h1]
  omega
theorem Aj5 {v n : Nat} (h1 : 2 ^ (n - 1) ≤ v) (h2 : v < 2 ^ n) (h0 : 0 < n) : stk v (n - 64) < 18446744073709551616 ∧ 0 < stk v (n - 64) ∧ fl v = scl (fl (stk v (n - 64))) (n - 64) := by
 rcases Nat.lt_or_ge 64 n with h | h
 ·obtain ⟨b, rfl⟩ : ∃ b, n = 64 + b := ⟨n - 64, by omega⟩
  have a1 : 2 ^ (63 + b) ≤ v := by rw [show 63 + b = 64 + b - 1 by omega]; exact h1
  have a2 : v < 2 ^ (63 + b + 1) := by rw [show 63 + b + 1 = 64 + b by omega]; exact h2
  rw [Nat.add_sub_cancel_left]
  obtain ⟨s1, s2⟩ := Rx a1 a2
  have := Nat.two_pow_pos 63
  exact ⟨s2, by omega, Apo a1 a2⟩
 ·rw [show n - 64 = 0 by omega]
  have e : stk v 0 = v := by unfold stk; rw [Nat.pow_zero, Nat.mod_one, if_pos rfl, Nat.div_one]
  have hv : v < 2 ^ 64 := Nat.lt_of_lt_of_le h2 (Nat.pow_le_pow_right (by omega) h)
  have hp := Nat.two_pow_pos (n - 1)
  have hf := Ab8 (N := v) (by omega) (Nat.lt_of_lt_of_le hv (by decide))
  rw [e, Aj0 hf.2]
  exact ⟨hv, by omega, rfl⟩
theorem Ai0 (x : Nat) (hx : x < 18446744073709551616) : bits BinOp.or IntKind.u64 (x : Int) 1 = ((x / 2 * 2 + 1 : Nat) : Int) := by
 have h := E8 x 1 hx (by omega)
 rw [show ((1 : Nat) : Int) = 1 from rfl] at h
 rw [h]
 have e : x ||| 1 = x / 2 * 2 + 1 := by
  have h1 : x = 2 * (x / 2) + x % 2 := by omega
  have h2 := Nat.two_pow_add_eq_or_of_lt (i := 1) (b := 1) (by omega) (x / 2)
  rcases Nat.mod_two_eq_zero_or_one x with h3 | h3
  ·rw [h3, Nat.add_zero] at h1
   rw [Nat.pow_one] at h2
   rw [← h1] at h2
   omega
  ·have h4 := Nat.two_pow_add_eq_or_of_lt (i := 1) (b := 1) (by omega) (x / 2)
   rw [Nat.pow_one] at h4
   have h5 : x = 2 * (x / 2) ||| 1 := by rw [← h4]; omega
   rw [h5, Nat.or_assoc, Nat.or_self, ← h5]
   omega
 rw [e]
theorem Ho (y z : Nat) (hy : y < 4294967296) (hz : z < 4294967296) : bits BinOp.or IntKind.u64 (IntKind.u64.wrap ((y : Int) * 4294967296)) (z : Int) = ((z + y * 4294967296 : Nat) : Int) := by
 have e : IntKind.u64.wrap ((y : Int) * 4294967296) = ((y * 4294967296 : Nat) : Int) := by rw [IntKind.wrap_u64]; omega
 rw [e, E8 (y * 4294967296) z (by omega) (by omega)]
 have := Nat.two_pow_add_eq_or_of_lt (i := 32) (b := z) hz y
 rw [show y * 4294967296 = 2 ^ 32 * y by rw [Nat.mul_comm], ← this, Nat.add_comm]
theorem Ab9 (A : Option Addr) (n c : Nat) (l : List Nat) (w : World) (hn : l.length = n) (hc : n ≤ c) (hm : n ≤ 35184372087808) (h : RW w w.heap.size A l) (hb : 1024 < btl l) :
  Ct 131 #[.slice A n c] (.float .f64 (fl (val l))) w := by
 have C1 := Lh (Gb A n c l w.heap.size w hn hc (by omega) h)
 have C2 := Lh (fun W => Dy W)
 have h0 : nrm l ≠ [] := by intro e; unfold btl at hb; rw [if_pos e] at hb; omega
 obtain ⟨b1, b2, b3⟩ := Bl h.1 h0
 obtain ⟨K, hK⟩ : ∃ K, K = 1024 := ⟨_, rfl⟩
 have hf : fl (val l) = 9218868437227405312 := Aou K hK (Nat.le_trans (Nat.pow_le_pow_right (by omega) (by omega)) b1)
 rw [hf]
 obtain ⟨m, hm2⟩ : ∃ m, btl l = m := ⟨_, rfl⟩
 rw [hm2] at C1 hb
 have t1 : (1024 : Int) < (m : Int) := by omega
 clear hn hc hm h h0 b1 b2 b3 hK hf hm2 hb
 go_enter Tryz.func131, Tryz.ntmps131
 go_wp2_with fail
 refine C1.out.mono ?_
 rintro e w' ⟨rfl, rfl⟩
 go_wp2_with fail
 refine Sm (C2.out _) ?_
 go_wp2
 go_ret
 exact ⟨rfl, Below.refl _ _⟩
theorem Ad2 (A : Option Addr) (n c : Nat) (l : List Nat) (w : World) (hn : l.length = n) (hc : n ≤ c) (hm : n ≤ 35184372087808) (h : RW w w.heap.size A l) (hb : btl l ≤ 1024) :
  Ct 131 #[.slice A n c] (.float .f64 (fl (val l))) w := by
 have C1 := Lh (Gb A n c l w.heap.size w hn hc (by omega) h)
 have C2 := Lh (Ahn A n c ((btl l - 64 : Nat) : Int) l w hn hc hm h)
 rw [Int.toNat_natCast] at C2
 obtain ⟨v, hv⟩ : ∃ v, val l = v := ⟨_, rfl⟩
 -- what is told of the number
 have hT : stk v (btl l - 64) < 18446744073709551616 ∧ (∀ W, Cq 179 #[.float .f64 (fl (stk v (btl l - 64))), .int .i64 (btl l - 64 : Nat)] (.float .f64 (fl v)) W) := by
  by_cases h0 : nrm l = []
  ·have e1 : btl l = 0 := by unfold btl; rw [if_pos h0]
   have e2 : v = 0 := by rw [← hv, ← Ap, h0]; rfl
   rw [e1, e2]
   have e3 : stk 0 (0 - 64) = 0 := by decide
   rw [e3, fl_zero]
   exact ⟨by omega, fun W => Nu _ W⟩
  ·obtain ⟨b1, b2, b3⟩ := Bl h.1 h0
   rw [hv] at b1 b2
   obtain ⟨s1, s2, s3⟩ := Aj5 b1 b2 b3
   have hf := Ab8 s2 (Nat.lt_trans s1 (by decide))
   refine ⟨s1, fun W => ?_⟩
   rw [s3]
   exact Lu _ _ W hf.1 hf.2 (by omega)
 rw [hv] at C2 ⊢
 obtain ⟨m, hm2⟩ : ∃ m, btl l = m := ⟨_, rfl⟩
 rw [hm2] at C1 C2 hT hb
 obtain ⟨b, hb2⟩ : ∃ b, m - 64 = b := ⟨_, rfl⟩
 rw [hb2] at C2 hT
 obtain ⟨u, hu⟩ : ∃ u, fl v = u := ⟨_, rfl⟩
 rw [hu] at hT ⊢
 obtain ⟨hlt, hL⟩ := hT
 have C4 := Lh hL
 have HST : Hid (stk v b < 18446744073709551616) := Lh hlt
 have t1 : decide ((1024 : Int) < (m : Int)) = false := decide_eq_false (by omega)
 have k1 : IntKind.i64.wrap ((m : Int) - 64) = (m : Int) - 64 := IntWalk.i64_in _ (by omega)
 have k2 : max ((m : Int) - 64) 0 = (b : Int) := by omega
 clear hn hc hm h hb hv hm2 hb2 hlt hL hu
 go_enter Tryz.func131, Tryz.ntmps131
 go_wp2_with fail
 refine C1.out.mono ?_
 rintro e w' ⟨rfl, rfl⟩
 go_wp2_with fail
 refine C2.out.mono ?_
 rintro e w2 ⟨A2, n2, c2, he, hn2, hc2, r2, hb2⟩
 obtain ⟨H, hH⟩ : ∃ H, v / 2 ^ b = H := ⟨_, rfl⟩
 obtain ⟨lb, hlb⟩ : ∃ lb, decide (v % 2 ^ b ≠ 0) = lb := ⟨_, rfl⟩
 have hs : stk v b = if lb = true then H / 2 * 2 + 1 else H := by
  unfold stk
  rw [hH, ← hlb]
  by_cases h0 : v % 2 ^ b = 0
  ·simp [h0]
  ·simp [h0]
 rw [hH] at hn2 r2
 rw [hlb] at he
 subst he
 rw [hs] at C4
 have hHl : H < 18446744073709551616 := by
  have := HST.out
  rw [hs] at this
  split at this <;> omega
 have hn22 : n2 ≤ 2 := by
  have := Az (two H)
  rw [Dr H hHl, ← hn2] at this
  exact this
 have W1 := Lh (fun W (hW : Below w2.heap.size w2 W) => show Cp 178 #[.slice A2 n2 c2, .int .i64 1] W fun e w' => e = .returned (.int .u32 (H / 4294967296 : Nat)) ∧ W = w' from by
  have := Dq A2 n2 c2 1 (wds H) w2.heap.size W hn2.symm (by omega) (r2.below hW)
  rw [F0 (Ax H), Ad, Nat.mod_eq_of_lt (by omega)] at this
  exact this)
 have W0 := Lh (fun W (hW : Below w2.heap.size w2 W) => show Cp 178 #[.slice A2 n2 c2, .int .i64 0] W fun e w' => e = .returned (.int .u32 (H % 4294967296 : Nat)) ∧ W = w' from by
  have := Dq A2 n2 c2 0 (wds H) w2.heap.size W hn2.symm (by omega) (r2.below hW)
  rw [Cu (Ax H), Ad] at this
  exact this)
 have hj := Ho (H / 4294967296) (H % 4294967296) (by omega) (by omega)
 rw [show H % 4294967296 + H / 4294967296 * 4294967296 = H by omega] at hj
 have ho := Ai0 H hHl
 have hy := show H / 4294967296 < 4294967296 by omega
 have hz := show H % 4294967296 < 4294967296 by omega
 obtain ⟨y, hyy⟩ : ∃ y, H / 4294967296 = y := ⟨_, rfl⟩
 obtain ⟨z, hzz⟩ : ∃ z, H % 4294967296 = z := ⟨_, rfl⟩
 rw [hyy] at W1 hj hy
 rw [hzz] at W0 hj hz
 have y1 : IntKind.u64.wrap (y : Int) = (y : Int) := by rw [IntKind.wrap_u64]; omega
 have z1 : IntKind.u64.wrap (z : Int) = (z : Int) := by rw [IntKind.wrap_u64]; omega
 have HB := Lh hb2
 have hbd := Below.refl w2.heap.size w2
 clear hyy hzz hy hz hH hlb hs hHl hn2 hn22 hc2 r2 hb2 HST C1 C2 t1 k1 k2
 cases lb
 ·rw [if_neg (by decide)] at C4
  clear ho
  go_wp2_with (first
   | (go_at_call 178; (with_reducible refine (W1.out _ ?_).mono ?_); exact hbd; rintro e w' ⟨rfl, rfl⟩)
   | (go_at_call 178; (with_reducible refine (W0.out _ ?_).mono ?_); exact hbd; rintro e w' ⟨rfl, rfl⟩)
   | fail)
  refine Sm (C4.out _) ?_
  go_wp2
  go_ret
  exact ⟨rfl, HB.out⟩
 ·rw [if_pos rfl] at C4
  go_wp2_with (first
   | (go_at_call 178; (with_reducible refine (W1.out _ ?_).mono ?_); exact hbd; rintro e w' ⟨rfl, rfl⟩)
   | (go_at_call 178; (with_reducible refine (W0.out _ ?_).mono ?_); exact hbd; rintro e w' ⟨rfl, rfl⟩)
   | fail)
  refine Sm (C4.out _) ?_
  go_wp2
  go_ret
  exact ⟨rfl, HB.out⟩
theorem Aah (A : Option Addr) (n c : Nat) (l : List Nat) (w : World) (hn : l.length = n) (hc : n ≤ c) (hm : n ≤ 35184372087808) (h : RW w w.heap.size A l) :
  Ct 131 #[.slice A n c] (.float .f64 (fl (val l))) w := by
 by_cases hb : 1024 < btl l
 ·exact Ab9 A n c l w hn hc hm h hb
 ·exact Ad2 A n c l w hn hc hm h (by omega)
structure NF (r z c M k : Nat) : Prop where
 lo : 4503599627370496 ≤ M
 hi : M < 9007199254740992
 hz : z = k * 4503599627370496 + M
 hc : Ac r * 2 ^ c = M * 2 ^ k
 top : z < 9218868437227405312
 way : (c = 0 ∧ z = r) ∨ (c = 52 ∧ r < 4503599627370496 ∧ Ieee.double.mul r 4841369599423283200 = some z)
theorem Aqa {r : Nat} (h0 : 0 < r) (hr : r < 9218868437227405312) : ∃ z c M k, NF r z c M k := by
 rcases Nat.lt_or_ge r 4503599627370496 with h | h
 ·have hf := Ey (r := r) (by omega)
  obtain ⟨z, hz⟩ := Ti (N := r * 2 ^ 52) (M := r) (j := 52) rfl (by omega)
  have h1 : Ac z < Ac 4845873199050653696 := by
   obtain ⟨K, hK⟩ : ∃ K : Nat, K = 1075 := ⟨_, rfl⟩
   have e1 := Ay 4503599627370496 K (by omega) (by omega)
   rw [show K * 4503599627370496 + 4503599627370496 = 4845873199050653696 by rw [hK]] at e1
   rw [hz, e1]
   have h2 : r * 2 ^ 52 < 4503599627370496 * 2 ^ 52 := Nat.mul_lt_mul_of_pos_right h (Nat.two_pow_pos 52)
   have h3 : 4503599627370496 * 2 ^ 52 ≤ 4503599627370496 * 2 ^ K := Nat.mul_le_mul_left _ (Nat.pow_le_pow_right (by omega) (by omega))
   exact Nat.lt_of_lt_of_le h2 h3
  have hzt := Fc.1 h1
  have hzl : 4503599627370496 ≤ z := by
   rcases Nat.lt_or_ge z 4503599627370496 with h4 | h4
   ·have h5 := Ey (r := z) (by omega)
    have h6 : 1 * 2 ^ 52 ≤ r * 2 ^ 52 := Nat.mul_le_mul_right _ h0
    omega
   ·exact h4
  obtain ⟨M, k, a1, a2, a3, a4⟩ := E9 hzl
  refine ⟨z, 52, M, k, a1, a2, a3, by rw [hf, ← hz, a4], by omega, .inr ⟨rfl, h, ?_⟩⟩
  obtain ⟨K, hK⟩ : ∃ K : Nat, K = 1074 := ⟨_, rfl⟩
  refine Lj (K := K) hr (by omega) (by omega) hK ?_
  have e1 := Ay 4503599627370496 K (by omega) (by omega)
  rw [show K * 4503599627370496 + 4503599627370496 = 4841369599423283200 by rw [hK]] at e1
  rw [e1, hz, hf, show (4503599627370496 : Nat) = 2 ^ 52 from rfl, ← Nat.mul_assoc]
 ·obtain ⟨M, k, a1, a2, a3, a4⟩ := E9 h
  exact ⟨r, 0, M, k, a1, a2, a3, by rw [Nat.pow_zero, Nat.mul_one, a4], hr, .inl ⟨rfl, rfl⟩⟩
theorem I9 (r z : Nat) (w : World) (h1 : r < 4503599627370496) (hm : Ieee.double.mul r 4841369599423283200 = some z) : Cq 242 #[.float .f64 r] (.tuple #[.float .f64 z, .int .i64 (-52)]) w := by
 have C1 := Lh (fun W => Ni r W (by omega))
 rw [(Ez (x := r) (by omega)).1] at C1
 have h := Adv (x := r) (y := 4503599627370496) (by omega) (by omega)
 rw [decide_eq_true h1] at h
 have h11 : (binOp BinOp.mul 22 (.float .f64 r) (.float .f64 4841369599423283200)).run Tryz.prog w = .ok (.float .f64 z) w := run_float_arith _ _ _ _ _ _ _ hm
 clear h1 hm
 go_enter Tryz.func242, Tryz.ntmps242
 go_wp2_with fail
 refine Sm (C1.out _) ?_
 go_wp2
 go_ret2
 exact ⟨rfl, rfl⟩
theorem Al6 {y D : Nat} (h : 4503599627370496 ≤ y) : Ac (y + D * 4503599627370496) = Ac y * 2 ^ D := by
 obtain ⟨M, d, a1, a2, a3, a4⟩ := E9 h
 rw [a4, a3, show d * 4503599627370496 + M + D * 4503599627370496 = (d + D) * 4503599627370496 + M by omega, Ay _ _ a1 a2, Nat.pow_add, Nat.mul_assoc]
theorem Xq {z M k D u : Nat} (y : Nat) (hy0 : 0 < y) (hy : y < 4503599627370496) (hm : Ieee.double.mul y 4841369599423283200 = some z) (a1 : 4503599627370496 ≤ M) (a2 : M < 9007199254740992) (a3 : z = k * 4503599627370496 + M) (a4 : z < 9218868437227405312) (hD : D < 1048576) (hd : 52 ≤ D + k) (ht : D + k < 2098) (hu : u = (D + k - 52) * 4503599627370496 + M) (w : World) :
  Cq 224 #[.float .f64 y, .int .i64 (D : Nat)] (.float .f64 u) w := by
 obtain ⟨p1, p2, p3⟩ := Ez (x := y) (by omega)
 have C1 := Lh (fun W => By y W)
 have C2 := Lh (fun W => Dv y W (by omega))
 rw [show Cs y = false from by unfold Cs; rw [p1]; exact decide_eq_false (by omega)] at C1
 rw [show Fa y = false from by unfold Fa; rw [p1]; exact decide_eq_false (by omega)] at C2
 have C3 := Lh (fun W => I9 y z W hy hm)
 have h3 := Fj y
 rw [p1, decide_eq_false (by omega)] at h3
 have h5 := Bq z w
 have h6 := Kn z (by omega)
 obtain ⟨t, ht2⟩ : ∃ t, M = 4503599627370496 + t := ⟨M - 4503599627370496, by omega⟩
 rw [show z % 4503599627370496 = t by omega] at h6
 have h7 := H6 (k + 1) (by omega)
 obtain ⟨Q, hQ⟩ : ∃ Q, D + k = Q + 51 := ⟨D + k - 51, by omega⟩
 have h8 := Ny t Q (by omega) (by omega)
 have e8 : t + Q * 4503599627370496 = u := by omega
 rw [e8] at h8
 have h9 := Bx u w
 have h10 := one_mul (y := u) (by omega) (by omega)
 have h11 : (binOp BinOp.mul 22 (.float .f64 4607182418800017408) (.float .f64 u)).run Tryz.prog w = .ok (.float .f64 u) w := run_float_arith _ _ _ _ _ _ _ h10
 have k1 : (z : Int) / 4503599627370496 = ((k + 1 : Nat) : Int) := by omega
 have k2 : IntKind.i64.wrap ((k + 1 : Nat) : Int) = ((k + 1 : Nat) : Int) := IntWalk.i64_in _ (by omega)
 have k3 : IntKind.i64.wrap (((k + 1 : Nat) : Int) - 1023) = (k : Int) - 1022 := by rw [IntWalk.i64_in _ (by omega)]; omega
 have k4 : IntKind.i64.wrap ((D : Int) + -52) = (D : Int) - 52 := by rw [IntWalk.i64_in _ (by omega)]; omega
 have k5 : IntKind.i64.wrap ((D : Int) - 52 + ((k : Int) - 1022)) = (Q : Int) - 1023 := by rw [IntWalk.i64_in _ (by omega)]; omega
 have k6 : IntKind.i64.wrap ((Q : Int) - 1023 + 1023) = (Q : Int) := by rw [IntWalk.i64_in _ (by omega)]; omega
 have k7 : IntKind.u64.wrap (Q : Int) = (Q : Int) := by rw [IntKind.wrap_u64]; omega
 have k8 : IntKind.u64.wrap ((Q : Int) * 4503599627370496) = ((Q * 4503599627370496 : Nat) : Int) := by rw [IntKind.wrap_u64]; omega
 have t1 : decide ((Q : Int) - 1023 < -1075) = false := decide_eq_false (by omega)
 have t2 : decide (1023 < (Q : Int) - 1023) = false := decide_eq_false (by omega)
 have t3 : decide ((Q : Int) - 1023 < -1022) = false := decide_eq_false (by omega)
 obtain ⟨q, hq⟩ : ∃ q, k + 1 = q := ⟨_, rfl⟩
 obtain ⟨X1, hX1⟩ : ∃ X1, (k : Int) - 1022 = X1 := ⟨_, rfl⟩
 obtain ⟨X2, hX2⟩ : ∃ X2, (D : Int) - 52 = X2 := ⟨_, rfl⟩
 obtain ⟨X3, hX3⟩ : ∃ X3, (Q : Int) - 1023 = X3 := ⟨_, rfl⟩
 rw [hq] at h7 k1 k2 k3
 rw [hX1] at k3 k5
 rw [hX2] at k4 k5
 rw [hX3] at k5 k6 t1 t2 t3
 rw [← k8] at h8
 clear hy0 hy hm a1 a2 a3 a4 hD hd ht hu p1 p2 p3 ht2 hQ e8 h10 k8 hq hX1 hX2 hX3
 go_enter Tryz.func224, Tryz.ntmps224
 go_wp2_with fail
 refine Sm (C2.out _) ?_
 go_wp2_with fail
 refine Sm (C1.out _) ?_
 go_wp2_with fail
 refine Sm (C3.out _) ?_
 go_wp2
 go_ret
 exact ⟨rfl, rfl⟩
theorem Wb {z M k D u r : Nat} (y : Nat) (hy0 : 0 < y) (hy : y < 4503599627370496) (hm : Ieee.double.mul y 4841369599423283200 = some z) (a1 : 4503599627370496 ≤ M) (a2 : M < 9007199254740992) (a3 : z = k * 4503599627370496 + M) (a4 : z < 9218868437227405312) (hd : D + k < 52) (hu : u = (D + k + 1) * 4503599627370496 + M) (hr : Ieee.double.mul 4368491638549381120 u = some r) (w : World) :
  Cq 224 #[.float .f64 y, .int .i64 (D : Nat)] (.float .f64 r) w := by
 obtain ⟨p1, p2, p3⟩ := Ez (x := y) (by omega)
 have C1 := Lh (fun W => By y W)
 have C2 := Lh (fun W => Dv y W (by omega))
 rw [show Cs y = false from by unfold Cs; rw [p1]; exact decide_eq_false (by omega)] at C1
 rw [show Fa y = false from by unfold Fa; rw [p1]; exact decide_eq_false (by omega)] at C2
 have C3 := Lh (fun W => I9 y z W hy hm)
 have h3 := Fj y
 rw [p1, decide_eq_false (by omega)] at h3
 have h5 := Bq z w
 have h6 := Kn z (by omega)
 obtain ⟨t, ht2⟩ : ∃ t, M = 4503599627370496 + t := ⟨M - 4503599627370496, by omega⟩
 rw [show z % 4503599627370496 = t by omega] at h6
 have h7 := H6 (k + 1) (by omega)
 obtain ⟨Q, hQ⟩ : ∃ Q, D + k + 2 = Q := ⟨_, rfl⟩
 have h8 := Ny t Q (by omega) (by omega)
 have e8 : t + Q * 4503599627370496 = u := by omega
 rw [e8] at h8
 have h9 := Bx u w
 have h11 : (binOp BinOp.mul 22 (.float .f64 4368491638549381120) (.float .f64 u)).run Tryz.prog w = .ok (.float .f64 r) w := run_float_arith _ _ _ _ _ _ _ hr
 have k1 : (z : Int) / 4503599627370496 = ((k + 1 : Nat) : Int) := by omega
 have k2 : IntKind.i64.wrap ((k + 1 : Nat) : Int) = ((k + 1 : Nat) : Int) := IntWalk.i64_in _ (by omega)
 have k3 : IntKind.i64.wrap (((k + 1 : Nat) : Int) - 1023) = (k : Int) - 1022 := by rw [IntWalk.i64_in _ (by omega)]; omega
 have k4 : IntKind.i64.wrap ((D : Int) + -52) = (D : Int) - 52 := by rw [IntWalk.i64_in _ (by omega)]; omega
 have k5 : IntKind.i64.wrap ((D : Int) - 52 + ((k : Int) - 1022)) = (Q : Int) - 1076 := by rw [IntWalk.i64_in _ (by omega)]; omega
 have k9 : IntKind.i64.wrap ((Q : Int) - 1076 + 53) = (Q : Int) - 1023 := by rw [IntWalk.i64_in _ (by omega)]; omega
 have k6 : IntKind.i64.wrap ((Q : Int) - 1023 + 1023) = (Q : Int) := by rw [IntWalk.i64_in _ (by omega)]; omega
 have k7 : IntKind.u64.wrap (Q : Int) = (Q : Int) := by rw [IntKind.wrap_u64]; omega
 have k8 : IntKind.u64.wrap ((Q : Int) * 4503599627370496) = ((Q * 4503599627370496 : Nat) : Int) := by rw [IntKind.wrap_u64]; omega
 have t1 : decide ((Q : Int) - 1076 < -1075) = false := decide_eq_false (by omega)
 have t2 : decide (1023 < (Q : Int) - 1076) = false := decide_eq_false (by omega)
 have t3 : decide ((Q : Int) - 1076 < -1022) = true := decide_eq_true (by omega)
 obtain ⟨q, hq⟩ : ∃ q, k + 1 = q := ⟨_, rfl⟩
 obtain ⟨X1, hX1⟩ : ∃ X1, (k : Int) - 1022 = X1 := ⟨_, rfl⟩
 obtain ⟨X2, hX2⟩ : ∃ X2, (D : Int) - 52 = X2 := ⟨_, rfl⟩
 obtain ⟨X3, hX3⟩ : ∃ X3, (Q : Int) - 1076 = X3 := ⟨_, rfl⟩
 obtain ⟨X4, hX4⟩ : ∃ X4, (Q : Int) - 1023 = X4 := ⟨_, rfl⟩
 rw [hq] at h7 k1 k2 k3
 rw [hX1] at k3 k5
 rw [hX2] at k4 k5
 rw [hX3] at k5 k9 t1 t2 t3
 rw [hX4] at k9 k6
 rw [← k8] at h8
 clear hy0 hy hm a1 a2 a3 a4 hd hu hr p1 p2 p3 ht2 hQ e8 k8 hq hX1 hX2 hX3 hX4
 go_enter Tryz.func224, Tryz.ntmps224
 go_wp2_with fail
 refine Sm (C2.out _) ?_
 go_wp2_with fail
 refine Sm (C1.out _) ?_
 go_wp2_with fail
 refine Sm (C3.out _) ?_
 go_wp2
 go_ret
 exact ⟨rfl, rfl⟩
theorem Vt {r : Nat} (h : r < 9218868437227405312) (K : Nat) (hK : K = 2098) : Ac r < 2 ^ K := by
 obtain ⟨J, hJ⟩ : ∃ J : Nat, J = 2046 := ⟨_, rfl⟩
 have e1 := Ay 4503599627370496 J (by omega) (by omega)
 rw [show J * 4503599627370496 + 4503599627370496 = 9218868437227405312 by rw [hJ]] at e1
 have := Bw h
 rw [e1, show (4503599627370496 : Nat) = 2 ^ 52 from rfl, ← Nat.pow_add, show 52 + J = K by omega] at this
 exact this
theorem Aer {y D u : Nat} (h0 : 0 < y) (hy : y < 9218868437227405312) (hu : u < 9218868437227405312) (h : Ac u = Ac y * 2 ^ D) (w : World) :
  Cq 224 #[.float .f64 y, .int .i64 (D : Nat)] (.float .f64 u) w := by
 obtain ⟨K, hK⟩ : ∃ K : Nat, K = 2098 := ⟨_, rfl⟩
 have hDK : D < K := by
  have h1 := Vt hu K hK
  have h2 := Gj.2 h0
  have h3 : 1 * 2 ^ D ≤ Ac y * 2 ^ D := Nat.mul_le_mul_right _ h2
  exact (Nat.pow_lt_pow_iff_right (a := 2) (by omega)).1 (by omega)
 by_cases hn : 4503599627370496 ≤ y
 ·have h1 := Al6 (D := D) hn
  rw [← h] at h1
  have h2 := Ie h1
  have h3 := Ow y D w hn hy (by omega)
  have h4 : scl y D = u := by unfold scl; rw [if_pos (by omega)]; exact h2
  rw [h4] at h3
  exact h3
 ·obtain ⟨z, c, M, k, hnf⟩ := Aqa h0 hy
  rcases hnf.way with ⟨_, h1⟩ | ⟨rfl, _, h1⟩
  ·have := hnf.hz; have := hnf.lo; omega
  ·have a1 := hnf.lo
   have a2 := hnf.hi
   have a3 := hnf.hz
   have a4 := hnf.top
   have a5 := hnf.hc
   have hU : Ac u * 2 ^ 52 = M * 2 ^ (D + k) := by
    rw [h, Nat.mul_assoc, Nat.mul_comm (2 ^ D), ← Nat.mul_assoc, a5, Nat.mul_assoc, ← Nat.pow_add, Nat.add_comm k D]
   by_cases hd : 52 ≤ D + k
   ·obtain ⟨d, hd2⟩ : ∃ d, D + k = d + 52 := ⟨D + k - 52, by omega⟩
    rw [hd2] at hU
    have h2 : M * 2 ^ d = Ac u := El (x := M) (y := Ac u) hU.symm
    rw [← Ay M d a1 a2] at h2
    have h3 := Ie h2
    exact Xq y h0 (by omega) h1 a1 a2 a3 a4 (by omega) hd (by omega) (by rw [show D + k - 52 = d by omega]; exact h3.symm) w
   ·refine Wb (u := (D + k + 1) * 4503599627370496 + M) y h0 (by omega) h1 a1 a2 a3 a4 (by omega) rfl ?_ w
    obtain ⟨J, hJ⟩ : ∃ J : Nat, J = 969 := ⟨_, rfl⟩
    obtain ⟨L, hL⟩ : ∃ L : Nat, L = 1074 := ⟨_, rfl⟩
    have e1 := Ay 4503599627370496 J (by omega) (by omega)
    rw [show J * 4503599627370496 + 4503599627370496 = 4368491638549381120 by rw [hJ]] at e1
    refine Lj (K := L) (by omega) (by omega) hu hL ?_
    have h2 : Ac u * 2 ^ L = Ac u * 2 ^ 52 * 2 ^ (J + 53) := by rw [Nat.mul_assoc, ← Nat.pow_add, show 52 + (J + 53) = L by omega]
    rw [e1, Ay _ _ a1 a2, h2, hU, show (4503599627370496 : Nat) = 2 ^ 52 from rfl, ← Nat.pow_add, Nat.mul_left_comm, ← Nat.pow_add, Nat.mul_assoc, ← Nat.pow_add, show 52 + J + (D + k + 1) = D + k + (J + 53) by omega]
theorem Se {y D u : Nat} (h0 : 0 < y) (hy : y < 9218868437227405312) (hu : u < 9218868437227405312) (h : Ac u = Ac y * 2 ^ D) (w : World) :
  Cq 179 #[.float .f64 y, .int .i64 (D : Nat)] (.float .f64 u) w := by
 have C := Lh (Aer h0 hy hu h w)
 clear h0 hy hu h
 go_enter Tryz.func179, Tryz.ntmps179
 go_wp2_with fail
 refine C.out.mono ?_
 rintro e w' ⟨rfl, rfl⟩
 go_wp2
 go_ret
 exact ⟨rfl, rfl⟩
theorem Ma : ∀ (l : List Nat) (k : Nat), val (l.drop k) ≤ val l := by
 intro l
 induction l with
 | nil => intro k; simp [val]
 | cons a r ih =>
  intro k
  cases k with
  | zero => exact Nat.le_refl _
  | succ k =>
   have := ih k
   simp only [List.drop_succ_cons, val]
   omega
theorem I7 {l : List Nat} {k : Nat} (h : k < l.length) : val (l.drop k) = l.getD k 0 + 4294967296 * val (l.drop (k + 1)) := by
 rw [List.drop_eq_getElem_cons h]
 simp only [val]
 rw [List.getD_eq_getElem?_getD, List.getElem?_eq_getElem h, Option.getD_some]
theorem Nv (v d : Nat) : evn v (d + 1) = v / 2 ^ (d + 1) + (decide (v / 2 ^ d % 2 = 1) && (decide (v % 2 ^ d ≠ 0) || decide (v / 2 ^ (d + 1) % 2 = 1))).toNat := by
 have hP := Nat.two_pow_pos d
 have hr := Nat.mod_lt v hP
 have hp : 2 ^ (d + 1) = 2 * 2 ^ d := by rw [Nat.pow_succ, Nat.mul_comm]
 have hmod : v % 2 ^ (d + 1) = v / 2 ^ d % 2 * 2 ^ d + v % 2 ^ d := by
  rw [hp, Nat.mul_comm 2, Nat.mod_mul, Nat.mul_comm, Nat.add_comm]
 unfold evn
 rw [hmod, hp]
 generalize v / (2 * 2 ^ d) = Q
 generalize v / 2 ^ d = P at *
 generalize v % 2 ^ d = r at *
 generalize 2 ^ d = T at *
 congr 2
 rcases Nat.mod_two_eq_zero_or_one P with h | h
 ·rw [h]
  rw [decide_eq_false (show ¬ 2 * T < 2 * (0 * T + r) by omega), decide_eq_false (show ¬ 2 * T = 2 * (0 * T + r) by omega)]
  rfl
 ·rw [h]
  by_cases h0 : r = 0
  ·subst h0
   rw [decide_eq_false (show ¬ 2 * T < 2 * (1 * T + 0) by omega), decide_eq_true (show 2 * T = 2 * (1 * T + 0) by omega)]
   simp
  ·rw [decide_eq_true (show 2 * T < 2 * (1 * T + r) by omega), decide_eq_true (show r ≠ 0 from h0)]
   simp
theorem O8 (w : World) : RW (w.alloc (.cells #[.int .u32 1] 129)) (w.heap.size + 1) (some ⟨w.heap.size, 0, none⟩) [1] := ⟨Ws.cons (by omega) Ws.nil, fun _ => by
 refine ⟨w.heap.size, 0, rfl, by omega, fun k u hu => ?_⟩
 rw [Nat.zero_add, cell_of_row _ _ _ _ _ _ (heap_alloc_new w (.cells #[.int .u32 1] 129))]
 match k, hu with
 | 0, hu => simp at hu; subst hu; rfl
 | k + 1, hu => simp at hu⟩
theorem E3 (x : Nat) (hx : x < 4294967296) : bits BinOp.and IntKind.u32 (x : Int) 1 = ((x % 2 : Nat) : Int) := by
 have h := Uy x 0 hx
 rw [Nat.pow_zero, Nat.div_one] at h
 rw [← h]
 congr 1
 simp
theorem M6 {n : Nat} (h : 0 < n) : 0 < (wds n).length := by
 rcases Nat.eq_zero_or_pos (wds n).length with h0 | h0
 ·have := Ad n
  rw [List.length_eq_zero_iff.1 h0] at this
  simp only [val] at this
  omega
 ·exact h0
end
section
def cn (x : Nat) : Nat := if Cs x = true then 9221120237041090560 else x
def oeq (x y : Nat) : Bool := FloatKind.f64.format.order x y == some .eq
theorem An0 (x y : Nat) : (FloatKind.f64.format.order x y == some .eq) = oeq x y := rfl
end
section
structure Val where
 vk : Int
 vb : Bool
 vn : Nat
 vs : ByteArray
 vo : Int
def Dt (v : Val) : Value := .agg #[.int .i64 v.vk, .bool v.vb, .float .f64 v.vn, .string v.vs, .int .i64 v.vo]
def Aqx : Val := ⟨0, false, 0, ⟨#[]⟩, 0⟩
def Ak2 : Val := ⟨1, false, 0, ⟨#[]⟩, 0⟩
def Aq0 (b : Bool) : Val := ⟨2, b, 0, ⟨#[]⟩, 0⟩
def Afd (n : Nat) : Val := ⟨3, false, n, ⟨#[]⟩, 0⟩
def Km (s : ByteArray) : Val := ⟨4, false, 0, s, 0⟩
def Aq8 (o : Int) : Val := ⟨5, false, 0, ⟨#[]⟩, o⟩
def Ec (v : Val) : Bool :=
 decide (0 ≤ v.vk) && decide (v.vk ≤ 5) && (!v.vb || v.vk == 2) && (v.vn == 0 || (v.vk == 3 && cn v.vn == v.vn)) &&
  (v.vs.toList.isEmpty || (v.vk == 4 && v.vs.size % 2 == 0)) && (v.vo == 0 || (v.vk == 5 && decide (0 < v.vo)))
theorem Aao {s : ByteArray} (h : s.toList.isEmpty = true) : s = ⟨#[]⟩ := by
 rw [ByteArray.toList_eq] at h
 obtain ⟨⟨l⟩⟩ := s
 cases l with
 | nil => rfl
 | cons a l => simp at h
theorem Dz {v : Val} (h : Ec v = true) :
  v = Aqx ∨ v = Ak2 ∨ (∃ b, v = Aq0 b) ∨ (∃ n, cn n = n ∧ v = Afd n) ∨ (∃ s, s.size % 2 = 0 ∧ v = Km s) ∨ (∃ o, 0 ≤ o ∧ v = Aq8 o) := by
 obtain ⟨k, b, n, s, o⟩ := v
 unfold Ec at h
 simp only [Bool.and_eq_true, Bool.or_eq_true, Bool.not_eq_true', decide_eq_true_iff, beq_iff_eq] at h
 obtain ⟨⟨⟨⟨⟨h0, h1⟩, hb⟩, hn⟩, hs⟩, ho⟩ := h
 have hk : k = 0 ∨ k = 1 ∨ k = 2 ∨ k = 3 ∨ k = 4 ∨ k = 5 := by omega
 have hs' : s = ⟨#[]⟩ ∨ (k = 4 ∧ s.size % 2 = 0) := hs.imp Aao id
 rcases hk with rfl | rfl | rfl | rfl | rfl | rfl
 ·obtain rfl : b = false := hb.resolve_right (by omega)
  obtain rfl : n = 0 := hn.resolve_right (by omega)
  obtain rfl := hs'.resolve_right (by omega)
  obtain rfl : o = 0 := ho.resolve_right (by omega)
  exact .inl rfl
 ·obtain rfl : b = false := hb.resolve_right (by omega)
  obtain rfl : n = 0 := hn.resolve_right (by omega)
  obtain rfl := hs'.resolve_right (by omega)
  obtain rfl : o = 0 := ho.resolve_right (by omega)
  exact .inr (.inl rfl)
 ·obtain rfl : n = 0 := hn.resolve_right (by omega)
  obtain rfl := hs'.resolve_right (by omega)
  obtain rfl : o = 0 := ho.resolve_right (by omega)
  exact .inr (.inr (.inl ⟨b, rfl⟩))
 ·obtain rfl : b = false := hb.resolve_right (by omega)
  obtain rfl := hs'.resolve_right (by omega)
  obtain rfl : o = 0 := ho.resolve_right (by omega)
  refine .inr (.inr (.inr (.inl ⟨n, ?_, rfl⟩)))
  rcases hn with rfl | hn
  ·decide
  ·exact hn.2
 ·obtain rfl : b = false := hb.resolve_right (by omega)
  obtain rfl : n = 0 := hn.resolve_right (by omega)
  obtain rfl : o = 0 := ho.resolve_right (by omega)
  refine .inr (.inr (.inr (.inr (.inl ⟨s, ?_, rfl⟩))))
  rcases hs' with rfl | hs
  ·rfl
  ·exact hs.2
 ·obtain rfl : b = false := hb.resolve_right (by omega)
  obtain rfl : n = 0 := hn.resolve_right (by omega)
  obtain rfl := hs'.resolve_right (by omega)
  refine .inr (.inr (.inr (.inr (.inr ⟨o, ?_, rfl⟩))))
  rcases ho with rfl | ho
  ·omega
  ·omega
theorem Aiq (x : Nat) : (9218868437227405312 < Ba x ∧ Cs x = true) ∨ (Ba x ≤ 9218868437227405312 ∧ Cs x = false) := by
 unfold Cs
 by_cases h : 9218868437227405312 < Ba x
 ·exact .inl ⟨h, decide_eq_true h⟩
 ·exact .inr ⟨by omega, decide_eq_false h⟩
end
section
def Ak : List Value → Nat → Value → List Value
 | [], _, _ => []
 | _ :: r, 0, v => v :: r
 | a :: r, n + 1, v => a :: Ak r n v
theorem Adf : ∀ (l : List Value) (k : Nat) (v : Value), l.set k v = Ak l k v
 | [], _, _ => rfl
 | _ :: _, 0, _ => rfl
 | a :: r, n + 1, v => by rw [List.set_cons_succ, Adf r n v]; rfl
theorem Aod (l : List Value) (d : List Deferred) (k : Nat) (v : Value) : Act.put { tmps := l.toArray, defers := d } (some k) v = { tmps := (Ak l k v).toArray, defers := d } := by
 simp [Act.put, Adf]
theorem Up {P : Program} {md : Region.Mode} {ops : Array Oper} {Q : Exit → Act → World → Prop} {S : World → Prop} {i k fuel : Nat} {oi : Oper} {v : Value} {listed : Array Bool} {l : List Value} {d : List Deferred} {w : World}
  (hi : ops[i]? = some oi) (hs : Region.noSelect ops = true) (hf : Region.free md ops listed i = true) (hr : (Region.ready md ops listed).contains i = true)
  (hQ : ∀ c a w, Q (.panic c) (a.put oi.dst v) w → Q (.panic c) a w) (hy : YieldsIf P ops S oi v { tmps := l.toArray, defers := d }) (hd : oi.dst = some k) (hS : S w)
  (h : wpAnyH P md ops Q S fuel (listed.setIfInBounds i true) { tmps := (Ak l k v).toArray, defers := d } w) : wpAnyH P md ops Q S (fuel + 1) listed { tmps := l.toArray, defers := d } w :=
 wpAnyH_take hi hs hf hr hQ hy hS (by rw [hd, Aod]; exact h)
theorem Tk {P : Program} {md : Region.Mode} {ops : Array Oper} {Q : Exit → Act → World → Prop} {S : World → Prop} (i : Nat) {k fuel : Nat} {oi : Oper} {v : Value} {listed : Array Bool} {l : List Value} {d : List Deferred} {w : World} (hi : ops[i]? = some oi) (hd : oi.dst = some k) (hy : YieldsIf P ops S oi v { tmps := l.toArray, defers := d }) (h : wpAnyH P md ops Q S fuel (listed.setIfInBounds i true) { tmps := (Ak l k v).toArray, defers := d } w) (hs : Region.noSelect ops = true := by kernel_rfl) (hf : Region.free md ops listed i = true := by kernel_rfl) (hr : (Region.ready md ops listed).contains i = true := by kernel_rfl) (hQ : ∀ c a w, Q (.panic c) (a.put oi.dst v) w → Q (.panic c) a w := by exact fun _ _ _ h => h) (hS : S w := by assumption) : wpAnyH P md ops Q S (fuel + 1) listed { tmps := l.toArray, defers := d } w := Up hi hs hf hr hQ hy hd hS h
theorem Tg {P : Program} {md : Region.Mode} {ops : Array Oper} {Q : Exit → Act → World → Prop} {S : World → Prop} (i : Nat) {k fuel : Nat} {oi : Oper} {v : Value} {listed : Array Bool} {l : List Value} {d : List Deferred} {w : World} (hi : ops[i]? = some oi) (hd : oi.dst = some k) (h : wpAnyH P md ops Q S fuel (listed.setIfInBounds i true) { tmps := (Ak l k v).toArray, defers := d } w) (hy : YieldsIf P ops S oi v { tmps := l.toArray, defers := d } := by exact Or.inl ⟨by rfl, by (intro w hSw; go_simp; try with_reducible rfl)⟩) (hs : Region.noSelect ops = true := by kernel_rfl) (hf : Region.free md ops listed i = true := by kernel_rfl) (hr : (Region.ready md ops listed).contains i = true := by kernel_rfl) (hQ : ∀ c a w, Q (.panic c) (a.put oi.dst v) w → Q (.panic c) a w := by exact fun _ _ _ h => h) (hS : S w := by assumption) : wpAnyH P md ops Q S (fuel + 1) listed { tmps := l.toArray, defers := d } w := Up hi hs hf hr hQ hy hd hS h
theorem Th {P : Program} {md : Region.Mode} {ops : Array Oper} {Q : Exit → Act → World → Prop} {S : World → Prop} (i : Nat) {k fuel : Nat} {oi : Oper} {v : Value} {listed : Array Bool} {l : List Value} {d : List Deferred} {w : World} (hi : ops[i]? = some oi) (hd : oi.dst = some k) (h : wpAnyH P md ops Q S fuel (listed.setIfInBounds i true) { tmps := (Ak l k v).toArray, defers := d } w) (hy : YieldsIf P ops S oi v { tmps := l.toArray, defers := d } := by exact Or.inl ⟨by rfl, by (intro w hSw; (try dsimp only at hSw); go_simp; try with_reducible rfl)⟩) (hs : Region.noSelect ops = true := by kernel_rfl) (hf : Region.free md ops listed i = true := by kernel_rfl) (hr : (Region.ready md ops listed).contains i = true := by kernel_rfl) (hQ : ∀ c a w, Q (.panic c) (a.put oi.dst v) w → Q (.panic c) a w := by exact fun _ _ _ h => h) (hS : S w := by assumption) : wpAnyH P md ops Q S (fuel + 1) listed { tmps := l.toArray, defers := d } w := Up hi hs hf hr hQ hy hd hS h
theorem Tn {P : Program} {md : Region.Mode} {ops : Array Oper} {Q : Exit → Act → World → Prop} {S : World → Prop} (i : Nat) {k fuel : Nat} {oi : Oper} {v : Value} {listed : Array Bool} {l : List Value} {d : List Deferred} {w : World} (hi : ops[i]? = some oi) (hd : oi.dst = some k) (h : wpAnyH P md ops Q S fuel (listed.setIfInBounds i true) { tmps := (Ak l k v).toArray, defers := d } w) (hy : YieldsIf P ops S oi v { tmps := l.toArray, defers := d } := by exact Or.inr ⟨by rfl, rfl⟩) (hs : Region.noSelect ops = true := by kernel_rfl) (hf : Region.free md ops listed i = true := by kernel_rfl) (hr : (Region.ready md ops listed).contains i = true := by kernel_rfl) (hQ : ∀ c a w, Q (.panic c) (a.put oi.dst v) w → Q (.panic c) a w := by exact fun _ _ _ h => h) (hS : S w := by assumption) : wpAnyH P md ops Q S (fuel + 1) listed { tmps := l.toArray, defers := d } w := Up hi hs hf hr hQ hy hd hS h
theorem Jp {P : Program} {md : Region.Mode} {ops : Array Oper} {Q : Exit → Act → World → Prop} {S : World → Prop} {i k fuel : Nat} {oi : Oper} {listed : Array Bool} {l : List Value} {d : List Deferred} {w : World}
  (hr : Region.ready md ops listed = [i]) (hi : ops[i]? = some oi) (hd : oi.dst = some k) (hw : Region.wanted oi (yielded ops l.toArray) = true)
  (h : ∀ K : Act → World → Prop, Hid (∀ v w', S w' → wpAnyH P md ops Q S fuel (listed.setIfInBounds i true) { tmps := (Ak l k v).toArray, defers := d } w' → K (Act.put { tmps := l.toArray, defers := d } oi.dst v) w') → Oper.wp P oi { tmps := l.toArray, defers := d } w K Q) :
  wpAnyH P md ops Q S (fuel + 1) listed { tmps := l.toArray, defers := d } w :=
 wpAnyH_ready hr (by simp) (AllReadyH.cons hi (fun K hK => by
  rw [if_pos hw]
  refine h K (Lh fun v w' hS hW => ?_)
  refine hK.out _ _ hS (fun _ => ?_)
  rw [hd, Aod]
  exact hW) AllReadyH.nil)
theorem Ag (w : World) (a : Obj) : Below w.heap.size w (w.alloc a) := (Below.refl _ _).alloc (Nat.le_refl _) _
theorem J0 (n m : Nat) : ((n : Int) == (m : Int)) = (n == m) := by
 rw [Bool.eq_iff_iff, beq_iff_eq, beq_iff_eq]
 omega
theorem kept {W w' : World} (h : Below W.heap.size W w') (a : Addr) (v : Value) (hc : W.cell? a = some v) : w'.cell? a = some v := by
 rw [← hc]
 refine h.cell ?_
 rcases Nat.lt_or_ge a.block W.heap.size with h' | h'
 ·exact h'
 ·simp [World.cell?, Array.getElem?_eq_none h'] at hc
theorem Qn {B g : Nat} {a w : World} (h : Below B a w) (hg : B ≤ g) (c : Array Value) : Below B a (w.setRow g c) :=
 ⟨h.os, h.tape, h.output, by rw [setRow_size]; exact h.size, fun k hk => (setRow_other w g k c (by omega)).trans (h.block k hk)⟩
theorem Qm {fn : Func} {p : Tmp} {ty : TypeId} (h : fn.results = #[.cell p ty]) (tmps : Array Value) (P : Program) (w : World) (a : Addr) (v : Value) (ha : tmps.getD p undef = .pointer (some a)) (hl : (loadVar ty a).run P w = .ok v w) :
  (results fn tmps).run P w = .ok v w := by
 simp only [results, h]
 simp [-Array.getD_eq_getD_getElem?, ha, asAddr, hl]
theorem Ob {fn : Func} {p t : Tmp} {ty : TypeId} (h : fn.results = #[.cell p ty, .tmp t]) (tmps : Array Value) (P : Program) (w : World) (a : Addr) (v : Value) (ha : tmps.getD p undef = .pointer (some a)) (hl : (loadVar ty a).run P w = .ok v w) :
  (results fn tmps).run P w = .ok (.tuple #[v, tmps.getD t undef]) w := by
 simp only [results, h]
 simp [-Array.getD_eq_getD_getElem?, ha, asAddr, hl]
def Ar (v : Val) : Array Value := #[.int .i64 v.vk, .bool v.vb, .float .f64 v.vn, .string v.vs, .int .i64 v.vo]
theorem vlS {ops : Array Oper} {rest : List Oper} {o : Oper} {a : Act} {w : World} {Q : Exit → Act → World → Prop} {x y : Operand} (hgd : o.guard = none) (ho : o.op = .store 24 x y) (g : Nat) (k : Int) (b : Bool) (n : Nat) (s : ByteArray) (q : Int)
  (hx : a.eval x = .pointer (some ⟨g, 0, none⟩)) (hy : a.eval y = .agg #[.int .i64 k, .bool b, .float .f64 n, .string s, .int .i64 q])
  (hg : w.heap[g]? = some (.cells #[.int .i64 0, .bool false, .float .f64 0, .string ⟨#[]⟩, .int .i64 0] 24 (0, 0)))
  (h : wpList Tryz.prog ops Q rest (a.put o.dst undef) (w.setRow g #[.int .i64 k, .bool b, .float .f64 n, .string s, .int .i64 q])) : wpList Tryz.prog ops Q (o :: rest) a w :=
 wpList_store_row hgd 24 x y ho g _ hx hy 24 _ hg (by kernel_rfl) rfl (by kernel_rfl) h
theorem vlR {fn : Func} {p : Tmp} {R : Ending → World → Prop} {a : Act} {w : World} {g : Nat} {c : Array Value} (hr : fn.results = #[.cell p 24]) (ha : a.tmps.getD p undef = .pointer (some ⟨g, 0, none⟩))
  (hG : w.heap[g]? = some (.cells c 24 (0, 0))) (hc : c.size = 5) (hd : a.defers = []) (hR : R (.returned (.agg c)) w) : bodyPost Tryz.prog fn R .ret a w :=
 bodyPost_ret (Qm hr _ _ _ _ _ ha (run_loadVar_row _ g 24 24 _ (0, 0) _ hG Tryz.underlying24 rfl (by rw [hc]; kernel_rfl))) hd hR
theorem Ae7 {fn : Func} {p t : Tmp} {R : Ending → World → Prop} {a : Act} {w : World} {g : Nat} {c : Array Value} (hr : fn.results = #[.cell p 24, .tmp t]) (ha : a.tmps.getD p undef = .pointer (some ⟨g, 0, none⟩))
  (hG : w.heap[g]? = some (.cells c 24 (0, 0))) (hc : c.size = 5) (hd : a.defers = []) (hR : R (.returned (.tuple #[.agg c, a.tmps.getD t undef])) w) : bodyPost Tryz.prog fn R .ret a w :=
 bodyPost_ret (Ob hr _ _ _ _ _ ha (run_loadVar_row _ g 24 24 _ (0, 0) _ hG Tryz.underlying24 rfl (by rw [hc]; kernel_rfl))) hd hR
end
section
theorem Y9 (w : World) : Cq 46 #[] (.float .f64 9221120237041090560) w := by
 have h2 : (callFunc 69 #[.int .u64 9221120237041090560]).run Tryz.prog w = .ok (.value (.float .f64 9221120237041090560)) w := Bx 9221120237041090560 w
 go_enter Tryz.func46, Tryz.ntmps46
 go_wp2
 go_ret
 exact ⟨rfl, rfl⟩
theorem Zh (x : Nat) (w : World) : Ct 16 #[.float .f64 x] (Dt (Afd (cn x))) w := by
 have C1 := Lh (fun W => By x W)
 have C2 := Lh (fun W => Y9 W)
 unfold cn
 cases e1 : Cs x
 ·rw [e1] at C1
  rw [if_neg (by simp)]
  clear e1 C2
  go_enter Tryz.func16, Tryz.ntmps16
  go_wp2_with fail
  refine Sm (C1.out _) ?_
  go_wp2_with (refine vlS rfl rfl w.heap.size 3 false x ⟨#[]⟩ 0 rfl rfl (heap_alloc_last w _) ?_; rw [World.setRow_alloc_new])
  refine vlR rfl rfl (heap_alloc_last w _) rfl rfl ⟨rfl, Ag _ _⟩
 ·rw [e1] at C1
  rw [if_pos rfl]
  clear e1
  go_enter Tryz.func16, Tryz.ntmps16
  go_wp2_with fail
  refine Sm (C1.out _) ?_
  go_wp2_with fail
  refine Sm (C2.out _) ?_
  go_wp2_with (refine vlS rfl rfl w.heap.size 3 false 9221120237041090560 ⟨#[]⟩ 0 rfl rfl (heap_alloc_last w _) ?_; rw [World.setRow_alloc_new])
  refine vlR rfl rfl (heap_alloc_last w _) rfl rfl ⟨rfl, Ag _ _⟩
end
section
theorem J8 (x : Nat) (w : World) : Cp 16 #[.float .f64 x] w fun e w' => e = .returned (.agg #[.int .i64 3, .bool false, .float .f64 (cn x), .string ⟨#[]⟩, .int .i64 0]) ∧ Below w.heap.size w w' ∧ ∀ a v, w.cell? a = some v → w'.cell? a = some v :=
 (Zh x w).mono fun _ _ ⟨a, b⟩ => ⟨a, b, kept b⟩
theorem Ajv (n : Nat) : ((n : Int) % 2 == 0) = (n % 2 == 0) := by
 rw [Bool.eq_iff_iff, beq_iff_eq, beq_iff_eq]
 omega
theorem Aof (k : Int) (b : Bool) (n : Nat) (s : ByteArray) (o : Int) (W : World) : (Instr.field 24 (.agg #[.int .i64 k, .bool b, .float .f64 n, .string s, .int .i64 o]) 2).run Tryz.prog W = .ok (.float .f64 n) W := by
 unfold Instr.field
 simp [go_sem, asAgg]
theorem Aql {W : World} {g : Nat} {a b c d e : Value} {T : TypeId} {f : Nat × Nat} (h : W.heap[g]? = some (.cells #[a, b, c, d, e] T f)) :
  W.cell? ⟨g, 0, none⟩ = some a ∧ W.cell? ⟨g, 1, none⟩ = some b ∧ W.cell? ⟨g, 2, none⟩ = some c ∧ W.cell? ⟨g, 3, none⟩ = some d ∧ W.cell? ⟨g, 4, none⟩ = some e := by
 simp [World.cell?, h]
theorem Aq4 {w W1 : World} {a b c d e : Value} {T : TypeId} (h : w.alloc (.cells #[a, b, c, d, e] T) = W1) :
  W1.cell? ⟨w.heap.size, 0, none⟩ = some a ∧ W1.cell? ⟨w.heap.size, 1, none⟩ = some b ∧ W1.cell? ⟨w.heap.size, 2, none⟩ = some c ∧ W1.cell? ⟨w.heap.size, 3, none⟩ = some d ∧ W1.cell? ⟨w.heap.size, 4, none⟩ = some e := by
 subst h
 exact Aql (heap_alloc_last _ _)
theorem Ajf (v : Val) (w : World) : Ct 21 #[Dt v] (.bool (Ec v)) w := by
 have C2 := Lh (fun W => J8 v.vn W)
 have h1 := fun W => Bq v.vn W
 have h2 := fun W => Bq (cn v.vn) W
 unfold Ec
 obtain ⟨k, b, n, s, o⟩ := v
 unfold Dt
 dsimp only at C2 h1 h2 ⊢
 obtain ⟨P1, hP1⟩ : ∃ P, (!b || k == 2) = P := ⟨_, rfl⟩
 obtain ⟨P2, hP2⟩ : ∃ P, (n == 0 || (k == 3 && cn n == n)) = P := ⟨_, rfl⟩
 obtain ⟨P3, hP3⟩ : ∃ P, (s.toList.isEmpty || (k == 4 && s.size % 2 == 0)) = P := ⟨_, rfl⟩
 obtain ⟨P4, hP4⟩ : ∃ P, (o == 0 || (k == 5 && decide (0 < o))) = P := ⟨_, rfl⟩
 obtain ⟨A, hA⟩ : ∃ A, decide (0 ≤ k) = A := ⟨_, rfl⟩
 obtain ⟨B, hB⟩ : ∃ B, decide (k ≤ 5) = B := ⟨_, rfl⟩
 rw [hP1, hP2, hP3, hP4, hA, hB]
 have HA := Lh hA
 have HB5 := Lh hB
 clear hA hB
 have H1 := Lh hP1
 have H2 := Lh hP2
 have H3 := Lh hP3
 have H4 := Lh hP4
 clear hP1 hP2 hP3 hP4
 go_enter Tryz.func21, Tryz.ntmps21
 go_upto_region 1 with fail
 obtain ⟨W1, hW1⟩ : ∃ W1, w.alloc (.cells #[.int .i64 k, .bool b, .float .f64 n, .string s, .int .i64 o] 24) = W1 := ⟨_, rfl⟩
 have HB := Lh (show Below w.heap.size w W1 by rw [← hW1]; exact Ag _ _)
 obtain ⟨c0, c1, c2, c3, c4⟩ := Aq4 hW1
 have hsz : w.heap.size < W1.heap.size := by rw [← hW1]; simp
 have hsz := Lh hsz
 rw [hW1]
 clear hW1
 generalize Value.agg #[.int .i64 k, .bool b, .float .f64 n, .string s, .int .i64 o] = X
 obtain ⟨g, hg⟩ : ∃ g, w.heap.size = g := ⟨_, rfl⟩
 rw [hg] at c0 c1 c2 c3 c4 HB hsz ⊢
 have HG := Lh hg
 clear hg
 go_cut [3] (fun c wx => c = .bool P1 ∧ W1 = wx)
 case first =>
  cases b
  ·go_wp2
   go_meet
   case rel => exact ⟨by rw [← H1.out]; rfl, rfl⟩
  ·obtain ⟨K, hK⟩ : ∃ K, (k == 2) = K := ⟨_, rfl⟩
   have e1 := Lh <| show K = P1 by rw [← H1.out, hK]; rfl
   go_wp2
   all_goals go_meet
   all_goals (case rel => exact ⟨by rw [← e1.out], rfl⟩)
 case rest =>
  obtain ⟨rfl, rfl⟩ := hcut
  go_upto_region 2 with fail
  go_cut [4] (fun c wx => c = .bool P2 ∧ (∀ a v, W1.cell? a = some v → wx.cell? a = some v) ∧ Below W1.heap.size W1 wx)
  case first =>
   rcases Bool.eq_false_or_eq_true ((n : Int) == 0) with hN | hN
   ·have e2 := Lh <| show true = P2 by rw [← H2.out, ← J0, show ((0 : Nat) : Int) = 0 from rfl, hN, Bool.true_or]
    refine wp_region_held_drew (S := (fun w' => w'.cell? ⟨g, 0, none⟩ = some (.int .i64 k) ∧ w'.cell? ⟨g, 2, none⟩ = some (.float .f64 n))) (by kernel_rfl) ?_ (fun hHeld => ?_)
    ·go_keep
    refine Th 0 rfl rfl ?_; simp only [Ak]
    refine Th 1 rfl rfl ?_; simp only [Ak]
    refine Th 2 rfl rfl ?_; simp only [Ak]
    refine Th 3 rfl rfl ?_; simp only [Ak]
    refine Th 4 rfl rfl ?_; simp only [Ak]
    refine Tn 5 rfl rfl ?_; simp only [Ak]
    refine Tn 6 rfl rfl ?_; simp only [Ak]
    refine Tn 7 rfl rfl ?_; simp only [Ak]
    refine Tn 8 rfl rfl ?_; simp only [Ak]
    refine Tn 9 rfl rfl ?_; simp only [Ak]
    refine Tn 10 rfl rfl ?_; simp only [Ak]
    refine Tn 11 rfl rfl ?_; simp only [Ak]
    refine Tn 12 rfl rfl ?_; simp only [Ak]
    refine Tn 13 rfl rfl ?_; simp only [Ak]
    refine Tn 14 rfl rfl ?_; simp only [Ak]
    refine Tn 15 rfl rfl ?_; simp only [Ak]
    refine Tn 16 rfl rfl ?_; simp only [Ak]
    refine Tn 17 rfl rfl ?_; simp only [Ak]
    refine Tn 18 rfl rfl ?_; simp only [Ak]
    refine Th 19 rfl rfl ?_; simp only [Ak]
    refine Th 20 rfl rfl ?_; simp only [Ak]
    refine wpAnyH_done (by kernel_rfl) ?_ _
    go_wp2
    go_meet
    case rel => exact ⟨by rw [← e2.out], fun _ _ h => h, Ae (Below.refl _ _) _⟩
   ·rcases Bool.eq_false_or_eq_true (k == 3) with hK | hK
    ·obtain ⟨E, hE⟩ : ∃ E, ((cn n : Int) == (n : Int)) = E := ⟨_, rfl⟩
     have e2 := Lh <| show E = P2 by rw [← H2.out, ← J0 n, ← J0, show ((0 : Nat) : Int) = 0 from rfl, hN, hK, hE, Bool.false_or, Bool.true_and]
     have hf := fun W => Aof 3 false (cn n) ⟨#[]⟩ 0 W
     refine wp_region_held_drew (S := (fun w' => w'.cell? ⟨g, 0, none⟩ = some (.int .i64 k) ∧ w'.cell? ⟨g, 2, none⟩ = some (.float .f64 n))) (by kernel_rfl) ?_ (fun hHeld => ?_)
     ·go_keep
     refine Th 0 rfl rfl ?_; simp only [Ak]
     refine Th 1 rfl rfl ?_; simp only [Ak]
     refine Th 2 rfl rfl ?_; simp only [Ak]
     refine Th 3 rfl rfl ?_; simp only [Ak]
     refine Th 4 rfl rfl ?_; simp only [Ak]
     refine Th 5 rfl rfl ?_; simp only [Ak]
     refine Th 6 rfl rfl ?_; simp only [Ak]
     refine Th 7 rfl rfl ?_; simp only [Ak]
     refine Th 8 rfl rfl ?_; simp only [Ak]
     refine Th 9 rfl rfl ?_; simp only [Ak]
     refine Th 10 rfl rfl ?_; simp only [Ak]
     refine Th 14 rfl rfl ?_; simp only [Ak]
     refine Th 15 rfl rfl ?_; simp only [Ak]
     refine Jp (i := 11) (by kernel_rfl) rfl rfl (by rfl) (fun K hK => ?_)
     go_simp
     with_reducible refine (C2.out _).mono ?_
     rintro e w2 ⟨rfl, b2, hk⟩
     have hHeld2 := hHeld; clear hHeld; have hHeld : (fun w' => w'.cell? ⟨g, 0, none⟩ = some (.int .i64 k) ∧ w'.cell? ⟨g, 2, none⟩ = some (.float .f64 n)) w2 := ⟨hk _ _ hHeld2.1, hk _ _ hHeld2.2⟩
     refine hK.out _ _ hHeld ?_; clear hK K hHeld2; simp only [Ak]
     refine Th 12 rfl rfl ?_; simp only [Ak]
     refine Th 13 rfl rfl ?_; simp only [Ak]
     refine Th 16 rfl rfl ?_; simp only [Ak]
     refine Th 17 rfl rfl ?_; simp only [Ak]
     refine Th 18 rfl rfl ?_; simp only [Ak]
     refine Th 19 rfl rfl ?_; simp only [Ak]
     refine Th 20 rfl rfl ?_; simp only [Ak]
     refine wpAnyH_done (by kernel_rfl) ?_ _
     go_wp2
     go_meet
     case rel => exact ⟨by rw [← e2.out], fun a v h => hk a v h, Aa (Ae (Below.refl _ _) _) b2⟩
    ·have e2 := Lh <| show false = P2 by rw [← H2.out, ← J0 n, show ((0 : Nat) : Int) = 0 from rfl, hN, hK]; rfl
     refine wp_region_held_drew (S := (fun w' => w'.cell? ⟨g, 0, none⟩ = some (.int .i64 k) ∧ w'.cell? ⟨g, 2, none⟩ = some (.float .f64 n))) (by kernel_rfl) ?_ (fun hHeld => ?_)
     ·go_keep
     refine Th 0 rfl rfl ?_; simp only [Ak]
     refine Th 1 rfl rfl ?_; simp only [Ak]
     refine Th 2 rfl rfl ?_; simp only [Ak]
     refine Th 3 rfl rfl ?_; simp only [Ak]
     refine Th 4 rfl rfl ?_; simp only [Ak]
     refine Th 5 rfl rfl ?_; simp only [Ak]
     refine Th 6 rfl rfl ?_; simp only [Ak]
     refine Th 7 rfl rfl ?_; simp only [Ak]
     refine Th 8 rfl rfl ?_; simp only [Ak]
     refine Tn 9 rfl rfl ?_; simp only [Ak]
     refine Tn 10 rfl rfl ?_; simp only [Ak]
     refine Tn 11 rfl rfl ?_; simp only [Ak]
     refine Tn 12 rfl rfl ?_; simp only [Ak]
     refine Tn 13 rfl rfl ?_; simp only [Ak]
     refine Tn 14 rfl rfl ?_; simp only [Ak]
     refine Tn 15 rfl rfl ?_; simp only [Ak]
     refine Tn 16 rfl rfl ?_; simp only [Ak]
     refine Tn 17 rfl rfl ?_; simp only [Ak]
     refine Th 18 rfl rfl ?_; simp only [Ak]
     refine Th 19 rfl rfl ?_; simp only [Ak]
     refine Th 20 rfl rfl ?_; simp only [Ak]
     refine wpAnyH_done (by kernel_rfl) ?_ _
     go_wp2
     go_meet
     case rel => exact ⟨by rw [← e2.out], fun _ _ h => h, Ae (Below.refl _ _) _⟩
  case rest =>
  obtain ⟨rfl, hk, hb⟩ := hcut
  have d0 := hk _ _ c0
  have d3 := hk _ _ c3
  have d4 := hk _ _ c4
  have HB2 := Lh (HB.out.trans (hb.mono (Nat.le_of_lt hsz.out)))
  clear hk hb c0 c1 c2 c3 c4 C2 h1 h2 H1 H2 HB
  generalize wc = W2 at *
  go_upto_region 3 with fail
  go_cut [5] (fun c wx => c = .bool P3 ∧ W2 = wx)
  case first =>
   rcases Bool.eq_false_or_eq_true s.toList.isEmpty with hN | hN
   ·have e2 := Lh <| show true = P3 by rw [← H3.out, hN, Bool.true_or]
    go_wp2
    all_goals go_meet
    all_goals (case rel => exact ⟨by rw [← e2.out], rfl⟩)
   ·rcases Bool.eq_false_or_eq_true (k == 4) with hK | hK
    ·obtain ⟨E, hE⟩ : ∃ E, ((s.size : Int) % 2 == 0) = E := ⟨_, rfl⟩
     have e2 := Lh <| show E = P3 by rw [← H3.out, hN, hK, ← hE, Ajv, Bool.false_or, Bool.true_and]
     go_wp2
     all_goals go_meet
     all_goals (case rel => exact ⟨by rw [← e2.out], rfl⟩)
    ·have e2 := Lh <| show false = P3 by rw [← H3.out, hN, hK]; rfl
     go_wp2
     all_goals go_meet
     all_goals (case rel => exact ⟨by rw [← e2.out], rfl⟩)
  case rest =>
  obtain ⟨rfl, rfl⟩ := hcut
  go_upto_region 4 with fail
  go_cut [6] (fun c wx => c = .bool P4 ∧ W2 = wx)
  case first =>
   rcases Bool.eq_false_or_eq_true (o == 0) with hN | hN
   ·have e2 := Lh <| show true = P4 by rw [← H4.out, hN, Bool.true_or]
    go_wp2
    all_goals go_meet
    all_goals (case rel => exact ⟨by rw [← e2.out], rfl⟩)
   ·rcases Bool.eq_false_or_eq_true (k == 5) with hK | hK
    ·obtain ⟨E, hE⟩ : ∃ E, decide (0 < o) = E := ⟨_, rfl⟩
     have e2 := Lh <| show E = P4 by rw [← H4.out, hN, hK, hE, Bool.false_or, Bool.true_and]
     go_wp2
     all_goals go_meet
     all_goals (case rel => exact ⟨by rw [← e2.out], rfl⟩)
    ·have e2 := Lh <| show false = P4 by rw [← H4.out, hN, hK]; rfl
     go_wp2
     all_goals go_meet
     all_goals (case rel => exact ⟨by rw [← e2.out], rfl⟩)
  case rest =>
  obtain ⟨rfl, rfl⟩ := hcut
  generalize wc = W2 at *
  clear H3 H4 d3 d4 hsz
  have hA := HA.out
  have hB := HB5.out
  go_wp2
  all_goals go_ret
  all_goals refine ⟨?_, by rw [HG.out]; exact HB2.out⟩
  all_goals simp_all
end
section
theorem Qv {P : Program} {ops : Array Oper} {rest : List Oper} {o : Oper} {a : Act} {w : World} {Q : Exit → Act → World → Prop} (hw : Region.wanted o (yielded ops a.tmps) = true) (h : o.wp P a w (wpList P ops Q rest) Q) : wpList P ops Q (o :: rest) a w := by
 unfold wpList
 rw [if_pos hw]
 exact .inl h
def BlkV (w : World) (g : Nat) (v : Val) : Prop := w.heap[g]? = some (.cells (Ar v) 24 (0, 0))
theorem ldX {ops : Array Oper} {rest : List Oper} {o : Oper} {a : Act} {w : World} {Q : Exit → Act → World → Prop} {x : Operand} {g k : Nat} {v : Val} (hg : BlkV w g v) (hd : o.dst = some k) (hw : Region.wanted o (yielded ops a.tmps) = true) (ho : o.op = .load 24 x)
  (hx : a.eval x = .pointer (some ⟨g, 0, none⟩)) (h : wpList Tryz.prog ops Q rest (a.put (some k) (.agg (Ar v))) w) : wpList Tryz.prog ops Q (o :: rest) a w := by
 refine Qv hw ?_
 unfold Oper.wp execOp
 simp only [ho, hx, Instr.loadAt, Instr.sureAddr, Sem.run_bind, Sem.run_pure, Result.andThen_ok, run_loadVar_row w g 24 24 (Ar v) (0, 0) _ hg Tryz.underlying24 rfl (by kernel_rfl)]
 show wpList Tryz.prog ops Q rest (a.put o.dst (.agg (Ar v))) w
 rw [hd]
 exact h
theorem Nh {o : Oper} {a : Act} {w : World} {x : Operand} {g : Nat} {v : Val} (hg : BlkV w g v) (ho : o.op = .load 24 x) (hx : a.eval x = .pointer (some ⟨g, 0, none⟩)) : (execOp a.eval o).run Tryz.prog w = .ok (.value (.agg (Ar v))) w := by
 unfold execOp
 simp only [ho, hx, Instr.loadAt, Instr.sureAddr, Sem.run_bind, Sem.run_pure, Result.andThen_ok, run_loadVar_row w g 24 24 (Ar v) (0, 0) _ hg Tryz.underlying24 rfl (by kernel_rfl)]
theorem BlkV.cell {w : World} {g k : Nat} {v : Val} {u : Value} (h : BlkV w g v) (hv : (Ar v)[k]? = some u) : w.cell? ⟨g, k, none⟩ = some u := (cell_of_row w g k _ _ _ h).trans hv
theorem BlkV.below {w w' : World} {g B : Nat} {v : Val} (h : BlkV w g v) (hb : Below B w w') (hg : g < B) : BlkV w' g v := (hb.block g hg).trans h
theorem Ha {w W1 : World} {v : Val} (h : w.alloc (.cells (Ar v) 24) = W1) : BlkV W1 w.heap.size v ∧ Below w.heap.size w W1 ∧ W1.heap.size = w.heap.size + 1 := by
 subst h
 exact ⟨heap_alloc_last _ _, Ag _ _, by simp⟩
structure T1 (w W : World) (x : Val) : Prop where
 k : BlkV W w.heap.size x
 l : w.heap.size < W.heap.size
 b : Below w.heap.size w W
theorem T1.new {w W1 : World} {x : Val} (h : w.alloc (.cells (Ar x) 24) = W1) : T1 w W1 x := by
 obtain ⟨a, b, c⟩ := Ha h
 exact ⟨a, by omega, b⟩
theorem T1.step {w W W' : World} {x : Val} (h : T1 w W x) (hb : Below W.heap.size W W') : T1 w W' x :=
 ⟨h.k.below hb h.l, Nat.lt_of_lt_of_le h.l hb.size, Aa h.b hb⟩
theorem T1.drew {w W : World} {x : Val} (h : T1 w W x) : T1 w W.drew x := ⟨h.k, h.l, Ae h.b 1⟩
theorem T1.cs {w W : World} {x : Val} (h : T1 w W x) : W.cell? ⟨w.heap.size, 0, none⟩ = some (.int .i64 x.vk) ∧ W.cell? ⟨w.heap.size, 1, none⟩ = some (.bool x.vb) ∧ W.cell? ⟨w.heap.size, 2, none⟩ = some (.float .f64 x.vn) ∧ W.cell? ⟨w.heap.size, 3, none⟩ = some (.string x.vs) ∧ W.cell? ⟨w.heap.size, 4, none⟩ = some (.int .i64 x.vo) :=
 ⟨h.k.cell rfl, h.k.cell rfl, h.k.cell rfl, h.k.cell rfl, h.k.cell rfl⟩
structure T2 (w W : World) (x y : Val) : Prop where
 k : BlkV W w.heap.size x
 k2 : BlkV W (w.heap.size + 1) y
 l : w.heap.size + 1 < W.heap.size
 b : Below w.heap.size w W
theorem T2.new {w W1 W2 : World} {x y : Val} (h : w.alloc (.cells (Ar x) 24) = W1) (g : W1.alloc (.cells (Ar y) 24) = W2) : T2 w W2 x y := by
 obtain ⟨a, b, c⟩ := Ha h
 obtain ⟨a2, b2, c2⟩ := Ha g
 rw [c] at a2
 exact ⟨a.below b2 (by omega), a2, by omega, Aa b b2⟩
theorem T2.step {w W W' : World} {x y : Val} (h : T2 w W x y) (hb : Below W.heap.size W W') : T2 w W' x y :=
 ⟨h.k.below hb (by have := h.l; omega), h.k2.below hb h.l, Nat.lt_of_lt_of_le h.l hb.size, Aa h.b hb⟩
theorem T2.cs {w W : World} {x y : Val} (h : T2 w W x y) : W.cell? ⟨w.heap.size, 0, none⟩ = some (.int .i64 x.vk) ∧ W.cell? ⟨w.heap.size, 1, none⟩ = some (.bool x.vb) ∧ W.cell? ⟨w.heap.size, 2, none⟩ = some (.float .f64 x.vn) ∧ W.cell? ⟨w.heap.size, 3, none⟩ = some (.string x.vs) ∧ W.cell? ⟨w.heap.size, 4, none⟩ = some (.int .i64 x.vo) ∧
  W.cell? ⟨w.heap.size + 1, 0, none⟩ = some (.int .i64 y.vk) ∧ W.cell? ⟨w.heap.size + 1, 1, none⟩ = some (.bool y.vb) ∧ W.cell? ⟨w.heap.size + 1, 2, none⟩ = some (.float .f64 y.vn) ∧ W.cell? ⟨w.heap.size + 1, 3, none⟩ = some (.string y.vs) ∧ W.cell? ⟨w.heap.size + 1, 4, none⟩ = some (.int .i64 y.vo) :=
 ⟨h.k.cell rfl, h.k.cell rfl, h.k.cell rfl, h.k.cell rfl, h.k.cell rfl, h.k2.cell rfl, h.k2.cell rfl, h.k2.cell rfl, h.k2.cell rfl, h.k2.cell rfl⟩
end
section
def uL : List UInt8 → List Nat
 | a :: b :: r => (a.toNat * 256 + b.toNat) :: uL r
 | _ => []
def bL (l : List Nat) : List UInt8 := l.flatMap fun u => [UInt8.ofNat (u / 256), UInt8.ofNat u]
theorem Sj : ∀ l : List UInt8, (uL l).length = l.length / 2
 | [] => rfl
 | [_] => by simp [uL]
 | a :: b :: r => by
  have := Sj r
  simp only [uL, List.length_cons, this]
  omega
theorem Ah0 : ∀ (l : List UInt8) (i : Nat) (h : 2 * i + 1 < l.length), (uL l)[i]? = some (l[2 * i].toNat * 256 + l[2 * i + 1].toNat)
 | [], i, h => by simp at h
 | [_], i, h => by simp at h
 | a :: b :: r, 0, _ => by simp [uL]
 | a :: b :: r, i + 1, h => by
  have := Ah0 r i (by simp at h; omega)
  simp only [uL, List.getElem?_cons_succ, this]
  rfl
theorem Aog : ∀ (l : List UInt8), ∀ u ∈ uL l, u < 65536
 | [], u, h => by simp [uL] at h
 | [_], u, h => by simp [uL] at h
 | a :: b :: r, u, h => by
  simp only [uL, List.mem_cons] at h
  rcases h with rfl | h
  ·have := a.toNat_lt; have := b.toNat_lt; omega
  ·exact Aog r u h
theorem Am9 (u : Nat) (l : List Nat) : bL (u :: l) = UInt8.ofNat (u / 256) :: UInt8.ofNat u :: bL l := rfl
theorem Rr (l m : List Nat) : bL (l ++ m) = bL l ++ bL m := by simp [bL]
theorem Ais (u : Nat) : bL [u] = [UInt8.ofNat (u / 256), UInt8.ofNat u] := rfl
theorem Iy : ∀ l : List Nat, (bL l).length = 2 * l.length
 | [] => rfl
 | u :: r => by rw [Am9]; simp [Iy r]; omega
def us (s : ByteArray) : List Nat := uL s.data.toList
def ln (s : ByteArray) : Nat := s.size / 2
def un (s : ByteArray) (i : Nat) : Nat := (us s).getD i 0
theorem Hx (s : ByteArray) : 2 * ln s ≤ s.size := by unfold ln; omega
theorem Iv (s : ByteArray) : (us s).length = ln s := by
 unfold us ln; rw [Sj, Go.Lib.size_eq]
theorem Aqn (s : ByteArray) : ∀ u ∈ us s, u < 65536 := Aog _
theorem Ap8 (s : ByteArray) (i : Nat) (h : 2 * i + 1 < s.size) : un s i = (s[2 * i]'(by omega)).toNat * 256 + (s[2 * i + 1]'h).toNat := by
 have := Ah0 s.data.toList i (by rw [← Go.Lib.size_eq]; exact h)
 unfold un us
 rw [List.getD_eq_getElem?_getD, this]
 rfl
theorem Aop (s : ByteArray) (i : Nat) : un s i < 65536 := by
 unfold un
 rw [List.getD_eq_getElem?_getD]
 cases h : (us s)[i]? with
 | none => simp
 | some u => exact Aqn s u (List.mem_of_getElem? h)
theorem Abk (s : ByteArray) (i : Nat) (h : i < (us s).length) : (us s)[i] = un s i := by
 unfold un; rw [List.getD_eq_getElem?_getD, List.getElem?_eq_getElem h]; rfl
theorem Kq (s : ByteArray) (i : Nat) (h : i < ln s) : (us s).take (i + 1) = (us s).take i ++ [un s i] := by
 have h' : i < (us s).length := by rw [Iv]; exact h
 rw [List.take_succ_eq_append_getElem h', Abk]
theorem L6 (s : ByteArray) : (us s).take (ln s) = us s := List.take_of_length_le (by rw [Iv]; exact Nat.le_refl _)
abbrev Bld (B : Nat) (l : List UInt8) (w : World) : Prop := Lib.IsBuilderF 79 5 B B (Lib.byteCells l) w
theorem Ajx {B : Nat} {l : List UInt8} {w : World} (h : Bld B l w) : B < w.heap.size := by
 rcases h with h | h <;> exact Lib.BuilderAtF.lt h
theorem R9 (w : World) (o : Obj) : (w.alloc o).heap[w.heap.size]? = some o := by
 show (w.heap.push o)[w.heap.size]? = _
 rw [Array.getElem?_push, if_pos rfl]
theorem Ah7 (s : ByteArray) : (s.size : Int) / 2 = (ln s : Int) := by unfold ln; omega
theorem Jz (s : ByteArray) (w : World) (hs : s.size ≤ maxLen) : Cq 48 #[.string s] (.int .i64 (ln s)) w := by
 unfold maxLen at hs
 have hm : (s.size : Int) ≤ 9223372036854775807 := by omega
 go_enter Tryz.func48, Tryz.ntmps48
 go_wp2
 go_ret
 exact ⟨by rw [← Ah7]; rfl, rfl⟩
theorem J4 (s : ByteArray) (w : World) (hs : s.size ≤ maxLen) : Cq 88 #[.string s] (.int .i64 (ln s)) w := by
 unfold maxLen at hs
 have hm : (s.size : Int) ≤ 9223372036854775807 := by omega
 go_enter Tryz.func88, Tryz.ntmps88
 go_wp2
 go_ret
 exact ⟨by rw [← Ah7]; rfl, rfl⟩
theorem Ap0 (a b : Nat) (ha : a < 256) (hb : b < 256) : bits BinOp.or IntKind.u16 ((a : Int) * 256) (b : Int) = ((a * 256 + b : Nat) : Int) := by
 have e : ((a : Int) * 256) = ((a * 256 : Nat) : Int) := by omega
 rw [e, u16_or_nat _ _ (by omega) (by omega)]
 have := Nat.two_pow_add_eq_or_of_lt (i := 8) (b := b) (by omega) a
 rw [show a * 256 = 2 ^ 8 * a by omega, ← this]
theorem V6 (s : ByteArray) (i : Nat) (h0 : 2 * i < s.size) (h1 : 2 * i + 1 < s.size) :
  bits BinOp.or IntKind.u16 (IntKind.u16.wrap (IntKind.u16.wrap ((s[2 * i]'h0).toNat : Int) * 256)) (IntKind.u16.wrap ((s[2 * i + 1]'h1).toNat : Int)) = (un s i : Int) := by
 have c0 := (s[2 * i]'h0).toNat_lt
 have c1 := (s[2 * i + 1]'h1).toNat_lt
 rw [IntWalk.u16_in ((s[2 * i]'h0).toNat : Int) (by omega), IntWalk.u16_in (((s[2 * i]'h0).toNat : Int) * 256) (by omega), IntWalk.u16_in _ (by omega)]
 rw [Ap0 _ _ c0 c1, Ap8 s i h1]
theorem Ph (s : ByteArray) (i : Nat) (w : World) (h : i < ln s) (hs : s.size ≤ maxLen) :
  Cp 94 #[.string s, .int .i64 i] w fun e w' => e = .returned (.int .u16 (un s i)) ∧ ∃ n, w' = w.drewN n := by
 unfold maxLen at hs
 have hl := Hx s
 have a0 : (0 : Int) ≤ 2 * (i : Int) := by omega
 have a1 : 2 * (i : Int) < (s.size : Int) := by omega
 have a2 : (0 : Int) ≤ 2 * (i : Int) + 1 := by omega
 have a3 : 2 * (i : Int) + 1 < (s.size : Int) := by omega
 have b0 : IntKind.i64.wrap (2 * (i : Int)) = 2 * (i : Int) := IntWalk.i64_in _ (by omega)
 have b1 : IntKind.i64.wrap (2 * (i : Int) + 1) = 2 * (i : Int) + 1 := IntWalk.i64_in _ (by omega)
 have b2 : (2 * (i : Int)).toNat = 2 * i := by omega
 have b3 : (2 * (i : Int) + 1).toNat = 2 * i + 1 := by omega
 have H := Lh (V6 s i (by omega) (by omega))
 clear hl
 go_enter Tryz.func94, Tryz.ntmps94
 go_wp2
 go_quiet (fail)
 go_wp2
 go_ret
 exact ⟨by rw [← H.out]; rfl, _, rfl⟩
theorem J2 (s : ByteArray) (i : Nat) (w : World) (h : i < ln s) (hs : s.size ≤ maxLen) :
  Cp 89 #[.string s, .int .i64 i] w fun e w' => e = .returned (.int .u16 (un s i)) ∧ ∃ n, w' = w.drewN n := by
 unfold maxLen at hs
 have hl := Hx s
 have a0 : (0 : Int) ≤ 2 * (i : Int) := by omega
 have a1 : 2 * (i : Int) < (s.size : Int) := by omega
 have a2 : (0 : Int) ≤ 2 * (i : Int) + 1 := by omega
 have a3 : 2 * (i : Int) + 1 < (s.size : Int) := by omega
 have b0 : IntKind.i64.wrap (2 * (i : Int)) = 2 * (i : Int) := IntWalk.i64_in _ (by omega)
 have b1 : IntKind.i64.wrap (2 * (i : Int) + 1) = 2 * (i : Int) + 1 := IntWalk.i64_in _ (by omega)
 have b2 : (2 * (i : Int)).toNat = 2 * i := by omega
 have b3 : (2 * (i : Int) + 1).toNat = 2 * i + 1 := by omega
 have H := Lh (V6 s i (by omega) (by omega))
 clear hl
 go_enter Tryz.func89, Tryz.ntmps89
 go_wp2
 go_quiet (fail)
 go_wp2
 go_ret
 exact ⟨by rw [← H.out]; rfl, _, rfl⟩
theorem Sc (l : List UInt8) (u : Nat) (hu : u < 65536) :
  Lib.byteCells (l ++ bL [u]) = (Lib.byteCells l ++ [Value.int .u8 ((u : Int) / 256)]) ++ [Value.int .u8 ((u : Int) % 256)] := by
 rw [Lib.byteCells_append, Ais]
 simp [Lib.byteCells]
 omega
theorem Q9 (B : Nat) (l : List UInt8) (u : Nat) (hu : u < 65536) (w : World) (h : Bld B l w) (hlen : l.length + 2 ≤ 140737488355328) (hBw : B ≤ w.heap.size) :
  Cp 81 #[.pointer (some ⟨B, 0, none⟩), .int .u16 u] w fun e w' => e = .returned (.tuple #[]) ∧ Bld B (l ++ bL [u]) w' ∧ Below B w w' := by
 have h1 : (Lib.byteCells l).length + 1 ≤ 140737488355328 := by rw [Lib.byteCells_length]; omega
 have h2 : ((Lib.byteCells l) ++ [Value.int .u8 ((u : Int) / 256)]).length + 1 ≤ 140737488355328 := by rw [List.length_append, Lib.byteCells_length]; simp; omega
 go_enter Tryz.func81, Tryz.ntmps81
 go_wp2_with fail
 refine (Tryz.Builder_WriteByte_k B B _ _ _ h h1 hBw).mono ?_
 rintro e w1 ⟨rfl, hb1, bl1, _⟩
 have hBw1 := Nat.le_trans hBw bl1.size
 go_wp2_with fail
 refine (Tryz.Builder_WriteByte_k B B _ _ _ (Or.inr hb1) h2 hBw1).mono ?_
 rintro e w2 ⟨rfl, hb2, bl2, _⟩
 go_wp2
 go_end0
 refine ⟨rfl, ?_, bl1.trans bl2⟩
 rw [Bld, Sc l u hu]
 exact Or.inr hb2
abbrev Own (B : Nat) (l : List UInt8) (v : Value) (w : World) : Prop := w.ownsRow B 5 1 v l.length (Lib.byteCells l)
theorem Aqk : (Tryz.prog.info? 5).map (fun i => (i.zero, i.size, i.bytes)) = some (some (.int .u8 0), 1, 1) := by kernel_rfl
theorem Anz (u : Nat) (hu : u < 65536) : bits BinOp.and IntKind.u16 (u : Int) 255 % 256 = (u : Int) % 256 := by
 have := u16_and_nat u 255 hu (by omega)
 rw [show (255 : Int) = ((255 : Nat) : Int) from rfl, this]
 have h2 := Nat.and_two_pow_sub_one_eq_mod u 8
 rw [show (255 : Nat) = 2 ^ 8 - 1 from rfl, h2]
 omega
theorem Own.nil (B : Nat) (w : World) : Own B [] (.slice none 0 0) w := World.ownsRow_nil _ _ _ _
theorem Am7 (B : Nat) (l : List UInt8) (v : Value) (u : Nat) (hu : u < 65536) (w : World) (h : Own B l v w) (hlen : l.length + 2 ≤ 140737488355328) (hBw : B ≤ w.heap.size) :
  Cp 68 #[v, .int .u16 u] w fun e w' => ∃ v', e = .returned v' ∧ Own B (l ++ bL [u]) v' w' ∧ Below B w w' := by
 obtain ⟨i0, hi, hz0, hz1, hz2⟩ := info_parts Aqk
 have hA := Anz u hu
 go_enter Tryz.func68, Tryz.ntmps68
 go_wp2_with (at_builtin; refine wpList_append_own _ rfl _ _ 66 rfl B 5 i0 (.int .u8 0) 1 1 Tryz.underlying66 hi hz0 hz1 hz2 rfl (by decide) v l.length (Lib.byteCells l) rfl (h.alloc _) ⟨w.heap.size, 0, none⟩ 2 2 [.int .u8 ((u : Int) / 256), .int .u8 ((u : Int) % 256)] rfl rfl ?c1 ?c2 ?c3 ?c4 ?c5 ?_)
 case c1 => exact cell_two_new _ _ _ _
 case c2 => simp [Value.oneCell']
 case c3 => unfold maxLen; omega
 case c4 => omega
 case c5 => simp; omega
 intro v' w1 hown hg _
 go_wp2
 go_ret
 refine ⟨v', rfl, ?_, ((Below.refl B w).alloc hBw _).grown hg (by simp; omega) (fun k hk => (h.lt k hk).1)⟩
 rw [Own, Sc l u hu]
 simpa [Ais] using hown
def spB (u : Int) : Bool := u == 9 || u == 11 || u == 12 || u == 32 || u == 160 || u == 5760 || u == 6158 || u == 8239 || u == 8287 || u == 12288 || u == 65279 || (decide (8192 ≤ u) && decide (u ≤ 8202))
def enB (u : Int) : Bool := u == 10 || u == 13 || u == 8232 || u == 8233
def blB (u : Int) : Bool := spB u || enB u
theorem Aev (u : Int) (w : World) : Cq 124 #[.int .u16 u] (.bool (spB u)) w := by
 go_enter Tryz.func124, Tryz.ntmps124
 go_wp2
 all_goals go_ret
 all_goals exact ⟨by simp [spB, *] <;> omega, rfl⟩
theorem Aa0 (u : Int) (w : World) : Cq 105 #[.int .u16 u] (.bool (spB u)) w := by
 go_enter Tryz.func105, Tryz.ntmps105
 go_wp2
 all_goals go_ret
 all_goals exact ⟨by simp [spB, *] <;> omega, rfl⟩
theorem Aii (u : Int) (w : World) : Cq 125 #[.int .u16 u] (.bool (enB u)) w := by
 go_enter Tryz.func125, Tryz.ntmps125
 go_wp2
 all_goals go_ret
 all_goals exact ⟨by simp [enB, *], rfl⟩
theorem Afh (u : Int) (w : World) : Cq 106 #[.int .u16 u] (.bool (enB u)) w := by
 go_enter Tryz.func106, Tryz.ntmps106
 go_wp2
 all_goals go_ret
 all_goals exact ⟨by simp [enB, *], rfl⟩
theorem Afm (u : Int) (w : World) : Cq 93 #[.int .u16 u] (.bool (blB u)) w := by
 go_enter Tryz.func93, Tryz.ntmps93
 go_wp2_with (first | (go_at_call 124; refine (Aev _ _).mono ?_; rintro e w' ⟨rfl, rfl⟩) | (go_at_call 125; refine (Aii _ _).mono ?_; rintro e w' ⟨rfl, rfl⟩))
 all_goals go_ret
 all_goals exact ⟨by simp [blB, *], rfl⟩
theorem Aar (ns : List UInt8) (s : ByteArray) : (ns.map fun b => (b.toNat : Int)).foldl (fun r n => r.push (UInt8.ofNat n.toNat)) s = ⟨s.data ++ ns.toArray⟩ := by
 induction ns generalizing s with
 | nil => simp
 | cons b r ih =>
  simp only [List.map_cons, List.foldl_cons, ih]
  apply ByteArray.ext
  simp [ByteArray.push]
theorem Nw {B : Nat} {l : List UInt8} {v : Value} {w : World} (h : Own B l v w) : (convert 66 9 v).run Tryz.prog w = .ok (.string ⟨l.toArray⟩) w := by
 rcases h.2 with ⟨rfl, hn⟩ | ⟨g, cap, cur, rfl, hB, hg, hcap, hmax, hcur, htk⟩
 ·have : l = [] := List.eq_nil_of_length_eq_zero hn
  subst this
  rfl
 ·have hc := h.cells (g := g) rfl
  rw [run_convert_bytes_string w 66 9 5 _ _ _ Tryz.underlying66 Tryz.underlying5 Tryz.underlying9]
  have hl := run_loadCells_list (P := Tryz.prog) w ⟨g, 0, none⟩ (Lib.byteCells l) hc
  rw [Lib.byteCells_length] at hl
  rw [run_bytesToString w ⟨g, 0, none⟩ l.length cap (l.map fun b => (b.toNat : Int)) (by rw [hl]; simp [Lib.byteCells, Function.comp_def])]
  rw [Aar]
  simp
theorem Rk {B : Nat} {l : List UInt8} {v : Value} {w : World} (h : Own B l v w) (n : Nat) : Own B l v (w.drewN n) := h
def wdL (s : ByteArray) : List Nat := s.data.toList.map fun b => b.toNat
theorem Pc (s : ByteArray) : (wdL s).length = s.size := by rw [wdL, List.length_map, ← Lib.size_eq]
theorem Zb (s : ByteArray) (k : Nat) (h : k < s.size) : (wdL s).take (k + 1) = (wdL s).take k ++ [(s[k]'h).toNat] := by
 have h' : k < (wdL s).length := by rw [Pc]; exact h
 rw [List.take_succ_eq_append_getElem h']
 simp [wdL]; rfl
theorem Ac1 (s : ByteArray) : (wdL s).take s.size = wdL s := List.take_of_length_le (by rw [Pc]; exact Nat.le_refl _)
theorem Wk {α : Type} (l : List α) (k : Nat) : (l.take k).length ≤ k := List.length_take_le _ _
theorem Aji (s : ByteArray) (w : World) (hs : s.size ≤ 35184372088832) :
  Ct 52 #[.string s] (.string ⟨(bL (wdL s)).toArray⟩) w := by
 have hm : (s.size : Int) ≤ 35184372088832 := by omega
 have HS := Lh hs
 clear hs
 have hg : Cp 80 #[.pointer (some ⟨w.heap.size, 0, none⟩), .int .i64 (2 * (s.size : Int))] (w.alloc (.cells #[.pointer none, .slice none 0 0] 79)) fun e w' => e = .returned (.tuple #[]) ∧ (Lib.BuilderAt 79 5 w.heap.size w.heap.size (.pointer (some ⟨w.heap.size, 0, none⟩)) [] w' ∧ Below w.heap.size (w.alloc (.cells #[.pointer none, .slice none 0 0] 79)) w') :=
  Tryz.Builder_Grow_fresh w.heap.size w.heap.size (2 * s.size) _ (Nat.le_refl _) (R9 w _) (by simp) (by have := HS.out; omega)
 go_enter Tryz.func52, Tryz.ntmps52
 go_wp2_with fail
 refine hg.mono ?_
 rintro e w1 ⟨rfl, hb1, bl1⟩
 have hbl : Below w.heap.size w w1 := ((Below.refl w.heap.size w).alloc (Nat.le_refl _) _).trans bl1
 clear hg
 go_wp2
 go_loopw [11] (fun i wr => ∃ k : Nat, i = .int .i64 k ∧ k ≤ s.size ∧ Bld w.heap.size (bL ((wdL s).take k)) wr ∧ Below w.heap.size w wr) (fun i _ => s.size - (intOf i).toNat)
 case atStart => exact ⟨0, rfl, Nat.zero_le _, Lib.IsBuilderF.of (.inr hb1), hbl⟩
 case round =>
  obtain ⟨k, rfl, hk, hI, hbw⟩ := hrel
  have hsz := Ajx hI
  by_cases hlt : k < s.size
  ·have hl := Wk (wdL s) k
   have hu := (s[k]'hlt).toNat_lt
   have hr := fun W h hb => Q9 w.heap.size (bL ((wdL s).take k)) (s[k]'hlt).toNat (by omega) W h (by rw [Iy]; have := HS.out; omega) hb
   have HW := Lh (show IntKind.u16.wrap (((s[k]'hlt).toNat : Nat) : Int) = ((s[k]'hlt).toNat : Int) from IntWalk.u16_in _ (by omega))
   have HG := Lh (Zb s k hlt)
   clear hl hu
   go_wp2_with fail
   rw [HW.out]
   refine (hr _ hI (by omega)).mono ?_
   rintro e w2 ⟨rfl, hI2, hb2⟩
   go_wp2
   go_roundw
   case rel => exact ⟨k + 1, by go_num, by omega, by rw [HG.out, Rr]; exact hI2, hbw.trans hb2⟩
   case measure => simp [intOf]; omega
  ·have hS := Tryz.Builder_String_any_k w.heap.size w.heap.size _ wr hI (by omega)
   have HZ := Lh (show (wdL s).take k = wdL s by rw [show k = s.size by omega]; exact Ac1 s)
   go_wp2_with (go_at_call 82; refine hS.mono ?_; rintro e w2 ⟨rfl, _, hb2, _⟩)
   go_ret
   rw [HZ.out]
   exact ⟨rfl, hbw.trans hb2⟩
theorem Agh (s : ByteArray) (w : World) (hs : s.size ≤ 35184372088832) :
  Ct 43 #[.string s] (.string ⟨(bL (wdL s)).toArray⟩) w := by
 have hm : (s.size : Int) ≤ 35184372088832 := by omega
 have HS := Lh hs
 clear hs
 go_enter Tryz.func43, Tryz.ntmps43
 go_wp2
 go_loopw [3, 4] (fun v i wr => ∃ k : Nat, i = .int .i64 k ∧ k ≤ s.size ∧ Own w.heap.size (bL ((wdL s).take k)) v wr ∧ Below w.heap.size w wr) (fun _ i _ => s.size - (intOf i).toNat)
 case atStart => exact ⟨0, rfl, Nat.zero_le _, Own.nil _ _, Below.refl _ _⟩
 case round =>
  obtain ⟨k, rfl, hk, hI, hbw⟩ := hrel
  by_cases hlt : k < s.size
  ·have hl := Wk (wdL s) k
   have hu := (s[k]'hlt).toNat_lt
   have hr := fun W v h hb => Am7 w.heap.size (bL ((wdL s).take k)) v (s[k]'hlt).toNat (by omega) W h (by rw [Iy]; have := HS.out; omega) hb
   have HW := Lh (show IntKind.u16.wrap (((s[k]'hlt).toNat : Nat) : Int) = ((s[k]'hlt).toNat : Int) from IntWalk.u16_in _ (by omega))
   have HG := Lh (Zb s k hlt)
   clear hl hu
   go_wp2_with fail
   rw [HW.out]
   refine (hr _ _ hI hbw.size).mono ?_
   rintro e w2 ⟨v2, rfl, hI2, hb2⟩
   go_wp2
   go_roundw
   case rel => exact ⟨k + 1, by go_num, by omega, by rw [HG.out, Rr]; exact hI2, hbw.trans hb2⟩
   case measure => simp [intOf]; omega
  ·have HZ := Lh (show (wdL s).take k = wdL s by rw [show k = s.size by omega]; exact Ac1 s)
   have hcv := Nw hI
   go_wp2
   go_ret
   rw [HZ.out]
   exact ⟨rfl, hbw⟩
theorem Aid : (Tryz.prog.info? 68).map (fun i => (i.zero, i.size, i.bytes)) = some (some (.int .u16 0), 1, 2) := by kernel_rfl
theorem Ae6 {w : World} {b : Nat} {t : TypeId} {n : Nat} {f : Nat → Value} (h : w.rowIs b t n f) (m : Nat) : (w.drewN m).rowIs b t n f := h
theorem Aeg (s : ByteArray) (w : World) (hs : s.size ≤ 140737488355328) :
  Cp 91 #[.string s] w fun e w' => e = .returned (.slice (some ⟨w.heap.size, 0, none⟩) (ln s) (ln s)) ∧ w'.rowIs w.heap.size 68 (ln s) (fun j => .int .u16 (un s j : Nat)) ∧ Below w.heap.size w w' := by
 have hl := Hx s
 have hs63 : s.size ≤ maxLen := by unfold maxLen; omega
 have hm : ((ln s : Nat) : Int) ≤ 70368744177664 := by omega
 have hmk := run_make_row' (P := Tryz.prog) 86 68 (.int .u16 0) 2 Tryz.underlying86 Aid rfl .i64 .i64 (ln s) (by omega) (by omega) w
 have hmade := World.rowIs_made w (.int .u16 0) (ln s) 68
 have H63 := Lh hs63
 have c1 := fun W => Jz s W H63.out
 clear hs hl hs63
 have hr0 : (w.alloc (.cells (madeCells #[.int .u16 0] (ln s)) 68)).rowIs w.heap.size 68 (ln s) (fun j => .int .u16 ((if j < 0 then un s j else 0 : Nat) : Int)) := hmade.congr (fun j _ => by simp)
 clear hmade
 go_enter Tryz.func91, Tryz.ntmps91
 go_wp2_with (go_at_call 48; refine (c1 _).mono ?_; rintro e w' ⟨rfl, rfl⟩)
 clear hmk
 go_loopw [10] (fun i wr => ∃ k : Nat, i = .int .i64 k ∧ k ≤ ln s ∧ wr.rowIs w.heap.size 68 (ln s) (fun j => .int .u16 ((if j < k then un s j else 0 : Nat) : Int)) ∧ Below w.heap.size w wr) (fun i _ => ln s - (intOf i).toNat)
 case atStart => exact ⟨0, rfl, Nat.zero_le _, hr0, (Below.refl _ _).alloc (Nat.le_refl _) _⟩
 case round =>
  obtain ⟨k, rfl, hk, hI, hbw⟩ := hrel
  by_cases hlt : k < ln s
  ·have hcell : wr.cell? ⟨w.heap.size, k, none⟩ = some (.int .u16 0) := by
    have := hI.cell hlt
    simpa using this
   have hfz := hI.frozen k
   have c2 := fun W => Ph s k W hlt H63.out
   have hI2 := hI.set k (.int .u16 (un s k : Nat))
   have hI3 : (wr.setCell ⟨w.heap.size, k, none⟩ (.int .u16 (un s k : Nat))).rowIs w.heap.size 68 (ln s) (fun j => .int .u16 ((if j < k + 1 then un s j else 0 : Nat) : Int)) := by
    refine hI2.congr fun j hj => ?_
    by_cases h1 : j = k
    ·subst h1; simp
    ·by_cases h2 : j < k
     ·rw [if_neg h1, if_pos h2, if_pos (by omega)]
     ·rw [if_neg h1, if_neg h2, if_neg (by omega)]
   have HI := Lh hI3
   clear hI hI2 hI3
   go_wp2_with fail
   refine Dm (c2 _) fun n => ?_
   go_wp2
   go_roundw
   case rel => exact ⟨k + 1, by go_num, by omega, Ae6 HI.out n, Ae (hbw.setCell (Nat.le_refl _) _) n⟩
   case measure => simp [intOf]; omega
  ·have HI := Lh (show wr.rowIs w.heap.size 68 (ln s) (fun j => .int .u16 (un s j : Nat)) from hI.congr fun j hj => by rw [if_pos (by omega)])
   clear hI
   go_wp2
   go_ret
   exact ⟨rfl, HI.out, hbw⟩
def Qr (s : ByteArray) (i : Int) : Bool := decide (0 ≤ i) && decide (i < ln s)
def unV (s : ByteArray) (i : Int) : Nat := if Qr s i then un s i.toNat else 0
theorem Afi (s : ByteArray) (i : Int) (w : World) (hs : s.size ≤ maxLen) :
  Cp 104 #[.string s, .int .i64 i] w fun e w' => e = .returned (.tuple #[.int .u16 (unV s i), .bool (Qr s i)]) ∧ ∃ n, w' = w.drewN n := by
 have c1 := fun W => J4 s W hs
 by_cases h0 : 0 ≤ i
 ·obtain ⟨k, rfl⟩ := Int.eq_ofNat_of_zero_le h0
  by_cases h1 : k < ln s
  ·have e1 : Qr s (k : Int) = true := by simp [Qr]; omega
   have e2 : unV s (k : Int) = un s k := by unfold unV; rw [if_pos e1]; rfl
   have c2 := fun W => J2 s k W h1 hs
   have h1' : (k : Int) < (ln s : Int) := by omega
   rw [e1, e2]
   clear e1 e2
   go_enter Tryz.func104, Tryz.ntmps104
   go_wp2_with (first | (go_at_call 88; refine (c1 _).mono ?_; rintro e w' ⟨rfl, rfl⟩) | (go_at_call 89; refine (c2 _).mono ?_; rintro e w' ⟨rfl, n, rfl⟩))
   go_ret2
   exact ⟨rfl, n, rfl⟩
  ·have e1 : Qr s (k : Int) = false := by simp [Qr]; omega
   have e2 : unV s (k : Int) = 0 := by unfold unV; rw [e1]; rfl
   have h1' : ¬ ((k : Int) < (ln s : Int)) := by omega
   rw [e1, e2]
   clear e1 e2
   go_enter Tryz.func104, Tryz.ntmps104
   go_wp2_with (first | (go_at_call 88; refine (c1 _).mono ?_; rintro e w' ⟨rfl, rfl⟩))
   go_ret2
   exact ⟨rfl, 0, rfl⟩
 ·have e1 : Qr s i = false := by simp [Qr]; omega
  have e2 : unV s i = 0 := by unfold unV; rw [e1]; rfl
  rw [e1, e2]
  clear e1 e2
  go_enter Tryz.func104, Tryz.ntmps104
  go_wp2_with (first | (go_at_call 88; refine (c1 _).mono ?_; rintro e w' ⟨rfl, rfl⟩))
  go_ret2
  exact ⟨rfl, 0, rfl⟩
def slS (s : ByteArray) (f t : Int) : ByteArray := if max f 0 < min t (ln s) then s.extract (2 * (max f 0).toNat) (2 * (min t (ln s)).toNat) else { data := #[] }
theorem Rm (s : ByteArray) (f t : Int) (w : World) (hs : s.size ≤ maxLen) :
  Cq 47 #[.string s, .int .i64 f, .int .i64 t] (.string (slS s f t)) w := by
 have hl := Hx s
 have hm : (s.size : Int) ≤ 9223372036854775807 := by unfold maxLen at hs; omega
 have c1 := fun W => Jz s W hs
 have hsl : slS s f t = if max f 0 < min t (ln s) then s.extract (2 * (max f 0).toNat) (2 * (min t (ln s)).toNat) else { data := #[] } := rfl
 have hm1 : 0 ≤ max f 0 := by omega
 have hn1 : min t (ln s) ≤ ln s := by omega
 have hl2 : 2 * ((ln s : Nat) : Int) ≤ (s.size : Int) := by omega
 obtain ⟨m, hm0⟩ : ∃ m : Int, max f 0 = m := ⟨_, rfl⟩
 obtain ⟨n, hn0⟩ : ∃ n : Int, min t (ln s) = n := ⟨_, rfl⟩
 rw [hm0, hn0] at hsl
 rw [hm0] at hm1
 rw [hn0] at hn1
 by_cases h : m < n
 ·rw [if_pos h] at hsl
  have HS := Lh hsl
  have k1 : 2 * m ≤ 2 * n := by omega
  have k2 : 2 * n ≤ (s.size : Int) := by omega
  have k3 : 0 ≤ 2 * m := by omega
  have k4 : 0 ≤ 2 * n := by omega
  have e1 : (2 * m).toNat = 2 * m.toNat := by omega
  have e2 : (2 * n).toNat = 2 * n.toNat := by omega
  clear hsl hl hs hl2 hn1
  go_enter Tryz.func47, Tryz.ntmps47
  go_wp2_with (go_at_call 48; refine (c1 _).mono ?_; rintro e w' ⟨rfl, rfl⟩)
  go_ret
  exact ⟨by rw [HS.out]; rfl, rfl⟩
 ·rw [if_neg h] at hsl
  have HS := Lh hsl
  clear hsl hl hs hl2 hn1
  go_enter Tryz.func47, Tryz.ntmps47
  go_wp2_with (go_at_call 48; refine (c1 _).mono ?_; rintro e w' ⟨rfl, rfl⟩)
  go_ret
  exact ⟨by rw [HS.out]; rfl, rfl⟩
theorem Abt (s : ByteArray) (f t : Int) (w : World) (hs : s.size ≤ maxLen) :
  Cq 107 #[.string s, .int .i64 f, .int .i64 t] (.string (slS s f t)) w := by
 have hl := Hx s
 have hm : (s.size : Int) ≤ 9223372036854775807 := by unfold maxLen at hs; omega
 have c1 := fun W => J4 s W hs
 have hl2 : 2 * ((ln s : Nat) : Int) ≤ (s.size : Int) := by omega
 have main : ∀ m n : Int, max f 0 = m → min t (ln s) = n → (m = f ∧ ¬ f < 0 ∨ m = 0 ∧ f < 0) → (n = t ∧ ¬ ((ln s : Nat) : Int) < t ∨ n = (ln s : Nat) ∧ ((ln s : Nat) : Int) < t) →
   Cq 107 #[.string s, .int .i64 f, .int .i64 t] (.string (slS s f t)) w := by
  intro m n hm0 hn0 hf ht
  have hsl : slS s f t = if m < n then s.extract (2 * m.toNat) (2 * n.toNat) else { data := #[] } := by unfold slS; rw [hm0, hn0]
  have hm1 : 0 ≤ m := by omega
  have hn1 : n ≤ ln s := by omega
  clear hm0 hn0
  by_cases h : m < n
  ·rw [if_pos h] at hsl
   have HS := Lh hsl
   have k1 : 2 * m ≤ 2 * n := by omega
   have k2 : 2 * n ≤ (s.size : Int) := by omega
   have k3 : 0 ≤ 2 * m := by omega
   have k4 : 0 ≤ 2 * n := by omega
   have e1 : (2 * m).toNat = 2 * m.toNat := by omega
   have e2 : (2 * n).toNat = 2 * n.toNat := by omega
   clear hsl hl hs hl2 hn1
   rcases hf with ⟨rfl, hf⟩ | ⟨rfl, hf⟩ <;> rcases ht with ⟨rfl, ht⟩ | ⟨rfl, ht⟩
   all_goals
    go_enter Tryz.func107, Tryz.ntmps107
    go_wp2_with (go_at_call 88; refine (c1 _).mono ?_; rintro e w' ⟨rfl, rfl⟩)
    go_ret
    exact ⟨by rw [HS.out]; rfl, rfl⟩
  ·rw [if_neg h] at hsl
   have HS := Lh hsl
   clear hsl hl hs hl2 hn1
   rcases hf with ⟨rfl, hf⟩ | ⟨rfl, hf⟩ <;> rcases ht with ⟨rfl, ht⟩ | ⟨rfl, ht⟩
   all_goals
    go_enter Tryz.func107, Tryz.ntmps107
    go_wp2_with (go_at_call 88; refine (c1 _).mono ?_; rintro e w' ⟨rfl, rfl⟩)
    go_ret
    exact ⟨by rw [HS.out]; rfl, rfl⟩
 exact main (max f 0) (min t (ln s)) rfl rfl (by omega) (by omega)
def blU (s : ByteArray) (i : Nat) : Bool := blB ((un s i : Nat) : Int)
def tF (s : ByteArray) : Nat → Nat → Nat
 | 0, i => i
 | f + 1, i => if i < ln s ∧ blU s i = true then tF s f (i + 1) else i
def tT (s : ByteArray) (F : Nat) : Nat → Nat → Nat
 | 0, t => t
 | f + 1, t => if F < t ∧ blU s (t - 1) = true then tT s F f (t - 1) else t
def frS (s : ByteArray) : Nat := tF s (ln s) 0
def toS (s : ByteArray) : Nat := tT s (frS s) (ln s) (ln s)
def Dj (s : ByteArray) : ByteArray := slS s (frS s) (toS s)
theorem Aoi (s : ByteArray) (f i : Nat) (h : i < ln s) (hb : blU s i = true) : tF s (f + 1) i = tF s f (i + 1) := by simp [tF, h, hb]
theorem Als (s : ByteArray) (f i : Nat) (h : ¬ (i < ln s ∧ blU s i = true)) : tF s f i = i := by
 cases f with
 | zero => rfl
 | succ f => rw [tF, if_neg h]
theorem Aoh (s : ByteArray) (F f t : Nat) (h : F < t + 1) (hb : blU s t = true) : tT s F (f + 1) (t + 1) = tT s F f t := by simp [tT, h, hb]
theorem Ahq (s : ByteArray) (F f t : Nat) (h : ¬ (F < t ∧ blU s (t - 1) = true)) : tT s F f t = t := by
 cases f with
 | zero => rfl
 | succ f => rw [tT, if_neg h]
theorem Hg (s : ByteArray) (i : Nat) (w : World) (b : Bool) (hb : blU s i = b) : Cq 93 #[.int .u16 (un s i : Nat)] (.bool b) w := by
 refine Sm (Afm _ w) ?_
 exact ⟨by rw [← hb]; rfl, rfl⟩
theorem Alv (s : ByteArray) (w : World) (hs : s.size ≤ maxLen) :
  Cp 71 #[.string s] w fun e w' => e = .returned (.string (Dj s)) ∧ ∃ n, w' = w.drewN n := by
 have hl := Hx s
 have hm : ((ln s : Nat) : Int) ≤ 4611686018427387903 := by unfold maxLen at hs; omega
 have H63 := Lh hs
 have c1 := fun W => Jz s W H63.out
 clear hs hl
 go_enter Tryz.func71, Tryz.ntmps71
 go_wp2_with (go_at_call 48; refine (c1 _).mono ?_; rintro e w' ⟨rfl, rfl⟩)
 go_loopw [3] (fun i wr => ∃ k f : Nat, i = .int .i64 k ∧ k ≤ ln s ∧ tF s f k = frS s ∧ ln s ≤ k + f ∧ ∃ n, wr = w.drewN n) (fun i _ => ln s - (intOf i).toNat)
 case atStart => exact ⟨0, ln s, rfl, Nat.zero_le _, rfl, by omega, 0, rfl⟩
 case round =>
  obtain ⟨k, fuel, rfl, hk, hF, hfu, n, rfl⟩ := hrel
  have HF := Lh hF
  clear hF
  by_cases hc : k < ln s ∧ blU s k = true
  ·obtain ⟨hlt, hb⟩ := hc
   obtain ⟨f, rfl⟩ : ∃ f, fuel = f + 1 := ⟨fuel - 1, by omega⟩
   have HG := Lh (show tF s f (k + 1) = frS s by rw [← HF.out, Aoi s f k hlt hb])
   have c2 := fun W => Ph s k W hlt H63.out
   have c3 := fun W => Hg s k W true hb
   have hlt' : (k : Int) < (ln s : Int) := by omega
   clear hb HF
   go_wp2_with (first | (go_at_call 94; refine (c2 _).mono ?_; rintro e w' ⟨rfl, n2, rfl⟩) | (go_at_call 93; refine (c3 _).mono ?_; rintro e w' ⟨rfl, rfl⟩))
   go_roundw
   case rel => exact ⟨k + 1, f, by go_num, by omega, HG.out, by omega, _, rfl⟩
   case measure => simp [intOf]; omega
  ·have HK := Lh (show frS s = k by rw [← HF.out, Als s fuel k hc])
   have hor : (¬ ((k : Int) < (ln s : Int))) ∨ ((k : Int) < (ln s : Int) ∧ blU s k = false ∧ k < ln s) := by
    by_cases h : k < ln s
    ·right; refine ⟨by omega, ?_, h⟩
     cases hb : blU s k
     ·rfl
     ·exact absurd ⟨h, hb⟩ hc
    ·left; omega
   have H1 := Lh (fun W (h : k < ln s) => Ph s k W h H63.out)
   have H2 := Lh (fun W (h : blU s k = false) => Hg s k W false h)
   clear hc HF
   rcases hor with h1 | ⟨h1, h2, h3⟩
   all_goals
    try have c2 := fun W => H1.out W h3
    try have c3 := fun W => H2.out W h2
    try clear h2
    go_wp2_with (first | (go_at_call 94; refine (c2 _).mono ?_; rintro e w' ⟨rfl, n2, rfl⟩) | (go_at_call 93; refine (c3 _).mono ?_; rintro e w' ⟨rfl, rfl⟩))
    go_loopw [4] (fun i wr => ∃ t f : Nat, i = .int .i64 t ∧ t ≤ ln s ∧ tT s k f t = tT s k (ln s) (ln s) ∧ t ≤ f ∧ ∃ n, wr = w.drewN n) (fun i _ => (intOf i).toNat)
    case atStart => exact ⟨ln s, ln s, rfl, by omega, rfl, by omega, _, rfl⟩
    case round =>
     obtain ⟨t, fu, rfl, ht, hT, hfu2, n3, rfl⟩ := hrel
     have HT := Lh hT
     clear hT
     by_cases hc2 : k < t ∧ blU s (t - 1) = true
     ·obtain ⟨hlt2, hb2⟩ := hc2
      obtain ⟨t, rfl⟩ : ∃ t', t = t' + 1 := ⟨t - 1, by omega⟩
      obtain ⟨f2, rfl⟩ : ∃ f', fu = f' + 1 := ⟨fu - 1, by omega⟩
      have hb3 : blU s t = true := hb2
      have HG2 := Lh (show tT s k f2 t = tT s k (ln s) (ln s) by rw [← HT.out, Aoh s k f2 t hlt2 hb3])
      have c4 := fun W => Ph s t W (by omega) H63.out
      have c5 := fun W => Hg s t W true hb3
      have g1 : (k : Int) < (t : Int) + 1 := by omega
      clear hb2 hb3 HT
      go_wp2_with (first | (go_at_call 94; refine (c4 _).mono ?_; rintro e w' ⟨rfl, n4, rfl⟩) | (go_at_call 93; refine (c5 _).mono ?_; rintro e w' ⟨rfl, rfl⟩))
      go_roundw
      case rel => exact ⟨t, f2, rfl, by omega, HG2.out, by omega, _, rfl⟩
      case measure => simp [intOf]
     ·have HK2 := Lh (show toS s = t by unfold toS; rw [HK.out, ← HT.out, Ahq s k fu t hc2])
      have hor2 : (¬ ((k : Int) < (t : Int))) ∨ ((k : Int) < (t : Int) ∧ blU s (t - 1) = false ∧ k < t) := by
       by_cases h : k < t
       ·right; refine ⟨by omega, ?_, h⟩
        cases hb : blU s (t - 1)
        ·rfl
        ·exact absurd ⟨h, hb⟩ hc2
       ·left; omega
      have hsl := fun W => Rm s k t W H63.out
      have HR := Lh (show Dj s = slS s k t by unfold Dj; rw [HK.out, HK2.out])
      clear hc2 HT
      rcases hor2 with g1 | ⟨g1, g2, g3⟩
      ·go_wp2_with (go_at_call 47; refine (hsl _).mono ?_; rintro e w' ⟨rfl, rfl⟩)
       go_ret
       exact ⟨by rw [HR.out]; rfl, _, rfl⟩
      ·obtain ⟨t, rfl⟩ : ∃ t', t = t' + 1 := ⟨t - 1, by omega⟩
       have c4 := fun W => Ph s t W (by omega) H63.out
       have c5 := fun W => Hg s t W false g2
       have g1' : (k : Int) < (t : Int) + 1 := by omega
       clear g2 g1
       go_wp2_with (first | (go_at_call 94; refine (c4 _).mono ?_; rintro e w' ⟨rfl, n4, rfl⟩) | (go_at_call 93; refine (c5 _).mono ?_; rintro e w' ⟨rfl, rfl⟩) | (go_at_call 47; refine (hsl _).mono ?_; rintro e w' ⟨rfl, rfl⟩))
       go_ret
       exact ⟨by rw [HR.out]; rfl, _, rfl⟩
theorem Nn (s : ByteArray) (i : Nat) (w : World) (b : Bool) (hb : spB ((un s i : Nat) : Int) = b) : Cq 105 #[.int .u16 (un s i : Nat)] (.bool b) w := by
 refine Sm (Aa0 _ w) ?_
 exact ⟨by rw [← hb], rfl⟩
theorem Na (s : ByteArray) (i : Nat) (w : World) (b : Bool) (hb : enB ((un s i : Nat) : Int) = b) : Cq 106 #[.int .u16 (un s i : Nat)] (.bool b) w := by
 refine Sm (Afh _ w) ?_
 exact ⟨by rw [← hb], rfl⟩
theorem Vn {s : ByteArray} {i : Nat} (h : blU s i = true) : spB ((un s i : Nat) : Int) = true ∨ (spB ((un s i : Nat) : Int) = false ∧ enB ((un s i : Nat) : Int) = true) := by
 unfold blU blB at h
 cases h1 : spB ((un s i : Nat) : Int)
 ·right; rw [h1] at h; exact ⟨rfl, by simpa using h⟩
 ·left; rfl
theorem Ir {s : ByteArray} {i : Nat} (h : blU s i = false) : spB ((un s i : Nat) : Int) = false ∧ enB ((un s i : Nat) : Int) = false := by
 unfold blU blB at h
 simpa using h
theorem Afq (s : ByteArray) (w : World) (hs : s.size ≤ maxLen) :
  Cp 76 #[.string s] w fun e w' => e = .returned (.string (Dj s)) ∧ ∃ n, w' = w.drewN n := by
 have hl := Hx s
 have hm : ((ln s : Nat) : Int) ≤ 4611686018427387903 := by unfold maxLen at hs; omega
 have H63 := Lh hs
 have c1 := fun W => J4 s W H63.out
 clear hs hl
 go_enter Tryz.func76, Tryz.ntmps76
 go_wp2_with (go_at_call 88; refine (c1 _).mono ?_; rintro e w' ⟨rfl, rfl⟩)
 go_loopw [3] (fun i wr => ∃ k f : Nat, i = .int .i64 k ∧ k ≤ ln s ∧ tF s f k = frS s ∧ ln s ≤ k + f ∧ ∃ n, wr = w.drewN n) (fun i _ => ln s - (intOf i).toNat)
 case atStart => exact ⟨0, ln s, rfl, Nat.zero_le _, rfl, by omega, 0, rfl⟩
 case round =>
  obtain ⟨k, fuel, rfl, hk, hF, hfu, n, rfl⟩ := hrel
  have HF := Lh hF
  clear hF
  by_cases hc : k < ln s ∧ blU s k = true
  ·obtain ⟨hlt, hb⟩ := hc
   obtain ⟨f, rfl⟩ : ∃ f, fuel = f + 1 := ⟨fuel - 1, by omega⟩
   have HG := Lh (show tF s f (k + 1) = frS s by rw [← HF.out, Aoi s f k hlt hb])
   have c2 := fun W => J2 s k W hlt H63.out
   have hlt' : (k : Int) < (ln s : Int) := by omega
   have H2 := Lh (fun W b (h : spB ((un s k : Nat) : Int) = b) => Nn s k W b h)
   have H3 := Lh (fun W b (h : enB ((un s k : Nat) : Int) = b) => Na s k W b h)
   clear HF
   rcases Vn hb with g1 | ⟨g1, g2⟩
   all_goals
    have c3 := fun W => H2.out W _ g1
    try have c4 := fun W => H3.out W _ g2
    clear hb g1
    try clear g2
    go_wp2_with (first | (go_at_call 89; refine (c2 _).mono ?_; rintro e w' ⟨rfl, n2, rfl⟩) | (go_at_call 105; refine (c3 _).mono ?_; rintro e w' ⟨rfl, rfl⟩) | (go_at_call 106; refine (c4 _).mono ?_; rintro e w' ⟨rfl, rfl⟩))
    go_roundw
    case rel => exact ⟨k + 1, f, by go_num, by omega, HG.out, by omega, _, rfl⟩
    case measure => simp [intOf]; omega
  ·have HK := Lh (show frS s = k by rw [← HF.out, Als s fuel k hc])
   have hor : (¬ ((k : Int) < (ln s : Int))) ∨ ((k : Int) < (ln s : Int) ∧ blU s k = false ∧ k < ln s) := by
    by_cases h : k < ln s
    ·right; refine ⟨by omega, ?_, h⟩
     cases hb : blU s k
     ·rfl
     ·exact absurd ⟨h, hb⟩ hc
    ·left; omega
   have H1 := Lh (fun W (h : k < ln s) => J2 s k W h H63.out)
   have H2 := Lh (fun W (h : blU s k = false) => Nn s k W false (Ir h).1)
   have H3 := Lh (fun W (h : blU s k = false) => Na s k W false (Ir h).2)
   clear hc HF
   rcases hor with h1 | ⟨h1, h2, h3⟩
   all_goals
    try have c2 := fun W => H1.out W h3
    try have c3 := fun W => H2.out W h2
    try have c4 := fun W => H3.out W h2
    try clear h2
    go_wp2_with (first | (go_at_call 89; refine (c2 _).mono ?_; rintro e w' ⟨rfl, n2, rfl⟩) | (go_at_call 105; refine (c3 _).mono ?_; rintro e w' ⟨rfl, rfl⟩) | (go_at_call 106; refine (c4 _).mono ?_; rintro e w' ⟨rfl, rfl⟩))
    go_loopw [4] (fun i wr => ∃ t f : Nat, i = .int .i64 t ∧ t ≤ ln s ∧ tT s k f t = tT s k (ln s) (ln s) ∧ t ≤ f ∧ ∃ n, wr = w.drewN n) (fun i _ => (intOf i).toNat)
    case atStart => exact ⟨ln s, ln s, rfl, by omega, rfl, by omega, _, rfl⟩
    case round =>
     obtain ⟨t, fu, rfl, ht, hT, hfu2, n3, rfl⟩ := hrel
     have HT := Lh hT
     clear hT
     try clear c2 c3 c4
     by_cases hc2 : k < t ∧ blU s (t - 1) = true
     ·obtain ⟨hlt2, hb2⟩ := hc2
      obtain ⟨t, rfl⟩ : ∃ t', t = t' + 1 := ⟨t - 1, by omega⟩
      obtain ⟨f2, rfl⟩ : ∃ f', fu = f' + 1 := ⟨fu - 1, by omega⟩
      have hb3 : blU s t = true := hb2
      have HG2 := Lh (show tT s k f2 t = tT s k (ln s) (ln s) by rw [← HT.out, Aoh s k f2 t hlt2 hb3])
      have c5 := fun W => J2 s t W (by omega) H63.out
      have g0 : (k : Int) < (t : Int) + 1 := by omega
      have G2 := Lh (fun W b (h : spB ((un s t : Nat) : Int) = b) => Nn s t W b h)
      have G3 := Lh (fun W b (h : enB ((un s t : Nat) : Int) = b) => Na s t W b h)
      clear HT hb2
      rcases Vn hb3 with g1 | ⟨g1, g2⟩
      all_goals
       have c6 := fun W => G2.out W _ g1
       try have c7 := fun W => G3.out W _ g2
       clear hb3 g1
       try clear g2
       go_wp2_with (first | (go_at_call 89; refine (c5 _).mono ?_; rintro e w' ⟨rfl, n4, rfl⟩) | (go_at_call 105; refine (c6 _).mono ?_; rintro e w' ⟨rfl, rfl⟩) | (go_at_call 106; refine (c7 _).mono ?_; rintro e w' ⟨rfl, rfl⟩))
       go_roundw
       case rel => exact ⟨t, f2, rfl, by omega, HG2.out, by omega, _, rfl⟩
       case measure => simp [intOf]
     ·have HK2 := Lh (show toS s = t by unfold toS; rw [HK.out, ← HT.out, Ahq s k fu t hc2])
      have hor2 : (¬ ((k : Int) < (t : Int))) ∨ ((k : Int) < (t : Int) ∧ blU s (t - 1) = false ∧ k < t) := by
       by_cases h : k < t
       ·right; refine ⟨by omega, ?_, h⟩
        cases hb : blU s (t - 1)
        ·rfl
        ·exact absurd ⟨h, hb⟩ hc2
       ·left; omega
      have hsl := fun W => Abt s k t W H63.out
      have HR := Lh (show Dj s = slS s k t by unfold Dj; rw [HK.out, HK2.out])
      clear hc2 HT
      rcases hor2 with g1 | ⟨g1, g2, g3⟩
      ·go_wp2_with (go_at_call 107; refine (hsl _).mono ?_; rintro e w' ⟨rfl, rfl⟩)
       go_ret
       exact ⟨by rw [HR.out]; rfl, _, rfl⟩
      ·obtain ⟨t, rfl⟩ : ∃ t', t = t' + 1 := ⟨t - 1, by omega⟩
       have g2' : blU s t = false := g2
       have c5 := fun W => J2 s t W (by omega) H63.out
       have c6 := fun W => Nn s t W false (Ir g2').1
       have c7 := fun W => Na s t W false (Ir g2').2
       have g1' : (k : Int) < (t : Int) + 1 := by omega
       clear g2 g2' g1
       go_wp2_with (first | (go_at_call 89; refine (c5 _).mono ?_; rintro e w' ⟨rfl, n4, rfl⟩) | (go_at_call 105; refine (c6 _).mono ?_; rintro e w' ⟨rfl, rfl⟩) | (go_at_call 106; refine (c7 _).mono ?_; rintro e w' ⟨rfl, rfl⟩) | (go_at_call 107; refine (hsl _).mono ?_; rintro e w' ⟨rfl, rfl⟩))
       go_ret
       exact ⟨by rw [HR.out]; rfl, _, rfl⟩
end
section
def wh (s : ByteArray) : ByteArray := s.extract 0 (2 * ln s)
end
section
def Aq1 (L : List Nat) (N : Nat) (w : World) (e : Ending) (w' : World) : Prop := ∃ A c, e = .returned (.tuple #[.slice A N c, .int .i64 0]) ∧ (N ≤ c ∧ RW w' w'.heap.size A L) ∧ Below w.heap.size w w'
theorem NatPost.one {v N : Nat} {w w' : World} {e : Ending} (h : NatPost v w e w') (hl : Am v = false) (hN : (wds v).length = N) : Aq1 (wds v) N w e w' := by
 obtain ⟨A, c, h1, h2, h3⟩ := h.get hl
 rw [hN] at h1 h2
 exact ⟨A, c, h1, h2, h3⟩
structure LongT (A D n M i : Nat) (R Q : List Nat) : Prop where
 lenR : R.length = M + n
 lenQ : Q.length = M
 wsR : Ws R
 wsQ : Ws Q
 sum : val R + 4294967296 ^ i * (val (Q.drop i) * D) = A
 rest : val (R.drop i) < D
theorem LongT.start {va vb s la n M : Nat} {R : List Nat} (hR : Ws R) (hl : R.length = M + n) (hM : la + 1 = M + n) (hn : 0 < n) (ha : va < 4294967296 ^ la) (hb : 4294967296 ^ (n - 1) ≤ vb) (hv : val R = 2 ^ s * va) :
  LongT (2 ^ s * va) (2 ^ s * vb) n M M R (List.replicate M 0) := by
 refine ⟨hl, List.length_replicate, hR, Ws.zeros _, ?_, ?_⟩
 ·rw [List.drop_of_length_le (by rw [List.length_replicate]; exact Nat.le_refl _)]
  simp [val, hv]
 ·have e := Em R M (by omega)
  rw [hv] at e
  have e2 : 4294967296 ^ la = 4294967296 ^ M * 4294967296 ^ (n - 1) := by rw [← Nat.pow_add]; congr 1; omega
  have h1 : 2 ^ s * va < 2 ^ s * (4294967296 ^ M * 4294967296 ^ (n - 1)) := by rw [← e2]; exact Nat.mul_lt_mul_of_pos_left ha (Nat.two_pow_pos s)
  have h2 : 4294967296 ^ M * val (R.drop M) < 4294967296 ^ M * (2 ^ s * 4294967296 ^ (n - 1)) := by
   have : 4294967296 ^ M * (2 ^ s * 4294967296 ^ (n - 1)) = 2 ^ s * (4294967296 ^ M * 4294967296 ^ (n - 1)) := by grind
   omega
  have h3 := Nat.lt_of_mul_lt_mul_left h2
  exact Nat.lt_of_lt_of_le h3 (Nat.mul_le_mul_left _ hb)
theorem LongT.part {A D n M i : Nat} {R Q : List Nat} (h : LongT A D n M (i + 1) R Q) (hi : i < M) (hD : D < 4294967296 ^ n) :
  val ((R.drop i).take (n + 1)) = val (R.drop i) ∧ val ((R.drop i).take (n + 1)) < 4294967296 * D := by
 have e := Ci R i (by have := h.lenR; omega)
 have h1 := h.wsR.getD i
 have h2 := h.rest
 have h3 : val (R.drop i) < 4294967296 * D := by
  have : 4294967296 * (val (R.drop (i + 1)) + 1) ≤ 4294967296 * D := Nat.mul_le_mul_left _ h2
  omega
 have h4 : val (R.drop i) < 4294967296 ^ (n + 1) := by
  rw [Nat.pow_succ, Nat.mul_comm]
  exact Nat.lt_trans h3 (Nat.mul_lt_mul_of_pos_left hD (by omega))
 have h5 := Og h4
 exact ⟨h5, by rw [h5]; exact h3⟩
theorem LongT.next {A D n M i : Nat} {R Q S : List Nat} (h : LongT A D n M (i + 1) R Q) (hi : i < M) (hD : D < 4294967296 ^ n) (hD0 : 0 < D)
  (hlen : S.length = R.length) (hws : Ws S) (hfar : ∀ j, j < i ∨ i + (n + 1) ≤ j → S.getD j 0 = R.getD j 0)
  (hs : val ((S.drop i).take (n + 1)) = val ((R.drop i).take (n + 1)) % D) :
  LongT A D n M i S (Q.set i (val ((R.drop i).take (n + 1)) / D)) := by
 obtain ⟨p1, p2⟩ := h.part hi hD
 obtain ⟨h1, h2, h3, h4, h5, h6⟩ := h
 have hq : val ((R.drop i).take (n + 1)) / D < 4294967296 := by rw [Nat.div_lt_iff_lt_mul hD0]; exact p2
 have r1 := Em (R.drop i) (n + 1) (by rw [List.length_drop]; omega)
 have s1 := Em (S.drop i) (n + 1) (by rw [List.length_drop]; omega)
 have e1 : val ((S.drop i).drop (n + 1)) = val ((R.drop i).drop (n + 1)) := by
  rw [List.drop_drop, List.drop_drop]
  exact Le (fun j => by rw [Di, Di]; exact hfar _ (.inr (by omega)))
 have e2 : 4294967296 ^ (n + 1) * val ((R.drop i).drop (n + 1)) = 0 := by omega
 rw [e1, e2, Nat.add_zero] at s1
 have e3 : val (R.take i) = val (S.take i) := by
  rw [Ck (l := R) (m := S) i (by omega) (by omega) (fun j hj => (hfar j (.inl hj)).symm)]
 have r2 := Em R i (by omega)
 have s2 := Em S i (by omega)
 have e4 : val (R.drop i) = val (S.drop i) + val (R.drop i) / D * D := by
  rw [s1, hs, p1, Nat.mul_comm]
  exact (Nat.mod_add_div _ _).symm
 have q1 := Ci (Q.set i (val ((R.drop i).take (n + 1)) / D)) i (by rw [List.length_set]; omega)
 rw [Bb (by omega)] at q1
 have e5 : (Q.set i (val ((R.drop i).take (n + 1)) / D)).drop (i + 1) = Q.drop (i + 1) := by
  rw [List.drop_set, if_pos (by omega)]
 rw [e5] at q1
 refine ⟨by omega, by rw [List.length_set]; exact h2, hws, h4.set hq, ?_, ?_⟩
 ·rw [q1, s2, ← e3, p1]
  rw [r2] at h5
  rw [Nat.pow_succ] at h5
  generalize val (R.drop i) / D = q at *
  generalize val (Q.drop (i + 1)) = V at *
  generalize 4294967296 ^ i = K at *
  rw [e4] at h5
  grind
 ·rw [s1, hs]; exact Nat.mod_lt _ hD0
theorem LongT.fin {A D n M : Nat} {R Q : List Nat} (h : LongT A D n M 0 R Q) (hD0 : 0 < D) : val Q = A / D ∧ val R = A % D := by
 obtain ⟨h1, h2, h3, h4, h5, h6⟩ := h
 rw [Nat.pow_zero, Nat.one_mul, List.drop_zero] at h5
 rw [List.drop_zero] at h6
 have e1 : A / D = val Q := by
  rw [← h5, Nat.add_mul_div_right _ _ hD0, Nat.div_eq_of_lt h6, Nat.zero_add]
 have e2 := Nat.mod_add_div A D
 rw [e1] at e2
 refine ⟨e1.symm, ?_⟩
 rw [Nat.mul_comm] at e2
 omega
/-! ### bit by bit -/
theorem Aot (x s : Nat) (h : x / 2 ^ s % 2 = 0) : x ||| 2 ^ s = x + 2 ^ s := by
 have h1 := Nat.mod_pow_succ (b := 2) (x := x) (k := s)
 rw [h, Nat.mul_zero] at h1
 have h2 := Nat.mod_add_div x (2 ^ (s + 1))
 rw [h1, Nat.add_zero] at h2
 have hl : x % 2 ^ s < 2 ^ s := Nat.mod_lt _ (Nat.two_pow_pos s)
 generalize x % 2 ^ s = l at *
 generalize x / 2 ^ (s + 1) = q at *
 have hp : 2 ^ (s + 1) = 2 * 2 ^ s := by rw [Nat.pow_succ, Nat.mul_comm]
 have e1 : x = 2 ^ (s + 1) * q ||| l := by rw [← Nat.two_pow_add_eq_or_of_lt (by omega), Nat.add_comm]; exact h2.symm
 have e2 : 2 ^ s * 1 ||| l = 2 ^ s + l := by rw [← Nat.two_pow_add_eq_or_of_lt hl, Nat.mul_one]
 rw [Nat.mul_one] at e2
 have e3 : x ||| 2 ^ s = 2 ^ (s + 1) * q ||| (2 ^ s + l) := by rw [e1, Nat.or_assoc, Nat.or_comm l, e2]
 rw [e3, ← Nat.two_pow_add_eq_or_of_lt (by omega)]
 omega
theorem Yw {X v bit : Nat} (hv : 0 < v) (hb : bit < 2) :
  (v ≤ 2 * (X % v) + bit → (2 * X + bit) / v = 2 * (X / v) + 1 ∧ (2 * X + bit) % v = 2 * (X % v) + bit - v) ∧
  (2 * (X % v) + bit < v → (2 * X + bit) / v = 2 * (X / v) ∧ (2 * X + bit) % v = 2 * (X % v) + bit) := by
 have e := Nat.mod_add_div X v
 have hr := Nat.mod_lt X hv
 generalize X % v = r at *
 generalize X / v = q at *
 refine ⟨fun h => ?_, fun h => ?_⟩
 ·have e2 : 2 * X + bit = (2 * r + bit - v) + v * (2 * q + 1) := by
   have : v * (2 * q + 1) = 2 * (v * q) + v := by grind
   omega
  rw [e2, Nat.add_mul_div_left _ _ hv, Nat.add_mul_mod_self_left, Nat.div_eq_of_lt (by omega), Nat.mod_eq_of_lt (by omega)]
  omega
 ·have e2 : 2 * X + bit = (2 * r + bit) + v * (2 * q) := by
   have : v * (2 * q) = 2 * (v * q) := by grind
   omega
  rw [e2, Nat.add_mul_div_left _ _ hv, Nat.add_mul_mod_self_left, Nat.div_eq_of_lt h, Nat.mod_eq_of_lt h]
  omega
structure HalfT (a : List Nat) (v i : Nat) (Q : List Nat) (r : Nat) : Prop where
 len : Q.length = a.length
 ws : Ws Q
 sum : val Q = 2 ^ i * (val a / 2 ^ i / v)
 rest : r = val a / 2 ^ i % v
theorem HalfT.start {a : List Nat} (ha : Ws a) (v : Nat) : HalfT a v (32 * a.length) (List.replicate a.length 0) 0 := by
 have h := Ea ha
 rw [J1] at h
 refine ⟨List.length_replicate, Ws.zeros _, ?_, ?_⟩
 ·rw [He, Nat.div_eq_of_lt h, Nat.zero_div, Nat.mul_zero]
 ·rw [Nat.div_eq_of_lt h, Nat.zero_mod]
theorem Wg {a : List Nat} (ha : Ws a) (j s : Nat) (hj : j ≤ a.length) (hs : s < 32) : val a / 2 ^ (32 * j + s) = 2 * (val a / 2 ^ (32 * j + s + 1)) + a.getD j 0 / 2 ^ s % 2 := by
 have h := Pe ha j s hj hs
 rw [← h, Nat.pow_succ, ← Nat.div_div_eq_div_mul]
 omega
theorem HalfT.down {a : List Nat} {v j s : Nat} {Q : List Nat} {r : Nat} (h : HalfT a v (32 * j + s + 1) Q r) (ha : Ws a) (hv : 0 < v) (hj : j < a.length) (hs : s < 32) (hlt : 2 * r + a.getD j 0 / 2 ^ s % 2 < v) :
  HalfT a v (32 * j + s) Q (2 * r + a.getD j 0 / 2 ^ s % 2) := by
 obtain ⟨h1, h2, h3, h4⟩ := h
 have e := Wg ha j s (by omega) hs
 have hb : a.getD j 0 / 2 ^ s % 2 < 2 := Nat.mod_lt _ (by omega)
 rw [h4] at hlt
 obtain ⟨g1, g2⟩ := (Yw (X := val a / 2 ^ (32 * j + s + 1)) hv hb).2 hlt
 refine ⟨h1, h2, ?_, ?_⟩
 ·rw [h3, e, g1, Nat.pow_succ]; grind
 ·rw [e, g2, h4]
theorem HalfT.up {a : List Nat} {v j s : Nat} {Q : List Nat} {r : Nat} (h : HalfT a v (32 * j + s + 1) Q r) (ha : Ws a) (hv : 0 < v) (hj : j < a.length) (hs : s < 32) (hle : v ≤ 2 * r + a.getD j 0 / 2 ^ s % 2) :
  Q.getD j 0 ||| 2 ^ s < 4294967296 ∧ HalfT a v (32 * j + s) (Q.set j (Q.getD j 0 ||| 2 ^ s)) (2 * r + a.getD j 0 / 2 ^ s % 2 - v) := by
 obtain ⟨h1, h2, h3, h4⟩ := h
 have e := Wg ha j s (by omega) hs
 have hb : a.getD j 0 / 2 ^ s % 2 < 2 := Nat.mod_lt _ (by omega)
 rw [h4] at hle
 obtain ⟨g1, g2⟩ := (Yw (X := val a / 2 ^ (32 * j + s + 1)) hv hb).1 hle
 have hbit := Pe h2 j s (by omega) hs
 have hz : val Q / 2 ^ (32 * j + s) % 2 = 0 := by
  rw [h3, Nat.pow_succ, Nat.mul_assoc, Nat.mul_div_cancel_left _ (Nat.two_pow_pos _)]
  omega
 rw [hz] at hbit
 have hor := Aot _ s hbit.symm
 have hlt : Q.getD j 0 ||| 2 ^ s < 4294967296 := Nat.or_lt_two_pow (n := 32) (h2.getD j) (Nat.pow_lt_pow_right (by omega) hs)
 refine ⟨hlt, by rw [List.length_set]; exact h1, h2.set hlt, ?_, ?_⟩
 ·have q1 := Em Q j (by omega)
  have q2 := Ci Q j (by omega)
  have s1 := Em (Q.set j (Q.getD j 0 ||| 2 ^ s)) j (by rw [List.length_set]; omega)
  have s2 := Ci (Q.set j (Q.getD j 0 ||| 2 ^ s)) j (by rw [List.length_set]; omega)
  have e7 : (Q.set j (Q.getD j 0 ||| 2 ^ s)).drop (j + 1) = Q.drop (j + 1) := by rw [List.drop_set, if_pos (by omega)]
  rw [Bb (by omega), e7] at s2
  rw [Ck (l := Q.set j _) (m := Q) j (by rw [List.length_set]; omega) (by omega) (fun k hk => An (by omega))] at s1
  have e5 : val (Q.set j (Q.getD j 0 ||| 2 ^ s)) = val Q + 2 ^ (32 * j + s) := by
   rw [s1, s2, q1, q2, hor, Nat.pow_add, J1]; grind
  rw [e5, h3, e, g1, Nat.pow_succ]; grind
 ·rw [e, g2, h4]
theorem HalfT.fin {a : List Nat} {v : Nat} {Q : List Nat} {r : Nat} (h : HalfT a v 0 Q r) : val Q = val a / v ∧ r = val a % v := by
 obtain ⟨h1, h2, h3, h4⟩ := h
 rw [Nat.pow_zero, Nat.div_one] at h3 h4
 exact ⟨by omega, h4⟩
def Abn (hi lo y : Nat) : Nat := if y ≤ hi then 4294967295 else (hi * 4294967296 + lo) / y
theorem Ad9 (hi lo y : Nat) (w : World) (hl : lo < 4294967296) (hy : y < 4294967296) :
  Cp 268 #[.int .u32 hi, .int .u32 lo, .int .u32 y] w fun e w' => e = .returned (.int .u32 (Abn hi lo y : Nat)) ∧ ∃ j, w' = w.drewN j := by
 unfold Abn
 by_cases h : y ≤ hi
 ·rw [if_pos h]
  have y1 : (y : Int) ≤ (hi : Int) := by omega
  clear hl hy h
  go_enter Tryz.func268, Tryz.ntmps268
  go_wp2
  go_ret
  exact ⟨rfl, 0, rfl⟩
 ·rw [if_neg h]
  have C1 := Lh (fun W => Rl hi lo y W (by omega) hl hy)
  have y1 : ¬ (y : Int) ≤ (hi : Int) := by omega
  obtain ⟨q, hq⟩ : ∃ q, (hi * 4294967296 + lo) / y = q := ⟨_, rfl⟩
  obtain ⟨r, hr⟩ : ∃ r, (hi * 4294967296 + lo) % y = r := ⟨_, rfl⟩
  rw [hq, hr] at C1
  rw [hq]
  clear hl hy h hq hr
  go_enter Tryz.func268, Tryz.ntmps268
  go_wp2_with fail
  refine Dm (C1.out _) fun j => ?_
  go_wp2
  go_ret
  exact ⟨rfl, j, rfl⟩
def Ah9 (g : Nat) (R : List Nat) (o : Nat) (b : List Nat) (x : Nat) (w : World) (e : Ending) (w' : World) : Prop :=
 ∃ S q, e = .returned (.int .u32 (q : Nat)) ∧ Row w' g S ∧ TakeT R o b x b.length S q ∧ Only g w w'
theorem T4 (g o n c : Nat) (R : List Nat) (A : Option Addr) (m d : Nat) (b : List Nat) (x B : Nat) (w : World) (hR : Row w g R) (hRw : Ws R) (ho : o + n ≤ R.length) (hmn : m ≤ n) (hbl : b.length = m) (hm0 : 0 < m)
  (hB : RW w B A b) (hgB : B ≤ g) (hx : x < 4294967296) (hm : R.length ≤ 35184372088832) :
  Cp 269 #[.slice (some ⟨g, o, none⟩) n c, .slice A m d, .int .u32 x] w (Ah9 g R o b x w) := by
 obtain ⟨a, p, rfl, hab, hc⟩ := hB.2 (by omega)
 have HBW := Lh hB.1
 have HRW := Lh hRw
 have HBL := Lh hbl
 have HC := Lh hc
 have HX := Lh hx
 have HR := Lh hR
 have hm1 : (m : Int) ≤ (n : Int) := by omega
 have hn1 : (n : Int) ≤ 35184372088832 := by omega
 have HO := Lh ho
 have hag : a < g := by omega
 have h0' : (0 : Int) ≤ (x : Int) := by omega
 clear hR hRw ho hmn hbl hB hgB hx hm hc hm0
 go_enter Tryz.func269, Tryz.ntmps269
 go_wp2
 go_loopw [14, 7] (fun i v wr => ∃ (k : Nat) (S : List Nat) (q : Nat), i = .int .i64 k ∧ v = .int .u64 (q : Nat) ∧ k ≤ m ∧ Hid (Row wr g S) ∧ Hid (TakeT R o b x k S q) ∧ Only g w wr) (fun i _ _ => m - (intOf i).toNat)
 case atStart => exact ⟨0, R, 0, rfl, rfl, Nat.zero_le _, HR, Lh (TakeT.start o b x HRW.out), Only.refl _ _⟩
 case round =>
  obtain ⟨k, S, q, rfl, rfl, hk, HS, HT, hbw⟩ := hrel
  by_cases hlt : k < m
  ·have hkb : k < b.length := by rw [HBL.out]; exact hlt
   have hok : o + k < R.length := by have := HO.out; omega
   obtain ⟨e1, hnext⟩ := HT.out.next HRW.out HBW.out HX.out hok
   have hS := HS.out.cell (o + k) (by rw [HT.out.len]; exact hok)
   have hfz := HS.out.frozen (o + k)
   have hcl := HC.out k _ (getD_some hkb)
   rw [← hbw.below.cell (p := ⟨a, p + k, none⟩) hag] at hcl
   obtain ⟨l1, l2⟩ := Adm (k := k) HBW.out HX.out HT.out.low
   have hset := HS.out.set (o + k) (Ui (R.getD (o + k) 0) (Jh b x k q))
   have HE := Lh (show Jh b x k q = q + b.getD k 0 * x from rfl)
   have u1 := HBW.out.getD k
   have r1 := HRW.out.getD (o + k)
   have q1 := HT.out.low
   rw [e1] at hS
   obtain ⟨t, ht⟩ : ∃ t, Jh b x k q = t := ⟨_, rfl⟩
   obtain ⟨u, hu⟩ : ∃ u, b.getD k 0 = u := ⟨_, rfl⟩
   obtain ⟨r, hr⟩ : ∃ r, R.getD (o + k) 0 = r := ⟨_, rfl⟩
   rw [ht, hu] at HE
   rw [ht] at l2
   rw [hr, ht] at hnext hset
   rw [hu] at hcl l1 u1
   rw [hr] at hS r1
   have low := Acq r t l2
   have C1 := Lh (fun W => show Cp 234 #[.int .u32 (r : Nat), .int .u32 ((t : Int) % 4294967296), .int .u32 0] W fun e w' => e = .returned (.tuple #[.int .u32 (Ui r t : Nat), .int .u32 (Uw r t : Nat)]) ∧ W = w' from by
    have := Lb r (t % 4294967296) 0 W r1 (by omega) (by omega)
    rw [show ((t % 4294967296 : Nat) : Int) = (t : Int) % 4294967296 by omega] at this
    exact this)
   obtain ⟨W', hW'⟩ : ∃ W', Ui r t = W' := ⟨_, rfl⟩
   obtain ⟨B', hB'⟩ : ∃ B', Uw r t = B' := ⟨_, rfl⟩
   rw [hW', hB'] at C1 hnext
   rw [hW'] at hset
   rw [hB'] at low
   have hB1 : B' ≤ 1 := by rw [← hB']; unfold Uw; split <;> omega
   have HNX := Lh hnext
   have k1 : IntKind.u64.wrap (u : Int) = (u : Int) := IntWalk.u64_in _ (by omega)
   have k2 : IntKind.u64.wrap (x : Int) = (x : Int) := IntWalk.u64_in _ (by have := HX.out; omega)
   have k4 : IntKind.u64.wrap ((u : Int) * (x : Int)) = (u : Int) * (x : Int) := IntWalk.u64_in _ (by
    have : ((u * x : Nat) : Int) = (u : Int) * (x : Int) := Int.natCast_mul u x
    omega)
   have k6 : IntKind.u64.wrap ((q : Int) + (u : Int) * (x : Int)) = (t : Int) := by
    have : ((u * x : Nat) : Int) = (u : Int) * (x : Int) := Int.natCast_mul u x
    have := HE.out
    rw [IntWalk.u64_in _ (by omega)]
    omega
   obtain ⟨T, hT⟩ : ∃ T, t / 4294967296 + B' = T := ⟨_, rfl⟩
   have k7 : IntKind.u64.wrap (B' : Int) = (B' : Int) := IntWalk.u64_in _ (by omega)
   have k8 : IntKind.u64.wrap ((t : Int) / 4294967296 + (B' : Int)) = (T : Int) := by rw [IntWalk.u64_in _ (by omega)]; omega
   rw [hT] at HNX
   have HSET := Lh hset
   clear e1 hnext l1 l2 u1 r1 q1 ht hu hr hkb hok hset low hW' hB' hB1 hT HE
   go_wp2_with (go_at_call 234; refine (C1.out _).mono ?_; rintro e w' ⟨rfl, rfl⟩)
   go_roundw
   case rel => exact ⟨k + 1, _, T, by go_num, rfl, by omega, HSET, HNX, hbw.setCell _⟩
   case measure => simp [intOf]; omega
  ·have HZ := Lh (show k = b.length by rw [HBL.out]; omega)
   have q1 := HT.out.low
   have k1 : IntKind.u32.wrap (q : Int) = (q : Int) := IntWalk.u32_in _ (by omega)
   have HT2 := Lh (HZ.out ▸ HT.out : TakeT R o b x b.length S q)
   clear q1
   go_wp2
   go_ret
   exact ⟨S, q, rfl, HS.out, HT2.out, hbw⟩
theorem Acc {P : Program} {f : FuncId} {args : Array Value} {w : World} {n : Nat} {v : Value}
  (h : Calls P f args (w.drewN n) fun e w' => e = .returned v ∧ ∃ j, w' = (w.drewN n).drewN j) : Calls P f args (w.drewN n) fun e w'' => e = .returned v ∧ ∃ m, w'' = w.drewN m :=
 h.mono fun _ _ ⟨he, j, hj⟩ => ⟨he, n + j, by rw [hj, World.drewN_drewN]⟩
def Vq (g : Nat) (R : List Nat) (o : Nat) (b : List Nat) (w : World) (e : Ending) (w' : World) : Prop :=
 ∃ S, e = .returned (.int .u32 ((val ((R.drop o).take (b.length + 1)) / val b : Nat) : Int)) ∧ Row w' g S ∧ S.length = R.length ∧ Ws S ∧ (∀ j, j < o ∨ o + (b.length + 1) ≤ j → S.getD j 0 = R.getD j 0) ∧
  val ((S.drop o).take (b.length + 1)) = val ((R.drop o).take (b.length + 1)) % val b ∧ Only g w w'
theorem Abz {R : List Nat} {o N : Nat} {b : List Nat} (hR : Ws R) (hb : Ws b) (hN : b.length = N + 1) (ho : o + b.length < R.length) (hb0 : 0 < val b) (htop : 0 < b.getD N 0)
  (hP : val ((R.drop o).take (b.length + 1)) < 4294967296 * val b) :
  val ((R.drop o).take (b.length + 1)) / val b ≤ Abn (R.getD (o + (N + 1)) 0) (R.getD (o + N) 0) (b.getD N 0) ∧ Abn (R.getD (o + (N + 1)) 0) (R.getD (o + N) 0) (b.getD N 0) < 4294967296 := by
 have hlo := hR.getD (o + N)
 have hy := hb.getD N
 refine ⟨?_, ?_⟩
 ·unfold Abn
  split
  ·have : val ((R.drop o).take (b.length + 1)) / val b < 4294967296 := by rw [Nat.div_lt_iff_lt_mul hb0]; exact hP
   omega
  ·rw [hN]
   refine Aet (p' := val ((R.drop o).take N)) (d' := val (b.take N)) (K := 4294967296 ^ N) ?_ ?_ ?_ htop
   ·rw [Bc R o (N + 1) (by omega), Bc R o N (by omega), Nat.pow_succ]
    grind
   ·have := Ea ((hR.drop o).take N)
    rwa [List.length_take, List.length_drop, Nat.min_eq_left (by omega)] at this
   ·have := Bp b N (by omega)
    rw [List.take_of_length_le (by omega)] at this
    rw [this]
 ·unfold Abn
  split
  ·omega
  ·next h =>
   rw [Nat.div_lt_iff_lt_mul htop]
   have : (R.getD (o + (N + 1)) 0 + 1) * 4294967296 ≤ b.getD N 0 * 4294967296 := Nat.mul_le_mul_right _ (by omega)
   omega
theorem Aj1 (g o n c : Nat) (R : List Nat) (A : Option Addr) (N m d : Nat) (b : List Nat) (B : Nat) (w : World) (hR : Row w g R) (hRw : Ws R) (hn : n = N + 2) (hmN : m = N + 1) (ho : o + n ≤ R.length) (hbl : b.length = N + 1)
  (hB : RW w B A b) (hgB : B ≤ g) (hm : R.length ≤ 35184372088832) (hb0 : 0 < val b) (htop : 0 < b.getD N 0) (hP : val ((R.drop o).take (b.length + 1)) < 4294967296 * val b) :
  Cp 260 #[.slice (some ⟨g, o, none⟩) n c, .slice A m d] w (Vq g R o b w) := by
 subst hn
 subst hmN
 obtain ⟨a, p, rfl, hab, hc⟩ := hB.2 (by omega)
 obtain ⟨gh1, gh2⟩ := Abz hRw hB.1 hbl (by omega) hb0 htop hP
 have d1 := hc N _ (getD_some (by omega))
 have d2 := hR.cell (o + (N + 1)) (by omega)
 have d3 := hR.cell (o + N) (by omega)
 have l1 := hRw.getD (o + (N + 1))
 have l2 := hRw.getD (o + N)
 have l3 := hB.1.getD N
 have C1 := Lh (fun W => Ad9 (R.getD (o + (N + 1)) 0) (R.getD (o + N) 0) (b.getD N 0) W l2 l3)
 obtain ⟨x, hx⟩ : ∃ x, Abn (R.getD (o + (N + 1)) 0) (R.getD (o + N) 0) (b.getD N 0) = x := ⟨_, rfl⟩
 rw [hx] at C1 gh1 gh2
 obtain ⟨u1, hu1⟩ : ∃ u, R.getD (o + (N + 1)) 0 = u := ⟨_, rfl⟩
 obtain ⟨u2, hu2⟩ : ∃ u, R.getD (o + N) 0 = u := ⟨_, rfl⟩
 obtain ⟨u3, hu3⟩ : ∃ u, b.getD N 0 = u := ⟨_, rfl⟩
 rw [hu1, hu2, hu3] at C1
 rw [hu1] at d2 l1
 rw [hu2] at d3
 rw [hu3] at d1
 have C2 := Lh (fun j => T4 g o (N + 2) c R (some ⟨a, p, none⟩) (N + 1) d b x B (w.drewN j) (hR.drewN j) hRw ho (by omega) hbl (by omega) (hB.drewN j) hgB gh2 hm)
 have HRW := Lh hRw
 have HBL := Lh hbl
 have HB := Lh hB
 have HGB := Lh hgB
 have HO := Lh ho
 have HB0 := Lh hb0
 have HG := Lh gh1
 have HG2 := Lh gh2
 have HU1 := Lh hu1
 have HM := Lh hm
 have hN1 : (N : Int) + 2 ≤ 35184372088832 := by omega
 have hoN1 : (o : Int) + (N : Int) + 2 ≤ 35184372088832 := by omega
 have L1 := Lh l1
 clear hR hRw ho hbl hB hgB hm hb0 htop hP hc gh1 gh2 l1 l2 l3 hx hu1 hu2 hu3 hab
 go_enter Tryz.func260, Tryz.ntmps260
 go_wp2
 go_quiet ((go_at_call 268; exact Acc (C1.out _)))
 go_wp2_with fail
 refine (C2.out _).mono ?_
 rintro e w2 ⟨S, q, rfl, hrow, ht, hb2⟩
 have hbw2 : Only g w w2 := ((Only.refl _ _).drewN nq).trans hb2
 have hql := ht.low
 have hSl := ht.len
 obtain ⟨e1, hst⟩ := ht.step (by rw [HBL.out]; have := HO.out; omega) HRW.out HG2.out HG.out
 rw [HBL.out, HU1.out] at e1 hst
 have hcell := hrow.cell (o + (N + 1)) (by rw [hSl]; have := HO.out; omega)
 have hfz := hrow.frozen (o + (N + 1))
 rw [e1] at hcell
 have C3 := Lh (fun W => show Cp 234 #[.int .u32 (u1 : Nat), .int .u32 (q : Nat), .int .u32 0] W fun e w' => e = .returned (.tuple #[.int .u32 ((u1 + 4294967296 * 2 - q - 0) % 4294967296 : Nat), .int .u32 ((if u1 < q + 0 then 1 else 0 : Nat) : Int)]) ∧ W = w' from Lb u1 q 0 W L1.out hql (by omega))
 obtain ⟨W3, hW3⟩ : ∃ W3, (u1 + 4294967296 * 2 - q - 0) % 4294967296 = W3 := ⟨_, rfl⟩
 obtain ⟨B3, hB3⟩ : ∃ B3, (if u1 < q + 0 then 1 else 0) = B3 := ⟨_, rfl⟩
 rw [hW3, hB3] at C3 hst
 have HROW := Lh (hrow.set (o + (N + 1)) W3)
 have HST := Lh hst
 have HBW := Lh hbw2
 clear hrow ht hb2 hbw2 hql hSl e1 hst hW3 hB3 C1 C2
 go_wp2_with (go_at_call 234; refine (C3.out _).mono ?_; rintro e w' ⟨rfl, rfl⟩)
 go_loopw [6, 8] (fun ov bv wr => ∃ (of bl : Nat) (S : List Nat), ov = .int .u32 (of : Nat) ∧ bv = .int .u32 (bl : Nat) ∧ Hid (Row wr g S) ∧ Hid (StepT R o b S of bl) ∧ Only g w wr) (fun ov _ _ => (intOf ov).toNat)
 case atStart => exact ⟨x, B3, _, rfl, rfl, HROW, HST, HBW.out.setCell _⟩
 case round =>
  obtain ⟨of, bl, T, rfl, rfl, HR2, HT2, hbw⟩ := hrel
  have hbl : bl = 0 ∨ bl = 1 := by have := HT2.out.low; omega
  rcases hbl with h0 | h0
  ·have b0 : ((bl : Int) == 1) = false := by rw [h0]; rfl
   rw [h0] at HT2
   obtain ⟨f1, f2⟩ := HT2.out.fin HB0.out
   have HF1 := Lh f1
   have HF2 := Lh f2
   clear f1 f2 h0
   go_wp2
   go_ret
   exact ⟨T, congrArg (fun k : Nat => Ending.returned (.int .u32 (k : Int))) HF1.out, HR2.out, HT2.out.len, HT2.out.ws, HT2.out.far, HF2.out, hbw⟩
  ·have b0 : ((bl : Int) == 1) = true := by rw [h0]; rfl
   rw [h0] at HT2
   have HBL1 := Lh h0
   obtain ⟨m1, _⟩ := HT2.out.more HB0.out (by rw [HBL.out]; have := HO.out; omega)
   have hofl := HT2.out.word
   have hTl := HT2.out.len
   have C4 := Lh (Qt g o (N + 2) c T (some ⟨a, p, none⟩) (N + 1) d b 1 B wr HR2.out HT2.out.ws (by rw [hTl]; exact HO.out) (by omega) HBL.out (HB.out.below (hbw.below.mono HGB.out)) HGB.out (by omega) (by rw [hTl]; exact HM.out))
   obtain ⟨k, rfl⟩ : ∃ k, of = k + 1 := ⟨of - 1, by omega⟩
   have k1 : IntKind.u32.wrap (((k + 1 : Nat) : Int) - 1) = (k : Int) := by rw [IntWalk.u32_in _ (by omega)]; omega
   have HTL := Lh hTl
   have hkl : (k : Int) < 4294967296 := by omega
   clear m1 hofl hTl h0
   go_wp2_with fail
   refine C4.out.mono ?_
   rintro e w4 ⟨U, q4, rfl, hrow4, hadd, hb4⟩
   have hbw4 : Only g w w4 := hbw.trans hb4
   have hUl := hadd.len
   have hq4 := hadd.low
   obtain ⟨f1, f2, f3⟩ := HT2.out.back HB0.out (by rw [HBL.out]; have := HO.out; omega) hadd
   rw [HBL.out] at f1 f2 f3
   have hcell4 := hrow4.cell (o + (N + 1)) (by rw [hUl, HTL.out]; have := HO.out; omega)
   have hfz4 := hrow4.frozen (o + (N + 1))
   rw [f1] at hcell4
   have htl := HT2.out.ws.getD (o + (N + 1))
   obtain ⟨u4, hu4⟩ : ∃ u, T.getD (o + (N + 1)) 0 = u := ⟨_, rfl⟩
   rw [hu4] at hcell4 f2 f3 htl
   have C5 := Lh (fun W => show Cp 235 #[.int .u32 (u4 : Nat), .int .u32 (q4 : Nat), .int .u32 0] W fun e w' => e = .returned (.tuple #[.int .u32 ((u4 + q4 + 0) % 4294967296 : Nat), .int .u32 ((u4 + q4 + 0) / 4294967296 : Nat)]) ∧ W = w' from Rs u4 q4 0 W htl hq4 (by omega))
   obtain ⟨W4, hW4⟩ : ∃ W4, (u4 + q4 + 0) % 4294967296 = W4 := ⟨_, rfl⟩
   obtain ⟨c4, hc4⟩ : ∃ c4, (u4 + q4 + 0) / 4294967296 = c4 := ⟨_, rfl⟩
   rw [hW4, hc4] at C5 f3
   rw [hc4] at f2
   rw [Nat.add_sub_cancel] at f3
   have k2 : IntKind.u32.wrap ((bl : Int) - (c4 : Int)) = ((1 - c4 : Nat) : Int) := by rw [HBL1.out, IntWalk.u32_in _ (by omega)]; omega
   have HROW4 := Lh (hrow4.set (o + (N + 1)) W4)
   have HST4 := Lh f3
   have HBW4 := Lh hbw4
   clear hrow4 hadd hb4 hbw4 hUl hq4 f1 f2 f3 htl hu4 hW4 hc4 C4
   go_wp2_with (go_at_call 235; refine (C5.out _).mono ?_; rintro e w' ⟨rfl, rfl⟩)
   go_roundw
   case rel => exact ⟨k, 1 - c4, _, rfl, rfl, HROW4, HST4, HBW4.out.setCell _⟩
   case measure => simp [intOf]
theorem Be {fn : Func} {t u v : Tmp} (h : fn.results = #[.tmp t, .tmp u, .tmp v]) (tmps : Array Value) (P : Program) (w : World) :
  (results fn tmps).run P w = .ok (.tuple #[tmps.getD t undef, tmps.getD u undef, tmps.getD v undef]) w := by
 simp [results, h]
def DivT (Q R : List Nat) (t : Nat) (w : World) (e : Ending) (w' : World) : Prop :=
 ∃ A n c C m d, e = .returned (.tuple #[.slice A n c, .slice C m d, .int .i64 (t : Nat)]) ∧ (n = Q.length ∧ n ≤ c ∧ m = R.length ∧ m ≤ d ∧ RW w' w'.heap.size A Q ∧ RW w' w'.heap.size C R) ∧ Below w.heap.size w w'
def Vg (v u : Nat) : Bool := !(Am v || Am u) && !decide (u = 0)
def Kv (v u : Nat) : List Nat := if Vg v u = true then wds (v / u) else []
def Ls (v u : Nat) : List Nat := if Vg v u = true then wds (v % u) else []
def H8 (v u : Nat) : Nat := if (Am v || Am u) = true then 3 else if u = 0 then 4 else 0
theorem Tw {v u : Nat} (h : (Am v || Am u) = false) (hu : 0 < u) : Vg v u = true := by
 unfold Vg; rw [h, decide_eq_false (by omega)]; rfl
theorem DivT.ok {v u : Nat} {w w' : World} {A C : Option Addr} {n c m d : Nat} (h : (Am v || Am u) = false) (hu : 0 < u) (hn : n = (wds (v / u)).length) (hc : n ≤ c) (hm : m = (wds (v % u)).length) (hd : m ≤ d)
  (hA : RW w' w'.heap.size A (wds (v / u))) (hC : RW w' w'.heap.size C (wds (v % u))) (hb : Below w.heap.size w w') : DivT (Kv v u) (Ls v u) (H8 v u) w (.returned (.tuple #[.slice A n c, .slice C m d, .int .i64 0])) w' := by
 have e0 : H8 v u = 0 := by unfold H8; rw [if_neg (by rw [h]; simp), if_neg (by omega)]
 unfold Kv Ls
 rw [e0, if_pos (Tw h hu), if_pos (Tw h hu)]
 exact ⟨A, n, c, C, m, d, rfl, ⟨hn, hc, hm, hd, hA, hC⟩, hb⟩
theorem DivT.long {v u : Nat} {w w' : World} (h : (Am v || Am u) = true) (hb : Below w.heap.size w w') : DivT (Kv v u) (Ls v u) (H8 v u) w (.returned (.tuple #[.slice none 0 0, .slice none 0 0, .int .i64 3])) w' := by
 have e0 : H8 v u = 3 := by unfold H8; rw [if_pos h]
 have e1 : Vg v u = false := by unfold Vg; rw [h]; rfl
 unfold Kv Ls
 rw [e0, if_neg (by rw [e1]; simp), if_neg (by rw [e1]; simp)]
 exact ⟨none, 0, 0, none, 0, 0, rfl, ⟨rfl, Nat.le_refl _, rfl, Nat.le_refl _, RW.nil _ _ _, RW.nil _ _ _⟩, hb⟩
theorem DivT.zero {v u : Nat} {w w' : World} (h : (Am v || Am u) = false) (hu : u = 0) (hb : Below w.heap.size w w') : DivT (Kv v u) (Ls v u) (H8 v u) w (.returned (.tuple #[.slice none 0 0, .slice none 0 0, .int .i64 4])) w' := by
 have e0 : H8 v u = 4 := by unfold H8; rw [if_neg (by rw [h]; simp), if_pos hu]
 have e1 : Vg v u = false := by unfold Vg; rw [decide_eq_true hu]; simp
 unfold Kv Ls
 rw [e0, if_neg (by rw [e1]; simp), if_neg (by rw [e1]; simp)]
 exact ⟨none, 0, 0, none, 0, 0, rfl, ⟨rfl, Nat.le_refl _, rfl, Nat.le_refl _, RW.nil _ _ _, RW.nil _ _ _⟩, hb⟩
theorem Apy (W : World) : RW (W.alloc (.cells #[.int .u32 1] 129)) (W.alloc (.cells #[.int .u32 1] 129)).heap.size (some ⟨W.heap.size, 0, none⟩) [1] := (Adu W 1 (by omega)).more (by simp)
theorem Ahe (A : Option Addr) (n c : Nat) (l : List Nat) (W : World) (hn : l.length = n) (hm : n ≤ 4096) (h : RW W W.heap.size A l) :
  Cp 137 #[.slice A n c, .slice (some ⟨W.heap.size, 0, none⟩) 1 1] (W.alloc (.cells #[.int .u32 1] 129)) (SlPost (wds (val l + 1)) (W.alloc (.cells #[.int .u32 1] 129))) := by
 have g := Apy W
 have h2 : RW (W.alloc (.cells #[.int .u32 1] 129)) (W.alloc (.cells #[.int .u32 1] 129)).heap.size A l := h.step ((Below.refl _ _).alloc (Nat.le_refl _) _)
 generalize W.alloc (.cells #[.int .u32 1] 129) = W' at *
 exact Fo A (some ⟨W.heap.size, 0, none⟩) n c 1 1 l [1] W' hn (by omega) h2 rfl (by omega) g
theorem Apg (y s : Nat) (hy : y < 4294967296) (hs : s < 32) : bits BinOp.or IntKind.u32 (y : Int) (2 ^ s % 4294967296) = ((y ||| 2 ^ s : Nat) : Int) := by
 have h : 2 ^ s < 4294967296 := Nat.pow_lt_pow_right (n := 32) (by omega) hs
 rw [← Uv y (2 ^ s) hy h, show ((2 : Int) ^ s) = ((2 ^ s : Nat) : Int) by rw [Int.natCast_pow]; rfl]
 generalize 2 ^ s = P at *
 rw [show (P : Int) % 4294967296 = (P : Int) by omega]
theorem Aag (A C : Option Addr) (n c m d : Nat) (a b : List Nat) (w : World) (hn : a.length = n) (hm : n ≤ 1024) (h : RW w w.heap.size A a)
  (gn : b.length = m) (gm : m ≤ 1024) (g : RW w w.heap.size C b) (hnb : nrm b = b) (hb0 : 0 < val b) :
  Cp 155 #[.slice A n c, .slice C m d] w (fun e w' => ∃ A2 n2 c2 C2 m2 d2, e = .returned (.tuple #[.slice A2 n2 c2, .slice C2 m2 d2]) ∧ (n2 = (wds (val a / val b)).length ∧ n2 ≤ c2 ∧ m2 = (wds (val a % val b)).length ∧ m2 ≤ d2 ∧ RW w' w'.heap.size A2 (wds (val a / val b)) ∧ RW w' w'.heap.size C2 (wds (val a % val b))) ∧ Below w.heap.size w w') := by
 have hmk := run_make_row' (P := Tryz.prog) 121 129 (.int .u32 0) 4 Tryz.underlying121 Ed rfl .i64 .i64 n (by omega) (by omega) w
 have HROW := Lh (Row.made w n)
 have HBL := Lh (show Below w.heap.size w (w.alloc (.cells (madeCells #[.int .u32 0] n) 129)) from (Below.refl _ _).alloc (Nat.le_refl _) _)
 have HA := Lh h
 have HB := Lh g
 have HN := Lh hn
 have HM := Lh gn
 have HB0 := Lh hb0
 have HNB := Lh hnb
 have HST := Lh (show HalfT a (val b) (32 * n) (List.replicate n 0) 0 by rw [← hn]; exact HalfT.start h.1 _)
 have hn1 : (n : Int) ≤ 1024 := by omega
 have hm1 : (m : Int) ≤ 1024 := by omega
 have hbw : b = wds (val b) := by rw [← Bg g.1, hnb]
 have HBW := Lh (show (wds (val b)).length ≤ 1024 by rw [← hbw, gn]; exact gm)
 clear h g hn gn hb0 hnb hm gm hbw
 go_enter Tryz.func155, Tryz.ntmps155
 go_wp2
 clear hmk
 go_loopw [7, 8] (fun v i wr => ∃ (k : Nat) (Q : List Nat) (r : Nat), i = .int .i64 ((k : Int) - 1) ∧ k ≤ 32 * n ∧ Hid (Sl wr wr.heap.size v (wds r)) ∧ Hid (Row wr w.heap.size Q) ∧ Hid (HalfT a (val b) k Q r) ∧ Below w.heap.size w wr) (fun _ i _ => (intOf i + 1).toNat)
 case atStart => exact ⟨32 * n, _, 0, by rw [Int.natCast_mul]; rfl, Nat.le_refl _, Lh (Sl.nil _ _ _), HROW, HST, HBL.out⟩
 case round =>
  obtain ⟨k, Q, r, rfl, hk, HS, HR, HT, hbw⟩ := hrel
  obtain ⟨A0, c0, rfl, hc0, hr0⟩ := HS.out
  obtain ⟨L0, hL0⟩ : ∃ L, (wds r).length = L := ⟨_, rfl⟩
  rw [hL0] at hc0 ⊢
  have hQl : Q.length = n := by rw [HT.out.len, HN.out]
  by_cases h0 : k = 0
  ·subst h0
   obtain ⟨f1, f2⟩ := HT.out.fin
   have hlt := HR.out.lt
   have C1 := Lh ((Bk (some ⟨w.heap.size, 0, none⟩) n n Q wr.heap.size wr hQl (Nat.le_refl _) (by omega) ((HR.out.rw0 HT.out.ws).more hlt)).mono (fun e w' x => SlPost.of HT.out.ws.nrm x))
   rw [Bg HT.out.ws, f1] at C1
   rw [f2] at hr0 hL0
   have HR0 := Lh hr0
   have HC0 := Lh hc0
   have HL0 := Lh hL0
   clear f1 f2 hlt hr0 hc0 hL0 hQl
   go_wp2_with fail
   refine C1.out.mono ?_
   rintro e w2 ⟨v2, rfl, ⟨A2, c2, rfl, hc2, r2⟩, b2⟩
   have H2 := Lh r2
   have H3 := Lh hc2
   have H4 := Lh (HR0.out.step b2)
   have H5 := Lh (Aa hbw b2)
   clear r2 hc2 b2 C1
   go_wp2
   go_ret2
   exact ⟨A2, _, c2, A0, L0, c0, rfl, ⟨rfl, H3.out, HL0.out.symm, HC0.out, H2.out, H4.out⟩, H5.out⟩
  ·obtain ⟨I, rfl⟩ : ∃ I, k = I + 1 := ⟨k - 1, by omega⟩
   rw [show (((I + 1 : Nat) : Int) - 1) = (I : Int) by omega]
   obtain ⟨j, s, hjs, hs⟩ : ∃ j s, I = 32 * j + s ∧ s < 32 := ⟨I / 32, I % 32, by omega, by omega⟩
   have hjn : j < n := by omega
   have hja : j < a.length := by rw [HN.out]; exact hjn
   have hrv : r < val b := by have := HT.out.rest; rw [this]; exact Nat.mod_lt _ HB0.out
   have l0 : L0 ≤ 1024 := by have := Vs (Nat.le_of_lt hrv); have := HBW.out; omega
   rw [hjs] at HT
   have HRW := Lh (fun W (hb : Below w.heap.size w W) => HB.out.step hb)
   obtain ⟨ab, ao, rfl, hab, hca⟩ := HA.out.2 (by omega)
   have hcl := hca j _ (getD_some hja)
   have hxl := HA.out.1.getD j
   obtain ⟨x, hx⟩ : ∃ x, a.getD j 0 = x := ⟨_, rfl⟩
   obtain ⟨bt, hbt⟩ : ∃ bt, x / 2 ^ s % 2 = bt := ⟨_, rfl⟩
   have hb2 : bt < 2 := by omega
   have hba := Uy x s (by rw [← hx]; exact hxl)
   rw [hbt] at hba
   have hup := fun h => (HT.out.up HA.out.1 HB0.out hja hs h)
   have hdown := fun h => (HT.out.down HA.out.1 HB0.out hja hs h)
   rw [hx, hbt] at hup hdown
   rw [hx] at hcl
   obtain ⟨L1, hL1⟩ : ∃ L, (wds (2 * r)).length = L := ⟨_, rfl⟩
   have l1 : L1 ≤ 1025 := by have := Lz r r; rw [← Nat.two_mul, hL1] at this; omega
   obtain ⟨r2, hr2⟩ : ∃ r2, 2 * r + bt = r2 := ⟨_, rfl⟩
   obtain ⟨L2, hL2⟩ : ∃ L, (wds r2).length = L := ⟨_, rfl⟩
   have l2 : L2 ≤ 1026 := by
    have := Lz (2 * r) bt
    have h3 : (wds bt).length ≤ 1 := Bh (by omega)
    rw [hr2] at this; omega
   obtain ⟨L3, hL3⟩ : ∃ L, (wds (r2 - val b)).length = L := ⟨_, rfl⟩
   rw [hr2] at hup hdown
   have K1 := Lh (show Cp 157 #[.slice A0 L0 c0, .int .i64 1] wr (Jo (wds (2 * r)) L1 wr) from by
    have := Alh A0 L0 c0 1 (wds r) wr hL0 hc0 (by omega) hr0 (by omega)
    rw [Ad, Nat.pow_one, Nat.mul_comm] at this
    exact this.mono fun _ _ y => y.told hL1)
   have K2 := Lh (fun W A2 c2 (r1 : RW W W.heap.size A2 (wds (2 * r))) => show bt = 1 → Cp 137 #[.slice A2 L1 c2, .slice (some ⟨W.heap.size, 0, none⟩) 1 1] (W.alloc (.cells #[.int .u32 1] 129)) (Jo (wds r2) L2 (W.alloc (.cells #[.int .u32 1] 129))) from fun hb1 => by
    have := Ahe A2 L1 c2 (wds (2 * r)) W hL1 (by omega) r1
    rw [Ad, show 2 * r + 1 = r2 by omega] at this
    exact this.mono fun _ _ y => y.told hL2)
   have K3 := Lh (fun W A2 c2 (hb : Below w.heap.size w W) (r1 : RW W W.heap.size A2 (wds r2)) => Wp A2 C L2 c2 m d (wds r2) b W.heap.size W.heap.size W hL2 (by omega) r1 HM.out (by omega) (HRW.out W hb))
   have K4 := Lh (fun W A2 c2 (hb : Below w.heap.size w W) (r1 : RW W W.heap.size A2 (wds r2)) => show val b ≤ r2 → Cp 209 #[.slice A2 L2 c2, .slice C m d] W (Aok (wds (r2 - val b)) L3 W) from fun hle => by
    have hmL : m ≤ L2 := by
     have h1 := Vs hle
     have h2 : b = wds (val b) := by rw [← Bg HB.out.1, HNB.out]
     rw [← h2, HM.out, hL2] at h1
     exact h1
    have := Ag5 A2 C L2 c2 m d (wds r2) b W hL2 (by omega) r1 HM.out hmL (HRW.out W hb) (by rw [Ad]; exact hle)
    rw [Ad] at this
    exact this.mono fun _ _ y => y.toldN (Ax _) hL3)
   have HL1 := Lh hL1
   have HR2E := Lh hr2
   have HL2 := Lh hL2
   have HL3 := Lh hL3
   obtain ⟨y, hy⟩ : ∃ y, Q.getD j 0 = y := ⟨_, rfl⟩
   have hcell := fun (W : World) (hb : Row W w.heap.size Q) => hb.cell j (by rw [hQl]; exact hjn)
   have hfz := fun (W : World) (hb : Row W w.heap.size Q) => hb.frozen j
   rw [hy] at hup hcell
   have hyl := HT.out.ws.getD j
   rw [hy] at hyl
   have HW := Lh (show bits BinOp.or IntKind.u32 (y : Int) (2 ^ s % 4294967296) = ((y ||| 2 ^ s : Nat) : Int) from Apg y s hyl hs)
   have HCELL := Lh hcell
   have HFZ := Lh hfz
   have HUP := Lh hup
   have HDOWN := Lh hdown
   have HCA := Lh (fun (W : World) (hb : Below w.heap.size w W) => (hb.cell (p := ⟨ab, ao + j, none⟩) hab).trans hcl)
   have e3 : (I : Int) / 32 = (j : Int) := by omega
   have e4 : (I : Int) % 32 = (s : Int) := by omega
   have hj1 : (j : Int) < (n : Int) := by omega
   have hs0 : (0 : Int) ≤ (s : Int) := by omega
   have hI0 : (0 : Int) ≤ (I : Int) := by omega
   have hI2 : (I : Int) ≤ 32768 := by omega
   have hI3 : I ≤ 32 * n := by omega
   have HS32 := Lh hs
   have HJS := Lh hjs
   have HBT := Lh hb2
   have HRLT := Lh HR.out.lt
   clear hk h0 hjs hjn hja hrv l0 l1 l2 hL0 hc0 hr0 hL1 hr2 hL2 hL3 hca hxl hx hbt hcell hfz hup hdown hQl hcl hab hy hyl
   cases hbit : decide (bt = 1)
   ·have hbe : bt = 0 := by have := of_decide_eq_false hbit; have := HBT.out; omega
    have hT : (bits BinOp.and IntKind.u32 ((x : Int) / 2 ^ s) 1 == 1) = false := by rw [hba, hbe]; rfl
    obtain rfl : 2 * r = r2 := by rw [← HR2E.out, hbe, Nat.add_zero]
    obtain rfl : L1 = L2 := by rw [← HL1.out, ← HL2.out]
    clear hba hbe hbit hs hb2 K2
    go_wp2_with fail
    refine K1.out.mono ?_
    rintro e w3 ⟨A3, c3, rfl, ⟨hc3, r3⟩, b1⟩
    have B3 := Aa hbw b1
    have hcx := HCA.out w3 B3
    have R3 := HR.out.below HRLT.out b1
    have D3 := K3.out w3 A3 c3 B3 r3
    have D4 := Lh (K4.out w3 A3 c3 B3 r3)
    clear K1 K3 K4 b1
    by_cases hle : val b ≤ (2 * r)
    ·have ho : (0 : Int) ≤ ord (wds (2 * r)) b := by
      rcases Nat.lt_or_ge (val b) (2 * r) with h1 | h1
      ·rw [Jn (by rw [Ad]; exact h1)]; omega
      ·rw [Ln (by rw [Ad]; omega)]; omega
     obtain ⟨o, hoe⟩ : ∃ o, ord (wds (2 * r)) b = o := ⟨_, rfl⟩
     rw [hoe] at ho D3
     have D5 := D4.out hle
     obtain ⟨u1, u2⟩ := HUP.out hle
     have HU2 := Lh u2
     clear hle hoe u1 u2 D4 r3
     go_wp2_with fail
     refine D3.mono ?_
     rintro e w' ⟨rfl, rfl⟩
     go_wp2_with fail
     refine D5.mono ?_
     rintro e w5 ⟨A5, c5, rfl, ⟨hc5, r5, q5⟩, b5⟩
     have B5 := Aa B3 b5
     have R5 := R3.below R3.lt b5
     have hcell := HCELL.out w5 R5
     have hfz := HFZ.out w5 R5
     have HR5 := Lh (R5.set j (y ||| 2 ^ s))
     have HS5 := Lh (r5.other (g := w.heap.size) (j := j) (fun ad h => Nat.lt_of_lt_of_le R3.lt (q5 ad h)) (.int .u32 ((y ||| 2 ^ s : Nat) : Int)))
     have HC5 := Lh hc5
     have HB5 := Lh (B5.setCell (p := ⟨w.heap.size, j, none⟩) (Nat.le_refl _) (.int .u32 ((y ||| 2 ^ s : Nat) : Int)))
     clear r5 q5 b5 R5 B5 hc5 D3 D5 B3 R3
     go_wp2
     rw [HW.out]
     refine ⟨⟨I, _, (2 * r) - val b, rfl, by omega, Lh ⟨A5, c5, by rw [HL3.out], by rw [HL3.out]; exact HC5.out, ?_⟩, HR5, by rw [HJS.out]; exact HU2, HB5.out⟩, ?_⟩
     ·have := HS5.out
      rw [show (w5.setCell ⟨w.heap.size, j, none⟩ (.int .u32 ((y ||| 2 ^ s : Nat) : Int))).heap.size = w5.heap.size by simp [World.setCell]]
      exact this
     ·simp [intOf]
    ·have ho : ¬ (0 : Int) ≤ ord (wds (2 * r)) b := by rw [Jq (by rw [Ad]; omega)]; omega
     obtain ⟨o, hoe⟩ : ∃ o, ord (wds (2 * r)) b = o := ⟨_, rfl⟩
     rw [hoe] at ho D3
     have HD2 := Lh (HDOWN.out (by omega))
     have HS3 := Lh r3
     have HC3 := Lh hc3
     clear hle hoe D4 r3 hc3
     go_wp2_with fail
     refine D3.mono ?_
     rintro e w' ⟨rfl, rfl⟩
     go_wp2
     go_roundw
     case rel => exact ⟨I, Q, (2 * r), by go_num, by omega, Lh ⟨A3, c3, by rw [HL2.out], by rw [HL2.out]; exact HC3.out, HS3.out⟩, Lh R3, by rw [HJS.out]; exact HD2, B3⟩
     case measure => simp [intOf]
   ·have hbe : bt = 1 := of_decide_eq_true hbit
    have hT : (bits BinOp.and IntKind.u32 ((x : Int) / 2 ^ s) 1 == 1) = true := by rw [hba, hbe]; rfl
    have K2b := Lh (fun W A2 c2 r1 => K2.out W A2 c2 r1 hbe)
    clear hba hbe hbit hs hb2 K2
    go_wp2_with fail
    refine K1.out.mono ?_
    rintro e w1 ⟨A1, c1, rfl, ⟨hc1, r1⟩, b1⟩
    have B1 := Aa hbw b1
    have hcx := HCA.out w1 B1
    have D2 := K2b.out w1 A1 c1 r1
    have R1 := HR.out.below HRLT.out b1
    have B2 : Below w.heap.size w (w1.alloc (.cells #[.int .u32 1] 129)) := B1.alloc B1.size _
    have R2 : Row (w1.alloc (.cells #[.int .u32 1] 129)) w.heap.size Q := R1.below R1.lt ((Below.refl _ _).alloc (Nat.le_refl _) _)
    have HB2 := Lh B2
    have HR2 := Lh R2
    clear r1 b1 B2 R2 R1 K1 K2b hc1
    go_wp2_with fail
    refine D2.mono ?_
    rintro e w3 ⟨A3, c3, rfl, ⟨hc3, r3⟩, b3⟩
    have B3 := Aa HB2.out b3
    have R3 := HR2.out.below HR2.out.lt b3
    have D3 := K3.out w3 A3 c3 B3 r3
    have D4 := Lh (K4.out w3 A3 c3 B3 r3)
    clear K3 K4 b3
    by_cases hle : val b ≤ r2
    ·have ho : (0 : Int) ≤ ord (wds r2) b := by
      rcases Nat.lt_or_ge (val b) r2 with h1 | h1
      ·rw [Jn (by rw [Ad]; exact h1)]; omega
      ·rw [Ln (by rw [Ad]; omega)]; omega
     obtain ⟨o, hoe⟩ : ∃ o, ord (wds r2) b = o := ⟨_, rfl⟩
     rw [hoe] at ho D3
     have D5 := D4.out hle
     obtain ⟨u1, u2⟩ := HUP.out hle
     have HU2 := Lh u2
     clear hle hoe u1 u2 D4 r3
     go_wp2_with fail
     refine D3.mono ?_
     rintro e w' ⟨rfl, rfl⟩
     go_wp2_with fail
     refine D5.mono ?_
     rintro e w5 ⟨A5, c5, rfl, ⟨hc5, r5, q5⟩, b5⟩
     have B5 := Aa B3 b5
     have R5 := R3.below R3.lt b5
     have hcell := HCELL.out w5 R5
     have hfz := HFZ.out w5 R5
     have HR5 := Lh (R5.set j (y ||| 2 ^ s))
     have HS5 := Lh (r5.other (g := w.heap.size) (j := j) (fun ad h => Nat.lt_of_lt_of_le R3.lt (q5 ad h)) (.int .u32 ((y ||| 2 ^ s : Nat) : Int)))
     have HC5 := Lh hc5
     have HB5 := Lh (B5.setCell (p := ⟨w.heap.size, j, none⟩) (Nat.le_refl _) (.int .u32 ((y ||| 2 ^ s : Nat) : Int)))
     clear r5 q5 b5 R5 B5 hc5 D3 D5 B3 R3
     go_wp2
     rw [HW.out]
     refine ⟨⟨I, _, r2 - val b, rfl, by omega, Lh ⟨A5, c5, by rw [HL3.out], by rw [HL3.out]; exact HC5.out, ?_⟩, HR5, by rw [HJS.out]; exact HU2, HB5.out⟩, ?_⟩
     ·have := HS5.out
      rw [show (w5.setCell ⟨w.heap.size, j, none⟩ (.int .u32 ((y ||| 2 ^ s : Nat) : Int))).heap.size = w5.heap.size by simp [World.setCell]]
      exact this
     ·simp [intOf]
    ·have ho : ¬ (0 : Int) ≤ ord (wds r2) b := by rw [Jq (by rw [Ad]; omega)]; omega
     obtain ⟨o, hoe⟩ : ∃ o, ord (wds r2) b = o := ⟨_, rfl⟩
     rw [hoe] at ho D3
     have HD2 := Lh (HDOWN.out (by omega))
     have HS3 := Lh r3
     have HC3 := Lh hc3
     clear hle hoe D4 r3 hc3
     go_wp2_with fail
     refine D3.mono ?_
     rintro e w' ⟨rfl, rfl⟩
     go_wp2
     go_roundw
     case rel => exact ⟨I, Q, r2, by go_num, by omega, Lh ⟨A3, c3, by rw [HL2.out], by rw [HL2.out]; exact HC3.out, HS3.out⟩, Lh R3, by rw [HJS.out]; exact HD2, B3⟩
     case measure => simp [intOf]
theorem Aey {b : List Nat} {N : Nat} (hb : Ws b) (hN : b.length = N + 1) (hnb : nrm b = b) : 0 < b.getD N 0 ∧ 0 < Lib.bitLen (b.getD N 0) ∧ Lib.bitLen (b.getD N 0) ≤ 32 ∧ b.getD N 0 < 2 ^ Lib.bitLen (b.getD N 0) := by
 have h0 : nrm b ≠ [] := by rw [hnb]; intro e; rw [e] at hN; simp at hN
 have h1 := Air h0
 rw [hnb, hN, Nat.add_sub_cancel] at h1
 have h2 := hb.getD N
 have h3 := Gp _ h2
 obtain ⟨b1, b2, b3⟩ := Lib.bitLenAux_bounds 64 (b.getD N 0) (by omega) h1
 exact ⟨by omega, b1, h3, b3⟩
theorem ShlP.exact {R : List Nat} {o : Nat} {a : List Nat} {s N : Nat} {S : List Nat} (h : ShlP R o a s (N + 1) S) (hn : a.length = N + 1) (ht : a.getD N 0 < 2 ^ (32 - s)) : val ((S.drop o).take (N + 1)) = 2 ^ s * val a := by
 have h4 := h.sum
 have e : E2 a s (N + 1) = 0 := by
  unfold E2
  rw [if_neg (by omega), Nat.add_sub_cancel]
  exact Nat.div_eq_of_lt ht
 rw [e, Nat.mul_zero, Nat.add_zero, Bd (l := a) (by omega)] at h4
 exact h4
theorem Anb {S : List Nat} {N : Nat} (hS : Ws S) (hl : S.length = N + 1) (hv : 4294967296 ^ N ≤ val S) : 0 < S.getD N 0 := by
 rcases Nat.eq_zero_or_pos (S.getD N 0) with h | h
 ·have e := Bp S N (by omega)
  rw [List.take_of_length_le (by omega), h, Nat.mul_zero, Nat.add_zero] at e
  have := Ea (hS.take N)
  rw [List.length_take, Nat.min_eq_left (by omega)] at this
  omega
 ·exact h
def Pb (n M va vb : Nat) (w : World) (e : Ending) (w' : World) : Prop :=
 ∃ S T g1 g2, e = .returned (.tuple #[.slice (some ⟨g2, 0, none⟩) M M, .slice (some ⟨g1, 0, none⟩) (n + 1) (n + 1)]) ∧ Row w' g2 S ∧ Row w' g1 T ∧ S.length = M ∧ T.length = n + 1 ∧ Ws S ∧ Ws T ∧ val S = va / vb ∧ val T = va % vb ∧ Below w.heap.size w w'
theorem Px (A C : Option Addr) (n c m M N d : Nat) (a b : List Nat) (w : World) (hn : a.length = n) (hm : n ≤ 1024) (h : RW w w.heap.size A a)
  (gn : b.length = m) (gN : m = N + 1) (g : RW w w.heap.size C b) (hnb : nrm b = b) (hM : n + 1 = M + m) (hM0 : 0 < M) :
  Cp 247 #[.slice A n c, .slice C m d] w (Pb n M (val a) (val b) w) := by
 subst gN
 obtain ⟨t1, t2, t3, t4⟩ := Aey g.1 gn hnb
 have h0 : nrm b ≠ [] := by rw [hnb]; intro e; rw [e] at gn; simp at gn
 have hge := Pi h0
 rw [hnb, gn, Nat.add_sub_cancel] at hge
 obtain ⟨cb, coff, rfl, hcb, hcc⟩ := g.2 (by omega)
 have d1 := hcc N _ (getD_some (by omega))
 have htl := g.1.getD N
 obtain ⟨u, hu⟩ : ∃ u, b.getD N 0 = u := ⟨_, rfl⟩
 rw [hu] at d1 t1 t2 t3 t4 htl
 obtain ⟨L, hL⟩ : ∃ L, Lib.bitLen u = L := ⟨_, rfl⟩
 have C1 := Lh (fun W => show Cp 259 #[.int .u32 (u : Nat)] W fun e w' => e = .returned (.int .i64 (32 - (L : Int))) ∧ W = w' from by
  have := Tryz.bits_LeadingZeros32 (u : Int) W (by omega) (by omega)
  rw [Int.toNat_natCast, hL] at this; exact this.mono fun _ _ ⟨x, y⟩ => ⟨x, y.symm⟩)
 rw [hL] at t2 t3 t4
 obtain ⟨s, hs⟩ : ∃ s, 32 - L = s := ⟨_, rfl⟩
 have hs2 : 32 - (L : Int) = (s : Int) := by omega
 rw [hs2] at C1
 have hs32 : s < 32 := by omega
 have HT4 := Lh (show b.getD N 0 < 2 ^ (32 - s) by rw [hu, show 32 - s = L by omega]; exact t4)
 have hN1 : (N : Int) ≤ 1024 := by omega
 have hn1 : (n : Int) ≤ 1024 := by omega
 have hM1 : (1 : Int) ≤ (M : Int) := by omega
 have hM2 : (M : Int) ≤ 1024 := by omega
 have HA := Lh h
 have HB := Lh g
 have HGB := Lh (show (b.length = N + 1 ∧ a.length = n) from ⟨gn, hn⟩)
 have HGE := Lh hge
 have HM := Lh hM
 have HM0 := Lh hM0
 have hm1 := run_make_row' (P := Tryz.prog) 121 129 (.int .u32 0) 4 Tryz.underlying121 Ed rfl .i64 .i64 (N + 1) (by omega) (by omega) w
 rw [show ((N + 1 : Nat) : Int) = (N : Int) + 1 by omega] at hm1
 have hm2 := fun W => run_make_row' (P := Tryz.prog) 121 129 (.int .u32 0) 4 Tryz.underlying121 Ed rfl .i64 .i64 (n + 1) (by omega) (by omega) W
 rw [show ((n + 1 : Nat) : Int) = (n : Int) + 1 by omega] at hm2
 have hm3 := fun W => run_make_row' (P := Tryz.prog) 121 129 (.int .u32 0) 4 Tryz.underlying121 Ed rfl .i64 .i64 M (by omega) (by omega) W
 have HM2 := Lh hm2
 have HM3 := Lh hm3
 have hMe0 : IntKind.i64.wrap ((n : Int) - ((N : Int) + 1)) = (n : Int) - ((N : Int) + 1) := IntWalk.i64_in _ (by omega)
 have hMe : IntKind.i64.wrap (((n : Int) - ((N : Int) + 1)) + 1) = (M : Int) := by rw [IntWalk.i64_in _ (by omega)]; omega
 have hR1 := Row.made w (N + 1)
 have hB1 : Below w.heap.size w (w.alloc (.cells (madeCells #[.int .u32 0] (N + 1)) 129)) := (Below.refl _ _).alloc (Nat.le_refl _) _
 have hz1 : (w.alloc (.cells (madeCells #[.int .u32 0] (N + 1)) 129)).heap.size = w.heap.size + 1 := by simp
 obtain ⟨w1, hw1⟩ : ∃ w1, w.alloc (.cells (madeCells #[.int .u32 0] (N + 1)) 129) = w1 := ⟨_, rfl⟩
 rw [hw1] at hR1 hB1 hz1 hm1
 have C2 := Lh (T8 w.heap.size 0 (N + 1) (N + 1) s (List.replicate (N + 1) 0) (some ⟨cb, coff, none⟩) (N + 1) d b w.heap.size w1 hR1 (Ws.zeros _) (by rw [List.length_replicate]; omega) gn (by omega) (by omega) (g.below hB1) (Nat.le_refl _) hs32)
 have HB1 := Lh hB1
 have HZ1 := Lh hz1
 clear t1 t2 t3 t4 hu hL hs hs2 htl hcc h g hn gn hge hM hM0 hnb h0 hm hm2 hm3 hR1 hB1 hz1 hw1
 go_enter Tryz.func247, Tryz.ntmps247
 go_wp2_with fail
 refine Sm (C1.out _) ?_
 go_wp2_with fail
 refine C2.out.mono ?_
 rintro e w2 ⟨rfl, D, hD, hRD, hbD⟩
 have hB2 : Below w.heap.size w w2 := HB1.out.trans hbD
 have hg0 := hRD.lt
 have hDl : D.length = N + 1 := by rw [hD.len, List.length_replicate]
 have hDv : val D = 2 ^ s * val b := by
  have := hD.exact HGB.out.1 HT4.out
  rw [List.drop_zero, List.take_of_length_le (by omega)] at this
  exact this
 have hDw := hD.ws
 have hm2 := HM2.out w2
 have hR2 := Row.made w2 (n + 1)
 have hB3 : Below w.heap.size w (w2.alloc (.cells (madeCells #[.int .u32 0] (n + 1)) 129)) := hB2.alloc hB2.size _
 have hB23 : Below w2.heap.size w2 (w2.alloc (.cells (madeCells #[.int .u32 0] (n + 1)) 129)) := (Below.refl _ _).alloc (Nat.le_refl _) _
 have C3 := Lh (T8 w2.heap.size 0 (n + 1) (n + 1) s (List.replicate (n + 1) 0) A n c a w.heap.size _ hR2 (Ws.zeros _) (by rw [List.length_replicate]; omega) HGB.out.2 (by omega) (by omega) (HA.out.below hB3) hB2.size hs32)
 have HRD := Lh (hRD.below hg0 hB23)
 have HD := Lh (show D.length = N + 1 ∧ val D = 2 ^ s * val b ∧ Ws D from ⟨hDl, hDv, hDw⟩)
 have HB3 := Lh hB3
 have HG0 := Lh hg0
 clear hD hRD hbD hB2 hg0 hDl hDv hDw hR2 hB3 hB23 hm1 C1 C2
 go_wp2_with fail
 refine C3.out.mono ?_
 rintro e w4 ⟨rfl, R, hR, hRR, hbR⟩
 have hB4 : Below w.heap.size w w4 := HB3.out.trans (hbR.mono (Nat.le_of_lt HG0.out))
 have hg1 := hRR.lt
 have hRl : R.length = n + 1 := by rw [hR.len, List.length_replicate]
 have hRv : val R = 2 ^ s * val a := by
  have := hR.whole (by rw [HGB.out.2]; omega)
  rw [List.drop_zero, List.take_of_length_le (by omega)] at this
  exact this
 have hRw := hR.ws
 have hRD4 : Row w4 w.heap.size D := HRD.out.below HG0.out hbR
 have hm3 := HM3.out w4
 have hQ5 := Row.made w4 M
 have hB5 : Below w.heap.size w (w4.alloc (.cells (madeCells #[.int .u32 0] M) 129)) := hB4.alloc hB4.size _
 have hB45 : Below w4.heap.size w4 (w4.alloc (.cells (madeCells #[.int .u32 0] M) 129)) := (Below.refl _ _).alloc (Nat.le_refl _) _
 have HQ5 := Lh hQ5
 have HR5 := Lh (hRR.below hg1 hB45)
 have HD5 := Lh (hRD4.below (Nat.lt_trans HG0.out hg1) hB45)
 have HB5 := Lh hB5
 have HG1 := Lh hg1
 have hlong := LongT.start (va := val a) (vb := val b) (s := s) (la := n) (n := N + 1) (M := M) hRw (by rw [hRl]; exact HM.out) HM.out (by omega) (by have := Ea HA.out.1; rw [HGB.out.2] at this; exact this) (by rw [Nat.add_sub_cancel]; exact HGE.out) hRv
 have HLONG := Lh hlong
 have hDp : 0 < val b := Nat.lt_of_lt_of_le (Nat.pow_pos (by omega)) HGE.out
 have HDP := Lh (show 0 < 2 ^ s * val b ∧ 2 ^ s * val b < 4294967296 ^ (N + 1) ∧ 0 < D.getD N 0 by
  have h1 := Ea HD.out.2.2
  rw [HD.out.2.1, HD.out.1] at h1
  refine ⟨Nat.mul_pos (Nat.two_pow_pos s) hDp, h1, Anb HD.out.2.2 HD.out.1 ?_⟩
  rw [HD.out.2.1]
  exact Nat.le_trans HGE.out (Nat.le_mul_of_pos_left _ (Nat.two_pow_pos s)))
 clear hR hRR hbR hB4 hg1 hRl hRv hRw hRD4 hQ5 hB5 hB45 hlong hDp hm2 C3
 go_wp2
 clear hm3
 go_loopw [10] (fun i wr => ∃ (k : Nat) (R Q : List Nat), i = .int .i64 ((k : Int) - 1) ∧ k ≤ M ∧ Hid (Row wr w2.heap.size R) ∧ Hid (Row wr w4.heap.size Q) ∧ Hid (Row wr w.heap.size D) ∧ Hid (LongT (2 ^ s * val a) (2 ^ s * val b) (N + 1) M k R Q) ∧ Below w.heap.size w wr) (fun i _ => (intOf i + 1).toNat)
 case atStart => exact ⟨M, R, _, rfl, Nat.le_refl _, HR5, HQ5, HD5, HLONG, HB5.out⟩
 case round =>
  obtain ⟨k, R2, Q, rfl, hk, HR, HQ, HDD, HT, hbw⟩ := hrel
  have hRl := HT.out.lenR
  have hQl := HT.out.lenQ
  have hMn := HM.out
  by_cases h0 : k = 0
  ·subst h0
   obtain ⟨f1, f2⟩ := HT.out.fin HDP.out.1
   rw [Nat.mul_div_mul_left _ _ (Nat.two_pow_pos s)] at f1
   rw [Nat.mul_mod_mul_left] at f2
   have C1 := Lh (Alu w2.heap.size (n + 1) (n + 1) (n + 1) s R2 wr HR.out HT.out.wsR (by omega) (by omega) hs32)
   have HF1 := Lh f1
   have HF2 := Lh f2
   have HQW := Lh HT.out.wsQ
   have HL := Lh (show Q.length = M ∧ R2.length = n + 1 from ⟨hQl, by omega⟩)
   have HNE := Lh (show w4.heap.size ≠ w2.heap.size from Nat.ne_of_gt HG1.out)
   have HBG := Lh (Nat.le_of_lt (Nat.lt_of_lt_of_le HG0.out (Nat.le_refl _)))
   clear f1 f2 hRl hQl hMn
   go_wp2_with fail
   refine C1.out.mono ?_
   rintro e w5 ⟨rfl, S, hS, hRow, hO⟩
   have hv := hS.whole (by rw [HL.out.2]; exact Nat.le_refl _)
   have hSl := hS.len
   rw [List.drop_zero, List.take_of_length_le (by rw [hSl, HL.out.2]; exact Nat.le_refl _), HF2.out, Nat.mul_div_cancel_left _ (Nat.two_pow_pos s)] at hv
   have HFIN := Lh (show Pb n M (val a) (val b) w (.returned (.tuple #[.slice (some ⟨w4.heap.size, 0, none⟩) M M, .slice (some ⟨w2.heap.size, 0, none⟩) (n + 1) (n + 1)])) w5 from
    ⟨Q, S, w2.heap.size, w4.heap.size, rfl, HQ.out.only HNE.out hO, hRow, HL.out.1, by rw [hSl, HL.out.2], HQW.out, hS.ws, HF1.out, hv, hbw.trans (hO.below.mono HBG.out)⟩)
   clear hS hRow hO hv hSl C1
   go_wp2
   go_ret2
   exact HFIN.out
  ·obtain ⟨j, rfl⟩ : ∃ j, k = j + 1 := ⟨k - 1, by omega⟩
   rw [show (((j + 1 : Nat) : Int) - 1) = (j : Int) by omega]
   obtain ⟨p1, p2⟩ := HT.out.part (by omega) HDP.out.2.1
   have C1 := Lh (Aj1 w2.heap.size j (N + 2) (n + 1 - j) R2 (some ⟨w.heap.size, 0, none⟩) N (N + 1) (N + 1) D (w.heap.size + 1) wr HR.out HT.out.wsR rfl rfl (by omega) HD.out.1 (HDD.out.rw0 HD.out.2.2) HG0.out (by omega) (by rw [HD.out.2.1]; exact HDP.out.1) HDP.out.2.2 (by rw [HD.out.1, HD.out.2.1]; exact p2))
   have HNX := Lh (fun S h1 h2 h3 h4 => HT.out.next (S := S) (by omega) HDP.out.2.1 HDP.out.1 h1 h2 h3 h4)
   unfold Vq at C1
   rw [HD.out.1, HD.out.2.1] at C1
   obtain ⟨q, hq⟩ : ∃ q, val ((R2.drop j).take (N + 1 + 1)) / (2 ^ s * val b) = q := ⟨_, rfl⟩
   rw [hq] at C1 HNX
   have hcell := fun (W : World) (h : Row W w4.heap.size Q) => h.cell j (by omega)
   have hfz := fun (W : World) (h : Row W w4.heap.size Q) => h.frozen j
   have HCELL := Lh hcell
   have HFZ := Lh hfz
   have HNE := Lh (show w4.heap.size ≠ w2.heap.size ∧ w.heap.size ≠ w2.heap.size ∧ w2.heap.size ≠ w4.heap.size ∧ w.heap.size ≠ w4.heap.size from by
    have h1 := HG1.out
    have h2 := HG0.out
    omega)
   have HBG := Lh (show w.heap.size ≤ w2.heap.size ∧ w.heap.size ≤ w4.heap.size from by
    have h1 := HG1.out
    have h2 := HG0.out
    omega)
   have hj1 : (j : Int) < (M : Int) := by omega
   have hjn : (j : Int) + (N : Int) + 2 ≤ (n : Int) + 1 := by omega
   have hjn2 : j + (N + 2) ≤ n + 1 := by omega
   have hk2 : j + 1 ≤ M := hk
   clear hRl hQl hMn hk h0 p1 p2 hq hcell hfz
   go_wp2_with fail
   rw [show j + (N + 1) + 1 - j = N + 2 by omega]
   refine C1.out.mono ?_
   rintro e w5 ⟨S, rfl, hrow, hlen, hws, hfar, hval, hO⟩
   have rQ := HQ.out.only HNE.out.1 hO
   have rD := HDD.out.only HNE.out.2.1 hO
   have hcell := HCELL.out w5 rQ
   have hfz := HFZ.out w5 rQ
   have HTN := Lh (HNX.out S hlen hws hfar hval)
   have HQ2 := Lh (rQ.set j q)
   have HR2 := Lh (show Row (w5.setCell ⟨w4.heap.size, j, none⟩ (.int .u32 (q : Nat))) w2.heap.size S from (Below.heap_setCell w5 _ _ _ HNE.out.2.2.1).trans hrow)
   have HD2 := Lh (show Row (w5.setCell ⟨w4.heap.size, j, none⟩ (.int .u32 (q : Nat))) w.heap.size D from (Below.heap_setCell w5 _ _ _ HNE.out.2.2.2).trans rD)
   have HB2 := Lh ((hbw.trans (hO.below.mono HBG.out.1)).setCell (p := ⟨w4.heap.size, j, none⟩) HBG.out.2 (.int .u32 (q : Nat)))
   clear hrow hlen hws hfar hval hO rQ rD C1 HNX
   go_wp2
   go_roundw
   case rel => exact ⟨j, S, _, by go_num, by omega, HR2, HQ2, HD2, HTN, HB2.out⟩
   case measure => simp [intOf]
theorem Ahu (A C : Option Addr) (n c m d : Nat) (l k : List Nat) (w : World) (hn : l.length = n) (hc : n ≤ c) (hm : n ≤ 35184372088832) (h : RW w w.heap.size A l)
  (gn : k.length = m) (gc : m ≤ d) (gm : m ≤ 35184372088832) (g : RW w w.heap.size C k) (hl : (Am (val l) || Am (val k)) = true) :
  Cp 228 #[.slice A n c, .slice C m d] w (DivT (Kv (val l) (val k)) (Ls (val l) (val k)) (H8 (val l) (val k)) w) := by
 have c1 := Cg A C n c m d l k w hn hc hm h gn gc gm g
 have hp : Below w.heap.size w (Fm w (.slice A n c) (.slice C m d)) := (Below.refl _ _).alloc (Nat.le_refl _) _
 have HF := Lh (DivT.long (w := w) hl hp)
 rw [hl] at c1
 clear h g hn hc hm gn gc gm hl hp
 go_enter Tryz.func228, Tryz.ntmps228
 go_wp2_with fail
 refine c1.mono ?_
 rintro e w1 ⟨rfl, rfl⟩
 go_wp2
 (try simp only [Exit.inBlock, Exit.then])
 refine bodyPost_ret (Be rfl _ _ _) rfl ?_
 exact HF.out
theorem Aie (A C : Option Addr) (n c m d : Nat) (l k : List Nat) (w : World) (hn : l.length = n) (hc : n ≤ c) (hm : n ≤ 35184372088832) (h : RW w w.heap.size A l)
  (gn : k.length = m) (gc : m ≤ d) (gm : m ≤ 35184372088832) (g : RW w w.heap.size C k) (hl : (Am (val l) || Am (val k)) = false) (hk : val k = 0) :
  Cp 228 #[.slice A n c, .slice C m d] w (DivT (Kv (val l) (val k)) (Ls (val l) (val k)) (H8 (val l) (val k)) w) := by
 have c1 := Cg A C n c m d l k w hn hc hm h gn gc gm g
 have hp : Below w.heap.size w (Fm w (.slice A n c) (.slice C m d)) := (Below.refl _ _).alloc (Nat.le_refl _) _
 have HF := Lh (DivT.zero (w := w) hl hk hp)
 rw [hl] at c1
 have c2 := As A n c l w.heap.size _ hn hc hm (h.below hp)
 have c3 := As C m d k w.heap.size _ gn gc gm (g.below hp)
 rw [Bz hk] at c3
 clear h g hn hc hm gn gc gm hl hp hk
 go_enter Tryz.func228, Tryz.ntmps228
 go_wp2_with fail
 refine c1.mono ?_
 rintro e w1 ⟨rfl, rfl⟩
 go_wp2_with fail
 refine c2.mono ?_
 rintro e w1 ⟨rfl, rfl⟩
 go_wp2_with fail
 refine c3.mono ?_
 rintro e w1 ⟨rfl, rfl⟩
 go_wp2
 (try simp only [Exit.inBlock, Exit.then])
 refine bodyPost_ret (Be rfl _ _ _) rfl ?_
 exact HF.out
theorem Aee (A C : Option Addr) (n c m d : Nat) (l k : List Nat) (w : World) (hn : l.length = n) (hc : n ≤ c) (hm : n ≤ 35184372088832) (h : RW w w.heap.size A l)
  (gn : k.length = m) (gc : m ≤ d) (gm : m ≤ 35184372088832) (g : RW w w.heap.size C k) (hl : (Am (val l) || Am (val k)) = false) (hlt : (nrm l).length < (nrm k).length) :
  Cp 228 #[.slice A n c, .slice C m d] w (DivT (Kv (val l) (val k)) (Ls (val l) (val k)) (H8 (val l) (val k)) w) := by
 have c1 := Cg A C n c m d l k w hn hc hm h gn gc gm g
 have hp : Below w.heap.size w (Fm w (.slice A n c) (.slice C m d)) := (Below.refl _ _).alloc (Nat.le_refl _) _
 rw [hl] at c1
 have c2 := As A n c l w.heap.size _ hn hc hm (h.below hp)
 have c3 := As C m d k w.heap.size _ gn gc gm (g.below hp)
 obtain ⟨hl1, hl2⟩ : Am (val l) = false ∧ Am (val k) = false := by simpa using hl
 have n1 := Eg h.1 hl1
 have n2 := Eg g.1 hl2
 have hval := Nc h.1 hlt
 have e1 : val l / val k = 0 := Nat.div_eq_of_lt hval
 have e2 : val l % val k = val l := Nat.mod_eq_of_lt hval
 obtain ⟨N, hN⟩ : ∃ N, (nrm l).length = N := ⟨_, rfl⟩
 obtain ⟨M, hM⟩ : ∃ M, (nrm k).length = M := ⟨_, rfl⟩
 rw [hN] at n1 c2 hlt
 rw [hM] at n2 c3 hlt
 obtain ⟨W, hW⟩ : ∃ W, Fm w (.slice A n c) (.slice C m d) = W := ⟨_, rfl⟩
 rw [hW] at c1 c2 c3 hp
 have HOK := Lh (fun (w' : World) A2 n2 c2 C2 m2 d2 h3 h4 h5 h6 h7 h8 h9 => DivT.ok (w := w) (w' := w') (A := A2) (C := C2) (n := n2) (c := c2) (m := m2) (d := d2) hl (by omega) h3 h4 h5 h6 h7 h8 h9)
 rw [e1, e2] at HOK
 have hND : (wds (val l)).length = N := by rw [← Bg h.1]; exact hN
 have c4 := (Aqf A N N (nrm l) N W hN (Nat.le_refl _) (by omega) ((h.nrm.below hp).more hp.size) (by rw [Fg]; exact hN))
 rw [Fg, Bg h.1] at c4
 have HW := Lh hW
 have HP := Lh hp
 have HND := Lh hND
 have z0 : ((M : Int) == 0) = false := by simp; omega
 have z1 : (N : Int) < (M : Int) := by omega
 clear h g hn hc hm gn gc gm hl hp hl1 hl2 n1 n2 hval e1 e2 hN hM hW hND hlt
 go_enter Tryz.func228, Tryz.ntmps228
 go_wp2_with fail
 rw [show w.alloc (.cells #[.slice A n c, .slice C m d] 121) = W from HW.out]
 refine c1.mono ?_
 rintro e w1 ⟨rfl, rfl⟩
 go_wp2_with fail
 refine c2.mono ?_
 rintro e w1 ⟨rfl, rfl⟩
 go_wp2_with fail
 refine c3.mono ?_
 rintro e w1 ⟨rfl, rfl⟩
 go_wp2_with fail
 refine c4.mono ?_
 rintro e w2 ⟨A2, c2, rfl, ⟨hc2, r2⟩, b2⟩
 have HF := Lh (HOK.out w2 none 0 0 A2 N c2 rfl (Nat.le_refl _) HND.out.symm hc2 (RW.nil _ _ _) r2 (Aa HP.out b2))
 clear r2 hc2 b2
 go_wp2
 (try simp only [Exit.inBlock, Exit.then])
 refine bodyPost_ret (Be rfl _ _ _) rfl ?_
 exact HF.out
theorem Ajr (A C : Option Addr) (n c m d : Nat) (l k : List Nat) (w : World) (hn : l.length = n) (hc : n ≤ c) (hm : n ≤ 35184372088832) (h : RW w w.heap.size A l)
  (gn : k.length = m) (gc : m ≤ d) (gm : m ≤ 35184372088832) (g : RW w w.heap.size C k) (hl : (Am (val l) || Am (val k)) = false) (hle : (nrm k).length ≤ (nrm l).length) (h1k : (nrm k).length = 1) :
  Cp 228 #[.slice A n c, .slice C m d] w (DivT (Kv (val l) (val k)) (Ls (val l) (val k)) (H8 (val l) (val k)) w) := by
 have c1 := Cg A C n c m d l k w hn hc hm h gn gc gm g
 have hp : Below w.heap.size w (Fm w (.slice A n c) (.slice C m d)) := (Below.refl _ _).alloc (Nat.le_refl _) _
 rw [hl] at c1
 have c2 := As A n c l w.heap.size _ hn hc hm (h.below hp)
 have c3 := As C m d k w.heap.size _ gn gc gm (g.below hp)
 obtain ⟨hl1, hl2⟩ : Am (val l) = false ∧ Am (val k) = false := by simpa using hl
 have n1 := Eg h.1 hl1
 obtain ⟨u, hu⟩ : ∃ u, nrm k = [u] := List.length_eq_one_iff.1 h1k
 have hkv : val k = u := by rw [← Ap, hu]; simp [val]
 have hgB := g.nrm
 rw [hu] at hgB c3
 have hul : u < 4294967296 := hgB.1 u (by simp)
 have hu0 : 0 < u := by
  rcases Nat.eq_zero_or_pos u with h0 | h0
  ·have := Bz (l := k) (by rw [hkv, h0])
   rw [this] at hu; cases hu
  ·exact h0
 obtain ⟨b, off, hCe, hbB, hcell⟩ := hgB.2 (by simp)
 have d0 := hcell 0 u rfl
 rw [Nat.add_zero] at d0
 subst hCe
 obtain ⟨N, hN⟩ : ∃ N, (nrm l).length = N := ⟨_, rfl⟩
 rw [h1k, hN] at hle
 rw [hN] at n1 c2
 obtain ⟨W, hW⟩ : ∃ W, Fm w (.slice A n c) (.slice (some ⟨b, off, none⟩) m d) = W := ⟨_, rfl⟩
 rw [hW] at c1 c2 c3 hp
 have HOK := Lh (fun (w' : World) A2 n2 c2 C2 m2 d2 h3 h4 h5 h6 h7 h8 h9 => DivT.ok (w := w) (w' := w') (A := A2) (C := C2) (n := n2) (c := c2) (m := m2) (d := d2) hl (by omega) h3 h4 h5 h6 h7 h8 h9)
 have c4 := Ah2 A N N (nrm l) W hN (Nat.le_refl _) (by omega) ((h.nrm.below hp).more hp.size)
 rw [Fg, hN] at c4
 have C5 := Lh (fun W2 (r : Row W2 W.heap.size (nrm l)) => Ov W.heap.size N N u (nrm l) W2 r h.1.nrm hN (by omega) hul hu0)
 rw [Ap] at C5
 rw [hkv] at HOK ⊢
 have hrl : val l % u < u := Nat.mod_lt _ hu0
 obtain ⟨q, hq⟩ : ∃ q, val l / u = q := ⟨_, rfl⟩
 obtain ⟨z, hz⟩ : ∃ z, val l % u = z := ⟨_, rfl⟩
 rw [hq, hz] at HOK C5
 rw [hz] at hrl
 have C7 := Lh (fun W => (O1 z (by omega) W).mono fun _ _ y => y.told (n := (wds z).length) (by rw [F3 z (by omega)]))
 rw [F3 z (by omega)] at C7
 have HW := Lh hW
 have HP := Lh hp
 rw [← hp.cell (p := ⟨b, off, none⟩) hbB] at d0
 have z0 : ((1 : Int) == 0) = false := rfl
 have z1 : ¬ (N : Int) < 1 := by omega
 have z2 : IntKind.u64.wrap (z : Int) = (z : Int) := IntWalk.u64_in _ (by omega)
 have HN1 := Lh n1
 clear h g hn hc hm gn gc gm hl hp hl1 hl2 n1 hkv hu hul hu0 hN hW hle h1k hgB hcell hrl hq hz
 go_enter Tryz.func228, Tryz.ntmps228
 go_wp2_with fail
 rw [show w.alloc (.cells #[.slice A n c, .slice (some ⟨b, off, none⟩) m d] 121) = W from HW.out]
 refine c1.mono ?_
 rintro e w1 ⟨rfl, rfl⟩
 go_wp2_with fail
 refine c2.mono ?_
 rintro e w1 ⟨rfl, rfl⟩
 go_wp2_with fail
 refine c3.mono ?_
 rintro e w1 ⟨rfl, rfl⟩
 go_wp2_with fail
 refine c4.mono ?_
 rintro e w2 ⟨rfl, r2, b2⟩
 have d2 := d0
 rw [← b2.cell (p := ⟨b, off, none⟩) (Nat.lt_of_lt_of_le hbB HP.out.size)] at d2
 have C6 := C5.out _ r2
 clear c1 c2 c3 c4 C5 r2
 go_wp2_with fail
 refine C6.mono ?_
 rintro e w3 ⟨rfl, S, r3, s1, s2, s3, b3⟩
 have B3 := Aa HP.out (b2.trans b3)
 have hlt3 := r3.lt
 have c8 := As (some ⟨W.heap.size, 0, none⟩) N N S w3.heap.size w3 s1 (Nat.le_refl _) (by have := HN1.out; omega) ((r3.rw0 s2).more hlt3)
 have HR3 := Lh ((r3.rw0 s2).more hlt3).nrm
 rw [Bg s2, s3] at c8 HR3
 have HLQ := Lh (show (wds q).length ≤ N by rw [← s3, ← Bg s2, ← s1]; exact Az S)
 clear r3 s1 s2 s3 b3 b2 C6 d0 hlt3
 go_wp2_with fail
 refine c8.mono ?_
 rintro e w' ⟨rfl, rfl⟩
 go_wp2_with fail
 refine (C7.out _).mono ?_
 rintro e w4 ⟨A4, c4, rfl, ⟨hc4, r4⟩, b4⟩
 have HF := Lh (HOK.out w4 _ _ (wds q).length A4 _ c4 rfl (Nat.le_refl _) rfl hc4 (HR3.out.step b4) r4 (Aa B3 b4))
 clear r4 hc4 b4
 go_wp2
 (try simp only [Exit.inBlock, Exit.then])
 refine bodyPost_ret (Be rfl _ _ _) rfl ?_
 exact HF.out
theorem Aif (A C : Option Addr) (n c m d : Nat) (l k : List Nat) (w : World) (hn : l.length = n) (hc : n ≤ c) (hm : n ≤ 35184372088832) (h : RW w w.heap.size A l)
  (gn : k.length = m) (gc : m ≤ d) (gm : m ≤ 35184372088832) (g : RW w w.heap.size C k) (hl : (Am (val l) || Am (val k)) = false) (hle : (nrm k).length ≤ (nrm l).length) (h1k : 1 < (nrm k).length) :
  Cp 228 #[.slice A n c, .slice C m d] w (DivT (Kv (val l) (val k)) (Ls (val l) (val k)) (H8 (val l) (val k)) w) := by
 have c1 := Cg A C n c m d l k w hn hc hm h gn gc gm g
 have hp : Below w.heap.size w (Fm w (.slice A n c) (.slice C m d)) := (Below.refl _ _).alloc (Nat.le_refl _) _
 rw [hl] at c1
 have c2 := As A n c l w.heap.size _ hn hc hm (h.below hp)
 have c3 := As C m d k w.heap.size _ gn gc gm (g.below hp)
 obtain ⟨hl1, hl2⟩ : Am (val l) = false ∧ Am (val k) = false := by simpa using hl
 have n1 := Eg h.1 hl1
 have n2 := Eg g.1 hl2
 have hk0 : 0 < val k := by
  rcases Nat.eq_zero_or_pos (val k) with h0 | h0
  ·rw [Bz h0] at h1k; simp at h1k
  ·exact h0
 obtain ⟨N, hN⟩ : ∃ N, (nrm l).length = N := ⟨_, rfl⟩
 obtain ⟨M, hM⟩ : ∃ M, (nrm k).length = M := ⟨_, rfl⟩
 rw [hN] at n1 c2 hle
 rw [hM] at n2 c3 hle h1k
 obtain ⟨W, hW⟩ : ∃ W, Fm w (.slice A n c) (.slice C m d) = W := ⟨_, rfl⟩
 rw [hW] at c1 c2 c3 hp
 have HOK := Lh (fun (w' : World) A2 n2 c2 C2 m2 d2 h3 h4 h5 h6 h7 h8 h9 => DivT.ok (w := w) (w' := w') (A := A2) (C := C2) (n := n2) (c := c2) (m := m2) (d := d2) hl hk0 h3 h4 h5 h6 h7 h8 h9)
 obtain ⟨K, hK⟩ : ∃ K, N + 1 = K + M := ⟨N + 1 - M, by omega⟩
 have c4 := Px A C N N M K (M - 1) M (nrm l) (nrm k) W hN n1 ((h.nrm.below hp).more hp.size) hM (by omega) ((g.nrm.below hp).more hp.size) (Fg k) hK (by omega)
 rw [Ap, Ap] at c4
 have HW := Lh hW
 have HP := Lh hp
 have z0 : ((M : Int) == 0) = false := by simp; omega
 have z1 : ¬ (N : Int) < (M : Int) := by omega
 have z2 : ((M : Int) == 1) = false := by simp; omega
 have HK := Lh (show K ≤ 1024 ∧ N + 1 ≤ 1025 by omega)
 obtain ⟨q, hq⟩ : ∃ q, val l / val k = q := ⟨_, rfl⟩
 obtain ⟨z, hz⟩ : ∃ z, val l % val k = z := ⟨_, rfl⟩
 rw [hq, hz] at HOK
 unfold Pb at c4
 rw [hq, hz] at c4
 clear h g hn hc hm gn gc gm hl hp hl1 hl2 n1 n2 hN hM hW hle h1k hk0 hq hz hK
 go_enter Tryz.func228, Tryz.ntmps228
 go_wp2_with fail
 rw [show w.alloc (.cells #[.slice A n c, .slice C m d] 121) = W from HW.out]
 refine c1.mono ?_
 rintro e w1 ⟨rfl, rfl⟩
 go_wp2_with fail
 refine c2.mono ?_
 rintro e w1 ⟨rfl, rfl⟩
 go_wp2_with fail
 refine c3.mono ?_
 rintro e w1 ⟨rfl, rfl⟩
 go_wp2_with fail
 refine c4.mono ?_
 rintro e w2 ⟨S, T, g1, g2, rfl, r2, t2, s1, s2, s3, s4, s5, s6, b2⟩
 have B2 := Aa HP.out b2
 have hlt2 := r2.lt
 have hlt3 := t2.lt
 have c5 := As (some ⟨g2, 0, none⟩) K K S w2.heap.size w2 s1 (Nat.le_refl _) (by have := HK.out; omega) ((r2.rw0 s3).more hlt2)
 have c6 := As (some ⟨g1, 0, none⟩) (N + 1) (N + 1) T w2.heap.size w2 s2 (Nat.le_refl _) (by have := HK.out; omega) ((t2.rw0 s4).more hlt3)
 have HR2 := Lh ((r2.rw0 s3).more hlt2).nrm
 have HR3 := Lh ((t2.rw0 s4).more hlt3).nrm
 rw [Bg s3, s5] at c5 HR2
 rw [Bg s4, s6] at c6 HR3
 have HF := Lh (HOK.out w2 _ _ (wds q).length _ _ (wds z).length rfl (Nat.le_refl _) rfl (Nat.le_refl _) HR2.out HR3.out B2)
 clear r2 t2 s1 s2 s3 s4 s5 s6 b2 hlt2 hlt3 c1 c2 c3 c4
 go_wp2_with fail
 refine c5.mono ?_
 rintro e w' ⟨rfl, rfl⟩
 go_wp2_with fail
 refine c6.mono ?_
 rintro e w' ⟨rfl, rfl⟩
 go_wp2
 (try simp only [Exit.inBlock, Exit.then])
 refine bodyPost_ret (Be rfl _ _ _) rfl ?_
 exact HF.out
theorem Amu (A C : Option Addr) (n c m d : Nat) (l k : List Nat) (w : World) (hn : l.length = n) (hc : n ≤ c) (hm : n ≤ 35184372088832) (h : RW w w.heap.size A l)
  (gn : k.length = m) (gc : m ≤ d) (gm : m ≤ 35184372088832) (g : RW w w.heap.size C k) :
  Cp 228 #[.slice A n c, .slice C m d] w (DivT (Kv (val l) (val k)) (Ls (val l) (val k)) (H8 (val l) (val k)) w) := by
 cases hl : (Am (val l) || Am (val k))
 ·rcases Nat.eq_zero_or_pos (val k) with h0 | h0
  ·exact Aie A C n c m d l k w hn hc hm h gn gc gm g hl h0
  ·have hp : 0 < (nrm k).length := List.length_pos_iff.2 (fun e => by rw [← Ap, e] at h0; simp [val] at h0)
   rcases Nat.lt_or_ge (nrm l).length (nrm k).length with h1 | h1
   ·exact Aee A C n c m d l k w hn hc hm h gn gc gm g hl h1
   ·by_cases h2 : (nrm k).length = 1
    ·exact Ajr A C n c m d l k w hn hc hm h gn gc gm g hl h1 h2
    ·exact Aif A C n c m d l k w hn hc hm h gn gc gm g hl h1 (by omega)
 ·exact Ahu A C n c m d l k w hn hc hm h gn gc gm g hl
theorem NatPost.err {v : Nat} {w w' : World} {e : Ending} (h : NatPost v w e w') (hl : Am v = true) : e = .returned (.tuple #[.slice none 0 0, .int .i64 3]) ∧ Below w.heap.size w w' := by
 obtain ⟨A, n, c, k, h1, h2, h3⟩ := h
 rw [if_pos hl] at h2
 obtain ⟨rfl, rfl, rfl, rfl⟩ := h2
 exact ⟨h1, h3⟩
theorem Ai4 (n i : Nat) (hn : n < 9223372036854775808) : bits BinOp.and IntKind.i64 ((n : Int) / 2 ^ i) 1 = ((n / 2 ^ i % 2 : Nat) : Int) := by
 have h1 : n / 2 ^ i ≤ n := Nat.div_le_self _ _
 have e : ((n : Int) / 2 ^ i) = ((n / 2 ^ i : Nat) : Int) := by rw [Int.natCast_ediv, Int.natCast_pow]; rfl
 rw [e]
 obtain ⟨m, hm⟩ : ∃ m, n / 2 ^ i = m := ⟨_, rfl⟩
 rw [hm] at h1 ⊢
 show IntKind.i64.wrap ((BitVec.ofInt 64 (m : Int) &&& BitVec.ofInt 64 1).toNat : Int) = _
 have e1 : (BitVec.ofInt 64 1).toNat = 1 := by decide
 have e2 : (BitVec.ofInt 64 (m : Int)).toNat = m := by
  rw [BitVec.ofInt_natCast, BitVec.toNat_ofNat]; exact Nat.mod_eq_of_lt (by omega)
 rw [BitVec.toNat_and, e1, e2, Nat.and_one_is_mod, IntKind.wrap_i64]
 omega
theorem Amc (b n : Nat) (w : World) (hb : b < 4294967296) (hn : n < 9223372036854775808) :
  Cp 226 #[.int .u32 b, .int .i64 n] w (NatPost (b ^ n) w) := by
 obtain ⟨F, hF⟩ : ∃ F, (wds b).length = F := ⟨_, rfl⟩
 obtain ⟨O, hO⟩ : ∃ O, (wds 1).length = O := ⟨_, rfl⟩
 have K1 := Lh (fun W => show Cp 187 #[.int .u64 b] W (Jo (wds b) F W) from by
  have := (O1 b (by omega) W).mono fun _ _ y => y.told (n := F) (by rw [F3 b (by omega)]; exact hF)
  rw [F3 b (by omega)] at this; exact this)
 have K2 := Lh (fun W => show Cp 187 #[.int .u64 1] W (Jo (wds 1) O W) from by
  have := (O1 1 (by omega) W).mono fun _ _ y => y.told (n := O) (by rw [F3 1 (by omega)]; exact hO)
  rw [F3 1 (by omega)] at this; exact this)
 have hbl := Lib.bitLen_le n 64 (by omega) (by omega)
 have c3 := fun W => (Tryz.bits_Len (n : Int) W (by omega) (by omega)).mono fun _ _ (h : _ ∧ _ = W) => And.intro h.1 h.2.symm
 rw [Int.toNat_natCast] at c3
 obtain ⟨q0, hq0⟩ : ∃ q0, Lib.bitLen n = q0 := ⟨_, rfl⟩
 rw [hq0] at c3 hbl
 have hz : n / 2 ^ q0 = 0 := by
  rw [← hq0]
  rcases Nat.eq_zero_or_pos n with h0 | h0
  ·rw [h0]; exact Nat.zero_div _
  ·exact Nat.div_eq_of_lt (Lib.bitLenAux_bounds 64 n (by omega) (by omega)).2.2
 have HZ := Lh (show b ^ (n / 2 ^ q0) = 1 by rw [hz]; rfl)
 have HF := Lh hF
 have HO := Lh hO
 have hF1 : F ≤ 2 := by rw [← hF, ← F3 b (by omega)]; exact Az _
 have k1 : IntKind.u64.wrap (b : Int) = (b : Int) := IntWalk.u64_in _ (by omega)
 have k2 : IntKind.u64.wrap (n : Int) = (n : Int) := IntWalk.u64_in _ (by omega)
 have HB := Lh hb
 have HN := Lh hn
 have n0 : (0 : Int) ≤ (n : Int) := by omega
 clear hb hn hF hO hq0 hz
 go_enter Tryz.func226, Tryz.ntmps226
 go_wp2_with fail
 refine (K1.out _).mono ?_
 rintro e w1 ⟨A1, c1, rfl, ⟨hc1, r1⟩, b1⟩
 go_wp2_with fail
 refine (K2.out _).mono ?_
 rintro e w2 ⟨A2, c2, rfl, ⟨hc2, r2⟩, b2⟩
 go_wp2_with fail
 refine Sm (c3 _) ?_
 have HR1 := Lh (r1.step b2)
 have HR2 := Lh r2
 have HB2 := Lh (Aa b1 b2)
 clear r1 r2 b1 b2 c3
 go_wp2
 go_loopw [7, 8] (fun v i wr => ∃ (q : Nat) (A : Option Addr) (N c : Nat), v = .slice A N c ∧ i = .int .i64 ((q : Int) - 1) ∧ q ≤ 64 ∧ Hid ((wds (b ^ (n / 2 ^ q))).length = N) ∧ N ≤ c ∧ Hid (RW wr wr.heap.size A (wds (b ^ (n / 2 ^ q)))) ∧ Hid (Am (b ^ (n / 2 ^ q)) = false) ∧ Below w2.heap.size w2 wr) (fun _ i _ => (intOf i + 1).toNat)
 case atStart => exact ⟨q0, A2, O, c2, rfl, rfl, hbl, Lh (by rw [HZ.out]; exact HO.out), hc2, Lh (by rw [HZ.out]; exact HR2.out), Lh (by rw [HZ.out]; exact Eo (by omega)), Below.refl _ _⟩
 case round =>
  obtain ⟨q, A, N, c, rfl, rfl, hq, HNq, hNc, HR, HL, hbw⟩ := hrel
  by_cases h0 : q = 0
  ·subst h0
   have HE := Lh (show b ^ (n / 2 ^ 0) = b ^ n by rw [Nat.pow_zero, Nat.div_one])
   have HX := Lh (NatPost.ok (w := w) HL.out HNq.out.symm hNc HR.out (Aa HB2.out hbw))
   go_wp2
   go_ret2
   rw [← HE.out]
   exact HX.out
  ·obtain ⟨i, rfl⟩ : ∃ i, q = i + 1 := ⟨q - 1, by omega⟩
   have hNl := Ajw HL.out
   rw [HNq.out] at hNl
   have C1 := Lh (Ab1 A A N c N c (wds (b ^ (n / 2 ^ (i + 1)))) (wds (b ^ (n / 2 ^ (i + 1)))) wr HNq.out hNc (by omega) HR.out HNq.out hNc (by omega) HR.out (by rw [Ad, HL.out]; rfl))
   rw [Ad] at C1
   clear h0
   cases hsq : Am (b ^ (n / 2 ^ (i + 1)) * b ^ (n / 2 ^ (i + 1)))
   ·obtain ⟨N3, hN3⟩ : ∃ N3, (wds (b ^ (n / 2 ^ (i + 1)) * b ^ (n / 2 ^ (i + 1)))).length = N3 := ⟨_, rfl⟩
    have C2 := Lh (C1.out.mono fun _ _ x => x.one hsq hN3)
    have hi1 : (i : Int) ≤ 63 := by omega
    have hbt := Ai4 n i HN.out
    have hhalf := Ahi b n i
    have hbit : n / 2 ^ i % 2 = 0 ∨ n / 2 ^ i % 2 = 1 := by omega
    rcases hbit with hbit | hbit
    ·rw [hbit, Nat.pow_zero, Nat.mul_one] at hhalf
     rw [hhalf] at C2 hsq hN3
     have hT : (bits BinOp.and IntKind.i64 ((n : Int) / 2 ^ i) 1 == 1) = false := by rw [hbt, hbit]; rfl
     have HN3 := Lh hN3
     have HSQ := Lh hsq
     clear hbit hbt hhalf hN3 hsq C1 hNl
     go_wp2_with fail
     refine C2.out.mono ?_
     rintro e w3 ⟨A3, c3, rfl, ⟨hc3, r3⟩, b3⟩
     have HR3 := Lh r3
     have HB3 := Lh (Aa hbw b3)
     clear r3 b3 C2
     go_wp2
     go_roundw
     case rel => exact ⟨i, A3, N3, c3, rfl, by go_num, by omega, HN3, hc3, HR3, HSQ, HB3.out⟩
     case measure => simp [intOf]
    ·rw [hbit, Nat.pow_one] at hhalf
     have hT : (bits BinOp.and IntKind.i64 ((n : Int) / 2 ^ i) 1 == 1) = true := by rw [hbt, hbit]; rfl
     have hN3l := Ajw hsq
     rw [hN3] at hN3l
     have C4 := Lh (fun W A5 c5 (h5 : N3 ≤ c5) (r5 : RW W W.heap.size A5 (wds (b ^ (n / 2 ^ (i + 1)) * b ^ (n / 2 ^ (i + 1))))) (r6 : RW W W.heap.size A1 (wds b)) =>
      show Cp 227 #[.slice A5 N3 c5, .slice A1 F c1] W (NatPost (b ^ (n / 2 ^ i)) W) from by
       have := Ab1 A5 A1 N3 c5 F c1 _ _ W hN3 h5 (by omega) r5 HF.out hc1 (by omega) r6 (by rw [Ad, Ad, hsq, Eo HB.out]; rfl)
       rw [Ad, Ad, hhalf] at this
       exact this)
     clear hbit hbt hhalf hN3 hsq C1 hNl hN3l
     cases hmu : Am (b ^ (n / 2 ^ i))
     ·obtain ⟨N4, hN4⟩ : ∃ N4, (wds (b ^ (n / 2 ^ i))).length = N4 := ⟨_, rfl⟩
      have HN4 := Lh hN4
      have HMU := Lh hmu
      clear hN4 hmu
      go_wp2_with fail
      refine C2.out.mono ?_
      rintro e w3 ⟨A3, c3, rfl, ⟨hc3, r3⟩, b3⟩
      have D4 := Lh ((C4.out w3 A3 c3 hc3 r3 ((HR1.out.step hbw).step b3)).mono fun _ _ x => x.one HMU.out HN4.out)
      have hbw3 := Aa hbw b3
      clear r3 b3 C2 C4
      go_wp2_with fail
      refine D4.out.mono ?_
      rintro e w4 ⟨A4, c4, rfl, ⟨hc4, r4⟩, b4⟩
      have HR4 := Lh r4
      have HB4 := Lh (Aa hbw3 b4)
      clear r4 b4 D4
      go_wp2
      go_roundw
      case rel => exact ⟨i, A4, N4, c4, rfl, by go_num, by omega, HN4, hc4, HR4, HMU, HB4.out⟩
      case measure => simp [intOf]
     ·have HMU := Lh hmu
      have HLN := Lh (Ah5 b _ n (Nat.div_le_self n (2 ^ i)) hmu)
      clear hmu
      go_wp2_with fail
      refine C2.out.mono ?_
      rintro e w3 ⟨A3, c3, rfl, ⟨hc3, r3⟩, b3⟩
      have D4 := Lh ((C4.out w3 A3 c3 hc3 r3 ((HR1.out.step hbw).step b3)).mono fun _ _ x => x.err HMU.out)
      have hbw3 := Aa hbw b3
      clear r3 b3 C2 C4
      go_wp2_with fail
      refine D4.out.mono ?_
      rintro e w4 ⟨rfl, b4⟩
      have HB4 := Lh (Aa HB2.out (Aa hbw3 b4))
      clear b4 D4
      go_wp2
      go_ret2
      exact NatPost.long HLN.out HB4.out
   ·have HSQ := Lh hsq
    have HLN := Lh (show Am (b ^ n) = true by rw [Ap7] at hsq; exact Ah5 b _ n (Aqd n i) hsq)
    have C2 := Lh (C1.out.mono fun _ _ x => x.err hsq)
    clear hsq hNl C1
    go_wp2_with fail
    refine C2.out.mono ?_
    rintro e w3 ⟨rfl, b3⟩
    have HB3 := Lh (Aa HB2.out (Aa hbw b3))
    clear b3 C2
    go_wp2
    go_ret2
    exact NatPost.long HLN.out HB3.out
end
section
def Bf (N : Nat) (e : Int) : Nat := rnd (N * 10 ^ e.toNat * 2 ^ 1074) (10 ^ (-e).toNat)
theorem Fx : ∃ K : Nat, K = 1074 ∧ ∀ N e, Bf N e = rnd (N * 10 ^ e.toNat * 2 ^ K) (10 ^ (-e).toNat) := ⟨1074, rfl, fun _ _ => rfl⟩
theorem Aq (k : Nat) : 0 < 10 ^ k := Nat.pow_pos (by omega)
theorem Zj {u v : Nat} (h : 2 * u < v) : rnd u v = 0 := by
 have h1 : u / v = 0 := Nat.div_eq_of_lt (by omega)
 have h2 : Bi u v = 0 := by unfold Bi; rw [h1]; rfl
 unfold rnd
 rw [h2, Nat.pow_zero, Nat.one_mul]
 unfold Db
 rw [h1, Nat.mod_eq_of_lt (by omega), decide_eq_false (by omega), decide_eq_false (by omega)]
 rfl
theorem Ri (e : Int) : Bf 0 e = 0 := by
 obtain ⟨K, hK, h⟩ := Fx
 rw [h, Nat.zero_mul, Nat.zero_mul]
 exact Zj (Aq _)
theorem Ej (N j : Nat) (e : Int) : Bf (N * 10 ^ j) e = Bf N (e + j) := by
 obtain ⟨K, hK, h⟩ := Fx
 rw [h, h]
 refine K7 (Aq _) (Aq _) ?_
 have e1 : 10 ^ j * 10 ^ e.toNat * 10 ^ (-(e + j)).toNat = 10 ^ (e + j).toNat * 10 ^ (-e).toNat := by
  rw [← Nat.pow_add, ← Nat.pow_add, ← Nat.pow_add]
  congr 1
  omega
 generalize 10 ^ j = x at *
 generalize 10 ^ e.toNat = y at *
 generalize 10 ^ (-(e + j)).toNat = z at *
 generalize 10 ^ (e + j).toNat = p at *
 generalize 10 ^ (-e).toNat = q at *
 generalize 2 ^ K = U at *
 have h1 : N * x * y * U * z = N * (x * y * z) * U := by grind
 have h2 : N * p * U * q = N * (p * q) * U := by grind
 rw [h1, h2, e1]
set_option exponentiation.threshold 2000 in
theorem Amg : ∀ K T : Nat, K = 1075 → T = 324 → 2 ^ K < 10 ^ T := by
 intro K T hK hT
 subst hK
 subst hT
 decide +kernel
set_option exponentiation.threshold 2000 in
theorem Am4 : ∀ K T : Nat, K = 1024 → T = 309 → 2 ^ K ≤ 10 ^ T := by
 intro K T hK hT
 subst hK
 subst hT
 decide +kernel
theorem R8 {N L : Nat} {e : Int} (hN : N < 10 ^ L) (h : (L : Int) + e ≤ -324) : Bf N e = 0 := by
 obtain ⟨K, hK, hd⟩ := Fx
 rw [hd, show e.toNat = 0 by omega, Nat.pow_zero, Nat.mul_one]
 refine Zj ?_
 obtain ⟨T, hT⟩ : ∃ T : Nat, T = 324 := ⟨_, rfl⟩
 have h1 := Amg (K + 1) T (by omega) hT
 have h2 : 10 ^ L * 10 ^ T ≤ 10 ^ (-e).toNat := by
  rw [← Nat.pow_add]
  exact Nat.pow_le_pow_right (by omega) (by omega)
 rw [Nat.pow_succ] at h1
 refine Nat.lt_of_lt_of_le ?_ h2
 have hL := Aq L
 generalize 10 ^ L = x at *
 generalize 10 ^ T = y at *
 generalize 2 ^ K = U at *
 have a1 : N * (U * 2) ≤ x * (U * 2) := Nat.mul_le_mul_right _ (Nat.le_of_lt hN)
 have a2 : x * (U * 2) < x * y := Nat.mul_lt_mul_of_pos_left h1 hL
 have a3 : 2 * (N * U) = N * (U * 2) := by grind
 omega
theorem Ru {N M : Nat} {e : Int} (hN : 10 ^ M ≤ N) (h : 309 ≤ (M : Int) + e) : Bf N e = 9218868437227405312 := by
 obtain ⟨K, hK, hd⟩ := Fx
 rw [hd]
 refine Nj (Aq _) ?_
 obtain ⟨D, hD⟩ : ∃ D : Nat, D = 2046 := ⟨_, rfl⟩
 have e1 := Ay 4503599627370496 D (by omega) (by omega)
 rw [show D * 4503599627370496 + 4503599627370496 = 9218868437227405312 by omega] at e1
 rw [e1]
 obtain ⟨T, hT⟩ : ∃ T : Nat, T = 309 := ⟨_, rfl⟩
 have h1 := Am4 (D + 52 - K) T (by omega) hT
 have h2 : 4503599627370496 * 2 ^ D = 2 ^ (D + 52 - K) * 2 ^ K := by
  rw [show (4503599627370496 : Nat) = 2 ^ 52 from rfl, ← Nat.pow_add, ← Nat.pow_add]
  exact congrArg (fun k => 2 ^ k) (show 52 + D = D + 52 - K + K by omega)
 have h3 : 10 ^ T * 10 ^ (-e).toNat ≤ 10 ^ M * 10 ^ e.toNat := by
  rw [← Nat.pow_add, ← Nat.pow_add]
  exact Nat.pow_le_pow_right (by omega) (by omega)
 rw [h2]
 generalize 2 ^ (D + 52 - K) = A at *
 generalize 2 ^ K = U at *
 generalize 10 ^ T = Tn at *
 generalize 10 ^ (-e).toNat = z at *
 generalize 10 ^ M = m at *
 generalize 10 ^ e.toNat = y at *
 have a1 : A * U * z = A * z * U := by grind
 rw [a1]
 refine Nat.mul_le_mul_right _ ?_
 have a2 : A * z ≤ Tn * z := Nat.mul_le_mul_right _ h1
 have a3 : m * y ≤ N * y := Nat.mul_le_mul_right _ hN
 omega
theorem Afc {N N' p r T : Nat} {e : Int} (hT : T = 768) (hp : 10 ^ T ≤ p) (a1 : p * 10 ^ r < N) (a2 : N < (p + 1) * 10 ^ r) (b1 : p * 10 ^ r < N') (b2 : N' < (p + 1) * 10 ^ r) (htop : (p + 1) * 10 ^ (e + r).toNat ≤ 10 ^ T * 10 ^ (-(e + r)).toNat) : Bf N e = Bf N' e := by
 have main : ∀ N N' : Nat, N ≤ N' → p * 10 ^ r < N → N' < (p + 1) * 10 ^ r → Bf N e = Bf N' e := by
  intro N N' hle c1 c2
  obtain ⟨K, hK, hd⟩ := Fx
  rw [hd, hd]
  refine Aij (Aq _) (Aq _) (Nat.mul_le_mul_right _ (Nat.mul_le_mul_right _ (Nat.mul_le_mul_right _ hle))) ?_
  intro c D hc h1 h2
  have e1 : 10 ^ r * 10 ^ e.toNat * 10 ^ (-(e + r)).toNat = 10 ^ (e + r).toNat * 10 ^ (-e).toNat := by
   rw [← Nat.pow_add, ← Nat.pow_add, ← Nat.pow_add]
   congr 1
   omega
  have hy := Aq e.toNat
  have hz := Aq (-(e + r)).toNat
  have hq := Aq (-e).toNat
  have hU := Nat.two_pow_pos K
  refine Ako (p := p) (s := (e + r).toNat) (t := (-(e + r)).toNat) (c := c) (D := D) (K := K + 1) (by omega) hT hp hc ?_ ?_ htop
  ·rw [Nat.pow_succ]
   generalize 10 ^ r = x at *
   generalize 10 ^ e.toNat = y at *
   generalize 10 ^ (-(e + r)).toNat = z at *
   generalize 10 ^ (e + r).toNat = s at *
   generalize 10 ^ (-e).toNat = q at *
   generalize 2 ^ K = U at *
   generalize c * 2 ^ D = C at *
   refine Nat.lt_of_mul_lt_mul_right (a := q) ?_
   have g1 : p * x * (y * (U * 2) * z) < N * (y * (U * 2) * z) := Nat.mul_lt_mul_of_pos_right c1 (Nat.mul_pos (Nat.mul_pos hy (by omega)) hz)
   have g2 : 2 * (N * y * U) * z ≤ C * q * z := Nat.mul_le_mul_right _ h1
   have g3 : p * s * (U * 2) * q = p * x * (y * (U * 2) * z) := by
    have : p * s * (U * 2) * q = p * (s * q) * (U * 2) := by grind
    rw [this, ← e1]; grind
   have g4 : N * (y * (U * 2) * z) = 2 * (N * y * U) * z := by grind
   have g5 : C * z * q = C * q * z := by grind
   omega
  ·rw [Nat.pow_succ]
   generalize 10 ^ r = x at *
   generalize 10 ^ e.toNat = y at *
   generalize 10 ^ (-(e + r)).toNat = z at *
   generalize 10 ^ (e + r).toNat = s at *
   generalize 10 ^ (-e).toNat = q at *
   generalize 2 ^ K = U at *
   generalize c * 2 ^ D = C at *
   refine Nat.lt_of_mul_lt_mul_right (a := q) ?_
   have g1 : N' * (y * (U * 2) * z) < (p + 1) * x * (y * (U * 2) * z) := Nat.mul_lt_mul_of_pos_right c2 (Nat.mul_pos (Nat.mul_pos hy (by omega)) hz)
   have g2 : C * q * z ≤ 2 * (N' * y * U) * z := Nat.mul_le_mul_right _ h2
   have g3 : (p + 1) * s * (U * 2) * q = (p + 1) * x * (y * (U * 2) * z) := by
    have : (p + 1) * s * (U * 2) * q = (p + 1) * (s * q) * (U * 2) := by grind
    rw [this, ← e1]; grind
   have g4 : N' * (y * (U * 2) * z) = 2 * (N' * y * U) * z := by grind
   have g5 : C * z * q = C * q * z := by grind
   omega
 rcases Nat.le_total N N' with h | h
 ·exact main N N' h a1 b2
 ·exact (main N' N h b1 a2).symm
theorem Akw {p r q k : Nat} {e : Int} (hk : 769 ≤ k) (hp : 10 ^ (k - 1) ≤ p) (hp2 : p < 10 ^ k) (hq : q < 10 ^ r) (h0 : 0 < q) (hpt : (k : Int) + (e + r) ≤ 768) : Bf (p * 10 ^ r + q) e = Bf (p * 10 + 1) (e + r - 1) := by
 obtain ⟨T, hT⟩ : ∃ T : Nat, T = 768 := ⟨_, rfl⟩
 have hr : 0 < r := by
  rcases Nat.eq_zero_or_pos r with h | h
  ·rw [h, Nat.pow_zero] at hq; omega
  ·exact h
 obtain ⟨j, rfl⟩ : ∃ j, r = j + 1 := ⟨r - 1, by omega⟩
 have e1 : Bf ((p * 10 + 1) * 10 ^ j) e = Bf (p * 10 + 1) (e + (j + 1 : Nat) - 1) := by
  rw [Ej]
  exact congrArg (Bf _) (by omega)
 rw [← e1]
 have hj := Aq j
 have hpT : 10 ^ T ≤ p := Nat.le_trans (Nat.pow_le_pow_right (by omega) (by omega)) hp
 refine Afc hT hpT ?_ ?_ ?_ ?_ (r := j + 1) ?_
 ·omega
 ·rw [Nat.add_mul, Nat.one_mul]; omega
 ·rw [Nat.pow_succ]; grind
 ·rw [Nat.pow_succ]; grind
 ·have h1 : (p + 1) * 10 ^ (e + (j + 1 : Nat)).toNat ≤ 10 ^ k * 10 ^ (e + (j + 1 : Nat)).toNat := Nat.mul_le_mul_right _ hp2
  have h2 : 10 ^ k * 10 ^ (e + (j + 1 : Nat)).toNat ≤ 10 ^ T * 10 ^ (-(e + (j + 1 : Nat))).toNat := by
   rw [← Nat.pow_add, ← Nat.pow_add]
   exact Nat.pow_le_pow_right (by omega) (by omega)
  exact Nat.le_trans h1 h2
end
section
theorem Au (k : Nat) : 0 < 2 ^ k := Nat.two_pow_pos k
theorem Sa {N n q t A B D : Nat} (hq : N = q * n + t) (hn : 0 < n) (hD : Bi (N * 2 ^ A) (2 ^ B * n) = D) (hbig : 2 ^ 60 ≤ q) : A + 7 ≤ D + B := by
 have s2 := (Fl (Nat.mul_pos (Au B) hn) hD).2
 rcases Nat.lt_or_ge (D + B) (A + 7) with h | h
 ·exfalso
  have h1 : 2 ^ 60 * n ≤ N := by
   have := Nat.mul_le_mul_right n hbig
   omega
  have h2 : 2 ^ 60 * n * 2 ^ A ≤ N * 2 ^ A := Nat.mul_le_mul_right _ h1
  have h3 : 2 ^ D * 2 ^ B ≤ 2 ^ (A + 6) := by rw [← Nat.pow_add]; exact Nat.pow_le_pow_right (by omega) (by omega)
  have h4 : (2 : Nat) ^ (A + 6) = 2 ^ A * 64 := by rw [Nat.pow_add]
  have h5 : 9007199254740992 * 2 ^ D * (2 ^ B * n) = 9007199254740992 * (2 ^ D * 2 ^ B) * n := by grind
  rw [h5] at s2
  have h6 : 9007199254740992 * (2 ^ D * 2 ^ B) * n ≤ 9007199254740992 * (2 ^ A * 64) * n := Nat.mul_le_mul_right _ (Nat.mul_le_mul_left _ (by omega))
  have h7 : (2 : Nat) ^ 60 = 1152921504606846976 := by decide
  rw [h7] at h2
  have hP := Au A
  generalize 2 ^ A = P at *
  have h8 : 9007199254740992 * (P * 64) * n = 576460752303423488 * (n * P) := by grind
  have h9 : 1152921504606846976 * n * P = 1152921504606846976 * (n * P) := Nat.mul_assoc _ _ _
  omega
 ·exact h
theorem Ag2 {m N n q t s : Nat} {ten last : Int} (hN : N = m * 5 ^ ten.toNat * 2 ^ (ten - last).toNat) (hn : n = 5 ^ (-ten).toNat * 2 ^ (last - ten).toNat) (hq : N = q * n + t) (ht : t < n) (hs : s = if t = 0 then 0 else 1) (hbig : last = -1076 ∨ 2 ^ 60 ≤ q) :
  Bf m ten = rnd ((q ||| s) * 2 ^ (last + 1074).toNat) (2 ^ (-(last + 1074)).toNat) := by
 obtain ⟨K, hK, hd⟩ := Fx
 obtain ⟨A, hA⟩ : ∃ A, (last + 1074).toNat = A := ⟨_, rfl⟩
 obtain ⟨B, hB⟩ : ∃ B, (-(last + 1074)).toNat = B := ⟨_, rfl⟩
 have hn0 : 0 < n := by omega
 obtain ⟨D, hD⟩ : ∃ D, Bi (N * 2 ^ A) (2 ^ B * n) = D := ⟨_, rfl⟩
 have key : A + 2 ≤ D + B := by
  rcases hbig with h | h
  ·omega
  ·have := Sa hq hn0 hD h
   omega
 obtain ⟨d, hd2⟩ : ∃ d, D + B = A + d := ⟨D + B - A, by omega⟩
 rw [hA, hB, (W9 hn0 hq ht hs hD hd2 (by omega)).2 (by omega), hd]
 refine K7 (Aq _) (Nat.mul_pos (Au B) hn0) ?_
 rw [hN, hn, show (10 : Nat) = 5 * 2 from rfl, Nat.mul_pow, Nat.mul_pow]
 have e1 : 2 ^ ten.toNat * 2 ^ K * 2 ^ B * 2 ^ (last - ten).toNat = 2 ^ (ten - last).toNat * 2 ^ A * 2 ^ (-ten).toNat := by
  rw [← Nat.pow_add, ← Nat.pow_add, ← Nat.pow_add, ← Nat.pow_add, ← Nat.pow_add]
  congr 1
  omega
 generalize 5 ^ ten.toNat = f at *
 generalize 5 ^ (-ten).toNat = g at *
 generalize 2 ^ ten.toNat = x1 at *
 generalize 2 ^ K = x2 at *
 generalize 2 ^ B = x3 at *
 generalize 2 ^ (last - ten).toNat = x4 at *
 generalize 2 ^ (ten - last).toNat = y1 at *
 generalize 2 ^ A = y2 at *
 generalize 2 ^ (-ten).toNat = y3 at *
 have a1 : m * (f * x1) * x2 * (x3 * (g * x4)) = m * f * g * (x1 * x2 * x3 * x4) := by grind
 have a2 : m * f * y1 * y2 * (g * y3) = m * f * g * (y1 * y2 * y3) := by grind
 rw [a1, a2, e1]
theorem Ag0 {m N q t s k up a b : Nat} (hN : N = m * 2 ^ up) (hq : N = q * 10 ^ k + t) (ht : t < 10 ^ k) (hs : s = if t = 0 then 0 else 1) (hbig : 2 ^ 60 ≤ q) (ha : a = 1074 - up) (hb : b = up - 1074) :
  rnd ((2 * q + s) * 2 ^ a) (2 ^ (b + 1)) = Bf m (-(k : Int)) := by
 obtain ⟨K, hK, hd⟩ := Fx
 obtain ⟨n, hn⟩ : ∃ n, 10 ^ k = n := ⟨_, rfl⟩
 rw [hn] at hq ht
 have hn0 : 0 < n := by omega
 obtain ⟨D, hD⟩ : ∃ D, Bi (N * 2 ^ a) (2 ^ b * n) = D := ⟨_, rfl⟩
 have key := Sa hq hn0 hD hbig
 obtain ⟨d, hd2⟩ : ∃ d, D + b = a + d := ⟨D + b - a, by omega⟩
 rw [(W9 hn0 hq ht hs hD hd2 (by omega)).1, hd, show (-(k : Int)).toNat = 0 by omega, show (-(-(k : Int))).toNat = k by omega, hn, Nat.pow_zero, Nat.mul_one]
 refine K7 (Nat.mul_pos (Au b) hn0) hn0 ?_
 rw [hN]
 have e1 : 2 ^ up * 2 ^ a = 2 ^ K * 2 ^ b := by
  rw [← Nat.pow_add, ← Nat.pow_add]
  congr 1
  omega
 generalize 2 ^ up = x1 at *
 generalize 2 ^ a = x2 at *
 generalize 2 ^ K = y1 at *
 generalize 2 ^ b = y2 at *
 have a1 : m * x1 * x2 * n = m * n * (x1 * x2) := by grind
 have a2 : m * y1 * (y2 * n) = m * n * (y1 * y2) := by grind
 rw [a1, a2, e1]
theorem Ail {n L drop A B D : Nat} (h1 : n < 2 ^ L) (h2 : L = 0 ∨ 2 ^ (L - 1) ≤ n) (hL : L ≤ drop + 53) (h3 : D = 0 ∨ L = drop + 53) (hD : D + B = A + drop) :
  rnd (n * 2 ^ A) (2 ^ B) = min (D * 4503599627370496 + Db n (2 ^ drop)) 9218868437227405312 ∧ Db n (2 ^ drop) ≤ 9007199254740992 ∧ (D = 0 ∨ 4503599627370496 ≤ Db n (2 ^ drop)) := by
 have hP : 2 ^ D * 2 ^ B = 2 ^ A * 2 ^ drop := by rw [← Nat.pow_add, ← Nat.pow_add, hD]
 have hA := Au A
 have hd := Au drop
 have up : n ≤ 9007199254740992 * 2 ^ drop ∧ n < 9007199254740992 * 2 ^ drop := by
  have : 2 ^ L ≤ 9007199254740992 * 2 ^ drop := by
   rw [show (9007199254740992 : Nat) = 2 ^ 53 from rfl, ← Nat.pow_add]
   exact Nat.pow_le_pow_right (by omega) (by omega)
  omega
 have lo : D = 0 ∨ 4503599627370496 * 2 ^ drop ≤ n := by
  rcases h3 with h | h
  ·exact Or.inl h
  ·refine Or.inr ?_
   rw [show (4503599627370496 : Nat) = 2 ^ 52 from rfl, ← Nat.pow_add, show 52 + drop = L - 1 by omega]
   exact h2.resolve_left (by omega)
 have hp : Bi (n * 2 ^ A) (2 ^ B) = D := by
  refine Eq (Au B) ?_ ?_
  ·rcases lo with h | h
   ·exact Or.inl h
   ·refine Or.inr ?_
    rw [Nat.mul_assoc, hP]
    have := Nat.mul_le_mul_right (2 ^ A) h
    have e : 4503599627370496 * 2 ^ drop * 2 ^ A = 4503599627370496 * (2 ^ A * 2 ^ drop) := by rw [Nat.mul_assoc, Nat.mul_comm (2 ^ drop)]
    omega
  ·rw [Nat.mul_assoc, hP]
   have := Nat.mul_lt_mul_of_pos_right up.2 hA
   have e : 9007199254740992 * 2 ^ drop * 2 ^ A = 9007199254740992 * (2 ^ A * 2 ^ drop) := by rw [Nat.mul_assoc, Nat.mul_comm (2 ^ drop)]
   omega
 refine ⟨?_, Adx hd up.1, ?_⟩
 ·unfold rnd
  rw [hp, hP, Nat.mul_comm (2 ^ A), Cf hA]
 ·rcases lo with h | h
  ·exact Or.inl h
  ·exact Or.inr (Nk hd h)
theorem Z7 {n h : Nat} : Db n (2 * h) = if h < n % (2 * h) ∨ (n % (2 * h) = h ∧ n / (2 * h) % 2 = 1) then n / (2 * h) + 1 else n / (2 * h) := by
 unfold Db
 generalize n % (2 * h) = r
 generalize n / (2 * h) = q
 by_cases c1 : h < r
 ·rw [if_pos (Or.inl c1), decide_eq_true (by omega), Bool.true_or]; rfl
 ·rw [decide_eq_false (show ¬ 2 * h < 2 * r by omega), Bool.false_or]
  by_cases c2 : r = h
  ·rw [decide_eq_true (by omega), Bool.true_and]
   by_cases c3 : q % 2 = 1
   ·rw [decide_eq_true c3, if_pos (Or.inr ⟨c2, c3⟩)]; rfl
   ·rw [decide_eq_false c3, if_neg (by omega)]; rfl
  ·rw [decide_eq_false (show ¬ 2 * h = 2 * r by omega), Bool.false_and, if_neg (by omega)]; rfl
end
end Go.Proofs.YtmakhfekiieneaaGreatDoor
