/-
  Contracts of Parts of both.
-/
import Derived.Test.YtbinpcoaghpcdaaParts
import Derived.Test.YtbinpcoaghpcdaaRA
import Derived.Test.YtbinpcoaghpcdaaOr
namespace Go.Proofs.Ytbinpcoaghpcdaa
open Go.RowKit
/-- A float's whole number and power, as its bits have them. -/
def fwhole (x : Nat) : Nat := if x / 4503599627370496 = 0 then x % 4503599627370496 else x % 4503599627370496 + 4503599627370496
def fpow (x : Nat) : Int := if x / 4503599627370496 = 0 then -1074 else ((x / 4503599627370496 : Nat) : Int) - 1075
/-- Is it none, infinite, or below 0? -/
def fbad (x : Nat) : Bool := fnan x || finf x || (fneg x && decide (0 < rung x))
theorem odd_part : ∀ n : Nat, 0 < n → ∃ k m, n = 2 ^ (k + 1) * m + 2 ^ k := by
  intro n
  induction n using Nat.strongRecOn with
  | _ n ih =>
    intro h
    by_cases h2 : n % 2 = 1
    · exact ⟨0, n / 2, by simp; omega⟩
    · obtain ⟨k, m, e⟩ := ih (n / 2) (by omega) (by omega)
      refine ⟨k + 1, m, ?_⟩
      rw [Nat.pow_succ 2 (k + 1), Nat.pow_succ 2 k]
      rw [Nat.pow_succ 2 k] at e
      have : n = 2 * (n / 2) := by omega
      rw [this, e]
      grind
theorem low_bit {x k m : Nat} (hx : x = 2 ^ (k + 1) * m + 2 ^ k) (hl : x < 2 ^ 64) : x &&& (2 ^ 64 - x) = 2 ^ k := by
  have hp : 0 < 2 ^ k := Nat.two_pow_pos k
  have hk : 2 ^ k < 2 ^ (k + 1) := Nat.pow_lt_pow_right (by omega) (by omega)
  have hx0 : 0 < x := by omega
  apply Nat.eq_of_testBit_eq
  intro i
  have e1 : 2 ^ 64 - x = 2 ^ 64 - ((x - 1) + 1) := by omega
  rw [Nat.testBit_and, e1, Nat.testBit_two_pow_sub_succ (by omega), Nat.testBit_two_pow]
  have e2 : x - 1 = 2 ^ (k + 1) * m + (2 ^ k - 1) := by omega
  rw [e2, Nat.testBit_two_pow_mul_add m (by omega), hx, Nat.testBit_two_pow_mul_add m hk, Nat.testBit_two_pow, Nat.testBit_two_pow_sub_one]
  have hk64 : k < 64 := by
    have : 2 ^ k < 2 ^ 64 := by omega
    exact (Nat.pow_lt_pow_iff_right (a := 2) (by omega)).1 this
  by_cases h1 : i < k + 1
  · rw [if_pos h1, if_pos h1]
    by_cases h2 : k = i
    · subst h2; simp [hk64]
    · have h3 : i < k := by omega
      simp [h2, h3]
  · rw [if_neg h1, if_neg h1]
    have h2 : ¬ k = i := by omega
    simp [h2]
    intro h _
    exact h
theorem odd_one {k m j l : Nat} {n : Nat} (h : n = 2 ^ (k + 1) * m + 2 ^ k) (g : n = 2 ^ (j + 1) * l + 2 ^ j) (hn : n < 2 ^ 64) : k = j ∧ m = l := by
  have h1 := low_bit h hn
  have h2 := low_bit g hn
  rw [h1] at h2
  have h3 : k = j := by
    rcases Nat.lt_trichotomy k j with h4 | h4 | h4
    · have := Nat.pow_lt_pow_right (a := 2) (by omega) h4; omega
    · exact h4
    · have := Nat.pow_lt_pow_right (a := 2) (by omega) h4; omega
  subst h3
  refine ⟨rfl, ?_⟩
  rw [h] at g
  have h4 := Nat.add_right_cancel g
  exact Nat.eq_of_mul_eq_mul_left (Nat.two_pow_pos _) h4
theorem and_mask (x : Nat) (hx : x < 18446744073709551616) : bits BinOp.and IntKind.u64 (x : Int) 4503599627370495 = ((x % 4503599627370496 : Nat) : Int) := by
  show IntKind.u64.wrap ((BitVec.ofInt 64 (x : Int) &&& BitVec.ofInt 64 4503599627370495).toNat : Int) = _
  have e1 : (BitVec.ofInt 64 (x : Int)) = BitVec.ofNat 64 x := by rw [BitVec.ofInt_natCast]
  have e2 : (BitVec.ofInt 64 4503599627370495) = BitVec.ofNat 64 (2 ^ 52 - 1) := by decide
  rw [e1, e2, BitVec.toNat_and, BitVec.toNat_ofNat, BitVec.toNat_ofNat, Nat.mod_eq_of_lt (by omega : x < 2 ^ 64), Nat.mod_eq_of_lt (by omega : 2 ^ 52 - 1 < 2 ^ 64), Nat.and_two_pow_sub_one_eq_mod, IntKind.wrap_u64]
  omega
theorem or_hidden (t : Nat) (ht : t < 4503599627370496) : bits BinOp.or IntKind.u64 (t : Int) 4503599627370496 = ((t + 4503599627370496 : Nat) : Int) := by
  rw [show (4503599627370496 : Int) = ((4503599627370496 : Nat) : Int) from rfl, or_u64 t 4503599627370496 (by omega) (by omega)]
  have := Nat.two_pow_add_eq_or_of_lt (i := 52) (b := t) ht 1
  rw [Nat.or_comm, show (4503599627370496 : Nat) = 2 ^ 52 * 1 from rfl, ← this, Nat.add_comm]
theorem results_three {fn : Func} {t u v : Tmp} (h : fn.results = #[.tmp t, .tmp u, .tmp v]) (tmps : Array Value) (P : Program) (w : World) :
    (results fn tmps).run P w = .ok (.tuple #[tmps.getD t undef, tmps.getD u undef, tmps.getD v undef]) w := by
  simp [results, h]
def PartsP (x : Nat) (w : World) (e : Ending) (w' : World) : Prop :=
  ∃ k m A n c, fwhole x = 2 ^ (k + 1) * m + 2 ^ k ∧ e = .returned (.tuple #[.slice A n c, .int .i64 (fpow x + (k : Nat)), .int .i64 0]) ∧ (n = (wds (2 * m + 1)).length ∧ n ≤ c ∧ RW w' w'.heap.size A (wds (2 * m + 1))) ∧ Below w.heap.size w w'
theorem two_wds' (n : Nat) (h : n < 18446744073709551616) : nrm (two n) = wds n := by rw [nrm_wds (two_ws h), two_val]
/-- What holds of a float that is not bad. -/
theorem fgood {x : Nat} (hx : x < 18446744073709551616) (hb : fbad x = false) : fnan x = false ∧ finf x = false ∧ (rung x = 0 ∨ (0 < rung x ∧ rung x = x ∧ x < 9218868437227405312 ∧ fneg x = false)) := by
  unfold fbad at hb
  have h1 : fnan x = false := by cases e : fnan x <;> rw [e] at hb <;> first | rfl | simp at hb
  have h2 : finf x = false := by cases e : finf x <;> rw [e] at hb <;> first | rfl | simp at hb
  refine ⟨h1, h2, ?_⟩
  rw [h1, h2] at hb
  have h3 := of_decide_eq_false h1
  have h4 := of_decide_eq_false h2
  rcases Nat.eq_zero_or_pos (rung x) with h0 | h0
  · exact .inl h0
  · right
    have h5 : fneg x = false := by cases e : fneg x <;> rw [e] at hb <;> first | rfl | (simp at hb; omega)
    have h6 : rung x = x := by
      unfold fneg at h5
      unfold rung
      rw [beq_eq_false_iff_ne] at h5
      omega
    exact ⟨h0, h6, by omega, h5⟩
theorem fwhole_pos {x : Nat} (h0 : 0 < x) : 0 < fwhole x ∧ fwhole x < 9007199254740992 := by
  unfold fwhole
  split <;> omega
theorem and_one64 (x : Nat) (hx : x < 18446744073709551616) : bits BinOp.and IntKind.u64 (x : Int) 1 = ((x % 2 : Nat) : Int) := by
  show IntKind.u64.wrap ((BitVec.ofInt 64 (x : Int) &&& BitVec.ofInt 64 1).toNat : Int) = _
  have e1 : (BitVec.ofInt 64 (x : Int)) = BitVec.ofNat 64 x := by rw [BitVec.ofInt_natCast]
  have e2 : (BitVec.ofInt 64 1) = BitVec.ofNat 64 (2 ^ 1 - 1) := by decide
  rw [e1, e2, BitVec.toNat_and, BitVec.toNat_ofNat, BitVec.toNat_ofNat, Nat.mod_eq_of_lt (by omega : x < 2 ^ 64), Nat.mod_eq_of_lt (by omega : 2 ^ 1 - 1 < 2 ^ 64), Nat.and_two_pow_sub_one_eq_mod, IntKind.wrap_u64]
  omega
/-- The whole number, j times halved. -/
def hlv (k m j : Nat) : Nat := 2 ^ (k - j + 1) * m + 2 ^ (k - j)
theorem hlv_next {k m j : Nat} (h : j < k) : hlv k m j % 2 = 0 ∧ hlv k m j / 2 = hlv k m (j + 1) := by
  obtain ⟨i, hi⟩ : ∃ i, k - j = i + 1 := ⟨k - j - 1, by omega⟩
  unfold hlv
  rw [hi, show k - (j + 1) = i by omega, Nat.pow_succ 2 (i + 1), Nat.pow_succ 2 i]
  have e : 2 ^ i * 2 * 2 * m + 2 ^ i * 2 = 2 * (2 ^ i * 2 * m + 2 ^ i) := by grind
  rw [e]
  omega
theorem hlv_last {k m : Nat} : hlv k m k % 2 = 1 ∧ hlv k m k = 2 * m + 1 := by
  unfold hlv
  rw [Nat.sub_self]
  omega
theorem hlv_le {k m j : Nat} (h : j ≤ k) : hlv k m j ≤ hlv k m 0 := by
  unfold hlv
  have h1 : 2 ^ (k - j) ≤ 2 ^ (k - 0) := Nat.pow_le_pow_right (by omega) (by omega)
  have h2 : 2 ^ (k - j + 1) ≤ 2 ^ (k - 0 + 1) := Nat.pow_le_pow_right (by omega) (by omega)
  exact Nat.add_le_add (Nat.mul_le_mul_right _ h2) h1
set_option maxRecDepth 100000 in
set_option maxHeartbeats 1000000 in
theorem rparts_ok (x : Nat) (w : World) (hx : x < 18446744073709551616) (hb : fbad x = false) (h0 : 0 < rung x) : Calls Try.prog 89 #[.float .f64 x] w (PartsP x w) := by
  obtain ⟨g1, g2, g3⟩ := fgood hx hb
  obtain ⟨_, g4, g5, g6⟩ := g3.resolve_left (by omega)
  rw [g4] at h0
  obtain ⟨f1, f2⟩ := fwhole_pos h0
  obtain ⟨k, m, hkm⟩ := odd_part _ f1
  have C1 := Lib.hid (fun W => isNaN_any x W)
  have C2 := Lib.hid (fun W => isInf0_any x W hx)
  have h1 := ord_below x
  have h2 := ord_zero x
  rw [g1, g6] at h1
  rw [decide_eq_false (show ¬ rung x = 0 by omega)] at h2
  rw [g1] at C1
  rw [g2] at C2
  simp only [Bool.not_false, Bool.true_and, Bool.false_and] at h1
  have hk64 : k < 53 := by
    have : 2 ^ k < 2 ^ 53 := by
      have h9 : 2 ^ k ≤ fwhole x := by rw [hkm]; exact Nat.le_add_left _ _
      exact Nat.lt_of_le_of_lt h9 f2
    exact (Nat.pow_lt_pow_iff_right (a := 2) (by omega)).1 this
  have hh0 : hlv k m 0 = fwhole x := by unfold hlv; rw [Nat.sub_zero, hkm]
  have hml : 2 * m + 1 < 18446744073709551616 := by
    have h3 := hlv_le (m := m) (Nat.le_refl k)
    rw [hlv_last.2, hh0] at h3
    omega
  have C5 := Lib.hid (fun W => (rof_any (2 * m + 1) hml W).mono fun _ _ y => y.told (n := (wds (2 * m + 1)).length) (by rw [two_wds' _ hml]))
  rw [two_wds' _ hml] at C5
  have hp1 : -1074 ≤ fpow x ∧ fpow x ≤ 971 := by unfold fpow; split <;> omega
  have HKM := Lib.hid hkm
  have HLT := Lib.hid (fun j (hj : j ≤ k) => show hlv k m j < 9007199254740992 from by
    have h3 := hlv_le (m := m) hj
    rw [hh0] at h3
    omega)
  have hbits := f64bits_run x w
  have hand := and_mask x (by omega)
  have hor := or_hidden (x % 4503599627370496) (Nat.mod_lt _ (by omega))
  obtain ⟨o, ho⟩ : ∃ o, 2 * m + 1 = o := ⟨_, rfl⟩
  have HO := Lib.hid ho
  rw [ho] at C5
  obtain ⟨q, hq⟩ : ∃ q, x / 4503599627370496 = q := ⟨_, rfl⟩
  obtain ⟨t, ht⟩ : ∃ t, x % 4503599627370496 = t := ⟨_, rfl⟩
  rw [ht] at hand hor
  have hw0 : fwhole x = if q = 0 then t else t + 4503599627370496 := by unfold fwhole; rw [hq, ht]
  have hpw : fpow x = if q = 0 then -1074 else (q : Int) - 1075 := by unfold fpow; rw [hq]
  have k1 : (x : Int) / 4503599627370496 = (q : Int) := by omega
  have k2 : IntKind.i64.wrap (q : Int) = (q : Int) := IntWalk.i64_in _ (by omega)
  have k3 : IntKind.i64.wrap ((q : Int) - 1075) = (q : Int) - 1075 := IntWalk.i64_in _ (by omega)
  have hk1 : (k : Int) < 53 := by omega
  rw [← hh0] at hw0
  obtain ⟨p, hp⟩ : ∃ p, fpow x = p := ⟨_, rfl⟩
  have HP := Lib.hid hp
  rw [hp] at hpw hp1
  have HW0 := Lib.hid hw0
  have HPW := Lib.hid hpw
  clear hx hb h0 g1 g2 g3 g4 g5 g6 f1 f2 hkm hh0 hml ho hq ht hw0 hpw hp hk64
  by_cases hq0 : q = 0
  · have b0 : ((q : Int) == 0) = true := by rw [hq0]; rfl
    have hw0 := HW0.out
    have hpw := HPW.out
    rw [if_pos hq0] at hw0 hpw
    have HA := Lib.hid hw0
    have HB := Lib.hid hpw
    clear hq0 hw0 hpw
    go_enter Try.func89, Try.ntmps89
    go_wp2_with fail
    refine (C1.out _).mono ?_
    rintro e w' ⟨rfl, rfl⟩
    go_wp2_with fail
    refine (C2.out _).mono ?_
    rintro e w' ⟨rfl, rfl⟩
    go_wp2
    go_loopw [6, 7] (fun mv ev wr => ∃ (j y : Nat), mv = .int .u64 (y : Nat) ∧ ev = .int .i64 (p + (j : Nat)) ∧ j ≤ k ∧ Hid (hlv k m j = y) ∧ w = wr) (fun _ ev _ => (p + k - intOf ev).toNat)
    case atStart => exact ⟨0, t, rfl, by rw [HB.out]; rfl, Nat.zero_le _, Lib.hid HA.out, rfl⟩
    case round =>
      obtain ⟨j, y, rfl, rfl, hj, HY, rfl⟩ := hrel
      have hy64 : y < 9007199254740992 := by rw [← HY.out]; exact HLT.out j hj
      have hone := and_one64 y (by omega)
      by_cases hjk : j < k
      · obtain ⟨n1, n2⟩ := hlv_next (m := m) hjk
        rw [HY.out] at n1 n2
        rw [n1] at hone
        obtain ⟨z, hz⟩ : ∃ z, hlv k m (j + 1) = z := ⟨_, rfl⟩
        rw [hz] at n2
        have HZ := Lib.hid hz
        have k4 : (y : Int) / 2 = (z : Int) := by omega
        have k5 : IntKind.i64.wrap (p + (j : Nat) + 1) = p + ((j + 1 : Nat) : Int) := by rw [IntWalk.i64_in _ (by omega)]; omega
        have HJ := Lib.hid hjk
        have HP1 := Lib.hid hp1
        clear hy64 n1 n2 hz hj hjk C5
        go_wp2
        go_roundw
        case rel => exact ⟨j + 1, z, rfl, by go_num, HJ.out, HZ, trivial⟩
        case measure => have := HJ.out; simp [intOf]; omega
      · have hjk2 : j = k := by omega
        subst hjk2
        obtain ⟨n1, n2⟩ := hlv_last (k := j) (m := m)
        rw [HY.out] at n1 n2
        rw [n1] at hone
        have hyo : y = o := by rw [n2]; exact HO.out
        subst hyo
        clear hy64 n1 n2 hj hjk hp1 hk1
        go_wp2_with fail
        refine (C5.out _).mono ?_
        rintro e w2 ⟨A2, c2, rfl, ⟨hc2, r2⟩, b2⟩
        have HF := Lib.hid (show PartsP x w (.returned (.tuple #[.slice A2 (wds y).length c2, .int .i64 (p + (j : Nat)), .int .i64 0])) w2 from
          ⟨j, m, A2, _, c2, HKM.out, by rw [HP.out], ⟨by rw [HO.out], hc2, by rw [HO.out]; exact r2⟩, b2⟩)
        clear hc2 r2 b2 C5
        go_wp2
        refine bodyPost_ret (results_three rfl _ _ _) rfl ?_
        exact HF.out
  · have b0 : ((q : Int) == 0) = false := by rw [beq_eq_false_iff_ne]; omega
    have hw0 := HW0.out
    have hpw := HPW.out
    rw [if_neg hq0] at hw0 hpw
    have HA := Lib.hid hw0
    have HB := Lib.hid hpw
    clear hq0 hw0 hpw
    go_enter Try.func89, Try.ntmps89
    go_wp2_with fail
    refine (C1.out _).mono ?_
    rintro e w' ⟨rfl, rfl⟩
    go_wp2_with fail
    refine (C2.out _).mono ?_
    rintro e w' ⟨rfl, rfl⟩
    go_wp2
    go_loopw [6, 7] (fun mv ev wr => ∃ (j y : Nat), mv = .int .u64 (y : Nat) ∧ ev = .int .i64 (p + (j : Nat)) ∧ j ≤ k ∧ Hid (hlv k m j = y) ∧ w = wr) (fun _ ev _ => (p + k - intOf ev).toNat)
    case atStart => exact ⟨0, t + 4503599627370496, rfl, by rw [HB.out]; simp, Nat.zero_le _, Lib.hid HA.out, rfl⟩
    case round =>
      obtain ⟨j, y, rfl, rfl, hj, HY, rfl⟩ := hrel
      have hy64 : y < 9007199254740992 := by rw [← HY.out]; exact HLT.out j hj
      have hone := and_one64 y (by omega)
      by_cases hjk : j < k
      · obtain ⟨n1, n2⟩ := hlv_next (m := m) hjk
        rw [HY.out] at n1 n2
        rw [n1] at hone
        obtain ⟨z, hz⟩ : ∃ z, hlv k m (j + 1) = z := ⟨_, rfl⟩
        rw [hz] at n2
        have HZ := Lib.hid hz
        have k4 : (y : Int) / 2 = (z : Int) := by omega
        have k5 : IntKind.i64.wrap (p + (j : Nat) + 1) = p + ((j + 1 : Nat) : Int) := by rw [IntWalk.i64_in _ (by omega)]; omega
        have HJ := Lib.hid hjk
        have HP1 := Lib.hid hp1
        clear hy64 n1 n2 hz hj hjk C5
        go_wp2
        go_roundw
        case rel => exact ⟨j + 1, z, rfl, by go_num, HJ.out, HZ, trivial⟩
        case measure => have := HJ.out; simp [intOf]; omega
      · have hjk2 : j = k := by omega
        subst hjk2
        obtain ⟨n1, n2⟩ := hlv_last (k := j) (m := m)
        rw [HY.out] at n1 n2
        rw [n1] at hone
        have hyo : y = o := by rw [n2]; exact HO.out
        subst hyo
        clear hy64 n1 n2 hj hjk hp1 hk1
        go_wp2_with fail
        refine (C5.out _).mono ?_
        rintro e w2 ⟨A2, c2, rfl, ⟨hc2, r2⟩, b2⟩
        have HF := Lib.hid (show PartsP x w (.returned (.tuple #[.slice A2 (wds y).length c2, .int .i64 (p + (j : Nat)), .int .i64 0])) w2 from
          ⟨j, m, A2, _, c2, HKM.out, by rw [HP.out], ⟨by rw [HO.out], hc2, by rw [HO.out]; exact r2⟩, b2⟩)
        clear hc2 r2 b2 C5
        go_wp2
        refine bodyPost_ret (results_three rfl _ _ _) rfl ?_
        exact HF.out

end Go.Proofs.Ytbinpcoaghpcdaa
