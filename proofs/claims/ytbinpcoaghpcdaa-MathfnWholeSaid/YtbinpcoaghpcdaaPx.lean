/-
  Whole floats and odd ones, of the program and of the reference; contracts of Pow's parts.
-/
import Derived.Test.YtbinpcoaghpcdaaPw
import Derived.Test.YtbinpcoaghpcdaaLawG
namespace Go.Proofs.Ytbinpcoaghpcdaa
open Go.RowKit
theorem nabs_any (x : Nat) (w : World) (hx : x < 18446744073709551616) (h : fnan x = false) : Calls Try.prog 51 #[.float .f64 x] w fun e w' => e = .returned (.float .f64 (rung x)) ∧ w = w' := by
  have C1 := Lib.hid (fun W => abs_any x W hx)
  have C2 := Lib.hid (fun W => told_any (rung x) W)
  rw [show cn (rung x) = rung x from by unfold cn; rw [show fnan (rung x) = false from by unfold fnan at h ⊢; rw [(rung_rung x).1]; exact h]; rfl] at C2
  clear hx h
  go_enter Try.func51, Try.ntmps51
  go_wp2_with fail
  refine (C1.out _).mono ?_
  rintro e w' ⟨rfl, rfl⟩
  go_wp2_with fail
  refine (C2.out _).mono ?_
  rintro e w' ⟨rfl, rfl⟩
  go_wp2
  go_ret
  exact ⟨rfl, rfl⟩
theorem nabs_nan (x : Nat) (w : World) (hx : x < 18446744073709551616) (h : fnan x = true) : Calls Try.prog 51 #[.float .f64 x] w fun e w' => e = .returned (.float .f64 9221120237041090560) ∧ w = w' := by
  have C1 := Lib.hid (fun W => abs_any x W hx)
  have C2 := Lib.hid (fun W => told_any (rung x) W)
  rw [show cn (rung x) = 9221120237041090560 from by unfold cn; rw [show fnan (rung x) = true from by unfold fnan at h ⊢; rw [(rung_rung x).1]; exact h]; rfl] at C2
  clear hx h
  go_enter Try.func51, Try.ntmps51
  go_wp2_with fail
  refine (C1.out _).mono ?_
  rintro e w' ⟨rfl, rfl⟩
  go_wp2_with fail
  refine (C2.out _).mono ?_
  rintro e w' ⟨rfl, rfl⟩
  go_wp2
  go_ret
  exact ⟨rfl, rfl⟩
theorem read_sgn (s : Bool) {r m : Nat} {e : Int} (h : r < 9218868437227405312) (hr : Ieee.double.read (Ieee.double.word s r) = .number s m e) : Ieee.double.read (Ieee.double.word (!s) r) = .number (!s) m e := by
  have e1 : Ieee.double.signWeight = 9223372036854775808 := by decide
  obtain ⟨a1, a2, _⟩ := word_rung s (r := r) (by omega)
  obtain ⟨b1, b2, _⟩ := word_rung (!s) (r := r) (by omega)
  unfold rung at a1 b1
  unfold fneg at a2 b2
  unfold Ieee.Format.read at hr ⊢
  simp only [e1, a1, a2] at hr
  simp only [e1, b1, b2]
  split at hr
  · rw [if_pos (by assumption)]
    injection hr with h1 h2 h3
    rw [h2, h3]
  · rw [if_neg (by assumption)]
    split at hr
    · rw [if_pos (by assumption)]
      injection hr with h1 h2 h3
      rw [h2, h3]
    · split at hr <;> cases hr
/-- Is a float whole? -/
def whl (y : Nat) : Bool := decide (mg y % mg 4607182418800017408 = 0)
theorem sv_eq {x y : Nat} : frank x = frank y ↔ sv x = sv y := by
  have a := @frank_sv x y
  have b := @frank_sv y x
  omega
theorem whl_floor {y : Nat} (hy : Fin64 y) : (FloatKind.f64.format.order (itg .down y) y == some .eq) = whl y := by
  obtain ⟨K, hK⟩ : ∃ K : Nat, K = 1074 := ⟨_, rfl⟩
  obtain ⟨n, h1, h2, h3, h4, _⟩ := floor_sv hy hK
  rw [(ord_real (fnan_of h1) (fnan_of hy)).2.2]
  unfold whl
  rw [(one_fin hK).2.1]
  refine decide_eq_decide.2 (sv_eq.trans ?_)
  rw [h2]
  have hs := sv_abs y
  have hU := Nat.two_pow_pos K
  generalize 2 ^ K = U at *
  have hU' : (U : Int) ≠ 0 := by omega
  constructor
  · intro h
    have h5 : (mg y : Int) = (sv y).natAbs := by omega
    have h6 : (sv y).natAbs = n.natAbs * U := by rw [← h, Int.natAbs_mul, Int.natAbs_natCast]
    rw [← hs, h6, Nat.mul_mod_left]
  · intro h
    obtain ⟨c, hc⟩ : ∃ c, mg y = U * c := ⟨mg y / U, by have := Nat.div_add_mod (mg y) U; omega⟩
    have h5 : sv y = (U : Int) * (c : Int) ∨ sv y = (U : Int) * (-(c : Int)) := by
      have e1 : (U : Int) * (c : Int) = (mg y : Int) := by rw [hc]; simp
      have e2 : (U : Int) * (-(c : Int)) = -(mg y : Int) := by rw [hc, Int.mul_neg]; simp
      omega
    have key : ∀ d : Int, sv y = (U : Int) * d → n * (U : Int) = sv y := by
      intro d hd
      rw [hd, Int.mul_comm (U : Int)] at h3 h4 ⊢
      have h6 : n ≤ d := Int.le_of_mul_le_mul_right h3 (by omega)
      have h7 : d < n + 1 := by
        refine Int.lt_of_mul_lt_mul_right (a := (U : Int)) ?_ (by omega)
        rw [Int.add_mul, Int.one_mul]; exact h4
      rw [show n = d by omega]
    rcases h5 with h5 | h5
    · exact key _ h5
    · exact key _ h5
theorem near_sign (s : Bool) (m : Nat) (e : Int) : Ieee.double.nearest s m e = Ieee.double.word s (Ieee.double.nearest false m e) := by
  unfold Ieee.Format.nearest
  by_cases h : m = 0
  · rw [if_pos h, if_pos h, word_false]
  · rw [if_neg h, if_neg h]
    dsimp only
    rw [cut_sgn s, word_false]
theorem zero_spec {s : Bool} {a K : Nat} (ha : a < 9218868437227405312) (hK : K = 1074) : ∃ c r, itg .zero (Ieee.double.word s a) = Ieee.double.word s r ∧ r < 9218868437227405312 ∧ fmag r = c * 2 ^ K ∧ c * 2 ^ K ≤ fmag a ∧ fmag a < (c + 1) * 2 ^ K := by
  obtain ⟨c, r, h1, h2, h3, h4⟩ := floor_spec (s := false) ha hK
  have hU := Nat.two_pow_pos K
  have h5 : c * 2 ^ K ≤ fmag a ∧ fmag a < (c + 1) * 2 ^ K := by
    rw [Nat.add_mul, Nat.one_mul]
    rcases h4 with h | ⟨_, h, h'⟩ | ⟨h, _⟩
    · omega
    · rw [Nat.add_mul, Nat.one_mul] at h'; omega
    · cases h
  refine ⟨c, r, ?_, h2, h3, h5⟩
  obtain ⟨m, e, b1, b2, b3⟩ := read_pos (w := a) (by omega)
  have hs : Ieee.double.read (Ieee.double.word s a) = .number s m e := by
    cases s
    · exact b1
    · exact read_sgn false (by omega) b1
  have e1 : itg .down (Ieee.double.word false a) = Ieee.double.nearest false (Ieee.Toward.cut .down false (m <<< e.toNat) (-e).toNat) 0 := by
    unfold itg
    rw [show FloatKind.f64.decode (Ieee.double.word false a) = Ieee.double.read (Ieee.double.word false a) from rfl, show Ieee.double.read (Ieee.double.word false a) = .number false m e from b1]
    rfl
  have e2 : itg .zero (Ieee.double.word s a) = Ieee.double.nearest s (Ieee.Toward.cut .zero s (m <<< e.toNat) (-e).toNat) 0 := by
    unfold itg
    rw [show FloatKind.f64.decode (Ieee.double.word s a) = Ieee.double.read (Ieee.double.word s a) from rfl, hs]
    rfl
  have e3 : Ieee.Toward.cut .zero s (m <<< e.toNat) (-e).toNat = Ieee.Toward.cut .down false (m <<< e.toNat) (-e).toNat := rfl
  rw [e2, e3, near_sign s, ← e1, h1, word_false]
theorem whl_zero {y : Nat} (hy : Fin64 y) : (FloatKind.f64.format.order (itg .zero y) y == some .eq) = whl y ∧ fnan (itg .zero y) = false := by
  obtain ⟨K, hK⟩ : ∃ K : Nat, K = 1074 := ⟨_, rfl⟩
  obtain ⟨c, r, h1, h2, h3, h4, h5⟩ := zero_spec (s := fneg y) hy.2 hK
  rw [word_self hy.1] at h1
  obtain ⟨a1, a2, a3⟩ := word_rung (fneg y) (r := r) (by omega)
  have hf : Fin64 (itg .zero y) := by rw [h1]; exact ⟨a3, by rw [a1]; exact h2⟩
  refine ⟨?_, fnan_of hf⟩
  rw [(ord_real (fnan_of hf) (fnan_of hy)).2.2]
  unfold whl
  rw [(one_fin hK).2.1]
  refine decide_eq_decide.2 (sv_eq.trans ?_)
  have hm : mg (itg .zero y) = c * 2 ^ K := by rw [h1]; unfold mg; rw [a1]; exact h3
  have hn : fneg (itg .zero y) = fneg y := by rw [h1]; exact a2
  have e : fmag (rung y) = mg y := rfl
  rw [e] at h4 h5
  unfold sv
  rw [hn, hm]
  have hU := Nat.two_pow_pos K
  rw [Nat.add_mul, Nat.one_mul] at h5
  constructor
  · intro h
    have h6 : c * 2 ^ K = mg y := by cases h7 : fneg y <;> rw [h7] at h <;> simp only [if_true, Bool.false_eq_true, if_false] at h <;> omega
    rw [← h6, Nat.mul_mod_left]
  · intro h
    have h6 : mg y = c * 2 ^ K := by
      have h7 := Nat.div_add_mod (mg y) (2 ^ K)
      rw [h, Nat.add_zero] at h7
      have h8 : mg y / 2 ^ K = c := by
        have l1 : c ≤ mg y / 2 ^ K := (Nat.le_div_iff_mul_le hU).2 h4
        have l2 : mg y / 2 ^ K < c + 1 := (Nat.div_lt_iff_lt_mul hU).2 (by rw [Nat.add_mul, Nat.one_mul]; exact h5)
        omega
      rw [h8, Nat.mul_comm] at h7
      exact h7.symm
    rw [h6]
theorem fwhole_any {y : Nat} (hy : Fin64 y) (w : World) : Calls Try.prog 61 #[.float .f64 y] w fun e w' => e = .returned (.bool (whl y)) ∧ w = w' := by
  obtain ⟨K, hK⟩ : ∃ K : Nat, K = 1074 := ⟨_, rfl⟩
  obtain ⟨n, h1, _⟩ := floor_sv hy hK
  have C1 := Lib.hid (nFloor_real (fnan_of hy) rfl (fnan_of h1) w)
  have h2 := whl_floor hy
  obtain ⟨b, hb⟩ : ∃ b, whl y = b := ⟨_, rfl⟩
  obtain ⟨k, hk⟩ : ∃ k, itg .down y = k := ⟨_, rfl⟩
  rw [hb, hk] at h2
  rw [hb]
  rw [hk] at C1
  clear hy h1 hb hk
  go_enter Try.func61, Try.ntmps61
  go_wp2_with fail
  refine C1.out.mono ?_
  rintro e w' ⟨rfl, rfl⟩
  go_wp2
  go_ret
  exact ⟨rfl, rfl⟩
theorem two_fin {K : Nat} (hK : K = 1074) : Fin64 4611686018427387904 ∧ mg 4611686018427387904 = 2 * 2 ^ K := by
  obtain ⟨a, b, _⟩ := fl_fin (N := 2) (by omega) hK
  rw [show fl 2 = 4611686018427387904 by decide +kernel] at a b
  exact ⟨a, b⟩
theorem half_fin {y : Nat} (hy : Fin64 y) : Ieee.double.div y 4611686018427387904 = some (divF y 4611686018427387904) ∧ Fin64 (divF y 4611686018427387904) := by
  obtain ⟨K, hK⟩ : ∃ K : Nat, K = 1074 := ⟨_, rfl⟩
  obtain ⟨L, hL⟩ : ∃ L : Nat, L = 2098 := ⟨_, rfl⟩
  obtain ⟨t1, t2⟩ := two_fin hK
  have hU := Nat.two_pow_pos K
  obtain ⟨a, b, _, c⟩ := divF_core hy t1 (fmag_pos.1 (show 0 < mg 4611686018427387904 by omega)) hK
  refine ⟨a, b, Nat.lt_of_le_of_lt (nearly_le (by omega) c ?_) hy.2⟩
  show mg y * 2 ^ K ≤ mg y * mg 4611686018427387904
  exact Nat.mul_le_mul_left _ (by omega)
/-- Is a whole float odd? -/
def oddb (y : Nat) : Bool := whl y && !whl (divF y 4611686018427387904)
theorem fodd_any {y : Nat} (hy : Fin64 y) (w : World) : Calls Try.prog 63 #[.float .f64 y] w fun e w' => e = .returned (.bool (oddb y)) ∧ w = w' := by
  obtain ⟨h1, h2⟩ := half_fin hy
  have C1 := Lib.hid (fun W => fwhole_any hy W)
  have C2 := Lib.hid (fun W => fwhole_any h2 W)
  have h3 := wDiv h1
  unfold oddb
  cases e1 : whl y
  · rw [e1] at C1
    clear hy h1 h2 e1
    go_enter Try.func63, Try.ntmps63
    go_wp2_with fail
    refine (C1.out _).mono ?_
    rintro e w' ⟨rfl, rfl⟩
    go_wp2
    go_ret
    exact ⟨rfl, rfl⟩
  · rw [e1] at C1
    obtain ⟨b, hb⟩ : ∃ b, whl (divF y 4611686018427387904) = b := ⟨_, rfl⟩
    obtain ⟨z, hz⟩ : ∃ z, divF y 4611686018427387904 = z := ⟨_, rfl⟩
    rw [hb] at C2 ⊢
    rw [hz] at C2 h3
    clear hy h1 h2 e1 hb hz
    go_enter Try.func63, Try.ntmps63
    go_wp2_with fail
    refine (C1.out _).mono ?_
    rintro e w' ⟨rfl, rfl⟩
    go_wp2_with fail
    refine (C2.out _).mono ?_
    rintro e w' ⟨rfl, rfl⟩
    go_wp2
    go_ret
    exact ⟨by cases b <;> rfl, rfl⟩
/-- Above 2^53 no float is odd. -/
theorem odd_high {y : Nat} (hy : Fin64 y) (h : (FloatKind.f64.format.order (rung y) 4845873199050653696 == some .lt) = false) : oddb y = false := by
  obtain ⟨K, hK⟩ : ∃ K : Nat, K = 1074 := ⟨_, rfl⟩
  obtain ⟨L, hL⟩ : ∃ L : Nat, L = 2098 := ⟨_, rfl⟩
  obtain ⟨d, hd⟩ : ∃ d : Nat, d = 1075 := ⟨_, rfl⟩
  have hr : rung y < 9218868437227405312 := hy.2
  rw [ord_lt (by omega) (by omega)] at h
  have h1 := of_decide_eq_false h
  obtain ⟨M, e, m1, m2, m3, m4⟩ := fmag_split (r := rung y) (by omega)
  have he : d ≤ e := by omega
  obtain ⟨q, rfl⟩ : ∃ q, e = q + 1 := ⟨e - 1, by omega⟩
  obtain ⟨t1, t2⟩ := two_fin hK
  have hU := Nat.two_pow_pos K
  obtain ⟨a, b, _, c⟩ := divF_core hy t1 (fmag_pos.1 (show 0 < mg 4611686018427387904 by omega)) hK
  have hm : mg y = M * 2 ^ (q + 1) := m4
  have ex : mg y * 2 ^ K = M * 2 ^ q * mg 4611686018427387904 := by rw [hm, t2, Nat.pow_succ]; grind
  have c1 := nearly_cap (by omega) c m2 (Nat.le_of_eq ex)
  have hq : M * 2 ^ q < 2 ^ L := by
    have := (fmag_fin hL).2 hr
    rw [m4, Nat.pow_succ] at this
    have h2 := Nat.two_pow_pos q
    have e2 : M * (2 ^ q * 2) = M * 2 ^ q * 2 := by grind
    omega
  have c2 := nearly_floor c m2 hL hq (Nat.le_of_eq ex.symm)
  have c3 : mg (divF y 4611686018427387904) = M * 2 ^ q := Nat.le_antisymm c1 c2
  unfold oddb
  have : whl (divF y 4611686018427387904) = true := by
    unfold whl
    rw [c3, (one_fin hK).2.1]
    refine decide_eq_true ?_
    rw [show q = (q - K) + K by omega, Nat.pow_add, ← Nat.mul_assoc, Nat.mul_mod_left]
  rw [this]; simp
set_option maxRecDepth 100000 in
theorem vodd_any {y : Nat} (hy : Fin64 y) (w : World) : Calls Try.prog 64 #[.float .f64 y] w fun e w' => e = .returned (.bool (oddb y)) ∧ w = w' := by
  obtain ⟨h1, h2⟩ := half_fin hy
  have C0 := Lib.hid (fun W => abs_any y W hy.1)
  have C1 := Lib.hid (fun W => Trunc_real y W (fnan_of hy))
  have C2 := Lib.hid (fun W => Trunc_real _ W (fnan_of h2))
  have h3 := wDiv h1
  have g1 := (whl_zero hy).1
  have g2 := (whl_zero h2).1
  have g3 := odd_high hy
  unfold oddb at g3 ⊢
  obtain ⟨a, ha⟩ : ∃ a, whl y = a := ⟨_, rfl⟩
  obtain ⟨b, hb⟩ : ∃ b, whl (divF y 4611686018427387904) = b := ⟨_, rfl⟩
  obtain ⟨z, hz⟩ : ∃ z, divF y 4611686018427387904 = z := ⟨_, rfl⟩
  rw [ha, hb] at g3 ⊢
  rw [hb, hz] at g2
  rw [ha] at g1
  rw [hz] at C2 h3
  obtain ⟨i, hi⟩ : ∃ i, itg .zero y = i := ⟨_, rfl⟩
  obtain ⟨j, hj⟩ : ∃ j, itg .zero z = j := ⟨_, rfl⟩
  rw [hi] at C1 g1
  rw [hj] at C2 g2
  have g4 : (FloatKind.f64.format.order j z != some .eq) = !b := by rw [← g2]; rfl
  clear hy h1 h2 ha hb hz hi hj g2
  cases l : (FloatKind.f64.format.order (rung y) 4845873199050653696 == some .lt)
  · rw [g3 l]
    clear g3 g1 g4
    go_enter Try.func64, Try.ntmps64
    go_wp2_with fail
    refine (C0.out _).mono ?_
    rintro e w' ⟨rfl, rfl⟩
    go_wp2
    go_ret
    exact ⟨rfl, rfl⟩
  · clear g3
    cases a
    · go_enter Try.func64, Try.ntmps64
      go_wp2_with fail
      refine (C0.out _).mono ?_
      rintro e w' ⟨rfl, rfl⟩
      go_wp2_with fail
      refine (C1.out _).mono ?_
      rintro e w' ⟨rfl, rfl⟩
      go_wp2
      go_ret
      exact ⟨rfl, rfl⟩
    · go_enter Try.func64, Try.ntmps64
      go_wp2_with fail
      refine (C0.out _).mono ?_
      rintro e w' ⟨rfl, rfl⟩
      go_wp2_with fail
      refine (C1.out _).mono ?_
      rintro e w' ⟨rfl, rfl⟩
      go_wp2_with fail
      refine (C2.out _).mono ?_
      rintro e w' ⟨rfl, rfl⟩
      go_wp2
      go_ret
      exact ⟨by cases b <;> rfl, rfl⟩
theorem vodd_bad {y : Nat} (hw : y < 18446744073709551616) (h : ¬ rung y < 9218868437227405312) (w : World) : Calls Try.prog 64 #[.float .f64 y] w fun e w' => e = .returned (.bool false) ∧ w = w' := by
  have C0 := Lib.hid (fun W => abs_any y W hw)
  have l : (FloatKind.f64.format.order (rung y) 4845873199050653696 == some .lt) = false := by
    rcases Nat.lt_or_ge 9218868437227405312 (rung y) with h1 | h1
    · have h2 : FloatKind.f64.format.order (rung y) 4845873199050653696 = none := order_nan (Or.inl (by rw [(rung_rung y).1]; exact h1))
      rw [h2]; rfl
    · rw [ord_lt (by omega) (by omega)]; exact decide_eq_false (by omega)
  clear hw h
  go_enter Try.func64, Try.ntmps64
  go_wp2_with fail
  refine (C0.out _).mono ?_
  rintro e w' ⟨rfl, rfl⟩
  go_wp2
  go_ret
  exact ⟨rfl, rfl⟩
end Go.Proofs.Ytbinpcoaghpcdaa
