/-
  The law MathfnWhole.
-/
import Derived.Test.YtbinpcoaghpcdaaLa
namespace Go.Proofs.Ytbinpcoaghpcdaa
open Go.RowKit
/-- The power that the law reckons, factor by factor. -/
def exq (X : Nat) : Nat → Nat
  | 0 => 4607182418800017408
  | i + 1 => mulF (exq X i) X
def big (v : Nat) : Bool := FloatKind.f64.format.order (rung v) 4845873199050653696 == some .gt
set_option maxRecDepth 100000 in
set_option maxHeartbeats 1000000 in
theorem whole_walk (B : Int) (n X Y : Nat) (w : World) (hn : n ≤ 255) (hX : floatOfInt .f64 B = X) (hY : floatOfInt .f64 (n : Nat) = Y)
    (hm : ∀ i, i < n → (∀ j, j ≤ i → big (exq X j) = false) → Ieee.double.mul (exq X i) X = some (exq X (i + 1)) ∧ exq X (i + 1) < 18446744073709551616)
    (h0 : big (exq X 0) = false)
    (hp : (∀ j, j ≤ n → big (exq X j) = false) → ∃ u, (∀ W : World, Calls Try.prog 30 #[.float .f64 X, .float .f64 Y] W fun e w' => e = .returned (.float .f64 u) ∧ W = w') ∧ (FloatKind.f64.format.order u (exq X n) == some .eq) = true) :
    Calls Try.prog 9 #[.int .i8 B, .int .u8 (n : Nat)] w fun e w' => e = .returned (.bool true) ∧ w = w' := by
  have HM := Lib.hid hm
  have HP := Lib.hid hp
  have HN := Lib.hid hn
  have H0 := Lib.hid h0
  have C6 := Lib.hid (fun W => awake_any W)
  have k1 : IntKind.i64.wrap (n : Int) = (n : Int) := IntWalk.i64_in _ (by omega)
  clear hm hp hn h0
  go_enter Try.func9, Try.ntmps9
  go_wp2_with fail
  go_loopw [5, 6] (fun ve vi wr => ∃ i : Nat, ve = .float .f64 (exq X i) ∧ vi = .int .i64 (i : Nat) ∧ Hid (i ≤ n ∧ ∀ j, j ≤ i → big (exq X j) = false) ∧ w = wr) (fun _ vi _ => (256 - intOf vi).toNat)
  case atStart => exact ⟨0, rfl, rfl, Lib.hid ⟨Nat.zero_le _, fun j hj => by rw [show j = 0 by omega]; exact H0.out⟩, rfl⟩
  case round =>
    obtain ⟨i, rfl, rfl, HI, rfl⟩ := hrel
    rcases Nat.lt_or_ge i n with h0 | h0
    · obtain ⟨m1, m2⟩ := HM.out i h0 HI.out.2
      have CA := Lib.hid (fun W => abs_any (exq X (i + 1)) W m2)
      have t1 : decide (i < n) = true := decide_eq_true h0
      have hbig : (FloatKind.f64.format.order (rung (exq X (i + 1))) 4845873199050653696 == some .gt) = big (exq X (i + 1)) := rfl
      obtain ⟨b, hb⟩ : ∃ b, big (exq X (i + 1)) = b := ⟨_, rfl⟩
      rw [hb] at hbig
      obtain ⟨E, hE⟩ : ∃ E, exq X i = E := ⟨_, rfl⟩
      obtain ⟨E2, hE2⟩ : ∃ E2, exq X (i + 1) = E2 := ⟨_, rfl⟩
      rw [hE] at m1 ⊢
      rw [hE2] at m1 CA hbig hb
      obtain ⟨R, hR⟩ : ∃ R, rung E2 = R := ⟨_, rfl⟩
      rw [hR] at CA hbig
      have x1 := wMul m1
      have k2 : IntKind.i64.wrap ((i : Int) + 1) = ((i + 1 : Nat) : Int) := by rw [IntWalk.i64_in _ (by have := HN.out; omega)]; omega
      obtain ⟨i2, hi2⟩ : ∃ i2, i + 1 = i2 := ⟨_, rfl⟩
      have H2 := Lib.hid (show exq X (i + 1) = E2 ∧ i + 1 = i2 ∧ i + 1 ≤ n ∧ big E2 = b from ⟨hE2, hi2, by omega, hb⟩)
      rw [hi2] at k2
      clear m1 m2 h0 hb hE hE2 hR hi2
      cases b
      · go_wp2_with fail
        refine (CA.out _).mono ?_
        rintro e w' ⟨rfl, rfl⟩
        go_wp2
        go_roundw
        case rel => exact ⟨i2, by rw [← H2.out.2.1, H2.out.1], rfl, Lib.hid ⟨by rw [← H2.out.2.1]; exact H2.out.2.2.1, fun j hj => by
            rcases Nat.eq_or_lt_of_le hj with h | h
            · rw [h, ← H2.out.2.1, H2.out.1]; exact H2.out.2.2.2
            · exact HI.out.2 j (by have := H2.out.2.1; omega)⟩, trivial⟩
        case measure => have := H2.out; have := HN.out; simp [intOf]; omega
      · go_wp2_with fail
        refine (CA.out _).mono ?_
        rintro e w' ⟨rfl, rfl⟩
        go_wp2_with fail
        refine (C6.out _).mono ?_
        rintro e w' ⟨rfl, rfl⟩
        go_wp2
        go_ret
        exact ⟨rfl, rfl⟩
    · obtain rfl : i = n := by have := HI.out.1; omega
      have t1 : decide (i < i) = false := decide_eq_false (by omega)
      obtain ⟨u, CP, he⟩ := HP.out HI.out.2
      have CPh := Lib.hid CP
      obtain ⟨E, hE⟩ : ∃ E, exq X i = E := ⟨_, rfl⟩
      rw [hE] at he ⊢
      clear CP h0 hE
      go_wp2_with fail
      refine (CPh.out _).mono ?_
      rintro e w' ⟨rfl, rfl⟩
      go_wp2_with fail
      refine (C6.out _).mono ?_
      rintro e w' ⟨rfl, rfl⟩
      go_wp2
      go_ret
      exact ⟨rfl, rfl⟩
theorem fmag_mono {r s : Nat} (h : r ≤ s) : fmag r ≤ fmag s := by
  rcases Nat.eq_or_lt_of_le h with h1 | h1
  · rw [h1]; exact Nat.le_refl _
  · exact Nat.le_of_lt (fmag_step h1)
theorem gt_amt {a : Nat} (ha : a ≤ 9218868437227405312) : (FloatKind.f64.format.order a 4845873199050653696 == some .gt) = decide (4845873199050653696 < a) := by
  obtain ⟨p1, p2, p3⟩ := pos_rung (x := a) (by omega)
  obtain ⟨q1, q2, q3⟩ := pos_rung (x := 4845873199050653696) (by omega)
  rw [(ord_real (x := a) (c := 4845873199050653696) (by unfold fnan; rw [p1]; exact decide_eq_false (by omega)) (by decide)).1, p3, q3]
  exact decide_eq_decide.2 (by omega)
theorem fl_big {N K : Nat} (h : N ≤ 9007199254740992) (hK : K = 1074) : fl N < 9218868437227405312 ∧ fmag (fl N) = N * 2 ^ K := by
  rcases Nat.eq_or_lt_of_le h with h1 | h1
  · rw [h1, show fl 9007199254740992 = 4845873199050653696 by decide +kernel]
    refine ⟨by omega, ?_⟩
    obtain ⟨d, hd⟩ : ∃ d : Nat, d = 1075 := ⟨_, rfl⟩
    have := fmag_make 4503599627370496 d (by omega) (by omega)
    rw [show d * 4503599627370496 + 4503599627370496 = 4845873199050653696 by omega] at this
    rw [this, show d = K + 1 by omega, Nat.pow_succ, Nat.mul_comm (2 ^ K) 2, ← Nat.mul_assoc]
  · obtain ⟨a, b⟩ := fmag_fl h1 hK
    exact ⟨b, a⟩
theorem word_fin (s : Bool) {r : Nat} (h : r < 9218868437227405312) : Fin64 (Ieee.double.word s r) ∧ rung (Ieee.double.word s r) = r ∧ fneg (Ieee.double.word s r) = s := by
  obtain ⟨a, b, c⟩ := word_rung s (r := r) (by omega)
  exact ⟨⟨c, by rw [a]; exact h⟩, a, b⟩
theorem mul_words (s t : Bool) {u v K : Nat} (hu : u ≤ 9007199254740992) (hv : v ≤ 9007199254740992) (hK : K = 1074) : Ieee.double.mul (Ieee.double.word s (fl u)) (Ieee.double.word t (fl v)) = some (mulF (Ieee.double.word s (fl u)) (Ieee.double.word t (fl v))) ∧ mulF (Ieee.double.word s (fl u)) (Ieee.double.word t (fl v)) < 18446744073709551616 ∧ fneg (mulF (Ieee.double.word s (fl u)) (Ieee.double.word t (fl v))) = (s ^^ t) ∧
    Nearly (u * v * 2 ^ K * 2 ^ K) (2 ^ K) (rung (mulF (Ieee.double.word s (fl u)) (Ieee.double.word t (fl v)))) := by
  obtain ⟨a1, a2⟩ := fl_big hu hK
  obtain ⟨b1, b2⟩ := fl_big hv hK
  obtain ⟨c1, c2, c3⟩ := word_fin s a1
  obtain ⟨d1, d2, d3⟩ := word_fin t b1
  obtain ⟨e1, e2, e3, e4⟩ := mulF_core c1 d1 hK
  rw [c3, d3] at e3
  unfold mg at e4
  rw [c2, d2, a2, b2, show u * 2 ^ K * (v * 2 ^ K) = u * v * 2 ^ K * 2 ^ K by grind] at e4
  exact ⟨e1, e2, e3, e4⟩
theorem mul_exactW (s t : Bool) {u v : Nat} (hu : u ≤ 9007199254740992) (hv : v ≤ 9007199254740992) (h : u * v ≤ 9007199254740992) : mulF (Ieee.double.word s (fl u)) (Ieee.double.word t (fl v)) = Ieee.double.word (s ^^ t) (fl (u * v)) := by
  obtain ⟨K, hK⟩ : ∃ K : Nat, K = 1074 := ⟨_, rfl⟩
  obtain ⟨_, a2, a3, a4⟩ := mul_words s t hu hv hK
  obtain ⟨b1, b2⟩ := fl_big h hK
  have l1 := nearly_le (R := fl (u * v)) (Nat.two_pow_pos K) a4 (by rw [b2]; exact Nat.le_refl _)
  have l2 := nearly_ge (R := fl (u * v)) a4 (by omega) (by rw [b2]; exact Nat.le_refl _)
  have h1 := word_self a2
  rw [a3, Nat.le_antisymm l1 l2] at h1
  exact h1.symm
theorem no_power : ∀ b : Fin 129, ∀ k : Fin 56, b.val ^ k.val ≠ 9007199254740993 := by decide +kernel
theorem pow_small {b i : Nat} (hb : 2 ≤ b) (h : b ^ i ≤ 9007199254740992) : i ≤ 54 := by
  rcases Nat.lt_or_ge 54 i with h1 | h1
  · have h2 : 2 ^ 55 ≤ b ^ i := Nat.le_trans (Nat.pow_le_pow_right (by omega) h1) (Nat.pow_le_pow_left hb i)
    have h3 : (2 : Nat) ^ 55 = 36028797018963968 := by decide
    omega
  · exact h1
theorem exq_is {b : Nat} (s : Bool) (hb0 : 1 ≤ b) (hb : b ≤ 128) : ∀ i, (∀ j, j ≤ i → big (exq (Ieee.double.word s (fl b)) j) = false) → b ^ i ≤ 9007199254740992 ∧ exq (Ieee.double.word s (fl b)) i = Ieee.double.word (s && decide (i % 2 = 1)) (fl (b ^ i)) := by
  obtain ⟨K, hK⟩ : ∃ K : Nat, K = 1074 := ⟨_, rfl⟩
  obtain ⟨L, hL⟩ : ∃ L : Nat, L = 2098 := ⟨_, rfl⟩
  intro i
  induction i with
  | zero =>
    intro _
    refine ⟨by rw [Nat.pow_zero]; omega, ?_⟩
    rw [Nat.pow_zero, show decide (0 % 2 = 1) = false by decide, Bool.and_false, word_false, show fl 1 = 4607182418800017408 by decide +kernel]
    rfl
  | succ i ih =>
    intro h
    obtain ⟨h1, h2⟩ := ih (fun j hj => h j (by omega))
    have hs : exq (Ieee.double.word s (fl b)) (i + 1) = mulF (Ieee.double.word (s && decide (i % 2 = 1)) (fl (b ^ i))) (Ieee.double.word s (fl b)) := by
      show mulF (exq _ i) _ = _
      rw [h2]
    have hpow : b ^ (i + 1) = b ^ i * b := Nat.pow_succ _ _
    have hle : b ^ (i + 1) ≤ 9007199254740992 := by
      rcases Nat.lt_or_ge 9007199254740992 (b ^ (i + 1)) with hlt | hge
      · exfalso
        have hb2 : 2 ≤ b := by
          rcases Nat.lt_or_ge b 2 with h3 | h3
          · rw [show b = 1 by omega, Nat.one_pow] at hlt; omega
          · exact h3
        have hi := pow_small hb2 h1
        have hne := no_power ⟨b, by omega⟩ ⟨i + 1, by omega⟩
        dsimp only at hne
        obtain ⟨_, _, _, a4⟩ := mul_words (s && decide (i % 2 = 1)) s h1 (show b ≤ 9007199254740992 by omega) hK
        have hfl := nearly_floor (M := 4503599627370497) (j := K + 1) a4 (by omega) hL (by
          have e1 : 4503599627370497 * 2 ^ (K + 1) < 2 ^ 53 * 2 ^ (K + 1) := Nat.mul_lt_mul_of_pos_right (by decide) (Nat.two_pow_pos _)
          refine Nat.lt_of_lt_of_le e1 ?_
          rw [← Nat.pow_add]; exact Nat.pow_le_pow_right (by omega) (by omega)) (by
          rw [← hpow, Nat.pow_succ]
          refine Nat.mul_le_mul_right _ ?_
          have : 9007199254740994 * 2 ^ K ≤ b ^ (i + 1) * 2 ^ K := Nat.mul_le_mul_right _ (by omega)
          omega)
        have hbig := h (i + 1) (Nat.le_refl _)
        rw [hs] at hbig
        unfold big at hbig
        have hR : rung (mulF (Ieee.double.word (s && decide (i % 2 = 1)) (fl (b ^ i))) (Ieee.double.word s (fl b))) ≤ 9218868437227405312 := nearly_inf a4
        rw [gt_amt hR] at hbig
        have hb5 := of_decide_eq_false hbig
        have hf := fmag_mono (show rung (mulF (Ieee.double.word (s && decide (i % 2 = 1)) (fl (b ^ i))) (Ieee.double.word s (fl b))) ≤ 4845873199050653696 by omega)
        have h53 := (fl_big (N := 9007199254740992) (Nat.le_refl _) hK).2
        rw [show fl 9007199254740992 = 4845873199050653696 by decide +kernel] at h53
        rw [h53] at hf
        have e2 : 4503599627370497 * 2 ^ (K + 1) = 9007199254740994 * 2 ^ K := by rw [Nat.pow_succ]; omega
        rw [e2] at hfl
        have := Nat.le_of_mul_le_mul_right (Nat.le_trans hfl hf) (Nat.two_pow_pos K)
        omega
      · exact hge
    refine ⟨hle, ?_⟩
    rw [hs, mul_exactW _ _ h1 (by omega) (by rw [← hpow]; exact hle), ← hpow]
    congr 1
    rcases Nat.mod_two_eq_zero_or_one i with hp | hp
    · rw [hp, show (i + 1) % 2 = 1 by omega]; cases s <;> rfl
    · rw [hp, show (i + 1) % 2 = 0 by omega]; cases s <;> rfl
theorem small_y : ∀ n : Fin 256, (FloatKind.f64.format.order (rung (fl n.val)) 4652218415073722368 == some .gt) = false ∧ whl (fl n.val) = true ∧ oddb (fl n.val) = decide (n.val % 2 = 1) ∧ (FloatKind.f64.format.order (fl n.val) 0 == some .lt) = false ∧ floatOfInt .f64 (n.val : Int) = fl n.val := by decide +kernel
theorem small_x : ∀ b : Fin 129, floatOfInt .f64 (b.val : Int) = fl b.val ∧ floatOfInt .f64 (-(b.val : Int)) = Ieee.double.word (decide (0 < b.val)) (fl b.val) := by decide +kernel
theorem eq_self {u : Nat} (h : fnan u = false) : (FloatKind.f64.format.order u u == some .eq) = true := by
  rw [(ord_real h h).2.2]; exact decide_eq_true rfl
end Go.Proofs.Ytbinpcoaghpcdaa
