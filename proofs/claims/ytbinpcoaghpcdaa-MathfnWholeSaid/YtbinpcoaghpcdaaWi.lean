/-
  The law MathfnWhole: powers of whole numbers are exact.
-/
import Derived.Test.YtbinpcoaghpcdaaWh
namespace Go.Proofs.Ytbinpcoaghpcdaa
open Go.RowKit
theorem mul_exactP {u v : Nat} (hu : u ≤ 9007199254740992) (hv : v ≤ 9007199254740992) (h : u * v ≤ 9007199254740992) : mulF (fl u) (fl v) = fl (u * v) := by
  have := mul_exactW false false hu hv h
  rwa [word_false, word_false, Bool.xor_self, word_false] at this
theorem bq_succ (a j : Nat) : bq a (j + 1) = mulF (bq a j) (bq a j) := rfl
theorem rq_succ (a n j : Nat) : rq a n (j + 1) = if n / 2 ^ j % 2 = 1 then mulF (rq a n j) (bq a j) else rq a n j := rfl
theorem bq_is {b n : Nat} (hb0 : 1 ≤ b) (h : b ^ n ≤ 9007199254740992) (j : Nat) (hj : 2 ^ j ≤ n) : bq (fl b) j = fl (b ^ (2 ^ j)) := by
  obtain ⟨F, hF⟩ : ∃ F, F = 9007199254740992 := ⟨_, rfl⟩
  rw [← hF] at h
  induction j with
  | zero => rw [Nat.pow_zero, Nat.pow_one]; rfl
  | succ j ih =>
    rw [Nat.pow_succ] at hj
    have h1 := ih (by omega)
    have h2 : b ^ (2 ^ j) * b ^ (2 ^ j) ≤ F := by rw [← Nat.pow_add]; exact Nat.le_trans (Nat.pow_le_pow_right (by omega) (by omega)) h
    have h3 : b ^ (2 ^ j) ≤ F := Nat.le_trans (Nat.pow_le_pow_right (by omega) (by omega)) h
    rw [hF] at h2 h3
    rw [bq_succ, h1, mul_exactP h3 h3 h2, ← Nat.pow_add, ← Nat.mul_two, ← Nat.pow_succ]
theorem rq_is {b n : Nat} (hb0 : 1 ≤ b) (h : b ^ n ≤ 9007199254740992) (j : Nat) : rq (fl b) n j = fl (b ^ (n % 2 ^ j)) := by
  obtain ⟨F, hF⟩ : ∃ F, F = 9007199254740992 := ⟨_, rfl⟩
  have hbq := fun j => bq_is hb0 h j
  rw [← hF] at h
  induction j with
  | zero => rw [Nat.pow_zero, Nat.mod_one, Nat.pow_zero, show fl 1 = 4607182418800017408 by decide +kernel]; rfl
  | succ j ih =>
    rw [rq_succ]
    have hm : n % 2 ^ (j + 1) = n % 2 ^ j + 2 ^ j * (n / 2 ^ j % 2) := by rw [Nat.pow_succ, Nat.mod_mul]
    by_cases h1 : n / 2 ^ j % 2 = 1
    · rw [if_pos h1]
      rw [h1, Nat.mul_one] at hm
      have hle : 2 ^ j ≤ n := by
        rcases Nat.lt_or_ge n (2 ^ j) with h2 | h2
        · rw [Nat.div_eq_of_lt h2] at h1; omega
        · exact h2
      have hmn : n % 2 ^ (j + 1) ≤ n := Nat.mod_le _ _
      have p1 : b ^ (n % 2 ^ j) ≤ F := Nat.le_trans (Nat.pow_le_pow_right (by omega) (Nat.mod_le _ _)) h
      have p2 : b ^ (2 ^ j) ≤ F := Nat.le_trans (Nat.pow_le_pow_right (by omega) hle) h
      have p3 : b ^ (n % 2 ^ j) * b ^ (2 ^ j) ≤ F := by rw [← Nat.pow_add, ← hm]; exact Nat.le_trans (Nat.pow_le_pow_right (by omega) hmn) h
      rw [hF] at p1 p2 p3
      rw [ih, hbq j hle, mul_exactP p1 p2 p3, ← Nat.pow_add, ← hm]
    · rw [if_neg h1, ih]
      rw [show n / 2 ^ j % 2 = 0 by omega, Nat.mul_zero, Nat.add_zero] at hm
      rw [hm, Nat.add_zero]
/-- Pow of a whole number that isn't 0, to a whole number above 0. -/
theorem pow_exact {b n : Nat} (s : Bool) (hb0 : 1 ≤ b) (hb : b ≤ 128) (hn0 : 1 ≤ n) (hn : n ≤ 255) (h : b ^ n ≤ 9007199254740992) (w : World) : Calls Try.prog 30 #[.float .f64 (Ieee.double.word s (fl b)), .float .f64 (fl n)] w fun e w' => e = .returned (.float .f64 (Ieee.double.word (s && decide (n % 2 = 1)) (fl (b ^ n)))) ∧ w = w' := by
  obtain ⟨K, hK⟩ : ∃ K : Nat, K = 1074 := ⟨_, rfl⟩
  obtain ⟨y1, y2, y3, y4, y5⟩ := small_y ⟨n, by omega⟩
  dsimp only at y1 y2 y3 y4 y5
  obtain ⟨a1, a2⟩ := fl_big (N := b) (by omega) hK
  obtain ⟨x1, x2, x3⟩ := word_fin s a1
  obtain ⟨f1, f2, f3⟩ := fl_fin (N := n) (by omega) hK
  obtain ⟨g1, g2, g3⟩ := fl_fin (N := b) (by omega) hK
  obtain ⟨Q, _⟩ := pwq_of (a := fl b) n (by omega)
  have hb1 : 0 < fl b := fmag_pos.1 (by rw [a2]; exact Nat.mul_pos (by omega) (Nat.two_pow_pos K))
  have hn1 : rung (fl n) ≠ 0 := by
    have : 0 < fmag (rung (fl n)) := by
      have e : fmag (rung (fl n)) = mg (fl n) := rfl
      rw [e, f2]; exact Nat.mul_pos (by omega) (Nat.two_pow_pos K)
    have := fmag_pos.1 this
    omega
  obtain ⟨z1, z2, z3⟩ := pos_fin (v := fl b) a1
  have CM : AmtIs (rung (Ieee.double.word s (fl b))) (fl n) (fl (b ^ n)) := fun w => by
    have CS := Lib.hid (fun W => squared_any (fl b) n (by omega) Q W)
    rw [rq_is hb0 h 11, show n % 2 ^ 11 = n from Nat.mod_eq_of_lt (Nat.lt_of_le_of_lt hn (by decide))] at CS
    have hc : ∀ W : World, (convert 22 3 (.float .f64 (fl n))).run Try.prog W = .ok (.int .i64 (n : Nat)) W := fun W => by
      have := conv_sv f1 hK f2 (by omega) W
      rw [f3, if_neg (by simp)] at this
      exact this
    rw [x2]
    exact famount_pos (fl b) (fl n) n _ w (by omega) (by unfold finf; rw [z2]; exact decide_eq_false (by omega)) (by rw [ord_zero, z2]; exact decide_eq_false (by omega)) f1 y2 y1 y4 hc CS
  have hp := fPow_sign (x := Ieee.double.word s (fl b)) x1.1 (fnan_of x1) f1 hn1 (fun _ _ _ => y2) CM w
  have hr : fl (b ^ n) < 9223372036854775808 := by have := (fl_big h hK).1; omega
  have e : sgnd (Ieee.double.word s (fl b)) (fl n) (fl (b ^ n)) = Ieee.double.word (s && decide (n % 2 = 1)) (fl (b ^ n)) := by
    unfold sgnd
    rw [x3, y3]
    cases hs : (s && decide (n % 2 = 1))
    · rw [if_neg (by simp), word_false]
    · rw [if_pos rfl]
      have := neg_float false hr
      rw [word_false] at this
      exact this
  rw [e] at hp
  exact hp
theorem whole_pos {b n : Nat} (s : Bool) (B : Int) (hb0 : 1 ≤ b) (hb : b ≤ 128) (hn : n ≤ 255) (hX : floatOfInt .f64 B = Ieee.double.word s (fl b)) (w : World) : Calls Try.prog 9 #[.int .i8 B, .int .u8 (n : Nat)] w fun e w' => e = .returned (.bool true) ∧ w = w' := by
  obtain ⟨K, hK⟩ : ∃ K : Nat, K = 1074 := ⟨_, rfl⟩
  obtain ⟨y1, y2, y3, y4, y5⟩ := small_y ⟨n, by omega⟩
  dsimp only at y1 y2 y3 y4 y5
  refine whole_walk B n _ _ w hn hX y5 (fun i hi hj => ?_) (show big 4607182418800017408 = false by decide +kernel) (fun hj => ?_)
  · obtain ⟨h1, h2⟩ := exq_is s hb0 hb i hj
    obtain ⟨m1, m2, _⟩ := mul_words (s && decide (i % 2 = 1)) s h1 (show b ≤ 9007199254740992 by omega) hK
    have e : exq (Ieee.double.word s (fl b)) (i + 1) = mulF (exq (Ieee.double.word s (fl b)) i) (Ieee.double.word s (fl b)) := rfl
    rw [e, h2]
    exact ⟨m1, m2⟩
  · obtain ⟨h1, h2⟩ := exq_is s hb0 hb n hj
    obtain ⟨v1, v2⟩ := fl_big h1 hK
    rw [h2]
    have hreal : ∀ t : Bool, fnan (Ieee.double.word t (fl (b ^ n))) = false := fun t => fnan_of (word_fin t v1).1
    rcases Nat.eq_zero_or_pos n with h0 | h0
    · subst h0
      obtain ⟨a1, _⟩ := fl_big (N := b) (by omega) hK
      obtain ⟨x1, _, _⟩ := word_fin s a1
      refine ⟨4607182418800017408, fun W => fPow_zero _ _ _ W (Lib.hid (fun W => nabs_any _ W x1.1 (fnan_of x1))) (by decide +kernel), ?_⟩
      rw [Nat.pow_zero, show fl 1 = 4607182418800017408 by decide +kernel, show decide (0 % 2 = 1) = false by decide, Bool.and_false, word_false]
      exact eq_self (by decide)
    · exact ⟨_, fun W => pow_exact s hb0 hb h0 hn h1 W, eq_self (hreal _)⟩
theorem exq_nought : ∀ i, exq 0 (i + 1) = 0 := by
  intro i
  induction i with
  | zero => decide +kernel
  | succ i ih => show mulF (exq 0 (i + 1)) 0 = 0; rw [ih]; decide +kernel
theorem nat_pos {F : Nat} (h : 0 < F) : (0 : Int) < (F : Int) := by omega
set_option maxHeartbeats 1000000 in
theorem whole_zero {n : Nat} (hn : n ≤ 255) (w : World) : Calls Try.prog 9 #[.int .i8 0, .int .u8 (n : Nat)] w fun e w' => e = .returned (.bool true) ∧ w = w' := by
  obtain ⟨K, hK⟩ : ∃ K : Nat, K = 1074 := ⟨_, rfl⟩
  obtain ⟨y1, y2, y3, y4, y5⟩ := small_y ⟨n, by omega⟩
  dsimp only at y1 y2 y3 y4 y5
  have hX : floatOfInt .f64 0 = 0 := by decide +kernel
  obtain ⟨z1, z2, z3⟩ := pos_fin (v := 0) (by omega)
  refine whole_walk 0 n 0 _ w hn hX y5 (fun i _ _ => ?_) (by decide +kernel) (fun _ => ?_)
  · cases i with
    | zero => rw [exq_nought]; exact ⟨by decide +kernel, by omega⟩
    | succ i => rw [exq_nought, exq_nought]; exact ⟨by decide +kernel, by omega⟩
  · cases n with
    | zero => exact ⟨4607182418800017408, fun W => fPow_zero _ _ _ W (Lib.hid (fun W => nabs_any _ W z1.1 (fnan_of z1))) (by decide +kernel), by decide +kernel⟩
    | succ n =>
      obtain ⟨f1, f2, f3⟩ := fl_fin (N := n + 1) (by omega) hK
      have hn1 : 0 < rung (fl (n + 1)) := fmag_pos.1 (show 0 < mg (fl (n + 1)) by rw [f2]; exact Nat.mul_pos (by omega) (Nat.two_pow_pos K))
      have g3 : gt0 (fl (n + 1)) = true := by
        unfold gt0
        rw [(ord_real (fnan_of f1) (by decide)).1]
        have hpos : 0 < fl (n + 1) := Nat.pos_of_ne_zero (fun h => by rw [h] at hn1; exact absurd hn1 (by decide))
        have hlt := (fl_big (N := n + 1) (by omega) hK).1
        rw [(pos_rung (x := fl (n + 1)) (Nat.lt_trans hlt (by decide))).2.2, show frank 0 = 0 by decide]
        exact decide_eq_true (nat_pos hpos)
      have CM : AmtIs (rung 0) (fl (n + 1)) 0 := fun w => by
        have h := famount_zero 0 (fl (n + 1)) w (by omega) (by decide) (by decide +kernel)
        unfold endV at h
        rw [show eq1 0 = false by decide +kernel, show gt1 0 = false by decide +kernel, g3, if_neg (by simp), if_neg (by decide)] at h
        rw [z2]
        exact h
      refine ⟨0, fun W => ?_, by rw [exq_nought]; exact eq_self (by decide)⟩
      have hp := fPow_sign (x := 0) z1.1 (fnan_of z1) f1 (by omega) (fun h => by rw [z3] at h; cases h) CM W
      unfold sgnd at hp
      rw [z3, Bool.false_and, if_neg (by simp)] at hp
      exact hp
theorem whole_any (B : Int) (n : Nat) (w : World) (h1 : -128 ≤ B) (h2 : B < 128) (hn : n ≤ 255) : Calls Try.prog 9 #[.int .i8 B, .int .u8 (n : Nat)] w fun e w' => e = .returned (.bool true) ∧ Below w.heap.size w w' := by
  have key : Calls Try.prog 9 #[.int .i8 B, .int .u8 (n : Nat)] w fun e w' => e = .returned (.bool true) ∧ w = w' := by
    rcases Int.lt_trichotomy B 0 with h | h | h
    · obtain ⟨b, hb⟩ : ∃ b : Nat, B = -(b : Int) := ⟨B.natAbs, by omega⟩
      obtain ⟨_, s2⟩ := small_x ⟨b, by omega⟩
      dsimp only at s2
      rw [decide_eq_true (show 0 < b by omega)] at s2
      exact whole_pos (b := b) true B (by omega) (by omega) hn (by rw [hb]; exact s2) w
    · subst h; exact whole_zero hn w
    · obtain ⟨b, hb⟩ : ∃ b : Nat, B = (b : Int) := ⟨B.natAbs, by omega⟩
      obtain ⟨s1, _⟩ := small_x ⟨b, by omega⟩
      dsimp only at s1
      exact whole_pos (b := b) false B (by omega) (by omega) hn (by rw [hb, word_false]; exact s1) w
  exact key.mono fun e w' ⟨h, h'⟩ => ⟨h, by subst h'; exact Below.refl _ _⟩
end Go.Proofs.Ytbinpcoaghpcdaa
