/-
  Contracts of Exp of the program and of the reference.
-/
import Derived.Test.YtbinpcoaghpcdaaMb
namespace Go.Proofs.Ytbinpcoaghpcdaa
open Go.RowKit
def one : Nat := 4607182418800017408
/-- The sum of Exp, term by term. -/
def eS (r : Nat) : Nat → Nat
  | 0 => one
  | j + 1 => addF one (divF (mulF (eS r j) r) (fl (14 - j)))
set_option maxRecDepth 100000 in
set_option maxHeartbeats 1000000 in
theorem vExp_main (x t s k a b c r p u : Nat) (n : Int) (w : World)
    (e1 : fnan x = false) (g1 : (FloatKind.f64.format.order x 4649456441864749056 == some .gt) = false) (g2 : (FloatKind.f64.format.order x 13873145138068324352 == some .lt) = false)
    (m1 : Ieee.double.mul x 4609176140021203710 = some t) (m2 : Ieee.double.add t 4602678819172646912 = some s)
    (hf : fnan s = false) (hk : itg .down s = k)
    (m3 : Ieee.double.mul k 4604418534311723008 = some a) (m4 : Ieee.double.sub x a = some b) (m5 : Ieee.double.mul k 4461442080421002358 = some c) (m6 : Ieee.double.sub b c = some r)
    (hl : ∀ j, j < 14 → ∃ d q, Ieee.double.mul (eS r j) r = some d ∧ Ieee.double.div d (fl (14 - j)) = some q ∧ Ieee.double.add 4607182418800017408 q = some (eS r (j + 1)))
    (hp : eS r 14 = p) (hn : ∀ W : World, (convert 22 3 (.float .f64 k)).run Try.prog W = .ok (.int .i64 n) W)
    (C9 : RowKit.Hid (∀ W, Calls Try.prog 40 #[.float .f64 p, .int .i64 n] W fun e w' => e = .returned (.float .f64 u) ∧ W = w')) :
    Calls Try.prog 12 #[.float .f64 x] w fun e w' => e = .returned (.float .f64 u) ∧ w = w' := by
  have C1 := Lib.hid (fun W => isNaN_any x W)
  rw [e1] at C1
  have C2 := Lib.hid (fun W => Floor_real s W hf)
  rw [hk] at C2
  have C3 := Lib.hid (fun c W => of_any c W)
  have HL := Lib.hid hl
  have HP := Lib.hid hp
  have w1 := wMul m1
  have w2 := wAdd m2
  have w3 := wMul m3
  have w4 := wSub m4
  have w5 := wMul m5
  have w6 := wSub m6
  clear e1 m1 m2 hf hk m3 m4 m5 m6 hl hp
  go_enter Try.func12, Try.ntmps12
  go_wp2_with fail
  refine (C1.out _).mono ?_
  rintro e w' ⟨rfl, rfl⟩
  go_wp2_with fail
  refine (C3.out _ _).mono ?_
  rintro e w' ⟨rfl, rfl⟩
  go_wp2_with fail
  refine (C2.out _).mono ?_
  rintro e w' ⟨rfl, rfl⟩
  go_wp2_with fail
  refine (C3.out _ _).mono ?_
  rintro e w' ⟨rfl, rfl⟩
  go_wp2_with fail
  refine (C3.out _ _).mono ?_
  rintro e w' ⟨rfl, rfl⟩
  go_wp2_with fail
  go_loopw [5, 6] (fun v5 v6 wr => ∃ i : Nat, v5 = .float .f64 (eS r (14 - i)) ∧ v6 = .int .i64 (i : Nat) ∧ Hid (i ≤ 14) ∧ w = wr) (fun _ v6 _ => (intOf v6).toNat)
  case atStart => exact ⟨14, rfl, rfl, Lib.hid (Nat.le_refl _), rfl⟩
  case round =>
    obtain ⟨i, rfl, rfl, HI, rfl⟩ := hrel
    rcases Nat.eq_zero_or_pos i with h0 | h0
    · subst h0
      have hpp : eS r (14 - 0) = p := HP.out
      rw [hpp]
      go_wp2_with fail
      refine (C9.out _).mono ?_
      rintro e w' ⟨rfl, rfl⟩
      go_wp2
      go_ret
      exact ⟨rfl, rfl⟩
    · obtain ⟨j, hj⟩ : ∃ j, 14 - i = j := ⟨_, rfl⟩
      obtain ⟨d, q, d1, d2, d3⟩ := HL.out j (by have := HI.out; omega)
      rw [show 14 - j = i by have := HI.out; omega] at d2
      have d2' : Ieee.double.div d (floatOfInt .f64 (i : Nat)) = some q := d2
      obtain ⟨P, hP⟩ : ∃ P, eS r j = P := ⟨_, rfl⟩
      obtain ⟨P2, hP2⟩ : ∃ P2, eS r (j + 1) = P2 := ⟨_, rfl⟩
      rw [hj]
      rw [hP] at d1 ⊢
      rw [hP2] at d3
      have x1 := wMul d1
      have x2 := wDiv d2'
      have x3 := wAdd d3
      have t1 : decide (1 ≤ (i : Int)) = true := decide_eq_true (by omega)
      have k1 : IntKind.i64.wrap ((i : Int) - 1) = ((i - 1 : Nat) : Int) := by rw [IntWalk.i64_in _ (by have := HI.out; omega)]; omega
      obtain ⟨i2, hi2⟩ : ∃ i2, i - 1 = i2 := ⟨_, rfl⟩
      rw [hi2] at k1
      have hji : j + 1 = 14 - i2 := by have := HI.out; omega
      rw [hji] at hP2
      have H2 := Lib.hid (show eS r (14 - i2) = P2 ∧ i2 ≤ 14 ∧ i2 < i from ⟨hP2, by have := HI.out; omega, by omega⟩)
      clear d1 d2 d2' d3 hj hji hP hP2 hi2 h0
      go_wp2
      go_roundw
      case rel => exact ⟨i2, by rw [H2.out.1], rfl, Lib.hid H2.out.2.1, trivial⟩
      case measure => have := H2.out.2.2; simp [intOf]; omega
theorem nFloor_real {s k : Nat} (hf : fnan s = false) (hk : itg .down s = k) (hk2 : fnan k = false) (w : World) : Calls Try.prog 38 #[.float .f64 s] w fun e w' => e = .returned (.float .f64 k) ∧ w = w' := by
  have C1 := Lib.hid (Floor_real s w hf)
  have C2 := Lib.hid (told_any k w)
  rw [hk] at C1
  rw [show cn k = k from by unfold cn; rw [hk2]; rfl] at C2
  clear hf hk hk2
  go_enter Try.func38, Try.ntmps38
  go_wp2_with fail
  refine C1.out.mono ?_
  rintro e w' ⟨rfl, rfl⟩
  go_wp2_with fail
  refine C2.out.mono ?_
  rintro e w' ⟨rfl, rfl⟩
  go_wp2
  go_ret
  exact ⟨rfl, rfl⟩
set_option maxRecDepth 100000 in
set_option maxHeartbeats 1000000 in
theorem fExp_main (x t s k a b c r p u : Nat) (n : Int) (w : World)
    (e1 : fnan x = false) (g1 : (FloatKind.f64.format.order x 4649456441864749056 == some .gt) = false) (g2 : (FloatKind.f64.format.order x 13873145138068324352 == some .lt) = false)
    (m1 : Ieee.double.mul x 4609176140021203710 = some t) (m2 : Ieee.double.add t 4602678819172646912 = some s)
    (hf : fnan s = false) (hk2 : fnan k = false) (hk : itg .down s = k)
    (m3 : Ieee.double.mul k 4604418534311723008 = some a) (m4 : Ieee.double.sub x a = some b) (m5 : Ieee.double.mul k 4461442080421002358 = some c) (m6 : Ieee.double.sub b c = some r)
    (hl : ∀ j, j < 14 → ∃ d q, Ieee.double.mul (eS r j) r = some d ∧ Ieee.double.div d (fl (14 - j)) = some q ∧ Ieee.double.add 4607182418800017408 q = some (eS r (j + 1)))
    (hp : eS r 14 = p) (hn : ∀ W : World, (convert 22 3 (.float .f64 k)).run Try.prog W = .ok (.int .i64 n) W)
    (C9 : RowKit.Hid (∀ W, Calls Try.prog 40 #[.float .f64 p, .int .i64 n] W fun e w' => e = .returned (.float .f64 u) ∧ W = w')) :
    Calls Try.prog 11 #[.float .f64 x] w fun e w' => e = .returned (.float .f64 u) ∧ w = w' := by
  have C1 := Lib.hid (fun W => isNaN_any x W)
  rw [e1] at C1
  have C2 := Lib.hid (fun W => nFloor_real hf hk hk2 W)
  have C3 := Lib.hid (fun c W => const_any c W)
  have HL := Lib.hid hl
  have HP := Lib.hid hp
  have w1 := Lib.hid (fun W => times_any m1 W)
  have w2 := wAdd m2
  have w3 := Lib.hid (fun W => times_any m3 W)
  have w4 := wSub m4
  have w5 := Lib.hid (fun W => times_any m5 W)
  have w6 := wSub m6
  clear e1 m1 m2 hf hk hk2 m3 m4 m5 m6 hl hp
  go_enter Try.func11, Try.ntmps11
  go_wp2_with fail
  refine (C1.out _).mono ?_
  rintro e w' ⟨rfl, rfl⟩
  go_wp2_with fail
  refine (C3.out _ _).mono ?_
  rintro e w' ⟨rfl, rfl⟩
  go_wp2_with fail
  refine (w1.out _).mono ?_
  rintro e w' ⟨rfl, rfl⟩
  go_wp2_with fail
  refine (C2.out _).mono ?_
  rintro e w' ⟨rfl, rfl⟩
  go_wp2_with fail
  refine (C3.out _ _).mono ?_
  rintro e w' ⟨rfl, rfl⟩
  go_wp2_with fail
  refine (w3.out _).mono ?_
  rintro e w' ⟨rfl, rfl⟩
  go_wp2_with fail
  refine (C3.out _ _).mono ?_
  rintro e w' ⟨rfl, rfl⟩
  go_wp2_with fail
  refine (w5.out _).mono ?_
  rintro e w' ⟨rfl, rfl⟩
  go_wp2_with fail
  go_loopw [5, 6] (fun v5 v6 wr => ∃ i : Nat, v5 = .float .f64 (eS r (14 - i)) ∧ v6 = .int .i64 (i : Nat) ∧ Hid (i ≤ 14) ∧ w = wr) (fun _ v6 _ => (intOf v6).toNat)
  case atStart => exact ⟨14, rfl, rfl, Lib.hid (Nat.le_refl _), rfl⟩
  case round =>
    obtain ⟨i, rfl, rfl, HI, rfl⟩ := hrel
    rcases Nat.eq_zero_or_pos i with h0 | h0
    · subst h0
      have hpp : eS r (14 - 0) = p := HP.out
      rw [hpp]
      go_wp2_with fail
      refine (C9.out _).mono ?_
      rintro e w' ⟨rfl, rfl⟩
      go_wp2
      go_ret
      exact ⟨rfl, rfl⟩
    · obtain ⟨j, hj⟩ : ∃ j, 14 - i = j := ⟨_, rfl⟩
      obtain ⟨d, q, d1, d2, d3⟩ := HL.out j (by have := HI.out; omega)
      rw [show 14 - j = i by have := HI.out; omega] at d2
      have d2' : Ieee.double.div d (floatOfInt .f64 (i : Nat)) = some q := d2
      obtain ⟨P, hP⟩ : ∃ P, eS r j = P := ⟨_, rfl⟩
      obtain ⟨P2, hP2⟩ : ∃ P2, eS r (j + 1) = P2 := ⟨_, rfl⟩
      rw [hj]
      rw [hP] at d1 ⊢
      rw [hP2] at d3
      have x1 := Lib.hid (fun W => times_any d1 W)
      have x2 := wDiv d2'
      have x3 := wAdd d3
      have t1 : decide (1 ≤ (i : Int)) = true := decide_eq_true (by omega)
      have k1 : IntKind.i64.wrap ((i : Int) - 1) = ((i - 1 : Nat) : Int) := by rw [IntWalk.i64_in _ (by have := HI.out; omega)]; omega
      obtain ⟨i2, hi2⟩ : ∃ i2, i - 1 = i2 := ⟨_, rfl⟩
      rw [hi2] at k1
      have hji : j + 1 = 14 - i2 := by have := HI.out; omega
      rw [hji] at hP2
      have H2 := Lib.hid (show eS r (14 - i2) = P2 ∧ i2 ≤ 14 ∧ i2 < i from ⟨hP2, by have := HI.out; omega, by omega⟩)
      clear d1 d2 d2' d3 hj hji hP hP2 hi2 h0
      go_wp2_with fail
      refine (x1.out _).mono ?_
      rintro e w' ⟨rfl, rfl⟩
      go_wp2
      go_roundw
      case rel => exact ⟨i2, by rw [H2.out.1], rfl, Lib.hid H2.out.2.1, trivial⟩
      case measure => have := H2.out.2.2; simp [intOf]; omega
end Go.Proofs.Ytbinpcoaghpcdaa
