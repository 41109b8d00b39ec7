/-
  The contract of math.Mod.
-/
import Derived.Test.YtbinpcoaghpcdaaFmod
namespace Go.Proofs.Ytbinpcoaghpcdaa
open Go.RowKit
theorem word_split (x : Nat) (hx : x < 18446744073709551616) : x = Ieee.double.word (fneg x) (rung x) := by
  unfold fneg rung
  by_cases h : x < 9223372036854775808
  · rw [Nat.div_eq_of_lt h, Nat.mod_eq_of_lt h]; rfl
  · rw [show x / 9223372036854775808 = 1 by omega]
    show x = 9223372036854775808 + x % 9223372036854775808
    omega
theorem word_rung (s : Bool) {r : Nat} (h : r < 9223372036854775808) : rung (Ieee.double.word s r) = r ∧ fneg (Ieee.double.word s r) = s ∧ Ieee.double.word s r < 18446744073709551616 := by
  cases s
  · rw [word_false]
    obtain ⟨a, b, _⟩ := pos_rung h
    exact ⟨a, b, by omega⟩
  · rw [word_true]
    unfold rung fneg
    refine ⟨by omega, ?_, by omega⟩
    rw [show (9223372036854775808 + r) / 9223372036854775808 = 1 by omega]; rfl
theorem neg_word (s : Bool) {r : Nat} (h : r < 9223372036854775808) : Ieee.double.word s r ^^^ 9223372036854775808 = Ieee.double.word (!s) r := by
  have key : ∀ b : Bool, Ieee.double.word b r = 2 ^ 63 * b.toNat + r := by
    intro b
    cases b
    · rw [word_false]; simp
    · rw [word_true]; rfl
  rw [key, key, show (9223372036854775808 : Nat) = 2 ^ 63 from rfl]
  apply Nat.eq_of_testBit_eq
  intro j
  rw [Nat.testBit_xor, Nat.testBit_two_pow, Nat.testBit_two_pow_mul_add _ h, Nat.testBit_two_pow_mul_add _ h]
  by_cases hj : j < 63
  · rw [if_pos hj, if_pos hj, decide_eq_false (by omega), Bool.xor_false]
  · rw [if_neg hj, if_neg hj]
    obtain ⟨i, rfl⟩ : ∃ i, j = 63 + i := ⟨j - 63, by omega⟩
    rw [Nat.add_sub_cancel_left]
    cases s
    · cases i with
      | zero => rfl
      | succ i => rw [decide_eq_false (by omega)]; simp [Nat.testBit_succ]
    · cases i with
      | zero => rfl
      | succ i => rw [decide_eq_false (by omega)]; simp [Nat.testBit_succ]
theorem neg_float (s : Bool) {r : Nat} (h : r < 9223372036854775808) : Op.negFloat .f64 (Ieee.double.word s r) = Ieee.double.word (!s) r := neg_word s h
/-- One round of Mod: how often the divisor, doubled, goes. -/
theorem mod_step {r y zr cr Mr kr zy cy My ky : Nat} (hr : r < 9218868437227405312) (hry : y ≤ r) (h0 : 0 < y) (nr : NF r zr cr Mr kr) (ny : NF y zy cy My ky) :
    ∃ D u s : Nat, (if Mr < My then (kr : Int) - 1021 - cr - 1 else (kr : Int) - 1021 - cr) - ((ky : Int) - 1021 - cy) = D ∧ u < 9218868437227405312 ∧ fmag u = fmag y * 2 ^ D ∧ Ieee.double.sub r u = some s ∧ s < r ∧ fmag s + fmag u = fmag r := by
  have r1 := nr.lo
  have r2 := nr.hi
  have r3 := nr.hc
  have y1 := ny.lo
  have y2 := ny.hi
  have y3 := ny.hc
  have hcr : cr ≤ 52 := by rcases nr.way with ⟨h1, _⟩ | ⟨h1, _⟩ <;> omega
  have hcy : cy ≤ 52 := by rcases ny.way with ⟨h1, _⟩ | ⟨h1, _⟩ <;> omega
  obtain ⟨a, ha⟩ : ∃ a, kr + 52 - cr = a := ⟨_, rfl⟩
  obtain ⟨b, hb⟩ : ∃ b, ky + 52 - cy = b := ⟨_, rfl⟩
  have R : fmag r * 2 ^ 52 = Mr * 2 ^ a := by
    rw [show (52 : Nat) = cr + (52 - cr) by omega, Nat.pow_add, ← Nat.mul_assoc, r3, Nat.mul_assoc, ← Nat.pow_add, show kr + (52 - cr) = a by omega]
  have Y : fmag y * 2 ^ 52 = My * 2 ^ b := by
    rw [show (52 : Nat) = cy + (52 - cy) by omega, Nat.pow_add, ← Nat.mul_assoc, y3, Nat.mul_assoc, ← Nat.pow_add, show ky + (52 - cy) = b by omega]
  have hyr : fmag y ≤ fmag r := by
    rcases Nat.eq_or_lt_of_le hry with h1 | h1
    · rw [h1]; exact Nat.le_refl _
    · exact Nat.le_of_lt (fmag_step h1)
  have YR : My * 2 ^ b ≤ Mr * 2 ^ a := by rw [← R, ← Y]; exact Nat.mul_le_mul_right _ hyr
  have hba : b ≤ a := by
    rcases Nat.lt_or_ge a b with h1 | h1
    · obtain ⟨d, rfl⟩ : ∃ d, b = a + 1 + d := ⟨b - a - 1, by omega⟩
      have h2 : My * 2 ^ (a + 1) ≤ My * 2 ^ (a + 1 + d) := Nat.mul_le_mul_left _ (Nat.pow_le_pow_right (by omega) (by omega))
      have h3 : My * 2 ^ (a + 1) = (2 * My) * 2 ^ a := by rw [Nat.pow_succ]; grind
      have h4 : Mr * 2 ^ a < (2 * My) * 2 ^ a := Nat.mul_lt_mul_of_pos_right (by omega) (Nat.two_pow_pos a)
      omega
    · exact h1
  obtain ⟨d, rfl⟩ : ∃ d, a = b + d := ⟨a - b, by omega⟩
  have key : ∃ D : Nat, (if Mr < My then (kr : Int) - 1021 - cr - 1 else (kr : Int) - 1021 - cr) - ((ky : Int) - 1021 - cy) = D ∧ My * 2 ^ b * 2 ^ D ≤ Mr * 2 ^ (b + d) ∧ Mr * 2 ^ (b + d) ≤ 2 * (My * 2 ^ b * 2 ^ D) := by
    by_cases hM : Mr < My
    · rw [if_pos hM]
      have hd : 0 < d := by
        rcases Nat.eq_zero_or_pos d with h1 | h1
        · subst h1
          have h4 : Mr * 2 ^ b < My * 2 ^ b := Nat.mul_lt_mul_of_pos_right hM (Nat.two_pow_pos b)
          rw [Nat.add_zero] at YR
          omega
        · exact h1
      obtain ⟨D, rfl⟩ : ∃ D, d = D + 1 := ⟨d - 1, by omega⟩
      refine ⟨D, by omega, ?_, ?_⟩
      · rw [Nat.mul_assoc, ← Nat.pow_add, ← Nat.add_assoc, Nat.pow_succ, Nat.mul_comm (2 ^ (b + D)) 2, ← Nat.mul_assoc]
        exact Nat.mul_le_mul_right _ (by omega)
      · rw [Nat.mul_assoc, ← Nat.pow_add, ← Nat.add_assoc, Nat.pow_succ, Nat.mul_comm (2 ^ (b + D)) 2, Nat.mul_left_comm]
        exact Nat.mul_le_mul_left _ (Nat.mul_le_mul_right _ (by omega))
    · rw [if_neg hM]
      refine ⟨d, by omega, ?_, ?_⟩
      · rw [Nat.mul_assoc, ← Nat.pow_add]
        exact Nat.mul_le_mul_right _ (by omega)
      · rw [Nat.mul_assoc, ← Nat.pow_add, ← Nat.mul_assoc]
        exact Nat.mul_le_mul_right _ (by omega)
  obtain ⟨D, k1, k2, k3⟩ := key
  have q2 : fmag y * 2 ^ D ≤ fmag r := by
    refine Nat.le_of_mul_le_mul_right ?_ (Nat.two_pow_pos 52)
    rw [R, Nat.mul_right_comm, Y]; exact k2
  have q3 : fmag r ≤ 2 * (fmag y * 2 ^ D) := by
    refine Nat.le_of_mul_le_mul_right ?_ (Nat.two_pow_pos 52)
    rw [R, Nat.mul_assoc, Nat.mul_right_comm, Y]; exact k3
  have hrep : ∃ u, fmag u = fmag y * 2 ^ D := by
    by_cases hy : y < 9007199254740992
    · exact rep_of (M := y) (j := D) (by rw [fmag_low hy]) hy
    · obtain ⟨M, e, a1, a2, a3, a4⟩ := fmag_split (r := y) (by omega)
      exact rep_of (M := M) (j := e + D) (by rw [a4, Nat.mul_assoc, ← Nat.pow_add]) a2
  obtain ⟨u, hu⟩ := hrep
  rw [← hu] at q2 q3
  obtain ⟨s, hs⟩ := rep_sub q2 q3
  have hur : u ≤ r := by
    rcases Nat.lt_or_ge r u with h1 | h1
    · have := fmag_step h1; omega
    · exact h1
  have hu0 : 0 < fmag u := by rw [hu]; exact Nat.mul_pos (fmag_pos.2 h0) (Nat.two_pow_pos D)
  exact ⟨D, u, s, k1, by omega, hu, sub_exact hr (by omega) hs, fmag_lt.1 (by omega), by omega⟩
def fOf : Value → Nat
  | .float _ n => n
  | _ => 0
theorem order_ge {x y : Nat} (hx : x ≤ 9218868437227405312) (hy : y ≤ 9218868437227405312) : Ieee.double.order x y = some (compare (x : Int) (y : Int)) := by
  obtain ⟨a1, _, a3⟩ := pos_rung (x := x) (by omega)
  obtain ⟨b1, _, b3⟩ := pos_rung (x := y) (by omega)
  rw [order_eq (by omega) (by omega), a3, b3]
theorem rep_mod (a : Nat) {Y : Nat} (hY : 0 < Y) : ∃ s, fmag s = fmag a % fmag Y := by
  have hp := fmag_pos.2 hY
  have hm := Nat.mod_lt (fmag a) hp
  rcases Nat.lt_or_ge a Y with h | h
  · exact ⟨a, (Nat.mod_eq_of_lt (fmag_step h)).symm⟩
  · by_cases hl : Y < 4503599627370496
    · have h1 := fmag_low (r := Y) (by omega)
      exact rep_of (M := fmag a % fmag Y) (j := 0) (by rw [Nat.pow_zero, Nat.mul_one]) (by omega)
    · obtain ⟨M, d, a1, a2, a3, a4⟩ := fmag_split (r := Y) (by omega)
      obtain ⟨K, c, b1, b2, b3, b4⟩ := fmag_split (r := a) (by omega)
      obtain ⟨q, rfl⟩ : ∃ q, c = q + d := ⟨c - d, by omega⟩
      refine rep_of (M := K * 2 ^ q % M) (j := d) ?_ (Nat.lt_trans (Nat.mod_lt _ (by omega)) a2)
      rw [a4, b4, Nat.pow_add, ← Nat.mul_assoc, Nat.mul_mod_mul_right]
/-- The amount that is left. -/
noncomputable def modm (a Y : Nat) : Nat := if h : 0 < Y then Classical.choose (rep_mod a h) else 0
theorem modm_spec (a : Nat) {Y : Nat} (h : 0 < Y) : fmag (modm a Y) = fmag a % fmag Y := by
  unfold modm
  rw [dif_pos h]
  exact Classical.choose_spec (rep_mod a h)
theorem modm_lt (a : Nat) {Y : Nat} (h : 0 < Y) : modm a Y < Y := fmag_lt.1 (by rw [modm_spec a h]; exact Nat.mod_lt _ (fmag_pos.2 h))
theorem modm_eq {a Y s : Nat} (h : 0 < Y) (hs : fmag s = fmag a % fmag Y) : s = modm a Y := fmag_inj (by rw [hs, modm_spec a h])
set_option maxRecDepth 100000 in
set_option maxHeartbeats 1000000 in
theorem mod_pos {a Y zy cy My ky : Nat} (y : Nat) (ha : 0 < a) (ha2 : a < 9218868437227405312) (hy64 : y < 18446744073709551616) (hyr : rung y = Y) (hY : 0 < Y) (hY2 : Y < 9218868437227405312) (ny : NF Y zy cy My ky) (w : World) :
    Calls Try.prog 118 #[.float .f64 a, .float .f64 y] w fun e w' => (∃ s, e = .returned (.float .f64 s) ∧ s < Y ∧ fmag s = fmag a % fmag Y) ∧ w = w' := by
  obtain ⟨p1, p2, p3⟩ := pos_rung (x := a) (by omega)
  have C1 := Lib.hid (fun W => isNaN_any a W)
  have C2 := Lib.hid (fun W => isInf0_any a W (by omega))
  have C3 := Lib.hid (fun W => isNaN_any y W)
  have C4 := Lib.hid (fun W => abs_any y W hy64)
  rw [show fnan a = false from by unfold fnan; rw [p1]; exact decide_eq_false (by omega)] at C1
  rw [show finf a = false from by unfold finf; rw [p1]; exact decide_eq_false (by omega)] at C2
  rw [show fnan y = false from by unfold fnan; rw [hyr]; exact decide_eq_false (by omega)] at C3
  rw [hyr] at C4
  have C5 := Lib.hid (fun W => Frexp_any hY hY2 ny W)
  have h1 := ord_zero y
  rw [hyr, decide_eq_false (by omega)] at h1
  have h2 := ord_below a
  rw [p2, Bool.false_and, Bool.and_false] at h2
  have C6 := Lib.hid (fun (r : Nat) (h : 0 < r) (h' : r < 9218868437227405312) => nf_of h h')
  have HY := Lib.hid hY
  have HY2 := Lib.hid hY2
  have NY := Lib.hid ny
  obtain ⟨ey, hey⟩ : ∃ ey, (ky : Int) - 1021 - (cy : Int) = ey := ⟨_, rfl⟩
  rw [hey] at C5
  have HE := Lib.hid hey
  clear hey ha hy64 hyr hY hY2 ny p1 p2 p3
  go_enter Try.func118, Try.ntmps118
  go_wp2_with fail
  refine (C2.out _).mono ?_
  rintro e w' ⟨rfl, rfl⟩
  go_wp2_with fail
  refine (C1.out _).mono ?_
  rintro e w' ⟨rfl, rfl⟩
  go_wp2_with fail
  refine (C3.out _).mono ?_
  rintro e w' ⟨rfl, rfl⟩
  go_wp2_with fail
  refine (C4.out _).mono ?_
  rintro e w' ⟨rfl, rfl⟩
  go_wp2_with fail
  refine (C5.out _).mono ?_
  rintro e w' ⟨rfl, rfl⟩
  go_wp2
  go_loopw [7] (fun rv wr => ∃ u : Nat, rv = .float .f64 u ∧ Hid (u < 9218868437227405312 ∧ fmag u % fmag Y = fmag a % fmag Y) ∧ w = wr) (fun rv _ => fOf rv)
  case atStart => exact ⟨a, rfl, Lib.hid ⟨ha2, rfl⟩, rfl⟩
  case round =>
    obtain ⟨u, rfl, HU, rfl⟩ := hrel
    by_cases hge : Y ≤ u
    · have hu2 := HU.out.1
      have hu0 : 0 < u := by have := HY.out; omega
      obtain ⟨zr, cr, Mr, kr, nr⟩ := C6.out u hu0 hu2
      obtain ⟨D, v, s, d1, d2, d3, d4, d5, d6⟩ := mod_step hu2 hge HY.out nr NY.out
      have C7 := Lib.hid (fun W => Frexp_any hu0 hu2 nr W)
      have C8 := Lib.hid (fun W => Ldexp_rep HY.out HY2.out d2 d3 W)
      have HS := Lib.hid (show s < 9218868437227405312 ∧ fmag s % fmag Y = fmag a % fmag Y ∧ s < u from ⟨by omega, by
        rw [← HU.out.2, ← d6, d3, Nat.add_mul_mod_self_left], d5⟩)
      have h11 : (binOp BinOp.sub 22 (.float .f64 u) (.float .f64 v)).run Try.prog w = .ok (.float .f64 s) w := run_float_arith _ _ _ _ _ _ _ d4
      have r1 := nr.lo
      have r2 := nr.hi
      have r3 := nr.top
      have r4 := nr.hz
      have y1 := NY.out.lo
      have y2 := NY.out.hi
      have y3 := NY.out.top
      have y4 := NY.out.hz
      have hcr : cr ≤ 52 := by rcases nr.way with ⟨h1, _⟩ | ⟨h1, _⟩ <;> omega
      have hcy : cy ≤ 52 := by rcases NY.out.way with ⟨h1, _⟩ | ⟨h1, _⟩ <;> omega
      have hge2 : (FloatKind.f64.format.order u Y == some .gt || FloatKind.f64.format.order u Y == some .eq) = true := by
        rw [show FloatKind.f64.format.order u Y = some (compare (u : Int) (Y : Int)) from order_ge (by omega) (by have := HY2.out; omega), cmp_gt, cmp_eq]
        simp; omega
      have hlt2 : (FloatKind.f64.format.order (4598175219545276416 + Mr) (4598175219545276416 + My) == some .lt) = decide (Mr < My) := by
        rw [ord_lt (by omega) (by omega)]; simp
      by_cases hM : Mr < My
      · rw [if_pos hM] at d1
        rw [decide_eq_true hM] at hlt2
        have he := HE.out
        obtain ⟨X1, hX1⟩ : ∃ X1, (kr : Int) - 1021 - (cr : Int) = X1 := ⟨_, rfl⟩
        obtain ⟨X3, hX3⟩ : ∃ X3, X1 - 1 = X3 := ⟨_, rfl⟩
        have k1 : IntKind.i64.wrap (X1 - 1) = X3 := by rw [IntWalk.i64_in _ (by omega)]; exact hX3
        have k2 : IntKind.i64.wrap (X3 - ey) = (D : Int) := by rw [IntWalk.i64_in _ (by omega)]; omega
        rw [hX1] at C7
        clear he
        clear hu2 hu0 nr d1 d2 d3 d4 d5 d6 r1 r2 r3 r4 y1 y2 y3 y4 hcr hcy hge hM hX1 hX3 C6 C5 C4 C3 C2 C1
        go_wp2_with fail
        refine (C7.out _).mono ?_
        rintro e w' ⟨rfl, rfl⟩
        go_wp2_with fail
        refine (C8.out _).mono ?_
        rintro e w' ⟨rfl, rfl⟩
        go_wp2
        go_roundw
        case rel => exact ⟨s, rfl, Lib.hid ⟨HS.out.1, HS.out.2.1⟩, trivial⟩
        case measure => exact HS.out.2.2
      · rw [if_neg hM] at d1
        rw [decide_eq_false hM] at hlt2
        have k2 : IntKind.i64.wrap ((kr : Int) - 1021 - (cr : Int) - ey) = (D : Int) := by rw [← HE.out, IntWalk.i64_in _ (by omega)]; exact d1
        obtain ⟨X1, hX1⟩ : ∃ X1, (kr : Int) - 1021 - (cr : Int) = X1 := ⟨_, rfl⟩
        rw [hX1] at k2 C7
        clear hu2 hu0 nr d1 d2 d3 d4 d5 d6 r1 r2 r3 r4 y1 y2 y3 y4 hcr hcy hge hM hX1 C6 C5 C4 C3 C2 C1
        go_wp2_with fail
        refine (C7.out _).mono ?_
        rintro e w' ⟨rfl, rfl⟩
        go_wp2_with fail
        refine (C8.out _).mono ?_
        rintro e w' ⟨rfl, rfl⟩
        go_wp2
        go_roundw
        case rel => exact ⟨s, rfl, Lib.hid ⟨HS.out.1, HS.out.2.1⟩, trivial⟩
        case measure => exact HS.out.2.2
    · have hu2 := HU.out.1
      have hge2 : (FloatKind.f64.format.order u Y == some .gt || FloatKind.f64.format.order u Y == some .eq) = false := by
        rw [show FloatKind.f64.format.order u Y = some (compare (u : Int) (Y : Int)) from order_ge (by omega) (by have := HY2.out; omega), cmp_gt, cmp_eq]
        simp; omega
      have HF := Lib.hid (show u < Y ∧ fmag u = fmag a % fmag Y from ⟨by omega, by
        rw [← HU.out.2]; exact (Nat.mod_eq_of_lt (fmag_step (by omega))).symm⟩)
      clear hge hu2 C6 C5 C4 C3 C2 C1
      go_wp2
      go_ret
      exact ⟨⟨u, rfl, HF.out⟩, rfl⟩
set_option maxRecDepth 100000 in
set_option maxHeartbeats 1000000 in
theorem mod_neg {a Y zy cy My ky : Nat} (x y : Nat) (hx64 : x < 18446744073709551616) (hxs : fneg x = true) (hxa : rung x = a) (hxn : Op.negFloat .f64 x = a) (ha : 0 < a) (ha2 : a < 9218868437227405312) (hy64 : y < 18446744073709551616) (hyr : rung y = Y) (hY : 0 < Y) (hY2 : Y < 9218868437227405312) (ny : NF Y zy cy My ky) (w : World) :
    Calls Try.prog 118 #[.float .f64 x, .float .f64 y] w fun e w' => (∃ s, e = .returned (.float .f64 (Op.negFloat .f64 s)) ∧ s < Y ∧ fmag s = fmag a % fmag Y) ∧ w = w' := by
  have C1 := Lib.hid (fun W => isNaN_any x W)
  have C2 := Lib.hid (fun W => isInf0_any x W hx64)
  have C3 := Lib.hid (fun W => isNaN_any y W)
  have C4 := Lib.hid (fun W => abs_any y W hy64)
  rw [show fnan x = false from by unfold fnan; rw [hxa]; exact decide_eq_false (by omega)] at C1
  rw [show finf x = false from by unfold finf; rw [hxa]; exact decide_eq_false (by omega)] at C2
  rw [show fnan y = false from by unfold fnan; rw [hyr]; exact decide_eq_false (by omega)] at C3
  rw [hyr] at C4
  have C5 := Lib.hid (fun W => Frexp_any hY hY2 ny W)
  have h1 := ord_zero y
  rw [hyr, decide_eq_false (by omega)] at h1
  have h2 := ord_below x
  rw [hxs, show fnan x = false from by unfold fnan; rw [hxa]; exact decide_eq_false (by omega), hxa, decide_eq_true ha] at h2
  simp only [Bool.not_false, Bool.true_and] at h2
  have C6 := Lib.hid (fun (r : Nat) (h : 0 < r) (h' : r < 9218868437227405312) => nf_of h h')
  have HY := Lib.hid hY
  have HY2 := Lib.hid hY2
  have NY := Lib.hid ny
  obtain ⟨ey, hey⟩ : ∃ ey, (ky : Int) - 1021 - (cy : Int) = ey := ⟨_, rfl⟩
  rw [hey] at C5
  have HE := Lib.hid hey
  have hn1 : (Op.unary UnOp.neg (.float .f64 x)).run Try.prog w = .ok (.float .f64 a) w := by rw [← hxn]; rfl
  clear hey hxn ha hy64 hyr hY hY2 ny hx64 hxs hxa
  go_enter Try.func118, Try.ntmps118
  go_wp2_with fail
  refine (C2.out _).mono ?_
  rintro e w' ⟨rfl, rfl⟩
  go_wp2_with fail
  refine (C1.out _).mono ?_
  rintro e w' ⟨rfl, rfl⟩
  go_wp2_with fail
  refine (C3.out _).mono ?_
  rintro e w' ⟨rfl, rfl⟩
  go_wp2_with fail
  refine (C4.out _).mono ?_
  rintro e w' ⟨rfl, rfl⟩
  go_wp2_with fail
  refine (C5.out _).mono ?_
  rintro e w' ⟨rfl, rfl⟩
  go_wp2
  go_loopw [7] (fun rv wr => ∃ u : Nat, rv = .float .f64 u ∧ Hid (u < 9218868437227405312 ∧ fmag u % fmag Y = fmag a % fmag Y) ∧ w = wr) (fun rv _ => fOf rv)
  case atStart => exact ⟨a, rfl, Lib.hid ⟨ha2, rfl⟩, rfl⟩
  case round =>
    obtain ⟨u, rfl, HU, rfl⟩ := hrel
    by_cases hge : Y ≤ u
    · have hu2 := HU.out.1
      have hu0 : 0 < u := by have := HY.out; omega
      obtain ⟨zr, cr, Mr, kr, nr⟩ := C6.out u hu0 hu2
      obtain ⟨D, v, s, d1, d2, d3, d4, d5, d6⟩ := mod_step hu2 hge HY.out nr NY.out
      have C7 := Lib.hid (fun W => Frexp_any hu0 hu2 nr W)
      have C8 := Lib.hid (fun W => Ldexp_rep HY.out HY2.out d2 d3 W)
      have HS := Lib.hid (show s < 9218868437227405312 ∧ fmag s % fmag Y = fmag a % fmag Y ∧ s < u from ⟨by omega, by
        rw [← HU.out.2, ← d6, d3, Nat.add_mul_mod_self_left], d5⟩)
      have h11 : (binOp BinOp.sub 22 (.float .f64 u) (.float .f64 v)).run Try.prog w = .ok (.float .f64 s) w := run_float_arith _ _ _ _ _ _ _ d4
      have r1 := nr.lo
      have r2 := nr.hi
      have r3 := nr.top
      have r4 := nr.hz
      have y1 := NY.out.lo
      have y2 := NY.out.hi
      have y3 := NY.out.top
      have y4 := NY.out.hz
      have hcr : cr ≤ 52 := by rcases nr.way with ⟨h1, _⟩ | ⟨h1, _⟩ <;> omega
      have hcy : cy ≤ 52 := by rcases NY.out.way with ⟨h1, _⟩ | ⟨h1, _⟩ <;> omega
      have hge2 : (FloatKind.f64.format.order u Y == some .gt || FloatKind.f64.format.order u Y == some .eq) = true := by
        rw [show FloatKind.f64.format.order u Y = some (compare (u : Int) (Y : Int)) from order_ge (by omega) (by have := HY2.out; omega), cmp_gt, cmp_eq]
        simp; omega
      have hlt2 : (FloatKind.f64.format.order (4598175219545276416 + Mr) (4598175219545276416 + My) == some .lt) = decide (Mr < My) := by
        rw [ord_lt (by omega) (by omega)]; simp
      by_cases hM : Mr < My
      · rw [if_pos hM] at d1
        rw [decide_eq_true hM] at hlt2
        have he := HE.out
        obtain ⟨X1, hX1⟩ : ∃ X1, (kr : Int) - 1021 - (cr : Int) = X1 := ⟨_, rfl⟩
        obtain ⟨X3, hX3⟩ : ∃ X3, X1 - 1 = X3 := ⟨_, rfl⟩
        have k1 : IntKind.i64.wrap (X1 - 1) = X3 := by rw [IntWalk.i64_in _ (by omega)]; exact hX3
        have k2 : IntKind.i64.wrap (X3 - ey) = (D : Int) := by rw [IntWalk.i64_in _ (by omega)]; omega
        rw [hX1] at C7
        clear he
        clear hu2 hu0 nr d1 d2 d3 d4 d5 d6 r1 r2 r3 r4 y1 y2 y3 y4 hcr hcy hge hM hX1 hX3 C6 C5 C4 C3 C2 C1
        go_wp2_with fail
        refine (C7.out _).mono ?_
        rintro e w' ⟨rfl, rfl⟩
        go_wp2_with fail
        refine (C8.out _).mono ?_
        rintro e w' ⟨rfl, rfl⟩
        go_wp2
        go_roundw
        case rel => exact ⟨s, rfl, Lib.hid ⟨HS.out.1, HS.out.2.1⟩, trivial⟩
        case measure => exact HS.out.2.2
      · rw [if_neg hM] at d1
        rw [decide_eq_false hM] at hlt2
        have k2 : IntKind.i64.wrap ((kr : Int) - 1021 - (cr : Int) - ey) = (D : Int) := by rw [← HE.out, IntWalk.i64_in _ (by omega)]; exact d1
        obtain ⟨X1, hX1⟩ : ∃ X1, (kr : Int) - 1021 - (cr : Int) = X1 := ⟨_, rfl⟩
        rw [hX1] at k2 C7
        clear hu2 hu0 nr d1 d2 d3 d4 d5 d6 r1 r2 r3 r4 y1 y2 y3 y4 hcr hcy hge hM hX1 C6 C5 C4 C3 C2 C1
        go_wp2_with fail
        refine (C7.out _).mono ?_
        rintro e w' ⟨rfl, rfl⟩
        go_wp2_with fail
        refine (C8.out _).mono ?_
        rintro e w' ⟨rfl, rfl⟩
        go_wp2
        go_roundw
        case rel => exact ⟨s, rfl, Lib.hid ⟨HS.out.1, HS.out.2.1⟩, trivial⟩
        case measure => exact HS.out.2.2
    · have hu2 := HU.out.1
      have hge2 : (FloatKind.f64.format.order u Y == some .gt || FloatKind.f64.format.order u Y == some .eq) = false := by
        rw [show FloatKind.f64.format.order u Y = some (compare (u : Int) (Y : Int)) from order_ge (by omega) (by have := HY2.out; omega), cmp_gt, cmp_eq]
        simp; omega
      have HF := Lib.hid (show u < Y ∧ fmag u = fmag a % fmag Y from ⟨by omega, by
        rw [← HU.out.2]; exact (Nat.mod_eq_of_lt (fmag_step (by omega))).symm⟩)
      have hn2 : (Op.unary UnOp.neg (.float .f64 u)).run Try.prog w = .ok (.float .f64 (Op.negFloat .f64 u)) w := rfl
      clear hge hu2 C6 C5 C4 C3 C2 C1
      go_wp2
      go_ret
      exact ⟨⟨u, rfl, HF.out⟩, rfl⟩
set_option maxHeartbeats 1000000 in
theorem mod_zero (x y : Nat) (hx : x < 18446744073709551616) (h0 : rung x = 0) (hy64 : y < 18446744073709551616) (hY : 0 < rung y) (hY2 : rung y < 9218868437227405312) (w : World) :
    Calls Try.prog 118 #[.float .f64 x, .float .f64 y] w fun e w' => e = .returned (.float .f64 x) ∧ w = w' := by
  obtain ⟨zy, cy, My, ky, ny⟩ := nf_of hY hY2
  have C1 := Lib.hid (fun W => isNaN_any x W)
  have C2 := Lib.hid (fun W => isInf0_any x W hx)
  have C3 := Lib.hid (fun W => isNaN_any y W)
  have C4 := Lib.hid (fun W => abs_any y W hy64)
  rw [show fnan x = false from by unfold fnan; rw [h0]; rfl] at C1
  rw [show finf x = false from by unfold finf; rw [h0]; rfl] at C2
  rw [show fnan y = false from by unfold fnan; exact decide_eq_false (by omega)] at C3
  have C5 := Lib.hid (fun W => Frexp_any hY hY2 ny W)
  have h1 := ord_zero y
  rw [decide_eq_false (by omega)] at h1
  have h2 := ord_below x
  rw [h0, decide_eq_false (by omega), Bool.and_false, Bool.and_false] at h2
  have h3 : (FloatKind.f64.format.order x (rung y) == some .gt || FloatKind.f64.format.order x (rung y) == some .eq) = false := by
    have e1 : frank x = 0 := by unfold frank; rw [h0]; simp
    obtain ⟨_, _, e3⟩ := pos_rung (x := rung y) (by omega)
    obtain ⟨e4, e5⟩ := rung_rung y
    rw [show FloatKind.f64.format.order x (rung y) = some (compare (frank x) (frank (rung y))) from order_eq (by omega) (by omega), cmp_gt, cmp_eq, e1, e3]
    simp; omega
  obtain ⟨Y, hYY⟩ : ∃ Y, rung y = Y := ⟨_, rfl⟩
  rw [hYY] at C4 C5 h3
  clear hx h0 hy64 hY hY2 ny hYY
  go_enter Try.func118, Try.ntmps118
  go_wp2_with fail
  refine (C2.out _).mono ?_
  rintro e w' ⟨rfl, rfl⟩
  go_wp2_with fail
  refine (C1.out _).mono ?_
  rintro e w' ⟨rfl, rfl⟩
  go_wp2_with fail
  refine (C3.out _).mono ?_
  rintro e w' ⟨rfl, rfl⟩
  go_wp2_with fail
  refine (C4.out _).mono ?_
  rintro e w' ⟨rfl, rfl⟩
  go_wp2_with fail
  refine (C5.out _).mono ?_
  rintro e w' ⟨rfl, rfl⟩
  go_wp2
  go_loopw [7] (fun rv wr => rv = .float .f64 x ∧ w = wr) (fun rv _ => fOf rv)
  case atStart => exact ⟨rfl, rfl⟩
  case round =>
    obtain ⟨rfl, rfl⟩ := hrel
    go_wp2
    go_ret
    exact ⟨rfl, rfl⟩
/-- Mod of finite floats, the second none of the noughts. -/
theorem mod_fin (x y : Nat) (hx : x < 18446744073709551616) (hx2 : rung x < 9218868437227405312) (hy : y < 18446744073709551616) (hY : 0 < rung y) (hY2 : rung y < 9218868437227405312) (w : World) :
    Calls Try.prog 118 #[.float .f64 x, .float .f64 y] w fun e w' => e = .returned (.float .f64 (Ieee.double.word (fneg x) (modm (rung x) (rung y)))) ∧ w = w' := by
  rcases Nat.eq_zero_or_pos (rung x) with h0 | h0
  · have h1 : modm (rung x) (rung y) = rung x := (modm_eq hY (by rw [h0, fmag_zero, Nat.zero_mod])).symm
    rw [h1, ← word_split x hx]
    exact mod_zero x y hx h0 hy hY hY2 w
  · obtain ⟨zy, cy, My, ky, ny⟩ := nf_of hY hY2
    cases hs : fneg x
    · have hxa : rung x = x := by have := word_split x hx; rw [hs, word_false] at this; exact this.symm
      rw [hxa] at h0 hx2 ⊢
      refine (mod_pos y h0 hx2 hy rfl hY hY2 ny w).mono fun e w' ⟨⟨s, h1, h2, h3⟩, h4⟩ => ⟨?_, h4⟩
      rw [h1, modm_eq hY h3]; rfl
    · refine (mod_neg x y hx hs rfl ?_ h0 hx2 hy rfl hY hY2 ny w).mono fun e w' ⟨⟨s, h1, h2, h3⟩, h4⟩ => ⟨?_, h4⟩
      · have h1 := word_split x hx
        conv => lhs; rw [h1, hs]
        rw [neg_float true (by omega)]; rfl
      · rw [h1, modm_eq hY h3, ← word_false (modm (rung x) (rung y)), neg_float false (by have := modm_lt (rung x) hY; omega)]; rfl
set_option maxHeartbeats 1000000 in
theorem Mod_fin (x y : Nat) (hx : x < 18446744073709551616) (hx2 : rung x < 9218868437227405312) (hy : y < 18446744073709551616) (hY : 0 < rung y) (hY2 : rung y < 9218868437227405312) (w : World) :
    Calls Try.prog 113 #[.float .f64 x, .float .f64 y] w fun e w' => e = .returned (.float .f64 (Ieee.double.word (fneg x) (modm (rung x) (rung y)))) ∧ w = w' := by
  have C := Lib.hid (mod_fin x y hx hx2 hy hY hY2 w)
  clear hx hx2 hy hY hY2
  go_enter Try.func113, Try.ntmps113
  go_wp2_with fail
  refine C.out.mono ?_
  rintro e w' ⟨rfl, rfl⟩
  go_wp2
  go_ret
  exact ⟨rfl, rfl⟩

end Go.Proofs.Ytbinpcoaghpcdaa
