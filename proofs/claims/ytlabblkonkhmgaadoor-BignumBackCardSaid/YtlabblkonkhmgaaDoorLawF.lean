/-
  The law BignumFloats.
-/
import Derived.Test.YtlabblkonkhmgaaDoorMul
import Derived.Test.YtlabblkonkhmgaaDoorTold
import Derived.Test.YtlabblkonkhmgaaDoorRnear2
namespace Go.Proofs.YtlabblkonkhmgaaDoor
open Go.RowKit
/-- What Parts answers: a list, a power, an error. -/
def Three (S : List Nat) (N : Nat) (p er : Int) (w : World) (e : Ending) (w' : World) : Prop :=
  ∃ A c, e = .returned (.tuple #[.slice A N c, .int .i64 p, .int .i64 er]) ∧ (N ≤ c ∧ RW w' w'.heap.size A S) ∧ Below w.heap.size w w'
theorem Three.none (p er : Int) (w : World) : Three [] 0 p er w (.returned (.tuple #[.slice none 0 0, .int .i64 p, .int .i64 er])) w :=
  ⟨Option.none, 0, rfl, ⟨Nat.le_refl _, RW.nil _ _ _⟩, Below.refl _ _⟩
theorem parts_both (x : Nat) (hx : x < 18446744073709551616) : ∃ S N p er, S.length = N ∧ N ≤ 2 ∧ (∀ W, TzTab W → Calls Tryd.prog 13 #[.float .f64 x] W (Three S N p er W)) ∧ (∀ W, Calls Tryd.prog 14 #[.float .f64 x] W (Three S N p er W)) := by
  cases hb : fbad x
  · by_cases h0 : rung x = 0
    · exact ⟨[], 0, 0, 0, rfl, by omega, fun W _ => (pparts_zero x W hx hb h0).mono fun e w' ⟨he, hw⟩ => by subst he; subst hw; exact Three.none _ _ _, fun W => (rparts_zero x W hx hb h0).mono fun e w' ⟨he, hw⟩ => by subst he; subst hw; exact Three.none _ _ _⟩
    · obtain ⟨_, _, g3⟩ := fgood hx hb
      obtain ⟨_, g4, g5, g6⟩ := g3.resolve_left h0
      obtain ⟨f1, f2⟩ := fwhole_pos (x := x) (by omega)
      obtain ⟨k, m, hkm⟩ := odd_part _ f1
      have hml : 2 * m + 1 < 18446744073709551616 := by
        have h1 : 2 ^ k * (2 * m + 1) = fwhole x := by rw [hkm, Nat.pow_succ]; grind
        have h2 : 1 * (2 * m + 1) ≤ 2 ^ k * (2 * m + 1) := Nat.mul_le_mul_right _ (Nat.two_pow_pos k)
        omega
      have key : ∀ W e w', PartsP x W e w' → Three (wds (2 * m + 1)) (wds (2 * m + 1)).length (fpow x + (k : Nat)) 0 W e w' := by
        rintro W e w' ⟨k2, m2, A, n, c, hkm2, rfl, ⟨rfl, hc, hr⟩, hbw⟩
        obtain ⟨rfl, rfl⟩ := odd_one hkm hkm2 (by omega)
        exact ⟨A, c, rfl, ⟨hc, hr⟩, hbw⟩
      refine ⟨wds (2 * m + 1), _, fpow x + (k : Nat), 0, rfl, ?_, fun W hT => (pparts_ok x W hx hb (by omega) hT).mono fun e w' y => key W e w' y, fun W => (rparts_ok x W hx hb (by omega)).mono fun e w' y => key W e w' y⟩
      have := nrm_len (two (2 * m + 1))
      rw [two_wds' _ hml] at this
      exact this
  · exact ⟨[], 0, 0, 1, rfl, by omega, fun W _ => (pparts_bad x W hb).mono fun e w' ⟨he, hw⟩ => by subst he; subst hw; exact Three.none _ _ _, fun W => (rparts_bad x W hx hb).mono fun e w' ⟨he, hw⟩ => by subst he; subst hw; exact Three.none _ _ _⟩
set_option maxRecDepth 100000 in
set_option maxHeartbeats 2000000 in
theorem floats_any (A : Option Addr) (n c : Nat) (l : List Nat) (x : Nat) (w : World) (hn : l.length = n) (hc : n ≤ c) (hm : n ≤ 35184372087808) (h : RW w w.heap.size A l) (hx : x < 18446744073709551616) (ht : TzTab w) :
    Calls Tryd.prog 4 #[.slice A n c, .float .f64 x] w fun e w' => e = .returned (.bool true) ∧ Below w.heap.size w w' := by
  obtain ⟨S, N, p, er, hN, hN2, P1, P2⟩ := parts_both x hx
  have K1 := Lib.hid (P1 w ht)
  have K2 := Lib.hid P2
  have K3 := Lib.hid (fun W (hb : Below w.heap.size w W) => ownT A n c l W hn (by omega) (h.step hb))
  have K4 := Lib.hid (fun W A2 c2 (h2 : n ≤ c2) (r2 : RW W W.heap.size A2 l) => pfloat_any A2 n c2 l W hn h2 (by omega) r2)
  have K5 := Lib.hid (fun W (hb : Below w.heap.size w W) => rfloat_any A n c l W hn hc (by omega) (h.step hb))
  have K6 := Lib.hid (fun W A2 A3 c2 c3 (r2 : RW W W.heap.size A2 S) (r3 : RW W W.heap.size A3 S) => same_any A2 A3 N c2 c3 S W.heap.size W.heap.size W hN (by omega) r2 r3)
  obtain ⟨u, hu⟩ : ∃ u, fl (val l) = u := ⟨_, rfl⟩
  rw [hu] at K4 K5
  clear hn hc hm h hx ht hN hN2 P1 P2 hu
  go_enter Tryd.func4, Tryd.ntmps4
  go_wp2_with fail
  refine K1.out.mono ?_
  rintro e w1 ⟨A1, c1, rfl, ⟨hc1, r1⟩, b1⟩
  go_wp2_with fail
  refine (K2.out _).mono ?_
  rintro e w2 ⟨A2, c2, rfl, ⟨hc2, r2⟩, b2⟩
  have B2 := below_le b1 b2
  have R1 := r1.step b2
  clear r1 b1 b2
  go_wp2_with fail
  refine (K3.out _ B2).mono ?_
  rintro e w3 ⟨A3, c3, rfl, ⟨hc3, r3⟩, b3⟩
  have B3 := below_le B2 b3
  have R1 := R1.step b3
  have R2 := r2.step b3
  clear r2 b3
  go_wp2_with fail
  refine (K4.out _ _ _ hc3 r3).mono ?_
  rintro e w4 ⟨rfl, b4⟩
  have B4 := below_le B3 b4
  have R1 := R1.step b4
  have R2 := R2.step b4
  have X4 := f64bits_run u w4
  clear b4 r3 hc3
  go_wp2_with fail
  refine (K5.out _ B4).mono ?_
  rintro e w5 ⟨rfl, b5⟩
  have B5 := below_le B4 b5
  have R1 := R1.step b5
  have R2 := R2.step b5
  have X5 := f64bits_run u w5
  clear b5 X4
  go_wp2_with fail
  refine (K6.out _ _ _ _ _ R1 R2).mono ?_
  rintro e w' ⟨rfl, n6, rfl⟩
  have B6 := below_drewN' B5 n6
  clear R1 R2 hc1 hc2 X5
  go_wp2_with fail
  refine (awake_any _).mono ?_
  rintro e w7 ⟨rfl, b7⟩
  have B7 := below_le B6 b7
  go_wp2
  go_ret
  exact ⟨rfl, B7⟩
end Go.Proofs.YtlabblkonkhmgaaDoor
