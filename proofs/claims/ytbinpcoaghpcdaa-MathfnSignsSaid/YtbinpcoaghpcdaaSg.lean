/-
  The law MathfnSigns.
-/
import Derived.Test.YtbinpcoaghpcdaaAw
namespace Go.Proofs.Ytbinpcoaghpcdaa
open Go.RowKit
theorem neg_parts {x : Nat} (h : x < 18446744073709551616) : Op.negFloat .f64 x = Ieee.double.word (!fneg x) (rung x) ∧ Op.negFloat .f64 x < 18446744073709551616 ∧ rung (Op.negFloat .f64 x) = rung x ∧ fneg (Op.negFloat .f64 x) = !fneg x := by
  have hr : rung x < 9223372036854775808 := Nat.mod_lt _ (by omega)
  have h1 := neg_float (fneg x) hr
  rw [word_self h] at h1
  obtain ⟨a, b, c⟩ := word_rung (!fneg x) hr
  rw [h1]
  exact ⟨rfl, c, a, b⟩
theorem word_neg (s : Bool) {v : Nat} : Op.negFloat .f64 (Ieee.double.word s (rung v)) = Ieee.double.word (!s) (rung v) := neg_float s (Nat.mod_lt _ (by omega))
theorem atU_neg {x : Nat} (hx : x < 18446744073709551616) (nx : fnan x = false) : atU (Op.negFloat .f64 x) = Op.negFloat .f64 (atU x) := by
  obtain ⟨_, b, c, d⟩ := neg_parts hx
  have n2 : fnan (Op.negFloat .f64 x) = false := by unfold fnan at nx ⊢; rw [c]; exact nx
  unfold atU
  rw [n2, nx, c, d]
  simp only [Bool.false_eq_true, if_false]
  by_cases h : rung x = 0
  · rw [if_pos h, if_pos h]
  · rw [if_neg h, if_neg h, word_neg]
theorem a2U_neg {y x : Nat} (hy : y < 18446744073709551616) (ny : fnan y = false) (nx : fnan x = false) : a2U (Op.negFloat .f64 y) x = Op.negFloat .f64 (a2U y x) := by
  obtain ⟨_, b, c, d⟩ := neg_parts hy
  have n2 : fnan (Op.negFloat .f64 y) = false := by unfold fnan at ny ⊢; rw [c]; exact ny
  unfold a2U
  rw [n2, ny, nx, c, d, if_neg (by simp), if_neg (by simp), word_neg]
theorem a2U_real {y x : Nat} (ny : fnan y = false) (nx : fnan x = false) : rung (a2U y x) ≤ 4614256656552045848 ∧ fnan (a2U y x) = false := by
  have h := (abV_le (fneg x) (rung_real ny) (rung_real nx)).2
  have hr : rung (a2U y x) ≤ 4614256656552045848 := by
    unfold a2U
    rw [ny, nx, if_neg (by simp), (word_rung (fneg y) (r := rung (abV (rung y) (rung x) (fneg x))) (by omega)).1]
    exact h
  exact ⟨hr, by unfold fnan; exact decide_eq_false (by omega)⟩
theorem read_neg {x : Nat} (hx : Fin64 x) : ∃ m e, Ieee.double.read x = .number (fneg x) m e ∧ Ieee.double.read (Op.negFloat .f64 x) = .number (!fneg x) m e := by
  obtain ⟨m, e, h1, _⟩ := read_fin64 hx
  refine ⟨m, e, h1, ?_⟩
  rw [(neg_parts hx.1).1]
  have h2 := word_self hx.1
  rw [← h2] at h1
  have hf := (word_rung (fneg x) (r := rung x) (Nat.mod_lt _ (by omega))).2.1
  rw [hf] at h1
  exact read_sgn (fneg x) hx.2 h1
theorem sub_neg {x : Nat} (hx : Fin64 x) : Ieee.double.sub 4607182418800017408 (Op.negFloat .f64 x) = Ieee.double.add 4607182418800017408 x ∧ Ieee.double.add 4607182418800017408 (Op.negFloat .f64 x) = Ieee.double.sub 4607182418800017408 x := by
  obtain ⟨m, e, h1, h2⟩ := read_neg hx
  unfold Ieee.Format.sub Ieee.Format.add
  rw [h1, h2]
  simp only [Ieee.Datum.opposite, Bool.not_not]
  exact ⟨trivial, trivial⟩
theorem leg_neg {x d a s r : Nat} (hx : Fin64 x) (Q : LegQ x d a s r) : LegQ (Op.negFloat .f64 x) a d s r := by
  obtain ⟨m1, m2, m3, m4, nr, lt⟩ := Q
  obtain ⟨s1, s2⟩ := sub_neg hx
  exact ⟨by rw [s1]; exact m2, by rw [s2]; exact m1, by rw [mul_turn]; exact m3, m4, nr, lt⟩
/-- Asin of a number and of its opposite. -/
def SinTell (x : Nat) : Prop := ∃ u, (fnan u = true ∧ ∀ w : World, Calls Try.prog 24 #[.float .f64 x] w fun e w' => e = .returned (.float .f64 u) ∧ w = w') ∨ (fnan u = false ∧ (∀ w : World, Calls Try.prog 24 #[.float .f64 x] w fun e w' => e = .returned (.float .f64 u) ∧ w = w') ∧ (∀ w : World, Calls Try.prog 24 #[.float .f64 (Op.negFloat .f64 x)] w fun e w' => e = .returned (.float .f64 (Op.negFloat .f64 u)) ∧ w = w'))
theorem asin_tell {x : Nat} (hx : x < 18446744073709551616) (nx : fnan x = false) : SinTell x := by
  obtain ⟨_, b, c, d⟩ := neg_parts hx
  have n2 : fnan (Op.negFloat .f64 x) = false := by unfold fnan at nx ⊢; rw [c]; exact nx
  cases g : (FloatKind.f64.format.order (rung x) 4607182418800017408 == some .gt)
  · have g2 : (FloatKind.f64.format.order (rung (Op.negFloat .f64 x)) 4607182418800017408 == some .gt) = false := by rw [c]; exact g
    have h := gt_one nx g
    have hF : Fin64 x := ⟨hx, by omega⟩
    cases z : (FloatKind.f64.format.order x 0 == some .eq)
    · have z2 : (FloatKind.f64.format.order (Op.negFloat .f64 x) 0 == some .eq) = false := by rw [ord_zero, c, ← ord_zero]; exact z
      obtain ⟨dd, a, s, r, Q⟩ := leg_q hF h
      refine ⟨a2U x r, Or.inr ⟨(a2U_real nx Q.nr).2, fun w => fAsin_main w hx nx g z Q, fun w => ?_⟩⟩
      rw [← a2U_neg hx nx Q.nr]
      exact fAsin_main w b n2 g2 z2 (leg_neg hF Q)
    · have z2 : (FloatKind.f64.format.order (Op.negFloat .f64 x) 0 == some .eq) = true := by rw [ord_zero, c, ← ord_zero]; exact z
      exact ⟨x, Or.inr ⟨nx, fun w => fAsin_zero w hx nx g z, fun w => fAsin_zero w b n2 g2 z2⟩⟩
  · exact ⟨9221120237041090560, Or.inl ⟨by decide, fun w => fAsin_far w hx nx g⟩⟩
set_option maxRecDepth 100000 in
theorem signs_nan (x y : Nat) (w : World) (hx : x < 18446744073709551616) (hy : y < 18446744073709551616) (h : fnan x = true ∨ fnan y = true) : Calls Try.prog 8 #[.float .f64 x, .float .f64 y] w fun e w' => e = .returned (.bool true) ∧ Below w.heap.size w w' := by
  have CX := Lib.hid (fun W => isNaN_any x W)
  have CY := Lib.hid (fun W => isNaN_any y W)
  have CT := Lib.hid (fun W => fAtan2_any hy hx W)
  rw [show a2U y x = 9221120237041090560 from by unfold a2U; exact if_pos h.symm] at CT
  have CN := Lib.hid (fun W => isNaN_any 9221120237041090560 W)
  rw [show fnan 9221120237041090560 = true by decide] at CN
  have C6 := Lib.hid (fun W => awake_any W)
  have B := Below.refl w.heap.size w
  cases nx : fnan x
  · rw [nx] at CX
    rw [h.resolve_left (by rw [nx]; simp)] at CY
    clear hx hy h nx
    go_enter Try.func8, Try.ntmps8
    go_wp2_with fail
    refine (CX.out _).mono ?_
    rintro e w' ⟨rfl, rfl⟩
    go_wp2_with fail
    refine (CY.out _).mono ?_
    rintro e w' ⟨rfl, rfl⟩
    go_wp2_with fail
    refine (CT.out _).mono ?_
    rintro e w' ⟨rfl, rfl⟩
    go_wp2_with fail
    refine (CN.out _).mono ?_
    rintro e w' ⟨rfl, rfl⟩
    go_wp2_with fail
    refine (C6.out _).mono ?_
    rintro e w' ⟨rfl, rfl⟩
    go_wp2
    go_ret
    exact ⟨rfl, B⟩
  · rw [nx] at CX
    clear hx hy h nx CY
    go_enter Try.func8, Try.ntmps8
    go_wp2_with fail
    refine (CX.out _).mono ?_
    rintro e w' ⟨rfl, rfl⟩
    go_wp2_with fail
    refine (CT.out _).mono ?_
    rintro e w' ⟨rfl, rfl⟩
    go_wp2_with fail
    refine (CN.out _).mono ?_
    rintro e w' ⟨rfl, rfl⟩
    go_wp2_with fail
    refine (C6.out _).mono ?_
    rintro e w' ⟨rfl, rfl⟩
    go_wp2
    go_ret
    exact ⟨rfl, B⟩
set_option maxRecDepth 100000 in
set_option maxHeartbeats 1000000 in
theorem signs_far (x y u : Nat) (w : World) (hx : x < 18446744073709551616) (hy : y < 18446744073709551616) (nx : fnan x = false) (ny : fnan y = false) (CA : RowKit.Hid (∀ w : World, Calls Try.prog 24 #[.float .f64 x] w fun e w' => e = .returned (.float .f64 u) ∧ w = w')) (nu : fnan u = true) : Calls Try.prog 8 #[.float .f64 x, .float .f64 y] w fun e w' => e = .returned (.bool true) ∧ Below w.heap.size w w' := by
  have CX := Lib.hid (fun W => isNaN_any x W)
  rw [nx] at CX
  have CY := Lib.hid (fun W => isNaN_any y W)
  rw [ny] at CY
  have CU := Lib.hid (fun W => isNaN_any u W)
  rw [nu] at CU
  obtain ⟨_, bx, _, _⟩ := neg_parts hx
  obtain ⟨_, bY, _, _⟩ := neg_parts hy
  have T1 := Lib.hid (fun W => fAtan_any bx W)
  rw [atU_neg hx nx] at T1
  have T2 := Lib.hid (fun W => fAtan_any hx W)
  have P1 := Lib.hid (fun W => fAtan2_any bY hx W)
  rw [a2U_neg hy ny nx] at P1
  have P2 := Lib.hid (fun W => fAtan2_any hy hx W)
  have hA := Lib.hid (fun W => abs_any (a2U y x) W a2U_lt)
  obtain ⟨r1, _⟩ := a2U_real ny nx
  have hle : (FloatKind.f64.format.order (rung (a2U y x)) 4614256656552045848 == some .lt || FloatKind.f64.format.order (rung (a2U y x)) 4614256656552045848 == some .eq) = true := by
    obtain ⟨q1, q2, _⟩ := pos_rung (x := rung (a2U y x)) (by omega)
    obtain ⟨_, o2, o3⟩ := ord_real (x := rung (a2U y x)) (c := 4614256656552045848) (by unfold fnan; rw [q1]; exact decide_eq_false (by omega)) (by decide)
    have f1 := (pos_rung (x := rung (a2U y x)) (by omega)).2.2
    have f2 := (pos_rung (x := 4614256656552045848) (by omega)).2.2
    rw [o2, o3, f1, f2]
    rcases Nat.eq_or_lt_of_le r1 with h | h
    · rw [h]; simp
    · rw [decide_eq_true (show ((rung (a2U y x) : Nat) : Int) < ((4614256656552045848 : Nat) : Int) by omega)]; rfl
  have CQ : ∀ W : World, (callFunc 34 #[.int .u64 4614256656552045848]).run Try.prog W = .ok (.value (.float .f64 4614256656552045848)) W := f64from_run 4614256656552045848
  have C5 := Lib.hid (fun x W => same_any x W)
  have C6 := Lib.hid (fun W => awake_any W)
  have B := Below.refl w.heap.size w
  have N1 : ∀ W : World, (Op.unary UnOp.neg (.float .f64 x)).run Try.prog W = .ok (.float .f64 (Op.negFloat .f64 x)) W := fun W => rfl
  have N2 : ∀ W : World, (Op.unary UnOp.neg (.float .f64 y)).run Try.prog W = .ok (.float .f64 (Op.negFloat .f64 y)) W := fun W => rfl
  have N3 : ∀ W : World, (Op.unary UnOp.neg (.float .f64 u)).run Try.prog W = .ok (.float .f64 (Op.negFloat .f64 u)) W := fun W => rfl
  have N4 : ∀ W : World, (Op.unary UnOp.neg (.float .f64 (atU x))).run Try.prog W = .ok (.float .f64 (Op.negFloat .f64 (atU x))) W := fun W => rfl
  have N5 : ∀ W : World, (Op.unary UnOp.neg (.float .f64 (a2U y x))).run Try.prog W = .ok (.float .f64 (Op.negFloat .f64 (a2U y x))) W := fun W => rfl
  obtain ⟨x', hx'⟩ : ∃ x', Op.negFloat .f64 x = x' := ⟨_, rfl⟩
  obtain ⟨y', hy'⟩ : ∃ y', Op.negFloat .f64 y = y' := ⟨_, rfl⟩
  obtain ⟨u', hu'⟩ : ∃ u', Op.negFloat .f64 u = u' := ⟨_, rfl⟩
  obtain ⟨A, hAA⟩ : ∃ A, atU x = A := ⟨_, rfl⟩
  obtain ⟨D, hD⟩ : ∃ D, a2U y x = D := ⟨_, rfl⟩
  rw [hx'] at T1 N1
  rw [hy'] at P1 N2
  rw [hu'] at N3
  rw [hAA] at T1 T2 N4
  rw [hD] at P1 P2 hA hle N5
  obtain ⟨A', hA'⟩ : ∃ A', Op.negFloat .f64 A = A' := ⟨_, rfl⟩
  obtain ⟨D', hD'⟩ : ∃ D', Op.negFloat .f64 D = D' := ⟨_, rfl⟩
  rw [hA'] at T1 N4
  rw [hD'] at P1 N5
  obtain ⟨v, hv⟩ : ∃ v, rung D = v := ⟨_, rfl⟩
  rw [hv] at hA hle
  rw [hD] at r1
  clear hx hy nx ny nu bx bY r1 hx' hy' hu' hAA hD hA' hD' hv
  go_enter Try.func8, Try.ntmps8
  go_wp2_with fail
  refine (CX.out _).mono ?_
  rintro e w' ⟨rfl, rfl⟩
  go_wp2_with fail
  refine (CY.out _).mono ?_
  rintro e w' ⟨rfl, rfl⟩
  go_wp2_with fail
  refine (CA.out _).mono ?_
  rintro e w' ⟨rfl, rfl⟩
  go_wp2_with fail
  refine (T1.out _).mono ?_
  rintro e w' ⟨rfl, rfl⟩
  go_wp2_with fail
  refine (T2.out _).mono ?_
  rintro e w' ⟨rfl, rfl⟩
  go_wp2_with fail
  refine (C5.out _ _).mono ?_
  rintro e w' ⟨rfl, rfl⟩
  go_wp2_with fail
  refine (CU.out _).mono ?_
  rintro e w' ⟨rfl, rfl⟩
  go_wp2_with fail
  refine (P1.out _).mono ?_
  rintro e w' ⟨rfl, rfl⟩
  go_wp2_with fail
  refine (P2.out _).mono ?_
  rintro e w' ⟨rfl, rfl⟩
  go_wp2_with fail
  refine (C5.out _ _).mono ?_
  rintro e w' ⟨rfl, rfl⟩
  go_wp2_with fail
  refine (P2.out _).mono ?_
  rintro e w' ⟨rfl, rfl⟩
  go_wp2_with fail
  refine (hA.out _).mono ?_
  rintro e w' ⟨rfl, rfl⟩
  go_wp2_with fail
  refine (C6.out _).mono ?_
  rintro e w' ⟨rfl, rfl⟩
  go_wp2
  go_ret
  exact ⟨rfl, B⟩
set_option maxRecDepth 100000 in
set_option maxHeartbeats 1000000 in
theorem signs_main (x y u : Nat) (w : World) (hx : x < 18446744073709551616) (hy : y < 18446744073709551616) (nx : fnan x = false) (ny : fnan y = false) (CA : RowKit.Hid (∀ w : World, Calls Try.prog 24 #[.float .f64 x] w fun e w' => e = .returned (.float .f64 u) ∧ w = w')) (nu : fnan u = false) (CB : RowKit.Hid (∀ w : World, Calls Try.prog 24 #[.float .f64 (Op.negFloat .f64 x)] w fun e w' => e = .returned (.float .f64 (Op.negFloat .f64 u)) ∧ w = w')) : Calls Try.prog 8 #[.float .f64 x, .float .f64 y] w fun e w' => e = .returned (.bool true) ∧ Below w.heap.size w w' := by
  have CX := Lib.hid (fun W => isNaN_any x W)
  rw [nx] at CX
  have CY := Lib.hid (fun W => isNaN_any y W)
  rw [ny] at CY
  have CU := Lib.hid (fun W => isNaN_any u W)
  rw [nu] at CU
  obtain ⟨_, bx, _, _⟩ := neg_parts hx
  obtain ⟨_, bY, _, _⟩ := neg_parts hy
  have T1 := Lib.hid (fun W => fAtan_any bx W)
  rw [atU_neg hx nx] at T1
  have T2 := Lib.hid (fun W => fAtan_any hx W)
  have P1 := Lib.hid (fun W => fAtan2_any bY hx W)
  rw [a2U_neg hy ny nx] at P1
  have P2 := Lib.hid (fun W => fAtan2_any hy hx W)
  have hA := Lib.hid (fun W => abs_any (a2U y x) W a2U_lt)
  obtain ⟨r1, _⟩ := a2U_real ny nx
  have hle : (FloatKind.f64.format.order (rung (a2U y x)) 4614256656552045848 == some .lt || FloatKind.f64.format.order (rung (a2U y x)) 4614256656552045848 == some .eq) = true := by
    obtain ⟨q1, q2, _⟩ := pos_rung (x := rung (a2U y x)) (by omega)
    obtain ⟨_, o2, o3⟩ := ord_real (x := rung (a2U y x)) (c := 4614256656552045848) (by unfold fnan; rw [q1]; exact decide_eq_false (by omega)) (by decide)
    have f1 := (pos_rung (x := rung (a2U y x)) (by omega)).2.2
    have f2 := (pos_rung (x := 4614256656552045848) (by omega)).2.2
    rw [o2, o3, f1, f2]
    rcases Nat.eq_or_lt_of_le r1 with h | h
    · rw [h]; simp
    · rw [decide_eq_true (show ((rung (a2U y x) : Nat) : Int) < ((4614256656552045848 : Nat) : Int) by omega)]; rfl
  have CQ : ∀ W : World, (callFunc 34 #[.int .u64 4614256656552045848]).run Try.prog W = .ok (.value (.float .f64 4614256656552045848)) W := f64from_run 4614256656552045848
  have C5 := Lib.hid (fun x W => same_any x W)
  have C6 := Lib.hid (fun W => awake_any W)
  have B := Below.refl w.heap.size w
  have N1 : ∀ W : World, (Op.unary UnOp.neg (.float .f64 x)).run Try.prog W = .ok (.float .f64 (Op.negFloat .f64 x)) W := fun W => rfl
  have N2 : ∀ W : World, (Op.unary UnOp.neg (.float .f64 y)).run Try.prog W = .ok (.float .f64 (Op.negFloat .f64 y)) W := fun W => rfl
  have N3 : ∀ W : World, (Op.unary UnOp.neg (.float .f64 u)).run Try.prog W = .ok (.float .f64 (Op.negFloat .f64 u)) W := fun W => rfl
  have N4 : ∀ W : World, (Op.unary UnOp.neg (.float .f64 (atU x))).run Try.prog W = .ok (.float .f64 (Op.negFloat .f64 (atU x))) W := fun W => rfl
  have N5 : ∀ W : World, (Op.unary UnOp.neg (.float .f64 (a2U y x))).run Try.prog W = .ok (.float .f64 (Op.negFloat .f64 (a2U y x))) W := fun W => rfl
  obtain ⟨x', hx'⟩ : ∃ x', Op.negFloat .f64 x = x' := ⟨_, rfl⟩
  obtain ⟨y', hy'⟩ : ∃ y', Op.negFloat .f64 y = y' := ⟨_, rfl⟩
  obtain ⟨u', hu'⟩ : ∃ u', Op.negFloat .f64 u = u' := ⟨_, rfl⟩
  obtain ⟨A, hAA⟩ : ∃ A, atU x = A := ⟨_, rfl⟩
  obtain ⟨D, hD⟩ : ∃ D, a2U y x = D := ⟨_, rfl⟩
  rw [hx'] at T1 N1 CB
  rw [hy'] at P1 N2
  rw [hu'] at N3 CB
  rw [hAA] at T1 T2 N4
  rw [hD] at P1 P2 hA hle N5
  obtain ⟨A', hA'⟩ : ∃ A', Op.negFloat .f64 A = A' := ⟨_, rfl⟩
  obtain ⟨D', hD'⟩ : ∃ D', Op.negFloat .f64 D = D' := ⟨_, rfl⟩
  rw [hA'] at T1 N4
  rw [hD'] at P1 N5
  obtain ⟨v, hv⟩ : ∃ v, rung D = v := ⟨_, rfl⟩
  rw [hv] at hA hle
  rw [hD] at r1
  clear hx hy nx ny nu bx bY r1 hx' hy' hu' hAA hD hA' hD' hv
  go_enter Try.func8, Try.ntmps8
  go_wp2_with fail
  refine (CX.out _).mono ?_
  rintro e w' ⟨rfl, rfl⟩
  go_wp2_with fail
  refine (CY.out _).mono ?_
  rintro e w' ⟨rfl, rfl⟩
  go_wp2_with fail
  refine (CA.out _).mono ?_
  rintro e w' ⟨rfl, rfl⟩
  go_wp2_with fail
  refine (T1.out _).mono ?_
  rintro e w' ⟨rfl, rfl⟩
  go_wp2_with fail
  refine (T2.out _).mono ?_
  rintro e w' ⟨rfl, rfl⟩
  go_wp2_with fail
  refine (C5.out _ _).mono ?_
  rintro e w' ⟨rfl, rfl⟩
  go_wp2_with fail
  refine (CU.out _).mono ?_
  rintro e w' ⟨rfl, rfl⟩
  go_wp2_with fail
  refine (CB.out _).mono ?_
  rintro e w' ⟨rfl, rfl⟩
  go_wp2_with fail
  refine (C5.out _ _).mono ?_
  rintro e w' ⟨rfl, rfl⟩
  go_wp2_with fail
  refine (P1.out _).mono ?_
  rintro e w' ⟨rfl, rfl⟩
  go_wp2_with fail
  refine (P2.out _).mono ?_
  rintro e w' ⟨rfl, rfl⟩
  go_wp2_with fail
  refine (C5.out _ _).mono ?_
  rintro e w' ⟨rfl, rfl⟩
  go_wp2_with fail
  refine (P2.out _).mono ?_
  rintro e w' ⟨rfl, rfl⟩
  go_wp2_with fail
  refine (hA.out _).mono ?_
  rintro e w' ⟨rfl, rfl⟩
  go_wp2_with fail
  refine (C6.out _).mono ?_
  rintro e w' ⟨rfl, rfl⟩
  go_wp2
  go_ret
  exact ⟨rfl, B⟩
theorem signs_any (x y : Nat) (w : World) (hx : x < 18446744073709551616) (hy : y < 18446744073709551616) : Calls Try.prog 8 #[.float .f64 x, .float .f64 y] w fun e w' => e = .returned (.bool true) ∧ Below w.heap.size w w' := by
  cases nx : fnan x
  · cases ny : fnan y
    · obtain ⟨u, ⟨nu, h⟩ | ⟨nu, h1, h2⟩⟩ := asin_tell hx nx
      · exact signs_far x y u w hx hy nx ny (Lib.hid h) nu
      · exact signs_main x y u w hx hy nx ny (Lib.hid h1) nu (Lib.hid h2)
    · exact signs_nan x y w hx hy (Or.inr ny)
  · exact signs_nan x y w hx hy (Or.inl nx)
end Go.Proofs.Ytbinpcoaghpcdaa
