/-
  The law NumberFloors, whole.
-/
import Derived.Test.YtacmbbjmcdbcnaaLawH
namespace Go.Proofs.Ytacmbbjmcdbcnaa
open Go.RowKit
theorem drew_below' {w w' : World} (h : ∃ n, w' = w.drewN n) : Below w.heap.size w w' := by
  obtain ⟨n, rfl⟩ := h
  exact below_drewN' (Below.refl _ _) n
set_option maxRecDepth 100000 in
theorem floors_nan (x : Nat) (w : World) (hx : x < 18446744073709551616) (h : fnan x = true) : Calls Try.prog 11 #[.float .f64 x] w fun e w' => e = .returned (.bool true) ∧ Below w.heap.size w w' := by
  have C1 := Lib.hid (fun W => nFloor_any x W hx)
  rw [show tFloor x = 9221120237041090560 from by unfold tFloor; rw [if_pos h]] at C1
  have C2 := Lib.hid (fun W => isNaN_any x W)
  rw [h] at C2
  have C3 := Lib.hid (fun W => isNaN_any 9221120237041090560 W)
  rw [show fnan 9221120237041090560 = true by decide] at C3
  clear hx h
  go_enter Try.func11, Try.ntmps11
  go_wp2_with fail
  refine (C1.out _).mono ?_
  rintro e w1 ⟨rfl, n1⟩
  have B1 := drew_below' n1
  clear n1
  go_wp2_with fail
  refine (C2.out _).mono ?_
  rintro e w' ⟨rfl, rfl⟩
  go_wp2_with fail
  refine (C2.out _).mono ?_
  rintro e w' ⟨rfl, rfl⟩
  go_wp2_with fail
  refine (C3.out _).mono ?_
  rintro e w' ⟨rfl, rfl⟩
  go_wp2
  go_ret
  exact ⟨rfl, B1⟩
set_option maxRecDepth 100000 in
theorem floors_inf (x : Nat) (w : World) (hx : x < 18446744073709551616) (h1 : fnan x = false) (h2 : finf x = true) : Calls Try.prog 11 #[.float .f64 x] w fun e w' => e = .returned (.bool true) ∧ Below w.heap.size w w' := by
  have C1 := Lib.hid (fun W => nFloor_any x W hx)
  rw [show tFloor x = x from by unfold tFloor; rw [if_neg (by rw [h1]; simp), itg_inf .down hx h2, cn_real h1]] at C1
  have C2 := Lib.hid (fun W => isNaN_any x W)
  rw [h1] at C2
  have C3 := Lib.hid (fun W => isInf0_any x W hx)
  rw [h2] at C3
  have CA := Lib.hid (fun W => awake_any W)
  have h3 := oeq_run x x
  rw [oeq_of h1 h1 rfl] at h3
  clear hx h1 h2
  go_enter Try.func11, Try.ntmps11
  go_wp2_with fail
  refine (C1.out _).mono ?_
  rintro e w1 ⟨rfl, n1⟩
  have B1 := drew_below' n1
  clear n1
  go_wp2_with fail
  refine (C2.out _).mono ?_
  rintro e w' ⟨rfl, rfl⟩
  go_wp2_with fail
  refine (C3.out _).mono ?_
  rintro e w' ⟨rfl, rfl⟩
  go_wp2_with fail
  refine (C2.out _).mono ?_
  rintro e w' ⟨rfl, rfl⟩
  go_wp2_with fail
  refine (CA.out _).mono ?_
  rintro e w2 ⟨rfl, b2⟩
  have B2 := below_le B1 b2
  go_wp2
  go_ret
  exact ⟨rfl, B2⟩
set_option maxRecDepth 100000 in
set_option maxHeartbeats 1000000 in
theorem floors_up (x f d z u nx v nv g : Nat) (w : World)
    (C1 : RowKit.Hid (∀ W, Calls Try.prog 36 #[.float .f64 x] W fun e w' => e = .returned (.float .f64 f) ∧ ∃ n, w' = W.drewN n))
    (C2 : RowKit.Hid (∀ W, Calls Try.prog 51 #[.float .f64 x] W fun e w' => e = .returned (.bool false) ∧ W = w'))
    (C3 : RowKit.Hid (∀ W, Calls Try.prog 52 #[.float .f64 x, .int .i64 0] W fun e w' => e = .returned (.bool false) ∧ W = w'))
    (C4 : RowKit.Hid (∀ W, Calls Try.prog 40 #[.float .f64 x] W fun e w' => e = .returned (.float .f64 z) ∧ ∃ n, w' = W.drewN n))
    (C5 : RowKit.Hid (∀ W, Calls Try.prog 38 #[.float .f64 x] W fun e w' => e = .returned (.float .f64 u) ∧ ∃ n, w' = W.drewN n))
    (C6 : RowKit.Hid (∀ W, Calls Try.prog 36 #[.float .f64 nx] W fun e w' => e = .returned (.float .f64 v) ∧ ∃ n, w' = W.drewN n))
    (hs : Ieee.double.sub x f = some d) (ho : oge d 4602678819172646912 = true) (ha : Ieee.double.add f 4607182418800017408 = some g)
    (hf : ole f x = true) (hd : ole d 4607182418800017408 = true) (hnx : Op.negFloat .f64 x = nx) (hnv : Op.negFloat .f64 v = nv) (hu : oeq u nv = true) (hz : oeq z g = true) :
    Calls Try.prog 11 #[.float .f64 x] w fun e w' => e = .returned (.bool true) ∧ Below w.heap.size w w' := by
  have CA := Lib.hid (fun W => awake_any W)
  have r1 : ∀ W, (binOp BinOp.sub 22 (.float .f64 x) (.float .f64 f)).run Try.prog W = .ok (.float .f64 d) W := fun W => run_float_arith _ _ _ _ _ _ _ hs
  have r2 : ∀ W, (binOp BinOp.add 22 (.float .f64 f) (.float .f64 4607182418800017408)).run Try.prog W = .ok (.float .f64 g) W := fun W => run_float_arith _ _ _ _ _ _ _ ha
  have r3 : ∀ W, (Op.unary UnOp.neg (.float .f64 x)).run Try.prog W = .ok (.float .f64 nx) W := fun W => by rw [← hnx]; rfl
  have r4 : ∀ W, (Op.unary UnOp.neg (.float .f64 v)).run Try.prog W = .ok (.float .f64 nv) W := fun W => by rw [← hnv]; rfl
  have t1 := oge_run d 4602678819172646912
  rw [ho] at t1
  have t2 := ole_run f x
  rw [hf] at t2
  have t3 := ole_run d 4607182418800017408
  rw [hd] at t3
  have t4 := oeq_run u nv
  rw [hu] at t4
  have t5 := oeq_run z g
  rw [hz] at t5
  clear hs ho hf hd hnx hnv hu hz ha
  go_enter Try.func11, Try.ntmps11
  go_wp2_with fail
  refine (C1.out _).mono ?_
  rintro e w1 ⟨rfl, n1⟩
  have B1 := drew_below' n1
  clear n1
  go_wp2_with fail
  refine (C2.out _).mono ?_
  rintro e w' ⟨rfl, rfl⟩
  go_wp2_with fail
  refine (C3.out _).mono ?_
  rintro e w' ⟨rfl, rfl⟩
  go_wp2_with fail
  refine (C4.out _).mono ?_
  rintro e w2 ⟨rfl, n2⟩
  have B2 := below_le B1 (drew_below' n2)
  clear n2
  go_wp2_with fail
  refine (C5.out _).mono ?_
  rintro e w3 ⟨rfl, n3⟩
  have B3 := below_le B2 (drew_below' n3)
  clear n3
  go_wp2_with fail
  refine (C6.out _).mono ?_
  rintro e w4 ⟨rfl, n4⟩
  have B4 := below_le B3 (drew_below' n4)
  clear n4
  go_wp2_with fail
  refine (CA.out _).mono ?_
  rintro e w5 ⟨rfl, b5⟩
  have B5 := below_le B4 b5
  go_wp2
  go_ret
  exact ⟨rfl, B5⟩
set_option maxRecDepth 100000 in
set_option maxHeartbeats 1000000 in
theorem floors_low (x f d z u nx v nv : Nat) (w : World)
    (C1 : RowKit.Hid (∀ W, Calls Try.prog 36 #[.float .f64 x] W fun e w' => e = .returned (.float .f64 f) ∧ ∃ n, w' = W.drewN n))
    (C2 : RowKit.Hid (∀ W, Calls Try.prog 51 #[.float .f64 x] W fun e w' => e = .returned (.bool false) ∧ W = w'))
    (C3 : RowKit.Hid (∀ W, Calls Try.prog 52 #[.float .f64 x, .int .i64 0] W fun e w' => e = .returned (.bool false) ∧ W = w'))
    (C4 : RowKit.Hid (∀ W, Calls Try.prog 40 #[.float .f64 x] W fun e w' => e = .returned (.float .f64 z) ∧ ∃ n, w' = W.drewN n))
    (C5 : RowKit.Hid (∀ W, Calls Try.prog 38 #[.float .f64 x] W fun e w' => e = .returned (.float .f64 u) ∧ ∃ n, w' = W.drewN n))
    (C6 : RowKit.Hid (∀ W, Calls Try.prog 36 #[.float .f64 nx] W fun e w' => e = .returned (.float .f64 v) ∧ ∃ n, w' = W.drewN n))
    (hs : Ieee.double.sub x f = some d) (ho : oge d 4602678819172646912 = false)
    (hf : ole f x = true) (hd : ole d 4607182418800017408 = true) (hnx : Op.negFloat .f64 x = nx) (hnv : Op.negFloat .f64 v = nv) (hu : oeq u nv = true) (hz : oeq z f = true) :
    Calls Try.prog 11 #[.float .f64 x] w fun e w' => e = .returned (.bool true) ∧ Below w.heap.size w w' := by
  have CA := Lib.hid (fun W => awake_any W)
  have r1 : ∀ W, (binOp BinOp.sub 22 (.float .f64 x) (.float .f64 f)).run Try.prog W = .ok (.float .f64 d) W := fun W => run_float_arith _ _ _ _ _ _ _ hs

  have r3 : ∀ W, (Op.unary UnOp.neg (.float .f64 x)).run Try.prog W = .ok (.float .f64 nx) W := fun W => by rw [← hnx]; rfl
  have r4 : ∀ W, (Op.unary UnOp.neg (.float .f64 v)).run Try.prog W = .ok (.float .f64 nv) W := fun W => by rw [← hnv]; rfl
  have t1 := oge_run d 4602678819172646912
  rw [ho] at t1
  have t2 := ole_run f x
  rw [hf] at t2
  have t3 := ole_run d 4607182418800017408
  rw [hd] at t3
  have t4 := oeq_run u nv
  rw [hu] at t4
  have t5 := oeq_run z f
  rw [hz] at t5
  clear hs ho hf hd hnx hnv hu hz 
  go_enter Try.func11, Try.ntmps11
  go_wp2_with fail
  refine (C1.out _).mono ?_
  rintro e w1 ⟨rfl, n1⟩
  have B1 := drew_below' n1
  clear n1
  go_wp2_with fail
  refine (C2.out _).mono ?_
  rintro e w' ⟨rfl, rfl⟩
  go_wp2_with fail
  refine (C3.out _).mono ?_
  rintro e w' ⟨rfl, rfl⟩
  go_wp2_with fail
  refine (C4.out _).mono ?_
  rintro e w2 ⟨rfl, n2⟩
  have B2 := below_le B1 (drew_below' n2)
  clear n2
  go_wp2_with fail
  refine (C5.out _).mono ?_
  rintro e w3 ⟨rfl, n3⟩
  have B3 := below_le B2 (drew_below' n3)
  clear n3
  go_wp2_with fail
  refine (C6.out _).mono ?_
  rintro e w4 ⟨rfl, n4⟩
  have B4 := below_le B3 (drew_below' n4)
  clear n4
  go_wp2_with fail
  refine (CA.out _).mono ?_
  rintro e w5 ⟨rfl, b5⟩
  have B5 := below_le B4 b5
  go_wp2
  go_ret
  exact ⟨rfl, B5⟩
theorem floors_any (x : Nat) (w : World) (hx : x < 18446744073709551616) : Calls Try.prog 11 #[.float .f64 x] w fun e w' => e = .returned (.bool true) ∧ Below w.heap.size w w' := by
  cases hn : fnan x
  · cases hi : finf x
    · obtain ⟨K, hK⟩ : ∃ K : Nat, K = 1074 := ⟨_, rfl⟩
      have hU := Nat.two_pow_pos K
      obtain ⟨s, hs⟩ : ∃ s, fneg x = s := ⟨_, rfl⟩
      obtain ⟨a, haa⟩ : ∃ a, rung x = a := ⟨_, rfl⟩
      have ha : a < 9218868437227405312 := by unfold fnan at hn; unfold finf at hi; have := of_decide_eq_false hn; have := of_decide_eq_false hi; omega
      have hxw : x = Ieee.double.word s a := by rw [← hs, ← haa]; exact word_split x hx
      obtain ⟨c, r, h1, h2, h3, h4⟩ := floor_spec (s := s) ha hK
      rw [← hxw] at h1
      have hrf : fnan (Ieee.double.word s r) = false := fnan_fin s h2
      obtain ⟨w1, w2, w3⟩ := word_rung s (r := r) (by omega)
      have hft : tFloor x = Ieee.double.word s r := by unfold tFloor; rw [if_neg (by rw [hn]; simp), h1, cn_real hrf]
      have hfr : frank (Ieee.double.word s r) = if s = true then -(r : Int) else (r : Int) := by unfold frank; rw [w1, w2]
      have hfx : frank x = if s = true then -(a : Int) else (a : Int) := by unfold frank; rw [hs, haa]
      have mono : ∀ p q : Nat, fmag p ≤ fmag q → p ≤ q := fun p q h => by
        rcases Nat.lt_or_ge q p with h5 | h5
        · have := fmag_step h5; omega
        · exact h5
      have hle : frank (Ieee.double.word s r) ≤ frank x := by
        rw [hfr, hfx]
        rcases h4 with h5 | ⟨h5, h6, _⟩ | ⟨h5, _, h6, _⟩
        · have : r = a := fmag_inj (by rw [h3, h5])
          rw [this]; exact Int.le_refl _
        · have := mono r a (by omega)
          rw [h5]; simp; omega
        · have := mono a r (by omega)
          rw [h5]; simp; omega
      obtain ⟨d, hd, hd1⟩ := half_spec (s := s) ha h2 hK (by
        rw [h3]
        rcases h4 with h5 | ⟨h5, h6, h7⟩ | ⟨h5, _, h6, h7⟩
        · cases s
          · exact .inl ⟨rfl, by omega, by omega⟩
          · exact .inr ⟨rfl, by omega, by omega⟩
        · rw [Nat.add_mul] at h7
          exact .inl ⟨h5, by omega, by omega⟩
        · exact .inr ⟨h5, by omega, by omega⟩)
      rw [← hxw] at hd
      obtain ⟨p1, p2, p3⟩ := pos_rung (x := d) (by omega)
      obtain ⟨q1, q2, q3⟩ := pos_rung (x := 4607182418800017408) (by omega)
      have hdn : fnan d = false := by unfold fnan; rw [p1]; exact decide_eq_false (by omega)
      have hd2 : ole d 4607182418800017408 = true := ole_of hdn (by decide) (by rw [p3, q3]; omega)
      have C1 := Lib.hid (fun W => nFloor_any x W hx)
      rw [hft] at C1
      have C2 := Lib.hid (fun W => isNaN_any x W)
      rw [hn] at C2
      have C3 := Lib.hid (fun W => isInf0_any x W hx)
      rw [hi] at C3
      have C5 := Lib.hid (fun W => nCeil_any x W hx)
      obtain ⟨x1, x2, x3⟩ := word_rung (!s) (r := a) (by omega)
      have C6 := Lib.hid (fun W => nFloor_any (Ieee.double.word (!s) a) W x3)
      have hnx : Op.negFloat .f64 x = Ieee.double.word (!s) a := by rw [hxw]; exact neg_float s (by omega)
      obtain ⟨k, k1, k2⟩ := itg_flip s ha
      rw [← hxw] at k1
      have n1 := near_real s k 0
      have n2 := near_real (!s) k 0
      have hct : tCeil x = Ieee.double.nearest s k 0 := by unfold tCeil; rw [if_neg (by rw [hn]; simp), k1, cn_real n1.1]
      have hvt : tFloor (Ieee.double.word (!s) a) = Ieee.double.nearest (!s) k 0 := by unfold tFloor; rw [if_neg (by rw [fnan_fin (!s) ha]; simp), k2, cn_real n2.1]
      rw [hct] at C5
      rw [hvt] at C6
      have hnv := near_neg s k
      have hu : oeq (Ieee.double.nearest s k 0) (Ieee.double.nearest s k 0) = true := oeq_of n1.1 n1.1 rfl
      have F1 := Lib.hid (fun W => Floor_real x W hn)
      rw [h1] at F1
      cases ho : oge d 4602678819172646912
      · have C4 := Lib.hid (fun W => show Calls Try.prog 40 #[.float .f64 x] W (fun e w' => e = .returned (.float .f64 (Ieee.double.word s r)) ∧ ∃ n, w' = W.drewN n) from
          (nround_low x (Ieee.double.word s r) (Ieee.double.word s r) W hx w3 0 0 (Lib.hid ((F1.out W).mono fun e w' ⟨a, b⟩ => ⟨a, b.symm⟩)) ⟨d, run_float_arith _ _ _ _ _ _ _ hd, ho⟩ (by rw [hs, w1, cn_real hrf])).mono fun e w' ⟨a, b⟩ => ⟨a, 0, b⟩)
        exact floors_low x _ d _ _ _ _ _ w C1 C2 C3 C4 C5 C6 hd ho (ole_of hrf hn hle) hd2 hnx hnv hu (oeq_of hrf hrf rfl)
      · obtain ⟨g, hg, hgn, hg2⟩ := add_one hrf
        have hUc : s = true → 2 ^ K ≤ fmag r := by
          intro e
          rw [h3]
          rcases Nat.eq_zero_or_pos c with h0 | h0
          · exfalso
            rcases h4 with h5 | ⟨h5, _⟩ | ⟨_, h5, _⟩
            · rw [h0, Nat.zero_mul] at h5 h3
              have ha0 : a = 0 := by
                rcases Nat.eq_zero_or_pos a with h6 | h6
                · exact h6
                · have := fmag_pos.2 h6; omega
              have hr0 : r = 0 := by
                rcases Nat.eq_zero_or_pos r with h6 | h6
                · exact h6
                · have := fmag_pos.2 h6; omega
              have hsame : Ieee.double.word s r = x := by rw [hxw, ha0, hr0]
              rw [hsame] at hd
              obtain ⟨d2, e1, e2, _⟩ := sub_alike hn hi (y := x) rfl rfl
              rw [hd] at e1
              have := Option.some.inj e1
              rw [this, oge_nought e2] at ho
              cases ho
            · rw [h5] at e; cases e
            · omega
          · exact Nat.le_mul_of_pos_left _ h0
        have hfk := one_more h2 hK hUc hg
        have hwn : fnan (Ieee.double.word s (rung g)) = false := word_real s hgn
        have C4 := Lib.hid (fun W => show Calls Try.prog 40 #[.float .f64 x] W (fun e w' => e = .returned (.float .f64 (Ieee.double.word s (rung g))) ∧ ∃ n, w' = W.drewN n) from
          (nround_up x (Ieee.double.word s r) d g (Ieee.double.word s (rung g)) W hx hg2 F1 hd ho hg (by rw [hs, cn_real hwn])).mono fun e w' ⟨a, b⟩ => ⟨a, 0, b.symm⟩)
        exact floors_up x _ d _ _ _ _ _ g w C1 C2 C3 C4 C5 C6 hd ho hg (ole_of hrf hn hle) hd2 hnx hnv hu (oeq_of hwn hgn hfk)
    · exact floors_inf x w hx hn hi
  · exact floors_nan x w hx hn
end Go.Proofs.Ytacmbbjmcdbcnaa
