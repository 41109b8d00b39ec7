/-
  Contracts of Integer and Index of both.
-/
import Derived.Test.YtacmbbjmcdbcnaaLawB
import Derived.Test.YtacmbbjmcdbcnaaLawI
namespace Go.Proofs.Ytacmbbjmcdbcnaa
open Go.RowKit
theorem quot_word {r m : Nat} {e : Int} (h3 : fmag r = m * 2 ^ (e + 1074).toNat) (h2 : -1074 ≤ e) : (m <<< e.toNat) / 2 ^ (-e).toNat = trn r := by
  obtain ⟨K, hK⟩ : ∃ K : Nat, K = 1074 := ⟨_, rfl⟩
  rw [trn_eq hK]
  have hA : fmag r * 2 ^ (-e).toNat = (m <<< e.toNat) * 2 ^ K := by
    rw [h3, Nat.shiftLeft_eq, Nat.mul_assoc, Nat.mul_assoc, ← Nat.pow_add, ← Nat.pow_add, show (e + 1074).toNat + (-e).toNat = e.toNat + K by omega]
  rw [← Nat.mul_div_mul_right (m <<< e.toNat) (2 ^ (-e).toNat) (Nat.two_pow_pos K), ← hA, Nat.mul_comm (2 ^ (-e).toNat), Nat.mul_div_mul_right _ _ (Nat.two_pow_pos _)]
/-- Trunc of a finite float: the whole number of it. -/
theorem trunc_spec (s : Bool) {a : Nat} (ha : a < 9218868437227405312) {K : Nat} (hK : K = 1074) : ∃ r, itg .zero (Ieee.double.word s a) = Ieee.double.word s r ∧ r < 9218868437227405312 ∧ fmag r = trn a * 2 ^ K := by
  have hU := Nat.two_pow_pos K
  obtain ⟨c, r, _, h2, h3, h4⟩ := floor_spec (s := false) ha hK
  have hc : trn a = c := by
    rw [trn_eq hK]
    rcases h4 with h | ⟨_, h5, h6⟩ | ⟨h5, _⟩
    · rw [← h, Nat.mul_div_cancel _ hU]
    · exact Nat.div_eq_of_lt_le (Nat.le_of_lt h5) h6
    · cases h5
  obtain ⟨m, e, g1, g2, g3⟩ := read_word s ha
  refine ⟨r, ?_, h2, by rw [hc, h3]⟩
  have h5 : itg .zero (Ieee.double.word s a) = Ieee.double.nearest s (Ieee.Toward.zero.cut s (m <<< e.toNat) (-e).toNat) 0 := by
    unfold itg
    rw [show FloatKind.f64.decode (Ieee.double.word s a) = Ieee.double.read (Ieee.double.word s a) from rfl, g1]
    rfl
  rw [h5, cut_zero, quot_word g3 g2, hc]
  exact near_gen s (a := K) (b := 0) h2 (by omega) (by rw [h3, Nat.pow_zero, Nat.mul_one])
def intV (x : Nat) : Nat := if fnan x = true then 0 else itg .zero x
set_option maxRecDepth 100000 in
theorem nint_any (x : Nat) (w : World) : Calls Try.prog 15 #[.float .f64 x] w fun e w' => e = .returned (.float .f64 (intV x)) ∧ w = w' := by
  have C1 := Lib.hid (fun W => isNaN_any x W)
  cases h : fnan x
  · rw [h] at C1
    have C2 := Lib.hid (fun W => Trunc_real x W h)
    rw [show intV x = itg .zero x from by unfold intV; rw [h, if_neg (by simp)]]
    obtain ⟨y, hy⟩ : ∃ y, itg .zero x = y := ⟨_, rfl⟩
    rw [hy] at C2 ⊢
    clear h hy
    go_enter Try.func15, Try.ntmps15
    go_wp2_with fail
    refine (C1.out _).mono ?_
    rintro e w' ⟨rfl, rfl⟩
    go_wp2_with fail
    refine (C2.out _).mono ?_
    rintro e w' ⟨rfl, rfl⟩
    go_wp2
    go_ret
    exact ⟨rfl, rfl⟩
  · rw [h] at C1
    rw [show intV x = 0 from by unfold intV; rw [if_pos h]]
    clear h
    go_enter Try.func15, Try.ntmps15
    go_wp2_with fail
    refine (C1.out _).mono ?_
    rintro e w' ⟨rfl, rfl⟩
    go_wp2
    go_ret
    exact ⟨rfl, rfl⟩
set_option maxRecDepth 100000 in
theorem qint_any (x : Nat) (w : World) : Calls Try.prog 16 #[.float .f64 x] w fun e w' => e = .returned (.float .f64 (intV x)) ∧ w = w' := by
  have C1 := Lib.hid (fun W => isNaN_any x W)
  cases h : fnan x
  · rw [h] at C1
    have C2 := Lib.hid (fun W => Trunc_real x W h)
    rw [show intV x = itg .zero x from by unfold intV; rw [h, if_neg (by simp)]]
    obtain ⟨y, hy⟩ : ∃ y, itg .zero x = y := ⟨_, rfl⟩
    rw [hy] at C2 ⊢
    clear h hy
    go_enter Try.func16, Try.ntmps16
    go_wp2_with fail
    refine (C1.out _).mono ?_
    rintro e w' ⟨rfl, rfl⟩
    go_wp2_with fail
    refine (C2.out _).mono ?_
    rintro e w' ⟨rfl, rfl⟩
    go_wp2
    go_ret
    exact ⟨rfl, rfl⟩
  · rw [h] at C1
    rw [show intV x = 0 from by unfold intV; rw [if_pos h]]
    clear h
    go_enter Try.func16, Try.ntmps16
    go_wp2_with fail
    refine (C1.out _).mono ?_
    rintro e w' ⟨rfl, rfl⟩
    go_wp2
    go_ret
    exact ⟨rfl, rfl⟩
/-- Is a float the number N, which is an index? -/
def isIdx (x N : Nat) : Prop := N ≤ 4294967294 ∧ rung x = fl N ∧ (fneg x = false ∨ N = 0)
theorem fl_zero_iff {N : Nat} (h : N < 9007199254740992) : fl N = 0 ↔ N = 0 := by
  obtain ⟨K, hK⟩ : ∃ K : Nat, K = 1074 := ⟨_, rfl⟩
  obtain ⟨a, _⟩ := fmag_fl h hK
  constructor
  · intro e
    rw [e, fmag_zero] at a
    exact (Nat.mul_eq_zero.1 a.symm).resolve_right (by have := Nat.two_pow_pos K; omega)
  · intro e; rw [e]; exact fl_zero
theorem fint_nat (N : Nat) (h : N < 9007199254740992) : floatOfInt .f64 (N : Int) = fl N := by
  have := near_int (n := (N : Int)) (by omega) (by omega)
  rw [decide_eq_false (by omega), Int.natAbs_natCast, word_false] at this
  exact this
theorem idx_facts {x N : Nat} (h : isIdx x N) : fnan x = false ∧ finf x = false ∧ u32V x = N ∧ frank x = (fl N : Nat) ∧ fl N < 9218868437227405312 ∧ trn (rung x) = N := by
  obtain ⟨h1, h2, h3⟩ := h
  obtain ⟨K, hK⟩ : ∃ K : Nat, K = 1074 := ⟨_, rfl⟩
  obtain ⟨_, b⟩ := fmag_fl (N := N) (by omega) hK
  have e1 : fnan x = false := by unfold fnan; rw [h2]; exact decide_eq_false (by omega)
  have e2 : finf x = false := by unfold finf; rw [h2]; exact decide_eq_false (by omega)
  have e3 : trn (rung x) = N := by rw [h2, trn_fl (by omega)]
  refine ⟨e1, e2, ?_, ?_, b, e3⟩
  · unfold u32V
    rw [e1, e2, e3, if_neg (by simp)]
    rcases h3 with h | h
    · rw [h, if_neg (by simp)]; omega
    · subst h; split <;> rfl
  · unfold frank
    rw [h2]
    rcases h3 with h | h
    · rw [h, if_neg (by simp)]
    · subst h; rw [fl_zero]; simp
theorem idx_of {x v : Nat} (hv : v < 4294967296) (hne : v ≠ 4294967295) (hx : fnan x = false) (h : oeq (fl v) x = true) : isIdx x v := by
  obtain ⟨K, hK⟩ : ∃ K : Nat, K = 1074 := ⟨_, rfl⟩
  obtain ⟨_, b⟩ := fmag_fl (N := v) (by omega) hK
  obtain ⟨p1, p2, p3⟩ := pos_rung (x := fl v) (by omega)
  have e1 := oeq_frank hx (by unfold fnan; rw [p1]; exact decide_eq_false (by omega)) h
  have e2 := frank_rung e1
  rw [p1] at e2
  refine ⟨by omega, e2.symm, ?_⟩
  cases hs : fneg x
  · exact .inl rfl
  · right
    rw [p3] at e1
    unfold frank at e1
    rw [hs, if_pos rfl, ← e2] at e1
    exact (fl_zero_iff (by omega)).1 (by omega)
theorem conv_u32 (s : Bool) {r N : Nat} (hr : r < 9218868437227405312) (ht : trn r = N) (hN : N ≤ 4294967294) (hs : s = false ∨ N = 0) (w : World) :
    (convert 22 23 (.float .f64 (Ieee.double.word s r))).run Try.prog w = .ok (.int .u32 (N : Nat)) w := by
  refine run_convert_float_int w 22 23 .f64 .u32 _ _ (by kernel_rfl) (by kernel_rfl) ?_
  unfold floatToIntVal
  rw [toInt_word s hr, ht]
  have e1 : IntKind.u32.min = 0 := rfl
  have e2 : IntKind.u32.max = 4294967295 := rfl
  rcases hs with h | h
  · subst h
    simp only [Bool.false_eq_true, if_false]
    rw [if_pos (by rw [e1, e2]; omega)]
  · subst h
    cases s
    · rfl
    · rfl
set_option maxRecDepth 100000 in
theorem nidx_yes {x N : Nat} (w : World) (hx : x < 18446744073709551616) (h : isIdx x N) : Calls Try.prog 12 #[.float .f64 x] w fun e w' => e = .returned (.tuple #[.int .u32 (N : Nat), .bool true]) ∧ w = w' := by
  obtain ⟨e1, e2, e3, e4, e5, e6⟩ := idx_facts h
  have C1 := Lib.hid (fun W => nu32_any x W hx)
  rw [e3] at C1
  have hN := h.1
  have hF := fint_nat N (by omega)
  have t1 : (FloatKind.f64.format.order (fl N) x != some .eq) = false := by
    have := oeq_of (x := fl N) (y := x) (by unfold fnan; rw [(pos_rung (x := fl N) (by omega)).1]; exact decide_eq_false (by omega)) e1 (by rw [e4, (pos_rung (x := fl N) (by omega)).2.2])
    unfold oeq at this
    rw [bne, this]; rfl
  have t2 : ((N : Int) == 4294967295) = false := by simp; omega
  obtain ⟨f, hf⟩ : ∃ f, fl N = f := ⟨_, rfl⟩
  rw [hf] at hF t1
  clear hx h e1 e2 e3 e4 e5 e6 hN hf
  go_enter Try.func12, Try.ntmps12
  go_wp2_with fail
  refine (C1.out _).mono ?_
  rintro e w' ⟨rfl, rfl⟩
  go_wp2
  go_ret2
  exact ⟨rfl, rfl⟩
set_option maxRecDepth 100000 in
theorem nidx_no {x : Nat} (w : World) (hx : x < 18446744073709551616) (h : ∀ N, ¬ isIdx x N) : Calls Try.prog 12 #[.float .f64 x] w fun e w' => e = .returned (.tuple #[.int .u32 0, .bool false]) ∧ w = w' := by
  have C1 := Lib.hid (fun W => nu32_any x W hx)
  have hv := u32V_lt x
  have hF := fint_nat (u32V x) (by omega)
  cases ho : oeq (fl (u32V x)) x
  · have t1 : (FloatKind.f64.format.order (fl (u32V x)) x != some .eq) = true := by
      unfold oeq at ho
      rw [bne, ho]; rfl
    obtain ⟨v, hvv⟩ : ∃ v, u32V x = v := ⟨_, rfl⟩
    rw [hvv] at C1 hF t1
    obtain ⟨f, hf⟩ : ∃ f, fl v = f := ⟨_, rfl⟩
    rw [hf] at hF t1
    clear hx h hv ho hvv hf
    go_enter Try.func12, Try.ntmps12
    go_wp2_with fail
    refine (C1.out _).mono ?_
    rintro e w' ⟨rfl, rfl⟩
    go_wp2
    go_ret2
    exact ⟨rfl, rfl⟩
  · have hn : fnan x = false := by
      cases e : fnan x
      · rfl
      · rw [oeq_nan (by rw [e]; simp)] at ho; cases ho
    have hmax : u32V x = 4294967295 := Classical.byContradiction fun hne => h _ (idx_of hv hne hn ho)
    have t1 : (FloatKind.f64.format.order (fl (u32V x)) x != some .eq) = false := by
      unfold oeq at ho
      rw [bne, ho]; rfl
    have t2 : (((u32V x : Nat) : Int) == 4294967295) = true := by rw [hmax]; rfl
    obtain ⟨v, hvv⟩ : ∃ v, u32V x = v := ⟨_, rfl⟩
    rw [hvv] at C1 hF t1 t2
    obtain ⟨f, hf⟩ : ∃ f, fl v = f := ⟨_, rfl⟩
    rw [hf] at hF t1
    clear hx h hv ho hvv hf hn hmax
    go_enter Try.func12, Try.ntmps12
    go_wp2_with fail
    refine (C1.out _).mono ?_
    rintro e w' ⟨rfl, rfl⟩
    go_wp2
    go_ret2
    exact ⟨rfl, rfl⟩
def ogt (x y : Nat) : Bool := FloatKind.f64.format.order x y == some .gt
theorem ogt_eq {x y : Nat} (hx : fnan x = false) (hy : fnan y = false) : ogt x y = decide (frank y < frank x) := by
  unfold fnan at hx hy
  have hx := of_decide_eq_false hx
  have hy := of_decide_eq_false hy
  unfold ogt
  rw [show FloatKind.f64.format.order x y = some (compare (frank x) (frank y)) from order_eq (by omega) (by omega), cmp_gt]
theorem oge_eq {x y : Nat} (hx : fnan x = false) (hy : fnan y = false) : oge x y = decide (frank y ≤ frank x) := by
  unfold fnan at hx hy
  have hx := of_decide_eq_false hx
  have hy := of_decide_eq_false hy
  unfold oge
  rw [show FloatKind.f64.format.order x y = some (compare (frank x) (frank y)) from order_eq (by omega) (by omega), cmp_gt, cmp_eq]
  by_cases h : frank y ≤ frank x
  · rw [decide_eq_true h]; simp; omega
  · rw [decide_eq_false h]; simp; omega
theorem fl_last : fl 4294967294 = 4751297606871678976 := by decide +kernel
set_option maxRecDepth 100000 in
theorem qidx_yes {x N : Nat} (w : World) (hx : x < 18446744073709551616) (h : isIdx x N) : Calls Try.prog 13 #[.float .f64 x] w fun e w' => e = .returned (.tuple #[.int .u32 (N : Nat), .bool true]) ∧ w = w' := by
  obtain ⟨e1, e2, e3, e4, e5, e6⟩ := idx_facts h
  obtain ⟨K, hK⟩ : ∃ K : Nat, K = 1074 := ⟨_, rfl⟩
  have hxw := word_split x hx
  have hfin : rung x < 9218868437227405312 := by rw [h.2.1]; exact e5
  have C2 := Lib.hid (fun W => Trunc_real x W e1)
  obtain ⟨r, r1, r2, r3⟩ := trunc_spec (fneg x) hfin hK
  rw [← hxw] at r1
  have hrr : r = rung x := fmag_inj (by rw [r3, e6, h.2.1]; exact ((fmag_fl (N := N) (by have := h.1; omega) hK).1).symm)
  rw [hrr, ← hxw] at r1
  rw [r1] at C2
  have t1 : (FloatKind.f64.format.order x 0 == some .gt || FloatKind.f64.format.order x 0 == some .eq) = true := by
    have := oge_eq (x := x) (y := 0) e1 (by decide)
    rw [show frank 0 = 0 by decide, e4, decide_eq_true (by omega)] at this
    exact this
  have t2 : (FloatKind.f64.format.order x 4751297606871678976 == some .gt) = false := by
    have h5 := ogt_eq (x := x) (y := 4751297606871678976) e1 (by decide)
    have h6 : fl N ≤ fl 4294967294 := by
      obtain ⟨f1, _⟩ := fmag_fl (N := N) (by have := h.1; omega) hK
      obtain ⟨f2, _⟩ := fmag_fl (N := 4294967294) (by omega) hK
      rcases Nat.lt_or_ge (fl 4294967294) (fl N) with h7 | h7
      · have h8 := fmag_step h7
        rw [f1, f2] at h8
        have := Nat.lt_of_mul_lt_mul_right h8
        have := h.1
        omega
      · exact h7
    rw [fl_last] at h6
    rw [e4, (pos_rung (x := 4751297606871678976) (by omega)).2.2, decide_eq_false (by omega)] at h5
    exact h5
  have t3 : (FloatKind.f64.format.order x x != some .eq) = false := by rw [ord_self]; exact e1
  have t4 := conv_u32 (fneg x) (r := rung x) (N := N) hfin e6 h.1 h.2.2 w
  rw [← hxw] at t4
  clear hx h e1 e2 e3 e4 e5 e6 hK hxw hfin r1 r2 r3 hrr
  go_enter Try.func13, Try.ntmps13
  go_wp2_with fail
  refine (C2.out _).mono ?_
  rintro e w' ⟨rfl, rfl⟩
  go_wp2
  go_ret2
  exact ⟨rfl, rfl⟩
set_option maxRecDepth 100000 in
theorem qidx_no {x : Nat} (w : World) (hx : x < 18446744073709551616) (h : ∀ N, ¬ isIdx x N) : Calls Try.prog 13 #[.float .f64 x] w fun e w' => e = .returned (.tuple #[.int .u32 0, .bool false]) ∧ w = w' := by
  obtain ⟨K, hK⟩ : ∃ K : Nat, K = 1074 := ⟨_, rfl⟩
  have t1 := oge_run x 0
  have t2 : (FloatKind.f64.format.order x 4751297606871678976 == some .gt) = ogt x 4751297606871678976 := rfl
  cases h1 : oge x 0
  · rw [h1] at t1
    clear hx h hK t2 h1
    go_enter Try.func13, Try.ntmps13
    go_wp2
    go_ret2
    exact ⟨rfl, rfl⟩
  · have hn : fnan x = false := by
      cases e : fnan x
      · rfl
      · rw [oge_nan e] at h1; cases h1
    cases h2 : ogt x 4751297606871678976
    · have C2 := Lib.hid (fun W => Trunc_real x W hn)
      have hxw := word_split x hx
      have g1 := oge_eq (x := x) (y := 0) hn (by decide)
      have g2 := ogt_eq (x := x) (y := 4751297606871678976) hn (by decide)
      rw [h1, show frank 0 = 0 by decide] at g1
      rw [h2, (pos_rung (x := 4751297606871678976) (by omega)).2.2] at g2
      have g3 := of_decide_eq_true g1.symm
      have g4 := of_decide_eq_false g2.symm
      have hfin : rung x < 9218868437227405312 := by
        unfold fnan at hn
        have := of_decide_eq_false hn
        unfold frank at g3 g4
        cases hs : fneg x <;> rw [hs] at g3 g4 <;> simp at g3 g4 <;> omega
      obtain ⟨r, r1, r2, r3⟩ := trunc_spec (fneg x) hfin hK
      rw [← hxw] at r1
      rw [r1] at C2
      have t3 : (FloatKind.f64.format.order (Ieee.double.word (fneg x) r) x != some .eq) = true := by
        cases ho : oeq (Ieee.double.word (fneg x) r) x
        · unfold oeq at ho
          rw [bne, ho]; rfl
        · exfalso
          have e1 := frank_rung (oeq_frank hn (fnan_fin _ r2) ho)
          rw [(word_rung (fneg x) (r := r) (by omega)).1] at e1
          rw [e1] at r3
          obtain ⟨f2, _⟩ := fmag_fl (N := 4294967294) (by omega) hK
          rw [fl_last] at f2
          have hle : rung x ≤ 4751297606871678976 := by
            unfold frank at g3 g4
            cases hs : fneg x <;> rw [hs] at g3 g4 <;> simp at g3 g4 <;> omega
          have hN : trn (rung x) ≤ 4294967294 := by
            have h5 : fmag (rung x) ≤ fmag 4751297606871678976 := by
              rcases Nat.eq_or_lt_of_le hle with h6 | h6
              · rw [h6]; exact Nat.le_refl _
              · exact Nat.le_of_lt (fmag_step h6)
            rw [r3, f2] at h5
            exact Nat.le_of_mul_le_mul_right h5 (Nat.two_pow_pos K)
          refine h (trn (rung x)) ⟨hN, fmag_inj ?_, ?_⟩
          · rw [(fmag_fl (N := trn (rung x)) (by omega) hK).1]; exact r3
          · cases hs : fneg x
            · exact .inl rfl
            · right
              have h0 : rung x = 0 := by unfold frank at g3; rw [hs] at g3; simp at g3; omega
              rw [h0]
              unfold trn
              rw [fmag_zero, Nat.zero_div]
      rw [h1] at t1
      rw [h2] at t2
      obtain ⟨y, hy⟩ : ∃ y, Ieee.double.word (fneg x) r = y := ⟨_, rfl⟩
      rw [hy] at C2 t3
      clear hx h hK h1 h2 hn hxw g1 g2 g3 g4 hfin r1 r2 r3 hy
      go_enter Try.func13, Try.ntmps13
      go_wp2_with fail
      refine (C2.out _).mono ?_
      rintro e w' ⟨rfl, rfl⟩
      go_wp2
      go_ret2
      exact ⟨rfl, rfl⟩
    · rw [h1] at t1
      rw [h2] at t2
      clear hx h hK h1 h2 hn
      go_enter Try.func13, Try.ntmps13
      go_wp2
      go_ret2
      exact ⟨rfl, rfl⟩
end Go.Proofs.Ytacmbbjmcdbcnaa
