/-
  The methods of two numbers that reckon; Binary of both at them.
-/
import Derived.Test.YtacmbbjmcdbcnaaShf
import Derived.Test.YtacmbbjmcdbcnaaMm
namespace Go.Proofs.Ytacmbbjmcdbcnaa
open Go.RowKit
set_option maxRecDepth 100000 in
set_option maxHeartbeats 1000000 in
theorem binary_at2 (i : Nat) (hi : i < 11) (x y r : Nat) (w : World) (hr : ∀ W, Calls Try.prog (bfn i) #[.agg #[.float .f64 x, .float .f64 y]] W fun e w' => ∃ y, e = .returned (.float .f64 y) ∧ Hid (cn y = r) ∧ Below W.heap.size W w') : Calls Try.prog 26 #[.string (bop i), .float .f64 x, .float .f64 y] w fun e w' => e = .returned (.tuple #[.float .f64 r, .int .i64 0]) ∧ Below w.heap.size w w' := by
  have C1 := Lib.hid (fun W => binaries_any W)
  have C2 := Lib.hid hr
  have C3 := Lib.hid (fun z W => told_any z W)
  have HI := Lib.hid hi
  have HX := Lib.hid (fun W k hk => bin_index W k hk)
  obtain ⟨V, hV⟩ : ∃ V, binVals.toArray = V := ⟨_, rfl⟩
  rw [hV] at C1 HX
  clear hV
  obtain ⟨op, hop⟩ : ∃ op, bop i = op := ⟨_, rfl⟩
  obtain ⟨f, hf⟩ : ∃ f, bfn i = f := ⟨_, rfl⟩
  rw [hf] at C2
  rw [hop]
  have HOP := Lib.hid hop
  have HF := Lib.hid hf
  clear hr hi hop hf
  go_enter Try.func26, Try.ntmps26
  go_wp2_with fail
  refine (C1.out _).mono ?_
  rintro e w' ⟨rfl, rfl⟩
  have B1 := Lib.hid (Below.alloc (Below.refl w.heap.size w) (Nat.le_refl _) (.cells V 63))
  go_wp2_with fail
  go_loopw [11] (fun v11 wr => ∃ k : Nat, v11 = .int .i64 (k : Nat) ∧ Hid (k ≤ i) ∧ Below w.heap.size w wr) (fun v11 _ => (11 - intOf v11).toNat)
  case atStart => exact ⟨0, rfl, Lib.hid (Nat.zero_le _), B1.out⟩
  case round =>
    obtain ⟨k, rfl, HK, HB⟩ := hrel
    have hk11 : k < 11 := by have := HK.out; have := HI.out; omega
    have hidx := HX.out wr k hk11
    have t1 : decide ((k : Int) < 11) = true := decide_eq_true (by omega)
    have HB2 := Lib.hid (HB.alloc HB.size (.cells #[.string (bop k), .func (.func (bfn k)) #[] #[]] 62))
    have hcl := fun W => bin_call W k hk11 #[.agg #[.float .f64 x, .float .f64 y]]
    by_cases hki : k = i
    · have h1 : bop k = op := by rw [hki]; exact HOP.out
      have h2 : bfn k = f := by rw [hki]; exact HF.out
      rw [h1, h2] at hidx HB2
      rw [h2] at hcl
      clear h1 h2 hki hk11
      have hcall := hcl
      go_wp2_with fail
      refine (C2.out _).mono ?_
      rintro e w1 ⟨z, rfl, hz, b1⟩
      have B2 := HB2.out.trans (b1.mono HB2.out.size)
      go_wp2_with fail
      refine (C3.out _ _).mono ?_
      rintro e w2 ⟨rfl, rfl⟩
      go_wp2
      go_ret2
      exact ⟨congrArg (fun q => Ending.returned (.tuple #[.float .f64 q, .int .i64 0])) hz.out, B2⟩
    · have hne : ((bop k).toList == op.toList) = false := by
        rw [← HOP.out]
        exact bop_ne ⟨i, HI.out⟩ ⟨k, hk11⟩ (by have := HK.out; show k < i; omega)
      have k1 : IntKind.i64.wrap ((k : Int) + 1) = ((k + 1 : Nat) : Int) := by rw [IntWalk.i64_in _ (by omega)]; omega
      have HK1 := Lib.hid (show k + 1 ≤ i by have := HK.out; omega)
      obtain ⟨o, ho⟩ : ∃ o, bop k = o := ⟨_, rfl⟩
      obtain ⟨g, hg⟩ : ∃ g, bfn k = g := ⟨_, rfl⟩
      rw [ho] at hne hidx HB2
      rw [hg] at hidx HB2
      have HK11 := Lib.hid hk11
      clear ho hg hki hk11 hcl
      go_wp2
      go_roundw
      case rel => exact ⟨k + 1, by go_num, HK1, HB2.out⟩
      case measure => have := HK11.out; simp [intOf]; omega
def addV (x y : Nat) : Nat := match Ieee.double.add x y with
  | some r => cn r
  | none => 9221120237041090560
theorem add_none (x y : Nat) (w : World) (h : Ieee.double.add x y = none) : ∃ r, (∀ t, (binOp .add t (.float .f64 x) (.float .f64 y)).run Try.prog w = .ok (.float .f64 r) (w.drewN 1)) ∧ fnan r = true ∧ r < 18446744073709551616 := by
  have h2 : FloatKind.f64.format.add x y = none := h
  have hf : (Question.nanBits .f64 x y).forced = false := rfl
  exact ⟨(Question.nanBits .f64 x y).cut (w.tape w.drawn (.nanBits .f64 x y)), fun t => by simp [binOp, Op.floatArith, h2, hf]; rfl, cut_nan _ _ _⟩
theorem add_both (x y : Nat) (w : World) : ∃ r n, (∀ t, (binOp .add t (.float .f64 x) (.float .f64 y)).run Try.prog w = .ok (.float .f64 r) (w.drewN n)) ∧ cn r = addV x y := by
  unfold addV
  cases h : Ieee.double.add x y with
  | some r => exact ⟨r, 0, fun t => run_float_arith w .add t .f64 x y r h, rfl⟩
  | none =>
    obtain ⟨r, h1, h2, _⟩ := add_none x y w h
    exact ⟨r, 1, h1, cn_nan h2⟩
set_option maxRecDepth 100000 in
theorem sum_any (x y : Nat) (w : World) : Calls Try.prog 81 #[.agg #[.float .f64 x, .float .f64 y]] w fun e w' => ∃ z, e = .returned (.float .f64 z) ∧ Hid (cn z = addV x y) ∧ Below w.heap.size w w' := by
  have HB := Lib.hid (Below.alloc (Below.refl w.heap.size w) (Nat.le_refl _) (.cells #[.float .f64 x, .float .f64 y] 66))
  obtain ⟨r, n, h1, h2⟩ := add_both x y (w.alloc (.cells #[.float .f64 x, .float .f64 y] 66))
  have h3 := h1 22
  have HR := Lib.hid h2
  clear h1 h2
  go_enter Try.func81, Try.ntmps81
  go_wp2
  go_ret
  exact ⟨r, rfl, HR, below_drewN' HB.out n⟩
theorem nbin_sum (x y : Nat) (w : World) : Calls Try.prog 26 #[.string ⟨#[43]⟩, .float .f64 x, .float .f64 y] w fun e w' => e = .returned (.tuple #[.float .f64 (addV x y), .int .i64 0]) ∧ Below w.heap.size w w' :=
  binary_at2 0 (by omega) x y _ w (fun W => sum_any x y W)
set_option maxRecDepth 100000 in
theorem qbin_sum (x y : Nat) (w : World) : Calls Try.prog 27 #[.string ⟨#[43]⟩, .float .f64 x, .float .f64 y] w fun e w' => e = .returned (.tuple #[.float .f64 (addV x y), .int .i64 0]) ∧ Below w.heap.size w w' := by
  obtain ⟨r, n, h1, h2⟩ := add_both x y w
  have h3 := h1 22
  have C1 := Lib.hid (fun W => plain_any r W)
  rw [h2] at C1
  clear h1 h2
  go_enter Try.func27, Try.ntmps27
  go_wp2_with fail
  refine (C1.out _).mono ?_
  rintro e w' ⟨rfl, rfl⟩
  go_wp2
  go_ret2
  exact ⟨rfl, below_drewN' (Below.refl _ _) n⟩
def subV (x y : Nat) : Nat := match Ieee.double.sub x y with
  | some r => cn r
  | none => 9221120237041090560
theorem sumsub_none (x y : Nat) (w : World) (h : Ieee.double.sub x y = none) : ∃ r, (∀ t, (binOp .sub t (.float .f64 x) (.float .f64 y)).run Try.prog w = .ok (.float .f64 r) (w.drewN 1)) ∧ fnan r = true ∧ r < 18446744073709551616 := by
  have h2 : FloatKind.f64.format.sub x y = none := h
  have hf : (Question.nanBits .f64 x y).forced = false := rfl
  exact ⟨(Question.nanBits .f64 x y).cut (w.tape w.drawn (.nanBits .f64 x y)), fun t => by simp [binOp, Op.floatArith, h2, hf]; rfl, cut_nan _ _ _⟩
theorem sub_both (x y : Nat) (w : World) : ∃ r n, (∀ t, (binOp .sub t (.float .f64 x) (.float .f64 y)).run Try.prog w = .ok (.float .f64 r) (w.drewN n)) ∧ cn r = subV x y := by
  unfold subV
  cases h : Ieee.double.sub x y with
  | some r => exact ⟨r, 0, fun t => run_float_arith w .sub t .f64 x y r h, rfl⟩
  | none =>
    obtain ⟨r, h1, h2, _⟩ := sumsub_none x y w h
    exact ⟨r, 1, h1, cn_nan h2⟩
set_option maxRecDepth 100000 in
theorem difference_any (x y : Nat) (w : World) : Calls Try.prog 82 #[.agg #[.float .f64 x, .float .f64 y]] w fun e w' => ∃ z, e = .returned (.float .f64 z) ∧ Hid (cn z = subV x y) ∧ Below w.heap.size w w' := by
  have HB := Lib.hid (Below.alloc (Below.refl w.heap.size w) (Nat.le_refl _) (.cells #[.float .f64 x, .float .f64 y] 66))
  obtain ⟨r, n, h1, h2⟩ := sub_both x y (w.alloc (.cells #[.float .f64 x, .float .f64 y] 66))
  have h3 := h1 22
  have HR := Lib.hid h2
  clear h1 h2
  go_enter Try.func82, Try.ntmps82
  go_wp2
  go_ret
  exact ⟨r, rfl, HR, below_drewN' HB.out n⟩
theorem nbin_difference (x y : Nat) (w : World) : Calls Try.prog 26 #[.string ⟨#[45]⟩, .float .f64 x, .float .f64 y] w fun e w' => e = .returned (.tuple #[.float .f64 (subV x y), .int .i64 0]) ∧ Below w.heap.size w w' :=
  binary_at2 1 (by omega) x y _ w (fun W => difference_any x y W)
set_option maxRecDepth 100000 in
theorem qbin_difference (x y : Nat) (w : World) : Calls Try.prog 27 #[.string ⟨#[45]⟩, .float .f64 x, .float .f64 y] w fun e w' => e = .returned (.tuple #[.float .f64 (subV x y), .int .i64 0]) ∧ Below w.heap.size w w' := by
  obtain ⟨r, n, h1, h2⟩ := sub_both x y w
  have h3 := h1 22
  have C1 := Lib.hid (fun W => plain_any r W)
  rw [h2] at C1
  clear h1 h2
  go_enter Try.func27, Try.ntmps27
  go_wp2_with fail
  refine (C1.out _).mono ?_
  rintro e w' ⟨rfl, rfl⟩
  go_wp2
  go_ret2
  exact ⟨rfl, below_drewN' (Below.refl _ _) n⟩
def mulV (x y : Nat) : Nat := match Ieee.double.mul x y with
  | some r => cn r
  | none => 9221120237041090560
theorem mul_none (x y : Nat) (w : World) (h : Ieee.double.mul x y = none) : ∃ r, (∀ t, (binOp .mul t (.float .f64 x) (.float .f64 y)).run Try.prog w = .ok (.float .f64 r) (w.drewN 1)) ∧ fnan r = true ∧ r < 18446744073709551616 := by
  have h2 : FloatKind.f64.format.mul x y = none := h
  have hf : (Question.nanBits .f64 x y).forced = false := rfl
  exact ⟨(Question.nanBits .f64 x y).cut (w.tape w.drawn (.nanBits .f64 x y)), fun t => by simp [binOp, Op.floatArith, h2, hf]; rfl, cut_nan _ _ _⟩
theorem mul_both (x y : Nat) (w : World) : ∃ r n, (∀ t, (binOp .mul t (.float .f64 x) (.float .f64 y)).run Try.prog w = .ok (.float .f64 r) (w.drewN n)) ∧ cn r = mulV x y := by
  unfold mulV
  cases h : Ieee.double.mul x y with
  | some r => exact ⟨r, 0, fun t => run_float_arith w .mul t .f64 x y r h, rfl⟩
  | none =>
    obtain ⟨r, h1, h2, _⟩ := mul_none x y w h
    exact ⟨r, 1, h1, cn_nan h2⟩
set_option maxRecDepth 100000 in
theorem product_any (x y : Nat) (w : World) : Calls Try.prog 83 #[.agg #[.float .f64 x, .float .f64 y]] w fun e w' => ∃ z, e = .returned (.float .f64 z) ∧ Hid (cn z = mulV x y) ∧ Below w.heap.size w w' := by
  have HB := Lib.hid (Below.alloc (Below.refl w.heap.size w) (Nat.le_refl _) (.cells #[.float .f64 x, .float .f64 y] 66))
  obtain ⟨r, n, h1, h2⟩ := mul_both x y (w.alloc (.cells #[.float .f64 x, .float .f64 y] 66))
  have h3 := h1 22
  have HR := Lib.hid h2
  clear h1 h2
  go_enter Try.func83, Try.ntmps83
  go_wp2
  go_ret
  exact ⟨r, rfl, HR, below_drewN' HB.out n⟩
theorem nbin_product (x y : Nat) (w : World) : Calls Try.prog 26 #[.string ⟨#[42]⟩, .float .f64 x, .float .f64 y] w fun e w' => e = .returned (.tuple #[.float .f64 (mulV x y), .int .i64 0]) ∧ Below w.heap.size w w' :=
  binary_at2 2 (by omega) x y _ w (fun W => product_any x y W)
set_option maxRecDepth 100000 in
theorem qbin_product (x y : Nat) (w : World) : Calls Try.prog 27 #[.string ⟨#[42]⟩, .float .f64 x, .float .f64 y] w fun e w' => e = .returned (.tuple #[.float .f64 (mulV x y), .int .i64 0]) ∧ Below w.heap.size w w' := by
  obtain ⟨r, n, h1, h2⟩ := mul_both x y w
  have h3 := h1 22
  have C1 := Lib.hid (fun W => plain_any r W)
  rw [h2] at C1
  clear h1 h2
  go_enter Try.func27, Try.ntmps27
  go_wp2_with fail
  refine (C1.out _).mono ?_
  rintro e w' ⟨rfl, rfl⟩
  go_wp2
  go_ret2
  exact ⟨rfl, below_drewN' (Below.refl _ _) n⟩
def divV (x y : Nat) : Nat := match Ieee.double.div x y with
  | some r => cn r
  | none => 9221120237041090560
theorem div_none (x y : Nat) (w : World) (h : Ieee.double.div x y = none) : ∃ r, (∀ t, (binOp .quo t (.float .f64 x) (.float .f64 y)).run Try.prog w = .ok (.float .f64 r) (w.drewN 1)) ∧ fnan r = true ∧ r < 18446744073709551616 := by
  have h2 : FloatKind.f64.format.div x y = none := h
  have hf : (Question.nanBits .f64 x y).forced = false := rfl
  exact ⟨(Question.nanBits .f64 x y).cut (w.tape w.drawn (.nanBits .f64 x y)), fun t => by simp [binOp, Op.floatArith, h2, hf]; rfl, cut_nan _ _ _⟩
theorem div_both (x y : Nat) (w : World) : ∃ r n, (∀ t, (binOp .quo t (.float .f64 x) (.float .f64 y)).run Try.prog w = .ok (.float .f64 r) (w.drewN n)) ∧ cn r = divV x y := by
  unfold divV
  cases h : Ieee.double.div x y with
  | some r => exact ⟨r, 0, fun t => run_float_arith w .quo t .f64 x y r h, rfl⟩
  | none =>
    obtain ⟨r, h1, h2, _⟩ := div_none x y w h
    exact ⟨r, 1, h1, cn_nan h2⟩
set_option maxRecDepth 100000 in
theorem quotient_any (x y : Nat) (w : World) : Calls Try.prog 84 #[.agg #[.float .f64 x, .float .f64 y]] w fun e w' => ∃ z, e = .returned (.float .f64 z) ∧ Hid (cn z = divV x y) ∧ Below w.heap.size w w' := by
  have HB := Lib.hid (Below.alloc (Below.refl w.heap.size w) (Nat.le_refl _) (.cells #[.float .f64 x, .float .f64 y] 66))
  obtain ⟨r, n, h1, h2⟩ := div_both x y (w.alloc (.cells #[.float .f64 x, .float .f64 y] 66))
  have h3 := h1 22
  have HR := Lib.hid h2
  clear h1 h2
  go_enter Try.func84, Try.ntmps84
  go_wp2
  go_ret
  exact ⟨r, rfl, HR, below_drewN' HB.out n⟩
theorem nbin_quotient (x y : Nat) (w : World) : Calls Try.prog 26 #[.string ⟨#[47]⟩, .float .f64 x, .float .f64 y] w fun e w' => e = .returned (.tuple #[.float .f64 (divV x y), .int .i64 0]) ∧ Below w.heap.size w w' :=
  binary_at2 3 (by omega) x y _ w (fun W => quotient_any x y W)
set_option maxRecDepth 100000 in
theorem qbin_quotient (x y : Nat) (w : World) : Calls Try.prog 27 #[.string ⟨#[47]⟩, .float .f64 x, .float .f64 y] w fun e w' => e = .returned (.tuple #[.float .f64 (divV x y), .int .i64 0]) ∧ Below w.heap.size w w' := by
  obtain ⟨r, n, h1, h2⟩ := div_both x y w
  have h3 := h1 22
  have C1 := Lib.hid (fun W => plain_any r W)
  rw [h2] at C1
  clear h1 h2
  go_enter Try.func27, Try.ntmps27
  go_wp2_with fail
  refine (C1.out _).mono ?_
  rintro e w' ⟨rfl, rfl⟩
  go_wp2
  go_ret2
  exact ⟨rfl, below_drewN' (Below.refl _ _) n⟩
end Go.Proofs.Ytacmbbjmcdbcnaa
