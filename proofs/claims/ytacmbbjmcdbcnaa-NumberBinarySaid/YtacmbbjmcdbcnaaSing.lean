/-
  The methods of one number; Unary of both.
-/
import Derived.Test.YtacmbbjmcdbcnaaI32
import Derived.WideShapes
import Derived.WideShapes
import Derived.WideShapes
namespace Go.Proofs.Ytacmbbjmcdbcnaa
open Go.RowKit
theorem itself_any (x : Nat) (w : World) : Calls Try.prog 97 #[.float .f64 x] w fun e w' => e = .returned (.float .f64 x) ∧ w = w' := by
  go_enter Try.func97, Try.ntmps97
  go_wp2
  go_ret
  exact ⟨rfl, rfl⟩
theorem negative_any (x : Nat) (w : World) : Calls Try.prog 98 #[.float .f64 x] w fun e w' => e = .returned (.float .f64 (Op.negFloat .f64 x)) ∧ w = w' := by
  have r3 : ∀ W, (Op.unary UnOp.neg (.float .f64 x)).run Try.prog W = .ok (.float .f64 (Op.negFloat .f64 x)) W := fun W => rfl
  obtain ⟨y, hy⟩ : ∃ y, Op.negFloat .f64 x = y := ⟨_, rfl⟩
  rw [hy] at r3 ⊢
  clear hy
  go_enter Try.func98, Try.ntmps98
  go_wp2
  go_ret
  exact ⟨rfl, rfl⟩
/-- Not, bit by bit. -/
def notV (x : Nat) : Nat := floatOfInt .f64 (bits BinOp.xor IntKind.i32 (-1) (i32V x))
theorem notV_eq (x : Nat) : notV x = floatOfInt .f64 (bits BinOp.xor IntKind.i32 (-1) (i32V x)) := by unfold notV; rfl
theorem fint_real (n : Int) : fnan (floatOfInt .f64 n) = false ∧ floatOfInt .f64 n < 18446744073709551616 := near_real _ _ _
theorem not_any (x : Nat) (w : World) (hx : x < 18446744073709551616) : Calls Try.prog 99 #[.float .f64 x] w fun e w' => e = .returned (.float .f64 (notV x)) ∧ w = w' := by
  have C1 := Lib.hid (fun W => ni32_any x W hx)
  have hn : floatOfInt .f64 (bits BinOp.xor IntKind.i32 (-1) (i32V x)) = notV x := (notV_eq x).symm
  obtain ⟨i, hi⟩ : ∃ i, i32V x = i := ⟨_, rfl⟩
  obtain ⟨y, hy⟩ : ∃ y, notV x = y := ⟨_, rfl⟩
  rw [hi, hy] at hn
  rw [hi] at C1
  rw [hy]
  have HN := Lib.hid hn
  clear hx hi hy hn
  go_enter Try.func99, Try.ntmps99
  go_wp2_with fail
  refine (C1.out _).mono ?_
  rintro e w' ⟨rfl, rfl⟩
  go_wp2
  go_ret
  exact ⟨congrArg (fun z => Ending.returned (.float .f64 z)) HN.out, rfl⟩
/-- What an operator makes of one number. -/
def unR (i x : Nat) : Nat := if i = 0 then x else if i = 1 then Op.negFloat .f64 x else notV x
theorem nunary_any (i x : Nat) (hi : i < 3) (w : World) (hx : x < 18446744073709551616) : Calls Try.prog 28 #[.string (uop i), .float .f64 x] w fun e w' => e = .returned (.tuple #[.float .f64 (cn (unR i x)), .int .i64 0]) ∧ Below w.heap.size w w' := by
  refine unary_at i hi x (unR i x) w (fun W => ?_)
  have key : ∀ (f r : Nat), Calls Try.prog f #[.float .f64 x] W (fun e w' => e = .returned (.float .f64 r) ∧ W = w') → Calls Try.prog f #[.float .f64 x] W fun e w' => e = .returned (.float .f64 r) ∧ Below W.heap.size W w' :=
    fun f r h => h.mono fun e w' ⟨a, b⟩ => ⟨a, by subst b; exact Below.refl _ _⟩
  match i, hi with
  | 0, _ => exact key _ _ (itself_any x W)
  | 1, _ => exact key _ _ (negative_any x W)
  | 2, _ => exact key _ _ (by rw [show unR 2 x = notV x by unfold unR; rw [if_neg (by omega), if_neg (by omega)]]; exact not_any x W hx)
theorem str_ne {s t : ByteArray} (h : s ≠ t) : (s.toList == t.toList) = false := by
  cases e : (s.toList == t.toList)
  · rfl
  · have h1 := eq_of_beq e
    rw [ByteArray.toList_eq, ByteArray.toList_eq] at h1
    exact absurd (Go.WideShapes.bytes_inj h1) h
set_option maxRecDepth 100000 in
theorem qunary_0 (x : Nat) (w : World) : Calls Try.prog 29 #[.string ⟨#[43]⟩, .float .f64 x] w fun e w' => e = .returned (.tuple #[.float .f64 (cn (unR 0 x)), .int .i64 0]) ∧ Below w.heap.size w w' := by
  have C1 := Lib.hid (fun W => plain_any x W)
  rw [show unR 0 x = x from rfl]
  go_enter Try.func29, Try.ntmps29
  go_wp2_with fail
  refine (C1.out _).mono ?_
  rintro e w' ⟨rfl, rfl⟩
  go_wp2
  go_ret2
  exact ⟨rfl, Below.refl _ _⟩
set_option maxRecDepth 100000 in
theorem qunary_1 (x : Nat) (w : World) : Calls Try.prog 29 #[.string ⟨#[45]⟩, .float .f64 x] w fun e w' => e = .returned (.tuple #[.float .f64 (cn (unR 1 x)), .int .i64 0]) ∧ Below w.heap.size w w' := by
  have r3 : ∀ W, (Op.unary UnOp.neg (.float .f64 x)).run Try.prog W = .ok (.float .f64 (Op.negFloat .f64 x)) W := fun W => rfl
  have C1 := Lib.hid (fun W => plain_any (Op.negFloat .f64 x) W)
  rw [show unR 1 x = Op.negFloat .f64 x from rfl]
  obtain ⟨y, hy⟩ : ∃ y, Op.negFloat .f64 x = y := ⟨_, rfl⟩
  rw [hy] at r3 C1 ⊢
  clear hy
  go_enter Try.func29, Try.ntmps29
  go_wp2_with fail
  refine (C1.out _).mono ?_
  rintro e w' ⟨rfl, rfl⟩
  go_wp2
  go_ret2
  exact ⟨rfl, Below.refl _ _⟩
set_option maxRecDepth 100000 in
theorem qunary_2 (x : Nat) (w : World) (hx : x < 18446744073709551616) : Calls Try.prog 29 #[.string ⟨#[126]⟩, .float .f64 x] w fun e w' => e = .returned (.tuple #[.float .f64 (cn (unR 2 x)), .int .i64 0]) ∧ Below w.heap.size w w' := by
  have C1 := Lib.hid (fun W => qi32_any x W hx)
  have hn : floatOfInt .f64 (bits BinOp.xor IntKind.i32 (-1) (i32V x)) = cn (unR 2 x) := by
    have h1 : unR 2 x = notV x := by unfold unR; rw [if_neg (by omega), if_neg (by omega)]
    rw [h1, notV_eq, cn_real (fint_real _).1]
  obtain ⟨i, hi⟩ : ∃ i, i32V x = i := ⟨_, rfl⟩
  obtain ⟨y, hy⟩ : ∃ y, cn (unR 2 x) = y := ⟨_, rfl⟩
  rw [hi, hy] at hn
  rw [hi] at C1
  rw [hy]
  have HN := Lib.hid hn
  clear hx hi hy hn
  go_enter Try.func29, Try.ntmps29
  go_wp2_with fail
  refine (C1.out _).mono ?_
  rintro e w' ⟨rfl, b⟩
  go_wp2
  go_ret2
  exact ⟨congrArg (fun z => Ending.returned (.tuple #[.float .f64 z, .int .i64 0])) HN.out, b⟩
set_option maxRecDepth 100000 in
theorem qunary_none (op : ByteArray) (x : Nat) (w : World) (h1 : (op.toList == [45]) = false) (h2 : (op.toList == [43]) = false) (h3 : (op.toList == [126]) = false) : Calls Try.prog 29 #[.string op, .float .f64 x] w fun e w' => e = .returned (.tuple #[.float .f64 0, .int .i64 1]) ∧ w = w' := by
  go_enter Try.func29, Try.ntmps29
  go_wp2
  go_ret2
  exact ⟨rfl, rfl⟩
set_option maxRecDepth 100000 in
theorem unaryLaw_low (op : ByteArray) (x r : Nat) (k : Int) (w : World)
    (C1 : RowKit.Hid (∀ W, Calls Try.prog 28 #[.string op, .float .f64 x] W fun e w' => e = .returned (.tuple #[.float .f64 r, .int .i64 k]) ∧ Below W.heap.size W w'))
    (C2 : RowKit.Hid (∀ W, Calls Try.prog 29 #[.string op, .float .f64 x] W fun e w' => e = .returned (.tuple #[.float .f64 r, .int .i64 k]) ∧ Below W.heap.size W w')) :
    Calls Try.prog 5 #[.string op, .float .f64 x] w fun e w' => e = .returned (.bool true) ∧ Below w.heap.size w w' := by
  have CS := Lib.hid (fun a W => same_any a W)
  have CA := Lib.hid (fun W => awake_any W)
  go_enter Try.func5, Try.ntmps5
  go_wp2_with fail
  refine (C1.out _).mono ?_
  rintro e w1 ⟨rfl, b1⟩
  go_wp2_with fail
  refine (C2.out _).mono ?_
  rintro e w2 ⟨rfl, b2⟩
  have B2 := below_le b1 b2
  go_wp2_with fail
  refine (CS.out _ _).mono ?_
  rintro e w' ⟨rfl, rfl⟩
  go_wp2_with fail
  refine (CA.out _).mono ?_
  rintro e w3 ⟨rfl, b3⟩
  have B3 := below_le B2 b3
  go_wp2
  go_ret
  exact ⟨rfl, B3⟩
theorem unary_any (op : ByteArray) (x : Nat) (w : World) (hx : x < 18446744073709551616) : Calls Try.prog 5 #[.string op, .float .f64 x] w fun e w' => e = .returned (.bool true) ∧ Below w.heap.size w w' := by
  by_cases h0 : op = ⟨#[43]⟩
  · subst h0
    exact unaryLaw_low _ x _ _ w (Lib.hid (fun W => nunary_any 0 x (by omega) W hx)) (Lib.hid (fun W => qunary_0 x W))
  · by_cases h1 : op = ⟨#[45]⟩
    · subst h1
      exact unaryLaw_low _ x _ _ w (Lib.hid (fun W => nunary_any 1 x (by omega) W hx)) (Lib.hid (fun W => qunary_1 x W))
    · by_cases h2 : op = ⟨#[126]⟩
      · subst h2
        exact unaryLaw_low _ x _ _ w (Lib.hid (fun W => nunary_any 2 x (by omega) W hx)) (Lib.hid (fun W => qunary_2 x W hx))
      · refine unaryLaw_low _ x 0 1 w (Lib.hid (fun W => unary_none op (fun k hk => ?_) x W)) (Lib.hid (fun W => (qunary_none op x W ?_ ?_ ?_).mono fun e w' ⟨a, b⟩ => ⟨a, by subst b; exact Below.refl _ _⟩))
        · match k, hk with
          | 0, _ => exact str_ne (Ne.symm h0)
          | 1, _ => exact str_ne (Ne.symm h1)
          | 2, _ => exact str_ne (Ne.symm h2)
        · have := str_ne h1; rwa [ByteArray.toList_mk [45]] at this
        · have := str_ne h0; rwa [ByteArray.toList_mk [43]] at this
        · have := str_ne h2; rwa [ByteArray.toList_mk [126]] at this
end Go.Proofs.Ytacmbbjmcdbcnaa
