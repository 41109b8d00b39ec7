/-
  The contract of Unary of the program: the row of the table that bears the operator is reckoned.
-/
import Derived.Test.YtacmbbjmcdbcnaaBin
namespace Go.Proofs.Ytacmbbjmcdbcnaa
open Go.RowKit
def unVals : List Value := [.string ⟨#[43]⟩, .func (.func 97) #[] #[], .string ⟨#[45]⟩, .func (.func 98) #[] #[], .string ⟨#[126]⟩, .func (.func 99) #[] #[]]
def unZero : List Value := [.string ⟨#[]⟩, .nilFunc, .string ⟨#[]⟩, .nilFunc, .string ⟨#[]⟩, .nilFunc]
/-- The operators, and the functions that reckon them. -/
def uop : Nat → ByteArray
  | 0 => ⟨#[43]⟩
  | 1 => ⟨#[45]⟩
  | 2 => ⟨#[126]⟩
  | _ => ⟨#[]⟩
def ufn : Nat → Nat
  | 0 => 97
  | 1 => 98
  | 2 => 99
  | _ => 0
theorem un_index (w : World) : ∀ k : Nat, k < 3 → (Instr.index 70 (.agg unVals.toArray) (.int .i64 (k : Int))).run Try.prog w = .ok (.agg #[.string (uop k), .func (.func (ufn k)) #[] #[]]) w
  | 0, _ => rfl
  | 1, _ => rfl
  | 2, _ => rfl
  | _ + 3, h => absurd h (by omega)
theorem un_call (w : World) : ∀ k : Nat, k < 3 → ∀ args : Array Value, (callFunc (ufn k) args).run Try.prog w = .ok (.enter (ufn k) args) w
  | 0, _, args => Try.call97 args w
  | 1, _, args => Try.call98 args w
  | 2, _, args => Try.call99 args w
  | _ + 3, h, _ => absurd h (by omega)
theorem uop_ne : ∀ i : Fin 3, ∀ k : Fin 3, k.val < i.val → ((uop k.val).toList == (uop i.val).toList) = false := by decide +kernel
set_option maxHeartbeats 1000000 in
theorem unaries_any (w : World) : Calls Try.prog 66 #[] w fun e w' => e = .returned (.agg unVals.toArray) ∧ w' = w.alloc (.cells unVals.toArray 70) := by
  go_enter Try.func66, Try.ntmps66
  go_wp2_with (first | (refine wpList_store_row rfl 70 _ _ rfl w.heap.size unVals.toArray rfl rfl 70 unZero.toArray (heap_alloc_last w _) (by kernel_rfl) rfl (by kernel_rfl) ?_; rw [World.setRow_alloc_new]))
  exact bodyPost_ret (results_cell_one rfl _ _ _ _ _ rfl (run_loadVar_new w 70 unVals.toArray 3 _ Try.underlying70 (by kernel_rfl))) rfl ⟨rfl, rfl⟩
set_option maxRecDepth 100000 in
set_option maxHeartbeats 1000000 in
theorem unary_at (i : Nat) (hi : i < 3) (x r : Nat) (w : World) (hr : ∀ W, Calls Try.prog (ufn i) #[.float .f64 x] W fun e w' => e = .returned (.float .f64 r) ∧ Below W.heap.size W w') : Calls Try.prog 28 #[.string (uop i), .float .f64 x] w fun e w' => e = .returned (.tuple #[.float .f64 (cn r), .int .i64 0]) ∧ Below w.heap.size w w' := by
  have C1 := Lib.hid (fun W => unaries_any W)
  have C2 := Lib.hid hr
  have C3 := Lib.hid (fun W => told_any r W)
  have HI := Lib.hid hi
  have HX := Lib.hid (fun W k hk => un_index W k hk)
  obtain ⟨V, hV⟩ : ∃ V, unVals.toArray = V := ⟨_, rfl⟩
  rw [hV] at C1 HX
  clear hV
  obtain ⟨op, hop⟩ : ∃ op, uop i = op := ⟨_, rfl⟩
  obtain ⟨f, hf⟩ : ∃ f, ufn i = f := ⟨_, rfl⟩
  rw [hf] at C2
  rw [hop]
  have HOP := Lib.hid hop
  have HF := Lib.hid hf
  clear hr hi hop hf
  go_enter Try.func28, Try.ntmps28
  go_wp2_with fail
  refine (C1.out _).mono ?_
  rintro e w' ⟨rfl, rfl⟩
  have B1 := Lib.hid (Below.alloc (Below.refl w.heap.size w) (Nat.le_refl _) (.cells V 70))
  go_wp2_with fail
  go_loopw [9] (fun v11 wr => ∃ k : Nat, v11 = .int .i64 (k : Nat) ∧ Hid (k ≤ i) ∧ Below w.heap.size w wr) (fun v11 _ => (3 - intOf v11).toNat)
  case atStart => exact ⟨0, rfl, Lib.hid (Nat.zero_le _), B1.out⟩
  case round =>
    obtain ⟨k, rfl, HK, HB⟩ := hrel
    have hk3 : k < 3 := by have := HK.out; have := HI.out; omega
    have hidx := HX.out wr k hk3
    have t1 : decide ((k : Int) < 3) = true := decide_eq_true (by omega)
    have HB2 := Lib.hid (HB.alloc HB.size (.cells #[.string (uop k), .func (.func (ufn k)) #[] #[]] 69))
    have hcl := fun W => un_call W k hk3 #[.float .f64 x]
    by_cases hki : k = i
    · have h1 : uop k = op := by rw [hki]; exact HOP.out
      have h2 : ufn k = f := by rw [hki]; exact HF.out
      rw [h1, h2] at hidx HB2
      rw [h2] at hcl
      clear h1 h2 hki hk3
      have hcall := hcl
      go_wp2_with fail
      refine (C2.out _).mono ?_
      rintro e w1 ⟨rfl, b1⟩
      have B2 := HB2.out.trans (b1.mono HB2.out.size)
      go_wp2_with fail
      refine (C3.out _).mono ?_
      rintro e w2 ⟨rfl, rfl⟩
      go_wp2
      go_ret2
      exact ⟨rfl, B2⟩
    · have hne : ((uop k).toList == op.toList) = false := by
        rw [← HOP.out]
        exact uop_ne ⟨i, HI.out⟩ ⟨k, hk3⟩ (by have := HK.out; show k < i; omega)
      have k1 : IntKind.i64.wrap ((k : Int) + 1) = ((k + 1 : Nat) : Int) := by rw [IntWalk.i64_in _ (by omega)]; omega
      have HK1 := Lib.hid (show k + 1 ≤ i by have := HK.out; omega)
      obtain ⟨o, ho⟩ : ∃ o, uop k = o := ⟨_, rfl⟩
      obtain ⟨g, hg⟩ : ∃ g, ufn k = g := ⟨_, rfl⟩
      rw [ho] at hne hidx HB2
      rw [hg] at hidx HB2
      have HK3 := Lib.hid hk3
      clear ho hg hki hk3 hcl
      go_wp2
      go_roundw
      case rel => exact ⟨k + 1, by go_num, HK1, HB2.out⟩
      case measure => have := HK3.out; simp [intOf]; omega
set_option maxRecDepth 100000 in
set_option maxHeartbeats 1000000 in
theorem unary_none (op : ByteArray) (hop : ∀ k : Nat, k < 3 → ((uop k).toList == op.toList) = false) (x : Nat) (w : World) : Calls Try.prog 28 #[.string op, .float .f64 x] w fun e w' => e = .returned (.tuple #[.float .f64 0, .int .i64 1]) ∧ Below w.heap.size w w' := by
  have C1 := Lib.hid (fun W => unaries_any W)
  have HX := Lib.hid (fun W k hk => un_index W k hk)
  obtain ⟨V, hV⟩ : ∃ V, unVals.toArray = V := ⟨_, rfl⟩
  rw [hV] at C1 HX
  have HOP := Lib.hid hop
  clear hV hop
  go_enter Try.func28, Try.ntmps28
  go_wp2_with fail
  refine (C1.out _).mono ?_
  rintro e w' ⟨rfl, rfl⟩
  have B1 := Lib.hid (Below.alloc (Below.refl w.heap.size w) (Nat.le_refl _) (.cells V 70))
  go_wp2_with fail
  go_loopw [9] (fun v11 wr => ∃ k : Nat, v11 = .int .i64 (k : Nat) ∧ Hid (k ≤ 3) ∧ Below w.heap.size w wr) (fun v11 _ => (3 - intOf v11).toNat)
  case atStart => exact ⟨0, rfl, Lib.hid (Nat.zero_le _), B1.out⟩
  case round =>
    obtain ⟨k, rfl, HK, HB⟩ := hrel
    by_cases hk11 : k < 3
    · have hidx := HX.out wr k hk11
      have t1 : decide ((k : Int) < 3) = true := decide_eq_true (by omega)
      have HB2 := Lib.hid (HB.alloc HB.size (.cells #[.string (uop k), .func (.func (ufn k)) #[] #[]] 69))
      have hne := HOP.out k hk11
      have k1 : IntKind.i64.wrap ((k : Int) + 1) = ((k + 1 : Nat) : Int) := by rw [IntWalk.i64_in _ (by omega)]; omega
      have HK1 := Lib.hid (show k + 1 ≤ 3 by omega)
      obtain ⟨o, ho⟩ : ∃ o, uop k = o := ⟨_, rfl⟩
      obtain ⟨g, hg⟩ : ∃ g, ufn k = g := ⟨_, rfl⟩
      rw [ho] at hne hidx HB2
      rw [hg] at hidx HB2
      have HK11 := Lib.hid hk11
      clear ho hg hk11 HOP
      go_wp2
      go_roundw
      case rel => exact ⟨k + 1, by go_num, HK1, HB2.out⟩
      case measure => have := HK11.out; simp [intOf]; omega
    · have t1 : decide ((k : Int) < 3) = false := decide_eq_false (by omega)
      have t2 : ¬ ((k : Int) < 3) := by omega
      clear hk11 HOP
      go_wp2
      go_ret2
      exact ⟨rfl, HB⟩
end Go.Proofs.Ytacmbbjmcdbcnaa
