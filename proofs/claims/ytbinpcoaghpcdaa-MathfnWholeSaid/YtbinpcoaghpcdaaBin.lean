/-
  The contract of Binary of the program: the row of the table that bears the operator is reckoned.
-/
import Derived.Test.YtbinpcoaghpcdaaMod
import Derived.Deep.WholeRow
import Derived.Laws.EntriesVeiled
namespace Go.Proofs.Ytbinpcoaghpcdaa
open Go.RowKit
def binVals : List Value := [.string ⟨#[43]⟩, .func (.func 94) #[] #[], .string ⟨#[45]⟩, .func (.func 95) #[] #[], .string ⟨#[42]⟩, .func (.func 96) #[] #[], .string ⟨#[47]⟩, .func (.func 97) #[] #[], .string ⟨#[37]⟩, .func (.func 98) #[] #[], .string ⟨#[38]⟩, .func (.func 99) #[] #[], .string ⟨#[124]⟩, .func (.func 100) #[] #[], .string ⟨#[94]⟩, .func (.func 101) #[] #[], .string ⟨#[60, 60]⟩, .func (.func 102) #[] #[], .string ⟨#[62, 62]⟩, .func (.func 103) #[] #[], .string ⟨#[62, 62, 62]⟩, .func (.func 104) #[] #[]]
def binZero : List Value := [.string ⟨#[]⟩, .nilFunc, .string ⟨#[]⟩, .nilFunc, .string ⟨#[]⟩, .nilFunc, .string ⟨#[]⟩, .nilFunc, .string ⟨#[]⟩, .nilFunc, .string ⟨#[]⟩, .nilFunc, .string ⟨#[]⟩, .nilFunc, .string ⟨#[]⟩, .nilFunc, .string ⟨#[]⟩, .nilFunc, .string ⟨#[]⟩, .nilFunc, .string ⟨#[]⟩, .nilFunc]
/-- The operators, and the functions that reckon them. -/
def bop : Nat → ByteArray
  | 0 => ⟨#[43]⟩
  | 1 => ⟨#[45]⟩
  | 2 => ⟨#[42]⟩
  | 3 => ⟨#[47]⟩
  | 4 => ⟨#[37]⟩
  | 5 => ⟨#[38]⟩
  | 6 => ⟨#[124]⟩
  | 7 => ⟨#[94]⟩
  | 8 => ⟨#[60, 60]⟩
  | 9 => ⟨#[62, 62]⟩
  | 10 => ⟨#[62, 62, 62]⟩
  | _ => ⟨#[]⟩
def bfn : Nat → Nat
  | 0 => 94
  | 1 => 95
  | 2 => 96
  | 3 => 97
  | 4 => 98
  | 5 => 99
  | 6 => 100
  | 7 => 101
  | 8 => 102
  | 9 => 103
  | 10 => 104
  | _ => 0
theorem bin_index (w : World) : ∀ k : Nat, k < 11 → (Instr.index 57 (.agg binVals.toArray) (.int .i64 (k : Int))).run Try.prog w = .ok (.agg #[.string (bop k), .func (.func (bfn k)) #[] #[]]) w
  | 0, _ => rfl
  | 1, _ => rfl
  | 2, _ => rfl
  | 3, _ => rfl
  | 4, _ => rfl
  | 5, _ => rfl
  | 6, _ => rfl
  | 7, _ => rfl
  | 8, _ => rfl
  | 9, _ => rfl
  | 10, _ => rfl
  | _ + 11, h => absurd h (by omega)
theorem bin_call (w : World) : ∀ k : Nat, k < 11 → ∀ args : Array Value, (callFunc (bfn k) args).run Try.prog w = .ok (.enter (bfn k) args) w
  | 0, _, args => Try.call94 args w
  | 1, _, args => Try.call95 args w
  | 2, _, args => Try.call96 args w
  | 3, _, args => Try.call97 args w
  | 4, _, args => Try.call98 args w
  | 5, _, args => Try.call99 args w
  | 6, _, args => Try.call100 args w
  | 7, _, args => Try.call101 args w
  | 8, _, args => Try.call102 args w
  | 9, _, args => Try.call103 args w
  | 10, _, args => Try.call104 args w
  | _ + 11, h, _ => absurd h (by omega)
theorem bop_ne : ∀ i : Fin 11, ∀ k : Fin 11, k.val < i.val → ((bop k.val).toList == (bop i.val).toList) = false := by decide +kernel
theorem results_cell_one {fn : Func} {p : Tmp} {ty : TypeId} (h : fn.results = #[.cell p ty]) (tmps : Array Value) (P : Program) (w : World) (a : Addr) (v : Value) (ha : tmps.getD p undef = .pointer (some a)) (hl : (loadVar ty a).run P w = .ok v w) : (results fn tmps).run P w = .ok v w := by
  simp only [results, h]
  simp [-Array.getD_eq_getD_getElem?, ha, asAddr, hl]
set_option maxHeartbeats 1000000 in
theorem binaries_any (w : World) : Calls Try.prog 85 #[] w fun e w' => e = .returned (.agg binVals.toArray) ∧ w' = w.alloc (.cells binVals.toArray 57) := by
  go_enter Try.func85, Try.ntmps85
  go_wp2_with (first | (refine wpList_store_row rfl 57 _ _ rfl w.heap.size binVals.toArray rfl rfl 57 binZero.toArray (heap_alloc_last w _) (by kernel_rfl) rfl (by kernel_rfl) ?_; rw [World.setRow_alloc_new]))
  exact bodyPost_ret (results_cell_one rfl _ _ _ _ _ rfl (run_loadVar_new w 57 binVals.toArray 11 _ Try.underlying57 (by kernel_rfl))) rfl ⟨rfl, rfl⟩
set_option maxRecDepth 100000 in
set_option maxHeartbeats 1000000 in
theorem binary_at (i : Nat) (hi : i < 11) (x y r : Nat) (w : World) (hr : ∀ W, Calls Try.prog (bfn i) #[.agg #[.float .f64 x, .float .f64 y]] W fun e w' => e = .returned (.float .f64 r) ∧ Below W.heap.size W w') : Calls Try.prog 74 #[.string (bop i), .float .f64 x, .float .f64 y] w fun e w' => e = .returned (.tuple #[.float .f64 (cn r), .int .i64 0]) ∧ Below w.heap.size w w' := by
  have C1 := Lib.hid (fun W => binaries_any W)
  have C2 := Lib.hid hr
  have C3 := Lib.hid (fun W => told_any r W)
  have HI := Lib.hid hi
  have HX := Lib.hid (fun W k hk => bin_index W k hk)
  obtain ⟨V, hV⟩ : ∃ V, binVals.toArray = V := ⟨_, rfl⟩
  rw [hV] at C1 HX
  clear hV
  obtain ⟨op, hop⟩ : ∃ op, bop i = op := ⟨_, rfl⟩
  obtain ⟨f, hf⟩ : ∃ f, bfn i = f := ⟨_, rfl⟩
  rw [hf] at C2
  rw [hop]
  have HOP := Lib.hid hop
  have HF := Lib.hid hf
  clear hr hi hop hf
  go_enter Try.func74, Try.ntmps74
  go_wp2_with fail
  refine (C1.out _).mono ?_
  rintro e w' ⟨rfl, rfl⟩
  have B1 := Lib.hid (Below.alloc (Below.refl w.heap.size w) (Nat.le_refl _) (.cells V 57))
  go_wp2_with fail
  go_loopw [11] (fun v11 wr => ∃ k : Nat, v11 = .int .i64 (k : Nat) ∧ Hid (k ≤ i) ∧ Below w.heap.size w wr) (fun v11 _ => (11 - intOf v11).toNat)
  case atStart => exact ⟨0, rfl, Lib.hid (Nat.zero_le _), B1.out⟩
  case round =>
    obtain ⟨k, rfl, HK, HB⟩ := hrel
    have hk11 : k < 11 := by have := HK.out; have := HI.out; omega
    have hidx := HX.out wr k hk11
    have t1 : decide ((k : Int) < 11) = true := decide_eq_true (by omega)
    have HB2 := Lib.hid (HB.alloc HB.size (.cells #[.string (bop k), .func (.func (bfn k)) #[] #[]] 56))
    have hcl := fun W => bin_call W k hk11 #[.agg #[.float .f64 x, .float .f64 y]]
    by_cases hki : k = i
    · have h1 : bop k = op := by rw [hki]; exact HOP.out
      have h2 : bfn k = f := by rw [hki]; exact HF.out
      rw [h1, h2] at hidx HB2
      rw [h2] at hcl
      clear h1 h2 hki hk11
      have hcall := hcl
      go_wp2_with fail
      refine (C2.out _).mono ?_
      rintro e w1 ⟨rfl, b1⟩
      have B2 := HB2.out.trans (b1.mono HB2.out.size)
      go_wp2_with fail
      refine (C3.out _).mono ?_
      rintro e w2 ⟨rfl, rfl⟩
      go_wp2
      go_ret2
      exact ⟨rfl, B2⟩
    · have hne : ((bop k).toList == op.toList) = false := by
        rw [← HOP.out]
        exact bop_ne ⟨i, HI.out⟩ ⟨k, hk11⟩ (by have := HK.out; show k < i; omega)
      have k1 : IntKind.i64.wrap ((k : Int) + 1) = ((k + 1 : Nat) : Int) := by rw [IntWalk.i64_in _ (by omega)]; omega
      have HK1 := Lib.hid (show k + 1 ≤ i by have := HK.out; omega)
      obtain ⟨o, ho⟩ : ∃ o, bop k = o := ⟨_, rfl⟩
      obtain ⟨g, hg⟩ : ∃ g, bfn k = g := ⟨_, rfl⟩
      rw [ho] at hne hidx HB2
      rw [hg] at hidx HB2
      have HK11 := Lib.hid hk11
      clear ho hg hki hk11 hcl
      go_wp2
      go_roundw
      case rel => exact ⟨k + 1, by go_num, HK1, HB2.out⟩
      case measure => have := HK11.out; simp [intOf]; omega

end Go.Proofs.Ytbinpcoaghpcdaa
