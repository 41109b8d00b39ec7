/-
  The methods of two numbers that reckon; Binary of both at them.
-/
import Derived.Test.YtbinpcoaghpcdaaShf
import Derived.Test.YtbinpcoaghpcdaaFs
import Derived.Test.YtbinpcoaghpcdaaLawH
namespace Go.Proofs.Ytbinpcoaghpcdaa
open Go.RowKit
set_option maxRecDepth 100000 in
set_option maxHeartbeats 1000000 in
theorem binary_at2 (i : Nat) (hi : i < 11) (x y r : Nat) (w : World) (hr : ∀ W, Calls Try.prog (bfn i) #[.agg #[.float .f64 x, .float .f64 y]] W fun e w' => ∃ y, e = .returned (.float .f64 y) ∧ Hid (cn y = r) ∧ Below W.heap.size W w') : Calls Try.prog 74 #[.string (bop i), .float .f64 x, .float .f64 y] w fun e w' => e = .returned (.tuple #[.float .f64 r, .int .i64 0]) ∧ Below w.heap.size w w' := by
  have C1 := Lib.hid (fun W => binaries_any W)
  have C2 := Lib.hid hr
  have C3 := Lib.hid (fun z W => told_any z W)
  have HI := Lib.hid hi
  have HX := Lib.hid (fun W k hk => bin_index W k hk)
  obtain ⟨V, hV⟩ : ∃ V, binVals.toArray = V := ⟨_, rfl⟩
  rw [hV] at C1 HX
  clear hV
  obtain ⟨op, hop⟩ : ∃ op, bop i = op := ⟨_, rfl⟩
  obtain ⟨f, hf⟩ : ∃ f, bfn i = f := ⟨_, rfl⟩
  rw [hf] at C2
  rw [hop]
  have HOP := Lib.hid hop
  have HF := Lib.hid hf
  clear hr hi hop hf
  go_enter Try.func74, Try.ntmps74
  go_wp2_with fail
  refine (C1.out _).mono ?_
  rintro e w' ⟨rfl, rfl⟩
  have B1 := Lib.hid (Below.alloc (Below.refl w.heap.size w) (Nat.le_refl _) (.cells V 57))
  go_wp2_with fail
  go_loopw [11] (fun v11 wr => ∃ k : Nat, v11 = .int .i64 (k : Nat) ∧ Hid (k ≤ i) ∧ Below w.heap.size w wr) (fun v11 _ => (11 - intOf v11).toNat)
  case atStart => exact ⟨0, rfl, Lib.hid (Nat.zero_le _), B1.out⟩
  case round =>
    obtain ⟨k, rfl, HK, HB⟩ := hrel
    have hk11 : k < 11 := by have := HK.out; have := HI.out; omega
    have hidx := HX.out wr k hk11
    have t1 : decide ((k : Int) < 11) = true := decide_eq_true (by omega)
    have HB2 := Lib.hid (HB.alloc HB.size (.cells #[.string (bop k), .func (.func (bfn k)) #[] #[]] 56))
    have hcl := fun W => bin_call W k hk11 #[.agg #[.float .f64 x, .float .f64 y]]
    by_cases hki : k = i
    · have h1 : bop k = op := by rw [hki]; exact HOP.out
      have h2 : bfn k = f := by rw [hki]; exact HF.out
      rw [h1, h2] at hidx HB2
      rw [h2] at hcl
      clear h1 h2 hki hk11
      have hcall := hcl
      go_wp2_with fail
      refine (C2.out _).mono ?_
      rintro e w1 ⟨z, rfl, hz, b1⟩
      have B2 := HB2.out.trans (b1.mono HB2.out.size)
      go_wp2_with fail
      refine (C3.out _ _).mono ?_
      rintro e w2 ⟨rfl, rfl⟩
      go_wp2
      go_ret2
      exact ⟨congrArg (fun q => Ending.returned (.tuple #[.float .f64 q, .int .i64 0])) hz.out, B2⟩
    · have hne : ((bop k).toList == op.toList) = false := by
        rw [← HOP.out]
        exact bop_ne ⟨i, HI.out⟩ ⟨k, hk11⟩ (by have := HK.out; show k < i; omega)
      have k1 : IntKind.i64.wrap ((k : Int) + 1) = ((k + 1 : Nat) : Int) := by rw [IntWalk.i64_in _ (by omega)]; omega
      have HK1 := Lib.hid (show k + 1 ≤ i by have := HK.out; omega)
      obtain ⟨o, ho⟩ : ∃ o, bop k = o := ⟨_, rfl⟩
      obtain ⟨g, hg⟩ : ∃ g, bfn k = g := ⟨_, rfl⟩
      rw [ho] at hne hidx HB2
      rw [hg] at hidx HB2
      have HK11 := Lib.hid hk11
      clear ho hg hki hk11 hcl
      go_wp2
      go_roundw
      case rel => exact ⟨k + 1, by go_num, HK1, HB2.out⟩
      case measure => have := HK11.out; simp [intOf]; omega
end Go.Proofs.Ytbinpcoaghpcdaa
