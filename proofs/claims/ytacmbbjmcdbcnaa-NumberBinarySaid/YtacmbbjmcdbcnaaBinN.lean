/-
  The contract of Binary of the program at what is no operator.
-/
import Derived.Test.YtacmbbjmcdbcnaaBin
namespace Go.Proofs.Ytacmbbjmcdbcnaa
open Go.RowKit
set_option maxRecDepth 100000 in
set_option maxHeartbeats 1000000 in
theorem binary_none (op : ByteArray) (hop : ∀ k : Nat, k < 11 → ((bop k).toList == op.toList) = false) (x y : Nat) (w : World) : Calls Try.prog 26 #[.string op, .float .f64 x, .float .f64 y] w fun e w' => e = .returned (.tuple #[.float .f64 0, .int .i64 1]) ∧ Below w.heap.size w w' := by
  have C1 := Lib.hid (fun W => binaries_any W)
  have HX := Lib.hid (fun W k hk => bin_index W k hk)
  obtain ⟨V, hV⟩ : ∃ V, binVals.toArray = V := ⟨_, rfl⟩
  rw [hV] at C1 HX
  have HOP := Lib.hid hop
  clear hV hop
  go_enter Try.func26, Try.ntmps26
  go_wp2_with fail
  refine (C1.out _).mono ?_
  rintro e w' ⟨rfl, rfl⟩
  have B1 := Lib.hid (Below.alloc (Below.refl w.heap.size w) (Nat.le_refl _) (.cells V 63))
  go_wp2_with fail
  go_loopw [11] (fun v11 wr => ∃ k : Nat, v11 = .int .i64 (k : Nat) ∧ Hid (k ≤ 11) ∧ Below w.heap.size w wr) (fun v11 _ => (11 - intOf v11).toNat)
  case atStart => exact ⟨0, rfl, Lib.hid (Nat.zero_le _), B1.out⟩
  case round =>
    obtain ⟨k, rfl, HK, HB⟩ := hrel
    by_cases hk11 : k < 11
    · have hidx := HX.out wr k hk11
      have t1 : decide ((k : Int) < 11) = true := decide_eq_true (by omega)
      have HB2 := Lib.hid (HB.alloc HB.size (.cells #[.string (bop k), .func (.func (bfn k)) #[] #[]] 62))
      have hne := HOP.out k hk11
      have k1 : IntKind.i64.wrap ((k : Int) + 1) = ((k + 1 : Nat) : Int) := by rw [IntWalk.i64_in _ (by omega)]; omega
      have HK1 := Lib.hid (show k + 1 ≤ 11 by omega)
      obtain ⟨o, ho⟩ : ∃ o, bop k = o := ⟨_, rfl⟩
      obtain ⟨g, hg⟩ : ∃ g, bfn k = g := ⟨_, rfl⟩
      rw [ho] at hne hidx HB2
      rw [hg] at hidx HB2
      have HK11 := Lib.hid hk11
      clear ho hg hk11 HOP
      go_wp2
      go_roundw
      case rel => exact ⟨k + 1, by go_num, HK1, HB2.out⟩
      case measure => have := HK11.out; simp [intOf]; omega
    · have t1 : decide ((k : Int) < 11) = false := decide_eq_false (by omega)
      have t2 : ¬ ((k : Int) < 11) := by omega
      clear hk11 HOP
      go_wp2
      go_ret2
      exact ⟨rfl, HB⟩
end Go.Proofs.Ytacmbbjmcdbcnaa
