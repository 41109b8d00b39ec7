/-
  Contract of shiftRight.
-/
import Derived.Test.YtlabblkonkhmgaaDoorShl
namespace Go.Proofs.YtlabblkonkhmgaaDoor
open Go.RowKit
theorem or_shr (x y s : Nat) (hs : s ≤ 32) (hx : x < 4294967296) : bits BinOp.or IntKind.u32 ((x : Int) / 2 ^ s) ((y : Int) * 2 ^ (32 - s) % 4294967296) = ((y * 2 ^ (32 - s) % 4294967296 + x / 2 ^ s : Nat) : Int) := by
  have h := or_low y x (32 - s) (by omega) hx
  rw [show 32 - (32 - s) = s by omega] at h
  have h1 : x / 2 ^ s < 4294967296 := Nat.lt_of_le_of_lt (Nat.div_le_self _ _) hx
  have h2 : y * 2 ^ (32 - s) % 4294967296 < 4294967296 := Nat.mod_lt _ (by omega)
  rw [← h, Nat.or_comm, ← or_u32 _ _ h1 h2, Int.natCast_ediv, Int.natCast_emod, Int.natCast_mul, Int.natCast_pow, Int.natCast_pow]
  rfl
set_option maxRecDepth 100000 in
set_option maxHeartbeats 4000000 in
theorem shr_any (g o n c s : Nat) (R : List Nat) (A : Option Addr) (m d : Nat) (b : List Nat) (B : Nat) (w : World) (hR : Row w g R) (hRw : Ws R) (ho : o + n ≤ R.length) (hbl : b.length = m) (hm : m ≤ 35184372087808) (hn : n ≤ 35184372087808)
    (hB : RW w B A b) (hgB : B ≤ g) (hs : s < 32) :
    Calls Tryd.prog 61 #[.slice (some ⟨g, o, none⟩) n c, .slice A m d, .int .i64 s] w (fun e w' => e = .returned (.tuple #[]) ∧ ∃ S, ShrP R o b s n S ∧ Row w' g S ∧ Below g w w') := by
  have hn1 : (n : Int) ≤ 35184372087808 := by omega
  have hs1 : (s : Int) < 32 := by omega
  have hs0 : (0 : Int) ≤ (s : Int) := by omega
  have hB2 := Lib.hid hB
  have HR := Lib.hid hR
  have HSTART := Lib.hid (ShrP.start o b s hRw)
  clear hR
  go_enter Tryd.func61, Tryd.ntmps61
  go_wp2
  go_loopw [9] (fun i wr => ∃ (k : Nat) (S : List Nat), i = .int .i64 k ∧ k ≤ n ∧ Hid (Row wr g S) ∧ Hid (ShrP R o b s k S) ∧ Below g w wr) (fun i _ => n - (intOf i).toNat)
  case atStart => exact ⟨0, R, rfl, Nat.zero_le _, HR, HSTART, Below.refl _ _⟩
  case round =>
    obtain ⟨k, S, rfl, hk, HRS, HS, hbw⟩ := hrel
    by_cases hlt : k < n
    · have hS := HRS.out.cell (o + k) (by have := HS.out.len; omega)
      have hfz := HRS.out.frozen (o + k)
      have HNX := Lib.hid (HS.out.next hB2.out.1 (by omega) (by have := HS.out.len; omega))
      have HROW := Lib.hid (HRS.out.set (o + k) (shrW b s k))
      have C1 := Lib.hid (fun W (hW : Below g w W) => word_nat A m d k b B W hbl (by omega) (hB2.out.below (hW.mono hgB)))
      have C2 := Lib.hid (fun W (hW : Below g w W) => word_nat A m d (k + 1) b B W hbl (by omega) (hB2.out.below (hW.mono hgB)))
      have hbd := below_drewN' hbw 1
      have HBS := Lib.hid (show Below g w (wr.setCell ⟨g, o + k, none⟩ (.int .u32 (shrW b s k : Nat))) from hbw.setCell (Nat.le_refl _) _)
      obtain ⟨x, hx⟩ : ∃ x, b.getD k 0 = x := ⟨_, rfl⟩
      rw [hx] at C1
      obtain ⟨y, hy⟩ : ∃ y, b.getD (k + 1) 0 = y := ⟨_, rfl⟩
      rw [hy] at C2
      rw [show ((k + 1 : Nat) : Int) = (k : Int) + 1 by omega] at C2
      have HW := Lib.hid (show ((shrW b s k : Nat) : Int) = bits BinOp.or IntKind.u32 ((x : Int) / 2 ^ s) ((y : Int) * 2 ^ (32 - s) % 4294967296) by
        rw [or_shr x y s (by omega) (by rw [← hx]; exact hB2.out.1.getD k)]
        unfold shrW; rw [hx, hy])
      have hkk : (k : Int) < (n : Int) := by omega
      have e1 : IntKind.i64.wrap ((k : Int) + 1) = (k : Int) + 1 := IntWalk.i64_in _ (by omega)
      have e2 : IntKind.i64.wrap (32 - (s : Int)) = 32 - (s : Int) := IntWalk.i64_in _ (by omega)
      have e3 : (0 : Int) ≤ 32 - (s : Int) := by omega
      clear hx hy hB ho hbl hk
      go_wp2
      go_region_with (first
            | (go_at_call 46; (with_reducible refine (C1.out _ ?_).mono ?_); exact hbd; rintro e w' ⟨rfl, rfl⟩)
            | (go_at_call 46; (with_reducible refine (C2.out _ ?_).mono ?_); exact hbd; rintro e w' ⟨rfl, rfl⟩))
      all_goals
        go_wp2_with fail
        rw [← HW.out]
        exact ⟨⟨k + 1, _, by go_num, hlt, HROW, HNX, below_drewN' HBS.out 1⟩, by simp [intOf]; omega⟩
    · have hkn : k = n := by omega
      subst hkn
      clear hlt hbl
      go_wp2
      go_end0
      exact ⟨rfl, S, HS.out, HRS.out, hbw⟩
end Go.Proofs.YtlabblkonkhmgaaDoor
