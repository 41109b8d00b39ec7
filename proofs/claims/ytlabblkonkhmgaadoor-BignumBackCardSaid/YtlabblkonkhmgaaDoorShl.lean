/-
  Contract of shiftLeft.
-/
import Derived.Test.YtlabblkonkhmgaaDoorPlain
import Derived.Test.YtlabblkonkhmgaaDoorOr
import Derived.Test.YtlabblkonkhmgaaDoorTimes
import Derived.Test.YtlabblkonkhmgaaDoorBits
import Derived.Test.YtlabblkonkhmgaaDoorTold
import Derived.Deep.RegionWith
namespace Go.Proofs.YtlabblkonkhmgaaDoor
open Go.RowKit
theorem or_cast (x y P Q : Nat) (hxy : x * P % 4294967296 < 4294967296) (hq : y / Q < 4294967296) : bits BinOp.or IntKind.u32 ((x : Int) * (P : Nat) % 4294967296) ((y : Int) / (Q : Nat)) = ((x * P % 4294967296 ||| y / Q : Nat) : Int) := by
  rw [← or_u32 _ _ hxy hq]; rfl
theorem or_shl (x y s : Nat) (hs : s < 32) (hy : y < 4294967296) : bits BinOp.or IntKind.u32 ((x : Int) * 2 ^ s % 4294967296) ((y : Int) / 2 ^ (32 - s)) = ((x * 2 ^ s % 4294967296 + y / 2 ^ (32 - s) : Nat) : Int) := by
  rw [← or_low x y s (by omega) hy, ← or_cast x y _ _ (Nat.mod_lt _ (by omega)) (Nat.lt_of_le_of_lt (Nat.div_le_self _ _) hy), Int.natCast_pow, Int.natCast_pow]
  rfl
theorem or_zero (x s : Nat) : bits BinOp.or IntKind.u32 ((x : Int) * 2 ^ s % 4294967296) 0 = ((x * 2 ^ s % 4294967296 + 0 : Nat) : Int) := by
  have h : x * 2 ^ s % 4294967296 < 4294967296 := Nat.mod_lt _ (by omega)
  have e : ((x : Int) * 2 ^ s % 4294967296) = ((x * 2 ^ s % 4294967296 : Nat) : Int) := by rw [Int.natCast_emod, Int.natCast_mul, Int.natCast_pow]; rfl
  rw [e, show (0 : Int) = ((0 : Nat) : Int) from rfl, or_u32 _ _ h (by omega), Nat.or_zero, Nat.add_zero]
set_option maxRecDepth 100000 in
set_option maxHeartbeats 4000000 in
theorem shl_any (g o n c s : Nat) (R : List Nat) (A : Option Addr) (m d : Nat) (b : List Nat) (B : Nat) (w : World) (hR : Row w g R) (hRw : Ws R) (ho : o + n ≤ R.length) (hbl : b.length = m) (hm : m ≤ 4096) (hn : n ≤ 4096)
    (hB : RW w B A b) (hgB : B ≤ g) (hs : s < 32) :
    Calls Tryd.prog 49 #[.slice (some ⟨g, o, none⟩) n c, .slice A m d, .int .i64 s] w (fun e w' => e = .returned (.tuple #[]) ∧ ∃ S, ShlP R o b s n S ∧ Row w' g S ∧ Below g w w') := by
  have hn1 : (n : Int) ≤ 4096 := by omega
  have hs1 : (s : Int) < 32 := by omega
  have hs0 : (0 : Int) ≤ (s : Int) := by omega
  have hB2 := Lib.hid hB
  have HR := Lib.hid hR
  have HSTART := Lib.hid (ShlP.start o b s hRw)
  clear hR
  go_enter Tryd.func49, Tryd.ntmps49
  go_wp2
  go_loopw [9] (fun i wr => ∃ (k : Nat) (S : List Nat), i = .int .i64 k ∧ k ≤ n ∧ Hid (Row wr g S) ∧ Hid (ShlP R o b s k S) ∧ Below g w wr) (fun i _ => n - (intOf i).toNat)
  case atStart => exact ⟨0, R, rfl, Nat.zero_le _, HR, HSTART, Below.refl _ _⟩
  case round =>
    obtain ⟨k, S, rfl, hk, HRS, HS, hbw⟩ := hrel
    by_cases hlt : k < n
    · have hS := HRS.out.cell (o + k) (by have := HS.out.len; omega)
      have hfz := HRS.out.frozen (o + k)
      have HNX := Lib.hid (HS.out.next hB2.out.1 (by omega) (by have := HS.out.len; omega))
      have HROW := Lib.hid (HRS.out.set (o + k) (shlW b s k))
      have C1 := Lib.hid (fun W (hW : Below g w W) => word_nat A m d k b B W hbl (by omega) (hB2.out.below (hW.mono hgB)))
      have hbd := below_drewN' hbw 1
      have HBS := Lib.hid (show Below g w (wr.setCell ⟨g, o + k, none⟩ (.int .u32 (shlW b s k : Nat))) from hbw.setCell (Nat.le_refl _) _)
      obtain ⟨x, hx⟩ : ∃ x, b.getD k 0 = x := ⟨_, rfl⟩
      rw [hx] at C1
      have hkk : (k : Int) < (n : Int) := by omega
      have e2 : IntKind.i64.wrap (32 - (s : Int)) = 32 - (s : Int) := IntWalk.i64_in _ (by omega)
      have e3 : (0 : Int) ≤ 32 - (s : Int) := by omega
      rcases Nat.eq_zero_or_pos k with hk0 | hk0
      · subst hk0
        have C2 := Lib.hid (fun W => word_neg A m d W)
        have HW := Lib.hid (show ((shlW b s 0 : Nat) : Int) = bits BinOp.or IntKind.u32 ((x : Int) * 2 ^ s % 4294967296) 0 by
          rw [or_zero]; unfold shlW carL; rw [hx, if_pos rfl])
        have e1 : IntKind.i64.wrap (-1) = -1 := rfl
        rw [show ((0 : Nat) : Int) = 0 from rfl] at C1
        rw [Nat.add_zero] at hS hfz HROW HNX HBS
        clear hx hB ho hbl
        go_wp2
        go_region_with (first
              | (go_at_call 46; (with_reducible refine (C2.out _).mono ?_); rintro e w' ⟨rfl, rfl⟩)
              | (go_at_call 46; (with_reducible refine (C1.out _ ?_).mono ?_); exact hbd; rintro e w' ⟨rfl, rfl⟩))
        all_goals
          go_wp2_with fail
          rw [← HW.out]
          exact ⟨⟨0 + 1, _, rfl, hlt, HROW, HNX, below_drewN' HBS.out 1⟩, by simp [intOf]; omega⟩
      · obtain ⟨j, rfl⟩ : ∃ j, k = j + 1 := ⟨k - 1, by omega⟩
        have C2 := Lib.hid (fun W (hW : Below g w W) => word_nat A m d j b B W hbl (by omega) (hB2.out.below (hW.mono hgB)))
        obtain ⟨y, hy⟩ : ∃ y, b.getD j 0 = y := ⟨_, rfl⟩
        rw [hy] at C2
        have HW := Lib.hid (show ((shlW b s (j + 1) : Nat) : Int) = bits BinOp.or IntKind.u32 ((x : Int) * 2 ^ s % 4294967296) ((y : Int) / 2 ^ (32 - s)) by
          rw [or_shl x y s hs (by rw [← hy]; exact hB2.out.1.getD j)]
          unfold shlW carL; rw [hx, if_neg (by omega), Nat.add_sub_cancel, hy])
        rw [show ((j + 1 : Nat) : Int) = (j : Int) + 1 by omega] at C1 hkk
        have e1 : IntKind.i64.wrap (j : Int) = (j : Int) := IntWalk.i64_in _ (by omega)
        clear hx hy hB ho hbl hk0 hk
        go_wp2
        go_region_with (first
              | (go_at_call 46; (with_reducible refine (C1.out _ ?_).mono ?_); exact hbd; rintro e w' ⟨rfl, rfl⟩)
              | (go_at_call 46; (with_reducible refine (C2.out _ ?_).mono ?_); exact hbd; rintro e w' ⟨rfl, rfl⟩))
        all_goals
          go_wp2_with fail
          rw [← HW.out]
          exact ⟨⟨j + 1 + 1, _, rfl, hlt, HROW, HNX, below_drewN' HBS.out 1⟩, by simp [intOf]; omega⟩
    · have hkn : k = n := by omega
      subst hkn
      clear hlt hbl
      go_wp2
      go_end0
      exact ⟨rfl, S, HS.out, HRS.out, hbw⟩
end Go.Proofs.YtlabblkonkhmgaaDoor
