/-
  Contract of shiftRight, when a row is written to itself.
-/
import Derived.Test.YtclggnaljijjoaaShr
import Derived.Test.YtclggnaljijjoaaAdd
namespace Go.Proofs.Ytclggnaljijjoaa
open Go.RowKit
set_option maxRecDepth 100000 in
set_option maxHeartbeats 4000000 in
theorem shr_self (g n c d s : Nat) (R : List Nat) (w : World) (hR : Row w g R) (hRw : Ws R) (hl : R.length = n) (hn : n ≤ 4096) (hs : s < 32) :
    Calls Try.prog 56 #[.slice (some ⟨g, 0, none⟩) n c, .slice (some ⟨g, 0, none⟩) n d, .int .i64 s] w (fun e w' => e = .returned (.tuple #[]) ∧ ∃ S, ShrP R 0 R s n S ∧ Row w' g S ∧ Only g w w') := by
  have hn1 : (n : Int) ≤ 4096 := by omega
  have hs1 : (s : Int) < 32 := by omega
  have hs0 : (0 : Int) ≤ (s : Int) := by omega
  have HL := Lib.hid hl
  have HRW := Lib.hid hRw
  have HR := Lib.hid hR
  have HSTART := Lib.hid (ShrP.start 0 R s hRw)
  clear hR hRw hl
  go_enter Try.func56, Try.ntmps56
  go_wp2
  go_loopw [9] (fun i wr => ∃ (k : Nat) (S : List Nat), i = .int .i64 k ∧ k ≤ n ∧ Hid (Row wr g S) ∧ Hid (ShrP R 0 R s k S) ∧ Only g w wr) (fun i _ => n - (intOf i).toNat)
  case atStart => exact ⟨0, R, rfl, Nat.zero_le _, HR, HSTART, Only.refl _ _⟩
  case round =>
    obtain ⟨k, S, rfl, hk, HRS, HS, hbw⟩ := hrel
    by_cases hlt : k < n
    · have hSl : S.length = n := by rw [HS.out.len, HL.out]
      have hS := HRS.out.cell k (by omega)
      have hfz := HRS.out.frozen k
      have HNX := Lib.hid (HS.out.next HRW.out (by omega) (by rw [HL.out]; omega))
      have HROW := Lib.hid (HRS.out.set k (shrW R s k))
      have hgg := HRS.out.lt
      have HRR := Lib.hid (fun W (hW : Below (g + 1) wr W) => show RW W (g + 1) (some ⟨g, 0, none⟩) S from (HRS.out.rw0 HS.out.ws).below hW)
      have HF := Lib.hid HS.out.far
      have C1 := Lib.hid (fun W (hW : Below (g + 1) wr W) => show Calls Try.prog 42 #[.slice (some ⟨g, 0, none⟩) n d, .int .i64 k] W fun e w' => e = .returned (.int .u32 (R.getD k 0 : Nat)) ∧ W = w' from by
        have := word_nat (some ⟨g, 0, none⟩) n d k S (g + 1) W hSl (by omega) (HRR.out W hW)
        rw [HF.out k (by omega)] at this; exact this)
      have C2 := Lib.hid (fun W (hW : Below (g + 1) wr W) => show Calls Try.prog 42 #[.slice (some ⟨g, 0, none⟩) n d, .int .i64 ((k + 1 : Nat) : Int)] W fun e w' => e = .returned (.int .u32 (R.getD (k + 1) 0 : Nat)) ∧ W = w' from by
        have := word_nat (some ⟨g, 0, none⟩) n d (k + 1) S (g + 1) W hSl (by omega) (HRR.out W hW)
        rw [HF.out (k + 1) (by omega)] at this; exact this)
      have hbd := below_drewN' (Below.refl (g + 1) wr) 1
      have HBS := Lib.hid (show Only g w (wr.setCell ⟨g, k, none⟩ (.int .u32 (shrW R s k : Nat))) from hbw.setCell _)
      obtain ⟨x, hx⟩ : ∃ x, R.getD k 0 = x := ⟨_, rfl⟩
      rw [hx] at C1
      obtain ⟨y, hy⟩ : ∃ y, R.getD (k + 1) 0 = y := ⟨_, rfl⟩
      rw [hy] at C2
      rw [show ((k + 1 : Nat) : Int) = (k : Int) + 1 by omega] at C2
      have HW := Lib.hid (show ((shrW R s k : Nat) : Int) = bits BinOp.or IntKind.u32 ((x : Int) / 2 ^ s) ((y : Int) * 2 ^ (32 - s) % 4294967296) by
        rw [or_shr x y s (by omega) (by rw [← hx]; exact HRW.out.getD k)]
        unfold shrW; rw [hx, hy])
      have hkk : (k : Int) < (n : Int) := by omega
      have e1 : IntKind.i64.wrap ((k : Int) + 1) = (k : Int) + 1 := IntWalk.i64_in _ (by omega)
      have e2 : IntKind.i64.wrap (32 - (s : Int)) = 32 - (s : Int) := IntWalk.i64_in _ (by omega)
      have e3 : (0 : Int) ≤ 32 - (s : Int) := by omega
      rw [Nat.zero_add] at HNX
      clear hx hy hk hSl hgg
      go_wp2
      go_region_with (first
            | (go_at_call 42; (with_reducible refine (C1.out _ ?_).mono ?_); exact hbd; rintro e w' ⟨rfl, rfl⟩)
            | (go_at_call 42; (with_reducible refine (C2.out _ ?_).mono ?_); exact hbd; rintro e w' ⟨rfl, rfl⟩))
      all_goals
        go_wp2_with fail
        rw [← HW.out]
        exact ⟨⟨k + 1, _, by go_num, hlt, HROW, HNX, HBS.out.drewN 1⟩, by simp [intOf]; omega⟩
    · have hkn : k = n := by omega
      subst hkn
      clear hlt
      go_wp2
      go_end0
      exact ⟨rfl, S, HS.out, HRS.out, hbw⟩
end Go.Proofs.Ytclggnaljijjoaa
