/-
  The reference's point at a lead byte of four.
-/
import Derived.Test.YthnkidncjkhndaaDoorCont
import Derived.Deep.DeepCutAuto
namespace Go.Proofs.YthnkidncjkhndaaDoor
open Go.RowKit
set_option maxRecDepth 100000 in
set_option maxHeartbeats 4000000 in
theorem point_e (s : ByteArray) (i : Nat) (w : World) (hs : s.size ≤ 140737488355328) (hi : i < s.size) (l0 : 240 ≤ bt s i) (l1 : bt s i < 245) (h1 : coB s (i + 1) = true) (h2 : coB s (i + 2) = true) (h3 : coB s (i + 3) = true) (R N : Int) (hres : ((65536 ≤ (bt s i % 8 * 262144 + bt s (i + 1) % 64 * 4096 + bt s (i + 2) % 64 * 64 + bt s (i + 3) % 64) ∧ (bt s i % 8 * 262144 + bt s (i + 1) % 64 * 4096 + bt s (i + 2) % 64 * 64 + bt s (i + 3) % 64) ≤ 1114111) ∧ R = (((bt s i % 8 * 262144 + bt s (i + 1) % 64 * 4096 + bt s (i + 2) % 64 * 64 + bt s (i + 3) % 64) : Nat) : Int) ∧ N = 4) ∨ (¬ (65536 ≤ (bt s i % 8 * 262144 + bt s (i + 1) % 64 * 4096 + bt s (i + 2) % 64 * 64 + bt s (i + 3) % 64) ∧ (bt s i % 8 * 262144 + bt s (i + 1) % 64 * 4096 + bt s (i + 2) % 64 * 64 + bt s (i + 3) % 64) ≤ 1114111) ∧ R = 0 ∧ N = 0)) :
    Calls Tryd.prog 63 #[.string s, .int .i64 i] w fun e w' => e = .returned (.tuple #[.int .u32 R, .int .i64 N]) ∧ ∃ n, w' = w.drewN n := by
  have hm : (s.size : Int) ≤ 140737488355328 := by omega
  have H63 := Lib.hid (show s.size ≤ maxLen by unfold maxLen; omega)
  have h0 : (0 : Int) ≤ (i : Int) := by omega
  have h' : (i : Int) < (s.size : Int) := by omega
  have b0 := bt_eq s i hi
  have y0 : ((bt s i : Nat) : Int) < 256 := by have := bt_lt s i; omega
  have t0 : ¬ (((bt s i : Nat) : Int) < 128) := by omega
  have t1 : 240 ≤ ((bt s i : Nat) : Int) := by omega
  have t2 : ((bt s i : Nat) : Int) < 245 := by omega
  have s1 : i + 1 < s.size := by simp [coB] at h1; omega
  have s1' : (i : Int) + 1 < (s.size : Int) := by omega
  have n1 : ((i : Int) + 1).toNat = i + 1 := by omega
  have z1 : (0 : Int) ≤ (i : Int) + 1 := by omega
  have w1 : IntKind.i64.wrap ((i : Int) + 1) = (i : Int) + 1 := IntWalk.i64_in _ (by omega)
  have b1 := bt_eq s (i + 1) s1
  have u1 := bt_lt s (i + 1)
  have s2 : i + 2 < s.size := by simp [coB] at h2; omega
  have s2' : (i : Int) + 2 < (s.size : Int) := by omega
  have n2 : ((i : Int) + 2).toNat = i + 2 := by omega
  have z2 : (0 : Int) ≤ (i : Int) + 2 := by omega
  have w2 : IntKind.i64.wrap ((i : Int) + 2) = (i : Int) + 2 := IntWalk.i64_in _ (by omega)
  have b2 := bt_eq s (i + 2) s2
  have u2 := bt_lt s (i + 2)
  have s3 : i + 3 < s.size := by simp [coB] at h3; omega
  have s3' : (i : Int) + 3 < (s.size : Int) := by omega
  have n3 : ((i : Int) + 3).toNat = i + 3 := by omega
  have z3 : (0 : Int) ≤ (i : Int) + 3 := by omega
  have w3 : IntKind.i64.wrap ((i : Int) + 3) = (i : Int) + 3 := IntWalk.i64_in _ (by omega)
  have b3 := bt_eq s (i + 3) s3
  have u3 := bt_lt s (i + 3)
  obtain ⟨A, hA⟩ : ∃ A : Nat, bt s i % 8 = A := ⟨_, rfl⟩
  obtain ⟨B, hB⟩ : ∃ B : Nat, bt s (i + 1) % 64 = B := ⟨_, rfl⟩
  obtain ⟨C, hC⟩ : ∃ C : Nat, bt s (i + 2) % 64 = C := ⟨_, rfl⟩
  obtain ⟨D, hD⟩ : ∃ D : Nat, bt s (i + 3) % 64 = D := ⟨_, rfl⟩
  have hA' : A < 8 := by omega
  have hB' : B < 64 := by omega
  have hC' : C < 64 := by omega
  have hD' : D < 64 := by omega
  have a1 : bits BinOp.and IntKind.u8 ((bt s (i + 1) : Nat) : Int) 63 = (B : Int) := by rw [and_u8_63n _ u1]; omega
  have a2 : bits BinOp.and IntKind.u8 ((bt s (i + 2) : Nat) : Int) 63 = (C : Int) := by rw [and_u8_63n _ u2]; omega
  have a3 : bits BinOp.and IntKind.u8 ((bt s (i + 3) : Nat) : Int) 63 = (D : Int) := by rw [and_u8_63n _ u3]; omega
  have v1 : IntKind.u32.wrap (B : Int) = (B : Int) := IntWalk.u32_in _ (by omega)
  have v2 : IntKind.u32.wrap (C : Int) = (C : Int) := IntWalk.u32_in _ (by omega)
  have v3 : IntKind.u32.wrap (D : Int) = (D : Int) := IntWalk.u32_in _ (by omega)
  have f0 : bits BinOp.and IntKind.u32 ((bt s i : Nat) : Int) 7 = (A : Int) := by
    have := and_u32_m (bt s i) 3 (by omega) (by omega)
    rw [← hA]; exact this
  obtain ⟨X, hX⟩ : ∃ X : Nat, A * 262144 = X := ⟨_, rfl⟩
  obtain ⟨Y, hY⟩ : ∃ Y : Nat, B * 4096 = Y := ⟨_, rfl⟩
  obtain ⟨Z, hZ⟩ : ∃ Z : Nat, C * 64 = Z := ⟨_, rfl⟩
  have r0 : IntKind.u32.wrap ((A : Int) * 262144) = (X : Int) := by rw [IntWalk.u32_in _ (by omega)]; omega
  have r1 : IntKind.u32.wrap ((B : Int) * 4096) = (Y : Int) := by rw [IntWalk.u32_in _ (by omega)]; omega
  have r2 : IntKind.u32.wrap ((C : Int) * 64) = (Z : Int) := by rw [IntWalk.u32_in _ (by omega)]; omega
  obtain ⟨Q, hQ⟩ : ∃ Q : Nat, X + Y = Q := ⟨_, rfl⟩
  have f1 : bits BinOp.or IntKind.u32 (X : Int) (Y : Int) = (Q : Int) := by
    have := or_u32_m A 18 Y (by omega) (by omega)
    rw [show 2 ^ 18 * A = X by omega, hQ] at this
    exact this
  obtain ⟨Q2, hQ2⟩ : ∃ Q2 : Nat, Q + Z = Q2 := ⟨_, rfl⟩
  have f2 : bits BinOp.or IntKind.u32 (Q : Int) (Z : Int) = (Q2 : Int) := by
    have := or_u32_m (Q / 4096) 12 Z (by omega) (by omega)
    rw [show 2 ^ 12 * (Q / 4096) = Q by omega, hQ2] at this
    exact this
  obtain ⟨p, hp⟩ : ∃ p : Nat, Q2 + D = p := ⟨_, rfl⟩
  have f3 : bits BinOp.or IntKind.u32 (Q2 : Int) (D : Int) = (p : Int) := by
    have := or_u32_m (Q2 / 64) 6 D (by omega) (by omega)
    rw [show 2 ^ 6 * (Q2 / 64) = Q2 by omega, hp] at this
    exact this
  rw [hA, hB, hC, hD, hX, hY, hZ, hQ, hQ2, hp] at hres
  have c1 : ∀ W, Calls Tryd.prog 90 #[.string s, .int .i64 ((i : Int) + 1)] W fun e w' => e = .returned (.bool true) ∧ W = w' := fun W => by
    rw [show ((i : Int) + 1) = ((i + 1 : Nat) : Int) by omega]; exact cont_any s (i + 1) W H63.out true h1
  have c2 : ∀ W, Calls Tryd.prog 90 #[.string s, .int .i64 ((i : Int) + 2)] W fun e w' => e = .returned (.bool true) ∧ W = w' := fun W => by
    rw [show ((i : Int) + 2) = ((i + 2 : Nat) : Int) by omega]; exact cont_any s (i + 2) W H63.out true h2
  have c3 : ∀ W, Calls Tryd.prog 90 #[.string s, .int .i64 ((i : Int) + 3)] W fun e w' => e = .returned (.bool true) ∧ W = w' := fun W => by
    rw [show ((i : Int) + 3) = ((i + 3 : Nat) : Int) by omega]; exact cont_any s (i + 3) W H63.out true h3
  have ht : ((decide ((65536 : Int) ≤ (p : Int)) = true ∧ decide ((p : Int) ≤ 1114111) = true) ∧ R = ((p : Nat) : Int) ∧ N = 4) ∨ ((decide ((65536 : Int) ≤ (p : Int)) = false ∨ (decide ((65536 : Int) ≤ (p : Int)) = true ∧ decide ((p : Int) ≤ 1114111) = false)) ∧ R = 0 ∧ N = 0) := by
    rcases hres with ⟨h, h2, h3⟩ | ⟨h, h2, h3⟩
    · left; refine ⟨?_, h2, h3⟩; simp; omega
    · right; refine ⟨?_, h2, h3⟩; simp; omega
  have HT := Lib.hid ht
  have F := Lib.hid (And.intro b1 (And.intro b2 (And.intro b3 (And.intro a1 (And.intro a2 (And.intro a3 (And.intro v1 (And.intro v2 (And.intro v3 (And.intro f0 (And.intro r0 (And.intro r1 (And.intro r2 (And.intro f1 (And.intro f2 (And.intro f3 (And.intro n1 (And.intro n2 (And.intro n3 (And.intro w1 (And.intro w2 w3)))))))))))))))))))))
  clear hs l0 l1 h1 u1 h2 u2 h3 u3 hA hB hC hD hA' hB' hC' hD' hX hY hZ hQ hQ2 hp hres ht b1 b2 b3 a1 a2 a3 v1 v2 v3 f0 r0 r1 r2 f1 f2 f3 n1 n2 n3 w1 w2 w3
  go_enter Tryd.func63, Tryd.ntmps63
  go_wp2_with fail
  refine (c1 _).mono ?_
  rintro e w' ⟨rfl, rfl⟩
  go_wp2_with fail
  refine (c2 _).mono ?_
  rintro e w' ⟨rfl, rfl⟩
  go_wp2_with fail
  refine (c3 _).mono ?_
  rintro e w' ⟨rfl, rfl⟩
  go_wp2
  go_cut [8] (fun v wx => v = .int .u32 (p : Int) ∧ ∃ n, wx = w.drewN n)
  case first =>
    obtain ⟨b1, b2, b3, a1, a2, a3, v1, v2, v3, f0, r0, r1, r2, f1, f2, f3, n1, n2, n3, w1, w2, w3⟩ := F.out
    clear F c1 c2 c3 HT
    go_quiet (fail)
    go_wp2
    go_meet
    exact ⟨rfl, _, rfl⟩
  case rest =>
    obtain ⟨rfl, n, rfl⟩ := hcut
    rcases HT.out with ⟨⟨g1, g2⟩, rfl, rfl⟩ | ⟨g1 | ⟨g1, g2⟩, rfl, rfl⟩
    all_goals
      go_wp2
      go_ret2
      exact ⟨rfl, _, rfl⟩
end Go.Proofs.YthnkidncjkhndaaDoor
