/-
  The reference's Same of values, and the small functions on descriptors.
-/
import Derived.Test.YtlkgijinckhkkaaF2
namespace Go.Proofs.Ytlkgijinckhkkaa
open Go.RowKit
theorem Kept.same {P : Program} {f : FuncId} {args : Array Value} {w : World} {X : Ending} (h : Calls P f args w fun e w' => e = X ∧ w = w') : Calls P f args w fun e w' => e = X ∧ Below w.heap.size w w' ∧ ∀ a v, w.cell? a = some v → w'.cell? a = some v :=
  h.mono fun _ _ ⟨a, b⟩ => ⟨a, by rw [← b]; exact Below.refl _ _, fun _ _ k => by rw [← b]; exact k⟩
theorem Kept.below {P : Program} {f : FuncId} {args : Array Value} {w : World} {X : Ending} (h : Calls P f args w fun e w' => e = X ∧ Below w.heap.size w w') : Calls P f args w fun e w' => e = X ∧ Below w.heap.size w w' ∧ ∀ a v, w.cell? a = some v → w'.cell? a = some v :=
  h.mono fun _ _ ⟨a, b⟩ => ⟨a, b, kept b⟩
set_option maxRecDepth 100000 in
set_option maxHeartbeats 1000000 in
theorem fSame_any (x y : Val) (w : World) (hx : x.vn < 18446744073709551616) (hy : y.vn < 18446744073709551616) : Calls Try.prog 43 #[valV x, valV y] w fun e w' => e = .returned (.bool (sameW x y)) ∧ Below w.heap.size w w' := by
  have C1 := Lib.hid (fun W => falike_kept x y W)
  have C2 := Lib.hid (fun W => Kept.same (qsame_any x.vn y.vn W hx hy))
  unfold sameW
  obtain ⟨O, hO⟩ : ∃ B, sameV x.vn y.vn = B := ⟨_, rfl⟩
  obtain ⟨A, hA⟩ : ∃ B, alikeV x y = B := ⟨_, rfl⟩
  obtain ⟨K, hK⟩ : ∃ B, (x.vk == y.vk) = B := ⟨_, rfl⟩
  rw [hO, hA, hK]
  rw [hA] at C1
  rw [hO] at C2
  clear hA hO hx hy
  obtain ⟨k, b, n, s, o⟩ := x
  obtain ⟨k', b', n', s', o'⟩ := y
  unfold valV at C1 ⊢
  dsimp only at C1 C2 hK ⊢
  cases K
  · clear C1 C2
    go_enter Try.func43, Try.ntmps43
    go_wp2
    go_ret
    exact ⟨by simp, below_a2 _ _ _⟩
  · cases A
    · clear C2
      go_enter Try.func43, Try.ntmps43
      go_wp2_with fail
      refine (C1.out _).mono ?_
      rintro e w2 ⟨rfl, b2, hk⟩
      go_wp2
      go_ret
      exact ⟨by simp, below_le (below_a2 _ _ _) b2⟩
    · skip
      go_enter Try.func43, Try.ntmps43
      go_wp2_with fail
      refine (C1.out _).mono ?_
      rintro e w2 ⟨rfl, b2, hk⟩
      have k0 := hk ⟨w.heap.size, 2, none⟩ (.float .f64 n) (by simp)
      have k1 := hk ⟨w.heap.size + 1, 2, none⟩ (.float .f64 n') (by simp)
      have B2 := Lib.hid (below_le (below_a2 _ _ _) b2)
      clear hk b2
      go_wp2_with fail
      refine (C2.out _).mono ?_
      rintro e w3 ⟨rfl, b3, hk3⟩
      go_wp2
      go_ret
      exact ⟨by simp, below_le B2.out b3⟩
end Go.Proofs.Ytlkgijinckhkkaa
