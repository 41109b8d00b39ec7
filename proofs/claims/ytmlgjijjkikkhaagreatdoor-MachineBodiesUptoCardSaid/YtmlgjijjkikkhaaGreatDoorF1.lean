/-
  The reference's alike, Bits, Number of values.
-/
import Derived.Test.YtmlgjijjkikkhaaGreatDoorF0
namespace Go.Proofs.YtmlgjijjkikkhaaGreatDoor
open Go.RowKit
set_option maxRecDepth 100000 in
set_option maxHeartbeats 1000000 in
theorem falike_any (x y : Val) (w : World) : Calls Tryz.prog 52 #[valV x, valV y] w fun e w' => e = .returned (.bool (alikeV x y)) ∧ Below w.heap.size w w' := by
  unfold alikeV valV
  obtain ⟨k, b, n, s, o⟩ := x
  obtain ⟨k', b', n', s', o'⟩ := y
  dsimp only
  obtain ⟨B, hB⟩ : ∃ B, (b == b') = B := ⟨_, rfl⟩
  obtain ⟨S, hS⟩ : ∃ B, (s.toList == s'.toList) = B := ⟨_, rfl⟩
  obtain ⟨O, hO⟩ : ∃ B, (o == o') = B := ⟨_, rfl⟩
  rw [hB, hS, hO]
  go_enter Tryz.func52, Tryz.ntmps52
  go_wp2
  all_goals go_ret
  all_goals refine ⟨?_, below_a2 _ _ _⟩
  all_goals simp [*]
theorem falike_kept (x y : Val) (w : World) : Calls Tryz.prog 52 #[valV x, valV y] w fun e w' => e = .returned (.bool (alikeV x y)) ∧ Below w.heap.size w w' ∧ ∀ a v, w.cell? a = some v → w'.cell? a = some v :=
  (falike_any x y w).mono fun _ _ ⟨a, b⟩ => ⟨a, b, kept b⟩
set_option maxRecDepth 100000 in
set_option maxHeartbeats 1000000 in
theorem fBits_any (x y : Val) (w : World) : Calls Tryz.prog 30 #[valV x, valV y] w fun e w' => e = .returned (.bool (bitsV x y)) ∧ Below w.heap.size w w' := by
  have C1 := Lib.hid (fun W => falike_kept x y W)
  have h1 := fun W => f64bits_run x.vn W
  have h2 := fun W => f64bits_run y.vn W
  have HB := Lib.hid (fun a b => below_a2 w a b)
  unfold bitsV
  rw [← bits_nat]
  obtain ⟨O, hO⟩ : ∃ B, ((x.vn : Int) == (y.vn : Int)) = B := ⟨_, rfl⟩
  obtain ⟨A, hA⟩ : ∃ B, alikeV x y = B := ⟨_, rfl⟩
  obtain ⟨K, hK⟩ : ∃ B, (x.vk == y.vk) = B := ⟨_, rfl⟩
  rw [hO, hA, hK]
  rw [hA] at C1
  clear hA
  obtain ⟨k, b, n, s, o⟩ := x
  obtain ⟨k', b', n', s', o'⟩ := y
  unfold valV at C1 ⊢
  dsimp only at C1 hO hK h1 h2 ⊢
  cases K
  · have hK2 : decide (k = k') = false := by simpa using hK
    clear C1 h1 h2
    go_enter Tryz.func30, Tryz.ntmps30
    go_wp2
    go_quiet (fail)
    go_wp2
    go_ret
    exact ⟨by simp, below_drewN' (below_a2 _ _ _) _⟩
  · obtain rfl : k = k' := by simpa using hK
    clear hK
    cases A
    · clear h1 h2
      go_enter Tryz.func30, Tryz.ntmps30
      go_wp2
      refine wp_region_held_drew (S := (fun w' => w'.cell? ⟨w.heap.size, 0, none⟩ = some (.int .i64 k) ∧ w'.cell? ⟨w.heap.size, 1, none⟩ = some (.bool b) ∧ w'.cell? ⟨w.heap.size, 2, none⟩ = some (.float .f64 n) ∧ w'.cell? ⟨w.heap.size, 3, none⟩ = some (.string s) ∧ w'.cell? ⟨w.heap.size, 4, none⟩ = some (.int .i64 o) ∧ w'.cell? ⟨w.heap.size + 1, 0, none⟩ = some (.int .i64 k) ∧ w'.cell? ⟨w.heap.size + 1, 1, none⟩ = some (.bool b') ∧ w'.cell? ⟨w.heap.size + 1, 2, none⟩ = some (.float .f64 n') ∧ w'.cell? ⟨w.heap.size + 1, 3, none⟩ = some (.string s') ∧ w'.cell? ⟨w.heap.size + 1, 4, none⟩ = some (.int .i64 o'))) (by kernel_rfl) ?_ (fun hHeld => ?_)
      · go_keep
      refine take_s (i := 0) rfl (by kernel_rfl) (by kernel_rfl) (by kernel_rfl) (fun _ _ _ h => h) (Or.inl ⟨by rfl, by (intro w hSw; (try dsimp only at hSw); go_simp; try with_reducible rfl)⟩) rfl (by assumption) ?_; simp only [lset]
      refine take_s (i := 1) rfl (by kernel_rfl) (by kernel_rfl) (by kernel_rfl) (fun _ _ _ h => h) (Or.inl ⟨by rfl, by (intro w hSw; (try dsimp only at hSw); go_simp; try with_reducible rfl)⟩) rfl (by assumption) ?_; simp only [lset]
      refine take_s (i := 2) rfl (by kernel_rfl) (by kernel_rfl) (by kernel_rfl) (fun _ _ _ h => h) (Or.inl ⟨by rfl, by (intro w hSw; (try dsimp only at hSw); go_simp; try with_reducible rfl)⟩) rfl (by assumption) ?_; simp only [lset]
      refine take_s (i := 3) rfl (by kernel_rfl) (by kernel_rfl) (by kernel_rfl) (fun _ _ _ h => h) (Or.inl ⟨by rfl, by (intro w hSw; (try dsimp only at hSw); go_simp; try with_reducible rfl)⟩) rfl (by assumption) ?_; simp only [lset]
      refine take_s (i := 4) rfl (by kernel_rfl) (by kernel_rfl) (by kernel_rfl) (fun _ _ _ h => h) (Or.inl ⟨by rfl, by (intro w hSw; (try dsimp only at hSw); go_simp; try with_reducible rfl)⟩) rfl (by assumption) ?_; simp only [lset]
      refine take_s (i := 5) rfl (by kernel_rfl) (by kernel_rfl) (by kernel_rfl) (fun _ _ _ h => h) (Or.inl ⟨by rfl, by (intro w hSw; (try dsimp only at hSw); go_simp; try with_reducible rfl)⟩) rfl (by assumption) ?_; simp only [lset]
      refine take_s (i := 6) rfl (by kernel_rfl) (by kernel_rfl) (by kernel_rfl) (fun _ _ _ h => h) (Or.inl ⟨by rfl, by (intro w hSw; (try dsimp only at hSw); go_simp; try with_reducible rfl)⟩) rfl (by assumption) ?_; simp only [lset]
      refine take_s (i := 7) rfl (by kernel_rfl) (by kernel_rfl) (by kernel_rfl) (fun _ _ _ h => h) (Or.inl ⟨by rfl, by (intro w hSw; (try dsimp only at hSw); go_simp; try with_reducible rfl)⟩) rfl (by assumption) ?_; simp only [lset]
      refine call_s (i := 8) (by kernel_rfl) rfl rfl (by rfl) (fun K hK => ?_)
      go_simp
      with_reducible refine (C1.out _).mono ?_
      rintro e w2 ⟨rfl, b2, hk⟩
      have hHeld2 := hHeld; clear hHeld; have hHeld : (fun w' => w'.cell? ⟨w.heap.size, 0, none⟩ = some (.int .i64 k) ∧ w'.cell? ⟨w.heap.size, 1, none⟩ = some (.bool b) ∧ w'.cell? ⟨w.heap.size, 2, none⟩ = some (.float .f64 n) ∧ w'.cell? ⟨w.heap.size, 3, none⟩ = some (.string s) ∧ w'.cell? ⟨w.heap.size, 4, none⟩ = some (.int .i64 o) ∧ w'.cell? ⟨w.heap.size + 1, 0, none⟩ = some (.int .i64 k) ∧ w'.cell? ⟨w.heap.size + 1, 1, none⟩ = some (.bool b') ∧ w'.cell? ⟨w.heap.size + 1, 2, none⟩ = some (.float .f64 n') ∧ w'.cell? ⟨w.heap.size + 1, 3, none⟩ = some (.string s') ∧ w'.cell? ⟨w.heap.size + 1, 4, none⟩ = some (.int .i64 o')) w2 := ⟨hk _ _ hHeld2.1, hk _ _ hHeld2.2.1, hk _ _ hHeld2.2.2.1, hk _ _ hHeld2.2.2.2.1, hk _ _ hHeld2.2.2.2.2.1, hk _ _ hHeld2.2.2.2.2.2.1, hk _ _ hHeld2.2.2.2.2.2.2.1, hk _ _ hHeld2.2.2.2.2.2.2.2.1, hk _ _ hHeld2.2.2.2.2.2.2.2.2.1, hk _ _ hHeld2.2.2.2.2.2.2.2.2.2⟩
      refine hK.out _ _ hHeld ?_; clear hK K hHeld2; simp only [lset]
      refine take_s (i := 9) rfl (by kernel_rfl) (by kernel_rfl) (by kernel_rfl) (fun _ _ _ h => h) (Or.inl ⟨by rfl, by (intro w hSw; (try dsimp only at hSw); go_simp; try with_reducible rfl)⟩) rfl (by assumption) ?_; simp only [lset]
      refine take_s (i := 10) rfl (by kernel_rfl) (by kernel_rfl) (by kernel_rfl) (fun _ _ _ h => h) (Or.inl ⟨by rfl, by (intro w hSw; (try dsimp only at hSw); go_simp; try with_reducible rfl)⟩) rfl (by assumption) ?_; simp only [lset]
      refine take_s (i := 11) rfl (by kernel_rfl) (by kernel_rfl) (by kernel_rfl) (fun _ _ _ h => h) (Or.inr ⟨by rfl, rfl⟩) rfl (by assumption) ?_; simp only [lset]
      refine take_s (i := 12) rfl (by kernel_rfl) (by kernel_rfl) (by kernel_rfl) (fun _ _ _ h => h) (Or.inr ⟨by rfl, rfl⟩) rfl (by assumption) ?_; simp only [lset]
      refine take_s (i := 13) rfl (by kernel_rfl) (by kernel_rfl) (by kernel_rfl) (fun _ _ _ h => h) (Or.inr ⟨by rfl, rfl⟩) rfl (by assumption) ?_; simp only [lset]
      refine take_s (i := 14) rfl (by kernel_rfl) (by kernel_rfl) (by kernel_rfl) (fun _ _ _ h => h) (Or.inr ⟨by rfl, rfl⟩) rfl (by assumption) ?_; simp only [lset]
      refine take_s (i := 15) rfl (by kernel_rfl) (by kernel_rfl) (by kernel_rfl) (fun _ _ _ h => h) (Or.inr ⟨by rfl, rfl⟩) rfl (by assumption) ?_; simp only [lset]
      refine take_s (i := 16) rfl (by kernel_rfl) (by kernel_rfl) (by kernel_rfl) (fun _ _ _ h => h) (Or.inr ⟨by rfl, rfl⟩) rfl (by assumption) ?_; simp only [lset]
      refine take_s (i := 17) rfl (by kernel_rfl) (by kernel_rfl) (by kernel_rfl) (fun _ _ _ h => h) (Or.inr ⟨by rfl, rfl⟩) rfl (by assumption) ?_; simp only [lset]
      refine take_s (i := 18) rfl (by kernel_rfl) (by kernel_rfl) (by kernel_rfl) (fun _ _ _ h => h) (Or.inl ⟨by rfl, by (intro w hSw; (try dsimp only at hSw); go_simp; try with_reducible rfl)⟩) rfl (by assumption) ?_; simp only [lset]
      refine take_s (i := 19) rfl (by kernel_rfl) (by kernel_rfl) (by kernel_rfl) (fun _ _ _ h => h) (Or.inl ⟨by rfl, by (intro w hSw; (try dsimp only at hSw); go_simp; try with_reducible rfl)⟩) rfl (by assumption) ?_; simp only [lset]
      refine wpAnyH_done (by kernel_rfl) ?_ _
      go_wp2
      go_ret
      exact ⟨by simp, below_le (below_drewN' (below_a2 _ _ _) _) b2⟩
    · skip
      go_enter Tryz.func30, Tryz.ntmps30
      go_wp2
      refine wp_region_held_drew (S := (fun w' => w'.cell? ⟨w.heap.size, 0, none⟩ = some (.int .i64 k) ∧ w'.cell? ⟨w.heap.size, 1, none⟩ = some (.bool b) ∧ w'.cell? ⟨w.heap.size, 2, none⟩ = some (.float .f64 n) ∧ w'.cell? ⟨w.heap.size, 3, none⟩ = some (.string s) ∧ w'.cell? ⟨w.heap.size, 4, none⟩ = some (.int .i64 o) ∧ w'.cell? ⟨w.heap.size + 1, 0, none⟩ = some (.int .i64 k) ∧ w'.cell? ⟨w.heap.size + 1, 1, none⟩ = some (.bool b') ∧ w'.cell? ⟨w.heap.size + 1, 2, none⟩ = some (.float .f64 n') ∧ w'.cell? ⟨w.heap.size + 1, 3, none⟩ = some (.string s') ∧ w'.cell? ⟨w.heap.size + 1, 4, none⟩ = some (.int .i64 o'))) (by kernel_rfl) ?_ (fun hHeld => ?_)
      · go_keep
      refine take_s (i := 0) rfl (by kernel_rfl) (by kernel_rfl) (by kernel_rfl) (fun _ _ _ h => h) (Or.inl ⟨by rfl, by (intro w hSw; (try dsimp only at hSw); go_simp; try with_reducible rfl)⟩) rfl (by assumption) ?_; simp only [lset]
      refine take_s (i := 1) rfl (by kernel_rfl) (by kernel_rfl) (by kernel_rfl) (fun _ _ _ h => h) (Or.inl ⟨by rfl, by (intro w hSw; (try dsimp only at hSw); go_simp; try with_reducible rfl)⟩) rfl (by assumption) ?_; simp only [lset]
      refine take_s (i := 2) rfl (by kernel_rfl) (by kernel_rfl) (by kernel_rfl) (fun _ _ _ h => h) (Or.inl ⟨by rfl, by (intro w hSw; (try dsimp only at hSw); go_simp; try with_reducible rfl)⟩) rfl (by assumption) ?_; simp only [lset]
      refine take_s (i := 3) rfl (by kernel_rfl) (by kernel_rfl) (by kernel_rfl) (fun _ _ _ h => h) (Or.inl ⟨by rfl, by (intro w hSw; (try dsimp only at hSw); go_simp; try with_reducible rfl)⟩) rfl (by assumption) ?_; simp only [lset]
      refine take_s (i := 4) rfl (by kernel_rfl) (by kernel_rfl) (by kernel_rfl) (fun _ _ _ h => h) (Or.inl ⟨by rfl, by (intro w hSw; (try dsimp only at hSw); go_simp; try with_reducible rfl)⟩) rfl (by assumption) ?_; simp only [lset]
      refine take_s (i := 5) rfl (by kernel_rfl) (by kernel_rfl) (by kernel_rfl) (fun _ _ _ h => h) (Or.inl ⟨by rfl, by (intro w hSw; (try dsimp only at hSw); go_simp; try with_reducible rfl)⟩) rfl (by assumption) ?_; simp only [lset]
      refine take_s (i := 6) rfl (by kernel_rfl) (by kernel_rfl) (by kernel_rfl) (fun _ _ _ h => h) (Or.inl ⟨by rfl, by (intro w hSw; (try dsimp only at hSw); go_simp; try with_reducible rfl)⟩) rfl (by assumption) ?_; simp only [lset]
      refine take_s (i := 7) rfl (by kernel_rfl) (by kernel_rfl) (by kernel_rfl) (fun _ _ _ h => h) (Or.inl ⟨by rfl, by (intro w hSw; (try dsimp only at hSw); go_simp; try with_reducible rfl)⟩) rfl (by assumption) ?_; simp only [lset]
      refine call_s (i := 8) (by kernel_rfl) rfl rfl (by rfl) (fun K hK => ?_)
      go_simp
      with_reducible refine (C1.out _).mono ?_
      rintro e w2 ⟨rfl, b2, hk⟩
      have hHeld2 := hHeld; clear hHeld; have hHeld : (fun w' => w'.cell? ⟨w.heap.size, 0, none⟩ = some (.int .i64 k) ∧ w'.cell? ⟨w.heap.size, 1, none⟩ = some (.bool b) ∧ w'.cell? ⟨w.heap.size, 2, none⟩ = some (.float .f64 n) ∧ w'.cell? ⟨w.heap.size, 3, none⟩ = some (.string s) ∧ w'.cell? ⟨w.heap.size, 4, none⟩ = some (.int .i64 o) ∧ w'.cell? ⟨w.heap.size + 1, 0, none⟩ = some (.int .i64 k) ∧ w'.cell? ⟨w.heap.size + 1, 1, none⟩ = some (.bool b') ∧ w'.cell? ⟨w.heap.size + 1, 2, none⟩ = some (.float .f64 n') ∧ w'.cell? ⟨w.heap.size + 1, 3, none⟩ = some (.string s') ∧ w'.cell? ⟨w.heap.size + 1, 4, none⟩ = some (.int .i64 o')) w2 := ⟨hk _ _ hHeld2.1, hk _ _ hHeld2.2.1, hk _ _ hHeld2.2.2.1, hk _ _ hHeld2.2.2.2.1, hk _ _ hHeld2.2.2.2.2.1, hk _ _ hHeld2.2.2.2.2.2.1, hk _ _ hHeld2.2.2.2.2.2.2.1, hk _ _ hHeld2.2.2.2.2.2.2.2.1, hk _ _ hHeld2.2.2.2.2.2.2.2.2.1, hk _ _ hHeld2.2.2.2.2.2.2.2.2.2⟩
      refine hK.out _ _ hHeld ?_; clear hK K hHeld2; simp only [lset]
      refine take_s (i := 9) rfl (by kernel_rfl) (by kernel_rfl) (by kernel_rfl) (fun _ _ _ h => h) (Or.inl ⟨by rfl, by (intro w hSw; (try dsimp only at hSw); go_simp; try with_reducible rfl)⟩) rfl (by assumption) ?_; simp only [lset]
      refine take_s (i := 10) rfl (by kernel_rfl) (by kernel_rfl) (by kernel_rfl) (fun _ _ _ h => h) (Or.inl ⟨by rfl, by (intro w hSw; (try dsimp only at hSw); go_simp; try with_reducible rfl)⟩) rfl (by assumption) ?_; simp only [lset]
      refine take_s (i := 11) rfl (by kernel_rfl) (by kernel_rfl) (by kernel_rfl) (fun _ _ _ h => h) (Or.inl ⟨by rfl, by (intro w hSw; (try dsimp only at hSw); go_simp; try with_reducible rfl)⟩) rfl (by assumption) ?_; simp only [lset]
      refine take_s (i := 12) rfl (by kernel_rfl) (by kernel_rfl) (by kernel_rfl) (fun _ _ _ h => h) (Or.inl ⟨by rfl, by (intro w hSw; (try dsimp only at hSw); go_simp; try with_reducible rfl)⟩) rfl (by assumption) ?_; simp only [lset]
      refine take_s (i := 13) rfl (by kernel_rfl) (by kernel_rfl) (by kernel_rfl) (fun _ _ _ h => h) (Or.inl ⟨by rfl, by (intro w hSw; (try dsimp only at hSw); go_simp; try with_reducible rfl)⟩) rfl (by assumption) ?_; simp only [lset]
      refine take_s (i := 14) rfl (by kernel_rfl) (by kernel_rfl) (by kernel_rfl) (fun _ _ _ h => h) (Or.inl ⟨by rfl, by (intro w hSw; (try dsimp only at hSw); go_simp; try with_reducible rfl)⟩) rfl (by assumption) ?_; simp only [lset]
      refine take_s (i := 15) rfl (by kernel_rfl) (by kernel_rfl) (by kernel_rfl) (fun _ _ _ h => h) (Or.inl ⟨by rfl, by (intro w hSw; (try dsimp only at hSw); go_simp; try with_reducible rfl)⟩) rfl (by assumption) ?_; simp only [lset]
      refine take_s (i := 16) rfl (by kernel_rfl) (by kernel_rfl) (by kernel_rfl) (fun _ _ _ h => h) (Or.inl ⟨by rfl, by (intro w hSw; (try dsimp only at hSw); go_simp; try with_reducible rfl)⟩) rfl (by assumption) ?_; simp only [lset]
      refine take_s (i := 17) rfl (by kernel_rfl) (by kernel_rfl) (by kernel_rfl) (fun _ _ _ h => h) (Or.inl ⟨by rfl, by (intro w hSw; (try dsimp only at hSw); go_simp; try with_reducible rfl)⟩) rfl (by assumption) ?_; simp only [lset]
      refine take_s (i := 18) rfl (by kernel_rfl) (by kernel_rfl) (by kernel_rfl) (fun _ _ _ h => h) (Or.inl ⟨by rfl, by (intro w hSw; (try dsimp only at hSw); go_simp; try with_reducible rfl)⟩) rfl (by assumption) ?_; simp only [lset]
      refine take_s (i := 19) rfl (by kernel_rfl) (by kernel_rfl) (by kernel_rfl) (fun _ _ _ h => h) (Or.inl ⟨by rfl, by (intro w hSw; (try dsimp only at hSw); go_simp; try with_reducible rfl)⟩) rfl (by assumption) ?_; simp only [lset]
      refine wpAnyH_done (by kernel_rfl) ?_ _
      go_wp2
      go_ret
      exact ⟨by simp, below_le (below_drewN' (below_a2 _ _ _) _) b2⟩
theorem rnan_any (w : World) : Calls Tryz.prog 88 #[] w fun e w' => e = .returned (.float .f64 9221120237041090560) ∧ w = w' := by
  have h2 : (callFunc 122 #[.int .u64 9221120237041090560]).run Tryz.prog w = .ok (.value (.float .f64 9221120237041090560)) w := f64from_run 9221120237041090560 w
  go_enter Tryz.func88, Tryz.ntmps88
  go_wp2
  go_ret
  exact ⟨rfl, rfl⟩
set_option maxRecDepth 100000 in
set_option maxHeartbeats 1000000 in
theorem fNumber_any (x : Nat) (w : World) : Calls Tryz.prog 62 #[.float .f64 x] w fun e w' => e = .returned (valV (valF (cn x))) ∧ Below w.heap.size w w' := by
  have C1 := Lib.hid (fun W => isNaN_any x W)
  have C2 := Lib.hid (fun W => rnan_any W)
  unfold cn
  cases e1 : fnan x
  · rw [e1] at C1
    rw [if_neg (by simp)]
    clear e1 C2
    go_enter Tryz.func62, Tryz.ntmps62
    go_wp2_with fail
    refine (C1.out _).mono ?_
    rintro e w' ⟨rfl, rfl⟩
    go_wp2_with (refine vlS rfl rfl w.heap.size 3 false x ⟨#[]⟩ 0 rfl rfl (heap_alloc_last w _) ?_; rw [World.setRow_alloc_new])
    refine vlR rfl rfl (heap_alloc_last w _) rfl rfl ⟨rfl, below_a1 _ _⟩
  · rw [e1] at C1
    rw [if_pos rfl]
    clear e1
    go_enter Tryz.func62, Tryz.ntmps62
    go_wp2_with fail
    refine (C1.out _).mono ?_
    rintro e w' ⟨rfl, rfl⟩
    go_wp2_with fail
    refine (C2.out _).mono ?_
    rintro e w' ⟨rfl, rfl⟩
    go_wp2_with (refine vlS rfl rfl w.heap.size 3 false 9221120237041090560 ⟨#[]⟩ 0 rfl rfl (heap_alloc_last w _) ?_; rw [World.setRow_alloc_new])
    refine vlR rfl rfl (heap_alloc_last w _) rfl rfl ⟨rfl, below_a1 _ _⟩

end Go.Proofs.YtmlgjijjkikkhaaGreatDoor
