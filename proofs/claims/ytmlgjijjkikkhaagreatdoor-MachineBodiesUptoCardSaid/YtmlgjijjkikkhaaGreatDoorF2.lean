/-
  The reference's May: whether a value may be.
-/
import Derived.Test.YtmlgjijjkikkhaaGreatDoorF1
import Derived.Deep.DeepCutAuto
import Derived.BigQuiet
namespace Go.Proofs.YtmlgjijjkikkhaaGreatDoor
open Go.RowKit
theorem fNumber_kept (x : Nat) (w : World) : Calls Tryz.prog 62 #[.float .f64 x] w fun e w' => e = .returned (.agg #[.int .i64 3, .bool false, .float .f64 (cn x), .string ⟨#[]⟩, .int .i64 0]) ∧ Below w.heap.size w w' ∧ ∀ a v, w.cell? a = some v → w'.cell? a = some v :=
  (fNumber_any x w).mono fun _ _ ⟨a, b⟩ => ⟨a, b, kept b⟩
theorem even_nat (n : Nat) : ((n : Int) % 2 == 0) = (n % 2 == 0) := by
  rw [Bool.eq_iff_iff, beq_iff_eq, beq_iff_eq]
  omega
theorem fldV2 (k : Int) (b : Bool) (n : Nat) (s : ByteArray) (o : Int) (W : World) : (Instr.field 57 (.agg #[.int .i64 k, .bool b, .float .f64 n, .string s, .int .i64 o]) 2).run Tryz.prog W = .ok (.float .f64 n) W := by
  unfold Instr.field
  simp [go_sem, asAgg]
theorem celV5 {W : World} {g : Nat} {a b c d e : Value} {T : TypeId} {f : Nat × Nat} (h : W.heap[g]? = some (.cells #[a, b, c, d, e] T f)) :
    W.cell? ⟨g, 0, none⟩ = some a ∧ W.cell? ⟨g, 1, none⟩ = some b ∧ W.cell? ⟨g, 2, none⟩ = some c ∧ W.cell? ⟨g, 3, none⟩ = some d ∧ W.cell? ⟨g, 4, none⟩ = some e := by
  simp [World.cell?, h]
theorem newV {w W1 : World} {a b c d e : Value} {T : TypeId} (h : w.alloc (.cells #[a, b, c, d, e] T) = W1) :
    W1.cell? ⟨w.heap.size, 0, none⟩ = some a ∧ W1.cell? ⟨w.heap.size, 1, none⟩ = some b ∧ W1.cell? ⟨w.heap.size, 2, none⟩ = some c ∧ W1.cell? ⟨w.heap.size, 3, none⟩ = some d ∧ W1.cell? ⟨w.heap.size, 4, none⟩ = some e := by
  subst h
  exact celV5 (heap_alloc_last _ _)
set_option maxRecDepth 100000 in
set_option maxHeartbeats 2000000 in
theorem fMay_any (v : Val) (w : World) : Calls Tryz.prog 51 #[valV v] w fun e w' => e = .returned (.bool (mayB v)) ∧ Below w.heap.size w w' := by
  have C2 := Lib.hid (fun W => fNumber_kept v.vn W)
  have h1 := fun W => f64bits_run v.vn W
  have h2 := fun W => f64bits_run (cn v.vn) W
  unfold mayB
  obtain ⟨k, b, n, s, o⟩ := v
  unfold valV
  dsimp only at C2 h1 h2 ⊢
  obtain ⟨P1, hP1⟩ : ∃ P, (!b || k == 2) = P := ⟨_, rfl⟩
  obtain ⟨P2, hP2⟩ : ∃ P, (n == 0 || (k == 3 && cn n == n)) = P := ⟨_, rfl⟩
  obtain ⟨P3, hP3⟩ : ∃ P, (s.toList.isEmpty || (k == 4 && s.size % 2 == 0)) = P := ⟨_, rfl⟩
  obtain ⟨P4, hP4⟩ : ∃ P, (o == 0 || (k == 5 && decide (0 < o))) = P := ⟨_, rfl⟩
  obtain ⟨A, hA⟩ : ∃ A, decide (0 ≤ k) = A := ⟨_, rfl⟩
  obtain ⟨B, hB⟩ : ∃ B, decide (k ≤ 5) = B := ⟨_, rfl⟩
  rw [hP1, hP2, hP3, hP4, hA, hB]
  have HA := Lib.hid hA
  have HB5 := Lib.hid hB
  clear hA hB
  have H1 := Lib.hid hP1
  have H2 := Lib.hid hP2
  have H3 := Lib.hid hP3
  have H4 := Lib.hid hP4
  clear hP1 hP2 hP3 hP4
  go_enter Tryz.func51, Tryz.ntmps51
  go_upto_region 1 with fail
  obtain ⟨W1, hW1⟩ : ∃ W1, w.alloc (.cells #[.int .i64 k, .bool b, .float .f64 n, .string s, .int .i64 o] 57) = W1 := ⟨_, rfl⟩
  have HB := Lib.hid (show Below w.heap.size w W1 by rw [← hW1]; exact below_a1 _ _)
  obtain ⟨c0, c1, c2, c3, c4⟩ := newV hW1
  have hsz : w.heap.size < W1.heap.size := by rw [← hW1]; simp
  have hsz := Lib.hid hsz
  rw [hW1]
  clear hW1
  generalize Value.agg #[.int .i64 k, .bool b, .float .f64 n, .string s, .int .i64 o] = X
  obtain ⟨g, hg⟩ : ∃ g, w.heap.size = g := ⟨_, rfl⟩
  rw [hg] at c0 c1 c2 c3 c4 HB hsz ⊢
  have HG := Lib.hid hg
  clear hg
  go_cut [3] (fun c wx => c = .bool P1 ∧ W1 = wx)
  case first =>
    cases b
    · go_wp2
      go_meet
      case rel => exact ⟨by rw [← H1.out]; rfl, rfl⟩
    · obtain ⟨K, hK⟩ : ∃ K, (k == 2) = K := ⟨_, rfl⟩
      have e1 := Lib.hid <| show K = P1 by rw [← H1.out, hK]; rfl
      go_wp2
      all_goals go_meet
      all_goals (case rel => exact ⟨by rw [← e1.out], rfl⟩)
  case rest =>
    obtain ⟨rfl, rfl⟩ := hcut
    go_upto_region 2 with fail
    go_cut [4] (fun c wx => c = .bool P2 ∧ (∀ a v, W1.cell? a = some v → wx.cell? a = some v) ∧ Below W1.heap.size W1 wx)
    case first =>
      rcases Bool.eq_false_or_eq_true ((n : Int) == 0) with hN | hN
      · have e2 := Lib.hid <| show true = P2 by rw [← H2.out, ← bits_nat, show ((0 : Nat) : Int) = 0 from rfl, hN, Bool.true_or]
        refine wp_region_held_drew (S := (fun w' => w'.cell? ⟨g, 0, none⟩ = some (.int .i64 k) ∧ w'.cell? ⟨g, 2, none⟩ = some (.float .f64 n))) (by kernel_rfl) ?_ (fun hHeld => ?_)
        · go_keep
        refine take_s (i := 0) rfl (by kernel_rfl) (by kernel_rfl) (by kernel_rfl) (fun _ _ _ h => h) (Or.inl ⟨by rfl, by (intro w hSw; (try dsimp only at hSw); go_simp; try with_reducible rfl)⟩) rfl (by assumption) ?_; simp only [lset]
        refine take_s (i := 1) rfl (by kernel_rfl) (by kernel_rfl) (by kernel_rfl) (fun _ _ _ h => h) (Or.inl ⟨by rfl, by (intro w hSw; (try dsimp only at hSw); go_simp; try with_reducible rfl)⟩) rfl (by assumption) ?_; simp only [lset]
        refine take_s (i := 2) rfl (by kernel_rfl) (by kernel_rfl) (by kernel_rfl) (fun _ _ _ h => h) (Or.inl ⟨by rfl, by (intro w hSw; (try dsimp only at hSw); go_simp; try with_reducible rfl)⟩) rfl (by assumption) ?_; simp only [lset]
        refine take_s (i := 3) rfl (by kernel_rfl) (by kernel_rfl) (by kernel_rfl) (fun _ _ _ h => h) (Or.inl ⟨by rfl, by (intro w hSw; (try dsimp only at hSw); go_simp; try with_reducible rfl)⟩) rfl (by assumption) ?_; simp only [lset]
        refine take_s (i := 4) rfl (by kernel_rfl) (by kernel_rfl) (by kernel_rfl) (fun _ _ _ h => h) (Or.inl ⟨by rfl, by (intro w hSw; (try dsimp only at hSw); go_simp; try with_reducible rfl)⟩) rfl (by assumption) ?_; simp only [lset]
        refine take_s (i := 5) rfl (by kernel_rfl) (by kernel_rfl) (by kernel_rfl) (fun _ _ _ h => h) (Or.inr ⟨by rfl, rfl⟩) rfl (by assumption) ?_; simp only [lset]
        refine take_s (i := 6) rfl (by kernel_rfl) (by kernel_rfl) (by kernel_rfl) (fun _ _ _ h => h) (Or.inr ⟨by rfl, rfl⟩) rfl (by assumption) ?_; simp only [lset]
        refine take_s (i := 7) rfl (by kernel_rfl) (by kernel_rfl) (by kernel_rfl) (fun _ _ _ h => h) (Or.inr ⟨by rfl, rfl⟩) rfl (by assumption) ?_; simp only [lset]
        refine take_s (i := 8) rfl (by kernel_rfl) (by kernel_rfl) (by kernel_rfl) (fun _ _ _ h => h) (Or.inr ⟨by rfl, rfl⟩) rfl (by assumption) ?_; simp only [lset]
        refine take_s (i := 9) rfl (by kernel_rfl) (by kernel_rfl) (by kernel_rfl) (fun _ _ _ h => h) (Or.inr ⟨by rfl, rfl⟩) rfl (by assumption) ?_; simp only [lset]
        refine take_s (i := 10) rfl (by kernel_rfl) (by kernel_rfl) (by kernel_rfl) (fun _ _ _ h => h) (Or.inr ⟨by rfl, rfl⟩) rfl (by assumption) ?_; simp only [lset]
        refine take_s (i := 11) rfl (by kernel_rfl) (by kernel_rfl) (by kernel_rfl) (fun _ _ _ h => h) (Or.inr ⟨by rfl, rfl⟩) rfl (by assumption) ?_; simp only [lset]
        refine take_s (i := 12) rfl (by kernel_rfl) (by kernel_rfl) (by kernel_rfl) (fun _ _ _ h => h) (Or.inr ⟨by rfl, rfl⟩) rfl (by assumption) ?_; simp only [lset]
        refine take_s (i := 13) rfl (by kernel_rfl) (by kernel_rfl) (by kernel_rfl) (fun _ _ _ h => h) (Or.inr ⟨by rfl, rfl⟩) rfl (by assumption) ?_; simp only [lset]
        refine take_s (i := 14) rfl (by kernel_rfl) (by kernel_rfl) (by kernel_rfl) (fun _ _ _ h => h) (Or.inr ⟨by rfl, rfl⟩) rfl (by assumption) ?_; simp only [lset]
        refine take_s (i := 15) rfl (by kernel_rfl) (by kernel_rfl) (by kernel_rfl) (fun _ _ _ h => h) (Or.inr ⟨by rfl, rfl⟩) rfl (by assumption) ?_; simp only [lset]
        refine take_s (i := 16) rfl (by kernel_rfl) (by kernel_rfl) (by kernel_rfl) (fun _ _ _ h => h) (Or.inr ⟨by rfl, rfl⟩) rfl (by assumption) ?_; simp only [lset]
        refine take_s (i := 17) rfl (by kernel_rfl) (by kernel_rfl) (by kernel_rfl) (fun _ _ _ h => h) (Or.inr ⟨by rfl, rfl⟩) rfl (by assumption) ?_; simp only [lset]
        refine take_s (i := 18) rfl (by kernel_rfl) (by kernel_rfl) (by kernel_rfl) (fun _ _ _ h => h) (Or.inr ⟨by rfl, rfl⟩) rfl (by assumption) ?_; simp only [lset]
        refine take_s (i := 19) rfl (by kernel_rfl) (by kernel_rfl) (by kernel_rfl) (fun _ _ _ h => h) (Or.inl ⟨by rfl, by (intro w hSw; (try dsimp only at hSw); go_simp; try with_reducible rfl)⟩) rfl (by assumption) ?_; simp only [lset]
        refine take_s (i := 20) rfl (by kernel_rfl) (by kernel_rfl) (by kernel_rfl) (fun _ _ _ h => h) (Or.inl ⟨by rfl, by (intro w hSw; (try dsimp only at hSw); go_simp; try with_reducible rfl)⟩) rfl (by assumption) ?_; simp only [lset]
        refine wpAnyH_done (by kernel_rfl) ?_ _
        go_wp2
        go_meet
        case rel => exact ⟨by rw [← e2.out], fun _ _ h => h, below_drewN' (Below.refl _ _) _⟩
      · rcases Bool.eq_false_or_eq_true (k == 3) with hK | hK
        · obtain ⟨E, hE⟩ : ∃ E, ((cn n : Int) == (n : Int)) = E := ⟨_, rfl⟩
          have e2 := Lib.hid <| show E = P2 by rw [← H2.out, ← bits_nat n, ← bits_nat, show ((0 : Nat) : Int) = 0 from rfl, hN, hK, hE, Bool.false_or, Bool.true_and]
          have hf := fun W => fldV2 3 false (cn n) ⟨#[]⟩ 0 W
          refine wp_region_held_drew (S := (fun w' => w'.cell? ⟨g, 0, none⟩ = some (.int .i64 k) ∧ w'.cell? ⟨g, 2, none⟩ = some (.float .f64 n))) (by kernel_rfl) ?_ (fun hHeld => ?_)
          · go_keep
          refine take_s (i := 0) rfl (by kernel_rfl) (by kernel_rfl) (by kernel_rfl) (fun _ _ _ h => h) (Or.inl ⟨by rfl, by (intro w hSw; (try dsimp only at hSw); go_simp; try with_reducible rfl)⟩) rfl (by assumption) ?_; simp only [lset]
          refine take_s (i := 1) rfl (by kernel_rfl) (by kernel_rfl) (by kernel_rfl) (fun _ _ _ h => h) (Or.inl ⟨by rfl, by (intro w hSw; (try dsimp only at hSw); go_simp; try with_reducible rfl)⟩) rfl (by assumption) ?_; simp only [lset]
          refine take_s (i := 2) rfl (by kernel_rfl) (by kernel_rfl) (by kernel_rfl) (fun _ _ _ h => h) (Or.inl ⟨by rfl, by (intro w hSw; (try dsimp only at hSw); go_simp; try with_reducible rfl)⟩) rfl (by assumption) ?_; simp only [lset]
          refine take_s (i := 3) rfl (by kernel_rfl) (by kernel_rfl) (by kernel_rfl) (fun _ _ _ h => h) (Or.inl ⟨by rfl, by (intro w hSw; (try dsimp only at hSw); go_simp; try with_reducible rfl)⟩) rfl (by assumption) ?_; simp only [lset]
          refine take_s (i := 4) rfl (by kernel_rfl) (by kernel_rfl) (by kernel_rfl) (fun _ _ _ h => h) (Or.inl ⟨by rfl, by (intro w hSw; (try dsimp only at hSw); go_simp; try with_reducible rfl)⟩) rfl (by assumption) ?_; simp only [lset]
          refine take_s (i := 5) rfl (by kernel_rfl) (by kernel_rfl) (by kernel_rfl) (fun _ _ _ h => h) (Or.inl ⟨by rfl, by (intro w hSw; (try dsimp only at hSw); go_simp; try with_reducible rfl)⟩) rfl (by assumption) ?_; simp only [lset]
          refine take_s (i := 6) rfl (by kernel_rfl) (by kernel_rfl) (by kernel_rfl) (fun _ _ _ h => h) (Or.inl ⟨by rfl, by (intro w hSw; (try dsimp only at hSw); go_simp; try with_reducible rfl)⟩) rfl (by assumption) ?_; simp only [lset]
          refine take_s (i := 7) rfl (by kernel_rfl) (by kernel_rfl) (by kernel_rfl) (fun _ _ _ h => h) (Or.inl ⟨by rfl, by (intro w hSw; (try dsimp only at hSw); go_simp; try with_reducible rfl)⟩) rfl (by assumption) ?_; simp only [lset]
          refine take_s (i := 8) rfl (by kernel_rfl) (by kernel_rfl) (by kernel_rfl) (fun _ _ _ h => h) (Or.inl ⟨by rfl, by (intro w hSw; (try dsimp only at hSw); go_simp; try with_reducible rfl)⟩) rfl (by assumption) ?_; simp only [lset]
          refine take_s (i := 9) rfl (by kernel_rfl) (by kernel_rfl) (by kernel_rfl) (fun _ _ _ h => h) (Or.inl ⟨by rfl, by (intro w hSw; (try dsimp only at hSw); go_simp; try with_reducible rfl)⟩) rfl (by assumption) ?_; simp only [lset]
          refine take_s (i := 10) rfl (by kernel_rfl) (by kernel_rfl) (by kernel_rfl) (fun _ _ _ h => h) (Or.inl ⟨by rfl, by (intro w hSw; (try dsimp only at hSw); go_simp; try with_reducible rfl)⟩) rfl (by assumption) ?_; simp only [lset]
          refine take_s (i := 14) rfl (by kernel_rfl) (by kernel_rfl) (by kernel_rfl) (fun _ _ _ h => h) (Or.inl ⟨by rfl, by (intro w hSw; (try dsimp only at hSw); go_simp; try with_reducible rfl)⟩) rfl (by assumption) ?_; simp only [lset]
          refine take_s (i := 15) rfl (by kernel_rfl) (by kernel_rfl) (by kernel_rfl) (fun _ _ _ h => h) (Or.inl ⟨by rfl, by (intro w hSw; (try dsimp only at hSw); go_simp; try with_reducible rfl)⟩) rfl (by assumption) ?_; simp only [lset]
          refine call_s (i := 11) (by kernel_rfl) rfl rfl (by rfl) (fun K hK => ?_)
          go_simp
          with_reducible refine (C2.out _).mono ?_
          rintro e w2 ⟨rfl, b2, hk⟩
          have hHeld2 := hHeld; clear hHeld; have hHeld : (fun w' => w'.cell? ⟨g, 0, none⟩ = some (.int .i64 k) ∧ w'.cell? ⟨g, 2, none⟩ = some (.float .f64 n)) w2 := ⟨hk _ _ hHeld2.1, hk _ _ hHeld2.2⟩
          refine hK.out _ _ hHeld ?_; clear hK K hHeld2; simp only [lset]
          refine take_s (i := 12) rfl (by kernel_rfl) (by kernel_rfl) (by kernel_rfl) (fun _ _ _ h => h) (Or.inl ⟨by rfl, by (intro w hSw; (try dsimp only at hSw); go_simp; try with_reducible rfl)⟩) rfl (by assumption) ?_; simp only [lset]
          refine take_s (i := 13) rfl (by kernel_rfl) (by kernel_rfl) (by kernel_rfl) (fun _ _ _ h => h) (Or.inl ⟨by rfl, by (intro w hSw; (try dsimp only at hSw); go_simp; try with_reducible rfl)⟩) rfl (by assumption) ?_; simp only [lset]
          refine take_s (i := 16) rfl (by kernel_rfl) (by kernel_rfl) (by kernel_rfl) (fun _ _ _ h => h) (Or.inl ⟨by rfl, by (intro w hSw; (try dsimp only at hSw); go_simp; try with_reducible rfl)⟩) rfl (by assumption) ?_; simp only [lset]
          refine take_s (i := 17) rfl (by kernel_rfl) (by kernel_rfl) (by kernel_rfl) (fun _ _ _ h => h) (Or.inl ⟨by rfl, by (intro w hSw; (try dsimp only at hSw); go_simp; try with_reducible rfl)⟩) rfl (by assumption) ?_; simp only [lset]
          refine take_s (i := 18) rfl (by kernel_rfl) (by kernel_rfl) (by kernel_rfl) (fun _ _ _ h => h) (Or.inl ⟨by rfl, by (intro w hSw; (try dsimp only at hSw); go_simp; try with_reducible rfl)⟩) rfl (by assumption) ?_; simp only [lset]
          refine take_s (i := 19) rfl (by kernel_rfl) (by kernel_rfl) (by kernel_rfl) (fun _ _ _ h => h) (Or.inl ⟨by rfl, by (intro w hSw; (try dsimp only at hSw); go_simp; try with_reducible rfl)⟩) rfl (by assumption) ?_; simp only [lset]
          refine take_s (i := 20) rfl (by kernel_rfl) (by kernel_rfl) (by kernel_rfl) (fun _ _ _ h => h) (Or.inl ⟨by rfl, by (intro w hSw; (try dsimp only at hSw); go_simp; try with_reducible rfl)⟩) rfl (by assumption) ?_; simp only [lset]
          refine wpAnyH_done (by kernel_rfl) ?_ _
          go_wp2
          go_meet
          case rel => exact ⟨by rw [← e2.out], fun a v h => hk a v h, below_le (below_drewN' (Below.refl _ _) _) b2⟩
        · have e2 := Lib.hid <| show false = P2 by rw [← H2.out, ← bits_nat n, show ((0 : Nat) : Int) = 0 from rfl, hN, hK]; rfl
          refine wp_region_held_drew (S := (fun w' => w'.cell? ⟨g, 0, none⟩ = some (.int .i64 k) ∧ w'.cell? ⟨g, 2, none⟩ = some (.float .f64 n))) (by kernel_rfl) ?_ (fun hHeld => ?_)
          · go_keep
          refine take_s (i := 0) rfl (by kernel_rfl) (by kernel_rfl) (by kernel_rfl) (fun _ _ _ h => h) (Or.inl ⟨by rfl, by (intro w hSw; (try dsimp only at hSw); go_simp; try with_reducible rfl)⟩) rfl (by assumption) ?_; simp only [lset]
          refine take_s (i := 1) rfl (by kernel_rfl) (by kernel_rfl) (by kernel_rfl) (fun _ _ _ h => h) (Or.inl ⟨by rfl, by (intro w hSw; (try dsimp only at hSw); go_simp; try with_reducible rfl)⟩) rfl (by assumption) ?_; simp only [lset]
          refine take_s (i := 2) rfl (by kernel_rfl) (by kernel_rfl) (by kernel_rfl) (fun _ _ _ h => h) (Or.inl ⟨by rfl, by (intro w hSw; (try dsimp only at hSw); go_simp; try with_reducible rfl)⟩) rfl (by assumption) ?_; simp only [lset]
          refine take_s (i := 3) rfl (by kernel_rfl) (by kernel_rfl) (by kernel_rfl) (fun _ _ _ h => h) (Or.inl ⟨by rfl, by (intro w hSw; (try dsimp only at hSw); go_simp; try with_reducible rfl)⟩) rfl (by assumption) ?_; simp only [lset]
          refine take_s (i := 4) rfl (by kernel_rfl) (by kernel_rfl) (by kernel_rfl) (fun _ _ _ h => h) (Or.inl ⟨by rfl, by (intro w hSw; (try dsimp only at hSw); go_simp; try with_reducible rfl)⟩) rfl (by assumption) ?_; simp only [lset]
          refine take_s (i := 5) rfl (by kernel_rfl) (by kernel_rfl) (by kernel_rfl) (fun _ _ _ h => h) (Or.inl ⟨by rfl, by (intro w hSw; (try dsimp only at hSw); go_simp; try with_reducible rfl)⟩) rfl (by assumption) ?_; simp only [lset]
          refine take_s (i := 6) rfl (by kernel_rfl) (by kernel_rfl) (by kernel_rfl) (fun _ _ _ h => h) (Or.inl ⟨by rfl, by (intro w hSw; (try dsimp only at hSw); go_simp; try with_reducible rfl)⟩) rfl (by assumption) ?_; simp only [lset]
          refine take_s (i := 7) rfl (by kernel_rfl) (by kernel_rfl) (by kernel_rfl) (fun _ _ _ h => h) (Or.inl ⟨by rfl, by (intro w hSw; (try dsimp only at hSw); go_simp; try with_reducible rfl)⟩) rfl (by assumption) ?_; simp only [lset]
          refine take_s (i := 8) rfl (by kernel_rfl) (by kernel_rfl) (by kernel_rfl) (fun _ _ _ h => h) (Or.inl ⟨by rfl, by (intro w hSw; (try dsimp only at hSw); go_simp; try with_reducible rfl)⟩) rfl (by assumption) ?_; simp only [lset]
          refine take_s (i := 9) rfl (by kernel_rfl) (by kernel_rfl) (by kernel_rfl) (fun _ _ _ h => h) (Or.inr ⟨by rfl, rfl⟩) rfl (by assumption) ?_; simp only [lset]
          refine take_s (i := 10) rfl (by kernel_rfl) (by kernel_rfl) (by kernel_rfl) (fun _ _ _ h => h) (Or.inr ⟨by rfl, rfl⟩) rfl (by assumption) ?_; simp only [lset]
          refine take_s (i := 11) rfl (by kernel_rfl) (by kernel_rfl) (by kernel_rfl) (fun _ _ _ h => h) (Or.inr ⟨by rfl, rfl⟩) rfl (by assumption) ?_; simp only [lset]
          refine take_s (i := 12) rfl (by kernel_rfl) (by kernel_rfl) (by kernel_rfl) (fun _ _ _ h => h) (Or.inr ⟨by rfl, rfl⟩) rfl (by assumption) ?_; simp only [lset]
          refine take_s (i := 13) rfl (by kernel_rfl) (by kernel_rfl) (by kernel_rfl) (fun _ _ _ h => h) (Or.inr ⟨by rfl, rfl⟩) rfl (by assumption) ?_; simp only [lset]
          refine take_s (i := 14) rfl (by kernel_rfl) (by kernel_rfl) (by kernel_rfl) (fun _ _ _ h => h) (Or.inr ⟨by rfl, rfl⟩) rfl (by assumption) ?_; simp only [lset]
          refine take_s (i := 15) rfl (by kernel_rfl) (by kernel_rfl) (by kernel_rfl) (fun _ _ _ h => h) (Or.inr ⟨by rfl, rfl⟩) rfl (by assumption) ?_; simp only [lset]
          refine take_s (i := 16) rfl (by kernel_rfl) (by kernel_rfl) (by kernel_rfl) (fun _ _ _ h => h) (Or.inr ⟨by rfl, rfl⟩) rfl (by assumption) ?_; simp only [lset]
          refine take_s (i := 17) rfl (by kernel_rfl) (by kernel_rfl) (by kernel_rfl) (fun _ _ _ h => h) (Or.inr ⟨by rfl, rfl⟩) rfl (by assumption) ?_; simp only [lset]
          refine take_s (i := 18) rfl (by kernel_rfl) (by kernel_rfl) (by kernel_rfl) (fun _ _ _ h => h) (Or.inl ⟨by rfl, by (intro w hSw; (try dsimp only at hSw); go_simp; try with_reducible rfl)⟩) rfl (by assumption) ?_; simp only [lset]
          refine take_s (i := 19) rfl (by kernel_rfl) (by kernel_rfl) (by kernel_rfl) (fun _ _ _ h => h) (Or.inl ⟨by rfl, by (intro w hSw; (try dsimp only at hSw); go_simp; try with_reducible rfl)⟩) rfl (by assumption) ?_; simp only [lset]
          refine take_s (i := 20) rfl (by kernel_rfl) (by kernel_rfl) (by kernel_rfl) (fun _ _ _ h => h) (Or.inl ⟨by rfl, by (intro w hSw; (try dsimp only at hSw); go_simp; try with_reducible rfl)⟩) rfl (by assumption) ?_; simp only [lset]
          refine wpAnyH_done (by kernel_rfl) ?_ _
          go_wp2
          go_meet
          case rel => exact ⟨by rw [← e2.out], fun _ _ h => h, below_drewN' (Below.refl _ _) _⟩
    case rest =>
    obtain ⟨rfl, hk, hb⟩ := hcut
    have d0 := hk _ _ c0
    have d3 := hk _ _ c3
    have d4 := hk _ _ c4
    have HB2 := Lib.hid (HB.out.trans (hb.mono (Nat.le_of_lt hsz.out)))
    clear hk hb c0 c1 c2 c3 c4 C2 h1 h2 H1 H2 HB
    generalize wc = W2 at *
    go_upto_region 3 with fail
    go_cut [5] (fun c wx => c = .bool P3 ∧ W2 = wx)
    case first =>
      rcases Bool.eq_false_or_eq_true s.toList.isEmpty with hN | hN
      · have e2 := Lib.hid <| show true = P3 by rw [← H3.out, hN, Bool.true_or]
        go_wp2
        all_goals go_meet
        all_goals (case rel => exact ⟨by rw [← e2.out], rfl⟩)
      · rcases Bool.eq_false_or_eq_true (k == 4) with hK | hK
        · obtain ⟨E, hE⟩ : ∃ E, ((s.size : Int) % 2 == 0) = E := ⟨_, rfl⟩
          have e2 := Lib.hid <| show E = P3 by rw [← H3.out, hN, hK, ← hE, even_nat, Bool.false_or, Bool.true_and]
          go_wp2
          all_goals go_meet
          all_goals (case rel => exact ⟨by rw [← e2.out], rfl⟩)
        · have e2 := Lib.hid <| show false = P3 by rw [← H3.out, hN, hK]; rfl
          go_wp2
          all_goals go_meet
          all_goals (case rel => exact ⟨by rw [← e2.out], rfl⟩)
    case rest =>
    obtain ⟨rfl, rfl⟩ := hcut
    go_upto_region 4 with fail
    go_cut [6] (fun c wx => c = .bool P4 ∧ W2 = wx)
    case first =>
      rcases Bool.eq_false_or_eq_true (o == 0) with hN | hN
      · have e2 := Lib.hid <| show true = P4 by rw [← H4.out, hN, Bool.true_or]
        go_wp2
        all_goals go_meet
        all_goals (case rel => exact ⟨by rw [← e2.out], rfl⟩)
      · rcases Bool.eq_false_or_eq_true (k == 5) with hK | hK
        · obtain ⟨E, hE⟩ : ∃ E, decide (0 < o) = E := ⟨_, rfl⟩
          have e2 := Lib.hid <| show E = P4 by rw [← H4.out, hN, hK, hE, Bool.false_or, Bool.true_and]
          go_wp2
          all_goals go_meet
          all_goals (case rel => exact ⟨by rw [← e2.out], rfl⟩)
        · have e2 := Lib.hid <| show false = P4 by rw [← H4.out, hN, hK]; rfl
          go_wp2
          all_goals go_meet
          all_goals (case rel => exact ⟨by rw [← e2.out], rfl⟩)

    case rest =>
    obtain ⟨rfl, rfl⟩ := hcut
    generalize wc = W2 at *
    clear H3 H4 d3 d4 hsz
    have hA := HA.out
    have hB := HB5.out
    go_wp2
    all_goals go_ret
    all_goals refine ⟨?_, by rw [HG.out]; exact HB2.out⟩
    all_goals simp_all

end Go.Proofs.YtmlgjijjkikkhaaGreatDoor
