/-
  The program's tests of a node: those that look at the node alone.
-/
import Derived.Test.YtjbofhaiephedaaGreatJ5
import Derived.Test.YtjbofhaiephedaaGreatJ8
namespace Go.Proofs.YtjbofhaiephedaaGreat
open Go.RowKit Go.Shelf
attribute [local go_sem] stFl
theorem b1 {w : World} (X : Obj) : Below w.heap.size w (w.alloc X) := (Below.refl _ _).alloc (Nat.le_refl _) _
/-- A node's value. -/
def nodA (d : Nd) (A : Option Addr) (k c : Nat) : Value := .agg #[.int .i64 d.k, .string d.op, .string d.st, .float .f64 d.nm, .bool d.fl, .slice A k c, .int .i64 d.ps]
set_option maxRecDepth 100000 in
set_option maxHeartbeats 1000000 in
theorem afree_any (d : Nd) (A : Option Addr) (k c : Nat) (W : World) : Calls Tryz.prog 83 #[nodA d A k c] W fun e w' => e = .returned (.bool (true)) ∧ Below W.heap.size W w' := by
  unfold nodA
  go_enter Tryz.func83, Tryz.ntmps83
  go_wp2
  go_ret
  exact ⟨rfl, b1 _⟩
set_option maxRecDepth 100000 in
set_option maxHeartbeats 1000000 in
theorem aflagged_any (d : Nd) (A : Option Addr) (k c : Nat) (W : World) : Calls Tryz.prog 102 #[nodA d A k c] W fun e w' => e = .returned (.bool (d.fl)) ∧ Below W.heap.size W w' := by
  unfold nodA
  go_enter Tryz.func102, Tryz.ntmps102
  go_wp2
  go_ret
  exact ⟨rfl, b1 _⟩
set_option maxRecDepth 100000 in
set_option maxHeartbeats 1000000 in
theorem aunnamed_any (d : Nd) (A : Option Addr) (k c : Nat) (W : World) : Calls Tryz.prog 91 #[nodA d A k c] W fun e w' => e = .returned (.bool (d.st.toList.isEmpty)) ∧ Below W.heap.size W w' := by
  obtain ⟨B, hB⟩ : ∃ b, d.st.toList.isEmpty = b := ⟨_, rfl⟩
  rw [hB]
  unfold nodA
  go_enter Tryz.func91, Tryz.ntmps91
  go_wp2
  go_ret
  exact ⟨by first | rfl | simp [*], b1 _⟩
set_option maxRecDepth 100000 in
set_option maxHeartbeats 1000000 in
theorem atext_any (d : Nd) (A : Option Addr) (k c : Nat) (W : World) : Calls Tryz.prog 85 #[nodA d A k c] W fun e w' => e = .returned (.bool (d.st.size % 2 == 0)) ∧ Below W.heap.size W w' := by
  have he : ((d.st.size : Int) % 2 == 0) = (d.st.size % 2 == 0) := by
    rw [Bool.eq_iff_iff, beq_iff_eq, beq_iff_eq]
    omega
  rw [← he]
  obtain ⟨B, hB⟩ : ∃ b, ((d.st.size : Int) % 2 == 0) = b := ⟨_, rfl⟩
  rw [hB]
  clear he
  unfold nodA
  go_enter Tryz.func85, Tryz.ntmps85
  go_wp2
  go_ret
  exact ⟨by first | rfl | simp [*], b1 _⟩
def kGExpr (k : Int) : Bool := !(k == 8 || k == 10 || k == 11 || k == 12) && (decide (1 ≤ k) && decide (k ≤ 24))
set_option maxRecDepth 100000 in
set_option maxHeartbeats 1000000 in
theorem aexpression_any (d : Nd) (A : Option Addr) (k c : Nat) (W : World) : Calls Tryz.prog 81 #[nodA d A k c] W fun e w' => e = .returned (.bool (kGExpr d.k)) ∧ Below W.heap.size W w' := by
  by_cases h : d.k = 8 ∨ d.k = 10 ∨ d.k = 11 ∨ d.k = 12
  · rcases h with h | h | h | h
    · rw [h]
      unfold nodA
      rw [h]
      go_enter Tryz.func81, Tryz.ntmps81
      go_wp2
      go_ret
      exact ⟨rfl, b1 _⟩
    · rw [h]
      unfold nodA
      rw [h]
      go_enter Tryz.func81, Tryz.ntmps81
      go_wp2
      go_ret
      exact ⟨rfl, b1 _⟩
    · rw [h]
      unfold nodA
      rw [h]
      go_enter Tryz.func81, Tryz.ntmps81
      go_wp2
      go_ret
      exact ⟨rfl, b1 _⟩
    · rw [h]
      unfold nodA
      rw [h]
      go_enter Tryz.func81, Tryz.ntmps81
      go_wp2
      go_ret
      exact ⟨rfl, b1 _⟩
  · obtain ⟨h0, h1, h2, h3⟩ : ¬ d.k = 8 ∧ ¬ d.k = 10 ∧ ¬ d.k = 11 ∧ ¬ d.k = 12 := by omega
    clear h
    have hk : kGExpr d.k = (decide (1 ≤ d.k) && decide (d.k ≤ 24)) := by simp [kGExpr, *]
    rw [hk]
    clear hk
    by_cases g1 : 1 ≤ d.k
    · by_cases g2 : d.k ≤ 24
      · unfold nodA
        go_enter Tryz.func81, Tryz.ntmps81
        go_wp2
        go_ret
        exact ⟨by simp [*], b1 _⟩
      · unfold nodA
        go_enter Tryz.func81, Tryz.ntmps81
        go_wp2
        go_ret
        exact ⟨by simp [*], b1 _⟩
    · unfold nodA
      go_enter Tryz.func81, Tryz.ntmps81
      go_wp2
      go_ret
      exact ⟨by first | (simp [*]; done) | (simp [*]; omega), b1 _⟩
def kGStat (k : Int) : Bool := !(k == 45 || k == 58 || k == 61) && (decide (43 ≤ k) && decide (k ≤ 62))
set_option maxRecDepth 100000 in
set_option maxHeartbeats 1000000 in
theorem astatement_any (d : Nd) (A : Option Addr) (k c : Nat) (W : World) : Calls Tryz.prog 98 #[nodA d A k c] W fun e w' => e = .returned (.bool (kGStat d.k)) ∧ Below W.heap.size W w' := by
  by_cases h : d.k = 45 ∨ d.k = 58 ∨ d.k = 61
  · rcases h with h | h | h
    · rw [h]
      unfold nodA
      rw [h]
      go_enter Tryz.func98, Tryz.ntmps98
      go_wp2
      go_ret
      exact ⟨rfl, b1 _⟩
    · rw [h]
      unfold nodA
      rw [h]
      go_enter Tryz.func98, Tryz.ntmps98
      go_wp2
      go_ret
      exact ⟨rfl, b1 _⟩
    · rw [h]
      unfold nodA
      rw [h]
      go_enter Tryz.func98, Tryz.ntmps98
      go_wp2
      go_ret
      exact ⟨rfl, b1 _⟩
  · obtain ⟨h0, h1, h2⟩ : ¬ d.k = 45 ∧ ¬ d.k = 58 ∧ ¬ d.k = 61 := by omega
    clear h
    have hk : kGStat d.k = (decide (43 ≤ d.k) && decide (d.k ≤ 62)) := by simp [kGStat, *]
    rw [hk]
    clear hk
    by_cases g1 : 43 ≤ d.k
    · by_cases g2 : d.k ≤ 62
      · unfold nodA
        go_enter Tryz.func98, Tryz.ntmps98
        go_wp2
        go_ret
        exact ⟨by simp [*], b1 _⟩
      · unfold nodA
        go_enter Tryz.func98, Tryz.ntmps98
        go_wp2
        go_ret
        exact ⟨by simp [*], b1 _⟩
    · unfold nodA
      go_enter Tryz.func98, Tryz.ntmps98
      go_wp2
      go_ret
      exact ⟨by first | (simp [*]; done) | (simp [*]; omega), b1 _⟩
set_option maxRecDepth 100000 in
set_option maxHeartbeats 1000000 in
theorem aleftSide_any (d : Nd) (A : Option Addr) (k c : Nat) (W : World) : Calls Tryz.prog 96 #[nodA d A k c] W fun e w' => e = .returned (.bool (kGExpr d.k && decide (d.k ≤ 17))) ∧ Below W.heap.size W w' := by
  have C1 := fun W => aexpression_any d A k c W
  obtain ⟨B, hB⟩ : ∃ b, kGExpr d.k = b := ⟨_, rfl⟩
  rw [hB] at C1 ⊢
  clear hB
  obtain ⟨D, hD⟩ : ∃ b, decide (d.k ≤ 17) = b := ⟨_, rfl⟩
  rw [hD]
  have C1 := Lib.hid C1
  unfold nodA at C1 ⊢
  cases B
  · clear hD
    go_enter Tryz.func96, Tryz.ntmps96
    go_wp2_with fail
    refine (C1.out _).mono ?_
    rintro e w2 ⟨rfl, b2⟩
    go_wp2
    go_ret
    exact ⟨rfl, (b1 _).trans (b2.mono (b1 _).size)⟩
  · skip
    go_enter Tryz.func96, Tryz.ntmps96
    go_wp2_with fail
    refine (C1.out _).mono ?_
    rintro e w2 ⟨rfl, b2⟩
    have k0 : w2.cell? ⟨W.heap.size, 0, none⟩ = some (.int .i64 d.k) := (b2.cell (p := ⟨W.heap.size, 0, none⟩) (by simp)).trans (by simp)
    have B2 := Lib.hid ((b1 _).trans (b2.mono (b1 _).size))
    clear b2
    go_wp2
    go_ret
    exact ⟨by first | rfl | simp [*], B2.out⟩
set_option maxRecDepth 100000 in
set_option maxHeartbeats 1000000 in
theorem aamount_any (d : Nd) (A : Option Addr) (k c : Nat) (W : World) (hn : d.nm < 18446744073709551616) : Calls Tryz.prog 84 #[nodA d A k c] W fun e w' => e = .returned (.bool (!fnan d.nm && !fneg d.nm)) ∧ Below W.heap.size W w' := by
  have C1 := fun W => isNaN_any d.nm W
  have C2 := fun W => sgnbit_any d.nm W hn
  obtain ⟨B, hB⟩ : ∃ b, fnan d.nm = b := ⟨_, rfl⟩
  obtain ⟨D, hD⟩ : ∃ b, fneg d.nm = b := ⟨_, rfl⟩
  rw [hB] at C1 ⊢
  rw [hD] at C2 ⊢
  clear hB hD hn
  have C1 := Lib.hid C1
  have C2 := Lib.hid C2
  unfold nodA
  cases B
  · skip
    go_enter Tryz.func84, Tryz.ntmps84
    go_wp2_with fail
    refine (C1.out _).mono ?_
    rintro e w' ⟨rfl, rfl⟩
    go_wp2_with fail
    refine (C2.out _).mono ?_
    rintro e w' ⟨rfl, rfl⟩
    go_wp2
    go_ret
    exact ⟨by simp, b1 _⟩
  · clear C2
    go_enter Tryz.func84, Tryz.ntmps84
    go_wp2_with fail
    refine (C1.out _).mono ?_
    rintro e w' ⟨rfl, rfl⟩
    go_wp2
    go_ret
    exact ⟨by simp, b1 _⟩
set_option maxRecDepth 100000 in
set_option maxHeartbeats 1000000 in
theorem aoneVariable_any (d : Nd) (A : Option Addr) (k c : Nat) (W : World) : Calls Tryz.prog 100 #[nodA d A k c] W fun e w' => e = .returned (.bool (d.k == 44 && k == 1)) ∧ Below W.heap.size W w' := by
  have he : ((k : Int) == 1) = (k == 1) := by
    rw [Bool.eq_iff_iff, beq_iff_eq, beq_iff_eq]
    omega
  rw [← he]
  clear he
  obtain ⟨B, hB⟩ : ∃ b, (d.k == 44) = b := ⟨_, rfl⟩
  obtain ⟨D, hD⟩ : ∃ b, ((k : Int) == 1) = b := ⟨_, rfl⟩
  rw [hB, hD]
  unfold nodA
  cases B
  · clear hD
    go_enter Tryz.func100, Tryz.ntmps100
    go_wp2
    go_ret
    exact ⟨by simp, b1 _⟩
  · skip
    go_enter Tryz.func100, Tryz.ntmps100
    go_wp2
    go_ret
    exact ⟨by first | rfl | simp [*], b1 _⟩
/-- The two functions of the lexer that names ask. -/
structure Lx (nmd rsv : ByteArray → Bool) : Prop where
  n : ∀ s (W : World), s.size ≤ 17592186044416 → Calls Tryz.prog 134 #[.string s] W fun e w' => e = .returned (.bool (nmd s)) ∧ Below W.heap.size W w'
  r : ∀ s (W : World), s.size ≤ 17592186044416 → Calls Tryz.prog 126 #[.string s] W fun e w' => e = .returned (.bool (rsv s)) ∧ Below W.heap.size W w'
set_option maxRecDepth 100000 in
set_option maxHeartbeats 1000000 in
theorem amember_any {nmd rsv : ByteArray → Bool} (hL : Lx nmd rsv) (d : Nd) (A : Option Addr) (k c : Nat) (W : World) (hs : d.st.size ≤ 17592186044416) : Calls Tryz.prog 93 #[nodA d A k c] W fun e w' => e = .returned (.bool (d.st.size % 2 == 0 && nmd d.st)) ∧ Below W.heap.size W w' := by
  have C1 := fun W => atext_any d A k c W
  have C2 := fun W => hL.n d.st W hs
  obtain ⟨B, hB⟩ : ∃ b, (d.st.size % 2 == 0) = b := ⟨_, rfl⟩
  obtain ⟨D, hD⟩ : ∃ b, nmd d.st = b := ⟨_, rfl⟩
  rw [hB] at C1 ⊢
  rw [hD] at C2 ⊢
  clear hB hD hs hL
  have C1 := Lib.hid C1
  have C2 := Lib.hid C2
  unfold nodA at C1 ⊢
  cases B
  · clear C2
    go_enter Tryz.func93, Tryz.ntmps93
    go_wp2_with fail
    refine (C1.out _).mono ?_
    rintro e w2 ⟨rfl, b2⟩
    go_wp2
    go_ret
    exact ⟨by simp, (b1 _).trans (b2.mono (b1 _).size)⟩
  · skip
    go_enter Tryz.func93, Tryz.ntmps93
    go_wp2_with fail
    refine (C1.out _).mono ?_
    rintro e w2 ⟨rfl, b2⟩
    have k0 : w2.cell? ⟨W.heap.size, 2, none⟩ = some (.string d.st) := (b2.cell (p := ⟨W.heap.size, 2, none⟩) (by simp)).trans (by simp)
    have B2 := Lib.hid ((b1 _).trans (b2.mono (b1 _).size))
    clear b2
    go_wp2_with fail
    refine (C2.out _).mono ?_
    rintro e w3 ⟨rfl, b3⟩
    go_wp2
    go_ret
    exact ⟨by simp, B2.out.trans (b3.mono B2.out.size)⟩
set_option maxRecDepth 100000 in
set_option maxHeartbeats 1000000 in
theorem aname_any {nmd rsv : ByteArray → Bool} (hL : Lx nmd rsv) (d : Nd) (A : Option Addr) (k c : Nat) (W : World) (hs : d.st.size ≤ 17592186044416) : Calls Tryz.prog 82 #[nodA d A k c] W fun e w' => e = .returned (.bool ((d.st.size % 2 == 0 && nmd d.st) && !rsv d.st)) ∧ Below W.heap.size W w' := by
  have C1 := fun W => amember_any hL d A k c W hs
  have C2 := fun W => hL.r d.st W hs
  obtain ⟨B, hB⟩ : ∃ b, (d.st.size % 2 == 0 && nmd d.st) = b := ⟨_, rfl⟩
  obtain ⟨D, hD⟩ : ∃ b, rsv d.st = b := ⟨_, rfl⟩
  rw [hB] at C1 ⊢
  rw [hD] at C2 ⊢
  clear hB hD hs hL
  have C1 := Lib.hid C1
  have C2 := Lib.hid C2
  unfold nodA at C1 ⊢
  cases B
  · clear C2
    go_enter Tryz.func82, Tryz.ntmps82
    go_wp2_with fail
    refine (C1.out _).mono ?_
    rintro e w2 ⟨rfl, b2⟩
    go_wp2
    go_ret
    exact ⟨by simp, (b1 _).trans (b2.mono (b1 _).size)⟩
  · skip
    go_enter Tryz.func82, Tryz.ntmps82
    go_wp2_with fail
    refine (C1.out _).mono ?_
    rintro e w2 ⟨rfl, b2⟩
    have k0 : w2.cell? ⟨W.heap.size, 2, none⟩ = some (.string d.st) := (b2.cell (p := ⟨W.heap.size, 2, none⟩) (by simp)).trans (by simp)
    have B2 := Lib.hid ((b1 _).trans (b2.mono (b1 _).size))
    clear b2
    go_wp2_with fail
    refine (C2.out _).mono ?_
    rintro e w3 ⟨rfl, b3⟩
    go_wp2
    go_ret
    exact ⟨by simp, B2.out.trans (b3.mono B2.out.size)⟩
end Go.Proofs.YtjbofhaiephedaaGreat
