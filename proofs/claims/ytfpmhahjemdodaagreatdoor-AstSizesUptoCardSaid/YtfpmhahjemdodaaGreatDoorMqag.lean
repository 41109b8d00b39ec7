/-
  The program's tests of a node: those that look at the node alone. The program's tests that are made of others.
-/
import Derived.Test.YtfpmhahjemdodaaGreatDoorMqaf
import Derived.Laws.EntriesVeiled
import Derived.Deep.RegionHeld3
namespace Go.Proofs.YtfpmhahjemdodaaGreatDoor
open Go.RowKit Go.Shelf
attribute [local go_sem] stFl
theorem b1 {w : World} (X : Obj) : Below w.heap.size w (w.alloc X) := (Below.refl _ _).alloc (Nat.le_refl _) _
/-- A node's value. -/
def nodA (d : Nd) (A : Option Addr) (k c : Nat) : Value := .agg #[.int .i64 d.k, .string d.op, .string d.st, .float .f64 d.nm, .bool d.fl, .slice A k c, .int .i64 d.ps]
set_option maxRecDepth 100000 in
set_option maxHeartbeats 1000000 in
theorem afree_any (d : Nd) (A : Option Addr) (k c : Nat) (W : World) : Calls Tryz.prog 88 #[nodA d A k c] W fun e w' => e = .returned (.bool (true)) ∧ Below W.heap.size W w' := by
  unfold nodA
  go_enter Tryz.func88, Tryz.ntmps88
  go_wp2
  go_ret
  exact ⟨rfl, b1 _⟩
set_option maxRecDepth 100000 in
set_option maxHeartbeats 1000000 in
theorem aflagged_any (d : Nd) (A : Option Addr) (k c : Nat) (W : World) : Calls Tryz.prog 107 #[nodA d A k c] W fun e w' => e = .returned (.bool (d.fl)) ∧ Below W.heap.size W w' := by
  unfold nodA
  go_enter Tryz.func107, Tryz.ntmps107
  go_wp2
  go_ret
  exact ⟨rfl, b1 _⟩
set_option maxRecDepth 100000 in
set_option maxHeartbeats 1000000 in
theorem aunnamed_any (d : Nd) (A : Option Addr) (k c : Nat) (W : World) : Calls Tryz.prog 96 #[nodA d A k c] W fun e w' => e = .returned (.bool (d.st.toList.isEmpty)) ∧ Below W.heap.size W w' := by
  obtain ⟨B, hB⟩ : ∃ b, d.st.toList.isEmpty = b := ⟨_, rfl⟩
  rw [hB]
  unfold nodA
  go_enter Tryz.func96, Tryz.ntmps96
  go_wp2
  go_ret
  exact ⟨by first | rfl | simp [*], b1 _⟩
set_option maxRecDepth 100000 in
set_option maxHeartbeats 1000000 in
theorem atext_any (d : Nd) (A : Option Addr) (k c : Nat) (W : World) : Calls Tryz.prog 90 #[nodA d A k c] W fun e w' => e = .returned (.bool (d.st.size % 2 == 0)) ∧ Below W.heap.size W w' := by
  have he : ((d.st.size : Int) % 2 == 0) = (d.st.size % 2 == 0) := by
    rw [Bool.eq_iff_iff, beq_iff_eq, beq_iff_eq]
    omega
  rw [← he]
  obtain ⟨B, hB⟩ : ∃ b, ((d.st.size : Int) % 2 == 0) = b := ⟨_, rfl⟩
  rw [hB]
  clear he
  unfold nodA
  go_enter Tryz.func90, Tryz.ntmps90
  go_wp2
  go_ret
  exact ⟨by first | rfl | simp [*], b1 _⟩
def kGExpr (k : Int) : Bool := !(k == 8 || k == 10 || k == 11 || k == 12) && (decide (1 ≤ k) && decide (k ≤ 24))
set_option maxRecDepth 100000 in
set_option maxHeartbeats 1000000 in
theorem aexpression_any (d : Nd) (A : Option Addr) (k c : Nat) (W : World) : Calls Tryz.prog 86 #[nodA d A k c] W fun e w' => e = .returned (.bool (kGExpr d.k)) ∧ Below W.heap.size W w' := by
  by_cases h : d.k = 8 ∨ d.k = 10 ∨ d.k = 11 ∨ d.k = 12
  · rcases h with h | h | h | h
    · rw [h]
      unfold nodA
      rw [h]
      go_enter Tryz.func86, Tryz.ntmps86
      go_wp2
      go_ret
      exact ⟨rfl, b1 _⟩
    · rw [h]
      unfold nodA
      rw [h]
      go_enter Tryz.func86, Tryz.ntmps86
      go_wp2
      go_ret
      exact ⟨rfl, b1 _⟩
    · rw [h]
      unfold nodA
      rw [h]
      go_enter Tryz.func86, Tryz.ntmps86
      go_wp2
      go_ret
      exact ⟨rfl, b1 _⟩
    · rw [h]
      unfold nodA
      rw [h]
      go_enter Tryz.func86, Tryz.ntmps86
      go_wp2
      go_ret
      exact ⟨rfl, b1 _⟩
  · obtain ⟨h0, h1, h2, h3⟩ : ¬ d.k = 8 ∧ ¬ d.k = 10 ∧ ¬ d.k = 11 ∧ ¬ d.k = 12 := by omega
    clear h
    have hk : kGExpr d.k = (decide (1 ≤ d.k) && decide (d.k ≤ 24)) := by simp [kGExpr, *]
    rw [hk]
    clear hk
    by_cases g1 : 1 ≤ d.k
    · by_cases g2 : d.k ≤ 24
      · unfold nodA
        go_enter Tryz.func86, Tryz.ntmps86
        go_wp2
        go_ret
        exact ⟨by simp [*], b1 _⟩
      · unfold nodA
        go_enter Tryz.func86, Tryz.ntmps86
        go_wp2
        go_ret
        exact ⟨by simp [*], b1 _⟩
    · unfold nodA
      go_enter Tryz.func86, Tryz.ntmps86
      go_wp2
      go_ret
      exact ⟨by first | (simp [*]; done) | (simp [*]; omega), b1 _⟩
def kGStat (k : Int) : Bool := !(k == 45 || k == 58 || k == 61) && (decide (43 ≤ k) && decide (k ≤ 62))
set_option maxRecDepth 100000 in
set_option maxHeartbeats 1000000 in
theorem astatement_any (d : Nd) (A : Option Addr) (k c : Nat) (W : World) : Calls Tryz.prog 103 #[nodA d A k c] W fun e w' => e = .returned (.bool (kGStat d.k)) ∧ Below W.heap.size W w' := by
  by_cases h : d.k = 45 ∨ d.k = 58 ∨ d.k = 61
  · rcases h with h | h | h
    · rw [h]
      unfold nodA
      rw [h]
      go_enter Tryz.func103, Tryz.ntmps103
      go_wp2
      go_ret
      exact ⟨rfl, b1 _⟩
    · rw [h]
      unfold nodA
      rw [h]
      go_enter Tryz.func103, Tryz.ntmps103
      go_wp2
      go_ret
      exact ⟨rfl, b1 _⟩
    · rw [h]
      unfold nodA
      rw [h]
      go_enter Tryz.func103, Tryz.ntmps103
      go_wp2
      go_ret
      exact ⟨rfl, b1 _⟩
  · obtain ⟨h0, h1, h2⟩ : ¬ d.k = 45 ∧ ¬ d.k = 58 ∧ ¬ d.k = 61 := by omega
    clear h
    have hk : kGStat d.k = (decide (43 ≤ d.k) && decide (d.k ≤ 62)) := by simp [kGStat, *]
    rw [hk]
    clear hk
    by_cases g1 : 43 ≤ d.k
    · by_cases g2 : d.k ≤ 62
      · unfold nodA
        go_enter Tryz.func103, Tryz.ntmps103
        go_wp2
        go_ret
        exact ⟨by simp [*], b1 _⟩
      · unfold nodA
        go_enter Tryz.func103, Tryz.ntmps103
        go_wp2
        go_ret
        exact ⟨by simp [*], b1 _⟩
    · unfold nodA
      go_enter Tryz.func103, Tryz.ntmps103
      go_wp2
      go_ret
      exact ⟨by first | (simp [*]; done) | (simp [*]; omega), b1 _⟩
set_option maxRecDepth 100000 in
set_option maxHeartbeats 1000000 in
theorem aleftSide_any (d : Nd) (A : Option Addr) (k c : Nat) (W : World) : Calls Tryz.prog 101 #[nodA d A k c] W fun e w' => e = .returned (.bool (kGExpr d.k && decide (d.k ≤ 17))) ∧ Below W.heap.size W w' := by
  have C1 := fun W => aexpression_any d A k c W
  obtain ⟨B, hB⟩ : ∃ b, kGExpr d.k = b := ⟨_, rfl⟩
  rw [hB] at C1 ⊢
  clear hB
  obtain ⟨D, hD⟩ : ∃ b, decide (d.k ≤ 17) = b := ⟨_, rfl⟩
  rw [hD]
  have C1 := Lib.hid C1
  unfold nodA at C1 ⊢
  cases B
  · clear hD
    go_enter Tryz.func101, Tryz.ntmps101
    go_wp2_with fail
    refine (C1.out _).mono ?_
    rintro e w2 ⟨rfl, b2⟩
    go_wp2
    go_ret
    exact ⟨rfl, (b1 _).trans (b2.mono (b1 _).size)⟩
  · skip
    go_enter Tryz.func101, Tryz.ntmps101
    go_wp2_with fail
    refine (C1.out _).mono ?_
    rintro e w2 ⟨rfl, b2⟩
    have k0 : w2.cell? ⟨W.heap.size, 0, none⟩ = some (.int .i64 d.k) := (b2.cell (p := ⟨W.heap.size, 0, none⟩) (by simp)).trans (by simp)
    have B2 := Lib.hid ((b1 _).trans (b2.mono (b1 _).size))
    clear b2
    go_wp2
    go_ret
    exact ⟨by first | rfl | simp [*], B2.out⟩
set_option maxRecDepth 100000 in
set_option maxHeartbeats 1000000 in
theorem aamount_any (d : Nd) (A : Option Addr) (k c : Nat) (W : World) (hn : d.nm < 18446744073709551616) : Calls Tryz.prog 89 #[nodA d A k c] W fun e w' => e = .returned (.bool (!fnan d.nm && !fneg d.nm)) ∧ Below W.heap.size W w' := by
  have C1 := fun W => isNaN_any d.nm W
  have C2 := fun W => sgnbit_any d.nm W hn
  obtain ⟨B, hB⟩ : ∃ b, fnan d.nm = b := ⟨_, rfl⟩
  obtain ⟨D, hD⟩ : ∃ b, fneg d.nm = b := ⟨_, rfl⟩
  rw [hB] at C1 ⊢
  rw [hD] at C2 ⊢
  clear hB hD hn
  have C1 := Lib.hid C1
  have C2 := Lib.hid C2
  unfold nodA
  cases B
  · skip
    go_enter Tryz.func89, Tryz.ntmps89
    go_wp2_with fail
    refine (C1.out _).mono ?_
    rintro e w' ⟨rfl, rfl⟩
    go_wp2_with fail
    refine (C2.out _).mono ?_
    rintro e w' ⟨rfl, rfl⟩
    go_wp2
    go_ret
    exact ⟨by simp, b1 _⟩
  · clear C2
    go_enter Tryz.func89, Tryz.ntmps89
    go_wp2_with fail
    refine (C1.out _).mono ?_
    rintro e w' ⟨rfl, rfl⟩
    go_wp2
    go_ret
    exact ⟨by simp, b1 _⟩
set_option maxRecDepth 100000 in
set_option maxHeartbeats 1000000 in
theorem aoneVariable_any (d : Nd) (A : Option Addr) (k c : Nat) (W : World) : Calls Tryz.prog 105 #[nodA d A k c] W fun e w' => e = .returned (.bool (d.k == 44 && k == 1)) ∧ Below W.heap.size W w' := by
  have he : ((k : Int) == 1) = (k == 1) := by
    rw [Bool.eq_iff_iff, beq_iff_eq, beq_iff_eq]
    omega
  rw [← he]
  clear he
  obtain ⟨B, hB⟩ : ∃ b, (d.k == 44) = b := ⟨_, rfl⟩
  obtain ⟨D, hD⟩ : ∃ b, ((k : Int) == 1) = b := ⟨_, rfl⟩
  rw [hB, hD]
  unfold nodA
  cases B
  · clear hD
    go_enter Tryz.func105, Tryz.ntmps105
    go_wp2
    go_ret
    exact ⟨by simp, b1 _⟩
  · skip
    go_enter Tryz.func105, Tryz.ntmps105
    go_wp2
    go_ret
    exact ⟨by first | rfl | simp [*], b1 _⟩
/-- The two functions of the lexer that names ask. -/
structure Lx (nmd rsv : ByteArray → Bool) : Prop where
  n : ∀ s (W : World), s.size ≤ 17592186044416 → Calls Tryz.prog 151 #[.string s] W fun e w' => e = .returned (.bool (nmd s)) ∧ Below W.heap.size W w'
  r : ∀ s (W : World), s.size ≤ 17592186044416 → Calls Tryz.prog 141 #[.string s] W fun e w' => e = .returned (.bool (rsv s)) ∧ Below W.heap.size W w'
set_option maxRecDepth 100000 in
set_option maxHeartbeats 1000000 in
theorem amember_any {nmd rsv : ByteArray → Bool} (hL : Lx nmd rsv) (d : Nd) (A : Option Addr) (k c : Nat) (W : World) (hs : d.st.size ≤ 17592186044416) : Calls Tryz.prog 98 #[nodA d A k c] W fun e w' => e = .returned (.bool (d.st.size % 2 == 0 && nmd d.st)) ∧ Below W.heap.size W w' := by
  have C1 := fun W => atext_any d A k c W
  have C2 := fun W => hL.n d.st W hs
  obtain ⟨B, hB⟩ : ∃ b, (d.st.size % 2 == 0) = b := ⟨_, rfl⟩
  obtain ⟨D, hD⟩ : ∃ b, nmd d.st = b := ⟨_, rfl⟩
  rw [hB] at C1 ⊢
  rw [hD] at C2 ⊢
  clear hB hD hs hL
  have C1 := Lib.hid C1
  have C2 := Lib.hid C2
  unfold nodA at C1 ⊢
  cases B
  · clear C2
    go_enter Tryz.func98, Tryz.ntmps98
    go_wp2_with fail
    refine (C1.out _).mono ?_
    rintro e w2 ⟨rfl, b2⟩
    go_wp2
    go_ret
    exact ⟨by simp, (b1 _).trans (b2.mono (b1 _).size)⟩
  · skip
    go_enter Tryz.func98, Tryz.ntmps98
    go_wp2_with fail
    refine (C1.out _).mono ?_
    rintro e w2 ⟨rfl, b2⟩
    have k0 : w2.cell? ⟨W.heap.size, 2, none⟩ = some (.string d.st) := (b2.cell (p := ⟨W.heap.size, 2, none⟩) (by simp)).trans (by simp)
    have B2 := Lib.hid ((b1 _).trans (b2.mono (b1 _).size))
    clear b2
    go_wp2_with fail
    refine (C2.out _).mono ?_
    rintro e w3 ⟨rfl, b3⟩
    go_wp2
    go_ret
    exact ⟨by simp, B2.out.trans (b3.mono B2.out.size)⟩
set_option maxRecDepth 100000 in
set_option maxHeartbeats 1000000 in
theorem aname_any {nmd rsv : ByteArray → Bool} (hL : Lx nmd rsv) (d : Nd) (A : Option Addr) (k c : Nat) (W : World) (hs : d.st.size ≤ 17592186044416) : Calls Tryz.prog 87 #[nodA d A k c] W fun e w' => e = .returned (.bool ((d.st.size % 2 == 0 && nmd d.st) && !rsv d.st)) ∧ Below W.heap.size W w' := by
  have C1 := fun W => amember_any hL d A k c W hs
  have C2 := fun W => hL.r d.st W hs
  obtain ⟨B, hB⟩ : ∃ b, (d.st.size % 2 == 0 && nmd d.st) = b := ⟨_, rfl⟩
  obtain ⟨D, hD⟩ : ∃ b, rsv d.st = b := ⟨_, rfl⟩
  rw [hB] at C1 ⊢
  rw [hD] at C2 ⊢
  clear hB hD hs hL
  have C1 := Lib.hid C1
  have C2 := Lib.hid C2
  unfold nodA at C1 ⊢
  cases B
  · clear C2
    go_enter Tryz.func87, Tryz.ntmps87
    go_wp2_with fail
    refine (C1.out _).mono ?_
    rintro e w2 ⟨rfl, b2⟩
    go_wp2
    go_ret
    exact ⟨by simp, (b1 _).trans (b2.mono (b1 _).size)⟩
  · skip
    go_enter Tryz.func87, Tryz.ntmps87
    go_wp2_with fail
    refine (C1.out _).mono ?_
    rintro e w2 ⟨rfl, b2⟩
    have k0 : w2.cell? ⟨W.heap.size, 2, none⟩ = some (.string d.st) := (b2.cell (p := ⟨W.heap.size, 2, none⟩) (by simp)).trans (by simp)
    have B2 := Lib.hid ((b1 _).trans (b2.mono (b1 _).size))
    clear b2
    go_wp2_with fail
    refine (C2.out _).mono ?_
    rintro e w3 ⟨rfl, b3⟩
    go_wp2
    go_ret
    exact ⟨by simp, B2.out.trans (b3.mono B2.out.size)⟩
end Go.Proofs.YtfpmhahjemdodaaGreatDoor
namespace Go.Proofs.YtfpmhahjemdodaaGreatDoor
open Go.RowKit Go.Shelf
attribute [local go_sem] stFl
/-- Texts of a tree that are not too long, floats that are words. -/
def Fit (t : Tn) : Prop := Tr.every (fun x => decide (x.datum.st.size ≤ 17592186044416) && decide (x.datum.nm < 18446744073709551616)) t = true
theorem Fit.own {t : Tn} (h : Fit t) : t.datum.st.size ≤ 17592186044416 ∧ t.datum.nm < 18446744073709551616 := by
  unfold Fit at h
  rw [Tr.every_eq, Bool.and_eq_true, Bool.and_eq_true, decide_eq_true_iff, decide_eq_true_iff] at h
  exact h.1
theorem everyL_mem {p : Tn → Bool} : ∀ {l : List Tn} {x : Tn}, Tr.everyL p l = true → x ∈ l → Tr.every p x = true
  | [], x, _, hx => by simp at hx
  | y :: l, x, h, hx => by
    rw [Tr.everyL, Bool.and_eq_true] at h
    rcases List.mem_cons.1 hx with rfl | hx
    · exact h.1
    · exact everyL_mem h.2 hx
theorem Fit.kid {t x : Tn} (h : Fit t) (hx : x ∈ t.kids) : Fit x := by
  unfold Fit at h ⊢
  rw [Tr.every_eq, Bool.and_eq_true] at h
  exact everyL_mem h.2 hx
/-- The blocks from nb on lie as they lay. -/
structure Abv (nb : Nat) (w W : World) : Prop where
  size : w.heap.size ≤ W.heap.size
  block : ∀ k, nb ≤ k → k < w.heap.size → W.heap[k]? = w.heap[k]?
theorem Abv.of {nb : Nat} {w W : World} (b : Below w.heap.size w W) : Abv nb w W := ⟨b.size, fun k _ h => b.block k h⟩
theorem Abv.trans {nb : Nat} {w W W' : World} (h : Abv nb w W) (b : Below w.heap.size W W') : Abv nb w W' := ⟨Nat.le_trans h.size b.size, fun k h1 h2 => (b.block k h2).trans (h.block k h1 h2)⟩
theorem Abv.after {nb : Nat} {w W W' : World} (h : Abv nb W W') (b : Below w.heap.size w W) : Abv nb w W' := ⟨Nat.le_trans b.size h.size, fun k h1 h2 => (h.block k h1 (Nat.lt_of_lt_of_le h2 b.size)).trans (b.block k h2)⟩
theorem Abv.both {nb : Nat} {w W W' : World} (h : Abv nb w W) (g : Abv nb W W') : Abv nb w W' := ⟨Nat.le_trans h.size g.size, fun k h1 h2 => (g.block k h1 (Nat.lt_of_lt_of_le h2 h.size)).trans (h.block k h1 h2)⟩
/-- A value that is a test: p. -/
def Tst (nb : Nat) (w : World) (v : Value) (p : TT) : Prop :=
  ∃ f cap, v = .func (.func f) #[] cap ∧ (∀ args W, (callFunc f args).run Tryz.prog W = .ok (.enter f args) W) ∧
    ∀ (W : World) (t : Tn) (A : Option Addr) (c : Nat) (pb : Nat → Prop), Abv nb w W → AtS pb W t.kids (.slice A t.kids.length c) → Fit t →
      Calls Tryz.prog f (#[nodA t.datum A t.kids.length c] ++ cap) W fun e w' => e = .returned (.bool (p t)) ∧ Below W.heap.size W w'
theorem Tst.abv {nb : Nat} {w w' : World} {v : Value} {p : TT} (h : Tst nb w v p) (hb : Abv nb w w') : Tst nb w' v p := by
  obtain ⟨f, cap, h1, h2, h3⟩ := h
  exact ⟨f, cap, h1, h2, fun W t A c pb hW => h3 W t A c pb (hb.both hW)⟩
theorem Tst.on {nb : Nat} {w w' : World} {v : Value} {p : TT} (h : Tst nb w v p) (hb : Below w.heap.size w w') : Tst nb w' v p := by
  obtain ⟨f, cap, h1, h2, h3⟩ := h
  exact ⟨f, cap, h1, h2, fun W t A c pb hW => h3 W t A c pb (hW.after hb)⟩
theorem Tst.plain {nb f : Nat} {w : World} {p : TT} (he : ∀ args W, (callFunc f args).run Tryz.prog W = .ok (.enter f args) W)
    (h : ∀ (W : World) (t : Tn) (A : Option Addr) (c : Nat), Fit t → Calls Tryz.prog f #[nodA t.datum A t.kids.length c] W fun e w' => e = .returned (.bool (p t)) ∧ Below W.heap.size W w') : Tst nb w (.func (.func f) #[] #[]) p :=
  ⟨f, #[], rfl, he, fun W t A c _ _ _ hF => h W t A c hF⟩
theorem hmf (fn : Fn) (first cap : Array Value) (w : World) : (Instr.makeFunc fn first cap).run Tryz.prog w = .ok (.func fn first cap) w := rfl
attribute [local go_sem] hmf
abbrev boxN (W : World) (d : Nd) (A : Option Addr) (k c : Nat) : World := W.alloc (.cells #[.int .i64 d.k, .string d.op, .string d.st, .float .f64 d.nm, .bool d.fl, .slice A k c, .int .i64 d.ps] 25)
theorem box_kept {W w2 : World} {d : Nd} {A : Option Addr} {k c : Nat} (b : Below (boxN W d A k c).heap.size (boxN W d A k c) w2) :
    w2.cell? ⟨W.heap.size, 0, none⟩ = some (.int .i64 d.k) ∧ w2.cell? ⟨W.heap.size, 1, none⟩ = some (.string d.op) ∧ w2.cell? ⟨W.heap.size, 2, none⟩ = some (.string d.st) ∧ w2.cell? ⟨W.heap.size, 3, none⟩ = some (.float .f64 d.nm) ∧ w2.cell? ⟨W.heap.size, 4, none⟩ = some (.bool d.fl) ∧ w2.cell? ⟨W.heap.size, 5, none⟩ = some (.slice A k c) ∧ w2.cell? ⟨W.heap.size, 6, none⟩ = some (.int .i64 d.ps) := by
  have h : w2.heap[W.heap.size]? = some (.cells #[.int .i64 d.k, .string d.op, .string d.st, .float .f64 d.nm, .bool d.fl, .slice A k c, .int .i64 d.ps] 25 (0, 0)) :=
    (b.block _ (by simp)).trans (World.alloc_heap_new _ _)
  exact ⟨cell_of_row _ _ 0 _ _ _ h, cell_of_row _ _ 1 _ _ _ h, cell_of_row _ _ 2 _ _ _ h, cell_of_row _ _ 3 _ _ _ h, cell_of_row _ _ 4 _ _ _ h, cell_of_row _ _ 5 _ _ _ h, cell_of_row _ _ 6 _ _ _ h⟩
theorem cell_abv {nb : Nat} {W W' : World} {a : Addr} {v : Value} (h : W.cell? a = some v) (hn : nb ≤ a.block) (b : Abv nb W W') : W'.cell? a = some v := by
  have hl : a.block < W.heap.size := by
    rcases Nat.lt_or_ge a.block W.heap.size with h' | h'
    · exact h'
    · simp [World.cell?, Array.getElem?_eq_none h'] at h
  exact (World.cell?_of_block (b.block _ hn hl)).trans h
theorem cell_kept {W W' : World} {a : Addr} {v : Value} (h : W.cell? a = some v) (b : Below W.heap.size W W') : W'.cell? a = some v := by
  have hl : a.block < W.heap.size := by
    rcases Nat.lt_or_ge a.block W.heap.size with h' | h'
    · exact h'
    · simp [World.cell?, Array.getElem?_eq_none h'] at h
  exact (World.cell?_of_block (b.block _ hl)).trans h
set_option maxRecDepth 100000 in
set_option maxHeartbeats 1000000 in
theorem either1_walk (d : Nd) (A : Option Addr) (k c f g : Nat) (cf cg : Array Value) (he : ∀ args W, (callFunc f args).run Tryz.prog W = .ok (.enter f args) W) (hg : ∀ args W, (callFunc g args).run Tryz.prog W = .ok (.enter g args) W)
    (p1 p2 : Nat) (W : World) (h1 : W.cell? ⟨p1, 0, none⟩ = some (.func (.func f) #[] cf)) (h2 : W.cell? ⟨p2, 0, none⟩ = some (.func (.func g) #[] cg)) (x y : Bool)
    (C1 : Hid (∀ W', Below W.heap.size W W' → Calls Tryz.prog f (#[nodA d A k c] ++ cf) W' fun e w' => e = .returned (.bool x) ∧ Below W'.heap.size W' w'))
    (C2 : Hid (∀ W', Below W.heap.size W W' → Calls Tryz.prog g (#[nodA d A k c] ++ cg) W' fun e w' => e = .returned (.bool y) ∧ Below W'.heap.size W' w')) :
    Calls Tryz.prog 145 #[nodA d A k c, .pointer (some ⟨p1, 0, none⟩), .pointer (some ⟨p2, 0, none⟩)] W fun e w' => e = .returned (.bool (x || y)) ∧ Below W.heap.size W w' := by
  have l1 := cell_lt h1
  have l2 := cell_lt h2
  have HB := Lib.hid (b1 (w := W))
  have H2 := Lib.hid h2
  unfold nodA at C1 C2 ⊢
  cases x
  · skip
    go_enter Tryz.func145, Tryz.ntmps145
    go_wp2_with fail
    refine (C1.out _ (HB.out _)).mono ?_
    rintro e w2 ⟨rfl, b2⟩
    have hb2 := Lib.hid ((HB.out _).trans (b2.mono (HB.out _).size))
    obtain ⟨k0, k1, k2, k3, k4, k5, k6⟩ := box_kept b2
    have h3 := cell_kept H2.out hb2.out
    clear b2
    go_wp2_with fail
    refine (C2.out _ hb2.out).mono ?_
    rintro e w3 ⟨rfl, b3⟩
    go_wp2
    go_ret
    exact ⟨by simp, hb2.out.trans (b3.mono hb2.out.size)⟩
  · skip
    go_enter Tryz.func145, Tryz.ntmps145
    go_wp2_with fail
    refine (C1.out _ (HB.out _)).mono ?_
    rintro e w2 ⟨rfl, b2⟩
    have hb2 := Lib.hid ((HB.out _).trans (b2.mono (HB.out _).size))
    clear b2
    go_wp2
    go_ret
    exact ⟨by simp, hb2.out⟩
set_option maxRecDepth 100000 in
set_option maxHeartbeats 1000000 in
theorem aeither_any {nb : Nat} {W : World} (hn : nb ≤ W.heap.size) {s t : Value} {p q : TT} (hs : Tst nb W s p) (ht : Tst nb W t q) : Calls Tryz.prog 92 #[s, t] W fun e w' => ∃ v, e = .returned v ∧ Tst nb w' v (tEither p q) ∧ Below W.heap.size W w' := by
  obtain ⟨f, cf, rfl, he, hf⟩ := hs
  obtain ⟨g, cg, rfl, hg, hh⟩ := ht
  go_enter Tryz.func92, Tryz.ntmps92
  go_wp2
  go_ret
  have B1 : Below W.heap.size W ((W.alloc (.cells #[.func (.func f) #[] cf] 61)).alloc (.cells #[.func (.func g) #[] cg] 61)) := (b1 _).alloc (by simp) _
  refine ⟨_, rfl, ⟨145, _, rfl, enters_of Tryz.func145 (by kernel_rfl) rfl, fun W2 x A c pb hW hA hF => ?_⟩, B1⟩
  have z : ((W.alloc (.cells #[.func (.func f) #[] cf] 61)).alloc (.cells #[.func (.func g) #[] cg] 61)).heap.size = W.heap.size + 2 := by simp
  have hWW : Abv nb W W2 := hW.after B1
  have c1 : W2.cell? ⟨W.heap.size, 0, none⟩ = some (.func (.func f) #[] cf) := (World.cell?_of_block (hW.block W.heap.size hn (by rw [z]; omega))).trans (by simp)
  have c2 : W2.cell? ⟨W.heap.size + 1, 0, none⟩ = some (.func (.func g) #[] cg) := (World.cell?_of_block (hW.block (W.heap.size + 1) (by omega) (by rw [z]; omega))).trans (by simp)
  exact either1_walk x.datum A x.kids.length c f g cf cg he hg _ _ W2 c1 c2 (p x) (q x) (Lib.hid fun W' hW' => hf W' x A c pb (hWW.trans (hW'.mono hWW.size)) (hA.keep (fun b _ hl => hW'.block b hl)) hF) (Lib.hid fun W' hW' => hh W' x A c pb (hWW.trans (hW'.mono hWW.size)) (hA.keep (fun b _ hl => hW'.block b hl)) hF)
set_option maxRecDepth 100000 in
set_option maxHeartbeats 1000000 in
theorem both1_walk (d : Nd) (A : Option Addr) (k c f g : Nat) (cf cg : Array Value) (he : ∀ args W, (callFunc f args).run Tryz.prog W = .ok (.enter f args) W) (hg : ∀ args W, (callFunc g args).run Tryz.prog W = .ok (.enter g args) W)
    (p1 p2 : Nat) (W : World) (h1 : W.cell? ⟨p1, 0, none⟩ = some (.func (.func f) #[] cf)) (h2 : W.cell? ⟨p2, 0, none⟩ = some (.func (.func g) #[] cg)) (x y : Bool)
    (C1 : Hid (∀ W', Below W.heap.size W W' → Calls Tryz.prog f (#[nodA d A k c] ++ cf) W' fun e w' => e = .returned (.bool x) ∧ Below W'.heap.size W' w'))
    (C2 : Hid (∀ W', Below W.heap.size W W' → Calls Tryz.prog g (#[nodA d A k c] ++ cg) W' fun e w' => e = .returned (.bool y) ∧ Below W'.heap.size W' w')) :
    Calls Tryz.prog 155 #[nodA d A k c, .pointer (some ⟨p1, 0, none⟩), .pointer (some ⟨p2, 0, none⟩)] W fun e w' => e = .returned (.bool (x && y)) ∧ Below W.heap.size W w' := by
  have l1 := cell_lt h1
  have l2 := cell_lt h2
  have HB := Lib.hid (b1 (w := W))
  have H2 := Lib.hid h2
  unfold nodA at C1 C2 ⊢
  cases x
  · skip
    go_enter Tryz.func155, Tryz.ntmps155
    go_wp2_with fail
    refine (C1.out _ (HB.out _)).mono ?_
    rintro e w2 ⟨rfl, b2⟩
    have hb2 := Lib.hid ((HB.out _).trans (b2.mono (HB.out _).size))
    clear b2
    go_wp2
    go_ret
    exact ⟨by simp, hb2.out⟩
  · skip
    go_enter Tryz.func155, Tryz.ntmps155
    go_wp2_with fail
    refine (C1.out _ (HB.out _)).mono ?_
    rintro e w2 ⟨rfl, b2⟩
    have hb2 := Lib.hid ((HB.out _).trans (b2.mono (HB.out _).size))
    obtain ⟨k0, k1, k2, k3, k4, k5, k6⟩ := box_kept b2
    have h3 := cell_kept H2.out hb2.out
    clear b2
    go_wp2_with fail
    refine (C2.out _ hb2.out).mono ?_
    rintro e w3 ⟨rfl, b3⟩
    go_wp2
    go_ret
    exact ⟨by simp, hb2.out.trans (b3.mono hb2.out.size)⟩
set_option maxRecDepth 100000 in
set_option maxHeartbeats 1000000 in
theorem aboth_any {nb : Nat} {W : World} (hn : nb ≤ W.heap.size) {s t : Value} {p q : TT} (hs : Tst nb W s p) (ht : Tst nb W t q) : Calls Tryz.prog 102 #[s, t] W fun e w' => ∃ v, e = .returned v ∧ Tst nb w' v (tBoth p q) ∧ Below W.heap.size W w' := by
  obtain ⟨f, cf, rfl, he, hf⟩ := hs
  obtain ⟨g, cg, rfl, hg, hh⟩ := ht
  go_enter Tryz.func102, Tryz.ntmps102
  go_wp2
  go_ret
  have B1 : Below W.heap.size W ((W.alloc (.cells #[.func (.func f) #[] cf] 61)).alloc (.cells #[.func (.func g) #[] cg] 61)) := (b1 _).alloc (by simp) _
  refine ⟨_, rfl, ⟨155, _, rfl, enters_of Tryz.func155 (by kernel_rfl) rfl, fun W2 x A c pb hW hA hF => ?_⟩, B1⟩
  have z : ((W.alloc (.cells #[.func (.func f) #[] cf] 61)).alloc (.cells #[.func (.func g) #[] cg] 61)).heap.size = W.heap.size + 2 := by simp
  have hWW : Abv nb W W2 := hW.after B1
  have c1 : W2.cell? ⟨W.heap.size, 0, none⟩ = some (.func (.func f) #[] cf) := (World.cell?_of_block (hW.block W.heap.size hn (by rw [z]; omega))).trans (by simp)
  have c2 : W2.cell? ⟨W.heap.size + 1, 0, none⟩ = some (.func (.func g) #[] cg) := (World.cell?_of_block (hW.block (W.heap.size + 1) (by omega) (by rw [z]; omega))).trans (by simp)
  exact both1_walk x.datum A x.kids.length c f g cf cg he hg _ _ W2 c1 c2 (p x) (q x) (Lib.hid fun W' hW' => hf W' x A c pb (hWW.trans (hW'.mono hWW.size)) (hA.keep (fun b _ hl => hW'.block b hl)) hF) (Lib.hid fun W' hW' => hh W' x A c pb (hWW.trans (hW'.mono hWW.size)) (hA.keep (fun b _ hl => hW'.block b hl)) hF)
set_option maxRecDepth 100000 in
set_option maxHeartbeats 1000000 in
theorem not1_walk (d : Nd) (A : Option Addr) (k c f : Nat) (cf : Array Value) (he : ∀ args W, (callFunc f args).run Tryz.prog W = .ok (.enter f args) W)
    (p1 : Nat) (W : World) (h1 : W.cell? ⟨p1, 0, none⟩ = some (.func (.func f) #[] cf)) (x : Bool)
    (C1 : Hid (∀ W', Below W.heap.size W W' → Calls Tryz.prog f (#[nodA d A k c] ++ cf) W' fun e w' => e = .returned (.bool x) ∧ Below W'.heap.size W' w')) :
    Calls Tryz.prog 152 #[nodA d A k c, .pointer (some ⟨p1, 0, none⟩)] W fun e w' => e = .returned (.bool (!x)) ∧ Below W.heap.size W w' := by
  have l1 := cell_lt h1
  have HB := Lib.hid (b1 (w := W))
  unfold nodA at C1 ⊢
  go_enter Tryz.func152, Tryz.ntmps152
  go_wp2_with fail
  refine (C1.out _ (HB.out _)).mono ?_
  rintro e w2 ⟨rfl, b2⟩
  have hb2 := Lib.hid ((HB.out _).trans (b2.mono (HB.out _).size))
  clear b2
  go_wp2
  go_ret
  exact ⟨rfl, hb2.out⟩
set_option maxRecDepth 100000 in
set_option maxHeartbeats 1000000 in
theorem anot_any {nb : Nat} {W : World} (hn : nb ≤ W.heap.size) {s : Value} {p : TT} (hs : Tst nb W s p) : Calls Tryz.prog 99 #[s] W fun e w' => ∃ v, e = .returned v ∧ Tst nb w' v (tNot p) ∧ Below W.heap.size W w' := by
  obtain ⟨f, cf, rfl, he, hf⟩ := hs
  go_enter Tryz.func99, Tryz.ntmps99
  go_wp2
  go_ret
  have B1 : Below W.heap.size W (W.alloc (.cells #[.func (.func f) #[] cf] 61)) := b1 _
  refine ⟨_, rfl, ⟨152, _, rfl, enters_of Tryz.func152 (by kernel_rfl) rfl, fun W2 x A c pb hW hA hF => ?_⟩, B1⟩
  have z : (W.alloc (.cells #[.func (.func f) #[] cf] 61)).heap.size = W.heap.size + 1 := by simp
  have hWW : Abv nb W W2 := hW.after B1
  have c1 : W2.cell? ⟨W.heap.size, 0, none⟩ = some (.func (.func f) #[] cf) := (World.cell?_of_block (hW.block W.heap.size hn (by rw [z]; omega))).trans (by simp)
  exact not1_walk x.datum A x.kids.length c f cf he _ W2 c1 (p x) (Lib.hid fun W' hW' => hf W' x A c pb (hWW.trans (hW'.mono hWW.size)) (hA.keep (fun b _ hl => hW'.block b hl)) hF)
set_option maxRecDepth 100000 in
set_option maxHeartbeats 1000000 in
theorem index_int (ks : List (Int)) (b c : Nat) (x : Int) (w : World) (hl : ks.length ≤ 100) (hc : ∀ i k, ks[i]? = some k → w.cell? ⟨b, i, none⟩ = some (.int .i64 k)) :
    Calls Tryz.prog 177 #[.slice (some ⟨b, 0, none⟩) ks.length c, .int .i64 x] w fun e w' => ∃ r : Int, e = .returned (.int .i64 r) ∧ Hid (decide (0 ≤ r) = ks.any fun k => x == k) ∧ w = w' := by
  have HC := Lib.hid hc
  clear hc
  go_enter Tryz.func177, Tryz.ntmps177
  go_wp2
  go_loopw [8] (fun i wr => ∃ i0 : Nat, i = .int .i64 i0 ∧ i0 ≤ ks.length ∧ Hid ((ks.take i0).any (fun k => x == k) = false) ∧ w = wr) (fun i _ => ks.length - (intOf i).toNat)
  case atStart => exact ⟨0, rfl, Nat.zero_le _, Lib.hid (by simp), rfl⟩
  case round =>
    obtain ⟨i0, rfl, hi0, hA, rfl⟩ := hrel
    by_cases hi : i0 < ks.length
    · obtain ⟨k, hk⟩ : ∃ k, ks[i0]? = some k := ⟨_, List.getElem?_eq_getElem hi⟩
      have hcell := HC.out i0 k hk
      have hkk := Lib.hid hk
      clear hk
      cases hq : (x == k)
      · go_wp2
        refine ⟨⟨i0 + 1, rfl, hi, Lib.hid ?_, by trivial⟩, meas_dec hi⟩
        rw [List.take_add_one, hkk.out, List.any_append, hA.out]
        show (false || ((x == k) || false)) = false
        rw [hq]
        rfl
      · go_wp2
        go_ret
        refine ⟨_, rfl, Lib.hid ?_, rfl⟩
        have hm := List.mem_of_getElem? hkk.out
        rw [decide_eq_true (by omega), eq_comm, List.any_eq_true]
        exact ⟨k, hm, hq⟩
    · have hi1 : i0 = ks.length := by omega
      go_wp2
      go_ret
      refine ⟨_, rfl, Lib.hid ?_, rfl⟩
      have hA' := hA.out
      rw [hi1, List.take_length] at hA'
      rw [hA']
      rfl
set_option maxRecDepth 100000 in
set_option maxHeartbeats 1000000 in
theorem contains_int (ks : List (Int)) (b c : Nat) (x : Int) (w : World) (hl : ks.length ≤ 100) (hc : ∀ i k, ks[i]? = some k → w.cell? ⟨b, i, none⟩ = some (.int .i64 k)) :
    Calls Tryz.prog 147 #[.slice (some ⟨b, 0, none⟩) ks.length c, .int .i64 x] w fun e w' => e = .returned (.bool (ks.any fun k => x == k)) ∧ w = w' := by
  have C1 := Lib.hid (index_int ks b c x w hl hc)
  clear hc hl
  go_enter Tryz.func147, Tryz.ntmps147
  go_wp2_with fail
  refine C1.out.mono ?_
  rintro e w' ⟨r, rfl, hr, rfl⟩
  go_wp2
  go_ret
  exact ⟨by rw [← hr.out]; rfl, rfl⟩
set_option maxRecDepth 100000 in
set_option maxHeartbeats 1000000 in
theorem index_str (ks : List (ByteArray)) (b c : Nat) (x : ByteArray) (w : World) (hl : ks.length ≤ 100) (hc : ∀ i k, ks[i]? = some k → w.cell? ⟨b, i, none⟩ = some (.string k)) :
    Calls Tryz.prog 180 #[.slice (some ⟨b, 0, none⟩) ks.length c, .string x] w fun e w' => ∃ r : Int, e = .returned (.int .i64 r) ∧ Hid (decide (0 ≤ r) = ks.any fun k => x.toList == k.toList) ∧ w = w' := by
  have HC := Lib.hid hc
  clear hc
  go_enter Tryz.func180, Tryz.ntmps180
  go_wp2
  go_loopw [8] (fun i wr => ∃ i0 : Nat, i = .int .i64 i0 ∧ i0 ≤ ks.length ∧ Hid ((ks.take i0).any (fun k => x.toList == k.toList) = false) ∧ w = wr) (fun i _ => ks.length - (intOf i).toNat)
  case atStart => exact ⟨0, rfl, Nat.zero_le _, Lib.hid (by simp), rfl⟩
  case round =>
    obtain ⟨i0, rfl, hi0, hA, rfl⟩ := hrel
    by_cases hi : i0 < ks.length
    · obtain ⟨k, hk⟩ : ∃ k, ks[i0]? = some k := ⟨_, List.getElem?_eq_getElem hi⟩
      have hcell := HC.out i0 k hk
      have hkk := Lib.hid hk
      clear hk
      cases hq : (x.toList == k.toList)
      · go_wp2
        refine ⟨⟨i0 + 1, rfl, hi, Lib.hid ?_, by trivial⟩, meas_dec hi⟩
        rw [List.take_add_one, hkk.out, List.any_append, hA.out]
        show (false || ((x.toList == k.toList) || false)) = false
        rw [hq]
        rfl
      · go_wp2
        go_ret
        refine ⟨_, rfl, Lib.hid ?_, rfl⟩
        have hm := List.mem_of_getElem? hkk.out
        rw [decide_eq_true (by omega), eq_comm, List.any_eq_true]
        exact ⟨k, hm, hq⟩
    · have hi1 : i0 = ks.length := by omega
      go_wp2
      go_ret
      refine ⟨_, rfl, Lib.hid ?_, rfl⟩
      have hA' := hA.out
      rw [hi1, List.take_length] at hA'
      rw [hA']
      rfl
set_option maxRecDepth 100000 in
set_option maxHeartbeats 1000000 in
theorem contains_str (ks : List (ByteArray)) (b c : Nat) (x : ByteArray) (w : World) (hl : ks.length ≤ 100) (hc : ∀ i k, ks[i]? = some k → w.cell? ⟨b, i, none⟩ = some (.string k)) :
    Calls Tryz.prog 154 #[.slice (some ⟨b, 0, none⟩) ks.length c, .string x] w fun e w' => e = .returned (.bool (ks.any fun k => x.toList == k.toList)) ∧ w = w' := by
  have C1 := Lib.hid (index_str ks b c x w hl hc)
  clear hc hl
  go_enter Tryz.func154, Tryz.ntmps154
  go_wp2_with fail
  refine C1.out.mono ?_
  rintro e w' ⟨r, rfl, hr, rfl⟩
  go_wp2
  go_ret
  exact ⟨by rw [← hr.out]; rfl, rfl⟩
end Go.Proofs.YtfpmhahjemdodaaGreatDoor
