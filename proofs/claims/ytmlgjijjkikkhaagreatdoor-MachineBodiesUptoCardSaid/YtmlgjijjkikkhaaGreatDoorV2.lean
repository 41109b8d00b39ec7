/-
  The program's clean and Check of values.
-/
import Derived.Deep.DeepCutAuto
import Derived.BigQuiet
import Derived.Deep.RegionHeld3
import Derived.Laws.StructEq
import Derived.Deep.WholeRow
import Derived.Laws.Rows
import Derived.Laws.Tables
import Derived.Laws.EntriesVeiled
import Derived.Laws.FloatArith
import Derived.Laws.Externs
import Derived.Deep.RegionWith
import Ieee.Arith
import GoSem.Core.Float
import GoSem.Core.Utf8
import Derived.WalkKit
import Derived.WalkSpells
import Derived.WalkLawsBesides
import Derived.Deep.QuietTactic
import Derived.Lib.Hide
import Derived.Deep.OwnRows
import Derived.Laws.CopyOwn
import Derived.Deep.AppendLies
import Derived.Lib.BitFns
import Derived.Lib.Strings
import Derived.Laws.BitsAllLaws
import Derived.Lib.LaidTab
import Derived.Lib.ItoaNum
import Derived.ProofKit
import Derived.OpenShut
import Derived.SizedLaws
import Derived.Laws.BytesString
import Derived.Laws.Cells
import Derived.BigRegion
import Derived.Laws.Cover2
import Derived.Test.YtmlgjijjkikkhaaGreatDoorProg
import Derived.Test.YtmlgjijjkikkhaaGreatDoorRows
import Derived.Test.YtmlgjijjkikkhaaGreatDoorShelf
import Derived.Test.YtmlgjijjkikkhaaGreatDoorEe
import Derived.Test.YtmlgjijjkikkhaaGreatDoorT0
import Derived.Test.YtmlgjijjkikkhaaGreatDoorV1
namespace Go.Proofs.YtmlgjijjkikkhaaGreatDoor
open Go.RowKit
attribute [local go_sem] stF
attribute [local go_sem high] eql_vals neq_vals
theorem T2.row {w W : World} {x : Val} (h : T2 w W x vZ) (c : Array Value) : (W.setRow (w.heap.size + 1) c).heap[w.heap.size + 1]? = some (.cells c 57 (0, 0)) ∧ Below w.heap.size w (W.setRow (w.heap.size + 1) c) :=
  ⟨setRow_heap _ _ _ _ _ _ h.k2, below_setRowK h.b (by omega) _⟩
/-- What counts of a value. -/
def cleV (v : Val) : Val := if v.vk = 1 then valN else if v.vk = 2 then valB v.vb else if v.vk = 3 then valF (cn v.vn) else if v.vk = 4 then valS (wh v.vs) else if v.vk = 5 then valO (max v.vo 0) else valU
set_option maxRecDepth 100000 in
set_option maxHeartbeats 1000000 in
theorem eclean_1 (b : Bool) (n : Nat) (s : ByteArray) (o : Int) (w : World) : Calls Tryz.prog 112 #[.agg #[.int .i64 1, .bool b, .float .f64 n, .string s, .int .i64 o]] w fun e w' => e = .returned (valV valN) ∧ Below w.heap.size w w' := by
  go_enter Tryz.func112, Tryz.ntmps112
  go_upto_region 1 with fail
  rw [celV_zero, show (#[.int .i64 1, .bool b, .float .f64 n, .string s, .int .i64 o] : Array Value) = celV ⟨1, b, n, s, o⟩ from rfl]
  obtain ⟨W1, hW1⟩ : ∃ W1, w.alloc (.cells (celV ⟨1, b, n, s, o⟩) 57) = W1 := ⟨_, rfl⟩
  rw [hW1]
  obtain ⟨W2, hW2⟩ : ∃ W2, W1.alloc (.cells (celV vZ) 57) = W2 := ⟨_, rfl⟩
  have HS := Lib.hid (T2.new hW1 hW2)
  obtain ⟨a0, a1, a2, a3, a4, d0, d1, d2, d3, d4⟩ := HS.out.cs
  rw [hW2]
  clear hW1 hW2
  have HR := Lib.hid (HS.out.row #[.int .i64 1, .bool false, .float .f64 0, .string ⟨#[]⟩, .int .i64 0])
  go_wp2_with (refine vlS rfl rfl (w.heap.size + 1) 1 false 0 ⟨#[]⟩ 0 rfl rfl HS.out.k2 ?_)
  refine vlR rfl rfl HR.out.1 rfl rfl ⟨rfl, HR.out.2⟩
set_option maxRecDepth 100000 in
set_option maxHeartbeats 1000000 in
theorem eclean_2 (b : Bool) (n : Nat) (s : ByteArray) (o : Int) (w : World) : Calls Tryz.prog 112 #[.agg #[.int .i64 2, .bool b, .float .f64 n, .string s, .int .i64 o]] w fun e w' => e = .returned (valV (valB b)) ∧ Below w.heap.size w w' := by
  have C1 := fun W => eBool_any b W
  have C1 := Lib.hid C1
  go_enter Tryz.func112, Tryz.ntmps112
  go_upto_region 1 with fail
  rw [celV_zero, show (#[.int .i64 2, .bool b, .float .f64 n, .string s, .int .i64 o] : Array Value) = celV ⟨2, b, n, s, o⟩ from rfl]
  obtain ⟨W1, hW1⟩ : ∃ W1, w.alloc (.cells (celV ⟨2, b, n, s, o⟩) 57) = W1 := ⟨_, rfl⟩
  rw [hW1]
  obtain ⟨W2, hW2⟩ : ∃ W2, W1.alloc (.cells (celV vZ) 57) = W2 := ⟨_, rfl⟩
  have HS := Lib.hid (T2.new hW1 hW2)
  obtain ⟨a0, a1, a2, a3, a4, d0, d1, d2, d3, d4⟩ := HS.out.cs
  rw [hW2]
  clear hW1 hW2
  go_wp2_with fail
  with_reducible refine (C1.out _).mono ?_
  rintro e w2 ⟨rfl, b2⟩
  have HT := Lib.hid (HS.out.step b2)
  clear HS b2 a0 a1 a2 a3 a4 d0 d1 d2 d3 d4
  have HR := Lib.hid (HT.out.row #[.int .i64 2, .bool b, .float .f64 0, .string ⟨#[]⟩, .int .i64 0])
  go_wp2_with (refine vlS rfl rfl (w.heap.size + 1) 2 b 0 ⟨#[]⟩ 0 rfl rfl HT.out.k2 ?_)
  refine vlR rfl rfl HR.out.1 rfl rfl ⟨rfl, HR.out.2⟩
set_option maxRecDepth 100000 in
set_option maxHeartbeats 1000000 in
theorem eclean_3 (b : Bool) (n : Nat) (s : ByteArray) (o : Int) (w : World) : Calls Tryz.prog 112 #[.agg #[.int .i64 3, .bool b, .float .f64 n, .string s, .int .i64 o]] w fun e w' => e = .returned (valV (valF (cn n))) ∧ Below w.heap.size w w' := by
  have C1 := fun W => eNumber_any n W
  obtain ⟨m, hm⟩ : ∃ m, cn n = m := ⟨_, rfl⟩
  rw [hm] at C1 ⊢
  clear hm
  have C1 := Lib.hid C1
  go_enter Tryz.func112, Tryz.ntmps112
  go_upto_region 1 with fail
  rw [celV_zero, show (#[.int .i64 3, .bool b, .float .f64 n, .string s, .int .i64 o] : Array Value) = celV ⟨3, b, n, s, o⟩ from rfl]
  obtain ⟨W1, hW1⟩ : ∃ W1, w.alloc (.cells (celV ⟨3, b, n, s, o⟩) 57) = W1 := ⟨_, rfl⟩
  rw [hW1]
  obtain ⟨W2, hW2⟩ : ∃ W2, W1.alloc (.cells (celV vZ) 57) = W2 := ⟨_, rfl⟩
  have HS := Lib.hid (T2.new hW1 hW2)
  obtain ⟨a0, a1, a2, a3, a4, d0, d1, d2, d3, d4⟩ := HS.out.cs
  rw [hW2]
  clear hW1 hW2
  go_wp2_with fail
  with_reducible refine (C1.out _).mono ?_
  rintro e w2 ⟨rfl, b2⟩
  have HT := Lib.hid (HS.out.step b2)
  clear HS b2 a0 a1 a2 a3 a4 d0 d1 d2 d3 d4
  have HR := Lib.hid (HT.out.row #[.int .i64 3, .bool false, .float .f64 m, .string ⟨#[]⟩, .int .i64 0])
  go_wp2_with (refine vlS rfl rfl (w.heap.size + 1) 3 false m ⟨#[]⟩ 0 rfl rfl HT.out.k2 ?_)
  refine vlR rfl rfl HR.out.1 rfl rfl ⟨rfl, HR.out.2⟩
set_option maxRecDepth 100000 in
set_option maxHeartbeats 1000000 in
theorem eclean_4 (b : Bool) (n : Nat) (s : ByteArray) (o : Int) (w : World) (hs : s.size ≤ maxLen) : Calls Tryz.prog 112 #[.agg #[.int .i64 4, .bool b, .float .f64 n, .string s, .int .i64 o]] w fun e w' => e = .returned (valV (valS (wh s))) ∧ Below w.heap.size w w' := by
  have C1 := fun W => eString_any s W hs
  obtain ⟨t, ht⟩ : ∃ t, wh s = t := ⟨_, rfl⟩
  rw [ht] at C1 ⊢
  clear ht hs
  have C1 := Lib.hid C1
  go_enter Tryz.func112, Tryz.ntmps112
  go_upto_region 1 with fail
  rw [celV_zero, show (#[.int .i64 4, .bool b, .float .f64 n, .string s, .int .i64 o] : Array Value) = celV ⟨4, b, n, s, o⟩ from rfl]
  obtain ⟨W1, hW1⟩ : ∃ W1, w.alloc (.cells (celV ⟨4, b, n, s, o⟩) 57) = W1 := ⟨_, rfl⟩
  rw [hW1]
  obtain ⟨W2, hW2⟩ : ∃ W2, W1.alloc (.cells (celV vZ) 57) = W2 := ⟨_, rfl⟩
  have HS := Lib.hid (T2.new hW1 hW2)
  obtain ⟨a0, a1, a2, a3, a4, d0, d1, d2, d3, d4⟩ := HS.out.cs
  rw [hW2]
  clear hW1 hW2
  go_wp2_with fail
  with_reducible refine (C1.out _).mono ?_
  rintro e w2 ⟨rfl, b2⟩
  have HT := Lib.hid (HS.out.step b2)
  clear HS b2 a0 a1 a2 a3 a4 d0 d1 d2 d3 d4
  have HR := Lib.hid (HT.out.row #[.int .i64 4, .bool false, .float .f64 0, .string t, .int .i64 0])
  go_wp2_with (refine vlS rfl rfl (w.heap.size + 1) 4 false 0 t 0 rfl rfl HT.out.k2 ?_)
  refine vlR rfl rfl HR.out.1 rfl rfl ⟨rfl, HR.out.2⟩
set_option maxRecDepth 100000 in
set_option maxHeartbeats 1000000 in
theorem eclean_5 (b : Bool) (n : Nat) (s : ByteArray) (o : Int) (w : World) : Calls Tryz.prog 112 #[.agg #[.int .i64 5, .bool b, .float .f64 n, .string s, .int .i64 o]] w fun e w' => e = .returned (valV (valO (max o 0))) ∧ Below w.heap.size w w' := by
  have C1 := fun W => eObject_any o W
  obtain ⟨m, hm⟩ : ∃ m, max o 0 = m := ⟨_, rfl⟩
  rw [hm] at C1 ⊢
  clear hm
  have C1 := Lib.hid C1
  go_enter Tryz.func112, Tryz.ntmps112
  go_upto_region 1 with fail
  rw [celV_zero, show (#[.int .i64 5, .bool b, .float .f64 n, .string s, .int .i64 o] : Array Value) = celV ⟨5, b, n, s, o⟩ from rfl]
  obtain ⟨W1, hW1⟩ : ∃ W1, w.alloc (.cells (celV ⟨5, b, n, s, o⟩) 57) = W1 := ⟨_, rfl⟩
  rw [hW1]
  obtain ⟨W2, hW2⟩ : ∃ W2, W1.alloc (.cells (celV vZ) 57) = W2 := ⟨_, rfl⟩
  have HS := Lib.hid (T2.new hW1 hW2)
  obtain ⟨a0, a1, a2, a3, a4, d0, d1, d2, d3, d4⟩ := HS.out.cs
  rw [hW2]
  clear hW1 hW2
  go_wp2_with fail
  with_reducible refine (C1.out _).mono ?_
  rintro e w2 ⟨rfl, b2⟩
  have HT := Lib.hid (HS.out.step b2)
  clear HS b2 a0 a1 a2 a3 a4 d0 d1 d2 d3 d4
  have HR := Lib.hid (HT.out.row #[.int .i64 5, .bool false, .float .f64 0, .string ⟨#[]⟩, .int .i64 m])
  go_wp2_with (refine vlS rfl rfl (w.heap.size + 1) 5 false 0 ⟨#[]⟩ m rfl rfl HT.out.k2 ?_)
  refine vlR rfl rfl HR.out.1 rfl rfl ⟨rfl, HR.out.2⟩
set_option maxRecDepth 100000 in
set_option maxHeartbeats 1000000 in
theorem eclean_0 (k : Int) (b : Bool) (n : Nat) (s : ByteArray) (o : Int) (w : World) (h1 : ¬ k = 1) (h2 : ¬ k = 2) (h3 : ¬ k = 3) (h4 : ¬ k = 4) (h5 : ¬ k = 5) : Calls Tryz.prog 112 #[.agg #[.int .i64 k, .bool b, .float .f64 n, .string s, .int .i64 o]] w fun e w' => e = .returned (valV valU) ∧ Below w.heap.size w w' := by
  go_enter Tryz.func112, Tryz.ntmps112
  go_upto_region 1 with fail
  rw [celV_zero, show (#[.int .i64 k, .bool b, .float .f64 n, .string s, .int .i64 o] : Array Value) = celV ⟨k, b, n, s, o⟩ from rfl]
  obtain ⟨W1, hW1⟩ : ∃ W1, w.alloc (.cells (celV ⟨k, b, n, s, o⟩) 57) = W1 := ⟨_, rfl⟩
  rw [hW1]
  obtain ⟨W2, hW2⟩ : ∃ W2, W1.alloc (.cells (celV vZ) 57) = W2 := ⟨_, rfl⟩
  have HS := Lib.hid (T2.new hW1 hW2)
  obtain ⟨a0, a1, a2, a3, a4, d0, d1, d2, d3, d4⟩ := HS.out.cs
  rw [hW2]
  clear hW1 hW2
  have HR := Lib.hid (HS.out.row #[.int .i64 0, .bool false, .float .f64 0, .string ⟨#[]⟩, .int .i64 0])
  go_wp2_with (refine vlS rfl rfl (w.heap.size + 1) 0 false 0 ⟨#[]⟩ 0 rfl rfl HS.out.k2 ?_)
  refine vlR rfl rfl HR.out.1 rfl rfl ⟨rfl, HR.out.2⟩
theorem eclean_any (v : Val) (w : World) (hs : v.vs.size ≤ maxLen) : Calls Tryz.prog 112 #[valV v] w fun e w' => e = .returned (valV (cleV v)) ∧ Below w.heap.size w w' := by
  obtain ⟨k, b, n, s, o⟩ := v
  dsimp only at hs
  unfold cleV
  dsimp only
  by_cases h1 : k = 1
  · subst h1; exact eclean_1 b n s o w
  · by_cases h2 : k = 2
    · subst h2; exact eclean_2 b n s o w
    · by_cases h3 : k = 3
      · subst h3; exact eclean_3 b n s o w
      · by_cases h4 : k = 4
        · subst h4; exact eclean_4 b n s o w hs
        · by_cases h5 : k = 5
          · subst h5; exact eclean_5 b n s o w
          · rw [if_neg h1, if_neg h2, if_neg h3, if_neg h4, if_neg h5]
            exact eclean_0 k b n s o w h1 h2 h3 h4 h5
/-- A value's block and that of what counts of it. -/
structure TC (w W : World) (g : Nat) (x y : Val) : Prop where
  k : BlkV W w.heap.size x
  k2 : BlkV W g y
  l : w.heap.size < g
  l2 : g < W.heap.size
  b : Below w.heap.size w W
theorem TC.drew {w W : World} {g : Nat} {x y : Val} (h : TC w W g x y) : TC w W.drew g x y := ⟨h.k, h.k2, h.l, h.l2, below_drewN' h.b 1⟩
theorem TC.cs {w W : World} {g : Nat} {x y : Val} (h : TC w W g x y) : W.cell? ⟨w.heap.size, 2, none⟩ = some (.float .f64 x.vn) ∧ W.cell? ⟨g, 2, none⟩ = some (.float .f64 y.vn) := ⟨h.k.cell rfl, h.k2.cell rfl⟩
theorem TC.new {w W : World} {x y : Val} (h : T1 w W x) : TC w (W.alloc (.cells (celV y) 57)) W.heap.size x y := by
  obtain ⟨a, b, c⟩ := blkV_new (w := W) (v := y) rfl
  exact ⟨h.k.below b h.l, a, h.l, by omega, below_le h.b b⟩
def nulN (v : Val) : Val := ⟨v.vk, v.vb, 0, v.vs, v.vo⟩
theorem setCell_row {W : World} {g : Nat} {v : Val} (h : BlkV W g v) : W.setCell ⟨g, 2, none⟩ (.float .f64 0) = W.setRow g (celV (nulN v)) := setCell_eq_setRow W g 2 (celV v) 57 (0, 0) _ h
theorem stN {ops : Array Oper} {rest : List Oper} {o : Oper} {a : Act} {w : World} {Q : Exit → Act → World → Prop} {x y : Operand} {g : Nat} {v : Val} (hg : BlkV w g v) (hgd : o.guard = none) (ho : o.op = .store 41 x y)
    (hx : a.eval x = .pointer (some ⟨g, 2, none⟩)) (hy : a.eval y = .float .f64 0) (h : wpList Tryz.prog ops Q rest (a.put o.dst undef) (w.setRow g (celV (nulN v)))) : wpList Tryz.prog ops Q (o :: rest) a w := by
  have c := hg.cell (k := 2) rfl
  have f := frozen_of_row w g 2 _ _ hg
  have hs : (Instr.storeAt 41 (.pointer (some ⟨g, 2, none⟩)) (.float .f64 0)).run Tryz.prog w = .ok () (w.setCell ⟨g, 2, none⟩ (.float .f64 0)) := by
    go_simp
  refine wpList_plain hgd fun _ hK => ?_
  unfold Oper.wp execOp
  simp only [ho, hx, hy, hs, Sem.run_bind, Sem.run_pure, Result.andThen_ok]
  rw [setCell_row hg]
  exact hK _ _ h
theorem TC.nul1 {w W : World} {g : Nat} {x y : Val} (h : TC w W g x y) : TC w (W.setRow w.heap.size (celV (nulN x))) g (nulN x) y :=
  ⟨setRow_heap _ _ _ _ _ _ h.k, (setRow_other _ _ _ _ (by have := h.l; omega)).trans h.k2, h.l, by rw [size_setRow]; exact h.l2, below_setRowK h.b (Nat.le_refl _) _⟩
theorem TC.nul2 {w W : World} {g : Nat} {x y : Val} (h : TC w W g x y) : TC w (W.setRow g (celV (nulN y))) g x (nulN y) :=
  ⟨(setRow_other _ _ _ _ (by have := h.l; omega)).trans h.k, setRow_heap _ _ _ _ _ _ h.k2, h.l, by rw [size_setRow]; exact h.l2, below_setRowK h.b (Nat.le_of_lt h.l) _⟩
theorem wh_same (s : ByteArray) : (s.toList == (wh s).toList) = (s.toList.isEmpty || s.size % 2 == 0) := by
  have hl : (wh s).size = 2 * ln s := by unfold wh; rw [ByteArray.size_extract]; unfold ln; omega
  have hz : s.toList.isEmpty = true → s.size % 2 = 0 := fun h => by rw [bytes_none h]; rfl
  rw [Bool.eq_iff_iff, Bool.or_eq_true, beq_iff_eq, beq_iff_eq]
  constructor
  · intro h
    right
    have h2 := congrArg List.length h
    rw [ByteArray.toList_eq, ByteArray.toList_eq, ← Lib.size_eq, ← Lib.size_eq, hl] at h2
    omega
  · intro h
    have he : s.size % 2 = 0 := h.elim hz id
    have : wh s = s := by unfold wh; rw [show 2 * ln s = s.size by unfold ln; omega]; exact ByteArray.extract_zero_size
    rw [this]
theorem check_may (v : Val) : ((v.vn == (cleV v).vn) && eqW (nulN v) (nulN (cleV v))) = mayB v := by
  obtain ⟨k, b, n, s, o⟩ := v
  have hz : oeq 0 0 = true := by decide +kernel
  unfold mayB eqW cleV nulN
  dsimp only
  by_cases h1 : k = 1
  · subst h1
    simp [valN, hz]
    ac_rfl
  · by_cases h2 : k = 2
    · subst h2
      simp [valB, hz]
      ac_rfl
    · by_cases h3 : k = 3
      · subst h3
        have hc : (n == cn n) = (n == 0 || cn n == n) := by
          rw [Bool.eq_iff_iff, Bool.or_eq_true, beq_iff_eq, beq_iff_eq, beq_iff_eq]
          exact ⟨fun h => .inr h.symm, fun h => h.elim (fun e => by rw [e]; rfl) Eq.symm⟩
        simp [valF, hz, hc]
        ac_rfl
      · by_cases h4 : k = 4
        · subst h4
          simp [valS, hz, wh_same]
          ac_rfl
        · by_cases h5 : k = 5
          · subst h5
            have ho : (o == max o 0) = (o == 0 || decide (0 < o)) := by
              rw [Bool.eq_iff_iff, Bool.or_eq_true, beq_iff_eq, beq_iff_eq, decide_eq_true_iff]
              omega
            simp [valO, hz, ho]
            ac_rfl
          · by_cases h0 : k = 0
            · subst h0
              simp [valU, hz]
              ac_rfl
            · have hk : (decide (0 ≤ k) && decide (k ≤ 5)) = false := by
                rw [Bool.and_eq_false_iff, decide_eq_false_iff_not, decide_eq_false_iff_not]
                omega
              have hk0 : (k == 0) = false := by simpa using h0
              simp [valU, h1, h2, h3, h4, h5, hk, hk0]
set_option maxRecDepth 100000 in
set_option maxHeartbeats 1000000 in
theorem eCheck_walk (x c : Val) (w : World) (C1 : Hid (∀ W, Calls Tryz.prog 112 #[.agg (celV x)] W fun e w' => e = .returned (.agg (celV c)) ∧ Below W.heap.size W w')) (N E : Bool) (hN : ((x.vn : Int) != (c.vn : Int)) = N) (hE : Hid (eqW (nulN x) (nulN c) = E)) :
    Calls Tryz.prog 84 #[.agg (celV x)] w fun e w' => e = .returned (.int .i64 (if (!N && E) = true then 0 else 1)) ∧ Below w.heap.size w w' := by
  have h1 := fun W => f64bits_run x.vn W
  have h2 := fun W => f64bits_run c.vn W
  go_enter Tryz.func84, Tryz.ntmps84
  go_upto_region 1 with fail
  obtain ⟨W1, hW1⟩ : ∃ W1, w.alloc (.cells (celV x) 57) = W1 := ⟨_, rfl⟩
  have HS := Lib.hid (T1.new hW1)
  rw [hW1]
  clear hW1
  go_wp2_with (refine ldX (k := 4) HS.out.k rfl (by kernel_rfl) rfl rfl ?_)
  with_reducible refine (C1.out _).mono ?_
  rintro e w2 ⟨rfl, b2⟩
  have HT := Lib.hid (HS.out.step b2)
  clear HS b2 C1
  go_upto_region 2 with (refine vlS rfl rfl w2.heap.size c.vk c.vb c.vn c.vs c.vo rfl rfl (heap_alloc_last w2 _) ?_; rw [World.setRow_alloc_new])
  have HS := Lib.hid (TC.new (y := c) HT.out)
  clear HT
  rw [show (#[.int .i64 c.vk, .bool c.vb, .float .f64 c.vn, .string c.vs, .int .i64 c.vo] : Array Value) = celV c from rfl]
  generalize w2.alloc (.cells (celV c) 57) = W at *
  generalize w2.heap.size = g at *
  refine wp_region_held_drew (S := fun wx => TC w wx g x c) (by kernel_rfl) (HS.out.drew) (fun hHeld => ?_)
  refine take_s (i := 0) rfl (by kernel_rfl) (by kernel_rfl) (by kernel_rfl) (fun _ _ _ h => h) (Or.inl ⟨by rfl, by (intro w hSw; go_simp; try with_reducible rfl)⟩) rfl (by assumption) ?_; simp only [lset]
  refine take_s (i := 1) rfl (by kernel_rfl) (by kernel_rfl) (by kernel_rfl) (fun _ _ _ h => h) (Or.inl ⟨by rfl, by (intro w hS; have c := hS.cs.1; go_simp; try with_reducible rfl)⟩) rfl (by assumption) ?_; simp only [lset]
  refine take_s (i := 2) rfl (by kernel_rfl) (by kernel_rfl) (by kernel_rfl) (fun _ _ _ h => h) (Or.inl ⟨by rfl, by (intro w hSw; go_simp; try with_reducible rfl)⟩) rfl (by assumption) ?_; simp only [lset]
  refine take_s (i := 3) rfl (by kernel_rfl) (by kernel_rfl) (by kernel_rfl) (fun _ _ _ h => h) (Or.inl ⟨by rfl, by (intro w hSw; go_simp; try with_reducible rfl)⟩) rfl (by assumption) ?_; simp only [lset]
  refine take_s (i := 4) rfl (by kernel_rfl) (by kernel_rfl) (by kernel_rfl) (fun _ _ _ h => h) (Or.inl ⟨by rfl, by (intro w hS; have c := hS.cs.2; go_simp; try with_reducible rfl)⟩) rfl (by assumption) ?_; simp only [lset]
  refine take_s (i := 5) rfl (by kernel_rfl) (by kernel_rfl) (by kernel_rfl) (fun _ _ _ h => h) (Or.inl ⟨by rfl, by (intro w hSw; go_simp; try with_reducible rfl)⟩) rfl (by assumption) ?_; simp only [lset]
  refine take_s (i := 6) rfl (by kernel_rfl) (by kernel_rfl) (by kernel_rfl) (fun _ _ _ h => h) (Or.inl ⟨by rfl, by (intro w hSw; go_simp; try with_reducible rfl)⟩) rfl (by assumption) ?_; simp only [lset]
  refine wpAnyH_done (by kernel_rfl) ?_ _
  clear HS h1 h2
  have HS := Lib.hid hHeld
  clear hHeld
  cases N
  · have H1 := Lib.hid HS.out.nul1
    have H2 := Lib.hid H1.out.nul2
    have hE1 := hE.out
    clear hE
    cases E
    · skip
      go_wp2_with (first | (refine stN HS.out.k rfl rfl rfl rfl ?_) | (refine stN H1.out.k2 rfl rfl rfl rfl ?_) | (refine ldX (k := 15) H2.out.k rfl (by kernel_rfl) rfl rfl ?_) | (refine ldX (k := 16) H2.out.k2 rfl (by kernel_rfl) rfl rfl ?_))
      go_ret
      exact ⟨rfl, H2.out.b⟩
    · skip
      go_wp2_with (first | (refine stN HS.out.k rfl rfl rfl rfl ?_) | (refine stN H1.out.k2 rfl rfl rfl rfl ?_) | (refine ldX (k := 15) H2.out.k rfl (by kernel_rfl) rfl rfl ?_) | (refine ldX (k := 16) H2.out.k2 rfl (by kernel_rfl) rfl rfl ?_))
      go_ret
      exact ⟨rfl, H2.out.b⟩
  · skip
    go_wp2
    go_ret
    exact ⟨rfl, HS.out.b⟩
theorem eCheck_any (v : Val) (w : World) (hs : v.vs.size ≤ maxLen) : Calls Tryz.prog 84 #[valV v] w fun e w' => e = .returned (.int .i64 (if mayB v = true then 0 else 1)) ∧ Below w.heap.size w w' := by
  have h := eCheck_walk v (cleV v) w (Lib.hid fun W => eclean_any v W hs) _ _ rfl (Lib.hid rfl)
  rw [show (!((v.vn : Int) != ((cleV v).vn : Int))) = (v.vn == (cleV v).vn) by rw [← bits_nat]; simp [bne], check_may] at h
  exact h

end Go.Proofs.YtmlgjijjkikkhaaGreatDoor
