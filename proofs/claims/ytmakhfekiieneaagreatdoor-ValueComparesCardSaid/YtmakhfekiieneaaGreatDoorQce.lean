/-
  Merged texts (Wd, We, Wl, Wm, Wn, Wo, Wp, Wq, E2, Ta, Tb, Td, Tg, Th, Ti, Tk, Tl, Tm, Tn, To, Tp, Tr, Va, Vb, Vc, Vd).
-/
import Derived.Test.YtmakhfekiieneaaGreatDoorQcd
open Go.RowKit
set_option maxRecDepth 100000
set_option maxHeartbeats 40000000
namespace Go.Proofs.YtmakhfekiieneaaGreatDoor
section
theorem Et {fn : Func} {p : Tmp} {ty : TypeId} (h : fn.results = #[.cell p ty]) (tmps : Array Value) (P : Program) (w : World) (a : Addr) (v : Value) (ha : tmps.getD p undef = .pointer (some a)) (hl : (loadVar ty a).run P w = .ok v w) : (results fn tmps).run P w = .ok v w := by
 simp only [results, h]
 simp [-Array.getD_eq_getD_getElem?, ha, asAddr, hl]
def Rv (w : World) (g : Nat) (a : Array Value) : Prop := w.heap[g]? = some (.cells a 139 (0, 0))
def zq : Array Value := #[.int .u64 0, .bool false, .int .u64 0, .int .u64 0]
theorem Adv {w : World} {A : Option Addr} {n c m bt bw q H L M : Nat} {two ten x1 x2 last x3 x4 x5 bI : Int} {hE lE mE ev : Bool} (hA : NV w A n c m)
    (C1 : Hid (∀ W, NV W A n c m → Cq 176 #[.slice A n c] (.int .i64 (bt : Nat)) W))
    (C2 : Hid (∀ W, NV W A n c m → Cp 201 #[.slice A n c, .int .i64 x4] W (NOk q W)))
    (C3 : Hid (∀ W, Cp 187 #[.int .u64 bI] W (NRet bw W)))
    (C4 : Hid (∀ W A1 n1 c1 A2 n2 c2, NV W A1 n1 c1 q → NV W A2 n2 c2 bw → Cp 202 #[.slice A1 n1 c1, .slice A2 n2 c2] W (NOk (q - bw) W)))
    (C5 : Hid (∀ W, Cp 187 #[.int .u64 2] W (NRet 2 W)))
    (C6 : Hid (∀ W A1 n1 c1 A2 n2 c2, NV W A1 n1 c1 q → NV W A2 n2 c2 2 → Cp 203 #[.slice A1 n1 c1, .slice A2 n2 c2] W (NOk (q + 2) W)))
    (S1 : Hid (∀ W A1 n1 c1, NV W A1 n1 c1 q → Cp 200 #[.slice A1 n1 c1, .int .i64 x5, .int .i64 ten] W fun e w' => ∃ A3 n3 c3, e = .returned (.tuple #[.slice A3 n3 c3, .bool hE]) ∧ NV w' A3 n3 c3 H ∧ Below W.heap.size W w'))
    (S2 : Hid (∀ W A1 n1 c1, NV W A1 n1 c1 (q - bw) → Cp 200 #[.slice A1 n1 c1, .int .i64 x5, .int .i64 ten] W fun e w' => ∃ A3 n3 c3, e = .returned (.tuple #[.slice A3 n3 c3, .bool lE]) ∧ NV w' A3 n3 c3 L ∧ Below W.heap.size W w'))
    (S3 : Hid (∀ W A1 n1 c1, NV W A1 n1 c1 (q + 2) → Cp 200 #[.slice A1 n1 c1, .int .i64 x5, .int .i64 ten] W fun e w' => ∃ A3 n3 c3, e = .returned (.tuple #[.slice A3 n3 c3, .bool mE]) ∧ NV w' A3 n3 c3 M ∧ Below W.heap.size W w'))
    (hH : H < 18446744073709551616) (hL : L < 9223372036854775808) (hM : M < 9223372036854775808) (hM0 : 0 < M)
    (k1 : wrap64 ((bt : Int) + two) = x1) (k2 : wrap64 (x1 - 53) = x2) (hmax : max x2 (-1074) = last) (k3 : wrap64 (two - last) = x3) (k4 : wrap64 (x3 + 2) = x4) (k5 : wrap64 (last - 2) = x5)
    (hb : bt = 1 ∧ -1074 < last ∧ bI = 1) (hev : decide (last < two) = ev) :
    Ct 147 #[.slice A n c, .int .i64 two, .int .i64 ten] (.agg #[.int .u64 (H : Nat), .bool hE, .int .u64 ((if lE = true ∧ ev = true then L else L + 1 : Nat) : Nat), .int .u64 ((if mE = true ∧ ev = false then M - 1 else M : Nat) : Nat)]) w := by
  have W1 := Lh (fun W A1 n1 c1 (h : NV W A1 n1 c1 H) => Df h hH)
  have W2 := Lh (fun W A1 n1 c1 (h : NV W A1 n1 c1 L) => Df h (by omega))
  have W3 := Lh (fun W A1 n1 c1 (h : NV W A1 n1 c1 M) => Df h (by omega))
  have HA := Lh hA
  have HEV := Lh hev
  have l1 : (L : Int) < 9223372036854775808 := by omega
  have l2 : (M : Int) < 9223372036854775808 := by omega
  have l3 : (0 : Int) < (M : Int) := by omega
  clear hA hH hL hM hM0 hev
  obtain ⟨hbt, hl, rfl⟩ := hb
  all_goals
    first | have tb : ((bt : Int) == 1) = false := by rw [beq_eq_false_iff_ne]; omega
          | have tb : ((bt : Int) == 1) = true := by rw [beq_iff_eq]; omega
    clear hbt
    have HA := Lh (HA.out.step (show Below w.heap.size w (w.alloc (.cells zq 139)) from (Below.refl _ _).alloc (Nat.le_refl _) _))
    have B0 := Lh (show Below w.heap.size w (w.alloc (.cells zq 139)) from (Below.refl _ _).alloc (Nat.le_refl _) _)
    have R0 := Lh (show Rv (w.alloc (.cells zq 139)) w.heap.size zq from heap_alloc_last w _)
    have S0 := Lh (show w.heap.size < (w.alloc (.cells zq 139)).heap.size from by simp)
    unfold zq at HA B0 R0 S0
    go_enter Tryz.func147, Tryz.ntmps147
    go_wp2_with fail
    generalize w.alloc (.cells #[.int .u64 0, .bool false, .int .u64 0, .int .u64 0] 139) = w0 at *
    refine Sm (C1.out _ HA.out) ?_
    go_wp2_with fail
    refine (C2.out _ HA.out).mono ?_
    rintro e w1 ⟨A1, n1, c1, rfl, g1, b1⟩
    have G1 := Lh g1
    have G0 := Lh (HA.out.step b1)
    have B1 := Lh (b1)
    clear g1 b1 hmax k1 k2 k3 k4
    go_wp2_with fail
    refine Sm (C1.out _ G0.out) ?_
    go_wp2_with fail
    refine (C3.out _).mono ?_
    rintro e w2 ⟨A2, n2, c2, rfl, g2, b2⟩
    have G2 := Lh g2
    have G1 := Lh (G1.out.step b2)
    have B2 := Lh (Aa B1.out b2)
    clear g2 b2
    go_wp2_with fail
    refine (C4.out _ _ _ _ _ _ _ G1.out G2.out).mono ?_
    rintro e w3 ⟨A3, n3, c3, rfl, g3, b3⟩
    have G3 := Lh g3
    have G1 := Lh (G1.out.step b3)
    have B3 := Lh (Aa B2.out b3)
    clear g3 b3
    go_wp2_with fail
    refine (C5.out _).mono ?_
    rintro e w4 ⟨A4, n4, c4, rfl, g4, b4⟩
    have G4 := Lh g4
    have G1 := Lh (G1.out.step b4)
    have G3 := Lh (G3.out.step b4)
    have B4 := Lh (Aa B3.out b4)
    clear g4 b4
    go_wp2_with fail
    refine (C6.out _ _ _ _ _ _ _ G1.out G4.out).mono ?_
    rintro e w5 ⟨A5, n5, c5, rfl, g5, b5⟩
    have G5 := Lh g5
    have G1 := Lh (G1.out.step b5)
    have G3 := Lh (G3.out.step b5)
    have B5 := Lh (Aa B4.out b5)
    clear g5 b5
    go_wp2_with fail
    refine (S1.out _ _ _ _ G1.out).mono ?_
    rintro e w6 ⟨A6, n6, c6, rfl, g6, b6⟩
    have G6 := Lh g6
    have G5 := Lh (G5.out.step b6)
    have G3 := Lh (G3.out.step b6)
    have B6 := Lh (Aa B5.out b6)
    clear g6 b6
    go_wp2_with fail
    refine (S2.out _ _ _ _ G3.out).mono ?_
    rintro e w7 ⟨A7, n7, c7, rfl, g7, b7⟩
    have G7 := Lh g7
    have G5 := Lh (G5.out.step b7)
    have G6 := Lh (G6.out.step b7)
    have B7 := Lh (Aa B6.out b7)
    clear g7 b7
    go_wp2_with fail
    refine (S3.out _ _ _ _ G5.out).mono ?_
    rintro e w8 ⟨A8, n8, c8, rfl, g8, b8⟩
    have G8 := Lh g8
    have G7 := Lh (G7.out.step b8)
    have G6 := Lh (G6.out.step b8)
    have B8 := Lh (Aa B7.out b8)
    clear g8 b8 C1 C2 C3 C4 C5 C6 S1 S2 S3
    go_wp2_with fail
    refine Sm (W1.out _ _ _ _ G6.out) ?_
    go_wp2_with fail
    refine Sm (W2.out _ _ _ _ G7.out) ?_
    go_wp2_with fail
    refine Sm (W3.out _ _ _ _ G8.out) ?_
    have HG := Lh (fun c' => show (w8.alloc (.cells c' 139)).heap[w.heap.size]? = some (.cells #[.int .u64 0, .bool false, .int .u64 0, .int .u64 0] 139 (0, 0)) from by
      have hlt : w.heap.size < w8.heap.size := Nat.lt_of_lt_of_le S0.out B8.out.size
      have b1 : Below w8.heap.size w8 (w8.alloc (.cells c' 139)) := (Below.refl _ _).alloc (Nat.le_refl _) _
      exact (b1.block _ hlt).trans ((B8.out.block _ S0.out).trans R0.out))
    have HB := Lh (fun c' => show Below w.heap.size w (w8.alloc (.cells c' 139)) from by
      have b2 := Aa B0.out B8.out
      exact b2.alloc b2.size _)
    have he := HEV.out
    have hL1 : IntKind.u64.wrap ((L : Int) + 1) = ((L + 1 : Nat) : Int) := by rw [IntKind.wrap_u64]; omega
    have hM1 : IntKind.u64.wrap ((M : Int) - 1) = ((M - 1 : Nat) : Int) := by rw [IntKind.wrap_u64]; omega
    clear W1 W2 W3 G6 G7 G8 k5 HA HEV
    first | clear hl | skip
    clear tb l1 l2 l3 B0 B1 B2 B3 B4 B5 B6 B7 B8 S0 R0 G1 G5 G3 G0
    cases ev <;> cases lE <;> cases mE
    all_goals
      go_wp2_with (first | (refine wpList_store_row rfl 139 _ _ rfl w.heap.size _ rfl rfl 139 #[.int .u64 0, .bool false, .int .u64 0, .int .u64 0] (HG.out _) (by first | kernel_rfl | rfl) rfl (by first | kernel_rfl | rfl) ?_))
    all_goals
      exact bodyPost_ret (Et rfl _ _ _ _ _ rfl (run_loadVar_row _ w.heap.size 139 139 _ (0, 0) _ (setRow_heap _ _ _ _ _ _ (HG.out _)) Tryz.underlying139 rfl (by first | kernel_rfl | rfl))) rfl ⟨rfl, Bu (HB.out _) (Nat.le_refl _) _⟩
theorem Aal {w : World} {A : Option Addr} {n c m bt bw q H L M : Nat} {two ten x1 x2 last x3 x4 x5 bI : Int} {hE lE mE ev : Bool} (hA : NV w A n c m)
    (C1 : Hid (∀ W, NV W A n c m → Cq 176 #[.slice A n c] (.int .i64 (bt : Nat)) W))
    (C2 : Hid (∀ W, NV W A n c m → Cp 201 #[.slice A n c, .int .i64 x4] W (NOk q W)))
    (C3 : Hid (∀ W, Cp 187 #[.int .u64 bI] W (NRet bw W)))
    (C4 : Hid (∀ W A1 n1 c1 A2 n2 c2, NV W A1 n1 c1 q → NV W A2 n2 c2 bw → Cp 202 #[.slice A1 n1 c1, .slice A2 n2 c2] W (NOk (q - bw) W)))
    (C5 : Hid (∀ W, Cp 187 #[.int .u64 2] W (NRet 2 W)))
    (C6 : Hid (∀ W A1 n1 c1 A2 n2 c2, NV W A1 n1 c1 q → NV W A2 n2 c2 2 → Cp 203 #[.slice A1 n1 c1, .slice A2 n2 c2] W (NOk (q + 2) W)))
    (S1 : Hid (∀ W A1 n1 c1, NV W A1 n1 c1 q → Cp 200 #[.slice A1 n1 c1, .int .i64 x5, .int .i64 ten] W fun e w' => ∃ A3 n3 c3, e = .returned (.tuple #[.slice A3 n3 c3, .bool hE]) ∧ NV w' A3 n3 c3 H ∧ Below W.heap.size W w'))
    (S2 : Hid (∀ W A1 n1 c1, NV W A1 n1 c1 (q - bw) → Cp 200 #[.slice A1 n1 c1, .int .i64 x5, .int .i64 ten] W fun e w' => ∃ A3 n3 c3, e = .returned (.tuple #[.slice A3 n3 c3, .bool lE]) ∧ NV w' A3 n3 c3 L ∧ Below W.heap.size W w'))
    (S3 : Hid (∀ W A1 n1 c1, NV W A1 n1 c1 (q + 2) → Cp 200 #[.slice A1 n1 c1, .int .i64 x5, .int .i64 ten] W fun e w' => ∃ A3 n3 c3, e = .returned (.tuple #[.slice A3 n3 c3, .bool mE]) ∧ NV w' A3 n3 c3 M ∧ Below W.heap.size W w'))
    (hH : H < 18446744073709551616) (hL : L < 9223372036854775808) (hM : M < 9223372036854775808) (hM0 : 0 < M)
    (k1 : wrap64 ((bt : Int) + two) = x1) (k2 : wrap64 (x1 - 53) = x2) (hmax : max x2 (-1074) = last) (k3 : wrap64 (two - last) = x3) (k4 : wrap64 (x3 + 2) = x4) (k5 : wrap64 (last - 2) = x5)
    (hb : bt ≠ 1 ∧ bI = 2) (hev : decide (last < two) = ev) :
    Ct 147 #[.slice A n c, .int .i64 two, .int .i64 ten] (.agg #[.int .u64 (H : Nat), .bool hE, .int .u64 ((if lE = true ∧ ev = true then L else L + 1 : Nat) : Nat), .int .u64 ((if mE = true ∧ ev = false then M - 1 else M : Nat) : Nat)]) w := by
  have W1 := Lh (fun W A1 n1 c1 (h : NV W A1 n1 c1 H) => Df h hH)
  have W2 := Lh (fun W A1 n1 c1 (h : NV W A1 n1 c1 L) => Df h (by omega))
  have W3 := Lh (fun W A1 n1 c1 (h : NV W A1 n1 c1 M) => Df h (by omega))
  have HA := Lh hA
  have HEV := Lh hev
  have l1 : (L : Int) < 9223372036854775808 := by omega
  have l2 : (M : Int) < 9223372036854775808 := by omega
  have l3 : (0 : Int) < (M : Int) := by omega
  clear hA hH hL hM hM0 hev
  obtain ⟨hbt, rfl⟩ := hb
  all_goals
    first | have tb : ((bt : Int) == 1) = false := by rw [beq_eq_false_iff_ne]; omega
          | have tb : ((bt : Int) == 1) = true := by rw [beq_iff_eq]; omega
    clear hbt
    have HA := Lh (HA.out.step (show Below w.heap.size w (w.alloc (.cells zq 139)) from (Below.refl _ _).alloc (Nat.le_refl _) _))
    have B0 := Lh (show Below w.heap.size w (w.alloc (.cells zq 139)) from (Below.refl _ _).alloc (Nat.le_refl _) _)
    have R0 := Lh (show Rv (w.alloc (.cells zq 139)) w.heap.size zq from heap_alloc_last w _)
    have S0 := Lh (show w.heap.size < (w.alloc (.cells zq 139)).heap.size from by simp)
    unfold zq at HA B0 R0 S0
    go_enter Tryz.func147, Tryz.ntmps147
    go_wp2_with fail
    generalize w.alloc (.cells #[.int .u64 0, .bool false, .int .u64 0, .int .u64 0] 139) = w0 at *
    refine Sm (C1.out _ HA.out) ?_
    go_wp2_with fail
    refine (C2.out _ HA.out).mono ?_
    rintro e w1 ⟨A1, n1, c1, rfl, g1, b1⟩
    have G1 := Lh g1
    have G0 := Lh (HA.out.step b1)
    have B1 := Lh (b1)
    clear g1 b1 hmax k1 k2 k3 k4
    go_wp2_with fail
    refine Sm (C1.out _ G0.out) ?_
    go_wp2_with fail
    refine (C3.out _).mono ?_
    rintro e w2 ⟨A2, n2, c2, rfl, g2, b2⟩
    have G2 := Lh g2
    have G1 := Lh (G1.out.step b2)
    have B2 := Lh (Aa B1.out b2)
    clear g2 b2
    go_wp2_with fail
    refine (C4.out _ _ _ _ _ _ _ G1.out G2.out).mono ?_
    rintro e w3 ⟨A3, n3, c3, rfl, g3, b3⟩
    have G3 := Lh g3
    have G1 := Lh (G1.out.step b3)
    have B3 := Lh (Aa B2.out b3)
    clear g3 b3
    go_wp2_with fail
    refine (C5.out _).mono ?_
    rintro e w4 ⟨A4, n4, c4, rfl, g4, b4⟩
    have G4 := Lh g4
    have G1 := Lh (G1.out.step b4)
    have G3 := Lh (G3.out.step b4)
    have B4 := Lh (Aa B3.out b4)
    clear g4 b4
    go_wp2_with fail
    refine (C6.out _ _ _ _ _ _ _ G1.out G4.out).mono ?_
    rintro e w5 ⟨A5, n5, c5, rfl, g5, b5⟩
    have G5 := Lh g5
    have G1 := Lh (G1.out.step b5)
    have G3 := Lh (G3.out.step b5)
    have B5 := Lh (Aa B4.out b5)
    clear g5 b5
    go_wp2_with fail
    refine (S1.out _ _ _ _ G1.out).mono ?_
    rintro e w6 ⟨A6, n6, c6, rfl, g6, b6⟩
    have G6 := Lh g6
    have G5 := Lh (G5.out.step b6)
    have G3 := Lh (G3.out.step b6)
    have B6 := Lh (Aa B5.out b6)
    clear g6 b6
    go_wp2_with fail
    refine (S2.out _ _ _ _ G3.out).mono ?_
    rintro e w7 ⟨A7, n7, c7, rfl, g7, b7⟩
    have G7 := Lh g7
    have G5 := Lh (G5.out.step b7)
    have G6 := Lh (G6.out.step b7)
    have B7 := Lh (Aa B6.out b7)
    clear g7 b7
    go_wp2_with fail
    refine (S3.out _ _ _ _ G5.out).mono ?_
    rintro e w8 ⟨A8, n8, c8, rfl, g8, b8⟩
    have G8 := Lh g8
    have G7 := Lh (G7.out.step b8)
    have G6 := Lh (G6.out.step b8)
    have B8 := Lh (Aa B7.out b8)
    clear g8 b8 C1 C2 C3 C4 C5 C6 S1 S2 S3
    go_wp2_with fail
    refine Sm (W1.out _ _ _ _ G6.out) ?_
    go_wp2_with fail
    refine Sm (W2.out _ _ _ _ G7.out) ?_
    go_wp2_with fail
    refine Sm (W3.out _ _ _ _ G8.out) ?_
    have HG := Lh (fun c' => show (w8.alloc (.cells c' 139)).heap[w.heap.size]? = some (.cells #[.int .u64 0, .bool false, .int .u64 0, .int .u64 0] 139 (0, 0)) from by
      have hlt : w.heap.size < w8.heap.size := Nat.lt_of_lt_of_le S0.out B8.out.size
      have b1 : Below w8.heap.size w8 (w8.alloc (.cells c' 139)) := (Below.refl _ _).alloc (Nat.le_refl _) _
      exact (b1.block _ hlt).trans ((B8.out.block _ S0.out).trans R0.out))
    have HB := Lh (fun c' => show Below w.heap.size w (w8.alloc (.cells c' 139)) from by
      have b2 := Aa B0.out B8.out
      exact b2.alloc b2.size _)
    have he := HEV.out
    have hL1 : IntKind.u64.wrap ((L : Int) + 1) = ((L + 1 : Nat) : Int) := by rw [IntKind.wrap_u64]; omega
    have hM1 : IntKind.u64.wrap ((M : Int) - 1) = ((M - 1 : Nat) : Int) := by rw [IntKind.wrap_u64]; omega
    clear W1 W2 W3 G6 G7 G8 k5 HA HEV
    first | clear hl | skip
    clear tb l1 l2 l3 B0 B1 B2 B3 B4 B5 B6 B7 B8 S0 R0 G1 G5 G3 G0
    cases ev <;> cases lE <;> cases mE
    all_goals
      go_wp2_with (first | (refine wpList_store_row rfl 139 _ _ rfl w.heap.size _ rfl rfl 139 #[.int .u64 0, .bool false, .int .u64 0, .int .u64 0] (HG.out _) (by first | kernel_rfl | rfl) rfl (by first | kernel_rfl | rfl) ?_))
    all_goals
      exact bodyPost_ret (Et rfl _ _ _ _ _ rfl (run_loadVar_row _ w.heap.size 139 139 _ (0, 0) _ (setRow_heap _ _ _ _ _ _ (HG.out _)) Tryz.underlying139 rfl (by first | kernel_rfl | rfl))) rfl ⟨rfl, Bu (HB.out _) (Nat.le_refl _) _⟩
end
section
theorem Adm {w : World} {A : Option Addr} {n c m bt bw q H L M : Nat} {two ten x1 x2 last x3 x4 x5 bI : Int} {hE lE mE ev : Bool} (hA : NV w A n c m)
    (C1 : Hid (∀ W, NV W A n c m → Cq 176 #[.slice A n c] (.int .i64 (bt : Nat)) W))
    (C2 : Hid (∀ W, NV W A n c m → Cp 201 #[.slice A n c, .int .i64 x4] W (NOk q W)))
    (C3 : Hid (∀ W, Cp 187 #[.int .u64 bI] W (NRet bw W)))
    (C4 : Hid (∀ W A1 n1 c1 A2 n2 c2, NV W A1 n1 c1 q → NV W A2 n2 c2 bw → Cp 202 #[.slice A1 n1 c1, .slice A2 n2 c2] W (NOk (q - bw) W)))
    (C5 : Hid (∀ W, Cp 187 #[.int .u64 2] W (NRet 2 W)))
    (C6 : Hid (∀ W A1 n1 c1 A2 n2 c2, NV W A1 n1 c1 q → NV W A2 n2 c2 2 → Cp 203 #[.slice A1 n1 c1, .slice A2 n2 c2] W (NOk (q + 2) W)))
    (S1 : Hid (∀ W A1 n1 c1, NV W A1 n1 c1 q → Cp 200 #[.slice A1 n1 c1, .int .i64 x5, .int .i64 ten] W fun e w' => ∃ A3 n3 c3, e = .returned (.tuple #[.slice A3 n3 c3, .bool hE]) ∧ NV w' A3 n3 c3 H ∧ Below W.heap.size W w'))
    (S2 : Hid (∀ W A1 n1 c1, NV W A1 n1 c1 (q - bw) → Cp 200 #[.slice A1 n1 c1, .int .i64 x5, .int .i64 ten] W fun e w' => ∃ A3 n3 c3, e = .returned (.tuple #[.slice A3 n3 c3, .bool lE]) ∧ NV w' A3 n3 c3 L ∧ Below W.heap.size W w'))
    (S3 : Hid (∀ W A1 n1 c1, NV W A1 n1 c1 (q + 2) → Cp 200 #[.slice A1 n1 c1, .int .i64 x5, .int .i64 ten] W fun e w' => ∃ A3 n3 c3, e = .returned (.tuple #[.slice A3 n3 c3, .bool mE]) ∧ NV w' A3 n3 c3 M ∧ Below W.heap.size W w'))
    (hH : H < 18446744073709551616) (hL : L < 9223372036854775808) (hM : M < 9223372036854775808) (hM0 : 0 < M)
    (k1 : wrap64 ((bt : Int) + two) = x1) (k2 : wrap64 (x1 - 53) = x2) (hmax : max x2 (-1074) = last) (k3 : wrap64 (two - last) = x3) (k4 : wrap64 (x3 + 2) = x4) (k5 : wrap64 (last - 2) = x5)
    (hb : bt = 1 ∧ decide (-1074 < last) = false ∧ bI = 2) (hev : decide (last < two) = ev) :
    Ct 147 #[.slice A n c, .int .i64 two, .int .i64 ten] (.agg #[.int .u64 (H : Nat), .bool hE, .int .u64 ((if lE = true ∧ ev = true then L else L + 1 : Nat) : Nat), .int .u64 ((if mE = true ∧ ev = false then M - 1 else M : Nat) : Nat)]) w := by
  have W1 := Lh (fun W A1 n1 c1 (h : NV W A1 n1 c1 H) => Df h hH)
  have W2 := Lh (fun W A1 n1 c1 (h : NV W A1 n1 c1 L) => Df h (by omega))
  have W3 := Lh (fun W A1 n1 c1 (h : NV W A1 n1 c1 M) => Df h (by omega))
  have HA := Lh hA
  have HEV := Lh hev
  have l1 : (L : Int) < 9223372036854775808 := by omega
  have l2 : (M : Int) < 9223372036854775808 := by omega
  have l3 : (0 : Int) < (M : Int) := by omega
  clear hA hH hL hM hM0 hev
  obtain ⟨hbt, hl, rfl⟩ := hb
  all_goals
    first | have tb : ((bt : Int) == 1) = false := by rw [beq_eq_false_iff_ne]; omega
          | have tb : ((bt : Int) == 1) = true := by rw [beq_iff_eq]; omega
    clear hbt
    have HA := Lh (HA.out.step (show Below w.heap.size w (w.alloc (.cells zq 139)) from (Below.refl _ _).alloc (Nat.le_refl _) _))
    have B0 := Lh (show Below w.heap.size w (w.alloc (.cells zq 139)) from (Below.refl _ _).alloc (Nat.le_refl _) _)
    have R0 := Lh (show Rv (w.alloc (.cells zq 139)) w.heap.size zq from heap_alloc_last w _)
    have S0 := Lh (show w.heap.size < (w.alloc (.cells zq 139)).heap.size from by simp)
    unfold zq at HA B0 R0 S0
    go_enter Tryz.func147, Tryz.ntmps147
    go_wp2_with fail
    generalize w.alloc (.cells #[.int .u64 0, .bool false, .int .u64 0, .int .u64 0] 139) = w0 at *
    refine Sm (C1.out _ HA.out) ?_
    go_wp2_with fail
    refine (C2.out _ HA.out).mono ?_
    rintro e w1 ⟨A1, n1, c1, rfl, g1, b1⟩
    have G1 := Lh g1
    have G0 := Lh (HA.out.step b1)
    have B1 := Lh (b1)
    clear g1 b1 hmax k1 k2 k3 k4
    go_wp2_with fail
    refine Sm (C1.out _ G0.out) ?_
    go_wp2_with fail
    refine (C3.out _).mono ?_
    rintro e w2 ⟨A2, n2, c2, rfl, g2, b2⟩
    have G2 := Lh g2
    have G1 := Lh (G1.out.step b2)
    have B2 := Lh (Aa B1.out b2)
    clear g2 b2
    go_wp2_with fail
    refine (C4.out _ _ _ _ _ _ _ G1.out G2.out).mono ?_
    rintro e w3 ⟨A3, n3, c3, rfl, g3, b3⟩
    have G3 := Lh g3
    have G1 := Lh (G1.out.step b3)
    have B3 := Lh (Aa B2.out b3)
    clear g3 b3
    go_wp2_with fail
    refine (C5.out _).mono ?_
    rintro e w4 ⟨A4, n4, c4, rfl, g4, b4⟩
    have G4 := Lh g4
    have G1 := Lh (G1.out.step b4)
    have G3 := Lh (G3.out.step b4)
    have B4 := Lh (Aa B3.out b4)
    clear g4 b4
    go_wp2_with fail
    refine (C6.out _ _ _ _ _ _ _ G1.out G4.out).mono ?_
    rintro e w5 ⟨A5, n5, c5, rfl, g5, b5⟩
    have G5 := Lh g5
    have G1 := Lh (G1.out.step b5)
    have G3 := Lh (G3.out.step b5)
    have B5 := Lh (Aa B4.out b5)
    clear g5 b5
    go_wp2_with fail
    refine (S1.out _ _ _ _ G1.out).mono ?_
    rintro e w6 ⟨A6, n6, c6, rfl, g6, b6⟩
    have G6 := Lh g6
    have G5 := Lh (G5.out.step b6)
    have G3 := Lh (G3.out.step b6)
    have B6 := Lh (Aa B5.out b6)
    clear g6 b6
    go_wp2_with fail
    refine (S2.out _ _ _ _ G3.out).mono ?_
    rintro e w7 ⟨A7, n7, c7, rfl, g7, b7⟩
    have G7 := Lh g7
    have G5 := Lh (G5.out.step b7)
    have G6 := Lh (G6.out.step b7)
    have B7 := Lh (Aa B6.out b7)
    clear g7 b7
    go_wp2_with fail
    refine (S3.out _ _ _ _ G5.out).mono ?_
    rintro e w8 ⟨A8, n8, c8, rfl, g8, b8⟩
    have G8 := Lh g8
    have G7 := Lh (G7.out.step b8)
    have G6 := Lh (G6.out.step b8)
    have B8 := Lh (Aa B7.out b8)
    clear g8 b8 C1 C2 C3 C4 C5 C6 S1 S2 S3
    go_wp2_with fail
    refine Sm (W1.out _ _ _ _ G6.out) ?_
    go_wp2_with fail
    refine Sm (W2.out _ _ _ _ G7.out) ?_
    go_wp2_with fail
    refine Sm (W3.out _ _ _ _ G8.out) ?_
    have HG := Lh (fun c' => show (w8.alloc (.cells c' 139)).heap[w.heap.size]? = some (.cells #[.int .u64 0, .bool false, .int .u64 0, .int .u64 0] 139 (0, 0)) from by
      have hlt : w.heap.size < w8.heap.size := Nat.lt_of_lt_of_le S0.out B8.out.size
      have b1 : Below w8.heap.size w8 (w8.alloc (.cells c' 139)) := (Below.refl _ _).alloc (Nat.le_refl _) _
      exact (b1.block _ hlt).trans ((B8.out.block _ S0.out).trans R0.out))
    have HB := Lh (fun c' => show Below w.heap.size w (w8.alloc (.cells c' 139)) from by
      have b2 := Aa B0.out B8.out
      exact b2.alloc b2.size _)
    have he := HEV.out
    have hL1 : IntKind.u64.wrap ((L : Int) + 1) = ((L + 1 : Nat) : Int) := by rw [IntKind.wrap_u64]; omega
    have hM1 : IntKind.u64.wrap ((M : Int) - 1) = ((M - 1 : Nat) : Int) := by rw [IntKind.wrap_u64]; omega
    clear W1 W2 W3 G6 G7 G8 k5 HA HEV
    first | clear hl | skip
    clear tb l1 l2 l3 B0 B1 B2 B3 B4 B5 B6 B7 B8 S0 R0 G1 G5 G3 G0
    cases ev <;> cases lE <;> cases mE
    all_goals
      go_wp2_with (first | (refine wpList_store_row rfl 139 _ _ rfl w.heap.size _ rfl rfl 139 #[.int .u64 0, .bool false, .int .u64 0, .int .u64 0] (HG.out _) (by first | kernel_rfl | rfl) rfl (by first | kernel_rfl | rfl) ?_))
    all_goals
      exact bodyPost_ret (Et rfl _ _ _ _ _ rfl (run_loadVar_row _ w.heap.size 139 139 _ (0, 0) _ (setRow_heap _ _ _ _ _ _ (HG.out _)) Tryz.underlying139 rfl (by first | kernel_rfl | rfl))) rfl ⟨rfl, Bu (HB.out _) (Nat.le_refl _) _⟩
end
section
theorem Jb {W : World} {A : Option Addr} {n c N V x y : Nat} {two ten : Int} (hA : NV W A n c N) (hm : bln N ≤ 2000) (h1 : -1000 ≤ ten) (h2 : ten ≤ 1000) (h3 : -3000 ≤ two) (h4 : two ≤ 3000)
  (hq : scA N two ten / scB two ten = V) (hb : scA N two ten % scB two ten = 0 ↔ x % y = 0) :
  Cp 200 #[.slice A n c, .int .i64 two, .int .i64 ten] W fun e w' => ∃ A3 n3 c3, e = .returned (.tuple #[.slice A3 n3 c3, .bool (decide (x % y = 0))]) ∧ NV w' A3 n3 c3 V ∧ Below W.heap.size W w' := by
 refine (Lq two ten hA hm h1 h2 h3 h4).mono ?_
 rintro e w' ⟨A3, n3, c3, rfl, hv, hw⟩
 rw [hq] at hv
 rw [decide_eq_decide.2 hb]
 exact ⟨A3, n3, c3, rfl, hv, hw⟩
def Aml (r : Nat) (n : Int) (w : World) (e : Ending) (w' : World) : Prop :=
 ∃ M : Nat, e = .returned (.agg #[.int .u64 ((vU r (18 - n) / vV (18 - n) : Nat) : Int), .bool (decide (vU r (18 - n) % vV (18 - n) = 0)), .int .u64 ((Cz (vV (18 - n)) (10 ^ ((18 : Int) - n).toNat) r : Nat) : Int), .int .u64 (M : Nat)]) ∧
  (∀ c, c ≤ M ↔ Ea (vV (18 - n)) (10 ^ ((18 : Int) - n).toNat) r c) ∧ Below w.heap.size w w'
theorem Adq {w : World} {A : Option Addr} {n0 c0 r m : Nat} {two n : Int} (hA : NV w A n0 c0 m) (hp : PartIs r m two) (h0 : 0 < r) (hpt : Cj (Ac r) big n) (hn1 : -345 ≤ n) (hn2 : n ≤ 335) :
  Cp 147 #[.slice A n0 c0, .int .i64 two, .int .i64 (18 - n)] w (Aml r n w) := by
 obtain ⟨q1, q2, q3, q4, q5, q6⟩ := hp.pos
 obtain ⟨c, D, k, h1, h2, h3, h4, h5, h6, h7, h8⟩ := hp
 obtain ⟨s, hs⟩ : ∃ s, (18 : Int) - n = s := ⟨_, rfl⟩
 have hbc := Ry (k := k) q1
 rw [← h4] at hbc
 have hc0 : 0 < c := by rw [h4]; exact Nat.mul_pos q1 (Az k)
 obtain ⟨b1, b2, b3⟩ := Be hc0
 have hb53 : bln c ≤ 53 := Gd (by omega)
 have hb53' : 4503599627370496 ≤ c → bln c = 53 := by
  intro h
  exact Za (L := 52) (by omega) (by omega)
 -- the ends, in Wc
 obtain ⟨e1, e2⟩ := Wc h1 h2 h3 h0
 have hHc := Z5 (s := s) (K := 1074) rfl h1 h2 h3 h4
 have hp2 : m * 2 ^ (k + 2) = 4 * c := by rw [h4, Nat.pow_add]; grind
 have hMc := Rh (N := 4 * c + 2) (S := Ac r + Ac (r + 1)) (s := s) (K := 1074) rfl e1
 obtain ⟨bw, hbw⟩ : ∃ bw, (if c = 4503599627370496 ∧ 0 < D then 1 else 2) = bw := ⟨_, rfl⟩
 rw [hbw] at e2
 have hLc := Rh (N := 4 * c - bw) (S := Ac (r - 1) + Ac r) (s := s) (K := 1074) rfl e2
 have hvV := Du s
 have hsc := Ach ((D : Int) - 1076) s
 have H1 := (Er hsc hvV hHc).1
 have H2 := I7 hsc hvV hHc
 have M1 := (Er hsc (by omega) hMc).1
 have M2 := I7 hsc (by omega) hMc
 have L1 := (Er hsc (by omega) hLc).1
 have L2 := I7 hsc (by omega) hLc
 have hH := (Na hpt).1
 have hM := Alv h0 hpt
 have hL := Afx h0 hpt
 unfold Aml
 rw [hs] at hH hM hL ⊢
 have hbw2 : bw ≤ 2 := by rw [← hbw]; split <;> omega
 rw [hp2] at H1 H2
 -- how many bits
 have bl4 : bln (4 * c + 2) ≤ 100 := Gd (by omega)
 have bl4' : bln (4 * c) ≤ 100 := Gd (by omega)
 have bl4'' : bln (4 * c - bw) ≤ 100 := Gd (by omega)
 have S1 := Lh (fun W A1 n1 c1 (h : NV W A1 n1 c1 (4 * c)) => Jb (two := (D : Int) - 1076) (ten := s) h (by omega) (by omega) (by omega) (by omega) (by omega) H1 H2)
 have S2 := Lh (fun W A1 n1 c1 (h : NV W A1 n1 c1 (4 * c - bw)) => Jb (two := (D : Int) - 1076) (ten := s) h (by omega) (by omega) (by omega) (by omega) (by omega) L1 L2)
 have S3 := Lh (fun W A1 n1 c1 (h : NV W A1 n1 c1 (4 * c + 2)) => Jb (two := (D : Int) - 1076) (ten := s) h (by omega) (by omega) (by omega) (by omega) (by omega) M1 M2)
 have C1 := Lh (fun W (h : NV W A n0 c0 m) => Abl h (by omega))
 have C2 := Lh (fun W (h : NV W A n0 c0 m) => Anc h (k + 2) (by omega))
 rw [hp2] at C2
 have C4 := Lh (fun W A1 n1 c1 A2 n2 c2 (h : NV W A1 n1 c1 (4 * c)) (g : NV W A2 n2 c2 bw) => Ao7 h g (by omega) (by omega))
 have C5 := Lh (fun W => nof 2 (by omega) W)
 have C6 := Lh (fun W A1 n1 c1 A2 n2 c2 (h : NV W A1 n1 c1 (4 * c)) (g : NV W A2 n2 c2 2) => Ao6 h g (by omega))
 have hev : decide (((D : Int) - 1074) < two) = decide (r % 2 = 0) := by
  refine decide_eq_decide.2 ?_
  rcases Nat.eq_zero_or_pos k with hk | hk
  ·rw [hk, Nat.pow_zero, Nat.mul_one] at h4
   omega
  ·obtain ⟨j, rfl⟩ : ∃ j, k = j + 1 := ⟨k - 1, by omega⟩
   rw [Nat.pow_succ, ← Nat.mul_assoc] at h4
   omega
 have hmax : max ((bln m : Int) + two - 53) (-1074) = (D : Int) - 1074 := by
  rcases Nat.eq_zero_or_pos D with hD | hD
  ·omega
  ·have := hb53' (by omega)
   omega
 have hpow : bln m = 1 → c = 2 ^ k := by
  intro h
  obtain ⟨u1, u2, _⟩ := Be q1
  rw [h] at u1 u2
  simp at u1 u2
  have : m = 1 := by omega
  rw [h4, this, Nat.one_mul]
 have fin : ∀ (e : Ending) (w' : World), (e = .returned (.agg #[.int .u64 ((vU r s / vV s : Nat) : Int), .bool (decide (vU r s % vV s = 0)), .int .u64 ((if decide ((Ac (r - 1) + Ac r) * 10 ^ s.toNat % (2 * vV s) = 0) = true ∧ decide (r % 2 = 0) = true then (Ac (r - 1) + Ac r) * 10 ^ s.toNat / (2 * vV s) else (Ac (r - 1) + Ac r) * 10 ^ s.toNat / (2 * vV s) + 1 : Nat) : Int), .int .u64 ((if decide ((Ac r + Ac (r + 1)) * 10 ^ s.toNat % (2 * vV s) = 0) = true ∧ decide (r % 2 = 0) = false then (Ac r + Ac (r + 1)) * 10 ^ s.toNat / (2 * vV s) - 1 else (Ac r + Ac (r + 1)) * 10 ^ s.toNat / (2 * vV s) : Nat) : Int)]) ∧ Below w.heap.size w w') → ∃ M : Nat, e = .returned (.agg #[.int .u64 ((vU r s / vV s : Nat) : Int), .bool (decide (vU r s % vV s = 0)), .int .u64 ((Cz (vV s) (10 ^ s.toNat) r : Nat) : Int), .int .u64 (M : Nat)]) ∧ (∀ c, c ≤ M ↔ Ea (vV s) (10 ^ s.toNat) r c) ∧ Below w.heap.size w w' := by
  rintro e w' ⟨he, hw⟩
  have hle : (if decide ((Ac (r - 1) + Ac r) * 10 ^ s.toNat % (2 * vV s) = 0) = true ∧ decide (r % 2 = 0) = true then (Ac (r - 1) + Ac r) * 10 ^ s.toNat / (2 * vV s) else (Ac (r - 1) + Ac r) * 10 ^ s.toNat / (2 * vV s) + 1) = Cz (vV s) (10 ^ s.toNat) r := by
   unfold Cz
   by_cases g : (Ac (r - 1) + Ac r) * 10 ^ s.toNat % (2 * vV s) = 0 <;> by_cases g2 : r % 2 = 0 <;> simp [g, g2]
  rw [hle] at he
  refine ⟨(if decide ((Ac r + Ac (r + 1)) * 10 ^ s.toNat % (2 * vV s) = 0) = true ∧ decide (r % 2 = 0) = false then (Ac r + Ac (r + 1)) * 10 ^ s.toNat / (2 * vV s) - 1 else (Ac r + Ac (r + 1)) * 10 ^ s.toNat / (2 * vV s)), he, ?_, hw⟩
  ·intro c
   unfold Ea
   have := hM.2
   by_cases g : (Ac r + Ac (r + 1)) * 10 ^ s.toNat % (2 * vV s) = 0 <;> by_cases g2 : r % 2 = 0 <;> simp [g, g2] <;> omega
 rcases Nat.decEq (bln m) 1 with hb | hb
 ·have hbw' : bw = 2 := by
   rw [← hbw, if_neg]
   rintro ⟨g1, g2⟩
   apply hb
   have hb2 : bln c = 53 := by rw [g1]; exact Za (L := 52) (by omega) (by omega)
   have hk : k = 52 := by
    rcases Nat.lt_or_ge k 52 with h | h
    ·exfalso
     obtain ⟨d, hd⟩ : ∃ d, 52 = k + (d + 1) := ⟨52 - k - 1, by omega⟩
     have : m * 2 ^ k = 2 ^ (d + 1) * 2 ^ k := by rw [← h4, g1, ← Nat.pow_add, Nat.add_comm, ← hd]
     have := Nat.eq_of_mul_eq_mul_right (Az k) this
     rw [Nat.pow_succ] at this
     omega
    ·omega
   omega
  subst hbw'
  have C3 := Lh (fun W => nof 2 (by omega) W)
  refine (Aal (bI := 2) (x4 := ((k + 2 : Nat) : Int)) (x5 := (D : Int) - 1076) (last := (D : Int) - 1074) (x1 := (bln m : Int) + two) (x2 := (bln m : Int) + two - 53) (x3 := (k : Int)) (two := two) (ten := s) hA C1 C2 C3 C4 C5 C6 S1 S2 S3 (by omega) (by omega) (by omega) hM.2 (by unfold wrap64; omega) (by unfold wrap64; omega) hmax (by unfold wrap64; omega) (by unfold wrap64; omega) (by unfold wrap64; omega) ⟨hb, rfl⟩ hev).mono ?_
  exact fin
 ·have hc2 := hpow hb
  rcases Nat.eq_zero_or_pos D with hD | hD
  ·have hbw' : bw = 2 := by
    rw [← hbw, if_neg]
    omega
   subst hbw'
   have C3 := Lh (fun W => nof 2 (by omega) W)
   refine (Adm (bI := 2) (x4 := ((k + 2 : Nat) : Int)) (x5 := (D : Int) - 1076) (last := (D : Int) - 1074) (x1 := (bln m : Int) + two) (x2 := (bln m : Int) + two - 53) (x3 := (k : Int)) (two := two) (ten := s) hA C1 C2 C3 C4 C5 C6 S1 S2 S3 (by omega) (by omega) (by omega) hM.2 (by unfold wrap64; omega) (by unfold wrap64; omega) hmax (by unfold wrap64; omega) (by unfold wrap64; omega) (by unfold wrap64; omega) ⟨hb, decide_eq_false (by omega), rfl⟩ hev).mono ?_
   exact fin
  ·have hbw' : bw = 1 := by
    have := hb53' (by omega)
    have hk : k = 52 := by omega
    rw [← hbw, if_pos]
    rw [hk] at hc2
    omega
   subst hbw'
   have C3 := Lh (fun W => nof 1 (by omega) W)
   refine (Adv (bI := 1) (x4 := ((k + 2 : Nat) : Int)) (x5 := (D : Int) - 1076) (last := (D : Int) - 1074) (x1 := (bln m : Int) + two) (x2 := (bln m : Int) + two - 53) (x3 := (k : Int)) (two := two) (ten := s) hA C1 C2 C3 C4 C5 C6 S1 S2 S3 (by omega) (by omega) (by omega) hM.2 (by unfold wrap64; omega) (by unfold wrap64; omega) hmax (by unfold wrap64; omega) (by unfold wrap64; omega) (by unfold wrap64; omega) ⟨hb, by omega, rfl⟩ hev).mono ?_
   exact fin
end
section
theorem Afv {x : Nat} (h0 : 0 < x) (hx : x < 9218868437227405312) : Bq x = x ∧ Afs x = false := by
 have h1 : Bq x = x := by unfold Bq; omega
 have h2 : Cd x = false := by unfold Cd; rw [show x / 9223372036854775808 % 2 = 0 by omega]; rfl
 refine ⟨h1, ?_⟩
 unfold Afs Ck Fg
 rw [h1, h2, decide_eq_false (by omega), decide_eq_false (by omega)]
 rfl
theorem X9 {x k m : Nat} (h0 : 0 < x) (hx : x < 9218868437227405312) (h : Dh x = 2 ^ (k + 1) * m + 2 ^ k) : PartIs x (2 * m + 1) (Mm x + (k : Nat)) := by
 obtain ⟨p1, p2⟩ := Jf h0
 have hk : k ≤ 52 := by
  have h1 : 2 ^ k < 2 ^ 53 := by omega
  have := (Nat.pow_lt_pow_iff_right (by omega)).1 h1
  omega
 have hc : Dh x = (2 * m + 1) * 2 ^ k := by
  rw [h, Nat.pow_succ]
  grind
 by_cases hq : x / 4503599627370496 = 0
 ·refine ⟨Dh x, 0, k, ?_, p2, .inl rfl, hc, ?_, by omega, by omega, hk⟩
  ·unfold Dh
   rw [if_pos hq]
   omega
  ·unfold Mm
   rw [if_pos hq]
   omega
 ·refine ⟨Dh x, x / 4503599627370496 - 1, k, ?_, p2, .inr ?_, hc, ?_, by omega, by omega, hk⟩
  ·unfold Dh
   rw [if_neg hq]
   omega
  ·unfold Dh
   rw [if_neg hq]
   omega
  ·unfold Mm
   rw [if_neg hq]
   omega
def O5 (x : Nat) (w : World) (e : Ending) (w' : World) : Prop := ∃ m two A n c, e = .returned (.tuple #[.slice A n c, .int .i64 two, .int .i64 0]) ∧ NV w' A n c m ∧ PartIs x m two ∧ Below w.heap.size w w'
theorem PartsP.q {x : Nat} {w w' : World} {e : Ending} (h0 : 0 < x) (hx : x < 9218868437227405312) (h : PartsP x w e w') : O5 x w e w' := by
 obtain ⟨k, m, A, n, c, h1, rfl, ⟨h2, h3, h4⟩, h5⟩ := h
 exact ⟨2 * m + 1, _, A, n, c, rfl, ⟨h2.symm, h3, h4⟩, X9 h0 hx h1, h5⟩
theorem Aab (x : Nat) (w : World) (h0 : 0 < x) (hx : x < 9218868437227405312) (ht : Dl w) : Cp 145 #[.float .f64 x] w (O5 x w) := by
 obtain ⟨h1, h2⟩ := Afv h0 hx
 exact (Aeg x w (by omega) h2 (by omega) ht).mono fun e w' h => h.q h0 hx
theorem Sv (x N : Nat) (w : World) (D : ByteArray) (p : Int)
  (t1 : (FloatKind.f64.format.order x 4845873199050653696 == some .lt) = true)
  (hc : ∀ W : World, (convert 22 40 (.float .f64 x)).run Tryz.prog W = .ok (.int .u64 (N : Int)) W)
  (t2 : (FloatKind.f64.format.order x (floatOfInt FloatKind.f64 (N : Int)) == some .eq) = true)
  (C5 : Hid (∀ W, W = w → Ct 144 #[.int .u64 N, .int .i64 0] (.tuple #[.string D, .int .i64 p]) W)) :
  Ct 116 #[.float .f64 x] (.tuple #[.string D, .int .i64 p]) w := by
 go_enter Tryz.func116, Tryz.ntmps116
 go_wp2_with fail
 refine Bm (C5.out _ rfl) fun w1 b1 => ?_
 go_wp2
 go_ret2
 exact ⟨rfl, b1⟩
def Agv (r : Nat) (n : Int) (k : Nat) (w : World) (e : Ending) (w' : World) : Prop := ∃ (v : Nat) (b : Bool), e = .returned (.tuple #[.int .u64 (v : Int), .bool b]) ∧ (b = true → ∃ c, cnd r n k = some c ∧ v = c * 10 ^ (18 - k)) ∧ (b = false → cnd r n k = none) ∧ Below w.heap.size w w'
def Kl (r : Nat) (w : World) (e : Ending) (w' : World) : Prop := ∃ L p, e = .returned (.tuple #[.string (Ab L), .int .i64 p]) ∧ SQ r L p ∧ Below w.heap.size w w'
def UnitAt (r : Nat) (n : Int) (u : Int) (k : Nat) : Prop := 1 ≤ k ∧ k ≤ 17 ∧ u = ((10 ^ (18 - k) : Nat) : Int) ∧ ∀ j, 1 ≤ j → j < k → cnd r n j = none
theorem UnitAt.next {r k : Nat} {n u : Int} (h : UnitAt r n u k) (hn : cnd r n k = none) (h17 : cnd r n 17 ≠ none) : UnitAt r n (IntKind.u64.wrap (u / 10)) (k + 1) ∧ (IntKind.u64.wrap (u / 10)) = u / 10 := by
 obtain ⟨h1, h2, rfl, h4⟩ := h
 have hk : k ≠ 17 := fun h => h17 (h ▸ hn)
 obtain ⟨i, hi⟩ : ∃ i, 18 - k = i + 1 := ⟨17 - k, by omega⟩
 have e1 : ((10 ^ (18 - k) : Nat) : Int) / 10 = ((10 ^ (18 - (k + 1)) : Nat) : Int) := by
  rw [hi, show 18 - (k + 1) = i by omega, Nat.pow_succ]
  omega
 have hle : 10 ^ (18 - (k + 1)) ≤ 10 ^ 18 := Nat.pow_le_pow_right (by omega) (by omega)
 have e2 : IntKind.u64.wrap (((10 ^ (18 - k) : Nat) : Int) / 10) = ((10 ^ (18 - k) : Nat) : Int) / 10 := by
  rw [e1, IntKind.wrap_u64]
  generalize 10 ^ (18 - (k + 1)) = b at *
  omega
 refine ⟨⟨by omega, by omega, by rw [e2, e1], ?_⟩, e2⟩
 intro j hj1 hj2
 rcases Nat.lt_or_ge j k with h | h
 ·exact h4 j hj1 h
 ·rw [show j = k by omega]
  exact hn
theorem UnitAt.bd {r k : Nat} {n u : Int} (h : UnitAt r n u k) : 0 < u ∧ u ≤ 100000000000000000 := by
 obtain ⟨h1, h2, rfl, h4⟩ := h
 have hle : 10 ^ (18 - k) ≤ 10 ^ 17 := Nat.pow_le_pow_right (by omega) (by omega)
 have := Au (18 - k)
 omega
theorem Ym (x N : Nat) (n s18 m18 : Int) (w : World) (HH LL : Nat) (ex : Bool) (PM : Nat → Prop)
  (t1 : (FloatKind.f64.format.order x 4845873199050653696 == some .lt) = true)
  (hc : ∀ W : World, (convert 22 40 (.float .f64 x)).run Tryz.prog W = .ok (.int .u64 (N : Int)) W)
  (t2 : (FloatKind.f64.format.order x (floatOfInt FloatKind.f64 (N : Int)) == some .eq) = false)
  (h17 : Hid (cnd x n 17 ≠ none)) (k1 : wrap64 (18 - n) = s18) (k2 : wrap64 (n - 18) = m18)
  (C1 : Hid (∀ W, W = w → Cp 145 #[.float .f64 x] W (O5 x W)))
  (C2 : Hid (∀ W A c0 n0 m two, NV W A n0 c0 m → PartIs x m two → Ct 146 #[.slice A n0 c0, .int .i64 two] (.int .i64 n) W))
  (C3 : Hid (∀ W A c0 n0 m two, NV W A n0 c0 m → PartIs x m two → Cp 147 #[.slice A n0 c0, .int .i64 two, .int .i64 s18] W fun e w' => ∃ M : Nat, e = .returned (.agg #[.int .u64 (HH : Nat), .bool ex, .int .u64 (LL : Nat), .int .u64 M]) ∧ PM M ∧ Below W.heap.size W w'))
  (C4 : Hid (∀ W M u k, PM M → UnitAt x n u k → Cp 148 #[.agg #[.int .u64 (HH : Nat), .bool ex, .int .u64 (LL : Nat), .int .u64 M], .int .u64 u] W (Agv x n k W)))
  (C5 : Hid (∀ W u k c, Below w.heap.size w W → UnitAt x n u k → cnd x n k = some c → Cp 144 #[.int .u64 ((c * 10 ^ (18 - k) : Nat) : Int), .int .i64 m18] W (Kl x W))) :
  Cp 116 #[.float .f64 x] w (Kl x w) := by
 go_enter Tryz.func116, Tryz.ntmps116
 go_wp2_with fail
 refine (C1.out _ rfl).mono ?_
 rintro e w1 ⟨m, two, A, n0, c0, rfl, g1, hp, b1⟩
 have G1 := Lh g1
 have HP := Lh hp
 have B1 := Lh b1
 clear g1 hp b1
 go_wp2_with fail
 refine Bm (C2.out _ _ _ _ _ _ G1.out HP.out) fun w2 b2 => ?_
 have G2 := Lh (G1.out.step b2)
 have B2 := Lh (Aa B1.out b2)
 clear b2
 go_wp2_with fail
 refine (C3.out _ _ _ _ _ _ G2.out HP.out).mono ?_
 rintro e w3 ⟨M, rfl, hM, b3⟩
 have HM := Lh hM
 have B3 := Lh (Aa B2.out b3)
 clear b3 hM
 go_wp2_with fail
 have B4 := Lh (Fd (.cells #[.int .u64 (HH : Nat), .bool ex, .int .u64 (LL : Nat), .int .u64 M] 139) B3.out)
 have R4 := Lh (show Rv (w3.alloc (.cells #[.int .u64 (HH : Nat), .bool ex, .int .u64 (LL : Nat), .int .u64 M] 139)) w3.heap.size #[.int .u64 (HH : Nat), .bool ex, .int .u64 (LL : Nat), .int .u64 M] from heap_alloc_last w3 _)
 have S4 := Lh (show w3.heap.size < (w3.alloc (.cells #[.int .u64 (HH : Nat), .bool ex, .int .u64 (LL : Nat), .int .u64 M] 139)).heap.size from by simp)
 have N4 := Lh (show UnitAt x n 100000000000000000 1 from ⟨by omega, by omega, rfl, fun j h1 h2 => by omega⟩)
 obtain ⟨gb, hgb⟩ : ∃ gb, w3.heap.size = gb := ⟨_, rfl⟩
 rw [hgb] at R4 S4 ⊢
 clear hgb
 generalize w3.alloc (.cells #[.int .u64 (HH : Nat), .bool ex, .int .u64 (LL : Nat), .int .u64 M] 139) = w4 at *
 go_loopw [9] (fun u wr => ∃ (v : Int) (k : Nat), u = .int .u64 v ∧ Hid (UnitAt x n v k) ∧ Hid (Rv wr gb #[.int .u64 (HH : Nat), .bool ex, .int .u64 (LL : Nat), .int .u64 M]) ∧ Hid (Below w.heap.size w wr) ∧ Hid (gb < wr.heap.size)) (fun u _ => (intOf u).toNat)
 case atStart => exact ⟨_, 1, rfl, N4, R4, B4, S4⟩
 case round =>
  obtain ⟨v, k, rfl, NK, R5, B5, S5⟩ := hrel
  obtain ⟨v0, v1⟩ := NK.out.bd
  have d0 : wr.cell? ⟨gb, 0, none⟩ = some (.int .u64 (HH : Nat)) := cell_of_row wr gb 0 _ 139 (0, 0) R5.out
  have d1 : wr.cell? ⟨gb, 1, none⟩ = some (.bool ex) := cell_of_row wr gb 1 _ 139 (0, 0) R5.out
  have d2 : wr.cell? ⟨gb, 2, none⟩ = some (.int .u64 (LL : Nat)) := cell_of_row wr gb 2 _ 139 (0, 0) R5.out
  have d3 : wr.cell? ⟨gb, 3, none⟩ = some (.int .u64 M) := cell_of_row wr gb 3 _ 139 (0, 0) R5.out
  go_wp2_with fail
  refine (C4.out _ _ _ _ HM.out NK.out).mono ?_
  rintro e w6 ⟨v', b, rfl, hb1, hb0, b6⟩
  have HB1 := Lh hb1
  have HB0 := Lh hb0
  have B6 := Lh (Aa B5.out b6)
  have R6 := Lh (show Rv w6 gb _ from (b6.block _ S5.out).trans R5.out)
  have S6 := Lh (Nat.lt_of_lt_of_le S5.out b6.size)
  clear hb1 hb0 b6 d0 d1 d2 d3
  cases b
  ·have hn := HB0.out rfl
   obtain ⟨u1, u2⟩ := NK.out.next hn h17.out
   rw [u2] at u1
   have NN := Lh u1
   clear hn u1 u2
   go_wp2
   go_roundw
   case rel => exact ⟨_, k + 1, rfl, NN, R6, B6, S6⟩
   case measure => simp [intOf]; omega
  ·obtain ⟨c, hc, rfl⟩ := HB1.out rfl
   have HC := Lh hc
   clear hc
   go_wp2_with fail
   refine (C5.out _ _ _ _ B6.out NK.out HC.out).mono ?_
   rintro e w7 ⟨L, p, rfl, hq, b7⟩
   have HQ := Lh hq
   have B7 := Lh (Aa B6.out b7)
   clear hq b7
   go_wp2
   go_ret2
   exact ⟨L, p, rfl, HQ.out, B7.out⟩
theorem Wa (x : Nat) (n s18 m18 : Int) (w : World) (HH LL : Nat) (ex : Bool) (PM : Nat → Prop)
  (t1 : (FloatKind.f64.format.order x 4845873199050653696 == some .lt) = false)
  (h17 : Hid (cnd x n 17 ≠ none)) (k1 : wrap64 (18 - n) = s18) (k2 : wrap64 (n - 18) = m18)
  (C1 : Hid (∀ W, W = w → Cp 145 #[.float .f64 x] W (O5 x W)))
  (C2 : Hid (∀ W A c0 n0 m two, NV W A n0 c0 m → PartIs x m two → Ct 146 #[.slice A n0 c0, .int .i64 two] (.int .i64 n) W))
  (C3 : Hid (∀ W A c0 n0 m two, NV W A n0 c0 m → PartIs x m two → Cp 147 #[.slice A n0 c0, .int .i64 two, .int .i64 s18] W fun e w' => ∃ M : Nat, e = .returned (.agg #[.int .u64 (HH : Nat), .bool ex, .int .u64 (LL : Nat), .int .u64 M]) ∧ PM M ∧ Below W.heap.size W w'))
  (C4 : Hid (∀ W M u k, PM M → UnitAt x n u k → Cp 148 #[.agg #[.int .u64 (HH : Nat), .bool ex, .int .u64 (LL : Nat), .int .u64 M], .int .u64 u] W (Agv x n k W)))
  (C5 : Hid (∀ W u k c, Below w.heap.size w W → UnitAt x n u k → cnd x n k = some c → Cp 144 #[.int .u64 ((c * 10 ^ (18 - k) : Nat) : Int), .int .i64 m18] W (Kl x W))) :
  Cp 116 #[.float .f64 x] w (Kl x w) := by
 go_enter Tryz.func116, Tryz.ntmps116
 go_wp2_with fail
 refine (C1.out _ rfl).mono ?_
 rintro e w1 ⟨m, two, A, n0, c0, rfl, g1, hp, b1⟩
 have G1 := Lh g1
 have HP := Lh hp
 have B1 := Lh b1
 clear g1 hp b1
 go_wp2_with fail
 refine Bm (C2.out _ _ _ _ _ _ G1.out HP.out) fun w2 b2 => ?_
 have G2 := Lh (G1.out.step b2)
 have B2 := Lh (Aa B1.out b2)
 clear b2
 go_wp2_with fail
 refine (C3.out _ _ _ _ _ _ G2.out HP.out).mono ?_
 rintro e w3 ⟨M, rfl, hM, b3⟩
 have HM := Lh hM
 have B3 := Lh (Aa B2.out b3)
 clear b3 hM
 go_wp2_with fail
 have B4 := Lh (Fd (.cells #[.int .u64 (HH : Nat), .bool ex, .int .u64 (LL : Nat), .int .u64 M] 139) B3.out)
 have R4 := Lh (show Rv (w3.alloc (.cells #[.int .u64 (HH : Nat), .bool ex, .int .u64 (LL : Nat), .int .u64 M] 139)) w3.heap.size #[.int .u64 (HH : Nat), .bool ex, .int .u64 (LL : Nat), .int .u64 M] from heap_alloc_last w3 _)
 have S4 := Lh (show w3.heap.size < (w3.alloc (.cells #[.int .u64 (HH : Nat), .bool ex, .int .u64 (LL : Nat), .int .u64 M] 139)).heap.size from by simp)
 have N4 := Lh (show UnitAt x n 100000000000000000 1 from ⟨by omega, by omega, rfl, fun j h1 h2 => by omega⟩)
 obtain ⟨gb, hgb⟩ : ∃ gb, w3.heap.size = gb := ⟨_, rfl⟩
 rw [hgb] at R4 S4 ⊢
 clear hgb
 generalize w3.alloc (.cells #[.int .u64 (HH : Nat), .bool ex, .int .u64 (LL : Nat), .int .u64 M] 139) = w4 at *
 go_loopw [9] (fun u wr => ∃ (v : Int) (k : Nat), u = .int .u64 v ∧ Hid (UnitAt x n v k) ∧ Hid (Rv wr gb #[.int .u64 (HH : Nat), .bool ex, .int .u64 (LL : Nat), .int .u64 M]) ∧ Hid (Below w.heap.size w wr) ∧ Hid (gb < wr.heap.size)) (fun u _ => (intOf u).toNat)
 case atStart => exact ⟨_, 1, rfl, N4, R4, B4, S4⟩
 case round =>
  obtain ⟨v, k, rfl, NK, R5, B5, S5⟩ := hrel
  obtain ⟨v0, v1⟩ := NK.out.bd
  have d0 : wr.cell? ⟨gb, 0, none⟩ = some (.int .u64 (HH : Nat)) := cell_of_row wr gb 0 _ 139 (0, 0) R5.out
  have d1 : wr.cell? ⟨gb, 1, none⟩ = some (.bool ex) := cell_of_row wr gb 1 _ 139 (0, 0) R5.out
  have d2 : wr.cell? ⟨gb, 2, none⟩ = some (.int .u64 (LL : Nat)) := cell_of_row wr gb 2 _ 139 (0, 0) R5.out
  have d3 : wr.cell? ⟨gb, 3, none⟩ = some (.int .u64 M) := cell_of_row wr gb 3 _ 139 (0, 0) R5.out
  go_wp2_with fail
  refine (C4.out _ _ _ _ HM.out NK.out).mono ?_
  rintro e w6 ⟨v', b, rfl, hb1, hb0, b6⟩
  have HB1 := Lh hb1
  have HB0 := Lh hb0
  have B6 := Lh (Aa B5.out b6)
  have R6 := Lh (show Rv w6 gb _ from (b6.block _ S5.out).trans R5.out)
  have S6 := Lh (Nat.lt_of_lt_of_le S5.out b6.size)
  clear hb1 hb0 b6 d0 d1 d2 d3
  cases b
  ·have hn := HB0.out rfl
   obtain ⟨u1, u2⟩ := NK.out.next hn h17.out
   rw [u2] at u1
   have NN := Lh u1
   clear hn u1 u2
   go_wp2
   go_roundw
   case rel => exact ⟨_, k + 1, rfl, NN, R6, B6, S6⟩
   case measure => simp [intOf]; omega
  ·obtain ⟨c, hc, rfl⟩ := HB1.out rfl
   have HC := Lh hc
   clear hc
   go_wp2_with fail
   refine (C5.out _ _ _ _ B6.out NK.out HC.out).mono ?_
   rintro e w7 ⟨L, p, rfl, hq, b7⟩
   have HQ := Lh hq
   have B7 := Lh (Aa B6.out b7)
   clear hq b7
   go_wp2
   go_ret2
   exact ⟨L, p, rfl, HQ.out, B7.out⟩
end
section
theorem Pn {r m : Nat} {two : Int} (h : PartIs r m two) : ∃ p : Int, Cj (Ac r) big p ∧ -345 ≤ p ∧ p ≤ 335 := by
 obtain ⟨q1, q2, q3, q4, q5, q6⟩ := h.pos
 have hx := Ahj h
 obtain ⟨u1, u2, u3⟩ := Be q1
 obtain ⟨k, hk⟩ : ∃ k, bln m = k + 1 := ⟨bln m - 1, by omega⟩
 rw [hk] at u1 u2 q2 q3 q4
 rw [Nat.add_sub_cancel] at u1
 obtain ⟨e, he⟩ : ∃ e, (k : Int) + two = e := ⟨_, rfl⟩
 obtain ⟨l1, l2⟩ := Aa2 u1 u2 he
 obtain ⟨p1, p2⟩ := Xl (u := m * 2 ^ two.toNat) (v := 2 ^ (-two).toNat) (e := e) (Az _) (by omega) (by omega) l1 l2
 obtain ⟨n1, hn1⟩ : ∃ n1, lg2 e + 1 = n1 := ⟨_, rfl⟩
 have b1 : -345 ≤ n1 ∧ n1 ≤ 333 := by unfold lg2 at hn1; omega
 rw [hn1] at p1 p2
 rw [show lg2 e + 2 = n1 + 1 by omega] at p2
 by_cases hh : Fk n1 (m * 2 ^ two.toNat) (2 ^ (-two).toNat)
 ·exact ⟨n1 + 1, Ht (Az _) Fo hx (p2 hh), by omega, by omega⟩
 ·exact ⟨n1, Ht (Az _) Fo hx (p1 hh), by omega, by omega⟩
theorem Ad5 {w : World} {A : Option Addr} {n0 c0 r m : Nat} {two n : Int} (hA : NV w A n0 c0 m) (h : PartIs r m two) (hp : Cj (Ac r) big n) :
  Ct 146 #[.slice A n0 c0, .int .i64 two] (.int .i64 n) w := by
 obtain ⟨q1, q2, q3, q4, q5, q6⟩ := h.pos
 obtain ⟨p, p1, p2, p3, hc⟩ := Yr two hA q1 (by omega) (by omega) (by omega)
 have := K9 (Ht (Az _) Fo (Ahj h) p1) hp
 subst this
 exact hc
theorem T5 {x : Nat} (h0 : 0 < x) (hx : x < 9218868437227405312) : ∃ m two, PartIs x m two := by
 obtain ⟨k, m, h⟩ := W7 _ (Jf h0).1
 exact ⟨_, _, X9 h0 hx h⟩
theorem Amz (N : Nat) : floatOfInt FloatKind.f64 (N : Int) = fl N := rfl
theorem Gi {w w' : World} (h : Dl w) (hb : Below w.heap.size w w') : Dl w' := by
 intro i hi
 have h1 := h i hi
 have hlt : 3 < w.heap.size := by
  rcases Nat.lt_or_ge 3 w.heap.size with h2 | h2
  ·exact h2
  ·rw [World.cell?, Array.getElem?_eq_none h2] at h1
   cases h1
 rw [hb.cell (p := ⟨3, i, none⟩) hlt]
 exact h1
theorem Qc (x : Nat) (w : World) (h0 : 0 < x) (hx : x < 9218868437227405312) (ht : Tab10 w) (hz : Dl w) : Cp 116 #[.float .f64 x] w (Kl x w) := by
 obtain ⟨m0, two0, hp0⟩ := T5 h0 hx
 obtain ⟨n, hn, n1, n2⟩ := Pn hp0
 have h17 := Lh (Ve hn h0 hx)
 obtain ⟨T, hT⟩ : ∃ T, Ac x / big = T := ⟨_, rfl⟩
 have C1 : Hid (∀ W, W = w → Cp 145 #[.float .f64 x] W (O5 x W)) := Lh (fun W (h : W = w) => by
  subst h
  exact Aab x W h0 hx hz)
 have C2 := Lh (fun W A c0 n0 m two (h : NV W A n0 c0 m) (hp : PartIs x m two) => Ad5 h hp hn)
 have C3 : Hid (∀ W A c0 n0 m two, NV W A n0 c0 m → PartIs x m two → Cp 147 #[.slice A n0 c0, .int .i64 two, .int .i64 (18 - n)] W fun e w' => ∃ M : Nat, e = .returned (.agg #[.int .u64 ((vU x (18 - n) / vV (18 - n) : Nat) : Int), .bool (decide (vU x (18 - n) % vV (18 - n) = 0)), .int .u64 ((Cz (vV (18 - n)) (10 ^ ((18 : Int) - n).toNat) x : Nat) : Int), .int .u64 M]) ∧ (∀ c, c ≤ M ↔ Ea (vV (18 - n)) (10 ^ ((18 : Int) - n).toNat) x c) ∧ Below W.heap.size W w') :=
  Lh (fun W A c0 n0 m two h hp => Adq h hp h0 hn n1 n2)
 obtain ⟨hH, _⟩ := Na hn
 have C4 : Hid (∀ W M u k, (∀ c, c ≤ M ↔ Ea (vV (18 - n)) (10 ^ ((18 : Int) - n).toNat) x c) → UnitAt x n u k → Cp 148 #[.agg #[.int .u64 ((vU x (18 - n) / vV (18 - n) : Nat) : Int), .bool (decide (vU x (18 - n) % vV (18 - n) = 0)), .int .u64 ((Cz (vV (18 - n)) (10 ^ ((18 : Int) - n).toNat) x : Nat) : Int), .int .u64 M], .int .u64 u] W (Agv x n k W)) :=
  Lh (fun W M u k hM hu => by
   obtain ⟨b1, b2⟩ := hu.bd
   obtain ⟨k1, k2, rfl, _⟩ := hu
   refine (Ac0 _ _ M (10 ^ (18 - k)) _ W (Au _) (by omega)).mono ?_
   rintro e w' ⟨rfl, hw⟩
   rw [Akw (k := k) (i := 18 - k) (by omega) (by omega) h0 hx hM]
   unfold Amu
   refine ⟨_, _, rfl, ?_, ?_, hw⟩
   ·intro h
    cases hc : cnd x n k with
    | none => rw [hc] at h; cases h
    | some c => exact ⟨c, rfl, rfl⟩
   ·intro h
    cases hc : cnd x n k with
    | none => rfl
    | some c => rw [hc] at h; cases h)
 have C5 : Hid (∀ W u k c, Below w.heap.size w W → UnitAt x n u k → cnd x n k = some c → Cp 144 #[.int .u64 ((c * 10 ^ (18 - k) : Nat) : Int), .int .i64 (n - 18)] W (Kl x W)) :=
  Lh (fun W u k c hW hu hc => by
   obtain ⟨k1, k2, _, k4⟩ := hu
   have hl := Ns hn k1 k4 hc
   have hlt : c * 10 ^ (18 - k) < 10 ^ 19 := by
    have h10 : c ≤ 10 ^ k := by
     rcases hl with ⟨_, _, h⟩ | ⟨h1, h2⟩
     ·omega
     ·rw [h1, h2]; omega
    have h1 : c * 10 ^ (18 - k) ≤ 10 ^ k * 10 ^ (18 - k) := Nat.mul_le_mul_right _ h10
    rw [← Nat.pow_add, show k + (18 - k) = 18 by omega] at h1
    omega
   refine (Jr (c * 10 ^ (18 - k)) (n - 18) W (by omega) (by omega) (by omega) (ht.on hW)).mono ?_
   rintro e w' ⟨rfl, hw⟩
   have hc0 : 0 < c := by
    rcases hl with ⟨h, _⟩ | ⟨_, h⟩ <;> omega
   rw [Kf hc0, Tt, List.length_append, List.length_replicate]
   refine ⟨_, _, rfl, ⟨n, k, c, hn, k1, k2, k4, hc, rfl, ?_⟩, hw⟩
   omega)
 rcases Nat.lt_or_ge x 4845873199050653696 with hlt | hge
 ·have hTl := Ai5 hlt
  rw [hT] at hTl
  have t1 : (FloatKind.f64.format.order x 4845873199050653696 == some .lt) = true := by rw [O2 (by omega) (by omega)]; exact decide_eq_true hlt
  have hcv := fun W => Af8 hx hT (by omega) W
  have heq := Vi (x := x) hx hTl
  rw [← Amz] at heq
  by_cases hw : Ac x = T * big
  ·rw [decide_eq_true hw] at heq
   have hT0 : 0 < T := by
    rcases Nat.eq_zero_or_pos T with h | h
    ·rw [h, Nat.zero_mul] at hw
     have := F3.2 h0
     omega
    ·exact h
   refine (Sv x T w _ _ t1 hcv heq (Lh fun W h => by
    subst h
    exact Jr T 0 W (by omega) (by omega) (by omega) ht)).mono ?_
   rintro e w' ⟨rfl, hb⟩
   refine ⟨_, _, rfl, ?_, hb⟩
   have := Ago hT0 hTl hx hw
   rw [Int.add_zero]
   exact this
  ·rw [decide_eq_false hw] at heq
   exact Ym x T n _ _ w _ _ _ _ t1 hcv heq h17 (by unfold wrap64; omega) (by unfold wrap64; omega) C1 C2 C3 C4 C5
 ·have t1 : (FloatKind.f64.format.order x 4845873199050653696 == some .lt) = false := by rw [O2 (by omega) (by omega)]; exact decide_eq_false (by omega)
  exact Wa x n _ _ w _ _ _ _ t1 h17 (by unfold wrap64; omega) (by unfold wrap64; omega) C1 C2 C3 C4 C5
end
section
theorem Qb (x : Nat) (f : FuncId) (F : ByteArray) (w : World) (t0 : (FloatKind.f64.format.order x 0 == some .lt) = false)
  (CN : Hid (∀ W, Cq 41 #[.float .f64 x] (.bool true) W))
  (CW : Hid (∀ W, Ct 52 #[.string ⟨#[78, 97, 78]⟩] (.string F) W)) :
  Ct 83 #[.float .f64 x, .func (Fn.func f) #[] #[]] (.string F) w := by
 go_enter Tryz.func83, Tryz.ntmps83
 go_wp2_with fail
 refine Sm (CN.out _) ?_
 go_wp2_with fail
 refine Bm (CW.out _) fun w2 b2 => ?_
 have B2 := Lh (Aa (Below.refl _ _) b2)
 clear b2
 go_wp2
 go_ret
 exact ⟨rfl, B2.out⟩
theorem Qj (x : Nat) (f : FuncId) (F : ByteArray) (w : World) (t0 : (FloatKind.f64.format.order x 0 == some .lt) = false)
  (CN : Hid (∀ W, Cq 41 #[.float .f64 x] (.bool false) W))
  (CI : Hid (∀ W, Cq 114 #[.float .f64 x, .int .i64 0] (.bool true) W))
  (CW : Hid (∀ W, Ct 52 #[.string ⟨#[73, 110, 102, 105, 110, 105, 116, 121]⟩] (.string F) W)) :
  Ct 83 #[.float .f64 x, .func (Fn.func f) #[] #[]] (.string F) w := by
 go_enter Tryz.func83, Tryz.ntmps83
 go_wp2_with fail
 refine Sm (CN.out _) ?_
 go_wp2_with fail
 refine Sm (CI.out _) ?_
 go_wp2_with fail
 refine Bm (CW.out _) fun w2 b2 => ?_
 have B2 := Lh (Aa (Below.refl _ _) b2)
 clear b2
 go_wp2
 go_ret
 exact ⟨rfl, B2.out⟩
theorem Qk (x : Nat) (f : FuncId) (R S : ByteArray) (r : Nat) (F : ByteArray) (w : World) (t0 : (FloatKind.f64.format.order x 0 == some .lt) = false)
  (CN : Hid (∀ W, Cq 41 #[.float .f64 x] (.bool false) W))
  (CI : Hid (∀ W, Cq 114 #[.float .f64 x, .int .i64 0] (.bool false) W))
  (CA : Hid (∀ W, Cq 115 #[.float .f64 x] (.float .f64 r) W))
  (he : ∀ args (W : World), (callFunc f args).run Tryz.prog W = .ok (.enter f args) W)
  (CT : Hid (∀ W, W = w → Ct f #[.float .f64 r] (.string R) W))
  (hR : Hid (R.size ≤ 1000000)) (hS : ⟨#[]⟩ ++ R = S)
  (CW : Hid (∀ W, Ct 52 #[.string S] (.string F) W)) :
  Ct 83 #[.float .f64 x, .func (Fn.func f) #[] #[]] (.string F) w := by
 have g1 : ¬ 9223372036854775807 < R.size := by have := hR.out; omega
 go_enter Tryz.func83, Tryz.ntmps83
 go_wp2_with fail
 refine Sm (CN.out _) ?_
 go_wp2_with fail
 refine Sm (CI.out _) ?_
 go_wp2_with fail
 refine Sm (CA.out _) ?_
 go_wp2_with fail
 refine Bm (CT.out _ rfl) fun w1 b1 => ?_
 have B1 := Lh b1
 clear b1
 go_wp2_with fail
 refine Bm (CW.out _) fun w2 b2 => ?_
 have B2 := Lh (Aa B1.out b2)
 clear b2
 go_wp2
 go_ret
 exact ⟨rfl, B2.out⟩
theorem Qz (x : Nat) (f : FuncId) (F : ByteArray) (w : World) (t0 : (FloatKind.f64.format.order x 0 == some .lt) = true)
  (CN : Hid (∀ W, Cq 41 #[.float .f64 x] (.bool false) W))
  (CI : Hid (∀ W, Cq 114 #[.float .f64 x, .int .i64 0] (.bool true) W))
  (CW : Hid (∀ W, Ct 52 #[.string ⟨#[45, 73, 110, 102, 105, 110, 105, 116, 121]⟩] (.string F) W)) :
  Ct 83 #[.float .f64 x, .func (Fn.func f) #[] #[]] (.string F) w := by
 go_enter Tryz.func83, Tryz.ntmps83
 go_wp2_with fail
 refine Sm (CN.out _) ?_
 go_wp2_with fail
 refine Sm (CI.out _) ?_
 go_wp2_with fail
 refine Bm (CW.out _) fun w2 b2 => ?_
 have B2 := Lh (Aa (Below.refl _ _) b2)
 clear b2
 go_wp2
 go_ret
 exact ⟨rfl, B2.out⟩
theorem Qu (x : Nat) (f : FuncId) (R S : ByteArray) (r : Nat) (F : ByteArray) (w : World) (t0 : (FloatKind.f64.format.order x 0 == some .lt) = true)
  (CN : Hid (∀ W, Cq 41 #[.float .f64 x] (.bool false) W))
  (CI : Hid (∀ W, Cq 114 #[.float .f64 x, .int .i64 0] (.bool false) W))
  (CA : Hid (∀ W, Cq 115 #[.float .f64 x] (.float .f64 r) W))
  (he : ∀ args (W : World), (callFunc f args).run Tryz.prog W = .ok (.enter f args) W)
  (CT : Hid (∀ W, W = w → Ct f #[.float .f64 r] (.string R) W))
  (hR : Hid (R.size ≤ 1000000)) (hS : ⟨#[45]⟩ ++ R = S)
  (CW : Hid (∀ W, Ct 52 #[.string S] (.string F) W)) :
  Ct 83 #[.float .f64 x, .func (Fn.func f) #[] #[]] (.string F) w := by
 have g1 : ¬ 9223372036854775807 < 1 + R.size := by have := hR.out; omega
 go_enter Tryz.func83, Tryz.ntmps83
 go_wp2_with fail
 refine Sm (CN.out _) ?_
 go_wp2_with fail
 refine Sm (CI.out _) ?_
 go_wp2_with fail
 refine Sm (CA.out _) ?_
 go_wp2_with fail
 refine Bm (CT.out _ rfl) fun w1 b1 => ?_
 have B1 := Lh b1
 clear b1
 go_wp2_with fail
 refine Bm (CW.out _) fun w2 b2 => ?_
 have B2 := Lh (Aa B1.out b2)
 clear b2
 go_wp2
 go_ret
 exact ⟨rfl, B2.out⟩
end
section
theorem Yd (x : Nat) (w : World) (t0 : (FloatKind.f64.format.order x 0 == some .eq) = true) : Cq 84 #[.float .f64 x] (.string ⟨#[48]⟩) w := by
 go_enter Tryz.func84, Tryz.ntmps84
 go_wp2
 go_ret
 exact ⟨rfl, rfl⟩
theorem Yz (x : Nat) (N : Int) (S F : ByteArray) (w : World) (t0 : (FloatKind.f64.format.order x 0 == some .eq) = false) (b1 : -1000 ≤ N) (b2 : N ≤ 1000) (h1 : N ≤ -6)
  (CS : Hid (∀ W, Below w.heap.size w W → Ct 117 #[.string S, .int .i64 (N - 1)] (.string F) W))
  (C : Hid (∀ W, W = w → Ct 116 #[.float .f64 x] (.tuple #[.string S, .int .i64 N]) W)) :
  Ct 84 #[.float .f64 x] (.string F) w := by
 go_enter Tryz.func84, Tryz.ntmps84
 go_wp2_with fail
 refine (C.out _ rfl).mono ?_
 rintro e w1 ⟨rfl, b1'⟩
 have B1 := Lh b1'
 clear b1'
 go_wp2_with fail
 refine (CS.out _ B1.out).mono ?_
 rintro e w2 ⟨rfl, b2'⟩
 have B2 := Lh (Aa B1.out b2')
 clear b2'
 go_wp2
 go_ret
 exact ⟨rfl, B2.out⟩
theorem Vo (x : Nat) (N : Int) (S F : ByteArray) (w : World) (t0 : (FloatKind.f64.format.order x 0 == some .eq) = false) (b1 : -1000 ≤ N) (b2 : N ≤ 1000) (h1 : 21 < N)
  (CS : Hid (∀ W, Below w.heap.size w W → Ct 117 #[.string S, .int .i64 (N - 1)] (.string F) W))
  (C : Hid (∀ W, W = w → Ct 116 #[.float .f64 x] (.tuple #[.string S, .int .i64 N]) W)) :
  Ct 84 #[.float .f64 x] (.string F) w := by
 have h2 : ¬ N ≤ -6 := by omega
 go_enter Tryz.func84, Tryz.ntmps84
 go_wp2_with fail
 refine (C.out _ rfl).mono ?_
 rintro e w1 ⟨rfl, b1'⟩
 have B1 := Lh b1'
 clear b1'
 go_wp2_with fail
 refine (CS.out _ B1.out).mono ?_
 rintro e w2 ⟨rfl, b2'⟩
 have B2 := Lh (Aa B1.out b2')
 clear b2'
 go_wp2
 go_ret
 exact ⟨rfl, B2.out⟩
theorem Ul (x : Nat) (N : Int) (n z : Nat) (S F : ByteArray) (w : World) (t0 : (FloatKind.f64.format.order x 0 == some .eq) = false) (b1 : -1000 ≤ N) (b2 : N ≤ 1000) (h1 : -6 < N) (h2 : N ≤ 21) (hn : S.size = n) (h3 : (n : Int) ≤ N) (hz : N - (n : Int) = (z : Int)) (Z : ByteArray) (hZ : Hid (Z.size ≤ 1000)) (hF : S ++ Z = F)
  (CR : Hid (∀ W, Ct 118 #[.string ⟨#[48]⟩, .int .i64 z] (.string Z) W))
  (C : Hid (∀ W, W = w → Ct 116 #[.float .f64 x] (.tuple #[.string S, .int .i64 N]) W)) :
  Ct 84 #[.float .f64 x] (.string F) w := by
 have h4 : ¬ N ≤ -6 := by omega
 have h5 : ¬ 21 < N := by omega
 have h6 : 0 ≤ (n : Int) := by omega
 have g1 : ¬ 9223372036854775807 < n + Z.size := by have := hZ.out; omega
 have hzz := Lh hz
 go_enter Tryz.func84, Tryz.ntmps84
 go_wp2_with fail
 refine (C.out _ rfl).mono ?_
 rintro e w1 ⟨rfl, b1'⟩
 have B1 := Lh b1'
 clear b1'
 go_wp2_with fail
 refine (CR.out _).mono ?_
 rintro e w2 ⟨rfl, b2'⟩
 have B2 := Lh (Aa B1.out b2')
 clear b2'
 go_wp2
 go_ret
 exact ⟨rfl, B2.out⟩
theorem Sr (x : Nat) (N : Int) (n z : Nat) (S F : ByteArray) (w : World) (t0 : (FloatKind.f64.format.order x 0 == some .eq) = false) (b1 : -1000 ≤ N) (b2 : N ≤ 1000) (h1 : -6 < N) (h2 : N ≤ 21) (hn : S.size = n) (h3 : N < (n : Int)) (hn2 : (n : Int) ≤ 1000) (hz : (n : Int) - N = (z : Int))
  (CP : Hid (∀ W, Ct 119 #[.string S, .int .i64 z] (.string F) W))
  (C : Hid (∀ W, W = w → Ct 116 #[.float .f64 x] (.tuple #[.string S, .int .i64 N]) W)) :
  Ct 84 #[.float .f64 x] (.string F) w := by
 have h4 : ¬ N ≤ -6 := by omega
 have h5 : ¬ 21 < N := by omega
 have h7 : ¬ (n : Int) ≤ N := by omega
 go_enter Tryz.func84, Tryz.ntmps84
 go_wp2_with fail
 refine (C.out _ rfl).mono ?_
 rintro e w1 ⟨rfl, b1'⟩
 have B1 := Lh b1'
 clear b1'
 go_wp2_with fail
 refine (CP.out _).mono ?_
 rintro e w2 ⟨rfl, b2'⟩
 have B2 := Lh (Aa B1.out b2')
 clear b2'
 go_wp2
 go_ret
 exact ⟨rfl, B2.out⟩
end
section
theorem SQ.form {r : Nat} {D : List Nat} {N : Int} (h : SQ r D N) : ∃ d, d % 10 ≠ 0 ∧ D = dL d ∧ D.length ≤ 17 ∧ Bp d (N - D.length) = r := by
 obtain ⟨n, k, c, h1, h2, h3, h4, h5, h6, h7⟩ := h
 have hd := (Yo h5).2
 rcases Ns h1 h2 h4 h5 with ⟨g1, g2, g3⟩ | ⟨g1, g2⟩
 ·obtain ⟨j, rfl⟩ : ∃ j, k = j + 1 := ⟨k - 1, by omega⟩
  have hl := An3 (n := c) (k := j) g2 g3
  have e := Td g1
  rw [e] at h6
  refine ⟨c, g1, h6, by rw [h6, hl]; exact h3, ?_⟩
  rw [h6, h7, show ((dL c).length : Int) + n - ((j + 1 : Nat) : Int) - ((dL c).length : Int) = n - ((j + 1 : Nat) : Int) by omega]
  exact hd
 ·subst g1 g2
  have e : dL 10 = [49, 48] := by rw [Jh (by omega), Ei (by omega)]; rfl
  have e1 : dL 1 = [49] := Ei (by omega)
  have h8 := D0 1 1 (n - 1)
  rw [show 1 * 10 ^ 1 = 10 from rfl, show n - 1 + ((1 : Nat) : Int) = n by omega] at h8
  rw [e] at h6 h7
  have h9 : D = [49] := h6
  refine ⟨1, by omega, by rw [h9, e1], by rw [h9]; simp, ?_⟩
  rw [h9, h7, show (([49, 48] : List Nat).length : Int) + n - ((1 : Nat) : Int) - (([49] : List Nat).length : Int) = n by simp; omega]
  rw [← h8]
  exact hd
theorem SQ.bd {r : Nat} {D : List Nat} {N : Int} (h : SQ r D N) (h0 : 0 < r) (hr : r < 9218868437227405312) : -400 ≤ N ∧ N ≤ 400 ∧ 1 ≤ D.length ∧ D.length ≤ 17 ∧ (∀ c ∈ D, c < 256) := by
 obtain ⟨d, _, hD, hl, _⟩ := h.form
 obtain ⟨n, k, c, h1, h2, h3, h4, h5, h6, h7⟩ := h
 obtain ⟨m, two, hp⟩ := T5 h0 hr
 obtain ⟨p, p1, p2, p3⟩ := Pn hp
 have := K9 h1 p1
 subst this
 have hc : (dL c).length ≤ 18 ∧ 1 ≤ (dL c).length := by
  refine ⟨?_, Zt c⟩
  have hlt : c < 10 ^ 18 := by
   rcases Ns h1 h2 h4 h5 with ⟨_, _, g⟩ | ⟨_, g⟩
   ·have := Nat.pow_le_pow_right (n := 10) (by omega) (show k ≤ 18 by omega)
    omega
   ·omega
  exact Aia hlt (by omega)
 refine ⟨by omega, by omega, ?_, hl, ?_⟩
 ·rw [hD]; exact Zt d
 ·intro x hx
  rw [hD] at hx
  have := Bs.1 (P6 d x hx)
  omega
theorem Aoh {r : Nat} (h0 : 0 < r) (hr : r < 9218868437227405312) : ∃ D N, SQ r D N := by
 obtain ⟨m, two, hp⟩ := T5 h0 hr
 obtain ⟨n, hn, _, _⟩ := Pn hp
 have h17 := Ve hn h0 hr
 have key : ∀ i, i ≤ 16 → (∀ j, 1 ≤ j → j < 17 - i → cnd r n j = none) → ∃ k, 1 ≤ k ∧ k ≤ 17 ∧ (∀ j, 1 ≤ j → j < k → cnd r n j = none) ∧ cnd r n k ≠ none := by
  intro i
  induction i with
  | zero =>
   intro _ h
   exact ⟨17, by omega, by omega, h, h17⟩
  | succ i ih =>
   intro hi h
   by_cases hc : cnd r n (17 - (i + 1)) = none
   ·refine ih (by omega) ?_
    intro j hj1 hj2
    rcases Nat.lt_or_ge j (17 - (i + 1)) with h2 | h2
    ·exact h j hj1 h2
    ·rw [show j = 17 - (i + 1) by omega]
     exact hc
   ·exact ⟨17 - (i + 1), by omega, by omega, h, hc⟩
 obtain ⟨k, k1, k2, k3, k4⟩ := key 16 (by omega) (fun j h1 h2 => by omega)
 cases hc : cnd r n k with
 | none => exact absurd hc k4
 | some c => exact ⟨_, _, n, k, c, hn, k1, k2, k3, hc, rfl, rfl⟩
def plL (D : List Nat) (N : Int) : List Nat :=
 if N ≤ -6 ∨ 21 < N then scL D (N - 1) else if (D.length : Int) ≤ N then D ++ List.replicate (N - D.length).toNat 48 else ptL D ((D.length : Int) - N).toNat
def PlQ (r : Nat) (L : List Nat) : Prop := (r = 0 ∧ L = [48]) ∨ (0 < r ∧ ∃ D N, SQ r D N ∧ L = plL D N)
theorem Anv {r : Nat} (hr : r < 9218868437227405312) : ∃ L, PlQ r L := by
 rcases Nat.eq_zero_or_pos r with h | h
 ·exact ⟨_, .inl ⟨h, rfl⟩⟩
 ·obtain ⟨D, N, hq⟩ := Aoh h hr
  exact ⟨_, .inr ⟨h, D, N, hq, rfl⟩⟩
theorem An4 {l : List Nat} {e : Int} (hl : ∀ c ∈ l, c < 256) : ∀ c ∈ scL l e, c < 256 := by
 intro c hc
 unfold scL at hc
 rw [List.mem_append, List.mem_append] at hc
 rcases hc with (hc | hc) | hc
 ·exact Amw hl c hc
 ·unfold sgL at hc
  split at hc <;> simp at hc <;> omega
 ·have := Bs.1 (P6 _ c hc)
  omega
theorem Am0 {l : List Nat} {k : Nat} (hl : ∀ c ∈ l, c < 256) : ∀ c ∈ ptL l k, c < 256 := by
 intro c hc
 unfold ptL at hc
 split at hc
 ·exact hl c hc
 ·rw [List.mem_append, List.mem_cons] at hc
  rcases hc with hc | rfl | hc
  ·exact Tu hl c (List.mem_of_mem_take hc)
  ·omega
  ·exact Tu hl c (List.mem_of_mem_drop hc)
theorem Alg {l : List Nat} {e : Int} (he : e.natAbs < 10 ^ 6) : (scL l e).length ≤ l.length + 10 := by
 unfold scL
 rw [List.length_append, List.length_append]
 have h1 := Tw l
 have h2 : (sgL e).length = 2 := by unfold sgL; split <;> rfl
 have h3 := Aia he (by omega)
 omega
theorem PlQ.bd {r : Nat} {L : List Nat} (hr : r < 9218868437227405312) (h : PlQ r L) : (∀ c ∈ L, c < 256) ∧ L.length ≤ 1000 := by
 rcases h with ⟨_, rfl⟩ | ⟨h0, D, N, hq, rfl⟩
 ·exact ⟨by simp, by simp⟩
 ·obtain ⟨b1, b2, b3, b4, b5⟩ := hq.bd h0 hr
  unfold plL
  split
  ·exact ⟨An4 b5, Nat.le_trans (Alg (by omega)) (by omega)⟩
  ·split
   ·refine ⟨?_, by rw [List.length_append, List.length_replicate]; omega⟩
    intro c hc
    rw [List.mem_append, List.mem_replicate] at hc
    rcases hc with hc | ⟨_, rfl⟩
    ·exact b5 c hc
    ·omega
   ·refine ⟨Am0 b5, ?_⟩
    by_cases hz : ((D.length : Int) - N).toNat = 0
    ·unfold ptL; rw [if_pos hz]; omega
    ·rw [Alt _ _ hz]; omega
theorem T4 {x : Nat} {D : List Nat} {N : Int} {w : World} (h0 : 0 < x) (hx : x < 9218868437227405312) (ht : Tab10 w) (hz : Dl w) (h : SQ x D N) :
  Ct 116 #[.float .f64 x] (.tuple #[.string (Ab D), .int .i64 N]) w := by
 refine (Qc x w h0 hx ht hz).mono ?_
 rintro e w' ⟨L, p, rfl, hq, hb⟩
 obtain ⟨rfl, rfl⟩ := h.one hq
 exact ⟨rfl, hb⟩
theorem Z7 {r : Nat} {L : List Nat} {w : World} (hr : r < 9218868437227405312) (ht : Tab10 w) (hz : Dl w) (h : PlQ r L) :
  Ct 84 #[.float .f64 r] (.string (Ab L)) w := by
 rcases h with ⟨rfl, rfl⟩ | ⟨h0, D, N, hq, rfl⟩
 ·refine Sm (Yd 0 w (by rw [Ja (by omega) (by omega)]; rfl)) ?_
  exact ⟨rfl, Below.refl _ _⟩
 ·obtain ⟨b1, b2, b3, b4, b5⟩ := hq.bd h0 hr
  have t0 : (FloatKind.f64.format.order r 0 == some .eq) = false := by rw [Ja (by omega) (by omega)]; exact decide_eq_false (by omega)
  have C : Hid (∀ W, W = w → Ct 116 #[.float .f64 r] (.tuple #[.string (Ab D), .int .i64 N]) W) := Lh (fun W hW => by
   subst hW
   exact T4 h0 hr ht hz hq)
  have CS := Lh (fun W (hW : Below w.heap.size w W) => Mp D (N - 1) W b5 b3 (by omega) (by omega) (by omega) (ht.on hW))
  unfold plL
  by_cases h1 : N ≤ -6
  ·rw [if_pos (.inl h1)]
   exact Yz r N _ _ w t0 (by omega) (by omega) h1 CS C
  ·by_cases h2 : 21 < N
   ·rw [if_pos (.inr h2)]
    exact Vo r N _ _ w t0 (by omega) (by omega) h2 CS C
   ·rw [if_neg (by omega)]
    by_cases h3 : (D.length : Int) ≤ N
    ·rw [if_pos h3]
     exact Ul r N D.length (N - D.length).toNat _ _ w t0 (by omega) (by omega) (by omega) (by omega) (Ah D) h3 (by omega) (Ab (List.replicate (N - D.length).toNat 48)) (Lh (by rw [Ah, List.length_replicate]; omega)) (Bc _ _) (Lh fun W => Lt _ W (by omega)) C
    ·rw [if_neg h3]
     exact Sr r N D.length ((D.length : Int) - N).toNat _ _ w t0 (by omega) (by omega) (by omega) (by omega) (Ah D) (by omega) (by omega) (by omega) (Lh fun W => So D _ W b5 (by omega) (by omega)) C
def wdS (L : List Nat) : ByteArray := ⟨(bL L).toArray⟩
theorem Fw (L : List Nat) (w : World) (hL : ∀ c ∈ L, c < 256) (hl : L.length ≤ 100000) : Ct 52 #[.string (Ab L)] (.string (wdS L)) w := by
 have h := Ajr (Ab L) w (by rw [Ah]; omega)
 rw [show wdL (Ab L) = bl (Ab L) from Ih _, Ak hL] at h
 exact h
theorem Ac7 (L : List Nat) (w : World) (hL : ∀ c ∈ L, c < 256) (hl : L.length ≤ 100000) : Ct 43 #[.string (Ab L)] (.string (wdS L)) w := by
 have h := Aee (Ab L) w (by rw [Ah]; omega)
 rw [show wdL (Ab L) = bl (Ab L) from Ih _, Ak hL] at h
 exact h
def ngB (x : Nat) : Bool := Cd x && decide (0 < Bq x)
theorem Akm (x : Nat) : (FloatKind.f64.format.order x 0 == some .lt) = (!Ck x && ngB x) := by
 unfold ngB Ck
 rcases Nat.lt_or_ge 9218868437227405312 (Bq x) with h | h
 ·rw [show FloatKind.f64.format.order x 0 = Ieee.double.order x 0 from rfl, F2 (.inl h), decide_eq_true h]
  rfl
 ·obtain ⟨a1, a2⟩ := Ha (x := 0) (by omega)
  rw [show FloatKind.f64.format.order x 0 = Ieee.double.order x 0 from rfl, E8 h (by omega), a1, decide_eq_false (by omega), Bool.eq_iff_iff, beq_iff_eq, Option.some.injEq, Int.compare_eq_lt]
  unfold Fl
  cases Cd x
  ·simp
  ·simp
def sgx (x : Nat) : List Nat := if ngB x = true then [45] else []
def SgQ (T : Nat → List Nat → Prop) (x : Nat) (L : List Nat) : Prop :=
 (Ck x = true ∧ L = [78, 97, 78]) ∨ (Ck x = false ∧ Fg x = true ∧ L = sgx x ++ infL) ∨ (Ck x = false ∧ Fg x = false ∧ ∃ l, T (Bq x) l ∧ L = sgx x ++ l)
theorem O3 {x : Nat} (h1 : Ck x = false) (h2 : Fg x = false) : Bq x < 9218868437227405312 := by
 have := of_decide_eq_false h1
 have := of_decide_eq_false h2
 omega
theorem Vh {T : Nat → List Nat → Prop} {x : Nat} {L : List Nat} {w : World} (f : FuncId) (hx : x < 18446744073709551616)
  (he : ∀ args (W : World), (callFunc f args).run Tryz.prog W = .ok (.enter f args) W)
  (hT : ∀ r l, r < 9218868437227405312 → T r l → (∀ c ∈ l, c < 256) ∧ l.length ≤ 99000 ∧ Ct f #[.float .f64 r] (.string (Ab l)) w)
  (h : SgQ T x L) : Ct 83 #[.float .f64 x, .func (Fn.func f) #[] #[]] (.string (wdS L)) w := by
 have t0 := Akm x
 have CN := fun W => Bv x W
 have CI := fun W => Eu x W hx
 rcases h with ⟨h1, rfl⟩ | ⟨h1, h2, rfl⟩ | ⟨h1, h2, l, h3, rfl⟩
 ·rw [h1] at t0 CN
  exact Qb x f _ w t0 (Lh CN) (Lh fun W => Fw [78, 97, 78] W (by simp) (by simp))
 ·rw [h1] at t0 CN
  rw [h2] at CI
  unfold sgx
  cases hn : ngB x
  ·rw [hn] at t0
   exact Qj x f _ w t0 (Lh CN) (Lh CI) (Lh fun W => Fw _ W (by decide) (by decide))
  ·rw [hn] at t0
   exact Qz x f _ w t0 (Lh CN) (Lh CI) (Lh fun W => Fw _ W (by decide) (by decide))
 ·rw [h1] at t0 CN
  rw [h2] at CI
  obtain ⟨l1, l2, hc⟩ := hT _ l (O3 h1 h2) h3
  have CA := fun W => M5 x W hx
  have CT : Hid (∀ W, W = w → Ct f #[.float .f64 (Bq x)] (.string (Ab l)) W) := Lh (fun W hW => by
   subst hW
   exact hc)
  unfold sgx
  cases hn : ngB x
  ·rw [hn] at t0
   refine Qk x f (Ab l) (Ab l) (Bq x) _ w t0 (Lh CN) (Lh CI) (Lh CA) he CT (Lh (by rw [Ah]; omega)) ?_ (Lh fun W => Fw _ W l1 (by omega))
   rw [show (⟨#[]⟩ : ByteArray) = Ab [] from rfl, Bc]
   rfl
  ·rw [hn] at t0
   refine Qu x f (Ab l) (Ab ([45] ++ l)) (Bq x) _ w t0 (Lh CN) (Lh CI) (Lh CA) he CT (Lh (by rw [Ah]; omega)) ?_ (Lh fun W => Fw _ W ?_ ?_)
   ·rw [show (⟨#[45]⟩ : ByteArray) = Ab [45] from rfl, Bc]
   ·intro c hc
    rw [List.mem_append, List.mem_singleton] at hc
    rcases hc with rfl | hc
    ·omega
    ·exact l1 c hc
   ·rw [List.length_append, List.length_singleton]
    omega
def TxQ (x : Nat) (L : List Nat) : Prop := SgQ PlQ x L
theorem Nv (x : Nat) : ∃ L, TxQ x L := by
 unfold TxQ SgQ
 cases h1 : Ck x
 ·cases h2 : Fg x
  ·obtain ⟨l, hl⟩ := Anv (O3 h1 h2)
   exact ⟨_, .inr (.inr ⟨rfl, rfl, l, hl, rfl⟩)⟩
  ·exact ⟨_, .inr (.inl ⟨rfl, rfl, rfl⟩)⟩
 ·exact ⟨_, .inl ⟨rfl, rfl⟩⟩
theorem Ac2 {x : Nat} {L : List Nat} {w : World} (hx : x < 18446744073709551616) (ht : Tab10 w) (hz : Dl w) (h : TxQ x L) :
  Ct 53 #[.float .f64 x] (.string (wdS L)) w := by
 have C := Lh (fun W (hW : W = w) => Vh (T := PlQ) (w := W) 84 hx (fun args W' => by go_simp) (fun r l hr hl => by
  subst hW
  obtain ⟨b1, b2⟩ := hl.bd hr
  exact ⟨b1, by omega, Z7 hr ht hz hl⟩) h)
 clear h ht hz
 go_enter Tryz.func53, Tryz.ntmps53
 go_wp2_with fail
 refine Bm (C.out _ rfl) fun w1 b1 => ?_
 go_wp2
 go_ret
 exact ⟨rfl, b1⟩
end
section
def Al (v : Val) : Bool := decide (0 ≤ v.vk) && decide (v.vk ≤ 4)
def At (v : Val) : Nat :=
 if v.vk = 0 then 9221120237041090560 else if v.vk = 2 then (if v.vb = true then 4607182418800017408 else 0) else if v.vk = 3 then cn v.vn else if v.vk = 4 then H8 (nrw 0 (us (Dj v.vs))) else 0
noncomputable def txt (x : Nat) : ByteArray := wdS (Classical.choose (Nv x))
def wUnd : ByteArray := wdS [117, 110, 100, 101, 102, 105, 110, 101, 100]
def wNul : ByteArray := wdS [110, 117, 108, 108]
def wTru : ByteArray := wdS [116, 114, 117, 101]
def wFal : ByteArray := wdS [102, 97, 108, 115, 101]
noncomputable def El (v : Val) : ByteArray :=
 if v.vk = 0 then wUnd else if v.vk = 1 then wNul else if v.vk = 2 then (if v.vb = true then wTru else wFal) else if v.vk = 3 then txt v.vn else if v.vk = 4 then v.vs else ⟨#[]⟩
def Cc (v : Val) : Bool := v.vk == 0 || v.vk == 1
def Hx (x y : Val) : Bool × Int :=
 if x.vk = y.vk then (Dy x y, 0) else if (Cc x || Cc y) = true then (Cc x && Cc y, 0) else if (Al x && Al y) = true then (oeq (At x) (At y), 0) else (false, 1)
def Lr (x y : Val) : Int × Int :=
 if (Al x && Al y) = true then (if x.vk = 4 ∧ y.vk = 4 then (if Gr (us x.vs) (us y.vs) < 0 then 1 else 0) else Iw (At x) (At y), 0) else (0, 1)
end
section
theorem Ti (s : ByteArray) (k : UInt8) (w : World) : Cq 100 #[.string s, .string ⟨#[k]⟩] (.tuple #[.string (Ab (if (bl s).head? = some k.toNat then (bl s).tail else bl s)), .bool ((bl s).head? == some k.toNat)]) w := by
 refine (Tryz.strings_CutPrefix s ⟨#[k]⟩ w).mono fun e w' h => ⟨?_, h.2.symm⟩
 rw [h.1]
 have e1 := Af0 s k
 have e2 := Ajy s k
 exact congrArg Ending.returned (by rw [show (⟨#[k]⟩ : ByteArray).data.toList = [k] from rfl, e1, e2])
theorem Aft (s : ByteArray) (k : UInt8) (w : World) : Cq 132 #[.string s, .string ⟨#[k]⟩] (.string (Ab (if (bl s).head? = some k.toNat then (bl s).tail else bl s))) w := by
 refine (Tryz.strings_TrimPrefix s ⟨#[k]⟩ w).mono fun e w' h => ⟨?_, h.2.symm⟩
 rw [h.1]
 have e1 := Af0 s k
 exact congrArg Ending.returned (by rw [show (⟨#[k]⟩ : ByteArray).data.toList = [k] from rfl, e1])
theorem Oh (s p : ByteArray) (w : World) : Cq 100 #[.string s, .string p] (.tuple #[.string (Ab (if (bl p).isPrefixOf (bl s) = true then (bl s).drop p.size else bl s)), .bool ((bl p).isPrefixOf (bl s))]) w := by
 refine (Tryz.strings_CutPrefix s p w).mono fun e w' h => ⟨?_, h.2.symm⟩
 rw [h.1, Ani, Ah4]
def sgF (b : Bool) : Nat := if b = true then 13830554455654793216 else 4607182418800017408
theorem Hd (s : ByteArray) (w : World) : Cq 99 #[.string s] (.tuple #[.float .f64 (sgF (Eh (bl s)) : Nat), .string (Ab (Bj (bl s)))]) w := by
 have C1 := Lh (Ti s 45 w)
 have C2 := Lh (Aft s 43 w)
 have h1 : ((bl s).head? == some (45 : UInt8).toNat) = Eh (bl s) := rfl
 rw [h1] at C1
 cases h : Eh (bl s)
 ·rw [h] at C1
  have e1 : Bj (bl s) = if (bl s).head? = some (43 : UInt8).toNat then (bl s).tail else bl s := by
   have h2 : ¬ (bl s).head? = some 45 := by
    intro e
    unfold Eh at h
    rw [e] at h
    simp at h
   unfold Bj
   by_cases h3 : (bl s).head? = some 43
   ·rw [if_pos (Or.inr h3)]; exact (if_pos h3).symm
   ·rw [if_neg (by rintro (h4 | h4); exact h2 h4; exact h3 h4)]; exact (if_neg h3).symm
  rw [← e1] at C2
  obtain ⟨t, ht⟩ : ∃ t, Ab (Bj (bl s)) = t := ⟨_, rfl⟩
  rw [ht] at C2 ⊢
  obtain ⟨t1, ht1⟩ : ∃ t1, Ab (if (bl s).head? = some (45 : UInt8).toNat then (bl s).tail else bl s) = t1 := ⟨_, rfl⟩
  rw [ht1] at C1
  clear h h1 e1 ht ht1
  go_enter Tryz.func99, Tryz.ntmps99
  go_wp2_with fail
  refine C1.out.mono ?_
  rintro e w' ⟨rfl, rfl⟩
  go_wp2_with fail
  refine C2.out.mono ?_
  rintro e w' ⟨rfl, rfl⟩
  go_wp2
  go_ret2
  exact ⟨rfl, rfl⟩
 ·rw [h] at C1
  have e1 : Bj (bl s) = if (bl s).head? = some (45 : UInt8).toNat then (bl s).tail else bl s := by
   have h2 : (bl s).head? = some 45 := by
    unfold Eh at h
    exact beq_iff_eq.1 h
   unfold Bj
   rw [if_pos (Or.inl h2)]
   exact (if_pos h2).symm
  rw [← e1] at C1
  obtain ⟨t, ht⟩ : ∃ t, Ab (Bj (bl s)) = t := ⟨_, rfl⟩
  rw [ht] at C1 ⊢
  clear h h1 e1 ht C2
  go_enter Tryz.func99, Tryz.ntmps99
  go_wp2_with fail
  refine C1.out.mono ?_
  rintro e w' ⟨rfl, rfl⟩
  go_wp2
  go_ret2
  exact ⟨rfl, rfl⟩
theorem Rb (a b : Nat) (l : List Nat) : [a, b].isPrefixOf l = (l.head? == some a && l.tail.head? == some b) := by
 cases l with
 | nil => rfl
 | cons c r =>
  cases r with
  | nil =>
   show (a == c && false) = (some c == some a && (none : Option Nat) == some b)
   rw [Bool.eq_iff_iff]; simp
  | cons d q =>
   show (a == c && (b == d && true)) = (some c == some a && some d == some b)
   rw [Bool.eq_iff_iff]
   simp only [Bool.and_true, Bool.and_eq_true, beq_iff_eq, Option.some.injEq]
   exact ⟨fun e => ⟨e.1.symm, e.2.symm⟩, fun e => ⟨e.1.symm, e.2.symm⟩⟩
theorem Xm (s : ByteArray) (w : World) : Cq 95 #[.string s] (.tuple #[.string (Ab (if hxA (bl s) = true then (bl s).drop 2 else bl s)), .bool (hxA (bl s))]) w := by
 have C1 := Lh (Oh s ⟨#[48, 120]⟩ w)
 have C2 := Lh (Oh s ⟨#[48, 88]⟩ w)
 have h1 : (bl ⟨#[48, 120]⟩).isPrefixOf (bl s) = ((bl s).head? == some 48 && (bl s).tail.head? == some 120) := Rb 48 120 (bl s)
 have h2 : (bl ⟨#[48, 88]⟩).isPrefixOf (bl s) = ((bl s).head? == some 48 && (bl s).tail.head? == some 88) := Rb 48 88 (bl s)
 have hx : hxA (bl s) = ((bl ⟨#[48, 120]⟩).isPrefixOf (bl s) || (bl ⟨#[48, 88]⟩).isPrefixOf (bl s)) := by
  rw [h1, h2]; unfold hxA; cases ((bl s).head? == some 48) <;> rfl
 rw [hx]
 clear h1 h2 hx
 obtain ⟨p, hp⟩ : ∃ p, (bl ⟨#[48, 120]⟩).isPrefixOf (bl s) = p := ⟨_, rfl⟩
 obtain ⟨q, hq⟩ : ∃ q, (bl ⟨#[48, 88]⟩).isPrefixOf (bl s) = q := ⟨_, rfl⟩
 rw [hp] at C1
 rw [hq] at C2
 rw [hp, hq]
 rw [show (⟨#[48, 120]⟩ : ByteArray).size = 2 from rfl] at C1
 rw [show (⟨#[48, 88]⟩ : ByteArray).size = 2 from rfl] at C2
 clear hp hq
 cases p
 ·rw [if_neg (by simp)] at C1
  rw [Bool.false_or]
  obtain ⟨t, ht⟩ : ∃ t, Ab (if q = true then (bl s).drop 2 else bl s) = t := ⟨_, rfl⟩
  rw [ht] at C2 ⊢
  obtain ⟨t1, ht1⟩ : ∃ t1, Ab (bl s) = t1 := ⟨_, rfl⟩
  clear ht ht1
  go_enter Tryz.func95, Tryz.ntmps95
  go_wp2_with fail
  refine C1.out.mono ?_
  rintro e w' ⟨rfl, rfl⟩
  go_wp2_with fail
  refine C2.out.mono ?_
  rintro e w' ⟨rfl, rfl⟩
  go_wp2
  go_ret2
  exact ⟨rfl, rfl⟩
 ·rw [if_pos rfl] at C1
  rw [Bool.true_or, if_pos rfl]
  obtain ⟨t, ht⟩ : ∃ t, Ab ((bl s).drop 2) = t := ⟨_, rfl⟩
  rw [ht] at C1 ⊢
  clear ht C2
  go_enter Tryz.func95, Tryz.ntmps95
  go_wp2_with fail
  refine C1.out.mono ?_
  rintro e w' ⟨rfl, rfl⟩
  go_wp2
  go_ret2
  exact ⟨rfl, rfl⟩
end
section
theorem Aj2 (s : ByteArray) {r : Nat} (hr : r ≤ 36) (w : World) : Ct 126 #[.string s, .string (P8 r)] (.string (Ab ((bl s).dropWhile (ldq r)))) w := by
 have h := Tryz.strings_TrimLeft_laid s (P8 r) w (by rw [Ac6 hr]; omega) (Akq hr)
 rw [Am6 hr s] at h
 exact h
theorem Xs (p : Nat → Bool) (l : List Nat) : (l.dropWhile p).length ≤ l.length := (List.dropWhile_sublist p).length_le
theorem Eo (s : ByteArray) (r : Nat) (w : World) (hr : r ≤ 36) (hs : s.size ≤ 4611686018427387903) :
  Ct 96 #[.string s, .int .i64 r] (.tuple #[.string (Ab ((bl s).takeWhile (ldq r))), .string (Ab ((bl s).dropWhile (ldq r)))]) w := by
 have C1 := Lh (Aj2 s hr w)
 unfold P8 at C1
 have hle := Xs (ldq r) (bl s)
 rw [By] at hle
 have hk := Afz (ldq r) (bl s)
 rw [By] at hk
 have hsz := Ah ((bl s).dropWhile (ldq r))
 obtain ⟨t, ht⟩ : ∃ t, Ab ((bl s).dropWhile (ldq r)) = t := ⟨_, rfl⟩
 rw [ht] at C1 hsz ⊢
 obtain ⟨k, hk2⟩ : ∃ k, s.size - t.size = k := ⟨_, rfl⟩
 have HE := Lh (show s.extract 0 k = Ab ((bl s).takeWhile (ldq r)) from by rw [Fb, ← hk, ← hk2, hsz])
 have h1 : (t.size : Int) ≤ (s.size : Int) := by omega
 have h2 : (s.size : Int) ≤ 4611686018427387903 := by omega
 have h3 : (s.size : Int) - (t.size : Int) = (k : Int) := by omega
 have h4 : (k : Int) ≤ (s.size : Int) := by omega
 have hr1 : (r : Int) ≤ 36 := by omega
 rw [← HE.out]
 clear hle hk hsz ht hk2 hr hs
 go_enter Tryz.func96, Tryz.ntmps96
 go_wp2_with fail
 refine C1.out.mono ?_
 rintro e w' ⟨rfl, hb⟩
 go_wp2
 go_ret2
 exact ⟨rfl, hb⟩
theorem Wr (s : ByteArray) (w : World) (hs : s.size ≤ 4611686018427387903) (hd : ∀ c ∈ bl s, Bw c = true) :
  Cq 182 #[.string s] (.int .i64 (amt (bl s) : Nat)) w := by
 have h2 : (s.size : Int) ≤ 4611686018427387903 := by omega
 have HD := Lh hd
 clear hd hs
 go_enter Tryz.func182, Tryz.ntmps182
 go_wp2
 go_loopw [3, 7] (fun nv i wr => ∃ k : Nat, i = .int .i64 k ∧ k ≤ s.size ∧ nv = .int .i64 (amt ((bl s).take k) : Nat) ∧ w = wr) (fun _ i _ => s.size - (intOf i).toNat)
 case atStart => exact ⟨0, rfl, Nat.zero_le _, rfl, rfl⟩
 case round =>
  obtain ⟨k, rfl, hk, rfl, rfl⟩ := hrel
  by_cases hlt : k < s.size
  ·obtain ⟨B, hB⟩ : ∃ B : Nat, (s[k]'hlt).toNat = B := ⟨_, rfl⟩
   have hget : (bl s)[k]? = some B := by rw [C0 s k hlt, hB]
   have hdB := Bs.1 (HD.out B (List.mem_of_getElem? hget))
   obtain ⟨N, hN⟩ : ∃ N, amt ((bl s).take k) = N := ⟨_, rfl⟩
   have hNl : N < 10995116277760 := by rw [← hN]; exact Hf _ (fun c hc => HD.out c (List.mem_of_mem_take hc))
   have hstep : amt ((bl s).take (k + 1)) = Qi N B := by rw [List.take_add_one, hget, ← hN]; exact F6 _ _
   rw [hN]
   have a1 : (0 : Int) ≤ (k : Int) := by omega
   have a2 : (k : Int) < (s.size : Int) := by omega
   have a3 : ((s[k]'hlt).toNat : Int) = (B : Int) := by rw [hB]
   obtain ⟨D, hD⟩ : ∃ D : Nat, B - 48 = D := ⟨_, rfl⟩
   have a4 : IntKind.u8.wrap ((B : Int) - 48) = (D : Int) := by rw [IntWalk.u8_in _ (by omega)]; omega
   have a5 : IntKind.i64.wrap (D : Int) = (D : Int) := IntWalk.i64_in _ (by omega)
   by_cases hc : N < 1099511627776
   ·obtain ⟨M, hM⟩ : ∃ M : Nat, N * 10 + D = M := ⟨_, rfl⟩
    have HS := Lh (show amt ((bl s).take (k + 1)) = M from by rw [hstep]; unfold Qi; rw [if_pos hc, hD, hM])
    have a6 : IntKind.i64.wrap (10 * (N : Int)) = 10 * (N : Int) := IntWalk.i64_in _ (by omega)
    have a7 : IntKind.i64.wrap (10 * (N : Int) + (D : Int)) = (M : Int) := by rw [IntWalk.i64_in _ (by omega)]; omega
    have t1 : decide ((N : Int) < 1099511627776) = true := decide_eq_true (by omega)
    clear hget hdB hN hNl hstep hB hD hM hc HD hk
    go_wp2
    exact ⟨⟨k + 1, by go_num, by omega, by rw [HS.out], trivial⟩, by simp [intOf]; omega⟩
   ·have HS := Lh (show amt ((bl s).take (k + 1)) = N from by rw [hstep]; unfold Qi; rw [if_neg hc])
    have t1 : decide ((N : Int) < 1099511627776) = false := decide_eq_false (by omega)
    clear hget hdB hN hNl hstep hB hD hc HD hk a3 a4 a5
    go_wp2
    exact ⟨⟨k + 1, by go_num, by omega, by rw [HS.out], trivial⟩, by simp [intOf]; omega⟩
  ·have HZ := Lh (show (bl s).take k = bl s from List.take_of_length_le (by rw [By]; omega))
   go_wp2
   go_ret
   exact ⟨by rw [HZ.out]; rfl, rfl⟩
def sgI (b : Bool) : Int := if b = true then -1 else 1
theorem Akj (b : Bool) : ∀ W : World, (convert 22 3 (.float .f64 (sgF b))).run Tryz.prog W = .ok (.int .i64 (sgI b)) W := by
 intro W
 cases b
 ·rfl
 ·rfl
theorem Jt {l : List Nat} : ∀ c ∈ l.tail, c ∈ l := fun _ h => List.mem_of_mem_tail h
theorem Ye {l : List Nat} : ∀ c ∈ Bj l, c ∈ l := by
 intro c h
 unfold Bj at h
 split at h
 ·exact Jt c h
 ·exact h
theorem Aly {l : List Nat} : ∀ c ∈ Ag l, c ∈ l := fun _ h => (List.takeWhile_sublist _).subset h
theorem Tr {l : List Nat} : ∀ c ∈ Aj l, c ∈ l := fun _ h => (List.dropWhile_sublist _).subset h
theorem Vs (l : List Nat) : (Bj l).length ≤ l.length := by
 unfold Bj
 split
 ·rw [List.length_tail]; omega
 ·omega
theorem Zd : ldq 10 = Bw := funext Ak6
theorem K7 {l : List Nat} (h : l ≠ []) : ¬ (Ab l).toList = [] ∧ (Ab l).toList.isEmpty = false := by
 have h1 : ¬ (Ab l).toList = [] := by
  rw [Lib.toList_data]
  unfold Ab
  simpa using h
 refine ⟨h1, ?_⟩
 cases hh : (Ab l).toList with
 | nil => exact absurd hh h1
 | cons => rfl
theorem Ua (l : List Nat) (w : World) (hl : ∀ c ∈ l, c < 256) (hs : l.length ≤ 4611686018427387903) :
  Ct 96 #[.string (Ab l), .int .i64 10] (.tuple #[.string (Ab (Ag l)), .string (Ab (Aj l))]) w := by
 have h := Eo (Ab l) 10 w (by omega) (by rw [Ah]; exact hs)
 rw [Ak hl, Zd] at h
 exact h
theorem Abz {l : List Nat} (h : ¬ (l.head? = some 101 ∨ l.head? = some 69)) : Fu l = false := by
 unfold Fu
 have h1 : (l.head? == some 101) = false := beq_eq_false_iff_ne.2 (fun e => h (Or.inl e))
 have h2 : (l.head? == some 69) = false := beq_eq_false_iff_ne.2 (fun e => h (Or.inr e))
 rw [h1, h2]; rfl
theorem Ak5 {l : List Nat} (h : l.head? = some 101 ∨ l.head? = some 69) : Fu l = !(Ag (Bj l.tail)).isEmpty := by
 unfold Fu
 have h1 : (l.head? == some 101 || l.head? == some 69) = true := by
  rcases h with h | h
  ·rw [h]; rfl
  ·rw [h]; rfl
 rw [h1, Bool.true_and]
def ExpQ (l : List Nat) (w : World) (e : Ending) (w' : World) : Prop :=
 e = .returned (.tuple #[.int .i64 (exV l), .string (Ab (if Fu l = true then Ql l else [])), .bool (Fu l)]) ∧ Below w.heap.size w w'
theorem ExpQ.no {l : List Nat} {w w' : World} (h : Fu l = false) (hb : Below w.heap.size w w') : ExpQ l w (.returned (.tuple #[.int .i64 0, .string ⟨#[]⟩, .bool false])) w' := by
 refine ⟨?_, hb⟩
 unfold exV
 rw [h, if_neg (by simp), if_neg (by simp)]
 rfl
theorem ExpQ.yes {l : List Nat} {w w' : World} (h : Fu l = true) (hb : Below w.heap.size w w') : ExpQ l w (.returned (.tuple #[.int .i64 (Kz l), .string (Ab (Ql l)), .bool true])) w' := by
 refine ⟨?_, hb⟩
 unfold exV
 rw [h, if_pos rfl, if_pos rfl]
theorem Ld (s : ByteArray) (w : World) (hs : s.size ≤ 4611686018427387903) :
  Cp 134 #[.string s] w (ExpQ (bl s) w) := by
 have h2 : (s.size : Int) ≤ 4611686018427387903 := by omega
 by_cases h0 : s.size = 0
 ·have hnil : bl s = [] := List.eq_nil_of_length_eq_zero (by rw [By]; exact h0)
  have hE := ExpQ.no (l := bl s) (Abz (by rw [hnil]; simp)) (Below.refl w.heap.size w)
  have hz : s = ⟨#[]⟩ := by
   have := U8 s
   rw [hnil] at this
   exact this.symm
  clear hnil
  subst hz
  have HE := Lh hE
  clear hE h0 hs h2
  go_enter Tryz.func134, Tryz.ntmps134
  go_wp2
  refine bodyPost_ret (Bg rfl _ _ _) rfl ?_
  exact HE.out
 ·have hp : 0 < s.size := by omega
  obtain ⟨B, hB⟩ : ∃ B : Nat, (s[0]'hp).toNat = B := ⟨_, rfl⟩
  have hhd : (bl s).head? = some B := by rw [List.head?_eq_getElem?, C0 s 0 hp, hB]
  have a2 : (0 : Int) < (s.size : Int) := by omega
  have a3 : ((s[0]'hp).toNat : Int) = (B : Int) := by rw [hB]
  have hne := K7 (l := bl s) (by intro e; rw [e] at hhd; cases hhd)
  rw [U8] at hne
  obtain ⟨n1, n2⟩ := hne
  by_cases hc : B = 101 ∨ B = 69
  ·have hx := Ak5 (l := bl s) (by rw [hhd]; rcases hc with h | h <;> simp [h])
   have e1 : bl (s.extract 1 s.size) = (bl s).tail := by rw [Aa4]; exact List.drop_one
   have C1 := Lh (Hd (s.extract 1 s.size) w)
   rw [e1] at C1
   obtain ⟨U, hU⟩ : ∃ U, Bj (bl s).tail = U := ⟨_, rfl⟩
   rw [hU] at C1 hx
   have hU2 : ∀ c ∈ U, c < 256 := fun c h => J9 s c (Jt c (Ye c (by rw [hU]; exact h)))
   have hU3 : U.length ≤ 4611686018427387903 := by
    have k1 := Vs (bl s).tail
    rw [hU, List.length_tail, By] at k1
    omega
   have C2 := Lh (Ua U w hU2 hU3)
   have hR := Cg U
   have hRl := Cs U
   have hR2 : ∀ c ∈ Ag U, c < 256 := fun c h => hU2 c (Aly c h)
   have hV : Kz (bl s) = if Eh (bl s).tail = true then -(amt (Ag U) : Int) else (amt (Ag U) : Int) := by unfold Kz; rw [hU]
   have hT : Ql (bl s) = Aj U := by unfold Ql; rw [hU]
   obtain ⟨b, hb⟩ : ∃ b, Eh (bl s).tail = b := ⟨_, rfl⟩
   rw [hb] at C1 hV
   obtain ⟨R, hRR⟩ : ∃ R, Ag U = R := ⟨_, rfl⟩
   rw [hRR] at C2 hR hRl hR2 hV hx
   have m1 : ∀ W, Cq 99 #[.string (s.extract 1 s.size)] (.tuple #[.float .f64 (sgF b : Nat), .string (Ab U)]) W := by
    intro W
    have := Hd (s.extract 1 s.size) W
    rw [e1, hU, hb] at this
    exact this
   by_cases hR0 : R = []
   ·have HE := Lh (fun w' => ExpQ.no (l := bl s) (w := w) (w' := w') (by rw [hx, hR0]; rfl))
    rw [hR0, Ae8] at C2
    rw [show ByteArray.empty = (⟨#[]⟩ : ByteArray) from rfl] at C2
    obtain ⟨u, hu⟩ : ∃ u, Ab U = u := ⟨_, rfl⟩
    obtain ⟨v, hv⟩ : ∃ v, Ab (Aj U) = v := ⟨_, rfl⟩
    rw [hu] at C1 C2
    rw [hv] at C2
    clear hx e1 hU hU2 hU3 hR hRl hR2 hV hT hb hRR hR0 hu hv hhd hB hs m1 h0
    have t1 : ((B : Int) != 101 && (B : Int) != 69) = false := by rcases hc with rfl | rfl <;> rfl
    have t2 : (B = 101 ∧ ((B : Int) != 101) = false) ∨ (((B : Int) != 101) = true ∧ ((B : Int) != 69) = false) := by rcases hc with rfl | rfl <;> simp
    clear hc
    rcases t2 with ⟨_, t2⟩ | ⟨t2, t3⟩
    ·go_enter Tryz.func134, Tryz.ntmps134
     go_wp2_with fail
     refine C1.out.mono ?_
     rintro e w' ⟨rfl, rfl⟩
     go_wp2_with fail
     refine C2.out.mono ?_
     rintro e w' ⟨rfl, hbw⟩
     go_wp2
     refine bodyPost_ret (Bg rfl _ _ _) rfl ?_
     exact HE.out _ hbw
    ·go_enter Tryz.func134, Tryz.ntmps134
     go_wp2_with fail
     refine C1.out.mono ?_
     rintro e w' ⟨rfl, rfl⟩
     go_wp2_with fail
     refine C2.out.mono ?_
     rintro e w' ⟨rfl, hbw⟩
     go_wp2
     refine bodyPost_ret (Bg rfl _ _ _) rfl ?_
     exact HE.out _ hbw
   ·have HE := Lh (fun w' => ExpQ.yes (l := bl s) (w := w) (w' := w') (by rw [hx]; cases R with | nil => exact absurd rfl hR0 | cons => rfl))
    obtain ⟨r1, r2⟩ := K7 hR0
    have C3 := Lh (fun W => Wr (Ab R) W (by rw [Ah]; omega) (by rw [Ak hR2]; exact hR))
    rw [Ak hR2] at C3
    have hal := Hf R hR
    obtain ⟨N, hN⟩ : ∃ N, amt R = N := ⟨_, rfl⟩
    rw [hN] at C3 hal hV
    have K1 := Lh (Akj b)
    have a5 : IntKind.i64.wrap (sgI b * (N : Int)) = Kz (bl s) := by
     rw [hV]
     cases b
     ·rw [if_neg (by simp), show sgI false = 1 from rfl, IntWalk.i64_in _ (by omega)]; omega
     ·rw [if_pos rfl, show sgI true = -1 from rfl, IntWalk.i64_in _ (by omega)]; omega
    obtain ⟨X, hX⟩ : ∃ X, Kz (bl s) = X := ⟨_, rfl⟩
    rw [hX] at HE a5
    rw [hT] at HE
    obtain ⟨u, hu⟩ : ∃ u, Ab U = u := ⟨_, rfl⟩
    obtain ⟨v, hv⟩ : ∃ v, Ab (Aj U) = v := ⟨_, rfl⟩
    obtain ⟨f, hf⟩ : ∃ f, Ab R = f := ⟨_, rfl⟩
    rw [hu] at C1 C2
    rw [hv] at C2 HE
    rw [hf] at C2 C3 r1 r2
    have K1 := K1.out
    have t2 : (B = 101 ∧ ((B : Int) != 101) = false) ∨ (((B : Int) != 101) = true ∧ ((B : Int) != 69) = false) := by rcases hc with rfl | rfl <;> simp
    clear hx e1 hU hU2 hU3 hR hRl hR2 hV hT hb hRR hR0 hu hv hf hhd hB hs m1 h0 hc hN hal hX
    rcases t2 with ⟨_, t2⟩ | ⟨t2, t3⟩
    ·go_enter Tryz.func134, Tryz.ntmps134
     go_wp2_with fail
     refine C1.out.mono ?_
     rintro e w' ⟨rfl, rfl⟩
     go_wp2_with fail
     refine C2.out.mono ?_
     rintro e w' ⟨rfl, hbw⟩
     go_wp2_with fail
     refine Sm (C3.out _) ?_
     go_wp2
     refine bodyPost_ret (Bg rfl _ _ _) rfl ?_
     exact HE.out _ hbw
    ·go_enter Tryz.func134, Tryz.ntmps134
     go_wp2_with fail
     refine C1.out.mono ?_
     rintro e w' ⟨rfl, rfl⟩
     go_wp2_with fail
     refine C2.out.mono ?_
     rintro e w' ⟨rfl, hbw⟩
     go_wp2_with fail
     refine Sm (C3.out _) ?_
     go_wp2
     refine bodyPost_ret (Bg rfl _ _ _) rfl ?_
     exact HE.out _ hbw
  ·have HE := Lh (ExpQ.no (l := bl s) (Abz (by rw [hhd]; rintro (h | h) <;> exact hc (by simp at h; omega))) (Below.refl w.heap.size w))
   have t1 : ((B : Int) != 101) = true := by rw [bne_iff_ne]; omega
   have t2 : ((B : Int) != 69) = true := by rw [bne_iff_ne]; omega
   clear hhd hB hs hc h0
   go_enter Tryz.func134, Tryz.ntmps134
   go_wp2
   refine bodyPost_ret (Bg rfl _ _ _) rfl ?_
   exact HE.out
end
section
theorem Uc {l : List Nat} {w w' : World} {e : Ending} (h : ExpQ l w e w') (hb : Fu l = false) : e = .returned (.tuple #[.int .i64 0, .string ⟨#[]⟩, .bool false]) ∧ Below w.heap.size w w' := by
 obtain ⟨h1, h2⟩ := h
 refine ⟨?_, h2⟩
 rw [h1]
 unfold exV
 rw [hb, if_neg (by simp), if_neg (by simp)]
 rfl
theorem Nt {l : List Nat} {w w' : World} {e : Ending} (h : ExpQ l w e w') (hb : Fu l = true) : e = .returned (.tuple #[.int .i64 (Kz l), .string (Ab (Ql l)), .bool true]) ∧ Below w.heap.size w w' := by
 obtain ⟨h1, h2⟩ := h
 refine ⟨?_, h2⟩
 rw [h1]
 unfold exV
 rw [hb, if_pos rfl, if_pos rfl]
def Anl (l : List Nat) (w : World) (e : Ending) (w' : World) : Prop :=
 e = .returned (.tuple #[.agg #[.string (Ab (dW l)), .string (Ab (dF l)), .int .i64 (dX l)], .string (Ab (dR l)), .bool true]) ∧ Below w.heap.size w w'
theorem Mh (s : ByteArray) (w : World) (hs : s.size ≤ 4611686018427387903) (h : dB (bl s) = true) : Cp 102 #[.string s] w (Anl (bl s) w) := by
 obtain ⟨l, hl⟩ : ∃ l, bl s = l := ⟨_, rfl⟩
 have hlt := J9 s
 have hlen := By s
 rw [hl] at h hlt hlen ⊢
 have hA : ∀ c ∈ Aj l, c < 256 := fun c hc => hlt c (Tr c hc)
 have hAl := Cs l
 have C1 := fun W => Eo s 10 W (by omega) hs
 rw [hl, Zd] at C1
 have C2 := fun W => Ti (Ab (Aj l)) 46 W
 rw [Ak hA] at C2
 have e2 : ((Aj l).head? == some (46 : UInt8).toNat) = Ke (Aj l) := rfl
 rw [e2] at C2
 have key : ∀ T : List Nat, (∀ c ∈ T, c < 256) → T.length ≤ 4611686018427387903 → ∀ W, Cp 134 #[.string (Ab T)] W (ExpQ T W) := by
  intro T h1 h2 W
  have := Ld (Ab T) W (by rw [Ah]; exact h2)
  rw [Ak h1] at this
  exact this
 have ne : ∀ R : List Nat, R ≠ [] → (Ab R).toList.isEmpty = false := fun R hR => (K7 hR).2
 cases hd : Ke (Aj l)
 ·rw [hd] at C2
  have hF : dF l = [] := by unfold dF; rw [hd, if_neg (by simp)]
  have hT : dT l = Aj l := by unfold dT; rw [hd, if_neg (by simp)]
  have hW : dW l ≠ [] := by
   intro e
   unfold dB at h
   rw [hF, e] at h
   simp at h
  have C3 := key (Aj l) hA (by omega)
  unfold Anl
  have hX : dX l = exV (Aj l) := by unfold dX; rw [hT]
  have hR : dR l = exR (Aj l) := by unfold dR; rw [hT]
  rw [hF, hX, hR]
  unfold exV exR
  cases hb : Fu (Aj l)
  ·rw [if_neg (by simp), if_neg (by simp)]
   exact Ir s w _ _ _ _ 0 (ne _ hW) (Lh C1) (Lh C2) (Lh (fun W => (C3 W).mono fun e w' x => Uc x hb))
  ·rw [if_pos rfl, if_pos rfl]
   exact I6 s w _ _ _ _ _ (ne _ hW) (Lh C1) (Lh C2) (Lh (fun W => (C3 W).mono fun e w' x => Nt x hb))
 ·rw [hd] at C2
  have hh : (Aj l).head? = some (46 : UInt8).toNat := beq_iff_eq.1 hd
  rw [if_pos hh] at C2
  have hF : dF l = Ag (Aj l).tail := by unfold dF; rw [hd, if_pos rfl]
  have hT : dT l = Aj (Aj l).tail := by unfold dT; rw [hd, if_pos rfl]
  have hA2 : ∀ c ∈ (Aj l).tail, c < 256 := fun c hc => hA c (Jt c hc)
  have hl2 : (Aj l).tail.length ≤ 4611686018427387903 := by rw [List.length_tail]; omega
  have C4 := fun W => Ua (Aj l).tail W hA2 hl2
  have hl3 := Cs (Aj l).tail
  have C3 := key (Aj (Aj l).tail) (fun c hc => hA2 c (Tr c hc)) (by omega)
  unfold Anl
  have hX : dX l = exV (Aj (Aj l).tail) := by unfold dX; rw [hT]
  have hR : dR l = exR (Aj (Aj l).tail) := by unfold dR; rw [hT]
  rw [hF, hX, hR]
  unfold exV exR
  by_cases hW : Ag l = []
  ·have hF2 : Ag (Aj l).tail ≠ [] := by
    intro e
    unfold dB dW at h
    rw [hF, e, hW] at h
    simp at h
   have C1 : ∀ W, Ct 96 #[.string s, .int .i64 10] (.tuple #[.string ⟨#[]⟩, .string (Ab (Aj l))]) W := by
    have C1' : ∀ W, Ct 96 #[.string s, .int .i64 10] (.tuple #[.string (Ab (Ag l)), .string (Ab (Aj l))]) W := C1
    rw [hW] at C1'
    exact C1'
   unfold dW
   rw [hW]
   cases hb : Fu (Aj (Aj l).tail)
   ·rw [if_neg (by simp), if_neg (by simp)]
    exact Ic s w _ _ _ _ ⟨#[]⟩ 0 (ne _ hF2) (Lh C1) (Lh C2) (Lh C4) (Lh (fun W => (C3 W).mono fun e w' x => Uc x hb))
   ·rw [if_pos rfl, if_pos rfl]
    exact Is s w _ _ _ _ _ _ (ne _ hF2) (Lh C1) (Lh C2) (Lh C4) (Lh (fun W => (C3 W).mono fun e w' x => Nt x hb))
  ·cases hb : Fu (Aj (Aj l).tail)
   ·rw [if_neg (by simp), if_neg (by simp)]
    exact H6 s w _ _ _ _ _ ⟨#[]⟩ 0 (ne _ hW) (Lh C1) (Lh C2) (Lh C4) (Lh (fun W => (C3 W).mono fun e w' x => Uc x hb))
   ·rw [if_pos rfl, if_pos rfl]
    exact Iu s w _ _ _ _ _ _ _ (ne _ hW) (Lh C1) (Lh C2) (Lh C4) (Lh (fun W => (C3 W).mono fun e w' x => Nt x hb))
theorem Py (s : ByteArray) (w : World) (hs : s.size ≤ 4611686018427387903) (h : dB (bl s) = false) :
  Cp 102 #[.string s] w (fun e w' => e = .returned (.tuple #[.agg #[.string ⟨#[]⟩, .string ⟨#[]⟩, .int .i64 0], .string ⟨#[]⟩, .bool false]) ∧ Below w.heap.size w w') := by
 obtain ⟨l, hl⟩ : ∃ l, bl s = l := ⟨_, rfl⟩
 have hlt := J9 s
 have hlen := By s
 rw [hl] at h hlt hlen
 have hA : ∀ c ∈ Aj l, c < 256 := fun c hc => hlt c (Tr c hc)
 have hAl := Cs l
 have C1 : ∀ W, Ct 96 #[.string s, .int .i64 10] (.tuple #[.string (Ab (Ag l)), .string (Ab (Aj l))]) W := by
  intro W
  have := Eo s 10 W (by omega) hs
  rw [hl, Zd] at this
  exact this
 have C2 := fun W => Ti (Ab (Aj l)) 46 W
 rw [Ak hA] at C2
 have e2 : ((Aj l).head? == some (46 : UInt8).toNat) = Ke (Aj l) := rfl
 rw [e2] at C2
 unfold dB dW at h
 have hW : Ag l = [] := by
  cases hr : Ag l with
  | nil => rfl
  | cons => rw [hr] at h; simp at h
 have hF : dF l = [] := by
  cases hr : dF l with
  | nil => rfl
  | cons => rw [hr, hW] at h; simp at h
 rw [hW] at C1
 cases hd : Ke (Aj l)
 ·rw [hd] at C2
  have hne : ¬ (Aj l).head? = some (46 : UInt8).toNat := by
   intro e
   unfold Ke at hd
   rw [e] at hd
   simp at hd
  rw [if_neg hne] at C2
  exact Lk s w _ (Lh C1) (Lh C2)
 ·rw [hd] at C2
  have hh : (Aj l).head? = some (46 : UInt8).toNat := beq_iff_eq.1 hd
  rw [if_pos hh] at C2
  have hA2 : ∀ c ∈ (Aj l).tail, c < 256 := fun c hc => hA c (Jt c hc)
  have hl2 : (Aj l).tail.length ≤ 4611686018427387903 := by rw [List.length_tail]; omega
  have C4 := fun W => Ua (Aj l).tail W hA2 hl2
  have hF2 : Ag (Aj l).tail = [] := by
   unfold dF at hF
   rw [hd, if_pos rfl] at hF
   exact hF
  rw [hF2] at C4
  exact Mo s w _ _ _ (Lh C1) (Lh C2) (Lh C4)
end
section
theorem Add {r s : Nat} (h : Ac r ≤ Ac s) : r ≤ s := by
 rcases Nat.lt_or_ge s r with h1 | h1
 ·have := Bz h1
  omega
 ·exact h1
theorem Ags {E D : Nat} {e' : Int} (hE : E ≤ 9007199254740992) (hD : D = 0 ∨ 4503599627370496 ≤ E) (hD2 : D ≤ 8000) (he : e' = (D : Int) - 1074) (w : World) : Cq 179 #[.float .f64 (fl E), .int .i64 e'] (.float .f64 (min (D * 4503599627370496 + E) 9218868437227405312)) w := by
 rcases Nat.lt_or_ge 2045 D with h | h
 ·obtain ⟨K, hK⟩ : ∃ K : Nat, K = 1074 := ⟨_, rfl⟩
  obtain ⟨y1, y2⟩ := Abs hE hK
  have hE2 : 4503599627370496 ≤ E := hD.resolve_left (by omega)
  have e1 := Ax 4503599627370496 K (by omega) (by omega)
  have h3 : K * 4503599627370496 + 4503599627370496 ≤ fl E := by
   refine Add ?_
   rw [e1, y2]
   exact Nat.mul_le_mul_right _ hE2
  have h4 := Kp (fl E) (D - 1074) w (by omega) y1 (by omega)
  have h5 : scl (fl E) (D - 1074) = 9218868437227405312 := by
   unfold scl
   rw [if_neg]
   have : K + 1 ≤ fl E / 4503599627370496 := by
    rw [Nat.le_div_iff_mul_le (by omega)]
    omega
   omega
  rw [h5] at h4
  rw [show e' = ((D - 1074 : Nat) : Int) by omega, Nat.min_eq_right (by omega)]
  exact h4
 ·exact Abn hE hD h he w
theorem Yx (n d L q H P r s E F : Nat) (two X : Int) (w : World) (hnb : n < 18446744073709551616) (hL : Lib.bitLen n = L) (hd0 : 1 ≤ d) (hd3 : d ≤ 10) (k1 : IntKind.i64.wrap (-1074 - two) = -1074 - two) (k2 : IntKind.i64.wrap ((L : Int) - 53) = (L : Int) - 53) (hd : max ((L : Int) - 53) (-1074 - two) = (d : Int))
  (q1 : (n : Int) / 2 ^ d = (q : Int)) (q2 : IntKind.u64.wrap (2 ^ d) = (P : Int)) (q3 : IntKind.u64.wrap ((P : Int) - 1) = (P : Int) - 1) (q4 : IntKind.u64.wrap (2 ^ (d - 1)) = (H : Int)) (q5 : bits BinOp.and IntKind.u64 (n : Int) ((P : Int) - 1) = (r : Int)) (q6 : bits BinOp.and IntKind.u64 (q : Int) 1 = (s : Int)) (q7 : IntKind.u64.wrap ((q : Int) + 1) = (q : Int) + 1) (q8 : wrap64 (two + (d : Int)) = X)
  (t1 : decide (H < r) = true) (hE : (q : Int) + 1 = (E : Int))
  (C2 : Hid (∀ W, Cq 179 #[.float .f64 (floatOfInt .f64 (E : Int)), .int .i64 X] (.float .f64 F) W)) :
  Ct 190 #[.int .u64 n, .int .i64 two] (.float .f64 F) w := by
 have C1 := Lh (fun W => (Tryz.bits_Len64 (n : Int) W (by omega) (by omega)).mono fun e w' h => And.intro h.1 h.2.symm)
 rw [Int.toNat_natCast, hL] at C1
 have k3 : (0 : Int) ≤ (d : Int) := by omega
 have k4 : (0 : Int) ≤ (d : Int) - 1 := by omega
 rw [← hE] at C2
 have Q1 := Lh q1
 have Q2 := Lh q2
 have Q3 := Lh q3
 have Q4 := Lh q4
 have Q5 := Lh q5
 have Q6 := Lh q6
 have Q7 := Lh q7
 have Q8 := Lh q8
 have T1 := Lh t1
 clear t1 hL hnb hE q1 q2 q3 q4 q5 q6 q7 q8
 go_enter Tryz.func190, Tryz.ntmps190
 go_wp2_with fail
 refine Sm (C1.out _) ?_
 go_wp2
 go_quiet (fail)
 have q1 := Q1.out
 have q2 := Q2.out
 have q3 := Q3.out
 have q4 := Q4.out
 have q5 := Q5.out
 have q6 := Q6.out
 have q7 := Q7.out
 have q8 := Q8.out
 have t1 := T1.out
 go_wp2_with fail
 refine Sm (C2.out _) ?_
 go_wp2
 go_ret
 exact ⟨rfl, Ad (Below.refl _ _) _⟩
theorem Zz (n d L q H P s E F : Nat) (two X : Int) (w : World) (hnb : n < 18446744073709551616) (hL : Lib.bitLen n = L) (hd0 : 1 ≤ d) (hd3 : d ≤ 10) (k1 : IntKind.i64.wrap (-1074 - two) = -1074 - two) (k2 : IntKind.i64.wrap ((L : Int) - 53) = (L : Int) - 53) (hd : max ((L : Int) - 53) (-1074 - two) = (d : Int))
  (q1 : (n : Int) / 2 ^ d = (q : Int)) (q2 : IntKind.u64.wrap (2 ^ d) = (P : Int)) (q3 : IntKind.u64.wrap ((P : Int) - 1) = (P : Int) - 1) (q4 : IntKind.u64.wrap (2 ^ (d - 1)) = (H : Int)) (q5 : bits BinOp.and IntKind.u64 (n : Int) ((P : Int) - 1) = (H : Int)) (q6 : bits BinOp.and IntKind.u64 (q : Int) 1 = (s : Int)) (q7 : IntKind.u64.wrap ((q : Int) + 1) = (q : Int) + 1) (q8 : wrap64 (two + (d : Int)) = X)
  (t3 : ((s : Int) == 1) = true) (hE : (q : Int) + 1 = (E : Int))
  (C2 : Hid (∀ W, Cq 179 #[.float .f64 (floatOfInt .f64 (E : Int)), .int .i64 X] (.float .f64 F) W)) :
  Ct 190 #[.int .u64 n, .int .i64 two] (.float .f64 F) w := by
 have C1 := Lh (fun W => (Tryz.bits_Len64 (n : Int) W (by omega) (by omega)).mono fun e w' h => And.intro h.1 h.2.symm)
 rw [Int.toNat_natCast, hL] at C1
 have k3 : (0 : Int) ≤ (d : Int) := by omega
 have k4 : (0 : Int) ≤ (d : Int) - 1 := by omega
 rw [← hE] at C2
 have Q1 := Lh q1
 have Q2 := Lh q2
 have Q3 := Lh q3
 have Q4 := Lh q4
 have Q5 := Lh q5
 have Q6 := Lh q6
 have Q7 := Lh q7
 have Q8 := Lh q8
 have T3 := Lh t3
 clear t3 hL hnb hE q1 q2 q3 q4 q5 q6 q7 q8
 go_enter Tryz.func190, Tryz.ntmps190
 go_wp2_with fail
 refine Sm (C1.out _) ?_
 go_wp2
 go_quiet (fail)
 have q1 := Q1.out
 have q2 := Q2.out
 have q3 := Q3.out
 have q4 := Q4.out
 have q5 := Q5.out
 have q6 := Q6.out
 have q7 := Q7.out
 have q8 := Q8.out
 have t3 := T3.out
 go_wp2_with fail
 refine Sm (C2.out _) ?_
 go_wp2
 go_ret
 exact ⟨rfl, Ad (Below.refl _ _) _⟩
theorem Y5 (n d L q H P s E F : Nat) (two X : Int) (w : World) (hnb : n < 18446744073709551616) (hL : Lib.bitLen n = L) (hd0 : 1 ≤ d) (hd3 : d ≤ 10) (k1 : IntKind.i64.wrap (-1074 - two) = -1074 - two) (k2 : IntKind.i64.wrap ((L : Int) - 53) = (L : Int) - 53) (hd : max ((L : Int) - 53) (-1074 - two) = (d : Int))
  (q1 : (n : Int) / 2 ^ d = (q : Int)) (q2 : IntKind.u64.wrap (2 ^ d) = (P : Int)) (q3 : IntKind.u64.wrap ((P : Int) - 1) = (P : Int) - 1) (q4 : IntKind.u64.wrap (2 ^ (d - 1)) = (H : Int)) (q5 : bits BinOp.and IntKind.u64 (n : Int) ((P : Int) - 1) = (H : Int)) (q6 : bits BinOp.and IntKind.u64 (q : Int) 1 = (s : Int)) (q7 : IntKind.u64.wrap ((q : Int) + 1) = (q : Int) + 1) (q8 : wrap64 (two + (d : Int)) = X)
  (t3 : ((s : Int) == 1) = false) (hE : (q : Int) = (E : Int))
  (C2 : Hid (∀ W, Cq 179 #[.float .f64 (floatOfInt .f64 (E : Int)), .int .i64 X] (.float .f64 F) W)) :
  Ct 190 #[.int .u64 n, .int .i64 two] (.float .f64 F) w := by
 have C1 := Lh (fun W => (Tryz.bits_Len64 (n : Int) W (by omega) (by omega)).mono fun e w' h => And.intro h.1 h.2.symm)
 rw [Int.toNat_natCast, hL] at C1
 have k3 : (0 : Int) ≤ (d : Int) := by omega
 have k4 : (0 : Int) ≤ (d : Int) - 1 := by omega
 rw [← hE] at C2
 have Q1 := Lh q1
 have Q2 := Lh q2
 have Q3 := Lh q3
 have Q4 := Lh q4
 have Q5 := Lh q5
 have Q6 := Lh q6
 have Q7 := Lh q7
 have Q8 := Lh q8
 have T3 := Lh t3
 clear t3 hL hnb hE q1 q2 q3 q4 q5 q6 q7 q8
 go_enter Tryz.func190, Tryz.ntmps190
 go_wp2_with fail
 refine Sm (C1.out _) ?_
 go_wp2
 go_quiet (fail)
 have q1 := Q1.out
 have q2 := Q2.out
 have q3 := Q3.out
 have q4 := Q4.out
 have q5 := Q5.out
 have q6 := Q6.out
 have q7 := Q7.out
 have q8 := Q8.out
 have t3 := T3.out
 go_wp2_with fail
 refine Sm (C2.out _) ?_
 go_wp2
 go_ret
 exact ⟨rfl, Ad (Below.refl _ _) _⟩
theorem Aan (n d L q H P r s E F : Nat) (two X : Int) (w : World) (hnb : n < 18446744073709551616) (hL : Lib.bitLen n = L) (hd0 : 1 ≤ d) (hd3 : d ≤ 10) (k1 : IntKind.i64.wrap (-1074 - two) = -1074 - two) (k2 : IntKind.i64.wrap ((L : Int) - 53) = (L : Int) - 53) (hd : max ((L : Int) - 53) (-1074 - two) = (d : Int))
  (q1 : (n : Int) / 2 ^ d = (q : Int)) (q2 : IntKind.u64.wrap (2 ^ d) = (P : Int)) (q3 : IntKind.u64.wrap ((P : Int) - 1) = (P : Int) - 1) (q4 : IntKind.u64.wrap (2 ^ (d - 1)) = (H : Int)) (q5 : bits BinOp.and IntKind.u64 (n : Int) ((P : Int) - 1) = (r : Int)) (q6 : bits BinOp.and IntKind.u64 (q : Int) 1 = (s : Int)) (q7 : IntKind.u64.wrap ((q : Int) + 1) = (q : Int) + 1) (q8 : wrap64 (two + (d : Int)) = X)
  (t1 : decide (H < r) = false) (t2 : ((r : Int) == (H : Int)) = false) (hE : (q : Int) = (E : Int))
  (C2 : Hid (∀ W, Cq 179 #[.float .f64 (floatOfInt .f64 (E : Int)), .int .i64 X] (.float .f64 F) W)) :
  Ct 190 #[.int .u64 n, .int .i64 two] (.float .f64 F) w := by
 have C1 := Lh (fun W => (Tryz.bits_Len64 (n : Int) W (by omega) (by omega)).mono fun e w' h => And.intro h.1 h.2.symm)
 rw [Int.toNat_natCast, hL] at C1
 have k3 : (0 : Int) ≤ (d : Int) := by omega
 have k4 : (0 : Int) ≤ (d : Int) - 1 := by omega
 rw [← hE] at C2
 have Q1 := Lh q1
 have Q2 := Lh q2
 have Q3 := Lh q3
 have Q4 := Lh q4
 have Q5 := Lh q5
 have Q6 := Lh q6
 have Q7 := Lh q7
 have Q8 := Lh q8
 have T1 := Lh t1
 have T2 := Lh t2
 clear t1 t2 hL hnb hE q1 q2 q3 q4 q5 q6 q7 q8
 go_enter Tryz.func190, Tryz.ntmps190
 go_wp2_with fail
 refine Sm (C1.out _) ?_
 go_wp2
 go_quiet (fail)
 have q1 := Q1.out
 have q2 := Q2.out
 have q3 := Q3.out
 have q4 := Q4.out
 have q5 := Q5.out
 have q6 := Q6.out
 have q7 := Q7.out
 have q8 := Q8.out
 have t1 := T1.out
 have t2 := T2.out
 go_wp2_with fail
 refine Sm (C2.out _) ?_
 go_wp2
 go_ret
 exact ⟨rfl, Ad (Below.refl _ _) _⟩
end
section
theorem Z4 {n : Nat} (hn : n < 9223372036854775808) : n < 2 ^ Lib.bitLen n ∧ (Lib.bitLen n = 0 ∨ 2 ^ (Lib.bitLen n - 1) ≤ n) ∧ Lib.bitLen n ≤ 63 := by
 have h63 := Lib.bitLen_le n 63 (by omega) (by rw [show (2 : Nat) ^ 63 = 9223372036854775808 by decide]; exact hn)
 rcases Nat.eq_zero_or_pos n with h0 | h0
 ·rw [h0, show Lib.bitLen 0 = 0 by decide]
  exact ⟨by decide, Or.inl rfl, by omega⟩
 ·have h := Lib.bitLenAux_bounds 64 n (by omega) (by omega)
  exact ⟨h.2.2, Or.inr h.2.1, h63⟩
theorem To (n : Nat) (two : Int) (w : World) (hn : n < 9223372036854775808) (h1 : -1076 ≤ two) (h2 : two ≤ 6000) (hb : two = -1076 ∨ 2 ^ 60 ≤ n) :
  Ct 190 #[.int .u64 n, .int .i64 two] (.float .f64 (rnd (n * 2 ^ (two + 1074).toNat) (2 ^ (-(two + 1074)).toNat))) w := by
 obtain ⟨b1, b2, b3⟩ := Z4 hn
 obtain ⟨L, hL⟩ : ∃ L, Lib.bitLen n = L := ⟨_, rfl⟩
 rw [hL] at b1 b2 b3
 have hL60 : two = -1076 ∨ 61 ≤ L := by
  rcases hb with h | h
  ·exact Or.inl h
  ·refine Or.inr ?_
   have := (Nat.pow_lt_pow_iff_right (a := 2) (by omega)).1 (Nat.lt_of_le_of_lt h b1)
   omega
 obtain ⟨d, hd⟩ : ∃ d : Nat, max ((L : Int) - 53) (-1074 - two) = (d : Int) := ⟨(max ((L : Int) - 53) (-1074 - two)).toNat, by omega⟩
 have hd2 : 2 ≤ d := by omega
 have hd3 : d ≤ 10 := by omega
 obtain ⟨D, hD⟩ : ∃ D : Nat, two + d + 1074 = (D : Int) := ⟨(two + d + 1074).toNat, by omega⟩
 obtain ⟨A, hA⟩ : ∃ A, (two + 1074).toNat = A := ⟨_, rfl⟩
 obtain ⟨B, hB⟩ : ∃ B, (-(two + 1074)).toNat = B := ⟨_, rfl⟩
 rw [hA, hB]
 obtain ⟨r1, r2, r3⟩ := Ahz (n := n) (L := L) (drop := d) (A := A) (B := B) (D := D) b1 b2 (by omega) (by omega) (by omega)
 rw [r1]
 obtain ⟨E, hE⟩ : ∃ E, Db n (2 ^ d) = E := ⟨_, rfl⟩
 rw [hE] at r2 r3 ⊢
 have C2 : Hid (∀ W, Cq 179 #[.float .f64 (floatOfInt .f64 (E : Int)), .int .i64 (two + d)] (.float .f64 (min (D * 4503599627370496 + E) 9218868437227405312)) W) :=
  Lh (fun W => Ags (D := D) r2 r3 (by omega) (by omega) W)
 obtain ⟨c, rfl⟩ : ∃ c, d = c + 1 := ⟨d - 1, by omega⟩
 have hP : 2 ^ (c + 1) = 2 * 2 ^ c := by rw [Nat.pow_succ, Nat.mul_comm]
 obtain ⟨H, hH⟩ : ∃ H, 2 ^ c = H := ⟨_, rfl⟩
 rw [hH] at hP
 have hH0 : 0 < H := by rw [← hH]; exact Az c
 have hH9 : H ≤ 512 := by
  rw [← hH]
  have := Nat.pow_le_pow_right (n := 2) (by omega) (show c ≤ 9 by omega)
  omega
 obtain ⟨P, hPP⟩ : ∃ P, 2 ^ (c + 1) = P := ⟨_, rfl⟩
 rw [hPP] at hP
 have cast : ∀ k : Nat, ((2 : Int) ^ k) = ((2 ^ k : Nat) : Int) := fun k => by simp
 obtain ⟨q, hq⟩ : ∃ q, n / P = q := ⟨_, rfl⟩
 obtain ⟨r, hr⟩ : ∃ r, n % P = r := ⟨_, rfl⟩
 have hql : q ≤ n := by rw [← hq]; exact Nat.div_le_self _ _
 have hrl : r < P := by rw [← hr]; exact Nat.mod_lt _ (by omega)
 have q1 : (n : Int) / 2 ^ (c + 1) = (q : Int) := by rw [cast, hPP, ← hq]; exact (Int.natCast_ediv n P).symm
 have q2 : IntKind.u64.wrap (2 ^ (c + 1)) = (P : Int) := by rw [cast, hPP]; exact IntWalk.u64_in _ (by omega)
 have q3 : IntKind.u64.wrap ((P : Int) - 1) = (P : Int) - 1 := IntWalk.u64_in _ (by omega)
 have q4 : IntKind.u64.wrap (2 ^ (c + 1 - 1)) = (H : Int) := by rw [Nat.add_sub_cancel, cast, hH]; exact IntWalk.u64_in _ (by omega)
 have q5 : bits BinOp.and IntKind.u64 (n : Int) ((P : Int) - 1) = (r : Int) := by
  rw [show ((P : Int) - 1) = ((P - 1 : Nat) : Int) by omega, u64_and_nat _ _ (by omega) (by omega), ← hPP, Nat.and_two_pow_sub_one_eq_mod, hPP, hr]
 have q6 : bits BinOp.and IntKind.u64 (q : Int) 1 = ((q % 2 : Nat) : Int) := by
  have := u64_and_nat q 1 (by omega) (by omega)
  rw [show ((1 : Nat) : Int) = 1 from rfl] at this
  rw [this, show (1 : Nat) = 2 ^ 1 - 1 from rfl, Nat.and_two_pow_sub_one_eq_mod]
 have q7 : IntKind.u64.wrap ((q : Int) + 1) = (q : Int) + 1 := IntWalk.u64_in _ (by omega)
 have q8 : wrap64 (two + ((c + 1 : Nat) : Int)) = two + ((c + 1 : Nat) : Int) := by
  unfold wrap64; omega
 have k1 : IntKind.i64.wrap (-1074 - two) = -1074 - two := IntWalk.i64_in _ (by omega)
 have k2 : IntKind.i64.wrap ((L : Int) - 53) = (L : Int) - 53 := IntWalk.i64_in _ (by omega)
 have hEE : E = if H < r ∨ (r = H ∧ q % 2 = 1) then q + 1 else q := by
  rw [← hE, hPP, hP, Zn, ← hP, hq, hr]
 rcases Nat.lt_trichotomy r H with h | h | h
 ·rw [if_neg (by omega)] at hEE
  exact Aan n (c + 1) L q H P r (q % 2) E _ two _ w (by omega) hL (by omega) hd3 k1 k2 hd q1 q2 q3 q4 q5 q6 q7 q8 (decide_eq_false (by omega)) (by rw [beq_eq_false_iff_ne]; omega) (by rw [hEE]) C2
 ·subst h
  by_cases ho : q % 2 = 1
  ·rw [if_pos (Or.inr ⟨rfl, ho⟩)] at hEE
   exact Zz n (c + 1) L q r P (q % 2) E _ two _ w (by omega) hL (by omega) hd3 k1 k2 hd q1 q2 q3 q4 q5 q6 q7 q8 (by rw [ho]; rfl) (by rw [hEE]; rfl) C2
  ·rw [if_neg (by omega)] at hEE
   exact Y5 n (c + 1) L q r P (q % 2) E _ two _ w (by omega) hL (by omega) hd3 k1 k2 hd q1 q2 q3 q4 q5 q6 q7 q8 (by rw [beq_eq_false_iff_ne]; omega) (by rw [hEE]) C2
 ·rw [if_pos (Or.inl h)] at hEE
  exact Yx n (c + 1) L q H P r (q % 2) E _ two _ w (by omega) hL (by omega) hd3 k1 k2 hd q1 q2 q3 q4 q5 q6 q7 q8 (decide_eq_true h) (by rw [hEE]; rfl) C2
theorem K8 {a b x y p q : Nat} (ha1 : 2 ^ p ≤ a) (ha2 : a < 2 ^ (p + 1)) (hb1 : 2 ^ q ≤ b) (hb2 : b < 2 ^ (q + 1)) (k : Nat) :
  (p + 1 + x ≤ k + q + y → a * 2 ^ x / (b * 2 ^ y) < 2 ^ k) ∧ (k + q + 1 + y ≤ p + x → 2 ^ k ≤ a * 2 ^ x / (b * 2 ^ y)) := by
 have hX := Az x
 have hY := Az y
 have hb : 0 < b := Nat.lt_of_lt_of_le (Az q) hb1
 constructor
 ·intro h
  rw [Nat.div_lt_iff_lt_mul (Nat.mul_pos hb hY)]
  have h1 : a * 2 ^ x < 2 ^ (p + 1) * 2 ^ x := Nat.mul_lt_mul_of_pos_right ha2 hX
  have h2 : 2 ^ k * (2 ^ q * 2 ^ y) ≤ 2 ^ k * (b * 2 ^ y) := Nat.mul_le_mul_left _ (Nat.mul_le_mul_right _ hb1)
  have h3 : 2 ^ (p + 1) * 2 ^ x ≤ 2 ^ k * (2 ^ q * 2 ^ y) := by
   rw [← Nat.pow_add, ← Nat.pow_add, ← Nat.pow_add]
   exact Nat.pow_le_pow_right (by omega) (by omega)
  omega
 ·intro h
  rw [Nat.le_div_iff_mul_le (Nat.mul_pos hb hY)]
  have h1 : 2 ^ p * 2 ^ x ≤ a * 2 ^ x := Nat.mul_le_mul_right _ ha1
  have h2 : 2 ^ k * (b * 2 ^ y) ≤ 2 ^ k * (2 ^ (q + 1) * 2 ^ y) := Nat.mul_le_mul_left _ (Nat.mul_le_mul_right _ (Nat.le_of_lt hb2))
  have h3 : 2 ^ k * (2 ^ (q + 1) * 2 ^ y) ≤ 2 ^ p * 2 ^ x := by
   rw [← Nat.pow_add, ← Nat.pow_add, ← Nat.pow_add]
   exact Nat.pow_le_pow_right (by omega) (by omega)
  omega
def Aog (m : Nat) (ten : Int) (w : World) (e : Ending) (w' : World) : Prop := e = .returned (.float .f64 (Bp m ten)) ∧ Below w.heap.size w w'
theorem Qq {w : World} {A : Option Addr} {n c m T B bt bb q nn F : Nat} {ten x1 x2 x3 last two : Int} {ex : Bool} (hA : NV w A n c m)
  (C1 : Hid (∀ W, NV W A n c m → Cp 186 #[.slice A n c, .int .i64 ten] W (NRet T W)))
  (C3 : Hid (∀ W A1 n1 c1, NV W A1 n1 c1 1 → Cp 186 #[.slice A1 n1 c1, .int .i64 (-ten)] W (NRet B W)))
  (C4 : Hid (∀ W A1 n1 c1, NV W A1 n1 c1 T → Cq 176 #[.slice A1 n1 c1] (.int .i64 (bt : Nat)) W))
  (C5 : Hid (∀ W A1 n1 c1, NV W A1 n1 c1 B → Cq 176 #[.slice A1 n1 c1] (.int .i64 (bb : Nat)) W))
  (C6 : Hid (∀ W A1 n1 c1 A2 n2 c2, NV W A1 n1 c1 T → NV W A2 n2 c2 B → Cp 188 #[.slice A1 n1 c1, .slice A2 n2 c2, .int .i64 two] W fun e w' => ∃ A3 n3 c3, e = .returned (.tuple #[.slice A3 n3 c3, .bool ex]) ∧ NV w' A3 n3 c3 q ∧ Below W.heap.size W w'))
  (C7 : Hid (∀ W A1 n1 c1, NV W A1 n1 c1 q → Cq 189 #[.slice A1 n1 c1] (.int .u64 q) W))
  (C8 : Hid (∀ W, Ct 190 #[.int .u64 nn, .int .i64 last] (.float .f64 F) W))
  (k1 : IntKind.i64.wrap (-ten) = -ten) (k2 : IntKind.i64.wrap ((bt : Int) - (bb : Int)) = x1) (k3 : IntKind.i64.wrap (x1 + ten) = x2) (k4 : IntKind.i64.wrap (x2 - 62) = x3) (hmax : max x3 (-1076) = last) (k5 : IntKind.i64.wrap (ten - last) = two)
  (hor : (ex = true ∧ nn = q) ∨ (ex = false ∧ bits BinOp.or IntKind.u64 (q : Int) 1 = (nn : Int))) :
  Ct 136 #[.slice A n c, .int .i64 ten] (.float .f64 F) w := by
 have C2 := Lh (fun W => nof 1 (by omega) W)
 have HA := Lh hA
 clear hA
 rcases hor with ⟨rfl, rfl⟩ | ⟨rfl, hor⟩
 all_goals
  go_enter Tryz.func136, Tryz.ntmps136
  go_wp2_with fail
  refine (C1.out _ HA.out).mono ?_
  rintro e w1 ⟨A1, n1, c1, rfl, g1, b1⟩
  have G1 := Lh g1
  have B1 := Lh b1
  clear g1 b1
  go_wp2_with fail
  refine (C2.out _).mono ?_
  rintro e w2 ⟨A2, n2, c2, rfl, g2, b2⟩
  have G2 := Lh g2
  have G1' := Lh (G1.out.step b2)
  have B2 := Lh (Aa B1.out b2)
  clear g2 b2
  go_wp2_with fail
  refine (C3.out _ _ _ _ G2.out).mono ?_
  rintro e w3 ⟨A3, n3, c3, rfl, g3, b3⟩
  have G3 := Lh g3
  have G1'' := Lh (G1'.out.step b3)
  have B3 := Lh (Aa B2.out b3)
  clear g3 b3
  go_wp2_with fail
  refine Sm (C4.out _ _ _ _ G1''.out) ?_
  go_wp2_with fail
  refine Sm (C5.out _ _ _ _ G3.out) ?_
  go_wp2_with fail
  refine (C6.out _ _ _ _ _ _ _ G1''.out G3.out).mono ?_
  rintro e w4 ⟨A4, n4, c4, rfl, g4, b4⟩
  have G4 := Lh g4
  have B4 := Lh (Aa B3.out b4)
  clear g4 b4
  go_wp2_with fail
  refine Sm (C7.out _ _ _ _ G4.out) ?_
  go_wp2_with fail
  refine Bm (C8.out _) fun w5 b5 => ?_
  have B5 := Lh (Aa B4.out b5)
  clear b5
  go_wp2
  go_ret
  exact ⟨rfl, B5.out⟩
end
section
theorem Agm {q s : Nat} (hq : q < 9223372036854775808) (hs : s ≤ 1) : q ||| s < 9223372036854775808 ∧ q ≤ q ||| s := by
 refine ⟨?_, Nat.left_le_or⟩
 have : q ||| s < 2 ^ 63 := Nat.or_lt_two_pow (by rw [show (2 : Nat) ^ 63 = 9223372036854775808 by decide]; exact hq) (by rw [show (2 : Nat) ^ 63 = 9223372036854775808 by decide]; omega)
 rw [show (2 : Nat) ^ 63 = 9223372036854775808 by decide] at this
 exact this
theorem Jx {w : World} {A : Option Addr} {n c m : Nat} (ten : Int) (hA : NV w A n c m) (hm : bln m ≤ 3300) (h0 : 0 < m) (ht1 : -1200 ≤ ten) (ht2 : ten ≤ 400) :
  Cp 136 #[.slice A n c, .int .i64 ten] w (Aog m ten w) := by
 have f1 := Hs ten.toNat
 have f2 := Hs (-ten).toNat
 have g1 := Fq m (5 ^ ten.toNat)
 have p1 : 0 < 5 ^ ten.toNat := Nat.pow_pos (by omega)
 have p2 : 0 < 5 ^ (-ten).toNat := Nat.pow_pos (by omega)
 have e1 : 1 * 5 ^ (-ten).toNat = 5 ^ (-ten).toNat := Nat.one_mul _
 have C1 := Lh (fun W (h : NV W A n c m) => Gk ten h (by omega) (by omega) (by omega))
 have C3 := Lh (fun W A1 n1 c1 (h : NV W A1 n1 c1 1) => Gk (-ten) h (by rw [show bln 1 = 1 by decide]; omega) (by omega) (by omega))
 rw [e1] at C3
 obtain ⟨T, hT⟩ : ∃ T, m * 5 ^ ten.toNat = T := ⟨_, rfl⟩
 obtain ⟨B, hB⟩ : ∃ B, 5 ^ (-ten).toNat = B := ⟨_, rfl⟩
 have hT0 : 0 < T := by rw [← hT]; exact Nat.mul_pos h0 p1
 rw [hT] at C1 g1
 rw [hB] at C3 f2 p2
 obtain ⟨u1, u2, u3⟩ := Be hT0
 obtain ⟨v1, v2, v3⟩ := Be p2
 have C4 := Lh (fun W A1 n1 c1 (h : NV W A1 n1 c1 T) => Abl h (by omega))
 have C5 := Lh (fun W A1 n1 c1 (h : NV W A1 n1 c1 B) => Abl h (by omega))
 have cr := fun (t : Int) (h1 : -8000 ≤ t) (h2 : t ≤ 8000) W A1 n1 c1 A2 n2 c2 (h : NV W A1 n1 c1 T) (g : NV W A2 n2 c2 B) => Oz t h g (by omega) (by omega) p2 h1 h2
 obtain ⟨bt, hbt⟩ : ∃ bt, bln T = bt := ⟨_, rfl⟩
 obtain ⟨bb, hbb⟩ : ∃ bb, bln B = bb := ⟨_, rfl⟩
 rw [hbt] at C4 u1 u2 u3 g1
 rw [hbb] at C5 v1 v2 v3 f2
 obtain ⟨p, rfl⟩ : ∃ p, bt = p + 1 := ⟨bt - 1, by omega⟩
 obtain ⟨r, rfl⟩ : ∃ r, bb = r + 1 := ⟨bb - 1, by omega⟩
 rw [Nat.add_sub_cancel] at u1 v1
 obtain ⟨x1, hx1⟩ : ∃ x1, ((p + 1 : Nat) : Int) - ((r + 1 : Nat) : Int) = x1 := ⟨_, rfl⟩
 obtain ⟨x2, hx2⟩ : ∃ x2, x1 + ten = x2 := ⟨_, rfl⟩
 obtain ⟨x3, hx3⟩ : ∃ x3, x2 - 62 = x3 := ⟨_, rfl⟩
 obtain ⟨last, hlast⟩ : ∃ last, max x3 (-1076) = last := ⟨_, rfl⟩
 obtain ⟨two, htwo⟩ : ∃ two, ten - last = two := ⟨_, rfl⟩
 have C6 := cr two (by omega) (by omega)
 obtain ⟨q1, q2⟩ := K8 (x := two.toNat) (y := (-two).toNat) u1 u2 v1 v2 63
 have q3 := (K8 (x := two.toNat) (y := (-two).toNat) u1 u2 v1 v2 60).2
 have hql := q1 (by omega)
 have hqb : last = -1076 ∨ 2 ^ 60 ≤ T * 2 ^ two.toNat / (B * 2 ^ (-two).toNat) := by
  by_cases hh : last = -1076
  ·exact Or.inl hh
  ·exact Or.inr (q3 (by omega))
 obtain ⟨N, hN⟩ : ∃ N, T * 2 ^ two.toNat = N := ⟨_, rfl⟩
 obtain ⟨d, hd⟩ : ∃ d, B * 2 ^ (-two).toNat = d := ⟨_, rfl⟩
 have hd0 : 0 < d := by rw [← hd]; exact Nat.mul_pos p2 (Az _)
 rw [hN, hd] at C6 hql hqb
 obtain ⟨q, hq⟩ : ∃ q, N / d = q := ⟨_, rfl⟩
 obtain ⟨t, ht⟩ : ∃ t, N % d = t := ⟨_, rfl⟩
 have hNd : N = q * d + t := by rw [← hq, ← ht, Nat.mul_comm]; exact (Nat.div_add_mod N d).symm
 have htd : t < d := by rw [← ht]; exact Nat.mod_lt _ hd0
 unfold Alp at C6
 rw [ht, hq] at C6
 rw [hq] at hql hqb
 rw [show (2 : Nat) ^ 63 = 9223372036854775808 by decide] at hql
 obtain ⟨s, hs⟩ : ∃ s, (if t = 0 then 0 else 1) = s := ⟨_, rfl⟩
 have hs1 : s ≤ 1 := by rw [← hs]; split <;> omega
 obtain ⟨o1, o2⟩ := Agm hql hs1
 obtain ⟨nn, hnn⟩ : ∃ nn, q ||| s = nn := ⟨_, rfl⟩
 have key := Afo (m := m) (N := N) (n := d) (q := q) (t := t) (s := s) (ten := ten) (last := last) (by rw [← hN, ← hT, htwo]) (by rw [← hd, ← hB, show last - ten = -two by omega]) hNd htd hs.symm hqb
 rw [hnn] at key o1 o2
 have C8 := fun W => To nn last W o1 (by omega) (by omega) (by
  rcases hqb with h | h
  ·exact Or.inl h
  ·exact Or.inr (Nat.le_trans h o2))
 rw [← key] at C8
 refine Qq (q := q) (nn := nn) (two := two) (last := last) (x1 := x1) (x2 := x2) (x3 := x3) (ex := decide (t = 0)) hA C1 C3 C4 C5 (Lh C6)
  (Lh (fun W A1 n1 c1 h => Df h (by omega))) (Lh C8) (IntWalk.i64_in _ (by omega)) (by rw [IntWalk.i64_in _ (by omega)]; exact hx1) (by rw [IntWalk.i64_in _ (by omega)]; exact hx2) (by rw [IntWalk.i64_in _ (by omega)]; exact hx3) hlast (by rw [IntWalk.i64_in _ (by omega)]; exact htwo) ?_
 by_cases h : t = 0
 ·refine Or.inl ⟨decide_eq_true h, ?_⟩
  rw [← hnn, ← hs, if_pos h, Nat.or_zero]
 ·refine Or.inr ⟨decide_eq_false h, ?_⟩
  have := Fh q 1 (by omega) (by omega)
  rw [show ((1 : Nat) : Int) = 1 from rfl] at this
  rw [this, ← hnn, ← hs, if_neg h]
end
section
theorem Gm {l : List Nat} (h : ∀ c ∈ l, Bw c = true) : ∀ c ∈ l, c < 256 := fun c hc => by
 have := Bs.1 (h c hc)
 omega
theorem Ro (l : List Nat) (w : World) (hd : ∀ c ∈ l, Bw c = true) (h0 : l ≠ []) (hl : l.length ≤ 801) : Cp 130 #[.string (Ab l), .int .i64 10] w (NOk (num 10 l) w) := by
 have hb := Ak (Gm hd)
 have h := Va (Ab l) 10 w (by rw [Ah]; omega) (by omega) (by omega) (Acc (by rw [hb]; exact h0) (by rw [hb]; exact fun c hc => (In (hd c hc)).2))
 rw [Uj, hb] at h
 refine h.mono fun e w' x => NOk.of (Cv ?_) x
 have h1 := Hn hd
 have h2 := Cx (Nat.le_of_lt h1)
 have h3 := He l.length
 omega
theorem Acj {l : List Nat} (hd : ∀ c ∈ l, Bw c = true) (hl : l.length ≤ 801) : bln (num 10 l) ≤ 3300 := by
 have h2 := Cx (Nat.le_of_lt (Hn hd))
 have h3 := He l.length
 omega
theorem Aaj (W F : List Nat) (X : Int) (w : World) (hW : ∀ c ∈ W, Bw c = true) (hF : ∀ c ∈ F, Bw c = true) (hs : W.length + F.length ≤ 4611686018427387903) (hX : -10995116277760 < X ∧ X < 10995116277760) :
  Ct 103 #[.agg #[.string (Ab W), .string (Ab F), .int .i64 X]] (.float .f64 (Bp (num 10 (W ++ F)) (X - F.length))) w := by
 obtain ⟨f, hf⟩ : ∃ f, W ++ F = f := ⟨_, rfl⟩
 have hd : ∀ c ∈ f, Bw c = true := by
  intro c hc
  rw [← hf] at hc
  rcases List.mem_append.1 hc with h | h
  ·exact hW c h
  ·exact hF c h
 have hfl : f.length = W.length + F.length := by rw [← hf, List.length_append]
 rw [hf]
 have hg : ∀ c ∈ ldz f, Bw c = true := fun c hc => hd c (E3 hc)
 have hh : ∀ c ∈ trz (ldz f), Bw c = true := fun c hc => hg c (Abj hc)
 have hgl : (ldz f).length ≤ f.length := (List.dropWhile_sublist _).length_le
 have htl := Tb (ldz f)
 have hcat : Ab W ++ Ab F = Ab f := by rw [Bc, hf]
 have C1 : Hid (∀ V, Ct 126 #[.string (Ab W ++ Ab F), .string ⟨#[48]⟩] (.string (Ab (ldz f))) V) := Lh (fun V => by
  have := Aa3 (Ab f) V
  rw [Ak (Gm hd)] at this
  rw [hcat]
  exact this)
 have C2 : Hid (∀ V, Ct 135 #[.string (Ab (ldz f)), .string ⟨#[48]⟩] (.string (Ab (trz (ldz f)))) V) := Lh (fun V => by
  have := Abu (Ab (ldz f)) V (by rw [Ah]; omega)
  rw [Ak (Gm hg)] at this
  exact this)
 have z1 := Ah (ldz f)
 have z2 := Ah F
 have z3 := Ah (trz (ldz f))
 have z4 := Ah W
 obtain ⟨P, hP⟩ : ∃ P, ((ldz f).length : Int) + (X - F.length) = P := ⟨_, rfl⟩
 have k1 : IntKind.i64.wrap (((Ab (ldz f)).size : Int) - ((Ab F).size : Int)) = ((ldz f).length : Int) - F.length := by rw [z1, z2]; exact IntWalk.i64_in _ (by omega)
 have k2 : IntKind.i64.wrap (((ldz f).length : Int) - F.length + X) = P := by rw [IntWalk.i64_in _ (by omega)]; omega
 by_cases h0 : trz (ldz f) = []
 ·rw [Adl h0]
  exact Uw _ _ _ _ X _ P w (by omega) C1 C2 k1 k2 (by rw [h0, Lib.toList_data]; rfl)
 ·have t1 := (K7 h0).2
  by_cases h1 : P < -323
  ·rw [Aiy hd (by omega)]
   exact Aag _ _ _ _ X _ P w (by omega) C1 C2 k1 k2 t1 (decide_eq_true h1)
  ·by_cases h2 : 309 < P
   ·rw [Afd hd h0 (by omega)]
    exact Wf _ _ _ _ X _ P w (by omega) C1 C2 k1 k2 t1 (decide_eq_false h1) (decide_eq_true h2)
   ·by_cases h3 : 800 < (trz (ldz f)).length
    ·rw [Adf hd h3 (by omega), show ((ldz f).length : Int) + (X - F.length) - 801 = P - 801 by omega]
     obtain ⟨l, hl⟩ : ∃ l, (trz (ldz f)).take 800 ++ [49] = l := ⟨_, rfl⟩
     have ll : l.length = 801 := by rw [← hl, List.length_append, List.length_take]; simp; omega
     have ld : ∀ c ∈ l, Bw c = true := by
      intro c hc
      rw [← hl] at hc
      rcases List.mem_append.1 hc with h | h
      ·exact hh c (List.mem_of_mem_take h)
      ·rw [List.mem_singleton.1 h]; rfl
     have lh : l.head? ≠ some 48 := by
      rw [← hl]
      have := Ol (Ch f)
      cases ht : trz (ldz f) with
      | nil => exact absurd ht h0
      | cons a b =>
       rw [show List.dropWhile (fun x => x == 48) f = ldz f from rfl, ht] at this
       exact this
     have l0 : l ≠ [] := fun e => by rw [e] at ll; simp at ll
     have lp : 0 < num 10 l := Nat.lt_of_lt_of_le (Au _) (Hj ld l0 lh)
     have hstr : (Ab (trz (ldz f))).extract 0 800 ++ (⟨#[49]⟩ : ByteArray) = Ab l := by
      rw [Fb, Ak (Gm hh), ← hl, ← Bc]
      rfl
     rw [hl]
     have t5 : (800 : Int) ≤ ((Ab (trz (ldz f))).size : Int) := by rw [z3]; omega
     have t4 : decide (800 < ((Ab (trz (ldz f))).size : Int)) = true := decide_eq_true (by rw [z3]; omega)
     have t6 : ((Ab (trz (ldz f))).extract 0 800).size = 800 := by
      rw [Fb, Ak (Gm hh), Ah, List.length_take]
      exact Nat.min_eq_left (by omega)
     have k3 : IntKind.i64.wrap (P - 801) = P - 801 := IntWalk.i64_in _ (by omega)
     have C3 : Hid (∀ V, Cp 130 #[.string ((Ab (trz (ldz f))).extract 0 800 ++ (⟨#[49]⟩ : ByteArray)), .int .i64 10] V (NOk (num 10 l) V)) := Lh (fun V => by
      rw [hstr]
      exact Ro l V ld l0 (by omega))
     have C4 : Hid (∀ V A n c, NV V A n c (num 10 l) → Ct 136 #[.slice A n c, .int .i64 (P - 801)] (.float .f64 (Bp (num 10 l) (P - 801))) V) := Lh (fun V A n c h => Jx (P - 801) h (Acj ld (by omega)) lp (by omega) (by omega))
     exact Wu _ _ _ _ X _ P _ (num 10 l) _ w (by omega) C1 C2 k1 k2 t1 (decide_eq_false h1) (decide_eq_false h2) t4 t5 t6 k3 C3 C4
    ·rw [Nj, show ((ldz f).length : Int) + (X - F.length) - (trz (ldz f)).length = P - (trz (ldz f)).length by omega]
     have lp : 0 < num 10 (trz (ldz f)) := Nat.lt_of_lt_of_le (Au _) (Hj hh h0 (Ol (Ch f)))
     have C3 : Hid (∀ V, Cp 130 #[.string (Ab (trz (ldz f))), .int .i64 10] V (NOk (num 10 (trz (ldz f))) V)) := Lh (fun V => Ro _ V hh h0 (by omega))
     obtain ⟨Z, hZ⟩ : ∃ Z, P - ((trz (ldz f)).length : Int) = Z := ⟨_, rfl⟩
     rw [hZ]
     have C4 : Hid (∀ V A n c, NV V A n c (num 10 (trz (ldz f))) → Ct 136 #[.slice A n c, .int .i64 Z] (.float .f64 (Bp (num 10 (trz (ldz f))) Z)) V) := Lh (fun V A n c h => Jx Z h (Acj hh (by omega)) lp (by omega) (by omega))
     have k3 : IntKind.i64.wrap (P - ((Ab (trz (ldz f))).size : Int)) = Z := by rw [z3, ← hZ]; exact IntWalk.i64_in _ (by omega)
     have t4 : decide (800 < ((Ab (trz (ldz f))).size : Int)) = false := decide_eq_false (by rw [z3]; omega)
     exact Tq _ _ _ _ X _ P Z (num 10 (trz (ldz f))) _ w (by omega) C1 C2 k1 k2 t1 (decide_eq_false h1) (decide_eq_false h2) t4 k3 C3 C4
theorem Y3 (l : List Nat) (w : World) (hs : l.length ≤ 4611686018427387903) :
  Ct 103 #[.agg #[.string (Ab (dW l)), .string (Ab (dF l)), .int .i64 (dX l)]] (.float .f64 (dV l)) w := by
 have h1 := Cs l
 have h2 : (dF l).length ≤ (Aj l).length := by
  unfold dF
  split
  ·have := Cs (Aj l).tail
   rw [List.length_tail] at this
   omega
  ·simp
 refine Aaj (dW l) (dF l) (dX l) w (Cg l) ?_ (by unfold dW; omega) (Zi _)
 intro c hc
 unfold dF at hc
 split at hc
 ·exact Cg _ c hc
 ·simp at hc
end
section
theorem Akp (N : Nat) : fl N = Bp N 0 := by
 obtain ⟨K, hK, hd⟩ := Fj
 rw [Jo, Ahm false (a := K) (b := 0) (by omega), hd, show (0 : Int).toNat = 0 from rfl, show (-(0 : Int)).toNat = 0 from rfl, Nat.pow_zero, Nat.mul_one, Jp]
theorem Yk {N : Nat} {D : Nat} (hD : D = 1024) (h : 2 ^ D ≤ N) : Bp N 0 = 9218868437227405312 := by
 obtain ⟨K, hK, hd⟩ := Fj
 rw [hd]
 refine Nd (Au _) ?_
 obtain ⟨E, hE⟩ : ∃ E : Nat, E = 2046 := ⟨_, rfl⟩
 have e1 := Ax 4503599627370496 E (by omega) (by omega)
 rw [show E * 4503599627370496 + 4503599627370496 = 9218868437227405312 by omega] at e1
 rw [e1, show (0 : Int).toNat = 0 from rfl, show (-(0 : Int)).toNat = 0 from rfl, Nat.pow_zero, Nat.mul_one, Nat.mul_one]
 have h2 : 4503599627370496 * 2 ^ E = 2 ^ D * 2 ^ K := by
  rw [show (4503599627370496 : Nat) = 2 ^ 52 from rfl, ← Nat.pow_add, ← Nat.pow_add]
  exact congrArg (fun k => 2 ^ k) (show 52 + E = D + K by omega)
 rw [h2]
 exact Nat.mul_le_mul_right _ h
theorem Aj7 {c : Nat} (h : dgt c = 0) : c = 48 := by
 unfold dgt at h
 split at h
 ·omega
 ·split at h
  ·omega
  ·split at h <;> omega
theorem Xy {r : Nat} {g : List Nat} (h0 : g ≠ []) (hh : g.head? ≠ some 48) : r ^ (g.length - 1) ≤ num r g := by
 cases g with
 | nil => exact absurd rfl h0
 | cons c l =>
  have h1 : dgt c ≠ 0 := fun e => hh (by rw [Aj7 e]; rfl)
  rw [E6]
  have h3 : 1 * r ^ l.length ≤ dgt c * r ^ l.length := Nat.mul_le_mul_right _ (by omega)
  simp only [List.length_cons, Nat.add_sub_cancel]
  omega
theorem Aas (s g : ByteArray) (r : Nat) (w : World)
  (C1 : Hid (∀ W, Ct 126 #[.string s, .string ⟨#[48]⟩] (.string g) W)) (t1 : decide (1024 < (g.size : Int)) = true) :
  Ct 98 #[.string s, .int .i64 r] (.float .f64 9218868437227405312) w := by
 have C2 := Lh (fun W => Dr W)
 go_enter Tryz.func98, Tryz.ntmps98
 go_wp2_with fail
 refine Bm (C1.out _) fun w1 b1 => ?_
 go_wp2_with fail
 refine Sm (C2.out _) ?_
 go_wp2
 go_ret
 exact ⟨rfl, b1⟩
theorem Aam (s g : ByteArray) (r N : Nat) (w : World)
  (C1 : Hid (∀ W, Ct 126 #[.string s, .string ⟨#[48]⟩] (.string g) W)) (t1 : decide (1024 < (g.size : Int)) = false)
  (C2 : Hid (∀ W, Cp 130 #[.string s, .int .i64 r] W (NOk N W)))
  (C3 : Hid (∀ W A n c, NV W A n c N → Ct 131 #[.slice A n c] (.float .f64 (fl N)) W)) :
  Ct 98 #[.string s, .int .i64 r] (.float .f64 (fl N)) w := by
 go_enter Tryz.func98, Tryz.ntmps98
 go_wp2_with fail
 refine Bm (C1.out _) fun w1 b1 => ?_
 have B1 := Lh b1
 clear b1
 go_wp2_with fail
 refine (C2.out _).mono ?_
 rintro e w2 ⟨A, n, c, rfl, g2, b2⟩
 have G2 := Lh g2
 have B2 := Lh (Aa B1.out b2)
 clear g2 b2
 go_wp2_with fail
 refine Bm (C3.out _ _ _ _ G2.out) fun w3 b3 => ?_
 have B3 := Lh (Aa B2.out b3)
 clear b3
 go_wp2
 go_ret
 exact ⟨rfl, B3.out⟩
theorem Rm (r : Nat) (l : List Nat) : Fs r (ldz l) = Fs r l := by unfold Fs ldz; rw [Cu]
theorem Yy (l : List Nat) (r : Nat) (w : World) (h2 : 2 ≤ r) (h36 : r ≤ 36) (h0 : l ≠ []) (hd : ∀ c ∈ l, dgt c < r) (hb : ∀ c ∈ l, c < 256) (hs : l.length ≤ 4611686018427387903) :
  Ct 98 #[.string (Ab l), .int .i64 r] (.float .f64 (Fs r l)) w := by
 have C1 : Hid (∀ V, Ct 126 #[.string (Ab l), .string ⟨#[48]⟩] (.string (Ab (ldz l))) V) := Lh (fun V => by
  have := Aa3 (Ab l) V
  rw [Ak hb] at this
  exact this)
 have z1 := Ah (ldz l)
 by_cases h : 1024 < (ldz l).length
 ·have key : Fs r l = 9218868437227405312 := by
   rw [← Rm]
   obtain ⟨D, hD⟩ : ∃ D : Nat, D = 1024 := ⟨_, rfl⟩
   refine Yk hD ?_
   refine Nat.le_trans ?_ (Xy (r := r) (fun e => by rw [e] at h; simp at h) (Ch l))
   exact Nat.le_trans (Nat.pow_le_pow_left h2 D) (Nat.pow_le_pow_right (by omega) (by omega))
  rw [key]
  exact Aas _ _ r w C1 (decide_eq_true (by rw [z1]; omega))
 ·have hdl : ∀ c ∈ ldz l, dgt c < r := fun c hc => hd c (E3 hc)
  have hnum : num r (ldz l) = num r l := Cu r l
  have hbn : bln (num r l) ≤ 30000 := by
   rw [← hnum]
   have a1 := Cx (Nat.le_of_lt (Zm hdl))
   have a2 := Ne r (ldz l).length
   have a3 : bln r ≤ 6 := Gd (by omega)
   have a4 : bln r * (ldz l).length ≤ 6 * 1024 := Nat.mul_le_mul a3 (by omega)
   omega
  have C2 : Hid (∀ V, Cp 130 #[.string (Ab l), .int .i64 r] V (NOk (num r l) V)) := Lh (fun V => by
   have hbl := Ak hb
   have h := Va (Ab l) r V (by rw [Ah]; exact hs) h2 h36 (Acc (by rw [hbl]; exact h0) (by rw [hbl]; exact hd))
   rw [Uj, hbl] at h
   exact h.mono fun e w' x => NOk.of (Cv hbn) x)
  have C3 : Hid (∀ V A n c, NV V A n c (num r l) → Ct 131 #[.slice A n c] (.float .f64 (fl (num r l))) V) := Lh (fun V A n c g => by
   have a1 := Bb hbn
   rw [g.len] at a1
   have := Yq A n c (wds (num r l)) V g.len g.cap (by omega) g.row
   rw [Ae] at this
   exact this)
  have key : Fs r l = fl (num r l) := (Akp _).symm
  rw [key]
  exact Aam _ _ r _ w C1 (decide_eq_false (by rw [z1]; omega)) C2 C3
end
section
theorem Ad8 (l : List Nat) (w : World) (hl : ∀ c ∈ l, c < 128) (hs : l.length ≤ 140737488355328) :
  Ct 97 #[.string (Ab l)] (.string (Ab (l.map F5))) w := by
 have hb : ∀ c ∈ l, c < 256 := fun c hc => Nat.lt_trans (hl c hc) (by omega)
 have h := Tryz.strings_ToLower_ascii (Ab l) w (by rw [Ah]; exact hs) (An9 (by rw [Ak hb]; exact hl))
 rw [Akf (by rw [Ak hb]; exact hl), Ak hb] at h
 exact h
theorem Ajz {l : List Nat} (hl : ∀ c ∈ l, c < 128) : ∀ c ∈ l.map F5, c < 256 := by
 intro c hc
 obtain ⟨d, hd, rfl⟩ := List.mem_map.1 hc
 have := hl d hd
 unfold F5
 split <;> omega
theorem Aks (l : List Nat) (r : Nat) (w : World) (hr : r ≤ 36) (hl : ∀ c ∈ l, c < 128) (hs : l.length ≤ 140737488355328) :
  Ct 96 #[.string (Ab (l.map F5)), .int .i64 r] (.tuple #[.string (Ab ((l.takeWhile (dgq r)).map F5)), .string (Ab ((l.dropWhile (dgq r)).map F5))]) w := by
 have h := Eo (Ab (l.map F5)) r w hr (by rw [Ah, List.length_map]; omega)
 rw [Ak (Ajz hl), Ag4, Ahr] at h
 exact h
theorem Aga (r : Nat) (l : List Nat) : Fs r (l.map F5) = Fs r l := by unfold Fs; rw [Aci]
theorem Agi (r : Nat) (l : List Nat) : ∀ c ∈ l.takeWhile (dgq r), dgt c < r := by
 induction l with
 | nil => intro c hc; simp at hc
 | cons d t ih =>
  intro c hc
  rw [List.takeWhile_cons] at hc
  cases hd : dgq r d
  ·rw [hd] at hc; simp at hc
  ·rw [hd] at hc
   simp only [if_true] at hc
   rcases List.mem_cons.1 hc with rfl | h
   ·exact of_decide_eq_true hd
   ·exact ih c h
theorem O0 (p : Nat → Bool) : ∀ l : List Nat, l.dropWhile p = [] ↔ l.all p = true
 | [] => by simp
 | c :: l => by
  by_cases h : p c = true
  ·rw [List.dropWhile_cons_of_pos h, List.all_cons, h, Bool.true_and]
   exact O0 p l
  ·rw [List.dropWhile_cons_of_neg h, List.all_cons]
   simp [h]
theorem Uz (p : Nat → Bool) : ∀ l : List Nat, l.all p = true → l.takeWhile p = l
 | [], _ => rfl
 | c :: l, h => by
  rw [List.all_cons, Bool.and_eq_true] at h
  rw [List.takeWhile_cons_of_pos h.1, Uz p l h.2]
theorem Aae : dgq 16 = Pl := rfl
theorem Alx (s u : ByteArray) (w : World) (C1 : Hid (∀ W, Cq 95 #[.string s] (.tuple #[.string u, .bool false]) W)) :
  Ct 72 #[.string s] (.tuple #[.float .f64 0, .bool false]) w := by
 go_enter Tryz.func72, Tryz.ntmps72
 go_wp2_with fail
 refine Sm (C1.out _) ?_
 go_wp2
 go_ret2
 exact ⟨rfl, Below.refl _ _⟩
theorem U6 (s u v f q : ByteArray) (w : World) (C1 : Hid (∀ W, Cq 95 #[.string s] (.tuple #[.string u, .bool true]) W))
  (C2 : Hid (∀ W, Ct 97 #[.string u] (.string v) W))
  (C3 : Hid (∀ W, Ct 96 #[.string v, .int .i64 16] (.tuple #[.string f, .string q]) W))
  (t : f.toList.isEmpty = true ∨ (f.toList.isEmpty = false ∧ q.toList.isEmpty = false)) :
  Ct 72 #[.string s] (.tuple #[.float .f64 0, .bool false]) w := by
 rcases t with t1 | ⟨t1, t2⟩
 all_goals
  go_enter Tryz.func72, Tryz.ntmps72
  go_wp2_with fail
  refine Sm (C1.out _) ?_
  go_wp2_with fail
  refine Bm (C2.out _) fun w1 b1 => ?_
  go_wp2_with fail
  refine Bm (C3.out _) fun w2 b2 => ?_
  have B2 := Lh (Aa b1 b2)
  clear b1 b2
  go_wp2
  go_ret2
  exact ⟨rfl, B2.out⟩
theorem Aih (s u v f q : ByteArray) (F : Nat) (w : World) (C1 : Hid (∀ W, Cq 95 #[.string s] (.tuple #[.string u, .bool true]) W))
  (C2 : Hid (∀ W, Ct 97 #[.string u] (.string v) W))
  (C3 : Hid (∀ W, Ct 96 #[.string v, .int .i64 16] (.tuple #[.string f, .string q]) W))
  (C4 : Hid (∀ W, Ct 98 #[.string f, .int .i64 16] (.float .f64 F) W))
  (t1 : f.toList.isEmpty = false) (t2 : q.toList.isEmpty = true) :
  Ct 72 #[.string s] (.tuple #[.float .f64 F, .bool true]) w := by
 go_enter Tryz.func72, Tryz.ntmps72
 go_wp2_with fail
 refine Sm (C1.out _) ?_
 go_wp2_with fail
 refine Bm (C2.out _) fun w1 b1 => ?_
 go_wp2_with fail
 refine Bm (C3.out _) fun w2 b2 => ?_
 have B2 := Lh (Aa b1 b2)
 clear b1 b2
 go_wp2_with fail
 refine Bm (C4.out _) fun w3 b3 => ?_
 have B3 := Lh (Aa B2.out b3)
 clear b3
 go_wp2
 go_ret2
 exact ⟨rfl, B3.out⟩
end
section
theorem Lc (l : List Nat) (w : World) (hl : ∀ c ∈ l, c < 128) (hs : l.length ≤ 140737488355328) :
  Ct 72 #[.string (Ab l)] (.tuple #[.float .f64 (if hxB l = true then Fs 16 (l.drop 2) else 0 : Nat), .bool (hxB l)]) w := by
 have hb : ∀ c ∈ l, c < 256 := fun c hc => Nat.lt_trans (hl c hc) (by omega)
 have C1 : ∀ W, Cq 95 #[.string (Ab l)] (.tuple #[.string (Ab (if hxA l = true then l.drop 2 else l)), .bool (hxA l)]) W := by
  intro W
  have := Xm (Ab l) W
  rw [Ak hb] at this
  exact this
 obtain ⟨u, hu⟩ : ∃ u, l.drop 2 = u := ⟨_, rfl⟩
 have hul : ∀ c ∈ u, c < 128 := fun c hc => hl c (by rw [← hu] at hc; exact List.mem_of_mem_drop hc)
 have hus : u.length ≤ 140737488355328 := by rw [← hu, List.length_drop]; omega
 have hx : hxB l = (hxA l && !u.isEmpty && u.all Pl) := by unfold hxB; rw [hu]
 rw [hu]
 rw [hu] at C1
 cases ha : hxA l
 ·rw [ha] at C1 hx
  rw [hx, Bool.false_and, Bool.false_and, if_neg (by simp)]
  exact Alx _ _ w (Lh C1)
 ·rw [ha, if_pos rfl] at C1
  rw [ha, Bool.true_and] at hx
  have C2 := Lh (fun W => Ad8 u W hul hus)
  have C3 := Lh (fun W => Aks u 16 W (by omega) hul hus)
  have ne : ∀ R : List Nat, R ≠ [] → (Ab R).toList.isEmpty = false := fun R hR => (K7 hR).2
  have em : (Ab []).toList.isEmpty = true := by rw [Lib.toList_data]; rfl
  by_cases h1 : u.takeWhile (dgq 16) = []
  ·have hn : hxB l = false := by
    rw [hx]
    cases u with
    | nil => rfl
    | cons c t =>
     have : dgq 16 c = false := by
      cases h : dgq 16 c
      ·rfl
      ·rw [List.takeWhile_cons_of_pos h] at h1; cases h1
     show (true && (Pl c && t.all Pl)) = false
     rw [← Aae, this]
     rfl
   rw [hn, if_neg (by simp)]
   exact U6 _ _ _ _ _ w (Lh C1) C2 C3 (Or.inl (by rw [h1]; exact em))
  ·by_cases h2 : u.dropWhile (dgq 16) = []
   ·have h3 := (O0 _ _).1 h2
    have h4 := Uz _ _ h3
    have hu0 : u ≠ [] := fun e => h1 (by rw [e]; rfl)
    have hn : hxB l = true := by
     rw [hx, ← Aae, h3, Bool.and_true]
     cases u with
     | nil => exact absurd rfl hu0
     | cons => rfl
    rw [hn, if_pos rfl]
    rw [h4, h2] at C3
    have hd : ∀ c ∈ u, dgt c < 16 := by
     have := Agi 16 u
     rw [h4] at this
     exact this
    have C4 : ∀ W, Ct 98 #[.string (Ab (u.map F5)), .int .i64 16] (.float .f64 (Fs 16 u)) W := by
     intro W
     have := Yy (u.map F5) 16 W (by omega) (by omega) (by simpa using hu0) (by
      intro c hc
      obtain ⟨d, hd2, rfl⟩ := List.mem_map.1 hc
      rw [Sx]
      exact hd d hd2) (Ajz hul) (by rw [List.length_map]; omega)
     rw [Aga] at this
     exact this
    exact Aih _ _ _ _ _ _ w (Lh C1) C2 C3 (Lh C4) (ne _ (by simpa using hu0)) em
   ·have hn : hxB l = false := by
     rw [hx, ← Aae]
     cases h3 : u.all (dgq 16)
     ·rw [Bool.and_false]
     ·exact absurd ((O0 _ _).2 h3) h2
    rw [hn, if_neg (by simp)]
    exact U6 _ _ _ _ _ w (Lh C1) C2 C3 (Or.inr ⟨ne _ (by simpa using h1), ne _ (by simpa using h2)⟩)
theorem Ajc (x : Nat) (hx : x < 18446744073709551616) : bits BinOp.and IntKind.u64 (x : Int) 9223372036854775808 = ((if Cd x = true then 9223372036854775808 else 0 : Nat) : Int) := by
 show IntKind.u64.wrap ((BitVec.ofInt 64 (x : Int) &&& BitVec.ofInt 64 9223372036854775808).toNat : Int) = _
 have e1 : (BitVec.ofInt 64 (x : Int)) = BitVec.ofNat 64 x := by rw [BitVec.ofInt_natCast]
 have e2 : (BitVec.ofInt 64 9223372036854775808) = BitVec.ofNat 64 (2 ^ 63) := by decide
 rw [e1, e2, BitVec.toNat_and, BitVec.toNat_ofNat, BitVec.toNat_ofNat, Nat.mod_eq_of_lt (by omega : x < 2 ^ 64), Nat.mod_eq_of_lt (by omega : 2 ^ 63 < 2 ^ 64), IntKind.wrap_u64]
 have h2 : x &&& 2 ^ 63 = x / 2 ^ 63 % 2 * 2 ^ 63 := by
  apply Nat.eq_of_testBit_eq
  intro i
  rw [Nat.testBit_and, Nat.testBit_two_pow]
  by_cases h : 63 = i
  ·subst h
   rw [decide_eq_true rfl, Bool.and_true, Nat.testBit_mul_two_pow, Nat.testBit_eq_decide_div_mod_eq]
   simp
  ·rw [decide_eq_false h, Bool.and_false, Nat.testBit_mul_two_pow]
   by_cases hi : 63 ≤ i
   ·have : x / 2 ^ 63 % 2 < 2 ^ (i - 63) := Nat.lt_of_lt_of_le (Nat.mod_lt _ (by omega)) (by have := Nat.pow_le_pow_right (n := 2) (by omega) (show 1 ≤ i - 63 by omega); omega)
    rw [Nat.testBit_lt_two_pow this]; simp
   ·simp [hi]
 rw [h2]
 unfold Cd
 have h4 : x / 2 ^ 63 % 2 = 0 ∨ x / 2 ^ 63 % 2 = 1 := by omega
 rw [show (9223372036854775808 : Nat) = 2 ^ 63 from rfl]
 rcases h4 with h4 | h4 <;> rw [h4] <;> simp
theorem Amg (s : Bool) {r : Nat} (hr : r < 9223372036854775808) : bits BinOp.or IntKind.u64 (r : Int) ((if s = true then 9223372036854775808 else 0 : Nat) : Int) = ((Ieee.double.word s r : Nat) : Int) := by
 cases s
 ·rw [if_neg (by simp), Fh r 0 (by omega) (by omega), Nat.or_zero]; rfl
 ·rw [if_pos rfl, Fh r 9223372036854775808 (by omega) (by omega)]
  have := Nat.two_pow_add_eq_or_of_lt (i := 63) (b := r) hr 1
  rw [Nat.or_comm, show (9223372036854775808 : Nat) = 2 ^ 63 * 1 from rfl, ← this]
  rfl
theorem Qw (f x : Nat) (w : World) (hf : f < 18446744073709551616) (hx : x < 18446744073709551616) : Cq 101 #[.float .f64 f, .float .f64 x] (.float .f64 (Ieee.double.word (Cd x) (Bq f))) w := by
 have h1 := Cb f w
 have h2 := Cb x w
 have h3 := Xe f hf
 have h4 := Ajc x hx
 have hr : Bq f < 9223372036854775808 := Nat.mod_lt _ (by omega)
 have h5 := Amg (Cd x) hr
 have h6 := Ca (Ieee.double.word (Cd x) (Bq f)) w
 obtain ⟨a, ha⟩ : ∃ a, Bq f = a := ⟨_, rfl⟩
 obtain ⟨b, hb⟩ : ∃ b : Nat, (if Cd x = true then 9223372036854775808 else 0 : Nat) = b := ⟨_, rfl⟩
 rw [ha] at h3 h5 h6 ⊢
 rw [hb] at h4 h5
 obtain ⟨c, hc⟩ : ∃ c, Ieee.double.word (Cd x) a = c := ⟨_, rfl⟩
 rw [hc] at h5 h6 ⊢
 clear hf hx hr ha hb hc
 go_enter Tryz.func101, Tryz.ntmps101
 go_wp2
 go_ret
 exact ⟨rfl, rfl⟩
theorem Akz (b : Bool) (x : Nat) : Ieee.double.word b x = sgW b x := by cases b <;> rfl
theorem Alo (b : Bool) : Cd (sgF b) = b := by cases b <;> rfl
theorem Iy (x : Nat) (b : Bool) (w : World) (hx : x < 9223372036854775808) :
  Cq 101 #[.float .f64 x, .float .f64 (sgF b)] (.float .f64 (sgW b x)) w := by
 have h := Qw x (sgF b) w (by omega) (by cases b <;> decide)
 rw [Alo, show Bq x = x from Nat.mod_eq_of_lt hx, Akz] at h
 exact h
end
section
theorem Vp (s u v : ByteArray) (b : Bool) (w : World)
  (C1 : Hid (∀ W, Cq 99 #[.string s] (.tuple #[.float .f64 (sgF b : Nat), .string u]) W))
  (C2 : Hid (∀ W, Cq 100 #[.string u, .string ⟨#[73, 110, 102, 105, 110, 105, 116, 121]⟩] (.tuple #[.string v, .bool true]) W)) :
  Ct 73 #[.string s] (.tuple #[.float .f64 (sgW b 9218868437227405312), .string v, .bool true]) w := by
 have C3 := Lh (fun W => Dr W)
 have C4 := Lh (fun W => Iy 9218868437227405312 b W (by omega))
 go_enter Tryz.func73, Tryz.ntmps73
 go_wp2_with fail
 refine Sm (C1.out _) ?_
 go_wp2_with fail
 refine Sm (C2.out _) ?_
 go_wp2_with fail
 refine Sm (C3.out _) ?_
 go_wp2_with fail
 refine Sm (C4.out _) ?_
 go_wp2
 refine bodyPost_ret (Bg rfl _ _ _) rfl ?_
 exact ⟨rfl, Below.refl _ _⟩
theorem Vn (s u v p q r : ByteArray) (X : Int) (F : Nat) (b : Bool) (w : World) (hF : F < 9223372036854775808)
  (C1 : Hid (∀ W, Cq 99 #[.string s] (.tuple #[.float .f64 (sgF b : Nat), .string u]) W))
  (C2 : Hid (∀ W, Cq 100 #[.string u, .string ⟨#[73, 110, 102, 105, 110, 105, 116, 121]⟩] (.tuple #[.string v, .bool false]) W))
  (C3 : Hid (∀ W, Ct 102 #[.string u] (.tuple #[.agg #[.string p, .string q, .int .i64 X], .string r, .bool true]) W))
  (C4 : Hid (∀ W, Ct 103 #[.agg #[.string p, .string q, .int .i64 X]] (.float .f64 F) W)) :
  Ct 73 #[.string s] (.tuple #[.float .f64 (sgW b F), .string r, .bool true]) w := by
 have C5 := Lh (fun W => Iy F b W hF)
 clear hF
 go_enter Tryz.func73, Tryz.ntmps73
 go_wp2_with fail
 refine Sm (C1.out _) ?_
 go_wp2_with fail
 refine Sm (C2.out _) ?_
 go_wp2_with fail
 refine Bm (C3.out _) fun w1 b1 => ?_
 have B1 := Lh (Fd (.cells #[.string p, .string q, .int .i64 X] 102) b1)
 clear b1
 go_wp2_with fail
 refine Bm (C4.out _) fun w2 b2 => ?_
 have B2 := Lh (Aa B1.out b2)
 clear b2
 go_wp2_with fail
 refine Sm (C5.out _) ?_
 go_wp2
 refine bodyPost_ret (Bg rfl _ _ _) rfl ?_
 exact ⟨rfl, B2.out⟩
theorem Uh (s u v : ByteArray) (b : Bool) (w : World)
  (C1 : Hid (∀ W, Cq 99 #[.string s] (.tuple #[.float .f64 (sgF b : Nat), .string u]) W))
  (C2 : Hid (∀ W, Cq 100 #[.string u, .string ⟨#[73, 110, 102, 105, 110, 105, 116, 121]⟩] (.tuple #[.string v, .bool false]) W))
  (C3 : Hid (∀ W, Ct 102 #[.string u] (.tuple #[.agg #[.string ⟨#[]⟩, .string ⟨#[]⟩, .int .i64 0], .string ⟨#[]⟩, .bool false]) W)) :
  Ct 73 #[.string s] (.tuple #[.float .f64 0, .string ⟨#[]⟩, .bool false]) w := by
 go_enter Tryz.func73, Tryz.ntmps73
 go_wp2_with fail
 refine Sm (C1.out _) ?_
 go_wp2_with fail
 refine Sm (C2.out _) ?_
 go_wp2_with fail
 refine Bm (C3.out _) fun w1 b1 => ?_
 have B1 := Lh (Fd (.cells #[.string ⟨#[]⟩, .string ⟨#[]⟩, .int .i64 0] 102) b1)
 clear b1
 go_wp2
 refine bodyPost_ret (Bg rfl _ _ _) rfl ?_
 exact ⟨rfl, B1.out⟩
theorem Ut (N : Nat) (e : Int) : Bp N e ≤ 9218868437227405312 := by unfold Bp rnd; exact Nat.min_le_right _ _
def nbB (l : List Nat) : Bool := P7 (Bj l) || dB (Bj l)
def nbV (l : List Nat) : Nat := if P7 (Bj l) = true then sgW (Eh l) 9218868437227405312 else if dB (Bj l) = true then sgW (Eh l) (dV (Bj l)) else 0
def nbR (l : List Nat) : List Nat := if P7 (Bj l) = true then (Bj l).drop 8 else if dB (Bj l) = true then dR (Bj l) else []
theorem Vk (l : List Nat) (w : World) (hl : ∀ c ∈ l, c < 256) (hs : l.length ≤ 140737488355328) :
  Ct 73 #[.string (Ab l)] (.tuple #[.float .f64 (nbV l), .string (Ab (nbR l)), .bool (nbB l)]) w := by
 have C1 : ∀ W, Cq 99 #[.string (Ab l)] (.tuple #[.float .f64 (sgF (Eh l) : Nat), .string (Ab (Bj l))]) W := by
  intro W
  have := Hd (Ab l) W
  rw [Ak hl] at this
  exact this
 obtain ⟨u, hu⟩ : ∃ u, Bj l = u := ⟨_, rfl⟩
 have hul : ∀ c ∈ u, c < 256 := fun c hc => hl c (Ye c (by rw [hu]; exact hc))
 have hus : u.length ≤ 140737488355328 := by rw [← hu]; exact Nat.le_trans (Vs l) hs
 rw [hu] at C1
 have C2 := fun W => Oh (Ab u) ⟨#[73, 110, 102, 105, 110, 105, 116, 121]⟩ W
 rw [Ak hul, show bl ⟨#[73, 110, 102, 105, 110, 105, 116, 121]⟩ = infL from rfl, show (⟨#[73, 110, 102, 105, 110, 105, 116, 121]⟩ : ByteArray).size = 8 from rfl] at C2
 have e1 : infL.isPrefixOf u = P7 u := rfl
 rw [e1] at C2
 unfold nbV nbR nbB
 rw [hu]
 cases hi : P7 u
 ·rw [hi, if_neg (by simp)] at C2
  simp only [Bool.false_eq_true, if_false, Bool.false_or]
  cases hd : dB u
  ·simp only [Bool.false_eq_true, if_false]
   refine Uh _ _ _ _ w (Lh C1) (Lh C2) (Lh (fun W => ?_))
   have := Py (Ab u) W (by rw [Ah]; omega) (by rw [Ak hul]; exact hd)
   exact this
  ·simp only [if_true]
   refine Vn _ _ _ _ _ _ _ _ _ w (by have := Ut (num 10 (dW u ++ dF u)) (dX u - (dF u).length); unfold dV; omega) (Lh C1) (Lh C2) (Lh (fun W => ?_)) (Lh (fun W => Y3 u W (by omega)))
   have := Mh (Ab u) W (by rw [Ah]; omega) (by rw [Ak hul]; exact hd)
   rw [Ak hul] at this
   exact this
 ·rw [hi, if_pos rfl] at C2
  simp only [if_true, Bool.true_or]
  exact Vp _ _ _ _ w (Lh C1) (Lh C2)
end
section
theorem Aek {B : Nat} {l : List UInt8} {w w' : World} (h : Bld B l w) (hb : Below w.heap.size w w') : Bld B l w' := by
 have hg : w.grownBy w' none := ⟨hb.os, hb.tape, hb.output, hb.size, fun k hk _ => hb.block k hk⟩
 have key : ∀ p, Lib.BuilderAtF 79 5 B B p (Lib.byteCells l) w → Lib.BuilderAtF 79 5 B B p (Lib.byteCells l) w' := by
  intro p hA
  have hlt := Lib.BuilderAtF.lt hA
  obtain ⟨hB, v, hbk, hown, hne⟩ := hA
  exact ⟨hB, v, by rw [hb.block B hlt]; exact hbk, hown.kept hg (by cases v.ownBlock <;> simp), hne⟩
 rcases h with h | h
 ·exact .inl (key _ h)
 ·exact .inr (key _ h)
def nr0 (u : Nat) : Nat := if 127 < u then 0 else u
theorem Ang (u : Nat) : nr0 u < 128 := by unfold nr0; split <;> omega
theorem Nw {w w' : World} {R B n : Nat} {f : Nat → Value} (h : w.rowIs R 68 n f) (ho : Lib.OthersKept 5 (some B) w w') (hR : R ≠ B) : w'.rowIs R 68 n f := by
 obtain ⟨c, hb, hn, hc⟩ := h
 refine ⟨c, ho R _ hb (by simpa using hR) (fun c' fz e => ?_), hn, hc⟩
 injection e with _ e2 _
 exact absurd e2 (by decide)
theorem P5 (l : List UInt8) (u : Nat) (hu : u < 256) : Lib.byteCells l ++ [Value.int .u8 (u : Int)] = Lib.byteCells (l ++ [UInt8.ofNat u]) := by
 rw [Lib.byteCells_append]
 simp [Lib.byteCells]
 omega
theorem Xo (s : ByteArray) (w : World) (hs : s.size ≤ 140737488355328) :
  Ct 70 #[.string s] (.string (Ab (nrw 0 (us s)))) w := by
 have hl := Gp s
 have hs63 : s.size ≤ maxLen := by unfold maxLen; omega
 have hm : ((ln s : Nat) : Int) ≤ 70368744177664 := by omega
 have H63 := Lh hs63
 have C1 := Lh (fun W => J4 s W H63.out)
 have C2 := Lh (fun W => Acv s W hs)
 have HS := Lh (show ln s ≤ 70368744177664 by omega)
 have hg : Cp 80 #[.pointer (some ⟨w.heap.size, 0, none⟩), .int .i64 (ln s : Nat)] (w.alloc (.cells #[.pointer none, .slice none 0 0] 79)) fun e w' => e = .returned (.tuple #[]) ∧ (Lib.BuilderAt 79 5 w.heap.size w.heap.size (.pointer (some ⟨w.heap.size, 0, none⟩)) [] w' ∧ Below w.heap.size (w.alloc (.cells #[.pointer none, .slice none 0 0] 79)) w') :=
  Tryz.Builder_Grow_fresh w.heap.size w.heap.size (ln s) _ (Nat.le_refl _) (Sd w _) (by simp) (by omega)
 have HG := Lh hg
 clear hl hs hs63 hg
 go_enter Tryz.func70, Tryz.ntmps70
 go_wp2_with fail
 refine Sm (C1.out _) ?_
 go_wp2_with fail
 refine HG.out.mono ?_
 rintro e w1 ⟨rfl, hb1, bl1⟩
 have hbl : Below w.heap.size w w1 := ((Below.refl w.heap.size w).alloc (Nat.le_refl _) _).trans bl1
 have I1 := Lh (show Bld w.heap.size [] w1 from Lib.IsBuilderF.of (.inr hb1))
 have B1 := Lh hbl
 clear hb1 bl1 hbl
 go_wp2_with fail
 refine (C2.out _).mono ?_
 rintro e w2 ⟨rfl, hr2, b2⟩
 have R2 := Lh hr2
 have hlt1 := Ah3 I1.out
 have I2 := Lh (Aek I1.out b2)
 have B2 := Lh (Aa B1.out b2)
 have HR := Lh (show w1.heap.size ≠ w.heap.size by omega)
 obtain ⟨R, hR⟩ : ∃ R, w1.heap.size = R := ⟨_, rfl⟩
 rw [hR] at R2 HR ⊢
 clear hr2 b2 hlt1 hR
 go_wp2
 go_loopw [12] (fun i wr => ∃ k : Nat, i = .int .i64 k ∧ k ≤ ln s ∧ Hid (Bld w.heap.size ((((us s).take k).map nr0).map UInt8.ofNat) wr) ∧ Hid (wr.rowIs R 68 (ln s) (fun j => .int .u16 (un s j : Nat))) ∧ Hid (Below w.heap.size w wr)) (fun i _ => ln s - (intOf i).toNat)
 case atStart => exact ⟨0, rfl, Nat.zero_le _, I2, R2, B2⟩
 case round =>
  obtain ⟨k, rfl, hk, I3, R3, B3⟩ := hrel
  by_cases hlt : k < ln s
  ·have hcell : wr.cell? ⟨R, k, none⟩ = some (.int .u16 (un s k : Nat)) := R3.out.cell hlt
   have hul := Amq s k
   have HST := Lh (J1 s k hlt)
   obtain ⟨u, hu⟩ : ∃ u, un s k = u := ⟨_, rfl⟩
   rw [hu] at hcell hul HST
   have hc1 := Ang u
   have hlen : (Lib.byteCells ((((us s).take k).map nr0).map UInt8.ofNat)).length + 1 ≤ 140737488355328 := by
    rw [Lib.byteCells_length, List.length_map, List.length_map, List.length_take]
    have := HS.out
    omega
   have C4 := Lh (fun c : Int => Tryz.Builder_WriteByte_k w.heap.size w.heap.size _ c wr I3.out hlen B3.out.size)
   have KEY := Lh (show ∀ w', Lib.BuilderAtF 79 5 w.heap.size w.heap.size (.pointer (some ⟨w.heap.size, 0, none⟩)) (Lib.byteCells ((((us s).take k).map nr0).map UInt8.ofNat) ++ [.int .u8 (nr0 u : Nat)]) w' → Bld w.heap.size ((((us s).take (k + 1)).map nr0).map UInt8.ofNat) w' from fun w' h => by
    rw [P5 _ _ (by omega)] at h
    rw [HST.out, List.map_append, List.map_append]
    exact Or.inr h)
   have a1 : (0 : Int) ≤ (k : Int) := by omega
   have a2 : (k : Int) < (ln s : Int) := by omega
   clear hlen
   by_cases hb : 127 < u
   ·have e0 : nr0 u = 0 := if_pos hb
    rw [e0] at KEY
    have t1 : decide ((127 : Int) < (u : Int)) = true := decide_eq_true (by omega)
    clear hu hul hc1 hb e0
    go_wp2_with fail
    refine (C4.out 0).mono ?_
    rintro e w3 ⟨rfl, hI, hb3, ho3⟩
    have I4 := Lh (KEY.out _ hI)
    have R4 := Lh (Nw R3.out ho3 HR.out)
    have B4 := Lh (B3.out.trans hb3)
    clear hI hb3 ho3
    go_wp2
    exact ⟨⟨k + 1, by go_num, by omega, I4, R4, B4⟩, by simp [intOf]; omega⟩
   ·have e0 : nr0 u = u := if_neg hb
    rw [e0] at KEY
    have t1 : decide ((127 : Int) < (u : Int)) = false := decide_eq_false (by omega)
    have k1 : IntKind.u8.wrap (u : Int) = (u : Int) := IntWalk.u8_in _ (by omega)
    clear hu hul hc1 hb e0
    go_wp2_with fail
    refine (C4.out _).mono ?_
    rintro e w3 ⟨rfl, hI, hb3, ho3⟩
    have I4 := Lh (KEY.out _ hI)
    have R4 := Lh (Nw R3.out ho3 HR.out)
    have B4 := Lh (B3.out.trans hb3)
    clear hI hb3 ho3
    go_wp2
    exact ⟨⟨k + 1, by go_num, by omega, I4, R4, B4⟩, by simp [intOf]; omega⟩
  ·obtain ⟨T, hT⟩ : ∃ T, (((us s).take k).map nr0).map UInt8.ofNat = T := ⟨_, rfl⟩
   have I5 := I3.out
   rw [hT] at I5
   have hS := Lh (Tryz.Builder_String_any_k w.heap.size w.heap.size T wr I5 B3.out.size)
   have HZ := Lh (show (⟨T.toArray⟩ : ByteArray) = Ab (nrw 0 (us s)) from by
    rw [← hT, show (us s).take k = us s by rw [show k = ln s by omega]; exact Lu s]
    rfl)
   clear hT I5 I3
   go_wp2_with (go_at_call 82; refine hS.out.mono ?_; rintro e w2 ⟨rfl, _, hb2, _⟩)
   go_ret
   exact ⟨by rw [← HZ.out]; rfl, B3.out.trans hb2⟩
end
section
theorem Ajq (w : World) : Cq 74 #[] (.float .f64 Me) w := by
 have h1 : (callFunc 69 #[.int .u64 9221120237041090560]).run Tryz.prog w = .ok (.value (.float .f64 9221120237041090560)) w := Ca 9221120237041090560 w
 go_enter Tryz.func74, Tryz.ntmps74
 go_wp2
 go_ret
 exact ⟨rfl, rfl⟩
theorem Sf {u : List Nat} (h : P7 u = true) : u = infL ++ u.drop 8 := by
 unfold P7 at h
 obtain ⟨t, ht⟩ := List.isPrefixOf_iff_prefix.1 h
 rw [← ht, show (infL ++ t).drop 8 = t from rfl]
theorem Al9 {u : List Nat} (h : P7 u = true) : dB u = false := by
 rw [Sf h]
 rfl
theorem Abk {u : List Nat} : (P7 u = true ∧ u.drop 8 = []) ↔ u = infL := by
 constructor
 ·rintro ⟨h1, h2⟩
  have := Sf h1
  rw [h2, List.append_nil] at this
  exact this
 ·intro h; rw [h]; exact ⟨by decide, by decide⟩
theorem Alq (l : List Nat) : H8 l = if l = [] then 0 else if hxB l = true then Fs 16 (l.drop 2) else if nbB l = true ∧ nbR l = [] then nbV l else Me := by
 unfold H8
 by_cases h0 : l = []
 ·rw [if_pos h0, if_pos h0]
 ·rw [if_neg h0, if_neg h0]
  by_cases h1 : hxB l = true
  ·rw [if_pos h1, if_pos h1]
  ·rw [if_neg h1, if_neg h1]
   unfold nbB nbR nbV
   cases hi : P7 (Bj l)
   ·have hn : ¬ Bj l = infL := fun e => by rw [e] at hi; revert hi; decide
    rw [if_neg hn]
    simp only [Bool.false_or, Bool.false_eq_true, if_false]
    cases hd : dB (Bj l)
    ·simp
    ·simp
   ·have hd := Al9 hi
    simp only [Bool.true_or, if_true, true_and, hd, Bool.false_eq_true, false_and, if_false]
    by_cases he : (Bj l).drop 8 = []
    ·rw [if_pos (Abk.1 ⟨hi, he⟩), if_pos he]
    ·rw [if_neg (fun e => he (Abk.2 e).2), if_neg he]
theorem Vw (s : ByteArray) : (Dj s).size ≤ s.size := by
 unfold Dj slS
 split
 ·rw [ByteArray.size_extract]; omega
 ·exact Nat.zero_le _
theorem Ab9 (z : Nat) (l : List Nat) : (nrw z l).length = l.length := by unfold nrw; rw [List.length_map]
theorem Af1 {s : ByteArray} (h : s.size ≤ 140737488355328) : (nrw 0 (us s)).length ≤ 140737488355328 := by
 rw [Ab9, Fx]
 have := Gp s
 omega
theorem Anr : (Ab []).toList.isEmpty = true := by rw [Lib.toList_data]; rfl
theorem Ajb (l : List Nat) : (Ab l).toList.isEmpty = decide (l = []) := by
 by_cases h : l = []
 ·rw [h, Anr]; rfl
 ·rw [(K7 h).2, decide_eq_false h]
theorem Ue (s t l r : ByteArray) (H F : Nat) (c1 c2 c3 c4 : Bool) (w : World)
  (C1 : Hid (∀ W, Cp 71 #[.string s] W fun e w' => e = .returned (.string t) ∧ ∃ n, w' = W.drewN n))
  (C2 : Hid (∀ W, Ct 70 #[.string t] (.string l) W))
  (C3 : Hid (∀ W, Ct 72 #[.string l] (.tuple #[.float .f64 H, .bool c2]) W))
  (C4 : Hid (∀ W, Ct 73 #[.string l] (.tuple #[.float .f64 F, .string r, .bool c3]) W))
  (t1 : l.toList.isEmpty = c1) (t2 : r.toList.isEmpty = c4) :
  Ct 50 #[.string s] (.float .f64 (if c1 = true then 0 else if c2 = true then H else if c3 = true ∧ c4 = true then F else Me : Nat)) w := by
 have C5 := Lh (fun W => Ajq W)
 cases c1
 ·cases c2
  ·cases c3
   ·simp only [Bool.false_eq_true, if_false, false_and]
    go_enter Tryz.func50, Tryz.ntmps50
    go_wp2_with fail
    refine Dm (C1.out _) fun n => ?_
    go_wp2_with fail
    refine Bm (C2.out _) fun w1 b1 => ?_
    have B1 := Lh (Ad (Below.refl w.heap.size w) n |>.trans b1)
    clear b1
    go_wp2_with fail
    refine Bm (C3.out _) fun w2 b2 => ?_
    have B2 := Lh (Aa B1.out b2)
    clear b2
    go_wp2_with fail
    refine Bm (C4.out _) fun w3 b3 => ?_
    have B3 := Lh (Aa B2.out b3)
    clear b3
    go_wp2_with fail
    refine Sm (C5.out _) ?_
    go_wp2
    go_ret
    exact ⟨rfl, B3.out⟩
   ·cases c4
    ·simp only [Bool.false_eq_true, if_false, and_false]
     go_enter Tryz.func50, Tryz.ntmps50
     go_wp2_with fail
     refine Dm (C1.out _) fun n => ?_
     go_wp2_with fail
     refine Bm (C2.out _) fun w1 b1 => ?_
     have B1 := Lh (Ad (Below.refl w.heap.size w) n |>.trans b1)
     clear b1
     go_wp2_with fail
     refine Bm (C3.out _) fun w2 b2 => ?_
     have B2 := Lh (Aa B1.out b2)
     clear b2
     go_wp2_with fail
     refine Bm (C4.out _) fun w3 b3 => ?_
     have B3 := Lh (Aa B2.out b3)
     clear b3
     go_wp2_with fail
     refine Sm (C5.out _) ?_
     go_wp2
     go_ret
     exact ⟨rfl, B3.out⟩
    ·simp only [Bool.false_eq_true, if_false, and_self, if_true]
     go_enter Tryz.func50, Tryz.ntmps50
     go_wp2_with fail
     refine Dm (C1.out _) fun n => ?_
     go_wp2_with fail
     refine Bm (C2.out _) fun w1 b1 => ?_
     have B1 := Lh (Ad (Below.refl w.heap.size w) n |>.trans b1)
     clear b1
     go_wp2_with fail
     refine Bm (C3.out _) fun w2 b2 => ?_
     have B2 := Lh (Aa B1.out b2)
     clear b2
     go_wp2_with fail
     refine Bm (C4.out _) fun w3 b3 => ?_
     have B3 := Lh (Aa B2.out b3)
     clear b3
     go_wp2
     go_ret
     exact ⟨rfl, B3.out⟩
  ·simp only [Bool.false_eq_true, if_false, if_true]
   go_enter Tryz.func50, Tryz.ntmps50
   go_wp2_with fail
   refine Dm (C1.out _) fun n => ?_
   go_wp2_with fail
   refine Bm (C2.out _) fun w1 b1 => ?_
   have B1 := Lh (Ad (Below.refl w.heap.size w) n |>.trans b1)
   clear b1
   go_wp2_with fail
   refine Bm (C3.out _) fun w2 b2 => ?_
   have B2 := Lh (Aa B1.out b2)
   clear b2
   go_wp2
   go_ret
   exact ⟨rfl, B2.out⟩
 ·simp only [if_true]
  go_enter Tryz.func50, Tryz.ntmps50
  go_wp2_with fail
  refine Dm (C1.out _) fun n => ?_
  go_wp2_with fail
  refine Bm (C2.out _) fun w1 b1 => ?_
  have B1 := Lh (Ad (Below.refl w.heap.size w) n |>.trans b1)
  clear b1
  go_wp2
  go_ret
  exact ⟨rfl, B1.out⟩
theorem Vt (s : ByteArray) (w : World) (hs : s.size ≤ 140737488355328) :
  Ct 50 #[.string s] (.float .f64 (H8 (nrw 0 (us (Dj s))))) w := by
 have ht := Vw s
 have hl := Ah9 (z := 0) (by omega) (us (Dj s))
 have hln := Af1 (s := Dj s) (by omega)
 obtain ⟨l, hll⟩ : ∃ l, nrw 0 (us (Dj s)) = l := ⟨_, rfl⟩
 have C2 := fun W => Xo (Dj s) W (by omega)
 rw [hll] at C2 hl hln ⊢
 have h := Ue s (Dj s) (Ab l) (Ab (nbR l)) _ _ (decide (l = [])) (hxB l) (nbB l) (decide (nbR l = [])) w (Lh (fun W => Agx s W (by unfold maxLen; omega))) (Lh C2)
  (Lh (fun W => Lc l W hl hln)) (Lh (fun W => Vk l W (fun c hc => Nat.lt_trans (hl c hc) (by omega)) hln)) (Ajb l) (Ajb _)
 refine h.mono fun e w' x => ⟨?_, x.2⟩
 rw [x.1, Alq]
 simp only [decide_eq_true_eq]
 cases h1 : hxB l
 ·simp only [Bool.false_eq_true, if_false]
 ·simp only [if_true]
end
section
def nr1 (u : Nat) : Nat := if 127 < u then 1 else u
theorem Am4 (u : Nat) : nr1 u < 128 := by unfold nr1; split <;> omega
theorem Aau (s : ByteArray) (w : World) (hs : s.size ≤ 140737488355328) :
  Ct 75 #[.string s] (.string (Ab (nrw 1 (us s)))) w := by
 obtain ⟨i0, hi, hz0, hz1, hz2⟩ := info_parts Aoi
 have hl := Gp s
 have hs63 : s.size ≤ maxLen := by unfold maxLen; omega
 have hm : ((ln s : Nat) : Int) ≤ 70368744177664 := by omega
 have C1 := Lh (fun W => Gw s W hs63)
 have C2 := Lh (fun i W => Afm s i W hs63)
 have HS := Lh (show ln s ≤ 70368744177664 by omega)
 clear hl hs hs63
 go_enter Tryz.func75, Tryz.ntmps75
 go_wp2
 go_loopw [3, 4] (fun v i wr => ∃ k : Nat, i = .int .i64 k ∧ k ≤ ln s ∧ Hid (Own w.heap.size ((((us s).take k).map nr1).map UInt8.ofNat) v wr) ∧ Hid (Below w.heap.size w wr)) (fun _ i _ => ln s - (intOf i).toNat)
 case atStart => exact ⟨0, rfl, Nat.zero_le _, Lh (Own.nil _ _), Lh (Below.refl _ _)⟩
 case round =>
  obtain ⟨k, rfl, hk, HO, HB⟩ := hrel
  by_cases hlt : k < ln s
  ·have C2k := Lh (C2.out (k : Int) wr)
   have hok : Qd s (k : Int) = true := by unfold Qd; rw [decide_eq_true (by omega), decide_eq_true (by omega)]; rfl
   have hv : unV s (k : Int) = un s k := by unfold unV; rw [hok, if_pos rfl, Int.toNat_natCast]
   rw [hok, hv] at C2k
   have hul := Amq s k
   have HST := Lh (J1 s k hlt)
   obtain ⟨u, hu⟩ : ∃ u, un s k = u := ⟨_, rfl⟩
   rw [hu] at hul HST C2k
   have a2 : (k : Int) < (ln s : Int) := by omega
   clear hok hv hu
   have hc1 := Am4 u
   have KEY := Lh (show ∀ v' w2, w2.ownsRow w.heap.size 5 1 v' (((((us s).take k).map nr1).map UInt8.ofNat).length + 1) (Lib.byteCells ((((us s).take k).map nr1).map UInt8.ofNat) ++ [.int .u8 (nr1 u : Nat)]) → Own w.heap.size ((((us s).take (k + 1)).map nr1).map UInt8.ofNat) v' w2 from fun v' w2 h => by
    rw [P5 _ _ (by omega)] at h
    rw [Own, HST.out, List.map_append, List.map_append]
    simpa using h)
   by_cases hb : 127 < u
   ·have t1 : decide ((127 : Int) < (u : Int)) = true := decide_eq_true (by omega)
    have e0 : nr1 u = 1 := if_pos hb
    rw [e0] at KEY
    go_wp2_with fail
    refine Sm (C1.out _) ?_
    go_wp2_with fail
    refine C2k.out.mono ?_
    rintro e w' ⟨rfl, n, rfl⟩
    have HOn := Rp HO.out n
    have hBn : w.heap.size ≤ (wr.drewN n).heap.size := HB.out.size
    have HBn := Lh (Ad HB.out n)
    generalize wr.drewN n = wn at *
    go_wp2_with (at_builtin; refine wpList_append_own _ rfl _ _ 66 rfl w.heap.size 5 i0 (.int .u8 0) 1 1 Tryz.underlying66 hi hz0 hz1 hz2 rfl (by decide) _ ((((us s).take k).map nr1).map UInt8.ofNat).length (Lib.byteCells ((((us s).take k).map nr1).map UInt8.ofNat)) rfl (World.ownsRow.alloc (w := wn) HOn _) ⟨wn.heap.size, 0, none⟩ 1 1 [.int .u8 1] rfl rfl ?c1 ?c2 ?c3 ?c4 ?c5 ?_)
    case c1 => exact (cell_one_new _ _ _)
    case c2 => simp [Value.oneCell']
    case c3 => rw [List.length_map, List.length_map, List.length_take]; have := HS.out; unfold maxLen; omega
    case c4 => rw [List.length_map, List.length_map, List.length_take]; have := HS.out; omega
    case c5 => simp; omega
    intro v' w2 hown hgr _
    have HO2 := Lh (KEY.out v' w2 (by simpa using hown))
    have HB2 := Lh (HBn.out.trans (((Below.refl _ _).alloc hBn _).grown hgr (by simp; omega) (fun j hj => (HOn.lt j hj).1)))
    clear hown hgr
    go_wp2
    exact ⟨⟨k + 1, by go_num, by omega, HO2, HB2⟩, by simp [intOf]; omega⟩
   ·have t1 : decide ((127 : Int) < (u : Int)) = false := decide_eq_false (by omega)
    have e0 : nr1 u = u := if_neg hb
    rw [e0] at KEY
    have k1 : IntKind.u8.wrap (u : Int) = (u : Int) := IntWalk.u8_in _ (by omega)
    go_wp2_with fail
    refine Sm (C1.out _) ?_
    go_wp2_with fail
    refine C2k.out.mono ?_
    rintro e w' ⟨rfl, n, rfl⟩
    have HOn := Rp HO.out n
    have hBn : w.heap.size ≤ (wr.drewN n).heap.size := HB.out.size
    have HBn := Lh (Ad HB.out n)
    generalize wr.drewN n = wn at *
    go_wp2_with (at_builtin; refine wpList_append_own _ rfl _ _ 66 rfl w.heap.size 5 i0 (.int .u8 0) 1 1 Tryz.underlying66 hi hz0 hz1 hz2 rfl (by decide) _ ((((us s).take k).map nr1).map UInt8.ofNat).length (Lib.byteCells ((((us s).take k).map nr1).map UInt8.ofNat)) rfl (World.ownsRow.alloc (w := wn) HOn _) ⟨wn.heap.size, 0, none⟩ 1 1 [.int .u8 (u : Nat)] rfl rfl ?c1 ?c2 ?c3 ?c4 ?c5 ?_)
    case c1 => exact (cell_one_new _ _ _)
    case c2 => simp [Value.oneCell']
    case c3 => rw [List.length_map, List.length_map, List.length_take]; have := HS.out; unfold maxLen; omega
    case c4 => rw [List.length_map, List.length_map, List.length_take]; have := HS.out; omega
    case c5 => simp; omega
    intro v' w2 hown hgr _
    have HO2 := Lh (KEY.out v' w2 (by simpa using hown))
    have HB2 := Lh (HBn.out.trans (((Below.refl _ _).alloc hBn _).grown hgr (by simp; omega) (fun j hj => (HOn.lt j hj).1)))
    clear hown hgr
    go_wp2
    exact ⟨⟨k + 1, by go_num, by omega, HO2, HB2⟩, by simp [intOf]; omega⟩
  ·obtain ⟨T, hT⟩ : ∃ T, (((us s).take k).map nr1).map UInt8.ofNat = T := ⟨_, rfl⟩
   have hcv := Pp HO.out
   rw [hT] at hcv
   have HZ := Lh (show (⟨T.toArray⟩ : ByteArray) = Ab (nrw 1 (us s)) from by
    rw [← hT, show (us s).take k = us s by rw [show k = ln s by omega, Lu]]
    rfl)
   clear hT HO
   go_wp2_with fail
   refine Sm (C1.out _) ?_
   go_wp2
   go_ret
   exact ⟨by rw [← HZ.out]; rfl, HB.out⟩
theorem Aah (c : Nat) (w : World) : Cq 140 #[.int .u8 c] (.bool (Bw c)) w := by
 by_cases h1 : 48 ≤ c
 ·by_cases h2 : c ≤ 57
  ·have t1 : decide ((48 : Int) ≤ (c : Int)) = true := decide_eq_true (by omega)
   have t2 : decide ((c : Int) ≤ 57) = true := decide_eq_true (by omega)
   rw [Bs.2 ⟨h1, h2⟩]
   clear h1 h2
   go_enter Tryz.func140, Tryz.ntmps140
   go_wp2
   go_ret
   exact ⟨rfl, rfl⟩
  ·have t1 : decide ((48 : Int) ≤ (c : Int)) = true := decide_eq_true (by omega)
   have t2 : decide ((c : Int) ≤ 57) = false := decide_eq_false (by omega)
   rw [Wh.2 (fun h => h2 h.2)]
   clear h1 h2
   go_enter Tryz.func140, Tryz.ntmps140
   go_wp2
   go_ret
   exact ⟨rfl, rfl⟩
 ·have t1 : decide ((48 : Int) ≤ (c : Int)) = false := decide_eq_false (by omega)
  rw [Wh.2 (fun h => h1 h.1)]
  clear h1
  go_enter Tryz.func140, Tryz.ntmps140
  go_wp2
  go_ret
  exact ⟨rfl, rfl⟩
end
section
theorem Agd : bln 10 = 4 := by decide
theorem Xa (n : Nat) (w : World) (hn : n ≤ 3000) : Cp 196 #[.int .i64 n] w (NRet (10 ^ n) w) := by
 have hn1 : (n : Int) ≤ 3000 := by omega
 have N0 := Lh (NV.lit w 1 (by omega) (by omega))
 have B0 := Lh (show Below w.heap.size w (w.alloc (.cells #[.int .u32 1] 129)) from (Below.refl _ _).alloc (Nat.le_refl _) _)
 go_enter Tryz.func196, Tryz.ntmps196
 go_wp2
 go_loopw [3, 4] (fun v i wr => ∃ (k : Nat) (A : Option Addr) (m c : Nat), i = .int .i64 k ∧ k ≤ n ∧ v = .slice A m c ∧ Hid (NV wr A m c (10 ^ k)) ∧ Hid (Below w.heap.size w wr)) (fun _ i _ => n - (intOf i).toNat)
 case atStart => exact ⟨0, _, _, _, rfl, Nat.zero_le _, rfl, N0, B0⟩
 case round =>
  obtain ⟨k, A, m, c, rfl, hk, rfl, HV, HB⟩ := hrel
  by_cases hlt : k < n
  ·have hlt' : (k : Int) < (n : Int) := by omega
   have hb := He k
   have b1 : Below wr.heap.size wr (wr.alloc (.cells #[.int .u32 10] 129)) := (Below.refl _ _).alloc (Nat.le_refl _) _
   have C1 := Lh (Acf (HV.out.step b1) (NV.lit wr 10 (by omega) (by omega)) (by omega) (by rw [Agd]; omega))
   have HB1 := Lh (Aa HB.out b1)
   rw [← Nat.pow_succ] at C1
   clear hb b1
   go_wp2_with fail
   refine C1.out.mono ?_
   rintro e w2 ⟨A2, m2, c2, rfl, g2, b2⟩
   have G2 := Lh g2
   have HB2 := Lh (Aa HB1.out b2)
   clear g2 b2
   go_wp2
   exact ⟨⟨k + 1, A2, m2, c2, by go_num, by omega, rfl, G2, HB2⟩, by simp [intOf]; omega⟩
  ·have HZ := Lh (show k = n by omega)
   go_wp2
   go_ret
   exact ⟨A, m, c, rfl, by rw [← HZ.out]; exact HV.out, HB.out⟩
theorem Sc (l : List Nat) (k : Nat) (h : k < l.length) : l.drop k = l[k] :: l.drop (k + 1) := List.drop_eq_getElem_cons h
theorem Ac5 {c : Nat} {t : List Nat} (h : Bw c = true) : Ag (c :: t) = c :: Ag t := List.takeWhile_cons_of_pos h
theorem Af3 {c : Nat} {t : List Nat} (h : Bw c = false) : Ag (c :: t) = [] := List.takeWhile_cons_of_neg (by rw [h]; simp)
theorem Nr (s : ByteArray) (at' : Nat) (w : World) (hs : s.size ≤ 140737488355328) (ha : at' ≤ 140737488355328) :
  Cq 110 #[.string s, .int .i64 at'] (.int .i64 ((Ag ((bl s).drop at')).length : Nat)) w := by
 have h1 : (s.size : Int) ≤ 140737488355328 := by omega
 have h2 : (at' : Int) ≤ 140737488355328 := by omega
 have C1 := Lh (fun c W => Aah c W)
 obtain ⟨R, hR⟩ : ∃ R, (Ag ((bl s).drop at')).length = R := ⟨_, rfl⟩
 rw [hR]
 have HR := Lh hR
 have HL := Lh (By s)
 clear hs ha hR
 go_enter Tryz.func110, Tryz.ntmps110
 go_wp2
 go_loopw [5] (fun i wr => ∃ j : Nat, i = .int .i64 j ∧ Hid (R = j + (Ag ((bl s).drop (at' + j))).length ∧ (j = 0 ∨ at' + j ≤ s.size)) ∧ w = wr) (fun i _ => s.size - (intOf i).toNat)
 case atStart => exact ⟨0, rfl, Lh ⟨by rw [Nat.add_zero, Nat.zero_add, HR.out], Or.inl rfl⟩, rfl⟩
 case round =>
  obtain ⟨j, rfl, HJ, rfl⟩ := hrel
  have hj : (j : Int) ≤ 140737488355328 := by rcases HJ.out.2 with h | h <;> omega
  have k1 : IntKind.i64.wrap ((at' : Int) + (j : Int)) = (at' : Int) + (j : Int) := IntWalk.i64_in _ (by omega)
  by_cases hlt : at' + j < s.size
  ·obtain ⟨B, hB⟩ : ∃ B : Nat, (s[at' + j]'hlt).toNat = B := ⟨_, rfl⟩
   have hll : at' + j < (bl s).length := by rw [HL.out]; exact hlt
   have hget : (bl s)[at' + j] = B := by
    have := C0 s (at' + j) hlt
    rw [List.getElem?_eq_getElem hll, hB] at this
    exact Option.some.inj this
   have hd := Sc (bl s) (at' + j) hll
   rw [hget] at hd
   have a3 : ((s[at' + j]'hlt).toNat : Int) = (B : Int) := by rw [hB]
   have t0 : decide ((at' : Int) + (j : Int) < (s.size : Int)) = true := decide_eq_true (by omega)
   have a1 : (0 : Int) ≤ (at' : Int) + (j : Int) := by omega
   have a2 : (at' : Int) + (j : Int) < (s.size : Int) := by omega
   have a4 : ((at' : Int) + (j : Int)).toNat = at' + j := by omega
   have C2 := Lh (C1.out B)
   cases hg : Bw B
   ·rw [hg] at C2
    have HE := Lh (show R = j from by have := HJ.out.1; rw [hd, Af3 hg] at this; exact this)
    clear hget hd hB hg hll
    go_wp2_with fail
    refine Sm (C2.out _) ?_
    go_wp2
    go_ret
    exact ⟨by rw [HE.out]; rfl, rfl⟩
   ·rw [hg] at C2
    have HE := Lh (show R = (j + 1) + (Ag ((bl s).drop (at' + (j + 1)))).length ∧ (j + 1 = 0 ∨ at' + (j + 1) ≤ s.size) from by
     have := HJ.out.1
     rw [hd, Ac5 hg, List.length_cons] at this
     exact ⟨by rw [← Nat.add_assoc]; omega, Or.inr (by omega)⟩)
    clear hget hd hB hg hll
    go_wp2_with fail
    refine Sm (C2.out _) ?_
    go_wp2
    exact ⟨⟨j + 1, by go_num, HE, trivial⟩, by simp [intOf]; omega⟩
  ·have HE := Lh (show R = j from by
    have := HJ.out.1
    rw [List.drop_eq_nil_iff.2 (by rw [HL.out]; omega)] at this
    exact this)
   have t0 : decide ((at' : Int) + (j : Int) < (s.size : Int)) = false := decide_eq_false (by omega)
   go_wp2
   go_ret
   exact ⟨by rw [HE.out]; rfl, rfl⟩
end
section
theorem Adu (s : ByteArray) (K N : Nat) (X : Int) (w : World) (hs : s.size ≤ 281474976710656) (hK : K ≤ s.size) (hN : s.size - K = N)
  (Z1 : Hid (∀ k (h : k < s.size), k < K → (s[k]'h).toNat = 48)) (Z2 : Hid (∀ h : K < s.size, (s[K]'h).toNat ≠ 48))
  (hN0 : N = 0) :
  Ct 141 #[.string s, .int .i64 X] (.float .f64 0) w := by
 have h1 : (s.size : Int) ≤ 281474976710656 := by omega
 have HN := Lh hN
 have HK := Lh hK
 subst hN0
 clear hs hK hN
 go_enter Tryz.func141, Tryz.ntmps141
 go_wp2
 go_loopw [5] (fun i wr => ∃ k : Nat, i = .int .i64 k ∧ k ≤ K ∧ w = wr) (fun i _ => K - (intOf i).toNat)
 case atStart => exact ⟨0, rfl, Nat.zero_le _, rfl⟩
 case round =>
  obtain ⟨k, rfl, hk, rfl⟩ := hrel
  have hk2 := HK.out
  by_cases hlt : k < K
  ·have hks : k < s.size := by omega
   have e0 : ((s[k]'hks).toNat : Int) = 48 := by rw [Z1.out k hks hlt]; rfl
   have a2 : (k : Int) < (s.size : Int) := by omega
   have a1 : (0 : Int) ≤ (k : Int) := by omega
   clear hk2
   go_wp2
   exact ⟨⟨k + 1, by go_num, by omega, trivial⟩, by simp [intOf]; omega⟩
  ·obtain rfl : k = K := by omega
   have a2 : (s.size : Int) = (k : Int) := by have := HN.out; omega
   have a3 : (k : Int) ≤ (s.size : Int) := by omega
   have a1 : (0 : Int) ≤ (k : Int) := by omega
   have a4 : ((s.size - k : Nat) : Int) = 0 := by rw [HN.out]; rfl
   have t1 : decide ((k : Int) < (s.size : Int)) = false := decide_eq_false (by omega)
   clear hk2 a2
   go_wp2
   go_ret
   exact ⟨rfl, Below.refl _ _⟩
theorem Adb (s : ByteArray) (K N : Nat) (X P : Int) (w : World) (hs : s.size ≤ 281474976710656) (hK : K ≤ s.size) (hN : s.size - K = N)
  (Z1 : Hid (∀ k (h : k < s.size), k < K → (s[k]'h).toNat = 48)) (Z2 : Hid (∀ h : K < s.size, (s[K]'h).toNat ≠ 48))
  (hN0 : 0 < N) (p1 : wrap64 ((N : Int) + X) = P) (t0 : ((N : Int) == 0) = false) (t1 : decide (400 < P) = true) :
  Ct 141 #[.string s, .int .i64 X] (.float .f64 9218868437227405312) w := by
 have h1 : (s.size : Int) ≤ 281474976710656 := by omega
 have HN := Lh hN
 have HK := Lh hK
 have HN0 := Lh hN0
 clear hs hK hN hN0
 go_enter Tryz.func141, Tryz.ntmps141
 go_wp2
 go_loopw [5] (fun i wr => ∃ k : Nat, i = .int .i64 k ∧ k ≤ K ∧ w = wr) (fun i _ => K - (intOf i).toNat)
 case atStart => exact ⟨0, rfl, Nat.zero_le _, rfl⟩
 case round =>
  obtain ⟨k, rfl, hk, rfl⟩ := hrel
  have hk2 := HK.out
  by_cases hlt : k < K
  ·have hks : k < s.size := by omega
   have e0 : ((s[k]'hks).toNat : Int) = 48 := by rw [Z1.out k hks hlt]; rfl
   have a2 : (k : Int) < (s.size : Int) := by omega
   have a1 : (0 : Int) ≤ (k : Int) := by omega
   clear hk2
   go_wp2
   exact ⟨⟨k + 1, by go_num, by omega, trivial⟩, by simp [intOf]; omega⟩
  ·obtain rfl : k = K := by omega
   have hz : k < s.size := by have := HN.out; have := HN0.out; omega
   obtain ⟨B, hB⟩ : ∃ B : Nat, (s[k]'hz).toNat = B := ⟨_, rfl⟩
   have hB48 := Z2.out hz
   rw [hB] at hB48
   have e0 : ((s[k]'hz).toNat : Int) = (B : Int) := by rw [hB]
   have e1 : ((B : Int) == 48) = false := by rw [beq_eq_false_iff_ne]; omega
   have a2 : (k : Int) < (s.size : Int) := by omega
   have a1 : (0 : Int) ≤ (k : Int) := by omega
   have a3 : (k : Int) ≤ (s.size : Int) := by omega
   have a4 : ((s.size - k : Nat) : Int) = (N : Int) := by rw [HN.out]
   clear hk2 hB hB48
   have C3 := Lh (fun W => Dr W)
   go_wp2_with fail
   refine Sm (C3.out _) ?_
   go_wp2
   go_ret
   exact ⟨rfl, Below.refl _ _⟩
theorem Aha (s : ByteArray) (K N : Nat) (X P : Int) (w : World) (hs : s.size ≤ 281474976710656) (hK : K ≤ s.size) (hN : s.size - K = N)
  (Z1 : Hid (∀ k (h : k < s.size), k < K → (s[k]'h).toNat = 48)) (Z2 : Hid (∀ h : K < s.size, (s[K]'h).toNat ≠ 48))
  (hN0 : 0 < N) (p1 : wrap64 ((N : Int) + X) = P) (t0 : ((N : Int) == 0) = false) (t1 : decide (400 < P) = false) (t2 : decide (P < -400) = true) :
  Ct 141 #[.string s, .int .i64 X] (.float .f64 0) w := by
 have h1 : (s.size : Int) ≤ 281474976710656 := by omega
 have HN := Lh hN
 have HK := Lh hK
 have HN0 := Lh hN0
 clear hs hK hN hN0
 go_enter Tryz.func141, Tryz.ntmps141
 go_wp2
 go_loopw [5] (fun i wr => ∃ k : Nat, i = .int .i64 k ∧ k ≤ K ∧ w = wr) (fun i _ => K - (intOf i).toNat)
 case atStart => exact ⟨0, rfl, Nat.zero_le _, rfl⟩
 case round =>
  obtain ⟨k, rfl, hk, rfl⟩ := hrel
  have hk2 := HK.out
  by_cases hlt : k < K
  ·have hks : k < s.size := by omega
   have e0 : ((s[k]'hks).toNat : Int) = 48 := by rw [Z1.out k hks hlt]; rfl
   have a2 : (k : Int) < (s.size : Int) := by omega
   have a1 : (0 : Int) ≤ (k : Int) := by omega
   clear hk2
   go_wp2
   exact ⟨⟨k + 1, by go_num, by omega, trivial⟩, by simp [intOf]; omega⟩
  ·obtain rfl : k = K := by omega
   have hz : k < s.size := by have := HN.out; have := HN0.out; omega
   obtain ⟨B, hB⟩ : ∃ B : Nat, (s[k]'hz).toNat = B := ⟨_, rfl⟩
   have hB48 := Z2.out hz
   rw [hB] at hB48
   have e0 : ((s[k]'hz).toNat : Int) = (B : Int) := by rw [hB]
   have e1 : ((B : Int) == 48) = false := by rw [beq_eq_false_iff_ne]; omega
   have a2 : (k : Int) < (s.size : Int) := by omega
   have a1 : (0 : Int) ≤ (k : Int) := by omega
   have a3 : (k : Int) ≤ (s.size : Int) := by omega
   have a4 : ((s.size - k : Nat) : Int) = (N : Int) := by rw [HN.out]
   clear hk2 hB hB48
   go_wp2
   go_ret
   exact ⟨rfl, Below.refl _ _⟩
theorem On (s : ByteArray) (K N : Nat) (X P : Int) (m F : Nat) (D M : Nat) (w : World) (hs : s.size ≤ 281474976710656) (hK : K ≤ s.size) (hN : s.size - K = N)
  (Z1 : Hid (∀ k (h : k < s.size), k < K → (s[k]'h).toNat = 48)) (Z2 : Hid (∀ h : K < s.size, (s[K]'h).toNat ≠ 48))
  (hN0 : 0 < N) (p1 : wrap64 ((N : Int) + X) = P) (t0 : ((N : Int) == 0) = false) (t1 : decide (400 < P) = false) (t2 : decide (P < -400) = false) (t3 : decide (820 < (N : Int)) = false)
  (C3 : Hid (∀ W, Cp 195 #[.string (s.extract K s.size), .int .i64 10] W (NOk m W)))
  (C4 : Hid (∀ W, Cp 196 #[.int .i64 X] W (NRet D W)))
  (C5 : Hid (∀ W A1 n1 c1 A2 n2 c2, NV W A1 n1 c1 m → NV W A2 n2 c2 D → Cp 138 #[.slice A1 n1 c1, .slice A2 n2 c2] W (NRet M W)))
  (C6 : Hid (∀ W A1 n1 c1, NV W A1 n1 c1 M → Ct 139 #[.slice A1 n1 c1, .int .i64 0] (.float .f64 F) W))
  (u0 : decide (0 ≤ X) = true) :
  Ct 141 #[.string s, .int .i64 X] (.float .f64 F) w := by
 have h1 : (s.size : Int) ≤ 281474976710656 := by omega
 have HN := Lh hN
 have HK := Lh hK
 have HN0 := Lh hN0
 clear hs hK hN hN0
 go_enter Tryz.func141, Tryz.ntmps141
 go_wp2
 go_loopw [5] (fun i wr => ∃ k : Nat, i = .int .i64 k ∧ k ≤ K ∧ w = wr) (fun i _ => K - (intOf i).toNat)
 case atStart => exact ⟨0, rfl, Nat.zero_le _, rfl⟩
 case round =>
  obtain ⟨k, rfl, hk, rfl⟩ := hrel
  have hk2 := HK.out
  by_cases hlt : k < K
  ·have hks : k < s.size := by omega
   have e0 : ((s[k]'hks).toNat : Int) = 48 := by rw [Z1.out k hks hlt]; rfl
   have a2 : (k : Int) < (s.size : Int) := by omega
   have a1 : (0 : Int) ≤ (k : Int) := by omega
   clear hk2
   go_wp2
   exact ⟨⟨k + 1, by go_num, by omega, trivial⟩, by simp [intOf]; omega⟩
  ·obtain rfl : k = K := by omega
   have hz : k < s.size := by have := HN.out; have := HN0.out; omega
   obtain ⟨B, hB⟩ : ∃ B : Nat, (s[k]'hz).toNat = B := ⟨_, rfl⟩
   have hB48 := Z2.out hz
   rw [hB] at hB48
   have e0 : ((s[k]'hz).toNat : Int) = (B : Int) := by rw [hB]
   have e1 : ((B : Int) == 48) = false := by rw [beq_eq_false_iff_ne]; omega
   have a2 : (k : Int) < (s.size : Int) := by omega
   have a1 : (0 : Int) ≤ (k : Int) := by omega
   have a3 : (k : Int) ≤ (s.size : Int) := by omega
   have a4 : ((s.size - k : Nat) : Int) = (N : Int) := by rw [HN.out]
   clear hk2 hB hB48
   go_wp2_with fail
   refine (C3.out _).mono ?_
   rintro e w1 ⟨A1, n1, c1, rfl, g1, b1⟩
   have G1 := Lh g1
   have B1 := Lh b1
   clear g1 b1
   go_wp2_with fail
   refine (C4.out _).mono ?_
   rintro e w2 ⟨A2, n2, c2, rfl, g2, b2⟩
   have G2 := Lh g2
   have G1a := Lh (G1.out.step b2)
   have B2 := Lh (Aa B1.out b2)
   clear g2 b2
   go_wp2_with fail
   refine (C5.out _ _ _ _ _ _ _ G1a.out G2.out).mono ?_
   rintro e w3 ⟨A3, n3, c3, rfl, g3, b3⟩
   have G3 := Lh g3
   have B3 := Lh (Aa B2.out b3)
   clear g3 b3
   go_wp2_with fail
   refine Bm (C6.out _ _ _ _ G3.out) fun w4 b4 => ?_
   have B4 := Lh (Aa B3.out b4)
   clear b4
   go_wp2
   go_ret
   exact ⟨rfl, B4.out⟩
theorem L8 (s : ByteArray) (K N : Nat) (X P : Int) (m F : Nat) (D M Q bd ba : Nat) (x1 up x2 Y U : Int) (w : World) (hs : s.size ≤ 281474976710656) (hK : K ≤ s.size) (hN : s.size - K = N)
  (Z1 : Hid (∀ k (h : k < s.size), k < K → (s[k]'h).toNat = 48)) (Z2 : Hid (∀ h : K < s.size, (s[K]'h).toNat ≠ 48))
  (hN0 : 0 < N) (p1 : wrap64 ((N : Int) + X) = P) (t0 : ((N : Int) == 0) = false) (t1 : decide (400 < P) = false) (t2 : decide (P < -400) = false) (t3 : decide (820 < (N : Int)) = false)
  (C3 : Hid (∀ W, Cp 195 #[.string (s.extract K s.size), .int .i64 10] W (NOk m W)))
  (C4 : Hid (∀ W, Cp 196 #[.int .i64 (-X)] W (NRet D W)))
  (C5 : Hid (∀ W A1 n1 c1, NV W A1 n1 c1 D → Ct 193 #[.slice A1 n1 c1] (.int .i64 (bd : Nat)) W))
  (C6 : Hid (∀ W A1 n1 c1, NV W A1 n1 c1 m → Ct 193 #[.slice A1 n1 c1] (.int .i64 (ba : Nat)) W))
  (C7 : Hid (∀ W A1 n1 c1, NV W A1 n1 c1 m → Cp 157 #[.slice A1 n1 c1, .int .i64 U] W (NRet M W)))
  (C8 : Hid (∀ W A1 n1 c1 A2 n2 c2, NV W A1 n1 c1 M → NV W A2 n2 c2 D → Cp 155 #[.slice A1 n1 c1, .slice A2 n2 c2] W (W6 M D W)))
  (C9 : Hid (∀ W A1 n1 c1, NV W A1 n1 c1 (M / D) → Cp 157 #[.slice A1 n1 c1, .int .i64 1] W (NRet Q W)))
  (C11 : Hid (∀ W A1 n1 c1, NV W A1 n1 c1 Q → Ct 139 #[.slice A1 n1 c1, .int .i64 Y] (.float .f64 F) W))
  (hrem : M % D = 0)
  (u0 : decide (0 ≤ X) = false) (u1 : wrap64 (-X) = -X) (u2 : wrap64 ((bd : Int) - (ba : Int)) = x1) (u3 : wrap64 (x1 + 70) = up) (hu : (decide (up < 0) = false ∧ U = up ∧ wrap64 (-up) = x2 ∧ wrap64 (x2 - 1) = Y) ∨ (decide (up < 0) = true ∧ U = 0 ∧ Y = -1)) :
  Ct 141 #[.string s, .int .i64 X] (.float .f64 F) w := by
 have h1 : (s.size : Int) ≤ 281474976710656 := by omega
 have HN := Lh hN
 have HK := Lh hK
 have HN0 := Lh hN0
 have HREM := Lh hrem
 have HUW := Lh hu
 clear hu hs hK hN hN0 hrem
 go_enter Tryz.func141, Tryz.ntmps141
 go_wp2
 go_loopw [5] (fun i wr => ∃ k : Nat, i = .int .i64 k ∧ k ≤ K ∧ w = wr) (fun i _ => K - (intOf i).toNat)
 case atStart => exact ⟨0, rfl, Nat.zero_le _, rfl⟩
 case round =>
  obtain ⟨k, rfl, hk, rfl⟩ := hrel
  have hk2 := HK.out
  by_cases hlt : k < K
  ·have hks : k < s.size := by omega
   have e0 : ((s[k]'hks).toNat : Int) = 48 := by rw [Z1.out k hks hlt]; rfl
   have a2 : (k : Int) < (s.size : Int) := by omega
   have a1 : (0 : Int) ≤ (k : Int) := by omega
   clear hk2
   go_wp2
   exact ⟨⟨k + 1, by go_num, by omega, trivial⟩, by simp [intOf]; omega⟩
  ·obtain rfl : k = K := by omega
   have hz : k < s.size := by have := HN.out; have := HN0.out; omega
   obtain ⟨B, hB⟩ : ∃ B : Nat, (s[k]'hz).toNat = B := ⟨_, rfl⟩
   have hB48 := Z2.out hz
   rw [hB] at hB48
   have e0 : ((s[k]'hz).toNat : Int) = (B : Int) := by rw [hB]
   have e1 : ((B : Int) == 48) = false := by rw [beq_eq_false_iff_ne]; omega
   have a2 : (k : Int) < (s.size : Int) := by omega
   have a1 : (0 : Int) ≤ (k : Int) := by omega
   have a3 : (k : Int) ≤ (s.size : Int) := by omega
   have a4 : ((s.size - k : Nat) : Int) = (N : Int) := by rw [HN.out]
   clear hk2 hB hB48
   rcases HUW.out with ⟨u4, rfl, u5, u6⟩ | ⟨u4, rfl, rfl⟩
   all_goals
    go_wp2_with fail
    refine (C3.out _).mono ?_
    rintro e w1 ⟨A1, n1, c1, rfl, g1, b1⟩
    have G1 := Lh g1
    have B1 := Lh b1
    clear g1 b1
    go_wp2_with fail
    refine (C4.out _).mono ?_
    rintro e w2 ⟨A2, n2, c2, rfl, g2, b2⟩
    have G2 := Lh g2
    have G1a := Lh (G1.out.step b2)
    have B2 := Lh (Aa B1.out b2)
    clear g2 b2
    go_wp2_with fail
    refine Bm (C5.out _ _ _ _ G2.out) fun w3 b3 => ?_
    have G2a := Lh (G2.out.step b3)
    have G1b := Lh (G1a.out.step b3)
    have B3 := Lh (Aa B2.out b3)
    clear b3
    go_wp2_with fail
    refine Bm (C6.out _ _ _ _ G1b.out) fun w4 b4 => ?_
    have G2b := Lh (G2a.out.step b4)
    have G1c := Lh (G1b.out.step b4)
    have B4 := Lh (Aa B3.out b4)
    clear b4
    go_wp2_with fail
    refine (C7.out _ _ _ _ G1c.out).mono ?_
    rintro e w5 ⟨A5, n5, c5, rfl, g5, b5⟩
    have G5 := Lh g5
    have G25 := Lh (G2b.out.step b5)
    have B5 := Lh (Aa B4.out b5)
    clear g5 b5
    go_wp2_with fail
    refine (C8.out _ _ _ _ _ _ _ G5.out G25.out).mono ?_
    rintro e w6 ⟨A6, n6, c6, A7, n7, c7, rfl, g6, g7, b6⟩
    have G6 := Lh g6
    have B6 := Lh (Aa B5.out b6)
    obtain rfl : n7 = 0 := by
     have h1 := g7.len
     rw [HREM.out] at h1
     exact h1.symm
    clear g6 g7 b6
    go_wp2_with fail
    refine (C9.out _ _ _ _ G6.out).mono ?_
    rintro e w7 ⟨A8, n8, c8, rfl, g8, b7⟩
    have G8 := Lh g8
    have B7 := Lh (Aa B6.out b7)
    clear g8 b7
    go_wp2_with fail
    refine Bm (C11.out _ _ _ _ G8.out) fun w9 b9 => ?_
    have B9 := Lh (Aa B7.out b9)
    clear b9
    go_wp2
    go_ret
    exact ⟨rfl, B9.out⟩
theorem Mj (s : ByteArray) (K N : Nat) (X P : Int) (m F : Nat) (D M Q Q2 bd ba : Nat) (x1 up x2 Y U : Int) (w : World) (hs : s.size ≤ 281474976710656) (hK : K ≤ s.size) (hN : s.size - K = N)
  (Z1 : Hid (∀ k (h : k < s.size), k < K → (s[k]'h).toNat = 48)) (Z2 : Hid (∀ h : K < s.size, (s[K]'h).toNat ≠ 48))
  (hN0 : 0 < N) (p1 : wrap64 ((N : Int) + X) = P) (t0 : ((N : Int) == 0) = false) (t1 : decide (400 < P) = false) (t2 : decide (P < -400) = false) (t3 : decide (820 < (N : Int)) = false)
  (C3 : Hid (∀ W, Cp 195 #[.string (s.extract K s.size), .int .i64 10] W (NOk m W)))
  (C4 : Hid (∀ W, Cp 196 #[.int .i64 (-X)] W (NRet D W)))
  (C5 : Hid (∀ W A1 n1 c1, NV W A1 n1 c1 D → Ct 193 #[.slice A1 n1 c1] (.int .i64 (bd : Nat)) W))
  (C6 : Hid (∀ W A1 n1 c1, NV W A1 n1 c1 m → Ct 193 #[.slice A1 n1 c1] (.int .i64 (ba : Nat)) W))
  (C7 : Hid (∀ W A1 n1 c1, NV W A1 n1 c1 m → Cp 157 #[.slice A1 n1 c1, .int .i64 U] W (NRet M W)))
  (C8 : Hid (∀ W A1 n1 c1 A2 n2 c2, NV W A1 n1 c1 M → NV W A2 n2 c2 D → Cp 155 #[.slice A1 n1 c1, .slice A2 n2 c2] W (W6 M D W)))
  (C9 : Hid (∀ W A1 n1 c1, NV W A1 n1 c1 (M / D) → Cp 157 #[.slice A1 n1 c1, .int .i64 1] W (NRet Q W)))
  (C10 : Hid (∀ W A1 n1 c1 A2 n2 c2, NV W A1 n1 c1 Q → NV W A2 n2 c2 1 → Cp 137 #[.slice A1 n1 c1, .slice A2 n2 c2] W (NRet Q2 W)))
  (C11 : Hid (∀ W A1 n1 c1, NV W A1 n1 c1 Q2 → Ct 139 #[.slice A1 n1 c1, .int .i64 Y] (.float .f64 F) W))
  (hrem : M % D ≠ 0)
  (u0 : decide (0 ≤ X) = false) (u1 : wrap64 (-X) = -X) (u2 : wrap64 ((bd : Int) - (ba : Int)) = x1) (u3 : wrap64 (x1 + 70) = up) (hu : (decide (up < 0) = false ∧ U = up ∧ wrap64 (-up) = x2 ∧ wrap64 (x2 - 1) = Y) ∨ (decide (up < 0) = true ∧ U = 0 ∧ Y = -1)) :
  Ct 141 #[.string s, .int .i64 X] (.float .f64 F) w := by
 have h1 : (s.size : Int) ≤ 281474976710656 := by omega
 have HN := Lh hN
 have HK := Lh hK
 have HN0 := Lh hN0
 have HREM := Lh hrem
 have HUW := Lh hu
 clear hu hs hK hN hN0 hrem
 go_enter Tryz.func141, Tryz.ntmps141
 go_wp2
 go_loopw [5] (fun i wr => ∃ k : Nat, i = .int .i64 k ∧ k ≤ K ∧ w = wr) (fun i _ => K - (intOf i).toNat)
 case atStart => exact ⟨0, rfl, Nat.zero_le _, rfl⟩
 case round =>
  obtain ⟨k, rfl, hk, rfl⟩ := hrel
  have hk2 := HK.out
  by_cases hlt : k < K
  ·have hks : k < s.size := by omega
   have e0 : ((s[k]'hks).toNat : Int) = 48 := by rw [Z1.out k hks hlt]; rfl
   have a2 : (k : Int) < (s.size : Int) := by omega
   have a1 : (0 : Int) ≤ (k : Int) := by omega
   clear hk2
   go_wp2
   exact ⟨⟨k + 1, by go_num, by omega, trivial⟩, by simp [intOf]; omega⟩
  ·obtain rfl : k = K := by omega
   have hz : k < s.size := by have := HN.out; have := HN0.out; omega
   obtain ⟨B, hB⟩ : ∃ B : Nat, (s[k]'hz).toNat = B := ⟨_, rfl⟩
   have hB48 := Z2.out hz
   rw [hB] at hB48
   have e0 : ((s[k]'hz).toNat : Int) = (B : Int) := by rw [hB]
   have e1 : ((B : Int) == 48) = false := by rw [beq_eq_false_iff_ne]; omega
   have a2 : (k : Int) < (s.size : Int) := by omega
   have a1 : (0 : Int) ≤ (k : Int) := by omega
   have a3 : (k : Int) ≤ (s.size : Int) := by omega
   have a4 : ((s.size - k : Nat) : Int) = (N : Int) := by rw [HN.out]
   clear hk2 hB hB48
   rcases HUW.out with ⟨u4, rfl, u5, u6⟩ | ⟨u4, rfl, rfl⟩
   all_goals
    go_wp2_with fail
    refine (C3.out _).mono ?_
    rintro e w1 ⟨A1, n1, c1, rfl, g1, b1⟩
    have G1 := Lh g1
    have B1 := Lh b1
    clear g1 b1
    go_wp2_with fail
    refine (C4.out _).mono ?_
    rintro e w2 ⟨A2, n2, c2, rfl, g2, b2⟩
    have G2 := Lh g2
    have G1a := Lh (G1.out.step b2)
    have B2 := Lh (Aa B1.out b2)
    clear g2 b2
    go_wp2_with fail
    refine Bm (C5.out _ _ _ _ G2.out) fun w3 b3 => ?_
    have G2a := Lh (G2.out.step b3)
    have G1b := Lh (G1a.out.step b3)
    have B3 := Lh (Aa B2.out b3)
    clear b3
    go_wp2_with fail
    refine Bm (C6.out _ _ _ _ G1b.out) fun w4 b4 => ?_
    have G2b := Lh (G2a.out.step b4)
    have G1c := Lh (G1b.out.step b4)
    have B4 := Lh (Aa B3.out b4)
    clear b4
    go_wp2_with fail
    refine (C7.out _ _ _ _ G1c.out).mono ?_
    rintro e w5 ⟨A5, n5, c5, rfl, g5, b5⟩
    have G5 := Lh g5
    have G25 := Lh (G2b.out.step b5)
    have B5 := Lh (Aa B4.out b5)
    clear g5 b5
    go_wp2_with fail
    refine (C8.out _ _ _ _ _ _ _ G5.out G25.out).mono ?_
    rintro e w6 ⟨A6, n6, c6, A7, n7, c7, rfl, g6, g7, b6⟩
    have G6 := Lh g6
    have B6 := Lh (Aa B5.out b6)
    have hn7 : (0 : Int) < (n7 : Int) := by
     have h1 := g7.len
     have h2 : (wds (M % D)) ≠ [] := fun e => HREM.out (by have h3 := Ae (M % D); rw [e] at h3; exact h3.symm)
     have := List.length_pos_iff.2 h2
     omega
    clear g6 g7 b6
    go_wp2_with fail
    refine (C9.out _ _ _ _ G6.out).mono ?_
    rintro e w7 ⟨A8, n8, c8, rfl, g8, b7⟩
    have G8 := Lh g8
    have B7 := Lh (Aa B6.out b7)
    clear g8 b7
    have bl := Lh (show Below w7.heap.size w7 (w7.alloc (.cells #[.int .u32 1] 129)) from (Below.refl _ _).alloc (Nat.le_refl _) _)
    have C10' := Lh (C10.out _ _ _ _ _ _ _ (G8.out.step bl.out) (NV.lit w7 1 (by omega) (by omega)))
    go_wp2_with fail
    refine C10'.out.mono ?_
    rintro e w8 ⟨A9, n9, c9, rfl, g9, b8⟩
    have G9 := Lh g9
    have B8 := Lh (Aa (Aa B7.out bl.out) b8)
    clear g9 b8
    go_wp2_with fail
    refine Bm (C11.out _ _ _ _ G9.out) fun w9 b9 => ?_
    have B9 := Lh (Aa B8.out b9)
    clear b9
    go_wp2
    go_ret
    exact ⟨rfl, B9.out⟩
end
section
theorem Ox (s : ByteArray) (K N : Nat) (X P : Int) (m F : Nat) (D M : Nat) (g : ByteArray) (y1 : Int) (E : Int) (w : World) (hs : s.size ≤ 281474976710656) (hK : K ≤ s.size) (hN : s.size - K = N)
  (Z1 : Hid (∀ k (h : k < s.size), k < K → (s[k]'h).toNat = 48)) (Z2 : Hid (∀ h : K < s.size, (s[K]'h).toNat ≠ 48))
  (hN0 : 0 < N) (p1 : wrap64 ((N : Int) + X) = P) (t0 : ((N : Int) == 0) = false) (t1 : decide (400 < P) = false) (t2 : decide (P < -400) = false) (t3 : decide (820 < (N : Int)) = true)
  (hg : s.extract K s.size = g) (hgN : g.size = N) (hN8 : 820 < N) (hrb : ((bl g).drop 810).any (· != 48) = false)
  (q0 : wrap64 (X + (N : Int)) = y1) (q1 : wrap64 (y1 - 810) = E)
  (C3 : Hid (∀ W, Cp 195 #[.string (g.extract 0 810), .int .i64 10] W (NOk m W)))
  (C4 : Hid (∀ W, Cp 196 #[.int .i64 E] W (NRet D W)))
  (C5 : Hid (∀ W A1 n1 c1 A2 n2 c2, NV W A1 n1 c1 m → NV W A2 n2 c2 D → Cp 138 #[.slice A1 n1 c1, .slice A2 n2 c2] W (NRet M W)))
  (C6 : Hid (∀ W A1 n1 c1, NV W A1 n1 c1 M → Ct 139 #[.slice A1 n1 c1, .int .i64 0] (.float .f64 F) W))
  (u0 : decide (0 ≤ E) = true) :
  Ct 141 #[.string s, .int .i64 X] (.float .f64 F) w := by
 have h1 : (s.size : Int) ≤ 281474976710656 := by omega
 have HN := Lh hN
 have HK := Lh hK
 have HN0 := Lh hN0
 have HG := Lh hg
 have HGN := Lh hgN
 have HN8 := Lh hN8
 have HRB := Lh hrb
 clear hs hK hN hN0 hg hgN hN8 hrb
 go_enter Tryz.func141, Tryz.ntmps141
 go_wp2
 go_loopw [5] (fun i wr => ∃ k : Nat, i = .int .i64 k ∧ k ≤ K ∧ w = wr) (fun i _ => K - (intOf i).toNat)
 case atStart => exact ⟨0, rfl, Nat.zero_le _, rfl⟩
 case round =>
  obtain ⟨k, rfl, hk, rfl⟩ := hrel
  have hk2 := HK.out
  by_cases hlt : k < K
  ·have hks : k < s.size := by omega
   have e0 : ((s[k]'hks).toNat : Int) = 48 := by rw [Z1.out k hks hlt]; rfl
   have a2 : (k : Int) < (s.size : Int) := by omega
   have a1 : (0 : Int) ≤ (k : Int) := by omega
   clear hk2
   go_wp2
   exact ⟨⟨k + 1, by go_num, by omega, trivial⟩, by simp [intOf]; omega⟩
  ·obtain rfl : k = K := by omega
   have hz : k < s.size := by have := HN.out; have := HN0.out; omega
   obtain ⟨B, hB⟩ : ∃ B : Nat, (s[k]'hz).toNat = B := ⟨_, rfl⟩
   have hB48 := Z2.out hz
   rw [hB] at hB48
   have e0 : ((s[k]'hz).toNat : Int) = (B : Int) := by rw [hB]
   have e1 : ((B : Int) == 48) = false := by rw [beq_eq_false_iff_ne]; omega
   have a2 : (k : Int) < (s.size : Int) := by omega
   have a1 : (0 : Int) ≤ (k : Int) := by omega
   have a3 : (k : Int) ≤ (s.size : Int) := by omega
   have a4 : ((s.size - k : Nat) : Int) = (N : Int) := by rw [HN.out]
   clear hk2 hB hB48
   have hext : s.extract k s.size = g := HG.out
   have b4 : (g.size : Int) = (N : Int) := by rw [HGN.out]
   go_wp2
   clear a1 a2 a3 e0 e1 hext hz b4
   go_loopw [6, 7] (fun v i wr => ∃ j : Nat, i = .int .i64 (810 + (j : Int)) ∧ 810 + j ≤ N ∧ v = .bool ((((bl g).drop 810).take j).any (· != 48)) ∧ w = wr) (fun _ i _ => N - (intOf i).toNat)
   case atStart => exact ⟨0, rfl, by have := HN8.out; omega, rfl, rfl⟩
   case round =>
    obtain ⟨j, rfl, hj, rfl, rfl⟩ := hrel
    by_cases hjl : 810 + j < N
    ·have hgs : 810 + j < g.size := by rw [HGN.out]; exact hjl
     obtain ⟨D8, hD8⟩ : ∃ D8 : Nat, (g[810 + j]'hgs).toNat = D8 := ⟨_, rfl⟩
     have hstep : (((bl g).drop 810).take (j + 1)).any (· != 48) = ((((bl g).drop 810).take j).any (· != 48) || (D8 != 48)) := by
      rw [List.take_add_one, List.getElem?_drop, C0 g (810 + j) hgs, hD8, List.any_append]
      simp
     have b0 : ((810 + (j : Int)) : Int) < (N : Int) := by omega
     have b1 : (0 : Int) ≤ 810 + (j : Int) := by omega
     have b2 : (810 + (j : Int)).toNat = 810 + j := by omega
     have b3 : ((g[810 + j]'hgs).toNat : Int) = (D8 : Int) := by rw [hD8]
     have b4 : (g.size : Int) = (N : Int) := by rw [HGN.out]
     have b5 : 810 + (j : Int) < (g.size : Int) := by omega
     obtain ⟨r, hr⟩ : ∃ r, (((bl g).drop 810).take j).any (· != 48) = r := ⟨_, rfl⟩
     rw [hr] at hstep ⊢
     have HST := Lh hstep
     clear hstep hr hD8
     cases r
     ·cases h48 : (D8 != 48)
      ·have b6 : ((D8 : Int) != 48) = false := by rw [bne_eq_false_iff_eq]; have := bne_eq_false_iff_eq.1 h48; omega
       have HS2 := Lh (show (((bl g).drop 810).take (j + 1)).any (· != 48) = false from by rw [HST.out, h48]; rfl)
       clear h48
       go_wp2
       exact ⟨⟨j + 1, by go_num, by omega, by rw [HS2.out], trivial⟩, by simp [intOf]; omega⟩
      ·have b6 : ((D8 : Int) != 48) = true := by rw [bne_iff_ne]; have := bne_iff_ne.1 h48; omega
       have HS2 := Lh (show (((bl g).drop 810).take (j + 1)).any (· != 48) = true from by rw [HST.out, h48]; rfl)
       clear h48
       go_wp2
       exact ⟨⟨j + 1, by go_num, by omega, by rw [HS2.out], trivial⟩, by simp [intOf]; omega⟩
     ·have HS2 := Lh (show (((bl g).drop 810).take (j + 1)).any (· != 48) = true from by rw [HST.out]; rfl)
      go_wp2
      exact ⟨⟨j + 1, by go_num, by omega, by rw [HS2.out], trivial⟩, by simp [intOf]; omega⟩
    ·have hz2 : (((bl g).drop 810).take j).any (· != 48) = false := by
      rw [List.take_of_length_le (by rw [List.length_drop, By, HGN.out]; omega)]
      exact HRB.out
     rw [hz2]
     have b4 : (g.size : Int) = (N : Int) := by rw [HGN.out]
     have b0 : decide (810 + (j : Int) < (N : Int)) = false := decide_eq_false (by omega)
     have b5 : (810 : Int) ≤ (g.size : Int) := by have := HN8.out; omega
     clear hz2
     go_wp2_with fail
     refine (C3.out _).mono ?_
     rintro e w1 ⟨A1, n1, c1, rfl, g1, b1⟩
     have G1 := Lh g1
     have B1 := Lh b1
     clear g1 b1
     go_wp2_with fail
     refine (C4.out _).mono ?_
     rintro e w2 ⟨A2, n2, c2, rfl, g2, b2⟩
     have G2 := Lh g2
     have G1a := Lh (G1.out.step b2)
     have B2 := Lh (Aa B1.out b2)
     clear g2 b2
     go_wp2_with fail
     refine (C5.out _ _ _ _ _ _ _ G1a.out G2.out).mono ?_
     rintro e w3 ⟨A3, n3, c3, rfl, g3, b3⟩
     have G3 := Lh g3
     have B3 := Lh (Aa B2.out b3)
     clear g3 b3
     go_wp2_with fail
     refine Bm (C6.out _ _ _ _ G3.out) fun w4 b4 => ?_
     have B4 := Lh (Aa B3.out b4)
     clear b4
     go_wp2
     go_ret
     exact ⟨rfl, B4.out⟩
theorem Mr (s : ByteArray) (K N : Nat) (X P : Int) (m F : Nat) (D M Q bd ba : Nat) (x1 up x2 Y U : Int) (g : ByteArray) (y1 : Int) (E : Int) (w : World) (hs : s.size ≤ 281474976710656) (hK : K ≤ s.size) (hN : s.size - K = N)
  (Z1 : Hid (∀ k (h : k < s.size), k < K → (s[k]'h).toNat = 48)) (Z2 : Hid (∀ h : K < s.size, (s[K]'h).toNat ≠ 48))
  (hN0 : 0 < N) (p1 : wrap64 ((N : Int) + X) = P) (t0 : ((N : Int) == 0) = false) (t1 : decide (400 < P) = false) (t2 : decide (P < -400) = false) (t3 : decide (820 < (N : Int)) = true)
  (hg : s.extract K s.size = g) (hgN : g.size = N) (hN8 : 820 < N) (hrb : ((bl g).drop 810).any (· != 48) = false)
  (q0 : wrap64 (X + (N : Int)) = y1) (q1 : wrap64 (y1 - 810) = E)
  (C3 : Hid (∀ W, Cp 195 #[.string (g.extract 0 810), .int .i64 10] W (NOk m W)))
  (C4 : Hid (∀ W, Cp 196 #[.int .i64 (-E)] W (NRet D W)))
  (C5 : Hid (∀ W A1 n1 c1, NV W A1 n1 c1 D → Ct 193 #[.slice A1 n1 c1] (.int .i64 (bd : Nat)) W))
  (C6 : Hid (∀ W A1 n1 c1, NV W A1 n1 c1 m → Ct 193 #[.slice A1 n1 c1] (.int .i64 (ba : Nat)) W))
  (C7 : Hid (∀ W A1 n1 c1, NV W A1 n1 c1 m → Cp 157 #[.slice A1 n1 c1, .int .i64 U] W (NRet M W)))
  (C8 : Hid (∀ W A1 n1 c1 A2 n2 c2, NV W A1 n1 c1 M → NV W A2 n2 c2 D → Cp 155 #[.slice A1 n1 c1, .slice A2 n2 c2] W (W6 M D W)))
  (C9 : Hid (∀ W A1 n1 c1, NV W A1 n1 c1 (M / D) → Cp 157 #[.slice A1 n1 c1, .int .i64 1] W (NRet Q W)))
  (C11 : Hid (∀ W A1 n1 c1, NV W A1 n1 c1 Q → Ct 139 #[.slice A1 n1 c1, .int .i64 Y] (.float .f64 F) W))
  (hrem : M % D = 0)
  (u0 : decide (0 ≤ E) = false) (u1 : wrap64 (-E) = -E) (u2 : wrap64 ((bd : Int) - (ba : Int)) = x1) (u3 : wrap64 (x1 + 70) = up) (hu : (decide (up < 0) = false ∧ U = up ∧ wrap64 (-up) = x2 ∧ wrap64 (x2 - 1) = Y) ∨ (decide (up < 0) = true ∧ U = 0 ∧ Y = -1)) :
  Ct 141 #[.string s, .int .i64 X] (.float .f64 F) w := by
 have h1 : (s.size : Int) ≤ 281474976710656 := by omega
 have HN := Lh hN
 have HK := Lh hK
 have HN0 := Lh hN0
 have HREM := Lh hrem
 have HG := Lh hg
 have HGN := Lh hgN
 have HN8 := Lh hN8
 have HRB := Lh hrb
 have HUW := Lh hu
 clear hu hs hK hN hN0 hrem hg hgN hN8 hrb
 go_enter Tryz.func141, Tryz.ntmps141
 go_wp2
 go_loopw [5] (fun i wr => ∃ k : Nat, i = .int .i64 k ∧ k ≤ K ∧ w = wr) (fun i _ => K - (intOf i).toNat)
 case atStart => exact ⟨0, rfl, Nat.zero_le _, rfl⟩
 case round =>
  obtain ⟨k, rfl, hk, rfl⟩ := hrel
  have hk2 := HK.out
  by_cases hlt : k < K
  ·have hks : k < s.size := by omega
   have e0 : ((s[k]'hks).toNat : Int) = 48 := by rw [Z1.out k hks hlt]; rfl
   have a2 : (k : Int) < (s.size : Int) := by omega
   have a1 : (0 : Int) ≤ (k : Int) := by omega
   clear hk2
   go_wp2
   exact ⟨⟨k + 1, by go_num, by omega, trivial⟩, by simp [intOf]; omega⟩
  ·obtain rfl : k = K := by omega
   have hz : k < s.size := by have := HN.out; have := HN0.out; omega
   obtain ⟨B, hB⟩ : ∃ B : Nat, (s[k]'hz).toNat = B := ⟨_, rfl⟩
   have hB48 := Z2.out hz
   rw [hB] at hB48
   have e0 : ((s[k]'hz).toNat : Int) = (B : Int) := by rw [hB]
   have e1 : ((B : Int) == 48) = false := by rw [beq_eq_false_iff_ne]; omega
   have a2 : (k : Int) < (s.size : Int) := by omega
   have a1 : (0 : Int) ≤ (k : Int) := by omega
   have a3 : (k : Int) ≤ (s.size : Int) := by omega
   have a4 : ((s.size - k : Nat) : Int) = (N : Int) := by rw [HN.out]
   clear hk2 hB hB48
   have hext : s.extract k s.size = g := HG.out
   have b4 : (g.size : Int) = (N : Int) := by rw [HGN.out]
   go_wp2
   clear a1 a2 a3 e0 e1 hext hz b4
   go_loopw [6, 7] (fun v i wr => ∃ j : Nat, i = .int .i64 (810 + (j : Int)) ∧ 810 + j ≤ N ∧ v = .bool ((((bl g).drop 810).take j).any (· != 48)) ∧ w = wr) (fun _ i _ => N - (intOf i).toNat)
   case atStart => exact ⟨0, rfl, by have := HN8.out; omega, rfl, rfl⟩
   case round =>
    obtain ⟨j, rfl, hj, rfl, rfl⟩ := hrel
    by_cases hjl : 810 + j < N
    ·have hgs : 810 + j < g.size := by rw [HGN.out]; exact hjl
     obtain ⟨D8, hD8⟩ : ∃ D8 : Nat, (g[810 + j]'hgs).toNat = D8 := ⟨_, rfl⟩
     have hstep : (((bl g).drop 810).take (j + 1)).any (· != 48) = ((((bl g).drop 810).take j).any (· != 48) || (D8 != 48)) := by
      rw [List.take_add_one, List.getElem?_drop, C0 g (810 + j) hgs, hD8, List.any_append]
      simp
     have b0 : ((810 + (j : Int)) : Int) < (N : Int) := by omega
     have b1 : (0 : Int) ≤ 810 + (j : Int) := by omega
     have b2 : (810 + (j : Int)).toNat = 810 + j := by omega
     have b3 : ((g[810 + j]'hgs).toNat : Int) = (D8 : Int) := by rw [hD8]
     have b4 : (g.size : Int) = (N : Int) := by rw [HGN.out]
     have b5 : 810 + (j : Int) < (g.size : Int) := by omega
     obtain ⟨r, hr⟩ : ∃ r, (((bl g).drop 810).take j).any (· != 48) = r := ⟨_, rfl⟩
     rw [hr] at hstep ⊢
     have HST := Lh hstep
     clear hstep hr hD8
     cases r
     ·cases h48 : (D8 != 48)
      ·have b6 : ((D8 : Int) != 48) = false := by rw [bne_eq_false_iff_eq]; have := bne_eq_false_iff_eq.1 h48; omega
       have HS2 := Lh (show (((bl g).drop 810).take (j + 1)).any (· != 48) = false from by rw [HST.out, h48]; rfl)
       clear h48
       go_wp2
       exact ⟨⟨j + 1, by go_num, by omega, by rw [HS2.out], trivial⟩, by simp [intOf]; omega⟩
      ·have b6 : ((D8 : Int) != 48) = true := by rw [bne_iff_ne]; have := bne_iff_ne.1 h48; omega
       have HS2 := Lh (show (((bl g).drop 810).take (j + 1)).any (· != 48) = true from by rw [HST.out, h48]; rfl)
       clear h48
       go_wp2
       exact ⟨⟨j + 1, by go_num, by omega, by rw [HS2.out], trivial⟩, by simp [intOf]; omega⟩
     ·have HS2 := Lh (show (((bl g).drop 810).take (j + 1)).any (· != 48) = true from by rw [HST.out]; rfl)
      go_wp2
      exact ⟨⟨j + 1, by go_num, by omega, by rw [HS2.out], trivial⟩, by simp [intOf]; omega⟩
    ·have hz2 : (((bl g).drop 810).take j).any (· != 48) = false := by
      rw [List.take_of_length_le (by rw [List.length_drop, By, HGN.out]; omega)]
      exact HRB.out
     rw [hz2]
     have b4 : (g.size : Int) = (N : Int) := by rw [HGN.out]
     have b0 : decide (810 + (j : Int) < (N : Int)) = false := decide_eq_false (by omega)
     have b5 : (810 : Int) ≤ (g.size : Int) := by have := HN8.out; omega
     clear hz2
     rcases HUW.out with ⟨u4, rfl, u5, u6⟩ | ⟨u4, rfl, rfl⟩
     all_goals
      go_wp2_with fail
      refine (C3.out _).mono ?_
      rintro e w1 ⟨A1, n1, c1, rfl, g1, b1⟩
      have G1 := Lh g1
      have B1 := Lh b1
      clear g1 b1
      go_wp2_with fail
      refine (C4.out _).mono ?_
      rintro e w2 ⟨A2, n2, c2, rfl, g2, b2⟩
      have G2 := Lh g2
      have G1a := Lh (G1.out.step b2)
      have B2 := Lh (Aa B1.out b2)
      clear g2 b2
      go_wp2_with fail
      refine Bm (C5.out _ _ _ _ G2.out) fun w3 b3 => ?_
      have G2a := Lh (G2.out.step b3)
      have G1b := Lh (G1a.out.step b3)
      have B3 := Lh (Aa B2.out b3)
      clear b3
      go_wp2_with fail
      refine Bm (C6.out _ _ _ _ G1b.out) fun w4 b4 => ?_
      have G2b := Lh (G2a.out.step b4)
      have G1c := Lh (G1b.out.step b4)
      have B4 := Lh (Aa B3.out b4)
      clear b4
      go_wp2_with fail
      refine (C7.out _ _ _ _ G1c.out).mono ?_
      rintro e w5 ⟨A5, n5, c5, rfl, g5, b5⟩
      have G5 := Lh g5
      have G25 := Lh (G2b.out.step b5)
      have B5 := Lh (Aa B4.out b5)
      clear g5 b5
      go_wp2_with fail
      refine (C8.out _ _ _ _ _ _ _ G5.out G25.out).mono ?_
      rintro e w6 ⟨A6, n6, c6, A7, n7, c7, rfl, g6, g7, b6⟩
      have G6 := Lh g6
      have B6 := Lh (Aa B5.out b6)
      obtain rfl : n7 = 0 := by
       have h1 := g7.len
       rw [HREM.out] at h1
       exact h1.symm
      clear g6 g7 b6
      go_wp2_with fail
      refine (C9.out _ _ _ _ G6.out).mono ?_
      rintro e w7 ⟨A8, n8, c8, rfl, g8, b7⟩
      have G8 := Lh g8
      have B7 := Lh (Aa B6.out b7)
      clear g8 b7
      go_wp2_with fail
      refine Bm (C11.out _ _ _ _ G8.out) fun w9 b9 => ?_
      have B9 := Lh (Aa B7.out b9)
      clear b9
      go_wp2
      go_ret
      exact ⟨rfl, B9.out⟩
theorem L7 (s : ByteArray) (K N : Nat) (X P : Int) (m F : Nat) (D M Q Q2 bd ba : Nat) (x1 up x2 Y U : Int) (g : ByteArray) (y1 : Int) (E : Int) (w : World) (hs : s.size ≤ 281474976710656) (hK : K ≤ s.size) (hN : s.size - K = N)
  (Z1 : Hid (∀ k (h : k < s.size), k < K → (s[k]'h).toNat = 48)) (Z2 : Hid (∀ h : K < s.size, (s[K]'h).toNat ≠ 48))
  (hN0 : 0 < N) (p1 : wrap64 ((N : Int) + X) = P) (t0 : ((N : Int) == 0) = false) (t1 : decide (400 < P) = false) (t2 : decide (P < -400) = false) (t3 : decide (820 < (N : Int)) = true)
  (hg : s.extract K s.size = g) (hgN : g.size = N) (hN8 : 820 < N) (hrb : ((bl g).drop 810).any (· != 48) = false)
  (q0 : wrap64 (X + (N : Int)) = y1) (q1 : wrap64 (y1 - 810) = E)
  (C3 : Hid (∀ W, Cp 195 #[.string (g.extract 0 810), .int .i64 10] W (NOk m W)))
  (C4 : Hid (∀ W, Cp 196 #[.int .i64 (-E)] W (NRet D W)))
  (C5 : Hid (∀ W A1 n1 c1, NV W A1 n1 c1 D → Ct 193 #[.slice A1 n1 c1] (.int .i64 (bd : Nat)) W))
  (C6 : Hid (∀ W A1 n1 c1, NV W A1 n1 c1 m → Ct 193 #[.slice A1 n1 c1] (.int .i64 (ba : Nat)) W))
  (C7 : Hid (∀ W A1 n1 c1, NV W A1 n1 c1 m → Cp 157 #[.slice A1 n1 c1, .int .i64 U] W (NRet M W)))
  (C8 : Hid (∀ W A1 n1 c1 A2 n2 c2, NV W A1 n1 c1 M → NV W A2 n2 c2 D → Cp 155 #[.slice A1 n1 c1, .slice A2 n2 c2] W (W6 M D W)))
  (C9 : Hid (∀ W A1 n1 c1, NV W A1 n1 c1 (M / D) → Cp 157 #[.slice A1 n1 c1, .int .i64 1] W (NRet Q W)))
  (C10 : Hid (∀ W A1 n1 c1 A2 n2 c2, NV W A1 n1 c1 Q → NV W A2 n2 c2 1 → Cp 137 #[.slice A1 n1 c1, .slice A2 n2 c2] W (NRet Q2 W)))
  (C11 : Hid (∀ W A1 n1 c1, NV W A1 n1 c1 Q2 → Ct 139 #[.slice A1 n1 c1, .int .i64 Y] (.float .f64 F) W))
  (hrem : M % D ≠ 0)
  (u0 : decide (0 ≤ E) = false) (u1 : wrap64 (-E) = -E) (u2 : wrap64 ((bd : Int) - (ba : Int)) = x1) (u3 : wrap64 (x1 + 70) = up) (hu : (decide (up < 0) = false ∧ U = up ∧ wrap64 (-up) = x2 ∧ wrap64 (x2 - 1) = Y) ∨ (decide (up < 0) = true ∧ U = 0 ∧ Y = -1)) :
  Ct 141 #[.string s, .int .i64 X] (.float .f64 F) w := by
 have h1 : (s.size : Int) ≤ 281474976710656 := by omega
 have HN := Lh hN
 have HK := Lh hK
 have HN0 := Lh hN0
 have HREM := Lh hrem
 have HG := Lh hg
 have HGN := Lh hgN
 have HN8 := Lh hN8
 have HRB := Lh hrb
 have HUW := Lh hu
 clear hu hs hK hN hN0 hrem hg hgN hN8 hrb
 go_enter Tryz.func141, Tryz.ntmps141
 go_wp2
 go_loopw [5] (fun i wr => ∃ k : Nat, i = .int .i64 k ∧ k ≤ K ∧ w = wr) (fun i _ => K - (intOf i).toNat)
 case atStart => exact ⟨0, rfl, Nat.zero_le _, rfl⟩
 case round =>
  obtain ⟨k, rfl, hk, rfl⟩ := hrel
  have hk2 := HK.out
  by_cases hlt : k < K
  ·have hks : k < s.size := by omega
   have e0 : ((s[k]'hks).toNat : Int) = 48 := by rw [Z1.out k hks hlt]; rfl
   have a2 : (k : Int) < (s.size : Int) := by omega
   have a1 : (0 : Int) ≤ (k : Int) := by omega
   clear hk2
   go_wp2
   exact ⟨⟨k + 1, by go_num, by omega, trivial⟩, by simp [intOf]; omega⟩
  ·obtain rfl : k = K := by omega
   have hz : k < s.size := by have := HN.out; have := HN0.out; omega
   obtain ⟨B, hB⟩ : ∃ B : Nat, (s[k]'hz).toNat = B := ⟨_, rfl⟩
   have hB48 := Z2.out hz
   rw [hB] at hB48
   have e0 : ((s[k]'hz).toNat : Int) = (B : Int) := by rw [hB]
   have e1 : ((B : Int) == 48) = false := by rw [beq_eq_false_iff_ne]; omega
   have a2 : (k : Int) < (s.size : Int) := by omega
   have a1 : (0 : Int) ≤ (k : Int) := by omega
   have a3 : (k : Int) ≤ (s.size : Int) := by omega
   have a4 : ((s.size - k : Nat) : Int) = (N : Int) := by rw [HN.out]
   clear hk2 hB hB48
   have hext : s.extract k s.size = g := HG.out
   have b4 : (g.size : Int) = (N : Int) := by rw [HGN.out]
   go_wp2
   clear a1 a2 a3 e0 e1 hext hz b4
   go_loopw [6, 7] (fun v i wr => ∃ j : Nat, i = .int .i64 (810 + (j : Int)) ∧ 810 + j ≤ N ∧ v = .bool ((((bl g).drop 810).take j).any (· != 48)) ∧ w = wr) (fun _ i _ => N - (intOf i).toNat)
   case atStart => exact ⟨0, rfl, by have := HN8.out; omega, rfl, rfl⟩
   case round =>
    obtain ⟨j, rfl, hj, rfl, rfl⟩ := hrel
    by_cases hjl : 810 + j < N
    ·have hgs : 810 + j < g.size := by rw [HGN.out]; exact hjl
     obtain ⟨D8, hD8⟩ : ∃ D8 : Nat, (g[810 + j]'hgs).toNat = D8 := ⟨_, rfl⟩
     have hstep : (((bl g).drop 810).take (j + 1)).any (· != 48) = ((((bl g).drop 810).take j).any (· != 48) || (D8 != 48)) := by
      rw [List.take_add_one, List.getElem?_drop, C0 g (810 + j) hgs, hD8, List.any_append]
      simp
     have b0 : ((810 + (j : Int)) : Int) < (N : Int) := by omega
     have b1 : (0 : Int) ≤ 810 + (j : Int) := by omega
     have b2 : (810 + (j : Int)).toNat = 810 + j := by omega
     have b3 : ((g[810 + j]'hgs).toNat : Int) = (D8 : Int) := by rw [hD8]
     have b4 : (g.size : Int) = (N : Int) := by rw [HGN.out]
     have b5 : 810 + (j : Int) < (g.size : Int) := by omega
     obtain ⟨r, hr⟩ : ∃ r, (((bl g).drop 810).take j).any (· != 48) = r := ⟨_, rfl⟩
     rw [hr] at hstep ⊢
     have HST := Lh hstep
     clear hstep hr hD8
     cases r
     ·cases h48 : (D8 != 48)
      ·have b6 : ((D8 : Int) != 48) = false := by rw [bne_eq_false_iff_eq]; have := bne_eq_false_iff_eq.1 h48; omega
       have HS2 := Lh (show (((bl g).drop 810).take (j + 1)).any (· != 48) = false from by rw [HST.out, h48]; rfl)
       clear h48
       go_wp2
       exact ⟨⟨j + 1, by go_num, by omega, by rw [HS2.out], trivial⟩, by simp [intOf]; omega⟩
      ·have b6 : ((D8 : Int) != 48) = true := by rw [bne_iff_ne]; have := bne_iff_ne.1 h48; omega
       have HS2 := Lh (show (((bl g).drop 810).take (j + 1)).any (· != 48) = true from by rw [HST.out, h48]; rfl)
       clear h48
       go_wp2
       exact ⟨⟨j + 1, by go_num, by omega, by rw [HS2.out], trivial⟩, by simp [intOf]; omega⟩
     ·have HS2 := Lh (show (((bl g).drop 810).take (j + 1)).any (· != 48) = true from by rw [HST.out]; rfl)
      go_wp2
      exact ⟨⟨j + 1, by go_num, by omega, by rw [HS2.out], trivial⟩, by simp [intOf]; omega⟩
    ·have hz2 : (((bl g).drop 810).take j).any (· != 48) = false := by
      rw [List.take_of_length_le (by rw [List.length_drop, By, HGN.out]; omega)]
      exact HRB.out
     rw [hz2]
     have b4 : (g.size : Int) = (N : Int) := by rw [HGN.out]
     have b0 : decide (810 + (j : Int) < (N : Int)) = false := decide_eq_false (by omega)
     have b5 : (810 : Int) ≤ (g.size : Int) := by have := HN8.out; omega
     clear hz2
     rcases HUW.out with ⟨u4, rfl, u5, u6⟩ | ⟨u4, rfl, rfl⟩
     all_goals
      go_wp2_with fail
      refine (C3.out _).mono ?_
      rintro e w1 ⟨A1, n1, c1, rfl, g1, b1⟩
      have G1 := Lh g1
      have B1 := Lh b1
      clear g1 b1
      go_wp2_with fail
      refine (C4.out _).mono ?_
      rintro e w2 ⟨A2, n2, c2, rfl, g2, b2⟩
      have G2 := Lh g2
      have G1a := Lh (G1.out.step b2)
      have B2 := Lh (Aa B1.out b2)
      clear g2 b2
      go_wp2_with fail
      refine Bm (C5.out _ _ _ _ G2.out) fun w3 b3 => ?_
      have G2a := Lh (G2.out.step b3)
      have G1b := Lh (G1a.out.step b3)
      have B3 := Lh (Aa B2.out b3)
      clear b3
      go_wp2_with fail
      refine Bm (C6.out _ _ _ _ G1b.out) fun w4 b4 => ?_
      have G2b := Lh (G2a.out.step b4)
      have G1c := Lh (G1b.out.step b4)
      have B4 := Lh (Aa B3.out b4)
      clear b4
      go_wp2_with fail
      refine (C7.out _ _ _ _ G1c.out).mono ?_
      rintro e w5 ⟨A5, n5, c5, rfl, g5, b5⟩
      have G5 := Lh g5
      have G25 := Lh (G2b.out.step b5)
      have B5 := Lh (Aa B4.out b5)
      clear g5 b5
      go_wp2_with fail
      refine (C8.out _ _ _ _ _ _ _ G5.out G25.out).mono ?_
      rintro e w6 ⟨A6, n6, c6, A7, n7, c7, rfl, g6, g7, b6⟩
      have G6 := Lh g6
      have B6 := Lh (Aa B5.out b6)
      have hn7 : (0 : Int) < (n7 : Int) := by
       have h1 := g7.len
       have h2 : (wds (M % D)) ≠ [] := fun e => HREM.out (by have h3 := Ae (M % D); rw [e] at h3; exact h3.symm)
       have := List.length_pos_iff.2 h2
       omega
      clear g6 g7 b6
      go_wp2_with fail
      refine (C9.out _ _ _ _ G6.out).mono ?_
      rintro e w7 ⟨A8, n8, c8, rfl, g8, b7⟩
      have G8 := Lh g8
      have B7 := Lh (Aa B6.out b7)
      clear g8 b7
      have bl := Lh (show Below w7.heap.size w7 (w7.alloc (.cells #[.int .u32 1] 129)) from (Below.refl _ _).alloc (Nat.le_refl _) _)
      have C10' := Lh (C10.out _ _ _ _ _ _ _ (G8.out.step bl.out) (NV.lit w7 1 (by omega) (by omega)))
      go_wp2_with fail
      refine C10'.out.mono ?_
      rintro e w8 ⟨A9, n9, c9, rfl, g9, b8⟩
      have G9 := Lh g9
      have B8 := Lh (Aa (Aa B7.out bl.out) b8)
      clear g9 b8
      go_wp2_with fail
      refine Bm (C11.out _ _ _ _ G9.out) fun w9 b9 => ?_
      have B9 := Lh (Aa B8.out b9)
      clear b9
      go_wp2
      go_ret
      exact ⟨rfl, B9.out⟩
end
end Go.Proofs.YtmakhfekiieneaaGreatDoor
