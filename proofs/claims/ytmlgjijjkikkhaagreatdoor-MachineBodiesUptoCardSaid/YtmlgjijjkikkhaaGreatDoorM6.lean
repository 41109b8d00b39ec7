/-
  awake: a machine of the law's own.
-/
import Derived.Test.YtmlgjijjkikkhaaGreatDoorM4
namespace Go.Proofs.YtmlgjijjkikkhaaGreatDoor
open Go.RowKit
attribute [local go_sem] stF neqM eqS eqF
set_option maxRecDepth 100000 in
set_option maxHeartbeats 1000000 in
theorem usual_any (w : World) : Calls Tryz.prog 16 #[] w fun e w' => e = .returned (.agg (celL 100 100 100 10)) ∧ Below w.heap.size w w' := by
  have n1 := new1 w (celL 0 0 0 0) 23
  have b1 := below_a1 w (.cells (celL 0 0 0 0) 23)
  go_enter Tryz.func16, Tryz.ntmps16
  go_wp2_with (refine wpList_store_row rfl 23 _ _ rfl w.heap.size _ rfl rfl 23 _ n1 (by kernel_rfl) rfl (by kernel_rfl) ?_)
  exact cR1 rfl rfl (run_loadVar_row _ w.heap.size 23 23 (celL 100 100 100 10) (0, 0) _ (setRow_heap _ _ _ _ _ _ n1) Tryz.underlying23 rfl (by kernel_rfl)) rfl ⟨rfl, below_setRowK b1 (Nat.le_refl _) _⟩
/-- An object without properties, class 1. -/
abbrev ob1 : Ob := { oc := 1, op := -1, of := false, pr := valU, on := 0, od := 0, os := 0 }
theorem may1 : May0 ob1 ([] : List Nat).length := ⟨by decide, by decide, by decide, by decide, by decide, by decide, by decide, by decide, by decide, by decide, by kernel_rfl, by decide⟩
set_option maxRecDepth 100000 in
set_option maxHeartbeats 2000000 in
theorem awake_any (w : World) : Calls Tryz.prog 9 #[] w fun e w' => e = .returned (.bool true) ∧ Below w.heap.size w w' := by
  have C1 := Lib.hid (usual_any w)
  have C2 := Lib.hid (fun W => new_m (a := 100) (b := 100) (c := 100) (d := 10) (A := none) (n := 0) (cp := 0) (l := []) (w := W) rfl (by omega) (RF.nil _ _ _) (by decide) rfl)
  go_enter Tryz.func9, Tryz.ntmps9
  go_wp2_with fail
  refine C1.out.mono ?_
  rintro e w1 ⟨rfl, b1⟩
  have B1 := Lib.hid b1
  clear b1 C1
  go_wp2_with fail
  refine (C2.out w1).mono ?_
  rintro e w2 ⟨⟨m, hb, dr, rfl, m2, p2, hm, hb1⟩, b2⟩
  clear C2
  have B2 := Lib.hid (B1.out.trans (b2.mono B1.out.size))
  have HM := Lib.hid (And.intro hm (Nat.le_trans B1.out.size hb1))
  have M2 := Lib.hid m2
  have C3 := Lib.hid (heap_m m2)
  have C4 := Lib.hid (alloc_m (y := ob1) m2 rfl (by show m ≠ hb; omega) p2 (by decide) may1)
  clear b2 hm hb1 m2 p2 B1
  go_wp2_with fail
  refine C3.out.mono ?_
  rintro e w' ⟨rfl, rfl⟩
  clear C3
  go_wp2_with fail
  refine C4.out.mono ?_
  rintro e w3 ⟨t, rfl, m3, p3, -, -, k3⟩
  have B3 := Lib.hid (B2.out.trans ((k3.b).mono (show w.heap.size ≤ hb from HM.out.2)))
  have M3 := Lib.hid m3
  have P3 := Lib.hid p3
  clear C4 m3 p3 k3 M2 B2
  go_wp2_with fail
  have hw3 : w.heap.size < w3.heap.size := by have h1 : hb < w3.heap.size := P3.out.lt; have := HM.out.2; omega
  have mA : Mc (w3.alloc (.cells zD 63)) m (mx0 100 100 100 10 hb dr) := M3.out.on (below_a1 w3 _)
  have pA : Hp hb 100 1 [t] (w3.alloc (.cells zD 63)) := P3.out.on (below_a1 w3 _)
  have nA := new1 w3 zD 63
  have bA : Below w.heap.size w (w3.alloc (.cells zD 63)) := B3.out.trans ((below_a1 w3 _).mono B3.out.size)
  have C5 := Lib.hid (know_14 (v := 0) mA)
  refine C5.out.mono ?_
  rintro e w4 ⟨rfl, m4, e4⟩
  have hz : w3.heap.size < (w3.alloc (.cells zD 63)).heap.size := by simp
  have p4 := pA.mc mA e4 (by have := HM.out.1; omega)
  have B4 := Lib.hid (bA.trans (e4.below bA.size (by have := HM.out; omega)))
  have n4 : w4.heap[w3.heap.size]? = some (.cells zD 63 (0, 0)) := (e4.block _ hz (by have := M3.out.lt; omega)).trans nA
  have d0 : w4.cell? ⟨w3.heap.size, 0, none⟩ = some (.int .i64 0) := (cell_of_row w4 _ 0 _ _ _ n4).trans rfl
  have C6 := Lib.hid (heap_m m4)
  have C7 := Lib.hid (len_hp p4)
  have C8 := Lib.hid (known_14 m4)
  have C9 := Lib.hid (left_m m4)
  clear C5 hw3 mA pA nA bA m4 e4 hz p4 n4 B3 M3 P3
  go_wp2_with fail
  refine C6.out.mono ?_
  rintro e w' ⟨rfl, rfl⟩
  go_wp2_with fail
  refine C7.out.mono ?_
  rintro e w' ⟨rfl, rfl⟩
  go_wp2_with fail
  refine C8.out.mono ?_
  rintro e w' ⟨rfl, rfl⟩
  go_wp2_with fail
  refine C9.out.mono ?_
  rintro e w' ⟨rfl, rfl⟩
  clear C6 C7 C8 C9
  go_wp2
  go_ret
  exact ⟨rfl, B4.out⟩
end Go.Proofs.YtmlgjijjkikkhaaGreatDoor
