/-
  The law's SameDone of one end with itself; SetBody; the law's body.
-/
import Derived.Test.YtmlgjijjkikkhaaGreatDoorMb1
import Derived.Test.YtmlgjijjkikkhaaGreatDoorF1
namespace Go.Proofs.YtmlgjijjkikkhaaGreatDoor
open Go.RowKit
attribute [local go_sem] stF neqM eqS neqNat neqBody neqBody0
theorem bits_self (v : Val) : bitsV v v = true := by
  unfold bitsV alikeV
  simp
set_option maxRecDepth 100000 in
set_option maxHeartbeats 2000000 in
theorem same_self (k : Int) (v : Val) (s : ByteArray) (w : World) : Calls Tryz.prog 31 #[.agg (celD k v s), .agg (celD k v s)] w fun e w' => e = .returned (.bool true) ∧ Below w.heap.size w w' := by
  have C1 := Lib.hid (fun W => fBits_any v v W)
  rw [bits_self] at C1
  have b1 := below_a2 w (.cells (celD k v s) 63) (.cells (celD k v s) 63)
  have k0 : ((w.alloc (.cells (celD k v s) 63)).alloc (.cells (celD k v s) 63)).heap[w.heap.size]? = some (.cells (celD k v s) 63 (0, 0)) := ((below_a1 _ _).block _ (by simp)).trans (new1 w _ _)
  have k1 : ((w.alloc (.cells (celD k v s) 63)).alloc (.cells (celD k v s) 63)).heap[w.heap.size + 1]? = some (.cells (celD k v s) 63 (0, 0)) := by
    have := new1 (w.alloc (.cells (celD k v s) 63)) (celD k v s) 63
    simpa using this
  go_enter Tryz.func31, Tryz.ntmps31
  go_upto_region 1 with fail
  obtain ⟨W1, hW1⟩ : ∃ W1, (w.alloc (.cells (celD k v s) 63)).alloc (.cells (celD k v s) 63) = W1 := ⟨_, rfl⟩
  rw [hW1] at b1 k0 k1 ⊢
  clear hW1
  have c0 : W1.cell? ⟨w.heap.size, 0, none⟩ = some (.int .i64 k) := (cell_of_row W1 _ 0 _ _ _ k0).trans rfl
  have c1 : W1.cell? ⟨w.heap.size, 1, none⟩ = some (.int .i64 v.vk) := (cell_of_row W1 _ 1 _ _ _ k0).trans rfl
  have c6 : W1.cell? ⟨w.heap.size, 6, none⟩ = some (.string s) := (cell_of_row W1 _ 6 _ _ _ k0).trans rfl
  have d0 : W1.cell? ⟨w.heap.size + 1, 0, none⟩ = some (.int .i64 k) := (cell_of_row W1 _ 0 _ _ _ k1).trans rfl
  have d1 : W1.cell? ⟨w.heap.size + 1, 1, none⟩ = some (.int .i64 v.vk) := (cell_of_row W1 _ 1 _ _ _ k1).trans rfl
  have d6 : W1.cell? ⟨w.heap.size + 1, 6, none⟩ = some (.string s) := (cell_of_row W1 _ 6 _ _ _ k1).trans rfl
  have K0 := Lib.hid k0
  have K1 := Lib.hid k1
  have B1 := Lib.hid b1
  clear k0 k1 b1
  by_cases hk : v.vk = 5
  · have q : decide (v.vk = 5) = true := decide_eq_true hk
    rw [hk] at c1 d1
    clear C1 q hk
    go_wp2
    go_ret
    exact ⟨rfl, B1.out⟩
  · have q : (v.vk == 5) = false := by simpa using hk
    go_upto_region 3 with fail
    clear c0 c6 d0 d6
    go_wp2_with (first | refine ldP (k := 32) (ldSegD K0.out) rfl (by kernel_rfl) rfl rfl ?_ | refine ldP (k := 34) (ldSegD K1.out) rfl (by kernel_rfl) rfl rfl ?_)
    refine (C1.out _).mono ?_
    rintro e W2 ⟨rfl, b2⟩
    have B2 := Lib.hid (B1.out.trans (b2.mono B1.out.size))
    clear C1 b2 B1 K0 K1 c1 d1 q
    go_wp2
    go_ret
    exact ⟨rfl, B2.out⟩
end Go.Proofs.YtmlgjijjkikkhaaGreatDoor
