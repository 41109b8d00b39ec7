/-
  The program's values: nan, told, Bool, Number, String, Object.
-/
import Derived.Deep.DeepCutAuto
import Derived.BigQuiet
import Derived.Deep.RegionHeld3
import Derived.Laws.StructEq
import Derived.Deep.WholeRow
import Derived.Laws.Rows
import Derived.Laws.Tables
import Derived.Laws.EntriesVeiled
import Derived.Laws.FloatArith
import Derived.Laws.Externs
import Derived.Deep.RegionWith
import Ieee.Arith
import GoSem.Core.Float
import GoSem.Core.Utf8
import Derived.WalkKit
import Derived.WalkSpells
import Derived.WalkLawsBesides
import Derived.Deep.QuietTactic
import Derived.Lib.Hide
import Derived.Deep.OwnRows
import Derived.Laws.CopyOwn
import Derived.Deep.AppendLies
import Derived.Lib.BitFns
import Derived.Lib.Strings
import Derived.Laws.BitsAllLaws
import Derived.Lib.LaidTab
import Derived.Lib.ItoaNum
import Derived.ProofKit
import Derived.OpenShut
import Derived.SizedLaws
import Derived.Laws.BytesString
import Derived.Laws.Cells
import Derived.BigRegion
import Derived.Test.YtmlgjijjkikkhaaGreatDoorProg
import Derived.Test.YtmlgjijjkikkhaaGreatDoorRows
import Derived.Test.YtmlgjijjkikkhaaGreatDoorShelf
import Derived.Test.YtmlgjijjkikkhaaGreatDoorCm
import Derived.Test.YtmlgjijjkikkhaaGreatDoorF0
namespace Go.Proofs.YtmlgjijjkikkhaaGreatDoor
open Go.RowKit
def vZ : Val := ⟨0, false, 0, ⟨#[]⟩, 0⟩
theorem celV_zero : (#[.int .i64 0, .bool false, .float .f64 0, .string ⟨#[]⟩, .int .i64 0] : Array Value) = celV vZ := rfl
theorem enan_any (w : World) : Calls Tryz.prog 156 #[] w fun e w' => e = .returned (.float .f64 9221120237041090560) ∧ w = w' := by
  have h2 : (callFunc 122 #[.int .u64 9221120237041090560]).run Tryz.prog w = .ok (.value (.float .f64 9221120237041090560)) w := f64from_run 9221120237041090560 w
  go_enter Tryz.func156, Tryz.ntmps156
  go_wp2
  go_ret
  exact ⟨rfl, rfl⟩
theorem etold_any (x : Nat) (w : World) : Calls Tryz.prog 147 #[.float .f64 x] w fun e w' => e = .returned (.float .f64 (cn x)) ∧ w = w' := by
  have C1 := Lib.hid (fun W => isNaN_any x W)
  have C2 := Lib.hid (fun W => enan_any W)
  unfold cn
  cases e1 : fnan x
  · rw [e1] at C1
    rw [if_neg (by simp)]
    clear e1 C2
    go_enter Tryz.func147, Tryz.ntmps147
    go_wp2_with fail
    refine (C1.out _).mono ?_
    rintro e w' ⟨rfl, rfl⟩
    go_wp2
    go_ret
    exact ⟨rfl, rfl⟩
  · rw [e1] at C1
    rw [if_pos rfl]
    clear e1
    go_enter Tryz.func147, Tryz.ntmps147
    go_wp2_with fail
    refine (C1.out _).mono ?_
    rintro e w' ⟨rfl, rfl⟩
    go_wp2_with fail
    refine (C2.out _).mono ?_
    rintro e w' ⟨rfl, rfl⟩
    go_wp2
    go_ret
    exact ⟨rfl, rfl⟩
set_option maxRecDepth 100000 in
set_option maxHeartbeats 1000000 in
theorem eBool_any (b : Bool) (w : World) : Calls Tryz.prog 130 #[.bool b] w fun e w' => e = .returned (valV (valB b)) ∧ Below w.heap.size w w' := by
  go_enter Tryz.func130, Tryz.ntmps130
  go_wp2_with (refine vlS rfl rfl w.heap.size 2 b 0 ⟨#[]⟩ 0 rfl rfl (heap_alloc_last w _) ?_; rw [World.setRow_alloc_new])
  refine vlR rfl rfl (heap_alloc_last w _) rfl rfl ⟨rfl, below_a1 _ _⟩
set_option maxRecDepth 100000 in
set_option maxHeartbeats 1000000 in
theorem eNumber_any (x : Nat) (w : World) : Calls Tryz.prog 131 #[.float .f64 x] w fun e w' => e = .returned (valV (valF (cn x))) ∧ Below w.heap.size w w' := by
  have C1 := Lib.hid (fun W => etold_any x W)
  obtain ⟨n, hn⟩ : ∃ n, cn x = n := ⟨_, rfl⟩
  rw [hn] at C1 ⊢
  clear hn
  go_enter Tryz.func131, Tryz.ntmps131
  go_wp2_with fail
  refine (C1.out _).mono ?_
  rintro e w' ⟨rfl, rfl⟩
  go_wp2_with (refine vlS rfl rfl w.heap.size 3 false n ⟨#[]⟩ 0 rfl rfl (heap_alloc_last w _) ?_; rw [World.setRow_alloc_new])
  refine vlR rfl rfl (heap_alloc_last w _) rfl rfl ⟨rfl, below_a1 _ _⟩
theorem slS_wh (s : ByteArray) : slS s 0 (ln s) = wh s := by
  unfold slS wh
  by_cases h : max 0 0 < min ((ln s : Nat) : Int) ((ln s : Nat) : Int)
  · rw [if_pos h]
    congr 1 <;> omega
  · rw [if_neg h]
    have h0 : ln s = 0 := by omega
    rw [h0]
    first | (simp; done) | exact (ByteArray.ext (by simp)).symm | (refine ByteArray.ext ?_; simp [ByteArray.extract])
set_option maxRecDepth 100000 in
set_option maxHeartbeats 1000000 in
theorem eString_any (s : ByteArray) (w : World) (hs : s.size ≤ maxLen) : Calls Tryz.prog 132 #[.string s] w fun e w' => e = .returned (valV (valS (wh s))) ∧ Below w.heap.size w w' := by
  have C1 := fun W => len_any s W hs
  have C2 := fun W => slice_any s 0 (ln s) W hs
  rw [slS_wh] at C2
  obtain ⟨n, hn⟩ : ∃ n : Int, ((ln s : Nat) : Int) = n := ⟨_, rfl⟩
  rw [hn] at C1 C2
  obtain ⟨t, ht⟩ : ∃ t, wh s = t := ⟨_, rfl⟩
  rw [ht] at C2 ⊢
  clear hs hn ht
  have C1 := Lib.hid C1
  have C2 := Lib.hid C2
  go_enter Tryz.func132, Tryz.ntmps132
  go_wp2_with fail
  refine (C1.out _).mono ?_
  rintro e w' ⟨rfl, rfl⟩
  go_wp2_with fail
  refine (C2.out _).mono ?_
  rintro e w' ⟨rfl, rfl⟩
  go_wp2_with (refine vlS rfl rfl w.heap.size 4 false 0 t 0 rfl rfl (heap_alloc_last w _) ?_; rw [World.setRow_alloc_new])
  refine vlR rfl rfl (heap_alloc_last w _) rfl rfl ⟨rfl, below_a1 _ _⟩
set_option maxRecDepth 100000 in
set_option maxHeartbeats 1000000 in
theorem eObject_any (o : Int) (w : World) : Calls Tryz.prog 79 #[.int .i64 o] w fun e w' => e = .returned (valV (valO (max o 0))) ∧ Below w.heap.size w w' := by
  obtain ⟨m, hm⟩ : ∃ m, max o 0 = m := ⟨_, rfl⟩
  rw [hm]
  go_enter Tryz.func79, Tryz.ntmps79
  go_wp2_with (refine vlS rfl rfl w.heap.size 5 false 0 ⟨#[]⟩ m rfl rfl (heap_alloc_last w _) ?_; rw [World.setRow_alloc_new])
  refine vlR rfl rfl (heap_alloc_last w _) rfl rfl ⟨rfl, below_a1 _ _⟩

end Go.Proofs.YtmlgjijjkikkhaaGreatDoor
