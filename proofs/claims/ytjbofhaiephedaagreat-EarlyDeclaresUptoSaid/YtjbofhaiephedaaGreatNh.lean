/-
  The contract of the program's Named.
-/
import Derived.OwnWalk
import GoSem.Core.Utf8
import Derived.Lib.Strings
import Derived.WalkKit
import Derived.WalkSpells
import Derived.WalkLawsBesides
import Derived.Deep.QuietTactic
import Derived.BigQuiet
import Derived.Laws.BitsAllLaws
import Derived.Lib.Hide
import Derived.Laws.BytesString
import Derived.Laws.Cells
import Derived.Deep.OwnRows
import Derived.Laws.CopyOwn
import Derived.Deep.AppendLies
import Derived.Lib.BitFns
import Derived.Lib.LaidTab
import Ieee.Arith
import GoSem.Core.Float
import Derived.Deep.RegionHeld3
import Derived.Laws.Closers25b
import Derived.ProofKit
import Derived.OpenShut
import Derived.SizedLaws
import Derived.Deep.RegionWith
import Derived.BigRegion
import Derived.Laws.FloatArith
import Derived.Laws.Externs
import Derived.Lib.ItoaNum
import Derived.Deep.DeepCutAuto
import Derived.Deep.WholeRow
import Derived.Laws.Tables
import Derived.Laws.EntriesVeiled
import Derived.Lib.SlTrimSet
import Derived.Lib.Case
import Derived.Lib.AppendIntMem
import Derived.Test.YtjbofhaiephedaaGreatProg
import Derived.Test.YtjbofhaiephedaaGreatRows
import Derived.Test.YtjbofhaiephedaaGreatShelf
import Derived.Test.YtjbofhaiephedaaGreatNa
import Derived.Test.YtjbofhaiephedaaGreatNb
import Derived.Test.YtjbofhaiephedaaGreatNg
namespace Go.Proofs.YtjbofhaiephedaaGreat
open Go.RowKit
def nmB : Bool → List Nat → Bool
  | _, [] => true
  | b, c :: r => fitN b c && nmB false r
def nmdL (l : List Nat) : Bool := nmB true l && !l.isEmpty
theorem gt_len (s : ByteArray) : (!(us s).isEmpty) = decide (0 < ln s) := by
  rw [← us_length]
  cases us s <;> simp
set_option maxRecDepth 100000 in
set_option maxHeartbeats 1000000 in
theorem xNamed_any (s : ByteArray) (w : World) (hs : s.size ≤ 140737488355328) :
    Calls Tryz.prog 134 #[.string s] w fun e w' => e = .returned (.bool (nmdL (us s))) ∧ ∃ n, w' = w.drewN n := by
  have hs63 : s.size ≤ maxLen := by unfold maxLen; omega
  have C1 := Lib.hid (fun W => len_any s W hs63)
  have C2 := Lib.hid (fun (j : Nat) W => xunit_any s j W hs63)
  have hln := ln_le s
  have hl : ((ln s : Nat) : Int) ≤ 140737488355328 := by omega
  obtain ⟨R, hR⟩ : ∃ R, nmdL (us s) = R := ⟨_, rfl⟩
  rw [hR]
  have HR := Lib.hid hR
  clear hs hs63 hln hR
  go_enter Tryz.func134, Tryz.ntmps134
  go_wp2_with fail
  refine (C1.out _).mono ?_
  rintro e w' ⟨rfl, rfl⟩
  go_wp2
  go_loopw [6] (fun iv wr => ∃ (i : Nat), iv = .int .i64 i ∧ i ≤ ln s ∧ Hid (R = (nmB (i == 0) ((us s).drop i) && !(us s).isEmpty)) ∧ ∃ m, wr = w.drewN m) (fun iv _ => ln s - (intOf iv).toNat)
  case atStart => exact ⟨0, rfl, Nat.zero_le _, Lib.hid HR.out.symm, 0, rfl⟩
  case round =>
    obtain ⟨i, rfl, hi, HJ, n0, rfl⟩ := hrel
    by_cases hlt : i < ln s
    · obtain ⟨c, hc1, hc2⟩ := drop_step (L := us s) (k := i) (by rw [us_length]; exact hlt)
      have C2' := Lib.hid (fun W => C2.out i W)
      rw [hc2] at C2'
      have C3 := Lib.hid (fun W => xfits_any c i W)
      have t1 : (i : Int) < (ln s : Int) := by omega
      have hs1 : R = ((fitN (i == 0) c && nmB false ((us s).drop (i + 1))) && !(us s).isEmpty) := by rw [HJ.out, hc1]; rfl
      cases hf : fitN (i == 0) c
      · rw [hf] at C3 hs1
        have HJ2 : Hid (R = false) := Lib.hid (by rw [hs1]; rfl)
        clear hc1 hc2 hs1 hf
        go_wp2_with fail
        refine (C2'.out _).mono ?_
        rintro e w' ⟨rfl, n1, rfl⟩
        go_wp2_with fail
        refine (C3.out _).mono ?_
        rintro e w' ⟨rfl, rfl⟩
        go_wp2
        go_ret
        exact ⟨by rw [HJ2.out]; rfl, n0 + n1, by first | rfl | simp⟩
      · rw [hf] at C3 hs1
        have HJ2 : Hid (R = (nmB (i + 1 == 0) ((us s).drop (i + 1)) && !(us s).isEmpty)) := Lib.hid (by rw [hs1, Bool.true_and]; rfl)
        clear hc1 hc2 hs1 hf
        go_wp2_with fail
        refine (C2'.out _).mono ?_
        rintro e w' ⟨rfl, n1, rfl⟩
        go_wp2_with fail
        refine (C3.out _).mono ?_
        rintro e w' ⟨rfl, rfl⟩
        go_wp2
        go_roundw
        case rel => exact ⟨i + 1, by go_num, by omega, HJ2, n0 + n1, by first | rfl | simp⟩
        case measure => simp [intOf]; omega
    · have hj2 : i = ln s := by omega
      have HJ2 : Hid (R = decide (0 < ln s)) := Lib.hid (by
        rw [HJ.out, List.drop_eq_nil_iff.2 (by rw [us_length]; omega), gt_len]
        exact Bool.true_and _)
      have t1 : ¬ (i : Int) < (ln s : Int) := by omega
      go_wp2_with fail
      refine (C1.out _).mono ?_
      rintro e w' ⟨rfl, rfl⟩
      go_wp2
      go_ret
      exact ⟨by rw [HJ2.out]; simp, n0, rfl⟩

end Go.Proofs.YtjbofhaiephedaaGreat
