/-
  Contracts of the lexer's units, digits and what stands between tokens.
-/
import GoSem.Core.Utf8
import Derived.Lib.Strings
import Derived.WalkKit
import Derived.WalkSpells
import Derived.WalkLawsBesides
import Derived.Deep.QuietTactic
import Derived.BigQuiet
import Derived.Laws.BitsAllLaws
import Derived.Lib.Hide
import Derived.Laws.BytesString
import Derived.Laws.Cells
import Derived.Deep.OwnRows
import Derived.Laws.CopyOwn
import Derived.Deep.AppendLies
import Derived.Lib.BitFns
import Derived.Lib.LaidTab
import Ieee.Arith
import GoSem.Core.Float
import Derived.Deep.RegionHeld3
import Derived.Laws.Closers25b
import Derived.ProofKit
import Derived.OpenShut
import Derived.SizedLaws
import Derived.Deep.RegionWith
import Derived.BigRegion
import Derived.Laws.FloatArith
import Derived.Laws.Externs
import Derived.Lib.ItoaNum
import Derived.Deep.DeepCutAuto
import Derived.Deep.WholeRow
import Derived.Laws.Tables
import Derived.Laws.EntriesVeiled
import Derived.Lib.SlTrimSet
import Derived.Lib.Case
import Derived.Lib.AppendIntMem
import Derived.Test.YtjbofhaiephedaaGreatProg
import Derived.Test.YtjbofhaiephedaaGreatRows
import Derived.Test.YtjbofhaiephedaaGreatShelf
import Derived.Test.YtjbofhaiephedaaGreatLa
namespace Go.Proofs.YtjbofhaiephedaaGreat
open Go.RowKit
theorem un_drop (s : ByteArray) (k : Nat) : unV s (k : Int) = hd0 ((us s).drop k) := by
  unfold unV unOk
  by_cases h : k < ln s
  · rw [decide_eq_true (show (0 : Int) ≤ (k : Int) by omega), decide_eq_true (show (k : Int) < (ln s : Int) by omega), if_pos (by rfl), Int.toNat_natCast]
    unfold un hd0
    rw [List.getD_eq_getElem?_getD, List.headD_eq_head?_getD, List.head?_drop]
  · rw [decide_eq_false (show ¬ (k : Int) < (ln s : Int) by omega), Bool.and_false, if_neg (by simp)]
    rw [List.drop_eq_nil_iff.2 (by rw [us_length]; omega)]
    rfl
set_option maxRecDepth 100000 in
theorem xunit_any (s : ByteArray) (k : Nat) (w : World) (hs : s.size ≤ maxLen) :
    Calls Tryz.prog 151 #[.string s, .int .i64 k] w fun e w' => e = .returned (.int .u16 ((hd0 ((us s).drop k) : Nat) : Int)) ∧ ∃ n, w' = w.drewN n := by
  have C1 := Lib.hid (fun W => unit_any s k W hs)
  rw [un_drop] at C1
  obtain ⟨v, hv⟩ : ∃ v, hd0 ((us s).drop k) = v := ⟨_, rfl⟩
  rw [hv] at C1 ⊢
  go_enter Tryz.func151, Tryz.ntmps151
  go_wp2_with fail
  refine (C1.out _).mono ?_
  rintro e w' ⟨rfl, n, rfl⟩
  go_wp2
  go_ret
  exact ⟨rfl, n, rfl⟩
end Go.Proofs.YtjbofhaiephedaaGreat
