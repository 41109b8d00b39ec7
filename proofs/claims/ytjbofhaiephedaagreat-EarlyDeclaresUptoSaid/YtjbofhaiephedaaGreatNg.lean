/-
  The contracts of the program's letter and fits.
-/
import Derived.OwnWalk
import GoSem.Core.Utf8
import Derived.Lib.Strings
import Derived.WalkKit
import Derived.WalkSpells
import Derived.WalkLawsBesides
import Derived.Deep.QuietTactic
import Derived.BigQuiet
import Derived.Laws.BitsAllLaws
import Derived.Lib.Hide
import Derived.Laws.BytesString
import Derived.Laws.Cells
import Derived.Deep.OwnRows
import Derived.Laws.CopyOwn
import Derived.Deep.AppendLies
import Derived.Lib.BitFns
import Derived.Lib.LaidTab
import Ieee.Arith
import GoSem.Core.Float
import Derived.Deep.RegionHeld3
import Derived.Laws.Closers25b
import Derived.ProofKit
import Derived.OpenShut
import Derived.SizedLaws
import Derived.Deep.RegionWith
import Derived.BigRegion
import Derived.Laws.FloatArith
import Derived.Laws.Externs
import Derived.Lib.ItoaNum
import Derived.Deep.DeepCutAuto
import Derived.Deep.WholeRow
import Derived.Laws.Tables
import Derived.Laws.EntriesVeiled
import Derived.Lib.SlTrimSet
import Derived.Lib.Case
import Derived.Lib.AppendIntMem
import Derived.Test.YtjbofhaiephedaaGreatProg
import Derived.Test.YtjbofhaiephedaaGreatRows
import Derived.Test.YtjbofhaiephedaaGreatShelf
import Derived.Test.YtjbofhaiephedaaGreatLa
namespace Go.Proofs.YtjbofhaiephedaaGreat
open Go.RowKit
set_option maxRecDepth 100000 in
theorem xfits_any (c i : Nat) (w : World) :
    Calls Tryz.prog 150 #[.int .u16 c, .int .i64 i] w fun e w' => e = .returned (.bool (fitN (i == 0) c)) ∧ w = w' := by
  have C1 := Lib.hid (fun W => start_any c W)
  have C2 := Lib.hid (fun W => part_any c W)
  by_cases h : i = 0
  · subst h
    have e : fitN (0 == 0) c = stB c := rfl
    rw [e]
    clear e
    go_enter Tryz.func150, Tryz.ntmps150
    go_wp2_with fail
    refine (C1.out _).mono ?_
    rintro e w' ⟨rfl, rfl⟩
    go_wp2
    go_ret
    exact ⟨rfl, rfl⟩
  · have e : fitN (i == 0) c = ptB c := by
      unfold fitN
      rw [if_neg (by simpa using h)]
      rfl
    rw [e]
    have g1 : (i : Int) ≠ 0 := by omega
    clear e h
    go_enter Tryz.func150, Tryz.ntmps150
    go_wp2_with fail
    refine (C2.out _).mono ?_
    rintro e w' ⟨rfl, rfl⟩
    go_wp2
    go_ret
    exact ⟨rfl, rfl⟩

end Go.Proofs.YtjbofhaiephedaaGreat
