/-
  The contract of the statements' awake, and of the law UstrClasses.
-/
import Derived.Test.YthnkidncjkhndaaDoorEnc
import Derived.Test.YthnkidncjkhndaaDoorClass
namespace Go.Proofs.YthnkidncjkhndaaDoor
open Go.RowKit
theorem dec_e : decS { data := #[104, 195, 169] } = .inr [104, 233] := by decide
theorem enc_e : encS { data := #[0, 104, 0, 233] } = [104, 195, 169] := by decide
set_option maxHeartbeats 1000000 in
theorem awake_any (w : World) (hT : Lib.Utf8Tabs 0 1 w) : Calls Tryd.prog 16 #[] w fun e w' => e = .returned (.bool true) ∧ Below w.heap.size w w' := by
  have hd := decode_any { data := #[104, 195, 169] } w (by decide) hT
  rw [dec_e, show decT (.inr [104, 233]) = [0, 104, 0, 233] from by decide, show decI (.inr [104, 233]) = 0 from rfl, show decE (.inr [104, 233]) = 0 from rfl] at hd
  have he := fun W => encode_any { data := #[0, 104, 0, 233] } W (by decide)
  rw [enc_e] at he
  clear hT
  go_enter Tryd.func16, Tryd.ntmps16
  go_wp2_with fail
  refine hd.mono ?_
  rintro e w1 ⟨rfl, hb1⟩
  go_wp2_with fail
  refine (he w1).mono ?_
  rintro e w2 ⟨rfl, hb2⟩
  go_wp2
  go_ret
  exact ⟨rfl, hb1.trans (hb2.mono hb1.size)⟩
set_option maxHeartbeats 1000000 in
theorem classes_any (u : Int) (w : World) (hT : Lib.Utf8Tabs 0 1 w) : Calls Tryd.prog 9 #[.int .u16 u] w fun e w' => e = .returned (.bool true) ∧ Below w.heap.size w w' := by
  have ha := awake_any w hT
  clear hT
  go_enter Tryd.func9, Tryd.ntmps9
  go_wp2_with (first | (go_at_call 44; refine (space_any _ _).mono ?_; rintro e w' ⟨rfl, rfl⟩) | (go_at_call 45; refine (rspace_any _ _).mono ?_; rintro e w' ⟨rfl, rfl⟩) | (go_at_call 46; refine (ends_any _ _).mono ?_; rintro e w' ⟨rfl, rfl⟩) | (go_at_call 47; refine (rends_any _ _).mono ?_; rintro e w' ⟨rfl, rfl⟩) | (go_at_call 48; refine (start_any _ _).mono ?_; rintro e w' ⟨rfl, rfl⟩) | (go_at_call 49; refine (rstart_any _ _).mono ?_; rintro e w' ⟨rfl, rfl⟩) | (go_at_call 50; refine (part_any _ _).mono ?_; rintro e w' ⟨rfl, rfl⟩) | (go_at_call 51; refine (rpart_any _ _).mono ?_; rintro e w' ⟨rfl, rfl⟩) | (go_at_call 16; refine ha.mono ?_; rintro e w' ⟨rfl, hb⟩))
  go_ret
  exact ⟨rfl, hb⟩
end Go.Proofs.YthnkidncjkhndaaDoor
