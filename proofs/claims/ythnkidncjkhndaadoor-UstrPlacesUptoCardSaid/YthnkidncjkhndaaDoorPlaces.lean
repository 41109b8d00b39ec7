/-
  The law UstrPlaces (texts of at most 2^45 bytes).
-/
import Derived.Test.YthnkidncjkhndaaDoorRev
import Derived.Test.YthnkidncjkhndaaDoorCmp
import Derived.Test.YthnkidncjkhndaaDoorAwake
import Derived.Test.YthnkidncjkhndaaDoorUnitLaw
namespace Go.Proofs.YthnkidncjkhndaaDoor
open Go.RowKit
set_option maxRecDepth 100000 in
set_option maxHeartbeats 2000000 in
theorem places_any (s t : ByteArray) (fr : Int) (w : World) (hs : s.size ≤ 35184372088832) (ht : t.size ≤ 35184372088832) (hT : Lib.Utf8Tabs 0 1 w) :
    Calls Tryd.prog 7 #[.string s, .string t, .int .i64 fr] w fun e w' => e = .returned (.bool true) ∧ Below w.heap.size w w' := by
  have c1 := index_any s t fr w hs ht
  have c2 := fun W => rindex_any s t fr W hs ht
  have c3 := fun W => last_any s t fr W hs ht (fun W2 => reverse_any t W2 (by omega))
  have c4 := fun W => rlast_any s t fr W hs ht
  have c5 := fun W => compare_any s t W (by unfold maxLen; omega) (by unfold maxLen; omega)
  have c6 := fun W => rcompare_any s t W (by unfold maxLen; omega) (by unfold maxLen; omega)
  have HA := Lib.hid (fun W (hb : Below w.heap.size w W) => awake_any W (tabs_below hT (tabs_two hT) hb))
  clear hT hs ht
  go_enter Tryd.func7, Tryd.ntmps7
  go_wp2_with fail
  refine c1.mono ?_
  rintro e w1 ⟨r1, rfl, h1, b1⟩
  go_wp2_with fail
  refine (c2 _).mono ?_
  rintro e w' ⟨r2, rfl, h2, n2, rfl⟩
  obtain rfl : r1 = r2 := FindIs_unique h1 h2
  clear h1 h2 c1
  go_wp2_with fail
  refine (c3 _).mono ?_
  rintro e w3 ⟨r3, rfl, h3, b3⟩
  have B3 := below_le (below_drewN' b1 n2) b3
  clear b1 b3
  go_wp2_with fail
  refine (c4 _).mono ?_
  rintro e w' ⟨r4, rfl, h4, n4, rfl⟩
  obtain rfl : r3 = r4 := LastIs_unique h3 h4
  clear h3 h4
  go_wp2_with fail
  refine (c5 _).mono ?_
  rintro e w' ⟨rfl, rfl⟩
  go_wp2_with fail
  refine (c6 _).mono ?_
  rintro e w' ⟨rfl, n6, rfl⟩
  have B6 := below_drewN' B3 (n4 + n6)
  go_wp2_with fail
  refine (HA.out _ B6).mono ?_
  rintro e w7 ⟨rfl, b7⟩
  have B7 := below_le B6 b7
  go_wp2
  go_ret
  exact ⟨rfl, B7⟩
end Go.Proofs.YthnkidncjkhndaaDoor
