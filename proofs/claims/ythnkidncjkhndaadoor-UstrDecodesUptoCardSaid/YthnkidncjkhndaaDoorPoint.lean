/-
  The reference's point at any place: the code point by definition.
-/
import Derived.Test.YthnkidncjkhndaaDoorPointA
import Derived.Test.YthnkidncjkhndaaDoorPointD0
import Derived.Test.YthnkidncjkhndaaDoorPointD
import Derived.Test.YthnkidncjkhndaaDoorPointE0
import Derived.Test.YthnkidncjkhndaaDoorPointE
namespace Go.Proofs.YthnkidncjkhndaaDoor
open Go.RowKit
theorem point_any (s : ByteArray) (i : Nat) (w : World) (hs : s.size ≤ 140737488355328) (hi : i < s.size) :
    Calls Tryd.prog 63 #[.string s, .int .i64 i] w fun e w' => e = .returned (.tuple #[.int .u32 ((ptS s i).1 : Nat), .int .i64 ((ptS s i).2 : Nat)]) ∧ ∃ n, w' = w.drewN n := by
  have hco : ∀ j, coB s (i + j) = (decide (j < s.size - i) && decide (bt s (i + j) / 64 = 2)) := by
    intro j
    unfold coB
    congr 1
    simp
    omega
  have key : ptS s i = ptN (s.size - i) (bt s i) (bt s (i + 1)) (bt s (i + 2)) (bt s (i + 3)) := rfl
  have h0 := bt_lt s i
  rw [key]
  by_cases hA : bt s i < 128
  · rw [show ptN (s.size - i) (bt s i) (bt s (i + 1)) (bt s (i + 2)) (bt s (i + 3)) = (bt s i, 1) by unfold ptN; rw [if_pos hA]]
    exact point_a s i w hs hi hA
  · by_cases hN : bt s i < 194 ∨ 245 ≤ bt s i
    · rw [show ptN (s.size - i) (bt s i) (bt s (i + 1)) (bt s (i + 2)) (bt s (i + 3)) = (0, 0) by
        unfold ptN; rw [if_neg hA, if_neg (by omega), if_neg (by omega), if_neg (by omega)]]
      rcases hN with hN | hN
      · exact point_n1 s i w hs hi (by omega) hN
      · exact point_n2 s i w hs hi (by omega) hN
    · have e1 := hco 1
      have e2 := hco 2
      have e3 := hco 3
      by_cases hC : bt s i < 224
      · cases c1 : coB s (i + 1)
        · rw [c1] at e1
          rw [show ptN (s.size - i) (bt s i) (bt s (i + 1)) (bt s (i + 2)) (bt s (i + 3)) = (0, 0) by
            simp at e1
            unfold ptN; rw [if_neg hA, if_neg (by omega), if_neg (by omega), if_neg (by omega)]]
          exact point_c0 s i w hs hi (by omega) hC c1
        · rw [c1] at e1
          rw [show ptN (s.size - i) (bt s i) (bt s (i + 1)) (bt s (i + 2)) (bt s (i + 3)) = (bt s i % 32 * 64 + bt s (i + 1) % 64, 2) by
            simp at e1
            unfold ptN; rw [if_neg hA, if_pos (by omega)]]
          exact point_c1 s i w hs hi (by omega) hC c1
      · by_cases hD : bt s i < 240
        · cases c1 : coB s (i + 1)
          · rw [c1] at e1
            rw [show ptN (s.size - i) (bt s i) (bt s (i + 1)) (bt s (i + 2)) (bt s (i + 3)) = (0, 0) by
              simp at e1
              unfold ptN; rw [if_neg hA, if_neg (by omega), if_neg (by omega), if_neg (by omega)]]
            exact point_d0 s i w hs hi (by omega) hD c1
          · cases c2 : coB s (i + 2)
            · rw [c2] at e2
              rw [show ptN (s.size - i) (bt s i) (bt s (i + 1)) (bt s (i + 2)) (bt s (i + 3)) = (0, 0) by
                simp at e2
                unfold ptN; rw [if_neg hA, if_neg (by omega), if_neg (by omega), if_neg (by omega)]]
              exact point_d1 s i w hs hi (by omega) hD c1 c2
            · rw [c1] at e1
              rw [c2] at e2
              simp at e1 e2
              by_cases hr : 2048 ≤ bt s i % 16 * 4096 + bt s (i + 1) % 64 * 64 + bt s (i + 2) % 64 ∧ (bt s i % 16 * 4096 + bt s (i + 1) % 64 * 64 + bt s (i + 2) % 64 < 55296 ∨ 57343 < bt s i % 16 * 4096 + bt s (i + 1) % 64 * 64 + bt s (i + 2) % 64)
              · rw [show ptN (s.size - i) (bt s i) (bt s (i + 1)) (bt s (i + 2)) (bt s (i + 3)) = (bt s i % 16 * 4096 + bt s (i + 1) % 64 * 64 + bt s (i + 2) % 64, 3) by
                  unfold ptN; rw [if_neg hA, if_neg (by omega), if_pos (by omega), if_pos hr]]
                exact point_d s i w hs hi (by omega) hD c1 c2 _ _ (.inl ⟨hr, rfl, rfl⟩)
              · rw [show ptN (s.size - i) (bt s i) (bt s (i + 1)) (bt s (i + 2)) (bt s (i + 3)) = (0, 0) by
                  unfold ptN; rw [if_neg hA, if_neg (by omega), if_pos (by omega), if_neg hr]]
                exact point_d s i w hs hi (by omega) hD c1 c2 0 0 (.inr ⟨hr, rfl, rfl⟩)
        · cases c1 : coB s (i + 1)
          · rw [c1] at e1
            rw [show ptN (s.size - i) (bt s i) (bt s (i + 1)) (bt s (i + 2)) (bt s (i + 3)) = (0, 0) by
              simp at e1
              unfold ptN; rw [if_neg hA, if_neg (by omega), if_neg (by omega), if_neg (by omega)]]
            exact point_e0 s i w hs hi (by omega) (by omega) c1
          · cases c2 : coB s (i + 2)
            · rw [c2] at e2
              rw [show ptN (s.size - i) (bt s i) (bt s (i + 1)) (bt s (i + 2)) (bt s (i + 3)) = (0, 0) by
                simp at e2
                unfold ptN; rw [if_neg hA, if_neg (by omega), if_neg (by omega), if_neg (by omega)]]
              exact point_e1 s i w hs hi (by omega) (by omega) c1 c2
            · cases c3 : coB s (i + 3)
              · rw [c3] at e3
                rw [show ptN (s.size - i) (bt s i) (bt s (i + 1)) (bt s (i + 2)) (bt s (i + 3)) = (0, 0) by
                  simp at e3
                  unfold ptN; rw [if_neg hA, if_neg (by omega), if_neg (by omega), if_neg (by omega)]]
                exact point_e2 s i w hs hi (by omega) (by omega) c1 c2 c3
              · rw [c1] at e1
                rw [c2] at e2
                rw [c3] at e3
                simp at e1 e2 e3
                by_cases hr : 65536 ≤ bt s i % 8 * 262144 + bt s (i + 1) % 64 * 4096 + bt s (i + 2) % 64 * 64 + bt s (i + 3) % 64 ∧ bt s i % 8 * 262144 + bt s (i + 1) % 64 * 4096 + bt s (i + 2) % 64 * 64 + bt s (i + 3) % 64 ≤ 1114111
                · rw [show ptN (s.size - i) (bt s i) (bt s (i + 1)) (bt s (i + 2)) (bt s (i + 3)) = (bt s i % 8 * 262144 + bt s (i + 1) % 64 * 4096 + bt s (i + 2) % 64 * 64 + bt s (i + 3) % 64, 4) by
                    unfold ptN; rw [if_neg hA, if_neg (by omega), if_neg (by omega), if_pos (by omega), if_pos hr]]
                  exact point_e s i w hs hi (by omega) (by omega) c1 c2 c3 _ _ (.inl ⟨hr, rfl, rfl⟩)
                · rw [show ptN (s.size - i) (bt s i) (bt s (i + 1)) (bt s (i + 2)) (bt s (i + 3)) = (0, 0) by
                    unfold ptN; rw [if_neg hA, if_neg (by omega), if_neg (by omega), if_pos (by omega), if_neg hr]]
                  exact point_e s i w hs hi (by omega) (by omega) c1 c2 c3 0 0 (.inr ⟨hr, rfl, rfl⟩)
end Go.Proofs.YthnkidncjkhndaaDoor
