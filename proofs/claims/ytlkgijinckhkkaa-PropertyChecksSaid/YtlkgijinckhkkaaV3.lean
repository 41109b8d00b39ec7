/-
  The program's Strict, Same, absent, both, Loose, Less, Add of values.
-/
import Derived.Test.YtlkgijinckhkkaaV2
namespace Go.Proofs.Ytlkgijinckhkkaa
open Go.RowKit
attribute [local go_sem] stF
attribute [local go_sem high] eql_vals neq_vals
theorem same_num {x y : Val} (mx : mayB x = true) (my : mayB y = true) (hx : x.vk = 3) (hy : y.vk = 3) : sameW x y = sameV x.vn y.vn := by
  rcases may_cases mx with rfl | rfl | ⟨b, rfl⟩ | ⟨n, _, rfl⟩ | ⟨s, _, rfl⟩ | ⟨o, _, rfl⟩
  · exact absurd hx (by decide)
  · exact absurd hx (by decide)
  · exact absurd (show (2 : Int) = 3 from hx) (by decide)
  · rcases may_cases my with rfl | rfl | ⟨b, rfl⟩ | ⟨m, _, rfl⟩ | ⟨s, _, rfl⟩ | ⟨o, _, rfl⟩
    · exact absurd hy (by decide)
    · exact absurd hy (by decide)
    · exact absurd (show (2 : Int) = 3 from hy) (by decide)
    · show ((3 : Int) == 3 && alikeV (valF n) (valF m) && sameV n m) = sameV n m
      rw [show alikeV (valF n) (valF m) = true by simp [alikeV, valF]]
      rfl
    · exact absurd (show (4 : Int) = 3 from hy) (by decide)
    · exact absurd (show (5 : Int) = 3 from hy) (by decide)
  · exact absurd (show (4 : Int) = 3 from hx) (by decide)
  · exact absurd (show (5 : Int) = 3 from hx) (by decide)
theorem may_zero {x : Val} (mx : mayB x = true) (hx : ¬ x.vk = 3) : x.vn = 0 := by
  rcases may_cases mx with rfl | rfl | ⟨b, rfl⟩ | ⟨n, _, rfl⟩ | ⟨s, _, rfl⟩ | ⟨o, _, rfl⟩
  · rfl
  · rfl
  · rfl
  · exact absurd rfl hx
  · rfl
  · rfl
theorem same_else {x y : Val} (mx : mayB x = true) (my : mayB y = true) (h : ¬ (x.vk = 3 ∧ y.vk = 3)) : eqW x y = sameW x y := by
  rw [eqW_strict]
  unfold strictV sameW
  by_cases hk : x.vk = y.vk
  · rw [may_zero mx (fun k => h ⟨k, hk ▸ k⟩), may_zero my (fun k => h ⟨hk.trans k, k⟩)]
    rw [show oeq 0 0 = true by decide +kernel, show sameV 0 0 = true by decide +kernel]
  · rw [show (x.vk == y.vk) = false by simpa using hk]
    rfl
set_option maxRecDepth 100000 in
set_option maxHeartbeats 1000000 in
theorem eSame_num (x y : Val) (w : World) (nx : x.vn < 18446744073709551616) (ny : y.vn < 18446744073709551616) (hK : (x.vk == 3) = true) (hJ : (y.vk == 3) = true) : Calls Try.prog 50 #[.agg (celV x), .agg (celV y)] w fun e w' => e = .returned (.bool (sameV x.vn y.vn)) ∧ Below w.heap.size w w' := by
  have C1 := fun W => nsame_any x.vn y.vn W nx ny
  obtain ⟨S, hS⟩ : ∃ S, sameV x.vn y.vn = S := ⟨_, rfl⟩
  rw [hS] at C1 ⊢
  clear hS nx ny
  have C1 := Lib.hid C1
  go_enter Try.func50, Try.ntmps50
  go_upto_region 1 with fail
  obtain ⟨W1, hW1⟩ : ∃ W1, w.alloc (.cells (celV x) 24) = W1 := ⟨_, rfl⟩
  rw [hW1]
  obtain ⟨W2, hW2⟩ : ∃ W2, W1.alloc (.cells (celV y) 24) = W2 := ⟨_, rfl⟩
  have HS := Lib.hid (T2.new hW1 hW2)
  obtain ⟨a0, a1, a2, a3, a4, d0, d1, d2, d3, d4⟩ := HS.out.cs
  rw [hW2]
  clear hW1 hW2
  go_wp2_with fail
  refine (C1.out _).mono ?_
  rintro e w' ⟨rfl, rfl⟩
  go_wp2
  go_ret
  exact ⟨rfl, HS.out.b⟩
set_option maxRecDepth 100000 in
set_option maxHeartbeats 1000000 in
theorem eSame_else (x y : Val) (w : World) (K J : Bool) (hK : (x.vk == 3) = K) (hJ : (y.vk == 3) = J) (h : (K && J) = false) : Calls Try.prog 50 #[.agg (celV x), .agg (celV y)] w fun e w' => e = .returned (.bool (eqW x y)) ∧ Below w.heap.size w w' := by
  cases K
  · skip
    go_enter Try.func50, Try.ntmps50
    go_upto_region 1 with fail
    obtain ⟨W1, hW1⟩ : ∃ W1, w.alloc (.cells (celV x) 24) = W1 := ⟨_, rfl⟩
    rw [hW1]
    obtain ⟨W2, hW2⟩ : ∃ W2, W1.alloc (.cells (celV y) 24) = W2 := ⟨_, rfl⟩
    have HS := Lib.hid (T2.new hW1 hW2)
    obtain ⟨a0, a1, a2, a3, a4, d0, d1, d2, d3, d4⟩ := HS.out.cs
    rw [hW2]
    clear hW1 hW2
    go_wp2_with (first | (refine ldX (k := 18) HS.out.k rfl (by kernel_rfl) rfl rfl ?_) | (refine ldX (k := 19) HS.out.k2 rfl (by kernel_rfl) rfl rfl ?_))
    go_ret
    exact ⟨rfl, HS.out.b⟩
  · obtain rfl : J = false := by simpa using h
    clear h
    go_enter Try.func50, Try.ntmps50
    go_upto_region 1 with fail
    obtain ⟨W1, hW1⟩ : ∃ W1, w.alloc (.cells (celV x) 24) = W1 := ⟨_, rfl⟩
    rw [hW1]
    obtain ⟨W2, hW2⟩ : ∃ W2, W1.alloc (.cells (celV y) 24) = W2 := ⟨_, rfl⟩
    have HS := Lib.hid (T2.new hW1 hW2)
    obtain ⟨a0, a1, a2, a3, a4, d0, d1, d2, d3, d4⟩ := HS.out.cs
    rw [hW2]
    clear hW1 hW2
    go_wp2_with (first | (refine ldX (k := 18) HS.out.k rfl (by kernel_rfl) rfl rfl ?_) | (refine ldX (k := 19) HS.out.k2 rfl (by kernel_rfl) rfl rfl ?_))
    go_ret
    exact ⟨rfl, HS.out.b⟩
theorem eSame_any {x y : Val} (mx : mayB x = true) (my : mayB y = true) (nx : x.vn < 18446744073709551616) (ny : y.vn < 18446744073709551616) (w : World) : Calls Try.prog 50 #[valV x, valV y] w fun e w' => e = .returned (.bool (sameW x y)) ∧ Below w.heap.size w w' := by
  by_cases h : x.vk = 3 ∧ y.vk = 3
  · rw [same_num mx my h.1 h.2]
    exact eSame_num x y w nx ny (by simpa using h.1) (by simpa using h.2)
  · rw [← same_else mx my h]
    exact eSame_else x y w _ _ rfl rfl (by
      rw [Bool.and_eq_false_iff]
      by_cases hx : x.vk = 3
      · exact .inr (by simpa using fun k => h ⟨hx, k⟩)
      · exact .inl (by simpa using hx))
end Go.Proofs.Ytlkgijinckhkkaa
