/-
  Merged texts (P3, H4, H5, H7, Oa, Ob).
-/
import Derived.Test.YtmakhfekiieneaaGreatDoorQmd
import Derived.ShutString
import Derived.Lib.SmallJoins
open Go.RowKit
set_option maxRecDepth 100000
set_option maxHeartbeats 40000000
namespace Go.Proofs.YtmakhfekiieneaaGreatDoor
section
attribute [local go_sem] stF
attribute [local go_sem high] Rp Re
theorem Ix (x y : Val) (w : World) : Ct 35 #[.agg (Af x), .agg (Af y)] (.bool (By x y)) w := by
 obtain ⟨S, hS⟩ : ∃ S, By x y = S := ⟨_, rfl⟩
 rw [hS]
 have h1 := Lh ((J1 x y).trans hS)
 clear hS
 go_enter Tryz.func35, Tryz.ntmps35
 go_upto_region 1 with fail
 obtain ⟨W1, hW1⟩ : ∃ W1, w.alloc (.cells (Af x) 24) = W1 := ⟨_, rfl⟩
 rw [hW1]
 obtain ⟨W2, hW2⟩ : ∃ W2, W1.alloc (.cells (Af y) 24) = W2 := ⟨_, rfl⟩
 have HS := Lh (T2.new hW1 hW2)
 obtain ⟨a0, a1, a2, a3, a4, d0, d1, d2, d3, d4⟩ := HS.out.cs
 rw [hW2]
 clear hW1 hW2
 go_wp2_with (first | (refine ldX (k := 5) HS.out.k rfl (by kernel_rfl) rfl rfl ?_) | (refine ldX (k := 6) HS.out.k2 rfl (by kernel_rfl) rfl rfl ?_))
 go_ret
 exact ⟨by rw [← h1.out]; rfl, HS.out.b⟩
theorem F8 {x y : Val} (_ : Bc x = true) (_ : Bc y = true) (w : World) : Ct 35 #[Ay x, Ay y] (.bool (By x y)) w := Ix x y w
theorem Adh {x y : Val} (mx : Bc x = true) (my : Bc y = true) (hx : x.vk = 3) (hy : y.vk = 3) : Gu x y = Fb x.vn y.vn := by
 rcases Dx mx with rfl | rfl | ⟨b, rfl⟩ | ⟨n, _, rfl⟩ | ⟨s, _, rfl⟩ | ⟨o, _, rfl⟩
 ·exact absurd hx (by decide)
 ·exact absurd hx (by decide)
 ·exact absurd (show (2 : Int) = 3 from hx) (by decide)
 ·rcases Dx my with rfl | rfl | ⟨b, rfl⟩ | ⟨m, _, rfl⟩ | ⟨s, _, rfl⟩ | ⟨o, _, rfl⟩
  ·exact absurd hy (by decide)
  ·exact absurd hy (by decide)
  ·exact absurd (show (2 : Int) = 3 from hy) (by decide)
  ·show ((3 : Int) == 3 && Cv (Gm n) (Gm m) && Fb n m) = Fb n m
   rw [show Cv (Gm n) (Gm m) = true by simp [Cv, Gm]]
   rfl
  ·exact absurd (show (4 : Int) = 3 from hy) (by decide)
  ·exact absurd (show (5 : Int) = 3 from hy) (by decide)
 ·exact absurd (show (4 : Int) = 3 from hx) (by decide)
 ·exact absurd (show (5 : Int) = 3 from hx) (by decide)
theorem Pr {x : Val} (mx : Bc x = true) (hx : ¬ x.vk = 3) : x.vn = 0 := by
 rcases Dx mx with rfl | rfl | ⟨b, rfl⟩ | ⟨n, _, rfl⟩ | ⟨s, _, rfl⟩ | ⟨o, _, rfl⟩
 ·rfl
 ·rfl
 ·rfl
 ·exact absurd rfl hx
 ·rfl
 ·rfl
theorem X7 {x y : Val} (mx : Bc x = true) (my : Bc y = true) (h : ¬ (x.vk = 3 ∧ y.vk = 3)) : eqW x y = Gu x y := by
 rw [J1]
 unfold By Gu
 by_cases hk : x.vk = y.vk
 ·rw [Pr mx (fun k => h ⟨k, hk ▸ k⟩), Pr my (fun k => h ⟨hk.trans k, k⟩)]
  rw [show oeq 0 0 = true by decide +kernel, show Fb 0 0 = true by decide +kernel]
 ·rw [show (x.vk == y.vk) = false by simpa using hk]
  rfl
theorem Ye (x y : Val) (w : World) (nx : x.vn < 18446744073709551616) (ny : y.vn < 18446744073709551616) (hK : (x.vk == 3) = true) (hJ : (y.vk == 3) = true) : Ct 37 #[.agg (Af x), .agg (Af y)] (.bool (Fb x.vn y.vn)) w := by
 have C1 := fun W => X8 x.vn y.vn W nx ny
 obtain ⟨S, hS⟩ : ∃ S, Fb x.vn y.vn = S := ⟨_, rfl⟩
 rw [hS] at C1 ⊢
 clear hS nx ny
 have C1 := Lh C1
 go_enter Tryz.func37, Tryz.ntmps37
 go_upto_region 1 with fail
 obtain ⟨W1, hW1⟩ : ∃ W1, w.alloc (.cells (Af x) 24) = W1 := ⟨_, rfl⟩
 rw [hW1]
 obtain ⟨W2, hW2⟩ : ∃ W2, W1.alloc (.cells (Af y) 24) = W2 := ⟨_, rfl⟩
 have HS := Lh (T2.new hW1 hW2)
 obtain ⟨a0, a1, a2, a3, a4, d0, d1, d2, d3, d4⟩ := HS.out.cs
 rw [hW2]
 clear hW1 hW2
 go_wp2_with fail
 refine Sm (C1.out _) ?_
 go_wp2
 go_ret
 exact ⟨rfl, HS.out.b⟩
theorem So (x y : Val) (w : World) (K J : Bool) (hK : (x.vk == 3) = K) (hJ : (y.vk == 3) = J) (h : (K && J) = false) : Ct 37 #[.agg (Af x), .agg (Af y)] (.bool (eqW x y)) w := by
 cases K
 ·skip
  go_enter Tryz.func37, Tryz.ntmps37
  go_upto_region 1 with fail
  obtain ⟨W1, hW1⟩ : ∃ W1, w.alloc (.cells (Af x) 24) = W1 := ⟨_, rfl⟩
  rw [hW1]
  obtain ⟨W2, hW2⟩ : ∃ W2, W1.alloc (.cells (Af y) 24) = W2 := ⟨_, rfl⟩
  have HS := Lh (T2.new hW1 hW2)
  obtain ⟨a0, a1, a2, a3, a4, d0, d1, d2, d3, d4⟩ := HS.out.cs
  rw [hW2]
  clear hW1 hW2
  go_wp2_with (first | (refine ldX (k := 18) HS.out.k rfl (by kernel_rfl) rfl rfl ?_) | (refine ldX (k := 19) HS.out.k2 rfl (by kernel_rfl) rfl rfl ?_))
  go_ret
  exact ⟨rfl, HS.out.b⟩
 ·obtain rfl : J = false := by simpa using h
  clear h
  go_enter Tryz.func37, Tryz.ntmps37
  go_upto_region 1 with fail
  obtain ⟨W1, hW1⟩ : ∃ W1, w.alloc (.cells (Af x) 24) = W1 := ⟨_, rfl⟩
  rw [hW1]
  obtain ⟨W2, hW2⟩ : ∃ W2, W1.alloc (.cells (Af y) 24) = W2 := ⟨_, rfl⟩
  have HS := Lh (T2.new hW1 hW2)
  obtain ⟨a0, a1, a2, a3, a4, d0, d1, d2, d3, d4⟩ := HS.out.cs
  rw [hW2]
  clear hW1 hW2
  go_wp2_with (first | (refine ldX (k := 18) HS.out.k rfl (by kernel_rfl) rfl rfl ?_) | (refine ldX (k := 19) HS.out.k2 rfl (by kernel_rfl) rfl rfl ?_))
  go_ret
  exact ⟨rfl, HS.out.b⟩
theorem Ij {x y : Val} (mx : Bc x = true) (my : Bc y = true) (nx : x.vn < 18446744073709551616) (ny : y.vn < 18446744073709551616) (w : World) : Ct 37 #[Ay x, Ay y] (.bool (Gu x y)) w := by
 by_cases h : x.vk = 3 ∧ y.vk = 3
 ·rw [Adh mx my h.1 h.2]
  exact Ye x y w nx ny (by simpa using h.1) (by simpa using h.2)
 ·rw [← X7 mx my h]
  exact So x y w _ _ rfl rfl (by
   rw [Bool.and_eq_false_iff]
   by_cases hx : x.vk = 3
   ·exact .inr (by simpa using fun k => h ⟨hx, k⟩)
   ·exact .inl (by simpa using hx))
theorem Br (v : Val) (w : World) : Ct 56 #[.agg (Af v)] (.bool (Cy v)) w := by
 unfold Cy
 obtain ⟨K, hK⟩ : ∃ b, (v.vk == 0) = b := ⟨_, rfl⟩
 obtain ⟨J, hJ⟩ : ∃ b, (v.vk == 1) = b := ⟨_, rfl⟩
 rw [hK, hJ]
 unfold Af
 cases K
 ·skip
  go_enter Tryz.func56, Tryz.ntmps56
  go_wp2
  go_ret
  exact ⟨by simp, Ai _ _⟩
 ·skip
  go_enter Tryz.func56, Tryz.ntmps56
  go_wp2
  go_ret
  exact ⟨by simp, Ai _ _⟩
theorem Jj (x y : Val) (w : World) (n m : Nat) (M1 : Hid (∀ W, Below w.heap.size w W → Ct 22 #[.agg (Af x)] (.tuple #[.float .f64 n, .int .i64 0]) W)) (M2 : Hid (∀ W, Below w.heap.size w W → Ct 22 #[.agg (Af y)] (.tuple #[.float .f64 m, .int .i64 0]) W)) :
  Ct 57 #[.agg (Af x), .agg (Af y), .func (Fn.func 22) #[] #[]] (.tuple #[.float .f64 n, .float .f64 m, .int .i64 0]) w := by
 go_enter Tryz.func57, Tryz.ntmps57
 go_upto_region 1 with fail
 obtain ⟨W1, hW1⟩ : ∃ W1, w.alloc (.cells (Af x) 24) = W1 := ⟨_, rfl⟩
 rw [hW1]
 obtain ⟨W2, hW2⟩ : ∃ W2, W1.alloc (.cells (Af y) 24) = W2 := ⟨_, rfl⟩
 have HS := Lh (T2.new hW1 hW2)
 obtain ⟨a0, a1, a2, a3, a4, d0, d1, d2, d3, d4⟩ := HS.out.cs
 rw [hW2]
 clear hW1 hW2
 go_wp2_with (first | (refine ldX (k := 15) HS.out.k rfl (by kernel_rfl) rfl rfl ?_))
 with_reducible refine Bm (M1.out _ HS.out.b) fun w2 b2 => ?_
 have HS := Lh (HS.out.step b2)
 clear b2
 go_wp2_with (first | (refine ldX (k := 26) HS.out.k2 rfl (by kernel_rfl) rfl rfl ?_))
 with_reducible refine Bm (M2.out _ HS.out.b) fun w2 b2 => ?_
 have HS := Lh (HS.out.step b2)
 clear b2
 go_wp2
 go_ret3
 exact ⟨rfl, HS.out.b⟩
theorem Jf (x y : Val) (w : World) (n : Nat) (M1 : Hid (∀ W, Below w.heap.size w W → Ct 22 #[.agg (Af x)] (.tuple #[.float .f64 n, .int .i64 1]) W)) :
  Ct 57 #[.agg (Af x), .agg (Af y), .func (Fn.func 22) #[] #[]] (.tuple #[.float .f64 0, .float .f64 0, .int .i64 1]) w := by
 go_enter Tryz.func57, Tryz.ntmps57
 go_upto_region 1 with fail
 obtain ⟨W1, hW1⟩ : ∃ W1, w.alloc (.cells (Af x) 24) = W1 := ⟨_, rfl⟩
 rw [hW1]
 obtain ⟨W2, hW2⟩ : ∃ W2, W1.alloc (.cells (Af y) 24) = W2 := ⟨_, rfl⟩
 have HS := Lh (T2.new hW1 hW2)
 obtain ⟨a0, a1, a2, a3, a4, d0, d1, d2, d3, d4⟩ := HS.out.cs
 rw [hW2]
 clear hW1 hW2
 go_wp2_with (first | (refine ldX (k := 15) HS.out.k rfl (by kernel_rfl) rfl rfl ?_))
 with_reducible refine Bm (M1.out _ HS.out.b) fun w2 b2 => ?_
 have HS := Lh (HS.out.step b2)
 clear b2
 go_wp2
 go_ret3
 exact ⟨rfl, HS.out.b⟩
theorem Jh (x y : Val) (w : World) (n m : Nat) (M1 : Hid (∀ W, Below w.heap.size w W → Ct 22 #[.agg (Af x)] (.tuple #[.float .f64 n, .int .i64 0]) W)) (M2 : Hid (∀ W, Below w.heap.size w W → Ct 22 #[.agg (Af y)] (.tuple #[.float .f64 m, .int .i64 1]) W)) :
  Ct 57 #[.agg (Af x), .agg (Af y), .func (Fn.func 22) #[] #[]] (.tuple #[.float .f64 0, .float .f64 0, .int .i64 1]) w := by
 go_enter Tryz.func57, Tryz.ntmps57
 go_upto_region 1 with fail
 obtain ⟨W1, hW1⟩ : ∃ W1, w.alloc (.cells (Af x) 24) = W1 := ⟨_, rfl⟩
 rw [hW1]
 obtain ⟨W2, hW2⟩ : ∃ W2, W1.alloc (.cells (Af y) 24) = W2 := ⟨_, rfl⟩
 have HS := Lh (T2.new hW1 hW2)
 obtain ⟨a0, a1, a2, a3, a4, d0, d1, d2, d3, d4⟩ := HS.out.cs
 rw [hW2]
 clear hW1 hW2
 go_wp2_with (first | (refine ldX (k := 15) HS.out.k rfl (by kernel_rfl) rfl rfl ?_))
 with_reducible refine Bm (M1.out _ HS.out.b) fun w2 b2 => ?_
 have HS := Lh (HS.out.step b2)
 clear b2
 go_wp2_with (first | (refine ldX (k := 26) HS.out.k2 rfl (by kernel_rfl) rfl rfl ?_))
 with_reducible refine Bm (M2.out _ HS.out.b) fun w2 b2 => ?_
 have HS := Lh (HS.out.step b2)
 clear b2
 go_wp2
 go_ret3
 exact ⟨rfl, HS.out.b⟩
theorem Kw (x y : Val) (w : World) (n m : ByteArray) (M1 : Hid (∀ W, Below w.heap.size w W → Ct 24 #[.agg (Af x)] (.tuple #[.string n, .int .i64 0]) W)) (M2 : Hid (∀ W, Below w.heap.size w W → Ct 24 #[.agg (Af y)] (.tuple #[.string m, .int .i64 0]) W)) :
  Ct 67 #[.agg (Af x), .agg (Af y), .func (Fn.func 24) #[] #[]] (.tuple #[.string n, .string m, .int .i64 0]) w := by
 go_enter Tryz.func67, Tryz.ntmps67
 go_upto_region 1 with fail
 obtain ⟨W1, hW1⟩ : ∃ W1, w.alloc (.cells (Af x) 24) = W1 := ⟨_, rfl⟩
 rw [hW1]
 obtain ⟨W2, hW2⟩ : ∃ W2, W1.alloc (.cells (Af y) 24) = W2 := ⟨_, rfl⟩
 have HS := Lh (T2.new hW1 hW2)
 obtain ⟨a0, a1, a2, a3, a4, d0, d1, d2, d3, d4⟩ := HS.out.cs
 rw [hW2]
 clear hW1 hW2
 go_wp2_with (first | (refine ldX (k := 15) HS.out.k rfl (by kernel_rfl) rfl rfl ?_))
 with_reducible refine Bm (M1.out _ HS.out.b) fun w2 b2 => ?_
 have HS := Lh (HS.out.step b2)
 clear b2
 go_wp2_with (first | (refine ldX (k := 26) HS.out.k2 rfl (by kernel_rfl) rfl rfl ?_))
 with_reducible refine Bm (M2.out _ HS.out.b) fun w2 b2 => ?_
 have HS := Lh (HS.out.step b2)
 clear b2
 go_wp2
 go_ret3
 exact ⟨rfl, HS.out.b⟩
theorem Kc (x y : Val) (w : World) (n : ByteArray) (M1 : Hid (∀ W, Below w.heap.size w W → Ct 24 #[.agg (Af x)] (.tuple #[.string n, .int .i64 1]) W)) :
  Ct 67 #[.agg (Af x), .agg (Af y), .func (Fn.func 24) #[] #[]] (.tuple #[.string ⟨#[]⟩, .string ⟨#[]⟩, .int .i64 1]) w := by
 go_enter Tryz.func67, Tryz.ntmps67
 go_upto_region 1 with fail
 obtain ⟨W1, hW1⟩ : ∃ W1, w.alloc (.cells (Af x) 24) = W1 := ⟨_, rfl⟩
 rw [hW1]
 obtain ⟨W2, hW2⟩ : ∃ W2, W1.alloc (.cells (Af y) 24) = W2 := ⟨_, rfl⟩
 have HS := Lh (T2.new hW1 hW2)
 obtain ⟨a0, a1, a2, a3, a4, d0, d1, d2, d3, d4⟩ := HS.out.cs
 rw [hW2]
 clear hW1 hW2
 go_wp2_with (first | (refine ldX (k := 15) HS.out.k rfl (by kernel_rfl) rfl rfl ?_))
 with_reducible refine Bm (M1.out _ HS.out.b) fun w2 b2 => ?_
 have HS := Lh (HS.out.step b2)
 clear b2
 go_wp2
 go_ret3
 exact ⟨rfl, HS.out.b⟩
theorem Jw (x y : Val) (w : World) (n m : ByteArray) (M1 : Hid (∀ W, Below w.heap.size w W → Ct 24 #[.agg (Af x)] (.tuple #[.string n, .int .i64 0]) W)) (M2 : Hid (∀ W, Below w.heap.size w W → Ct 24 #[.agg (Af y)] (.tuple #[.string m, .int .i64 1]) W)) :
  Ct 67 #[.agg (Af x), .agg (Af y), .func (Fn.func 24) #[] #[]] (.tuple #[.string ⟨#[]⟩, .string ⟨#[]⟩, .int .i64 1]) w := by
 go_enter Tryz.func67, Tryz.ntmps67
 go_upto_region 1 with fail
 obtain ⟨W1, hW1⟩ : ∃ W1, w.alloc (.cells (Af x) 24) = W1 := ⟨_, rfl⟩
 rw [hW1]
 obtain ⟨W2, hW2⟩ : ∃ W2, W1.alloc (.cells (Af y) 24) = W2 := ⟨_, rfl⟩
 have HS := Lh (T2.new hW1 hW2)
 obtain ⟨a0, a1, a2, a3, a4, d0, d1, d2, d3, d4⟩ := HS.out.cs
 rw [hW2]
 clear hW1 hW2
 go_wp2_with (first | (refine ldX (k := 15) HS.out.k rfl (by kernel_rfl) rfl rfl ?_))
 with_reducible refine Bm (M1.out _ HS.out.b) fun w2 b2 => ?_
 have HS := Lh (HS.out.step b2)
 clear b2
 go_wp2_with (first | (refine ldX (k := 26) HS.out.k2 rfl (by kernel_rfl) rfl rfl ?_))
 with_reducible refine Bm (M2.out _ HS.out.b) fun w2 b2 => ?_
 have HS := Lh (HS.out.step b2)
 clear b2
 go_wp2
 go_ret3
 exact ⟨rfl, HS.out.b⟩
theorem H5 {v : Val} (h : An v = true) : Xs v = 0 := by unfold Xs; rw [h]; rfl
theorem Ob {v : Val} (h : An v = false) : Xs v = 1 := by unfold Xs; rw [h]; rfl
theorem Eh {x y : Val} (mx : Bc x = true) (my : Bc y = true) (sx : x.vs.size ≤ 140737488355328) (sy : y.vs.size ≤ 140737488355328) (w : World) :
  Ct 57 #[.agg (Af x), .agg (Af y), .func (Fn.func 22) #[] #[]] (.tuple (if (An x && An y) = true then #[.float .f64 (Bs x), .float .f64 (Bs y), .int .i64 0] else #[.float .f64 0, .float .f64 0, .int .i64 1])) w := by
 cases g1 : An x
 ·exact Jf x y w _ (Lh fun W _ => by have := C0 mx sx W; rw [Ob g1] at this; exact this)
 ·cases g2 : An y
  ·exact Jh x y w _ _ (Lh fun W _ => by have := C0 mx sx W; rw [H5 g1] at this; exact this) (Lh fun W _ => by have := C0 my sy W; rw [Ob g2] at this; exact this)
  ·exact Jj x y w _ _ (Lh fun W _ => by have := C0 mx sx W; rw [H5 g1] at this; exact this) (Lh fun W _ => by have := C0 my sy W; rw [H5 g2] at this; exact this)
theorem Gh {x y : Val} (mx : Bc x = true) (my : Bc y = true) (nx : x.vn < 18446744073709551616) (ny : y.vn < 18446744073709551616) (w : World) (ht : Tab10 w) (hz : Cg w) :
  Ct 67 #[.agg (Af x), .agg (Af y), .func (Fn.func 24) #[] #[]] (.tuple (if (An x && An y) = true then #[.string (Dg x), .string (Dg y), .int .i64 0] else #[.string ⟨#[]⟩, .string ⟨#[]⟩, .int .i64 1])) w := by
 cases g1 : An x
 ·exact Kc x y w _ (Lh fun W hW => by have := Cx mx nx W (ht.on hW) (Ek hz hW); rw [Ob g1] at this; exact this)
 ·cases g2 : An y
  ·exact Jw x y w _ _ (Lh fun W hW => by have := Cx mx nx W (ht.on hW) (Ek hz hW); rw [H5 g1] at this; exact this) (Lh fun W hW => by have := Cx my ny W (ht.on hW) (Ek hz hW); rw [Ob g2] at this; exact this)
  ·exact Kw x y w _ _ (Lh fun W hW => by have := Cx mx nx W (ht.on hW) (Ek hz hW); rw [H5 g1] at this; exact this) (Lh fun W hW => by have := Cx my ny W (ht.on hW) (Ek hz hW); rw [H5 g2] at this; exact this)
theorem Qx (x y : Val) (w : World) (hK : (x.vk == y.vk) = true) : Ct 31 #[.agg (Af x), .agg (Af y)] (.tuple #[.bool (By x y), .int .i64 0]) w := by
 have C1 := Lh (fun W => Ix x y W)
 go_enter Tryz.func31, Tryz.ntmps31
 go_upto_region 1 with fail
 obtain ⟨W1, hW1⟩ : ∃ W1, w.alloc (.cells (Af x) 24) = W1 := ⟨_, rfl⟩
 rw [hW1]
 obtain ⟨W2, hW2⟩ : ∃ W2, W1.alloc (.cells (Af y) 24) = W2 := ⟨_, rfl⟩
 have HS := Lh (T2.new hW1 hW2)
 obtain ⟨a0, a1, a2, a3, a4, d0, d1, d2, d3, d4⟩ := HS.out.cs
 rw [hW2]
 clear hW1 hW2
 go_wp2_with (first | (refine ldX (k := 14) HS.out.k rfl (by kernel_rfl) rfl rfl ?_) | (refine ldX (k := 15) HS.out.k2 rfl (by kernel_rfl) rfl rfl ?_))
 with_reducible refine Bm (C1.out _) fun w2 b2 => ?_
 have HS := Lh (HS.out.step b2)
 clear b2
 go_wp2
 go_ret2
 exact ⟨rfl, HS.out.b⟩
theorem Yy (x y : Val) (w : World) (hK : (x.vk == y.vk) = false) (h1 : Cy x = true) (h2 : Cy y = true) : Ct 31 #[.agg (Af x), .agg (Af y)] (.tuple #[.bool true, .int .i64 0]) w := by
 have C1 := fun W => Br x W
 have C2 := fun W => Br y W
 rw [h1] at C1
 rw [h2] at C2
 clear h1 h2
 have C1 := Lh C1
 have C2 := Lh C2
 go_enter Tryz.func31, Tryz.ntmps31
 go_upto_region 1 with fail
 obtain ⟨W1, hW1⟩ : ∃ W1, w.alloc (.cells (Af x) 24) = W1 := ⟨_, rfl⟩
 rw [hW1]
 obtain ⟨W2, hW2⟩ : ∃ W2, W1.alloc (.cells (Af y) 24) = W2 := ⟨_, rfl⟩
 have HS := Lh (T2.new hW1 hW2)
 obtain ⟨a0, a1, a2, a3, a4, d0, d1, d2, d3, d4⟩ := HS.out.cs
 rw [hW2]
 clear hW1 hW2
 go_wp2_with (first | (refine ldX (k := 17) HS.out.k rfl (by kernel_rfl) rfl rfl ?_))
 with_reducible refine Bm (C1.out _) fun w2 b2 => ?_
 have HS := Lh (HS.out.step b2)
 clear b2
 go_wp2_with (first | (refine ldX (k := 23) HS.out.k rfl (by kernel_rfl) rfl rfl ?_))
 with_reducible refine Bm (C1.out _) fun w2 b2 => ?_
 have HS := Lh (HS.out.step b2)
 clear b2
 go_wp2_with (first | (refine ldX (k := 26) HS.out.k2 rfl (by kernel_rfl) rfl rfl ?_))
 with_reducible refine Bm (C2.out _) fun w2 b2 => ?_
 have HS := Lh (HS.out.step b2)
 clear b2
 go_wp2
 go_ret2
 exact ⟨rfl, HS.out.b⟩
theorem Yi (x y : Val) (w : World) (hK : (x.vk == y.vk) = false) (h1 : Cy x = true) (h2 : Cy y = false) : Ct 31 #[.agg (Af x), .agg (Af y)] (.tuple #[.bool false, .int .i64 0]) w := by
 have C1 := fun W => Br x W
 have C2 := fun W => Br y W
 rw [h1] at C1
 rw [h2] at C2
 clear h1 h2
 have C1 := Lh C1
 have C2 := Lh C2
 go_enter Tryz.func31, Tryz.ntmps31
 go_upto_region 1 with fail
 obtain ⟨W1, hW1⟩ : ∃ W1, w.alloc (.cells (Af x) 24) = W1 := ⟨_, rfl⟩
 rw [hW1]
 obtain ⟨W2, hW2⟩ : ∃ W2, W1.alloc (.cells (Af y) 24) = W2 := ⟨_, rfl⟩
 have HS := Lh (T2.new hW1 hW2)
 obtain ⟨a0, a1, a2, a3, a4, d0, d1, d2, d3, d4⟩ := HS.out.cs
 rw [hW2]
 clear hW1 hW2
 go_wp2_with (first | (refine ldX (k := 17) HS.out.k rfl (by kernel_rfl) rfl rfl ?_))
 with_reducible refine Bm (C1.out _) fun w2 b2 => ?_
 have HS := Lh (HS.out.step b2)
 clear b2
 go_wp2_with (first | (refine ldX (k := 23) HS.out.k rfl (by kernel_rfl) rfl rfl ?_))
 with_reducible refine Bm (C1.out _) fun w2 b2 => ?_
 have HS := Lh (HS.out.step b2)
 clear b2
 go_wp2_with (first | (refine ldX (k := 26) HS.out.k2 rfl (by kernel_rfl) rfl rfl ?_))
 with_reducible refine Bm (C2.out _) fun w2 b2 => ?_
 have HS := Lh (HS.out.step b2)
 clear b2
 go_wp2
 go_ret2
 exact ⟨rfl, HS.out.b⟩
theorem Zf (x y : Val) (w : World) (hK : (x.vk == y.vk) = false) (h1 : Cy x = false) (h2 : Cy y = true) : Ct 31 #[.agg (Af x), .agg (Af y)] (.tuple #[.bool false, .int .i64 0]) w := by
 have C1 := fun W => Br x W
 have C2 := fun W => Br y W
 rw [h1] at C1
 rw [h2] at C2
 clear h1 h2
 have C1 := Lh C1
 have C2 := Lh C2
 go_enter Tryz.func31, Tryz.ntmps31
 go_upto_region 1 with fail
 obtain ⟨W1, hW1⟩ : ∃ W1, w.alloc (.cells (Af x) 24) = W1 := ⟨_, rfl⟩
 rw [hW1]
 obtain ⟨W2, hW2⟩ : ∃ W2, W1.alloc (.cells (Af y) 24) = W2 := ⟨_, rfl⟩
 have HS := Lh (T2.new hW1 hW2)
 obtain ⟨a0, a1, a2, a3, a4, d0, d1, d2, d3, d4⟩ := HS.out.cs
 rw [hW2]
 clear hW1 hW2
 go_wp2_with (first | (refine ldX (k := 17) HS.out.k rfl (by kernel_rfl) rfl rfl ?_))
 with_reducible refine Bm (C1.out _) fun w2 b2 => ?_
 have HS := Lh (HS.out.step b2)
 clear b2
 go_wp2_with (first | (refine ldX (k := 20) HS.out.k2 rfl (by kernel_rfl) rfl rfl ?_))
 with_reducible refine Bm (C2.out _) fun w2 b2 => ?_
 have HS := Lh (HS.out.step b2)
 clear b2
 go_wp2_with (first | (refine ldX (k := 23) HS.out.k rfl (by kernel_rfl) rfl rfl ?_))
 with_reducible refine Bm (C1.out _) fun w2 b2 => ?_
 have HS := Lh (HS.out.step b2)
 clear b2
 go_wp2
 go_ret2
 exact ⟨rfl, HS.out.b⟩
theorem Yf (x y : Val) (w : World) (mx : Bc x = true) (my : Bc y = true) (sx : x.vs.size ≤ 140737488355328) (sy : y.vs.size ≤ 140737488355328) (hK : (x.vk == y.vk) = false) (h1 : Cy x = false) (h2 : Cy y = false) (hO : (An x && An y) = true) : Ct 31 #[.agg (Af x), .agg (Af y)] (.tuple #[.bool (oeq (Bs x) (Bs y)), .int .i64 0]) w := by
 have C1 := fun W => Br x W
 have C2 := fun W => Br y W
 rw [h1] at C1
 rw [h2] at C2
 clear h1 h2
 have C1 := Lh C1
 have C2 := Lh C2
 have M := fun W => Eh mx my sx sy W
 rw [hO] at M
 clear mx my sx sy hO
 simp only [if_true] at M
 obtain ⟨n, hn⟩ : ∃ n, Bs x = n := ⟨_, rfl⟩
 obtain ⟨m, hm⟩ : ∃ n, Bs y = n := ⟨_, rfl⟩
 rw [hn] at M ⊢
 rw [hm] at M ⊢
 clear hn hm
 have C3 := Lh (fun W => Lk n m W)
 obtain ⟨B, hB⟩ : ∃ B, oeq n m = B := ⟨_, rfl⟩
 rw [hB] at C3 ⊢
 clear hB
 have M := Lh M
 go_enter Tryz.func31, Tryz.ntmps31
 go_upto_region 1 with fail
 obtain ⟨W1, hW1⟩ : ∃ W1, w.alloc (.cells (Af x) 24) = W1 := ⟨_, rfl⟩
 rw [hW1]
 obtain ⟨W2, hW2⟩ : ∃ W2, W1.alloc (.cells (Af y) 24) = W2 := ⟨_, rfl⟩
 have HS := Lh (T2.new hW1 hW2)
 obtain ⟨a0, a1, a2, a3, a4, d0, d1, d2, d3, d4⟩ := HS.out.cs
 rw [hW2]
 clear hW1 hW2
 go_wp2_with (first | (refine ldX (k := 17) HS.out.k rfl (by kernel_rfl) rfl rfl ?_))
 with_reducible refine Bm (C1.out _) fun w2 b2 => ?_
 have HS := Lh (HS.out.step b2)
 clear b2
 go_wp2_with (first | (refine ldX (k := 20) HS.out.k2 rfl (by kernel_rfl) rfl rfl ?_))
 with_reducible refine Bm (C2.out _) fun w2 b2 => ?_
 have HS := Lh (HS.out.step b2)
 clear b2
 go_wp2_with (first | (refine ldX (k := 30) HS.out.k rfl (by kernel_rfl) rfl rfl ?_) | (refine ldX (k := 31) HS.out.k2 rfl (by kernel_rfl) rfl rfl ?_))
 with_reducible refine Bm (M.out _) fun w2 b2 => ?_
 have HS := Lh (HS.out.step b2)
 clear b2
 go_wp2_with fail
 refine Sm (C3.out _) ?_
 go_wp2
 go_ret2
 exact ⟨rfl, HS.out.b⟩
theorem X9 (x y : Val) (w : World) (mx : Bc x = true) (my : Bc y = true) (sx : x.vs.size ≤ 140737488355328) (sy : y.vs.size ≤ 140737488355328) (hK : (x.vk == y.vk) = false) (h1 : Cy x = false) (h2 : Cy y = false) (hO : (An x && An y) = false) : Ct 31 #[.agg (Af x), .agg (Af y)] (.tuple #[.bool false, .int .i64 1]) w := by
 have C1 := fun W => Br x W
 have C2 := fun W => Br y W
 rw [h1] at C1
 rw [h2] at C2
 clear h1 h2
 have C1 := Lh C1
 have C2 := Lh C2
 have M := fun W => Eh mx my sx sy W
 rw [hO] at M
 clear mx my sx sy hO
 simp only [Bool.false_eq_true, if_false] at M
 have M := Lh M
 go_enter Tryz.func31, Tryz.ntmps31
 go_upto_region 1 with fail
 obtain ⟨W1, hW1⟩ : ∃ W1, w.alloc (.cells (Af x) 24) = W1 := ⟨_, rfl⟩
 rw [hW1]
 obtain ⟨W2, hW2⟩ : ∃ W2, W1.alloc (.cells (Af y) 24) = W2 := ⟨_, rfl⟩
 have HS := Lh (T2.new hW1 hW2)
 obtain ⟨a0, a1, a2, a3, a4, d0, d1, d2, d3, d4⟩ := HS.out.cs
 rw [hW2]
 clear hW1 hW2
 go_wp2_with (first | (refine ldX (k := 17) HS.out.k rfl (by kernel_rfl) rfl rfl ?_))
 with_reducible refine Bm (C1.out _) fun w2 b2 => ?_
 have HS := Lh (HS.out.step b2)
 clear b2
 go_wp2_with (first | (refine ldX (k := 20) HS.out.k2 rfl (by kernel_rfl) rfl rfl ?_))
 with_reducible refine Bm (C2.out _) fun w2 b2 => ?_
 have HS := Lh (HS.out.step b2)
 clear b2
 go_wp2_with (first | (refine ldX (k := 30) HS.out.k rfl (by kernel_rfl) rfl rfl ?_) | (refine ldX (k := 31) HS.out.k2 rfl (by kernel_rfl) rfl rfl ?_))
 with_reducible refine Bm (M.out _) fun w2 b2 => ?_
 have HS := Lh (HS.out.step b2)
 clear b2
 go_wp2
 go_ret2
 exact ⟨rfl, HS.out.b⟩
theorem K7 {x y : Val} (mx : Bc x = true) (my : Bc y = true) (sx : x.vs.size ≤ 140737488355328) (sy : y.vs.size ≤ 140737488355328) (w : World) : Ct 31 #[Ay x, Ay y] (.tuple #[.bool (E8 x y).1, .int .i64 (E8 x y).2]) w := by
 unfold E8
 by_cases hk : x.vk = y.vk
 ·rw [if_pos hk]
  exact Qx x y w (by simpa using hk)
 ·have hK : (x.vk == y.vk) = false := by simpa using hk
  rw [if_neg hk]
  cases h1 : Cy x
  ·cases h2 : Cy y
   ·rw [if_neg (by simp)]
    cases hO : (An x && An y)
    ·rw [if_neg (by simp)]
     exact X9 x y w mx my sx sy hK h1 h2 hO
    ·rw [if_pos rfl]
     exact Yf x y w mx my sx sy hK h1 h2 hO
   ·rw [if_pos (by simp)]
    exact Zf x y w hK h1 h2
  ·cases h2 : Cy y
   ·rw [if_pos (by simp)]
    exact Yi x y w hK h1 h2
   ·rw [if_pos (by simp)]
    exact Yy x y w hK h1 h2
theorem Y5 (x y : Val) (w : World) (sx : x.vs.size ≤ 140737488355328) (sy : y.vs.size ≤ 140737488355328) (hK : (x.vk == 4) = true) (hJ : (y.vk == 4) = true) (hC : Fo (us x.vs) (us y.vs) < 0) : Ct 33 #[.agg (Af x), .agg (Af y)] (.tuple #[.int .i64 1, .int .i64 0]) w := by
 have C1 := fun W => I9 x.vs y.vs W (Nat.le_trans sx (by unfold maxLen; omega)) (Nat.le_trans sy (by unfold maxLen; omega))
 obtain ⟨c, hc⟩ : ∃ c, Fo (us x.vs) (us y.vs) = c := ⟨_, rfl⟩
 rw [hc] at C1 hC
 clear hc sx sy
 have C1 := Lh C1
 go_enter Tryz.func33, Tryz.ntmps33
 go_upto_region 1 with fail
 obtain ⟨W1, hW1⟩ : ∃ W1, w.alloc (.cells (Af x) 24) = W1 := ⟨_, rfl⟩
 rw [hW1]
 obtain ⟨W2, hW2⟩ : ∃ W2, W1.alloc (.cells (Af y) 24) = W2 := ⟨_, rfl⟩
 have HS := Lh (T2.new hW1 hW2)
 obtain ⟨a0, a1, a2, a3, a4, d0, d1, d2, d3, d4⟩ := HS.out.cs
 rw [hW2]
 clear hW1 hW2
 go_wp2_with fail
 refine Sm (C1.out _) ?_
 go_wp2
 go_ret2
 exact ⟨rfl, HS.out.b⟩
theorem Y6 (x y : Val) (w : World) (sx : x.vs.size ≤ 140737488355328) (sy : y.vs.size ≤ 140737488355328) (hK : (x.vk == 4) = true) (hJ : (y.vk == 4) = true) (hC : ¬ Fo (us x.vs) (us y.vs) < 0) : Ct 33 #[.agg (Af x), .agg (Af y)] (.tuple #[.int .i64 0, .int .i64 0]) w := by
 have C1 := fun W => I9 x.vs y.vs W (Nat.le_trans sx (by unfold maxLen; omega)) (Nat.le_trans sy (by unfold maxLen; omega))
 obtain ⟨c, hc⟩ : ∃ c, Fo (us x.vs) (us y.vs) = c := ⟨_, rfl⟩
 rw [hc] at C1 hC
 clear hc sx sy
 have C1 := Lh C1
 go_enter Tryz.func33, Tryz.ntmps33
 go_upto_region 1 with fail
 obtain ⟨W1, hW1⟩ : ∃ W1, w.alloc (.cells (Af x) 24) = W1 := ⟨_, rfl⟩
 rw [hW1]
 obtain ⟨W2, hW2⟩ : ∃ W2, W1.alloc (.cells (Af y) 24) = W2 := ⟨_, rfl⟩
 have HS := Lh (T2.new hW1 hW2)
 obtain ⟨a0, a1, a2, a3, a4, d0, d1, d2, d3, d4⟩ := HS.out.cs
 rw [hW2]
 clear hW1 hW2
 go_wp2_with fail
 refine Sm (C1.out _) ?_
 go_wp2
 go_ret2
 exact ⟨rfl, HS.out.b⟩
theorem Vb (x y : Val) (w : World) (mx : Bc x = true) (my : Bc y = true) (sx : x.vs.size ≤ 140737488355328) (sy : y.vs.size ≤ 140737488355328) (hK : (x.vk == 4) = false) (hO : (An x && An y) = true) : Ct 33 #[.agg (Af x), .agg (Af y)] (.tuple #[.int .i64 (I7 (Bs x) (Bs y)), .int .i64 0]) w := by
 have M := fun W => Eh mx my sx sy W
 rw [hO] at M
 clear mx my sx sy hO
 simp only [if_true] at M
 obtain ⟨n, hn⟩ : ∃ n, Bs x = n := ⟨_, rfl⟩
 obtain ⟨m, hm⟩ : ∃ n, Bs y = n := ⟨_, rfl⟩
 rw [hn] at M ⊢
 rw [hm] at M ⊢
 clear hn hm
 have C3 := Lh (fun W => Mn n m W)
 obtain ⟨B, hB⟩ : ∃ B, I7 n m = B := ⟨_, rfl⟩
 rw [hB] at C3 ⊢
 clear hB
 have M := Lh M
 go_enter Tryz.func33, Tryz.ntmps33
 go_upto_region 1 with fail
 obtain ⟨W1, hW1⟩ : ∃ W1, w.alloc (.cells (Af x) 24) = W1 := ⟨_, rfl⟩
 rw [hW1]
 obtain ⟨W2, hW2⟩ : ∃ W2, W1.alloc (.cells (Af y) 24) = W2 := ⟨_, rfl⟩
 have HS := Lh (T2.new hW1 hW2)
 obtain ⟨a0, a1, a2, a3, a4, d0, d1, d2, d3, d4⟩ := HS.out.cs
 rw [hW2]
 clear hW1 hW2
 go_wp2_with (first | (refine ldX (k := 24) HS.out.k rfl (by kernel_rfl) rfl rfl ?_) | (refine ldX (k := 25) HS.out.k2 rfl (by kernel_rfl) rfl rfl ?_))
 with_reducible refine Bm (M.out _) fun w2 b2 => ?_
 have HS := Lh (HS.out.step b2)
 clear b2
 go_wp2_with fail
 refine Sm (C3.out _) ?_
 go_wp2
 go_ret2
 exact ⟨rfl, HS.out.b⟩
theorem Y7 (x y : Val) (w : World) (mx : Bc x = true) (my : Bc y = true) (sx : x.vs.size ≤ 140737488355328) (sy : y.vs.size ≤ 140737488355328) (hK : (x.vk == 4) = false) (hO : (An x && An y) = false) : Ct 33 #[.agg (Af x), .agg (Af y)] (.tuple #[.int .i64 0, .int .i64 1]) w := by
 have M := fun W => Eh mx my sx sy W
 rw [hO] at M
 clear mx my sx sy hO
 simp only [Bool.false_eq_true, if_false] at M
 have M := Lh M
 go_enter Tryz.func33, Tryz.ntmps33
 go_upto_region 1 with fail
 obtain ⟨W1, hW1⟩ : ∃ W1, w.alloc (.cells (Af x) 24) = W1 := ⟨_, rfl⟩
 rw [hW1]
 obtain ⟨W2, hW2⟩ : ∃ W2, W1.alloc (.cells (Af y) 24) = W2 := ⟨_, rfl⟩
 have HS := Lh (T2.new hW1 hW2)
 obtain ⟨a0, a1, a2, a3, a4, d0, d1, d2, d3, d4⟩ := HS.out.cs
 rw [hW2]
 clear hW1 hW2
 go_wp2_with (first | (refine ldX (k := 24) HS.out.k rfl (by kernel_rfl) rfl rfl ?_) | (refine ldX (k := 25) HS.out.k2 rfl (by kernel_rfl) rfl rfl ?_))
 with_reducible refine Bm (M.out _) fun w2 b2 => ?_
 have HS := Lh (HS.out.step b2)
 clear b2
 go_wp2
 go_ret2
 exact ⟨rfl, HS.out.b⟩
theorem U8 (x y : Val) (w : World) (mx : Bc x = true) (my : Bc y = true) (sx : x.vs.size ≤ 140737488355328) (sy : y.vs.size ≤ 140737488355328) (hK : (x.vk == 4) = true) (hJ : (y.vk == 4) = false) (hO : (An x && An y) = true) : Ct 33 #[.agg (Af x), .agg (Af y)] (.tuple #[.int .i64 (I7 (Bs x) (Bs y)), .int .i64 0]) w := by
 have M := fun W => Eh mx my sx sy W
 rw [hO] at M
 clear mx my sx sy hO
 simp only [if_true] at M
 obtain ⟨n, hn⟩ : ∃ n, Bs x = n := ⟨_, rfl⟩
 obtain ⟨m, hm⟩ : ∃ n, Bs y = n := ⟨_, rfl⟩
 rw [hn] at M ⊢
 rw [hm] at M ⊢
 clear hn hm
 have C3 := Lh (fun W => Mn n m W)
 obtain ⟨B, hB⟩ : ∃ B, I7 n m = B := ⟨_, rfl⟩
 rw [hB] at C3 ⊢
 clear hB
 have M := Lh M
 go_enter Tryz.func33, Tryz.ntmps33
 go_upto_region 1 with fail
 obtain ⟨W1, hW1⟩ : ∃ W1, w.alloc (.cells (Af x) 24) = W1 := ⟨_, rfl⟩
 rw [hW1]
 obtain ⟨W2, hW2⟩ : ∃ W2, W1.alloc (.cells (Af y) 24) = W2 := ⟨_, rfl⟩
 have HS := Lh (T2.new hW1 hW2)
 obtain ⟨a0, a1, a2, a3, a4, d0, d1, d2, d3, d4⟩ := HS.out.cs
 rw [hW2]
 clear hW1 hW2
 go_wp2_with (first | (refine ldX (k := 24) HS.out.k rfl (by kernel_rfl) rfl rfl ?_) | (refine ldX (k := 25) HS.out.k2 rfl (by kernel_rfl) rfl rfl ?_))
 with_reducible refine Bm (M.out _) fun w2 b2 => ?_
 have HS := Lh (HS.out.step b2)
 clear b2
 go_wp2_with fail
 refine Sm (C3.out _) ?_
 go_wp2
 go_ret2
 exact ⟨rfl, HS.out.b⟩
theorem Xr (x y : Val) (w : World) (mx : Bc x = true) (my : Bc y = true) (sx : x.vs.size ≤ 140737488355328) (sy : y.vs.size ≤ 140737488355328) (hK : (x.vk == 4) = true) (hJ : (y.vk == 4) = false) (hO : (An x && An y) = false) : Ct 33 #[.agg (Af x), .agg (Af y)] (.tuple #[.int .i64 0, .int .i64 1]) w := by
 have M := fun W => Eh mx my sx sy W
 rw [hO] at M
 clear mx my sx sy hO
 simp only [Bool.false_eq_true, if_false] at M
 have M := Lh M
 go_enter Tryz.func33, Tryz.ntmps33
 go_upto_region 1 with fail
 obtain ⟨W1, hW1⟩ : ∃ W1, w.alloc (.cells (Af x) 24) = W1 := ⟨_, rfl⟩
 rw [hW1]
 obtain ⟨W2, hW2⟩ : ∃ W2, W1.alloc (.cells (Af y) 24) = W2 := ⟨_, rfl⟩
 have HS := Lh (T2.new hW1 hW2)
 obtain ⟨a0, a1, a2, a3, a4, d0, d1, d2, d3, d4⟩ := HS.out.cs
 rw [hW2]
 clear hW1 hW2
 go_wp2_with (first | (refine ldX (k := 24) HS.out.k rfl (by kernel_rfl) rfl rfl ?_) | (refine ldX (k := 25) HS.out.k2 rfl (by kernel_rfl) rfl rfl ?_))
 with_reducible refine Bm (M.out _) fun w2 b2 => ?_
 have HS := Lh (HS.out.step b2)
 clear b2
 go_wp2
 go_ret2
 exact ⟨rfl, HS.out.b⟩
theorem Wh {v : Val} (h : v.vk = 4) : An v = true := by unfold An; rw [h]; decide
theorem Ni {x y : Val} (mx : Bc x = true) (my : Bc y = true) (sx : x.vs.size ≤ 140737488355328) (sy : y.vs.size ≤ 140737488355328) (w : World) : Ct 33 #[Ay x, Ay y] (.tuple #[.int .i64 (Gr x y).1, .int .i64 (Gr x y).2]) w := by
 unfold Gr
 by_cases hx : x.vk = 4
 ·have hK : (x.vk == 4) = true := by simpa using hx
  by_cases hy : y.vk = 4
  ·have hJ : (y.vk == 4) = true := by simpa using hy
   rw [Wh hx, Wh hy, if_pos (by rfl)]
   dsimp only
   rw [if_pos ⟨hx, hy⟩]
   by_cases hC : Fo (us x.vs) (us y.vs) < 0
   ·rw [if_pos hC]
    exact Y5 x y w sx sy hK hJ hC
   ·rw [if_neg hC]
    exact Y6 x y w sx sy hK hJ hC
  ·have hJ : (y.vk == 4) = false := by simpa using hy
   cases hO : (An x && An y)
   ·rw [if_neg (by simp)]
    exact Xr x y w mx my sx sy hK hJ hO
   ·rw [if_pos rfl]
    dsimp only
    rw [if_neg (fun k => hy k.2)]
    exact U8 x y w mx my sx sy hK hJ hO
 ·have hK : (x.vk == 4) = false := by simpa using hx
  cases hO : (An x && An y)
  ·rw [if_neg (by simp)]
   exact Y7 x y w mx my sx sy hK hO
  ·rw [if_pos rfl]
   dsimp only
   rw [if_neg (fun k => hx k.1)]
   exact Vb x y w mx my sx sy hK hO
theorem Abj (x y : Val) (w : World) (mx : Bc x = true) (my : Bc y = true) (sx : x.vs.size ≤ 140737488355328) (sy : y.vs.size ≤ 140737488355328) (hK : (x.vk == 4) = false) (hJ : (y.vk == 4) = false) (hO : (An x && An y) = true) : Ct 39 #[.agg (Af x), .agg (Af y)] (.tuple #[Ay (Gm (Ae7 (Bs x) (Bs y))), .int .i64 0]) w := by
 have M := fun W => Eh mx my sx sy W
 rw [hO] at M
 clear mx my sx sy hO
 simp only [if_true] at M
 obtain ⟨n, hn⟩ : ∃ n, Bs x = n := ⟨_, rfl⟩
 obtain ⟨m, hm⟩ : ∃ n, Bs y = n := ⟨_, rfl⟩
 rw [hn] at M ⊢
 rw [hm] at M ⊢
 clear hn hm
 have M := Lh M
 have CN := Lh (fun r W => Fr r W)
 go_enter Tryz.func39, Tryz.ntmps39
 go_upto_region 1 with fail
 rw [Bv]
 obtain ⟨W1, hW1⟩ : ∃ W1, w.alloc (.cells (Af x) 24) = W1 := ⟨_, rfl⟩
 rw [hW1]
 obtain ⟨W2, hW2⟩ : ∃ W2, W1.alloc (.cells (Af y) 24) = W2 := ⟨_, rfl⟩
 rw [hW2]
 obtain ⟨W3, hW3⟩ : ∃ W3, W2.alloc (.cells (Af vZ) 24) = W3 := ⟨_, rfl⟩
 have HS := Lh (T3.new hW1 hW2 hW3)
 obtain ⟨a0, a1, a2, a3, a4, d0, d1, d2, d3, d4⟩ := HS.out.cs
 rw [hW3]
 clear hW1 hW2 hW3
 go_wp2_with (first | (refine ldX (k := 36) HS.out.k rfl (by kernel_rfl) rfl rfl ?_) | (refine ldX (k := 37) HS.out.k2 rfl (by kernel_rfl) rfl rfl ?_))
 with_reducible refine Bm (M.out _) fun w2 b2 => ?_
 have HS := Lh (HS.out.step b2)
 clear b2
 obtain ⟨r, d, h1, h2⟩ := Ab8 n m w2
 have H2 := Lh h2
 clear h2
 go_wp2_with fail
 with_reducible refine Bm (CN.out _ _) fun w3 b3 => ?_
 have HT := Lh ((HS.out.drewN d).step b3)
 clear HS b3 a0 a1 a2 a3 a4 d0 d1 d2 d3 d4 h1
 have HR := Lh (HT.out.row (Af (Gm (cn r))))
 go_wp2_with (refine vlS rfl rfl (w.heap.size + 2) 3 false (cn r) ⟨#[]⟩ 0 rfl rfl HT.out.kr ?_)
 refine Xd rfl rfl HR.out.1 rfl rfl ⟨by rw [← H2.out]; rfl, HR.out.2⟩
theorem Abh (x y : Val) (w : World) (mx : Bc x = true) (my : Bc y = true) (sx : x.vs.size ≤ 140737488355328) (sy : y.vs.size ≤ 140737488355328) (hK : (x.vk == 4) = false) (hJ : (y.vk == 4) = false) (hO : (An x && An y) = false) : Ct 39 #[.agg (Af x), .agg (Af y)] (.tuple #[Ay vZ, .int .i64 1]) w := by
 have M := fun W => Eh mx my sx sy W
 rw [hO] at M
 clear mx my sx sy hO
 simp only [Bool.false_eq_true, if_false] at M
 have M := Lh M
 go_enter Tryz.func39, Tryz.ntmps39
 go_upto_region 1 with fail
 rw [Bv]
 obtain ⟨W1, hW1⟩ : ∃ W1, w.alloc (.cells (Af x) 24) = W1 := ⟨_, rfl⟩
 rw [hW1]
 obtain ⟨W2, hW2⟩ : ∃ W2, W1.alloc (.cells (Af y) 24) = W2 := ⟨_, rfl⟩
 rw [hW2]
 obtain ⟨W3, hW3⟩ : ∃ W3, W2.alloc (.cells (Af vZ) 24) = W3 := ⟨_, rfl⟩
 have HS := Lh (T3.new hW1 hW2 hW3)
 obtain ⟨a0, a1, a2, a3, a4, d0, d1, d2, d3, d4⟩ := HS.out.cs
 rw [hW3]
 clear hW1 hW2 hW3
 go_wp2_with (first | (refine ldX (k := 36) HS.out.k rfl (by kernel_rfl) rfl rfl ?_) | (refine ldX (k := 37) HS.out.k2 rfl (by kernel_rfl) rfl rfl ?_))
 with_reducible refine Bm (M.out _) fun w2 b2 => ?_
 have HS := Lh (HS.out.step b2)
 clear b2
 have HR := Lh (HS.out.row (Af vZ))
 go_wp2_with (refine vlS rfl rfl (w.heap.size + 2) 0 false 0 ⟨#[]⟩ 0 rfl rfl HS.out.kr ?_)
 refine Xd rfl rfl HR.out.1 rfl rfl ⟨rfl, HR.out.2⟩
theorem Zj (x y : Val) (w : World) (mx : Bc x = true) (my : Bc y = true) (sx : x.vs.size ≤ 140737488355328) (sy : y.vs.size ≤ 140737488355328) (nx : x.vn < 18446744073709551616) (ny : y.vn < 18446744073709551616) (ht : Tab10 w) (hz : Cg w) (hK : (x.vk == 4) = false) (hJ : (y.vk == 4) = true) (hO : (An x && An y) = true) : Ct 39 #[.agg (Af x), .agg (Af y)] (.tuple #[Ay (Fm (wh (Dg x ++ Dg y))), .int .i64 0]) w := by
 have M := fun W (hW : Below w.heap.size w W) => Gh mx my nx ny W (ht.on hW) (Ek hz hW)
 rw [hO] at M
 have z1 := E2 mx sx
 have z2 := E2 my sy
 clear mx my sx sy nx ny ht hz hO
 simp only [if_true] at M
 obtain ⟨s, hs⟩ : ∃ s, Dg x = s := ⟨_, rfl⟩
 obtain ⟨t, ht⟩ : ∃ s, Dg y = s := ⟨_, rfl⟩
 rw [hs] at M z1 ⊢
 rw [ht] at M z2 ⊢
 clear hs ht
 have CS := Lh (fun W => E5 (s ++ t) W (by rw [ByteArray.size_append]; unfold maxLen; omega))
 have z3 : ¬ 9223372036854775807 < s.size + t.size := by omega
 clear z1 z2
 have M := Lh M
 go_enter Tryz.func39, Tryz.ntmps39
 go_upto_region 1 with fail
 rw [Bv]
 obtain ⟨W1, hW1⟩ : ∃ W1, w.alloc (.cells (Af x) 24) = W1 := ⟨_, rfl⟩
 rw [hW1]
 obtain ⟨W2, hW2⟩ : ∃ W2, W1.alloc (.cells (Af y) 24) = W2 := ⟨_, rfl⟩
 rw [hW2]
 obtain ⟨W3, hW3⟩ : ∃ W3, W2.alloc (.cells (Af vZ) 24) = W3 := ⟨_, rfl⟩
 have HS := Lh (T3.new hW1 hW2 hW3)
 obtain ⟨a0, a1, a2, a3, a4, d0, d1, d2, d3, d4⟩ := HS.out.cs
 rw [hW3]
 clear hW1 hW2 hW3
 go_wp2_with (first | (refine ldX (k := 21) HS.out.k rfl (by kernel_rfl) rfl rfl ?_) | (refine ldX (k := 22) HS.out.k2 rfl (by kernel_rfl) rfl rfl ?_))
 with_reducible refine Bm (M.out _ HS.out.b) fun w2 b2 => ?_
 have HS := Lh (HS.out.step b2)
 clear b2
 go_wp2_with fail
 with_reducible refine Bm (CS.out _) fun w3 b3 => ?_
 have HT := Lh (HS.out.step b3)
 clear HS b3 a0 a1 a2 a3 a4 d0 d1 d2 d3 d4
 have HR := Lh (HT.out.row (Af (Fm (wh (s ++ t)))))
 go_wp2_with (refine vlS rfl rfl (w.heap.size + 2) 4 false 0 (wh (s ++ t)) 0 rfl rfl HT.out.kr ?_)
 refine Xd rfl rfl HR.out.1 rfl rfl ⟨rfl, HR.out.2⟩
theorem Wz (x y : Val) (w : World) (mx : Bc x = true) (my : Bc y = true) (_ : x.vs.size ≤ 140737488355328) (_ : y.vs.size ≤ 140737488355328) (nx : x.vn < 18446744073709551616) (ny : y.vn < 18446744073709551616) (ht : Tab10 w) (hz : Cg w) (hK : (x.vk == 4) = false) (hJ : (y.vk == 4) = true) (hO : (An x && An y) = false) : Ct 39 #[.agg (Af x), .agg (Af y)] (.tuple #[Ay vZ, .int .i64 1]) w := by
 have M := fun W (hW : Below w.heap.size w W) => Gh mx my nx ny W (ht.on hW) (Ek hz hW)
 rw [hO] at M
 clear mx my nx ny ht hz hO
 simp only [Bool.false_eq_true, if_false] at M
 have M := Lh M
 go_enter Tryz.func39, Tryz.ntmps39
 go_upto_region 1 with fail
 rw [Bv]
 obtain ⟨W1, hW1⟩ : ∃ W1, w.alloc (.cells (Af x) 24) = W1 := ⟨_, rfl⟩
 rw [hW1]
 obtain ⟨W2, hW2⟩ : ∃ W2, W1.alloc (.cells (Af y) 24) = W2 := ⟨_, rfl⟩
 rw [hW2]
 obtain ⟨W3, hW3⟩ : ∃ W3, W2.alloc (.cells (Af vZ) 24) = W3 := ⟨_, rfl⟩
 have HS := Lh (T3.new hW1 hW2 hW3)
 obtain ⟨a0, a1, a2, a3, a4, d0, d1, d2, d3, d4⟩ := HS.out.cs
 rw [hW3]
 clear hW1 hW2 hW3
 go_wp2_with (first | (refine ldX (k := 21) HS.out.k rfl (by kernel_rfl) rfl rfl ?_) | (refine ldX (k := 22) HS.out.k2 rfl (by kernel_rfl) rfl rfl ?_))
 with_reducible refine Bm (M.out _ HS.out.b) fun w2 b2 => ?_
 have HS := Lh (HS.out.step b2)
 clear b2
 have HR := Lh (HS.out.row (Af vZ))
 go_wp2_with (refine vlS rfl rfl (w.heap.size + 2) 0 false 0 ⟨#[]⟩ 0 rfl rfl HS.out.kr ?_)
 refine Xd rfl rfl HR.out.1 rfl rfl ⟨rfl, HR.out.2⟩
theorem Zl (x y : Val) (w : World) (mx : Bc x = true) (my : Bc y = true) (sx : x.vs.size ≤ 140737488355328) (sy : y.vs.size ≤ 140737488355328) (nx : x.vn < 18446744073709551616) (ny : y.vn < 18446744073709551616) (ht : Tab10 w) (hz : Cg w) (hK : (x.vk == 4) = true) (hO : (An x && An y) = true) : Ct 39 #[.agg (Af x), .agg (Af y)] (.tuple #[Ay (Fm (wh (Dg x ++ Dg y))), .int .i64 0]) w := by
 have M := fun W (hW : Below w.heap.size w W) => Gh mx my nx ny W (ht.on hW) (Ek hz hW)
 rw [hO] at M
 have z1 := E2 mx sx
 have z2 := E2 my sy
 clear mx my sx sy nx ny ht hz hO
 simp only [if_true] at M
 obtain ⟨s, hs⟩ : ∃ s, Dg x = s := ⟨_, rfl⟩
 obtain ⟨t, ht⟩ : ∃ s, Dg y = s := ⟨_, rfl⟩
 rw [hs] at M z1 ⊢
 rw [ht] at M z2 ⊢
 clear hs ht
 have CS := Lh (fun W => E5 (s ++ t) W (by rw [ByteArray.size_append]; unfold maxLen; omega))
 have z3 : ¬ 9223372036854775807 < s.size + t.size := by omega
 clear z1 z2
 have M := Lh M
 go_enter Tryz.func39, Tryz.ntmps39
 go_upto_region 1 with fail
 rw [Bv]
 obtain ⟨W1, hW1⟩ : ∃ W1, w.alloc (.cells (Af x) 24) = W1 := ⟨_, rfl⟩
 rw [hW1]
 obtain ⟨W2, hW2⟩ : ∃ W2, W1.alloc (.cells (Af y) 24) = W2 := ⟨_, rfl⟩
 rw [hW2]
 obtain ⟨W3, hW3⟩ : ∃ W3, W2.alloc (.cells (Af vZ) 24) = W3 := ⟨_, rfl⟩
 have HS := Lh (T3.new hW1 hW2 hW3)
 obtain ⟨a0, a1, a2, a3, a4, d0, d1, d2, d3, d4⟩ := HS.out.cs
 rw [hW3]
 clear hW1 hW2 hW3
 go_wp2_with (first | (refine ldX (k := 21) HS.out.k rfl (by kernel_rfl) rfl rfl ?_) | (refine ldX (k := 22) HS.out.k2 rfl (by kernel_rfl) rfl rfl ?_))
 with_reducible refine Bm (M.out _ HS.out.b) fun w2 b2 => ?_
 have HS := Lh (HS.out.step b2)
 clear b2
 go_wp2_with fail
 with_reducible refine Bm (CS.out _) fun w3 b3 => ?_
 have HT := Lh (HS.out.step b3)
 clear HS b3 a0 a1 a2 a3 a4 d0 d1 d2 d3 d4
 have HR := Lh (HT.out.row (Af (Fm (wh (s ++ t)))))
 go_wp2_with (refine vlS rfl rfl (w.heap.size + 2) 4 false 0 (wh (s ++ t)) 0 rfl rfl HT.out.kr ?_)
 refine Xd rfl rfl HR.out.1 rfl rfl ⟨rfl, HR.out.2⟩
theorem Y2 (x y : Val) (w : World) (mx : Bc x = true) (my : Bc y = true) (_ : x.vs.size ≤ 140737488355328) (_ : y.vs.size ≤ 140737488355328) (nx : x.vn < 18446744073709551616) (ny : y.vn < 18446744073709551616) (ht : Tab10 w) (hz : Cg w) (hK : (x.vk == 4) = true) (hO : (An x && An y) = false) : Ct 39 #[.agg (Af x), .agg (Af y)] (.tuple #[Ay vZ, .int .i64 1]) w := by
 have M := fun W (hW : Below w.heap.size w W) => Gh mx my nx ny W (ht.on hW) (Ek hz hW)
 rw [hO] at M
 clear mx my nx ny ht hz hO
 simp only [Bool.false_eq_true, if_false] at M
 have M := Lh M
 go_enter Tryz.func39, Tryz.ntmps39
 go_upto_region 1 with fail
 rw [Bv]
 obtain ⟨W1, hW1⟩ : ∃ W1, w.alloc (.cells (Af x) 24) = W1 := ⟨_, rfl⟩
 rw [hW1]
 obtain ⟨W2, hW2⟩ : ∃ W2, W1.alloc (.cells (Af y) 24) = W2 := ⟨_, rfl⟩
 rw [hW2]
 obtain ⟨W3, hW3⟩ : ∃ W3, W2.alloc (.cells (Af vZ) 24) = W3 := ⟨_, rfl⟩
 have HS := Lh (T3.new hW1 hW2 hW3)
 obtain ⟨a0, a1, a2, a3, a4, d0, d1, d2, d3, d4⟩ := HS.out.cs
 rw [hW3]
 clear hW1 hW2 hW3
 go_wp2_with (first | (refine ldX (k := 21) HS.out.k rfl (by kernel_rfl) rfl rfl ?_) | (refine ldX (k := 22) HS.out.k2 rfl (by kernel_rfl) rfl rfl ?_))
 with_reducible refine Bm (M.out _ HS.out.b) fun w2 b2 => ?_
 have HS := Lh (HS.out.step b2)
 clear b2
 have HR := Lh (HS.out.row (Af vZ))
 go_wp2_with (refine vlS rfl rfl (w.heap.size + 2) 0 false 0 ⟨#[]⟩ 0 rfl rfl HS.out.kr ?_)
 refine Xd rfl rfl HR.out.1 rfl rfl ⟨rfl, HR.out.2⟩
theorem Acu {x y : Val} (mx : Bc x = true) (my : Bc y = true) (sx : x.vs.size ≤ 140737488355328) (sy : y.vs.size ≤ 140737488355328) (nx : x.vn < 18446744073709551616) (ny : y.vn < 18446744073709551616) (w : World) (ht : Tab10 w) (hz : Cg w) : Cp 39 #[Ay x, Ay y] w fun e w' => e = Agw x y ∧ Below w.heap.size w w' := by
 unfold Agw
 cases hK : (x.vk == 4)
 ·cases hJ : (y.vk == 4)
  ·cases hO : (An x && An y)
   ·rw [if_neg (by simp)]
    exact Abh x y w mx my sx sy hK hJ hO
   ·rw [if_pos rfl, if_neg (by simp)]
    exact Abj x y w mx my sx sy hK hJ hO
  ·cases hO : (An x && An y)
   ·rw [if_neg (by simp)]
    exact Wz x y w mx my sx sy nx ny ht hz hK hJ hO
   ·rw [if_pos rfl, if_pos (by simp)]
    exact Zj x y w mx my sx sy nx ny ht hz hK hJ hO
 ·cases hO : (An x && An y)
  ·rw [if_neg (by simp)]
   exact Y2 x y w mx my sx sy nx ny ht hz hK hO
  ·rw [if_pos rfl, if_pos (by simp)]
   exact Zl x y w mx my sx sy nx ny ht hz hK hO
end
section
theorem Ahe (a : Act) (v : Value) : a.put none v = a := rfl
theorem Gk (v : Val) : Vk v v = true := by
 unfold Vk
 rw [Gy]
 simp
theorem Yc : Agw (Fm (wdS [97])) Si = .returned (.tuple #[Ay (Fm (wdS [97, 110, 117, 108, 108])), .int .i64 0]) := by
 have h1 : wh (wdS [97] ++ wNul) = wdS [97, 110, 117, 108, 108] := by decide +kernel
 show (Ending.returned (.tuple #[Ay (Fm (wh (wdS [97] ++ wNul))), .int .i64 0])) = _
 rw [h1]
structure Blk4 (w W : World) (X : Nat) (B : ByteArray) : Prop where
 k : W.heap[X]? = some (.cells #[.int .i64 4, .bool false, .float .f64 0, .string B, .int .i64 0] 24 (0, 0))
 l : X < W.heap.size
 b : Below w.heap.size w W
theorem Blk4.step {w W W' : World} {X : Nat} {B : ByteArray} (h : Blk4 w W X B) (hb : Below W.heap.size W W') : Blk4 w W' X B := ⟨(hb.block X h.l).trans h.k, Nat.lt_of_lt_of_le h.l hb.size, Aa h.b hb⟩
theorem Blk4.drew {w W : World} {X : Nat} {B : ByteArray} (h : Blk4 w W X B) : Blk4 w W.drew X B := ⟨h.k, h.l, Ae h.b 1⟩
theorem Blk4.cs {w W : World} {X : Nat} {B : ByteArray} (h : Blk4 w W X B) : W.cell? ⟨X, 0, none⟩ = some (.int .i64 4) ∧ W.cell? ⟨X, 3, none⟩ = some (.string B) :=
 ⟨(cell_of_row W X 0 _ _ _ h.k).trans rfl, (cell_of_row W X 3 _ _ _ h.k).trans rfl⟩
theorem Eb (w : World) (ht : Tab10 w) (hz : Cg w) : Ct 11 #[] (.bool true) w := by
 have C1 := Lh (fun W => (show Cp 43 #[.string ⟨#[97]⟩] W fun e w' => e = .returned (.string (wdS [97])) ∧ Below W.heap.size W w' from Wj [97] W rfl (by decide)))
 have C3 := Lh (fun W => (show Cp 43 #[.string ⟨#[97, 110, 117, 108, 108]⟩] W fun e w' => e = .returned (.string (wdS [97, 110, 117, 108, 108])) ∧ Below W.heap.size W w' from Wj [97, 110, 117, 108, 108] W rfl (by decide)))
 have C2 : ∀ W, Below w.heap.size w W → Ct 39 #[Ay (Fm (wdS [97])), Ay Si] (.tuple #[Ay (Fm (wdS [97, 110, 117, 108, 108])), .int .i64 0]) W := fun W hW => by
  have := Acu (x := Fm (wdS [97])) (y := Si) (by decide +kernel) (by decide +kernel) (by decide +kernel) (by decide +kernel) (by decide) (by decide) W (ht.on hW) (Ek hz hW)
  rw [Yc] at this
  exact this
 have C2 := Lh C2
 obtain ⟨A, hA⟩ : ∃ A, wdS [97] = A := ⟨_, rfl⟩
 obtain ⟨B, hB⟩ : ∃ A, wdS [97, 110, 117, 108, 108] = A := ⟨_, rfl⟩
 rw [hA] at C1 C2
 rw [hB] at C2 C3
 clear hA hB ht hz
 simp only [Ay, Fm, Si] at C2
 go_enter Tryz.func11, Tryz.ntmps11
 go_wp2_with fail
 refine Bm (C1.out _) fun w2 b2 => ?_
 have B2 := Lh b2
 clear b2
 go_wp2_with fail
 with_reducible refine Bm (C2.out _ B2.out) fun w3 b3 => ?_
 have B3 := Lh (Aa B2.out b3)
 clear b3
 go_upto_region 2 with (refine vlS rfl rfl w3.heap.size 4 false 0 B 0 rfl rfl (heap_alloc_last w3 _) ?_; rw [World.setRow_alloc_new])
 have HX := Lh (show Blk4 w (w3.alloc (.cells #[.int .i64 4, .bool false, .float .f64 0, .string B, .int .i64 0] 24)) w3.heap.size B from ⟨heap_alloc_last w3 _, by simp, Ec _ B3.out⟩)
 generalize w3.alloc (.cells #[.int .i64 4, .bool false, .float .f64 0, .string B, .int .i64 0] 24) = w4 at *
 generalize w3.heap.size = X at *
 (try simp only [Ahe])
 refine wp_region_held_drew (S := fun wx => Blk4 w wx X B) (by kernel_rfl) (HX.out.drew) (fun hHeld => ?_)
 refine Tg 0 rfl rfl ?_; simp only [Ad]
 refine Tg 1 rfl rfl ?_; simp only [Ad]
 refine Tg 2 rfl rfl ?_; simp only [Ad]
 refine Tg 3 rfl rfl ?_; simp only [Ad]
 refine Tk 4 rfl rfl (Or.inl ⟨by rfl, by (intro w hS; have c := hS.cs.1; go_simp; try with_reducible rfl)⟩) ?_; simp only [Ad]
 refine Tg 5 rfl rfl ?_; simp only [Ad]
 refine Tg 6 rfl rfl ?_; simp only [Ad]
 refine Tg 7 rfl rfl ?_; simp only [Ad]
 refine Tg 8 rfl rfl ?_; simp only [Ad]
 refine Tk 9 rfl rfl (Or.inl ⟨by rfl, by (intro w hS; have c := hS.cs.2; go_simp; try with_reducible rfl)⟩) ?_; simp only [Ad]
 refine Cd (i := 10) (by kernel_rfl) rfl rfl (by rfl) (fun K hK => ?_)
 go_simp
 with_reducible refine Bm (C3.out _) fun w5 b5 => ?_
 have hHe2 := hHeld.step b5
 clear hHeld b5
 refine hK.out _ _ hHe2 ?_; clear hK K; simp only [Ad]
 have hHeld := hHe2; clear hHe2
 refine Tg 11 rfl rfl ?_; simp only [Ad]
 refine Tg 12 rfl rfl ?_; simp only [Ad]
 refine Tg 13 rfl rfl ?_; simp only [Ad]
 refine wpAnyH_done (by kernel_rfl) ?_ _
 have HS := Lh hHeld
 go_wp2
 go_ret
 exact ⟨rfl, HS.out.b⟩
theorem Nk (x : Val) (w : World) (ht : Tab10 w) (hz : Cg w) (sx : x.vs.size ≤ maxLen) : Ct 3 #[Ay x] (.bool true) w := by
 have C1 := fun W => S8 x W sx
 have C2 := fun W => St x W
 have CW : ∀ W, Below w.heap.size w W → Ct 11 #[] (.bool true) W := fun W hW => Eb W (ht.on hW) (Ek hz hW)
 have CW := Lh CW
 obtain ⟨c, hc⟩ : ∃ c : Int, (if Bc x = true then 0 else 1) = c := ⟨_, rfl⟩
 rw [hc] at C1 C2
 clear hc ht hz sx
 have e_x := show Ay x = .agg (Af x) from rfl
 rw [e_x] at C1 C2 ⊢
 clear e_x
 have C1 := Lh C1
 have C2 := Lh C2
 go_enter Tryz.func3, Tryz.ntmps3
 go_upto_region 1 with fail
 obtain ⟨W1, hW1⟩ : ∃ W1, w.alloc (.cells (Af x) 24) = W1 := ⟨_, rfl⟩
 have HS := Lh (T1.new hW1)
 obtain ⟨c0, c1, c2, c3, c4⟩ := HS.out.cs
 rw [hW1]
 clear hW1
 refine wp_region_held_drew (S := fun wx => T1 w wx x) (by kernel_rfl) (HS.out.drew) (fun hHeld => ?_)
 clear HS c0 c1 c2 c3 c4
 refine Tk 0 rfl rfl (Or.inl ⟨by rfl, fun w hS => Cl hS.k rfl rfl⟩) ?_; simp only [Ad]
 refine Tk 2 rfl rfl (Or.inl ⟨by rfl, fun w hS => Cl hS.k rfl rfl⟩) ?_; simp only [Ad]
 refine Cd (i := 1) (by kernel_rfl) rfl rfl (by rfl) (fun K hK => ?_)
 go_simp
 with_reducible refine Bm (C1.out _) fun w2 b2 => ?_
 have hHe2 := hHeld.step b2
 clear hHeld b2
 refine hK.out _ _ hHe2 ?_; clear hK K; simp only [Ad]
 have hHeld := hHe2; clear hHe2
 refine Cd (i := 3) (by kernel_rfl) rfl rfl (by rfl) (fun K hK => ?_)
 go_simp
 with_reducible refine Bm (C2.out _) fun w2 b2 => ?_
 have hHe2 := hHeld.step b2
 clear hHeld b2
 refine hK.out _ _ hHe2 ?_; clear hK K; simp only [Ad]
 have hHeld := hHe2; clear hHe2
 refine Tg 4 rfl rfl ?_; simp only [Ad]
 refine Tg 5 rfl rfl ?_; simp only [Ad]
 refine Cd (i := 6) (by kernel_rfl) rfl rfl (by rfl) (fun K hK => ?_)
 go_simp
 with_reducible refine Bm (CW.out _ hHeld.b) fun w2 b2 => ?_
 have hHe2 := hHeld.step b2
 clear hHeld b2
 refine hK.out _ _ hHe2 ?_; clear hK K; simp only [Ad]
 have hHeld := hHe2; clear hHe2
 refine Tg 7 rfl rfl ?_; simp only [Ad]
 refine Tg 8 rfl rfl ?_; simp only [Ad]
 refine wpAnyH_done (by kernel_rfl) ?_ _
 have HS := Lh hHeld
 clear hHeld
 go_wp2
 go_ret
 exact ⟨rfl, HS.out.b⟩
end
section
theorem Rz (b : Bool) (x : Nat) (s : ByteArray) (w : World) (ht : Tab10 w) (hz : Cg w) (hs : s.size ≤ maxLen) : Ct 4 #[.bool b, .float .f64 x, .string s] (.bool true) w := by
 have CW : ∀ W, Below w.heap.size w W → Ct 11 #[] (.bool true) W := fun W hW => Eb W (ht.on hW) (Ek hz hW)
 have CW := Lh CW
 have EVB := fun W => (Mr b W)
 have FVB := fun W => (Xl b W)
 obtain ⟨VB, hVB⟩ : ∃ v, Tc b = v := ⟨_, rfl⟩
 rw [hVB] at EVB FVB
 have BVB := fun W => Gd VB VB W
 rw [Gk] at BVB
 clear hVB
 have EVB := Lh EVB
 have FVB := Lh FVB
 have BVB := Lh BVB
 have EVF := fun W => (Fr x W)
 have FVF := fun W => (Iy x W)
 obtain ⟨VF, hVF⟩ : ∃ v, Gm (cn x) = v := ⟨_, rfl⟩
 rw [hVF] at EVF FVF
 have BVF := fun W => Gd VF VF W
 rw [Gk] at BVF
 clear hVF
 have EVF := Lh EVF
 have FVF := Lh FVF
 have BVF := Lh BVF
 have EVS := fun W => (E5 s W hs)
 have FVS := fun W => (Sf s W hs)
 obtain ⟨VS, hVS⟩ : ∃ v, Fm (wh s) = v := ⟨_, rfl⟩
 rw [hVS] at EVS FVS
 have BVS := fun W => Gd VS VS W
 rw [Gk] at BVS
 clear hVS
 have EVS := Lh EVS
 have FVS := Lh FVS
 have BVS := Lh BVS
 have EVO := fun W => (Iw ((s.size : Int) - 2) W)
 have FVO := fun W => (Qe ((s.size : Int) - 2) W)
 obtain ⟨VO, hVO⟩ : ∃ v, T4 (max ((s.size : Int) - 2) 0) = v := ⟨_, rfl⟩
 rw [hVO] at EVO FVO
 have BVO := fun W => Gd VO VO W
 rw [Gk] at BVO
 clear hVO
 have EVO := Lh EVO
 have FVO := Lh FVO
 have BVO := Lh BVO
 have k1 : (s.size : Int) ≤ 9223372036854775807 := by unfold maxLen at hs; omega
 have HB := Lh (Below.refl w.heap.size w)
 clear hs ht hz
 go_enter Tryz.func4, Tryz.ntmps4
 go_wp2_with fail
 with_reducible refine Bm (EVB.out _) fun w2 b2 => ?_
 have HT := HB; clear HB
 have HB := Lh (Aa HT.out b2)
 clear HT b2
 go_wp2_with fail
 with_reducible refine Bm (FVB.out _) fun w2 b2 => ?_
 have HT := HB; clear HB
 have HB := Lh (Aa HT.out b2)
 clear HT b2
 go_wp2_with fail
 with_reducible refine Bm (BVB.out _) fun w2 b2 => ?_
 have HT := HB; clear HB
 have HB := Lh (Aa HT.out b2)
 clear HT b2
 go_wp2_with fail
 with_reducible refine Bm (EVF.out _) fun w2 b2 => ?_
 have HT := HB; clear HB
 have HB := Lh (Aa HT.out b2)
 clear HT b2
 go_wp2_with fail
 with_reducible refine Bm (FVF.out _) fun w2 b2 => ?_
 have HT := HB; clear HB
 have HB := Lh (Aa HT.out b2)
 clear HT b2
 go_wp2_with fail
 with_reducible refine Bm (BVF.out _) fun w2 b2 => ?_
 have HT := HB; clear HB
 have HB := Lh (Aa HT.out b2)
 clear HT b2
 go_wp2_with fail
 with_reducible refine Bm (EVS.out _) fun w2 b2 => ?_
 have HT := HB; clear HB
 have HB := Lh (Aa HT.out b2)
 clear HT b2
 go_wp2_with fail
 with_reducible refine Bm (FVS.out _) fun w2 b2 => ?_
 have HT := HB; clear HB
 have HB := Lh (Aa HT.out b2)
 clear HT b2
 go_wp2_with fail
 with_reducible refine Bm (BVS.out _) fun w2 b2 => ?_
 have HT := HB; clear HB
 have HB := Lh (Aa HT.out b2)
 clear HT b2
 go_wp2_with fail
 with_reducible refine Bm (EVO.out _) fun w2 b2 => ?_
 have HT := HB; clear HB
 have HB := Lh (Aa HT.out b2)
 clear HT b2
 go_wp2_with fail
 with_reducible refine Bm (FVO.out _) fun w2 b2 => ?_
 have HT := HB; clear HB
 have HB := Lh (Aa HT.out b2)
 clear HT b2
 go_wp2_with fail
 with_reducible refine Bm (BVO.out _) fun w2 b2 => ?_
 have HT := HB; clear HB
 have HB := Lh (Aa HT.out b2)
 clear HT b2
 go_wp2_with fail
 with_reducible refine Bm (CW.out _ HB.out) fun w2 b2 => ?_
 have HT := HB; clear HB
 have HB := Lh (Aa HT.out b2)
 clear HT b2
 go_wp2
 go_ret
 exact ⟨rfl, HB.out⟩
end
section
theorem Uw (x y : Val) (w : World) (ht : Tab10 w) (hz : Cg w) (hm : Bc x = false) : Ct 8 #[Ay x, Ay y] (.bool true) w := by
 have CW : ∀ W, Below w.heap.size w W → Ct 11 #[] (.bool true) W := fun W hW => Eb W (ht.on hW) (Ek hz hW)
 have CW := Lh CW
 have CM := fun W => Ez x W
 have CK := fun W => Ez y W
 rw [hm] at CM
 clear CK
 clear ht hz
 have e_x := show Ay x = .agg (Af x) from rfl
 have e_y := show Ay y = .agg (Af y) from rfl
 rw [e_x] at CM ⊢
 rw [e_y]
 clear e_x e_y
 have CM := Lh CM
 go_enter Tryz.func8, Tryz.ntmps8
 go_upto_region 1 with fail
 obtain ⟨W1, hW1⟩ : ∃ W1, w.alloc (.cells (Af x) 24) = W1 := ⟨_, rfl⟩
 rw [hW1]
 obtain ⟨W2, hW2⟩ : ∃ W2, W1.alloc (.cells (Af y) 24) = W2 := ⟨_, rfl⟩
 have HS := Lh (T2.new hW1 hW2)
 obtain ⟨a0, a1, a2, a3, a4, d0, d1, d2, d3, d4⟩ := HS.out.cs
 rw [hW2]
 clear hW1 hW2
 go_wp2_with (first | (refine ldX (k := 13) HS.out.k rfl (by kernel_rfl) rfl rfl ?_))
 with_reducible refine Bm (CM.out _) fun w2 b2 => ?_
 have HT := HS; clear HS
 have HS := Lh (HT.out.step b2)
 clear HT b2 a0 a1 a2 a3 a4 d0 d1 d2 d3 d4
 obtain ⟨a0, a1, a2, a3, a4, d0, d1, d2, d3, d4⟩ := HS.out.cs
 go_wp2_with fail
 with_reducible refine Bm (CW.out _ HS.out.b) fun w2 b2 => ?_
 have HT := HS; clear HS
 have HS := Lh (HT.out.step b2)
 clear HT b2 a0 a1 a2 a3 a4 d0 d1 d2 d3 d4
 obtain ⟨a0, a1, a2, a3, a4, d0, d1, d2, d3, d4⟩ := HS.out.cs
 go_wp2
 go_ret
 exact ⟨rfl, HS.out.b⟩
theorem Ue (x y : Val) (w : World) (ht : Tab10 w) (hz : Cg w) (hm : Bc x = true) (hk : Bc y = false) : Ct 8 #[Ay x, Ay y] (.bool true) w := by
 have CW : ∀ W, Below w.heap.size w W → Ct 11 #[] (.bool true) W := fun W hW => Eb W (ht.on hW) (Ek hz hW)
 have CW := Lh CW
 have CM := fun W => Ez x W
 have CK := fun W => Ez y W
 rw [hm] at CM
 rw [hk] at CK
 clear ht hz
 have e_x := show Ay x = .agg (Af x) from rfl
 have e_y := show Ay y = .agg (Af y) from rfl
 rw [e_x] at CM ⊢
 rw [e_y] at CK ⊢
 clear e_x e_y
 have CM := Lh CM
 have CK := Lh CK
 go_enter Tryz.func8, Tryz.ntmps8
 go_upto_region 1 with fail
 obtain ⟨W1, hW1⟩ : ∃ W1, w.alloc (.cells (Af x) 24) = W1 := ⟨_, rfl⟩
 rw [hW1]
 obtain ⟨W2, hW2⟩ : ∃ W2, W1.alloc (.cells (Af y) 24) = W2 := ⟨_, rfl⟩
 have HS := Lh (T2.new hW1 hW2)
 obtain ⟨a0, a1, a2, a3, a4, d0, d1, d2, d3, d4⟩ := HS.out.cs
 rw [hW2]
 clear hW1 hW2
 go_wp2_with (first | (refine ldX (k := 13) HS.out.k rfl (by kernel_rfl) rfl rfl ?_))
 with_reducible refine Bm (CM.out _) fun w2 b2 => ?_
 have HT := HS; clear HS
 have HS := Lh (HT.out.step b2)
 clear HT b2 a0 a1 a2 a3 a4 d0 d1 d2 d3 d4
 obtain ⟨a0, a1, a2, a3, a4, d0, d1, d2, d3, d4⟩ := HS.out.cs
 go_wp2_with (first | (refine ldX (k := 17) HS.out.k2 rfl (by kernel_rfl) rfl rfl ?_))
 with_reducible refine Bm (CK.out _) fun w2 b2 => ?_
 have HT := HS; clear HS
 have HS := Lh (HT.out.step b2)
 clear HT b2 a0 a1 a2 a3 a4 d0 d1 d2 d3 d4
 obtain ⟨a0, a1, a2, a3, a4, d0, d1, d2, d3, d4⟩ := HS.out.cs
 go_wp2_with fail
 with_reducible refine Bm (CW.out _ HS.out.b) fun w2 b2 => ?_
 have HT := HS; clear HS
 have HS := Lh (HT.out.step b2)
 clear HT b2 a0 a1 a2 a3 a4 d0 d1 d2 d3 d4
 obtain ⟨a0, a1, a2, a3, a4, d0, d1, d2, d3, d4⟩ := HS.out.cs
 go_wp2
 go_ret
 exact ⟨rfl, HS.out.b⟩
theorem U4 (x y : Val) (w : World) (ht : Tab10 w) (hz : Cg w) (nx : x.vn < 18446744073709551616) (ny : y.vn < 18446744073709551616) (sx : x.vs.size ≤ 140737488355328) (sy : y.vs.size ≤ 140737488355328) (hm : Bc x = true) (hk : Bc y = true) : Ct 8 #[Ay x, Ay y] (.bool true) w := by
 have CW : ∀ W, Below w.heap.size w W → Ct 11 #[] (.bool true) W := fun W hW => Eb W (ht.on hW) (Ek hz hW)
 have CW := Lh CW
 have CM := fun W => Ez x W
 have CK := fun W => Ez y W
 rw [hm] at CM
 rw [hk] at CK
 have L1 := fun W => K7 hm hk sx sy W
 have L2 := fun W => K7 hk hm sy sx W
 have Q1 := fun W => Ni hm hk sx sy W
 have Q2 := fun W => Ni hk hm sy sx W
 have S1 := fun W => F8 hm hk W
 have S2 := fun W => F8 hk hm W
 have S3 := fun W => F8 hm hm W
 have R1 := fun W => Ij hm hk nx ny W
 have R2 := fun W => Ij hk hm ny nx W
 have R3 := fun W => Ij hm hm nx nx W
 have CN := Lh (fun W => Bn x.vn W)
 rw [Sx y x] at L2
 rw [I6 y x] at S2
 rw [Ze y x] at R2
 rw [Yo x] at R3
 rw [Afl hm] at S3
 have HSL := Lh (fun h => Nu (x := x) (y := y) h)
 have HNM := Lh (Sr x y)
 obtain ⟨la, h_la⟩ : ∃ v, (E8 x y).1 = v := ⟨_, rfl⟩
 rw [h_la] at L1 L2 HSL
 clear h_la
 obtain ⟨le, h_le⟩ : ∃ v, (E8 x y).2 = v := ⟨_, rfl⟩
 rw [h_le] at L1 L2
 clear h_le
 obtain ⟨qn, h_qn⟩ : ∃ v, (Gr x y).1 = v := ⟨_, rfl⟩
 rw [h_qn] at Q1 HNM
 clear h_qn
 obtain ⟨qe, h_qe⟩ : ∃ v, (Gr x y).2 = v := ⟨_, rfl⟩
 rw [h_qe] at Q1
 clear h_qe
 obtain ⟨pn, h_pn⟩ : ∃ v, (Gr y x).1 = v := ⟨_, rfl⟩
 rw [h_pn] at Q2 HNM
 clear h_pn
 obtain ⟨pe, h_pe⟩ : ∃ v, (Gr y x).2 = v := ⟨_, rfl⟩
 rw [h_pe] at Q2
 clear h_pe
 obtain ⟨st, h_st⟩ : ∃ v, By x y = v := ⟨_, rfl⟩
 rw [h_st] at S1 S2 HSL
 clear h_st
 obtain ⟨sm, h_sm⟩ : ∃ v, Gu x y = v := ⟨_, rfl⟩
 rw [h_sm] at R1 R2
 clear h_sm
 obtain ⟨nn, h_nn⟩ : ∃ v, Bh x.vn = v := ⟨_, rfl⟩
 rw [h_nn] at CN S3
 clear h_nn
 obtain ⟨k3, h_k3⟩ : ∃ v, (x.vk == 3) = v := ⟨_, rfl⟩
 rw [h_k3] at S3
 obtain ⟨n1, h_n1⟩ : ∃ v, (qn == 1) = v := ⟨_, rfl⟩
 obtain ⟨m1, h_m1⟩ : ∃ v, (pn == 1) = v := ⟨_, rfl⟩
 have HNN := Lh (show ¬ (n1 = true ∧ m1 = true) from fun h => HNM.out ⟨by simpa [h.1] using h_n1, by simpa [h.2] using h_m1⟩)
 clear HNM
 obtain ⟨ss, h_ss⟩ : ∃ v, (!(k3 && nn)) = v := ⟨_, rfl⟩
 rw [h_ss] at S3
 have HSS := Lh h_ss
 clear h_ss
 clear ht hz nx ny sx sy hm hk
 have e_x := show Ay x = .agg (Af x) from rfl
 have e_y := show Ay y = .agg (Af y) from rfl
 rw [e_x] at CM ⊢
 rw [e_y] at CK ⊢
 rw [e_x] at L1
 rw [e_y] at L1
 rw [e_x] at L2
 rw [e_y] at L2
 rw [e_x] at Q1
 rw [e_y] at Q1
 rw [e_x] at Q2
 rw [e_y] at Q2
 rw [e_x] at S1
 rw [e_y] at S1
 rw [e_x] at S2
 rw [e_y] at S2
 rw [e_x] at S3
 rw [e_x] at R1
 rw [e_y] at R1
 rw [e_x] at R2
 rw [e_y] at R2
 rw [e_x] at R3
 clear e_x e_y
 have CM := Lh CM
 have CK := Lh CK
 have L1 := Lh L1
 have L2 := Lh L2
 have Q1 := Lh Q1
 have Q2 := Lh Q2
 have S1 := Lh S1
 have S2 := Lh S2
 have S3 := Lh S3
 have R1 := Lh R1
 have R2 := Lh R2
 have R3 := Lh R3
 go_enter Tryz.func8, Tryz.ntmps8
 go_upto_region 1 with fail
 obtain ⟨W1, hW1⟩ : ∃ W1, w.alloc (.cells (Af x) 24) = W1 := ⟨_, rfl⟩
 rw [hW1]
 obtain ⟨W2, hW2⟩ : ∃ W2, W1.alloc (.cells (Af y) 24) = W2 := ⟨_, rfl⟩
 have HS := Lh (T2.new hW1 hW2)
 obtain ⟨a0, a1, a2, a3, a4, d0, d1, d2, d3, d4⟩ := HS.out.cs
 rw [hW2]
 clear hW1 hW2
 go_wp2_with (first | (refine ldX (k := 13) HS.out.k rfl (by kernel_rfl) rfl rfl ?_))
 with_reducible refine Bm (CM.out _) fun w2 b2 => ?_
 have HT := HS; clear HS
 have HS := Lh (HT.out.step b2)
 clear HT b2 a0 a1 a2 a3 a4 d0 d1 d2 d3 d4
 obtain ⟨a0, a1, a2, a3, a4, d0, d1, d2, d3, d4⟩ := HS.out.cs
 go_wp2_with (first | (refine ldX (k := 17) HS.out.k2 rfl (by kernel_rfl) rfl rfl ?_))
 with_reducible refine Bm (CK.out _) fun w2 b2 => ?_
 have HT := HS; clear HS
 have HS := Lh (HT.out.step b2)
 clear HT b2 a0 a1 a2 a3 a4 d0 d1 d2 d3 d4
 obtain ⟨a0, a1, a2, a3, a4, d0, d1, d2, d3, d4⟩ := HS.out.cs
 go_wp2_with (first | (refine ldX (k := 23) HS.out.k rfl (by kernel_rfl) rfl rfl ?_) | (refine ldX (k := 24) HS.out.k2 rfl (by kernel_rfl) rfl rfl ?_))
 with_reducible refine Bm (L1.out _) fun w2 b2 => ?_
 have HT := HS; clear HS
 have HS := Lh (HT.out.step b2)
 clear HT b2 a0 a1 a2 a3 a4 d0 d1 d2 d3 d4
 obtain ⟨a0, a1, a2, a3, a4, d0, d1, d2, d3, d4⟩ := HS.out.cs
 go_wp2_with (first | (refine ldX (k := 29) HS.out.k2 rfl (by kernel_rfl) rfl rfl ?_) | (refine ldX (k := 30) HS.out.k rfl (by kernel_rfl) rfl rfl ?_))
 with_reducible refine Bm (L2.out _) fun w2 b2 => ?_
 have HT := HS; clear HS
 have HS := Lh (HT.out.step b2)
 clear HT b2 a0 a1 a2 a3 a4 d0 d1 d2 d3 d4
 obtain ⟨a0, a1, a2, a3, a4, d0, d1, d2, d3, d4⟩ := HS.out.cs
 go_wp2_with (first | (refine ldX (k := 35) HS.out.k rfl (by kernel_rfl) rfl rfl ?_) | (refine ldX (k := 36) HS.out.k2 rfl (by kernel_rfl) rfl rfl ?_))
 with_reducible refine Bm (Q1.out _) fun w2 b2 => ?_
 have HT := HS; clear HS
 have HS := Lh (HT.out.step b2)
 clear HT b2 a0 a1 a2 a3 a4 d0 d1 d2 d3 d4
 obtain ⟨a0, a1, a2, a3, a4, d0, d1, d2, d3, d4⟩ := HS.out.cs
 go_wp2_with (first | (refine ldX (k := 41) HS.out.k2 rfl (by kernel_rfl) rfl rfl ?_) | (refine ldX (k := 42) HS.out.k rfl (by kernel_rfl) rfl rfl ?_))
 with_reducible refine Bm (Q2.out _) fun w2 b2 => ?_
 have HT := HS; clear HS
 have HS := Lh (HT.out.step b2)
 clear HT b2 a0 a1 a2 a3 a4 d0 d1 d2 d3 d4
 obtain ⟨a0, a1, a2, a3, a4, d0, d1, d2, d3, d4⟩ := HS.out.cs
 go_upto_region 7 with fail
 refine wp_region_held_drew (S := fun wx => T2 w wx x y) (by kernel_rfl) (HS.out.drew) (fun hHeld => ?_)
 clear HS a0 a1 a2 a3 a4 d0 d1 d2 d3 d4
 refine Tg 0 rfl rfl ?_; simp only [Ad]
 refine Tg 1 rfl rfl ?_; simp only [Ad]
 refine Tg 2 rfl rfl ?_; simp only [Ad]
 refine Tg 3 rfl rfl ?_; simp only [Ad]
 refine Tg 4 rfl rfl ?_; simp only [Ad]
 refine Tg 5 rfl rfl ?_; simp only [Ad]
 refine Tg 6 rfl rfl ?_; simp only [Ad]
 refine Tg 7 rfl rfl ?_; simp only [Ad]
 refine Tg 8 rfl rfl ?_; simp only [Ad]
 refine Tk 9 rfl rfl (Or.inl ⟨by rfl, fun w hS => Cl hS.k rfl rfl⟩) ?_; simp only [Ad]
 refine Tk 10 rfl rfl (Or.inl ⟨by rfl, fun w hS => Cl hS.k2 rfl rfl⟩) ?_; simp only [Ad]
 refine Tk 12 rfl rfl (Or.inl ⟨by rfl, fun w hS => Cl hS.k2 rfl rfl⟩) ?_; simp only [Ad]
 refine Tk 13 rfl rfl (Or.inl ⟨by rfl, fun w hS => Cl hS.k rfl rfl⟩) ?_; simp only [Ad]
 refine Cd (i := 11) (by kernel_rfl) rfl rfl (by rfl) (fun K hK => ?_)
 go_simp
 with_reducible refine Bm (S1.out _) fun w2 b2 => ?_
 have hHe2 := hHeld.step b2
 clear hHeld b2
 refine hK.out _ _ hHe2 ?_; clear hK K; simp only [Ad]
 have hHeld := hHe2; clear hHe2
 refine Cd (i := 14) (by kernel_rfl) rfl rfl (by rfl) (fun K hK => ?_)
 go_simp
 with_reducible refine Bm (S2.out _) fun w2 b2 => ?_
 have hHe2 := hHeld.step b2
 clear hHeld b2
 refine hK.out _ _ hHe2 ?_; clear hK K; simp only [Ad]
 have hHeld := hHe2; clear hHe2
 refine Tg 15 rfl rfl ?_; simp only [Ad]
 refine Tg 16 rfl rfl ?_; simp only [Ad]
 refine Tg 17 rfl rfl ?_; simp only [Ad]
 refine Tk 18 rfl rfl (Or.inl ⟨by rfl, fun w hS => Cl hS.k rfl rfl⟩) ?_; simp only [Ad]
 refine Tk 19 rfl rfl (Or.inl ⟨by rfl, fun w hS => Cl hS.k2 rfl rfl⟩) ?_; simp only [Ad]
 refine Tk 21 rfl rfl (Or.inl ⟨by rfl, fun w hS => Cl hS.k2 rfl rfl⟩) ?_; simp only [Ad]
 refine Tk 22 rfl rfl (Or.inl ⟨by rfl, fun w hS => Cl hS.k rfl rfl⟩) ?_; simp only [Ad]
 refine Cd (i := 20) (by kernel_rfl) rfl rfl (by rfl) (fun K hK => ?_)
 go_simp
 with_reducible refine Bm (R1.out _) fun w2 b2 => ?_
 have hHe2 := hHeld.step b2
 clear hHeld b2
 refine hK.out _ _ hHe2 ?_; clear hK K; simp only [Ad]
 have hHeld := hHe2; clear hHe2
 refine Cd (i := 23) (by kernel_rfl) rfl rfl (by rfl) (fun K hK => ?_)
 go_simp
 with_reducible refine Bm (R2.out _) fun w2 b2 => ?_
 have hHe2 := hHeld.step b2
 clear hHeld b2
 refine hK.out _ _ hHe2 ?_; clear hK K; simp only [Ad]
 have hHeld := hHe2; clear hHe2
 refine Tg 24 rfl rfl ?_; simp only [Ad]
 refine Tg 25 rfl rfl ?_; simp only [Ad]
 refine Tg 26 rfl rfl ?_; simp only [Ad]
 refine Tk 27 rfl rfl (Or.inl ⟨by rfl, fun w hS => Cl hS.k rfl rfl⟩) ?_; simp only [Ad]
 refine Tk 28 rfl rfl (Or.inl ⟨by rfl, fun w hS => Cl hS.k rfl rfl⟩) ?_; simp only [Ad]
 refine Cd (i := 29) (by kernel_rfl) rfl rfl (by rfl) (fun K hK => ?_)
 go_simp
 with_reducible refine Bm (R3.out _) fun w2 b2 => ?_
 have hHe2 := hHeld.step b2
 clear hHeld b2
 refine hK.out _ _ hHe2 ?_; clear hK K; simp only [Ad]
 have hHeld := hHe2; clear hHe2
 refine Tg 30 rfl rfl ?_; simp only [Ad]
 refine Tg 31 rfl rfl ?_; simp only [Ad]
 refine wpAnyH_done (by kernel_rfl) ?_ _
 have HS := Lh hHeld
 clear hHeld
 go_upto_region 9 with fail
 obtain ⟨a0, a1, a2, a3, a4, d0, d1, d2, d3, d4⟩ := HS.out.cs
 refine wp_region_held_drew (S := fun wx => T2 w wx x y) (by kernel_rfl) (HS.out.drew) (fun hHeld => ?_)
 clear HS a0 a1 a2 a3 a4 d0 d1 d2 d3 d4
 refine Tk 0 rfl rfl (Or.inl ⟨by rfl, fun w hS => Cl hS.k rfl rfl⟩) ?_; simp only [Ad]
 refine Tk 1 rfl rfl (Or.inl ⟨by rfl, fun w hS => Cl hS.k rfl rfl⟩) ?_; simp only [Ad]
 refine Tg 3 rfl rfl ?_; simp only [Ad]
 refine Tk 4 rfl rfl (Or.inl ⟨by rfl, by (intro w hS; have c := hS.k.cell (k := 0) (u := .int .i64 x.vk) rfl; go_simp; try with_reducible rfl)⟩) ?_; simp only [Ad]
 cases k3
 ·skip
  refine Tg 5 rfl rfl ?_; simp only [Ad]
  cases ss
  ·skip
   refine Cd (i := 2) (by kernel_rfl) rfl rfl (by rfl) (fun K hK => ?_)
   go_simp
   with_reducible refine Bm (S3.out _) fun w2 b2 => ?_
   have hHe2 := hHeld.step b2
   clear hHeld b2
   refine hK.out _ _ hHe2 ?_; clear hK K; simp only [Ad]
   have hHeld := hHe2; clear hHe2
   refine Tg 6 rfl rfl ?_; simp only [Ad]
   refine Tn 7 rfl rfl ?_; simp only [Ad]
   refine Tn 8 rfl rfl ?_; simp only [Ad]
   refine Tn 9 rfl rfl ?_; simp only [Ad]
   refine Tg 10 rfl rfl ?_; simp only [Ad]
   refine Tg 11 rfl rfl ?_; simp only [Ad]
   refine wpAnyH_done (by kernel_rfl) ?_ _
   have HS := Lh hHeld
   clear hHeld
   exact absurd HSS.out (by simp)
  ·skip
   refine Cd (i := 2) (by kernel_rfl) rfl rfl (by rfl) (fun K hK => ?_)
   go_simp
   with_reducible refine Bm (S3.out _) fun w2 b2 => ?_
   have hHe2 := hHeld.step b2
   clear hHeld b2
   refine hK.out _ _ hHe2 ?_; clear hK K; simp only [Ad]
   have hHeld := hHe2; clear hHe2
   refine Tg 6 rfl rfl ?_; simp only [Ad]
   refine Tn 7 rfl rfl ?_; simp only [Ad]
   refine Tn 8 rfl rfl ?_; simp only [Ad]
   refine Tn 9 rfl rfl ?_; simp only [Ad]
   refine Tg 10 rfl rfl ?_; simp only [Ad]
   refine Tg 11 rfl rfl ?_; simp only [Ad]
   refine wpAnyH_done (by kernel_rfl) ?_ _
   have HS := Lh hHeld
   clear hHeld
   go_upto_region 11 with fail
   obtain ⟨a0, a1, a2, a3, a4, d0, d1, d2, d3, d4⟩ := HS.out.cs
   cases st
   ·skip
    go_wp2_with (first | (refine ldX (k := 90) HS.out.k rfl (by kernel_rfl) rfl rfl ?_) | (refine ldX (k := 91) HS.out.k2 rfl (by kernel_rfl) rfl rfl ?_))
    with_reducible refine Bm (S1.out _) fun w2 b2 => ?_
    have HT := HS; clear HS
    have HS := Lh (HT.out.step b2)
    clear HT b2 a0 a1 a2 a3 a4 d0 d1 d2 d3 d4
    obtain ⟨a0, a1, a2, a3, a4, d0, d1, d2, d3, d4⟩ := HS.out.cs
    cases n1
    ·skip
     go_wp2_with fail
     with_reducible refine Bm (CW.out _ HS.out.b) fun w2 b2 => ?_
     have HT := HS; clear HS
     have HS := Lh (HT.out.step b2)
     clear HT b2 a0 a1 a2 a3 a4 d0 d1 d2 d3 d4
     obtain ⟨a0, a1, a2, a3, a4, d0, d1, d2, d3, d4⟩ := HS.out.cs
     go_wp2
     go_ret
     exact ⟨rfl, HS.out.b⟩
    ·skip
     cases m1
     ·skip
      go_wp2_with fail
      with_reducible refine Bm (CW.out _ HS.out.b) fun w2 b2 => ?_
      have HT := HS; clear HS
      have HS := Lh (HT.out.step b2)
      clear HT b2 a0 a1 a2 a3 a4 d0 d1 d2 d3 d4
      obtain ⟨a0, a1, a2, a3, a4, d0, d1, d2, d3, d4⟩ := HS.out.cs
      go_wp2
      go_ret
      exact ⟨rfl, HS.out.b⟩
     ·skip
      exact absurd ⟨rfl, rfl⟩ HNN.out
   ·skip
    go_wp2_with (first | (refine ldX (k := 90) HS.out.k rfl (by kernel_rfl) rfl rfl ?_) | (refine ldX (k := 91) HS.out.k2 rfl (by kernel_rfl) rfl rfl ?_))
    with_reducible refine Bm (S1.out _) fun w2 b2 => ?_
    have HT := HS; clear HS
    have HS := Lh (HT.out.step b2)
    clear HT b2 a0 a1 a2 a3 a4 d0 d1 d2 d3 d4
    obtain ⟨a0, a1, a2, a3, a4, d0, d1, d2, d3, d4⟩ := HS.out.cs
    cases la
    ·skip
     exact absurd (HSL.out (by simp)) (by simp)
    ·skip
     cases n1
     ·skip
      go_wp2_with fail
      with_reducible refine Bm (CW.out _ HS.out.b) fun w2 b2 => ?_
      have HT := HS; clear HS
      have HS := Lh (HT.out.step b2)
      clear HT b2 a0 a1 a2 a3 a4 d0 d1 d2 d3 d4
      obtain ⟨a0, a1, a2, a3, a4, d0, d1, d2, d3, d4⟩ := HS.out.cs
      go_wp2
      go_ret
      exact ⟨rfl, HS.out.b⟩
     ·skip
      cases m1
      ·skip
       go_wp2_with fail
       with_reducible refine Bm (CW.out _ HS.out.b) fun w2 b2 => ?_
       have HT := HS; clear HS
       have HS := Lh (HT.out.step b2)
       clear HT b2 a0 a1 a2 a3 a4 d0 d1 d2 d3 d4
       obtain ⟨a0, a1, a2, a3, a4, d0, d1, d2, d3, d4⟩ := HS.out.cs
       go_wp2
       go_ret
       exact ⟨rfl, HS.out.b⟩
      ·skip
       exact absurd ⟨rfl, rfl⟩ HNN.out
 ·skip
  refine Tg 5 rfl rfl ?_; simp only [Ad]
  cases ss
  ·skip
   refine Cd (i := 2) (by kernel_rfl) rfl rfl (by rfl) (fun K hK => ?_)
   go_simp
   with_reducible refine Bm (S3.out _) fun w2 b2 => ?_
   have hHe2 := hHeld.step b2
   clear hHeld b2
   refine hK.out _ _ hHe2 ?_; clear hK K; simp only [Ad]
   have hHeld := hHe2; clear hHe2
   refine Tg 6 rfl rfl ?_; simp only [Ad]
   refine Tg 7 rfl rfl ?_; simp only [Ad]
   refine Tk 8 rfl rfl (Or.inl ⟨by rfl, by (intro w hS; have c := hS.k.cell (k := 2) (u := .float .f64 x.vn) rfl; go_simp; try with_reducible rfl)⟩) ?_; simp only [Ad]
   cases nn
   ·skip
    refine Cd (i := 9) (by kernel_rfl) rfl rfl (by rfl) (fun K hK => ?_)
    go_simp
    with_reducible refine Sm (CN.out _) ?_
    refine hK.out _ _ hHeld ?_; clear hK K; simp only [Ad]
    refine Tg 10 rfl rfl ?_; simp only [Ad]
    refine Tg 11 rfl rfl ?_; simp only [Ad]
    refine wpAnyH_done (by kernel_rfl) ?_ _
    have HS := Lh hHeld
    clear hHeld
    exact absurd HSS.out (by simp)
   ·skip
    refine Cd (i := 9) (by kernel_rfl) rfl rfl (by rfl) (fun K hK => ?_)
    go_simp
    with_reducible refine Sm (CN.out _) ?_
    refine hK.out _ _ hHeld ?_; clear hK K; simp only [Ad]
    refine Tg 10 rfl rfl ?_; simp only [Ad]
    refine Tg 11 rfl rfl ?_; simp only [Ad]
    refine wpAnyH_done (by kernel_rfl) ?_ _
    have HS := Lh hHeld
    clear hHeld
    go_upto_region 11 with fail
    obtain ⟨a0, a1, a2, a3, a4, d0, d1, d2, d3, d4⟩ := HS.out.cs
    cases st
    ·skip
     go_wp2_with (first | (refine ldX (k := 90) HS.out.k rfl (by kernel_rfl) rfl rfl ?_) | (refine ldX (k := 91) HS.out.k2 rfl (by kernel_rfl) rfl rfl ?_))
     with_reducible refine Bm (S1.out _) fun w2 b2 => ?_
     have HT := HS; clear HS
     have HS := Lh (HT.out.step b2)
     clear HT b2 a0 a1 a2 a3 a4 d0 d1 d2 d3 d4
     obtain ⟨a0, a1, a2, a3, a4, d0, d1, d2, d3, d4⟩ := HS.out.cs
     cases n1
     ·skip
      go_wp2_with fail
      with_reducible refine Bm (CW.out _ HS.out.b) fun w2 b2 => ?_
      have HT := HS; clear HS
      have HS := Lh (HT.out.step b2)
      clear HT b2 a0 a1 a2 a3 a4 d0 d1 d2 d3 d4
      obtain ⟨a0, a1, a2, a3, a4, d0, d1, d2, d3, d4⟩ := HS.out.cs
      go_wp2
      go_ret
      exact ⟨rfl, HS.out.b⟩
     ·skip
      cases m1
      ·skip
       go_wp2_with fail
       with_reducible refine Bm (CW.out _ HS.out.b) fun w2 b2 => ?_
       have HT := HS; clear HS
       have HS := Lh (HT.out.step b2)
       clear HT b2 a0 a1 a2 a3 a4 d0 d1 d2 d3 d4
       obtain ⟨a0, a1, a2, a3, a4, d0, d1, d2, d3, d4⟩ := HS.out.cs
       go_wp2
       go_ret
       exact ⟨rfl, HS.out.b⟩
      ·skip
       exact absurd ⟨rfl, rfl⟩ HNN.out
    ·skip
     go_wp2_with (first | (refine ldX (k := 90) HS.out.k rfl (by kernel_rfl) rfl rfl ?_) | (refine ldX (k := 91) HS.out.k2 rfl (by kernel_rfl) rfl rfl ?_))
     with_reducible refine Bm (S1.out _) fun w2 b2 => ?_
     have HT := HS; clear HS
     have HS := Lh (HT.out.step b2)
     clear HT b2 a0 a1 a2 a3 a4 d0 d1 d2 d3 d4
     obtain ⟨a0, a1, a2, a3, a4, d0, d1, d2, d3, d4⟩ := HS.out.cs
     cases la
     ·skip
      exact absurd (HSL.out (by simp)) (by simp)
     ·skip
      cases n1
      ·skip
       go_wp2_with fail
       with_reducible refine Bm (CW.out _ HS.out.b) fun w2 b2 => ?_
       have HT := HS; clear HS
       have HS := Lh (HT.out.step b2)
       clear HT b2 a0 a1 a2 a3 a4 d0 d1 d2 d3 d4
       obtain ⟨a0, a1, a2, a3, a4, d0, d1, d2, d3, d4⟩ := HS.out.cs
       go_wp2
       go_ret
       exact ⟨rfl, HS.out.b⟩
      ·skip
       cases m1
       ·skip
        go_wp2_with fail
        with_reducible refine Bm (CW.out _ HS.out.b) fun w2 b2 => ?_
        have HT := HS; clear HS
        have HS := Lh (HT.out.step b2)
        clear HT b2 a0 a1 a2 a3 a4 d0 d1 d2 d3 d4
        obtain ⟨a0, a1, a2, a3, a4, d0, d1, d2, d3, d4⟩ := HS.out.cs
        go_wp2
        go_ret
        exact ⟨rfl, HS.out.b⟩
       ·skip
        exact absurd ⟨rfl, rfl⟩ HNN.out
  ·skip
   refine Cd (i := 2) (by kernel_rfl) rfl rfl (by rfl) (fun K hK => ?_)
   go_simp
   with_reducible refine Bm (S3.out _) fun w2 b2 => ?_
   have hHe2 := hHeld.step b2
   clear hHeld b2
   refine hK.out _ _ hHe2 ?_; clear hK K; simp only [Ad]
   have hHeld := hHe2; clear hHe2
   refine Tg 6 rfl rfl ?_; simp only [Ad]
   refine Tg 7 rfl rfl ?_; simp only [Ad]
   refine Tk 8 rfl rfl (Or.inl ⟨by rfl, by (intro w hS; have c := hS.k.cell (k := 2) (u := .float .f64 x.vn) rfl; go_simp; try with_reducible rfl)⟩) ?_; simp only [Ad]
   cases nn
   ·skip
    refine Cd (i := 9) (by kernel_rfl) rfl rfl (by rfl) (fun K hK => ?_)
    go_simp
    with_reducible refine Sm (CN.out _) ?_
    refine hK.out _ _ hHeld ?_; clear hK K; simp only [Ad]
    refine Tg 10 rfl rfl ?_; simp only [Ad]
    refine Tg 11 rfl rfl ?_; simp only [Ad]
    refine wpAnyH_done (by kernel_rfl) ?_ _
    have HS := Lh hHeld
    clear hHeld
    go_upto_region 11 with fail
    obtain ⟨a0, a1, a2, a3, a4, d0, d1, d2, d3, d4⟩ := HS.out.cs
    cases st
    ·skip
     go_wp2_with (first | (refine ldX (k := 90) HS.out.k rfl (by kernel_rfl) rfl rfl ?_) | (refine ldX (k := 91) HS.out.k2 rfl (by kernel_rfl) rfl rfl ?_))
     with_reducible refine Bm (S1.out _) fun w2 b2 => ?_
     have HT := HS; clear HS
     have HS := Lh (HT.out.step b2)
     clear HT b2 a0 a1 a2 a3 a4 d0 d1 d2 d3 d4
     obtain ⟨a0, a1, a2, a3, a4, d0, d1, d2, d3, d4⟩ := HS.out.cs
     cases n1
     ·skip
      go_wp2_with fail
      with_reducible refine Bm (CW.out _ HS.out.b) fun w2 b2 => ?_
      have HT := HS; clear HS
      have HS := Lh (HT.out.step b2)
      clear HT b2 a0 a1 a2 a3 a4 d0 d1 d2 d3 d4
      obtain ⟨a0, a1, a2, a3, a4, d0, d1, d2, d3, d4⟩ := HS.out.cs
      go_wp2
      go_ret
      exact ⟨rfl, HS.out.b⟩
     ·skip
      cases m1
      ·skip
       go_wp2_with fail
       with_reducible refine Bm (CW.out _ HS.out.b) fun w2 b2 => ?_
       have HT := HS; clear HS
       have HS := Lh (HT.out.step b2)
       clear HT b2 a0 a1 a2 a3 a4 d0 d1 d2 d3 d4
       obtain ⟨a0, a1, a2, a3, a4, d0, d1, d2, d3, d4⟩ := HS.out.cs
       go_wp2
       go_ret
       exact ⟨rfl, HS.out.b⟩
      ·skip
       exact absurd ⟨rfl, rfl⟩ HNN.out
    ·skip
     go_wp2_with (first | (refine ldX (k := 90) HS.out.k rfl (by kernel_rfl) rfl rfl ?_) | (refine ldX (k := 91) HS.out.k2 rfl (by kernel_rfl) rfl rfl ?_))
     with_reducible refine Bm (S1.out _) fun w2 b2 => ?_
     have HT := HS; clear HS
     have HS := Lh (HT.out.step b2)
     clear HT b2 a0 a1 a2 a3 a4 d0 d1 d2 d3 d4
     obtain ⟨a0, a1, a2, a3, a4, d0, d1, d2, d3, d4⟩ := HS.out.cs
     cases la
     ·skip
      exact absurd (HSL.out (by simp)) (by simp)
     ·skip
      cases n1
      ·skip
       go_wp2_with fail
       with_reducible refine Bm (CW.out _ HS.out.b) fun w2 b2 => ?_
       have HT := HS; clear HS
       have HS := Lh (HT.out.step b2)
       clear HT b2 a0 a1 a2 a3 a4 d0 d1 d2 d3 d4
       obtain ⟨a0, a1, a2, a3, a4, d0, d1, d2, d3, d4⟩ := HS.out.cs
       go_wp2
       go_ret
       exact ⟨rfl, HS.out.b⟩
      ·skip
       cases m1
       ·skip
        go_wp2_with fail
        with_reducible refine Bm (CW.out _ HS.out.b) fun w2 b2 => ?_
        have HT := HS; clear HS
        have HS := Lh (HT.out.step b2)
        clear HT b2 a0 a1 a2 a3 a4 d0 d1 d2 d3 d4
        obtain ⟨a0, a1, a2, a3, a4, d0, d1, d2, d3, d4⟩ := HS.out.cs
        go_wp2
        go_ret
        exact ⟨rfl, HS.out.b⟩
       ·skip
        exact absurd ⟨rfl, rfl⟩ HNN.out
   ·skip
    refine Cd (i := 9) (by kernel_rfl) rfl rfl (by rfl) (fun K hK => ?_)
    go_simp
    with_reducible refine Sm (CN.out _) ?_
    refine hK.out _ _ hHeld ?_; clear hK K; simp only [Ad]
    refine Tg 10 rfl rfl ?_; simp only [Ad]
    refine Tg 11 rfl rfl ?_; simp only [Ad]
    refine wpAnyH_done (by kernel_rfl) ?_ _
    have HS := Lh hHeld
    clear hHeld
    exact absurd HSS.out (by simp)
theorem Uq (x y : Val) (w : World) (ht : Tab10 w) (hz : Cg w) (nx : x.vn < 18446744073709551616) (ny : y.vn < 18446744073709551616) (sx : x.vs.size ≤ 140737488355328) (sy : y.vs.size ≤ 140737488355328) : Ct 8 #[Ay x, Ay y] (.bool true) w := by
 cases hm : Bc x
 ·exact Uw x y w ht hz hm
 ·cases hk : Bc y
  ·exact Ue x y w ht hz hm hk
  ·exact U4 x y w ht hz nx ny sx sy hm hk
end
section
open Go.ChangeShapes Go.WideShapes Go.ChangeAt Go.RowKit Go.Joins
section
variable {H : Type} {enc : TypeId × Value → H} {w : World} {base : Nat} {spare : Nat → Bool} {held : Bool}
def Aco (v : Val) : Array Value := #[.int .i64 v.vk, .bool v.vb, .float .f64 v.vn, .string v.vs, .int .i64 v.vo]
def Za (v : Val) : DataW H := .agg [.lit (.int .i64 v.vk), .lit (.bool v.vb), .lit (.float .f64 v.vn), .lit (.string v.vs.data.toList), .lit (.int .i64 v.vo)]
structure wfV (v : Val) : Prop where
 k : (Lit.int .i64 v.vk).wf = true
 n : (Lit.float .f64 v.vn).wf = true
 s : v.vs.size ≤ maxLen
 o : (Lit.int .i64 v.vo).wf = true
theorem wfV.num {v : Val} (h : wfV v) : v.vn < 18446744073709551616 := by
 have := h.n
 simp only [Lit.wf, decide_eq_true_eq] at this
 exact this
theorem Rm {P : Program} {t : TypeId} {k : FloatKind} {fuel : Nat} {cs : List Value} {x : DataW H × List MemPlace} (ht : P.underlying t = some (.float k)) (h : DataW.trod enc P w base spare held fuel t cs = some x) :
  ∃ b, cs = [.float k b] ∧ x = (.lit (.float k b), []) ∧ (Lit.float k b).wf = true := by
 cases fuel with
 | zero => simp [DataW.trod] at h
 | succ n =>
  unfold DataW.trod at h
  rw [ht] at h
  split at h <;> simp_all
theorem Ahj {fuel : Nat} {cs : List Value} {x : DataW H × List MemPlace} (h : DataW.trod enc Tryz.prog w base spare held fuel 24 cs = some x) : ∃ v, cs = (Aco v).toList ∧ x = (Za v, []) ∧ wfV v := by
 obtain ⟨xs, n, rfl, rfl, hl, hlen, hf⟩ := DataW.trod_struct Tryz.underlying24 h
 have ci : Tryz.prog.cellsOf 3 = 1 := by kernel_rfl
 have cb : Tryz.prog.cellsOf 4 = 1 := by kernel_rfl
 have cf : Tryz.prog.cellsOf 22 = 1 := by kernel_rfl
 have cst : Tryz.prog.cellsOf 9 = 1 := by kernel_rfl
 rw [show Tryz.prog.cellsOf 24 = 5 by kernel_rfl] at hl
 match cs, hl with
 | [c0, c1, c2, c3, c4], _ =>
  match xs, hlen with
  | [y0, y1, y2, y3, y4], _ =>
   have g0 : DataW.trod enc Tryz.prog w base spare held n 3 [c0] = some y0 := by
    have q := hf 0 _ rfl
    have e : ([c0, c1, c2, c3, c4].drop 0).take (Tryz.prog.cellsOf 3) = [c0] := by rw [ci]; rfl
    rw [← e]
    exact q
   have g1 : DataW.trod enc Tryz.prog w base spare held n 4 [c1] = some y1 := by
    have q := hf 1 _ rfl
    have e : ([c0, c1, c2, c3, c4].drop 1).take (Tryz.prog.cellsOf 4) = [c1] := by rw [cb]; rfl
    rw [← e]
    exact q
   have g2 : DataW.trod enc Tryz.prog w base spare held n 22 [c2] = some y2 := by
    have q := hf 2 _ rfl
    have e : ([c0, c1, c2, c3, c4].drop 2).take (Tryz.prog.cellsOf 22) = [c2] := by rw [cf]; rfl
    rw [← e]
    exact q
   have g3 : DataW.trod enc Tryz.prog w base spare held n 9 [c3] = some y3 := by
    have q := hf 3 _ rfl
    have e : ([c0, c1, c2, c3, c4].drop 3).take (Tryz.prog.cellsOf 9) = [c3] := by rw [cst]; rfl
    rw [← e]
    exact q
   have g4 : DataW.trod enc Tryz.prog w base spare held n 3 [c4] = some y4 := by
    have q := hf 4 _ rfl
    have e : ([c0, c1, c2, c3, c4].drop 4).take (Tryz.prog.cellsOf 3) = [c4] := by rw [ci]; rfl
    rw [← e]
    exact q
   obtain ⟨k, e0, rfl, w0⟩ := DataW.trod_int Tryz.underlying3 g0
   obtain ⟨b, e1, rfl⟩ := DataW.trod_bool Tryz.underlying4 g1
   obtain ⟨m, e2, rfl, w2⟩ := Rm Tryz.underlying22 g2
   obtain ⟨s, e3, rfl, w3⟩ := DataW.trod_string Tryz.underlying9 g3
   obtain ⟨o, e4, rfl, w4⟩ := DataW.trod_int Tryz.underlying3 g4
   simp only [List.cons.injEq, and_true] at e0 e1 e2 e3 e4
   subst e0 e1 e2 e3 e4
   exact ⟨⟨k, b, m, s, o⟩, rfl, rfl, ⟨w0, w2, w3, w4⟩⟩
theorem Adc {v : Val} (hw : wfV v) : DataW.trod enc Tryz.prog w base spare held 2 24 (Aco v).toList = some (Za v, []) := by
 have ci : Tryz.prog.cellsOf 3 = 1 := by kernel_rfl
 have cb : Tryz.prog.cellsOf 4 = 1 := by kernel_rfl
 have cf : Tryz.prog.cellsOf 22 = 1 := by kernel_rfl
 have cst : Tryz.prog.cellsOf 9 = 1 := by kernel_rfl
 have := trod_struct_mk (enc := enc) (w := w) (base := base) (spare := spare) (held := held) (n := 1) (cs := (Aco v).toList) (xs := [(.lit (.int .i64 v.vk), []), (.lit (.bool v.vb), []), (.lit (.float .f64 v.vn), []), (.lit (.string v.vs.data.toList), []), (.lit (.int .i64 v.vo), [])]) Tryz.underlying24 (by rw [show Tryz.prog.cellsOf 24 = 5 by kernel_rfl]; rfl)
  (by simp [Aco, ci, cb, cf, cst, DataW.trod, Tryz.underlying3, Tryz.underlying4, Tryz.underlying22, Tryz.underlying9, hw.k, hw.n, hw.s, hw.o])
 exact this
theorem Ln {r : Reach} {b0 : Nat} {v : Value} {d : DataW H} {p : List MemPlace} (hv : Value.okWide Tryz.prog w r b0 24 v) (h : DataW.Trod enc Tryz.prog w base spare held 24 v d p) : ∃ x : Val, v = Ay x ∧ d = Za x ∧ p = [] ∧ wfV x := by
 obtain ⟨cs, rfl, _⟩ := okWide_struct Tryz.underlying24 hv
 obtain ⟨fuel, hf⟩ := h
 obtain ⟨x, e1, e2, hw⟩ := Ahj hf
 obtain rfl : cs = Aco x := Array.toList_inj.1 e1
 cases e2
 exact ⟨x, rfl, rfl, rfl, hw⟩
theorem J6 {x : Val} (hw : wfV x) : DataW.Trod enc Tryz.prog w base spare held 24 (Ay x) (Za x) [] := ⟨2, Adc hw⟩
end
end
section
open Go.ChangeShapes Go.WideShapes Go.ChangeAt Go.RowKit Go.Joins
theorem H8 {H : Type} {ts : List TypeId} {ds : List (DataW H)} (h : (DataW.weightsEach Tryz.prog ts ds).all (· ≤ reachBytes) = true) {j : Nat} {x : Val} (ht : ts[j]? = some 24) (hd : ds[j]? = some (Za x)) : x.vs.size ≤ 140737488355328 := by
 have := List.all_eq_true.1 h _ (DataW.weights_mem_each ht hd x.vs.data.toList.length (by simp [Za, DataW.weights, DataW.weightsEach, Tryz.underlying24]))
 have e : reachBytes = 140737488351232 := rfl
 rw [e] at this
 rw [Lib.size_eq]
 have := of_decide_eq_true this
 omega
end
end Go.Proofs.YtmakhfekiieneaaGreatDoor
