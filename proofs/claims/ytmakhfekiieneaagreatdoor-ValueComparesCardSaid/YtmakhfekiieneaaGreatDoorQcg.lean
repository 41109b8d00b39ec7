/-
  Merged texts (P1, Ee, Ef, P3, H4, H6, Oa, Ob).
-/
import Derived.Test.YtmakhfekiieneaaGreatDoorQcf
import Derived.Laws.Cover2
import Derived.ShutString
import Derived.Lib.SmallJoins
open Go.RowKit
set_option maxRecDepth 100000
set_option maxHeartbeats 40000000
namespace Go.Proofs.YtmakhfekiieneaaGreatDoor
section
theorem Wm (w : World) : Cq 49 #[] (.float .f64 9221120237041090560) w := by
 have h2 : (callFunc 69 #[.int .u64 9221120237041090560]).run Tryz.prog w = .ok (.value (.float .f64 9221120237041090560)) w := Ca 9221120237041090560 w
 go_enter Tryz.func49, Tryz.ntmps49
 go_wp2
 go_ret
 exact ⟨rfl, rfl⟩
theorem Se (x : Nat) (w : World) : Cq 45 #[.float .f64 x] (.float .f64 (cn x)) w := by
 have C1 := Lh (fun W => Bv x W)
 have C2 := Lh (fun W => Wm W)
 unfold cn
 cases e1 : Ck x
 ·rw [e1] at C1
  rw [if_neg (by simp)]
  clear e1 C2
  go_enter Tryz.func45, Tryz.ntmps45
  go_wp2_with fail
  refine Sm (C1.out _) ?_
  go_wp2
  go_ret
  exact ⟨rfl, rfl⟩
 ·rw [e1] at C1
  rw [if_pos rfl]
  clear e1
  go_enter Tryz.func45, Tryz.ntmps45
  go_wp2_with fail
  refine Sm (C1.out _) ?_
  go_wp2_with fail
  refine Sm (C2.out _) ?_
  go_wp2
  go_ret
  exact ⟨rfl, rfl⟩
theorem Xi (x : Nat) (w : World) : Ct 15 #[.float .f64 x] (Am (Px (cn x))) w := by
 have C1 := Lh (fun W => Se x W)
 obtain ⟨n, hn⟩ : ∃ n, cn x = n := ⟨_, rfl⟩
 rw [hn] at C1 ⊢
 clear hn
 go_enter Tryz.func15, Tryz.ntmps15
 go_wp2_with fail
 refine Sm (C1.out _) ?_
 go_wp2_with (refine vlS rfl rfl w.heap.size 3 false n ⟨#[]⟩ 0 rfl rfl (heap_alloc_last w _) ?_; rw [World.setRow_alloc_new])
 refine vlR rfl rfl (heap_alloc_last w _) rfl rfl ⟨rfl, As _ _⟩
theorem Ank (s : ByteArray) : slS s 0 (ln s) = wh s := by
 unfold slS wh
 by_cases h : max 0 0 < min ((ln s : Nat) : Int) ((ln s : Nat) : Int)
 ·rw [if_pos h]
  congr 1 <;> omega
 ·rw [if_neg h]
  have h0 : ln s = 0 := by omega
  rw [h0]
  first | (simp; done) | exact (ByteArray.ext (by simp)).symm | (refine ByteArray.ext ?_; simp [ByteArray.extract])
theorem Lo (s : ByteArray) (w : World) (hs : s.size ≤ maxLen) : Ct 17 #[.string s] (Am (Jz (wh s))) w := by
 have C1 := fun W => J4 s W hs
 have C2 := fun W => Sj s 0 (ln s) W hs
 rw [Ank] at C2
 obtain ⟨n, hn⟩ : ∃ n : Int, ((ln s : Nat) : Int) = n := ⟨_, rfl⟩
 rw [hn] at C1 C2
 obtain ⟨t, ht⟩ : ∃ t, wh s = t := ⟨_, rfl⟩
 rw [ht] at C2 ⊢
 clear hs hn ht
 have C1 := Lh C1
 have C2 := Lh C2
 go_enter Tryz.func17, Tryz.ntmps17
 go_wp2_with fail
 refine Sm (C1.out _) ?_
 go_wp2_with fail
 refine Sm (C2.out _) ?_
 go_wp2_with (refine vlS rfl rfl w.heap.size 4 false 0 t 0 rfl rfl (heap_alloc_last w _) ?_; rw [World.setRow_alloc_new])
 refine vlR rfl rfl (heap_alloc_last w _) rfl rfl ⟨rfl, As _ _⟩
theorem Xk  (w : World) : Ct 22 #[.agg #[.int .i64 0, .bool false, .float .f64 0, .string ⟨#[]⟩, .int .i64 0]] (.tuple #[.float .f64 9221120237041090560, .int .i64 0]) w := by
 have C1 := Lh (fun W => Wm W)
 go_enter Tryz.func22, Tryz.ntmps22
 go_wp2_with fail
 refine Sm (C1.out _) ?_
 go_wp2
 go_ret2
 exact ⟨rfl, As _ _⟩
theorem V7  (w : World) : Ct 22 #[.agg #[.int .i64 1, .bool false, .float .f64 0, .string ⟨#[]⟩, .int .i64 0]] (.tuple #[.float .f64 0, .int .i64 0]) w := by
 go_enter Tryz.func22, Tryz.ntmps22
 go_wp2
 go_ret2
 exact ⟨rfl, As _ _⟩
theorem Te  (w : World) : Ct 22 #[.agg #[.int .i64 2, .bool true, .float .f64 0, .string ⟨#[]⟩, .int .i64 0]] (.tuple #[.float .f64 4607182418800017408, .int .i64 0]) w := by
 go_enter Tryz.func22, Tryz.ntmps22
 go_wp2
 go_ret2
 exact ⟨rfl, As _ _⟩
theorem Tc  (w : World) : Ct 22 #[.agg #[.int .i64 2, .bool false, .float .f64 0, .string ⟨#[]⟩, .int .i64 0]] (.tuple #[.float .f64 0, .int .i64 0]) w := by
 go_enter Tryz.func22, Tryz.ntmps22
 go_wp2
 go_ret2
 exact ⟨rfl, As _ _⟩
theorem U1 (o : Int) (w : World) : Ct 22 #[.agg #[.int .i64 5, .bool false, .float .f64 0, .string ⟨#[]⟩, .int .i64 o]] (.tuple #[.float .f64 0, .int .i64 1]) w := by
 go_enter Tryz.func22, Tryz.ntmps22
 go_wp2
 go_ret2
 exact ⟨rfl, As _ _⟩
theorem We (n : Nat) (w : World) : Ct 22 #[.agg #[.int .i64 3, .bool false, .float .f64 n, .string ⟨#[]⟩, .int .i64 0]] (.tuple #[.float .f64 (cn n), .int .i64 0]) w := by
 have C1 := Lh (fun W => Se n W)
 obtain ⟨m, hm⟩ : ∃ m, cn n = m := ⟨_, rfl⟩
 rw [hm] at C1 ⊢
 clear hm
 go_enter Tryz.func22, Tryz.ntmps22
 go_wp2_with fail
 refine Sm (C1.out _) ?_
 go_wp2
 go_ret2
 exact ⟨rfl, As _ _⟩
theorem Xf (s : ByteArray) (hs : s.size ≤ 140737488355328) (w : World) : Ct 22 #[.agg #[.int .i64 4, .bool false, .float .f64 0, .string s, .int .i64 0]] (.tuple #[.float .f64 (H8 (nrw 0 (us (Dj s)))), .int .i64 0]) w := by
 have C1 := fun W => Vt s W hs
 obtain ⟨m, hm⟩ : ∃ m, H8 (nrw 0 (us (Dj s))) = m := ⟨_, rfl⟩
 rw [hm] at C1 ⊢
 have C1 := Lh C1
 clear hs hm
 go_enter Tryz.func22, Tryz.ntmps22
 go_wp2_with fail
 refine Bm (C1.out _) fun w2 b2 => ?_
 go_wp2
 go_ret2
 exact ⟨rfl, Aa (As _ _) b2⟩
theorem Dv {v : Val} (h : Ba v = true) (hs : v.vs.size ≤ 140737488355328) (w : World) : Ct 22 #[Am v] (.tuple #[.float .f64 (At v), .int .i64 (It v)]) w := by
 rcases Eq h with rfl | rfl | ⟨b, rfl⟩ | ⟨n, _, rfl⟩ | ⟨s, _, rfl⟩ | ⟨o, _, rfl⟩
 ·exact Xk w
 ·exact V7 w
 ·cases b
  ·exact Tc w
  ·exact Te w
 ·exact We n w
 ·exact Xf s hs w
 ·exact U1 o w
theorem W5  (w : World) : Ct 24 #[.agg #[.int .i64 0, .bool false, .float .f64 0, .string ⟨#[]⟩, .int .i64 0]] (.tuple #[.string wUnd, .int .i64 0]) w := by
 have CW := Lh (fun W => (show Cp 52 #[.string ⟨#[117, 110, 100, 101, 102, 105, 110, 101, 100]⟩] W fun e w' => e = .returned (.string wUnd) ∧ Below W.heap.size W w' from Nf [117, 110, 100, 101, 102, 105, 110, 101, 100] W rfl (by decide)))
 go_enter Tryz.func24, Tryz.ntmps24
 go_wp2_with fail
 refine Bm (CW.out _) fun w2 b2 => ?_
 go_wp2
 go_ret2
 exact ⟨rfl, Aa (As _ _) b2⟩
theorem Vg  (w : World) : Ct 24 #[.agg #[.int .i64 1, .bool false, .float .f64 0, .string ⟨#[]⟩, .int .i64 0]] (.tuple #[.string wNul, .int .i64 0]) w := by
 have CW := Lh (fun W => (show Cp 52 #[.string ⟨#[110, 117, 108, 108]⟩] W fun e w' => e = .returned (.string wNul) ∧ Below W.heap.size W w' from Nf [110, 117, 108, 108] W rfl (by decide)))
 go_enter Tryz.func24, Tryz.ntmps24
 go_wp2_with fail
 refine Bm (CW.out _) fun w2 b2 => ?_
 go_wp2
 go_ret2
 exact ⟨rfl, Aa (As _ _) b2⟩
theorem Sz  (w : World) : Ct 24 #[.agg #[.int .i64 2, .bool true, .float .f64 0, .string ⟨#[]⟩, .int .i64 0]] (.tuple #[.string wTru, .int .i64 0]) w := by
 have CW := Lh (fun W => (show Cp 52 #[.string ⟨#[116, 114, 117, 101]⟩] W fun e w' => e = .returned (.string wTru) ∧ Below W.heap.size W w' from Nf [116, 114, 117, 101] W rfl (by decide)))
 go_enter Tryz.func24, Tryz.ntmps24
 go_wp2_with fail
 refine Bm (CW.out _) fun w2 b2 => ?_
 go_wp2
 go_ret2
 exact ⟨rfl, Aa (As _ _) b2⟩
theorem Ta  (w : World) : Ct 24 #[.agg #[.int .i64 2, .bool false, .float .f64 0, .string ⟨#[]⟩, .int .i64 0]] (.tuple #[.string wFal, .int .i64 0]) w := by
 have CW := Lh (fun W => (show Cp 52 #[.string ⟨#[102, 97, 108, 115, 101]⟩] W fun e w' => e = .returned (.string wFal) ∧ Below W.heap.size W w' from Nf [102, 97, 108, 115, 101] W rfl (by decide)))
 go_enter Tryz.func24, Tryz.ntmps24
 go_wp2_with fail
 refine Bm (CW.out _) fun w2 b2 => ?_
 go_wp2
 go_ret2
 exact ⟨rfl, Aa (As _ _) b2⟩
theorem Wj (s : ByteArray) (w : World) : Ct 24 #[.agg #[.int .i64 4, .bool false, .float .f64 0, .string s, .int .i64 0]] (.tuple #[.string s, .int .i64 0]) w := by
 go_enter Tryz.func24, Tryz.ntmps24
 go_wp2
 go_ret2
 exact ⟨rfl, As _ _⟩
theorem Yf (o : Int) (w : World) : Ct 24 #[.agg #[.int .i64 5, .bool false, .float .f64 0, .string ⟨#[]⟩, .int .i64 o]] (.tuple #[.string ⟨#[]⟩, .int .i64 1]) w := by
 go_enter Tryz.func24, Tryz.ntmps24
 go_wp2
 go_ret2
 exact ⟨rfl, As _ _⟩
theorem Xg (n : Nat) (hn : n < 18446744073709551616) (w : World) (ht : Tab10 w) (hz : Dl w) : Ct 24 #[.agg #[.int .i64 3, .bool false, .float .f64 n, .string ⟨#[]⟩, .int .i64 0]] (.tuple #[.string (txt n), .int .i64 0]) w := by
 have C1 := Lh (fun W (hW : Below w.heap.size w W) => Ac2 (w := W) hn (ht.on hW) (Gi hz hW) (Classical.choose_spec (Nv n)))
 have hT := Lh (show wdS (Classical.choose (Nv n)) = txt n from rfl)
 clear hn ht hz
 rw [hT.out] at C1
 go_enter Tryz.func24, Tryz.ntmps24
 go_wp2_with fail
 with_reducible refine Bm (C1.out _ (As _ _)) fun w2 b2 => ?_
 go_wp2
 go_ret2
 exact ⟨rfl, Aa (As _ _) b2⟩
theorem Dw {v : Val} (h : Ba v = true) (hn : v.vn < 18446744073709551616) (w : World) (ht : Tab10 w) (hz : Dl w) : Ct 24 #[Am v] (.tuple #[.string (El v), .int .i64 (It v)]) w := by
 rcases Eq h with rfl | rfl | ⟨b, rfl⟩ | ⟨n, _, rfl⟩ | ⟨s, _, rfl⟩ | ⟨o, _, rfl⟩
 ·exact W5 w
 ·exact Vg w
 ·cases b
  ·exact Ta w
  ·exact Sz w
 ·exact Xg n hn w ht hz
 ·exact Wj s w
 ·exact Yf o w
end
section
def eqW (x y : Val) : Bool := x.vk == y.vk && (x.vb == y.vb && (oeq x.vn y.vn && (x.vs.toList == y.vs.toList && x.vo == y.vo)))
theorem Js {P : Program} (w : World) (d : Nat) (t : TypeId) (k k' : FloatKind) (a b : Nat) (h : P.underlying t = some (.float k')) : (Op.equalIn (d + 1) t (.float k a) (.float k b)).run P w = .ok (k.format.order a b == some .eq) w := by
 simp [Op.equalIn, run_underlying h, Op.floatEq]
theorem U3 (x y : Val) (w : World) (d : Nat) : (Op.equalIn (d + 2) 24 (.agg (Af x)) (.agg (Af y))).run Tryz.prog w = .ok (eqW x y) w := by
 rw [run_equalIn_struct w (d + 1) 24 (Af x) (Af y) (by kernel_rfl) (by kernel_rfl)]
 have ei := fun (a b : Int) (W : World) => run_equalIn_int (P := Tryz.prog) W d 3 .i64 .i64 a b Tryz.underlying3
 have eb := fun (a b : Bool) (W : World) => run_equalIn_bool' (P := Tryz.prog) W d 4 a b Tryz.underlying4
 have ef := fun (a b : Nat) (W : World) => Js (P := Tryz.prog) W d 22 .f64 .f64 a b Tryz.underlying22
 have es := fun (a b : ByteArray) (W : World) => run_equalIn_string (P := Tryz.prog) W d 9 a b Tryz.underlying9
 rw [show Tryz.prog.fieldsOf 24 = _ from by unfold Program.fieldsOf; rw [Tryz.underlying24]]
 unfold eqW Af oeq
 go_simp
 repeat' split
 all_goals simp_all
theorem Ag5 (x y : Val) (w : World) : (binOp .eql 24 (.agg (Af x)) (.agg (Af y))).run Tryz.prog w = .ok (.bool (eqW x y)) w := by
 rw [run_eql_struct, U3]
 rfl
end
section
theorem Pr (x y : Val) : eqW x y = Dy x y := by
 unfold eqW Dy Ga
 generalize (x.vk == y.vk) = a
 generalize oeq x.vn y.vn = b
 generalize (x.vb == y.vb) = c
 generalize (x.vs.toList == y.vs.toList) = d
 generalize (x.vo == y.vo) = e
 revert a b c d e
 decide
end
section
attribute [local go_sem high] Ag5
theorem Ly (x y : Val) (w : World) : Ct 35 #[.agg (Af x), .agg (Af y)] (.bool (Dy x y)) w := by
 obtain ⟨S, hS⟩ : ∃ S, Dy x y = S := ⟨_, rfl⟩
 rw [hS]
 have h1 := Lh ((Pr x y).trans hS)
 clear hS
 go_enter Tryz.func35, Tryz.ntmps35
 go_upto_region 1 with fail
 obtain ⟨W1, hW1⟩ : ∃ W1, w.alloc (.cells (Af x) 24) = W1 := ⟨_, rfl⟩
 rw [hW1]
 obtain ⟨W2, hW2⟩ : ∃ W2, W1.alloc (.cells (Af y) 24) = W2 := ⟨_, rfl⟩
 have HS := Lh (T2.new hW1 hW2)
 obtain ⟨a0, a1, a2, a3, a4, d0, d1, d2, d3, d4⟩ := HS.out.cs
 rw [hW2]
 clear hW1 hW2
 go_wp2_with (first | (refine ldX (k := 5) HS.out.k rfl (by kernel_rfl) rfl rfl ?_) | (refine ldX (k := 6) HS.out.k2 rfl (by kernel_rfl) rfl rfl ?_))
 go_ret
 exact ⟨by rw [← h1.out]; rfl, HS.out.b⟩
theorem X8 {x y : Val} (_ : Ba x = true) (_ : Ba y = true) (w : World) : Ct 35 #[Am x, Am y] (.bool (Dy x y)) w := Ly x y w
theorem Ag1 {x y : Val} (mx : Ba x = true) (my : Ba y = true) (hx : x.vk = 3) (hy : y.vk = 3) : Ny x y = Hq x.vn y.vn := by
 rcases Eq mx with rfl | rfl | ⟨b, rfl⟩ | ⟨n, _, rfl⟩ | ⟨s, _, rfl⟩ | ⟨o, _, rfl⟩
 ·exact absurd hx (by decide)
 ·exact absurd hx (by decide)
 ·exact absurd (show (2 : Int) = 3 from hx) (by decide)
 ·rcases Eq my with rfl | rfl | ⟨b, rfl⟩ | ⟨m, _, rfl⟩ | ⟨s, _, rfl⟩ | ⟨o, _, rfl⟩
  ·exact absurd hy (by decide)
  ·exact absurd hy (by decide)
  ·exact absurd (show (2 : Int) = 3 from hy) (by decide)
  ·show ((3 : Int) == 3 && Ga (Px n) (Px m) && Hq n m) = Hq n m
   rw [show Ga (Px n) (Px m) = true by simp [Ga, Px]]
   rfl
  ·exact absurd (show (4 : Int) = 3 from hy) (by decide)
  ·exact absurd (show (5 : Int) = 3 from hy) (by decide)
 ·exact absurd (show (4 : Int) = 3 from hx) (by decide)
 ·exact absurd (show (5 : Int) = 3 from hx) (by decide)
theorem Vb {x : Val} (mx : Ba x = true) (hx : ¬ x.vk = 3) : x.vn = 0 := by
 rcases Eq mx with rfl | rfl | ⟨b, rfl⟩ | ⟨n, _, rfl⟩ | ⟨s, _, rfl⟩ | ⟨o, _, rfl⟩
 ·rfl
 ·rfl
 ·rfl
 ·exact absurd rfl hx
 ·rfl
 ·rfl
theorem Adk {x y : Val} (mx : Ba x = true) (my : Ba y = true) (h : ¬ (x.vk = 3 ∧ y.vk = 3)) : eqW x y = Ny x y := by
 rw [Pr]
 unfold Dy Ny
 by_cases hk : x.vk = y.vk
 ·rw [Vb mx (fun k => h ⟨k, hk ▸ k⟩), Vb my (fun k => h ⟨hk.trans k, k⟩)]
  rw [show oeq 0 0 = true by decide +kernel, show Hq 0 0 = true by decide +kernel]
 ·rw [show (x.vk == y.vk) = false by simpa using hk]
  rfl
theorem Aff (x y : Val) (w : World) (nx : x.vn < 18446744073709551616) (ny : y.vn < 18446744073709551616) (hK : (x.vk == 3) = true) (hJ : (y.vk == 3) = true) : Ct 37 #[.agg (Af x), .agg (Af y)] (.bool (Hq x.vn y.vn)) w := by
 have C1 := fun W => Ac9 x.vn y.vn W nx ny
 obtain ⟨S, hS⟩ : ∃ S, Hq x.vn y.vn = S := ⟨_, rfl⟩
 rw [hS] at C1 ⊢
 clear hS nx ny
 have C1 := Lh C1
 go_enter Tryz.func37, Tryz.ntmps37
 go_upto_region 1 with fail
 obtain ⟨W1, hW1⟩ : ∃ W1, w.alloc (.cells (Af x) 24) = W1 := ⟨_, rfl⟩
 rw [hW1]
 obtain ⟨W2, hW2⟩ : ∃ W2, W1.alloc (.cells (Af y) 24) = W2 := ⟨_, rfl⟩
 have HS := Lh (T2.new hW1 hW2)
 obtain ⟨a0, a1, a2, a3, a4, d0, d1, d2, d3, d4⟩ := HS.out.cs
 rw [hW2]
 clear hW1 hW2
 go_wp2_with fail
 refine Sm (C1.out _) ?_
 go_wp2
 go_ret
 exact ⟨rfl, HS.out.b⟩
theorem Z3 (x y : Val) (w : World) (K J : Bool) (hK : (x.vk == 3) = K) (hJ : (y.vk == 3) = J) (h : (K && J) = false) : Ct 37 #[.agg (Af x), .agg (Af y)] (.bool (eqW x y)) w := by
 cases K
 ·skip
  go_enter Tryz.func37, Tryz.ntmps37
  go_upto_region 1 with fail
  obtain ⟨W1, hW1⟩ : ∃ W1, w.alloc (.cells (Af x) 24) = W1 := ⟨_, rfl⟩
  rw [hW1]
  obtain ⟨W2, hW2⟩ : ∃ W2, W1.alloc (.cells (Af y) 24) = W2 := ⟨_, rfl⟩
  have HS := Lh (T2.new hW1 hW2)
  obtain ⟨a0, a1, a2, a3, a4, d0, d1, d2, d3, d4⟩ := HS.out.cs
  rw [hW2]
  clear hW1 hW2
  go_wp2_with (first | (refine ldX (k := 18) HS.out.k rfl (by kernel_rfl) rfl rfl ?_) | (refine ldX (k := 19) HS.out.k2 rfl (by kernel_rfl) rfl rfl ?_))
  go_ret
  exact ⟨rfl, HS.out.b⟩
 ·obtain rfl : J = false := by simpa using h
  clear h
  go_enter Tryz.func37, Tryz.ntmps37
  go_upto_region 1 with fail
  obtain ⟨W1, hW1⟩ : ∃ W1, w.alloc (.cells (Af x) 24) = W1 := ⟨_, rfl⟩
  rw [hW1]
  obtain ⟨W2, hW2⟩ : ∃ W2, W1.alloc (.cells (Af y) 24) = W2 := ⟨_, rfl⟩
  have HS := Lh (T2.new hW1 hW2)
  obtain ⟨a0, a1, a2, a3, a4, d0, d1, d2, d3, d4⟩ := HS.out.cs
  rw [hW2]
  clear hW1 hW2
  go_wp2_with (first | (refine ldX (k := 18) HS.out.k rfl (by kernel_rfl) rfl rfl ?_) | (refine ldX (k := 19) HS.out.k2 rfl (by kernel_rfl) rfl rfl ?_))
  go_ret
  exact ⟨rfl, HS.out.b⟩
theorem Afl {x y : Val} (mx : Ba x = true) (my : Ba y = true) (nx : x.vn < 18446744073709551616) (ny : y.vn < 18446744073709551616) (w : World) : Ct 37 #[Am x, Am y] (.bool (Ny x y)) w := by
 by_cases h : x.vk = 3 ∧ y.vk = 3
 ·rw [Ag1 mx my h.1 h.2]
  exact Aff x y w nx ny (by simpa using h.1) (by simpa using h.2)
 ·rw [← Adk mx my h]
  exact Z3 x y w _ _ rfl rfl (by
   rw [Bool.and_eq_false_iff]
   by_cases hx : x.vk = 3
   ·exact .inr (by simpa using fun k => h ⟨hx, k⟩)
   ·exact .inl (by simpa using hx))
theorem Co (v : Val) (w : World) : Ct 56 #[.agg (Af v)] (.bool (Cc v)) w := by
 unfold Cc
 obtain ⟨K, hK⟩ : ∃ b, (v.vk == 0) = b := ⟨_, rfl⟩
 obtain ⟨J, hJ⟩ : ∃ b, (v.vk == 1) = b := ⟨_, rfl⟩
 rw [hK, hJ]
 unfold Af
 cases K
 ·skip
  go_enter Tryz.func56, Tryz.ntmps56
  go_wp2
  go_ret
  exact ⟨by simp, As _ _⟩
 ·skip
  go_enter Tryz.func56, Tryz.ntmps56
  go_wp2
  go_ret
  exact ⟨by simp, As _ _⟩
theorem Mi (x y : Val) (w : World) (n m : Nat) (M1 : Hid (∀ W, Below w.heap.size w W → Ct 22 #[.agg (Af x)] (.tuple #[.float .f64 n, .int .i64 0]) W)) (M2 : Hid (∀ W, Below w.heap.size w W → Ct 22 #[.agg (Af y)] (.tuple #[.float .f64 m, .int .i64 0]) W)) :
  Ct 57 #[.agg (Af x), .agg (Af y), .func (Fn.func 22) #[] #[]] (.tuple #[.float .f64 n, .float .f64 m, .int .i64 0]) w := by
 go_enter Tryz.func57, Tryz.ntmps57
 go_upto_region 1 with fail
 obtain ⟨W1, hW1⟩ : ∃ W1, w.alloc (.cells (Af x) 24) = W1 := ⟨_, rfl⟩
 rw [hW1]
 obtain ⟨W2, hW2⟩ : ∃ W2, W1.alloc (.cells (Af y) 24) = W2 := ⟨_, rfl⟩
 have HS := Lh (T2.new hW1 hW2)
 obtain ⟨a0, a1, a2, a3, a4, d0, d1, d2, d3, d4⟩ := HS.out.cs
 rw [hW2]
 clear hW1 hW2
 go_wp2_with (first | (refine ldX (k := 15) HS.out.k rfl (by kernel_rfl) rfl rfl ?_))
 with_reducible refine Bm (M1.out _ HS.out.b) fun w2 b2 => ?_
 have HS := Lh (HS.out.step b2)
 clear b2
 go_wp2_with (first | (refine ldX (k := 26) HS.out.k2 rfl (by kernel_rfl) rfl rfl ?_))
 with_reducible refine Bm (M2.out _ HS.out.b) fun w2 b2 => ?_
 have HS := Lh (HS.out.step b2)
 clear b2
 go_wp2
 go_ret3
 exact ⟨rfl, HS.out.b⟩
theorem Mb (x y : Val) (w : World) (n : Nat) (M1 : Hid (∀ W, Below w.heap.size w W → Ct 22 #[.agg (Af x)] (.tuple #[.float .f64 n, .int .i64 1]) W)) :
  Ct 57 #[.agg (Af x), .agg (Af y), .func (Fn.func 22) #[] #[]] (.tuple #[.float .f64 0, .float .f64 0, .int .i64 1]) w := by
 go_enter Tryz.func57, Tryz.ntmps57
 go_upto_region 1 with fail
 obtain ⟨W1, hW1⟩ : ∃ W1, w.alloc (.cells (Af x) 24) = W1 := ⟨_, rfl⟩
 rw [hW1]
 obtain ⟨W2, hW2⟩ : ∃ W2, W1.alloc (.cells (Af y) 24) = W2 := ⟨_, rfl⟩
 have HS := Lh (T2.new hW1 hW2)
 obtain ⟨a0, a1, a2, a3, a4, d0, d1, d2, d3, d4⟩ := HS.out.cs
 rw [hW2]
 clear hW1 hW2
 go_wp2_with (first | (refine ldX (k := 15) HS.out.k rfl (by kernel_rfl) rfl rfl ?_))
 with_reducible refine Bm (M1.out _ HS.out.b) fun w2 b2 => ?_
 have HS := Lh (HS.out.step b2)
 clear b2
 go_wp2
 go_ret3
 exact ⟨rfl, HS.out.b⟩
theorem Ml (x y : Val) (w : World) (n m : Nat) (M1 : Hid (∀ W, Below w.heap.size w W → Ct 22 #[.agg (Af x)] (.tuple #[.float .f64 n, .int .i64 0]) W)) (M2 : Hid (∀ W, Below w.heap.size w W → Ct 22 #[.agg (Af y)] (.tuple #[.float .f64 m, .int .i64 1]) W)) :
  Ct 57 #[.agg (Af x), .agg (Af y), .func (Fn.func 22) #[] #[]] (.tuple #[.float .f64 0, .float .f64 0, .int .i64 1]) w := by
 go_enter Tryz.func57, Tryz.ntmps57
 go_upto_region 1 with fail
 obtain ⟨W1, hW1⟩ : ∃ W1, w.alloc (.cells (Af x) 24) = W1 := ⟨_, rfl⟩
 rw [hW1]
 obtain ⟨W2, hW2⟩ : ∃ W2, W1.alloc (.cells (Af y) 24) = W2 := ⟨_, rfl⟩
 have HS := Lh (T2.new hW1 hW2)
 obtain ⟨a0, a1, a2, a3, a4, d0, d1, d2, d3, d4⟩ := HS.out.cs
 rw [hW2]
 clear hW1 hW2
 go_wp2_with (first | (refine ldX (k := 15) HS.out.k rfl (by kernel_rfl) rfl rfl ?_))
 with_reducible refine Bm (M1.out _ HS.out.b) fun w2 b2 => ?_
 have HS := Lh (HS.out.step b2)
 clear b2
 go_wp2_with (first | (refine ldX (k := 26) HS.out.k2 rfl (by kernel_rfl) rfl rfl ?_))
 with_reducible refine Bm (M2.out _ HS.out.b) fun w2 b2 => ?_
 have HS := Lh (HS.out.step b2)
 clear b2
 go_wp2
 go_ret3
 exact ⟨rfl, HS.out.b⟩
theorem Oa (x y : Val) (w : World) (n m : ByteArray) (M1 : Hid (∀ W, Below w.heap.size w W → Ct 24 #[.agg (Af x)] (.tuple #[.string n, .int .i64 0]) W)) (M2 : Hid (∀ W, Below w.heap.size w W → Ct 24 #[.agg (Af y)] (.tuple #[.string m, .int .i64 0]) W)) :
  Ct 67 #[.agg (Af x), .agg (Af y), .func (Fn.func 24) #[] #[]] (.tuple #[.string n, .string m, .int .i64 0]) w := by
 go_enter Tryz.func67, Tryz.ntmps67
 go_upto_region 1 with fail
 obtain ⟨W1, hW1⟩ : ∃ W1, w.alloc (.cells (Af x) 24) = W1 := ⟨_, rfl⟩
 rw [hW1]
 obtain ⟨W2, hW2⟩ : ∃ W2, W1.alloc (.cells (Af y) 24) = W2 := ⟨_, rfl⟩
 have HS := Lh (T2.new hW1 hW2)
 obtain ⟨a0, a1, a2, a3, a4, d0, d1, d2, d3, d4⟩ := HS.out.cs
 rw [hW2]
 clear hW1 hW2
 go_wp2_with (first | (refine ldX (k := 15) HS.out.k rfl (by kernel_rfl) rfl rfl ?_))
 with_reducible refine Bm (M1.out _ HS.out.b) fun w2 b2 => ?_
 have HS := Lh (HS.out.step b2)
 clear b2
 go_wp2_with (first | (refine ldX (k := 26) HS.out.k2 rfl (by kernel_rfl) rfl rfl ?_))
 with_reducible refine Bm (M2.out _ HS.out.b) fun w2 b2 => ?_
 have HS := Lh (HS.out.step b2)
 clear b2
 go_wp2
 go_ret3
 exact ⟨rfl, HS.out.b⟩
theorem Pm (x y : Val) (w : World) (n : ByteArray) (M1 : Hid (∀ W, Below w.heap.size w W → Ct 24 #[.agg (Af x)] (.tuple #[.string n, .int .i64 1]) W)) :
  Ct 67 #[.agg (Af x), .agg (Af y), .func (Fn.func 24) #[] #[]] (.tuple #[.string ⟨#[]⟩, .string ⟨#[]⟩, .int .i64 1]) w := by
 go_enter Tryz.func67, Tryz.ntmps67
 go_upto_region 1 with fail
 obtain ⟨W1, hW1⟩ : ∃ W1, w.alloc (.cells (Af x) 24) = W1 := ⟨_, rfl⟩
 rw [hW1]
 obtain ⟨W2, hW2⟩ : ∃ W2, W1.alloc (.cells (Af y) 24) = W2 := ⟨_, rfl⟩
 have HS := Lh (T2.new hW1 hW2)
 obtain ⟨a0, a1, a2, a3, a4, d0, d1, d2, d3, d4⟩ := HS.out.cs
 rw [hW2]
 clear hW1 hW2
 go_wp2_with (first | (refine ldX (k := 15) HS.out.k rfl (by kernel_rfl) rfl rfl ?_))
 with_reducible refine Bm (M1.out _ HS.out.b) fun w2 b2 => ?_
 have HS := Lh (HS.out.step b2)
 clear b2
 go_wp2
 go_ret3
 exact ⟨rfl, HS.out.b⟩
theorem Ow (x y : Val) (w : World) (n m : ByteArray) (M1 : Hid (∀ W, Below w.heap.size w W → Ct 24 #[.agg (Af x)] (.tuple #[.string n, .int .i64 0]) W)) (M2 : Hid (∀ W, Below w.heap.size w W → Ct 24 #[.agg (Af y)] (.tuple #[.string m, .int .i64 1]) W)) :
  Ct 67 #[.agg (Af x), .agg (Af y), .func (Fn.func 24) #[] #[]] (.tuple #[.string ⟨#[]⟩, .string ⟨#[]⟩, .int .i64 1]) w := by
 go_enter Tryz.func67, Tryz.ntmps67
 go_upto_region 1 with fail
 obtain ⟨W1, hW1⟩ : ∃ W1, w.alloc (.cells (Af x) 24) = W1 := ⟨_, rfl⟩
 rw [hW1]
 obtain ⟨W2, hW2⟩ : ∃ W2, W1.alloc (.cells (Af y) 24) = W2 := ⟨_, rfl⟩
 have HS := Lh (T2.new hW1 hW2)
 obtain ⟨a0, a1, a2, a3, a4, d0, d1, d2, d3, d4⟩ := HS.out.cs
 rw [hW2]
 clear hW1 hW2
 go_wp2_with (first | (refine ldX (k := 15) HS.out.k rfl (by kernel_rfl) rfl rfl ?_))
 with_reducible refine Bm (M1.out _ HS.out.b) fun w2 b2 => ?_
 have HS := Lh (HS.out.step b2)
 clear b2
 go_wp2_with (first | (refine ldX (k := 26) HS.out.k2 rfl (by kernel_rfl) rfl rfl ?_))
 with_reducible refine Bm (M2.out _ HS.out.b) fun w2 b2 => ?_
 have HS := Lh (HS.out.step b2)
 clear b2
 go_wp2
 go_ret3
 exact ⟨rfl, HS.out.b⟩
theorem La {v : Val} (h : Al v = true) : It v = 0 := by unfold It; rw [h]; rfl
theorem Tl {v : Val} (h : Al v = false) : It v = 1 := by unfold It; rw [h]; rfl
theorem E5 {x y : Val} (mx : Ba x = true) (my : Ba y = true) (sx : x.vs.size ≤ 140737488355328) (sy : y.vs.size ≤ 140737488355328) (w : World) :
  Ct 57 #[.agg (Af x), .agg (Af y), .func (Fn.func 22) #[] #[]] (.tuple (if (Al x && Al y) = true then #[.float .f64 (At x), .float .f64 (At y), .int .i64 0] else #[.float .f64 0, .float .f64 0, .int .i64 1])) w := by
 cases g1 : Al x
 ·exact Mb x y w _ (Lh fun W _ => by have := Dv mx sx W; rw [Tl g1] at this; exact this)
 ·cases g2 : Al y
  ·exact Ml x y w _ _ (Lh fun W _ => by have := Dv mx sx W; rw [La g1] at this; exact this) (Lh fun W _ => by have := Dv my sy W; rw [Tl g2] at this; exact this)
  ·exact Mi x y w _ _ (Lh fun W _ => by have := Dv mx sx W; rw [La g1] at this; exact this) (Lh fun W _ => by have := Dv my sy W; rw [La g2] at this; exact this)
theorem Ii {x y : Val} (mx : Ba x = true) (my : Ba y = true) (nx : x.vn < 18446744073709551616) (ny : y.vn < 18446744073709551616) (w : World) (ht : Tab10 w) (hz : Dl w) :
  Ct 67 #[.agg (Af x), .agg (Af y), .func (Fn.func 24) #[] #[]] (.tuple (if (Al x && Al y) = true then #[.string (El x), .string (El y), .int .i64 0] else #[.string ⟨#[]⟩, .string ⟨#[]⟩, .int .i64 1])) w := by
 cases g1 : Al x
 ·exact Pm x y w _ (Lh fun W hW => by have := Dw mx nx W (ht.on hW) (Gi hz hW); rw [Tl g1] at this; exact this)
 ·cases g2 : Al y
  ·exact Ow x y w _ _ (Lh fun W hW => by have := Dw mx nx W (ht.on hW) (Gi hz hW); rw [La g1] at this; exact this) (Lh fun W hW => by have := Dw my ny W (ht.on hW) (Gi hz hW); rw [Tl g2] at this; exact this)
  ·exact Oa x y w _ _ (Lh fun W hW => by have := Dw mx nx W (ht.on hW) (Gi hz hW); rw [La g1] at this; exact this) (Lh fun W hW => by have := Dw my ny W (ht.on hW) (Gi hz hW); rw [La g2] at this; exact this)
theorem Wv (x y : Val) (w : World) (hK : (x.vk == y.vk) = true) : Ct 31 #[.agg (Af x), .agg (Af y)] (.tuple #[.bool (Dy x y), .int .i64 0]) w := by
 have C1 := Lh (fun W => Ly x y W)
 go_enter Tryz.func31, Tryz.ntmps31
 go_upto_region 1 with fail
 obtain ⟨W1, hW1⟩ : ∃ W1, w.alloc (.cells (Af x) 24) = W1 := ⟨_, rfl⟩
 rw [hW1]
 obtain ⟨W2, hW2⟩ : ∃ W2, W1.alloc (.cells (Af y) 24) = W2 := ⟨_, rfl⟩
 have HS := Lh (T2.new hW1 hW2)
 obtain ⟨a0, a1, a2, a3, a4, d0, d1, d2, d3, d4⟩ := HS.out.cs
 rw [hW2]
 clear hW1 hW2
 go_wp2_with (first | (refine ldX (k := 14) HS.out.k rfl (by kernel_rfl) rfl rfl ?_) | (refine ldX (k := 15) HS.out.k2 rfl (by kernel_rfl) rfl rfl ?_))
 with_reducible refine Bm (C1.out _) fun w2 b2 => ?_
 have HS := Lh (HS.out.step b2)
 clear b2
 go_wp2
 go_ret2
 exact ⟨rfl, HS.out.b⟩
theorem Acw (x y : Val) (w : World) (hK : (x.vk == y.vk) = false) (h1 : Cc x = true) (h2 : Cc y = true) : Ct 31 #[.agg (Af x), .agg (Af y)] (.tuple #[.bool true, .int .i64 0]) w := by
 have C1 := fun W => Co x W
 have C2 := fun W => Co y W
 rw [h1] at C1
 rw [h2] at C2
 clear h1 h2
 have C1 := Lh C1
 have C2 := Lh C2
 go_enter Tryz.func31, Tryz.ntmps31
 go_upto_region 1 with fail
 obtain ⟨W1, hW1⟩ : ∃ W1, w.alloc (.cells (Af x) 24) = W1 := ⟨_, rfl⟩
 rw [hW1]
 obtain ⟨W2, hW2⟩ : ∃ W2, W1.alloc (.cells (Af y) 24) = W2 := ⟨_, rfl⟩
 have HS := Lh (T2.new hW1 hW2)
 obtain ⟨a0, a1, a2, a3, a4, d0, d1, d2, d3, d4⟩ := HS.out.cs
 rw [hW2]
 clear hW1 hW2
 go_wp2_with (first | (refine ldX (k := 17) HS.out.k rfl (by kernel_rfl) rfl rfl ?_))
 with_reducible refine Bm (C1.out _) fun w2 b2 => ?_
 have HS := Lh (HS.out.step b2)
 clear b2
 go_wp2_with (first | (refine ldX (k := 23) HS.out.k rfl (by kernel_rfl) rfl rfl ?_))
 with_reducible refine Bm (C1.out _) fun w2 b2 => ?_
 have HS := Lh (HS.out.step b2)
 clear b2
 go_wp2_with (first | (refine ldX (k := 26) HS.out.k2 rfl (by kernel_rfl) rfl rfl ?_))
 with_reducible refine Bm (C2.out _) fun w2 b2 => ?_
 have HS := Lh (HS.out.step b2)
 clear b2
 go_wp2
 go_ret2
 exact ⟨rfl, HS.out.b⟩
theorem Ad3 (x y : Val) (w : World) (hK : (x.vk == y.vk) = false) (h1 : Cc x = true) (h2 : Cc y = false) : Ct 31 #[.agg (Af x), .agg (Af y)] (.tuple #[.bool false, .int .i64 0]) w := by
 have C1 := fun W => Co x W
 have C2 := fun W => Co y W
 rw [h1] at C1
 rw [h2] at C2
 clear h1 h2
 have C1 := Lh C1
 have C2 := Lh C2
 go_enter Tryz.func31, Tryz.ntmps31
 go_upto_region 1 with fail
 obtain ⟨W1, hW1⟩ : ∃ W1, w.alloc (.cells (Af x) 24) = W1 := ⟨_, rfl⟩
 rw [hW1]
 obtain ⟨W2, hW2⟩ : ∃ W2, W1.alloc (.cells (Af y) 24) = W2 := ⟨_, rfl⟩
 have HS := Lh (T2.new hW1 hW2)
 obtain ⟨a0, a1, a2, a3, a4, d0, d1, d2, d3, d4⟩ := HS.out.cs
 rw [hW2]
 clear hW1 hW2
 go_wp2_with (first | (refine ldX (k := 17) HS.out.k rfl (by kernel_rfl) rfl rfl ?_))
 with_reducible refine Bm (C1.out _) fun w2 b2 => ?_
 have HS := Lh (HS.out.step b2)
 clear b2
 go_wp2_with (first | (refine ldX (k := 23) HS.out.k rfl (by kernel_rfl) rfl rfl ?_))
 with_reducible refine Bm (C1.out _) fun w2 b2 => ?_
 have HS := Lh (HS.out.step b2)
 clear b2
 go_wp2_with (first | (refine ldX (k := 26) HS.out.k2 rfl (by kernel_rfl) rfl rfl ?_))
 with_reducible refine Bm (C2.out _) fun w2 b2 => ?_
 have HS := Lh (HS.out.step b2)
 clear b2
 go_wp2
 go_ret2
 exact ⟨rfl, HS.out.b⟩
theorem Acm (x y : Val) (w : World) (hK : (x.vk == y.vk) = false) (h1 : Cc x = false) (h2 : Cc y = true) : Ct 31 #[.agg (Af x), .agg (Af y)] (.tuple #[.bool false, .int .i64 0]) w := by
 have C1 := fun W => Co x W
 have C2 := fun W => Co y W
 rw [h1] at C1
 rw [h2] at C2
 clear h1 h2
 have C1 := Lh C1
 have C2 := Lh C2
 go_enter Tryz.func31, Tryz.ntmps31
 go_upto_region 1 with fail
 obtain ⟨W1, hW1⟩ : ∃ W1, w.alloc (.cells (Af x) 24) = W1 := ⟨_, rfl⟩
 rw [hW1]
 obtain ⟨W2, hW2⟩ : ∃ W2, W1.alloc (.cells (Af y) 24) = W2 := ⟨_, rfl⟩
 have HS := Lh (T2.new hW1 hW2)
 obtain ⟨a0, a1, a2, a3, a4, d0, d1, d2, d3, d4⟩ := HS.out.cs
 rw [hW2]
 clear hW1 hW2
 go_wp2_with (first | (refine ldX (k := 17) HS.out.k rfl (by kernel_rfl) rfl rfl ?_))
 with_reducible refine Bm (C1.out _) fun w2 b2 => ?_
 have HS := Lh (HS.out.step b2)
 clear b2
 go_wp2_with (first | (refine ldX (k := 20) HS.out.k2 rfl (by kernel_rfl) rfl rfl ?_))
 with_reducible refine Bm (C2.out _) fun w2 b2 => ?_
 have HS := Lh (HS.out.step b2)
 clear b2
 go_wp2_with (first | (refine ldX (k := 23) HS.out.k rfl (by kernel_rfl) rfl rfl ?_))
 with_reducible refine Bm (C1.out _) fun w2 b2 => ?_
 have HS := Lh (HS.out.step b2)
 clear b2
 go_wp2
 go_ret2
 exact ⟨rfl, HS.out.b⟩
theorem Adi (x y : Val) (w : World) (mx : Ba x = true) (my : Ba y = true) (sx : x.vs.size ≤ 140737488355328) (sy : y.vs.size ≤ 140737488355328) (hK : (x.vk == y.vk) = false) (h1 : Cc x = false) (h2 : Cc y = false) (hO : (Al x && Al y) = true) : Ct 31 #[.agg (Af x), .agg (Af y)] (.tuple #[.bool (oeq (At x) (At y)), .int .i64 0]) w := by
 have C1 := fun W => Co x W
 have C2 := fun W => Co y W
 rw [h1] at C1
 rw [h2] at C2
 clear h1 h2
 have C1 := Lh C1
 have C2 := Lh C2
 have M := fun W => E5 mx my sx sy W
 rw [hO] at M
 clear mx my sx sy hO
 simp only [if_true] at M
 obtain ⟨n, hn⟩ : ∃ n, At x = n := ⟨_, rfl⟩
 obtain ⟨m, hm⟩ : ∃ n, At y = n := ⟨_, rfl⟩
 rw [hn] at M ⊢
 rw [hm] at M ⊢
 clear hn hm
 have C3 := Lh (fun W => Pf n m W)
 obtain ⟨B, hB⟩ : ∃ B, oeq n m = B := ⟨_, rfl⟩
 rw [hB] at C3 ⊢
 clear hB
 have M := Lh M
 go_enter Tryz.func31, Tryz.ntmps31
 go_upto_region 1 with fail
 obtain ⟨W1, hW1⟩ : ∃ W1, w.alloc (.cells (Af x) 24) = W1 := ⟨_, rfl⟩
 rw [hW1]
 obtain ⟨W2, hW2⟩ : ∃ W2, W1.alloc (.cells (Af y) 24) = W2 := ⟨_, rfl⟩
 have HS := Lh (T2.new hW1 hW2)
 obtain ⟨a0, a1, a2, a3, a4, d0, d1, d2, d3, d4⟩ := HS.out.cs
 rw [hW2]
 clear hW1 hW2
 go_wp2_with (first | (refine ldX (k := 17) HS.out.k rfl (by kernel_rfl) rfl rfl ?_))
 with_reducible refine Bm (C1.out _) fun w2 b2 => ?_
 have HS := Lh (HS.out.step b2)
 clear b2
 go_wp2_with (first | (refine ldX (k := 20) HS.out.k2 rfl (by kernel_rfl) rfl rfl ?_))
 with_reducible refine Bm (C2.out _) fun w2 b2 => ?_
 have HS := Lh (HS.out.step b2)
 clear b2
 go_wp2_with (first | (refine ldX (k := 30) HS.out.k rfl (by kernel_rfl) rfl rfl ?_) | (refine ldX (k := 31) HS.out.k2 rfl (by kernel_rfl) rfl rfl ?_))
 with_reducible refine Bm (M.out _) fun w2 b2 => ?_
 have HS := Lh (HS.out.step b2)
 clear b2
 go_wp2_with fail
 refine Sm (C3.out _) ?_
 go_wp2
 go_ret2
 exact ⟨rfl, HS.out.b⟩
theorem Aew (x y : Val) (w : World) (mx : Ba x = true) (my : Ba y = true) (sx : x.vs.size ≤ 140737488355328) (sy : y.vs.size ≤ 140737488355328) (hK : (x.vk == y.vk) = false) (h1 : Cc x = false) (h2 : Cc y = false) (hO : (Al x && Al y) = false) : Ct 31 #[.agg (Af x), .agg (Af y)] (.tuple #[.bool false, .int .i64 1]) w := by
 have C1 := fun W => Co x W
 have C2 := fun W => Co y W
 rw [h1] at C1
 rw [h2] at C2
 clear h1 h2
 have C1 := Lh C1
 have C2 := Lh C2
 have M := fun W => E5 mx my sx sy W
 rw [hO] at M
 clear mx my sx sy hO
 simp only [Bool.false_eq_true, if_false] at M
 have M := Lh M
 go_enter Tryz.func31, Tryz.ntmps31
 go_upto_region 1 with fail
 obtain ⟨W1, hW1⟩ : ∃ W1, w.alloc (.cells (Af x) 24) = W1 := ⟨_, rfl⟩
 rw [hW1]
 obtain ⟨W2, hW2⟩ : ∃ W2, W1.alloc (.cells (Af y) 24) = W2 := ⟨_, rfl⟩
 have HS := Lh (T2.new hW1 hW2)
 obtain ⟨a0, a1, a2, a3, a4, d0, d1, d2, d3, d4⟩ := HS.out.cs
 rw [hW2]
 clear hW1 hW2
 go_wp2_with (first | (refine ldX (k := 17) HS.out.k rfl (by kernel_rfl) rfl rfl ?_))
 with_reducible refine Bm (C1.out _) fun w2 b2 => ?_
 have HS := Lh (HS.out.step b2)
 clear b2
 go_wp2_with (first | (refine ldX (k := 20) HS.out.k2 rfl (by kernel_rfl) rfl rfl ?_))
 with_reducible refine Bm (C2.out _) fun w2 b2 => ?_
 have HS := Lh (HS.out.step b2)
 clear b2
 go_wp2_with (first | (refine ldX (k := 30) HS.out.k rfl (by kernel_rfl) rfl rfl ?_) | (refine ldX (k := 31) HS.out.k2 rfl (by kernel_rfl) rfl rfl ?_))
 with_reducible refine Bm (M.out _) fun w2 b2 => ?_
 have HS := Lh (HS.out.step b2)
 clear b2
 go_wp2
 go_ret2
 exact ⟨rfl, HS.out.b⟩
theorem Zp {x y : Val} (mx : Ba x = true) (my : Ba y = true) (sx : x.vs.size ≤ 140737488355328) (sy : y.vs.size ≤ 140737488355328) (w : World) : Ct 31 #[Am x, Am y] (.tuple #[.bool (Hx x y).1, .int .i64 (Hx x y).2]) w := by
 unfold Hx
 by_cases hk : x.vk = y.vk
 ·rw [if_pos hk]
  exact Wv x y w (by simpa using hk)
 ·have hK : (x.vk == y.vk) = false := by simpa using hk
  rw [if_neg hk]
  cases h1 : Cc x
  ·cases h2 : Cc y
   ·rw [if_neg (by simp)]
    cases hO : (Al x && Al y)
    ·rw [if_neg (by simp)]
     exact Aew x y w mx my sx sy hK h1 h2 hO
    ·rw [if_pos rfl]
     exact Adi x y w mx my sx sy hK h1 h2 hO
   ·rw [if_pos (by simp)]
    exact Acm x y w hK h1 h2
  ·cases h2 : Cc y
   ·rw [if_pos (by simp)]
    exact Ad3 x y w hK h1 h2
   ·rw [if_pos (by simp)]
    exact Acw x y w hK h1 h2
theorem Afe (x y : Val) (w : World) (sx : x.vs.size ≤ 140737488355328) (sy : y.vs.size ≤ 140737488355328) (hK : (x.vk == 4) = true) (hJ : (y.vk == 4) = true) (hC : Gr (us x.vs) (us y.vs) < 0) : Ct 33 #[.agg (Af x), .agg (Af y)] (.tuple #[.int .i64 1, .int .i64 0]) w := by
 have C1 := fun W => L6 x.vs y.vs W (Nat.le_trans sx (by unfold maxLen; omega)) (Nat.le_trans sy (by unfold maxLen; omega))
 obtain ⟨c, hc⟩ : ∃ c, Gr (us x.vs) (us y.vs) = c := ⟨_, rfl⟩
 rw [hc] at C1 hC
 clear hc sx sy
 have C1 := Lh C1
 go_enter Tryz.func33, Tryz.ntmps33
 go_upto_region 1 with fail
 obtain ⟨W1, hW1⟩ : ∃ W1, w.alloc (.cells (Af x) 24) = W1 := ⟨_, rfl⟩
 rw [hW1]
 obtain ⟨W2, hW2⟩ : ∃ W2, W1.alloc (.cells (Af y) 24) = W2 := ⟨_, rfl⟩
 have HS := Lh (T2.new hW1 hW2)
 obtain ⟨a0, a1, a2, a3, a4, d0, d1, d2, d3, d4⟩ := HS.out.cs
 rw [hW2]
 clear hW1 hW2
 go_wp2_with fail
 refine Sm (C1.out _) ?_
 go_wp2
 go_ret2
 exact ⟨rfl, HS.out.b⟩
theorem Aeo (x y : Val) (w : World) (sx : x.vs.size ≤ 140737488355328) (sy : y.vs.size ≤ 140737488355328) (hK : (x.vk == 4) = true) (hJ : (y.vk == 4) = true) (hC : ¬ Gr (us x.vs) (us y.vs) < 0) : Ct 33 #[.agg (Af x), .agg (Af y)] (.tuple #[.int .i64 0, .int .i64 0]) w := by
 have C1 := fun W => L6 x.vs y.vs W (Nat.le_trans sx (by unfold maxLen; omega)) (Nat.le_trans sy (by unfold maxLen; omega))
 obtain ⟨c, hc⟩ : ∃ c, Gr (us x.vs) (us y.vs) = c := ⟨_, rfl⟩
 rw [hc] at C1 hC
 clear hc sx sy
 have C1 := Lh C1
 go_enter Tryz.func33, Tryz.ntmps33
 go_upto_region 1 with fail
 obtain ⟨W1, hW1⟩ : ∃ W1, w.alloc (.cells (Af x) 24) = W1 := ⟨_, rfl⟩
 rw [hW1]
 obtain ⟨W2, hW2⟩ : ∃ W2, W1.alloc (.cells (Af y) 24) = W2 := ⟨_, rfl⟩
 have HS := Lh (T2.new hW1 hW2)
 obtain ⟨a0, a1, a2, a3, a4, d0, d1, d2, d3, d4⟩ := HS.out.cs
 rw [hW2]
 clear hW1 hW2
 go_wp2_with fail
 refine Sm (C1.out _) ?_
 go_wp2
 go_ret2
 exact ⟨rfl, HS.out.b⟩
theorem Zl (x y : Val) (w : World) (mx : Ba x = true) (my : Ba y = true) (sx : x.vs.size ≤ 140737488355328) (sy : y.vs.size ≤ 140737488355328) (hK : (x.vk == 4) = false) (hO : (Al x && Al y) = true) : Ct 33 #[.agg (Af x), .agg (Af y)] (.tuple #[.int .i64 (Iw (At x) (At y)), .int .i64 0]) w := by
 have M := fun W => E5 mx my sx sy W
 rw [hO] at M
 clear mx my sx sy hO
 simp only [if_true] at M
 obtain ⟨n, hn⟩ : ∃ n, At x = n := ⟨_, rfl⟩
 obtain ⟨m, hm⟩ : ∃ n, At y = n := ⟨_, rfl⟩
 rw [hn] at M ⊢
 rw [hm] at M ⊢
 clear hn hm
 have C3 := Lh (fun W => Rq n m W)
 obtain ⟨B, hB⟩ : ∃ B, Iw n m = B := ⟨_, rfl⟩
 rw [hB] at C3 ⊢
 clear hB
 have M := Lh M
 go_enter Tryz.func33, Tryz.ntmps33
 go_upto_region 1 with fail
 obtain ⟨W1, hW1⟩ : ∃ W1, w.alloc (.cells (Af x) 24) = W1 := ⟨_, rfl⟩
 rw [hW1]
 obtain ⟨W2, hW2⟩ : ∃ W2, W1.alloc (.cells (Af y) 24) = W2 := ⟨_, rfl⟩
 have HS := Lh (T2.new hW1 hW2)
 obtain ⟨a0, a1, a2, a3, a4, d0, d1, d2, d3, d4⟩ := HS.out.cs
 rw [hW2]
 clear hW1 hW2
 go_wp2_with (first | (refine ldX (k := 24) HS.out.k rfl (by kernel_rfl) rfl rfl ?_) | (refine ldX (k := 25) HS.out.k2 rfl (by kernel_rfl) rfl rfl ?_))
 with_reducible refine Bm (M.out _) fun w2 b2 => ?_
 have HS := Lh (HS.out.step b2)
 clear b2
 go_wp2_with fail
 refine Sm (C3.out _) ?_
 go_wp2
 go_ret2
 exact ⟨rfl, HS.out.b⟩
theorem Adc (x y : Val) (w : World) (mx : Ba x = true) (my : Ba y = true) (sx : x.vs.size ≤ 140737488355328) (sy : y.vs.size ≤ 140737488355328) (hK : (x.vk == 4) = false) (hO : (Al x && Al y) = false) : Ct 33 #[.agg (Af x), .agg (Af y)] (.tuple #[.int .i64 0, .int .i64 1]) w := by
 have M := fun W => E5 mx my sx sy W
 rw [hO] at M
 clear mx my sx sy hO
 simp only [Bool.false_eq_true, if_false] at M
 have M := Lh M
 go_enter Tryz.func33, Tryz.ntmps33
 go_upto_region 1 with fail
 obtain ⟨W1, hW1⟩ : ∃ W1, w.alloc (.cells (Af x) 24) = W1 := ⟨_, rfl⟩
 rw [hW1]
 obtain ⟨W2, hW2⟩ : ∃ W2, W1.alloc (.cells (Af y) 24) = W2 := ⟨_, rfl⟩
 have HS := Lh (T2.new hW1 hW2)
 obtain ⟨a0, a1, a2, a3, a4, d0, d1, d2, d3, d4⟩ := HS.out.cs
 rw [hW2]
 clear hW1 hW2
 go_wp2_with (first | (refine ldX (k := 24) HS.out.k rfl (by kernel_rfl) rfl rfl ?_) | (refine ldX (k := 25) HS.out.k2 rfl (by kernel_rfl) rfl rfl ?_))
 with_reducible refine Bm (M.out _) fun w2 b2 => ?_
 have HS := Lh (HS.out.step b2)
 clear b2
 go_wp2
 go_ret2
 exact ⟨rfl, HS.out.b⟩
theorem Zc (x y : Val) (w : World) (mx : Ba x = true) (my : Ba y = true) (sx : x.vs.size ≤ 140737488355328) (sy : y.vs.size ≤ 140737488355328) (hK : (x.vk == 4) = true) (hJ : (y.vk == 4) = false) (hO : (Al x && Al y) = true) : Ct 33 #[.agg (Af x), .agg (Af y)] (.tuple #[.int .i64 (Iw (At x) (At y)), .int .i64 0]) w := by
 have M := fun W => E5 mx my sx sy W
 rw [hO] at M
 clear mx my sx sy hO
 simp only [if_true] at M
 obtain ⟨n, hn⟩ : ∃ n, At x = n := ⟨_, rfl⟩
 obtain ⟨m, hm⟩ : ∃ n, At y = n := ⟨_, rfl⟩
 rw [hn] at M ⊢
 rw [hm] at M ⊢
 clear hn hm
 have C3 := Lh (fun W => Rq n m W)
 obtain ⟨B, hB⟩ : ∃ B, Iw n m = B := ⟨_, rfl⟩
 rw [hB] at C3 ⊢
 clear hB
 have M := Lh M
 go_enter Tryz.func33, Tryz.ntmps33
 go_upto_region 1 with fail
 obtain ⟨W1, hW1⟩ : ∃ W1, w.alloc (.cells (Af x) 24) = W1 := ⟨_, rfl⟩
 rw [hW1]
 obtain ⟨W2, hW2⟩ : ∃ W2, W1.alloc (.cells (Af y) 24) = W2 := ⟨_, rfl⟩
 have HS := Lh (T2.new hW1 hW2)
 obtain ⟨a0, a1, a2, a3, a4, d0, d1, d2, d3, d4⟩ := HS.out.cs
 rw [hW2]
 clear hW1 hW2
 go_wp2_with (first | (refine ldX (k := 24) HS.out.k rfl (by kernel_rfl) rfl rfl ?_) | (refine ldX (k := 25) HS.out.k2 rfl (by kernel_rfl) rfl rfl ?_))
 with_reducible refine Bm (M.out _) fun w2 b2 => ?_
 have HS := Lh (HS.out.step b2)
 clear b2
 go_wp2_with fail
 refine Sm (C3.out _) ?_
 go_wp2
 go_ret2
 exact ⟨rfl, HS.out.b⟩
theorem Acz (x y : Val) (w : World) (mx : Ba x = true) (my : Ba y = true) (sx : x.vs.size ≤ 140737488355328) (sy : y.vs.size ≤ 140737488355328) (hK : (x.vk == 4) = true) (hJ : (y.vk == 4) = false) (hO : (Al x && Al y) = false) : Ct 33 #[.agg (Af x), .agg (Af y)] (.tuple #[.int .i64 0, .int .i64 1]) w := by
 have M := fun W => E5 mx my sx sy W
 rw [hO] at M
 clear mx my sx sy hO
 simp only [Bool.false_eq_true, if_false] at M
 have M := Lh M
 go_enter Tryz.func33, Tryz.ntmps33
 go_upto_region 1 with fail
 obtain ⟨W1, hW1⟩ : ∃ W1, w.alloc (.cells (Af x) 24) = W1 := ⟨_, rfl⟩
 rw [hW1]
 obtain ⟨W2, hW2⟩ : ∃ W2, W1.alloc (.cells (Af y) 24) = W2 := ⟨_, rfl⟩
 have HS := Lh (T2.new hW1 hW2)
 obtain ⟨a0, a1, a2, a3, a4, d0, d1, d2, d3, d4⟩ := HS.out.cs
 rw [hW2]
 clear hW1 hW2
 go_wp2_with (first | (refine ldX (k := 24) HS.out.k rfl (by kernel_rfl) rfl rfl ?_) | (refine ldX (k := 25) HS.out.k2 rfl (by kernel_rfl) rfl rfl ?_))
 with_reducible refine Bm (M.out _) fun w2 b2 => ?_
 have HS := Lh (HS.out.step b2)
 clear b2
 go_wp2
 go_ret2
 exact ⟨rfl, HS.out.b⟩
theorem Ab1 {v : Val} (h : v.vk = 4) : Al v = true := by unfold Al; rw [h]; decide
theorem Aed {x y : Val} (mx : Ba x = true) (my : Ba y = true) (sx : x.vs.size ≤ 140737488355328) (sy : y.vs.size ≤ 140737488355328) (w : World) : Ct 33 #[Am x, Am y] (.tuple #[.int .i64 (Lr x y).1, .int .i64 (Lr x y).2]) w := by
 unfold Lr
 by_cases hx : x.vk = 4
 ·have hK : (x.vk == 4) = true := by simpa using hx
  by_cases hy : y.vk = 4
  ·have hJ : (y.vk == 4) = true := by simpa using hy
   rw [Ab1 hx, Ab1 hy, if_pos (by rfl)]
   dsimp only
   rw [if_pos ⟨hx, hy⟩]
   by_cases hC : Gr (us x.vs) (us y.vs) < 0
   ·rw [if_pos hC]
    exact Afe x y w sx sy hK hJ hC
   ·rw [if_neg hC]
    exact Aeo x y w sx sy hK hJ hC
  ·have hJ : (y.vk == 4) = false := by simpa using hy
   cases hO : (Al x && Al y)
   ·rw [if_neg (by simp)]
    exact Acz x y w mx my sx sy hK hJ hO
   ·rw [if_pos rfl]
    dsimp only
    rw [if_neg (fun k => hy k.2)]
    exact Zc x y w mx my sx sy hK hJ hO
 ·have hK : (x.vk == 4) = false := by simpa using hx
  cases hO : (Al x && Al y)
  ·rw [if_neg (by simp)]
   exact Adc x y w mx my sx sy hK hO
  ·rw [if_pos rfl]
   dsimp only
   rw [if_neg (fun k => hx k.1)]
   exact Zl x y w mx my sx sy hK hO
theorem Agc (x y : Val) (w : World) (mx : Ba x = true) (my : Ba y = true) (sx : x.vs.size ≤ 140737488355328) (sy : y.vs.size ≤ 140737488355328) (hK : (x.vk == 4) = false) (hJ : (y.vk == 4) = false) (hO : (Al x && Al y) = true) : Ct 39 #[.agg (Af x), .agg (Af y)] (.tuple #[Am (Px (Alc (At x) (At y))), .int .i64 0]) w := by
 have M := fun W => E5 mx my sx sy W
 rw [hO] at M
 clear mx my sx sy hO
 simp only [if_true] at M
 obtain ⟨n, hn⟩ : ∃ n, At x = n := ⟨_, rfl⟩
 obtain ⟨m, hm⟩ : ∃ n, At y = n := ⟨_, rfl⟩
 rw [hn] at M ⊢
 rw [hm] at M ⊢
 clear hn hm
 have M := Lh M
 have CN := Lh (fun r W => Xi r W)
 go_enter Tryz.func39, Tryz.ntmps39
 go_upto_region 1 with fail
 rw [Fz]
 obtain ⟨W1, hW1⟩ : ∃ W1, w.alloc (.cells (Af x) 24) = W1 := ⟨_, rfl⟩
 rw [hW1]
 obtain ⟨W2, hW2⟩ : ∃ W2, W1.alloc (.cells (Af y) 24) = W2 := ⟨_, rfl⟩
 rw [hW2]
 obtain ⟨W3, hW3⟩ : ∃ W3, W2.alloc (.cells (Af vZ) 24) = W3 := ⟨_, rfl⟩
 have HS := Lh (T3.new hW1 hW2 hW3)
 obtain ⟨a0, a1, a2, a3, a4, d0, d1, d2, d3, d4⟩ := HS.out.cs
 rw [hW3]
 clear hW1 hW2 hW3
 go_wp2_with (first | (refine ldX (k := 36) HS.out.k rfl (by kernel_rfl) rfl rfl ?_) | (refine ldX (k := 37) HS.out.k2 rfl (by kernel_rfl) rfl rfl ?_))
 with_reducible refine Bm (M.out _) fun w2 b2 => ?_
 have HS := Lh (HS.out.step b2)
 clear b2
 obtain ⟨r, d, h1, h2⟩ := Aj9 n m w2
 have H2 := Lh h2
 clear h2
 go_wp2_with fail
 with_reducible refine Bm (CN.out _ _) fun w3 b3 => ?_
 have HT := Lh ((HS.out.drewN d).step b3)
 clear HS b3 a0 a1 a2 a3 a4 d0 d1 d2 d3 d4 h1
 have HR := Lh (HT.out.row (Af (Px (cn r))))
 go_wp2_with (refine vlS rfl rfl (w.heap.size + 2) 3 false (cn r) ⟨#[]⟩ 0 rfl rfl HT.out.kr ?_)
 refine Aem rfl rfl HR.out.1 rfl rfl ⟨by rw [← H2.out]; rfl, HR.out.2⟩
theorem Ahv (x y : Val) (w : World) (mx : Ba x = true) (my : Ba y = true) (sx : x.vs.size ≤ 140737488355328) (sy : y.vs.size ≤ 140737488355328) (hK : (x.vk == 4) = false) (hJ : (y.vk == 4) = false) (hO : (Al x && Al y) = false) : Ct 39 #[.agg (Af x), .agg (Af y)] (.tuple #[Am vZ, .int .i64 1]) w := by
 have M := fun W => E5 mx my sx sy W
 rw [hO] at M
 clear mx my sx sy hO
 simp only [Bool.false_eq_true, if_false] at M
 have M := Lh M
 go_enter Tryz.func39, Tryz.ntmps39
 go_upto_region 1 with fail
 rw [Fz]
 obtain ⟨W1, hW1⟩ : ∃ W1, w.alloc (.cells (Af x) 24) = W1 := ⟨_, rfl⟩
 rw [hW1]
 obtain ⟨W2, hW2⟩ : ∃ W2, W1.alloc (.cells (Af y) 24) = W2 := ⟨_, rfl⟩
 rw [hW2]
 obtain ⟨W3, hW3⟩ : ∃ W3, W2.alloc (.cells (Af vZ) 24) = W3 := ⟨_, rfl⟩
 have HS := Lh (T3.new hW1 hW2 hW3)
 obtain ⟨a0, a1, a2, a3, a4, d0, d1, d2, d3, d4⟩ := HS.out.cs
 rw [hW3]
 clear hW1 hW2 hW3
 go_wp2_with (first | (refine ldX (k := 36) HS.out.k rfl (by kernel_rfl) rfl rfl ?_) | (refine ldX (k := 37) HS.out.k2 rfl (by kernel_rfl) rfl rfl ?_))
 with_reducible refine Bm (M.out _) fun w2 b2 => ?_
 have HS := Lh (HS.out.step b2)
 clear b2
 have HR := Lh (HS.out.row (Af vZ))
 go_wp2_with (refine vlS rfl rfl (w.heap.size + 2) 0 false 0 ⟨#[]⟩ 0 rfl rfl HS.out.kr ?_)
 refine Aem rfl rfl HR.out.1 rfl rfl ⟨rfl, HR.out.2⟩
theorem Aet (x y : Val) (w : World) (mx : Ba x = true) (my : Ba y = true) (sx : x.vs.size ≤ 140737488355328) (sy : y.vs.size ≤ 140737488355328) (nx : x.vn < 18446744073709551616) (ny : y.vn < 18446744073709551616) (ht : Tab10 w) (hz : Dl w) (hK : (x.vk == 4) = false) (hJ : (y.vk == 4) = true) (hO : (Al x && Al y) = true) : Ct 39 #[.agg (Af x), .agg (Af y)] (.tuple #[Am (Jz (wh (El x ++ El y))), .int .i64 0]) w := by
 have M := fun W (hW : Below w.heap.size w W) => Ii mx my nx ny W (ht.on hW) (Gi hz hW)
 rw [hO] at M
 have z1 := Gn mx sx
 have z2 := Gn my sy
 clear mx my sx sy nx ny ht hz hO
 simp only [if_true] at M
 obtain ⟨s, hs⟩ : ∃ s, El x = s := ⟨_, rfl⟩
 obtain ⟨t, ht⟩ : ∃ s, El y = s := ⟨_, rfl⟩
 rw [hs] at M z1 ⊢
 rw [ht] at M z2 ⊢
 clear hs ht
 have CS := Lh (fun W => Lo (s ++ t) W (by rw [ByteArray.size_append]; unfold maxLen; omega))
 have z3 : ¬ 9223372036854775807 < s.size + t.size := by omega
 clear z1 z2
 have M := Lh M
 go_enter Tryz.func39, Tryz.ntmps39
 go_upto_region 1 with fail
 rw [Fz]
 obtain ⟨W1, hW1⟩ : ∃ W1, w.alloc (.cells (Af x) 24) = W1 := ⟨_, rfl⟩
 rw [hW1]
 obtain ⟨W2, hW2⟩ : ∃ W2, W1.alloc (.cells (Af y) 24) = W2 := ⟨_, rfl⟩
 rw [hW2]
 obtain ⟨W3, hW3⟩ : ∃ W3, W2.alloc (.cells (Af vZ) 24) = W3 := ⟨_, rfl⟩
 have HS := Lh (T3.new hW1 hW2 hW3)
 obtain ⟨a0, a1, a2, a3, a4, d0, d1, d2, d3, d4⟩ := HS.out.cs
 rw [hW3]
 clear hW1 hW2 hW3
 go_wp2_with (first | (refine ldX (k := 21) HS.out.k rfl (by kernel_rfl) rfl rfl ?_) | (refine ldX (k := 22) HS.out.k2 rfl (by kernel_rfl) rfl rfl ?_))
 with_reducible refine Bm (M.out _ HS.out.b) fun w2 b2 => ?_
 have HS := Lh (HS.out.step b2)
 clear b2
 go_wp2_with fail
 with_reducible refine Bm (CS.out _) fun w3 b3 => ?_
 have HT := Lh (HS.out.step b3)
 clear HS b3 a0 a1 a2 a3 a4 d0 d1 d2 d3 d4
 have HR := Lh (HT.out.row (Af (Jz (wh (s ++ t)))))
 go_wp2_with (refine vlS rfl rfl (w.heap.size + 2) 4 false 0 (wh (s ++ t)) 0 rfl rfl HT.out.kr ?_)
 refine Aem rfl rfl HR.out.1 rfl rfl ⟨rfl, HR.out.2⟩
theorem Aez (x y : Val) (w : World) (mx : Ba x = true) (my : Ba y = true) (_ : x.vs.size ≤ 140737488355328) (_ : y.vs.size ≤ 140737488355328) (nx : x.vn < 18446744073709551616) (ny : y.vn < 18446744073709551616) (ht : Tab10 w) (hz : Dl w) (hK : (x.vk == 4) = false) (hJ : (y.vk == 4) = true) (hO : (Al x && Al y) = false) : Ct 39 #[.agg (Af x), .agg (Af y)] (.tuple #[Am vZ, .int .i64 1]) w := by
 have M := fun W (hW : Below w.heap.size w W) => Ii mx my nx ny W (ht.on hW) (Gi hz hW)
 rw [hO] at M
 clear mx my nx ny ht hz hO
 simp only [Bool.false_eq_true, if_false] at M
 have M := Lh M
 go_enter Tryz.func39, Tryz.ntmps39
 go_upto_region 1 with fail
 rw [Fz]
 obtain ⟨W1, hW1⟩ : ∃ W1, w.alloc (.cells (Af x) 24) = W1 := ⟨_, rfl⟩
 rw [hW1]
 obtain ⟨W2, hW2⟩ : ∃ W2, W1.alloc (.cells (Af y) 24) = W2 := ⟨_, rfl⟩
 rw [hW2]
 obtain ⟨W3, hW3⟩ : ∃ W3, W2.alloc (.cells (Af vZ) 24) = W3 := ⟨_, rfl⟩
 have HS := Lh (T3.new hW1 hW2 hW3)
 obtain ⟨a0, a1, a2, a3, a4, d0, d1, d2, d3, d4⟩ := HS.out.cs
 rw [hW3]
 clear hW1 hW2 hW3
 go_wp2_with (first | (refine ldX (k := 21) HS.out.k rfl (by kernel_rfl) rfl rfl ?_) | (refine ldX (k := 22) HS.out.k2 rfl (by kernel_rfl) rfl rfl ?_))
 with_reducible refine Bm (M.out _ HS.out.b) fun w2 b2 => ?_
 have HS := Lh (HS.out.step b2)
 clear b2
 have HR := Lh (HS.out.row (Af vZ))
 go_wp2_with (refine vlS rfl rfl (w.heap.size + 2) 0 false 0 ⟨#[]⟩ 0 rfl rfl HS.out.kr ?_)
 refine Aem rfl rfl HR.out.1 rfl rfl ⟨rfl, HR.out.2⟩
theorem Aef (x y : Val) (w : World) (mx : Ba x = true) (my : Ba y = true) (sx : x.vs.size ≤ 140737488355328) (sy : y.vs.size ≤ 140737488355328) (nx : x.vn < 18446744073709551616) (ny : y.vn < 18446744073709551616) (ht : Tab10 w) (hz : Dl w) (hK : (x.vk == 4) = true) (hO : (Al x && Al y) = true) : Ct 39 #[.agg (Af x), .agg (Af y)] (.tuple #[Am (Jz (wh (El x ++ El y))), .int .i64 0]) w := by
 have M := fun W (hW : Below w.heap.size w W) => Ii mx my nx ny W (ht.on hW) (Gi hz hW)
 rw [hO] at M
 have z1 := Gn mx sx
 have z2 := Gn my sy
 clear mx my sx sy nx ny ht hz hO
 simp only [if_true] at M
 obtain ⟨s, hs⟩ : ∃ s, El x = s := ⟨_, rfl⟩
 obtain ⟨t, ht⟩ : ∃ s, El y = s := ⟨_, rfl⟩
 rw [hs] at M z1 ⊢
 rw [ht] at M z2 ⊢
 clear hs ht
 have CS := Lh (fun W => Lo (s ++ t) W (by rw [ByteArray.size_append]; unfold maxLen; omega))
 have z3 : ¬ 9223372036854775807 < s.size + t.size := by omega
 clear z1 z2
 have M := Lh M
 go_enter Tryz.func39, Tryz.ntmps39
 go_upto_region 1 with fail
 rw [Fz]
 obtain ⟨W1, hW1⟩ : ∃ W1, w.alloc (.cells (Af x) 24) = W1 := ⟨_, rfl⟩
 rw [hW1]
 obtain ⟨W2, hW2⟩ : ∃ W2, W1.alloc (.cells (Af y) 24) = W2 := ⟨_, rfl⟩
 rw [hW2]
 obtain ⟨W3, hW3⟩ : ∃ W3, W2.alloc (.cells (Af vZ) 24) = W3 := ⟨_, rfl⟩
 have HS := Lh (T3.new hW1 hW2 hW3)
 obtain ⟨a0, a1, a2, a3, a4, d0, d1, d2, d3, d4⟩ := HS.out.cs
 rw [hW3]
 clear hW1 hW2 hW3
 go_wp2_with (first | (refine ldX (k := 21) HS.out.k rfl (by kernel_rfl) rfl rfl ?_) | (refine ldX (k := 22) HS.out.k2 rfl (by kernel_rfl) rfl rfl ?_))
 with_reducible refine Bm (M.out _ HS.out.b) fun w2 b2 => ?_
 have HS := Lh (HS.out.step b2)
 clear b2
 go_wp2_with fail
 with_reducible refine Bm (CS.out _) fun w3 b3 => ?_
 have HT := Lh (HS.out.step b3)
 clear HS b3 a0 a1 a2 a3 a4 d0 d1 d2 d3 d4
 have HR := Lh (HT.out.row (Af (Jz (wh (s ++ t)))))
 go_wp2_with (refine vlS rfl rfl (w.heap.size + 2) 4 false 0 (wh (s ++ t)) 0 rfl rfl HT.out.kr ?_)
 refine Aem rfl rfl HR.out.1 rfl rfl ⟨rfl, HR.out.2⟩
theorem Adt (x y : Val) (w : World) (mx : Ba x = true) (my : Ba y = true) (_ : x.vs.size ≤ 140737488355328) (_ : y.vs.size ≤ 140737488355328) (nx : x.vn < 18446744073709551616) (ny : y.vn < 18446744073709551616) (ht : Tab10 w) (hz : Dl w) (hK : (x.vk == 4) = true) (hO : (Al x && Al y) = false) : Ct 39 #[.agg (Af x), .agg (Af y)] (.tuple #[Am vZ, .int .i64 1]) w := by
 have M := fun W (hW : Below w.heap.size w W) => Ii mx my nx ny W (ht.on hW) (Gi hz hW)
 rw [hO] at M
 clear mx my nx ny ht hz hO
 simp only [Bool.false_eq_true, if_false] at M
 have M := Lh M
 go_enter Tryz.func39, Tryz.ntmps39
 go_upto_region 1 with fail
 rw [Fz]
 obtain ⟨W1, hW1⟩ : ∃ W1, w.alloc (.cells (Af x) 24) = W1 := ⟨_, rfl⟩
 rw [hW1]
 obtain ⟨W2, hW2⟩ : ∃ W2, W1.alloc (.cells (Af y) 24) = W2 := ⟨_, rfl⟩
 rw [hW2]
 obtain ⟨W3, hW3⟩ : ∃ W3, W2.alloc (.cells (Af vZ) 24) = W3 := ⟨_, rfl⟩
 have HS := Lh (T3.new hW1 hW2 hW3)
 obtain ⟨a0, a1, a2, a3, a4, d0, d1, d2, d3, d4⟩ := HS.out.cs
 rw [hW3]
 clear hW1 hW2 hW3
 go_wp2_with (first | (refine ldX (k := 21) HS.out.k rfl (by kernel_rfl) rfl rfl ?_) | (refine ldX (k := 22) HS.out.k2 rfl (by kernel_rfl) rfl rfl ?_))
 with_reducible refine Bm (M.out _ HS.out.b) fun w2 b2 => ?_
 have HS := Lh (HS.out.step b2)
 clear b2
 have HR := Lh (HS.out.row (Af vZ))
 go_wp2_with (refine vlS rfl rfl (w.heap.size + 2) 0 false 0 ⟨#[]⟩ 0 rfl rfl HS.out.kr ?_)
 refine Aem rfl rfl HR.out.1 rfl rfl ⟨rfl, HR.out.2⟩
theorem Ah1 {x y : Val} (mx : Ba x = true) (my : Ba y = true) (sx : x.vs.size ≤ 140737488355328) (sy : y.vs.size ≤ 140737488355328) (nx : x.vn < 18446744073709551616) (ny : y.vn < 18446744073709551616) (w : World) (ht : Tab10 w) (hz : Dl w) : Cp 39 #[Am x, Am y] w fun e w' => e = An7 x y ∧ Below w.heap.size w w' := by
 unfold An7
 cases hK : (x.vk == 4)
 ·cases hJ : (y.vk == 4)
  ·cases hO : (Al x && Al y)
   ·rw [if_neg (by simp)]
    exact Ahv x y w mx my sx sy hK hJ hO
   ·rw [if_pos rfl, if_neg (by simp)]
    exact Agc x y w mx my sx sy hK hJ hO
  ·cases hO : (Al x && Al y)
   ·rw [if_neg (by simp)]
    exact Aez x y w mx my sx sy nx ny ht hz hK hJ hO
   ·rw [if_pos rfl, if_pos (by simp)]
    exact Aet x y w mx my sx sy nx ny ht hz hK hJ hO
 ·cases hO : (Al x && Al y)
  ·rw [if_neg (by simp)]
   exact Adt x y w mx my sx sy nx ny ht hz hK hO
  ·rw [if_pos rfl, if_pos (by simp)]
   exact Aef x y w mx my sx sy nx ny ht hz hK hO
end
section
theorem Aof (a : Act) (v : Value) : a.put none v = a := rfl
theorem Adp : An7 (Jz (wdS [97])) Ai4 = .returned (.tuple #[Am (Jz (wdS [97, 110, 117, 108, 108])), .int .i64 0]) := by
 have h1 : wh (wdS [97] ++ wNul) = wdS [97, 110, 117, 108, 108] := by decide +kernel
 show (Ending.returned (.tuple #[Am (Jz (wh (wdS [97] ++ wNul))), .int .i64 0])) = _
 rw [h1]
structure Blk4 (w W : World) (X : Nat) (B : ByteArray) : Prop where
 k : W.heap[X]? = some (.cells #[.int .i64 4, .bool false, .float .f64 0, .string B, .int .i64 0] 24 (0, 0))
 l : X < W.heap.size
 b : Below w.heap.size w W
theorem Blk4.step {w W W' : World} {X : Nat} {B : ByteArray} (h : Blk4 w W X B) (hb : Below W.heap.size W W') : Blk4 w W' X B := ⟨(hb.block X h.l).trans h.k, Nat.lt_of_lt_of_le h.l hb.size, Aa h.b hb⟩
theorem Blk4.drew {w W : World} {X : Nat} {B : ByteArray} (h : Blk4 w W X B) : Blk4 w W.drew X B := ⟨h.k, h.l, Ad h.b 1⟩
theorem Blk4.cs {w W : World} {X : Nat} {B : ByteArray} (h : Blk4 w W X B) : W.cell? ⟨X, 0, none⟩ = some (.int .i64 4) ∧ W.cell? ⟨X, 3, none⟩ = some (.string B) :=
 ⟨(cell_of_row W X 0 _ _ _ h.k).trans rfl, (cell_of_row W X 3 _ _ _ h.k).trans rfl⟩
theorem Hu (w : World) (ht : Tab10 w) (hz : Dl w) : Ct 11 #[] (.bool true) w := by
 have C1 := Lh (fun W => (show Cp 43 #[.string ⟨#[97]⟩] W fun e w' => e = .returned (.string (wdS [97])) ∧ Below W.heap.size W w' from Acd [97] W rfl (by decide)))
 have C3 := Lh (fun W => (show Cp 43 #[.string ⟨#[97, 110, 117, 108, 108]⟩] W fun e w' => e = .returned (.string (wdS [97, 110, 117, 108, 108])) ∧ Below W.heap.size W w' from Acd [97, 110, 117, 108, 108] W rfl (by decide)))
 have C2 : ∀ W, Below w.heap.size w W → Ct 39 #[Am (Jz (wdS [97])), Am Ai4] (.tuple #[Am (Jz (wdS [97, 110, 117, 108, 108])), .int .i64 0]) W := fun W hW => by
  have := Ah1 (x := Jz (wdS [97])) (y := Ai4) (by decide +kernel) (by decide +kernel) (by decide +kernel) (by decide +kernel) (by decide) (by decide) W (ht.on hW) (Gi hz hW)
  rw [Adp] at this
  exact this
 have C2 := Lh C2
 obtain ⟨A, hA⟩ : ∃ A, wdS [97] = A := ⟨_, rfl⟩
 obtain ⟨B, hB⟩ : ∃ A, wdS [97, 110, 117, 108, 108] = A := ⟨_, rfl⟩
 rw [hA] at C1 C2
 rw [hB] at C2 C3
 clear hA hB ht hz
 simp only [Am, Jz, Ai4] at C2
 go_enter Tryz.func11, Tryz.ntmps11
 go_wp2_with fail
 refine Bm (C1.out _) fun w2 b2 => ?_
 have B2 := Lh b2
 clear b2
 go_wp2_with fail
 with_reducible refine Bm (C2.out _ B2.out) fun w3 b3 => ?_
 have B3 := Lh (Aa B2.out b3)
 clear b3
 go_upto_region 2 with (refine vlS rfl rfl w3.heap.size 4 false 0 B 0 rfl rfl (heap_alloc_last w3 _) ?_; rw [World.setRow_alloc_new])
 have HX := Lh (show Blk4 w (w3.alloc (.cells #[.int .i64 4, .bool false, .float .f64 0, .string B, .int .i64 0] 24)) w3.heap.size B from ⟨heap_alloc_last w3 _, by simp, Fd _ B3.out⟩)
 generalize w3.alloc (.cells #[.int .i64 4, .bool false, .float .f64 0, .string B, .int .i64 0] 24) = w4 at *
 generalize w3.heap.size = X at *
 (try simp only [Aof])
 refine wp_region_held_drew (S := fun wx => Blk4 w wx X B) (by kernel_rfl) (HX.out.drew) (fun hHeld => ?_)
 refine Tg 0 rfl rfl ?_; simp only [Ai]
 refine Tg 1 rfl rfl ?_; simp only [Ai]
 refine Tg 2 rfl rfl ?_; simp only [Ai]
 refine Tg 3 rfl rfl ?_; simp only [Ai]
 refine Tk 4 rfl rfl (Or.inl ⟨by rfl, by (intro w hS; have c := hS.cs.1; go_simp; try with_reducible rfl)⟩) ?_; simp only [Ai]
 refine Tg 5 rfl rfl ?_; simp only [Ai]
 refine Tg 6 rfl rfl ?_; simp only [Ai]
 refine Tg 7 rfl rfl ?_; simp only [Ai]
 refine Tg 8 rfl rfl ?_; simp only [Ai]
 refine Tk 9 rfl rfl (Or.inl ⟨by rfl, by (intro w hS; have c := hS.cs.2; go_simp; try with_reducible rfl)⟩) ?_; simp only [Ai]
 refine Iz (i := 10) (by kernel_rfl) rfl rfl (by rfl) (fun K hK => ?_)
 go_simp
 with_reducible refine Bm (C3.out _) fun w5 b5 => ?_
 have hHe2 := hHeld.step b5
 clear hHeld b5
 refine hK.out _ _ hHe2 ?_; clear hK K; simp only [Ai]
 have hHeld := hHe2; clear hHe2
 refine Tg 11 rfl rfl ?_; simp only [Ai]
 refine Tg 12 rfl rfl ?_; simp only [Ai]
 refine Tg 13 rfl rfl ?_; simp only [Ai]
 refine wpAnyH_done (by kernel_rfl) ?_ _
 have HS := Lh hHeld
 go_wp2
 go_ret
 exact ⟨rfl, HS.out.b⟩
end
section
theorem Ov (x y : Val) (w : World) (ht : Tab10 w) (hz : Dl w) (hm : Ba x = false) : Ct 6 #[Am x, Am y] (.bool true) w := by
 have CW : ∀ W, Below w.heap.size w W → Ct 11 #[] (.bool true) W := fun W hW => Hu W (ht.on hW) (Gi hz hW)
 have CW := Lh CW
 have CM := fun W => Gz x W
 have CK := fun W => Gz y W
 rw [hm] at CM
 clear CK
 clear ht hz
 have e_x := show Am x = .agg (Af x) from rfl
 have e_y := show Am y = .agg (Af y) from rfl
 rw [e_x] at CM ⊢
 rw [e_y]
 clear e_x e_y
 have CM := Lh CM
 go_enter Tryz.func6, Tryz.ntmps6
 go_upto_region 1 with fail
 obtain ⟨W1, hW1⟩ : ∃ W1, w.alloc (.cells (Af x) 24) = W1 := ⟨_, rfl⟩
 rw [hW1]
 obtain ⟨W2, hW2⟩ : ∃ W2, W1.alloc (.cells (Af y) 24) = W2 := ⟨_, rfl⟩
 have HS := Lh (T2.new hW1 hW2)
 obtain ⟨a0, a1, a2, a3, a4, d0, d1, d2, d3, d4⟩ := HS.out.cs
 rw [hW2]
 clear hW1 hW2
 go_wp2_with (first | (refine ldX (k := 13) HS.out.k rfl (by kernel_rfl) rfl rfl ?_))
 with_reducible refine Bm (CM.out _) fun w2 b2 => ?_
 have HT := HS; clear HS
 have HS := Lh (HT.out.step b2)
 clear HT b2 a0 a1 a2 a3 a4 d0 d1 d2 d3 d4
 obtain ⟨a0, a1, a2, a3, a4, d0, d1, d2, d3, d4⟩ := HS.out.cs
 go_wp2_with fail
 with_reducible refine Bm (CW.out _ HS.out.b) fun w2 b2 => ?_
 have HT := HS; clear HS
 have HS := Lh (HT.out.step b2)
 clear HT b2 a0 a1 a2 a3 a4 d0 d1 d2 d3 d4
 obtain ⟨a0, a1, a2, a3, a4, d0, d1, d2, d3, d4⟩ := HS.out.cs
 go_wp2
 go_ret
 exact ⟨rfl, HS.out.b⟩
theorem Pb (x y : Val) (w : World) (ht : Tab10 w) (hz : Dl w) (hm : Ba x = true) (hk : Ba y = false) : Ct 6 #[Am x, Am y] (.bool true) w := by
 have CW : ∀ W, Below w.heap.size w W → Ct 11 #[] (.bool true) W := fun W hW => Hu W (ht.on hW) (Gi hz hW)
 have CW := Lh CW
 have CM := fun W => Gz x W
 have CK := fun W => Gz y W
 rw [hm] at CM
 rw [hk] at CK
 clear ht hz
 have e_x := show Am x = .agg (Af x) from rfl
 have e_y := show Am y = .agg (Af y) from rfl
 rw [e_x] at CM ⊢
 rw [e_y] at CK ⊢
 clear e_x e_y
 have CM := Lh CM
 have CK := Lh CK
 go_enter Tryz.func6, Tryz.ntmps6
 go_upto_region 1 with fail
 obtain ⟨W1, hW1⟩ : ∃ W1, w.alloc (.cells (Af x) 24) = W1 := ⟨_, rfl⟩
 rw [hW1]
 obtain ⟨W2, hW2⟩ : ∃ W2, W1.alloc (.cells (Af y) 24) = W2 := ⟨_, rfl⟩
 have HS := Lh (T2.new hW1 hW2)
 obtain ⟨a0, a1, a2, a3, a4, d0, d1, d2, d3, d4⟩ := HS.out.cs
 rw [hW2]
 clear hW1 hW2
 go_wp2_with (first | (refine ldX (k := 13) HS.out.k rfl (by kernel_rfl) rfl rfl ?_))
 with_reducible refine Bm (CM.out _) fun w2 b2 => ?_
 have HT := HS; clear HS
 have HS := Lh (HT.out.step b2)
 clear HT b2 a0 a1 a2 a3 a4 d0 d1 d2 d3 d4
 obtain ⟨a0, a1, a2, a3, a4, d0, d1, d2, d3, d4⟩ := HS.out.cs
 go_wp2_with (first | (refine ldX (k := 17) HS.out.k2 rfl (by kernel_rfl) rfl rfl ?_))
 with_reducible refine Bm (CK.out _) fun w2 b2 => ?_
 have HT := HS; clear HS
 have HS := Lh (HT.out.step b2)
 clear HT b2 a0 a1 a2 a3 a4 d0 d1 d2 d3 d4
 obtain ⟨a0, a1, a2, a3, a4, d0, d1, d2, d3, d4⟩ := HS.out.cs
 go_wp2_with fail
 with_reducible refine Bm (CW.out _ HS.out.b) fun w2 b2 => ?_
 have HT := HS; clear HS
 have HS := Lh (HT.out.step b2)
 clear HT b2 a0 a1 a2 a3 a4 d0 d1 d2 d3 d4
 obtain ⟨a0, a1, a2, a3, a4, d0, d1, d2, d3, d4⟩ := HS.out.cs
 go_wp2
 go_ret
 exact ⟨rfl, HS.out.b⟩
theorem N8 (x y : Val) (w : World) (ht : Tab10 w) (hz : Dl w) (nx : x.vn < 18446744073709551616) (ny : y.vn < 18446744073709551616) (sx : x.vs.size ≤ 140737488355328) (sy : y.vs.size ≤ 140737488355328) (hm : Ba x = true) (hk : Ba y = true) : Ct 6 #[Am x, Am y] (.bool true) w := by
 have CW : ∀ W, Below w.heap.size w W → Ct 11 #[] (.bool true) W := fun W hW => Hu W (ht.on hW) (Gi hz hW)
 have CW := Lh CW
 have CM := fun W => Gz x W
 have CK := fun W => Gz y W
 rw [hm] at CM
 rw [hk] at CK
 have EL := fun W => Zp hm hk sx sy W
 have FL := fun W => Aar hm hk sx sy W
 have EQ := fun W => Aed hm hk sx sy W
 have FQ := fun W => Acn hm hk sx sy W
 have ES := fun W => X8 hm hk W
 have FS := fun W => Lx x y W
 have ET := fun W => Afl hm hk nx ny W
 have FT := fun W => Adh x y W nx ny
 obtain ⟨la, h_la⟩ : ∃ v, (Hx x y).1 = v := ⟨_, rfl⟩
 rw [h_la] at EL FL
 clear h_la
 obtain ⟨le, h_le⟩ : ∃ v, (Hx x y).2 = v := ⟨_, rfl⟩
 rw [h_le] at EL FL
 clear h_le
 obtain ⟨qn, h_qn⟩ : ∃ v, (Lr x y).1 = v := ⟨_, rfl⟩
 rw [h_qn] at EQ FQ
 clear h_qn
 obtain ⟨qe, h_qe⟩ : ∃ v, (Lr x y).2 = v := ⟨_, rfl⟩
 rw [h_qe] at EQ FQ
 clear h_qe
 obtain ⟨st, h_st⟩ : ∃ v, Dy x y = v := ⟨_, rfl⟩
 rw [h_st] at ES FS
 clear h_st
 obtain ⟨sm, h_sm⟩ : ∃ v, Ny x y = v := ⟨_, rfl⟩
 rw [h_sm] at ET FT
 clear h_sm
 clear ht hz nx ny sx sy hm hk
 have e_x := show Am x = .agg (Af x) from rfl
 have e_y := show Am y = .agg (Af y) from rfl
 rw [e_x] at CM ⊢
 rw [e_y] at CK ⊢
 rw [e_x] at EL
 rw [e_y] at EL
 rw [e_x] at FL
 rw [e_y] at FL
 rw [e_x] at EQ
 rw [e_y] at EQ
 rw [e_x] at FQ
 rw [e_y] at FQ
 rw [e_x] at ES
 rw [e_y] at ES
 rw [e_x] at FS
 rw [e_y] at FS
 rw [e_x] at ET
 rw [e_y] at ET
 rw [e_x] at FT
 rw [e_y] at FT
 clear e_x e_y
 have CM := Lh CM
 have CK := Lh CK
 have EL := Lh EL
 have FL := Lh FL
 have EQ := Lh EQ
 have FQ := Lh FQ
 have ES := Lh ES
 have FS := Lh FS
 have ET := Lh ET
 have FT := Lh FT
 go_enter Tryz.func6, Tryz.ntmps6
 go_upto_region 1 with fail
 obtain ⟨W1, hW1⟩ : ∃ W1, w.alloc (.cells (Af x) 24) = W1 := ⟨_, rfl⟩
 rw [hW1]
 obtain ⟨W2, hW2⟩ : ∃ W2, W1.alloc (.cells (Af y) 24) = W2 := ⟨_, rfl⟩
 have HS := Lh (T2.new hW1 hW2)
 obtain ⟨a0, a1, a2, a3, a4, d0, d1, d2, d3, d4⟩ := HS.out.cs
 rw [hW2]
 clear hW1 hW2
 go_wp2_with (first | (refine ldX (k := 13) HS.out.k rfl (by kernel_rfl) rfl rfl ?_))
 with_reducible refine Bm (CM.out _) fun w2 b2 => ?_
 have HT := HS; clear HS
 have HS := Lh (HT.out.step b2)
 clear HT b2 a0 a1 a2 a3 a4 d0 d1 d2 d3 d4
 obtain ⟨a0, a1, a2, a3, a4, d0, d1, d2, d3, d4⟩ := HS.out.cs
 go_wp2_with (first | (refine ldX (k := 17) HS.out.k2 rfl (by kernel_rfl) rfl rfl ?_))
 with_reducible refine Bm (CK.out _) fun w2 b2 => ?_
 have HT := HS; clear HS
 have HS := Lh (HT.out.step b2)
 clear HT b2 a0 a1 a2 a3 a4 d0 d1 d2 d3 d4
 obtain ⟨a0, a1, a2, a3, a4, d0, d1, d2, d3, d4⟩ := HS.out.cs
 go_wp2_with (first | (refine ldX (k := 23) HS.out.k rfl (by kernel_rfl) rfl rfl ?_) | (refine ldX (k := 24) HS.out.k2 rfl (by kernel_rfl) rfl rfl ?_))
 with_reducible refine Bm (EL.out _) fun w2 b2 => ?_
 have HT := HS; clear HS
 have HS := Lh (HT.out.step b2)
 clear HT b2 a0 a1 a2 a3 a4 d0 d1 d2 d3 d4
 obtain ⟨a0, a1, a2, a3, a4, d0, d1, d2, d3, d4⟩ := HS.out.cs
 go_wp2_with (first | (refine ldX (k := 29) HS.out.k rfl (by kernel_rfl) rfl rfl ?_) | (refine ldX (k := 30) HS.out.k2 rfl (by kernel_rfl) rfl rfl ?_))
 with_reducible refine Bm (FL.out _) fun w2 b2 => ?_
 have HT := HS; clear HS
 have HS := Lh (HT.out.step b2)
 clear HT b2 a0 a1 a2 a3 a4 d0 d1 d2 d3 d4
 obtain ⟨a0, a1, a2, a3, a4, d0, d1, d2, d3, d4⟩ := HS.out.cs
 go_wp2_with (first | (refine ldX (k := 35) HS.out.k rfl (by kernel_rfl) rfl rfl ?_) | (refine ldX (k := 36) HS.out.k2 rfl (by kernel_rfl) rfl rfl ?_))
 with_reducible refine Bm (EQ.out _) fun w2 b2 => ?_
 have HT := HS; clear HS
 have HS := Lh (HT.out.step b2)
 clear HT b2 a0 a1 a2 a3 a4 d0 d1 d2 d3 d4
 obtain ⟨a0, a1, a2, a3, a4, d0, d1, d2, d3, d4⟩ := HS.out.cs
 go_wp2_with (first | (refine ldX (k := 41) HS.out.k rfl (by kernel_rfl) rfl rfl ?_) | (refine ldX (k := 42) HS.out.k2 rfl (by kernel_rfl) rfl rfl ?_))
 with_reducible refine Bm (FQ.out _) fun w2 b2 => ?_
 have HT := HS; clear HS
 have HS := Lh (HT.out.step b2)
 clear HT b2 a0 a1 a2 a3 a4 d0 d1 d2 d3 d4
 obtain ⟨a0, a1, a2, a3, a4, d0, d1, d2, d3, d4⟩ := HS.out.cs
 go_upto_region 7 with fail
 refine wp_region_held_drew (S := fun wx => T2 w wx x y) (by kernel_rfl) (HS.out.drew) (fun hHeld => ?_)
 clear HS a0 a1 a2 a3 a4 d0 d1 d2 d3 d4
 refine Tk 0 rfl rfl (Or.inl ⟨by rfl, fun w hS => Gh hS.k rfl rfl⟩) ?_; simp only [Ai]
 refine Tk 1 rfl rfl (Or.inl ⟨by rfl, fun w hS => Gh hS.k2 rfl rfl⟩) ?_; simp only [Ai]
 refine Tk 3 rfl rfl (Or.inl ⟨by rfl, fun w hS => Gh hS.k rfl rfl⟩) ?_; simp only [Ai]
 refine Tk 4 rfl rfl (Or.inl ⟨by rfl, fun w hS => Gh hS.k2 rfl rfl⟩) ?_; simp only [Ai]
 refine Iz (i := 2) (by kernel_rfl) rfl rfl (by rfl) (fun K hK => ?_)
 go_simp
 with_reducible refine Bm (ES.out _) fun w2 b2 => ?_
 have hHe2 := hHeld.step b2
 clear hHeld b2
 refine hK.out _ _ hHe2 ?_; clear hK K; simp only [Ai]
 have hHeld := hHe2; clear hHe2
 refine Iz (i := 5) (by kernel_rfl) rfl rfl (by rfl) (fun K hK => ?_)
 go_simp
 with_reducible refine Bm (FS.out _) fun w2 b2 => ?_
 have hHe2 := hHeld.step b2
 clear hHeld b2
 refine hK.out _ _ hHe2 ?_; clear hK K; simp only [Ai]
 have hHeld := hHe2; clear hHe2
 refine Tg 6 rfl rfl ?_; simp only [Ai]
 refine Tg 7 rfl rfl ?_; simp only [Ai]
 refine Tk 8 rfl rfl (Or.inl ⟨by rfl, fun w hS => Gh hS.k rfl rfl⟩) ?_; simp only [Ai]
 refine Tk 9 rfl rfl (Or.inl ⟨by rfl, fun w hS => Gh hS.k2 rfl rfl⟩) ?_; simp only [Ai]
 refine Tk 11 rfl rfl (Or.inl ⟨by rfl, fun w hS => Gh hS.k rfl rfl⟩) ?_; simp only [Ai]
 refine Tk 12 rfl rfl (Or.inl ⟨by rfl, fun w hS => Gh hS.k2 rfl rfl⟩) ?_; simp only [Ai]
 refine Iz (i := 10) (by kernel_rfl) rfl rfl (by rfl) (fun K hK => ?_)
 go_simp
 with_reducible refine Bm (ET.out _) fun w2 b2 => ?_
 have hHe2 := hHeld.step b2
 clear hHeld b2
 refine hK.out _ _ hHe2 ?_; clear hK K; simp only [Ai]
 have hHeld := hHe2; clear hHe2
 refine Iz (i := 13) (by kernel_rfl) rfl rfl (by rfl) (fun K hK => ?_)
 go_simp
 with_reducible refine Bm (FT.out _) fun w2 b2 => ?_
 have hHe2 := hHeld.step b2
 clear hHeld b2
 refine hK.out _ _ hHe2 ?_; clear hK K; simp only [Ai]
 have hHeld := hHe2; clear hHe2
 refine Tg 14 rfl rfl ?_; simp only [Ai]
 refine Tg 15 rfl rfl ?_; simp only [Ai]
 refine Tg 16 rfl rfl ?_; simp only [Ai]
 refine Tg 17 rfl rfl ?_; simp only [Ai]
 refine Tg 18 rfl rfl ?_; simp only [Ai]
 refine Tg 19 rfl rfl ?_; simp only [Ai]
 refine Tg 20 rfl rfl ?_; simp only [Ai]
 refine Tg 21 rfl rfl ?_; simp only [Ai]
 refine Tg 22 rfl rfl ?_; simp only [Ai]
 refine Tg 23 rfl rfl ?_; simp only [Ai]
 refine Tg 24 rfl rfl ?_; simp only [Ai]
 refine Tg 25 rfl rfl ?_; simp only [Ai]
 refine Tg 26 rfl rfl ?_; simp only [Ai]
 refine Tg 27 rfl rfl ?_; simp only [Ai]
 refine Tg 28 rfl rfl ?_; simp only [Ai]
 refine Tg 29 rfl rfl ?_; simp only [Ai]
 refine Tg 30 rfl rfl ?_; simp only [Ai]
 refine Tg 31 rfl rfl ?_; simp only [Ai]
 refine Tg 32 rfl rfl ?_; simp only [Ai]
 refine Tg 33 rfl rfl ?_; simp only [Ai]
 refine Tg 34 rfl rfl ?_; simp only [Ai]
 refine Tg 35 rfl rfl ?_; simp only [Ai]
 refine Tg 36 rfl rfl ?_; simp only [Ai]
 refine Iz (i := 37) (by kernel_rfl) rfl rfl (by rfl) (fun K hK => ?_)
 go_simp
 with_reducible refine Bm (CW.out _ hHeld.b) fun w2 b2 => ?_
 have hHe2 := hHeld.step b2
 clear hHeld b2
 refine hK.out _ _ hHe2 ?_; clear hK K; simp only [Ai]
 have hHeld := hHe2; clear hHe2
 refine Tg 38 rfl rfl ?_; simp only [Ai]
 refine Tg 39 rfl rfl ?_; simp only [Ai]
 refine wpAnyH_done (by kernel_rfl) ?_ _
 have HS := Lh hHeld
 clear hHeld
 go_wp2
 go_ret
 exact ⟨rfl, HS.out.b⟩
theorem Oq (x y : Val) (w : World) (ht : Tab10 w) (hz : Dl w) (nx : x.vn < 18446744073709551616) (ny : y.vn < 18446744073709551616) (sx : x.vs.size ≤ 140737488355328) (sy : y.vs.size ≤ 140737488355328) : Ct 6 #[Am x, Am y] (.bool true) w := by
 cases hm : Ba x
 ·exact Ov x y w ht hz hm
 ·cases hk : Ba y
  ·exact Pb x y w ht hz hm hk
  ·exact N8 x y w ht hz nx ny sx sy hm hk
end
section
open Go.ChangeShapes Go.WideShapes Go.ChangeAt Go.RowKit Go.Joins
section
variable {H : Type} {enc : TypeId × Value → H} {w : World} {base : Nat} {spare : Nat → Bool} {held : Bool}
def Aht (v : Val) : Array Value := #[.int .i64 v.vk, .bool v.vb, .float .f64 v.vn, .string v.vs, .int .i64 v.vo]
def Ae4 (v : Val) : DataW H := .agg [.lit (.int .i64 v.vk), .lit (.bool v.vb), .lit (.float .f64 v.vn), .lit (.string v.vs.data.toList), .lit (.int .i64 v.vo)]
structure wfV (v : Val) : Prop where
 k : (Lit.int .i64 v.vk).wf = true
 n : (Lit.float .f64 v.vn).wf = true
 s : v.vs.size ≤ maxLen
 o : (Lit.int .i64 v.vo).wf = true
theorem wfV.num {v : Val} (h : wfV v) : v.vn < 18446744073709551616 := by
 have := h.n
 simp only [Lit.wf, decide_eq_true_eq] at this
 exact this
theorem Ux {P : Program} {t : TypeId} {k : FloatKind} {fuel : Nat} {cs : List Value} {x : DataW H × List MemPlace} (ht : P.underlying t = some (.float k)) (h : DataW.trod enc P w base spare held fuel t cs = some x) :
  ∃ b, cs = [.float k b] ∧ x = (.lit (.float k b), []) ∧ (Lit.float k b).wf = true := by
 cases fuel with
 | zero => simp [DataW.trod] at h
 | succ n =>
  unfold DataW.trod at h
  rw [ht] at h
  split at h <;> simp_all
theorem Aor {fuel : Nat} {cs : List Value} {x : DataW H × List MemPlace} (h : DataW.trod enc Tryz.prog w base spare held fuel 24 cs = some x) : ∃ v, cs = (Aht v).toList ∧ x = (Ae4 v, []) ∧ wfV v := by
 obtain ⟨xs, n, rfl, rfl, hl, hlen, hf⟩ := DataW.trod_struct Tryz.underlying24 h
 have ci : Tryz.prog.cellsOf 3 = 1 := by kernel_rfl
 have cb : Tryz.prog.cellsOf 4 = 1 := by kernel_rfl
 have cf : Tryz.prog.cellsOf 22 = 1 := by kernel_rfl
 have cst : Tryz.prog.cellsOf 9 = 1 := by kernel_rfl
 rw [show Tryz.prog.cellsOf 24 = 5 by kernel_rfl] at hl
 match cs, hl with
 | [c0, c1, c2, c3, c4], _ =>
  match xs, hlen with
  | [y0, y1, y2, y3, y4], _ =>
   have g0 : DataW.trod enc Tryz.prog w base spare held n 3 [c0] = some y0 := by
    have q := hf 0 _ rfl
    have e : ([c0, c1, c2, c3, c4].drop 0).take (Tryz.prog.cellsOf 3) = [c0] := by rw [ci]; rfl
    rw [← e]
    exact q
   have g1 : DataW.trod enc Tryz.prog w base spare held n 4 [c1] = some y1 := by
    have q := hf 1 _ rfl
    have e : ([c0, c1, c2, c3, c4].drop 1).take (Tryz.prog.cellsOf 4) = [c1] := by rw [cb]; rfl
    rw [← e]
    exact q
   have g2 : DataW.trod enc Tryz.prog w base spare held n 22 [c2] = some y2 := by
    have q := hf 2 _ rfl
    have e : ([c0, c1, c2, c3, c4].drop 2).take (Tryz.prog.cellsOf 22) = [c2] := by rw [cf]; rfl
    rw [← e]
    exact q
   have g3 : DataW.trod enc Tryz.prog w base spare held n 9 [c3] = some y3 := by
    have q := hf 3 _ rfl
    have e : ([c0, c1, c2, c3, c4].drop 3).take (Tryz.prog.cellsOf 9) = [c3] := by rw [cst]; rfl
    rw [← e]
    exact q
   have g4 : DataW.trod enc Tryz.prog w base spare held n 3 [c4] = some y4 := by
    have q := hf 4 _ rfl
    have e : ([c0, c1, c2, c3, c4].drop 4).take (Tryz.prog.cellsOf 3) = [c4] := by rw [ci]; rfl
    rw [← e]
    exact q
   obtain ⟨k, e0, rfl, w0⟩ := DataW.trod_int Tryz.underlying3 g0
   obtain ⟨b, e1, rfl⟩ := DataW.trod_bool Tryz.underlying4 g1
   obtain ⟨m, e2, rfl, w2⟩ := Ux Tryz.underlying22 g2
   obtain ⟨s, e3, rfl, w3⟩ := DataW.trod_string Tryz.underlying9 g3
   obtain ⟨o, e4, rfl, w4⟩ := DataW.trod_int Tryz.underlying3 g4
   simp only [List.cons.injEq, and_true] at e0 e1 e2 e3 e4
   subst e0 e1 e2 e3 e4
   exact ⟨⟨k, b, m, s, o⟩, rfl, rfl, ⟨w0, w2, w3, w4⟩⟩
theorem Aju {v : Val} (hw : wfV v) : DataW.trod enc Tryz.prog w base spare held 2 24 (Aht v).toList = some (Ae4 v, []) := by
 have ci : Tryz.prog.cellsOf 3 = 1 := by kernel_rfl
 have cb : Tryz.prog.cellsOf 4 = 1 := by kernel_rfl
 have cf : Tryz.prog.cellsOf 22 = 1 := by kernel_rfl
 have cst : Tryz.prog.cellsOf 9 = 1 := by kernel_rfl
 have := trod_struct_mk (enc := enc) (w := w) (base := base) (spare := spare) (held := held) (n := 1) (cs := (Aht v).toList) (xs := [(.lit (.int .i64 v.vk), []), (.lit (.bool v.vb), []), (.lit (.float .f64 v.vn), []), (.lit (.string v.vs.data.toList), []), (.lit (.int .i64 v.vo), [])]) Tryz.underlying24 (by rw [show Tryz.prog.cellsOf 24 = 5 by kernel_rfl]; rfl)
  (by simp [Aht, ci, cb, cf, cst, DataW.trod, Tryz.underlying3, Tryz.underlying4, Tryz.underlying22, Tryz.underlying9, hw.k, hw.n, hw.s, hw.o])
 exact this
theorem Vx {r : Reach} {b0 : Nat} {v : Value} {d : DataW H} {p : List MemPlace} (hv : Value.okWide Tryz.prog w r b0 24 v) (h : DataW.Trod enc Tryz.prog w base spare held 24 v d p) : ∃ x : Val, v = Am x ∧ d = Ae4 x ∧ p = [] ∧ wfV x := by
 obtain ⟨cs, rfl, _⟩ := okWide_struct Tryz.underlying24 hv
 obtain ⟨fuel, hf⟩ := h
 obtain ⟨x, e1, e2, hw⟩ := Aor hf
 obtain rfl : cs = Aht x := Array.toList_inj.1 e1
 cases e2
 exact ⟨x, rfl, rfl, rfl, hw⟩
theorem Vz {x : Val} (hw : wfV x) : DataW.Trod enc Tryz.prog w base spare held 24 (Am x) (Ae4 x) [] := ⟨2, Aju hw⟩
end
end
section
open Go.ChangeShapes Go.WideShapes Go.ChangeAt Go.RowKit Go.Joins
theorem Rn {H : Type} {ts : List TypeId} {ds : List (DataW H)} (h : (DataW.weightsEach Tryz.prog ts ds).all (· ≤ reachBytes) = true) {j : Nat} {x : Val} (ht : ts[j]? = some 24) (hd : ds[j]? = some (Ae4 x)) : x.vs.size ≤ 140737488355328 := by
 have := List.all_eq_true.1 h _ (DataW.weights_mem_each ht hd x.vs.data.toList.length (by simp [Ae4, DataW.weights, DataW.weightsEach, Tryz.underlying24]))
 have e : reachBytes = 140737488351232 := rfl
 rw [e] at this
 rw [Lib.size_eq]
 have := of_decide_eq_true this
 omega
end
end Go.Proofs.YtmakhfekiieneaaGreatDoor
