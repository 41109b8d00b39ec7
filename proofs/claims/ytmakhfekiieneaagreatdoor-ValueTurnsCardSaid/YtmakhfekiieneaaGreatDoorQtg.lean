/-
  Merged texts (Vn, Vo, Lp, Ya, Yb, Yc, Yd, Ye, Yf, Yg, Yh, Yi, H1, Ad, H2, H3, P1, P3, H4, H5, Oa, Ob).
-/
import Derived.Test.YtmakhfekiieneaaGreatDoorQtf
import Derived.Laws.Cover2
import Derived.ShutString
import Derived.Lib.SmallJoins
open Go.RowKit
set_option maxRecDepth 100000
set_option maxHeartbeats 40000000
namespace Go.Proofs.YtmakhfekiieneaaGreatDoor
section
def Y4 (r : Nat) : Nat := Op.negFloat .f64 r
end
section
theorem Ajn (s t b : ByteArray) (w : World)
  (CT : Hid (∀ W, Ct 76 #[.string s] (.string t) W))
  (CB : Hid (∀ W, Ct 75 #[.string t] (.string b) W)) (t0 : ((b.size : Int) == 0) = true) :
  Ct 51 #[.string s] (.float .f64 0) w := by
 have B0 := Lh (Below.refl w.heap.size w)
 go_enter Tryz.func51, Tryz.ntmps51
 go_wp2_with fail
 refine Bm (CT.out _) fun w1 b1 => ?_
 have B1 := Lh (Aa B0.out b1)
 clear b1
 go_wp2_with fail
 refine Bm (CB.out _) fun w2 b2 => ?_
 have B2 := Lh (Aa B1.out b2)
 clear b2
 go_wp2
 go_ret
 exact ⟨rfl, B2.out⟩
theorem Alx (s t b : ByteArray) (x : Nat) (w : World)
  (CT : Hid (∀ W, Ct 76 #[.string s] (.string t) W))
  (CB : Hid (∀ W, Ct 75 #[.string t] (.string b) W))
  (CX : Hid (∀ W, Ct 77 #[.string b] (.tuple #[.float .f64 x, .bool true]) W)) (t0 : ((b.size : Int) == 0) = false) :
  Ct 51 #[.string s] (.float .f64 x) w := by
 have B0 := Lh (Below.refl w.heap.size w)
 go_enter Tryz.func51, Tryz.ntmps51
 go_wp2_with fail
 refine Bm (CT.out _) fun w1 b1 => ?_
 have B1 := Lh (Aa B0.out b1)
 clear b1
 go_wp2_with fail
 refine Bm (CB.out _) fun w2 b2 => ?_
 have B2 := Lh (Aa B1.out b2)
 clear b2
 go_wp2_with fail
 refine Bm (CX.out _) fun w3 b3 => ?_
 have B3 := Lh (Aa B2.out b3)
 clear b3
 go_wp2
 go_ret
 exact ⟨rfl, B3.out⟩
theorem Nr (s t b u : ByteArray) (x y : Nat) (n : Int) (w : World)
  (CT : Hid (∀ W, Ct 76 #[.string s] (.string t) W))
  (CB : Hid (∀ W, Ct 75 #[.string t] (.string b) W))
  (CX : Hid (∀ W, Ct 77 #[.string b] (.tuple #[.float .f64 x, .bool false]) W))
  (CL : Hid (∀ W, Ct 78 #[.string u] (.tuple #[.int .i64 n, .float .f64 y]) W)) (t0 : ((b.size : Int) == 0) = false) (hs : b.size ≤ 281474976710656) (g0 : 0 < b.size) (h0 : (b[0]'g0).toNat = 45)
  (hu : (b.extract 1 b.size) = u) (ti : (u.toList == [73, 110, 102, 105, 110, 105, 116, 121]) = true) :
  Ct 51 #[.string s] (.float .f64 (Y4 9218868437227405312)) w := by
 have B0 := Lh (Below.refl w.heap.size w)
 have a0 : (b.size : Int) ≤ 281474976710656 := by omega
 have a1 : (0 : Int) < (b.size : Int) := by omega
 have a2 : (1 : Int) ≤ (b.size : Int) := by omega
 have e0 : ((b[0]'g0).toNat : Int) = 45 := by rw [h0]; rfl
 have CI := Lh (fun W => Dy W)
 have r3 : ∀ W, (Op.unary UnOp.neg (.float .f64 9218868437227405312)).run Tryz.prog W = .ok (.float .f64 (Y4 9218868437227405312)) W := fun W => rfl
 clear hs h0
 go_enter Tryz.func51, Tryz.ntmps51
 go_wp2_with fail
 refine Bm (CT.out _) fun w1 b1 => ?_
 have B1 := Lh (Aa B0.out b1)
 clear b1
 go_wp2_with fail
 refine Bm (CB.out _) fun w2 b2 => ?_
 have B2 := Lh (Aa B1.out b2)
 clear b2
 go_wp2_with fail
 refine Bm (CX.out _) fun w3 b3 => ?_
 have B3 := Lh (Aa B2.out b3)
 clear b3
 go_wp2_with fail
 refine Bm (CL.out _) fun w4 b4 => ?_
 have B4 := Lh (Aa B3.out b4)
 clear b4
 go_wp2_with fail
 refine Sm (CI.out _) ?_
 go_wp2
 go_ret
 exact ⟨rfl, B4.out⟩
theorem Mp (s t b u : ByteArray) (x y : Nat) (n : Int) (w : World)
  (CT : Hid (∀ W, Ct 76 #[.string s] (.string t) W))
  (CB : Hid (∀ W, Ct 75 #[.string t] (.string b) W))
  (CX : Hid (∀ W, Ct 77 #[.string b] (.tuple #[.float .f64 x, .bool false]) W))
  (CL : Hid (∀ W, Ct 78 #[.string u] (.tuple #[.int .i64 n, .float .f64 y]) W)) (t0 : ((b.size : Int) == 0) = false) (hs : b.size ≤ 281474976710656) (g0 : 0 < b.size) (h0 : (b[0]'g0).toNat = 45)
  (hu : (b.extract 1 b.size) = u) (ti : (u.toList == [73, 110, 102, 105, 110, 105, 116, 121]) = false) (t1 : (n == 0) = true) :
  Ct 51 #[.string s] (.float .f64 Mm) w := by
 have B0 := Lh (Below.refl w.heap.size w)
 have a0 : (b.size : Int) ≤ 281474976710656 := by omega
 have a1 : (0 : Int) < (b.size : Int) := by omega
 have a2 : (1 : Int) ≤ (b.size : Int) := by omega
 have e0 : ((b[0]'g0).toNat : Int) = 45 := by rw [h0]; rfl
 have CN := Lh (fun W => Gx W)
 clear hs h0
 go_enter Tryz.func51, Tryz.ntmps51
 go_wp2_with fail
 refine Bm (CT.out _) fun w1 b1 => ?_
 have B1 := Lh (Aa B0.out b1)
 clear b1
 go_wp2_with fail
 refine Bm (CB.out _) fun w2 b2 => ?_
 have B2 := Lh (Aa B1.out b2)
 clear b2
 go_wp2_with fail
 refine Bm (CX.out _) fun w3 b3 => ?_
 have B3 := Lh (Aa B2.out b3)
 clear b3
 go_wp2_with fail
 refine Bm (CL.out _) fun w4 b4 => ?_
 have B4 := Lh (Aa B3.out b4)
 clear b4
 go_wp2_with fail
 refine Sm (CN.out _) ?_
 go_wp2
 go_ret
 exact ⟨rfl, B4.out⟩
theorem My (s t b u : ByteArray) (x y : Nat) (n U : Int) (w : World)
  (CT : Hid (∀ W, Ct 76 #[.string s] (.string t) W))
  (CB : Hid (∀ W, Ct 75 #[.string t] (.string b) W))
  (CX : Hid (∀ W, Ct 77 #[.string b] (.tuple #[.float .f64 x, .bool false]) W))
  (CL : Hid (∀ W, Ct 78 #[.string u] (.tuple #[.int .i64 n, .float .f64 y]) W)) (t0 : ((b.size : Int) == 0) = false) (hs : b.size ≤ 281474976710656) (g0 : 0 < b.size) (h0 : (b[0]'g0).toNat = 45)
  (hu : (b.extract 1 b.size) = u) (hus : (u.size : Int) = U) (ti : (u.toList == [73, 110, 102, 105, 110, 105, 116, 121]) = false) (t1 : (n == 0) = false) (t2 : (n != U) = true) :
  Ct 51 #[.string s] (.float .f64 Mm) w := by
 have B0 := Lh (Below.refl w.heap.size w)
 have a0 : (b.size : Int) ≤ 281474976710656 := by omega
 have a1 : (0 : Int) < (b.size : Int) := by omega
 have a2 : (1 : Int) ≤ (b.size : Int) := by omega
 have e0 : ((b[0]'g0).toNat : Int) = 45 := by rw [h0]; rfl
 have CN := Lh (fun W => Gx W)
 clear hs h0
 go_enter Tryz.func51, Tryz.ntmps51
 go_wp2_with fail
 refine Bm (CT.out _) fun w1 b1 => ?_
 have B1 := Lh (Aa B0.out b1)
 clear b1
 go_wp2_with fail
 refine Bm (CB.out _) fun w2 b2 => ?_
 have B2 := Lh (Aa B1.out b2)
 clear b2
 go_wp2_with fail
 refine Bm (CX.out _) fun w3 b3 => ?_
 have B3 := Lh (Aa B2.out b3)
 clear b3
 go_wp2_with fail
 refine Bm (CL.out _) fun w4 b4 => ?_
 have B4 := Lh (Aa B3.out b4)
 clear b4
 go_wp2_with fail
 refine Sm (CN.out _) ?_
 go_wp2
 go_ret
 exact ⟨rfl, B4.out⟩
theorem Kt (s t b u : ByteArray) (x y : Nat) (n U : Int) (w : World)
  (CT : Hid (∀ W, Ct 76 #[.string s] (.string t) W))
  (CB : Hid (∀ W, Ct 75 #[.string t] (.string b) W))
  (CX : Hid (∀ W, Ct 77 #[.string b] (.tuple #[.float .f64 x, .bool false]) W))
  (CL : Hid (∀ W, Ct 78 #[.string u] (.tuple #[.int .i64 n, .float .f64 y]) W)) (t0 : ((b.size : Int) == 0) = false) (hs : b.size ≤ 281474976710656) (g0 : 0 < b.size) (h0 : (b[0]'g0).toNat = 45)
  (hu : (b.extract 1 b.size) = u) (hus : (u.size : Int) = U) (ti : (u.toList == [73, 110, 102, 105, 110, 105, 116, 121]) = false) (t1 : (n == 0) = false) (t2 : (n != U) = false) :
  Ct 51 #[.string s] (.float .f64 (Y4 y)) w := by
 have B0 := Lh (Below.refl w.heap.size w)
 have a0 : (b.size : Int) ≤ 281474976710656 := by omega
 have a1 : (0 : Int) < (b.size : Int) := by omega
 have a2 : (1 : Int) ≤ (b.size : Int) := by omega
 have e0 : ((b[0]'g0).toNat : Int) = 45 := by rw [h0]; rfl
 have r3 : ∀ W, (Op.unary UnOp.neg (.float .f64 y)).run Tryz.prog W = .ok (.float .f64 (Y4 y)) W := fun W => rfl
 clear hs h0
 go_enter Tryz.func51, Tryz.ntmps51
 go_wp2_with fail
 refine Bm (CT.out _) fun w1 b1 => ?_
 have B1 := Lh (Aa B0.out b1)
 clear b1
 go_wp2_with fail
 refine Bm (CB.out _) fun w2 b2 => ?_
 have B2 := Lh (Aa B1.out b2)
 clear b2
 go_wp2_with fail
 refine Bm (CX.out _) fun w3 b3 => ?_
 have B3 := Lh (Aa B2.out b3)
 clear b3
 go_wp2_with fail
 refine Bm (CL.out _) fun w4 b4 => ?_
 have B4 := Lh (Aa B3.out b4)
 clear b4
 go_wp2
 go_ret
 exact ⟨rfl, B4.out⟩
theorem Qg (s t b u : ByteArray) (x y : Nat) (n : Int) (w : World)
  (CT : Hid (∀ W, Ct 76 #[.string s] (.string t) W))
  (CB : Hid (∀ W, Ct 75 #[.string t] (.string b) W))
  (CX : Hid (∀ W, Ct 77 #[.string b] (.tuple #[.float .f64 x, .bool false]) W))
  (CL : Hid (∀ W, Ct 78 #[.string u] (.tuple #[.int .i64 n, .float .f64 y]) W)) (t0 : ((b.size : Int) == 0) = false) (hs : b.size ≤ 281474976710656) (g0 : 0 < b.size) (h0 : (b[0]'g0).toNat = 43)
  (hu : (b.extract 1 b.size) = u) (ti : (u.toList == [73, 110, 102, 105, 110, 105, 116, 121]) = true) :
  Ct 51 #[.string s] (.float .f64 9218868437227405312) w := by
 have B0 := Lh (Below.refl w.heap.size w)
 have a0 : (b.size : Int) ≤ 281474976710656 := by omega
 have a1 : (0 : Int) < (b.size : Int) := by omega
 have a2 : (1 : Int) ≤ (b.size : Int) := by omega
 have e0 : ((b[0]'g0).toNat : Int) = 43 := by rw [h0]; rfl
 have CI := Lh (fun W => Dy W)
 clear hs h0
 go_enter Tryz.func51, Tryz.ntmps51
 go_wp2_with fail
 refine Bm (CT.out _) fun w1 b1 => ?_
 have B1 := Lh (Aa B0.out b1)
 clear b1
 go_wp2_with fail
 refine Bm (CB.out _) fun w2 b2 => ?_
 have B2 := Lh (Aa B1.out b2)
 clear b2
 go_wp2_with fail
 refine Bm (CX.out _) fun w3 b3 => ?_
 have B3 := Lh (Aa B2.out b3)
 clear b3
 go_wp2_with fail
 refine Bm (CL.out _) fun w4 b4 => ?_
 have B4 := Lh (Aa B3.out b4)
 clear b4
 go_wp2_with fail
 refine Sm (CI.out _) ?_
 go_wp2
 go_ret
 exact ⟨rfl, B4.out⟩
theorem Of (s t b u : ByteArray) (x y : Nat) (n : Int) (w : World)
  (CT : Hid (∀ W, Ct 76 #[.string s] (.string t) W))
  (CB : Hid (∀ W, Ct 75 #[.string t] (.string b) W))
  (CX : Hid (∀ W, Ct 77 #[.string b] (.tuple #[.float .f64 x, .bool false]) W))
  (CL : Hid (∀ W, Ct 78 #[.string u] (.tuple #[.int .i64 n, .float .f64 y]) W)) (t0 : ((b.size : Int) == 0) = false) (hs : b.size ≤ 281474976710656) (g0 : 0 < b.size) (h0 : (b[0]'g0).toNat = 43)
  (hu : (b.extract 1 b.size) = u) (ti : (u.toList == [73, 110, 102, 105, 110, 105, 116, 121]) = false) (t1 : (n == 0) = true) :
  Ct 51 #[.string s] (.float .f64 Mm) w := by
 have B0 := Lh (Below.refl w.heap.size w)
 have a0 : (b.size : Int) ≤ 281474976710656 := by omega
 have a1 : (0 : Int) < (b.size : Int) := by omega
 have a2 : (1 : Int) ≤ (b.size : Int) := by omega
 have e0 : ((b[0]'g0).toNat : Int) = 43 := by rw [h0]; rfl
 have CN := Lh (fun W => Gx W)
 clear hs h0
 go_enter Tryz.func51, Tryz.ntmps51
 go_wp2_with fail
 refine Bm (CT.out _) fun w1 b1 => ?_
 have B1 := Lh (Aa B0.out b1)
 clear b1
 go_wp2_with fail
 refine Bm (CB.out _) fun w2 b2 => ?_
 have B2 := Lh (Aa B1.out b2)
 clear b2
 go_wp2_with fail
 refine Bm (CX.out _) fun w3 b3 => ?_
 have B3 := Lh (Aa B2.out b3)
 clear b3
 go_wp2_with fail
 refine Bm (CL.out _) fun w4 b4 => ?_
 have B4 := Lh (Aa B3.out b4)
 clear b4
 go_wp2_with fail
 refine Sm (CN.out _) ?_
 go_wp2
 go_ret
 exact ⟨rfl, B4.out⟩
theorem Ns (s t b u : ByteArray) (x y : Nat) (n U : Int) (w : World)
  (CT : Hid (∀ W, Ct 76 #[.string s] (.string t) W))
  (CB : Hid (∀ W, Ct 75 #[.string t] (.string b) W))
  (CX : Hid (∀ W, Ct 77 #[.string b] (.tuple #[.float .f64 x, .bool false]) W))
  (CL : Hid (∀ W, Ct 78 #[.string u] (.tuple #[.int .i64 n, .float .f64 y]) W)) (t0 : ((b.size : Int) == 0) = false) (hs : b.size ≤ 281474976710656) (g0 : 0 < b.size) (h0 : (b[0]'g0).toNat = 43)
  (hu : (b.extract 1 b.size) = u) (hus : (u.size : Int) = U) (ti : (u.toList == [73, 110, 102, 105, 110, 105, 116, 121]) = false) (t1 : (n == 0) = false) (t2 : (n != U) = true) :
  Ct 51 #[.string s] (.float .f64 Mm) w := by
 have B0 := Lh (Below.refl w.heap.size w)
 have a0 : (b.size : Int) ≤ 281474976710656 := by omega
 have a1 : (0 : Int) < (b.size : Int) := by omega
 have a2 : (1 : Int) ≤ (b.size : Int) := by omega
 have e0 : ((b[0]'g0).toNat : Int) = 43 := by rw [h0]; rfl
 have CN := Lh (fun W => Gx W)
 clear hs h0
 go_enter Tryz.func51, Tryz.ntmps51
 go_wp2_with fail
 refine Bm (CT.out _) fun w1 b1 => ?_
 have B1 := Lh (Aa B0.out b1)
 clear b1
 go_wp2_with fail
 refine Bm (CB.out _) fun w2 b2 => ?_
 have B2 := Lh (Aa B1.out b2)
 clear b2
 go_wp2_with fail
 refine Bm (CX.out _) fun w3 b3 => ?_
 have B3 := Lh (Aa B2.out b3)
 clear b3
 go_wp2_with fail
 refine Bm (CL.out _) fun w4 b4 => ?_
 have B4 := Lh (Aa B3.out b4)
 clear b4
 go_wp2_with fail
 refine Sm (CN.out _) ?_
 go_wp2
 go_ret
 exact ⟨rfl, B4.out⟩
theorem Ms (s t b u : ByteArray) (x y : Nat) (n U : Int) (w : World)
  (CT : Hid (∀ W, Ct 76 #[.string s] (.string t) W))
  (CB : Hid (∀ W, Ct 75 #[.string t] (.string b) W))
  (CX : Hid (∀ W, Ct 77 #[.string b] (.tuple #[.float .f64 x, .bool false]) W))
  (CL : Hid (∀ W, Ct 78 #[.string u] (.tuple #[.int .i64 n, .float .f64 y]) W)) (t0 : ((b.size : Int) == 0) = false) (hs : b.size ≤ 281474976710656) (g0 : 0 < b.size) (h0 : (b[0]'g0).toNat = 43)
  (hu : (b.extract 1 b.size) = u) (hus : (u.size : Int) = U) (ti : (u.toList == [73, 110, 102, 105, 110, 105, 116, 121]) = false) (t1 : (n == 0) = false) (t2 : (n != U) = false) :
  Ct 51 #[.string s] (.float .f64 y) w := by
 have B0 := Lh (Below.refl w.heap.size w)
 have a0 : (b.size : Int) ≤ 281474976710656 := by omega
 have a1 : (0 : Int) < (b.size : Int) := by omega
 have a2 : (1 : Int) ≤ (b.size : Int) := by omega
 have e0 : ((b[0]'g0).toNat : Int) = 43 := by rw [h0]; rfl
 clear hs h0
 go_enter Tryz.func51, Tryz.ntmps51
 go_wp2_with fail
 refine Bm (CT.out _) fun w1 b1 => ?_
 have B1 := Lh (Aa B0.out b1)
 clear b1
 go_wp2_with fail
 refine Bm (CB.out _) fun w2 b2 => ?_
 have B2 := Lh (Aa B1.out b2)
 clear b2
 go_wp2_with fail
 refine Bm (CX.out _) fun w3 b3 => ?_
 have B3 := Lh (Aa B2.out b3)
 clear b3
 go_wp2_with fail
 refine Bm (CL.out _) fun w4 b4 => ?_
 have B4 := Lh (Aa B3.out b4)
 clear b4
 go_wp2
 go_ret
 exact ⟨rfl, B4.out⟩
theorem On (s t b : ByteArray) (x y B : Nat) (n : Int) (w : World)
  (CT : Hid (∀ W, Ct 76 #[.string s] (.string t) W))
  (CB : Hid (∀ W, Ct 75 #[.string t] (.string b) W))
  (CX : Hid (∀ W, Ct 77 #[.string b] (.tuple #[.float .f64 x, .bool false]) W))
  (CL : Hid (∀ W, Ct 78 #[.string b] (.tuple #[.int .i64 n, .float .f64 y]) W)) (hs : b.size ≤ 281474976710656) (g0 : 0 < b.size) (h0 : (b[0]'g0).toNat = B) (n1 : B ≠ 45) (n2 : B ≠ 43) (ti : (b.toList == [73, 110, 102, 105, 110, 105, 116, 121]) = true) :
  Ct 51 #[.string s] (.float .f64 9218868437227405312) w := by
 have B0 := Lh (Below.refl w.heap.size w)
 have a0 : (b.size : Int) ≤ 281474976710656 := by omega
 have a1 : (0 : Int) < (b.size : Int) := by omega
 have a2 : (1 : Int) ≤ (b.size : Int) := by omega
 have e0 : ((b[0]'g0).toNat : Int) = (B : Int) := by rw [h0]
 have e1 : ((B : Int) == 45) = false := by rw [beq_eq_false_iff_ne]; omega
 have e2 : ((B : Int) == 43) = false := by rw [beq_eq_false_iff_ne]; omega
 clear n1 n2
 have CI := Lh (fun W => Dy W)
 clear hs h0
 go_enter Tryz.func51, Tryz.ntmps51
 go_wp2_with fail
 refine Bm (CT.out _) fun w1 b1 => ?_
 have B1 := Lh (Aa B0.out b1)
 clear b1
 go_wp2_with fail
 refine Bm (CB.out _) fun w2 b2 => ?_
 have B2 := Lh (Aa B1.out b2)
 clear b2
 go_wp2_with fail
 refine Bm (CX.out _) fun w3 b3 => ?_
 have B3 := Lh (Aa B2.out b3)
 clear b3
 go_wp2_with fail
 refine Bm (CL.out _) fun w4 b4 => ?_
 have B4 := Lh (Aa B3.out b4)
 clear b4
 go_wp2_with fail
 refine Sm (CI.out _) ?_
 go_wp2
 go_ret
 exact ⟨rfl, B4.out⟩
theorem Mu (s t b : ByteArray) (x y B : Nat) (n : Int) (w : World)
  (CT : Hid (∀ W, Ct 76 #[.string s] (.string t) W))
  (CB : Hid (∀ W, Ct 75 #[.string t] (.string b) W))
  (CX : Hid (∀ W, Ct 77 #[.string b] (.tuple #[.float .f64 x, .bool false]) W))
  (CL : Hid (∀ W, Ct 78 #[.string b] (.tuple #[.int .i64 n, .float .f64 y]) W)) (hs : b.size ≤ 281474976710656) (g0 : 0 < b.size) (h0 : (b[0]'g0).toNat = B) (n1 : B ≠ 45) (n2 : B ≠ 43) (ti : (b.toList == [73, 110, 102, 105, 110, 105, 116, 121]) = false) (t1 : (n == 0) = true) :
  Ct 51 #[.string s] (.float .f64 Mm) w := by
 have B0 := Lh (Below.refl w.heap.size w)
 have a0 : (b.size : Int) ≤ 281474976710656 := by omega
 have a1 : (0 : Int) < (b.size : Int) := by omega
 have a2 : (1 : Int) ≤ (b.size : Int) := by omega
 have e0 : ((b[0]'g0).toNat : Int) = (B : Int) := by rw [h0]
 have e1 : ((B : Int) == 45) = false := by rw [beq_eq_false_iff_ne]; omega
 have e2 : ((B : Int) == 43) = false := by rw [beq_eq_false_iff_ne]; omega
 clear n1 n2
 have CN := Lh (fun W => Gx W)
 clear hs h0
 go_enter Tryz.func51, Tryz.ntmps51
 go_wp2_with fail
 refine Bm (CT.out _) fun w1 b1 => ?_
 have B1 := Lh (Aa B0.out b1)
 clear b1
 go_wp2_with fail
 refine Bm (CB.out _) fun w2 b2 => ?_
 have B2 := Lh (Aa B1.out b2)
 clear b2
 go_wp2_with fail
 refine Bm (CX.out _) fun w3 b3 => ?_
 have B3 := Lh (Aa B2.out b3)
 clear b3
 go_wp2_with fail
 refine Bm (CL.out _) fun w4 b4 => ?_
 have B4 := Lh (Aa B3.out b4)
 clear b4
 go_wp2_with fail
 refine Sm (CN.out _) ?_
 go_wp2
 go_ret
 exact ⟨rfl, B4.out⟩
theorem Mr (s t b : ByteArray) (x y B : Nat) (n U : Int) (w : World)
  (CT : Hid (∀ W, Ct 76 #[.string s] (.string t) W))
  (CB : Hid (∀ W, Ct 75 #[.string t] (.string b) W))
  (CX : Hid (∀ W, Ct 77 #[.string b] (.tuple #[.float .f64 x, .bool false]) W))
  (CL : Hid (∀ W, Ct 78 #[.string b] (.tuple #[.int .i64 n, .float .f64 y]) W)) (hs : b.size ≤ 281474976710656) (g0 : 0 < b.size) (h0 : (b[0]'g0).toNat = B) (n1 : B ≠ 45) (n2 : B ≠ 43) (hus : (b.size : Int) = U) (ti : (b.toList == [73, 110, 102, 105, 110, 105, 116, 121]) = false) (t1 : (n == 0) = false) (t2 : (n != U) = true) :
  Ct 51 #[.string s] (.float .f64 Mm) w := by
 have B0 := Lh (Below.refl w.heap.size w)
 have a0 : (b.size : Int) ≤ 281474976710656 := by omega
 have a1 : (0 : Int) < (b.size : Int) := by omega
 have a2 : (1 : Int) ≤ (b.size : Int) := by omega
 have e0 : ((b[0]'g0).toNat : Int) = (B : Int) := by rw [h0]
 have e1 : ((B : Int) == 45) = false := by rw [beq_eq_false_iff_ne]; omega
 have e2 : ((B : Int) == 43) = false := by rw [beq_eq_false_iff_ne]; omega
 clear n1 n2
 have CN := Lh (fun W => Gx W)
 clear hs h0
 go_enter Tryz.func51, Tryz.ntmps51
 go_wp2_with fail
 refine Bm (CT.out _) fun w1 b1 => ?_
 have B1 := Lh (Aa B0.out b1)
 clear b1
 go_wp2_with fail
 refine Bm (CB.out _) fun w2 b2 => ?_
 have B2 := Lh (Aa B1.out b2)
 clear b2
 go_wp2_with fail
 refine Bm (CX.out _) fun w3 b3 => ?_
 have B3 := Lh (Aa B2.out b3)
 clear b3
 go_wp2_with fail
 refine Bm (CL.out _) fun w4 b4 => ?_
 have B4 := Lh (Aa B3.out b4)
 clear b4
 go_wp2_with fail
 refine Sm (CN.out _) ?_
 go_wp2
 go_ret
 exact ⟨rfl, B4.out⟩
theorem Ky (s t b : ByteArray) (x y B : Nat) (n U : Int) (w : World)
  (CT : Hid (∀ W, Ct 76 #[.string s] (.string t) W))
  (CB : Hid (∀ W, Ct 75 #[.string t] (.string b) W))
  (CX : Hid (∀ W, Ct 77 #[.string b] (.tuple #[.float .f64 x, .bool false]) W))
  (CL : Hid (∀ W, Ct 78 #[.string b] (.tuple #[.int .i64 n, .float .f64 y]) W)) (hs : b.size ≤ 281474976710656) (g0 : 0 < b.size) (h0 : (b[0]'g0).toNat = B) (n1 : B ≠ 45) (n2 : B ≠ 43) (hus : (b.size : Int) = U) (ti : (b.toList == [73, 110, 102, 105, 110, 105, 116, 121]) = false) (t1 : (n == 0) = false) (t2 : (n != U) = false) :
  Ct 51 #[.string s] (.float .f64 y) w := by
 have B0 := Lh (Below.refl w.heap.size w)
 have a0 : (b.size : Int) ≤ 281474976710656 := by omega
 have a1 : (0 : Int) < (b.size : Int) := by omega
 have a2 : (1 : Int) ≤ (b.size : Int) := by omega
 have e0 : ((b[0]'g0).toNat : Int) = (B : Int) := by rw [h0]
 have e1 : ((B : Int) == 45) = false := by rw [beq_eq_false_iff_ne]; omega
 have e2 : ((B : Int) == 43) = false := by rw [beq_eq_false_iff_ne]; omega
 clear n1 n2
 clear hs h0
 go_enter Tryz.func51, Tryz.ntmps51
 go_wp2_with fail
 refine Bm (CT.out _) fun w1 b1 => ?_
 have B1 := Lh (Aa B0.out b1)
 clear b1
 go_wp2_with fail
 refine Bm (CB.out _) fun w2 b2 => ?_
 have B2 := Lh (Aa B1.out b2)
 clear b2
 go_wp2_with fail
 refine Bm (CX.out _) fun w3 b3 => ?_
 have B3 := Lh (Aa B2.out b3)
 clear b3
 go_wp2_with fail
 refine Bm (CL.out _) fun w4 b4 => ?_
 have B4 := Lh (Aa B3.out b4)
 clear b4
 go_wp2
 go_ret
 exact ⟨rfl, B4.out⟩
end
section
theorem T6 {r : Nat} (h : r < 9223372036854775808) : Y4 r = sgW true r := by
 have key : r ^^^ 9223372036854775808 = 2 ^ 63 * 1 + r := by
  rw [show (9223372036854775808 : Nat) = 2 ^ 63 from rfl] at h ⊢
  apply Nat.eq_of_testBit_eq
  intro j
  rw [Nat.testBit_xor, Nat.testBit_two_pow, Nat.testBit_two_pow_mul_add _ h]
  by_cases hj : j < 63
  ·rw [if_pos hj, decide_eq_false (by omega), Bool.xor_false]
  ·rw [if_neg hj]
   obtain ⟨i, rfl⟩ : ∃ i, j = 63 + i := ⟨j - 63, by omega⟩
   rw [Nat.add_sub_cancel_left, Nat.testBit_lt_two_pow (Nat.lt_of_lt_of_le h (Nat.pow_le_pow_right (by omega) (by omega)))]
   cases i with
   | zero => rfl
   | succ i => rw [decide_eq_false (by omega)]; simp [Nat.testBit_succ]
 exact key
theorem Anp (T : List Nat) : (exR T).length ≤ T.length := by
 unfold exR
 split
 ·unfold Qd
  have h1 := Cn (Bj T.tail)
  have h2 : (Bj T.tail).length ≤ T.length := by
   unfold Bj
   split
   ·rw [List.length_tail, List.length_tail]; omega
   ·rw [List.length_tail]; omega
  omega
 ·exact Nat.le_refl _
theorem Alt (l : List Nat) : (dR l).length + (dW l).length + (dF l).length ≤ l.length := by
 have h1 := Cn l
 have h2 := Anp (dT l)
 have h3 := Cn (Al l).tail
 rw [List.length_tail] at h3
 unfold dR dW
 unfold dT at h2 ⊢
 unfold dF
 split
 ·next h =>
  rw [if_pos h] at h2
  omega
 ·next h =>
  rw [if_neg h] at h2
  simp only [List.length_nil]
  omega
theorem Ab2 {l : List Nat} (h : dB l = true) : lgN l = l.length - (dR l).length ∧ 0 < lgN l ∧ lgV l = dV l := by
 have h1 := Alt l
 have h2 : 0 < (dW l).length + (dF l).length := by
  unfold dB at h
  cases hw : dW l with
  | nil =>
   cases hf : dF l with
   | nil => rw [hw, hf] at h; simp at h
   | cons => simp
  | cons => simp; omega
 unfold lgN lgV
 rw [if_pos h, if_pos h]
 exact ⟨rfl, by omega, rfl⟩
theorem Aqe {l : List Nat} (h : dB l = false) : lgN l = 0 ∧ lgV l = 0 := by
 unfold lgN lgV
 rw [h]
 exact ⟨rfl, rfl⟩
theorem Aph {l : List Nat} (h : dB l = true) : lgN l = l.length ↔ dR l = [] := by
 obtain ⟨h1, _, _⟩ := Ab2 h
 have h2 := Alt l
 rw [h1]
 constructor
 ·intro e
  exact List.length_eq_zero_iff.1 (by have := (Ab2 h).2.1; omega)
 ·intro e
  rw [e, List.length_nil, Nat.sub_zero]
theorem Iq {u : List Nat} (hu : ∀ c ∈ u, c < 256) : ((Ab u).toList == [73, 110, 102, 105, 110, 105, 116, 121]) = decide (u = infL) := by
 rw [Bool.eq_iff_iff, beq_iff_eq, decide_eq_true_iff]
 constructor
 ·intro h
  rw [Lib.toList_data] at h
  have h2 := congrArg (List.map UInt8.toNat) h
  have h3 : (Ab u).data.toList.map UInt8.toNat = u := Aj hu
  rw [h3] at h2
  exact h2
 ·intro h
  rw [h, Lib.toList_data]
  rfl
theorem Alq {s : ByteArray} (h : s.size ≤ 140737488355328) : (nrw 1 (us s)).length ≤ 70368744177664 := by
 rw [Acz, Iv]
 have := Hx s
 omega
theorem Amz (l : List Nat) (h0 : l ≠ []) (hx : hxB l = false) : H7 l = if Bj l = infL then sgW (Es l) 9218868437227405312 else if lgN (Bj l) = 0 ∨ lgN (Bj l) ≠ (Bj l).length then Mm else sgW (Es l) (lgV (Bj l)) := by
 unfold H7
 rw [if_neg h0, hx, if_neg (by simp)]
 split
 ·rfl
 ·cases hd : dB (Bj l)
  ·rw [(Aqe hd).1, if_pos (Or.inl rfl), if_neg (by simp)]
  ·obtain ⟨h1, h2, h3⟩ := Ab2 hd
   have h4 := Aph hd
   by_cases hr : dR (Bj l) = []
   ·rw [if_pos ⟨rfl, hr⟩, if_neg (by rw [not_or]; exact ⟨by omega, by simpa using h4.2 hr⟩), h3]
   ·rw [if_neg (fun h => hr h.2), if_pos (Or.inr (fun h => hr (h4.1 h)))]
theorem Vh (s : ByteArray) (w : World) (hs : s.size ≤ 140737488355328) :
  Ct 51 #[.string s] (.float .f64 (H7 (nrw 1 (us (Dj s))))) w := by
 have ht := Yq s
 have hl := Aiz (z := 1) (by omega) (us (Dj s))
 have hln := Alq (s := Dj s) (by omega)
 have CT : Hid (∀ W, Ct 76 #[.string s] (.string (Dj s)) W) := Lh (fun W => (Afq s W (by unfold maxLen; omega)).mono (by
  rintro e w' ⟨rfl, n, rfl⟩
  exact ⟨rfl, Ae (Below.refl _ _) n⟩))
 have CB := Lh (fun W => Zz (Dj s) W (by omega))
 obtain ⟨l, hll⟩ : ∃ l, nrw 1 (us (Dj s)) = l := ⟨_, rfl⟩
 rw [hll] at CB hl hln ⊢
 have h256 : ∀ c ∈ l, c < 256 := fun c hc => by have := hl c hc; omega
 have hb := Aj h256
 have hz := Af l
 have CX := fun W => Ajl (Ab l) W (by omega)
 rw [hb] at CX
 cases l with
 | nil =>
  have := Ajn s _ (Ab []) w CT CB (by rw [hz]; rfl)
  exact this
 | cons c q =>
  have t0 : (((Ab (c :: q)).size : Int) == 0) = false := by rw [hz, beq_eq_false_iff_ne, List.length_cons]; omega
  have g0 : 0 < (Ab (c :: q)).size := by rw [hz, List.length_cons]; omega
  have b0 := Cz _ 0 g0
  rw [hb] at b0
  have e0 : c = ((Ab (c :: q))[0]'g0).toNat := Option.some.inj b0
  have hzs : (Ab (c :: q)).size ≤ 281474976710656 := by omega
  cases hx : hxB (c :: q)
  ·rw [hx] at CX
   rw [Amz _ (by simp) hx]
   have hq : ∀ d ∈ q, d < 256 := fun d hd => h256 d (List.mem_cons_of_mem _ hd)
   have hext : (Ab (c :: q)).extract 1 (Ab (c :: q)).size = Ab q := by
    rw [Et, hb]
    rfl
   have hzq := Af q
   rw [List.length_cons] at hln hz
   have CLq := Lh (fun W => Kp (Ab q) W (by omega))
   have CLl := Lh (fun W => Kp (Ab (c :: q)) W (by omega))
   rw [Aj hq] at CLq
   rw [hb] at CLl
   have fin : ∀ u, lgV u < 9223372036854775808 := fun u => by
    unfold lgV dV
    split
    ·have := Yp (num 10 (dW u ++ dF u)) (dX u - (dF u).length)
     omega
    ·omega
   by_cases c1 : c = 45
   ·subst c1
    have hu : Bj (45 :: q) = q := rfl
    have hsg : Es (45 :: q) = true := rfl
    rw [hu, hsg]
    by_cases hi : q = infL
    ·rw [if_pos hi, ← T6 (by omega)]
     exact Nr (CT := CT) (CB := CB) (CX := Lh CX) (CL := CLq) (t0 := t0) (hs := hzs) (g0 := g0) (h0 := e0.symm) (hu := hext) (ti := by rw [Iq hq]; exact decide_eq_true hi) (w := w)
    ·rw [if_neg hi]
     have ti : ((Ab q).toList == [73, 110, 102, 105, 110, 105, 116, 121]) = false := by rw [Iq hq]; exact decide_eq_false hi
     by_cases n0 : lgN q = 0
     ·rw [if_pos (Or.inl n0)]
      exact Mp (CT := CT) (CB := CB) (CX := Lh CX) (CL := CLq) (t0 := t0) (hs := hzs) (g0 := g0) (h0 := e0.symm) (hu := hext) (ti := ti) (t1 := by rw [beq_iff_eq]; omega) (w := w)
     ·have t1 : (((lgN q : Nat) : Int) == 0) = false := by rw [beq_eq_false_iff_ne]; omega
      by_cases n1 : lgN q = q.length
      ·rw [if_neg (by rw [not_or]; exact ⟨n0, by simpa using n1⟩), ← T6 (fin q)]
       exact Kt (CT := CT) (CB := CB) (CX := Lh CX) (CL := CLq) (t0 := t0) (hs := hzs) (g0 := g0) (h0 := e0.symm) (hu := hext) (hus := rfl) (ti := ti) (t1 := t1) (t2 := by rw [bne_eq_false_iff_eq]; omega) (w := w)
      ·rw [if_pos (Or.inr n1)]
       exact My (CT := CT) (CB := CB) (CX := Lh CX) (CL := CLq) (t0 := t0) (hs := hzs) (g0 := g0) (h0 := e0.symm) (hu := hext) (hus := rfl) (ti := ti) (t1 := t1) (t2 := by rw [bne_iff_ne]; omega) (w := w)
   ·by_cases c2 : c = 43
    ·subst c2
     have hu : Bj (43 :: q) = q := rfl
     have hsg : ∀ r, sgW (Es (43 :: q)) r = r := fun _ => rfl
     rw [hu, hsg, hsg]
     by_cases hi : q = infL
     ·rw [if_pos hi]
      exact Qg (CT := CT) (CB := CB) (CX := Lh CX) (CL := CLq) (t0 := t0) (hs := hzs) (g0 := g0) (h0 := e0.symm) (hu := hext) (ti := by rw [Iq hq]; exact decide_eq_true hi) (w := w)
     ·rw [if_neg hi]
      have ti : ((Ab q).toList == [73, 110, 102, 105, 110, 105, 116, 121]) = false := by rw [Iq hq]; exact decide_eq_false hi
      by_cases n0 : lgN q = 0
      ·rw [if_pos (Or.inl n0)]
       exact Of (CT := CT) (CB := CB) (CX := Lh CX) (CL := CLq) (t0 := t0) (hs := hzs) (g0 := g0) (h0 := e0.symm) (hu := hext) (ti := ti) (t1 := by rw [beq_iff_eq]; omega) (w := w)
      ·have t1 : (((lgN q : Nat) : Int) == 0) = false := by rw [beq_eq_false_iff_ne]; omega
       by_cases n1 : lgN q = q.length
       ·rw [if_neg (by rw [not_or]; exact ⟨n0, by simpa using n1⟩)]
        exact Ms (CT := CT) (CB := CB) (CX := Lh CX) (CL := CLq) (t0 := t0) (hs := hzs) (g0 := g0) (h0 := e0.symm) (hu := hext) (hus := rfl) (ti := ti) (t1 := t1) (t2 := by rw [bne_eq_false_iff_eq]; omega) (w := w)
       ·rw [if_pos (Or.inr n1)]
        exact Ns (CT := CT) (CB := CB) (CX := Lh CX) (CL := CLq) (t0 := t0) (hs := hzs) (g0 := g0) (h0 := e0.symm) (hu := hext) (hus := rfl) (ti := ti) (t1 := t1) (t2 := by rw [bne_iff_ne]; omega) (w := w)
    ·have hu : Bj (c :: q) = c :: q := by unfold Bj; rw [if_neg (by simp [c1, c2])]
     have hsg : ∀ r, sgW (Es (c :: q)) r = r := fun r => by
      unfold Es
      rw [List.head?_cons, beq_eq_false_iff_ne.2 (fun e => c1 (Option.some.inj e))]
      rfl
     rw [hu, hsg, hsg]
     by_cases hi : c :: q = infL
     ·rw [if_pos hi]
      exact On (CT := CT) (CB := CB) (CX := Lh CX) (CL := CLl) (hs := hzs) (g0 := g0) (h0 := e0.symm) (n1 := c1) (n2 := c2) (ti := by rw [Iq h256]; exact decide_eq_true hi) (w := w)
     ·rw [if_neg hi]
      have ti : ((Ab (c :: q)).toList == [73, 110, 102, 105, 110, 105, 116, 121]) = false := by rw [Iq h256]; exact decide_eq_false hi
      by_cases n0 : lgN (c :: q) = 0
      ·rw [if_pos (Or.inl n0)]
       exact Mu (CT := CT) (CB := CB) (CX := Lh CX) (CL := CLl) (hs := hzs) (g0 := g0) (h0 := e0.symm) (n1 := c1) (n2 := c2) (ti := ti) (t1 := by rw [beq_iff_eq]; omega) (w := w)
      ·have t1 : (((lgN (c :: q) : Nat) : Int) == 0) = false := by rw [beq_eq_false_iff_ne]; omega
       by_cases n1 : lgN (c :: q) = (c :: q).length
       ·rw [if_neg (by rw [not_or]; exact ⟨n0, by simpa using n1⟩)]
        exact Ky (CT := CT) (CB := CB) (CX := Lh CX) (CL := CLl) (hs := hzs) (g0 := g0) (h0 := e0.symm) (n1 := c1) (n2 := c2) (hus := rfl) (ti := ti) (t1 := t1) (t2 := by rw [bne_eq_false_iff_eq, hz, n1, List.length_cons]) (w := w)
       ·rw [if_pos (Or.inr n1)]
        exact Mr (CT := CT) (CB := CB) (CX := Lh CX) (CL := CLl) (hs := hzs) (g0 := g0) (h0 := e0.symm) (n1 := c1) (n2 := c2) (hus := rfl) (ti := ti) (t1 := t1) (t2 := by rw [bne_iff_ne, hz]; rw [List.length_cons] at n1; omega) (w := w)
  ·rw [hx, if_pos rfl] at CX
   have hN : H7 (c :: q) = F2 16 ((c :: q).drop 2) := by
    unfold H7
    rw [if_neg (by simp), hx, if_pos rfl]
   rw [hN]
   exact Alx (CT := CT) (CB := CB) (CX := Lh CX) (t0 := t0) (w := w)
end
section
theorem L5 (N : Nat) (e : Int) : Bf N e ≤ 9218868437227405312 := Nat.min_le_right _ _
end
section
def PartG (x m : Nat) (two : Int) : Prop := (x = 0 ∧ m = 0 ∧ two = 0) ∨ (0 < x ∧ PartIs x m two)
theorem Amn (w : World) : NV w none 0 0 0 := ⟨by rfl, by omega, RW.nil _ _ _⟩
theorem Aft : Yl 0 = false := by decide
theorem Ab5 {x m a b : Nat} {two p : Int} {w : World} (h1 : 0 ≤ two) (h2 : 0 ≤ p) (b1 : -5000 ≤ two) (b2 : two ≤ 5000) (b3 : -5000 ≤ p) (b4 : p ≤ 5000) (ha : two = (a : Int)) (hb : p = (b : Int))
  (C1 : Hid (∀ W, W = w → Cp 208 #[.float .f64 x] W fun e w' => ∃ A n c, e = .returned (.tuple #[.slice A n c, .int .i64 two, .int .i64 0]) ∧ NV w' A n c m ∧ Below W.heap.size W w'))
  (C2 : Hid (∀ W A n c, NV W A n c m → Cp 157 #[.slice A n c, .int .i64 a] W (NRet (m * 2 ^ a) W)))
  (C3 : Hid (∀ W, Cp 196 #[.int .i64 b] W (NRet (10 ^ b) W)))
  (C4 : Hid (∀ W A n c C k d, NV W A n c (m * 2 ^ a) → NV W C k d (10 ^ b) → Cp 138 #[.slice A n c, .slice C k d] W (NRet (m * 2 ^ a * 10 ^ b) W))) :
  Cp 154 #[.float .f64 x, .int .i64 p] w fun e w' => ∃ A n c C k d, e = .returned (.tuple #[.slice A n c, .slice C k d]) ∧ NV w' A n c (m * 2 ^ a * 10 ^ b) ∧ NV w' C k d (1) ∧ Below w.heap.size w w' := by
 have t1 : 0 ≤ two := by omega
 have t2 : 0 ≤ p := by omega
 have t3 : -5000 ≤ two ∧ two ≤ 5000 := ⟨b1, b2⟩
 have t4 : -5000 ≤ p ∧ p ≤ 5000 := ⟨b3, b4⟩
 obtain ⟨t5, t6⟩ := t3
 obtain ⟨t7, t8⟩ := t4
 have HA := Lh ha
 have HB := Lh hb
 clear ha hb
 go_enter Tryz.func154, Tryz.ntmps154
 go_wp2_with fail
 refine (C1.out _ rfl).mono ?_
 rintro e w1 ⟨A1, n1, c1, rfl, g1, b1'⟩
 have B1 := Lh (Ch (.cells #[.int .u32 1] 129) b1')
 have GM := Lh (g1.step (Cx w1 (.cells #[.int .u32 1] 129)))
 have GD := Lh (NV.lit w1 1 (by omega) (by omega))
 clear g1 b1'
 have ha := HA.out
 go_wp2_with fail
 clear ha
 generalize w1.alloc (.cells #[.int .u32 1] 129) = w2 at *
 refine (C2.out _ _ _ _ GM.out).mono ?_
 rintro e w3 ⟨A3, n3, c3, rfl, g3, b3'⟩
 have GM := Lh g3
 have GD := Lh (GD.out.step b3')
 have B3 := Lh (Aa B1.out b3')
 clear g3 b3'
 have hb := HB.out
 go_wp2_with fail
 clear hb
 refine (C3.out _).mono ?_
 rintro e w4 ⟨A4, n4, c4, rfl, g4, b4'⟩
 have GP := Lh g4
 have GM := Lh (GM.out.step b4')
 have GD := Lh (GD.out.step b4')
 have B4 := Lh (Aa B3.out b4')
 clear g4 b4'
 go_wp2_with fail
 refine (C4.out _ _ _ _ _ _ _ GM.out GP.out).mono ?_
 rintro e w5 ⟨A5, n5, c5, rfl, g5, b5'⟩
 have GM := Lh g5
 have GD := Lh (GD.out.step b5')
 have B5 := Lh (Aa B4.out b5')
 clear g5 b5'
 go_wp2
 go_ret2
 exact ⟨_, _, _, _, _, _, rfl, GM.out, GD.out, B5.out⟩
theorem Ace {x m a b : Nat} {two p : Int} {w : World} (h1 : 0 ≤ two) (h2 : p < 0) (b1 : -5000 ≤ two) (b2 : two ≤ 5000) (b3 : -5000 ≤ p) (b4 : p ≤ 5000) (ha : two = (a : Int)) (hb : -p = (b : Int))
  (C1 : Hid (∀ W, W = w → Cp 208 #[.float .f64 x] W fun e w' => ∃ A n c, e = .returned (.tuple #[.slice A n c, .int .i64 two, .int .i64 0]) ∧ NV w' A n c m ∧ Below W.heap.size W w'))
  (C2 : Hid (∀ W A n c, NV W A n c m → Cp 157 #[.slice A n c, .int .i64 a] W (NRet (m * 2 ^ a) W)))
  (C3 : Hid (∀ W, Cp 196 #[.int .i64 b] W (NRet (10 ^ b) W)))
  (C4 : Hid (∀ W A n c C k d, NV W A n c (1) → NV W C k d (10 ^ b) → Cp 138 #[.slice A n c, .slice C k d] W (NRet (1 * 10 ^ b) W))) :
  Cp 154 #[.float .f64 x, .int .i64 p] w fun e w' => ∃ A n c C k d, e = .returned (.tuple #[.slice A n c, .slice C k d]) ∧ NV w' A n c (m * 2 ^ a) ∧ NV w' C k d (1 * 10 ^ b) ∧ Below w.heap.size w w' := by
 have t1 : 0 ≤ two := by omega
 have t2 : ¬ 0 ≤ p := by omega
 have t3 : -5000 ≤ two ∧ two ≤ 5000 := ⟨b1, b2⟩
 have t4 : -5000 ≤ p ∧ p ≤ 5000 := ⟨b3, b4⟩
 obtain ⟨t5, t6⟩ := t3
 obtain ⟨t7, t8⟩ := t4
 have HA := Lh ha
 have HB := Lh hb
 clear ha hb
 go_enter Tryz.func154, Tryz.ntmps154
 go_wp2_with fail
 refine (C1.out _ rfl).mono ?_
 rintro e w1 ⟨A1, n1, c1, rfl, g1, b1'⟩
 have B1 := Lh (Ch (.cells #[.int .u32 1] 129) b1')
 have GM := Lh (g1.step (Cx w1 (.cells #[.int .u32 1] 129)))
 have GD := Lh (NV.lit w1 1 (by omega) (by omega))
 clear g1 b1'
 have ha := HA.out
 go_wp2_with fail
 clear ha
 generalize w1.alloc (.cells #[.int .u32 1] 129) = w2 at *
 refine (C2.out _ _ _ _ GM.out).mono ?_
 rintro e w3 ⟨A3, n3, c3, rfl, g3, b3'⟩
 have GM := Lh g3
 have GD := Lh (GD.out.step b3')
 have B3 := Lh (Aa B1.out b3')
 clear g3 b3'
 have hb := HB.out
 go_wp2_with fail
 clear hb
 refine (C3.out _).mono ?_
 rintro e w4 ⟨A4, n4, c4, rfl, g4, b4'⟩
 have GP := Lh g4
 have GM := Lh (GM.out.step b4')
 have GD := Lh (GD.out.step b4')
 have B4 := Lh (Aa B3.out b4')
 clear g4 b4'
 go_wp2_with fail
 refine (C4.out _ _ _ _ _ _ _ GD.out GP.out).mono ?_
 rintro e w5 ⟨A5, n5, c5, rfl, g5, b5'⟩
 have GD := Lh g5
 have GM := Lh (GM.out.step b5')
 have B5 := Lh (Aa B4.out b5')
 clear g5 b5'
 go_wp2
 go_ret2
 exact ⟨_, _, _, _, _, _, rfl, GM.out, GD.out, B5.out⟩
theorem Aby {x m a b : Nat} {two p : Int} {w : World} (h1 : two < 0) (h2 : 0 ≤ p) (b1 : -5000 ≤ two) (b2 : two ≤ 5000) (b3 : -5000 ≤ p) (b4 : p ≤ 5000) (ha : -two = (a : Int)) (hb : p = (b : Int))
  (C1 : Hid (∀ W, W = w → Cp 208 #[.float .f64 x] W fun e w' => ∃ A n c, e = .returned (.tuple #[.slice A n c, .int .i64 two, .int .i64 0]) ∧ NV w' A n c m ∧ Below W.heap.size W w'))
  (C2 : Hid (∀ W A n c, NV W A n c 1 → Cp 157 #[.slice A n c, .int .i64 a] W (NRet (1 * 2 ^ a) W)))
  (C3 : Hid (∀ W, Cp 196 #[.int .i64 b] W (NRet (10 ^ b) W)))
  (C4 : Hid (∀ W A n c C k d, NV W A n c (m) → NV W C k d (10 ^ b) → Cp 138 #[.slice A n c, .slice C k d] W (NRet (m * 10 ^ b) W))) :
  Cp 154 #[.float .f64 x, .int .i64 p] w fun e w' => ∃ A n c C k d, e = .returned (.tuple #[.slice A n c, .slice C k d]) ∧ NV w' A n c (m * 10 ^ b) ∧ NV w' C k d (1 * 2 ^ a) ∧ Below w.heap.size w w' := by
 have t1 : ¬ 0 ≤ two := by omega
 have t2 : 0 ≤ p := by omega
 have t3 : -5000 ≤ two ∧ two ≤ 5000 := ⟨b1, b2⟩
 have t4 : -5000 ≤ p ∧ p ≤ 5000 := ⟨b3, b4⟩
 obtain ⟨t5, t6⟩ := t3
 obtain ⟨t7, t8⟩ := t4
 have HA := Lh ha
 have HB := Lh hb
 clear ha hb
 go_enter Tryz.func154, Tryz.ntmps154
 go_wp2_with fail
 refine (C1.out _ rfl).mono ?_
 rintro e w1 ⟨A1, n1, c1, rfl, g1, b1'⟩
 have B1 := Lh (Ch (.cells #[.int .u32 1] 129) b1')
 have GM := Lh (g1.step (Cx w1 (.cells #[.int .u32 1] 129)))
 have GD := Lh (NV.lit w1 1 (by omega) (by omega))
 clear g1 b1'
 have ha := HA.out
 go_wp2_with fail
 clear ha
 generalize w1.alloc (.cells #[.int .u32 1] 129) = w2 at *
 refine (C2.out _ _ _ _ GD.out).mono ?_
 rintro e w3 ⟨A3, n3, c3, rfl, g3, b3'⟩
 have GD := Lh g3
 have GM := Lh (GM.out.step b3')
 have B3 := Lh (Aa B1.out b3')
 clear g3 b3'
 have hb := HB.out
 go_wp2_with fail
 clear hb
 refine (C3.out _).mono ?_
 rintro e w4 ⟨A4, n4, c4, rfl, g4, b4'⟩
 have GP := Lh g4
 have GM := Lh (GM.out.step b4')
 have GD := Lh (GD.out.step b4')
 have B4 := Lh (Aa B3.out b4')
 clear g4 b4'
 go_wp2_with fail
 refine (C4.out _ _ _ _ _ _ _ GM.out GP.out).mono ?_
 rintro e w5 ⟨A5, n5, c5, rfl, g5, b5'⟩
 have GM := Lh g5
 have GD := Lh (GD.out.step b5')
 have B5 := Lh (Aa B4.out b5')
 clear g5 b5'
 go_wp2
 go_ret2
 exact ⟨_, _, _, _, _, _, rfl, GM.out, GD.out, B5.out⟩
theorem Abq {x m a b : Nat} {two p : Int} {w : World} (h1 : two < 0) (h2 : p < 0) (b1 : -5000 ≤ two) (b2 : two ≤ 5000) (b3 : -5000 ≤ p) (b4 : p ≤ 5000) (ha : -two = (a : Int)) (hb : -p = (b : Int))
  (C1 : Hid (∀ W, W = w → Cp 208 #[.float .f64 x] W fun e w' => ∃ A n c, e = .returned (.tuple #[.slice A n c, .int .i64 two, .int .i64 0]) ∧ NV w' A n c m ∧ Below W.heap.size W w'))
  (C2 : Hid (∀ W A n c, NV W A n c 1 → Cp 157 #[.slice A n c, .int .i64 a] W (NRet (1 * 2 ^ a) W)))
  (C3 : Hid (∀ W, Cp 196 #[.int .i64 b] W (NRet (10 ^ b) W)))
  (C4 : Hid (∀ W A n c C k d, NV W A n c (1 * 2 ^ a) → NV W C k d (10 ^ b) → Cp 138 #[.slice A n c, .slice C k d] W (NRet (1 * 2 ^ a * 10 ^ b) W))) :
  Cp 154 #[.float .f64 x, .int .i64 p] w fun e w' => ∃ A n c C k d, e = .returned (.tuple #[.slice A n c, .slice C k d]) ∧ NV w' A n c (m) ∧ NV w' C k d (1 * 2 ^ a * 10 ^ b) ∧ Below w.heap.size w w' := by
 have t1 : ¬ 0 ≤ two := by omega
 have t2 : ¬ 0 ≤ p := by omega
 have t3 : -5000 ≤ two ∧ two ≤ 5000 := ⟨b1, b2⟩
 have t4 : -5000 ≤ p ∧ p ≤ 5000 := ⟨b3, b4⟩
 obtain ⟨t5, t6⟩ := t3
 obtain ⟨t7, t8⟩ := t4
 have HA := Lh ha
 have HB := Lh hb
 clear ha hb
 go_enter Tryz.func154, Tryz.ntmps154
 go_wp2_with fail
 refine (C1.out _ rfl).mono ?_
 rintro e w1 ⟨A1, n1, c1, rfl, g1, b1'⟩
 have B1 := Lh (Ch (.cells #[.int .u32 1] 129) b1')
 have GM := Lh (g1.step (Cx w1 (.cells #[.int .u32 1] 129)))
 have GD := Lh (NV.lit w1 1 (by omega) (by omega))
 clear g1 b1'
 have ha := HA.out
 go_wp2_with fail
 clear ha
 generalize w1.alloc (.cells #[.int .u32 1] 129) = w2 at *
 refine (C2.out _ _ _ _ GD.out).mono ?_
 rintro e w3 ⟨A3, n3, c3, rfl, g3, b3'⟩
 have GD := Lh g3
 have GM := Lh (GM.out.step b3')
 have B3 := Lh (Aa B1.out b3')
 clear g3 b3'
 have hb := HB.out
 go_wp2_with fail
 clear hb
 refine (C3.out _).mono ?_
 rintro e w4 ⟨A4, n4, c4, rfl, g4, b4'⟩
 have GP := Lh g4
 have GM := Lh (GM.out.step b4')
 have GD := Lh (GD.out.step b4')
 have B4 := Lh (Aa B3.out b4')
 clear g4 b4'
 go_wp2_with fail
 refine (C4.out _ _ _ _ _ _ _ GD.out GP.out).mono ?_
 rintro e w5 ⟨A5, n5, c5, rfl, g5, b5'⟩
 have GD := Lh g5
 have GM := Lh (GM.out.step b5')
 have B5 := Lh (Aa B4.out b5')
 clear g5 b5'
 go_wp2
 go_ret2
 exact ⟨_, _, _, _, _, _, rfl, GM.out, GD.out, B5.out⟩
end
section
def scN (m : Nat) (two p : Int) : Nat := m * 2 ^ two.toNat * 10 ^ p.toNat
def scD (two p : Int) : Nat := 2 ^ (-two).toNat * 10 ^ (-p).toNat
theorem M8 (two p : Int) : 0 < scD two p := Nat.mul_pos (Au _) (Aq _)
theorem Wf {x m : Nat} {two : Int} (h : PartG x m two) (p : Int) : scN m two p * vV p = vU x p * scD two p := by
 have key : m * 2 ^ two.toNat * big = Ac x * 2 ^ (-two).toNat := by
  rcases h with ⟨rfl, rfl, rfl⟩ | ⟨_, h⟩
  ·rw [Kw, Nat.zero_mul, Nat.zero_mul, Nat.zero_mul]
  ·exact Abm h
 unfold scN vV vU scD
 generalize 2 ^ two.toNat = A at *
 generalize 2 ^ (-two).toNat = B at *
 generalize 10 ^ p.toNat = C at *
 generalize 10 ^ (-p).toNat = D at *
 generalize Ac x = F at *
 have e1 : m * A * C * (big * D) = m * A * big * (C * D) := by grind
 have e2 : F * C * (B * D) = F * B * (C * D) := by grind
 rw [e1, e2, key]
theorem PartG.bd {x m : Nat} {two : Int} (h : PartG x m two) : bln m ≤ 53 ∧ -1074 ≤ two ∧ two ≤ 1023 := by
 rcases h with ⟨rfl, rfl, rfl⟩ | ⟨_, h⟩
 ·rw [Ic]
  omega
 ·obtain ⟨q1, q2, q3, q4, q5, q6⟩ := h.pos
  exact ⟨q2, q5, q6⟩
theorem Ams {x m : Nat} {two p : Int} (h : PartG x m two) (hp : p ≤ 700) : bln (scN m two p) ≤ 5000 := by
 obtain ⟨b1, b2, b3⟩ := h.bd
 unfold scN
 have h1 := Cm (m * 2 ^ two.toNat) (10 ^ p.toNat)
 have h2 := Cm m (2 ^ two.toNat)
 have h3 := Ef two.toNat
 have h4 := Eh p.toNat
 omega
theorem Amm {two p : Int} (h : -1074 ≤ two) (hp : -700 ≤ p) : bln (scD two p) ≤ 5000 := by
 unfold scD
 have h1 := Cm (2 ^ (-two).toNat) (10 ^ (-p).toNat)
 have h3 := Ef (-two).toNat
 have h4 := Eh (-p).toNat
 omega
theorem Acd (x : Nat) (hx : x < 9218868437227405312) : ∃ m two, PartG x m two ∧ ∀ W, Cp 208 #[.float .f64 x] W fun e w' => ∃ A n c, e = .returned (.tuple #[.slice A n c, .int .i64 two, .int .i64 0]) ∧ NV w' A n c m ∧ Below W.heap.size W w' := by
 rcases Nat.eq_zero_or_pos x with h | h
 ·subst h
  refine ⟨0, 0, .inl ⟨rfl, rfl, rfl⟩, fun W => (Yr 0 W (by omega) Aft rfl).mono ?_⟩
  rintro e w' ⟨rfl, rfl⟩
  exact ⟨none, 0, 0, rfl, Amn _, Below.refl _ _⟩
 ·obtain ⟨p1, p2⟩ := Ge h
  obtain ⟨k, m, hkm⟩ := J6 _ p1
  obtain ⟨h1, h2⟩ := Yt h hx
  refine ⟨2 * m + 1, Hj x + (k : Nat), .inr ⟨h, P5 h hx hkm⟩, fun W => (Agb x W (by omega) h2 (by omega)).mono ?_⟩
  rintro e w' ⟨k2, m2, A, n, c, hkm2, rfl, ⟨hn, hc, hr⟩, hb⟩
  obtain ⟨rfl, rfl⟩ := Ant hkm hkm2 (by omega)
  exact ⟨A, n, c, rfl, ⟨hn.symm, hc, hr⟩, hb⟩
def ScQ (m : Nat) (two p : Int) (w : World) (e : Ending) (w' : World) : Prop := ∃ A n c C k d, e = .returned (.tuple #[.slice A n c, .slice C k d]) ∧ NV w' A n c (scN m two p) ∧ NV w' C k d (scD two p) ∧ Below w.heap.size w w'
theorem Ab0 {x m : Nat} {two : Int} (hb : bln m ≤ 53 ∧ -1074 ≤ two ∧ two ≤ 1023)
  (hC : ∀ W, Cp 208 #[.float .f64 x] W fun e w' => ∃ A n c, e = .returned (.tuple #[.slice A n c, .int .i64 two, .int .i64 0]) ∧ NV w' A n c m ∧ Below W.heap.size W w')
  (p : Int) (W : World) (hp1 : -700 ≤ p) (hp2 : p ≤ 700) : Cp 154 #[.float .f64 x, .int .i64 p] W (ScQ m two p W) := by
 obtain ⟨b1, b2, b3⟩ := hb
 have C1 : Hid (∀ W', W' = W → Cp 208 #[.float .f64 x] W' fun e w' => ∃ A n c, e = .returned (.tuple #[.slice A n c, .int .i64 two, .int .i64 0]) ∧ NV w' A n c m ∧ Below W'.heap.size W' w') := Lh (fun W' _ => hC W')
 have hm2 := Cm m (2 ^ two.toNat)
 have hp2' := Ef two.toNat
 have hp3' := Ef (-two).toNat
 have h1b : bln 1 = 1 := by decide
 have ht4 := Eh p.toNat
 have ht5 := Eh (-p).toNat
 unfold ScQ scN scD
 rcases (show two < 0 ∨ 0 ≤ two by omega) with h | h
 ·have z1 : two.toNat = 0 := by omega
  rw [z1, Nat.pow_zero, Nat.mul_one]
  have hl1 := Cm 1 (2 ^ (-two).toNat)
  have C2 := Lh (fun W' A n c (g : NV W' A n c 1) => Ajy g (-two).toNat (by omega) (by omega))
  rcases (show p < 0 ∨ 0 ≤ p by omega) with k | k
  ·rw [show p.toNat = 0 by omega, Nat.pow_zero, Nat.mul_one]
   refine (Abq h k (by omega) (by omega) (by omega) (by omega) (a := (-two).toNat) (b := (-p).toNat) (by omega) (by omega) C1 C2 (Lh fun W' => Gk _ W' (by omega)) (Lh fun W' A n c C k' d g1 g2 => Gr g1 g2 (by omega) (by omega))).mono ?_
   rintro e w' ⟨A, n, c, C, k', d, rfl, g1, g2, g3⟩
   rw [Nat.one_mul] at g2
   exact ⟨A, n, c, C, k', d, rfl, g1, g2, g3⟩
  ·rw [show (-p).toNat = 0 by omega, Nat.pow_zero, Nat.mul_one]
   refine (Aby h k (by omega) (by omega) (by omega) (by omega) (a := (-two).toNat) (b := p.toNat) (by omega) (by omega) C1 C2 (Lh fun W' => Gk _ W' (by omega)) (Lh fun W' A n c C k' d g1 g2 => Gr g1 g2 (by omega) (by omega))).mono ?_
   rintro e w' ⟨A, n, c, C, k', d, rfl, g1, g2, g3⟩
   rw [Nat.one_mul] at g2
   exact ⟨A, n, c, C, k', d, rfl, g1, g2, g3⟩
 ·have z1 : (-two).toNat = 0 := by omega
  rw [z1, Nat.pow_zero, Nat.one_mul]
  have C2 := Lh (fun W' A n c (g : NV W' A n c m) => Ajy g two.toNat (by omega) (by omega))
  rcases (show p < 0 ∨ 0 ≤ p by omega) with k | k
  ·rw [show p.toNat = 0 by omega, Nat.pow_zero, Nat.mul_one]
   refine (Ace h k (by omega) (by omega) (by omega) (by omega) (a := two.toNat) (b := (-p).toNat) (by omega) (by omega) C1 C2 (Lh fun W' => Gk _ W' (by omega)) (Lh fun W' A n c C k' d g1 g2 => Gr g1 g2 (by omega) (by omega))).mono ?_
   rintro e w' ⟨A, n, c, C, k', d, rfl, g1, g2, g3⟩
   rw [Nat.one_mul] at g2
   exact ⟨A, n, c, C, k', d, rfl, g1, g2, g3⟩
  ·rw [show (-p).toNat = 0 by omega, Nat.pow_zero]
   refine (Ab5 h k (by omega) (by omega) (by omega) (by omega) (a := two.toNat) (b := p.toNat) (by omega) (by omega) C1 C2 (Lh fun W' => Gk _ W' (by omega)) (Lh fun W' A n c C k' d g1 g2 => Gr g1 g2 (by omega) (by omega))).mono ?_
   rintro e w' ⟨A, n, c, C, k', d, rfl, g1, g2, g3⟩
   exact ⟨A, n, c, C, k', d, rfl, g1, g2, g3⟩
theorem Ly (x : Nat) (hx : x < 9218868437227405312) : ∃ m two, PartG x m two ∧ ∀ p W, -700 ≤ p → p ≤ 700 → Cp 154 #[.float .f64 x, .int .i64 p] W (ScQ m two p W) := by
 obtain ⟨m, two, hG, hC⟩ := Acd x hx
 exact ⟨m, two, hG, fun p W h1 h2 => Ab0 hG.bd hC p W h1 h2⟩
end
section
def Gv (a b : Nat) : Int := if a < b then -1 else if b < a then 1 else 0
theorem Ak4 {w : World} {A C : Option Addr} {n c m d a b : Nat} (hA : NV w A n c a) (hB : NV w C m d b) (ha : bln a ≤ 30000) (hb : bln b ≤ 30000) :
  Cq 156 #[.slice A n c, .slice C m d] (.int .i64 (Gv a b)) w := by
 have h1 := At ha
 have h2 := At hb
 refine Sm (Wp A C n c m d (wds a) (wds b) _ _ w hA.len (by have := hA.len; omega) hA.row hB.len (by have := hB.len; omega) hB.row) ?_
 refine ⟨?_, rfl⟩
 unfold Gv
 by_cases k1 : a < b
 ·rw [if_pos k1, Jq (by rw [Ad, Ad]; exact k1)]
 ·by_cases k2 : b < a
  ·rw [if_neg k1, if_pos k2, Jn (by rw [Ad, Ad]; exact k2)]
  ·rw [if_neg k1, if_neg k2, Ln (by rw [Ad, Ad]; omega)]
theorem Aha {U V : Nat} {p : Int} (hU : 0 < U) (hV : 0 < V) (hp : Bv U V p) (h1 : bln U ≤ 1140) (h2 : bln V ≤ 1140) : (((bln U : Int) - bln V) * 30103).tdiv 100000 - 3 ≤ p := by
 obtain ⟨u1, u2, u3⟩ := Aw hU
 obtain ⟨v1, v2, v3⟩ := Aw hV
 obtain ⟨e, he⟩ : ∃ e : Int, (bln U : Int) - bln V = e := ⟨_, rfl⟩
 rw [he]
 have hs := Ai9 (e := e) (by omega) (by omega)
 have hle : 2 ^ (e - 1).toNat * V ≤ U * 2 ^ (-(e - 1)).toNat := by
  have a1 : 2 ^ (e - 1).toNat * V ≤ 2 ^ (e - 1).toNat * 2 ^ bln V := Nat.mul_le_mul_left _ (Nat.le_of_lt v2)
  have a2 : 2 ^ (bln U - 1) * 2 ^ (-(e - 1)).toNat ≤ U * 2 ^ (-(e - 1)).toNat := Nat.mul_le_mul_right _ u1
  have a3 : 2 ^ (e - 1).toNat * 2 ^ bln V = 2 ^ (bln U - 1) * 2 ^ (-(e - 1)).toNat := by
   rw [← Nat.pow_add, ← Nat.pow_add]
   exact congrArg (fun k => 2 ^ k) (by omega)
  omega
 have hl := Im (Au _) hle hs
 rcases (show (e * 30103).tdiv 100000 - 3 ≤ p ∨ p < (e * 30103).tdiv 100000 - 3 by omega) with h | h
 ·exact h
 ·exfalso
  refine hp.2 (It ((e * 30103).tdiv 100000 - 4 - p).toNat ?_)
  rw [show p + ((((e * 30103).tdiv 100000 - 4 - p).toNat : Nat) : Int) = (e * 30103).tdiv 100000 - 4 by omega]
  exact hl
def Yo (U V : Nat) (n : Int) : Int := if 0 ≤ n then Gv U (V * 10 ^ n.toNat) else Gv (U * 10 ^ (-n).toNat) V
theorem Aht {U V : Nat} {n : Int} : Yo U V n < 0 ↔ ¬ E0 n U V := by
 unfold Yo E0 Gv
 rcases (show 0 ≤ n ∨ n < 0 by omega) with h | h
 ·rw [if_pos h, show (-n).toNat = 0 by omega, Nat.pow_zero, Nat.mul_one]
  generalize V * 10 ^ n.toNat = X
  split
  ·omega
  ·split <;> omega
 ·rw [if_neg (by omega), show n.toNat = 0 by omega, Nat.pow_zero, Nat.mul_one]
  generalize U * 10 ^ (-n).toNat = X
  split
  ·omega
  ·split <;> omega
theorem Yj {x U V bu bv : Nat} {n0 p s1 s2 s3 : Int} {w : World}
  (C1 : Hid (∀ W, W = w → Cp 154 #[.float .f64 x, .int .i64 0] W fun e w' => ∃ A n c C k d, e = .returned (.tuple #[.slice A n c, .slice C k d]) ∧ NV w' A n c U ∧ NV w' C k d V ∧ Below W.heap.size W w'))
  (C2 : Hid (∀ W A n c, NV W A n c U → Ct 193 #[.slice A n c] (.int .i64 (bu : Nat)) W))
  (C3 : Hid (∀ W A n c, NV W A n c V → Ct 193 #[.slice A n c] (.int .i64 (bv : Nat)) W))
  (CP : Hid (∀ W (n : Nat), n ≤ 400 → Cp 196 #[.int .i64 n] W (NRet (10 ^ n) W)))
  (CU : Hid (∀ W (n : Nat) A n1 c C k d, n ≤ 400 → NV W A n1 c U → NV W C k d (10 ^ n) → Cp 138 #[.slice A n1 c, .slice C k d] W (NRet (U * 10 ^ n) W)))
  (CV : Hid (∀ W (n : Nat) A n1 c C k d, n ≤ 400 → NV W A n1 c V → NV W C k d (10 ^ n) → Cp 138 #[.slice A n1 c, .slice C k d] W (NRet (V * 10 ^ n) W)))
  (CC : Hid (∀ W (n : Nat) A n1 c C k d, n ≤ 400 → NV W A n1 c U → NV W C k d (V * 10 ^ n) → Cq 156 #[.slice A n1 c, .slice C k d] (.int .i64 (Gv U (V * 10 ^ n))) W))
  (CD : Hid (∀ W (n : Nat) A n1 c C k d, n ≤ 400 → NV W A n1 c (U * 10 ^ n) → NV W C k d V → Cq 156 #[.slice A n1 c, .slice C k d] (.int .i64 (Gv (U * 10 ^ n) V)) W))
  (k1 : (bu : Int) - bv = s1) (b1 : -3000 ≤ s1) (b2 : s1 ≤ 3000) (k2 : s1 * 30103 = s2) (k3 : s2.tdiv 100000 = s3) (k4 : s3 - 3 = n0)
  (h0 : -400 ≤ n0) (hp : n0 ≤ p) (hp4 : p ≤ 390) (hle : Hid (∀ n, n < p → Yo U V n < 0 → False)) (hat : Hid (Yo U V p < 0)) :
  Ct 153 #[.float .f64 x] (.int .i64 p) w := by
 have b3 : -90400000 ≤ s2 := by omega
 have b4 : s2 ≤ 90400000 := by omega
 have b5 : -404 ≤ s3 := by omega
 have b6 : s3 ≤ 400 := by omega
 have K1 := Lh k1
 have K2 := Lh k2
 have K3 := Lh k3
 have K4 := Lh k4
 have HP := Lh hp
 clear k1 k2 k3 k4 hp
 go_enter Tryz.func153, Tryz.ntmps153
 go_wp2_with fail
 refine (C1.out _ rfl).mono ?_
 rintro e w1 ⟨A1, n1, c1, A2, n2, c2, rfl, g1, g2, b1'⟩
 have GU := Lh g1
 have GV := Lh g2
 have B1 := Lh b1'
 clear g1 g2 b1'
 go_wp2_with fail
 refine (C2.out _ _ _ _ GU.out).mono ?_
 rintro e w2 ⟨rfl, b2'⟩
 have GU := Lh (GU.out.step b2')
 have GV := Lh (GV.out.step b2')
 have B2 := Lh (Aa B1.out b2')
 clear b2'
 go_wp2_with fail
 refine (C3.out _ _ _ _ GV.out).mono ?_
 rintro e w3 ⟨rfl, b3'⟩
 have GU := Lh (GU.out.step b3')
 have GV := Lh (GV.out.step b3')
 have B3 := Lh (Aa B2.out b3')
 clear b3'
 have k1 := K1.out
 have k2 := K2.out
 have k3 := K3.out
 have k4 := K4.out
 go_wp2
 clear k1 k2 k3 k4
 go_loopw [5] (fun v wr => ∃ n : Int, v = .int .i64 n ∧ n0 ≤ n ∧ n ≤ p ∧ Hid (NV wr A1 n1 c1 U) ∧ Hid (NV wr A2 n2 c2 V) ∧ Hid (Below w.heap.size w wr)) (fun v _ => (p - intOf v).toNat)
 case atStart => exact ⟨n0, rfl, by omega, HP.out, GU, GV, B3⟩
 case round =>
  obtain ⟨n, rfl, hn0, hnp, GU, GV, B3⟩ := hrel
  rcases (show 0 ≤ n ∨ n < 0 by omega) with hs | hs
  ·obtain ⟨k, rfl⟩ : ∃ k : Nat, n = (k : Int) := ⟨n.toNat, by omega⟩
   have t1 : (0 : Int) ≤ (k : Int) := by omega
   have hask : Yo U V (k : Int) = Gv U (V * 10 ^ k) := by unfold Yo; rw [if_pos (by omega), Int.toNat_natCast]
   have hk4 : k ≤ 400 := by have := HP.out; omega
   have C9 : Hid (∀ W A n1 c, NV W A n1 c U → ∀ C k' d, NV W C k' d (V * 10 ^ k) → Cq 156 #[.slice A n1 c, .slice C k' d] (.int .i64 (Gv U (V * 10 ^ k))) W) := Lh (fun W A n1 c h C k' d g => CC.out W k A n1 c C k' d hk4 h g)
   obtain ⟨r, hr⟩ : ∃ r, Gv U (V * 10 ^ k) = r := ⟨_, rfl⟩
   rw [hr] at C9 hask
   have e4 : (k : Int) < 400 := by omega
   by_cases hlt : (k : Int) < p
   ·have t2 : ¬ r < 0 := fun h => hle.out _ hlt (by rw [hask]; exact h)
    clear hask hr
    go_wp2_with fail
    refine (CP.out _ k hk4).mono ?_
    rintro e w4 ⟨A4, n4, c4, rfl, g4, b4'⟩
    have G4 := Lh g4
    have GU := Lh (GU.out.step b4')
    have GV := Lh (GV.out.step b4')
    have B4 := Lh (Aa B3.out b4')
    clear g4 b4'
    go_wp2_with fail
    refine (CV.out _ k _ _ _ _ _ _ hk4 GV.out G4.out).mono ?_
    rintro e w5 ⟨A5, n5, c5, rfl, g5, b5'⟩
    have G5 := Lh g5
    have GU := Lh (GU.out.step b5')
    have GV := Lh (GV.out.step b5')
    have B5 := Lh (Aa B4.out b5')
    clear g5 b5'
    go_wp2_with fail
    refine Sm (C9.out _ _ _ _ GU.out _ _ _ G5.out) ?_
    go_wp2
    go_roundw
    case rel => exact ⟨(k : Int) + 1, rfl, by omega, by omega, GU, GV, B5⟩
    case measure => simp [intOf]; omega
   ·have hnp : (k : Int) = p := by omega
    have t2 : r < 0 := by have := hat.out; rw [← hnp, hask] at this; exact this
    have HNP := Lh hnp
    clear hask hr hnp
    go_wp2_with fail
    refine (CP.out _ k hk4).mono ?_
    rintro e w4 ⟨A4, n4, c4, rfl, g4, b4'⟩
    have G4 := Lh g4
    have GU := Lh (GU.out.step b4')
    have GV := Lh (GV.out.step b4')
    have B4 := Lh (Aa B3.out b4')
    clear g4 b4'
    go_wp2_with fail
    refine (CV.out _ k _ _ _ _ _ _ hk4 GV.out G4.out).mono ?_
    rintro e w5 ⟨A5, n5, c5, rfl, g5, b5'⟩
    have G5 := Lh g5
    have GU := Lh (GU.out.step b5')
    have GV := Lh (GV.out.step b5')
    have B5 := Lh (Aa B4.out b5')
    clear g5 b5'
    go_wp2_with fail
    refine Sm (C9.out _ _ _ _ GU.out _ _ _ G5.out) ?_
    go_wp2
    go_ret
    exact ⟨by rw [← HNP.out]; rfl, B5.out⟩
  ·obtain ⟨k, hk⟩ : ∃ k : Nat, -n = (k : Int) := ⟨(-n).toNat, by omega⟩
   have t1 : ¬ 0 ≤ n := by omega
   have hask : Yo U V n = Gv (U * 10 ^ k) V := by unfold Yo; rw [if_neg (by omega), show (-n).toNat = k by omega]
   have HK := Lh hk
   have hk4 : k ≤ 400 := by have := HP.out; omega
   have C9 : Hid (∀ W A n1 c, NV W A n1 c (U * 10 ^ k) → ∀ C k' d, NV W C k' d V → Cq 156 #[.slice A n1 c, .slice C k' d] (.int .i64 (Gv (U * 10 ^ k) V)) W) := Lh (fun W A n1 c h C k' d g => CD.out W k A n1 c C k' d hk4 h g)
   obtain ⟨r, hr⟩ : ∃ r, Gv (U * 10 ^ k) V = r := ⟨_, rfl⟩
   rw [hr] at C9 hask
   have e4 : n < 400 := by omega
   by_cases hlt : n < p
   ·have t2 : ¬ r < 0 := fun h => hle.out _ hlt (by rw [hask]; exact h)
    clear hask hr
    have hk' := HK.out
    clear hk
    go_wp2_with fail
    refine (CP.out _ k hk4).mono ?_
    rintro e w4 ⟨A4, n4, c4, rfl, g4, b4'⟩
    have G4 := Lh g4
    have GU := Lh (GU.out.step b4')
    have GV := Lh (GV.out.step b4')
    have B4 := Lh (Aa B3.out b4')
    clear g4 b4'
    go_wp2_with fail
    refine (CU.out _ k _ _ _ _ _ _ hk4 GU.out G4.out).mono ?_
    rintro e w5 ⟨A5, n5, c5, rfl, g5, b5'⟩
    have G5 := Lh g5
    have GU := Lh (GU.out.step b5')
    have GV := Lh (GV.out.step b5')
    have B5 := Lh (Aa B4.out b5')
    clear g5 b5'
    go_wp2_with fail
    refine Sm (C9.out _ _ _ _ G5.out _ _ _ GV.out) ?_
    go_wp2
    go_roundw
    case rel => exact ⟨n + 1, rfl, by omega, by omega, GU, GV, B5⟩
    case measure => simp [intOf]; omega
   ·have hnp : n = p := by omega
    have t2 : r < 0 := by have := hat.out; rw [← hnp, hask] at this; exact this
    have HNP := Lh hnp
    clear hask hr hnp
    have hk' := HK.out
    clear hk
    go_wp2_with fail
    refine (CP.out _ k hk4).mono ?_
    rintro e w4 ⟨A4, n4, c4, rfl, g4, b4'⟩
    have G4 := Lh g4
    have GU := Lh (GU.out.step b4')
    have GV := Lh (GV.out.step b4')
    have B4 := Lh (Aa B3.out b4')
    clear g4 b4'
    go_wp2_with fail
    refine (CU.out _ k _ _ _ _ _ _ hk4 GU.out G4.out).mono ?_
    rintro e w5 ⟨A5, n5, c5, rfl, g5, b5'⟩
    have G5 := Lh g5
    have GU := Lh (GU.out.step b5')
    have GV := Lh (GV.out.step b5')
    have B5 := Lh (Aa B4.out b5')
    clear g5 b5'
    go_wp2_with fail
    refine Sm (C9.out _ _ _ _ G5.out _ _ _ GV.out) ?_
    go_wp2
    go_ret
    exact ⟨by rw [← HNP.out]; rfl, B5.out⟩
end
section
theorem Akd {x m : Nat} {two n : Int} (h : PartG x m two) (hn : Bv (Ac x) big n) : Bv (scN m two 0) (scD two 0) n := by
 have hf := Wf h 0
 have e1 : vV 0 = big := by unfold vV; simp
 have e2 : vU x 0 = Ac x := by unfold vU; simp
 rw [e1, e2] at hf
 exact Gu Fi (M8 _ _) hf.symm hn
theorem Aqq {z : Int} (h : -34500000 ≤ z) : -345 ≤ z.tdiv 100000 := by
 rcases (show 0 ≤ z ∨ z < 0 by omega) with h1 | h1
 ·rw [Int.tdiv_eq_ediv_of_nonneg h1]
  omega
 ·have e : z = -(-z) := by omega
  rw [e, Int.neg_tdiv, Int.tdiv_eq_ediv_of_nonneg (by omega)]
  omega
theorem Afv {x : Nat} {n : Int} {w : World} (h0 : 0 < x) (hx : x < 9218868437227405312) (hn : Bv (Ac x) big n) (n1 : -345 ≤ n) (n2 : n ≤ 335) :
  Ct 153 #[.float .f64 x] (.int .i64 n) w := by
 obtain ⟨m, two, hG, hC⟩ := Ly x hx
 have hP : PartIs x m two := by
  rcases hG with ⟨h, _⟩ | ⟨_, h⟩
  ·omega
  ·exact h
 obtain ⟨q1, q2, q3, q4, q5, q6⟩ := hP.pos
 have hpt := Akd hG hn
 have hV := M8 two 0
 have hU : 0 < scN m two 0 := Nat.mul_pos (Nat.mul_pos q1 (Au _)) (Aq _)
 have bU : bln (scN m two 0) ≤ 1140 := by
  unfold scN
  rw [show (0 : Int).toNat = 0 by omega, Nat.pow_zero, Nat.mul_one]
  have := Cm m (2 ^ two.toNat)
  have := If (m := m) (k := two.toNat) q1
  omega
 have bV : bln (scD two 0) ≤ 1140 := by
  unfold scD
  rw [show (-(0 : Int)).toNat = 0 by omega, Nat.pow_zero, Nat.mul_one]
  have := Ef (-two).toNat
  omega
 have hst := Aha hU hV hpt bU bV
 have hC0 := fun W => hC 0 W (by omega) (by omega)
 obtain ⟨U, eU⟩ : ∃ U, scN m two 0 = U := ⟨_, rfl⟩
 obtain ⟨V, eV⟩ : ∃ V, scD two 0 = V := ⟨_, rfl⟩
 unfold ScQ at hC0
 rw [eU, eV] at hC0
 rw [eU] at bU hst hpt hU
 rw [eV] at bV hst hpt hV
 have hm10 : ∀ k, k ≤ 400 → bln (10 ^ k) ≤ 2000 := fun k hk => by have := Eh k; omega
 refine Yj (U := U) (V := V) (bu := bln U) (bv := bln V) (n0 := (((bln U : Int) - bln V) * 30103).tdiv 100000 - 3) (Lh fun W _ => hC0 W)
  (Lh fun W A n' c h => Ut h (by omega)) (Lh fun W A n' c h => Ut h (by omega)) (Lh fun W k hk => Gk k W (by omega))
  (Lh fun W k A n' c C k' d hk h g => Gr h g (by omega) (by have := hm10 k hk; omega)) (Lh fun W k A n' c C k' d hk h g => Gr h g (by omega) (by have := hm10 k hk; omega))
  (Lh fun W k A n' c C k' d hk h g => Ak4 h g (by omega) (by have := hm10 k hk; have := Cm V (10 ^ k); omega)) (Lh fun W k A n' c C k' d hk h g => Ak4 h g (by have := hm10 k hk; have := Cm U (10 ^ k); omega) (by omega))
  rfl (by omega) (by omega) rfl rfl rfl ?_ hst (by omega) (Lh ?_) (Lh ?_)
 ·have h1 : -1140 ≤ (bln U : Int) - bln V := by omega
  have h2 := Aqq (z := ((bln U : Int) - bln V) * 30103) (by omega)
  omega
 ·intro k hk hlt
  refine Aht.1 hlt ?_
  exact It (n - 1 - k).toNat (by rw [show k + (((n - 1 - k).toNat : Nat) : Int) = n - 1 by omega]; exact hpt.1)
 ·exact Aht.2 hpt.2
theorem Hz {A : Option Addr} {n c v : Nat} {w : World} (hA : NV w A n c v) (hv : bln v ≤ 20000) : Ct 158 #[.slice A n c] (.string (Ab (dL v))) w := by
 have h1 := At (v := v) (by omega)
 have C := Aeh A n c 10 (wds v) w hA.len hA.cap (by have := hA.len; omega) hA.row
 rw [Ad] at C
 have HC : Hid (Ct 210 #[.slice A n c, .int .i64 10] (.tuple #[.string (Ab (dL v)), .int .i64 0]) w) := Lh (C.mono (by
  rintro e w' ⟨t, k, rfl, ht, hb⟩
  have hbad : ¬ Sn 10 := by unfold Sn; omega
  rcases ht with ⟨h, _⟩ | ⟨_, h, _⟩ | ⟨_, _, h, rfl⟩
  ·exact absurd h hbad
  ·rw [Cl (by omega)] at h
   cases h
  ·rw [Ahp h]
   exact ⟨rfl, hb⟩))
 clear C hA
 go_enter Tryz.func158, Tryz.ntmps158
 go_wp2_with fail
 refine HC.out.mono ?_
 rintro e w1 ⟨rfl, b1⟩
 go_wp2
 go_ret
 exact ⟨rfl, b1⟩
end
section
theorem Aj7 {v : Nat} (h : 0 < v) : ∃ x0, (wds v)[0]? = some x0 ∧ x0 < 4294967296 ∧ x0 % 2 = v % 2 := by
 have hne : (wds v) ≠ [] := by
  intro e
  have := Ad v
  rw [e] at this
  have h0 : val [] = 0 := rfl
  omega
 have hv := Ad v
 have hws := Ax v
 cases hw : wds v with
 | nil => exact absurd hw hne
 | cons a t =>
  rw [hw] at hv hws
  refine ⟨a, rfl, hws a (by simp), ?_⟩
  rw [← hv]
  show a % 2 = (a + 4294967296 * val t) % 2
  omega
theorem Uf {x : Nat} {n : Int} {w : World} {Nf Df : Nat → Nat} {R : ByteArray → Int → Prop} (b1 : -400 ≤ n) (b2 : n ≤ 400)
  (C0 : Hid (∀ W, W = w → Ct 153 #[.float .f64 x] (.int .i64 n) W))
  (CS : Hid (∀ W (k : Nat), k ≤ 17 → Cp 154 #[.float .f64 x, .int .i64 (k - n)] W fun e w' => ∃ A a c C b d, e = .returned (.tuple #[.slice A a c, .slice C b d]) ∧ NV w' A a c (Nf k) ∧ NV w' C b d (Df k) ∧ Below W.heap.size W w'))
  (CH : Hid (∀ W (k : Nat) A a c C b d, k ≤ 17 → NV W A a c (Nf k) → NV W C b d (Df k) → Cp 155 #[.slice A a c, .slice C b d] W (Qk (Nf k) (Df k) W)))
  (CU : Hid (∀ W (k : Nat) A a c, k ≤ 17 → NV W A a c (Nf k % Df k) → Cp 157 #[.slice A a c, .int .i64 1] W (NRet (Nf k % Df k * 2 ^ 1) W)))
  (CC : Hid (∀ W (k : Nat) A a c C b d, k ≤ 17 → NV W A a c (Nf k % Df k * 2 ^ 1) → NV W C b d (Df k) → Cq 156 #[.slice A a c, .slice C b d] (.int .i64 (Gv (Nf k % Df k * 2 ^ 1) (Df k))) W))
  (CP : Hid (∀ W (k : Nat) A a c C b d, k ≤ 17 → NV W A a c (Nf k / Df k) → NV W C b d 1 → Cp 137 #[.slice A a c, .slice C b d] W (NRet (Nf k / Df k + 1) W)))
  (CN : Hid (∀ W (k : Nat) A a c, k ≤ 17 → NV W A a c (Nf k / Df k) → Ct 158 #[.slice A a c] (.string (Ab (dL (Nf k / Df k)))) W))
  (CM : Hid (∀ W (k : Nat) A a c, k ≤ 17 → NV W A a c (Nf k / Df k + 1) → Ct 158 #[.slice A a c] (.string (Ab (dL (Nf k / Df k + 1)))) W))
  (CD : Hid (∀ W (k v : Nat), k ≤ 17 → v < 10 ^ 18 → Ct 141 #[.string (Ab (dL v)), .int .i64 (n - k)] (.float .f64 (Bf v (n - k))) W))
  (hq0 : Hid (∀ k, 1 ≤ k → k ≤ 17 → 0 < Nf k / Df k ∧ Nf k / Df k + 1 < 10 ^ 18))
  (hlow : Hid (∀ k, 1 ≤ k → k ≤ 17 → (FloatKind.f64.format.order (Bf (Nf k / Df k) (n - k)) x == some .eq) = Hs x n k))
  (hhigh : Hid (∀ k, 1 ≤ k → k ≤ 17 → (FloatKind.f64.format.order (Bf (Nf k / Df k + 1) (n - k)) x == some .eq) = Fq x n k))
  (hnear : Hid (∀ k, 1 ≤ k → k ≤ 17 → (decide (Gv (Nf k % Df k * 2 ^ 1) (Df k) < 0) || ((Gv (Nf k % Df k * 2 ^ 1) (Df k) == 0) && !(((Nf k / Df k : Nat) : Int) % 2 == 1))) = Gi x n k))
  (hend : Hid (Hs x n 17 = false → Fq x n 17 = false → False))
  (rq : Hid (∀ k, 1 ≤ k → k ≤ 17 → (∀ j, 1 ≤ j → j < k → cnd x n j = none) → Hs x n k = true → (Fq x n k = false ∨ Gi x n k = true) → R (Ab (dL (Nf k / Df k))) n))
  (rs : Hid (∀ k, 1 ≤ k → k ≤ 17 → (∀ j, 1 ≤ j → j < k → cnd x n j = none) → Fq x n k = true → (Hs x n k = false ∨ Gi x n k = false) → (dL (Nf k / Df k + 1)).length ≤ k → R (Ab (dL (Nf k / Df k + 1))) n))
  (rl : Hid (∀ k, 1 ≤ k → k ≤ 17 → (∀ j, 1 ≤ j → j < k → cnd x n j = none) → Fq x n k = true → (Hs x n k = false ∨ Gi x n k = false) → k < (dL (Nf k / Df k + 1)).length → R ((Ab (dL (Nf k / Df k + 1))).extract 0 k) (n + 1))) :
  Cp 120 #[.float .f64 x] w fun e w' => (∃ S m, e = .returned (.tuple #[.string S, .int .i64 m]) ∧ R S m) ∧ Below w.heap.size w w' := by
 have b3 : -400 ≤ n ∧ n ≤ 400 := ⟨b1, b2⟩
 obtain ⟨b4, b5⟩ := b3
 go_enter Tryz.func120, Tryz.ntmps120
 go_wp2_with fail
 refine (C0.out _ rfl).mono ?_
 rintro e w1 ⟨rfl, b1'⟩
 have B1 := Lh b1'
 clear b1'
 go_wp2
 go_loopw [5] (fun v wr => ∃ k : Nat, v = .int .i64 k ∧ 1 ≤ k ∧ k ≤ 17 ∧ Hid (∀ j, 1 ≤ j → j < k → cnd x n j = none) ∧ Hid (Below w.heap.size w wr)) (fun v _ => 17 - (intOf v).toNat)
 case atStart => exact ⟨1, rfl, by omega, by omega, Lh (fun j h1 h2 => by omega), B1⟩
 case round =>
  obtain ⟨k, rfl, hk1, hk2, HN, B1⟩ := hrel
  have HK1 := Lh hk1
  have HK2 := Lh hk2
  have e1 : (1 : Int) ≤ (k : Int) := by omega
  have e2 : (k : Int) ≤ 17 := by omega
  obtain ⟨q, hq⟩ : ∃ q, Nf k / Df k = q := ⟨_, rfl⟩
  obtain ⟨r, hr⟩ : ∃ r, Nf k % Df k = r := ⟨_, rfl⟩
  have CH := Lh (fun W A a c C b d => CH.out W k A a c C b d hk2)
  have CU := Lh (fun W A a c => CU.out W k A a c hk2)
  have CC := Lh (fun W A a c C b d => CC.out W k A a c C b d hk2)
  have CP := Lh (fun W A a c C b d => CP.out W k A a c C b d hk2)
  have CN := Lh (fun W A a c => CN.out W k A a c hk2)
  have CM := Lh (fun W A a c => CM.out W k A a c hk2)
  obtain ⟨q1, q2⟩ := hq0.out k hk1 hk2
  have Q1 := Lh q1
  have CD1 := Lh (fun W => CD.out W k (Nf k / Df k) hk2 (by omega))
  have CD2 := Lh (fun W => CD.out W k (Nf k / Df k + 1) hk2 q2)
  have tl := hlow.out k hk1 hk2
  have th := hhigh.out k hk1 hk2
  have tn := hnear.out k hk1 hk2
  have rq := Lh (rq.out k hk1 hk2 HN.out)
  have rs := Lh (rs.out k hk1 hk2 HN.out)
  have rl := Lh (rl.out k hk1 hk2 HN.out)
  unfold Qk at CH
  rw [hq] at CH CP CN CM CD1 CD2 Q1 tl th tn rq rs rl
  rw [hr] at CH CU CC tn
  obtain ⟨o, ho⟩ : ∃ o, Gv (r * 2 ^ 1) (Df k) = o := ⟨_, rfl⟩
  rw [ho] at CC tn
  obtain ⟨f1, hf1⟩ : ∃ f, Bf q (n - k) = f := ⟨_, rfl⟩
  obtain ⟨f2, hf2⟩ : ∃ f, Bf (q + 1) (n - k) = f := ⟨_, rfl⟩
  rw [hf1] at CD1 tl
  rw [hf2] at CD2 th
  obtain ⟨lo, hlo⟩ : ∃ lo, Hs x n k = lo := ⟨_, rfl⟩
  obtain ⟨hi, hhi⟩ : ∃ hi, Fq x n k = hi := ⟨_, rfl⟩
  obtain ⟨nr, hnr⟩ : ∃ nr, Gi x n k = nr := ⟨_, rfl⟩
  rw [hlo] at tl rq rs rl
  rw [hhi] at th rq rs rl
  rw [hnr] at tn rq rs rl
  have HLO := Lh hlo
  have HHI := Lh hhi
  have TN := Lh tn
  obtain ⟨x0, hx1, hx2, hx3⟩ := Aj7 Q1.out
  have HX1 := Lh hx1
  have ka : bits BinOp.and IntKind.u32 (x0 : Int) 1 = ((q % 2 : Nat) : Int) := by rw [E3 x0 hx2, hx3]
  have KA := Lh ka
  have TL := Lh tl
  have TH := Lh th
  obtain ⟨s1, hs1⟩ : ∃ s, Ab (dL q) = s := ⟨_, rfl⟩
  obtain ⟨s2, hs2⟩ : ∃ s, Ab (dL (q + 1)) = s := ⟨_, rfl⟩
  rw [hs1] at CN CD1 rq
  rw [hs2] at CM CD2 rs rl
  obtain ⟨ls, hls⟩ : ∃ ls, (dL (q + 1)).length = ls := ⟨_, rfl⟩
  rw [hls] at rs rl
  have hsz : s2.size = ls := by rw [← hs2, Af, hls]
  have HSZ := Lh hsz
  clear hk1 hk2 hq hr q1 q2 ho hf1 hf2 hlo hhi hnr tn hx1 hx2 hx3 ka tl th hs1 hs2 hls hsz
  go_wp2_with fail
  refine (CS.out _ k HK2.out).mono ?_
  rintro e w2 ⟨A2, n2, c2, A3, n3, c3, rfl, g2, g3, b2'⟩
  have GN := Lh g2
  have GD := Lh g3
  have B2 := Lh (Aa B1.out b2')
  clear g2 g3 b2'
  go_wp2_with fail
  refine (CH.out _ _ _ _ _ _ _ GN.out GD.out).mono ?_
  rintro e w3 ⟨A4, n4, c4, A5, n5, c5, rfl, g4, g5, b3'⟩
  have GQ := Lh g4
  have GR := Lh g5
  have GD := Lh (GD.out.step b3')
  have B3 := Lh (Aa B2.out b3')
  clear g4 g5 b3'
  go_wp2_with fail
  refine (CU.out _ _ _ _ GR.out).mono ?_
  rintro e w4 ⟨A6, n6, c6, rfl, g6, b4'⟩
  have GU := Lh g6
  have GQ := Lh (GQ.out.step b4')
  have GD := Lh (GD.out.step b4')
  have B4 := Lh (Aa B3.out b4')
  clear g6 b4'
  go_wp2_with fail
  refine Sm (CC.out _ _ _ _ _ _ _ GU.out GD.out) ?_
  have G1 := Lh (NV.lit w4 1 (by omega) (by omega))
  have GQ := Lh (GQ.out.step (Cx w4 (.cells #[.int .u32 1] 129)))
  have B4 := Lh (Ch (.cells #[.int .u32 1] 129) B4.out)
  go_wp2_with fail
  generalize w4.alloc (.cells #[.int .u32 1] 129) = w5 at *
  refine (CP.out _ _ _ _ _ _ _ GQ.out G1.out).mono ?_
  rintro e w6 ⟨A7, n7, c7, rfl, g7, b6'⟩
  have GS := Lh g7
  have GQ := Lh (GQ.out.step b6')
  have B6 := Lh (Aa B4.out b6')
  clear g7 b6'
  go_wp2_with fail
  refine (CN.out _ _ _ _ GQ.out).mono ?_
  rintro e w7 ⟨rfl, b7'⟩
  have GS := Lh (GS.out.step b7')
  have GQ := Lh (GQ.out.step b7')
  have B7 := Lh (Aa B6.out b7')
  clear b7'
  go_wp2_with fail
  refine (CD1.out _).mono ?_
  rintro e w8 ⟨rfl, b8'⟩
  have GS := Lh (GS.out.step b8')
  have GQ := Lh (GQ.out.step b8')
  have B8 := Lh (Aa B7.out b8')
  clear b8'
  have tl := TL.out
  go_wp2_with fail
  clear tl
  refine (CM.out _ _ _ _ GS.out).mono ?_
  rintro e w9 ⟨rfl, b9'⟩
  have GS := Lh (GS.out.step b9')
  have GQ := Lh (GQ.out.step b9')
  have B9 := Lh (Aa B8.out b9')
  clear b9'
  go_wp2_with fail
  refine (CD2.out _).mono ?_
  rintro e wA ⟨rfl, bA'⟩
  have GS := Lh (GS.out.step bA')
  have GQ := Lh (GQ.out.step bA')
  have BA := Lh (Aa B9.out bA')
  clear bA'
  have hlq : 0 < n4 := by
   have h1 := GQ.out.len
   have h2 := HX1.out
   rcases Nat.eq_zero_or_pos n4 with h | h
   ·rw [List.eq_nil_of_length_eq_zero (h1.trans h)] at h2
    cases h2
   ·exact h
  obtain ⟨bq, oq, rfl, _, hcq⟩ := GQ.out.row.2 (by rw [GQ.out.len]; exact hlq)
  have c0 := hcq 0 _ HX1.out
  rw [Nat.add_zero] at c0
  clear hcq
  have hl4 : (0 : Int) < (n4 : Int) := by omega
  clear hlq
  have th := TH.out
  have ka := KA.out
  go_upto_region 11 with (fail)
  clear th ka c0
  obtain ⟨od, hod⟩ : ∃ od, ((q : Int) % 2 == 1) = od := ⟨_, rfl⟩
  rw [hod] at TN ⊢
  clear hod
  cases lo
  ·cases hi
   ·have hn : cnd x n k = none := Hw.2 ⟨HLO.out, HHI.out⟩
    have h17 : k ≠ 17 := by
     rintro rfl
     exact hend.out HLO.out HHI.out
    have HN' : Hid (∀ j, 1 ≤ j → j < k + 1 → cnd x n j = none) := Lh (fun j h1 h2 => by
     rcases Nat.lt_or_ge j k with h | h
     ·exact HN.out j h1 h
     ·rw [show j = k by omega]
      exact hn)
    have hk2 := HK2.out
    clear hn
    go_wp2
    go_roundw
    case rel => exact ⟨k + 1, by go_num, by omega, by omega, HN', BA⟩
    case measure => simp [intOf]; omega
   ·have tt : True := trivial
    go_wp2_with fail
    refine (CM.out _ _ _ _ GS.out).mono ?_
    rintro e wB ⟨rfl, bB'⟩
    have BB := Lh (Aa BA.out bB')
    clear bB'
    have hz' := HSZ.out
    by_cases hlk : k < ls
    ·have t9 : (k : Int) < (ls : Int) := by omega
     have t8 : (0 : Int) ≤ (k : Int) := by omega
     have t7 : (k : Int) ≤ (ls : Int) := by omega
     go_wp2
     go_ret2
     exact ⟨⟨_, _, rfl, rl.out (by simp) (.inl (by simp)) hlk⟩, BB.out⟩
    ·have t9 : decide (k < ls) = false := decide_eq_false hlk
     go_wp2
     go_ret2
     exact ⟨⟨_, _, rfl, rs.out (by simp) (.inl (by simp)) (by omega)⟩, BB.out⟩
  ·cases hi
   ·have tt : True := trivial
    go_wp2_with fail
    refine (CN.out _ _ _ _ GQ.out).mono ?_
    rintro e wB ⟨rfl, bB'⟩
    have BB := Lh (Aa BA.out bB')
    clear bB'
    go_wp2
    go_ret2
    exact ⟨⟨_, _, rfl, rq.out (by simp) (.inl (by simp))⟩, BB.out⟩
   ·by_cases t1 : o < 0
    ·have hn : nr = true := by rw [← TN.out, decide_eq_true t1]; rfl
     go_wp2_with fail
     refine (CN.out _ _ _ _ GQ.out).mono ?_
     rintro e wB ⟨rfl, bB'⟩
     have BB := Lh (Aa BA.out bB')
     clear bB'
     go_wp2
     go_ret2
     exact ⟨⟨_, _, rfl, rq.out (by simp) (.inr hn)⟩, BB.out⟩
    ·by_cases t2 : o = 0
     ·have t3 : (o == 0) = true := by rw [beq_iff_eq]; exact t2
      cases od
      ·have hn : nr = true := by rw [← TN.out, decide_eq_false t1, t3]; rfl
       clear t2
       go_wp2_with fail
       refine (CN.out _ _ _ _ GQ.out).mono ?_
       rintro e wB ⟨rfl, bB'⟩
       have BB := Lh (Aa BA.out bB')
       clear bB'
       go_wp2
       go_ret2
       exact ⟨⟨_, _, rfl, rq.out (by simp) (.inr hn)⟩, BB.out⟩
      ·have hn : nr = false := by rw [← TN.out, decide_eq_false t1, t3]; rfl
       clear t2
       go_wp2_with fail
       refine (CM.out _ _ _ _ GS.out).mono ?_
       rintro e wB ⟨rfl, bB'⟩
       have BB := Lh (Aa BA.out bB')
       clear bB'
       have hz' := HSZ.out
       by_cases hlk : k < ls
       ·have t9 : (k : Int) < (ls : Int) := by omega
        have t8 : (0 : Int) ≤ (k : Int) := by omega
        have t7 : (k : Int) ≤ (ls : Int) := by omega
        go_wp2
        go_ret2
        exact ⟨⟨_, _, rfl, rl.out (by simp) (.inr hn) hlk⟩, BB.out⟩
       ·have t9 : decide (k < ls) = false := decide_eq_false hlk
        go_wp2
        go_ret2
        exact ⟨⟨_, _, rfl, rs.out (by simp) (.inr hn) (by omega)⟩, BB.out⟩
     ·have t3 : (o == 0) = false := by rw [beq_eq_false_iff_ne]; exact t2
      have hn : nr = false := by rw [← TN.out, decide_eq_false t1, t3]; rfl
      clear t2
      go_wp2_with fail
      refine (CM.out _ _ _ _ GS.out).mono ?_
      rintro e wB ⟨rfl, bB'⟩
      have BB := Lh (Aa BA.out bB')
      clear bB'
      have hz' := HSZ.out
      by_cases hlk : k < ls
      ·have t9 : (k : Int) < (ls : Int) := by omega
       have t8 : (0 : Int) ≤ (k : Int) := by omega
       have t7 : (k : Int) ≤ (ls : Int) := by omega
       go_wp2
       go_ret2
       exact ⟨⟨_, _, rfl, rl.out (by simp) (.inr hn) hlk⟩, BB.out⟩
      ·have t9 : decide (k < ls) = false := decide_eq_false hlk
       go_wp2
       go_ret2
       exact ⟨⟨_, _, rfl, rs.out (by simp) (.inr hn) (by omega)⟩, BB.out⟩
end
section
theorem Ac8 {x m : Nat} {two : Int} (h : PartG x m two) (p : Int) :
  scN m two p / scD two p = vU x p / vV p ∧ (2 * (scN m two p % scD two p) < scD two p ↔ 2 * (vU x p % vV p) < vV p) ∧ (2 * (scN m two p % scD two p) = scD two p ↔ 2 * (vU x p % vV p) = vV p) :=
 Ei (M8 _ _) (Dn p) (Wf h p)
theorem Ane {a b : Nat} : Gv a b < 0 ↔ a < b := by
 unfold Gv
 split
 ·omega
 ·split <;> omega
theorem Ami {a b : Nat} : Gv a b = 0 ↔ a = b := by
 unfold Gv
 split
 ·omega
 ·split <;> omega
theorem Ama {x k : Nat} {n : Int} (h1 : Hs x n k = true) (h2 : Fq x n k = false ∨ Gi x n k = true) : cnd x n k = some (cq x n k) := by
 unfold cnd
 rw [h1]
 rcases h2 with h | h <;> rw [h] <;> simp
theorem Vc {x k : Nat} {n : Int} (h1 : Fq x n k = true) (h2 : Hs x n k = false ∨ Gi x n k = false) : cnd x n k = some (cq x n k + 1) := by
 unfold cnd
 rw [h1]
 rcases h2 with h | h <;> rw [h] <;> simp
theorem Ajh (a : Nat) : bln (a + 1) ≤ bln a + 1 := by
 rcases Nat.eq_zero_or_pos a with h | h
 ·subst h
  decide
 ·have h1 := If (k := 1) h
  rw [← h1]
  exact Cb (by omega)
theorem Wy {x : Nat} {w : World} (h0 : 0 < x) (hx : x < 9218868437227405312) : Cp 120 #[.float .f64 x] w (Jb x w) := by
 obtain ⟨m0, two0, hp0⟩ := M5 h0 hx
 obtain ⟨n, hn, n1, n2⟩ := Kl hp0
 obtain ⟨m, two, hG, hC⟩ := Ly x hx
 obtain ⟨gb1, gb2, gb3⟩ := hG.bd
 have hq : ∀ k : Nat, scN m two (k - n) / scD two (k - n) = cq x n k := fun k => (Ac8 hG _).1
 have hqb : ∀ k : Nat, 1 ≤ k → k ≤ 17 → 0 < cq x n k ∧ cq x n k + 1 ≤ 10 ^ k ∧ 10 ^ k ≤ 10 ^ 17 := fun k hk1 hk2 => by
  have h1 := Ajs hn hk1
  have h2 := Ads (k := k) hn
  have h3 := Aq (k - 1)
  exact ⟨by omega, by omega, Nat.pow_le_pow_right (by omega) hk2⟩
 have bN : ∀ k : Nat, k ≤ 17 → bln (scN m two (k - n)) ≤ 5000 := fun k hk => Ams hG (by omega)
 have bD : ∀ k : Nat, k ≤ 17 → bln (scD two (k - n)) ≤ 5000 := fun k hk => Amm gb2 (by omega)
 have bR : ∀ k : Nat, k ≤ 17 → bln (scN m two (k - n) % scD two (k - n)) ≤ 5000 := fun k hk => Nat.le_trans (Cb (Nat.mod_le _ _)) (bN k hk)
 have bQ : ∀ k : Nat, k ≤ 17 → bln (scN m two (k - n) / scD two (k - n)) ≤ 5000 := fun k hk => Nat.le_trans (Cb (Nat.div_le_self _ _)) (bN k hk)
 have bQ1 : ∀ k : Nat, k ≤ 17 → bln (scN m two (k - n) / scD two (k - n) + 1) ≤ 6000 := fun k hk => by
  have h1 := Ajh (scN m two (k - n) / scD two (k - n))
  have h2 := bQ k hk
  omega
 refine (Uf (n := n) (Nf := fun k => scN m two (k - n)) (Df := fun k => scD two (k - n)) (R := fun S N => ∃ D, S = Ab D ∧ SQ x D N) (by omega) (by omega)
  (Lh fun W _ => Afv h0 hx hn n1 n2) (Lh fun W k hk => hC _ W (by omega) (by omega))
  (Lh fun W k A a c C b d hk h g => Xb h g (by have := bN k hk; omega) (by have := bD k hk; omega) (M8 _ _))
  (Lh fun W k A a c hk h => Ajy h 1 (by have := bR k hk; omega) (by omega))
  (Lh fun W k A a c C b d hk h g => Ak4 h g (by have := bR k hk; have := Cm (scN m two (k - n) % scD two (k - n)) (2 ^ 1); have := Ef 1; omega) (by have := bD k hk; omega))
  (Lh fun W k A a c C b d hk h g => Ah1 h g (by have := bQ k hk; omega) (by decide))
  (Lh fun W k A a c hk h => Hz h (by have := bQ k hk; omega))
  (Lh fun W k A a c hk h => Hz h (by have := bQ1 k hk; omega))
  (Lh fun W k v hk hv => ?_) (Lh ?_) (Lh ?_) (Lh ?_) (Lh ?_) (Lh ?_) (Lh ?_) (Lh ?_) (Lh ?_)).mono ?_
 ·have h1 := Eu (dL v) (n - k) W (Ll v) (by have := Vj hv (by omega); omega) (by omega)
  rw [Aan] at h1
  exact h1
 ·intro k hk1 hk2
  obtain ⟨h1, h2, h3⟩ := hqb k hk1 hk2
  simp only [hq]
  omega
 ·intro k hk1 hk2
  simp only [hq]
  rw [Dx (L5 _ _) (by omega)]
  rfl
 ·intro k hk1 hk2
  simp only [hq]
  rw [Dx (L5 _ _) (by omega)]
  rfl
 ·intro k hk1 hk2
  obtain ⟨s1, s2, s3⟩ := Ac8 hG ((k : Int) - n)
  unfold Gi
  simp only [hq]
  rw [Bool.eq_iff_iff, Bool.or_eq_true, Bool.or_eq_true, Bool.and_eq_true, Bool.and_eq_true, decide_eq_true_iff, decide_eq_true_iff, decide_eq_true_iff, decide_eq_true_iff, beq_iff_eq, Ane, Ami, ← s2, ← s3, Bool.not_eq_true', beq_eq_false_iff_ne]
  generalize cq x n k = q
  generalize scN m two (↑k - n) % scD two (↑k - n) = r
  generalize scD two (↑k - n) = d
  omega
 ·intro h1 h2
  exact N6 hn h0 hx (Hw.2 ⟨h1, h2⟩)
 ·intro k hk1 hk2 hmin h1 h2
  simp only [hq]
  have hc := Ama h1 h2
  have hlt := Ads (k := k) hn
  rcases Hb hn hk1 hmin hc with ⟨g1, g2, g3⟩ | ⟨g1, g2⟩
  ·have e := Kc g1
   obtain ⟨j, rfl⟩ : ∃ j, k = j + 1 := ⟨k - 1, by omega⟩
   have hl := Uo (k := j) g2 g3
   exact ⟨_, rfl, n, j + 1, _, hn, hk1, hk2, hmin, hc, e.symm, by rw [hl]; omega⟩
  ·subst g1
   rw [g2] at hlt
   omega
 ·intro k hk1 hk2 hmin h1 h2 hle
  simp only [hq] at hle ⊢
  have hc := Vc h1 h2
  rcases Hb hn hk1 hmin hc with ⟨g1, g2, g3⟩ | ⟨g1, g2⟩
  ·have e := Kc g1
   obtain ⟨j, rfl⟩ : ∃ j, k = j + 1 := ⟨k - 1, by omega⟩
   have hl := Uo (k := j) g2 g3
   exact ⟨_, rfl, n, j + 1, _, hn, hk1, hk2, hmin, hc, e.symm, by rw [hl]; omega⟩
  ·subst g1
   rw [g2, show dL 10 = [49, 48] by rw [Hl (by omega), Cy (by omega)]; rfl] at hle
   simp at hle
 ·intro k hk1 hk2 hmin h1 h2 hle
  simp only [hq] at hle ⊢
  have hc := Vc h1 h2
  rcases Hb hn hk1 hmin hc with ⟨g1, g2, g3⟩ | ⟨g1, g2⟩
  ·exfalso
   obtain ⟨j, rfl⟩ : ∃ j, k = j + 1 := ⟨k - 1, by omega⟩
   have hl := Uo (k := j) g2 g3
   omega
  ·subst g1
   have e10 : dL 10 = [49, 48] := by rw [Hl (by omega), Cy (by omega)]; rfl
   refine ⟨[49], ?_, n, 1, _, hn, hk1, hk2, hmin, hc, ?_, ?_⟩
   ·rw [g2, e10, Dp, Aj (by simp)]
    rfl
   ·rw [g2, e10]
    rfl
   ·rw [g2, e10]
    simp
    omega
 ·rintro e w' ⟨⟨S, N, rfl, D, rfl, hq⟩, hb⟩
  exact ⟨D, N, rfl, hq, hb⟩
theorem Z3 {x : Nat} {D : List Nat} {N : Int} {w : World} (h0 : 0 < x) (hx : x < 9218868437227405312) (h : SQ x D N) :
  Ct 120 #[.float .f64 x] (.tuple #[.string (Ab D), .int .i64 N]) w := by
 refine (Wy h0 hx).mono ?_
 rintro e w' ⟨L, p, rfl, hq, hb⟩
 obtain ⟨rfl, rfl⟩ := h.one hq
 exact ⟨rfl, hb⟩
end
section
theorem Aal (k : Nat) (w : World) (hk : k < 9223372036854775808) : Ct 159 #[.int .i64 k] (.string (Ab (dL k))) w := by
 have C1 := Lh (fun W => Aqy k (by omega) W)
 have hb : bln k ≤ 64 := Fw (by omega)
 have C2 := Lh (fun W A a c (h : NV W A a c k) => Hz h (by omega))
 have k1 : IntKind.u64.wrap (k : Int) = (k : Int) := IntWalk.u64_in _ (by omega)
 have k2 : (k : Int) < 9223372036854775808 := by omega
 clear hb hk
 go_enter Tryz.func159, Tryz.ntmps159
 go_wp2_with fail
 refine (C1.out _).mono ?_
 rintro e w1 ⟨A, a, c, rfl, g, b1⟩
 have G := Lh g
 have B1 := Lh b1
 clear g b1
 go_wp2_with fail
 refine Bm (C2.out _ _ _ _ G.out) fun w2 b2 => ?_
 have B2 := Lh (Aa B1.out b2)
 clear b2
 go_wp2
 go_ret
 exact ⟨rfl, B2.out⟩
theorem Akh (k : Nat) : Ab (List.replicate k 48) ++ ⟨#[48]⟩ = Ab (List.replicate (k + 1) 48) := by
 rw [show (⟨#[48]⟩ : ByteArray) = Ab [48] from rfl, Ai, List.replicate_succ']
theorem Jw (n : Nat) (w : World) (hn : n ≤ 1000000) : Cq 121 #[.int .i64 n] (.string (Ab (List.replicate n 48))) w := by
 have hn' : (n : Int) ≤ 1000000 := by omega
 have HN := Lh hn
 clear hn
 go_enter Tryz.func121, Tryz.ntmps121
 go_wp2
 go_loopw [3, 4] (fun s i wr => ∃ (k : Nat) (T : ByteArray), i = .int .i64 k ∧ s = .string T ∧ k ≤ n ∧ Hid (T = Ab (List.replicate k 48)) ∧ w = wr) (fun _ i _ => n - (intOf i).toNat)
 case atStart => exact ⟨0, ⟨#[]⟩, rfl, rfl, by omega, Lh rfl, rfl⟩
 case round =>
  obtain ⟨k, T, rfl, rfl, hk, HT, rfl⟩ := hrel
  by_cases hlt : k < n
  ·have t1 : (k : Int) < (n : Int) := by omega
   have g1 : ¬ 9223372036854775807 < T.size + 1 := by rw [HT.out, Af, List.length_replicate]; have := HN.out; omega
   obtain ⟨T2, hT2⟩ : ∃ T2, T ++ ⟨#[48]⟩ = T2 := ⟨_, rfl⟩
   have HT2 : Hid (T2 = Ab (List.replicate (k + 1) 48)) := Lh (by rw [← hT2, HT.out, Akh])
   go_wp2
   exact ⟨⟨k + 1, T2, by go_num, rfl, by omega, HT2, trivial⟩, by simp [intOf]; omega⟩
  ·obtain rfl : k = n := by omega
   have t1 : decide (k < k) = false := decide_eq_false (by omega)
   go_wp2
   go_ret
   exact ⟨by rw [← HT.out]; rfl, rfl⟩
theorem Tf (s H Y G I F : ByteArray) (N k : Nat) (E : Int) (w : World) (hN : s.size = N) (hk : k ≤ 100000) (hE : E = (k : Int)) (hN1 : N = 1) 
  (hH : s.extract 0 1 = H) (hY : H = Y) (hYs : Hid (Y.size ≤ 1000002)) (hG : Y ++ ⟨#[101, 43]⟩ = G) (hGs : Hid (G.size ≤ 1000004)) (hIs : Hid (I.size ≤ 100)) (hF : G ++ I = F)
  (CI : Hid (∀ W, Ct 159 #[.int .i64 k] (.string I) W)) :
  Ct 122 #[.string s, .int .i64 E] (.string F) w := by
 subst hE
 have t0 : ¬ (k : Int) < 0 := by omega
 have t3 : (k : Int) ≤ 100000 := by omega
 subst hY
 have t1 : decide ((1 : Int) < (N : Int)) = false := decide_eq_false (by omega)
 have t4 : (1 : Int) ≤ (N : Int) := by omega
 clear hN1
 have g1 : ¬ 9223372036854775807 < H.size + 2 := by have := hYs.out; omega
 have g2 : ¬ 9223372036854775807 < G.size + I.size := by have := hGs.out; have := hIs.out; omega
 clear hk 
 go_enter Tryz.func122, Tryz.ntmps122
 go_wp2_with fail
 refine Bm (CI.out _) fun w2 b2 => ?_
 have B2 := Lh b2
 clear b2
 go_wp2
 go_ret
 exact ⟨rfl, B2.out⟩
theorem Ur (s H D T Y G I F : ByteArray) (N k : Nat) (E : Int) (w : World) (hN : s.size = N) (hk : k ≤ 100000) (hE : E = (k : Int)) (hN1 : 1 < N) (hN2 : N ≤ 1000000) 
  (hH : s.extract 0 1 = H) (hHs : Hid (H.size = 1)) (hD : H ++ ⟨#[46]⟩ = D) (hDs : Hid (D.size = 2)) (hT : s.extract 1 N = T) (hTs : Hid (T.size ≤ 1000000)) (hY : D ++ T = Y) (hYs : Hid (Y.size ≤ 1000002)) (hG : Y ++ ⟨#[101, 43]⟩ = G) (hGs : Hid (G.size ≤ 1000004)) (hIs : Hid (I.size ≤ 100)) (hF : G ++ I = F)
  (CI : Hid (∀ W, Ct 159 #[.int .i64 k] (.string I) W)) :
  Ct 122 #[.string s, .int .i64 E] (.string F) w := by
 subst hE
 have t0 : ¬ (k : Int) < 0 := by omega
 have t3 : (k : Int) ≤ 100000 := by omega
 have t1 : (1 : Int) < (N : Int) := by omega
 have t2 : (N : Int) ≤ 1000000 := by omega
 have t4 : (1 : Int) ≤ (N : Int) := by omega
 have g3 : ¬ 9223372036854775807 < H.size + 1 := by have := hHs.out; omega
 have g4 : ¬ 9223372036854775807 < D.size + T.size := by have := hDs.out; have := hTs.out; omega
 clear hN1 hN2
 have g1 : ¬ 9223372036854775807 < Y.size + 2 := by have := hYs.out; omega
 have g2 : ¬ 9223372036854775807 < G.size + I.size := by have := hGs.out; have := hIs.out; omega
 clear hk 
 go_enter Tryz.func122, Tryz.ntmps122
 go_wp2_with fail
 refine Bm (CI.out _) fun w2 b2 => ?_
 have B2 := Lh b2
 clear b2
 go_wp2
 go_ret
 exact ⟨rfl, B2.out⟩
theorem So (s H Y G I F : ByteArray) (N k : Nat) (E : Int) (w : World) (hN : s.size = N) (hk : k ≤ 100000) (hE : -E = (k : Int)) (h0 : 0 < k) (hN1 : N = 1) 
  (hH : s.extract 0 1 = H) (hY : H = Y) (hYs : Hid (Y.size ≤ 1000002)) (hG : Y ++ ⟨#[101, 45]⟩ = G) (hGs : Hid (G.size ≤ 1000004)) (hIs : Hid (I.size ≤ 100)) (hF : G ++ I = F)
  (CI : Hid (∀ W, Ct 159 #[.int .i64 k] (.string I) W)) :
  Ct 122 #[.string s, .int .i64 E] (.string F) w := by
 have t0 : E < 0 := by omega
 have t3 : -100000 ≤ E := by omega
 have HE := Lh hE
 subst hY
 have t1 : decide ((1 : Int) < (N : Int)) = false := decide_eq_false (by omega)
 have t4 : (1 : Int) ≤ (N : Int) := by omega
 clear hN1
 have g1 : ¬ 9223372036854775807 < H.size + 2 := by have := hYs.out; omega
 have g2 : ¬ 9223372036854775807 < G.size + I.size := by have := hGs.out; have := hIs.out; omega
 clear hk hE h0
 have hE := HE.out
 go_enter Tryz.func122, Tryz.ntmps122
 go_wp2_with fail
 refine Bm (CI.out _) fun w2 b2 => ?_
 have B2 := Lh b2
 clear b2
 go_wp2
 go_ret
 exact ⟨rfl, B2.out⟩
theorem U3 (s H D T Y G I F : ByteArray) (N k : Nat) (E : Int) (w : World) (hN : s.size = N) (hk : k ≤ 100000) (hE : -E = (k : Int)) (h0 : 0 < k) (hN1 : 1 < N) (hN2 : N ≤ 1000000) 
  (hH : s.extract 0 1 = H) (hHs : Hid (H.size = 1)) (hD : H ++ ⟨#[46]⟩ = D) (hDs : Hid (D.size = 2)) (hT : s.extract 1 N = T) (hTs : Hid (T.size ≤ 1000000)) (hY : D ++ T = Y) (hYs : Hid (Y.size ≤ 1000002)) (hG : Y ++ ⟨#[101, 45]⟩ = G) (hGs : Hid (G.size ≤ 1000004)) (hIs : Hid (I.size ≤ 100)) (hF : G ++ I = F)
  (CI : Hid (∀ W, Ct 159 #[.int .i64 k] (.string I) W)) :
  Ct 122 #[.string s, .int .i64 E] (.string F) w := by
 have t0 : E < 0 := by omega
 have t3 : -100000 ≤ E := by omega
 have HE := Lh hE
 have t1 : (1 : Int) < (N : Int) := by omega
 have t2 : (N : Int) ≤ 1000000 := by omega
 have t4 : (1 : Int) ≤ (N : Int) := by omega
 have g3 : ¬ 9223372036854775807 < H.size + 1 := by have := hHs.out; omega
 have g4 : ¬ 9223372036854775807 < D.size + T.size := by have := hDs.out; have := hTs.out; omega
 clear hN1 hN2
 have g1 : ¬ 9223372036854775807 < Y.size + 2 := by have := hYs.out; omega
 have g2 : ¬ 9223372036854775807 < G.size + I.size := by have := hGs.out; have := hIs.out; omega
 clear hk hE h0
 have hE := HE.out
 go_enter Tryz.func122, Tryz.ntmps122
 go_wp2_with fail
 refine Bm (CI.out _) fun w2 b2 => ?_
 have B2 := Lh b2
 clear b2
 go_wp2
 go_ret
 exact ⟨rfl, B2.out⟩
theorem P7 (l : List Nat) (E : Int) (w : World) (hl : ∀ c ∈ l, c < 256) (hn0 : 1 ≤ l.length) (hn : l.length ≤ 1000000) (h1 : -100000 ≤ E) (h2 : E ≤ 100000) :
  Ct 122 #[.string (Ab l), .int .i64 E] (.string (Ab (scL l E))) w := by
 obtain ⟨k, hk⟩ : ∃ k, E.natAbs = k := ⟨_, rfl⟩
 have hI : (Ab (dL k)).size ≤ 100 := by
  rw [Af]
  exact Nat.le_trans (Vj (k := 6) (by omega) (by omega)) (by omega)
 have hsg : (sgL E).length = 2 := by unfold sgL; split <;> rfl
 have hY : (Ab (mnL l)).size ≤ 1000002 := by rw [Af]; have := Kh l; omega
 have hG : (Ab (mnL l ++ sgL E)).size ≤ 1000004 := by
  rw [Af, List.length_append]
  have := Kh l
  omega
 have hF : Ab (mnL l ++ sgL E) ++ Ab (dL k) = Ab (scL l E) := by rw [Ai, ← hk]; rfl
 have CI := Lh (fun W => Aal k W (by omega))
 have hb := Aj hl
 have hsz := Af l
 have e1 : (Ab l).extract 0 1 = Ab (l.take 1) := by rw [Dp, hb]
 have e2 : (Ab l).extract 1 l.length = Ab (l.drop 1) := by rw [← hsz, Et, hb]
 have z1 : (Ab (l.take 1)).size = 1 := by rw [Af, List.length_take]; omega
 have z2 : (Ab (l.take 1 ++ [46])).size = 2 := by rw [Af, List.length_append, List.length_take]; simp; omega
 have z3 : (Ab (l.drop 1)).size ≤ 1000000 := by rw [Af, List.length_drop]; omega
 have e3 : Ab (l.take 1) ++ ⟨#[46]⟩ = Ab (l.take 1 ++ [46]) := by rw [Nd, Ai]
 have hYY : ¬ l.length ≤ 1 → Ab (l.take 1 ++ [46]) ++ Ab (l.drop 1) = Ab (mnL l) := by
  intro h
  rw [Ai]
  unfold mnL
  rw [if_neg h, List.append_assoc, List.singleton_append]
 have hY1 : l.length ≤ 1 → Ab (l.take 1) = Ab (mnL l) := by
  intro h
  unfold mnL
  rw [if_pos h, List.take_of_length_le h]
 by_cases hE : E < 0
 ·have hs : Ab (mnL l) ++ (⟨#[101, 45]⟩ : ByteArray) = Ab (mnL l ++ sgL E) := by
   unfold sgL
   rw [if_pos hE, ← Ai]
   rfl
  by_cases hL : l.length ≤ 1
  ·exact So _ _ _ _ _ _ l.length k E w hsz (by omega) (by omega) (by omega) (by omega) e1 (hY1 hL) (Lh hY) hs (Lh hG) (Lh hI) hF CI
  ·exact U3 _ _ _ _ _ _ _ _ l.length k E w hsz (by omega) (by omega) (by omega) (by omega) hn e1 (Lh z1) e3 (Lh z2) e2 (Lh z3) (hYY hL) (Lh hY) hs (Lh hG) (Lh hI) hF CI
 ·have hs : Ab (mnL l) ++ (⟨#[101, 43]⟩ : ByteArray) = Ab (mnL l ++ sgL E) := by
   unfold sgL
   rw [if_neg hE, ← Ai]
   rfl
  by_cases hL : l.length ≤ 1
  ·exact Tf _ _ _ _ _ _ l.length k E w hsz (by omega) (by omega) (by omega) e1 (hY1 hL) (Lh hY) hs (Lh hG) (Lh hI) hF CI
  ·exact Ur _ _ _ _ _ _ _ _ l.length k E w hsz (by omega) (by omega) (by omega) hn e1 (Lh z1) e3 (Lh z2) e2 (Lh z3) (hYY hL) (Lh hY) hs (Lh hG) (Lh hI) hF CI
end
section
theorem Ag4 (x : Nat) (w : World)
  (CN : Hid (∀ W, Cq 41 #[.float .f64 x] (.bool true) W)) :
  Cq 85 #[.float .f64 x] (.string ⟨#[78, 97, 78]⟩) w := by
 go_enter Tryz.func85, Tryz.ntmps85
 go_wp2_with fail
 refine Sm (CN.out _) ?_
 go_wp2
 go_ret
 exact ⟨rfl, rfl⟩
theorem Ot (x : Nat) (w : World) (t0 : (FloatKind.f64.format.order x 0 == some .eq) = true)
  (CN : Hid (∀ W, Cq 41 #[.float .f64 x] (.bool false) W)) :
  Cq 85 #[.float .f64 x] (.string ⟨#[48]⟩) w := by
 go_enter Tryz.func85, Tryz.ntmps85
 go_wp2_with fail
 refine Sm (CN.out _) ?_
 go_wp2
 go_ret
 exact ⟨rfl, rfl⟩
theorem Af7 (x : Nat) (w : World) (t0 : (FloatKind.f64.format.order x 0 == some .eq) = false) (t1 : (FloatKind.f64.format.order x 0 == some .lt) = false)
  (CN : Hid (∀ W, Cq 41 #[.float .f64 x] (.bool false) W))
  (CI : Hid (∀ W, Cq 114 #[.float .f64 x, .int .i64 1] (.bool true) W)) :
  Cq 85 #[.float .f64 x] (.string ⟨#[73, 110, 102, 105, 110, 105, 116, 121]⟩) w := by
 go_enter Tryz.func85, Tryz.ntmps85
 go_wp2_with fail
 refine Sm (CN.out _) ?_
 go_wp2_with fail
 refine Sm (CI.out _) ?_
 go_wp2
 go_ret
 exact ⟨rfl, rfl⟩
theorem R7 (x y : Nat) (S F : ByteArray) (w : World) (t0 : (FloatKind.f64.format.order x 0 == some .eq) = false) (t1 : (FloatKind.f64.format.order x 0 == some .lt) = true)
  (r3 : ∀ W, (Op.unary UnOp.neg (.float .f64 x)).run Tryz.prog W = .ok (.float .f64 y) W)
  (CN : Hid (∀ W, Cq 41 #[.float .f64 x] (.bool false) W))
  (CT : Hid (∀ W, Ct 85 #[.float .f64 y] (.string S) W)) (hS : Hid (S.size ≤ 1000000)) (hF : ⟨#[45]⟩ ++ S = F) :
  Ct 85 #[.float .f64 x] (.string F) w := by
 have g1 : ¬ 9223372036854775807 < 1 + S.size := by have := hS.out; omega
 go_enter Tryz.func85, Tryz.ntmps85
 go_wp2_with fail
 refine Sm (CN.out _) ?_
 go_wp2_with fail
 refine Bm (CT.out _) fun w2 b2 => ?_
 have B2 := Lh b2
 clear b2
 go_wp2
 go_ret
 exact ⟨rfl, B2.out⟩
theorem Vd (x : Nat) (N : Int) (n z : Nat) (Z : ByteArray) (S F : ByteArray) (w : World) (t0 : (FloatKind.f64.format.order x 0 == some .eq) = false) (t1 : (FloatKind.f64.format.order x 0 == some .lt) = false) (hn : S.size = n) (h1 : (n : Int) ≤ N) (h2 : N ≤ 21) (hz : N - (n : Int) = (z : Int)) (hZ : Hid (Z.size ≤ 1000)) (hF : S ++ Z = F)
  (CR : Hid (∀ W, Cq 121 #[.int .i64 z] (.string Z) W))
  (CN : Hid (∀ W, Cq 41 #[.float .f64 x] (.bool false) W))
  (CI : Hid (∀ W, Cq 114 #[.float .f64 x, .int .i64 1] (.bool false) W))
  (C : Hid (∀ W, Ct 120 #[.float .f64 x] (.tuple #[.string S, .int .i64 N]) W)) :
  Ct 85 #[.float .f64 x] (.string F) w := by
 have g1 : ¬ 9223372036854775807 < n + Z.size := by have := hZ.out; omega
 have hzz := Lh hz
 have h6 : 0 ≤ (n : Int) := by omega
 go_enter Tryz.func85, Tryz.ntmps85
 go_wp2_with fail
 refine Sm (CN.out _) ?_
 go_wp2_with fail
 refine Sm (CI.out _) ?_
 go_wp2_with fail
 refine (C.out _).mono ?_
 rintro e w1 ⟨rfl, b1'⟩
 have B1 := Lh b1'
 clear b1'
 go_wp2_with fail
 refine Sm (CR.out _) ?_
 go_wp2
 go_ret
 exact ⟨rfl, B1.out⟩
theorem W5 (x : Nat) (N : Int) (n j : Nat) (H D T : ByteArray) (S F : ByteArray) (w : World) (t0 : (FloatKind.f64.format.order x 0 == some .eq) = false) (t1 : (FloatKind.f64.format.order x 0 == some .lt) = false) (hn : S.size = n) (hj : N = (j : Int)) (h0 : 0 < j) (h1 : j < n) (h2 : j ≤ 21) (hH : S.extract 0 j = H) (hHs : Hid (H.size ≤ 1000)) (hD : H ++ ⟨#[46]⟩ = D) (hDs : Hid (D.size ≤ 1001)) (hT : S.extract j n = T) (hTs : Hid (T.size ≤ 1000)) (hF : D ++ T = F)
  (CN : Hid (∀ W, Cq 41 #[.float .f64 x] (.bool false) W))
  (CI : Hid (∀ W, Cq 114 #[.float .f64 x, .int .i64 1] (.bool false) W))
  (C : Hid (∀ W, Ct 120 #[.float .f64 x] (.tuple #[.string S, .int .i64 N]) W)) :
  Ct 85 #[.float .f64 x] (.string F) w := by
 subst hj
 have t2 : ¬ (n : Int) ≤ (j : Int) := by omega
 have t2' : decide (n ≤ j) = false := decide_eq_false (by omega)
 have t3 : 0 < (j : Int) := by omega
 have t4 : (j : Int) ≤ 21 := by omega
 have t5 : (j : Int) ≤ (n : Int) := by omega
 have t6 : 0 ≤ (j : Int) := by omega
 have g1 : ¬ 9223372036854775807 < H.size + 1 := by have := hHs.out; omega
 have g2 : ¬ 9223372036854775807 < D.size + T.size := by have := hDs.out; have := hTs.out; omega
 go_enter Tryz.func85, Tryz.ntmps85
 go_wp2_with fail
 refine Sm (CN.out _) ?_
 go_wp2_with fail
 refine Sm (CI.out _) ?_
 go_wp2_with fail
 refine (C.out _).mono ?_
 rintro e w1 ⟨rfl, b1'⟩
 have B1 := Lh b1'
 clear b1'
 go_wp2_with fail
 clear hHs hDs hTs h0 h1 h2
 go_quiet (fail)
 go_wp2
 go_ret
 exact ⟨rfl, Ae B1.out _⟩
theorem Ad1 (x : Nat) (N : Int) (n z : Nat) (Z D : ByteArray) (S F : ByteArray) (w : World) (t0 : (FloatKind.f64.format.order x 0 == some .eq) = false) (t1 : (FloatKind.f64.format.order x 0 == some .lt) = false) (hn : S.size = n) (hn1 : 1 ≤ n) (hn2 : n ≤ 1000) (h1 : -6 < N) (h2 : N ≤ 0) (hz : -N = (z : Int)) (hZ : Hid (Z.size ≤ 1000)) (hD : ⟨#[48, 46]⟩ ++ Z = D) (hDs : Hid (D.size ≤ 1002)) (hF : D ++ S = F)
  (CR : Hid (∀ W, Cq 121 #[.int .i64 z] (.string Z) W))
  (CN : Hid (∀ W, Cq 41 #[.float .f64 x] (.bool false) W))
  (CI : Hid (∀ W, Cq 114 #[.float .f64 x, .int .i64 1] (.bool false) W))
  (C : Hid (∀ W, Ct 120 #[.float .f64 x] (.tuple #[.string S, .int .i64 N]) W)) :
  Ct 85 #[.float .f64 x] (.string F) w := by
 have g1 : ¬ 9223372036854775807 < 2 + Z.size := by have := hZ.out; omega
 have g2 : ¬ 9223372036854775807 < D.size + n := by have := hDs.out; omega
 have hzz := Lh hz
 have t2 : ¬ (n : Int) ≤ N := by omega
 have t3 : ¬ 0 < N := by omega
 have h6 : 0 ≤ (n : Int) := by omega
 go_enter Tryz.func85, Tryz.ntmps85
 go_wp2_with fail
 refine Sm (CN.out _) ?_
 go_wp2_with fail
 refine Sm (CI.out _) ?_
 go_wp2_with fail
 refine (C.out _).mono ?_
 rintro e w1 ⟨rfl, b1'⟩
 have B1 := Lh b1'
 clear b1'
 go_wp2_with fail
 refine Sm (CR.out _) ?_
 go_wp2
 go_ret
 exact ⟨rfl, B1.out⟩
theorem Ab4 (x : Nat) (N : Int) (n : Nat) (S F : ByteArray) (w : World) (t0 : (FloatKind.f64.format.order x 0 == some .eq) = false) (t1 : (FloatKind.f64.format.order x 0 == some .lt) = false) (hn : S.size = n) (b1 : N ≤ 1000) (h1 : 21 < N)
  (CE : Hid (∀ W, Ct 122 #[.string S, .int .i64 (N - 1)] (.string F) W))
  (CN : Hid (∀ W, Cq 41 #[.float .f64 x] (.bool false) W))
  (CI : Hid (∀ W, Cq 114 #[.float .f64 x, .int .i64 1] (.bool false) W))
  (C : Hid (∀ W, Ct 120 #[.float .f64 x] (.tuple #[.string S, .int .i64 N]) W)) :
  Ct 85 #[.float .f64 x] (.string F) w := by
 have t4 : ¬ N ≤ 21 := by omega
 have t3 : 0 < N := by omega
 have t5 : ¬ N ≤ 0 := by omega
 have t6 : -6 < N := by omega
 by_cases hw : (n : Int) ≤ N
 ·skip
  go_enter Tryz.func85, Tryz.ntmps85
  go_wp2_with fail
  refine Sm (CN.out _) ?_
  go_wp2_with fail
  refine Sm (CI.out _) ?_
  go_wp2_with fail
  refine (C.out _).mono ?_
  rintro e w1 ⟨rfl, b1'⟩
  have B1 := Lh b1'
  clear b1'
  go_wp2_with fail
  refine (CE.out _).mono ?_
  rintro e w2 ⟨rfl, b2'⟩
  have B2 := Lh (Aa B1.out b2')
  clear b2'
  go_wp2
  go_ret
  exact ⟨rfl, B2.out⟩
 ·skip
  go_enter Tryz.func85, Tryz.ntmps85
  go_wp2_with fail
  refine Sm (CN.out _) ?_
  go_wp2_with fail
  refine Sm (CI.out _) ?_
  go_wp2_with fail
  refine (C.out _).mono ?_
  rintro e w1 ⟨rfl, b1'⟩
  have B1 := Lh b1'
  clear b1'
  go_wp2_with fail
  refine (CE.out _).mono ?_
  rintro e w2 ⟨rfl, b2'⟩
  have B2 := Lh (Aa B1.out b2')
  clear b2'
  go_wp2
  go_ret
  exact ⟨rfl, B2.out⟩
theorem Abr (x : Nat) (N : Int) (n : Nat) (S F : ByteArray) (w : World) (t0 : (FloatKind.f64.format.order x 0 == some .eq) = false) (t1 : (FloatKind.f64.format.order x 0 == some .lt) = false) (hn : S.size = n) (hn1 : 1 ≤ n) (hn2 : n ≤ 1000) (b1 : -1000 ≤ N) (h1 : N ≤ -6)
  (CE : Hid (∀ W, Ct 122 #[.string S, .int .i64 (N - 1)] (.string F) W))
  (CN : Hid (∀ W, Cq 41 #[.float .f64 x] (.bool false) W))
  (CI : Hid (∀ W, Cq 114 #[.float .f64 x, .int .i64 1] (.bool false) W))
  (C : Hid (∀ W, Ct 120 #[.float .f64 x] (.tuple #[.string S, .int .i64 N]) W)) :
  Ct 85 #[.float .f64 x] (.string F) w := by
 have t2 : ¬ (n : Int) ≤ N := by omega
 have t3 : ¬ 0 < N := by omega
 have t6 : ¬ -6 < N := by omega
 go_enter Tryz.func85, Tryz.ntmps85
 go_wp2_with fail
 refine Sm (CN.out _) ?_
 go_wp2_with fail
 refine Sm (CI.out _) ?_
 go_wp2_with fail
 refine (C.out _).mono ?_
 rintro e w1 ⟨rfl, b1'⟩
 have B1 := Lh b1'
 clear b1'
 go_wp2_with fail
 refine (CE.out _).mono ?_
 rintro e w2 ⟨rfl, b2'⟩
 have B2 := Lh (Aa B1.out b2')
 clear b2'
 go_wp2
 go_ret
 exact ⟨rfl, B2.out⟩
end
section
theorem Aon {x : Nat} (hx : x < 18446744073709551616) (h : Ca x = true) : x = 9223372036854775808 + Ba x := by
 unfold Ca at h
 have h1 := of_decide_eq_true (by simpa using h : decide (x / 9223372036854775808 % 2 = 1) = true)
 unfold Ba
 omega
theorem Ack {r : Nat} (h : r < 9223372036854775808) : Y4 (9223372036854775808 + r) = r := by
 have h1 := T6 h
 have h2 : (9223372036854775808 + r) ^^^ 9223372036854775808 = r := by
  have h3 : r ^^^ 9223372036854775808 = 9223372036854775808 + r := h1
  rw [← h3, Nat.xor_assoc, Nat.xor_self, Nat.xor_zero]
 exact h2
theorem Aqt {l : List Nat} {j : Nat} (h0 : 0 < j) (h : j < l.length) : ptL l (l.length - j) = l.take j ++ 46 :: l.drop j := by
 unfold ptL
 rw [if_neg (by omega), show l.length - j + 1 - l.length = 0 by omega, List.replicate_zero, List.nil_append, show 0 + l.length - (l.length - j) = j by omega]
theorem Aos (l : List Nat) (z : Nat) (h : 0 < l.length) : ptL l (l.length + z) = 48 :: 46 :: (List.replicate z 48 ++ l) := by
 unfold ptL
 rw [if_neg (by omega), show l.length + z + 1 - l.length = z + 1 by omega, show z + 1 + l.length - (l.length + z) = 1 by omega, List.replicate_succ, List.cons_append, List.take_succ_cons, List.take_zero, List.drop_succ_cons, List.drop_zero]
 rfl
theorem Ad8 {r : Nat} {L : List Nat} {w : World} (hr : r < 9218868437227405312) (h : PlQ r L) :
  Ct 85 #[.float .f64 r] (.string (Ab L)) w := by
 have CN := Lh (fun W => By r W)
 have CI := Lh (fun W => Ji r W)
 have e1 : Ba r = r := (F7 (x := r) (by omega)).2
 rw [show Cs r = false from decide_eq_false (by rw [e1]; omega)] at CN
 rw [show Fa r = false from decide_eq_false (by rw [e1]; omega), Bool.false_and] at CI
 rcases h with ⟨rfl, rfl⟩ | ⟨h0, D, N, hq, rfl⟩
 ·refine Sm (Ot 0 w (by rw [Dx (by omega) (by omega)]; rfl) CN) ?_
  exact ⟨rfl, Below.refl _ _⟩
 ·obtain ⟨b1, b2, b3, b4, b5⟩ := hq.bd h0 hr
  have t0 : (FloatKind.f64.format.order r 0 == some .eq) = false := by rw [Dx (by omega) (by omega)]; exact decide_eq_false (by omega)
  have t1 : (FloatKind.f64.format.order r 0 == some .lt) = false := by rw [Hi (by omega) (by omega)]; exact decide_eq_false (by omega)
  have C := Lh (fun W => Z3 (w := W) h0 hr hq)
  have CE := Lh (fun W => P7 D (N - 1) W b5 b3 (by omega) (by omega) (by omega))
  have hb := Aj b5
  have hsz := Af D
  unfold plL
  by_cases h1 : N ≤ -6
  ·rw [if_pos (.inl h1)]
   exact Abr r N D.length _ _ w t0 t1 hsz b3 (by omega) (by omega) h1 CE CN CI C
  ·by_cases h2 : 21 < N
   ·rw [if_pos (.inr h2)]
    exact Ab4 r N D.length _ _ w t0 t1 hsz (by omega) h2 CE CN CI C
   ·rw [if_neg (by omega)]
    by_cases h3 : (D.length : Int) ≤ N
    ·rw [if_pos h3]
     exact Vd r N D.length (N - D.length).toNat (Ab (List.replicate (N - D.length).toNat 48)) _ _ w t0 t1 hsz h3 (by omega) (by omega) (Lh (by rw [Af, List.length_replicate]; omega)) (Ai _ _) (Lh fun W => (Jw _ W (by omega)).mono fun e w' h => ⟨h.1, h.2⟩) CN CI C
    ·rw [if_neg h3]
     by_cases h4 : N ≤ 0
     ·obtain ⟨z, hz⟩ : ∃ z : Nat, -N = (z : Int) := ⟨(-N).toNat, by omega⟩
      rw [show ((D.length : Int) - N).toNat = D.length + z by omega, Aos D z b3]
      refine Ad1 r N D.length z (Ab (List.replicate z 48)) (Ab (48 :: 46 :: List.replicate z 48)) _ _ w t0 t1 hsz b3 (by omega) (by omega) h4 hz (Lh (by rw [Af, List.length_replicate]; omega)) ?_ (Lh (by rw [Af, List.length_cons, List.length_cons, List.length_replicate]; omega)) ?_ (Lh fun W => (Jw _ W (by omega)).mono fun e w' h => ⟨h.1, h.2⟩) CN CI C
      ·rw [show (⟨#[48, 46]⟩ : ByteArray) = Ab [48, 46] from rfl, Ai]; rfl
      ·rw [Ai]; rfl
     ·obtain ⟨j, hj⟩ : ∃ j : Nat, N = (j : Int) := ⟨N.toNat, by omega⟩
      rw [show ((D.length : Int) - N).toNat = D.length - j by omega, Aqt (by omega) (by omega)]
      refine W5 r N D.length j (Ab (D.take j)) (Ab (D.take j ++ [46])) (Ab (D.drop j)) _ _ w t0 t1 hsz hj (by omega) (by omega) (by omega) (by rw [Dp, hb]) (Lh (by rw [Af, List.length_take]; omega)) (by rw [Nd, Ai]) (Lh (by rw [Af, List.length_append, List.length_take, List.length_singleton]; omega)) (by rw [← hsz, Et, hb]) (Lh (by rw [Af, List.length_drop]; omega)) ?_ CN CI C
      rw [Ai, List.append_assoc, List.singleton_append]
theorem Ago {x : Nat} {L : List Nat} {w : World} (hx : x < 18446744073709551616) (h : TxQ x L) :
  Ct 85 #[.float .f64 x] (.string (Ab L)) w := by
 have CN := Lh (fun W => By x W)
 rcases h with ⟨h1, rfl⟩ | ⟨h1, h2, rfl⟩ | ⟨h1, h2, l, h3, rfl⟩
 ·rw [h1] at CN
  refine Sm (Ag4 x w CN) ?_
  exact ⟨rfl, Below.refl _ _⟩
 ·rw [h1] at CN
  have hr : Ba x = 9218868437227405312 := of_decide_eq_true h2
  have pos : ∀ W, Cq 85 #[.float .f64 9218868437227405312] (.string (Ab infL)) W := fun W =>
   Af7 9218868437227405312 W (by rw [Dx (by omega) (by omega)]; rfl) (by rw [Hi (by omega) (by omega)]; rfl) (Lh fun W => By _ W) (Lh fun W => Ji _ W)
  unfold sgx ngB
  cases hn : Ca x
  ·have : x = 9218868437227405312 := by
    rw [← hr]
    unfold Ca at hn
    unfold Ba
    simp at hn
    omega
   subst this
   refine Sm (pos w) ?_
   exact ⟨rfl, Below.refl _ _⟩
  ·have hw := Aon hx hn
   rw [hr] at hw
   subst hw
   rw [Bool.true_and, if_pos (decide_eq_true (by omega))]
   refine R7 _ 9218868437227405312 (Ab infL) _ w (by decide) (by decide) (fun W => by
    have h3 : (Op.unary UnOp.neg (.float .f64 (9223372036854775808 + 9218868437227405312))).run Tryz.prog W = .ok (.float .f64 (Y4 (9223372036854775808 + 9218868437227405312))) W := rfl
    rw [Ack (by omega)] at h3
    exact h3) CN (Lh fun W => (pos W).mono fun e w' h => ⟨h.1, h.2 ▸ Below.refl _ _⟩) (Lh (by decide)) ?_
   rw [show (⟨#[45]⟩ : ByteArray) = Ab [45] from rfl, Ai]
 ·rw [h1] at CN
  have hr := Js h1 h2
  have hp := fun W => Ad8 (w := W) hr h3
  obtain ⟨l1, l2⟩ := PlQ.bd hr h3
  unfold sgx ngB
  cases hn : Ca x
  ·have : Ba x = x := by
    unfold Ca at hn
    unfold Ba
    simp at hn
    omega
   rw [this] at hp
   exact hp w
  ·have hw := Aon hx hn
   rcases Nat.eq_zero_or_pos (Ba x) with h0 | h0
   ·rw [Bool.true_and, if_neg (by rw [h0]; decide)]
    rw [h0] at h3 hw
    rcases h3 with ⟨_, rfl⟩ | ⟨h4, _⟩
    ·subst hw
     refine Sm (Ot _ w (by decide) CN) ?_
     exact ⟨rfl, Below.refl _ _⟩
    ·omega
   ·rw [Bool.true_and, if_pos (decide_eq_true h0)]
    have hlt := Ada x
    rw [h1] at hlt
    have hg : ngB x = true := by unfold ngB; rw [hn, decide_eq_true h0]; rfl
    rw [hg] at hlt
    refine R7 x (Ba x) (Ab l) _ w ?_ hlt (fun W => by
     have h4 : (Op.unary UnOp.neg (.float .f64 x)).run Tryz.prog W = .ok (.float .f64 (Y4 x)) W := rfl
     rw [h4]
     conv => lhs; rw [hw]
     rw [Ack (by omega)]) CN (Lh hp) (Lh (by rw [Af]; omega)) ?_
    ·have h5 := eq_of_beq hlt
     rw [h5]
     rfl
    ·rw [show (⟨#[45]⟩ : ByteArray) = Ab [45] from rfl, Ai]
theorem TxQ.bd {x : Nat} {L : List Nat} (h : TxQ x L) : (∀ c ∈ L, c < 256) ∧ L.length ≤ 2000 := by
 have hs : (∀ c ∈ sgx x, c < 256) ∧ (sgx x).length ≤ 1 := by
  unfold sgx
  split <;> simp
 rcases h with ⟨h1, rfl⟩ | ⟨h1, h2, rfl⟩ | ⟨h1, h2, l, h3, rfl⟩
 ·exact ⟨by simp, by simp⟩
 ·refine ⟨?_, by rw [List.length_append]; have : infL.length = 8 := rfl; omega⟩
  intro c hc
  rw [List.mem_append] at hc
  rcases hc with hc | hc
  ·exact hs.1 c hc
  ·exact (by decide : ∀ c ∈ infL, c < 256) c hc
 ·obtain ⟨l1, l2⟩ := PlQ.bd (Js h1 h2) h3
  refine ⟨?_, by rw [List.length_append]; omega⟩
  intro c hc
  rw [List.mem_append] at hc
  rcases hc with hc | hc
  ·exact hs.1 c hc
  ·exact l1 c hc
theorem Aew {x : Nat} {L : List Nat} {w : World} (hx : x < 18446744073709551616) (h : TxQ x L) :
  Ct 54 #[.float .f64 x] (.string (wdS L)) w := by
 have C := Lh (fun W => Ago (w := W) hx h)
 obtain ⟨b1, b2⟩ := h.bd
 have CW := Lh (fun W => Rf L W b1 (by omega))
 clear h b1 b2
 go_enter Tryz.func54, Tryz.ntmps54
 go_wp2_with fail
 refine Bm (C.out _) fun w1 b1 => ?_
 have B1 := Lh b1
 clear b1
 go_wp2_with fail
 refine Bm (CW.out _) fun w2 b2 => ?_
 have B2 := Lh (Aa B1.out b2)
 clear b2
 go_wp2
 go_ret
 exact ⟨rfl, B2.out⟩
end
section
def Qx : ByteArray := wdS [111, 98, 106, 101, 99, 116]
def Akv : ByteArray := wdS [98, 111, 111, 108, 101, 97, 110]
def Ak9 : ByteArray := wdS [110, 117, 109, 98, 101, 114]
def Aju : ByteArray := wdS [115, 116, 114, 105, 110, 103]
def Ah4 : ByteArray := wdS [102, 117, 110, 99, 116, 105, 111, 110]
def Aoy (v : Val) (c : Bool) : ByteArray := if v.vk = 0 then wUnd else if v.vk = 2 then Akv else if v.vk = 3 then Ak9 else if v.vk = 4 then Aju else if v.vk = 5 then (if c = true then Ah4 else Qx) else Qx
theorem D9 (L : List Nat) (w : World) (hL : (L.all fun c => decide (c < 256)) = true) (hl : L.length ≤ 100000) : Ct 43 #[.string (Ab L)] (.string (wdS L)) w :=
 Rf L w (fun c hc => by simpa using List.all_eq_true.1 hL c hc) hl
theorem Ev (L : List Nat) (w : World) (hL : (L.all fun c => decide (c < 256)) = true) (hl : L.length ≤ 100000) : Ct 52 #[.string (Ab L)] (.string (wdS L)) w :=
 F5 L w (fun c hc => by simpa using List.all_eq_true.1 hL c hc) hl
theorem Agd  (c : Bool) (w : World) : Ct 27 #[.agg #[.int .i64 0, .bool false, .float .f64 0, .string ⟨#[]⟩, .int .i64 0], .bool c] (.string wUnd) w := by
 have CW := Lh (fun W => (show Cp 43 #[.string ⟨#[117, 110, 100, 101, 102, 105, 110, 101, 100]⟩] W fun e w' => e = .returned (.string wUnd) ∧ Below W.heap.size W w' from D9 [117, 110, 100, 101, 102, 105, 110, 101, 100] W rfl (by decide)))
 go_enter Tryz.func27, Tryz.ntmps27
 go_wp2_with fail
 refine Bm (CW.out _) fun w2 b2 => ?_
 go_wp2
 go_ret
 exact ⟨rfl, Aa (Ag _ _) b2⟩
theorem Afb  (c : Bool) (w : World) : Ct 27 #[.agg #[.int .i64 1, .bool false, .float .f64 0, .string ⟨#[]⟩, .int .i64 0], .bool c] (.string Qx) w := by
 have CW := Lh (fun W => (show Cp 43 #[.string ⟨#[111, 98, 106, 101, 99, 116]⟩] W fun e w' => e = .returned (.string Qx) ∧ Below W.heap.size W w' from D9 [111, 98, 106, 101, 99, 116] W rfl (by decide)))
 go_enter Tryz.func27, Tryz.ntmps27
 go_wp2_with fail
 refine Bm (CW.out _) fun w2 b2 => ?_
 go_wp2
 go_ret
 exact ⟨rfl, Aa (Ag _ _) b2⟩
theorem Ag1 (b : Bool) (c : Bool) (w : World) : Ct 27 #[.agg #[.int .i64 2, .bool b, .float .f64 0, .string ⟨#[]⟩, .int .i64 0], .bool c] (.string Akv) w := by
 have CW := Lh (fun W => (show Cp 43 #[.string ⟨#[98, 111, 111, 108, 101, 97, 110]⟩] W fun e w' => e = .returned (.string Akv) ∧ Below W.heap.size W w' from D9 [98, 111, 111, 108, 101, 97, 110] W rfl (by decide)))
 go_enter Tryz.func27, Tryz.ntmps27
 go_wp2_with fail
 refine Bm (CW.out _) fun w2 b2 => ?_
 go_wp2
 go_ret
 exact ⟨rfl, Aa (Ag _ _) b2⟩
theorem Agt (n : Nat) (c : Bool) (w : World) : Ct 27 #[.agg #[.int .i64 3, .bool false, .float .f64 n, .string ⟨#[]⟩, .int .i64 0], .bool c] (.string Ak9) w := by
 have CW := Lh (fun W => (show Cp 43 #[.string ⟨#[110, 117, 109, 98, 101, 114]⟩] W fun e w' => e = .returned (.string Ak9) ∧ Below W.heap.size W w' from D9 [110, 117, 109, 98, 101, 114] W rfl (by decide)))
 go_enter Tryz.func27, Tryz.ntmps27
 go_wp2_with fail
 refine Bm (CW.out _) fun w2 b2 => ?_
 go_wp2
 go_ret
 exact ⟨rfl, Aa (Ag _ _) b2⟩
theorem Af0 (s : ByteArray) (c : Bool) (w : World) : Ct 27 #[.agg #[.int .i64 4, .bool false, .float .f64 0, .string s, .int .i64 0], .bool c] (.string Aju) w := by
 have CW := Lh (fun W => (show Cp 43 #[.string ⟨#[115, 116, 114, 105, 110, 103]⟩] W fun e w' => e = .returned (.string Aju) ∧ Below W.heap.size W w' from D9 [115, 116, 114, 105, 110, 103] W rfl (by decide)))
 go_enter Tryz.func27, Tryz.ntmps27
 go_wp2_with fail
 refine Bm (CW.out _) fun w2 b2 => ?_
 go_wp2
 go_ret
 exact ⟨rfl, Aa (Ag _ _) b2⟩
theorem Aas (o : Int) (w : World) : Ct 27 #[.agg #[.int .i64 5, .bool false, .float .f64 0, .string ⟨#[]⟩, .int .i64 o], .bool true] (.string Ah4) w := by
 have CW := Lh (fun W => (show Cp 43 #[.string ⟨#[102, 117, 110, 99, 116, 105, 111, 110]⟩] W fun e w' => e = .returned (.string Ah4) ∧ Below W.heap.size W w' from D9 [102, 117, 110, 99, 116, 105, 111, 110] W rfl (by decide)))
 go_enter Tryz.func27, Tryz.ntmps27
 go_wp2_with fail
 refine Bm (CW.out _) fun w2 b2 => ?_
 go_wp2
 go_ret
 exact ⟨rfl, Aa (Ag _ _) b2⟩
theorem Aav (o : Int) (w : World) : Ct 27 #[.agg #[.int .i64 5, .bool false, .float .f64 0, .string ⟨#[]⟩, .int .i64 o], .bool false] (.string Qx) w := by
 have CW := Lh (fun W => (show Cp 43 #[.string ⟨#[111, 98, 106, 101, 99, 116]⟩] W fun e w' => e = .returned (.string Qx) ∧ Below W.heap.size W w' from D9 [111, 98, 106, 101, 99, 116] W rfl (by decide)))
 go_enter Tryz.func27, Tryz.ntmps27
 go_wp2_with fail
 refine Bm (CW.out _) fun w2 b2 => ?_
 go_wp2
 go_ret
 exact ⟨rfl, Aa (Ag _ _) b2⟩
theorem Vr {v : Val} (h : Ec v = true) (c : Bool) (w : World) : Ct 27 #[Dt v, .bool c] (.string (Aoy v c)) w := by
 rcases Dz h with rfl | rfl | ⟨b, rfl⟩ | ⟨n, _, rfl⟩ | ⟨s, _, rfl⟩ | ⟨o, _, rfl⟩
 ·exact Agd c w
 ·exact Afb c w
 ·exact Ag1 b c w
 ·exact Agt n c w
 ·exact Af0 s c w
 ·cases c
  ·exact Aav o w
  ·exact Aas o w
theorem Va  (w : World) : Ct 29 #[.agg #[.int .i64 0, .bool false, .float .f64 0, .string ⟨#[]⟩, .int .i64 0]] (.bool false) w := by
 go_enter Tryz.func29, Tryz.ntmps29
 go_wp2
 all_goals go_ret
 all_goals exact ⟨by first | rfl | simp [*], Ag _ _⟩
theorem Sx  (w : World) : Ct 29 #[.agg #[.int .i64 1, .bool false, .float .f64 0, .string ⟨#[]⟩, .int .i64 0]] (.bool false) w := by
 go_enter Tryz.func29, Tryz.ntmps29
 go_wp2
 all_goals go_ret
 all_goals exact ⟨by first | rfl | simp [*], Ag _ _⟩
theorem Ta (b : Bool) (w : World) : Ct 29 #[.agg #[.int .i64 2, .bool b, .float .f64 0, .string ⟨#[]⟩, .int .i64 0]] (.bool b) w := by
 go_enter Tryz.func29, Tryz.ntmps29
 go_wp2
 all_goals go_ret
 all_goals exact ⟨by first | rfl | simp [*], Ag _ _⟩
theorem T9 (n : Nat) (w : World) : Ct 29 #[.agg #[.int .i64 3, .bool false, .float .f64 n, .string ⟨#[]⟩, .int .i64 0]] (.bool (!Cs n && !oeq n 0)) w := by
 have C1 := Lh (fun W => By n W)
 have h1 := An0 n 0
 obtain ⟨A, hA⟩ : ∃ b, Cs n = b := ⟨_, rfl⟩
 obtain ⟨B, hB⟩ : ∃ b, oeq n 0 = b := ⟨_, rfl⟩
 rw [hA] at C1 ⊢
 rw [hB] at h1 ⊢
 have h2 : (FloatKind.f64.format.order n 0 != some .eq) = !B := by rw [← h1]; rfl
 clear hA hB
 cases A
 ·cases B
  ·skip
   go_enter Tryz.func29, Tryz.ntmps29
   go_wp2_with fail
   refine Sm (C1.out _) ?_
   go_wp2
   go_ret
   exact ⟨by simp, Ag _ _⟩
  ·skip
   go_enter Tryz.func29, Tryz.ntmps29
   go_wp2_with fail
   refine Sm (C1.out _) ?_
   go_wp2
   go_ret
   exact ⟨by simp, Ag _ _⟩
 ·clear h1 h2
  go_enter Tryz.func29, Tryz.ntmps29
  go_wp2_with fail
  refine Sm (C1.out _) ?_
  go_wp2
  go_ret
  exact ⟨by simp, Ag _ _⟩
theorem Um (s : ByteArray) (w : World) : Ct 29 #[.agg #[.int .i64 4, .bool false, .float .f64 0, .string s, .int .i64 0]] (.bool (!s.toList.isEmpty)) w := by
 obtain ⟨B, hB⟩ : ∃ b, s.toList.isEmpty = b := ⟨_, rfl⟩
 rw [hB]
 go_enter Tryz.func29, Tryz.ntmps29
 go_wp2
 all_goals go_ret
 all_goals exact ⟨by first | rfl | simp [*], Ag _ _⟩
theorem U5 (o : Int) (w : World) : Ct 29 #[.agg #[.int .i64 5, .bool false, .float .f64 0, .string ⟨#[]⟩, .int .i64 o]] (.bool true) w := by
 go_enter Tryz.func29, Tryz.ntmps29
 go_wp2
 all_goals go_ret
 all_goals exact ⟨by first | rfl | simp [*], Ag _ _⟩
theorem Od {v : Val} (h : Ec v = true) (w : World) : Ct 29 #[Dt v] (.bool (Akm v)) w := by
 rcases Dz h with rfl | rfl | ⟨b, rfl⟩ | ⟨n, _, rfl⟩ | ⟨s, _, rfl⟩ | ⟨o, _, rfl⟩
 ·exact Va w
 ·exact Sx w
 ·exact Ta b w
 ·exact T9 n w
 ·exact Um s w
 ·exact U5 o w
theorem Ze  (w : World) : Ct 23 #[.agg #[.int .i64 0, .bool false, .float .f64 0, .string ⟨#[]⟩, .int .i64 0]] (.tuple #[.float .f64 9221120237041090560, .int .i64 0]) w := by
 have C1 := Lh (fun W => Y9 W)
 go_enter Tryz.func23, Tryz.ntmps23
 go_wp2_with fail
 refine Sm (C1.out _) ?_
 go_wp2
 go_ret2
 exact ⟨rfl, Ag _ _⟩
theorem Zi  (w : World) : Ct 23 #[.agg #[.int .i64 1, .bool false, .float .f64 0, .string ⟨#[]⟩, .int .i64 0]] (.tuple #[.float .f64 0, .int .i64 0]) w := by
 go_enter Tryz.func23, Tryz.ntmps23
 go_wp2
 go_ret2
 exact ⟨rfl, Ag _ _⟩
theorem T5  (w : World) : Ct 23 #[.agg #[.int .i64 2, .bool true, .float .f64 0, .string ⟨#[]⟩, .int .i64 0]] (.tuple #[.float .f64 4607182418800017408, .int .i64 0]) w := by
 go_enter Tryz.func23, Tryz.ntmps23
 go_wp2
 go_ret2
 exact ⟨rfl, Ag _ _⟩
theorem U4  (w : World) : Ct 23 #[.agg #[.int .i64 2, .bool false, .float .f64 0, .string ⟨#[]⟩, .int .i64 0]] (.tuple #[.float .f64 0, .int .i64 0]) w := by
 go_enter Tryz.func23, Tryz.ntmps23
 go_wp2
 go_ret2
 exact ⟨rfl, Ag _ _⟩
theorem Wh (n : Nat) (w : World) : Ct 23 #[.agg #[.int .i64 3, .bool false, .float .f64 n, .string ⟨#[]⟩, .int .i64 0]] (.tuple #[.float .f64 (cn n), .int .i64 0]) w := by
 have C1 := Lh (fun W => J8 n W)
 have hf := fun W => Aof 3 false (cn n) ⟨#[]⟩ 0 W
 go_enter Tryz.func23, Tryz.ntmps23
 go_wp2_with fail
 refine (C1.out _).mono ?_
 rintro e w2 ⟨rfl, b2, hk⟩
 go_wp2
 go_ret2
 exact ⟨rfl, Aa (Ag _ _) b2⟩
theorem Wc (s : ByteArray) (hs : s.size ≤ 140737488355328) (w : World) : Ct 23 #[.agg #[.int .i64 4, .bool false, .float .f64 0, .string s, .int .i64 0]] (.tuple #[.float .f64 (H7 (nrw 0 (us (Dj s)))), .int .i64 0]) w := by
 have C1 := fun W => Vh s W hs
 rw [Apq] at C1
 have C1 := Lh C1
 clear hs
 go_enter Tryz.func23, Tryz.ntmps23
 go_wp2_with fail
 refine Bm (C1.out _) fun w2 b2 => ?_
 go_wp2
 go_ret2
 exact ⟨rfl, Aa (Ag _ _) b2⟩
theorem Zq (o : Int) (w : World) : Ct 23 #[.agg #[.int .i64 5, .bool false, .float .f64 0, .string ⟨#[]⟩, .int .i64 o]] (.tuple #[.float .f64 0, .int .i64 1]) w := by
 go_enter Tryz.func23, Tryz.ntmps23
 go_wp2
 go_ret2
 exact ⟨rfl, Ag _ _⟩
def Ua (v : Val) : Int := if Cj v = true then 0 else 1
theorem P8 {v : Val} (h : Ec v = true) (hs : v.vs.size ≤ 140737488355328) (w : World) : Ct 23 #[Dt v] (.tuple #[.float .f64 (Hy v), .int .i64 (Ua v)]) w := by
 rcases Dz h with rfl | rfl | ⟨b, rfl⟩ | ⟨n, _, rfl⟩ | ⟨s, _, rfl⟩ | ⟨o, _, rfl⟩
 ·exact Ze w
 ·exact Zi w
 ·cases b
  ·exact U4 w
  ·exact T5 w
 ·exact Wh n w
 ·exact Wc s hs w
 ·exact Zq o w
theorem Vp  (w : World) : Ct 25 #[.agg #[.int .i64 0, .bool false, .float .f64 0, .string ⟨#[]⟩, .int .i64 0]] (.tuple #[.string wUnd, .int .i64 0]) w := by
 have CW := Lh (fun W => (show Cp 43 #[.string ⟨#[117, 110, 100, 101, 102, 105, 110, 101, 100]⟩] W fun e w' => e = .returned (.string wUnd) ∧ Below W.heap.size W w' from D9 [117, 110, 100, 101, 102, 105, 110, 101, 100] W rfl (by decide)))
 go_enter Tryz.func25, Tryz.ntmps25
 go_wp2_with fail
 refine Bm (CW.out _) fun w2 b2 => ?_
 go_wp2
 go_ret2
 exact ⟨rfl, Aa (Ag _ _) b2⟩
theorem Yd  (w : World) : Ct 25 #[.agg #[.int .i64 1, .bool false, .float .f64 0, .string ⟨#[]⟩, .int .i64 0]] (.tuple #[.string wNul, .int .i64 0]) w := by
 have CW := Lh (fun W => (show Cp 43 #[.string ⟨#[110, 117, 108, 108]⟩] W fun e w' => e = .returned (.string wNul) ∧ Below W.heap.size W w' from D9 [110, 117, 108, 108] W rfl (by decide)))
 go_enter Tryz.func25, Tryz.ntmps25
 go_wp2_with fail
 refine Bm (CW.out _) fun w2 b2 => ?_
 go_wp2
 go_ret2
 exact ⟨rfl, Aa (Ag _ _) b2⟩
theorem Uj  (w : World) : Ct 25 #[.agg #[.int .i64 2, .bool true, .float .f64 0, .string ⟨#[]⟩, .int .i64 0]] (.tuple #[.string wTru, .int .i64 0]) w := by
 have CW := Lh (fun W => (show Cp 43 #[.string ⟨#[116, 114, 117, 101]⟩] W fun e w' => e = .returned (.string wTru) ∧ Below W.heap.size W w' from D9 [116, 114, 117, 101] W rfl (by decide)))
 go_enter Tryz.func25, Tryz.ntmps25
 go_wp2_with fail
 refine Bm (CW.out _) fun w2 b2 => ?_
 go_wp2
 go_ret2
 exact ⟨rfl, Aa (Ag _ _) b2⟩
theorem Ue  (w : World) : Ct 25 #[.agg #[.int .i64 2, .bool false, .float .f64 0, .string ⟨#[]⟩, .int .i64 0]] (.tuple #[.string wFal, .int .i64 0]) w := by
 have CW := Lh (fun W => (show Cp 43 #[.string ⟨#[102, 97, 108, 115, 101]⟩] W fun e w' => e = .returned (.string wFal) ∧ Below W.heap.size W w' from D9 [102, 97, 108, 115, 101] W rfl (by decide)))
 go_enter Tryz.func25, Tryz.ntmps25
 go_wp2_with fail
 refine Bm (CW.out _) fun w2 b2 => ?_
 go_wp2
 go_ret2
 exact ⟨rfl, Aa (Ag _ _) b2⟩
theorem Wn (n : Nat) (hn : n < 18446744073709551616) (w : World) : Ct 25 #[.agg #[.int .i64 3, .bool false, .float .f64 n, .string ⟨#[]⟩, .int .i64 0]] (.tuple #[.string (txt n), .int .i64 0]) w := by
 have C1 := Lh (fun W => Aew (w := W) hn (Classical.choose_spec (Jk n)))
 have hT := Lh (show wdS (Classical.choose (Jk n)) = txt n from rfl)
 clear hn
 rw [hT.out] at C1
 go_enter Tryz.func25, Tryz.ntmps25
 go_wp2_with fail
 refine Bm (C1.out _) fun w2 b2 => ?_
 go_wp2
 go_ret2
 exact ⟨rfl, Aa (Ag _ _) b2⟩
theorem Yf (s : ByteArray) (w : World) : Ct 25 #[.agg #[.int .i64 4, .bool false, .float .f64 0, .string s, .int .i64 0]] (.tuple #[.string s, .int .i64 0]) w := by
 go_enter Tryz.func25, Tryz.ntmps25
 go_wp2
 go_ret2
 exact ⟨rfl, Ag _ _⟩
theorem Xh (o : Int) (w : World) : Ct 25 #[.agg #[.int .i64 5, .bool false, .float .f64 0, .string ⟨#[]⟩, .int .i64 o]] (.tuple #[.string ⟨#[]⟩, .int .i64 1]) w := by
 go_enter Tryz.func25, Tryz.ntmps25
 go_wp2
 go_ret2
 exact ⟨rfl, Ag _ _⟩
theorem Qs {v : Val} (h : Ec v = true) (hn : v.vn < 18446744073709551616) (w : World) : Ct 25 #[Dt v] (.tuple #[.string (Eb v), .int .i64 (Ua v)]) w := by
 rcases Dz h with rfl | rfl | ⟨b, rfl⟩ | ⟨n, _, rfl⟩ | ⟨s, _, rfl⟩ | ⟨o, _, rfl⟩
 ·exact Vp w
 ·exact Yd w
 ·cases b
  ·exact Ue w
  ·exact Uj w
 ·exact Wn n hn w
 ·exact Yf s w
 ·exact Xh o w
end
section
theorem Ans (x y t : Nat) : Cs ((Question.nanBits .f64 x y).cut t) = true ∧ (Question.nanBits .f64 x y).cut t < 18446744073709551616 := by
 show Cs (t % 2 * 2 ^ 63 + 0x7ff0000000000000 + 1 + t / 2 % (2 ^ 52 - 1)) = true ∧ t % 2 * 2 ^ 63 + 0x7ff0000000000000 + 1 + t / 2 % (2 ^ 52 - 1) < _
 have h1 : t / 2 % (2 ^ 52 - 1) < 2 ^ 52 - 1 := Nat.mod_lt _ (by omega)
 have h2 : t % 2 < 2 := Nat.mod_lt _ (by omega)
 obtain ⟨a, ha⟩ : ∃ a, t / 2 % (2 ^ 52 - 1) = a := ⟨_, rfl⟩
 obtain ⟨b, hb⟩ : ∃ b, t % 2 = b := ⟨_, rfl⟩
 rw [ha] at h1 ⊢
 rw [hb] at h2 ⊢
 unfold Cs Ba
 refine ⟨decide_eq_true ?_, ?_⟩ <;> omega
theorem Am8 {x : Nat} (h : Cs x = true) : cn x = 9221120237041090560 := by unfold cn; rw [if_pos h]
def Aob (x y : Nat) : Nat := match Ieee.double.add x y with
 | some r => cn r
 | none => 9221120237041090560
theorem Ake (x y : Nat) (w : World) (h : Ieee.double.add x y = none) : ∃ r, (∀ t, (binOp .add t (.float .f64 x) (.float .f64 y)).run Tryz.prog w = .ok (.float .f64 r) (w.drewN 1)) ∧ Cs r = true ∧ r < 18446744073709551616 := by
 have h2 : FloatKind.f64.format.add x y = none := h
 have hf : (Question.nanBits .f64 x y).forced = false := rfl
 exact ⟨(Question.nanBits .f64 x y).cut (w.tape w.drawn (.nanBits .f64 x y)), fun t => by simp [binOp, Op.floatArith, h2, hf]; rfl, Ans _ _ _⟩
theorem Aln (x y : Nat) (w : World) : ∃ r n, (∀ t, (binOp .add t (.float .f64 x) (.float .f64 y)).run Tryz.prog w = .ok (.float .f64 r) (w.drewN n)) ∧ cn r = Aob x y := by
 unfold Aob
 cases h : Ieee.double.add x y with
 | some r => exact ⟨r, 0, fun t => run_float_arith w .add t .f64 x y r h, rfl⟩
 | none =>
  obtain ⟨r, h1, h2, _⟩ := Ake x y w h
  exact ⟨r, 1, h1, Am8 h2⟩
end
section
def vZ : Val := ⟨0, false, 0, ⟨#[]⟩, 0⟩
theorem F9 : (#[.int .i64 0, .bool false, .float .f64 0, .string ⟨#[]⟩, .int .i64 0] : Array Value) = Ar vZ := rfl
end
section
noncomputable def App (x y : Val) : Ending :=
 if (Cj x && Cj y) = true then
  (if (x.vk == 4 || y.vk == 4) = true then .returned (.tuple #[Dt (Km (wh (Eb x ++ Eb y))), .int .i64 0]) else .returned (.tuple #[Dt (Afd (Aob (Hy x) (Hy y))), .int .i64 0]))
 else .returned (.tuple #[Dt vZ, .int .i64 1])
structure T3 (w W : World) (x y : Val) : Prop where
 k : BlkV W w.heap.size x
 k2 : BlkV W (w.heap.size + 1) y
 kr : BlkV W (w.heap.size + 2) vZ
 l : w.heap.size + 2 < W.heap.size
 b : Below w.heap.size w W
theorem T3.new {w W1 W2 W3 : World} {x y : Val} (h : w.alloc (.cells (Ar x) 24) = W1) (g : W1.alloc (.cells (Ar y) 24) = W2) (f : W2.alloc (.cells (Ar vZ) 24) = W3) : T3 w W3 x y := by
 have a := T2.new h g
 obtain ⟨_, _, c⟩ := Ha h
 obtain ⟨_, _, c2⟩ := Ha g
 obtain ⟨a3, b3, c3⟩ := Ha f
 rw [c2, c] at a3
 exact ⟨a.k.below b3 (by omega), a.k2.below b3 (by omega), a3, by omega, Aa a.b b3⟩
theorem T3.step {w W W' : World} {x y : Val} (h : T3 w W x y) (hb : Below W.heap.size W W') : T3 w W' x y :=
 ⟨h.k.below hb (by have := h.l; omega), h.k2.below hb (by have := h.l; omega), h.kr.below hb h.l, Nat.lt_of_lt_of_le h.l hb.size, Aa h.b hb⟩
theorem T3.drewN {w W : World} {x y : Val} (h : T3 w W x y) (n : Nat) : T3 w (W.drewN n) x y := ⟨h.k, h.k2, h.kr, h.l, Ae h.b n⟩
theorem T3.cs {w W : World} {x y : Val} (h : T3 w W x y) : W.cell? ⟨w.heap.size, 0, none⟩ = some (.int .i64 x.vk) ∧ W.cell? ⟨w.heap.size, 1, none⟩ = some (.bool x.vb) ∧ W.cell? ⟨w.heap.size, 2, none⟩ = some (.float .f64 x.vn) ∧ W.cell? ⟨w.heap.size, 3, none⟩ = some (.string x.vs) ∧ W.cell? ⟨w.heap.size, 4, none⟩ = some (.int .i64 x.vo) ∧
  W.cell? ⟨w.heap.size + 1, 0, none⟩ = some (.int .i64 y.vk) ∧ W.cell? ⟨w.heap.size + 1, 1, none⟩ = some (.bool y.vb) ∧ W.cell? ⟨w.heap.size + 1, 2, none⟩ = some (.float .f64 y.vn) ∧ W.cell? ⟨w.heap.size + 1, 3, none⟩ = some (.string y.vs) ∧ W.cell? ⟨w.heap.size + 1, 4, none⟩ = some (.int .i64 y.vo) :=
 ⟨h.k.cell rfl, h.k.cell rfl, h.k.cell rfl, h.k.cell rfl, h.k.cell rfl, h.k2.cell rfl, h.k2.cell rfl, h.k2.cell rfl, h.k2.cell rfl, h.k2.cell rfl⟩
theorem T3.row {w W : World} {x y : Val} (h : T3 w W x y) (c : Array Value) : (W.setRow (w.heap.size + 2) c).heap[w.heap.size + 2]? = some (.cells c 24 (0, 0)) ∧ Below w.heap.size w (W.setRow (w.heap.size + 2) c) :=
 ⟨setRow_heap _ _ _ _ _ _ h.kr, Qn h.b (by omega) _⟩
theorem Gs {x : Val} (h : Ec x = true) (hs : x.vs.size ≤ 140737488355328) : (Eb x).size ≤ 140737488355328 := by
 rcases Dz h with rfl | rfl | ⟨b, rfl⟩ | ⟨n, _, rfl⟩ | ⟨s, _, rfl⟩ | ⟨o, _, rfl⟩
 ·show wUnd.size ≤ _; decide
 ·show wNul.size ≤ _; decide
 ·cases b
  ·show wFal.size ≤ _; decide
  ·show wTru.size ≤ _; decide
 ·show (txt n).size ≤ _
  unfold txt
  have := (Classical.choose_spec (Jk n)).bd.2
  rw [Lib.size_eq]
  show (bL (Classical.choose (Jk n))).length ≤ _
  rw [Iy]
  omega
 ·exact hs
 ·show (⟨#[]⟩ : ByteArray).size ≤ _; decide
end
section
theorem Vo (w : World) : Cq 49 #[] (.float .f64 9221120237041090560) w := by
 have h2 : (callFunc 69 #[.int .u64 9221120237041090560]).run Tryz.prog w = .ok (.value (.float .f64 9221120237041090560)) w := Bx 9221120237041090560 w
 go_enter Tryz.func49, Tryz.ntmps49
 go_wp2
 go_ret
 exact ⟨rfl, rfl⟩
theorem Rz (x : Nat) (w : World) : Cq 45 #[.float .f64 x] (.float .f64 (cn x)) w := by
 have C1 := Lh (fun W => By x W)
 have C2 := Lh (fun W => Vo W)
 unfold cn
 cases e1 : Cs x
 ·rw [e1] at C1
  rw [if_neg (by simp)]
  clear e1 C2
  go_enter Tryz.func45, Tryz.ntmps45
  go_wp2_with fail
  refine Sm (C1.out _) ?_
  go_wp2
  go_ret
  exact ⟨rfl, rfl⟩
 ·rw [e1] at C1
  rw [if_pos rfl]
  clear e1
  go_enter Tryz.func45, Tryz.ntmps45
  go_wp2_with fail
  refine Sm (C1.out _) ?_
  go_wp2_with fail
  refine Sm (C2.out _) ?_
  go_wp2
  go_ret
  exact ⟨rfl, rfl⟩
theorem Wx (x : Nat) (w : World) : Ct 15 #[.float .f64 x] (Dt (Afd (cn x))) w := by
 have C1 := Lh (fun W => Rz x W)
 obtain ⟨n, hn⟩ : ∃ n, cn x = n := ⟨_, rfl⟩
 rw [hn] at C1 ⊢
 clear hn
 go_enter Tryz.func15, Tryz.ntmps15
 go_wp2_with fail
 refine Sm (C1.out _) ?_
 go_wp2_with (refine vlS rfl rfl w.heap.size 3 false n ⟨#[]⟩ 0 rfl rfl (heap_alloc_last w _) ?_; rw [World.setRow_alloc_new])
 refine vlR rfl rfl (heap_alloc_last w _) rfl rfl ⟨rfl, Ag _ _⟩
theorem Ap3 (s : ByteArray) : slS s 0 (ln s) = wh s := by
 unfold slS wh
 by_cases h : max 0 0 < min ((ln s : Nat) : Int) ((ln s : Nat) : Int)
 ·rw [if_pos h]
  congr 1 <;> omega
 ·rw [if_neg h]
  have h0 : ln s = 0 := by omega
  rw [h0]
  first | (simp; done) | exact (ByteArray.ext (by simp)).symm | (refine ByteArray.ext ?_; simp [ByteArray.extract])
end
section
theorem Md (s : ByteArray) (w : World) (hs : s.size ≤ maxLen) : Ct 17 #[.string s] (Dt (Km (wh s))) w := by
 have C1 := fun W => Jz s W hs
 have C2 := fun W => Rm s 0 (ln s) W hs
 rw [Ap3] at C2
 obtain ⟨n, hn⟩ : ∃ n : Int, ((ln s : Nat) : Int) = n := ⟨_, rfl⟩
 rw [hn] at C1 C2
 obtain ⟨t, ht⟩ : ∃ t, wh s = t := ⟨_, rfl⟩
 rw [ht] at C2 ⊢
 clear hs hn ht
 have C1 := Lh C1
 have C2 := Lh C2
 go_enter Tryz.func17, Tryz.ntmps17
 go_wp2_with fail
 refine Sm (C1.out _) ?_
 go_wp2_with fail
 refine Sm (C2.out _) ?_
 go_wp2_with (refine vlS rfl rfl w.heap.size 4 false 0 t 0 rfl rfl (heap_alloc_last w _) ?_; rw [World.setRow_alloc_new])
 refine vlR rfl rfl (heap_alloc_last w _) rfl rfl ⟨rfl, Ag _ _⟩
theorem Afe (c : Bool) (w : World) : Cq 55 #[.int .i64 0, .bool c] (.string ⟨#[117, 110, 100, 101, 102, 105, 110, 101, 100]⟩) w := by
 go_enter Tryz.func55, Tryz.ntmps55
 go_wp2
 go_ret
 exact ⟨rfl, rfl⟩
theorem Aff  (c : Bool) (w : World) : Ct 26 #[.agg #[.int .i64 0, .bool false, .float .f64 0, .string ⟨#[]⟩, .int .i64 0], .bool c] (.string wUnd) w := by
 have CW := Lh (fun W => (show Cp 52 #[.string ⟨#[117, 110, 100, 101, 102, 105, 110, 101, 100]⟩] W fun e w' => e = .returned (.string wUnd) ∧ Below W.heap.size W w' from Ev [117, 110, 100, 101, 102, 105, 110, 101, 100] W rfl (by decide)))
 have C0 := Lh (fun W => Afe c W)
 go_enter Tryz.func26, Tryz.ntmps26
 go_wp2_with fail
 refine Sm (C0.out _) ?_
 go_wp2_with fail
 refine Bm (CW.out _) fun w2 b2 => ?_
 go_wp2
 go_ret
 exact ⟨rfl, Aa (Ag _ _) b2⟩
theorem Aex (c : Bool) (w : World) : Cq 55 #[.int .i64 1, .bool c] (.string ⟨#[111, 98, 106, 101, 99, 116]⟩) w := by
 go_enter Tryz.func55, Tryz.ntmps55
 go_wp2
 go_ret
 exact ⟨rfl, rfl⟩
theorem Ae9  (c : Bool) (w : World) : Ct 26 #[.agg #[.int .i64 1, .bool false, .float .f64 0, .string ⟨#[]⟩, .int .i64 0], .bool c] (.string Qx) w := by
 have CW := Lh (fun W => (show Cp 52 #[.string ⟨#[111, 98, 106, 101, 99, 116]⟩] W fun e w' => e = .returned (.string Qx) ∧ Below W.heap.size W w' from Ev [111, 98, 106, 101, 99, 116] W rfl (by decide)))
 have C0 := Lh (fun W => Aex c W)
 go_enter Tryz.func26, Tryz.ntmps26
 go_wp2_with fail
 refine Sm (C0.out _) ?_
 go_wp2_with fail
 refine Bm (CW.out _) fun w2 b2 => ?_
 go_wp2
 go_ret
 exact ⟨rfl, Aa (Ag _ _) b2⟩
theorem Af1 (c : Bool) (w : World) : Cq 55 #[.int .i64 2, .bool c] (.string ⟨#[98, 111, 111, 108, 101, 97, 110]⟩) w := by
 go_enter Tryz.func55, Tryz.ntmps55
 go_wp2
 go_ret
 exact ⟨rfl, rfl⟩
theorem Aen (b : Bool) (c : Bool) (w : World) : Ct 26 #[.agg #[.int .i64 2, .bool b, .float .f64 0, .string ⟨#[]⟩, .int .i64 0], .bool c] (.string Akv) w := by
 have CW := Lh (fun W => (show Cp 52 #[.string ⟨#[98, 111, 111, 108, 101, 97, 110]⟩] W fun e w' => e = .returned (.string Akv) ∧ Below W.heap.size W w' from Ev [98, 111, 111, 108, 101, 97, 110] W rfl (by decide)))
 have C0 := Lh (fun W => Af1 c W)
 go_enter Tryz.func26, Tryz.ntmps26
 go_wp2_with fail
 refine Sm (C0.out _) ?_
 go_wp2_with fail
 refine Bm (CW.out _) fun w2 b2 => ?_
 go_wp2
 go_ret
 exact ⟨rfl, Aa (Ag _ _) b2⟩
theorem Agy (c : Bool) (w : World) : Cq 55 #[.int .i64 3, .bool c] (.string ⟨#[110, 117, 109, 98, 101, 114]⟩) w := by
 go_enter Tryz.func55, Tryz.ntmps55
 go_wp2
 go_ret
 exact ⟨rfl, rfl⟩
theorem Afo (n : Nat) (c : Bool) (w : World) : Ct 26 #[.agg #[.int .i64 3, .bool false, .float .f64 n, .string ⟨#[]⟩, .int .i64 0], .bool c] (.string Ak9) w := by
 have CW := Lh (fun W => (show Cp 52 #[.string ⟨#[110, 117, 109, 98, 101, 114]⟩] W fun e w' => e = .returned (.string Ak9) ∧ Below W.heap.size W w' from Ev [110, 117, 109, 98, 101, 114] W rfl (by decide)))
 have C0 := Lh (fun W => Agy c W)
 go_enter Tryz.func26, Tryz.ntmps26
 go_wp2_with fail
 refine Sm (C0.out _) ?_
 go_wp2_with fail
 refine Bm (CW.out _) fun w2 b2 => ?_
 go_wp2
 go_ret
 exact ⟨rfl, Aa (Ag _ _) b2⟩
theorem Agr (c : Bool) (w : World) : Cq 55 #[.int .i64 4, .bool c] (.string ⟨#[115, 116, 114, 105, 110, 103]⟩) w := by
 go_enter Tryz.func55, Tryz.ntmps55
 go_wp2
 go_ret
 exact ⟨rfl, rfl⟩
theorem Ae0 (s : ByteArray) (c : Bool) (w : World) : Ct 26 #[.agg #[.int .i64 4, .bool false, .float .f64 0, .string s, .int .i64 0], .bool c] (.string Aju) w := by
 have CW := Lh (fun W => (show Cp 52 #[.string ⟨#[115, 116, 114, 105, 110, 103]⟩] W fun e w' => e = .returned (.string Aju) ∧ Below W.heap.size W w' from Ev [115, 116, 114, 105, 110, 103] W rfl (by decide)))
 have C0 := Lh (fun W => Agr c W)
 go_enter Tryz.func26, Tryz.ntmps26
 go_wp2_with fail
 refine Sm (C0.out _) ?_
 go_wp2_with fail
 refine Bm (CW.out _) fun w2 b2 => ?_
 go_wp2
 go_ret
 exact ⟨rfl, Aa (Ag _ _) b2⟩
theorem Aad (w : World) : Cq 55 #[.int .i64 5, .bool true] (.string ⟨#[102, 117, 110, 99, 116, 105, 111, 110]⟩) w := by
 go_enter Tryz.func55, Tryz.ntmps55
 go_wp2
 go_ret
 exact ⟨rfl, rfl⟩
theorem Zr (o : Int) (w : World) : Ct 26 #[.agg #[.int .i64 5, .bool false, .float .f64 0, .string ⟨#[]⟩, .int .i64 o], .bool true] (.string Ah4) w := by
 have CW := Lh (fun W => (show Cp 52 #[.string ⟨#[102, 117, 110, 99, 116, 105, 111, 110]⟩] W fun e w' => e = .returned (.string Ah4) ∧ Below W.heap.size W w' from Ev [102, 117, 110, 99, 116, 105, 111, 110] W rfl (by decide)))
 have C0 := Lh (fun W => Aad W)
 go_enter Tryz.func26, Tryz.ntmps26
 go_wp2_with fail
 refine Sm (C0.out _) ?_
 go_wp2_with fail
 refine Bm (CW.out _) fun w2 b2 => ?_
 go_wp2
 go_ret
 exact ⟨rfl, Aa (Ag _ _) b2⟩
theorem Abx (w : World) : Cq 55 #[.int .i64 5, .bool false] (.string ⟨#[111, 98, 106, 101, 99, 116]⟩) w := by
 go_enter Tryz.func55, Tryz.ntmps55
 go_wp2
 go_ret
 exact ⟨rfl, rfl⟩
theorem Aaq (o : Int) (w : World) : Ct 26 #[.agg #[.int .i64 5, .bool false, .float .f64 0, .string ⟨#[]⟩, .int .i64 o], .bool false] (.string Qx) w := by
 have CW := Lh (fun W => (show Cp 52 #[.string ⟨#[111, 98, 106, 101, 99, 116]⟩] W fun e w' => e = .returned (.string Qx) ∧ Below W.heap.size W w' from Ev [111, 98, 106, 101, 99, 116] W rfl (by decide)))
 have C0 := Lh (fun W => Abx W)
 go_enter Tryz.func26, Tryz.ntmps26
 go_wp2_with fail
 refine Sm (C0.out _) ?_
 go_wp2_with fail
 refine Bm (CW.out _) fun w2 b2 => ?_
 go_wp2
 go_ret
 exact ⟨rfl, Aa (Ag _ _) b2⟩
end
section
theorem Zg {v : Val} (h : Ec v = true) (c : Bool) (w : World) : Ct 26 #[Dt v, .bool c] (.string (Aoy v c)) w := by
 rcases Dz h with rfl | rfl | ⟨b, rfl⟩ | ⟨n, _, rfl⟩ | ⟨s, _, rfl⟩ | ⟨o, _, rfl⟩
 ·exact Aff c w
 ·exact Ae9 c w
 ·exact Aen b c w
 ·exact Afo n c w
 ·exact Ae0 s c w
 ·cases c
  ·exact Aaq o w
  ·exact Zr o w
theorem T7  (w : World) : Ct 28 #[.agg #[.int .i64 0, .bool false, .float .f64 0, .string ⟨#[]⟩, .int .i64 0]] (.bool false) w := by
 go_enter Tryz.func28, Tryz.ntmps28
 go_wp2
 all_goals go_ret
 all_goals exact ⟨by first | rfl | simp [*], Ag _ _⟩
theorem Uh  (w : World) : Ct 28 #[.agg #[.int .i64 1, .bool false, .float .f64 0, .string ⟨#[]⟩, .int .i64 0]] (.bool false) w := by
 go_enter Tryz.func28, Tryz.ntmps28
 go_wp2
 all_goals go_ret
 all_goals exact ⟨by first | rfl | simp [*], Ag _ _⟩
theorem U8 (b : Bool) (w : World) : Ct 28 #[.agg #[.int .i64 2, .bool b, .float .f64 0, .string ⟨#[]⟩, .int .i64 0]] (.bool b) w := by
 go_enter Tryz.func28, Tryz.ntmps28
 go_wp2
 all_goals go_ret
 all_goals exact ⟨by first | rfl | simp [*], Ag _ _⟩
theorem S9 (s : ByteArray) (w : World) : Ct 28 #[.agg #[.int .i64 4, .bool false, .float .f64 0, .string s, .int .i64 0]] (.bool (!s.toList.isEmpty)) w := by
 obtain ⟨B, hB⟩ : ∃ b, s.toList.isEmpty = b := ⟨_, rfl⟩
 rw [hB]
 go_enter Tryz.func28, Tryz.ntmps28
 go_wp2
 all_goals go_ret
 all_goals exact ⟨by first | rfl | simp [*], Ag _ _⟩
theorem U9 (o : Int) (w : World) : Ct 28 #[.agg #[.int .i64 5, .bool false, .float .f64 0, .string ⟨#[]⟩, .int .i64 o]] (.bool true) w := by
 go_enter Tryz.func28, Tryz.ntmps28
 go_wp2
 all_goals go_ret
 all_goals exact ⟨by first | rfl | simp [*], Ag _ _⟩
theorem Alg (n : Nat) : ((FloatKind.f64.format.order n 0 == some .lt) || (FloatKind.f64.format.order n 0 == some .gt)) = (!Cs n && !oeq n 0) := by
 unfold oeq
 rw [show FloatKind.f64.format.order n 0 = Ieee.double.order n 0 from rfl]
 rcases Aiq n with ⟨h, e⟩ | ⟨h, e⟩
 ·rw [F6 (.inl h), e]; rfl
 ·rw [Ex h (by decide), e]
  generalize compare (E1 n) (E1 0) = o
  cases o <;> rfl
theorem Sp (n : Nat) (w : World) : Ct 28 #[.agg #[.int .i64 3, .bool false, .float .f64 n, .string ⟨#[]⟩, .int .i64 0]] (.bool (!Cs n && !oeq n 0)) w := by
 rw [← Alg]
 obtain ⟨A, h1⟩ : ∃ b, (FloatKind.f64.format.order n 0 == some .lt) = b := ⟨_, rfl⟩
 obtain ⟨B, h2⟩ : ∃ b, (FloatKind.f64.format.order n 0 == some .gt) = b := ⟨_, rfl⟩
 rw [h1, h2]
 cases A
 ·skip
  go_enter Tryz.func28, Tryz.ntmps28
  go_wp2
  go_ret
  exact ⟨by simp, Ag _ _⟩
 ·clear h2
  go_enter Tryz.func28, Tryz.ntmps28
  go_wp2
  go_ret
  exact ⟨by simp, Ag _ _⟩
theorem Oh {v : Val} (h : Ec v = true) (w : World) : Ct 28 #[Dt v] (.bool (Akm v)) w := by
 rcases Dz h with rfl | rfl | ⟨b, rfl⟩ | ⟨n, _, rfl⟩ | ⟨s, _, rfl⟩ | ⟨o, _, rfl⟩
 ·exact T7 w
 ·exact Uh w
 ·exact U8 b w
 ·exact Sp n w
 ·exact S9 s w
 ·exact U9 o w
theorem Yk  (w : World) : Ct 22 #[.agg #[.int .i64 0, .bool false, .float .f64 0, .string ⟨#[]⟩, .int .i64 0]] (.tuple #[.float .f64 9221120237041090560, .int .i64 0]) w := by
 have C1 := Lh (fun W => Vo W)
 go_enter Tryz.func22, Tryz.ntmps22
 go_wp2_with fail
 refine Sm (C1.out _) ?_
 go_wp2
 go_ret2
 exact ⟨rfl, Ag _ _⟩
theorem Wa  (w : World) : Ct 22 #[.agg #[.int .i64 1, .bool false, .float .f64 0, .string ⟨#[]⟩, .int .i64 0]] (.tuple #[.float .f64 0, .int .i64 0]) w := by
 go_enter Tryz.func22, Tryz.ntmps22
 go_wp2
 go_ret2
 exact ⟨rfl, Ag _ _⟩
theorem Td  (w : World) : Ct 22 #[.agg #[.int .i64 2, .bool true, .float .f64 0, .string ⟨#[]⟩, .int .i64 0]] (.tuple #[.float .f64 4607182418800017408, .int .i64 0]) w := by
 go_enter Tryz.func22, Tryz.ntmps22
 go_wp2
 go_ret2
 exact ⟨rfl, Ag _ _⟩
theorem Un  (w : World) : Ct 22 #[.agg #[.int .i64 2, .bool false, .float .f64 0, .string ⟨#[]⟩, .int .i64 0]] (.tuple #[.float .f64 0, .int .i64 0]) w := by
 go_enter Tryz.func22, Tryz.ntmps22
 go_wp2
 go_ret2
 exact ⟨rfl, Ag _ _⟩
theorem Yx (o : Int) (w : World) : Ct 22 #[.agg #[.int .i64 5, .bool false, .float .f64 0, .string ⟨#[]⟩, .int .i64 o]] (.tuple #[.float .f64 0, .int .i64 1]) w := by
 go_enter Tryz.func22, Tryz.ntmps22
 go_wp2
 go_ret2
 exact ⟨rfl, Ag _ _⟩
theorem Y7 (n : Nat) (w : World) : Ct 22 #[.agg #[.int .i64 3, .bool false, .float .f64 n, .string ⟨#[]⟩, .int .i64 0]] (.tuple #[.float .f64 (cn n), .int .i64 0]) w := by
 have C1 := Lh (fun W => Rz n W)
 obtain ⟨m, hm⟩ : ∃ m, cn n = m := ⟨_, rfl⟩
 rw [hm] at C1 ⊢
 clear hm
 go_enter Tryz.func22, Tryz.ntmps22
 go_wp2_with fail
 refine Sm (C1.out _) ?_
 go_wp2
 go_ret2
 exact ⟨rfl, Ag _ _⟩
theorem Ve (s : ByteArray) (hs : s.size ≤ 140737488355328) (w : World) : Ct 22 #[.agg #[.int .i64 4, .bool false, .float .f64 0, .string s, .int .i64 0]] (.tuple #[.float .f64 (H7 (nrw 0 (us (Dj s)))), .int .i64 0]) w := by
 have C1 := fun W => We s W hs
 obtain ⟨m, hm⟩ : ∃ m, H7 (nrw 0 (us (Dj s))) = m := ⟨_, rfl⟩
 rw [hm] at C1 ⊢
 have C1 := Lh C1
 clear hs hm
 go_enter Tryz.func22, Tryz.ntmps22
 go_wp2_with fail
 refine Bm (C1.out _) fun w2 b2 => ?_
 go_wp2
 go_ret2
 exact ⟨rfl, Aa (Ag _ _) b2⟩
theorem Dg {v : Val} (h : Ec v = true) (hs : v.vs.size ≤ 140737488355328) (w : World) : Ct 22 #[Dt v] (.tuple #[.float .f64 (Hy v), .int .i64 (Ua v)]) w := by
 rcases Dz h with rfl | rfl | ⟨b, rfl⟩ | ⟨n, _, rfl⟩ | ⟨s, _, rfl⟩ | ⟨o, _, rfl⟩
 ·exact Yk w
 ·exact Wa w
 ·cases b
  ·exact Un w
  ·exact Td w
 ·exact Y7 n w
 ·exact Ve s hs w
 ·exact Yx o w
theorem Zo  (w : World) : Ct 24 #[.agg #[.int .i64 0, .bool false, .float .f64 0, .string ⟨#[]⟩, .int .i64 0]] (.tuple #[.string wUnd, .int .i64 0]) w := by
 have CW := Lh (fun W => (show Cp 52 #[.string ⟨#[117, 110, 100, 101, 102, 105, 110, 101, 100]⟩] W fun e w' => e = .returned (.string wUnd) ∧ Below W.heap.size W w' from Ev [117, 110, 100, 101, 102, 105, 110, 101, 100] W rfl (by decide)))
 go_enter Tryz.func24, Tryz.ntmps24
 go_wp2_with fail
 refine Bm (CW.out _) fun w2 b2 => ?_
 go_wp2
 go_ret2
 exact ⟨rfl, Aa (Ag _ _) b2⟩
theorem Vu  (w : World) : Ct 24 #[.agg #[.int .i64 1, .bool false, .float .f64 0, .string ⟨#[]⟩, .int .i64 0]] (.tuple #[.string wNul, .int .i64 0]) w := by
 have CW := Lh (fun W => (show Cp 52 #[.string ⟨#[110, 117, 108, 108]⟩] W fun e w' => e = .returned (.string wNul) ∧ Below W.heap.size W w' from Ev [110, 117, 108, 108] W rfl (by decide)))
 go_enter Tryz.func24, Tryz.ntmps24
 go_wp2_with fail
 refine Bm (CW.out _) fun w2 b2 => ?_
 go_wp2
 go_ret2
 exact ⟨rfl, Aa (Ag _ _) b2⟩
theorem Uc  (w : World) : Ct 24 #[.agg #[.int .i64 2, .bool true, .float .f64 0, .string ⟨#[]⟩, .int .i64 0]] (.tuple #[.string wTru, .int .i64 0]) w := by
 have CW := Lh (fun W => (show Cp 52 #[.string ⟨#[116, 114, 117, 101]⟩] W fun e w' => e = .returned (.string wTru) ∧ Below W.heap.size W w' from Ev [116, 114, 117, 101] W rfl (by decide)))
 go_enter Tryz.func24, Tryz.ntmps24
 go_wp2_with fail
 refine Bm (CW.out _) fun w2 b2 => ?_
 go_wp2
 go_ret2
 exact ⟨rfl, Aa (Ag _ _) b2⟩
theorem Tr  (w : World) : Ct 24 #[.agg #[.int .i64 2, .bool false, .float .f64 0, .string ⟨#[]⟩, .int .i64 0]] (.tuple #[.string wFal, .int .i64 0]) w := by
 have CW := Lh (fun W => (show Cp 52 #[.string ⟨#[102, 97, 108, 115, 101]⟩] W fun e w' => e = .returned (.string wFal) ∧ Below W.heap.size W w' from Ev [102, 97, 108, 115, 101] W rfl (by decide)))
 go_enter Tryz.func24, Tryz.ntmps24
 go_wp2_with fail
 refine Bm (CW.out _) fun w2 b2 => ?_
 go_wp2
 go_ret2
 exact ⟨rfl, Aa (Ag _ _) b2⟩
theorem Vi (s : ByteArray) (w : World) : Ct 24 #[.agg #[.int .i64 4, .bool false, .float .f64 0, .string s, .int .i64 0]] (.tuple #[.string s, .int .i64 0]) w := by
 go_enter Tryz.func24, Tryz.ntmps24
 go_wp2
 go_ret2
 exact ⟨rfl, Ag _ _⟩
theorem Wl (o : Int) (w : World) : Ct 24 #[.agg #[.int .i64 5, .bool false, .float .f64 0, .string ⟨#[]⟩, .int .i64 o]] (.tuple #[.string ⟨#[]⟩, .int .i64 1]) w := by
 go_enter Tryz.func24, Tryz.ntmps24
 go_wp2
 go_ret2
 exact ⟨rfl, Ag _ _⟩
theorem Xn (n : Nat) (hn : n < 18446744073709551616) (w : World) (ht : Tab10 w) (hz : Ep w) : Ct 24 #[.agg #[.int .i64 3, .bool false, .float .f64 n, .string ⟨#[]⟩, .int .i64 0]] (.tuple #[.string (txt n), .int .i64 0]) w := by
 have C1 := Lh (fun W (hW : Below w.heap.size w W) => Ae4 (w := W) hn (ht.on hW) (Gz hz hW) (Classical.choose_spec (Jk n)))
 have hT := Lh (show wdS (Classical.choose (Jk n)) = txt n from rfl)
 clear hn ht hz
 rw [hT.out] at C1
 go_enter Tryz.func24, Tryz.ntmps24
 go_wp2_with fail
 with_reducible refine Bm (C1.out _ (Ag _ _)) fun w2 b2 => ?_
 go_wp2
 go_ret2
 exact ⟨rfl, Aa (Ag _ _) b2⟩
theorem De {v : Val} (h : Ec v = true) (hn : v.vn < 18446744073709551616) (w : World) (ht : Tab10 w) (hz : Ep w) : Ct 24 #[Dt v] (.tuple #[.string (Eb v), .int .i64 (Ua v)]) w := by
 rcases Dz h with rfl | rfl | ⟨b, rfl⟩ | ⟨n, _, rfl⟩ | ⟨s, _, rfl⟩ | ⟨o, _, rfl⟩
 ·exact Zo w
 ·exact Vu w
 ·cases b
  ·exact Tr w
  ·exact Uc w
 ·exact Xn n hn w ht hz
 ·exact Vi s w
 ·exact Wl o w
end
section
theorem Mj (x y : Val) (w : World) (n m : Nat) (M1 : Hid (∀ W, Below w.heap.size w W → Ct 22 #[.agg (Ar x)] (.tuple #[.float .f64 n, .int .i64 0]) W)) (M2 : Hid (∀ W, Below w.heap.size w W → Ct 22 #[.agg (Ar y)] (.tuple #[.float .f64 m, .int .i64 0]) W)) :
  Ct 57 #[.agg (Ar x), .agg (Ar y), .func (Fn.func 22) #[] #[]] (.tuple #[.float .f64 n, .float .f64 m, .int .i64 0]) w := by
 go_enter Tryz.func57, Tryz.ntmps57
 go_upto_region 1 with fail
 obtain ⟨W1, hW1⟩ : ∃ W1, w.alloc (.cells (Ar x) 24) = W1 := ⟨_, rfl⟩
 rw [hW1]
 obtain ⟨W2, hW2⟩ : ∃ W2, W1.alloc (.cells (Ar y) 24) = W2 := ⟨_, rfl⟩
 have HS := Lh (T2.new hW1 hW2)
 obtain ⟨a0, a1, a2, a3, a4, d0, d1, d2, d3, d4⟩ := HS.out.cs
 rw [hW2]
 clear hW1 hW2
 go_wp2_with (first | (refine ldX (k := 15) HS.out.k rfl (by kernel_rfl) rfl rfl ?_))
 with_reducible refine Bm (M1.out _ HS.out.b) fun w2 b2 => ?_
 have HS := Lh (HS.out.step b2)
 clear b2
 go_wp2_with (first | (refine ldX (k := 26) HS.out.k2 rfl (by kernel_rfl) rfl rfl ?_))
 with_reducible refine Bm (M2.out _ HS.out.b) fun w2 b2 => ?_
 have HS := Lh (HS.out.step b2)
 clear b2
 go_wp2
 go_ret3
 exact ⟨rfl, HS.out.b⟩
theorem Mx (x y : Val) (w : World) (n : Nat) (M1 : Hid (∀ W, Below w.heap.size w W → Ct 22 #[.agg (Ar x)] (.tuple #[.float .f64 n, .int .i64 1]) W)) :
  Ct 57 #[.agg (Ar x), .agg (Ar y), .func (Fn.func 22) #[] #[]] (.tuple #[.float .f64 0, .float .f64 0, .int .i64 1]) w := by
 go_enter Tryz.func57, Tryz.ntmps57
 go_upto_region 1 with fail
 obtain ⟨W1, hW1⟩ : ∃ W1, w.alloc (.cells (Ar x) 24) = W1 := ⟨_, rfl⟩
 rw [hW1]
 obtain ⟨W2, hW2⟩ : ∃ W2, W1.alloc (.cells (Ar y) 24) = W2 := ⟨_, rfl⟩
 have HS := Lh (T2.new hW1 hW2)
 obtain ⟨a0, a1, a2, a3, a4, d0, d1, d2, d3, d4⟩ := HS.out.cs
 rw [hW2]
 clear hW1 hW2
 go_wp2_with (first | (refine ldX (k := 15) HS.out.k rfl (by kernel_rfl) rfl rfl ?_))
 with_reducible refine Bm (M1.out _ HS.out.b) fun w2 b2 => ?_
 have HS := Lh (HS.out.step b2)
 clear b2
 go_wp2
 go_ret3
 exact ⟨rfl, HS.out.b⟩
theorem Mt (x y : Val) (w : World) (n m : Nat) (M1 : Hid (∀ W, Below w.heap.size w W → Ct 22 #[.agg (Ar x)] (.tuple #[.float .f64 n, .int .i64 0]) W)) (M2 : Hid (∀ W, Below w.heap.size w W → Ct 22 #[.agg (Ar y)] (.tuple #[.float .f64 m, .int .i64 1]) W)) :
  Ct 57 #[.agg (Ar x), .agg (Ar y), .func (Fn.func 22) #[] #[]] (.tuple #[.float .f64 0, .float .f64 0, .int .i64 1]) w := by
 go_enter Tryz.func57, Tryz.ntmps57
 go_upto_region 1 with fail
 obtain ⟨W1, hW1⟩ : ∃ W1, w.alloc (.cells (Ar x) 24) = W1 := ⟨_, rfl⟩
 rw [hW1]
 obtain ⟨W2, hW2⟩ : ∃ W2, W1.alloc (.cells (Ar y) 24) = W2 := ⟨_, rfl⟩
 have HS := Lh (T2.new hW1 hW2)
 obtain ⟨a0, a1, a2, a3, a4, d0, d1, d2, d3, d4⟩ := HS.out.cs
 rw [hW2]
 clear hW1 hW2
 go_wp2_with (first | (refine ldX (k := 15) HS.out.k rfl (by kernel_rfl) rfl rfl ?_))
 with_reducible refine Bm (M1.out _ HS.out.b) fun w2 b2 => ?_
 have HS := Lh (HS.out.step b2)
 clear b2
 go_wp2_with (first | (refine ldX (k := 26) HS.out.k2 rfl (by kernel_rfl) rfl rfl ?_))
 with_reducible refine Bm (M2.out _ HS.out.b) fun w2 b2 => ?_
 have HS := Lh (HS.out.step b2)
 clear b2
 go_wp2
 go_ret3
 exact ⟨rfl, HS.out.b⟩
theorem Nx (x y : Val) (w : World) (n m : ByteArray) (M1 : Hid (∀ W, Below w.heap.size w W → Ct 24 #[.agg (Ar x)] (.tuple #[.string n, .int .i64 0]) W)) (M2 : Hid (∀ W, Below w.heap.size w W → Ct 24 #[.agg (Ar y)] (.tuple #[.string m, .int .i64 0]) W)) :
  Ct 67 #[.agg (Ar x), .agg (Ar y), .func (Fn.func 24) #[] #[]] (.tuple #[.string n, .string m, .int .i64 0]) w := by
 go_enter Tryz.func67, Tryz.ntmps67
 go_upto_region 1 with fail
 obtain ⟨W1, hW1⟩ : ∃ W1, w.alloc (.cells (Ar x) 24) = W1 := ⟨_, rfl⟩
 rw [hW1]
 obtain ⟨W2, hW2⟩ : ∃ W2, W1.alloc (.cells (Ar y) 24) = W2 := ⟨_, rfl⟩
 have HS := Lh (T2.new hW1 hW2)
 obtain ⟨a0, a1, a2, a3, a4, d0, d1, d2, d3, d4⟩ := HS.out.cs
 rw [hW2]
 clear hW1 hW2
 go_wp2_with (first | (refine ldX (k := 15) HS.out.k rfl (by kernel_rfl) rfl rfl ?_))
 with_reducible refine Bm (M1.out _ HS.out.b) fun w2 b2 => ?_
 have HS := Lh (HS.out.step b2)
 clear b2
 go_wp2_with (first | (refine ldX (k := 26) HS.out.k2 rfl (by kernel_rfl) rfl rfl ?_))
 with_reducible refine Bm (M2.out _ HS.out.b) fun w2 b2 => ?_
 have HS := Lh (HS.out.step b2)
 clear b2
 go_wp2
 go_ret3
 exact ⟨rfl, HS.out.b⟩
theorem Pw (x y : Val) (w : World) (n : ByteArray) (M1 : Hid (∀ W, Below w.heap.size w W → Ct 24 #[.agg (Ar x)] (.tuple #[.string n, .int .i64 1]) W)) :
  Ct 67 #[.agg (Ar x), .agg (Ar y), .func (Fn.func 24) #[] #[]] (.tuple #[.string ⟨#[]⟩, .string ⟨#[]⟩, .int .i64 1]) w := by
 go_enter Tryz.func67, Tryz.ntmps67
 go_upto_region 1 with fail
 obtain ⟨W1, hW1⟩ : ∃ W1, w.alloc (.cells (Ar x) 24) = W1 := ⟨_, rfl⟩
 rw [hW1]
 obtain ⟨W2, hW2⟩ : ∃ W2, W1.alloc (.cells (Ar y) 24) = W2 := ⟨_, rfl⟩
 have HS := Lh (T2.new hW1 hW2)
 obtain ⟨a0, a1, a2, a3, a4, d0, d1, d2, d3, d4⟩ := HS.out.cs
 rw [hW2]
 clear hW1 hW2
 go_wp2_with (first | (refine ldX (k := 15) HS.out.k rfl (by kernel_rfl) rfl rfl ?_))
 with_reducible refine Bm (M1.out _ HS.out.b) fun w2 b2 => ?_
 have HS := Lh (HS.out.step b2)
 clear b2
 go_wp2
 go_ret3
 exact ⟨rfl, HS.out.b⟩
theorem O4 (x y : Val) (w : World) (n m : ByteArray) (M1 : Hid (∀ W, Below w.heap.size w W → Ct 24 #[.agg (Ar x)] (.tuple #[.string n, .int .i64 0]) W)) (M2 : Hid (∀ W, Below w.heap.size w W → Ct 24 #[.agg (Ar y)] (.tuple #[.string m, .int .i64 1]) W)) :
  Ct 67 #[.agg (Ar x), .agg (Ar y), .func (Fn.func 24) #[] #[]] (.tuple #[.string ⟨#[]⟩, .string ⟨#[]⟩, .int .i64 1]) w := by
 go_enter Tryz.func67, Tryz.ntmps67
 go_upto_region 1 with fail
 obtain ⟨W1, hW1⟩ : ∃ W1, w.alloc (.cells (Ar x) 24) = W1 := ⟨_, rfl⟩
 rw [hW1]
 obtain ⟨W2, hW2⟩ : ∃ W2, W1.alloc (.cells (Ar y) 24) = W2 := ⟨_, rfl⟩
 have HS := Lh (T2.new hW1 hW2)
 obtain ⟨a0, a1, a2, a3, a4, d0, d1, d2, d3, d4⟩ := HS.out.cs
 rw [hW2]
 clear hW1 hW2
 go_wp2_with (first | (refine ldX (k := 15) HS.out.k rfl (by kernel_rfl) rfl rfl ?_))
 with_reducible refine Bm (M1.out _ HS.out.b) fun w2 b2 => ?_
 have HS := Lh (HS.out.step b2)
 clear b2
 go_wp2_with (first | (refine ldX (k := 26) HS.out.k2 rfl (by kernel_rfl) rfl rfl ?_))
 with_reducible refine Bm (M2.out _ HS.out.b) fun w2 b2 => ?_
 have HS := Lh (HS.out.step b2)
 clear b2
 go_wp2
 go_ret3
 exact ⟨rfl, HS.out.b⟩
theorem Lq {v : Val} (h : Cj v = true) : Ua v = 0 := by unfold Ua; rw [h]; rfl
theorem Uk {v : Val} (h : Cj v = false) : Ua v = 1 := by unfold Ua; rw [h]; rfl
theorem Xk {x y : Val} (mx : Ec x = true) (my : Ec y = true) (sx : x.vs.size ≤ 140737488355328) (sy : y.vs.size ≤ 140737488355328) (w : World) :
  Ct 57 #[.agg (Ar x), .agg (Ar y), .func (Fn.func 22) #[] #[]] (.tuple (if (Cj x && Cj y) = true then #[.float .f64 (Hy x), .float .f64 (Hy y), .int .i64 0] else #[.float .f64 0, .float .f64 0, .int .i64 1])) w := by
 cases g1 : Cj x
 ·exact Mx x y w _ (Lh fun W _ => by have := Dg mx sx W; rw [Uk g1] at this; exact this)
 ·cases g2 : Cj y
  ·exact Mt x y w _ _ (Lh fun W _ => by have := Dg mx sx W; rw [Lq g1] at this; exact this) (Lh fun W _ => by have := Dg my sy W; rw [Uk g2] at this; exact this)
  ·exact Mj x y w _ _ (Lh fun W _ => by have := Dg mx sx W; rw [Lq g1] at this; exact this) (Lh fun W _ => by have := Dg my sy W; rw [Lq g2] at this; exact this)
theorem Ig {x y : Val} (mx : Ec x = true) (my : Ec y = true) (nx : x.vn < 18446744073709551616) (ny : y.vn < 18446744073709551616) (w : World) (ht : Tab10 w) (hz : Ep w) :
  Ct 67 #[.agg (Ar x), .agg (Ar y), .func (Fn.func 24) #[] #[]] (.tuple (if (Cj x && Cj y) = true then #[.string (Eb x), .string (Eb y), .int .i64 0] else #[.string ⟨#[]⟩, .string ⟨#[]⟩, .int .i64 1])) w := by
 cases g1 : Cj x
 ·exact Pw x y w _ (Lh fun W hW => by have := De mx nx W (ht.on hW) (Gz hz hW); rw [Uk g1] at this; exact this)
 ·cases g2 : Cj y
  ·exact O4 x y w _ _ (Lh fun W hW => by have := De mx nx W (ht.on hW) (Gz hz hW); rw [Lq g1] at this; exact this) (Lh fun W hW => by have := De my ny W (ht.on hW) (Gz hz hW); rw [Uk g2] at this; exact this)
  ·exact Nx x y w _ _ (Lh fun W hW => by have := De mx nx W (ht.on hW) (Gz hz hW); rw [Lq g1] at this; exact this) (Lh fun W hW => by have := De my ny W (ht.on hW) (Gz hz hW); rw [Lq g2] at this; exact this)
theorem Alj (x y : Val) (w : World) (mx : Ec x = true) (my : Ec y = true) (sx : x.vs.size ≤ 140737488355328) (sy : y.vs.size ≤ 140737488355328) (hK : (x.vk == 4) = false) (hJ : (y.vk == 4) = false) (hO : (Cj x && Cj y) = true) : Ct 39 #[.agg (Ar x), .agg (Ar y)] (.tuple #[Dt (Afd (Aob (Hy x) (Hy y))), .int .i64 0]) w := by
 have M := fun W => Xk mx my sx sy W
 rw [hO] at M
 clear mx my sx sy hO
 simp only [if_true] at M
 obtain ⟨n, hn⟩ : ∃ n, Hy x = n := ⟨_, rfl⟩
 obtain ⟨m, hm⟩ : ∃ n, Hy y = n := ⟨_, rfl⟩
 rw [hn] at M ⊢
 rw [hm] at M ⊢
 clear hn hm
 have M := Lh M
 have CN := Lh (fun r W => Wx r W)
 go_enter Tryz.func39, Tryz.ntmps39
 go_upto_region 1 with fail
 rw [F9]
 obtain ⟨W1, hW1⟩ : ∃ W1, w.alloc (.cells (Ar x) 24) = W1 := ⟨_, rfl⟩
 rw [hW1]
 obtain ⟨W2, hW2⟩ : ∃ W2, W1.alloc (.cells (Ar y) 24) = W2 := ⟨_, rfl⟩
 rw [hW2]
 obtain ⟨W3, hW3⟩ : ∃ W3, W2.alloc (.cells (Ar vZ) 24) = W3 := ⟨_, rfl⟩
 have HS := Lh (T3.new hW1 hW2 hW3)
 obtain ⟨a0, a1, a2, a3, a4, d0, d1, d2, d3, d4⟩ := HS.out.cs
 rw [hW3]
 clear hW1 hW2 hW3
 go_wp2_with (first | (refine ldX (k := 36) HS.out.k rfl (by kernel_rfl) rfl rfl ?_) | (refine ldX (k := 37) HS.out.k2 rfl (by kernel_rfl) rfl rfl ?_))
 with_reducible refine Bm (M.out _) fun w2 b2 => ?_
 have HS := Lh (HS.out.step b2)
 clear b2
 obtain ⟨r, d, h1, h2⟩ := Aln n m w2
 have H2 := Lh h2
 clear h2
 go_wp2_with fail
 with_reducible refine Bm (CN.out _ _) fun w3 b3 => ?_
 have HT := Lh ((HS.out.drewN d).step b3)
 clear HS b3 a0 a1 a2 a3 a4 d0 d1 d2 d3 d4 h1
 have HR := Lh (HT.out.row (Ar (Afd (cn r))))
 go_wp2_with (refine vlS rfl rfl (w.heap.size + 2) 3 false (cn r) ⟨#[]⟩ 0 rfl rfl HT.out.kr ?_)
 refine Ae7 rfl rfl HR.out.1 rfl rfl ⟨by rw [← H2.out]; rfl, HR.out.2⟩
theorem Aia (x y : Val) (w : World) (mx : Ec x = true) (my : Ec y = true) (sx : x.vs.size ≤ 140737488355328) (sy : y.vs.size ≤ 140737488355328) (hK : (x.vk == 4) = false) (hJ : (y.vk == 4) = false) (hO : (Cj x && Cj y) = false) : Ct 39 #[.agg (Ar x), .agg (Ar y)] (.tuple #[Dt vZ, .int .i64 1]) w := by
 have M := fun W => Xk mx my sx sy W
 rw [hO] at M
 clear mx my sx sy hO
 simp only [Bool.false_eq_true, if_false] at M
 have M := Lh M
 go_enter Tryz.func39, Tryz.ntmps39
 go_upto_region 1 with fail
 rw [F9]
 obtain ⟨W1, hW1⟩ : ∃ W1, w.alloc (.cells (Ar x) 24) = W1 := ⟨_, rfl⟩
 rw [hW1]
 obtain ⟨W2, hW2⟩ : ∃ W2, W1.alloc (.cells (Ar y) 24) = W2 := ⟨_, rfl⟩
 rw [hW2]
 obtain ⟨W3, hW3⟩ : ∃ W3, W2.alloc (.cells (Ar vZ) 24) = W3 := ⟨_, rfl⟩
 have HS := Lh (T3.new hW1 hW2 hW3)
 obtain ⟨a0, a1, a2, a3, a4, d0, d1, d2, d3, d4⟩ := HS.out.cs
 rw [hW3]
 clear hW1 hW2 hW3
 go_wp2_with (first | (refine ldX (k := 36) HS.out.k rfl (by kernel_rfl) rfl rfl ?_) | (refine ldX (k := 37) HS.out.k2 rfl (by kernel_rfl) rfl rfl ?_))
 with_reducible refine Bm (M.out _) fun w2 b2 => ?_
 have HS := Lh (HS.out.step b2)
 clear b2
 have HR := Lh (HS.out.row (Ar vZ))
 go_wp2_with (refine vlS rfl rfl (w.heap.size + 2) 0 false 0 ⟨#[]⟩ 0 rfl rfl HS.out.kr ?_)
 refine Ae7 rfl rfl HR.out.1 rfl rfl ⟨rfl, HR.out.2⟩
theorem Agv (x y : Val) (w : World) (mx : Ec x = true) (my : Ec y = true) (sx : x.vs.size ≤ 140737488355328) (sy : y.vs.size ≤ 140737488355328) (nx : x.vn < 18446744073709551616) (ny : y.vn < 18446744073709551616) (ht : Tab10 w) (hz : Ep w) (hK : (x.vk == 4) = false) (hJ : (y.vk == 4) = true) (hO : (Cj x && Cj y) = true) : Ct 39 #[.agg (Ar x), .agg (Ar y)] (.tuple #[Dt (Km (wh (Eb x ++ Eb y))), .int .i64 0]) w := by
 have M := fun W (hW : Below w.heap.size w W) => Ig mx my nx ny W (ht.on hW) (Gz hz hW)
 rw [hO] at M
 have z1 := Gs mx sx
 have z2 := Gs my sy
 clear mx my sx sy nx ny ht hz hO
 simp only [if_true] at M
 obtain ⟨s, hs⟩ : ∃ s, Eb x = s := ⟨_, rfl⟩
 obtain ⟨t, ht⟩ : ∃ s, Eb y = s := ⟨_, rfl⟩
 rw [hs] at M z1 ⊢
 rw [ht] at M z2 ⊢
 clear hs ht
 have CS := Lh (fun W => Md (s ++ t) W (by rw [ByteArray.size_append]; unfold maxLen; omega))
 have z3 : ¬ 9223372036854775807 < s.size + t.size := by omega
 clear z1 z2
 have M := Lh M
 go_enter Tryz.func39, Tryz.ntmps39
 go_upto_region 1 with fail
 rw [F9]
 obtain ⟨W1, hW1⟩ : ∃ W1, w.alloc (.cells (Ar x) 24) = W1 := ⟨_, rfl⟩
 rw [hW1]
 obtain ⟨W2, hW2⟩ : ∃ W2, W1.alloc (.cells (Ar y) 24) = W2 := ⟨_, rfl⟩
 rw [hW2]
 obtain ⟨W3, hW3⟩ : ∃ W3, W2.alloc (.cells (Ar vZ) 24) = W3 := ⟨_, rfl⟩
 have HS := Lh (T3.new hW1 hW2 hW3)
 obtain ⟨a0, a1, a2, a3, a4, d0, d1, d2, d3, d4⟩ := HS.out.cs
 rw [hW3]
 clear hW1 hW2 hW3
 go_wp2_with (first | (refine ldX (k := 21) HS.out.k rfl (by kernel_rfl) rfl rfl ?_) | (refine ldX (k := 22) HS.out.k2 rfl (by kernel_rfl) rfl rfl ?_))
 with_reducible refine Bm (M.out _ HS.out.b) fun w2 b2 => ?_
 have HS := Lh (HS.out.step b2)
 clear b2
 go_wp2_with fail
 with_reducible refine Bm (CS.out _) fun w3 b3 => ?_
 have HT := Lh (HS.out.step b3)
 clear HS b3 a0 a1 a2 a3 a4 d0 d1 d2 d3 d4
 have HR := Lh (HT.out.row (Ar (Km (wh (s ++ t)))))
 go_wp2_with (refine vlS rfl rfl (w.heap.size + 2) 4 false 0 (wh (s ++ t)) 0 rfl rfl HT.out.kr ?_)
 refine Ae7 rfl rfl HR.out.1 rfl rfl ⟨rfl, HR.out.2⟩
theorem Agw (x y : Val) (w : World) (mx : Ec x = true) (my : Ec y = true) (_ : x.vs.size ≤ 140737488355328) (_ : y.vs.size ≤ 140737488355328) (nx : x.vn < 18446744073709551616) (ny : y.vn < 18446744073709551616) (ht : Tab10 w) (hz : Ep w) (hK : (x.vk == 4) = false) (hJ : (y.vk == 4) = true) (hO : (Cj x && Cj y) = false) : Ct 39 #[.agg (Ar x), .agg (Ar y)] (.tuple #[Dt vZ, .int .i64 1]) w := by
 have M := fun W (hW : Below w.heap.size w W) => Ig mx my nx ny W (ht.on hW) (Gz hz hW)
 rw [hO] at M
 clear mx my nx ny ht hz hO
 simp only [Bool.false_eq_true, if_false] at M
 have M := Lh M
 go_enter Tryz.func39, Tryz.ntmps39
 go_upto_region 1 with fail
 rw [F9]
 obtain ⟨W1, hW1⟩ : ∃ W1, w.alloc (.cells (Ar x) 24) = W1 := ⟨_, rfl⟩
 rw [hW1]
 obtain ⟨W2, hW2⟩ : ∃ W2, W1.alloc (.cells (Ar y) 24) = W2 := ⟨_, rfl⟩
 rw [hW2]
 obtain ⟨W3, hW3⟩ : ∃ W3, W2.alloc (.cells (Ar vZ) 24) = W3 := ⟨_, rfl⟩
 have HS := Lh (T3.new hW1 hW2 hW3)
 obtain ⟨a0, a1, a2, a3, a4, d0, d1, d2, d3, d4⟩ := HS.out.cs
 rw [hW3]
 clear hW1 hW2 hW3
 go_wp2_with (first | (refine ldX (k := 21) HS.out.k rfl (by kernel_rfl) rfl rfl ?_) | (refine ldX (k := 22) HS.out.k2 rfl (by kernel_rfl) rfl rfl ?_))
 with_reducible refine Bm (M.out _ HS.out.b) fun w2 b2 => ?_
 have HS := Lh (HS.out.step b2)
 clear b2
 have HR := Lh (HS.out.row (Ar vZ))
 go_wp2_with (refine vlS rfl rfl (w.heap.size + 2) 0 false 0 ⟨#[]⟩ 0 rfl rfl HS.out.kr ?_)
 refine Ae7 rfl rfl HR.out.1 rfl rfl ⟨rfl, HR.out.2⟩
theorem Afy (x y : Val) (w : World) (mx : Ec x = true) (my : Ec y = true) (sx : x.vs.size ≤ 140737488355328) (sy : y.vs.size ≤ 140737488355328) (nx : x.vn < 18446744073709551616) (ny : y.vn < 18446744073709551616) (ht : Tab10 w) (hz : Ep w) (hK : (x.vk == 4) = true) (hO : (Cj x && Cj y) = true) : Ct 39 #[.agg (Ar x), .agg (Ar y)] (.tuple #[Dt (Km (wh (Eb x ++ Eb y))), .int .i64 0]) w := by
 have M := fun W (hW : Below w.heap.size w W) => Ig mx my nx ny W (ht.on hW) (Gz hz hW)
 rw [hO] at M
 have z1 := Gs mx sx
 have z2 := Gs my sy
 clear mx my sx sy nx ny ht hz hO
 simp only [if_true] at M
 obtain ⟨s, hs⟩ : ∃ s, Eb x = s := ⟨_, rfl⟩
 obtain ⟨t, ht⟩ : ∃ s, Eb y = s := ⟨_, rfl⟩
 rw [hs] at M z1 ⊢
 rw [ht] at M z2 ⊢
 clear hs ht
 have CS := Lh (fun W => Md (s ++ t) W (by rw [ByteArray.size_append]; unfold maxLen; omega))
 have z3 : ¬ 9223372036854775807 < s.size + t.size := by omega
 clear z1 z2
 have M := Lh M
 go_enter Tryz.func39, Tryz.ntmps39
 go_upto_region 1 with fail
 rw [F9]
 obtain ⟨W1, hW1⟩ : ∃ W1, w.alloc (.cells (Ar x) 24) = W1 := ⟨_, rfl⟩
 rw [hW1]
 obtain ⟨W2, hW2⟩ : ∃ W2, W1.alloc (.cells (Ar y) 24) = W2 := ⟨_, rfl⟩
 rw [hW2]
 obtain ⟨W3, hW3⟩ : ∃ W3, W2.alloc (.cells (Ar vZ) 24) = W3 := ⟨_, rfl⟩
 have HS := Lh (T3.new hW1 hW2 hW3)
 obtain ⟨a0, a1, a2, a3, a4, d0, d1, d2, d3, d4⟩ := HS.out.cs
 rw [hW3]
 clear hW1 hW2 hW3
 go_wp2_with (first | (refine ldX (k := 21) HS.out.k rfl (by kernel_rfl) rfl rfl ?_) | (refine ldX (k := 22) HS.out.k2 rfl (by kernel_rfl) rfl rfl ?_))
 with_reducible refine Bm (M.out _ HS.out.b) fun w2 b2 => ?_
 have HS := Lh (HS.out.step b2)
 clear b2
 go_wp2_with fail
 with_reducible refine Bm (CS.out _) fun w3 b3 => ?_
 have HT := Lh (HS.out.step b3)
 clear HS b3 a0 a1 a2 a3 a4 d0 d1 d2 d3 d4
 have HR := Lh (HT.out.row (Ar (Km (wh (s ++ t)))))
 go_wp2_with (refine vlS rfl rfl (w.heap.size + 2) 4 false 0 (wh (s ++ t)) 0 rfl rfl HT.out.kr ?_)
 refine Ae7 rfl rfl HR.out.1 rfl rfl ⟨rfl, HR.out.2⟩
theorem Ad7 (x y : Val) (w : World) (mx : Ec x = true) (my : Ec y = true) (_ : x.vs.size ≤ 140737488355328) (_ : y.vs.size ≤ 140737488355328) (nx : x.vn < 18446744073709551616) (ny : y.vn < 18446744073709551616) (ht : Tab10 w) (hz : Ep w) (hK : (x.vk == 4) = true) (hO : (Cj x && Cj y) = false) : Ct 39 #[.agg (Ar x), .agg (Ar y)] (.tuple #[Dt vZ, .int .i64 1]) w := by
 have M := fun W (hW : Below w.heap.size w W) => Ig mx my nx ny W (ht.on hW) (Gz hz hW)
 rw [hO] at M
 clear mx my nx ny ht hz hO
 simp only [Bool.false_eq_true, if_false] at M
 have M := Lh M
 go_enter Tryz.func39, Tryz.ntmps39
 go_upto_region 1 with fail
 rw [F9]
 obtain ⟨W1, hW1⟩ : ∃ W1, w.alloc (.cells (Ar x) 24) = W1 := ⟨_, rfl⟩
 rw [hW1]
 obtain ⟨W2, hW2⟩ : ∃ W2, W1.alloc (.cells (Ar y) 24) = W2 := ⟨_, rfl⟩
 rw [hW2]
 obtain ⟨W3, hW3⟩ : ∃ W3, W2.alloc (.cells (Ar vZ) 24) = W3 := ⟨_, rfl⟩
 have HS := Lh (T3.new hW1 hW2 hW3)
 obtain ⟨a0, a1, a2, a3, a4, d0, d1, d2, d3, d4⟩ := HS.out.cs
 rw [hW3]
 clear hW1 hW2 hW3
 go_wp2_with (first | (refine ldX (k := 21) HS.out.k rfl (by kernel_rfl) rfl rfl ?_) | (refine ldX (k := 22) HS.out.k2 rfl (by kernel_rfl) rfl rfl ?_))
 with_reducible refine Bm (M.out _ HS.out.b) fun w2 b2 => ?_
 have HS := Lh (HS.out.step b2)
 clear b2
 have HR := Lh (HS.out.row (Ar vZ))
 go_wp2_with (refine vlS rfl rfl (w.heap.size + 2) 0 false 0 ⟨#[]⟩ 0 rfl rfl HS.out.kr ?_)
 refine Ae7 rfl rfl HR.out.1 rfl rfl ⟨rfl, HR.out.2⟩
theorem Ahv {x y : Val} (mx : Ec x = true) (my : Ec y = true) (sx : x.vs.size ≤ 140737488355328) (sy : y.vs.size ≤ 140737488355328) (nx : x.vn < 18446744073709551616) (ny : y.vn < 18446744073709551616) (w : World) (ht : Tab10 w) (hz : Ep w) : Cp 39 #[Dt x, Dt y] w fun e w' => e = App x y ∧ Below w.heap.size w w' := by
 unfold App
 cases hK : (x.vk == 4)
 ·cases hJ : (y.vk == 4)
  ·cases hO : (Cj x && Cj y)
   ·rw [if_neg (by simp)]
    exact Aia x y w mx my sx sy hK hJ hO
   ·rw [if_pos rfl, if_neg (by simp)]
    exact Alj x y w mx my sx sy hK hJ hO
  ·cases hO : (Cj x && Cj y)
   ·rw [if_neg (by simp)]
    exact Agw x y w mx my sx sy nx ny ht hz hK hJ hO
   ·rw [if_pos rfl, if_pos (by simp)]
    exact Agv x y w mx my sx sy nx ny ht hz hK hJ hO
 ·cases hO : (Cj x && Cj y)
  ·rw [if_neg (by simp)]
   exact Ad7 x y w mx my sx sy nx ny ht hz hK hO
  ·rw [if_pos rfl, if_pos (by simp)]
   exact Afy x y w mx my sx sy nx ny ht hz hK hO
end
section
theorem Aqw (a : Act) (v : Value) : a.put none v = a := rfl
theorem Afp : App (Km (wdS [97])) Ak2 = .returned (.tuple #[Dt (Km (wdS [97, 110, 117, 108, 108])), .int .i64 0]) := by
 have h1 : wh (wdS [97] ++ wNul) = wdS [97, 110, 117, 108, 108] := by decide +kernel
 show (Ending.returned (.tuple #[Dt (Km (wh (wdS [97] ++ wNul))), .int .i64 0])) = _
 rw [h1]
structure Blk4 (w W : World) (X : Nat) (B : ByteArray) : Prop where
 k : W.heap[X]? = some (.cells #[.int .i64 4, .bool false, .float .f64 0, .string B, .int .i64 0] 24 (0, 0))
 l : X < W.heap.size
 b : Below w.heap.size w W
theorem Blk4.step {w W W' : World} {X : Nat} {B : ByteArray} (h : Blk4 w W X B) (hb : Below W.heap.size W W') : Blk4 w W' X B := ⟨(hb.block X h.l).trans h.k, Nat.lt_of_lt_of_le h.l hb.size, Aa h.b hb⟩
theorem Blk4.drew {w W : World} {X : Nat} {B : ByteArray} (h : Blk4 w W X B) : Blk4 w W.drew X B := ⟨h.k, h.l, Ae h.b 1⟩
theorem Blk4.cs {w W : World} {X : Nat} {B : ByteArray} (h : Blk4 w W X B) : W.cell? ⟨X, 0, none⟩ = some (.int .i64 4) ∧ W.cell? ⟨X, 3, none⟩ = some (.string B) :=
 ⟨(cell_of_row W X 0 _ _ _ h.k).trans rfl, (cell_of_row W X 3 _ _ _ h.k).trans rfl⟩
theorem Y8 (w : World) (ht : Tab10 w) (hz : Ep w) : Ct 11 #[] (.bool true) w := by
 have C1 := Lh (fun W => (show Cp 43 #[.string ⟨#[97]⟩] W fun e w' => e = .returned (.string (wdS [97])) ∧ Below W.heap.size W w' from D9 [97] W rfl (by decide)))
 have C3 := Lh (fun W => (show Cp 43 #[.string ⟨#[97, 110, 117, 108, 108]⟩] W fun e w' => e = .returned (.string (wdS [97, 110, 117, 108, 108])) ∧ Below W.heap.size W w' from D9 [97, 110, 117, 108, 108] W rfl (by decide)))
 have C2 : ∀ W, Below w.heap.size w W → Ct 39 #[Dt (Km (wdS [97])), Dt Ak2] (.tuple #[Dt (Km (wdS [97, 110, 117, 108, 108])), .int .i64 0]) W := fun W hW => by
  have := Ahv (x := Km (wdS [97])) (y := Ak2) (by decide +kernel) (by decide +kernel) (by decide +kernel) (by decide +kernel) (by decide) (by decide) W (ht.on hW) (Gz hz hW)
  rw [Afp] at this
  exact this
 have C2 := Lh C2
 obtain ⟨A, hA⟩ : ∃ A, wdS [97] = A := ⟨_, rfl⟩
 obtain ⟨B, hB⟩ : ∃ A, wdS [97, 110, 117, 108, 108] = A := ⟨_, rfl⟩
 rw [hA] at C1 C2
 rw [hB] at C2 C3
 clear hA hB ht hz
 simp only [Dt, Km, Ak2] at C2
 go_enter Tryz.func11, Tryz.ntmps11
 go_wp2_with fail
 refine Bm (C1.out _) fun w2 b2 => ?_
 have B2 := Lh b2
 clear b2
 go_wp2_with fail
 with_reducible refine Bm (C2.out _ B2.out) fun w3 b3 => ?_
 have B3 := Lh (Aa B2.out b3)
 clear b3
 go_upto_region 2 with (refine vlS rfl rfl w3.heap.size 4 false 0 B 0 rfl rfl (heap_alloc_last w3 _) ?_; rw [World.setRow_alloc_new])
 have HX := Lh (show Blk4 w (w3.alloc (.cells #[.int .i64 4, .bool false, .float .f64 0, .string B, .int .i64 0] 24)) w3.heap.size B from ⟨heap_alloc_last w3 _, by simp, Ch _ B3.out⟩)
 generalize w3.alloc (.cells #[.int .i64 4, .bool false, .float .f64 0, .string B, .int .i64 0] 24) = w4 at *
 generalize w3.heap.size = X at *
 (try simp only [Aqw])
 refine wp_region_held_drew (S := fun wx => Blk4 w wx X B) (by kernel_rfl) (HX.out.drew) (fun hHeld => ?_)
 refine Tg 0 rfl rfl ?_; simp only [Ak]
 refine Tg 1 rfl rfl ?_; simp only [Ak]
 refine Tg 2 rfl rfl ?_; simp only [Ak]
 refine Tg 3 rfl rfl ?_; simp only [Ak]
 refine Tk 4 rfl rfl (Or.inl ⟨by rfl, by (intro w hS; have c := hS.cs.1; go_simp; try with_reducible rfl)⟩) ?_; simp only [Ak]
 refine Tg 5 rfl rfl ?_; simp only [Ak]
 refine Tg 6 rfl rfl ?_; simp only [Ak]
 refine Tg 7 rfl rfl ?_; simp only [Ak]
 refine Tg 8 rfl rfl ?_; simp only [Ak]
 refine Tk 9 rfl rfl (Or.inl ⟨by rfl, by (intro w hS; have c := hS.cs.2; go_simp; try with_reducible rfl)⟩) ?_; simp only [Ak]
 refine Jp (i := 10) (by kernel_rfl) rfl rfl (by rfl) (fun K hK => ?_)
 go_simp
 with_reducible refine Bm (C3.out _) fun w5 b5 => ?_
 have hHe2 := hHeld.step b5
 clear hHeld b5
 refine hK.out _ _ hHe2 ?_; clear hK K; simp only [Ak]
 have hHeld := hHe2; clear hHe2
 refine Tg 11 rfl rfl ?_; simp only [Ak]
 refine Tg 12 rfl rfl ?_; simp only [Ak]
 refine Tg 13 rfl rfl ?_; simp only [Ak]
 refine wpAnyH_done (by kernel_rfl) ?_ _
 have HS := Lh hHeld
 go_wp2
 go_ret
 exact ⟨rfl, HS.out.b⟩
end
section
theorem Xm (x : Val) (c : Bool) (w : World) (ht : Tab10 w) (hz : Ep w) (nx : x.vn < 18446744073709551616) (sx : x.vs.size ≤ 140737488355328) : Ct 5 #[Dt x, .bool c] (.bool true) w := by
 have CW : ∀ W, Below w.heap.size w W → Ct 11 #[] (.bool true) W := fun W hW => Y8 W (ht.on hW) (Gz hz hW)
 have CW := Lh CW
 have CM := fun W => Ajf x W
 cases hm : Ec x
 ·rw [hm] at CM
  clear ht hz nx sx hm
  have e_x := show Dt x = .agg (Ar x) from rfl
  rw [e_x] at CM ⊢
  clear e_x
  have CM := Lh CM
  go_enter Tryz.func5, Tryz.ntmps5
  go_upto_region 1 with fail
  obtain ⟨W1, hW1⟩ : ∃ W1, w.alloc (.cells (Ar x) 24) = W1 := ⟨_, rfl⟩
  have HS := Lh (T1.new hW1)
  obtain ⟨c0, c1, c2, c3, c4⟩ := HS.out.cs
  rw [hW1]
  clear hW1
  go_wp2_with (first | (refine ldX (k := 13) HS.out.k rfl (by kernel_rfl) rfl rfl ?_))
  with_reducible refine Bm (CM.out _) fun w2 b2 => ?_
  have HT := HS; clear HS
  have HS := Lh (HT.out.step b2)
  clear HT b2 c0 c1 c2 c3 c4
  obtain ⟨c0, c1, c2, c3, c4⟩ := HS.out.cs
  go_wp2_with fail
  with_reducible refine Bm (CW.out _ HS.out.b) fun w2 b2 => ?_
  have HT := HS; clear HS
  have HS := Lh (HT.out.step b2)
  clear HT b2 c0 c1 c2 c3 c4
  obtain ⟨c0, c1, c2, c3, c4⟩ := HS.out.cs
  go_wp2
  go_ret
  exact ⟨rfl, HS.out.b⟩
 ·rw [hm] at CM
  have ETypeOf := fun W => Zg hm c W
  have FTypeOf := fun W => Vr hm c W
  have EToBoolean := fun W => Oh hm W
  have FToBoolean := fun W => Od hm W
  have EToNumber := fun W => Dg hm sx W
  have FToNumber := fun W => P8 hm sx W
  have EToString : ∀ W, Below w.heap.size w W → _ := fun W hW => De hm nx W (ht.on hW) (Gz hz hW)
  have FToString := fun W => Qs hm nx W
  obtain ⟨typ, h1⟩ : ∃ t, Aoy x c = t := ⟨_, rfl⟩
  obtain ⟨tb, h2⟩ : ∃ t, Akm x = t := ⟨_, rfl⟩
  obtain ⟨num, h3⟩ : ∃ t, Hy x = t := ⟨_, rfl⟩
  obtain ⟨txt1, h4⟩ : ∃ t, Eb x = t := ⟨_, rfl⟩
  obtain ⟨err, h5⟩ : ∃ t, Ua x = t := ⟨_, rfl⟩
  rw [h1] at ETypeOf FTypeOf
  rw [h2] at EToBoolean FToBoolean
  rw [h3, h5] at EToNumber FToNumber
  rw [h4, h5] at EToString FToString
  clear h1 h2 h3 h4 h5 ht hz nx sx hm
  have hB := fun W => Bq num W
  have e_x := show Dt x = .agg (Ar x) from rfl
  rw [e_x] at CM ETypeOf FTypeOf EToBoolean FToBoolean EToNumber FToNumber EToString FToString ⊢
  clear e_x
  have CM := Lh CM
  have ETypeOf := Lh ETypeOf
  have EToBoolean := Lh EToBoolean
  have EToNumber := Lh EToNumber
  have EToString := Lh EToString
  have FTypeOf := Lh FTypeOf
  have FToBoolean := Lh FToBoolean
  have FToNumber := Lh FToNumber
  have FToString := Lh FToString
  go_enter Tryz.func5, Tryz.ntmps5
  go_upto_region 1 with fail
  obtain ⟨W1, hW1⟩ : ∃ W1, w.alloc (.cells (Ar x) 24) = W1 := ⟨_, rfl⟩
  have HS := Lh (T1.new hW1)
  obtain ⟨c0, c1, c2, c3, c4⟩ := HS.out.cs
  rw [hW1]
  clear hW1
  go_wp2_with (first | (refine ldX (k := 13) HS.out.k rfl (by kernel_rfl) rfl rfl ?_))
  with_reducible refine Bm (CM.out _) fun w2 b2 => ?_
  have HT := HS; clear HS
  have HS := Lh (HT.out.step b2)
  clear HT b2 c0 c1 c2 c3 c4
  obtain ⟨c0, c1, c2, c3, c4⟩ := HS.out.cs
  go_wp2_with (first | (refine ldX (k := 18) HS.out.k rfl (by kernel_rfl) rfl rfl ?_))
  with_reducible refine Bm (EToNumber.out _) fun w2 b2 => ?_
  have HT := HS; clear HS
  have HS := Lh (HT.out.step b2)
  clear HT b2 c0 c1 c2 c3 c4
  obtain ⟨c0, c1, c2, c3, c4⟩ := HS.out.cs
  go_wp2_with (first | (refine ldX (k := 23) HS.out.k rfl (by kernel_rfl) rfl rfl ?_))
  with_reducible refine Bm (FToNumber.out _) fun w2 b2 => ?_
  have HT := HS; clear HS
  have HS := Lh (HT.out.step b2)
  clear HT b2 c0 c1 c2 c3 c4
  obtain ⟨c0, c1, c2, c3, c4⟩ := HS.out.cs
  go_wp2_with (first | (refine ldX (k := 28) HS.out.k rfl (by kernel_rfl) rfl rfl ?_))
  with_reducible refine Bm (EToString.out _ HS.out.b) fun w2 b2 => ?_
  have HT := HS; clear HS
  have HS := Lh (HT.out.step b2)
  clear HT b2 c0 c1 c2 c3 c4
  obtain ⟨c0, c1, c2, c3, c4⟩ := HS.out.cs
  go_wp2_with (first | (refine ldX (k := 33) HS.out.k rfl (by kernel_rfl) rfl rfl ?_))
  with_reducible refine Bm (FToString.out _) fun w2 b2 => ?_
  have HT := HS; clear HS
  have HS := Lh (HT.out.step b2)
  clear HT b2 c0 c1 c2 c3 c4
  obtain ⟨c0, c1, c2, c3, c4⟩ := HS.out.cs
  go_upto_region 7 with fail
  refine wp_region_held_drew (S := fun wx => T1 w wx x) (by kernel_rfl) (HS.out.drew) (fun hHeld => ?_)
  clear HS c0 c1 c2 c3 c4
  refine Tk 0 rfl rfl (Or.inl ⟨by rfl, fun w hS => Nh hS.k rfl rfl⟩) ?_; simp only [Ak]
  refine Tg 1 rfl rfl ?_; simp only [Ak]
  refine Tk 3 rfl rfl (Or.inl ⟨by rfl, fun w hS => Nh hS.k rfl rfl⟩) ?_; simp only [Ak]
  refine Tg 4 rfl rfl ?_; simp only [Ak]
  refine Jp (i := 2) (by kernel_rfl) rfl rfl (by rfl) (fun K hK => ?_)
  go_simp
  with_reducible refine Bm (ETypeOf.out _) fun w2 b2 => ?_
  have hHe2 := hHeld.step b2
  clear hHeld b2
  refine hK.out _ _ hHe2 ?_; clear hK K; simp only [Ak]
  have hHeld := hHe2; clear hHe2
  refine Jp (i := 5) (by kernel_rfl) rfl rfl (by rfl) (fun K hK => ?_)
  go_simp
  with_reducible refine Bm (FTypeOf.out _) fun w2 b2 => ?_
  have hHe2 := hHeld.step b2
  clear hHeld b2
  refine hK.out _ _ hHe2 ?_; clear hK K; simp only [Ak]
  have hHeld := hHe2; clear hHe2
  refine Tg 6 rfl rfl ?_; simp only [Ak]
  refine Tg 7 rfl rfl ?_; simp only [Ak]
  refine Tk 8 rfl rfl (Or.inl ⟨by rfl, fun w hS => Nh hS.k rfl rfl⟩) ?_; simp only [Ak]
  refine Tk 10 rfl rfl (Or.inl ⟨by rfl, fun w hS => Nh hS.k rfl rfl⟩) ?_; simp only [Ak]
  refine Jp (i := 9) (by kernel_rfl) rfl rfl (by rfl) (fun K hK => ?_)
  go_simp
  with_reducible refine Bm (EToBoolean.out _) fun w2 b2 => ?_
  have hHe2 := hHeld.step b2
  clear hHeld b2
  refine hK.out _ _ hHe2 ?_; clear hK K; simp only [Ak]
  have hHeld := hHe2; clear hHe2
  refine Jp (i := 11) (by kernel_rfl) rfl rfl (by rfl) (fun K hK => ?_)
  go_simp
  with_reducible refine Bm (FToBoolean.out _) fun w2 b2 => ?_
  have hHe2 := hHeld.step b2
  clear hHeld b2
  refine hK.out _ _ hHe2 ?_; clear hK K; simp only [Ak]
  have hHeld := hHe2; clear hHe2
  refine Tg 12 rfl rfl ?_; simp only [Ak]
  refine Tg 13 rfl rfl ?_; simp only [Ak]
  refine Tg 14 rfl rfl ?_; simp only [Ak]
  refine Tg 15 rfl rfl ?_; simp only [Ak]
  refine Tg 16 rfl rfl ?_; simp only [Ak]
  refine Tg 17 rfl rfl ?_; simp only [Ak]
  refine Tg 18 rfl rfl ?_; simp only [Ak]
  refine Tg 19 rfl rfl ?_; simp only [Ak]
  refine Tg 20 rfl rfl ?_; simp only [Ak]
  refine Tg 21 rfl rfl ?_; simp only [Ak]
  refine Tg 22 rfl rfl ?_; simp only [Ak]
  refine Tg 23 rfl rfl ?_; simp only [Ak]
  refine Tg 24 rfl rfl ?_; simp only [Ak]
  refine Tg 25 rfl rfl ?_; simp only [Ak]
  refine Tg 26 rfl rfl ?_; simp only [Ak]
  refine Tg 27 rfl rfl ?_; simp only [Ak]
  refine Tg 28 rfl rfl ?_; simp only [Ak]
  refine Tg 29 rfl rfl ?_; simp only [Ak]
  refine Tg 30 rfl rfl ?_; simp only [Ak]
  refine Tg 31 rfl rfl ?_; simp only [Ak]
  refine Tg 32 rfl rfl ?_; simp only [Ak]
  refine Tg 33 rfl rfl ?_; simp only [Ak]
  refine Tg 34 rfl rfl ?_; simp only [Ak]
  refine Tg 35 rfl rfl ?_; simp only [Ak]
  refine Tg 36 rfl rfl ?_; simp only [Ak]
  refine Jp (i := 37) (by kernel_rfl) rfl rfl (by rfl) (fun K hK => ?_)
  go_simp
  with_reducible refine Bm (CW.out _ hHeld.b) fun w2 b2 => ?_
  have hHe2 := hHeld.step b2
  clear hHeld b2
  refine hK.out _ _ hHe2 ?_; clear hK K; simp only [Ak]
  have hHeld := hHe2; clear hHe2
  refine Tg 38 rfl rfl ?_; simp only [Ak]
  refine Tg 39 rfl rfl ?_; simp only [Ak]
  refine wpAnyH_done (by kernel_rfl) ?_ _
  have HS := Lh hHeld
  clear hHeld
  go_wp2
  go_ret
  exact ⟨rfl, HS.out.b⟩
end
section
open Go.ChangeShapes Go.WideShapes Go.ChangeAt Go.RowKit Go.Joins
section
variable {H : Type} {enc : TypeId × Value → H} {w : World} {base : Nat} {spare : Nat → Bool} {held : Bool}
def Ajz (v : Val) : Array Value := #[.int .i64 v.vk, .bool v.vb, .float .f64 v.vn, .string v.vs, .int .i64 v.vo]
def Afw (v : Val) : DataW H := .agg [.lit (.int .i64 v.vk), .lit (.bool v.vb), .lit (.float .f64 v.vn), .lit (.string v.vs.data.toList), .lit (.int .i64 v.vo)]
structure wfV (v : Val) : Prop where
 k : (Lit.int .i64 v.vk).wf = true
 n : (Lit.float .f64 v.vn).wf = true
 s : v.vs.size ≤ maxLen
 o : (Lit.int .i64 v.vo).wf = true
theorem wfV.num {v : Val} (h : wfV v) : v.vn < 18446744073709551616 := by
 have := h.n
 simp only [Lit.wf, decide_eq_true_eq] at this
 exact this
theorem W6 {P : Program} {t : TypeId} {k : FloatKind} {fuel : Nat} {cs : List Value} {x : DataW H × List MemPlace} (ht : P.underlying t = some (.float k)) (h : DataW.trod enc P w base spare held fuel t cs = some x) :
  ∃ b, cs = [.float k b] ∧ x = (.lit (.float k b), []) ∧ (Lit.float k b).wf = true := by
 cases fuel with
 | zero => simp [DataW.trod] at h
 | succ n =>
  unfold DataW.trod at h
  rw [ht] at h
  split at h <;> simp_all
theorem Aqo {fuel : Nat} {cs : List Value} {x : DataW H × List MemPlace} (h : DataW.trod enc Tryz.prog w base spare held fuel 24 cs = some x) : ∃ v, cs = (Ajz v).toList ∧ x = (Afw v, []) ∧ wfV v := by
 obtain ⟨xs, n, rfl, rfl, hl, hlen, hf⟩ := DataW.trod_struct Tryz.underlying24 h
 have ci : Tryz.prog.cellsOf 3 = 1 := by kernel_rfl
 have cb : Tryz.prog.cellsOf 4 = 1 := by kernel_rfl
 have cf : Tryz.prog.cellsOf 22 = 1 := by kernel_rfl
 have cst : Tryz.prog.cellsOf 9 = 1 := by kernel_rfl
 rw [show Tryz.prog.cellsOf 24 = 5 by kernel_rfl] at hl
 match cs, hl with
 | [c0, c1, c2, c3, c4], _ =>
  match xs, hlen with
  | [y0, y1, y2, y3, y4], _ =>
   have g0 : DataW.trod enc Tryz.prog w base spare held n 3 [c0] = some y0 := by
    have q := hf 0 _ rfl
    have e : ([c0, c1, c2, c3, c4].drop 0).take (Tryz.prog.cellsOf 3) = [c0] := by rw [ci]; rfl
    rw [← e]
    exact q
   have g1 : DataW.trod enc Tryz.prog w base spare held n 4 [c1] = some y1 := by
    have q := hf 1 _ rfl
    have e : ([c0, c1, c2, c3, c4].drop 1).take (Tryz.prog.cellsOf 4) = [c1] := by rw [cb]; rfl
    rw [← e]
    exact q
   have g2 : DataW.trod enc Tryz.prog w base spare held n 22 [c2] = some y2 := by
    have q := hf 2 _ rfl
    have e : ([c0, c1, c2, c3, c4].drop 2).take (Tryz.prog.cellsOf 22) = [c2] := by rw [cf]; rfl
    rw [← e]
    exact q
   have g3 : DataW.trod enc Tryz.prog w base spare held n 9 [c3] = some y3 := by
    have q := hf 3 _ rfl
    have e : ([c0, c1, c2, c3, c4].drop 3).take (Tryz.prog.cellsOf 9) = [c3] := by rw [cst]; rfl
    rw [← e]
    exact q
   have g4 : DataW.trod enc Tryz.prog w base spare held n 3 [c4] = some y4 := by
    have q := hf 4 _ rfl
    have e : ([c0, c1, c2, c3, c4].drop 4).take (Tryz.prog.cellsOf 3) = [c4] := by rw [ci]; rfl
    rw [← e]
    exact q
   obtain ⟨k, e0, rfl, w0⟩ := DataW.trod_int Tryz.underlying3 g0
   obtain ⟨b, e1, rfl⟩ := DataW.trod_bool Tryz.underlying4 g1
   obtain ⟨m, e2, rfl, w2⟩ := W6 Tryz.underlying22 g2
   obtain ⟨s, e3, rfl, w3⟩ := DataW.trod_string Tryz.underlying9 g3
   obtain ⟨o, e4, rfl, w4⟩ := DataW.trod_int Tryz.underlying3 g4
   simp only [List.cons.injEq, and_true] at e0 e1 e2 e3 e4
   subst e0 e1 e2 e3 e4
   exact ⟨⟨k, b, m, s, o⟩, rfl, rfl, ⟨w0, w2, w3, w4⟩⟩
theorem Ahx {v : Val} (hw : wfV v) : DataW.trod enc Tryz.prog w base spare held 2 24 (Ajz v).toList = some (Afw v, []) := by
 have ci : Tryz.prog.cellsOf 3 = 1 := by kernel_rfl
 have cb : Tryz.prog.cellsOf 4 = 1 := by kernel_rfl
 have cf : Tryz.prog.cellsOf 22 = 1 := by kernel_rfl
 have cst : Tryz.prog.cellsOf 9 = 1 := by kernel_rfl
 have := trod_struct_mk (enc := enc) (w := w) (base := base) (spare := spare) (held := held) (n := 1) (cs := (Ajz v).toList) (xs := [(.lit (.int .i64 v.vk), []), (.lit (.bool v.vb), []), (.lit (.float .f64 v.vn), []), (.lit (.string v.vs.data.toList), []), (.lit (.int .i64 v.vo), [])]) Tryz.underlying24 (by rw [show Tryz.prog.cellsOf 24 = 5 by kernel_rfl]; rfl)
  (by simp [Ajz, ci, cb, cf, cst, DataW.trod, Tryz.underlying3, Tryz.underlying4, Tryz.underlying22, Tryz.underlying9, hw.k, hw.n, hw.s, hw.o])
 exact this
theorem Ak5 {r : Reach} {b0 : Nat} {v : Value} {d : DataW H} {p : List MemPlace} (hv : Value.okWide Tryz.prog w r b0 24 v) (h : DataW.Trod enc Tryz.prog w base spare held 24 v d p) : ∃ x : Val, v = Dt x ∧ d = Afw x ∧ p = [] ∧ wfV x := by
 obtain ⟨cs, rfl, _⟩ := okWide_struct Tryz.underlying24 hv
 obtain ⟨fuel, hf⟩ := h
 obtain ⟨x, e1, e2, hw⟩ := Aqo hf
 obtain rfl : cs = Ajz x := Array.toList_inj.1 e1
 cases e2
 exact ⟨x, rfl, rfl, rfl, hw⟩
theorem Ale {x : Val} (hw : wfV x) : DataW.Trod enc Tryz.prog w base spare held 24 (Dt x) (Afw x) [] := ⟨2, Ahx hw⟩
end
end
section
open Go.ChangeShapes Go.WideShapes Go.ChangeAt Go.RowKit Go.Joins
theorem Age {H : Type} {ts : List TypeId} {ds : List (DataW H)} (h : (DataW.weightsEach Tryz.prog ts ds).all (· ≤ reachBytes) = true) {j : Nat} {x : Val} (ht : ts[j]? = some 24) (hd : ds[j]? = some (Afw x)) : x.vs.size ≤ 140737488355328 := by
 have := List.all_eq_true.1 h _ (DataW.weights_mem_each ht hd x.vs.data.toList.length (by simp [Afw, DataW.weights, DataW.weightsEach, Tryz.underlying24]))
 have e : reachBytes = 140737488351232 := rfl
 rw [e] at this
 rw [Lib.size_eq]
 have := of_decide_eq_true this
 omega
end
end Go.Proofs.YtmakhfekiieneaaGreatDoor
