/-
  Contracts of Rest of the reference.
-/
import Derived.Test.YtbinpcoaghpcdaaRs
namespace Go.Proofs.Ytbinpcoaghpcdaa
open Go.RowKit
theorem qrest_s0 (x y : Nat) (w : World) (hx : x < 18446744073709551616) (h1 : (!fnan x && !finf x) = false) : Calls Try.prog 76 #[.float .f64 x, .float .f64 y] w fun e w' => e = .returned (.float .f64 9221120237041090560) ∧ w = w' := by
  have C1 := Lib.hid (fun W => finite_any x W hx)
  have C2 := Lib.hid (fun W => isNaN_any y W)
  have hz := ord_zero y
  have C0 := Lib.hid (fun W => mnan_any W)
  have C5 := Lib.hid (fun W => plain_any 9221120237041090561 W)
  rw [show cn 9221120237041090561 = 9221120237041090560 by decide] at C5
  rw [h1] at C1
  clear C2 hz hx h1
  go_enter Try.func76, Try.ntmps76
  go_wp2_with fail
  refine (C1.out _).mono ?_
  rintro e w' ⟨rfl, rfl⟩
  go_wp2_with fail
  refine (C0.out _).mono ?_
  rintro e w' ⟨rfl, rfl⟩
  go_wp2_with fail
  refine (C5.out _).mono ?_
  rintro e w' ⟨rfl, rfl⟩
  go_wp2
  go_ret
  exact ⟨rfl, rfl⟩
theorem qrest_s1 (x y : Nat) (w : World) (hx : x < 18446744073709551616) (h1 : (!fnan x && !finf x) = true) (h2 : fnan y = true) : Calls Try.prog 76 #[.float .f64 x, .float .f64 y] w fun e w' => e = .returned (.float .f64 9221120237041090560) ∧ w = w' := by
  have C1 := Lib.hid (fun W => finite_any x W hx)
  have C2 := Lib.hid (fun W => isNaN_any y W)
  have hz := ord_zero y
  have C0 := Lib.hid (fun W => mnan_any W)
  have C5 := Lib.hid (fun W => plain_any 9221120237041090561 W)
  rw [show cn 9221120237041090561 = 9221120237041090560 by decide] at C5
  rw [h1] at C1
  rw [h2] at C2
  clear hz hx h1 h2
  go_enter Try.func76, Try.ntmps76
  go_wp2_with fail
  refine (C1.out _).mono ?_
  rintro e w' ⟨rfl, rfl⟩
  go_wp2_with fail
  refine (C2.out _).mono ?_
  rintro e w' ⟨rfl, rfl⟩
  go_wp2_with fail
  refine (C0.out _).mono ?_
  rintro e w' ⟨rfl, rfl⟩
  go_wp2_with fail
  refine (C5.out _).mono ?_
  rintro e w' ⟨rfl, rfl⟩
  go_wp2
  go_ret
  exact ⟨rfl, rfl⟩
theorem qrest_s2 (x y : Nat) (w : World) (hx : x < 18446744073709551616) (h1 : (!fnan x && !finf x) = true) (h2 : fnan y = false) (h3 : rung y = 0) : Calls Try.prog 76 #[.float .f64 x, .float .f64 y] w fun e w' => e = .returned (.float .f64 9221120237041090560) ∧ w = w' := by
  have C1 := Lib.hid (fun W => finite_any x W hx)
  have C2 := Lib.hid (fun W => isNaN_any y W)
  have hz := ord_zero y
  have C0 := Lib.hid (fun W => mnan_any W)
  have C5 := Lib.hid (fun W => plain_any 9221120237041090561 W)
  rw [show cn 9221120237041090561 = 9221120237041090560 by decide] at C5
  rw [h1] at C1
  rw [h2] at C2
  rw [h3, decide_eq_true rfl] at hz
  clear hx h1 h2 h3
  go_enter Try.func76, Try.ntmps76
  go_wp2_with fail
  refine (C1.out _).mono ?_
  rintro e w' ⟨rfl, rfl⟩
  go_wp2_with fail
  refine (C2.out _).mono ?_
  rintro e w' ⟨rfl, rfl⟩
  go_wp2_with fail
  refine (C0.out _).mono ?_
  rintro e w' ⟨rfl, rfl⟩
  go_wp2_with fail
  refine (C5.out _).mono ?_
  rintro e w' ⟨rfl, rfl⟩
  go_wp2
  go_ret
  exact ⟨rfl, rfl⟩
theorem qrest_s3 (x y : Nat) (w : World) (hx : x < 18446744073709551616) (hy : y < 18446744073709551616) (h1 : (!fnan x && !finf x) = true) (h2 : fnan y = false) (h3 : ¬ rung y = 0) (h4 : finf y = true) : Calls Try.prog 76 #[.float .f64 x, .float .f64 y] w fun e w' => e = .returned (.float .f64 x) ∧ w = w' := by
  have C1 := Lib.hid (fun W => finite_any x W hx)
  have C2 := Lib.hid (fun W => isNaN_any y W)
  have hz := ord_zero y
  have C3 := Lib.hid (fun W => isInf0_any y W hy)
  have hzx := ord_zero x
  rw [h1] at C1
  rw [h2] at C2
  rw [decide_eq_false h3] at hz
  rw [h4] at C3
  clear hx hy h1 h2 h3 h4 hzx
  go_enter Try.func76, Try.ntmps76
  go_wp2_with fail
  refine (C1.out _).mono ?_
  rintro e w' ⟨rfl, rfl⟩
  go_wp2_with fail
  refine (C2.out _).mono ?_
  rintro e w' ⟨rfl, rfl⟩
  go_wp2_with fail
  refine (C3.out _).mono ?_
  rintro e w' ⟨rfl, rfl⟩
  go_wp2
  go_ret
  exact ⟨rfl, rfl⟩
theorem qrest_s4 (x y : Nat) (w : World) (hx : x < 18446744073709551616) (hy : y < 18446744073709551616) (h1 : (!fnan x && !finf x) = true) (h2 : fnan y = false) (h3 : ¬ rung y = 0) (h4 : finf y = false) (h5 : rung x = 0) : Calls Try.prog 76 #[.float .f64 x, .float .f64 y] w fun e w' => e = .returned (.float .f64 x) ∧ w = w' := by
  have C1 := Lib.hid (fun W => finite_any x W hx)
  have C2 := Lib.hid (fun W => isNaN_any y W)
  have hz := ord_zero y
  have C3 := Lib.hid (fun W => isInf0_any y W hy)
  have hzx := ord_zero x
  rw [h1] at C1
  rw [h2] at C2
  rw [decide_eq_false h3] at hz
  rw [h4] at C3
  rw [h5, decide_eq_true rfl] at hzx
  clear hx hy h1 h2 h3 h4 h5
  go_enter Try.func76, Try.ntmps76
  go_wp2_with fail
  refine (C1.out _).mono ?_
  rintro e w' ⟨rfl, rfl⟩
  go_wp2_with fail
  refine (C2.out _).mono ?_
  rintro e w' ⟨rfl, rfl⟩
  go_wp2_with fail
  refine (C3.out _).mono ?_
  rintro e w' ⟨rfl, rfl⟩
  go_wp2
  go_ret
  exact ⟨rfl, rfl⟩
set_option maxRecDepth 100000 in
set_option maxHeartbeats 600000 in
theorem qrest_wa (x y a b N1 N2 q u r : Nat) (p1 p2 : Int) (l1 l2 L1 L2 LR : List Nat) (w : World)
    (C1 : RowKit.Hid (∀ W, Calls Try.prog 86 #[.float .f64 x] W fun e w' => e = .returned (.bool true) ∧ W = w'))
    (C2 : RowKit.Hid (∀ W, Calls Try.prog 32 #[.float .f64 y] W fun e w' => e = .returned (.bool false) ∧ W = w'))
    (C3 : RowKit.Hid (∀ W, Calls Try.prog 44 #[.float .f64 y, .int .i64 0] W fun e w' => e = .returned (.bool false) ∧ W = w'))
    (hz : (FloatKind.f64.format.order y 0 == some .eq) = false) (hzx : (FloatKind.f64.format.order x 0 == some .eq) = false)
    (C4 : RowKit.Hid (∀ W, Calls Try.prog 33 #[.float .f64 x] W fun e w' => e = .returned (.float .f64 a) ∧ W = w'))
    (C5 : RowKit.Hid (∀ W, Calls Try.prog 33 #[.float .f64 y] W fun e w' => e = .returned (.float .f64 b) ∧ W = w'))
    (C6 : RowKit.Hid (∀ W, Calls Try.prog 89 #[.float .f64 a] W fun e w' => ∃ A c, e = .returned (.tuple #[.slice A N1 c, .int .i64 p1, .int .i64 0]) ∧ (N1 ≤ c ∧ RW w' w'.heap.size A l1) ∧ Below W.heap.size W w'))
    (C7 : RowKit.Hid (∀ W, Calls Try.prog 89 #[.float .f64 b] W fun e w' => ∃ A c, e = .returned (.tuple #[.slice A N2 c, .int .i64 p2, .int .i64 0]) ∧ (N2 ≤ c ∧ RW w' w'.heap.size A l2) ∧ Below W.heap.size W w'))
    (hlt : decide (p2 < p1) = false)
    (hq : IntKind.i64.wrap (p2 - p1) = (q : Int))
    (C8 : RowKit.Hid (∀ W A c, N1 ≤ c → RW W W.heap.size A l1 → Calls Try.prog 91 #[.slice A N1 c, .int .i64 0] W (SlPost L1 W)))
    (C9 : RowKit.Hid (∀ W A c, N2 ≤ c → RW W W.heap.size A l2 → Calls Try.prog 91 #[.slice A N2 c, .int .i64 q] W (SlPost L2 W)))
    (C10 : RowKit.Hid (∀ W A c C d, RW W W.heap.size A L1 → RW W W.heap.size C L2 → Calls Try.prog 90 #[.slice A L1.length c, .slice C L2.length d] W (fun e w' => ∃ v C2 d2, e = .returned (.tuple #[v, .slice C2 LR.length d2]) ∧ (LR.length ≤ d2 ∧ RW w' w'.heap.size C2 LR) ∧ Below W.heap.size W w')))
    (C11 : RowKit.Hid (∀ W A c, LR.length ≤ c → RW W W.heap.size A LR → Calls Try.prog 92 #[.slice A LR.length c, .int .i64 p1] W fun e w' => e = .returned (.float .f64 u) ∧ Below W.heap.size W w'))
    (C12 : RowKit.Hid (∀ W, Calls Try.prog 52 #[.float .f64 u, .float .f64 x] W fun e w' => e = .returned (.float .f64 r) ∧ W = w')) :
    Calls Try.prog 76 #[.float .f64 x, .float .f64 y] w fun e w' => e = .returned (.float .f64 r) ∧ Below w.heap.size w w' := by
  obtain ⟨n1, hn1⟩ : ∃ n1, L1.length = n1 := ⟨_, rfl⟩
  obtain ⟨n2, hn2⟩ : ∃ n2, L2.length = n2 := ⟨_, rfl⟩
  obtain ⟨nr, hnr⟩ : ∃ nr, LR.length = nr := ⟨_, rfl⟩
  rw [hn1, hn2, hnr] at C10
  rw [hnr] at C11
  have HN1 := Lib.hid hn1
  have HN2 := Lib.hid hn2
  clear hn1 hn2 hnr
  go_enter Try.func76, Try.ntmps76
  go_wp2_with fail
  refine (C1.out _).mono ?_
  rintro e w' ⟨rfl, rfl⟩
  go_wp2_with fail
  refine (C2.out _).mono ?_
  rintro e w' ⟨rfl, rfl⟩
  go_wp2_with fail
  refine (C3.out _).mono ?_
  rintro e w' ⟨rfl, rfl⟩
  go_wp2_with fail
  refine (C4.out _).mono ?_
  rintro e w' ⟨rfl, rfl⟩
  go_wp2_with fail
  refine (C6.out _).mono ?_
  rintro e w1 ⟨A1, c1, rfl, ⟨hc1, r1⟩, b1⟩
  have HC1 := Lib.hid hc1
  have HR1 := Lib.hid r1
  have HB1 := Lib.hid b1
  clear hc1 r1 b1
  go_wp2_with fail
  refine (C5.out _).mono ?_
  rintro e w' ⟨rfl, rfl⟩
  go_wp2_with fail
  refine (C7.out _).mono ?_
  rintro e w2 ⟨A2, c2, rfl, ⟨hc2, r2⟩, b2⟩
  have HC2 := Lib.hid hc2
  have HR1 := Lib.hid ((HR1.out.below b2).more b2.size)
  have HR2 := Lib.hid r2
  have HB2 := Lib.hid (below_le HB1.out b2)
  clear hc2 r2 b2
  go_wp2_with fail
  refine (C8.out _ _ _ HC1.out HR1.out).mono ?_
  rintro e w3 ⟨v3, rfl, ⟨A3, c3, rfl, hc3, r3⟩, b3⟩
  rw [HN1.out]
  have HR2 := Lib.hid ((HR2.out.below b3).more b3.size)
  have HR3 := Lib.hid r3
  have HB3 := Lib.hid (below_le HB2.out b3)
  clear hc3 r3 b3
  go_wp2_with fail
  refine (C9.out _ _ _ HC2.out HR2.out).mono ?_
  rintro e w4 ⟨v4, rfl, ⟨A4, c4, rfl, hc4, r4⟩, b4⟩
  rw [HN2.out]
  have HR3 := Lib.hid ((HR3.out.below b4).more b4.size)
  have HR4 := Lib.hid r4
  have HB4 := Lib.hid (below_le HB3.out b4)
  clear hc4 r4 b4
  go_wp2_with fail
  refine (C10.out _ _ _ _ _ HR3.out HR4.out).mono ?_
  rintro e w5 ⟨v5, A5, c5, rfl, ⟨hc5, r5⟩, b5⟩
  have HC5 := Lib.hid hc5
  have HR5 := Lib.hid r5
  have HB5 := Lib.hid (below_le HB4.out b5)
  clear hc5 r5 b5
  go_wp2_with fail
  refine (C11.out _ _ _ HC5.out HR5.out).mono ?_
  rintro e w6 ⟨rfl, b6⟩
  have HB6 := Lib.hid (below_le HB5.out b6)
  clear b6
  go_wp2_with fail
  refine (C12.out _).mono ?_
  rintro e w' ⟨rfl, rfl⟩
  go_wp2
  go_ret
  exact ⟨rfl, HB6.out⟩
set_option maxRecDepth 100000 in
set_option maxHeartbeats 600000 in
theorem qrest_wb (x y a b N1 N2 q u r : Nat) (p1 p2 : Int) (l1 l2 L1 L2 LR : List Nat) (w : World)
    (C1 : RowKit.Hid (∀ W, Calls Try.prog 86 #[.float .f64 x] W fun e w' => e = .returned (.bool true) ∧ W = w'))
    (C2 : RowKit.Hid (∀ W, Calls Try.prog 32 #[.float .f64 y] W fun e w' => e = .returned (.bool false) ∧ W = w'))
    (C3 : RowKit.Hid (∀ W, Calls Try.prog 44 #[.float .f64 y, .int .i64 0] W fun e w' => e = .returned (.bool false) ∧ W = w'))
    (hz : (FloatKind.f64.format.order y 0 == some .eq) = false) (hzx : (FloatKind.f64.format.order x 0 == some .eq) = false)
    (C4 : RowKit.Hid (∀ W, Calls Try.prog 33 #[.float .f64 x] W fun e w' => e = .returned (.float .f64 a) ∧ W = w'))
    (C5 : RowKit.Hid (∀ W, Calls Try.prog 33 #[.float .f64 y] W fun e w' => e = .returned (.float .f64 b) ∧ W = w'))
    (C6 : RowKit.Hid (∀ W, Calls Try.prog 89 #[.float .f64 a] W fun e w' => ∃ A c, e = .returned (.tuple #[.slice A N1 c, .int .i64 p1, .int .i64 0]) ∧ (N1 ≤ c ∧ RW w' w'.heap.size A l1) ∧ Below W.heap.size W w'))
    (C7 : RowKit.Hid (∀ W, Calls Try.prog 89 #[.float .f64 b] W fun e w' => ∃ A c, e = .returned (.tuple #[.slice A N2 c, .int .i64 p2, .int .i64 0]) ∧ (N2 ≤ c ∧ RW w' w'.heap.size A l2) ∧ Below W.heap.size W w'))
    (hlt : decide (p2 < p1) = true)
    (hq : IntKind.i64.wrap (p1 - p2) = (q : Int))
    (C8 : RowKit.Hid (∀ W A c, N1 ≤ c → RW W W.heap.size A l1 → Calls Try.prog 91 #[.slice A N1 c, .int .i64 q] W (SlPost L1 W)))
    (C9 : RowKit.Hid (∀ W A c, N2 ≤ c → RW W W.heap.size A l2 → Calls Try.prog 91 #[.slice A N2 c, .int .i64 0] W (SlPost L2 W)))
    (C10 : RowKit.Hid (∀ W A c C d, RW W W.heap.size A L1 → RW W W.heap.size C L2 → Calls Try.prog 90 #[.slice A L1.length c, .slice C L2.length d] W (fun e w' => ∃ v C2 d2, e = .returned (.tuple #[v, .slice C2 LR.length d2]) ∧ (LR.length ≤ d2 ∧ RW w' w'.heap.size C2 LR) ∧ Below W.heap.size W w')))
    (C11 : RowKit.Hid (∀ W A c, LR.length ≤ c → RW W W.heap.size A LR → Calls Try.prog 92 #[.slice A LR.length c, .int .i64 p2] W fun e w' => e = .returned (.float .f64 u) ∧ Below W.heap.size W w'))
    (C12 : RowKit.Hid (∀ W, Calls Try.prog 52 #[.float .f64 u, .float .f64 x] W fun e w' => e = .returned (.float .f64 r) ∧ W = w')) :
    Calls Try.prog 76 #[.float .f64 x, .float .f64 y] w fun e w' => e = .returned (.float .f64 r) ∧ Below w.heap.size w w' := by
  obtain ⟨n1, hn1⟩ : ∃ n1, L1.length = n1 := ⟨_, rfl⟩
  obtain ⟨n2, hn2⟩ : ∃ n2, L2.length = n2 := ⟨_, rfl⟩
  obtain ⟨nr, hnr⟩ : ∃ nr, LR.length = nr := ⟨_, rfl⟩
  rw [hn1, hn2, hnr] at C10
  rw [hnr] at C11
  have HN1 := Lib.hid hn1
  have HN2 := Lib.hid hn2
  clear hn1 hn2 hnr
  go_enter Try.func76, Try.ntmps76
  go_wp2_with fail
  refine (C1.out _).mono ?_
  rintro e w' ⟨rfl, rfl⟩
  go_wp2_with fail
  refine (C2.out _).mono ?_
  rintro e w' ⟨rfl, rfl⟩
  go_wp2_with fail
  refine (C3.out _).mono ?_
  rintro e w' ⟨rfl, rfl⟩
  go_wp2_with fail
  refine (C4.out _).mono ?_
  rintro e w' ⟨rfl, rfl⟩
  go_wp2_with fail
  refine (C6.out _).mono ?_
  rintro e w1 ⟨A1, c1, rfl, ⟨hc1, r1⟩, b1⟩
  have HC1 := Lib.hid hc1
  have HR1 := Lib.hid r1
  have HB1 := Lib.hid b1
  clear hc1 r1 b1
  go_wp2_with fail
  refine (C5.out _).mono ?_
  rintro e w' ⟨rfl, rfl⟩
  go_wp2_with fail
  refine (C7.out _).mono ?_
  rintro e w2 ⟨A2, c2, rfl, ⟨hc2, r2⟩, b2⟩
  have HC2 := Lib.hid hc2
  have HR1 := Lib.hid ((HR1.out.below b2).more b2.size)
  have HR2 := Lib.hid r2
  have HB2 := Lib.hid (below_le HB1.out b2)
  clear hc2 r2 b2
  go_wp2_with fail
  refine (C8.out _ _ _ HC1.out HR1.out).mono ?_
  rintro e w3 ⟨v3, rfl, ⟨A3, c3, rfl, hc3, r3⟩, b3⟩
  rw [HN1.out]
  have HR2 := Lib.hid ((HR2.out.below b3).more b3.size)
  have HR3 := Lib.hid r3
  have HB3 := Lib.hid (below_le HB2.out b3)
  clear hc3 r3 b3
  go_wp2_with fail
  refine (C9.out _ _ _ HC2.out HR2.out).mono ?_
  rintro e w4 ⟨v4, rfl, ⟨A4, c4, rfl, hc4, r4⟩, b4⟩
  rw [HN2.out]
  have HR3 := Lib.hid ((HR3.out.below b4).more b4.size)
  have HR4 := Lib.hid r4
  have HB4 := Lib.hid (below_le HB3.out b4)
  clear hc4 r4 b4
  go_wp2_with fail
  refine (C10.out _ _ _ _ _ HR3.out HR4.out).mono ?_
  rintro e w5 ⟨v5, A5, c5, rfl, ⟨hc5, r5⟩, b5⟩
  have HC5 := Lib.hid hc5
  have HR5 := Lib.hid r5
  have HB5 := Lib.hid (below_le HB4.out b5)
  clear hc5 r5 b5
  go_wp2_with fail
  refine (C11.out _ _ _ HC5.out HR5.out).mono ?_
  rintro e w6 ⟨rfl, b6⟩
  have HB6 := Lib.hid (below_le HB5.out b6)
  clear b6
  go_wp2_with fail
  refine (C12.out _).mono ?_
  rintro e w' ⟨rfl, rfl⟩
  go_wp2
  go_ret
  exact ⟨rfl, HB6.out⟩

end Go.Proofs.Ytbinpcoaghpcdaa
