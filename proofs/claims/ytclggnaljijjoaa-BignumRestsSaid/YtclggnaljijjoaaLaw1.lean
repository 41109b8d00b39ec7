/-
  The law BignumNorms.
-/
import Derived.Test.YtclggnaljijjoaaMul
namespace Go.Proofs.Ytclggnaljijjoaa
open Go.RowKit
/-- A call that tells n words l in a slice. -/
def Told (l : List Nat) (n : Nat) (w : World) (e : Ending) (w' : World) : Prop := ∃ A c, e = .returned (.slice A n c) ∧ (n ≤ c ∧ RW w' w'.heap.size A l) ∧ Below w.heap.size w w'
theorem SlPost.told {l : List Nat} {n : Nat} {w : World} {e : Ending} {w' : World} (h : SlPost l w e w') (hn : l.length = n) : Told l n w e w' := by
  obtain ⟨v, rfl, ⟨A, c, rfl, hc, hr⟩, hb⟩ := h
  rw [hn] at hc ⊢
  exact ⟨A, c, rfl, ⟨hc, hr⟩, hb⟩
theorem ownT (A : Option Addr) (n c : Nat) (l : List Nat) (w : World) (hn : l.length = n) (hm : n ≤ 35184372088832) (h : RW w w.heap.size A l) :
    Calls Try.prog 12 #[.slice A n c] w (Told l n w) := (own_any A n c l w hn hm h).mono fun _ _ x => (SlPost.of h.1 x).told hn
theorem normT (A : Option Addr) (n c : Nat) (l : List Nat) (m : Nat) (w : World) (hn : l.length = n) (hc : n ≤ c) (hm : n ≤ 35184372088832) (h : RW w w.heap.size A l) (hm2 : (nrm l).length = m) :
    Calls Try.prog 11 #[.slice A n c] w (Told (nrm l) m w) := (norm_any A n c l w hn hc hm h).mono fun _ _ x => (SlPost.of h.1.nrm x).told hm2
theorem rnormT (A : Option Addr) (n c : Nat) (l : List Nat) (m : Nat) (w : World) (hn : l.length = n) (hc : n ≤ c) (hm : n ≤ 35184372088832) (h : RW w w.heap.size A l) (hm2 : (nrm l).length = m) :
    Calls Try.prog 13 #[.slice A n c] w (Told (nrm l) m w) := (rnorm_any A n c l w.heap.size w hn hc hm h).mono fun _ _ x => (SlPost.of h.1.nrm x).told hm2
set_option maxRecDepth 100000 in
set_option maxHeartbeats 4000000 in
theorem norms_any (A C : Option Addr) (n c m d x : Nat) (l k : List Nat) (w : World) (hn : l.length = n) (hc : n ≤ c) (hm : n ≤ 35184372087808) (h : RW w w.heap.size A l)
    (gn : k.length = m) (gm : m ≤ 35184372087808) (g : RW w w.heap.size C k) (hx : x < 18446744073709551616) :
    Calls Try.prog 3 #[.slice A n c, .slice C m d, .int .u64 x] w fun e w' => e = .returned (.bool true) ∧ Below w.heap.size w w' := by
  obtain ⟨N, hN⟩ : ∃ N, (nrm l).length = N := ⟨_, rfl⟩
  obtain ⟨M, hM⟩ : ∃ M, (nrm (two x)).length = M := ⟨_, rfl⟩
  have hle := nrm_len l
  have hle2 := nrm_len (two x)
  have hN2 : N ≤ 35184372088832 := by omega
  have hM2 : M ≤ 35184372088832 := by
    have : (two x).length = 2 := rfl
    omega
  have K1 := Lib.hid (fun W (hb : Below w.heap.size w W) => ownT A n c l W hn (by omega) (h.step hb))
  have K1b := Lib.hid (fun W (hb : Below w.heap.size w W) => ownT C m d k W gn (by omega) (g.step hb))
  have K2 := Lib.hid (fun W A2 c2 (h2 : n ≤ c2) (r : RW W W.heap.size A2 l) => normT A2 n c2 l N W hn h2 (by omega) r hN)
  have K3 := Lib.hid (fun W (hb : Below w.heap.size w W) => rnormT A n c l N W hn hc (by omega) (h.step hb) hN)
  have K4 := Lib.hid (fun W A2 A3 c2 c3 (r2 : RW W W.heap.size A2 (nrm l)) (r3 : RW W W.heap.size A3 (nrm l)) => same_any A2 A3 N c2 c3 (nrm l) W.heap.size W.heap.size W hN hN2 r2 r3)
  have K5 := Lib.hid (fun W => (of_any x hx W).mono fun _ _ y => y.told hM)
  have K6 := Lib.hid (fun W => (rof_any x hx W).mono fun _ _ y => y.told hM)
  have K7 := Lib.hid (fun W A2 A3 c2 c3 (r2 : RW W W.heap.size A2 (nrm (two x))) (r3 : RW W W.heap.size A3 (nrm (two x))) => same_any A2 A3 M c2 c3 (nrm (two x)) W.heap.size W.heap.size W hM hM2 r2 r3)
  have K8 := Lib.hid (fun W A2 A3 c2 c3 (h2 : n ≤ c2) (h3 : m ≤ c3) (r2 : RW W W.heap.size A2 l) (r3 : RW W W.heap.size A3 k) => cmp_any A2 A3 n c2 m c3 l k W.heap.size W.heap.size W hn h2 (by omega) r2 gn h3 (by omega) r3)
  have K9 := Lib.hid (fun W (hb : Below w.heap.size w W) => rcmp_any A C n c m d l k W.heap.size W.heap.size W hn (by omega) (h.step hb) gn (by omega) (g.step hb))
  have K10 := Lib.hid (fun W A2 c2 (h2 : n ≤ c2) (r : RW W W.heap.size A2 l) => bits_any A2 n c2 l W.heap.size W hn h2 (by omega) r)
  have K11 := Lib.hid (fun W (hb : Below w.heap.size w W) => rbits_any A n c l W.heap.size W hn hc (by omega) (h.step hb))
  clear hn hc hm h gn gm g hx hN hM hle hle2 hN2 hM2
  go_enter Try.func3, Try.ntmps3
  go_wp2_with fail
  refine (K1.out _ (Below.refl _ _)).mono ?_
  rintro e w1 ⟨A1, c1, rfl, ⟨hc1, r1⟩, b1⟩
  go_wp2_with fail
  refine (K2.out _ _ _ hc1 r1).mono ?_
  rintro e w2 ⟨A2, c2, rfl, ⟨hc2, r2⟩, b2⟩
  have B2 := below_le b1 b2
  go_wp2_with fail
  refine (K3.out _ B2).mono ?_
  rintro e w3 ⟨A3, c3, rfl, ⟨hc3, r3⟩, b3⟩
  have B3 := below_le B2 b3
  go_wp2_with fail
  refine (K4.out _ _ _ _ _ (r2.step b3) r3).mono ?_
  rintro e w' ⟨rfl, n4, rfl⟩
  have B4 := below_drewN' B3 n4
  clear r1 r2 r3 b1 b2 b3 hc1 hc2 hc3
  go_wp2_with fail
  refine (K5.out _).mono ?_
  rintro e w5 ⟨A5, c5, rfl, ⟨hc5, r5⟩, b5⟩
  have B5 := below_le B4 b5
  go_wp2_with fail
  refine (K6.out _).mono ?_
  rintro e w6 ⟨A6, c6, rfl, ⟨hc6, r6⟩, b6⟩
  have B6 := below_le B5 b6
  go_wp2_with fail
  refine (K7.out _ _ _ _ _ (r5.step b6) r6).mono ?_
  rintro e w' ⟨rfl, n7, rfl⟩
  have B7 := below_drewN' B6 n7
  clear r5 r6 b5 b6 hc5 hc6
  go_wp2_with fail
  refine (K1.out _ B7).mono ?_
  rintro e w8 ⟨A8, c8, rfl, ⟨hc8, r8⟩, b8⟩
  have B8 := below_le B7 b8
  go_wp2_with fail
  refine (K1b.out _ B8).mono ?_
  rintro e w9 ⟨A9, c9, rfl, ⟨hc9, r9⟩, b9⟩
  have B9 := below_le B8 b9
  go_wp2_with fail
  refine (K8.out _ _ _ _ _ hc8 hc9 (r8.step b9) r9).mono ?_
  rintro e w' ⟨rfl, n10, rfl⟩
  have B10 := below_drewN' B9 n10
  clear r8 r9 b8 b9 hc8 hc9
  go_wp2_with fail
  refine (K9.out _ B10).mono ?_
  rintro e w' ⟨rfl, rfl⟩
  go_wp2_with fail
  refine (K1.out _ B10).mono ?_
  rintro e w11 ⟨A11, c11, rfl, ⟨hc11, r11⟩, b11⟩
  have B11 := below_le B10 b11
  go_wp2_with fail
  refine (K10.out _ _ _ hc11 r11).mono ?_
  rintro e w' ⟨rfl, rfl⟩
  go_wp2_with fail
  refine (K11.out _ B11).mono ?_
  rintro e w12 ⟨rfl, b12⟩
  have B12 := below_le B11 b12
  go_wp2_with fail
  refine (awake_any _).mono ?_
  rintro e w13 ⟨rfl, b13⟩
  have B13 := below_le B12 b13
  go_wp2
  go_ret
  exact ⟨rfl, B13⟩
end Go.Proofs.Ytclggnaljijjoaa
