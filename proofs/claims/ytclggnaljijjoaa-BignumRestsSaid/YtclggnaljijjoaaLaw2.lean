/-
  The law BignumSums.
-/
import Derived.Test.YtclggnaljijjoaaRsub
namespace Go.Proofs.Ytclggnaljijjoaa
open Go.RowKit
set_option maxRecDepth 100000 in
set_option maxHeartbeats 4000000 in
theorem sums_any (A C : Option Addr) (n c m d : Nat) (l k : List Nat) (w : World) (hn : l.length = n) (hc : n ≤ c) (hm : n ≤ 35184372087808) (h : RW w w.heap.size A l)
    (gn : k.length = m) (gc : m ≤ d) (gm : m ≤ 35184372087808) (g : RW w w.heap.size C k) :
    Calls Try.prog 4 #[.slice A n c, .slice C m d] w fun e w' => e = .returned (.bool true) ∧ Below w.heap.size w w' := by
  obtain ⟨S, hS⟩ : ∃ S, addL (val l) (val k) = S := ⟨_, rfl⟩
  obtain ⟨D, hD⟩ : ∃ D, subL (val l) (val k) = D := ⟨_, rfl⟩
  obtain ⟨s, hs⟩ : ∃ s, addK (val l) (val k) = s := ⟨_, rfl⟩
  obtain ⟨t, ht⟩ : ∃ t, subK (val l) (val k) = t := ⟨_, rfl⟩
  obtain ⟨N, hN⟩ : ∃ N, S.length = N := ⟨_, rfl⟩
  obtain ⟨M, hM⟩ : ∃ M, D.length = M := ⟨_, rfl⟩
  have hSl : N ≤ 1024 := by rw [← hN, ← hS]; exact addL_len _ _
  have hDl : M ≤ 1024 := by rw [← hM, ← hD]; exact subL_len _ _
  have K1 := Lib.hid (fun W (hb : Below w.heap.size w W) => ownT A n c l W hn (by omega) (h.step hb))
  have K2 := Lib.hid (fun W (hb : Below w.heap.size w W) => ownT C m d k W gn (by omega) (g.step hb))
  have K3 := Lib.hid (fun W A2 C2 c2 d2 (h2 : n ≤ c2) (h3 : m ≤ d2) (r2 : RW W W.heap.size A2 l) (r3 : RW W W.heap.size C2 k) =>
    show Calls Try.prog 21 #[.slice A2 n c2, .slice C2 m d2] W (Two S N s W) from (add_any A2 C2 n c2 m d2 l k W hn h2 (by omega) r2 gn h3 (by omega) r3).mono fun _ _ x => by have := x.two; rw [hS, hs, hN] at this; exact this)
  have K4 := Lib.hid (fun W (hb : Below w.heap.size w W) =>
    show Calls Try.prog 22 #[.slice A n c, .slice C m d] W (Two S N s W) from (radd_any A C n c m d l k W hn hc hm (h.step hb) gn gc gm (g.step hb)).mono fun _ _ x => by have := x.two; rw [hS, hs, hN] at this; exact this)
  have K5 := Lib.hid (fun W A2 C2 c2 d2 (h2 : n ≤ c2) (h3 : m ≤ d2) (r2 : RW W W.heap.size A2 l) (r3 : RW W W.heap.size C2 k) =>
    show Calls Try.prog 23 #[.slice A2 n c2, .slice C2 m d2] W (Two D M t W) from (sub_any A2 C2 n c2 m d2 l k W hn h2 (by omega) r2 gn h3 (by omega) r3).mono fun _ _ x => by have := x.two; rw [hD, ht, hM] at this; exact this)
  have K6 := Lib.hid (fun W (hb : Below w.heap.size w W) =>
    show Calls Try.prog 24 #[.slice A n c, .slice C m d] W (Two D M t W) from (rsub_any A C n c m d l k W hn hc hm (h.step hb) gn gc gm (g.step hb)).mono fun _ _ x => by have := x.two; rw [hD, ht, hM] at this; exact this)
  have K7 := Lib.hid (fun W A2 A3 c2 c3 (r2 : RW W W.heap.size A2 S) (r3 : RW W W.heap.size A3 S) => same_any A2 A3 N c2 c3 S W.heap.size W.heap.size W hN (by omega) r2 r3)
  have K8 := Lib.hid (fun W A2 A3 c2 c3 (r2 : RW W W.heap.size A2 D) (r3 : RW W W.heap.size A3 D) => same_any A2 A3 M c2 c3 D W.heap.size W.heap.size W hM (by omega) r2 r3)
  clear hn hc hm h gn gc gm g hS hD hs ht hN hM hSl hDl
  go_enter Try.func4, Try.ntmps4
  go_wp2_with fail
  refine (K1.out _ (Below.refl _ _)).mono ?_
  rintro e w1 ⟨A1, c1, rfl, ⟨hc1, r1⟩, b1⟩
  go_wp2_with fail
  refine (K2.out _ b1).mono ?_
  rintro e w2 ⟨A2, c2, rfl, ⟨hc2, r2⟩, b2⟩
  have B2 := below_le b1 b2
  go_wp2_with fail
  refine (K3.out _ _ _ _ _ hc1 hc2 (r1.step b2) r2).mono ?_
  rintro e w3 ⟨A3, c3, rfl, ⟨hc3, r3⟩, b3⟩
  have B3 := below_le B2 b3
  clear r1 r2 b1 b2 hc1 hc2
  go_wp2_with fail
  refine (K4.out _ B3).mono ?_
  rintro e w4 ⟨A4, c4, rfl, ⟨hc4, r4⟩, b4⟩
  have B4 := below_le B3 b4
  have R3 := r3.step b4
  clear r3
  go_wp2_with fail
  refine (K1.out _ B4).mono ?_
  rintro e w5 ⟨A5, c5, rfl, ⟨hc5, r5⟩, b5⟩
  have B5 := below_le B4 b5
  go_wp2_with fail
  refine (K2.out _ B5).mono ?_
  rintro e w6 ⟨A6, c6, rfl, ⟨hc6, r6⟩, b6⟩
  have B6 := below_le B5 b6
  go_wp2_with fail
  refine (K5.out _ _ _ _ _ hc5 hc6 (r5.step b6) r6).mono ?_
  rintro e w7 ⟨A7, c7, rfl, ⟨hc7, r7⟩, b7⟩
  have B7 := below_le B6 b7
  clear r5 r6 hc5 hc6
  go_wp2_with fail
  refine (K6.out _ B7).mono ?_
  rintro e w8 ⟨A8, c8, rfl, ⟨hc8, r8⟩, b8⟩
  have B8 := below_le B7 b8
  have R7 := r7.step b8
  have b58 := below_le (below_le (below_le b5 b6) b7) b8
  go_wp2_with fail
  refine (K7.out _ _ _ _ _ (R3.step b58) (r4.step b58)).mono ?_
  rintro e w' ⟨rfl, n9, rfl⟩
  have R8 := r8.drewN n9
  go_wp2_with fail
  refine (K8.out _ _ _ _ _ (R7.drewN n9) R8).mono ?_
  rintro e w' ⟨rfl, n10, rfl⟩
  have B10 := below_drewN' B8 (n9 + n10)
  clear R3 R7 R8 r4 r7 r8 b58 b3 b4 b5 b6 b7 b8 hc3 hc4 hc7 hc8
  go_wp2_with fail
  refine (awake_any _).mono ?_
  rintro e w11 ⟨rfl, b11⟩
  have B11 := below_le B10 b11
  go_wp2
  go_ret
  exact ⟨rfl, B11⟩
end Go.Proofs.Ytclggnaljijjoaa
