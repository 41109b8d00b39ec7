/-
  The law BignumProducts.
-/
import Derived.Test.YtclggnaljijjoaaRdiv
import Derived.Test.YtclggnaljijjoaaRmul
namespace Go.Proofs.Ytclggnaljijjoaa
open Go.RowKit
def mulL (v u : Nat) : List Nat := if (lngB v || lngB u) = true then [] else natL (v * u)
def mulK (v u : Nat) : Nat := if (lngB v || lngB u) = true then 3 else natK (v * u)
theorem MulPost.two {v u : Nat} {w w' : World} {e : Ending} (h : MulPost v u w e w') : Two (mulL v u) (mulL v u).length (mulK v u) w e w' := by
  unfold MulPost at h
  unfold mulL mulK
  by_cases hl : (lngB v || lngB u) = true
  · rw [if_pos hl] at h ⊢; rw [if_pos hl]; exact h.two
  · rw [if_neg hl] at h ⊢; rw [if_neg hl]; exact h.two
theorem mulL_len (v u : Nat) : (mulL v u).length ≤ 1024 := by
  unfold mulL; split
  · simp
  · exact natL_len _
/-- A call that tells two lists and a code. -/
def Three (Q R : List Nat) (n m t : Nat) (w : World) (e : Ending) (w' : World) : Prop := ∃ A c C d, e = .returned (.tuple #[.slice A n c, .slice C m d, .int .i64 (t : Nat)]) ∧ (n ≤ c ∧ m ≤ d ∧ RW w' w'.heap.size A Q ∧ RW w' w'.heap.size C R) ∧ Below w.heap.size w w'
theorem DivT.three {Q R : List Nat} {t n m : Nat} {w w' : World} {e : Ending} (h : DivT Q R t w e w') (hn : Q.length = n) (hm : R.length = m) : Three Q R n m t w e w' := by
  obtain ⟨A, n1, c, C, m1, d, h1, ⟨h2, h3, h4, h5, h6, h7⟩, h8⟩ := h
  subst h2 h4 hn hm
  exact ⟨A, c, C, d, h1, ⟨h3, h5, h6, h7⟩, h8⟩
set_option maxRecDepth 100000 in
set_option maxHeartbeats 8000000 in
theorem products_any (A C : Option Addr) (n c m d : Nat) (l k : List Nat) (w : World) (hn : l.length = n) (hc : n ≤ c) (hm : n ≤ 35184372087808) (h : RW w w.heap.size A l)
    (gn : k.length = m) (gc : m ≤ d) (gm : m ≤ 35184372087808) (g : RW w w.heap.size C k) :
    Calls Try.prog 5 #[.slice A n c, .slice C m d] w fun e w' => e = .returned (.bool true) ∧ Below w.heap.size w w' := by
  obtain ⟨S, hS⟩ : ∃ S, mulL (val l) (val k) = S := ⟨_, rfl⟩
  obtain ⟨s, hs⟩ : ∃ s, mulK (val l) (val k) = s := ⟨_, rfl⟩
  obtain ⟨Q, hQ⟩ : ∃ Q, divQ (val l) (val k) = Q := ⟨_, rfl⟩
  obtain ⟨R, hR⟩ : ∃ R, divR (val l) (val k) = R := ⟨_, rfl⟩
  obtain ⟨t, ht⟩ : ∃ t, divK (val l) (val k) = t := ⟨_, rfl⟩
  obtain ⟨N, hN⟩ : ∃ N, S.length = N := ⟨_, rfl⟩
  obtain ⟨NQ, hNQ⟩ : ∃ N, Q.length = N := ⟨_, rfl⟩
  obtain ⟨NR, hNR⟩ : ∃ N, R.length = N := ⟨_, rfl⟩
  have l1 : N ≤ 1024 := by rw [← hN, ← hS]; exact mulL_len _ _
  have l2 : NQ ≤ 1024 := by rw [← hNQ, ← hQ]; exact divQ_len _ _
  have l3 : NR ≤ 1024 := by rw [← hNR, ← hR]; exact divR_len _ _
  have K1 := Lib.hid (fun W (hb : Below w.heap.size w W) => ownT A n c l W hn (by omega) (h.step hb))
  have K2 := Lib.hid (fun W (hb : Below w.heap.size w W) => ownT C m d k W gn (by omega) (g.step hb))
  have K3 := Lib.hid (fun W A2 C2 c2 d2 (h2 : n ≤ c2) (h3 : m ≤ d2) (r2 : RW W W.heap.size A2 l) (r3 : RW W W.heap.size C2 k) =>
    show Calls Try.prog 25 #[.slice A2 n c2, .slice C2 m d2] W (Two S N s W) from (mul_any A2 C2 n c2 m d2 l k W hn h2 (by omega) r2 gn h3 (by omega) r3).mono fun _ _ x => by have := x.two; rw [hS, hs, hN] at this; exact this)
  have K4 := Lib.hid (fun W (hb : Below w.heap.size w W) =>
    show Calls Try.prog 26 #[.slice A n c, .slice C m d] W (Two S N s W) from (rmul_any A C n c m d l k W hn hc hm (h.step hb) gn gc gm (g.step hb)).mono fun _ _ x => by have := x.two; rw [hS, hs, hN] at this; exact this)
  have K5 := Lib.hid (fun W A2 C2 c2 d2 (h2 : n ≤ c2) (h3 : m ≤ d2) (r2 : RW W W.heap.size A2 l) (r3 : RW W W.heap.size C2 k) =>
    show Calls Try.prog 27 #[.slice A2 n c2, .slice C2 m d2] W (Three Q R NQ NR t W) from (div_any A2 C2 n c2 m d2 l k W hn h2 (by omega) r2 gn h3 (by omega) r3).mono fun _ _ x => by rw [hQ, hR, ht] at x; exact x.three hNQ hNR)
  have K6 := Lib.hid (fun W (hb : Below w.heap.size w W) =>
    show Calls Try.prog 28 #[.slice A n c, .slice C m d] W (Three Q R NQ NR t W) from (rdiv_any A C n c m d l k W hn hc hm (h.step hb) gn gc gm (g.step hb)).mono fun _ _ x => by rw [hQ, hR, ht] at x; exact x.three hNQ hNR)
  have K7 := Lib.hid (fun W A2 A3 c2 c3 (r2 : RW W W.heap.size A2 S) (r3 : RW W W.heap.size A3 S) => same_any A2 A3 N c2 c3 S W.heap.size W.heap.size W hN (by omega) r2 r3)
  have K8 := Lib.hid (fun W A2 A3 c2 c3 (r2 : RW W W.heap.size A2 Q) (r3 : RW W W.heap.size A3 Q) => same_any A2 A3 NQ c2 c3 Q W.heap.size W.heap.size W hNQ (by omega) r2 r3)
  have K9 := Lib.hid (fun W A2 A3 c2 c3 (r2 : RW W W.heap.size A2 R) (r3 : RW W W.heap.size A3 R) => same_any A2 A3 NR c2 c3 R W.heap.size W.heap.size W hNR (by omega) r2 r3)
  clear hn hc hm h gn gc gm g hS hs hQ hR ht hN hNQ hNR l1 l2 l3
  go_enter Try.func5, Try.ntmps5
  go_wp2_with fail
  refine (K1.out _ (Below.refl _ _)).mono ?_
  rintro e w1 ⟨A1, c1, rfl, ⟨hc1, r1⟩, b1⟩
  go_wp2_with fail
  refine (K2.out _ b1).mono ?_
  rintro e w2 ⟨A2, c2, rfl, ⟨hc2, r2⟩, b2⟩
  have B2 := below_le b1 b2
  go_wp2_with fail
  refine (K3.out _ _ _ _ _ hc1 hc2 (r1.step b2) r2).mono ?_
  rintro e w3 ⟨A3, c3, rfl, ⟨hc3, r3⟩, b3⟩
  have B3 := below_le B2 b3
  clear r1 r2 b1 b2 hc1 hc2
  go_wp2_with fail
  refine (K4.out _ B3).mono ?_
  rintro e w4 ⟨A4, c4, rfl, ⟨hc4, r4⟩, b4⟩
  have B4 := below_le B3 b4
  have R3 := r3.step b4
  clear r3
  go_wp2_with fail
  refine (K1.out _ B4).mono ?_
  rintro e w5 ⟨A5, c5, rfl, ⟨hc5, r5⟩, b5⟩
  have B5 := below_le B4 b5
  go_wp2_with fail
  refine (K2.out _ B5).mono ?_
  rintro e w6 ⟨A6, c6, rfl, ⟨hc6, r6⟩, b6⟩
  have B6 := below_le B5 b6
  go_wp2_with fail
  refine (K5.out _ _ _ _ _ hc5 hc6 (r5.step b6) r6).mono ?_
  rintro e w7 ⟨A7, c7, C7, d7, rfl, ⟨hc7, hd7, r7, s7⟩, b7⟩
  have B7 := below_le B6 b7
  clear r5 r6 hc5 hc6
  go_wp2_with fail
  refine (K6.out _ B7).mono ?_
  rintro e w8 ⟨A8, c8, C8, d8, rfl, ⟨hc8, hd8, r8, s8⟩, b8⟩
  have B8 := below_le B7 b8
  have R7 := r7.step b8
  have S7 := s7.step b8
  have b58 := below_le (below_le (below_le b5 b6) b7) b8
  go_wp2_with fail
  refine (K7.out _ _ _ _ _ (R3.step b58) (r4.step b58)).mono ?_
  rintro e w' ⟨rfl, n9, rfl⟩
  have R8 := r8.drewN n9
  go_wp2_with fail
  refine (K8.out _ _ _ _ _ (R7.drewN n9) R8).mono ?_
  rintro e w' ⟨rfl, n10, rfl⟩
  have S8 := s8.drewN (n9 + n10)
  have S9 := S7.drewN (n9 + n10)
  rw [World.drewN_drewN]
  go_wp2_with fail
  refine (K9.out _ _ _ _ _ S9 S8).mono ?_
  rintro e w' ⟨rfl, n11, rfl⟩
  have B11 := below_drewN' B8 (n9 + n10 + n11)
  clear R3 R7 R8 r4 r7 r8 s7 s8 S7 S8 S9 b58 b3 b4 b5 b6 b7 b8 hc3 hc4 hc7 hc8 hd7 hd8
  go_wp2_with fail
  refine (awake_any _).mono ?_
  rintro e w12 ⟨rfl, b12⟩
  have B12 := below_le B11 b12
  go_wp2
  go_ret
  exact ⟨rfl, B12⟩
end Go.Proofs.Ytclggnaljijjoaa
