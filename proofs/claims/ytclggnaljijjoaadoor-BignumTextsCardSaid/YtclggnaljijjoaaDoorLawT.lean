/-
  The law BignumTexts.
-/
import Derived.Test.YtclggnaljijjoaaDoorTextA
namespace Go.Proofs.YtclggnaljijjoaaDoor
open Go.RowKit
set_option maxRecDepth 100000 in
set_option maxHeartbeats 2000000 in
theorem texts_any (A : Option Addr) (n c : Nat) (p : Int) (l : List Nat) (s : ByteArray) (w : World) (hn : l.length = n) (hc : n ≤ c) (hm : n ≤ 35184372087808) (h : RW w w.heap.size A l) (hs : s.size ≤ 4611686018427387903) :
    Calls Tryd.prog 3 #[.slice A n c, .string s, .int .i64 p] w fun e w' => e = .returned (.bool true) ∧ Below w.heap.size w w' := by
  obtain ⟨S, hS⟩ : ∃ S, parL p s = S := ⟨_, rfl⟩
  obtain ⟨k, hk⟩ : ∃ k, parK p s = k := ⟨_, rfl⟩
  obtain ⟨N, hN⟩ : ∃ N, S.length = N := ⟨_, rfl⟩
  have l1 : N ≤ 1024 := by rw [← hN, ← hS]; exact parL_len _ _
  have K1 := Lib.hid (fun W (hb : Below w.heap.size w W) => ownT A n c l W hn (by omega) (h.step hb))
  have K2 := Lib.hid (fun W A2 c2 (h2 : n ≤ c2) (r2 : RW W W.heap.size A2 l) => text_any A2 n c2 p l W hn h2 (by omega) r2)
  have K3 := Lib.hid (fun W (hb : Below w.heap.size w W) => rtext_any A n c p l W hn hc (by omega) (h.step hb))
  have K4 := Lib.hid (fun W => show Calls Tryd.prog 9 #[.string s, .int .i64 p] W (Two S N k W) from by
    have := parse_any s p W hs
    rw [hS, hk, hN] at this; exact this)
  have K5 := Lib.hid (fun W => show Calls Tryd.prog 10 #[.string s, .int .i64 p] W (Two S N k W) from by
    have := rparse_any s p W hs
    rw [hS, hk, hN] at this; exact this)
  have K6 := Lib.hid (fun W A2 A3 c2 c3 (r2 : RW W W.heap.size A2 S) (r3 : RW W W.heap.size A3 S) => same_any A2 A3 N c2 c3 S W.heap.size W.heap.size W hN (by omega) r2 r3)
  clear hn hc hm h hs hS hk hN l1
  go_enter Tryd.func3, Tryd.ntmps3
  go_wp2_with fail
  refine (K1.out _ (Below.refl _ _)).mono ?_
  rintro e w1 ⟨A1, c1, rfl, ⟨hc1, r1⟩, b1⟩
  go_wp2_with fail
  refine (K2.out _ _ _ hc1 r1).mono ?_
  rintro e w2 ⟨t, j, rfl, ht, b2⟩
  have B2 := below_le b1 b2
  go_wp2_with fail
  refine (K3.out _ B2).mono ?_
  rintro e w3 ⟨u, i, rfl, hu, b3⟩
  have B3 := below_le B2 b3
  obtain ⟨rfl, rfl⟩ := TextR.one ht hu
  clear r1 b1 b2 b3 hc1 ht hu
  go_wp2_with fail
  refine (K4.out _).mono ?_
  rintro e w4 ⟨A4, c4, rfl, ⟨hc4, r4⟩, b4⟩
  have B4 := below_le B3 b4
  go_wp2_with fail
  refine (K5.out _).mono ?_
  rintro e w5 ⟨A5, c5, rfl, ⟨hc5, r5⟩, b5⟩
  have B5 := below_le B4 b5
  have R4 := r4.step b5
  clear r4 b4 b5
  go_wp2_with fail
  refine (K6.out _ _ _ _ _ R4 r5).mono ?_
  rintro e w' ⟨rfl, n6, rfl⟩
  have B6 := below_drewN' B5 n6
  clear R4 r5 hc4 hc5
  go_wp2_with fail
  refine (awake_any _).mono ?_
  rintro e w7 ⟨rfl, b7⟩
  have B7 := below_le B6 b7
  go_wp2
  go_ret
  exact ⟨rfl, B7⟩
end Go.Proofs.YtclggnaljijjoaaDoor
