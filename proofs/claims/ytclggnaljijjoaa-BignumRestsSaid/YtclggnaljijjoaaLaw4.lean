/-
  The law BignumShifts.
-/
import Derived.Test.YtclggnaljijjoaaRShr
import Derived.Test.YtclggnaljijjoaaLaw2
namespace Go.Proofs.Ytclggnaljijjoaa
open Go.RowKit
/-- What Shl tells as words and a number. -/
def shlL (v : Nat) (p : Int) : List Nat := if lngB v = true then [] else if p < 0 then [] else if lngB (v * 2 ^ p.toNat) = true then [] else wds (v * 2 ^ p.toNat)
def shlK (v : Nat) (p : Int) : Nat := if lngB v = true then 3 else if p < 0 then 1 else if lngB (v * 2 ^ p.toNat) = true then 3 else 0
theorem ShlQ.two {v : Nat} {p : Int} {w w' : World} {e : Ending} {N : Nat} (h : ShlQ v p w e w') (hN : (shlL v p).length = N) : Two (shlL v p) N (shlK v p) w e w' := by
  unfold ShlQ at h
  unfold shlL shlK at *
  split at h
  · next a => rw [if_pos a] at hN ⊢; rw [if_pos a]; rw [← hN]; exact h.two
  · next a =>
    rw [if_neg a] at hN ⊢
    rw [if_neg a]
    split at h
    · next b => rw [if_pos b] at hN ⊢; rw [if_pos b]; rw [← hN]; exact h.two
    · next b =>
      rw [if_neg b] at hN ⊢
      rw [if_neg b]
      obtain ⟨A, n, c, k, rfl, h2, h3⟩ := h
      split at h2
      · next g =>
        rw [if_pos g] at hN ⊢
        rw [if_pos g]
        obtain ⟨rfl, rfl, rfl, rfl⟩ := h2
        rw [← hN]
        exact ⟨none, 0, rfl, ⟨Nat.le_refl _, RW.nil _ _ _⟩, h3⟩
      · next g =>
        rw [if_neg g] at hN ⊢
        rw [if_neg g]
        obtain ⟨rfl, hc, rfl, hr⟩ := h2
        rw [← hN]
        exact ⟨A, c, rfl, ⟨hc, hr⟩, h3⟩
theorem shlL_len (v : Nat) (p : Int) : (shlL v p).length ≤ 1024 := by
  unfold shlL
  split
  · simp
  · split
    · simp
    · split
      · simp
      · next g => exact lng_le (by simpa using g)
/-- A slice of told words and a truth. -/
def TwoB (L : List Nat) (n : Nat) (b : Bool) (w : World) (e : Ending) (w' : World) : Prop := ∃ A c, e = .returned (.tuple #[.slice A n c, .bool b]) ∧ (n ≤ c ∧ RW w' w'.heap.size A L) ∧ Below w.heap.size w w'
theorem ShrQ.two {v q : Nat} {w w' : World} {e : Ending} {N : Nat} (h : ShrQ v q w e w') (hN : (wds (v / 2 ^ q)).length = N) : TwoB (wds (v / 2 ^ q)) N (decide (v % 2 ^ q ≠ 0)) w e w' := by
  obtain ⟨A, n, c, rfl, h2, h3, h4, h5⟩ := h
  rw [h2, hN] at *
  exact ⟨A, c, rfl, ⟨h3, h4⟩, h5⟩
theorem shr_len {v q n : Nat} {l : List Nat} (h : Ws l) (hn : l.length = n) (hv : val l = v) : (wds (v / 2 ^ q)).length ≤ n := by
  refine wds_len_lt ?_
  have := val_lt h
  rw [hn, hv] at this
  exact Nat.lt_of_le_of_lt (Nat.div_le_self _ _) this
set_option maxRecDepth 100000 in
set_option maxHeartbeats 4000000 in
theorem shifts_any (A : Option Addr) (n c : Nat) (p : Int) (l : List Nat) (w : World) (hn : l.length = n) (hc : n ≤ c) (hm : n ≤ 35184372087808) (h : RW w w.heap.size A l) :
    Calls Try.prog 6 #[.slice A n c, .int .i64 p] w fun e w' => e = .returned (.bool true) ∧ Below w.heap.size w w' := by
  obtain ⟨S, hS⟩ : ∃ S, shlL (val l) p = S := ⟨_, rfl⟩
  obtain ⟨D, hD⟩ : ∃ D, wds (val l / 2 ^ p.toNat) = D := ⟨_, rfl⟩
  obtain ⟨s, hs⟩ : ∃ s, shlK (val l) p = s := ⟨_, rfl⟩
  obtain ⟨t, ht⟩ : ∃ t, decide (val l % 2 ^ p.toNat ≠ 0) = t := ⟨_, rfl⟩
  obtain ⟨N, hN⟩ : ∃ N, S.length = N := ⟨_, rfl⟩
  obtain ⟨M, hM⟩ : ∃ M, D.length = M := ⟨_, rfl⟩
  have hSl : N ≤ 1024 := by rw [← hN, ← hS]; exact shlL_len _ _
  have hDl : M ≤ n := by rw [← hM, ← hD]; exact shr_len h.1 hn rfl
  have K1 := Lib.hid (fun W (hb : Below w.heap.size w W) => ownT A n c l W hn (by omega) (h.step hb))
  have K3 := Lib.hid (fun W A2 c2 (h2 : n ≤ c2) (r2 : RW W W.heap.size A2 l) =>
    show Calls Try.prog 29 #[.slice A2 n c2, .int .i64 p] W (Two S N s W) from (pshl_any A2 n c2 p l W hn h2 (by omega) r2).mono fun _ _ x => by have := x.two (N := N) (by rw [hS, hN]); rw [hS, hs] at this; exact this)
  have K4 := Lib.hid (fun W (hb : Below w.heap.size w W) =>
    show Calls Try.prog 30 #[.slice A n c, .int .i64 p] W (Two S N s W) from (rshl_any A n c p l W hn hc hm (h.step hb)).mono fun _ _ x => by have := x.two (N := N) (by rw [hS, hN]); rw [hS, hs] at this; exact this)
  have K5 := Lib.hid (fun W A2 c2 (h2 : n ≤ c2) (r2 : RW W W.heap.size A2 l) =>
    show Calls Try.prog 31 #[.slice A2 n c2, .int .i64 p] W (TwoB D M t W) from (pshr_any A2 n c2 p l W hn h2 hm r2).mono fun _ _ x => by have := x.two (N := M) (by rw [hD, hM]); rw [hD, ht] at this; exact this)
  have K6 := Lib.hid (fun W (hb : Below w.heap.size w W) =>
    show Calls Try.prog 32 #[.slice A n c, .int .i64 p] W (TwoB D M t W) from (rshr_any A n c p l W hn hc hm (h.step hb)).mono fun _ _ x => by have := x.two (N := M) (by rw [hD, hM]); rw [hD, ht] at this; exact this)
  have K7 := Lib.hid (fun W A2 A3 c2 c3 (r2 : RW W W.heap.size A2 S) (r3 : RW W W.heap.size A3 S) => same_any A2 A3 N c2 c3 S W.heap.size W.heap.size W hN (by omega) r2 r3)
  have K8 := Lib.hid (fun W A2 A3 c2 c3 (r2 : RW W W.heap.size A2 D) (r3 : RW W W.heap.size A3 D) => same_any A2 A3 M c2 c3 D W.heap.size W.heap.size W hM (by omega) r2 r3)
  clear hn hc hm h hS hD hs ht hN hM hSl hDl
  go_enter Try.func6, Try.ntmps6
  go_wp2_with fail
  refine (K1.out _ (Below.refl _ _)).mono ?_
  rintro e w1 ⟨A1, c1, rfl, ⟨hc1, r1⟩, b1⟩
  go_wp2_with fail
  refine (K3.out _ _ _ hc1 r1).mono ?_
  rintro e w3 ⟨A3, c3, rfl, ⟨hc3, r3⟩, b3⟩
  have B3 := below_le b1 b3
  clear r1 b1 hc1
  go_wp2_with fail
  refine (K4.out _ B3).mono ?_
  rintro e w4 ⟨A4, c4, rfl, ⟨hc4, r4⟩, b4⟩
  have B4 := below_le B3 b4
  have R3 := r3.step b4
  clear r3
  go_wp2_with fail
  refine (K1.out _ B4).mono ?_
  rintro e w5 ⟨A5, c5, rfl, ⟨hc5, r5⟩, b5⟩
  have B5 := below_le B4 b5
  go_wp2_with fail
  refine (K5.out _ _ _ hc5 r5).mono ?_
  rintro e w7 ⟨A7, c7, rfl, ⟨hc7, r7⟩, b7⟩
  have B7 := below_le B5 b7
  clear r5 hc5
  go_wp2_with fail
  refine (K6.out _ B7).mono ?_
  rintro e w8 ⟨A8, c8, rfl, ⟨hc8, r8⟩, b8⟩
  have B8 := below_le B7 b8
  have R7 := r7.step b8
  have b58 := below_le (below_le b5 b7) b8
  go_wp2_with fail
  refine (K7.out _ _ _ _ _ (R3.step b58) (r4.step b58)).mono ?_
  rintro e w' ⟨rfl, n9, rfl⟩
  have R8 := r8.drewN n9
  go_wp2_with fail
  refine (K8.out _ _ _ _ _ (R7.drewN n9) R8).mono ?_
  rintro e w' ⟨rfl, n10, rfl⟩
  have B10 := below_drewN' B8 (n9 + n10)
  clear R3 R7 R8 r4 r7 r8 b58 b3 b4 b5 b7 b8 hc3 hc4 hc7 hc8
  go_wp2_with fail
  refine (awake_any _).mono ?_
  rintro e w11 ⟨rfl, b11⟩
  have B11 := below_le B10 b11
  go_wp2
  go_ret
  exact ⟨rfl, B11⟩
end Go.Proofs.Ytclggnaljijjoaa
