/-
  Contract of Pow of the reference, and the law BignumPowers.
-/
import Derived.Test.YtclggnaljijjoaaPow
import Derived.Test.YtclggnaljijjoaaTimes
namespace Go.Proofs.Ytclggnaljijjoaa
open Go.RowKit
theorem wds_small {x : Nat} (h0 : 0 < x) (h : x < 4294967296) : wds x = [x] := by
  have e := nrm_wds (l := [x]) (Ws.cons h Ws.nil)
  have v : val [x] = x := by simp [val]
  rw [v, nrm_cons (by omega)] at e
  exact e.symm
theorem pow_neg (b : Nat) (n : Int) (w : World) (hn : n < 0) : Calls Try.prog 33 #[.int .u32 b, .int .i64 n] w (ErrPost 1 w) := by
  go_enter Try.func33, Try.ntmps33
  go_wp2
  go_ret2
  exact ⟨rfl, Below.refl _ _⟩
theorem rpow_neg (b : Nat) (n : Int) (w : World) (hn : n < 0) : Calls Try.prog 34 #[.int .u32 b, .int .i64 n] w (ErrPost 1 w) := by
  go_enter Try.func34, Try.ntmps34
  go_wp2
  go_ret2
  exact ⟨rfl, Below.refl _ _⟩
theorem lit_post (w : World) : RW (w.alloc (.cells #[.int .u32 1] 40)) (w.alloc (.cells #[.int .u32 1] 40)).heap.size (some ⟨w.heap.size, 0, none⟩) (wds 1) := by
  rw [wds_small (by omega) (by omega)]
  exact (lit_one w 1 (by omega)).more (by simp)
theorem one_post (w : World) : NatPost 1 w (.returned (.tuple #[.slice (some ⟨w.heap.size, 0, none⟩) 1 1, .int .i64 0])) (w.alloc (.cells #[.int .u32 1] 40)) :=
  NatPost.ok (lng_small (by omega)) (by rw [wds_small (by omega) (by omega)]; rfl) (Nat.le_refl _) (lit_post w) ((Below.refl _ _).alloc (Nat.le_refl _) _)
set_option maxHeartbeats 1000000 in
theorem rpow_low (b n : Nat) (w : World) (hb : b < 2) (hn : n < 9223372036854775808) : Calls Try.prog 34 #[.int .u32 b, .int .i64 n] w (NatPost (b ^ n) w) := by
  have h1 := Lib.hid (one_post w)
  have n0 : (0 : Int) ≤ (n : Int) := by omega
  rcases (show b = 1 ∨ b = 0 ∧ n = 0 ∨ b = 0 ∧ 0 < n by omega) with rfl | ⟨rfl, rfl⟩ | ⟨rfl, h⟩
  · rw [Nat.one_pow]
    clear hb hn
    go_enter Try.func34, Try.ntmps34
    go_wp2
    go_ret2
    exact h1.out
  · have e : 0 ^ 0 = 1 := rfl
    rw [e]
    clear hb hn n0 e
    go_enter Try.func34, Try.ntmps34
    go_wp2
    go_ret2
    exact h1.out
  · rw [Nat.zero_pow h]
    have hp : (0 : Int) < (n : Int) := by omega
    have h0 := Lib.hid (show NatPost 0 w (.returned (.tuple #[.slice none 0 0, .int .i64 0])) w from NatPost.ok (lng_small (by omega)) rfl (Nat.le_refl _) (RW.nil _ _ _) (Below.refl _ _))
    clear hb hn h
    go_enter Try.func34, Try.ntmps34
    go_wp2
    go_ret2
    exact h0.out
set_option maxRecDepth 100000 in
set_option maxHeartbeats 4000000 in
theorem rpow_high (b n : Nat) (w : World) (hb : b < 4294967296) (hb2 : 2 ≤ b) (hn : n < 9223372036854775808) : Calls Try.prog 34 #[.int .u32 b, .int .i64 n] w (NatPost (b ^ n) w) := by
  have h2 : ¬ (b : Int) < 2 := by omega
  have n0 : (0 : Int) ≤ (n : Int) := by omega
  have n1 : (n : Int) ≤ 9223372036854775807 := by omega
  have HLIT := Lib.hid (lit_post w)
  have hlen1 : (wds 1).length = 1 := by rw [wds_small (by omega) (by omega)]; rfl
  have HLEN := Lib.hid hlen1
  have HB := Lib.hid hb
  have hbv : val [b] = b := by simp [val]
  have HBV := Lib.hid hbv
  clear hb hb2 hn hlen1 hbv
  go_enter Try.func34, Try.ntmps34
  go_wp2
  go_loopw [6, 7] (fun v i wr => ∃ (q : Nat) (A : Option Addr) (N c : Nat), v = .slice A N c ∧ i = .int .i64 (q : Nat) ∧ q ≤ n ∧ Hid ((wds (b ^ q)).length = N) ∧ N ≤ c ∧ Hid (RW wr wr.heap.size A (wds (b ^ q))) ∧ Hid (lngB (b ^ q) = false) ∧ Below w.heap.size w wr) (fun _ i _ => n - (intOf i).toNat)
  case atStart => exact ⟨0, some ⟨w.heap.size, 0, none⟩, 1, 1, rfl, rfl, Nat.zero_le _, Lib.hid (by rw [Nat.pow_zero]; exact HLEN.out), Nat.le_refl _, Lib.hid (by rw [Nat.pow_zero]; exact HLIT.out), Lib.hid (by rw [Nat.pow_zero]; exact lng_small (by omega)), (Below.refl _ _).alloc (Nat.le_refl _) _⟩
  case round =>
    obtain ⟨q, A, N, c, rfl, rfl, hq, HNq, hNc, HR, HL, hbw⟩ := hrel
    by_cases hlt : q < n
    · have hNl := lng_le HL.out
      rw [HNq.out] at hNl
      have hal : Below wr.heap.size wr (wr.alloc (.cells #[.int .u32 (b : Int)] 40)) := (Below.refl _ _).alloc (Nat.le_refl _) _
      obtain ⟨N2, hN2⟩ : ∃ N2, (wds (b ^ (q + 1))).length = N2 := ⟨_, rfl⟩
      have hN2l : N2 ≤ 1025 := by
        rw [← hN2, Nat.pow_succ]
        have h1 := prod_len_sum (b ^ q) b
        have h3 := wds_len_lt (n := b) (k := 1) (by simpa using HB.out)
        rw [HNq.out] at h1
        omega
      have C1 := Lib.hid (show Calls Try.prog 50 #[.slice A N c, .slice (some ⟨wr.heap.size, 0, none⟩) 1 1] (wr.alloc (.cells #[.int .u32 (b : Int)] 40)) (Told (wds (b ^ (q + 1))) N2 (wr.alloc (.cells #[.int .u32 (b : Int)] 40))) from by
        have := times_any A (some ⟨wr.heap.size, 0, none⟩) N c 1 1 (wds (b ^ q)) [b] (wr.alloc (.cells #[.int .u32 (b : Int)] 40)) HNq.out (by omega) (HR.out.step hal) rfl (by omega) ((lit_one wr b HB.out).more (by simp))
        rw [wds_val, HBV.out, ← Nat.pow_succ] at this
        exact this.mono fun _ _ x => x.told hN2)
      have C2 := Lib.hid (fun W A5 c5 (h5 : N2 ≤ c5) (r5 : RW W W.heap.size A5 (wds (b ^ (q + 1)))) => rlong_any A5 N2 c5 _ W.heap.size W hN2 h5 (by omega) r5)
      rw [wds_val] at C2
      have HAL := Lib.hid (below_le hbw hal)
      have HN2 := Lib.hid hN2
      have hq1 : (q : Int) < (n : Int) := by omega
      clear hNl hal hN2 hN2l
      cases hl : lngB (b ^ (q + 1))
      · have HL2 := Lib.hid hl
        rw [hl] at C2
        clear hl
        go_wp2_with fail
        refine C1.out.mono ?_
        rintro e w3 ⟨A3, c3, rfl, ⟨hc3, r3⟩, b3⟩
        have D2 := Lib.hid (C2.out w3 A3 c3 hc3 r3)
        have HR3 := Lib.hid r3
        have hbw3 := below_le HAL.out b3
        clear r3 b3 C1 C2
        go_wp2_with fail
        refine D2.out.mono ?_
        rintro e w4 ⟨rfl, b4⟩
        have HR4 := Lib.hid (HR3.out.step b4)
        have HB4 := Lib.hid (below_le hbw3 b4)
        clear b4 D2 HR3
        go_wp2
        go_roundw
        case rel => exact ⟨q + 1, A3, N2, c3, rfl, by go_num, by omega, HN2, hc3, HR4, HL2, HB4.out⟩
        case measure => simp [intOf]; omega
      · have HLN := Lib.hid (pow_le b _ n (by omega) hl)
        rw [hl] at C2
        clear hl
        go_wp2_with fail
        refine C1.out.mono ?_
        rintro e w3 ⟨A3, c3, rfl, ⟨hc3, r3⟩, b3⟩
        have D2 := Lib.hid (C2.out w3 A3 c3 hc3 r3)
        have hbw3 := below_le HAL.out b3
        clear r3 b3 C1 C2
        go_wp2_with fail
        refine D2.out.mono ?_
        rintro e w4 ⟨rfl, b4⟩
        have HB4 := Lib.hid (below_le hbw3 b4)
        clear b4 D2
        go_wp2
        go_ret2
        exact NatPost.long HLN.out HB4.out
    · have HE := Lib.hid (show b ^ q = b ^ n by rw [show q = n by omega])
      have HX := Lib.hid (NatPost.ok (w := w) HL.out HNq.out.symm hNc HR.out hbw)
      have hq1 : ¬ (q : Int) < (n : Int) := by omega
      go_wp2
      go_ret2
      rw [← HE.out]
      exact HX.out
theorem rpow_any (b n : Nat) (w : World) (hb : b < 4294967296) (hn : n < 9223372036854775808) : Calls Try.prog 34 #[.int .u32 b, .int .i64 n] w (NatPost (b ^ n) w) := by
  by_cases h : b < 2
  · exact rpow_low b n w h hn
  · exact rpow_high b n w hb (by omega) hn
set_option maxHeartbeats 1000000 in
theorem powers_any (b : Nat) (x : Int) (w : World) (hb : b < 4294967296) (hx : x ≤ 9223372036854775807) :
    Calls Try.prog 7 #[.int .u32 b, .int .i64 x] w fun e w' => e = .returned (.bool true) ∧ Below w.heap.size w w' := by
  have body : ∀ (L : List Nat) (N k : Nat), L.length = N → N ≤ 1024 → (∀ W, Calls Try.prog 33 #[.int .u32 b, .int .i64 x] W (Two L N k W)) → (∀ W, Calls Try.prog 34 #[.int .u32 b, .int .i64 x] W (Two L N k W)) →
      Calls Try.prog 7 #[.int .u32 b, .int .i64 x] w fun e w' => e = .returned (.bool true) ∧ Below w.heap.size w w' := by
    intro L N k hL hN h1 h2
    have K1 := Lib.hid h1
    have K2 := Lib.hid h2
    have K3 := Lib.hid (fun W A2 A3 c2 c3 (r2 : RW W W.heap.size A2 L) (r3 : RW W W.heap.size A3 L) => same_any A2 A3 N c2 c3 L W.heap.size W.heap.size W hL (by omega) r2 r3)
    clear h1 h2 hL hN hb hx
    go_enter Try.func7, Try.ntmps7
    go_wp2_with fail
    refine (K1.out _).mono ?_
    rintro e w1 ⟨A1, c1, rfl, ⟨hc1, r1⟩, b1⟩
    go_wp2_with fail
    refine (K2.out _).mono ?_
    rintro e w2 ⟨A2, c2, rfl, ⟨hc2, r2⟩, b2⟩
    have B2 := below_le b1 b2
    go_wp2_with fail
    refine (K3.out _ _ _ _ _ (r1.step b2) r2).mono ?_
    rintro e w' ⟨rfl, n3, rfl⟩
    have B3 := below_drewN' B2 n3
    clear r1 r2 hc1 hc2 b1 b2
    go_wp2_with fail
    refine (awake_any _).mono ?_
    rintro e w4 ⟨rfl, b4⟩
    have B4 := below_le B3 b4
    go_wp2
    go_ret
    exact ⟨rfl, B4⟩
  by_cases h0 : x < 0
  · exact body [] 0 1 rfl (by omega) (fun W => (pow_neg b x W h0).mono fun _ _ y => y.two) (fun W => (rpow_neg b x W h0).mono fun _ _ y => y.two)
  · obtain ⟨n, rfl⟩ := Int.eq_ofNat_of_zero_le (show 0 ≤ x by omega)
    exact body (natL (b ^ n)) _ (natK (b ^ n)) rfl (natL_len _) (fun W => (pow_any b n W hb (by omega)).mono fun _ _ y => y.two) (fun W => (rpow_any b n W hb (by omega)).mono fun _ _ y => y.two)
end Go.Proofs.Ytclggnaljijjoaa
