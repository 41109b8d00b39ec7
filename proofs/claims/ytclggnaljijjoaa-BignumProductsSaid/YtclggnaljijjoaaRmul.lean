/-
  Contract of Mul of the reference.
-/
import Derived.Test.YtclggnaljijjoaaTimes
namespace Go.Proofs.Ytclggnaljijjoaa
open Go.RowKit
set_option maxHeartbeats 1000000 in
theorem rmul_any (A C : Option Addr) (n c m d : Nat) (l k : List Nat) (w : World) (hn : l.length = n) (hc : n ≤ c) (hm : n ≤ 35184372087808) (h : RW w w.heap.size A l)
    (gn : k.length = m) (gc : m ≤ d) (gm : m ≤ 35184372087808) (g : RW w w.heap.size C k) :
    Calls Try.prog 26 #[.slice A n c, .slice C m d] w (MulPost (val l) (val k) w) := by
  have c1 := rlong_any A n c l w.heap.size w hn hc (by omega) h
  have C2 := Lib.hid (fun W (hb : Below w.heap.size w W) => rlong_any C m d k W.heap.size W gn gc (by omega) (g.step hb))
  have P1 := Lib.hid (fun W (hb : Below w.heap.size w W) => (rnorm_any A n c l W.heap.size W hn hc (by omega) (h.step hb)).mono (fun e w' x => SlPost.of h.1.nrm x))
  have P2 := Lib.hid (fun W (hb : Below w.heap.size w W) => (rnorm_any C m d k W.heap.size W gn gc (by omega) (g.step hb)).mono (fun e w' x => SlPost.of g.1.nrm x))
  cases h1 : lngB (val l)
  · cases h2 : lngB (val k)
    · have hq : (lngB (val l) || lngB (val k)) = false := by rw [h1, h2]; rfl
      have hlen := prod_len h1 h2
      have n1 := lng_len h.1 h1
      have n2 := lng_len g.1 h2
      obtain ⟨N1, hN1⟩ : ∃ N1, (nrm l).length = N1 := ⟨_, rfl⟩
      obtain ⟨N2, hN2⟩ : ∃ N2, (nrm k).length = N2 := ⟨_, rfl⟩
      rw [hN1] at n1
      rw [hN2] at n2
      have C3 := Lib.hid (fun W A2 C2 c2 d2 (r2 : RW W W.heap.size A2 (nrm l)) (r3 : RW W W.heap.size C2 (nrm k)) => show Calls Try.prog 50 #[.slice A2 N1 c2, .slice C2 N2 d2] W (SlPost (wds (val l * val k)) W) from by
        have := times_any A2 C2 N1 c2 N2 d2 (nrm l) (nrm k) W hN1 (by omega) r2 hN2 (by omega) r3
        rw [val_nrm, val_nrm] at this; exact this)
      have HN1 := Lib.hid hN1
      have HN2 := Lib.hid hN2
      obtain ⟨v, hv⟩ : ∃ v, val l * val k = v := ⟨_, rfl⟩
      obtain ⟨N, hN⟩ : ∃ N, (wds v).length = N := ⟨_, rfl⟩
      rw [hv] at C3 hlen
      rw [hN] at hlen
      have C4 := Lib.hid (fun W A2 c2 (hc2 : N ≤ c2) (r : RW W W.heap.size A2 (wds v)) => (rchecked_any A2 N c2 (wds v) W.heap.size W hN hc2 (by omega) (Nat.le_refl _) r))
      rw [h1] at c1
      rw [h2] at C2
      have HN := Lib.hid hN
      suffices hs : Calls Try.prog 26 #[.slice A n c, .slice C m d] w (NatPost v w) from hs.mono fun e w' x => by
        unfold MulPost; rw [if_neg (by rw [hq]; simp), hv]; exact x
      clear hn hc hm h gn gc gm g h1 h2 hq hlen hv hN n1 n2 hN1 hN2
      go_enter Try.func26, Try.ntmps26
      go_wp2_with fail
      refine c1.mono ?_
      rintro e w1 ⟨rfl, b1⟩
      go_wp2_with fail
      refine (C2.out _ b1).mono ?_
      rintro e w2 ⟨rfl, b2⟩
      have B2 := below_le b1 b2
      go_wp2_with fail
      refine (P1.out _ B2).mono ?_
      rintro e wa ⟨va, rfl, ⟨Aa, ca, rfl, _, ra⟩, ba⟩
      rw [HN1.out]
      have Ba := below_le B2 ba
      go_wp2_with fail
      refine (P2.out _ Ba).mono ?_
      rintro e wb ⟨vb, rfl, ⟨Ab, cb, rfl, _, rb⟩, bb⟩
      rw [HN2.out]
      have Bb := below_le Ba bb
      go_wp2_with fail
      refine (C3.out _ _ _ _ _ (ra.step bb) rb).mono ?_
      rintro e w3 ⟨v3, rfl, ⟨A3, c3, rfl, hc3, r3⟩, b3⟩
      rw [HN.out] at hc3 ⊢
      have B3 := below_le Bb b3
      have D4 := C4.out w3 A3 c3 hc3 r3
      rw [wds_val] at D4
      clear C2 C3 C4 c1 P1 P2
      go_wp2_with fail
      refine D4.mono ?_
      rintro e w4 hx
      obtain ⟨A4, n4, c4, k4, rfl, h3, h4⟩ := NatPost.from_ B3 hx
      have H3 := Lib.hid h3
      have H4 := Lib.hid h4
      clear h3 h4 hx D4
      go_wp2
      go_ret2
      exact ⟨A4, n4, c4, k4, rfl, H3.out, H4.out⟩
    · have hq : (lngB (val l) || lngB (val k)) = true := by rw [h1, h2]; rfl
      rw [h1] at c1
      rw [h2] at C2
      suffices hs : Calls Try.prog 26 #[.slice A n c, .slice C m d] w (ErrPost 3 w) from hs.mono fun e w' x => by
        unfold MulPost; rw [if_pos hq]; exact x
      clear hn hc hm h gn gc gm g h1 h2 hq P1 P2
      go_enter Try.func26, Try.ntmps26
      go_wp2_with fail
      refine c1.mono ?_
      rintro e w1 ⟨rfl, b1⟩
      go_wp2_with fail
      refine (C2.out _ b1).mono ?_
      rintro e w2 ⟨rfl, b2⟩
      go_wp2
      go_ret2
      exact ⟨rfl, below_le b1 b2⟩
  · have hq : (lngB (val l) || lngB (val k)) = true := by rw [h1]; rfl
    rw [h1] at c1
    suffices hs : Calls Try.prog 26 #[.slice A n c, .slice C m d] w (ErrPost 3 w) from hs.mono fun e w' x => by
      unfold MulPost; rw [if_pos hq]; exact x
    clear hn hc hm h gn gc gm g h1 hq C2 P1 P2
    go_enter Try.func26, Try.ntmps26
    go_wp2_with fail
    refine c1.mono ?_
    rintro e w1 ⟨rfl, b1⟩
    go_wp2
    go_ret2
    exact ⟨rfl, b1⟩
end Go.Proofs.Ytclggnaljijjoaa
