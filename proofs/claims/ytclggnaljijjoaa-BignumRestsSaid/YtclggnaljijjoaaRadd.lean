/-
  Contract of Add of the reference; how many words sums and products have.
-/
import Derived.Test.YtclggnaljijjoaaPlus
namespace Go.Proofs.Ytclggnaljijjoaa
open Go.RowKit
theorem lng_le {v : Nat} (h : lngB v = false) : (wds v).length ≤ 1024 := by
  unfold lngB at h
  have h1 := of_decide_eq_false h
  omega
theorem twice_lt {P Q v u : Nat} (h1 : v < P) (h2 : u < P) (h3 : 2 * P ≤ Q) : v + u < Q := by omega
theorem sum_len_max (v u : Nat) : (wds (v + u)).length ≤ max (wds v).length (wds u).length + 1 := by
  obtain ⟨K, hK⟩ : ∃ K, max (wds v).length (wds u).length = K := ⟨_, rfl⟩
  rw [hK]
  exact wds_len_lt (twice_lt (Nat.lt_of_lt_of_le (wds_lt v) (Nat.pow_le_pow_right (by omega) (by omega))) (Nat.lt_of_lt_of_le (wds_lt u) (Nat.pow_le_pow_right (by omega) (by omega))) (pow_twice K))
theorem sum_len {v u : Nat} (hv : lngB v = false) (hu : lngB u = false) : (wds (v + u)).length ≤ 1025 := by
  have h1 := lng_le hv
  have h2 := lng_le hu
  have := sum_len_max v u
  omega
theorem prod_len_sum (v u : Nat) : (wds (v * u)).length ≤ (wds v).length + (wds u).length := by
  refine wds_len_lt ?_
  rw [Nat.pow_add]
  exact Nat.mul_lt_mul_of_lt_of_le (wds_lt v) (Nat.le_of_lt (wds_lt u)) (Nat.lt_of_le_of_lt (Nat.zero_le _) (wds_lt u))
theorem prod_len {v u : Nat} (hv : lngB v = false) (hu : lngB u = false) : (wds (v * u)).length ≤ 2048 := by
  have h1 := lng_le hv
  have h2 := lng_le hu
  have := prod_len_sum v u
  omega
set_option maxHeartbeats 1000000 in
theorem radd_any (A C : Option Addr) (n c m d : Nat) (l k : List Nat) (w : World) (hn : l.length = n) (hc : n ≤ c) (hm : n ≤ 35184372087808) (h : RW w w.heap.size A l)
    (gn : k.length = m) (gc : m ≤ d) (gm : m ≤ 35184372087808) (g : RW w w.heap.size C k) :
    Calls Try.prog 22 #[.slice A n c, .slice C m d] w (AddP (val l) (val k) w) := by
  have c1 := rlong_any A n c l w.heap.size w hn hc (by omega) h
  have C2 := Lib.hid (fun W (hb : Below w.heap.size w W) => rlong_any C m d k W.heap.size W gn gc (by omega) (g.step hb))
  have C3 := Lib.hid (fun W (hb : Below w.heap.size w W) => plus_any A C n c m d l k W hn hm (h.step hb) gn gm (g.step hb))
  cases h1 : lngB (val l)
  · cases h2 : lngB (val k)
    · have hq : (lngB (val l) || lngB (val k)) = false := by rw [h1, h2]; rfl
      have hlen := sum_len h1 h2
      obtain ⟨v, hv⟩ : ∃ v, val l + val k = v := ⟨_, rfl⟩
      obtain ⟨N, hN⟩ : ∃ N, (wds v).length = N := ⟨_, rfl⟩
      rw [hv] at C3 hlen
      rw [hN] at hlen
      have C4 := Lib.hid (fun W A2 c2 (hc2 : N ≤ c2) (r : RW W W.heap.size A2 (wds v)) => (rchecked_any A2 N c2 (wds v) W.heap.size W hN hc2 (by omega) (Nat.le_refl _) r))
      rw [h1] at c1
      rw [h2] at C2
      have HN := Lib.hid hN
      suffices hs : Calls Try.prog 22 #[.slice A n c, .slice C m d] w (NatPost v w) from hs.mono fun e w' x => by
        unfold AddP; rw [if_neg (by rw [hq]; simp), hv]; exact x
      clear hn hc hm h gn gc gm g h1 h2 hq hlen hv hN
      go_enter Try.func22, Try.ntmps22
      go_wp2_with fail
      refine c1.mono ?_
      rintro e w1 ⟨rfl, b1⟩
      go_wp2_with fail
      refine (C2.out _ b1).mono ?_
      rintro e w2 ⟨rfl, b2⟩
      have B2 := below_le b1 b2
      go_wp2_with fail
      refine (C3.out _ B2).mono ?_
      rintro e w3 ⟨v3, rfl, ⟨A3, c3, rfl, hc3, r3⟩, b3⟩
      rw [HN.out] at hc3 ⊢
      have B3 := below_le B2 b3
      have D4 := C4.out w3 A3 c3 hc3 r3
      rw [wds_val] at D4
      clear C2 C3 C4 c1
      go_wp2_with fail
      refine D4.mono ?_
      rintro e w4 hx
      obtain ⟨A4, n4, c4, k4, rfl, h3, h4⟩ := NatPost.from_ B3 hx
      have H3 := Lib.hid h3
      have H4 := Lib.hid h4
      clear h3 h4 hx D4
      go_wp2
      go_ret2
      exact ⟨A4, n4, c4, k4, rfl, H3.out, H4.out⟩
    · have hq : (lngB (val l) || lngB (val k)) = true := by rw [h1, h2]; rfl
      rw [h1] at c1
      rw [h2] at C2
      suffices hs : Calls Try.prog 22 #[.slice A n c, .slice C m d] w (ErrPost 3 w) from hs.mono fun e w' x => by
        unfold AddP; rw [if_pos hq]; exact x
      clear hn hc hm h gn gc gm g h1 h2 hq C3
      go_enter Try.func22, Try.ntmps22
      go_wp2_with fail
      refine c1.mono ?_
      rintro e w1 ⟨rfl, b1⟩
      go_wp2_with fail
      refine (C2.out _ b1).mono ?_
      rintro e w2 ⟨rfl, b2⟩
      go_wp2
      go_ret2
      exact ⟨rfl, below_le b1 b2⟩
  · have hq : (lngB (val l) || lngB (val k)) = true := by rw [h1]; rfl
    rw [h1] at c1
    suffices hs : Calls Try.prog 22 #[.slice A n c, .slice C m d] w (ErrPost 3 w) from hs.mono fun e w' x => by
      unfold AddP; rw [if_pos hq]; exact x
    clear hn hc hm h gn gc gm g h1 hq C2 C3
    go_enter Try.func22, Try.ntmps22
    go_wp2_with fail
    refine c1.mono ?_
    rintro e w1 ⟨rfl, b1⟩
    go_wp2
    go_ret2
    exact ⟨rfl, b1⟩
end Go.Proofs.Ytclggnaljijjoaa
