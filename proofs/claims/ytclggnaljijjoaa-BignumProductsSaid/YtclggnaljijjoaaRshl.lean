/-
  Contracts of Shl of the reference and of the program, whole.
-/
import Derived.Test.YtclggnaljijjoaaUp
namespace Go.Proofs.Ytclggnaljijjoaa
open Go.RowKit
theorem shl_len {v p : Nat} (hv : lngB v = false) (hp : p ≤ 32768) : (wds (v * 2 ^ p)).length ≤ 2049 := by
  have h1 := lng_le hv
  have h2 := prod_len_sum v (2 ^ p)
  have h4 : ∀ K, 1025 ≤ K → (wds (2 ^ p)).length ≤ K := fun K hK => wds_len_lt (by rw [pow32]; exact Nat.pow_lt_pow_right (by omega) (by omega))
  have h3 := h4 1025 (Nat.le_refl _)
  omega
theorem btl_zero {l : List Nat} (h : Ws l) : btl l = 0 ↔ nrm l = [] := by
  constructor
  · intro e
    rcases Classical.em (nrm l = []) with h0 | h0
    · exact h0
    · have := (btl_bounds h h0).2.2; omega
  · intro e; unfold btl; rw [if_pos e]
theorem nrm_pos {l : List Nat} (h0 : nrm l ≠ []) : val l ≠ 0 := fun e => h0 (nrm_val_zero e)
theorem shlq_long {v : Nat} {p : Int} {w : World} (h : lngB v = true) : ShlQ v p w = ErrPost 3 w := by funext e w'; unfold ShlQ; rw [if_pos h]
theorem shlq_neg {v : Nat} {p : Int} {w : World} (h : lngB v = false) (hp : p < 0) : ShlQ v p w = ErrPost 1 w := by funext e w'; unfold ShlQ; rw [if_neg (by rw [h]; simp), if_pos hp]
theorem shlq_ok {v q : Nat} {w : World} (h : lngB v = false) : ShlQ v (q : Int) w = NatPost (v * 2 ^ q) w := by funext e w'; unfold ShlQ; rw [if_neg (by rw [h]; simp), if_neg (by omega), Int.toNat_natCast]
theorem pshl_any (A : Option Addr) (n c : Nat) (p : Int) (l : List Nat) (w : World) (hn : l.length = n) (hc : n ≤ c) (hm : n ≤ 35184372088832) (h : RW w w.heap.size A l) :
    Calls Try.prog 29 #[.slice A n c, .int .i64 p] w (ShlQ (val l) p w) := by
  cases hl : lngB (val l)
  · by_cases hp : p < 0
    · rw [shlq_neg hl hp]
      exact pshl_neg A n c p l w hn hc hm h hl hp
    · obtain ⟨q, rfl⟩ : ∃ q : Nat, p = (q : Int) := ⟨p.toNat, by omega⟩
      rw [shlq_ok hl]
      by_cases h0 : nrm l = []
      · have := pshl_zero A n c q l w hn hc hm h (by omega) h0
        rw [← val_nrm l, h0, show val [] = 0 from rfl, Nat.zero_mul]
        exact this
      · have h1 : nrm (nrm l) ≠ [] := by rw [nrm_nrm]; exact h0
        by_cases hf : btl (nrm l) + q ≤ 32768
        · exact pshl_ok A n c q (q / 32) (q % 32) l w hn hc hm h hl h0 hf (by omega) (by omega)
        · refine (pshl_far A n c q l w hn hc hm h hl (by omega) h0 (by omega)).mono fun e w' x => ?_
          obtain ⟨rfl, hb⟩ := x
          have := shl_long (n := q) h.1.nrm h1 (by omega)
          rw [val_nrm] at this
          exact NatPost.long this hb
  · rw [shlq_long hl]
    exact pshl_long A n c p l w hn hc hm h hl
set_option maxRecDepth 100000 in
set_option maxHeartbeats 2000000 in
theorem rshl_any (A : Option Addr) (n c : Nat) (p : Int) (l : List Nat) (w : World) (hn : l.length = n) (hc : n ≤ c) (hm : n ≤ 35184372087808) (h : RW w w.heap.size A l) :
    Calls Try.prog 30 #[.slice A n c, .int .i64 p] w (ShlQ (val l) p w) := by
  have c1 := rlong_any A n c l w.heap.size w hn hc (by omega) h
  have C2 := Lib.hid (fun W (hb : Below w.heap.size w W) => rbits_any A n c l W.heap.size W hn hc (by omega) (h.step hb))
  have C3 := Lib.hid (fun W (hb : Below w.heap.size w W) => (rnorm_any A n c l W.heap.size W hn hc (by omega) (h.step hb)).mono (fun e w' x => SlPost.of h.1.nrm x))
  have HZ := btl_zero h.1
  cases hl : lngB (val l)
  · rw [hl] at c1
    by_cases hp : p < 0
    · rw [shlq_neg hl hp]
      clear hn hc hm h hl C2 C3 HZ
      go_enter Try.func30, Try.ntmps30
      go_wp2_with fail
      refine c1.mono ?_
      rintro e w1 ⟨rfl, b1⟩
      go_wp2
      go_ret2
      exact ⟨rfl, b1⟩
    · obtain ⟨q, rfl⟩ : ∃ q : Nat, p = (q : Int) := ⟨p.toNat, by omega⟩
      rw [shlq_ok hl]
      have q0 : ¬ (q : Int) < 0 := hp
      by_cases h0 : nrm l = []
      · rw [HZ.2 h0] at C2
        rw [← val_nrm l, h0, show val [] = 0 from rfl, Nat.zero_mul]
        clear hn hc hm h hl C3 HZ h0 hp
        go_enter Try.func30, Try.ntmps30
        go_wp2_with fail
        refine c1.mono ?_
        rintro e w1 ⟨rfl, b1⟩
        go_wp2_with fail
        refine (C2.out _ b1).mono ?_
        rintro e w2 ⟨rfl, b2⟩
        have B2 := Lib.hid (below_le b1 b2)
        go_wp2
        go_ret2
        exact NatPost.ok (lng_small (by omega)) rfl (Nat.le_refl _) (RW.nil _ _ _) B2.out
      · have hz : btl l ≠ 0 := fun e => h0 (HZ.1 e)
        obtain ⟨t, ht⟩ : ∃ t, btl l = t := ⟨_, rfl⟩
        rw [ht] at C2 hz
        have hz1 : ((t : Int) == 0) = false := by simp; omega
        by_cases hf : 32768 < q
        · have HLG := Lib.hid (shl_long2 (nrm_pos h0) hf)
          have hf1 : (32768 : Int) < (q : Int) := by omega
          clear hn hc hm h hl C3 HZ h0 hp ht hz
          go_enter Try.func30, Try.ntmps30
          go_wp2_with fail
          refine c1.mono ?_
          rintro e w1 ⟨rfl, b1⟩
          go_wp2_with fail
          refine (C2.out _ b1).mono ?_
          rintro e w2 ⟨rfl, b2⟩
          have B2 := Lib.hid (below_le b1 b2)
          go_wp2
          go_ret2
          exact NatPost.long HLG.out B2.out
        · have n1 := lng_len h.1 hl
          have hlen := shl_len hl (p := q) (by omega)
          obtain ⟨N, hN⟩ : ∃ N, (nrm l).length = N := ⟨_, rfl⟩
          rw [hN] at n1
          obtain ⟨v, hv⟩ : ∃ v, val l * 2 ^ q = v := ⟨_, rfl⟩
          have C4 := Lib.hid (fun W A2 c2 (hc2 : N ≤ c2) (r : RW W W.heap.size A2 (nrm l)) => show Calls Try.prog 55 #[.slice A2 N c2, .int .i64 (q : Nat)] W (SlPost (wds v) W) from by
            have := up_any A2 N c2 q (nrm l) W hN hc2 (by omega) r (by omega)
            rw [val_nrm, hv] at this; exact this)
          rw [hv] at hlen ⊢
          obtain ⟨M, hM⟩ : ∃ M, (wds v).length = M := ⟨_, rfl⟩
          rw [hM] at hlen
          have C5 := Lib.hid (fun W A2 c2 (hc2 : M ≤ c2) (r : RW W W.heap.size A2 (wds v)) => show Calls Try.prog 45 #[.slice A2 M c2] W (NatPost v W) from by
            have := rchecked_any A2 M c2 (wds v) W.heap.size W hM hc2 (by omega) (Nat.le_refl _) r
            rw [wds_val] at this; exact this)
          have HN := Lib.hid hN
          have HM := Lib.hid hM
          have hf1 : ¬ (32768 : Int) < (q : Int) := by omega
          clear hn hc hm h hl HZ h0 hp ht hz hf n1 hlen hN hM hv
          go_enter Try.func30, Try.ntmps30
          go_wp2_with fail
          refine c1.mono ?_
          rintro e w1 ⟨rfl, b1⟩
          go_wp2_with fail
          refine (C2.out _ b1).mono ?_
          rintro e w2 ⟨rfl, b2⟩
          have B2 := below_le b1 b2
          go_wp2_with fail
          refine (C3.out _ B2).mono ?_
          rintro e w3 ⟨v3, rfl, ⟨A3, c3, rfl, hc3, r3⟩, b3⟩
          rw [HN.out] at hc3 ⊢
          have B3 := below_le B2 b3
          have D4 := C4.out w3 A3 c3 hc3 r3
          clear C2 C3 C4 c1
          go_wp2_with fail
          refine D4.mono ?_
          rintro e w4 ⟨v4, rfl, ⟨A4, c4, rfl, hc4, r4⟩, b4⟩
          rw [HM.out] at hc4 ⊢
          have B4 := below_le B3 b4
          have D5 := C5.out w4 A4 c4 hc4 r4
          clear C5 D4
          go_wp2_with fail
          refine D5.mono ?_
          rintro e w5 hx
          obtain ⟨A5, n5, c5, k5, rfl, h3, h4⟩ := NatPost.from_ B4 hx
          have H3 := Lib.hid h3
          have H4 := Lib.hid h4
          clear h3 h4 hx D5
          go_wp2
          go_ret2
          exact ⟨A5, n5, c5, k5, rfl, H3.out, H4.out⟩
  · rw [hl] at c1
    rw [shlq_long hl]
    clear hn hc hm h hl C2 C3 HZ
    go_enter Try.func30, Try.ntmps30
    go_wp2_with fail
    refine c1.mono ?_
    rintro e w1 ⟨rfl, b1⟩
    go_wp2
    go_ret2
    exact ⟨rfl, b1⟩
end Go.Proofs.Ytclggnaljijjoaa
