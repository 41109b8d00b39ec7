/-
  Contract of Div of the reference.
-/
import Derived.Test.YtclggnaljijjoaaHalved
import Derived.Test.YtclggnaljijjoaaPDiv
namespace Go.Proofs.Ytclggnaljijjoaa
open Go.RowKit
set_option maxHeartbeats 1000000 in
theorem rdiv_ok (A C : Option Addr) (n c m d : Nat) (l k : List Nat) (w : World) (hn : l.length = n) (hc : n ≤ c) (hm : n ≤ 35184372087808) (h : RW w w.heap.size A l)
    (gn : k.length = m) (gc : m ≤ d) (gm : m ≤ 35184372087808) (g : RW w w.heap.size C k) (h1 : lngB (val l) = false) (h2 : lngB (val k) = false) (hk : 0 < val k) :
    Calls Try.prog 28 #[.slice A n c, .slice C m d] w (DivT (divQ (val l) (val k)) (divR (val l) (val k)) (divK (val l) (val k)) w) := by
  have c1 := rlong_any A n c l w.heap.size w hn hc (by omega) h
  have C2 := Lib.hid (fun W (hb : Below w.heap.size w W) => rlong_any C m d k W.heap.size W gn gc (by omega) (g.step hb))
  obtain ⟨bt, hbe⟩ : ∃ bt, btl k = bt := ⟨_, rfl⟩
  have hbt : bt ≠ 0 := fun e => by
    have := (btl_zero g.1).1 (by rw [hbe, e])
    rw [← val_nrm, this] at hk
    exact absurd hk (by simp [val])
  have C3 := Lib.hid (fun W (hb : Below w.heap.size w W) => show Calls Try.prog 19 #[.slice C m d] W fun e w' => e = .returned (.int .i64 (bt : Nat)) ∧ Below W.heap.size W w' from by
    have := rbits_any C m d k W.heap.size W gn gc (by omega) (g.step hb)
    rw [hbe] at this; exact this)
  have hb1 : ((bt : Int) == 0) = false := by simp; omega
  have hq : (lngB (val l) || lngB (val k)) = false := by rw [h1, h2]; rfl
  have n1 := lng_len h.1 h1
  have n2 := lng_len g.1 h2
  obtain ⟨N, hN⟩ : ∃ N, (nrm l).length = N := ⟨_, rfl⟩
  obtain ⟨M, hM⟩ : ∃ M, (nrm k).length = M := ⟨_, rfl⟩
  rw [hN] at n1
  rw [hM] at n2
  have C4 := Lib.hid (fun W (hb : Below w.heap.size w W) => rnormT A n c l N W hn hc (by omega) (h.step hb) hN)
  have C5 := Lib.hid (fun W (hb : Below w.heap.size w W) => rnormT C m d k M W gn gc (by omega) (g.step hb) hM)
  have C6 := Lib.hid (fun W A2 C2 c2 d2 (r2 : RW W W.heap.size A2 (nrm l)) (r3 : RW W W.heap.size C2 (nrm k)) => halved_any A2 C2 N c2 M d2 (nrm l) (nrm k) W hN n1 r2 hM n2 r3 (nrm_nrm k) (by rw [val_nrm]; exact hk))
  rw [val_nrm, val_nrm] at C6
  have HOK := Lib.hid (fun (w' : World) A2 n2 c2 C2 m2 d2 h3 h4 h5 h6 h7 h8 h9 => DivT.ok (w := w) (w' := w') (A := A2) (C := C2) (n := n2) (c := c2) (m := m2) (d := d2) hq hk h3 h4 h5 h6 h7 h8 h9)
  rw [h1] at c1
  rw [h2] at C2
  clear hn hc hm h gn gc gm g h1 h2 hk hq n1 n2 hN hM hbe hbt
  go_enter Try.func28, Try.ntmps28
  go_wp2_with fail
  refine c1.mono ?_
  rintro e w1 ⟨rfl, b1⟩
  go_wp2_with fail
  refine (C2.out _ b1).mono ?_
  rintro e w2 ⟨rfl, b2⟩
  have B2 := below_le b1 b2
  go_wp2_with fail
  refine (C3.out _ B2).mono ?_
  rintro e w3 ⟨rfl, b3⟩
  have B3 := below_le B2 b3
  go_wp2_with fail
  refine (C4.out _ B3).mono ?_
  rintro e w4 ⟨A4, c4, rfl, ⟨hc4, r4⟩, b4⟩
  have B4 := below_le B3 b4
  go_wp2_with fail
  refine (C5.out _ B4).mono ?_
  rintro e w5 ⟨A5, c5, rfl, ⟨hc5, r5⟩, b5⟩
  have B5 := below_le B4 b5
  have D6 := C6.out _ A4 A5 c4 c5 (r4.step b5) r5
  clear r4 r5 hc4 hc5 c1 C2 C3 C4 C5 C6
  go_wp2_with fail
  refine D6.mono ?_
  rintro e w6 ⟨A6, n6, c6, C6, m6, d6, rfl, ⟨g1, g2, g3, g4, g5, g6⟩, b6⟩
  have HF := Lib.hid (HOK.out w6 A6 n6 c6 C6 m6 d6 g1 g2 g3 g4 g5 g6 (below_le B5 b6))
  clear g1 g2 g3 g4 g5 g6 D6
  go_wp2
  (try simp only [Exit.inBlock, Exit.then])
  refine bodyPost_ret (results_tmp3 rfl _ _ _) rfl ?_
  exact HF.out
set_option maxHeartbeats 1000000 in
theorem rdiv_any (A C : Option Addr) (n c m d : Nat) (l k : List Nat) (w : World) (hn : l.length = n) (hc : n ≤ c) (hm : n ≤ 35184372087808) (h : RW w w.heap.size A l)
    (gn : k.length = m) (gc : m ≤ d) (gm : m ≤ 35184372087808) (g : RW w w.heap.size C k) :
    Calls Try.prog 28 #[.slice A n c, .slice C m d] w (DivT (divQ (val l) (val k)) (divR (val l) (val k)) (divK (val l) (val k)) w) := by
  have c1 := rlong_any A n c l w.heap.size w hn hc (by omega) h
  have C2 := Lib.hid (fun W (hb : Below w.heap.size w W) => rlong_any C m d k W.heap.size W gn gc (by omega) (g.step hb))
  have C3 := Lib.hid (fun W (hb : Below w.heap.size w W) => rbits_any C m d k W.heap.size W gn gc (by omega) (g.step hb))
  cases h1 : lngB (val l)
  · cases h2 : lngB (val k)
    · rcases Nat.eq_zero_or_pos (val k) with h3 | h3
      · have hq : (lngB (val l) || lngB (val k)) = false := by rw [h1, h2]; rfl
        have HZ := Lib.hid (fun (w' : World) hb => DivT.zero (w := w) (w' := w') hq h3 hb)
        rw [(btl_zero g.1).2 (nrm_val_zero h3)] at C3
        rw [h1] at c1
        rw [h2] at C2
        clear hn hc hm h gn gc gm g h1 h2 h3 hq
        go_enter Try.func28, Try.ntmps28
        go_wp2_with fail
        refine c1.mono ?_
        rintro e w1 ⟨rfl, b1⟩
        go_wp2_with fail
        refine (C2.out _ b1).mono ?_
        rintro e w2 ⟨rfl, b2⟩
        have B2 := below_le b1 b2
        go_wp2_with fail
        refine (C3.out _ B2).mono ?_
        rintro e w3 ⟨rfl, b3⟩
        have HF := Lib.hid (HZ.out w3 (below_le B2 b3))
        go_wp2
        (try simp only [Exit.inBlock, Exit.then])
        refine bodyPost_ret (results_tmp3 rfl _ _ _) rfl ?_
        exact HF.out
      · exact rdiv_ok A C n c m d l k w hn hc hm h gn gc gm g h1 h2 h3
    · have hq : (lngB (val l) || lngB (val k)) = true := by rw [h1, h2]; rfl
      have HZ := Lib.hid (fun (w' : World) hb => DivT.long (w := w) (w' := w') hq hb)
      rw [h1] at c1
      rw [h2] at C2
      clear hn hc hm h gn gc gm g h1 h2 hq C3
      go_enter Try.func28, Try.ntmps28
      go_wp2_with fail
      refine c1.mono ?_
      rintro e w1 ⟨rfl, b1⟩
      go_wp2_with fail
      refine (C2.out _ b1).mono ?_
      rintro e w2 ⟨rfl, b2⟩
      have HF := Lib.hid (HZ.out w2 (below_le b1 b2))
      go_wp2
      (try simp only [Exit.inBlock, Exit.then])
      refine bodyPost_ret (results_tmp3 rfl _ _ _) rfl ?_
      exact HF.out
  · have hq : (lngB (val l) || lngB (val k)) = true := by rw [h1]; rfl
    have HZ := Lib.hid (fun (w' : World) hb => DivT.long (w := w) (w' := w') hq hb)
    rw [h1] at c1
    clear hn hc hm h gn gc gm g h1 hq C2 C3
    go_enter Try.func28, Try.ntmps28
    go_wp2_with fail
    refine c1.mono ?_
    rintro e w1 ⟨rfl, b1⟩
    have HF := Lib.hid (HZ.out w1 b1)
    go_wp2
    (try simp only [Exit.inBlock, Exit.then])
    refine bodyPost_ret (results_tmp3 rfl _ _ _) rfl ?_
    exact HF.out
end Go.Proofs.Ytclggnaljijjoaa
