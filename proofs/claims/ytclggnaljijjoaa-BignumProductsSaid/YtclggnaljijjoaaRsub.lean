/-
  Contract of Sub of the reference; what a natural and an errno are, put as a list and a code.
-/
import Derived.Test.YtclggnaljijjoaaLess
import Derived.Test.YtclggnaljijjoaaLaw1
namespace Go.Proofs.Ytclggnaljijjoaa
open Go.RowKit
theorem lng_mono {v u : Nat} (h : u ≤ v) (hv : lngB v = false) : lngB u = false := by
  unfold lngB at hv ⊢
  have h1 := of_decide_eq_false hv
  have h2 := wds_len_lt (n := u) (k := (wds v).length) (Nat.lt_of_le_of_lt h (wds_lt v))
  exact decide_eq_false (by omega)
theorem wds_mono {v u : Nat} (h : u ≤ v) : (wds u).length ≤ (wds v).length := wds_len_lt (Nat.lt_of_le_of_lt h (wds_lt v))
set_option maxHeartbeats 1000000 in
theorem rsub_ok (A C : Option Addr) (n c m d : Nat) (l k : List Nat) (w : World) (hn : l.length = n) (hc : n ≤ c) (hm : n ≤ 35184372087808) (h : RW w w.heap.size A l)
    (gn : k.length = m) (gc : m ≤ d) (gm : m ≤ 35184372087808) (g : RW w w.heap.size C k) (h1 : lngB (val l) = false) (h2 : lngB (val k) = false) (hle : val k ≤ val l) :
    Calls Try.prog 24 #[.slice A n c, .slice C m d] w (NatPost (val l - val k) w) := by
  have c1 := rlong_any A n c l w.heap.size w hn hc (by omega) h
  have C2 := Lib.hid (fun W (hb : Below w.heap.size w W) => rlong_any C m d k W.heap.size W gn gc (by omega) (g.step hb))
  have C3 := Lib.hid (fun W (hb : Below w.heap.size w W) => rcmp_any A C n c m d l k W.heap.size W.heap.size W hn (by omega) (h.step hb) gn (by omega) (g.step hb))
  obtain ⟨N, hN⟩ : ∃ N, (nrm l).length = N := ⟨_, rfl⟩
  obtain ⟨M, hM⟩ : ∃ M, (nrm k).length = M := ⟨_, rfl⟩
  have hNn : N ≤ n := by rw [← hN, ← hn]; exact nrm_len l
  have hMN : M ≤ N := by
    rw [← hM, ← hN, nrm_wds h.1, nrm_wds g.1]; exact wds_mono hle
  have C4 := Lib.hid (fun W (hb : Below w.heap.size w W) => rnormT A n c l N W hn hc (by omega) (h.step hb) hN)
  have C5 := Lib.hid (fun W (hb : Below w.heap.size w W) => rnormT C m d k M W gn gc (by omega) (g.step hb) hM)
  have C6 := Lib.hid (fun W A2 C2 c2 d2 (r2 : RW W W.heap.size A2 (nrm l)) (r3 : RW W W.heap.size C2 (nrm k)) => less_any A2 C2 N c2 M d2 (nrm l) (nrm k) W hN (by omega) r2 hM hMN r3 (by rw [val_nrm, val_nrm]; exact hle))
  rw [val_nrm, val_nrm] at C6
  have hord : ord l k = 0 ∨ ord l k = 1 := by
    rcases Nat.lt_or_ge (val k) (val l) with h1 | h1
    · exact .inr (ord_gt h1)
    · exact .inl (ord_eq (by omega))
  have HNL := Lib.hid (lng_mono (Nat.sub_le (val l) (val k)) h1)
  obtain ⟨v, hv⟩ : ∃ v, val l - val k = v := ⟨_, rfl⟩
  rw [hv] at C6 HNL ⊢
  rw [h1] at c1
  rw [h2] at C2
  obtain ⟨o, ho⟩ : ∃ o, ord l k = o := ⟨_, rfl⟩
  rw [ho] at C3 hord
  clear hn hc hm h gn gc gm g h1 h2 hle hv hN hM hNn hMN ho
  rcases hord with rfl | rfl
  all_goals
    go_enter Try.func24, Try.ntmps24
    go_wp2_with fail
    refine c1.mono ?_
    rintro e w1 ⟨rfl, b1⟩
    go_wp2_with fail
    refine (C2.out _ b1).mono ?_
    rintro e w2 ⟨rfl, b2⟩
    have B2 := below_le b1 b2
    go_wp2_with fail
    refine (C3.out _ B2).mono ?_
    rintro e w' ⟨rfl, rfl⟩
    go_wp2_with fail
    refine (C4.out _ B2).mono ?_
    rintro e w4 ⟨A4, c4, rfl, ⟨hc4, r4⟩, b4⟩
    have B4 := below_le B2 b4
    go_wp2_with fail
    refine (C5.out _ B4).mono ?_
    rintro e w5 ⟨A5, c5, rfl, ⟨hc5, r5⟩, b5⟩
    have B5 := below_le B4 b5
    have D6 := C6.out _ A4 A5 c4 c5 (r4.step b5) r5
    clear r4 r5 hc4 hc5 c1 C2 C3 C4 C5 C6
    go_wp2_with fail
    refine D6.mono ?_
    rintro e w6 ⟨v6, rfl, ⟨A6, c6, rfl, hc6, r6⟩, b6⟩
    have H6 := Lib.hid r6
    have HC6 := Lib.hid hc6
    clear r6 hc6 D6
    go_wp2
    go_ret2
    exact NatPost.ok HNL.out rfl HC6.out H6.out (below_le B5 b6)
set_option maxHeartbeats 1000000 in
theorem rsub_any (A C : Option Addr) (n c m d : Nat) (l k : List Nat) (w : World) (hn : l.length = n) (hc : n ≤ c) (hm : n ≤ 35184372087808) (h : RW w w.heap.size A l)
    (gn : k.length = m) (gc : m ≤ d) (gm : m ≤ 35184372087808) (g : RW w w.heap.size C k) :
    Calls Try.prog 24 #[.slice A n c, .slice C m d] w (SubP (val l) (val k) w) := by
  have c1 := rlong_any A n c l w.heap.size w hn hc (by omega) h
  have C2 := Lib.hid (fun W (hb : Below w.heap.size w W) => rlong_any C m d k W.heap.size W gn gc (by omega) (g.step hb))
  have C3 := Lib.hid (fun W (hb : Below w.heap.size w W) => rcmp_any A C n c m d l k W.heap.size W.heap.size W hn (by omega) (h.step hb) gn (by omega) (g.step hb))
  cases h1 : lngB (val l)
  · cases h2 : lngB (val k)
    · have hq : (lngB (val l) || lngB (val k)) = false := by rw [h1, h2]; rfl
      by_cases hlt : val l < val k
      · rw [h1] at c1
        rw [h2] at C2
        rw [ord_lt hlt] at C3
        suffices hs : Calls Try.prog 24 #[.slice A n c, .slice C m d] w (ErrPost 1 w) from hs.mono fun e w' x => by
          unfold SubP; rw [if_neg (by rw [hq]; simp), if_pos hlt]; exact x
        clear hn hc hm h gn gc gm g h1 h2 hq hlt
        go_enter Try.func24, Try.ntmps24
        go_wp2_with fail
        refine c1.mono ?_
        rintro e w1 ⟨rfl, b1⟩
        go_wp2_with fail
        refine (C2.out _ b1).mono ?_
        rintro e w2 ⟨rfl, b2⟩
        have B2 := below_le b1 b2
        go_wp2_with fail
        refine (C3.out _ B2).mono ?_
        rintro e w' ⟨rfl, rfl⟩
        go_wp2
        go_ret2
        exact ⟨rfl, B2⟩
      · exact (rsub_ok A C n c m d l k w hn hc hm h gn gc gm g h1 h2 (by omega)).mono fun e w' x => by
          unfold SubP; rw [if_neg (by rw [hq]; simp), if_neg hlt]; exact x
    · have hq : (lngB (val l) || lngB (val k)) = true := by rw [h1, h2]; rfl
      rw [h1] at c1
      rw [h2] at C2
      suffices hs : Calls Try.prog 24 #[.slice A n c, .slice C m d] w (ErrPost 3 w) from hs.mono fun e w' x => by
        unfold SubP; rw [if_pos hq]; exact x
      clear hn hc hm h gn gc gm g h1 h2 hq C3
      go_enter Try.func24, Try.ntmps24
      go_wp2_with fail
      refine c1.mono ?_
      rintro e w1 ⟨rfl, b1⟩
      go_wp2_with fail
      refine (C2.out _ b1).mono ?_
      rintro e w2 ⟨rfl, b2⟩
      go_wp2
      go_ret2
      exact ⟨rfl, below_le b1 b2⟩
  · have hq : (lngB (val l) || lngB (val k)) = true := by rw [h1]; rfl
    rw [h1] at c1
    suffices hs : Calls Try.prog 24 #[.slice A n c, .slice C m d] w (ErrPost 3 w) from hs.mono fun e w' x => by
      unfold SubP; rw [if_pos hq]; exact x
    clear hn hc hm h gn gc gm g h1 hq C2 C3
    go_enter Try.func24, Try.ntmps24
    go_wp2_with fail
    refine c1.mono ?_
    rintro e w1 ⟨rfl, b1⟩
    go_wp2
    go_ret2
    exact ⟨rfl, b1⟩
/-- A call that tells the n words L, and a code. -/
def Two (L : List Nat) (n k : Nat) (w : World) (e : Ending) (w' : World) : Prop := ∃ A c, e = .returned (.tuple #[.slice A n c, .int .i64 (k : Nat)]) ∧ (n ≤ c ∧ RW w' w'.heap.size A L) ∧ Below w.heap.size w w'
def natL (v : Nat) : List Nat := if lngB v = true then [] else wds v
def natK (v : Nat) : Nat := if lngB v = true then 3 else 0
theorem ErrPost.two {k : Nat} {w w' : World} {e : Ending} (h : ErrPost k w e w') : Two [] 0 k w e w' := ⟨none, 0, h.1, ⟨Nat.le_refl _, RW.nil _ _ _⟩, h.2⟩
theorem NatPost.two {v : Nat} {w w' : World} {e : Ending} (h : NatPost v w e w') : Two (natL v) (natL v).length (natK v) w e w' := by
  obtain ⟨A, n, c, k, h1, h2, h3⟩ := h
  unfold natL natK
  by_cases hl : lngB v = true
  · rw [if_pos hl] at h2
    obtain ⟨rfl, rfl, rfl, rfl⟩ := h2
    rw [if_pos hl, if_pos hl]
    exact ⟨none, 0, h1, ⟨Nat.le_refl _, RW.nil _ _ _⟩, h3⟩
  · rw [if_neg hl] at h2
    obtain ⟨rfl, h4, rfl, h5⟩ := h2
    rw [if_neg hl, if_neg hl]
    exact ⟨A, c, h1, ⟨h4, h5⟩, h3⟩
theorem natL_len (v : Nat) : (natL v).length ≤ 1024 := by
  unfold natL
  split
  · simp
  · next h => exact lng_le (by simpa using h)
def addL (v u : Nat) : List Nat := if (lngB v || lngB u) = true then [] else natL (v + u)
def addK (v u : Nat) : Nat := if (lngB v || lngB u) = true then 3 else natK (v + u)
theorem AddP.two {v u : Nat} {w w' : World} {e : Ending} (h : AddP v u w e w') : Two (addL v u) (addL v u).length (addK v u) w e w' := by
  unfold AddP at h
  unfold addL addK
  by_cases hl : (lngB v || lngB u) = true
  · rw [if_pos hl] at h ⊢; rw [if_pos hl]; exact h.two
  · rw [if_neg hl] at h ⊢; rw [if_neg hl]; exact h.two
theorem addL_len (v u : Nat) : (addL v u).length ≤ 1024 := by
  unfold addL; split
  · simp
  · exact natL_len _
def subL (v u : Nat) : List Nat := if (lngB v || lngB u) = true then [] else if v < u then [] else natL (v - u)
def subK (v u : Nat) : Nat := if (lngB v || lngB u) = true then 3 else if v < u then 1 else natK (v - u)
theorem SubP.two {v u : Nat} {w w' : World} {e : Ending} (h : SubP v u w e w') : Two (subL v u) (subL v u).length (subK v u) w e w' := by
  unfold SubP at h
  unfold subL subK
  by_cases hl : (lngB v || lngB u) = true
  · rw [if_pos hl] at h ⊢; rw [if_pos hl]; exact h.two
  · rw [if_neg hl] at h ⊢; rw [if_neg hl]
    by_cases hv : v < u
    · rw [if_pos hv] at h ⊢; rw [if_pos hv]; exact h.two
    · rw [if_neg hv] at h ⊢; rw [if_neg hv]; exact h.two
theorem subL_len (v u : Nat) : (subL v u).length ≤ 1024 := by
  unfold subL; split
  · simp
  · split
    · simp
    · exact natL_len _
end Go.Proofs.Ytclggnaljijjoaa
