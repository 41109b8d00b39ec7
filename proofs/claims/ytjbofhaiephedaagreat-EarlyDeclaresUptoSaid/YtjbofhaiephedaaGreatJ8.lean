/-
  The program's iterator over a tree's nodes.
-/
import Derived.Test.YtjbofhaiephedaaGreatJ7
namespace Go.Proofs.YtjbofhaiephedaaGreat
open Go.RowKit Go.Shelf
attribute [local go_sem] Oper.semAt_some
attribute [local go_sem] stFl
theorem flat_idx : ∀ {L : List (List Tn)} {i j : Nat} {l : List Tn} {x : Tn}, L[i]? = some l → l[j]? = some x → L.flatten[(L.take i).flatten.length + j]? = some x
  | [], i, j, l, x, h, _ => by simp at h
  | a :: L, 0, j, l, x, h, hx => by
    obtain rfl : a = l := by simpa using h
    have hj := (List.getElem?_eq_some_iff.1 hx).1
    simp only [List.take_zero, List.flatten_nil, List.length_nil, Nat.zero_add, List.flatten_cons]
    rw [List.getElem?_append_left hj]
    exact hx
  | a :: L, i + 1, j, l, x, h, hx => by
    have := flat_idx (L := L) (i := i) (by simpa using h) hx
    simp only [List.take_succ_cons, List.flatten_cons, List.length_append]
    rw [List.getElem?_append_right (by omega), show a.length + (L.take i).flatten.length + j - a.length = (L.take i).flatten.length + j by omega]
    exact this
theorem all_idx {t : Tn} {k q : Nat} {x : Tn} (h : (Tr.lev t k).flatten[q]? = some x) : ∀ {D : Nat}, k < D → (Tr.all t D)[Tr.szs t k + q]? = some x
  | 0, hk => by omega
  | D + 1, hk => by
    have hq := (List.getElem?_eq_some_iff.1 h).1
    rw [Tr.all]
    by_cases he : k = D
    · subst he
      rw [List.getElem?_append_right (by rw [Tr.all_len]; omega), Tr.all_len, show Tr.szs t k + q - Tr.szs t k = q by omega]
      exact h
    · have := all_idx h (D := D) (by omega)
      have hl := (List.getElem?_eq_some_iff.1 this).1
      rw [List.getElem?_append_left hl]
      exact this
/-- The k-th item of the nodes of t. -/
def NodX (n : Nat) (t : Tn) (s k : Nat) (W : World) (v : Value) : Prop :=
  ∃ x sl q, (Tr.all t t.depth)[k]? = some x ∧ v = nodV x.datum sl ∧ s ≤ q ∧ AtS (blk n q) W x.kids sl
theorem nodX_keep {n s k : Nat} {t : Tn} {A B : World} {v : Value} (h : NodX n t s k A v) (hk : Kp n s A B) : NodX n t s k B v := by
  obtain ⟨x, sl, q, h1, h2, h3, h4⟩ := h
  exact ⟨x, sl, q, h1, h2, h3, h4.keep (fun b hb hl => hk.same b hl (hb.imp id fun e => by omega))⟩
/-- So many nodes have been told; where yield lies. -/
structure NB (S l : Nat) (J : Nat → World → Prop) (k : Nat) (w : World) : Prop where
  j : J k w
  y : w.heap[S]? = some (.cells #[.func (.yield l) #[] #[]] 30 (0, 0))
set_option maxRecDepth 100000 in
set_option maxHeartbeats 2000000 in
theorem nodes1_in (n : Nat) (t : Tn) (l Bn : Nat) (J Jx : Nat → World → Prop) (W : World) (cs : List Value) (hn : n ≤ W.heap.size)
    (hc : W.heap[Bn]? = some (.cells cs.toArray 25 (0, 0))) (ht : At (fun b => b < n) W t cs)
    (hJ : ∀ k A B, J k A → W.heap.size ≤ A.heap.size → Below W.heap.size A B → J k B) (hJx : ∀ k A B, Jx k A → W.heap.size ≤ A.heap.size → Below W.heap.size A B → Jx k B)
    (hY : ∀ k W1 v, k < (Tr.all t t.depth).length → J k W1 → W.heap.size ≤ W1.heap.size → NodX n t W.heap.size k W1 v → YieldAt Fence.wide 0 Tryz.prog l #[v] W1 fun e W' =>
      (e = .returned (.bool true) ∧ J (k + 1) W' ∧ Kp n W.heap.size W1 W') ∨ (e = .returned (.bool false) ∧ Jx k W' ∧ Kp n W.heap.size W1 W'))
    (h0 : J 0 W) (h24 : t.size ≤ 4398046511103) :
    CallsIn Fence.wide 0 Tryz.prog 49 #[.func (.yield l) #[] #[], .pointer (some ⟨Bn, 0, none⟩)] W fun e W' => (∃ v, e = .returned v) ∧ (J (Tr.all t t.depth).length W' ∨ ∃ k, k < (Tr.all t t.depth).length ∧ Jx k W') := by
  refine callsIn_of_wp_marks Tryz.func49 rfl trivial ?_ rfl
  simp only [Tryz.ntmps49, List.size_toArray, List.length_cons, List.length_nil, Nat.reduceAdd, Nat.reduceSub, Array.replicate_succ, Array.replicate_zero, List.push_toArray, List.append_toArray, List.nil_append, List.cons_append]
  obtain ⟨s, rfl, hS⟩ := at_parts ht
  obtain ⟨A6, c6, rfl, -, -⟩ := hS
  have CL := Lib.hid (fun W => levels_any t.datum (.slice A6 t.kids.length c6) W)
  unfold nodV celN at CL
  generalize Tr.datum t = d at *
  have hBl := cell_lt' hc
  obtain ⟨w1, hw1⟩ : ∃ w1, W.alloc (.cells #[.func (.yield l) #[] #[]] 30) = w1 := ⟨_, rfl⟩
  have z1 : w1.heap.size = W.heap.size + 1 := by rw [← hw1]; simp
  have b1 : Below W.heap.size W w1 := by rw [← hw1]; exact (Below.refl _ _).alloc (Nat.le_refl _) _
  have hc1 := (b1.block Bn hBl).trans hc
  have c0 : w1.cell? ⟨Bn, 0, none⟩ = some (.int .i64 d.k) := by simp [World.cell?, hc1, celN]
  have c1 : w1.cell? ⟨Bn, 1, none⟩ = some (.string d.op) := by simp [World.cell?, hc1, celN]
  have c2 : w1.cell? ⟨Bn, 2, none⟩ = some (.string d.st) := by simp [World.cell?, hc1, celN]
  have c3 : w1.cell? ⟨Bn, 3, none⟩ = some (.float .f64 d.nm) := by simp [World.cell?, hc1, celN]
  have c4 : w1.cell? ⟨Bn, 4, none⟩ = some (.bool d.fl) := by simp [World.cell?, hc1, celN]
  have c5 : w1.cell? ⟨Bn, 5, none⟩ = some (.slice A6 t.kids.length c6) := by simp [World.cell?, hc1, celN]
  have c6' : w1.cell? ⟨Bn, 6, none⟩ = some (.int .i64 d.ps) := by simp [World.cell?, hc1, celN]
  clear b1 z1 hc1
  subst hw1
  gi_wp2
  obtain ⟨w1, hw1⟩ : ∃ w1, W.alloc (.cells #[.func (.yield l) #[] #[]] 30) = w1 := ⟨_, rfl⟩
  rw [hw1]
  refine ⟨trivial, rfl, (callsIn_wide.2 (CL.out _)).mono ?_⟩
  rintro e w2 ⟨rfl, hq2⟩
  have hw2 := hq2.symm
  clear hq2 c0 c1 c2 c3 c4 c5 c6'
  have z1 : w1.heap.size = W.heap.size + 1 := by rw [← hw1]; simp
  have z2 : w2.heap.size = W.heap.size + 2 := by rw [← hw2]; simp [z1]
  have b1 : Below W.heap.size W w1 := by rw [← hw1]; exact (Below.refl _ _).alloc (Nat.le_refl _) _
  have b2 : Below (W.heap.size + 1) w1 w2 := by rw [← hw2, ← z1]; exact (Below.refl _ _).alloc (Nat.le_refl _) _
  have bw : Below W.heap.size W w2 := b1.trans (b2.mono (by omega))
  have hit := levels_itr (n := n) (Bn := w1.heap.size) (t := t) (w := w2) (by omega) (by rw [← hw2]; exact World.alloc_heap_new _ _) (At.keep (Same.below (bw.mono hn)) _ _ ht) h24
  have hI0 : NB W.heap.size l J (Tr.szs t 0) w2 := ⟨hJ _ _ _ h0 (Nat.le_refl _) bw, by rw [b2.block _ (by omega), ← hw1]; exact World.alloc_heap_new _ _⟩
  have hlen : (Tr.all t t.depth).length = Tr.szs t t.depth := Tr.all_len t _
  clear hw1 hw2 b1 b2 bw CL ht hc h0
  rw [z1] at hit
  rw [z1]
  clear z1
  gi_wp2
  refine wp_range (gf := 79) (lb := #[.pointer (some ⟨W.heap.size + 1, 0, none⟩)]) rfl (enters_of Tryz.func79 (by kernel_rfl) rfl) hit (Below.refl _ _) (by omega) (fun k A B v h hk => levX_keep h hk)
    (fun k => NB W.heap.size l J (Tr.szs t k)) (fun c _ W' => c = .ret ∧ ∃ k, k < (Tr.all t t.depth).length ∧ Jx k W')
    (fun k A B h hs hb => ⟨hJ _ _ _ h.j (by omega) (hb.mono (by omega)), (hb.block _ (by omega)).trans h.y⟩) (fun c k A B h hs hb => ⟨h.1, by obtain ⟨q, h1, h2⟩ := h.2; exact ⟨q, h1, hJx _ _ _ h2 (by omega) (hb.mono (by omega))⟩⟩) hI0
    (fun v => { tmps := #[.func (.yield l) #[] #[], .pointer (some ⟨Bn, 0, none⟩), .pointer (some ⟨W.heap.size, 0, none⟩), v, undef, undef, undef, undef, .agg #[.int .i64 d.k, .string d.op, .string d.st, .float .f64 d.nm, .bool d.fl, .slice A6 t.kids.length c6, .int .i64 d.ps],
      .func (.func 79) #[] #[.pointer (some ⟨W.heap.size + 1, 0, none⟩)], v, undef, undef, undef, undef, undef, undef, undef, undef, undef, undef, undef, undef, undef, undef, undef, undef, undef, undef], defers := [] }) ?assign ?body ?done ?stop
  case assign =>
    intro l v W K hK
    gi_wp2
    exact hK
  case body =>
    rintro l1 k v W1 hk hI hsz ⟨g, cap, cur, q, rfl, h2, h3, h4, h5, h6⟩
    obtain ⟨S, hS⟩ : ∃ S, W.heap.size = S := ⟨_, rfl⟩
    obtain ⟨S2, hS2⟩ : ∃ S, w2.heap.size = S := ⟨_, rfl⟩
    rw [hS2] at hsz h2 h5 ⊢
    rw [hS] at hI hJ hJx hY hn
    rw [hS]
    rw [hS, hS2] at z2
    clear hit hI0 hS hS2 hJx
    have hI' : NB S l J (Tr.szs t k + ((Tr.lev t k).take 0).flatten.length) W1 := by simpa using hI
    gi_wp2
    gi_loopw [13] (fun i wr => ∃ i0 : Nat, i = .int .i64 i0 ∧ i0 ≤ (Tr.lev t k).length ∧ NB S l J (Tr.szs t k + ((Tr.lev t k).take i0).flatten.length) wr ∧ Kp n S2 W1 wr) (fun i _ => (Tr.lev t k).length - (intOf i).toNat)
    case atStart => exact ⟨0, rfl, Nat.zero_le _, hI', Kp.refl _ _ _⟩
    case round =>
      obtain ⟨i0, rfl, hi0, hN, hK⟩ := hrel
      clear hI hI'
      by_cases hi : i0 < (Tr.lev t k).length
      · obtain ⟨li, hli⟩ : ∃ li, (Tr.lev t k)[i0]? = some li := ⟨_, List.getElem?_eq_getElem hi⟩
        obtain ⟨si, hs1, ⟨A, c, rfl, hmx, hnn⟩⟩ := h6.2 i0 li hli
        obtain ⟨b, o, rfl, -, -⟩ := hnn (Tr.lev_full t k li (List.mem_of_getElem? hli))
        have hcell : wr.cell? ⟨g, i0, none⟩ = some (.slice (some ⟨b, o, none⟩) li.length c) := by
          have hs2 := hs1
          rw [List.getElem?_take_of_lt hi] at hs2
          exact (cell_of_row wr g i0 _ _ _ ((hK.same g (cell_lt' h3) (.inr (by omega))).trans h3)).trans (by simpa using hs2)
        have hwi := wrap_succ (j := i0) (by unfold maxLen at h4 ⊢; omega)
        have hft := Lib.hid (flat_take hli)
        have hN' : NB S l J (Tr.szs t k + ((Tr.lev t k).take i0).flatten.length + 0) wr := hN
        gi_wp2
        gi_loopw [19] (fun j w4 => ∃ j0 : Nat, j = .int .i64 j0 ∧ j0 ≤ li.length ∧ NB S l J (Tr.szs t k + ((Tr.lev t k).take i0).flatten.length + j0) w4 ∧ Kp n S2 W1 w4) (fun j _ => li.length - (intOf j).toNat)
        case atStart => exact ⟨0, rfl, Nat.zero_le _, hN', hK⟩
        case round =>
          clear hN hN' hK hcell
          obtain ⟨j0, rfl, hj0, hN, hK⟩ := hrel
          by_cases hj : j0 < li.length
          · obtain ⟨x, hx⟩ : ∃ x, li[j0]? = some x := ⟨_, List.getElem?_eq_getElem hj⟩
            have hsm : Same (blk n q) W1 wr := fun b hb hl => hK.same b hl (hb.imp id fun e => by omega)
            obtain ⟨si, hs2, hs3⟩ := (h6.keep hsm).2 i0 li hli
            obtain rfl := Option.some.inj (hs1.symm.trans hs2)
            obtain ⟨b', o', s6, e1, -, -, hr, hk6⟩ := hs3.nth hx
            have hk7 := hk6
            obtain ⟨A6', c6', rfl, hm6, -⟩ := hk7
            cases e1
            clear hs2 hs3
            have k0 : wr.cell? ⟨b, o + j0 * 7, none⟩ = some (.int .i64 x.datum.k) := hr 0 _ rfl
            have k1 := hr 1 _ rfl
            have k2 := hr 2 _ rfl
            have k3 := hr 3 _ rfl
            have k4 := hr 4 _ rfl
            have k5 := hr 5 _ rfl
            have k6 := hr 6 _ rfl
            clear hr
            have hidx := all_idx (flat_idx hli hx) hk
            rw [← Nat.add_assoc] at hidx
            have hNj := Lib.hid hN
            have hSS : S ≤ wr.heap.size := by have := hK.size; omega
            have ba : ∀ X, Below wr.heap.size wr (wr.alloc X) := fun X => (Below.refl _ _).alloc (Nat.le_refl _) _
            obtain ⟨w4, hw4⟩ : ∃ w4, wr.alloc (.cells #[.int .i64 x.datum.k, .string x.datum.op, .string x.datum.st, .float .f64 x.datum.nm, .bool x.datum.fl, .slice A6' x.kids.length c6', .int .i64 x.datum.ps] 25) = w4 := ⟨_, rfl⟩
            have bw4 : Below wr.heap.size wr w4 := by rw [← hw4]; exact ba _
            obtain ⟨fn, tmps, assign, body, hy, hR⟩ := hY _ w4 (nodV x.datum (.slice A6' x.kids.length c6')) (List.getElem?_eq_some_iff.1 hidx).1 (hJ _ _ _ hN.j hSS (bw4.mono hSS)) (by have := bw4.size; omega) ⟨x, _, q, hidx, rfl, by omega, hk6.keep (fun b _ hl => bw4.block b hl)⟩
            have hyc : w4.cell? ⟨S, 0, none⟩ = some (.func (.yield l) #[] #[]) := cell_of_row _ _ 0 _ _ _ ((bw4.block S (cell_lt' hN.y)).trans hN.y)
            have hy0 : wr.cell? ⟨S, 0, none⟩ = some (.func (.yield l) #[] #[]) := cell_of_row _ _ 0 _ _ _ hN.y
            have hy1 : S < wr.heap.size := cell_lt' hN.y
            have HY4 := Lib.hid ((bw4.block S (cell_lt' hN.y)).trans hN.y)
            have HK4 := Lib.hid (hK.trans (Kp.of_below bw4))
            unfold nodV at hy
            rw [← hw4] at hy hyc
            have HW4 := Lib.hid hw4
            clear hw4
            clear hN hK hk6 hsm ba
            gi_wp2
            rw [HW4.out]
            refine ⟨rfl, hR.mono ?_⟩
            clear hy hyc hR fn tmps assign body
            rintro e W3 (⟨rfl, hJ3, hk3⟩ | ⟨rfl, hJx3, hk3⟩)
            · have hwj := wrap_succ (j := j0) (by unfold maxLen at hmx ⊢; omega)
              have HN := Lib.hid (show NB S l J (Tr.szs t k + ((Tr.lev t k).take i0).flatten.length + (j0 + 1)) W3 from ⟨hJ3, (hk3.same S (cell_lt' HY4.out) (.inr (Nat.le_refl _))).trans HY4.out⟩)
              have HK := Lib.hid (HK4.out.trans (hk3.mono (Nat.le_refl _) (by omega)))
              clear hJ3 hk3
              gi_wp2
              refine ⟨⟨j0 + 1, congrArg _ hwj, hj, HN.out, HK.out⟩, ?_⟩
              rw [hwj]
              exact meas_dec hj
            · gi_wp2
              exact ⟨HK4.out.trans (hk3.mono (Nat.le_refl _) (by omega)), rfl, _, (List.getElem?_eq_some_iff.1 hidx).1, hJx3⟩
          · have hj1 : j0 = li.length := by omega
            have HN := Lib.hid (show NB S l J (Tr.szs t k + ((Tr.lev t k).take (i0 + 1)).flatten.length) wr by rw [hft.out, ← Nat.add_assoc, ← hj1]; exact hN)
            have HK := Lib.hid hK
            clear hN hK
            gi_wp2
            refine ⟨⟨i0 + 1, congrArg _ hwi, hi, HN.out, HK.out⟩, ?_⟩
            rw [hwi]
            exact meas_dec hi
      · have hi1 : i0 = (Tr.lev t k).length := by omega
        gi_wp2
        refine ⟨hK, ?_⟩
        have h9 := hN
        rw [hi1, List.take_length] at h9
        exact h9
  case done =>
    rintro D W' hD hI hd
    gi_wp2
    refine ⟨by simp, .inl ⟨_, _, rfl, run_takeDeferred hd, ?_⟩⟩
    refine ⟨_, by simp [results, Tryz.results49, go_sem]; rfl, ⟨_, rfl⟩, .inl ?_⟩
    rw [hlen]
    exact hJ _ _ _ hI.j (by have := cell_lt' hd; omega) (below_put _ _ (by omega))
  case stop =>
    rintro D c k W' hD hk ⟨rfl, q, hq, hX⟩ hd
    gi_wp2
    refine ⟨by simp, .inl ⟨_, _, rfl, run_takeDeferred hd, ?_⟩⟩
    exact ⟨_, by simp [results, Tryz.results49, go_sem]; rfl, ⟨_, rfl⟩, .inr ⟨q, hq, hJx _ _ _ hX (by have := cell_lt' hd; omega) (below_put _ _ (by omega))⟩⟩
end Go.Proofs.YtjbofhaiephedaaGreat
