/-
  Contracts of divideLong and of Div of the program. Contract of Div of the program.
-/
import Derived.Test.YtclggnaljijjoaaDivT
import Derived.Test.YtclggnaljijjoaaLaw1
namespace Go.Proofs.Ytclggnaljijjoaa
open Go.RowKit
/-- The shift by which the divisor's highest bit stands at its word's end. -/
theorem shift_top {b : List Nat} {N : Nat} (hb : Ws b) (hN : b.length = N + 1) (hnb : nrm b = b) : 0 < b.getD N 0 ∧ 0 < Lib.bitLen (b.getD N 0) ∧ Lib.bitLen (b.getD N 0) ≤ 32 ∧ b.getD N 0 < 2 ^ Lib.bitLen (b.getD N 0) := by
  have h0 : nrm b ≠ [] := by rw [hnb]; intro e; rw [e] at hN; simp at hN
  have h1 := nrm_last h0
  rw [hnb, hN, Nat.add_sub_cancel] at h1
  have h2 := hb.getD N
  have h3 := bitLen_le32 _ h2
  obtain ⟨b1, b2, b3⟩ := Lib.bitLenAux_bounds 64 (b.getD N 0) (by omega) h1
  exact ⟨by omega, b1, h3, b3⟩
theorem ShlP.exact {R : List Nat} {o : Nat} {a : List Nat} {s N : Nat} {S : List Nat} (h : ShlP R o a s (N + 1) S) (hn : a.length = N + 1) (ht : a.getD N 0 < 2 ^ (32 - s)) : val ((S.drop o).take (N + 1)) = 2 ^ s * val a := by
  have h4 := h.sum
  have e : carL a s (N + 1) = 0 := by
    unfold carL
    rw [if_neg (by omega), Nat.add_sub_cancel]
    exact Nat.div_eq_of_lt ht
  rw [e, Nat.mul_zero, Nat.add_zero, val_take_end (l := a) (by omega)] at h4
  exact h4
theorem top_pos {S : List Nat} {N : Nat} (hS : Ws S) (hl : S.length = N + 1) (hv : 4294967296 ^ N ≤ val S) : 0 < S.getD N 0 := by
  rcases Nat.eq_zero_or_pos (S.getD N 0) with h | h
  · have e := val_take_succ S N (by omega)
    rw [List.take_of_length_le (by omega), h, Nat.mul_zero, Nat.add_zero] at e
    have := val_lt (hS.take N)
    rw [List.length_take, Nat.min_eq_left (by omega)] at this
    omega
  · exact h
/-- What divideLong tells. -/
def LongPost (n M va vb : Nat) (w : World) (e : Ending) (w' : World) : Prop :=
  ∃ S T g1 g2, e = .returned (.tuple #[.slice (some ⟨g2, 0, none⟩) M M, .slice (some ⟨g1, 0, none⟩) (n + 1) (n + 1)]) ∧ Row w' g2 S ∧ Row w' g1 T ∧ S.length = M ∧ T.length = n + 1 ∧ Ws S ∧ Ws T ∧ val S = va / vb ∧ val T = va % vb ∧ Below w.heap.size w w'
set_option maxRecDepth 100000 in
set_option maxHeartbeats 1000000 in
theorem divideLong_any (A C : Option Addr) (n c m M N d : Nat) (a b : List Nat) (w : World) (hn : a.length = n) (hm : n ≤ 1024) (h : RW w w.heap.size A a)
    (gn : b.length = m) (gN : m = N + 1) (g : RW w w.heap.size C b) (hnb : nrm b = b) (hM : n + 1 = M + m) (hM0 : 0 < M) :
    Calls Try.prog 52 #[.slice A n c, .slice C m d] w (LongPost n M (val a) (val b) w) := by
  subst gN
  obtain ⟨t1, t2, t3, t4⟩ := shift_top g.1 gn hnb
  have h0 : nrm b ≠ [] := by rw [hnb]; intro e; rw [e] at gn; simp at gn
  have hge := val_ge h0
  rw [hnb, gn, Nat.add_sub_cancel] at hge
  obtain ⟨cb, coff, rfl, hcb, hcc⟩ := g.2 (by omega)
  have d1 := hcc N _ (getD_some (by omega))
  have htl := g.1.getD N
  obtain ⟨u, hu⟩ : ∃ u, b.getD N 0 = u := ⟨_, rfl⟩
  rw [hu] at d1 t1 t2 t3 t4 htl
  obtain ⟨L, hL⟩ : ∃ L, Lib.bitLen u = L := ⟨_, rfl⟩
  have C1 := Lib.hid (fun W => show Calls Try.prog 62 #[.int .u32 (u : Nat)] W fun e w' => e = .returned (.int .i64 (32 - (L : Int))) ∧ W = w' from by
    have := Try.bits_LeadingZeros32 (u : Int) W (by omega) (by omega)
    rw [Int.toNat_natCast, hL] at this; exact this.mono fun _ _ ⟨x, y⟩ => ⟨x, y.symm⟩)
  rw [hL] at t2 t3 t4
  obtain ⟨s, hs⟩ : ∃ s, 32 - L = s := ⟨_, rfl⟩
  have hs2 : 32 - (L : Int) = (s : Int) := by omega
  rw [hs2] at C1
  have hs32 : s < 32 := by omega
  have HT4 := Lib.hid (show b.getD N 0 < 2 ^ (32 - s) by rw [hu, show 32 - s = L by omega]; exact t4)
  have hN1 : (N : Int) ≤ 1024 := by omega
  have hn1 : (n : Int) ≤ 1024 := by omega
  have hM1 : (1 : Int) ≤ (M : Int) := by omega
  have hM2 : (M : Int) ≤ 1024 := by omega
  have HA := Lib.hid h
  have HB := Lib.hid g
  have HGB := Lib.hid (show (b.length = N + 1 ∧ a.length = n) from ⟨gn, hn⟩)
  have HGE := Lib.hid hge
  have HM := Lib.hid hM
  have HM0 := Lib.hid hM0
  have hm1 := run_make_row' (P := Try.prog) 22 40 (.int .u32 0) 4 Try.underlying22 infoW rfl .i64 .i64 (N + 1) (by omega) (by omega) w
  rw [show ((N + 1 : Nat) : Int) = (N : Int) + 1 by omega] at hm1
  have hm2 := fun W => run_make_row' (P := Try.prog) 22 40 (.int .u32 0) 4 Try.underlying22 infoW rfl .i64 .i64 (n + 1) (by omega) (by omega) W
  rw [show ((n + 1 : Nat) : Int) = (n : Int) + 1 by omega] at hm2
  have hm3 := fun W => run_make_row' (P := Try.prog) 22 40 (.int .u32 0) 4 Try.underlying22 infoW rfl .i64 .i64 M (by omega) (by omega) W
  have HM2 := Lib.hid hm2
  have HM3 := Lib.hid hm3
  have hMe0 : IntKind.i64.wrap ((n : Int) - ((N : Int) + 1)) = (n : Int) - ((N : Int) + 1) := IntWalk.i64_in _ (by omega)
  have hMe : IntKind.i64.wrap (((n : Int) - ((N : Int) + 1)) + 1) = (M : Int) := by rw [IntWalk.i64_in _ (by omega)]; omega
  have hR1 := Row.made w (N + 1)
  have hB1 : Below w.heap.size w (w.alloc (.cells (madeCells #[.int .u32 0] (N + 1)) 40)) := (Below.refl _ _).alloc (Nat.le_refl _) _
  have hz1 : (w.alloc (.cells (madeCells #[.int .u32 0] (N + 1)) 40)).heap.size = w.heap.size + 1 := by simp
  obtain ⟨w1, hw1⟩ : ∃ w1, w.alloc (.cells (madeCells #[.int .u32 0] (N + 1)) 40) = w1 := ⟨_, rfl⟩
  rw [hw1] at hR1 hB1 hz1 hm1
  have C2 := Lib.hid (shl_any w.heap.size 0 (N + 1) (N + 1) s (List.replicate (N + 1) 0) (some ⟨cb, coff, none⟩) (N + 1) d b w.heap.size w1 hR1 (Ws.zeros _) (by rw [List.length_replicate]; omega) gn (by omega) (by omega) (g.below hB1) (Nat.le_refl _) hs32)
  have HB1 := Lib.hid hB1
  have HZ1 := Lib.hid hz1
  clear t1 t2 t3 t4 hu hL hs hs2 htl hcc h g hn gn hge hM hM0 hnb h0 hm hm2 hm3 hR1 hB1 hz1 hw1
  go_enter Try.func52, Try.ntmps52
  go_wp2_with fail
  refine (C1.out _).mono ?_
  rintro e w' ⟨rfl, rfl⟩
  go_wp2_with fail
  refine C2.out.mono ?_
  rintro e w2 ⟨rfl, D, hD, hRD, hbD⟩
  have hB2 : Below w.heap.size w w2 := HB1.out.trans hbD
  have hg0 := hRD.lt
  have hDl : D.length = N + 1 := by rw [hD.len, List.length_replicate]
  have hDv : val D = 2 ^ s * val b := by
    have := hD.exact HGB.out.1 HT4.out
    rw [List.drop_zero, List.take_of_length_le (by omega)] at this
    exact this
  have hDw := hD.ws
  have hm2 := HM2.out w2
  have hR2 := Row.made w2 (n + 1)
  have hB3 : Below w.heap.size w (w2.alloc (.cells (madeCells #[.int .u32 0] (n + 1)) 40)) := hB2.alloc hB2.size _
  have hB23 : Below w2.heap.size w2 (w2.alloc (.cells (madeCells #[.int .u32 0] (n + 1)) 40)) := (Below.refl _ _).alloc (Nat.le_refl _) _
  have C3 := Lib.hid (shl_any w2.heap.size 0 (n + 1) (n + 1) s (List.replicate (n + 1) 0) A n c a w.heap.size _ hR2 (Ws.zeros _) (by rw [List.length_replicate]; omega) HGB.out.2 (by omega) (by omega) (HA.out.below hB3) hB2.size hs32)
  have HRD := Lib.hid (hRD.below hg0 hB23)
  have HD := Lib.hid (show D.length = N + 1 ∧ val D = 2 ^ s * val b ∧ Ws D from ⟨hDl, hDv, hDw⟩)
  have HB3 := Lib.hid hB3
  have HG0 := Lib.hid hg0
  clear hD hRD hbD hB2 hg0 hDl hDv hDw hR2 hB3 hB23 hm1 C1 C2
  go_wp2_with fail
  refine C3.out.mono ?_
  rintro e w4 ⟨rfl, R, hR, hRR, hbR⟩
  have hB4 : Below w.heap.size w w4 := HB3.out.trans (hbR.mono (Nat.le_of_lt HG0.out))
  have hg1 := hRR.lt
  have hRl : R.length = n + 1 := by rw [hR.len, List.length_replicate]
  have hRv : val R = 2 ^ s * val a := by
    have := hR.whole (by rw [HGB.out.2]; omega)
    rw [List.drop_zero, List.take_of_length_le (by omega)] at this
    exact this
  have hRw := hR.ws
  have hRD4 : Row w4 w.heap.size D := HRD.out.below HG0.out hbR
  have hm3 := HM3.out w4
  have hQ5 := Row.made w4 M
  have hB5 : Below w.heap.size w (w4.alloc (.cells (madeCells #[.int .u32 0] M) 40)) := hB4.alloc hB4.size _
  have hB45 : Below w4.heap.size w4 (w4.alloc (.cells (madeCells #[.int .u32 0] M) 40)) := (Below.refl _ _).alloc (Nat.le_refl _) _
  have HQ5 := Lib.hid hQ5
  have HR5 := Lib.hid (hRR.below hg1 hB45)
  have HD5 := Lib.hid (hRD4.below (Nat.lt_trans HG0.out hg1) hB45)
  have HB5 := Lib.hid hB5
  have HG1 := Lib.hid hg1
  have hlong := LongT.start (va := val a) (vb := val b) (s := s) (la := n) (n := N + 1) (M := M) hRw (by rw [hRl]; exact HM.out) HM.out (by omega) (by have := val_lt HA.out.1; rw [HGB.out.2] at this; exact this) (by rw [Nat.add_sub_cancel]; exact HGE.out) hRv
  have HLONG := Lib.hid hlong
  have hDp : 0 < val b := Nat.lt_of_lt_of_le (Nat.pow_pos (by omega)) HGE.out
  have HDP := Lib.hid (show 0 < 2 ^ s * val b ∧ 2 ^ s * val b < 4294967296 ^ (N + 1) ∧ 0 < D.getD N 0 by
    have h1 := val_lt HD.out.2.2
    rw [HD.out.2.1, HD.out.1] at h1
    refine ⟨Nat.mul_pos (Nat.two_pow_pos s) hDp, h1, top_pos HD.out.2.2 HD.out.1 ?_⟩
    rw [HD.out.2.1]
    exact Nat.le_trans HGE.out (Nat.le_mul_of_pos_left _ (Nat.two_pow_pos s)))
  clear hR hRR hbR hB4 hg1 hRl hRv hRw hRD4 hQ5 hB5 hB45 hlong hDp hm2 C3
  go_wp2
  clear hm3
  go_loopw [10] (fun i wr => ∃ (k : Nat) (R Q : List Nat), i = .int .i64 ((k : Int) - 1) ∧ k ≤ M ∧ Hid (Row wr w2.heap.size R) ∧ Hid (Row wr w4.heap.size Q) ∧ Hid (Row wr w.heap.size D) ∧ Hid (LongT (2 ^ s * val a) (2 ^ s * val b) (N + 1) M k R Q) ∧ Below w.heap.size w wr) (fun i _ => (intOf i + 1).toNat)
  case atStart => exact ⟨M, R, _, rfl, Nat.le_refl _, HR5, HQ5, HD5, HLONG, HB5.out⟩
  case round =>
    obtain ⟨k, R2, Q, rfl, hk, HR, HQ, HDD, HT, hbw⟩ := hrel
    have hRl := HT.out.lenR
    have hQl := HT.out.lenQ
    have hMn := HM.out
    by_cases h0 : k = 0
    · subst h0
      obtain ⟨f1, f2⟩ := HT.out.fin HDP.out.1
      rw [Nat.mul_div_mul_left _ _ (Nat.two_pow_pos s)] at f1
      rw [Nat.mul_mod_mul_left] at f2
      have C1 := Lib.hid (shr_self w2.heap.size (n + 1) (n + 1) (n + 1) s R2 wr HR.out HT.out.wsR (by omega) (by omega) hs32)
      have HF1 := Lib.hid f1
      have HF2 := Lib.hid f2
      have HQW := Lib.hid HT.out.wsQ
      have HL := Lib.hid (show Q.length = M ∧ R2.length = n + 1 from ⟨hQl, by omega⟩)
      have HNE := Lib.hid (show w4.heap.size ≠ w2.heap.size from Nat.ne_of_gt HG1.out)
      have HBG := Lib.hid (Nat.le_of_lt (Nat.lt_of_lt_of_le HG0.out (Nat.le_refl _)))
      clear f1 f2 hRl hQl hMn
      go_wp2_with fail
      refine C1.out.mono ?_
      rintro e w5 ⟨rfl, S, hS, hRow, hO⟩
      have hv := hS.whole (by rw [HL.out.2]; exact Nat.le_refl _)
      have hSl := hS.len
      rw [List.drop_zero, List.take_of_length_le (by rw [hSl, HL.out.2]; exact Nat.le_refl _), HF2.out, Nat.mul_div_cancel_left _ (Nat.two_pow_pos s)] at hv
      have HFIN := Lib.hid (show LongPost n M (val a) (val b) w (.returned (.tuple #[.slice (some ⟨w4.heap.size, 0, none⟩) M M, .slice (some ⟨w2.heap.size, 0, none⟩) (n + 1) (n + 1)])) w5 from
        ⟨Q, S, w2.heap.size, w4.heap.size, rfl, HQ.out.only HNE.out hO, hRow, HL.out.1, by rw [hSl, HL.out.2], HQW.out, hS.ws, HF1.out, hv, hbw.trans (hO.below.mono HBG.out)⟩)
      clear hS hRow hO hv hSl C1
      go_wp2
      go_ret2
      exact HFIN.out
    · obtain ⟨j, rfl⟩ : ∃ j, k = j + 1 := ⟨k - 1, by omega⟩
      rw [show (((j + 1 : Nat) : Int) - 1) = (j : Int) by omega]
      obtain ⟨p1, p2⟩ := HT.out.part (by omega) HDP.out.2.1
      have C1 := Lib.hid (step_any w2.heap.size j (N + 2) (n + 1 - j) R2 (some ⟨w.heap.size, 0, none⟩) N (N + 1) (N + 1) D (w.heap.size + 1) wr HR.out HT.out.wsR rfl rfl (by omega) HD.out.1 (HDD.out.rw0 HD.out.2.2) HG0.out (by omega) (by rw [HD.out.2.1]; exact HDP.out.1) HDP.out.2.2 (by rw [HD.out.1, HD.out.2.1]; exact p2))
      have HNX := Lib.hid (fun S h1 h2 h3 h4 => HT.out.next (S := S) (by omega) HDP.out.2.1 HDP.out.1 h1 h2 h3 h4)
      unfold StepPost at C1
      rw [HD.out.1, HD.out.2.1] at C1
      obtain ⟨q, hq⟩ : ∃ q, val ((R2.drop j).take (N + 1 + 1)) / (2 ^ s * val b) = q := ⟨_, rfl⟩
      rw [hq] at C1 HNX
      have hcell := fun (W : World) (h : Row W w4.heap.size Q) => h.cell j (by omega)
      have hfz := fun (W : World) (h : Row W w4.heap.size Q) => h.frozen j
      have HCELL := Lib.hid hcell
      have HFZ := Lib.hid hfz
      have HNE := Lib.hid (show w4.heap.size ≠ w2.heap.size ∧ w.heap.size ≠ w2.heap.size ∧ w2.heap.size ≠ w4.heap.size ∧ w.heap.size ≠ w4.heap.size from by
        have h1 := HG1.out
        have h2 := HG0.out
        omega)
      have HBG := Lib.hid (show w.heap.size ≤ w2.heap.size ∧ w.heap.size ≤ w4.heap.size from by
        have h1 := HG1.out
        have h2 := HG0.out
        omega)
      have hj1 : (j : Int) < (M : Int) := by omega
      have hjn : (j : Int) + (N : Int) + 2 ≤ (n : Int) + 1 := by omega
      have hjn2 : j + (N + 2) ≤ n + 1 := by omega
      have hk2 : j + 1 ≤ M := hk
      clear hRl hQl hMn hk h0 p1 p2 hq hcell hfz
      go_wp2_with fail
      rw [show j + (N + 1) + 1 - j = N + 2 by omega]
      refine C1.out.mono ?_
      rintro e w5 ⟨S, rfl, hrow, hlen, hws, hfar, hval, hO⟩
      have rQ := HQ.out.only HNE.out.1 hO
      have rD := HDD.out.only HNE.out.2.1 hO
      have hcell := HCELL.out w5 rQ
      have hfz := HFZ.out w5 rQ
      have HTN := Lib.hid (HNX.out S hlen hws hfar hval)
      have HQ2 := Lib.hid (rQ.set j q)
      have HR2 := Lib.hid (show Row (w5.setCell ⟨w4.heap.size, j, none⟩ (.int .u32 (q : Nat))) w2.heap.size S from (Below.heap_setCell w5 _ _ _ HNE.out.2.2.1).trans hrow)
      have HD2 := Lib.hid (show Row (w5.setCell ⟨w4.heap.size, j, none⟩ (.int .u32 (q : Nat))) w.heap.size D from (Below.heap_setCell w5 _ _ _ HNE.out.2.2.2).trans rD)
      have HB2 := Lib.hid ((hbw.trans (hO.below.mono HBG.out.1)).setCell (p := ⟨w4.heap.size, j, none⟩) HBG.out.2 (.int .u32 (q : Nat)))
      clear hrow hlen hws hfar hval hO rQ rD C1 HNX
      go_wp2
      go_roundw
      case rel => exact ⟨j, S, _, by go_num, by omega, HR2, HQ2, HD2, HTN, HB2.out⟩
      case measure => simp [intOf]
end Go.Proofs.Ytclggnaljijjoaa
namespace Go.Proofs.Ytclggnaljijjoaa
open Go.RowKit
set_option maxHeartbeats 1000000 in
theorem div_long (A C : Option Addr) (n c m d : Nat) (l k : List Nat) (w : World) (hn : l.length = n) (hc : n ≤ c) (hm : n ≤ 35184372088832) (h : RW w w.heap.size A l)
    (gn : k.length = m) (gc : m ≤ d) (gm : m ≤ 35184372088832) (g : RW w w.heap.size C k) (hl : (lngB (val l) || lngB (val k)) = true) :
    Calls Try.prog 27 #[.slice A n c, .slice C m d] w (DivT (divQ (val l) (val k)) (divR (val l) (val k)) (divK (val l) (val k)) w) := by
  have c1 := tooTwo_any A C n c m d l k w hn hc hm h gn gc gm g
  have hp : Below w.heap.size w (pair w (.slice A n c) (.slice C m d)) := (Below.refl _ _).alloc (Nat.le_refl _) _
  have HF := Lib.hid (DivT.long (w := w) hl hp)
  rw [hl] at c1
  clear h g hn hc hm gn gc gm hl hp
  go_enter Try.func27, Try.ntmps27
  go_wp2_with fail
  refine c1.mono ?_
  rintro e w1 ⟨rfl, rfl⟩
  go_wp2
  (try simp only [Exit.inBlock, Exit.then])
  refine bodyPost_ret (results_tmp3 rfl _ _ _) rfl ?_
  exact HF.out
set_option maxRecDepth 100000 in
set_option maxHeartbeats 2000000 in
theorem div_zero (A C : Option Addr) (n c m d : Nat) (l k : List Nat) (w : World) (hn : l.length = n) (hc : n ≤ c) (hm : n ≤ 35184372088832) (h : RW w w.heap.size A l)
    (gn : k.length = m) (gc : m ≤ d) (gm : m ≤ 35184372088832) (g : RW w w.heap.size C k) (hl : (lngB (val l) || lngB (val k)) = false) (hk : val k = 0) :
    Calls Try.prog 27 #[.slice A n c, .slice C m d] w (DivT (divQ (val l) (val k)) (divR (val l) (val k)) (divK (val l) (val k)) w) := by
  have c1 := tooTwo_any A C n c m d l k w hn hc hm h gn gc gm g
  have hp : Below w.heap.size w (pair w (.slice A n c) (.slice C m d)) := (Below.refl _ _).alloc (Nat.le_refl _) _
  have HF := Lib.hid (DivT.zero (w := w) hl hk hp)
  rw [hl] at c1
  have c2 := cut_any A n c l w.heap.size _ hn hc hm (h.below hp)
  have c3 := cut_any C m d k w.heap.size _ gn gc gm (g.below hp)
  rw [nrm_val_zero hk] at c3
  clear h g hn hc hm gn gc gm hl hp hk
  go_enter Try.func27, Try.ntmps27
  go_wp2_with fail
  refine c1.mono ?_
  rintro e w1 ⟨rfl, rfl⟩
  go_wp2_with fail
  refine c2.mono ?_
  rintro e w1 ⟨rfl, rfl⟩
  go_wp2_with fail
  refine c3.mono ?_
  rintro e w1 ⟨rfl, rfl⟩
  go_wp2
  (try simp only [Exit.inBlock, Exit.then])
  refine bodyPost_ret (results_tmp3 rfl _ _ _) rfl ?_
  exact HF.out
set_option maxRecDepth 100000 in
set_option maxHeartbeats 2000000 in
theorem div_small (A C : Option Addr) (n c m d : Nat) (l k : List Nat) (w : World) (hn : l.length = n) (hc : n ≤ c) (hm : n ≤ 35184372088832) (h : RW w w.heap.size A l)
    (gn : k.length = m) (gc : m ≤ d) (gm : m ≤ 35184372088832) (g : RW w w.heap.size C k) (hl : (lngB (val l) || lngB (val k)) = false) (hlt : (nrm l).length < (nrm k).length) :
    Calls Try.prog 27 #[.slice A n c, .slice C m d] w (DivT (divQ (val l) (val k)) (divR (val l) (val k)) (divK (val l) (val k)) w) := by
  have c1 := tooTwo_any A C n c m d l k w hn hc hm h gn gc gm g
  have hp : Below w.heap.size w (pair w (.slice A n c) (.slice C m d)) := (Below.refl _ _).alloc (Nat.le_refl _) _
  rw [hl] at c1
  have c2 := cut_any A n c l w.heap.size _ hn hc hm (h.below hp)
  have c3 := cut_any C m d k w.heap.size _ gn gc gm (g.below hp)
  obtain ⟨hl1, hl2⟩ : lngB (val l) = false ∧ lngB (val k) = false := by simpa using hl
  have n1 := lng_len h.1 hl1
  have n2 := lng_len g.1 hl2
  have hval := cmp_len h.1 hlt
  have e1 : val l / val k = 0 := Nat.div_eq_of_lt hval
  have e2 : val l % val k = val l := Nat.mod_eq_of_lt hval
  obtain ⟨N, hN⟩ : ∃ N, (nrm l).length = N := ⟨_, rfl⟩
  obtain ⟨M, hM⟩ : ∃ M, (nrm k).length = M := ⟨_, rfl⟩
  rw [hN] at n1 c2 hlt
  rw [hM] at n2 c3 hlt
  obtain ⟨W, hW⟩ : ∃ W, pair w (.slice A n c) (.slice C m d) = W := ⟨_, rfl⟩
  rw [hW] at c1 c2 c3 hp
  have HOK := Lib.hid (fun (w' : World) A2 n2 c2 C2 m2 d2 h3 h4 h5 h6 h7 h8 h9 => DivT.ok (w := w) (w' := w') (A := A2) (C := C2) (n := n2) (c := c2) (m := m2) (d := d2) hl (by omega) h3 h4 h5 h6 h7 h8 h9)
  rw [e1, e2] at HOK
  have hND : (wds (val l)).length = N := by rw [← nrm_wds h.1]; exact hN
  have c4 := (normT A N N (nrm l) N W hN (Nat.le_refl _) (by omega) ((h.nrm.below hp).more hp.size) (by rw [nrm_nrm]; exact hN))
  rw [nrm_nrm, nrm_wds h.1] at c4
  have HW := Lib.hid hW
  have HP := Lib.hid hp
  have HND := Lib.hid hND
  have z0 : ((M : Int) == 0) = false := by simp; omega
  have z1 : (N : Int) < (M : Int) := by omega
  clear h g hn hc hm gn gc gm hl hp hl1 hl2 n1 n2 hval e1 e2 hN hM hW hND hlt
  go_enter Try.func27, Try.ntmps27
  go_wp2_with fail
  rw [show w.alloc (.cells #[.slice A n c, .slice C m d] 22) = W from HW.out]
  refine c1.mono ?_
  rintro e w1 ⟨rfl, rfl⟩
  go_wp2_with fail
  refine c2.mono ?_
  rintro e w1 ⟨rfl, rfl⟩
  go_wp2_with fail
  refine c3.mono ?_
  rintro e w1 ⟨rfl, rfl⟩
  go_wp2_with fail
  refine c4.mono ?_
  rintro e w2 ⟨A2, c2, rfl, ⟨hc2, r2⟩, b2⟩
  have HF := Lib.hid (HOK.out w2 none 0 0 A2 N c2 rfl (Nat.le_refl _) HND.out.symm hc2 (RW.nil _ _ _) r2 (below_le HP.out b2))
  clear r2 hc2 b2
  go_wp2
  (try simp only [Exit.inBlock, Exit.then])
  refine bodyPost_ret (results_tmp3 rfl _ _ _) rfl ?_
  exact HF.out
set_option maxRecDepth 100000 in
set_option maxHeartbeats 4000000 in
theorem div_word (A C : Option Addr) (n c m d : Nat) (l k : List Nat) (w : World) (hn : l.length = n) (hc : n ≤ c) (hm : n ≤ 35184372088832) (h : RW w w.heap.size A l)
    (gn : k.length = m) (gc : m ≤ d) (gm : m ≤ 35184372088832) (g : RW w w.heap.size C k) (hl : (lngB (val l) || lngB (val k)) = false) (hle : (nrm k).length ≤ (nrm l).length) (h1k : (nrm k).length = 1) :
    Calls Try.prog 27 #[.slice A n c, .slice C m d] w (DivT (divQ (val l) (val k)) (divR (val l) (val k)) (divK (val l) (val k)) w) := by
  have c1 := tooTwo_any A C n c m d l k w hn hc hm h gn gc gm g
  have hp : Below w.heap.size w (pair w (.slice A n c) (.slice C m d)) := (Below.refl _ _).alloc (Nat.le_refl _) _
  rw [hl] at c1
  have c2 := cut_any A n c l w.heap.size _ hn hc hm (h.below hp)
  have c3 := cut_any C m d k w.heap.size _ gn gc gm (g.below hp)
  obtain ⟨hl1, hl2⟩ : lngB (val l) = false ∧ lngB (val k) = false := by simpa using hl
  have n1 := lng_len h.1 hl1
  obtain ⟨u, hu⟩ : ∃ u, nrm k = [u] := List.length_eq_one_iff.1 h1k
  have hkv : val k = u := by rw [← val_nrm, hu]; simp [val]
  have hgB := g.nrm
  rw [hu] at hgB c3
  have hul : u < 4294967296 := hgB.1 u (by simp)
  have hu0 : 0 < u := by
    rcases Nat.eq_zero_or_pos u with h0 | h0
    · have := nrm_val_zero (l := k) (by rw [hkv, h0])
      rw [this] at hu; cases hu
    · exact h0
  obtain ⟨b, off, hCe, hbB, hcell⟩ := hgB.2 (by simp)
  have d0 := hcell 0 u rfl
  rw [Nat.add_zero] at d0
  subst hCe
  obtain ⟨N, hN⟩ : ∃ N, (nrm l).length = N := ⟨_, rfl⟩
  rw [h1k, hN] at hle
  rw [hN] at n1 c2
  obtain ⟨W, hW⟩ : ∃ W, pair w (.slice A n c) (.slice (some ⟨b, off, none⟩) m d) = W := ⟨_, rfl⟩
  rw [hW] at c1 c2 c3 hp
  have HOK := Lib.hid (fun (w' : World) A2 n2 c2 C2 m2 d2 h3 h4 h5 h6 h7 h8 h9 => DivT.ok (w := w) (w' := w') (A := A2) (C := C2) (n := n2) (c := c2) (m := m2) (d := d2) hl (by omega) h3 h4 h5 h6 h7 h8 h9)
  have c4 := norm_row A N N (nrm l) W hN (Nat.le_refl _) (by omega) ((h.nrm.below hp).more hp.size)
  rw [nrm_nrm, hN] at c4
  have C5 := Lib.hid (fun W2 (r : Row W2 W.heap.size (nrm l)) => divideWord_any W.heap.size N N u (nrm l) W2 r h.1.nrm hN (by omega) hul hu0)
  rw [val_nrm] at C5
  rw [hkv] at HOK ⊢
  have hrl : val l % u < u := Nat.mod_lt _ hu0
  obtain ⟨q, hq⟩ : ∃ q, val l / u = q := ⟨_, rfl⟩
  obtain ⟨z, hz⟩ : ∃ z, val l % u = z := ⟨_, rfl⟩
  rw [hq, hz] at HOK C5
  rw [hz] at hrl
  have C7 := Lib.hid (fun W => (of_any z (by omega) W).mono fun _ _ y => y.told (n := (wds z).length) (by rw [two_wds z (by omega)]))
  rw [two_wds z (by omega)] at C7
  have HW := Lib.hid hW
  have HP := Lib.hid hp
  rw [← hp.cell (p := ⟨b, off, none⟩) hbB] at d0
  have z0 : ((1 : Int) == 0) = false := rfl
  have z1 : ¬ (N : Int) < 1 := by omega
  have z2 : IntKind.u64.wrap (z : Int) = (z : Int) := IntWalk.u64_in _ (by omega)
  have HN1 := Lib.hid n1
  clear h g hn hc hm gn gc gm hl hp hl1 hl2 n1 hkv hu hul hu0 hN hW hle h1k hgB hcell hrl hq hz
  go_enter Try.func27, Try.ntmps27
  go_wp2_with fail
  rw [show w.alloc (.cells #[.slice A n c, .slice (some ⟨b, off, none⟩) m d] 22) = W from HW.out]
  refine c1.mono ?_
  rintro e w1 ⟨rfl, rfl⟩
  go_wp2_with fail
  refine c2.mono ?_
  rintro e w1 ⟨rfl, rfl⟩
  go_wp2_with fail
  refine c3.mono ?_
  rintro e w1 ⟨rfl, rfl⟩
  go_wp2_with fail
  refine c4.mono ?_
  rintro e w2 ⟨rfl, r2, b2⟩
  have d2 := d0
  rw [← b2.cell (p := ⟨b, off, none⟩) (Nat.lt_of_lt_of_le hbB HP.out.size)] at d2
  have C6 := C5.out _ r2
  clear c1 c2 c3 c4 C5 r2
  go_wp2_with fail
  refine C6.mono ?_
  rintro e w3 ⟨rfl, S, r3, s1, s2, s3, b3⟩
  have B3 := below_le HP.out (b2.trans b3)
  have hlt3 := r3.lt
  have c8 := cut_any (some ⟨W.heap.size, 0, none⟩) N N S w3.heap.size w3 s1 (Nat.le_refl _) (by have := HN1.out; omega) ((r3.rw0 s2).more hlt3)
  have HR3 := Lib.hid ((r3.rw0 s2).more hlt3).nrm
  rw [nrm_wds s2, s3] at c8 HR3
  have HLQ := Lib.hid (show (wds q).length ≤ N by rw [← s3, ← nrm_wds s2, ← s1]; exact nrm_len S)
  clear r3 s1 s2 s3 b3 b2 C6 d0 hlt3
  go_wp2_with fail
  refine c8.mono ?_
  rintro e w' ⟨rfl, rfl⟩
  go_wp2_with fail
  refine (C7.out _).mono ?_
  rintro e w4 ⟨A4, c4, rfl, ⟨hc4, r4⟩, b4⟩
  have HF := Lib.hid (HOK.out w4 _ _ (wds q).length A4 _ c4 rfl (Nat.le_refl _) rfl hc4 (HR3.out.step b4) r4 (below_le B3 b4))
  clear r4 hc4 b4
  go_wp2
  (try simp only [Exit.inBlock, Exit.then])
  refine bodyPost_ret (results_tmp3 rfl _ _ _) rfl ?_
  exact HF.out
set_option maxRecDepth 100000 in
set_option maxHeartbeats 400000 in
theorem div_many (A C : Option Addr) (n c m d : Nat) (l k : List Nat) (w : World) (hn : l.length = n) (hc : n ≤ c) (hm : n ≤ 35184372088832) (h : RW w w.heap.size A l)
    (gn : k.length = m) (gc : m ≤ d) (gm : m ≤ 35184372088832) (g : RW w w.heap.size C k) (hl : (lngB (val l) || lngB (val k)) = false) (hle : (nrm k).length ≤ (nrm l).length) (h1k : 1 < (nrm k).length) :
    Calls Try.prog 27 #[.slice A n c, .slice C m d] w (DivT (divQ (val l) (val k)) (divR (val l) (val k)) (divK (val l) (val k)) w) := by
  have c1 := tooTwo_any A C n c m d l k w hn hc hm h gn gc gm g
  have hp : Below w.heap.size w (pair w (.slice A n c) (.slice C m d)) := (Below.refl _ _).alloc (Nat.le_refl _) _
  rw [hl] at c1
  have c2 := cut_any A n c l w.heap.size _ hn hc hm (h.below hp)
  have c3 := cut_any C m d k w.heap.size _ gn gc gm (g.below hp)
  obtain ⟨hl1, hl2⟩ : lngB (val l) = false ∧ lngB (val k) = false := by simpa using hl
  have n1 := lng_len h.1 hl1
  have n2 := lng_len g.1 hl2
  have hk0 : 0 < val k := by
    rcases Nat.eq_zero_or_pos (val k) with h0 | h0
    · rw [nrm_val_zero h0] at h1k; simp at h1k
    · exact h0
  obtain ⟨N, hN⟩ : ∃ N, (nrm l).length = N := ⟨_, rfl⟩
  obtain ⟨M, hM⟩ : ∃ M, (nrm k).length = M := ⟨_, rfl⟩
  rw [hN] at n1 c2 hle
  rw [hM] at n2 c3 hle h1k
  obtain ⟨W, hW⟩ : ∃ W, pair w (.slice A n c) (.slice C m d) = W := ⟨_, rfl⟩
  rw [hW] at c1 c2 c3 hp
  have HOK := Lib.hid (fun (w' : World) A2 n2 c2 C2 m2 d2 h3 h4 h5 h6 h7 h8 h9 => DivT.ok (w := w) (w' := w') (A := A2) (C := C2) (n := n2) (c := c2) (m := m2) (d := d2) hl hk0 h3 h4 h5 h6 h7 h8 h9)
  obtain ⟨K, hK⟩ : ∃ K, N + 1 = K + M := ⟨N + 1 - M, by omega⟩
  have c4 := divideLong_any A C N N M K (M - 1) M (nrm l) (nrm k) W hN n1 ((h.nrm.below hp).more hp.size) hM (by omega) ((g.nrm.below hp).more hp.size) (nrm_nrm k) hK (by omega)
  rw [val_nrm, val_nrm] at c4
  have HW := Lib.hid hW
  have HP := Lib.hid hp
  have z0 : ((M : Int) == 0) = false := by simp; omega
  have z1 : ¬ (N : Int) < (M : Int) := by omega
  have z2 : ((M : Int) == 1) = false := by simp; omega
  have HK := Lib.hid (show K ≤ 1024 ∧ N + 1 ≤ 1025 by omega)
  obtain ⟨q, hq⟩ : ∃ q, val l / val k = q := ⟨_, rfl⟩
  obtain ⟨z, hz⟩ : ∃ z, val l % val k = z := ⟨_, rfl⟩
  rw [hq, hz] at HOK
  unfold LongPost at c4
  rw [hq, hz] at c4
  clear h g hn hc hm gn gc gm hl hp hl1 hl2 n1 n2 hN hM hW hle h1k hk0 hq hz hK
  go_enter Try.func27, Try.ntmps27
  go_wp2_with fail
  rw [show w.alloc (.cells #[.slice A n c, .slice C m d] 22) = W from HW.out]
  refine c1.mono ?_
  rintro e w1 ⟨rfl, rfl⟩
  go_wp2_with fail
  refine c2.mono ?_
  rintro e w1 ⟨rfl, rfl⟩
  go_wp2_with fail
  refine c3.mono ?_
  rintro e w1 ⟨rfl, rfl⟩
  go_wp2_with fail
  refine c4.mono ?_
  rintro e w2 ⟨S, T, g1, g2, rfl, r2, t2, s1, s2, s3, s4, s5, s6, b2⟩
  have B2 := below_le HP.out b2
  have hlt2 := r2.lt
  have hlt3 := t2.lt
  have c5 := cut_any (some ⟨g2, 0, none⟩) K K S w2.heap.size w2 s1 (Nat.le_refl _) (by have := HK.out; omega) ((r2.rw0 s3).more hlt2)
  have c6 := cut_any (some ⟨g1, 0, none⟩) (N + 1) (N + 1) T w2.heap.size w2 s2 (Nat.le_refl _) (by have := HK.out; omega) ((t2.rw0 s4).more hlt3)
  have HR2 := Lib.hid ((r2.rw0 s3).more hlt2).nrm
  have HR3 := Lib.hid ((t2.rw0 s4).more hlt3).nrm
  rw [nrm_wds s3, s5] at c5 HR2
  rw [nrm_wds s4, s6] at c6 HR3
  have HF := Lib.hid (HOK.out w2 _ _ (wds q).length _ _ (wds z).length rfl (Nat.le_refl _) rfl (Nat.le_refl _) HR2.out HR3.out B2)
  clear r2 t2 s1 s2 s3 s4 s5 s6 b2 hlt2 hlt3 c1 c2 c3 c4
  go_wp2_with fail
  refine c5.mono ?_
  rintro e w' ⟨rfl, rfl⟩
  go_wp2_with fail
  refine c6.mono ?_
  rintro e w' ⟨rfl, rfl⟩
  go_wp2
  (try simp only [Exit.inBlock, Exit.then])
  refine bodyPost_ret (results_tmp3 rfl _ _ _) rfl ?_
  exact HF.out
theorem div_any (A C : Option Addr) (n c m d : Nat) (l k : List Nat) (w : World) (hn : l.length = n) (hc : n ≤ c) (hm : n ≤ 35184372088832) (h : RW w w.heap.size A l)
    (gn : k.length = m) (gc : m ≤ d) (gm : m ≤ 35184372088832) (g : RW w w.heap.size C k) :
    Calls Try.prog 27 #[.slice A n c, .slice C m d] w (DivT (divQ (val l) (val k)) (divR (val l) (val k)) (divK (val l) (val k)) w) := by
  cases hl : (lngB (val l) || lngB (val k))
  · rcases Nat.eq_zero_or_pos (val k) with h0 | h0
    · exact div_zero A C n c m d l k w hn hc hm h gn gc gm g hl h0
    · have hp : 0 < (nrm k).length := List.length_pos_iff.2 (fun e => by rw [← val_nrm, e] at h0; simp [val] at h0)
      rcases Nat.lt_or_ge (nrm l).length (nrm k).length with h1 | h1
      · exact div_small A C n c m d l k w hn hc hm h gn gc gm g hl h1
      · by_cases h2 : (nrm k).length = 1
        · exact div_word A C n c m d l k w hn hc hm h gn gc gm g hl h1 h2
        · exact div_many A C n c m d l k w hn hc hm h gn gc gm g hl h1 (by omega)
  · exact div_long A C n c m d l k w hn hc hm h gn gc gm g hl
end Go.Proofs.Ytclggnaljijjoaa
