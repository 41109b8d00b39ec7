/-
  Contract of Text of the reference.
-/
import Derived.Test.YtlabblkonkhmgaaDoorText
namespace Go.Proofs.YtlabblkonkhmgaaDoor
open Go.RowKit
/-- The letters told when v is left; no nought was told last, if nothing is left. -/
structure RtxT (r n v k : Nat) (D : List Nat) : Prop where
  base : TextT r n 1 v k D
  last : v = 0 → dstrip D = D
theorem RtxT.next {r n v k : Nat} {D : List Nat} (h : RtxT r n v k D) (hr : 2 ≤ r) (hv : 0 < v) : RtxT r n (v / r) (k + 1) (D ++ [v % r]) := by
  obtain ⟨⟨h1, h2, h3, h4⟩, _⟩ := h
  have hm : v % r < r := Nat.mod_lt _ (by omega)
  have e := Nat.mod_add_div v r
  refine ⟨⟨h1.snoc hm, ?_, by rw [List.length_append, h3]; simp, ?_⟩, fun h0 => ?_⟩
  · rw [dv_snoc, List.length_append, List.length_singleton, Nat.pow_succ, ← h2]
    generalize v % r = z at *
    generalize v / r = x at *
    rw [← e]
    grind
  · have h5 : 2 * (v / r) ≤ v := by
      have h6 : v / r * 2 ≤ v / r * r := Nat.mul_le_mul_left _ hr
      have h7 := Nat.div_mul_le_self v r
      omega
    rw [Nat.pow_succ, Nat.mul_assoc]
    exact Nat.le_trans (Nat.mul_le_mul_left _ h5) h4
  · refine dstrip_pos (.inr ?_)
    rw [List.getLast?_append, List.getLast?_singleton]
    simp
    rw [h0, Nat.mul_zero, Nat.add_zero] at e
    omega
theorem OwnW.grown {C : Nat} {l : List Nat} {v bv : Value} {w w' : World} (h : OwnW C l v w) (hgr : w.grownBy w' bv.ownBlock) (hb : ∀ j, bv.ownBlock = some j → j < C) : OwnW C l v w' := by
  refine World.ownsRow.kept h hgr ?_
  cases hv : v.ownBlock with
  | none => exact .inl rfl
  | some b =>
    right
    intro e
    have h1 := (World.ownsRow.lt h b hv).1
    have h2 := hb b e.symm
    omega
set_option maxRecDepth 100000 in
set_option maxHeartbeats 1000000 in
theorem rtext_ok (A : Option Addr) (N c0 r : Nat) (l : List Nat) (w : World) (hn : l.length = N) (hc : N ≤ c0) (hm : N ≤ 35184372088832) (h : RW w w.heap.size A l) (h2 : 2 ≤ r) (h36 : r ≤ 36) (hl : lngB (val l) = false) (hv : 0 < val l) :
    Calls Tryd.prog 8 #[.slice A N c0, .int .i64 r] w (TextP r (val l) w) := by
  obtain ⟨i0, hi, hz0, hz1, hz2⟩ := info_parts infoB
  have c1 := rlong_any A N c0 l w.heap.size w hn hc hm h
  rw [hl] at c1
  have C2 := Lib.hid (fun W (hb : Below w.heap.size w W) => rnorm_any A N c0 l W.heap.size W hn hc hm (h.step hb))
  rw [nrm_wds h.1] at C2
  have hlen := lng_le' hl
  obtain ⟨n, hne⟩ : ∃ n, val l = n := ⟨_, rfl⟩
  rw [hne] at C2 hlen hv ⊢
  obtain ⟨K, hK⟩ : ∃ K, K = 32768 := ⟨_, rfl⟩
  have HN := Lib.hid (small_pow hlen (K := K) (by omega))
  have HK := Lib.hid (show K ≤ 32768 by omega)
  obtain ⟨M, hM⟩ : ∃ M, (wds n).length = M := ⟨_, rfl⟩
  rw [hM] at hlen
  have HM := Lib.hid hM
  have hM0 : 0 < M := by
    rcases Nat.eq_zero_or_pos M with h0 | h0
    · rw [h0] at hM
      have := wds_val n
      rw [List.eq_nil_of_length_eq_zero hM] at this
      simp [val] at this
      omega
    · exact h0
  have HV := Lib.hid hv
  have H2 := Lib.hid h2
  have H36 := Lib.hid h36
  have hr1 : ¬ (r : Int) < 2 := by omega
  have hr2 : ¬ (36 : Int) < (r : Int) := by omega
  have hM1 : ((M : Int) == 0) = false := by rw [beq_eq_false_iff_ne]; omega
  have hM2 : (M : Int) ≤ 1024 := by omega
  have kr : IntKind.u32.wrap (r : Int) = (r : Int) := IntWalk.u32_in _ (by omega)
  have HST := Lib.hid (show RtxT r n n 0 [] from ⟨⟨Ds.nil r, by simp [dv], by simp, by simp⟩, fun e => by omega⟩)
  clear h hn hc hm hl hne hM hv h2 h36 hM0 hK
  go_enter Tryd.func8, Tryd.ntmps8
  go_wp2_with fail
  refine c1.mono ?_
  rintro e w1 ⟨rfl, b1⟩
  go_wp2_with fail
  refine (C2.out _ b1).mono ?_
  rintro e w2 ⟨v2, rfl, ho2, b2⟩
  have HO2 := Lib.hid (own_low ho2 b1.size)
  have HB2 := Lib.hid (below_le b1 b2)
  obtain ⟨A2, c2, hv2, hc2, _⟩ := ho2.sl (wds_ws _)
  subst hv2
  rw [HM.out] at HO2 hc2 ⊢
  clear ho2 b1 b2 c1 C2
  go_wp2
  go_loopw [0, 6] (fun av bv wr => ∃ (v k m : Nat) (D : List Nat) (A : Option Addr) (ca : Nat), av = .slice A m ca ∧ Hid ((wds v).length = m) ∧ (m : Int) ≤ 1024 ∧ Hid (OwnW w.heap.size (wds v) (.slice A m ca) wr) ∧ Hid (Own8 w.heap.size (D.map dch) bv wr) ∧ Hid (RtxT r n v k D) ∧ Hid (D.length ≤ 1048576) ∧ Below w.heap.size w wr) (fun _ bv _ => 2097152 - slLen bv)
  case atStart => exact ⟨n, 0, M, [], A2, c2, rfl, HM, hM2, HO2, Lib.hid (Own8.nil _ _), HST, Lib.hid (by simp), HB2.out⟩
  case round =>
    obtain ⟨v, k, m, D, A3, ca, rfl, HMV, hm1, HA, HO, HT, HDL, hbw⟩ := hrel
    by_cases h0 : m = 0
    · have hv0 : v = 0 := by
        have h1 := HMV.out
        rw [h0] at h1
        have h3 := wds_val v
        rw [List.eq_nil_of_length_eq_zero h1] at h3
        exact h3.symm
      have hsum := HT.out.base.sum
      rw [hv0, Nat.mul_zero, Nat.add_zero] at hsum
      have hD0 : 0 < (D.map dch).length := by
        rw [List.length_map]
        cases D with
        | nil => have := HV.out; simp [dv] at hsum; omega
        | cons => simp
      obtain ⟨g2, cb, rfl, hcb, hg2, _, _⟩ := HO.out.row hD0
      obtain ⟨L, hL⟩ : ∃ L, (D.map dch).length = L := ⟨_, rfl⟩
      have hLl : L ≤ 1048576 := by rw [← hL, List.length_map]; exact HDL.out
      have HQ := Lib.hid (fun (t : ByteArray) (ht : t = strOf (D.map dch).reverse) => show TextQ r n t from .inr ⟨HV.out, D, HT.out.base.ds, hsum, by
        rw [ht, bl_strOf (fun u hu => by
          rw [List.mem_reverse, List.mem_map] at hu
          obtain ⟨d, hd, rfl⟩ := hu
          have := dch_lt (Nat.lt_of_lt_of_le (HT.out.base.ds d hd) H36.out)
          omega), HT.out.last hv0]⟩)
      have HOL := Lib.hid (show Own8 w.heap.size (D.map dch) (.slice (some ⟨g2, 0, none⟩) L cb) wr from by have := HO.out; rw [hL] at this; exact this)
      have HRV := Lib.hid (RvT.start hL)
      have HLN := Lib.hid hL
      have hL1 : (L : Int) ≤ 1048576 := by omega
      subst h0
      rw [hL]
      clear hsum hD0 hcb hL hLl hv0 HO
      go_wp2
      go_loopw [9] (fun iv wr' => ∃ (j : Nat) (S : List Nat), iv = .int .i64 (j : Nat) ∧ 2 * j ≤ L + 1 ∧ Hid (Own8 w.heap.size S (.slice (some ⟨g2, 0, none⟩) L cb) wr') ∧ Hid (RvT (D.map dch) L j S) ∧ Below w.heap.size w wr') (fun iv _ => L - (intOf iv).toNat)
      case atStart => exact ⟨0, _, rfl, by omega, HOL, HRV, hbw⟩
      case round =>
        obtain ⟨j, S, rfl, hj, HI, HT2, hbi⟩ := hrel
        by_cases hlt : 2 * j + 1 < L
        · obtain ⟨m, hm⟩ : ∃ m, L - 1 - j = m := ⟨_, rfl⟩
          have hkm : j < m := by omega
          obtain ⟨e1, e2, hnx⟩ := HT2.out.next hm.symm hkm
          have hSl := HT2.out.len
          obtain ⟨k1, f1⟩ := HI.out.cell j (by omega)
          obtain ⟨k2, f2⟩ := HI.out.cell m (by omega)
          rw [e1] at k1
          rw [e2] at k2
          obtain ⟨x, hx⟩ : ∃ x, (D.map dch).getD j 0 = x := ⟨_, rfl⟩
          obtain ⟨y, hy⟩ : ∃ y, (D.map dch).getD m 0 = y := ⟨_, rfl⟩
          rw [hx] at k1 hnx
          rw [hy] at k2 hnx
          have HI2 := Lib.hid ((HI.out.set j y).set m x)
          have HNX := Lib.hid hnx
          have a2 : (m : Int) < (L : Nat) := by omega
          have a3 : (j : Int) < (L : Nat) := by omega
          have a4 : (j : Int) < (L : Int) / 2 := by omega
          have w1 : IntKind.i64.wrap ((L : Int) - 1) = (L : Int) - 1 := IntWalk.i64_in _ (by omega)
          have w2' : IntKind.i64.wrap ((L : Int) - 1 - (j : Int)) = (m : Int) := by rw [IntWalk.i64_in _ (by omega)]; omega
          have hmi : (L : Int) - 1 - (j : Int) = (m : Int) := by omega
          have HKM := Lib.hid (show m + j + 1 = L from by omega)
          clear hm e1 e2 hnx hSl hx hy hlt hj
          go_wp2
          go_region
          go_wp2
          go_roundw
          case rel => exact ⟨j + 1, _, by go_num, by have := HKM.out; omega, Lib.hid HI2.out.drew, HNX, ((hbi.setCell (p := ⟨g2, j, none⟩) hg2 _).setCell (p := ⟨g2, m, none⟩) hg2 _).drew⟩
          case measure => simp [intOf]; omega
        · have HZ := Lib.hid (HT2.out.fin HLN.out hlt)
          have a4 : ¬ (j : Int) < (L : Int) / 2 := by omega
          have ho := HI.out
          rw [HZ.out] at ho
          have hcv := own8_string ho
          clear hlt ho hj
          go_wp2
          go_ret2
          exact ⟨_, rfl, HQ.out _ rfl, hbi⟩
    · have hv0 : 0 < v := by
        rcases Nat.eq_zero_or_pos v with h1 | h1
        · rw [h1] at HMV
          have := HMV.out
          simp [wds_zero] at this
          omega
        · exact h1
      have hbd := HT.out.base.bound hv0 (by omega) HN.out HK.out
      have hnx := HT.out.next H2.out hv0
      obtain ⟨A4, c4, he, hc4, hr4⟩ := HA.out.sl (wds_ws v)
      injection he with e1 e2 e3
      subst e1
      subst e3
      have C1 := Lib.hid (rsmall_any A3 m ca r (wds v) wr HMV.out (by omega) hr4 (by have := H36.out; omega) (by have := H2.out; omega))
      rw [wds_val] at C1
      have hd : v % r < r := Nat.mod_lt _ (by have := H2.out; omega)
      have hEl : D.length + 1 ≤ 1048576 := by rw [HT.out.base.len]; omega
      obtain ⟨d, hde⟩ : ∃ d, v % r = d := ⟨_, rfl⟩
      obtain ⟨z, hze⟩ : ∃ z, v / r = z := ⟨_, rfl⟩
      have hlz : (wds z).length ≤ m := by
        rw [← hze, ← HMV.out]
        exact wds_len_lt (Nat.lt_of_le_of_lt (Nat.div_le_self _ _) (wds_lt v))
      rw [hde] at C1 hnx hd
      rw [hze] at C1 hnx
      have hd36 : d < 36 := Nat.lt_of_lt_of_le hd H36.out
      have kd := digS_at d hd36
      have HNX := Lib.hid hnx
      have HEL := Lib.hid hEl
      have HSL := Lib.hid (show (D.map dch).length + 1 ≤ 140737488355328 ∧ (D.map dch).length + 1 ≤ maxLen from by rw [List.length_map]; unfold maxLen; omega)
      obtain ⟨m2, hm2⟩ : ∃ m2, (wds z).length = m2 := ⟨_, rfl⟩
      have HM2 := Lib.hid hm2
      have hm2l : (m2 : Int) ≤ 1024 := by omega
      have hdi : (d : Int) < 36 := by omega
      have hd0 : (0 : Int) ≤ (d : Int) := by omega
      have hm0 : (0 : Int) < (m : Int) := by omega
      have HLE := Lib.hid hbw.size
      clear hv0 hbd hnx e2 hc4 hr4 hd hEl hde hze hlz hm2 h0
      go_wp2_with fail
      refine C1.out.mono ?_
      rintro e w3 ⟨v3, rfl, ho3, hb3⟩
      have HO3 := Lib.hid ho3
      have HB3 := Lib.hid (below_le hbw hb3)
      have HS3 := Lib.hid hb3.size
      have HE := Lib.hid (HO.out.below hb3)
      obtain ⟨A5, c5, hv5, hc5, _⟩ := ho3.sl (wds_ws _)
      subst hv5
      rw [HM2.out] at HO3 hc5 ⊢
      clear ho3 hb3 C1
      go_wp2_with (at_builtin; refine wpList_append_own _ rfl _ _ 45 rfl w.heap.size 5 i0 (.int .u8 0) 1 1 Tryd.underlying45 hi hz0 hz1 hz2 rfl (by decide) _ _ _ rfl (World.ownsRow.alloc HE.out _) ⟨w3.heap.size, 0, none⟩ 1 1 [.int .u8 (dch d : Nat)] rfl rfl ?c1 ?c2 ?c3 ?c4 ?c5 ?_)
      case c1 => exact (cell_one_new _ _ _)
      case c2 => simp [Value.oneCell']
      case c3 => exact HSL.out.2
      case c4 => have := HSL.out.1; omega
      case c5 => have := HB3.out.size; simp; omega
      intro v' w5 hown hgr _
      have hown2 : w5.ownsRow w.heap.size 5 1 v' ((D.map dch).length + 1) ((D.map dch).map (fun u => Value.int .u8 (u : Nat)) ++ [Value.int .u8 (dch d : Nat)]) := by rw [List.map_map, List.length_map]; exact hown
      have HO5 := Lib.hid (show Own8 w.heap.size ((D ++ [d]).map dch) v' w5 from by rw [List.map_append]; exact Own8.snoc (L := D.map dch) (u := dch d) hown2)
      have hbs := HB3.out.size
      have hbb : Below w.heap.size w w5 := (HB3.out.alloc (by omega) _).grown hgr (by simp; omega) (fun i hi => (World.ownsRow.lt HE.out i hi).1)
      have HA5 := Lib.hid (own_low (OwnW.grown (World.ownsRow.alloc HO3.out _) hgr (fun j hj => (World.ownsRow.lt HO.out j hj).2)) HLE.out)
      have hbl1 := HO.out.len
      have hbl2 := HO5.out.len
      rw [List.length_map] at hbl1 hbl2
      have HLL := Lib.hid (And.intro hbl1 hbl2)
      clear hown hown2 hgr hbs hbl1 hbl2
      go_wp2
      exact ⟨⟨z, k + 1, m2, _, _, _, rfl, HM2, hm2l, HA5, HO5, HNX, Lib.hid (by rw [List.length_append]; exact HEL.out), hbb⟩, by
        have h1 := HLL.out.1
        have h3 := HLL.out.2
        have h4 := HEL.out
        rw [List.length_append, List.length_singleton] at h3
        omega⟩
end Go.Proofs.YtlabblkonkhmgaaDoor
