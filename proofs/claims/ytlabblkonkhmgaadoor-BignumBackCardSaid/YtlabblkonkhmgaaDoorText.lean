/-
  Contract of Text of the program.
-/
import Derived.Test.YtlabblkonkhmgaaDoorDivP
import Derived.Test.YtlabblkonkhmgaaDoorRev8
import Derived.Test.YtlabblkonkhmgaaDoorTrim8
namespace Go.Proofs.YtlabblkonkhmgaaDoor
open Go.RowKit
/-- How long a slice is. -/
def slLen : Value → Nat
  | .slice _ n _ => n
  | _ => 0
theorem Own8.len {B : Nat} {l : List Nat} {v : Value} {w : World} (h : Own8 B l v w) : slLen v = l.length := by
  rcases h.2 with ⟨rfl, h1⟩ | ⟨g, cap, cur, rfl, _⟩
  · rw [h1]; rfl
  · rfl
/-- Is t the text of n? -/
def TextQ (r n : Nat) (t : ByteArray) : Prop := (n = 0 ∧ bl t = [48]) ∨ (0 < n ∧ ∃ D, Ds r D ∧ dv r D = n ∧ bl t = ((dstrip D).map dch).reverse)
theorem TextQ.one {r n : Nat} {t u : ByteArray} (hr : 0 < r) (h : TextQ r n t) (k : TextQ r n u) : t = u := by
  apply bl_inj
  rcases h with ⟨h1, h2⟩ | ⟨h1, D, h2, h3, h4⟩ <;> rcases k with ⟨k1, k2⟩ | ⟨k1, E, k2, k3, k4⟩
  · rw [h2, k2]
  · omega
  · omega
  · rw [h4, k4, dstrip_inj hr h2 k2 (by rw [h3, k3])]
def TextP (r n : Nat) (w : World) (e : Ending) (w' : World) : Prop := ∃ t, e = .returned (.tuple #[.string t, .int .i64 0]) ∧ TextQ r n t ∧ Below w.heap.size w w'
/-- The digits' letters. -/
abbrev digS : ByteArray := ⟨#[48, 49, 50, 51, 52, 53, 54, 55, 56, 57, 97, 98, 99, 100, 101, 102, 103, 104, 105, 106, 107, 108, 109, 110, 111, 112, 113, 114, 115, 116, 117, 118, 119, 120, 121, 122]⟩
theorem digS_all : ∀ d : Fin 36, (digS[d.val]'(by have := d.isLt; exact this)).toNat = dch d.val := by decide
theorem digS_at (d : Nat) (h : d < 36) : ((digS[d]'h).toNat : Int) = (dch d : Nat) := congrArg Int.ofNat (digS_all ⟨d, h⟩)
/-- The letters told when v is left. -/
structure TextT (r n c v k : Nat) (D : List Nat) : Prop where
  ds : Ds r D
  sum : dv r D + r ^ D.length * v = n
  len : D.length = c * k
  low : 2 ^ k * v ≤ n
/-- .. and when q is left of a part of c digits, j of which were told; v is left behind it. -/
structure TextU (r n c v j q N : Nat) (E : List Nat) : Prop where
  ds : Ds r E
  sum : dv r E + r ^ E.length * (q + r ^ (c - j) * v) = n
  len : E.length = N + j
  low : q < r ^ (c - j)
theorem TextT.part {r n c v k p : Nat} {D : List Nat} (h : TextT r n c v k D) (hp : p = r ^ c) (hp0 : 0 < p) : TextU r n c (v / p) 0 (v % p) D.length D := by
  refine ⟨h.ds, ?_, rfl, by rw [Nat.sub_zero, ← hp]; exact Nat.mod_lt _ hp0⟩
  rw [Nat.sub_zero, ← hp, Nat.mod_add_div]
  exact h.sum
theorem TextU.next {r n c v j q N : Nat} {E : List Nat} (h : TextU r n c v j q N E) (hr : 0 < r) (hj : j < c) : TextU r n c v (j + 1) (q / r) N (E ++ [q % r]) := by
  obtain ⟨h1, h2, h3, h4⟩ := h
  obtain ⟨i, hi⟩ : ∃ i, c - j = i + 1 := ⟨c - j - 1, by omega⟩
  rw [hi] at h2 h4
  have hi2 : c - (j + 1) = i := by omega
  refine ⟨h1.snoc (Nat.mod_lt _ hr), ?_, by rw [List.length_append, h3]; rfl, by rw [hi2, Nat.div_lt_iff_lt_mul hr, ← Nat.pow_succ]; exact h4⟩
  rw [dv_snoc, List.length_append, List.length_singleton, hi2, Nat.pow_succ, ← h2, Nat.pow_succ]
  have e := Nat.mod_add_div q r
  generalize q % r = z at *
  generalize q / r = x at *
  rw [← e]
  grind
theorem TextU.fin {r n c v q k : Nat} {D E : List Nat} {v0 p : Nat} (h : TextU r n c v c q D.length E) (hD : TextT r n c v0 k D) (hv : v = v0 / p) (hp : 2 ≤ p) : TextT r n c v (k + 1) E := by
  obtain ⟨h1, h2, h3, h4⟩ := h
  rw [Nat.sub_self, Nat.pow_zero] at h2 h4
  have hq : q = 0 := by omega
  rw [hq, Nat.zero_add, Nat.one_mul] at h2
  refine ⟨h1, h2, by rw [h3, hD.len, Nat.mul_succ], ?_⟩
  have h5 : 2 * v ≤ v0 := by
    have h6 : v * 2 ≤ v0 / p * p := by rw [hv]; exact Nat.mul_le_mul_left _ hp
    have h7 := Nat.div_mul_le_self v0 p
    omega
  rw [Nat.pow_succ, Nat.mul_assoc]
  exact Nat.le_trans (Nat.mul_le_mul_left _ h5) hD.low
theorem TextT.bound {r n c v k : Nat} {D : List Nat} (h : TextT r n c v k D) (hv : 0 < v) {K : Nat} (hc : c ≤ 32) (hn : n < 2 ^ K) (hK : K ≤ 32768) : c * (k + 1) ≤ 1048576 := by
  have h1 : 2 ^ k ≤ n := Nat.le_trans (Nat.le_mul_of_pos_right _ hv) h.low
  have h2 : k < K := (Nat.pow_lt_pow_iff_right (a := 2) (by omega)).1 (Nat.lt_of_le_of_lt h1 hn)
  exact Nat.le_trans (Nat.mul_le_mul hc (show k + 1 ≤ 32768 by omega)) (by omega)
theorem small_pow {n K : Nat} (h : (wds n).length ≤ 1024) (hK : 32768 ≤ K) : n < 2 ^ K := by
  have h1 := wds_lt n
  rw [show (4294967296 : Nat) = 2 ^ 32 from rfl, ← Nat.pow_mul] at h1
  exact Nat.lt_of_lt_of_le h1 (Nat.pow_le_pow_right (by omega) (by omega))
theorem Row.front {w : World} {g : Nat} {l Z : List Nat} (h : Row w g (l ++ Z)) (hw : Ws l) : RW w (g + 1) (some ⟨g, 0, none⟩) l := ⟨hw, fun _ => ⟨g, 0, rfl, by omega, fun k u hu => by
  have hk : k < l.length := (List.getElem?_eq_some_iff.1 hu).1
  have := h.cell k (by rw [List.length_append]; omega)
  rw [getD_left hk, List.getD_eq_getElem?_getD, hu] at this
  rw [Nat.zero_add]; exact this⟩⟩
theorem nrm_front {S Z : List Nat} {v : Nat} (h : nrm S = wds v) : S ++ Z = wds v ++ (S.drop (wds v).length ++ Z) := by
  have h1 := nrm_take S
  rw [h] at h1
  conv => lhs; rw [← List.take_append_drop (wds v).length S, ← h1]
  rw [List.append_assoc]
set_option maxRecDepth 100000 in
set_option maxHeartbeats 1000000 in
theorem text_ok (A : Option Addr) (N c0 r : Nat) (l : List Nat) (w : World) (hn : l.length = N) (hc : N ≤ c0) (hm : N ≤ 35184372088832) (h : RW w w.heap.size A l) (h2 : 2 ≤ r) (h36 : r ≤ 36) (hl : lngB (val l) = false) (hv : 0 < val l) :
    Calls Tryd.prog 6 #[.slice A N c0, .int .i64 r] w (TextP r (val l) w) := by
  obtain ⟨i0, hi, hz0, hz1, hz2⟩ := info_parts infoB
  have c1 := tooOne_any A N c0 l w hn hc hm h
  rw [hl] at c1
  have hp : Below w.heap.size w (lone w (.slice A N c0)) := (Below.refl _ _).alloc (Nat.le_refl _) _
  have c2 := norm_row A N c0 l (lone w (.slice A N c0)) hn hc hm (h.step hp)
  rw [nrm_wds h.1] at c2
  have C3 := Lib.hid (fun W => group_any r W h2 h36)
  have hlen := lng_le' hl
  obtain ⟨n, hne⟩ : ∃ n, val l = n := ⟨_, rfl⟩
  rw [hne] at c2 hlen hv ⊢
  obtain ⟨K, hK⟩ : ∃ K, K = 32768 := ⟨_, rfl⟩
  have HN := Lib.hid (small_pow hlen (K := K) (by omega))
  have HK := Lib.hid (show K ≤ 32768 by omega)
  obtain ⟨M, hM⟩ : ∃ M, (wds n).length = M := ⟨_, rfl⟩
  rw [hM] at c2 hlen
  have HM := Lib.hid hM
  have hM0 : 0 < M := by
    rcases Nat.eq_zero_or_pos M with h0 | h0
    · rw [h0] at hM
      have := wds_val n
      rw [List.eq_nil_of_length_eq_zero hM] at this
      simp [val] at this
      omega
    · exact h0
  obtain ⟨W, hW⟩ : ∃ W, lone w (.slice A N c0) = W := ⟨_, rfl⟩
  rw [hW] at c1 c2 hp
  have HW := Lib.hid hW
  have HP := Lib.hid hp
  have HV := Lib.hid hv
  have H2 := Lib.hid h2
  have H36 := Lib.hid h36
  have hr1 : ¬ (r : Int) < 2 := by omega
  have hr2 : ¬ (36 : Int) < (r : Int) := by omega
  have hr0 : ((r : Int) == 0) = false := by rw [beq_eq_false_iff_ne]; omega
  have hr3 : ¬ (r : Int) = 0 := by omega
  have hM1 : ((M : Int) == 0) = false := by rw [beq_eq_false_iff_ne]; omega
  have hM2 : (M : Int) ≤ 1024 := by omega
  have kr : IntKind.u32.wrap (r : Int) = (r : Int) := IntWalk.u32_in _ (by omega)
  clear h hn hc hm hl hne hM hp hW hv h2 h36 hM0 hK
  go_enter Tryd.func6, Tryd.ntmps6
  go_wp2_with fail
  rw [show w.alloc (.cells #[.slice A N c0] 22) = W from HW.out]
  refine c1.mono ?_
  rintro e w1 ⟨rfl, rfl⟩
  go_wp2_with fail
  refine c2.mono ?_
  rintro e w2 ⟨rfl, hrow, hb2⟩
  have HR2 := Lib.hid hrow
  have HG2 := Lib.hid hrow.lt
  have HB2 := Lib.hid (below_le HP.out hb2)
  obtain ⟨g, hg⟩ : ∃ g, W.heap.size = g := ⟨_, rfl⟩
  have HGW := Lib.hid (show w.heap.size ≤ g from by rw [← hg]; exact HP.out.size)
  rw [hg] at HR2 HG2 ⊢
  clear hrow hb2 c1 c2
  go_wp2_with fail
  refine (C3.out _).mono ?_
  rintro e w' ⟨⟨c, p, rfl, hpe, hc1, hc2, hpl⟩, rfl⟩
  have HPE := Lib.hid hpe
  have HC1 := Lib.hid hc1
  have HC2 := Lib.hid hc2
  have HPL := Lib.hid hpl
  have hp2 : 2 ≤ p := by
    have h1 : r ^ 1 ≤ r ^ c := Nat.pow_le_pow_right (by have := H2.out; omega) hc1
    rw [Nat.pow_one] at h1
    have h3 := H2.out
    omega
  have HP2 := Lib.hid hp2
  have hcc : (c : Int) ≤ 32 := by omega
  have HST := Lib.hid (show TextT r n c n 0 [] from ⟨Ds.nil r, by simp [dv], by simp, by simp⟩)
  clear hpe hc1 hc2 hpl hp2 C3
  go_wp2
  go_loopw [6, 9] (fun rv bv wr => ∃ (v : Nat) (Z D : List Nat) (k m : Nat), rv = .slice (some ⟨g, 0, none⟩) m m ∧ Hid ((wds v).length = m) ∧ (m : Int) ≤ 1024 ∧ Hid (Row wr g (wds v ++ Z)) ∧ Hid (Own8 (g + 1) (D.map dch) bv wr) ∧ Hid (TextT r n c v k D) ∧ Hid (D.length ≤ 1048576) ∧ Hid (g < wr.heap.size) ∧ Below w.heap.size w wr) (fun _ bv _ => 2097152 - slLen bv)
  case atStart => exact ⟨n, [], [], 0, M, rfl, HM, hM2, Lib.hid (by rw [List.append_nil]; exact HR2.out), Lib.hid (Own8.nil _ _), HST, Lib.hid (by simp), HG2, HB2.out⟩
  case round =>
    obtain ⟨v, Z, D, k, m, rfl, HMV, hm1, HR, HO, HT, HDL, HG, hbw⟩ := hrel
    by_cases h0 : m = 0
    · have hv0 : v = 0 := by
        have h1 := HMV.out
        rw [h0] at h1
        have h3 := wds_val v
        rw [List.eq_nil_of_length_eq_zero h1] at h3
        exact h3.symm
      have hsum := HT.out.sum
      rw [hv0, Nat.mul_zero, Nat.add_zero] at hsum
      have hD0 : 0 < (D.map dch).length := by
        rw [List.length_map]
        cases D with
        | nil => have := HV.out; simp [dv] at hsum; omega
        | cons => simp
      obtain ⟨g2, c2, rfl, hc2, hg2, _, _⟩ := HO.out.row hD0
      obtain ⟨L, hL⟩ : ∃ L, (D.map dch).length = L := ⟨_, rfl⟩
      have hLl : L ≤ 1048576 := by rw [← hL, List.length_map]; exact HDL.out
      have C1 := Lib.hid (rev8_any (g + 1) g2 L c2 (D.map dch) wr (by omega) hL hg2 (by have := HO.out; rw [hL] at this; exact this))
      have C2 := Lib.hid (fun W => trimLeft_any (strOf (D.map dch).reverse) W (by unfold strOf; simp only [ByteArray.size, List.size_toArray, List.length_map, List.length_reverse]; rw [List.length_map] at hL; omega))
      have HQ := Lib.hid (fun (t : ByteArray) (ht : bl t = tz (bl (strOf (D.map dch).reverse))) => show TextQ r n t from .inr ⟨HV.out, D, HT.out.ds, hsum, by
        rw [ht, bl_strOf (fun u hu => by
          rw [List.mem_reverse, List.mem_map] at hu
          obtain ⟨d, hd, rfl⟩ := hu
          have := dch_lt (Nat.lt_of_lt_of_le (HT.out.ds d hd) H36.out)
          omega), tz_rev H36.out HT.out.ds]⟩)
      subst h0
      rw [hL]
      have HBG := Lib.hid (show w.heap.size ≤ g + 1 from by have := HGW.out; omega)
      clear hsum hD0 hc2 hg2 hL hLl hv0
      go_wp2_with fail
      refine C1.out.mono ?_
      rintro e w5 ⟨rfl, ho5, hb5⟩
      have hcv := own8_string ho5
      have HB5 := Lib.hid (hbw.trans (hb5.mono HBG.out))
      clear ho5 hb5 C1
      go_wp2_with fail
      refine (C2.out _).mono ?_
      rintro e w' ⟨⟨t, rfl, ht⟩, rfl⟩
      have HF := Lib.hid (HQ.out t ht)
      clear ht hcv
      go_wp2
      go_ret2
      exact ⟨t, rfl, HF.out, HB5.out⟩
    · have hv0 : 0 < v := by
        rcases Nat.eq_zero_or_pos v with h1 | h1
        · rw [h1] at HMV
          have := HMV.out
          simp [wds_zero] at this
          omega
        · exact h1
      have hbd := HT.out.bound hv0 HC2.out HN.out HK.out
      have hpart := HT.out.part HPE.out (by have := HP2.out; omega)
      have C1 := Lib.hid (divideWord_part g m m p (wds v) Z wr HR.out (wds_ws v) HMV.out (by omega) HPL.out (by have := HP2.out; omega))
      rw [wds_val] at C1
      obtain ⟨v2, hv2⟩ : ∃ v2, v / p = v2 := ⟨_, rfl⟩
      obtain ⟨q, hq⟩ : ∃ q, v % p = q := ⟨_, rfl⟩
      have hql : q < 4294967296 := by rw [← hq]; exact Nat.lt_trans (Nat.mod_lt _ (by have := HP2.out; omega)) HPL.out
      rw [hv2, hq] at C1 hpart
      have HPART := Lib.hid hpart
      have HV2 := Lib.hid hv2
      have HBD := Lib.hid hbd
      have HQL := Lib.hid hql
      have hm0 : (0 : Int) < (m : Int) := by omega
      clear hv0 hbd hpart hv2 hq hql h0
      go_wp2_with fail
      refine C1.out.mono ?_
      rintro e w3 ⟨rfl, S, hrow3, hSl, hSw, hSv, hO3⟩
      have HO3 := Lib.hid (HO.out.only hO3 (by omega))
      have hg3 := hrow3.lt
      have hns : nrm S = wds v2 := by rw [nrm_wds hSw, hSv]
      have c2 := cut_any (some ⟨g, 0, none⟩) m m S (g + 1) w3 hSl (Nat.le_refl _) (by omega) (hrow3.front hSw)
      rw [hns] at c2
      obtain ⟨m2, hm2⟩ : ∃ m2, (wds v2).length = m2 := ⟨_, rfl⟩
      rw [hm2] at c2
      rw [nrm_front hns] at hrow3
      have HR3 := Lib.hid hrow3
      have hm2l : (m2 : Int) ≤ 1024 := by
        have h1 := nrm_len S
        rw [hns, hm2, hSl] at h1
        omega
      have HM2 := Lib.hid hm2
      have HG3 := Lib.hid hg3
      have hgg := HGW.out
      have HB3 := Lib.hid (hbw.trans (hO3.below.mono hgg))
      clear hrow3 hSl hSw hSv hO3 hg3 hns hm2 hgg C1
      go_wp2_with fail
      refine c2.mono ?_
      rintro e w' ⟨rfl, rfl⟩
      clear c2
      go_wp2
      go_loopw [9, 10, 39] (fun bv qv jv wr' => ∃ (j q : Nat) (E : List Nat), jv = .int .i64 (j : Nat) ∧ qv = .int .u32 (q : Nat) ∧ j ≤ c ∧ Hid (Own8 (g + 1) (E.map dch) bv wr') ∧ Hid (TextU r n c v2 j q D.length E) ∧ Hid (q < 4294967296) ∧ Below (g + 1) w3 wr') (fun _ _ jv _ => c - (intOf jv).toNat)
      case atStart => exact ⟨0, q, D, rfl, rfl, Nat.zero_le _, HO3, HPART, HQL, Below.refl _ _⟩
      case round =>
        obtain ⟨j, q, E, rfl, rfl, hj, HE, HU, HQ2, hbi⟩ := hrel
        by_cases hlt : j < c
        · have hnx := HU.out.next (by have := H2.out; omega) hlt
          have hd : q % r < r := Nat.mod_lt _ (by have := H2.out; omega)
          have hq2 : q / r < 4294967296 := Nat.lt_of_le_of_lt (Nat.div_le_self _ _) HQ2.out
          have hEl : E.length ≤ 1048576 + 32 := by rw [HU.out.len]; have := HDL.out; have := HC2.out; omega
          obtain ⟨d, hde⟩ : ∃ d, q % r = d := ⟨_, rfl⟩
          obtain ⟨z, hze⟩ : ∃ z, q / r = z := ⟨_, rfl⟩
          have k1 : (q : Int) % (r : Int) = (d : Int) := by rw [← Int.natCast_emod, hde]
          have k2 : (q : Int) / (r : Int) = (z : Int) := by rw [← Int.natCast_ediv, hze]
          rw [hde] at hnx hd
          rw [hze] at hnx hq2
          have k3 : IntKind.u32.wrap (z : Int) = (z : Int) := IntWalk.u32_in _ (by omega)
          have hd36 : d < 36 := Nat.lt_of_lt_of_le hd H36.out
          have kd := digS_at d hd36
          have HNX := Lib.hid hnx
          have HQZ := Lib.hid hq2
          have HSL := Lib.hid (show (E.map dch).length + 1 ≤ 140737488355328 ∧ (E.map dch).length + 1 ≤ maxLen from by rw [List.length_map]; unfold maxLen; omega)
          have hdi : (d : Int) < 36 := by omega
          have hd0 : (0 : Int) ≤ (d : Int) := by omega
          have hjc : (j : Int) < (c : Int) := by omega
          clear hnx hd hq2 hEl hde hze
          go_wp2_with (at_builtin; refine wpList_append_own _ rfl _ _ 45 rfl (g + 1) 5 i0 (.int .u8 0) 1 1 Tryd.underlying45 hi hz0 hz1 hz2 rfl (by decide) _ _ _ rfl (World.ownsRow.alloc HE.out _) ⟨wr.heap.size, 0, none⟩ 1 1 [.int .u8 (dch d : Nat)] rfl rfl ?c1 ?c2 ?c3 ?c4 ?c5 ?_)
          case c1 => exact (cell_one_new _ _ _)
          case c2 => simp [Value.oneCell']
          case c3 => exact HSL.out.2
          case c4 => have := HSL.out.1; omega
          case c5 => have := HG3.out; have := hbi.size; simp; omega
          intro v' w5 hown hgr _
          have hown2 : w5.ownsRow (g + 1) 5 1 v' ((E.map dch).length + 1) ((E.map dch).map (fun u => Value.int .u8 (u : Nat)) ++ [Value.int .u8 (dch d : Nat)]) := by rw [List.map_map, List.length_map]; exact hown
          have HO5 := Lib.hid (show Own8 (g + 1) ((E ++ [d]).map dch) v' w5 from by rw [List.map_append]; exact Own8.snoc (L := E.map dch) (u := dch d) hown2)
          have hbs := hbi.size
          have hg3 := HG3.out
          have hbb : Below (g + 1) w3 w5 := (hbi.alloc (by omega) _).grown hgr (by simp; omega) (fun i hi => (World.ownsRow.lt HE.out i hi).1)
          clear hown hown2 hgr hbs hg3
          go_wp2
          go_roundw
          case rel => exact ⟨j + 1, z, _, by go_num, rfl, by omega, HO5, HNX, HQZ, hbb⟩
          case measure => simp [intOf]; omega
        · have hjc : j = c := by omega
          subst hjc
          have HT2 := Lib.hid (HU.out.fin HT.out HV2.out.symm HP2.out)
          have HDL2 := Lib.hid (show E.length ≤ 1048576 ∧ E.length = D.length + j from ⟨by
            have h1 := HT2.out.len
            have h3 := HBD.out
            omega, HU.out.len⟩)
          have HB5 := Lib.hid (HB3.out.trans (hbi.mono (by have := HGW.out; omega)))
          have HR5 := Lib.hid (HR3.out.below (by omega) hbi)
          have HG5 := Lib.hid (show g < wr.heap.size from Nat.lt_of_lt_of_le HG3.out hbi.size)
          have hbl1 := HO.out.len
          have hbl2 := HE.out.len
          rw [List.length_map] at hbl1 hbl2
          have HLL := Lib.hid (And.intro hbl1 hbl2)
          clear hlt hbl1 hbl2
          go_wp2
          exact ⟨⟨v2, _, E, k + 1, m2, rfl, HM2, hm2l, HR5, HE, HT2, Lib.hid HDL2.out.1, HG5, HB5.out⟩, by
            have h1 := HLL.out.1
            have h3 := HLL.out.2
            have h4 := HDL2.out
            have h5 := HC1.out
            omega⟩
end Go.Proofs.YtlabblkonkhmgaaDoor
