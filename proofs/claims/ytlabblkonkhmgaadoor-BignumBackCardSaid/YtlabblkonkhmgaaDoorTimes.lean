/-
  Contract of Times of the reference.
-/
import Derived.Test.YtlabblkonkhmgaaDoorMul
import Derived.Test.YtlabblkonkhmgaaDoorWordN
namespace Go.Proofs.YtlabblkonkhmgaaDoor
open Go.RowKit
/-- What stands in the row of a product of the reference when i words of a have been gone through. -/
structure MulU (a b : List Nat) (i : Nat) (P : List Nat) : Prop where
  len : P.length = a.length + b.length + 1
  ws : Ws P
  zeros : ∀ j, i + b.length ≤ j → P.getD j 0 = 0
  sum : val (P.take (i + b.length)) = val (a.take i) * val b
theorem MulU.start (a b : List Nat) : MulU a b 0 (List.replicate (a.length + b.length + 1) 0) :=
  ⟨List.length_replicate, Ws.zeros _, fun j _ => getD_zeros _ j, by rw [List.take_replicate, val_zeros]; simp [val]⟩
theorem MulU.next {a b : List Nat} {i : Nat} {P S : List Nat} {q : Nat} (h : MulU a b i P) (hi : i < a.length) (hS : AddT P i b (a.getD i 0) b.length S q) : MulU a b (i + 1) (S.set (i + b.length) q) := by
  obtain ⟨h1, h2, h3, h4⟩ := h
  obtain ⟨g1, g2, g3, g4, g5⟩ := hS
  refine ⟨by rw [List.length_set]; omega, g2.set g5, fun j hj => ?_, ?_⟩
  · rw [getD_set_ne (by omega), g3 j (by omega), h3 j (by omega)]
  · have hb : b.take b.length = b := List.take_of_length_le (Nat.le_refl _)
    rw [hb] at g4
    have e1 : (S.set (i + b.length) q).take (i + 1 + b.length) = (S.set (i + b.length) q).take (i + b.length + 1) := by congr 1; omega
    rw [e1, val_take_succ _ _ (by rw [List.length_set]; omega), getD_set_eq (by omega), val_take_succ a i hi]
    rw [take_congr (l := S.set (i + b.length) q) (m := S) (i + b.length) (by rw [List.length_set]; omega) (by omega) (fun j hj => getD_set_ne (by omega))]
    rw [val_part S i b.length (by omega)]
    rw [take_congr (l := S) (m := P) i (by omega) (by omega) (fun j hj => g3 j (by omega))]
    rw [val_part P i b.length (by omega)] at h4
    rw [Nat.pow_add]
    have e2 : val (P.take i) + 4294967296 ^ i * val ((S.drop i).take b.length) + 4294967296 ^ i * 4294967296 ^ b.length * q = val (P.take i) + 4294967296 ^ i * (val ((S.drop i).take b.length) + 4294967296 ^ b.length * q) := by grind
    rw [e2, g4]
    grind
theorem MulU.whole {a b : List Nat} {P : List Nat} (h : MulU a b a.length P) : val P = val a * val b := by
  rw [val_take_zeros P (a.length + b.length) (fun j hj => h.zeros j hj), h.sum, List.take_of_length_le (Nat.le_refl _)]
set_option maxRecDepth 100000 in
set_option maxHeartbeats 4000000 in
theorem times_any (A C : Option Addr) (n c m d : Nat) (l k : List Nat) (w : World) (hn : l.length = n) (hm : n ≤ 4096) (h : RW w w.heap.size A l)
    (gn : k.length = m) (gm : m ≤ 4096) (g : RW w w.heap.size C k) :
    Calls Tryd.prog 35 #[.slice A n c, .slice C m d] w (SlPost (wds (val l * val k)) w) := by
  have hmk := run_make_row' (P := Tryd.prog) 22 42 (.int .u32 0) 4 Tryd.underlying22 infoW rfl .i64 .i64 (n + m + 1) (by omega) (by omega) w
  rw [show ((n + m + 1 : Nat) : Int) = (n : Int) + (m : Int) + 1 by omega] at hmk
  have HROW := Lib.hid (Row.made w (n + m + 1))
  have hn1 : (n : Int) ≤ 4096 := by omega
  have hm1 : (m : Int) ≤ 4096 := by omega
  have HN := Lib.hid hn
  have HM := Lib.hid gn
  have HA := Lib.hid h
  have HB := Lib.hid g
  have HBL := Lib.hid (show Below w.heap.size w (w.alloc (.cells (madeCells #[.int .u32 0] (n + m + 1)) 42)) from (Below.refl _ _).alloc (Nat.le_refl _) _)
  clear h g hn hm gn gm
  go_enter Tryd.func35, Tryd.ntmps35
  go_wp2
  clear hmk
  go_loopw [6] (fun i wr => ∃ (q : Nat) (P : List Nat), i = .int .i64 q ∧ q ≤ n ∧ Hid (Row wr w.heap.size P) ∧ Hid (MulU l k q P) ∧ Below w.heap.size w wr) (fun i _ => n - (intOf i).toNat)
  case atStart => exact ⟨0, _, rfl, Nat.zero_le _, HROW, Lib.hid (by have := MulU.start l k; rw [HN.out, HM.out] at this; exact this), HBL.out⟩
  case round =>
    obtain ⟨q, P, rfl, hq, HR, HT, hbw⟩ := hrel
    by_cases hlt : q < n
    · have hql : q < l.length := by rw [HN.out]; exact hlt
      obtain ⟨ab, ao, rfl, hab, hca⟩ := HA.out.2 (by omega)
      have hx := HA.out.1.getD q
      have hca2 := hca q _ (getD_some hql)
      obtain ⟨x, hxe⟩ : ∃ x, l.getD q 0 = x := ⟨_, rfl⟩
      rw [hxe] at hca2 hx
      have HCA := Lib.hid (fun (W : World) (hB : Below w.heap.size w W) => show W.cell? ⟨ab, ao + q, none⟩ = some (.int .u32 (x : Int)) from by rw [hB.cell (p := ⟨ab, ao + q, none⟩) hab]; exact hca2)
      have HX := Lib.hid hx
      have hPl : P.length = n + m + 1 := by rw [HT.out.len, HN.out, HM.out]
      have HPL := Lib.hid hPl
      have HNX := Lib.hid (fun S r (h : AddT P q k x k.length S r) => HT.out.next hql (by rw [hxe]; exact h))
      have hq1 : (q : Int) < (n : Int) := by omega
      have hq0 : (0 : Int) ≤ (q : Int) := by omega
      have HST := Lib.hid (AddT.start q k x HT.out.ws)
      obtain ⟨wo, rfl⟩ : ∃ wo : World, wo = wr := ⟨_, rfl⟩
      clear hql hab hca hx hca2 hxe hPl
      go_wp2
      go_loopw [7, 8] (fun cv kv wi => ∃ (r j : Nat) (S : List Nat), cv = .int .u64 (r : Nat) ∧ kv = .int .i64 j ∧ j ≤ m ∧ Hid (Row wi w.heap.size S) ∧ Hid (AddT P q k x j S r) ∧ Below w.heap.size w wi) (fun _ kv _ => m - (intOf kv).toNat)
      case atStart => exact ⟨0, 0, P, rfl, rfl, Nat.zero_le _, HR, HST, hbw⟩
      case round =>
        obtain ⟨r, j, S, rfl, rfl, hj, HS, HAd, hbi⟩ := hrel
        by_cases hjm : j < m
        · have hjl : j < k.length := by rw [HM.out]; exact hjm
          obtain ⟨bb, bo, rfl, hbb, hcb⟩ := HB.out.2 (by omega)
          have hcb2 := hcb j _ (getD_some hjl)
          rw [← hbi.cell (p := ⟨bb, bo + j, none⟩) hbb] at hcb2
          have hca2 := HCA.out wr hbi
          have hok : q + j < P.length := by rw [HPL.out]; omega
          obtain ⟨e1, hnext⟩ := HAd.out.next HT.out.ws HB.out.1 HX.out hjl hok
          have hS := HS.out.cell (q + j) (by rw [HAd.out.len]; exact hok)
          have hfz := HS.out.frozen (q + j)
          obtain ⟨l1, l2, l3⟩ := addC_lt (o := q) (k := j) (q := r) HT.out.ws HB.out.1 HX.out HAd.out.low
          have hset := HS.out.set (q + j) (addC P q k x j r % 4294967296)
          have HE := Lib.hid (show addC P q k x j r = r + (k.getD j 0 * x + P.getD (q + j) 0) from rfl)
          have u1 := HB.out.1.getD j
          have r1 := HT.out.ws.getD (q + j)
          have q1 := HAd.out.low
          rw [e1] at hS
          obtain ⟨t, ht⟩ : ∃ t, addC P q k x j r = t := ⟨_, rfl⟩
          obtain ⟨u, hu⟩ : ∃ u, k.getD j 0 = u := ⟨_, rfl⟩
          obtain ⟨p, hp⟩ : ∃ p, P.getD (q + j) 0 = p := ⟨_, rfl⟩
          rw [ht, hu, hp] at HE
          rw [ht] at hnext hset l3
          rw [hu] at hcb2 l1 l2 u1
          rw [hp] at hS l2 r1
          have HNXT := Lib.hid hnext
          have hmul : ((u * x : Nat) : Int) = (x : Int) * (u : Int) := by rw [Nat.mul_comm]; exact Int.natCast_mul x u
          have k1 : IntKind.u64.wrap (u : Int) = (u : Int) := IntWalk.u64_in _ (by omega)
          have k2 : IntKind.u64.wrap (x : Int) = (x : Int) := IntWalk.u64_in _ (by have := HX.out; omega)
          have k3 : IntKind.u64.wrap (p : Int) = (p : Int) := IntWalk.u64_in _ (by omega)
          have k4 : IntKind.u64.wrap ((x : Int) * (u : Int)) = (x : Int) * (u : Int) := IntWalk.u64_in _ (by omega)
          have k5 : IntKind.u64.wrap ((x : Int) * (u : Int) + (p : Int)) = (x : Int) * (u : Int) + (p : Int) := IntWalk.u64_in _ (by omega)
          have k6 : IntKind.u64.wrap ((x : Int) * (u : Int) + (p : Int) + (r : Int)) = (t : Int) := by
            have := HE.out
            rw [IntWalk.u64_in _ (by omega)]
            omega
          have k7 : IntKind.i64.wrap ((q : Int) + (j : Int)) = (q : Int) + (j : Int) := IntWalk.i64_in _ (by omega)
          have k8 : ((q : Int) + (j : Int)).toNat = q + j := by omega
          have k9 : (0 : Int) ≤ (q : Int) + (j : Int) := by omega
          have k10 : (q : Int) + (j : Int) < (n : Int) + (m : Int) + 1 := by omega
          have j0 : (0 : Int) ≤ (j : Int) := by omega
          have j1 : (j : Int) < (m : Int) := by omega
          rw [show ((t % 4294967296 : Nat) : Int) = (t : Int) % 4294967296 by omega] at hset
          have HSET := Lib.hid hset
          clear hset e1 hnext l1 l2 l3 u1 r1 q1 ht hu hp hjl hok hbb hcb hmul
          go_wp2
          go_quiet (fail)
          go_wp2
          go_roundw
          case rel => exact ⟨t / 4294967296, j + 1, _, by go_num, by go_num, by omega, Lib.hid (show Row _ _ _ from HSET.out), HNXT, by first | exact below_drewN' (hbi.setCell (Nat.le_refl _) _) _ | exact (below_drewN' hbi _).setCell (Nat.le_refl _) _⟩
          case measure => simp [intOf]; omega
        · have hjm2 : j = m := by omega
          have HAd2 := Lib.hid (show AddT P q k x k.length S r by rw [HM.out, ← hjm2]; exact HAd.out)
          have hSl : S.length = n + m + 1 := by rw [HAd.out.len]; exact HPL.out
          have hr1 := HAd.out.low
          have k1 : IntKind.u32.wrap (r : Int) = (r : Int) := IntWalk.u32_in _ (by omega)
          have hS := HS.out.cell (q + m) (by omega)
          have hfz := HS.out.frozen (q + m)
          have HSET := Lib.hid (HS.out.set (q + m) r)
          have HMT := Lib.hid (show MulU l k (q + 1) (S.set (q + m) r) by have := HNX.out S r HAd2.out; rw [HM.out] at this; exact this)
          have j1 : ¬ (j : Int) < (m : Int) := by omega
          have j2 : (q : Int) + (m : Int) < (n : Int) + (m : Int) + 1 := by omega
          clear hjm2 hSl hr1
          go_wp2
          go_roundw
          case rel => exact ⟨q + 1, _, by go_num, by omega, HSET, HMT, hbi.setCell (Nat.le_refl _) _⟩
          case measure => simp [intOf]; omega
    · have hqn : q = n := by omega
      have HMT := Lib.hid (show MulU l k l.length P by rw [HN.out, ← hqn]; exact HT.out)
      have hPl : P.length = n + m + 1 := by rw [HT.out.len, HN.out, HM.out]
      have hlt2 := HR.out.lt
      have C1 := Lib.hid (rnorm_any (some ⟨w.heap.size, 0, none⟩) (n + m + 1) (n + m + 1) P wr.heap.size wr hPl (Nat.le_refl _) (by omega) ((HR.out.rw0 HT.out.ws).more hlt2))
      have HV := Lib.hid (show nrm P = wds (val l * val k) by rw [nrm_wds HT.out.ws, HMT.out.whole])
      have hq1 : ¬ (q : Int) < (n : Int) := by omega
      clear hPl hqn hlt2
      go_wp2_with fail
      refine C1.out.mono ?_
      rintro e w3 ⟨v3, rfl, ho3, hb3⟩
      rw [HV.out] at ho3
      have HO3 := Lib.hid (ho3.sl (wds_ws _))
      clear ho3 C1
      go_wp2
      go_ret
      exact ⟨_, rfl, HO3.out, below_le hbw hb3⟩
end Go.Proofs.YtlabblkonkhmgaaDoor
