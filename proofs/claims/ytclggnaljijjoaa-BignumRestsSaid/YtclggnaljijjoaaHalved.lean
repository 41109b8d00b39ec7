/-
  Contract of Halved of the reference.
-/
import Derived.Test.YtclggnaljijjoaaDivT
import Derived.Test.YtclggnaljijjoaaRshl
import Derived.Test.YtclggnaljijjoaaLess
namespace Go.Proofs.Ytclggnaljijjoaa
open Go.RowKit
theorem lit_u1 (W : World) : RW (W.alloc (.cells #[.int .u32 1] 40)) (W.alloc (.cells #[.int .u32 1] 40)).heap.size (some ⟨W.heap.size, 0, none⟩) [1] := (lit_one W 1 (by omega)).more (by simp)
theorem plus_one (A : Option Addr) (n c : Nat) (l : List Nat) (W : World) (hn : l.length = n) (hm : n ≤ 4096) (h : RW W W.heap.size A l) :
    Calls Try.prog 46 #[.slice A n c, .slice (some ⟨W.heap.size, 0, none⟩) 1 1] (W.alloc (.cells #[.int .u32 1] 40)) (SlPost (wds (val l + 1)) (W.alloc (.cells #[.int .u32 1] 40))) := by
  have g := lit_u1 W
  have h2 : RW (W.alloc (.cells #[.int .u32 1] 40)) (W.alloc (.cells #[.int .u32 1] 40)).heap.size A l := h.step ((Below.refl _ _).alloc (Nat.le_refl _) _)
  generalize W.alloc (.cells #[.int .u32 1] 40) = W' at *
  exact plus_any A (some ⟨W.heap.size, 0, none⟩) n c 1 1 l [1] W' hn (by omega) h2 rfl (by omega) g
theorem or_one (y s : Nat) (hy : y < 4294967296) (hs : s < 32) : bits BinOp.or IntKind.u32 (y : Int) (2 ^ s % 4294967296) = ((y ||| 2 ^ s : Nat) : Int) := by
  have h : 2 ^ s < 4294967296 := Nat.pow_lt_pow_right (n := 32) (by omega) hs
  rw [← or_u32 y (2 ^ s) hy h, show ((2 : Int) ^ s) = ((2 ^ s : Nat) : Int) by rw [Int.natCast_pow]; rfl]
  generalize 2 ^ s = P at *
  rw [show (P : Int) % 4294967296 = (P : Int) by omega]
set_option maxRecDepth 100000 in
set_option maxHeartbeats 1000000 in
theorem halved_any (A C : Option Addr) (n c m d : Nat) (a b : List Nat) (w : World) (hn : a.length = n) (hm : n ≤ 1024) (h : RW w w.heap.size A a)
    (gn : b.length = m) (gm : m ≤ 1024) (g : RW w w.heap.size C b) (hnb : nrm b = b) (hb0 : 0 < val b) :
    Calls Try.prog 53 #[.slice A n c, .slice C m d] w (fun e w' => ∃ A2 n2 c2 C2 m2 d2, e = .returned (.tuple #[.slice A2 n2 c2, .slice C2 m2 d2]) ∧ (n2 = (wds (val a / val b)).length ∧ n2 ≤ c2 ∧ m2 = (wds (val a % val b)).length ∧ m2 ≤ d2 ∧ RW w' w'.heap.size A2 (wds (val a / val b)) ∧ RW w' w'.heap.size C2 (wds (val a % val b))) ∧ Below w.heap.size w w') := by
  have hmk := run_make_row' (P := Try.prog) 22 40 (.int .u32 0) 4 Try.underlying22 infoW rfl .i64 .i64 n (by omega) (by omega) w
  have HROW := Lib.hid (Row.made w n)
  have HBL := Lib.hid (show Below w.heap.size w (w.alloc (.cells (madeCells #[.int .u32 0] n) 40)) from (Below.refl _ _).alloc (Nat.le_refl _) _)
  have HA := Lib.hid h
  have HB := Lib.hid g
  have HN := Lib.hid hn
  have HM := Lib.hid gn
  have HB0 := Lib.hid hb0
  have HNB := Lib.hid hnb
  have HST := Lib.hid (show HalfT a (val b) (32 * n) (List.replicate n 0) 0 by rw [← hn]; exact HalfT.start h.1 _)
  have hn1 : (n : Int) ≤ 1024 := by omega
  have hm1 : (m : Int) ≤ 1024 := by omega
  have hbw : b = wds (val b) := by rw [← nrm_wds g.1, hnb]
  have HBW := Lib.hid (show (wds (val b)).length ≤ 1024 by rw [← hbw, gn]; exact gm)
  clear h g hn gn hb0 hnb hm gm hbw
  go_enter Try.func53, Try.ntmps53
  go_wp2
  clear hmk
  go_loopw [7, 8] (fun v i wr => ∃ (k : Nat) (Q : List Nat) (r : Nat), i = .int .i64 ((k : Int) - 1) ∧ k ≤ 32 * n ∧ Hid (Sl wr wr.heap.size v (wds r)) ∧ Hid (Row wr w.heap.size Q) ∧ Hid (HalfT a (val b) k Q r) ∧ Below w.heap.size w wr) (fun _ i _ => (intOf i + 1).toNat)
  case atStart => exact ⟨32 * n, _, 0, by rw [Int.natCast_mul]; rfl, Nat.le_refl _, Lib.hid (Sl.nil _ _ _), HROW, HST, HBL.out⟩
  case round =>
    obtain ⟨k, Q, r, rfl, hk, HS, HR, HT, hbw⟩ := hrel
    obtain ⟨A0, c0, rfl, hc0, hr0⟩ := HS.out
    obtain ⟨L0, hL0⟩ : ∃ L, (wds r).length = L := ⟨_, rfl⟩
    rw [hL0] at hc0 ⊢
    have hQl : Q.length = n := by rw [HT.out.len, HN.out]
    by_cases h0 : k = 0
    · subst h0
      obtain ⟨f1, f2⟩ := HT.out.fin
      have hlt := HR.out.lt
      have C1 := Lib.hid ((rnorm_any (some ⟨w.heap.size, 0, none⟩) n n Q wr.heap.size wr hQl (Nat.le_refl _) (by omega) ((HR.out.rw0 HT.out.ws).more hlt)).mono (fun e w' x => SlPost.of HT.out.ws.nrm x))
      rw [nrm_wds HT.out.ws, f1] at C1
      rw [f2] at hr0 hL0
      have HR0 := Lib.hid hr0
      have HC0 := Lib.hid hc0
      have HL0 := Lib.hid hL0
      clear f1 f2 hlt hr0 hc0 hL0 hQl
      go_wp2_with fail
      refine C1.out.mono ?_
      rintro e w2 ⟨v2, rfl, ⟨A2, c2, rfl, hc2, r2⟩, b2⟩
      have H2 := Lib.hid r2
      have H3 := Lib.hid hc2
      have H4 := Lib.hid (HR0.out.step b2)
      have H5 := Lib.hid (below_le hbw b2)
      clear r2 hc2 b2 C1
      go_wp2
      go_ret2
      exact ⟨A2, _, c2, A0, L0, c0, rfl, ⟨rfl, H3.out, HL0.out.symm, HC0.out, H2.out, H4.out⟩, H5.out⟩
    · obtain ⟨I, rfl⟩ : ∃ I, k = I + 1 := ⟨k - 1, by omega⟩
      rw [show (((I + 1 : Nat) : Int) - 1) = (I : Int) by omega]
      obtain ⟨j, s, hjs, hs⟩ : ∃ j s, I = 32 * j + s ∧ s < 32 := ⟨I / 32, I % 32, by omega, by omega⟩
      have hjn : j < n := by omega
      have hja : j < a.length := by rw [HN.out]; exact hjn
      have hrv : r < val b := by have := HT.out.rest; rw [this]; exact Nat.mod_lt _ HB0.out
      have l0 : L0 ≤ 1024 := by have := wds_mono (Nat.le_of_lt hrv); have := HBW.out; omega
      rw [hjs] at HT
      have HRW := Lib.hid (fun W (hb : Below w.heap.size w W) => HB.out.step hb)
      obtain ⟨ab, ao, rfl, hab, hca⟩ := HA.out.2 (by omega)
      have hcl := hca j _ (getD_some hja)
      have hxl := HA.out.1.getD j
      obtain ⟨x, hx⟩ : ∃ x, a.getD j 0 = x := ⟨_, rfl⟩
      obtain ⟨bt, hbt⟩ : ∃ bt, x / 2 ^ s % 2 = bt := ⟨_, rfl⟩
      have hb2 : bt < 2 := by omega
      have hba := bit_and x s (by rw [← hx]; exact hxl)
      rw [hbt] at hba
      have hup := fun h => (HT.out.up HA.out.1 HB0.out hja hs h)
      have hdown := fun h => (HT.out.down HA.out.1 HB0.out hja hs h)
      rw [hx, hbt] at hup hdown
      rw [hx] at hcl
      obtain ⟨L1, hL1⟩ : ∃ L, (wds (2 * r)).length = L := ⟨_, rfl⟩
      have l1 : L1 ≤ 1025 := by have := sum_len_max r r; rw [← Nat.two_mul, hL1] at this; omega
      obtain ⟨r2, hr2⟩ : ∃ r2, 2 * r + bt = r2 := ⟨_, rfl⟩
      obtain ⟨L2, hL2⟩ : ∃ L, (wds r2).length = L := ⟨_, rfl⟩
      have l2 : L2 ≤ 1026 := by
        have := sum_len_max (2 * r) bt
        have h3 : (wds bt).length ≤ 1 := wds_len_lt (by omega)
        rw [hr2] at this; omega
      obtain ⟨L3, hL3⟩ : ∃ L, (wds (r2 - val b)).length = L := ⟨_, rfl⟩
      rw [hr2] at hup hdown
      have K1 := Lib.hid (show Calls Try.prog 55 #[.slice A0 L0 c0, .int .i64 1] wr (Told (wds (2 * r)) L1 wr) from by
        have := up_any A0 L0 c0 1 (wds r) wr hL0 hc0 (by omega) hr0 (by omega)
        rw [wds_val, Nat.pow_one, Nat.mul_comm] at this
        exact this.mono fun _ _ y => y.told hL1)
      have K2 := Lib.hid (fun W A2 c2 (r1 : RW W W.heap.size A2 (wds (2 * r))) => show bt = 1 → Calls Try.prog 46 #[.slice A2 L1 c2, .slice (some ⟨W.heap.size, 0, none⟩) 1 1] (W.alloc (.cells #[.int .u32 1] 40)) (Told (wds r2) L2 (W.alloc (.cells #[.int .u32 1] 40))) from fun hb1 => by
        have := plus_one A2 L1 c2 (wds (2 * r)) W hL1 (by omega) r1
        rw [wds_val, show 2 * r + 1 = r2 by omega] at this
        exact this.mono fun _ _ y => y.told hL2)
      have K3 := Lib.hid (fun W A2 c2 (hb : Below w.heap.size w W) (r1 : RW W W.heap.size A2 (wds r2)) => rcmp_any A2 C L2 c2 m d (wds r2) b W.heap.size W.heap.size W hL2 (by omega) r1 HM.out (by omega) (HRW.out W hb))
      have K4 := Lib.hid (fun W A2 c2 (hb : Below w.heap.size w W) (r1 : RW W W.heap.size A2 (wds r2)) => show val b ≤ r2 → Calls Try.prog 48 #[.slice A2 L2 c2, .slice C m d] W (ToldN (wds (r2 - val b)) L3 W) from fun hle => by
        have hmL : m ≤ L2 := by
          have h1 := wds_mono hle
          have h2 : b = wds (val b) := by rw [← nrm_wds HB.out.1, HNB.out]
          rw [← h2, HM.out, hL2] at h1
          exact h1
        have := less_own A2 C L2 c2 m d (wds r2) b W hL2 (by omega) r1 HM.out hmL (HRW.out W hb) (by rw [wds_val]; exact hle)
        rw [wds_val] at this
        exact this.mono fun _ _ y => y.toldN (wds_ws _) hL3)
      have HL1 := Lib.hid hL1
      have HR2E := Lib.hid hr2
      have HL2 := Lib.hid hL2
      have HL3 := Lib.hid hL3
      obtain ⟨y, hy⟩ : ∃ y, Q.getD j 0 = y := ⟨_, rfl⟩
      have hcell := fun (W : World) (hb : Row W w.heap.size Q) => hb.cell j (by rw [hQl]; exact hjn)
      have hfz := fun (W : World) (hb : Row W w.heap.size Q) => hb.frozen j
      rw [hy] at hup hcell
      have hyl := HT.out.ws.getD j
      rw [hy] at hyl
      have HW := Lib.hid (show bits BinOp.or IntKind.u32 (y : Int) (2 ^ s % 4294967296) = ((y ||| 2 ^ s : Nat) : Int) from or_one y s hyl hs)
      have HCELL := Lib.hid hcell
      have HFZ := Lib.hid hfz
      have HUP := Lib.hid hup
      have HDOWN := Lib.hid hdown
      have HCA := Lib.hid (fun (W : World) (hb : Below w.heap.size w W) => (hb.cell (p := ⟨ab, ao + j, none⟩) hab).trans hcl)
      have e3 : (I : Int) / 32 = (j : Int) := by omega
      have e4 : (I : Int) % 32 = (s : Int) := by omega
      have hj1 : (j : Int) < (n : Int) := by omega
      have hs0 : (0 : Int) ≤ (s : Int) := by omega
      have hI0 : (0 : Int) ≤ (I : Int) := by omega
      have hI2 : (I : Int) ≤ 32768 := by omega
      have hI3 : I ≤ 32 * n := by omega
      have HS32 := Lib.hid hs
      have HJS := Lib.hid hjs
      have HBT := Lib.hid hb2
      have HRLT := Lib.hid HR.out.lt
      clear hk h0 hjs hjn hja hrv l0 l1 l2 hL0 hc0 hr0 hL1 hr2 hL2 hL3 hca hxl hx hbt hcell hfz hup hdown hQl hcl hab hy hyl
      cases hbit : decide (bt = 1)
      · have hbe : bt = 0 := by have := of_decide_eq_false hbit; have := HBT.out; omega
        have hT : (bits BinOp.and IntKind.u32 ((x : Int) / 2 ^ s) 1 == 1) = false := by rw [hba, hbe]; rfl
        obtain rfl : 2 * r = r2 := by rw [← HR2E.out, hbe, Nat.add_zero]
        obtain rfl : L1 = L2 := by rw [← HL1.out, ← HL2.out]
        clear hba hbe hbit hs hb2 K2
        go_wp2_with fail
        refine K1.out.mono ?_
        rintro e w3 ⟨A3, c3, rfl, ⟨hc3, r3⟩, b1⟩
        have B3 := below_le hbw b1
        have hcx := HCA.out w3 B3
        have R3 := HR.out.below HRLT.out b1
        have D3 := K3.out w3 A3 c3 B3 r3
        have D4 := Lib.hid (K4.out w3 A3 c3 B3 r3)
        clear K1 K3 K4 b1
        by_cases hle : val b ≤ (2 * r)
        · have ho : (0 : Int) ≤ ord (wds (2 * r)) b := by
            rcases Nat.lt_or_ge (val b) (2 * r) with h1 | h1
            · rw [ord_gt (by rw [wds_val]; exact h1)]; omega
            · rw [ord_eq (by rw [wds_val]; omega)]; omega
          obtain ⟨o, hoe⟩ : ∃ o, ord (wds (2 * r)) b = o := ⟨_, rfl⟩
          rw [hoe] at ho D3
          have D5 := D4.out hle
          obtain ⟨u1, u2⟩ := HUP.out hle
          have HU2 := Lib.hid u2
          clear hle hoe u1 u2 D4 r3
          go_wp2_with fail
          refine D3.mono ?_
          rintro e w' ⟨rfl, rfl⟩
          go_wp2_with fail
          refine D5.mono ?_
          rintro e w5 ⟨A5, c5, rfl, ⟨hc5, r5, q5⟩, b5⟩
          have B5 := below_le B3 b5
          have R5 := R3.below R3.lt b5
          have hcell := HCELL.out w5 R5
          have hfz := HFZ.out w5 R5
          have HR5 := Lib.hid (R5.set j (y ||| 2 ^ s))
          have HS5 := Lib.hid (r5.other (g := w.heap.size) (j := j) (fun ad h => Nat.lt_of_lt_of_le R3.lt (q5 ad h)) (.int .u32 ((y ||| 2 ^ s : Nat) : Int)))
          have HC5 := Lib.hid hc5
          have HB5 := Lib.hid (B5.setCell (p := ⟨w.heap.size, j, none⟩) (Nat.le_refl _) (.int .u32 ((y ||| 2 ^ s : Nat) : Int)))
          clear r5 q5 b5 R5 B5 hc5 D3 D5 B3 R3
          go_wp2
          rw [HW.out]
          refine ⟨⟨I, _, (2 * r) - val b, rfl, by omega, Lib.hid ⟨A5, c5, by rw [HL3.out], by rw [HL3.out]; exact HC5.out, ?_⟩, HR5, by rw [HJS.out]; exact HU2, HB5.out⟩, ?_⟩
          · have := HS5.out
            rw [show (w5.setCell ⟨w.heap.size, j, none⟩ (.int .u32 ((y ||| 2 ^ s : Nat) : Int))).heap.size = w5.heap.size by simp [World.setCell]]
            exact this
          · simp [intOf]
        · have ho : ¬ (0 : Int) ≤ ord (wds (2 * r)) b := by rw [ord_lt (by rw [wds_val]; omega)]; omega
          obtain ⟨o, hoe⟩ : ∃ o, ord (wds (2 * r)) b = o := ⟨_, rfl⟩
          rw [hoe] at ho D3
          have HD2 := Lib.hid (HDOWN.out (by omega))
          have HS3 := Lib.hid r3
          have HC3 := Lib.hid hc3
          clear hle hoe D4 r3 hc3
          go_wp2_with fail
          refine D3.mono ?_
          rintro e w' ⟨rfl, rfl⟩
          go_wp2
          go_roundw
          case rel => exact ⟨I, Q, (2 * r), by go_num, by omega, Lib.hid ⟨A3, c3, by rw [HL2.out], by rw [HL2.out]; exact HC3.out, HS3.out⟩, Lib.hid R3, by rw [HJS.out]; exact HD2, B3⟩
          case measure => simp [intOf]
      · have hbe : bt = 1 := of_decide_eq_true hbit
        have hT : (bits BinOp.and IntKind.u32 ((x : Int) / 2 ^ s) 1 == 1) = true := by rw [hba, hbe]; rfl
        have K2b := Lib.hid (fun W A2 c2 r1 => K2.out W A2 c2 r1 hbe)
        clear hba hbe hbit hs hb2 K2
        go_wp2_with fail
        refine K1.out.mono ?_
        rintro e w1 ⟨A1, c1, rfl, ⟨hc1, r1⟩, b1⟩
        have B1 := below_le hbw b1
        have hcx := HCA.out w1 B1
        have D2 := K2b.out w1 A1 c1 r1
        have R1 := HR.out.below HRLT.out b1
        have B2 : Below w.heap.size w (w1.alloc (.cells #[.int .u32 1] 40)) := B1.alloc B1.size _
        have R2 : Row (w1.alloc (.cells #[.int .u32 1] 40)) w.heap.size Q := R1.below R1.lt ((Below.refl _ _).alloc (Nat.le_refl _) _)
        have HB2 := Lib.hid B2
        have HR2 := Lib.hid R2
        clear r1 b1 B2 R2 R1 K1 K2b hc1
        go_wp2_with fail
        refine D2.mono ?_
        rintro e w3 ⟨A3, c3, rfl, ⟨hc3, r3⟩, b3⟩
        have B3 := below_le HB2.out b3
        have R3 := HR2.out.below HR2.out.lt b3
        have D3 := K3.out w3 A3 c3 B3 r3
        have D4 := Lib.hid (K4.out w3 A3 c3 B3 r3)
        clear K3 K4 b3
        by_cases hle : val b ≤ r2
        · have ho : (0 : Int) ≤ ord (wds r2) b := by
            rcases Nat.lt_or_ge (val b) r2 with h1 | h1
            · rw [ord_gt (by rw [wds_val]; exact h1)]; omega
            · rw [ord_eq (by rw [wds_val]; omega)]; omega
          obtain ⟨o, hoe⟩ : ∃ o, ord (wds r2) b = o := ⟨_, rfl⟩
          rw [hoe] at ho D3
          have D5 := D4.out hle
          obtain ⟨u1, u2⟩ := HUP.out hle
          have HU2 := Lib.hid u2
          clear hle hoe u1 u2 D4 r3
          go_wp2_with fail
          refine D3.mono ?_
          rintro e w' ⟨rfl, rfl⟩
          go_wp2_with fail
          refine D5.mono ?_
          rintro e w5 ⟨A5, c5, rfl, ⟨hc5, r5, q5⟩, b5⟩
          have B5 := below_le B3 b5
          have R5 := R3.below R3.lt b5
          have hcell := HCELL.out w5 R5
          have hfz := HFZ.out w5 R5
          have HR5 := Lib.hid (R5.set j (y ||| 2 ^ s))
          have HS5 := Lib.hid (r5.other (g := w.heap.size) (j := j) (fun ad h => Nat.lt_of_lt_of_le R3.lt (q5 ad h)) (.int .u32 ((y ||| 2 ^ s : Nat) : Int)))
          have HC5 := Lib.hid hc5
          have HB5 := Lib.hid (B5.setCell (p := ⟨w.heap.size, j, none⟩) (Nat.le_refl _) (.int .u32 ((y ||| 2 ^ s : Nat) : Int)))
          clear r5 q5 b5 R5 B5 hc5 D3 D5 B3 R3
          go_wp2
          rw [HW.out]
          refine ⟨⟨I, _, r2 - val b, rfl, by omega, Lib.hid ⟨A5, c5, by rw [HL3.out], by rw [HL3.out]; exact HC5.out, ?_⟩, HR5, by rw [HJS.out]; exact HU2, HB5.out⟩, ?_⟩
          · have := HS5.out
            rw [show (w5.setCell ⟨w.heap.size, j, none⟩ (.int .u32 ((y ||| 2 ^ s : Nat) : Int))).heap.size = w5.heap.size by simp [World.setCell]]
            exact this
          · simp [intOf]
        · have ho : ¬ (0 : Int) ≤ ord (wds r2) b := by rw [ord_lt (by rw [wds_val]; omega)]; omega
          obtain ⟨o, hoe⟩ : ∃ o, ord (wds r2) b = o := ⟨_, rfl⟩
          rw [hoe] at ho D3
          have HD2 := Lib.hid (HDOWN.out (by omega))
          have HS3 := Lib.hid r3
          have HC3 := Lib.hid hc3
          clear hle hoe D4 r3 hc3
          go_wp2_with fail
          refine D3.mono ?_
          rintro e w' ⟨rfl, rfl⟩
          go_wp2
          go_roundw
          case rel => exact ⟨I, Q, r2, by go_num, by omega, Lib.hid ⟨A3, c3, by rw [HL2.out], by rw [HL2.out]; exact HC3.out, HS3.out⟩, Lib.hid R3, by rw [HJS.out]; exact HD2, B3⟩
          case measure => simp [intOf]
end Go.Proofs.Ytclggnaljijjoaa
