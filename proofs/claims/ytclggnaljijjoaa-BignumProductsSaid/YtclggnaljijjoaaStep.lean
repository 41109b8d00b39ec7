/-
  Contracts of subTimes and of divideStep.
-/
import Derived.Test.YtclggnaljijjoaaDiv32
import Derived.Test.YtclggnaljijjoaaAdd
namespace Go.Proofs.Ytclggnaljijjoaa
open Go.RowKit
def TakePost (g : Nat) (R : List Nat) (o : Nat) (b : List Nat) (x : Nat) (w : World) (e : Ending) (w' : World) : Prop :=
  ∃ S q, e = .returned (.int .u32 (q : Nat)) ∧ Row w' g S ∧ TakeT R o b x b.length S q ∧ Only g w w'
set_option maxRecDepth 100000 in
set_option maxHeartbeats 2000000 in
theorem subTimes_any (g o n c : Nat) (R : List Nat) (A : Option Addr) (m d : Nat) (b : List Nat) (x B : Nat) (w : World) (hR : Row w g R) (hRw : Ws R) (ho : o + n ≤ R.length) (hmn : m ≤ n) (hbl : b.length = m) (hm0 : 0 < m)
    (hB : RW w B A b) (hgB : B ≤ g) (hx : x < 4294967296) (hm : R.length ≤ 35184372088832) :
    Calls Try.prog 66 #[.slice (some ⟨g, o, none⟩) n c, .slice A m d, .int .u32 x] w (TakePost g R o b x w) := by
  obtain ⟨a, p, rfl, hab, hc⟩ := hB.2 (by omega)
  have HBW := Lib.hid hB.1
  have HRW := Lib.hid hRw
  have HBL := Lib.hid hbl
  have HC := Lib.hid hc
  have HX := Lib.hid hx
  have HR := Lib.hid hR
  have hm1 : (m : Int) ≤ (n : Int) := by omega
  have hn1 : (n : Int) ≤ 35184372088832 := by omega
  have HO := Lib.hid ho
  have hag : a < g := by omega
  have h0' : (0 : Int) ≤ (x : Int) := by omega
  clear hR hRw ho hmn hbl hB hgB hx hm hc hm0
  go_enter Try.func66, Try.ntmps66
  go_wp2
  go_loopw [14, 7] (fun i v wr => ∃ (k : Nat) (S : List Nat) (q : Nat), i = .int .i64 k ∧ v = .int .u64 (q : Nat) ∧ k ≤ m ∧ Hid (Row wr g S) ∧ Hid (TakeT R o b x k S q) ∧ Only g w wr) (fun i _ _ => m - (intOf i).toNat)
  case atStart => exact ⟨0, R, 0, rfl, rfl, Nat.zero_le _, HR, Lib.hid (TakeT.start o b x HRW.out), Only.refl _ _⟩
  case round =>
    obtain ⟨k, S, q, rfl, rfl, hk, HS, HT, hbw⟩ := hrel
    by_cases hlt : k < m
    · have hkb : k < b.length := by rw [HBL.out]; exact hlt
      have hok : o + k < R.length := by have := HO.out; omega
      obtain ⟨e1, hnext⟩ := HT.out.next HRW.out HBW.out HX.out hok
      have hS := HS.out.cell (o + k) (by rw [HT.out.len]; exact hok)
      have hfz := HS.out.frozen (o + k)
      have hcl := HC.out k _ (getD_some hkb)
      rw [← hbw.below.cell (p := ⟨a, p + k, none⟩) hag] at hcl
      obtain ⟨l1, l2⟩ := takC_le (k := k) HBW.out HX.out HT.out.low
      have hset := HS.out.set (o + k) (takW (R.getD (o + k) 0) (takC b x k q))
      have HE := Lib.hid (show takC b x k q = q + b.getD k 0 * x from rfl)
      have u1 := HBW.out.getD k
      have r1 := HRW.out.getD (o + k)
      have q1 := HT.out.low
      rw [e1] at hS
      obtain ⟨t, ht⟩ : ∃ t, takC b x k q = t := ⟨_, rfl⟩
      obtain ⟨u, hu⟩ : ∃ u, b.getD k 0 = u := ⟨_, rfl⟩
      obtain ⟨r, hr⟩ : ∃ r, R.getD (o + k) 0 = r := ⟨_, rfl⟩
      rw [ht, hu] at HE
      rw [ht] at l2
      rw [hr, ht] at hnext hset
      rw [hu] at hcl l1 u1
      rw [hr] at hS r1
      have low := tak_low r t l2
      have C1 := Lib.hid (fun W => show Calls Try.prog 47 #[.int .u32 (r : Nat), .int .u32 ((t : Int) % 4294967296), .int .u32 0] W fun e w' => e = .returned (.tuple #[.int .u32 (takW r t : Nat), .int .u32 (takB r t : Nat)]) ∧ W = w' from by
        have := sub32_any r (t % 4294967296) 0 W r1 (by omega) (by omega)
        rw [show ((t % 4294967296 : Nat) : Int) = (t : Int) % 4294967296 by omega] at this
        exact this)
      obtain ⟨W', hW'⟩ : ∃ W', takW r t = W' := ⟨_, rfl⟩
      obtain ⟨B', hB'⟩ : ∃ B', takB r t = B' := ⟨_, rfl⟩
      rw [hW', hB'] at C1 hnext
      rw [hW'] at hset
      rw [hB'] at low
      have hB1 : B' ≤ 1 := by rw [← hB']; unfold takB; split <;> omega
      have HNX := Lib.hid hnext
      have k1 : IntKind.u64.wrap (u : Int) = (u : Int) := IntWalk.u64_in _ (by omega)
      have k2 : IntKind.u64.wrap (x : Int) = (x : Int) := IntWalk.u64_in _ (by have := HX.out; omega)
      have k4 : IntKind.u64.wrap ((u : Int) * (x : Int)) = (u : Int) * (x : Int) := IntWalk.u64_in _ (by
        have : ((u * x : Nat) : Int) = (u : Int) * (x : Int) := Int.natCast_mul u x
        omega)
      have k6 : IntKind.u64.wrap ((q : Int) + (u : Int) * (x : Int)) = (t : Int) := by
        have : ((u * x : Nat) : Int) = (u : Int) * (x : Int) := Int.natCast_mul u x
        have := HE.out
        rw [IntWalk.u64_in _ (by omega)]
        omega
      obtain ⟨T, hT⟩ : ∃ T, t / 4294967296 + B' = T := ⟨_, rfl⟩
      have k7 : IntKind.u64.wrap (B' : Int) = (B' : Int) := IntWalk.u64_in _ (by omega)
      have k8 : IntKind.u64.wrap ((t : Int) / 4294967296 + (B' : Int)) = (T : Int) := by rw [IntWalk.u64_in _ (by omega)]; omega
      rw [hT] at HNX
      have HSET := Lib.hid hset
      clear e1 hnext l1 l2 u1 r1 q1 ht hu hr hkb hok hset low hW' hB' hB1 hT HE
      go_wp2_with (go_at_call 47; refine (C1.out _).mono ?_; rintro e w' ⟨rfl, rfl⟩)
      go_roundw
      case rel => exact ⟨k + 1, _, T, by go_num, rfl, by omega, HSET, HNX, hbw.setCell _⟩
      case measure => simp [intOf]; omega
    · have HZ := Lib.hid (show k = b.length by rw [HBL.out]; omega)
      have q1 := HT.out.low
      have k1 : IntKind.u32.wrap (q : Int) = (q : Int) := IntWalk.u32_in _ (by omega)
      have HT2 := Lib.hid (HZ.out ▸ HT.out : TakeT R o b x b.length S q)
      clear q1
      go_wp2
      go_ret
      exact ⟨S, q, rfl, HS.out, HT2.out, hbw⟩
theorem quiet_plus {P : Program} {f : FuncId} {args : Array Value} {w : World} {n : Nat} {v : Value}
    (h : Calls P f args (w.drewN n) fun e w' => e = .returned v ∧ ∃ j, w' = (w.drewN n).drewN j) : Calls P f args (w.drewN n) fun e w'' => e = .returned v ∧ ∃ m, w'' = w.drewN m :=
  h.mono fun _ _ ⟨he, j, hj⟩ => ⟨he, n + j, by rw [hj, World.drewN_drewN]⟩
/-- What divideStep tells and leaves. -/
def StepPost (g : Nat) (R : List Nat) (o : Nat) (b : List Nat) (w : World) (e : Ending) (w' : World) : Prop :=
  ∃ S, e = .returned (.int .u32 ((val ((R.drop o).take (b.length + 1)) / val b : Nat) : Int)) ∧ Row w' g S ∧ S.length = R.length ∧ Ws S ∧ (∀ j, j < o ∨ o + (b.length + 1) ≤ j → S.getD j 0 = R.getD j 0) ∧
    val ((S.drop o).take (b.length + 1)) = val ((R.drop o).take (b.length + 1)) % val b ∧ Only g w w'
theorem guess_high {R : List Nat} {o N : Nat} {b : List Nat} (hR : Ws R) (hb : Ws b) (hN : b.length = N + 1) (ho : o + b.length < R.length) (hb0 : 0 < val b) (htop : 0 < b.getD N 0)
    (hP : val ((R.drop o).take (b.length + 1)) < 4294967296 * val b) :
    val ((R.drop o).take (b.length + 1)) / val b ≤ gues (R.getD (o + (N + 1)) 0) (R.getD (o + N) 0) (b.getD N 0) ∧ gues (R.getD (o + (N + 1)) 0) (R.getD (o + N) 0) (b.getD N 0) < 4294967296 := by
  have hlo := hR.getD (o + N)
  have hy := hb.getD N
  refine ⟨?_, ?_⟩
  · unfold gues
    split
    · have : val ((R.drop o).take (b.length + 1)) / val b < 4294967296 := by rw [Nat.div_lt_iff_lt_mul hb0]; exact hP
      omega
    · rw [hN]
      refine guess_div (p' := val ((R.drop o).take N)) (d' := val (b.take N)) (K := 4294967296 ^ N) ?_ ?_ ?_ htop
      · rw [val_part_succ R o (N + 1) (by omega), val_part_succ R o N (by omega), Nat.pow_succ]
        grind
      · have := val_lt ((hR.drop o).take N)
        rwa [List.length_take, List.length_drop, Nat.min_eq_left (by omega)] at this
      · have := val_take_succ b N (by omega)
        rw [List.take_of_length_le (by omega)] at this
        rw [this]
  · unfold gues
    split
    · omega
    · next h =>
      rw [Nat.div_lt_iff_lt_mul htop]
      have : (R.getD (o + (N + 1)) 0 + 1) * 4294967296 ≤ b.getD N 0 * 4294967296 := Nat.mul_le_mul_right _ (by omega)
      omega
set_option maxRecDepth 100000 in
set_option maxHeartbeats 4000000 in
theorem step_any (g o n c : Nat) (R : List Nat) (A : Option Addr) (N m d : Nat) (b : List Nat) (B : Nat) (w : World) (hR : Row w g R) (hRw : Ws R) (hn : n = N + 2) (hmN : m = N + 1) (ho : o + n ≤ R.length) (hbl : b.length = N + 1)
    (hB : RW w B A b) (hgB : B ≤ g) (hm : R.length ≤ 35184372088832) (hb0 : 0 < val b) (htop : 0 < b.getD N 0) (hP : val ((R.drop o).take (b.length + 1)) < 4294967296 * val b) :
    Calls Try.prog 63 #[.slice (some ⟨g, o, none⟩) n c, .slice A m d] w (StepPost g R o b w) := by
  subst hn
  subst hmN
  obtain ⟨a, p, rfl, hab, hc⟩ := hB.2 (by omega)
  obtain ⟨gh1, gh2⟩ := guess_high hRw hB.1 hbl (by omega) hb0 htop hP
  have d1 := hc N _ (getD_some (by omega))
  have d2 := hR.cell (o + (N + 1)) (by omega)
  have d3 := hR.cell (o + N) (by omega)
  have l1 := hRw.getD (o + (N + 1))
  have l2 := hRw.getD (o + N)
  have l3 := hB.1.getD N
  have C1 := Lib.hid (fun W => guess_any (R.getD (o + (N + 1)) 0) (R.getD (o + N) 0) (b.getD N 0) W l2 l3)
  obtain ⟨x, hx⟩ : ∃ x, gues (R.getD (o + (N + 1)) 0) (R.getD (o + N) 0) (b.getD N 0) = x := ⟨_, rfl⟩
  rw [hx] at C1 gh1 gh2
  obtain ⟨u1, hu1⟩ : ∃ u, R.getD (o + (N + 1)) 0 = u := ⟨_, rfl⟩
  obtain ⟨u2, hu2⟩ : ∃ u, R.getD (o + N) 0 = u := ⟨_, rfl⟩
  obtain ⟨u3, hu3⟩ : ∃ u, b.getD N 0 = u := ⟨_, rfl⟩
  rw [hu1, hu2, hu3] at C1
  rw [hu1] at d2 l1
  rw [hu2] at d3
  rw [hu3] at d1
  have C2 := Lib.hid (fun j => subTimes_any g o (N + 2) c R (some ⟨a, p, none⟩) (N + 1) d b x B (w.drewN j) (hR.drewN j) hRw ho (by omega) hbl (by omega) (hB.drewN j) hgB gh2 hm)
  have HRW := Lib.hid hRw
  have HBL := Lib.hid hbl
  have HB := Lib.hid hB
  have HGB := Lib.hid hgB
  have HO := Lib.hid ho
  have HB0 := Lib.hid hb0
  have HG := Lib.hid gh1
  have HG2 := Lib.hid gh2
  have HU1 := Lib.hid hu1
  have HM := Lib.hid hm
  have hN1 : (N : Int) + 2 ≤ 35184372088832 := by omega
  have hoN1 : (o : Int) + (N : Int) + 2 ≤ 35184372088832 := by omega
  have L1 := Lib.hid l1
  clear hR hRw ho hbl hB hgB hm hb0 htop hP hc gh1 gh2 l1 l2 l3 hx hu1 hu2 hu3 hab
  go_enter Try.func63, Try.ntmps63
  go_wp2
  go_quiet ((go_at_call 65; exact quiet_plus (C1.out _)))
  go_wp2_with fail
  refine (C2.out _).mono ?_
  rintro e w2 ⟨S, q, rfl, hrow, ht, hb2⟩
  have hbw2 : Only g w w2 := ((Only.refl _ _).drewN nq).trans hb2
  have hql := ht.low
  have hSl := ht.len
  obtain ⟨e1, hst⟩ := ht.step (by rw [HBL.out]; have := HO.out; omega) HRW.out HG2.out HG.out
  rw [HBL.out, HU1.out] at e1 hst
  have hcell := hrow.cell (o + (N + 1)) (by rw [hSl]; have := HO.out; omega)
  have hfz := hrow.frozen (o + (N + 1))
  rw [e1] at hcell
  have C3 := Lib.hid (fun W => show Calls Try.prog 47 #[.int .u32 (u1 : Nat), .int .u32 (q : Nat), .int .u32 0] W fun e w' => e = .returned (.tuple #[.int .u32 ((u1 + 4294967296 * 2 - q - 0) % 4294967296 : Nat), .int .u32 ((if u1 < q + 0 then 1 else 0 : Nat) : Int)]) ∧ W = w' from sub32_any u1 q 0 W L1.out hql (by omega))
  obtain ⟨W3, hW3⟩ : ∃ W3, (u1 + 4294967296 * 2 - q - 0) % 4294967296 = W3 := ⟨_, rfl⟩
  obtain ⟨B3, hB3⟩ : ∃ B3, (if u1 < q + 0 then 1 else 0) = B3 := ⟨_, rfl⟩
  rw [hW3, hB3] at C3 hst
  have HROW := Lib.hid (hrow.set (o + (N + 1)) W3)
  have HST := Lib.hid hst
  have HBW := Lib.hid hbw2
  clear hrow ht hb2 hbw2 hql hSl e1 hst hW3 hB3 C1 C2
  go_wp2_with (go_at_call 47; refine (C3.out _).mono ?_; rintro e w' ⟨rfl, rfl⟩)
  go_loopw [6, 8] (fun ov bv wr => ∃ (of bl : Nat) (S : List Nat), ov = .int .u32 (of : Nat) ∧ bv = .int .u32 (bl : Nat) ∧ Hid (Row wr g S) ∧ Hid (StepT R o b S of bl) ∧ Only g w wr) (fun ov _ _ => (intOf ov).toNat)
  case atStart => exact ⟨x, B3, _, rfl, rfl, HROW, HST, HBW.out.setCell _⟩
  case round =>
    obtain ⟨of, bl, T, rfl, rfl, HR2, HT2, hbw⟩ := hrel
    have hbl : bl = 0 ∨ bl = 1 := by have := HT2.out.low; omega
    rcases hbl with h0 | h0
    · have b0 : ((bl : Int) == 1) = false := by rw [h0]; rfl
      rw [h0] at HT2
      obtain ⟨f1, f2⟩ := HT2.out.fin HB0.out
      have HF1 := Lib.hid f1
      have HF2 := Lib.hid f2
      clear f1 f2 h0
      go_wp2
      go_ret
      exact ⟨T, congrArg (fun k : Nat => Ending.returned (.int .u32 (k : Int))) HF1.out, HR2.out, HT2.out.len, HT2.out.ws, HT2.out.far, HF2.out, hbw⟩
    · have b0 : ((bl : Int) == 1) = true := by rw [h0]; rfl
      rw [h0] at HT2
      have HBL1 := Lib.hid h0
      obtain ⟨m1, _⟩ := HT2.out.more HB0.out (by rw [HBL.out]; have := HO.out; omega)
      have hofl := HT2.out.word
      have hTl := HT2.out.len
      have C4 := Lib.hid (addTimes_only g o (N + 2) c T (some ⟨a, p, none⟩) (N + 1) d b 1 B wr HR2.out HT2.out.ws (by rw [hTl]; exact HO.out) (by omega) HBL.out (HB.out.below (hbw.below.mono HGB.out)) HGB.out (by omega) (by rw [hTl]; exact HM.out))
      obtain ⟨k, rfl⟩ : ∃ k, of = k + 1 := ⟨of - 1, by omega⟩
      have k1 : IntKind.u32.wrap (((k + 1 : Nat) : Int) - 1) = (k : Int) := by rw [IntWalk.u32_in _ (by omega)]; omega
      have HTL := Lib.hid hTl
      have hkl : (k : Int) < 4294967296 := by omega
      clear m1 hofl hTl h0
      go_wp2_with fail
      refine C4.out.mono ?_
      rintro e w4 ⟨U, q4, rfl, hrow4, hadd, hb4⟩
      have hbw4 : Only g w w4 := hbw.trans hb4
      have hUl := hadd.len
      have hq4 := hadd.low
      obtain ⟨f1, f2, f3⟩ := HT2.out.back HB0.out (by rw [HBL.out]; have := HO.out; omega) hadd
      rw [HBL.out] at f1 f2 f3
      have hcell4 := hrow4.cell (o + (N + 1)) (by rw [hUl, HTL.out]; have := HO.out; omega)
      have hfz4 := hrow4.frozen (o + (N + 1))
      rw [f1] at hcell4
      have htl := HT2.out.ws.getD (o + (N + 1))
      obtain ⟨u4, hu4⟩ : ∃ u, T.getD (o + (N + 1)) 0 = u := ⟨_, rfl⟩
      rw [hu4] at hcell4 f2 f3 htl
      have C5 := Lib.hid (fun W => show Calls Try.prog 41 #[.int .u32 (u4 : Nat), .int .u32 (q4 : Nat), .int .u32 0] W fun e w' => e = .returned (.tuple #[.int .u32 ((u4 + q4 + 0) % 4294967296 : Nat), .int .u32 ((u4 + q4 + 0) / 4294967296 : Nat)]) ∧ W = w' from add32_any u4 q4 0 W htl hq4 (by omega))
      obtain ⟨W4, hW4⟩ : ∃ W4, (u4 + q4 + 0) % 4294967296 = W4 := ⟨_, rfl⟩
      obtain ⟨c4, hc4⟩ : ∃ c4, (u4 + q4 + 0) / 4294967296 = c4 := ⟨_, rfl⟩
      rw [hW4, hc4] at C5 f3
      rw [hc4] at f2
      rw [Nat.add_sub_cancel] at f3
      have k2 : IntKind.u32.wrap ((bl : Int) - (c4 : Int)) = ((1 - c4 : Nat) : Int) := by rw [HBL1.out, IntWalk.u32_in _ (by omega)]; omega
      have HROW4 := Lib.hid (hrow4.set (o + (N + 1)) W4)
      have HST4 := Lib.hid f3
      have HBW4 := Lib.hid hbw4
      clear hrow4 hadd hb4 hbw4 hUl hq4 f1 f2 f3 htl hu4 hW4 hc4 C4
      go_wp2_with (go_at_call 41; refine (C5.out _).mono ?_; rintro e w' ⟨rfl, rfl⟩)
      go_roundw
      case rel => exact ⟨k, 1 - c4, _, rfl, rfl, HROW4, HST4, HBW4.out.setCell _⟩
      case measure => simp [intOf]
end Go.Proofs.Ytclggnaljijjoaa
