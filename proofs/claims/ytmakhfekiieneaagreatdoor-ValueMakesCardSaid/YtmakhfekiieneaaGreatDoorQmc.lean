/-
  Merged texts (BD, Dp, Dq, BE, Dc, De, Dh, St, Sa, Sc, Sd, BG, Nv, Tc, Tj, Wf, Wg, Wh, Wi, Wk, Sf).
-/
import Derived.Test.YtmakhfekiieneaaGreatDoorQmb
import Derived.Laws.Closers25b
import Derived.Lib.SlTrimSet
import Derived.Lib.Case
import Derived.Lib.AppendIntMem
open Go.RowKit
set_option maxRecDepth 100000
set_option maxHeartbeats 40000000
namespace Go.Proofs.YtmakhfekiieneaaGreatDoor
section
def Ahw (L : List Nat) (N : Nat) (w : World) (e : Ending) (w' : World) : Prop := ∃ A c, e = .returned (.tuple #[.slice A N c, .int .i64 0]) ∧ (N ≤ c ∧ RW w' w'.heap.size A L) ∧ Below w.heap.size w w'
theorem NatPost.one {v N : Nat} {w w' : World} {e : Ending} (h : NatPost v w e w') (hl : Ah v = false) (hN : (wds v).length = N) : Ahw (wds v) N w e w' := by
 obtain ⟨A, c, h1, h2, h3⟩ := h.get hl
 rw [hN] at h1 h2
 exact ⟨A, c, h1, h2, h3⟩
structure LongT (A D n M i : Nat) (R Q : List Nat) : Prop where
 lenR : R.length = M + n
 lenQ : Q.length = M
 wsR : Ws R
 wsQ : Ws Q
 sum : val R + 4294967296 ^ i * (val (Q.drop i) * D) = A
 rest : val (R.drop i) < D
theorem LongT.start {va vb s la n M : Nat} {R : List Nat} (hR : Ws R) (hl : R.length = M + n) (hM : la + 1 = M + n) (hn : 0 < n) (ha : va < 4294967296 ^ la) (hb : 4294967296 ^ (n - 1) ≤ vb) (hv : val R = 2 ^ s * va) :
  LongT (2 ^ s * va) (2 ^ s * vb) n M M R (List.replicate M 0) := by
 refine ⟨hl, List.length_replicate, hR, Ws.zeros _, ?_, ?_⟩
 ·rw [List.drop_of_length_le (by rw [List.length_replicate]; exact Nat.le_refl _)]
  simp [val, hv]
 ·have e := Eo R M (by omega)
  rw [hv] at e
  have e2 : 4294967296 ^ la = 4294967296 ^ M * 4294967296 ^ (n - 1) := by rw [← Nat.pow_add]; congr 1; omega
  have h1 : 2 ^ s * va < 2 ^ s * (4294967296 ^ M * 4294967296 ^ (n - 1)) := by rw [← e2]; exact Nat.mul_lt_mul_of_pos_left ha (Nat.two_pow_pos s)
  have h2 : 4294967296 ^ M * val (R.drop M) < 4294967296 ^ M * (2 ^ s * 4294967296 ^ (n - 1)) := by
   have : 4294967296 ^ M * (2 ^ s * 4294967296 ^ (n - 1)) = 2 ^ s * (4294967296 ^ M * 4294967296 ^ (n - 1)) := by grind
   omega
  have h3 := Nat.lt_of_mul_lt_mul_left h2
  exact Nat.lt_of_lt_of_le h3 (Nat.mul_le_mul_left _ hb)
theorem LongT.part {A D n M i : Nat} {R Q : List Nat} (h : LongT A D n M (i + 1) R Q) (hi : i < M) (hD : D < 4294967296 ^ n) :
  val ((R.drop i).take (n + 1)) = val (R.drop i) ∧ val ((R.drop i).take (n + 1)) < 4294967296 * D := by
 have e := D9 R i (by have := h.lenR; omega)
 have h1 := h.wsR.getD i
 have h2 := h.rest
 have h3 : val (R.drop i) < 4294967296 * D := by
  have : 4294967296 * (val (R.drop (i + 1)) + 1) ≤ 4294967296 * D := Nat.mul_le_mul_left _ h2
  omega
 have h4 : val (R.drop i) < 4294967296 ^ (n + 1) := by
  rw [Nat.pow_succ, Nat.mul_comm]
  exact Nat.lt_trans h3 (Nat.mul_lt_mul_of_pos_left hD (by omega))
 have h5 := Kz h4
 exact ⟨h5, by rw [h5]; exact h3⟩
theorem LongT.next {A D n M i : Nat} {R Q S : List Nat} (h : LongT A D n M (i + 1) R Q) (hi : i < M) (hD : D < 4294967296 ^ n) (hD0 : 0 < D)
  (hlen : S.length = R.length) (hws : Ws S) (hfar : ∀ j, j < i ∨ i + (n + 1) ≤ j → S.getD j 0 = R.getD j 0)
  (hs : val ((S.drop i).take (n + 1)) = val ((R.drop i).take (n + 1)) % D) :
  LongT A D n M i S (Q.set i (val ((R.drop i).take (n + 1)) / D)) := by
 obtain ⟨p1, p2⟩ := h.part hi hD
 obtain ⟨h1, h2, h3, h4, h5, h6⟩ := h
 have hq : val ((R.drop i).take (n + 1)) / D < 4294967296 := by rw [Nat.div_lt_iff_lt_mul hD0]; exact p2
 have r1 := Eo (R.drop i) (n + 1) (by rw [List.length_drop]; omega)
 have s1 := Eo (S.drop i) (n + 1) (by rw [List.length_drop]; omega)
 have e1 : val ((S.drop i).drop (n + 1)) = val ((R.drop i).drop (n + 1)) := by
  rw [List.drop_drop, List.drop_drop]
  exact Oc (fun j => by rw [Dt, Dt]; exact hfar _ (.inr (by omega)))
 have e2 : 4294967296 ^ (n + 1) * val ((R.drop i).drop (n + 1)) = 0 := by omega
 rw [e1, e2, Nat.add_zero] at s1
 have e3 : val (R.take i) = val (S.take i) := by
  rw [Co (l := R) (m := S) i (by omega) (by omega) (fun j hj => (hfar j (.inl hj)).symm)]
 have r2 := Eo R i (by omega)
 have s2 := Eo S i (by omega)
 have e4 : val (R.drop i) = val (S.drop i) + val (R.drop i) / D * D := by
  rw [s1, hs, p1, Nat.mul_comm]
  exact (Nat.mod_add_div _ _).symm
 have q1 := D9 (Q.set i (val ((R.drop i).take (n + 1)) / D)) i (by rw [List.length_set]; omega)
 rw [Bg (by omega)] at q1
 have e5 : (Q.set i (val ((R.drop i).take (n + 1)) / D)).drop (i + 1) = Q.drop (i + 1) := by
  rw [List.drop_set, if_pos (by omega)]
 rw [e5] at q1
 refine ⟨by omega, by rw [List.length_set]; exact h2, hws, h4.set hq, ?_, ?_⟩
 ·rw [q1, s2, ← e3, p1]
  rw [r2] at h5
  rw [Nat.pow_succ] at h5
  generalize val (R.drop i) / D = q at *
  generalize val (Q.drop (i + 1)) = V at *
  generalize 4294967296 ^ i = K at *
  rw [e4] at h5
  grind
 ·rw [s1, hs]; exact Nat.mod_lt _ hD0
theorem LongT.fin {A D n M : Nat} {R Q : List Nat} (h : LongT A D n M 0 R Q) (hD0 : 0 < D) : val Q = A / D ∧ val R = A % D := by
 obtain ⟨h1, h2, h3, h4, h5, h6⟩ := h
 rw [Nat.pow_zero, Nat.one_mul, List.drop_zero] at h5
 rw [List.drop_zero] at h6
 have e1 : A / D = val Q := by
  rw [← h5, Nat.add_mul_div_right _ _ hD0, Nat.div_eq_of_lt h6, Nat.zero_add]
 have e2 := Nat.mod_add_div A D
 rw [e1] at e2
 refine ⟨e1.symm, ?_⟩
 rw [Nat.mul_comm] at e2
 omega
/-! ### bit by bit -/
def U2 (hi lo y : Nat) : Nat := if y ≤ hi then 4294967295 else (hi * 4294967296 + lo) / y
theorem W6 (hi lo y : Nat) (w : World) (hl : lo < 4294967296) (hy : y < 4294967296) :
  Cp 268 #[.int .u32 hi, .int .u32 lo, .int .u32 y] w fun e w' => e = .returned (.int .u32 (U2 hi lo y : Nat)) ∧ ∃ j, w' = w.drewN j := by
 unfold U2
 by_cases h : y ≤ hi
 ·rw [if_pos h]
  have y1 : (y : Int) ≤ (hi : Int) := by omega
  clear hl hy h
  go_enter Tryz.func268, Tryz.ntmps268
  go_wp2
  go_ret
  exact ⟨rfl, 0, rfl⟩
 ·rw [if_neg h]
  have C1 := Lh (fun W => Mt hi lo y W (by omega) hl hy)
  have y1 : ¬ (y : Int) ≤ (hi : Int) := by omega
  obtain ⟨q, hq⟩ : ∃ q, (hi * 4294967296 + lo) / y = q := ⟨_, rfl⟩
  obtain ⟨r, hr⟩ : ∃ r, (hi * 4294967296 + lo) % y = r := ⟨_, rfl⟩
  rw [hq, hr] at C1
  rw [hq]
  clear hl hy h hq hr
  go_enter Tryz.func268, Tryz.ntmps268
  go_wp2_with fail
  refine Dm (C1.out _) fun j => ?_
  go_wp2
  go_ret
  exact ⟨rfl, j, rfl⟩
def Aby (g : Nat) (R : List Nat) (o : Nat) (b : List Nat) (x : Nat) (w : World) (e : Ending) (w' : World) : Prop :=
 ∃ S q, e = .returned (.int .u32 (q : Nat)) ∧ Row w' g S ∧ TakeT R o b x b.length S q ∧ Only g w w'
theorem Oy (g o n c : Nat) (R : List Nat) (A : Option Addr) (m d : Nat) (b : List Nat) (x B : Nat) (w : World) (hR : Row w g R) (hRw : Ws R) (ho : o + n ≤ R.length) (hmn : m ≤ n) (hbl : b.length = m) (hm0 : 0 < m)
  (hB : RW w B A b) (hgB : B ≤ g) (hx : x < 4294967296) (hm : R.length ≤ 35184372088832) :
  Cp 269 #[.slice (some ⟨g, o, none⟩) n c, .slice A m d, .int .u32 x] w (Aby g R o b x w) := by
 obtain ⟨a, p, rfl, hab, hc⟩ := hB.2 (by omega)
 have HBW := Lh hB.1
 have HRW := Lh hRw
 have HBL := Lh hbl
 have HC := Lh hc
 have HX := Lh hx
 have HR := Lh hR
 have hm1 : (m : Int) ≤ (n : Int) := by omega
 have hn1 : (n : Int) ≤ 35184372088832 := by omega
 have HO := Lh ho
 have hag : a < g := by omega
 have h0' : (0 : Int) ≤ (x : Int) := by omega
 clear hR hRw ho hmn hbl hB hgB hx hm hc hm0
 go_enter Tryz.func269, Tryz.ntmps269
 go_wp2
 go_loopw [14, 7] (fun i v wr => ∃ (k : Nat) (S : List Nat) (q : Nat), i = .int .i64 k ∧ v = .int .u64 (q : Nat) ∧ k ≤ m ∧ Hid (Row wr g S) ∧ Hid (TakeT R o b x k S q) ∧ Only g w wr) (fun i _ _ => m - (intOf i).toNat)
 case atStart => exact ⟨0, R, 0, rfl, rfl, Nat.zero_le _, HR, Lh (TakeT.start o b x HRW.out), Only.refl _ _⟩
 case round =>
  obtain ⟨k, S, q, rfl, rfl, hk, HS, HT, hbw⟩ := hrel
  by_cases hlt : k < m
  ·have hkb : k < b.length := by rw [HBL.out]; exact hlt
   have hok : o + k < R.length := by have := HO.out; omega
   obtain ⟨e1, hnext⟩ := HT.out.next HRW.out HBW.out HX.out hok
   have hS := HS.out.cell (o + k) (by rw [HT.out.len]; exact hok)
   have hfz := HS.out.frozen (o + k)
   have hcl := HC.out k _ (Ba hkb)
   rw [← hbw.below.cell (p := ⟨a, p + k, none⟩) hag] at hcl
   obtain ⟨l1, l2⟩ := Wc (k := k) HBW.out HX.out HT.out.low
   have hset := HS.out.set (o + k) (Oz (R.getD (o + k) 0) (G9 b x k q))
   have HE := Lh (show G9 b x k q = q + b.getD k 0 * x from rfl)
   have u1 := HBW.out.getD k
   have r1 := HRW.out.getD (o + k)
   have q1 := HT.out.low
   rw [e1] at hS
   obtain ⟨t, ht⟩ : ∃ t, G9 b x k q = t := ⟨_, rfl⟩
   obtain ⟨u, hu⟩ : ∃ u, b.getD k 0 = u := ⟨_, rfl⟩
   obtain ⟨r, hr⟩ : ∃ r, R.getD (o + k) 0 = r := ⟨_, rfl⟩
   rw [ht, hu] at HE
   rw [ht] at l2
   rw [hr, ht] at hnext hset
   rw [hu] at hcl l1 u1
   rw [hr] at hS r1
   have low := V0 r t l2
   have C1 := Lh (fun W => show Cp 234 #[.int .u32 (r : Nat), .int .u32 ((t : Int) % 4294967296), .int .u32 0] W fun e w' => e = .returned (.tuple #[.int .u32 (Oz r t : Nat), .int .u32 (Nl r t : Nat)]) ∧ W = w' from by
    have := Ig r (t % 4294967296) 0 W r1 (by omega) (by omega)
    rw [show ((t % 4294967296 : Nat) : Int) = (t : Int) % 4294967296 by omega] at this
    exact this)
   obtain ⟨W', hW'⟩ : ∃ W', Oz r t = W' := ⟨_, rfl⟩
   obtain ⟨B', hB'⟩ : ∃ B', Nl r t = B' := ⟨_, rfl⟩
   rw [hW', hB'] at C1 hnext
   rw [hW'] at hset
   rw [hB'] at low
   have hB1 : B' ≤ 1 := by rw [← hB']; unfold Nl; split <;> omega
   have HNX := Lh hnext
   have k1 : IntKind.u64.wrap (u : Int) = (u : Int) := IntWalk.u64_in _ (by omega)
   have k2 : IntKind.u64.wrap (x : Int) = (x : Int) := IntWalk.u64_in _ (by have := HX.out; omega)
   have k4 : IntKind.u64.wrap ((u : Int) * (x : Int)) = (u : Int) * (x : Int) := IntWalk.u64_in _ (by
    have : ((u * x : Nat) : Int) = (u : Int) * (x : Int) := Int.natCast_mul u x
    omega)
   have k6 : IntKind.u64.wrap ((q : Int) + (u : Int) * (x : Int)) = (t : Int) := by
    have : ((u * x : Nat) : Int) = (u : Int) * (x : Int) := Int.natCast_mul u x
    have := HE.out
    rw [IntWalk.u64_in _ (by omega)]
    omega
   obtain ⟨T, hT⟩ : ∃ T, t / 4294967296 + B' = T := ⟨_, rfl⟩
   have k7 : IntKind.u64.wrap (B' : Int) = (B' : Int) := IntWalk.u64_in _ (by omega)
   have k8 : IntKind.u64.wrap ((t : Int) / 4294967296 + (B' : Int)) = (T : Int) := by rw [IntWalk.u64_in _ (by omega)]; omega
   rw [hT] at HNX
   have HSET := Lh hset
   clear e1 hnext l1 l2 u1 r1 q1 ht hu hr hkb hok hset low hW' hB' hB1 hT HE
   go_wp2_with (go_at_call 234; refine (C1.out _).mono ?_; rintro e w' ⟨rfl, rfl⟩)
   go_roundw
   case rel => exact ⟨k + 1, _, T, by go_num, rfl, by omega, HSET, HNX, hbw.setCell _⟩
   case measure => simp [intOf]; omega
  ·have HZ := Lh (show k = b.length by rw [HBL.out]; omega)
   have q1 := HT.out.low
   have k1 : IntKind.u32.wrap (q : Int) = (q : Int) := IntWalk.u32_in _ (by omega)
   have HT2 := Lh (HZ.out ▸ HT.out : TakeT R o b x b.length S q)
   clear q1
   go_wp2
   go_ret
   exact ⟨S, q, rfl, HS.out, HT2.out, hbw⟩
theorem Tb {P : Program} {f : FuncId} {args : Array Value} {w : World} {n : Nat} {v : Value}
  (h : Calls P f args (w.drewN n) fun e w' => e = .returned v ∧ ∃ j, w' = (w.drewN n).drewN j) : Calls P f args (w.drewN n) fun e w'' => e = .returned v ∧ ∃ m, w'' = w.drewN m :=
 h.mono fun _ _ ⟨he, j, hj⟩ => ⟨he, n + j, by rw [hj, World.drewN_drewN]⟩
def Rq (g : Nat) (R : List Nat) (o : Nat) (b : List Nat) (w : World) (e : Ending) (w' : World) : Prop :=
 ∃ S, e = .returned (.int .u32 ((val ((R.drop o).take (b.length + 1)) / val b : Nat) : Int)) ∧ Row w' g S ∧ S.length = R.length ∧ Ws S ∧ (∀ j, j < o ∨ o + (b.length + 1) ≤ j → S.getD j 0 = R.getD j 0) ∧
  val ((S.drop o).take (b.length + 1)) = val ((R.drop o).take (b.length + 1)) % val b ∧ Only g w w'
theorem Tv {R : List Nat} {o N : Nat} {b : List Nat} (hR : Ws R) (hb : Ws b) (hN : b.length = N + 1) (ho : o + b.length < R.length) (hb0 : 0 < val b) (htop : 0 < b.getD N 0)
  (hP : val ((R.drop o).take (b.length + 1)) < 4294967296 * val b) :
  val ((R.drop o).take (b.length + 1)) / val b ≤ U2 (R.getD (o + (N + 1)) 0) (R.getD (o + N) 0) (b.getD N 0) ∧ U2 (R.getD (o + (N + 1)) 0) (R.getD (o + N) 0) (b.getD N 0) < 4294967296 := by
 have hlo := hR.getD (o + N)
 have hy := hb.getD N
 refine ⟨?_, ?_⟩
 ·unfold U2
  split
  ·have : val ((R.drop o).take (b.length + 1)) / val b < 4294967296 := by rw [Nat.div_lt_iff_lt_mul hb0]; exact hP
   omega
  ·rw [hN]
   refine Y9 (p' := val ((R.drop o).take N)) (d' := val (b.take N)) (K := 4294967296 ^ N) ?_ ?_ ?_ htop
   ·rw [Au R o (N + 1) (by omega), Au R o N (by omega), Nat.pow_succ]
    grind
   ·have := Dk ((hR.drop o).take N)
    rwa [List.length_take, List.length_drop, Nat.min_eq_left (by omega)] at this
   ·have := Bi b N (by omega)
    rw [List.take_of_length_le (by omega)] at this
    rw [this]
 ·unfold U2
  split
  ·omega
  ·next h =>
   rw [Nat.div_lt_iff_lt_mul htop]
   have : (R.getD (o + (N + 1)) 0 + 1) * 4294967296 ≤ b.getD N 0 * 4294967296 := Nat.mul_le_mul_right _ (by omega)
   omega
theorem Acv (g o n c : Nat) (R : List Nat) (A : Option Addr) (N m d : Nat) (b : List Nat) (B : Nat) (w : World) (hR : Row w g R) (hRw : Ws R) (hn : n = N + 2) (hmN : m = N + 1) (ho : o + n ≤ R.length) (hbl : b.length = N + 1)
  (hB : RW w B A b) (hgB : B ≤ g) (hm : R.length ≤ 35184372088832) (hb0 : 0 < val b) (htop : 0 < b.getD N 0) (hP : val ((R.drop o).take (b.length + 1)) < 4294967296 * val b) :
  Cp 260 #[.slice (some ⟨g, o, none⟩) n c, .slice A m d] w (Rq g R o b w) := by
 subst hn
 subst hmN
 obtain ⟨a, p, rfl, hab, hc⟩ := hB.2 (by omega)
 obtain ⟨gh1, gh2⟩ := Tv hRw hB.1 hbl (by omega) hb0 htop hP
 have d1 := hc N _ (Ba (by omega))
 have d2 := hR.cell (o + (N + 1)) (by omega)
 have d3 := hR.cell (o + N) (by omega)
 have l1 := hRw.getD (o + (N + 1))
 have l2 := hRw.getD (o + N)
 have l3 := hB.1.getD N
 have C1 := Lh (fun W => W6 (R.getD (o + (N + 1)) 0) (R.getD (o + N) 0) (b.getD N 0) W l2 l3)
 obtain ⟨x, hx⟩ : ∃ x, U2 (R.getD (o + (N + 1)) 0) (R.getD (o + N) 0) (b.getD N 0) = x := ⟨_, rfl⟩
 rw [hx] at C1 gh1 gh2
 obtain ⟨u1, hu1⟩ : ∃ u, R.getD (o + (N + 1)) 0 = u := ⟨_, rfl⟩
 obtain ⟨u2, hu2⟩ : ∃ u, R.getD (o + N) 0 = u := ⟨_, rfl⟩
 obtain ⟨u3, hu3⟩ : ∃ u, b.getD N 0 = u := ⟨_, rfl⟩
 rw [hu1, hu2, hu3] at C1
 rw [hu1] at d2 l1
 rw [hu2] at d3
 rw [hu3] at d1
 have C2 := Lh (fun j => Oy g o (N + 2) c R (some ⟨a, p, none⟩) (N + 1) d b x B (w.drewN j) (hR.drewN j) hRw ho (by omega) hbl (by omega) (hB.drewN j) hgB gh2 hm)
 have HRW := Lh hRw
 have HBL := Lh hbl
 have HB := Lh hB
 have HGB := Lh hgB
 have HO := Lh ho
 have HB0 := Lh hb0
 have HG := Lh gh1
 have HG2 := Lh gh2
 have HU1 := Lh hu1
 have HM := Lh hm
 have hN1 : (N : Int) + 2 ≤ 35184372088832 := by omega
 have hoN1 : (o : Int) + (N : Int) + 2 ≤ 35184372088832 := by omega
 have L1 := Lh l1
 clear hR hRw ho hbl hB hgB hm hb0 htop hP hc gh1 gh2 l1 l2 l3 hx hu1 hu2 hu3 hab
 go_enter Tryz.func260, Tryz.ntmps260
 go_wp2
 go_quiet ((go_at_call 268; exact Tb (C1.out _)))
 go_wp2_with fail
 refine (C2.out _).mono ?_
 rintro e w2 ⟨S, q, rfl, hrow, ht, hb2⟩
 have hbw2 : Only g w w2 := ((Only.refl _ _).drewN nq).trans hb2
 have hql := ht.low
 have hSl := ht.len
 obtain ⟨e1, hst⟩ := ht.step (by rw [HBL.out]; have := HO.out; omega) HRW.out HG2.out HG.out
 rw [HBL.out, HU1.out] at e1 hst
 have hcell := hrow.cell (o + (N + 1)) (by rw [hSl]; have := HO.out; omega)
 have hfz := hrow.frozen (o + (N + 1))
 rw [e1] at hcell
 have C3 := Lh (fun W => show Cp 234 #[.int .u32 (u1 : Nat), .int .u32 (q : Nat), .int .u32 0] W fun e w' => e = .returned (.tuple #[.int .u32 ((u1 + 4294967296 * 2 - q - 0) % 4294967296 : Nat), .int .u32 ((if u1 < q + 0 then 1 else 0 : Nat) : Int)]) ∧ W = w' from Ig u1 q 0 W L1.out hql (by omega))
 obtain ⟨W3, hW3⟩ : ∃ W3, (u1 + 4294967296 * 2 - q - 0) % 4294967296 = W3 := ⟨_, rfl⟩
 obtain ⟨B3, hB3⟩ : ∃ B3, (if u1 < q + 0 then 1 else 0) = B3 := ⟨_, rfl⟩
 rw [hW3, hB3] at C3 hst
 have HROW := Lh (hrow.set (o + (N + 1)) W3)
 have HST := Lh hst
 have HBW := Lh hbw2
 clear hrow ht hb2 hbw2 hql hSl e1 hst hW3 hB3 C1 C2
 go_wp2_with (go_at_call 234; refine (C3.out _).mono ?_; rintro e w' ⟨rfl, rfl⟩)
 go_loopw [6, 8] (fun ov bv wr => ∃ (of bl : Nat) (S : List Nat), ov = .int .u32 (of : Nat) ∧ bv = .int .u32 (bl : Nat) ∧ Hid (Row wr g S) ∧ Hid (StepT R o b S of bl) ∧ Only g w wr) (fun ov _ _ => (intOf ov).toNat)
 case atStart => exact ⟨x, B3, _, rfl, rfl, HROW, HST, HBW.out.setCell _⟩
 case round =>
  obtain ⟨of, bl, T, rfl, rfl, HR2, HT2, hbw⟩ := hrel
  have hbl : bl = 0 ∨ bl = 1 := by have := HT2.out.low; omega
  rcases hbl with h0 | h0
  ·have b0 : ((bl : Int) == 1) = false := by rw [h0]; rfl
   rw [h0] at HT2
   obtain ⟨f1, f2⟩ := HT2.out.fin HB0.out
   have HF1 := Lh f1
   have HF2 := Lh f2
   clear f1 f2 h0
   go_wp2
   go_ret
   exact ⟨T, congrArg (fun k : Nat => Ending.returned (.int .u32 (k : Int))) HF1.out, HR2.out, HT2.out.len, HT2.out.ws, HT2.out.far, HF2.out, hbw⟩
  ·have b0 : ((bl : Int) == 1) = true := by rw [h0]; rfl
   rw [h0] at HT2
   have HBL1 := Lh h0
   obtain ⟨m1, _⟩ := HT2.out.more HB0.out (by rw [HBL.out]; have := HO.out; omega)
   have hofl := HT2.out.word
   have hTl := HT2.out.len
   have C4 := Lh (Lv g o (N + 2) c T (some ⟨a, p, none⟩) (N + 1) d b 1 B wr HR2.out HT2.out.ws (by rw [hTl]; exact HO.out) (by omega) HBL.out (HB.out.below (hbw.below.mono HGB.out)) HGB.out (by omega) (by rw [hTl]; exact HM.out))
   obtain ⟨k, rfl⟩ : ∃ k, of = k + 1 := ⟨of - 1, by omega⟩
   have k1 : IntKind.u32.wrap (((k + 1 : Nat) : Int) - 1) = (k : Int) := by rw [IntWalk.u32_in _ (by omega)]; omega
   have HTL := Lh hTl
   have hkl : (k : Int) < 4294967296 := by omega
   clear m1 hofl hTl h0
   go_wp2_with fail
   refine C4.out.mono ?_
   rintro e w4 ⟨U, q4, rfl, hrow4, hadd, hb4⟩
   have hbw4 : Only g w w4 := hbw.trans hb4
   have hUl := hadd.len
   have hq4 := hadd.low
   obtain ⟨f1, f2, f3⟩ := HT2.out.back HB0.out (by rw [HBL.out]; have := HO.out; omega) hadd
   rw [HBL.out] at f1 f2 f3
   have hcell4 := hrow4.cell (o + (N + 1)) (by rw [hUl, HTL.out]; have := HO.out; omega)
   have hfz4 := hrow4.frozen (o + (N + 1))
   rw [f1] at hcell4
   have htl := HT2.out.ws.getD (o + (N + 1))
   obtain ⟨u4, hu4⟩ : ∃ u, T.getD (o + (N + 1)) 0 = u := ⟨_, rfl⟩
   rw [hu4] at hcell4 f2 f3 htl
   have C5 := Lh (fun W => show Cp 235 #[.int .u32 (u4 : Nat), .int .u32 (q4 : Nat), .int .u32 0] W fun e w' => e = .returned (.tuple #[.int .u32 ((u4 + q4 + 0) % 4294967296 : Nat), .int .u32 ((u4 + q4 + 0) / 4294967296 : Nat)]) ∧ W = w' from Ms u4 q4 0 W htl hq4 (by omega))
   obtain ⟨W4, hW4⟩ : ∃ W4, (u4 + q4 + 0) % 4294967296 = W4 := ⟨_, rfl⟩
   obtain ⟨c4, hc4⟩ : ∃ c4, (u4 + q4 + 0) / 4294967296 = c4 := ⟨_, rfl⟩
   rw [hW4, hc4] at C5 f3
   rw [hc4] at f2
   rw [Nat.add_sub_cancel] at f3
   have k2 : IntKind.u32.wrap ((bl : Int) - (c4 : Int)) = ((1 - c4 : Nat) : Int) := by rw [HBL1.out, IntWalk.u32_in _ (by omega)]; omega
   have HROW4 := Lh (hrow4.set (o + (N + 1)) W4)
   have HST4 := Lh f3
   have HBW4 := Lh hbw4
   clear hrow4 hadd hb4 hbw4 hUl hq4 f1 f2 f3 htl hu4 hW4 hc4 C4
   go_wp2_with (go_at_call 235; refine (C5.out _).mono ?_; rintro e w' ⟨rfl, rfl⟩)
   go_roundw
   case rel => exact ⟨k, 1 - c4, _, rfl, rfl, HROW4, HST4, HBW4.out.setCell _⟩
   case measure => simp [intOf]
theorem Ax {fn : Func} {t u v : Tmp} (h : fn.results = #[.tmp t, .tmp u, .tmp v]) (tmps : Array Value) (P : Program) (w : World) :
  (results fn tmps).run P w = .ok (.tuple #[tmps.getD t undef, tmps.getD u undef, tmps.getD v undef]) w := by
 simp [results, h]
def DivT (Q R : List Nat) (t : Nat) (w : World) (e : Ending) (w' : World) : Prop :=
 ∃ A n c C m d, e = .returned (.tuple #[.slice A n c, .slice C m d, .int .i64 (t : Nat)]) ∧ (n = Q.length ∧ n ≤ c ∧ m = R.length ∧ m ≤ d ∧ RW w' w'.heap.size A Q ∧ RW w' w'.heap.size C R) ∧ Below w.heap.size w w'
def Qp (v u : Nat) : Bool := !(Ah v || Ah u) && !decide (u = 0)
def Iu (v u : Nat) : List Nat := if Qp v u = true then wds (v / u) else []
def It (v u : Nat) : List Nat := if Qp v u = true then wds (v % u) else []
def Fy (v u : Nat) : Nat := if (Ah v || Ah u) = true then 3 else if u = 0 then 4 else 0
theorem N5 {v u : Nat} (h : (Ah v || Ah u) = false) (hu : 0 < u) : Qp v u = true := by
 unfold Qp; rw [h, decide_eq_false (by omega)]; rfl
theorem DivT.ok {v u : Nat} {w w' : World} {A C : Option Addr} {n c m d : Nat} (h : (Ah v || Ah u) = false) (hu : 0 < u) (hn : n = (wds (v / u)).length) (hc : n ≤ c) (hm : m = (wds (v % u)).length) (hd : m ≤ d)
  (hA : RW w' w'.heap.size A (wds (v / u))) (hC : RW w' w'.heap.size C (wds (v % u))) (hb : Below w.heap.size w w') : DivT (Iu v u) (It v u) (Fy v u) w (.returned (.tuple #[.slice A n c, .slice C m d, .int .i64 0])) w' := by
 have e0 : Fy v u = 0 := by unfold Fy; rw [if_neg (by rw [h]; simp), if_neg (by omega)]
 unfold Iu It
 rw [e0, if_pos (N5 h hu), if_pos (N5 h hu)]
 exact ⟨A, n, c, C, m, d, rfl, ⟨hn, hc, hm, hd, hA, hC⟩, hb⟩
theorem DivT.long {v u : Nat} {w w' : World} (h : (Ah v || Ah u) = true) (hb : Below w.heap.size w w') : DivT (Iu v u) (It v u) (Fy v u) w (.returned (.tuple #[.slice none 0 0, .slice none 0 0, .int .i64 3])) w' := by
 have e0 : Fy v u = 3 := by unfold Fy; rw [if_pos h]
 have e1 : Qp v u = false := by unfold Qp; rw [h]; rfl
 unfold Iu It
 rw [e0, if_neg (by rw [e1]; simp), if_neg (by rw [e1]; simp)]
 exact ⟨none, 0, 0, none, 0, 0, rfl, ⟨rfl, Nat.le_refl _, rfl, Nat.le_refl _, RW.nil _ _ _, RW.nil _ _ _⟩, hb⟩
theorem DivT.zero {v u : Nat} {w w' : World} (h : (Ah v || Ah u) = false) (hu : u = 0) (hb : Below w.heap.size w w') : DivT (Iu v u) (It v u) (Fy v u) w (.returned (.tuple #[.slice none 0 0, .slice none 0 0, .int .i64 4])) w' := by
 have e0 : Fy v u = 4 := by unfold Fy; rw [if_neg (by rw [h]; simp), if_pos hu]
 have e1 : Qp v u = false := by unfold Qp; rw [decide_eq_true hu]; simp
 unfold Iu It
 rw [e0, if_neg (by rw [e1]; simp), if_neg (by rw [e1]; simp)]
 exact ⟨none, 0, 0, none, 0, 0, rfl, ⟨rfl, Nat.le_refl _, rfl, Nat.le_refl _, RW.nil _ _ _, RW.nil _ _ _⟩, hb⟩
theorem Yt {b : List Nat} {N : Nat} (hb : Ws b) (hN : b.length = N + 1) (hnb : nrm b = b) : 0 < b.getD N 0 ∧ 0 < Lib.bitLen (b.getD N 0) ∧ Lib.bitLen (b.getD N 0) ≤ 32 ∧ b.getD N 0 < 2 ^ Lib.bitLen (b.getD N 0) := by
 have h0 : nrm b ≠ [] := by rw [hnb]; intro e; rw [e] at hN; simp at hN
 have h1 := Aah h0
 rw [hnb, hN, Nat.add_sub_cancel] at h1
 have h2 := hb.getD N
 have h3 := F9 _ h2
 obtain ⟨b1, b2, b3⟩ := Lib.bitLenAux_bounds 64 (b.getD N 0) (by omega) h1
 exact ⟨by omega, b1, h3, b3⟩
theorem ShlP.exact {R : List Nat} {o : Nat} {a : List Nat} {s N : Nat} {S : List Nat} (h : ShlP R o a s (N + 1) S) (hn : a.length = N + 1) (ht : a.getD N 0 < 2 ^ (32 - s)) : val ((S.drop o).take (N + 1)) = 2 ^ s * val a := by
 have h4 := h.sum
 have e : Ie a s (N + 1) = 0 := by
  unfold Ie
  rw [if_neg (by omega), Nat.add_sub_cancel]
  exact Nat.div_eq_of_lt ht
 rw [e, Nat.mul_zero, Nat.add_zero, Be (l := a) (by omega)] at h4
 exact h4
theorem Aeu {S : List Nat} {N : Nat} (hS : Ws S) (hl : S.length = N + 1) (hv : 4294967296 ^ N ≤ val S) : 0 < S.getD N 0 := by
 rcases Nat.eq_zero_or_pos (S.getD N 0) with h | h
 ·have e := Bi S N (by omega)
  rw [List.take_of_length_le (by omega), h, Nat.mul_zero, Nat.add_zero] at e
  have := Dk (hS.take N)
  rw [List.length_take, Nat.min_eq_left (by omega)] at this
  omega
 ·exact h
def Li (n M va vb : Nat) (w : World) (e : Ending) (w' : World) : Prop :=
 ∃ S T g1 g2, e = .returned (.tuple #[.slice (some ⟨g2, 0, none⟩) M M, .slice (some ⟨g1, 0, none⟩) (n + 1) (n + 1)]) ∧ Row w' g2 S ∧ Row w' g1 T ∧ S.length = M ∧ T.length = n + 1 ∧ Ws S ∧ Ws T ∧ val S = va / vb ∧ val T = va % vb ∧ Below w.heap.size w w'
theorem J0 (A C : Option Addr) (n c m M N d : Nat) (a b : List Nat) (w : World) (hn : a.length = n) (hm : n ≤ 1024) (h : RW w w.heap.size A a)
  (gn : b.length = m) (gN : m = N + 1) (g : RW w w.heap.size C b) (hnb : nrm b = b) (hM : n + 1 = M + m) (hM0 : 0 < M) :
  Cp 247 #[.slice A n c, .slice C m d] w (Li n M (val a) (val b) w) := by
 subst gN
 obtain ⟨t1, t2, t3, t4⟩ := Yt g.1 gn hnb
 have h0 : nrm b ≠ [] := by rw [hnb]; intro e; rw [e] at gn; simp at gn
 have hge := Lo h0
 rw [hnb, gn, Nat.add_sub_cancel] at hge
 obtain ⟨cb, coff, rfl, hcb, hcc⟩ := g.2 (by omega)
 have d1 := hcc N _ (Ba (by omega))
 have htl := g.1.getD N
 obtain ⟨u, hu⟩ : ∃ u, b.getD N 0 = u := ⟨_, rfl⟩
 rw [hu] at d1 t1 t2 t3 t4 htl
 obtain ⟨L, hL⟩ : ∃ L, Lib.bitLen u = L := ⟨_, rfl⟩
 have C1 := Lh (fun W => show Cp 259 #[.int .u32 (u : Nat)] W fun e w' => e = .returned (.int .i64 (32 - (L : Int))) ∧ W = w' from by
  have := Tryz.bits_LeadingZeros32 (u : Int) W (by omega) (by omega)
  rw [Int.toNat_natCast, hL] at this; exact this.mono fun _ _ ⟨x, y⟩ => ⟨x, y.symm⟩)
 rw [hL] at t2 t3 t4
 obtain ⟨s, hs⟩ : ∃ s, 32 - L = s := ⟨_, rfl⟩
 have hs2 : 32 - (L : Int) = (s : Int) := by omega
 rw [hs2] at C1
 have hs32 : s < 32 := by omega
 have HT4 := Lh (show b.getD N 0 < 2 ^ (32 - s) by rw [hu, show 32 - s = L by omega]; exact t4)
 have hN1 : (N : Int) ≤ 1024 := by omega
 have hn1 : (n : Int) ≤ 1024 := by omega
 have hM1 : (1 : Int) ≤ (M : Int) := by omega
 have hM2 : (M : Int) ≤ 1024 := by omega
 have HA := Lh h
 have HB := Lh g
 have HGB := Lh (show (b.length = N + 1 ∧ a.length = n) from ⟨gn, hn⟩)
 have HGE := Lh hge
 have HM := Lh hM
 have HM0 := Lh hM0
 have hm1 := run_make_row' (P := Tryz.prog) 121 129 (.int .u32 0) 4 Tryz.underlying121 F6 rfl .i64 .i64 (N + 1) (by omega) (by omega) w
 rw [show ((N + 1 : Nat) : Int) = (N : Int) + 1 by omega] at hm1
 have hm2 := fun W => run_make_row' (P := Tryz.prog) 121 129 (.int .u32 0) 4 Tryz.underlying121 F6 rfl .i64 .i64 (n + 1) (by omega) (by omega) W
 rw [show ((n + 1 : Nat) : Int) = (n : Int) + 1 by omega] at hm2
 have hm3 := fun W => run_make_row' (P := Tryz.prog) 121 129 (.int .u32 0) 4 Tryz.underlying121 F6 rfl .i64 .i64 M (by omega) (by omega) W
 have HM2 := Lh hm2
 have HM3 := Lh hm3
 have hMe0 : IntKind.i64.wrap ((n : Int) - ((N : Int) + 1)) = (n : Int) - ((N : Int) + 1) := IntWalk.i64_in _ (by omega)
 have hMe : IntKind.i64.wrap (((n : Int) - ((N : Int) + 1)) + 1) = (M : Int) := by rw [IntWalk.i64_in _ (by omega)]; omega
 have hR1 := Row.made w (N + 1)
 have hB1 : Below w.heap.size w (w.alloc (.cells (madeCells #[.int .u32 0] (N + 1)) 129)) := (Below.refl _ _).alloc (Nat.le_refl _) _
 have hz1 : (w.alloc (.cells (madeCells #[.int .u32 0] (N + 1)) 129)).heap.size = w.heap.size + 1 := by simp
 obtain ⟨w1, hw1⟩ : ∃ w1, w.alloc (.cells (madeCells #[.int .u32 0] (N + 1)) 129) = w1 := ⟨_, rfl⟩
 rw [hw1] at hR1 hB1 hz1 hm1
 have C2 := Lh (O0 w.heap.size 0 (N + 1) (N + 1) s (List.replicate (N + 1) 0) (some ⟨cb, coff, none⟩) (N + 1) d b w.heap.size w1 hR1 (Ws.zeros _) (by rw [List.length_replicate]; omega) gn (by omega) (by omega) (g.below hB1) (Nat.le_refl _) hs32)
 have HB1 := Lh hB1
 have HZ1 := Lh hz1
 clear t1 t2 t3 t4 hu hL hs hs2 htl hcc h g hn gn hge hM hM0 hnb h0 hm hm2 hm3 hR1 hB1 hz1 hw1
 go_enter Tryz.func247, Tryz.ntmps247
 go_wp2_with fail
 refine Sm (C1.out _) ?_
 go_wp2_with fail
 refine C2.out.mono ?_
 rintro e w2 ⟨rfl, D, hD, hRD, hbD⟩
 have hB2 : Below w.heap.size w w2 := HB1.out.trans hbD
 have hg0 := hRD.lt
 have hDl : D.length = N + 1 := by rw [hD.len, List.length_replicate]
 have hDv : val D = 2 ^ s * val b := by
  have := hD.exact HGB.out.1 HT4.out
  rw [List.drop_zero, List.take_of_length_le (by omega)] at this
  exact this
 have hDw := hD.ws
 have hm2 := HM2.out w2
 have hR2 := Row.made w2 (n + 1)
 have hB3 : Below w.heap.size w (w2.alloc (.cells (madeCells #[.int .u32 0] (n + 1)) 129)) := hB2.alloc hB2.size _
 have hB23 : Below w2.heap.size w2 (w2.alloc (.cells (madeCells #[.int .u32 0] (n + 1)) 129)) := (Below.refl _ _).alloc (Nat.le_refl _) _
 have C3 := Lh (O0 w2.heap.size 0 (n + 1) (n + 1) s (List.replicate (n + 1) 0) A n c a w.heap.size _ hR2 (Ws.zeros _) (by rw [List.length_replicate]; omega) HGB.out.2 (by omega) (by omega) (HA.out.below hB3) hB2.size hs32)
 have HRD := Lh (hRD.below hg0 hB23)
 have HD := Lh (show D.length = N + 1 ∧ val D = 2 ^ s * val b ∧ Ws D from ⟨hDl, hDv, hDw⟩)
 have HB3 := Lh hB3
 have HG0 := Lh hg0
 clear hD hRD hbD hB2 hg0 hDl hDv hDw hR2 hB3 hB23 hm1 C1 C2
 go_wp2_with fail
 refine C3.out.mono ?_
 rintro e w4 ⟨rfl, R, hR, hRR, hbR⟩
 have hB4 : Below w.heap.size w w4 := HB3.out.trans (hbR.mono (Nat.le_of_lt HG0.out))
 have hg1 := hRR.lt
 have hRl : R.length = n + 1 := by rw [hR.len, List.length_replicate]
 have hRv : val R = 2 ^ s * val a := by
  have := hR.whole (by rw [HGB.out.2]; omega)
  rw [List.drop_zero, List.take_of_length_le (by omega)] at this
  exact this
 have hRw := hR.ws
 have hRD4 : Row w4 w.heap.size D := HRD.out.below HG0.out hbR
 have hm3 := HM3.out w4
 have hQ5 := Row.made w4 M
 have hB5 : Below w.heap.size w (w4.alloc (.cells (madeCells #[.int .u32 0] M) 129)) := hB4.alloc hB4.size _
 have hB45 : Below w4.heap.size w4 (w4.alloc (.cells (madeCells #[.int .u32 0] M) 129)) := (Below.refl _ _).alloc (Nat.le_refl _) _
 have HQ5 := Lh hQ5
 have HR5 := Lh (hRR.below hg1 hB45)
 have HD5 := Lh (hRD4.below (Nat.lt_trans HG0.out hg1) hB45)
 have HB5 := Lh hB5
 have HG1 := Lh hg1
 have hlong := LongT.start (va := val a) (vb := val b) (s := s) (la := n) (n := N + 1) (M := M) hRw (by rw [hRl]; exact HM.out) HM.out (by omega) (by have := Dk HA.out.1; rw [HGB.out.2] at this; exact this) (by rw [Nat.add_sub_cancel]; exact HGE.out) hRv
 have HLONG := Lh hlong
 have hDp : 0 < val b := Nat.lt_of_lt_of_le (Nat.pow_pos (by omega)) HGE.out
 have HDP := Lh (show 0 < 2 ^ s * val b ∧ 2 ^ s * val b < 4294967296 ^ (N + 1) ∧ 0 < D.getD N 0 by
  have h1 := Dk HD.out.2.2
  rw [HD.out.2.1, HD.out.1] at h1
  refine ⟨Nat.mul_pos (Nat.two_pow_pos s) hDp, h1, Aeu HD.out.2.2 HD.out.1 ?_⟩
  rw [HD.out.2.1]
  exact Nat.le_trans HGE.out (Nat.le_mul_of_pos_left _ (Nat.two_pow_pos s)))
 clear hR hRR hbR hB4 hg1 hRl hRv hRw hRD4 hQ5 hB5 hB45 hlong hDp hm2 C3
 go_wp2
 clear hm3
 go_loopw [10] (fun i wr => ∃ (k : Nat) (R Q : List Nat), i = .int .i64 ((k : Int) - 1) ∧ k ≤ M ∧ Hid (Row wr w2.heap.size R) ∧ Hid (Row wr w4.heap.size Q) ∧ Hid (Row wr w.heap.size D) ∧ Hid (LongT (2 ^ s * val a) (2 ^ s * val b) (N + 1) M k R Q) ∧ Below w.heap.size w wr) (fun i _ => (intOf i + 1).toNat)
 case atStart => exact ⟨M, R, _, rfl, Nat.le_refl _, HR5, HQ5, HD5, HLONG, HB5.out⟩
 case round =>
  obtain ⟨k, R2, Q, rfl, hk, HR, HQ, HDD, HT, hbw⟩ := hrel
  have hRl := HT.out.lenR
  have hQl := HT.out.lenQ
  have hMn := HM.out
  by_cases h0 : k = 0
  ·subst h0
   obtain ⟨f1, f2⟩ := HT.out.fin HDP.out.1
   rw [Nat.mul_div_mul_left _ _ (Nat.two_pow_pos s)] at f1
   rw [Nat.mul_mod_mul_left] at f2
   have C1 := Lh (Z5 w2.heap.size (n + 1) (n + 1) (n + 1) s R2 wr HR.out HT.out.wsR (by omega) (by omega) hs32)
   have HF1 := Lh f1
   have HF2 := Lh f2
   have HQW := Lh HT.out.wsQ
   have HL := Lh (show Q.length = M ∧ R2.length = n + 1 from ⟨hQl, by omega⟩)
   have HNE := Lh (show w4.heap.size ≠ w2.heap.size from Nat.ne_of_gt HG1.out)
   have HBG := Lh (Nat.le_of_lt (Nat.lt_of_lt_of_le HG0.out (Nat.le_refl _)))
   clear f1 f2 hRl hQl hMn
   go_wp2_with fail
   refine C1.out.mono ?_
   rintro e w5 ⟨rfl, S, hS, hRow, hO⟩
   have hv := hS.whole (by rw [HL.out.2]; exact Nat.le_refl _)
   have hSl := hS.len
   rw [List.drop_zero, List.take_of_length_le (by rw [hSl, HL.out.2]; exact Nat.le_refl _), HF2.out, Nat.mul_div_cancel_left _ (Nat.two_pow_pos s)] at hv
   have HFIN := Lh (show Li n M (val a) (val b) w (.returned (.tuple #[.slice (some ⟨w4.heap.size, 0, none⟩) M M, .slice (some ⟨w2.heap.size, 0, none⟩) (n + 1) (n + 1)])) w5 from
    ⟨Q, S, w2.heap.size, w4.heap.size, rfl, HQ.out.only HNE.out hO, hRow, HL.out.1, by rw [hSl, HL.out.2], HQW.out, hS.ws, HF1.out, hv, hbw.trans (hO.below.mono HBG.out)⟩)
   clear hS hRow hO hv hSl C1
   go_wp2
   go_ret2
   exact HFIN.out
  ·obtain ⟨j, rfl⟩ : ∃ j, k = j + 1 := ⟨k - 1, by omega⟩
   rw [show (((j + 1 : Nat) : Int) - 1) = (j : Int) by omega]
   obtain ⟨p1, p2⟩ := HT.out.part (by omega) HDP.out.2.1
   have C1 := Lh (Acv w2.heap.size j (N + 2) (n + 1 - j) R2 (some ⟨w.heap.size, 0, none⟩) N (N + 1) (N + 1) D (w.heap.size + 1) wr HR.out HT.out.wsR rfl rfl (by omega) HD.out.1 (HDD.out.rw0 HD.out.2.2) HG0.out (by omega) (by rw [HD.out.2.1]; exact HDP.out.1) HDP.out.2.2 (by rw [HD.out.1, HD.out.2.1]; exact p2))
   have HNX := Lh (fun S h1 h2 h3 h4 => HT.out.next (S := S) (by omega) HDP.out.2.1 HDP.out.1 h1 h2 h3 h4)
   unfold Rq at C1
   rw [HD.out.1, HD.out.2.1] at C1
   obtain ⟨q, hq⟩ : ∃ q, val ((R2.drop j).take (N + 1 + 1)) / (2 ^ s * val b) = q := ⟨_, rfl⟩
   rw [hq] at C1 HNX
   have hcell := fun (W : World) (h : Row W w4.heap.size Q) => h.cell j (by omega)
   have hfz := fun (W : World) (h : Row W w4.heap.size Q) => h.frozen j
   have HCELL := Lh hcell
   have HFZ := Lh hfz
   have HNE := Lh (show w4.heap.size ≠ w2.heap.size ∧ w.heap.size ≠ w2.heap.size ∧ w2.heap.size ≠ w4.heap.size ∧ w.heap.size ≠ w4.heap.size from by
    have h1 := HG1.out
    have h2 := HG0.out
    omega)
   have HBG := Lh (show w.heap.size ≤ w2.heap.size ∧ w.heap.size ≤ w4.heap.size from by
    have h1 := HG1.out
    have h2 := HG0.out
    omega)
   have hj1 : (j : Int) < (M : Int) := by omega
   have hjn : (j : Int) + (N : Int) + 2 ≤ (n : Int) + 1 := by omega
   have hjn2 : j + (N + 2) ≤ n + 1 := by omega
   have hk2 : j + 1 ≤ M := hk
   clear hRl hQl hMn hk h0 p1 p2 hq hcell hfz
   go_wp2_with fail
   rw [show j + (N + 1) + 1 - j = N + 2 by omega]
   refine C1.out.mono ?_
   rintro e w5 ⟨S, rfl, hrow, hlen, hws, hfar, hval, hO⟩
   have rQ := HQ.out.only HNE.out.1 hO
   have rD := HDD.out.only HNE.out.2.1 hO
   have hcell := HCELL.out w5 rQ
   have hfz := HFZ.out w5 rQ
   have HTN := Lh (HNX.out S hlen hws hfar hval)
   have HQ2 := Lh (rQ.set j q)
   have HR2 := Lh (show Row (w5.setCell ⟨w4.heap.size, j, none⟩ (.int .u32 (q : Nat))) w2.heap.size S from (Below.heap_setCell w5 _ _ _ HNE.out.2.2.1).trans hrow)
   have HD2 := Lh (show Row (w5.setCell ⟨w4.heap.size, j, none⟩ (.int .u32 (q : Nat))) w.heap.size D from (Below.heap_setCell w5 _ _ _ HNE.out.2.2.2).trans rD)
   have HB2 := Lh ((hbw.trans (hO.below.mono HBG.out.1)).setCell (p := ⟨w4.heap.size, j, none⟩) HBG.out.2 (.int .u32 (q : Nat)))
   clear hrow hlen hws hfar hval hO rQ rD C1 HNX
   go_wp2
   go_roundw
   case rel => exact ⟨j, S, _, by go_num, by omega, HR2, HQ2, HD2, HTN, HB2.out⟩
   case measure => simp [intOf]
theorem Abx (A C : Option Addr) (n c m d : Nat) (l k : List Nat) (w : World) (hn : l.length = n) (hc : n ≤ c) (hm : n ≤ 35184372088832) (h : RW w w.heap.size A l)
  (gn : k.length = m) (gc : m ≤ d) (gm : m ≤ 35184372088832) (g : RW w w.heap.size C k) (hl : (Ah (val l) || Ah (val k)) = true) :
  Cp 228 #[.slice A n c, .slice C m d] w (DivT (Iu (val l) (val k)) (It (val l) (val k)) (Fy (val l) (val k)) w) := by
 have c1 := Bp A C n c m d l k w hn hc hm h gn gc gm g
 have hp : Below w.heap.size w (Ea w (.slice A n c) (.slice C m d)) := (Below.refl _ _).alloc (Nat.le_refl _) _
 have HF := Lh (DivT.long (w := w) hl hp)
 rw [hl] at c1
 clear h g hn hc hm gn gc gm hl hp
 go_enter Tryz.func228, Tryz.ntmps228
 go_wp2_with fail
 refine c1.mono ?_
 rintro e w1 ⟨rfl, rfl⟩
 go_wp2
 (try simp only [Exit.inBlock, Exit.then])
 refine bodyPost_ret (Ax rfl _ _ _) rfl ?_
 exact HF.out
theorem Acb (A C : Option Addr) (n c m d : Nat) (l k : List Nat) (w : World) (hn : l.length = n) (hc : n ≤ c) (hm : n ≤ 35184372088832) (h : RW w w.heap.size A l)
  (gn : k.length = m) (gc : m ≤ d) (gm : m ≤ 35184372088832) (g : RW w w.heap.size C k) (hl : (Ah (val l) || Ah (val k)) = false) (hk : val k = 0) :
  Cp 228 #[.slice A n c, .slice C m d] w (DivT (Iu (val l) (val k)) (It (val l) (val k)) (Fy (val l) (val k)) w) := by
 have c1 := Bp A C n c m d l k w hn hc hm h gn gc gm g
 have hp : Below w.heap.size w (Ea w (.slice A n c) (.slice C m d)) := (Below.refl _ _).alloc (Nat.le_refl _) _
 have HF := Lh (DivT.zero (w := w) hl hk hp)
 rw [hl] at c1
 have c2 := Ak A n c l w.heap.size _ hn hc hm (h.below hp)
 have c3 := Ak C m d k w.heap.size _ gn gc gm (g.below hp)
 rw [Bx hk] at c3
 clear h g hn hc hm gn gc gm hl hp hk
 go_enter Tryz.func228, Tryz.ntmps228
 go_wp2_with fail
 refine c1.mono ?_
 rintro e w1 ⟨rfl, rfl⟩
 go_wp2_with fail
 refine c2.mono ?_
 rintro e w1 ⟨rfl, rfl⟩
 go_wp2_with fail
 refine c3.mono ?_
 rintro e w1 ⟨rfl, rfl⟩
 go_wp2
 (try simp only [Exit.inBlock, Exit.then])
 refine bodyPost_ret (Ax rfl _ _ _) rfl ?_
 exact HF.out
theorem Yg (A C : Option Addr) (n c m d : Nat) (l k : List Nat) (w : World) (hn : l.length = n) (hc : n ≤ c) (hm : n ≤ 35184372088832) (h : RW w w.heap.size A l)
  (gn : k.length = m) (gc : m ≤ d) (gm : m ≤ 35184372088832) (g : RW w w.heap.size C k) (hl : (Ah (val l) || Ah (val k)) = false) (hlt : (nrm l).length < (nrm k).length) :
  Cp 228 #[.slice A n c, .slice C m d] w (DivT (Iu (val l) (val k)) (It (val l) (val k)) (Fy (val l) (val k)) w) := by
 have c1 := Bp A C n c m d l k w hn hc hm h gn gc gm g
 have hp : Below w.heap.size w (Ea w (.slice A n c) (.slice C m d)) := (Below.refl _ _).alloc (Nat.le_refl _) _
 rw [hl] at c1
 have c2 := Ak A n c l w.heap.size _ hn hc hm (h.below hp)
 have c3 := Ak C m d k w.heap.size _ gn gc gm (g.below hp)
 obtain ⟨hl1, hl2⟩ : Ah (val l) = false ∧ Ah (val k) = false := by simpa using hl
 have n1 := Da h.1 hl1
 have n2 := Da g.1 hl2
 have hval := Jp h.1 hlt
 have e1 : val l / val k = 0 := Nat.div_eq_of_lt hval
 have e2 : val l % val k = val l := Nat.mod_eq_of_lt hval
 obtain ⟨N, hN⟩ : ∃ N, (nrm l).length = N := ⟨_, rfl⟩
 obtain ⟨M, hM⟩ : ∃ M, (nrm k).length = M := ⟨_, rfl⟩
 rw [hN] at n1 c2 hlt
 rw [hM] at n2 c3 hlt
 obtain ⟨W, hW⟩ : ∃ W, Ea w (.slice A n c) (.slice C m d) = W := ⟨_, rfl⟩
 rw [hW] at c1 c2 c3 hp
 have HOK := Lh (fun (w' : World) A2 n2 c2 C2 m2 d2 h3 h4 h5 h6 h7 h8 h9 => DivT.ok (w := w) (w' := w') (A := A2) (C := C2) (n := n2) (c := c2) (m := m2) (d := d2) hl (by omega) h3 h4 h5 h6 h7 h8 h9)
 rw [e1, e2] at HOK
 have hND : (wds (val l)).length = N := by rw [← Cb h.1]; exact hN
 have c4 := (Ahp A N N (nrm l) N W hN (Nat.le_refl _) (by omega) ((h.nrm.below hp).more hp.size) (by rw [D2]; exact hN))
 rw [D2, Cb h.1] at c4
 have HW := Lh hW
 have HP := Lh hp
 have HND := Lh hND
 have z0 : ((M : Int) == 0) = false := by simp; omega
 have z1 : (N : Int) < (M : Int) := by omega
 clear h g hn hc hm gn gc gm hl hp hl1 hl2 n1 n2 hval e1 e2 hN hM hW hND hlt
 go_enter Tryz.func228, Tryz.ntmps228
 go_wp2_with fail
 rw [show w.alloc (.cells #[.slice A n c, .slice C m d] 121) = W from HW.out]
 refine c1.mono ?_
 rintro e w1 ⟨rfl, rfl⟩
 go_wp2_with fail
 refine c2.mono ?_
 rintro e w1 ⟨rfl, rfl⟩
 go_wp2_with fail
 refine c3.mono ?_
 rintro e w1 ⟨rfl, rfl⟩
 go_wp2_with fail
 refine c4.mono ?_
 rintro e w2 ⟨A2, c2, rfl, ⟨hc2, r2⟩, b2⟩
 have HF := Lh (HOK.out w2 none 0 0 A2 N c2 rfl (Nat.le_refl _) HND.out.symm hc2 (RW.nil _ _ _) r2 (Aa HP.out b2))
 clear r2 hc2 b2
 go_wp2
 (try simp only [Exit.inBlock, Exit.then])
 refine bodyPost_ret (Ax rfl _ _ _) rfl ?_
 exact HF.out
theorem Aab (A C : Option Addr) (n c m d : Nat) (l k : List Nat) (w : World) (hn : l.length = n) (hc : n ≤ c) (hm : n ≤ 35184372088832) (h : RW w w.heap.size A l)
  (gn : k.length = m) (gc : m ≤ d) (gm : m ≤ 35184372088832) (g : RW w w.heap.size C k) (hl : (Ah (val l) || Ah (val k)) = false) (hle : (nrm k).length ≤ (nrm l).length) (h1k : (nrm k).length = 1) :
  Cp 228 #[.slice A n c, .slice C m d] w (DivT (Iu (val l) (val k)) (It (val l) (val k)) (Fy (val l) (val k)) w) := by
 have c1 := Bp A C n c m d l k w hn hc hm h gn gc gm g
 have hp : Below w.heap.size w (Ea w (.slice A n c) (.slice C m d)) := (Below.refl _ _).alloc (Nat.le_refl _) _
 rw [hl] at c1
 have c2 := Ak A n c l w.heap.size _ hn hc hm (h.below hp)
 have c3 := Ak C m d k w.heap.size _ gn gc gm (g.below hp)
 obtain ⟨hl1, hl2⟩ : Ah (val l) = false ∧ Ah (val k) = false := by simpa using hl
 have n1 := Da h.1 hl1
 obtain ⟨u, hu⟩ : ∃ u, nrm k = [u] := List.length_eq_one_iff.1 h1k
 have hkv : val k = u := by rw [← Ar, hu]; simp [val]
 have hgB := g.nrm
 rw [hu] at hgB c3
 have hul : u < 4294967296 := hgB.1 u (by simp)
 have hu0 : 0 < u := by
  rcases Nat.eq_zero_or_pos u with h0 | h0
  ·have := Bx (l := k) (by rw [hkv, h0])
   rw [this] at hu; cases hu
  ·exact h0
 obtain ⟨b, off, hCe, hbB, hcell⟩ := hgB.2 (by simp)
 have d0 := hcell 0 u rfl
 rw [Nat.add_zero] at d0
 subst hCe
 obtain ⟨N, hN⟩ : ∃ N, (nrm l).length = N := ⟨_, rfl⟩
 rw [h1k, hN] at hle
 rw [hN] at n1 c2
 obtain ⟨W, hW⟩ : ∃ W, Ea w (.slice A n c) (.slice (some ⟨b, off, none⟩) m d) = W := ⟨_, rfl⟩
 rw [hW] at c1 c2 c3 hp
 have HOK := Lh (fun (w' : World) A2 n2 c2 C2 m2 d2 h3 h4 h5 h6 h7 h8 h9 => DivT.ok (w := w) (w' := w') (A := A2) (C := C2) (n := n2) (c := c2) (m := m2) (d := d2) hl (by omega) h3 h4 h5 h6 h7 h8 h9)
 have c4 := Aaj A N N (nrm l) W hN (Nat.le_refl _) (by omega) ((h.nrm.below hp).more hp.size)
 rw [D2, hN] at c4
 have C5 := Lh (fun W2 (r : Row W2 W.heap.size (nrm l)) => Jy W.heap.size N N u (nrm l) W2 r h.1.nrm hN (by omega) hul hu0)
 rw [Ar] at C5
 rw [hkv] at HOK ⊢
 have hrl : val l % u < u := Nat.mod_lt _ hu0
 obtain ⟨q, hq⟩ : ∃ q, val l / u = q := ⟨_, rfl⟩
 obtain ⟨z, hz⟩ : ∃ z, val l % u = z := ⟨_, rfl⟩
 rw [hq, hz] at HOK C5
 rw [hz] at hrl
 have C7 := Lh (fun W => (Kl z (by omega) W).mono fun _ _ y => y.told (n := (wds z).length) (by rw [E1 z (by omega)]))
 rw [E1 z (by omega)] at C7
 have HW := Lh hW
 have HP := Lh hp
 rw [← hp.cell (p := ⟨b, off, none⟩) hbB] at d0
 have z0 : ((1 : Int) == 0) = false := rfl
 have z1 : ¬ (N : Int) < 1 := by omega
 have z2 : IntKind.u64.wrap (z : Int) = (z : Int) := IntWalk.u64_in _ (by omega)
 have HN1 := Lh n1
 clear h g hn hc hm gn gc gm hl hp hl1 hl2 n1 hkv hu hul hu0 hN hW hle h1k hgB hcell hrl hq hz
 go_enter Tryz.func228, Tryz.ntmps228
 go_wp2_with fail
 rw [show w.alloc (.cells #[.slice A n c, .slice (some ⟨b, off, none⟩) m d] 121) = W from HW.out]
 refine c1.mono ?_
 rintro e w1 ⟨rfl, rfl⟩
 go_wp2_with fail
 refine c2.mono ?_
 rintro e w1 ⟨rfl, rfl⟩
 go_wp2_with fail
 refine c3.mono ?_
 rintro e w1 ⟨rfl, rfl⟩
 go_wp2_with fail
 refine c4.mono ?_
 rintro e w2 ⟨rfl, r2, b2⟩
 have d2 := d0
 rw [← b2.cell (p := ⟨b, off, none⟩) (Nat.lt_of_lt_of_le hbB HP.out.size)] at d2
 have C6 := C5.out _ r2
 clear c1 c2 c3 c4 C5 r2
 go_wp2_with fail
 refine C6.mono ?_
 rintro e w3 ⟨rfl, S, r3, s1, s2, s3, b3⟩
 have B3 := Aa HP.out (b2.trans b3)
 have hlt3 := r3.lt
 have c8 := Ak (some ⟨W.heap.size, 0, none⟩) N N S w3.heap.size w3 s1 (Nat.le_refl _) (by have := HN1.out; omega) ((r3.rw0 s2).more hlt3)
 have HR3 := Lh ((r3.rw0 s2).more hlt3).nrm
 rw [Cb s2, s3] at c8 HR3
 have HLQ := Lh (show (wds q).length ≤ N by rw [← s3, ← Cb s2, ← s1]; exact Bq S)
 clear r3 s1 s2 s3 b3 b2 C6 d0 hlt3
 go_wp2_with fail
 refine c8.mono ?_
 rintro e w' ⟨rfl, rfl⟩
 go_wp2_with fail
 refine (C7.out _).mono ?_
 rintro e w4 ⟨A4, c4, rfl, ⟨hc4, r4⟩, b4⟩
 have HF := Lh (HOK.out w4 _ _ (wds q).length A4 _ c4 rfl (Nat.le_refl _) rfl hc4 (HR3.out.step b4) r4 (Aa B3 b4))
 clear r4 hc4 b4
 go_wp2
 (try simp only [Exit.inBlock, Exit.then])
 refine bodyPost_ret (Ax rfl _ _ _) rfl ?_
 exact HF.out
theorem Adv (A C : Option Addr) (n c m d : Nat) (l k : List Nat) (w : World) (hn : l.length = n) (hc : n ≤ c) (hm : n ≤ 35184372088832) (h : RW w w.heap.size A l)
  (gn : k.length = m) (gc : m ≤ d) (gm : m ≤ 35184372088832) (g : RW w w.heap.size C k) (hl : (Ah (val l) || Ah (val k)) = false) (hle : (nrm k).length ≤ (nrm l).length) (h1k : 1 < (nrm k).length) :
  Cp 228 #[.slice A n c, .slice C m d] w (DivT (Iu (val l) (val k)) (It (val l) (val k)) (Fy (val l) (val k)) w) := by
 have c1 := Bp A C n c m d l k w hn hc hm h gn gc gm g
 have hp : Below w.heap.size w (Ea w (.slice A n c) (.slice C m d)) := (Below.refl _ _).alloc (Nat.le_refl _) _
 rw [hl] at c1
 have c2 := Ak A n c l w.heap.size _ hn hc hm (h.below hp)
 have c3 := Ak C m d k w.heap.size _ gn gc gm (g.below hp)
 obtain ⟨hl1, hl2⟩ : Ah (val l) = false ∧ Ah (val k) = false := by simpa using hl
 have n1 := Da h.1 hl1
 have n2 := Da g.1 hl2
 have hk0 : 0 < val k := by
  rcases Nat.eq_zero_or_pos (val k) with h0 | h0
  ·rw [Bx h0] at h1k; simp at h1k
  ·exact h0
 obtain ⟨N, hN⟩ : ∃ N, (nrm l).length = N := ⟨_, rfl⟩
 obtain ⟨M, hM⟩ : ∃ M, (nrm k).length = M := ⟨_, rfl⟩
 rw [hN] at n1 c2 hle
 rw [hM] at n2 c3 hle h1k
 obtain ⟨W, hW⟩ : ∃ W, Ea w (.slice A n c) (.slice C m d) = W := ⟨_, rfl⟩
 rw [hW] at c1 c2 c3 hp
 have HOK := Lh (fun (w' : World) A2 n2 c2 C2 m2 d2 h3 h4 h5 h6 h7 h8 h9 => DivT.ok (w := w) (w' := w') (A := A2) (C := C2) (n := n2) (c := c2) (m := m2) (d := d2) hl hk0 h3 h4 h5 h6 h7 h8 h9)
 obtain ⟨K, hK⟩ : ∃ K, N + 1 = K + M := ⟨N + 1 - M, by omega⟩
 have c4 := J0 A C N N M K (M - 1) M (nrm l) (nrm k) W hN n1 ((h.nrm.below hp).more hp.size) hM (by omega) ((g.nrm.below hp).more hp.size) (D2 k) hK (by omega)
 rw [Ar, Ar] at c4
 have HW := Lh hW
 have HP := Lh hp
 have z0 : ((M : Int) == 0) = false := by simp; omega
 have z1 : ¬ (N : Int) < (M : Int) := by omega
 have z2 : ((M : Int) == 1) = false := by simp; omega
 have HK := Lh (show K ≤ 1024 ∧ N + 1 ≤ 1025 by omega)
 obtain ⟨q, hq⟩ : ∃ q, val l / val k = q := ⟨_, rfl⟩
 obtain ⟨z, hz⟩ : ∃ z, val l % val k = z := ⟨_, rfl⟩
 rw [hq, hz] at HOK
 unfold Li at c4
 rw [hq, hz] at c4
 clear h g hn hc hm gn gc gm hl hp hl1 hl2 n1 n2 hN hM hW hle h1k hk0 hq hz hK
 go_enter Tryz.func228, Tryz.ntmps228
 go_wp2_with fail
 rw [show w.alloc (.cells #[.slice A n c, .slice C m d] 121) = W from HW.out]
 refine c1.mono ?_
 rintro e w1 ⟨rfl, rfl⟩
 go_wp2_with fail
 refine c2.mono ?_
 rintro e w1 ⟨rfl, rfl⟩
 go_wp2_with fail
 refine c3.mono ?_
 rintro e w1 ⟨rfl, rfl⟩
 go_wp2_with fail
 refine c4.mono ?_
 rintro e w2 ⟨S, T, g1, g2, rfl, r2, t2, s1, s2, s3, s4, s5, s6, b2⟩
 have B2 := Aa HP.out b2
 have hlt2 := r2.lt
 have hlt3 := t2.lt
 have c5 := Ak (some ⟨g2, 0, none⟩) K K S w2.heap.size w2 s1 (Nat.le_refl _) (by have := HK.out; omega) ((r2.rw0 s3).more hlt2)
 have c6 := Ak (some ⟨g1, 0, none⟩) (N + 1) (N + 1) T w2.heap.size w2 s2 (Nat.le_refl _) (by have := HK.out; omega) ((t2.rw0 s4).more hlt3)
 have HR2 := Lh ((r2.rw0 s3).more hlt2).nrm
 have HR3 := Lh ((t2.rw0 s4).more hlt3).nrm
 rw [Cb s3, s5] at c5 HR2
 rw [Cb s4, s6] at c6 HR3
 have HF := Lh (HOK.out w2 _ _ (wds q).length _ _ (wds z).length rfl (Nat.le_refl _) rfl (Nat.le_refl _) HR2.out HR3.out B2)
 clear r2 t2 s1 s2 s3 s4 s5 s6 b2 hlt2 hlt3 c1 c2 c3 c4
 go_wp2_with fail
 refine c5.mono ?_
 rintro e w' ⟨rfl, rfl⟩
 go_wp2_with fail
 refine c6.mono ?_
 rintro e w' ⟨rfl, rfl⟩
 go_wp2
 (try simp only [Exit.inBlock, Exit.then])
 refine bodyPost_ret (Ax rfl _ _ _) rfl ?_
 exact HF.out
theorem Ady (A C : Option Addr) (n c m d : Nat) (l k : List Nat) (w : World) (hn : l.length = n) (hc : n ≤ c) (hm : n ≤ 35184372088832) (h : RW w w.heap.size A l)
  (gn : k.length = m) (gc : m ≤ d) (gm : m ≤ 35184372088832) (g : RW w w.heap.size C k) :
  Cp 228 #[.slice A n c, .slice C m d] w (DivT (Iu (val l) (val k)) (It (val l) (val k)) (Fy (val l) (val k)) w) := by
 cases hl : (Ah (val l) || Ah (val k))
 ·rcases Nat.eq_zero_or_pos (val k) with h0 | h0
  ·exact Acb A C n c m d l k w hn hc hm h gn gc gm g hl h0
  ·have hp : 0 < (nrm k).length := List.length_pos_iff.2 (fun e => by rw [← Ar, e] at h0; simp [val] at h0)
   rcases Nat.lt_or_ge (nrm l).length (nrm k).length with h1 | h1
   ·exact Yg A C n c m d l k w hn hc hm h gn gc gm g hl h1
   ·by_cases h2 : (nrm k).length = 1
    ·exact Aab A C n c m d l k w hn hc hm h gn gc gm g hl h1 h2
    ·exact Adv A C n c m d l k w hn hc hm h gn gc gm g hl h1 (by omega)
 ·exact Abx A C n c m d l k w hn hc hm h gn gc gm g hl
theorem NatPost.err {v : Nat} {w w' : World} {e : Ending} (h : NatPost v w e w') (hl : Ah v = true) : e = .returned (.tuple #[.slice none 0 0, .int .i64 3]) ∧ Below w.heap.size w w' := by
 obtain ⟨A, n, c, k, h1, h2, h3⟩ := h
 rw [if_pos hl] at h2
 obtain ⟨rfl, rfl, rfl, rfl⟩ := h2
 exact ⟨h1, h3⟩
theorem Ace (n i : Nat) (hn : n < 9223372036854775808) : bits BinOp.and IntKind.i64 ((n : Int) / 2 ^ i) 1 = ((n / 2 ^ i % 2 : Nat) : Int) := by
 have h1 : n / 2 ^ i ≤ n := Nat.div_le_self _ _
 have e : ((n : Int) / 2 ^ i) = ((n / 2 ^ i : Nat) : Int) := by rw [Int.natCast_ediv, Int.natCast_pow]; rfl
 rw [e]
 obtain ⟨m, hm⟩ : ∃ m, n / 2 ^ i = m := ⟨_, rfl⟩
 rw [hm] at h1 ⊢
 show IntKind.i64.wrap ((BitVec.ofInt 64 (m : Int) &&& BitVec.ofInt 64 1).toNat : Int) = _
 have e1 : (BitVec.ofInt 64 1).toNat = 1 := by decide
 have e2 : (BitVec.ofInt 64 (m : Int)).toNat = m := by
  rw [BitVec.ofInt_natCast, BitVec.toNat_ofNat]; exact Nat.mod_eq_of_lt (by omega)
 rw [BitVec.toNat_and, e1, e2, Nat.and_one_is_mod, IntKind.wrap_i64]
 omega
theorem Aep (b n : Nat) (w : World) (hb : b < 4294967296) (hn : n < 9223372036854775808) :
  Cp 226 #[.int .u32 b, .int .i64 n] w (NatPost (b ^ n) w) := by
 obtain ⟨F, hF⟩ : ∃ F, (wds b).length = F := ⟨_, rfl⟩
 obtain ⟨O, hO⟩ : ∃ O, (wds 1).length = O := ⟨_, rfl⟩
 have K1 := Lh (fun W => show Cp 187 #[.int .u64 b] W (Afi (wds b) F W) from by
  have := (Kl b (by omega) W).mono fun _ _ y => y.told (n := F) (by rw [E1 b (by omega)]; exact hF)
  rw [E1 b (by omega)] at this; exact this)
 have K2 := Lh (fun W => show Cp 187 #[.int .u64 1] W (Afi (wds 1) O W) from by
  have := (Kl 1 (by omega) W).mono fun _ _ y => y.told (n := O) (by rw [E1 1 (by omega)]; exact hO)
  rw [E1 1 (by omega)] at this; exact this)
 have hbl := Lib.bitLen_le n 64 (by omega) (by omega)
 have c3 := fun W => (Tryz.bits_Len (n : Int) W (by omega) (by omega)).mono fun _ _ (h : _ ∧ _ = W) => And.intro h.1 h.2.symm
 rw [Int.toNat_natCast] at c3
 obtain ⟨q0, hq0⟩ : ∃ q0, Lib.bitLen n = q0 := ⟨_, rfl⟩
 rw [hq0] at c3 hbl
 have hz : n / 2 ^ q0 = 0 := by
  rw [← hq0]
  rcases Nat.eq_zero_or_pos n with h0 | h0
  ·rw [h0]; exact Nat.zero_div _
  ·exact Nat.div_eq_of_lt (Lib.bitLenAux_bounds 64 n (by omega) (by omega)).2.2
 have HZ := Lh (show b ^ (n / 2 ^ q0) = 1 by rw [hz]; rfl)
 have HF := Lh hF
 have HO := Lh hO
 have hF1 : F ≤ 2 := by rw [← hF, ← E1 b (by omega)]; exact Bq _
 have k1 : IntKind.u64.wrap (b : Int) = (b : Int) := IntWalk.u64_in _ (by omega)
 have k2 : IntKind.u64.wrap (n : Int) = (n : Int) := IntWalk.u64_in _ (by omega)
 have HB := Lh hb
 have HN := Lh hn
 have n0 : (0 : Int) ≤ (n : Int) := by omega
 clear hb hn hF hO hq0 hz
 go_enter Tryz.func226, Tryz.ntmps226
 go_wp2_with fail
 refine (K1.out _).mono ?_
 rintro e w1 ⟨A1, c1, rfl, ⟨hc1, r1⟩, b1⟩
 go_wp2_with fail
 refine (K2.out _).mono ?_
 rintro e w2 ⟨A2, c2, rfl, ⟨hc2, r2⟩, b2⟩
 go_wp2_with fail
 refine Sm (c3 _) ?_
 have HR1 := Lh (r1.step b2)
 have HR2 := Lh r2
 have HB2 := Lh (Aa b1 b2)
 clear r1 r2 b1 b2 c3
 go_wp2
 go_loopw [7, 8] (fun v i wr => ∃ (q : Nat) (A : Option Addr) (N c : Nat), v = .slice A N c ∧ i = .int .i64 ((q : Int) - 1) ∧ q ≤ 64 ∧ Hid ((wds (b ^ (n / 2 ^ q))).length = N) ∧ N ≤ c ∧ Hid (RW wr wr.heap.size A (wds (b ^ (n / 2 ^ q)))) ∧ Hid (Ah (b ^ (n / 2 ^ q)) = false) ∧ Below w2.heap.size w2 wr) (fun _ i _ => (intOf i + 1).toNat)
 case atStart => exact ⟨q0, A2, O, c2, rfl, rfl, hbl, Lh (by rw [HZ.out]; exact HO.out), hc2, Lh (by rw [HZ.out]; exact HR2.out), Lh (by rw [HZ.out]; exact Dv (by omega)), Below.refl _ _⟩
 case round =>
  obtain ⟨q, A, N, c, rfl, rfl, hq, HNq, hNc, HR, HL, hbw⟩ := hrel
  by_cases h0 : q = 0
  ·subst h0
   have HE := Lh (show b ^ (n / 2 ^ 0) = b ^ n by rw [Nat.pow_zero, Nat.div_one])
   have HX := Lh (NatPost.ok (w := w) HL.out HNq.out.symm hNc HR.out (Aa HB2.out hbw))
   go_wp2
   go_ret2
   rw [← HE.out]
   exact HX.out
  ·obtain ⟨i, rfl⟩ : ∃ i, q = i + 1 := ⟨q - 1, by omega⟩
   have hNl := Adk HL.out
   rw [HNq.out] at hNl
   have C1 := Lh (Ty A A N c N c (wds (b ^ (n / 2 ^ (i + 1)))) (wds (b ^ (n / 2 ^ (i + 1)))) wr HNq.out hNc (by omega) HR.out HNq.out hNc (by omega) HR.out (by rw [Ao, HL.out]; rfl))
   rw [Ao] at C1
   clear h0
   cases hsq : Ah (b ^ (n / 2 ^ (i + 1)) * b ^ (n / 2 ^ (i + 1)))
   ·obtain ⟨N3, hN3⟩ : ∃ N3, (wds (b ^ (n / 2 ^ (i + 1)) * b ^ (n / 2 ^ (i + 1)))).length = N3 := ⟨_, rfl⟩
    have C2 := Lh (C1.out.mono fun _ _ x => x.one hsq hN3)
    have hi1 : (i : Int) ≤ 63 := by omega
    have hbt := Ace n i HN.out
    have hhalf := Aak b n i
    have hbit : n / 2 ^ i % 2 = 0 ∨ n / 2 ^ i % 2 = 1 := by omega
    rcases hbit with hbit | hbit
    ·rw [hbit, Nat.pow_zero, Nat.mul_one] at hhalf
     rw [hhalf] at C2 hsq hN3
     have hT : (bits BinOp.and IntKind.i64 ((n : Int) / 2 ^ i) 1 == 1) = false := by rw [hbt, hbit]; rfl
     have HN3 := Lh hN3
     have HSQ := Lh hsq
     clear hbit hbt hhalf hN3 hsq C1 hNl
     go_wp2_with fail
     refine C2.out.mono ?_
     rintro e w3 ⟨A3, c3, rfl, ⟨hc3, r3⟩, b3⟩
     have HR3 := Lh r3
     have HB3 := Lh (Aa hbw b3)
     clear r3 b3 C2
     go_wp2
     go_roundw
     case rel => exact ⟨i, A3, N3, c3, rfl, by go_num, by omega, HN3, hc3, HR3, HSQ, HB3.out⟩
     case measure => simp [intOf]
    ·rw [hbit, Nat.pow_one] at hhalf
     have hT : (bits BinOp.and IntKind.i64 ((n : Int) / 2 ^ i) 1 == 1) = true := by rw [hbt, hbit]; rfl
     have hN3l := Adk hsq
     rw [hN3] at hN3l
     have C4 := Lh (fun W A5 c5 (h5 : N3 ≤ c5) (r5 : RW W W.heap.size A5 (wds (b ^ (n / 2 ^ (i + 1)) * b ^ (n / 2 ^ (i + 1))))) (r6 : RW W W.heap.size A1 (wds b)) =>
      show Cp 227 #[.slice A5 N3 c5, .slice A1 F c1] W (NatPost (b ^ (n / 2 ^ i)) W) from by
       have := Ty A5 A1 N3 c5 F c1 _ _ W hN3 h5 (by omega) r5 HF.out hc1 (by omega) r6 (by rw [Ao, Ao, hsq, Dv HB.out]; rfl)
       rw [Ao, Ao, hhalf] at this
       exact this)
     clear hbit hbt hhalf hN3 hsq C1 hNl hN3l
     cases hmu : Ah (b ^ (n / 2 ^ i))
     ·obtain ⟨N4, hN4⟩ : ∃ N4, (wds (b ^ (n / 2 ^ i))).length = N4 := ⟨_, rfl⟩
      have HN4 := Lh hN4
      have HMU := Lh hmu
      clear hN4 hmu
      go_wp2_with fail
      refine C2.out.mono ?_
      rintro e w3 ⟨A3, c3, rfl, ⟨hc3, r3⟩, b3⟩
      have D4 := Lh ((C4.out w3 A3 c3 hc3 r3 ((HR1.out.step hbw).step b3)).mono fun _ _ x => x.one HMU.out HN4.out)
      have hbw3 := Aa hbw b3
      clear r3 b3 C2 C4
      go_wp2_with fail
      refine D4.out.mono ?_
      rintro e w4 ⟨A4, c4, rfl, ⟨hc4, r4⟩, b4⟩
      have HR4 := Lh r4
      have HB4 := Lh (Aa hbw3 b4)
      clear r4 b4 D4
      go_wp2
      go_roundw
      case rel => exact ⟨i, A4, N4, c4, rfl, by go_num, by omega, HN4, hc4, HR4, HMU, HB4.out⟩
      case measure => simp [intOf]
     ·have HMU := Lh hmu
      have HLN := Lh (Z6 b _ n (Nat.div_le_self n (2 ^ i)) hmu)
      clear hmu
      go_wp2_with fail
      refine C2.out.mono ?_
      rintro e w3 ⟨A3, c3, rfl, ⟨hc3, r3⟩, b3⟩
      have D4 := Lh ((C4.out w3 A3 c3 hc3 r3 ((HR1.out.step hbw).step b3)).mono fun _ _ x => x.err HMU.out)
      have hbw3 := Aa hbw b3
      clear r3 b3 C2 C4
      go_wp2_with fail
      refine D4.out.mono ?_
      rintro e w4 ⟨rfl, b4⟩
      have HB4 := Lh (Aa HB2.out (Aa hbw3 b4))
      clear b4 D4
      go_wp2
      go_ret2
      exact NatPost.long HLN.out HB4.out
   ·have HSQ := Lh hsq
    have HLN := Lh (show Ah (b ^ n) = true by rw [Ag2] at hsq; exact Z6 b _ n (Ahm n i) hsq)
    have C2 := Lh (C1.out.mono fun _ _ x => x.err hsq)
    clear hsq hNl C1
    go_wp2_with fail
    refine C2.out.mono ?_
    rintro e w3 ⟨rfl, b3⟩
    have HB3 := Lh (Aa HB2.out (Aa hbw b3))
    clear b3 C2
    go_wp2
    go_ret2
    exact NatPost.long HLN.out HB3.out
end
section
def Bu (N : Nat) (e : Int) : Nat := rnd (N * 10 ^ e.toNat * 2 ^ 1074) (10 ^ (-e).toNat)
theorem Fj : ∃ K : Nat, K = 1074 ∧ ∀ N e, Bu N e = rnd (N * 10 ^ e.toNat * 2 ^ K) (10 ^ (-e).toNat) := ⟨1074, rfl, fun _ _ => rfl⟩
theorem Aq (k : Nat) : 0 < 10 ^ k := Nat.pow_pos (by omega)
theorem Rn {u v : Nat} (h : 2 * u < v) : rnd u v = 0 := by
 have h1 : u / v = 0 := Nat.div_eq_of_lt (by omega)
 have h2 : Bk u v = 0 := by unfold Bk; rw [h1]; rfl
 unfold rnd
 rw [h2, Nat.pow_zero, Nat.one_mul]
 unfold Cn
 rw [h1, Nat.mod_eq_of_lt (by omega), decide_eq_false (by omega), decide_eq_false (by omega)]
 rfl
theorem Ww (e : Int) : Bu 0 e = 0 := by
 obtain ⟨K, hK, h⟩ := Fj
 rw [h, Nat.zero_mul, Nat.zero_mul]
 exact Rn (Aq _)
theorem Dp (N j : Nat) (e : Int) : Bu (N * 10 ^ j) e = Bu N (e + j) := by
 obtain ⟨K, hK, h⟩ := Fj
 rw [h, h]
 refine Nc (Aq _) (Aq _) ?_
 have e1 : 10 ^ j * 10 ^ e.toNat * 10 ^ (-(e + j)).toNat = 10 ^ (e + j).toNat * 10 ^ (-e).toNat := by
  rw [← Nat.pow_add, ← Nat.pow_add, ← Nat.pow_add]
  congr 1
  omega
 generalize 10 ^ j = x at *
 generalize 10 ^ e.toNat = y at *
 generalize 10 ^ (-(e + j)).toNat = z at *
 generalize 10 ^ (e + j).toNat = p at *
 generalize 10 ^ (-e).toNat = q at *
 generalize 2 ^ K = U at *
 have h1 : N * x * y * U * z = N * (x * y * z) * U := by grind
 have h2 : N * p * U * q = N * (p * q) * U := by grind
 rw [h1, h2, e1]
set_option exponentiation.threshold 2000 in
theorem Afr : ∀ K T : Nat, K = 1075 → T = 324 → 2 ^ K < 10 ^ T := by
 intro K T hK hT
 subst hK
 subst hT
 decide +kernel
set_option exponentiation.threshold 2000 in
theorem Ad9 : ∀ K T : Nat, K = 1024 → T = 309 → 2 ^ K ≤ 10 ^ T := by
 intro K T hK hT
 subst hK
 subst hT
 decide +kernel
theorem Xw {N L : Nat} {e : Int} (hN : N < 10 ^ L) (h : (L : Int) + e ≤ -324) : Bu N e = 0 := by
 obtain ⟨K, hK, hd⟩ := Fj
 rw [hd, show e.toNat = 0 by omega, Nat.pow_zero, Nat.mul_one]
 refine Rn ?_
 obtain ⟨T, hT⟩ : ∃ T : Nat, T = 324 := ⟨_, rfl⟩
 have h1 := Afr (K + 1) T (by omega) hT
 have h2 : 10 ^ L * 10 ^ T ≤ 10 ^ (-e).toNat := by
  rw [← Nat.pow_add]
  exact Nat.pow_le_pow_right (by omega) (by omega)
 rw [Nat.pow_succ] at h1
 refine Nat.lt_of_lt_of_le ?_ h2
 have hL := Aq L
 generalize 10 ^ L = x at *
 generalize 10 ^ T = y at *
 generalize 2 ^ K = U at *
 have a1 : N * (U * 2) ≤ x * (U * 2) := Nat.mul_le_mul_right _ (Nat.le_of_lt hN)
 have a2 : x * (U * 2) < x * y := Nat.mul_lt_mul_of_pos_left h1 hL
 have a3 : 2 * (N * U) = N * (U * 2) := by grind
 omega
theorem Xc {N M : Nat} {e : Int} (hN : 10 ^ M ≤ N) (h : 309 ≤ (M : Int) + e) : Bu N e = 9218868437227405312 := by
 obtain ⟨K, hK, hd⟩ := Fj
 rw [hd]
 refine Jk (Aq _) ?_
 obtain ⟨D, hD⟩ : ∃ D : Nat, D = 2046 := ⟨_, rfl⟩
 have e1 := Ap 4503599627370496 D (by omega) (by omega)
 rw [show D * 4503599627370496 + 4503599627370496 = 9218868437227405312 by omega] at e1
 rw [e1]
 obtain ⟨T, hT⟩ : ∃ T : Nat, T = 309 := ⟨_, rfl⟩
 have h1 := Ad9 (D + 52 - K) T (by omega) hT
 have h2 : 4503599627370496 * 2 ^ D = 2 ^ (D + 52 - K) * 2 ^ K := by
  rw [show (4503599627370496 : Nat) = 2 ^ 52 from rfl, ← Nat.pow_add, ← Nat.pow_add]
  exact congrArg (fun k => 2 ^ k) (show 52 + D = D + 52 - K + K by omega)
 have h3 : 10 ^ T * 10 ^ (-e).toNat ≤ 10 ^ M * 10 ^ e.toNat := by
  rw [← Nat.pow_add, ← Nat.pow_add]
  exact Nat.pow_le_pow_right (by omega) (by omega)
 rw [h2]
 generalize 2 ^ (D + 52 - K) = A at *
 generalize 2 ^ K = U at *
 generalize 10 ^ T = Tn at *
 generalize 10 ^ (-e).toNat = z at *
 generalize 10 ^ M = m at *
 generalize 10 ^ e.toNat = y at *
 have a1 : A * U * z = A * z * U := by grind
 rw [a1]
 refine Nat.mul_le_mul_right _ ?_
 have a2 : A * z ≤ Tn * z := Nat.mul_le_mul_right _ h1
 have a3 : m * y ≤ N * y := Nat.mul_le_mul_right _ hN
 omega
theorem Zk {N N' p r T : Nat} {e : Int} (hT : T = 768) (hp : 10 ^ T ≤ p) (a1 : p * 10 ^ r < N) (a2 : N < (p + 1) * 10 ^ r) (b1 : p * 10 ^ r < N') (b2 : N' < (p + 1) * 10 ^ r) (htop : (p + 1) * 10 ^ (e + r).toNat ≤ 10 ^ T * 10 ^ (-(e + r)).toNat) : Bu N e = Bu N' e := by
 have main : ∀ N N' : Nat, N ≤ N' → p * 10 ^ r < N → N' < (p + 1) * 10 ^ r → Bu N e = Bu N' e := by
  intro N N' hle c1 c2
  obtain ⟨K, hK, hd⟩ := Fj
  rw [hd, hd]
  refine Aay (Aq _) (Aq _) (Nat.mul_le_mul_right _ (Nat.mul_le_mul_right _ (Nat.mul_le_mul_right _ hle))) ?_
  intro c D hc h1 h2
  have e1 : 10 ^ r * 10 ^ e.toNat * 10 ^ (-(e + r)).toNat = 10 ^ (e + r).toNat * 10 ^ (-e).toNat := by
   rw [← Nat.pow_add, ← Nat.pow_add, ← Nat.pow_add]
   congr 1
   omega
  have hy := Aq e.toNat
  have hz := Aq (-(e + r)).toNat
  have hq := Aq (-e).toNat
  have hU := Nat.two_pow_pos K
  refine Ab3 (p := p) (s := (e + r).toNat) (t := (-(e + r)).toNat) (c := c) (D := D) (K := K + 1) (by omega) hT hp hc ?_ ?_ htop
  ·rw [Nat.pow_succ]
   generalize 10 ^ r = x at *
   generalize 10 ^ e.toNat = y at *
   generalize 10 ^ (-(e + r)).toNat = z at *
   generalize 10 ^ (e + r).toNat = s at *
   generalize 10 ^ (-e).toNat = q at *
   generalize 2 ^ K = U at *
   generalize c * 2 ^ D = C at *
   refine Nat.lt_of_mul_lt_mul_right (a := q) ?_
   have g1 : p * x * (y * (U * 2) * z) < N * (y * (U * 2) * z) := Nat.mul_lt_mul_of_pos_right c1 (Nat.mul_pos (Nat.mul_pos hy (by omega)) hz)
   have g2 : 2 * (N * y * U) * z ≤ C * q * z := Nat.mul_le_mul_right _ h1
   have g3 : p * s * (U * 2) * q = p * x * (y * (U * 2) * z) := by
    have : p * s * (U * 2) * q = p * (s * q) * (U * 2) := by grind
    rw [this, ← e1]; grind
   have g4 : N * (y * (U * 2) * z) = 2 * (N * y * U) * z := by grind
   have g5 : C * z * q = C * q * z := by grind
   omega
  ·rw [Nat.pow_succ]
   generalize 10 ^ r = x at *
   generalize 10 ^ e.toNat = y at *
   generalize 10 ^ (-(e + r)).toNat = z at *
   generalize 10 ^ (e + r).toNat = s at *
   generalize 10 ^ (-e).toNat = q at *
   generalize 2 ^ K = U at *
   generalize c * 2 ^ D = C at *
   refine Nat.lt_of_mul_lt_mul_right (a := q) ?_
   have g1 : N' * (y * (U * 2) * z) < (p + 1) * x * (y * (U * 2) * z) := Nat.mul_lt_mul_of_pos_right c2 (Nat.mul_pos (Nat.mul_pos hy (by omega)) hz)
   have g2 : C * q * z ≤ 2 * (N' * y * U) * z := Nat.mul_le_mul_right _ h2
   have g3 : (p + 1) * s * (U * 2) * q = (p + 1) * x * (y * (U * 2) * z) := by
    have : (p + 1) * s * (U * 2) * q = (p + 1) * (s * q) * (U * 2) := by grind
    rw [this, ← e1]; grind
   have g4 : N' * (y * (U * 2) * z) = 2 * (N' * y * U) * z := by grind
   have g5 : C * z * q = C * q * z := by grind
   omega
 rcases Nat.le_total N N' with h | h
 ·exact main N N' h a1 b2
 ·exact (main N' N h b1 a2).symm
theorem Acd {p r q k : Nat} {e : Int} (hk : 769 ≤ k) (hp : 10 ^ (k - 1) ≤ p) (hp2 : p < 10 ^ k) (hq : q < 10 ^ r) (h0 : 0 < q) (hpt : (k : Int) + (e + r) ≤ 768) : Bu (p * 10 ^ r + q) e = Bu (p * 10 + 1) (e + r - 1) := by
 obtain ⟨T, hT⟩ : ∃ T : Nat, T = 768 := ⟨_, rfl⟩
 have hr : 0 < r := by
  rcases Nat.eq_zero_or_pos r with h | h
  ·rw [h, Nat.pow_zero] at hq; omega
  ·exact h
 obtain ⟨j, rfl⟩ : ∃ j, r = j + 1 := ⟨r - 1, by omega⟩
 have e1 : Bu ((p * 10 + 1) * 10 ^ j) e = Bu (p * 10 + 1) (e + (j + 1 : Nat) - 1) := by
  rw [Dp]
  exact congrArg (Bu _) (by omega)
 rw [← e1]
 have hj := Aq j
 have hpT : 10 ^ T ≤ p := Nat.le_trans (Nat.pow_le_pow_right (by omega) (by omega)) hp
 refine Zk hT hpT ?_ ?_ ?_ ?_ (r := j + 1) ?_
 ·omega
 ·rw [Nat.add_mul, Nat.one_mul]; omega
 ·rw [Nat.pow_succ]; grind
 ·rw [Nat.pow_succ]; grind
 ·have h1 : (p + 1) * 10 ^ (e + (j + 1 : Nat)).toNat ≤ 10 ^ k * 10 ^ (e + (j + 1 : Nat)).toNat := Nat.mul_le_mul_right _ hp2
  have h2 : 10 ^ k * 10 ^ (e + (j + 1 : Nat)).toNat ≤ 10 ^ T * 10 ^ (-(e + (j + 1 : Nat))).toNat := by
   rw [← Nat.pow_add, ← Nat.pow_add]
   exact Nat.pow_le_pow_right (by omega) (by omega)
  exact Nat.le_trans h1 h2
end
section
theorem As (k : Nat) : 0 < 2 ^ k := Nat.two_pow_pos k
theorem Yb {N n q t A B D : Nat} (hq : N = q * n + t) (hn : 0 < n) (hD : Bk (N * 2 ^ A) (2 ^ B * n) = D) (hbig : 2 ^ 60 ≤ q) : A + 7 ≤ D + B := by
 have s2 := (Ef (Nat.mul_pos (As B) hn) hD).2
 rcases Nat.lt_or_ge (D + B) (A + 7) with h | h
 ·exfalso
  have h1 : 2 ^ 60 * n ≤ N := by
   have := Nat.mul_le_mul_right n hbig
   omega
  have h2 : 2 ^ 60 * n * 2 ^ A ≤ N * 2 ^ A := Nat.mul_le_mul_right _ h1
  have h3 : 2 ^ D * 2 ^ B ≤ 2 ^ (A + 6) := by rw [← Nat.pow_add]; exact Nat.pow_le_pow_right (by omega) (by omega)
  have h4 : (2 : Nat) ^ (A + 6) = 2 ^ A * 64 := by rw [Nat.pow_add]
  have h5 : 9007199254740992 * 2 ^ D * (2 ^ B * n) = 9007199254740992 * (2 ^ D * 2 ^ B) * n := by grind
  rw [h5] at s2
  have h6 : 9007199254740992 * (2 ^ D * 2 ^ B) * n ≤ 9007199254740992 * (2 ^ A * 64) * n := Nat.mul_le_mul_right _ (Nat.mul_le_mul_left _ (by omega))
  have h7 : (2 : Nat) ^ 60 = 1152921504606846976 := by decide
  rw [h7] at h2
  have hP := As A
  generalize 2 ^ A = P at *
  have h8 : 9007199254740992 * (P * 64) * n = 576460752303423488 * (n * P) := by grind
  have h9 : 1152921504606846976 * n * P = 1152921504606846976 * (n * P) := Nat.mul_assoc _ _ _
  omega
 ·exact h
theorem Zc {m N n q t s : Nat} {ten last : Int} (hN : N = m * 5 ^ ten.toNat * 2 ^ (ten - last).toNat) (hn : n = 5 ^ (-ten).toNat * 2 ^ (last - ten).toNat) (hq : N = q * n + t) (ht : t < n) (hs : s = if t = 0 then 0 else 1) (hbig : last = -1076 ∨ 2 ^ 60 ≤ q) :
  Bu m ten = rnd ((q ||| s) * 2 ^ (last + 1074).toNat) (2 ^ (-(last + 1074)).toNat) := by
 obtain ⟨K, hK, hd⟩ := Fj
 obtain ⟨A, hA⟩ : ∃ A, (last + 1074).toNat = A := ⟨_, rfl⟩
 obtain ⟨B, hB⟩ : ∃ B, (-(last + 1074)).toNat = B := ⟨_, rfl⟩
 have hn0 : 0 < n := by omega
 obtain ⟨D, hD⟩ : ∃ D, Bk (N * 2 ^ A) (2 ^ B * n) = D := ⟨_, rfl⟩
 have key : A + 2 ≤ D + B := by
  rcases hbig with h | h
  ·omega
  ·have := Yb hq hn0 hD h
   omega
 obtain ⟨d, hd2⟩ : ∃ d, D + B = A + d := ⟨D + B - A, by omega⟩
 rw [hA, hB, (Aa1 hn0 hq ht hs hD hd2 (by omega)).2 (by omega), hd]
 refine Nc (Aq _) (Nat.mul_pos (As B) hn0) ?_
 rw [hN, hn, show (10 : Nat) = 5 * 2 from rfl, Nat.mul_pow, Nat.mul_pow]
 have e1 : 2 ^ ten.toNat * 2 ^ K * 2 ^ B * 2 ^ (last - ten).toNat = 2 ^ (ten - last).toNat * 2 ^ A * 2 ^ (-ten).toNat := by
  rw [← Nat.pow_add, ← Nat.pow_add, ← Nat.pow_add, ← Nat.pow_add, ← Nat.pow_add]
  congr 1
  omega
 generalize 5 ^ ten.toNat = f at *
 generalize 5 ^ (-ten).toNat = g at *
 generalize 2 ^ ten.toNat = x1 at *
 generalize 2 ^ K = x2 at *
 generalize 2 ^ B = x3 at *
 generalize 2 ^ (last - ten).toNat = x4 at *
 generalize 2 ^ (ten - last).toNat = y1 at *
 generalize 2 ^ A = y2 at *
 generalize 2 ^ (-ten).toNat = y3 at *
 have a1 : m * (f * x1) * x2 * (x3 * (g * x4)) = m * f * g * (x1 * x2 * x3 * x4) := by grind
 have a2 : m * f * y1 * y2 * (g * y3) = m * f * g * (y1 * y2 * y3) := by grind
 rw [a1, a2, e1]
theorem Acl {n L drop A B D : Nat} (h1 : n < 2 ^ L) (h2 : L = 0 ∨ 2 ^ (L - 1) ≤ n) (hL : L ≤ drop + 53) (h3 : D = 0 ∨ L = drop + 53) (hD : D + B = A + drop) :
  rnd (n * 2 ^ A) (2 ^ B) = min (D * 4503599627370496 + Cn n (2 ^ drop)) 9218868437227405312 ∧ Cn n (2 ^ drop) ≤ 9007199254740992 ∧ (D = 0 ∨ 4503599627370496 ≤ Cn n (2 ^ drop)) := by
 have hP : 2 ^ D * 2 ^ B = 2 ^ A * 2 ^ drop := by rw [← Nat.pow_add, ← Nat.pow_add, hD]
 have hA := As A
 have hd := As drop
 have up : n ≤ 9007199254740992 * 2 ^ drop ∧ n < 9007199254740992 * 2 ^ drop := by
  have : 2 ^ L ≤ 9007199254740992 * 2 ^ drop := by
   rw [show (9007199254740992 : Nat) = 2 ^ 53 from rfl, ← Nat.pow_add]
   exact Nat.pow_le_pow_right (by omega) (by omega)
  omega
 have lo : D = 0 ∨ 4503599627370496 * 2 ^ drop ≤ n := by
  rcases h3 with h | h
  ·exact Or.inl h
  ·refine Or.inr ?_
   rw [show (4503599627370496 : Nat) = 2 ^ 52 from rfl, ← Nat.pow_add, show 52 + drop = L - 1 by omega]
   exact h2.resolve_left (by omega)
 have hp : Bk (n * 2 ^ A) (2 ^ B) = D := by
  refine Dz (As B) ?_ ?_
  ·rcases lo with h | h
   ·exact Or.inl h
   ·refine Or.inr ?_
    rw [Nat.mul_assoc, hP]
    have := Nat.mul_le_mul_right (2 ^ A) h
    have e : 4503599627370496 * 2 ^ drop * 2 ^ A = 4503599627370496 * (2 ^ A * 2 ^ drop) := by rw [Nat.mul_assoc, Nat.mul_comm (2 ^ drop)]
    omega
  ·rw [Nat.mul_assoc, hP]
   have := Nat.mul_lt_mul_of_pos_right up.2 hA
   have e : 9007199254740992 * 2 ^ drop * 2 ^ A = 9007199254740992 * (2 ^ A * 2 ^ drop) := by rw [Nat.mul_assoc, Nat.mul_comm (2 ^ drop)]
   omega
 refine ⟨?_, Wr hd up.1, ?_⟩
 ·unfold rnd
  rw [hp, hP, Nat.mul_comm (2 ^ A), Bz hA]
 ·rcases lo with h | h
  ·exact Or.inl h
  ·exact Or.inr (Np hd h)
theorem Tl {n h : Nat} : Cn n (2 * h) = if h < n % (2 * h) ∨ (n % (2 * h) = h ∧ n / (2 * h) % 2 = 1) then n / (2 * h) + 1 else n / (2 * h) := by
 unfold Cn
 generalize n % (2 * h) = r
 generalize n / (2 * h) = q
 by_cases c1 : h < r
 ·rw [if_pos (Or.inl c1), decide_eq_true (by omega), Bool.true_or]; rfl
 ·rw [decide_eq_false (show ¬ 2 * h < 2 * r by omega), Bool.false_or]
  by_cases c2 : r = h
  ·rw [decide_eq_true (by omega), Bool.true_and]
   by_cases c3 : q % 2 = 1
   ·rw [decide_eq_true c3, if_pos (Or.inr ⟨c2, c3⟩)]; rfl
   ·rw [decide_eq_false c3, if_neg (by omega)]; rfl
  ·rw [decide_eq_false (show ¬ 2 * h = 2 * r by omega), Bool.false_and, if_neg (by omega)]; rfl
end
section
theorem Qf {l : List Nat} (h : Ws l) (hv : l = [] ∨ 4294967296 ^ (l.length - 1) ≤ val l) : nrm l = l := by
 rcases hv with rfl | hv
 ·rfl
 ·have h1 := Bq l
  rcases Nat.lt_or_ge (nrm l).length l.length with h2 | h2
  ·have h3 := Dk h.nrm
   rw [Ar] at h3
   have h4 : 4294967296 ^ (nrm l).length ≤ 4294967296 ^ (l.length - 1) := Nat.pow_le_pow_right (by omega) (by omega)
   omega
  ·have h3 := Hq l
   rw [List.take_of_length_le h2] at h3
   exact h3
structure TpT (a : List Nat) (x y k : Nat) (S : List Nat) (q : Nat) : Prop where
 len : S.length = a.length
 ws : Ws S
 far : ∀ j, k ≤ j → S.getD j 0 = a.getD j 0
 sum : val (S.take k) + 4294967296 ^ k * q = x * val (a.take k) + y
 low : q < 4294967296
theorem TpT.start {a : List Nat} (ha : Ws a) {x y : Nat} (hy : y < 4294967296) : TpT a x y 0 a y := ⟨rfl, ha, fun _ _ => rfl, by simp [val], hy⟩
def tpC (a : List Nat) (x k q : Nat) : Nat := q + a.getD k 0 * x
theorem Aaf {a : List Nat} {x k q : Nat} (ha : Ws a) (hx : x < 4294967296) (hq : q < 4294967296) : a.getD k 0 * x ≤ 18446744065119617025 ∧ tpC a x k q ≤ 18446744069414584320 := by
 have h1 := ha.getD k
 have h3 : a.getD k 0 * x ≤ 4294967295 * 4294967295 := Nat.mul_le_mul (by omega) (by omega)
 unfold tpC
 omega
theorem TpT.next {a : List Nat} {x y k : Nat} {S : List Nat} {q : Nat} (h : TpT a x y k S q) (ha : Ws a) (hx : x < 4294967296) (hk : k < a.length) :
  TpT a x y (k + 1) (S.set k (tpC a x k q % 4294967296)) (tpC a x k q / 4294967296) := by
 obtain ⟨h1, h2, h3, h4, h5⟩ := h
 have hc := (Aaf (k := k) ha hx h5).2
 refine ⟨by rw [List.length_set]; exact h1, h2.set (by omega), fun j hj => by rw [Al (by omega)]; exact h3 j (by omega), ?_, by omega⟩
 rw [Bi _ k (by rw [List.length_set]; omega), Bi a k hk, Bg (by omega)]
 rw [Co (l := S.set k (tpC a x k q % 4294967296)) (m := S) k (by rw [List.length_set]; omega) (by omega) (fun j hj => Al (by omega))]
 have e := Fh (4294967296 ^ k) (tpC a x k q) (val (S.take k)) (x * (val (a.take k) + 4294967296 ^ k * a.getD k 0) + y) (by
  have : tpC a x k q = q + a.getD k 0 * x := rfl
  rw [this]
  grind)
 rw [Nat.pow_succ]
 exact e
theorem TpT.fin {n x y q : Nat} {S : List Nat} (h : TpT (wds n) x y (wds n).length S q) (hx : 0 < x) : (if q = 0 then S else S ++ [q]) = wds (n * x + y) := by
 obtain ⟨h1, h2, h3, h4, h5⟩ := h
 rw [List.take_of_length_le (by omega), List.take_of_length_le (Nat.le_refl _), Ao] at h4
 by_cases hq : q = 0
 ·rw [if_pos hq]
  rw [hq, Nat.mul_zero, Nat.add_zero] at h4
  have hv : val S = n * x + y := by rw [h4, Nat.mul_comm]
  rw [← hv, ← Cb h2]
  refine (Qf h2 ?_).symm
  rcases Nat.eq_zero_or_pos (wds n).length with h0 | h0
  ·left; exact List.eq_nil_of_length_eq_zero (by omega)
  ·right
   have h6 := Lo (l := wds n) (by rw [Hi]; intro e; rw [e] at h0; simp at h0)
   rw [Hi, Ao] at h6
   rw [h1, hv]
   have : n * 1 ≤ n * x := Nat.mul_le_mul_left _ hx
   omega
 ·rw [if_neg hq]
  have hw : Ws (S ++ [q]) := h2.append (Ws.cons h5 Ws.nil)
  have hv : val (S ++ [q]) = n * x + y := by rw [Kn, h1, h4, Nat.mul_comm]
  rw [← hv, ← Cb hw]
  refine (Qf hw (.inr ?_)).symm
  rw [Kn, List.length_append, List.length_singleton, Nat.add_sub_cancel]
  have : 4294967296 ^ S.length * 1 ≤ 4294967296 ^ S.length * q := Nat.mul_le_mul_left _ (by omega)
  omega
theorem OwnW.cell {B : Nat} {l : List Nat} {g n c : Nat} {w : World} (h : OwnW B l (.slice (some ⟨g, 0, none⟩) n c) w) (k : Nat) (hk : k < l.length) :
  w.cell? ⟨g, k, none⟩ = some (.int .u32 (l.getD k 0 : Nat)) ∧ w.frozen? ⟨g, k, none⟩ = false := by
 rcases h.2 with ⟨e, _⟩ | ⟨g', cap, cur, e, hB, hg, hcap, hmax, hcur, htk⟩
 ·cases e
 ·cases e
  refine ⟨?_, by simp [World.frozen?, hg]⟩
  have := World.ownsRow.cells (g := g) h rfl k (.int .u32 (l.getD k 0 : Nat)) (by rw [List.getElem?_map, Ba hk]; rfl)
  by_cases hz : k = 0
  ·subst hz; simpa [Addr.add] using this
  ·simpa [Addr.add, hz] using this
theorem OwnW.set {B : Nat} {l : List Nat} {g n c : Nat} {w : World} (h : OwnW B l (.slice (some ⟨g, 0, none⟩) n c) w) (k u : Nat) :
  OwnW B (l.set k u) (.slice (some ⟨g, 0, none⟩) n c) (w.setCell ⟨g, k, none⟩ (.int .u32 (u : Nat))) := by
 rcases h.2 with ⟨e, _⟩ | ⟨g', cap, cur, e, hB, hg, hcap, hmax, hcur, htk⟩
 ·cases e
 ·cases e
  refine ⟨by rw [List.length_map, List.length_set, Nat.mul_one], .inr ⟨g, c, cur.set! k (.int .u32 (u : Nat)), by rw [List.length_set], hB, ?_, by rw [List.length_set]; exact hcap, hmax, ?_, ?_⟩⟩
  ·simp [World.setCell, Array.getElem?_modify, hg]
  ·simpa using hcur
  ·rw [List.map_set, ← htk]
   simp only [Array.set!_eq_setIfInBounds, Array.toList_setIfInBounds, List.length_set]
   rw [List.take_set]
theorem Md (B : Nat) (v : Value) (n x y : Nat) (w : World) (h : OwnW B (wds n) v w) (hB : B ≤ w.heap.size) (hl : (wds n).length ≤ 1024) (hx : x < 4294967296) (hx0 : 0 < x) (hy : y < 4294967296) :
  Cp 173 #[v, .int .u32 x, .int .u32 y] w fun e w' => ∃ v', e = .returned v' ∧ OwnW B (wds (n * x + y)) v' w' ∧ Below B w w' := by
 obtain ⟨i0, hi, hz0, hz1, hz2⟩ := info_parts F6
 have hy1 : IntKind.u64.wrap (y : Int) = (y : Int) := IntWalk.u64_in _ (by omega)
 have hx1 : IntKind.u64.wrap (x : Int) = (x : Int) := IntWalk.u64_in _ (by omega)
 have HX := Lh hx
 have HX0 := Lh hx0
 have HST := Lh (TpT.start (x := x) (Ey n) hy)
 rcases h.2 with ⟨rfl, h0⟩ | ⟨g, cap, cur, rfl, hBg, hg, hcap, hmax, hcur, htk⟩
 ·have hnil : wds n = [] := List.eq_nil_of_length_eq_zero h0
  have hn0 : n = 0 := by rw [← Ao n, hnil]; rfl
  have HF := Lh (show (if y = 0 then ([] : List Nat) else [y]) = wds (n * x + y) from by
   have := (show TpT (wds n) x y (wds n).length [] y from by rw [hnil]; exact TpT.start Ws.nil hy).fin hx0
   rw [← this]; rfl)
  have hOn : OwnW B [] (.slice none 0 0) w := OwnW.nil _ _
  by_cases hy0 : y = 0
  ·rw [if_pos hy0] at HF
   have b0 : ((y : Int) == 0) = true := by rw [hy0]; rfl
   clear h hl hx hx0 hy h0 hnil hn0 hy0 HST
   go_enter Tryz.func173, Tryz.ntmps173
   go_wp2
   go_loopw [14, 7] (fun iv cv wr => iv = .int .i64 0 ∧ cv = .int .u64 (y : Nat) ∧ w = wr) (fun _ _ _ => 0)
   case atStart => exact ⟨rfl, rfl, rfl⟩
   case round =>
    obtain ⟨rfl, rfl, rfl⟩ := hrel
    go_wp2
    go_ret
    exact ⟨_, rfl, by rw [← HF.out]; exact hOn, Below.refl _ _⟩
  ·rw [if_neg hy0] at HF
   have b0 : ((y : Int) == 0) = false := by simp; omega
   have k1 : IntKind.u32.wrap (y : Int) = (y : Int) := IntWalk.u32_in _ (by omega)
   clear h hl hx hx0 hy h0 hnil hn0 hy0 HST
   go_enter Tryz.func173, Tryz.ntmps173
   go_wp2
   go_loopw [14, 7] (fun iv cv wr => iv = .int .i64 0 ∧ cv = .int .u64 (y : Nat) ∧ w = wr) (fun _ _ _ => 0)
   case atStart => exact ⟨rfl, rfl, rfl⟩
   case round =>
    obtain ⟨rfl, rfl, rfl⟩ := hrel
    go_wp2_with (at_builtin; refine wpList_append_own _ rfl _ _ 121 rfl B 129 i0 (.int .u32 0) 1 4 Tryz.underlying121 hi hz0 hz1 hz2 rfl (by decide) _ _ _ rfl (World.ownsRow.alloc (w := w) hOn _) ⟨w.heap.size, 0, none⟩ 1 1 [.int .u32 (y : Nat)] rfl rfl ?c1 ?c2 ?c3 ?c4 ?c5 ?_)
    case c1 => exact (cell_one_new _ _ _)
    case c2 => simp [Value.oneCell']
    case c3 => simp [maxLen]
    case c4 => simp
    case c5 => simp; omega
    intro v' w2 hown hgr _
    have HO2 := Lh (OwnW.snoc (L := []) hown)
    have hbb : Below B w w2 := ((Below.refl _ _).alloc hB _).grown hgr (by simp; omega) (fun j hj => by simp [Value.ownBlock] at hj)
    clear hown hgr
    go_wp2
    go_ret
    exact ⟨_, rfl, by rw [← HF.out]; exact HO2.out, hbb⟩
 ·obtain ⟨N, hN⟩ : ∃ N, (wds n).length = N := ⟨_, rfl⟩
  have HO0 := Lh h
  have HN := Lh hN
  have HWS := Lh (Ey n)
  rw [hN] at hl hcap HO0 ⊢
  have hN1 : (N : Int) ≤ 1024 := by omega
  clear h hx hx0 hy hg hcur htk hN hmax
  go_enter Tryz.func173, Tryz.ntmps173
  go_wp2
  go_loopw [14, 7] (fun iv cv wr => ∃ (k : Nat) (S : List Nat) (q : Nat), iv = .int .i64 (k : Nat) ∧ cv = .int .u64 (q : Nat) ∧ k ≤ N ∧ Hid (OwnW B S (.slice (some ⟨g, 0, none⟩) N cap) wr) ∧ Hid (TpT (wds n) x y k S q) ∧ Below B w wr) (fun iv _ _ => N - (intOf iv).toNat)
  case atStart => exact ⟨0, wds n, y, rfl, rfl, Nat.zero_le _, HO0, HST, Below.refl _ _⟩
  case round =>
   obtain ⟨k, S, q, rfl, rfl, hk, HO, HT, hbw⟩ := hrel
   by_cases hlt : k < N
   ·have hkl : k < (wds n).length := by rw [HN.out]; exact hlt
    have hnx := HT.out.next HWS.out HX.out hkl
    obtain ⟨hcell, hfz⟩ := HO.out.cell k (by rw [HT.out.len]; exact hkl)
    rw [HT.out.far k (Nat.le_refl _)] at hcell
    obtain ⟨l1, l2⟩ := Aaf (k := k) HWS.out HX.out HT.out.low
    have ul := HWS.out.getD k
    have ql := HT.out.low
    have et : tpC (wds n) x k q = q + (wds n).getD k 0 * x := rfl
    obtain ⟨t, ht⟩ : ∃ t, tpC (wds n) x k q = t := ⟨_, rfl⟩
    obtain ⟨u, hu⟩ : ∃ u, (wds n).getD k 0 = u := ⟨_, rfl⟩
    rw [ht] at hnx l2 et
    rw [hu] at hcell l1 ul et
    have HOS := Lh (HO.out.set k (t % 4294967296))
    have HNX := Lh hnx
    have k1 : IntKind.u64.wrap (u : Int) = (u : Int) := IntWalk.u64_in _ (by omega)
    have k2 : IntKind.u64.wrap ((u : Int) * (x : Int)) = (u : Int) * (x : Int) := IntWalk.u64_in _ (by
     have : ((u * x : Nat) : Int) = (u : Int) * (x : Int) := Int.natCast_mul u x
     omega)
    have k3 : IntKind.u64.wrap ((q : Int) + (u : Int) * (x : Int)) = (t : Int) := by
     have : ((u * x : Nat) : Int) = (u : Int) * (x : Int) := Int.natCast_mul u x
     rw [IntWalk.u64_in _ (by omega)]
     omega
    have hk1 : (k : Int) < (N : Int) := by omega
    rw [show ((t % 4294967296 : Nat) : Int) = (t : Int) % 4294967296 by omega] at HOS
    clear hkl hnx l1 l2 ul ql et ht hu
    go_wp2
    go_roundw
    case rel => exact ⟨k + 1, _, t / 4294967296, by go_num, by go_num, by omega, HOS, HNX, hbw.setCell hBg _⟩
    case measure => simp [intOf]; omega
   ·have hkN : k = N := by omega
    have hT2 : TpT (wds n) x y (wds n).length S q := by rw [HN.out, ← hkN]; exact HT.out
    have HF := Lh (hT2.fin HX0.out)
    have hql := HT.out.low
    have hSl := HT.out.len
    have hSW := HT.out.ws
    by_cases hq0 : q = 0
    ·rw [if_pos hq0] at HF
     have b0 : ((q : Int) == 0) = true := by rw [hq0]; rfl
     clear hT2 hql hSl hSW hq0 hkN
     go_wp2
     go_ret
     exact ⟨_, rfl, by rw [← HF.out]; exact HO.out, hbw⟩
    ·rw [if_neg hq0] at HF
     have b0 : ((q : Int) == 0) = false := by simp; omega
     have k1 : IntKind.u32.wrap (q : Int) = (q : Int) := IntWalk.u32_in _ (by omega)
     have HSL := Lh (show (N + 1) * 4 ≤ 140737488355328 ∧ N + 1 ≤ maxLen ∧ S.length = N from by unfold maxLen; rw [hSl, HN.out]; omega)
     have hbs := hbw.size
     have hon : wr.ownsRow B 129 1 (.slice (some ⟨g, 0, none⟩) N cap) N (S.map fun u => Value.int .u32 (u : Nat)) := by
      have := HO.out
      unfold OwnW at this
      rw [HSL.out.2.2] at this
      exact this
     have HON := Lh hon
     clear hT2 hql hSl hSW hq0 hkN hon
     go_wp2_with (at_builtin; refine wpList_append_own _ rfl _ _ 121 rfl B 129 i0 (.int .u32 0) 1 4 Tryz.underlying121 hi hz0 hz1 hz2 rfl (by decide) _ _ _ rfl (World.ownsRow.alloc (w := wr) HON.out _) ⟨wr.heap.size, 0, none⟩ 1 1 [.int .u32 (q : Nat)] rfl rfl ?c1 ?c2 ?c3 ?c4 ?c5 ?_)
     case c1 => exact (cell_one_new _ _ _)
     case c2 => simp [Value.oneCell']
     case c3 => exact HSL.out.2.1
     case c4 => exact HSL.out.1
     case c5 => simp; omega
     intro v' w2 hown hgr _
     rw [← HSL.out.2.2] at hown
     have HO2 := Lh (OwnW.snoc hown)
     have hbb : Below B w w2 := (hbw.alloc (by omega) _).grown hgr (by simp; omega) (fun j hj => (World.ownsRow.lt HO.out j hj).1)
     clear hown hgr
     go_wp2
     go_ret
     exact ⟨_, rfl, by rw [← HF.out]; exact HO2.out, hbb⟩
theorem OwnW.below {B : Nat} {l : List Nat} {v : Value} {w w' : World} (h : OwnW B l v w) (hb : Below w.heap.size w w') : OwnW B l v w' := by
 refine World.ownsRow.kept (row := none) h ⟨hb.os, hb.tape, hb.output, hb.size, fun k hk _ => hb.block k hk⟩ ?_
 cases v.ownBlock <;> simp
theorem Aeo {v : Nat} (h : Ah v = false) : (wds v).length ≤ 1024 := by
 unfold Ah at h
 have := of_decide_eq_false h
 omega
theorem Nf {v u : Nat} (h : u ≤ v) (hu : Ah u = true) : Ah v = true := by
 unfold Ah at hu ⊢
 have h1 := of_decide_eq_true hu
 have h2 := Cf (n := u) (k := (wds v).length) (Nat.lt_of_le_of_lt h (Gw v))
 exact decide_eq_true (by omega)
theorem N0 (v u : Nat) : (wds (v + u)).length ≤ max (wds v).length (wds u).length + 1 := by
 refine Cf ?_
 have h1 := Gw v
 have h2 := Gw u
 have h3 : 4294967296 ^ (wds v).length ≤ 4294967296 ^ max (wds v).length (wds u).length := Nat.pow_le_pow_right (by omega) (by omega)
 have h4 : 4294967296 ^ (wds u).length ≤ 4294967296 ^ max (wds v).length (wds u).length := Nat.pow_le_pow_right (by omega) (by omega)
 have := M8 (max (wds v).length (wds u).length)
 omega
theorem L4 (v u : Nat) : (wds (v * u)).length ≤ (wds v).length + (wds u).length := by
 refine Cf ?_
 rw [Nat.pow_add]
 exact Nat.mul_lt_mul'' (Gw v) (Gw u)
def sv (r : Nat) (s : ByteArray) : Nat := pv r (fun i => dgt (btn s i)) s.size
structure Rest (s : ByteArray) (o : Nat) (t : ByteArray) : Prop where
 le : o ≤ s.size
 size : t.size = s.size - o
 byte : ∀ i, i < t.size → btn t i = btn s (o + i)
theorem Iv (t : ByteArray) (a b i : Nat) (hi : i < b - a) (hb : b ≤ t.size) : btn (t.extract a b) i = btn t (a + i) := by
 have h1 : i < (t.extract a b).size := by rw [ByteArray.size_extract]; omega
 rw [← Ks _ i h1, ← Ks t (a + i) (by omega), ByteArray.getElem_extract]
theorem Rest.all (s : ByteArray) : Rest s 0 s := ⟨Nat.zero_le _, rfl, fun i _ => by rw [Nat.zero_add]⟩
theorem Rest.next {s t : ByteArray} {o m : Nat} (h : Rest s o t) (hm : m ≤ t.size) : Rest s (o + m) (t.extract m t.size) :=
 ⟨by have := h.le; have := h.size; omega, by rw [ByteArray.size_extract, h.size]; omega, fun i hi => by
  have h1 : i < t.size - m := by rw [ByteArray.size_extract] at hi; omega
  rw [Iv t m t.size i h1 (Nat.le_refl _), h.byte _ (by omega), Nat.add_assoc]⟩
def Tx : Value → Nat
 | .string s => s.size
 | _ => 0
theorem Qc (s : ByteArray) (r : Nat) (w : World) (hs : s.size ≤ 4611686018427387903) (h2 : 2 ≤ r) (h36 : r ≤ 36) (hd : adB r s = true) :
  Cp 130 #[.string s, .int .i64 r] w (NatPost (sv r s) w) := by
 have c1 := Mb s r w hs h36
 have C2 := Lh (fun W => Yx r W h2 h36)
 rw [hd] at c1
 have hdd : ∀ i, i < s.size → dgt (btn s i) < r := by
  unfold adB at hd
  exact of_decide_eq_true (Bool.and_eq_true _ _ ▸ hd : _ ∧ _).2
 have HD := Lh hdd
 have H2 := Lh h2
 have H36 := Lh h36
 have hr1 : ¬ (r : Int) < 2 := by omega
 have hr2 : ¬ (36 : Int) < (r : Int) := by omega
 have hs1 : (s.size : Int) ≤ 4611686018427387903 := by omega
 clear hd hdd hs h2 h36
 go_enter Tryz.func130, Tryz.ntmps130
 go_wp2_with fail
 refine c1.mono ?_
 rintro e w1 ⟨rfl, rfl⟩
 go_wp2_with fail
 refine (C2.out _).mono ?_
 rintro e w1 ⟨⟨c, p, rfl, hp, hc1, hc2, hpl⟩, rfl⟩
 have HP := Lh hp
 have HPL := Lh hpl
 have HC1 := Lh hc1
 have hc0 : (c : Int) ≤ 32 := by omega
 clear hp hpl hc1 hc2 c1 C2
 go_wp2
 go_loopw [0, 8] (fun tv av wr => ∃ (t : ByteArray) (o : Nat), tv = .string t ∧ Hid (Rest s o t) ∧ Hid (OwnW w.heap.size (wds (pv r (fun i => dgt (btn s i)) o)) av wr) ∧ Hid (Ah (pv r (fun i => dgt (btn s i)) o) = false) ∧ Below w.heap.size w wr) (fun tv _ _ => Tx tv)
 case atStart => exact ⟨s, 0, rfl, Lh (Rest.all s), Lh (OwnW.nil _ _), Lh (Dv (by simp [pv])), Below.refl _ _⟩
 case round =>
  obtain ⟨t, o, rfl, HR, HO, HL, hbw⟩ := hrel
  obtain ⟨V, hV⟩ : ∃ V, pv r (fun i => dgt (btn s i)) o = V := ⟨_, rfl⟩
  rw [hV] at HO HL
  have HV := Lh hV
  have hle := Aeo HL.out
  obtain ⟨A0, c0, rfl, hc0', hr0⟩ := HO.out.sl (Ey V)
  obtain ⟨L0, hL0⟩ : ∃ L, (wds V).length = L := ⟨_, rfl⟩
  have hts : (t.size : Int) ≤ 4611686018427387903 := by have := HR.out.size; omega
  by_cases h0 : t.size = 0
  ·have C1 := Lh (Et A0 L0 c0 (wds V) wr hL0 (by omega) (by omega) hr0)
   rw [Ao] at C1
   have HFV := Lh (show V = sv r s from by
    have h1 := HR.out.size
    have h2 := HR.out.le
    rw [← HV.out]; unfold sv; congr 1; omega)
   have HL0 := Lh hL0
   rw [hL0]
   have b0 : ¬ (0 : Int) < (t.size : Int) := by omega
   clear hV hle hc0' hr0 hL0 h0
   go_wp2_with fail
   refine C1.out.mono ?_
   rintro e w2 h
   have h2 := NatPost.from_ hbw h
   rw [HFV.out] at h2
   obtain ⟨A2, n2, c2, k2, rfl, h3, h4⟩ := h2
   have H3 := Lh h3
   have H4 := Lh h4
   clear h h3 h4 C1
   go_wp2
   go_ret2
   exact ⟨A2, n2, c2, k2, rfl, H3.out, H4.out⟩
  ·obtain ⟨m, hm⟩ : ∃ m, min c t.size = m := ⟨_, rfl⟩
   have hc1 := HC1.out
   have hm0 : 0 < m := by omega
   have hmt : m ≤ t.size := by omega
   have hmc : (m = c ∧ (c : Int) ≤ (t.size : Int)) ∨ (m = t.size ∧ ¬ (c : Int) ≤ (t.size : Int)) := by omega
   have hRn := HR.out.next hmt
   have hsz : (t.extract 0 m).size = m := by rw [ByteArray.size_extract]; omega
   have hby : ∀ i, i < m → btn (t.extract 0 m) i = btn s (o + i) := fun i hi => by
    rw [Iv t 0 m i (by omega) hmt, Nat.zero_add]; exact HR.out.byte i (by omega)
   have hom : o + m ≤ s.size := hRn.le
   have hpm : r ^ m < 4294967296 := by
    have h1 : r ^ m ≤ r ^ c := Nat.pow_le_pow_right (by have := H2.out; omega) (by omega)
    have h2 := HPL.out
    rw [HP.out] at h2
    omega
   have hpm0 : 0 < r ^ m := Nat.pow_pos (by have := H2.out; omega)
   have hpv : pv r (fun i => dgt (btn (t.extract 0 m) i)) m = pv r (fun i => dgt (btn s (o + i))) m := Ga (fun i hi => by rw [hby i hi])
   have C1 := Lh (fun W => show Cp 172 #[.string (t.extract 0 m), .int .i64 r] W fun e w' => e = .returned (.tuple #[.int .u32 (pv r (fun i => dgt (btn s (o + i))) m : Nat), .int .u32 (r ^ m : Nat)]) ∧ W = w' from by
    have := Y3 (t.extract 0 m) r W H36.out H2.out (by rw [hsz]; exact hpm) (fun i hi => by rw [hsz] at hi; rw [hby i hi]; exact HD.out _ (by omega))
    rw [hsz, hpv] at this
    exact this)
   have hyl : pv r (fun i => dgt (btn s (o + i))) m < 4294967296 := Nat.lt_trans (We (fun i hi => HD.out _ (by omega))) hpm
   have hadd := Tj r (fun i => dgt (btn s i)) o m
   rw [hV] at hadd
   obtain ⟨x, hx⟩ : ∃ x, r ^ m = x := ⟨_, rfl⟩
   obtain ⟨y, hy⟩ : ∃ y, pv r (fun i => dgt (btn s (o + i))) m = y := ⟨_, rfl⟩
   rw [hx] at C1 hpm hpm0 hadd
   rw [hy] at C1 hyl hadd
   have C2 := Lh (Md w.heap.size (.slice A0 L0 c0) V x y wr (by have := HO.out; rw [hL0] at this; exact this) hbw.size hle hpm hpm0 hyl)
   obtain ⟨V2, hV2⟩ : ∃ V2, V * x + y = V2 := ⟨_, rfl⟩
   rw [hV2] at C2 hadd
   have HV2 := Lh hadd
   have l1 : (wds V2).length ≤ 1026 := by
    have h1 := L4 V x
    have h2 := N0 (V * x) y
    have h3 : (wds x).length ≤ 1 := Cf (by omega)
    have h4 : (wds y).length ≤ 1 := Cf (by omega)
    rw [hV2] at h2
    omega
   have HLE2 := Lh l1
   have HRN := Lh hRn
   have HMONO := Lh (show V2 ≤ sv r s from by rw [← hadd]; exact Vx (by have := H2.out; omega) hom)
   have HM0 := Lh hm0
   have hmt1 : (m : Int) ≤ (t.size : Int) := by omega
   have b0 : (0 : Int) < (t.size : Int) := by omega
   rw [hL0]
   clear hV hle hc0' hr0 hL0 h0 hm hc1 hm0 hmt hRn hsz hby hom hpm hpm0 hpv hyl hadd hx hy hV2 l1
   rcases hmc with ⟨rfl, a1⟩ | ⟨rfl, a1⟩
   ·have e0 : min (m : Int) (t.size : Int) = (m : Int) := Int.min_eq_left a1
    go_wp2_with fail
    refine Sm (C1.out _) ?_
    go_wp2_with fail
    refine C2.out.mono ?_
    rintro e w2 ⟨v2, rfl, ho2, hb2⟩
    have hbw2 : Below w.heap.size w w2 := hbw.trans hb2
    obtain ⟨A2, c2, rfl, hc2, hr2⟩ := ho2.sl (Ey _)
    obtain ⟨L2, hL2⟩ : ∃ L, (wds V2).length = L := ⟨_, rfl⟩
    rw [hL2] at hc2 ho2 ⊢
    have C3 := Lh (Cr A2 L2 c2 (wds V2) w2 hL2 hc2 (by have := HLE2.out; omega) hr2)
    rw [Ao] at C3
    have HO2 := Lh ho2
    have hp : Below w2.heap.size w2 (lone w2 (.slice A2 L2 c2)) := (Below.refl _ _).alloc (Nat.le_refl _) _
    have HB2 := Lh (Aa hbw2 hp)
    have HO3 := Lh (ho2.below hp)
    have HL2 := Lh hL2
    clear ho2 hb2 hbw2 hc2 hr2 hL2 hp C1 C2
    cases hl : Ah V2
    ·rw [hl] at C3
     have HLN := Lh hl
     clear hl
     go_wp2_with fail
     refine C3.out.mono ?_
     rintro e w3 ⟨rfl, rfl⟩
     go_wp2
     exact ⟨⟨_, _, rfl, HRN, Lh (by rw [HV2.out]; exact HO3.out), Lh (by rw [HV2.out]; exact HLN.out), HB2.out⟩, by
      have h1 := HM0.out
      have h2 := HRN.out.size
      have h3 := HRN.out.le
      have h4 := HR.out.size
      simp only [Tx]
      omega⟩
    ·rw [hl] at C3
     have HLN := Lh (Nf HMONO.out hl)
     clear hl
     go_wp2_with fail
     refine C3.out.mono ?_
     rintro e w3 ⟨rfl, rfl⟩
     go_wp2
     go_ret2
     exact NatPost.long HLN.out HB2.out
   ·have e0 : min (c : Int) (t.size : Int) = (t.size : Int) := Int.min_eq_right (by omega)
    rw [show t.extract 0 t.size = t from by simp] at C1
    rw [show t.extract t.size t.size = ByteArray.empty from by simp] at HRN
    go_wp2_with fail
    refine Sm (C1.out _) ?_
    go_wp2_with fail
    refine C2.out.mono ?_
    rintro e w2 ⟨v2, rfl, ho2, hb2⟩
    have hbw2 : Below w.heap.size w w2 := hbw.trans hb2
    obtain ⟨A2, c2, rfl, hc2, hr2⟩ := ho2.sl (Ey _)
    obtain ⟨L2, hL2⟩ : ∃ L, (wds V2).length = L := ⟨_, rfl⟩
    rw [hL2] at hc2 ho2 ⊢
    have C3 := Lh (Cr A2 L2 c2 (wds V2) w2 hL2 hc2 (by have := HLE2.out; omega) hr2)
    rw [Ao] at C3
    have HO2 := Lh ho2
    have hp : Below w2.heap.size w2 (lone w2 (.slice A2 L2 c2)) := (Below.refl _ _).alloc (Nat.le_refl _) _
    have HB2 := Lh (Aa hbw2 hp)
    have HO3 := Lh (ho2.below hp)
    have HL2 := Lh hL2
    clear ho2 hb2 hbw2 hc2 hr2 hL2 hp C1 C2
    cases hl : Ah V2
    ·rw [hl] at C3
     have HLN := Lh hl
     clear hl
     go_wp2_with fail
     refine C3.out.mono ?_
     rintro e w3 ⟨rfl, rfl⟩
     go_wp2
     exact ⟨⟨_, _, rfl, HRN, Lh (by rw [HV2.out]; exact HO3.out), Lh (by rw [HV2.out]; exact HLN.out), HB2.out⟩, by
      have h1 := HM0.out
      have h2 := HRN.out.size
      have h3 := HRN.out.le
      have h4 := HR.out.size
      simp only [Tx]
      omega⟩
    ·rw [hl] at C3
     have HLN := Lh (Nf HMONO.out hl)
     clear hl
     go_wp2_with fail
     refine C3.out.mono ?_
     rintro e w3 ⟨rfl, rfl⟩
     go_wp2
     go_ret2
     exact NatPost.long HLN.out HB2.out
theorem Ec {w W : World} (o : Obj) (h : Below w.heap.size w W) : Below w.heap.size w (W.alloc o) := h.alloc h.size _
end
section
def Cm (c : Nat) : Bool := decide (48 ≤ c) && decide (c ≤ 57)
theorem Cc {c : Nat} : Cm c = true ↔ 48 ≤ c ∧ c ≤ 57 := by unfold Cm; simp
theorem Hm {c : Nat} (h : Cm c = true) : dgt c = c - 48 ∧ dgt c < 10 := by
 have := Cc.1 h
 unfold dgt
 rw [if_pos this]
 exact ⟨rfl, by omega⟩
theorem S7 {c : Nat} : dgt c < 10 ↔ Cm c = true := by
 constructor
 ·intro h
  unfold dgt at h
  by_cases h1 : 48 ≤ c ∧ c ≤ 57
  ·exact Cc.2 h1
  ·rw [if_neg h1] at h
   split at h
   ·omega
   ·split at h <;> omega
 ·intro h; exact (Hm h).2
def Ia (l : List Nat) : Bool := l.head? == some 45
def Cj (l : List Nat) : List Nat := if l.head? = some 45 ∨ l.head? = some 43 then l.tail else l
def Ce (l : List Nat) : List Nat := l.takeWhile Cm
def Am (l : List Nat) : List Nat := l.dropWhile Cm
theorem Aef (l : List Nat) : Ce l ++ Am l = l := List.takeWhile_append_dropWhile
theorem Gf : ∀ (l : List Nat), ∀ c ∈ Ce l, Cm c = true := by
 intro l
 induction l with
 | nil => intro c hc; simp [Ce] at hc
 | cons d r ih =>
  intro c hc
  unfold Ce at hc ih
  rw [List.takeWhile_cons] at hc
  cases hd : Cm d
  ·rw [hd] at hc; simp at hc
  ·rw [hd] at hc
   simp only [if_true] at hc
   rcases List.mem_cons.1 hc with rfl | h
   ·exact hd
   ·exact ih c h
theorem Gi (l : List Nat) : (Ce l).length + (Am l).length = l.length := by
 have := congrArg List.length (Aef l)
 rw [List.length_append] at this
 exact this
def Rx (n c : Nat) : Nat := if n < 1099511627776 then n * 10 + (c - 48) else n
def amt (f : List Nat) : Nat := f.foldl Rx 0
theorem Aa7 (f : List Nat) (c : Nat) : amt (f ++ [c]) = Rx (amt f) c := by unfold amt; rw [List.foldl_append]; rfl
theorem To : ∀ (f : List Nat), (∀ c ∈ f, Cm c = true) → amt f < 10995116277760 := by
 intro f hf
 have main : ∀ (l : List Nat) (a : Nat), a < 10995116277760 → (∀ c ∈ l, Cm c = true) → l.foldl Rx a < 10995116277760 := by
  intro l
  induction l with
  | nil => intro a h _; exact h
  | cons c r ih =>
   intro a h hl
   refine ih (Rx a c) ?_ (fun d hd => hl d (by simp [hd]))
   have := Cc.1 (hl c (by simp))
   unfold Rx
   split <;> omega
 exact main f 0 (by omega) hf
def Hf (l : List Nat) : Bool := (l.head? == some 101 || l.head? == some 69) && !(Ce (Cj l.tail)).isEmpty
def Ma (l : List Nat) : Int := if Ia l.tail = true then -(amt (Ce (Cj l.tail)) : Int) else (amt (Ce (Cj l.tail)) : Int)
def Yz (l : List Nat) : List Nat := Am (Cj l.tail)
def exV (l : List Nat) : Int := if Hf l = true then Ma l else 0
def exR (l : List Nat) : List Nat := if Hf l = true then Yz l else l
theorem Ad0 (l : List Nat) : -10995116277760 < Ma l ∧ Ma l < 10995116277760 := by
 have := To (Ce (Cj l.tail)) (Gf _)
 unfold Ma
 split <;> omega
theorem Agn (l : List Nat) : -10995116277760 < exV l ∧ exV l < 10995116277760 := by
 have := Ad0 l
 unfold exV
 split <;> omega
def Sv (t : List Nat) : Bool := t.head? == some 46
def dW (l : List Nat) : List Nat := Ce l
def dF (l : List Nat) : List Nat := if Sv (Am l) = true then Ce (Am l).tail else []
def dB (l : List Nat) : Bool := !((dW l).isEmpty && (dF l).isEmpty)
def dT (l : List Nat) : List Nat := if Sv (Am l) = true then Am (Am l).tail else Am l
def dX (l : List Nat) : Int := exV (dT l)
def dR (l : List Nat) : List Nat := exR (dT l)
def num (r : Nat) (f : List Nat) : Nat := pv r (fun i => dgt (f.getD i 0)) f.length
def dV (l : List Nat) : Nat := Bu (num 10 (dW l ++ dF l)) (dX l - (dF l).length)
/-! ### Numbers of digits -/
theorem Ae9 (r : Nat) : num r [] = 0 := rfl
theorem E0 (r : Nat) (f g : List Nat) : num r (f ++ g) = num r f * r ^ g.length + num r g := by
 unfold num
 rw [List.length_append, Tj]
 congr 1
 ·congr 1
  refine Ga (fun i hi => ?_)
  rw [List.getD_eq_getElem?_getD, List.getElem?_append_left hi, ← List.getD_eq_getElem?_getD]
 ·refine Ga (fun i hi => ?_)
  rw [List.getD_eq_getElem?_getD, List.getElem?_append_right (by omega), Nat.add_sub_cancel_left, ← List.getD_eq_getElem?_getD]
theorem Jo (r c : Nat) : num r [c] = dgt c := by
 unfold num
 show pv r _ 1 = _
 simp [pv]
theorem Fe (r c : Nat) (f : List Nat) : num r (c :: f) = dgt c * r ^ f.length + num r f := by
 rw [show c :: f = [c] ++ f from rfl, E0, Jo]
theorem Z9 {r : Nat} {f : List Nat} (h : ∀ c ∈ f, dgt c < r) : num r f < r ^ f.length := by
 unfold num
 refine We (fun i hi => ?_)
 rw [List.getD_eq_getElem?_getD, List.getElem?_eq_getElem hi]
 exact h _ (List.getElem_mem hi)
theorem Aad : dgt 48 = 0 := by decide
theorem Ng (r : Nat) : ∀ k : Nat, num r (List.replicate k 48) = 0
 | 0 => rfl
 | k + 1 => by rw [List.replicate_succ, Fe, Aad, Ng r k]; simp
theorem Eg (r : Nat) : ∀ f : List Nat, num r (f.dropWhile (· == 48)) = num r f
 | [] => rfl
 | c :: f => by
  by_cases h : c = 48
  ·subst h
   rw [List.dropWhile_cons_of_pos (by simp), Eg r f, Fe, Aad]
   simp
  ·rw [List.dropWhile_cons_of_neg (by simpa using h)]
theorem Dw (f : List Nat) : (f.dropWhile (· == 48)).head? ≠ some 48 := by
 intro h
 have := List.head?_dropWhile_not (p := (· == 48)) f
 rw [h] at this
 simp at this
theorem Aaq {f : List Nat} {c : Nat} (hd : ∀ x ∈ c :: f, Cm x = true) (hc : c ≠ 48) : 10 ^ f.length ≤ num 10 (c :: f) := by
 have h1 := Hm (hd c (by simp))
 have h2 := Cc.1 (hd c (by simp))
 rw [Fe]
 have h3 : 1 * 10 ^ f.length ≤ dgt c * 10 ^ f.length := Nat.mul_le_mul_right _ (by omega)
 omega
theorem Pf {f : List Nat} (hd : ∀ x ∈ f, Cm x = true) : num 10 f = 0 ↔ f.dropWhile (· == 48) = [] := by
 rw [← Eg 10 f]
 constructor
 ·intro h
  cases hf : f.dropWhile (· == 48) with
  | nil => rfl
  | cons c g =>
   exfalso
   rw [hf] at h
   have h1 : c ≠ 48 := by
    have := Dw f
    rw [hf] at this
    intro e
    exact this (by rw [e]; rfl)
   have h2 := Aaq (f := g) (c := c) (fun x hx => hd x (by
    have : x ∈ f.dropWhile (· == 48) := by rw [hf]; exact hx
    exact (List.dropWhile_sublist _).subset this)) h1
   have := Aq g.length
   omega
 ·intro h; rw [h]; rfl
end
section
def ldz (f : List Nat) : List Nat := f.dropWhile (· == 48)
def trz (f : List Nat) : List Nat := (f.reverse.dropWhile (· == 48)).reverse
theorem Hj {f : List Nat} {c : Nat} (h : c ∈ ldz f) : c ∈ f := (List.dropWhile_sublist _).subset h
theorem Wb {f : List Nat} {c : Nat} (h : c ∈ trz f) : c ∈ f := by
 unfold trz at h
 rw [List.mem_reverse] at h
 exact List.mem_reverse.1 ((List.dropWhile_sublist _).subset h)
theorem Ej : ∀ g : List Nat, ∃ z, g = List.replicate z 48 ++ g.dropWhile (· == 48)
 | [] => ⟨0, rfl⟩
 | c :: g => by
  by_cases h : c = 48
  ·subst h
   obtain ⟨z, hz⟩ := Ej g
   refine ⟨z + 1, ?_⟩
   rw [List.dropWhile_cons_of_pos (by simp), List.replicate_succ, List.cons_append, ← hz]
  ·exact ⟨0, by rw [List.dropWhile_cons_of_neg (by simpa using h)]; rfl⟩
theorem Id (f : List Nat) : ∃ z, f = trz f ++ List.replicate z 48 := by
 obtain ⟨z, hz⟩ := Ej f.reverse
 refine ⟨z, ?_⟩
 have h := congrArg List.reverse hz
 rw [List.reverse_reverse, List.reverse_append, List.reverse_replicate] at h
 exact h
theorem Zy (f : List Nat) : (trz f).getLast? ≠ some 48 := by
 unfold trz
 rw [List.getLast?_reverse]
 exact Dw f.reverse
theorem Vc (f : List Nat) : num 10 f = num 10 (trz f) * 10 ^ (f.length - (trz f).length) := by
 obtain ⟨z, hz⟩ := Id f
 have hl : f.length - (trz f).length = z := by
  have := congrArg List.length hz
  rw [List.length_append, List.length_replicate] at this
  omega
 have h2 := congrArg (num 10) hz
 rw [E0, Ng, List.length_replicate, Nat.add_zero] at h2
 rw [hl, h2]
theorem N8 (f : List Nat) : (trz f).length ≤ f.length := by
 obtain ⟨z, hz⟩ := Id f
 have := congrArg List.length hz
 rw [List.length_append] at this
 omega
theorem Qz {f : List Nat} (hd : ∀ x ∈ f, Cm x = true) {c : Nat} (hc : c ∈ f) (h : c ≠ 48) : 0 < num 10 f := by
 rcases Nat.eq_zero_or_pos (num 10 f) with h0 | h0
 ·exfalso
  have h1 := (Pf hd).1 h0
  obtain ⟨z, hz⟩ := Ej f
  rw [h1, List.append_nil] at hz
  rw [hz] at hc
  exact h (List.eq_of_mem_replicate hc)
 ·exact h0
theorem Kg {g : List Nat} (hd : ∀ x ∈ g, Cm x = true) (h0 : g ≠ []) (hh : g.head? ≠ some 48) : 10 ^ (g.length - 1) ≤ num 10 g := by
 cases g with
 | nil => exact absurd rfl h0
 | cons c r =>
  have := Aaq (f := r) (c := c) hd (fun e => hh (by rw [e]; rfl))
  simpa using this
theorem H6 {g : List Nat} (hd : ∀ x ∈ g, Cm x = true) : num 10 g < 10 ^ g.length := Z9 (fun c hc => (Hm (hd c hc)).2)
theorem Yu {g : List Nat} {k : Nat} (hk : 0 < k) : (g.take k).head? = g.head? := by
 cases g with
 | nil => simp
 | cons c r =>
  obtain ⟨j, rfl⟩ : ∃ j, k = j + 1 := ⟨k - 1, by omega⟩
  rw [List.take_succ_cons]
  rfl
theorem Af4 : dgt 49 = 1 := by decide
theorem Abw {g : List Nat} {k : Nat} {e : Int} (hd : ∀ x ∈ g, Cm x = true) (hh : g.head? ≠ some 48) (hk : 769 ≤ k) (hl : k < g.length) (hpt : (g.length : Int) + e ≤ 768) (hc : ∃ c ∈ g.drop k, c ≠ 48) :
  Bu (num 10 g) e = Bu (num 10 (g.take k ++ [49])) (e + (g.length - k : Nat) - 1) := by
 obtain ⟨p, hp⟩ : ∃ p, g.take k = p := ⟨_, rfl⟩
 obtain ⟨q, hq⟩ : ∃ q, g.drop k = q := ⟨_, rfl⟩
 have hg : g = p ++ q := by rw [← hp, ← hq, List.take_append_drop]
 have lp : p.length = k := by rw [← hp, List.length_take]; omega
 have lq : q.length = g.length - k := by rw [← hq, List.length_drop]
 have dp : ∀ x ∈ p, Cm x = true := fun x hx => hd x (by rw [hg]; exact List.mem_append_left _ hx)
 have dq : ∀ x ∈ q, Cm x = true := fun x hx => hd x (by rw [hg]; exact List.mem_append_right _ hx)
 have hhp : p.head? ≠ some 48 := by rw [← hp, Yu (by omega)]; exact hh
 have p0 : p ≠ [] := fun e => by rw [e] at lp; simp at lp; omega
 rw [hq] at hc
 obtain ⟨c, hc1, hc2⟩ := hc
 have q0 := Qz dq hc1 hc2
 have h1 := Kg dp p0 hhp
 rw [lp] at h1
 have h2 := H6 dp
 rw [lp] at h2
 have h3 := H6 dq
 rw [hp, E0, Jo, Af4, ← lq]
 have h4 := Acd (p := num 10 p) (r := q.length) (q := num 10 q) (k := k) (e := e) hk h1 h2 h3 q0 (by rw [hg, List.length_append, lp] at hpt; omega)
 rw [← E0, ← hg] at h4
 rw [h4]
 rfl
/-! ### The program's way -/
theorem Xj {f : List Nat} {e : Int} (h : trz (ldz f) = []) : Bu (num 10 f) e = 0 := by
 have h1 := Vc (ldz f)
 rw [h, Ae9, Nat.zero_mul] at h1
 have h2 : num 10 (ldz f) = num 10 f := Eg 10 f
 rw [← h2, h1]
 exact Ww e
theorem Z4 {f : List Nat} {e : Int} (hd : ∀ x ∈ f, Cm x = true) (h : ((ldz f).length : Int) + e < -323) : Bu (num 10 f) e = 0 := by
 have h2 : num 10 (ldz f) = num 10 f := Eg 10 f
 rw [← h2]
 exact Xw (H6 (fun x hx => hd x (Hj hx))) (by omega)
theorem Xm {f : List Nat} {e : Int} (hd : ∀ x ∈ f, Cm x = true) (h0 : trz (ldz f) ≠ []) (h : 309 < ((ldz f).length : Int) + e) : Bu (num 10 f) e = 9218868437227405312 := by
 have h2 : num 10 (ldz f) = num 10 f := Eg 10 f
 have h3 : ldz f ≠ [] := fun e => h0 (by rw [e]; rfl)
 have h4 : 0 < (ldz f).length := List.length_pos_iff.2 h3
 rw [← h2]
 exact Xc (Kg (fun x hx => hd x (Hj hx)) h3 (Dw f)) (by omega)
theorem Kb {f : List Nat} (e : Int) : Bu (num 10 f) e = Bu (num 10 (trz (ldz f))) ((ldz f).length + e - (trz (ldz f)).length) := by
 have h2 : num 10 (ldz f) = num 10 f := Eg 10 f
 have h3 := N8 (ldz f)
 rw [← h2, Vc (ldz f), Dp]
 exact congrArg (Bu _) (by omega)
theorem K3 {f : List Nat} (h : f.head? ≠ some 48) : (trz f).head? ≠ some 48 := by
 obtain ⟨z, hz⟩ := Id f
 cases ht : trz f with
 | nil => simp
 | cons c r =>
  rw [ht] at hz
  rw [hz] at h
  exact h
theorem Wy {f : List Nat} {e : Int} (hd : ∀ x ∈ f, Cm x = true) (hl : 800 < (trz (ldz f)).length) (h : ((ldz f).length : Int) + e ≤ 309) : Bu (num 10 f) e = Bu (num 10 ((trz (ldz f)).take 800 ++ [49])) ((ldz f).length + e - 801) := by
 rw [Kb]
 have h3 := N8 (ldz f)
 have hdh : ∀ x ∈ trz (ldz f), Cm x = true := fun x hx => hd x (Hj (Wb hx))
 have key := Abw (g := trz (ldz f)) (k := 800) (e := (ldz f).length + e - (trz (ldz f)).length) hdh (K3 (Dw f)) (by omega) hl (by omega) ?_
 ·rw [key]
  exact congrArg (Bu _) (by omega)
 ·have hne : trz (ldz f) ≠ [] := fun e => by rw [e] at hl; simp at hl
  obtain ⟨c, hc⟩ : ∃ c, (trz (ldz f)).getLast? = some c := ⟨_, List.getLast?_eq_some_getLast hne⟩
  refine ⟨c, ?_, fun e => Zy (ldz f) (by rw [← e]; exact hc)⟩
  have h5 : ((trz (ldz f)).drop 800).getLast? = some c := by
   rw [List.getLast?_drop, if_neg (by omega)]
   exact hc
  exact List.mem_of_getLast? h5
/-! ### The reference's way -/
end
section
def hxA (l : List Nat) : Bool := l.head? == some 48 && (l.tail.head? == some 120 || l.tail.head? == some 88)
def Abo (c : Nat) : Bool := decide (dgt c < 16)
def hxB (l : List Nat) : Bool := hxA l && !(l.drop 2).isEmpty && (l.drop 2).all Abo
def Ip (r : Nat) (f : List Nat) : Nat := Bu (num r f) 0
def infL : List Nat := [73, 110, 102, 105, 110, 105, 116, 121]
def Lt (l : List Nat) : Bool := infL.isPrefixOf l
def sgW (s : Bool) (r : Nat) : Nat := if s = true then 9223372036854775808 + r else r
def Ae5 : Nat := 9221120237041090560
def Wv (l : List Nat) : Nat :=
 if l = [] then 0 else if hxB l = true then Ip 16 (l.drop 2)
 else if Cj l = infL then sgW (Ia l) 9218868437227405312
 else if dB (Cj l) = true ∧ dR (Cj l) = [] then sgW (Ia l) (dV (Cj l)) else Ae5
def dgq (r : Nat) (c : Nat) : Bool := decide (dgt c < r)
/-! ### Bytes of no number -/
def nrw (z : Nat) (us : List Nat) : List Nat := us.map fun u => if 127 < u then z else u
theorem Ags {z : Nat} (hz : z < 128) (us : List Nat) : ∀ c ∈ nrw z us, c < 128 := by
 intro c hc
 unfold nrw at hc
 obtain ⟨u, _, rfl⟩ := List.mem_map.1 hc
 split <;> omega
end
section
theorem M0 (s : ByteArray) : ∀ c ∈ bl s, c < 256 := by
 intro c hc
 unfold bl at hc
 obtain ⟨b, _, rfl⟩ := List.mem_map.1 hc
 exact b.toNat_lt
theorem Aht (X : List UInt8) : bl ⟨X.toArray⟩ = X.map UInt8.toNat := by unfold bl; simp
theorem Fi {X : List UInt8} {L : List Nat} (h : X.map UInt8.toNat = L) : (⟨X.toArray⟩ : ByteArray) = Ab L := by
 refine Nw ?_
 rw [Aht, h, Aj]
 intro u hu
 rw [← h] at hu
 obtain ⟨b, _, rfl⟩ := List.mem_map.1 hu
 exact b.toNat_lt
theorem Qy (s : ByteArray) : Ab (bl s) = s := Nw (Aj (M0 s))
theorem Gc (s : ByteArray) : s.data.toList.map UInt8.toNat = bl s := rfl
theorem Ag (l : List Nat) : (Ab l).size = l.length := by
 unfold Ab
 show (Array.size _) = _
 simp
theorem D3 (s : ByteArray) : (bl s).length = s.size := Af8 s
theorem Wx : Ab [] = ByteArray.empty := rfl
theorem If {p : UInt8 → Bool} {q : Nat → Bool} (h : ∀ b : UInt8, p b = q b.toNat) : ∀ l : List UInt8, (l.dropWhile p).map UInt8.toNat = (l.map UInt8.toNat).dropWhile q := by
 intro l
 rw [List.dropWhile_map]
 congr 1
 congr 1
 funext b
 exact h b
theorem Acc (s : ByteArray) (k : UInt8) : Lib.hasPrefix s.data.toList [k] = ((bl s).head? == some k.toNat) := by
 unfold Lib.hasPrefix bl
 cases s.data.toList with
 | nil => rfl
 | cons c r =>
  show (k == c && true) = (some c.toNat == some k.toNat)
  rw [Bool.eq_iff_iff]
  simp only [Bool.and_true, beq_iff_eq, Option.some.injEq]
  exact ⟨fun e => by rw [e], fun e => (UInt8.toNat_inj.1 e).symm⟩
theorem Aa9 (s : ByteArray) (k : UInt8) : (⟨(Lib.trimPrefix s.data.toList [k]).toArray⟩ : ByteArray) = Ab (if (bl s).head? = some k.toNat then (bl s).tail else bl s) := by
 refine Fi ?_
 unfold Lib.trimPrefix
 rw [Acc]
 by_cases h : (bl s).head? = some k.toNat
 ·rw [if_pos h, beq_iff_eq.2 h, if_pos rfl, List.map_drop, Gc]
  exact List.drop_one
 ·rw [if_neg h, beq_eq_false_iff_ne.2 h, if_neg (by simp), Gc]
theorem Vy : ∀ (p l : List UInt8), p.isPrefixOf l = (p.map UInt8.toNat).isPrefixOf (l.map UInt8.toNat)
 | [], l => by cases l <;> rfl
 | c :: p, [] => rfl
 | c :: p, d :: l => by
  show (c == d && p.isPrefixOf l) = (c.toNat == d.toNat && (p.map UInt8.toNat).isPrefixOf (l.map UInt8.toNat))
  rw [Vy p l]
  congr 1
  rw [Bool.eq_iff_iff, beq_iff_eq, beq_iff_eq]
  exact ⟨fun e => by rw [e], fun e => UInt8.toNat_inj.1 e⟩
theorem Aa0 (s p : ByteArray) : Lib.hasPrefix s.data.toList p.data.toList = (bl p).isPrefixOf (bl s) := Vy _ _
theorem Ag5 (s p : ByteArray) : (⟨(Lib.trimPrefix s.data.toList p.data.toList).toArray⟩ : ByteArray) = Ab (if (bl p).isPrefixOf (bl s) = true then (bl s).drop p.size else bl s) := by
 refine Fi ?_
 unfold Lib.trimPrefix
 rw [Aa0]
 by_cases h : (bl p).isPrefixOf (bl s) = true
 ·rw [if_pos h, if_pos h, List.map_drop, Gc, ← Lib.size_eq]
 ·rw [if_neg h, if_neg h, Gc]
def Mj (r : Nat) : ByteArray := (⟨#[48, 49, 50, 51, 52, 53, 54, 55, 56, 57, 97, 98, 99, 100, 101, 102, 103, 104, 105, 106, 107, 108, 109, 110, 111, 112, 113, 114, 115, 116, 117, 118, 119, 120, 121, 122]⟩ : ByteArray).extract 0 r
def ldq (r : Nat) (c : Nat) : Bool := decide (dgt c < r) && !(decide (65 ≤ c) && decide (c ≤ 90))
theorem Ael : ∀ (r : Fin 37) (b : Fin 256), (Mj r.val).data.toList.contains (UInt8.ofNat b.val) = ldq r.val b.val := by decide +kernel
theorem Oi {r : Nat} (hr : r ≤ 36) (b : UInt8) : (Mj r).data.toList.contains b = ldq r b.toNat := by
 have := Ael ⟨r, by omega⟩ ⟨b.toNat, b.toNat_lt⟩
 simpa using this
theorem Yj : ∀ (r : Fin 37) (j : Fin 37), ∀ b, (Mj r.val).data.toList[j.val]? = some b → b.toNat < 128 := by decide +kernel
theorem V7 : ∀ r : Fin 37, (Mj r.val).data.toList.length = r.val := by decide +kernel
theorem Xt {r : Nat} (hr : r ≤ 36) : (Mj r).size = r := by rw [Lib.size_eq]; exact V7 ⟨r, by omega⟩
theorem Aen {r : Nat} (hr : r ≤ 36) : ∀ (j : Nat) (b : UInt8), (Mj r).data.toList[j]? = some b → b.toNat < 128 := by
 intro j b hb
 rcases Nat.lt_or_ge j 37 with h | h
 ·exact Yj ⟨r, by omega⟩ ⟨j, h⟩ b hb
 ·exfalso
  rw [List.getElem?_eq_none (by rw [V7 ⟨r, by omega⟩]; show r ≤ j; omega)] at hb
  cases hb
theorem Afm (c : Nat) : ldq 10 c = Cm c := by
 unfold ldq
 rw [Bool.eq_iff_iff, Bool.and_eq_true, decide_eq_true_eq, S7]
 constructor
 ·exact fun h => h.1
 ·intro h
  refine ⟨h, ?_⟩
  have := Cc.1 h
  simp; omega
theorem Agk {r : Nat} (hr : r ≤ 36) (s : ByteArray) : (⟨(Lib.trimLeftS s.data.toList (Mj r).data.toList).toArray⟩ : ByteArray) = Ab ((bl s).dropWhile (ldq r)) :=
 Fi (If (fun b => Oi hr b) _)
theorem Ja (b : UInt8) : [(48 : UInt8)].contains b = (b.toNat == 48) := by
 rw [Lib.contains_one, Bool.eq_iff_iff, beq_iff_eq, beq_iff_eq]
 exact ⟨fun e => by rw [e]; rfl, fun e => UInt8.toNat_inj.1 e⟩
theorem Ahi (s : ByteArray) : (⟨(Lib.trimLeftS s.data.toList [48]).toArray⟩ : ByteArray) = Ab (ldz (bl s)) :=
 Fi (If (q := (· == 48)) (fun b => Ja b) _)
theorem Ahs (s : ByteArray) : (⟨(Lib.trimRightS s.data.toList [48]).toArray⟩ : ByteArray) = Ab (trz (bl s)) := by
 refine Fi ?_
 unfold Lib.trimRightS trz
 rw [List.map_reverse, If (q := (· == 48)) (fun b => Ja b), List.map_reverse]
 rfl
def Er (c : Nat) : Nat := if 65 ≤ c ∧ c ≤ 90 then c + 32 else c
theorem Ab5 : ∀ b : Fin 128, (Lib.lowerB (UInt8.ofNat b.val)).toNat = Er b.val := by decide +kernel
theorem Ab2 {s : ByteArray} (h : ∀ c ∈ bl s, c < 128) : (⟨(Lib.toLowerA s.data.toList).toArray⟩ : ByteArray) = Ab ((bl s).map Er) := by
 refine Fi ?_
 unfold Lib.toLowerA bl
 rw [List.map_map, List.map_map]
 refine List.map_congr_left (fun b hb => ?_)
 have h1 : b.toNat < 128 := h b.toNat (List.mem_map.2 ⟨b, hb, rfl⟩)
 have := Ab5 ⟨b.toNat, h1⟩
 simpa using this
theorem Agc {s : ByteArray} (h : ∀ c ∈ bl s, c < 128) : ∀ (j : Nat) (b : UInt8), s.data.toList[j]? = some b → b.toNat < 128 := fun _ b hb => h b.toNat (List.mem_map.2 ⟨b, List.mem_of_getElem? hb, rfl⟩)
theorem O2 (c : Nat) : dgt (Er c) = dgt c := by
 unfold dgt Er
 split <;> (repeat' split) <;> omega
theorem Vw (r c : Nat) : ldq r (Er c) = decide (dgt c < r) := by
 unfold ldq
 rw [O2]
 have : (decide (65 ≤ Er c) && decide (Er c ≤ 90)) = false := by unfold Er; split <;> simp <;> omega
 rw [this]
 simp
theorem Vm (r : Nat) : ∀ l : List Nat, num r (l.map Er) = num r l
 | [] => rfl
 | c :: l => by rw [List.map_cons, Fe, Fe, O2, Vm r l, List.length_map]
theorem Abe (r : Nat) (l : List Nat) : (l.map Er).takeWhile (ldq r) = (l.takeWhile (fun c => decide (dgt c < r))).map Er := by
 rw [List.takeWhile_map]
 congr 1
 congr 1
 funext c
 exact Vw r c
theorem Abr (r : Nat) (l : List Nat) : (l.map Er).dropWhile (ldq r) = (l.dropWhile (fun c => decide (dgt c < r))).map Er := by
 rw [List.dropWhile_map]
 congr 1
 congr 1
 funext c
 exact Vw r c
theorem Fp (s : ByteArray) (k : Nat) : s.extract 0 k = Ab ((bl s).take k) := by
 refine Nw ?_
 rw [Aj (fun u hu => M0 s u (List.mem_of_mem_take hu))]
 unfold bl
 rw [Lib.extract_data, List.drop_zero, Nat.sub_zero, List.map_take]
theorem R9 (s : ByteArray) (k : Nat) : s.extract k s.size = Ab ((bl s).drop k) := by
 refine Nw ?_
 rw [Aj (fun u hu => M0 s u (List.mem_of_mem_drop hu)), Vf]
theorem Aaa (p : Nat → Bool) (l : List Nat) : l.take (l.length - (l.dropWhile p).length) = l.takeWhile p := by
 have h := List.takeWhile_append_dropWhile (p := p) (l := l)
 have hl := congrArg List.length h
 rw [List.length_append] at hl
 have h2 : l.length - (l.dropWhile p).length = (l.takeWhile p).length := by omega
 rw [h2]
 have h3 : (l.takeWhile p ++ l.dropWhile p).take (l.takeWhile p).length = l.takeWhile p := List.take_left
 rw [h] at h3
 exact h3
theorem Az (a b : List Nat) : Ab a ++ Ab b = Ab (a ++ b) := by
 unfold Ab
 rw [List.map_append]
 apply ByteArray.ext
 simp
end
section
def dL (n : Nat) : List Nat := (Lib.decDigits n).map UInt8.toNat
theorem R8 {n : Nat} (h : n < 256) : (UInt8.ofNat n).toNat = n := by simp; omega
theorem Df {n : Nat} (h : n < 10) : dL n = [48 + n] := by
 unfold dL
 rw [Lib.decDigits, dif_pos h, List.map_cons, List.map_nil, R8 (by omega)]
theorem Hc {n : Nat} (h : 10 ≤ n) : dL n = dL (n / 10) ++ [48 + n % 10] := by
 unfold dL
 rw [Lib.decDigits, dif_neg (by omega), List.map_append, List.map_cons, List.map_nil, R8 (by omega)]
theorem Aem {n d : Nat} (hn : 0 < n) (hd : d < 10) : dL (n * 10 + d) = dL n ++ [48 + d] := by
 rw [Hc (by omega), show (n * 10 + d) / 10 = n by omega, show (n * 10 + d) % 10 = d by omega]
theorem Ub {P : Nat → Prop} (h1 : ∀ n, n < 10 → P n) (h2 : ∀ n, 10 ≤ n → P (n / 10) → P n) (n : Nat) : P n := by
 induction n using Nat.strongRecOn with
 | _ n ih =>
  by_cases h : n < 10
  ·exact h1 n h
  ·exact h2 n (by omega) (ih _ (by omega))
theorem Ku (n : Nat) : ∀ c ∈ dL n, Cm c = true := by
 refine Ub (P := fun n => ∀ c ∈ dL n, Cm c = true) ?_ ?_ n
 ·intro n h c hc
  rw [Df h, List.mem_singleton] at hc
  subst hc
  exact Cc.2 (by omega)
 ·intro n h ih c hc
  rw [Hc h, List.mem_append, List.mem_singleton] at hc
  rcases hc with hc | rfl
  ·exact ih c hc
  ·exact Cc.2 (by omega)
theorem Ads (n : Nat) : dL n ≠ [] := by
 by_cases h : n < 10
 ·rw [Df h]; simp
 ·rw [Hc (by omega)]; simp
theorem U6 (n : Nat) : 0 < (dL n).length := List.length_pos_iff.2 (Ads n)
theorem Wp {d : Nat} (h : d < 10) : dgt (48 + d) = d := by
 have := Hm (c := 48 + d) (Cc.2 (by omega))
 omega
theorem Acr (n : Nat) : num 10 (dL n) = n := by
 refine Ub (P := fun n => num 10 (dL n) = n) ?_ ?_ n
 ·intro n h
  rw [Df h, Jo, Wp h]
 ·intro n h ih
  rw [Hc h, E0, ih, Jo, Wp (by omega), List.length_singleton]
  omega
theorem Ad2 {n : Nat} : 0 < n → (dL n).head? ≠ some 48 := by
 refine Ub (P := fun n => 0 < n → (dL n).head? ≠ some 48) ?_ ?_ n
 ·intro n h h0
  rw [Df h]
  simp
  omega
 ·intro n h ih _
  have := Ads (n / 10)
  have ih' := ih (by omega)
  rw [Hc h]
  cases hd : dL (n / 10) with
  | nil => exact absurd hd this
  | cons a b =>
   rw [hd] at ih'
   simpa using ih'
theorem Afy (n : Nat) : n < 10 ^ (dL n).length := by
 have := H6 (g := dL n) (Ku n)
 rwa [Acr] at this
theorem V3 {n : Nat} (h : 0 < n) : 10 ^ ((dL n).length - 1) ≤ n := by
 have := Kg (g := dL n) (Ku n) (Ads n) (Ad2 h)
 rwa [Acr] at this
theorem Jz {a b : Nat} (h : 10 ^ a < 10 ^ b) : a < b := by
 rcases Nat.lt_or_ge a b with h1 | h1
 ·exact h1
 ·have := Nat.pow_le_pow_right (n := 10) (by omega) h1
  omega
theorem Ag0 {n k : Nat} (h1 : 10 ^ k ≤ n) (h2 : n < 10 ^ (k + 1)) : (dL n).length = k + 1 := by
 have hp := Aq k
 have a1 := Jz (Nat.lt_of_le_of_lt h1 (Afy n))
 have a2 := Jz (Nat.lt_of_le_of_lt (V3 (n := n) (by omega)) h2)
 omega
theorem Hp {n : Nat} (hn : 0 < n) : ∀ j : Nat, dL (n * 10 ^ j) = dL n ++ List.replicate j 48
 | 0 => by simp
 | j + 1 => by
  have h := Aem (n := n * 10 ^ j) (d := 0) (Nat.mul_pos hn (Aq j)) (by omega)
  rw [Nat.pow_succ, ← Nat.mul_assoc, show n * 10 ^ j * 10 = n * 10 ^ j * 10 + 0 by omega, h, Hp hn j, List.replicate_succ', List.append_assoc]
theorem P8 {l : List Nat} {c : Nat} (h : c ≠ 48) : trz (l ++ [c]) = l ++ [c] := by
 unfold trz
 rw [List.reverse_append, List.reverse_singleton, List.singleton_append, List.dropWhile_cons_of_neg (by simpa using h)]
 simp
theorem Nz (l : List Nat) : ∀ j : Nat, trz (l ++ List.replicate j 48) = trz l
 | 0 => by simp
 | j + 1 => by
  rw [List.replicate_succ', ← List.append_assoc]
  have : ∀ m : List Nat, trz (m ++ [48]) = trz m := fun m => by
   unfold trz
   rw [List.reverse_append, List.reverse_singleton, List.singleton_append, List.dropWhile_cons_of_pos (by simp)]
  rw [this, Nz l j]
theorem Ot {n : Nat} (h : n % 10 ≠ 0) : trz (dL n) = dL n := by
 by_cases h1 : n < 10
 ·rw [Df h1, show [48 + n] = [] ++ [48 + n] from rfl, P8 (by omega)]
 ·rw [Hc (by omega), P8 (by omega)]
theorem Agx {n : Nat} (h : n % 10 ≠ 0) (j : Nat) : trz (dL (n * 10 ^ j)) = dL n := by
 rw [Hp (by omega), Nz, Ot h]
end
section
def Agj (K : Nat) : Nat := 2 ^ K
theorem Afp (K : Nat) : Agj K = 2 ^ K := rfl
theorem Zv (K : Nat) : 0 < Agj K := As K
def big : Nat := Agj 1074
theorem Em : 0 < big := Zv 1074
theorem I8 : ∃ K : Nat, K = 1074 ∧ big = 2 ^ K := ⟨1074, rfl, Afp 1074⟩
def vU (r : Nat) (s : Int) : Nat := Ac r * 10 ^ s.toNat
def vV (s : Int) : Nat := big * 10 ^ (-s).toNat
theorem Cw (s : Int) : 0 < vV s := Nat.mul_pos Em (Aq _)
theorem Lp (N : Nat) (e : Int) : Bu N e = rnd (N * vV (-e)) (10 ^ (-e).toNat) := by
 obtain ⟨K, hK, hd⟩ := Fj
 obtain ⟨K', hK', hb⟩ := I8
 have : K' = K := by omega
 subst this
 unfold vV
 rw [hd, hb, show (- -e).toNat = e.toNat by omega, Nat.mul_assoc, Nat.mul_comm (10 ^ e.toNat)]
theorem Afk {u v a b c d : Nat} (e : c + b = a + d) : v * 10 ^ a ≤ u * 10 ^ b ↔ v * 10 ^ c ≤ u * 10 ^ d := by
 have hb := Aq b
 have hd := Aq d
 have e1 : v * 10 ^ a * 10 ^ d = v * 10 ^ c * 10 ^ b := by rw [Nat.mul_assoc, Nat.mul_assoc, ← Nat.pow_add, ← Nat.pow_add, e]
 have e2 : u * 10 ^ b * 10 ^ d = u * 10 ^ d * 10 ^ b := Nat.mul_right_comm _ _ _
 rw [← Nat.mul_le_mul_right_iff hd, e1, e2, Nat.mul_le_mul_right_iff hb]
theorem Ol {r j : Nat} {m s : Int} (h : m + s = j) : Ei m (Ac r) big ↔ 10 ^ j * vV s ≤ vU r s := by
 unfold Ei vU vV
 rw [Nat.mul_left_comm, ← Nat.pow_add]
 exact Afk (by omega)
theorem Pg (r i : Nat) (s : Int) : vU r (s - i) * (vV s * 10 ^ i) = vU r s * vV (s - i) := by
 unfold vU vV
 have h1 : Ac r * 10 ^ (s - i).toNat * (big * 10 ^ (-s).toNat * 10 ^ i) = Ac r * big * (10 ^ (s - i).toNat * 10 ^ (-s).toNat * 10 ^ i) := by
  generalize 10 ^ (s - i).toNat = a
  generalize 10 ^ (-s).toNat = b
  generalize 10 ^ i = c
  grind
 have h2 : Ac r * 10 ^ s.toNat * (big * 10 ^ (-(s - i)).toNat) = Ac r * big * (10 ^ s.toNat * 10 ^ (-(s - i)).toNat) := by
  generalize 10 ^ s.toNat = a
  generalize 10 ^ (-(s - i)).toNat = b
  grind
 rw [h1, h2, ← Nat.pow_add, ← Nat.pow_add, ← Nat.pow_add]
 exact congrArg (fun k => Ac r * big * 10 ^ k) (by omega)
theorem Gx (r i : Nat) (s : Int) : vU r (s - i) / vV (s - i) = vU r s / vV s / 10 ^ i := by
 rw [(Ds (Cw _) (Nat.mul_pos (Cw s) (Aq i)) (Pg r i s)).1, Nat.div_div_eq_div_mul]
theorem Ur (r i half : Nat) (s : Int) (hi : 10 ^ i = 2 * half) :
  (2 * (vU r (s - i) % vV (s - i)) < vV (s - i) ↔ vU r s / vV s % 10 ^ i < half) ∧ (2 * (vU r (s - i) % vV (s - i)) = vV (s - i) ↔ vU r s / vV s % 10 ^ i = half ∧ vU r s % vV s = 0) := by
 have h := Ds (Cw _) (Nat.mul_pos (Cw s) (Aq i)) (Pg r i s)
 have g := Xp (U := vU r s) (half := half) (Cw s)
 rw [← hi] at g
 exact ⟨h.2.1.trans g.2.1, h.2.2.trans g.2.2⟩
def cq (r : Nat) (n : Int) (k : Nat) : Nat := vU r (k - n) / vV (k - n)
def Ld (r : Nat) (n : Int) (k : Nat) : Bool := decide (2 * (vU r (k - n) % vV (k - n)) < vV (k - n)) || (decide (2 * (vU r (k - n) % vV (k - n)) = vV (k - n)) && decide (cq r n k % 2 = 0))
def Mg (r : Nat) (n : Int) (k : Nat) : Bool := decide (Bu (cq r n k) (n - k) = r)
def Hh (r : Nat) (n : Int) (k : Nat) : Bool := decide (Bu (cq r n k + 1) (n - k) = r)
def cnd (r : Nat) (n : Int) (k : Nat) : Option Nat :=
 if (Mg r n k && (!Hh r n k || Ld r n k)) = true then some (cq r n k) else if Hh r n k = true then some (cq r n k + 1) else none
theorem Kx {r k : Nat} {n : Int} : cnd r n k = none ↔ Mg r n k = false ∧ Hh r n k = false := by
 unfold cnd
 cases Mg r n k <;> cases Hh r n k <;> cases Ld r n k <;> simp
theorem Sc {r k c : Nat} {n : Int} (h : cnd r n k = some c) : (c = cq r n k ∨ c = cq r n k + 1) ∧ Bu c (n - k) = r := by
 unfold cnd at h
 split at h
 ·rename_i hc
  injection h with h
  subst h
  refine ⟨.inl rfl, ?_⟩
  have := (Bool.and_eq_true _ _ ▸ hc).1
  exact of_decide_eq_true this
 ·split at h
  ·rename_i hc
   injection h with h
   subst h
   exact ⟨.inr rfl, of_decide_eq_true hc⟩
  ·cases h
theorem Af0 {r k : Nat} {n : Int} (hp : Bo (Ac r) big n) (hk : 1 ≤ k) : 10 ^ (k - 1) ≤ cq r n k := by
 unfold cq
 rw [Nat.le_div_iff_mul_le (Cw _)]
 exact (Ol (by omega)).1 hp.1
theorem Afz {r k : Nat} {n : Int} (hp : Bo (Ac r) big n) : cq r n k < 10 ^ k := by
 unfold cq
 rw [Nat.div_lt_iff_lt_mul (Cw _)]
 exact Nat.lt_of_not_le fun h => hp.2 ((Ol (by omega)).2 h)
theorem Agz (r k : Nat) (n : Int) : cq r n k = cq r n (k + 1) / 10 := by
 unfold cq
 have := Gx r 1 (((k + 1 : Nat) : Int) - n)
 rw [Nat.pow_one, show ((k + 1 : Nat) : Int) - n - ((1 : Nat) : Int) = (k : Int) - n by omega] at this
 exact this
theorem Ke {r k c : Nat} {n : Int} (hp : Bo (Ac r) big n) (hk : 1 ≤ k) (hmin : ∀ j, 1 ≤ j → j < k → cnd r n j = none) (h : cnd r n k = some c) :
  (c % 10 ≠ 0 ∧ 10 ^ (k - 1) ≤ c ∧ c < 10 ^ k) ∨ (k = 1 ∧ c = 10) := by
 obtain ⟨hc, hd⟩ := Sc h
 have b1 := Af0 (k := k) hp hk
 have b2 := Afz (k := k) hp
 by_cases h0 : c % 10 = 0
 ·right
  rcases Nat.lt_or_ge 1 k with h1 | h1
  ·exfalso
   obtain ⟨j, rfl⟩ : ∃ j, k = j + 1 := ⟨k - 1, by omega⟩
   have hn := Kx.1 (hmin j (by omega) (by omega))
   have hq := Agz r j n
   obtain ⟨d, rfl⟩ : ∃ d, c = d * 10 ^ 1 := ⟨c / 10, by omega⟩
   rw [Dp, show n - ((j + 1 : Nat) : Int) + ((1 : Nat) : Int) = n - (j : Int) by omega] at hd
   rcases hc with hc | hc
   ·have : d = cq r n j := by rw [hq]; omega
    rw [this] at hd
    have := hn.1
    unfold Mg at this
    exact of_decide_eq_false this hd
   ·have : d = cq r n j + 1 := by rw [hq]; omega
    rw [this] at hd
    have := hn.2
    unfold Hh at this
    exact of_decide_eq_false this hd
  ·have hk1 : k = 1 := by omega
   subst hk1
   refine ⟨rfl, ?_⟩
   simp at b1 b2
   omega
 ·left
  refine ⟨h0, by omega, ?_⟩
  rcases hc with rfl | hc
  ·exact b2
  ·rcases Nat.lt_or_ge c (10 ^ k) with h1 | h1
   ·exact h1
   ·exfalso
    have : c = 10 ^ k := by omega
    obtain ⟨j, rfl⟩ : ∃ j, k = j + 1 := ⟨k - 1, by omega⟩
    rw [this, Nat.pow_succ] at h0
    omega
def SQ (r : Nat) (D : List Nat) (N : Int) : Prop := ∃ n k c, Bo (Ac r) big n ∧ 1 ≤ k ∧ k ≤ 17 ∧ (∀ j, 1 ≤ j → j < k → cnd r n j = none) ∧ cnd r n k = some c ∧ D = trz (dL c) ∧ N = (dL c).length + n - k
theorem SQ.one {r : Nat} {D E : List Nat} {N M : Int} (h : SQ r D N) (g : SQ r E M) : D = E ∧ N = M := by
 obtain ⟨n, k, c, h1, h2, _, h3, h4, h5, h6⟩ := h
 obtain ⟨n', k', c', g1, g2, _, g3, g4, g5, g6⟩ := g
 have hn := H9 h1 g1
 subst hn
 have hk : k = k' := by
  rcases Nat.lt_trichotomy k k' with h | h | h
  ·rw [g3 k h2 h] at h4; cases h4
  ·exact h
  ·rw [h3 k' g2 h] at g4; cases g4
 subst hk
 rw [h4] at g4
 injection g4 with g4
 subst g4
 exact ⟨h5.trans g5.symm, h6.trans g6.symm⟩
theorem Qu {r : Nat} {n : Int} (hp : Bo (Ac r) big n) (h0 : 0 < r) (hr : r < 9218868437227405312) : cnd r n 17 ≠ none := by
 intro hn
 obtain ⟨n1, n2⟩ := Kx.1 hn
 have hbig : 100000000000000000 * vV (18 - n) ≤ Ac r * 10 ^ ((18 : Int) - n).toNat := (Ol (j := 17) (s := 18 - n) (by omega)).1 hp.1
 have hB := Aq ((18 : Int) - n).toNat
 have hq := Gx r 1 (18 - n)
 rw [Nat.pow_one, show (18 : Int) - n - ((1 : Nat) : Int) = ((17 : Nat) : Int) - n by omega] at hq
 have l1 := Vg (unit := 10) (Cw (18 - n)) hB h0 hr
 have l2 := Rj (unit := 10) (Cw (18 - n)) hB (by omega) h0 hr
 have hH : vU r (18 - n) = Ac r * 10 ^ ((18 : Int) - n).toNat := rfl
 have sh : ∀ c, Bu c (n - ((17 : Nat) : Int)) = rnd (c * 10 * vV (18 - n)) (10 ^ ((18 : Int) - n).toNat) := by
  intro c
  have e1 := Dp c 1 (n - 18)
  rw [Nat.pow_one, show n - 18 + ((1 : Nat) : Int) = n - ((17 : Nat) : Int) by omega] at e1
  rw [← e1, Lp, show -(n - 18) = 18 - n by omega]
 have m1 := of_decide_eq_false n1
 have m2 := of_decide_eq_false n2
 unfold cq at m1 m2
 rw [sh, hq, hH] at m1 m2
 rcases Xq (Cw (18 - n)) hB h0 hbig with h | h
 ·exact m1 (l1.2 h)
 ·exact m2 (l2.2 h)
end
section
def pcn (H : Nat) (ex : Bool) (L M unit : Nat) : Option Nat :=
 if L ≤ H - H % unit ∧ (¬ H - H % unit + unit ≤ M ∨ H % unit < unit / 2 ∨ (H % unit = unit / 2 ∧ ex = true ∧ (H - H % unit) / unit % 2 = 0)) then some (H - H % unit)
 else if H - H % unit + unit ≤ M then some (H - H % unit + unit) else none
theorem Ad7 {r k i M : Nat} {n : Int} (hk : k + i = 18) (hi : 1 ≤ i) (h0 : 0 < r) (hr : r < 9218868437227405312)
  (hM : ∀ c, c ≤ M ↔ Dc (vV (18 - n)) (10 ^ ((18 : Int) - n).toNat) r c) :
  pcn (vU r (18 - n) / vV (18 - n)) (decide (vU r (18 - n) % vV (18 - n) = 0)) (Ca (vV (18 - n)) (10 ^ ((18 : Int) - n).toNat) r) M (10 ^ i) = (cnd r n k).map (· * 10 ^ i) := by
 have hB := Aq ((18 : Int) - n).toNat
 have hu := Aq i
 obtain ⟨half, hh⟩ : ∃ half, 10 ^ i = 2 * half := ⟨5 * 10 ^ (i - 1), by
  obtain ⟨j, rfl⟩ : ∃ j, i = j + 1 := ⟨i - 1, by omega⟩
  rw [Nat.pow_succ, Nat.add_sub_cancel]
  omega⟩
 have hs : (18 : Int) - n - (i : Int) = (k : Int) - n := by omega
 have hq := Gx r i (18 - n)
 have hl := Ur r i half (18 - n) hh
 rw [hs] at hq hl
 have l1 := Vg (unit := 10 ^ i) (Cw (18 - n)) hB h0 hr
 have l2 := Rj (unit := 10 ^ i) (Cw (18 - n)) hB hu h0 hr
 rw [show Ac r * 10 ^ ((18 : Int) - n).toNat = vU r (18 - n) from rfl] at l1 l2
 have sh : ∀ c, Bu c (n - (k : Int)) = rnd (c * 10 ^ i * vV (18 - n)) (10 ^ ((18 : Int) - n).toNat) := by
  intro c
  have e1 := Dp c i (n - 18)
  rw [show n - 18 + (i : Int) = n - (k : Int) by omega] at e1
  rw [← e1, Lp, show -(n - 18) = 18 - n by omega]
 have hcq : cq r n k = vU r (18 - n) / vV (18 - n) / 10 ^ i := hq
 generalize hH : vU r (18 - n) / vV (18 - n) = H at *
 have hdn : H - H % 10 ^ i = H / 10 ^ i * 10 ^ i := by
  have := Nat.div_add_mod H (10 ^ i)
  rw [Nat.mul_comm] at this
  omega
 have hup : H / 10 ^ i * 10 ^ i + 10 ^ i = (H / 10 ^ i + 1) * 10 ^ i := by rw [Nat.add_mul, Nat.one_mul]
 have ta : Ca (vV (18 - n)) (10 ^ ((18 : Int) - n).toNat) r ≤ H / 10 ^ i * 10 ^ i ↔ Mg r n k = true := by
  rw [← l1]
  unfold Mg
  rw [decide_eq_true_iff, hcq, sh]
 have tb : H / 10 ^ i * 10 ^ i + 10 ^ i ≤ M ↔ Hh r n k = true := by
  rw [hM, hup, ← l2]
  unfold Hh
  rw [decide_eq_true_iff, hcq, sh]
 have tc : (H % 10 ^ i < 10 ^ i / 2 ∨ (H % 10 ^ i = 10 ^ i / 2 ∧ decide (vU r (18 - n) % vV (18 - n) = 0) = true ∧ H / 10 ^ i * 10 ^ i / 10 ^ i % 2 = 0)) ↔ Ld r n k = true := by
  unfold Ld
  rw [Bool.or_eq_true, Bool.and_eq_true, decide_eq_true_iff, decide_eq_true_iff, decide_eq_true_iff, decide_eq_true_iff, hl.1, hl.2, hcq, Nat.mul_div_cancel _ hu, show 10 ^ i / 2 = half by omega]
  constructor
  ·rintro (h | ⟨a, b, c⟩)
   ·exact .inl h
   ·exact .inr ⟨⟨a, b⟩, c⟩
  ·rintro (h | ⟨⟨a, b⟩, c⟩)
   ·exact .inl h
   ·exact .inr ⟨a, b, c⟩
 unfold pcn cnd
 rw [hdn, hcq]
 by_cases h1 : Mg r n k = true <;> by_cases h2 : Hh r n k = true <;> by_cases h3 : Ld r n k = true
 all_goals
  simp only [ta, tb, tc, h1, h2, h3]
  simp [Nat.add_mul]
theorem Xz {r s u : Nat} (hr : r < 9218868437227405312) (hrs : r < s) (h : Ac s ≤ u) : rnd u 1 ≠ r := by
 rcases Nat.lt_or_ge s 9218868437227405312 with hs | hs
 ·have h1 := Hv (v := 1) (by omega) hs
  have h2 := Ro (u := Ac s * 1) (v := 1) (u' := u) (v' := 1) (by omega) (by omega) (by omega)
  omega
 ·have hf : Ac 9218868437227405312 ≤ Ac s := by
   rcases Nat.eq_or_lt_of_le hs with e | e
   ·rw [← e]; exact Nat.le_refl _
   ·exact Nat.le_of_lt (D1.2 e)
  have := Jk (u := u) (v := 1) (by omega) (by rw [Nat.mul_one]; exact Nat.le_trans hf h)
  omega
theorem Zh {r s u : Nat} (hr : r < 9218868437227405312) (hrs : s < r) (h : u ≤ Ac s) : rnd u 1 ≠ r := by
 have h1 := Hv (v := 1) (r := s) (by omega) (by omega)
 have h2 := Ro (u := u) (v := 1) (u' := Ac s * 1) (v' := 1) (by omega) (by omega) (by omega)
 omega
theorem U9 {N : Nat} (h : 0 < N) : ∃ c j, N = c * 10 ^ j ∧ c % 10 ≠ 0 := by
 induction N using Nat.strongRecOn with
 | _ N ih =>
  by_cases h0 : N % 10 = 0
  ·obtain ⟨c, j, h1, h2⟩ := ih (N / 10) (by omega) (by omega)
   refine ⟨c, j + 1, ?_, h2⟩
   rw [Nat.pow_succ, ← Nat.mul_assoc, ← h1]
   omega
  ·exact ⟨N, 0, by simp, h0⟩
theorem Zs {r N : Nat} (h0 : 0 < N) (hN : N < 9007199254740992) (hr : r < 9218868437227405312) (hm : Ac r = N * big) : SQ r (trz (dL N)) (dL N).length := by
 obtain ⟨K, hK, hbig⟩ := I8
 obtain ⟨c, j, e, hc⟩ := U9 h0
 have hc0 : 0 < c := by omega
 have hlen : (dL N).length = (dL c).length + j := by rw [e, Hp hc0, List.length_append, List.length_replicate]
 obtain ⟨k, hk⟩ : ∃ k, (dL c).length = k := ⟨_, rfl⟩
 have hk1 : 1 ≤ k := by rw [← hk]; exact U6 c
 have hl1 := Afy N
 have hl2 := V3 h0
 rw [hlen, hk] at hl1 hl2
 have hle : k + j ≤ 16 := by
  have h3 : 10 ^ (k + j - 1) < 10 ^ 16 := Nat.lt_of_le_of_lt hl2 (by omega)
  have := Jz h3
  omega
 have hq : ∀ i : Nat, i ≤ k + j → cq r ((k + j : Nat) : Int) i = N / 10 ^ (k + j - i) ∧ vU r ((i : Int) - ((k + j : Nat) : Int)) % vV ((i : Int) - ((k + j : Nat) : Int)) = big * (N % 10 ^ (k + j - i)) := by
  intro i hi
  unfold cq vU vV
  rw [show ((i : Int) - ((k + j : Nat) : Int)).toNat = 0 by omega, show (-((i : Int) - ((k + j : Nat) : Int))).toNat = k + j - i by omega, Nat.pow_zero, Nat.mul_one, hm, Nat.mul_comm N]
  exact ⟨Nat.mul_div_mul_left _ _ Em, Nat.mul_mod_mul_left _ _ _⟩
 have sh : ∀ d i : Nat, i ≤ k + j → Bu d (((k + j : Nat) : Int) - (i : Int)) = rnd (d * 10 ^ (k + j - i) * big) 1 := by
  intro d i hi
  rw [Lp]
  unfold vV
  rw [show (-(-(((k + j : Nat) : Int) - (i : Int)))).toNat = k + j - i by omega, show (-(((k + j : Nat) : Int) - (i : Int))).toNat = 0 by omega, Nat.pow_zero, Nat.mul_comm big, ← Nat.mul_assoc]
 have hNk : N / 10 ^ j = c := by rw [e]; exact Nat.mul_div_cancel _ (Aq j)
 have hNr : N % 10 ^ j = 0 := by rw [e]; exact Nat.mul_mod_left _ _
 have hqk := hq k (by omega)
 rw [show k + j - k = j by omega, hNk, hNr, Nat.mul_zero] at hqk
 have hlow : Mg r ((k + j : Nat) : Int) k = true := by
  unfold Mg
  rw [decide_eq_true_iff, hqk.1, sh c k (by omega), show k + j - k = j by omega, ← e, ← hm, ← Nat.mul_one (Ac r)]
  exact Hv (by omega) hr
 have hnear : Ld r ((k + j : Nat) : Int) k = true := by
  unfold Ld
  rw [hqk.2, Nat.mul_zero, decide_eq_true (Cw _), Bool.true_or]
 refine ⟨((k + j : Nat) : Int), k, c, ⟨?_, ?_⟩, hk1, by omega, ?_, ?_, by rw [e, Agx hc, Ot hc], by omega⟩
 ·unfold Ei
  rw [show (((k + j : Nat) : Int) - 1).toNat = k + j - 1 by omega, show (-(((k + j : Nat) : Int) - 1)).toNat = 0 by omega, Nat.pow_zero, Nat.mul_one, hm, Nat.mul_comm N]
  exact Nat.mul_le_mul_left _ hl2
 ·unfold Ei
  rw [show (((k + j : Nat) : Int)).toNat = k + j by omega, show (-(((k + j : Nat) : Int))).toNat = 0 by omega, Nat.pow_zero, Nat.mul_one, hm, Nat.mul_comm N]
  intro h
  have := Nat.le_of_mul_le_mul_left h Em
  omega
 ·intro i hi1 hi2
  rw [Kx]
  have hqi := (hq i (by omega)).1
  obtain ⟨d, hd⟩ : ∃ d, k + j - i = j + 1 + d := ⟨k - 1 - i, by omega⟩
  rw [hd] at hqi
  have hne : N % 10 ^ (j + 1 + d) ≠ 0 := by
   intro h
   have h1 : 10 ^ (j + 1) ∣ N := Nat.dvd_trans ⟨10 ^ d, by rw [Nat.pow_add]⟩ (Nat.dvd_of_mod_eq_zero h)
   obtain ⟨f, hf⟩ := h1
   rw [e, Nat.pow_succ, Nat.mul_comm c, Nat.mul_assoc] at hf
   have := Nat.eq_of_mul_eq_mul_left (Aq j) hf
   omega
  have hdm := Nat.div_add_mod N (10 ^ (j + 1 + d))
  have hml := Nat.mod_lt N (Aq (j + 1 + d))
  constructor
  ·unfold Mg
   rw [decide_eq_false_iff_not, hqi, sh _ i (by omega), hd]
   have hW : N / 10 ^ (j + 1 + d) * 10 ^ (j + 1 + d) ≤ N - 1 := by
    rw [Nat.mul_comm]
    omega
   obtain ⟨f1, f2⟩ := Ou (N := N - 1) (by omega) hK
   rw [← hbig] at f1
   refine Zh (s := fl (N - 1)) hr (D1.1 ?_) ?_
   ·rw [f1, hm]
    exact Nat.mul_lt_mul_of_pos_right (by omega) Em
   ·rw [f1]
    exact Nat.mul_le_mul_right _ hW
  ·unfold Hh
   rw [decide_eq_false_iff_not, hqi, sh _ i (by omega), hd]
   have hW : N + 1 ≤ (N / 10 ^ (j + 1 + d) + 1) * 10 ^ (j + 1 + d) := by
    rw [Nat.add_mul, Nat.one_mul, Nat.mul_comm]
    omega
   obtain ⟨s, hs⟩ : ∃ s, Ac s = (N + 1) * big := by
    rcases Nat.lt_or_ge (N + 1) 9007199254740992 with h | h
    ·exact Ox (j := K) (by rw [hbig]) h
    ·have : N + 1 = 9007199254740992 := by omega
     rw [this]
     refine Ox (M := 1) (j := 53 + K) ?_ (by omega)
     rw [hbig, Nat.pow_add, Nat.one_mul]
   refine Xz (s := s) hr (D1.1 ?_) ?_
   ·rw [hs, hm]
    exact Nat.mul_lt_mul_of_pos_right (by omega) Em
   ·rw [hs]
    exact Nat.mul_le_mul_right _ hW
 ·unfold cnd
  rw [hlow, hnear, hqk.1]
  simp
end
section
theorem Oq {M k D : Nat} (x u : Nat) (a1 : 4503599627370496 ≤ M) (a2 : M < 9007199254740992) (hx : x = k * 4503599627370496 + M) (h2 : x < 9218868437227405312) (hD : D ≤ k) (hu : u = (k - D) * 4503599627370496 + M) (w : World) :
  Cq 224 #[.float .f64 x, .int .i64 (-(D : Int))] (.float .f64 u) w := by
 have h1 : 4503599627370496 ≤ x := by omega
 obtain ⟨p1, p2, p3⟩ := Dj (x := x) (by omega)
 have C1 := Lh (fun W => Bn x W)
 have C2 := Lh (fun W => Dy x W (by omega))
 rw [show Bh x = false from by unfold Bh; rw [p1]; exact decide_eq_false (by omega)] at C1
 rw [show Ee x = false from by unfold Ee; rw [p1]; exact decide_eq_false (by omega)] at C2
 have C3 := Lh (fun W => Fa x W h1 h2)
 have h3 := Fd x
 rw [p1, decide_eq_false (by omega)] at h3
 have h5 := Av x w
 have h6 := Hz x (by omega)
 obtain ⟨t, ht2⟩ : ∃ t, M = 4503599627370496 + t := ⟨M - 4503599627370496, by omega⟩
 rw [show x % 4503599627370496 = t by omega] at h6
 have h7 := Fu (k + 1) (by omega)
 obtain ⟨Q, hQ⟩ : ∃ Q, k + 1 - D = Q := ⟨_, rfl⟩
 have h8 := Lq t Q (by omega) (by omega)
 have e8 : t + Q * 4503599627370496 = u := by
  rw [hu, ht2, ← hQ, show k + 1 - D = (k - D) + 1 by omega]; omega
 rw [e8] at h8
 have h9 := Bl u w
 have h10 := one_mul (y := u) (by omega) (by omega)
 have h11 : (binOp BinOp.mul 22 (.float .f64 4607182418800017408) (.float .f64 u)).run Tryz.prog w = .ok (.float .f64 u) w := run_float_arith _ _ _ _ _ _ _ h10
 have k1 : (x : Int) / 4503599627370496 = ((k + 1 : Nat) : Int) := by omega
 have k2 : IntKind.i64.wrap ((k + 1 : Nat) : Int) = ((k + 1 : Nat) : Int) := IntWalk.i64_in _ (by omega)
 have k3 : IntKind.i64.wrap (((k + 1 : Nat) : Int) - 1023) = (k : Int) - 1022 := by rw [IntWalk.i64_in _ (by omega)]; omega
 obtain ⟨X0, hX0⟩ : ∃ X0, -(D : Int) = X0 := ⟨_, rfl⟩
 have k4 : IntKind.i64.wrap X0 = X0 := IntWalk.i64_in _ (by omega)
 have k4' : IntKind.i64.wrap (X0 + 0) = X0 := by rw [Int.add_zero]; exact k4
 have k5 : IntKind.i64.wrap (X0 + ((k : Int) - 1022)) = (Q : Int) - 1023 := by rw [IntWalk.i64_in _ (by omega)]; omega
 have k6 : IntKind.i64.wrap ((Q : Int) - 1023 + 1023) = (Q : Int) := by rw [IntWalk.i64_in _ (by omega)]; omega
 have k7 : IntKind.u64.wrap (Q : Int) = (Q : Int) := by rw [IntKind.wrap_u64]; omega
 have k8 : IntKind.u64.wrap ((Q : Int) * 4503599627370496) = ((Q * 4503599627370496 : Nat) : Int) := by rw [IntKind.wrap_u64]; omega
 have t1 : decide ((Q : Int) - 1023 < -1075) = false := decide_eq_false (by omega)
 have t2 : decide (1023 < (Q : Int) - 1023) = false := decide_eq_false (by omega)
 have t3 : decide ((Q : Int) - 1023 < -1022) = false := decide_eq_false (by omega)
 obtain ⟨q, hq⟩ : ∃ q, k + 1 = q := ⟨_, rfl⟩
 obtain ⟨X1, hX1⟩ : ∃ X1, (k : Int) - 1022 = X1 := ⟨_, rfl⟩
 obtain ⟨X3, hX3⟩ : ∃ X3, (Q : Int) - 1023 = X3 := ⟨_, rfl⟩
 rw [hq] at h7 k1 k2 k3
 rw [hX1] at k3 k5
 rw [hX3] at k5 k6 t1 t2 t3
 rw [hX0]
 rw [← k8] at h8
 clear h1 h2 hx a1 a2 hD hu p1 p2 p3 ht2 hQ e8 h10 k8 hq hX1 hX0 hX3
 go_enter Tryz.func224, Tryz.ntmps224
 go_wp2_with fail
 refine Sm (C2.out _) ?_
 go_wp2_with fail
 refine Sm (C1.out _) ?_
 go_wp2_with fail
 refine Sm (C3.out _) ?_
 go_wp2
 go_ret
 exact ⟨rfl, rfl⟩
theorem Ow {M k D : Nat} (x v r : Nat) (a1 : 4503599627370496 ≤ M) (a2 : M < 9007199254740992) (hx : x = k * 4503599627370496 + M) (h2 : x < 9218868437227405312) (hD : k < D) (hD2 : D ≤ k + 52) (hv : v = (k + 53 - D) * 4503599627370496 + M) (hr : Ieee.double.mul 4368491638549381120 v = some r) (w : World) :
  Cq 224 #[.float .f64 x, .int .i64 (-(D : Int))] (.float .f64 r) w := by
 have h1 : 4503599627370496 ≤ x := by omega
 obtain ⟨p1, p2, p3⟩ := Dj (x := x) (by omega)
 have C1 := Lh (fun W => Bn x W)
 have C2 := Lh (fun W => Dy x W (by omega))
 rw [show Bh x = false from by unfold Bh; rw [p1]; exact decide_eq_false (by omega)] at C1
 rw [show Ee x = false from by unfold Ee; rw [p1]; exact decide_eq_false (by omega)] at C2
 have C3 := Lh (fun W => Fa x W h1 h2)
 have h3 := Fd x
 rw [p1, decide_eq_false (by omega)] at h3
 have h5 := Av x w
 have h6 := Hz x (by omega)
 obtain ⟨t, ht2⟩ : ∃ t, M = 4503599627370496 + t := ⟨M - 4503599627370496, by omega⟩
 rw [show x % 4503599627370496 = t by omega] at h6
 have h7 := Fu (k + 1) (by omega)
 obtain ⟨Q, hQ⟩ : ∃ Q, k + 54 - D = Q := ⟨_, rfl⟩
 have h8 := Lq t Q (by omega) (by omega)
 have e8 : t + Q * 4503599627370496 = v := by
  rw [hv, ht2, ← hQ, show k + 54 - D = (k + 53 - D) + 1 by omega]; omega
 rw [e8] at h8
 have h9 := Bl v w
 have h11 : (binOp BinOp.mul 22 (.float .f64 4368491638549381120) (.float .f64 v)).run Tryz.prog w = .ok (.float .f64 r) w := run_float_arith _ _ _ _ _ _ _ hr
 have k1 : (x : Int) / 4503599627370496 = ((k + 1 : Nat) : Int) := by omega
 have k2 : IntKind.i64.wrap ((k + 1 : Nat) : Int) = ((k + 1 : Nat) : Int) := IntWalk.i64_in _ (by omega)
 have k3 : IntKind.i64.wrap (((k + 1 : Nat) : Int) - 1023) = (k : Int) - 1022 := by rw [IntWalk.i64_in _ (by omega)]; omega
 obtain ⟨X0, hX0⟩ : ∃ X0, -(D : Int) = X0 := ⟨_, rfl⟩
 have k4 : IntKind.i64.wrap X0 = X0 := IntWalk.i64_in _ (by omega)
 have k4' : IntKind.i64.wrap (X0 + 0) = X0 := by rw [Int.add_zero]; exact k4
 have k5 : IntKind.i64.wrap (X0 + ((k : Int) - 1022)) = (Q : Int) - 1076 := by rw [IntWalk.i64_in _ (by omega)]; omega
 have k9 : IntKind.i64.wrap ((Q : Int) - 1076 + 53) = (Q : Int) - 1023 := by rw [IntWalk.i64_in _ (by omega)]; omega
 have k6 : IntKind.i64.wrap ((Q : Int) - 1023 + 1023) = (Q : Int) := by rw [IntWalk.i64_in _ (by omega)]; omega
 have k7 : IntKind.u64.wrap (Q : Int) = (Q : Int) := by rw [IntKind.wrap_u64]; omega
 have k8 : IntKind.u64.wrap ((Q : Int) * 4503599627370496) = ((Q * 4503599627370496 : Nat) : Int) := by rw [IntKind.wrap_u64]; omega
 have t1 : decide ((Q : Int) - 1076 < -1075) = false := decide_eq_false (by omega)
 have t2 : decide (1023 < (Q : Int) - 1076) = false := decide_eq_false (by omega)
 have t3 : decide ((Q : Int) - 1076 < -1022) = true := decide_eq_true (by omega)
 obtain ⟨q, hq⟩ : ∃ q, k + 1 = q := ⟨_, rfl⟩
 obtain ⟨X1, hX1⟩ : ∃ X1, (k : Int) - 1022 = X1 := ⟨_, rfl⟩
 obtain ⟨X3, hX3⟩ : ∃ X3, (Q : Int) - 1076 = X3 := ⟨_, rfl⟩
 obtain ⟨X4, hX4⟩ : ∃ X4, (Q : Int) - 1023 = X4 := ⟨_, rfl⟩
 rw [hq] at h7 k1 k2 k3
 rw [hX1] at k3 k5
 rw [hX3] at k5 k9 t1 t2 t3
 rw [hX4] at k9 k6
 rw [hX0]
 rw [← k8] at h8
 clear h1 h2 hx a1 a2 hD hD2 hv hr p1 p2 p3 ht2 hQ e8 k8 hq hX1 hX0 hX3 hX4
 go_enter Tryz.func224, Tryz.ntmps224
 go_wp2_with fail
 refine Sm (C2.out _) ?_
 go_wp2_with fail
 refine Sm (C1.out _) ?_
 go_wp2_with fail
 refine Sm (C3.out _) ?_
 go_wp2
 go_ret
 exact ⟨rfl, rfl⟩
theorem Ti {y D u : Nat} (h0 : 4503599627370496 ≤ y) (hy : y < 9218868437227405312) (hu0 : 0 < u) (h : Ac u * 2 ^ D = Ac y) (w : World) :
  Cq 224 #[.float .f64 y, .int .i64 (-(D : Int))] (.float .f64 u) w := by
 obtain ⟨M, k, a1, a2, a3, a4⟩ := Du h0
 have hu1 := F3.2 hu0
 have huy : u ≤ y := by
  rcases Nat.lt_or_ge y u with h1 | h1
  ·have h2 := Bf h1
   have h3 : Ac u * 1 ≤ Ac u * 2 ^ D := Nat.mul_le_mul_left _ (Nat.two_pow_pos D)
   omega
  ·exact h1
 by_cases hDk : D ≤ k
 ·refine Oq y u a1 a2 a3 hy hDk ?_ w
  refine Gb ?_
  rw [Ap _ _ a1 a2]
  refine (Db (x := M) (a := k - D) (b := D) (y := Ac u) ?_).symm
  rw [show k - D + D = k by omega, ← a4, h]
 ·obtain ⟨j, rfl⟩ : ∃ j, D = k + j := ⟨D - k, by omega⟩
  have hM : Ac u * 2 ^ j = M := by
   refine Db (x := Ac u) (a := j) (b := k) (y := M) ?_
   rw [Nat.add_comm j k, h, a4]
  have hj : j < 53 := by
   have h3 : 1 * 2 ^ j ≤ Ac u * 2 ^ j := Nat.mul_le_mul_right _ hu1
   have h6 : 2 ^ j < 2 ^ 53 := by have : (2 : Nat) ^ 53 = 9007199254740992 := rfl; omega
   exact (Nat.pow_lt_pow_iff_right (a := 2) (by omega)).1 h6
  refine Ow y ((k + 53 - (k + j)) * 4503599627370496 + M) u a1 a2 a3 hy (by omega) (by omega) rfl ?_ w
  obtain ⟨J, hJ⟩ : ∃ J : Nat, J = 969 := ⟨_, rfl⟩
  obtain ⟨L, hL⟩ : ∃ L : Nat, L = 1074 := ⟨_, rfl⟩
  have e1 := Ap 4503599627370496 J (by omega) (by omega)
  rw [show J * 4503599627370496 + 4503599627370496 = 4368491638549381120 by rw [hJ]] at e1
  refine Ik (K := L) (by omega) (by omega) (by omega) hL ?_
  rw [e1, Ap _ _ a1 a2, ← hM, show (4503599627370496 : Nat) = 2 ^ 52 from rfl, ← Nat.pow_add, Nat.mul_comm, Nat.mul_assoc, Nat.mul_assoc, ← Nat.pow_add, ← Nat.pow_add, show j + (k + 53 - (k + j) + (52 + J)) = L by omega]
theorem Ud {y D u : Nat} (h0 : 4503599627370496 ≤ y) (hy : y < 9218868437227405312) (hu0 : 0 < u) (h : Ac u * 2 ^ D = Ac y) (w : World) :
  Cq 179 #[.float .f64 y, .int .i64 (-(D : Int))] (.float .f64 u) w := by
 have C := Lh (Ti h0 hy hu0 h w)
 obtain ⟨X, hX⟩ : ∃ X, -(D : Int) = X := ⟨_, rfl⟩
 rw [hX] at C ⊢
 clear h0 hy hu0 h hX
 go_enter Tryz.func179, Tryz.ntmps179
 go_wp2_with fail
 refine C.out.mono ?_
 rintro e w' ⟨rfl, rfl⟩
 go_wp2
 go_ret
 exact ⟨rfl, rfl⟩
theorem Vq {N K : Nat} (h : N ≤ 9007199254740992) (hK : K = 1074) : fl N < 9218868437227405312 ∧ Ac (fl N) = N * 2 ^ K := by
 rcases Nat.eq_or_lt_of_le h with h1 | h1
 ·rw [h1, show fl 9007199254740992 = 4845873199050653696 by decide +kernel]
  refine ⟨by omega, ?_⟩
  obtain ⟨d, hd⟩ : ∃ d : Nat, d = 1075 := ⟨_, rfl⟩
  have := Ap 4503599627370496 d (by omega) (by omega)
  rw [show d * 4503599627370496 + 4503599627370496 = 4845873199050653696 by omega] at this
  rw [this, show d = K + 1 by omega, Nat.pow_succ, Nat.mul_comm (2 ^ K) 2, ← Nat.mul_assoc]
 ·obtain ⟨a, b⟩ := Ou h1 hK
  exact ⟨b, a⟩
theorem Xi {D E : Nat} (hE : E ≤ 9007199254740992) (hD : D = 0 ∨ 4503599627370496 ≤ E) : Ac (D * 4503599627370496 + E) = E * 2 ^ D := by
 rcases Nat.eq_or_lt_of_le hE with h | h
 ·rw [h, show D * 4503599627370496 + 9007199254740992 = (D + 1) * 4503599627370496 + 4503599627370496 by omega, Ap _ _ (by omega) (by omega), Nat.pow_succ, Nat.mul_comm (2 ^ D) 2, ← Nat.mul_assoc]
 ·rcases hD with h0 | h0
  ·rw [h0, Nat.zero_mul, Nat.zero_add, Nat.pow_zero, Nat.mul_one]; exact Dl h
  ·exact Ap _ _ h0 h
theorem Aec {E D : Nat} {e' : Int} (hE : E ≤ 9007199254740992) (hD : D = 0 ∨ 4503599627370496 ≤ E) (hD2 : D ≤ 2045) (he : e' = (D : Int) - 1074) (w : World) : Cq 179 #[.float .f64 (fl E), .int .i64 e'] (.float .f64 (min (D * 4503599627370496 + E) 9218868437227405312)) w := by
 obtain ⟨K, hK⟩ : ∃ K : Nat, K = 1074 := ⟨_, rfl⟩
 obtain ⟨y1, y2⟩ := Vq hE hK
 have hmk := Xi hE hD
 rcases Nat.eq_zero_or_pos E with h0 | h0
 ·subst h0
  have : D = 0 := by omega
  subst this
  rw [Vv]
  exact Kp e' w
 ·have hy0 : 0 < fl E := F3.1 (by rw [y2]; exact Nat.mul_pos h0 (Nat.two_pow_pos K))
  have hyn : 4503599627370496 ≤ fl E := by
   rcases Nat.lt_or_ge (fl E) 4503599627370496 with h | h
   ·have h1 := Dl (r := fl E) (by omega)
    rw [y2] at h1
    have h2 : 1 * 2 ^ K ≤ E * 2 ^ K := Nat.mul_le_mul_right _ h0
    have h3 : 2 ^ 60 ≤ 2 ^ K := Nat.pow_le_pow_right (by omega) (by omega)
    have h4 : (2 : Nat) ^ 60 = 1152921504606846976 := by decide
    omega
   ·exact h
  rcases Nat.lt_or_ge (D * 4503599627370496 + E) 9218868437227405312 with h | h
  ·rw [Nat.min_eq_left (by omega)]
   rcases Nat.lt_or_ge D K with h1 | h1
   ·obtain ⟨j, hj⟩ : ∃ j, K = D + j := ⟨K - D, by omega⟩
    have := Ud (y := fl E) (D := j) (u := D * 4503599627370496 + E) hyn y1 (by omega) (by rw [hmk, y2, hj, Nat.pow_add, Nat.mul_assoc]) w
    rw [show e' = -(j : Int) by omega]
    exact this
   ·obtain ⟨j, hj⟩ : ∃ j, D = K + j := ⟨D - K, by omega⟩
    have := Yh (y := fl E) (D := j) (u := D * 4503599627370496 + E) hy0 y1 h (by rw [hmk, y2, hj, Nat.pow_add, Nat.mul_assoc]) w
    rw [show e' = (j : Int) by omega]
    exact this
  ·rw [Nat.min_eq_right h]
   have hD3 : D = 2045 := by omega
   have hE3 : E = 9007199254740992 := by omega
   have := Im (fl E) 971 w hyn y1 (by omega)
   rw [show scl (fl E) 971 = 9218868437227405312 from by rw [hE3, show fl 9007199254740992 = 4845873199050653696 by decide +kernel]; decide] at this
   rw [show e' = ((971 : Nat) : Int) by omega]
   exact this
end
section
structure NV (w : World) (A : Option Addr) (n c v : Nat) : Prop where
 len : (wds v).length = n
 cap : n ≤ c
 row : RW w w.heap.size A (wds v)
theorem NV.step {w w' : World} {A : Option Addr} {n c v : Nat} (h : NV w A n c v) (hb : Below w.heap.size w w') : NV w' A n c v := ⟨h.len, h.cap, h.row.step hb⟩
def bln (v : Nat) : Nat := btl (wds v)
theorem Afc {v : Nat} (h : 0 < v) : nrm (wds v) ≠ [] := by
 intro e
 have := Kr e
 rw [Ao] at this
 omega
theorem A9 {v : Nat} (h : 0 < v) : 2 ^ (bln v - 1) ≤ v ∧ v < 2 ^ bln v ∧ 0 < bln v := by
 have := Ev (Ey v) (Afc h)
 rw [Ao] at this
 exact this
theorem Hw : bln 0 = 0 := by decide
theorem E7 {v L : Nat} (h : v < 2 ^ L) : bln v ≤ L := by
 rcases Nat.eq_zero_or_pos v with h0 | h0
 ·rw [h0, Hw]; omega
 ·have h1 := (A9 h0).1
  have h2 := (Nat.pow_lt_pow_iff_right (a := 2) (by omega)).1 (Nat.lt_of_le_of_lt h1 h)
  omega
theorem Aca {v L : Nat} (h : v < 2 ^ (32 * L)) : (wds v).length ≤ L := by
 refine Cf ?_
 rw [show (4294967296 : Nat) = 2 ^ 32 from rfl, ← Nat.pow_mul]
 exact h
theorem Bw {v : Nat} (h : bln v ≤ 30000) : (wds v).length ≤ 940 := by
 obtain ⟨L, hL⟩ : ∃ L : Nat, L = 940 := ⟨_, rfl⟩
 rw [← hL]
 rcases Nat.eq_zero_or_pos v with h0 | h0
 ·rw [h0]; show 0 ≤ L; omega
 ·exact Aca (Nat.lt_of_lt_of_le (A9 h0).2.1 (Nat.pow_le_pow_right (by omega) (by omega)))
theorem B9 {v : Nat} (h : bln v ≤ 30000) : Ah v = false := by
 unfold Ah
 have := Bw h
 exact decide_eq_false (by omega)
theorem Gj (a b : Nat) : bln (a * b) ≤ bln a + bln b := by
 rcases Nat.eq_zero_or_pos a with h0 | h0
 ·rw [h0, Nat.zero_mul, Hw]; omega
 rcases Nat.eq_zero_or_pos b with h1 | h1
 ·rw [h1, Nat.mul_zero, Hw]; omega
 ·refine E7 ?_
  rw [Nat.pow_add]
  exact Nat.mul_lt_mul'' (A9 h0).2.1 (A9 h1).2.1
theorem Ex {a b : Nat} (h : a ≤ b) : bln a ≤ bln b := by
 rcases Nat.eq_zero_or_pos b with h0 | h0
 ·have : a = 0 := by omega
  rw [this, h0]; omega
 ·exact E7 (Nat.lt_of_le_of_lt h (A9 h0).2.1)
theorem Lg (k : Nat) : bln (2 ^ k) ≤ k + 1 := E7 (by rw [Nat.pow_succ]; have := Nat.two_pow_pos k; omega)
theorem Oh (b k : Nat) : bln (b ^ k) ≤ bln b * k + 1 := by
 rcases Nat.eq_zero_or_pos b with h0 | h0
 ·cases k with
  | zero => rw [Nat.pow_zero, show bln 1 = 1 by decide]; omega
  | succ k => rw [h0, Nat.zero_pow (by omega), Hw]; omega
 ·refine E7 ?_
  have h1 := (A9 h0).2.1
  have h2 : b ^ k ≤ (2 ^ bln b) ^ k := Nat.pow_le_pow_left (Nat.le_of_lt h1) k
  rw [← Nat.pow_mul] at h2
  rw [Nat.pow_succ]
  have := Nat.two_pow_pos (bln b * k)
  omega
theorem Fv (k : Nat) : bln (5 ^ k) ≤ 3 * k + 1 := by have := Oh 5 k; rw [show bln 5 = 3 by decide] at this; exact this
theorem Wl (k : Nat) : bln (10 ^ k) ≤ 4 * k + 1 := by have := Oh 10 k; rw [show bln 10 = 4 by decide] at this; exact this
/-! ### The program's functions -/
def NOk (v : Nat) (w : World) (e : Ending) (w' : World) : Prop := ∃ A n c, e = .returned (.tuple #[.slice A n c, .int .i64 0]) ∧ NV w' A n c v ∧ Below w.heap.size w w'
theorem NOk.of {v : Nat} {w w' : World} {e : Ending} (hl : Ah v = false) (h : NatPost v w e w') : NOk v w e w' := by
 obtain ⟨A, n, c, k, he, hp, hb⟩ := h
 rw [if_neg (by rw [hl]; simp)] at hp
 obtain ⟨h1, h2, h3, h4⟩ := hp
 subst h3
 exact ⟨A, n, c, he, ⟨h1.symm, h2, h4⟩, hb⟩
theorem Ahx {w : World} {A C : Option Addr} {n c m d a b : Nat} (hA : NV w A n c a) (hB : NV w C m d b) (ha : bln a ≤ 15000) (hb : bln b ≤ 15000) :
  Cp 227 #[.slice A n c, .slice C m d] w (NOk (a * b) w) := by
 have la := B9 (v := a) (by omega)
 have lb := B9 (v := b) (by omega)
 have lab := B9 (v := a * b) (Nat.le_trans (Gj a b) (by omega))
 have h1 := Bw (v := a) (by omega)
 have h2 := Bw (v := b) (by omega)
 rw [hA.len] at h1
 rw [hB.len] at h2
 have := Adz A C n c m d (wds a) (wds b) w hA.len hA.cap (by omega) hA.row hB.len hB.cap (by omega) hB.row
 rw [Ao, Ao] at this
 refine this.mono fun e w' x => ?_
 unfold Ju at x
 rw [if_neg (by rw [la, lb]; simp)] at x
 exact NOk.of lab x
theorem Ah1 (b n : Nat) (w : World) (hb : b < 4294967296) (hl : bln (b ^ n) ≤ 30000) (hn : n < 100000) : Cp 226 #[.int .u32 b, .int .i64 n] w (NOk (b ^ n) w) :=
 (Aep b n w hb (by omega)).mono fun e w' x => NOk.of (B9 hl) x
theorem Agf {w : World} {A : Option Addr} {n c a : Nat} (hA : NV w A n c a) (p : Nat) (ha : bln a + p ≤ 29000) : Cp 201 #[.slice A n c, .int .i64 p] w (NOk (a * 2 ^ p) w) := by
 have la := B9 (v := a) (by omega)
 have h1 := Bw (v := a) (by omega)
 rw [hA.len] at h1
 have hp := Lg p
 have lab := B9 (v := a * 2 ^ p) (Nat.le_trans (Gj a _) (by omega))
 have := Abn A n c p (wds a) w hA.len hA.cap (by omega) hA.row
 rw [Ao] at this
 refine this.mono fun e w' x => ?_
 unfold Qm at x
 rw [if_neg (by rw [la]; simp), if_neg (by omega), Int.toNat_natCast] at x
 exact NOk.of lab x
theorem Ahv {w : World} {A C : Option Addr} {n c m d a b : Nat} (hA : NV w A n c a) (hB : NV w C m d b) (ha : bln (a + b) ≤ 30000) :
  Cp 203 #[.slice A n c, .slice C m d] w (NOk (a + b) w) := by
 have b1 := Ex (show a ≤ a + b by omega)
 have b2 := Ex (show b ≤ a + b by omega)
 have la := B9 (v := a) (by omega)
 have lb := B9 (v := b) (by omega)
 have h1 := Bw (v := a) (by omega)
 have h2 := Bw (v := b) (by omega)
 rw [hA.len] at h1
 rw [hB.len] at h2
 have := Aeq A C n c m d (wds a) (wds b) w hA.len hA.cap (by omega) hA.row hB.len hB.cap (by omega) hB.row
 rw [Ao, Ao] at this
 refine this.mono fun e w' x => ?_
 unfold Adw at x
 rw [if_neg (by rw [la, lb]; simp)] at x
 exact NOk.of (B9 ha) x
theorem Ah2 {w : World} {A C : Option Addr} {n c m d a b : Nat} (hA : NV w A n c a) (hB : NV w C m d b) (ha : bln a ≤ 30000) (hle : b ≤ a) :
  Cp 202 #[.slice A n c, .slice C m d] w (NOk (a - b) w) := by
 have b2 := Ex hle
 have b3 := Ex (show a - b ≤ a by omega)
 have la := B9 (v := a) (by omega)
 have lb := B9 (v := b) (by omega)
 have h1 := Bw (v := a) (by omega)
 have h2 := Bw (v := b) (by omega)
 rw [hA.len] at h1
 rw [hB.len] at h2
 have := Aeb A C n c m d (wds a) (wds b) w hA.len hA.cap (by omega) hA.row hB.len hB.cap (by omega) hB.row
 rw [Ao, Ao] at this
 refine this.mono fun e w' x => ?_
 unfold Aat at x
 rw [if_neg (by rw [la, lb]; simp), if_neg (by omega)] at x
 exact NOk.of (B9 (by omega)) x
def DOk (a b : Nat) (w : World) (e : Ending) (w' : World) : Prop := ∃ A n c C m d, e = .returned (.tuple #[.slice A n c, .slice C m d, .int .i64 0]) ∧ NV w' A n c (a / b) ∧ NV w' C m d (a % b) ∧ Below w.heap.size w w'
theorem Ahz {w : World} {A C : Option Addr} {n c m d a b : Nat} (hA : NV w A n c a) (hB : NV w C m d b) (ha : bln a ≤ 30000) (hb : bln b ≤ 30000) (h0 : 0 < b) :
  Cp 228 #[.slice A n c, .slice C m d] w (DOk a b w) := by
 have la := B9 (v := a) (by omega)
 have lb := B9 (v := b) (by omega)
 have h1 := Bw (v := a) (by omega)
 have h2 := Bw (v := b) (by omega)
 rw [hA.len] at h1
 rw [hB.len] at h2
 have := Ady A C n c m d (wds a) (wds b) w hA.len hA.cap (by omega) hA.row hB.len hB.cap (by omega) hB.row
 rw [Ao, Ao] at this
 refine this.mono fun e w' x => ?_
 have hlb : (Ah a || Ah b) = false := by rw [la, lb]; rfl
 obtain ⟨A2, n2, c2, C2, m2, d2, he, ⟨x1, x2, x3, x4, x5, x6⟩, hbw⟩ := x
 have hB2 := N5 hlb h0
 unfold Iu at x1 x5
 unfold It at x3 x6
 rw [if_pos hB2] at x1 x5 x3 x6
 have hk : Fy a b = 0 := by unfold Fy; rw [if_neg (by rw [hlb]; simp), if_neg (by omega)]
 rw [hk] at he
 exact ⟨A2, n2, c2, C2, m2, d2, he, ⟨x1.symm, x2, x5⟩, ⟨x3.symm, x4, x6⟩, hbw⟩
theorem Ve {w : World} {A : Option Addr} {n c a : Nat} (hA : NV w A n c a) (ha : bln a ≤ 30000) : Cq 176 #[.slice A n c] (.int .i64 (bln a : Nat)) w := by
 have h1 := Bw (v := a) (by omega)
 rw [hA.len] at h1
 exact Eu A n c (wds a) w.heap.size w hA.len hA.cap (by omega) hA.row
def NRet (v : Nat) (w : World) (e : Ending) (w' : World) : Prop := ∃ A n c, e = .returned (.slice A n c) ∧ NV w' A n c v ∧ Below w.heap.size w w'
theorem NRet.of {v : Nat} {w w' : World} {e : Ending} (h : SlPost (wds v) w e w') : NRet v w e w' := by
 obtain ⟨V, he, ⟨A, c, hv, hc, hr⟩, hb⟩ := h
 subst hv
 exact ⟨A, _, c, he, ⟨rfl, hc, hr⟩, hb⟩
theorem nof (n : Nat) (hn : n < 18446744073709551616) (w : World) : Cp 187 #[.int .u64 n] w (NRet n w) :=
 (Kl n hn w).mono fun e w' x => NRet.of (by rw [E1 n hn] at x; exact x)
/-! ### The reference's functions -/
end
section
theorem Bb {B g : Nat} {a w : World} (h : Below B a w) (hg : B ≤ g) (c : Array Value) : Below B a (w.setRow g c) :=
 ⟨h.os, h.tape, h.output, by rw [setRow_size]; exact h.size, fun k hk => (setRow_other w g k c (by omega)).trans (h.block k hk)⟩
theorem Bd {fn : Func} {p t u : Tmp} {ty : TypeId} (h : fn.results = #[.cell p ty, .tmp t, .tmp u]) (tmps : Array Value) (P : Program) (w : World) (a : Addr) (v : Value) (ha : tmps.getD p undef = .pointer (some a)) (hl : (loadVar ty a).run P w = .ok v w) :
  (results fn tmps).run P w = .ok (.tuple #[v, tmps.getD t undef, tmps.getD u undef]) w := by
 simp only [results, h]
 simp [-Array.getD_eq_getD_getElem?, ha, asAddr, hl]
def Rc (w : World) (g : Nat) (a b c : Value) : Prop := w.heap[g]? = some (.cells #[a, b, c] 102 (0, 0))
theorem Rc.cells {w : World} {g : Nat} {a b c : Value} (h : Rc w g a b c) : w.cell? ⟨g, 0, none⟩ = some a ∧ w.cell? ⟨g, 1, none⟩ = some b ∧ w.cell? ⟨g, 2, none⟩ = some c ∧ (∀ k, w.frozen? ⟨g, k, none⟩ = false) := by
 unfold Rc at h
 refine ⟨by simp [World.cell?, h], by simp [World.cell?, h], by simp [World.cell?, h], fun k => by simp [World.frozen?, h]⟩
theorem Rc.below {w w' : World} {g B : Nat} {a b c : Value} (h : Rc w g a b c) (hb : Below B w w') (hg : g < B) : Rc w' g a b c := (hb.block g hg).trans h
theorem Rc.set0 {w : World} {g : Nat} {a b c : Value} (h : Rc w g a b c) (v : Value) : Rc (w.setCell ⟨g, 0, none⟩ v) g v b c := by
 have := heap_setCell_same w g 0 _ _ v h
 exact this
theorem Rc.set1 {w : World} {g : Nat} {a b c : Value} (h : Rc w g a b c) (v : Value) : Rc (w.setCell ⟨g, 1, none⟩ v) g a v c := by
 have := heap_setCell_same w g 1 _ _ v h
 exact this
theorem Rc.set2 {w : World} {g : Nat} {a b c : Value} (h : Rc w g a b c) (v : Value) : Rc (w.setCell ⟨g, 2, none⟩ v) g a b v := by
 have := heap_setCell_same w g 2 _ _ v h
 exact this
theorem Rc.other {w : World} {g k i : Nat} {a b c v : Value} (h : Rc w g a b c) (hk : g ≠ k) : Rc (w.setCell ⟨k, i, none⟩ v) g a b c := (heap_setCell_other w ⟨k, i, none⟩ g v hk).trans h
def zs : Value := .string ⟨#[]⟩
structure Rd (W w : World) (a b c : Value) : Prop where
 lo : Rc w W.heap.size zs zs (.int .i64 0)
 hi : Rc w (W.heap.size + 1) a b c
 bw : Below W.heap.size W w
 sz : W.heap.size + 2 ≤ w.heap.size
theorem Rd.start (W : World) : Rd W ((W.alloc (.cells #[zs, zs, .int .i64 0] 102)).alloc (.cells #[zs, zs, .int .i64 0] 102)) zs zs (.int .i64 0) := by
 obtain ⟨V, hV⟩ : ∃ V, W.alloc (.cells #[zs, zs, .int .i64 0] 102) = V := ⟨_, rfl⟩
 have hs : V.heap.size = W.heap.size + 1 := by rw [← hV]; simp
 have h1 : Rc V W.heap.size zs zs (.int .i64 0) := by rw [← hV]; exact heap_alloc_last W _
 have b1 : Below W.heap.size W V := by rw [← hV]; exact (Below.refl _ _).alloc (Nat.le_refl _) _
 have b2 : Below V.heap.size V (V.alloc (.cells #[zs, zs, .int .i64 0] 102)) := (Below.refl _ _).alloc (Nat.le_refl _) _
 rw [hV]
 refine ⟨h1.below b2 (by omega), ?_, Aa b1 b2, by simp; omega⟩
 rw [← hs]
 exact heap_alloc_last V _
theorem Rd.step {W w w' : World} {a b c : Value} (h : Rd W w a b c) (hb : Below w.heap.size w w') : Rd W w' a b c :=
 ⟨h.lo.below hb (by have := h.sz; omega), h.hi.below hb (by have := h.sz; omega), Aa h.bw hb, Nat.le_trans h.sz hb.size⟩
theorem Rd.put0 {W w : World} {a b c : Value} (h : Rd W w a b c) (v : Value) : Rd W (w.setCell ⟨W.heap.size + 1, 0, none⟩ v) v b c :=
 ⟨h.lo.other (by omega), h.hi.set0 v, h.bw.setCell (by show W.heap.size ≤ W.heap.size + 1; omega) _, by simp only [World.setCell, Array.size_modify]; exact h.sz⟩
theorem Rd.put1 {W w : World} {a b c : Value} (h : Rd W w a b c) (v : Value) : Rd W (w.setCell ⟨W.heap.size + 1, 1, none⟩ v) a v c :=
 ⟨h.lo.other (by omega), h.hi.set1 v, h.bw.setCell (by show W.heap.size ≤ W.heap.size + 1; omega) _, by simp only [World.setCell, Array.size_modify]; exact h.sz⟩
theorem Rd.put2 {W w : World} {a b c : Value} (h : Rd W w a b c) (v : Value) : Rd W (w.setCell ⟨W.heap.size + 1, 2, none⟩ v) a b v :=
 ⟨h.lo.other (by omega), h.hi.set2 v, h.bw.setCell (by show W.heap.size ≤ W.heap.size + 1; omega) _, by simp only [World.setCell, Array.size_modify]; exact h.sz⟩
theorem Ih (s : ByteArray) (w : World) (S1 : ByteArray)
   (C1 : Hid (∀ W, Ct 96 #[.string s, .int .i64 10] (.tuple #[.string ⟨#[]⟩, .string S1]) W))
   (C2 : Hid (∀ W, Cq 100 #[.string S1, .string ⟨#[46]⟩] (.tuple #[.string S1, .bool false]) W)) :
    Cp 102 #[.string s] w (fun e w' => e = .returned (.tuple #[.agg #[.string ⟨#[]⟩, .string ⟨#[]⟩, .int .i64 0], .string ⟨#[]⟩, .bool false]) ∧ Below w.heap.size w w') := by
  have R0 := Lh (Rd.start w)
  go_enter Tryz.func102, Tryz.ntmps102
  go_wp2_with fail
  refine Bm (C1.out _) fun w1 hb1 => ?_
  have R1 := Lh (R0.out.step hb1)
  obtain ⟨c0, c1, c2, fz⟩ := R1.out.hi.cells
  have f0 := fz 0
  clear fz hb1
  go_wp2_with fail
  refine (C2.out _).mono ?_
  rintro e w2 ⟨rfl, rfl⟩
  have R2 := Lh (R1.out.put0 (.string ⟨#[]⟩))
  generalize w1.setCell ⟨w.heap.size + 1, 0, none⟩ (.string ⟨#[]⟩) = w2 at *
  clear c0 c1 c2 f0
  obtain ⟨c0, c1, c2, fz⟩ := R2.out.hi.cells
  have f0 := fz 0
  clear fz
  unfold zs at c1
  have HG := Lh (show w2.heap[w.heap.size]? = some (.cells #[.string ⟨#[]⟩, .string ⟨#[]⟩, .int .i64 0] 102 (0, 0)) from R2.out.lo)
  have HB := Lh R2.out.bw
  go_wp2_with (first | (refine wpList_store_row rfl 102 _ _ rfl w.heap.size #[.string ⟨#[]⟩, .string ⟨#[]⟩, .int .i64 0] rfl rfl 102 #[.string ⟨#[]⟩, .string ⟨#[]⟩, .int .i64 0] HG.out (by first | kernel_rfl | rfl) rfl (by first | kernel_rfl | rfl) ?_))
  exact bodyPost_ret (Bd rfl _ _ _ _ _ rfl (run_loadVar_row _ w.heap.size 102 102 _ (0, 0) _ (setRow_heap _ _ _ _ _ _ HG.out) Tryz.underlying102 rfl (by first | kernel_rfl | rfl))) rfl ⟨rfl, Bb HB.out (Nat.le_refl _) _⟩
theorem Gn (s : ByteArray) (w : World) (Wt S1 t0 Rt : ByteArray) (X : Int) (n2 : Wt.toList.isEmpty = false)
   (C1 : Hid (∀ W, Ct 96 #[.string s, .int .i64 10] (.tuple #[.string Wt, .string S1]) W))
   (C2 : Hid (∀ W, Cq 100 #[.string S1, .string ⟨#[46]⟩] (.tuple #[.string t0, .bool false]) W))
   (C3 : Hid (∀ W, Ct 134 #[.string S1] (.tuple #[.int .i64 X, .string Rt, .bool false]) W)) :
    Cp 102 #[.string s] w (fun e w' => e = .returned (.tuple #[.agg #[.string Wt, .string ⟨#[]⟩, .int .i64 0], .string S1, .bool true]) ∧ Below w.heap.size w w') := by
  have R0 := Lh (Rd.start w)
  go_enter Tryz.func102, Tryz.ntmps102
  go_wp2_with fail
  refine Bm (C1.out _) fun w1 hb1 => ?_
  have R1 := Lh (R0.out.step hb1)
  clear hb1
  obtain ⟨c0, c1, c2, fz⟩ := R1.out.hi.cells
  have f0 := fz 0
  have f1 := fz 1
  have f2 := fz 2
  clear fz
  try unfold zs at c0
  try unfold zs at c1
  go_wp2_with fail
  refine (C2.out _).mono ?_
  rintro e w2 ⟨rfl, rfl⟩
  have R2 := Lh (R1.out.put0 (.string Wt))
  generalize w1.setCell ⟨w.heap.size + 1, 0, none⟩ (.string Wt) = w2 at *
  clear c0 c1 c2 f0 f1 f2
  obtain ⟨c0, c1, c2, fz⟩ := R2.out.hi.cells
  have f0 := fz 0
  have f1 := fz 1
  have f2 := fz 2
  clear fz
  try unfold zs at c0
  try unfold zs at c1
  go_wp2_with fail
  refine Bm (C3.out _) fun w3 hb3 => ?_
  have R3 := Lh (R2.out.step hb3)
  clear hb3 c0 c1 c2 f0 f1 f2
  obtain ⟨c0, c1, c2, fz⟩ := R3.out.hi.cells
  have f0 := fz 0
  have f1 := fz 1
  have f2 := fz 2
  clear fz
  try unfold zs at c0
  try unfold zs at c1
  have HG := Lh (show w3.heap[w.heap.size]? = some (.cells #[.string ⟨#[]⟩, .string ⟨#[]⟩, .int .i64 0] 102 (0, 0)) from R3.out.lo)
  have HB := Lh R3.out.bw
  go_wp2_with (first | (refine wpList_store_row rfl 102 _ _ rfl w.heap.size #[.string Wt, .string ⟨#[]⟩, .int .i64 0] rfl rfl 102 #[.string ⟨#[]⟩, .string ⟨#[]⟩, .int .i64 0] HG.out (by first | kernel_rfl | rfl) rfl (by first | kernel_rfl | rfl) ?_))
  exact bodyPost_ret (Bd rfl _ _ _ _ _ rfl (run_loadVar_row _ w.heap.size 102 102 _ (0, 0) _ (setRow_heap _ _ _ _ _ _ HG.out) Tryz.underlying102 rfl (by first | kernel_rfl | rfl))) rfl ⟨rfl, Bb HB.out (Nat.le_refl _) _⟩
theorem Gz (s : ByteArray) (w : World) (Wt S1 t0 Rt : ByteArray) (X : Int) (n2 : Wt.toList.isEmpty = false)
   (C1 : Hid (∀ W, Ct 96 #[.string s, .int .i64 10] (.tuple #[.string Wt, .string S1]) W))
   (C2 : Hid (∀ W, Cq 100 #[.string S1, .string ⟨#[46]⟩] (.tuple #[.string t0, .bool false]) W))
   (C3 : Hid (∀ W, Ct 134 #[.string S1] (.tuple #[.int .i64 X, .string Rt, .bool true]) W)) :
    Cp 102 #[.string s] w (fun e w' => e = .returned (.tuple #[.agg #[.string Wt, .string ⟨#[]⟩, .int .i64 X], .string Rt, .bool true]) ∧ Below w.heap.size w w') := by
  have R0 := Lh (Rd.start w)
  go_enter Tryz.func102, Tryz.ntmps102
  go_wp2_with fail
  refine Bm (C1.out _) fun w1 hb1 => ?_
  have R1 := Lh (R0.out.step hb1)
  clear hb1
  obtain ⟨c0, c1, c2, fz⟩ := R1.out.hi.cells
  have f0 := fz 0
  have f1 := fz 1
  have f2 := fz 2
  clear fz
  try unfold zs at c0
  try unfold zs at c1
  go_wp2_with fail
  refine (C2.out _).mono ?_
  rintro e w2 ⟨rfl, rfl⟩
  have R2 := Lh (R1.out.put0 (.string Wt))
  generalize w1.setCell ⟨w.heap.size + 1, 0, none⟩ (.string Wt) = w2 at *
  clear c0 c1 c2 f0 f1 f2
  obtain ⟨c0, c1, c2, fz⟩ := R2.out.hi.cells
  have f0 := fz 0
  have f1 := fz 1
  have f2 := fz 2
  clear fz
  try unfold zs at c0
  try unfold zs at c1
  go_wp2_with fail
  refine Bm (C3.out _) fun w3 hb3 => ?_
  have R3 := Lh (R2.out.step hb3)
  clear hb3 c0 c1 c2 f0 f1 f2
  obtain ⟨c0, c1, c2, fz⟩ := R3.out.hi.cells
  have f0 := fz 0
  have f1 := fz 1
  have f2 := fz 2
  clear fz
  try unfold zs at c0
  try unfold zs at c1
  have HR := Lh (R3.out.put2 (.int .i64 X))
  have HG := Lh (show (w3.setCell ⟨w.heap.size + 1, 2, none⟩ (.int .i64 X)).heap[w.heap.size]? = some (.cells #[.string ⟨#[]⟩, .string ⟨#[]⟩, .int .i64 0] 102 (0, 0)) from HR.out.lo)
  have HB := Lh HR.out.bw
  obtain ⟨d0, d1, d2, _⟩ := HR.out.hi.cells
  try unfold zs at d1
  go_wp2_with (first | (refine wpList_store_row rfl 102 _ _ rfl w.heap.size #[.string Wt, .string ⟨#[]⟩, .int .i64 X] rfl rfl 102 #[.string ⟨#[]⟩, .string ⟨#[]⟩, .int .i64 0] HG.out (by first | kernel_rfl | rfl) rfl (by first | kernel_rfl | rfl) ?_))
  exact bodyPost_ret (Bd rfl _ _ _ _ _ rfl (run_loadVar_row _ w.heap.size 102 102 _ (0, 0) _ (setRow_heap _ _ _ _ _ _ HG.out) Tryz.underlying102 rfl (by first | kernel_rfl | rfl))) rfl ⟨rfl, Bb HB.out (Nat.le_refl _) _⟩
theorem Fs (s : ByteArray) (w : World) (Wt S1 S2 Bt Ft Rt : ByteArray) (X : Int) (n2 : Wt.toList.isEmpty = false)
   (C1 : Hid (∀ W, Ct 96 #[.string s, .int .i64 10] (.tuple #[.string Wt, .string S1]) W))
   (C2 : Hid (∀ W, Cq 100 #[.string S1, .string ⟨#[46]⟩] (.tuple #[.string Bt, .bool true]) W))
   (C4 : Hid (∀ W, Ct 96 #[.string Bt, .int .i64 10] (.tuple #[.string Ft, .string S2]) W))
   (C3 : Hid (∀ W, Ct 134 #[.string S2] (.tuple #[.int .i64 X, .string Rt, .bool false]) W)) :
    Cp 102 #[.string s] w (fun e w' => e = .returned (.tuple #[.agg #[.string Wt, .string Ft, .int .i64 0], .string S2, .bool true]) ∧ Below w.heap.size w w') := by
  have R0 := Lh (Rd.start w)
  go_enter Tryz.func102, Tryz.ntmps102
  go_wp2_with fail
  refine Bm (C1.out _) fun w1 hb1 => ?_
  have R1 := Lh (R0.out.step hb1)
  clear hb1
  obtain ⟨c0, c1, c2, fz⟩ := R1.out.hi.cells
  have f0 := fz 0
  have f1 := fz 1
  have f2 := fz 2
  clear fz
  try unfold zs at c0
  try unfold zs at c1
  go_wp2_with fail
  refine (C2.out _).mono ?_
  rintro e w2 ⟨rfl, rfl⟩
  have R2 := Lh (R1.out.put0 (.string Wt))
  generalize w1.setCell ⟨w.heap.size + 1, 0, none⟩ (.string Wt) = w2 at *
  clear c0 c1 c2 f0 f1 f2
  obtain ⟨c0, c1, c2, fz⟩ := R2.out.hi.cells
  have f0 := fz 0
  have f1 := fz 1
  have f2 := fz 2
  clear fz
  try unfold zs at c0
  try unfold zs at c1
  go_wp2_with fail
  refine Bm (C4.out _) fun w3 hb3 => ?_
  have R3 := Lh (R2.out.step hb3)
  clear hb3 c0 c1 c2 f0 f1 f2
  obtain ⟨c0, c1, c2, fz⟩ := R3.out.hi.cells
  have f0 := fz 0
  have f1 := fz 1
  have f2 := fz 2
  clear fz
  try unfold zs at c0
  try unfold zs at c1
  have R4 := Lh (R3.out.put1 (.string Ft))
  obtain ⟨e0, e1, e2, ez⟩ := R4.out.hi.cells
  have g0 := ez 0
  have g1 := ez 1
  have g2 := ez 2
  clear ez
  go_wp2_with fail
  refine Bm (C3.out _) fun w5 hb5 => ?_
  have R5 := Lh (R4.out.step hb5)
  clear hb5 c0 c1 c2 f0 f1 f2
  obtain ⟨c0, c1, c2, fz⟩ := R5.out.hi.cells
  have f0 := fz 0
  have f1 := fz 1
  have f2 := fz 2
  clear fz
  try unfold zs at c0
  try unfold zs at c1
  have HG := Lh (show w5.heap[w.heap.size]? = some (.cells #[.string ⟨#[]⟩, .string ⟨#[]⟩, .int .i64 0] 102 (0, 0)) from R5.out.lo)
  have HB := Lh R5.out.bw
  go_wp2_with (first | (refine wpList_store_row rfl 102 _ _ rfl w.heap.size #[.string Wt, .string Ft, .int .i64 0] rfl rfl 102 #[.string ⟨#[]⟩, .string ⟨#[]⟩, .int .i64 0] HG.out (by first | kernel_rfl | rfl) rfl (by first | kernel_rfl | rfl) ?_))
  exact bodyPost_ret (Bd rfl _ _ _ _ _ rfl (run_loadVar_row _ w.heap.size 102 102 _ (0, 0) _ (setRow_heap _ _ _ _ _ _ HG.out) Tryz.underlying102 rfl (by first | kernel_rfl | rfl))) rfl ⟨rfl, Bb HB.out (Nat.le_refl _) _⟩
theorem Gq (s : ByteArray) (w : World) (Wt S1 S2 Bt Ft Rt : ByteArray) (X : Int) (n2 : Wt.toList.isEmpty = false)
   (C1 : Hid (∀ W, Ct 96 #[.string s, .int .i64 10] (.tuple #[.string Wt, .string S1]) W))
   (C2 : Hid (∀ W, Cq 100 #[.string S1, .string ⟨#[46]⟩] (.tuple #[.string Bt, .bool true]) W))
   (C4 : Hid (∀ W, Ct 96 #[.string Bt, .int .i64 10] (.tuple #[.string Ft, .string S2]) W))
   (C3 : Hid (∀ W, Ct 134 #[.string S2] (.tuple #[.int .i64 X, .string Rt, .bool true]) W)) :
    Cp 102 #[.string s] w (fun e w' => e = .returned (.tuple #[.agg #[.string Wt, .string Ft, .int .i64 X], .string Rt, .bool true]) ∧ Below w.heap.size w w') := by
  have R0 := Lh (Rd.start w)
  go_enter Tryz.func102, Tryz.ntmps102
  go_wp2_with fail
  refine Bm (C1.out _) fun w1 hb1 => ?_
  have R1 := Lh (R0.out.step hb1)
  clear hb1
  obtain ⟨c0, c1, c2, fz⟩ := R1.out.hi.cells
  have f0 := fz 0
  have f1 := fz 1
  have f2 := fz 2
  clear fz
  try unfold zs at c0
  try unfold zs at c1
  go_wp2_with fail
  refine (C2.out _).mono ?_
  rintro e w2 ⟨rfl, rfl⟩
  have R2 := Lh (R1.out.put0 (.string Wt))
  generalize w1.setCell ⟨w.heap.size + 1, 0, none⟩ (.string Wt) = w2 at *
  clear c0 c1 c2 f0 f1 f2
  obtain ⟨c0, c1, c2, fz⟩ := R2.out.hi.cells
  have f0 := fz 0
  have f1 := fz 1
  have f2 := fz 2
  clear fz
  try unfold zs at c0
  try unfold zs at c1
  go_wp2_with fail
  refine Bm (C4.out _) fun w3 hb3 => ?_
  have R3 := Lh (R2.out.step hb3)
  clear hb3 c0 c1 c2 f0 f1 f2
  obtain ⟨c0, c1, c2, fz⟩ := R3.out.hi.cells
  have f0 := fz 0
  have f1 := fz 1
  have f2 := fz 2
  clear fz
  try unfold zs at c0
  try unfold zs at c1
  have R4 := Lh (R3.out.put1 (.string Ft))
  obtain ⟨e0, e1, e2, ez⟩ := R4.out.hi.cells
  have g0 := ez 0
  have g1 := ez 1
  have g2 := ez 2
  clear ez
  go_wp2_with fail
  refine Bm (C3.out _) fun w5 hb5 => ?_
  have R5 := Lh (R4.out.step hb5)
  clear hb5 c0 c1 c2 f0 f1 f2
  obtain ⟨c0, c1, c2, fz⟩ := R5.out.hi.cells
  have f0 := fz 0
  have f1 := fz 1
  have f2 := fz 2
  clear fz
  try unfold zs at c0
  try unfold zs at c1
  have HR := Lh (R5.out.put2 (.int .i64 X))
  have HG := Lh (show (w5.setCell ⟨w.heap.size + 1, 2, none⟩ (.int .i64 X)).heap[w.heap.size]? = some (.cells #[.string ⟨#[]⟩, .string ⟨#[]⟩, .int .i64 0] 102 (0, 0)) from HR.out.lo)
  have HB := Lh HR.out.bw
  obtain ⟨d0, d1, d2, _⟩ := HR.out.hi.cells
  try unfold zs at d1
  go_wp2_with (first | (refine wpList_store_row rfl 102 _ _ rfl w.heap.size #[.string Wt, .string Ft, .int .i64 X] rfl rfl 102 #[.string ⟨#[]⟩, .string ⟨#[]⟩, .int .i64 0] HG.out (by first | kernel_rfl | rfl) rfl (by first | kernel_rfl | rfl) ?_))
  exact bodyPost_ret (Bd rfl _ _ _ _ _ rfl (run_loadVar_row _ w.heap.size 102 102 _ (0, 0) _ (setRow_heap _ _ _ _ _ _ HG.out) Tryz.underlying102 rfl (by first | kernel_rfl | rfl))) rfl ⟨rfl, Bb HB.out (Nat.le_refl _) _⟩
theorem F0 (s : ByteArray) (w : World) (S1 S2 Bt Ft Rt : ByteArray) (X : Int) (m2 : Ft.toList.isEmpty = false)
   (C1 : Hid (∀ W, Ct 96 #[.string s, .int .i64 10] (.tuple #[.string ⟨#[]⟩, .string S1]) W))
   (C2 : Hid (∀ W, Cq 100 #[.string S1, .string ⟨#[46]⟩] (.tuple #[.string Bt, .bool true]) W))
   (C4 : Hid (∀ W, Ct 96 #[.string Bt, .int .i64 10] (.tuple #[.string Ft, .string S2]) W))
   (C3 : Hid (∀ W, Ct 134 #[.string S2] (.tuple #[.int .i64 X, .string Rt, .bool false]) W)) :
    Cp 102 #[.string s] w (fun e w' => e = .returned (.tuple #[.agg #[.string ⟨#[]⟩, .string Ft, .int .i64 0], .string S2, .bool true]) ∧ Below w.heap.size w w') := by
  have R0 := Lh (Rd.start w)
  go_enter Tryz.func102, Tryz.ntmps102
  go_wp2_with fail
  refine Bm (C1.out _) fun w1 hb1 => ?_
  have R1 := Lh (R0.out.step hb1)
  clear hb1
  obtain ⟨c0, c1, c2, fz⟩ := R1.out.hi.cells
  have f0 := fz 0
  have f1 := fz 1
  have f2 := fz 2
  clear fz
  try unfold zs at c0
  try unfold zs at c1
  go_wp2_with fail
  refine (C2.out _).mono ?_
  rintro e w2 ⟨rfl, rfl⟩
  have R2 := Lh (R1.out.put0 (.string ⟨#[]⟩))
  generalize w1.setCell ⟨w.heap.size + 1, 0, none⟩ (.string ⟨#[]⟩) = w2 at *
  clear c0 c1 c2 f0 f1 f2
  obtain ⟨c0, c1, c2, fz⟩ := R2.out.hi.cells
  have f0 := fz 0
  have f1 := fz 1
  have f2 := fz 2
  clear fz
  try unfold zs at c0
  try unfold zs at c1
  go_wp2_with fail
  refine Bm (C4.out _) fun w3 hb3 => ?_
  have R3 := Lh (R2.out.step hb3)
  clear hb3 c0 c1 c2 f0 f1 f2
  obtain ⟨c0, c1, c2, fz⟩ := R3.out.hi.cells
  have f0 := fz 0
  have f1 := fz 1
  have f2 := fz 2
  clear fz
  try unfold zs at c0
  try unfold zs at c1
  have R4 := Lh (R3.out.put1 (.string Ft))
  obtain ⟨e0, e1, e2, ez⟩ := R4.out.hi.cells
  have g0 := ez 0
  have g1 := ez 1
  have g2 := ez 2
  clear ez
  go_wp2_with fail
  refine Bm (C3.out _) fun w5 hb5 => ?_
  have R5 := Lh (R4.out.step hb5)
  clear hb5 c0 c1 c2 f0 f1 f2
  obtain ⟨c0, c1, c2, fz⟩ := R5.out.hi.cells
  have f0 := fz 0
  have f1 := fz 1
  have f2 := fz 2
  clear fz
  try unfold zs at c0
  try unfold zs at c1
  have HG := Lh (show w5.heap[w.heap.size]? = some (.cells #[.string ⟨#[]⟩, .string ⟨#[]⟩, .int .i64 0] 102 (0, 0)) from R5.out.lo)
  have HB := Lh R5.out.bw
  go_wp2_with (first | (refine wpList_store_row rfl 102 _ _ rfl w.heap.size #[.string ⟨#[]⟩, .string Ft, .int .i64 0] rfl rfl 102 #[.string ⟨#[]⟩, .string ⟨#[]⟩, .int .i64 0] HG.out (by first | kernel_rfl | rfl) rfl (by first | kernel_rfl | rfl) ?_))
  exact bodyPost_ret (Bd rfl _ _ _ _ _ rfl (run_loadVar_row _ w.heap.size 102 102 _ (0, 0) _ (setRow_heap _ _ _ _ _ _ HG.out) Tryz.underlying102 rfl (by first | kernel_rfl | rfl))) rfl ⟨rfl, Bb HB.out (Nat.le_refl _) _⟩
theorem Gp (s : ByteArray) (w : World) (S1 S2 Bt Ft Rt : ByteArray) (X : Int) (m2 : Ft.toList.isEmpty = false)
   (C1 : Hid (∀ W, Ct 96 #[.string s, .int .i64 10] (.tuple #[.string ⟨#[]⟩, .string S1]) W))
   (C2 : Hid (∀ W, Cq 100 #[.string S1, .string ⟨#[46]⟩] (.tuple #[.string Bt, .bool true]) W))
   (C4 : Hid (∀ W, Ct 96 #[.string Bt, .int .i64 10] (.tuple #[.string Ft, .string S2]) W))
   (C3 : Hid (∀ W, Ct 134 #[.string S2] (.tuple #[.int .i64 X, .string Rt, .bool true]) W)) :
    Cp 102 #[.string s] w (fun e w' => e = .returned (.tuple #[.agg #[.string ⟨#[]⟩, .string Ft, .int .i64 X], .string Rt, .bool true]) ∧ Below w.heap.size w w') := by
  have R0 := Lh (Rd.start w)
  go_enter Tryz.func102, Tryz.ntmps102
  go_wp2_with fail
  refine Bm (C1.out _) fun w1 hb1 => ?_
  have R1 := Lh (R0.out.step hb1)
  clear hb1
  obtain ⟨c0, c1, c2, fz⟩ := R1.out.hi.cells
  have f0 := fz 0
  have f1 := fz 1
  have f2 := fz 2
  clear fz
  try unfold zs at c0
  try unfold zs at c1
  go_wp2_with fail
  refine (C2.out _).mono ?_
  rintro e w2 ⟨rfl, rfl⟩
  have R2 := Lh (R1.out.put0 (.string ⟨#[]⟩))
  generalize w1.setCell ⟨w.heap.size + 1, 0, none⟩ (.string ⟨#[]⟩) = w2 at *
  clear c0 c1 c2 f0 f1 f2
  obtain ⟨c0, c1, c2, fz⟩ := R2.out.hi.cells
  have f0 := fz 0
  have f1 := fz 1
  have f2 := fz 2
  clear fz
  try unfold zs at c0
  try unfold zs at c1
  go_wp2_with fail
  refine Bm (C4.out _) fun w3 hb3 => ?_
  have R3 := Lh (R2.out.step hb3)
  clear hb3 c0 c1 c2 f0 f1 f2
  obtain ⟨c0, c1, c2, fz⟩ := R3.out.hi.cells
  have f0 := fz 0
  have f1 := fz 1
  have f2 := fz 2
  clear fz
  try unfold zs at c0
  try unfold zs at c1
  have R4 := Lh (R3.out.put1 (.string Ft))
  obtain ⟨e0, e1, e2, ez⟩ := R4.out.hi.cells
  have g0 := ez 0
  have g1 := ez 1
  have g2 := ez 2
  clear ez
  go_wp2_with fail
  refine Bm (C3.out _) fun w5 hb5 => ?_
  have R5 := Lh (R4.out.step hb5)
  clear hb5 c0 c1 c2 f0 f1 f2
  obtain ⟨c0, c1, c2, fz⟩ := R5.out.hi.cells
  have f0 := fz 0
  have f1 := fz 1
  have f2 := fz 2
  clear fz
  try unfold zs at c0
  try unfold zs at c1
  have HR := Lh (R5.out.put2 (.int .i64 X))
  have HG := Lh (show (w5.setCell ⟨w.heap.size + 1, 2, none⟩ (.int .i64 X)).heap[w.heap.size]? = some (.cells #[.string ⟨#[]⟩, .string ⟨#[]⟩, .int .i64 0] 102 (0, 0)) from HR.out.lo)
  have HB := Lh HR.out.bw
  obtain ⟨d0, d1, d2, _⟩ := HR.out.hi.cells
  try unfold zs at d1
  go_wp2_with (first | (refine wpList_store_row rfl 102 _ _ rfl w.heap.size #[.string ⟨#[]⟩, .string Ft, .int .i64 X] rfl rfl 102 #[.string ⟨#[]⟩, .string ⟨#[]⟩, .int .i64 0] HG.out (by first | kernel_rfl | rfl) rfl (by first | kernel_rfl | rfl) ?_))
  exact bodyPost_ret (Bd rfl _ _ _ _ _ rfl (run_loadVar_row _ w.heap.size 102 102 _ (0, 0) _ (setRow_heap _ _ _ _ _ _ HG.out) Tryz.underlying102 rfl (by first | kernel_rfl | rfl))) rfl ⟨rfl, Bb HB.out (Nat.le_refl _) _⟩
theorem Je (s : ByteArray) (w : World) (S1 S2 Bt : ByteArray)
   (C1 : Hid (∀ W, Ct 96 #[.string s, .int .i64 10] (.tuple #[.string ⟨#[]⟩, .string S1]) W))
   (C2 : Hid (∀ W, Cq 100 #[.string S1, .string ⟨#[46]⟩] (.tuple #[.string Bt, .bool true]) W))
   (C4 : Hid (∀ W, Ct 96 #[.string Bt, .int .i64 10] (.tuple #[.string ⟨#[]⟩, .string S2]) W)) :
    Cp 102 #[.string s] w (fun e w' => e = .returned (.tuple #[.agg #[.string ⟨#[]⟩, .string ⟨#[]⟩, .int .i64 0], .string ⟨#[]⟩, .bool false]) ∧ Below w.heap.size w w') := by
  have R0 := Lh (Rd.start w)
  go_enter Tryz.func102, Tryz.ntmps102
  go_wp2_with fail
  refine Bm (C1.out _) fun w1 hb1 => ?_
  have R1 := Lh (R0.out.step hb1)
  clear hb1
  obtain ⟨c0, c1, c2, fz⟩ := R1.out.hi.cells
  have f0 := fz 0
  have f1 := fz 1
  have f2 := fz 2
  clear fz
  try unfold zs at c0
  try unfold zs at c1
  go_wp2_with fail
  refine (C2.out _).mono ?_
  rintro e w2 ⟨rfl, rfl⟩
  have R2 := Lh (R1.out.put0 (.string ⟨#[]⟩))
  generalize w1.setCell ⟨w.heap.size + 1, 0, none⟩ (.string ⟨#[]⟩) = w2 at *
  clear c0 c1 c2 f0 f1 f2
  obtain ⟨c0, c1, c2, fz⟩ := R2.out.hi.cells
  have f0 := fz 0
  have f1 := fz 1
  have f2 := fz 2
  clear fz
  try unfold zs at c0
  try unfold zs at c1
  go_wp2_with fail
  refine Bm (C4.out _) fun w3 hb3 => ?_
  have R3 := Lh (R2.out.step hb3)
  clear hb3 c0 c1 c2 f0 f1 f2
  obtain ⟨c0, c1, c2, fz⟩ := R3.out.hi.cells
  have f0 := fz 0
  have f1 := fz 1
  have f2 := fz 2
  clear fz
  try unfold zs at c0
  try unfold zs at c1
  have HG := Lh (show w3.heap[w.heap.size]? = some (.cells #[.string ⟨#[]⟩, .string ⟨#[]⟩, .int .i64 0] 102 (0, 0)) from R3.out.lo)
  have HB := Lh R3.out.bw
  go_wp2_with (first | (refine wpList_store_row rfl 102 _ _ rfl w.heap.size #[.string ⟨#[]⟩, .string ⟨#[]⟩, .int .i64 0] rfl rfl 102 #[.string ⟨#[]⟩, .string ⟨#[]⟩, .int .i64 0] HG.out (by first | kernel_rfl | rfl) rfl (by first | kernel_rfl | rfl) ?_))
  exact bodyPost_ret (Bd rfl _ _ _ _ _ rfl (run_loadVar_row _ w.heap.size 102 102 _ (0, 0) _ (setRow_heap _ _ _ _ _ _ HG.out) Tryz.underlying102 rfl (by first | kernel_rfl | rfl))) rfl ⟨rfl, Bb HB.out (Nat.le_refl _) _⟩
end
section
theorem Vp (s : ByteArray) (w : World) : Ct 126 #[.string s, .string ⟨#[48]⟩] (.string (Ab (ldz (bl s)))) w := by
 have h := Tryz.strings_TrimLeft_laid s ⟨#[48]⟩ w (by decide) (fun j b hb => by
  have h1 : b ∈ ([48] : List UInt8) := List.mem_of_getElem? hb
  simp at h1
  rw [h1]
  decide)
 rw [show (⟨#[48]⟩ : ByteArray).data.toList = [48] from rfl, Ahi] at h
 exact h
theorem Vj (s : ByteArray) (w : World) (hs : s.size ≤ 9223372036854775807) : Ct 135 #[.string s, .string ⟨#[48]⟩] (.string (Ab (trz (bl s)))) w := by
 have h := Tryz.strings_TrimRight_laid s ⟨#[48]⟩ w hs (by decide) (fun j b hb => by
  have h1 : b ∈ ([48] : List UInt8) := List.mem_of_getElem? hb
  simp at h1
  rw [h1]
  decide)
 rw [show (⟨#[48]⟩ : ByteArray).data.toList = [48] from rfl, Ahs] at h
 exact h
theorem Adg (s : ByteArray) (i : Nat) (h : i < s.size) : btn s i = (bl s).getD i 0 := by
 rw [List.getD_eq_getElem?_getD, Tt s i h]
 exact (Ks s i h).symm
theorem Abm (r : Nat) (s : ByteArray) : sv r s = num r (bl s) := by
 unfold sv num
 rw [D3]
 exact Ga (fun i hi => by rw [Adg s i hi])
theorem Vs {r : Nat} {s : ByteArray} (h0 : bl s ≠ []) (h : ∀ c ∈ bl s, dgt c < r) : adB r s = true := by
 rw [Wq (fun i hi => by
  rw [Adg s i hi, List.getD_eq_getElem?_getD, List.getElem?_eq_getElem (by rw [D3]; exact hi)]
  exact h _ (List.getElem_mem _))]
 have : 0 < (bl s).length := List.length_pos_iff.2 h0
 rw [D3] at this
 exact decide_eq_true this
theorem Rk (s1 s2 g h : ByteArray) (X y P : Int) (w : World) (hs1 : s1.size + s2.size ≤ 4611686018427387903)
  (C1 : Hid (∀ W, Ct 126 #[.string (s1 ++ s2), .string ⟨#[48]⟩] (.string g) W))
  (C2 : Hid (∀ W, Ct 135 #[.string g, .string ⟨#[48]⟩] (.string h) W))
  (k1 : IntKind.i64.wrap ((g.size : Int) - (s2.size : Int)) = y) (k2 : IntKind.i64.wrap (y + X) = P)
  (t1 : h.toList.isEmpty = true) :
  Ct 103 #[.agg #[.string s1, .string s2, .int .i64 X]] (.float .f64 0) w := by
 have hs2 : ¬ 9223372036854775807 < s1.size + s2.size := by omega
 have R0 := Lh (show Rc (w.alloc (.cells #[.string s1, .string s2, .int .i64 X] 102)) w.heap.size (.string s1) (.string s2) (.int .i64 X) from heap_alloc_last w _)
 have B0 := Lh (show Below w.heap.size w (w.alloc (.cells #[.string s1, .string s2, .int .i64 X] 102)) from (Below.refl _ _).alloc (Nat.le_refl _) _)
 have S0 := Lh (show w.heap.size < (w.alloc (.cells #[.string s1, .string s2, .int .i64 X] 102)).heap.size by simp)
 clear hs1
 go_enter Tryz.func103, Tryz.ntmps103
 go_wp2_with fail
 refine Bm (C1.out _) fun w1 b1 => ?_
 have R1 := Lh (R0.out.below b1 S0.out)
 have B1 := Lh (Aa B0.out b1)
 clear b1
 obtain ⟨c0, c1, c2, _⟩ := R1.out.cells
 go_wp2_with fail
 refine Bm (C2.out _) fun w2 b2 => ?_
 have B2 := Lh (Aa B1.out b2)
 clear b2
 go_wp2
 go_ret
 exact ⟨rfl, B2.out⟩
theorem Us (s1 s2 g h : ByteArray) (X y P : Int) (w : World) (hs1 : s1.size + s2.size ≤ 4611686018427387903)
  (C1 : Hid (∀ W, Ct 126 #[.string (s1 ++ s2), .string ⟨#[48]⟩] (.string g) W))
  (C2 : Hid (∀ W, Ct 135 #[.string g, .string ⟨#[48]⟩] (.string h) W))
  (k1 : IntKind.i64.wrap ((g.size : Int) - (s2.size : Int)) = y) (k2 : IntKind.i64.wrap (y + X) = P)
  (t1 : h.toList.isEmpty = false) (t2 : decide (P < -323) = true) :
  Ct 103 #[.agg #[.string s1, .string s2, .int .i64 X]] (.float .f64 0) w := by
 have hs2 : ¬ 9223372036854775807 < s1.size + s2.size := by omega
 have R0 := Lh (show Rc (w.alloc (.cells #[.string s1, .string s2, .int .i64 X] 102)) w.heap.size (.string s1) (.string s2) (.int .i64 X) from heap_alloc_last w _)
 have B0 := Lh (show Below w.heap.size w (w.alloc (.cells #[.string s1, .string s2, .int .i64 X] 102)) from (Below.refl _ _).alloc (Nat.le_refl _) _)
 have S0 := Lh (show w.heap.size < (w.alloc (.cells #[.string s1, .string s2, .int .i64 X] 102)).heap.size by simp)
 clear hs1
 go_enter Tryz.func103, Tryz.ntmps103
 go_wp2_with fail
 refine Bm (C1.out _) fun w1 b1 => ?_
 have R1 := Lh (R0.out.below b1 S0.out)
 have B1 := Lh (Aa B0.out b1)
 clear b1
 obtain ⟨c0, c1, c2, _⟩ := R1.out.cells
 go_wp2_with fail
 refine Bm (C2.out _) fun w2 b2 => ?_
 have B2 := Lh (Aa B1.out b2)
 clear b2
 go_wp2
 go_ret
 exact ⟨rfl, B2.out⟩
theorem Ql (s1 s2 g h : ByteArray) (X y P : Int) (w : World) (hs1 : s1.size + s2.size ≤ 4611686018427387903)
  (C1 : Hid (∀ W, Ct 126 #[.string (s1 ++ s2), .string ⟨#[48]⟩] (.string g) W))
  (C2 : Hid (∀ W, Ct 135 #[.string g, .string ⟨#[48]⟩] (.string h) W))
  (k1 : IntKind.i64.wrap ((g.size : Int) - (s2.size : Int)) = y) (k2 : IntKind.i64.wrap (y + X) = P)
  (t1 : h.toList.isEmpty = false) (t2 : decide (P < -323) = false) (t3 : decide (309 < P) = true) :
  Ct 103 #[.agg #[.string s1, .string s2, .int .i64 X]] (.float .f64 9218868437227405312) w := by
 have hs2 : ¬ 9223372036854775807 < s1.size + s2.size := by omega
 have R0 := Lh (show Rc (w.alloc (.cells #[.string s1, .string s2, .int .i64 X] 102)) w.heap.size (.string s1) (.string s2) (.int .i64 X) from heap_alloc_last w _)
 have B0 := Lh (show Below w.heap.size w (w.alloc (.cells #[.string s1, .string s2, .int .i64 X] 102)) from (Below.refl _ _).alloc (Nat.le_refl _) _)
 have S0 := Lh (show w.heap.size < (w.alloc (.cells #[.string s1, .string s2, .int .i64 X] 102)).heap.size by simp)
 clear hs1
 go_enter Tryz.func103, Tryz.ntmps103
 go_wp2_with fail
 refine Bm (C1.out _) fun w1 b1 => ?_
 have R1 := Lh (R0.out.below b1 S0.out)
 have B1 := Lh (Aa B0.out b1)
 clear b1
 obtain ⟨c0, c1, c2, _⟩ := R1.out.cells
 go_wp2_with fail
 refine Bm (C2.out _) fun w2 b2 => ?_
 have B2 := Lh (Aa B1.out b2)
 clear b2
 have C3 := Lh (fun W => F4 W)
 go_wp2_with fail
 refine Sm (C3.out _) ?_
 go_wp2
 go_ret
 exact ⟨rfl, B2.out⟩
theorem Ov (s1 s2 g h : ByteArray) (X y P : Int) (Z : Int) (m F : Nat) (w : World) (hs1 : s1.size + s2.size ≤ 4611686018427387903)
  (C1 : Hid (∀ W, Ct 126 #[.string (s1 ++ s2), .string ⟨#[48]⟩] (.string g) W))
  (C2 : Hid (∀ W, Ct 135 #[.string g, .string ⟨#[48]⟩] (.string h) W))
  (k1 : IntKind.i64.wrap ((g.size : Int) - (s2.size : Int)) = y) (k2 : IntKind.i64.wrap (y + X) = P)
  (t1 : h.toList.isEmpty = false) (t2 : decide (P < -323) = false) (t3 : decide (309 < P) = false) (t4 : decide (800 < (h.size : Int)) = false)
  (k3 : IntKind.i64.wrap (P - (h.size : Int)) = Z)
  (C3 : Hid (∀ W, Cp 130 #[.string h, .int .i64 10] W (NOk m W)))
  (C4 : Hid (∀ W A n c, NV W A n c m → Ct 136 #[.slice A n c, .int .i64 Z] (.float .f64 F) W)) :
  Ct 103 #[.agg #[.string s1, .string s2, .int .i64 X]] (.float .f64 F) w := by
 have hs2 : ¬ 9223372036854775807 < s1.size + s2.size := by omega
 have R0 := Lh (show Rc (w.alloc (.cells #[.string s1, .string s2, .int .i64 X] 102)) w.heap.size (.string s1) (.string s2) (.int .i64 X) from heap_alloc_last w _)
 have B0 := Lh (show Below w.heap.size w (w.alloc (.cells #[.string s1, .string s2, .int .i64 X] 102)) from (Below.refl _ _).alloc (Nat.le_refl _) _)
 have S0 := Lh (show w.heap.size < (w.alloc (.cells #[.string s1, .string s2, .int .i64 X] 102)).heap.size by simp)
 clear hs1
 go_enter Tryz.func103, Tryz.ntmps103
 go_wp2_with fail
 refine Bm (C1.out _) fun w1 b1 => ?_
 have R1 := Lh (R0.out.below b1 S0.out)
 have B1 := Lh (Aa B0.out b1)
 clear b1
 obtain ⟨c0, c1, c2, _⟩ := R1.out.cells
 go_wp2_with fail
 refine Bm (C2.out _) fun w2 b2 => ?_
 have B2 := Lh (Aa B1.out b2)
 clear b2
 go_wp2_with fail
 refine (C3.out _).mono ?_
 rintro e w3 ⟨A, n, c, rfl, g3, b3⟩
 have G3 := Lh g3
 have B3 := Lh (Aa B2.out b3)
 clear g3 b3
 go_wp2_with fail
 refine Bm (C4.out _ _ _ _ G3.out) fun w4 b4 => ?_
 have B4 := Lh (Aa B3.out b4)
 clear b4
 go_wp2
 go_ret
 exact ⟨rfl, B4.out⟩
theorem Q9 (s1 s2 g h : ByteArray) (X y P : Int) (Z : Int) (m F : Nat) (w : World) (hs1 : s1.size + s2.size ≤ 4611686018427387903)
  (C1 : Hid (∀ W, Ct 126 #[.string (s1 ++ s2), .string ⟨#[48]⟩] (.string g) W))
  (C2 : Hid (∀ W, Ct 135 #[.string g, .string ⟨#[48]⟩] (.string h) W))
  (k1 : IntKind.i64.wrap ((g.size : Int) - (s2.size : Int)) = y) (k2 : IntKind.i64.wrap (y + X) = P)
  (t1 : h.toList.isEmpty = false) (t2 : decide (P < -323) = false) (t3 : decide (309 < P) = false) (t4 : decide (800 < (h.size : Int)) = true) (t5 : (800 : Int) ≤ (h.size : Int)) (t6 : (h.extract 0 800).size = 800)
  (k3 : IntKind.i64.wrap (P - 801) = Z)
  (C3 : Hid (∀ W, Cp 130 #[.string (h.extract 0 800 ++ ⟨#[49]⟩), .int .i64 10] W (NOk m W)))
  (C4 : Hid (∀ W A n c, NV W A n c m → Ct 136 #[.slice A n c, .int .i64 Z] (.float .f64 F) W)) :
  Ct 103 #[.agg #[.string s1, .string s2, .int .i64 X]] (.float .f64 F) w := by
 have hs2 : ¬ 9223372036854775807 < s1.size + s2.size := by omega
 have R0 := Lh (show Rc (w.alloc (.cells #[.string s1, .string s2, .int .i64 X] 102)) w.heap.size (.string s1) (.string s2) (.int .i64 X) from heap_alloc_last w _)
 have B0 := Lh (show Below w.heap.size w (w.alloc (.cells #[.string s1, .string s2, .int .i64 X] 102)) from (Below.refl _ _).alloc (Nat.le_refl _) _)
 have S0 := Lh (show w.heap.size < (w.alloc (.cells #[.string s1, .string s2, .int .i64 X] 102)).heap.size by simp)
 clear hs1
 go_enter Tryz.func103, Tryz.ntmps103
 go_wp2_with fail
 refine Bm (C1.out _) fun w1 b1 => ?_
 have R1 := Lh (R0.out.below b1 S0.out)
 have B1 := Lh (Aa B0.out b1)
 clear b1
 obtain ⟨c0, c1, c2, _⟩ := R1.out.cells
 go_wp2_with fail
 refine Bm (C2.out _) fun w2 b2 => ?_
 have B2 := Lh (Aa B1.out b2)
 clear b2
 go_wp2_with fail
 refine (C3.out _).mono ?_
 rintro e w3 ⟨A, n, c, rfl, g3, b3⟩
 have G3 := Lh g3
 have B3 := Lh (Aa B2.out b3)
 clear g3 b3
 go_wp2_with fail
 refine Bm (C4.out _ _ _ _ G3.out) fun w4 b4 => ?_
 have B4 := Lh (Aa B3.out b4)
 clear b4
 go_wp2
 go_ret
 exact ⟨rfl, B4.out⟩
end
section
theorem Ed (w : World) (o : Obj) : Below w.heap.size w (w.alloc o) := (Below.refl _ _).alloc (Nat.le_refl _) _
theorem L5 (H L M down unit D h : Nat) (hE : Bool) (w : World) (hD : H - down = D) (hd : down ≤ H) (hH : H < 9223372036854775808) (hU : unit < 9223372036854775808) (hu : unit / 2 = h) (hne : D ≠ h) :
  Ct 204 #[.agg #[.int .u64 (H : Nat), .bool hE, .int .u64 (L : Nat), .int .u64 (M : Nat)], .int .u64 (down : Nat), .int .u64 (unit : Nat)] (.bool (decide ((D : Int) < (h : Int)))) w := by
 have k1 : IntKind.u64.wrap ((H : Int) - (down : Int)) = (D : Int) := by rw [IntKind.wrap_u64]; omega
 have k2 : (unit : Int) / 2 = (h : Int) := by omega
 have k3 : IntKind.u64.wrap (h : Int) = (h : Int) := by rw [IntKind.wrap_u64]; omega
 have t1 : ((D : Int) != (h : Int)) = true := by rw [bne_iff_ne]; omega
 clear hD hd hH hu hne hU
 go_enter Tryz.func204, Tryz.ntmps204
 go_wp2
 go_ret
 exact ⟨by simp, Ed _ _⟩
theorem Nq (H L M down unit D h : Nat) (w : World) (hD : H - down = D) (hd : down ≤ H) (hU : unit < 9223372036854775808) (hu : unit / 2 = h) (hne : D = h) :
  Ct 204 #[.agg #[.int .u64 (H : Nat), .bool false, .int .u64 (L : Nat), .int .u64 (M : Nat)], .int .u64 (down : Nat), .int .u64 (unit : Nat)] (.bool false) w := by
 have k1 : IntKind.u64.wrap ((H : Int) - (down : Int)) = (D : Int) := by rw [IntKind.wrap_u64]; omega
 have k2 : (unit : Int) / 2 = (h : Int) := by omega
 have k3 : IntKind.u64.wrap (h : Int) = (h : Int) := by rw [IntKind.wrap_u64]; omega
 have t1 : ((D : Int) != (h : Int)) = false := by rw [bne_eq_false_iff_eq]; omega
 clear hD hd hu hne hU
 go_enter Tryz.func204, Tryz.ntmps204
 go_wp2
 go_ret
 exact ⟨rfl, Ed _ _⟩
theorem Lu (H L M down unit D h q : Nat) (w : World) (hD : H - down = D) (hd : down ≤ H) (hH : H < 9223372036854775808) (hU : unit < 9223372036854775808) (hu : unit / 2 = h) (hne : D = h) (h0 : 0 < unit) (hq : down / unit = q) :
  Ct 204 #[.agg #[.int .u64 (H : Nat), .bool true, .int .u64 (L : Nat), .int .u64 (M : Nat)], .int .u64 (down : Nat), .int .u64 (unit : Nat)] (.bool ((q : Int) % 2 == 0)) w := by
 have k1 : IntKind.u64.wrap ((H : Int) - (down : Int)) = (D : Int) := by rw [IntKind.wrap_u64]; omega
 have k2 : (unit : Int) / 2 = (h : Int) := by omega
 have k3 : IntKind.u64.wrap (h : Int) = (h : Int) := by rw [IntKind.wrap_u64]; omega
 have t1 : ((D : Int) != (h : Int)) = false := by rw [bne_eq_false_iff_eq]; omega
 have k4 : (down : Int) / (unit : Int) = (q : Int) := by rw [← hq]; rfl
 have k5 : IntKind.u64.wrap (q : Int) = (q : Int) := by
  have : q ≤ down := by rw [← hq]; exact Nat.div_le_self _ _
  rw [IntKind.wrap_u64]
  omega
 have k6 : (0 : Int) < (unit : Int) := by omega
 have k7 : ¬ (unit : Int) = 0 := by omega
 clear hD hd hu hne hU h0 hq hH
 go_enter Tryz.func204, Tryz.ntmps204
 go_wp2
 go_ret
 exact ⟨rfl, Ed _ _⟩
end
section
theorem Adr (H L M unit dn up : Nat) (hE : Bool) (w : World) (h0 : 0 < unit) (hd : H - H % unit = dn) (hu : dn + unit = up) (hl : up < 9223372036854775808) (g1 : L ≤ dn) (g2 : up ≤ M)
  (CN : Hid (∀ W, Ct 204 #[.agg #[.int .u64 (H : Nat), .bool hE, .int .u64 (L : Nat), .int .u64 (M : Nat)], .int .u64 (dn : Nat), .int .u64 (unit : Nat)] (.bool true) W)) :
  Ct 148 #[.agg #[.int .u64 (H : Nat), .bool hE, .int .u64 (L : Nat), .int .u64 (M : Nat)], .int .u64 (unit : Nat)] (.tuple #[.int .u64 (dn : Nat), .bool true]) w := by
 obtain ⟨r, hr⟩ : ∃ r, H % unit = r := ⟨_, rfl⟩
 have hrH : r ≤ H := by rw [← hr]; exact Nat.mod_le _ _
 have hru : r < unit := by rw [← hr]; exact Nat.mod_lt _ h0
 rw [hr] at hd
 have k0 := Lh (show (H : Int) % (unit : Int) = (r : Int) by rw [← hr]; rfl)
 have k2 := Lh (show IntKind.u64.wrap ((H : Int) - (r : Int)) = (dn : Int) by rw [IntKind.wrap_u64]; omega)
 have k3 := Lh (show IntKind.u64.wrap ((dn : Int) + (unit : Int)) = (up : Int) by rw [IntKind.wrap_u64]; omega)
 have k6 : (0 : Int) < (unit : Int) := by omega
 have k7 : ¬ (unit : Int) = 0 := by omega
 have t1 := Lh (show decide (L ≤ dn) = true by first | exact decide_eq_true (by omega) | exact decide_eq_false (by omega))
 have t2 := Lh (show decide (up ≤ M) = true by first | exact decide_eq_true (by omega) | exact decide_eq_false (by omega))
 have B0 := Lh (Ed w (.cells #[.int .u64 (H : Nat), .bool hE, .int .u64 (L : Nat), .int .u64 (M : Nat)] 139))
 clear h0 hd hu hl g1 g2 hr hrH hru
 go_enter Tryz.func148, Tryz.ntmps148
 go_wp2
 go_quiet (fail)
 rw [k0.out, k2.out]
 have k3' := k3.out
 go_wp2
 clear k3'
 go_quiet (fail)
 have t1' := t1.out
 have t2' := t2.out
 have BW := Lh (fun q => Ae B0.out q)
 go_wp2_with fail
 refine Bm (CN.out _) fun w1 b1 => ?_
 have B1 := Lh (Aa (BW.out _) b1)
 clear b1
 go_wp2
 go_ret2
 exact ⟨rfl, B1.out⟩
theorem Aac (H L M unit dn up : Nat) (hE : Bool) (w : World) (h0 : 0 < unit) (hd : H - H % unit = dn) (hu : dn + unit = up) (hl : up < 9223372036854775808) (g1 : L ≤ dn) (g2 : up ≤ M)
  (CN : Hid (∀ W, Ct 204 #[.agg #[.int .u64 (H : Nat), .bool hE, .int .u64 (L : Nat), .int .u64 (M : Nat)], .int .u64 (dn : Nat), .int .u64 (unit : Nat)] (.bool false) W)) :
  Ct 148 #[.agg #[.int .u64 (H : Nat), .bool hE, .int .u64 (L : Nat), .int .u64 (M : Nat)], .int .u64 (unit : Nat)] (.tuple #[.int .u64 (up : Nat), .bool true]) w := by
 obtain ⟨r, hr⟩ : ∃ r, H % unit = r := ⟨_, rfl⟩
 have hrH : r ≤ H := by rw [← hr]; exact Nat.mod_le _ _
 have hru : r < unit := by rw [← hr]; exact Nat.mod_lt _ h0
 rw [hr] at hd
 have k0 := Lh (show (H : Int) % (unit : Int) = (r : Int) by rw [← hr]; rfl)
 have k2 := Lh (show IntKind.u64.wrap ((H : Int) - (r : Int)) = (dn : Int) by rw [IntKind.wrap_u64]; omega)
 have k3 := Lh (show IntKind.u64.wrap ((dn : Int) + (unit : Int)) = (up : Int) by rw [IntKind.wrap_u64]; omega)
 have k6 : (0 : Int) < (unit : Int) := by omega
 have k7 : ¬ (unit : Int) = 0 := by omega
 have t1 := Lh (show decide (L ≤ dn) = true by first | exact decide_eq_true (by omega) | exact decide_eq_false (by omega))
 have t2 := Lh (show decide (up ≤ M) = true by first | exact decide_eq_true (by omega) | exact decide_eq_false (by omega))
 have B0 := Lh (Ed w (.cells #[.int .u64 (H : Nat), .bool hE, .int .u64 (L : Nat), .int .u64 (M : Nat)] 139))
 clear h0 hd hu hl g1 g2 hr hrH hru
 go_enter Tryz.func148, Tryz.ntmps148
 go_wp2
 go_quiet (fail)
 rw [k0.out, k2.out]
 have k3' := k3.out
 go_wp2
 clear k3'
 go_quiet (fail)
 have t1' := t1.out
 have t2' := t2.out
 have BW := Lh (fun q => Ae B0.out q)
 go_wp2_with fail
 refine Bm (CN.out _) fun w1 b1 => ?_
 have B1 := Lh (Aa (BW.out _) b1)
 clear b1
 go_wp2
 go_ret2
 exact ⟨rfl, B1.out⟩
theorem Tq (H L M unit dn up : Nat) (hE : Bool) (w : World) (h0 : 0 < unit) (hd : H - H % unit = dn) (hu : dn + unit = up) (hl : up < 9223372036854775808) (g1 : L ≤ dn) (g2 : ¬ up ≤ M) :
  Ct 148 #[.agg #[.int .u64 (H : Nat), .bool hE, .int .u64 (L : Nat), .int .u64 (M : Nat)], .int .u64 (unit : Nat)] (.tuple #[.int .u64 (dn : Nat), .bool true]) w := by
 obtain ⟨r, hr⟩ : ∃ r, H % unit = r := ⟨_, rfl⟩
 have hrH : r ≤ H := by rw [← hr]; exact Nat.mod_le _ _
 have hru : r < unit := by rw [← hr]; exact Nat.mod_lt _ h0
 rw [hr] at hd
 have k0 := Lh (show (H : Int) % (unit : Int) = (r : Int) by rw [← hr]; rfl)
 have k2 := Lh (show IntKind.u64.wrap ((H : Int) - (r : Int)) = (dn : Int) by rw [IntKind.wrap_u64]; omega)
 have k3 := Lh (show IntKind.u64.wrap ((dn : Int) + (unit : Int)) = (up : Int) by rw [IntKind.wrap_u64]; omega)
 have k6 : (0 : Int) < (unit : Int) := by omega
 have k7 : ¬ (unit : Int) = 0 := by omega
 have t1 := Lh (show decide (L ≤ dn) = true by first | exact decide_eq_true (by omega) | exact decide_eq_false (by omega))
 have t2 := Lh (show decide (up ≤ M) = false by first | exact decide_eq_true (by omega) | exact decide_eq_false (by omega))
 have B0 := Lh (Ed w (.cells #[.int .u64 (H : Nat), .bool hE, .int .u64 (L : Nat), .int .u64 (M : Nat)] 139))
 clear h0 hd hu hl g1 g2 hr hrH hru
 go_enter Tryz.func148, Tryz.ntmps148
 go_wp2
 go_quiet (fail)
 rw [k0.out, k2.out]
 have k3' := k3.out
 go_wp2
 clear k3'
 go_quiet (fail)
 have t1' := t1.out
 have t2' := t2.out
 have BW := Lh (fun q => Ae B0.out q)
 go_wp2
 go_ret2
 exact ⟨rfl, BW.out _⟩
theorem Zr (H L M unit dn up : Nat) (hE : Bool) (w : World) (h0 : 0 < unit) (hd : H - H % unit = dn) (hu : dn + unit = up) (hl : up < 9223372036854775808) (g1 : ¬ L ≤ dn) (g2 : up ≤ M) :
  Ct 148 #[.agg #[.int .u64 (H : Nat), .bool hE, .int .u64 (L : Nat), .int .u64 (M : Nat)], .int .u64 (unit : Nat)] (.tuple #[.int .u64 (up : Nat), .bool true]) w := by
 obtain ⟨r, hr⟩ : ∃ r, H % unit = r := ⟨_, rfl⟩
 have hrH : r ≤ H := by rw [← hr]; exact Nat.mod_le _ _
 have hru : r < unit := by rw [← hr]; exact Nat.mod_lt _ h0
 rw [hr] at hd
 have k0 := Lh (show (H : Int) % (unit : Int) = (r : Int) by rw [← hr]; rfl)
 have k2 := Lh (show IntKind.u64.wrap ((H : Int) - (r : Int)) = (dn : Int) by rw [IntKind.wrap_u64]; omega)
 have k3 := Lh (show IntKind.u64.wrap ((dn : Int) + (unit : Int)) = (up : Int) by rw [IntKind.wrap_u64]; omega)
 have k6 : (0 : Int) < (unit : Int) := by omega
 have k7 : ¬ (unit : Int) = 0 := by omega
 have t1 := Lh (show decide (L ≤ dn) = false by first | exact decide_eq_true (by omega) | exact decide_eq_false (by omega))
 have t2 := Lh (show decide (up ≤ M) = true by first | exact decide_eq_true (by omega) | exact decide_eq_false (by omega))
 have B0 := Lh (Ed w (.cells #[.int .u64 (H : Nat), .bool hE, .int .u64 (L : Nat), .int .u64 (M : Nat)] 139))
 clear h0 hd hu hl g1 g2 hr hrH hru
 go_enter Tryz.func148, Tryz.ntmps148
 go_wp2
 go_quiet (fail)
 rw [k0.out, k2.out]
 have k3' := k3.out
 go_wp2
 clear k3'
 go_quiet (fail)
 have t1' := t1.out
 have t2' := t2.out
 have BW := Lh (fun q => Ae B0.out q)
 go_wp2
 go_ret2
 exact ⟨rfl, BW.out _⟩
theorem Su (H L M unit dn up : Nat) (hE : Bool) (w : World) (h0 : 0 < unit) (hd : H - H % unit = dn) (hu : dn + unit = up) (hl : up < 9223372036854775808) (g1 : ¬ L ≤ dn) (g2 : ¬ up ≤ M) :
  Ct 148 #[.agg #[.int .u64 (H : Nat), .bool hE, .int .u64 (L : Nat), .int .u64 (M : Nat)], .int .u64 (unit : Nat)] (.tuple #[.int .u64 (up : Nat), .bool false]) w := by
 obtain ⟨r, hr⟩ : ∃ r, H % unit = r := ⟨_, rfl⟩
 have hrH : r ≤ H := by rw [← hr]; exact Nat.mod_le _ _
 have hru : r < unit := by rw [← hr]; exact Nat.mod_lt _ h0
 rw [hr] at hd
 have k0 := Lh (show (H : Int) % (unit : Int) = (r : Int) by rw [← hr]; rfl)
 have k2 := Lh (show IntKind.u64.wrap ((H : Int) - (r : Int)) = (dn : Int) by rw [IntKind.wrap_u64]; omega)
 have k3 := Lh (show IntKind.u64.wrap ((dn : Int) + (unit : Int)) = (up : Int) by rw [IntKind.wrap_u64]; omega)
 have k6 : (0 : Int) < (unit : Int) := by omega
 have k7 : ¬ (unit : Int) = 0 := by omega
 have t1 := Lh (show decide (L ≤ dn) = false by first | exact decide_eq_true (by omega) | exact decide_eq_false (by omega))
 have t2 := Lh (show decide (up ≤ M) = false by first | exact decide_eq_true (by omega) | exact decide_eq_false (by omega))
 have B0 := Lh (Ed w (.cells #[.int .u64 (H : Nat), .bool hE, .int .u64 (L : Nat), .int .u64 (M : Nat)] 139))
 clear h0 hd hu hl g1 g2 hr hrH hru
 go_enter Tryz.func148, Tryz.ntmps148
 go_wp2
 go_quiet (fail)
 rw [k0.out, k2.out]
 have k3' := k3.out
 go_wp2
 clear k3'
 go_quiet (fail)
 have t1' := t1.out
 have t2' := t2.out
 have BW := Lh (fun q => Ae B0.out q)
 go_wp2
 go_ret2
 exact ⟨rfl, BW.out _⟩
end
section
theorem Tm (u : Nat) (w : World) (h : u < 100) : Ct 231 #[.int .u64 u, .int .i64 10] (.string ⟨(Lib.decDigits u).toArray⟩) w := by
 have t1 : (u : Int) < 100 := by omega
 have t2 : (u : Int) < 9223372036854775808 := by omega
 go_enter Tryz.func231, Tryz.ntmps231
 go_wp2_with (go_at_call 248; refine (Tryz.internal_strconv_small u h _).mono ?_; rintro e w' ⟨rfl, rfl⟩)
 go_ret
 exact ⟨rfl, Below.refl _ _⟩
open Go.Sort in
theorem Abl (u : Nat) (w : World) (h : 100 ≤ u) (hu64 : u < 18446744073709551616) (htab : Lib.TabIs Tryz.prog w "internal/strconv.uint64pow10" .u64 Lib.pow10Tab) :
  Ct 231 #[.int .u64 u, .int .i64 10] (.string ⟨(Lib.decDigits u).toArray⟩) w := by
 have hu1 : 1 ≤ u := by omega
 have hnd20 : Lib.nDigits u ≤ 20 := by have := Lib.numDigits_eq u hu1 hu64; split at this <;> omega
 have t1 : ¬ (u : Int) < 100 := by omega
 have hal : Tryz.prog.arrayLen 229 = 24 := by kernel_rfl
 have hsl1 : ∀ W, (Instr.sliceAt 229 (.pointer (some ⟨w.heap.size, 0, none⟩)) none (some (.int .i64 (Lib.nDigits u : Int))) none).run Tryz.prog W = .ok (.slice (some ⟨w.heap.size, 0, none⟩) (Lib.nDigits u) 24) W := fun W => by
  rw [run_sliceAt_array_h W 229 ⟨w.heap.size, 0, none⟩ (by simp [Program.arrayLen, Program.elem, Tryz.underlying229]) .i64 (Lib.nDigits u : Int) (by omega) (by rw [hal]; omega)]
  go_simp
 have hH0 := Lib.holds_zero0 w 229 (Lib.nDigits u) (by omega)
 have hfmt := Tryz.internal_strconv_formatBase10 w.heap.size 0 24 u (Array.replicate (Lib.nDigits u) 0) (w.alloc (.cells Lib.zeros24 229)) hH0 (by rw [Array.size_replicate]; exact Lib.lt_pow_nDigits u) hu64 (by rw [Array.size_replicate]; omega)
 rw [Array.size_replicate] at hfmt
 have HH0 := Lh hH0
 clear hH0 hal h
 go_enter Tryz.func231, Tryz.ntmps231
 go_wp2_with (first
  | (go_at_call 249; refine (Tryz.internal_strconv_numDigits u hu1 hu64 _ (Lib.tabIs_alloc htab _)).mono ?_; rintro e w' ⟨rfl, rfl⟩))
 go_at_call 250
 refine hfmt.mono ?_
 rintro e w' ⟨rfl, k, v', dk, rfl, hF⟩
 have hcv : (convert 66 9 (.slice (some ⟨w.heap.size, 0, none⟩) (Lib.nDigits u) 24)).run Tryz.prog ((putRow (fun (b : UInt8) => Value.int .u8 (b.toNat : Int)) (w.alloc (.cells Lib.zeros24 229)) w.heap.size 0 dk).drewN k) = .ok (.string ⟨(Lib.decDigits u).toArray⟩) ((putRow (fun (b : UInt8) => Value.int .u8 (b.toNat : Int)) (w.alloc (.cells Lib.zeros24 229)) w.heap.size 0 dk).drewN k) := by
  have h := run_convert_bytes_back (P := Tryz.prog) ((putRow (fun (b : UInt8) => Value.int .u8 (b.toNat : Int)) (w.alloc (.cells Lib.zeros24 229)) w.heap.size 0 dk).drewN k) 66 9 5 ⟨w.heap.size, 0, none⟩ 24 (Lib.decDigits u) Tryz.underlying66 Tryz.underlying5 Tryz.underlying9 (fun j hj => by
   rw [Lib.row_is_numeral hF j hj, Lib.add_plain, World.cell?_drewN]
   exact cell?_putRow (fun (b : UInt8) => Value.int .u8 (b.toNat : Int)) _ w.heap.size 0 _ dk HH0.out (by rw [hF.size, Array.size_replicate]) j (by rw [hF.size]; rw [Lib.decDigits_length] at hj; exact hj))
  rw [Lib.decDigits_length] at h
  exact h
 go_wp2
 go_ret
 obtain ⟨os, eo⟩ := Lib.fin_at w (.cells Lib.zeros24 229) dk k 0
 refine ⟨rfl, ?_⟩
 have hb := Lib.below_grow w.heap.size w (Nat.le_refl _) k os
 rw [← eo] at hb
 exact hb
theorem Abs (u : Nat) (w : World) (hu : u < 18446744073709551616) (htab : Lib.TabIs Tryz.prog w "internal/strconv.uint64pow10" .u64 Lib.pow10Tab) :
  Ct 197 #[.int .u64 u, .int .i64 10] (.string (Ab (dL u))) w := by
 have C : Hid (∀ W, W = w → Ct 231 #[.int .u64 u, .int .i64 10] (.string ⟨(Lib.decDigits u).toArray⟩) W) := Lh (fun W hW => by
  subst hW
  rcases Nat.lt_or_ge u 100 with h | h
  ·exact Tm u W h
  ·exact Abl u W h hu htab)
 have he : (⟨(Lib.decDigits u).toArray⟩ : ByteArray) = Ab (dL u) := Fi rfl
 rw [← he]
 clear he htab hu
 go_enter Tryz.func197, Tryz.ntmps197
 go_wp2_with fail
 refine Bm (C.out _ rfl) fun w1 b1 => ?_
 go_wp2
 go_ret
 exact ⟨rfl, b1⟩
end
section
theorem P6 (H L M unit dn : Nat) (hE : Bool) (w : World) (h0 : 0 < unit) (hd : H - H % unit = dn) (hH : H < 9223372036854775808) (hU : unit < 9223372036854775808) :
  Ct 204 #[.agg #[.int .u64 (H : Nat), .bool hE, .int .u64 (L : Nat), .int .u64 (M : Nat)], .int .u64 (dn : Nat), .int .u64 (unit : Nat)] (.bool (decide (H % unit < unit / 2 ∨ (H % unit = unit / 2 ∧ hE = true ∧ dn / unit % 2 = 0)))) w := by
 have hle := Nat.mod_le H unit
 have hD : H - dn = H % unit := by omega
 have hdn : dn ≤ H := by omega
 by_cases h1 : H % unit = unit / 2
 ·cases hE
  ·refine (Nq H L M dn unit _ _ w hD hdn hU rfl h1).mono ?_
   rintro e w' ⟨rfl, hb⟩
   exact ⟨by rw [decide_eq_false (by rw [h1]; simp)], hb⟩
  ·refine (Lu H L M dn unit _ _ _ w hD hdn hH hU rfl h1 h0 rfl).mono ?_
   rintro e w' ⟨rfl, hb⟩
   refine ⟨congrArg (fun b => Ending.returned (.bool b)) ?_, hb⟩
   rw [Bool.eq_iff_iff, beq_iff_eq, decide_eq_true_iff]
   generalize dn / unit = q
   constructor
   ·intro h
    exact .inr ⟨h1, rfl, by omega⟩
   ·rintro (h | ⟨_, _, h⟩)
    ·omega
    ·omega
 ·refine (L5 H L M dn unit _ _ hE w hD hdn hH hU rfl h1).mono ?_
  rintro e w' ⟨rfl, hb⟩
  refine ⟨congrArg (fun b => Ending.returned (.bool b)) ?_, hb⟩
  rw [Bool.eq_iff_iff, decide_eq_true_iff, decide_eq_true_iff]
  generalize H % unit = a at *
  generalize unit / 2 = b at *
  omega
def Afx (o : Option Nat) (d : Nat) : Value := .tuple #[.int .u64 ((o.getD d : Nat) : Int), .bool o.isSome]
theorem W5 (H L M unit : Nat) (hE : Bool) (w : World) (h0 : 0 < unit) (hl : H + unit < 9223372036854775808) :
  Ct 148 #[.agg #[.int .u64 (H : Nat), .bool hE, .int .u64 (L : Nat), .int .u64 (M : Nat)], .int .u64 (unit : Nat)] (Afx (pcn H hE L M unit) (H - H % unit + unit)) w := by
 obtain ⟨dn, hd⟩ : ∃ dn, H - H % unit = dn := ⟨_, rfl⟩
 obtain ⟨up, hu⟩ : ∃ up, dn + unit = up := ⟨_, rfl⟩
 have hup : up < 9223372036854775808 := by omega
 have CN := fun W => P6 H L M unit dn hE W h0 hd (by omega) (by omega)
 unfold pcn
 rw [hd, hu]
 by_cases g1 : L ≤ dn
 ·by_cases g2 : up ≤ M
  ·by_cases g3 : H % unit < unit / 2 ∨ (H % unit = unit / 2 ∧ hE = true ∧ dn / unit % 2 = 0)
   ·rw [if_pos ⟨g1, .inr g3⟩]
    rw [decide_eq_true g3] at CN
    exact Adr H L M unit dn up hE w h0 hd hu hup g1 g2 (Lh CN)
   ·rw [if_neg (fun h => h.2.elim (fun h => h g2) g3), if_pos g2]
    rw [decide_eq_false g3] at CN
    exact Aac H L M unit dn up hE w h0 hd hu hup g1 g2 (Lh CN)
  ·rw [if_pos ⟨g1, .inl g2⟩]
   exact Tq H L M unit dn up hE w h0 hd hu hup g1 g2
 ·rw [if_neg (fun h => g1 h.1)]
  by_cases g2 : up ≤ M
  ·rw [if_pos g2]
   exact Zr H L M unit dn up hE w h0 hd hu hup g1 g2
  ·rw [if_neg g2]
   exact Su H L M unit dn up hE w h0 hd hu hup g1 g2
abbrev Tab10 (w : World) : Prop := Lib.TabIs Tryz.prog w "internal/strconv.uint64pow10" .u64 Lib.pow10Tab
theorem Tab10.on {w w' : World} (h : Tab10 w) (hb : Below w.heap.size w w') : Tab10 w' := (Lib.tabBelow_of_tabIs h) w' hb
theorem L6 (u n : Nat) (ten x : Int) (D T : ByteArray) (w : World) (hn : D.size = n) (hx : wrap64 ((n : Int) + ten) = x)
  (C1 : Hid (∀ W, W = w → Ct 197 #[.int .u64 u, .int .i64 10] (.string D) W))
  (C2 : Hid (∀ W, Ct 135 #[.string D, .string ⟨#[48]⟩] (.string T) W)) :
  Ct 144 #[.int .u64 u, .int .i64 ten] (.tuple #[.string T, .int .i64 x]) w := by
 go_enter Tryz.func144, Tryz.ntmps144
 go_wp2_with fail
 refine Bm (C1.out _ rfl) fun w1 b1 => ?_
 have B1 := Lh b1
 clear b1
 go_wp2_with fail
 refine Bm (C2.out _) fun w2 b2 => ?_
 have B2 := Lh (Aa B1.out b2)
 clear b2
 go_wp2
 go_ret2
 exact ⟨congrArg (fun z => Ending.returned (.tuple #[.string T, .int .i64 z])) hx, B2.out⟩
theorem Ht (u : Nat) (ten : Int) (w : World) (hu : u < 18446744073709551616) (h1 : -1000 ≤ ten) (h2 : ten ≤ 1000) (ht : Tab10 w) :
  Ct 144 #[.int .u64 u, .int .i64 ten] (.tuple #[.string (Ab (trz (dL u))), .int .i64 ((dL u).length + ten)]) w := by
 have hl : (dL u).length ≤ 20 := by
  rcases Nat.eq_zero_or_pos u with h | h
  ·rw [h, Df (by omega)]; simp
  ·have h3 : 10 ^ ((dL u).length - 1) < 10 ^ 20 := Nat.lt_of_le_of_lt (V3 h) (by omega)
   have := Jz h3
   omega
 have hb : bl (Ab (dL u)) = dL u := Aj fun c hc => by have := Cc.1 (Ku u c hc); omega
 have C2 := fun W => Vj (Ab (dL u)) W (by rw [Ag]; omega)
 rw [hb] at C2
 exact L6 u (dL u).length ten _ _ _ w (Ag _) (by unfold wrap64; omega) (Lh fun W h => by subst h; exact Abs u W hu ht) (Lh C2)
end
section
theorem Q0 : ∀ c : Nat, (Lib.repeatL [48] c).map UInt8.toNat = List.replicate c 48
 | 0 => rfl
 | c + 1 => by
  rw [List.replicate_succ, ← Q0 c]
  rfl
theorem Jb (c : Nat) (w : World) (hc : c ≤ 140737488355328) : Ct 118 #[.string ⟨#[48]⟩, .int .i64 c] (.string (Ab (List.replicate c 48))) w := by
 have h := Tryz.strings_Repeat ⟨#[48]⟩ c w (by omega) (by show 1 * c ≤ _; omega)
 have e : (⟨(Lib.repeatL (⟨#[48]⟩ : ByteArray).data.toList c).toArray⟩ : ByteArray) = Ab (List.replicate c 48) := Fi (Q0 c)
 rw [e] at h
 exact h
def ptL (l : List Nat) (last : Nat) : List Nat :=
 if last = 0 then l else (List.replicate (last + 1 - l.length) 48 ++ l).take (last + 1 - l.length + l.length - last) ++ 46 :: (List.replicate (last + 1 - l.length) 48 ++ l).drop (last + 1 - l.length + l.length - last)
theorem Lw (s : ByteArray) (w : World) : Cq 119 #[.string s, .int .i64 0] (.string s) w := by
 go_enter Tryz.func119, Tryz.ntmps119
 go_wp2
 go_ret
 exact ⟨rfl, rfl⟩
theorem L3 (s Z E F : ByteArray) (N M z last at' : Nat) (w : World) (h0 : 0 < last) (hlast : last ≤ 1000) (hN : s.size = N) (hN2 : N ≤ 1000000) (hz : max ((last : Int) + 1 - (N : Int)) 0 = (z : Int)) (hZ : Z.size = z) (hE : Z ++ s = E) (hM : E.size = M) (hzM : z + N = M)
  (hat : M - last = at') (hlM : last < M) (hF : Hid (E.extract 0 at' ++ ⟨#[46]⟩ ++ E.extract at' M = F))
  (CR : Hid (∀ W, Ct 118 #[.string ⟨#[48]⟩, .int .i64 z] (.string Z) W)) :
  Ct 119 #[.string s, .int .i64 last] (.string F) w := by
 have t0 : ((last : Int) == 0) = false := by rw [beq_eq_false_iff_ne]; omega
 have hs1 : ¬ 9223372036854775807 < Z.size + s.size := by omega
 have k1 : (at' : Int) ≤ (M : Int) := by omega
 have k2 : (0 : Int) ≤ (at' : Int) := by omega
 have k3 : (M : Int) - (last : Int) = (at' : Int) := by omega
 have k4 : (M : Int) ≤ 2000000 := by omega
 go_enter Tryz.func119, Tryz.ntmps119
 go_wp2_with fail
 refine Bm (CR.out _) fun w1 b1 => ?_
 have B1 := Lh b1
 clear b1
 go_wp2_with fail
 clear hE hN hN2 hz hZ hs1 hlast
 go_quiet (fail)
 go_wp2
 go_ret
 exact ⟨congrArg (fun z => Ending.returned (.string z)) hF.out, Ae B1.out _⟩
theorem Vo : (⟨#[46]⟩ : ByteArray) = Ab [46] := rfl
theorem Afd (l : List Nat) (last : Nat) (h : last ≠ 0) : (ptL l last).length = max (last + 1) l.length + 1 := by
 unfold ptL
 rw [if_neg h]
 simp
 omega
theorem Ns {l : List Nat} {z : Nat} (h : ∀ c ∈ l, c < 256) : ∀ c ∈ List.replicate z 48 ++ l, c < 256 := by
 intro c hc
 rw [List.mem_append, List.mem_replicate] at hc
 rcases hc with ⟨_, rfl⟩ | hc
 ·omega
 ·exact h c hc
theorem O1 (l : List Nat) (last : Nat) (w : World) (hl : ∀ c ∈ l, c < 256) (hn : l.length ≤ 100000) (hlast : last ≤ 1000) :
  Ct 119 #[.string (Ab l), .int .i64 last] (.string (Ab (ptL l last))) w := by
 rcases Nat.eq_zero_or_pos last with h0 | h0
 ·subst h0
  refine Sm (Lw (Ab l) w) ?_
  exact ⟨rfl, Below.refl _ _⟩
 ·obtain ⟨z, hz⟩ : ∃ z, last + 1 - l.length = z := ⟨_, rfl⟩
  have hE : Ab (List.replicate z 48) ++ Ab l = Ab (List.replicate z 48 ++ l) := Az _ _
  have hb := Aj (Ns (z := z) hl)
  have hM : (Ab (List.replicate z 48 ++ l)).size = z + l.length := by rw [Ag, List.length_append, List.length_replicate]
  refine L3 (Ab l) (Ab (List.replicate z 48)) _ _ l.length (z + l.length) z last _ w h0 hlast (Ag _) (by omega) (by omega) (by rw [Ag, List.length_replicate]) hE hM rfl rfl (by omega) (Lh ?_) (Lh fun W => Jb z W (by omega))
  rw [Fp, show z + l.length = (Ab (List.replicate z 48 ++ l)).size from hM.symm, R9, hb, Vo, Az, Az, hM]
  unfold ptL
  rw [if_neg (by omega), hz, List.append_assoc, List.singleton_append]
def mnL (l : List Nat) : List Nat := if l.length ≤ 1 then l else l.take 1 ++ 46 :: l.drop 1
def sgL (e : Int) : List Nat := if e < 0 then [101, 45] else [101, 43]
def scL (l : List Nat) (e : Int) : List Nat := mnL l ++ sgL e ++ dL e.natAbs
theorem Xf (k : Nat) (w : World) (hk : k ≤ 9223372036854775807) (ht : Tab10 w) : Ct 149 #[.int .i64 k] (.string (Ab (dL k))) w := by
 refine (Tryz.strconv_Itoa (k : Int) (by omega) (by omega) w ht).mono ?_
 rintro e w' ⟨rfl, a, os, rfl⟩
 refine ⟨?_, Lib.below_grow _ _ (Nat.le_refl _) _ _⟩
 rw [Lib.itoa_nonneg]
 exact congrArg (fun z => Ending.returned (.string z)) (Fi rfl)
theorem K9 (s Y G I F : ByteArray) (N k : Nat) (E : Int) (w : World) (hN : s.size = N) (hk : k ≤ 100000) (hE : E = (k : Int)) (hN1 : N = 1)
  (hY : Hid (s = Y)) (hYs : Hid (Y.size ≤ 1000001)) (hG : Hid (Y ++ ⟨#[101, 43]⟩ = G)) (hGs : Hid (G.size ≤ 1000003)) (hIs : Hid (I.size ≤ 100)) (hF : Hid (G ++ I = F))
  (CI : Hid (∀ W, Below w.heap.size w W → Ct 149 #[.int .i64 k] (.string I) W)) :
  Ct 117 #[.string s, .int .i64 E] (.string F) w := by
 subst hE
 have t0 : ¬ (k : Int) < 0 := by omega
 have t1 : decide ((1 : Int) < (N : Int)) = false := decide_eq_false (by omega)
 have g1 : ¬ 9223372036854775807 < N + 2 := by omega
 have G1 := hG.out
 clear hN1
 have hY' := hY.out
 subst hY'
 go_enter Tryz.func117, Tryz.ntmps117
 have B1 := Lh (Below.refl w.heap.size w)
 have g2 : ¬ 9223372036854775807 < G.size + I.size := by have := hGs.out; have := hIs.out; omega
 have F1 := hF.out
 go_wp2_with fail
 refine Bm (CI.out _ B1.out) fun w2 b2 => ?_
 have B2 := Lh (Aa B1.out b2)
 clear b2
 go_wp2
 go_ret
 exact ⟨rfl, B2.out⟩
theorem Kt (s Y G I F : ByteArray) (N k : Nat) (E : Int) (w : World) (hN : s.size = N) (hN2 : N ≤ 1000000) (hk : k ≤ 100000) (hE : E = (k : Int)) (hN1 : 1 < N)
  (hY : Hid (s.extract 0 1 ++ ⟨#[46]⟩ ++ s.extract 1 N = Y)) (hYs : Hid (Y.size ≤ 1000001)) (hG : Hid (Y ++ ⟨#[101, 43]⟩ = G)) (hGs : Hid (G.size ≤ 1000003)) (hIs : Hid (I.size ≤ 100)) (hF : Hid (G ++ I = F))
  (CI : Hid (∀ W, Below w.heap.size w W → Ct 149 #[.int .i64 k] (.string I) W)) :
  Ct 117 #[.string s, .int .i64 E] (.string F) w := by
 subst hE
 have t0 : ¬ (k : Int) < 0 := by omega
 have t1 : (1 : Int) < (N : Int) := by omega
 have k4 : (N : Int) ≤ 1000000 := by omega
 clear hN1 hN2 
 go_enter Tryz.func117, Tryz.ntmps117
 go_wp2
 go_quiet (fail)
 have hY' := hY.out
 rw [hY']
 clear hY'
 rename_i nq
 have B1 := Lh (Ae (Below.refl w.heap.size w) nq)
 have g1 : ¬ 9223372036854775807 < Y.size + 2 := by have := hYs.out; omega
 have g2 : ¬ 9223372036854775807 < G.size + I.size := by have := hGs.out; have := hIs.out; omega
 have G2 := hG.out
 have F1 := hF.out
 go_wp2_with fail
 refine Bm (CI.out _ B1.out) fun w2 b2 => ?_
 have B2 := Lh (Aa B1.out b2)
 clear b2
 go_wp2
 go_ret
 exact ⟨rfl, B2.out⟩
theorem Lc (s Y G I F : ByteArray) (N k : Nat) (E : Int) (w : World) (hN : s.size = N) (hk : k ≤ 100000) (hE : -E = (k : Int)) (h0 : 0 < k) (hN1 : N = 1)
  (hY : Hid (s = Y)) (hYs : Hid (Y.size ≤ 1000001)) (hG : Hid (Y ++ ⟨#[101, 45]⟩ = G)) (hGs : Hid (G.size ≤ 1000003)) (hIs : Hid (I.size ≤ 100)) (hF : Hid (G ++ I = F))
  (CI : Hid (∀ W, Below w.heap.size w W → Ct 149 #[.int .i64 k] (.string I) W)) :
  Ct 117 #[.string s, .int .i64 E] (.string F) w := by
 have t0 : E < 0 := by omega
 have t3 : -100000 ≤ E := by omega
 have t1 : decide ((1 : Int) < (N : Int)) = false := decide_eq_false (by omega)
 have g1 : ¬ 9223372036854775807 < N + 2 := by omega
 have G1 := hG.out
 clear hN1 h0
 have hY' := hY.out
 subst hY'
 go_enter Tryz.func117, Tryz.ntmps117
 have B1 := Lh (Below.refl w.heap.size w)
 have g2 : ¬ 9223372036854775807 < G.size + I.size := by have := hGs.out; have := hIs.out; omega
 have F1 := hF.out
 go_wp2_with fail
 refine Bm (CI.out _ B1.out) fun w2 b2 => ?_
 have B2 := Lh (Aa B1.out b2)
 clear b2
 go_wp2
 go_ret
 exact ⟨rfl, B2.out⟩
theorem Jv (s Y G I F : ByteArray) (N k : Nat) (E : Int) (w : World) (hN : s.size = N) (hN2 : N ≤ 1000000) (hk : k ≤ 100000) (hE : -E = (k : Int)) (h0 : 0 < k) (hN1 : 1 < N)
  (hY : Hid (s.extract 0 1 ++ ⟨#[46]⟩ ++ s.extract 1 N = Y)) (hYs : Hid (Y.size ≤ 1000001)) (hG : Hid (Y ++ ⟨#[101, 45]⟩ = G)) (hGs : Hid (G.size ≤ 1000003)) (hIs : Hid (I.size ≤ 100)) (hF : Hid (G ++ I = F))
  (CI : Hid (∀ W, Below w.heap.size w W → Ct 149 #[.int .i64 k] (.string I) W)) :
  Ct 117 #[.string s, .int .i64 E] (.string F) w := by
 have t0 : E < 0 := by omega
 have t3 : -100000 ≤ E := by omega
 have t1 : (1 : Int) < (N : Int) := by omega
 have k4 : (N : Int) ≤ 1000000 := by omega
 clear hN1 hN2 h0
 go_enter Tryz.func117, Tryz.ntmps117
 go_wp2
 go_quiet (fail)
 have hY' := hY.out
 rw [hY']
 clear hY'
 rename_i nq
 have B1 := Lh (Ae (Below.refl w.heap.size w) nq)
 have g1 : ¬ 9223372036854775807 < Y.size + 2 := by have := hYs.out; omega
 have g2 : ¬ 9223372036854775807 < G.size + I.size := by have := hGs.out; have := hIs.out; omega
 have G2 := hG.out
 have F1 := hF.out
 go_wp2_with fail
 refine Bm (CI.out _ B1.out) fun w2 b2 => ?_
 have B2 := Lh (Aa B1.out b2)
 clear b2
 go_wp2
 go_ret
 exact ⟨rfl, B2.out⟩
theorem Af5 {l : List Nat} (hl : ∀ c ∈ l, c < 256) : ∀ c ∈ mnL l, c < 256 := by
 intro c hc
 unfold mnL at hc
 split at hc
 ·exact hl c hc
 ·rw [List.mem_append, List.mem_cons] at hc
  rcases hc with hc | rfl | hc
  ·exact hl c (List.mem_of_mem_take hc)
  ·omega
  ·exact hl c (List.mem_of_mem_drop hc)
theorem Oo (l : List Nat) : (mnL l).length ≤ l.length + 1 := by
 unfold mnL
 split
 ·omega
 ·simp
  omega
theorem Zo {n k : Nat} (h : n < 10 ^ k) (hk : 0 < k) : (dL n).length ≤ k := by
 rcases Nat.eq_zero_or_pos n with h0 | h0
 ·rw [h0, Df (by omega)]
  simp
  omega
 ·have := Jz (Nat.lt_of_le_of_lt (V3 h0) h)
  omega
theorem Jg (l : List Nat) (E : Int) (w : World) (hl : ∀ c ∈ l, c < 256) (hn0 : 1 ≤ l.length) (hn : l.length ≤ 1000000) (h1 : -100000 ≤ E) (h2 : E ≤ 100000) (ht : Tab10 w) :
  Ct 117 #[.string (Ab l), .int .i64 E] (.string (Ab (scL l E))) w := by
 obtain ⟨k, hk⟩ : ∃ k, E.natAbs = k := ⟨_, rfl⟩
 have hI : (Ab (dL k)).size ≤ 100 := by
  rw [Ag]
  exact Nat.le_trans (Zo (k := 6) (by omega) (by omega)) (by omega)
 have hY : (Ab (mnL l)).size ≤ 1000001 := by rw [Ag]; have := Oo l; omega
 have hG : (Ab (mnL l ++ sgL E)).size ≤ 1000003 := by
  rw [Ag, List.length_append]
  have := Oo l
  have : (sgL E).length = 2 := by unfold sgL; split <;> rfl
  omega
 have hF : Ab (mnL l ++ sgL E) ++ Ab (dL k) = Ab (scL l E) := by rw [Az, ← hk]; rfl
 have CI := Lh (fun W (hW : Below w.heap.size w W) => Xf k W (by omega) (ht.on hW))
 have hb := Aj hl
 have hsz := Ag l
 have hYY : ¬ l.length ≤ 1 → (Ab l).extract 0 1 ++ ⟨#[46]⟩ ++ (Ab l).extract 1 l.length = Ab (mnL l) := by
  intro h
  rw [Fp, ← hsz, R9, hb, Vo, Az, Az]
  unfold mnL
  rw [if_neg h, List.append_assoc, List.singleton_append]
 have hY1 : l.length ≤ 1 → Ab l = Ab (mnL l) := by
  intro h
  unfold mnL
  rw [if_pos h]
 by_cases hE : E < 0
 ·have hs : Ab (mnL l) ++ (⟨#[101, 45]⟩ : ByteArray) = Ab (mnL l ++ sgL E) := by
   unfold sgL
   rw [if_pos hE, ← Az]
   rfl
  by_cases hL : l.length ≤ 1
  ·exact Lc _ _ _ _ _ l.length k E w hsz (by omega) (by omega) (by omega) (by omega) (Lh (hY1 hL)) (Lh hY) (Lh hs) (Lh hG) (Lh hI) (Lh hF) CI
  ·exact Jv _ _ _ _ _ l.length k E w hsz hn (by omega) (by omega) (by omega) (by omega) (Lh (hYY hL)) (Lh hY) (Lh hs) (Lh hG) (Lh hI) (Lh hF) CI
 ·have hs : Ab (mnL l) ++ (⟨#[101, 43]⟩ : ByteArray) = Ab (mnL l ++ sgL E) := by
   unfold sgL
   rw [if_neg hE, ← Az]
   rfl
  by_cases hL : l.length ≤ 1
  ·exact K9 _ _ _ _ _ l.length k E w hsz (by omega) (by omega) (by omega) (Lh (hY1 hL)) (Lh hY) (Lh hs) (Lh hG) (Lh hI) (Lh hF) CI
  ·exact Kt _ _ _ _ _ l.length k E w hsz hn (by omega) (by omega) (by omega) (Lh (hYY hL)) (Lh hY) (Lh hs) (Lh hG) (Lh hI) (Lh hF) CI
end
section
theorem Aax (s : Bool) (n d : Nat) : Ieee.Toward.zero.cut s n d = n / 2 ^ d := by
 unfold Ieee.Toward.cut
 simp only
 rw [Nat.one_shiftLeft]
 show n / 2 ^ min d (n.log2 + 2) + 0 = _
 rw [Nat.add_zero]
 by_cases hm : d ≤ n.log2 + 2
 ·rw [Nat.min_eq_left hm]
 ·rw [Nat.min_eq_right (by omega)]
  have hlt : n < 2 ^ (n.log2 + 2) := by
   rcases Nat.eq_zero_or_pos n with h0 | h0
   ·rw [h0]; exact Nat.two_pow_pos _
   ·have := (Di n h0).2
    have h9 : 2 ^ (n.log2 + 1) ≤ 2 ^ (n.log2 + 2) := Nat.pow_le_pow_right (by omega) (by omega)
    omega
  have hlt2 : n < 2 ^ d := Nat.lt_of_lt_of_le hlt (Nat.pow_le_pow_right (by omega) (by omega))
  rw [Nat.div_eq_of_lt hlt, Nat.div_eq_of_lt hlt2]
theorem Xo {r : Nat} (hr : r < 9218868437227405312) : (FloatKind.f64.decode r).toInt .zero = some ((Ac r / big : Nat) : Int) := by
 obtain ⟨K, hK, hb⟩ := I8
 obtain ⟨m, e, h1, h2, h3⟩ := K0 hr
 rw [show FloatKind.f64.decode r = Ieee.double.read r from rfl, h1]
 unfold Ieee.Datum.toInt Ieee.Datum.integral
 simp only [Aax, Iq, Nat.pow_zero, Nat.mul_one]
 have hq : (m <<< e.toNat) / 2 ^ (-e).toNat = Ac r / big := by
  rw [hb]
  have hA : Ac r * 2 ^ (-e).toNat = (m <<< e.toNat) * 2 ^ K := by
   rw [h3, Nat.shiftLeft_eq, Nat.mul_assoc, Nat.mul_assoc, ← Nat.pow_add, ← Nat.pow_add, show (e + 1074).toNat + (-e).toNat = e.toNat + K by omega]
  rw [← Nat.mul_div_mul_right (m <<< e.toNat) (2 ^ (-e).toNat) (Nat.two_pow_pos K), ← hA, Nat.mul_comm (2 ^ (-e).toNat), Nat.mul_div_mul_right _ _ (Nat.two_pow_pos _)]
 rw [hq]
 rfl
theorem Acz {x T : Nat} (hx : x < 9218868437227405312) (hT : Ac x / big = T) (h : T < 9223372036854775808) (W : World) : (convert 22 40 (.float .f64 x)).run Tryz.prog W = .ok (.int .u64 (T : Int)) W := by
 refine run_convert_float_int W 22 40 .f64 .u64 _ _ (by kernel_rfl) (by kernel_rfl) ?_
 unfold floatToIntVal
 rw [Xo hx, hT]
 simp only
 have m1 : IntKind.u64.min = 0 := rfl
 have m2 : IntKind.u64.max = 18446744073709551615 := rfl
 rw [if_pos (by rw [m1, m2]; omega)]
theorem Fc {x : Nat} (h : x ≤ 9218868437227405312) : De x = (x : Int) ∧ Aw x = x := by
 have h1 : Aw x = x := by unfold Aw; omega
 have h2 : Bj x = false := by unfold Bj; rw [show x / 9223372036854775808 % 2 = 0 by omega]; rfl
 refine ⟨?_, h1⟩
 unfold De
 rw [h2, h1]
 rfl
theorem Lj {x y : Nat} (hx : x ≤ 9218868437227405312) (hy : y ≤ 9218868437227405312) : (FloatKind.f64.format.order x y == some .lt) = decide (x < y) := by
 obtain ⟨a1, a2⟩ := Fc hx
 obtain ⟨b1, b2⟩ := Fc hy
 rw [show FloatKind.f64.format.order x y = Ieee.double.order x y from rfl, Cz (by omega) (by omega), a1, b1, Bool.eq_iff_iff, beq_iff_eq, decide_eq_true_iff]
 rw [Option.some.injEq, Int.compare_eq_lt]
 omega
theorem Hb {x y : Nat} (hx : x ≤ 9218868437227405312) (hy : y ≤ 9218868437227405312) : (FloatKind.f64.format.order x y == some .eq) = decide (x = y) := by
 obtain ⟨a1, a2⟩ := Fc hx
 obtain ⟨b1, b2⟩ := Fc hy
 rw [show FloatKind.f64.format.order x y = Ieee.double.order x y from rfl, Cz (by omega) (by omega), a1, b1, Bool.eq_iff_iff, beq_iff_eq, decide_eq_true_iff]
 rw [Option.some.injEq, Int.compare_eq_eq]
 omega
theorem Aae {x : Nat} (h : x < 4845873199050653696) : Ac x / big < 9007199254740992 := by
 obtain ⟨K, hK, hb⟩ := I8
 obtain ⟨J, hJ⟩ : ∃ J : Nat, J = 1075 := ⟨_, rfl⟩
 have h2 := Ap 4503599627370496 J (by omega) (by omega)
 rw [hJ, show 1075 * 4503599627370496 + 4503599627370496 = 4845873199050653696 from rfl, ← hJ] at h2
 have h1 := D1.2 h
 rw [Nat.div_lt_iff_lt_mul Em, hb]
 rw [h2, show J = 1 + K by omega, Nat.pow_add, ← Nat.mul_assoc] at h1
 exact h1
theorem Rg {x T : Nat} (hx : x < 9218868437227405312) (hT : T < 9007199254740992) : (FloatKind.f64.format.order x (fl T) == some .eq) = decide (Ac x = T * big) := by
 obtain ⟨K, hK, hb⟩ := I8
 obtain ⟨f1, f2⟩ := Ou hT hK
 rw [Hb (by omega) (by omega), hb, ← f1]
 refine decide_eq_decide.2 ⟨fun h => by rw [h], fun h => Gb h⟩
end
end Go.Proofs.YtmakhfekiieneaaGreatDoor
