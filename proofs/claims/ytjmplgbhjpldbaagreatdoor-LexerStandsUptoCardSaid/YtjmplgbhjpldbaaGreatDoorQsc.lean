/-
  Merged texts (BD, BF, BG, Nv, Dq, De, Le, Ma, Nk, Tc, Nl, Nm).
-/
import Derived.Test.YtjmplgbhjpldbaaGreatDoorQsb
import Derived.Shelf.Strings.SlTrimAscii
import Derived.Shelf.Strings.Builder1
import Derived.Shelf.Strings.Builder2
import Derived.Shelf.Strings.OnBuilder
import Derived.Shelf.Strings.Trim
import Derived.Shelf.Small.Utf8
import Derived.Shelf.Small.Bits
import Derived.Shelf.Small.Strs
import Derived.Shelf.Small.Wraps
import Derived.Shelf.Strings.BuilderF
import Derived.Shelf.Strings.BuilderK
import Derived.Shelf.Strings.BuilderRune
import Derived.Shelf.Utf8.AppendRune
import Derived.Shelf.Strconv.Itoa0
import Derived.Shelf.Strings.Search1
import Derived.Shelf.Strings.Prefix
import Derived.Shelf.Unicode.Latin
import Derived.Shelf.Strings.Runes
import Derived.Shelf.Strings.AsciiSet
import Derived.Shelf.Unicode.DecodeSlow
import Derived.Shelf.Unicode.CaseLookup
import Derived.Shelf.Unicode.CaseConvert
import Derived.Shelf.Unicode.CaseTo
import Derived.Shelf.Unicode.CaseLaid
import Derived.Test.YtjmplgbhjpldbaaGreatDoorProg
import GoSem.Core.Utf8
import Derived.WalkKit
import Derived.WalkSpells
import Derived.WalkLawsBesides
import Derived.Deep.QuietTactic
import Derived.BigQuiet
import Derived.Lib.Hide
import Derived.Deep.OwnRows
import Derived.Laws.CopyOwn
import Derived.Deep.AppendLies
import Derived.Lib.BitFns
import Derived.Lib.Strings
import Derived.Laws.BitsAllLaws
import Derived.Lib.LaidTab
import Derived.Laws.BytesString
import Derived.Laws.Cells
import Derived.Lib.RuneBytes
import Derived.ProofKit
import Derived.OpenShut
import Derived.SizedLaws
import Derived.Deep.RegionWith
import Derived.BigRegion
import Derived.Test.YtjmplgbhjpldbaaGreatDoorRows
import Derived.Lib.ItoaNum
import Derived.Deep.DeepCutAuto
import Derived.Deep.RegionHeld3
import Derived.Laws.Closers25b
import Ieee.Arith
import GoSem.Core.Float
import Derived.Laws.FloatArith
import Derived.Laws.Externs
import Derived.Deep.WholeRow
import Derived.Laws.Tables
import Derived.Laws.EntriesVeiled
import Derived.Lib.SlTrimSet
import Derived.Lib.Case
import Derived.Lib.AppendIntMem
import Derived.OwnWalk
namespace Go.Proofs.YtjmplgbhjpldbaaGreatDoor
open Go.RowKit
def OneP (L : List Nat) (N : Nat) (w : World) (e : Ending) (w' : World) : Prop := ∃ A c, e = .returned (.tuple #[.slice A N c, .int .i64 0]) ∧ (N ≤ c ∧ RW w' w'.heap.size A L) ∧ Below w.heap.size w w'
theorem NatPost.one {v N : Nat} {w w' : World} {e : Ending} (h : NatPost v w e w') (hl : lngB v = false) (hN : (wds v).length = N) : OneP (wds v) N w e w' := by
 obtain ⟨A, c, h1, h2, h3⟩ := h.get hl
 rw [hN] at h1 h2
 exact ⟨A, c, h1, h2, h3⟩
end Go.Proofs.YtjmplgbhjpldbaaGreatDoor
namespace Go.Proofs.YtjmplgbhjpldbaaGreatDoor
structure LongT (A D n M i : Nat) (R Q : List Nat) : Prop where
 lenR : R.length = M + n
 lenQ : Q.length = M
 wsR : Ws R
 wsQ : Ws Q
 sum : val R + 4294967296 ^ i * (val (Q.drop i) * D) = A
 rest : val (R.drop i) < D
theorem LongT.start {va vb s la n M : Nat} {R : List Nat} (hR : Ws R) (hl : R.length = M + n) (hM : la + 1 = M + n) (hn : 0 < n) (ha : va < 4294967296 ^ la) (hb : 4294967296 ^ (n - 1) ≤ vb) (hv : val R = 2 ^ s * va) :
  LongT (2 ^ s * va) (2 ^ s * vb) n M M R (List.replicate M 0) := by
 refine ⟨hl, List.length_replicate, hR, Ws.zeros _, ?_, ?_⟩
 ·rw [List.drop_of_length_le (by rw [List.length_replicate]; exact Nat.le_refl _)]
  simp [val, hv]
 ·have e := val_split R M (by omega)
  rw [hv] at e
  have e2 : 4294967296 ^ la = 4294967296 ^ M * 4294967296 ^ (n - 1) := by rw [← Nat.pow_add]; congr 1; omega
  have h1 : 2 ^ s * va < 2 ^ s * (4294967296 ^ M * 4294967296 ^ (n - 1)) := by rw [← e2]; exact Nat.mul_lt_mul_of_pos_left ha (Nat.two_pow_pos s)
  have h2 : 4294967296 ^ M * val (R.drop M) < 4294967296 ^ M * (2 ^ s * 4294967296 ^ (n - 1)) := by
   have : 4294967296 ^ M * (2 ^ s * 4294967296 ^ (n - 1)) = 2 ^ s * (4294967296 ^ M * 4294967296 ^ (n - 1)) := by grind
   omega
  have h3 := Nat.lt_of_mul_lt_mul_left h2
  exact Nat.lt_of_lt_of_le h3 (Nat.mul_le_mul_left _ hb)
theorem LongT.part {A D n M i : Nat} {R Q : List Nat} (h : LongT A D n M (i + 1) R Q) (hi : i < M) (hD : D < 4294967296 ^ n) :
  val ((R.drop i).take (n + 1)) = val (R.drop i) ∧ val ((R.drop i).take (n + 1)) < 4294967296 * D := by
 have e := val_drop_cons R i (by have := h.lenR; omega)
 have h1 := h.wsR.getD i
 have h2 := h.rest
 have h3 : val (R.drop i) < 4294967296 * D := by
  have : 4294967296 * (val (R.drop (i + 1)) + 1) ≤ 4294967296 * D := Nat.mul_le_mul_left _ h2
  omega
 have h4 : val (R.drop i) < 4294967296 ^ (n + 1) := by
  rw [Nat.pow_succ, Nat.mul_comm]
  exact Nat.lt_trans h3 (Nat.mul_lt_mul_of_pos_left hD (by omega))
 have h5 := val_take_small h4
 exact ⟨h5, by rw [h5]; exact h3⟩
theorem LongT.next {A D n M i : Nat} {R Q S : List Nat} (h : LongT A D n M (i + 1) R Q) (hi : i < M) (hD : D < 4294967296 ^ n) (hD0 : 0 < D)
  (hlen : S.length = R.length) (hws : Ws S) (hfar : ∀ j, j < i ∨ i + (n + 1) ≤ j → S.getD j 0 = R.getD j 0)
  (hs : val ((S.drop i).take (n + 1)) = val ((R.drop i).take (n + 1)) % D) :
  LongT A D n M i S (Q.set i (val ((R.drop i).take (n + 1)) / D)) := by
 obtain ⟨p1, p2⟩ := h.part hi hD
 obtain ⟨h1, h2, h3, h4, h5, h6⟩ := h
 have hq : val ((R.drop i).take (n + 1)) / D < 4294967296 := by rw [Nat.div_lt_iff_lt_mul hD0]; exact p2
 have r1 := val_split (R.drop i) (n + 1) (by rw [List.length_drop]; omega)
 have s1 := val_split (S.drop i) (n + 1) (by rw [List.length_drop]; omega)
 have e1 : val ((S.drop i).drop (n + 1)) = val ((R.drop i).drop (n + 1)) := by
  rw [List.drop_drop, List.drop_drop]
  exact val_eq (fun j => by rw [getD_drop, getD_drop]; exact hfar _ (.inr (by omega)))
 have e2 : 4294967296 ^ (n + 1) * val ((R.drop i).drop (n + 1)) = 0 := by omega
 rw [e1, e2, Nat.add_zero] at s1
 have e3 : val (R.take i) = val (S.take i) := by
  rw [take_congr (l := R) (m := S) i (by omega) (by omega) (fun j hj => (hfar j (.inl hj)).symm)]
 have r2 := val_split R i (by omega)
 have s2 := val_split S i (by omega)
 have e4 : val (R.drop i) = val (S.drop i) + val (R.drop i) / D * D := by
  rw [s1, hs, p1, Nat.mul_comm]
  exact (Nat.mod_add_div _ _).symm
 have q1 := val_drop_cons (Q.set i (val ((R.drop i).take (n + 1)) / D)) i (by rw [List.length_set]; omega)
 rw [getD_set_eq (by omega)] at q1
 have e5 : (Q.set i (val ((R.drop i).take (n + 1)) / D)).drop (i + 1) = Q.drop (i + 1) := by
  rw [List.drop_set, if_pos (by omega)]
 rw [e5] at q1
 refine ⟨by omega, by rw [List.length_set]; exact h2, hws, h4.set hq, ?_, ?_⟩
 ·rw [q1, s2, ← e3, p1]
  rw [r2] at h5
  rw [Nat.pow_succ] at h5
  generalize val (R.drop i) / D = q at *
  generalize val (Q.drop (i + 1)) = V at *
  generalize 4294967296 ^ i = K at *
  rw [e4] at h5
  grind
 ·rw [s1, hs]; exact Nat.mod_lt _ hD0
theorem LongT.fin {A D n M : Nat} {R Q : List Nat} (h : LongT A D n M 0 R Q) (hD0 : 0 < D) : val Q = A / D ∧ val R = A % D := by
 obtain ⟨h1, h2, h3, h4, h5, h6⟩ := h
 rw [Nat.pow_zero, Nat.one_mul, List.drop_zero] at h5
 rw [List.drop_zero] at h6
 have e1 : A / D = val Q := by
  rw [← h5, Nat.add_mul_div_right _ _ hD0, Nat.div_eq_of_lt h6, Nat.zero_add]
 have e2 := Nat.mod_add_div A D
 rw [e1] at e2
 refine ⟨e1.symm, ?_⟩
 rw [Nat.mul_comm] at e2
 omega
/-! ### bit by bit -/
end Go.Proofs.YtjmplgbhjpldbaaGreatDoor
namespace Go.Proofs.YtjmplgbhjpldbaaGreatDoor
open Go.RowKit
def gues (hi lo y : Nat) : Nat := if y ≤ hi then 4294967295 else (hi * 4294967296 + lo) / y
set_option maxHeartbeats 1000000 in
theorem guess_any (hi lo y : Nat) (w : World) (hl : lo < 4294967296) (hy : y < 4294967296) :
  Cp 214 #[.int .u32 hi, .int .u32 lo, .int .u32 y] w fun e w' => e = .returned (.int .u32 (gues hi lo y : Nat)) ∧ ∃ j, w' = w.drewN j := by
 unfold gues
 by_cases h : y ≤ hi
 ·rw [if_pos h]
  have y1 : (y : Int) ≤ (hi : Int) := by omega
  clear hl hy h
  go_enter Tryz.func214, Tryz.ntmps214
  go_wp2
  go_ret
  exact ⟨rfl, 0, rfl⟩
 ·rw [if_neg h]
  have C1 := Lib.hid (fun W => div32_any hi lo y W (by omega) hl hy)
  have y1 : ¬ (y : Int) ≤ (hi : Int) := by omega
  obtain ⟨q, hq⟩ : ∃ q, (hi * 4294967296 + lo) / y = q := ⟨_, rfl⟩
  obtain ⟨r, hr⟩ : ∃ r, (hi * 4294967296 + lo) % y = r := ⟨_, rfl⟩
  rw [hq, hr] at C1
  rw [hq]
  clear hl hy h hq hr
  go_enter Tryz.func214, Tryz.ntmps214
  go_wp2_with fail
  refine (C1.out _).mono ?_
  rintro e w' ⟨rfl, j, rfl⟩
  go_wp2
  go_ret
  exact ⟨rfl, j, rfl⟩

end Go.Proofs.YtjmplgbhjpldbaaGreatDoor
namespace Go.Proofs.YtjmplgbhjpldbaaGreatDoor
open Go.RowKit
def TakePost (g : Nat) (R : List Nat) (o : Nat) (b : List Nat) (x : Nat) (w : World) (e : Ending) (w' : World) : Prop :=
 ∃ S q, e = .returned (.int .u32 (q : Nat)) ∧ Row w' g S ∧ TakeT R o b x b.length S q ∧ Only g w w'
set_option maxRecDepth 100000 in
set_option maxHeartbeats 2000000 in
theorem subTimes_any (g o n c : Nat) (R : List Nat) (A : Option Addr) (m d : Nat) (b : List Nat) (x B : Nat) (w : World) (hR : Row w g R) (hRw : Ws R) (ho : o + n ≤ R.length) (hmn : m ≤ n) (hbl : b.length = m) (hm0 : 0 < m)
  (hB : RW w B A b) (hgB : B ≤ g) (hx : x < 4294967296) (hm : R.length ≤ 35184372088832) :
  Cp 215 #[.slice (some ⟨g, o, none⟩) n c, .slice A m d, .int .u32 x] w (TakePost g R o b x w) := by
 obtain ⟨a, p, rfl, hab, hc⟩ := hB.2 (by omega)
 have HBW := Lib.hid hB.1
 have HRW := Lib.hid hRw
 have HBL := Lib.hid hbl
 have HC := Lib.hid hc
 have HX := Lib.hid hx
 have HR := Lib.hid hR
 have hm1 : (m : Int) ≤ (n : Int) := by omega
 have hn1 : (n : Int) ≤ 35184372088832 := by omega
 have HO := Lib.hid ho
 have hag : a < g := by omega
 have h0' : (0 : Int) ≤ (x : Int) := by omega
 clear hR hRw ho hmn hbl hB hgB hx hm hc hm0
 go_enter Tryz.func215, Tryz.ntmps215
 go_wp2
 go_loopw [14, 7] (fun i v wr => ∃ (k : Nat) (S : List Nat) (q : Nat), i = .int .i64 k ∧ v = .int .u64 (q : Nat) ∧ k ≤ m ∧ Hid (Row wr g S) ∧ Hid (TakeT R o b x k S q) ∧ Only g w wr) (fun i _ _ => m - (intOf i).toNat)
 case atStart => exact ⟨0, R, 0, rfl, rfl, Nat.zero_le _, HR, Lib.hid (TakeT.start o b x HRW.out), Only.refl _ _⟩
 case round =>
  obtain ⟨k, S, q, rfl, rfl, hk, HS, HT, hbw⟩ := hrel
  by_cases hlt : k < m
  ·have hkb : k < b.length := by rw [HBL.out]; exact hlt
   have hok : o + k < R.length := by have := HO.out; omega
   obtain ⟨e1, hnext⟩ := HT.out.next HRW.out HBW.out HX.out hok
   have hS := HS.out.cell (o + k) (by rw [HT.out.len]; exact hok)
   have hfz := HS.out.frozen (o + k)
   have hcl := HC.out k _ (getD_some hkb)
   rw [← hbw.below.cell (p := ⟨a, p + k, none⟩) hag] at hcl
   obtain ⟨l1, l2⟩ := takC_le (k := k) HBW.out HX.out HT.out.low
   have hset := HS.out.set (o + k) (takW (R.getD (o + k) 0) (takC b x k q))
   have HE := Lib.hid (show takC b x k q = q + b.getD k 0 * x from rfl)
   have u1 := HBW.out.getD k
   have r1 := HRW.out.getD (o + k)
   have q1 := HT.out.low
   rw [e1] at hS
   obtain ⟨t, ht⟩ : ∃ t, takC b x k q = t := ⟨_, rfl⟩
   obtain ⟨u, hu⟩ : ∃ u, b.getD k 0 = u := ⟨_, rfl⟩
   obtain ⟨r, hr⟩ : ∃ r, R.getD (o + k) 0 = r := ⟨_, rfl⟩
   rw [ht, hu] at HE
   rw [ht] at l2
   rw [hr, ht] at hnext hset
   rw [hu] at hcl l1 u1
   rw [hr] at hS r1
   have low := tak_low r t l2
   have C1 := Lib.hid (fun W => show Cp 216 #[.int .u32 (r : Nat), .int .u32 ((t : Int) % 4294967296), .int .u32 0] W fun e w' => e = .returned (.tuple #[.int .u32 (takW r t : Nat), .int .u32 (takB r t : Nat)]) ∧ W = w' from by
    have := sub32_any r (t % 4294967296) 0 W r1 (by omega) (by omega)
    rw [show ((t % 4294967296 : Nat) : Int) = (t : Int) % 4294967296 by omega] at this
    exact this)
   obtain ⟨W', hW'⟩ : ∃ W', takW r t = W' := ⟨_, rfl⟩
   obtain ⟨B', hB'⟩ : ∃ B', takB r t = B' := ⟨_, rfl⟩
   rw [hW', hB'] at C1 hnext
   rw [hW'] at hset
   rw [hB'] at low
   have hB1 : B' ≤ 1 := by rw [← hB']; unfold takB; split <;> omega
   have HNX := Lib.hid hnext
   have k1 : IntKind.u64.wrap (u : Int) = (u : Int) := IntWalk.u64_in _ (by omega)
   have k2 : IntKind.u64.wrap (x : Int) = (x : Int) := IntWalk.u64_in _ (by have := HX.out; omega)
   have k4 : IntKind.u64.wrap ((u : Int) * (x : Int)) = (u : Int) * (x : Int) := IntWalk.u64_in _ (by
    have : ((u * x : Nat) : Int) = (u : Int) * (x : Int) := Int.natCast_mul u x
    omega)
   have k6 : IntKind.u64.wrap ((q : Int) + (u : Int) * (x : Int)) = (t : Int) := by
    have : ((u * x : Nat) : Int) = (u : Int) * (x : Int) := Int.natCast_mul u x
    have := HE.out
    rw [IntWalk.u64_in _ (by omega)]
    omega
   obtain ⟨T, hT⟩ : ∃ T, t / 4294967296 + B' = T := ⟨_, rfl⟩
   have k7 : IntKind.u64.wrap (B' : Int) = (B' : Int) := IntWalk.u64_in _ (by omega)
   have k8 : IntKind.u64.wrap ((t : Int) / 4294967296 + (B' : Int)) = (T : Int) := by rw [IntWalk.u64_in _ (by omega)]; omega
   rw [hT] at HNX
   have HSET := Lib.hid hset
   clear e1 hnext l1 l2 u1 r1 q1 ht hu hr hkb hok hset low hW' hB' hB1 hT HE
   go_wp2_with (go_at_call 216; refine (C1.out _).mono ?_; rintro e w' ⟨rfl, rfl⟩)
   go_roundw
   case rel => exact ⟨k + 1, _, T, by go_num, rfl, by omega, HSET, HNX, hbw.setCell _⟩
   case measure => simp [intOf]; omega
  ·have HZ := Lib.hid (show k = b.length by rw [HBL.out]; omega)
   have q1 := HT.out.low
   have k1 : IntKind.u32.wrap (q : Int) = (q : Int) := IntWalk.u32_in _ (by omega)
   have HT2 := Lib.hid (HZ.out ▸ HT.out : TakeT R o b x b.length S q)
   clear q1
   go_wp2
   go_ret
   exact ⟨S, q, rfl, HS.out, HT2.out, hbw⟩
theorem quiet_plus {P : Program} {f : FuncId} {args : Array Value} {w : World} {n : Nat} {v : Value}
  (h : Calls P f args (w.drewN n) fun e w' => e = .returned v ∧ ∃ j, w' = (w.drewN n).drewN j) : Calls P f args (w.drewN n) fun e w'' => e = .returned v ∧ ∃ m, w'' = w.drewN m :=
 h.mono fun _ _ ⟨he, j, hj⟩ => ⟨he, n + j, by rw [hj, World.drewN_drewN]⟩
def StepPost (g : Nat) (R : List Nat) (o : Nat) (b : List Nat) (w : World) (e : Ending) (w' : World) : Prop :=
 ∃ S, e = .returned (.int .u32 ((val ((R.drop o).take (b.length + 1)) / val b : Nat) : Int)) ∧ Row w' g S ∧ S.length = R.length ∧ Ws S ∧ (∀ j, j < o ∨ o + (b.length + 1) ≤ j → S.getD j 0 = R.getD j 0) ∧
  val ((S.drop o).take (b.length + 1)) = val ((R.drop o).take (b.length + 1)) % val b ∧ Only g w w'
theorem guess_high {R : List Nat} {o N : Nat} {b : List Nat} (hR : Ws R) (hb : Ws b) (hN : b.length = N + 1) (ho : o + b.length < R.length) (hb0 : 0 < val b) (htop : 0 < b.getD N 0)
  (hP : val ((R.drop o).take (b.length + 1)) < 4294967296 * val b) :
  val ((R.drop o).take (b.length + 1)) / val b ≤ gues (R.getD (o + (N + 1)) 0) (R.getD (o + N) 0) (b.getD N 0) ∧ gues (R.getD (o + (N + 1)) 0) (R.getD (o + N) 0) (b.getD N 0) < 4294967296 := by
 have hlo := hR.getD (o + N)
 have hy := hb.getD N
 refine ⟨?_, ?_⟩
 ·unfold gues
  split
  ·have : val ((R.drop o).take (b.length + 1)) / val b < 4294967296 := by rw [Nat.div_lt_iff_lt_mul hb0]; exact hP
   omega
  ·rw [hN]
   refine guess_div (p' := val ((R.drop o).take N)) (d' := val (b.take N)) (K := 4294967296 ^ N) ?_ ?_ ?_ htop
   ·rw [val_part_succ R o (N + 1) (by omega), val_part_succ R o N (by omega), Nat.pow_succ]
    grind
   ·have := val_lt ((hR.drop o).take N)
    rwa [List.length_take, List.length_drop, Nat.min_eq_left (by omega)] at this
   ·have := val_take_succ b N (by omega)
    rw [List.take_of_length_le (by omega)] at this
    rw [this]
 ·unfold gues
  split
  ·omega
  ·next h =>
   rw [Nat.div_lt_iff_lt_mul htop]
   have : (R.getD (o + (N + 1)) 0 + 1) * 4294967296 ≤ b.getD N 0 * 4294967296 := Nat.mul_le_mul_right _ (by omega)
   omega
set_option maxRecDepth 100000 in
set_option maxHeartbeats 4000000 in
theorem step_any (g o n c : Nat) (R : List Nat) (A : Option Addr) (N m d : Nat) (b : List Nat) (B : Nat) (w : World) (hR : Row w g R) (hRw : Ws R) (hn : n = N + 2) (hmN : m = N + 1) (ho : o + n ≤ R.length) (hbl : b.length = N + 1)
  (hB : RW w B A b) (hgB : B ≤ g) (hm : R.length ≤ 35184372088832) (hb0 : 0 < val b) (htop : 0 < b.getD N 0) (hP : val ((R.drop o).take (b.length + 1)) < 4294967296 * val b) :
  Cp 211 #[.slice (some ⟨g, o, none⟩) n c, .slice A m d] w (StepPost g R o b w) := by
 subst hn
 subst hmN
 obtain ⟨a, p, rfl, hab, hc⟩ := hB.2 (by omega)
 obtain ⟨gh1, gh2⟩ := guess_high hRw hB.1 hbl (by omega) hb0 htop hP
 have d1 := hc N _ (getD_some (by omega))
 have d2 := hR.cell (o + (N + 1)) (by omega)
 have d3 := hR.cell (o + N) (by omega)
 have l1 := hRw.getD (o + (N + 1))
 have l2 := hRw.getD (o + N)
 have l3 := hB.1.getD N
 have C1 := Lib.hid (fun W => guess_any (R.getD (o + (N + 1)) 0) (R.getD (o + N) 0) (b.getD N 0) W l2 l3)
 obtain ⟨x, hx⟩ : ∃ x, gues (R.getD (o + (N + 1)) 0) (R.getD (o + N) 0) (b.getD N 0) = x := ⟨_, rfl⟩
 rw [hx] at C1 gh1 gh2
 obtain ⟨u1, hu1⟩ : ∃ u, R.getD (o + (N + 1)) 0 = u := ⟨_, rfl⟩
 obtain ⟨u2, hu2⟩ : ∃ u, R.getD (o + N) 0 = u := ⟨_, rfl⟩
 obtain ⟨u3, hu3⟩ : ∃ u, b.getD N 0 = u := ⟨_, rfl⟩
 rw [hu1, hu2, hu3] at C1
 rw [hu1] at d2 l1
 rw [hu2] at d3
 rw [hu3] at d1
 have C2 := Lib.hid (fun j => subTimes_any g o (N + 2) c R (some ⟨a, p, none⟩) (N + 1) d b x B (w.drewN j) (hR.drewN j) hRw ho (by omega) hbl (by omega) (hB.drewN j) hgB gh2 hm)
 have HRW := Lib.hid hRw
 have HBL := Lib.hid hbl
 have HB := Lib.hid hB
 have HGB := Lib.hid hgB
 have HO := Lib.hid ho
 have HB0 := Lib.hid hb0
 have HG := Lib.hid gh1
 have HG2 := Lib.hid gh2
 have HU1 := Lib.hid hu1
 have HM := Lib.hid hm
 have hN1 : (N : Int) + 2 ≤ 35184372088832 := by omega
 have hoN1 : (o : Int) + (N : Int) + 2 ≤ 35184372088832 := by omega
 have L1 := Lib.hid l1
 clear hR hRw ho hbl hB hgB hm hb0 htop hP hc gh1 gh2 l1 l2 l3 hx hu1 hu2 hu3 hab
 go_enter Tryz.func211, Tryz.ntmps211
 go_wp2
 go_quiet ((go_at_call 214; exact quiet_plus (C1.out _)))
 go_wp2_with fail
 refine (C2.out _).mono ?_
 rintro e w2 ⟨S, q, rfl, hrow, ht, hb2⟩
 have hbw2 : Only g w w2 := ((Only.refl _ _).drewN nq).trans hb2
 have hql := ht.low
 have hSl := ht.len
 obtain ⟨e1, hst⟩ := ht.step (by rw [HBL.out]; have := HO.out; omega) HRW.out HG2.out HG.out
 rw [HBL.out, HU1.out] at e1 hst
 have hcell := hrow.cell (o + (N + 1)) (by rw [hSl]; have := HO.out; omega)
 have hfz := hrow.frozen (o + (N + 1))
 rw [e1] at hcell
 have C3 := Lib.hid (fun W => show Cp 216 #[.int .u32 (u1 : Nat), .int .u32 (q : Nat), .int .u32 0] W fun e w' => e = .returned (.tuple #[.int .u32 ((u1 + 4294967296 * 2 - q - 0) % 4294967296 : Nat), .int .u32 ((if u1 < q + 0 then 1 else 0 : Nat) : Int)]) ∧ W = w' from sub32_any u1 q 0 W L1.out hql (by omega))
 obtain ⟨W3, hW3⟩ : ∃ W3, (u1 + 4294967296 * 2 - q - 0) % 4294967296 = W3 := ⟨_, rfl⟩
 obtain ⟨B3, hB3⟩ : ∃ B3, (if u1 < q + 0 then 1 else 0) = B3 := ⟨_, rfl⟩
 rw [hW3, hB3] at C3 hst
 have HROW := Lib.hid (hrow.set (o + (N + 1)) W3)
 have HST := Lib.hid hst
 have HBW := Lib.hid hbw2
 clear hrow ht hb2 hbw2 hql hSl e1 hst hW3 hB3 C1 C2
 go_wp2_with (go_at_call 216; refine (C3.out _).mono ?_; rintro e w' ⟨rfl, rfl⟩)
 go_loopw [6, 8] (fun ov bv wr => ∃ (of bl : Nat) (S : List Nat), ov = .int .u32 (of : Nat) ∧ bv = .int .u32 (bl : Nat) ∧ Hid (Row wr g S) ∧ Hid (StepT R o b S of bl) ∧ Only g w wr) (fun ov _ _ => (intOf ov).toNat)
 case atStart => exact ⟨x, B3, _, rfl, rfl, HROW, HST, HBW.out.setCell _⟩
 case round =>
  obtain ⟨of, bl, T, rfl, rfl, HR2, HT2, hbw⟩ := hrel
  have hbl : bl = 0 ∨ bl = 1 := by have := HT2.out.low; omega
  rcases hbl with h0 | h0
  ·have b0 : ((bl : Int) == 1) = false := by rw [h0]; rfl
   rw [h0] at HT2
   obtain ⟨f1, f2⟩ := HT2.out.fin HB0.out
   have HF1 := Lib.hid f1
   have HF2 := Lib.hid f2
   clear f1 f2 h0
   go_wp2
   go_ret
   exact ⟨T, congrArg (fun k : Nat => Ending.returned (.int .u32 (k : Int))) HF1.out, HR2.out, HT2.out.len, HT2.out.ws, HT2.out.far, HF2.out, hbw⟩
  ·have b0 : ((bl : Int) == 1) = true := by rw [h0]; rfl
   rw [h0] at HT2
   have HBL1 := Lib.hid h0
   obtain ⟨m1, _⟩ := HT2.out.more HB0.out (by rw [HBL.out]; have := HO.out; omega)
   have hofl := HT2.out.word
   have hTl := HT2.out.len
   have C4 := Lib.hid (addTimes_only g o (N + 2) c T (some ⟨a, p, none⟩) (N + 1) d b 1 B wr HR2.out HT2.out.ws (by rw [hTl]; exact HO.out) (by omega) HBL.out (HB.out.below (hbw.below.mono HGB.out)) HGB.out (by omega) (by rw [hTl]; exact HM.out))
   obtain ⟨k, rfl⟩ : ∃ k, of = k + 1 := ⟨of - 1, by omega⟩
   have k1 : IntKind.u32.wrap (((k + 1 : Nat) : Int) - 1) = (k : Int) := by rw [IntWalk.u32_in _ (by omega)]; omega
   have HTL := Lib.hid hTl
   have hkl : (k : Int) < 4294967296 := by omega
   clear m1 hofl hTl h0
   go_wp2_with fail
   refine C4.out.mono ?_
   rintro e w4 ⟨U, q4, rfl, hrow4, hadd, hb4⟩
   have hbw4 : Only g w w4 := hbw.trans hb4
   have hUl := hadd.len
   have hq4 := hadd.low
   obtain ⟨f1, f2, f3⟩ := HT2.out.back HB0.out (by rw [HBL.out]; have := HO.out; omega) hadd
   rw [HBL.out] at f1 f2 f3
   have hcell4 := hrow4.cell (o + (N + 1)) (by rw [hUl, HTL.out]; have := HO.out; omega)
   have hfz4 := hrow4.frozen (o + (N + 1))
   rw [f1] at hcell4
   have htl := HT2.out.ws.getD (o + (N + 1))
   obtain ⟨u4, hu4⟩ : ∃ u, T.getD (o + (N + 1)) 0 = u := ⟨_, rfl⟩
   rw [hu4] at hcell4 f2 f3 htl
   have C5 := Lib.hid (fun W => show Cp 217 #[.int .u32 (u4 : Nat), .int .u32 (q4 : Nat), .int .u32 0] W fun e w' => e = .returned (.tuple #[.int .u32 ((u4 + q4 + 0) % 4294967296 : Nat), .int .u32 ((u4 + q4 + 0) / 4294967296 : Nat)]) ∧ W = w' from add32_any u4 q4 0 W htl hq4 (by omega))
   obtain ⟨W4, hW4⟩ : ∃ W4, (u4 + q4 + 0) % 4294967296 = W4 := ⟨_, rfl⟩
   obtain ⟨c4, hc4⟩ : ∃ c4, (u4 + q4 + 0) / 4294967296 = c4 := ⟨_, rfl⟩
   rw [hW4, hc4] at C5 f3
   rw [hc4] at f2
   rw [Nat.add_sub_cancel] at f3
   have k2 : IntKind.u32.wrap ((bl : Int) - (c4 : Int)) = ((1 - c4 : Nat) : Int) := by rw [HBL1.out, IntWalk.u32_in _ (by omega)]; omega
   have HROW4 := Lib.hid (hrow4.set (o + (N + 1)) W4)
   have HST4 := Lib.hid f3
   have HBW4 := Lib.hid hbw4
   clear hrow4 hadd hb4 hbw4 hUl hq4 f1 f2 f3 htl hu4 hW4 hc4 C4
   go_wp2_with (go_at_call 217; refine (C5.out _).mono ?_; rintro e w' ⟨rfl, rfl⟩)
   go_roundw
   case rel => exact ⟨k, 1 - c4, _, rfl, rfl, HROW4, HST4, HBW4.out.setCell _⟩
   case measure => simp [intOf]

end Go.Proofs.YtjmplgbhjpldbaaGreatDoor
namespace Go.Proofs.YtjmplgbhjpldbaaGreatDoor
open Go.RowKit
theorem results_tmp3 {fn : Func} {t u v : Tmp} (h : fn.results = #[.tmp t, .tmp u, .tmp v]) (tmps : Array Value) (P : Program) (w : World) :
  (results fn tmps).run P w = .ok (.tuple #[tmps.getD t undef, tmps.getD u undef, tmps.getD v undef]) w := by
 simp [results, h]
def DivT (Q R : List Nat) (t : Nat) (w : World) (e : Ending) (w' : World) : Prop :=
 ∃ A n c C m d, e = .returned (.tuple #[.slice A n c, .slice C m d, .int .i64 (t : Nat)]) ∧ (n = Q.length ∧ n ≤ c ∧ m = R.length ∧ m ≤ d ∧ RW w' w'.heap.size A Q ∧ RW w' w'.heap.size C R) ∧ Below w.heap.size w w'
def divB (v u : Nat) : Bool := !(lngB v || lngB u) && !decide (u = 0)
def divQ (v u : Nat) : List Nat := if divB v u = true then wds (v / u) else []
def divR (v u : Nat) : List Nat := if divB v u = true then wds (v % u) else []
def divK (v u : Nat) : Nat := if (lngB v || lngB u) = true then 3 else if u = 0 then 4 else 0
theorem divB_ok {v u : Nat} (h : (lngB v || lngB u) = false) (hu : 0 < u) : divB v u = true := by
 unfold divB; rw [h, decide_eq_false (by omega)]; rfl
theorem DivT.ok {v u : Nat} {w w' : World} {A C : Option Addr} {n c m d : Nat} (h : (lngB v || lngB u) = false) (hu : 0 < u) (hn : n = (wds (v / u)).length) (hc : n ≤ c) (hm : m = (wds (v % u)).length) (hd : m ≤ d)
  (hA : RW w' w'.heap.size A (wds (v / u))) (hC : RW w' w'.heap.size C (wds (v % u))) (hb : Below w.heap.size w w') : DivT (divQ v u) (divR v u) (divK v u) w (.returned (.tuple #[.slice A n c, .slice C m d, .int .i64 0])) w' := by
 have e0 : divK v u = 0 := by unfold divK; rw [if_neg (by rw [h]; simp), if_neg (by omega)]
 unfold divQ divR
 rw [e0, if_pos (divB_ok h hu), if_pos (divB_ok h hu)]
 exact ⟨A, n, c, C, m, d, rfl, ⟨hn, hc, hm, hd, hA, hC⟩, hb⟩
theorem DivT.long {v u : Nat} {w w' : World} (h : (lngB v || lngB u) = true) (hb : Below w.heap.size w w') : DivT (divQ v u) (divR v u) (divK v u) w (.returned (.tuple #[.slice none 0 0, .slice none 0 0, .int .i64 3])) w' := by
 have e0 : divK v u = 3 := by unfold divK; rw [if_pos h]
 have e1 : divB v u = false := by unfold divB; rw [h]; rfl
 unfold divQ divR
 rw [e0, if_neg (by rw [e1]; simp), if_neg (by rw [e1]; simp)]
 exact ⟨none, 0, 0, none, 0, 0, rfl, ⟨rfl, Nat.le_refl _, rfl, Nat.le_refl _, RW.nil _ _ _, RW.nil _ _ _⟩, hb⟩
theorem DivT.zero {v u : Nat} {w w' : World} (h : (lngB v || lngB u) = false) (hu : u = 0) (hb : Below w.heap.size w w') : DivT (divQ v u) (divR v u) (divK v u) w (.returned (.tuple #[.slice none 0 0, .slice none 0 0, .int .i64 4])) w' := by
 have e0 : divK v u = 4 := by unfold divK; rw [if_neg (by rw [h]; simp), if_pos hu]
 have e1 : divB v u = false := by unfold divB; rw [decide_eq_true hu]; simp
 unfold divQ divR
 rw [e0, if_neg (by rw [e1]; simp), if_neg (by rw [e1]; simp)]
 exact ⟨none, 0, 0, none, 0, 0, rfl, ⟨rfl, Nat.le_refl _, rfl, Nat.le_refl _, RW.nil _ _ _, RW.nil _ _ _⟩, hb⟩
end Go.Proofs.YtjmplgbhjpldbaaGreatDoor
namespace Go.Proofs.YtjmplgbhjpldbaaGreatDoor
open Go.RowKit
end Go.Proofs.YtjmplgbhjpldbaaGreatDoor
namespace Go.Proofs.YtjmplgbhjpldbaaGreatDoor
open Go.RowKit
theorem shift_top {b : List Nat} {N : Nat} (hb : Ws b) (hN : b.length = N + 1) (hnb : nrm b = b) : 0 < b.getD N 0 ∧ 0 < Lib.bitLen (b.getD N 0) ∧ Lib.bitLen (b.getD N 0) ≤ 32 ∧ b.getD N 0 < 2 ^ Lib.bitLen (b.getD N 0) := by
 have h0 : nrm b ≠ [] := by rw [hnb]; intro e; rw [e] at hN; simp at hN
 have h1 := nrm_last h0
 rw [hnb, hN, Nat.add_sub_cancel] at h1
 have h2 := hb.getD N
 have h3 := bitLen_le32 _ h2
 obtain ⟨b1, b2, b3⟩ := Lib.bitLenAux_bounds 64 (b.getD N 0) (by omega) h1
 exact ⟨by omega, b1, h3, b3⟩
theorem ShlP.exact {R : List Nat} {o : Nat} {a : List Nat} {s N : Nat} {S : List Nat} (h : ShlP R o a s (N + 1) S) (hn : a.length = N + 1) (ht : a.getD N 0 < 2 ^ (32 - s)) : val ((S.drop o).take (N + 1)) = 2 ^ s * val a := by
 have h4 := h.sum
 have e : carL a s (N + 1) = 0 := by
  unfold carL
  rw [if_neg (by omega), Nat.add_sub_cancel]
  exact Nat.div_eq_of_lt ht
 rw [e, Nat.mul_zero, Nat.add_zero, val_take_end (l := a) (by omega)] at h4
 exact h4
theorem top_pos {S : List Nat} {N : Nat} (hS : Ws S) (hl : S.length = N + 1) (hv : 4294967296 ^ N ≤ val S) : 0 < S.getD N 0 := by
 rcases Nat.eq_zero_or_pos (S.getD N 0) with h | h
 ·have e := val_take_succ S N (by omega)
  rw [List.take_of_length_le (by omega), h, Nat.mul_zero, Nat.add_zero] at e
  have := val_lt (hS.take N)
  rw [List.length_take, Nat.min_eq_left (by omega)] at this
  omega
 ·exact h
def LongPost (n M va vb : Nat) (w : World) (e : Ending) (w' : World) : Prop :=
 ∃ S T g1 g2, e = .returned (.tuple #[.slice (some ⟨g2, 0, none⟩) M M, .slice (some ⟨g1, 0, none⟩) (n + 1) (n + 1)]) ∧ Row w' g2 S ∧ Row w' g1 T ∧ S.length = M ∧ T.length = n + 1 ∧ Ws S ∧ Ws T ∧ val S = va / vb ∧ val T = va % vb ∧ Below w.heap.size w w'
set_option maxRecDepth 100000 in
set_option maxHeartbeats 1000000 in
theorem divideLong_any (A C : Option Addr) (n c m M N d : Nat) (a b : List Nat) (w : World) (hn : a.length = n) (hm : n ≤ 1024) (h : RW w w.heap.size A a)
  (gn : b.length = m) (gN : m = N + 1) (g : RW w w.heap.size C b) (hnb : nrm b = b) (hM : n + 1 = M + m) (hM0 : 0 < M) :
  Cp 197 #[.slice A n c, .slice C m d] w (LongPost n M (val a) (val b) w) := by
 subst gN
 obtain ⟨t1, t2, t3, t4⟩ := shift_top g.1 gn hnb
 have h0 : nrm b ≠ [] := by rw [hnb]; intro e; rw [e] at gn; simp at gn
 have hge := val_ge h0
 rw [hnb, gn, Nat.add_sub_cancel] at hge
 obtain ⟨cb, coff, rfl, hcb, hcc⟩ := g.2 (by omega)
 have d1 := hcc N _ (getD_some (by omega))
 have htl := g.1.getD N
 obtain ⟨u, hu⟩ : ∃ u, b.getD N 0 = u := ⟨_, rfl⟩
 rw [hu] at d1 t1 t2 t3 t4 htl
 obtain ⟨L, hL⟩ : ∃ L, Lib.bitLen u = L := ⟨_, rfl⟩
 have C1 := Lib.hid (fun W => show Cp 210 #[.int .u32 (u : Nat)] W fun e w' => e = .returned (.int .i64 (32 - (L : Int))) ∧ W = w' from by
  have := Tryz.bits_LeadingZeros32 (u : Int) W (by omega) (by omega)
  rw [Int.toNat_natCast, hL] at this; exact this.mono fun _ _ ⟨x, y⟩ => ⟨x, y.symm⟩)
 rw [hL] at t2 t3 t4
 obtain ⟨s, hs⟩ : ∃ s, 32 - L = s := ⟨_, rfl⟩
 have hs2 : 32 - (L : Int) = (s : Int) := by omega
 rw [hs2] at C1
 have hs32 : s < 32 := by omega
 have HT4 := Lib.hid (show b.getD N 0 < 2 ^ (32 - s) by rw [hu, show 32 - s = L by omega]; exact t4)
 have hN1 : (N : Int) ≤ 1024 := by omega
 have hn1 : (n : Int) ≤ 1024 := by omega
 have hM1 : (1 : Int) ≤ (M : Int) := by omega
 have hM2 : (M : Int) ≤ 1024 := by omega
 have HA := Lib.hid h
 have HB := Lib.hid g
 have HGB := Lib.hid (show (b.length = N + 1 ∧ a.length = n) from ⟨gn, hn⟩)
 have HGE := Lib.hid hge
 have HM := Lib.hid hM
 have HM0 := Lib.hid hM0
 have hm1 := run_make_row' (P := Tryz.prog) 117 107 (.int .u32 0) 4 Tryz.underlying117 infoW rfl .i64 .i64 (N + 1) (by omega) (by omega) w
 rw [show ((N + 1 : Nat) : Int) = (N : Int) + 1 by omega] at hm1
 have hm2 := fun W => run_make_row' (P := Tryz.prog) 117 107 (.int .u32 0) 4 Tryz.underlying117 infoW rfl .i64 .i64 (n + 1) (by omega) (by omega) W
 rw [show ((n + 1 : Nat) : Int) = (n : Int) + 1 by omega] at hm2
 have hm3 := fun W => run_make_row' (P := Tryz.prog) 117 107 (.int .u32 0) 4 Tryz.underlying117 infoW rfl .i64 .i64 M (by omega) (by omega) W
 have HM2 := Lib.hid hm2
 have HM3 := Lib.hid hm3
 have hMe0 : IntKind.i64.wrap ((n : Int) - ((N : Int) + 1)) = (n : Int) - ((N : Int) + 1) := IntWalk.i64_in _ (by omega)
 have hMe : IntKind.i64.wrap (((n : Int) - ((N : Int) + 1)) + 1) = (M : Int) := by rw [IntWalk.i64_in _ (by omega)]; omega
 have hR1 := Row.made w (N + 1)
 have hB1 : Below w.heap.size w (w.alloc (.cells (madeCells #[.int .u32 0] (N + 1)) 107)) := (Below.refl _ _).alloc (Nat.le_refl _) _
 have hz1 : (w.alloc (.cells (madeCells #[.int .u32 0] (N + 1)) 107)).heap.size = w.heap.size + 1 := by simp
 obtain ⟨w1, hw1⟩ : ∃ w1, w.alloc (.cells (madeCells #[.int .u32 0] (N + 1)) 107) = w1 := ⟨_, rfl⟩
 rw [hw1] at hR1 hB1 hz1 hm1
 have C2 := Lib.hid (shl_any w.heap.size 0 (N + 1) (N + 1) s (List.replicate (N + 1) 0) (some ⟨cb, coff, none⟩) (N + 1) d b w.heap.size w1 hR1 (Ws.zeros _) (by rw [List.length_replicate]; omega) gn (by omega) (by omega) (g.below hB1) (Nat.le_refl _) hs32)
 have HB1 := Lib.hid hB1
 have HZ1 := Lib.hid hz1
 clear t1 t2 t3 t4 hu hL hs hs2 htl hcc h g hn gn hge hM hM0 hnb h0 hm hm2 hm3 hR1 hB1 hz1 hw1
 go_enter Tryz.func197, Tryz.ntmps197
 go_wp2_with fail
 refine (C1.out _).mono ?_
 rintro e w' ⟨rfl, rfl⟩
 go_wp2_with fail
 refine C2.out.mono ?_
 rintro e w2 ⟨rfl, D, hD, hRD, hbD⟩
 have hB2 : Below w.heap.size w w2 := HB1.out.trans hbD
 have hg0 := hRD.lt
 have hDl : D.length = N + 1 := by rw [hD.len, List.length_replicate]
 have hDv : val D = 2 ^ s * val b := by
  have := hD.exact HGB.out.1 HT4.out
  rw [List.drop_zero, List.take_of_length_le (by omega)] at this
  exact this
 have hDw := hD.ws
 have hm2 := HM2.out w2
 have hR2 := Row.made w2 (n + 1)
 have hB3 : Below w.heap.size w (w2.alloc (.cells (madeCells #[.int .u32 0] (n + 1)) 107)) := hB2.alloc hB2.size _
 have hB23 : Below w2.heap.size w2 (w2.alloc (.cells (madeCells #[.int .u32 0] (n + 1)) 107)) := (Below.refl _ _).alloc (Nat.le_refl _) _
 have C3 := Lib.hid (shl_any w2.heap.size 0 (n + 1) (n + 1) s (List.replicate (n + 1) 0) A n c a w.heap.size _ hR2 (Ws.zeros _) (by rw [List.length_replicate]; omega) HGB.out.2 (by omega) (by omega) (HA.out.below hB3) hB2.size hs32)
 have HRD := Lib.hid (hRD.below hg0 hB23)
 have HD := Lib.hid (show D.length = N + 1 ∧ val D = 2 ^ s * val b ∧ Ws D from ⟨hDl, hDv, hDw⟩)
 have HB3 := Lib.hid hB3
 have HG0 := Lib.hid hg0
 clear hD hRD hbD hB2 hg0 hDl hDv hDw hR2 hB3 hB23 hm1 C1 C2
 go_wp2_with fail
 refine C3.out.mono ?_
 rintro e w4 ⟨rfl, R, hR, hRR, hbR⟩
 have hB4 : Below w.heap.size w w4 := HB3.out.trans (hbR.mono (Nat.le_of_lt HG0.out))
 have hg1 := hRR.lt
 have hRl : R.length = n + 1 := by rw [hR.len, List.length_replicate]
 have hRv : val R = 2 ^ s * val a := by
  have := hR.whole (by rw [HGB.out.2]; omega)
  rw [List.drop_zero, List.take_of_length_le (by omega)] at this
  exact this
 have hRw := hR.ws
 have hRD4 : Row w4 w.heap.size D := HRD.out.below HG0.out hbR
 have hm3 := HM3.out w4
 have hQ5 := Row.made w4 M
 have hB5 : Below w.heap.size w (w4.alloc (.cells (madeCells #[.int .u32 0] M) 107)) := hB4.alloc hB4.size _
 have hB45 : Below w4.heap.size w4 (w4.alloc (.cells (madeCells #[.int .u32 0] M) 107)) := (Below.refl _ _).alloc (Nat.le_refl _) _
 have HQ5 := Lib.hid hQ5
 have HR5 := Lib.hid (hRR.below hg1 hB45)
 have HD5 := Lib.hid (hRD4.below (Nat.lt_trans HG0.out hg1) hB45)
 have HB5 := Lib.hid hB5
 have HG1 := Lib.hid hg1
 have hlong := LongT.start (va := val a) (vb := val b) (s := s) (la := n) (n := N + 1) (M := M) hRw (by rw [hRl]; exact HM.out) HM.out (by omega) (by have := val_lt HA.out.1; rw [HGB.out.2] at this; exact this) (by rw [Nat.add_sub_cancel]; exact HGE.out) hRv
 have HLONG := Lib.hid hlong
 have hDp : 0 < val b := Nat.lt_of_lt_of_le (Nat.pow_pos (by omega)) HGE.out
 have HDP := Lib.hid (show 0 < 2 ^ s * val b ∧ 2 ^ s * val b < 4294967296 ^ (N + 1) ∧ 0 < D.getD N 0 by
  have h1 := val_lt HD.out.2.2
  rw [HD.out.2.1, HD.out.1] at h1
  refine ⟨Nat.mul_pos (Nat.two_pow_pos s) hDp, h1, top_pos HD.out.2.2 HD.out.1 ?_⟩
  rw [HD.out.2.1]
  exact Nat.le_trans HGE.out (Nat.le_mul_of_pos_left _ (Nat.two_pow_pos s)))
 clear hR hRR hbR hB4 hg1 hRl hRv hRw hRD4 hQ5 hB5 hB45 hlong hDp hm2 C3
 go_wp2
 clear hm3
 go_loopw [10] (fun i wr => ∃ (k : Nat) (R Q : List Nat), i = .int .i64 ((k : Int) - 1) ∧ k ≤ M ∧ Hid (Row wr w2.heap.size R) ∧ Hid (Row wr w4.heap.size Q) ∧ Hid (Row wr w.heap.size D) ∧ Hid (LongT (2 ^ s * val a) (2 ^ s * val b) (N + 1) M k R Q) ∧ Below w.heap.size w wr) (fun i _ => (intOf i + 1).toNat)
 case atStart => exact ⟨M, R, _, rfl, Nat.le_refl _, HR5, HQ5, HD5, HLONG, HB5.out⟩
 case round =>
  obtain ⟨k, R2, Q, rfl, hk, HR, HQ, HDD, HT, hbw⟩ := hrel
  have hRl := HT.out.lenR
  have hQl := HT.out.lenQ
  have hMn := HM.out
  by_cases h0 : k = 0
  ·subst h0
   obtain ⟨f1, f2⟩ := HT.out.fin HDP.out.1
   rw [Nat.mul_div_mul_left _ _ (Nat.two_pow_pos s)] at f1
   rw [Nat.mul_mod_mul_left] at f2
   have C1 := Lib.hid (shr_self w2.heap.size (n + 1) (n + 1) (n + 1) s R2 wr HR.out HT.out.wsR (by omega) (by omega) hs32)
   have HF1 := Lib.hid f1
   have HF2 := Lib.hid f2
   have HQW := Lib.hid HT.out.wsQ
   have HL := Lib.hid (show Q.length = M ∧ R2.length = n + 1 from ⟨hQl, by omega⟩)
   have HNE := Lib.hid (show w4.heap.size ≠ w2.heap.size from Nat.ne_of_gt HG1.out)
   have HBG := Lib.hid (Nat.le_of_lt (Nat.lt_of_lt_of_le HG0.out (Nat.le_refl _)))
   clear f1 f2 hRl hQl hMn
   go_wp2_with fail
   refine C1.out.mono ?_
   rintro e w5 ⟨rfl, S, hS, hRow, hO⟩
   have hv := hS.whole (by rw [HL.out.2]; exact Nat.le_refl _)
   have hSl := hS.len
   rw [List.drop_zero, List.take_of_length_le (by rw [hSl, HL.out.2]; exact Nat.le_refl _), HF2.out, Nat.mul_div_cancel_left _ (Nat.two_pow_pos s)] at hv
   have HFIN := Lib.hid (show LongPost n M (val a) (val b) w (.returned (.tuple #[.slice (some ⟨w4.heap.size, 0, none⟩) M M, .slice (some ⟨w2.heap.size, 0, none⟩) (n + 1) (n + 1)])) w5 from
    ⟨Q, S, w2.heap.size, w4.heap.size, rfl, HQ.out.only HNE.out hO, hRow, HL.out.1, by rw [hSl, HL.out.2], HQW.out, hS.ws, HF1.out, hv, hbw.trans (hO.below.mono HBG.out)⟩)
   clear hS hRow hO hv hSl C1
   go_wp2
   go_ret2
   exact HFIN.out
  ·obtain ⟨j, rfl⟩ : ∃ j, k = j + 1 := ⟨k - 1, by omega⟩
   rw [show (((j + 1 : Nat) : Int) - 1) = (j : Int) by omega]
   obtain ⟨p1, p2⟩ := HT.out.part (by omega) HDP.out.2.1
   have C1 := Lib.hid (step_any w2.heap.size j (N + 2) (n + 1 - j) R2 (some ⟨w.heap.size, 0, none⟩) N (N + 1) (N + 1) D (w.heap.size + 1) wr HR.out HT.out.wsR rfl rfl (by omega) HD.out.1 (HDD.out.rw0 HD.out.2.2) HG0.out (by omega) (by rw [HD.out.2.1]; exact HDP.out.1) HDP.out.2.2 (by rw [HD.out.1, HD.out.2.1]; exact p2))
   have HNX := Lib.hid (fun S h1 h2 h3 h4 => HT.out.next (S := S) (by omega) HDP.out.2.1 HDP.out.1 h1 h2 h3 h4)
   unfold StepPost at C1
   rw [HD.out.1, HD.out.2.1] at C1
   obtain ⟨q, hq⟩ : ∃ q, val ((R2.drop j).take (N + 1 + 1)) / (2 ^ s * val b) = q := ⟨_, rfl⟩
   rw [hq] at C1 HNX
   have hcell := fun (W : World) (h : Row W w4.heap.size Q) => h.cell j (by omega)
   have hfz := fun (W : World) (h : Row W w4.heap.size Q) => h.frozen j
   have HCELL := Lib.hid hcell
   have HFZ := Lib.hid hfz
   have HNE := Lib.hid (show w4.heap.size ≠ w2.heap.size ∧ w.heap.size ≠ w2.heap.size ∧ w2.heap.size ≠ w4.heap.size ∧ w.heap.size ≠ w4.heap.size from by
    have h1 := HG1.out
    have h2 := HG0.out
    omega)
   have HBG := Lib.hid (show w.heap.size ≤ w2.heap.size ∧ w.heap.size ≤ w4.heap.size from by
    have h1 := HG1.out
    have h2 := HG0.out
    omega)
   have hj1 : (j : Int) < (M : Int) := by omega
   have hjn : (j : Int) + (N : Int) + 2 ≤ (n : Int) + 1 := by omega
   have hjn2 : j + (N + 2) ≤ n + 1 := by omega
   have hk2 : j + 1 ≤ M := hk
   clear hRl hQl hMn hk h0 p1 p2 hq hcell hfz
   go_wp2_with fail
   rw [show j + (N + 1) + 1 - j = N + 2 by omega]
   refine C1.out.mono ?_
   rintro e w5 ⟨S, rfl, hrow, hlen, hws, hfar, hval, hO⟩
   have rQ := HQ.out.only HNE.out.1 hO
   have rD := HDD.out.only HNE.out.2.1 hO
   have hcell := HCELL.out w5 rQ
   have hfz := HFZ.out w5 rQ
   have HTN := Lib.hid (HNX.out S hlen hws hfar hval)
   have HQ2 := Lib.hid (rQ.set j q)
   have HR2 := Lib.hid (show Row (w5.setCell ⟨w4.heap.size, j, none⟩ (.int .u32 (q : Nat))) w2.heap.size S from (Below.heap_setCell w5 _ _ _ HNE.out.2.2.1).trans hrow)
   have HD2 := Lib.hid (show Row (w5.setCell ⟨w4.heap.size, j, none⟩ (.int .u32 (q : Nat))) w.heap.size D from (Below.heap_setCell w5 _ _ _ HNE.out.2.2.2).trans rD)
   have HB2 := Lib.hid ((hbw.trans (hO.below.mono HBG.out.1)).setCell (p := ⟨w4.heap.size, j, none⟩) HBG.out.2 (.int .u32 (q : Nat)))
   clear hrow hlen hws hfar hval hO rQ rD C1 HNX
   go_wp2
   go_roundw
   case rel => exact ⟨j, S, _, by go_num, by omega, HR2, HQ2, HD2, HTN, HB2.out⟩
   case measure => simp [intOf]
end Go.Proofs.YtjmplgbhjpldbaaGreatDoor
namespace Go.Proofs.YtjmplgbhjpldbaaGreatDoor
open Go.RowKit
set_option maxHeartbeats 1000000 in
theorem div_long (A C : Option Addr) (n c m d : Nat) (l k : List Nat) (w : World) (hn : l.length = n) (hc : n ≤ c) (hm : n ≤ 35184372088832) (h : RW w w.heap.size A l)
  (gn : k.length = m) (gc : m ≤ d) (gm : m ≤ 35184372088832) (g : RW w w.heap.size C k) (hl : (lngB (val l) || lngB (val k)) = true) :
  Cp 178 #[.slice A n c, .slice C m d] w (DivT (divQ (val l) (val k)) (divR (val l) (val k)) (divK (val l) (val k)) w) := by
 have c1 := tooTwo_any A C n c m d l k w hn hc hm h gn gc gm g
 have hp : Below w.heap.size w (pair w (.slice A n c) (.slice C m d)) := (Below.refl _ _).alloc (Nat.le_refl _) _
 have HF := Lib.hid (DivT.long (w := w) hl hp)
 rw [hl] at c1
 clear h g hn hc hm gn gc gm hl hp
 go_enter Tryz.func178, Tryz.ntmps178
 go_wp2_with fail
 refine c1.mono ?_
 rintro e w1 ⟨rfl, rfl⟩
 go_wp2
 (try simp only [Exit.inBlock, Exit.then])
 refine bodyPost_ret (results_tmp3 rfl _ _ _) rfl ?_
 exact HF.out
set_option maxRecDepth 100000 in
set_option maxHeartbeats 2000000 in
theorem div_zero (A C : Option Addr) (n c m d : Nat) (l k : List Nat) (w : World) (hn : l.length = n) (hc : n ≤ c) (hm : n ≤ 35184372088832) (h : RW w w.heap.size A l)
  (gn : k.length = m) (gc : m ≤ d) (gm : m ≤ 35184372088832) (g : RW w w.heap.size C k) (hl : (lngB (val l) || lngB (val k)) = false) (hk : val k = 0) :
  Cp 178 #[.slice A n c, .slice C m d] w (DivT (divQ (val l) (val k)) (divR (val l) (val k)) (divK (val l) (val k)) w) := by
 have c1 := tooTwo_any A C n c m d l k w hn hc hm h gn gc gm g
 have hp : Below w.heap.size w (pair w (.slice A n c) (.slice C m d)) := (Below.refl _ _).alloc (Nat.le_refl _) _
 have HF := Lib.hid (DivT.zero (w := w) hl hk hp)
 rw [hl] at c1
 have c2 := cut_any A n c l w.heap.size _ hn hc hm (h.below hp)
 have c3 := cut_any C m d k w.heap.size _ gn gc gm (g.below hp)
 rw [nrm_val_zero hk] at c3
 clear h g hn hc hm gn gc gm hl hp hk
 go_enter Tryz.func178, Tryz.ntmps178
 go_wp2_with fail
 refine c1.mono ?_
 rintro e w1 ⟨rfl, rfl⟩
 go_wp2_with fail
 refine c2.mono ?_
 rintro e w1 ⟨rfl, rfl⟩
 go_wp2_with fail
 refine c3.mono ?_
 rintro e w1 ⟨rfl, rfl⟩
 go_wp2
 (try simp only [Exit.inBlock, Exit.then])
 refine bodyPost_ret (results_tmp3 rfl _ _ _) rfl ?_
 exact HF.out
set_option maxRecDepth 100000 in
set_option maxHeartbeats 2000000 in
theorem div_small (A C : Option Addr) (n c m d : Nat) (l k : List Nat) (w : World) (hn : l.length = n) (hc : n ≤ c) (hm : n ≤ 35184372088832) (h : RW w w.heap.size A l)
  (gn : k.length = m) (gc : m ≤ d) (gm : m ≤ 35184372088832) (g : RW w w.heap.size C k) (hl : (lngB (val l) || lngB (val k)) = false) (hlt : (nrm l).length < (nrm k).length) :
  Cp 178 #[.slice A n c, .slice C m d] w (DivT (divQ (val l) (val k)) (divR (val l) (val k)) (divK (val l) (val k)) w) := by
 have c1 := tooTwo_any A C n c m d l k w hn hc hm h gn gc gm g
 have hp : Below w.heap.size w (pair w (.slice A n c) (.slice C m d)) := (Below.refl _ _).alloc (Nat.le_refl _) _
 rw [hl] at c1
 have c2 := cut_any A n c l w.heap.size _ hn hc hm (h.below hp)
 have c3 := cut_any C m d k w.heap.size _ gn gc gm (g.below hp)
 obtain ⟨hl1, hl2⟩ : lngB (val l) = false ∧ lngB (val k) = false := by simpa using hl
 have n1 := lng_len h.1 hl1
 have n2 := lng_len g.1 hl2
 have hval := cmp_len h.1 hlt
 have e1 : val l / val k = 0 := Nat.div_eq_of_lt hval
 have e2 : val l % val k = val l := Nat.mod_eq_of_lt hval
 obtain ⟨N, hN⟩ : ∃ N, (nrm l).length = N := ⟨_, rfl⟩
 obtain ⟨M, hM⟩ : ∃ M, (nrm k).length = M := ⟨_, rfl⟩
 rw [hN] at n1 c2 hlt
 rw [hM] at n2 c3 hlt
 obtain ⟨W, hW⟩ : ∃ W, pair w (.slice A n c) (.slice C m d) = W := ⟨_, rfl⟩
 rw [hW] at c1 c2 c3 hp
 have HOK := Lib.hid (fun (w' : World) A2 n2 c2 C2 m2 d2 h3 h4 h5 h6 h7 h8 h9 => DivT.ok (w := w) (w' := w') (A := A2) (C := C2) (n := n2) (c := c2) (m := m2) (d := d2) hl (by omega) h3 h4 h5 h6 h7 h8 h9)
 rw [e1, e2] at HOK
 have hND : (wds (val l)).length = N := by rw [← nrm_wds h.1]; exact hN
 have c4 := (normT A N N (nrm l) N W hN (Nat.le_refl _) (by omega) ((h.nrm.below hp).more hp.size) (by rw [nrm_nrm]; exact hN))
 rw [nrm_nrm, nrm_wds h.1] at c4
 have HW := Lib.hid hW
 have HP := Lib.hid hp
 have HND := Lib.hid hND
 have z0 : ((M : Int) == 0) = false := by simp; omega
 have z1 : (N : Int) < (M : Int) := by omega
 clear h g hn hc hm gn gc gm hl hp hl1 hl2 n1 n2 hval e1 e2 hN hM hW hND hlt
 go_enter Tryz.func178, Tryz.ntmps178
 go_wp2_with fail
 rw [show w.alloc (.cells #[.slice A n c, .slice C m d] 117) = W from HW.out]
 refine c1.mono ?_
 rintro e w1 ⟨rfl, rfl⟩
 go_wp2_with fail
 refine c2.mono ?_
 rintro e w1 ⟨rfl, rfl⟩
 go_wp2_with fail
 refine c3.mono ?_
 rintro e w1 ⟨rfl, rfl⟩
 go_wp2_with fail
 refine c4.mono ?_
 rintro e w2 ⟨A2, c2, rfl, ⟨hc2, r2⟩, b2⟩
 have HF := Lib.hid (HOK.out w2 none 0 0 A2 N c2 rfl (Nat.le_refl _) HND.out.symm hc2 (RW.nil _ _ _) r2 (below_le HP.out b2))
 clear r2 hc2 b2
 go_wp2
 (try simp only [Exit.inBlock, Exit.then])
 refine bodyPost_ret (results_tmp3 rfl _ _ _) rfl ?_
 exact HF.out
set_option maxRecDepth 100000 in
set_option maxHeartbeats 4000000 in
theorem div_word (A C : Option Addr) (n c m d : Nat) (l k : List Nat) (w : World) (hn : l.length = n) (hc : n ≤ c) (hm : n ≤ 35184372088832) (h : RW w w.heap.size A l)
  (gn : k.length = m) (gc : m ≤ d) (gm : m ≤ 35184372088832) (g : RW w w.heap.size C k) (hl : (lngB (val l) || lngB (val k)) = false) (hle : (nrm k).length ≤ (nrm l).length) (h1k : (nrm k).length = 1) :
  Cp 178 #[.slice A n c, .slice C m d] w (DivT (divQ (val l) (val k)) (divR (val l) (val k)) (divK (val l) (val k)) w) := by
 have c1 := tooTwo_any A C n c m d l k w hn hc hm h gn gc gm g
 have hp : Below w.heap.size w (pair w (.slice A n c) (.slice C m d)) := (Below.refl _ _).alloc (Nat.le_refl _) _
 rw [hl] at c1
 have c2 := cut_any A n c l w.heap.size _ hn hc hm (h.below hp)
 have c3 := cut_any C m d k w.heap.size _ gn gc gm (g.below hp)
 obtain ⟨hl1, hl2⟩ : lngB (val l) = false ∧ lngB (val k) = false := by simpa using hl
 have n1 := lng_len h.1 hl1
 obtain ⟨u, hu⟩ : ∃ u, nrm k = [u] := List.length_eq_one_iff.1 h1k
 have hkv : val k = u := by rw [← val_nrm, hu]; simp [val]
 have hgB := g.nrm
 rw [hu] at hgB c3
 have hul : u < 4294967296 := hgB.1 u (by simp)
 have hu0 : 0 < u := by
  rcases Nat.eq_zero_or_pos u with h0 | h0
  ·have := nrm_val_zero (l := k) (by rw [hkv, h0])
   rw [this] at hu; cases hu
  ·exact h0
 obtain ⟨b, off, hCe, hbB, hcell⟩ := hgB.2 (by simp)
 have d0 := hcell 0 u rfl
 rw [Nat.add_zero] at d0
 subst hCe
 obtain ⟨N, hN⟩ : ∃ N, (nrm l).length = N := ⟨_, rfl⟩
 rw [h1k, hN] at hle
 rw [hN] at n1 c2
 obtain ⟨W, hW⟩ : ∃ W, pair w (.slice A n c) (.slice (some ⟨b, off, none⟩) m d) = W := ⟨_, rfl⟩
 rw [hW] at c1 c2 c3 hp
 have HOK := Lib.hid (fun (w' : World) A2 n2 c2 C2 m2 d2 h3 h4 h5 h6 h7 h8 h9 => DivT.ok (w := w) (w' := w') (A := A2) (C := C2) (n := n2) (c := c2) (m := m2) (d := d2) hl (by omega) h3 h4 h5 h6 h7 h8 h9)
 have c4 := norm_row A N N (nrm l) W hN (Nat.le_refl _) (by omega) ((h.nrm.below hp).more hp.size)
 rw [nrm_nrm, hN] at c4
 have C5 := Lib.hid (fun W2 (r : Row W2 W.heap.size (nrm l)) => divideWord_any W.heap.size N N u (nrm l) W2 r h.1.nrm hN (by omega) hul hu0)
 rw [val_nrm] at C5
 rw [hkv] at HOK ⊢
 have hrl : val l % u < u := Nat.mod_lt _ hu0
 obtain ⟨q, hq⟩ : ∃ q, val l / u = q := ⟨_, rfl⟩
 obtain ⟨z, hz⟩ : ∃ z, val l % u = z := ⟨_, rfl⟩
 rw [hq, hz] at HOK C5
 rw [hz] at hrl
 have C7 := Lib.hid (fun W => (of_any z (by omega) W).mono fun _ _ y => y.told (n := (wds z).length) (by rw [two_wds z (by omega)]))
 rw [two_wds z (by omega)] at C7
 have HW := Lib.hid hW
 have HP := Lib.hid hp
 rw [← hp.cell (p := ⟨b, off, none⟩) hbB] at d0
 have z0 : ((1 : Int) == 0) = false := rfl
 have z1 : ¬ (N : Int) < 1 := by omega
 have z2 : IntKind.u64.wrap (z : Int) = (z : Int) := IntWalk.u64_in _ (by omega)
 have HN1 := Lib.hid n1
 clear h g hn hc hm gn gc gm hl hp hl1 hl2 n1 hkv hu hul hu0 hN hW hle h1k hgB hcell hrl hq hz
 go_enter Tryz.func178, Tryz.ntmps178
 go_wp2_with fail
 rw [show w.alloc (.cells #[.slice A n c, .slice (some ⟨b, off, none⟩) m d] 117) = W from HW.out]
 refine c1.mono ?_
 rintro e w1 ⟨rfl, rfl⟩
 go_wp2_with fail
 refine c2.mono ?_
 rintro e w1 ⟨rfl, rfl⟩
 go_wp2_with fail
 refine c3.mono ?_
 rintro e w1 ⟨rfl, rfl⟩
 go_wp2_with fail
 refine c4.mono ?_
 rintro e w2 ⟨rfl, r2, b2⟩
 have d2 := d0
 rw [← b2.cell (p := ⟨b, off, none⟩) (Nat.lt_of_lt_of_le hbB HP.out.size)] at d2
 have C6 := C5.out _ r2
 clear c1 c2 c3 c4 C5 r2
 go_wp2_with fail
 refine C6.mono ?_
 rintro e w3 ⟨rfl, S, r3, s1, s2, s3, b3⟩
 have B3 := below_le HP.out (b2.trans b3)
 have hlt3 := r3.lt
 have c8 := cut_any (some ⟨W.heap.size, 0, none⟩) N N S w3.heap.size w3 s1 (Nat.le_refl _) (by have := HN1.out; omega) ((r3.rw0 s2).more hlt3)
 have HR3 := Lib.hid ((r3.rw0 s2).more hlt3).nrm
 rw [nrm_wds s2, s3] at c8 HR3
 have HLQ := Lib.hid (show (wds q).length ≤ N by rw [← s3, ← nrm_wds s2, ← s1]; exact nrm_len S)
 clear r3 s1 s2 s3 b3 b2 C6 d0 hlt3
 go_wp2_with fail
 refine c8.mono ?_
 rintro e w' ⟨rfl, rfl⟩
 go_wp2_with fail
 refine (C7.out _).mono ?_
 rintro e w4 ⟨A4, c4, rfl, ⟨hc4, r4⟩, b4⟩
 have HF := Lib.hid (HOK.out w4 _ _ (wds q).length A4 _ c4 rfl (Nat.le_refl _) rfl hc4 (HR3.out.step b4) r4 (below_le B3 b4))
 clear r4 hc4 b4
 go_wp2
 (try simp only [Exit.inBlock, Exit.then])
 refine bodyPost_ret (results_tmp3 rfl _ _ _) rfl ?_
 exact HF.out
set_option maxRecDepth 100000 in
set_option maxHeartbeats 400000 in
theorem div_many (A C : Option Addr) (n c m d : Nat) (l k : List Nat) (w : World) (hn : l.length = n) (hc : n ≤ c) (hm : n ≤ 35184372088832) (h : RW w w.heap.size A l)
  (gn : k.length = m) (gc : m ≤ d) (gm : m ≤ 35184372088832) (g : RW w w.heap.size C k) (hl : (lngB (val l) || lngB (val k)) = false) (hle : (nrm k).length ≤ (nrm l).length) (h1k : 1 < (nrm k).length) :
  Cp 178 #[.slice A n c, .slice C m d] w (DivT (divQ (val l) (val k)) (divR (val l) (val k)) (divK (val l) (val k)) w) := by
 have c1 := tooTwo_any A C n c m d l k w hn hc hm h gn gc gm g
 have hp : Below w.heap.size w (pair w (.slice A n c) (.slice C m d)) := (Below.refl _ _).alloc (Nat.le_refl _) _
 rw [hl] at c1
 have c2 := cut_any A n c l w.heap.size _ hn hc hm (h.below hp)
 have c3 := cut_any C m d k w.heap.size _ gn gc gm (g.below hp)
 obtain ⟨hl1, hl2⟩ : lngB (val l) = false ∧ lngB (val k) = false := by simpa using hl
 have n1 := lng_len h.1 hl1
 have n2 := lng_len g.1 hl2
 have hk0 : 0 < val k := by
  rcases Nat.eq_zero_or_pos (val k) with h0 | h0
  ·rw [nrm_val_zero h0] at h1k; simp at h1k
  ·exact h0
 obtain ⟨N, hN⟩ : ∃ N, (nrm l).length = N := ⟨_, rfl⟩
 obtain ⟨M, hM⟩ : ∃ M, (nrm k).length = M := ⟨_, rfl⟩
 rw [hN] at n1 c2 hle
 rw [hM] at n2 c3 hle h1k
 obtain ⟨W, hW⟩ : ∃ W, pair w (.slice A n c) (.slice C m d) = W := ⟨_, rfl⟩
 rw [hW] at c1 c2 c3 hp
 have HOK := Lib.hid (fun (w' : World) A2 n2 c2 C2 m2 d2 h3 h4 h5 h6 h7 h8 h9 => DivT.ok (w := w) (w' := w') (A := A2) (C := C2) (n := n2) (c := c2) (m := m2) (d := d2) hl hk0 h3 h4 h5 h6 h7 h8 h9)
 obtain ⟨K, hK⟩ : ∃ K, N + 1 = K + M := ⟨N + 1 - M, by omega⟩
 have c4 := divideLong_any A C N N M K (M - 1) M (nrm l) (nrm k) W hN n1 ((h.nrm.below hp).more hp.size) hM (by omega) ((g.nrm.below hp).more hp.size) (nrm_nrm k) hK (by omega)
 rw [val_nrm, val_nrm] at c4
 have HW := Lib.hid hW
 have HP := Lib.hid hp
 have z0 : ((M : Int) == 0) = false := by simp; omega
 have z1 : ¬ (N : Int) < (M : Int) := by omega
 have z2 : ((M : Int) == 1) = false := by simp; omega
 have HK := Lib.hid (show K ≤ 1024 ∧ N + 1 ≤ 1025 by omega)
 obtain ⟨q, hq⟩ : ∃ q, val l / val k = q := ⟨_, rfl⟩
 obtain ⟨z, hz⟩ : ∃ z, val l % val k = z := ⟨_, rfl⟩
 rw [hq, hz] at HOK
 unfold LongPost at c4
 rw [hq, hz] at c4
 clear h g hn hc hm gn gc gm hl hp hl1 hl2 n1 n2 hN hM hW hle h1k hk0 hq hz hK
 go_enter Tryz.func178, Tryz.ntmps178
 go_wp2_with fail
 rw [show w.alloc (.cells #[.slice A n c, .slice C m d] 117) = W from HW.out]
 refine c1.mono ?_
 rintro e w1 ⟨rfl, rfl⟩
 go_wp2_with fail
 refine c2.mono ?_
 rintro e w1 ⟨rfl, rfl⟩
 go_wp2_with fail
 refine c3.mono ?_
 rintro e w1 ⟨rfl, rfl⟩
 go_wp2_with fail
 refine c4.mono ?_
 rintro e w2 ⟨S, T, g1, g2, rfl, r2, t2, s1, s2, s3, s4, s5, s6, b2⟩
 have B2 := below_le HP.out b2
 have hlt2 := r2.lt
 have hlt3 := t2.lt
 have c5 := cut_any (some ⟨g2, 0, none⟩) K K S w2.heap.size w2 s1 (Nat.le_refl _) (by have := HK.out; omega) ((r2.rw0 s3).more hlt2)
 have c6 := cut_any (some ⟨g1, 0, none⟩) (N + 1) (N + 1) T w2.heap.size w2 s2 (Nat.le_refl _) (by have := HK.out; omega) ((t2.rw0 s4).more hlt3)
 have HR2 := Lib.hid ((r2.rw0 s3).more hlt2).nrm
 have HR3 := Lib.hid ((t2.rw0 s4).more hlt3).nrm
 rw [nrm_wds s3, s5] at c5 HR2
 rw [nrm_wds s4, s6] at c6 HR3
 have HF := Lib.hid (HOK.out w2 _ _ (wds q).length _ _ (wds z).length rfl (Nat.le_refl _) rfl (Nat.le_refl _) HR2.out HR3.out B2)
 clear r2 t2 s1 s2 s3 s4 s5 s6 b2 hlt2 hlt3 c1 c2 c3 c4
 go_wp2_with fail
 refine c5.mono ?_
 rintro e w' ⟨rfl, rfl⟩
 go_wp2_with fail
 refine c6.mono ?_
 rintro e w' ⟨rfl, rfl⟩
 go_wp2
 (try simp only [Exit.inBlock, Exit.then])
 refine bodyPost_ret (results_tmp3 rfl _ _ _) rfl ?_
 exact HF.out
theorem div_any (A C : Option Addr) (n c m d : Nat) (l k : List Nat) (w : World) (hn : l.length = n) (hc : n ≤ c) (hm : n ≤ 35184372088832) (h : RW w w.heap.size A l)
  (gn : k.length = m) (gc : m ≤ d) (gm : m ≤ 35184372088832) (g : RW w w.heap.size C k) :
  Cp 178 #[.slice A n c, .slice C m d] w (DivT (divQ (val l) (val k)) (divR (val l) (val k)) (divK (val l) (val k)) w) := by
 cases hl : (lngB (val l) || lngB (val k))
 ·rcases Nat.eq_zero_or_pos (val k) with h0 | h0
  ·exact div_zero A C n c m d l k w hn hc hm h gn gc gm g hl h0
  ·have hp : 0 < (nrm k).length := List.length_pos_iff.2 (fun e => by rw [← val_nrm, e] at h0; simp [val] at h0)
   rcases Nat.lt_or_ge (nrm l).length (nrm k).length with h1 | h1
   ·exact div_small A C n c m d l k w hn hc hm h gn gc gm g hl h1
   ·by_cases h2 : (nrm k).length = 1
    ·exact div_word A C n c m d l k w hn hc hm h gn gc gm g hl h1 h2
    ·exact div_many A C n c m d l k w hn hc hm h gn gc gm g hl h1 (by omega)
 ·exact div_long A C n c m d l k w hn hc hm h gn gc gm g hl

end Go.Proofs.YtjmplgbhjpldbaaGreatDoor
namespace Go.Proofs.YtjmplgbhjpldbaaGreatDoor
open Go.RowKit
theorem NatPost.err {v : Nat} {w w' : World} {e : Ending} (h : NatPost v w e w') (hl : lngB v = true) : e = .returned (.tuple #[.slice none 0 0, .int .i64 3]) ∧ Below w.heap.size w w' := by
 obtain ⟨A, n, c, k, h1, h2, h3⟩ := h
 rw [if_pos hl] at h2
 obtain ⟨rfl, rfl, rfl, rfl⟩ := h2
 exact ⟨h1, h3⟩
theorem bit_test (n i : Nat) (hn : n < 9223372036854775808) : bits BinOp.and IntKind.i64 ((n : Int) / 2 ^ i) 1 = ((n / 2 ^ i % 2 : Nat) : Int) := by
 have h1 : n / 2 ^ i ≤ n := Nat.div_le_self _ _
 have e : ((n : Int) / 2 ^ i) = ((n / 2 ^ i : Nat) : Int) := by rw [Int.natCast_ediv, Int.natCast_pow]; rfl
 rw [e]
 obtain ⟨m, hm⟩ : ∃ m, n / 2 ^ i = m := ⟨_, rfl⟩
 rw [hm] at h1 ⊢
 show IntKind.i64.wrap ((BitVec.ofInt 64 (m : Int) &&& BitVec.ofInt 64 1).toNat : Int) = _
 have e1 : (BitVec.ofInt 64 1).toNat = 1 := by decide
 have e2 : (BitVec.ofInt 64 (m : Int)).toNat = m := by
  rw [BitVec.ofInt_natCast, BitVec.toNat_ofNat]; exact Nat.mod_eq_of_lt (by omega)
 rw [BitVec.toNat_and, e1, e2, Nat.and_one_is_mod, IntKind.wrap_i64]
 omega
set_option maxRecDepth 100000 in
set_option maxHeartbeats 4000000 in
theorem pow_any (b n : Nat) (w : World) (hb : b < 4294967296) (hn : n < 9223372036854775808) :
  Cp 174 #[.int .u32 b, .int .i64 n] w (NatPost (b ^ n) w) := by
 obtain ⟨F, hF⟩ : ∃ F, (wds b).length = F := ⟨_, rfl⟩
 obtain ⟨O, hO⟩ : ∃ O, (wds 1).length = O := ⟨_, rfl⟩
 have K1 := Lib.hid (fun W => show Cp 147 #[.int .u64 b] W (Told (wds b) F W) from by
  have := (of_any b (by omega) W).mono fun _ _ y => y.told (n := F) (by rw [two_wds b (by omega)]; exact hF)
  rw [two_wds b (by omega)] at this; exact this)
 have K2 := Lib.hid (fun W => show Cp 147 #[.int .u64 1] W (Told (wds 1) O W) from by
  have := (of_any 1 (by omega) W).mono fun _ _ y => y.told (n := O) (by rw [two_wds 1 (by omega)]; exact hO)
  rw [two_wds 1 (by omega)] at this; exact this)
 have hbl := Lib.bitLen_le n 64 (by omega) (by omega)
 have c3 := fun W => (Tryz.bits_Len (n : Int) W (by omega) (by omega)).mono fun _ _ (h : _ ∧ _ = W) => And.intro h.1 h.2.symm
 rw [Int.toNat_natCast] at c3
 obtain ⟨q0, hq0⟩ : ∃ q0, Lib.bitLen n = q0 := ⟨_, rfl⟩
 rw [hq0] at c3 hbl
 have hz : n / 2 ^ q0 = 0 := by
  rw [← hq0]
  rcases Nat.eq_zero_or_pos n with h0 | h0
  ·rw [h0]; exact Nat.zero_div _
  ·exact Nat.div_eq_of_lt (Lib.bitLenAux_bounds 64 n (by omega) (by omega)).2.2
 have HZ := Lib.hid (show b ^ (n / 2 ^ q0) = 1 by rw [hz]; rfl)
 have HF := Lib.hid hF
 have HO := Lib.hid hO
 have hF1 : F ≤ 2 := by rw [← hF, ← two_wds b (by omega)]; exact nrm_len _
 have k1 : IntKind.u64.wrap (b : Int) = (b : Int) := IntWalk.u64_in _ (by omega)
 have k2 : IntKind.u64.wrap (n : Int) = (n : Int) := IntWalk.u64_in _ (by omega)
 have HB := Lib.hid hb
 have HN := Lib.hid hn
 have n0 : (0 : Int) ≤ (n : Int) := by omega
 clear hb hn hF hO hq0 hz
 go_enter Tryz.func174, Tryz.ntmps174
 go_wp2_with fail
 refine (K1.out _).mono ?_
 rintro e w1 ⟨A1, c1, rfl, ⟨hc1, r1⟩, b1⟩
 go_wp2_with fail
 refine (K2.out _).mono ?_
 rintro e w2 ⟨A2, c2, rfl, ⟨hc2, r2⟩, b2⟩
 go_wp2_with fail
 refine (c3 _).mono ?_
 rintro e w' ⟨rfl, rfl⟩
 have HR1 := Lib.hid (r1.step b2)
 have HR2 := Lib.hid r2
 have HB2 := Lib.hid (below_le b1 b2)
 clear r1 r2 b1 b2 c3
 go_wp2
 go_loopw [7, 8] (fun v i wr => ∃ (q : Nat) (A : Option Addr) (N c : Nat), v = .slice A N c ∧ i = .int .i64 ((q : Int) - 1) ∧ q ≤ 64 ∧ Hid ((wds (b ^ (n / 2 ^ q))).length = N) ∧ N ≤ c ∧ Hid (RW wr wr.heap.size A (wds (b ^ (n / 2 ^ q)))) ∧ Hid (lngB (b ^ (n / 2 ^ q)) = false) ∧ Below w2.heap.size w2 wr) (fun _ i _ => (intOf i + 1).toNat)
 case atStart => exact ⟨q0, A2, O, c2, rfl, rfl, hbl, Lib.hid (by rw [HZ.out]; exact HO.out), hc2, Lib.hid (by rw [HZ.out]; exact HR2.out), Lib.hid (by rw [HZ.out]; exact lng_small (by omega)), Below.refl _ _⟩
 case round =>
  obtain ⟨q, A, N, c, rfl, rfl, hq, HNq, hNc, HR, HL, hbw⟩ := hrel
  by_cases h0 : q = 0
  ·subst h0
   have HE := Lib.hid (show b ^ (n / 2 ^ 0) = b ^ n by rw [Nat.pow_zero, Nat.div_one])
   have HX := Lib.hid (NatPost.ok (w := w) HL.out HNq.out.symm hNc HR.out (below_le HB2.out hbw))
   go_wp2
   go_ret2
   rw [← HE.out]
   exact HX.out
  ·obtain ⟨i, rfl⟩ : ∃ i, q = i + 1 := ⟨q - 1, by omega⟩
   have hNl := lng_le HL.out
   rw [HNq.out] at hNl
   have C1 := Lib.hid (mul_ok A A N c N c (wds (b ^ (n / 2 ^ (i + 1)))) (wds (b ^ (n / 2 ^ (i + 1)))) wr HNq.out hNc (by omega) HR.out HNq.out hNc (by omega) HR.out (by rw [wds_val, HL.out]; rfl))
   rw [wds_val] at C1
   clear h0
   cases hsq : lngB (b ^ (n / 2 ^ (i + 1)) * b ^ (n / 2 ^ (i + 1)))
   ·obtain ⟨N3, hN3⟩ : ∃ N3, (wds (b ^ (n / 2 ^ (i + 1)) * b ^ (n / 2 ^ (i + 1)))).length = N3 := ⟨_, rfl⟩
    have C2 := Lib.hid (C1.out.mono fun _ _ x => x.one hsq hN3)
    have hi1 : (i : Int) ≤ 63 := by omega
    have hbt := bit_test n i HN.out
    have hhalf := half_pow b n i
    have hbit : n / 2 ^ i % 2 = 0 ∨ n / 2 ^ i % 2 = 1 := by omega
    rcases hbit with hbit | hbit
    ·rw [hbit, Nat.pow_zero, Nat.mul_one] at hhalf
     rw [hhalf] at C2 hsq hN3
     have hT : (bits BinOp.and IntKind.i64 ((n : Int) / 2 ^ i) 1 == 1) = false := by rw [hbt, hbit]; rfl
     have HN3 := Lib.hid hN3
     have HSQ := Lib.hid hsq
     clear hbit hbt hhalf hN3 hsq C1 hNl
     go_wp2_with fail
     refine C2.out.mono ?_
     rintro e w3 ⟨A3, c3, rfl, ⟨hc3, r3⟩, b3⟩
     have HR3 := Lib.hid r3
     have HB3 := Lib.hid (below_le hbw b3)
     clear r3 b3 C2
     go_wp2
     go_roundw
     case rel => exact ⟨i, A3, N3, c3, rfl, by go_num, by omega, HN3, hc3, HR3, HSQ, HB3.out⟩
     case measure => simp [intOf]
    ·rw [hbit, Nat.pow_one] at hhalf
     have hT : (bits BinOp.and IntKind.i64 ((n : Int) / 2 ^ i) 1 == 1) = true := by rw [hbt, hbit]; rfl
     have hN3l := lng_le hsq
     rw [hN3] at hN3l
     have C4 := Lib.hid (fun W A5 c5 (h5 : N3 ≤ c5) (r5 : RW W W.heap.size A5 (wds (b ^ (n / 2 ^ (i + 1)) * b ^ (n / 2 ^ (i + 1))))) (r6 : RW W W.heap.size A1 (wds b)) =>
      show Cp 175 #[.slice A5 N3 c5, .slice A1 F c1] W (NatPost (b ^ (n / 2 ^ i)) W) from by
       have := mul_ok A5 A1 N3 c5 F c1 _ _ W hN3 h5 (by omega) r5 HF.out hc1 (by omega) r6 (by rw [wds_val, wds_val, hsq, lng_small HB.out]; rfl)
       rw [wds_val, wds_val, hhalf] at this
       exact this)
     clear hbit hbt hhalf hN3 hsq C1 hNl hN3l
     cases hmu : lngB (b ^ (n / 2 ^ i))
     ·obtain ⟨N4, hN4⟩ : ∃ N4, (wds (b ^ (n / 2 ^ i))).length = N4 := ⟨_, rfl⟩
      have HN4 := Lib.hid hN4
      have HMU := Lib.hid hmu
      clear hN4 hmu
      go_wp2_with fail
      refine C2.out.mono ?_
      rintro e w3 ⟨A3, c3, rfl, ⟨hc3, r3⟩, b3⟩
      have D4 := Lib.hid ((C4.out w3 A3 c3 hc3 r3 ((HR1.out.step hbw).step b3)).mono fun _ _ x => x.one HMU.out HN4.out)
      have hbw3 := below_le hbw b3
      clear r3 b3 C2 C4
      go_wp2_with fail
      refine D4.out.mono ?_
      rintro e w4 ⟨A4, c4, rfl, ⟨hc4, r4⟩, b4⟩
      have HR4 := Lib.hid r4
      have HB4 := Lib.hid (below_le hbw3 b4)
      clear r4 b4 D4
      go_wp2
      go_roundw
      case rel => exact ⟨i, A4, N4, c4, rfl, by go_num, by omega, HN4, hc4, HR4, HMU, HB4.out⟩
      case measure => simp [intOf]
     ·have HMU := Lib.hid hmu
      have HLN := Lib.hid (pow_le b _ n (Nat.div_le_self n (2 ^ i)) hmu)
      clear hmu
      go_wp2_with fail
      refine C2.out.mono ?_
      rintro e w3 ⟨A3, c3, rfl, ⟨hc3, r3⟩, b3⟩
      have D4 := Lib.hid ((C4.out w3 A3 c3 hc3 r3 ((HR1.out.step hbw).step b3)).mono fun _ _ x => x.err HMU.out)
      have hbw3 := below_le hbw b3
      clear r3 b3 C2 C4
      go_wp2_with fail
      refine D4.out.mono ?_
      rintro e w4 ⟨rfl, b4⟩
      have HB4 := Lib.hid (below_le HB2.out (below_le hbw3 b4))
      clear b4 D4
      go_wp2
      go_ret2
      exact NatPost.long HLN.out HB4.out
   ·have HSQ := Lib.hid hsq
    have HLN := Lib.hid (show lngB (b ^ n) = true by rw [sq_pow] at hsq; exact pow_le b _ n (sq_le n i) hsq)
    have C2 := Lib.hid (C1.out.mono fun _ _ x => x.err hsq)
    clear hsq hNl C1
    go_wp2_with fail
    refine C2.out.mono ?_
    rintro e w3 ⟨rfl, b3⟩
    have HB3 := Lib.hid (below_le HB2.out (below_le hbw b3))
    clear b3 C2
    go_wp2
    go_ret2
    exact NatPost.long HLN.out HB3.out

end Go.Proofs.YtjmplgbhjpldbaaGreatDoor
namespace Go.Proofs.YtjmplgbhjpldbaaGreatDoor
open Go.RowKit
end Go.Proofs.YtjmplgbhjpldbaaGreatDoor
namespace Go.Proofs.YtjmplgbhjpldbaaGreatDoor
open Go.RowKit
def fnan (x : Nat) : Bool := decide (9218868437227405312 < rung x)
def finf (x : Nat) : Bool := decide (rung x = 9218868437227405312)
theorem ord_self (x : Nat) : (FloatKind.f64.format.order x x != some .eq) = fnan x := by
 unfold fnan
 show (Ieee.double.order x x != some .eq) = _
 by_cases h : 9218868437227405312 < rung x
 ·rw [order_nan (.inl h), decide_eq_true h]; rfl
 ·rw [order_eq (by omega) (by omega), decide_eq_false h]
  have : compare (frank x) (frank x) = .eq := by simp [compare, compareOfLessAndEq]
  rw [this]; rfl
theorem cmp_lt (a b : Int) : (some (compare a b) == some Ordering.lt) = decide (a < b) := by
 simp only [compare, compareOfLessAndEq]
 by_cases h : a < b
 ·simp [h]
 ·by_cases h2 : a = b
  ·simp [h2]
  ·simp [h, h2]
theorem cmp_gt (a b : Int) : (some (compare a b) == some Ordering.gt) = decide (b < a) := by
 simp only [compare, compareOfLessAndEq]
 by_cases h : a < b
 ·simp [h]; omega
 ·by_cases h2 : a = b
  ·simp [h2]
  ·simp [h, h2]; omega
theorem cmp_eq (a b : Int) : (some (compare a b) == some Ordering.eq) = decide (a = b) := by
 simp only [compare, compareOfLessAndEq]
 by_cases h : a < b
 ·simp [h]; omega
 ·by_cases h2 : a = b
  ·simp [h2]
  ·simp [h, h2]
theorem ord_below (x : Nat) : (FloatKind.f64.format.order x 0 == some .lt) = (!fnan x && (fneg x && decide (0 < rung x))) := by
 show (Ieee.double.order x 0 == some .lt) = _
 unfold fnan
 by_cases h : 9218868437227405312 < rung x
 ·rw [order_nan (.inl h), decide_eq_true h]; rfl
 ·rw [order_eq (by omega) (by decide), decide_eq_false h, cmp_lt]
  have e : frank 0 = 0 := by decide
  rw [e]
  unfold frank
  cases fneg x <;> simp <;> omega
theorem ord_zero (x : Nat) : (FloatKind.f64.format.order x 0 == some .eq) = decide (rung x = 0) := by
 show (Ieee.double.order x 0 == some .eq) = _
 by_cases h : 9218868437227405312 < rung x
 ·rw [order_nan (.inl h)]
  have : ¬ rung x = 0 := by omega
  rw [decide_eq_false this]; rfl
 ·rw [order_eq (by omega) (by decide), cmp_eq]
  have e : frank 0 = 0 := by decide
  rw [e]
  unfold frank
  cases fneg x <;> simp
theorem ord_most (x : Nat) : (FloatKind.f64.format.order x 9218868437227405311 == some .gt) = (finf x && !fneg x) := by
 show (Ieee.double.order x 9218868437227405311 == some .gt) = _
 unfold finf
 by_cases h : 9218868437227405312 < rung x
 ·rw [order_nan (.inl h)]
  have : ¬ rung x = 9218868437227405312 := by omega
  rw [decide_eq_false this]; rfl
 ·rw [order_eq (by omega) (by decide), cmp_gt]
  have e : frank 9218868437227405311 = 9218868437227405311 := by decide
  rw [e]
  unfold frank
  cases fneg x
  ·simp; omega
  ·simp
theorem isNaN_any (x : Nat) (w : World) : Cq 199 #[.float .f64 x] (.bool (fnan x)) w := by
 have h := ord_self x
 go_enter Tryz.func199, Tryz.ntmps199
 go_wp2
 go_ret
 exact ⟨by rw [← h]; rfl, rfl⟩
theorem not_sign (x : Nat) (hx : x < 18446744073709551616) : bits BinOp.andNot IntKind.u64 (x : Int) 9223372036854775808 = ((rung x : Nat) : Int) := by
 show IntKind.u64.wrap ((BitVec.ofInt 64 (x : Int) &&& ~~~ BitVec.ofInt 64 9223372036854775808).toNat : Int) = _
 have e1 : (BitVec.ofInt 64 (x : Int)) = BitVec.ofNat 64 x := by rw [BitVec.ofInt_natCast]
 have e2 : (~~~ BitVec.ofInt 64 9223372036854775808) = BitVec.ofNat 64 (2 ^ 63 - 1) := by decide
 rw [e1, e2, BitVec.toNat_and, BitVec.toNat_ofNat, BitVec.toNat_ofNat, Nat.mod_eq_of_lt (by omega : x < 2 ^ 64), Nat.mod_eq_of_lt (by omega : 2 ^ 63 - 1 < 2 ^ 64), Nat.and_two_pow_sub_one_eq_mod, IntKind.wrap_u64]
 unfold rung
 omega
theorem f64bits_run (x : Nat) (w : World) : (callFunc 201 #[.float .f64 x]).run Tryz.prog w = .ok (.value (.int .u64 x)) w := by
 rw [run_callFunc_extern (e := Extern.MathFloatBits.float64bits) Tryz.func201 (by kernel_rfl) (by kernel_rfl) (by kernel_rfl) (by kernel_rfl)]
 rfl
theorem f64from_run (x : Nat) (w : World) : (callFunc 139 #[.int .u64 x]).run Tryz.prog w = .ok (.value (.float .f64 x)) w := by
 rw [run_callFunc_extern (e := Extern.MathFloatBits.float64frombits) Tryz.func139 (by kernel_rfl) (by kernel_rfl) (by kernel_rfl) (by kernel_rfl)]
 rfl
theorem abs_any (x : Nat) (w : World) (hx : x < 18446744073709551616) : Cq 212 #[.float .f64 x] (.float .f64 (rung x)) w := by
 have h := not_sign x hx
 have h1 := f64bits_run x w
 have h2 := f64from_run (rung x) w
 clear hx
 go_enter Tryz.func212, Tryz.ntmps212
 go_wp2
 go_ret
 exact ⟨by rfl, rfl⟩
theorem rung_rung (x : Nat) : rung (rung x) = rung x ∧ fneg (rung x) = false := by
 unfold rung fneg
 refine ⟨by omega, ?_⟩
 rw [Nat.div_eq_of_lt (Nat.mod_lt _ (by omega))]; rfl
theorem isInf0_any (x : Nat) (w : World) (hx : x < 18446744073709551616) : Cq 198 #[.float .f64 x, .int .i64 0] (.bool (finf x)) w := by
 have h := ord_most (rung x)
 have h2 : (finf (rung x) && !fneg (rung x)) = finf x := by
  unfold finf
  rw [(rung_rung x).1, (rung_rung x).2]; simp
 rw [h2] at h
 have C1 := Lib.hid (fun W => abs_any x W hx)
 clear hx h2
 go_enter Tryz.func198, Tryz.ntmps198
 go_wp2_with fail
 refine (C1.out _).mono ?_
 rintro e w' ⟨rfl, rfl⟩
 go_wp2
 go_ret
 exact ⟨by rw [← h]; rfl, rfl⟩

end Go.Proofs.YtjmplgbhjpldbaaGreatDoor
namespace Go.Proofs.YtjmplgbhjpldbaaGreatDoor
open Go.RowKit
theorem two_wds' (n : Nat) (h : n < 18446744073709551616) : nrm (two n) = wds n := by rw [nrm_wds (two_ws h), two_val]
end Go.Proofs.YtjmplgbhjpldbaaGreatDoor
namespace Go.Proofs.YtjmplgbhjpldbaaGreatDoor
def stk (N b : Nat) : Nat := if N % 2 ^ b = 0 then N / 2 ^ b else N / 2 ^ b / 2 * 2 + 1
theorem evn_stk (N b : Nat) : evn (stk N b) 11 = evn N (11 + b) := by
 have hP := Nat.two_pow_pos b
 have hr := Nat.mod_lt N hP
 have hN := Nat.div_add_mod N (2 ^ b)
 have hp : 2 ^ (11 + b) = 2048 * 2 ^ b := by rw [Nat.pow_add]
 have hdiv : N / 2 ^ (11 + b) = N / 2 ^ b / 2048 := by rw [hp, Nat.mul_comm, ← Nat.div_div_eq_div_mul]
 have hmod : N % 2 ^ (11 + b) = N / 2 ^ b % 2048 * 2 ^ b + N % 2 ^ b := by
  rw [hp, Nat.mul_comm 2048, Nat.mod_mul, Nat.mul_comm, Nat.add_comm]
 unfold evn stk
 rw [hdiv, hmod, hp]
 rw [show (2 : Nat) ^ 11 = 2048 from rfl]
 generalize 2 ^ b = P at *
 generalize N / P = H at *
 generalize N % P = r at *
 clear hN hdiv hmod hp
 have hh : H % 2048 < 2048 := Nat.mod_lt _ (by omega)
 have hW : (if r = 0 then H else H / 2 * 2 + 1) / 2048 = H / 2048 := by split <;> omega
 rw [hW]
 rcases Nat.lt_trichotomy (H % 2048) 1024 with h1 | h1 | h1
 ·have h2 : (H % 2048 + 1) * P ≤ 1024 * P := Nat.mul_le_mul_right _ (by omega)
  rw [Nat.add_mul, Nat.one_mul] at h2
  have h3 : (if r = 0 then H else H / 2 * 2 + 1) % 2048 < 1024 := by split <;> omega
  rw [decide_eq_false (show ¬ 2048 < 2 * ((if r = 0 then H else H / 2 * 2 + 1) % 2048) by omega), decide_eq_false (show ¬ 2048 = 2 * ((if r = 0 then H else H / 2 * 2 + 1) % 2048) by omega)]
  rw [decide_eq_false (show ¬ 2048 * P < 2 * (H % 2048 * P + r) by omega), decide_eq_false (show ¬ 2048 * P = 2 * (H % 2048 * P + r) by omega)]
 ·rw [h1]
  by_cases h0 : r = 0
  ·subst h0
   rw [if_pos rfl, h1]
   rw [decide_eq_false (show ¬ 2048 < 2 * 1024 by omega), decide_eq_true (show 2048 = 2 * 1024 by omega), decide_eq_false (show ¬ 2048 * P < 2 * (1024 * P + 0) by omega), decide_eq_true (show 2048 * P = 2 * (1024 * P + 0) by omega)]
  ·rw [if_neg h0, decide_eq_true (show 2048 < 2 * ((H / 2 * 2 + 1) % 2048) by omega), decide_eq_true (show 2048 * P < 2 * (1024 * P + r) by omega)]
   rfl
 ·have h2 : 1025 * P ≤ H % 2048 * P := Nat.mul_le_mul_right _ (by omega)
  have h3 : 1024 < (if r = 0 then H else H / 2 * 2 + 1) % 2048 := by split <;> omega
  rw [decide_eq_true (show 2048 < 2 * ((if r = 0 then H else H / 2 * 2 + 1) % 2048) by omega), decide_eq_true (show 2048 * P < 2 * (H % 2048 * P + r) by omega)]
  rfl
def scl (x b : Nat) : Nat := if x / 4503599627370496 + b < 2047 then x + b * 4503599627370496 else 9218868437227405312
theorem evn_range {N L : Nat} (h1 : 2 ^ L ≤ N) (h2 : N < 2 ^ (L + 1)) (hL : 52 ≤ L) : 4503599627370496 ≤ evn N (L - 52) ∧ evn N (L - 52) ≤ 9007199254740992 := by
 have e1 : 4503599627370496 ≤ N / 2 ^ (L - 52) := by
  rw [Nat.le_div_iff_mul_le (Nat.two_pow_pos _), show 4503599627370496 = 2 ^ 52 from rfl, ← Nat.pow_add, show 52 + (L - 52) = L by omega]
  exact h1
 have e2 : N / 2 ^ (L - 52) < 9007199254740992 := by
  rw [Nat.div_lt_iff_lt_mul (Nat.two_pow_pos _), show 9007199254740992 = 2 ^ 53 from rfl, ← Nat.pow_add, show 53 + (L - 52) = L + 1 by omega]
  exact h2
 unfold evn
 have : ∀ c : Bool, c.toNat ≤ 1 := by decide
 have := this (decide (2 ^ (L - 52) < 2 * (N % 2 ^ (L - 52))) || (decide (2 ^ (L - 52) = 2 * (N % 2 ^ (L - 52))) && decide (N / 2 ^ (L - 52) % 2 = 1)))
 omega
theorem stk_range {N b : Nat} (h1 : 2 ^ (63 + b) ≤ N) (h2 : N < 2 ^ (63 + b + 1)) : 2 ^ 63 ≤ stk N b ∧ stk N b < 2 ^ 64 := by
 have e1 : 2 ^ 63 ≤ N / 2 ^ b := by
  rw [Nat.le_div_iff_mul_le (Nat.two_pow_pos _), ← Nat.pow_add]
  exact h1
 have e2 : N / 2 ^ b < 2 ^ 64 := by
  rw [Nat.div_lt_iff_lt_mul (Nat.two_pow_pos _), ← Nat.pow_add, show 64 + b = 63 + b + 1 by omega]
  exact h2
 unfold stk
 rw [show (2 : Nat) ^ 63 = 9223372036854775808 from rfl] at *
 rw [show (2 : Nat) ^ 64 = 18446744073709551616 from rfl] at *
 split <;> omega
theorem fl_stk {N b : Nat} (h1 : 2 ^ (63 + b) ≤ N) (h2 : N < 2 ^ (63 + b + 1)) : fl N = scl (fl (stk N b)) b := by
 obtain ⟨s1, s2⟩ := stk_range h1 h2
 have f1 := fl_high h1 h2 (by omega)
 have f2 := fl_high s1 s2 (by omega)
 obtain ⟨r1, r2⟩ := evn_range s1 s2 (by omega)
 rw [show 63 + b - 52 = 11 + b by omega] at f1
 rw [show 63 - 52 = 11 from rfl, evn_stk] at f2 r1 r2
 rw [f1, f2]
 generalize evn N (11 + b) = v at *
 clear f1 f2 h1 h2 s1 s2
 unfold scl
 split <;> omega
theorem fl_top {N : Nat} (K : Nat) (hK : K = 1024) (h : 2 ^ K ≤ N) : fl N = 9218868437227405312 := by
 have h0 : 0 < N := Nat.lt_of_lt_of_le (Nat.two_pow_pos K) h
 obtain ⟨a1, a2⟩ := log2_two N h0
 have hL : 1024 ≤ N.log2 := by
  have : 2 ^ K < 2 ^ (N.log2 + 1) := Nat.lt_of_le_of_lt h a2
  have := (Nat.pow_lt_pow_iff_right (a := 2) (by omega)).1 this
  omega
 obtain ⟨r1, r2⟩ := evn_range a1 a2 (by omega)
 rw [fl_high a1 a2 (by omega)]
 generalize N.log2 = L at *
 omega
theorem scl_zero {X : Nat} (h : X < 9218868437227405312) : scl X 0 = X := by
 unfold scl
 split <;> omega
theorem one_mul {y : Nat} (h1 : 4503599627370496 ≤ y) (h2 : y < 9218868437227405312) : Ieee.double.mul 4607182418800017408 y = some y := by
 have e1 : Ieee.double.signWeight = 9223372036854775808 := by decide
 have e2 : Ieee.double.binade = 4503599627370496 := by decide
 have e3 : Ieee.double.infRung = 9218868437227405312 := by decide
 have e4 : Ieee.double.leastPlace = -1074 := by decide
 have e5 : Ieee.double.fractionBits = 52 := rfl
 have r1 : Ieee.double.read 4607182418800017408 = .number false 4503599627370496 (-52) := by decide
 have r2 : Ieee.double.read y = .number false (4503599627370496 + y % 4503599627370496) (-1074 + ((y / 4503599627370496 - 1 : Nat) : Int)) := by
  unfold Ieee.Format.read
  rw [e1, e2, e3, e4]
  have q1 : y % 9223372036854775808 = y := Nat.mod_eq_of_lt (by omega)
  have q2 : y / 9223372036854775808 % 2 = 0 := by omega
  simp only [q1, q2]
  rw [if_neg (by omega), if_pos h2]
  rfl
 unfold Ieee.Format.mul
 rw [r1, r2]
 show some (Ieee.double.nearest false (4503599627370496 * (4503599627370496 + y % 4503599627370496)) (-52 + (-1074 + ((y / 4503599627370496 - 1 : Nat) : Int)))) = _
 have ht : y % 4503599627370496 < 4503599627370496 := Nat.mod_lt _ (by omega)
 have hq : y / 4503599627370496 < 2047 := by omega
 have hy := Nat.div_add_mod y 4503599627370496
 have hq1 : 1 ≤ y / 4503599627370496 := by omega
 generalize y % 4503599627370496 = t at *
 generalize y / 4503599627370496 = q at *
 have hlog : (4503599627370496 * (4503599627370496 + t)).log2 = 104 := by
  refine log2_of ?_ ?_
  ·rw [show (2 : Nat) ^ 104 = 4503599627370496 * 4503599627370496 from rfl]; omega
  ·rw [show (2 : Nat) ^ (104 + 1) = 4503599627370496 * 9007199254740992 from rfl]; omega
 unfold Ieee.Format.nearest
 rw [if_neg (by omega), e2, e3, e4, e5, hlog]
 have e6 : max (-52 + (-1074 + ((q - 1 : Nat) : Int)) + ((104 : Nat) : Int) - ((52 : Nat) : Int)) (-1074) = (q : Int) - 1075 := by omega
 rw [e6]
 dsimp only
 have q1 : (-52 + (-1074 + ((q - 1 : Nat) : Int)) - ((q : Int) - 1075)).toNat = 0 := by omega
 have q2 : ((q : Int) - 1075 - (-52 + (-1074 + ((q - 1 : Nat) : Int)))).toNat = 52 := by omega
 have q3 : ((q : Int) - 1075 - -1074).toNat = q - 1 := by omega
 rw [q1, q2, q3, Nat.shiftLeft_zero, cut_evn _ _ (by rw [hlog]; omega), Nat.mul_comm 4503599627370496]
 have hev := evn_exact (4503599627370496 + t) 52
 rw [show (2 : Nat) ^ 52 = 4503599627370496 from rfl] at hev
 rw [hev, word_pos, Nat.min_eq_left (by omega)]
 exact congrArg some (by omega)

end Go.Proofs.YtjmplgbhjpldbaaGreatDoor
namespace Go.Proofs.YtjmplgbhjpldbaaGreatDoor
open Go.RowKit
theorem pos_rung {x : Nat} (h : x < 9223372036854775808) : rung x = x ∧ fneg x = false ∧ frank x = (x : Int) := by
 have h1 : rung x = x := Nat.mod_eq_of_lt h
 have h2 : fneg x = false := by unfold fneg; rw [Nat.div_eq_of_lt h]; rfl
 refine ⟨h1, h2, ?_⟩
 unfold frank
 rw [h1, h2]
 rfl
theorem ford_lt {x y : Nat} (hx : x ≤ 9218868437227405312) (hy : y ≤ 9218868437227405312) : (FloatKind.f64.format.order x y == some .lt) = decide (x < y) := by
 show (Ieee.double.order x y == some .lt) = _
 obtain ⟨a1, _, a3⟩ := pos_rung (x := x) (by omega)
 obtain ⟨b1, _, b3⟩ := pos_rung (x := y) (by omega)
 rw [order_eq (by omega) (by omega), cmp_lt, a3, b3]
 simp
theorem inf1_any (w : World) : Cq 119 #[.int .i64 1] (.float .f64 9218868437227405312) w := by
 have h2 : (callFunc 139 #[.int .u64 9218868437227405312]).run Tryz.prog w = .ok (.value (.float .f64 9218868437227405312)) w := f64from_run 9218868437227405312 w
 go_enter Tryz.func119, Tryz.ntmps119
 go_wp2
 go_ret
 exact ⟨by rfl, rfl⟩
theorem normalize_any (x : Nat) (w : World) (h1 : 4503599627370496 ≤ x) (h2 : x < 9218868437227405312) : Cq 200 #[.float .f64 x] (.tuple #[.float .f64 x, .int .i64 0]) w := by
 have C1 := Lib.hid (fun W => abs_any x W (by omega))
 rw [(pos_rung (x := x) (by omega)).1] at C1
 have h := ford_lt (x := x) (y := 4503599627370496) (by omega) (by omega)
 rw [decide_eq_false (by omega)] at h
 clear h1 h2
 go_enter Tryz.func200, Tryz.ntmps200
 go_wp2_with fail
 refine (C1.out _).mono ?_
 rintro e w' ⟨rfl, rfl⟩
 go_wp2
 go_ret2
 exact ⟨rfl, rfl⟩
theorem and_top {x : Nat} (hx : x < 9223372036854775808) : x &&& 2 ^ 63 = 0 := by
 apply Nat.eq_of_testBit_eq
 intro i
 rw [Nat.testBit_and, Nat.testBit_two_pow, Nat.zero_testBit]
 by_cases h : 63 = i
 ·subst h
  rw [Nat.testBit_lt_two_pow (show x < 2 ^ 63 from hx)]; rfl
 ·rw [decide_eq_false h, Bool.and_false]
theorem not_exp (x : Nat) (hx : x < 9223372036854775808) : bits BinOp.andNot IntKind.u64 (x : Int) 9218868437227405312 = ((x % 4503599627370496 : Nat) : Int) := by
 show IntKind.u64.wrap ((BitVec.ofInt 64 (x : Int) &&& ~~~ BitVec.ofInt 64 9218868437227405312).toNat : Int) = _
 have e1 : (BitVec.ofInt 64 (x : Int)) = BitVec.ofNat 64 x := by rw [BitVec.ofInt_natCast]
 have e2 : (~~~ BitVec.ofInt 64 9218868437227405312) = BitVec.ofNat 64 (2 ^ 63 ||| (2 ^ 52 - 1)) := by decide
 rw [e1, e2, BitVec.toNat_and, BitVec.toNat_ofNat, BitVec.toNat_ofNat, Nat.mod_eq_of_lt (by omega : x < 2 ^ 64), Nat.mod_eq_of_lt (by decide : 2 ^ 63 ||| (2 ^ 52 - 1) < 2 ^ 64), Nat.and_or_distrib_left, Nat.and_two_pow_sub_one_eq_mod, and_top hx, Nat.zero_or, IntKind.wrap_u64]
 omega
theorem and_2047 (q : Nat) (hq : q < 2048) : bits BinOp.and IntKind.i64 (q : Int) 2047 = (q : Int) := by
 show IntKind.i64.wrap ((BitVec.ofInt 64 (q : Int) &&& BitVec.ofInt 64 2047).toNat : Int) = _
 have e1 : (BitVec.ofInt 64 (q : Int)) = BitVec.ofNat 64 q := by rw [BitVec.ofInt_natCast]
 have e2 : (BitVec.ofInt 64 2047) = BitVec.ofNat 64 (2 ^ 11 - 1) := by decide
 rw [e1, e2, BitVec.toNat_and, BitVec.toNat_ofNat, BitVec.toNat_ofNat, Nat.mod_eq_of_lt (by omega : q < 2 ^ 64), Nat.mod_eq_of_lt (by omega : 2 ^ 11 - 1 < 2 ^ 64), Nat.and_two_pow_sub_one_eq_mod, Nat.mod_eq_of_lt hq, IntWalk.i64_in _ (by omega)]
theorem or_exp (t q : Nat) (ht : t < 4503599627370496) (hq : q < 2048) : bits BinOp.or IntKind.u64 (t : Int) ((q * 4503599627370496 : Nat) : Int) = ((t + q * 4503599627370496 : Nat) : Int) := by
 rw [or_u64 t (q * 4503599627370496) (by omega) (by omega)]
 have := Nat.two_pow_add_eq_or_of_lt (i := 52) (b := t) ht q
 rw [Nat.or_comm, show q * 4503599627370496 = 2 ^ 52 * q by rw [Nat.mul_comm], ← this, Nat.add_comm]
set_option maxHeartbeats 1000000 in
theorem ldexp_zero (b : Int) (w : World) : Cq 155 #[.float .f64 0, .int .i64 b] (.float .f64 0) w := by
 have h : (FloatKind.f64.format.order 0 0 == some .eq) = true := by decide
 have C : Cq 181 #[.float .f64 0, .int .i64 b] (.float .f64 0) w := by
  go_enter Tryz.func181, Tryz.ntmps181
  go_wp2
  go_ret
  exact ⟨rfl, rfl⟩
 have C := Lib.hid C
 clear h
 go_enter Tryz.func155, Tryz.ntmps155
 go_wp2_with fail
 refine C.out.mono ?_
 rintro e w' ⟨rfl, rfl⟩
 go_wp2
 go_ret
 exact ⟨rfl, rfl⟩
set_option maxHeartbeats 1000000 in
theorem ldexpl_any (x b : Nat) (w : World) (h1 : 4503599627370496 ≤ x) (h2 : x < 9218868437227405312) (hb : b < 1048576) : Cq 181 #[.float .f64 x, .int .i64 b] (.float .f64 (scl x b)) w := by
 obtain ⟨p1, p2, p3⟩ := pos_rung (x := x) (by omega)
 have C1 := Lib.hid (fun W => isNaN_any x W)
 have C2 := Lib.hid (fun W => isInf0_any x W (by omega))
 rw [show fnan x = false from by unfold fnan; rw [p1]; exact decide_eq_false (by omega)] at C1
 rw [show finf x = false from by unfold finf; rw [p1]; exact decide_eq_false (by omega)] at C2
 have C3 := Lib.hid (fun W => normalize_any x W h1 h2)
 have C4 := Lib.hid (fun W => inf1_any W)
 have h3 := ord_zero x
 rw [p1, decide_eq_false (by omega)] at h3
 have h4 := ord_below x
 rw [p2, Bool.false_and, Bool.and_false] at h4
 have h5 := f64bits_run x w
 have h6 := not_exp x (by omega)
 unfold scl
 obtain ⟨q, hq⟩ : ∃ q, x / 4503599627370496 = q := ⟨_, rfl⟩
 obtain ⟨t, ht⟩ : ∃ t, x % 4503599627370496 = t := ⟨_, rfl⟩
 rw [ht] at h6
 rw [hq]
 have h7 := and_2047 q (by omega)
 have k1 : (x : Int) / 4503599627370496 = (q : Int) := by omega
 have k2 : IntKind.i64.wrap (q : Int) = (q : Int) := IntWalk.i64_in _ (by omega)
 have k3 : IntKind.i64.wrap ((q : Int) - 1023) = (q : Int) - 1023 := IntWalk.i64_in _ (by omega)
 have k4 : IntKind.i64.wrap ((b : Int) + ((q : Int) - 1023)) = (b : Int) + ((q : Int) - 1023) := IntWalk.i64_in _ (by omega)
 have k5 : IntKind.i64.wrap (b : Int) = (b : Int) := IntWalk.i64_in _ (by omega)
 have t1 : decide ((b : Int) + ((q : Int) - 1023) < -1075) = false := decide_eq_false (by omega)
 by_cases hlt : q + b < 2047
 ·rw [if_pos hlt]
  have h8 := or_exp t (b + q) (by omega) (by omega)
  have h9 := f64from_run (t + (b + q) * 4503599627370496) w
  have h10 := one_mul (y := t + (b + q) * 4503599627370496) (by omega) (by omega)
  have h11 : (binOp BinOp.mul 22 (.float .f64 4607182418800017408) (.float .f64 (t + (b + q) * 4503599627370496))).run Tryz.prog w = .ok (.float .f64 (t + (b + q) * 4503599627370496)) w := run_float_arith _ _ _ _ _ _ _ h10
  clear h10
  have t2 : decide (1023 < (b : Int) + ((q : Int) - 1023)) = false := decide_eq_false (by omega)
  have t3 : decide ((b : Int) + ((q : Int) - 1023) < -1022) = false := decide_eq_false (by omega)
  have k6 : IntKind.i64.wrap ((b : Int) + ((q : Int) - 1023) + 1023) = ((b + q : Nat) : Int) := by rw [IntWalk.i64_in _ (by omega)]; omega
  have k7 : IntKind.u64.wrap ((b + q : Nat) : Int) = ((b + q : Nat) : Int) := by rw [IntKind.wrap_u64]; omega
  have hx : x + b * 4503599627370496 = t + (b + q) * 4503599627370496 := by omega
  rw [hx]
  obtain ⟨y, hy⟩ : ∃ y, t + (b + q) * 4503599627370496 = y := ⟨_, rfl⟩
  obtain ⟨z, hz⟩ : ∃ z, b + q = z := ⟨_, rfl⟩
  rw [hy] at h8 h9 h11 ⊢
  rw [hz] at h8 k6 k7
  have k8 : IntKind.u64.wrap ((z : Int) * 4503599627370496) = ((z * 4503599627370496 : Nat) : Int) := by rw [IntKind.wrap_u64]; omega
  rw [← k8] at h8
  clear k8
  clear h1 h2 hb p1 p2 p3 hq ht hlt hx hy hz
  go_enter Tryz.func181, Tryz.ntmps181
  go_wp2_with fail
  refine (C2.out _).mono ?_
  rintro e w' ⟨rfl, rfl⟩
  go_wp2_with fail
  refine (C1.out _).mono ?_
  rintro e w' ⟨rfl, rfl⟩
  go_wp2_with fail
  refine (C3.out _).mono ?_
  rintro e w' ⟨rfl, rfl⟩
  go_wp2
  go_ret
  exact ⟨rfl, rfl⟩
 ·rw [if_neg hlt]
  have t2 : decide (1023 < (b : Int) + ((q : Int) - 1023)) = true := decide_eq_true (by omega)
  clear h1 h2 hb p1 p2 p3 hq ht hlt h6
  go_enter Tryz.func181, Tryz.ntmps181
  go_wp2_with fail
  refine (C2.out _).mono ?_
  rintro e w' ⟨rfl, rfl⟩
  go_wp2_with fail
  refine (C1.out _).mono ?_
  rintro e w' ⟨rfl, rfl⟩
  go_wp2_with fail
  refine (C3.out _).mono ?_
  rintro e w' ⟨rfl, rfl⟩
  go_wp2_with fail
  refine (C4.out _).mono ?_
  rintro e w' ⟨rfl, rfl⟩
  go_wp2
  go_ret
  exact ⟨rfl, rfl⟩
theorem ldexp_any (x b : Nat) (w : World) (h1 : 4503599627370496 ≤ x) (h2 : x < 9218868437227405312) (hb : b < 1048576) : Cq 155 #[.float .f64 x, .int .i64 b] (.float .f64 (scl x b)) w := by
 have C := Lib.hid (ldexpl_any x b w h1 h2 hb)
 clear h1 h2 hb
 go_enter Tryz.func155, Tryz.ntmps155
 go_wp2_with fail
 refine C.out.mono ?_
 rintro e w' ⟨rfl, rfl⟩
 go_wp2
 go_ret
 exact ⟨rfl, rfl⟩

end Go.Proofs.YtjmplgbhjpldbaaGreatDoor
namespace Go.Proofs.YtjmplgbhjpldbaaGreatDoor
open Go.RowKit
theorem get_zero {l : List Nat} (h : Ws l) : l.getD 0 0 = val l % 4294967296 := by
 cases l with
 | nil => rfl
 | cons a r =>
  have := h.getD 0
  simp only [List.getD_cons_zero] at this ⊢
  simp only [val]
  omega
theorem get_one {l : List Nat} (h : Ws l) : l.getD 1 0 = val l / 4294967296 % 4294967296 := by
 cases l with
 | nil => rfl
 | cons a r =>
  have h0 := h.getD 0
  have h1 := get_zero (l := r) (fun x hx => h x (List.mem_cons_of_mem _ hx))
  simp only [List.getD_cons_zero] at h0
  simp only [List.getD_cons_succ, val]
  omega
theorem fl_pos {N : Nat} (h : 0 < N) (hN : N < 2 ^ 65) : 4503599627370496 ≤ fl N ∧ fl N < 9218868437227405312 := by
 obtain ⟨a1, a2⟩ := log2_two N h
 have hL : N.log2 < 65 := by
  have : 2 ^ N.log2 < 2 ^ 65 := Nat.lt_of_le_of_lt a1 hN
  exact (Nat.pow_lt_pow_iff_right (a := 2) (by omega)).1 this
 rcases Nat.lt_or_ge N.log2 52 with h1 | h1
 ·rw [fl_low a1 a2 (by omega)]
  have h3 : N * 2 ^ (52 - N.log2) < 9007199254740992 := by
   have : N * 2 ^ (52 - N.log2) < 2 ^ (N.log2 + 1) * 2 ^ (52 - N.log2) := Nat.mul_lt_mul_of_pos_right a2 (Nat.two_pow_pos _)
   rw [← Nat.pow_add, show N.log2 + 1 + (52 - N.log2) = 53 by omega] at this
   exact this
  omega
 ·obtain ⟨r1, r2⟩ := evn_range a1 a2 h1
  rw [fl_high a1 a2 h1]
  omega
theorem fl_top64 {v n : Nat} (h1 : 2 ^ (n - 1) ≤ v) (h2 : v < 2 ^ n) (h0 : 0 < n) : stk v (n - 64) < 18446744073709551616 ∧ 0 < stk v (n - 64) ∧ fl v = scl (fl (stk v (n - 64))) (n - 64) := by
 rcases Nat.lt_or_ge 64 n with h | h
 ·obtain ⟨b, rfl⟩ : ∃ b, n = 64 + b := ⟨n - 64, by omega⟩
  have a1 : 2 ^ (63 + b) ≤ v := by rw [show 63 + b = 64 + b - 1 by omega]; exact h1
  have a2 : v < 2 ^ (63 + b + 1) := by rw [show 63 + b + 1 = 64 + b by omega]; exact h2
  rw [Nat.add_sub_cancel_left]
  obtain ⟨s1, s2⟩ := stk_range a1 a2
  have := Nat.two_pow_pos 63
  exact ⟨s2, by omega, fl_stk a1 a2⟩
 ·rw [show n - 64 = 0 by omega]
  have e : stk v 0 = v := by unfold stk; rw [Nat.pow_zero, Nat.mod_one, if_pos rfl, Nat.div_one]
  have hv : v < 2 ^ 64 := Nat.lt_of_lt_of_le h2 (Nat.pow_le_pow_right (by omega) h)
  have hp := Nat.two_pow_pos (n - 1)
  have hf := fl_pos (N := v) (by omega) (Nat.lt_of_lt_of_le hv (by decide))
  rw [e, scl_zero hf.2]
  exact ⟨hv, by omega, rfl⟩
theorem or_one64 (x : Nat) (hx : x < 18446744073709551616) : bits BinOp.or IntKind.u64 (x : Int) 1 = ((x / 2 * 2 + 1 : Nat) : Int) := by
 have h := or_u64 x 1 hx (by omega)
 rw [show ((1 : Nat) : Int) = 1 from rfl] at h
 rw [h]
 have e : x ||| 1 = x / 2 * 2 + 1 := by
  have h1 : x = 2 * (x / 2) + x % 2 := by omega
  have h2 := Nat.two_pow_add_eq_or_of_lt (i := 1) (b := 1) (by omega) (x / 2)
  rcases Nat.mod_two_eq_zero_or_one x with h3 | h3
  ·rw [h3, Nat.add_zero] at h1
   rw [Nat.pow_one] at h2
   rw [← h1] at h2
   omega
  ·have h4 := Nat.two_pow_add_eq_or_of_lt (i := 1) (b := 1) (by omega) (x / 2)
   rw [Nat.pow_one] at h4
   have h5 : x = 2 * (x / 2) ||| 1 := by rw [← h4]; omega
   rw [h5, Nat.or_assoc, Nat.or_self, ← h5]
   omega
 rw [e]
theorem join64 (y z : Nat) (hy : y < 4294967296) (hz : z < 4294967296) : bits BinOp.or IntKind.u64 (IntKind.u64.wrap ((y : Int) * 4294967296)) (z : Int) = ((z + y * 4294967296 : Nat) : Int) := by
 have e : IntKind.u64.wrap ((y : Int) * 4294967296) = ((y * 4294967296 : Nat) : Int) := by rw [IntKind.wrap_u64]; omega
 rw [e, or_u64 (y * 4294967296) z (by omega) (by omega)]
 have := Nat.two_pow_add_eq_or_of_lt (i := 32) (b := z) hz y
 rw [show y * 4294967296 = 2 ^ 32 * y by rw [Nat.mul_comm], ← this, Nat.add_comm]
set_option maxHeartbeats 1000000 in
theorem pfloat_top (A : Option Addr) (n c : Nat) (l : List Nat) (w : World) (hn : l.length = n) (hc : n ≤ c) (hm : n ≤ 35184372087808) (h : RW w w.heap.size A l) (hb : 1024 < btl l) :
  Ct 128 #[.slice A n c] (.float .f64 (fl (val l))) w := by
 have C1 := Lib.hid (bits_any A n c l w.heap.size w hn hc (by omega) h)
 have C2 := Lib.hid (fun W => inf1_any W)
 have h0 : nrm l ≠ [] := by intro e; unfold btl at hb; rw [if_pos e] at hb; omega
 obtain ⟨b1, b2, b3⟩ := btl_bounds h.1 h0
 obtain ⟨K, hK⟩ : ∃ K, K = 1024 := ⟨_, rfl⟩
 have hf : fl (val l) = 9218868437227405312 := fl_top K hK (Nat.le_trans (Nat.pow_le_pow_right (by omega) (by omega)) b1)
 rw [hf]
 obtain ⟨m, hm2⟩ : ∃ m, btl l = m := ⟨_, rfl⟩
 rw [hm2] at C1 hb
 have t1 : (1024 : Int) < (m : Int) := by omega
 clear hn hc hm h h0 b1 b2 b3 hK hf hm2 hb
 go_enter Tryz.func128, Tryz.ntmps128
 go_wp2_with fail
 refine C1.out.mono ?_
 rintro e w' ⟨rfl, rfl⟩
 go_wp2_with fail
 refine (C2.out _).mono ?_
 rintro e w' ⟨rfl, rfl⟩
 go_wp2
 go_ret
 exact ⟨rfl, Below.refl _ _⟩
set_option maxRecDepth 100000 in
set_option maxHeartbeats 1000000 in
theorem pfloat_ok (A : Option Addr) (n c : Nat) (l : List Nat) (w : World) (hn : l.length = n) (hc : n ≤ c) (hm : n ≤ 35184372087808) (h : RW w w.heap.size A l) (hb : btl l ≤ 1024) :
  Ct 128 #[.slice A n c] (.float .f64 (fl (val l))) w := by
 have C1 := Lib.hid (bits_any A n c l w.heap.size w hn hc (by omega) h)
 have C2 := Lib.hid (pshr_any A n c ((btl l - 64 : Nat) : Int) l w hn hc hm h)
 rw [Int.toNat_natCast] at C2
 obtain ⟨v, hv⟩ : ∃ v, val l = v := ⟨_, rfl⟩
 -- what is told of the number
 have hT : stk v (btl l - 64) < 18446744073709551616 ∧ (∀ W, Cq 155 #[.float .f64 (fl (stk v (btl l - 64))), .int .i64 (btl l - 64 : Nat)] (.float .f64 (fl v)) W) := by
  by_cases h0 : nrm l = []
  ·have e1 : btl l = 0 := by unfold btl; rw [if_pos h0]
   have e2 : v = 0 := by rw [← hv, ← val_nrm, h0]; rfl
   rw [e1, e2]
   have e3 : stk 0 (0 - 64) = 0 := by decide
   rw [e3, fl_zero]
   exact ⟨by omega, fun W => ldexp_zero _ W⟩
  ·obtain ⟨b1, b2, b3⟩ := btl_bounds h.1 h0
   rw [hv] at b1 b2
   obtain ⟨s1, s2, s3⟩ := fl_top64 b1 b2 b3
   have hf := fl_pos s2 (Nat.lt_trans s1 (by decide))
   refine ⟨s1, fun W => ?_⟩
   rw [s3]
   exact ldexp_any _ _ W hf.1 hf.2 (by omega)
 rw [hv] at C2 ⊢
 obtain ⟨m, hm2⟩ : ∃ m, btl l = m := ⟨_, rfl⟩
 rw [hm2] at C1 C2 hT hb
 obtain ⟨b, hb2⟩ : ∃ b, m - 64 = b := ⟨_, rfl⟩
 rw [hb2] at C2 hT
 obtain ⟨u, hu⟩ : ∃ u, fl v = u := ⟨_, rfl⟩
 rw [hu] at hT ⊢
 obtain ⟨hlt, hL⟩ := hT
 have C4 := Lib.hid hL
 have HST : Hid (stk v b < 18446744073709551616) := Lib.hid hlt
 have t1 : decide ((1024 : Int) < (m : Int)) = false := decide_eq_false (by omega)
 have k1 : IntKind.i64.wrap ((m : Int) - 64) = (m : Int) - 64 := IntWalk.i64_in _ (by omega)
 have k2 : max ((m : Int) - 64) 0 = (b : Int) := by omega
 clear hn hc hm h hb hv hm2 hb2 hlt hL hu
 go_enter Tryz.func128, Tryz.ntmps128
 go_wp2_with fail
 refine C1.out.mono ?_
 rintro e w' ⟨rfl, rfl⟩
 go_wp2_with fail
 refine C2.out.mono ?_
 rintro e w2 ⟨A2, n2, c2, he, hn2, hc2, r2, hb2⟩
 obtain ⟨H, hH⟩ : ∃ H, v / 2 ^ b = H := ⟨_, rfl⟩
 obtain ⟨lb, hlb⟩ : ∃ lb, decide (v % 2 ^ b ≠ 0) = lb := ⟨_, rfl⟩
 have hs : stk v b = if lb = true then H / 2 * 2 + 1 else H := by
  unfold stk
  rw [hH, ← hlb]
  by_cases h0 : v % 2 ^ b = 0
  ·simp [h0]
  ·simp [h0]
 rw [hH] at hn2 r2
 rw [hlb] at he
 subst he
 rw [hs] at C4
 have hHl : H < 18446744073709551616 := by
  have := HST.out
  rw [hs] at this
  split at this <;> omega
 have hn22 : n2 ≤ 2 := by
  have := nrm_len (two H)
  rw [two_wds' H hHl, ← hn2] at this
  exact this
 have W1 := Lib.hid (fun W (hW : Below w2.heap.size w2 W) => show Cp 166 #[.slice A2 n2 c2, .int .i64 1] W fun e w' => e = .returned (.int .u32 (H / 4294967296 : Nat)) ∧ W = w' from by
  have := word_nat A2 n2 c2 1 (wds H) w2.heap.size W hn2.symm (by omega) (r2.below hW)
  rw [get_one (wds_ws H), wds_val, Nat.mod_eq_of_lt (by omega)] at this
  exact this)
 have W0 := Lib.hid (fun W (hW : Below w2.heap.size w2 W) => show Cp 166 #[.slice A2 n2 c2, .int .i64 0] W fun e w' => e = .returned (.int .u32 (H % 4294967296 : Nat)) ∧ W = w' from by
  have := word_nat A2 n2 c2 0 (wds H) w2.heap.size W hn2.symm (by omega) (r2.below hW)
  rw [get_zero (wds_ws H), wds_val] at this
  exact this)
 have hj := join64 (H / 4294967296) (H % 4294967296) (by omega) (by omega)
 rw [show H % 4294967296 + H / 4294967296 * 4294967296 = H by omega] at hj
 have ho := or_one64 H hHl
 have hy := show H / 4294967296 < 4294967296 by omega
 have hz := show H % 4294967296 < 4294967296 by omega
 obtain ⟨y, hyy⟩ : ∃ y, H / 4294967296 = y := ⟨_, rfl⟩
 obtain ⟨z, hzz⟩ : ∃ z, H % 4294967296 = z := ⟨_, rfl⟩
 rw [hyy] at W1 hj hy
 rw [hzz] at W0 hj hz
 have y1 : IntKind.u64.wrap (y : Int) = (y : Int) := by rw [IntKind.wrap_u64]; omega
 have z1 : IntKind.u64.wrap (z : Int) = (z : Int) := by rw [IntKind.wrap_u64]; omega
 have HB := Lib.hid hb2
 have hbd := Below.refl w2.heap.size w2
 clear hyy hzz hy hz hH hlb hs hHl hn2 hn22 hc2 r2 hb2 HST C1 C2 t1 k1 k2
 cases lb
 ·rw [if_neg (by decide)] at C4
  clear ho
  go_wp2_with (first
   | (go_at_call 166; (with_reducible refine (W1.out _ ?_).mono ?_); exact hbd; rintro e w' ⟨rfl, rfl⟩)
   | (go_at_call 166; (with_reducible refine (W0.out _ ?_).mono ?_); exact hbd; rintro e w' ⟨rfl, rfl⟩)
   | fail)
  refine (C4.out _).mono ?_
  rintro e w' ⟨rfl, rfl⟩
  go_wp2
  go_ret
  exact ⟨rfl, HB.out⟩
 ·rw [if_pos rfl] at C4
  go_wp2_with (first
   | (go_at_call 166; (with_reducible refine (W1.out _ ?_).mono ?_); exact hbd; rintro e w' ⟨rfl, rfl⟩)
   | (go_at_call 166; (with_reducible refine (W0.out _ ?_).mono ?_); exact hbd; rintro e w' ⟨rfl, rfl⟩)
   | fail)
  refine (C4.out _).mono ?_
  rintro e w' ⟨rfl, rfl⟩
  go_wp2
  go_ret
  exact ⟨rfl, HB.out⟩
theorem pfloat_any (A : Option Addr) (n c : Nat) (l : List Nat) (w : World) (hn : l.length = n) (hc : n ≤ c) (hm : n ≤ 35184372087808) (h : RW w w.heap.size A l) :
  Ct 128 #[.slice A n c] (.float .f64 (fl (val l))) w := by
 by_cases hb : 1024 < btl l
 ·exact pfloat_top A n c l w hn hc hm h hb
 ·exact pfloat_ok A n c l w hn hc hm h (by omega)

end Go.Proofs.YtjmplgbhjpldbaaGreatDoor
namespace Go.Proofs.YtjmplgbhjpldbaaGreatDoor
open Go.RowKit
structure NF (r z c M k : Nat) : Prop where
 lo : 4503599627370496 ≤ M
 hi : M < 9007199254740992
 hz : z = k * 4503599627370496 + M
 hc : fmag r * 2 ^ c = M * 2 ^ k
 top : z < 9218868437227405312
 way : (c = 0 ∧ z = r) ∨ (c = 52 ∧ r < 4503599627370496 ∧ Ieee.double.mul r 4841369599423283200 = some z)
theorem nf_of {r : Nat} (h0 : 0 < r) (hr : r < 9218868437227405312) : ∃ z c M k, NF r z c M k := by
 rcases Nat.lt_or_ge r 4503599627370496 with h | h
 ·have hf := fmag_low (r := r) (by omega)
  obtain ⟨z, hz⟩ := rep_of (N := r * 2 ^ 52) (M := r) (j := 52) rfl (by omega)
  have h1 : fmag z < fmag 4845873199050653696 := by
   obtain ⟨K, hK⟩ : ∃ K : Nat, K = 1075 := ⟨_, rfl⟩
   have e1 := fmag_make 4503599627370496 K (by omega) (by omega)
   rw [show K * 4503599627370496 + 4503599627370496 = 4845873199050653696 by rw [hK]] at e1
   rw [hz, e1]
   have h2 : r * 2 ^ 52 < 4503599627370496 * 2 ^ 52 := Nat.mul_lt_mul_of_pos_right h (Nat.two_pow_pos 52)
   have h3 : 4503599627370496 * 2 ^ 52 ≤ 4503599627370496 * 2 ^ K := Nat.mul_le_mul_left _ (Nat.pow_le_pow_right (by omega) (by omega))
   exact Nat.lt_of_lt_of_le h2 h3
  have hzt := fmag_lt.1 h1
  have hzl : 4503599627370496 ≤ z := by
   rcases Nat.lt_or_ge z 4503599627370496 with h4 | h4
   ·have h5 := fmag_low (r := z) (by omega)
    have h6 : 1 * 2 ^ 52 ≤ r * 2 ^ 52 := Nat.mul_le_mul_right _ h0
    omega
   ·exact h4
  obtain ⟨M, k, a1, a2, a3, a4⟩ := fmag_split hzl
  refine ⟨z, 52, M, k, a1, a2, a3, by rw [hf, ← hz, a4], by omega, .inr ⟨rfl, h, ?_⟩⟩
  obtain ⟨K, hK⟩ : ∃ K : Nat, K = 1074 := ⟨_, rfl⟩
  refine mul_exact (K := K) hr (by omega) (by omega) hK ?_
  have e1 := fmag_make 4503599627370496 K (by omega) (by omega)
  rw [show K * 4503599627370496 + 4503599627370496 = 4841369599423283200 by rw [hK]] at e1
  rw [e1, hz, hf, show (4503599627370496 : Nat) = 2 ^ 52 from rfl, ← Nat.mul_assoc]
 ·obtain ⟨M, k, a1, a2, a3, a4⟩ := fmag_split h
  exact ⟨r, 0, M, k, a1, a2, a3, by rw [Nat.pow_zero, Nat.mul_one, a4], hr, .inl ⟨rfl, rfl⟩⟩
theorem normalize_sub (r z : Nat) (w : World) (h1 : r < 4503599627370496) (hm : Ieee.double.mul r 4841369599423283200 = some z) : Cq 200 #[.float .f64 r] (.tuple #[.float .f64 z, .int .i64 (-52)]) w := by
 have C1 := Lib.hid (fun W => abs_any r W (by omega))
 rw [(pos_rung (x := r) (by omega)).1] at C1
 have h := ford_lt (x := r) (y := 4503599627370496) (by omega) (by omega)
 rw [decide_eq_true h1] at h
 have h11 : (binOp BinOp.mul 22 (.float .f64 r) (.float .f64 4841369599423283200)).run Tryz.prog w = .ok (.float .f64 z) w := run_float_arith _ _ _ _ _ _ _ hm
 clear h1 hm
 go_enter Tryz.func200, Tryz.ntmps200
 go_wp2_with fail
 refine (C1.out _).mono ?_
 rintro e w' ⟨rfl, rfl⟩
 go_wp2
 go_ret2
 exact ⟨rfl, rfl⟩
end Go.Proofs.YtjmplgbhjpldbaaGreatDoor
namespace Go.Proofs.YtjmplgbhjpldbaaGreatDoor
open Go.RowKit
theorem fmag_up {y D : Nat} (h : 4503599627370496 ≤ y) : fmag (y + D * 4503599627370496) = fmag y * 2 ^ D := by
 obtain ⟨M, d, a1, a2, a3, a4⟩ := fmag_split h
 rw [a4, a3, show d * 4503599627370496 + M + D * 4503599627370496 = (d + D) * 4503599627370496 + M by omega, fmag_make _ _ a1 a2, Nat.pow_add, Nat.mul_assoc]
set_option maxHeartbeats 1000000 in
theorem ldexp_sub_n {z M k D u : Nat} (y : Nat) (hy0 : 0 < y) (hy : y < 4503599627370496) (hm : Ieee.double.mul y 4841369599423283200 = some z) (a1 : 4503599627370496 ≤ M) (a2 : M < 9007199254740992) (a3 : z = k * 4503599627370496 + M) (a4 : z < 9218868437227405312) (hD : D < 1048576) (hd : 52 ≤ D + k) (ht : D + k < 2098) (hu : u = (D + k - 52) * 4503599627370496 + M) (w : World) :
  Cq 181 #[.float .f64 y, .int .i64 (D : Nat)] (.float .f64 u) w := by
 obtain ⟨p1, p2, p3⟩ := pos_rung (x := y) (by omega)
 have C1 := Lib.hid (fun W => isNaN_any y W)
 have C2 := Lib.hid (fun W => isInf0_any y W (by omega))
 rw [show fnan y = false from by unfold fnan; rw [p1]; exact decide_eq_false (by omega)] at C1
 rw [show finf y = false from by unfold finf; rw [p1]; exact decide_eq_false (by omega)] at C2
 have C3 := Lib.hid (fun W => normalize_sub y z W hy hm)
 have h3 := ord_zero y
 rw [p1, decide_eq_false (by omega)] at h3
 have h5 := f64bits_run z w
 have h6 := not_exp z (by omega)
 obtain ⟨t, ht2⟩ : ∃ t, M = 4503599627370496 + t := ⟨M - 4503599627370496, by omega⟩
 rw [show z % 4503599627370496 = t by omega] at h6
 have h7 := and_2047 (k + 1) (by omega)
 obtain ⟨Q, hQ⟩ : ∃ Q, D + k = Q + 51 := ⟨D + k - 51, by omega⟩
 have h8 := or_exp t Q (by omega) (by omega)
 have e8 : t + Q * 4503599627370496 = u := by omega
 rw [e8] at h8
 have h9 := f64from_run u w
 have h10 := one_mul (y := u) (by omega) (by omega)
 have h11 : (binOp BinOp.mul 22 (.float .f64 4607182418800017408) (.float .f64 u)).run Tryz.prog w = .ok (.float .f64 u) w := run_float_arith _ _ _ _ _ _ _ h10
 have k1 : (z : Int) / 4503599627370496 = ((k + 1 : Nat) : Int) := by omega
 have k2 : IntKind.i64.wrap ((k + 1 : Nat) : Int) = ((k + 1 : Nat) : Int) := IntWalk.i64_in _ (by omega)
 have k3 : IntKind.i64.wrap (((k + 1 : Nat) : Int) - 1023) = (k : Int) - 1022 := by rw [IntWalk.i64_in _ (by omega)]; omega
 have k4 : IntKind.i64.wrap ((D : Int) + -52) = (D : Int) - 52 := by rw [IntWalk.i64_in _ (by omega)]; omega
 have k5 : IntKind.i64.wrap ((D : Int) - 52 + ((k : Int) - 1022)) = (Q : Int) - 1023 := by rw [IntWalk.i64_in _ (by omega)]; omega
 have k6 : IntKind.i64.wrap ((Q : Int) - 1023 + 1023) = (Q : Int) := by rw [IntWalk.i64_in _ (by omega)]; omega
 have k7 : IntKind.u64.wrap (Q : Int) = (Q : Int) := by rw [IntKind.wrap_u64]; omega
 have k8 : IntKind.u64.wrap ((Q : Int) * 4503599627370496) = ((Q * 4503599627370496 : Nat) : Int) := by rw [IntKind.wrap_u64]; omega
 have t1 : decide ((Q : Int) - 1023 < -1075) = false := decide_eq_false (by omega)
 have t2 : decide (1023 < (Q : Int) - 1023) = false := decide_eq_false (by omega)
 have t3 : decide ((Q : Int) - 1023 < -1022) = false := decide_eq_false (by omega)
 obtain ⟨q, hq⟩ : ∃ q, k + 1 = q := ⟨_, rfl⟩
 obtain ⟨X1, hX1⟩ : ∃ X1, (k : Int) - 1022 = X1 := ⟨_, rfl⟩
 obtain ⟨X2, hX2⟩ : ∃ X2, (D : Int) - 52 = X2 := ⟨_, rfl⟩
 obtain ⟨X3, hX3⟩ : ∃ X3, (Q : Int) - 1023 = X3 := ⟨_, rfl⟩
 rw [hq] at h7 k1 k2 k3
 rw [hX1] at k3 k5
 rw [hX2] at k4 k5
 rw [hX3] at k5 k6 t1 t2 t3
 rw [← k8] at h8
 clear hy0 hy hm a1 a2 a3 a4 hD hd ht hu p1 p2 p3 ht2 hQ e8 h10 k8 hq hX1 hX2 hX3
 go_enter Tryz.func181, Tryz.ntmps181
 go_wp2_with fail
 refine (C2.out _).mono ?_
 rintro e w' ⟨rfl, rfl⟩
 go_wp2_with fail
 refine (C1.out _).mono ?_
 rintro e w' ⟨rfl, rfl⟩
 go_wp2_with fail
 refine (C3.out _).mono ?_
 rintro e w' ⟨rfl, rfl⟩
 go_wp2
 go_ret
 exact ⟨rfl, rfl⟩
set_option maxHeartbeats 1000000 in
theorem ldexp_sub_d {z M k D u r : Nat} (y : Nat) (hy0 : 0 < y) (hy : y < 4503599627370496) (hm : Ieee.double.mul y 4841369599423283200 = some z) (a1 : 4503599627370496 ≤ M) (a2 : M < 9007199254740992) (a3 : z = k * 4503599627370496 + M) (a4 : z < 9218868437227405312) (hd : D + k < 52) (hu : u = (D + k + 1) * 4503599627370496 + M) (hr : Ieee.double.mul 4368491638549381120 u = some r) (w : World) :
  Cq 181 #[.float .f64 y, .int .i64 (D : Nat)] (.float .f64 r) w := by
 obtain ⟨p1, p2, p3⟩ := pos_rung (x := y) (by omega)
 have C1 := Lib.hid (fun W => isNaN_any y W)
 have C2 := Lib.hid (fun W => isInf0_any y W (by omega))
 rw [show fnan y = false from by unfold fnan; rw [p1]; exact decide_eq_false (by omega)] at C1
 rw [show finf y = false from by unfold finf; rw [p1]; exact decide_eq_false (by omega)] at C2
 have C3 := Lib.hid (fun W => normalize_sub y z W hy hm)
 have h3 := ord_zero y
 rw [p1, decide_eq_false (by omega)] at h3
 have h5 := f64bits_run z w
 have h6 := not_exp z (by omega)
 obtain ⟨t, ht2⟩ : ∃ t, M = 4503599627370496 + t := ⟨M - 4503599627370496, by omega⟩
 rw [show z % 4503599627370496 = t by omega] at h6
 have h7 := and_2047 (k + 1) (by omega)
 obtain ⟨Q, hQ⟩ : ∃ Q, D + k + 2 = Q := ⟨_, rfl⟩
 have h8 := or_exp t Q (by omega) (by omega)
 have e8 : t + Q * 4503599627370496 = u := by omega
 rw [e8] at h8
 have h9 := f64from_run u w
 have h11 : (binOp BinOp.mul 22 (.float .f64 4368491638549381120) (.float .f64 u)).run Tryz.prog w = .ok (.float .f64 r) w := run_float_arith _ _ _ _ _ _ _ hr
 have k1 : (z : Int) / 4503599627370496 = ((k + 1 : Nat) : Int) := by omega
 have k2 : IntKind.i64.wrap ((k + 1 : Nat) : Int) = ((k + 1 : Nat) : Int) := IntWalk.i64_in _ (by omega)
 have k3 : IntKind.i64.wrap (((k + 1 : Nat) : Int) - 1023) = (k : Int) - 1022 := by rw [IntWalk.i64_in _ (by omega)]; omega
 have k4 : IntKind.i64.wrap ((D : Int) + -52) = (D : Int) - 52 := by rw [IntWalk.i64_in _ (by omega)]; omega
 have k5 : IntKind.i64.wrap ((D : Int) - 52 + ((k : Int) - 1022)) = (Q : Int) - 1076 := by rw [IntWalk.i64_in _ (by omega)]; omega
 have k9 : IntKind.i64.wrap ((Q : Int) - 1076 + 53) = (Q : Int) - 1023 := by rw [IntWalk.i64_in _ (by omega)]; omega
 have k6 : IntKind.i64.wrap ((Q : Int) - 1023 + 1023) = (Q : Int) := by rw [IntWalk.i64_in _ (by omega)]; omega
 have k7 : IntKind.u64.wrap (Q : Int) = (Q : Int) := by rw [IntKind.wrap_u64]; omega
 have k8 : IntKind.u64.wrap ((Q : Int) * 4503599627370496) = ((Q * 4503599627370496 : Nat) : Int) := by rw [IntKind.wrap_u64]; omega
 have t1 : decide ((Q : Int) - 1076 < -1075) = false := decide_eq_false (by omega)
 have t2 : decide (1023 < (Q : Int) - 1076) = false := decide_eq_false (by omega)
 have t3 : decide ((Q : Int) - 1076 < -1022) = true := decide_eq_true (by omega)
 obtain ⟨q, hq⟩ : ∃ q, k + 1 = q := ⟨_, rfl⟩
 obtain ⟨X1, hX1⟩ : ∃ X1, (k : Int) - 1022 = X1 := ⟨_, rfl⟩
 obtain ⟨X2, hX2⟩ : ∃ X2, (D : Int) - 52 = X2 := ⟨_, rfl⟩
 obtain ⟨X3, hX3⟩ : ∃ X3, (Q : Int) - 1076 = X3 := ⟨_, rfl⟩
 obtain ⟨X4, hX4⟩ : ∃ X4, (Q : Int) - 1023 = X4 := ⟨_, rfl⟩
 rw [hq] at h7 k1 k2 k3
 rw [hX1] at k3 k5
 rw [hX2] at k4 k5
 rw [hX3] at k5 k9 t1 t2 t3
 rw [hX4] at k9 k6
 rw [← k8] at h8
 clear hy0 hy hm a1 a2 a3 a4 hd hu hr p1 p2 p3 ht2 hQ e8 k8 hq hX1 hX2 hX3 hX4
 go_enter Tryz.func181, Tryz.ntmps181
 go_wp2_with fail
 refine (C2.out _).mono ?_
 rintro e w' ⟨rfl, rfl⟩
 go_wp2_with fail
 refine (C1.out _).mono ?_
 rintro e w' ⟨rfl, rfl⟩
 go_wp2_with fail
 refine (C3.out _).mono ?_
 rintro e w' ⟨rfl, rfl⟩
 go_wp2
 go_ret
 exact ⟨rfl, rfl⟩
theorem fmag_inf {r : Nat} (h : r < 9218868437227405312) (K : Nat) (hK : K = 2098) : fmag r < 2 ^ K := by
 obtain ⟨J, hJ⟩ : ∃ J : Nat, J = 2046 := ⟨_, rfl⟩
 have e1 := fmag_make 4503599627370496 J (by omega) (by omega)
 rw [show J * 4503599627370496 + 4503599627370496 = 9218868437227405312 by rw [hJ]] at e1
 have := fmag_step h
 rw [e1, show (4503599627370496 : Nat) = 2 ^ 52 from rfl, ← Nat.pow_add, show 52 + J = K by omega] at this
 exact this
theorem ldexp_rep {y D u : Nat} (h0 : 0 < y) (hy : y < 9218868437227405312) (hu : u < 9218868437227405312) (h : fmag u = fmag y * 2 ^ D) (w : World) :
  Cq 181 #[.float .f64 y, .int .i64 (D : Nat)] (.float .f64 u) w := by
 obtain ⟨K, hK⟩ : ∃ K : Nat, K = 2098 := ⟨_, rfl⟩
 have hDK : D < K := by
  have h1 := fmag_inf hu K hK
  have h2 := fmag_pos.2 h0
  have h3 : 1 * 2 ^ D ≤ fmag y * 2 ^ D := Nat.mul_le_mul_right _ h2
  exact (Nat.pow_lt_pow_iff_right (a := 2) (by omega)).1 (by omega)
 by_cases hn : 4503599627370496 ≤ y
 ·have h1 := fmag_up (D := D) hn
  rw [← h] at h1
  have h2 := fmag_inj h1
  have h3 := ldexpl_any y D w hn hy (by omega)
  have h4 : scl y D = u := by unfold scl; rw [if_pos (by omega)]; exact h2
  rw [h4] at h3
  exact h3
 ·obtain ⟨z, c, M, k, hnf⟩ := nf_of h0 hy
  rcases hnf.way with ⟨_, h1⟩ | ⟨rfl, _, h1⟩
  ·have := hnf.hz; have := hnf.lo; omega
  ·have a1 := hnf.lo
   have a2 := hnf.hi
   have a3 := hnf.hz
   have a4 := hnf.top
   have a5 := hnf.hc
   have hU : fmag u * 2 ^ 52 = M * 2 ^ (D + k) := by
    rw [h, Nat.mul_assoc, Nat.mul_comm (2 ^ D), ← Nat.mul_assoc, a5, Nat.mul_assoc, ← Nat.pow_add, Nat.add_comm k D]
   by_cases hd : 52 ≤ D + k
   ·obtain ⟨d, hd2⟩ : ∃ d, D + k = d + 52 := ⟨D + k - 52, by omega⟩
    rw [hd2] at hU
    have h2 : M * 2 ^ d = fmag u := pow_cancel (x := M) (y := fmag u) hU.symm
    rw [← fmag_make M d a1 a2] at h2
    have h3 := fmag_inj h2
    exact ldexp_sub_n y h0 (by omega) h1 a1 a2 a3 a4 (by omega) hd (by omega) (by rw [show D + k - 52 = d by omega]; exact h3.symm) w
   ·refine ldexp_sub_d (u := (D + k + 1) * 4503599627370496 + M) y h0 (by omega) h1 a1 a2 a3 a4 (by omega) rfl ?_ w
    obtain ⟨J, hJ⟩ : ∃ J : Nat, J = 969 := ⟨_, rfl⟩
    obtain ⟨L, hL⟩ : ∃ L : Nat, L = 1074 := ⟨_, rfl⟩
    have e1 := fmag_make 4503599627370496 J (by omega) (by omega)
    rw [show J * 4503599627370496 + 4503599627370496 = 4368491638549381120 by rw [hJ]] at e1
    refine mul_exact (K := L) (by omega) (by omega) hu hL ?_
    have h2 : fmag u * 2 ^ L = fmag u * 2 ^ 52 * 2 ^ (J + 53) := by rw [Nat.mul_assoc, ← Nat.pow_add, show 52 + (J + 53) = L by omega]
    rw [e1, fmag_make _ _ a1 a2, h2, hU, show (4503599627370496 : Nat) = 2 ^ 52 from rfl, ← Nat.pow_add, Nat.mul_left_comm, ← Nat.pow_add, Nat.mul_assoc, ← Nat.pow_add, show 52 + J + (D + k + 1) = D + k + (J + 53) by omega]
theorem Ldexp_rep {y D u : Nat} (h0 : 0 < y) (hy : y < 9218868437227405312) (hu : u < 9218868437227405312) (h : fmag u = fmag y * 2 ^ D) (w : World) :
  Cq 155 #[.float .f64 y, .int .i64 (D : Nat)] (.float .f64 u) w := by
 have C := Lib.hid (ldexp_rep h0 hy hu h w)
 clear h0 hy hu h
 go_enter Tryz.func155, Tryz.ntmps155
 go_wp2_with fail
 refine C.out.mono ?_
 rintro e w' ⟨rfl, rfl⟩
 go_wp2
 go_ret
 exact ⟨rfl, rfl⟩

end Go.Proofs.YtjmplgbhjpldbaaGreatDoor
namespace Go.Proofs.YtjmplgbhjpldbaaGreatDoor
open Go.RowKit
end Go.Proofs.YtjmplgbhjpldbaaGreatDoor
namespace Go.Proofs.YtjmplgbhjpldbaaGreatDoor
open Go.RowKit
end Go.Proofs.YtjmplgbhjpldbaaGreatDoor
namespace Go.Proofs.YtjmplgbhjpldbaaGreatDoor
open Go.RowKit
set_option maxHeartbeats 1000000 in
theorem ldexp_down_n {M k D : Nat} (x u : Nat) (a1 : 4503599627370496 ≤ M) (a2 : M < 9007199254740992) (hx : x = k * 4503599627370496 + M) (h2 : x < 9218868437227405312) (hD : D ≤ k) (hu : u = (k - D) * 4503599627370496 + M) (w : World) :
  Cq 181 #[.float .f64 x, .int .i64 (-(D : Int))] (.float .f64 u) w := by
 have h1 : 4503599627370496 ≤ x := by omega
 obtain ⟨p1, p2, p3⟩ := pos_rung (x := x) (by omega)
 have C1 := Lib.hid (fun W => isNaN_any x W)
 have C2 := Lib.hid (fun W => isInf0_any x W (by omega))
 rw [show fnan x = false from by unfold fnan; rw [p1]; exact decide_eq_false (by omega)] at C1
 rw [show finf x = false from by unfold finf; rw [p1]; exact decide_eq_false (by omega)] at C2
 have C3 := Lib.hid (fun W => normalize_any x W h1 h2)
 have h3 := ord_zero x
 rw [p1, decide_eq_false (by omega)] at h3
 have h5 := f64bits_run x w
 have h6 := not_exp x (by omega)
 obtain ⟨t, ht2⟩ : ∃ t, M = 4503599627370496 + t := ⟨M - 4503599627370496, by omega⟩
 rw [show x % 4503599627370496 = t by omega] at h6
 have h7 := and_2047 (k + 1) (by omega)
 obtain ⟨Q, hQ⟩ : ∃ Q, k + 1 - D = Q := ⟨_, rfl⟩
 have h8 := or_exp t Q (by omega) (by omega)
 have e8 : t + Q * 4503599627370496 = u := by
  rw [hu, ht2, ← hQ, show k + 1 - D = (k - D) + 1 by omega]; omega
 rw [e8] at h8
 have h9 := f64from_run u w
 have h10 := one_mul (y := u) (by omega) (by omega)
 have h11 : (binOp BinOp.mul 22 (.float .f64 4607182418800017408) (.float .f64 u)).run Tryz.prog w = .ok (.float .f64 u) w := run_float_arith _ _ _ _ _ _ _ h10
 have k1 : (x : Int) / 4503599627370496 = ((k + 1 : Nat) : Int) := by omega
 have k2 : IntKind.i64.wrap ((k + 1 : Nat) : Int) = ((k + 1 : Nat) : Int) := IntWalk.i64_in _ (by omega)
 have k3 : IntKind.i64.wrap (((k + 1 : Nat) : Int) - 1023) = (k : Int) - 1022 := by rw [IntWalk.i64_in _ (by omega)]; omega
 obtain ⟨X0, hX0⟩ : ∃ X0, -(D : Int) = X0 := ⟨_, rfl⟩
 have k4 : IntKind.i64.wrap X0 = X0 := IntWalk.i64_in _ (by omega)
 have k4' : IntKind.i64.wrap (X0 + 0) = X0 := by rw [Int.add_zero]; exact k4
 have k5 : IntKind.i64.wrap (X0 + ((k : Int) - 1022)) = (Q : Int) - 1023 := by rw [IntWalk.i64_in _ (by omega)]; omega
 have k6 : IntKind.i64.wrap ((Q : Int) - 1023 + 1023) = (Q : Int) := by rw [IntWalk.i64_in _ (by omega)]; omega
 have k7 : IntKind.u64.wrap (Q : Int) = (Q : Int) := by rw [IntKind.wrap_u64]; omega
 have k8 : IntKind.u64.wrap ((Q : Int) * 4503599627370496) = ((Q * 4503599627370496 : Nat) : Int) := by rw [IntKind.wrap_u64]; omega
 have t1 : decide ((Q : Int) - 1023 < -1075) = false := decide_eq_false (by omega)
 have t2 : decide (1023 < (Q : Int) - 1023) = false := decide_eq_false (by omega)
 have t3 : decide ((Q : Int) - 1023 < -1022) = false := decide_eq_false (by omega)
 obtain ⟨q, hq⟩ : ∃ q, k + 1 = q := ⟨_, rfl⟩
 obtain ⟨X1, hX1⟩ : ∃ X1, (k : Int) - 1022 = X1 := ⟨_, rfl⟩
 obtain ⟨X3, hX3⟩ : ∃ X3, (Q : Int) - 1023 = X3 := ⟨_, rfl⟩
 rw [hq] at h7 k1 k2 k3
 rw [hX1] at k3 k5
 rw [hX3] at k5 k6 t1 t2 t3
 rw [hX0]
 rw [← k8] at h8
 clear h1 h2 hx a1 a2 hD hu p1 p2 p3 ht2 hQ e8 h10 k8 hq hX1 hX0 hX3
 go_enter Tryz.func181, Tryz.ntmps181
 go_wp2_with fail
 refine (C2.out _).mono ?_
 rintro e w' ⟨rfl, rfl⟩
 go_wp2_with fail
 refine (C1.out _).mono ?_
 rintro e w' ⟨rfl, rfl⟩
 go_wp2_with fail
 refine (C3.out _).mono ?_
 rintro e w' ⟨rfl, rfl⟩
 go_wp2
 go_ret
 exact ⟨rfl, rfl⟩
set_option maxHeartbeats 1000000 in
theorem ldexp_down_d {M k D : Nat} (x v r : Nat) (a1 : 4503599627370496 ≤ M) (a2 : M < 9007199254740992) (hx : x = k * 4503599627370496 + M) (h2 : x < 9218868437227405312) (hD : k < D) (hD2 : D ≤ k + 52) (hv : v = (k + 53 - D) * 4503599627370496 + M) (hr : Ieee.double.mul 4368491638549381120 v = some r) (w : World) :
  Cq 181 #[.float .f64 x, .int .i64 (-(D : Int))] (.float .f64 r) w := by
 have h1 : 4503599627370496 ≤ x := by omega
 obtain ⟨p1, p2, p3⟩ := pos_rung (x := x) (by omega)
 have C1 := Lib.hid (fun W => isNaN_any x W)
 have C2 := Lib.hid (fun W => isInf0_any x W (by omega))
 rw [show fnan x = false from by unfold fnan; rw [p1]; exact decide_eq_false (by omega)] at C1
 rw [show finf x = false from by unfold finf; rw [p1]; exact decide_eq_false (by omega)] at C2
 have C3 := Lib.hid (fun W => normalize_any x W h1 h2)
 have h3 := ord_zero x
 rw [p1, decide_eq_false (by omega)] at h3
 have h5 := f64bits_run x w
 have h6 := not_exp x (by omega)
 obtain ⟨t, ht2⟩ : ∃ t, M = 4503599627370496 + t := ⟨M - 4503599627370496, by omega⟩
 rw [show x % 4503599627370496 = t by omega] at h6
 have h7 := and_2047 (k + 1) (by omega)
 obtain ⟨Q, hQ⟩ : ∃ Q, k + 54 - D = Q := ⟨_, rfl⟩
 have h8 := or_exp t Q (by omega) (by omega)
 have e8 : t + Q * 4503599627370496 = v := by
  rw [hv, ht2, ← hQ, show k + 54 - D = (k + 53 - D) + 1 by omega]; omega
 rw [e8] at h8
 have h9 := f64from_run v w
 have h11 : (binOp BinOp.mul 22 (.float .f64 4368491638549381120) (.float .f64 v)).run Tryz.prog w = .ok (.float .f64 r) w := run_float_arith _ _ _ _ _ _ _ hr
 have k1 : (x : Int) / 4503599627370496 = ((k + 1 : Nat) : Int) := by omega
 have k2 : IntKind.i64.wrap ((k + 1 : Nat) : Int) = ((k + 1 : Nat) : Int) := IntWalk.i64_in _ (by omega)
 have k3 : IntKind.i64.wrap (((k + 1 : Nat) : Int) - 1023) = (k : Int) - 1022 := by rw [IntWalk.i64_in _ (by omega)]; omega
 obtain ⟨X0, hX0⟩ : ∃ X0, -(D : Int) = X0 := ⟨_, rfl⟩
 have k4 : IntKind.i64.wrap X0 = X0 := IntWalk.i64_in _ (by omega)
 have k4' : IntKind.i64.wrap (X0 + 0) = X0 := by rw [Int.add_zero]; exact k4
 have k5 : IntKind.i64.wrap (X0 + ((k : Int) - 1022)) = (Q : Int) - 1076 := by rw [IntWalk.i64_in _ (by omega)]; omega
 have k9 : IntKind.i64.wrap ((Q : Int) - 1076 + 53) = (Q : Int) - 1023 := by rw [IntWalk.i64_in _ (by omega)]; omega
 have k6 : IntKind.i64.wrap ((Q : Int) - 1023 + 1023) = (Q : Int) := by rw [IntWalk.i64_in _ (by omega)]; omega
 have k7 : IntKind.u64.wrap (Q : Int) = (Q : Int) := by rw [IntKind.wrap_u64]; omega
 have k8 : IntKind.u64.wrap ((Q : Int) * 4503599627370496) = ((Q * 4503599627370496 : Nat) : Int) := by rw [IntKind.wrap_u64]; omega
 have t1 : decide ((Q : Int) - 1076 < -1075) = false := decide_eq_false (by omega)
 have t2 : decide (1023 < (Q : Int) - 1076) = false := decide_eq_false (by omega)
 have t3 : decide ((Q : Int) - 1076 < -1022) = true := decide_eq_true (by omega)
 obtain ⟨q, hq⟩ : ∃ q, k + 1 = q := ⟨_, rfl⟩
 obtain ⟨X1, hX1⟩ : ∃ X1, (k : Int) - 1022 = X1 := ⟨_, rfl⟩
 obtain ⟨X3, hX3⟩ : ∃ X3, (Q : Int) - 1076 = X3 := ⟨_, rfl⟩
 obtain ⟨X4, hX4⟩ : ∃ X4, (Q : Int) - 1023 = X4 := ⟨_, rfl⟩
 rw [hq] at h7 k1 k2 k3
 rw [hX1] at k3 k5
 rw [hX3] at k5 k9 t1 t2 t3
 rw [hX4] at k9 k6
 rw [hX0]
 rw [← k8] at h8
 clear h1 h2 hx a1 a2 hD hD2 hv hr p1 p2 p3 ht2 hQ e8 k8 hq hX1 hX0 hX3 hX4
 go_enter Tryz.func181, Tryz.ntmps181
 go_wp2_with fail
 refine (C2.out _).mono ?_
 rintro e w' ⟨rfl, rfl⟩
 go_wp2_with fail
 refine (C1.out _).mono ?_
 rintro e w' ⟨rfl, rfl⟩
 go_wp2_with fail
 refine (C3.out _).mono ?_
 rintro e w' ⟨rfl, rfl⟩
 go_wp2
 go_ret
 exact ⟨rfl, rfl⟩
theorem ldexp_down {y D u : Nat} (h0 : 4503599627370496 ≤ y) (hy : y < 9218868437227405312) (hu0 : 0 < u) (h : fmag u * 2 ^ D = fmag y) (w : World) :
  Cq 181 #[.float .f64 y, .int .i64 (-(D : Int))] (.float .f64 u) w := by
 obtain ⟨M, k, a1, a2, a3, a4⟩ := fmag_split h0
 have hu1 := fmag_pos.2 hu0
 have huy : u ≤ y := by
  rcases Nat.lt_or_ge y u with h1 | h1
  ·have h2 := fmag_step h1
   have h3 : fmag u * 1 ≤ fmag u * 2 ^ D := Nat.mul_le_mul_left _ (Nat.two_pow_pos D)
   omega
  ·exact h1
 by_cases hDk : D ≤ k
 ·refine ldexp_down_n y u a1 a2 a3 hy hDk ?_ w
  refine fmag_inj ?_
  rw [fmag_make _ _ a1 a2]
  refine (pow_cancel (x := M) (a := k - D) (b := D) (y := fmag u) ?_).symm
  rw [show k - D + D = k by omega, ← a4, h]
 ·obtain ⟨j, rfl⟩ : ∃ j, D = k + j := ⟨D - k, by omega⟩
  have hM : fmag u * 2 ^ j = M := by
   refine pow_cancel (x := fmag u) (a := j) (b := k) (y := M) ?_
   rw [Nat.add_comm j k, h, a4]
  have hj : j < 53 := by
   have h3 : 1 * 2 ^ j ≤ fmag u * 2 ^ j := Nat.mul_le_mul_right _ hu1
   have h6 : 2 ^ j < 2 ^ 53 := by have : (2 : Nat) ^ 53 = 9007199254740992 := rfl; omega
   exact (Nat.pow_lt_pow_iff_right (a := 2) (by omega)).1 h6
  refine ldexp_down_d y ((k + 53 - (k + j)) * 4503599627370496 + M) u a1 a2 a3 hy (by omega) (by omega) rfl ?_ w
  obtain ⟨J, hJ⟩ : ∃ J : Nat, J = 969 := ⟨_, rfl⟩
  obtain ⟨L, hL⟩ : ∃ L : Nat, L = 1074 := ⟨_, rfl⟩
  have e1 := fmag_make 4503599627370496 J (by omega) (by omega)
  rw [show J * 4503599627370496 + 4503599627370496 = 4368491638549381120 by rw [hJ]] at e1
  refine mul_exact (K := L) (by omega) (by omega) (by omega) hL ?_
  rw [e1, fmag_make _ _ a1 a2, ← hM, show (4503599627370496 : Nat) = 2 ^ 52 from rfl, ← Nat.pow_add, Nat.mul_comm, Nat.mul_assoc, Nat.mul_assoc, ← Nat.pow_add, ← Nat.pow_add, show j + (k + 53 - (k + j) + (52 + J)) = L by omega]
theorem Ldexp_down {y D u : Nat} (h0 : 4503599627370496 ≤ y) (hy : y < 9218868437227405312) (hu0 : 0 < u) (h : fmag u * 2 ^ D = fmag y) (w : World) :
  Cq 155 #[.float .f64 y, .int .i64 (-(D : Int))] (.float .f64 u) w := by
 have C := Lib.hid (ldexp_down h0 hy hu0 h w)
 obtain ⟨X, hX⟩ : ∃ X, -(D : Int) = X := ⟨_, rfl⟩
 rw [hX] at C ⊢
 clear h0 hy hu0 h hX
 go_enter Tryz.func155, Tryz.ntmps155
 go_wp2_with fail
 refine C.out.mono ?_
 rintro e w' ⟨rfl, rfl⟩
 go_wp2
 go_ret
 exact ⟨rfl, rfl⟩
end Go.Proofs.YtjmplgbhjpldbaaGreatDoor
namespace Go.Proofs.YtjmplgbhjpldbaaGreatDoor
open Go.RowKit
end Go.Proofs.YtjmplgbhjpldbaaGreatDoor
namespace Go.Proofs.YtjmplgbhjpldbaaGreatDoor
open Go.RowKit
end Go.Proofs.YtjmplgbhjpldbaaGreatDoor
namespace Go.Proofs.YtjmplgbhjpldbaaGreatDoor
open Go.RowKit
end Go.Proofs.YtjmplgbhjpldbaaGreatDoor
namespace Go.Proofs.YtjmplgbhjpldbaaGreatDoor
open Go.RowKit
theorem fl_upto {N K : Nat} (h : N ≤ 9007199254740992) (hK : K = 1074) : fl N < 9218868437227405312 ∧ fmag (fl N) = N * 2 ^ K := by
 rcases Nat.eq_or_lt_of_le h with h1 | h1
 ·rw [h1, show fl 9007199254740992 = 4845873199050653696 by decide +kernel]
  refine ⟨by omega, ?_⟩
  obtain ⟨d, hd⟩ : ∃ d : Nat, d = 1075 := ⟨_, rfl⟩
  have := fmag_make 4503599627370496 d (by omega) (by omega)
  rw [show d * 4503599627370496 + 4503599627370496 = 4845873199050653696 by omega] at this
  rw [this, show d = K + 1 by omega, Nat.pow_succ, Nat.mul_comm (2 ^ K) 2, ← Nat.mul_assoc]
 ·obtain ⟨a, b⟩ := fmag_fl h1 hK
  exact ⟨b, a⟩
theorem rung_make {D E : Nat} (hE : E ≤ 9007199254740992) (hD : D = 0 ∨ 4503599627370496 ≤ E) : fmag (D * 4503599627370496 + E) = E * 2 ^ D := by
 rcases Nat.eq_or_lt_of_le hE with h | h
 ·rw [h, show D * 4503599627370496 + 9007199254740992 = (D + 1) * 4503599627370496 + 4503599627370496 by omega, fmag_make _ _ (by omega) (by omega), Nat.pow_succ, Nat.mul_comm (2 ^ D) 2, ← Nat.mul_assoc]
 ·rcases hD with h0 | h0
  ·rw [h0, Nat.zero_mul, Nat.zero_add, Nat.pow_zero, Nat.mul_one]; exact fmag_low h
  ·exact fmag_make _ _ h0 h
theorem Ld_make {E D : Nat} {e' : Int} (hE : E ≤ 9007199254740992) (hD : D = 0 ∨ 4503599627370496 ≤ E) (hD2 : D ≤ 2045) (he : e' = (D : Int) - 1074) (w : World) : Cq 155 #[.float .f64 (fl E), .int .i64 e'] (.float .f64 (min (D * 4503599627370496 + E) 9218868437227405312)) w := by
 obtain ⟨K, hK⟩ : ∃ K : Nat, K = 1074 := ⟨_, rfl⟩
 obtain ⟨y1, y2⟩ := fl_upto hE hK
 have hmk := rung_make hE hD
 rcases Nat.eq_zero_or_pos E with h0 | h0
 ·subst h0
  have : D = 0 := by omega
  subst this
  rw [fl_zero]
  exact ldexp_zero e' w
 ·have hy0 : 0 < fl E := fmag_pos.1 (by rw [y2]; exact Nat.mul_pos h0 (Nat.two_pow_pos K))
  have hyn : 4503599627370496 ≤ fl E := by
   rcases Nat.lt_or_ge (fl E) 4503599627370496 with h | h
   ·have h1 := fmag_low (r := fl E) (by omega)
    rw [y2] at h1
    have h2 : 1 * 2 ^ K ≤ E * 2 ^ K := Nat.mul_le_mul_right _ h0
    have h3 : 2 ^ 60 ≤ 2 ^ K := Nat.pow_le_pow_right (by omega) (by omega)
    have h4 : (2 : Nat) ^ 60 = 1152921504606846976 := by decide
    omega
   ·exact h
  rcases Nat.lt_or_ge (D * 4503599627370496 + E) 9218868437227405312 with h | h
  ·rw [Nat.min_eq_left (by omega)]
   rcases Nat.lt_or_ge D K with h1 | h1
   ·obtain ⟨j, hj⟩ : ∃ j, K = D + j := ⟨K - D, by omega⟩
    have := Ldexp_down (y := fl E) (D := j) (u := D * 4503599627370496 + E) hyn y1 (by omega) (by rw [hmk, y2, hj, Nat.pow_add, Nat.mul_assoc]) w
    rw [show e' = -(j : Int) by omega]
    exact this
   ·obtain ⟨j, hj⟩ : ∃ j, D = K + j := ⟨D - K, by omega⟩
    have := Ldexp_rep (y := fl E) (D := j) (u := D * 4503599627370496 + E) hy0 y1 h (by rw [hmk, y2, hj, Nat.pow_add, Nat.mul_assoc]) w
    rw [show e' = (j : Int) by omega]
    exact this
  ·rw [Nat.min_eq_right h]
   have hD3 : D = 2045 := by omega
   have hE3 : E = 9007199254740992 := by omega
   have := ldexp_any (fl E) 971 w hyn y1 (by omega)
   rw [show scl (fl E) 971 = 9218868437227405312 from by rw [hE3, show fl 9007199254740992 = 4845873199050653696 by decide +kernel]; decide] at this
   rw [show e' = ((971 : Nat) : Int) by omega]
   exact this
end Go.Proofs.YtjmplgbhjpldbaaGreatDoor
namespace Go.Proofs.YtjmplgbhjpldbaaGreatDoor
open Go.RowKit
structure NV (w : World) (A : Option Addr) (n c v : Nat) : Prop where
 len : (wds v).length = n
 cap : n ≤ c
 row : RW w w.heap.size A (wds v)
theorem NV.step {w w' : World} {A : Option Addr} {n c v : Nat} (h : NV w A n c v) (hb : Below w.heap.size w w') : NV w' A n c v := ⟨h.len, h.cap, h.row.step hb⟩
def bln (v : Nat) : Nat := btl (wds v)
theorem wds_nil {v : Nat} (h : 0 < v) : nrm (wds v) ≠ [] := by
 intro e
 have := nrm_eq_nil e
 rw [wds_val] at this
 omega
theorem bln_bounds {v : Nat} (h : 0 < v) : 2 ^ (bln v - 1) ≤ v ∧ v < 2 ^ bln v ∧ 0 < bln v := by
 have := btl_bounds (wds_ws v) (wds_nil h)
 rw [wds_val] at this
 exact this
theorem bln_zero : bln 0 = 0 := by decide
theorem bln_le {v L : Nat} (h : v < 2 ^ L) : bln v ≤ L := by
 rcases Nat.eq_zero_or_pos v with h0 | h0
 ·rw [h0, bln_zero]; omega
 ·have h1 := (bln_bounds h0).1
  have h2 := (Nat.pow_lt_pow_iff_right (a := 2) (by omega)).1 (Nat.lt_of_le_of_lt h1 h)
  omega
theorem len_bits {v L : Nat} (h : v < 2 ^ (32 * L)) : (wds v).length ≤ L := by
 refine wds_len_lt ?_
 rw [show (4294967296 : Nat) = 2 ^ 32 from rfl, ← Nat.pow_mul]
 exact h
theorem small_len {v : Nat} (h : bln v ≤ 30000) : (wds v).length ≤ 940 := by
 obtain ⟨L, hL⟩ : ∃ L : Nat, L = 940 := ⟨_, rfl⟩
 rw [← hL]
 rcases Nat.eq_zero_or_pos v with h0 | h0
 ·rw [h0]; show 0 ≤ L; omega
 ·exact len_bits (Nat.lt_of_lt_of_le (bln_bounds h0).2.1 (Nat.pow_le_pow_right (by omega) (by omega)))
theorem lng_bln {v : Nat} (h : bln v ≤ 30000) : lngB v = false := by
 unfold lngB
 have := small_len h
 exact decide_eq_false (by omega)
theorem bln_mul (a b : Nat) : bln (a * b) ≤ bln a + bln b := by
 rcases Nat.eq_zero_or_pos a with h0 | h0
 ·rw [h0, Nat.zero_mul, bln_zero]; omega
 rcases Nat.eq_zero_or_pos b with h1 | h1
 ·rw [h1, Nat.mul_zero, bln_zero]; omega
 ·refine bln_le ?_
  rw [Nat.pow_add]
  exact Nat.mul_lt_mul'' (bln_bounds h0).2.1 (bln_bounds h1).2.1
theorem bln_mono {a b : Nat} (h : a ≤ b) : bln a ≤ bln b := by
 rcases Nat.eq_zero_or_pos b with h0 | h0
 ·have : a = 0 := by omega
  rw [this, h0]; omega
 ·exact bln_le (Nat.lt_of_le_of_lt h (bln_bounds h0).2.1)
theorem bln_pow2 (k : Nat) : bln (2 ^ k) ≤ k + 1 := bln_le (by rw [Nat.pow_succ]; have := Nat.two_pow_pos k; omega)
theorem bln_pow (b k : Nat) : bln (b ^ k) ≤ bln b * k + 1 := by
 rcases Nat.eq_zero_or_pos b with h0 | h0
 ·cases k with
  | zero => rw [Nat.pow_zero, show bln 1 = 1 by decide]; omega
  | succ k => rw [h0, Nat.zero_pow (by omega), bln_zero]; omega
 ·refine bln_le ?_
  have h1 := (bln_bounds h0).2.1
  have h2 : b ^ k ≤ (2 ^ bln b) ^ k := Nat.pow_le_pow_left (Nat.le_of_lt h1) k
  rw [← Nat.pow_mul] at h2
  rw [Nat.pow_succ]
  have := Nat.two_pow_pos (bln b * k)
  omega
theorem bln_five (k : Nat) : bln (5 ^ k) ≤ 3 * k + 1 := by have := bln_pow 5 k; rw [show bln 5 = 3 by decide] at this; exact this
theorem bln_ten (k : Nat) : bln (10 ^ k) ≤ 4 * k + 1 := by have := bln_pow 10 k; rw [show bln 10 = 4 by decide] at this; exact this
/-! ### The program's functions -/
def NOk (v : Nat) (w : World) (e : Ending) (w' : World) : Prop := ∃ A n c, e = .returned (.tuple #[.slice A n c, .int .i64 0]) ∧ NV w' A n c v ∧ Below w.heap.size w w'
theorem NOk.of {v : Nat} {w w' : World} {e : Ending} (hl : lngB v = false) (h : NatPost v w e w') : NOk v w e w' := by
 obtain ⟨A, n, c, k, he, hp, hb⟩ := h
 rw [if_neg (by rw [hl]; simp)] at hp
 obtain ⟨h1, h2, h3, h4⟩ := hp
 subst h3
 exact ⟨A, n, c, he, ⟨h1.symm, h2, h4⟩, hb⟩
theorem nmul {w : World} {A C : Option Addr} {n c m d a b : Nat} (hA : NV w A n c a) (hB : NV w C m d b) (ha : bln a ≤ 15000) (hb : bln b ≤ 15000) :
  Cp 175 #[.slice A n c, .slice C m d] w (NOk (a * b) w) := by
 have la := lng_bln (v := a) (by omega)
 have lb := lng_bln (v := b) (by omega)
 have lab := lng_bln (v := a * b) (Nat.le_trans (bln_mul a b) (by omega))
 have h1 := small_len (v := a) (by omega)
 have h2 := small_len (v := b) (by omega)
 rw [hA.len] at h1
 rw [hB.len] at h2
 have := mul_any A C n c m d (wds a) (wds b) w hA.len hA.cap (by omega) hA.row hB.len hB.cap (by omega) hB.row
 rw [wds_val, wds_val] at this
 refine this.mono fun e w' x => ?_
 unfold MulPost at x
 rw [if_neg (by rw [la, lb]; simp)] at x
 exact NOk.of lab x
theorem npow (b n : Nat) (w : World) (hb : b < 4294967296) (hl : bln (b ^ n) ≤ 30000) (hn : n < 100000) : Cp 174 #[.int .u32 b, .int .i64 n] w (NOk (b ^ n) w) :=
 (pow_any b n w hb (by omega)).mono fun e w' x => NOk.of (lng_bln hl) x
theorem nshl {w : World} {A : Option Addr} {n c a : Nat} (hA : NV w A n c a) (p : Nat) (ha : bln a + p ≤ 29000) : Cp 177 #[.slice A n c, .int .i64 p] w (NOk (a * 2 ^ p) w) := by
 have la := lng_bln (v := a) (by omega)
 have h1 := small_len (v := a) (by omega)
 rw [hA.len] at h1
 have hp := bln_pow2 p
 have lab := lng_bln (v := a * 2 ^ p) (Nat.le_trans (bln_mul a _) (by omega))
 have := pshl_any A n c p (wds a) w hA.len hA.cap (by omega) hA.row
 rw [wds_val] at this
 refine this.mono fun e w' x => ?_
 unfold ShlQ at x
 rw [if_neg (by rw [la]; simp), if_neg (by omega), Int.toNat_natCast] at x
 exact NOk.of lab x
def DOk (a b : Nat) (w : World) (e : Ending) (w' : World) : Prop := ∃ A n c C m d, e = .returned (.tuple #[.slice A n c, .slice C m d, .int .i64 0]) ∧ NV w' A n c (a / b) ∧ NV w' C m d (a % b) ∧ Below w.heap.size w w'
theorem ndiv {w : World} {A C : Option Addr} {n c m d a b : Nat} (hA : NV w A n c a) (hB : NV w C m d b) (ha : bln a ≤ 30000) (hb : bln b ≤ 30000) (h0 : 0 < b) :
  Cp 178 #[.slice A n c, .slice C m d] w (DOk a b w) := by
 have la := lng_bln (v := a) (by omega)
 have lb := lng_bln (v := b) (by omega)
 have h1 := small_len (v := a) (by omega)
 have h2 := small_len (v := b) (by omega)
 rw [hA.len] at h1
 rw [hB.len] at h2
 have := div_any A C n c m d (wds a) (wds b) w hA.len hA.cap (by omega) hA.row hB.len hB.cap (by omega) hB.row
 rw [wds_val, wds_val] at this
 refine this.mono fun e w' x => ?_
 have hlb : (lngB a || lngB b) = false := by rw [la, lb]; rfl
 obtain ⟨A2, n2, c2, C2, m2, d2, he, ⟨x1, x2, x3, x4, x5, x6⟩, hbw⟩ := x
 have hB2 := divB_ok hlb h0
 unfold divQ at x1 x5
 unfold divR at x3 x6
 rw [if_pos hB2] at x1 x5 x3 x6
 have hk : divK a b = 0 := by unfold divK; rw [if_neg (by rw [hlb]; simp), if_neg (by omega)]
 rw [hk] at he
 exact ⟨A2, n2, c2, C2, m2, d2, he, ⟨x1.symm, x2, x5⟩, ⟨x3.symm, x4, x6⟩, hbw⟩
theorem nbits {w : World} {A : Option Addr} {n c a : Nat} (hA : NV w A n c a) (ha : bln a ≤ 30000) : Cq 148 #[.slice A n c] (.int .i64 (bln a : Nat)) w := by
 have h1 := small_len (v := a) (by omega)
 rw [hA.len] at h1
 exact bits_any A n c (wds a) w.heap.size w hA.len hA.cap (by omega) hA.row
def NRet (v : Nat) (w : World) (e : Ending) (w' : World) : Prop := ∃ A n c, e = .returned (.slice A n c) ∧ NV w' A n c v ∧ Below w.heap.size w w'
theorem NRet.of {v : Nat} {w w' : World} {e : Ending} (h : SlPost (wds v) w e w') : NRet v w e w' := by
 obtain ⟨V, he, ⟨A, c, hv, hc, hr⟩, hb⟩ := h
 subst hv
 exact ⟨A, _, c, he, ⟨rfl, hc, hr⟩, hb⟩
theorem nof (n : Nat) (hn : n < 18446744073709551616) (w : World) : Cp 147 #[.int .u64 n] w (NRet n w) :=
 (of_any n hn w).mono fun e w' x => NRet.of (by rw [two_wds n hn] at x; exact x)
/-! ### The reference's functions -/
end Go.Proofs.YtjmplgbhjpldbaaGreatDoor
namespace Go.Proofs.YtjmplgbhjpldbaaGreatDoor
theorem two_pos (k : Nat) : 0 < 2 ^ k := Nat.two_pow_pos k
theorem big_place {N n q t A B D : Nat} (hq : N = q * n + t) (hn : 0 < n) (hD : rplace (N * 2 ^ A) (2 ^ B * n) = D) (hbig : 2 ^ 60 ≤ q) : A + 7 ≤ D + B := by
 have s2 := (rplace_spec (Nat.mul_pos (two_pos B) hn) hD).2
 rcases Nat.lt_or_ge (D + B) (A + 7) with h | h
 ·exfalso
  have h1 : 2 ^ 60 * n ≤ N := by
   have := Nat.mul_le_mul_right n hbig
   omega
  have h2 : 2 ^ 60 * n * 2 ^ A ≤ N * 2 ^ A := Nat.mul_le_mul_right _ h1
  have h3 : 2 ^ D * 2 ^ B ≤ 2 ^ (A + 6) := by rw [← Nat.pow_add]; exact Nat.pow_le_pow_right (by omega) (by omega)
  have h4 : (2 : Nat) ^ (A + 6) = 2 ^ A * 64 := by rw [Nat.pow_add]
  have h5 : 9007199254740992 * 2 ^ D * (2 ^ B * n) = 9007199254740992 * (2 ^ D * 2 ^ B) * n := by grind
  rw [h5] at s2
  have h6 : 9007199254740992 * (2 ^ D * 2 ^ B) * n ≤ 9007199254740992 * (2 ^ A * 64) * n := Nat.mul_le_mul_right _ (Nat.mul_le_mul_left _ (by omega))
  have h7 : (2 : Nat) ^ 60 = 1152921504606846976 := by decide
  rw [h7] at h2
  have hP := two_pos A
  generalize 2 ^ A = P at *
  have h8 : 9007199254740992 * (P * 64) * n = 576460752303423488 * (n * P) := by grind
  have h9 : 1152921504606846976 * n * P = 1152921504606846976 * (n * P) := Nat.mul_assoc _ _ _
  omega
 ·exact h
theorem decR_near {m N n q t s : Nat} {ten last : Int} (hN : N = m * 5 ^ ten.toNat * 2 ^ (ten - last).toNat) (hn : n = 5 ^ (-ten).toNat * 2 ^ (last - ten).toNat) (hq : N = q * n + t) (ht : t < n) (hs : s = if t = 0 then 0 else 1) (hbig : last = -1076 ∨ 2 ^ 60 ≤ q) :
  decR m ten = rnd ((q ||| s) * 2 ^ (last + 1074).toNat) (2 ^ (-(last + 1074)).toNat) := by
 obtain ⟨K, hK, hd⟩ := decR_K
 obtain ⟨A, hA⟩ : ∃ A, (last + 1074).toNat = A := ⟨_, rfl⟩
 obtain ⟨B, hB⟩ : ∃ B, (-(last + 1074)).toNat = B := ⟨_, rfl⟩
 have hn0 : 0 < n := by omega
 obtain ⟨D, hD⟩ : ∃ D, rplace (N * 2 ^ A) (2 ^ B * n) = D := ⟨_, rfl⟩
 have key : A + 2 ≤ D + B := by
  rcases hbig with h | h
  ·omega
  ·have := big_place hq hn0 hD h
   omega
 obtain ⟨d, hd2⟩ : ∃ d, D + B = A + d := ⟨D + B - A, by omega⟩
 rw [hA, hB, (rnd_quot hn0 hq ht hs hD hd2 (by omega)).2 (by omega), hd]
 refine rnd_cross (ten_pos _) (Nat.mul_pos (two_pos B) hn0) ?_
 rw [hN, hn, show (10 : Nat) = 5 * 2 from rfl, Nat.mul_pow, Nat.mul_pow]
 have e1 : 2 ^ ten.toNat * 2 ^ K * 2 ^ B * 2 ^ (last - ten).toNat = 2 ^ (ten - last).toNat * 2 ^ A * 2 ^ (-ten).toNat := by
  rw [← Nat.pow_add, ← Nat.pow_add, ← Nat.pow_add, ← Nat.pow_add, ← Nat.pow_add]
  congr 1
  omega
 generalize 5 ^ ten.toNat = f at *
 generalize 5 ^ (-ten).toNat = g at *
 generalize 2 ^ ten.toNat = x1 at *
 generalize 2 ^ K = x2 at *
 generalize 2 ^ B = x3 at *
 generalize 2 ^ (last - ten).toNat = x4 at *
 generalize 2 ^ (ten - last).toNat = y1 at *
 generalize 2 ^ A = y2 at *
 generalize 2 ^ (-ten).toNat = y3 at *
 have a1 : m * (f * x1) * x2 * (x3 * (g * x4)) = m * f * g * (x1 * x2 * x3 * x4) := by grind
 have a2 : m * f * y1 * y2 * (g * y3) = m * f * g * (y1 * y2 * y3) := by grind
 rw [a1, a2, e1]
theorem rnd_drop {n L drop A B D : Nat} (h1 : n < 2 ^ L) (h2 : L = 0 ∨ 2 ^ (L - 1) ≤ n) (hL : L ≤ drop + 53) (h3 : D = 0 ∨ L = drop + 53) (hD : D + B = A + drop) :
  rnd (n * 2 ^ A) (2 ^ B) = min (D * 4503599627370496 + ediv n (2 ^ drop)) 9218868437227405312 ∧ ediv n (2 ^ drop) ≤ 9007199254740992 ∧ (D = 0 ∨ 4503599627370496 ≤ ediv n (2 ^ drop)) := by
 have hP : 2 ^ D * 2 ^ B = 2 ^ A * 2 ^ drop := by rw [← Nat.pow_add, ← Nat.pow_add, hD]
 have hA := two_pos A
 have hd := two_pos drop
 have up : n ≤ 9007199254740992 * 2 ^ drop ∧ n < 9007199254740992 * 2 ^ drop := by
  have : 2 ^ L ≤ 9007199254740992 * 2 ^ drop := by
   rw [show (9007199254740992 : Nat) = 2 ^ 53 from rfl, ← Nat.pow_add]
   exact Nat.pow_le_pow_right (by omega) (by omega)
  omega
 have lo : D = 0 ∨ 4503599627370496 * 2 ^ drop ≤ n := by
  rcases h3 with h | h
  ·exact Or.inl h
  ·refine Or.inr ?_
   rw [show (4503599627370496 : Nat) = 2 ^ 52 from rfl, ← Nat.pow_add, show 52 + drop = L - 1 by omega]
   exact h2.resolve_left (by omega)
 have hp : rplace (n * 2 ^ A) (2 ^ B) = D := by
  refine rplace_of (two_pos B) ?_ ?_
  ·rcases lo with h | h
   ·exact Or.inl h
   ·refine Or.inr ?_
    rw [Nat.mul_assoc, hP]
    have := Nat.mul_le_mul_right (2 ^ A) h
    have e : 4503599627370496 * 2 ^ drop * 2 ^ A = 4503599627370496 * (2 ^ A * 2 ^ drop) := by rw [Nat.mul_assoc, Nat.mul_comm (2 ^ drop)]
    omega
  ·rw [Nat.mul_assoc, hP]
   have := Nat.mul_lt_mul_of_pos_right up.2 hA
   have e : 9007199254740992 * 2 ^ drop * 2 ^ A = 9007199254740992 * (2 ^ A * 2 ^ drop) := by rw [Nat.mul_assoc, Nat.mul_comm (2 ^ drop)]
   omega
 refine ⟨?_, ediv_le hd up.1, ?_⟩
 ·unfold rnd
  rw [hp, hP, Nat.mul_comm (2 ^ A), ediv_scale hA]
 ·rcases lo with h | h
  ·exact Or.inl h
  ·exact Or.inr (ediv_ge hd h)
theorem ediv_half' {n h : Nat} : ediv n (2 * h) = if h < n % (2 * h) ∨ (n % (2 * h) = h ∧ n / (2 * h) % 2 = 1) then n / (2 * h) + 1 else n / (2 * h) := by
 unfold ediv
 generalize n % (2 * h) = r
 generalize n / (2 * h) = q
 by_cases c1 : h < r
 ·rw [if_pos (Or.inl c1), decide_eq_true (by omega), Bool.true_or]; rfl
 ·rw [decide_eq_false (show ¬ 2 * h < 2 * r by omega), Bool.false_or]
  by_cases c2 : r = h
  ·rw [decide_eq_true (by omega), Bool.true_and]
   by_cases c3 : q % 2 = 1
   ·rw [decide_eq_true c3, if_pos (Or.inr ⟨c2, c3⟩)]; rfl
   ·rw [decide_eq_false c3, if_neg (by omega)]; rfl
  ·rw [decide_eq_false (show ¬ 2 * h = 2 * r by omega), Bool.false_and, if_neg (by omega)]; rfl


end Go.Proofs.YtjmplgbhjpldbaaGreatDoor
namespace Go.Proofs.YtjmplgbhjpldbaaGreatDoor
def ldz (f : List Nat) : List Nat := f.dropWhile (· == 48)
def trz (f : List Nat) : List Nat := (f.reverse.dropWhile (· == 48)).reverse
theorem ldz_mem {f : List Nat} {c : Nat} (h : c ∈ ldz f) : c ∈ f := (List.dropWhile_sublist _).subset h
theorem trz_mem {f : List Nat} {c : Nat} (h : c ∈ trz f) : c ∈ f := by
 unfold trz at h
 rw [List.mem_reverse] at h
 exact List.mem_reverse.1 ((List.dropWhile_sublist _).subset h)
theorem dropWhile_zeros : ∀ g : List Nat, ∃ z, g = List.replicate z 48 ++ g.dropWhile (· == 48)
 | [] => ⟨0, rfl⟩
 | c :: g => by
  by_cases h : c = 48
  ·subst h
   obtain ⟨z, hz⟩ := dropWhile_zeros g
   refine ⟨z + 1, ?_⟩
   rw [List.dropWhile_cons_of_pos (by simp), List.replicate_succ, List.cons_append, ← hz]
  ·exact ⟨0, by rw [List.dropWhile_cons_of_neg (by simpa using h)]; rfl⟩
theorem trz_zeros (f : List Nat) : ∃ z, f = trz f ++ List.replicate z 48 := by
 obtain ⟨z, hz⟩ := dropWhile_zeros f.reverse
 refine ⟨z, ?_⟩
 have h := congrArg List.reverse hz
 rw [List.reverse_reverse, List.reverse_append, List.reverse_replicate] at h
 exact h
theorem trz_last (f : List Nat) : (trz f).getLast? ≠ some 48 := by
 unfold trz
 rw [List.getLast?_reverse]
 exact lead_head f.reverse
theorem num_trz (f : List Nat) : num 10 f = num 10 (trz f) * 10 ^ (f.length - (trz f).length) := by
 obtain ⟨z, hz⟩ := trz_zeros f
 have hl : f.length - (trz f).length = z := by
  have := congrArg List.length hz
  rw [List.length_append, List.length_replicate] at this
  omega
 have h2 := congrArg (num 10) hz
 rw [num_append, num_zeros, List.length_replicate, Nat.add_zero] at h2
 rw [hl, h2]
theorem trz_len (f : List Nat) : (trz f).length ≤ f.length := by
 obtain ⟨z, hz⟩ := trz_zeros f
 have := congrArg List.length hz
 rw [List.length_append] at this
 omega
theorem num_any_pos {f : List Nat} (hd : ∀ x ∈ f, dg10 x = true) {c : Nat} (hc : c ∈ f) (h : c ≠ 48) : 0 < num 10 f := by
 rcases Nat.eq_zero_or_pos (num 10 f) with h0 | h0
 ·exfalso
  have h1 := (num_pos_iff hd).1 h0
  obtain ⟨z, hz⟩ := dropWhile_zeros f
  rw [h1, List.append_nil] at hz
  rw [hz] at hc
  exact h (List.eq_of_mem_replicate hc)
 ·exact h0
theorem num_lo {g : List Nat} (hd : ∀ x ∈ g, dg10 x = true) (h0 : g ≠ []) (hh : g.head? ≠ some 48) : 10 ^ (g.length - 1) ≤ num 10 g := by
 cases g with
 | nil => exact absurd rfl h0
 | cons c r =>
  have := num_ge (f := r) (c := c) hd (fun e => hh (by rw [e]; rfl))
  simpa using this
theorem num_hi {g : List Nat} (hd : ∀ x ∈ g, dg10 x = true) : num 10 g < 10 ^ g.length := num_lt (fun c hc => (dgt_ten (hd c hc)).2)
theorem head_take {g : List Nat} {k : Nat} (hk : 0 < k) : (g.take k).head? = g.head? := by
 cases g with
 | nil => simp
 | cons c r =>
  obtain ⟨j, rfl⟩ : ∃ j, k = j + 1 := ⟨k - 1, by omega⟩
  rw [List.take_succ_cons]
  rfl
theorem dgt_49 : dgt 49 = 1 := by decide
theorem cut_tail {g : List Nat} {k : Nat} {e : Int} (hd : ∀ x ∈ g, dg10 x = true) (hh : g.head? ≠ some 48) (hk : 769 ≤ k) (hl : k < g.length) (hpt : (g.length : Int) + e ≤ 768) (hc : ∃ c ∈ g.drop k, c ≠ 48) :
  decR (num 10 g) e = decR (num 10 (g.take k ++ [49])) (e + (g.length - k : Nat) - 1) := by
 obtain ⟨p, hp⟩ : ∃ p, g.take k = p := ⟨_, rfl⟩
 obtain ⟨q, hq⟩ : ∃ q, g.drop k = q := ⟨_, rfl⟩
 have hg : g = p ++ q := by rw [← hp, ← hq, List.take_append_drop]
 have lp : p.length = k := by rw [← hp, List.length_take]; omega
 have lq : q.length = g.length - k := by rw [← hq, List.length_drop]
 have dp : ∀ x ∈ p, dg10 x = true := fun x hx => hd x (by rw [hg]; exact List.mem_append_left _ hx)
 have dq : ∀ x ∈ q, dg10 x = true := fun x hx => hd x (by rw [hg]; exact List.mem_append_right _ hx)
 have hhp : p.head? ≠ some 48 := by rw [← hp, head_take (by omega)]; exact hh
 have p0 : p ≠ [] := fun e => by rw [e] at lp; simp at lp; omega
 rw [hq] at hc
 obtain ⟨c, hc1, hc2⟩ := hc
 have q0 := num_any_pos dq hc1 hc2
 have h1 := num_lo dp p0 hhp
 rw [lp] at h1
 have h2 := num_hi dp
 rw [lp] at h2
 have h3 := num_hi dq
 rw [hp, num_append, num_one, dgt_49, ← lq]
 have h4 := decR_cut (p := num 10 p) (r := q.length) (q := num 10 q) (k := k) (e := e) hk h1 h2 h3 q0 (by rw [hg, List.length_append, lp] at hpt; omega)
 rw [← num_append, ← hg] at h4
 rw [h4]
 rfl
/-! ### The program's way -/
theorem pway_none {f : List Nat} {e : Int} (h : trz (ldz f) = []) : decR (num 10 f) e = 0 := by
 have h1 := num_trz (ldz f)
 rw [h, num_nil, Nat.zero_mul] at h1
 have h2 : num 10 (ldz f) = num 10 f := num_lead 10 f
 rw [← h2, h1]
 exact decR_zero e
theorem pway_low {f : List Nat} {e : Int} (hd : ∀ x ∈ f, dg10 x = true) (h : ((ldz f).length : Int) + e < -323) : decR (num 10 f) e = 0 := by
 have h2 : num 10 (ldz f) = num 10 f := num_lead 10 f
 rw [← h2]
 exact decR_tiny (num_hi (fun x hx => hd x (ldz_mem hx))) (by omega)
theorem pway_high {f : List Nat} {e : Int} (hd : ∀ x ∈ f, dg10 x = true) (h0 : trz (ldz f) ≠ []) (h : 309 < ((ldz f).length : Int) + e) : decR (num 10 f) e = 9218868437227405312 := by
 have h2 : num 10 (ldz f) = num 10 f := num_lead 10 f
 have h3 : ldz f ≠ [] := fun e => h0 (by rw [e]; rfl)
 have h4 : 0 < (ldz f).length := List.length_pos_iff.2 h3
 rw [← h2]
 exact decR_huge (num_lo (fun x hx => hd x (ldz_mem hx)) h3 (lead_head f)) (by omega)
theorem pway_short {f : List Nat} (e : Int) : decR (num 10 f) e = decR (num 10 (trz (ldz f))) ((ldz f).length + e - (trz (ldz f)).length) := by
 have h2 : num 10 (ldz f) = num 10 f := num_lead 10 f
 have h3 := trz_len (ldz f)
 rw [← h2, num_trz (ldz f), decR_shift]
 exact congrArg (decR _) (by omega)
theorem trz_head {f : List Nat} (h : f.head? ≠ some 48) : (trz f).head? ≠ some 48 := by
 obtain ⟨z, hz⟩ := trz_zeros f
 cases ht : trz f with
 | nil => simp
 | cons c r =>
  rw [ht] at hz
  rw [hz] at h
  exact h
theorem pway_long {f : List Nat} {e : Int} (hd : ∀ x ∈ f, dg10 x = true) (hl : 800 < (trz (ldz f)).length) (h : ((ldz f).length : Int) + e ≤ 309) : decR (num 10 f) e = decR (num 10 ((trz (ldz f)).take 800 ++ [49])) ((ldz f).length + e - 801) := by
 rw [pway_short]
 have h3 := trz_len (ldz f)
 have hdh : ∀ x ∈ trz (ldz f), dg10 x = true := fun x hx => hd x (ldz_mem (trz_mem hx))
 have key := cut_tail (g := trz (ldz f)) (k := 800) (e := (ldz f).length + e - (trz (ldz f)).length) hdh (trz_head (lead_head f)) (by omega) hl (by omega) ?_
 ·rw [key]
  exact congrArg (decR _) (by omega)
 ·have hne : trz (ldz f) ≠ [] := fun e => by rw [e] at hl; simp at hl
  obtain ⟨c, hc⟩ : ∃ c, (trz (ldz f)).getLast? = some c := ⟨_, List.getLast?_eq_some_getLast hne⟩
  refine ⟨c, ?_, fun e => trz_last (ldz f) (by rw [← e]; exact hc)⟩
  have h5 : ((trz (ldz f)).drop 800).getLast? = some c := by
   rw [List.getLast?_drop, if_neg (by omega)]
   exact hc
  exact List.mem_of_getLast? h5
/-! ### The reference's way -/
end Go.Proofs.YtjmplgbhjpldbaaGreatDoor
namespace Go.Proofs.YtjmplgbhjpldbaaGreatDoor
theorem hexA_len : ∀ {a n : Nat} {l : List Nat} {v : Nat}, hexA a n l = some v → n ≤ l.length
 | _, 0, _, _, h => by rw [hexA] at h; cases h
 | a, 1, l, v, h => by
  cases l with
  | nil => simp [hexA] at h
  | cons c r => simp
 | a, n + 2, l, v, h => by
  cases l with
  | nil => simp [hexA] at h
  | cons c r =>
   rw [hexA] at h
   cases hq : hxV c with
   | none => rw [hq] at h; cases h
   | some d =>
    rw [hq] at h
    have := hexA_len (a := a * 16 + d) (n := n + 1) (l := r) h
    rw [List.length_cons]
    omega
theorem esc_len {l : List Nat} {v : List Nat} {n : Nat} (h : escL l = some (v, n)) : 1 ≤ n ∧ n ≤ l.length := by
 cases l with
 | nil => cases h
 | cons c r =>
  rw [escL] at h
  rw [List.length_cons]
  split at h
  ·cases hq : hexA 0 2 r with
   | none => rw [hq] at h; cases h
   | some d =>
    rw [hq] at h
    have h2 : 3 = n := congrArg Prod.snd (Option.some.inj h)
    have := hexA_len hq
    omega
  ·split at h
   ·cases hq : hexA 0 4 r with
    | none => rw [hq] at h; cases h
    | some d =>
     rw [hq] at h
     have h2 : 5 = n := congrArg Prod.snd (Option.some.inj h)
     have := hexA_len hq
     omega
   ·split at h
    ·have h2 := congrArg Prod.snd (Option.some.inj h)
     simp only at h2
     split at h2
     ·rename_i hc
      obtain ⟨q, hq⟩ := hd0_get (by omega) hc.2
      rw [hq, List.length_cons]
      omega
     ·omega
    ·split at h
     ·split at h
      ·cases h
      ·have h2 : 1 = n := congrArg Prod.snd (Option.some.inj h)
       omega
     ·split at h
      ·cases h
      ·have h2 : 1 = n := congrArg Prod.snd (Option.some.inj h)
       omega
theorem str_len : ∀ {f q : Nat} {l : List Nat} {t : List Nat} {n : Nat}, strF f q l = some (t, n) → n ≤ l.length
 | 0, _, _, _, _, h => by cases h
 | _ + 1, _, [], _, _, h => by cases h
 | f + 1, q, c :: r, t, n, h => by
  rw [strF] at h
  rw [List.length_cons]
  split at h
  ·cases h
  ·split at h
   ·have h2 : 1 = n := congrArg Prod.snd (Option.some.inj h)
    omega
   ·split at h
    ·cases he : escL r with
     | none => rw [he] at h; cases h
     | some p =>
      obtain ⟨v, k⟩ := p
      rw [he] at h
      simp only at h
      have h3 := (esc_len he).2
      cases hs : strF f q (r.drop k) with
      | none => rw [hs] at h; cases h
      | some p =>
       rw [hs] at h
       have h2 : 1 + k + p.2 = n := congrArg Prod.snd (Option.some.inj h)
       have := str_len (t := p.1) (n := p.2) hs
       rw [List.length_drop] at this
       omega
    ·cases hs : strF f q r with
     | none => rw [hs] at h; cases h
     | some p =>
      rw [hs] at h
      have h2 : 1 + p.2 = n := congrArg Prod.snd (Option.some.inj h)
      have := str_len (t := p.1) (n := p.2) hs
      omega
theorem nam_len : ∀ {f : Nat} {b : Bool} {l : List Nat} {t : List Nat} {e : Bool} {n : Nat}, namF f b l = some (t, e, n) → n ≤ l.length
 | 0, _, l, _, _, n, h => by
  have h2 : 0 = n := congrArg (fun p => p.2.2) (Option.some.inj h)
  omega
 | _ + 1, _, [], _, _, n, h => by
  have h2 : 0 = n := congrArg (fun p => p.2.2) (Option.some.inj h)
  omega
 | f + 1, b, c :: r, t, e, n, h => by
  rw [namF] at h
  rw [List.length_cons]
  split at h
  ·split at h
   ·rename_i hu
    obtain ⟨q, hq⟩ := hd0_get (by omega) hu
    cases hx : hexA 0 4 r.tail with
    | none => rw [hx] at h; cases h
    | some v =>
     rw [hx] at h
     simp only at h
     split at h
     ·cases hs : namF f false (r.drop 5) with
      | none => rw [hs] at h; cases h
      | some p =>
       obtain ⟨t1, e1, n1⟩ := p
       rw [hs] at h
       have h2 : 6 + n1 = n := congrArg (fun p => p.2.2) (Option.some.inj h)
       have h3 := nam_len hs
       have h4 := hexA_len hx
       rw [hq, List.tail_cons] at h4
       rw [hq] at h3 ⊢
       rw [List.length_drop, List.length_cons] at h3
       rw [List.length_cons]
       omega
     ·cases h
   ·cases h
  ·split at h
   ·cases hs : namF f false r with
    | none => rw [hs] at h; cases h
    | some p =>
     obtain ⟨t1, e1, n1⟩ := p
     rw [hs] at h
     have h2 : 1 + n1 = n := congrArg (fun p => p.2.2) (Option.some.inj h)
     have := nam_len hs
     omega
   ·have h2 : 0 = n := congrArg (fun p => p.2.2) (Option.some.inj h)
    omega
theorem nam_pos {f : Nat} {c : Nat} {r t : List Nat} {e : Bool} {n : Nat} (hc : (stN c || c == 92) = true) (h : namF (f + 1) true (c :: r) = some (t, e, n)) : 1 ≤ n := by
 rw [namF] at h
 split at h
 ·split at h
  ·cases hx : hexA 0 4 r.tail with
   | none => rw [hx] at h; cases h
   | some v =>
    rw [hx] at h
    simp only at h
    split at h
    ·cases hs : namF f false (r.drop 5) with
     | none => rw [hs] at h; cases h
     | some p =>
      rw [hs] at h
      have h2 : 6 + p.2.2 = n := congrArg (fun p => p.2.2) (Option.some.inj h)
      omega
    ·cases h
  ·cases h
 ·rename_i h92
  have hst : stN c = true := by
   rw [Bool.or_eq_true, beq_iff_eq] at hc
   exact hc.resolve_right h92
  rw [if_pos (show fitN true c = true from hst)] at h
  cases hs : namF f false r with
  | none => rw [hs] at h; cases h
  | some p =>
   rw [hs] at h
   have h2 : 1 + p.2.2 = n := congrArg (fun p => p.2.2) (Option.some.inj h)
   omega
theorem numR_le (l : List Nat) : numR l ≤ l.length := by
 unfold numR
 split
 ·rename_i hx
  unfold hxA at hx
  cases l with
  | nil => simp at hx
  | cons a t =>
   cases t with
   | nil => simp at hx
   | cons b u =>
    have : ((b :: u).drop 1).length = u.length := rfl
    have h2 := (List.takeWhile_sublist (p := hx16) (l := u)).length_le
    show 2 + (u.takeWhile hx16).length ≤ u.length + 1 + 1
    omega
 ·omega
theorem num_len {l : List Nat} {x n : Nat} (h : numL l = some (x, n)) : 1 ≤ n ∧ n ≤ l.length := by
 unfold numL at h
 split at h
 ·rename_i ho
  have h2 : numR l = n := congrArg Prod.snd (Option.some.inj h)
  have := numR_le l
  refine ⟨?_, by omega⟩
  rcases Nat.eq_zero_or_pos n with h0 | h0
  ·unfold numO at ho
   rw [h2, h0, List.take_zero, show litB [] = false by decide, Bool.false_and] at ho
   cases ho
  ·exact h0
 ·cases h
theorem read_len {l : List Nat} {k : Nat} {t : List Nat} {x : Nat} {e : Bool} {n : Nat} (h : readL l = some (k, t, x, e, n)) : n ≤ l.length ∧ (k = 1 ↔ l = []) ∧ (l ≠ [] → 1 ≤ n) ∧ 1 ≤ k ∧ k ≤ 6 := by
 cases l with
 | nil =>
  have h1 : 1 = k := congrArg (fun p => p.1) (Option.some.inj h)
  have h2 : 0 = n := congrArg (fun p => p.2.2.2.2) (Option.some.inj h)
  exact ⟨by omega, by simp [← h1], by simp, by omega, by omega⟩
 | cons c r =>
  rw [readL] at h
  have fin : n ≤ (c :: r).length ∧ 1 ≤ n ∧ k ≠ 1 ∧ 1 ≤ k ∧ k ≤ 6 → n ≤ (c :: r).length ∧ (k = 1 ↔ c :: r = []) ∧ (c :: r ≠ [] → 1 ≤ n) ∧ 1 ≤ k ∧ k ≤ 6 := by
   rintro ⟨h1, h2, h3, h4, h5⟩
   exact ⟨h1, by simp [h3], fun _ => h2, h4, h5⟩
  apply fin
  split at h
  ·rename_i hc
   cases hs : namL (c :: r) with
   | none => rw [hs] at h; cases h
   | some p =>
    obtain ⟨t1, e1, n1⟩ := p
    rw [hs] at h
    have h1 : (if resB t1 = true then 3 else 2) = k := congrArg (fun p => p.1) (Option.some.inj h)
    have h2 : n1 = n := congrArg (fun p => p.2.2.2.2) (Option.some.inj h)
    have h3 := nam_len hs
    have h4 := nam_pos hc hs
    split at h1 <;> exact ⟨by omega, by omega, by omega, by omega, by omega⟩
  ·split at h
   ·cases hs : strL c r with
    | none => rw [hs] at h; cases h
    | some p =>
     rw [hs] at h
     have h1 : 6 = k := congrArg (fun p => p.1) (Option.some.inj h)
     have h2 : 1 + p.2 = n := congrArg (fun p => p.2.2.2.2) (Option.some.inj h)
     have h3 := str_len (t := p.1) (n := p.2) hs
     rw [List.length_cons]
     exact ⟨by omega, by omega, by omega, by omega, by omega⟩
   ·split at h
    ·cases hs : numL (c :: r) with
     | none => rw [hs] at h; cases h
     | some p =>
      rw [hs] at h
      have h1 : 5 = k := congrArg (fun p => p.1) (Option.some.inj h)
      have h2 : p.2 = n := congrArg (fun p => p.2.2.2.2) (Option.some.inj h)
      have h3 := num_len (x := p.1) (n := p.2) hs
      exact ⟨by omega, by omega, by omega, by omega, by omega⟩
    ·cases hs : markL (c :: r) with
     | none => rw [hs] at h; cases h
     | some t1 =>
      rw [hs] at h
      have h1 : 4 = k := congrArg (fun p => p.1) (Option.some.inj h)
      have h2 : t1.length = n := congrArg (fun p => p.2.2.2.2) (Option.some.inj h)
      obtain ⟨h3, h4, h5, _⟩ := mark_some hs
      have h6 := congrArg List.length h5
      rw [List.length_take] at h6
      exact ⟨by omega, by omega, by omega, by omega, by omega⟩
def StandsL (u : List Nat) : Nat → List Tok → Prop
 | _, [] => False
 | p, k :: ts => p ≤ k.pos ∧ k.pos ≤ k.fin ∧ k.fin ≤ u.length ∧ (k.fin = k.pos ↔ k.kind = 1) ∧
   allL ((u.drop p).take (k.pos - p)) = (0, some [⟨1, [], 0, false, k.nl, k.pos - p, k.pos - p⟩]) ∧
   ((k.kind = 1 ∧ ts = [] ∧ k.fin = u.length) ∨ (k.kind ≠ 1 ∧ StandsL u k.fin ts))
theorem all_stands (u : List Nat) : ∀ (f p : Nat) (q : Nat) (ts : List Tok), p ≤ u.length → allF f p (u.drop p) = (q, some ts) → StandsL u p ts
 | 0, _, _, _, _, h => by
  rw [allF] at h
  cases congrArg Prod.snd h
 | f + 1, p, q, ts, hp, h => by
  rw [allF] at h
  obtain ⟨s, hs⟩ : ∃ s, skipL (u.drop p) = s := ⟨_, rfl⟩
  have hle := skipL_le (u.drop p)
  rw [List.length_drop] at hle
  rw [hs] at h hle
  split at h
  ·cases congrArg Prod.snd h
  ·rename_i hok
   have hok' : (skipL (u.drop p)).2.2 = true := by
    rw [hs]
    simpa using hok
   have hg := all_gap hok'
   rw [hs] at hg
   cases hr : readL ((u.drop p).drop s.1) with
   | none =>
    rw [hr] at h
    cases congrArg Prod.snd h
   | some v =>
    obtain ⟨k, t, x, e, n⟩ := v
    obtain ⟨r1, r2, r3, _, _⟩ := read_len hr
    rw [List.drop_drop, List.length_drop] at r1
    rw [List.drop_drop] at r2 r3
    rw [hr] at h
    simp only at h
    have hnil : u.drop (p + s.1) = [] ↔ u.length ≤ p + s.1 := List.drop_eq_nil_iff
    have main : ∀ rest, ts = ⟨k, t, x, e, s.2.1, p + s.1, p + s.1 + n⟩ :: rest → ((k = 1 ∧ rest = []) ∨ (k ≠ 1 ∧ StandsL u (p + s.1 + n) rest)) → StandsL u p ts := by
     rintro rest rfl hrest
     refine ⟨by show p ≤ p + s.1; omega, by show p + s.1 ≤ p + s.1 + n; omega, by show p + s.1 + n ≤ u.length; omega, ?_, ?_, ?_⟩
     ·show p + s.1 + n = p + s.1 ↔ k = 1
      rw [r2, hnil]
      constructor
      ·intro h0
       rcases Nat.lt_or_ge (p + s.1) u.length with h1 | h1
       ·have := r3 (fun h2 => by rw [hnil] at h2; omega)
        omega
       ·exact h1
      ·intro h0
       omega
     ·show allL ((u.drop p).take (p + s.1 - p)) = _
      rw [show p + s.1 - p = s.1 by omega]
      exact hg
     ·rcases hrest with ⟨h1, h2⟩ | h1
      ·left
       refine ⟨h1, h2, ?_⟩
       have := hnil.1 (r2.1 h1)
       show p + s.1 + n = u.length
       omega
      ·exact .inr h1
    split at h
    ·rename_i hk
     exact main [] (Option.some.inj (congrArg Prod.snd h)).symm (.inl ⟨hk, rfl⟩)
    ·rename_i hk
     cases ha : allF f (p + s.1 + n) ((u.drop p).drop (s.1 + n)) with
     | mk q2 o =>
      rw [ha] at h
      cases o with
      | none => cases congrArg Prod.snd h
      | some rest =>
       rw [List.drop_drop, ← Nat.add_assoc] at ha
       exact main rest (Option.some.inj (congrArg Prod.snd h)).symm (.inr ⟨hk, all_stands u f _ q2 rest (by omega) ha⟩)


end Go.Proofs.YtjmplgbhjpldbaaGreatDoor
namespace Go.Proofs.YtjmplgbhjpldbaaGreatDoor
theorem all_fuel : ∀ (f g p : Nat) (l : List Nat), l.length < f → l.length < g → allF f p l = allF g p l
 | 0, _, _, _, h, _ => by omega
 | _ + 1, 0, _, _, _, h => by omega
 | f + 1, g + 1, p, l, hf, hg => by
  rw [allF, allF]
  obtain ⟨s, hs⟩ : ∃ s, skipL l = s := ⟨_, rfl⟩
  have hle := skipL_le l
  rw [hs] at hle ⊢
  by_cases hok : s.2.2 = false
  ·rw [if_pos hok, if_pos hok]
  ·rw [if_neg hok, if_neg hok]
   cases hr : readL (l.drop s.1) with
   | none => rfl
   | some v =>
    obtain ⟨k, t, x, e, n⟩ := v
    obtain ⟨r1, r2, r3, _, _⟩ := read_len hr
    simp only
    by_cases hk : k = 1
    ·rw [if_pos hk, if_pos hk]
    ·have hne : l.drop s.1 ≠ [] := fun hx => hk (r2.2 hx)
     have hn := r3 hne
     rw [List.length_drop] at r1
     have hlt : (l.drop (s.1 + n)).length < l.length := by rw [List.length_drop]; omega
     rw [if_neg hk, if_neg hk, all_fuel f g (p + s.1 + n) (l.drop (s.1 + n)) (by omega) (by omega)]
def allG (p : Nat) (l : List Nat) : Nat × Option (List Tok) := allF (l.length + 1) p l
def nxtL (p : Nat) (l : List Nat) : Nat × Option Tok :=
 if (skipL l).2.2 = false then (p + (skipL l).1, none)
 else match readL (l.drop (skipL l).1) with
  | none => (p + (skipL l).1, none)
  | some (k, t, x, e, n) => (0, some ⟨k, t, x, e, (skipL l).2.1, p + (skipL l).1, p + (skipL l).1 + n⟩)
theorem all_next (p : Nat) (l : List Nat) : allG p l = match nxtL p l with
  | (q, none) => (q, none)
  | (_, some k) => if k.kind = 1 then (0, some [k]) else match allG k.fin (l.drop (k.fin - p)) with
   | (q, none) => (q, none)
   | (_, some ts) => (0, some (k :: ts)) := by
 unfold allG nxtL
 rw [allF]
 obtain ⟨s, hs⟩ : ∃ s, skipL l = s := ⟨_, rfl⟩
 have hle := skipL_le l
 rw [hs] at hle ⊢
 by_cases hok : s.2.2 = false
 ·rw [if_pos hok, if_pos hok]
 ·rw [if_neg hok, if_neg hok]
  cases hr : readL (l.drop s.1) with
  | none => rfl
  | some v =>
   obtain ⟨k, t, x, e, n⟩ := v
   obtain ⟨r1, r2, r3, _, _⟩ := read_len hr
   simp only
   by_cases hk : k = 1
   ·rw [if_pos hk, if_pos hk]
   ·have hne : l.drop s.1 ≠ [] := fun hx => hk (r2.2 hx)
    have hn := r3 hne
    rw [List.length_drop] at r1
    have hlt : (l.drop (s.1 + n)).length < l.length := by rw [List.length_drop]; omega
    rw [if_neg hk, if_neg hk, show p + s.1 + n - p = s.1 + n by omega, all_fuel l.length ((l.drop (s.1 + n)).length + 1) (p + s.1 + n) (l.drop (s.1 + n)) (by omega) (by omega)]
    rfl
theorem nxt_in {p q : Nat} {l : List Nat} {k : Tok} (h : nxtL p l = (q, some k)) : p ≤ k.pos ∧ k.pos ≤ k.fin ∧ k.fin ≤ p + l.length ∧ (k.kind = 1 ↔ k.fin = p + l.length ∧ k.pos = k.fin) ∧ 1 ≤ k.kind ∧ k.kind ≤ 6 ∧ q = 0 := by
 unfold nxtL at h
 obtain ⟨s, hs⟩ : ∃ s, skipL l = s := ⟨_, rfl⟩
 have hle := skipL_le l
 rw [hs] at hle h
 by_cases hok : s.2.2 = false
 ·rw [if_pos hok] at h
  cases congrArg Prod.snd h
 ·rw [if_neg hok] at h
  cases hr : readL (l.drop s.1) with
  | none => rw [hr] at h; cases congrArg Prod.snd h
  | some v =>
   obtain ⟨j, t, x, e, n⟩ := v
   obtain ⟨r1, r2, r3, r4, r5⟩ := read_len hr
   rw [hr] at h
   have hk : ⟨j, t, x, e, s.2.1, p + s.1, p + s.1 + n⟩ = k := Option.some.inj (congrArg Prod.snd h)
   have hq : 0 = q := congrArg Prod.fst h
   rw [List.length_drop] at r1
   have hnil : l.drop s.1 = [] ↔ l.length ≤ s.1 := List.drop_eq_nil_iff
   subst hk
   refine ⟨by show p ≤ p + s.1; omega, by show p + s.1 ≤ p + s.1 + n; omega, by show p + s.1 + n ≤ p + l.length; omega, ?_, r4, r5, hq.symm⟩
   show j = 1 ↔ p + s.1 + n = p + l.length ∧ p + s.1 = p + s.1 + n
   rw [r2, hnil]
   constructor
   ·intro h1
    omega
   ·rintro ⟨h1, h2⟩
    omega
theorem skip_next (l : List Nat) : skipL l = match gapL l with
  | none => (0, false, false)
  | some (0, _) => (0, false, true)
  | some (n + 1, b) => (n + 1 + (skipL (l.drop (n + 1))).1, b || (skipL (l.drop (n + 1))).2.1, (skipL (l.drop (n + 1))).2.2) := by
 show skipF (l.length + 1) l = _
 rw [skipF]
 cases hq : gapL l with
 | none => rfl
 | some p =>
  obtain ⟨n, b⟩ := p
  cases n with
  | zero => rfl
  | succ n =>
   have hle := gap_le hq
   have e := skip_fuel l.length ((l.drop (n + 1)).length + 1) (l.drop (n + 1)) (by rw [List.length_drop]; omega) (by omega)
   show (n + 1 + (skipF l.length (l.drop (n + 1))).1, _, _) = (n + 1 + (skipF ((l.drop (n + 1)).length + 1) (l.drop (n + 1))).1, _, _)
   rw [e]
   rfl
theorem nam_fuel : ∀ (f g : Nat) (b : Bool) (l : List Nat), l.length < f → l.length < g → namF f b l = namF g b l
 | 0, _, _, _, h, _ => by omega
 | _ + 1, 0, _, _, _, h => by omega
 | f + 1, g + 1, b, [], _, _ => rfl
 | f + 1, g + 1, b, c :: r, hf, hg => by
  rw [List.length_cons] at hf hg
  rw [namF, namF, nam_fuel f g false (r.drop 5) (by rw [List.length_drop]; omega) (by rw [List.length_drop]; omega), nam_fuel f g false r (by omega) (by omega)]
theorem str_fuel : ∀ (f g q : Nat) (l : List Nat), l.length < f → l.length < g → strF f q l = strF g q l
 | 0, _, _, _, h, _ => by omega
 | _ + 1, 0, _, _, _, h => by omega
 | f + 1, g + 1, q, [], _, _ => rfl
 | f + 1, g + 1, q, c :: r, hf, hg => by
  rw [List.length_cons] at hf hg
  have e1 := str_fuel f g q r (by omega) (by omega)
  have e2 : ∀ n, strF f q (r.drop n) = strF g q (r.drop n) := fun n => str_fuel f g q (r.drop n) (by rw [List.length_drop]; omega) (by rw [List.length_drop]; omega)
  rw [strF, strF, e1]
  cases escL r with
  | none => rfl
  | some p =>
   obtain ⟨v, n⟩ := p
   simp only [e2 n]


end Go.Proofs.YtjmplgbhjpldbaaGreatDoor
namespace Go.Proofs.YtjmplgbhjpldbaaGreatDoor
open Go.RowKit
def tkV (kind : Nat) (text : ByteArray) (num : Nat) (esc nl : Bool) (pos fin : Nat) : Value := .agg #[.int .i64 (kind : Int), .string text, .float .f64 num, .bool esc, .bool nl, .int .i64 (pos : Int), .int .i64 (fin : Int)]
theorem make_own {B : Nat} {l : List Nat} {v : Value} {w : World} (h : Own16 B l v w) (hu : ∀ u ∈ l, u < 65536) (hs : 2 * l.length ≤ 140737488355328) :
  Ct 37 #[v] (.string ⟨(bL l).toArray⟩) w := by
 obtain ⟨hn, h⟩ := h
 rcases h with ⟨rfl, h0⟩ | ⟨g, cap, cur, rfl, hb, hg, hc, hm, hsz, ht⟩
 ·obtain rfl : l = [] := List.eq_nil_of_length_eq_zero h0
  exact make_none none 0 w
 ·refine make_any l hu g 0 cap w (Array.getElem?_eq_some_iff.1 hg).1 ?_ hs
  intro k u hk
  have hk1 : k < l.length := (List.getElem?_eq_some_iff.1 hk).1
  have e1 : (cur.toList.take (l.length * 1))[k]? = some (.int .u16 (u : Nat)) := by rw [ht, List.getElem?_map, hk]; rfl
  rw [List.getElem?_take_of_lt (by omega)] at e1
  simp only [World.cell?, hg, Nat.zero_add]
  simpa using e1
theorem str_cons (q c : Nat) (r : List Nat) : strL q (c :: r) =
  if enN c = true then none else if c = q then some ([], 1) else if c = 92 then
   match escL r with
   | none => none
   | some (v, n) => (strL q (r.drop n)).map fun p => (v ++ p.1, 1 + n + p.2)
  else (strL q r).map fun p => (c :: p.1, 1 + p.2) := by
 show strF ((c :: r).length + 1) q (c :: r) = _
 rw [strF]
 split
 ·rfl
 ·split
  ·rfl
  ·split
   ·cases he : escL r with
    | none => rfl
    | some p =>
     obtain ⟨v, n⟩ := p
     simp only []
     rw [str_fuel _ ((r.drop n).length + 1) q (r.drop n) (by simp; omega) (by omega)]
     rfl
   ·rw [str_fuel _ (r.length + 1) q r (by simp) (by omega)]
    rfl
theorem hexB_lt : ∀ (n a m : Nat) (l : List Nat) {v : Nat}, a < 16 ^ m → hexB a n l = some v → v < 16 ^ (m + n)
 | 0, a, m, l, v, ha, h => by
  rw [hexB] at h
  cases h
  exact ha
 | n + 1, a, m, l, v, ha, h => by
  rw [hexB] at h
  split at h
  ·rename_i h16
   have hd : dgt (hd0 l) < 16 := by unfold hx16 at h16; simpa using h16
   have := hexB_lt n _ (m + 1) _ (by rw [Nat.pow_succ]; omega) h
   rw [show m + 1 + n = m + (n + 1) by omega] at this
   exact this
  ·cases h
theorem hexA_lt {n : Nat} {l : List Nat} {v : Nat} (h : hexA 0 n l = some v) (hn : n ≤ 4) : v < 65536 := by
 cases n with
 | zero => cases l <;> cases h
 | succ n =>
  rw [hexA_B] at h
  have := hexB_lt (n + 1) 0 0 l (by decide) h
  have h2 : 16 ^ (0 + (n + 1)) ≤ 16 ^ 4 := Nat.pow_le_pow_right (by omega) (by omega)
  omega
theorem sgl_lt {c : Nat} (h : c < 65536) : sglN c < 65536 := by
 unfold sglN
 repeat (first | (split; omega) | exact h)
theorem esc_lt {l v : List Nat} {n : Nat} (hl : ∀ u ∈ l, u < 65536) (h : escL l = some (v, n)) : ∀ u ∈ v, u < 65536 := by
 cases l with
 | nil => cases h
 | cons c r =>
  have hc := hl c (by simp)
  rw [escL] at h
  split at h
  ·cases hx : hexA 0 2 r with
   | none => rw [hx] at h; cases h
   | some x =>
    rw [hx] at h
    cases h
    intro u hu
    simp at hu
    have := hexA_lt hx (by omega)
    omega
  ·split at h
   ·cases hx : hexA 0 4 r with
    | none => rw [hx] at h; cases h
    | some x =>
     rw [hx] at h
     cases h
     intro u hu
     simp at hu
     have := hexA_lt hx (by omega)
     omega
   ·split at h
    ·cases h
     intro u hu
     simp at hu
    ·split at h
     ·split at h
      ·cases h
      ·cases h
       intro u hu
       simp at hu
       omega
     ·split at h
      ·cases h
      ·cases h
       intro u hu
       simp at hu
       have := sgl_lt hc
       omega


end Go.Proofs.YtjmplgbhjpldbaaGreatDoor
namespace Go.Proofs.YtjmplgbhjpldbaaGreatDoor
open Go.RowKit
theorem below_setRow' {B g : Nat} {a w : World} (h : Below B a w) (hg : B ≤ g) (c : Array Value) : Below B a (w.setRow g c) :=
 ⟨h.os, h.tape, h.output, by rw [setRow_size]; exact h.size, fun k hk => (setRow_other w g k c (by omega)).trans (h.block k hk)⟩
theorem results_cell_two {fn : Func} {p t u : Tmp} {ty : TypeId} (h : fn.results = #[.cell p ty, .tmp t, .tmp u]) (tmps : Array Value) (P : Program) (w : World) (a : Addr) (v : Value) (ha : tmps.getD p undef = .pointer (some a)) (hl : (loadVar ty a).run P w = .ok v w) :
  (results fn tmps).run P w = .ok (.tuple #[v, tmps.getD t undef, tmps.getD u undef]) w := by
 simp only [results, h]
 simp [-Array.getD_eq_getD_getElem?, ha, asAddr, hl]
def Rc (w : World) (g : Nat) (a b c : Value) : Prop := w.heap[g]? = some (.cells #[a, b, c] 97 (0, 0))
theorem Rc.cells {w : World} {g : Nat} {a b c : Value} (h : Rc w g a b c) : w.cell? ⟨g, 0, none⟩ = some a ∧ w.cell? ⟨g, 1, none⟩ = some b ∧ w.cell? ⟨g, 2, none⟩ = some c ∧ (∀ k, w.frozen? ⟨g, k, none⟩ = false) := by
 unfold Rc at h
 refine ⟨by simp [World.cell?, h], by simp [World.cell?, h], by simp [World.cell?, h], fun k => by simp [World.frozen?, h]⟩
theorem Rc.below {w w' : World} {g B : Nat} {a b c : Value} (h : Rc w g a b c) (hb : Below B w w') (hg : g < B) : Rc w' g a b c := (hb.block g hg).trans h
theorem Rc.set0 {w : World} {g : Nat} {a b c : Value} (h : Rc w g a b c) (v : Value) : Rc (w.setCell ⟨g, 0, none⟩ v) g v b c := by
 have := heap_setCell_same w g 0 _ _ v h
 exact this
theorem Rc.set1 {w : World} {g : Nat} {a b c : Value} (h : Rc w g a b c) (v : Value) : Rc (w.setCell ⟨g, 1, none⟩ v) g a v c := by
 have := heap_setCell_same w g 1 _ _ v h
 exact this
theorem Rc.set2 {w : World} {g : Nat} {a b c : Value} (h : Rc w g a b c) (v : Value) : Rc (w.setCell ⟨g, 2, none⟩ v) g a b v := by
 have := heap_setCell_same w g 2 _ _ v h
 exact this
theorem Rc.other {w : World} {g k i : Nat} {a b c v : Value} (h : Rc w g a b c) (hk : g ≠ k) : Rc (w.setCell ⟨k, i, none⟩ v) g a b c := (heap_setCell_other w ⟨k, i, none⟩ g v hk).trans h
def zs : Value := .string ⟨#[]⟩
structure Rd (W w : World) (a b c : Value) : Prop where
 lo : Rc w W.heap.size zs zs (.int .i64 0)
 hi : Rc w (W.heap.size + 1) a b c
 bw : Below W.heap.size W w
 sz : W.heap.size + 2 ≤ w.heap.size
theorem Rd.start (W : World) : Rd W ((W.alloc (.cells #[zs, zs, .int .i64 0] 97)).alloc (.cells #[zs, zs, .int .i64 0] 97)) zs zs (.int .i64 0) := by
 obtain ⟨V, hV⟩ : ∃ V, W.alloc (.cells #[zs, zs, .int .i64 0] 97) = V := ⟨_, rfl⟩
 have hs : V.heap.size = W.heap.size + 1 := by rw [← hV]; simp
 have h1 : Rc V W.heap.size zs zs (.int .i64 0) := by rw [← hV]; exact heap_alloc_last W _
 have b1 : Below W.heap.size W V := by rw [← hV]; exact (Below.refl _ _).alloc (Nat.le_refl _) _
 have b2 : Below V.heap.size V (V.alloc (.cells #[zs, zs, .int .i64 0] 97)) := (Below.refl _ _).alloc (Nat.le_refl _) _
 rw [hV]
 refine ⟨h1.below b2 (by omega), ?_, below_le b1 b2, by simp; omega⟩
 rw [← hs]
 exact heap_alloc_last V _
theorem Rd.step {W w w' : World} {a b c : Value} (h : Rd W w a b c) (hb : Below w.heap.size w w') : Rd W w' a b c :=
 ⟨h.lo.below hb (by have := h.sz; omega), h.hi.below hb (by have := h.sz; omega), below_le h.bw hb, Nat.le_trans h.sz hb.size⟩
theorem Rd.put0 {W w : World} {a b c : Value} (h : Rd W w a b c) (v : Value) : Rd W (w.setCell ⟨W.heap.size + 1, 0, none⟩ v) v b c :=
 ⟨h.lo.other (by omega), h.hi.set0 v, h.bw.setCell (by show W.heap.size ≤ W.heap.size + 1; omega) _, by simp only [World.setCell, Array.size_modify]; exact h.sz⟩
theorem Rd.put1 {W w : World} {a b c : Value} (h : Rd W w a b c) (v : Value) : Rd W (w.setCell ⟨W.heap.size + 1, 1, none⟩ v) a v c :=
 ⟨h.lo.other (by omega), h.hi.set1 v, h.bw.setCell (by show W.heap.size ≤ W.heap.size + 1; omega) _, by simp only [World.setCell, Array.size_modify]; exact h.sz⟩
theorem Rd.put2 {W w : World} {a b c : Value} (h : Rd W w a b c) (v : Value) : Rd W (w.setCell ⟨W.heap.size + 1, 2, none⟩ v) a b v :=
 ⟨h.lo.other (by omega), h.hi.set2 v, h.bw.setCell (by show W.heap.size ≤ W.heap.size + 1; omega) _, by simp only [World.setCell, Array.size_modify]; exact h.sz⟩
set_option maxRecDepth 100000 in
set_option maxHeartbeats 1000000 in
theorem tcutDecimal_none (s : ByteArray) (w : World) (S1 : ByteArray)
   (C1 : Hid (∀ W, Ct 112 #[.string s, .int .i64 10] (.tuple #[.string ⟨#[]⟩, .string S1]) W))
   (C2 : Hid (∀ W, Cq 115 #[.string S1, .string ⟨#[46]⟩] (.tuple #[.string S1, .bool false]) W)) :
    Cp 100 #[.string s] w (fun e w' => e = .returned (.tuple #[.agg #[.string ⟨#[]⟩, .string ⟨#[]⟩, .int .i64 0], .string ⟨#[]⟩, .bool false]) ∧ Below w.heap.size w w') := by
  have R0 := Lib.hid (Rd.start w)
  go_enter Tryz.func100, Tryz.ntmps100
  go_wp2_with fail
  refine (C1.out _).mono ?_
  rintro e w1 ⟨rfl, hb1⟩
  have R1 := Lib.hid (R0.out.step hb1)
  obtain ⟨c0, c1, c2, fz⟩ := R1.out.hi.cells
  have f0 := fz 0
  clear fz hb1
  go_wp2_with fail
  refine (C2.out _).mono ?_
  rintro e w2 ⟨rfl, rfl⟩
  have R2 := Lib.hid (R1.out.put0 (.string ⟨#[]⟩))
  generalize w1.setCell ⟨w.heap.size + 1, 0, none⟩ (.string ⟨#[]⟩) = w2 at *
  clear c0 c1 c2 f0
  obtain ⟨c0, c1, c2, fz⟩ := R2.out.hi.cells
  have f0 := fz 0
  clear fz
  unfold zs at c1
  have HG := Lib.hid (show w2.heap[w.heap.size]? = some (.cells #[.string ⟨#[]⟩, .string ⟨#[]⟩, .int .i64 0] 97 (0, 0)) from R2.out.lo)
  have HB := Lib.hid R2.out.bw
  go_wp2_with (first | (refine wpList_store_row rfl 97 _ _ rfl w.heap.size #[.string ⟨#[]⟩, .string ⟨#[]⟩, .int .i64 0] rfl rfl 97 #[.string ⟨#[]⟩, .string ⟨#[]⟩, .int .i64 0] HG.out (by first | kernel_rfl | rfl) rfl (by first | kernel_rfl | rfl) ?_))
  exact bodyPost_ret (results_cell_two rfl _ _ _ _ _ rfl (run_loadVar_row _ w.heap.size 97 97 _ (0, 0) _ (setRow_heap _ _ _ _ _ _ HG.out) Tryz.underlying97 rfl (by first | kernel_rfl | rfl))) rfl ⟨rfl, below_setRow' HB.out (Nat.le_refl _) _⟩
set_option maxRecDepth 100000 in
set_option maxHeartbeats 2000000 in
theorem tcutDecimal_a_false (s : ByteArray) (w : World) (Wt S1 t0 Rt : ByteArray) (X : Int) (n2 : Wt.toList.isEmpty = false)
   (C1 : Hid (∀ W, Ct 112 #[.string s, .int .i64 10] (.tuple #[.string Wt, .string S1]) W))
   (C2 : Hid (∀ W, Cq 115 #[.string S1, .string ⟨#[46]⟩] (.tuple #[.string t0, .bool false]) W))
   (C3 : Hid (∀ W, Ct 116 #[.string S1] (.tuple #[.int .i64 X, .string Rt, .bool false]) W)) :
    Cp 100 #[.string s] w (fun e w' => e = .returned (.tuple #[.agg #[.string Wt, .string ⟨#[]⟩, .int .i64 0], .string S1, .bool true]) ∧ Below w.heap.size w w') := by
  have R0 := Lib.hid (Rd.start w)
  go_enter Tryz.func100, Tryz.ntmps100
  go_wp2_with fail
  refine (C1.out _).mono ?_
  rintro e w1 ⟨rfl, hb1⟩
  have R1 := Lib.hid (R0.out.step hb1)
  clear hb1
  obtain ⟨c0, c1, c2, fz⟩ := R1.out.hi.cells
  have f0 := fz 0
  have f1 := fz 1
  have f2 := fz 2
  clear fz
  try unfold zs at c0
  try unfold zs at c1
  go_wp2_with fail
  refine (C2.out _).mono ?_
  rintro e w2 ⟨rfl, rfl⟩
  have R2 := Lib.hid (R1.out.put0 (.string Wt))
  generalize w1.setCell ⟨w.heap.size + 1, 0, none⟩ (.string Wt) = w2 at *
  clear c0 c1 c2 f0 f1 f2
  obtain ⟨c0, c1, c2, fz⟩ := R2.out.hi.cells
  have f0 := fz 0
  have f1 := fz 1
  have f2 := fz 2
  clear fz
  try unfold zs at c0
  try unfold zs at c1
  go_wp2_with fail
  refine (C3.out _).mono ?_
  rintro e w3 ⟨rfl, hb3⟩
  have R3 := Lib.hid (R2.out.step hb3)
  clear hb3 c0 c1 c2 f0 f1 f2
  obtain ⟨c0, c1, c2, fz⟩ := R3.out.hi.cells
  have f0 := fz 0
  have f1 := fz 1
  have f2 := fz 2
  clear fz
  try unfold zs at c0
  try unfold zs at c1
  have HG := Lib.hid (show w3.heap[w.heap.size]? = some (.cells #[.string ⟨#[]⟩, .string ⟨#[]⟩, .int .i64 0] 97 (0, 0)) from R3.out.lo)
  have HB := Lib.hid R3.out.bw
  go_wp2_with (first | (refine wpList_store_row rfl 97 _ _ rfl w.heap.size #[.string Wt, .string ⟨#[]⟩, .int .i64 0] rfl rfl 97 #[.string ⟨#[]⟩, .string ⟨#[]⟩, .int .i64 0] HG.out (by first | kernel_rfl | rfl) rfl (by first | kernel_rfl | rfl) ?_))
  exact bodyPost_ret (results_cell_two rfl _ _ _ _ _ rfl (run_loadVar_row _ w.heap.size 97 97 _ (0, 0) _ (setRow_heap _ _ _ _ _ _ HG.out) Tryz.underlying97 rfl (by first | kernel_rfl | rfl))) rfl ⟨rfl, below_setRow' HB.out (Nat.le_refl _) _⟩
set_option maxRecDepth 100000 in
set_option maxHeartbeats 2000000 in
theorem tcutDecimal_a_true (s : ByteArray) (w : World) (Wt S1 t0 Rt : ByteArray) (X : Int) (n2 : Wt.toList.isEmpty = false)
   (C1 : Hid (∀ W, Ct 112 #[.string s, .int .i64 10] (.tuple #[.string Wt, .string S1]) W))
   (C2 : Hid (∀ W, Cq 115 #[.string S1, .string ⟨#[46]⟩] (.tuple #[.string t0, .bool false]) W))
   (C3 : Hid (∀ W, Ct 116 #[.string S1] (.tuple #[.int .i64 X, .string Rt, .bool true]) W)) :
    Cp 100 #[.string s] w (fun e w' => e = .returned (.tuple #[.agg #[.string Wt, .string ⟨#[]⟩, .int .i64 X], .string Rt, .bool true]) ∧ Below w.heap.size w w') := by
  have R0 := Lib.hid (Rd.start w)
  go_enter Tryz.func100, Tryz.ntmps100
  go_wp2_with fail
  refine (C1.out _).mono ?_
  rintro e w1 ⟨rfl, hb1⟩
  have R1 := Lib.hid (R0.out.step hb1)
  clear hb1
  obtain ⟨c0, c1, c2, fz⟩ := R1.out.hi.cells
  have f0 := fz 0
  have f1 := fz 1
  have f2 := fz 2
  clear fz
  try unfold zs at c0
  try unfold zs at c1
  go_wp2_with fail
  refine (C2.out _).mono ?_
  rintro e w2 ⟨rfl, rfl⟩
  have R2 := Lib.hid (R1.out.put0 (.string Wt))
  generalize w1.setCell ⟨w.heap.size + 1, 0, none⟩ (.string Wt) = w2 at *
  clear c0 c1 c2 f0 f1 f2
  obtain ⟨c0, c1, c2, fz⟩ := R2.out.hi.cells
  have f0 := fz 0
  have f1 := fz 1
  have f2 := fz 2
  clear fz
  try unfold zs at c0
  try unfold zs at c1
  go_wp2_with fail
  refine (C3.out _).mono ?_
  rintro e w3 ⟨rfl, hb3⟩
  have R3 := Lib.hid (R2.out.step hb3)
  clear hb3 c0 c1 c2 f0 f1 f2
  obtain ⟨c0, c1, c2, fz⟩ := R3.out.hi.cells
  have f0 := fz 0
  have f1 := fz 1
  have f2 := fz 2
  clear fz
  try unfold zs at c0
  try unfold zs at c1
  have HR := Lib.hid (R3.out.put2 (.int .i64 X))
  have HG := Lib.hid (show (w3.setCell ⟨w.heap.size + 1, 2, none⟩ (.int .i64 X)).heap[w.heap.size]? = some (.cells #[.string ⟨#[]⟩, .string ⟨#[]⟩, .int .i64 0] 97 (0, 0)) from HR.out.lo)
  have HB := Lib.hid HR.out.bw
  obtain ⟨d0, d1, d2, _⟩ := HR.out.hi.cells
  try unfold zs at d1
  go_wp2_with (first | (refine wpList_store_row rfl 97 _ _ rfl w.heap.size #[.string Wt, .string ⟨#[]⟩, .int .i64 X] rfl rfl 97 #[.string ⟨#[]⟩, .string ⟨#[]⟩, .int .i64 0] HG.out (by first | kernel_rfl | rfl) rfl (by first | kernel_rfl | rfl) ?_))
  exact bodyPost_ret (results_cell_two rfl _ _ _ _ _ rfl (run_loadVar_row _ w.heap.size 97 97 _ (0, 0) _ (setRow_heap _ _ _ _ _ _ HG.out) Tryz.underlying97 rfl (by first | kernel_rfl | rfl))) rfl ⟨rfl, below_setRow' HB.out (Nat.le_refl _) _⟩
set_option maxRecDepth 100000 in
set_option maxHeartbeats 2000000 in
theorem tcutDecimal_b0_false (s : ByteArray) (w : World) (Wt S1 S2 Bt Ft Rt : ByteArray) (X : Int) (n2 : Wt.toList.isEmpty = false)
   (C1 : Hid (∀ W, Ct 112 #[.string s, .int .i64 10] (.tuple #[.string Wt, .string S1]) W))
   (C2 : Hid (∀ W, Cq 115 #[.string S1, .string ⟨#[46]⟩] (.tuple #[.string Bt, .bool true]) W))
   (C4 : Hid (∀ W, Ct 112 #[.string Bt, .int .i64 10] (.tuple #[.string Ft, .string S2]) W))
   (C3 : Hid (∀ W, Ct 116 #[.string S2] (.tuple #[.int .i64 X, .string Rt, .bool false]) W)) :
    Cp 100 #[.string s] w (fun e w' => e = .returned (.tuple #[.agg #[.string Wt, .string Ft, .int .i64 0], .string S2, .bool true]) ∧ Below w.heap.size w w') := by
  have R0 := Lib.hid (Rd.start w)
  go_enter Tryz.func100, Tryz.ntmps100
  go_wp2_with fail
  refine (C1.out _).mono ?_
  rintro e w1 ⟨rfl, hb1⟩
  have R1 := Lib.hid (R0.out.step hb1)
  clear hb1
  obtain ⟨c0, c1, c2, fz⟩ := R1.out.hi.cells
  have f0 := fz 0
  have f1 := fz 1
  have f2 := fz 2
  clear fz
  try unfold zs at c0
  try unfold zs at c1
  go_wp2_with fail
  refine (C2.out _).mono ?_
  rintro e w2 ⟨rfl, rfl⟩
  have R2 := Lib.hid (R1.out.put0 (.string Wt))
  generalize w1.setCell ⟨w.heap.size + 1, 0, none⟩ (.string Wt) = w2 at *
  clear c0 c1 c2 f0 f1 f2
  obtain ⟨c0, c1, c2, fz⟩ := R2.out.hi.cells
  have f0 := fz 0
  have f1 := fz 1
  have f2 := fz 2
  clear fz
  try unfold zs at c0
  try unfold zs at c1
  go_wp2_with fail
  refine (C4.out _).mono ?_
  rintro e w3 ⟨rfl, hb3⟩
  have R3 := Lib.hid (R2.out.step hb3)
  clear hb3 c0 c1 c2 f0 f1 f2
  obtain ⟨c0, c1, c2, fz⟩ := R3.out.hi.cells
  have f0 := fz 0
  have f1 := fz 1
  have f2 := fz 2
  clear fz
  try unfold zs at c0
  try unfold zs at c1
  have R4 := Lib.hid (R3.out.put1 (.string Ft))
  obtain ⟨e0, e1, e2, ez⟩ := R4.out.hi.cells
  have g0 := ez 0
  have g1 := ez 1
  have g2 := ez 2
  clear ez
  go_wp2_with fail
  refine (C3.out _).mono ?_
  rintro e w5 ⟨rfl, hb5⟩
  have R5 := Lib.hid (R4.out.step hb5)
  clear hb5 c0 c1 c2 f0 f1 f2
  obtain ⟨c0, c1, c2, fz⟩ := R5.out.hi.cells
  have f0 := fz 0
  have f1 := fz 1
  have f2 := fz 2
  clear fz
  try unfold zs at c0
  try unfold zs at c1
  have HG := Lib.hid (show w5.heap[w.heap.size]? = some (.cells #[.string ⟨#[]⟩, .string ⟨#[]⟩, .int .i64 0] 97 (0, 0)) from R5.out.lo)
  have HB := Lib.hid R5.out.bw
  go_wp2_with (first | (refine wpList_store_row rfl 97 _ _ rfl w.heap.size #[.string Wt, .string Ft, .int .i64 0] rfl rfl 97 #[.string ⟨#[]⟩, .string ⟨#[]⟩, .int .i64 0] HG.out (by first | kernel_rfl | rfl) rfl (by first | kernel_rfl | rfl) ?_))
  exact bodyPost_ret (results_cell_two rfl _ _ _ _ _ rfl (run_loadVar_row _ w.heap.size 97 97 _ (0, 0) _ (setRow_heap _ _ _ _ _ _ HG.out) Tryz.underlying97 rfl (by first | kernel_rfl | rfl))) rfl ⟨rfl, below_setRow' HB.out (Nat.le_refl _) _⟩
set_option maxRecDepth 100000 in
set_option maxHeartbeats 2000000 in
theorem tcutDecimal_b0_true (s : ByteArray) (w : World) (Wt S1 S2 Bt Ft Rt : ByteArray) (X : Int) (n2 : Wt.toList.isEmpty = false)
   (C1 : Hid (∀ W, Ct 112 #[.string s, .int .i64 10] (.tuple #[.string Wt, .string S1]) W))
   (C2 : Hid (∀ W, Cq 115 #[.string S1, .string ⟨#[46]⟩] (.tuple #[.string Bt, .bool true]) W))
   (C4 : Hid (∀ W, Ct 112 #[.string Bt, .int .i64 10] (.tuple #[.string Ft, .string S2]) W))
   (C3 : Hid (∀ W, Ct 116 #[.string S2] (.tuple #[.int .i64 X, .string Rt, .bool true]) W)) :
    Cp 100 #[.string s] w (fun e w' => e = .returned (.tuple #[.agg #[.string Wt, .string Ft, .int .i64 X], .string Rt, .bool true]) ∧ Below w.heap.size w w') := by
  have R0 := Lib.hid (Rd.start w)
  go_enter Tryz.func100, Tryz.ntmps100
  go_wp2_with fail
  refine (C1.out _).mono ?_
  rintro e w1 ⟨rfl, hb1⟩
  have R1 := Lib.hid (R0.out.step hb1)
  clear hb1
  obtain ⟨c0, c1, c2, fz⟩ := R1.out.hi.cells
  have f0 := fz 0
  have f1 := fz 1
  have f2 := fz 2
  clear fz
  try unfold zs at c0
  try unfold zs at c1
  go_wp2_with fail
  refine (C2.out _).mono ?_
  rintro e w2 ⟨rfl, rfl⟩
  have R2 := Lib.hid (R1.out.put0 (.string Wt))
  generalize w1.setCell ⟨w.heap.size + 1, 0, none⟩ (.string Wt) = w2 at *
  clear c0 c1 c2 f0 f1 f2
  obtain ⟨c0, c1, c2, fz⟩ := R2.out.hi.cells
  have f0 := fz 0
  have f1 := fz 1
  have f2 := fz 2
  clear fz
  try unfold zs at c0
  try unfold zs at c1
  go_wp2_with fail
  refine (C4.out _).mono ?_
  rintro e w3 ⟨rfl, hb3⟩
  have R3 := Lib.hid (R2.out.step hb3)
  clear hb3 c0 c1 c2 f0 f1 f2
  obtain ⟨c0, c1, c2, fz⟩ := R3.out.hi.cells
  have f0 := fz 0
  have f1 := fz 1
  have f2 := fz 2
  clear fz
  try unfold zs at c0
  try unfold zs at c1
  have R4 := Lib.hid (R3.out.put1 (.string Ft))
  obtain ⟨e0, e1, e2, ez⟩ := R4.out.hi.cells
  have g0 := ez 0
  have g1 := ez 1
  have g2 := ez 2
  clear ez
  go_wp2_with fail
  refine (C3.out _).mono ?_
  rintro e w5 ⟨rfl, hb5⟩
  have R5 := Lib.hid (R4.out.step hb5)
  clear hb5 c0 c1 c2 f0 f1 f2
  obtain ⟨c0, c1, c2, fz⟩ := R5.out.hi.cells
  have f0 := fz 0
  have f1 := fz 1
  have f2 := fz 2
  clear fz
  try unfold zs at c0
  try unfold zs at c1
  have HR := Lib.hid (R5.out.put2 (.int .i64 X))
  have HG := Lib.hid (show (w5.setCell ⟨w.heap.size + 1, 2, none⟩ (.int .i64 X)).heap[w.heap.size]? = some (.cells #[.string ⟨#[]⟩, .string ⟨#[]⟩, .int .i64 0] 97 (0, 0)) from HR.out.lo)
  have HB := Lib.hid HR.out.bw
  obtain ⟨d0, d1, d2, _⟩ := HR.out.hi.cells
  try unfold zs at d1
  go_wp2_with (first | (refine wpList_store_row rfl 97 _ _ rfl w.heap.size #[.string Wt, .string Ft, .int .i64 X] rfl rfl 97 #[.string ⟨#[]⟩, .string ⟨#[]⟩, .int .i64 0] HG.out (by first | kernel_rfl | rfl) rfl (by first | kernel_rfl | rfl) ?_))
  exact bodyPost_ret (results_cell_two rfl _ _ _ _ _ rfl (run_loadVar_row _ w.heap.size 97 97 _ (0, 0) _ (setRow_heap _ _ _ _ _ _ HG.out) Tryz.underlying97 rfl (by first | kernel_rfl | rfl))) rfl ⟨rfl, below_setRow' HB.out (Nat.le_refl _) _⟩
set_option maxRecDepth 100000 in
set_option maxHeartbeats 2000000 in
theorem tcutDecimal_b1_false (s : ByteArray) (w : World) (S1 S2 Bt Ft Rt : ByteArray) (X : Int) (m2 : Ft.toList.isEmpty = false)
   (C1 : Hid (∀ W, Ct 112 #[.string s, .int .i64 10] (.tuple #[.string ⟨#[]⟩, .string S1]) W))
   (C2 : Hid (∀ W, Cq 115 #[.string S1, .string ⟨#[46]⟩] (.tuple #[.string Bt, .bool true]) W))
   (C4 : Hid (∀ W, Ct 112 #[.string Bt, .int .i64 10] (.tuple #[.string Ft, .string S2]) W))
   (C3 : Hid (∀ W, Ct 116 #[.string S2] (.tuple #[.int .i64 X, .string Rt, .bool false]) W)) :
    Cp 100 #[.string s] w (fun e w' => e = .returned (.tuple #[.agg #[.string ⟨#[]⟩, .string Ft, .int .i64 0], .string S2, .bool true]) ∧ Below w.heap.size w w') := by
  have R0 := Lib.hid (Rd.start w)
  go_enter Tryz.func100, Tryz.ntmps100
  go_wp2_with fail
  refine (C1.out _).mono ?_
  rintro e w1 ⟨rfl, hb1⟩
  have R1 := Lib.hid (R0.out.step hb1)
  clear hb1
  obtain ⟨c0, c1, c2, fz⟩ := R1.out.hi.cells
  have f0 := fz 0
  have f1 := fz 1
  have f2 := fz 2
  clear fz
  try unfold zs at c0
  try unfold zs at c1
  go_wp2_with fail
  refine (C2.out _).mono ?_
  rintro e w2 ⟨rfl, rfl⟩
  have R2 := Lib.hid (R1.out.put0 (.string ⟨#[]⟩))
  generalize w1.setCell ⟨w.heap.size + 1, 0, none⟩ (.string ⟨#[]⟩) = w2 at *
  clear c0 c1 c2 f0 f1 f2
  obtain ⟨c0, c1, c2, fz⟩ := R2.out.hi.cells
  have f0 := fz 0
  have f1 := fz 1
  have f2 := fz 2
  clear fz
  try unfold zs at c0
  try unfold zs at c1
  go_wp2_with fail
  refine (C4.out _).mono ?_
  rintro e w3 ⟨rfl, hb3⟩
  have R3 := Lib.hid (R2.out.step hb3)
  clear hb3 c0 c1 c2 f0 f1 f2
  obtain ⟨c0, c1, c2, fz⟩ := R3.out.hi.cells
  have f0 := fz 0
  have f1 := fz 1
  have f2 := fz 2
  clear fz
  try unfold zs at c0
  try unfold zs at c1
  have R4 := Lib.hid (R3.out.put1 (.string Ft))
  obtain ⟨e0, e1, e2, ez⟩ := R4.out.hi.cells
  have g0 := ez 0
  have g1 := ez 1
  have g2 := ez 2
  clear ez
  go_wp2_with fail
  refine (C3.out _).mono ?_
  rintro e w5 ⟨rfl, hb5⟩
  have R5 := Lib.hid (R4.out.step hb5)
  clear hb5 c0 c1 c2 f0 f1 f2
  obtain ⟨c0, c1, c2, fz⟩ := R5.out.hi.cells
  have f0 := fz 0
  have f1 := fz 1
  have f2 := fz 2
  clear fz
  try unfold zs at c0
  try unfold zs at c1
  have HG := Lib.hid (show w5.heap[w.heap.size]? = some (.cells #[.string ⟨#[]⟩, .string ⟨#[]⟩, .int .i64 0] 97 (0, 0)) from R5.out.lo)
  have HB := Lib.hid R5.out.bw
  go_wp2_with (first | (refine wpList_store_row rfl 97 _ _ rfl w.heap.size #[.string ⟨#[]⟩, .string Ft, .int .i64 0] rfl rfl 97 #[.string ⟨#[]⟩, .string ⟨#[]⟩, .int .i64 0] HG.out (by first | kernel_rfl | rfl) rfl (by first | kernel_rfl | rfl) ?_))
  exact bodyPost_ret (results_cell_two rfl _ _ _ _ _ rfl (run_loadVar_row _ w.heap.size 97 97 _ (0, 0) _ (setRow_heap _ _ _ _ _ _ HG.out) Tryz.underlying97 rfl (by first | kernel_rfl | rfl))) rfl ⟨rfl, below_setRow' HB.out (Nat.le_refl _) _⟩
set_option maxRecDepth 100000 in
set_option maxHeartbeats 2000000 in
theorem tcutDecimal_b1_true (s : ByteArray) (w : World) (S1 S2 Bt Ft Rt : ByteArray) (X : Int) (m2 : Ft.toList.isEmpty = false)
   (C1 : Hid (∀ W, Ct 112 #[.string s, .int .i64 10] (.tuple #[.string ⟨#[]⟩, .string S1]) W))
   (C2 : Hid (∀ W, Cq 115 #[.string S1, .string ⟨#[46]⟩] (.tuple #[.string Bt, .bool true]) W))
   (C4 : Hid (∀ W, Ct 112 #[.string Bt, .int .i64 10] (.tuple #[.string Ft, .string S2]) W))
   (C3 : Hid (∀ W, Ct 116 #[.string S2] (.tuple #[.int .i64 X, .string Rt, .bool true]) W)) :
    Cp 100 #[.string s] w (fun e w' => e = .returned (.tuple #[.agg #[.string ⟨#[]⟩, .string Ft, .int .i64 X], .string Rt, .bool true]) ∧ Below w.heap.size w w') := by
  have R0 := Lib.hid (Rd.start w)
  go_enter Tryz.func100, Tryz.ntmps100
  go_wp2_with fail
  refine (C1.out _).mono ?_
  rintro e w1 ⟨rfl, hb1⟩
  have R1 := Lib.hid (R0.out.step hb1)
  clear hb1
  obtain ⟨c0, c1, c2, fz⟩ := R1.out.hi.cells
  have f0 := fz 0
  have f1 := fz 1
  have f2 := fz 2
  clear fz
  try unfold zs at c0
  try unfold zs at c1
  go_wp2_with fail
  refine (C2.out _).mono ?_
  rintro e w2 ⟨rfl, rfl⟩
  have R2 := Lib.hid (R1.out.put0 (.string ⟨#[]⟩))
  generalize w1.setCell ⟨w.heap.size + 1, 0, none⟩ (.string ⟨#[]⟩) = w2 at *
  clear c0 c1 c2 f0 f1 f2
  obtain ⟨c0, c1, c2, fz⟩ := R2.out.hi.cells
  have f0 := fz 0
  have f1 := fz 1
  have f2 := fz 2
  clear fz
  try unfold zs at c0
  try unfold zs at c1
  go_wp2_with fail
  refine (C4.out _).mono ?_
  rintro e w3 ⟨rfl, hb3⟩
  have R3 := Lib.hid (R2.out.step hb3)
  clear hb3 c0 c1 c2 f0 f1 f2
  obtain ⟨c0, c1, c2, fz⟩ := R3.out.hi.cells
  have f0 := fz 0
  have f1 := fz 1
  have f2 := fz 2
  clear fz
  try unfold zs at c0
  try unfold zs at c1
  have R4 := Lib.hid (R3.out.put1 (.string Ft))
  obtain ⟨e0, e1, e2, ez⟩ := R4.out.hi.cells
  have g0 := ez 0
  have g1 := ez 1
  have g2 := ez 2
  clear ez
  go_wp2_with fail
  refine (C3.out _).mono ?_
  rintro e w5 ⟨rfl, hb5⟩
  have R5 := Lib.hid (R4.out.step hb5)
  clear hb5 c0 c1 c2 f0 f1 f2
  obtain ⟨c0, c1, c2, fz⟩ := R5.out.hi.cells
  have f0 := fz 0
  have f1 := fz 1
  have f2 := fz 2
  clear fz
  try unfold zs at c0
  try unfold zs at c1
  have HR := Lib.hid (R5.out.put2 (.int .i64 X))
  have HG := Lib.hid (show (w5.setCell ⟨w.heap.size + 1, 2, none⟩ (.int .i64 X)).heap[w.heap.size]? = some (.cells #[.string ⟨#[]⟩, .string ⟨#[]⟩, .int .i64 0] 97 (0, 0)) from HR.out.lo)
  have HB := Lib.hid HR.out.bw
  obtain ⟨d0, d1, d2, _⟩ := HR.out.hi.cells
  try unfold zs at d1
  go_wp2_with (first | (refine wpList_store_row rfl 97 _ _ rfl w.heap.size #[.string ⟨#[]⟩, .string Ft, .int .i64 X] rfl rfl 97 #[.string ⟨#[]⟩, .string ⟨#[]⟩, .int .i64 0] HG.out (by first | kernel_rfl | rfl) rfl (by first | kernel_rfl | rfl) ?_))
  exact bodyPost_ret (results_cell_two rfl _ _ _ _ _ rfl (run_loadVar_row _ w.heap.size 97 97 _ (0, 0) _ (setRow_heap _ _ _ _ _ _ HG.out) Tryz.underlying97 rfl (by first | kernel_rfl | rfl))) rfl ⟨rfl, below_setRow' HB.out (Nat.le_refl _) _⟩
set_option maxRecDepth 100000 in
set_option maxHeartbeats 2000000 in
theorem tcutDecimal_dot (s : ByteArray) (w : World) (S1 S2 Bt : ByteArray)
   (C1 : Hid (∀ W, Ct 112 #[.string s, .int .i64 10] (.tuple #[.string ⟨#[]⟩, .string S1]) W))
   (C2 : Hid (∀ W, Cq 115 #[.string S1, .string ⟨#[46]⟩] (.tuple #[.string Bt, .bool true]) W))
   (C4 : Hid (∀ W, Ct 112 #[.string Bt, .int .i64 10] (.tuple #[.string ⟨#[]⟩, .string S2]) W)) :
    Cp 100 #[.string s] w (fun e w' => e = .returned (.tuple #[.agg #[.string ⟨#[]⟩, .string ⟨#[]⟩, .int .i64 0], .string ⟨#[]⟩, .bool false]) ∧ Below w.heap.size w w') := by
  have R0 := Lib.hid (Rd.start w)
  go_enter Tryz.func100, Tryz.ntmps100
  go_wp2_with fail
  refine (C1.out _).mono ?_
  rintro e w1 ⟨rfl, hb1⟩
  have R1 := Lib.hid (R0.out.step hb1)
  clear hb1
  obtain ⟨c0, c1, c2, fz⟩ := R1.out.hi.cells
  have f0 := fz 0
  have f1 := fz 1
  have f2 := fz 2
  clear fz
  try unfold zs at c0
  try unfold zs at c1
  go_wp2_with fail
  refine (C2.out _).mono ?_
  rintro e w2 ⟨rfl, rfl⟩
  have R2 := Lib.hid (R1.out.put0 (.string ⟨#[]⟩))
  generalize w1.setCell ⟨w.heap.size + 1, 0, none⟩ (.string ⟨#[]⟩) = w2 at *
  clear c0 c1 c2 f0 f1 f2
  obtain ⟨c0, c1, c2, fz⟩ := R2.out.hi.cells
  have f0 := fz 0
  have f1 := fz 1
  have f2 := fz 2
  clear fz
  try unfold zs at c0
  try unfold zs at c1
  go_wp2_with fail
  refine (C4.out _).mono ?_
  rintro e w3 ⟨rfl, hb3⟩
  have R3 := Lib.hid (R2.out.step hb3)
  clear hb3 c0 c1 c2 f0 f1 f2
  obtain ⟨c0, c1, c2, fz⟩ := R3.out.hi.cells
  have f0 := fz 0
  have f1 := fz 1
  have f2 := fz 2
  clear fz
  try unfold zs at c0
  try unfold zs at c1
  have HG := Lib.hid (show w3.heap[w.heap.size]? = some (.cells #[.string ⟨#[]⟩, .string ⟨#[]⟩, .int .i64 0] 97 (0, 0)) from R3.out.lo)
  have HB := Lib.hid R3.out.bw
  go_wp2_with (first | (refine wpList_store_row rfl 97 _ _ rfl w.heap.size #[.string ⟨#[]⟩, .string ⟨#[]⟩, .int .i64 0] rfl rfl 97 #[.string ⟨#[]⟩, .string ⟨#[]⟩, .int .i64 0] HG.out (by first | kernel_rfl | rfl) rfl (by first | kernel_rfl | rfl) ?_))
  exact bodyPost_ret (results_cell_two rfl _ _ _ _ _ rfl (run_loadVar_row _ w.heap.size 97 97 _ (0, 0) _ (setRow_heap _ _ _ _ _ _ HG.out) Tryz.underlying97 rfl (by first | kernel_rfl | rfl))) rfl ⟨rfl, below_setRow' HB.out (Nat.le_refl _) _⟩


end Go.Proofs.YtjmplgbhjpldbaaGreatDoor
namespace Go.Proofs.YtjmplgbhjpldbaaGreatDoor
open Go.RowKit
theorem results_cell_tmp {fn : Func} {p t : Tmp} {ty : TypeId} (h : fn.results = #[.cell p ty, .tmp t]) (tmps : Array Value) (P : Program) (w : World) (a : Addr) (v : Value) (ha : tmps.getD p undef = .pointer (some a)) (hl : (loadVar ty a).run P w = .ok v w) :
  (results fn tmps).run P w = .ok (.tuple #[v, tmps.getD t undef]) w := by
 simp only [results, h]
 simp [-Array.getD_eq_getD_getElem?, ha, asAddr, hl]
theorem below_setRowK {B g : Nat} {a w : World} (h : Below B a w) (hg : B ≤ g) (c : Array Value) : Below B a (w.setRow g c) :=
 ⟨h.os, h.tape, h.output, by rw [setRow_size]; exact h.size, fun k hk => (setRow_other w g k c (by omega)).trans (h.block k hk)⟩
def TokE (o : Option Value) : Ending := match o with
 | none => .returned (.tuple #[tkV 0 ⟨#[]⟩ 0 false false 0 0, .bool false])
 | some v => .returned (.tuple #[v, .bool true])
structure TB (w wr : World) : Prop where
 bl : wr.heap[w.heap.size]? = some (.cells #[.int .i64 0, .string ⟨#[]⟩, .float .f64 0, .bool false, .bool false, .int .i64 0, .int .i64 0] 24 (0, 0))
 bw : Below w.heap.size w wr
 sz : w.heap.size + 1 ≤ wr.heap.size
theorem TB.start (w : World) : TB w (w.alloc (.cells #[.int .i64 0, .string ⟨#[]⟩, .float .f64 0, .bool false, .bool false, .int .i64 0, .int .i64 0] 24)) :=
 ⟨heap_alloc_last w _, (Below.refl _ _).alloc (Nat.le_refl _) _, by simp⟩
theorem TB.step {w w1 w2 : World} (h : TB w w1) (hb : Below w1.heap.size w1 w2) : TB w w2 :=
 ⟨(hb.block _ (by have := h.sz; omega)).trans h.bl, below_le h.bw hb, Nat.le_trans h.sz hb.size⟩
theorem TB.base {w w1 w2 : World} (h : TB w w1) (hb : Below (w.heap.size + 1) w1 w2) : TB w w2 :=
 ⟨(hb.block _ (by omega)).trans h.bl, h.bw.trans (hb.mono (by omega)), Nat.le_trans h.sz hb.size⟩
theorem TB.draw {w w1 : World} (h : TB w w1) (n : Nat) : TB w (w1.drewN n) := h.step (below_drewN' (Below.refl _ _) n)
theorem esc_short {l v : List Nat} {n : Nat} (h : escL l = some (v, n)) : v.length ≤ 1 := by
 cases l with
 | nil => cases h
 | cons c r =>
  rw [escL] at h
  split at h
  ·cases hx : hexA 0 2 r with
   | none => rw [hx] at h; cases h
   | some x => rw [hx] at h; cases h; simp
  ·split at h
   ·cases hx : hexA 0 4 r with
    | none => rw [hx] at h; cases h
    | some x => rw [hx] at h; cases h; simp
   ·split at h
    ·cases h; simp
    ·split at h
     ·split at h
      ·cases h
      ·cases h; simp
     ·split at h
      ·cases h
      ·cases h; simp
def quoV (k : Nat) (o : Option (List Nat × Nat)) : Option Value := o.map fun p => tkV 6 ⟨(bL p.1).toArray⟩ 0 false false 0 (k + 1 + p.2)
def quoR (q k j : Nat) (l : List Nat) (s : ByteArray) : Option (List Nat × Nat) := (strL q ((us s).drop j)).map fun p => (l ++ p.1, j - (k + 1) + p.2)
set_option maxRecDepth 100000 in
set_option maxHeartbeats 1000000 in
theorem xquoted_any (s : ByteArray) (k : Nat) (w : World) (hs : s.size ≤ 140737488355328) (hk : k < ln s) :
  Cp 51 #[.string s, .int .i64 k] w fun e w' => e = TokE (quoV k (strL (hd0 ((us s).drop k)) ((us s).drop (k + 1)))) ∧ Below w.heap.size w w' := by
 have hs63 : s.size ≤ maxLen := by unfold maxLen; omega
 obtain ⟨i0, hi, hz0, hz1, hz2⟩ := info_parts info_u16
 have hln := ln_le s
 have C0 := Lib.hid (fun W => xunit_any s k W hs63)
 have C1 := Lib.hid (fun (j : Nat) W => unitT_any s j W hs63)
 have CE := Lib.hid (fun (c : Nat) W => ends_n c W)
 have CX := Lib.hid (fun (B : Nat) (l : List Nat) (v : Value) (j : Nat) (hj : j ≤ ln s) W (H : Own16 B l v W) hB hl => xescape_any B l v s j W hs hj H hB hl)
 obtain ⟨q, hq⟩ : ∃ q, hd0 ((us s).drop k) = q := ⟨_, rfl⟩
 obtain ⟨R, hR⟩ : ∃ R, strL q ((us s).drop (k + 1)) = R := ⟨_, rfl⟩
 rw [hq] at C0 ⊢
 rw [hR]
 have HR := Lib.hid (show quoR q k (k + 1) [] s = R by unfold quoR; rw [hR]; cases R with | none => rfl | some p => simp)
 have T0 := Lib.hid (TB.start w)
 have hkl : (k : Int) < 140737488355328 := by omega
 have HL := Lib.hid hln
 have HS := Lib.hid hs
 clear hs hs63 hq hR hln
 go_enter Tryz.func51, Tryz.ntmps51
 go_wp2_with fail
 refine (C0.out _).mono ?_
 rintro e w' ⟨rfl, n0, rfl⟩
 have T1 := Lib.hid (T0.out.draw n0)
 go_wp2
 go_loopw [1, 7] (fun av lv wr => ∃ (j : Nat) (l : List Nat) (v : Value), av = .int .i64 j ∧ lv = v ∧ j ≤ ln s ∧ k + 1 ≤ j ∧ Hid (l.length ≤ j ∧ (∀ u ∈ l, u < 65536) ∧ quoR q k j l s = R ∧ TB w wr ∧ Own16 (w.heap.size + 1) l v wr)) (fun av _ _ => ln s - (intOf av).toNat)
 case atStart => exact ⟨k + 1, [], _, by go_num, rfl, by omega, by omega, Lib.hid ⟨by simp, by simp, HR.out, T1.out, Own16.nil _ _⟩⟩
 case round =>
  obtain ⟨j, l, v, rfl, rfl, hj, hkj, HJ⟩ := hrel
  obtain ⟨h1, h2, h3, T, H⟩ := HJ.out
  have H2 := Lib.hid h2
  have hlj : l.length ≤ 70368744177664 := by have := HL.out; have := HS.out; omega
  clear HJ h2
  rcases Nat.lt_or_ge j (ln s) with hlt | hge
  ·obtain ⟨c, hd1, hd2⟩ := drop_step (L := us s) (k := j) (by rw [us_length]; exact hlt)
   have hc : c < 65536 := us_lt s c (List.mem_of_mem_drop (by rw [hd1]; simp))
   have C2 := C1.out j
   rw [hd2, hd1] at C2
   have C2 := Lib.hid (show ∀ W, Cp 48 #[.string s, .int .i64 j] W fun e w' => e = .returned (.tuple #[.int .u16 (c : Nat), .bool true]) ∧ ∃ n, w' = W.drewN n from C2)
   have C3 := Lib.hid (CE.out c)
   have h4 : quoR q k j l s = (if enN c = true then none else if c = q then some ([], 1) else if c = 92 then
    match escL ((us s).drop (j + 1)) with
    | none => none
    | some (v, n) => (strL q (((us s).drop (j + 1)).drop n)).map fun p => (v ++ p.1, 1 + n + p.2)
    else (strL q ((us s).drop (j + 1))).map fun p => (c :: p.1, 1 + p.2)).map fun p => (l ++ p.1, j - (k + 1) + p.2) := by
    unfold quoR
    rw [hd1, str_cons]
   rw [h3] at h4
   clear hd1 hd2 h3
   cases he : enN c
   ·rw [he] at C3 h4
    rw [if_neg (by simp)] at h4
    clear he
    by_cases hcq : c = q
    ·subst hcq
     rw [if_pos rfl] at h4
     obtain ⟨m, hm⟩ : ∃ m, j - (k + 1) + 1 = m := ⟨_, rfl⟩
     have hm2 : k + 1 + m = j + 1 := by omega
     have h5 : R = some (l, m) := by rw [h4, ← hm]; simp
     subst h5
     clear h4 hm HR CX
     have CM := Lib.hid (fun W (HO : Own16 (w.heap.size + 1) l v W) => make_own HO H2.out (by omega))
     have HM := Lib.hid hm2
     clear hm2
     go_wp2_with fail
     refine (C2.out _).mono ?_
     rintro e w' ⟨rfl, n1, rfl⟩
     go_wp2_with fail
     refine (C3.out _).mono ?_
     rintro e w' ⟨rfl, rfl⟩
     go_wp2_with fail
     refine (CM.out _ (show Own16 (w.heap.size + 1) l v (wr.drewN n1) from H)).mono ?_
     rintro e w1 ⟨rfl, b1⟩
     have T2 := (T.draw n1).step b1
     have HG := Lib.hid T2.bl
     have HB := Lib.hid T2.bw
     clear T T2 b1 H
     go_wp2_with (first | (refine wpList_store_row rfl 24 _ _ rfl w.heap.size #[.int .i64 6, .string ⟨(bL l).toArray⟩, .float .f64 0, .bool false, .bool false, .int .i64 0, .int .i64 ((j : Int) + 1)] rfl rfl 24 #[.int .i64 0, .string ⟨#[]⟩, .float .f64 0, .bool false, .bool false, .int .i64 0, .int .i64 0] HG.out (by first | kernel_rfl | rfl) rfl (by first | kernel_rfl | rfl) ?_))
     refine bodyPost_ret (results_cell_tmp rfl _ _ _ _ _ rfl (run_loadVar_row _ w.heap.size 24 24 _ (0, 0) _ (setRow_heap _ _ _ _ _ _ HG.out) Tryz.underlying24 rfl (by first | kernel_rfl | rfl))) rfl ⟨?_, below_setRowK HB.out (Nat.le_refl _) _⟩
     have := HM.out
     simp [TokE, quoV, tkV]
     omega
    ·rw [if_neg hcq] at h4
     have g1 : ¬ ((c : Int) = (q : Int)) := by omega
     by_cases h92 : c = 92
     ·subst h92
      rw [if_pos rfl] at h4
      have C4 := CX.out (w.heap.size + 1) l v (j + 1) (by omega)
      cases hE : escL ((us s).drop (j + 1)) with
      | none =>
       rw [hE] at C4 h4
       obtain rfl : R = none := h4
       clear hE h4
       have C4 := Lib.hid (show ∀ W, Own16 (w.heap.size + 1) l v W → w.heap.size + 1 ≤ W.heap.size → Cp 77 #[v, .string s, .int .i64 ((j : Int) + 1)] W fun e w' => ∃ v' a, e = .returned (.tuple #[v', .int .i64 a, .bool false]) ∧ Below (w.heap.size + 1) W w' from fun W h1 h2 => (C4 W h1 h2 (by omega)).mono fun e w' ⟨⟨v', a, he⟩, hb⟩ => ⟨v', a, he, hb⟩)
       clear HR CX h1
       go_wp2_with fail
       refine (C2.out _).mono ?_
       rintro e w' ⟨rfl, n1, rfl⟩
       go_wp2_with fail
       refine (C3.out _).mono ?_
       rintro e w' ⟨rfl, rfl⟩
       go_wp2_with fail
       refine (C4.out _ (show Own16 (w.heap.size + 1) l v (wr.drewN n1) from H) (T.draw n1).sz).mono ?_
       rintro e w1 ⟨v', a, rfl, b1⟩
       have T2 := (T.draw n1).base b1
       have HG := Lib.hid T2.bl
       have HB := Lib.hid T2.bw
       clear T T2 b1 H
       go_wp2_with (first | (refine wpList_store_row rfl 24 _ _ rfl w.heap.size #[.int .i64 0, .string ⟨#[]⟩, .float .f64 0, .bool false, .bool false, .int .i64 0, .int .i64 0] rfl rfl 24 #[.int .i64 0, .string ⟨#[]⟩, .float .f64 0, .bool false, .bool false, .int .i64 0, .int .i64 0] HG.out (by first | kernel_rfl | rfl) rfl (by first | kernel_rfl | rfl) ?_))
       refine bodyPost_ret (results_cell_tmp rfl _ _ _ _ _ rfl (run_loadVar_row _ w.heap.size 24 24 _ (0, 0) _ (setRow_heap _ _ _ _ _ _ HG.out) Tryz.underlying24 rfl (by first | kernel_rfl | rfl))) rfl ⟨?_, below_setRowK HB.out (Nat.le_refl _) _⟩
       rfl
      | some p =>
       obtain ⟨u, m⟩ := p
       have hm := esc_len hE
       rw [List.length_drop, us_length] at hm
       have hu := esc_lt (fun x hx => us_lt s x (List.mem_of_mem_drop hx)) hE
       have hu1 := esc_short hE
       rw [hE] at C4 h4
       obtain ⟨j2, hj2⟩ : ∃ j2, j + 1 + m = j2 := ⟨_, rfl⟩
       have C4 := Lib.hid (show ∀ W, Own16 (w.heap.size + 1) l v W → w.heap.size + 1 ≤ W.heap.size → Cp 77 #[v, .string s, .int .i64 ((j : Int) + 1)] W fun e w' => ∃ v', e = .returned (.tuple #[v', .int .i64 (j2 : Nat), .bool true]) ∧ Own16 (w.heap.size + 1) (l ++ u) v' w' ∧ Below (w.heap.size + 1) W w' from fun W h1 h2 => (C4 W h1 h2 (by omega)).mono fun e w' ⟨⟨v', he, ho⟩, hb⟩ => ⟨v', by rw [he, ← hj2], ho, hb⟩)
       have HN : Hid (quoR q k j2 (l ++ u) s = R) := Lib.hid (by
        rw [h4]
        unfold quoR
        simp only []
        rw [List.drop_drop, hj2]
        cases strL q ((us s).drop j2) with
        | none => rfl
        | some p => simp; omega)
       have HU : Hid ((l ++ u).length ≤ j2 ∧ ∀ x ∈ l ++ u, x < 65536) := Lib.hid ⟨by rw [List.length_append]; omega, fun x hx => by
        rcases List.mem_append.1 hx with h | h
        ·exact H2.out x h
        ·exact hu x h⟩
       have hj3 : j2 ≤ ln s := by omega
       have hj4 : k + 1 ≤ j2 := by omega
       have hj5 : j < j2 := by omega
       clear hE h4 hu hu1 hm hj2 HR CX h1 h2
       go_wp2_with fail
       refine (C2.out _).mono ?_
       rintro e w' ⟨rfl, n1, rfl⟩
       go_wp2_with fail
       refine (C3.out _).mono ?_
       rintro e w' ⟨rfl, rfl⟩
       go_wp2_with fail
       refine (C4.out _ (show Own16 (w.heap.size + 1) l v (wr.drewN n1) from H) (T.draw n1).sz).mono ?_
       rintro e w1 ⟨v', rfl, o1, b1⟩
       have T2 := (T.draw n1).base b1
       have HJ2 : Hid ((l ++ u).length ≤ j2 ∧ (∀ x ∈ l ++ u, x < 65536) ∧ quoR q k j2 (l ++ u) s = R ∧ TB w w1 ∧ Own16 (w.heap.size + 1) (l ++ u) v' w1) := Lib.hid ⟨HU.out.1, HU.out.2, HN.out, T2, o1⟩
       clear T T2 b1 H o1
       go_wp2
       go_roundw
       case rel => exact ⟨j2, l ++ u, v', rfl, rfl, hj3, hj4, HJ2⟩
       case measure => simp [intOf]; omega
     ·rw [if_neg h92] at h4
      have g2 : ¬ ((c : Int) = 92) := by omega
      have HN : Hid (quoR q k (j + 1) (l ++ [c]) s = R) := Lib.hid (by
       rw [h4]
       unfold quoR
       cases strL q ((us s).drop (j + 1)) with
       | none => rfl
       | some p => simp; omega)
      have HU : Hid ((l ++ [c]).length ≤ j + 1 ∧ ∀ x ∈ l ++ [c], x < 65536) := Lib.hid ⟨by rw [List.length_append, List.length_singleton]; omega, fun x hx => by
       rcases List.mem_append.1 hx with h | h
       ·exact H2.out x h
       ·simp at h; omega⟩
      clear h4 hcq h92 HR CX hc
      go_wp2_with fail
      refine (C2.out _).mono ?_
      rintro e w' ⟨rfl, n1, rfl⟩
      go_wp2_with fail
      refine (C3.out _).mono ?_
      rintro e w' ⟨rfl, rfl⟩
      go_wp2_with (at_builtin; refine wpList_append_own _ rfl _ _ 42 rfl (w.heap.size + 1) 47 i0 (.int .u16 0) 1 2 Tryz.underlying42 hi hz0 hz1 hz2 rfl (by decide) _ _ _ rfl (World.ownsRow.alloc (w := (wr.drewN (n1))) H _) ⟨(wr.drewN (n1)).heap.size, 0, none⟩ 1 1 [.int .u16 (c : Nat)] rfl rfl ?c1 ?c2 ?c3 ?c4 ?c5 ?_)
      case c1 => exact (cell_one_new _ _ _)
      case c2 => simp [Value.oneCell']
      case c3 => simp [maxLen]; omega
      case c4 => simp; omega
      case c5 => simp; omega
      intro v' w1 hown hg _
      have hbw : Below (w.heap.size + 1) wr w1 := ((below_drewN' (Below.refl _ wr) n1).alloc (by simpa using T.sz) _).grown hg (by have := T.sz; simp; omega) (fun j hj => (World.ownsRow.lt H j hj).1)
      have T2 := T.base hbw
      have HJ2 : Hid ((l ++ [c]).length ≤ j + 1 ∧ (∀ x ∈ l ++ [c], x < 65536) ∧ quoR q k (j + 1) (l ++ [c]) s = R ∧ TB w w1 ∧ Own16 (w.heap.size + 1) (l ++ [c]) v' w1) := Lib.hid ⟨HU.out.1, HU.out.2, HN.out, T2, by simpa [Own16] using hown⟩
      clear T T2 hbw hown hg H
      go_wp2
      go_roundw
      case rel => exact ⟨j + 1, l ++ [c], v', by go_num, rfl, hlt, by omega, HJ2⟩
      case measure => simp [intOf]; omega
   ·rw [he] at C3 h4
    rw [if_pos rfl] at h4
    obtain rfl : R = none := h4
    clear he h4 HR CX
    go_wp2_with fail
    refine (C2.out _).mono ?_
    rintro e w' ⟨rfl, n1, rfl⟩
    go_wp2_with fail
    refine (C3.out _).mono ?_
    rintro e w' ⟨rfl, rfl⟩
    have T2 := T.draw n1
    have HG := Lib.hid T2.bl
    have HB := Lib.hid T2.bw
    clear T T2 H
    go_wp2_with (first | (refine wpList_store_row rfl 24 _ _ rfl w.heap.size #[.int .i64 0, .string ⟨#[]⟩, .float .f64 0, .bool false, .bool false, .int .i64 0, .int .i64 0] rfl rfl 24 #[.int .i64 0, .string ⟨#[]⟩, .float .f64 0, .bool false, .bool false, .int .i64 0, .int .i64 0] HG.out (by first | kernel_rfl | rfl) rfl (by first | kernel_rfl | rfl) ?_))
    refine bodyPost_ret (results_cell_tmp rfl _ _ _ _ _ rfl (run_loadVar_row _ w.heap.size 24 24 _ (0, 0) _ (setRow_heap _ _ _ _ _ _ HG.out) Tryz.underlying24 rfl (by first | kernel_rfl | rfl))) rfl ⟨?_, below_setRowK HB.out (Nat.le_refl _) _⟩
    rfl
  ·have hd : (us s).drop j = [] := List.drop_eq_nil_iff.2 (by rw [us_length]; exact hge)
   have C2 := C1.out j
   rw [hd] at C2
   have C2 := Lib.hid (show ∀ W, Cp 48 #[.string s, .int .i64 j] W fun e w' => e = .returned (.tuple #[.int .u16 0, .bool false]) ∧ ∃ n, w' = W.drewN n from C2)
   obtain rfl : R = none := by rw [← h3]; unfold quoR; rw [hd]; rfl
   clear hd h3 HR CX
   go_wp2_with fail
   refine (C2.out _).mono ?_
   rintro e w' ⟨rfl, n1, rfl⟩
   have T2 := T.draw n1
   have HG := Lib.hid T2.bl
   have HB := Lib.hid T2.bw
   clear T T2 H
   go_wp2_with (first | (refine wpList_store_row rfl 24 _ _ rfl w.heap.size #[.int .i64 0, .string ⟨#[]⟩, .float .f64 0, .bool false, .bool false, .int .i64 0, .int .i64 0] rfl rfl 24 #[.int .i64 0, .string ⟨#[]⟩, .float .f64 0, .bool false, .bool false, .int .i64 0, .int .i64 0] HG.out (by first | kernel_rfl | rfl) rfl (by first | kernel_rfl | rfl) ?_))
   refine bodyPost_ret (results_cell_tmp rfl _ _ _ _ _ rfl (run_loadVar_row _ w.heap.size 24 24 _ (0, 0) _ (setRow_heap _ _ _ _ _ _ HG.out) Tryz.underlying24 rfl (by first | kernel_rfl | rfl))) rfl ⟨?_, below_setRowK HB.out (Nat.le_refl _) _⟩
   rfl


end Go.Proofs.YtjmplgbhjpldbaaGreatDoor
namespace Go.Proofs.YtjmplgbhjpldbaaGreatDoor
open Go.RowKit
theorem tw_next (f : Nat → Bool) (h0 : f 0 = false) (L : List Nat) (j : Nat) : ((L.drop j).takeWhile f).length = if f (hd0 (L.drop j)) = true then 1 + ((L.drop (j + 1)).takeWhile f).length else 0 := by
 rcases hd : L.drop j with _ | ⟨c, r⟩
 ·have : hd0 ([] : List Nat) = 0 := rfl
  rw [this, h0]
  rfl
 ·have h1 : L.drop (j + 1) = r := by rw [← List.drop_drop, hd]; rfl
  have h2 : hd0 (c :: r) = c := rfl
  rw [h1, h2, List.takeWhile_cons]
  cases f c
  ·rfl
  ·simp; omega
theorem tw_le (f : Nat → Bool) (L : List Nat) (j : Nat) (hj : j ≤ L.length) : j + ((L.drop j).takeWhile f).length ≤ L.length := by
 have := (List.takeWhile_sublist f (l := L.drop j)).length_le
 rw [List.length_drop] at this
 omega
theorem tw_drop (f : Nat → Bool) (L : List Nat) (j : Nat) : L.drop (j + ((L.drop j).takeWhile f).length) = (L.drop j).dropWhile f := by
 rw [← List.drop_drop]
 have h := List.takeWhile_append_dropWhile (p := f) (l := L.drop j)
 generalize (L.drop j).takeWhile f = A at h ⊢
 generalize (L.drop j).dropWhile f = D at h ⊢
 rw [← h, List.drop_left]
theorem hd0_pos {L : List Nat} {j c : Nat} (hc : c ≠ 0) (h : hd0 (L.drop j) = c) : j + 1 ≤ L.length := by
 rcases Nat.lt_or_ge j L.length with h1 | h1
 ·exact h1
 ·rw [List.drop_eq_nil_iff.2 h1] at h
  exact absurd h.symm hc
set_option maxRecDepth 100000 in
set_option maxHeartbeats 1000000 in
theorem xdec_end (s : ByteArray) (k : Nat) (w : World) (hs : s.size ≤ 140737488355328) (hk : k ≤ ln s) :
  Cp 96 #[.string s, .int .i64 k, .func (.func 52) #[] #[]] w fun e w' => e = .returned (.int .i64 ((k + (((us s).drop k).takeWhile dg10).length : Nat) : Int)) ∧ ∃ n, w' = w.drewN n := by
 have hs63 : s.size ≤ maxLen := by unfold maxLen; omega
 have hln := ln_le s
 have hll : (ln s : Int) ≤ 70368744177664 := by omega
 have C1 := Lib.hid (fun (j : Nat) W => xunit_any s j W hs63)
 have C2 := Lib.hid (fun (c : Nat) W => xdecimal_any c W)
 obtain ⟨R, hR⟩ : ∃ R, k + (((us s).drop k).takeWhile dg10).length = R := ⟨_, rfl⟩
 rw [hR]
 have HR := Lib.hid hR
 clear hs hs63 hR hln
 go_enter Tryz.func96, Tryz.ntmps96
 go_wp2
 go_loopw [1] (fun av wr => ∃ (j : Nat), av = .int .i64 j ∧ j ≤ ln s ∧ Hid (j + (((us s).drop j).takeWhile dg10).length = R) ∧ ∃ n, wr = w.drewN n) (fun av _ => ln s - (intOf av).toNat)
 case atStart => exact ⟨k, rfl, hk, HR, 0, rfl⟩
 case round =>
  obtain ⟨j, rfl, hj, HJ, n0, rfl⟩ := hrel
  have h1 := HJ.out
  rw [tw_next dg10 (by decide)] at h1
  obtain ⟨c, hc⟩ : ∃ c, hd0 ((us s).drop j) = c := ⟨_, rfl⟩
  have C3 := C1.out j
  rw [hc] at h1 C3
  have C3 := Lib.hid C3
  have C4 := C2.out c
  cases hb : dg10 c
  ·rw [hb] at C4 h1
   rw [if_neg (by simp), Nat.add_zero] at h1
   subst h1
   have C4 := Lib.hid C4
   clear hb hc HJ HR
   go_wp2_with fail
   refine (C3.out _).mono ?_
   rintro e w' ⟨rfl, n1, rfl⟩
   go_wp2_with fail
   refine (C4.out _).mono ?_
   rintro e w' ⟨rfl, rfl⟩
   go_wp2
   go_ret
   exact ⟨rfl, n0 + n1, by first | rfl | simp⟩
  ·rw [hb] at C4 h1
   rw [if_pos rfl] at h1
   have hlt : j + 1 ≤ ln s := by
    have := hd0_pos (c := c) (by rintro rfl; revert hb; decide) hc
    rw [us_length] at this
    exact this
   have HJ2 : Hid (j + 1 + (((us s).drop (j + 1)).takeWhile dg10).length = R) := Lib.hid (by omega)
   have C4 := Lib.hid C4
   clear hb hc HJ h1
   go_wp2_with fail
   refine (C3.out _).mono ?_
   rintro e w' ⟨rfl, n1, rfl⟩
   go_wp2_with fail
   refine (C4.out _).mono ?_
   rintro e w' ⟨rfl, rfl⟩
   go_wp2
   go_roundw
   case rel => exact ⟨j + 1, by go_num, hlt, HJ2, n0 + n1, by first | rfl | simp⟩
   case measure => simp [intOf]; omega
set_option maxRecDepth 100000 in
set_option maxHeartbeats 1000000 in
theorem xhxd_end (s : ByteArray) (k : Nat) (w : World) (hs : s.size ≤ 140737488355328) (hk : k ≤ ln s) :
  Cp 96 #[.string s, .int .i64 k, .func (.func 97) #[] #[]] w fun e w' => e = .returned (.int .i64 ((k + (((us s).drop k).takeWhile hx16).length : Nat) : Int)) ∧ ∃ n, w' = w.drewN n := by
 have hs63 : s.size ≤ maxLen := by unfold maxLen; omega
 have hln := ln_le s
 have hll : (ln s : Int) ≤ 70368744177664 := by omega
 have C1 := Lib.hid (fun (j : Nat) W => xunit_any s j W hs63)
 have C2 := Lib.hid (fun (c : Nat) W => xhexadecimal_any c W)
 obtain ⟨R, hR⟩ : ∃ R, k + (((us s).drop k).takeWhile hx16).length = R := ⟨_, rfl⟩
 rw [hR]
 have HR := Lib.hid hR
 clear hs hs63 hR hln
 go_enter Tryz.func96, Tryz.ntmps96
 go_wp2
 go_loopw [1] (fun av wr => ∃ (j : Nat), av = .int .i64 j ∧ j ≤ ln s ∧ Hid (j + (((us s).drop j).takeWhile hx16).length = R) ∧ ∃ n, wr = w.drewN n) (fun av _ => ln s - (intOf av).toNat)
 case atStart => exact ⟨k, rfl, hk, HR, 0, rfl⟩
 case round =>
  obtain ⟨j, rfl, hj, HJ, n0, rfl⟩ := hrel
  have h1 := HJ.out
  rw [tw_next hx16 (by decide)] at h1
  obtain ⟨c, hc⟩ : ∃ c, hd0 ((us s).drop j) = c := ⟨_, rfl⟩
  have C3 := C1.out j
  rw [hc] at h1 C3
  have C3 := Lib.hid C3
  have C4 := C2.out c
  cases hb : hx16 c
  ·rw [hb] at C4 h1
   rw [if_neg (by simp), Nat.add_zero] at h1
   subst h1
   have C4 := Lib.hid C4
   clear hb hc HJ HR
   go_wp2_with fail
   refine (C3.out _).mono ?_
   rintro e w' ⟨rfl, n1, rfl⟩
   go_wp2_with fail
   refine (C4.out _).mono ?_
   rintro e w' ⟨rfl, rfl⟩
   go_wp2
   go_ret
   exact ⟨rfl, n0 + n1, by first | rfl | simp⟩
  ·rw [hb] at C4 h1
   rw [if_pos rfl] at h1
   have hlt : j + 1 ≤ ln s := by
    have := hd0_pos (c := c) (by rintro rfl; revert hb; decide) hc
    rw [us_length] at this
    exact this
   have HJ2 : Hid (j + 1 + (((us s).drop (j + 1)).takeWhile hx16).length = R) := Lib.hid (by omega)
   have C4 := Lib.hid C4
   clear hb hc HJ h1
   go_wp2_with fail
   refine (C3.out _).mono ?_
   rintro e w' ⟨rfl, n1, rfl⟩
   go_wp2_with fail
   refine (C4.out _).mono ?_
   rintro e w' ⟨rfl, rfl⟩
   go_wp2
   go_roundw
   case rel => exact ⟨j + 1, by go_num, hlt, HJ2, n0 + n1, by first | rfl | simp⟩
   case measure => simp [intOf]; omega
/-! ### numberEnd -/
theorem hd0_head {l : List Nat} {c : Nat} (hc : c ≠ 0) : hd0 l = c ↔ l.head? = some c := by
 cases l with
 | nil => simp [hd0]; omega
 | cons a r => simp [hd0]
theorem num_dot {L : List Nat} {k : Nat} (hk : k ≤ L.length) {p1 : Nat} (h1 : k + ((L.drop k).takeWhile dg10).length = p1) :
  p1 ≤ L.length ∧ (hd0 (L.drop p1) ≠ 46 → L.drop p1 = dT (L.drop k)) ∧
  (hd0 (L.drop p1) = 46 → p1 + 1 ≤ L.length ∧ L.drop (p1 + 1 + ((L.drop (p1 + 1)).takeWhile dg10).length) = dT (L.drop k) ∧ p1 + 1 + ((L.drop (p1 + 1)).takeWhile dg10).length ≤ L.length) := by
 have e1 : L.drop p1 = aft10 (L.drop k) := by rw [← h1]; exact tw_drop dg10 L k
 refine ⟨by rw [← h1]; exact tw_le dg10 L k hk, fun h => ?_, fun h => ?_⟩
 ·unfold dT dotB
  rw [e1] at h ⊢
  rw [if_neg]
  intro h2
  exact h ((hd0_head (by omega)).2 (by simpa using h2))
 ·have h3 := hd0_pos (by omega) h
  refine ⟨h3, ?_, tw_le dg10 L _ h3⟩
  rw [tw_drop dg10 L (p1 + 1), ← List.tail_drop]
  unfold dT dotB
  rw [e1] at h ⊢
  rw [if_pos (by rw [(hd0_head (by omega)).1 h]; rfl)]
  rfl
theorem num_exp {L : List Nat} {k p2 : Nat} (hk : k ≤ L.length) (hx : hxA (L.drop k) = false) (h2 : L.drop p2 = dT (L.drop k)) (hp : p2 ≤ L.length) :
  (hd0 (L.drop p2) ≠ 101 ∧ hd0 (L.drop p2) ≠ 69 → k + numP (L.drop k) = p2) ∧
  (hd0 (L.drop p2) = 101 ∨ hd0 (L.drop p2) = 69 → p2 + 1 ≤ L.length ∧
   (hd0 (L.drop (p2 + 1)) = 43 ∨ hd0 (L.drop (p2 + 1)) = 45 → p2 + 2 ≤ L.length ∧ k + numP (L.drop k) = p2 + 2 + ((L.drop (p2 + 2)).takeWhile dg10).length) ∧
   (hd0 (L.drop (p2 + 1)) ≠ 43 ∧ hd0 (L.drop (p2 + 1)) ≠ 45 → k + numP (L.drop k) = p2 + 1 + ((L.drop (p2 + 1)).takeWhile dg10).length)) := by
 have hlen : ∀ p, p ≤ L.length → ∀ X, L.drop p = X → L.length - k + p = L.length - k + L.length - X.length := fun p hp X h => by
  have := congrArg List.length h
  rw [List.length_drop] at this
  omega
 unfold numP
 rw [hx, if_neg (by simp), ← h2, List.length_drop]
 refine ⟨fun ⟨g1, g2⟩ => ?_, fun g => ?_⟩
 ·rw [if_neg, List.length_drop]
  ·have : k ≤ p2 := by
    have h3 : (L.drop p2).length ≤ (L.drop k).length := by
     rw [h2]
     obtain ⟨X, hX⟩ := dT_suf (L.drop k)
     have := congrArg List.length hX
     rw [List.length_append] at this
     omega
    rw [List.length_drop, List.length_drop] at h3
    omega
   omega
  ·rintro (h | h)
   ·exact g1 ((hd0_head (by omega)).2 h)
   ·exact g2 ((hd0_head (by omega)).2 h)
 ·have hk2 : k ≤ p2 := by
   have h3 : (L.drop p2).length ≤ (L.drop k).length := by
    rw [h2]
    obtain ⟨X, hX⟩ := dT_suf (L.drop k)
    have := congrArg List.length hX
    rw [List.length_append] at this
    omega
   rw [List.length_drop, List.length_drop] at h3
   omega
  have hp1 : p2 + 1 ≤ L.length := by
   rcases g with g | g
   ·exact hd0_pos (by omega) g
   ·exact hd0_pos (by omega) g
  rw [if_pos (by rcases g with g | g; exact .inl ((hd0_head (by omega)).1 g); exact .inr ((hd0_head (by omega)).1 g))]
  refine ⟨hp1, fun g2 => ?_, fun ⟨g2, g3⟩ => ?_⟩
  ·have hp2 : p2 + 2 ≤ L.length := by
    rcases g2 with g2 | g2
    ·exact hd0_pos (j := p2 + 1) (by omega) g2
    ·exact hd0_pos (j := p2 + 1) (by omega) g2
   refine ⟨hp2, ?_⟩
   have e : expR (L.drop p2) = L.drop (p2 + 2 + ((L.drop (p2 + 2)).takeWhile dg10).length) := by
    rw [tw_drop dg10 L (p2 + 2)]
    unfold expR unsg
    rw [List.tail_drop, if_pos (by rcases g2 with g2 | g2; exact .inr ((hd0_head (by omega)).1 g2); exact .inl ((hd0_head (by omega)).1 g2)), List.tail_drop]
    rfl
   rw [e, List.length_drop]
   have := tw_le dg10 L (p2 + 2) hp2
   omega
  ·have e : expR (L.drop p2) = L.drop (p2 + 1 + ((L.drop (p2 + 1)).takeWhile dg10).length) := by
    rw [tw_drop dg10 L (p2 + 1)]
    unfold expR unsg
    rw [List.tail_drop, if_neg]
    ·rfl
    ·rintro (h | h)
     ·exact g3 ((hd0_head (by omega)).2 h)
     ·exact g2 ((hd0_head (by omega)).2 h)
   rw [e, List.length_drop]
   have := tw_le dg10 L (p2 + 1) hp1
   omega
theorem hxA_hd (L : List Nat) (k : Nat) : hxA (L.drop k) = (hd0 (L.drop k) == 48 && (hd0 (L.drop (k + 1)) == 120 || hd0 (L.drop (k + 1)) == 88)) := by
 unfold hxA
 rw [List.tail_drop]
 have h : ∀ (l : List Nat) (c : Nat), c ≠ 0 → (l.head? == some c) = (hd0 l == c) := fun l c hc => by
  rw [Bool.eq_iff_iff]
  simp only [beq_iff_eq]
  exact (hd0_head hc).symm
 rw [h _ _ (by omega), h _ _ (by omega), h _ _ (by omega)]
set_option maxRecDepth 100000 in
set_option maxHeartbeats 12000000 in
theorem xnumberEnd_hex (s : ByteArray) (k : Nat) (w : World) (hs : s.size ≤ 140737488355328) (hk : k ≤ ln s) (hx : hxA ((us s).drop k) = true) :
  Cp 78 #[.string s, .int .i64 k] w fun e w' => e = .returned (.int .i64 ((k + numP ((us s).drop k) : Nat) : Int)) ∧ ∃ n, w' = w.drewN n := by
 have hs63 : s.size ≤ maxLen := by unfold maxLen; omega
 have hln := ln_le s
 have hll : (ln s : Int) ≤ 70368744177664 := by omega
 have hkl : (k : Int) ≤ 70368744177664 := by omega
 have CU : ∀ p W, Cp 31 #[.string s, .int .i64 ((p : Nat) : Int)] W fun e w' => e = .returned (.int .u16 ((hd0 ((us s).drop p) : Nat) : Int)) ∧ ∃ n, w' = W.drewN n := fun p W => xunit_any s p W hs63
 have CU1 : ∀ p W, Cp 31 #[.string s, .int .i64 (((p : Nat) : Int) + 1)] W fun e w' => e = .returned (.int .u16 ((hd0 ((us s).drop (p + 1)) : Nat) : Int)) ∧ ∃ n, w' = W.drewN n := fun p W => xunit_any s (p + 1) W hs63
 obtain ⟨c, hc⟩ : ∃ c, hd0 ((us s).drop k) = c := ⟨_, rfl⟩
 obtain ⟨d, hd⟩ : ∃ d, hd0 ((us s).drop (k + 1)) = d := ⟨_, rfl⟩
 have C1 := CU1 k
 have C2 := CU k
 rw [hd] at C1
 rw [hc] at C2
 rw [hxA_hd, hc, hd] at hx
 have h48 : c = 48 := by
  rw [Bool.and_eq_true] at hx
  simpa using hx.1
 have hxX : d = 120 ∨ d = 88 := by
  rw [Bool.and_eq_true] at hx
  simpa using hx.2
 have hk2 : k + 2 ≤ ln s := by
  have := hd0_pos (L := us s) (j := k + 1) (c := d) (by omega) hd
  rw [us_length] at this
  exact this
 have C3 : ∀ W, Cp 96 #[.string s, .int .i64 ((k : Int) + 2), .func (.func 97) #[] #[]] W fun e w' => e = .returned (.int .i64 ((k + numP ((us s).drop k) : Nat) : Int)) ∧ ∃ n, w' = W.drewN n := fun W => by
  have h := xhxd_end s (k + 2) W hs hk2
  have e : k + numP ((us s).drop k) = k + 2 + (((us s).drop (k + 2)).takeWhile hx16).length := by
   unfold numP
   rw [if_pos (by rw [hxA_hd, hc, hd]; exact hx), List.drop_drop]
   omega
  rw [e]
  exact h
 obtain ⟨R, hR⟩ : ∃ R, k + numP ((us s).drop k) = R := ⟨_, rfl⟩
 rw [hR] at C3 ⊢
 have C1 := Lib.hid C1
 have C2 := Lib.hid C2
 have C3 := Lib.hid C3
 subst h48
 clear CU CU1 hs hs63 hx hc hd hR hln
 rcases hxX with rfl | rfl
 all_goals
  go_enter Tryz.func78, Tryz.ntmps78
  go_wp2_with fail
  refine (C1.out _).mono ?_
  rintro e w' ⟨rfl, n1, rfl⟩
  go_wp2_with fail
  refine (C2.out _).mono ?_
  rintro e w' ⟨rfl, n2, rfl⟩
  go_wp2_with fail
  refine (C3.out _).mono ?_
  rintro e w' ⟨rfl, n3, rfl⟩
  go_wp2
  go_ret
  exact ⟨rfl, n1 + n2 + n3, by first | rfl | simp⟩
set_option maxRecDepth 100000 in
set_option maxHeartbeats 12000000 in
theorem xnumberEnd_a (s : ByteArray) (k : Nat) (w : World) (hs : s.size ≤ 140737488355328) (hk : k ≤ ln s) (h48 : hd0 ((us s).drop k) ≠ 48) :
  Cp 78 #[.string s, .int .i64 k] w fun e w' => e = .returned (.int .i64 ((k + numP ((us s).drop k) : Nat) : Int)) ∧ ∃ n, w' = w.drewN n := by
 have hs63 : s.size ≤ maxLen := by unfold maxLen; omega
 have hln := ln_le s
 have hll : (ln s : Int) ≤ 70368744177664 := by omega
 have hkl : (k : Int) ≤ 70368744177664 := by omega
 have CU : ∀ p W, Cp 31 #[.string s, .int .i64 ((p : Nat) : Int)] W fun e w' => e = .returned (.int .u16 ((hd0 ((us s).drop p) : Nat) : Int)) ∧ ∃ n, w' = W.drewN n := fun p W => xunit_any s p W hs63
 have CU1 : ∀ p W, Cp 31 #[.string s, .int .i64 (((p : Nat) : Int) + 1)] W fun e w' => e = .returned (.int .u16 ((hd0 ((us s).drop (p + 1)) : Nat) : Int)) ∧ ∃ n, w' = W.drewN n := fun p W => xunit_any s (p + 1) W hs63
 obtain ⟨c, hc⟩ : ∃ c, hd0 ((us s).drop k) = c := ⟨_, rfl⟩
 obtain ⟨d, hd⟩ : ∃ d, hd0 ((us s).drop (k + 1)) = d := ⟨_, rfl⟩
 have C1 := CU1 k
 have C2 := CU k
 rw [hd] at C1
 rw [hc] at C2
 have hx : hxA ((us s).drop k) = false := by
  rw [hxA_hd]
  simp [h48]
 rw [hc] at h48
 have g1 : ((c : Int) == 48) = false := by rw [beq_eq_false_iff_ne]; omega
 obtain ⟨R, hR⟩ : ∃ R, k + numP ((us s).drop k) = R := ⟨_, rfl⟩
 rw [hR]
 have HR := Lib.hid hR
 have HX := Lib.hid hx
 have HS := Lib.hid hs
 have HLL := Lib.hid hll
 have HKL : Hid (k ≤ (us s).length) := Lib.hid (by rw [us_length]; exact hk)
 obtain ⟨p1, hp1⟩ : ∃ p1, k + (((us s).drop k).takeWhile dg10).length = p1 := ⟨_, rfl⟩
 have C3 := fun W => xdec_end s k W hs hk
 rw [hp1] at C3
 obtain ⟨hb1, hnd, hdt⟩ := num_dot HKL.out hp1
 have C4 := CU p1
 obtain ⟨c1, hc1⟩ : ∃ c1, hd0 ((us s).drop p1) = c1 := ⟨_, rfl⟩
 rw [hc1] at C4 hnd hdt
 have hp1l : (p1 : Int) ≤ 70368744177664 := by have := hb1; rw [us_length] at this; omega
 have C3 := Lib.hid C3
 have C4 := Lib.hid C4
 have C1 := Lib.hid C1
 have C2 := Lib.hid C2
 have CU := Lib.hid CU
 have CU1 := Lib.hid CU1
 have HB1 := Lib.hid hb1
 have HND := Lib.hid hnd
 have HDT := Lib.hid hdt
 clear h48
 clear hs hs63 hln hll hx hc hd hk hR hp1 hb1 hnd hdt hc1
 go_enter Tryz.func78, Tryz.ntmps78
 go_wp2_with fail
 refine (C1.out _).mono ?_
 rintro e w' ⟨rfl, n1, rfl⟩
 go_wp2_with fail
 refine (C2.out _).mono ?_
 rintro e w' ⟨rfl, n2, rfl⟩
 go_wp2_with fail
 refine (C3.out _).mono ?_
 rintro e w' ⟨rfl, n3, rfl⟩
 go_wp2_with fail
 refine (C4.out _).mono ?_
 rintro e w' ⟨rfl, n4, rfl⟩
 by_cases h46 : c1 = 46
 ·have HD := HDT.out h46
  have C5 := Lib.hid (show ∀ W, Cp 96 #[.string s, .int .i64 ((p1 : Int) + 1), .func (.func 52) #[] #[]] W fun e w' => e = .returned (.int .i64 ((p1 + 1 + (((us s).drop (p1 + 1)).takeWhile dg10).length : Nat) : Int)) ∧ ∃ n, w' = W.drewN n from fun W => xdec_end s (p1 + 1) W HS.out (by have := HD.1; rw [us_length] at this; exact this))
  obtain ⟨p2, hp2d⟩ : ∃ p2, p1 + 1 + (((us s).drop (p1 + 1)).takeWhile dg10).length = p2 := ⟨_, rfl⟩
  obtain ⟨_, hp2, hb2⟩ := HD
  rw [hp2d] at C5 hp2 hb2
  have HP2 := Lib.hid hp2
  have HB2 := Lib.hid hb2
  subst h46
  clear hp2d hp2 hb2
  go_wp2_with fail
  refine (C5.out _).mono ?_
  rintro e w' ⟨rfl, n5, rfl⟩
  have hp2 := HP2.out
  have hb2 := HB2.out
  have hpl : (p2 : Int) ≤ 70368744177664 := by have := HLL.out; have := hb2; rw [us_length] at this; omega
  obtain ⟨c2, hc2⟩ : ∃ c2, hd0 ((us s).drop p2) = c2 := ⟨_, rfl⟩
  have C6 := CU.out p2
  rw [hc2] at C6
  have C6 := Lib.hid C6
  obtain ⟨q1, q2⟩ := num_exp HKL.out HX.out hp2 hb2
  rw [hc2] at q1 q2
  obtain ⟨c3, hc3⟩ : ∃ c3, hd0 ((us s).drop (p2 + 1)) = c3 := ⟨_, rfl⟩
  have C7 := CU1.out p2
  rw [hc3] at C7 q2
  have C7 := Lib.hid C7
  have Q1 := Lib.hid q1
  have Q2 := Lib.hid q2
  clear q1 q2 hc2 hc3 hp2 hb2
  by_cases he : c2 = 101 ∨ c2 = 69
  ·have Q3 := Lib.hid (Q2.out he)
   rcases he with rfl | rfl
   all_goals
    go_wp2_with fail
    refine (C6.out _).mono ?_
    rintro e w' ⟨rfl, n6, rfl⟩
    go_wp2_with fail
    refine (C7.out _).mono ?_
    rintro e w' ⟨rfl, n7, rfl⟩
    by_cases hsg : c3 = 43 ∨ c3 = 45
    ·obtain ⟨hb4, hRe⟩ := Q3.out.2.1 hsg
     have C8 := Lib.hid (show ∀ W, Cp 96 #[.string s, .int .i64 ((p2 : Int) + 1 + 1), .func (.func 52) #[] #[]] W fun e w' => e = .returned (.int .i64 (R : Nat)) ∧ ∃ n, w' = W.drewN n from fun W => by
      rw [← HR.out, hRe]; exact xdec_end s (p2 + 2) W HS.out (by rw [us_length] at hb4; omega))
     clear hb4 hRe
     rcases hsg with rfl | rfl
     all_goals
      go_wp2_with fail
      with_reducible refine (C8.out _).mono ?_
      rintro e w' ⟨rfl, n8, rfl⟩
      go_wp2
      go_ret
      exact ⟨rfl, n1 + n2 + n3 + n4 + n5 + n6 + n7 + n8, by first | rfl | simp⟩
    ·have hRe := Q3.out.2.2 (by omega)
     have hb3 := Q3.out.1
     have C8 := Lib.hid (show ∀ W, Cp 96 #[.string s, .int .i64 ((p2 : Int) + 1), .func (.func 52) #[] #[]] W fun e w' => e = .returned (.int .i64 (R : Nat)) ∧ ∃ n, w' = W.drewN n from fun W => by
      rw [← HR.out, hRe]; exact xdec_end s (p2 + 1) W HS.out (by rw [us_length] at hb3; omega))
     have f1 : ((c3 : Int) == 43) = false := by rw [beq_eq_false_iff_ne]; omega
     have f2 : ((c3 : Int) == 45) = false := by rw [beq_eq_false_iff_ne]; omega
     clear hb3 hRe hsg
     go_wp2_with fail
     with_reducible refine (C8.out _).mono ?_
     rintro e w' ⟨rfl, n8, rfl⟩
     go_wp2
     go_ret
     exact ⟨rfl, n1 + n2 + n3 + n4 + n5 + n6 + n7 + n8, by first | rfl | simp⟩
  ·have HRe := Lib.hid (Q1.out (by omega))
   have f1 : ((c2 : Int) != 101) = true := by simp; omega
   have f2 : ((c2 : Int) != 69) = true := by simp; omega
   have hRp : R = p2 := by rw [← HR.out, HRe.out]
   subst hRp
   clear he HRe
   go_wp2_with fail
   refine (C6.out _).mono ?_
   rintro e w' ⟨rfl, n6, rfl⟩
   go_wp2
   go_ret
   exact ⟨rfl, n1 + n2 + n3 + n4 + n5 + n6, by first | rfl | simp⟩
 ·have hp2 := HND.out h46
  have hb2 := HB1.out
  have g4 : ((c1 : Int) == 46) = false := by rw [beq_eq_false_iff_ne]; omega
  clear h46
  have hpl : (p1 : Int) ≤ 70368744177664 := by have := HLL.out; have := hb2; rw [us_length] at this; omega
  obtain ⟨c2, hc2⟩ : ∃ c2, hd0 ((us s).drop p1) = c2 := ⟨_, rfl⟩
  have C6 := CU.out p1
  rw [hc2] at C6
  have C6 := Lib.hid C6
  obtain ⟨q1, q2⟩ := num_exp HKL.out HX.out hp2 hb2
  rw [hc2] at q1 q2
  obtain ⟨c3, hc3⟩ : ∃ c3, hd0 ((us s).drop (p1 + 1)) = c3 := ⟨_, rfl⟩
  have C7 := CU1.out p1
  rw [hc3] at C7 q2
  have C7 := Lib.hid C7
  have Q1 := Lib.hid q1
  have Q2 := Lib.hid q2
  clear q1 q2 hc2 hc3 hp2 hb2
  by_cases he : c2 = 101 ∨ c2 = 69
  ·have Q3 := Lib.hid (Q2.out he)
   rcases he with rfl | rfl
   all_goals
    go_wp2_with fail
    refine (C6.out _).mono ?_
    rintro e w' ⟨rfl, n6, rfl⟩
    go_wp2_with fail
    refine (C7.out _).mono ?_
    rintro e w' ⟨rfl, n7, rfl⟩
    by_cases hsg : c3 = 43 ∨ c3 = 45
    ·obtain ⟨hb4, hRe⟩ := Q3.out.2.1 hsg
     have C8 := Lib.hid (show ∀ W, Cp 96 #[.string s, .int .i64 ((p1 : Int) + 1 + 1), .func (.func 52) #[] #[]] W fun e w' => e = .returned (.int .i64 (R : Nat)) ∧ ∃ n, w' = W.drewN n from fun W => by
      rw [← HR.out, hRe]; exact xdec_end s (p1 + 2) W HS.out (by rw [us_length] at hb4; omega))
     clear hb4 hRe
     rcases hsg with rfl | rfl
     all_goals
      go_wp2_with fail
      with_reducible refine (C8.out _).mono ?_
      rintro e w' ⟨rfl, n8, rfl⟩
      go_wp2
      go_ret
      exact ⟨rfl, n1 + n2 + n3 + n4 + n6 + n7 + n8, by first | rfl | simp⟩
    ·have hRe := Q3.out.2.2 (by omega)
     have hb3 := Q3.out.1
     have C8 := Lib.hid (show ∀ W, Cp 96 #[.string s, .int .i64 ((p1 : Int) + 1), .func (.func 52) #[] #[]] W fun e w' => e = .returned (.int .i64 (R : Nat)) ∧ ∃ n, w' = W.drewN n from fun W => by
      rw [← HR.out, hRe]; exact xdec_end s (p1 + 1) W HS.out (by rw [us_length] at hb3; omega))
     have f1 : ((c3 : Int) == 43) = false := by rw [beq_eq_false_iff_ne]; omega
     have f2 : ((c3 : Int) == 45) = false := by rw [beq_eq_false_iff_ne]; omega
     clear hb3 hRe hsg
     go_wp2_with fail
     with_reducible refine (C8.out _).mono ?_
     rintro e w' ⟨rfl, n8, rfl⟩
     go_wp2
     go_ret
     exact ⟨rfl, n1 + n2 + n3 + n4 + n6 + n7 + n8, by first | rfl | simp⟩
  ·have HRe := Lib.hid (Q1.out (by omega))
   have f1 : ((c2 : Int) != 101) = true := by simp; omega
   have f2 : ((c2 : Int) != 69) = true := by simp; omega
   have hRp : R = p1 := by rw [← HR.out, HRe.out]
   subst hRp
   clear he HRe
   go_wp2_with fail
   refine (C6.out _).mono ?_
   rintro e w' ⟨rfl, n6, rfl⟩
   go_wp2
   go_ret
   exact ⟨rfl, n1 + n2 + n3 + n4 + n6, by first | rfl | simp⟩
set_option maxRecDepth 100000 in
set_option maxHeartbeats 12000000 in
theorem xnumberEnd_b (s : ByteArray) (k : Nat) (w : World) (hs : s.size ≤ 140737488355328) (hk : k ≤ ln s) (h48 : hd0 ((us s).drop k) = 48) (h49 : hd0 ((us s).drop (k + 1)) ≠ 120 ∧ hd0 ((us s).drop (k + 1)) ≠ 88) :
  Cp 78 #[.string s, .int .i64 k] w fun e w' => e = .returned (.int .i64 ((k + numP ((us s).drop k) : Nat) : Int)) ∧ ∃ n, w' = w.drewN n := by
 have hs63 : s.size ≤ maxLen := by unfold maxLen; omega
 have hln := ln_le s
 have hll : (ln s : Int) ≤ 70368744177664 := by omega
 have hkl : (k : Int) ≤ 70368744177664 := by omega
 have CU : ∀ p W, Cp 31 #[.string s, .int .i64 ((p : Nat) : Int)] W fun e w' => e = .returned (.int .u16 ((hd0 ((us s).drop p) : Nat) : Int)) ∧ ∃ n, w' = W.drewN n := fun p W => xunit_any s p W hs63
 have CU1 : ∀ p W, Cp 31 #[.string s, .int .i64 (((p : Nat) : Int) + 1)] W fun e w' => e = .returned (.int .u16 ((hd0 ((us s).drop (p + 1)) : Nat) : Int)) ∧ ∃ n, w' = W.drewN n := fun p W => xunit_any s (p + 1) W hs63
 obtain ⟨c, hc⟩ : ∃ c, hd0 ((us s).drop k) = c := ⟨_, rfl⟩
 obtain ⟨d, hd⟩ : ∃ d, hd0 ((us s).drop (k + 1)) = d := ⟨_, rfl⟩
 have C1 := CU1 k
 have C2 := CU k
 rw [hd] at C1
 rw [hc] at C2
 have hx : hxA ((us s).drop k) = false := by
  rw [hxA_hd]
  simp [h48, h49]
 rw [hc] at h48
 rw [hd] at h49
 have g1 : ((d : Int) == 120) = false := by rw [beq_eq_false_iff_ne]; omega
 have g2 : ((d : Int) == 88) = false := by rw [beq_eq_false_iff_ne]; omega
 clear h49
 obtain ⟨R, hR⟩ : ∃ R, k + numP ((us s).drop k) = R := ⟨_, rfl⟩
 rw [hR]
 have HR := Lib.hid hR
 have HX := Lib.hid hx
 have HS := Lib.hid hs
 have HLL := Lib.hid hll
 have HKL : Hid (k ≤ (us s).length) := Lib.hid (by rw [us_length]; exact hk)
 obtain ⟨p1, hp1⟩ : ∃ p1, k + (((us s).drop k).takeWhile dg10).length = p1 := ⟨_, rfl⟩
 have C3 := fun W => xdec_end s k W hs hk
 rw [hp1] at C3
 obtain ⟨hb1, hnd, hdt⟩ := num_dot HKL.out hp1
 have C4 := CU p1
 obtain ⟨c1, hc1⟩ : ∃ c1, hd0 ((us s).drop p1) = c1 := ⟨_, rfl⟩
 rw [hc1] at C4 hnd hdt
 have hp1l : (p1 : Int) ≤ 70368744177664 := by have := hb1; rw [us_length] at this; omega
 have C3 := Lib.hid C3
 have C4 := Lib.hid C4
 have C1 := Lib.hid C1
 have C2 := Lib.hid C2
 have CU := Lib.hid CU
 have CU1 := Lib.hid CU1
 have HB1 := Lib.hid hb1
 have HND := Lib.hid hnd
 have HDT := Lib.hid hdt
 subst h48
 clear hs hs63 hln hll hx hc hd hk hR hp1 hb1 hnd hdt hc1
 go_enter Tryz.func78, Tryz.ntmps78
 go_wp2_with fail
 refine (C1.out _).mono ?_
 rintro e w' ⟨rfl, n1, rfl⟩
 go_wp2_with fail
 refine (C2.out _).mono ?_
 rintro e w' ⟨rfl, n2, rfl⟩
 go_wp2_with fail
 refine (C3.out _).mono ?_
 rintro e w' ⟨rfl, n3, rfl⟩
 go_wp2_with fail
 refine (C4.out _).mono ?_
 rintro e w' ⟨rfl, n4, rfl⟩
 by_cases h46 : c1 = 46
 ·have HD := HDT.out h46
  have C5 := Lib.hid (show ∀ W, Cp 96 #[.string s, .int .i64 ((p1 : Int) + 1), .func (.func 52) #[] #[]] W fun e w' => e = .returned (.int .i64 ((p1 + 1 + (((us s).drop (p1 + 1)).takeWhile dg10).length : Nat) : Int)) ∧ ∃ n, w' = W.drewN n from fun W => xdec_end s (p1 + 1) W HS.out (by have := HD.1; rw [us_length] at this; exact this))
  obtain ⟨p2, hp2d⟩ : ∃ p2, p1 + 1 + (((us s).drop (p1 + 1)).takeWhile dg10).length = p2 := ⟨_, rfl⟩
  obtain ⟨_, hp2, hb2⟩ := HD
  rw [hp2d] at C5 hp2 hb2
  have HP2 := Lib.hid hp2
  have HB2 := Lib.hid hb2
  subst h46
  clear hp2d hp2 hb2
  go_wp2_with fail
  refine (C5.out _).mono ?_
  rintro e w' ⟨rfl, n5, rfl⟩
  have hp2 := HP2.out
  have hb2 := HB2.out
  have hpl : (p2 : Int) ≤ 70368744177664 := by have := HLL.out; have := hb2; rw [us_length] at this; omega
  obtain ⟨c2, hc2⟩ : ∃ c2, hd0 ((us s).drop p2) = c2 := ⟨_, rfl⟩
  have C6 := CU.out p2
  rw [hc2] at C6
  have C6 := Lib.hid C6
  obtain ⟨q1, q2⟩ := num_exp HKL.out HX.out hp2 hb2
  rw [hc2] at q1 q2
  obtain ⟨c3, hc3⟩ : ∃ c3, hd0 ((us s).drop (p2 + 1)) = c3 := ⟨_, rfl⟩
  have C7 := CU1.out p2
  rw [hc3] at C7 q2
  have C7 := Lib.hid C7
  have Q1 := Lib.hid q1
  have Q2 := Lib.hid q2
  clear q1 q2 hc2 hc3 hp2 hb2
  by_cases he : c2 = 101 ∨ c2 = 69
  ·have Q3 := Lib.hid (Q2.out he)
   rcases he with rfl | rfl
   all_goals
    go_wp2_with fail
    refine (C6.out _).mono ?_
    rintro e w' ⟨rfl, n6, rfl⟩
    go_wp2_with fail
    refine (C7.out _).mono ?_
    rintro e w' ⟨rfl, n7, rfl⟩
    by_cases hsg : c3 = 43 ∨ c3 = 45
    ·obtain ⟨hb4, hRe⟩ := Q3.out.2.1 hsg
     have C8 := Lib.hid (show ∀ W, Cp 96 #[.string s, .int .i64 ((p2 : Int) + 1 + 1), .func (.func 52) #[] #[]] W fun e w' => e = .returned (.int .i64 (R : Nat)) ∧ ∃ n, w' = W.drewN n from fun W => by
      rw [← HR.out, hRe]; exact xdec_end s (p2 + 2) W HS.out (by rw [us_length] at hb4; omega))
     clear hb4 hRe
     rcases hsg with rfl | rfl
     all_goals
      go_wp2_with fail
      with_reducible refine (C8.out _).mono ?_
      rintro e w' ⟨rfl, n8, rfl⟩
      go_wp2
      go_ret
      exact ⟨rfl, n1 + n2 + n3 + n4 + n5 + n6 + n7 + n8, by first | rfl | simp⟩
    ·have hRe := Q3.out.2.2 (by omega)
     have hb3 := Q3.out.1
     have C8 := Lib.hid (show ∀ W, Cp 96 #[.string s, .int .i64 ((p2 : Int) + 1), .func (.func 52) #[] #[]] W fun e w' => e = .returned (.int .i64 (R : Nat)) ∧ ∃ n, w' = W.drewN n from fun W => by
      rw [← HR.out, hRe]; exact xdec_end s (p2 + 1) W HS.out (by rw [us_length] at hb3; omega))
     have f1 : ((c3 : Int) == 43) = false := by rw [beq_eq_false_iff_ne]; omega
     have f2 : ((c3 : Int) == 45) = false := by rw [beq_eq_false_iff_ne]; omega
     clear hb3 hRe hsg
     go_wp2_with fail
     with_reducible refine (C8.out _).mono ?_
     rintro e w' ⟨rfl, n8, rfl⟩
     go_wp2
     go_ret
     exact ⟨rfl, n1 + n2 + n3 + n4 + n5 + n6 + n7 + n8, by first | rfl | simp⟩
  ·have HRe := Lib.hid (Q1.out (by omega))
   have f1 : ((c2 : Int) != 101) = true := by simp; omega
   have f2 : ((c2 : Int) != 69) = true := by simp; omega
   have hRp : R = p2 := by rw [← HR.out, HRe.out]
   subst hRp
   clear he HRe
   go_wp2_with fail
   refine (C6.out _).mono ?_
   rintro e w' ⟨rfl, n6, rfl⟩
   go_wp2
   go_ret
   exact ⟨rfl, n1 + n2 + n3 + n4 + n5 + n6, by first | rfl | simp⟩
 ·have hp2 := HND.out h46
  have hb2 := HB1.out
  have g4 : ((c1 : Int) == 46) = false := by rw [beq_eq_false_iff_ne]; omega
  clear h46
  have hpl : (p1 : Int) ≤ 70368744177664 := by have := HLL.out; have := hb2; rw [us_length] at this; omega
  obtain ⟨c2, hc2⟩ : ∃ c2, hd0 ((us s).drop p1) = c2 := ⟨_, rfl⟩
  have C6 := CU.out p1
  rw [hc2] at C6
  have C6 := Lib.hid C6
  obtain ⟨q1, q2⟩ := num_exp HKL.out HX.out hp2 hb2
  rw [hc2] at q1 q2
  obtain ⟨c3, hc3⟩ : ∃ c3, hd0 ((us s).drop (p1 + 1)) = c3 := ⟨_, rfl⟩
  have C7 := CU1.out p1
  rw [hc3] at C7 q2
  have C7 := Lib.hid C7
  have Q1 := Lib.hid q1
  have Q2 := Lib.hid q2
  clear q1 q2 hc2 hc3 hp2 hb2
  by_cases he : c2 = 101 ∨ c2 = 69
  ·have Q3 := Lib.hid (Q2.out he)
   rcases he with rfl | rfl
   all_goals
    go_wp2_with fail
    refine (C6.out _).mono ?_
    rintro e w' ⟨rfl, n6, rfl⟩
    go_wp2_with fail
    refine (C7.out _).mono ?_
    rintro e w' ⟨rfl, n7, rfl⟩
    by_cases hsg : c3 = 43 ∨ c3 = 45
    ·obtain ⟨hb4, hRe⟩ := Q3.out.2.1 hsg
     have C8 := Lib.hid (show ∀ W, Cp 96 #[.string s, .int .i64 ((p1 : Int) + 1 + 1), .func (.func 52) #[] #[]] W fun e w' => e = .returned (.int .i64 (R : Nat)) ∧ ∃ n, w' = W.drewN n from fun W => by
      rw [← HR.out, hRe]; exact xdec_end s (p1 + 2) W HS.out (by rw [us_length] at hb4; omega))
     clear hb4 hRe
     rcases hsg with rfl | rfl
     all_goals
      go_wp2_with fail
      with_reducible refine (C8.out _).mono ?_
      rintro e w' ⟨rfl, n8, rfl⟩
      go_wp2
      go_ret
      exact ⟨rfl, n1 + n2 + n3 + n4 + n6 + n7 + n8, by first | rfl | simp⟩
    ·have hRe := Q3.out.2.2 (by omega)
     have hb3 := Q3.out.1
     have C8 := Lib.hid (show ∀ W, Cp 96 #[.string s, .int .i64 ((p1 : Int) + 1), .func (.func 52) #[] #[]] W fun e w' => e = .returned (.int .i64 (R : Nat)) ∧ ∃ n, w' = W.drewN n from fun W => by
      rw [← HR.out, hRe]; exact xdec_end s (p1 + 1) W HS.out (by rw [us_length] at hb3; omega))
     have f1 : ((c3 : Int) == 43) = false := by rw [beq_eq_false_iff_ne]; omega
     have f2 : ((c3 : Int) == 45) = false := by rw [beq_eq_false_iff_ne]; omega
     clear hb3 hRe hsg
     go_wp2_with fail
     with_reducible refine (C8.out _).mono ?_
     rintro e w' ⟨rfl, n8, rfl⟩
     go_wp2
     go_ret
     exact ⟨rfl, n1 + n2 + n3 + n4 + n6 + n7 + n8, by first | rfl | simp⟩
  ·have HRe := Lib.hid (Q1.out (by omega))
   have f1 : ((c2 : Int) != 101) = true := by simp; omega
   have f2 : ((c2 : Int) != 69) = true := by simp; omega
   have hRp : R = p1 := by rw [← HR.out, HRe.out]
   subst hRp
   clear he HRe
   go_wp2_with fail
   refine (C6.out _).mono ?_
   rintro e w' ⟨rfl, n6, rfl⟩
   go_wp2
   go_ret
   exact ⟨rfl, n1 + n2 + n3 + n4 + n6, by first | rfl | simp⟩
theorem xnumberEnd_any (s : ByteArray) (k : Nat) (w : World) (hs : s.size ≤ 140737488355328) (hk : k ≤ ln s) :
  Cp 78 #[.string s, .int .i64 k] w fun e w' => e = .returned (.int .i64 ((k + numP ((us s).drop k) : Nat) : Int)) ∧ ∃ n, w' = w.drewN n := by
 cases hx : hxA ((us s).drop k)
 ·by_cases h48 : hd0 ((us s).drop k) = 48
  ·have h49 : hd0 ((us s).drop (k + 1)) ≠ 120 ∧ hd0 ((us s).drop (k + 1)) ≠ 88 := by
    rw [hxA_hd, h48] at hx
    simpa using hx
   exact xnumberEnd_b s k w hs hk h48 h49
  ·exact xnumberEnd_a s k w hs hk h48
 ·exact xnumberEnd_hex s k w hs hk hx

end Go.Proofs.YtjmplgbhjpldbaaGreatDoor
