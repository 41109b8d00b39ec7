/-
  Merged texts (BD, BG, Nv, Dp, Dq, Te, Tf, Tg, Th, Ti, Dc, De, Dh, St, Ta, Tb, Tc, Td, Tj, Tk, Tl, Tm, Tn).
-/
import Derived.Test.YtfcpkdafkmohkaaGreatDoorPob
import Derived.Shelf.Strings.Builder1
import Derived.Shelf.Strings.Builder2
import Derived.Shelf.Strings.OnBuilder
import Derived.Shelf.Strings.Trim
import Derived.Shelf.Small.Utf8
import Derived.Shelf.Small.Bits
import Derived.Shelf.Small.Strs
import Derived.Shelf.Small.Wraps
import Derived.Shelf.Strings.BuilderF
import Derived.Shelf.Strings.BuilderK
import Derived.Shelf.Strconv.Itoa0
import Derived.Shelf.Strconv.Itoa1
import Derived.Shelf.LaysM
import Derived.Shelf.Strconv.Itoa2
import Derived.Shelf.Strconv.Itoa3
import Derived.Shelf.Strings.Search1
import Derived.Shelf.Strings.Prefix
import Derived.Shelf.Unicode.Latin
import Derived.Shelf.Strings.Runes
import Derived.Shelf.Strings.AsciiSet
import Derived.Shelf.Bits.Mul64
import Derived.Shelf.Strings.Repeat
import Derived.Shelf.Unicode.DecodeSlow
import Derived.Shelf.Unicode.CaseLookup
import Derived.Shelf.Unicode.CaseConvert
import Derived.Shelf.Unicode.CaseTo
import Derived.Shelf.Unicode.CaseLaid
import Derived.Shelf.Strings.SlTrimAscii
import Derived.Test.YtfcpkdafkmohkaaGreatDoorProg
import GoSem.Core.Utf8
import Derived.WalkKit
import Derived.WalkSpells
import Derived.WalkLawsBesides
import Derived.Deep.QuietTactic
import Derived.BigQuiet
import Derived.Lib.Hide
import Derived.Deep.OwnRows
import Derived.Laws.CopyOwn
import Derived.Deep.AppendLies
import Derived.Lib.BitFns
import Derived.Lib.Strings
import Derived.Laws.BitsAllLaws
import Derived.Lib.LaidTab
import Derived.ProofKit
import Derived.OpenShut
import Derived.SizedLaws
import Derived.Laws.BytesString
import Derived.Laws.Cells
import Derived.Deep.RegionWith
import Derived.BigRegion
import Derived.Test.YtfcpkdafkmohkaaGreatDoorRows
import Derived.Deep.RegionHeld3
import Derived.Laws.Closers25b
import Ieee.Arith
import GoSem.Core.Float
import Derived.Lib.ItoaNum
import Derived.Deep.DeepCutAuto
import Derived.Laws.FloatArith
import Derived.Laws.Externs
import Derived.Lib.SlTrimSet
import Derived.Lib.Case
import Derived.Deep.WholeRow
import Derived.Laws.Tables
import Derived.Laws.EntriesVeiled
namespace Go.Proofs.YtfcpkdafkmohkaaGreatDoor
open Go.RowKit
def OneP (L : List Nat) (N : Nat) (w : World) (e : Ending) (w' : World) : Prop := ∃ A c, e = .returned (.tuple #[.slice A N c, .int .i64 0]) ∧ (N ≤ c ∧ RW w' w'.heap.size A L) ∧ Below w.heap.size w w'
theorem NatPost.one {v N : Nat} {w w' : World} {e : Ending} (h : NatPost v w e w') (hl : lngB v = false) (hN : (wds v).length = N) : OneP (wds v) N w e w' := by
 obtain ⟨A, c, h1, h2, h3⟩ := h.get hl
 rw [hN] at h1 h2
 exact ⟨A, c, h1, h2, h3⟩
end Go.Proofs.YtfcpkdafkmohkaaGreatDoor
namespace Go.Proofs.YtfcpkdafkmohkaaGreatDoor
structure LongT (A D n M i : Nat) (R Q : List Nat) : Prop where
 lenR : R.length = M + n
 lenQ : Q.length = M
 wsR : Ws R
 wsQ : Ws Q
 sum : val R + 4294967296 ^ i * (val (Q.drop i) * D) = A
 rest : val (R.drop i) < D
theorem LongT.start {va vb s la n M : Nat} {R : List Nat} (hR : Ws R) (hl : R.length = M + n) (hM : la + 1 = M + n) (hn : 0 < n) (ha : va < 4294967296 ^ la) (hb : 4294967296 ^ (n - 1) ≤ vb) (hv : val R = 2 ^ s * va) :
  LongT (2 ^ s * va) (2 ^ s * vb) n M M R (List.replicate M 0) := by
 refine ⟨hl, List.length_replicate, hR, Ws.zeros _, ?_, ?_⟩
 ·rw [List.drop_of_length_le (by rw [List.length_replicate]; exact Nat.le_refl _)]
  simp [val, hv]
 ·have e := val_split R M (by omega)
  rw [hv] at e
  have e2 : 4294967296 ^ la = 4294967296 ^ M * 4294967296 ^ (n - 1) := by rw [← Nat.pow_add]; congr 1; omega
  have h1 : 2 ^ s * va < 2 ^ s * (4294967296 ^ M * 4294967296 ^ (n - 1)) := by rw [← e2]; exact Nat.mul_lt_mul_of_pos_left ha (Nat.two_pow_pos s)
  have h2 : 4294967296 ^ M * val (R.drop M) < 4294967296 ^ M * (2 ^ s * 4294967296 ^ (n - 1)) := by
   have : 4294967296 ^ M * (2 ^ s * 4294967296 ^ (n - 1)) = 2 ^ s * (4294967296 ^ M * 4294967296 ^ (n - 1)) := by grind
   omega
  have h3 := Nat.lt_of_mul_lt_mul_left h2
  exact Nat.lt_of_lt_of_le h3 (Nat.mul_le_mul_left _ hb)
theorem LongT.part {A D n M i : Nat} {R Q : List Nat} (h : LongT A D n M (i + 1) R Q) (hi : i < M) (hD : D < 4294967296 ^ n) :
  val ((R.drop i).take (n + 1)) = val (R.drop i) ∧ val ((R.drop i).take (n + 1)) < 4294967296 * D := by
 have e := val_drop_cons R i (by have := h.lenR; omega)
 have h1 := h.wsR.getD i
 have h2 := h.rest
 have h3 : val (R.drop i) < 4294967296 * D := by
  have : 4294967296 * (val (R.drop (i + 1)) + 1) ≤ 4294967296 * D := Nat.mul_le_mul_left _ h2
  omega
 have h4 : val (R.drop i) < 4294967296 ^ (n + 1) := by
  rw [Nat.pow_succ, Nat.mul_comm]
  exact Nat.lt_trans h3 (Nat.mul_lt_mul_of_pos_left hD (by omega))
 have h5 := val_take_small h4
 exact ⟨h5, by rw [h5]; exact h3⟩
theorem LongT.next {A D n M i : Nat} {R Q S : List Nat} (h : LongT A D n M (i + 1) R Q) (hi : i < M) (hD : D < 4294967296 ^ n) (hD0 : 0 < D)
  (hlen : S.length = R.length) (hws : Ws S) (hfar : ∀ j, j < i ∨ i + (n + 1) ≤ j → S.getD j 0 = R.getD j 0)
  (hs : val ((S.drop i).take (n + 1)) = val ((R.drop i).take (n + 1)) % D) :
  LongT A D n M i S (Q.set i (val ((R.drop i).take (n + 1)) / D)) := by
 obtain ⟨p1, p2⟩ := h.part hi hD
 obtain ⟨h1, h2, h3, h4, h5, h6⟩ := h
 have hq : val ((R.drop i).take (n + 1)) / D < 4294967296 := by rw [Nat.div_lt_iff_lt_mul hD0]; exact p2
 have r1 := val_split (R.drop i) (n + 1) (by rw [List.length_drop]; omega)
 have s1 := val_split (S.drop i) (n + 1) (by rw [List.length_drop]; omega)
 have e1 : val ((S.drop i).drop (n + 1)) = val ((R.drop i).drop (n + 1)) := by
  rw [List.drop_drop, List.drop_drop]
  exact val_eq (fun j => by rw [getD_drop, getD_drop]; exact hfar _ (.inr (by omega)))
 have e2 : 4294967296 ^ (n + 1) * val ((R.drop i).drop (n + 1)) = 0 := by omega
 rw [e1, e2, Nat.add_zero] at s1
 have e3 : val (R.take i) = val (S.take i) := by
  rw [take_congr (l := R) (m := S) i (by omega) (by omega) (fun j hj => (hfar j (.inl hj)).symm)]
 have r2 := val_split R i (by omega)
 have s2 := val_split S i (by omega)
 have e4 : val (R.drop i) = val (S.drop i) + val (R.drop i) / D * D := by
  rw [s1, hs, p1, Nat.mul_comm]
  exact (Nat.mod_add_div _ _).symm
 have q1 := val_drop_cons (Q.set i (val ((R.drop i).take (n + 1)) / D)) i (by rw [List.length_set]; omega)
 rw [getD_set_eq (by omega)] at q1
 have e5 : (Q.set i (val ((R.drop i).take (n + 1)) / D)).drop (i + 1) = Q.drop (i + 1) := by
  rw [List.drop_set, if_pos (by omega)]
 rw [e5] at q1
 refine ⟨by omega, by rw [List.length_set]; exact h2, hws, h4.set hq, ?_, ?_⟩
 ·rw [q1, s2, ← e3, p1]
  rw [r2] at h5
  rw [Nat.pow_succ] at h5
  generalize val (R.drop i) / D = q at *
  generalize val (Q.drop (i + 1)) = V at *
  generalize 4294967296 ^ i = K at *
  rw [e4] at h5
  grind
 ·rw [s1, hs]; exact Nat.mod_lt _ hD0
theorem LongT.fin {A D n M : Nat} {R Q : List Nat} (h : LongT A D n M 0 R Q) (hD0 : 0 < D) : val Q = A / D ∧ val R = A % D := by
 obtain ⟨h1, h2, h3, h4, h5, h6⟩ := h
 rw [Nat.pow_zero, Nat.one_mul, List.drop_zero] at h5
 rw [List.drop_zero] at h6
 have e1 : A / D = val Q := by
  rw [← h5, Nat.add_mul_div_right _ _ hD0, Nat.div_eq_of_lt h6, Nat.zero_add]
 have e2 := Nat.mod_add_div A D
 rw [e1] at e2
 refine ⟨e1.symm, ?_⟩
 rw [Nat.mul_comm] at e2
 omega
/-! ### bit by bit -/
end Go.Proofs.YtfcpkdafkmohkaaGreatDoor
namespace Go.Proofs.YtfcpkdafkmohkaaGreatDoor
open Go.RowKit
def gues (hi lo y : Nat) : Nat := if y ≤ hi then 4294967295 else (hi * 4294967296 + lo) / y
set_option maxHeartbeats 1000000 in
theorem guess_any (hi lo y : Nat) (w : World) (hl : lo < 4294967296) (hy : y < 4294967296) :
  Cp 252 #[.int .u32 hi, .int .u32 lo, .int .u32 y] w fun e w' => e = .returned (.int .u32 (gues hi lo y : Nat)) ∧ ∃ j, w' = w.drewN j := by
 unfold gues
 by_cases h : y ≤ hi
 ·rw [if_pos h]
  have y1 : (y : Int) ≤ (hi : Int) := by omega
  clear hl hy h
  go_enter Tryz.func252, Tryz.ntmps252
  go_wp2
  go_ret
  exact ⟨rfl, 0, rfl⟩
 ·rw [if_neg h]
  have C1 := Lib.hid (fun W => div32_any hi lo y W (by omega) hl hy)
  have y1 : ¬ (y : Int) ≤ (hi : Int) := by omega
  obtain ⟨q, hq⟩ : ∃ q, (hi * 4294967296 + lo) / y = q := ⟨_, rfl⟩
  obtain ⟨r, hr⟩ : ∃ r, (hi * 4294967296 + lo) % y = r := ⟨_, rfl⟩
  rw [hq, hr] at C1
  rw [hq]
  clear hl hy h hq hr
  go_enter Tryz.func252, Tryz.ntmps252
  go_wp2_with fail
  refine (C1.out _).mono ?_
  rintro e w' ⟨rfl, j, rfl⟩
  go_wp2
  go_ret
  exact ⟨rfl, j, rfl⟩

end Go.Proofs.YtfcpkdafkmohkaaGreatDoor
namespace Go.Proofs.YtfcpkdafkmohkaaGreatDoor
open Go.RowKit
def TakePost (g : Nat) (R : List Nat) (o : Nat) (b : List Nat) (x : Nat) (w : World) (e : Ending) (w' : World) : Prop :=
 ∃ S q, e = .returned (.int .u32 (q : Nat)) ∧ Row w' g S ∧ TakeT R o b x b.length S q ∧ Only g w w'
set_option maxRecDepth 100000 in
set_option maxHeartbeats 2000000 in
theorem subTimes_any (g o n c : Nat) (R : List Nat) (A : Option Addr) (m d : Nat) (b : List Nat) (x B : Nat) (w : World) (hR : Row w g R) (hRw : Ws R) (ho : o + n ≤ R.length) (hmn : m ≤ n) (hbl : b.length = m) (hm0 : 0 < m)
  (hB : RW w B A b) (hgB : B ≤ g) (hx : x < 4294967296) (hm : R.length ≤ 35184372088832) :
  Cp 253 #[.slice (some ⟨g, o, none⟩) n c, .slice A m d, .int .u32 x] w (TakePost g R o b x w) := by
 obtain ⟨a, p, rfl, hab, hc⟩ := hB.2 (by omega)
 have HBW := Lib.hid hB.1
 have HRW := Lib.hid hRw
 have HBL := Lib.hid hbl
 have HC := Lib.hid hc
 have HX := Lib.hid hx
 have HR := Lib.hid hR
 have hm1 : (m : Int) ≤ (n : Int) := by omega
 have hn1 : (n : Int) ≤ 35184372088832 := by omega
 have HO := Lib.hid ho
 have hag : a < g := by omega
 have h0' : (0 : Int) ≤ (x : Int) := by omega
 clear hR hRw ho hmn hbl hB hgB hx hm hc hm0
 go_enter Tryz.func253, Tryz.ntmps253
 go_wp2
 go_loopw [14, 7] (fun i v wr => ∃ (k : Nat) (S : List Nat) (q : Nat), i = .int .i64 k ∧ v = .int .u64 (q : Nat) ∧ k ≤ m ∧ Hid (Row wr g S) ∧ Hid (TakeT R o b x k S q) ∧ Only g w wr) (fun i _ _ => m - (intOf i).toNat)
 case atStart => exact ⟨0, R, 0, rfl, rfl, Nat.zero_le _, HR, Lib.hid (TakeT.start o b x HRW.out), Only.refl _ _⟩
 case round =>
  obtain ⟨k, S, q, rfl, rfl, hk, HS, HT, hbw⟩ := hrel
  by_cases hlt : k < m
  ·have hkb : k < b.length := by rw [HBL.out]; exact hlt
   have hok : o + k < R.length := by have := HO.out; omega
   obtain ⟨e1, hnext⟩ := HT.out.next HRW.out HBW.out HX.out hok
   have hS := HS.out.cell (o + k) (by rw [HT.out.len]; exact hok)
   have hfz := HS.out.frozen (o + k)
   have hcl := HC.out k _ (getD_some hkb)
   rw [← hbw.below.cell (p := ⟨a, p + k, none⟩) hag] at hcl
   obtain ⟨l1, l2⟩ := takC_le (k := k) HBW.out HX.out HT.out.low
   have hset := HS.out.set (o + k) (takW (R.getD (o + k) 0) (takC b x k q))
   have HE := Lib.hid (show takC b x k q = q + b.getD k 0 * x from rfl)
   have u1 := HBW.out.getD k
   have r1 := HRW.out.getD (o + k)
   have q1 := HT.out.low
   rw [e1] at hS
   obtain ⟨t, ht⟩ : ∃ t, takC b x k q = t := ⟨_, rfl⟩
   obtain ⟨u, hu⟩ : ∃ u, b.getD k 0 = u := ⟨_, rfl⟩
   obtain ⟨r, hr⟩ : ∃ r, R.getD (o + k) 0 = r := ⟨_, rfl⟩
   rw [ht, hu] at HE
   rw [ht] at l2
   rw [hr, ht] at hnext hset
   rw [hu] at hcl l1 u1
   rw [hr] at hS r1
   have low := tak_low r t l2
   have C1 := Lib.hid (fun W => show Cp 212 #[.int .u32 (r : Nat), .int .u32 ((t : Int) % 4294967296), .int .u32 0] W fun e w' => e = .returned (.tuple #[.int .u32 (takW r t : Nat), .int .u32 (takB r t : Nat)]) ∧ W = w' from by
    have := sub32_any r (t % 4294967296) 0 W r1 (by omega) (by omega)
    rw [show ((t % 4294967296 : Nat) : Int) = (t : Int) % 4294967296 by omega] at this
    exact this)
   obtain ⟨W', hW'⟩ : ∃ W', takW r t = W' := ⟨_, rfl⟩
   obtain ⟨B', hB'⟩ : ∃ B', takB r t = B' := ⟨_, rfl⟩
   rw [hW', hB'] at C1 hnext
   rw [hW'] at hset
   rw [hB'] at low
   have hB1 : B' ≤ 1 := by rw [← hB']; unfold takB; split <;> omega
   have HNX := Lib.hid hnext
   have k1 : IntKind.u64.wrap (u : Int) = (u : Int) := IntWalk.u64_in _ (by omega)
   have k2 : IntKind.u64.wrap (x : Int) = (x : Int) := IntWalk.u64_in _ (by have := HX.out; omega)
   have k4 : IntKind.u64.wrap ((u : Int) * (x : Int)) = (u : Int) * (x : Int) := IntWalk.u64_in _ (by
    have : ((u * x : Nat) : Int) = (u : Int) * (x : Int) := Int.natCast_mul u x
    omega)
   have k6 : IntKind.u64.wrap ((q : Int) + (u : Int) * (x : Int)) = (t : Int) := by
    have : ((u * x : Nat) : Int) = (u : Int) * (x : Int) := Int.natCast_mul u x
    have := HE.out
    rw [IntWalk.u64_in _ (by omega)]
    omega
   obtain ⟨T, hT⟩ : ∃ T, t / 4294967296 + B' = T := ⟨_, rfl⟩
   have k7 : IntKind.u64.wrap (B' : Int) = (B' : Int) := IntWalk.u64_in _ (by omega)
   have k8 : IntKind.u64.wrap ((t : Int) / 4294967296 + (B' : Int)) = (T : Int) := by rw [IntWalk.u64_in _ (by omega)]; omega
   rw [hT] at HNX
   have HSET := Lib.hid hset
   clear e1 hnext l1 l2 u1 r1 q1 ht hu hr hkb hok hset low hW' hB' hB1 hT HE
   go_wp2_with (go_at_call 212; refine (C1.out _).mono ?_; rintro e w' ⟨rfl, rfl⟩)
   go_roundw
   case rel => exact ⟨k + 1, _, T, by go_num, rfl, by omega, HSET, HNX, hbw.setCell _⟩
   case measure => simp [intOf]; omega
  ·have HZ := Lib.hid (show k = b.length by rw [HBL.out]; omega)
   have q1 := HT.out.low
   have k1 : IntKind.u32.wrap (q : Int) = (q : Int) := IntWalk.u32_in _ (by omega)
   have HT2 := Lib.hid (HZ.out ▸ HT.out : TakeT R o b x b.length S q)
   clear q1
   go_wp2
   go_ret
   exact ⟨S, q, rfl, HS.out, HT2.out, hbw⟩
theorem quiet_plus {P : Program} {f : FuncId} {args : Array Value} {w : World} {n : Nat} {v : Value}
  (h : Calls P f args (w.drewN n) fun e w' => e = .returned v ∧ ∃ j, w' = (w.drewN n).drewN j) : Calls P f args (w.drewN n) fun e w'' => e = .returned v ∧ ∃ m, w'' = w.drewN m :=
 h.mono fun _ _ ⟨he, j, hj⟩ => ⟨he, n + j, by rw [hj, World.drewN_drewN]⟩
def StepPost (g : Nat) (R : List Nat) (o : Nat) (b : List Nat) (w : World) (e : Ending) (w' : World) : Prop :=
 ∃ S, e = .returned (.int .u32 ((val ((R.drop o).take (b.length + 1)) / val b : Nat) : Int)) ∧ Row w' g S ∧ S.length = R.length ∧ Ws S ∧ (∀ j, j < o ∨ o + (b.length + 1) ≤ j → S.getD j 0 = R.getD j 0) ∧
  val ((S.drop o).take (b.length + 1)) = val ((R.drop o).take (b.length + 1)) % val b ∧ Only g w w'
theorem guess_high {R : List Nat} {o N : Nat} {b : List Nat} (hR : Ws R) (hb : Ws b) (hN : b.length = N + 1) (ho : o + b.length < R.length) (hb0 : 0 < val b) (htop : 0 < b.getD N 0)
  (hP : val ((R.drop o).take (b.length + 1)) < 4294967296 * val b) :
  val ((R.drop o).take (b.length + 1)) / val b ≤ gues (R.getD (o + (N + 1)) 0) (R.getD (o + N) 0) (b.getD N 0) ∧ gues (R.getD (o + (N + 1)) 0) (R.getD (o + N) 0) (b.getD N 0) < 4294967296 := by
 have hlo := hR.getD (o + N)
 have hy := hb.getD N
 refine ⟨?_, ?_⟩
 ·unfold gues
  split
  ·have : val ((R.drop o).take (b.length + 1)) / val b < 4294967296 := by rw [Nat.div_lt_iff_lt_mul hb0]; exact hP
   omega
  ·rw [hN]
   refine guess_div (p' := val ((R.drop o).take N)) (d' := val (b.take N)) (K := 4294967296 ^ N) ?_ ?_ ?_ htop
   ·rw [val_part_succ R o (N + 1) (by omega), val_part_succ R o N (by omega), Nat.pow_succ]
    grind
   ·have := val_lt ((hR.drop o).take N)
    rwa [List.length_take, List.length_drop, Nat.min_eq_left (by omega)] at this
   ·have := val_take_succ b N (by omega)
    rw [List.take_of_length_le (by omega)] at this
    rw [this]
 ·unfold gues
  split
  ·omega
  ·next h =>
   rw [Nat.div_lt_iff_lt_mul htop]
   have : (R.getD (o + (N + 1)) 0 + 1) * 4294967296 ≤ b.getD N 0 * 4294967296 := Nat.mul_le_mul_right _ (by omega)
   omega
set_option maxRecDepth 100000 in
set_option maxHeartbeats 4000000 in
theorem step_any (g o n c : Nat) (R : List Nat) (A : Option Addr) (N m d : Nat) (b : List Nat) (B : Nat) (w : World) (hR : Row w g R) (hRw : Ws R) (hn : n = N + 2) (hmN : m = N + 1) (ho : o + n ≤ R.length) (hbl : b.length = N + 1)
  (hB : RW w B A b) (hgB : B ≤ g) (hm : R.length ≤ 35184372088832) (hb0 : 0 < val b) (htop : 0 < b.getD N 0) (hP : val ((R.drop o).take (b.length + 1)) < 4294967296 * val b) :
  Cp 239 #[.slice (some ⟨g, o, none⟩) n c, .slice A m d] w (StepPost g R o b w) := by
 subst hn
 subst hmN
 obtain ⟨a, p, rfl, hab, hc⟩ := hB.2 (by omega)
 obtain ⟨gh1, gh2⟩ := guess_high hRw hB.1 hbl (by omega) hb0 htop hP
 have d1 := hc N _ (getD_some (by omega))
 have d2 := hR.cell (o + (N + 1)) (by omega)
 have d3 := hR.cell (o + N) (by omega)
 have l1 := hRw.getD (o + (N + 1))
 have l2 := hRw.getD (o + N)
 have l3 := hB.1.getD N
 have C1 := Lib.hid (fun W => guess_any (R.getD (o + (N + 1)) 0) (R.getD (o + N) 0) (b.getD N 0) W l2 l3)
 obtain ⟨x, hx⟩ : ∃ x, gues (R.getD (o + (N + 1)) 0) (R.getD (o + N) 0) (b.getD N 0) = x := ⟨_, rfl⟩
 rw [hx] at C1 gh1 gh2
 obtain ⟨u1, hu1⟩ : ∃ u, R.getD (o + (N + 1)) 0 = u := ⟨_, rfl⟩
 obtain ⟨u2, hu2⟩ : ∃ u, R.getD (o + N) 0 = u := ⟨_, rfl⟩
 obtain ⟨u3, hu3⟩ : ∃ u, b.getD N 0 = u := ⟨_, rfl⟩
 rw [hu1, hu2, hu3] at C1
 rw [hu1] at d2 l1
 rw [hu2] at d3
 rw [hu3] at d1
 have C2 := Lib.hid (fun j => subTimes_any g o (N + 2) c R (some ⟨a, p, none⟩) (N + 1) d b x B (w.drewN j) (hR.drewN j) hRw ho (by omega) hbl (by omega) (hB.drewN j) hgB gh2 hm)
 have HRW := Lib.hid hRw
 have HBL := Lib.hid hbl
 have HB := Lib.hid hB
 have HGB := Lib.hid hgB
 have HO := Lib.hid ho
 have HB0 := Lib.hid hb0
 have HG := Lib.hid gh1
 have HG2 := Lib.hid gh2
 have HU1 := Lib.hid hu1
 have HM := Lib.hid hm
 have hN1 : (N : Int) + 2 ≤ 35184372088832 := by omega
 have hoN1 : (o : Int) + (N : Int) + 2 ≤ 35184372088832 := by omega
 have L1 := Lib.hid l1
 clear hR hRw ho hbl hB hgB hm hb0 htop hP hc gh1 gh2 l1 l2 l3 hx hu1 hu2 hu3 hab
 go_enter Tryz.func239, Tryz.ntmps239
 go_wp2
 go_quiet ((go_at_call 252; exact quiet_plus (C1.out _)))
 go_wp2_with fail
 refine (C2.out _).mono ?_
 rintro e w2 ⟨S, q, rfl, hrow, ht, hb2⟩
 have hbw2 : Only g w w2 := ((Only.refl _ _).drewN nq).trans hb2
 have hql := ht.low
 have hSl := ht.len
 obtain ⟨e1, hst⟩ := ht.step (by rw [HBL.out]; have := HO.out; omega) HRW.out HG2.out HG.out
 rw [HBL.out, HU1.out] at e1 hst
 have hcell := hrow.cell (o + (N + 1)) (by rw [hSl]; have := HO.out; omega)
 have hfz := hrow.frozen (o + (N + 1))
 rw [e1] at hcell
 have C3 := Lib.hid (fun W => show Cp 212 #[.int .u32 (u1 : Nat), .int .u32 (q : Nat), .int .u32 0] W fun e w' => e = .returned (.tuple #[.int .u32 ((u1 + 4294967296 * 2 - q - 0) % 4294967296 : Nat), .int .u32 ((if u1 < q + 0 then 1 else 0 : Nat) : Int)]) ∧ W = w' from sub32_any u1 q 0 W L1.out hql (by omega))
 obtain ⟨W3, hW3⟩ : ∃ W3, (u1 + 4294967296 * 2 - q - 0) % 4294967296 = W3 := ⟨_, rfl⟩
 obtain ⟨B3, hB3⟩ : ∃ B3, (if u1 < q + 0 then 1 else 0) = B3 := ⟨_, rfl⟩
 rw [hW3, hB3] at C3 hst
 have HROW := Lib.hid (hrow.set (o + (N + 1)) W3)
 have HST := Lib.hid hst
 have HBW := Lib.hid hbw2
 clear hrow ht hb2 hbw2 hql hSl e1 hst hW3 hB3 C1 C2
 go_wp2_with (go_at_call 212; refine (C3.out _).mono ?_; rintro e w' ⟨rfl, rfl⟩)
 go_loopw [6, 8] (fun ov bv wr => ∃ (of bl : Nat) (S : List Nat), ov = .int .u32 (of : Nat) ∧ bv = .int .u32 (bl : Nat) ∧ Hid (Row wr g S) ∧ Hid (StepT R o b S of bl) ∧ Only g w wr) (fun ov _ _ => (intOf ov).toNat)
 case atStart => exact ⟨x, B3, _, rfl, rfl, HROW, HST, HBW.out.setCell _⟩
 case round =>
  obtain ⟨of, bl, T, rfl, rfl, HR2, HT2, hbw⟩ := hrel
  have hbl : bl = 0 ∨ bl = 1 := by have := HT2.out.low; omega
  rcases hbl with h0 | h0
  ·have b0 : ((bl : Int) == 1) = false := by rw [h0]; rfl
   rw [h0] at HT2
   obtain ⟨f1, f2⟩ := HT2.out.fin HB0.out
   have HF1 := Lib.hid f1
   have HF2 := Lib.hid f2
   clear f1 f2 h0
   go_wp2
   go_ret
   exact ⟨T, congrArg (fun k : Nat => Ending.returned (.int .u32 (k : Int))) HF1.out, HR2.out, HT2.out.len, HT2.out.ws, HT2.out.far, HF2.out, hbw⟩
  ·have b0 : ((bl : Int) == 1) = true := by rw [h0]; rfl
   rw [h0] at HT2
   have HBL1 := Lib.hid h0
   obtain ⟨m1, _⟩ := HT2.out.more HB0.out (by rw [HBL.out]; have := HO.out; omega)
   have hofl := HT2.out.word
   have hTl := HT2.out.len
   have C4 := Lib.hid (addTimes_only g o (N + 2) c T (some ⟨a, p, none⟩) (N + 1) d b 1 B wr HR2.out HT2.out.ws (by rw [hTl]; exact HO.out) (by omega) HBL.out (HB.out.below (hbw.below.mono HGB.out)) HGB.out (by omega) (by rw [hTl]; exact HM.out))
   obtain ⟨k, rfl⟩ : ∃ k, of = k + 1 := ⟨of - 1, by omega⟩
   have k1 : IntKind.u32.wrap (((k + 1 : Nat) : Int) - 1) = (k : Int) := by rw [IntWalk.u32_in _ (by omega)]; omega
   have HTL := Lib.hid hTl
   have hkl : (k : Int) < 4294967296 := by omega
   clear m1 hofl hTl h0
   go_wp2_with fail
   refine C4.out.mono ?_
   rintro e w4 ⟨U, q4, rfl, hrow4, hadd, hb4⟩
   have hbw4 : Only g w w4 := hbw.trans hb4
   have hUl := hadd.len
   have hq4 := hadd.low
   obtain ⟨f1, f2, f3⟩ := HT2.out.back HB0.out (by rw [HBL.out]; have := HO.out; omega) hadd
   rw [HBL.out] at f1 f2 f3
   have hcell4 := hrow4.cell (o + (N + 1)) (by rw [hUl, HTL.out]; have := HO.out; omega)
   have hfz4 := hrow4.frozen (o + (N + 1))
   rw [f1] at hcell4
   have htl := HT2.out.ws.getD (o + (N + 1))
   obtain ⟨u4, hu4⟩ : ∃ u, T.getD (o + (N + 1)) 0 = u := ⟨_, rfl⟩
   rw [hu4] at hcell4 f2 f3 htl
   have C5 := Lib.hid (fun W => show Cp 186 #[.int .u32 (u4 : Nat), .int .u32 (q4 : Nat), .int .u32 0] W fun e w' => e = .returned (.tuple #[.int .u32 ((u4 + q4 + 0) % 4294967296 : Nat), .int .u32 ((u4 + q4 + 0) / 4294967296 : Nat)]) ∧ W = w' from add32_any u4 q4 0 W htl hq4 (by omega))
   obtain ⟨W4, hW4⟩ : ∃ W4, (u4 + q4 + 0) % 4294967296 = W4 := ⟨_, rfl⟩
   obtain ⟨c4, hc4⟩ : ∃ c4, (u4 + q4 + 0) / 4294967296 = c4 := ⟨_, rfl⟩
   rw [hW4, hc4] at C5 f3
   rw [hc4] at f2
   rw [Nat.add_sub_cancel] at f3
   have k2 : IntKind.u32.wrap ((bl : Int) - (c4 : Int)) = ((1 - c4 : Nat) : Int) := by rw [HBL1.out, IntWalk.u32_in _ (by omega)]; omega
   have HROW4 := Lib.hid (hrow4.set (o + (N + 1)) W4)
   have HST4 := Lib.hid f3
   have HBW4 := Lib.hid hbw4
   clear hrow4 hadd hb4 hbw4 hUl hq4 f1 f2 f3 htl hu4 hW4 hc4 C4
   go_wp2_with (go_at_call 186; refine (C5.out _).mono ?_; rintro e w' ⟨rfl, rfl⟩)
   go_roundw
   case rel => exact ⟨k, 1 - c4, _, rfl, rfl, HROW4, HST4, HBW4.out.setCell _⟩
   case measure => simp [intOf]

end Go.Proofs.YtfcpkdafkmohkaaGreatDoor
namespace Go.Proofs.YtfcpkdafkmohkaaGreatDoor
open Go.RowKit
theorem results_tmp3 {fn : Func} {t u v : Tmp} (h : fn.results = #[.tmp t, .tmp u, .tmp v]) (tmps : Array Value) (P : Program) (w : World) :
  (results fn tmps).run P w = .ok (.tuple #[tmps.getD t undef, tmps.getD u undef, tmps.getD v undef]) w := by
 simp [results, h]
def DivT (Q R : List Nat) (t : Nat) (w : World) (e : Ending) (w' : World) : Prop :=
 ∃ A n c C m d, e = .returned (.tuple #[.slice A n c, .slice C m d, .int .i64 (t : Nat)]) ∧ (n = Q.length ∧ n ≤ c ∧ m = R.length ∧ m ≤ d ∧ RW w' w'.heap.size A Q ∧ RW w' w'.heap.size C R) ∧ Below w.heap.size w w'
def divB (v u : Nat) : Bool := !(lngB v || lngB u) && !decide (u = 0)
def divQ (v u : Nat) : List Nat := if divB v u = true then wds (v / u) else []
def divR (v u : Nat) : List Nat := if divB v u = true then wds (v % u) else []
def divK (v u : Nat) : Nat := if (lngB v || lngB u) = true then 3 else if u = 0 then 4 else 0
theorem divB_ok {v u : Nat} (h : (lngB v || lngB u) = false) (hu : 0 < u) : divB v u = true := by
 unfold divB; rw [h, decide_eq_false (by omega)]; rfl
theorem DivT.ok {v u : Nat} {w w' : World} {A C : Option Addr} {n c m d : Nat} (h : (lngB v || lngB u) = false) (hu : 0 < u) (hn : n = (wds (v / u)).length) (hc : n ≤ c) (hm : m = (wds (v % u)).length) (hd : m ≤ d)
  (hA : RW w' w'.heap.size A (wds (v / u))) (hC : RW w' w'.heap.size C (wds (v % u))) (hb : Below w.heap.size w w') : DivT (divQ v u) (divR v u) (divK v u) w (.returned (.tuple #[.slice A n c, .slice C m d, .int .i64 0])) w' := by
 have e0 : divK v u = 0 := by unfold divK; rw [if_neg (by rw [h]; simp), if_neg (by omega)]
 unfold divQ divR
 rw [e0, if_pos (divB_ok h hu), if_pos (divB_ok h hu)]
 exact ⟨A, n, c, C, m, d, rfl, ⟨hn, hc, hm, hd, hA, hC⟩, hb⟩
theorem DivT.long {v u : Nat} {w w' : World} (h : (lngB v || lngB u) = true) (hb : Below w.heap.size w w') : DivT (divQ v u) (divR v u) (divK v u) w (.returned (.tuple #[.slice none 0 0, .slice none 0 0, .int .i64 3])) w' := by
 have e0 : divK v u = 3 := by unfold divK; rw [if_pos h]
 have e1 : divB v u = false := by unfold divB; rw [h]; rfl
 unfold divQ divR
 rw [e0, if_neg (by rw [e1]; simp), if_neg (by rw [e1]; simp)]
 exact ⟨none, 0, 0, none, 0, 0, rfl, ⟨rfl, Nat.le_refl _, rfl, Nat.le_refl _, RW.nil _ _ _, RW.nil _ _ _⟩, hb⟩
theorem DivT.zero {v u : Nat} {w w' : World} (h : (lngB v || lngB u) = false) (hu : u = 0) (hb : Below w.heap.size w w') : DivT (divQ v u) (divR v u) (divK v u) w (.returned (.tuple #[.slice none 0 0, .slice none 0 0, .int .i64 4])) w' := by
 have e0 : divK v u = 4 := by unfold divK; rw [if_neg (by rw [h]; simp), if_pos hu]
 have e1 : divB v u = false := by unfold divB; rw [decide_eq_true hu]; simp
 unfold divQ divR
 rw [e0, if_neg (by rw [e1]; simp), if_neg (by rw [e1]; simp)]
 exact ⟨none, 0, 0, none, 0, 0, rfl, ⟨rfl, Nat.le_refl _, rfl, Nat.le_refl _, RW.nil _ _ _, RW.nil _ _ _⟩, hb⟩
end Go.Proofs.YtfcpkdafkmohkaaGreatDoor
namespace Go.Proofs.YtfcpkdafkmohkaaGreatDoor
open Go.RowKit
end Go.Proofs.YtfcpkdafkmohkaaGreatDoor
namespace Go.Proofs.YtfcpkdafkmohkaaGreatDoor
open Go.RowKit
theorem shift_top {b : List Nat} {N : Nat} (hb : Ws b) (hN : b.length = N + 1) (hnb : nrm b = b) : 0 < b.getD N 0 ∧ 0 < Lib.bitLen (b.getD N 0) ∧ Lib.bitLen (b.getD N 0) ≤ 32 ∧ b.getD N 0 < 2 ^ Lib.bitLen (b.getD N 0) := by
 have h0 : nrm b ≠ [] := by rw [hnb]; intro e; rw [e] at hN; simp at hN
 have h1 := nrm_last h0
 rw [hnb, hN, Nat.add_sub_cancel] at h1
 have h2 := hb.getD N
 have h3 := bitLen_le32 _ h2
 obtain ⟨b1, b2, b3⟩ := Lib.bitLenAux_bounds 64 (b.getD N 0) (by omega) h1
 exact ⟨by omega, b1, h3, b3⟩
theorem ShlP.exact {R : List Nat} {o : Nat} {a : List Nat} {s N : Nat} {S : List Nat} (h : ShlP R o a s (N + 1) S) (hn : a.length = N + 1) (ht : a.getD N 0 < 2 ^ (32 - s)) : val ((S.drop o).take (N + 1)) = 2 ^ s * val a := by
 have h4 := h.sum
 have e : carL a s (N + 1) = 0 := by
  unfold carL
  rw [if_neg (by omega), Nat.add_sub_cancel]
  exact Nat.div_eq_of_lt ht
 rw [e, Nat.mul_zero, Nat.add_zero, val_take_end (l := a) (by omega)] at h4
 exact h4
theorem top_pos {S : List Nat} {N : Nat} (hS : Ws S) (hl : S.length = N + 1) (hv : 4294967296 ^ N ≤ val S) : 0 < S.getD N 0 := by
 rcases Nat.eq_zero_or_pos (S.getD N 0) with h | h
 ·have e := val_take_succ S N (by omega)
  rw [List.take_of_length_le (by omega), h, Nat.mul_zero, Nat.add_zero] at e
  have := val_lt (hS.take N)
  rw [List.length_take, Nat.min_eq_left (by omega)] at this
  omega
 ·exact h
def LongPost (n M va vb : Nat) (w : World) (e : Ending) (w' : World) : Prop :=
 ∃ S T g1 g2, e = .returned (.tuple #[.slice (some ⟨g2, 0, none⟩) M M, .slice (some ⟨g1, 0, none⟩) (n + 1) (n + 1)]) ∧ Row w' g2 S ∧ Row w' g1 T ∧ S.length = M ∧ T.length = n + 1 ∧ Ws S ∧ Ws T ∧ val S = va / vb ∧ val T = va % vb ∧ Below w.heap.size w w'
set_option maxRecDepth 100000 in
set_option maxHeartbeats 1000000 in
theorem divideLong_any (A C : Option Addr) (n c m M N d : Nat) (a b : List Nat) (w : World) (hn : a.length = n) (hm : n ≤ 1024) (h : RW w w.heap.size A a)
  (gn : b.length = m) (gN : m = N + 1) (g : RW w w.heap.size C b) (hnb : nrm b = b) (hM : n + 1 = M + m) (hM0 : 0 < M) :
  Cp 219 #[.slice A n c, .slice C m d] w (LongPost n M (val a) (val b) w) := by
 subst gN
 obtain ⟨t1, t2, t3, t4⟩ := shift_top g.1 gn hnb
 have h0 : nrm b ≠ [] := by rw [hnb]; intro e; rw [e] at gn; simp at gn
 have hge := val_ge h0
 rw [hnb, gn, Nat.add_sub_cancel] at hge
 obtain ⟨cb, coff, rfl, hcb, hcc⟩ := g.2 (by omega)
 have d1 := hcc N _ (getD_some (by omega))
 have htl := g.1.getD N
 obtain ⟨u, hu⟩ : ∃ u, b.getD N 0 = u := ⟨_, rfl⟩
 rw [hu] at d1 t1 t2 t3 t4 htl
 obtain ⟨L, hL⟩ : ∃ L, Lib.bitLen u = L := ⟨_, rfl⟩
 have C1 := Lib.hid (fun W => show Cp 238 #[.int .u32 (u : Nat)] W fun e w' => e = .returned (.int .i64 (32 - (L : Int))) ∧ W = w' from by
  have := Tryz.bits_LeadingZeros32 (u : Int) W (by omega) (by omega)
  rw [Int.toNat_natCast, hL] at this; exact this.mono fun _ _ ⟨x, y⟩ => ⟨x, y.symm⟩)
 rw [hL] at t2 t3 t4
 obtain ⟨s, hs⟩ : ∃ s, 32 - L = s := ⟨_, rfl⟩
 have hs2 : 32 - (L : Int) = (s : Int) := by omega
 rw [hs2] at C1
 have hs32 : s < 32 := by omega
 have HT4 := Lib.hid (show b.getD N 0 < 2 ^ (32 - s) by rw [hu, show 32 - s = L by omega]; exact t4)
 have hN1 : (N : Int) ≤ 1024 := by omega
 have hn1 : (n : Int) ≤ 1024 := by omega
 have hM1 : (1 : Int) ≤ (M : Int) := by omega
 have hM2 : (M : Int) ≤ 1024 := by omega
 have HA := Lib.hid h
 have HB := Lib.hid g
 have HGB := Lib.hid (show (b.length = N + 1 ∧ a.length = n) from ⟨gn, hn⟩)
 have HGE := Lib.hid hge
 have HM := Lib.hid hM
 have HM0 := Lib.hid hM0
 have hm1 := run_make_row' (P := Tryz.prog) 48 42 (.int .u32 0) 4 Tryz.underlying48 infoW rfl .i64 .i64 (N + 1) (by omega) (by omega) w
 rw [show ((N + 1 : Nat) : Int) = (N : Int) + 1 by omega] at hm1
 have hm2 := fun W => run_make_row' (P := Tryz.prog) 48 42 (.int .u32 0) 4 Tryz.underlying48 infoW rfl .i64 .i64 (n + 1) (by omega) (by omega) W
 rw [show ((n + 1 : Nat) : Int) = (n : Int) + 1 by omega] at hm2
 have hm3 := fun W => run_make_row' (P := Tryz.prog) 48 42 (.int .u32 0) 4 Tryz.underlying48 infoW rfl .i64 .i64 M (by omega) (by omega) W
 have HM2 := Lib.hid hm2
 have HM3 := Lib.hid hm3
 have hMe0 : IntKind.i64.wrap ((n : Int) - ((N : Int) + 1)) = (n : Int) - ((N : Int) + 1) := IntWalk.i64_in _ (by omega)
 have hMe : IntKind.i64.wrap (((n : Int) - ((N : Int) + 1)) + 1) = (M : Int) := by rw [IntWalk.i64_in _ (by omega)]; omega
 have hR1 := Row.made w (N + 1)
 have hB1 : Below w.heap.size w (w.alloc (.cells (madeCells #[.int .u32 0] (N + 1)) 42)) := (Below.refl _ _).alloc (Nat.le_refl _) _
 have hz1 : (w.alloc (.cells (madeCells #[.int .u32 0] (N + 1)) 42)).heap.size = w.heap.size + 1 := by simp
 obtain ⟨w1, hw1⟩ : ∃ w1, w.alloc (.cells (madeCells #[.int .u32 0] (N + 1)) 42) = w1 := ⟨_, rfl⟩
 rw [hw1] at hR1 hB1 hz1 hm1
 have C2 := Lib.hid (shl_any w.heap.size 0 (N + 1) (N + 1) s (List.replicate (N + 1) 0) (some ⟨cb, coff, none⟩) (N + 1) d b w.heap.size w1 hR1 (Ws.zeros _) (by rw [List.length_replicate]; omega) gn (by omega) (by omega) (g.below hB1) (Nat.le_refl _) hs32)
 have HB1 := Lib.hid hB1
 have HZ1 := Lib.hid hz1
 clear t1 t2 t3 t4 hu hL hs hs2 htl hcc h g hn gn hge hM hM0 hnb h0 hm hm2 hm3 hR1 hB1 hz1 hw1
 go_enter Tryz.func219, Tryz.ntmps219
 go_wp2_with fail
 refine (C1.out _).mono ?_
 rintro e w' ⟨rfl, rfl⟩
 go_wp2_with fail
 refine C2.out.mono ?_
 rintro e w2 ⟨rfl, D, hD, hRD, hbD⟩
 have hB2 : Below w.heap.size w w2 := HB1.out.trans hbD
 have hg0 := hRD.lt
 have hDl : D.length = N + 1 := by rw [hD.len, List.length_replicate]
 have hDv : val D = 2 ^ s * val b := by
  have := hD.exact HGB.out.1 HT4.out
  rw [List.drop_zero, List.take_of_length_le (by omega)] at this
  exact this
 have hDw := hD.ws
 have hm2 := HM2.out w2
 have hR2 := Row.made w2 (n + 1)
 have hB3 : Below w.heap.size w (w2.alloc (.cells (madeCells #[.int .u32 0] (n + 1)) 42)) := hB2.alloc hB2.size _
 have hB23 : Below w2.heap.size w2 (w2.alloc (.cells (madeCells #[.int .u32 0] (n + 1)) 42)) := (Below.refl _ _).alloc (Nat.le_refl _) _
 have C3 := Lib.hid (shl_any w2.heap.size 0 (n + 1) (n + 1) s (List.replicate (n + 1) 0) A n c a w.heap.size _ hR2 (Ws.zeros _) (by rw [List.length_replicate]; omega) HGB.out.2 (by omega) (by omega) (HA.out.below hB3) hB2.size hs32)
 have HRD := Lib.hid (hRD.below hg0 hB23)
 have HD := Lib.hid (show D.length = N + 1 ∧ val D = 2 ^ s * val b ∧ Ws D from ⟨hDl, hDv, hDw⟩)
 have HB3 := Lib.hid hB3
 have HG0 := Lib.hid hg0
 clear hD hRD hbD hB2 hg0 hDl hDv hDw hR2 hB3 hB23 hm1 C1 C2
 go_wp2_with fail
 refine C3.out.mono ?_
 rintro e w4 ⟨rfl, R, hR, hRR, hbR⟩
 have hB4 : Below w.heap.size w w4 := HB3.out.trans (hbR.mono (Nat.le_of_lt HG0.out))
 have hg1 := hRR.lt
 have hRl : R.length = n + 1 := by rw [hR.len, List.length_replicate]
 have hRv : val R = 2 ^ s * val a := by
  have := hR.whole (by rw [HGB.out.2]; omega)
  rw [List.drop_zero, List.take_of_length_le (by omega)] at this
  exact this
 have hRw := hR.ws
 have hRD4 : Row w4 w.heap.size D := HRD.out.below HG0.out hbR
 have hm3 := HM3.out w4
 have hQ5 := Row.made w4 M
 have hB5 : Below w.heap.size w (w4.alloc (.cells (madeCells #[.int .u32 0] M) 42)) := hB4.alloc hB4.size _
 have hB45 : Below w4.heap.size w4 (w4.alloc (.cells (madeCells #[.int .u32 0] M) 42)) := (Below.refl _ _).alloc (Nat.le_refl _) _
 have HQ5 := Lib.hid hQ5
 have HR5 := Lib.hid (hRR.below hg1 hB45)
 have HD5 := Lib.hid (hRD4.below (Nat.lt_trans HG0.out hg1) hB45)
 have HB5 := Lib.hid hB5
 have HG1 := Lib.hid hg1
 have hlong := LongT.start (va := val a) (vb := val b) (s := s) (la := n) (n := N + 1) (M := M) hRw (by rw [hRl]; exact HM.out) HM.out (by omega) (by have := val_lt HA.out.1; rw [HGB.out.2] at this; exact this) (by rw [Nat.add_sub_cancel]; exact HGE.out) hRv
 have HLONG := Lib.hid hlong
 have hDp : 0 < val b := Nat.lt_of_lt_of_le (Nat.pow_pos (by omega)) HGE.out
 have HDP := Lib.hid (show 0 < 2 ^ s * val b ∧ 2 ^ s * val b < 4294967296 ^ (N + 1) ∧ 0 < D.getD N 0 by
  have h1 := val_lt HD.out.2.2
  rw [HD.out.2.1, HD.out.1] at h1
  refine ⟨Nat.mul_pos (Nat.two_pow_pos s) hDp, h1, top_pos HD.out.2.2 HD.out.1 ?_⟩
  rw [HD.out.2.1]
  exact Nat.le_trans HGE.out (Nat.le_mul_of_pos_left _ (Nat.two_pow_pos s)))
 clear hR hRR hbR hB4 hg1 hRl hRv hRw hRD4 hQ5 hB5 hB45 hlong hDp hm2 C3
 go_wp2
 clear hm3
 go_loopw [10] (fun i wr => ∃ (k : Nat) (R Q : List Nat), i = .int .i64 ((k : Int) - 1) ∧ k ≤ M ∧ Hid (Row wr w2.heap.size R) ∧ Hid (Row wr w4.heap.size Q) ∧ Hid (Row wr w.heap.size D) ∧ Hid (LongT (2 ^ s * val a) (2 ^ s * val b) (N + 1) M k R Q) ∧ Below w.heap.size w wr) (fun i _ => (intOf i + 1).toNat)
 case atStart => exact ⟨M, R, _, rfl, Nat.le_refl _, HR5, HQ5, HD5, HLONG, HB5.out⟩
 case round =>
  obtain ⟨k, R2, Q, rfl, hk, HR, HQ, HDD, HT, hbw⟩ := hrel
  have hRl := HT.out.lenR
  have hQl := HT.out.lenQ
  have hMn := HM.out
  by_cases h0 : k = 0
  ·subst h0
   obtain ⟨f1, f2⟩ := HT.out.fin HDP.out.1
   rw [Nat.mul_div_mul_left _ _ (Nat.two_pow_pos s)] at f1
   rw [Nat.mul_mod_mul_left] at f2
   have C1 := Lib.hid (shr_self w2.heap.size (n + 1) (n + 1) (n + 1) s R2 wr HR.out HT.out.wsR (by omega) (by omega) hs32)
   have HF1 := Lib.hid f1
   have HF2 := Lib.hid f2
   have HQW := Lib.hid HT.out.wsQ
   have HL := Lib.hid (show Q.length = M ∧ R2.length = n + 1 from ⟨hQl, by omega⟩)
   have HNE := Lib.hid (show w4.heap.size ≠ w2.heap.size from Nat.ne_of_gt HG1.out)
   have HBG := Lib.hid (Nat.le_of_lt (Nat.lt_of_lt_of_le HG0.out (Nat.le_refl _)))
   clear f1 f2 hRl hQl hMn
   go_wp2_with fail
   refine C1.out.mono ?_
   rintro e w5 ⟨rfl, S, hS, hRow, hO⟩
   have hv := hS.whole (by rw [HL.out.2]; exact Nat.le_refl _)
   have hSl := hS.len
   rw [List.drop_zero, List.take_of_length_le (by rw [hSl, HL.out.2]; exact Nat.le_refl _), HF2.out, Nat.mul_div_cancel_left _ (Nat.two_pow_pos s)] at hv
   have HFIN := Lib.hid (show LongPost n M (val a) (val b) w (.returned (.tuple #[.slice (some ⟨w4.heap.size, 0, none⟩) M M, .slice (some ⟨w2.heap.size, 0, none⟩) (n + 1) (n + 1)])) w5 from
    ⟨Q, S, w2.heap.size, w4.heap.size, rfl, HQ.out.only HNE.out hO, hRow, HL.out.1, by rw [hSl, HL.out.2], HQW.out, hS.ws, HF1.out, hv, hbw.trans (hO.below.mono HBG.out)⟩)
   clear hS hRow hO hv hSl C1
   go_wp2
   go_ret2
   exact HFIN.out
  ·obtain ⟨j, rfl⟩ : ∃ j, k = j + 1 := ⟨k - 1, by omega⟩
   rw [show (((j + 1 : Nat) : Int) - 1) = (j : Int) by omega]
   obtain ⟨p1, p2⟩ := HT.out.part (by omega) HDP.out.2.1
   have C1 := Lib.hid (step_any w2.heap.size j (N + 2) (n + 1 - j) R2 (some ⟨w.heap.size, 0, none⟩) N (N + 1) (N + 1) D (w.heap.size + 1) wr HR.out HT.out.wsR rfl rfl (by omega) HD.out.1 (HDD.out.rw0 HD.out.2.2) HG0.out (by omega) (by rw [HD.out.2.1]; exact HDP.out.1) HDP.out.2.2 (by rw [HD.out.1, HD.out.2.1]; exact p2))
   have HNX := Lib.hid (fun S h1 h2 h3 h4 => HT.out.next (S := S) (by omega) HDP.out.2.1 HDP.out.1 h1 h2 h3 h4)
   unfold StepPost at C1
   rw [HD.out.1, HD.out.2.1] at C1
   obtain ⟨q, hq⟩ : ∃ q, val ((R2.drop j).take (N + 1 + 1)) / (2 ^ s * val b) = q := ⟨_, rfl⟩
   rw [hq] at C1 HNX
   have hcell := fun (W : World) (h : Row W w4.heap.size Q) => h.cell j (by omega)
   have hfz := fun (W : World) (h : Row W w4.heap.size Q) => h.frozen j
   have HCELL := Lib.hid hcell
   have HFZ := Lib.hid hfz
   have HNE := Lib.hid (show w4.heap.size ≠ w2.heap.size ∧ w.heap.size ≠ w2.heap.size ∧ w2.heap.size ≠ w4.heap.size ∧ w.heap.size ≠ w4.heap.size from by
    have h1 := HG1.out
    have h2 := HG0.out
    omega)
   have HBG := Lib.hid (show w.heap.size ≤ w2.heap.size ∧ w.heap.size ≤ w4.heap.size from by
    have h1 := HG1.out
    have h2 := HG0.out
    omega)
   have hj1 : (j : Int) < (M : Int) := by omega
   have hjn : (j : Int) + (N : Int) + 2 ≤ (n : Int) + 1 := by omega
   have hjn2 : j + (N + 2) ≤ n + 1 := by omega
   have hk2 : j + 1 ≤ M := hk
   clear hRl hQl hMn hk h0 p1 p2 hq hcell hfz
   go_wp2_with fail
   rw [show j + (N + 1) + 1 - j = N + 2 by omega]
   refine C1.out.mono ?_
   rintro e w5 ⟨S, rfl, hrow, hlen, hws, hfar, hval, hO⟩
   have rQ := HQ.out.only HNE.out.1 hO
   have rD := HDD.out.only HNE.out.2.1 hO
   have hcell := HCELL.out w5 rQ
   have hfz := HFZ.out w5 rQ
   have HTN := Lib.hid (HNX.out S hlen hws hfar hval)
   have HQ2 := Lib.hid (rQ.set j q)
   have HR2 := Lib.hid (show Row (w5.setCell ⟨w4.heap.size, j, none⟩ (.int .u32 (q : Nat))) w2.heap.size S from (Below.heap_setCell w5 _ _ _ HNE.out.2.2.1).trans hrow)
   have HD2 := Lib.hid (show Row (w5.setCell ⟨w4.heap.size, j, none⟩ (.int .u32 (q : Nat))) w.heap.size D from (Below.heap_setCell w5 _ _ _ HNE.out.2.2.2).trans rD)
   have HB2 := Lib.hid ((hbw.trans (hO.below.mono HBG.out.1)).setCell (p := ⟨w4.heap.size, j, none⟩) HBG.out.2 (.int .u32 (q : Nat)))
   clear hrow hlen hws hfar hval hO rQ rD C1 HNX
   go_wp2
   go_roundw
   case rel => exact ⟨j, S, _, by go_num, by omega, HR2, HQ2, HD2, HTN, HB2.out⟩
   case measure => simp [intOf]
end Go.Proofs.YtfcpkdafkmohkaaGreatDoor
namespace Go.Proofs.YtfcpkdafkmohkaaGreatDoor
open Go.RowKit
set_option maxHeartbeats 1000000 in
theorem div_long (A C : Option Addr) (n c m d : Nat) (l k : List Nat) (w : World) (hn : l.length = n) (hc : n ≤ c) (hm : n ≤ 35184372088832) (h : RW w w.heap.size A l)
  (gn : k.length = m) (gc : m ≤ d) (gm : m ≤ 35184372088832) (g : RW w w.heap.size C k) (hl : (lngB (val l) || lngB (val k)) = true) :
  Cp 174 #[.slice A n c, .slice C m d] w (DivT (divQ (val l) (val k)) (divR (val l) (val k)) (divK (val l) (val k)) w) := by
 have c1 := tooTwo_any A C n c m d l k w hn hc hm h gn gc gm g
 have hp : Below w.heap.size w (pair w (.slice A n c) (.slice C m d)) := (Below.refl _ _).alloc (Nat.le_refl _) _
 have HF := Lib.hid (DivT.long (w := w) hl hp)
 rw [hl] at c1
 clear h g hn hc hm gn gc gm hl hp
 go_enter Tryz.func174, Tryz.ntmps174
 go_wp2_with fail
 refine c1.mono ?_
 rintro e w1 ⟨rfl, rfl⟩
 go_wp2
 (try simp only [Exit.inBlock, Exit.then])
 refine bodyPost_ret (results_tmp3 rfl _ _ _) rfl ?_
 exact HF.out
set_option maxRecDepth 100000 in
set_option maxHeartbeats 2000000 in
theorem div_zero (A C : Option Addr) (n c m d : Nat) (l k : List Nat) (w : World) (hn : l.length = n) (hc : n ≤ c) (hm : n ≤ 35184372088832) (h : RW w w.heap.size A l)
  (gn : k.length = m) (gc : m ≤ d) (gm : m ≤ 35184372088832) (g : RW w w.heap.size C k) (hl : (lngB (val l) || lngB (val k)) = false) (hk : val k = 0) :
  Cp 174 #[.slice A n c, .slice C m d] w (DivT (divQ (val l) (val k)) (divR (val l) (val k)) (divK (val l) (val k)) w) := by
 have c1 := tooTwo_any A C n c m d l k w hn hc hm h gn gc gm g
 have hp : Below w.heap.size w (pair w (.slice A n c) (.slice C m d)) := (Below.refl _ _).alloc (Nat.le_refl _) _
 have HF := Lib.hid (DivT.zero (w := w) hl hk hp)
 rw [hl] at c1
 have c2 := cut_any A n c l w.heap.size _ hn hc hm (h.below hp)
 have c3 := cut_any C m d k w.heap.size _ gn gc gm (g.below hp)
 rw [nrm_val_zero hk] at c3
 clear h g hn hc hm gn gc gm hl hp hk
 go_enter Tryz.func174, Tryz.ntmps174
 go_wp2_with fail
 refine c1.mono ?_
 rintro e w1 ⟨rfl, rfl⟩
 go_wp2_with fail
 refine c2.mono ?_
 rintro e w1 ⟨rfl, rfl⟩
 go_wp2_with fail
 refine c3.mono ?_
 rintro e w1 ⟨rfl, rfl⟩
 go_wp2
 (try simp only [Exit.inBlock, Exit.then])
 refine bodyPost_ret (results_tmp3 rfl _ _ _) rfl ?_
 exact HF.out
set_option maxRecDepth 100000 in
set_option maxHeartbeats 2000000 in
theorem div_small (A C : Option Addr) (n c m d : Nat) (l k : List Nat) (w : World) (hn : l.length = n) (hc : n ≤ c) (hm : n ≤ 35184372088832) (h : RW w w.heap.size A l)
  (gn : k.length = m) (gc : m ≤ d) (gm : m ≤ 35184372088832) (g : RW w w.heap.size C k) (hl : (lngB (val l) || lngB (val k)) = false) (hlt : (nrm l).length < (nrm k).length) :
  Cp 174 #[.slice A n c, .slice C m d] w (DivT (divQ (val l) (val k)) (divR (val l) (val k)) (divK (val l) (val k)) w) := by
 have c1 := tooTwo_any A C n c m d l k w hn hc hm h gn gc gm g
 have hp : Below w.heap.size w (pair w (.slice A n c) (.slice C m d)) := (Below.refl _ _).alloc (Nat.le_refl _) _
 rw [hl] at c1
 have c2 := cut_any A n c l w.heap.size _ hn hc hm (h.below hp)
 have c3 := cut_any C m d k w.heap.size _ gn gc gm (g.below hp)
 obtain ⟨hl1, hl2⟩ : lngB (val l) = false ∧ lngB (val k) = false := by simpa using hl
 have n1 := lng_len h.1 hl1
 have n2 := lng_len g.1 hl2
 have hval := cmp_len h.1 hlt
 have e1 : val l / val k = 0 := Nat.div_eq_of_lt hval
 have e2 : val l % val k = val l := Nat.mod_eq_of_lt hval
 obtain ⟨N, hN⟩ : ∃ N, (nrm l).length = N := ⟨_, rfl⟩
 obtain ⟨M, hM⟩ : ∃ M, (nrm k).length = M := ⟨_, rfl⟩
 rw [hN] at n1 c2 hlt
 rw [hM] at n2 c3 hlt
 obtain ⟨W, hW⟩ : ∃ W, pair w (.slice A n c) (.slice C m d) = W := ⟨_, rfl⟩
 rw [hW] at c1 c2 c3 hp
 have HOK := Lib.hid (fun (w' : World) A2 n2 c2 C2 m2 d2 h3 h4 h5 h6 h7 h8 h9 => DivT.ok (w := w) (w' := w') (A := A2) (C := C2) (n := n2) (c := c2) (m := m2) (d := d2) hl (by omega) h3 h4 h5 h6 h7 h8 h9)
 rw [e1, e2] at HOK
 have hND : (wds (val l)).length = N := by rw [← nrm_wds h.1]; exact hN
 have c4 := (normT A N N (nrm l) N W hN (Nat.le_refl _) (by omega) ((h.nrm.below hp).more hp.size) (by rw [nrm_nrm]; exact hN))
 rw [nrm_nrm, nrm_wds h.1] at c4
 have HW := Lib.hid hW
 have HP := Lib.hid hp
 have HND := Lib.hid hND
 have z0 : ((M : Int) == 0) = false := by simp; omega
 have z1 : (N : Int) < (M : Int) := by omega
 clear h g hn hc hm gn gc gm hl hp hl1 hl2 n1 n2 hval e1 e2 hN hM hW hND hlt
 go_enter Tryz.func174, Tryz.ntmps174
 go_wp2_with fail
 rw [show w.alloc (.cells #[.slice A n c, .slice C m d] 48) = W from HW.out]
 refine c1.mono ?_
 rintro e w1 ⟨rfl, rfl⟩
 go_wp2_with fail
 refine c2.mono ?_
 rintro e w1 ⟨rfl, rfl⟩
 go_wp2_with fail
 refine c3.mono ?_
 rintro e w1 ⟨rfl, rfl⟩
 go_wp2_with fail
 refine c4.mono ?_
 rintro e w2 ⟨A2, c2, rfl, ⟨hc2, r2⟩, b2⟩
 have HF := Lib.hid (HOK.out w2 none 0 0 A2 N c2 rfl (Nat.le_refl _) HND.out.symm hc2 (RW.nil _ _ _) r2 (below_le HP.out b2))
 clear r2 hc2 b2
 go_wp2
 (try simp only [Exit.inBlock, Exit.then])
 refine bodyPost_ret (results_tmp3 rfl _ _ _) rfl ?_
 exact HF.out
set_option maxRecDepth 100000 in
set_option maxHeartbeats 4000000 in
theorem div_word (A C : Option Addr) (n c m d : Nat) (l k : List Nat) (w : World) (hn : l.length = n) (hc : n ≤ c) (hm : n ≤ 35184372088832) (h : RW w w.heap.size A l)
  (gn : k.length = m) (gc : m ≤ d) (gm : m ≤ 35184372088832) (g : RW w w.heap.size C k) (hl : (lngB (val l) || lngB (val k)) = false) (hle : (nrm k).length ≤ (nrm l).length) (h1k : (nrm k).length = 1) :
  Cp 174 #[.slice A n c, .slice C m d] w (DivT (divQ (val l) (val k)) (divR (val l) (val k)) (divK (val l) (val k)) w) := by
 have c1 := tooTwo_any A C n c m d l k w hn hc hm h gn gc gm g
 have hp : Below w.heap.size w (pair w (.slice A n c) (.slice C m d)) := (Below.refl _ _).alloc (Nat.le_refl _) _
 rw [hl] at c1
 have c2 := cut_any A n c l w.heap.size _ hn hc hm (h.below hp)
 have c3 := cut_any C m d k w.heap.size _ gn gc gm (g.below hp)
 obtain ⟨hl1, hl2⟩ : lngB (val l) = false ∧ lngB (val k) = false := by simpa using hl
 have n1 := lng_len h.1 hl1
 obtain ⟨u, hu⟩ : ∃ u, nrm k = [u] := List.length_eq_one_iff.1 h1k
 have hkv : val k = u := by rw [← val_nrm, hu]; simp [val]
 have hgB := g.nrm
 rw [hu] at hgB c3
 have hul : u < 4294967296 := hgB.1 u (by simp)
 have hu0 : 0 < u := by
  rcases Nat.eq_zero_or_pos u with h0 | h0
  ·have := nrm_val_zero (l := k) (by rw [hkv, h0])
   rw [this] at hu; cases hu
  ·exact h0
 obtain ⟨b, off, hCe, hbB, hcell⟩ := hgB.2 (by simp)
 have d0 := hcell 0 u rfl
 rw [Nat.add_zero] at d0
 subst hCe
 obtain ⟨N, hN⟩ : ∃ N, (nrm l).length = N := ⟨_, rfl⟩
 rw [h1k, hN] at hle
 rw [hN] at n1 c2
 obtain ⟨W, hW⟩ : ∃ W, pair w (.slice A n c) (.slice (some ⟨b, off, none⟩) m d) = W := ⟨_, rfl⟩
 rw [hW] at c1 c2 c3 hp
 have HOK := Lib.hid (fun (w' : World) A2 n2 c2 C2 m2 d2 h3 h4 h5 h6 h7 h8 h9 => DivT.ok (w := w) (w' := w') (A := A2) (C := C2) (n := n2) (c := c2) (m := m2) (d := d2) hl (by omega) h3 h4 h5 h6 h7 h8 h9)
 have c4 := norm_row A N N (nrm l) W hN (Nat.le_refl _) (by omega) ((h.nrm.below hp).more hp.size)
 rw [nrm_nrm, hN] at c4
 have C5 := Lib.hid (fun W2 (r : Row W2 W.heap.size (nrm l)) => divideWord_any W.heap.size N N u (nrm l) W2 r h.1.nrm hN (by omega) hul hu0)
 rw [val_nrm] at C5
 rw [hkv] at HOK ⊢
 have hrl : val l % u < u := Nat.mod_lt _ hu0
 obtain ⟨q, hq⟩ : ∃ q, val l / u = q := ⟨_, rfl⟩
 obtain ⟨z, hz⟩ : ∃ z, val l % u = z := ⟨_, rfl⟩
 rw [hq, hz] at HOK C5
 rw [hz] at hrl
 have C7 := Lib.hid (fun W => (of_any z (by omega) W).mono fun _ _ y => y.told (n := (wds z).length) (by rw [two_wds z (by omega)]))
 rw [two_wds z (by omega)] at C7
 have HW := Lib.hid hW
 have HP := Lib.hid hp
 rw [← hp.cell (p := ⟨b, off, none⟩) hbB] at d0
 have z0 : ((1 : Int) == 0) = false := rfl
 have z1 : ¬ (N : Int) < 1 := by omega
 have z2 : IntKind.u64.wrap (z : Int) = (z : Int) := IntWalk.u64_in _ (by omega)
 have HN1 := Lib.hid n1
 clear h g hn hc hm gn gc gm hl hp hl1 hl2 n1 hkv hu hul hu0 hN hW hle h1k hgB hcell hrl hq hz
 go_enter Tryz.func174, Tryz.ntmps174
 go_wp2_with fail
 rw [show w.alloc (.cells #[.slice A n c, .slice (some ⟨b, off, none⟩) m d] 48) = W from HW.out]
 refine c1.mono ?_
 rintro e w1 ⟨rfl, rfl⟩
 go_wp2_with fail
 refine c2.mono ?_
 rintro e w1 ⟨rfl, rfl⟩
 go_wp2_with fail
 refine c3.mono ?_
 rintro e w1 ⟨rfl, rfl⟩
 go_wp2_with fail
 refine c4.mono ?_
 rintro e w2 ⟨rfl, r2, b2⟩
 have d2 := d0
 rw [← b2.cell (p := ⟨b, off, none⟩) (Nat.lt_of_lt_of_le hbB HP.out.size)] at d2
 have C6 := C5.out _ r2
 clear c1 c2 c3 c4 C5 r2
 go_wp2_with fail
 refine C6.mono ?_
 rintro e w3 ⟨rfl, S, r3, s1, s2, s3, b3⟩
 have B3 := below_le HP.out (b2.trans b3)
 have hlt3 := r3.lt
 have c8 := cut_any (some ⟨W.heap.size, 0, none⟩) N N S w3.heap.size w3 s1 (Nat.le_refl _) (by have := HN1.out; omega) ((r3.rw0 s2).more hlt3)
 have HR3 := Lib.hid ((r3.rw0 s2).more hlt3).nrm
 rw [nrm_wds s2, s3] at c8 HR3
 have HLQ := Lib.hid (show (wds q).length ≤ N by rw [← s3, ← nrm_wds s2, ← s1]; exact nrm_len S)
 clear r3 s1 s2 s3 b3 b2 C6 d0 hlt3
 go_wp2_with fail
 refine c8.mono ?_
 rintro e w' ⟨rfl, rfl⟩
 go_wp2_with fail
 refine (C7.out _).mono ?_
 rintro e w4 ⟨A4, c4, rfl, ⟨hc4, r4⟩, b4⟩
 have HF := Lib.hid (HOK.out w4 _ _ (wds q).length A4 _ c4 rfl (Nat.le_refl _) rfl hc4 (HR3.out.step b4) r4 (below_le B3 b4))
 clear r4 hc4 b4
 go_wp2
 (try simp only [Exit.inBlock, Exit.then])
 refine bodyPost_ret (results_tmp3 rfl _ _ _) rfl ?_
 exact HF.out
set_option maxRecDepth 100000 in
set_option maxHeartbeats 400000 in
theorem div_many (A C : Option Addr) (n c m d : Nat) (l k : List Nat) (w : World) (hn : l.length = n) (hc : n ≤ c) (hm : n ≤ 35184372088832) (h : RW w w.heap.size A l)
  (gn : k.length = m) (gc : m ≤ d) (gm : m ≤ 35184372088832) (g : RW w w.heap.size C k) (hl : (lngB (val l) || lngB (val k)) = false) (hle : (nrm k).length ≤ (nrm l).length) (h1k : 1 < (nrm k).length) :
  Cp 174 #[.slice A n c, .slice C m d] w (DivT (divQ (val l) (val k)) (divR (val l) (val k)) (divK (val l) (val k)) w) := by
 have c1 := tooTwo_any A C n c m d l k w hn hc hm h gn gc gm g
 have hp : Below w.heap.size w (pair w (.slice A n c) (.slice C m d)) := (Below.refl _ _).alloc (Nat.le_refl _) _
 rw [hl] at c1
 have c2 := cut_any A n c l w.heap.size _ hn hc hm (h.below hp)
 have c3 := cut_any C m d k w.heap.size _ gn gc gm (g.below hp)
 obtain ⟨hl1, hl2⟩ : lngB (val l) = false ∧ lngB (val k) = false := by simpa using hl
 have n1 := lng_len h.1 hl1
 have n2 := lng_len g.1 hl2
 have hk0 : 0 < val k := by
  rcases Nat.eq_zero_or_pos (val k) with h0 | h0
  ·rw [nrm_val_zero h0] at h1k; simp at h1k
  ·exact h0
 obtain ⟨N, hN⟩ : ∃ N, (nrm l).length = N := ⟨_, rfl⟩
 obtain ⟨M, hM⟩ : ∃ M, (nrm k).length = M := ⟨_, rfl⟩
 rw [hN] at n1 c2 hle
 rw [hM] at n2 c3 hle h1k
 obtain ⟨W, hW⟩ : ∃ W, pair w (.slice A n c) (.slice C m d) = W := ⟨_, rfl⟩
 rw [hW] at c1 c2 c3 hp
 have HOK := Lib.hid (fun (w' : World) A2 n2 c2 C2 m2 d2 h3 h4 h5 h6 h7 h8 h9 => DivT.ok (w := w) (w' := w') (A := A2) (C := C2) (n := n2) (c := c2) (m := m2) (d := d2) hl hk0 h3 h4 h5 h6 h7 h8 h9)
 obtain ⟨K, hK⟩ : ∃ K, N + 1 = K + M := ⟨N + 1 - M, by omega⟩
 have c4 := divideLong_any A C N N M K (M - 1) M (nrm l) (nrm k) W hN n1 ((h.nrm.below hp).more hp.size) hM (by omega) ((g.nrm.below hp).more hp.size) (nrm_nrm k) hK (by omega)
 rw [val_nrm, val_nrm] at c4
 have HW := Lib.hid hW
 have HP := Lib.hid hp
 have z0 : ((M : Int) == 0) = false := by simp; omega
 have z1 : ¬ (N : Int) < (M : Int) := by omega
 have z2 : ((M : Int) == 1) = false := by simp; omega
 have HK := Lib.hid (show K ≤ 1024 ∧ N + 1 ≤ 1025 by omega)
 obtain ⟨q, hq⟩ : ∃ q, val l / val k = q := ⟨_, rfl⟩
 obtain ⟨z, hz⟩ : ∃ z, val l % val k = z := ⟨_, rfl⟩
 rw [hq, hz] at HOK
 unfold LongPost at c4
 rw [hq, hz] at c4
 clear h g hn hc hm gn gc gm hl hp hl1 hl2 n1 n2 hN hM hW hle h1k hk0 hq hz hK
 go_enter Tryz.func174, Tryz.ntmps174
 go_wp2_with fail
 rw [show w.alloc (.cells #[.slice A n c, .slice C m d] 48) = W from HW.out]
 refine c1.mono ?_
 rintro e w1 ⟨rfl, rfl⟩
 go_wp2_with fail
 refine c2.mono ?_
 rintro e w1 ⟨rfl, rfl⟩
 go_wp2_with fail
 refine c3.mono ?_
 rintro e w1 ⟨rfl, rfl⟩
 go_wp2_with fail
 refine c4.mono ?_
 rintro e w2 ⟨S, T, g1, g2, rfl, r2, t2, s1, s2, s3, s4, s5, s6, b2⟩
 have B2 := below_le HP.out b2
 have hlt2 := r2.lt
 have hlt3 := t2.lt
 have c5 := cut_any (some ⟨g2, 0, none⟩) K K S w2.heap.size w2 s1 (Nat.le_refl _) (by have := HK.out; omega) ((r2.rw0 s3).more hlt2)
 have c6 := cut_any (some ⟨g1, 0, none⟩) (N + 1) (N + 1) T w2.heap.size w2 s2 (Nat.le_refl _) (by have := HK.out; omega) ((t2.rw0 s4).more hlt3)
 have HR2 := Lib.hid ((r2.rw0 s3).more hlt2).nrm
 have HR3 := Lib.hid ((t2.rw0 s4).more hlt3).nrm
 rw [nrm_wds s3, s5] at c5 HR2
 rw [nrm_wds s4, s6] at c6 HR3
 have HF := Lib.hid (HOK.out w2 _ _ (wds q).length _ _ (wds z).length rfl (Nat.le_refl _) rfl (Nat.le_refl _) HR2.out HR3.out B2)
 clear r2 t2 s1 s2 s3 s4 s5 s6 b2 hlt2 hlt3 c1 c2 c3 c4
 go_wp2_with fail
 refine c5.mono ?_
 rintro e w' ⟨rfl, rfl⟩
 go_wp2_with fail
 refine c6.mono ?_
 rintro e w' ⟨rfl, rfl⟩
 go_wp2
 (try simp only [Exit.inBlock, Exit.then])
 refine bodyPost_ret (results_tmp3 rfl _ _ _) rfl ?_
 exact HF.out
theorem div_any (A C : Option Addr) (n c m d : Nat) (l k : List Nat) (w : World) (hn : l.length = n) (hc : n ≤ c) (hm : n ≤ 35184372088832) (h : RW w w.heap.size A l)
  (gn : k.length = m) (gc : m ≤ d) (gm : m ≤ 35184372088832) (g : RW w w.heap.size C k) :
  Cp 174 #[.slice A n c, .slice C m d] w (DivT (divQ (val l) (val k)) (divR (val l) (val k)) (divK (val l) (val k)) w) := by
 cases hl : (lngB (val l) || lngB (val k))
 ·rcases Nat.eq_zero_or_pos (val k) with h0 | h0
  ·exact div_zero A C n c m d l k w hn hc hm h gn gc gm g hl h0
  ·have hp : 0 < (nrm k).length := List.length_pos_iff.2 (fun e => by rw [← val_nrm, e] at h0; simp [val] at h0)
   rcases Nat.lt_or_ge (nrm l).length (nrm k).length with h1 | h1
   ·exact div_small A C n c m d l k w hn hc hm h gn gc gm g hl h1
   ·by_cases h2 : (nrm k).length = 1
    ·exact div_word A C n c m d l k w hn hc hm h gn gc gm g hl h1 h2
    ·exact div_many A C n c m d l k w hn hc hm h gn gc gm g hl h1 (by omega)
 ·exact div_long A C n c m d l k w hn hc hm h gn gc gm g hl

end Go.Proofs.YtfcpkdafkmohkaaGreatDoor
namespace Go.Proofs.YtfcpkdafkmohkaaGreatDoor
open Go.RowKit
theorem NatPost.err {v : Nat} {w w' : World} {e : Ending} (h : NatPost v w e w') (hl : lngB v = true) : e = .returned (.tuple #[.slice none 0 0, .int .i64 3]) ∧ Below w.heap.size w w' := by
 obtain ⟨A, n, c, k, h1, h2, h3⟩ := h
 rw [if_pos hl] at h2
 obtain ⟨rfl, rfl, rfl, rfl⟩ := h2
 exact ⟨h1, h3⟩
theorem bit_test (n i : Nat) (hn : n < 9223372036854775808) : bits BinOp.and IntKind.i64 ((n : Int) / 2 ^ i) 1 = ((n / 2 ^ i % 2 : Nat) : Int) := by
 have h1 : n / 2 ^ i ≤ n := Nat.div_le_self _ _
 have e : ((n : Int) / 2 ^ i) = ((n / 2 ^ i : Nat) : Int) := by rw [Int.natCast_ediv, Int.natCast_pow]; rfl
 rw [e]
 obtain ⟨m, hm⟩ : ∃ m, n / 2 ^ i = m := ⟨_, rfl⟩
 rw [hm] at h1 ⊢
 show IntKind.i64.wrap ((BitVec.ofInt 64 (m : Int) &&& BitVec.ofInt 64 1).toNat : Int) = _
 have e1 : (BitVec.ofInt 64 1).toNat = 1 := by decide
 have e2 : (BitVec.ofInt 64 (m : Int)).toNat = m := by
  rw [BitVec.ofInt_natCast, BitVec.toNat_ofNat]; exact Nat.mod_eq_of_lt (by omega)
 rw [BitVec.toNat_and, e1, e2, Nat.and_one_is_mod, IntKind.wrap_i64]
 omega
set_option maxRecDepth 100000 in
set_option maxHeartbeats 4000000 in
theorem pow_any (b n : Nat) (w : World) (hb : b < 4294967296) (hn : n < 9223372036854775808) :
  Cp 107 #[.int .u32 b, .int .i64 n] w (NatPost (b ^ n) w) := by
 obtain ⟨F, hF⟩ : ∃ F, (wds b).length = F := ⟨_, rfl⟩
 obtain ⟨O, hO⟩ : ∃ O, (wds 1).length = O := ⟨_, rfl⟩
 have K1 := Lib.hid (fun W => show Cp 110 #[.int .u64 b] W (Told (wds b) F W) from by
  have := (of_any b (by omega) W).mono fun _ _ y => y.told (n := F) (by rw [two_wds b (by omega)]; exact hF)
  rw [two_wds b (by omega)] at this; exact this)
 have K2 := Lib.hid (fun W => show Cp 110 #[.int .u64 1] W (Told (wds 1) O W) from by
  have := (of_any 1 (by omega) W).mono fun _ _ y => y.told (n := O) (by rw [two_wds 1 (by omega)]; exact hO)
  rw [two_wds 1 (by omega)] at this; exact this)
 have hbl := Lib.bitLen_le n 64 (by omega) (by omega)
 have c3 := fun W => (Tryz.bits_Len (n : Int) W (by omega) (by omega)).mono fun _ _ (h : _ ∧ _ = W) => And.intro h.1 h.2.symm
 rw [Int.toNat_natCast] at c3
 obtain ⟨q0, hq0⟩ : ∃ q0, Lib.bitLen n = q0 := ⟨_, rfl⟩
 rw [hq0] at c3 hbl
 have hz : n / 2 ^ q0 = 0 := by
  rw [← hq0]
  rcases Nat.eq_zero_or_pos n with h0 | h0
  ·rw [h0]; exact Nat.zero_div _
  ·exact Nat.div_eq_of_lt (Lib.bitLenAux_bounds 64 n (by omega) (by omega)).2.2
 have HZ := Lib.hid (show b ^ (n / 2 ^ q0) = 1 by rw [hz]; rfl)
 have HF := Lib.hid hF
 have HO := Lib.hid hO
 have hF1 : F ≤ 2 := by rw [← hF, ← two_wds b (by omega)]; exact nrm_len _
 have k1 : IntKind.u64.wrap (b : Int) = (b : Int) := IntWalk.u64_in _ (by omega)
 have k2 : IntKind.u64.wrap (n : Int) = (n : Int) := IntWalk.u64_in _ (by omega)
 have HB := Lib.hid hb
 have HN := Lib.hid hn
 have n0 : (0 : Int) ≤ (n : Int) := by omega
 clear hb hn hF hO hq0 hz
 go_enter Tryz.func107, Tryz.ntmps107
 go_wp2_with fail
 refine (K1.out _).mono ?_
 rintro e w1 ⟨A1, c1, rfl, ⟨hc1, r1⟩, b1⟩
 go_wp2_with fail
 refine (K2.out _).mono ?_
 rintro e w2 ⟨A2, c2, rfl, ⟨hc2, r2⟩, b2⟩
 go_wp2_with fail
 refine (c3 _).mono ?_
 rintro e w' ⟨rfl, rfl⟩
 have HR1 := Lib.hid (r1.step b2)
 have HR2 := Lib.hid r2
 have HB2 := Lib.hid (below_le b1 b2)
 clear r1 r2 b1 b2 c3
 go_wp2
 go_loopw [7, 8] (fun v i wr => ∃ (q : Nat) (A : Option Addr) (N c : Nat), v = .slice A N c ∧ i = .int .i64 ((q : Int) - 1) ∧ q ≤ 64 ∧ Hid ((wds (b ^ (n / 2 ^ q))).length = N) ∧ N ≤ c ∧ Hid (RW wr wr.heap.size A (wds (b ^ (n / 2 ^ q)))) ∧ Hid (lngB (b ^ (n / 2 ^ q)) = false) ∧ Below w2.heap.size w2 wr) (fun _ i _ => (intOf i + 1).toNat)
 case atStart => exact ⟨q0, A2, O, c2, rfl, rfl, hbl, Lib.hid (by rw [HZ.out]; exact HO.out), hc2, Lib.hid (by rw [HZ.out]; exact HR2.out), Lib.hid (by rw [HZ.out]; exact lng_small (by omega)), Below.refl _ _⟩
 case round =>
  obtain ⟨q, A, N, c, rfl, rfl, hq, HNq, hNc, HR, HL, hbw⟩ := hrel
  by_cases h0 : q = 0
  ·subst h0
   have HE := Lib.hid (show b ^ (n / 2 ^ 0) = b ^ n by rw [Nat.pow_zero, Nat.div_one])
   have HX := Lib.hid (NatPost.ok (w := w) HL.out HNq.out.symm hNc HR.out (below_le HB2.out hbw))
   go_wp2
   go_ret2
   rw [← HE.out]
   exact HX.out
  ·obtain ⟨i, rfl⟩ : ∃ i, q = i + 1 := ⟨q - 1, by omega⟩
   have hNl := lng_le HL.out
   rw [HNq.out] at hNl
   have C1 := Lib.hid (mul_ok A A N c N c (wds (b ^ (n / 2 ^ (i + 1)))) (wds (b ^ (n / 2 ^ (i + 1)))) wr HNq.out hNc (by omega) HR.out HNq.out hNc (by omega) HR.out (by rw [wds_val, HL.out]; rfl))
   rw [wds_val] at C1
   clear h0
   cases hsq : lngB (b ^ (n / 2 ^ (i + 1)) * b ^ (n / 2 ^ (i + 1)))
   ·obtain ⟨N3, hN3⟩ : ∃ N3, (wds (b ^ (n / 2 ^ (i + 1)) * b ^ (n / 2 ^ (i + 1)))).length = N3 := ⟨_, rfl⟩
    have C2 := Lib.hid (C1.out.mono fun _ _ x => x.one hsq hN3)
    have hi1 : (i : Int) ≤ 63 := by omega
    have hbt := bit_test n i HN.out
    have hhalf := half_pow b n i
    have hbit : n / 2 ^ i % 2 = 0 ∨ n / 2 ^ i % 2 = 1 := by omega
    rcases hbit with hbit | hbit
    ·rw [hbit, Nat.pow_zero, Nat.mul_one] at hhalf
     rw [hhalf] at C2 hsq hN3
     have hT : (bits BinOp.and IntKind.i64 ((n : Int) / 2 ^ i) 1 == 1) = false := by rw [hbt, hbit]; rfl
     have HN3 := Lib.hid hN3
     have HSQ := Lib.hid hsq
     clear hbit hbt hhalf hN3 hsq C1 hNl
     go_wp2_with fail
     refine C2.out.mono ?_
     rintro e w3 ⟨A3, c3, rfl, ⟨hc3, r3⟩, b3⟩
     have HR3 := Lib.hid r3
     have HB3 := Lib.hid (below_le hbw b3)
     clear r3 b3 C2
     go_wp2
     go_roundw
     case rel => exact ⟨i, A3, N3, c3, rfl, by go_num, by omega, HN3, hc3, HR3, HSQ, HB3.out⟩
     case measure => simp [intOf]
    ·rw [hbit, Nat.pow_one] at hhalf
     have hT : (bits BinOp.and IntKind.i64 ((n : Int) / 2 ^ i) 1 == 1) = true := by rw [hbt, hbit]; rfl
     have hN3l := lng_le hsq
     rw [hN3] at hN3l
     have C4 := Lib.hid (fun W A5 c5 (h5 : N3 ≤ c5) (r5 : RW W W.heap.size A5 (wds (b ^ (n / 2 ^ (i + 1)) * b ^ (n / 2 ^ (i + 1))))) (r6 : RW W W.heap.size A1 (wds b)) =>
      show Cp 108 #[.slice A5 N3 c5, .slice A1 F c1] W (NatPost (b ^ (n / 2 ^ i)) W) from by
       have := mul_ok A5 A1 N3 c5 F c1 _ _ W hN3 h5 (by omega) r5 HF.out hc1 (by omega) r6 (by rw [wds_val, wds_val, hsq, lng_small HB.out]; rfl)
       rw [wds_val, wds_val, hhalf] at this
       exact this)
     clear hbit hbt hhalf hN3 hsq C1 hNl hN3l
     cases hmu : lngB (b ^ (n / 2 ^ i))
     ·obtain ⟨N4, hN4⟩ : ∃ N4, (wds (b ^ (n / 2 ^ i))).length = N4 := ⟨_, rfl⟩
      have HN4 := Lib.hid hN4
      have HMU := Lib.hid hmu
      clear hN4 hmu
      go_wp2_with fail
      refine C2.out.mono ?_
      rintro e w3 ⟨A3, c3, rfl, ⟨hc3, r3⟩, b3⟩
      have D4 := Lib.hid ((C4.out w3 A3 c3 hc3 r3 ((HR1.out.step hbw).step b3)).mono fun _ _ x => x.one HMU.out HN4.out)
      have hbw3 := below_le hbw b3
      clear r3 b3 C2 C4
      go_wp2_with fail
      refine D4.out.mono ?_
      rintro e w4 ⟨A4, c4, rfl, ⟨hc4, r4⟩, b4⟩
      have HR4 := Lib.hid r4
      have HB4 := Lib.hid (below_le hbw3 b4)
      clear r4 b4 D4
      go_wp2
      go_roundw
      case rel => exact ⟨i, A4, N4, c4, rfl, by go_num, by omega, HN4, hc4, HR4, HMU, HB4.out⟩
      case measure => simp [intOf]
     ·have HMU := Lib.hid hmu
      have HLN := Lib.hid (pow_le b _ n (Nat.div_le_self n (2 ^ i)) hmu)
      clear hmu
      go_wp2_with fail
      refine C2.out.mono ?_
      rintro e w3 ⟨A3, c3, rfl, ⟨hc3, r3⟩, b3⟩
      have D4 := Lib.hid ((C4.out w3 A3 c3 hc3 r3 ((HR1.out.step hbw).step b3)).mono fun _ _ x => x.err HMU.out)
      have hbw3 := below_le hbw b3
      clear r3 b3 C2 C4
      go_wp2_with fail
      refine D4.out.mono ?_
      rintro e w4 ⟨rfl, b4⟩
      have HB4 := Lib.hid (below_le HB2.out (below_le hbw3 b4))
      clear b4 D4
      go_wp2
      go_ret2
      exact NatPost.long HLN.out HB4.out
   ·have HSQ := Lib.hid hsq
    have HLN := Lib.hid (show lngB (b ^ n) = true by rw [sq_pow] at hsq; exact pow_le b _ n (sq_le n i) hsq)
    have C2 := Lib.hid (C1.out.mono fun _ _ x => x.err hsq)
    clear hsq hNl C1
    go_wp2_with fail
    refine C2.out.mono ?_
    rintro e w3 ⟨rfl, b3⟩
    have HB3 := Lib.hid (below_le HB2.out (below_le hbw b3))
    clear b3 C2
    go_wp2
    go_ret2
    exact NatPost.long HLN.out HB3.out

end Go.Proofs.YtfcpkdafkmohkaaGreatDoor
namespace Go.Proofs.YtfcpkdafkmohkaaGreatDoor
open Go.RowKit
end Go.Proofs.YtfcpkdafkmohkaaGreatDoor
namespace Go.Proofs.YtfcpkdafkmohkaaGreatDoor
open Go.RowKit
set_option maxHeartbeats 1000000 in
theorem ldexp_down_n {M k D : Nat} (x u : Nat) (a1 : 4503599627370496 ≤ M) (a2 : M < 9007199254740992) (hx : x = k * 4503599627370496 + M) (h2 : x < 9218868437227405312) (hD : D ≤ k) (hu : u = (k - D) * 4503599627370496 + M) (w : World) :
  Cq 231 #[.float .f64 x, .int .i64 (-(D : Int))] (.float .f64 u) w := by
 have h1 : 4503599627370496 ≤ x := by omega
 obtain ⟨p1, p2, p3⟩ := pos_rung (x := x) (by omega)
 have C1 := Lib.hid (fun W => isNaN_any x W)
 have C2 := Lib.hid (fun W => isInf0_any x W (by omega))
 rw [show fnan x = false from by unfold fnan; rw [p1]; exact decide_eq_false (by omega)] at C1
 rw [show finf x = false from by unfold finf; rw [p1]; exact decide_eq_false (by omega)] at C2
 have C3 := Lib.hid (fun W => normalize_any x W h1 h2)
 have h3 := ord_zero x
 rw [p1, decide_eq_false (by omega)] at h3
 have h5 := f64bits_run x w
 have h6 := not_exp x (by omega)
 obtain ⟨t, ht2⟩ : ∃ t, M = 4503599627370496 + t := ⟨M - 4503599627370496, by omega⟩
 rw [show x % 4503599627370496 = t by omega] at h6
 have h7 := and_2047 (k + 1) (by omega)
 obtain ⟨Q, hQ⟩ : ∃ Q, k + 1 - D = Q := ⟨_, rfl⟩
 have h8 := or_exp t Q (by omega) (by omega)
 have e8 : t + Q * 4503599627370496 = u := by
  rw [hu, ht2, ← hQ, show k + 1 - D = (k - D) + 1 by omega]; omega
 rw [e8] at h8
 have h9 := f64from_run u w
 have h10 := one_mul (y := u) (by omega) (by omega)
 have h11 : (binOp BinOp.mul 22 (.float .f64 4607182418800017408) (.float .f64 u)).run Tryz.prog w = .ok (.float .f64 u) w := run_float_arith _ _ _ _ _ _ _ h10
 have k1 : (x : Int) / 4503599627370496 = ((k + 1 : Nat) : Int) := by omega
 have k2 : IntKind.i64.wrap ((k + 1 : Nat) : Int) = ((k + 1 : Nat) : Int) := IntWalk.i64_in _ (by omega)
 have k3 : IntKind.i64.wrap (((k + 1 : Nat) : Int) - 1023) = (k : Int) - 1022 := by rw [IntWalk.i64_in _ (by omega)]; omega
 obtain ⟨X0, hX0⟩ : ∃ X0, -(D : Int) = X0 := ⟨_, rfl⟩
 have k4 : IntKind.i64.wrap X0 = X0 := IntWalk.i64_in _ (by omega)
 have k4' : IntKind.i64.wrap (X0 + 0) = X0 := by rw [Int.add_zero]; exact k4
 have k5 : IntKind.i64.wrap (X0 + ((k : Int) - 1022)) = (Q : Int) - 1023 := by rw [IntWalk.i64_in _ (by omega)]; omega
 have k6 : IntKind.i64.wrap ((Q : Int) - 1023 + 1023) = (Q : Int) := by rw [IntWalk.i64_in _ (by omega)]; omega
 have k7 : IntKind.u64.wrap (Q : Int) = (Q : Int) := by rw [IntKind.wrap_u64]; omega
 have k8 : IntKind.u64.wrap ((Q : Int) * 4503599627370496) = ((Q * 4503599627370496 : Nat) : Int) := by rw [IntKind.wrap_u64]; omega
 have t1 : decide ((Q : Int) - 1023 < -1075) = false := decide_eq_false (by omega)
 have t2 : decide (1023 < (Q : Int) - 1023) = false := decide_eq_false (by omega)
 have t3 : decide ((Q : Int) - 1023 < -1022) = false := decide_eq_false (by omega)
 obtain ⟨q, hq⟩ : ∃ q, k + 1 = q := ⟨_, rfl⟩
 obtain ⟨X1, hX1⟩ : ∃ X1, (k : Int) - 1022 = X1 := ⟨_, rfl⟩
 obtain ⟨X3, hX3⟩ : ∃ X3, (Q : Int) - 1023 = X3 := ⟨_, rfl⟩
 rw [hq] at h7 k1 k2 k3
 rw [hX1] at k3 k5
 rw [hX3] at k5 k6 t1 t2 t3
 rw [hX0]
 rw [← k8] at h8
 clear h1 h2 hx a1 a2 hD hu p1 p2 p3 ht2 hQ e8 h10 k8 hq hX1 hX0 hX3
 go_enter Tryz.func231, Tryz.ntmps231
 go_wp2_with fail
 refine (C2.out _).mono ?_
 rintro e w' ⟨rfl, rfl⟩
 go_wp2_with fail
 refine (C1.out _).mono ?_
 rintro e w' ⟨rfl, rfl⟩
 go_wp2_with fail
 refine (C3.out _).mono ?_
 rintro e w' ⟨rfl, rfl⟩
 go_wp2
 go_ret
 exact ⟨rfl, rfl⟩
set_option maxHeartbeats 1000000 in
theorem ldexp_down_d {M k D : Nat} (x v r : Nat) (a1 : 4503599627370496 ≤ M) (a2 : M < 9007199254740992) (hx : x = k * 4503599627370496 + M) (h2 : x < 9218868437227405312) (hD : k < D) (hD2 : D ≤ k + 52) (hv : v = (k + 53 - D) * 4503599627370496 + M) (hr : Ieee.double.mul 4368491638549381120 v = some r) (w : World) :
  Cq 231 #[.float .f64 x, .int .i64 (-(D : Int))] (.float .f64 r) w := by
 have h1 : 4503599627370496 ≤ x := by omega
 obtain ⟨p1, p2, p3⟩ := pos_rung (x := x) (by omega)
 have C1 := Lib.hid (fun W => isNaN_any x W)
 have C2 := Lib.hid (fun W => isInf0_any x W (by omega))
 rw [show fnan x = false from by unfold fnan; rw [p1]; exact decide_eq_false (by omega)] at C1
 rw [show finf x = false from by unfold finf; rw [p1]; exact decide_eq_false (by omega)] at C2
 have C3 := Lib.hid (fun W => normalize_any x W h1 h2)
 have h3 := ord_zero x
 rw [p1, decide_eq_false (by omega)] at h3
 have h5 := f64bits_run x w
 have h6 := not_exp x (by omega)
 obtain ⟨t, ht2⟩ : ∃ t, M = 4503599627370496 + t := ⟨M - 4503599627370496, by omega⟩
 rw [show x % 4503599627370496 = t by omega] at h6
 have h7 := and_2047 (k + 1) (by omega)
 obtain ⟨Q, hQ⟩ : ∃ Q, k + 54 - D = Q := ⟨_, rfl⟩
 have h8 := or_exp t Q (by omega) (by omega)
 have e8 : t + Q * 4503599627370496 = v := by
  rw [hv, ht2, ← hQ, show k + 54 - D = (k + 53 - D) + 1 by omega]; omega
 rw [e8] at h8
 have h9 := f64from_run v w
 have h11 : (binOp BinOp.mul 22 (.float .f64 4368491638549381120) (.float .f64 v)).run Tryz.prog w = .ok (.float .f64 r) w := run_float_arith _ _ _ _ _ _ _ hr
 have k1 : (x : Int) / 4503599627370496 = ((k + 1 : Nat) : Int) := by omega
 have k2 : IntKind.i64.wrap ((k + 1 : Nat) : Int) = ((k + 1 : Nat) : Int) := IntWalk.i64_in _ (by omega)
 have k3 : IntKind.i64.wrap (((k + 1 : Nat) : Int) - 1023) = (k : Int) - 1022 := by rw [IntWalk.i64_in _ (by omega)]; omega
 obtain ⟨X0, hX0⟩ : ∃ X0, -(D : Int) = X0 := ⟨_, rfl⟩
 have k4 : IntKind.i64.wrap X0 = X0 := IntWalk.i64_in _ (by omega)
 have k4' : IntKind.i64.wrap (X0 + 0) = X0 := by rw [Int.add_zero]; exact k4
 have k5 : IntKind.i64.wrap (X0 + ((k : Int) - 1022)) = (Q : Int) - 1076 := by rw [IntWalk.i64_in _ (by omega)]; omega
 have k9 : IntKind.i64.wrap ((Q : Int) - 1076 + 53) = (Q : Int) - 1023 := by rw [IntWalk.i64_in _ (by omega)]; omega
 have k6 : IntKind.i64.wrap ((Q : Int) - 1023 + 1023) = (Q : Int) := by rw [IntWalk.i64_in _ (by omega)]; omega
 have k7 : IntKind.u64.wrap (Q : Int) = (Q : Int) := by rw [IntKind.wrap_u64]; omega
 have k8 : IntKind.u64.wrap ((Q : Int) * 4503599627370496) = ((Q * 4503599627370496 : Nat) : Int) := by rw [IntKind.wrap_u64]; omega
 have t1 : decide ((Q : Int) - 1076 < -1075) = false := decide_eq_false (by omega)
 have t2 : decide (1023 < (Q : Int) - 1076) = false := decide_eq_false (by omega)
 have t3 : decide ((Q : Int) - 1076 < -1022) = true := decide_eq_true (by omega)
 obtain ⟨q, hq⟩ : ∃ q, k + 1 = q := ⟨_, rfl⟩
 obtain ⟨X1, hX1⟩ : ∃ X1, (k : Int) - 1022 = X1 := ⟨_, rfl⟩
 obtain ⟨X3, hX3⟩ : ∃ X3, (Q : Int) - 1076 = X3 := ⟨_, rfl⟩
 obtain ⟨X4, hX4⟩ : ∃ X4, (Q : Int) - 1023 = X4 := ⟨_, rfl⟩
 rw [hq] at h7 k1 k2 k3
 rw [hX1] at k3 k5
 rw [hX3] at k5 k9 t1 t2 t3
 rw [hX4] at k9 k6
 rw [hX0]
 rw [← k8] at h8
 clear h1 h2 hx a1 a2 hD hD2 hv hr p1 p2 p3 ht2 hQ e8 k8 hq hX1 hX0 hX3 hX4
 go_enter Tryz.func231, Tryz.ntmps231
 go_wp2_with fail
 refine (C2.out _).mono ?_
 rintro e w' ⟨rfl, rfl⟩
 go_wp2_with fail
 refine (C1.out _).mono ?_
 rintro e w' ⟨rfl, rfl⟩
 go_wp2_with fail
 refine (C3.out _).mono ?_
 rintro e w' ⟨rfl, rfl⟩
 go_wp2
 go_ret
 exact ⟨rfl, rfl⟩
theorem ldexp_down {y D u : Nat} (h0 : 4503599627370496 ≤ y) (hy : y < 9218868437227405312) (hu0 : 0 < u) (h : fmag u * 2 ^ D = fmag y) (w : World) :
  Cq 231 #[.float .f64 y, .int .i64 (-(D : Int))] (.float .f64 u) w := by
 obtain ⟨M, k, a1, a2, a3, a4⟩ := fmag_split h0
 have hu1 := fmag_pos.2 hu0
 have huy : u ≤ y := by
  rcases Nat.lt_or_ge y u with h1 | h1
  ·have h2 := fmag_step h1
   have h3 : fmag u * 1 ≤ fmag u * 2 ^ D := Nat.mul_le_mul_left _ (Nat.two_pow_pos D)
   omega
  ·exact h1
 by_cases hDk : D ≤ k
 ·refine ldexp_down_n y u a1 a2 a3 hy hDk ?_ w
  refine fmag_inj ?_
  rw [fmag_make _ _ a1 a2]
  refine (pow_cancel (x := M) (a := k - D) (b := D) (y := fmag u) ?_).symm
  rw [show k - D + D = k by omega, ← a4, h]
 ·obtain ⟨j, rfl⟩ : ∃ j, D = k + j := ⟨D - k, by omega⟩
  have hM : fmag u * 2 ^ j = M := by
   refine pow_cancel (x := fmag u) (a := j) (b := k) (y := M) ?_
   rw [Nat.add_comm j k, h, a4]
  have hj : j < 53 := by
   have h3 : 1 * 2 ^ j ≤ fmag u * 2 ^ j := Nat.mul_le_mul_right _ hu1
   have h6 : 2 ^ j < 2 ^ 53 := by have : (2 : Nat) ^ 53 = 9007199254740992 := rfl; omega
   exact (Nat.pow_lt_pow_iff_right (a := 2) (by omega)).1 h6
  refine ldexp_down_d y ((k + 53 - (k + j)) * 4503599627370496 + M) u a1 a2 a3 hy (by omega) (by omega) rfl ?_ w
  obtain ⟨J, hJ⟩ : ∃ J : Nat, J = 969 := ⟨_, rfl⟩
  obtain ⟨L, hL⟩ : ∃ L : Nat, L = 1074 := ⟨_, rfl⟩
  have e1 := fmag_make 4503599627370496 J (by omega) (by omega)
  rw [show J * 4503599627370496 + 4503599627370496 = 4368491638549381120 by rw [hJ]] at e1
  refine mul_exact (K := L) (by omega) (by omega) (by omega) hL ?_
  rw [e1, fmag_make _ _ a1 a2, ← hM, show (4503599627370496 : Nat) = 2 ^ 52 from rfl, ← Nat.pow_add, Nat.mul_comm, Nat.mul_assoc, Nat.mul_assoc, ← Nat.pow_add, ← Nat.pow_add, show j + (k + 53 - (k + j) + (52 + J)) = L by omega]
theorem Ldexp_down {y D u : Nat} (h0 : 4503599627370496 ≤ y) (hy : y < 9218868437227405312) (hu0 : 0 < u) (h : fmag u * 2 ^ D = fmag y) (w : World) :
  Cq 206 #[.float .f64 y, .int .i64 (-(D : Int))] (.float .f64 u) w := by
 have C := Lib.hid (ldexp_down h0 hy hu0 h w)
 obtain ⟨X, hX⟩ : ∃ X, -(D : Int) = X := ⟨_, rfl⟩
 rw [hX] at C ⊢
 clear h0 hy hu0 h hX
 go_enter Tryz.func206, Tryz.ntmps206
 go_wp2_with fail
 refine C.out.mono ?_
 rintro e w' ⟨rfl, rfl⟩
 go_wp2
 go_ret
 exact ⟨rfl, rfl⟩
end Go.Proofs.YtfcpkdafkmohkaaGreatDoor
namespace Go.Proofs.YtfcpkdafkmohkaaGreatDoor
open Go.RowKit
end Go.Proofs.YtfcpkdafkmohkaaGreatDoor
namespace Go.Proofs.YtfcpkdafkmohkaaGreatDoor
open Go.RowKit
end Go.Proofs.YtfcpkdafkmohkaaGreatDoor
namespace Go.Proofs.YtfcpkdafkmohkaaGreatDoor
open Go.RowKit
end Go.Proofs.YtfcpkdafkmohkaaGreatDoor
namespace Go.Proofs.YtfcpkdafkmohkaaGreatDoor
open Go.RowKit
theorem fl_upto {N K : Nat} (h : N ≤ 9007199254740992) (hK : K = 1074) : fl N < 9218868437227405312 ∧ fmag (fl N) = N * 2 ^ K := by
 rcases Nat.eq_or_lt_of_le h with h1 | h1
 ·rw [h1, show fl 9007199254740992 = 4845873199050653696 by decide +kernel]
  refine ⟨by omega, ?_⟩
  obtain ⟨d, hd⟩ : ∃ d : Nat, d = 1075 := ⟨_, rfl⟩
  have := fmag_make 4503599627370496 d (by omega) (by omega)
  rw [show d * 4503599627370496 + 4503599627370496 = 4845873199050653696 by omega] at this
  rw [this, show d = K + 1 by omega, Nat.pow_succ, Nat.mul_comm (2 ^ K) 2, ← Nat.mul_assoc]
 ·obtain ⟨a, b⟩ := fmag_fl h1 hK
  exact ⟨b, a⟩
theorem rung_make {D E : Nat} (hE : E ≤ 9007199254740992) (hD : D = 0 ∨ 4503599627370496 ≤ E) : fmag (D * 4503599627370496 + E) = E * 2 ^ D := by
 rcases Nat.eq_or_lt_of_le hE with h | h
 ·rw [h, show D * 4503599627370496 + 9007199254740992 = (D + 1) * 4503599627370496 + 4503599627370496 by omega, fmag_make _ _ (by omega) (by omega), Nat.pow_succ, Nat.mul_comm (2 ^ D) 2, ← Nat.mul_assoc]
 ·rcases hD with h0 | h0
  ·rw [h0, Nat.zero_mul, Nat.zero_add, Nat.pow_zero, Nat.mul_one]; exact fmag_low h
  ·exact fmag_make _ _ h0 h
theorem Ld_make {E D : Nat} {e' : Int} (hE : E ≤ 9007199254740992) (hD : D = 0 ∨ 4503599627370496 ≤ E) (hD2 : D ≤ 2045) (he : e' = (D : Int) - 1074) (w : World) : Cq 206 #[.float .f64 (fl E), .int .i64 e'] (.float .f64 (min (D * 4503599627370496 + E) 9218868437227405312)) w := by
 obtain ⟨K, hK⟩ : ∃ K : Nat, K = 1074 := ⟨_, rfl⟩
 obtain ⟨y1, y2⟩ := fl_upto hE hK
 have hmk := rung_make hE hD
 rcases Nat.eq_zero_or_pos E with h0 | h0
 ·subst h0
  have : D = 0 := by omega
  subst this
  rw [fl_zero]
  exact ldexp_zero e' w
 ·have hy0 : 0 < fl E := fmag_pos.1 (by rw [y2]; exact Nat.mul_pos h0 (Nat.two_pow_pos K))
  have hyn : 4503599627370496 ≤ fl E := by
   rcases Nat.lt_or_ge (fl E) 4503599627370496 with h | h
   ·have h1 := fmag_low (r := fl E) (by omega)
    rw [y2] at h1
    have h2 : 1 * 2 ^ K ≤ E * 2 ^ K := Nat.mul_le_mul_right _ h0
    have h3 : 2 ^ 60 ≤ 2 ^ K := Nat.pow_le_pow_right (by omega) (by omega)
    have h4 : (2 : Nat) ^ 60 = 1152921504606846976 := by decide
    omega
   ·exact h
  rcases Nat.lt_or_ge (D * 4503599627370496 + E) 9218868437227405312 with h | h
  ·rw [Nat.min_eq_left (by omega)]
   rcases Nat.lt_or_ge D K with h1 | h1
   ·obtain ⟨j, hj⟩ : ∃ j, K = D + j := ⟨K - D, by omega⟩
    have := Ldexp_down (y := fl E) (D := j) (u := D * 4503599627370496 + E) hyn y1 (by omega) (by rw [hmk, y2, hj, Nat.pow_add, Nat.mul_assoc]) w
    rw [show e' = -(j : Int) by omega]
    exact this
   ·obtain ⟨j, hj⟩ : ∃ j, D = K + j := ⟨D - K, by omega⟩
    have := Ldexp_rep (y := fl E) (D := j) (u := D * 4503599627370496 + E) hy0 y1 h (by rw [hmk, y2, hj, Nat.pow_add, Nat.mul_assoc]) w
    rw [show e' = (j : Int) by omega]
    exact this
  ·rw [Nat.min_eq_right h]
   have hD3 : D = 2045 := by omega
   have hE3 : E = 9007199254740992 := by omega
   have := ldexp_any (fl E) 971 w hyn y1 (by omega)
   rw [show scl (fl E) 971 = 9218868437227405312 from by rw [hE3, show fl 9007199254740992 = 4845873199050653696 by decide +kernel]; decide] at this
   rw [show e' = ((971 : Nat) : Int) by omega]
   exact this
end Go.Proofs.YtfcpkdafkmohkaaGreatDoor
namespace Go.Proofs.YtfcpkdafkmohkaaGreatDoor
open Go.RowKit
structure NV (w : World) (A : Option Addr) (n c v : Nat) : Prop where
 len : (wds v).length = n
 cap : n ≤ c
 row : RW w w.heap.size A (wds v)
theorem NV.step {w w' : World} {A : Option Addr} {n c v : Nat} (h : NV w A n c v) (hb : Below w.heap.size w w') : NV w' A n c v := ⟨h.len, h.cap, h.row.step hb⟩
def bln (v : Nat) : Nat := btl (wds v)
theorem wds_nil {v : Nat} (h : 0 < v) : nrm (wds v) ≠ [] := by
 intro e
 have := nrm_eq_nil e
 rw [wds_val] at this
 omega
theorem bln_bounds {v : Nat} (h : 0 < v) : 2 ^ (bln v - 1) ≤ v ∧ v < 2 ^ bln v ∧ 0 < bln v := by
 have := btl_bounds (wds_ws v) (wds_nil h)
 rw [wds_val] at this
 exact this
theorem bln_zero : bln 0 = 0 := by decide
theorem bln_le {v L : Nat} (h : v < 2 ^ L) : bln v ≤ L := by
 rcases Nat.eq_zero_or_pos v with h0 | h0
 ·rw [h0, bln_zero]; omega
 ·have h1 := (bln_bounds h0).1
  have h2 := (Nat.pow_lt_pow_iff_right (a := 2) (by omega)).1 (Nat.lt_of_le_of_lt h1 h)
  omega
theorem len_bits {v L : Nat} (h : v < 2 ^ (32 * L)) : (wds v).length ≤ L := by
 refine wds_len_lt ?_
 rw [show (4294967296 : Nat) = 2 ^ 32 from rfl, ← Nat.pow_mul]
 exact h
theorem small_len {v : Nat} (h : bln v ≤ 30000) : (wds v).length ≤ 940 := by
 obtain ⟨L, hL⟩ : ∃ L : Nat, L = 940 := ⟨_, rfl⟩
 rw [← hL]
 rcases Nat.eq_zero_or_pos v with h0 | h0
 ·rw [h0]; show 0 ≤ L; omega
 ·exact len_bits (Nat.lt_of_lt_of_le (bln_bounds h0).2.1 (Nat.pow_le_pow_right (by omega) (by omega)))
theorem lng_bln {v : Nat} (h : bln v ≤ 30000) : lngB v = false := by
 unfold lngB
 have := small_len h
 exact decide_eq_false (by omega)
theorem bln_mul (a b : Nat) : bln (a * b) ≤ bln a + bln b := by
 rcases Nat.eq_zero_or_pos a with h0 | h0
 ·rw [h0, Nat.zero_mul, bln_zero]; omega
 rcases Nat.eq_zero_or_pos b with h1 | h1
 ·rw [h1, Nat.mul_zero, bln_zero]; omega
 ·refine bln_le ?_
  rw [Nat.pow_add]
  exact Nat.mul_lt_mul'' (bln_bounds h0).2.1 (bln_bounds h1).2.1
theorem bln_mono {a b : Nat} (h : a ≤ b) : bln a ≤ bln b := by
 rcases Nat.eq_zero_or_pos b with h0 | h0
 ·have : a = 0 := by omega
  rw [this, h0]; omega
 ·exact bln_le (Nat.lt_of_le_of_lt h (bln_bounds h0).2.1)
theorem bln_pow2 (k : Nat) : bln (2 ^ k) ≤ k + 1 := bln_le (by rw [Nat.pow_succ]; have := Nat.two_pow_pos k; omega)
theorem bln_pow (b k : Nat) : bln (b ^ k) ≤ bln b * k + 1 := by
 rcases Nat.eq_zero_or_pos b with h0 | h0
 ·cases k with
  | zero => rw [Nat.pow_zero, show bln 1 = 1 by decide]; omega
  | succ k => rw [h0, Nat.zero_pow (by omega), bln_zero]; omega
 ·refine bln_le ?_
  have h1 := (bln_bounds h0).2.1
  have h2 : b ^ k ≤ (2 ^ bln b) ^ k := Nat.pow_le_pow_left (Nat.le_of_lt h1) k
  rw [← Nat.pow_mul] at h2
  rw [Nat.pow_succ]
  have := Nat.two_pow_pos (bln b * k)
  omega
theorem bln_five (k : Nat) : bln (5 ^ k) ≤ 3 * k + 1 := by have := bln_pow 5 k; rw [show bln 5 = 3 by decide] at this; exact this
theorem bln_ten (k : Nat) : bln (10 ^ k) ≤ 4 * k + 1 := by have := bln_pow 10 k; rw [show bln 10 = 4 by decide] at this; exact this
/-! ### The program's functions -/
def NOk (v : Nat) (w : World) (e : Ending) (w' : World) : Prop := ∃ A n c, e = .returned (.tuple #[.slice A n c, .int .i64 0]) ∧ NV w' A n c v ∧ Below w.heap.size w w'
theorem NOk.of {v : Nat} {w w' : World} {e : Ending} (hl : lngB v = false) (h : NatPost v w e w') : NOk v w e w' := by
 obtain ⟨A, n, c, k, he, hp, hb⟩ := h
 rw [if_neg (by rw [hl]; simp)] at hp
 obtain ⟨h1, h2, h3, h4⟩ := hp
 subst h3
 exact ⟨A, n, c, he, ⟨h1.symm, h2, h4⟩, hb⟩
theorem nmul {w : World} {A C : Option Addr} {n c m d a b : Nat} (hA : NV w A n c a) (hB : NV w C m d b) (ha : bln a ≤ 15000) (hb : bln b ≤ 15000) :
  Cp 108 #[.slice A n c, .slice C m d] w (NOk (a * b) w) := by
 have la := lng_bln (v := a) (by omega)
 have lb := lng_bln (v := b) (by omega)
 have lab := lng_bln (v := a * b) (Nat.le_trans (bln_mul a b) (by omega))
 have h1 := small_len (v := a) (by omega)
 have h2 := small_len (v := b) (by omega)
 rw [hA.len] at h1
 rw [hB.len] at h2
 have := mul_any A C n c m d (wds a) (wds b) w hA.len hA.cap (by omega) hA.row hB.len hB.cap (by omega) hB.row
 rw [wds_val, wds_val] at this
 refine this.mono fun e w' x => ?_
 unfold MulPost at x
 rw [if_neg (by rw [la, lb]; simp)] at x
 exact NOk.of lab x
theorem npow (b n : Nat) (w : World) (hb : b < 4294967296) (hl : bln (b ^ n) ≤ 30000) (hn : n < 100000) : Cp 107 #[.int .u32 b, .int .i64 n] w (NOk (b ^ n) w) :=
 (pow_any b n w hb (by omega)).mono fun e w' x => NOk.of (lng_bln hl) x
theorem nshl {w : World} {A : Option Addr} {n c a : Nat} (hA : NV w A n c a) (p : Nat) (ha : bln a + p ≤ 29000) : Cp 157 #[.slice A n c, .int .i64 p] w (NOk (a * 2 ^ p) w) := by
 have la := lng_bln (v := a) (by omega)
 have h1 := small_len (v := a) (by omega)
 rw [hA.len] at h1
 have hp := bln_pow2 p
 have lab := lng_bln (v := a * 2 ^ p) (Nat.le_trans (bln_mul a _) (by omega))
 have := pshl_any A n c p (wds a) w hA.len hA.cap (by omega) hA.row
 rw [wds_val] at this
 refine this.mono fun e w' x => ?_
 unfold ShlQ at x
 rw [if_neg (by rw [la]; simp), if_neg (by omega), Int.toNat_natCast] at x
 exact NOk.of lab x
theorem nadd {w : World} {A C : Option Addr} {n c m d a b : Nat} (hA : NV w A n c a) (hB : NV w C m d b) (ha : bln (a + b) ≤ 30000) :
  Cp 124 #[.slice A n c, .slice C m d] w (NOk (a + b) w) := by
 have b1 := bln_mono (show a ≤ a + b by omega)
 have b2 := bln_mono (show b ≤ a + b by omega)
 have la := lng_bln (v := a) (by omega)
 have lb := lng_bln (v := b) (by omega)
 have h1 := small_len (v := a) (by omega)
 have h2 := small_len (v := b) (by omega)
 rw [hA.len] at h1
 rw [hB.len] at h2
 have := add_any A C n c m d (wds a) (wds b) w hA.len hA.cap (by omega) hA.row hB.len hB.cap (by omega) hB.row
 rw [wds_val, wds_val] at this
 refine this.mono fun e w' x => ?_
 unfold AddP at x
 rw [if_neg (by rw [la, lb]; simp)] at x
 exact NOk.of (lng_bln ha) x
theorem nsub {w : World} {A C : Option Addr} {n c m d a b : Nat} (hA : NV w A n c a) (hB : NV w C m d b) (ha : bln a ≤ 30000) (hle : b ≤ a) :
  Cp 158 #[.slice A n c, .slice C m d] w (NOk (a - b) w) := by
 have b2 := bln_mono hle
 have b3 := bln_mono (show a - b ≤ a by omega)
 have la := lng_bln (v := a) (by omega)
 have lb := lng_bln (v := b) (by omega)
 have h1 := small_len (v := a) (by omega)
 have h2 := small_len (v := b) (by omega)
 rw [hA.len] at h1
 rw [hB.len] at h2
 have := sub_any A C n c m d (wds a) (wds b) w hA.len hA.cap (by omega) hA.row hB.len hB.cap (by omega) hB.row
 rw [wds_val, wds_val] at this
 refine this.mono fun e w' x => ?_
 unfold SubP at x
 rw [if_neg (by rw [la, lb]; simp), if_neg (by omega)] at x
 exact NOk.of (lng_bln (by omega)) x
def DOk (a b : Nat) (w : World) (e : Ending) (w' : World) : Prop := ∃ A n c C m d, e = .returned (.tuple #[.slice A n c, .slice C m d, .int .i64 0]) ∧ NV w' A n c (a / b) ∧ NV w' C m d (a % b) ∧ Below w.heap.size w w'
theorem ndiv {w : World} {A C : Option Addr} {n c m d a b : Nat} (hA : NV w A n c a) (hB : NV w C m d b) (ha : bln a ≤ 30000) (hb : bln b ≤ 30000) (h0 : 0 < b) :
  Cp 174 #[.slice A n c, .slice C m d] w (DOk a b w) := by
 have la := lng_bln (v := a) (by omega)
 have lb := lng_bln (v := b) (by omega)
 have h1 := small_len (v := a) (by omega)
 have h2 := small_len (v := b) (by omega)
 rw [hA.len] at h1
 rw [hB.len] at h2
 have := div_any A C n c m d (wds a) (wds b) w hA.len hA.cap (by omega) hA.row hB.len hB.cap (by omega) hB.row
 rw [wds_val, wds_val] at this
 refine this.mono fun e w' x => ?_
 have hlb : (lngB a || lngB b) = false := by rw [la, lb]; rfl
 obtain ⟨A2, n2, c2, C2, m2, d2, he, ⟨x1, x2, x3, x4, x5, x6⟩, hbw⟩ := x
 have hB2 := divB_ok hlb h0
 unfold divQ at x1 x5
 unfold divR at x3 x6
 rw [if_pos hB2] at x1 x5 x3 x6
 have hk : divK a b = 0 := by unfold divK; rw [if_neg (by rw [hlb]; simp), if_neg (by omega)]
 rw [hk] at he
 exact ⟨A2, n2, c2, C2, m2, d2, he, ⟨x1.symm, x2, x5⟩, ⟨x3.symm, x4, x6⟩, hbw⟩
theorem nbits {w : World} {A : Option Addr} {n c a : Nat} (hA : NV w A n c a) (ha : bln a ≤ 30000) : Cq 156 #[.slice A n c] (.int .i64 (bln a : Nat)) w := by
 have h1 := small_len (v := a) (by omega)
 rw [hA.len] at h1
 exact bits_any A n c (wds a) w.heap.size w hA.len hA.cap (by omega) hA.row
def NRet (v : Nat) (w : World) (e : Ending) (w' : World) : Prop := ∃ A n c, e = .returned (.slice A n c) ∧ NV w' A n c v ∧ Below w.heap.size w w'
theorem NRet.of {v : Nat} {w w' : World} {e : Ending} (h : SlPost (wds v) w e w') : NRet v w e w' := by
 obtain ⟨V, he, ⟨A, c, hv, hc, hr⟩, hb⟩ := h
 subst hv
 exact ⟨A, _, c, he, ⟨rfl, hc, hr⟩, hb⟩
theorem nof (n : Nat) (hn : n < 18446744073709551616) (w : World) : Cp 110 #[.int .u64 n] w (NRet n w) :=
 (of_any n hn w).mono fun e w' x => NRet.of (by rw [two_wds n hn] at x; exact x)
/-! ### The reference's functions -/
end Go.Proofs.YtfcpkdafkmohkaaGreatDoor
namespace Go.Proofs.YtfcpkdafkmohkaaGreatDoor
def decR (N : Nat) (e : Int) : Nat := rnd (N * 10 ^ e.toNat * 2 ^ 1074) (10 ^ (-e).toNat)
theorem decR_K : ∃ K : Nat, K = 1074 ∧ ∀ N e, decR N e = rnd (N * 10 ^ e.toNat * 2 ^ K) (10 ^ (-e).toNat) := ⟨1074, rfl, fun _ _ => rfl⟩
theorem ten_pos (k : Nat) : 0 < 10 ^ k := Nat.pow_pos (by omega)
theorem rnd_tiny {u v : Nat} (h : 2 * u < v) : rnd u v = 0 := by
 have h1 : u / v = 0 := Nat.div_eq_of_lt (by omega)
 have h2 : rplace u v = 0 := by unfold rplace; rw [h1]; rfl
 unfold rnd
 rw [h2, Nat.pow_zero, Nat.one_mul]
 unfold ediv
 rw [h1, Nat.mod_eq_of_lt (by omega), decide_eq_false (by omega), decide_eq_false (by omega)]
 rfl
theorem decR_zero (e : Int) : decR 0 e = 0 := by
 obtain ⟨K, hK, h⟩ := decR_K
 rw [h, Nat.zero_mul, Nat.zero_mul]
 exact rnd_tiny (ten_pos _)
theorem decR_shift (N j : Nat) (e : Int) : decR (N * 10 ^ j) e = decR N (e + j) := by
 obtain ⟨K, hK, h⟩ := decR_K
 rw [h, h]
 refine rnd_cross (ten_pos _) (ten_pos _) ?_
 have e1 : 10 ^ j * 10 ^ e.toNat * 10 ^ (-(e + j)).toNat = 10 ^ (e + j).toNat * 10 ^ (-e).toNat := by
  rw [← Nat.pow_add, ← Nat.pow_add, ← Nat.pow_add]
  congr 1
  omega
 generalize 10 ^ j = x at *
 generalize 10 ^ e.toNat = y at *
 generalize 10 ^ (-(e + j)).toNat = z at *
 generalize 10 ^ (e + j).toNat = p at *
 generalize 10 ^ (-e).toNat = q at *
 generalize 2 ^ K = U at *
 have h1 : N * x * y * U * z = N * (x * y * z) * U := by grind
 have h2 : N * p * U * q = N * (p * q) * U := by grind
 rw [h1, h2, e1]
set_option exponentiation.threshold 2000 in
theorem two_ten : ∀ K T : Nat, K = 1075 → T = 324 → 2 ^ K < 10 ^ T := by
 intro K T hK hT
 subst hK
 subst hT
 decide +kernel
set_option exponentiation.threshold 2000 in
theorem ten_two : ∀ K T : Nat, K = 1024 → T = 309 → 2 ^ K ≤ 10 ^ T := by
 intro K T hK hT
 subst hK
 subst hT
 decide +kernel
theorem decR_tiny {N L : Nat} {e : Int} (hN : N < 10 ^ L) (h : (L : Int) + e ≤ -324) : decR N e = 0 := by
 obtain ⟨K, hK, hd⟩ := decR_K
 rw [hd, show e.toNat = 0 by omega, Nat.pow_zero, Nat.mul_one]
 refine rnd_tiny ?_
 obtain ⟨T, hT⟩ : ∃ T : Nat, T = 324 := ⟨_, rfl⟩
 have h1 := two_ten (K + 1) T (by omega) hT
 have h2 : 10 ^ L * 10 ^ T ≤ 10 ^ (-e).toNat := by
  rw [← Nat.pow_add]
  exact Nat.pow_le_pow_right (by omega) (by omega)
 rw [Nat.pow_succ] at h1
 refine Nat.lt_of_lt_of_le ?_ h2
 have hL := ten_pos L
 generalize 10 ^ L = x at *
 generalize 10 ^ T = y at *
 generalize 2 ^ K = U at *
 have a1 : N * (U * 2) ≤ x * (U * 2) := Nat.mul_le_mul_right _ (Nat.le_of_lt hN)
 have a2 : x * (U * 2) < x * y := Nat.mul_lt_mul_of_pos_left h1 hL
 have a3 : 2 * (N * U) = N * (U * 2) := by grind
 omega
theorem decR_huge {N M : Nat} {e : Int} (hN : 10 ^ M ≤ N) (h : 309 ≤ (M : Int) + e) : decR N e = 9218868437227405312 := by
 obtain ⟨K, hK, hd⟩ := decR_K
 rw [hd]
 refine rnd_top (ten_pos _) ?_
 obtain ⟨D, hD⟩ : ∃ D : Nat, D = 2046 := ⟨_, rfl⟩
 have e1 := fmag_make 4503599627370496 D (by omega) (by omega)
 rw [show D * 4503599627370496 + 4503599627370496 = 9218868437227405312 by omega] at e1
 rw [e1]
 obtain ⟨T, hT⟩ : ∃ T : Nat, T = 309 := ⟨_, rfl⟩
 have h1 := ten_two (D + 52 - K) T (by omega) hT
 have h2 : 4503599627370496 * 2 ^ D = 2 ^ (D + 52 - K) * 2 ^ K := by
  rw [show (4503599627370496 : Nat) = 2 ^ 52 from rfl, ← Nat.pow_add, ← Nat.pow_add]
  exact congrArg (fun k => 2 ^ k) (show 52 + D = D + 52 - K + K by omega)
 have h3 : 10 ^ T * 10 ^ (-e).toNat ≤ 10 ^ M * 10 ^ e.toNat := by
  rw [← Nat.pow_add, ← Nat.pow_add]
  exact Nat.pow_le_pow_right (by omega) (by omega)
 rw [h2]
 generalize 2 ^ (D + 52 - K) = A at *
 generalize 2 ^ K = U at *
 generalize 10 ^ T = Tn at *
 generalize 10 ^ (-e).toNat = z at *
 generalize 10 ^ M = m at *
 generalize 10 ^ e.toNat = y at *
 have a1 : A * U * z = A * z * U := by grind
 rw [a1]
 refine Nat.mul_le_mul_right _ ?_
 have a2 : A * z ≤ Tn * z := Nat.mul_le_mul_right _ h1
 have a3 : m * y ≤ N * y := Nat.mul_le_mul_right _ hN
 omega
theorem decR_same {N N' p r T : Nat} {e : Int} (hT : T = 768) (hp : 10 ^ T ≤ p) (a1 : p * 10 ^ r < N) (a2 : N < (p + 1) * 10 ^ r) (b1 : p * 10 ^ r < N') (b2 : N' < (p + 1) * 10 ^ r) (htop : (p + 1) * 10 ^ (e + r).toNat ≤ 10 ^ T * 10 ^ (-(e + r)).toNat) : decR N e = decR N' e := by
 have main : ∀ N N' : Nat, N ≤ N' → p * 10 ^ r < N → N' < (p + 1) * 10 ^ r → decR N e = decR N' e := by
  intro N N' hle c1 c2
  obtain ⟨K, hK, hd⟩ := decR_K
  rw [hd, hd]
  refine rnd_same (ten_pos _) (ten_pos _) (Nat.mul_le_mul_right _ (Nat.mul_le_mul_right _ (Nat.mul_le_mul_right _ hle))) ?_
  intro c D hc h1 h2
  have e1 : 10 ^ r * 10 ^ e.toNat * 10 ^ (-(e + r)).toNat = 10 ^ (e + r).toNat * 10 ^ (-e).toNat := by
   rw [← Nat.pow_add, ← Nat.pow_add, ← Nat.pow_add]
   congr 1
   omega
  have hy := ten_pos e.toNat
  have hz := ten_pos (-(e + r)).toNat
  have hq := ten_pos (-e).toNat
  have hU := Nat.two_pow_pos K
  refine gap_free (p := p) (s := (e + r).toNat) (t := (-(e + r)).toNat) (c := c) (D := D) (K := K + 1) (by omega) hT hp hc ?_ ?_ htop
  ·rw [Nat.pow_succ]
   generalize 10 ^ r = x at *
   generalize 10 ^ e.toNat = y at *
   generalize 10 ^ (-(e + r)).toNat = z at *
   generalize 10 ^ (e + r).toNat = s at *
   generalize 10 ^ (-e).toNat = q at *
   generalize 2 ^ K = U at *
   generalize c * 2 ^ D = C at *
   refine Nat.lt_of_mul_lt_mul_right (a := q) ?_
   have g1 : p * x * (y * (U * 2) * z) < N * (y * (U * 2) * z) := Nat.mul_lt_mul_of_pos_right c1 (Nat.mul_pos (Nat.mul_pos hy (by omega)) hz)
   have g2 : 2 * (N * y * U) * z ≤ C * q * z := Nat.mul_le_mul_right _ h1
   have g3 : p * s * (U * 2) * q = p * x * (y * (U * 2) * z) := by
    have : p * s * (U * 2) * q = p * (s * q) * (U * 2) := by grind
    rw [this, ← e1]; grind
   have g4 : N * (y * (U * 2) * z) = 2 * (N * y * U) * z := by grind
   have g5 : C * z * q = C * q * z := by grind
   omega
  ·rw [Nat.pow_succ]
   generalize 10 ^ r = x at *
   generalize 10 ^ e.toNat = y at *
   generalize 10 ^ (-(e + r)).toNat = z at *
   generalize 10 ^ (e + r).toNat = s at *
   generalize 10 ^ (-e).toNat = q at *
   generalize 2 ^ K = U at *
   generalize c * 2 ^ D = C at *
   refine Nat.lt_of_mul_lt_mul_right (a := q) ?_
   have g1 : N' * (y * (U * 2) * z) < (p + 1) * x * (y * (U * 2) * z) := Nat.mul_lt_mul_of_pos_right c2 (Nat.mul_pos (Nat.mul_pos hy (by omega)) hz)
   have g2 : C * q * z ≤ 2 * (N' * y * U) * z := Nat.mul_le_mul_right _ h2
   have g3 : (p + 1) * s * (U * 2) * q = (p + 1) * x * (y * (U * 2) * z) := by
    have : (p + 1) * s * (U * 2) * q = (p + 1) * (s * q) * (U * 2) := by grind
    rw [this, ← e1]; grind
   have g4 : N' * (y * (U * 2) * z) = 2 * (N' * y * U) * z := by grind
   have g5 : C * z * q = C * q * z := by grind
   omega
 rcases Nat.le_total N N' with h | h
 ·exact main N N' h a1 b2
 ·exact (main N' N h b1 a2).symm
theorem decR_cut {p r q k : Nat} {e : Int} (hk : 769 ≤ k) (hp : 10 ^ (k - 1) ≤ p) (hp2 : p < 10 ^ k) (hq : q < 10 ^ r) (h0 : 0 < q) (hpt : (k : Int) + (e + r) ≤ 768) : decR (p * 10 ^ r + q) e = decR (p * 10 + 1) (e + r - 1) := by
 obtain ⟨T, hT⟩ : ∃ T : Nat, T = 768 := ⟨_, rfl⟩
 have hr : 0 < r := by
  rcases Nat.eq_zero_or_pos r with h | h
  ·rw [h, Nat.pow_zero] at hq; omega
  ·exact h
 obtain ⟨j, rfl⟩ : ∃ j, r = j + 1 := ⟨r - 1, by omega⟩
 have e1 : decR ((p * 10 + 1) * 10 ^ j) e = decR (p * 10 + 1) (e + (j + 1 : Nat) - 1) := by
  rw [decR_shift]
  exact congrArg (decR _) (by omega)
 rw [← e1]
 have hj := ten_pos j
 have hpT : 10 ^ T ≤ p := Nat.le_trans (Nat.pow_le_pow_right (by omega) (by omega)) hp
 refine decR_same hT hpT ?_ ?_ ?_ ?_ (r := j + 1) ?_
 ·omega
 ·rw [Nat.add_mul, Nat.one_mul]; omega
 ·rw [Nat.pow_succ]; grind
 ·rw [Nat.pow_succ]; grind
 ·have h1 : (p + 1) * 10 ^ (e + (j + 1 : Nat)).toNat ≤ 10 ^ k * 10 ^ (e + (j + 1 : Nat)).toNat := Nat.mul_le_mul_right _ hp2
  have h2 : 10 ^ k * 10 ^ (e + (j + 1 : Nat)).toNat ≤ 10 ^ T * 10 ^ (-(e + (j + 1 : Nat))).toNat := by
   rw [← Nat.pow_add, ← Nat.pow_add]
   exact Nat.pow_le_pow_right (by omega) (by omega)
  exact Nat.le_trans h1 h2

end Go.Proofs.YtfcpkdafkmohkaaGreatDoor
namespace Go.Proofs.YtfcpkdafkmohkaaGreatDoor
theorem two_pos (k : Nat) : 0 < 2 ^ k := Nat.two_pow_pos k
theorem big_place {N n q t A B D : Nat} (hq : N = q * n + t) (hn : 0 < n) (hD : rplace (N * 2 ^ A) (2 ^ B * n) = D) (hbig : 2 ^ 60 ≤ q) : A + 7 ≤ D + B := by
 have s2 := (rplace_spec (Nat.mul_pos (two_pos B) hn) hD).2
 rcases Nat.lt_or_ge (D + B) (A + 7) with h | h
 ·exfalso
  have h1 : 2 ^ 60 * n ≤ N := by
   have := Nat.mul_le_mul_right n hbig
   omega
  have h2 : 2 ^ 60 * n * 2 ^ A ≤ N * 2 ^ A := Nat.mul_le_mul_right _ h1
  have h3 : 2 ^ D * 2 ^ B ≤ 2 ^ (A + 6) := by rw [← Nat.pow_add]; exact Nat.pow_le_pow_right (by omega) (by omega)
  have h4 : (2 : Nat) ^ (A + 6) = 2 ^ A * 64 := by rw [Nat.pow_add]
  have h5 : 9007199254740992 * 2 ^ D * (2 ^ B * n) = 9007199254740992 * (2 ^ D * 2 ^ B) * n := by grind
  rw [h5] at s2
  have h6 : 9007199254740992 * (2 ^ D * 2 ^ B) * n ≤ 9007199254740992 * (2 ^ A * 64) * n := Nat.mul_le_mul_right _ (Nat.mul_le_mul_left _ (by omega))
  have h7 : (2 : Nat) ^ 60 = 1152921504606846976 := by decide
  rw [h7] at h2
  have hP := two_pos A
  generalize 2 ^ A = P at *
  have h8 : 9007199254740992 * (P * 64) * n = 576460752303423488 * (n * P) := by grind
  have h9 : 1152921504606846976 * n * P = 1152921504606846976 * (n * P) := Nat.mul_assoc _ _ _
  omega
 ·exact h
theorem decR_near {m N n q t s : Nat} {ten last : Int} (hN : N = m * 5 ^ ten.toNat * 2 ^ (ten - last).toNat) (hn : n = 5 ^ (-ten).toNat * 2 ^ (last - ten).toNat) (hq : N = q * n + t) (ht : t < n) (hs : s = if t = 0 then 0 else 1) (hbig : last = -1076 ∨ 2 ^ 60 ≤ q) :
  decR m ten = rnd ((q ||| s) * 2 ^ (last + 1074).toNat) (2 ^ (-(last + 1074)).toNat) := by
 obtain ⟨K, hK, hd⟩ := decR_K
 obtain ⟨A, hA⟩ : ∃ A, (last + 1074).toNat = A := ⟨_, rfl⟩
 obtain ⟨B, hB⟩ : ∃ B, (-(last + 1074)).toNat = B := ⟨_, rfl⟩
 have hn0 : 0 < n := by omega
 obtain ⟨D, hD⟩ : ∃ D, rplace (N * 2 ^ A) (2 ^ B * n) = D := ⟨_, rfl⟩
 have key : A + 2 ≤ D + B := by
  rcases hbig with h | h
  ·omega
  ·have := big_place hq hn0 hD h
   omega
 obtain ⟨d, hd2⟩ : ∃ d, D + B = A + d := ⟨D + B - A, by omega⟩
 rw [hA, hB, (rnd_quot hn0 hq ht hs hD hd2 (by omega)).2 (by omega), hd]
 refine rnd_cross (ten_pos _) (Nat.mul_pos (two_pos B) hn0) ?_
 rw [hN, hn, show (10 : Nat) = 5 * 2 from rfl, Nat.mul_pow, Nat.mul_pow]
 have e1 : 2 ^ ten.toNat * 2 ^ K * 2 ^ B * 2 ^ (last - ten).toNat = 2 ^ (ten - last).toNat * 2 ^ A * 2 ^ (-ten).toNat := by
  rw [← Nat.pow_add, ← Nat.pow_add, ← Nat.pow_add, ← Nat.pow_add, ← Nat.pow_add]
  congr 1
  omega
 generalize 5 ^ ten.toNat = f at *
 generalize 5 ^ (-ten).toNat = g at *
 generalize 2 ^ ten.toNat = x1 at *
 generalize 2 ^ K = x2 at *
 generalize 2 ^ B = x3 at *
 generalize 2 ^ (last - ten).toNat = x4 at *
 generalize 2 ^ (ten - last).toNat = y1 at *
 generalize 2 ^ A = y2 at *
 generalize 2 ^ (-ten).toNat = y3 at *
 have a1 : m * (f * x1) * x2 * (x3 * (g * x4)) = m * f * g * (x1 * x2 * x3 * x4) := by grind
 have a2 : m * f * y1 * y2 * (g * y3) = m * f * g * (y1 * y2 * y3) := by grind
 rw [a1, a2, e1]
theorem rnd_drop {n L drop A B D : Nat} (h1 : n < 2 ^ L) (h2 : L = 0 ∨ 2 ^ (L - 1) ≤ n) (hL : L ≤ drop + 53) (h3 : D = 0 ∨ L = drop + 53) (hD : D + B = A + drop) :
  rnd (n * 2 ^ A) (2 ^ B) = min (D * 4503599627370496 + ediv n (2 ^ drop)) 9218868437227405312 ∧ ediv n (2 ^ drop) ≤ 9007199254740992 ∧ (D = 0 ∨ 4503599627370496 ≤ ediv n (2 ^ drop)) := by
 have hP : 2 ^ D * 2 ^ B = 2 ^ A * 2 ^ drop := by rw [← Nat.pow_add, ← Nat.pow_add, hD]
 have hA := two_pos A
 have hd := two_pos drop
 have up : n ≤ 9007199254740992 * 2 ^ drop ∧ n < 9007199254740992 * 2 ^ drop := by
  have : 2 ^ L ≤ 9007199254740992 * 2 ^ drop := by
   rw [show (9007199254740992 : Nat) = 2 ^ 53 from rfl, ← Nat.pow_add]
   exact Nat.pow_le_pow_right (by omega) (by omega)
  omega
 have lo : D = 0 ∨ 4503599627370496 * 2 ^ drop ≤ n := by
  rcases h3 with h | h
  ·exact Or.inl h
  ·refine Or.inr ?_
   rw [show (4503599627370496 : Nat) = 2 ^ 52 from rfl, ← Nat.pow_add, show 52 + drop = L - 1 by omega]
   exact h2.resolve_left (by omega)
 have hp : rplace (n * 2 ^ A) (2 ^ B) = D := by
  refine rplace_of (two_pos B) ?_ ?_
  ·rcases lo with h | h
   ·exact Or.inl h
   ·refine Or.inr ?_
    rw [Nat.mul_assoc, hP]
    have := Nat.mul_le_mul_right (2 ^ A) h
    have e : 4503599627370496 * 2 ^ drop * 2 ^ A = 4503599627370496 * (2 ^ A * 2 ^ drop) := by rw [Nat.mul_assoc, Nat.mul_comm (2 ^ drop)]
    omega
  ·rw [Nat.mul_assoc, hP]
   have := Nat.mul_lt_mul_of_pos_right up.2 hA
   have e : 9007199254740992 * 2 ^ drop * 2 ^ A = 9007199254740992 * (2 ^ A * 2 ^ drop) := by rw [Nat.mul_assoc, Nat.mul_comm (2 ^ drop)]
   omega
 refine ⟨?_, ediv_le hd up.1, ?_⟩
 ·unfold rnd
  rw [hp, hP, Nat.mul_comm (2 ^ A), ediv_scale hA]
 ·rcases lo with h | h
  ·exact Or.inl h
  ·exact Or.inr (ediv_ge hd h)
theorem ediv_half' {n h : Nat} : ediv n (2 * h) = if h < n % (2 * h) ∨ (n % (2 * h) = h ∧ n / (2 * h) % 2 = 1) then n / (2 * h) + 1 else n / (2 * h) := by
 unfold ediv
 generalize n % (2 * h) = r
 generalize n / (2 * h) = q
 by_cases c1 : h < r
 ·rw [if_pos (Or.inl c1), decide_eq_true (by omega), Bool.true_or]; rfl
 ·rw [decide_eq_false (show ¬ 2 * h < 2 * r by omega), Bool.false_or]
  by_cases c2 : r = h
  ·rw [decide_eq_true (by omega), Bool.true_and]
   by_cases c3 : q % 2 = 1
   ·rw [decide_eq_true c3, if_pos (Or.inr ⟨c2, c3⟩)]; rfl
   ·rw [decide_eq_false c3, if_neg (by omega)]; rfl
  ·rw [decide_eq_false (show ¬ 2 * h = 2 * r by omega), Bool.false_and, if_neg (by omega)]; rfl

end Go.Proofs.YtfcpkdafkmohkaaGreatDoor
namespace Go.Proofs.YtfcpkdafkmohkaaGreatDoor
open Go.RowKit
set_option maxRecDepth 100000 in
theorem traised_any {w : World} {A : Option Addr} {n c m : Nat} (t : Int) (hA : NV w A n c m) (hm : bln m ≤ 6000) (ht1 : -2000 ≤ t) (ht : t ≤ 2000) :
  Cp 185 #[.slice A n c, .int .i64 t] w (NRet (m * 5 ^ t.toNat) w) := by
 have hp := bln_five t.toNat
 obtain ⟨k, hk⟩ : ∃ k, t.toNat = k := ⟨_, rfl⟩
 rw [hk] at hp ⊢
 have C1 := Lib.hid (fun W => npow 5 k W (by omega) (by omega) (by omega))
 have C2 := Lib.hid (fun W C k2 d (h : NV W C k2 d (5 ^ k)) (g : NV W A n c m) => nmul g h (by omega) (by omega))
 have H := Lib.hid hA
 have e0 : max t 0 = (k : Int) := by omega
 clear hA hp hk hm ht1 ht
 go_enter Tryz.func185, Tryz.ntmps185
 go_wp2_with fail
 refine (C1.out _).mono ?_
 rintro e w1 ⟨A1, n1, c1, rfl, g1, b1⟩
 have G1 := Lib.hid g1
 have G0 := Lib.hid (H.out.step b1)
 have B1 := Lib.hid b1
 clear g1 b1
 go_wp2_with fail
 refine (C2.out _ _ _ _ G1.out G0.out).mono ?_
 rintro e w2 ⟨A2, n2, c2, rfl, g2, b2⟩
 have G2 := Lib.hid g2
 have B2 := Lib.hid b2
 clear g2 b2
 go_wp2
 go_ret
 exact ⟨A2, n2, c2, rfl, G2.out, below_le B1.out B2.out⟩
def QRet (a b : Nat) (w : World) (e : Ending) (w' : World) : Prop := ∃ A n c, e = .returned (.tuple #[.slice A n c, .bool (decide (a % b = 0))]) ∧ NV w' A n c (a / b) ∧ Below w.heap.size w w'
theorem len_zero {v n : Nat} (h : (wds v).length = n) : ((n : Int) == 0) = decide (v = 0) := by
 by_cases h0 : v = 0
 ·rw [h0] at h
  have : n = 0 := by rw [← h]; rfl
  rw [this, h0]; rfl
 ·have h1 : (wds v) ≠ [] := by
   intro e
   have := wds_val v
   rw [e] at this
   exact h0 this.symm
  have h2 := List.length_pos_iff.2 h1
  rw [decide_eq_false h0, beq_eq_false_iff_ne]
  omega
set_option maxRecDepth 100000 in
set_option maxHeartbeats 1000000 in
theorem tratio_any {w : World} {A C : Option Addr} {n c m d a b : Nat} (t : Int) (hA : NV w A n c a) (hC : NV w C m d b) (ha : bln a ≤ 6000) (hb : bln b ≤ 6000) (h0 : 0 < b) (ht1 : -8000 ≤ t) (ht : t ≤ 8000) :
  Cp 109 #[.slice A n c, .slice C m d, .int .i64 t] w (QRet (a * 2 ^ t.toNat) (b * 2 ^ (-t).toNat) w) := by
 have hp1 := bln_pow2 t.toNat
 have hp2 := bln_pow2 (-t).toNat
 have hm1 := bln_mul a (2 ^ t.toNat)
 have hm2 := bln_mul b (2 ^ (-t).toNat)
 have h00 : 0 < b * 2 ^ (-t).toNat := Nat.mul_pos h0 (two_pos _)
 obtain ⟨x, hx⟩ : ∃ x, t.toNat = x := ⟨_, rfl⟩
 obtain ⟨y, hy⟩ : ∃ y, (-t).toNat = y := ⟨_, rfl⟩
 rw [hx] at hp1 hm1 ⊢
 rw [hy] at hp2 hm2 h00 ⊢
 have C1 := Lib.hid (fun W (h : NV W A n c a) => nshl h x (by omega))
 have C2 := Lib.hid (fun W (h : NV W C m d b) => nshl h y (by omega))
 obtain ⟨P, hP⟩ : ∃ P, a * 2 ^ x = P := ⟨_, rfl⟩
 obtain ⟨Q, hQ⟩ : ∃ Q, b * 2 ^ y = Q := ⟨_, rfl⟩
 rw [hP] at C1 hm1 ⊢
 rw [hQ] at C2 hm2 h00 ⊢
 have C3 := Lib.hid (fun W A1 n1 c1 A2 n2 c2 (h : NV W A1 n1 c1 P) (g : NV W A2 n2 c2 Q) => ndiv h g (by omega) (by omega) h00)
 have HA := Lib.hid hA
 have HC := Lib.hid hC
 have e0 : max t 0 = (x : Int) := by omega
 have e1 : max (-t) 0 = (y : Int) := by omega
 have e2 : IntKind.i64.wrap (-t) = -t := IntWalk.i64_in _ (by omega)
 clear hA hC ha hb h0 ht1 ht hp1 hp2 hm1 hm2 hx hy hP hQ
 go_enter Tryz.func109, Tryz.ntmps109
 go_wp2_with fail
 refine (C1.out _ HA.out).mono ?_
 rintro e w1 ⟨A1, n1, c1, rfl, g1, b1⟩
 have G1 := Lib.hid g1
 have GC := Lib.hid (HC.out.step b1)
 have B1 := Lib.hid b1
 clear g1 b1
 go_wp2_with fail
 refine (C2.out _ GC.out).mono ?_
 rintro e w2 ⟨A2, n2, c2, rfl, g2, b2⟩
 have G2 := Lib.hid g2
 have G1' := Lib.hid (G1.out.step b2)
 have B2 := Lib.hid (below_le B1.out b2)
 clear g2 b2
 go_wp2_with fail
 refine (C3.out _ _ _ _ _ _ _ G1'.out G2.out).mono ?_
 rintro e w3 ⟨A3, n3, c3, A4, n4, c4, rfl, g3, g4, b3⟩
 have G3 := Lib.hid g3
 have B3 := Lib.hid (below_le B2.out b3)
 have HZ := Lib.hid (len_zero g4.len)
 clear g3 g4 b3
 go_wp2
 go_ret2
 exact ⟨A3, n3, c3, by rw [← HZ.out]; rfl, G3.out, B3.out⟩

end Go.Proofs.YtfcpkdafkmohkaaGreatDoor
namespace Go.Proofs.YtfcpkdafkmohkaaGreatDoor
open Go.RowKit
set_option maxRecDepth 100000 in
set_option maxHeartbeats 1000000 in
theorem tword_any {w : World} {A : Option Addr} {n c v : Nat} (hA : NV w A n c v) (hv : v < 18446744073709551616) :
  Cq 159 #[.slice A n c] (.int .u64 v) w := by
 have hn : n ≤ 2 := by
  rw [← hA.len]
  exact wds_len_lt (by rw [show (4294967296 : Nat) ^ 2 = 18446744073709551616 from by decide]; exact hv)
 have hL := hA.len
 have hws := wds_ws v
 by_cases hn0 : n = 0
 ·subst hn0
  have hv0 : v = 0 := by
   have h1 := wds_val v
   rw [List.eq_nil_of_length_eq_zero hL] at h1
   exact h1.symm
  subst hv0
  clear hL hws hv hA hn
  go_enter Tryz.func159, Tryz.ntmps159
  go_wp2
  go_loopw [3, 8] (fun a i wr => a = .int .u64 0 ∧ i = .int .i64 0 ∧ w = wr) (fun _ _ _ => 0)
  case atStart => exact ⟨rfl, rfl, rfl⟩
  case round =>
   obtain ⟨rfl, rfl, rfl⟩ := hrel
   go_wp2
   go_ret
   exact ⟨rfl, rfl⟩
 ·obtain ⟨b, off, rfl, _, hc⟩ := hA.row.2 (by omega)
  obtain ⟨x, hx⟩ : ∃ x, (wds v).getD 0 0 = x := ⟨_, rfl⟩
  obtain ⟨y, hy⟩ : ∃ y, (wds v).getD 1 0 = y := ⟨_, rfl⟩
  have hxl : x < 4294967296 := by rw [← hx]; exact hws.getD 0
  have hyl : y < 4294967296 := by rw [← hy]; exact hws.getD 1
  have hV1 : n = 1 → v = x := by
   intro h1
   have h2 := wds_val v
   rw [← val_take_end (k := 1) (by omega), val_take_next, hx] at h2
   simp [val] at h2
   exact h2.symm
  have hV2 : n = 2 → v = x + 4294967296 * y := by
   intro h1
   have h2 := wds_val v
   rw [← val_take_end (k := 2) (by omega), val_take_next, val_take_next, hx, hy] at h2
   simp [val] at h2
   exact h2.symm
  have c0 : w.cell? ⟨b, off, none⟩ = some (.int .u32 (x : Int)) := by
   rw [← hx]
   exact hc 0 _ (getD_some (by omega))
  have hx0 : bits BinOp.or IntKind.u64 0 (x : Int) = (x : Int) := by
   have := or_u64 0 x (by omega) (by omega)
   rw [Nat.zero_or] at this
   exact this
  have k1 : IntKind.u64.wrap (x : Int) = (x : Int) := IntWalk.u64_in _ (by omega)
  rcases (show n = 1 ∨ n = 2 by omega) with rfl | rfl
  ·have hv1 := hV1 rfl
   subst hv1
   clear hV1 hV2 hx hy hyl hws hL hA hn hn0 hc
   go_enter Tryz.func159, Tryz.ntmps159
   go_wp2
   go_loopw [3, 8] (fun a i wr => ((a = .int .u64 0 ∧ i = .int .i64 0) ∨ (a = .int .u64 (v : Int) ∧ i = .int .i64 1)) ∧ w = wr) (fun _ i _ => 1 - (intOf i).toNat)
   case atStart => exact ⟨Or.inl ⟨rfl, rfl⟩, rfl⟩
   case round =>
    obtain ⟨⟨rfl, rfl⟩ | ⟨rfl, rfl⟩, rfl⟩ := hrel
    ·go_wp2
     exact ⟨⟨Or.inr ⟨rfl, rfl⟩, trivial⟩, by simp [intOf]⟩
    ·go_wp2
     go_ret
     exact ⟨rfl, rfl⟩
  ·have hv2 := hV2 rfl
   have c1 : w.cell? ⟨b, off + 1, none⟩ = some (.int .u32 (y : Int)) := by
    rw [← hy]
    exact hc 1 _ (getD_some (by omega))
   have k2 : IntKind.u64.wrap (y : Int) = (y : Int) := IntWalk.u64_in _ (by omega)
   have k3 : IntKind.u64.wrap ((y : Int) * 4294967296) = (y : Int) * 4294967296 := IntWalk.u64_in _ (by omega)
   have hy0 : bits BinOp.or IntKind.u64 (x : Int) ((y : Int) * 4294967296) = (v : Int) := by
    have h1 := or_u64 x (y * 4294967296) (by omega) (by omega)
    have h2 : ((y * 4294967296 : Nat) : Int) = (y : Int) * 4294967296 := by omega
    rw [h2] at h1
    rw [h1, Nat.or_comm, two_word y x hxl, hv2, Nat.mul_comm y, Nat.add_comm]
   clear hV1 hV2 hx hy hws hL hA hn hn0 hc hv2 hxl hyl hv
   go_enter Tryz.func159, Tryz.ntmps159
   go_wp2
   go_loopw [3, 8] (fun a i wr => ((a = .int .u64 0 ∧ i = .int .i64 0) ∨ (a = .int .u64 (x : Int) ∧ i = .int .i64 1) ∨ (a = .int .u64 (v : Int) ∧ i = .int .i64 2)) ∧ w = wr) (fun _ i _ => 2 - (intOf i).toNat)
   case atStart => exact ⟨Or.inl ⟨rfl, rfl⟩, rfl⟩
   case round =>
    obtain ⟨⟨rfl, rfl⟩ | ⟨rfl, rfl⟩ | ⟨rfl, rfl⟩, rfl⟩ := hrel
    ·go_wp2
     exact ⟨⟨Or.inr (Or.inl ⟨rfl, rfl⟩), trivial⟩, by simp [intOf]⟩
    ·go_wp2
     exact ⟨⟨Or.inr (Or.inr ⟨rfl, rfl⟩), trivial⟩, by simp [intOf]⟩
    ·go_wp2
     go_ret
     exact ⟨rfl, rfl⟩

end Go.Proofs.YtfcpkdafkmohkaaGreatDoor
namespace Go.Proofs.YtfcpkdafkmohkaaGreatDoor
open Go.RowKit
theorem fmag_mono {r s : Nat} (h : fmag r ≤ fmag s) : r ≤ s := by
 rcases Nat.lt_or_ge s r with h1 | h1
 ·have := fmag_step h1
  omega
 ·exact h1
theorem Ld_make2 {E D : Nat} {e' : Int} (hE : E ≤ 9007199254740992) (hD : D = 0 ∨ 4503599627370496 ≤ E) (hD2 : D ≤ 8000) (he : e' = (D : Int) - 1074) (w : World) : Cq 206 #[.float .f64 (fl E), .int .i64 e'] (.float .f64 (min (D * 4503599627370496 + E) 9218868437227405312)) w := by
 rcases Nat.lt_or_ge 2045 D with h | h
 ·obtain ⟨K, hK⟩ : ∃ K : Nat, K = 1074 := ⟨_, rfl⟩
  obtain ⟨y1, y2⟩ := fl_upto hE hK
  have hE2 : 4503599627370496 ≤ E := hD.resolve_left (by omega)
  have e1 := fmag_make 4503599627370496 K (by omega) (by omega)
  have h3 : K * 4503599627370496 + 4503599627370496 ≤ fl E := by
   refine fmag_mono ?_
   rw [e1, y2]
   exact Nat.mul_le_mul_right _ hE2
  have h4 := ldexp_any (fl E) (D - 1074) w (by omega) y1 (by omega)
  have h5 : scl (fl E) (D - 1074) = 9218868437227405312 := by
   unfold scl
   rw [if_neg]
   have : K + 1 ≤ fl E / 4503599627370496 := by
    rw [Nat.le_div_iff_mul_le (by omega)]
    omega
   omega
  rw [h5] at h4
  rw [show e' = ((D - 1074 : Nat) : Int) by omega, Nat.min_eq_right (by omega)]
  exact h4
 ·exact Ld_make hE hD h he w
set_option maxRecDepth 100000 in
set_option maxHeartbeats 1000000 in
theorem trounded_a (n d L q H P r s E F : Nat) (two X : Int) (w : World) (hnb : n < 18446744073709551616) (hL : Lib.bitLen n = L) (hd0 : 1 ≤ d) (hd3 : d ≤ 10) (k1 : IntKind.i64.wrap (-1074 - two) = -1074 - two) (k2 : IntKind.i64.wrap ((L : Int) - 53) = (L : Int) - 53) (hd : max ((L : Int) - 53) (-1074 - two) = (d : Int))
  (q1 : (n : Int) / 2 ^ d = (q : Int)) (q2 : IntKind.u64.wrap (2 ^ d) = (P : Int)) (q3 : IntKind.u64.wrap ((P : Int) - 1) = (P : Int) - 1) (q4 : IntKind.u64.wrap (2 ^ (d - 1)) = (H : Int)) (q5 : bits BinOp.and IntKind.u64 (n : Int) ((P : Int) - 1) = (r : Int)) (q6 : bits BinOp.and IntKind.u64 (q : Int) 1 = (s : Int)) (q7 : IntKind.u64.wrap ((q : Int) + 1) = (q : Int) + 1) (q8 : wrap64 (two + (d : Int)) = X)
  (t1 : decide (H < r) = true) (hE : (q : Int) + 1 = (E : Int))
  (C2 : Hid (∀ W, Cq 206 #[.float .f64 (floatOfInt .f64 (E : Int)), .int .i64 X] (.float .f64 F) W)) :
  Ct 199 #[.int .u64 n, .int .i64 two] (.float .f64 F) w := by
 have C1 := Lib.hid (fun W => (Tryz.bits_Len64 (n : Int) W (by omega) (by omega)).mono fun e w' h => And.intro h.1 h.2.symm)
 rw [Int.toNat_natCast, hL] at C1
 have k3 : (0 : Int) ≤ (d : Int) := by omega
 have k4 : (0 : Int) ≤ (d : Int) - 1 := by omega
 rw [← hE] at C2
 have Q1 := Lib.hid q1
 have Q2 := Lib.hid q2
 have Q3 := Lib.hid q3
 have Q4 := Lib.hid q4
 have Q5 := Lib.hid q5
 have Q6 := Lib.hid q6
 have Q7 := Lib.hid q7
 have Q8 := Lib.hid q8
 have T1 := Lib.hid t1
 clear t1 hL hnb hE q1 q2 q3 q4 q5 q6 q7 q8
 go_enter Tryz.func199, Tryz.ntmps199
 go_wp2_with fail
 refine (C1.out _).mono ?_
 rintro e w' ⟨rfl, rfl⟩
 go_wp2
 go_quiet (fail)
 have q1 := Q1.out
 have q2 := Q2.out
 have q3 := Q3.out
 have q4 := Q4.out
 have q5 := Q5.out
 have q6 := Q6.out
 have q7 := Q7.out
 have q8 := Q8.out
 have t1 := T1.out
 go_wp2_with fail
 refine (C2.out _).mono ?_
 rintro e w' ⟨rfl, rfl⟩
 go_wp2
 go_ret
 exact ⟨rfl, below_drewN' (Below.refl _ _) _⟩
set_option maxRecDepth 100000 in
set_option maxHeartbeats 1000000 in
theorem trounded_b (n d L q H P s E F : Nat) (two X : Int) (w : World) (hnb : n < 18446744073709551616) (hL : Lib.bitLen n = L) (hd0 : 1 ≤ d) (hd3 : d ≤ 10) (k1 : IntKind.i64.wrap (-1074 - two) = -1074 - two) (k2 : IntKind.i64.wrap ((L : Int) - 53) = (L : Int) - 53) (hd : max ((L : Int) - 53) (-1074 - two) = (d : Int))
  (q1 : (n : Int) / 2 ^ d = (q : Int)) (q2 : IntKind.u64.wrap (2 ^ d) = (P : Int)) (q3 : IntKind.u64.wrap ((P : Int) - 1) = (P : Int) - 1) (q4 : IntKind.u64.wrap (2 ^ (d - 1)) = (H : Int)) (q5 : bits BinOp.and IntKind.u64 (n : Int) ((P : Int) - 1) = (H : Int)) (q6 : bits BinOp.and IntKind.u64 (q : Int) 1 = (s : Int)) (q7 : IntKind.u64.wrap ((q : Int) + 1) = (q : Int) + 1) (q8 : wrap64 (two + (d : Int)) = X)
  (t3 : ((s : Int) == 1) = true) (hE : (q : Int) + 1 = (E : Int))
  (C2 : Hid (∀ W, Cq 206 #[.float .f64 (floatOfInt .f64 (E : Int)), .int .i64 X] (.float .f64 F) W)) :
  Ct 199 #[.int .u64 n, .int .i64 two] (.float .f64 F) w := by
 have C1 := Lib.hid (fun W => (Tryz.bits_Len64 (n : Int) W (by omega) (by omega)).mono fun e w' h => And.intro h.1 h.2.symm)
 rw [Int.toNat_natCast, hL] at C1
 have k3 : (0 : Int) ≤ (d : Int) := by omega
 have k4 : (0 : Int) ≤ (d : Int) - 1 := by omega
 rw [← hE] at C2
 have Q1 := Lib.hid q1
 have Q2 := Lib.hid q2
 have Q3 := Lib.hid q3
 have Q4 := Lib.hid q4
 have Q5 := Lib.hid q5
 have Q6 := Lib.hid q6
 have Q7 := Lib.hid q7
 have Q8 := Lib.hid q8
 have T3 := Lib.hid t3
 clear t3 hL hnb hE q1 q2 q3 q4 q5 q6 q7 q8
 go_enter Tryz.func199, Tryz.ntmps199
 go_wp2_with fail
 refine (C1.out _).mono ?_
 rintro e w' ⟨rfl, rfl⟩
 go_wp2
 go_quiet (fail)
 have q1 := Q1.out
 have q2 := Q2.out
 have q3 := Q3.out
 have q4 := Q4.out
 have q5 := Q5.out
 have q6 := Q6.out
 have q7 := Q7.out
 have q8 := Q8.out
 have t3 := T3.out
 go_wp2_with fail
 refine (C2.out _).mono ?_
 rintro e w' ⟨rfl, rfl⟩
 go_wp2
 go_ret
 exact ⟨rfl, below_drewN' (Below.refl _ _) _⟩
set_option maxRecDepth 100000 in
set_option maxHeartbeats 1000000 in
theorem trounded_c (n d L q H P s E F : Nat) (two X : Int) (w : World) (hnb : n < 18446744073709551616) (hL : Lib.bitLen n = L) (hd0 : 1 ≤ d) (hd3 : d ≤ 10) (k1 : IntKind.i64.wrap (-1074 - two) = -1074 - two) (k2 : IntKind.i64.wrap ((L : Int) - 53) = (L : Int) - 53) (hd : max ((L : Int) - 53) (-1074 - two) = (d : Int))
  (q1 : (n : Int) / 2 ^ d = (q : Int)) (q2 : IntKind.u64.wrap (2 ^ d) = (P : Int)) (q3 : IntKind.u64.wrap ((P : Int) - 1) = (P : Int) - 1) (q4 : IntKind.u64.wrap (2 ^ (d - 1)) = (H : Int)) (q5 : bits BinOp.and IntKind.u64 (n : Int) ((P : Int) - 1) = (H : Int)) (q6 : bits BinOp.and IntKind.u64 (q : Int) 1 = (s : Int)) (q7 : IntKind.u64.wrap ((q : Int) + 1) = (q : Int) + 1) (q8 : wrap64 (two + (d : Int)) = X)
  (t3 : ((s : Int) == 1) = false) (hE : (q : Int) = (E : Int))
  (C2 : Hid (∀ W, Cq 206 #[.float .f64 (floatOfInt .f64 (E : Int)), .int .i64 X] (.float .f64 F) W)) :
  Ct 199 #[.int .u64 n, .int .i64 two] (.float .f64 F) w := by
 have C1 := Lib.hid (fun W => (Tryz.bits_Len64 (n : Int) W (by omega) (by omega)).mono fun e w' h => And.intro h.1 h.2.symm)
 rw [Int.toNat_natCast, hL] at C1
 have k3 : (0 : Int) ≤ (d : Int) := by omega
 have k4 : (0 : Int) ≤ (d : Int) - 1 := by omega
 rw [← hE] at C2
 have Q1 := Lib.hid q1
 have Q2 := Lib.hid q2
 have Q3 := Lib.hid q3
 have Q4 := Lib.hid q4
 have Q5 := Lib.hid q5
 have Q6 := Lib.hid q6
 have Q7 := Lib.hid q7
 have Q8 := Lib.hid q8
 have T3 := Lib.hid t3
 clear t3 hL hnb hE q1 q2 q3 q4 q5 q6 q7 q8
 go_enter Tryz.func199, Tryz.ntmps199
 go_wp2_with fail
 refine (C1.out _).mono ?_
 rintro e w' ⟨rfl, rfl⟩
 go_wp2
 go_quiet (fail)
 have q1 := Q1.out
 have q2 := Q2.out
 have q3 := Q3.out
 have q4 := Q4.out
 have q5 := Q5.out
 have q6 := Q6.out
 have q7 := Q7.out
 have q8 := Q8.out
 have t3 := T3.out
 go_wp2_with fail
 refine (C2.out _).mono ?_
 rintro e w' ⟨rfl, rfl⟩
 go_wp2
 go_ret
 exact ⟨rfl, below_drewN' (Below.refl _ _) _⟩
set_option maxRecDepth 100000 in
set_option maxHeartbeats 1000000 in
theorem trounded_d (n d L q H P r s E F : Nat) (two X : Int) (w : World) (hnb : n < 18446744073709551616) (hL : Lib.bitLen n = L) (hd0 : 1 ≤ d) (hd3 : d ≤ 10) (k1 : IntKind.i64.wrap (-1074 - two) = -1074 - two) (k2 : IntKind.i64.wrap ((L : Int) - 53) = (L : Int) - 53) (hd : max ((L : Int) - 53) (-1074 - two) = (d : Int))
  (q1 : (n : Int) / 2 ^ d = (q : Int)) (q2 : IntKind.u64.wrap (2 ^ d) = (P : Int)) (q3 : IntKind.u64.wrap ((P : Int) - 1) = (P : Int) - 1) (q4 : IntKind.u64.wrap (2 ^ (d - 1)) = (H : Int)) (q5 : bits BinOp.and IntKind.u64 (n : Int) ((P : Int) - 1) = (r : Int)) (q6 : bits BinOp.and IntKind.u64 (q : Int) 1 = (s : Int)) (q7 : IntKind.u64.wrap ((q : Int) + 1) = (q : Int) + 1) (q8 : wrap64 (two + (d : Int)) = X)
  (t1 : decide (H < r) = false) (t2 : ((r : Int) == (H : Int)) = false) (hE : (q : Int) = (E : Int))
  (C2 : Hid (∀ W, Cq 206 #[.float .f64 (floatOfInt .f64 (E : Int)), .int .i64 X] (.float .f64 F) W)) :
  Ct 199 #[.int .u64 n, .int .i64 two] (.float .f64 F) w := by
 have C1 := Lib.hid (fun W => (Tryz.bits_Len64 (n : Int) W (by omega) (by omega)).mono fun e w' h => And.intro h.1 h.2.symm)
 rw [Int.toNat_natCast, hL] at C1
 have k3 : (0 : Int) ≤ (d : Int) := by omega
 have k4 : (0 : Int) ≤ (d : Int) - 1 := by omega
 rw [← hE] at C2
 have Q1 := Lib.hid q1
 have Q2 := Lib.hid q2
 have Q3 := Lib.hid q3
 have Q4 := Lib.hid q4
 have Q5 := Lib.hid q5
 have Q6 := Lib.hid q6
 have Q7 := Lib.hid q7
 have Q8 := Lib.hid q8
 have T1 := Lib.hid t1
 have T2 := Lib.hid t2
 clear t1 t2 hL hnb hE q1 q2 q3 q4 q5 q6 q7 q8
 go_enter Tryz.func199, Tryz.ntmps199
 go_wp2_with fail
 refine (C1.out _).mono ?_
 rintro e w' ⟨rfl, rfl⟩
 go_wp2
 go_quiet (fail)
 have q1 := Q1.out
 have q2 := Q2.out
 have q3 := Q3.out
 have q4 := Q4.out
 have q5 := Q5.out
 have q6 := Q6.out
 have q7 := Q7.out
 have q8 := Q8.out
 have t1 := T1.out
 have t2 := T2.out
 go_wp2_with fail
 refine (C2.out _).mono ?_
 rintro e w' ⟨rfl, rfl⟩
 go_wp2
 go_ret
 exact ⟨rfl, below_drewN' (Below.refl _ _) _⟩

end Go.Proofs.YtfcpkdafkmohkaaGreatDoor
namespace Go.Proofs.YtfcpkdafkmohkaaGreatDoor
open Go.RowKit
theorem bit_bounds {n : Nat} (hn : n < 9223372036854775808) : n < 2 ^ Lib.bitLen n ∧ (Lib.bitLen n = 0 ∨ 2 ^ (Lib.bitLen n - 1) ≤ n) ∧ Lib.bitLen n ≤ 63 := by
 have h63 := Lib.bitLen_le n 63 (by omega) (by rw [show (2 : Nat) ^ 63 = 9223372036854775808 by decide]; exact hn)
 rcases Nat.eq_zero_or_pos n with h0 | h0
 ·rw [h0, show Lib.bitLen 0 = 0 by decide]
  exact ⟨by decide, Or.inl rfl, by omega⟩
 ·have h := Lib.bitLenAux_bounds 64 n (by omega) (by omega)
  exact ⟨h.2.2, Or.inr h.2.1, h63⟩
set_option maxRecDepth 100000 in
theorem trounded_any (n : Nat) (two : Int) (w : World) (hn : n < 9223372036854775808) (h1 : -1076 ≤ two) (h2 : two ≤ 6000) (hb : two = -1076 ∨ 2 ^ 60 ≤ n) :
  Ct 199 #[.int .u64 n, .int .i64 two] (.float .f64 (rnd (n * 2 ^ (two + 1074).toNat) (2 ^ (-(two + 1074)).toNat))) w := by
 obtain ⟨b1, b2, b3⟩ := bit_bounds hn
 obtain ⟨L, hL⟩ : ∃ L, Lib.bitLen n = L := ⟨_, rfl⟩
 rw [hL] at b1 b2 b3
 have hL60 : two = -1076 ∨ 61 ≤ L := by
  rcases hb with h | h
  ·exact Or.inl h
  ·refine Or.inr ?_
   have := (Nat.pow_lt_pow_iff_right (a := 2) (by omega)).1 (Nat.lt_of_le_of_lt h b1)
   omega
 obtain ⟨d, hd⟩ : ∃ d : Nat, max ((L : Int) - 53) (-1074 - two) = (d : Int) := ⟨(max ((L : Int) - 53) (-1074 - two)).toNat, by omega⟩
 have hd2 : 2 ≤ d := by omega
 have hd3 : d ≤ 10 := by omega
 obtain ⟨D, hD⟩ : ∃ D : Nat, two + d + 1074 = (D : Int) := ⟨(two + d + 1074).toNat, by omega⟩
 obtain ⟨A, hA⟩ : ∃ A, (two + 1074).toNat = A := ⟨_, rfl⟩
 obtain ⟨B, hB⟩ : ∃ B, (-(two + 1074)).toNat = B := ⟨_, rfl⟩
 rw [hA, hB]
 obtain ⟨r1, r2, r3⟩ := rnd_drop (n := n) (L := L) (drop := d) (A := A) (B := B) (D := D) b1 b2 (by omega) (by omega) (by omega)
 rw [r1]
 obtain ⟨E, hE⟩ : ∃ E, ediv n (2 ^ d) = E := ⟨_, rfl⟩
 rw [hE] at r2 r3 ⊢
 have C2 : Hid (∀ W, Cq 206 #[.float .f64 (floatOfInt .f64 (E : Int)), .int .i64 (two + d)] (.float .f64 (min (D * 4503599627370496 + E) 9218868437227405312)) W) :=
  Lib.hid (fun W => Ld_make2 (D := D) r2 r3 (by omega) (by omega) W)
 obtain ⟨c, rfl⟩ : ∃ c, d = c + 1 := ⟨d - 1, by omega⟩
 have hP : 2 ^ (c + 1) = 2 * 2 ^ c := by rw [Nat.pow_succ, Nat.mul_comm]
 obtain ⟨H, hH⟩ : ∃ H, 2 ^ c = H := ⟨_, rfl⟩
 rw [hH] at hP
 have hH0 : 0 < H := by rw [← hH]; exact two_pos c
 have hH9 : H ≤ 512 := by
  rw [← hH]
  have := Nat.pow_le_pow_right (n := 2) (by omega) (show c ≤ 9 by omega)
  omega
 obtain ⟨P, hPP⟩ : ∃ P, 2 ^ (c + 1) = P := ⟨_, rfl⟩
 rw [hPP] at hP
 have cast : ∀ k : Nat, ((2 : Int) ^ k) = ((2 ^ k : Nat) : Int) := fun k => by simp
 obtain ⟨q, hq⟩ : ∃ q, n / P = q := ⟨_, rfl⟩
 obtain ⟨r, hr⟩ : ∃ r, n % P = r := ⟨_, rfl⟩
 have hql : q ≤ n := by rw [← hq]; exact Nat.div_le_self _ _
 have hrl : r < P := by rw [← hr]; exact Nat.mod_lt _ (by omega)
 have q1 : (n : Int) / 2 ^ (c + 1) = (q : Int) := by rw [cast, hPP, ← hq]; exact (Int.natCast_ediv n P).symm
 have q2 : IntKind.u64.wrap (2 ^ (c + 1)) = (P : Int) := by rw [cast, hPP]; exact IntWalk.u64_in _ (by omega)
 have q3 : IntKind.u64.wrap ((P : Int) - 1) = (P : Int) - 1 := IntWalk.u64_in _ (by omega)
 have q4 : IntKind.u64.wrap (2 ^ (c + 1 - 1)) = (H : Int) := by rw [Nat.add_sub_cancel, cast, hH]; exact IntWalk.u64_in _ (by omega)
 have q5 : bits BinOp.and IntKind.u64 (n : Int) ((P : Int) - 1) = (r : Int) := by
  rw [show ((P : Int) - 1) = ((P - 1 : Nat) : Int) by omega, u64_and_nat _ _ (by omega) (by omega), ← hPP, Nat.and_two_pow_sub_one_eq_mod, hPP, hr]
 have q6 : bits BinOp.and IntKind.u64 (q : Int) 1 = ((q % 2 : Nat) : Int) := by
  have := u64_and_nat q 1 (by omega) (by omega)
  rw [show ((1 : Nat) : Int) = 1 from rfl] at this
  rw [this, show (1 : Nat) = 2 ^ 1 - 1 from rfl, Nat.and_two_pow_sub_one_eq_mod]
 have q7 : IntKind.u64.wrap ((q : Int) + 1) = (q : Int) + 1 := IntWalk.u64_in _ (by omega)
 have q8 : wrap64 (two + ((c + 1 : Nat) : Int)) = two + ((c + 1 : Nat) : Int) := by
  unfold wrap64; omega
 have k1 : IntKind.i64.wrap (-1074 - two) = -1074 - two := IntWalk.i64_in _ (by omega)
 have k2 : IntKind.i64.wrap ((L : Int) - 53) = (L : Int) - 53 := IntWalk.i64_in _ (by omega)
 have hEE : E = if H < r ∨ (r = H ∧ q % 2 = 1) then q + 1 else q := by
  rw [← hE, hPP, hP, ediv_half', ← hP, hq, hr]
 rcases Nat.lt_trichotomy r H with h | h | h
 ·rw [if_neg (by omega)] at hEE
  exact trounded_d n (c + 1) L q H P r (q % 2) E _ two _ w (by omega) hL (by omega) hd3 k1 k2 hd q1 q2 q3 q4 q5 q6 q7 q8 (decide_eq_false (by omega)) (by rw [beq_eq_false_iff_ne]; omega) (by rw [hEE]) C2
 ·subst h
  by_cases ho : q % 2 = 1
  ·rw [if_pos (Or.inr ⟨rfl, ho⟩)] at hEE
   exact trounded_b n (c + 1) L q r P (q % 2) E _ two _ w (by omega) hL (by omega) hd3 k1 k2 hd q1 q2 q3 q4 q5 q6 q7 q8 (by rw [ho]; rfl) (by rw [hEE]; rfl) C2
  ·rw [if_neg (by omega)] at hEE
   exact trounded_c n (c + 1) L q r P (q % 2) E _ two _ w (by omega) hL (by omega) hd3 k1 k2 hd q1 q2 q3 q4 q5 q6 q7 q8 (by rw [beq_eq_false_iff_ne]; omega) (by rw [hEE]) C2
 ·rw [if_pos (Or.inl h)] at hEE
  exact trounded_a n (c + 1) L q H P r (q % 2) E _ two _ w (by omega) hL (by omega) hd3 k1 k2 hd q1 q2 q3 q4 q5 q6 q7 q8 (decide_eq_true h) (by rw [hEE]; rfl) C2
theorem quot_bits {a b x y p q : Nat} (ha1 : 2 ^ p ≤ a) (ha2 : a < 2 ^ (p + 1)) (hb1 : 2 ^ q ≤ b) (hb2 : b < 2 ^ (q + 1)) (k : Nat) :
  (p + 1 + x ≤ k + q + y → a * 2 ^ x / (b * 2 ^ y) < 2 ^ k) ∧ (k + q + 1 + y ≤ p + x → 2 ^ k ≤ a * 2 ^ x / (b * 2 ^ y)) := by
 have hX := two_pos x
 have hY := two_pos y
 have hb : 0 < b := Nat.lt_of_lt_of_le (two_pos q) hb1
 constructor
 ·intro h
  rw [Nat.div_lt_iff_lt_mul (Nat.mul_pos hb hY)]
  have h1 : a * 2 ^ x < 2 ^ (p + 1) * 2 ^ x := Nat.mul_lt_mul_of_pos_right ha2 hX
  have h2 : 2 ^ k * (2 ^ q * 2 ^ y) ≤ 2 ^ k * (b * 2 ^ y) := Nat.mul_le_mul_left _ (Nat.mul_le_mul_right _ hb1)
  have h3 : 2 ^ (p + 1) * 2 ^ x ≤ 2 ^ k * (2 ^ q * 2 ^ y) := by
   rw [← Nat.pow_add, ← Nat.pow_add, ← Nat.pow_add]
   exact Nat.pow_le_pow_right (by omega) (by omega)
  omega
 ·intro h
  rw [Nat.le_div_iff_mul_le (Nat.mul_pos hb hY)]
  have h1 : 2 ^ p * 2 ^ x ≤ a * 2 ^ x := Nat.mul_le_mul_right _ ha1
  have h2 : 2 ^ k * (b * 2 ^ y) ≤ 2 ^ k * (2 ^ (q + 1) * 2 ^ y) := Nat.mul_le_mul_left _ (Nat.mul_le_mul_right _ (Nat.le_of_lt hb2))
  have h3 : 2 ^ k * (2 ^ (q + 1) * 2 ^ y) ≤ 2 ^ p * 2 ^ x := by
   rw [← Nat.pow_add, ← Nat.pow_add, ← Nat.pow_add]
   exact Nat.pow_le_pow_right (by omega) (by omega)
  omega
def NearP (m : Nat) (ten : Int) (w : World) (e : Ending) (w' : World) : Prop := e = .returned (.float .f64 (decR m ten)) ∧ Below w.heap.size w w'
set_option maxRecDepth 100000 in
set_option maxHeartbeats 2000000 in
theorem tnearest_walk {w : World} {A : Option Addr} {n c m T B bt bb q nn F : Nat} {ten x1 x2 x3 last two : Int} {ex : Bool} (hA : NV w A n c m)
  (C1 : Hid (∀ W, NV W A n c m → Cp 185 #[.slice A n c, .int .i64 ten] W (NRet T W)))
  (C3 : Hid (∀ W A1 n1 c1, NV W A1 n1 c1 1 → Cp 185 #[.slice A1 n1 c1, .int .i64 (-ten)] W (NRet B W)))
  (C4 : Hid (∀ W A1 n1 c1, NV W A1 n1 c1 T → Cq 156 #[.slice A1 n1 c1] (.int .i64 (bt : Nat)) W))
  (C5 : Hid (∀ W A1 n1 c1, NV W A1 n1 c1 B → Cq 156 #[.slice A1 n1 c1] (.int .i64 (bb : Nat)) W))
  (C6 : Hid (∀ W A1 n1 c1 A2 n2 c2, NV W A1 n1 c1 T → NV W A2 n2 c2 B → Cp 109 #[.slice A1 n1 c1, .slice A2 n2 c2, .int .i64 two] W fun e w' => ∃ A3 n3 c3, e = .returned (.tuple #[.slice A3 n3 c3, .bool ex]) ∧ NV w' A3 n3 c3 q ∧ Below W.heap.size W w'))
  (C7 : Hid (∀ W A1 n1 c1, NV W A1 n1 c1 q → Cq 159 #[.slice A1 n1 c1] (.int .u64 q) W))
  (C8 : Hid (∀ W, Ct 199 #[.int .u64 nn, .int .i64 last] (.float .f64 F) W))
  (k1 : IntKind.i64.wrap (-ten) = -ten) (k2 : IntKind.i64.wrap ((bt : Int) - (bb : Int)) = x1) (k3 : IntKind.i64.wrap (x1 + ten) = x2) (k4 : IntKind.i64.wrap (x2 - 62) = x3) (hmax : max x3 (-1076) = last) (k5 : IntKind.i64.wrap (ten - last) = two)
  (hor : (ex = true ∧ nn = q) ∨ (ex = false ∧ bits BinOp.or IntKind.u64 (q : Int) 1 = (nn : Int))) :
  Ct 135 #[.slice A n c, .int .i64 ten] (.float .f64 F) w := by
 have C2 := Lib.hid (fun W => nof 1 (by omega) W)
 have HA := Lib.hid hA
 clear hA
 rcases hor with ⟨rfl, rfl⟩ | ⟨rfl, hor⟩
 all_goals
  go_enter Tryz.func135, Tryz.ntmps135
  go_wp2_with fail
  refine (C1.out _ HA.out).mono ?_
  rintro e w1 ⟨A1, n1, c1, rfl, g1, b1⟩
  have G1 := Lib.hid g1
  have B1 := Lib.hid b1
  clear g1 b1
  go_wp2_with fail
  refine (C2.out _).mono ?_
  rintro e w2 ⟨A2, n2, c2, rfl, g2, b2⟩
  have G2 := Lib.hid g2
  have G1' := Lib.hid (G1.out.step b2)
  have B2 := Lib.hid (below_le B1.out b2)
  clear g2 b2
  go_wp2_with fail
  refine (C3.out _ _ _ _ G2.out).mono ?_
  rintro e w3 ⟨A3, n3, c3, rfl, g3, b3⟩
  have G3 := Lib.hid g3
  have G1'' := Lib.hid (G1'.out.step b3)
  have B3 := Lib.hid (below_le B2.out b3)
  clear g3 b3
  go_wp2_with fail
  refine (C4.out _ _ _ _ G1''.out).mono ?_
  rintro e w' ⟨rfl, rfl⟩
  go_wp2_with fail
  refine (C5.out _ _ _ _ G3.out).mono ?_
  rintro e w' ⟨rfl, rfl⟩
  go_wp2_with fail
  refine (C6.out _ _ _ _ _ _ _ G1''.out G3.out).mono ?_
  rintro e w4 ⟨A4, n4, c4, rfl, g4, b4⟩
  have G4 := Lib.hid g4
  have B4 := Lib.hid (below_le B3.out b4)
  clear g4 b4
  go_wp2_with fail
  refine (C7.out _ _ _ _ G4.out).mono ?_
  rintro e w' ⟨rfl, rfl⟩
  go_wp2_with fail
  refine (C8.out _).mono ?_
  rintro e w5 ⟨rfl, b5⟩
  have B5 := Lib.hid (below_le B4.out b5)
  clear b5
  go_wp2
  go_ret
  exact ⟨rfl, B5.out⟩

end Go.Proofs.YtfcpkdafkmohkaaGreatDoor
namespace Go.Proofs.YtfcpkdafkmohkaaGreatDoor
open Go.RowKit
theorem or_small {q s : Nat} (hq : q < 9223372036854775808) (hs : s ≤ 1) : q ||| s < 9223372036854775808 ∧ q ≤ q ||| s := by
 refine ⟨?_, Nat.left_le_or⟩
 have : q ||| s < 2 ^ 63 := Nat.or_lt_two_pow (by rw [show (2 : Nat) ^ 63 = 9223372036854775808 by decide]; exact hq) (by rw [show (2 : Nat) ^ 63 = 9223372036854775808 by decide]; omega)
 rw [show (2 : Nat) ^ 63 = 9223372036854775808 by decide] at this
 exact this
theorem tnearest_any {w : World} {A : Option Addr} {n c m : Nat} (ten : Int) (hA : NV w A n c m) (hm : bln m ≤ 3300) (h0 : 0 < m) (ht1 : -1200 ≤ ten) (ht2 : ten ≤ 400) :
  Cp 135 #[.slice A n c, .int .i64 ten] w (NearP m ten w) := by
 have f1 := bln_five ten.toNat
 have f2 := bln_five (-ten).toNat
 have g1 := bln_mul m (5 ^ ten.toNat)
 have p1 : 0 < 5 ^ ten.toNat := Nat.pow_pos (by omega)
 have p2 : 0 < 5 ^ (-ten).toNat := Nat.pow_pos (by omega)
 have e1 : 1 * 5 ^ (-ten).toNat = 5 ^ (-ten).toNat := Nat.one_mul _
 have C1 := Lib.hid (fun W (h : NV W A n c m) => traised_any ten h (by omega) (by omega) (by omega))
 have C3 := Lib.hid (fun W A1 n1 c1 (h : NV W A1 n1 c1 1) => traised_any (-ten) h (by rw [show bln 1 = 1 by decide]; omega) (by omega) (by omega))
 rw [e1] at C3
 obtain ⟨T, hT⟩ : ∃ T, m * 5 ^ ten.toNat = T := ⟨_, rfl⟩
 obtain ⟨B, hB⟩ : ∃ B, 5 ^ (-ten).toNat = B := ⟨_, rfl⟩
 have hT0 : 0 < T := by rw [← hT]; exact Nat.mul_pos h0 p1
 rw [hT] at C1 g1
 rw [hB] at C3 f2 p2
 obtain ⟨u1, u2, u3⟩ := bln_bounds hT0
 obtain ⟨v1, v2, v3⟩ := bln_bounds p2
 have C4 := Lib.hid (fun W A1 n1 c1 (h : NV W A1 n1 c1 T) => nbits h (by omega))
 have C5 := Lib.hid (fun W A1 n1 c1 (h : NV W A1 n1 c1 B) => nbits h (by omega))
 have cr := fun (t : Int) (h1 : -8000 ≤ t) (h2 : t ≤ 8000) W A1 n1 c1 A2 n2 c2 (h : NV W A1 n1 c1 T) (g : NV W A2 n2 c2 B) => tratio_any t h g (by omega) (by omega) p2 h1 h2
 obtain ⟨bt, hbt⟩ : ∃ bt, bln T = bt := ⟨_, rfl⟩
 obtain ⟨bb, hbb⟩ : ∃ bb, bln B = bb := ⟨_, rfl⟩
 rw [hbt] at C4 u1 u2 u3 g1
 rw [hbb] at C5 v1 v2 v3 f2
 obtain ⟨p, rfl⟩ : ∃ p, bt = p + 1 := ⟨bt - 1, by omega⟩
 obtain ⟨r, rfl⟩ : ∃ r, bb = r + 1 := ⟨bb - 1, by omega⟩
 rw [Nat.add_sub_cancel] at u1 v1
 obtain ⟨x1, hx1⟩ : ∃ x1, ((p + 1 : Nat) : Int) - ((r + 1 : Nat) : Int) = x1 := ⟨_, rfl⟩
 obtain ⟨x2, hx2⟩ : ∃ x2, x1 + ten = x2 := ⟨_, rfl⟩
 obtain ⟨x3, hx3⟩ : ∃ x3, x2 - 62 = x3 := ⟨_, rfl⟩
 obtain ⟨last, hlast⟩ : ∃ last, max x3 (-1076) = last := ⟨_, rfl⟩
 obtain ⟨two, htwo⟩ : ∃ two, ten - last = two := ⟨_, rfl⟩
 have C6 := cr two (by omega) (by omega)
 obtain ⟨q1, q2⟩ := quot_bits (x := two.toNat) (y := (-two).toNat) u1 u2 v1 v2 63
 have q3 := (quot_bits (x := two.toNat) (y := (-two).toNat) u1 u2 v1 v2 60).2
 have hql := q1 (by omega)
 have hqb : last = -1076 ∨ 2 ^ 60 ≤ T * 2 ^ two.toNat / (B * 2 ^ (-two).toNat) := by
  by_cases hh : last = -1076
  ·exact Or.inl hh
  ·exact Or.inr (q3 (by omega))
 obtain ⟨N, hN⟩ : ∃ N, T * 2 ^ two.toNat = N := ⟨_, rfl⟩
 obtain ⟨d, hd⟩ : ∃ d, B * 2 ^ (-two).toNat = d := ⟨_, rfl⟩
 have hd0 : 0 < d := by rw [← hd]; exact Nat.mul_pos p2 (two_pos _)
 rw [hN, hd] at C6 hql hqb
 obtain ⟨q, hq⟩ : ∃ q, N / d = q := ⟨_, rfl⟩
 obtain ⟨t, ht⟩ : ∃ t, N % d = t := ⟨_, rfl⟩
 have hNd : N = q * d + t := by rw [← hq, ← ht, Nat.mul_comm]; exact (Nat.div_add_mod N d).symm
 have htd : t < d := by rw [← ht]; exact Nat.mod_lt _ hd0
 unfold QRet at C6
 rw [ht, hq] at C6
 rw [hq] at hql hqb
 rw [show (2 : Nat) ^ 63 = 9223372036854775808 by decide] at hql
 obtain ⟨s, hs⟩ : ∃ s, (if t = 0 then 0 else 1) = s := ⟨_, rfl⟩
 have hs1 : s ≤ 1 := by rw [← hs]; split <;> omega
 obtain ⟨o1, o2⟩ := or_small hql hs1
 obtain ⟨nn, hnn⟩ : ∃ nn, q ||| s = nn := ⟨_, rfl⟩
 have key := decR_near (m := m) (N := N) (n := d) (q := q) (t := t) (s := s) (ten := ten) (last := last) (by rw [← hN, ← hT, htwo]) (by rw [← hd, ← hB, show last - ten = -two by omega]) hNd htd hs.symm hqb
 rw [hnn] at key o1 o2
 have C8 := fun W => trounded_any nn last W o1 (by omega) (by omega) (by
  rcases hqb with h | h
  ·exact Or.inl h
  ·exact Or.inr (Nat.le_trans h o2))
 rw [← key] at C8
 refine tnearest_walk (q := q) (nn := nn) (two := two) (last := last) (x1 := x1) (x2 := x2) (x3 := x3) (ex := decide (t = 0)) hA C1 C3 C4 C5 (Lib.hid C6)
  (Lib.hid (fun W A1 n1 c1 h => tword_any h (by omega))) (Lib.hid C8) (IntWalk.i64_in _ (by omega)) (by rw [IntWalk.i64_in _ (by omega)]; exact hx1) (by rw [IntWalk.i64_in _ (by omega)]; exact hx2) (by rw [IntWalk.i64_in _ (by omega)]; exact hx3) hlast (by rw [IntWalk.i64_in _ (by omega)]; exact htwo) ?_
 by_cases h : t = 0
 ·refine Or.inl ⟨decide_eq_true h, ?_⟩
  rw [← hnn, ← hs, if_pos h, Nat.or_zero]
 ·refine Or.inr ⟨decide_eq_false h, ?_⟩
  have := or_u64 q 1 (by omega) (by omega)
  rw [show ((1 : Nat) : Int) = 1 from rfl] at this
  rw [this, ← hnn, ← hs, if_neg h]

end Go.Proofs.YtfcpkdafkmohkaaGreatDoor
namespace Go.Proofs.YtfcpkdafkmohkaaGreatDoor
def dg10 (c : Nat) : Bool := decide (48 ≤ c) && decide (c ≤ 57)
theorem dg10_iff {c : Nat} : dg10 c = true ↔ 48 ≤ c ∧ c ≤ 57 := by unfold dg10; simp
theorem dgt_ten {c : Nat} (h : dg10 c = true) : dgt c = c - 48 ∧ dgt c < 10 := by
 have := dg10_iff.1 h
 unfold dgt
 rw [if_pos this]
 exact ⟨rfl, by omega⟩
theorem dgt_lt_ten {c : Nat} : dgt c < 10 ↔ dg10 c = true := by
 constructor
 ·intro h
  unfold dgt at h
  by_cases h1 : 48 ≤ c ∧ c ≤ 57
  ·exact dg10_iff.2 h1
  ·rw [if_neg h1] at h
   split at h
   ·omega
   ·split at h <;> omega
 ·intro h; exact (dgt_ten h).2
def sgnB (l : List Nat) : Bool := l.head? == some 45
def unsg (l : List Nat) : List Nat := if l.head? = some 45 ∨ l.head? = some 43 then l.tail else l
def run10 (l : List Nat) : List Nat := l.takeWhile dg10
def aft10 (l : List Nat) : List Nat := l.dropWhile dg10
theorem run_aft (l : List Nat) : run10 l ++ aft10 l = l := List.takeWhile_append_dropWhile
theorem run10_all : ∀ (l : List Nat), ∀ c ∈ run10 l, dg10 c = true := by
 intro l
 induction l with
 | nil => intro c hc; simp [run10] at hc
 | cons d r ih =>
  intro c hc
  unfold run10 at hc ih
  rw [List.takeWhile_cons] at hc
  cases hd : dg10 d
  ·rw [hd] at hc; simp at hc
  ·rw [hd] at hc
   simp only [if_true] at hc
   rcases List.mem_cons.1 hc with rfl | h
   ·exact hd
   ·exact ih c h
theorem run_len (l : List Nat) : (run10 l).length + (aft10 l).length = l.length := by
 have := congrArg List.length (run_aft l)
 rw [List.length_append] at this
 exact this
def amtS (n c : Nat) : Nat := if n < 1099511627776 then n * 10 + (c - 48) else n
def amt (f : List Nat) : Nat := f.foldl amtS 0
theorem amt_snoc (f : List Nat) (c : Nat) : amt (f ++ [c]) = amtS (amt f) c := by unfold amt; rw [List.foldl_append]; rfl
theorem amt_lt : ∀ (f : List Nat), (∀ c ∈ f, dg10 c = true) → amt f < 10995116277760 := by
 intro f hf
 have main : ∀ (l : List Nat) (a : Nat), a < 10995116277760 → (∀ c ∈ l, dg10 c = true) → l.foldl amtS a < 10995116277760 := by
  intro l
  induction l with
  | nil => intro a h _; exact h
  | cons c r ih =>
   intro a h hl
   refine ih (amtS a c) ?_ (fun d hd => hl d (by simp [hd]))
   have := dg10_iff.1 (hl c (by simp))
   unfold amtS
   split <;> omega
 exact main f 0 (by omega) hf
def expB (l : List Nat) : Bool := (l.head? == some 101 || l.head? == some 69) && !(run10 (unsg l.tail)).isEmpty
def expV (l : List Nat) : Int := if sgnB l.tail = true then -(amt (run10 (unsg l.tail)) : Int) else (amt (run10 (unsg l.tail)) : Int)
def expR (l : List Nat) : List Nat := aft10 (unsg l.tail)
def exV (l : List Nat) : Int := if expB l = true then expV l else 0
def exR (l : List Nat) : List Nat := if expB l = true then expR l else l
theorem expV_le (l : List Nat) : -10995116277760 < expV l ∧ expV l < 10995116277760 := by
 have := amt_lt (run10 (unsg l.tail)) (run10_all _)
 unfold expV
 split <;> omega
theorem exV_le (l : List Nat) : -10995116277760 < exV l ∧ exV l < 10995116277760 := by
 have := expV_le l
 unfold exV
 split <;> omega
def dotB (t : List Nat) : Bool := t.head? == some 46
def dW (l : List Nat) : List Nat := run10 l
def dF (l : List Nat) : List Nat := if dotB (aft10 l) = true then run10 (aft10 l).tail else []
def dB (l : List Nat) : Bool := !((dW l).isEmpty && (dF l).isEmpty)
def dT (l : List Nat) : List Nat := if dotB (aft10 l) = true then aft10 (aft10 l).tail else aft10 l
def dX (l : List Nat) : Int := exV (dT l)
def dR (l : List Nat) : List Nat := exR (dT l)
def num (r : Nat) (f : List Nat) : Nat := pv r (fun i => dgt (f.getD i 0)) f.length
def dV (l : List Nat) : Nat := decR (num 10 (dW l ++ dF l)) (dX l - (dF l).length)
/-! ### Numbers of digits -/
theorem num_nil (r : Nat) : num r [] = 0 := rfl
theorem num_append (r : Nat) (f g : List Nat) : num r (f ++ g) = num r f * r ^ g.length + num r g := by
 unfold num
 rw [List.length_append, pv_add]
 congr 1
 ·congr 1
  refine pv_congr (fun i hi => ?_)
  rw [List.getD_eq_getElem?_getD, List.getElem?_append_left hi, ← List.getD_eq_getElem?_getD]
 ·refine pv_congr (fun i hi => ?_)
  rw [List.getD_eq_getElem?_getD, List.getElem?_append_right (by omega), Nat.add_sub_cancel_left, ← List.getD_eq_getElem?_getD]
theorem num_one (r c : Nat) : num r [c] = dgt c := by
 unfold num
 show pv r _ 1 = _
 simp [pv]
theorem num_cons (r c : Nat) (f : List Nat) : num r (c :: f) = dgt c * r ^ f.length + num r f := by
 rw [show c :: f = [c] ++ f from rfl, num_append, num_one]
theorem num_lt {r : Nat} {f : List Nat} (h : ∀ c ∈ f, dgt c < r) : num r f < r ^ f.length := by
 unfold num
 refine pv_lt (fun i hi => ?_)
 rw [List.getD_eq_getElem?_getD, List.getElem?_eq_getElem hi]
 exact h _ (List.getElem_mem hi)
theorem dgt_48 : dgt 48 = 0 := by decide
theorem num_zeros (r : Nat) : ∀ k : Nat, num r (List.replicate k 48) = 0
 | 0 => rfl
 | k + 1 => by rw [List.replicate_succ, num_cons, dgt_48, num_zeros r k]; simp
theorem num_lead (r : Nat) : ∀ f : List Nat, num r (f.dropWhile (· == 48)) = num r f
 | [] => rfl
 | c :: f => by
  by_cases h : c = 48
  ·subst h
   rw [List.dropWhile_cons_of_pos (by simp), num_lead r f, num_cons, dgt_48]
   simp
  ·rw [List.dropWhile_cons_of_neg (by simpa using h)]
theorem lead_head (f : List Nat) : (f.dropWhile (· == 48)).head? ≠ some 48 := by
 intro h
 have := List.head?_dropWhile_not (p := (· == 48)) f
 rw [h] at this
 simp at this
theorem num_ge {f : List Nat} {c : Nat} (hd : ∀ x ∈ c :: f, dg10 x = true) (hc : c ≠ 48) : 10 ^ f.length ≤ num 10 (c :: f) := by
 have h1 := dgt_ten (hd c (by simp))
 have h2 := dg10_iff.1 (hd c (by simp))
 rw [num_cons]
 have h3 : 1 * 10 ^ f.length ≤ dgt c * 10 ^ f.length := Nat.mul_le_mul_right _ (by omega)
 omega
theorem num_pos_iff {f : List Nat} (hd : ∀ x ∈ f, dg10 x = true) : num 10 f = 0 ↔ f.dropWhile (· == 48) = [] := by
 rw [← num_lead 10 f]
 constructor
 ·intro h
  cases hf : f.dropWhile (· == 48) with
  | nil => rfl
  | cons c g =>
   exfalso
   rw [hf] at h
   have h1 : c ≠ 48 := by
    have := lead_head f
    rw [hf] at this
    intro e
    exact this (by rw [e]; rfl)
   have h2 := num_ge (f := g) (c := c) (fun x hx => hd x (by
    have : x ∈ f.dropWhile (· == 48) := by rw [hf]; exact hx
    exact (List.dropWhile_sublist _).subset this)) h1
   have := ten_pos g.length
   omega
 ·intro h; rw [h]; rfl

end Go.Proofs.YtfcpkdafkmohkaaGreatDoor
namespace Go.Proofs.YtfcpkdafkmohkaaGreatDoor
def ldz (f : List Nat) : List Nat := f.dropWhile (· == 48)
def trz (f : List Nat) : List Nat := (f.reverse.dropWhile (· == 48)).reverse
theorem ldz_mem {f : List Nat} {c : Nat} (h : c ∈ ldz f) : c ∈ f := (List.dropWhile_sublist _).subset h
theorem trz_mem {f : List Nat} {c : Nat} (h : c ∈ trz f) : c ∈ f := by
 unfold trz at h
 rw [List.mem_reverse] at h
 exact List.mem_reverse.1 ((List.dropWhile_sublist _).subset h)
theorem dropWhile_zeros : ∀ g : List Nat, ∃ z, g = List.replicate z 48 ++ g.dropWhile (· == 48)
 | [] => ⟨0, rfl⟩
 | c :: g => by
  by_cases h : c = 48
  ·subst h
   obtain ⟨z, hz⟩ := dropWhile_zeros g
   refine ⟨z + 1, ?_⟩
   rw [List.dropWhile_cons_of_pos (by simp), List.replicate_succ, List.cons_append, ← hz]
  ·exact ⟨0, by rw [List.dropWhile_cons_of_neg (by simpa using h)]; rfl⟩
theorem trz_zeros (f : List Nat) : ∃ z, f = trz f ++ List.replicate z 48 := by
 obtain ⟨z, hz⟩ := dropWhile_zeros f.reverse
 refine ⟨z, ?_⟩
 have h := congrArg List.reverse hz
 rw [List.reverse_reverse, List.reverse_append, List.reverse_replicate] at h
 exact h
theorem trz_last (f : List Nat) : (trz f).getLast? ≠ some 48 := by
 unfold trz
 rw [List.getLast?_reverse]
 exact lead_head f.reverse
theorem num_trz (f : List Nat) : num 10 f = num 10 (trz f) * 10 ^ (f.length - (trz f).length) := by
 obtain ⟨z, hz⟩ := trz_zeros f
 have hl : f.length - (trz f).length = z := by
  have := congrArg List.length hz
  rw [List.length_append, List.length_replicate] at this
  omega
 have h2 := congrArg (num 10) hz
 rw [num_append, num_zeros, List.length_replicate, Nat.add_zero] at h2
 rw [hl, h2]
theorem trz_len (f : List Nat) : (trz f).length ≤ f.length := by
 obtain ⟨z, hz⟩ := trz_zeros f
 have := congrArg List.length hz
 rw [List.length_append] at this
 omega
theorem num_any_pos {f : List Nat} (hd : ∀ x ∈ f, dg10 x = true) {c : Nat} (hc : c ∈ f) (h : c ≠ 48) : 0 < num 10 f := by
 rcases Nat.eq_zero_or_pos (num 10 f) with h0 | h0
 ·exfalso
  have h1 := (num_pos_iff hd).1 h0
  obtain ⟨z, hz⟩ := dropWhile_zeros f
  rw [h1, List.append_nil] at hz
  rw [hz] at hc
  exact h (List.eq_of_mem_replicate hc)
 ·exact h0
theorem num_lo {g : List Nat} (hd : ∀ x ∈ g, dg10 x = true) (h0 : g ≠ []) (hh : g.head? ≠ some 48) : 10 ^ (g.length - 1) ≤ num 10 g := by
 cases g with
 | nil => exact absurd rfl h0
 | cons c r =>
  have := num_ge (f := r) (c := c) hd (fun e => hh (by rw [e]; rfl))
  simpa using this
theorem num_hi {g : List Nat} (hd : ∀ x ∈ g, dg10 x = true) : num 10 g < 10 ^ g.length := num_lt (fun c hc => (dgt_ten (hd c hc)).2)
theorem head_take {g : List Nat} {k : Nat} (hk : 0 < k) : (g.take k).head? = g.head? := by
 cases g with
 | nil => simp
 | cons c r =>
  obtain ⟨j, rfl⟩ : ∃ j, k = j + 1 := ⟨k - 1, by omega⟩
  rw [List.take_succ_cons]
  rfl
theorem dgt_49 : dgt 49 = 1 := by decide
theorem cut_tail {g : List Nat} {k : Nat} {e : Int} (hd : ∀ x ∈ g, dg10 x = true) (hh : g.head? ≠ some 48) (hk : 769 ≤ k) (hl : k < g.length) (hpt : (g.length : Int) + e ≤ 768) (hc : ∃ c ∈ g.drop k, c ≠ 48) :
  decR (num 10 g) e = decR (num 10 (g.take k ++ [49])) (e + (g.length - k : Nat) - 1) := by
 obtain ⟨p, hp⟩ : ∃ p, g.take k = p := ⟨_, rfl⟩
 obtain ⟨q, hq⟩ : ∃ q, g.drop k = q := ⟨_, rfl⟩
 have hg : g = p ++ q := by rw [← hp, ← hq, List.take_append_drop]
 have lp : p.length = k := by rw [← hp, List.length_take]; omega
 have lq : q.length = g.length - k := by rw [← hq, List.length_drop]
 have dp : ∀ x ∈ p, dg10 x = true := fun x hx => hd x (by rw [hg]; exact List.mem_append_left _ hx)
 have dq : ∀ x ∈ q, dg10 x = true := fun x hx => hd x (by rw [hg]; exact List.mem_append_right _ hx)
 have hhp : p.head? ≠ some 48 := by rw [← hp, head_take (by omega)]; exact hh
 have p0 : p ≠ [] := fun e => by rw [e] at lp; simp at lp; omega
 rw [hq] at hc
 obtain ⟨c, hc1, hc2⟩ := hc
 have q0 := num_any_pos dq hc1 hc2
 have h1 := num_lo dp p0 hhp
 rw [lp] at h1
 have h2 := num_hi dp
 rw [lp] at h2
 have h3 := num_hi dq
 rw [hp, num_append, num_one, dgt_49, ← lq]
 have h4 := decR_cut (p := num 10 p) (r := q.length) (q := num 10 q) (k := k) (e := e) hk h1 h2 h3 q0 (by rw [hg, List.length_append, lp] at hpt; omega)
 rw [← num_append, ← hg] at h4
 rw [h4]
 rfl
/-! ### The program's way -/
theorem pway_none {f : List Nat} {e : Int} (h : trz (ldz f) = []) : decR (num 10 f) e = 0 := by
 have h1 := num_trz (ldz f)
 rw [h, num_nil, Nat.zero_mul] at h1
 have h2 : num 10 (ldz f) = num 10 f := num_lead 10 f
 rw [← h2, h1]
 exact decR_zero e
theorem pway_low {f : List Nat} {e : Int} (hd : ∀ x ∈ f, dg10 x = true) (h : ((ldz f).length : Int) + e < -323) : decR (num 10 f) e = 0 := by
 have h2 : num 10 (ldz f) = num 10 f := num_lead 10 f
 rw [← h2]
 exact decR_tiny (num_hi (fun x hx => hd x (ldz_mem hx))) (by omega)
theorem pway_high {f : List Nat} {e : Int} (hd : ∀ x ∈ f, dg10 x = true) (h0 : trz (ldz f) ≠ []) (h : 309 < ((ldz f).length : Int) + e) : decR (num 10 f) e = 9218868437227405312 := by
 have h2 : num 10 (ldz f) = num 10 f := num_lead 10 f
 have h3 : ldz f ≠ [] := fun e => h0 (by rw [e]; rfl)
 have h4 : 0 < (ldz f).length := List.length_pos_iff.2 h3
 rw [← h2]
 exact decR_huge (num_lo (fun x hx => hd x (ldz_mem hx)) h3 (lead_head f)) (by omega)
theorem pway_short {f : List Nat} (e : Int) : decR (num 10 f) e = decR (num 10 (trz (ldz f))) ((ldz f).length + e - (trz (ldz f)).length) := by
 have h2 : num 10 (ldz f) = num 10 f := num_lead 10 f
 have h3 := trz_len (ldz f)
 rw [← h2, num_trz (ldz f), decR_shift]
 exact congrArg (decR _) (by omega)
theorem trz_head {f : List Nat} (h : f.head? ≠ some 48) : (trz f).head? ≠ some 48 := by
 obtain ⟨z, hz⟩ := trz_zeros f
 cases ht : trz f with
 | nil => simp
 | cons c r =>
  rw [ht] at hz
  rw [hz] at h
  exact h
theorem pway_long {f : List Nat} {e : Int} (hd : ∀ x ∈ f, dg10 x = true) (hl : 800 < (trz (ldz f)).length) (h : ((ldz f).length : Int) + e ≤ 309) : decR (num 10 f) e = decR (num 10 ((trz (ldz f)).take 800 ++ [49])) ((ldz f).length + e - 801) := by
 rw [pway_short]
 have h3 := trz_len (ldz f)
 have hdh : ∀ x ∈ trz (ldz f), dg10 x = true := fun x hx => hd x (ldz_mem (trz_mem hx))
 have key := cut_tail (g := trz (ldz f)) (k := 800) (e := (ldz f).length + e - (trz (ldz f)).length) hdh (trz_head (lead_head f)) (by omega) hl (by omega) ?_
 ·rw [key]
  exact congrArg (decR _) (by omega)
 ·have hne : trz (ldz f) ≠ [] := fun e => by rw [e] at hl; simp at hl
  obtain ⟨c, hc⟩ : ∃ c, (trz (ldz f)).getLast? = some c := ⟨_, List.getLast?_eq_some_getLast hne⟩
  refine ⟨c, ?_, fun e => trz_last (ldz f) (by rw [← e]; exact hc)⟩
  have h5 : ((trz (ldz f)).drop 800).getLast? = some c := by
   rw [List.getLast?_drop, if_neg (by omega)]
   exact hc
  exact List.mem_of_getLast? h5
/-! ### The reference's way -/
end Go.Proofs.YtfcpkdafkmohkaaGreatDoor
namespace Go.Proofs.YtfcpkdafkmohkaaGreatDoor
def hxA (l : List Nat) : Bool := l.head? == some 48 && (l.tail.head? == some 120 || l.tail.head? == some 88)
def hx16 (c : Nat) : Bool := decide (dgt c < 16)
def hxB (l : List Nat) : Bool := hxA l && !(l.drop 2).isEmpty && (l.drop 2).all hx16
def natV (r : Nat) (f : List Nat) : Nat := decR (num r f) 0
def infL : List Nat := [73, 110, 102, 105, 110, 105, 116, 121]
def infB (l : List Nat) : Bool := infL.isPrefixOf l
def sgW (s : Bool) (r : Nat) : Nat := if s = true then 9223372036854775808 + r else r
def nanW : Nat := 9221120237041090560
def numW (l : List Nat) : Nat :=
 if l = [] then 0 else if hxB l = true then natV 16 (l.drop 2)
 else if unsg l = infL then sgW (sgnB l) 9218868437227405312
 else if dB (unsg l) = true ∧ dR (unsg l) = [] then sgW (sgnB l) (dV (unsg l)) else nanW
def dgq (r : Nat) (c : Nat) : Bool := decide (dgt c < r)
def nrw (z : Nat) (us : List Nat) : List Nat := us.map fun u => if 127 < u then z else u
theorem nrw_lt {z : Nat} (hz : z < 128) (us : List Nat) : ∀ c ∈ nrw z us, c < 128 := by
 intro c hc
 unfold nrw at hc
 obtain ⟨u, _, rfl⟩ := List.mem_map.1 hc
 split <;> omega
end Go.Proofs.YtfcpkdafkmohkaaGreatDoor
namespace Go.Proofs.YtfcpkdafkmohkaaGreatDoor
theorem bl_lt (s : ByteArray) : ∀ c ∈ bl s, c < 256 := by
 intro c hc
 unfold bl at hc
 obtain ⟨b, _, rfl⟩ := List.mem_map.1 hc
 exact b.toNat_lt
theorem bl_mk (X : List UInt8) : bl ⟨X.toArray⟩ = X.map UInt8.toNat := by unfold bl; simp
theorem str_eq {X : List UInt8} {L : List Nat} (h : X.map UInt8.toNat = L) : (⟨X.toArray⟩ : ByteArray) = strOf L := by
 refine bl_inj ?_
 rw [bl_mk, h, bl_strOf]
 intro u hu
 rw [← h] at hu
 obtain ⟨b, _, rfl⟩ := List.mem_map.1 hu
 exact b.toNat_lt
theorem strOf_bl (s : ByteArray) : strOf (bl s) = s := bl_inj (bl_strOf (bl_lt s))
theorem bl_data (s : ByteArray) : s.data.toList.map UInt8.toNat = bl s := rfl
theorem strOf_size (l : List Nat) : (strOf l).size = l.length := by
 unfold strOf
 show (Array.size _) = _
 simp
theorem bl_size (s : ByteArray) : (bl s).length = s.size := bl_len s
theorem strOf_nil : strOf [] = ByteArray.empty := rfl
theorem drop_map' {p : UInt8 → Bool} {q : Nat → Bool} (h : ∀ b : UInt8, p b = q b.toNat) : ∀ l : List UInt8, (l.dropWhile p).map UInt8.toNat = (l.map UInt8.toNat).dropWhile q := by
 intro l
 rw [List.dropWhile_map]
 congr 1
 congr 1
 funext b
 exact h b
theorem hp_one (s : ByteArray) (k : UInt8) : Lib.hasPrefix s.data.toList [k] = ((bl s).head? == some k.toNat) := by
 unfold Lib.hasPrefix bl
 cases s.data.toList with
 | nil => rfl
 | cons c r =>
  show (k == c && true) = (some c.toNat == some k.toNat)
  rw [Bool.eq_iff_iff]
  simp only [Bool.and_true, beq_iff_eq, Option.some.injEq]
  exact ⟨fun e => by rw [e], fun e => (UInt8.toNat_inj.1 e).symm⟩
theorem tp_one (s : ByteArray) (k : UInt8) : (⟨(Lib.trimPrefix s.data.toList [k]).toArray⟩ : ByteArray) = strOf (if (bl s).head? = some k.toNat then (bl s).tail else bl s) := by
 refine str_eq ?_
 unfold Lib.trimPrefix
 rw [hp_one]
 by_cases h : (bl s).head? = some k.toNat
 ·rw [if_pos h, beq_iff_eq.2 h, if_pos rfl, List.map_drop, bl_data]
  exact List.drop_one
 ·rw [if_neg h, beq_eq_false_iff_ne.2 h, if_neg (by simp), bl_data]
theorem isp_map : ∀ (p l : List UInt8), p.isPrefixOf l = (p.map UInt8.toNat).isPrefixOf (l.map UInt8.toNat)
 | [], l => by cases l <;> rfl
 | c :: p, [] => rfl
 | c :: p, d :: l => by
  show (c == d && p.isPrefixOf l) = (c.toNat == d.toNat && (p.map UInt8.toNat).isPrefixOf (l.map UInt8.toNat))
  rw [isp_map p l]
  congr 1
  rw [Bool.eq_iff_iff, beq_iff_eq, beq_iff_eq]
  exact ⟨fun e => by rw [e], fun e => UInt8.toNat_inj.1 e⟩
theorem hp_any (s p : ByteArray) : Lib.hasPrefix s.data.toList p.data.toList = (bl p).isPrefixOf (bl s) := isp_map _ _
theorem tp_any (s p : ByteArray) : (⟨(Lib.trimPrefix s.data.toList p.data.toList).toArray⟩ : ByteArray) = strOf (if (bl p).isPrefixOf (bl s) = true then (bl s).drop p.size else bl s) := by
 refine str_eq ?_
 unfold Lib.trimPrefix
 rw [hp_any]
 by_cases h : (bl p).isPrefixOf (bl s) = true
 ·rw [if_pos h, if_pos h, List.map_drop, bl_data, ← Lib.size_eq]
 ·rw [if_neg h, if_neg h, bl_data]
def lowS (r : Nat) : ByteArray := (⟨#[48, 49, 50, 51, 52, 53, 54, 55, 56, 57, 97, 98, 99, 100, 101, 102, 103, 104, 105, 106, 107, 108, 109, 110, 111, 112, 113, 114, 115, 116, 117, 118, 119, 120, 121, 122]⟩ : ByteArray).extract 0 r
def ldq (r : Nat) (c : Nat) : Bool := decide (dgt c < r) && !(decide (65 ≤ c) && decide (c ≤ 90))
theorem low_has : ∀ (r : Fin 37) (b : Fin 256), (lowS r.val).data.toList.contains (UInt8.ofNat b.val) = ldq r.val b.val := by decide +kernel
theorem low_contains {r : Nat} (hr : r ≤ 36) (b : UInt8) : (lowS r).data.toList.contains b = ldq r b.toNat := by
 have := low_has ⟨r, by omega⟩ ⟨b.toNat, b.toNat_lt⟩
 simpa using this
theorem low_ascii : ∀ (r : Fin 37) (j : Fin 37), ∀ b, (lowS r.val).data.toList[j.val]? = some b → b.toNat < 128 := by decide +kernel
theorem low_len : ∀ r : Fin 37, (lowS r.val).data.toList.length = r.val := by decide +kernel
theorem low_small {r : Nat} (hr : r ≤ 36) : (lowS r).size = r := by rw [Lib.size_eq]; exact low_len ⟨r, by omega⟩
theorem low_asc {r : Nat} (hr : r ≤ 36) : ∀ (j : Nat) (b : UInt8), (lowS r).data.toList[j]? = some b → b.toNat < 128 := by
 intro j b hb
 rcases Nat.lt_or_ge j 37 with h | h
 ·exact low_ascii ⟨r, by omega⟩ ⟨j, h⟩ b hb
 ·exfalso
  rw [List.getElem?_eq_none (by rw [low_len ⟨r, by omega⟩]; show r ≤ j; omega)] at hb
  cases hb
theorem ldq_ten (c : Nat) : ldq 10 c = dg10 c := by
 unfold ldq
 rw [Bool.eq_iff_iff, Bool.and_eq_true, decide_eq_true_eq, dgt_lt_ten]
 constructor
 ·exact fun h => h.1
 ·intro h
  refine ⟨h, ?_⟩
  have := dg10_iff.1 h
  simp; omega
theorem tl_low {r : Nat} (hr : r ≤ 36) (s : ByteArray) : (⟨(Lib.trimLeftS s.data.toList (lowS r).data.toList).toArray⟩ : ByteArray) = strOf ((bl s).dropWhile (ldq r)) :=
 str_eq (drop_map' (fun b => low_contains hr b) _)
theorem contains_48 (b : UInt8) : [(48 : UInt8)].contains b = (b.toNat == 48) := by
 rw [Lib.contains_one, Bool.eq_iff_iff, beq_iff_eq, beq_iff_eq]
 exact ⟨fun e => by rw [e]; rfl, fun e => UInt8.toNat_inj.1 e⟩
theorem tl_48 (s : ByteArray) : (⟨(Lib.trimLeftS s.data.toList [48]).toArray⟩ : ByteArray) = strOf (ldz (bl s)) :=
 str_eq (drop_map' (q := (· == 48)) (fun b => contains_48 b) _)
theorem tr_48 (s : ByteArray) : (⟨(Lib.trimRightS s.data.toList [48]).toArray⟩ : ByteArray) = strOf (trz (bl s)) := by
 refine str_eq ?_
 unfold Lib.trimRightS trz
 rw [List.map_reverse, drop_map' (q := (· == 48)) (fun b => contains_48 b), List.map_reverse]
 rfl
def lowC (c : Nat) : Nat := if 65 ≤ c ∧ c ≤ 90 then c + 32 else c
theorem low_byte : ∀ b : Fin 128, (Lib.lowerB (UInt8.ofNat b.val)).toNat = lowC b.val := by decide +kernel
theorem lower_eq {s : ByteArray} (h : ∀ c ∈ bl s, c < 128) : (⟨(Lib.toLowerA s.data.toList).toArray⟩ : ByteArray) = strOf ((bl s).map lowC) := by
 refine str_eq ?_
 unfold Lib.toLowerA bl
 rw [List.map_map, List.map_map]
 refine List.map_congr_left (fun b hb => ?_)
 have h1 : b.toNat < 128 := h b.toNat (List.mem_map.2 ⟨b, hb, rfl⟩)
 have := low_byte ⟨b.toNat, h1⟩
 simpa using this
theorem asc_of {s : ByteArray} (h : ∀ c ∈ bl s, c < 128) : ∀ (j : Nat) (b : UInt8), s.data.toList[j]? = some b → b.toNat < 128 := fun _ b hb => h b.toNat (List.mem_map.2 ⟨b, List.mem_of_getElem? hb, rfl⟩)
theorem dgt_low (c : Nat) : dgt (lowC c) = dgt c := by
 unfold dgt lowC
 split <;> (repeat' split) <;> omega
theorem ldq_low (r c : Nat) : ldq r (lowC c) = decide (dgt c < r) := by
 unfold ldq
 rw [dgt_low]
 have : (decide (65 ≤ lowC c) && decide (lowC c ≤ 90)) = false := by unfold lowC; split <;> simp <;> omega
 rw [this]
 simp
theorem num_low (r : Nat) : ∀ l : List Nat, num r (l.map lowC) = num r l
 | [] => rfl
 | c :: l => by rw [List.map_cons, num_cons, num_cons, dgt_low, num_low r l, List.length_map]
theorem take_low (r : Nat) (l : List Nat) : (l.map lowC).takeWhile (ldq r) = (l.takeWhile (fun c => decide (dgt c < r))).map lowC := by
 rw [List.takeWhile_map]
 congr 1
 congr 1
 funext c
 exact ldq_low r c
theorem drop_low (r : Nat) (l : List Nat) : (l.map lowC).dropWhile (ldq r) = (l.dropWhile (fun c => decide (dgt c < r))).map lowC := by
 rw [List.dropWhile_map]
 congr 1
 congr 1
 funext c
 exact ldq_low r c
theorem ext_take (s : ByteArray) (k : Nat) : s.extract 0 k = strOf ((bl s).take k) := by
 refine bl_inj ?_
 rw [bl_strOf (fun u hu => bl_lt s u (List.mem_of_mem_take hu))]
 unfold bl
 rw [Lib.extract_data, List.drop_zero, Nat.sub_zero, List.map_take]
theorem ext_drop (s : ByteArray) (k : Nat) : s.extract k s.size = strOf ((bl s).drop k) := by
 refine bl_inj ?_
 rw [bl_strOf (fun u hu => bl_lt s u (List.mem_of_mem_drop hu)), bl_drop]
theorem take_run (p : Nat → Bool) (l : List Nat) : l.take (l.length - (l.dropWhile p).length) = l.takeWhile p := by
 have h := List.takeWhile_append_dropWhile (p := p) (l := l)
 have hl := congrArg List.length h
 rw [List.length_append] at hl
 have h2 : l.length - (l.dropWhile p).length = (l.takeWhile p).length := by omega
 rw [h2]
 have h3 : (l.takeWhile p ++ l.dropWhile p).take (l.takeWhile p).length = l.takeWhile p := List.take_left
 rw [h] at h3
 exact h3
theorem strOf_append (a b : List Nat) : strOf a ++ strOf b = strOf (a ++ b) := by
 unfold strOf
 rw [List.map_append]
 apply ByteArray.ext
 simp

end Go.Proofs.YtfcpkdafkmohkaaGreatDoor
namespace Go.Proofs.YtfcpkdafkmohkaaGreatDoor
open Go.RowKit
theorem cut_one (s : ByteArray) (k : UInt8) (w : World) : Cq 131 #[.string s, .string ⟨#[k]⟩] (.tuple #[.string (strOf (if (bl s).head? = some k.toNat then (bl s).tail else bl s)), .bool ((bl s).head? == some k.toNat)]) w := by
 refine (Tryz.strings_CutPrefix s ⟨#[k]⟩ w).mono fun e w' h => ⟨?_, h.2.symm⟩
 rw [h.1]
 have e1 := tp_one s k
 have e2 := hp_one s k
 exact congrArg Ending.returned (by rw [show (⟨#[k]⟩ : ByteArray).data.toList = [k] from rfl, e1, e2])
theorem trim_one (s : ByteArray) (k : UInt8) (w : World) : Cq 149 #[.string s, .string ⟨#[k]⟩] (.string (strOf (if (bl s).head? = some k.toNat then (bl s).tail else bl s))) w := by
 refine (Tryz.strings_TrimPrefix s ⟨#[k]⟩ w).mono fun e w' h => ⟨?_, h.2.symm⟩
 rw [h.1]
 have e1 := tp_one s k
 exact congrArg Ending.returned (by rw [show (⟨#[k]⟩ : ByteArray).data.toList = [k] from rfl, e1])
theorem cut_any' (s p : ByteArray) (w : World) : Cq 131 #[.string s, .string p] (.tuple #[.string (strOf (if (bl p).isPrefixOf (bl s) = true then (bl s).drop p.size else bl s)), .bool ((bl p).isPrefixOf (bl s))]) w := by
 refine (Tryz.strings_CutPrefix s p w).mono fun e w' h => ⟨?_, h.2.symm⟩
 rw [h.1, tp_any, hp_any]
def sgF (b : Bool) : Nat := if b = true then 13830554455654793216 else 4607182418800017408
theorem tcutSign_any (s : ByteArray) (w : World) : Cq 84 #[.string s] (.tuple #[.float .f64 (sgF (sgnB (bl s)) : Nat), .string (strOf (unsg (bl s)))]) w := by
 have C1 := Lib.hid (cut_one s 45 w)
 have C2 := Lib.hid (trim_one s 43 w)
 have h1 : ((bl s).head? == some (45 : UInt8).toNat) = sgnB (bl s) := rfl
 rw [h1] at C1
 cases h : sgnB (bl s)
 ·rw [h] at C1
  have e1 : unsg (bl s) = if (bl s).head? = some (43 : UInt8).toNat then (bl s).tail else bl s := by
   have h2 : ¬ (bl s).head? = some 45 := by
    intro e
    unfold sgnB at h
    rw [e] at h
    simp at h
   unfold unsg
   by_cases h3 : (bl s).head? = some 43
   ·rw [if_pos (Or.inr h3)]; exact (if_pos h3).symm
   ·rw [if_neg (by rintro (h4 | h4); exact h2 h4; exact h3 h4)]; exact (if_neg h3).symm
  rw [← e1] at C2
  obtain ⟨t, ht⟩ : ∃ t, strOf (unsg (bl s)) = t := ⟨_, rfl⟩
  rw [ht] at C2 ⊢
  obtain ⟨t1, ht1⟩ : ∃ t1, strOf (if (bl s).head? = some (45 : UInt8).toNat then (bl s).tail else bl s) = t1 := ⟨_, rfl⟩
  rw [ht1] at C1
  clear h h1 e1 ht ht1
  go_enter Tryz.func84, Tryz.ntmps84
  go_wp2_with fail
  refine C1.out.mono ?_
  rintro e w' ⟨rfl, rfl⟩
  go_wp2_with fail
  refine C2.out.mono ?_
  rintro e w' ⟨rfl, rfl⟩
  go_wp2
  go_ret2
  exact ⟨rfl, rfl⟩
 ·rw [h] at C1
  have e1 : unsg (bl s) = if (bl s).head? = some (45 : UInt8).toNat then (bl s).tail else bl s := by
   have h2 : (bl s).head? = some 45 := by
    unfold sgnB at h
    exact beq_iff_eq.1 h
   unfold unsg
   rw [if_pos (Or.inl h2)]
   exact (if_pos h2).symm
  rw [← e1] at C1
  obtain ⟨t, ht⟩ : ∃ t, strOf (unsg (bl s)) = t := ⟨_, rfl⟩
  rw [ht] at C1 ⊢
  clear h h1 e1 ht C2
  go_enter Tryz.func84, Tryz.ntmps84
  go_wp2_with fail
  refine C1.out.mono ?_
  rintro e w' ⟨rfl, rfl⟩
  go_wp2
  go_ret2
  exact ⟨rfl, rfl⟩
theorem two_ahead (a b : Nat) (l : List Nat) : [a, b].isPrefixOf l = (l.head? == some a && l.tail.head? == some b) := by
 cases l with
 | nil => rfl
 | cons c r =>
  cases r with
  | nil =>
   show (a == c && false) = (some c == some a && (none : Option Nat) == some b)
   rw [Bool.eq_iff_iff]; simp
  | cons d q =>
   show (a == c && (b == d && true)) = (some c == some a && some d == some b)
   rw [Bool.eq_iff_iff]
   simp only [Bool.and_true, Bool.and_eq_true, beq_iff_eq, Option.some.injEq]
   exact ⟨fun e => ⟨e.1.symm, e.2.symm⟩, fun e => ⟨e.1.symm, e.2.symm⟩⟩
theorem tcutHex_any (s : ByteArray) (w : World) : Cq 85 #[.string s] (.tuple #[.string (strOf (if hxA (bl s) = true then (bl s).drop 2 else bl s)), .bool (hxA (bl s))]) w := by
 have C1 := Lib.hid (cut_any' s ⟨#[48, 120]⟩ w)
 have C2 := Lib.hid (cut_any' s ⟨#[48, 88]⟩ w)
 have h1 : (bl ⟨#[48, 120]⟩).isPrefixOf (bl s) = ((bl s).head? == some 48 && (bl s).tail.head? == some 120) := two_ahead 48 120 (bl s)
 have h2 : (bl ⟨#[48, 88]⟩).isPrefixOf (bl s) = ((bl s).head? == some 48 && (bl s).tail.head? == some 88) := two_ahead 48 88 (bl s)
 have hx : hxA (bl s) = ((bl ⟨#[48, 120]⟩).isPrefixOf (bl s) || (bl ⟨#[48, 88]⟩).isPrefixOf (bl s)) := by
  rw [h1, h2]; unfold hxA; cases ((bl s).head? == some 48) <;> rfl
 rw [hx]
 clear h1 h2 hx
 obtain ⟨p, hp⟩ : ∃ p, (bl ⟨#[48, 120]⟩).isPrefixOf (bl s) = p := ⟨_, rfl⟩
 obtain ⟨q, hq⟩ : ∃ q, (bl ⟨#[48, 88]⟩).isPrefixOf (bl s) = q := ⟨_, rfl⟩
 rw [hp] at C1
 rw [hq] at C2
 rw [hp, hq]
 rw [show (⟨#[48, 120]⟩ : ByteArray).size = 2 from rfl] at C1
 rw [show (⟨#[48, 88]⟩ : ByteArray).size = 2 from rfl] at C2
 clear hp hq
 cases p
 ·rw [if_neg (by simp)] at C1
  rw [Bool.false_or]
  obtain ⟨t, ht⟩ : ∃ t, strOf (if q = true then (bl s).drop 2 else bl s) = t := ⟨_, rfl⟩
  rw [ht] at C2 ⊢
  obtain ⟨t1, ht1⟩ : ∃ t1, strOf (bl s) = t1 := ⟨_, rfl⟩
  clear ht ht1
  go_enter Tryz.func85, Tryz.ntmps85
  go_wp2_with fail
  refine C1.out.mono ?_
  rintro e w' ⟨rfl, rfl⟩
  go_wp2_with fail
  refine C2.out.mono ?_
  rintro e w' ⟨rfl, rfl⟩
  go_wp2
  go_ret2
  exact ⟨rfl, rfl⟩
 ·rw [if_pos rfl] at C1
  rw [Bool.true_or, if_pos rfl]
  obtain ⟨t, ht⟩ : ∃ t, strOf ((bl s).drop 2) = t := ⟨_, rfl⟩
  rw [ht] at C1 ⊢
  clear ht C2
  go_enter Tryz.func85, Tryz.ntmps85
  go_wp2_with fail
  refine C1.out.mono ?_
  rintro e w' ⟨rfl, rfl⟩
  go_wp2
  go_ret2
  exact ⟨rfl, rfl⟩

end Go.Proofs.YtfcpkdafkmohkaaGreatDoor
namespace Go.Proofs.YtfcpkdafkmohkaaGreatDoor
open Go.RowKit
theorem low_trim (s : ByteArray) {r : Nat} (hr : r ≤ 36) (w : World) : Ct 133 #[.string s, .string (lowS r)] (.string (strOf ((bl s).dropWhile (ldq r)))) w := by
 have h := Tryz.strings_TrimLeft_laid s (lowS r) w (by rw [low_small hr]; omega) (low_asc hr)
 rw [tl_low hr s] at h
 exact h
theorem drop_len_le (p : Nat → Bool) (l : List Nat) : (l.dropWhile p).length ≤ l.length := (List.dropWhile_sublist p).length_le
set_option maxRecDepth 100000 in
theorem tcutDigits_any (s : ByteArray) (r : Nat) (w : World) (hr : r ≤ 36) (hs : s.size ≤ 4611686018427387903) :
  Ct 86 #[.string s, .int .i64 r] (.tuple #[.string (strOf ((bl s).takeWhile (ldq r))), .string (strOf ((bl s).dropWhile (ldq r)))]) w := by
 have C1 := Lib.hid (low_trim s hr w)
 unfold lowS at C1
 have hle := drop_len_le (ldq r) (bl s)
 rw [bl_size] at hle
 have hk := take_run (ldq r) (bl s)
 rw [bl_size] at hk
 have hsz := strOf_size ((bl s).dropWhile (ldq r))
 obtain ⟨t, ht⟩ : ∃ t, strOf ((bl s).dropWhile (ldq r)) = t := ⟨_, rfl⟩
 rw [ht] at C1 hsz ⊢
 obtain ⟨k, hk2⟩ : ∃ k, s.size - t.size = k := ⟨_, rfl⟩
 have HE := Lib.hid (show s.extract 0 k = strOf ((bl s).takeWhile (ldq r)) from by rw [ext_take, ← hk, ← hk2, hsz])
 have h1 : (t.size : Int) ≤ (s.size : Int) := by omega
 have h2 : (s.size : Int) ≤ 4611686018427387903 := by omega
 have h3 : (s.size : Int) - (t.size : Int) = (k : Int) := by omega
 have h4 : (k : Int) ≤ (s.size : Int) := by omega
 have hr1 : (r : Int) ≤ 36 := by omega
 rw [← HE.out]
 clear hle hk hsz ht hk2 hr hs
 go_enter Tryz.func86, Tryz.ntmps86
 go_wp2_with fail
 refine C1.out.mono ?_
 rintro e w' ⟨rfl, hb⟩
 go_wp2
 go_ret2
 exact ⟨rfl, hb⟩
set_option maxRecDepth 100000 in
set_option maxHeartbeats 1000000 in
theorem tamount_any (s : ByteArray) (w : World) (hs : s.size ≤ 4611686018427387903) (hd : ∀ c ∈ bl s, dg10 c = true) :
  Cq 192 #[.string s] (.int .i64 (amt (bl s) : Nat)) w := by
 have h2 : (s.size : Int) ≤ 4611686018427387903 := by omega
 have HD := Lib.hid hd
 clear hd hs
 go_enter Tryz.func192, Tryz.ntmps192
 go_wp2
 go_loopw [3, 7] (fun nv i wr => ∃ k : Nat, i = .int .i64 k ∧ k ≤ s.size ∧ nv = .int .i64 (amt ((bl s).take k) : Nat) ∧ w = wr) (fun _ i _ => s.size - (intOf i).toNat)
 case atStart => exact ⟨0, rfl, Nat.zero_le _, rfl, rfl⟩
 case round =>
  obtain ⟨k, rfl, hk, rfl, rfl⟩ := hrel
  by_cases hlt : k < s.size
  ·obtain ⟨B, hB⟩ : ∃ B : Nat, (s[k]'hlt).toNat = B := ⟨_, rfl⟩
   have hget : (bl s)[k]? = some B := by rw [bl_get s k hlt, hB]
   have hdB := dg10_iff.1 (HD.out B (List.mem_of_getElem? hget))
   obtain ⟨N, hN⟩ : ∃ N, amt ((bl s).take k) = N := ⟨_, rfl⟩
   have hNl : N < 10995116277760 := by rw [← hN]; exact amt_lt _ (fun c hc => HD.out c (List.mem_of_mem_take hc))
   have hstep : amt ((bl s).take (k + 1)) = amtS N B := by rw [List.take_add_one, hget, ← hN]; exact amt_snoc _ _
   rw [hN]
   have a1 : (0 : Int) ≤ (k : Int) := by omega
   have a2 : (k : Int) < (s.size : Int) := by omega
   have a3 : ((s[k]'hlt).toNat : Int) = (B : Int) := by rw [hB]
   obtain ⟨D, hD⟩ : ∃ D : Nat, B - 48 = D := ⟨_, rfl⟩
   have a4 : IntKind.u8.wrap ((B : Int) - 48) = (D : Int) := by rw [IntWalk.u8_in _ (by omega)]; omega
   have a5 : IntKind.i64.wrap (D : Int) = (D : Int) := IntWalk.i64_in _ (by omega)
   by_cases hc : N < 1099511627776
   ·obtain ⟨M, hM⟩ : ∃ M : Nat, N * 10 + D = M := ⟨_, rfl⟩
    have HS := Lib.hid (show amt ((bl s).take (k + 1)) = M from by rw [hstep]; unfold amtS; rw [if_pos hc, hD, hM])
    have a6 : IntKind.i64.wrap (10 * (N : Int)) = 10 * (N : Int) := IntWalk.i64_in _ (by omega)
    have a7 : IntKind.i64.wrap (10 * (N : Int) + (D : Int)) = (M : Int) := by rw [IntWalk.i64_in _ (by omega)]; omega
    have t1 : decide ((N : Int) < 1099511627776) = true := decide_eq_true (by omega)
    clear hget hdB hN hNl hstep hB hD hM hc HD hk
    go_wp2
    exact ⟨⟨k + 1, by go_num, by omega, by rw [HS.out], trivial⟩, by simp [intOf]; omega⟩
   ·have HS := Lib.hid (show amt ((bl s).take (k + 1)) = N from by rw [hstep]; unfold amtS; rw [if_neg hc])
    have t1 : decide ((N : Int) < 1099511627776) = false := decide_eq_false (by omega)
    clear hget hdB hN hNl hstep hB hD hc HD hk a3 a4 a5
    go_wp2
    exact ⟨⟨k + 1, by go_num, by omega, by rw [HS.out], trivial⟩, by simp [intOf]; omega⟩
  ·have HZ := Lib.hid (show (bl s).take k = bl s from List.take_of_length_le (by rw [bl_size]; omega))
   go_wp2
   go_ret
   exact ⟨by rw [HZ.out]; rfl, rfl⟩
def sgI (b : Bool) : Int := if b = true then -1 else 1
set_option maxRecDepth 100000 in
theorem conv_sg (b : Bool) : ∀ W : World, (convert 22 3 (.float .f64 (sgF b))).run Tryz.prog W = .ok (.int .i64 (sgI b)) W := by
 intro W
 cases b
 ·rfl
 ·rfl
theorem tail_sub {l : List Nat} : ∀ c ∈ l.tail, c ∈ l := fun _ h => List.mem_of_mem_tail h
theorem unsg_sub {l : List Nat} : ∀ c ∈ unsg l, c ∈ l := by
 intro c h
 unfold unsg at h
 split at h
 ·exact tail_sub c h
 ·exact h
theorem run_sub {l : List Nat} : ∀ c ∈ run10 l, c ∈ l := fun _ h => (List.takeWhile_sublist _).subset h
theorem aft_sub {l : List Nat} : ∀ c ∈ aft10 l, c ∈ l := fun _ h => (List.dropWhile_sublist _).subset h
theorem unsg_len (l : List Nat) : (unsg l).length ≤ l.length := by
 unfold unsg
 split
 ·rw [List.length_tail]; omega
 ·omega
theorem ldq_dg : ldq 10 = dg10 := funext ldq_ten
theorem str_ne {l : List Nat} (h : l ≠ []) : ¬ (strOf l).toList = [] ∧ (strOf l).toList.isEmpty = false := by
 have h1 : ¬ (strOf l).toList = [] := by
  rw [Lib.toList_data]
  unfold strOf
  simpa using h
 refine ⟨h1, ?_⟩
 cases hh : (strOf l).toList with
 | nil => exact absurd hh h1
 | cons => rfl
theorem cut_ten (l : List Nat) (w : World) (hl : ∀ c ∈ l, c < 256) (hs : l.length ≤ 4611686018427387903) :
  Ct 86 #[.string (strOf l), .int .i64 10] (.tuple #[.string (strOf (run10 l)), .string (strOf (aft10 l))]) w := by
 have h := tcutDigits_any (strOf l) 10 w (by omega) (by rw [strOf_size]; exact hs)
 rw [bl_strOf hl, ldq_dg] at h
 exact h
theorem expB_no {l : List Nat} (h : ¬ (l.head? = some 101 ∨ l.head? = some 69)) : expB l = false := by
 unfold expB
 have h1 : (l.head? == some 101) = false := beq_eq_false_iff_ne.2 (fun e => h (Or.inl e))
 have h2 : (l.head? == some 69) = false := beq_eq_false_iff_ne.2 (fun e => h (Or.inr e))
 rw [h1, h2]; rfl
theorem expB_is {l : List Nat} (h : l.head? = some 101 ∨ l.head? = some 69) : expB l = !(run10 (unsg l.tail)).isEmpty := by
 unfold expB
 have h1 : (l.head? == some 101 || l.head? == some 69) = true := by
  rcases h with h | h
  ·rw [h]; rfl
  ·rw [h]; rfl
 rw [h1, Bool.true_and]
def ExpQ (l : List Nat) (w : World) (e : Ending) (w' : World) : Prop :=
 e = .returned (.tuple #[.int .i64 (exV l), .string (strOf (if expB l = true then expR l else [])), .bool (expB l)]) ∧ Below w.heap.size w w'
theorem ExpQ.no {l : List Nat} {w w' : World} (h : expB l = false) (hb : Below w.heap.size w w') : ExpQ l w (.returned (.tuple #[.int .i64 0, .string ⟨#[]⟩, .bool false])) w' := by
 refine ⟨?_, hb⟩
 unfold exV
 rw [h, if_neg (by simp), if_neg (by simp)]
 rfl
theorem ExpQ.yes {l : List Nat} {w w' : World} (h : expB l = true) (hb : Below w.heap.size w w') : ExpQ l w (.returned (.tuple #[.int .i64 (expV l), .string (strOf (expR l)), .bool true])) w' := by
 refine ⟨?_, hb⟩
 unfold exV
 rw [h, if_pos rfl, if_pos rfl]
set_option maxRecDepth 100000 in
set_option maxHeartbeats 1000000 in
theorem tcutExponent_any (s : ByteArray) (w : World) (hs : s.size ≤ 4611686018427387903) :
  Cp 132 #[.string s] w (ExpQ (bl s) w) := by
 have h2 : (s.size : Int) ≤ 4611686018427387903 := by omega
 by_cases h0 : s.size = 0
 ·have hnil : bl s = [] := List.eq_nil_of_length_eq_zero (by rw [bl_size]; exact h0)
  have hE := ExpQ.no (l := bl s) (expB_no (by rw [hnil]; simp)) (Below.refl w.heap.size w)
  have hz : s = ⟨#[]⟩ := by
   have := strOf_bl s
   rw [hnil] at this
   exact this.symm
  clear hnil
  subst hz
  have HE := Lib.hid hE
  clear hE h0 hs h2
  go_enter Tryz.func132, Tryz.ntmps132
  go_wp2
  refine bodyPost_ret (results_tmp3 rfl _ _ _) rfl ?_
  exact HE.out
 ·have hp : 0 < s.size := by omega
  obtain ⟨B, hB⟩ : ∃ B : Nat, (s[0]'hp).toNat = B := ⟨_, rfl⟩
  have hhd : (bl s).head? = some B := by rw [List.head?_eq_getElem?, bl_get s 0 hp, hB]
  have a2 : (0 : Int) < (s.size : Int) := by omega
  have a3 : ((s[0]'hp).toNat : Int) = (B : Int) := by rw [hB]
  have hne := str_ne (l := bl s) (by intro e; rw [e] at hhd; cases hhd)
  rw [strOf_bl] at hne
  obtain ⟨n1, n2⟩ := hne
  by_cases hc : B = 101 ∨ B = 69
  ·have hx := expB_is (l := bl s) (by rw [hhd]; rcases hc with h | h <;> simp [h])
   have e1 : bl (s.extract 1 s.size) = (bl s).tail := by rw [bl_drop]; exact List.drop_one
   have C1 := Lib.hid (tcutSign_any (s.extract 1 s.size) w)
   rw [e1] at C1
   obtain ⟨U, hU⟩ : ∃ U, unsg (bl s).tail = U := ⟨_, rfl⟩
   rw [hU] at C1 hx
   have hU2 : ∀ c ∈ U, c < 256 := fun c h => bl_lt s c (tail_sub c (unsg_sub c (by rw [hU]; exact h)))
   have hU3 : U.length ≤ 4611686018427387903 := by
    have k1 := unsg_len (bl s).tail
    rw [hU, List.length_tail, bl_size] at k1
    omega
   have C2 := Lib.hid (cut_ten U w hU2 hU3)
   have hR := run10_all U
   have hRl := run_len U
   have hR2 : ∀ c ∈ run10 U, c < 256 := fun c h => hU2 c (run_sub c h)
   have hV : expV (bl s) = if sgnB (bl s).tail = true then -(amt (run10 U) : Int) else (amt (run10 U) : Int) := by unfold expV; rw [hU]
   have hT : expR (bl s) = aft10 U := by unfold expR; rw [hU]
   obtain ⟨b, hb⟩ : ∃ b, sgnB (bl s).tail = b := ⟨_, rfl⟩
   rw [hb] at C1 hV
   obtain ⟨R, hRR⟩ : ∃ R, run10 U = R := ⟨_, rfl⟩
   rw [hRR] at C2 hR hRl hR2 hV hx
   have m1 : ∀ W, Cq 84 #[.string (s.extract 1 s.size)] (.tuple #[.float .f64 (sgF b : Nat), .string (strOf U)]) W := by
    intro W
    have := tcutSign_any (s.extract 1 s.size) W
    rw [e1, hU, hb] at this
    exact this
   by_cases hR0 : R = []
   ·have HE := Lib.hid (fun w' => ExpQ.no (l := bl s) (w := w) (w' := w') (by rw [hx, hR0]; rfl))
    rw [hR0, strOf_nil] at C2
    rw [show ByteArray.empty = (⟨#[]⟩ : ByteArray) from rfl] at C2
    obtain ⟨u, hu⟩ : ∃ u, strOf U = u := ⟨_, rfl⟩
    obtain ⟨v, hv⟩ : ∃ v, strOf (aft10 U) = v := ⟨_, rfl⟩
    rw [hu] at C1 C2
    rw [hv] at C2
    clear hx e1 hU hU2 hU3 hR hRl hR2 hV hT hb hRR hR0 hu hv hhd hB hs m1 h0
    have t1 : ((B : Int) != 101 && (B : Int) != 69) = false := by rcases hc with rfl | rfl <;> rfl
    have t2 : (B = 101 ∧ ((B : Int) != 101) = false) ∨ (((B : Int) != 101) = true ∧ ((B : Int) != 69) = false) := by rcases hc with rfl | rfl <;> simp
    clear hc
    rcases t2 with ⟨_, t2⟩ | ⟨t2, t3⟩
    ·go_enter Tryz.func132, Tryz.ntmps132
     go_wp2_with fail
     refine C1.out.mono ?_
     rintro e w' ⟨rfl, rfl⟩
     go_wp2_with fail
     refine C2.out.mono ?_
     rintro e w' ⟨rfl, hbw⟩
     go_wp2
     refine bodyPost_ret (results_tmp3 rfl _ _ _) rfl ?_
     exact HE.out _ hbw
    ·go_enter Tryz.func132, Tryz.ntmps132
     go_wp2_with fail
     refine C1.out.mono ?_
     rintro e w' ⟨rfl, rfl⟩
     go_wp2_with fail
     refine C2.out.mono ?_
     rintro e w' ⟨rfl, hbw⟩
     go_wp2
     refine bodyPost_ret (results_tmp3 rfl _ _ _) rfl ?_
     exact HE.out _ hbw
   ·have HE := Lib.hid (fun w' => ExpQ.yes (l := bl s) (w := w) (w' := w') (by rw [hx]; cases R with | nil => exact absurd rfl hR0 | cons => rfl))
    obtain ⟨r1, r2⟩ := str_ne hR0
    have C3 := Lib.hid (fun W => tamount_any (strOf R) W (by rw [strOf_size]; omega) (by rw [bl_strOf hR2]; exact hR))
    rw [bl_strOf hR2] at C3
    have hal := amt_lt R hR
    obtain ⟨N, hN⟩ : ∃ N, amt R = N := ⟨_, rfl⟩
    rw [hN] at C3 hal hV
    have K1 := Lib.hid (conv_sg b)
    have a5 : IntKind.i64.wrap (sgI b * (N : Int)) = expV (bl s) := by
     rw [hV]
     cases b
     ·rw [if_neg (by simp), show sgI false = 1 from rfl, IntWalk.i64_in _ (by omega)]; omega
     ·rw [if_pos rfl, show sgI true = -1 from rfl, IntWalk.i64_in _ (by omega)]; omega
    obtain ⟨X, hX⟩ : ∃ X, expV (bl s) = X := ⟨_, rfl⟩
    rw [hX] at HE a5
    rw [hT] at HE
    obtain ⟨u, hu⟩ : ∃ u, strOf U = u := ⟨_, rfl⟩
    obtain ⟨v, hv⟩ : ∃ v, strOf (aft10 U) = v := ⟨_, rfl⟩
    obtain ⟨f, hf⟩ : ∃ f, strOf R = f := ⟨_, rfl⟩
    rw [hu] at C1 C2
    rw [hv] at C2 HE
    rw [hf] at C2 C3 r1 r2
    have K1 := K1.out
    have t2 : (B = 101 ∧ ((B : Int) != 101) = false) ∨ (((B : Int) != 101) = true ∧ ((B : Int) != 69) = false) := by rcases hc with rfl | rfl <;> simp
    clear hx e1 hU hU2 hU3 hR hRl hR2 hV hT hb hRR hR0 hu hv hf hhd hB hs m1 h0 hc hN hal hX
    rcases t2 with ⟨_, t2⟩ | ⟨t2, t3⟩
    ·go_enter Tryz.func132, Tryz.ntmps132
     go_wp2_with fail
     refine C1.out.mono ?_
     rintro e w' ⟨rfl, rfl⟩
     go_wp2_with fail
     refine C2.out.mono ?_
     rintro e w' ⟨rfl, hbw⟩
     go_wp2_with fail
     refine (C3.out _).mono ?_
     rintro e w' ⟨rfl, rfl⟩
     go_wp2
     refine bodyPost_ret (results_tmp3 rfl _ _ _) rfl ?_
     exact HE.out _ hbw
    ·go_enter Tryz.func132, Tryz.ntmps132
     go_wp2_with fail
     refine C1.out.mono ?_
     rintro e w' ⟨rfl, rfl⟩
     go_wp2_with fail
     refine C2.out.mono ?_
     rintro e w' ⟨rfl, hbw⟩
     go_wp2_with fail
     refine (C3.out _).mono ?_
     rintro e w' ⟨rfl, rfl⟩
     go_wp2
     refine bodyPost_ret (results_tmp3 rfl _ _ _) rfl ?_
     exact HE.out _ hbw
  ·have HE := Lib.hid (ExpQ.no (l := bl s) (expB_no (by rw [hhd]; rintro (h | h) <;> exact hc (by simp at h; omega))) (Below.refl w.heap.size w))
   have t1 : ((B : Int) != 101) = true := by rw [bne_iff_ne]; omega
   have t2 : ((B : Int) != 69) = true := by rw [bne_iff_ne]; omega
   clear hhd hB hs hc h0
   go_enter Tryz.func132, Tryz.ntmps132
   go_wp2
   refine bodyPost_ret (results_tmp3 rfl _ _ _) rfl ?_
   exact HE.out

end Go.Proofs.YtfcpkdafkmohkaaGreatDoor
namespace Go.Proofs.YtfcpkdafkmohkaaGreatDoor
open Go.RowKit
theorem below_setRow' {B g : Nat} {a w : World} (h : Below B a w) (hg : B ≤ g) (c : Array Value) : Below B a (w.setRow g c) :=
 ⟨h.os, h.tape, h.output, by rw [setRow_size]; exact h.size, fun k hk => (setRow_other w g k c (by omega)).trans (h.block k hk)⟩
theorem results_cell_two {fn : Func} {p t u : Tmp} {ty : TypeId} (h : fn.results = #[.cell p ty, .tmp t, .tmp u]) (tmps : Array Value) (P : Program) (w : World) (a : Addr) (v : Value) (ha : tmps.getD p undef = .pointer (some a)) (hl : (loadVar ty a).run P w = .ok v w) :
  (results fn tmps).run P w = .ok (.tuple #[v, tmps.getD t undef, tmps.getD u undef]) w := by
 simp only [results, h]
 simp [-Array.getD_eq_getD_getElem?, ha, asAddr, hl]
def Rc (w : World) (g : Nat) (a b c : Value) : Prop := w.heap[g]? = some (.cells #[a, b, c] 64 (0, 0))
theorem Rc.cells {w : World} {g : Nat} {a b c : Value} (h : Rc w g a b c) : w.cell? ⟨g, 0, none⟩ = some a ∧ w.cell? ⟨g, 1, none⟩ = some b ∧ w.cell? ⟨g, 2, none⟩ = some c ∧ (∀ k, w.frozen? ⟨g, k, none⟩ = false) := by
 unfold Rc at h
 refine ⟨by simp [World.cell?, h], by simp [World.cell?, h], by simp [World.cell?, h], fun k => by simp [World.frozen?, h]⟩
theorem Rc.below {w w' : World} {g B : Nat} {a b c : Value} (h : Rc w g a b c) (hb : Below B w w') (hg : g < B) : Rc w' g a b c := (hb.block g hg).trans h
theorem Rc.set0 {w : World} {g : Nat} {a b c : Value} (h : Rc w g a b c) (v : Value) : Rc (w.setCell ⟨g, 0, none⟩ v) g v b c := by
 have := heap_setCell_same w g 0 _ _ v h
 exact this
theorem Rc.set1 {w : World} {g : Nat} {a b c : Value} (h : Rc w g a b c) (v : Value) : Rc (w.setCell ⟨g, 1, none⟩ v) g a v c := by
 have := heap_setCell_same w g 1 _ _ v h
 exact this
theorem Rc.set2 {w : World} {g : Nat} {a b c : Value} (h : Rc w g a b c) (v : Value) : Rc (w.setCell ⟨g, 2, none⟩ v) g a b v := by
 have := heap_setCell_same w g 2 _ _ v h
 exact this
theorem Rc.other {w : World} {g k i : Nat} {a b c v : Value} (h : Rc w g a b c) (hk : g ≠ k) : Rc (w.setCell ⟨k, i, none⟩ v) g a b c := (heap_setCell_other w ⟨k, i, none⟩ g v hk).trans h
def zs : Value := .string ⟨#[]⟩
structure Rd (W w : World) (a b c : Value) : Prop where
 lo : Rc w W.heap.size zs zs (.int .i64 0)
 hi : Rc w (W.heap.size + 1) a b c
 bw : Below W.heap.size W w
 sz : W.heap.size + 2 ≤ w.heap.size
theorem Rd.start (W : World) : Rd W ((W.alloc (.cells #[zs, zs, .int .i64 0] 64)).alloc (.cells #[zs, zs, .int .i64 0] 64)) zs zs (.int .i64 0) := by
 obtain ⟨V, hV⟩ : ∃ V, W.alloc (.cells #[zs, zs, .int .i64 0] 64) = V := ⟨_, rfl⟩
 have hs : V.heap.size = W.heap.size + 1 := by rw [← hV]; simp
 have h1 : Rc V W.heap.size zs zs (.int .i64 0) := by rw [← hV]; exact heap_alloc_last W _
 have b1 : Below W.heap.size W V := by rw [← hV]; exact (Below.refl _ _).alloc (Nat.le_refl _) _
 have b2 : Below V.heap.size V (V.alloc (.cells #[zs, zs, .int .i64 0] 64)) := (Below.refl _ _).alloc (Nat.le_refl _) _
 rw [hV]
 refine ⟨h1.below b2 (by omega), ?_, below_le b1 b2, by simp; omega⟩
 rw [← hs]
 exact heap_alloc_last V _
theorem Rd.step {W w w' : World} {a b c : Value} (h : Rd W w a b c) (hb : Below w.heap.size w w') : Rd W w' a b c :=
 ⟨h.lo.below hb (by have := h.sz; omega), h.hi.below hb (by have := h.sz; omega), below_le h.bw hb, Nat.le_trans h.sz hb.size⟩
theorem Rd.put0 {W w : World} {a b c : Value} (h : Rd W w a b c) (v : Value) : Rd W (w.setCell ⟨W.heap.size + 1, 0, none⟩ v) v b c :=
 ⟨h.lo.other (by omega), h.hi.set0 v, h.bw.setCell (by show W.heap.size ≤ W.heap.size + 1; omega) _, by simp only [World.setCell, Array.size_modify]; exact h.sz⟩
theorem Rd.put1 {W w : World} {a b c : Value} (h : Rd W w a b c) (v : Value) : Rd W (w.setCell ⟨W.heap.size + 1, 1, none⟩ v) a v c :=
 ⟨h.lo.other (by omega), h.hi.set1 v, h.bw.setCell (by show W.heap.size ≤ W.heap.size + 1; omega) _, by simp only [World.setCell, Array.size_modify]; exact h.sz⟩
theorem Rd.put2 {W w : World} {a b c : Value} (h : Rd W w a b c) (v : Value) : Rd W (w.setCell ⟨W.heap.size + 1, 2, none⟩ v) a b v :=
 ⟨h.lo.other (by omega), h.hi.set2 v, h.bw.setCell (by show W.heap.size ≤ W.heap.size + 1; omega) _, by simp only [World.setCell, Array.size_modify]; exact h.sz⟩
set_option maxRecDepth 100000 in
set_option maxHeartbeats 1000000 in
theorem tcutDecimal_none (s : ByteArray) (w : World) (S1 : ByteArray)
   (C1 : Hid (∀ W, Ct 86 #[.string s, .int .i64 10] (.tuple #[.string ⟨#[]⟩, .string S1]) W))
   (C2 : Hid (∀ W, Cq 131 #[.string S1, .string ⟨#[46]⟩] (.tuple #[.string S1, .bool false]) W)) :
    Cp 68 #[.string s] w (fun e w' => e = .returned (.tuple #[.agg #[.string ⟨#[]⟩, .string ⟨#[]⟩, .int .i64 0], .string ⟨#[]⟩, .bool false]) ∧ Below w.heap.size w w') := by
  have R0 := Lib.hid (Rd.start w)
  go_enter Tryz.func68, Tryz.ntmps68
  go_wp2_with fail
  refine (C1.out _).mono ?_
  rintro e w1 ⟨rfl, hb1⟩
  have R1 := Lib.hid (R0.out.step hb1)
  obtain ⟨c0, c1, c2, fz⟩ := R1.out.hi.cells
  have f0 := fz 0
  clear fz hb1
  go_wp2_with fail
  refine (C2.out _).mono ?_
  rintro e w2 ⟨rfl, rfl⟩
  have R2 := Lib.hid (R1.out.put0 (.string ⟨#[]⟩))
  generalize w1.setCell ⟨w.heap.size + 1, 0, none⟩ (.string ⟨#[]⟩) = w2 at *
  clear c0 c1 c2 f0
  obtain ⟨c0, c1, c2, fz⟩ := R2.out.hi.cells
  have f0 := fz 0
  clear fz
  unfold zs at c1
  have HG := Lib.hid (show w2.heap[w.heap.size]? = some (.cells #[.string ⟨#[]⟩, .string ⟨#[]⟩, .int .i64 0] 64 (0, 0)) from R2.out.lo)
  have HB := Lib.hid R2.out.bw
  go_wp2_with (first | (refine wpList_store_row rfl 64 _ _ rfl w.heap.size #[.string ⟨#[]⟩, .string ⟨#[]⟩, .int .i64 0] rfl rfl 64 #[.string ⟨#[]⟩, .string ⟨#[]⟩, .int .i64 0] HG.out (by first | kernel_rfl | rfl) rfl (by first | kernel_rfl | rfl) ?_))
  exact bodyPost_ret (results_cell_two rfl _ _ _ _ _ rfl (run_loadVar_row _ w.heap.size 64 64 _ (0, 0) _ (setRow_heap _ _ _ _ _ _ HG.out) Tryz.underlying64 rfl (by first | kernel_rfl | rfl))) rfl ⟨rfl, below_setRow' HB.out (Nat.le_refl _) _⟩
set_option maxRecDepth 100000 in
set_option maxHeartbeats 2000000 in
theorem tcutDecimal_a_false (s : ByteArray) (w : World) (Wt S1 t0 Rt : ByteArray) (X : Int) (n2 : Wt.toList.isEmpty = false)
   (C1 : Hid (∀ W, Ct 86 #[.string s, .int .i64 10] (.tuple #[.string Wt, .string S1]) W))
   (C2 : Hid (∀ W, Cq 131 #[.string S1, .string ⟨#[46]⟩] (.tuple #[.string t0, .bool false]) W))
   (C3 : Hid (∀ W, Ct 132 #[.string S1] (.tuple #[.int .i64 X, .string Rt, .bool false]) W)) :
    Cp 68 #[.string s] w (fun e w' => e = .returned (.tuple #[.agg #[.string Wt, .string ⟨#[]⟩, .int .i64 0], .string S1, .bool true]) ∧ Below w.heap.size w w') := by
  have R0 := Lib.hid (Rd.start w)
  go_enter Tryz.func68, Tryz.ntmps68
  go_wp2_with fail
  refine (C1.out _).mono ?_
  rintro e w1 ⟨rfl, hb1⟩
  have R1 := Lib.hid (R0.out.step hb1)
  clear hb1
  obtain ⟨c0, c1, c2, fz⟩ := R1.out.hi.cells
  have f0 := fz 0
  have f1 := fz 1
  have f2 := fz 2
  clear fz
  try unfold zs at c0
  try unfold zs at c1
  go_wp2_with fail
  refine (C2.out _).mono ?_
  rintro e w2 ⟨rfl, rfl⟩
  have R2 := Lib.hid (R1.out.put0 (.string Wt))
  generalize w1.setCell ⟨w.heap.size + 1, 0, none⟩ (.string Wt) = w2 at *
  clear c0 c1 c2 f0 f1 f2
  obtain ⟨c0, c1, c2, fz⟩ := R2.out.hi.cells
  have f0 := fz 0
  have f1 := fz 1
  have f2 := fz 2
  clear fz
  try unfold zs at c0
  try unfold zs at c1
  go_wp2_with fail
  refine (C3.out _).mono ?_
  rintro e w3 ⟨rfl, hb3⟩
  have R3 := Lib.hid (R2.out.step hb3)
  clear hb3 c0 c1 c2 f0 f1 f2
  obtain ⟨c0, c1, c2, fz⟩ := R3.out.hi.cells
  have f0 := fz 0
  have f1 := fz 1
  have f2 := fz 2
  clear fz
  try unfold zs at c0
  try unfold zs at c1
  have HG := Lib.hid (show w3.heap[w.heap.size]? = some (.cells #[.string ⟨#[]⟩, .string ⟨#[]⟩, .int .i64 0] 64 (0, 0)) from R3.out.lo)
  have HB := Lib.hid R3.out.bw
  go_wp2_with (first | (refine wpList_store_row rfl 64 _ _ rfl w.heap.size #[.string Wt, .string ⟨#[]⟩, .int .i64 0] rfl rfl 64 #[.string ⟨#[]⟩, .string ⟨#[]⟩, .int .i64 0] HG.out (by first | kernel_rfl | rfl) rfl (by first | kernel_rfl | rfl) ?_))
  exact bodyPost_ret (results_cell_two rfl _ _ _ _ _ rfl (run_loadVar_row _ w.heap.size 64 64 _ (0, 0) _ (setRow_heap _ _ _ _ _ _ HG.out) Tryz.underlying64 rfl (by first | kernel_rfl | rfl))) rfl ⟨rfl, below_setRow' HB.out (Nat.le_refl _) _⟩
set_option maxRecDepth 100000 in
set_option maxHeartbeats 2000000 in
theorem tcutDecimal_a_true (s : ByteArray) (w : World) (Wt S1 t0 Rt : ByteArray) (X : Int) (n2 : Wt.toList.isEmpty = false)
   (C1 : Hid (∀ W, Ct 86 #[.string s, .int .i64 10] (.tuple #[.string Wt, .string S1]) W))
   (C2 : Hid (∀ W, Cq 131 #[.string S1, .string ⟨#[46]⟩] (.tuple #[.string t0, .bool false]) W))
   (C3 : Hid (∀ W, Ct 132 #[.string S1] (.tuple #[.int .i64 X, .string Rt, .bool true]) W)) :
    Cp 68 #[.string s] w (fun e w' => e = .returned (.tuple #[.agg #[.string Wt, .string ⟨#[]⟩, .int .i64 X], .string Rt, .bool true]) ∧ Below w.heap.size w w') := by
  have R0 := Lib.hid (Rd.start w)
  go_enter Tryz.func68, Tryz.ntmps68
  go_wp2_with fail
  refine (C1.out _).mono ?_
  rintro e w1 ⟨rfl, hb1⟩
  have R1 := Lib.hid (R0.out.step hb1)
  clear hb1
  obtain ⟨c0, c1, c2, fz⟩ := R1.out.hi.cells
  have f0 := fz 0
  have f1 := fz 1
  have f2 := fz 2
  clear fz
  try unfold zs at c0
  try unfold zs at c1
  go_wp2_with fail
  refine (C2.out _).mono ?_
  rintro e w2 ⟨rfl, rfl⟩
  have R2 := Lib.hid (R1.out.put0 (.string Wt))
  generalize w1.setCell ⟨w.heap.size + 1, 0, none⟩ (.string Wt) = w2 at *
  clear c0 c1 c2 f0 f1 f2
  obtain ⟨c0, c1, c2, fz⟩ := R2.out.hi.cells
  have f0 := fz 0
  have f1 := fz 1
  have f2 := fz 2
  clear fz
  try unfold zs at c0
  try unfold zs at c1
  go_wp2_with fail
  refine (C3.out _).mono ?_
  rintro e w3 ⟨rfl, hb3⟩
  have R3 := Lib.hid (R2.out.step hb3)
  clear hb3 c0 c1 c2 f0 f1 f2
  obtain ⟨c0, c1, c2, fz⟩ := R3.out.hi.cells
  have f0 := fz 0
  have f1 := fz 1
  have f2 := fz 2
  clear fz
  try unfold zs at c0
  try unfold zs at c1
  have HR := Lib.hid (R3.out.put2 (.int .i64 X))
  have HG := Lib.hid (show (w3.setCell ⟨w.heap.size + 1, 2, none⟩ (.int .i64 X)).heap[w.heap.size]? = some (.cells #[.string ⟨#[]⟩, .string ⟨#[]⟩, .int .i64 0] 64 (0, 0)) from HR.out.lo)
  have HB := Lib.hid HR.out.bw
  obtain ⟨d0, d1, d2, _⟩ := HR.out.hi.cells
  try unfold zs at d1
  go_wp2_with (first | (refine wpList_store_row rfl 64 _ _ rfl w.heap.size #[.string Wt, .string ⟨#[]⟩, .int .i64 X] rfl rfl 64 #[.string ⟨#[]⟩, .string ⟨#[]⟩, .int .i64 0] HG.out (by first | kernel_rfl | rfl) rfl (by first | kernel_rfl | rfl) ?_))
  exact bodyPost_ret (results_cell_two rfl _ _ _ _ _ rfl (run_loadVar_row _ w.heap.size 64 64 _ (0, 0) _ (setRow_heap _ _ _ _ _ _ HG.out) Tryz.underlying64 rfl (by first | kernel_rfl | rfl))) rfl ⟨rfl, below_setRow' HB.out (Nat.le_refl _) _⟩
set_option maxRecDepth 100000 in
set_option maxHeartbeats 2000000 in
theorem tcutDecimal_b0_false (s : ByteArray) (w : World) (Wt S1 S2 Bt Ft Rt : ByteArray) (X : Int) (n2 : Wt.toList.isEmpty = false)
   (C1 : Hid (∀ W, Ct 86 #[.string s, .int .i64 10] (.tuple #[.string Wt, .string S1]) W))
   (C2 : Hid (∀ W, Cq 131 #[.string S1, .string ⟨#[46]⟩] (.tuple #[.string Bt, .bool true]) W))
   (C4 : Hid (∀ W, Ct 86 #[.string Bt, .int .i64 10] (.tuple #[.string Ft, .string S2]) W))
   (C3 : Hid (∀ W, Ct 132 #[.string S2] (.tuple #[.int .i64 X, .string Rt, .bool false]) W)) :
    Cp 68 #[.string s] w (fun e w' => e = .returned (.tuple #[.agg #[.string Wt, .string Ft, .int .i64 0], .string S2, .bool true]) ∧ Below w.heap.size w w') := by
  have R0 := Lib.hid (Rd.start w)
  go_enter Tryz.func68, Tryz.ntmps68
  go_wp2_with fail
  refine (C1.out _).mono ?_
  rintro e w1 ⟨rfl, hb1⟩
  have R1 := Lib.hid (R0.out.step hb1)
  clear hb1
  obtain ⟨c0, c1, c2, fz⟩ := R1.out.hi.cells
  have f0 := fz 0
  have f1 := fz 1
  have f2 := fz 2
  clear fz
  try unfold zs at c0
  try unfold zs at c1
  go_wp2_with fail
  refine (C2.out _).mono ?_
  rintro e w2 ⟨rfl, rfl⟩
  have R2 := Lib.hid (R1.out.put0 (.string Wt))
  generalize w1.setCell ⟨w.heap.size + 1, 0, none⟩ (.string Wt) = w2 at *
  clear c0 c1 c2 f0 f1 f2
  obtain ⟨c0, c1, c2, fz⟩ := R2.out.hi.cells
  have f0 := fz 0
  have f1 := fz 1
  have f2 := fz 2
  clear fz
  try unfold zs at c0
  try unfold zs at c1
  go_wp2_with fail
  refine (C4.out _).mono ?_
  rintro e w3 ⟨rfl, hb3⟩
  have R3 := Lib.hid (R2.out.step hb3)
  clear hb3 c0 c1 c2 f0 f1 f2
  obtain ⟨c0, c1, c2, fz⟩ := R3.out.hi.cells
  have f0 := fz 0
  have f1 := fz 1
  have f2 := fz 2
  clear fz
  try unfold zs at c0
  try unfold zs at c1
  have R4 := Lib.hid (R3.out.put1 (.string Ft))
  obtain ⟨e0, e1, e2, ez⟩ := R4.out.hi.cells
  have g0 := ez 0
  have g1 := ez 1
  have g2 := ez 2
  clear ez
  go_wp2_with fail
  refine (C3.out _).mono ?_
  rintro e w5 ⟨rfl, hb5⟩
  have R5 := Lib.hid (R4.out.step hb5)
  clear hb5 c0 c1 c2 f0 f1 f2
  obtain ⟨c0, c1, c2, fz⟩ := R5.out.hi.cells
  have f0 := fz 0
  have f1 := fz 1
  have f2 := fz 2
  clear fz
  try unfold zs at c0
  try unfold zs at c1
  have HG := Lib.hid (show w5.heap[w.heap.size]? = some (.cells #[.string ⟨#[]⟩, .string ⟨#[]⟩, .int .i64 0] 64 (0, 0)) from R5.out.lo)
  have HB := Lib.hid R5.out.bw
  go_wp2_with (first | (refine wpList_store_row rfl 64 _ _ rfl w.heap.size #[.string Wt, .string Ft, .int .i64 0] rfl rfl 64 #[.string ⟨#[]⟩, .string ⟨#[]⟩, .int .i64 0] HG.out (by first | kernel_rfl | rfl) rfl (by first | kernel_rfl | rfl) ?_))
  exact bodyPost_ret (results_cell_two rfl _ _ _ _ _ rfl (run_loadVar_row _ w.heap.size 64 64 _ (0, 0) _ (setRow_heap _ _ _ _ _ _ HG.out) Tryz.underlying64 rfl (by first | kernel_rfl | rfl))) rfl ⟨rfl, below_setRow' HB.out (Nat.le_refl _) _⟩
set_option maxRecDepth 100000 in
set_option maxHeartbeats 2000000 in
theorem tcutDecimal_b0_true (s : ByteArray) (w : World) (Wt S1 S2 Bt Ft Rt : ByteArray) (X : Int) (n2 : Wt.toList.isEmpty = false)
   (C1 : Hid (∀ W, Ct 86 #[.string s, .int .i64 10] (.tuple #[.string Wt, .string S1]) W))
   (C2 : Hid (∀ W, Cq 131 #[.string S1, .string ⟨#[46]⟩] (.tuple #[.string Bt, .bool true]) W))
   (C4 : Hid (∀ W, Ct 86 #[.string Bt, .int .i64 10] (.tuple #[.string Ft, .string S2]) W))
   (C3 : Hid (∀ W, Ct 132 #[.string S2] (.tuple #[.int .i64 X, .string Rt, .bool true]) W)) :
    Cp 68 #[.string s] w (fun e w' => e = .returned (.tuple #[.agg #[.string Wt, .string Ft, .int .i64 X], .string Rt, .bool true]) ∧ Below w.heap.size w w') := by
  have R0 := Lib.hid (Rd.start w)
  go_enter Tryz.func68, Tryz.ntmps68
  go_wp2_with fail
  refine (C1.out _).mono ?_
  rintro e w1 ⟨rfl, hb1⟩
  have R1 := Lib.hid (R0.out.step hb1)
  clear hb1
  obtain ⟨c0, c1, c2, fz⟩ := R1.out.hi.cells
  have f0 := fz 0
  have f1 := fz 1
  have f2 := fz 2
  clear fz
  try unfold zs at c0
  try unfold zs at c1
  go_wp2_with fail
  refine (C2.out _).mono ?_
  rintro e w2 ⟨rfl, rfl⟩
  have R2 := Lib.hid (R1.out.put0 (.string Wt))
  generalize w1.setCell ⟨w.heap.size + 1, 0, none⟩ (.string Wt) = w2 at *
  clear c0 c1 c2 f0 f1 f2
  obtain ⟨c0, c1, c2, fz⟩ := R2.out.hi.cells
  have f0 := fz 0
  have f1 := fz 1
  have f2 := fz 2
  clear fz
  try unfold zs at c0
  try unfold zs at c1
  go_wp2_with fail
  refine (C4.out _).mono ?_
  rintro e w3 ⟨rfl, hb3⟩
  have R3 := Lib.hid (R2.out.step hb3)
  clear hb3 c0 c1 c2 f0 f1 f2
  obtain ⟨c0, c1, c2, fz⟩ := R3.out.hi.cells
  have f0 := fz 0
  have f1 := fz 1
  have f2 := fz 2
  clear fz
  try unfold zs at c0
  try unfold zs at c1
  have R4 := Lib.hid (R3.out.put1 (.string Ft))
  obtain ⟨e0, e1, e2, ez⟩ := R4.out.hi.cells
  have g0 := ez 0
  have g1 := ez 1
  have g2 := ez 2
  clear ez
  go_wp2_with fail
  refine (C3.out _).mono ?_
  rintro e w5 ⟨rfl, hb5⟩
  have R5 := Lib.hid (R4.out.step hb5)
  clear hb5 c0 c1 c2 f0 f1 f2
  obtain ⟨c0, c1, c2, fz⟩ := R5.out.hi.cells
  have f0 := fz 0
  have f1 := fz 1
  have f2 := fz 2
  clear fz
  try unfold zs at c0
  try unfold zs at c1
  have HR := Lib.hid (R5.out.put2 (.int .i64 X))
  have HG := Lib.hid (show (w5.setCell ⟨w.heap.size + 1, 2, none⟩ (.int .i64 X)).heap[w.heap.size]? = some (.cells #[.string ⟨#[]⟩, .string ⟨#[]⟩, .int .i64 0] 64 (0, 0)) from HR.out.lo)
  have HB := Lib.hid HR.out.bw
  obtain ⟨d0, d1, d2, _⟩ := HR.out.hi.cells
  try unfold zs at d1
  go_wp2_with (first | (refine wpList_store_row rfl 64 _ _ rfl w.heap.size #[.string Wt, .string Ft, .int .i64 X] rfl rfl 64 #[.string ⟨#[]⟩, .string ⟨#[]⟩, .int .i64 0] HG.out (by first | kernel_rfl | rfl) rfl (by first | kernel_rfl | rfl) ?_))
  exact bodyPost_ret (results_cell_two rfl _ _ _ _ _ rfl (run_loadVar_row _ w.heap.size 64 64 _ (0, 0) _ (setRow_heap _ _ _ _ _ _ HG.out) Tryz.underlying64 rfl (by first | kernel_rfl | rfl))) rfl ⟨rfl, below_setRow' HB.out (Nat.le_refl _) _⟩
set_option maxRecDepth 100000 in
set_option maxHeartbeats 2000000 in
theorem tcutDecimal_b1_false (s : ByteArray) (w : World) (S1 S2 Bt Ft Rt : ByteArray) (X : Int) (m2 : Ft.toList.isEmpty = false)
   (C1 : Hid (∀ W, Ct 86 #[.string s, .int .i64 10] (.tuple #[.string ⟨#[]⟩, .string S1]) W))
   (C2 : Hid (∀ W, Cq 131 #[.string S1, .string ⟨#[46]⟩] (.tuple #[.string Bt, .bool true]) W))
   (C4 : Hid (∀ W, Ct 86 #[.string Bt, .int .i64 10] (.tuple #[.string Ft, .string S2]) W))
   (C3 : Hid (∀ W, Ct 132 #[.string S2] (.tuple #[.int .i64 X, .string Rt, .bool false]) W)) :
    Cp 68 #[.string s] w (fun e w' => e = .returned (.tuple #[.agg #[.string ⟨#[]⟩, .string Ft, .int .i64 0], .string S2, .bool true]) ∧ Below w.heap.size w w') := by
  have R0 := Lib.hid (Rd.start w)
  go_enter Tryz.func68, Tryz.ntmps68
  go_wp2_with fail
  refine (C1.out _).mono ?_
  rintro e w1 ⟨rfl, hb1⟩
  have R1 := Lib.hid (R0.out.step hb1)
  clear hb1
  obtain ⟨c0, c1, c2, fz⟩ := R1.out.hi.cells
  have f0 := fz 0
  have f1 := fz 1
  have f2 := fz 2
  clear fz
  try unfold zs at c0
  try unfold zs at c1
  go_wp2_with fail
  refine (C2.out _).mono ?_
  rintro e w2 ⟨rfl, rfl⟩
  have R2 := Lib.hid (R1.out.put0 (.string ⟨#[]⟩))
  generalize w1.setCell ⟨w.heap.size + 1, 0, none⟩ (.string ⟨#[]⟩) = w2 at *
  clear c0 c1 c2 f0 f1 f2
  obtain ⟨c0, c1, c2, fz⟩ := R2.out.hi.cells
  have f0 := fz 0
  have f1 := fz 1
  have f2 := fz 2
  clear fz
  try unfold zs at c0
  try unfold zs at c1
  go_wp2_with fail
  refine (C4.out _).mono ?_
  rintro e w3 ⟨rfl, hb3⟩
  have R3 := Lib.hid (R2.out.step hb3)
  clear hb3 c0 c1 c2 f0 f1 f2
  obtain ⟨c0, c1, c2, fz⟩ := R3.out.hi.cells
  have f0 := fz 0
  have f1 := fz 1
  have f2 := fz 2
  clear fz
  try unfold zs at c0
  try unfold zs at c1
  have R4 := Lib.hid (R3.out.put1 (.string Ft))
  obtain ⟨e0, e1, e2, ez⟩ := R4.out.hi.cells
  have g0 := ez 0
  have g1 := ez 1
  have g2 := ez 2
  clear ez
  go_wp2_with fail
  refine (C3.out _).mono ?_
  rintro e w5 ⟨rfl, hb5⟩
  have R5 := Lib.hid (R4.out.step hb5)
  clear hb5 c0 c1 c2 f0 f1 f2
  obtain ⟨c0, c1, c2, fz⟩ := R5.out.hi.cells
  have f0 := fz 0
  have f1 := fz 1
  have f2 := fz 2
  clear fz
  try unfold zs at c0
  try unfold zs at c1
  have HG := Lib.hid (show w5.heap[w.heap.size]? = some (.cells #[.string ⟨#[]⟩, .string ⟨#[]⟩, .int .i64 0] 64 (0, 0)) from R5.out.lo)
  have HB := Lib.hid R5.out.bw
  go_wp2_with (first | (refine wpList_store_row rfl 64 _ _ rfl w.heap.size #[.string ⟨#[]⟩, .string Ft, .int .i64 0] rfl rfl 64 #[.string ⟨#[]⟩, .string ⟨#[]⟩, .int .i64 0] HG.out (by first | kernel_rfl | rfl) rfl (by first | kernel_rfl | rfl) ?_))
  exact bodyPost_ret (results_cell_two rfl _ _ _ _ _ rfl (run_loadVar_row _ w.heap.size 64 64 _ (0, 0) _ (setRow_heap _ _ _ _ _ _ HG.out) Tryz.underlying64 rfl (by first | kernel_rfl | rfl))) rfl ⟨rfl, below_setRow' HB.out (Nat.le_refl _) _⟩
set_option maxRecDepth 100000 in
set_option maxHeartbeats 2000000 in
theorem tcutDecimal_b1_true (s : ByteArray) (w : World) (S1 S2 Bt Ft Rt : ByteArray) (X : Int) (m2 : Ft.toList.isEmpty = false)
   (C1 : Hid (∀ W, Ct 86 #[.string s, .int .i64 10] (.tuple #[.string ⟨#[]⟩, .string S1]) W))
   (C2 : Hid (∀ W, Cq 131 #[.string S1, .string ⟨#[46]⟩] (.tuple #[.string Bt, .bool true]) W))
   (C4 : Hid (∀ W, Ct 86 #[.string Bt, .int .i64 10] (.tuple #[.string Ft, .string S2]) W))
   (C3 : Hid (∀ W, Ct 132 #[.string S2] (.tuple #[.int .i64 X, .string Rt, .bool true]) W)) :
    Cp 68 #[.string s] w (fun e w' => e = .returned (.tuple #[.agg #[.string ⟨#[]⟩, .string Ft, .int .i64 X], .string Rt, .bool true]) ∧ Below w.heap.size w w') := by
  have R0 := Lib.hid (Rd.start w)
  go_enter Tryz.func68, Tryz.ntmps68
  go_wp2_with fail
  refine (C1.out _).mono ?_
  rintro e w1 ⟨rfl, hb1⟩
  have R1 := Lib.hid (R0.out.step hb1)
  clear hb1
  obtain ⟨c0, c1, c2, fz⟩ := R1.out.hi.cells
  have f0 := fz 0
  have f1 := fz 1
  have f2 := fz 2
  clear fz
  try unfold zs at c0
  try unfold zs at c1
  go_wp2_with fail
  refine (C2.out _).mono ?_
  rintro e w2 ⟨rfl, rfl⟩
  have R2 := Lib.hid (R1.out.put0 (.string ⟨#[]⟩))
  generalize w1.setCell ⟨w.heap.size + 1, 0, none⟩ (.string ⟨#[]⟩) = w2 at *
  clear c0 c1 c2 f0 f1 f2
  obtain ⟨c0, c1, c2, fz⟩ := R2.out.hi.cells
  have f0 := fz 0
  have f1 := fz 1
  have f2 := fz 2
  clear fz
  try unfold zs at c0
  try unfold zs at c1
  go_wp2_with fail
  refine (C4.out _).mono ?_
  rintro e w3 ⟨rfl, hb3⟩
  have R3 := Lib.hid (R2.out.step hb3)
  clear hb3 c0 c1 c2 f0 f1 f2
  obtain ⟨c0, c1, c2, fz⟩ := R3.out.hi.cells
  have f0 := fz 0
  have f1 := fz 1
  have f2 := fz 2
  clear fz
  try unfold zs at c0
  try unfold zs at c1
  have R4 := Lib.hid (R3.out.put1 (.string Ft))
  obtain ⟨e0, e1, e2, ez⟩ := R4.out.hi.cells
  have g0 := ez 0
  have g1 := ez 1
  have g2 := ez 2
  clear ez
  go_wp2_with fail
  refine (C3.out _).mono ?_
  rintro e w5 ⟨rfl, hb5⟩
  have R5 := Lib.hid (R4.out.step hb5)
  clear hb5 c0 c1 c2 f0 f1 f2
  obtain ⟨c0, c1, c2, fz⟩ := R5.out.hi.cells
  have f0 := fz 0
  have f1 := fz 1
  have f2 := fz 2
  clear fz
  try unfold zs at c0
  try unfold zs at c1
  have HR := Lib.hid (R5.out.put2 (.int .i64 X))
  have HG := Lib.hid (show (w5.setCell ⟨w.heap.size + 1, 2, none⟩ (.int .i64 X)).heap[w.heap.size]? = some (.cells #[.string ⟨#[]⟩, .string ⟨#[]⟩, .int .i64 0] 64 (0, 0)) from HR.out.lo)
  have HB := Lib.hid HR.out.bw
  obtain ⟨d0, d1, d2, _⟩ := HR.out.hi.cells
  try unfold zs at d1
  go_wp2_with (first | (refine wpList_store_row rfl 64 _ _ rfl w.heap.size #[.string ⟨#[]⟩, .string Ft, .int .i64 X] rfl rfl 64 #[.string ⟨#[]⟩, .string ⟨#[]⟩, .int .i64 0] HG.out (by first | kernel_rfl | rfl) rfl (by first | kernel_rfl | rfl) ?_))
  exact bodyPost_ret (results_cell_two rfl _ _ _ _ _ rfl (run_loadVar_row _ w.heap.size 64 64 _ (0, 0) _ (setRow_heap _ _ _ _ _ _ HG.out) Tryz.underlying64 rfl (by first | kernel_rfl | rfl))) rfl ⟨rfl, below_setRow' HB.out (Nat.le_refl _) _⟩
set_option maxRecDepth 100000 in
set_option maxHeartbeats 2000000 in
theorem tcutDecimal_dot (s : ByteArray) (w : World) (S1 S2 Bt : ByteArray)
   (C1 : Hid (∀ W, Ct 86 #[.string s, .int .i64 10] (.tuple #[.string ⟨#[]⟩, .string S1]) W))
   (C2 : Hid (∀ W, Cq 131 #[.string S1, .string ⟨#[46]⟩] (.tuple #[.string Bt, .bool true]) W))
   (C4 : Hid (∀ W, Ct 86 #[.string Bt, .int .i64 10] (.tuple #[.string ⟨#[]⟩, .string S2]) W)) :
    Cp 68 #[.string s] w (fun e w' => e = .returned (.tuple #[.agg #[.string ⟨#[]⟩, .string ⟨#[]⟩, .int .i64 0], .string ⟨#[]⟩, .bool false]) ∧ Below w.heap.size w w') := by
  have R0 := Lib.hid (Rd.start w)
  go_enter Tryz.func68, Tryz.ntmps68
  go_wp2_with fail
  refine (C1.out _).mono ?_
  rintro e w1 ⟨rfl, hb1⟩
  have R1 := Lib.hid (R0.out.step hb1)
  clear hb1
  obtain ⟨c0, c1, c2, fz⟩ := R1.out.hi.cells
  have f0 := fz 0
  have f1 := fz 1
  have f2 := fz 2
  clear fz
  try unfold zs at c0
  try unfold zs at c1
  go_wp2_with fail
  refine (C2.out _).mono ?_
  rintro e w2 ⟨rfl, rfl⟩
  have R2 := Lib.hid (R1.out.put0 (.string ⟨#[]⟩))
  generalize w1.setCell ⟨w.heap.size + 1, 0, none⟩ (.string ⟨#[]⟩) = w2 at *
  clear c0 c1 c2 f0 f1 f2
  obtain ⟨c0, c1, c2, fz⟩ := R2.out.hi.cells
  have f0 := fz 0
  have f1 := fz 1
  have f2 := fz 2
  clear fz
  try unfold zs at c0
  try unfold zs at c1
  go_wp2_with fail
  refine (C4.out _).mono ?_
  rintro e w3 ⟨rfl, hb3⟩
  have R3 := Lib.hid (R2.out.step hb3)
  clear hb3 c0 c1 c2 f0 f1 f2
  obtain ⟨c0, c1, c2, fz⟩ := R3.out.hi.cells
  have f0 := fz 0
  have f1 := fz 1
  have f2 := fz 2
  clear fz
  try unfold zs at c0
  try unfold zs at c1
  have HG := Lib.hid (show w3.heap[w.heap.size]? = some (.cells #[.string ⟨#[]⟩, .string ⟨#[]⟩, .int .i64 0] 64 (0, 0)) from R3.out.lo)
  have HB := Lib.hid R3.out.bw
  go_wp2_with (first | (refine wpList_store_row rfl 64 _ _ rfl w.heap.size #[.string ⟨#[]⟩, .string ⟨#[]⟩, .int .i64 0] rfl rfl 64 #[.string ⟨#[]⟩, .string ⟨#[]⟩, .int .i64 0] HG.out (by first | kernel_rfl | rfl) rfl (by first | kernel_rfl | rfl) ?_))
  exact bodyPost_ret (results_cell_two rfl _ _ _ _ _ rfl (run_loadVar_row _ w.heap.size 64 64 _ (0, 0) _ (setRow_heap _ _ _ _ _ _ HG.out) Tryz.underlying64 rfl (by first | kernel_rfl | rfl))) rfl ⟨rfl, below_setRow' HB.out (Nat.le_refl _) _⟩

end Go.Proofs.YtfcpkdafkmohkaaGreatDoor
namespace Go.Proofs.YtfcpkdafkmohkaaGreatDoor
open Go.RowKit
theorem expq_no {l : List Nat} {w w' : World} {e : Ending} (h : ExpQ l w e w') (hb : expB l = false) : e = .returned (.tuple #[.int .i64 0, .string ⟨#[]⟩, .bool false]) ∧ Below w.heap.size w w' := by
 obtain ⟨h1, h2⟩ := h
 refine ⟨?_, h2⟩
 rw [h1]
 unfold exV
 rw [hb, if_neg (by simp), if_neg (by simp)]
 rfl
theorem expq_yes {l : List Nat} {w w' : World} {e : Ending} (h : ExpQ l w e w') (hb : expB l = true) : e = .returned (.tuple #[.int .i64 (expV l), .string (strOf (expR l)), .bool true]) ∧ Below w.heap.size w w' := by
 obtain ⟨h1, h2⟩ := h
 refine ⟨?_, h2⟩
 rw [h1]
 unfold exV
 rw [hb, if_pos rfl, if_pos rfl]
def DecQ (l : List Nat) (w : World) (e : Ending) (w' : World) : Prop :=
 e = .returned (.tuple #[.agg #[.string (strOf (dW l)), .string (strOf (dF l)), .int .i64 (dX l)], .string (strOf (dR l)), .bool true]) ∧ Below w.heap.size w w'
theorem tcutDecimal_yes (s : ByteArray) (w : World) (hs : s.size ≤ 4611686018427387903) (h : dB (bl s) = true) : Cp 68 #[.string s] w (DecQ (bl s) w) := by
 obtain ⟨l, hl⟩ : ∃ l, bl s = l := ⟨_, rfl⟩
 have hlt := bl_lt s
 have hlen := bl_size s
 rw [hl] at h hlt hlen ⊢
 have hA : ∀ c ∈ aft10 l, c < 256 := fun c hc => hlt c (aft_sub c hc)
 have hAl := run_len l
 have C1 := fun W => tcutDigits_any s 10 W (by omega) hs
 rw [hl, ldq_dg] at C1
 have C2 := fun W => cut_one (strOf (aft10 l)) 46 W
 rw [bl_strOf hA] at C2
 have e2 : ((aft10 l).head? == some (46 : UInt8).toNat) = dotB (aft10 l) := rfl
 rw [e2] at C2
 have key : ∀ T : List Nat, (∀ c ∈ T, c < 256) → T.length ≤ 4611686018427387903 → ∀ W, Cp 132 #[.string (strOf T)] W (ExpQ T W) := by
  intro T h1 h2 W
  have := tcutExponent_any (strOf T) W (by rw [strOf_size]; exact h2)
  rw [bl_strOf h1] at this
  exact this
 have ne : ∀ R : List Nat, R ≠ [] → (strOf R).toList.isEmpty = false := fun R hR => (str_ne hR).2
 cases hd : dotB (aft10 l)
 ·rw [hd] at C2
  have hF : dF l = [] := by unfold dF; rw [hd, if_neg (by simp)]
  have hT : dT l = aft10 l := by unfold dT; rw [hd, if_neg (by simp)]
  have hW : dW l ≠ [] := by
   intro e
   unfold dB at h
   rw [hF, e] at h
   simp at h
  have C3 := key (aft10 l) hA (by omega)
  unfold DecQ
  have hX : dX l = exV (aft10 l) := by unfold dX; rw [hT]
  have hR : dR l = exR (aft10 l) := by unfold dR; rw [hT]
  rw [hF, hX, hR]
  unfold exV exR
  cases hb : expB (aft10 l)
  ·rw [if_neg (by simp), if_neg (by simp)]
   exact tcutDecimal_a_false s w _ _ _ _ 0 (ne _ hW) (Lib.hid C1) (Lib.hid C2) (Lib.hid (fun W => (C3 W).mono fun e w' x => expq_no x hb))
  ·rw [if_pos rfl, if_pos rfl]
   exact tcutDecimal_a_true s w _ _ _ _ _ (ne _ hW) (Lib.hid C1) (Lib.hid C2) (Lib.hid (fun W => (C3 W).mono fun e w' x => expq_yes x hb))
 ·rw [hd] at C2
  have hh : (aft10 l).head? = some (46 : UInt8).toNat := beq_iff_eq.1 hd
  rw [if_pos hh] at C2
  have hF : dF l = run10 (aft10 l).tail := by unfold dF; rw [hd, if_pos rfl]
  have hT : dT l = aft10 (aft10 l).tail := by unfold dT; rw [hd, if_pos rfl]
  have hA2 : ∀ c ∈ (aft10 l).tail, c < 256 := fun c hc => hA c (tail_sub c hc)
  have hl2 : (aft10 l).tail.length ≤ 4611686018427387903 := by rw [List.length_tail]; omega
  have C4 := fun W => cut_ten (aft10 l).tail W hA2 hl2
  have hl3 := run_len (aft10 l).tail
  have C3 := key (aft10 (aft10 l).tail) (fun c hc => hA2 c (aft_sub c hc)) (by omega)
  unfold DecQ
  have hX : dX l = exV (aft10 (aft10 l).tail) := by unfold dX; rw [hT]
  have hR : dR l = exR (aft10 (aft10 l).tail) := by unfold dR; rw [hT]
  rw [hF, hX, hR]
  unfold exV exR
  by_cases hW : run10 l = []
  ·have hF2 : run10 (aft10 l).tail ≠ [] := by
    intro e
    unfold dB dW at h
    rw [hF, e, hW] at h
    simp at h
   have C1 : ∀ W, Ct 86 #[.string s, .int .i64 10] (.tuple #[.string ⟨#[]⟩, .string (strOf (aft10 l))]) W := by
    have C1' : ∀ W, Ct 86 #[.string s, .int .i64 10] (.tuple #[.string (strOf (run10 l)), .string (strOf (aft10 l))]) W := C1
    rw [hW] at C1'
    exact C1'
   unfold dW
   rw [hW]
   cases hb : expB (aft10 (aft10 l).tail)
   ·rw [if_neg (by simp), if_neg (by simp)]
    exact tcutDecimal_b1_false s w _ _ _ _ ⟨#[]⟩ 0 (ne _ hF2) (Lib.hid C1) (Lib.hid C2) (Lib.hid C4) (Lib.hid (fun W => (C3 W).mono fun e w' x => expq_no x hb))
   ·rw [if_pos rfl, if_pos rfl]
    exact tcutDecimal_b1_true s w _ _ _ _ _ _ (ne _ hF2) (Lib.hid C1) (Lib.hid C2) (Lib.hid C4) (Lib.hid (fun W => (C3 W).mono fun e w' x => expq_yes x hb))
  ·cases hb : expB (aft10 (aft10 l).tail)
   ·rw [if_neg (by simp), if_neg (by simp)]
    exact tcutDecimal_b0_false s w _ _ _ _ _ ⟨#[]⟩ 0 (ne _ hW) (Lib.hid C1) (Lib.hid C2) (Lib.hid C4) (Lib.hid (fun W => (C3 W).mono fun e w' x => expq_no x hb))
   ·rw [if_pos rfl, if_pos rfl]
    exact tcutDecimal_b0_true s w _ _ _ _ _ _ _ (ne _ hW) (Lib.hid C1) (Lib.hid C2) (Lib.hid C4) (Lib.hid (fun W => (C3 W).mono fun e w' x => expq_yes x hb))
theorem tcutDecimal_no (s : ByteArray) (w : World) (hs : s.size ≤ 4611686018427387903) (h : dB (bl s) = false) :
  Cp 68 #[.string s] w (fun e w' => e = .returned (.tuple #[.agg #[.string ⟨#[]⟩, .string ⟨#[]⟩, .int .i64 0], .string ⟨#[]⟩, .bool false]) ∧ Below w.heap.size w w') := by
 obtain ⟨l, hl⟩ : ∃ l, bl s = l := ⟨_, rfl⟩
 have hlt := bl_lt s
 have hlen := bl_size s
 rw [hl] at h hlt hlen
 have hA : ∀ c ∈ aft10 l, c < 256 := fun c hc => hlt c (aft_sub c hc)
 have hAl := run_len l
 have C1 : ∀ W, Ct 86 #[.string s, .int .i64 10] (.tuple #[.string (strOf (run10 l)), .string (strOf (aft10 l))]) W := by
  intro W
  have := tcutDigits_any s 10 W (by omega) hs
  rw [hl, ldq_dg] at this
  exact this
 have C2 := fun W => cut_one (strOf (aft10 l)) 46 W
 rw [bl_strOf hA] at C2
 have e2 : ((aft10 l).head? == some (46 : UInt8).toNat) = dotB (aft10 l) := rfl
 rw [e2] at C2
 unfold dB dW at h
 have hW : run10 l = [] := by
  cases hr : run10 l with
  | nil => rfl
  | cons => rw [hr] at h; simp at h
 have hF : dF l = [] := by
  cases hr : dF l with
  | nil => rfl
  | cons => rw [hr, hW] at h; simp at h
 rw [hW] at C1
 cases hd : dotB (aft10 l)
 ·rw [hd] at C2
  have hne : ¬ (aft10 l).head? = some (46 : UInt8).toNat := by
   intro e
   unfold dotB at hd
   rw [e] at hd
   simp at hd
  rw [if_neg hne] at C2
  exact tcutDecimal_none s w _ (Lib.hid C1) (Lib.hid C2)
 ·rw [hd] at C2
  have hh : (aft10 l).head? = some (46 : UInt8).toNat := beq_iff_eq.1 hd
  rw [if_pos hh] at C2
  have hA2 : ∀ c ∈ (aft10 l).tail, c < 256 := fun c hc => hA c (tail_sub c hc)
  have hl2 : (aft10 l).tail.length ≤ 4611686018427387903 := by rw [List.length_tail]; omega
  have C4 := fun W => cut_ten (aft10 l).tail W hA2 hl2
  have hF2 : run10 (aft10 l).tail = [] := by
   unfold dF at hF
   rw [hd, if_pos rfl] at hF
   exact hF
  rw [hF2] at C4
  exact tcutDecimal_dot s w _ _ _ (Lib.hid C1) (Lib.hid C2) (Lib.hid C4)

end Go.Proofs.YtfcpkdafkmohkaaGreatDoor
namespace Go.Proofs.YtfcpkdafkmohkaaGreatDoor
open Go.RowKit
theorem trimL48 (s : ByteArray) (w : World) : Ct 133 #[.string s, .string ⟨#[48]⟩] (.string (strOf (ldz (bl s)))) w := by
 have h := Tryz.strings_TrimLeft_laid s ⟨#[48]⟩ w (by decide) (fun j b hb => by
  have h1 : b ∈ ([48] : List UInt8) := List.mem_of_getElem? hb
  simp at h1
  rw [h1]
  decide)
 rw [show (⟨#[48]⟩ : ByteArray).data.toList = [48] from rfl, tl_48] at h
 exact h
theorem trimR48 (s : ByteArray) (w : World) (hs : s.size ≤ 9223372036854775807) : Ct 113 #[.string s, .string ⟨#[48]⟩] (.string (strOf (trz (bl s)))) w := by
 have h := Tryz.strings_TrimRight_laid s ⟨#[48]⟩ w hs (by decide) (fun j b hb => by
  have h1 : b ∈ ([48] : List UInt8) := List.mem_of_getElem? hb
  simp at h1
  rw [h1]
  decide)
 rw [show (⟨#[48]⟩ : ByteArray).data.toList = [48] from rfl, tr_48] at h
 exact h
theorem btn_bl (s : ByteArray) (i : Nat) (h : i < s.size) : btn s i = (bl s).getD i 0 := by
 rw [List.getD_eq_getElem?_getD, bl_get s i h]
 exact (btn_eq s i h).symm
theorem sv_num (r : Nat) (s : ByteArray) : sv r s = num r (bl s) := by
 unfold sv num
 rw [bl_size]
 exact pv_congr (fun i hi => by rw [btn_bl s i hi])
theorem adB_all {r : Nat} {s : ByteArray} (h0 : bl s ≠ []) (h : ∀ c ∈ bl s, dgt c < r) : adB r s = true := by
 rw [adB_yes (fun i hi => by
  rw [btn_bl s i hi, List.getD_eq_getElem?_getD, List.getElem?_eq_getElem (by rw [bl_size]; exact hi)]
  exact h _ (List.getElem_mem _))]
 have : 0 < (bl s).length := List.length_pos_iff.2 h0
 rw [bl_size] at this
 exact decide_eq_true this
set_option maxRecDepth 100000 in
set_option maxHeartbeats 1000000 in
theorem tfloat_none (s1 s2 g h : ByteArray) (X y P : Int) (w : World) (hs1 : s1.size + s2.size ≤ 4611686018427387903)
  (C1 : Hid (∀ W, Ct 133 #[.string (s1 ++ s2), .string ⟨#[48]⟩] (.string g) W))
  (C2 : Hid (∀ W, Ct 113 #[.string g, .string ⟨#[48]⟩] (.string h) W))
  (k1 : IntKind.i64.wrap ((g.size : Int) - (s2.size : Int)) = y) (k2 : IntKind.i64.wrap (y + X) = P)
  (t1 : h.toList.isEmpty = true) :
  Ct 69 #[.agg #[.string s1, .string s2, .int .i64 X]] (.float .f64 0) w := by
 have hs2 : ¬ 9223372036854775807 < s1.size + s2.size := by omega
 have R0 := Lib.hid (show Rc (w.alloc (.cells #[.string s1, .string s2, .int .i64 X] 64)) w.heap.size (.string s1) (.string s2) (.int .i64 X) from heap_alloc_last w _)
 have B0 := Lib.hid (show Below w.heap.size w (w.alloc (.cells #[.string s1, .string s2, .int .i64 X] 64)) from (Below.refl _ _).alloc (Nat.le_refl _) _)
 have S0 := Lib.hid (show w.heap.size < (w.alloc (.cells #[.string s1, .string s2, .int .i64 X] 64)).heap.size by simp)
 clear hs1
 go_enter Tryz.func69, Tryz.ntmps69
 go_wp2_with fail
 refine (C1.out _).mono ?_
 rintro e w1 ⟨rfl, b1⟩
 have R1 := Lib.hid (R0.out.below b1 S0.out)
 have B1 := Lib.hid (below_le B0.out b1)
 clear b1
 obtain ⟨c0, c1, c2, _⟩ := R1.out.cells
 go_wp2_with fail
 refine (C2.out _).mono ?_
 rintro e w2 ⟨rfl, b2⟩
 have B2 := Lib.hid (below_le B1.out b2)
 clear b2
 go_wp2
 go_ret
 exact ⟨rfl, B2.out⟩
set_option maxRecDepth 100000 in
set_option maxHeartbeats 1000000 in
theorem tfloat_low (s1 s2 g h : ByteArray) (X y P : Int) (w : World) (hs1 : s1.size + s2.size ≤ 4611686018427387903)
  (C1 : Hid (∀ W, Ct 133 #[.string (s1 ++ s2), .string ⟨#[48]⟩] (.string g) W))
  (C2 : Hid (∀ W, Ct 113 #[.string g, .string ⟨#[48]⟩] (.string h) W))
  (k1 : IntKind.i64.wrap ((g.size : Int) - (s2.size : Int)) = y) (k2 : IntKind.i64.wrap (y + X) = P)
  (t1 : h.toList.isEmpty = false) (t2 : decide (P < -323) = true) :
  Ct 69 #[.agg #[.string s1, .string s2, .int .i64 X]] (.float .f64 0) w := by
 have hs2 : ¬ 9223372036854775807 < s1.size + s2.size := by omega
 have R0 := Lib.hid (show Rc (w.alloc (.cells #[.string s1, .string s2, .int .i64 X] 64)) w.heap.size (.string s1) (.string s2) (.int .i64 X) from heap_alloc_last w _)
 have B0 := Lib.hid (show Below w.heap.size w (w.alloc (.cells #[.string s1, .string s2, .int .i64 X] 64)) from (Below.refl _ _).alloc (Nat.le_refl _) _)
 have S0 := Lib.hid (show w.heap.size < (w.alloc (.cells #[.string s1, .string s2, .int .i64 X] 64)).heap.size by simp)
 clear hs1
 go_enter Tryz.func69, Tryz.ntmps69
 go_wp2_with fail
 refine (C1.out _).mono ?_
 rintro e w1 ⟨rfl, b1⟩
 have R1 := Lib.hid (R0.out.below b1 S0.out)
 have B1 := Lib.hid (below_le B0.out b1)
 clear b1
 obtain ⟨c0, c1, c2, _⟩ := R1.out.cells
 go_wp2_with fail
 refine (C2.out _).mono ?_
 rintro e w2 ⟨rfl, b2⟩
 have B2 := Lib.hid (below_le B1.out b2)
 clear b2
 go_wp2
 go_ret
 exact ⟨rfl, B2.out⟩
set_option maxRecDepth 100000 in
set_option maxHeartbeats 1000000 in
theorem tfloat_high (s1 s2 g h : ByteArray) (X y P : Int) (w : World) (hs1 : s1.size + s2.size ≤ 4611686018427387903)
  (C1 : Hid (∀ W, Ct 133 #[.string (s1 ++ s2), .string ⟨#[48]⟩] (.string g) W))
  (C2 : Hid (∀ W, Ct 113 #[.string g, .string ⟨#[48]⟩] (.string h) W))
  (k1 : IntKind.i64.wrap ((g.size : Int) - (s2.size : Int)) = y) (k2 : IntKind.i64.wrap (y + X) = P)
  (t1 : h.toList.isEmpty = false) (t2 : decide (P < -323) = false) (t3 : decide (309 < P) = true) :
  Ct 69 #[.agg #[.string s1, .string s2, .int .i64 X]] (.float .f64 9218868437227405312) w := by
 have hs2 : ¬ 9223372036854775807 < s1.size + s2.size := by omega
 have R0 := Lib.hid (show Rc (w.alloc (.cells #[.string s1, .string s2, .int .i64 X] 64)) w.heap.size (.string s1) (.string s2) (.int .i64 X) from heap_alloc_last w _)
 have B0 := Lib.hid (show Below w.heap.size w (w.alloc (.cells #[.string s1, .string s2, .int .i64 X] 64)) from (Below.refl _ _).alloc (Nat.le_refl _) _)
 have S0 := Lib.hid (show w.heap.size < (w.alloc (.cells #[.string s1, .string s2, .int .i64 X] 64)).heap.size by simp)
 clear hs1
 go_enter Tryz.func69, Tryz.ntmps69
 go_wp2_with fail
 refine (C1.out _).mono ?_
 rintro e w1 ⟨rfl, b1⟩
 have R1 := Lib.hid (R0.out.below b1 S0.out)
 have B1 := Lib.hid (below_le B0.out b1)
 clear b1
 obtain ⟨c0, c1, c2, _⟩ := R1.out.cells
 go_wp2_with fail
 refine (C2.out _).mono ?_
 rintro e w2 ⟨rfl, b2⟩
 have B2 := Lib.hid (below_le B1.out b2)
 clear b2
 have C3 := Lib.hid (fun W => inf1_any W)
 go_wp2_with fail
 refine (C3.out _).mono ?_
 rintro e w' ⟨rfl, rfl⟩
 go_wp2
 go_ret
 exact ⟨rfl, B2.out⟩
set_option maxRecDepth 100000 in
set_option maxHeartbeats 1000000 in
theorem tfloat_short (s1 s2 g h : ByteArray) (X y P : Int) (Z : Int) (m F : Nat) (w : World) (hs1 : s1.size + s2.size ≤ 4611686018427387903)
  (C1 : Hid (∀ W, Ct 133 #[.string (s1 ++ s2), .string ⟨#[48]⟩] (.string g) W))
  (C2 : Hid (∀ W, Ct 113 #[.string g, .string ⟨#[48]⟩] (.string h) W))
  (k1 : IntKind.i64.wrap ((g.size : Int) - (s2.size : Int)) = y) (k2 : IntKind.i64.wrap (y + X) = P)
  (t1 : h.toList.isEmpty = false) (t2 : decide (P < -323) = false) (t3 : decide (309 < P) = false) (t4 : decide (800 < (h.size : Int)) = false)
  (k3 : IntKind.i64.wrap (P - (h.size : Int)) = Z)
  (C3 : Hid (∀ W, Cp 134 #[.string h, .int .i64 10] W (NOk m W)))
  (C4 : Hid (∀ W A n c, NV W A n c m → Ct 135 #[.slice A n c, .int .i64 Z] (.float .f64 F) W)) :
  Ct 69 #[.agg #[.string s1, .string s2, .int .i64 X]] (.float .f64 F) w := by
 have hs2 : ¬ 9223372036854775807 < s1.size + s2.size := by omega
 have R0 := Lib.hid (show Rc (w.alloc (.cells #[.string s1, .string s2, .int .i64 X] 64)) w.heap.size (.string s1) (.string s2) (.int .i64 X) from heap_alloc_last w _)
 have B0 := Lib.hid (show Below w.heap.size w (w.alloc (.cells #[.string s1, .string s2, .int .i64 X] 64)) from (Below.refl _ _).alloc (Nat.le_refl _) _)
 have S0 := Lib.hid (show w.heap.size < (w.alloc (.cells #[.string s1, .string s2, .int .i64 X] 64)).heap.size by simp)
 clear hs1
 go_enter Tryz.func69, Tryz.ntmps69
 go_wp2_with fail
 refine (C1.out _).mono ?_
 rintro e w1 ⟨rfl, b1⟩
 have R1 := Lib.hid (R0.out.below b1 S0.out)
 have B1 := Lib.hid (below_le B0.out b1)
 clear b1
 obtain ⟨c0, c1, c2, _⟩ := R1.out.cells
 go_wp2_with fail
 refine (C2.out _).mono ?_
 rintro e w2 ⟨rfl, b2⟩
 have B2 := Lib.hid (below_le B1.out b2)
 clear b2
 go_wp2_with fail
 refine (C3.out _).mono ?_
 rintro e w3 ⟨A, n, c, rfl, g3, b3⟩
 have G3 := Lib.hid g3
 have B3 := Lib.hid (below_le B2.out b3)
 clear g3 b3
 go_wp2_with fail
 refine (C4.out _ _ _ _ G3.out).mono ?_
 rintro e w4 ⟨rfl, b4⟩
 have B4 := Lib.hid (below_le B3.out b4)
 clear b4
 go_wp2
 go_ret
 exact ⟨rfl, B4.out⟩
set_option maxRecDepth 100000 in
set_option maxHeartbeats 1000000 in
theorem tfloat_long (s1 s2 g h : ByteArray) (X y P : Int) (Z : Int) (m F : Nat) (w : World) (hs1 : s1.size + s2.size ≤ 4611686018427387903)
  (C1 : Hid (∀ W, Ct 133 #[.string (s1 ++ s2), .string ⟨#[48]⟩] (.string g) W))
  (C2 : Hid (∀ W, Ct 113 #[.string g, .string ⟨#[48]⟩] (.string h) W))
  (k1 : IntKind.i64.wrap ((g.size : Int) - (s2.size : Int)) = y) (k2 : IntKind.i64.wrap (y + X) = P)
  (t1 : h.toList.isEmpty = false) (t2 : decide (P < -323) = false) (t3 : decide (309 < P) = false) (t4 : decide (800 < (h.size : Int)) = true) (t5 : (800 : Int) ≤ (h.size : Int)) (t6 : (h.extract 0 800).size = 800)
  (k3 : IntKind.i64.wrap (P - 801) = Z)
  (C3 : Hid (∀ W, Cp 134 #[.string (h.extract 0 800 ++ ⟨#[49]⟩), .int .i64 10] W (NOk m W)))
  (C4 : Hid (∀ W A n c, NV W A n c m → Ct 135 #[.slice A n c, .int .i64 Z] (.float .f64 F) W)) :
  Ct 69 #[.agg #[.string s1, .string s2, .int .i64 X]] (.float .f64 F) w := by
 have hs2 : ¬ 9223372036854775807 < s1.size + s2.size := by omega
 have R0 := Lib.hid (show Rc (w.alloc (.cells #[.string s1, .string s2, .int .i64 X] 64)) w.heap.size (.string s1) (.string s2) (.int .i64 X) from heap_alloc_last w _)
 have B0 := Lib.hid (show Below w.heap.size w (w.alloc (.cells #[.string s1, .string s2, .int .i64 X] 64)) from (Below.refl _ _).alloc (Nat.le_refl _) _)
 have S0 := Lib.hid (show w.heap.size < (w.alloc (.cells #[.string s1, .string s2, .int .i64 X] 64)).heap.size by simp)
 clear hs1
 go_enter Tryz.func69, Tryz.ntmps69
 go_wp2_with fail
 refine (C1.out _).mono ?_
 rintro e w1 ⟨rfl, b1⟩
 have R1 := Lib.hid (R0.out.below b1 S0.out)
 have B1 := Lib.hid (below_le B0.out b1)
 clear b1
 obtain ⟨c0, c1, c2, _⟩ := R1.out.cells
 go_wp2_with fail
 refine (C2.out _).mono ?_
 rintro e w2 ⟨rfl, b2⟩
 have B2 := Lib.hid (below_le B1.out b2)
 clear b2
 go_wp2_with fail
 refine (C3.out _).mono ?_
 rintro e w3 ⟨A, n, c, rfl, g3, b3⟩
 have G3 := Lib.hid g3
 have B3 := Lib.hid (below_le B2.out b3)
 clear g3 b3
 go_wp2_with fail
 refine (C4.out _ _ _ _ G3.out).mono ?_
 rintro e w4 ⟨rfl, b4⟩
 have B4 := Lib.hid (below_le B3.out b4)
 clear b4
 go_wp2
 go_ret
 exact ⟨rfl, B4.out⟩

end Go.Proofs.YtfcpkdafkmohkaaGreatDoor
namespace Go.Proofs.YtfcpkdafkmohkaaGreatDoor
open Go.RowKit
theorem dg_byte {l : List Nat} (h : ∀ c ∈ l, dg10 c = true) : ∀ c ∈ l, c < 256 := fun c hc => by
 have := dg10_iff.1 (h c hc)
 omega
theorem parse_dec (l : List Nat) (w : World) (hd : ∀ c ∈ l, dg10 c = true) (h0 : l ≠ []) (hl : l.length ≤ 801) : Cp 134 #[.string (strOf l), .int .i64 10] w (NOk (num 10 l) w) := by
 have hb := bl_strOf (dg_byte hd)
 have h := parse_ok (strOf l) 10 w (by rw [strOf_size]; omega) (by omega) (by omega) (adB_all (by rw [hb]; exact h0) (by rw [hb]; exact fun c hc => (dgt_ten (hd c hc)).2))
 rw [sv_num, hb] at h
 refine h.mono fun e w' x => NOk.of (lng_bln ?_) x
 have h1 := num_hi hd
 have h2 := bln_mono (Nat.le_of_lt h1)
 have h3 := bln_ten l.length
 omega
theorem bln_dec {l : List Nat} (hd : ∀ c ∈ l, dg10 c = true) (hl : l.length ≤ 801) : bln (num 10 l) ≤ 3300 := by
 have h2 := bln_mono (Nat.le_of_lt (num_hi hd))
 have h3 := bln_ten l.length
 omega
theorem tfloat_any (W F : List Nat) (X : Int) (w : World) (hW : ∀ c ∈ W, dg10 c = true) (hF : ∀ c ∈ F, dg10 c = true) (hs : W.length + F.length ≤ 4611686018427387903) (hX : -10995116277760 < X ∧ X < 10995116277760) :
  Ct 69 #[.agg #[.string (strOf W), .string (strOf F), .int .i64 X]] (.float .f64 (decR (num 10 (W ++ F)) (X - F.length))) w := by
 obtain ⟨f, hf⟩ : ∃ f, W ++ F = f := ⟨_, rfl⟩
 have hd : ∀ c ∈ f, dg10 c = true := by
  intro c hc
  rw [← hf] at hc
  rcases List.mem_append.1 hc with h | h
  ·exact hW c h
  ·exact hF c h
 have hfl : f.length = W.length + F.length := by rw [← hf, List.length_append]
 rw [hf]
 have hg : ∀ c ∈ ldz f, dg10 c = true := fun c hc => hd c (ldz_mem hc)
 have hh : ∀ c ∈ trz (ldz f), dg10 c = true := fun c hc => hg c (trz_mem hc)
 have hgl : (ldz f).length ≤ f.length := (List.dropWhile_sublist _).length_le
 have htl := trz_len (ldz f)
 have hcat : strOf W ++ strOf F = strOf f := by rw [strOf_append, hf]
 have C1 : Hid (∀ V, Ct 133 #[.string (strOf W ++ strOf F), .string ⟨#[48]⟩] (.string (strOf (ldz f))) V) := Lib.hid (fun V => by
  have := trimL48 (strOf f) V
  rw [bl_strOf (dg_byte hd)] at this
  rw [hcat]
  exact this)
 have C2 : Hid (∀ V, Ct 113 #[.string (strOf (ldz f)), .string ⟨#[48]⟩] (.string (strOf (trz (ldz f)))) V) := Lib.hid (fun V => by
  have := trimR48 (strOf (ldz f)) V (by rw [strOf_size]; omega)
  rw [bl_strOf (dg_byte hg)] at this
  exact this)
 have z1 := strOf_size (ldz f)
 have z2 := strOf_size F
 have z3 := strOf_size (trz (ldz f))
 have z4 := strOf_size W
 obtain ⟨P, hP⟩ : ∃ P, ((ldz f).length : Int) + (X - F.length) = P := ⟨_, rfl⟩
 have k1 : IntKind.i64.wrap (((strOf (ldz f)).size : Int) - ((strOf F).size : Int)) = ((ldz f).length : Int) - F.length := by rw [z1, z2]; exact IntWalk.i64_in _ (by omega)
 have k2 : IntKind.i64.wrap (((ldz f).length : Int) - F.length + X) = P := by rw [IntWalk.i64_in _ (by omega)]; omega
 by_cases h0 : trz (ldz f) = []
 ·rw [pway_none h0]
  exact tfloat_none _ _ _ _ X _ P w (by omega) C1 C2 k1 k2 (by rw [h0, Lib.toList_data]; rfl)
 ·have t1 := (str_ne h0).2
  by_cases h1 : P < -323
  ·rw [pway_low hd (by omega)]
   exact tfloat_low _ _ _ _ X _ P w (by omega) C1 C2 k1 k2 t1 (decide_eq_true h1)
  ·by_cases h2 : 309 < P
   ·rw [pway_high hd h0 (by omega)]
    exact tfloat_high _ _ _ _ X _ P w (by omega) C1 C2 k1 k2 t1 (decide_eq_false h1) (decide_eq_true h2)
   ·by_cases h3 : 800 < (trz (ldz f)).length
    ·rw [pway_long hd h3 (by omega), show ((ldz f).length : Int) + (X - F.length) - 801 = P - 801 by omega]
     obtain ⟨l, hl⟩ : ∃ l, (trz (ldz f)).take 800 ++ [49] = l := ⟨_, rfl⟩
     have ll : l.length = 801 := by rw [← hl, List.length_append, List.length_take]; simp; omega
     have ld : ∀ c ∈ l, dg10 c = true := by
      intro c hc
      rw [← hl] at hc
      rcases List.mem_append.1 hc with h | h
      ·exact hh c (List.mem_of_mem_take h)
      ·rw [List.mem_singleton.1 h]; rfl
     have lh : l.head? ≠ some 48 := by
      rw [← hl]
      have := trz_head (lead_head f)
      cases ht : trz (ldz f) with
      | nil => exact absurd ht h0
      | cons a b =>
       rw [show List.dropWhile (fun x => x == 48) f = ldz f from rfl, ht] at this
       exact this
     have l0 : l ≠ [] := fun e => by rw [e] at ll; simp at ll
     have lp : 0 < num 10 l := Nat.lt_of_lt_of_le (ten_pos _) (num_lo ld l0 lh)
     have hstr : (strOf (trz (ldz f))).extract 0 800 ++ (⟨#[49]⟩ : ByteArray) = strOf l := by
      rw [ext_take, bl_strOf (dg_byte hh), ← hl, ← strOf_append]
      rfl
     rw [hl]
     have t5 : (800 : Int) ≤ ((strOf (trz (ldz f))).size : Int) := by rw [z3]; omega
     have t4 : decide (800 < ((strOf (trz (ldz f))).size : Int)) = true := decide_eq_true (by rw [z3]; omega)
     have t6 : ((strOf (trz (ldz f))).extract 0 800).size = 800 := by
      rw [ext_take, bl_strOf (dg_byte hh), strOf_size, List.length_take]
      exact Nat.min_eq_left (by omega)
     have k3 : IntKind.i64.wrap (P - 801) = P - 801 := IntWalk.i64_in _ (by omega)
     have C3 : Hid (∀ V, Cp 134 #[.string ((strOf (trz (ldz f))).extract 0 800 ++ (⟨#[49]⟩ : ByteArray)), .int .i64 10] V (NOk (num 10 l) V)) := Lib.hid (fun V => by
      rw [hstr]
      exact parse_dec l V ld l0 (by omega))
     have C4 : Hid (∀ V A n c, NV V A n c (num 10 l) → Ct 135 #[.slice A n c, .int .i64 (P - 801)] (.float .f64 (decR (num 10 l) (P - 801))) V) := Lib.hid (fun V A n c h => tnearest_any (P - 801) h (bln_dec ld (by omega)) lp (by omega) (by omega))
     exact tfloat_long _ _ _ _ X _ P _ (num 10 l) _ w (by omega) C1 C2 k1 k2 t1 (decide_eq_false h1) (decide_eq_false h2) t4 t5 t6 k3 C3 C4
    ·rw [pway_short, show ((ldz f).length : Int) + (X - F.length) - (trz (ldz f)).length = P - (trz (ldz f)).length by omega]
     have lp : 0 < num 10 (trz (ldz f)) := Nat.lt_of_lt_of_le (ten_pos _) (num_lo hh h0 (trz_head (lead_head f)))
     have C3 : Hid (∀ V, Cp 134 #[.string (strOf (trz (ldz f))), .int .i64 10] V (NOk (num 10 (trz (ldz f))) V)) := Lib.hid (fun V => parse_dec _ V hh h0 (by omega))
     obtain ⟨Z, hZ⟩ : ∃ Z, P - ((trz (ldz f)).length : Int) = Z := ⟨_, rfl⟩
     rw [hZ]
     have C4 : Hid (∀ V A n c, NV V A n c (num 10 (trz (ldz f))) → Ct 135 #[.slice A n c, .int .i64 Z] (.float .f64 (decR (num 10 (trz (ldz f))) Z)) V) := Lib.hid (fun V A n c h => tnearest_any Z h (bln_dec hh (by omega)) lp (by omega) (by omega))
     have k3 : IntKind.i64.wrap (P - ((strOf (trz (ldz f))).size : Int)) = Z := by rw [z3, ← hZ]; exact IntWalk.i64_in _ (by omega)
     have t4 : decide (800 < ((strOf (trz (ldz f))).size : Int)) = false := decide_eq_false (by rw [z3]; omega)
     exact tfloat_short _ _ _ _ X _ P Z (num 10 (trz (ldz f))) _ w (by omega) C1 C2 k1 k2 t1 (decide_eq_false h1) (decide_eq_false h2) t4 k3 C3 C4
theorem tfloat_dec (l : List Nat) (w : World) (hs : l.length ≤ 4611686018427387903) :
  Ct 69 #[.agg #[.string (strOf (dW l)), .string (strOf (dF l)), .int .i64 (dX l)]] (.float .f64 (dV l)) w := by
 have h1 := run_len l
 have h2 : (dF l).length ≤ (aft10 l).length := by
  unfold dF
  split
  ·have := run_len (aft10 l).tail
   rw [List.length_tail] at this
   omega
  ·simp
 refine tfloat_any (dW l) (dF l) (dX l) w (run10_all l) ?_ (by unfold dW; omega) (exV_le _)
 intro c hc
 unfold dF at hc
 split at hc
 ·exact run10_all _ c hc
 ·simp at hc

end Go.Proofs.YtfcpkdafkmohkaaGreatDoor
namespace Go.Proofs.YtfcpkdafkmohkaaGreatDoor
open Go.RowKit
theorem fl_decR (N : Nat) : fl N = decR N 0 := by
 obtain ⟨K, hK, hd⟩ := decR_K
 rw [fl_near, near_rnd false (a := K) (b := 0) (by omega), hd, show (0 : Int).toNat = 0 from rfl, show (-(0 : Int)).toNat = 0 from rfl, Nat.pow_zero, Nat.mul_one, word_pos]
theorem decR_top {N : Nat} {D : Nat} (hD : D = 1024) (h : 2 ^ D ≤ N) : decR N 0 = 9218868437227405312 := by
 obtain ⟨K, hK, hd⟩ := decR_K
 rw [hd]
 refine rnd_top (ten_pos _) ?_
 obtain ⟨E, hE⟩ : ∃ E : Nat, E = 2046 := ⟨_, rfl⟩
 have e1 := fmag_make 4503599627370496 E (by omega) (by omega)
 rw [show E * 4503599627370496 + 4503599627370496 = 9218868437227405312 by omega] at e1
 rw [e1, show (0 : Int).toNat = 0 from rfl, show (-(0 : Int)).toNat = 0 from rfl, Nat.pow_zero, Nat.mul_one, Nat.mul_one]
 have h2 : 4503599627370496 * 2 ^ E = 2 ^ D * 2 ^ K := by
  rw [show (4503599627370496 : Nat) = 2 ^ 52 from rfl, ← Nat.pow_add, ← Nat.pow_add]
  exact congrArg (fun k => 2 ^ k) (show 52 + E = D + K by omega)
 rw [h2]
 exact Nat.mul_le_mul_right _ h
theorem dgt_zero {c : Nat} (h : dgt c = 0) : c = 48 := by
 unfold dgt at h
 split at h
 ·omega
 ·split at h
  ·omega
  ·split at h <;> omega
theorem num_lo_r {r : Nat} {g : List Nat} (h0 : g ≠ []) (hh : g.head? ≠ some 48) : r ^ (g.length - 1) ≤ num r g := by
 cases g with
 | nil => exact absurd rfl h0
 | cons c l =>
  have h1 : dgt c ≠ 0 := fun e => hh (by rw [dgt_zero e]; rfl)
  rw [num_cons]
  have h3 : 1 * r ^ l.length ≤ dgt c * r ^ l.length := Nat.mul_le_mul_right _ (by omega)
  simp only [List.length_cons, Nat.add_sub_cancel]
  omega
set_option maxRecDepth 100000 in
set_option maxHeartbeats 1000000 in
theorem twhole_top (s g : ByteArray) (r : Nat) (w : World)
  (C1 : Hid (∀ W, Ct 133 #[.string s, .string ⟨#[48]⟩] (.string g) W)) (t1 : decide (1024 < (g.size : Int)) = true) :
  Ct 89 #[.string s, .int .i64 r] (.float .f64 9218868437227405312) w := by
 have C2 := Lib.hid (fun W => inf1_any W)
 go_enter Tryz.func89, Tryz.ntmps89
 go_wp2_with fail
 refine (C1.out _).mono ?_
 rintro e w1 ⟨rfl, b1⟩
 go_wp2_with fail
 refine (C2.out _).mono ?_
 rintro e w' ⟨rfl, rfl⟩
 go_wp2
 go_ret
 exact ⟨rfl, b1⟩
set_option maxRecDepth 100000 in
set_option maxHeartbeats 1000000 in
theorem twhole_low (s g : ByteArray) (r N : Nat) (w : World)
  (C1 : Hid (∀ W, Ct 133 #[.string s, .string ⟨#[48]⟩] (.string g) W)) (t1 : decide (1024 < (g.size : Int)) = false)
  (C2 : Hid (∀ W, Cp 134 #[.string s, .int .i64 r] W (NOk N W)))
  (C3 : Hid (∀ W A n c, NV W A n c N → Ct 153 #[.slice A n c] (.float .f64 (fl N)) W)) :
  Ct 89 #[.string s, .int .i64 r] (.float .f64 (fl N)) w := by
 go_enter Tryz.func89, Tryz.ntmps89
 go_wp2_with fail
 refine (C1.out _).mono ?_
 rintro e w1 ⟨rfl, b1⟩
 have B1 := Lib.hid b1
 clear b1
 go_wp2_with fail
 refine (C2.out _).mono ?_
 rintro e w2 ⟨A, n, c, rfl, g2, b2⟩
 have G2 := Lib.hid g2
 have B2 := Lib.hid (below_le B1.out b2)
 clear g2 b2
 go_wp2_with fail
 refine (C3.out _ _ _ _ G2.out).mono ?_
 rintro e w3 ⟨rfl, b3⟩
 have B3 := Lib.hid (below_le B2.out b3)
 clear b3
 go_wp2
 go_ret
 exact ⟨rfl, B3.out⟩
theorem natV_lead (r : Nat) (l : List Nat) : natV r (ldz l) = natV r l := by unfold natV ldz; rw [num_lead]
theorem twhole_any (l : List Nat) (r : Nat) (w : World) (h2 : 2 ≤ r) (h36 : r ≤ 36) (h0 : l ≠ []) (hd : ∀ c ∈ l, dgt c < r) (hb : ∀ c ∈ l, c < 256) (hs : l.length ≤ 4611686018427387903) :
  Ct 89 #[.string (strOf l), .int .i64 r] (.float .f64 (natV r l)) w := by
 have C1 : Hid (∀ V, Ct 133 #[.string (strOf l), .string ⟨#[48]⟩] (.string (strOf (ldz l))) V) := Lib.hid (fun V => by
  have := trimL48 (strOf l) V
  rw [bl_strOf hb] at this
  exact this)
 have z1 := strOf_size (ldz l)
 by_cases h : 1024 < (ldz l).length
 ·have key : natV r l = 9218868437227405312 := by
   rw [← natV_lead]
   obtain ⟨D, hD⟩ : ∃ D : Nat, D = 1024 := ⟨_, rfl⟩
   refine decR_top hD ?_
   refine Nat.le_trans ?_ (num_lo_r (r := r) (fun e => by rw [e] at h; simp at h) (lead_head l))
   exact Nat.le_trans (Nat.pow_le_pow_left h2 D) (Nat.pow_le_pow_right (by omega) (by omega))
  rw [key]
  exact twhole_top _ _ r w C1 (decide_eq_true (by rw [z1]; omega))
 ·have hdl : ∀ c ∈ ldz l, dgt c < r := fun c hc => hd c (ldz_mem hc)
  have hnum : num r (ldz l) = num r l := num_lead r l
  have hbn : bln (num r l) ≤ 30000 := by
   rw [← hnum]
   have a1 := bln_mono (Nat.le_of_lt (num_lt hdl))
   have a2 := bln_pow r (ldz l).length
   have a3 : bln r ≤ 6 := bln_le (by omega)
   have a4 : bln r * (ldz l).length ≤ 6 * 1024 := Nat.mul_le_mul a3 (by omega)
   omega
  have C2 : Hid (∀ V, Cp 134 #[.string (strOf l), .int .i64 r] V (NOk (num r l) V)) := Lib.hid (fun V => by
   have hbl := bl_strOf hb
   have h := parse_ok (strOf l) r V (by rw [strOf_size]; exact hs) h2 h36 (adB_all (by rw [hbl]; exact h0) (by rw [hbl]; exact hd))
   rw [sv_num, hbl] at h
   exact h.mono fun e w' x => NOk.of (lng_bln hbn) x)
  have C3 : Hid (∀ V A n c, NV V A n c (num r l) → Ct 153 #[.slice A n c] (.float .f64 (fl (num r l))) V) := Lib.hid (fun V A n c g => by
   have a1 := small_len hbn
   rw [g.len] at a1
   have := pfloat_any A n c (wds (num r l)) V g.len g.cap (by omega) g.row
   rw [wds_val] at this
   exact this)
  have key : natV r l = fl (num r l) := (fl_decR _).symm
  rw [key]
  exact twhole_low _ _ r _ w C1 (decide_eq_false (by rw [z1]; omega)) C2 C3

end Go.Proofs.YtfcpkdafkmohkaaGreatDoor
namespace Go.Proofs.YtfcpkdafkmohkaaGreatDoor
open Go.RowKit
theorem lower_str (l : List Nat) (w : World) (hl : ∀ c ∈ l, c < 128) (hs : l.length ≤ 140737488355328) :
  Ct 87 #[.string (strOf l)] (.string (strOf (l.map lowC))) w := by
 have hb : ∀ c ∈ l, c < 256 := fun c hc => Nat.lt_trans (hl c hc) (by omega)
 have h := Tryz.strings_ToLower_ascii (strOf l) w (by rw [strOf_size]; exact hs) (asc_of (by rw [bl_strOf hb]; exact hl))
 rw [lower_eq (by rw [bl_strOf hb]; exact hl), bl_strOf hb] at h
 exact h
theorem low_lt {l : List Nat} (hl : ∀ c ∈ l, c < 128) : ∀ c ∈ l.map lowC, c < 256 := by
 intro c hc
 obtain ⟨d, hd, rfl⟩ := List.mem_map.1 hc
 have := hl d hd
 unfold lowC
 split <;> omega
theorem cut_low (l : List Nat) (r : Nat) (w : World) (hr : r ≤ 36) (hl : ∀ c ∈ l, c < 128) (hs : l.length ≤ 140737488355328) :
  Ct 86 #[.string (strOf (l.map lowC)), .int .i64 r] (.tuple #[.string (strOf ((l.takeWhile (dgq r)).map lowC)), .string (strOf ((l.dropWhile (dgq r)).map lowC))]) w := by
 have h := tcutDigits_any (strOf (l.map lowC)) r w hr (by rw [strOf_size, List.length_map]; omega)
 rw [bl_strOf (low_lt hl), take_low, drop_low] at h
 exact h
theorem natV_low (r : Nat) (l : List Nat) : natV r (l.map lowC) = natV r l := by unfold natV; rw [num_low]
theorem take_dgq (r : Nat) (l : List Nat) : ∀ c ∈ l.takeWhile (dgq r), dgt c < r := by
 induction l with
 | nil => intro c hc; simp at hc
 | cons d t ih =>
  intro c hc
  rw [List.takeWhile_cons] at hc
  cases hd : dgq r d
  ·rw [hd] at hc; simp at hc
  ·rw [hd] at hc
   simp only [if_true] at hc
   rcases List.mem_cons.1 hc with rfl | h
   ·exact of_decide_eq_true hd
   ·exact ih c h
theorem drop_nil (p : Nat → Bool) : ∀ l : List Nat, l.dropWhile p = [] ↔ l.all p = true
 | [] => by simp
 | c :: l => by
  by_cases h : p c = true
  ·rw [List.dropWhile_cons_of_pos h, List.all_cons, h, Bool.true_and]
   exact drop_nil p l
  ·rw [List.dropWhile_cons_of_neg h, List.all_cons]
   simp [h]
theorem take_all (p : Nat → Bool) : ∀ l : List Nat, l.all p = true → l.takeWhile p = l
 | [], _ => rfl
 | c :: l, h => by
  rw [List.all_cons, Bool.and_eq_true] at h
  rw [List.takeWhile_cons_of_pos h.1, take_all p l h.2]
theorem dgq_hx : dgq 16 = hx16 := rfl
set_option maxRecDepth 100000 in
set_option maxHeartbeats 1000000 in
theorem thex_no (s u : ByteArray) (w : World) (C1 : Hid (∀ W, Cq 85 #[.string s] (.tuple #[.string u, .bool false]) W)) :
  Ct 67 #[.string s] (.tuple #[.float .f64 0, .bool false]) w := by
 go_enter Tryz.func67, Tryz.ntmps67
 go_wp2_with fail
 refine (C1.out _).mono ?_
 rintro e w' ⟨rfl, rfl⟩
 go_wp2
 go_ret2
 exact ⟨rfl, Below.refl _ _⟩
set_option maxRecDepth 100000 in
set_option maxHeartbeats 1000000 in
theorem thex_not (s u v f q : ByteArray) (w : World) (C1 : Hid (∀ W, Cq 85 #[.string s] (.tuple #[.string u, .bool true]) W))
  (C2 : Hid (∀ W, Ct 87 #[.string u] (.string v) W))
  (C3 : Hid (∀ W, Ct 86 #[.string v, .int .i64 16] (.tuple #[.string f, .string q]) W))
  (t : f.toList.isEmpty = true ∨ (f.toList.isEmpty = false ∧ q.toList.isEmpty = false)) :
  Ct 67 #[.string s] (.tuple #[.float .f64 0, .bool false]) w := by
 rcases t with t1 | ⟨t1, t2⟩
 all_goals
  go_enter Tryz.func67, Tryz.ntmps67
  go_wp2_with fail
  refine (C1.out _).mono ?_
  rintro e w' ⟨rfl, rfl⟩
  go_wp2_with fail
  refine (C2.out _).mono ?_
  rintro e w1 ⟨rfl, b1⟩
  go_wp2_with fail
  refine (C3.out _).mono ?_
  rintro e w2 ⟨rfl, b2⟩
  have B2 := Lib.hid (below_le b1 b2)
  clear b1 b2
  go_wp2
  go_ret2
  exact ⟨rfl, B2.out⟩
set_option maxRecDepth 100000 in
set_option maxHeartbeats 1000000 in
theorem thex_yes (s u v f q : ByteArray) (F : Nat) (w : World) (C1 : Hid (∀ W, Cq 85 #[.string s] (.tuple #[.string u, .bool true]) W))
  (C2 : Hid (∀ W, Ct 87 #[.string u] (.string v) W))
  (C3 : Hid (∀ W, Ct 86 #[.string v, .int .i64 16] (.tuple #[.string f, .string q]) W))
  (C4 : Hid (∀ W, Ct 89 #[.string f, .int .i64 16] (.float .f64 F) W))
  (t1 : f.toList.isEmpty = false) (t2 : q.toList.isEmpty = true) :
  Ct 67 #[.string s] (.tuple #[.float .f64 F, .bool true]) w := by
 go_enter Tryz.func67, Tryz.ntmps67
 go_wp2_with fail
 refine (C1.out _).mono ?_
 rintro e w' ⟨rfl, rfl⟩
 go_wp2_with fail
 refine (C2.out _).mono ?_
 rintro e w1 ⟨rfl, b1⟩
 go_wp2_with fail
 refine (C3.out _).mono ?_
 rintro e w2 ⟨rfl, b2⟩
 have B2 := Lib.hid (below_le b1 b2)
 clear b1 b2
 go_wp2_with fail
 refine (C4.out _).mono ?_
 rintro e w3 ⟨rfl, b3⟩
 have B3 := Lib.hid (below_le B2.out b3)
 clear b3
 go_wp2
 go_ret2
 exact ⟨rfl, B3.out⟩

end Go.Proofs.YtfcpkdafkmohkaaGreatDoor
namespace Go.Proofs.YtfcpkdafkmohkaaGreatDoor
open Go.RowKit
theorem thexadecimal_any (l : List Nat) (w : World) (hl : ∀ c ∈ l, c < 128) (hs : l.length ≤ 140737488355328) :
  Ct 67 #[.string (strOf l)] (.tuple #[.float .f64 (if hxB l = true then natV 16 (l.drop 2) else 0 : Nat), .bool (hxB l)]) w := by
 have hb : ∀ c ∈ l, c < 256 := fun c hc => Nat.lt_trans (hl c hc) (by omega)
 have C1 : ∀ W, Cq 85 #[.string (strOf l)] (.tuple #[.string (strOf (if hxA l = true then l.drop 2 else l)), .bool (hxA l)]) W := by
  intro W
  have := tcutHex_any (strOf l) W
  rw [bl_strOf hb] at this
  exact this
 obtain ⟨u, hu⟩ : ∃ u, l.drop 2 = u := ⟨_, rfl⟩
 have hul : ∀ c ∈ u, c < 128 := fun c hc => hl c (by rw [← hu] at hc; exact List.mem_of_mem_drop hc)
 have hus : u.length ≤ 140737488355328 := by rw [← hu, List.length_drop]; omega
 have hx : hxB l = (hxA l && !u.isEmpty && u.all hx16) := by unfold hxB; rw [hu]
 rw [hu]
 rw [hu] at C1
 cases ha : hxA l
 ·rw [ha] at C1 hx
  rw [hx, Bool.false_and, Bool.false_and, if_neg (by simp)]
  exact thex_no _ _ w (Lib.hid C1)
 ·rw [ha, if_pos rfl] at C1
  rw [ha, Bool.true_and] at hx
  have C2 := Lib.hid (fun W => lower_str u W hul hus)
  have C3 := Lib.hid (fun W => cut_low u 16 W (by omega) hul hus)
  have ne : ∀ R : List Nat, R ≠ [] → (strOf R).toList.isEmpty = false := fun R hR => (str_ne hR).2
  have em : (strOf []).toList.isEmpty = true := by rw [Lib.toList_data]; rfl
  by_cases h1 : u.takeWhile (dgq 16) = []
  ·have hn : hxB l = false := by
    rw [hx]
    cases u with
    | nil => rfl
    | cons c t =>
     have : dgq 16 c = false := by
      cases h : dgq 16 c
      ·rfl
      ·rw [List.takeWhile_cons_of_pos h] at h1; cases h1
     show (true && (hx16 c && t.all hx16)) = false
     rw [← dgq_hx, this]
     rfl
   rw [hn, if_neg (by simp)]
   exact thex_not _ _ _ _ _ w (Lib.hid C1) C2 C3 (Or.inl (by rw [h1]; exact em))
  ·by_cases h2 : u.dropWhile (dgq 16) = []
   ·have h3 := (drop_nil _ _).1 h2
    have h4 := take_all _ _ h3
    have hu0 : u ≠ [] := fun e => h1 (by rw [e]; rfl)
    have hn : hxB l = true := by
     rw [hx, ← dgq_hx, h3, Bool.and_true]
     cases u with
     | nil => exact absurd rfl hu0
     | cons => rfl
    rw [hn, if_pos rfl]
    rw [h4, h2] at C3
    have hd : ∀ c ∈ u, dgt c < 16 := by
     have := take_dgq 16 u
     rw [h4] at this
     exact this
    have C4 : ∀ W, Ct 89 #[.string (strOf (u.map lowC)), .int .i64 16] (.float .f64 (natV 16 u)) W := by
     intro W
     have := twhole_any (u.map lowC) 16 W (by omega) (by omega) (by simpa using hu0) (by
      intro c hc
      obtain ⟨d, hd2, rfl⟩ := List.mem_map.1 hc
      rw [dgt_low]
      exact hd d hd2) (low_lt hul) (by rw [List.length_map]; omega)
     rw [natV_low] at this
     exact this
    exact thex_yes _ _ _ _ _ _ w (Lib.hid C1) C2 C3 (Lib.hid C4) (ne _ (by simpa using hu0)) em
   ·have hn : hxB l = false := by
     rw [hx, ← dgq_hx]
     cases h3 : u.all (dgq 16)
     ·rw [Bool.and_false]
     ·exact absurd ((drop_nil _ _).2 h3) h2
    rw [hn, if_neg (by simp)]
    exact thex_not _ _ _ _ _ w (Lib.hid C1) C2 C3 (Or.inr ⟨ne _ (by simpa using h1), ne _ (by simpa using h2)⟩)
theorem and_sign (x : Nat) (hx : x < 18446744073709551616) : bits BinOp.and IntKind.u64 (x : Int) 9223372036854775808 = ((if fneg x = true then 9223372036854775808 else 0 : Nat) : Int) := by
 show IntKind.u64.wrap ((BitVec.ofInt 64 (x : Int) &&& BitVec.ofInt 64 9223372036854775808).toNat : Int) = _
 have e1 : (BitVec.ofInt 64 (x : Int)) = BitVec.ofNat 64 x := by rw [BitVec.ofInt_natCast]
 have e2 : (BitVec.ofInt 64 9223372036854775808) = BitVec.ofNat 64 (2 ^ 63) := by decide
 rw [e1, e2, BitVec.toNat_and, BitVec.toNat_ofNat, BitVec.toNat_ofNat, Nat.mod_eq_of_lt (by omega : x < 2 ^ 64), Nat.mod_eq_of_lt (by omega : 2 ^ 63 < 2 ^ 64), IntKind.wrap_u64]
 have h2 : x &&& 2 ^ 63 = x / 2 ^ 63 % 2 * 2 ^ 63 := by
  apply Nat.eq_of_testBit_eq
  intro i
  rw [Nat.testBit_and, Nat.testBit_two_pow]
  by_cases h : 63 = i
  ·subst h
   rw [decide_eq_true rfl, Bool.and_true, Nat.testBit_mul_two_pow, Nat.testBit_eq_decide_div_mod_eq]
   simp
  ·rw [decide_eq_false h, Bool.and_false, Nat.testBit_mul_two_pow]
   by_cases hi : 63 ≤ i
   ·have : x / 2 ^ 63 % 2 < 2 ^ (i - 63) := Nat.lt_of_lt_of_le (Nat.mod_lt _ (by omega)) (by have := Nat.pow_le_pow_right (n := 2) (by omega) (show 1 ≤ i - 63 by omega); omega)
    rw [Nat.testBit_lt_two_pow this]; simp
   ·simp [hi]
 rw [h2]
 unfold fneg
 have h4 : x / 2 ^ 63 % 2 = 0 ∨ x / 2 ^ 63 % 2 = 1 := by omega
 rw [show (9223372036854775808 : Nat) = 2 ^ 63 from rfl]
 rcases h4 with h4 | h4 <;> rw [h4] <;> simp
theorem or_sign (s : Bool) {r : Nat} (hr : r < 9223372036854775808) : bits BinOp.or IntKind.u64 (r : Int) ((if s = true then 9223372036854775808 else 0 : Nat) : Int) = ((Ieee.double.word s r : Nat) : Int) := by
 cases s
 ·rw [if_neg (by simp), or_u64 r 0 (by omega) (by omega), Nat.or_zero]; rfl
 ·rw [if_pos rfl, or_u64 r 9223372036854775808 (by omega) (by omega)]
  have := Nat.two_pow_add_eq_or_of_lt (i := 63) (b := r) hr 1
  rw [Nat.or_comm, show (9223372036854775808 : Nat) = 2 ^ 63 * 1 from rfl, ← this]
  rfl
set_option maxRecDepth 100000 in
theorem copysign_word (f x : Nat) (w : World) (hf : f < 18446744073709551616) (hx : x < 18446744073709551616) : Cq 88 #[.float .f64 f, .float .f64 x] (.float .f64 (Ieee.double.word (fneg x) (rung f))) w := by
 have h1 := f64bits_run f w
 have h2 := f64bits_run x w
 have h3 := not_sign f hf
 have h4 := and_sign x hx
 have hr : rung f < 9223372036854775808 := Nat.mod_lt _ (by omega)
 have h5 := or_sign (fneg x) hr
 have h6 := f64from_run (Ieee.double.word (fneg x) (rung f)) w
 obtain ⟨a, ha⟩ : ∃ a, rung f = a := ⟨_, rfl⟩
 obtain ⟨b, hb⟩ : ∃ b : Nat, (if fneg x = true then 9223372036854775808 else 0 : Nat) = b := ⟨_, rfl⟩
 rw [ha] at h3 h5 h6 ⊢
 rw [hb] at h4 h5
 obtain ⟨c, hc⟩ : ∃ c, Ieee.double.word (fneg x) a = c := ⟨_, rfl⟩
 rw [hc] at h5 h6 ⊢
 clear hf hx hr ha hb hc
 go_enter Tryz.func88, Tryz.ntmps88
 go_wp2
 go_ret
 exact ⟨rfl, rfl⟩
theorem word_sg (b : Bool) (x : Nat) : Ieee.double.word b x = sgW b x := by cases b <;> rfl
theorem fneg_sg (b : Bool) : fneg (sgF b) = b := by cases b <;> rfl
theorem tcopysign_any (x : Nat) (b : Bool) (w : World) (hx : x < 9223372036854775808) :
  Cq 88 #[.float .f64 x, .float .f64 (sgF b)] (.float .f64 (sgW b x)) w := by
 have h := copysign_word x (sgF b) w (by omega) (by cases b <;> decide)
 rw [fneg_sg, show rung x = x from Nat.mod_eq_of_lt hx, word_sg] at h
 exact h

end Go.Proofs.YtfcpkdafkmohkaaGreatDoor
