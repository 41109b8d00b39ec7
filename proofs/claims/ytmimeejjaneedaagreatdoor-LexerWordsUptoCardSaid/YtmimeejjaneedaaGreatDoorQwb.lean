/-
  Merged texts (BB, BC, BE, Lb, Re, Lc, Ld, BD).
-/
import Derived.Test.YtmimeejjaneedaaGreatDoorQwa
set_option maxRecDepth 100000
set_option maxHeartbeats 40000000
namespace Go.Proofs.YtmimeejjaneedaaGreatDoor
section
open Go.RowKit
structure AddT (R : List Nat) (o : Nat) (b : List Nat) (x : Nat) (k : Nat) (S : List Nat) (q : Nat) : Prop where
 len : S.length = R.length
 ws : Ws S
 far : ∀ j, j < o ∨ o + k ≤ j → S.getD j 0 = R.getD j 0
 sum : val ((S.drop o).take k) + 4294967296 ^ k * q = val ((R.drop o).take k) + x * val (b.take k)
 low : q < 4294967296
theorem AddT.start {R : List Nat} (o : Nat) (b : List Nat) (x : Nat) (hR : Ws R) : AddT R o b x 0 R 0 := ⟨rfl, hR, fun _ _ => rfl, by simp [val], by omega⟩
def addC (R : List Nat) (o : Nat) (b : List Nat) (x k q : Nat) : Nat := q + (b.getD k 0 * x + R.getD (o + k) 0)
theorem addC_lt {R : List Nat} {o : Nat} {b : List Nat} {x k q : Nat} (hR : Ws R) (hb : Ws b) (hx : x < 4294967296) (hq : q < 4294967296) :
  b.getD k 0 * x ≤ 18446744065119617025 ∧ b.getD k 0 * x + R.getD (o + k) 0 < 18446744073709551616 ∧ addC R o b x k q < 18446744073709551616 := by
 have h1 := hb.getD k
 have h2 := hR.getD (o + k)
 have h3 : b.getD k 0 * x ≤ 4294967295 * 4294967295 := Nat.mul_le_mul (by omega) (by omega)
 unfold addC
 omega
theorem AddT.next {R : List Nat} {o : Nat} {b : List Nat} {x k : Nat} {S : List Nat} {q : Nat} (h : AddT R o b x k S q) (hR : Ws R) (hb : Ws b) (hx : x < 4294967296) (hk : k < b.length) (ho : o + k < R.length) :
  S.getD (o + k) 0 = R.getD (o + k) 0 ∧ AddT R o b x (k + 1) (S.set (o + k) (addC R o b x k q % 4294967296)) (addC R o b x k q / 4294967296) := by
 obtain ⟨h1, h2, h3, h4, h5⟩ := h
 have hlt := (addC_lt (o := o) (k := k) hR hb hx h5).2.2
 obtain ⟨t, ht⟩ : ∃ t, addC R o b x k q = t := ⟨_, rfl⟩
 rw [ht] at hlt ⊢
 refine ⟨h3 _ (.inr (Nat.le_refl _)), by rw [List.length_set]; exact h1, h2.set (by omega), fun j hj => ?_, ?_, by omega⟩
 ·rw [getD_set_ne (by omega), h3 j (by omega)]
 ·rw [val_part_succ _ o k (by rw [List.length_set]; omega), val_part_succ R o k ho, val_take_succ b k hk, getD_set_eq (by omega)]
  rw [part_congr (l := S.set (o + k) (t % 4294967296)) (m := S) o k (by rw [List.length_set]; omega) (by omega) (fun j _ hj => getD_set_ne (by omega))]
  have e := step_words (4294967296 ^ k) t (val ((S.drop o).take k)) (val ((R.drop o).take k) + 4294967296 ^ k * R.getD (o + k) 0 + x * (val (b.take k) + 4294967296 ^ k * b.getD k 0)) (by
   rw [← ht]
   unfold addC
   grind)
  rw [Nat.pow_succ]
  exact e
def AddPost (g : Nat) (R : List Nat) (o : Nat) (b : List Nat) (x : Nat) (w : World) (e : Ending) (w' : World) : Prop :=
 ∃ S q, e = .returned (.int .u32 (q : Nat)) ∧ Row w' g S ∧ AddT R o b x b.length S q ∧ Below g w w'
theorem addTimes_any (g o n c : Nat) (R : List Nat) (A : Option Addr) (m d : Nat) (b : List Nat) (x B : Nat) (w : World) (hR : Row w g R) (hRw : Ws R) (ho : o + n ≤ R.length) (hmn : m ≤ n) (hbl : b.length = m)
  (hB : RW w B A b) (hgB : B ≤ g) (hx : x < 4294967296) (hm : R.length ≤ 35184372088832) :
  Cp 365 #[.slice (some ⟨g, o, none⟩) n c, .slice A m d, .int .u32 x] w (AddPost g R o b x w) := by
 rcases Nat.eq_zero_or_pos m with h0 | h0
 ·subst h0
  obtain rfl : b = [] := List.eq_nil_of_length_eq_zero hbl
  have HR := Lib.hid hR
  have HW := Lib.hid hRw
  clear hR hRw ho hmn hbl hB hgB hx hm
  go_enter Tryz.func365, Tryz.ntmps365
  go_wp2
  go_loop [12, 7] (fun i v => i = .int .i64 0 ∧ v = .int .u64 0) (fun _ _ => 0)
  case atStart => exact ⟨rfl, rfl⟩
  case round =>
   obtain ⟨rfl, rfl⟩ := hrel
   go_wp2
   go_ret
   exact ⟨R, 0, rfl, HR.out, AddT.start o [] x HW.out, Below.refl _ _⟩
 ·obtain ⟨a, p, rfl, hab, hc⟩ := hB.2 (by omega)
  have HBW := Lib.hid hB.1
  have HRW := Lib.hid hRw
  have HBL := Lib.hid hbl
  have HC := Lib.hid hc
  have HX := Lib.hid hx
  have HR := Lib.hid hR
  have hm1 : (m : Int) ≤ (n : Int) := by omega
  have hn1 : (n : Int) ≤ 35184372088832 := by omega
  have HO := Lib.hid ho
  have hag : a < g := by omega
  have h0' : (0 : Int) ≤ (x : Int) := by omega
  clear hR hRw ho hmn hbl hB hx hm hc h0
  go_enter Tryz.func365, Tryz.ntmps365
  go_wp2
  go_loopw [12, 7] (fun i v wr => ∃ (k : Nat) (S : List Nat) (q : Nat), i = .int .i64 k ∧ v = .int .u64 (q : Nat) ∧ k ≤ m ∧ Hid (Row wr g S) ∧ Hid (AddT R o b x k S q) ∧ Below g w wr) (fun i _ _ => m - (intOf i).toNat)
  case atStart => exact ⟨0, R, 0, rfl, rfl, Nat.zero_le _, HR, Lib.hid (AddT.start o b x HRW.out), Below.refl _ _⟩
  case round =>
   obtain ⟨k, S, q, rfl, rfl, hk, HS, HT, hbw⟩ := hrel
   by_cases hlt : k < m
   ·have hkb : k < b.length := by rw [HBL.out]; exact hlt
    have hok : o + k < R.length := by have := HO.out; omega
    obtain ⟨e1, hnext⟩ := HT.out.next HRW.out HBW.out HX.out hkb hok
    have hS := HS.out.cell (o + k) (by rw [HT.out.len]; exact hok)
    have hfz := HS.out.frozen (o + k)
    have hcl := HC.out k _ (getD_some hkb)
    rw [← hbw.cell (p := ⟨a, p + k, none⟩) hag] at hcl
    obtain ⟨l1, l2, l3⟩ := addC_lt (o := o) (k := k) (q := q) HRW.out HBW.out HX.out HT.out.low
    have hset := HS.out.set (o + k) (addC R o b x k q % 4294967296)
    have HE := Lib.hid (show addC R o b x k q = q + (b.getD k 0 * x + R.getD (o + k) 0) from rfl)
    have u1 := HBW.out.getD k
    have r1 := HRW.out.getD (o + k)
    have q1 := HT.out.low
    rw [e1] at hS
    obtain ⟨t, ht⟩ : ∃ t, addC R o b x k q = t := ⟨_, rfl⟩
    obtain ⟨u, hu⟩ : ∃ u, b.getD k 0 = u := ⟨_, rfl⟩
    obtain ⟨r, hr⟩ : ∃ r, R.getD (o + k) 0 = r := ⟨_, rfl⟩
    rw [ht, hu, hr] at HE
    rw [ht] at hnext hset l3
    rw [hu] at hcl l1 l2 u1
    rw [hr] at hS l2 r1
    have HNX := Lib.hid hnext
    have k1 : IntKind.u64.wrap (u : Int) = (u : Int) := IntWalk.u64_in _ (by omega)
    have k2 : IntKind.u64.wrap (x : Int) = (x : Int) := IntWalk.u64_in _ (by have := HX.out; omega)
    have k3 : IntKind.u64.wrap (r : Int) = (r : Int) := IntWalk.u64_in _ (by omega)
    have k4 : IntKind.u64.wrap ((u : Int) * (x : Int)) = (u : Int) * (x : Int) := IntWalk.u64_in _ (by
     have : ((u * x : Nat) : Int) = (u : Int) * (x : Int) := Int.natCast_mul u x
     omega)
    have k5 : IntKind.u64.wrap ((u : Int) * (x : Int) + (r : Int)) = (u : Int) * (x : Int) + (r : Int) := IntWalk.u64_in _ (by
     have : ((u * x : Nat) : Int) = (u : Int) * (x : Int) := Int.natCast_mul u x
     omega)
    have k6 : IntKind.u64.wrap ((q : Int) + ((u : Int) * (x : Int) + (r : Int))) = (t : Int) := by
     have : ((u * x : Nat) : Int) = (u : Int) * (x : Int) := Int.natCast_mul u x
     have := HE.out
     rw [IntWalk.u64_in _ (by omega)]
     omega
    clear e1 hnext l1 l2 l3 u1 r1 q1 ht hu hr hkb hok
    rw [show ((t % 4294967296 : Nat) : Int) = (t : Int) % 4294967296 by omega] at hset
    have HSET := Lib.hid hset
    clear hset
    go_wp2
    go_roundw
    case rel => exact ⟨k + 1, _, t / 4294967296, by go_num, by go_num, by omega, HSET, HNX, hbw.setCell (Nat.le_refl _) _⟩
    case measure => simp [intOf]; omega
   ·have HZ := Lib.hid (show k = b.length by rw [HBL.out]; omega)
    have q1 := HT.out.low
    have k1 : IntKind.u32.wrap (q : Int) = (q : Int) := IntWalk.u32_in _ (by omega)
    have HT2 := Lib.hid (HZ.out ▸ HT.out : AddT R o b x b.length S q)
    clear q1
    go_wp2
    go_ret
    exact ⟨S, q, rfl, HS.out, HT2.out, hbw⟩
open Go.RowKit
structure Only (g : Nat) (w w' : World) : Prop where
 below : Below g w w'
 far : ∀ k, k ≠ g → w'.heap[k]? = w.heap[k]?
theorem Only.refl (g : Nat) (w : World) : Only g w w := ⟨Below.refl _ _, fun _ _ => rfl⟩
theorem Only.trans {g : Nat} {a b c : World} (h : Only g a b) (k : Only g b c) : Only g a c := ⟨h.below.trans k.below, fun i hi => (k.far i hi).trans (h.far i hi)⟩
theorem Only.setCell {g i : Nat} {a w : World} (h : Only g a w) (u : Value) : Only g a (w.setCell ⟨g, i, none⟩ u) :=
 ⟨h.below.setCell (Nat.le_refl _) u, fun k hk => (Below.heap_setCell w ⟨g, i, none⟩ u k hk).trans (h.far k hk)⟩
theorem Only.drewN {g : Nat} {a w : World} (h : Only g a w) (n : Nat) : Only g a (w.drewN n) := ⟨below_drewN' h.below n, h.far⟩
theorem Row.only {w w' : World} {g k : Nat} {R : List Nat} (h : Row w k R) (hk : k ≠ g) (hb : Only g w w') : Row w' k R := (hb.far k hk).trans h
def AddPostO (g : Nat) (R : List Nat) (o : Nat) (b : List Nat) (x : Nat) (w : World) (e : Ending) (w' : World) : Prop :=
 ∃ S q, e = .returned (.int .u32 (q : Nat)) ∧ Row w' g S ∧ AddT R o b x b.length S q ∧ Only g w w'
theorem addTimes_only (g o n c : Nat) (R : List Nat) (A : Option Addr) (m d : Nat) (b : List Nat) (x B : Nat) (w : World) (hR : Row w g R) (hRw : Ws R) (ho : o + n ≤ R.length) (hmn : m ≤ n) (hbl : b.length = m)
  (hB : RW w B A b) (hgB : B ≤ g) (hx : x < 4294967296) (hm : R.length ≤ 35184372088832) :
  Cp 365 #[.slice (some ⟨g, o, none⟩) n c, .slice A m d, .int .u32 x] w (AddPostO g R o b x w) := by
 rcases Nat.eq_zero_or_pos m with h0 | h0
 ·subst h0
  obtain rfl : b = [] := List.eq_nil_of_length_eq_zero hbl
  have HR := Lib.hid hR
  have HW := Lib.hid hRw
  clear hR hRw ho hmn hbl hB hgB hx hm
  go_enter Tryz.func365, Tryz.ntmps365
  go_wp2
  go_loop [12, 7] (fun i v => i = .int .i64 0 ∧ v = .int .u64 0) (fun _ _ => 0)
  case atStart => exact ⟨rfl, rfl⟩
  case round =>
   obtain ⟨rfl, rfl⟩ := hrel
   go_wp2
   go_ret
   exact ⟨R, 0, rfl, HR.out, AddT.start o [] x HW.out, Only.refl _ _⟩
 ·obtain ⟨a, p, rfl, hab, hc⟩ := hB.2 (by omega)
  have HBW := Lib.hid hB.1
  have HRW := Lib.hid hRw
  have HBL := Lib.hid hbl
  have HC := Lib.hid hc
  have HX := Lib.hid hx
  have HR := Lib.hid hR
  have hm1 : (m : Int) ≤ (n : Int) := by omega
  have hn1 : (n : Int) ≤ 35184372088832 := by omega
  have HO := Lib.hid ho
  have hag : a < g := by omega
  have h0' : (0 : Int) ≤ (x : Int) := by omega
  clear hR hRw ho hmn hbl hB hx hm hc h0
  go_enter Tryz.func365, Tryz.ntmps365
  go_wp2
  go_loopw [12, 7] (fun i v wr => ∃ (k : Nat) (S : List Nat) (q : Nat), i = .int .i64 k ∧ v = .int .u64 (q : Nat) ∧ k ≤ m ∧ Hid (Row wr g S) ∧ Hid (AddT R o b x k S q) ∧ Only g w wr) (fun i _ _ => m - (intOf i).toNat)
  case atStart => exact ⟨0, R, 0, rfl, rfl, Nat.zero_le _, HR, Lib.hid (AddT.start o b x HRW.out), Only.refl _ _⟩
  case round =>
   obtain ⟨k, S, q, rfl, rfl, hk, HS, HT, hbw⟩ := hrel
   by_cases hlt : k < m
   ·have hkb : k < b.length := by rw [HBL.out]; exact hlt
    have hok : o + k < R.length := by have := HO.out; omega
    obtain ⟨e1, hnext⟩ := HT.out.next HRW.out HBW.out HX.out hkb hok
    have hS := HS.out.cell (o + k) (by rw [HT.out.len]; exact hok)
    have hfz := HS.out.frozen (o + k)
    have hcl := HC.out k _ (getD_some hkb)
    rw [← hbw.below.cell (p := ⟨a, p + k, none⟩) hag] at hcl
    obtain ⟨l1, l2, l3⟩ := addC_lt (o := o) (k := k) (q := q) HRW.out HBW.out HX.out HT.out.low
    have hset := HS.out.set (o + k) (addC R o b x k q % 4294967296)
    have HE := Lib.hid (show addC R o b x k q = q + (b.getD k 0 * x + R.getD (o + k) 0) from rfl)
    have u1 := HBW.out.getD k
    have r1 := HRW.out.getD (o + k)
    have q1 := HT.out.low
    rw [e1] at hS
    obtain ⟨t, ht⟩ : ∃ t, addC R o b x k q = t := ⟨_, rfl⟩
    obtain ⟨u, hu⟩ : ∃ u, b.getD k 0 = u := ⟨_, rfl⟩
    obtain ⟨r, hr⟩ : ∃ r, R.getD (o + k) 0 = r := ⟨_, rfl⟩
    rw [ht, hu, hr] at HE
    rw [ht] at hnext hset l3
    rw [hu] at hcl l1 l2 u1
    rw [hr] at hS l2 r1
    have HNX := Lib.hid hnext
    have k1 : IntKind.u64.wrap (u : Int) = (u : Int) := IntWalk.u64_in _ (by omega)
    have k2 : IntKind.u64.wrap (x : Int) = (x : Int) := IntWalk.u64_in _ (by have := HX.out; omega)
    have k3 : IntKind.u64.wrap (r : Int) = (r : Int) := IntWalk.u64_in _ (by omega)
    have k4 : IntKind.u64.wrap ((u : Int) * (x : Int)) = (u : Int) * (x : Int) := IntWalk.u64_in _ (by
     have : ((u * x : Nat) : Int) = (u : Int) * (x : Int) := Int.natCast_mul u x
     omega)
    have k5 : IntKind.u64.wrap ((u : Int) * (x : Int) + (r : Int)) = (u : Int) * (x : Int) + (r : Int) := IntWalk.u64_in _ (by
     have : ((u * x : Nat) : Int) = (u : Int) * (x : Int) := Int.natCast_mul u x
     omega)
    have k6 : IntKind.u64.wrap ((q : Int) + ((u : Int) * (x : Int) + (r : Int))) = (t : Int) := by
     have : ((u * x : Nat) : Int) = (u : Int) * (x : Int) := Int.natCast_mul u x
     have := HE.out
     rw [IntWalk.u64_in _ (by omega)]
     omega
    clear e1 hnext l1 l2 l3 u1 r1 q1 ht hu hr hkb hok
    rw [show ((t % 4294967296 : Nat) : Int) = (t : Int) % 4294967296 by omega] at hset
    have HSET := Lib.hid hset
    clear hset
    go_wp2
    go_roundw
    case rel => exact ⟨k + 1, _, t / 4294967296, by go_num, by go_num, by omega, HSET, HNX, hbw.setCell _⟩
    case measure => simp [intOf]; omega
   ·have HZ := Lib.hid (show k = b.length by rw [HBL.out]; omega)
    have q1 := HT.out.low
    have k1 : IntKind.u32.wrap (q : Int) = (q : Int) := IntWalk.u32_in _ (by omega)
    have HT2 := Lib.hid (HZ.out ▸ HT.out : AddT R o b x b.length S q)
    clear q1
    go_wp2
    go_ret
    exact ⟨S, q, rfl, HS.out, HT2.out, hbw⟩

open Go.RowKit
def lngB (v : Nat) : Bool := decide (1024 < (wds v).length)
def NatPost (v : Nat) (w : World) (e : Ending) (w' : World) : Prop :=
 ∃ A n c k, e = .returned (.tuple #[.slice A n c, .int .i64 (k : Nat)]) ∧ (if lngB v = true then A = none ∧ n = 0 ∧ c = 0 ∧ k = 3 else n = (wds v).length ∧ n ≤ c ∧ k = 0 ∧ RW w' w'.heap.size A (wds v)) ∧ Below w.heap.size w w'
def ErrPost (k : Nat) (w : World) (e : Ending) (w' : World) : Prop := e = .returned (.tuple #[.slice none 0 0, .int .i64 (k : Nat)]) ∧ Below w.heap.size w w'
theorem NatPost.long {v : Nat} {w w' : World} (h : lngB v = true) (hb : Below w.heap.size w w') : NatPost v w (.returned (.tuple #[.slice none 0 0, .int .i64 3])) w' :=
 ⟨none, 0, 0, 3, rfl, by rw [if_pos h]; exact ⟨rfl, rfl, rfl, rfl⟩, hb⟩
theorem NatPost.ok {v : Nat} {w w' : World} {A : Option Addr} {n c : Nat} (h : lngB v = false) (hn : n = (wds v).length) (hc : n ≤ c) (hr : RW w' w'.heap.size A (wds v)) (hb : Below w.heap.size w w') : NatPost v w (.returned (.tuple #[.slice A n c, .int .i64 0])) w' :=
 ⟨A, n, c, 0, rfl, by rw [if_neg (by rw [h]; simp)]; exact ⟨hn, hc, rfl, hr⟩, hb⟩
theorem NatPost.from_ {v : Nat} {w w1 w' : World} {e : Ending} (hb : Below w.heap.size w w1) (h : NatPost v w1 e w') : NatPost v w e w' := by
 obtain ⟨A, n, c, k, h1, h2, h3⟩ := h
 exact ⟨A, n, c, k, h1, h2, below_le hb h3⟩
theorem lng_nrm {l : List Nat} (h : Ws l) : lngB (val l) = decide (1024 < (nrm l).length) := by unfold lngB; rw [nrm_wds h]
abbrev pair (w : World) (v u : Value) : World := w.alloc (.cells #[v, u] 180)
abbrev lone (w : World) (v : Value) : World := w.alloc (.cells #[v] 180)
theorem pair_cell0 (w : World) (v u : Value) : (pair w v u).cell? ⟨w.heap.size, 0, none⟩ = some v := by
 rw [cell_of_row _ _ _ _ _ _ (heap_alloc_new w (.cells #[v, u] 180))]; rfl
theorem pair_cell1 (w : World) (v u : Value) : (pair w v u).cell? ⟨w.heap.size, 1, none⟩ = some u := by
 rw [cell_of_row _ _ _ _ _ _ (heap_alloc_new w (.cells #[v, u] 180))]; rfl
theorem lone_cell0 (w : World) (v : Value) : (lone w v).cell? ⟨w.heap.size, 0, none⟩ = some v := by
 rw [cell_of_row _ _ _ _ _ _ (heap_alloc_new w (.cells #[v] 180))]; rfl
theorem tooTwo_any (A C : Option Addr) (n c m d : Nat) (l k : List Nat) (w : World) (hn : l.length = n) (hc : n ≤ c) (hm : n ≤ 35184372088832) (h : RW w w.heap.size A l)
    (gn : k.length = m) (gc : m ≤ d) (gm : m ≤ 35184372088832) (g : RW w w.heap.size C k) :
    Cp 301 #[.slice (some ⟨w.heap.size, 0, none⟩) 2 2] (pair w (.slice A n c) (.slice C m d)) fun e w' => e = .returned (.bool (lngB (val l) || lngB (val k))) ∧ pair w (.slice A n c) (.slice C m d) = w' := by
  have hp : Below w.heap.size w (pair w (.slice A n c) (.slice C m d)) := (Below.refl _ _).alloc (Nat.le_refl _) _
  have c1 := cut_any A n c l w.heap.size _ hn hc hm (h.below hp)
  have c2 := cut_any C m d k w.heap.size _ gn gc gm (g.below hp)
  have d1 := pair_cell0 w (.slice A n c) (.slice C m d)
  have d2 := pair_cell1 w (.slice A n c) (.slice C m d)
  have e1 := lng_nrm h.1
  have e2 := lng_nrm g.1
  have hl1 := nrm_len l
  have hl2 := nrm_len k
  obtain ⟨N, hN⟩ : ∃ N, (nrm l).length = N := ⟨_, rfl⟩
  obtain ⟨M, hM⟩ : ∃ M, (nrm k).length = M := ⟨_, rfl⟩
  rw [hN] at c1 e1
  rw [hM] at c2 e2
  rw [e1, e2]
  have hN1 : (N : Int) ≤ 35184372088832 := by omega
  have hM1 : (M : Int) ≤ 35184372088832 := by omega
  clear hp h g hn hc hm gn gc gm e1 e2 hl1 hl2 hN hM
  generalize pair w (.slice A n c) (.slice C m d) = W at c1 c2 d1 d2 ⊢
  by_cases hA : 1024 < N
  · have hA' : (1024 : Int) < (N : Int) := by omega
    rw [show decide (1024 < N) = true from decide_eq_true hA, Bool.true_or]
    clear hA
    go_enter Tryz.func301, Tryz.ntmps301
    go_wp2
    go_loop [7] (fun i => i = .int .i64 0) (fun _ => 0)
    case atStart => exact rfl
    case round =>
      obtain rfl := hrel
      go_wp2_with fail
      refine c1.mono ?_
      rintro e w' ⟨rfl, rfl⟩
      go_wp2
      go_ret
      exact ⟨rfl, rfl⟩
  · have hA' : ¬ (1024 : Int) < (N : Int) := by omega
    rw [show decide (1024 < N) = false from decide_eq_false hA, Bool.false_or]
    clear hA
    have rel2 : decide (1024 < M) = true ∧ (1024 : Int) < (M : Int) ∨ decide (1024 < M) = false ∧ ¬ (1024 : Int) < (M : Int) := by
      by_cases hB : 1024 < M
      · exact .inl ⟨decide_eq_true hB, by omega⟩
      · exact .inr ⟨decide_eq_false hB, by omega⟩
    rcases rel2 with ⟨hb, hB⟩ | ⟨hb, hB⟩
    all_goals
      rw [hb]
      clear hb
      go_enter Tryz.func301, Tryz.ntmps301
      go_wp2
      go_loop [7] (fun i => i = .int .i64 0 ∨ i = .int .i64 1 ∨ (i = .int .i64 2 ∧ ¬ (1024 : Int) < (M : Int))) (fun i => 2 - (intOf i).toNat)
      case atStart => exact .inl rfl
      case round =>
        rcases hrel with rfl | rfl | ⟨rfl, hB2⟩
        · go_wp2_with fail
          refine c1.mono ?_
          rintro e w' ⟨rfl, rfl⟩
          go_wp2
          go_round
          case rel => exact .inr (.inl rfl)
          case measure => simp [intOf]
        · go_wp2_with fail
          refine c2.mono ?_
          rintro e w' ⟨rfl, rfl⟩
          go_wp2
          first
            | (go_ret; exact ⟨rfl, rfl⟩)
            | (go_round
               case rel => exact .inr (.inr ⟨rfl, by omega⟩)
               case measure => simp [intOf])
        · first
            | (exact absurd hB hB2)
            | (go_wp2
               go_ret
               exact ⟨rfl, rfl⟩)
theorem tooOne_any (A : Option Addr) (n c : Nat) (l : List Nat) (w : World) (hn : l.length = n) (hc : n ≤ c) (hm : n ≤ 35184372088832) (h : RW w w.heap.size A l) :
  Cp 301 #[.slice (some ⟨w.heap.size, 0, none⟩) 1 1] (lone w (.slice A n c)) fun e w' => e = .returned (.bool (lngB (val l))) ∧ lone w (.slice A n c) = w' := by
 have hp : Below w.heap.size w (lone w (.slice A n c)) := (Below.refl _ _).alloc (Nat.le_refl _) _
 have c1 := cut_any A n c l w.heap.size _ hn hc hm (h.below hp)
 have d1 := lone_cell0 w (.slice A n c)
 have e1 := lng_nrm h.1
 have hl1 := nrm_len l
 obtain ⟨N, hN⟩ : ∃ N, (nrm l).length = N := ⟨_, rfl⟩
 rw [hN] at c1 e1
 rw [e1]
 have hN1 : (N : Int) ≤ 35184372088832 := by omega
 clear hp h hn hc hm e1 hl1 hN
 generalize lone w (.slice A n c) = W at c1 d1 ⊢
 by_cases hA : 1024 < N
 ·have hA' : (1024 : Int) < (N : Int) := by omega
  rw [show decide (1024 < N) = true from decide_eq_true hA]
  clear hA
  go_enter Tryz.func301, Tryz.ntmps301
  go_wp2
  go_loop [7] (fun i => i = .int .i64 0) (fun _ => 0)
  case atStart => exact rfl
  case round =>
   obtain rfl := hrel
   go_wp2_with fail
   refine c1.mono ?_
   rintro e w' ⟨rfl, rfl⟩
   go_wp2
   go_ret
   exact ⟨rfl, rfl⟩
 ·have hA' : ¬ (1024 : Int) < (N : Int) := by omega
  rw [show decide (1024 < N) = false from decide_eq_false hA]
  clear hA
  go_enter Tryz.func301, Tryz.ntmps301
  go_wp2
  go_loop [7] (fun i => i = .int .i64 0 ∨ i = .int .i64 1) (fun i => 1 - (intOf i).toNat)
  case atStart => exact .inl rfl
  case round =>
   rcases hrel with rfl | rfl
   ·go_wp2_with fail
    refine c1.mono ?_
    rintro e w' ⟨rfl, rfl⟩
    go_wp2
    go_round
    case rel => exact .inr rfl
    case measure => simp [intOf]
   ·go_wp2
    go_ret
    exact ⟨rfl, rfl⟩
theorem answer_any (A : Option Addr) (n c : Nat) (l : List Nat) (w : World) (hn : l.length = n) (hc : n ≤ c) (hm : n ≤ 35184372088832) (h : RW w w.heap.size A l) :
  Cp 302 #[.slice A n c] w (NatPost (val l) w) := by
 have c1 := tooOne_any A n c l w hn hc hm h
 have hp : Below w.heap.size w (lone w (.slice A n c)) := (Below.refl _ _).alloc (Nat.le_refl _) _
 have c2 := cut_any A n c l w.heap.size _ hn hc hm (h.below hp)
 cases hl : lngB (val l)
 ·rw [hl] at c1
  have HL := Lib.hid hl
  rw [nrm_wds h.1] at c2
  have HR := Lib.hid (show RW (lone w (.slice A n c)) (lone w (.slice A n c)).heap.size A (wds (val l)) by rw [← nrm_wds h.1]; exact (h.step hp).nrm)
  have HP := Lib.hid hp
  clear hn hc hm h hl hp
  go_enter Tryz.func302, Tryz.ntmps302
  go_wp2_with fail
  refine c1.mono ?_
  rintro e w1 ⟨rfl, rfl⟩
  go_wp2_with fail
  refine c2.mono ?_
  rintro e w1 ⟨rfl, rfl⟩
  go_wp2
  go_ret2
  exact NatPost.ok HL.out rfl (Nat.le_refl _) HR.out HP.out
 ·rw [hl] at c1
  have HL := Lib.hid hl
  have HP := Lib.hid hp
  clear hn hc hm h hl hp c2
  go_enter Tryz.func302, Tryz.ntmps302
  go_wp2_with fail
  refine c1.mono ?_
  rintro e w1 ⟨rfl, rfl⟩
  go_wp2
  go_ret2
  exact NatPost.long HL.out HP.out

open Go.RowKit
structure MulT (a b : List Nat) (i : Nat) (P : List Nat) : Prop where
 len : P.length = a.length + b.length
 ws : Ws P
 zeros : ∀ j, i + b.length ≤ j → P.getD j 0 = 0
 sum : val (P.take (i + b.length)) = val (a.take i) * val b
theorem MulT.start (a b : List Nat) : MulT a b 0 (List.replicate (a.length + b.length) 0) :=
 ⟨List.length_replicate, Ws.zeros _, fun j _ => getD_zeros _ j, by
  rw [List.take_replicate, val_zeros]; simp [val]⟩
theorem MulT.next {a b : List Nat} {i : Nat} {P S : List Nat} {q : Nat} (h : MulT a b i P) (hi : i < a.length) (hS : AddT P i b (a.getD i 0) b.length S q) : MulT a b (i + 1) (S.set (i + b.length) q) := by
 obtain ⟨h1, h2, h3, h4⟩ := h
 obtain ⟨g1, g2, g3, g4, g5⟩ := hS
 refine ⟨by rw [List.length_set]; omega, g2.set g5, fun j hj => ?_, ?_⟩
 ·rw [getD_set_ne (by omega), g3 j (by omega), h3 j (by omega)]
 ·have hb : b.take b.length = b := List.take_of_length_le (Nat.le_refl _)
  rw [hb] at g4
  have e1 : (S.set (i + b.length) q).take (i + 1 + b.length) = (S.set (i + b.length) q).take (i + b.length + 1) := by congr 1; omega
  rw [e1, val_take_succ _ _ (by rw [List.length_set]; omega), getD_set_eq (by omega), val_take_succ a i hi]
  rw [take_congr (l := S.set (i + b.length) q) (m := S) (i + b.length) (by rw [List.length_set]; omega) (by omega) (fun j hj => getD_set_ne (by omega))]
  rw [val_part S i b.length (by omega)]
  rw [take_congr (l := S) (m := P) i (by omega) (by omega) (fun j hj => g3 j (by omega))]
  rw [val_part P i b.length (by omega)] at h4
  rw [Nat.pow_add]
  have e2 : val (P.take i) + 4294967296 ^ i * val ((S.drop i).take b.length) + 4294967296 ^ i * 4294967296 ^ b.length * q = val (P.take i) + 4294967296 ^ i * (val ((S.drop i).take b.length) + 4294967296 ^ b.length * q) := by grind
  rw [e2, g4]
  grind
theorem MulT.whole {a b : List Nat} {P : List Nat} (h : MulT a b a.length P) : val P = val a * val b := by
 have := h.sum
 rw [List.take_of_length_le (by rw [h.len]; exact Nat.le_refl _), List.take_of_length_le (Nat.le_refl _)] at this
 exact this
def MulPost (v u : Nat) (w : World) (e : Ending) (w' : World) : Prop := if (lngB v || lngB u) = true then ErrPost 3 w e w' else NatPost (v * u) w e w'
theorem lng_len {l : List Nat} (h : Ws l) (hl : lngB (val l) = false) : (nrm l).length ≤ 1024 := by
 rw [lng_nrm h] at hl
 have := of_decide_eq_false hl
 omega
theorem mul_ok (A C : Option Addr) (n c m d : Nat) (l k : List Nat) (w : World) (hn : l.length = n) (hc : n ≤ c) (hm : n ≤ 35184372088832) (h : RW w w.heap.size A l)
  (gn : k.length = m) (gc : m ≤ d) (gm : m ≤ 35184372088832) (g : RW w w.heap.size C k) (hl : (lngB (val l) || lngB (val k)) = false) :
  Cp 338 #[.slice A n c, .slice C m d] w (NatPost (val l * val k) w) := by
 have c1 := tooTwo_any A C n c m d l k w hn hc hm h gn gc gm g
 have hp : Below w.heap.size w (pair w (.slice A n c) (.slice C m d)) := (Below.refl _ _).alloc (Nat.le_refl _) _
 rw [hl] at c1
 obtain ⟨hl1, hl2⟩ : lngB (val l) = false ∧ lngB (val k) = false := by simpa using hl
 have c2 := cut_any A n c l w.heap.size _ hn hc hm (h.below hp)
 have c3 := cut_any C m d k w.heap.size _ gn gc gm (g.below hp)
 have n1 := lng_len h.1 hl1
 have n2 := lng_len g.1 hl2
 obtain ⟨a, ha⟩ : ∃ a, nrm l = a := ⟨_, rfl⟩
 obtain ⟨b, hb⟩ : ∃ b, nrm k = b := ⟨_, rfl⟩
 have hA := h.nrm
 have hB := g.nrm
 rw [ha] at n1 c2 hA
 rw [hb] at n2 c3 hB
 rw [← val_nrm l, ← val_nrm k, ha, hb]
 obtain ⟨N, hN⟩ : ∃ N, a.length = N := ⟨_, rfl⟩
 obtain ⟨M, hM⟩ : ∃ M, b.length = M := ⟨_, rfl⟩
 rw [hN] at n1 c2
 rw [hM] at n2 c3
 clear h g hn hc hm gn gc gm hl hl1 hl2 ha hb
 obtain ⟨W, hW⟩ : ∃ W, pair w (.slice A n c) (.slice C m d) = W := ⟨_, rfl⟩
 rw [hW] at c1 c2 c3 hp
 have HW := Lib.hid hW
 have hmk := run_make_row' (P := Tryz.prog) 180 156 (.int .u32 0) 4 Tryz.underlying180 infoW rfl .i64 .i64 (N + M) (by omega) (by omega) W
 rw [show ((N + M : Nat) : Int) = (N : Int) + (M : Int) by omega] at hmk
 have hrow := Row.made W (N + M)
 have hN1 : (N : Int) ≤ 1024 := by omega
 have hM1 : (M : Int) ≤ 1024 := by omega
 have HN := Lib.hid hN
 have HM := Lib.hid hM
 have HA := Lib.hid hA
 have HB := Lib.hid hB
 have hgW := hp.size
 have HP := Lib.hid hp
 have HROW := Lib.hid hrow
 have hbl0 : Below w.heap.size w (W.alloc (.cells (madeCells #[.int .u32 0] (N + M)) 156)) := hp.alloc hp.size _
 have HBL := Lib.hid hbl0
 clear hA hB hN hM hp hrow n1 n2 hbl0 hW
 go_enter Tryz.func338, Tryz.ntmps338
 go_wp2_with fail
 rw [show w.alloc (.cells #[.slice A n c, .slice C m d] 180) = W from HW.out]
 refine c1.mono ?_
 rintro e w1 ⟨rfl, rfl⟩
 go_wp2_with fail
 refine c2.mono ?_
 rintro e w1 ⟨rfl, rfl⟩
 go_wp2_with fail
 refine c3.mono ?_
 rintro e w1 ⟨rfl, rfl⟩
 clear c1 c2 c3
 go_wp2
 go_loopw [25] (fun i wr => ∃ (q : Nat) (P : List Nat), i = .int .i64 q ∧ q ≤ N ∧ Hid (Row wr W.heap.size P) ∧ Hid (MulT a b q P) ∧ Below w.heap.size w wr) (fun i _ => N - (intOf i).toNat)
 case atStart => exact ⟨0, _, rfl, Nat.zero_le _, HROW, Lib.hid (by have := MulT.start a b; rw [HN.out, HM.out] at this; exact this), HBL.out⟩
 case round =>
  obtain ⟨q, P, rfl, hq, HR, HT, hbw⟩ := hrel
  by_cases hlt : q < N
  ·have hqa : q < a.length := by rw [HN.out]; exact hlt
   obtain ⟨ab, ao, rfl, hab, hca⟩ := HA.out.2 (by omega)
   have hcl := hca q _ (getD_some hqa)
   rw [← hbw.cell (p := ⟨ab, ao + q, none⟩) hab] at hcl
   have hx := HA.out.1.getD q
   have hPl : P.length = N + M := by rw [HT.out.len, HN.out, HM.out]
   obtain ⟨x, hxe⟩ : ∃ x, a.getD q 0 = x := ⟨_, rfl⟩
   rw [hxe] at hcl hx
   have C1 := Lib.hid (addTimes_any W.heap.size q (N + M - q) (N + M - q) P C M M b x w.heap.size wr HR.out HT.out.ws (by omega) (by omega) HM.out (HB.out.below hbw) hgW hx (by omega))
   have HX := Lib.hid hxe
   have HPL := Lib.hid hPl
   have hq1 : (q : Int) < (N : Int) := by omega
   have hq2 : ((N + M : Nat) == q) = false := by simp; omega
   have HNX := Lib.hid (fun S r (h : AddT P q b x b.length S r) => HT.out.next hqa (by rw [hxe]; exact h))
   clear hqa hab hca hx hPl hxe
   go_wp2_with fail
   refine C1.out.mono ?_
   rintro e w2 ⟨S, r, rfl, hrow2, hadd, hb2⟩
   have hSl : S.length = N + M := by rw [hadd.len]; exact HPL.out
   have hcell2 := hrow2.cell (q + M) (by omega)
   have hfz2 := hrow2.frozen (q + M)
   have HSET := Lib.hid (hrow2.set (q + M) r)
   have HMT := Lib.hid (show MulT a b (q + 1) (S.set (q + M) r) by have := HNX.out S r hadd; rw [HM.out] at this; exact this)
   have hbw2 : Below w.heap.size w w2 := hbw.trans (hb2.mono hgW)
   clear hrow2 hadd hSl C1
   go_wp2
   go_roundw
   case rel => exact ⟨q + 1, _, by go_num, by omega, HSET, HMT, hbw2.setCell hgW _⟩
   case measure => simp [intOf]; omega
  ·have hqN : q = N := by omega
   have HMT := Lib.hid (show MulT a b a.length P by rw [HN.out, ← hqN]; exact HT.out)
   have hPl : P.length = N + M := by rw [HT.out.len, HN.out, HM.out]
   have hlt2 := HR.out.lt
   have C1 := Lib.hid (answer_any (some ⟨W.heap.size, 0, none⟩) (N + M) (N + M) P wr hPl (Nat.le_refl _) (by omega) ((HR.out.rw0 HT.out.ws).more hlt2))
   have HV := Lib.hid HMT.out.whole
   clear hPl hqN hlt2
   go_wp2_with fail
   refine C1.out.mono ?_
   rintro e w2 h
   have h2 := NatPost.from_ hbw h
   rw [HV.out] at h2
   obtain ⟨A2, n2, c2, k2, rfl, h3, h4⟩ := h2
   have H3 := Lib.hid h3
   have H4 := Lib.hid h4
   clear h h3 h4 C1
   go_wp2
   go_ret2
   exact ⟨A2, n2, c2, k2, rfl, H3.out, H4.out⟩
theorem mul_long (A C : Option Addr) (n c m d : Nat) (l k : List Nat) (w : World) (hn : l.length = n) (hc : n ≤ c) (hm : n ≤ 35184372088832) (h : RW w w.heap.size A l)
  (gn : k.length = m) (gc : m ≤ d) (gm : m ≤ 35184372088832) (g : RW w w.heap.size C k) (hl : (lngB (val l) || lngB (val k)) = true) :
  Cp 338 #[.slice A n c, .slice C m d] w (ErrPost 3 w) := by
 have c1 := tooTwo_any A C n c m d l k w hn hc hm h gn gc gm g
 have hp : Below w.heap.size w (pair w (.slice A n c) (.slice C m d)) := (Below.refl _ _).alloc (Nat.le_refl _) _
 rw [hl] at c1
 have HP := Lib.hid hp
 clear h g hn hc hm gn gc gm hl hp
 go_enter Tryz.func338, Tryz.ntmps338
 go_wp2_with fail
 refine c1.mono ?_
 rintro e w1 ⟨rfl, rfl⟩
 go_wp2
 go_ret2
 exact ⟨rfl, HP.out⟩
theorem mul_any (A C : Option Addr) (n c m d : Nat) (l k : List Nat) (w : World) (hn : l.length = n) (hc : n ≤ c) (hm : n ≤ 35184372088832) (h : RW w w.heap.size A l)
  (gn : k.length = m) (gc : m ≤ d) (gm : m ≤ 35184372088832) (g : RW w w.heap.size C k) :
  Cp 338 #[.slice A n c, .slice C m d] w (MulPost (val l) (val k) w) := by
 cases hl : (lngB (val l) || lngB (val k))
 ·exact (mul_ok A C n c m d l k w hn hc hm h gn gc gm g hl).mono (fun e w' x => by unfold MulPost; rw [if_neg (by rw [hl]; simp)]; exact x)
 ·exact (mul_long A C n c m d l k w hn hc hm h gn gc gm g hl).mono (fun e w' x => by unfold MulPost; rw [if_pos hl]; exact x)
theorem lng_small {v : Nat} (h : v < 4294967296) : lngB v = false := by
 unfold lngB
 have := wds_len_lt (n := v) (k := 1) (by simpa using h)
 exact decide_eq_false (by omega)
theorem NatPost.get {v : Nat} {w w' : World} {e : Ending} (h : NatPost v w e w') (hl : lngB v = false) : ∃ A c, e = .returned (.tuple #[.slice A (wds v).length c, .int .i64 0]) ∧ ((wds v).length ≤ c ∧ RW w' w'.heap.size A (wds v)) ∧ Below w.heap.size w w' := by
 obtain ⟨A, n, c, k, h1, h2, h3⟩ := h
 rw [if_neg (by rw [hl]; simp)] at h2
 obtain ⟨rfl, h4, rfl, h5⟩ := h2
 exact ⟨A, c, h1, ⟨h4, h5⟩, h3⟩
open Go.ChangeShapes Go.WideShapes Go.ChangeAt Go.RowKit
theorem own : ownKnob Tryz.prog.godebug = none := by kernel_rfl
open Go.RowKit
def strOf (l : List Nat) : ByteArray := ⟨(l.map UInt8.ofNat).toArray⟩
def bl (s : ByteArray) : List Nat := s.data.toList.map UInt8.toNat
theorem bl_strOf {l : List Nat} (h : ∀ u ∈ l, u < 256) : bl (strOf l) = l := by
 unfold bl strOf
 simp only [List.map_map]
 conv => rhs; rw [← List.map_id l]
 refine List.map_congr_left (fun u hu => ?_)
 have := h u hu
 simp
 omega
theorem bl_len (s : ByteArray) : (bl s).length = s.size := by unfold bl; rw [List.length_map]; rfl
theorem bl_inj {s t : ByteArray} (h : bl s = bl t) : s = t := by
 apply ByteArray.ext
 apply Array.toList_inj.1
 unfold bl at h
 exact (List.map_inj_right (fun a b hab => UInt8.toNat_inj.1 hab)).1 h
theorem bl_get (s : ByteArray) (k : Nat) (h : k < s.size) : (bl s)[k]? = some (s[k]'h).toNat := by
 unfold bl
 rw [List.getElem?_map]
 have : s.data.toList[k]? = some (s[k]'h) := by rw [Array.getElem?_toList, Array.getElem?_eq_getElem (by exact h)]; rfl
 rw [this]; rfl
theorem bl_drop (s : ByteArray) (k : Nat) : bl (s.extract k s.size) = (bl s).drop k := by
 unfold bl
 rw [← List.map_drop]
 congr 1
 simp only [ByteArray.data_extract, Array.toList_extract, List.extract]
 exact List.take_of_length_le (by simp)
open Go.RowKit
theorem word_nat (A : Option Addr) (n c i : Nat) (l : List Nat) (B : Nat) (w : World) (hn : l.length = n) (hm : n ≤ 35184372088832) (h : RW w B A l) :
  Cq 329 #[.slice A n c, .int .i64 i] (.int .u32 (l.getD i 0 : Nat)) w := by
 by_cases hi : i < n
 ·obtain ⟨b, off, rfl, _, hc⟩ := h.2 (by omega)
  have hcell := hc i _ (getD_some (by omega))
  obtain ⟨u, hu⟩ : ∃ u, l.getD i 0 = u := ⟨_, rfl⟩
  rw [hu] at hcell ⊢
  have h0 : decide ((i : Int) < 0) = false := by simp
  have h1 : decide (n ≤ i) = false := by simp; omega
  have h3 : (i : Int) < (n : Int) := by omega
  have h2 : (n : Int) ≤ 35184372088832 := by omega
  clear hn hm h hc hu hi
  go_enter Tryz.func329, Tryz.ntmps329
  go_wp2
  go_ret
  exact ⟨rfl, rfl⟩
 ·have e : l.getD i 0 = 0 := getD_none (by omega)
  rw [e]
  have h0 : decide ((i : Int) < 0) = false := by simp
  have h1 : (n : Int) ≤ (i : Int) := by omega
  clear hn hm h e hi
  go_enter Tryz.func329, Tryz.ntmps329
  go_wp2
  go_ret
  exact ⟨rfl, rfl⟩
theorem word_neg (A : Option Addr) (n c : Nat) (w : World) :
  Cq 329 #[.slice A n c, .int .i64 (-1)] (.int .u32 0) w := by
 go_enter Tryz.func329, Tryz.ntmps329
 go_wp2
 go_ret
 exact ⟨rfl, rfl⟩
theorem OwnW.snoc {B : Nat} {L : List Nat} {u : Nat} {v : Value} {w : World} (h : w.ownsRow B 156 1 v (L.length + 1) (L.map (fun u => Value.int .u32 (u : Nat)) ++ [Value.int .u32 (u : Nat)])) : OwnW B (L ++ [u]) v w := by
 unfold OwnW
 rw [List.length_append, List.map_append]
 exact h
open Go.RowKit
theorem pdigit_any (c : Nat) (w : World) (hc : c < 256) :
  Cq 335 #[.int .u8 c] (.int .i64 (dgt c : Nat)) w := by
 have k0 : IntKind.u8.wrap ((c : Int) - 48) = (c : Int) - 48 ∨ ¬ (48 ≤ c) := by
  by_cases h : 48 ≤ c
  ·exact .inl (by rw [IntKind.wrap_u8]; omega)
  ·exact .inr h
 have k1 : IntKind.u8.wrap ((c : Int) - 97) = (c : Int) - 97 ∨ ¬ (97 ≤ c) := by
  by_cases h : 97 ≤ c
  ·exact .inl (by rw [IntKind.wrap_u8]; omega)
  ·exact .inr h
 have k2 : IntKind.u8.wrap ((c : Int) - 65) = (c : Int) - 65 ∨ ¬ (65 ≤ c) := by
  by_cases h : 65 ≤ c
  ·exact .inl (by rw [IntKind.wrap_u8]; omega)
  ·exact .inr h
 unfold dgt
 by_cases h1 : 48 ≤ c ∧ c ≤ 57
 ·rw [if_pos h1]
  have a1 : (48 : Int) ≤ (c : Int) := by omega
  have a2 : (c : Int) ≤ 57 := by omega
  have e := k0.resolve_right (fun h => h h1.1)
  have e2 : IntKind.i64.wrap ((c : Int) - 48) = ((c - 48 : Nat) : Int) := by rw [IntWalk.i64_in _ (by omega)]; omega
  clear h1 k0 k1 k2 hc
  go_enter Tryz.func335, Tryz.ntmps335
  go_wp2
  go_ret
  exact ⟨by first | rfl | (rw [e2]), rfl⟩
 ·rw [if_neg h1]
  by_cases h2 : 97 ≤ c ∧ c ≤ 122
  ·rw [if_pos h2]
   have a1 : (48 : Int) ≤ (c : Int) := by omega
   have a2 : ¬ (c : Int) ≤ 57 := by omega
   have a3 : (97 : Int) ≤ (c : Int) := by omega
   have a4 : (c : Int) ≤ 122 := by omega
   have e := k1.resolve_right (fun h => h h2.1)
   have e2 : IntKind.i64.wrap ((c : Int) - 97) = (c : Int) - 97 := IntWalk.i64_in _ (by omega)
   have e3 : IntKind.i64.wrap ((c : Int) - 97 + 10) = ((c - 97 + 10 : Nat) : Int) := by rw [IntWalk.i64_in _ (by omega)]; omega
   clear h1 h2 k0 k1 k2 hc
   go_enter Tryz.func335, Tryz.ntmps335
   go_wp2
   go_ret
   exact ⟨by first | rfl | (rw [e3]), rfl⟩
  ·rw [if_neg h2]
   by_cases h3 : 65 ≤ c ∧ c ≤ 90
   ·rw [if_pos h3]
    have a1 : (48 : Int) ≤ (c : Int) := by omega
    have a2 : ¬ (c : Int) ≤ 57 := by omega
    have a3 : ¬ (97 : Int) ≤ (c : Int) := by omega
    have a5 : (65 : Int) ≤ (c : Int) := by omega
    have a6 : (c : Int) ≤ 90 := by omega
    have e := k2.resolve_right (fun h => h h3.1)
    have e2 : IntKind.i64.wrap ((c : Int) - 65) = (c : Int) - 65 := IntWalk.i64_in _ (by omega)
    have e3 : IntKind.i64.wrap ((c : Int) - 65 + 10) = ((c - 65 + 10 : Nat) : Int) := by rw [IntWalk.i64_in _ (by omega)]; omega
    clear h1 h2 h3 k0 k1 k2 hc
    go_enter Tryz.func335, Tryz.ntmps335
    go_wp2
    go_ret
    exact ⟨by first | rfl | (rw [e3]), rfl⟩
   ·rw [if_neg h3]
    clear k0 k1 k2
    have hcc : ((48 : Int) ≤ (c : Int) ∧ ¬ (c : Int) ≤ 57) ∨ ¬ (48 : Int) ≤ (c : Int) := by omega
    have hcd : ((97 : Int) ≤ (c : Int) ∧ ¬ (c : Int) ≤ 122) ∨ ¬ (97 : Int) ≤ (c : Int) := by omega
    have hce : ((65 : Int) ≤ (c : Int) ∧ ¬ (c : Int) ≤ 90) ∨ ¬ (65 : Int) ≤ (c : Int) := by omega
    clear h1 h2 h3 hc
    rcases hcc with ⟨a1, a2⟩ | a1 <;> rcases hcd with ⟨a3, a4⟩ | a3 <;> rcases hce with ⟨a5, a6⟩ | a5
    all_goals
     go_enter Tryz.func335, Tryz.ntmps335
     go_wp2
     go_ret
     exact ⟨rfl, rfl⟩
theorem group_any (r : Nat) (w : World) (h2 : 2 ≤ r) (h36 : r ≤ 36) :
  Cp 298 #[.int .i64 r] w fun e w' => (∃ c p : Nat, e = .returned (.tuple #[.int .i64 (c : Nat), .int .u32 (p : Nat)]) ∧ p = r ^ c ∧ 1 ≤ c ∧ c ≤ 32 ∧ p < 4294967296) ∧ w = w' := by
 have k0 : IntKind.u64.wrap (r : Int) = (r : Int) := IntWalk.u64_in _ (by omega)
 have H2 := Lib.hid h2
 have H36 := Lib.hid h36
 clear h2 h36
 go_enter Tryz.func298, Tryz.ntmps298
 go_wp2
 go_loopw [4, 5] (fun cv pw wr => ∃ c p : Nat, cv = .int .i64 (c : Nat) ∧ pw = .int .u64 (p : Nat) ∧ Hid (p = r ^ c) ∧ Hid (1 ≤ c) ∧ Hid (p < 4294967296) ∧ w = wr) (fun _ pw _ => 4294967296 - (intOf pw).toNat)
 case atStart => exact ⟨1, r, rfl, rfl, Lib.hid (by rw [Nat.pow_one]), Lib.hid (Nat.le_refl _), Lib.hid (by have := H36.out; omega), rfl⟩
 case round =>
  obtain ⟨c, p, rfl, rfl, HP, HC, HL, rfl⟩ := hrel
  have hc32 : c < 32 := by
   have h1 : 2 ^ c ≤ r ^ c := Nat.pow_le_pow_left H2.out c
   have h3 := HL.out
   rw [HP.out] at h3
   exact (Nat.pow_lt_pow_iff_right (a := 2) (by omega)).1 (Nat.lt_of_le_of_lt h1 (show r ^ c < 2 ^ 32 from h3))
  obtain ⟨t, ht⟩ : ∃ t, p * r = t := ⟨_, rfl⟩
  have htl : t ≤ 4294967295 * 36 := by rw [← ht]; exact Nat.mul_le_mul (by have := HL.out; omega) H36.out
  have k1 : IntKind.u64.wrap ((p : Int) * (r : Int)) = (t : Int) := by
   have e : ((p : Int) * (r : Int)) = ((p * r : Nat) : Int) := (Int.natCast_mul p r).symm
   rw [e, ht]
   exact IntWalk.u64_in _ (by omega)
  have HT := Lib.hid ht
  by_cases hle : t ≤ 4294967295
  ·have a1 : (t : Int) ≤ 4294967295 := by omega
   have HPN := Lib.hid (show t = r ^ (c + 1) by rw [← HT.out, HP.out, Nat.pow_succ])
   have HTP := Lib.hid (show p < t by
    have h1 : p * 2 ≤ p * r := Nat.mul_le_mul_left _ H2.out
    have h3 : 0 < r ^ c := Nat.pow_pos (by have := H2.out; omega)
    have h4 := HP.out
    have h5 := HT.out
    omega)
   have hcc : (c : Int) < 32 := by omega
   clear ht htl hle
   go_wp2
   go_roundw
   case rel => exact ⟨c + 1, t, by go_num, rfl, HPN, Lib.hid (by omega), Lib.hid (by omega), trivial⟩
   case measure => have := HTP.out; simp [intOf]; omega
  ·have a1 : ¬ (t : Int) ≤ 4294967295 := by omega
   have k2 : IntKind.u32.wrap (p : Int) = (p : Int) := IntWalk.u32_in _ (by have := HL.out; omega)
   clear ht htl hle
   go_wp2
   go_ret2
   exact ⟨⟨c, p, rfl, HP.out, HC.out, by omega, HL.out⟩, rfl⟩

open Go.RowKit
def adB (r : Nat) (s : ByteArray) : Bool := decide (0 < s.size) && decide (∀ i, i < s.size → dgt (btn s i) < r)
theorem adB_no {r : Nat} {s : ByteArray} {i : Nat} (hi : i < s.size) (h : ¬ dgt (btn s i) < r) : adB r s = false := by
 unfold adB
 rw [decide_eq_false (p := ∀ i, i < s.size → dgt (btn s i) < r) (fun a => h (a i hi)), Bool.and_false]
theorem adB_yes {r : Nat} {s : ByteArray} (h : ∀ i, i < s.size → dgt (btn s i) < r) : adB r s = decide (0 < s.size) := by
 unfold adB
 rw [decide_eq_true h, Bool.and_true]
theorem allDigits_any (s : ByteArray) (r : Nat) (w : World) (hs : s.size ≤ 4611686018427387903) (h36 : r ≤ 36) :
  Cq 297 #[.string s, .int .i64 r] (.bool (adB r s)) w := by
 have hs1 : (s.size : Int) ≤ 4611686018427387903 := by omega
 have H36 := Lib.hid h36
 clear hs h36
 go_enter Tryz.func297, Tryz.ntmps297
 go_wp2
 go_loopw [8] (fun iv wr => ∃ k : Nat, iv = .int .i64 (k : Nat) ∧ k ≤ s.size ∧ Hid (∀ i, i < k → dgt (btn s i) < r) ∧ w = wr) (fun iv _ => s.size - (intOf iv).toNat)
 case atStart => exact ⟨0, rfl, Nat.zero_le _, Lib.hid (fun i hi => by omega), rfl⟩
 case round =>
  obtain ⟨k, rfl, hk, HD, rfl⟩ := hrel
  by_cases hlt : k < s.size
  ·have C1 := Lib.hid (fun W => show Cp 335 #[.int .u8 ((s[k]'hlt).toNat : Nat)] W fun e w' => e = .returned (.int .i64 (dgt (btn s k) : Nat)) ∧ W = w' from by
    rw [btn_eq s k hlt]; exact pdigit_any _ W (btn_lt s k))
   have hk1 : (k : Int) < (s.size : Int) := by omega
   have hd := dgt_le (btn s k)
   obtain ⟨d, hde⟩ : ∃ d, dgt (btn s k) = d := ⟨_, rfl⟩
   rw [hde] at C1 hd
   by_cases hdr : d < r
   ·have HD2 := Lib.hid (show ∀ i, i < k + 1 → dgt (btn s i) < r from fun i hi => by
     by_cases e : i = k
     ·rw [e, hde]; exact hdr
     ·exact HD.out i (by omega))
    have a1 : ¬ (r : Int) ≤ (d : Int) := by omega
    clear hde hdr hd
    go_wp2_with fail
    refine (C1.out _).mono ?_
    rintro e w' ⟨rfl, rfl⟩
    go_wp2
    go_roundw
    case rel => exact ⟨k + 1, by go_num, by omega, HD2, trivial⟩
    case measure => simp [intOf]; omega
   ·have HF := Lib.hid (adB_no (r := r) hlt (by rw [hde]; exact hdr))
    have a1 : (r : Int) ≤ (d : Int) := by omega
    clear hde hdr hd
    go_wp2_with fail
    refine (C1.out _).mono ?_
    rintro e w' ⟨rfl, rfl⟩
    go_wp2
    go_ret
    exact ⟨ret_bool HF.out.symm, rfl⟩
  ·have HF := Lib.hid (adB_yes (r := r) (s := s) (fun i hi => HD.out i (by omega)))
   have hks : k = s.size := by omega
   subst hks
   clear hlt
   go_wp2
   go_ret
   exact ⟨(ret_bool (by simp)).trans (ret_bool HF.out.symm), rfl⟩
theorem small_any (s : ByteArray) (r : Nat) (w : World) (h36 : r ≤ 36) (h2 : 2 ≤ r) (hp : r ^ s.size < 4294967296) (hd : ∀ i, i < s.size → dgt (btn s i) < r) :
  Cq 299 #[.string s, .int .i64 r] (.tuple #[.int .u32 (pv r (fun i => dgt (btn s i)) s.size : Nat), .int .u32 (r ^ s.size : Nat)]) w := by
 have hs32 : s.size < 32 := by
  have h1 : 2 ^ s.size ≤ r ^ s.size := Nat.pow_le_pow_left h2 _
  exact (Nat.pow_lt_pow_iff_right (a := 2) (by omega)).1 (Nat.lt_of_le_of_lt h1 (show r ^ s.size < 2 ^ 32 from hp))
 have hs1 : (s.size : Int) ≤ 32 := by omega
 have k0 : IntKind.u32.wrap (r : Int) = (r : Int) := IntWalk.u32_in _ (by omega)
 have H2 := Lib.hid h2
 have HP := Lib.hid hp
 have HD := Lib.hid hd
 clear h36 h2 hp hd hs32
 go_enter Tryz.func299, Tryz.ntmps299
 go_wp2
 go_loopw [6, 7, 11] (fun vv pw iv wr => ∃ k : Nat, iv = .int .i64 (k : Nat) ∧ vv = .int .u32 (pv r (fun i => dgt (btn s i)) k : Nat) ∧ pw = .int .u32 (r ^ k : Nat) ∧ k ≤ s.size ∧ w = wr) (fun _ _ iv _ => s.size - (intOf iv).toNat)
 case atStart => exact ⟨0, rfl, rfl, rfl, Nat.zero_le _, rfl⟩
 case round =>
  obtain ⟨k, rfl, rfl, rfl, hk, rfl⟩ := hrel
  by_cases hlt : k < s.size
  ·have C1 := Lib.hid (fun W => show Cp 335 #[.int .u8 ((s[k]'hlt).toNat : Nat)] W fun e w' => e = .returned (.int .i64 (dgt (btn s k) : Nat)) ∧ W = w' from by
    rw [btn_eq s k hlt]; exact pdigit_any _ W (btn_lt s k))
   have hk1 : (k : Int) < (s.size : Int) := by omega
   have hle := dgt_le (btn s k)
   have hv1 : pv r (fun i => dgt (btn s i)) (k + 1) < r ^ (k + 1) := pv_lt (fun i hi => HD.out i (by omega))
   have hp1 : r ^ (k + 1) < 4294967296 := Nat.lt_of_le_of_lt (Nat.pow_le_pow_right (by have := H2.out; omega) hlt) HP.out
   have ev : pv r (fun i => dgt (btn s i)) (k + 1) = pv r (fun i => dgt (btn s i)) k * r + dgt (btn s k) := rfl
   have ep : r ^ (k + 1) = r ^ k * r := Nat.pow_succ _ _
   obtain ⟨d, hde⟩ : ∃ d, dgt (btn s k) = d := ⟨_, rfl⟩
   rw [hde] at C1 hle ev
   obtain ⟨V, hV⟩ : ∃ V, pv r (fun i => dgt (btn s i)) k = V := ⟨_, rfl⟩
   obtain ⟨V1, hV1⟩ : ∃ V1, pv r (fun i => dgt (btn s i)) (k + 1) = V1 := ⟨_, rfl⟩
   obtain ⟨P, hP⟩ : ∃ P, r ^ k = P := ⟨_, rfl⟩
   obtain ⟨P1, hP1⟩ : ∃ P1, r ^ (k + 1) = P1 := ⟨_, rfl⟩
   have HV1 := Lib.hid hV1
   have HP1 := Lib.hid hP1
   rw [hV, hV1] at ev
   rw [hP1, hP] at ep
   rw [hV1, hP1] at hv1
   rw [hP1] at hp1
   rw [hV, hP]
   obtain ⟨t, ht⟩ : ∃ t, V * r = t := ⟨_, rfl⟩
   rw [ht] at ev
   have k1 : IntKind.u32.wrap ((V : Int) * (r : Int)) = (t : Int) := by
    rw [show ((V : Int) * (r : Int)) = ((V * r : Nat) : Int) from (Int.natCast_mul V r).symm, ht]; exact IntWalk.u32_in _ (by omega)
   have k2 : IntKind.u32.wrap (d : Int) = (d : Int) := IntWalk.u32_in _ (by omega)
   have k3 : IntKind.u32.wrap ((t : Int) + (d : Int)) = (V1 : Int) := by rw [IntWalk.u32_in _ (by omega)]; omega
   have k4 : IntKind.u32.wrap ((P : Int) * (r : Int)) = (P1 : Int) := by
    rw [show ((P : Int) * (r : Int)) = ((P * r : Nat) : Int) from (Int.natCast_mul P r).symm, ← ep]; exact IntWalk.u32_in _ (by omega)
   clear hle hv1 hp1 ev ep hde hV hV1 hP hP1 ht
   go_wp2_with fail
   refine (C1.out _).mono ?_
   rintro e w' ⟨rfl, rfl⟩
   go_wp2
   go_roundw
   case rel => exact ⟨k + 1, by go_num, by rw [HV1.out], by rw [HP1.out], by omega, trivial⟩
   case measure => simp [intOf]; omega
  ·have hks : k = s.size := by omega
   rw [hks]
   clear hlt hk hks
   go_wp2
   go_ret2
   exact ⟨rfl, rfl⟩

open Go.RowKit
open Go.RowKit
open Go.RowKit
theorem or_cast (x y P Q : Nat) (hxy : x * P % 4294967296 < 4294967296) (hq : y / Q < 4294967296) : bits BinOp.or IntKind.u32 ((x : Int) * (P : Nat) % 4294967296) ((y : Int) / (Q : Nat)) = ((x * P % 4294967296 ||| y / Q : Nat) : Int) := by
 rw [← or_u32 _ _ hxy hq]; rfl
theorem or_shl (x y s : Nat) (hs : s < 32) (hy : y < 4294967296) : bits BinOp.or IntKind.u32 ((x : Int) * 2 ^ s % 4294967296) ((y : Int) / 2 ^ (32 - s)) = ((x * 2 ^ s % 4294967296 + y / 2 ^ (32 - s) : Nat) : Int) := by
 rw [← or_low x y s (by omega) hy, ← or_cast x y _ _ (Nat.mod_lt _ (by omega)) (Nat.lt_of_le_of_lt (Nat.div_le_self _ _) hy), Int.natCast_pow, Int.natCast_pow]
 rfl
theorem or_zero (x s : Nat) : bits BinOp.or IntKind.u32 ((x : Int) * 2 ^ s % 4294967296) 0 = ((x * 2 ^ s % 4294967296 + 0 : Nat) : Int) := by
 have h : x * 2 ^ s % 4294967296 < 4294967296 := Nat.mod_lt _ (by omega)
 have e : ((x : Int) * 2 ^ s % 4294967296) = ((x * 2 ^ s % 4294967296 : Nat) : Int) := by rw [Int.natCast_emod, Int.natCast_mul, Int.natCast_pow]; rfl
 rw [e, show (0 : Int) = ((0 : Nat) : Int) from rfl, or_u32 _ _ h (by omega), Nat.or_zero, Nat.add_zero]
theorem shl_any (g o n c s : Nat) (R : List Nat) (A : Option Addr) (m d : Nat) (b : List Nat) (B : Nat) (w : World) (hR : Row w g R) (hRw : Ws R) (ho : o + n ≤ R.length) (hbl : b.length = m) (hm : m ≤ 4096) (hn : n ≤ 4096)
  (hB : RW w B A b) (hgB : B ≤ g) (hs : s < 32) :
  Cp 366 #[.slice (some ⟨g, o, none⟩) n c, .slice A m d, .int .i64 s] w (fun e w' => e = .returned (.tuple #[]) ∧ ∃ S, ShlP R o b s n S ∧ Row w' g S ∧ Below g w w') := by
 have hn1 : (n : Int) ≤ 4096 := by omega
 have hs1 : (s : Int) < 32 := by omega
 have hs0 : (0 : Int) ≤ (s : Int) := by omega
 have hB2 := Lib.hid hB
 have HR := Lib.hid hR
 have HSTART := Lib.hid (ShlP.start o b s hRw)
 clear hR
 go_enter Tryz.func366, Tryz.ntmps366
 go_wp2
 go_loopw [9] (fun i wr => ∃ (k : Nat) (S : List Nat), i = .int .i64 k ∧ k ≤ n ∧ Hid (Row wr g S) ∧ Hid (ShlP R o b s k S) ∧ Below g w wr) (fun i _ => n - (intOf i).toNat)
 case atStart => exact ⟨0, R, rfl, Nat.zero_le _, HR, HSTART, Below.refl _ _⟩
 case round =>
  obtain ⟨k, S, rfl, hk, HRS, HS, hbw⟩ := hrel
  by_cases hlt : k < n
  ·have hS := HRS.out.cell (o + k) (by have := HS.out.len; omega)
   have hfz := HRS.out.frozen (o + k)
   have HNX := Lib.hid (HS.out.next hB2.out.1 (by omega) (by have := HS.out.len; omega))
   have HROW := Lib.hid (HRS.out.set (o + k) (shlW b s k))
   have C1 := Lib.hid (fun W (hW : Below g w W) => word_nat A m d k b B W hbl (by omega) (hB2.out.below (hW.mono hgB)))
   have hbd := below_drewN' hbw 1
   have HBS := Lib.hid (show Below g w (wr.setCell ⟨g, o + k, none⟩ (.int .u32 (shlW b s k : Nat))) from hbw.setCell (Nat.le_refl _) _)
   obtain ⟨x, hx⟩ : ∃ x, b.getD k 0 = x := ⟨_, rfl⟩
   rw [hx] at C1
   have hkk : (k : Int) < (n : Int) := by omega
   have e2 : IntKind.i64.wrap (32 - (s : Int)) = 32 - (s : Int) := IntWalk.i64_in _ (by omega)
   have e3 : (0 : Int) ≤ 32 - (s : Int) := by omega
   rcases Nat.eq_zero_or_pos k with hk0 | hk0
   ·subst hk0
    have C2 := Lib.hid (fun W => word_neg A m d W)
    have HW := Lib.hid (show ((shlW b s 0 : Nat) : Int) = bits BinOp.or IntKind.u32 ((x : Int) * 2 ^ s % 4294967296) 0 by
     rw [or_zero]; unfold shlW carL; rw [hx, if_pos rfl])
    have e1 : IntKind.i64.wrap (-1) = -1 := rfl
    rw [show ((0 : Nat) : Int) = 0 from rfl] at C1
    rw [Nat.add_zero] at hS hfz HROW HNX HBS
    clear hx hB ho hbl
    go_wp2
    go_region_with (first
       | (go_at_call 329; (with_reducible refine (C2.out _).mono ?_); rintro e w' ⟨rfl, rfl⟩)
       | (go_at_call 329; (with_reducible refine (C1.out _ ?_).mono ?_); exact hbd; rintro e w' ⟨rfl, rfl⟩))
    all_goals
     go_wp2_with fail
     rw [← HW.out]
     exact ⟨⟨0 + 1, _, rfl, hlt, HROW, HNX, below_drewN' HBS.out 1⟩, by simp [intOf]; omega⟩
   ·obtain ⟨j, rfl⟩ : ∃ j, k = j + 1 := ⟨k - 1, by omega⟩
    have C2 := Lib.hid (fun W (hW : Below g w W) => word_nat A m d j b B W hbl (by omega) (hB2.out.below (hW.mono hgB)))
    obtain ⟨y, hy⟩ : ∃ y, b.getD j 0 = y := ⟨_, rfl⟩
    rw [hy] at C2
    have HW := Lib.hid (show ((shlW b s (j + 1) : Nat) : Int) = bits BinOp.or IntKind.u32 ((x : Int) * 2 ^ s % 4294967296) ((y : Int) / 2 ^ (32 - s)) by
     rw [or_shl x y s hs (by rw [← hy]; exact hB2.out.1.getD j)]
     unfold shlW carL; rw [hx, if_neg (by omega), Nat.add_sub_cancel, hy])
    rw [show ((j + 1 : Nat) : Int) = (j : Int) + 1 by omega] at C1 hkk
    have e1 : IntKind.i64.wrap (j : Int) = (j : Int) := IntWalk.i64_in _ (by omega)
    clear hx hy hB ho hbl hk0 hk
    go_wp2
    go_region_with (first
       | (go_at_call 329; (with_reducible refine (C1.out _ ?_).mono ?_); exact hbd; rintro e w' ⟨rfl, rfl⟩)
       | (go_at_call 329; (with_reducible refine (C2.out _ ?_).mono ?_); exact hbd; rintro e w' ⟨rfl, rfl⟩))
    all_goals
     go_wp2_with fail
     rw [← HW.out]
     exact ⟨⟨j + 1 + 1, _, rfl, hlt, HROW, HNX, below_drewN' HBS.out 1⟩, by simp [intOf]; omega⟩
  ·have hkn : k = n := by omega
   subst hkn
   clear hlt hbl
   go_wp2
   go_end0
   exact ⟨rfl, S, HS.out, HRS.out, hbw⟩

open Go.RowKit
theorem div32_any (hi lo y : Nat) (w : World) (h : hi < y) (hl : lo < 4294967296) (hy : y < 4294967296) :
  Cp 387 #[.int .u32 hi, .int .u32 lo, .int .u32 y] w fun e w' => e = .returned (.tuple #[.int .u32 (((hi * 4294967296 + lo) / y : Nat) : Int), .int .u32 (((hi * 4294967296 + lo) % y : Nat) : Int)]) ∧ ∃ j, w' = w.drewN j := by
 have k1 : IntKind.u64.wrap (hi : Int) = (hi : Int) := IntWalk.u64_in _ (by omega)
 have k2 : IntKind.u64.wrap (lo : Int) = (lo : Int) := IntWalk.u64_in _ (by omega)
 have k3 : IntKind.u64.wrap (y : Int) = (y : Int) := IntWalk.u64_in _ (by omega)
 obtain ⟨U, hU⟩ : ∃ U, hi * 4294967296 = U := ⟨_, rfl⟩
 have k4 : IntKind.u64.wrap ((hi : Int) * 4294967296) = (U : Int) := by rw [IntWalk.u64_in _ (by omega)]; omega
 have hor := two_word hi lo hl
 rw [hU] at hor ⊢
 obtain ⟨t, ht⟩ : ∃ t, U + lo = t := ⟨_, rfl⟩
 rw [ht] at hor ⊢
 have k5 : bits BinOp.or IntKind.u64 (U : Int) (lo : Int) = (t : Int) := by rw [or_u64 U lo (by omega) (by omega), hor]
 have hq : t / y < 4294967296 := by rw [Nat.div_lt_iff_lt_mul (by omega)]; have : (hi + 1) * 4294967296 ≤ y * 4294967296 := Nat.mul_le_mul_right _ h; omega
 have hr : t % y < 4294967296 := Nat.lt_trans (Nat.mod_lt _ (by omega)) hy
 obtain ⟨q, hqe⟩ : ∃ q, t / y = q := ⟨_, rfl⟩
 obtain ⟨r, hre⟩ : ∃ r, t % y = r := ⟨_, rfl⟩
 have k6 : (t : Int) / (y : Int) = (q : Int) := by rw [← hqe]; exact (Int.natCast_ediv t y).symm
 have k7 : (t : Int) % (y : Int) = (r : Int) := by rw [← hre]; exact (Int.natCast_emod t y).symm
 rw [hqe] at hq ⊢
 rw [hre] at hr ⊢
 have k8 : IntKind.u32.wrap (q : Int) = (q : Int) := IntWalk.u32_in _ (by omega)
 have k10 : IntKind.u64.wrap (q : Int) = (q : Int) := IntWalk.u64_in _ (by omega)
 have k9 : IntKind.u32.wrap (r : Int) = (r : Int) := IntWalk.u32_in _ (by omega)
 have y0 : ((y : Int) == 0) = false := by simp; omega
 have y1 : (hi : Int) < (y : Int) := by omega
 have y2 : ¬ (y : Int) = 0 := by omega
 clear h hl hy hU hor ht hq hr hqe hre
 go_enter Tryz.func387, Tryz.ntmps387
 go_wp2
 go_quiet (fail)
 go_wp2
 go_ret2
 exact ⟨rfl, _, rfl⟩
theorem norm_row (A : Option Addr) (n c : Nat) (l : List Nat) (w : World) (hn : l.length = n) (hc : n ≤ c) (hm : n ≤ 35184372088832) (h : RW w w.heap.size A l) :
  Cp 358 #[.slice A n c] w (fun e w' => e = .returned (.slice (some ⟨w.heap.size, 0, none⟩) (nrm l).length (nrm l).length) ∧ Row w' w.heap.size (nrm l) ∧ Below w.heap.size w w') := by
 have c1 := fun W (h : RW W w.heap.size A l) => cut_any A n c l w.heap.size W hn hc hm h
 obtain ⟨m, hm0⟩ : ∃ m, (nrm l).length = m := ⟨_, rfl⟩
 have hle : m ≤ n := by rw [← hm0, ← hn]; exact nrm_len l
 rw [hm0] at c1 ⊢
 have hmk := run_make_row' (P := Tryz.prog) 180 156 (.int .u32 0) 4 Tryz.underlying180 infoW rfl .i64 .i64 m (by omega) (by omega) w
 have hmade := World.rowIs_made w (.int .u32 0) m 156
 have HC := Lib.hid (h.nrm)
 have HM := Lib.hid hm0
 have hm1 : (m : Int) ≤ 35184372088832 := by omega
 have HR := Lib.hid h
 have HX := Lib.hid hmade
 clear h hn hc hm hm0 hle hmade
 go_enter Tryz.func358, Tryz.ntmps358
 go_wp2_with (first | (go_at_call 336; refine (c1 _ HR.out).mono ?_; rintro e w' ⟨rfl, rfl⟩) | (with_reducible refine wpList_copy_splice rfl (.tmp 9) (.tmp 10) 180 180 rfl 156 Tryz.underlying180 (by kernel_rfl) (some ⟨w.heap.size, 0, none⟩) A m m m m ?e1 ?e2 w.heap.size 0 (List.replicate m (.int .u32 0)) 156 ?k1 ((nrm l).map fun u => Value.int .u32 (u : Nat)) ?k2 ?k3 ?k4 ?k5 w.heap.size w ?k6 (Nat.le_refl _) ?_))
 case e1 => rfl
 case e2 => rfl
 case k1 =>
  have e := heap_alloc_new w (.cells (madeCells #[Value.int .u32 0] m) 156)
  rw [show madeCells #[Value.int .u32 0] m = (List.replicate m (Value.int .u32 0)).toArray from Array.toList_inj.1 (by rw [toList_madeCells_one, List.toList_toArray])] at e ⊢
  exact e
 case k2 => rw [List.length_map, HM.out]; exact (Nat.min_self _).symm
 case k3 =>
  intro hp
  have hp' : 0 < (nrm l).length := by simpa using hp
  obtain ⟨b, off, e, hb, hc⟩ := HC.out.2 hp'
  refine ⟨⟨b, off, none⟩, e, fun j u hu => ?_⟩
  rw [World.cell?_alloc_lt]
  ·exact rw_news hc j _ (by rw [List.getElem?_map, hu]; rfl)
  ·unfold Addr.add; split <;> exact hb
 case k4 => rw [List.length_map, HM.out, List.length_replicate]; omega
 case k5 => exact rw_one _
 case k6 => exact (Below.refl _ _).alloc (Nat.le_refl _) _
 intro w2 HG2 hB2
 go_wp2
 go_ret
 refine ⟨rfl, ?_, hB2⟩
 have hG := HG2.out
 have e : splice (List.replicate m (Value.int .u32 0)) 0 ((nrm l).map fun u => Value.int .u32 (u : Nat)) = (nrm l).map fun u => Value.int .u32 (u : Nat) := by
  unfold splice
  rw [List.take_zero, List.nil_append, List.drop_of_length_le (by rw [List.length_replicate, List.length_map, HM.out]; omega), List.append_nil]
 rw [e] at hG
 exact hG
theorem divideWord_any (g n c d : Nat) (a : List Nat) (w : World) (hR : Row w g a) (hw : Ws a) (hn : a.length = n) (hm : n ≤ 35184372088832) (hd : d < 4294967296) (hd0 : 0 < d) :
  Cp 367 #[.slice (some ⟨g, 0, none⟩) n c, .int .u32 d] w (fun e w' => e = .returned (.int .u32 ((val a % d : Nat) : Int)) ∧ ∃ S, Row w' g S ∧ S.length = n ∧ Ws S ∧ val S = val a / d ∧ Below g w w') := by
 have HR := Lib.hid hR
 have HW := Lib.hid hw
 have HN := Lib.hid hn
 have hm1 : (n : Int) ≤ 35184372088832 := by omega
 have HD := Lib.hid hd
 have HD0 := Lib.hid hd0
 have HST := Lib.hid (show WordT a d n a 0 from hn ▸ WordT.start hw hd0)
 clear hR hw hn hm hd hd0
 go_enter Tryz.func367, Tryz.ntmps367
 go_wp2
 go_loopw [5, 6] (fun v i wr => ∃ (k : Nat) (S : List Nat) (r : Nat), i = .int .i64 ((k : Int) - 1) ∧ v = .int .u32 (r : Nat) ∧ k ≤ n ∧ Hid (Row wr g S) ∧ Hid (WordT a d k S r) ∧ Below g w wr) (fun _ i _ => (intOf i + 1).toNat)
 case atStart => exact ⟨n, a, 0, rfl, rfl, Nat.le_refl _, HR, HST, Below.refl _ _⟩
 case round =>
  obtain ⟨k, S, r, rfl, rfl, hk, HS, HT, hbw⟩ := hrel
  by_cases h0 : k = 0
  ·subst h0
   obtain ⟨f1, f2⟩ := HT.out.fin
   have HF := Lib.hid f1
   have HL := Lib.hid HT.out.len
   rw [f2]
   clear f1 f2
   go_wp2
   go_ret
   exact ⟨rfl, S, HS.out, by rw [HL.out, HN.out], HT.out.ws, HF.out, hbw⟩
  ·obtain ⟨j, rfl⟩ : ∃ j, k = j + 1 := ⟨k - 1, by omega⟩
   have hja : j < a.length := by rw [HN.out]; omega
   obtain ⟨e1, e2, hnx⟩ := HT.out.next HW.out hja HD.out
   have hcell := HS.out.cell j (by rw [HT.out.len]; exact hja)
   have hfz := HS.out.frozen j
   have hx := HW.out.getD j
   have C1 := Lib.hid (fun W => div32_any r (a.getD j 0) d W HT.out.low hx HD.out)
   rw [e1] at hcell
   obtain ⟨x, hxe⟩ : ∃ x, a.getD j 0 = x := ⟨_, rfl⟩
   rw [hxe] at hcell C1 hnx
   obtain ⟨q, hq⟩ : ∃ q, (r * 4294967296 + x) / d = q := ⟨_, rfl⟩
   obtain ⟨z, hz⟩ : ∃ z, (r * 4294967296 + x) % d = z := ⟨_, rfl⟩
   rw [hq, hz] at C1 hnx
   have HNX := Lib.hid hnx
   have hjn : (j : Int) < (n : Int) := by omega
   have k1 : IntKind.i64.wrap ((j : Int) - 1) = (j : Int) - 1 := IntWalk.i64_in _ (by omega)
   clear e1 e2 hnx hja hx hxe hq hz h0
   rw [show (((j + 1 : Nat) : Int) - 1) = (j : Int) by omega]
   go_wp2_with (go_at_call 387; refine (C1.out _).mono ?_; rintro e w' ⟨rfl, j2, rfl⟩)
   go_roundw
   case rel => exact ⟨j, _, z, by go_num, rfl, by omega, Lib.hid ((HS.out.drewN j2).set j q), HNX, (below_drewN' hbw j2).setCell (Nat.le_refl _) _⟩
   case measure => simp [intOf]

open Go.RowKit
theorem lng_le {v : Nat} (h : lngB v = false) : (wds v).length ≤ 1024 := by
 unfold lngB at h
 have h1 := of_decide_eq_false h
 omega
open Go.RowKit
theorem add32_any (x y c : Nat) (w : World) (hx : x < 4294967296) (hy : y < 4294967296) (hc : c < 4294967296) :
  Cq 393 #[.int .u32 x, .int .u32 y, .int .u32 c] (.tuple #[.int .u32 ((x + y + c) % 4294967296 : Nat), .int .u32 ((x + y + c) / 4294967296 : Nat)]) w := by
 have k1 : IntKind.u64.wrap (x : Int) = (x : Int) := IntWalk.u64_in _ (by omega)
 have k2 : IntKind.u64.wrap (y : Int) = (y : Int) := IntWalk.u64_in _ (by omega)
 have k3 : IntKind.u64.wrap (c : Int) = (c : Int) := IntWalk.u64_in _ (by omega)
 have k4 : IntKind.u64.wrap ((x : Int) + (y : Int)) = (x : Int) + (y : Int) := IntWalk.u64_in _ (by omega)
 obtain ⟨t, ht⟩ : ∃ t, x + y + c = t := ⟨_, rfl⟩
 have k5 : IntKind.u64.wrap ((x : Int) + (y : Int) + (c : Int)) = (t : Int) := by rw [IntWalk.u64_in _ (by omega)]; omega
 rw [ht]
 have HT := Lib.hid (show t < 12884901888 by omega)
 have k6 : IntKind.u32.wrap ((t : Int) / 4294967296) = (t : Int) / 4294967296 := IntWalk.u32_in _ (by omega)
 clear hx hy hc ht
 go_enter Tryz.func393, Tryz.ntmps393
 go_wp2
 go_ret2
 exact ⟨rfl, rfl⟩
open Go.RowKit
open Go.RowKit
open Go.RowKit
open Go.RowKit
theorem two_wds (n : Nat) (h : n < 18446744073709551616) : nrm (two n) = wds n := by rw [nrm_wds (two_ws h), two_val]


end
section
open Go.RowKit
theorem or_shr (x y s : Nat) (hs : s ≤ 32) (hx : x < 4294967296) : bits BinOp.or IntKind.u32 ((x : Int) / 2 ^ s) ((y : Int) * 2 ^ (32 - s) % 4294967296) = ((y * 2 ^ (32 - s) % 4294967296 + x / 2 ^ s : Nat) : Int) := by
 have h := or_low y x (32 - s) (by omega) hx
 rw [show 32 - (32 - s) = s by omega] at h
 have h1 : x / 2 ^ s < 4294967296 := Nat.lt_of_le_of_lt (Nat.div_le_self _ _) hx
 have h2 : y * 2 ^ (32 - s) % 4294967296 < 4294967296 := Nat.mod_lt _ (by omega)
 rw [← h, Nat.or_comm, ← or_u32 _ _ h1 h2, Int.natCast_ediv, Int.natCast_emod, Int.natCast_mul, Int.natCast_pow, Int.natCast_pow]
 rfl
theorem shr_any (g o n c s : Nat) (R : List Nat) (A : Option Addr) (m d : Nat) (b : List Nat) (B : Nat) (w : World) (hR : Row w g R) (hRw : Ws R) (ho : o + n ≤ R.length) (hbl : b.length = m) (hm : m ≤ 35184372087808) (hn : n ≤ 35184372087808)
  (hB : RW w B A b) (hgB : B ≤ g) (hs : s < 32) :
  Cp 359 #[.slice (some ⟨g, o, none⟩) n c, .slice A m d, .int .i64 s] w (fun e w' => e = .returned (.tuple #[]) ∧ ∃ S, ShrP R o b s n S ∧ Row w' g S ∧ Below g w w') := by
 have hn1 : (n : Int) ≤ 35184372087808 := by omega
 have hs1 : (s : Int) < 32 := by omega
 have hs0 : (0 : Int) ≤ (s : Int) := by omega
 have hB2 := Lib.hid hB
 have HR := Lib.hid hR
 have HSTART := Lib.hid (ShrP.start o b s hRw)
 clear hR
 go_enter Tryz.func359, Tryz.ntmps359
 go_wp2
 go_loopw [9] (fun i wr => ∃ (k : Nat) (S : List Nat), i = .int .i64 k ∧ k ≤ n ∧ Hid (Row wr g S) ∧ Hid (ShrP R o b s k S) ∧ Below g w wr) (fun i _ => n - (intOf i).toNat)
 case atStart => exact ⟨0, R, rfl, Nat.zero_le _, HR, HSTART, Below.refl _ _⟩
 case round =>
  obtain ⟨k, S, rfl, hk, HRS, HS, hbw⟩ := hrel
  by_cases hlt : k < n
  ·have hS := HRS.out.cell (o + k) (by have := HS.out.len; omega)
   have hfz := HRS.out.frozen (o + k)
   have HNX := Lib.hid (HS.out.next hB2.out.1 (by omega) (by have := HS.out.len; omega))
   have HROW := Lib.hid (HRS.out.set (o + k) (shrW b s k))
   have C1 := Lib.hid (fun W (hW : Below g w W) => word_nat A m d k b B W hbl (by omega) (hB2.out.below (hW.mono hgB)))
   have C2 := Lib.hid (fun W (hW : Below g w W) => word_nat A m d (k + 1) b B W hbl (by omega) (hB2.out.below (hW.mono hgB)))
   have hbd := below_drewN' hbw 1
   have HBS := Lib.hid (show Below g w (wr.setCell ⟨g, o + k, none⟩ (.int .u32 (shrW b s k : Nat))) from hbw.setCell (Nat.le_refl _) _)
   obtain ⟨x, hx⟩ : ∃ x, b.getD k 0 = x := ⟨_, rfl⟩
   rw [hx] at C1
   obtain ⟨y, hy⟩ : ∃ y, b.getD (k + 1) 0 = y := ⟨_, rfl⟩
   rw [hy] at C2
   rw [show ((k + 1 : Nat) : Int) = (k : Int) + 1 by omega] at C2
   have HW := Lib.hid (show ((shrW b s k : Nat) : Int) = bits BinOp.or IntKind.u32 ((x : Int) / 2 ^ s) ((y : Int) * 2 ^ (32 - s) % 4294967296) by
    rw [or_shr x y s (by omega) (by rw [← hx]; exact hB2.out.1.getD k)]
    unfold shrW; rw [hx, hy])
   have hkk : (k : Int) < (n : Int) := by omega
   have e1 : IntKind.i64.wrap ((k : Int) + 1) = (k : Int) + 1 := IntWalk.i64_in _ (by omega)
   have e2 : IntKind.i64.wrap (32 - (s : Int)) = 32 - (s : Int) := IntWalk.i64_in _ (by omega)
   have e3 : (0 : Int) ≤ 32 - (s : Int) := by omega
   clear hx hy hB ho hbl hk
   go_wp2
   go_region_with (first
      | (go_at_call 329; (with_reducible refine (C1.out _ ?_).mono ?_); exact hbd; rintro e w' ⟨rfl, rfl⟩)
      | (go_at_call 329; (with_reducible refine (C2.out _ ?_).mono ?_); exact hbd; rintro e w' ⟨rfl, rfl⟩))
   all_goals
    go_wp2_with fail
    rw [← HW.out]
    exact ⟨⟨k + 1, _, by go_num, hlt, HROW, HNX, below_drewN' HBS.out 1⟩, by simp [intOf]; omega⟩
  ·have hkn : k = n := by omega
   subst hkn
   clear hlt hbl
   go_wp2
   go_end0
   exact ⟨rfl, S, HS.out, HRS.out, hbw⟩

theorem pow32 (m : Nat) : 4294967296 ^ m = 2 ^ (32 * m) := by rw [Nat.pow_mul]
theorem btl_sums {B P v t u L : Nat} (e : v = t + B * u) (h1 : t < B) (h2 : P ≤ u) (h3 : u < L) : B * P ≤ v ∧ v < B * L := by
 have a := Nat.mul_le_mul_left B h2
 have b : B * (u + 1) ≤ B * L := Nat.mul_le_mul_left B h3
 rw [Nat.mul_add, Nat.mul_one] at b
 omega
theorem btl_bounds {l : List Nat} (h : Ws l) (h0 : nrm l ≠ []) : 2 ^ (btl l - 1) ≤ val l ∧ val l < 2 ^ btl l ∧ 0 < btl l := by
 have hp : 0 < (nrm l).length := List.length_pos_iff.2 h0
 have hle := nrm_len l
 have hge := val_ge (l := l) h0
 obtain ⟨m, hm⟩ : ∃ m, (nrm l).length = m + 1 := ⟨(nrm l).length - 1, by omega⟩
 have e : val l = val (l.take m) + 4294967296 ^ m * l.getD m 0 := by
  rw [← val_take_next, ← hm, ← nrm_take, val_nrm]
 have h1 : val (l.take m) < 4294967296 ^ m := by
  have := val_lt (h.take m)
  rwa [List.length_take, Nat.min_eq_left (by omega)] at this
 have eb : btl l = 32 * m + Lib.bitLen (l.getD m 0) := by unfold btl; rw [if_neg h0, hm, Nat.add_sub_cancel]
 have hu := h.getD m
 rw [hm, Nat.add_sub_cancel] at hge
 obtain ⟨u, hu0⟩ : ∃ u, l.getD m 0 = u := ⟨_, rfl⟩
 rw [hu0] at e eb hu
 have hz : u ≠ 0 := by intro z; rw [z, Nat.mul_zero] at e; omega
 obtain ⟨b1, b2, b3⟩ := Lib.bitLenAux_bounds 64 u (by omega) hz
 change btl l = 32 * m + Lib.bitLenAux 64 u at eb
 rw [eb]
 generalize Lib.bitLenAux 64 u = L at *
 obtain ⟨c1, c2⟩ := btl_sums e h1 b2 b3
 rw [pow32, ← Nat.pow_add] at c1 c2
 refine ⟨?_, c2, by omega⟩
 rw [show 32 * m + L - 1 = 32 * m + (L - 1) by omega]
 exact c1
theorem btl_le {l : List Nat} (h : Ws l) : btl l ≤ 32 * (nrm l).length := by
 unfold btl
 split
 ·omega
 ·next h0 =>
  have hp : 0 < (nrm l).length := List.length_pos_iff.2 h0
  have := bitLen_le32 _ (h.getD ((nrm l).length - 1))
  omega
theorem lng_ge {v k : Nat} (hk : 32768 ≤ k) (h : 2 ^ k ≤ v) : lngB v = true := by
 unfold lngB
 refine decide_eq_true ?_
 rcases Nat.lt_or_ge 1024 (wds v).length with h1 | h1
 ·exact h1
 ·have h2 := wds_lt v
  rw [pow32] at h2
  have h3 : 2 ^ (32 * (wds v).length) ≤ 2 ^ k := Nat.pow_le_pow_right (by omega) (by omega)
  exact absurd (Nat.lt_of_lt_of_le h2 (Nat.le_trans h3 h)) (Nat.lt_irrefl _)
theorem shl_long {l : List Nat} {n : Nat} (h : Ws l) (h0 : nrm l ≠ []) (hn : 32768 < btl l + n) : lngB (val l * 2 ^ n) = true := by
 obtain ⟨h1, _, h3⟩ := btl_bounds h h0
 refine lng_ge (k := btl l - 1 + n) (by omega) ?_
 rw [Nat.pow_add]
 exact Nat.mul_le_mul_right _ h1
theorem ShlP.all {o n s : Nat} {b S : List Nat} (h : ShlP (List.replicate (o + n) 0) o b s n S) (hn : b.length < n) : val S = val b * 2 ^ (32 * o + s) := by
 have hl := h.len
 rw [List.length_replicate] at hl
 have e1 : val S = val (S.take (o + n)) := by rw [List.take_of_length_le (by omega)]
 have e2 : S.take o = (List.replicate (o + n) 0).take o := take_congr o (by omega) (by rw [List.length_replicate]; omega) (fun j hj => h.far j (Or.inl hj))
 rw [e1, val_part S o n (by omega), h.whole hn, e2, List.take_replicate, val_zeros, pow32, Nat.zero_add, Nat.pow_add]
 grind

open Go.RowKit
def ShlQ (v : Nat) (n : Int) (w : World) (e : Ending) (w' : World) : Prop := if lngB v = true then ErrPost 3 w e w' else if n < 0 then ErrPost 1 w e w' else NatPost (v * 2 ^ n.toNat) w e w'
theorem pshl_long (A : Option Addr) (n c : Nat) (p : Int) (l : List Nat) (w : World) (hn : l.length = n) (hc : n ≤ c) (hm : n ≤ 35184372088832) (h : RW w w.heap.size A l) (hl : lngB (val l) = true) :
  Cp 340 #[.slice A n c, .int .i64 p] w (ErrPost 3 w) := by
 have c1 := cut_any A n c l w.heap.size w hn hc hm h
 have hle := nrm_len l
 obtain ⟨N, hN⟩ : ∃ N, (nrm l).length = N := ⟨_, rfl⟩
 rw [hN] at c1 hle
 have c2 := tooOne_any A N N (nrm l) w hN (Nat.le_refl _) (by omega) h.nrm
 rw [val_nrm, hl] at c2
 have HP := Lib.hid (show Below w.heap.size w (lone w (.slice A N N)) from (Below.refl _ _).alloc (Nat.le_refl _) _)
 clear hn hc hm h hl hle hN
 go_enter Tryz.func340, Tryz.ntmps340
 go_wp2_with fail
 refine c1.mono ?_
 rintro e w1 ⟨rfl, rfl⟩
 go_wp2_with fail
 refine c2.mono ?_
 rintro e w1 ⟨rfl, rfl⟩
 go_wp2
 go_ret2
 exact ⟨rfl, HP.out⟩
theorem pshl_neg (A : Option Addr) (n c : Nat) (p : Int) (l : List Nat) (w : World) (hn : l.length = n) (hc : n ≤ c) (hm : n ≤ 35184372088832) (h : RW w w.heap.size A l) (hl : lngB (val l) = false) (hp : p < 0) :
  Cp 340 #[.slice A n c, .int .i64 p] w (ErrPost 1 w) := by
 have c1 := cut_any A n c l w.heap.size w hn hc hm h
 have hle := nrm_len l
 obtain ⟨N, hN⟩ : ∃ N, (nrm l).length = N := ⟨_, rfl⟩
 rw [hN] at c1 hle
 have c2 := tooOne_any A N N (nrm l) w hN (Nat.le_refl _) (by omega) h.nrm
 rw [val_nrm, hl] at c2
 have HP := Lib.hid (show Below w.heap.size w (lone w (.slice A N N)) from (Below.refl _ _).alloc (Nat.le_refl _) _)
 clear hn hc hm h hl hle hN
 go_enter Tryz.func340, Tryz.ntmps340
 go_wp2_with fail
 refine c1.mono ?_
 rintro e w1 ⟨rfl, rfl⟩
 go_wp2_with fail
 refine c2.mono ?_
 rintro e w1 ⟨rfl, rfl⟩
 go_wp2
 go_ret2
 exact ⟨rfl, HP.out⟩
theorem pshl_zero (A : Option Addr) (n c : Nat) (p : Int) (l : List Nat) (w : World) (hn : l.length = n) (hc : n ≤ c) (hm : n ≤ 35184372088832) (h : RW w w.heap.size A l) (hp : 0 ≤ p) (h0 : nrm l = []) :
  Cp 340 #[.slice A n c, .int .i64 p] w (NatPost 0 w) := by
 have c1 := cut_any A n c l w.heap.size w hn hc hm h
 rw [h0] at c1
 have c2 := tooOne_any A 0 0 [] w rfl (Nat.le_refl _) (by omega) (RW.nil _ _ _)
 rw [show lngB (val []) = false from lng_small (by simp [val])] at c2
 have HP := Lib.hid (show Below w.heap.size w (lone w (.slice A 0 0)) from (Below.refl _ _).alloc (Nat.le_refl _) _)
 have hp1 : ¬ p < 0 := by omega
 clear hn hc hm h h0
 go_enter Tryz.func340, Tryz.ntmps340
 go_wp2_with fail
 refine c1.mono ?_
 rintro e w1 ⟨rfl, rfl⟩
 go_wp2_with fail
 refine c2.mono ?_
 rintro e w1 ⟨rfl, rfl⟩
 go_wp2
 go_ret2
 exact NatPost.ok (lng_small (by omega)) rfl (Nat.le_refl _) (RW.nil _ _ _) HP.out
theorem pshl_far (A : Option Addr) (n c : Nat) (p : Int) (l : List Nat) (w : World) (hn : l.length = n) (hc : n ≤ c) (hm : n ≤ 35184372088832) (h : RW w w.heap.size A l) (hl : lngB (val l) = false) (hp : 0 ≤ p) (h0 : nrm l ≠ []) (hf : 32768 < (btl (nrm l) : Int) + p) :
  Cp 340 #[.slice A n c, .int .i64 p] w (fun e w' => e = .returned (.tuple #[.slice none 0 0, .int .i64 3]) ∧ Below w.heap.size w w') := by
 have c1 := cut_any A n c l w.heap.size w hn hc hm h
 have n1 := lng_len h.1 hl
 have hpos : 0 < (nrm l).length := List.length_pos_iff.2 h0
 obtain ⟨N, hN⟩ : ∃ N, (nrm l).length = N := ⟨_, rfl⟩
 rw [hN] at c1 n1 hpos
 have c2 := tooOne_any A N N (nrm l) w hN (Nat.le_refl _) (by omega) h.nrm
 rw [val_nrm, hl] at c2
 have hp2 : Below w.heap.size w (lone w (.slice A N N)) := (Below.refl _ _).alloc (Nat.le_refl _) _
 have c3 := bits_any A N N (nrm l) w.heap.size _ hN (Nat.le_refl _) (by omega) (h.nrm.below hp2)
 have hb := btl_le h.1.nrm
 rw [nrm_nrm, hN] at hb
 obtain ⟨q, hq⟩ : ∃ q, btl (nrm l) = q := ⟨_, rfl⟩
 rw [hq] at c3 hf hb
 have HP := Lib.hid hp2
 have hp1 : ¬ p < 0 := by omega
 have hN0 : (0 : Int) < (N : Int) := by omega
 have hqq : (q : Int) ≤ 32768 := by omega
 have e1 : IntKind.i64.wrap (32768 - (q : Int)) = 32768 - (q : Int) := IntWalk.i64_in _ (by omega)
 have e2 : 32768 - (q : Int) < p := by omega
 clear hn hc hm h hl hN h0 hp2 hq hpos n1 hb hf
 go_enter Tryz.func340, Tryz.ntmps340
 go_wp2_with fail
 refine c1.mono ?_
 rintro e w1 ⟨rfl, rfl⟩
 go_wp2_with fail
 refine c2.mono ?_
 rintro e w1 ⟨rfl, rfl⟩
 go_wp2_with fail
 refine c3.mono ?_
 rintro e w1 ⟨rfl, rfl⟩
 go_wp2
 go_ret2
 exact ⟨rfl, HP.out⟩
open Go.RowKit
theorem pshl_ok (A : Option Addr) (n c : Nat) (p o s : Nat) (l : List Nat) (w : World) (hn : l.length = n) (hc : n ≤ c) (hm : n ≤ 35184372088832) (h : RW w w.heap.size A l) (hl : lngB (val l) = false) (h0 : nrm l ≠ []) (hf : btl (nrm l) + p ≤ 32768)
  (hpo : p = 32 * o + s) (hs : s < 32) :
  Cp 340 #[.slice A n c, .int .i64 p] w (NatPost (val l * 2 ^ p) w) := by
 have c1 := cut_any A n c l w.heap.size w hn hc hm h
 have n1 := lng_len h.1 hl
 have hpos : 0 < (nrm l).length := List.length_pos_iff.2 h0
 obtain ⟨N, hN⟩ : ∃ N, (nrm l).length = N := ⟨_, rfl⟩
 rw [hN] at c1 n1 hpos
 have c2 := tooOne_any A N N (nrm l) w hN (Nat.le_refl _) (by omega) h.nrm
 rw [val_nrm, hl] at c2
 have hp2 : Below w.heap.size w (lone w (.slice A N N)) := (Below.refl _ _).alloc (Nat.le_refl _) _
 have c3 := bits_any A N N (nrm l) w.heap.size _ hN (Nat.le_refl _) (by omega) (h.nrm.below hp2)
 rw [← val_nrm l]
 have hA := h.nrm.below hp2
 obtain ⟨W, hW⟩ : ∃ W, lone w (.slice A N N) = W := ⟨_, rfl⟩
 rw [hW] at c2 c3 hp2 hA
 have hmk := run_make_row' (P := Tryz.prog) 180 156 (.int .u32 0) 4 Tryz.underlying180 infoW rfl .i64 .i64 (o + N + 1) (by omega) (by omega) W
 rw [show ((o + N + 1 : Nat) : Int) = (o : Int) + (N : Int) + 1 by omega] at hmk
 have hrow := Row.made W (o + N + 1)
 have hgW := hp2.size
 have hbl0 : Below w.heap.size w (W.alloc (.cells (madeCells #[.int .u32 0] (o + N + 1)) 156)) := hp2.alloc hp2.size _
 have hbl1 : Below w.heap.size W (W.alloc (.cells (madeCells #[.int .u32 0] (o + N + 1)) 156)) := (Below.refl _ _).alloc hp2.size _
 have C4 := Lib.hid (shl_any W.heap.size o (N + 1) (N + 1) s (List.replicate (o + (N + 1)) 0) A N N (nrm l) w.heap.size _ hrow (Ws.zeros _) (by rw [List.length_replicate]; exact Nat.le_refl _) hN (by omega) (by omega) (hA.below hbl1) hgW hs)
 have C5 := Lib.hid (fun (S : List Nat) (W2 : World) (hS : ShlP (List.replicate (o + (N + 1)) 0) o (nrm l) s (N + 1) S) (hr : Row W2 W.heap.size S) =>
  show Cp 302 #[.slice (some ⟨W.heap.size, 0, none⟩) (o + N + 1) (o + N + 1)] W2 (NatPost (val (nrm l) * 2 ^ (32 * o + s)) W2) from by
   have hlen : S.length = o + N + 1 := by rw [hS.len, List.length_replicate]; omega
   have := answer_any (some ⟨W.heap.size, 0, none⟩) (o + N + 1) (o + N + 1) S W2 hlen (Nat.le_refl _) (by omega) ((hr.rw0 hS.ws).more hr.lt)
   rw [hS.all (by omega)] at this
   exact this)
 have HW := Lib.hid hW
 obtain ⟨q, hq⟩ : ∃ q, btl (nrm l) = q := ⟨_, rfl⟩
 rw [hq] at c3 hf
 obtain ⟨v, hv⟩ : ∃ v, val (nrm l) * 2 ^ p = v := ⟨_, rfl⟩
 rw [hv]
 rw [← hpo, hv] at C5
 have HBL := Lib.hid hbl0
 have hN0 : (0 : Int) < (N : Int) := by omega
 have hN1 : (N : Int) ≤ 1024 := by omega
 have ho1 : (o : Int) ≤ 1024 := by omega
 have e1 : IntKind.i64.wrap (32768 - (q : Int)) = 32768 - (q : Int) := IntWalk.i64_in _ (by omega)
 have e2 : (p : Int) ≤ 32768 - (q : Int) := by omega
 have e3 : (p : Int) / 32 = (o : Int) := by omega
 have e4 : (p : Int) % 32 = (s : Int) := by omega
 clear hn hc hm h hl hN h0 hp2 hq hpos n1 hf hpo hrow hbl0 hbl1 hs hW hA hv
 go_enter Tryz.func340, Tryz.ntmps340
 go_wp2_with fail
 refine c1.mono ?_
 rintro e w1 ⟨rfl, rfl⟩
 go_wp2_with fail
 rw [show w.alloc (.cells #[.slice A N N] 180) = W from HW.out]
 refine c2.mono ?_
 rintro e w1 ⟨rfl, rfl⟩
 go_wp2_with fail
 refine c3.mono ?_
 rintro e w1 ⟨rfl, rfl⟩
 clear c1 c2 c3
 go_wp2_with fail
 rw [show o + N + 1 - o = N + 1 by omega]
 refine C4.out.mono ?_
 rintro e w4 ⟨rfl, S, hS, hr, hb⟩
 have D5 := Lib.hid (C5.out S w4 hS hr)
 have HB4 := Lib.hid (HBL.out.trans (hb.mono hgW))
 clear hS hr hb C4 C5
 go_wp2_with fail
 refine D5.out.mono ?_
 rintro e w5 hx
 obtain ⟨A5, n5, c5, k5, rfl, h3, h4⟩ := NatPost.from_ HB4.out hx
 have H3 := Lib.hid h3
 have H4 := Lib.hid h4
 clear h3 h4 hx D5
 go_wp2
 go_ret2
 exact ⟨A5, n5, c5, k5, rfl, H3.out, H4.out⟩

open Go.RowKit
theorem split_at (l : List Nat) (o : Nat) (ho : o ≤ l.length) : val l = val (l.take o) + 4294967296 ^ o * val (l.drop o) := by
 have h := val_part l o (l.length - o) ho
 rw [show o + (l.length - o) = l.length by omega, List.take_length, List.take_of_length_le (l := l.drop o) (by rw [List.length_drop]; omega)] at h
 exact h
theorem take_lt {l : List Nat} (h : Ws l) (o : Nat) (ho : o ≤ l.length) : val (l.take o) < 4294967296 ^ o := by
 have := val_lt (h.take o)
 rwa [List.length_take, Nat.min_eq_left ho] at this
theorem drop_div {l : List Nat} (h : Ws l) (o s : Nat) (ho : o ≤ l.length) : val l / 2 ^ (32 * o + s) = val (l.drop o) / 2 ^ s := by
 have h1 := take_lt h o ho
 rw [Nat.pow_add, ← pow32, ← Nat.div_div_eq_div_mul, split_at l o ho, Nat.add_mul_div_left _ _ (Nat.pow_pos (by omega)), Nat.div_eq_of_lt h1, Nat.zero_add]
theorem mod_parts {B T D P : Nat} (hT : T < B) (hP : 0 < P) : (T + B * D) % (B * P) = T + B * (D % P) := by
 have e : T + B * D = (T + B * (D % P)) + B * P * (D / P) := by
  have := Nat.div_add_mod D P
  have e2 : B * (P * (D / P) + D % P) = B * D := by rw [this]
  grind
 rw [e, Nat.add_mul_mod_self_left]
 refine Nat.mod_eq_of_lt ?_
 have h1 : B * (D % P + 1) ≤ B * P := Nat.mul_le_mul_left _ (Nat.mod_lt _ hP)
 rw [Nat.mul_add, Nat.mul_one] at h1
 omega
theorem head_mod {l : List Nat} {s : Nat} (hs : s ≤ 32) : val l % 2 ^ s = l.getD 0 0 % 2 ^ s := by
 cases l with
 | nil => simp [val]
 | cons x r =>
  simp only [val, List.getD_cons_zero]
  rw [← pow_parts hs, Nat.mul_assoc, Nat.add_mul_mod_self_left]
theorem drop_mod {l : List Nat} (h : Ws l) (o s : Nat) (ho : o ≤ l.length) (hs : s ≤ 32) : val l % 2 ^ (32 * o + s) = val (l.take o) + 4294967296 ^ o * (l.getD o 0 % 2 ^ s) := by
 rw [Nat.pow_add, ← pow32]
 conv => lhs; rw [split_at l o ho]
 rw [mod_parts (take_lt h o ho) (Nat.two_pow_pos s), head_mod hs, getD_drop, Nat.add_zero]
theorem zeros_take {l : List Nat} {k : Nat} (h : ∀ j, j < k → l.getD j 0 = 0) : val (l.take k) = 0 := val_all_zero fun j => by
 rcases Nat.lt_or_ge j k with hj | hj
 ·rw [getD_take hj]; exact h j hj
 ·rw [List.getD_eq_getElem?_getD, List.getElem?_take, if_neg (by omega)]; rfl
theorem loss_early {l : List Nat} (h : Ws l) (o s k : Nat) (ho : o ≤ l.length) (hs : s ≤ 32) (hk : k < o) (hx : l.getD k 0 ≠ 0) : decide (val l % 2 ^ (32 * o + s) ≠ 0) = true := by
 refine decide_eq_true ?_
 rw [drop_mod h o s ho hs]
 have e : val (l.take o) ≠ 0 := by
  intro z
  have h1 := nrm_val_zero z
  have h2 := val_part l k (o - k) (by omega)
  rw [show k + (o - k) = o by omega, z] at h2
  have h3 := val_part_succ l k 0 (by omega)
  have h4 : val ((l.drop k).take (o - k)) = 0 := by
   have hp : 0 < 4294967296 ^ k := Nat.pow_pos (by omega)
   rcases Nat.eq_zero_or_pos (val ((l.drop k).take (o - k))) with h5 | h5
   ·exact h5
   ·have := Nat.mul_pos hp h5; omega
  obtain ⟨m, hm⟩ : ∃ m, o - k = m + 1 := ⟨o - k - 1, by omega⟩
  rw [hm] at h4
  have h6 := List.getD_eq_getElem?_getD (l := (l.drop k).take (m + 1)) (i := 0) (a := 0)
  have h7 : ((l.drop k).take (m + 1)).getD 0 0 = l.getD k 0 := by rw [getD_take (by omega), getD_drop, Nat.add_zero]
  cases hc : (l.drop k).take (m + 1) with
  | nil => rw [hc] at h7; simp at h7; exact hx h7.symm
  | cons x r =>
   rw [hc] at h4 h7
   simp only [val] at h4
   simp only [List.getD_cons_zero] at h7
   omega
 omega
theorem loss_late {l : List Nat} (h : Ws l) (o s : Nat) (ho : o ≤ l.length) (hs : s ≤ 32) (hz : ∀ j, j < o → l.getD j 0 = 0) : decide (val l % 2 ^ (32 * o + s) ≠ 0) = decide (l.getD o 0 * 2 ^ (32 - s) % 4294967296 ≠ 0) := by
 rw [drop_mod h o s ho hs, zeros_take hz, Nat.zero_add]
 have h1 := mul_mod_low (l.getD o 0) (32 - s) (by omega)
 rw [show 32 - (32 - s) = s by omega] at h1
 rw [h1]
 have hp : 0 < 4294967296 ^ o := Nat.pow_pos (by omega)
 have hq : 0 < 2 ^ (32 - s) := Nat.two_pow_pos _
 refine decide_eq_decide.2 ?_
 constructor
 ·intro a b
  rcases Nat.mul_eq_zero.1 b with b | b
  ·omega
  ·rw [b, Nat.mul_zero] at a; exact a rfl
 ·intro a b
  rcases Nat.mul_eq_zero.1 b with b | b
  ·omega
  ·rw [b, Nat.mul_zero] at a; exact a rfl
theorem RW.drop {w : World} {B b off : Nat} {l : List Nat} (h : RW w B (some ⟨b, off, none⟩) l) (o : Nat) (ho : o < l.length) : RW w B (some ⟨b, off + o, none⟩) (l.drop o) := ⟨h.1.drop o, fun _ => by
 obtain ⟨b2, off2, he, hb, hc⟩ := h.2 (by omega)
 cases he
 refine ⟨b, off + o, rfl, hb, fun k u hu => ?_⟩
 rw [List.getElem?_drop] at hu
 rw [show off + o + k = off + (o + k) by omega]
 exact hc _ u hu⟩
open Go.RowKit
theorem sh_ne (x t : Nat) : (((x : Int) * 2 ^ t % 4294967296) != 0) = decide (x * 2 ^ t % 4294967296 ≠ 0) := by
 have e : ((x : Int) * 2 ^ t % 4294967296) = ((x * 2 ^ t % 4294967296 : Nat) : Int) := by rw [Int.natCast_emod, Int.natCast_mul, Int.natCast_pow]; rfl
 rw [e]
 by_cases h : x * 2 ^ t % 4294967296 = 0
 ·rw [h]; rfl
 ·rw [decide_eq_true h]
  simp only [bne_iff_ne, ne_eq]
  omega
theorem loses_any (b off n c p o s : Nat) (l : List Nat) (B : Nat) (w : World) (hn : l.length = n) (hc : n ≤ c) (hm : n ≤ 35184372087808) (h : RW w B (some ⟨b, off, none⟩) l) (hpo : p = 32 * o + s) (hs : s < 32) (ho : o < n) :
  Cq 360 #[.slice (some ⟨b, off, none⟩) n c, .int .i64 p] (.bool (decide (val l % 2 ^ p ≠ 0))) w := by
 have hcell : ∀ k u : Nat, l[k]? = some u → w.cell? ⟨b, off + k, none⟩ = some (.int .u32 (u : Int)) := by
  obtain ⟨b2, off2, he, _, hc2⟩ := h.2 (by omega)
  cases he
  exact hc2
 have hcl := hcell o _ (getD_some (by omega))
 have HE := Lib.hid (fun k hk hx => loss_early (k := k) h.1 o s (by omega) (by omega) hk hx)
 have HL := Lib.hid (fun hz => loss_late h.1 o s (by omega) (by omega) hz)
 rw [← hpo] at HE HL
 have HCELL := Lib.hid hcell
 have HN := Lib.hid hn
 have ho1 : (o : Int) < (n : Int) := by omega
 have hn1 : (n : Int) ≤ 35184372087808 := by omega
 have hc1 : (n : Int) ≤ (c : Int) := by omega
 have hoc : o ≤ c := by omega
 have e3 : (p : Int) / 32 = (o : Int) := by omega
 have e4 : (p : Int) % 32 = (s : Int) := by omega
 have p0 : (0 : Int) ≤ (p : Int) := by omega
 have hs1 : (s : Int) < 32 := by omega
 have hs0 : (0 : Int) ≤ (s : Int) := by omega
 have e2 : IntKind.i64.wrap (32 - (s : Int)) = 32 - (s : Int) := IntWalk.i64_in _ (by omega)
 have e5 : (0 : Int) ≤ 32 - (s : Int) := by omega
 obtain ⟨x, hx⟩ : ∃ x, l.getD o 0 = x := ⟨_, rfl⟩
 rw [hx] at HL hcl
 clear hn hc hm h hpo hs hcell hx
 go_enter Tryz.func360, Tryz.ntmps360
 go_wp2
 go_loopw [12] (fun i wr => ∃ (k : Nat), i = .int .i64 k ∧ k ≤ o ∧ Hid (∀ j, j < k → l.getD j 0 = 0) ∧ w = wr) (fun i _ => o - (intOf i).toNat)
 case atStart => exact ⟨0, rfl, Nat.zero_le _, Lib.hid (fun j hj => by omega), rfl⟩
 case round =>
  obtain ⟨k, rfl, hk, HZ, rfl⟩ := hrel
  by_cases hlt : k < o
  ·have hck := HCELL.out k _ (getD_some (by rw [HN.out]; omega))
   obtain ⟨y, hy⟩ : ∃ y, l.getD k 0 = y := ⟨_, rfl⟩
   rw [hy] at hck
   have hkk : (k : Int) < (o : Int) := by omega
   by_cases h0 : y = 0
   ·subst h0
    have HZ2 := Lib.hid (show ∀ j, j < k + 1 → l.getD j 0 = 0 from fun j hj => by
     rcases Nat.lt_or_ge j k with h1 | h1
     ·exact HZ.out j h1
     ·rw [show j = k by omega]; exact hy)
    clear hy
    go_wp2
    go_roundw
    case rel => exact ⟨k + 1, by go_num, by omega, HZ2, trivial⟩
    case measure => simp [intOf]; omega
   ·have HF := Lib.hid (HE.out k hlt (by rw [hy]; exact h0))
    have hyn : ((y : Int) == 0) = false := by simp; omega
    have hyn2 : ¬ (y : Int) = 0 := by omega
    clear hy
    go_wp2
    go_ret
    exact ⟨ret_bool HF.out.symm, rfl⟩
  ·have hko : k = o := by omega
   subst hko
   have HF := Lib.hid (HL.out HZ.out)
   clear hlt hk
   go_wp2
   go_ret
   exact ⟨ret_bool (by rw [HF.out, ← sh_ne]), rfl⟩

open Go.RowKit
def ShrQ (v q : Nat) (w : World) (e : Ending) (w' : World) : Prop :=
 ∃ A n c, e = .returned (.tuple #[.slice A n c, .bool (decide (v % 2 ^ q ≠ 0))]) ∧ n = (wds (v / 2 ^ q)).length ∧ n ≤ c ∧ RW w' w'.heap.size A (wds (v / 2 ^ q)) ∧ Below w.heap.size w w'
theorem ShrQ.same {v : Nat} {w w' : World} {A : Option Addr} {n c : Nat} (hn : n = (wds v).length) (hc : n ≤ c) (hr : RW w' w'.heap.size A (wds v)) (hb : Below w.heap.size w w') : ShrQ v 0 w (.returned (.tuple #[.slice A n c, .bool false])) w' :=
 ⟨A, n, c, by simp [Nat.mod_one], by simpa using hn, hc, by simpa using hr, hb⟩
theorem ShrQ.none {v q : Nat} {w w' : World} {b : Bool} (hv : v < 2 ^ q) (hb : b = decide (v ≠ 0)) (hw : Below w.heap.size w w') : ShrQ v q w (.returned (.tuple #[.slice none 0 0, .bool b])) w' :=
 ⟨Option.none, 0, 0, by rw [Nat.mod_eq_of_lt hv, hb], by rw [Nat.div_eq_of_lt hv]; rfl, Nat.le_refl _, by rw [Nat.div_eq_of_lt hv]; exact RW.nil _ _ _, hw⟩
theorem pshr_low (A : Option Addr) (n c : Nat) (p : Int) (l : List Nat) (w : World) (hn : l.length = n) (hc : n ≤ c) (hm : n ≤ 35184372087808) (h : RW w w.heap.size A l) (hp : p ≤ 0) :
  Cp 328 #[.slice A n c, .int .i64 p] w (ShrQ (val l) 0 w) := by
 have c1 := cut_any A n c l w.heap.size w hn hc (by omega) h
 have hle := nrm_len l
 obtain ⟨N, hN⟩ : ∃ N, (nrm l).length = N := ⟨_, rfl⟩
 rw [hN] at c1 hle
 have c2 := (norm_any A N N (nrm l) w hN (Nat.le_refl _) (by omega) h.nrm).mono fun _ _ x => SlPost.of h.1.nrm.nrm x
 rw [nrm_nrm, nrm_wds h.1] at c2
 clear hn hc hm h hle hN
 go_enter Tryz.func328, Tryz.ntmps328
 go_wp2_with fail
 refine c1.mono ?_
 rintro e w1 ⟨rfl, rfl⟩
 go_wp2_with fail
 refine c2.mono ?_
 rintro e w1 ⟨v1, rfl, ⟨A1, d1, rfl, hd, hr⟩, hb⟩
 have HD := Lib.hid hd
 have HR := Lib.hid hr
 have HB := Lib.hid hb
 clear hd hr hb
 go_wp2
 go_ret2
 exact ShrQ.same rfl HD.out HR.out HB.out
theorem pshr_far (A : Option Addr) (n c p : Nat) (l : List Nat) (w : World) (hn : l.length = n) (hc : n ≤ c) (hm : n ≤ 35184372087808) (h : RW w w.heap.size A l) (hp : 0 < p) (hf : btl (nrm l) ≤ p) :
  Cp 328 #[.slice A n c, .int .i64 p] w (ShrQ (val l) p w) := by
 have c1 := cut_any A n c l w.heap.size w hn hc (by omega) h
 have hle := nrm_len l
 have HV := Lib.hid (show val l < 2 ^ p by
  by_cases h0 : nrm l = []
  ·rw [← val_nrm l, h0]; exact Nat.two_pow_pos p
  ·have := (btl_bounds h.1.nrm (by rw [nrm_nrm]; exact h0)).2.1
   rw [val_nrm] at this
   exact Nat.lt_of_lt_of_le this (Nat.pow_le_pow_right (by omega) hf))
 have hz : (val l ≠ 0) ↔ 0 < (nrm l).length := by
  constructor
  ·intro a
   refine List.length_pos_iff.2 fun e => a ?_
   rw [← val_nrm l, e]; rfl
  ·intro a e
   rw [nrm_val_zero e] at a
   exact absurd a (by simp)
 obtain ⟨N, hN⟩ : ∃ N, (nrm l).length = N := ⟨_, rfl⟩
 rw [hN] at c1 hle hz
 have HZ := Lib.hid hz
 have c2 := bits_any A N N (nrm l) w.heap.size w hN (Nat.le_refl _) (by omega) h.nrm
 have hp1 : ¬ (p : Int) ≤ 0 := by omega
 obtain ⟨t, ht⟩ : ∃ t, btl (nrm l) = t := ⟨_, rfl⟩
 rw [ht] at c2 hf
 have hf1 : (t : Int) ≤ (p : Int) := by omega
 clear hn hc hm h hle hN hz hp hf ht
 go_enter Tryz.func328, Tryz.ntmps328
 go_wp2_with fail
 refine c1.mono ?_
 rintro e w1 ⟨rfl, rfl⟩
 go_wp2_with fail
 refine c2.mono ?_
 rintro e w1 ⟨rfl, rfl⟩
 go_wp2
 go_ret2
 exact ShrQ.none HV.out (decide_eq_decide.2 HZ.out.symm) (Below.refl _ _)
theorem pshr_mid (A : Option Addr) (n c p o s : Nat) (l : List Nat) (w : World) (hn : l.length = n) (hc : n ≤ c) (hm : n ≤ 35184372087808) (h : RW w w.heap.size A l) (hp : 0 < p) (hf : p < btl (nrm l)) (hpo : p = 32 * o + s) (hs : s < 32) :
  Cp 328 #[.slice A n c, .int .i64 p] w (ShrQ (val l) p w) := by
 have c1 := cut_any A n c l w.heap.size w hn hc (by omega) h
 have hle := nrm_len l
 have hbt := btl_le h.1.nrm
 rw [nrm_nrm] at hbt
 obtain ⟨N, hN⟩ : ∃ N, (nrm l).length = N := ⟨_, rfl⟩
 rw [hN] at c1 hle hbt
 have hoN : o < N := by omega
 obtain ⟨b, off, rfl, _, _⟩ := h.2 (by omega)
 have hA := h.nrm
 have c2 := bits_any (some ⟨b, off, none⟩) N N (nrm l) w.heap.size w hN (Nat.le_refl _) (by omega) hA
 obtain ⟨a, ha⟩ : ∃ a, nrm l = a := ⟨_, rfl⟩
 rw [← val_nrm l]
 rw [ha] at c2 hN hA hf ⊢
 have hmk := run_make_row' (P := Tryz.prog) 180 156 (.int .u32 0) 4 Tryz.underlying180 infoW rfl .i64 .i64 (N - o) (by omega) (by omega) w
 rw [show ((N - o : Nat) : Int) = (N : Int) - (o : Int) by omega] at hmk
 have hrow := Row.made w (N - o)
 have hbl0 : Below w.heap.size w (w.alloc (.cells (madeCells #[.int .u32 0] (N - o)) 156)) := (Below.refl _ _).alloc (Nat.le_refl _) _
 have C4 := Lib.hid (shr_any w.heap.size 0 (N - o) (N - o) s (List.replicate (N - o) 0) (some ⟨b, off + o, none⟩) (N - o) (N - o) (a.drop o) w.heap.size _ hrow (Ws.zeros _) (by rw [List.length_replicate]; omega) (by rw [List.length_drop, hN]) (by omega) (by omega) ((hA.drop o (by omega)).below hbl0) (Nat.le_refl _) hs)
 have C5 := Lib.hid (fun (W2 : World) (hb : Below w.heap.size w W2) => loses_any b off N N p o s a w.heap.size W2 hN (Nat.le_refl _) (by omega) (hA.below hb) hpo hs hoN)
 have C6 := Lib.hid (fun (S : List Nat) (W2 : World) (hS : ShrP (List.replicate (N - o) 0) 0 (a.drop o) s (N - o) S) (hr : Row W2 w.heap.size S) =>
  show Cp 336 #[.slice (some ⟨w.heap.size, 0, none⟩) (N - o) (N - o)] W2 (fun e w' => e = .returned (.slice (some ⟨w.heap.size, 0, none⟩) (wds (val a / 2 ^ p)).length (wds (val a / 2 ^ p)).length) ∧ W2 = w') from by
   have hlen : S.length = N - o := by rw [hS.len, List.length_replicate]
   have hv : val S = val a / 2 ^ p := by
    have := hS.whole (by rw [List.length_drop, hN]; exact Nat.le_refl _)
    rw [List.drop_zero, List.take_of_length_le (by omega)] at this
    rw [this, hpo, drop_div hA.1 o s (by omega)]
   have := cut_any (some ⟨w.heap.size, 0, none⟩) (N - o) (N - o) S (w.heap.size + 1) W2 hlen (Nat.le_refl _) (by omega) (hr.rw0 hS.ws)
   rw [nrm_wds hS.ws, hv] at this
   exact this)
 have C7 := Lib.hid (fun (S : List Nat) (W2 : World) (hS : ShrP (List.replicate (N - o) 0) 0 (a.drop o) s (N - o) S) (hr : Row W2 w.heap.size S) =>
  show RW W2 W2.heap.size (some ⟨w.heap.size, 0, none⟩) (wds (val a / 2 ^ p)) from by
   have hlen : S.length = N - o := by rw [hS.len, List.length_replicate]
   have hv : val S = val a / 2 ^ p := by
    have := hS.whole (by rw [List.length_drop, hN]; exact Nat.le_refl _)
    rw [List.drop_zero, List.take_of_length_le (by omega)] at this
    rw [this, hpo, drop_div hA.1 o s (by omega)]
   have := ((hr.rw0 hS.ws).nrm).more hr.lt
   rw [nrm_wds hS.ws, hv] at this
   exact this)
 obtain ⟨t, ht⟩ : ∃ t, btl a = t := ⟨_, rfl⟩
 rw [ht] at c2 hf
 obtain ⟨M, hM⟩ : ∃ M, (wds (val a / 2 ^ p)).length = M := ⟨_, rfl⟩
 rw [hM] at C6
 obtain ⟨lo, hlo⟩ : ∃ lo, decide (val a % 2 ^ p ≠ 0) = lo := ⟨_, rfl⟩
 rw [hlo] at C5
 have HM := Lib.hid hM
 have HLO := Lib.hid hlo
 have HBL := Lib.hid hbl0
 have hp1 : ¬ (p : Int) ≤ 0 := by omega
 have hf1 : ¬ (t : Int) ≤ (p : Int) := by omega
 have hoN1 : (o : Int) < (N : Int) := by omega
 have hN1 : (N : Int) ≤ 35184372087808 := by omega
 have e3 : (p : Int) / 32 = (o : Int) := by omega
 have e4 : (p : Int) % 32 = (s : Int) := by omega
 clear hn hc hm h hle hN hp hf hpo hs hrow hbl0 hA ha hbt ht hM hlo
 go_enter Tryz.func328, Tryz.ntmps328
 go_wp2_with fail
 refine c1.mono ?_
 rintro e w1 ⟨rfl, rfl⟩
 go_wp2_with fail
 refine c2.mono ?_
 rintro e w1 ⟨rfl, rfl⟩
 clear c1 c2
 go_wp2_with fail
 refine C4.out.mono ?_
 rintro e w4 ⟨rfl, S, hS, hr, hb⟩
 have D6 := Lib.hid (C6.out S w4 hS hr)
 have D7 := Lib.hid (C7.out S w4 hS hr)
 have HB4 := Lib.hid (HBL.out.trans hb)
 have D5 := Lib.hid (C5.out w4 HB4.out)
 clear hS hr hb C4 C5 C6 C7
 go_wp2_with fail
 refine D6.out.mono ?_
 rintro e w5 ⟨rfl, rfl⟩
 go_wp2_with fail
 refine D5.out.mono ?_
 rintro e w5 ⟨rfl, rfl⟩
 go_wp2
 go_ret2
 exact ⟨some ⟨w.heap.size, 0, none⟩, M, M, by rw [HLO.out]; rfl, HM.out.symm, Nat.le_refl _, D7.out, HB4.out⟩

open Go.RowKit
theorem pshr_any (A : Option Addr) (n c : Nat) (p : Int) (l : List Nat) (w : World) (hn : l.length = n) (hc : n ≤ c) (hm : n ≤ 35184372087808) (h : RW w w.heap.size A l) :
  Cp 328 #[.slice A n c, .int .i64 p] w (ShrQ (val l) p.toNat w) := by
 by_cases hp : p ≤ 0
 ·rw [show p.toNat = 0 by omega]
  exact pshr_low A n c p l w hn hc hm h hp
 ·obtain ⟨q, rfl⟩ : ∃ q : Nat, p = (q : Int) := ⟨p.toNat, by omega⟩
  rw [Int.toNat_natCast]
  by_cases hf : btl (nrm l) ≤ q
  ·exact pshr_far A n c q l w hn hc hm h (by omega) hf
  ·exact pshr_mid A n c q (q / 32) (q % 32) l w hn hc hm h (by omega) (by omega) (by omega) (by omega)

structure TakeT (R : List Nat) (o : Nat) (b : List Nat) (x k : Nat) (S : List Nat) (q : Nat) : Prop where
 len : S.length = R.length
 ws : Ws S
 far : ∀ j, j < o ∨ o + k ≤ j → S.getD j 0 = R.getD j 0
 sum : val ((S.drop o).take k) + x * val (b.take k) = val ((R.drop o).take k) + 4294967296 ^ k * q
 low : q < 4294967296
theorem TakeT.start {R : List Nat} (o : Nat) (b : List Nat) (x : Nat) (hR : Ws R) : TakeT R o b x 0 R 0 := ⟨rfl, hR, fun _ _ => rfl, by simp [val], by omega⟩
def takC (b : List Nat) (x k q : Nat) : Nat := q + b.getD k 0 * x
def takW (r t : Nat) : Nat := (r + 4294967296 * 2 - t % 4294967296 - 0) % 4294967296
def takB (r t : Nat) : Nat := if r < t % 4294967296 + 0 then 1 else 0
theorem takC_le {b : List Nat} {x k q : Nat} (hb : Ws b) (hx : x < 4294967296) (hq : q < 4294967296) : b.getD k 0 * x ≤ 18446744065119617025 ∧ takC b x k q ≤ 18446744069414584320 := by
 have h1 := hb.getD k
 have h3 : b.getD k 0 * x ≤ 4294967295 * 4294967295 := Nat.mul_le_mul (by omega) (by omega)
 unfold takC
 omega
theorem tak_step (r t : Nat) (hr : r < 4294967296) : takW r t + t = r + 4294967296 * (t / 4294967296 + takB r t) := by
 unfold takW takB
 split <;> omega
theorem tak_low (r t : Nat) (ht : t ≤ 18446744069414584320) : t / 4294967296 + takB r t < 4294967296 := by
 unfold takB
 split <;> omega
theorem TakeT.next {R : List Nat} {o : Nat} {b : List Nat} {x k : Nat} {S : List Nat} {q : Nat} (h : TakeT R o b x k S q) (hR : Ws R) (hb : Ws b) (hx : x < 4294967296) (ho : o + k < R.length) :
  S.getD (o + k) 0 = R.getD (o + k) 0 ∧ TakeT R o b x (k + 1) (S.set (o + k) (takW (R.getD (o + k) 0) (takC b x k q))) (takC b x k q / 4294967296 + takB (R.getD (o + k) 0) (takC b x k q)) := by
 obtain ⟨h1, h2, h3, h4, h5⟩ := h
 have ht := (takC_le (k := k) hb hx h5).2
 have hl := tak_low (R.getD (o + k) 0) _ ht
 have hs := tak_step (R.getD (o + k) 0) (takC b x k q) (hR.getD _)
 have hc : takC b x k q = q + b.getD k 0 * x := rfl
 refine ⟨h3 _ (.inr (Nat.le_refl _)), by rw [List.length_set]; exact h1, h2.set (by unfold takW; omega), fun j hj => ?_, ?_, hl⟩
 ·rw [getD_set_ne (by omega), h3 j (by omega)]
 ·rw [val_part_succ _ o k (by rw [List.length_set]; omega), val_part_succ R o k ho, val_take_next b k, getD_set_eq (by omega)]
  rw [part_congr (l := S.set (o + k) (takW (R.getD (o + k) 0) (takC b x k q))) (m := S) o k (by rw [List.length_set]; omega) (by omega) (fun j _ hj => getD_set_ne (by omega))]
  rw [Nat.pow_succ]
  generalize takW (R.getD (o + k) 0) (takC b x k q) = W at *
  generalize takC b x k q / 4294967296 + takB (R.getD (o + k) 0) (takC b x k q) = Q at *
  generalize 4294967296 ^ k = K at *
  generalize takC b x k q = t at *
  generalize R.getD (o + k) 0 = r at *
  have e : K * (W + t) = K * (r + 4294967296 * Q) := by rw [hs]
  rw [hc] at e
  grind
structure StepT (R : List Nat) (o : Nat) (b : List Nat) (S : List Nat) (often below : Nat) : Prop where
 len : S.length = R.length
 ws : Ws S
 far : ∀ j, j < o ∨ o + (b.length + 1) ≤ j → S.getD j 0 = R.getD j 0
 sum : val ((S.drop o).take (b.length + 1)) + often * val b = val ((R.drop o).take (b.length + 1)) + 4294967296 ^ (b.length + 1) * below
 high : val ((R.drop o).take (b.length + 1)) / val b ≤ often
 low : below ≤ 1
 word : often < 4294967296
theorem TakeT.step {R : List Nat} {o : Nat} {b : List Nat} {x : Nat} {S : List Nat} {q : Nat} (h : TakeT R o b x b.length S q) (ho : o + b.length < R.length) (hR : Ws R) (hx : x < 4294967296)
  (hq : val ((R.drop o).take (b.length + 1)) / val b ≤ x) :
  S.getD (o + b.length) 0 = R.getD (o + b.length) 0 ∧
  StepT R o b (S.set (o + b.length) ((R.getD (o + b.length) 0 + 4294967296 * 2 - q - 0) % 4294967296)) x (if R.getD (o + b.length) 0 < q + 0 then 1 else 0) := by
 obtain ⟨h1, h2, h3, h4, h5⟩ := h
 refine ⟨h3 _ (.inr (Nat.le_refl _)), by rw [List.length_set]; exact h1, h2.set (by omega), fun j hj => ?_, ?_, hq, by split <;> omega, hx⟩
 ·rw [getD_set_ne (by omega), h3 j (by omega)]
 ·rw [val_part_succ _ o _ (by rw [List.length_set]; omega), val_part_succ R o _ ho, getD_set_eq (by omega)]
  rw [part_congr (l := S.set (o + b.length) _) (m := S) o b.length (by rw [List.length_set]; omega) (by omega) (fun j _ hj => getD_set_ne (by omega))]
  rw [List.take_of_length_le (Nat.le_refl b.length)] at h4
  have hr := hR.getD (o + b.length)
  generalize R.getD (o + b.length) 0 = r at *
  have key : (r + 4294967296 * 2 - q - 0) % 4294967296 + q = r + 4294967296 * (if r < q + 0 then 1 else 0) := by split <;> omega
  generalize (r + 4294967296 * 2 - q - 0) % 4294967296 = W at *
  generalize (if r < q + 0 then 1 else 0) = c at *
  rw [Nat.pow_succ]
  generalize 4294967296 ^ b.length = K at *
  have e : K * (W + q) = K * (r + 4294967296 * c) := by rw [key]
  grind
theorem StepT.fin {R : List Nat} {o : Nat} {b : List Nat} {S : List Nat} {often : Nat} (h : StepT R o b S often 0) (hb : 0 < val b) :
  often = val ((R.drop o).take (b.length + 1)) / val b ∧ val ((S.drop o).take (b.length + 1)) = val ((R.drop o).take (b.length + 1)) % val b := by
 obtain ⟨h1, h2, h3, h4, h5, _, _⟩ := h
 rw [Nat.mul_zero, Nat.add_zero] at h4
 generalize val ((R.drop o).take (b.length + 1)) = P at *
 generalize val ((S.drop o).take (b.length + 1)) = s at *
 generalize val b = D at *
 have e1 : often ≤ P / D := by rw [Nat.le_div_iff_mul_le hb]; omega
 have e2 : often = P / D := by omega
 refine ⟨e2, ?_⟩
 have e3 := Nat.div_add_mod P D
 rw [← e2, Nat.mul_comm] at e3
 omega
theorem StepT.more {R : List Nat} {o : Nat} {b : List Nat} {S : List Nat} {often : Nat} (h : StepT R o b S often 1) (hb : 0 < val b) (ho : o + b.length < R.length) :
  0 < often ∧ val ((R.drop o).take (b.length + 1)) / val b < often := by
 obtain ⟨h1, h2, h3, h4, h5, _, _⟩ := h
 have hl := val_lt ((h2.drop o).take (b.length + 1))
 rw [List.length_take, List.length_drop, Nat.min_eq_left (by omega)] at hl
 generalize val ((R.drop o).take (b.length + 1)) = P at *
 generalize val ((S.drop o).take (b.length + 1)) = s at *
 generalize val b = D at *
 have e : P / D < often := by rw [Nat.div_lt_iff_lt_mul hb]; omega
 exact ⟨Nat.lt_of_le_of_lt (Nat.zero_le _) e, e⟩
theorem StepT.back {R : List Nat} {o : Nat} {b : List Nat} {S : List Nat} {often : Nat} {T : List Nat} {q : Nat} (h : StepT R o b S often 1) (hb : 0 < val b) (ho : o + b.length < R.length)
  (hT : AddT S o b 1 b.length T q) :
  T.getD (o + b.length) 0 = S.getD (o + b.length) 0 ∧ (S.getD (o + b.length) 0 + q + 0) / 4294967296 ≤ 1 ∧
  StepT R o b (T.set (o + b.length) ((S.getD (o + b.length) 0 + q + 0) % 4294967296)) (often - 1) (1 - (S.getD (o + b.length) 0 + q + 0) / 4294967296) := by
 obtain ⟨m1, m2⟩ := h.more hb ho
 obtain ⟨h1, h2, h3, h4, h5, h6, h7⟩ := h
 obtain ⟨g1, g2, g3, g4, g5⟩ := hT
 have hs := h2.getD (o + b.length)
 refine ⟨g3 _ (.inr (Nat.le_refl _)), by omega, by rw [List.length_set]; omega, g2.set (by omega), fun j hj => ?_, ?_, by omega, by omega, by omega⟩
 ·rw [getD_set_ne (by omega), g3 j (by omega), h3 j (by omega)]
 ·rw [val_part_succ _ o _ (by rw [List.length_set]; omega), getD_set_eq (by omega)]
  rw [part_congr (l := T.set (o + b.length) _) (m := T) o b.length (by rw [List.length_set]; omega) (by omega) (fun j _ hj => getD_set_ne (by omega))]
  rw [val_part_succ S o _ (by omega)] at h4
  rw [List.take_of_length_le (Nat.le_refl b.length)] at g4
  obtain ⟨k, rfl⟩ : ∃ k, often = k + 1 := ⟨often - 1, by omega⟩
  have hc : (S.getD (o + b.length) 0 + q + 0) / 4294967296 ≤ 1 := by omega
  generalize S.getD (o + b.length) 0 = r at *
  obtain ⟨c, hcc⟩ : ∃ c, (r + q + 0) / 4294967296 = c := ⟨_, rfl⟩
  obtain ⟨W, hW⟩ : ∃ W, (r + q + 0) % 4294967296 = W := ⟨_, rfl⟩
  have key : W + 4294967296 * c = r + q := by omega
  rw [hcc] at hc ⊢
  rw [hW]
  rw [Nat.pow_succ] at h4 ⊢
  generalize 4294967296 ^ b.length = K at *
  have e : K * (W + 4294967296 * c) = K * (r + q) := by rw [key]
  rw [Nat.add_sub_cancel]
  obtain ⟨d, hd⟩ : ∃ d, 1 - c = d := ⟨_, rfl⟩
  have hcd : c + d = 1 := by omega
  rw [hd]
  have e2 : K * 4294967296 * (c + d) = K * 4294967296 * 1 := by rw [hcd]
  grind
theorem guess_div {P D h1 h0 t K p' d' : Nat} (hP : P = p' + K * (h0 + 4294967296 * h1)) (hp : p' < K) (hD : D = d' + K * t) (ht : 0 < t) : P / D ≤ (h1 * 4294967296 + h0) / t := by
 rcases Nat.eq_zero_or_pos K with hK | hK
 ·omega
 rw [Nat.le_div_iff_mul_le ht]
 have e1 : P / D * D ≤ P := Nat.div_mul_le_self P D
 generalize P / D = q at *
 have e2 : q * D = q * d' + K * (q * t) := by rw [hD]; grind
 have e3 : K * (q * t) < K * (h0 + 4294967296 * h1 + 1) := by rw [Nat.mul_add K, Nat.mul_one]; omega
 have := Nat.lt_of_mul_lt_mul_left e3
 omega

open Go.RowKit
theorem top_bit (n : Nat) (h : n < 4294967296) : n.testBit 31 = decide (2147483648 ≤ n) := by
 rw [Nat.testBit_eq_decide_div_mod_eq]
 exact decide_eq_decide.2 (by rw [show 2 ^ 31 = 2147483648 from rfl]; omega)
theorem top_div (n : Nat) (h : n < 4294967296) : n / 2147483648 = if n.testBit 31 = true then 1 else 0 := by
 rw [top_bit n h]
 by_cases h1 : 2147483648 ≤ n
 ·rw [if_pos (by simpa using h1)]; omega
 ·rw [if_neg (by simpa using h1)]; omega
theorem borrow_bits (x y c D : Nat) (hx : x < 4294967296) (hy : y < 4294967296) (hc : c ≤ 1) (hD : (x + 4294967296 * 2 - y - c) % 4294967296 = D) :
  bits BinOp.or IntKind.u32 (bits BinOp.and IntKind.u32 (bits BinOp.xor IntKind.u32 IntKind.u32.max (x : Int)) (y : Int)) (bits BinOp.and IntKind.u32 (bits BinOp.xor IntKind.u32 IntKind.u32.max (bits BinOp.xor IntKind.u32 (x : Int) (y : Int))) (D : Int)) / 2147483648 = ((if x < y + c then 1 else 0 : Nat) : Int) := by
 have hD2 : D < 4294967296 := by omega
 have hm : IntKind.u32.max = ((4294967295 : Nat) : Int) := rfl
 have p32 : (4294967296 : Nat) = 2 ^ 32 := rfl
 have a1 : 4294967295 ^^^ x < 4294967296 := by rw [p32]; exact Nat.xor_lt_two_pow (by omega) (by omega)
 have a2 : x ^^^ y < 4294967296 := by rw [p32]; exact Nat.xor_lt_two_pow (by omega) (by omega)
 have a3 : 4294967295 ^^^ (x ^^^ y) < 4294967296 := by rw [p32]; exact Nat.xor_lt_two_pow (by omega) (by omega)
 have a4 : (4294967295 ^^^ x) &&& y < 4294967296 := Nat.lt_of_le_of_lt Nat.and_le_right hy
 have a5 : (4294967295 ^^^ (x ^^^ y)) &&& D < 4294967296 := Nat.lt_of_le_of_lt Nat.and_le_right hD2
 have a6 : ((4294967295 ^^^ x) &&& y) ||| ((4294967295 ^^^ (x ^^^ y)) &&& D) < 4294967296 := by rw [p32] at *; exact Nat.or_lt_two_pow a4 a5
 rw [hm, u32_xor_nat _ _ (by omega) hx, u32_xor_nat _ _ hx hy, u32_xor_nat _ _ (by omega) a2, u32_and_nat _ _ a1 hy, u32_and_nat _ _ a3 hD2, u32_or_nat _ _ a4 a5]
 obtain ⟨n, hn⟩ : ∃ n, ((4294967295 ^^^ x) &&& y) ||| ((4294967295 ^^^ (x ^^^ y)) &&& D) = n := ⟨_, rfl⟩
 have hb : n.testBit 31 = ((!decide (2147483648 ≤ x) && decide (2147483648 ≤ y)) || ((decide (2147483648 ≤ x) == decide (2147483648 ≤ y)) && decide (2147483648 ≤ D))) := by
  rw [← hn, Nat.testBit_or, Nat.testBit_and, Nat.testBit_and, Nat.testBit_xor, Nat.testBit_xor, Nat.testBit_xor, top_bit x hx, top_bit y hy, top_bit D hD2, show Nat.testBit 4294967295 31 = true by decide]
  cases decide (2147483648 ≤ x) <;> cases decide (2147483648 ≤ y) <;> cases decide (2147483648 ≤ D) <;> rfl
 rw [hn] at a6 ⊢
 have h2 := top_div n a6
 have h3 : ((n : Nat) : Int) / 2147483648 = ((n / 2147483648 : Nat) : Int) := by omega
 rw [h3, h2, hb]
 clear hb h2 h3 a1 a2 a3 a4 a5 a6 hm p32 hn
 by_cases b1 : 2147483648 ≤ x <;> by_cases b2 : 2147483648 ≤ y <;> by_cases b3 : 2147483648 ≤ D <;> by_cases b4 : x < y + c <;> simp [b1, b2, b3, b4] <;> omega
theorem ret2_u32 {a b c d : Int} (h : a = c) (g : b = d) : Ending.returned (.tuple #[.int .u32 a, .int .u32 b]) = .returned (.tuple #[.int .u32 c, .int .u32 d]) := by rw [h, g]
theorem sub32_any (x y c : Nat) (w : World) (hx : x < 4294967296) (hy : y < 4294967296) (hc : c ≤ 1) :
  Cq 392 #[.int .u32 x, .int .u32 y, .int .u32 c] (.tuple #[.int .u32 ((x + 4294967296 * 2 - y - c) % 4294967296 : Nat), .int .u32 ((if x < y + c then 1 else 0 : Nat) : Int)]) w := by
 obtain ⟨D, hD⟩ : ∃ D : Nat, (x + 4294967296 * 2 - y - c) % 4294967296 = D := ⟨_, rfl⟩
 have hb := borrow_bits x y c D hx hy hc hD
 obtain ⟨r, hr⟩ : ∃ r : Nat, (if x < y + c then 1 else 0 : Nat) = r := ⟨_, rfl⟩
 rw [hr] at hb
 rw [hD, hr]
 have hd : ((x : Int) - (y : Int) - (c : Int)) % 4294967296 = (D : Int) := by omega
 have hsg : IntKind.u32.signed = false := rfl
 have HB := Lib.hid hb
 clear hx hy hc hD hr hb
 go_enter Tryz.func392, Tryz.ntmps392
 go_wp2
 go_ret2
 exact ⟨ret2_u32 (by omega) HB.out, rfl⟩

open Go.RowKit
theorem shr_self (g n c d s : Nat) (R : List Nat) (w : World) (hR : Row w g R) (hRw : Ws R) (hl : R.length = n) (hn : n ≤ 4096) (hs : s < 32) :
  Cp 359 #[.slice (some ⟨g, 0, none⟩) n c, .slice (some ⟨g, 0, none⟩) n d, .int .i64 s] w (fun e w' => e = .returned (.tuple #[]) ∧ ∃ S, ShrP R 0 R s n S ∧ Row w' g S ∧ Only g w w') := by
 have hn1 : (n : Int) ≤ 4096 := by omega
 have hs1 : (s : Int) < 32 := by omega
 have hs0 : (0 : Int) ≤ (s : Int) := by omega
 have HL := Lib.hid hl
 have HRW := Lib.hid hRw
 have HR := Lib.hid hR
 have HSTART := Lib.hid (ShrP.start 0 R s hRw)
 clear hR hRw hl
 go_enter Tryz.func359, Tryz.ntmps359
 go_wp2
 go_loopw [9] (fun i wr => ∃ (k : Nat) (S : List Nat), i = .int .i64 k ∧ k ≤ n ∧ Hid (Row wr g S) ∧ Hid (ShrP R 0 R s k S) ∧ Only g w wr) (fun i _ => n - (intOf i).toNat)
 case atStart => exact ⟨0, R, rfl, Nat.zero_le _, HR, HSTART, Only.refl _ _⟩
 case round =>
  obtain ⟨k, S, rfl, hk, HRS, HS, hbw⟩ := hrel
  by_cases hlt : k < n
  ·have hSl : S.length = n := by rw [HS.out.len, HL.out]
   have hS := HRS.out.cell k (by omega)
   have hfz := HRS.out.frozen k
   have HNX := Lib.hid (HS.out.next HRW.out (by omega) (by rw [HL.out]; omega))
   have HROW := Lib.hid (HRS.out.set k (shrW R s k))
   have hgg := HRS.out.lt
   have HRR := Lib.hid (fun W (hW : Below (g + 1) wr W) => show RW W (g + 1) (some ⟨g, 0, none⟩) S from (HRS.out.rw0 HS.out.ws).below hW)
   have HF := Lib.hid HS.out.far
   have C1 := Lib.hid (fun W (hW : Below (g + 1) wr W) => show Cp 329 #[.slice (some ⟨g, 0, none⟩) n d, .int .i64 k] W fun e w' => e = .returned (.int .u32 (R.getD k 0 : Nat)) ∧ W = w' from by
    have := word_nat (some ⟨g, 0, none⟩) n d k S (g + 1) W hSl (by omega) (HRR.out W hW)
    rw [HF.out k (by omega)] at this; exact this)
   have C2 := Lib.hid (fun W (hW : Below (g + 1) wr W) => show Cp 329 #[.slice (some ⟨g, 0, none⟩) n d, .int .i64 ((k + 1 : Nat) : Int)] W fun e w' => e = .returned (.int .u32 (R.getD (k + 1) 0 : Nat)) ∧ W = w' from by
    have := word_nat (some ⟨g, 0, none⟩) n d (k + 1) S (g + 1) W hSl (by omega) (HRR.out W hW)
    rw [HF.out (k + 1) (by omega)] at this; exact this)
   have hbd := below_drewN' (Below.refl (g + 1) wr) 1
   have HBS := Lib.hid (show Only g w (wr.setCell ⟨g, k, none⟩ (.int .u32 (shrW R s k : Nat))) from hbw.setCell _)
   obtain ⟨x, hx⟩ : ∃ x, R.getD k 0 = x := ⟨_, rfl⟩
   rw [hx] at C1
   obtain ⟨y, hy⟩ : ∃ y, R.getD (k + 1) 0 = y := ⟨_, rfl⟩
   rw [hy] at C2
   rw [show ((k + 1 : Nat) : Int) = (k : Int) + 1 by omega] at C2
   have HW := Lib.hid (show ((shrW R s k : Nat) : Int) = bits BinOp.or IntKind.u32 ((x : Int) / 2 ^ s) ((y : Int) * 2 ^ (32 - s) % 4294967296) by
    rw [or_shr x y s (by omega) (by rw [← hx]; exact HRW.out.getD k)]
    unfold shrW; rw [hx, hy])
   have hkk : (k : Int) < (n : Int) := by omega
   have e1 : IntKind.i64.wrap ((k : Int) + 1) = (k : Int) + 1 := IntWalk.i64_in _ (by omega)
   have e2 : IntKind.i64.wrap (32 - (s : Int)) = 32 - (s : Int) := IntWalk.i64_in _ (by omega)
   have e3 : (0 : Int) ≤ 32 - (s : Int) := by omega
   rw [Nat.zero_add] at HNX
   clear hx hy hk hSl hgg
   go_wp2
   go_region_with (first
      | (go_at_call 329; (with_reducible refine (C1.out _ ?_).mono ?_); exact hbd; rintro e w' ⟨rfl, rfl⟩)
      | (go_at_call 329; (with_reducible refine (C2.out _ ?_).mono ?_); exact hbd; rintro e w' ⟨rfl, rfl⟩))
   all_goals
    go_wp2_with fail
    rw [← HW.out]
    exact ⟨⟨k + 1, _, by go_num, hlt, HROW, HNX, HBS.out.drewN 1⟩, by simp [intOf]; omega⟩
  ·have hkn : k = n := by omega
   subst hkn
   clear hlt
   go_wp2
   go_end0
   exact ⟨rfl, S, HS.out, HRS.out, hbw⟩

open Go.RowKit
open Go.RowKit
open Go.RowKit
open Go.RowKit
theorem lng_mono {v u : Nat} (h : u ≤ v) (hv : lngB v = false) : lngB u = false := by
 unfold lngB at hv ⊢
 have h1 := of_decide_eq_false hv
 have h2 := wds_len_lt (n := u) (k := (wds v).length) (Nat.lt_of_le_of_lt h (wds_lt v))
 exact decide_eq_false (by omega)
open Go.RowKit
open Go.RowKit
theorem shlq_long {v : Nat} {p : Int} {w : World} (h : lngB v = true) : ShlQ v p w = ErrPost 3 w := by funext e w'; unfold ShlQ; rw [if_pos h]
theorem shlq_neg {v : Nat} {p : Int} {w : World} (h : lngB v = false) (hp : p < 0) : ShlQ v p w = ErrPost 1 w := by funext e w'; unfold ShlQ; rw [if_neg (by rw [h]; simp), if_pos hp]
theorem shlq_ok {v q : Nat} {w : World} (h : lngB v = false) : ShlQ v (q : Int) w = NatPost (v * 2 ^ q) w := by funext e w'; unfold ShlQ; rw [if_neg (by rw [h]; simp), if_neg (by omega), Int.toNat_natCast]
theorem pshl_any (A : Option Addr) (n c : Nat) (p : Int) (l : List Nat) (w : World) (hn : l.length = n) (hc : n ≤ c) (hm : n ≤ 35184372088832) (h : RW w w.heap.size A l) :
  Cp 340 #[.slice A n c, .int .i64 p] w (ShlQ (val l) p w) := by
 cases hl : lngB (val l)
 ·by_cases hp : p < 0
  ·rw [shlq_neg hl hp]
   exact pshl_neg A n c p l w hn hc hm h hl hp
  ·obtain ⟨q, rfl⟩ : ∃ q : Nat, p = (q : Int) := ⟨p.toNat, by omega⟩
   rw [shlq_ok hl]
   by_cases h0 : nrm l = []
   ·have := pshl_zero A n c q l w hn hc hm h (by omega) h0
    rw [← val_nrm l, h0, show val [] = 0 from rfl, Nat.zero_mul]
    exact this
   ·have h1 : nrm (nrm l) ≠ [] := by rw [nrm_nrm]; exact h0
    by_cases hf : btl (nrm l) + q ≤ 32768
    ·exact pshl_ok A n c q (q / 32) (q % 32) l w hn hc hm h hl h0 hf (by omega) (by omega)
    ·refine (pshl_far A n c q l w hn hc hm h hl (by omega) h0 (by omega)).mono fun e w' x => ?_
     obtain ⟨rfl, hb⟩ := x
     have := shl_long (n := q) h.1.nrm h1 (by omega)
     rw [val_nrm] at this
     exact NatPost.long this hb
 ·rw [shlq_long hl]
  exact pshl_long A n c p l w hn hc hm h hl
theorem pow_le (b e n : Nat) (h : e ≤ n) (hl : lngB (b ^ e) = true) : lngB (b ^ n) = true := by
 cases hn : lngB (b ^ n)
 ·rcases Nat.eq_zero_or_pos b with h0 | h0
  ·subst h0
   rcases Nat.eq_zero_or_pos e with h1 | h1
   ·subst h1
    have : lngB (0 ^ 0) = false := lng_small (by simp)
    rw [this] at hl; cases hl
   ·rw [Nat.zero_pow h1, lng_small (by omega)] at hl; cases hl
  ·have := lng_mono (Nat.pow_le_pow_right h0 h) hn
   rw [this] at hl; cases hl
 ·rfl
theorem half_pow (b n q : Nat) : b ^ (n / 2 ^ (q + 1)) * b ^ (n / 2 ^ (q + 1)) * b ^ (n / 2 ^ q % 2) = b ^ (n / 2 ^ q) := by
 rw [← Nat.pow_add, ← Nat.pow_add]
 congr 1
 rw [Nat.pow_succ, ← Nat.div_div_eq_div_mul]
 omega
theorem sq_pow (b n q : Nat) : b ^ (n / 2 ^ (q + 1)) * b ^ (n / 2 ^ (q + 1)) = b ^ (n / 2 ^ (q + 1) + n / 2 ^ (q + 1)) := (Nat.pow_add ..).symm
theorem sq_le (n q : Nat) : n / 2 ^ (q + 1) + n / 2 ^ (q + 1) ≤ n := by
 have h1 : n / 2 ^ (q + 1) * 2 ^ (q + 1) ≤ n := Nat.div_mul_le_self n _
 have h2 : 2 ≤ 2 ^ (q + 1) := by rw [Nat.pow_succ]; have := Nat.two_pow_pos q; omega
 have h3 : n / 2 ^ (q + 1) * 2 ≤ n / 2 ^ (q + 1) * 2 ^ (q + 1) := Nat.mul_le_mul_left _ h2
 omega



end
section
open Go.RowKit
theorem nrm_full {l : List Nat} (h : Ws l) (hv : l = [] ∨ 4294967296 ^ (l.length - 1) ≤ val l) : nrm l = l := by
 rcases hv with rfl | hv
 ·rfl
 ·have h1 := nrm_len l
  rcases Nat.lt_or_ge (nrm l).length l.length with h2 | h2
  ·have h3 := val_lt h.nrm
   rw [val_nrm] at h3
   have h4 : 4294967296 ^ (nrm l).length ≤ 4294967296 ^ (l.length - 1) := Nat.pow_le_pow_right (by omega) (by omega)
   omega
  ·have h3 := nrm_take l
   rw [List.take_of_length_le h2] at h3
   exact h3
structure TpT (a : List Nat) (x y k : Nat) (S : List Nat) (q : Nat) : Prop where
 len : S.length = a.length
 ws : Ws S
 far : ∀ j, k ≤ j → S.getD j 0 = a.getD j 0
 sum : val (S.take k) + 4294967296 ^ k * q = x * val (a.take k) + y
 low : q < 4294967296
theorem TpT.start {a : List Nat} (ha : Ws a) {x y : Nat} (hy : y < 4294967296) : TpT a x y 0 a y := ⟨rfl, ha, fun _ _ => rfl, by simp [val], hy⟩
def tpC (a : List Nat) (x k q : Nat) : Nat := q + a.getD k 0 * x
theorem tpC_lt {a : List Nat} {x k q : Nat} (ha : Ws a) (hx : x < 4294967296) (hq : q < 4294967296) : a.getD k 0 * x ≤ 18446744065119617025 ∧ tpC a x k q ≤ 18446744069414584320 := by
 have h1 := ha.getD k
 have h3 : a.getD k 0 * x ≤ 4294967295 * 4294967295 := Nat.mul_le_mul (by omega) (by omega)
 unfold tpC
 omega
theorem TpT.next {a : List Nat} {x y k : Nat} {S : List Nat} {q : Nat} (h : TpT a x y k S q) (ha : Ws a) (hx : x < 4294967296) (hk : k < a.length) :
  TpT a x y (k + 1) (S.set k (tpC a x k q % 4294967296)) (tpC a x k q / 4294967296) := by
 obtain ⟨h1, h2, h3, h4, h5⟩ := h
 have hc := (tpC_lt (k := k) ha hx h5).2
 refine ⟨by rw [List.length_set]; exact h1, h2.set (by omega), fun j hj => by rw [getD_set_ne (by omega)]; exact h3 j (by omega), ?_, by omega⟩
 rw [val_take_succ _ k (by rw [List.length_set]; omega), val_take_succ a k hk, getD_set_eq (by omega)]
 rw [take_congr (l := S.set k (tpC a x k q % 4294967296)) (m := S) k (by rw [List.length_set]; omega) (by omega) (fun j hj => getD_set_ne (by omega))]
 have e := step_words (4294967296 ^ k) (tpC a x k q) (val (S.take k)) (x * (val (a.take k) + 4294967296 ^ k * a.getD k 0) + y) (by
  have : tpC a x k q = q + a.getD k 0 * x := rfl
  rw [this]
  grind)
 rw [Nat.pow_succ]
 exact e
theorem TpT.fin {n x y q : Nat} {S : List Nat} (h : TpT (wds n) x y (wds n).length S q) (hx : 0 < x) : (if q = 0 then S else S ++ [q]) = wds (n * x + y) := by
 obtain ⟨h1, h2, h3, h4, h5⟩ := h
 rw [List.take_of_length_le (by omega), List.take_of_length_le (Nat.le_refl _), wds_val] at h4
 by_cases hq : q = 0
 ·rw [if_pos hq]
  rw [hq, Nat.mul_zero, Nat.add_zero] at h4
  have hv : val S = n * x + y := by rw [h4, Nat.mul_comm]
  rw [← hv, ← nrm_wds h2]
  refine (nrm_full h2 ?_).symm
  rcases Nat.eq_zero_or_pos (wds n).length with h0 | h0
  ·left; exact List.eq_nil_of_length_eq_zero (by omega)
  ·right
   have h6 := val_ge (l := wds n) (by rw [wds_nrm]; intro e; rw [e] at h0; simp at h0)
   rw [wds_nrm, wds_val] at h6
   rw [h1, hv]
   have : n * 1 ≤ n * x := Nat.mul_le_mul_left _ hx
   omega
 ·rw [if_neg hq]
  have hw : Ws (S ++ [q]) := h2.append (Ws.cons h5 Ws.nil)
  have hv : val (S ++ [q]) = n * x + y := by rw [val_snoc, h1, h4, Nat.mul_comm]
  rw [← hv, ← nrm_wds hw]
  refine (nrm_full hw (.inr ?_)).symm
  rw [val_snoc, List.length_append, List.length_singleton, Nat.add_sub_cancel]
  have : 4294967296 ^ S.length * 1 ≤ 4294967296 ^ S.length * q := Nat.mul_le_mul_left _ (by omega)
  omega
theorem OwnW.cell {B : Nat} {l : List Nat} {g n c : Nat} {w : World} (h : OwnW B l (.slice (some ⟨g, 0, none⟩) n c) w) (k : Nat) (hk : k < l.length) :
  w.cell? ⟨g, k, none⟩ = some (.int .u32 (l.getD k 0 : Nat)) ∧ w.frozen? ⟨g, k, none⟩ = false := by
 rcases h.2 with ⟨e, _⟩ | ⟨g', cap, cur, e, hB, hg, hcap, hmax, hcur, htk⟩
 ·cases e
 ·cases e
  refine ⟨?_, by simp [World.frozen?, hg]⟩
  have := World.ownsRow.cells (g := g) h rfl k (.int .u32 (l.getD k 0 : Nat)) (by rw [List.getElem?_map, getD_some hk]; rfl)
  by_cases hz : k = 0
  ·subst hz; simpa [Addr.add] using this
  ·simpa [Addr.add, hz] using this
theorem OwnW.set {B : Nat} {l : List Nat} {g n c : Nat} {w : World} (h : OwnW B l (.slice (some ⟨g, 0, none⟩) n c) w) (k u : Nat) :
  OwnW B (l.set k u) (.slice (some ⟨g, 0, none⟩) n c) (w.setCell ⟨g, k, none⟩ (.int .u32 (u : Nat))) := by
 rcases h.2 with ⟨e, _⟩ | ⟨g', cap, cur, e, hB, hg, hcap, hmax, hcur, htk⟩
 ·cases e
 ·cases e
  refine ⟨by rw [List.length_map, List.length_set, Nat.mul_one], .inr ⟨g, c, cur.set! k (.int .u32 (u : Nat)), by rw [List.length_set], hB, ?_, by rw [List.length_set]; exact hcap, hmax, ?_, ?_⟩⟩
  ·simp [World.setCell, Array.getElem?_modify, hg]
  ·simpa using hcur
  ·rw [List.map_set, ← htk]
   simp only [Array.set!_eq_setIfInBounds, Array.toList_setIfInBounds, List.length_set]
   rw [List.take_set]
theorem timesPlus_any (B : Nat) (v : Value) (n x y : Nat) (w : World) (h : OwnW B (wds n) v w) (hB : B ≤ w.heap.size) (hl : (wds n).length ≤ 1024) (hx : x < 4294967296) (hx0 : 0 < x) (hy : y < 4294967296) :
  Cp 300 #[v, .int .u32 x, .int .u32 y] w fun e w' => ∃ v', e = .returned v' ∧ OwnW B (wds (n * x + y)) v' w' ∧ Below B w w' := by
 obtain ⟨i0, hi, hz0, hz1, hz2⟩ := info_parts infoW
 have hy1 : IntKind.u64.wrap (y : Int) = (y : Int) := IntWalk.u64_in _ (by omega)
 have hx1 : IntKind.u64.wrap (x : Int) = (x : Int) := IntWalk.u64_in _ (by omega)
 have HX := Lib.hid hx
 have HX0 := Lib.hid hx0
 have HST := Lib.hid (TpT.start (x := x) (wds_ws n) hy)
 rcases h.2 with ⟨rfl, h0⟩ | ⟨g, cap, cur, rfl, hBg, hg, hcap, hmax, hcur, htk⟩
 ·have hnil : wds n = [] := List.eq_nil_of_length_eq_zero h0
  have hn0 : n = 0 := by rw [← wds_val n, hnil]; rfl
  have HF := Lib.hid (show (if y = 0 then ([] : List Nat) else [y]) = wds (n * x + y) from by
   have := (show TpT (wds n) x y (wds n).length [] y from by rw [hnil]; exact TpT.start Ws.nil hy).fin hx0
   rw [← this]; rfl)
  have hOn : OwnW B [] (.slice none 0 0) w := OwnW.nil _ _
  by_cases hy0 : y = 0
  ·rw [if_pos hy0] at HF
   have b0 : ((y : Int) == 0) = true := by rw [hy0]; rfl
   clear h hl hx hx0 hy h0 hnil hn0 hy0 HST
   go_enter Tryz.func300, Tryz.ntmps300
   go_wp2
   go_loopw [14, 7] (fun iv cv wr => iv = .int .i64 0 ∧ cv = .int .u64 (y : Nat) ∧ w = wr) (fun _ _ _ => 0)
   case atStart => exact ⟨rfl, rfl, rfl⟩
   case round =>
    obtain ⟨rfl, rfl, rfl⟩ := hrel
    go_wp2
    go_ret
    exact ⟨_, rfl, by rw [← HF.out]; exact hOn, Below.refl _ _⟩
  ·rw [if_neg hy0] at HF
   have b0 : ((y : Int) == 0) = false := by simp; omega
   have k1 : IntKind.u32.wrap (y : Int) = (y : Int) := IntWalk.u32_in _ (by omega)
   clear h hl hx hx0 hy h0 hnil hn0 hy0 HST
   go_enter Tryz.func300, Tryz.ntmps300
   go_wp2
   go_loopw [14, 7] (fun iv cv wr => iv = .int .i64 0 ∧ cv = .int .u64 (y : Nat) ∧ w = wr) (fun _ _ _ => 0)
   case atStart => exact ⟨rfl, rfl, rfl⟩
   case round =>
    obtain ⟨rfl, rfl, rfl⟩ := hrel
    go_wp2_with (at_builtin; refine wpList_append_own _ rfl _ _ 180 rfl B 156 i0 (.int .u32 0) 1 4 Tryz.underlying180 hi hz0 hz1 hz2 rfl (by decide) _ _ _ rfl (World.ownsRow.alloc (w := w) hOn _) ⟨w.heap.size, 0, none⟩ 1 1 [.int .u32 (y : Nat)] rfl rfl ?c1 ?c2 ?c3 ?c4 ?c5 ?_)
    case c1 => exact (cell_one_new _ _ _)
    case c2 => simp [Value.oneCell']
    case c3 => simp [maxLen]
    case c4 => simp
    case c5 => simp; omega
    intro v' w2 hown hgr _
    have HO2 := Lib.hid (OwnW.snoc (L := []) hown)
    have hbb : Below B w w2 := ((Below.refl _ _).alloc hB _).grown hgr (by simp; omega) (fun j hj => by simp [Value.ownBlock] at hj)
    clear hown hgr
    go_wp2
    go_ret
    exact ⟨_, rfl, by rw [← HF.out]; exact HO2.out, hbb⟩
 ·obtain ⟨N, hN⟩ : ∃ N, (wds n).length = N := ⟨_, rfl⟩
  have HO0 := Lib.hid h
  have HN := Lib.hid hN
  have HWS := Lib.hid (wds_ws n)
  rw [hN] at hl hcap HO0 ⊢
  have hN1 : (N : Int) ≤ 1024 := by omega
  clear h hx hx0 hy hg hcur htk hN hmax
  go_enter Tryz.func300, Tryz.ntmps300
  go_wp2
  go_loopw [14, 7] (fun iv cv wr => ∃ (k : Nat) (S : List Nat) (q : Nat), iv = .int .i64 (k : Nat) ∧ cv = .int .u64 (q : Nat) ∧ k ≤ N ∧ Hid (OwnW B S (.slice (some ⟨g, 0, none⟩) N cap) wr) ∧ Hid (TpT (wds n) x y k S q) ∧ Below B w wr) (fun iv _ _ => N - (intOf iv).toNat)
  case atStart => exact ⟨0, wds n, y, rfl, rfl, Nat.zero_le _, HO0, HST, Below.refl _ _⟩
  case round =>
   obtain ⟨k, S, q, rfl, rfl, hk, HO, HT, hbw⟩ := hrel
   by_cases hlt : k < N
   ·have hkl : k < (wds n).length := by rw [HN.out]; exact hlt
    have hnx := HT.out.next HWS.out HX.out hkl
    obtain ⟨hcell, hfz⟩ := HO.out.cell k (by rw [HT.out.len]; exact hkl)
    rw [HT.out.far k (Nat.le_refl _)] at hcell
    obtain ⟨l1, l2⟩ := tpC_lt (k := k) HWS.out HX.out HT.out.low
    have ul := HWS.out.getD k
    have ql := HT.out.low
    have et : tpC (wds n) x k q = q + (wds n).getD k 0 * x := rfl
    obtain ⟨t, ht⟩ : ∃ t, tpC (wds n) x k q = t := ⟨_, rfl⟩
    obtain ⟨u, hu⟩ : ∃ u, (wds n).getD k 0 = u := ⟨_, rfl⟩
    rw [ht] at hnx l2 et
    rw [hu] at hcell l1 ul et
    have HOS := Lib.hid (HO.out.set k (t % 4294967296))
    have HNX := Lib.hid hnx
    have k1 : IntKind.u64.wrap (u : Int) = (u : Int) := IntWalk.u64_in _ (by omega)
    have k2 : IntKind.u64.wrap ((u : Int) * (x : Int)) = (u : Int) * (x : Int) := IntWalk.u64_in _ (by
     have : ((u * x : Nat) : Int) = (u : Int) * (x : Int) := Int.natCast_mul u x
     omega)
    have k3 : IntKind.u64.wrap ((q : Int) + (u : Int) * (x : Int)) = (t : Int) := by
     have : ((u * x : Nat) : Int) = (u : Int) * (x : Int) := Int.natCast_mul u x
     rw [IntWalk.u64_in _ (by omega)]
     omega
    have hk1 : (k : Int) < (N : Int) := by omega
    rw [show ((t % 4294967296 : Nat) : Int) = (t : Int) % 4294967296 by omega] at HOS
    clear hkl hnx l1 l2 ul ql et ht hu
    go_wp2
    go_roundw
    case rel => exact ⟨k + 1, _, t / 4294967296, by go_num, by go_num, by omega, HOS, HNX, hbw.setCell hBg _⟩
    case measure => simp [intOf]; omega
   ·have hkN : k = N := by omega
    have hT2 : TpT (wds n) x y (wds n).length S q := by rw [HN.out, ← hkN]; exact HT.out
    have HF := Lib.hid (hT2.fin HX0.out)
    have hql := HT.out.low
    have hSl := HT.out.len
    have hSW := HT.out.ws
    by_cases hq0 : q = 0
    ·rw [if_pos hq0] at HF
     have b0 : ((q : Int) == 0) = true := by rw [hq0]; rfl
     clear hT2 hql hSl hSW hq0 hkN
     go_wp2
     go_ret
     exact ⟨_, rfl, by rw [← HF.out]; exact HO.out, hbw⟩
    ·rw [if_neg hq0] at HF
     have b0 : ((q : Int) == 0) = false := by simp; omega
     have k1 : IntKind.u32.wrap (q : Int) = (q : Int) := IntWalk.u32_in _ (by omega)
     have HSL := Lib.hid (show (N + 1) * 4 ≤ 140737488355328 ∧ N + 1 ≤ maxLen ∧ S.length = N from by unfold maxLen; rw [hSl, HN.out]; omega)
     have hbs := hbw.size
     have hon : wr.ownsRow B 156 1 (.slice (some ⟨g, 0, none⟩) N cap) N (S.map fun u => Value.int .u32 (u : Nat)) := by
      have := HO.out
      unfold OwnW at this
      rw [HSL.out.2.2] at this
      exact this
     have HON := Lib.hid hon
     clear hT2 hql hSl hSW hq0 hkN hon
     go_wp2_with (at_builtin; refine wpList_append_own _ rfl _ _ 180 rfl B 156 i0 (.int .u32 0) 1 4 Tryz.underlying180 hi hz0 hz1 hz2 rfl (by decide) _ _ _ rfl (World.ownsRow.alloc (w := wr) HON.out _) ⟨wr.heap.size, 0, none⟩ 1 1 [.int .u32 (q : Nat)] rfl rfl ?c1 ?c2 ?c3 ?c4 ?c5 ?_)
     case c1 => exact (cell_one_new _ _ _)
     case c2 => simp [Value.oneCell']
     case c3 => exact HSL.out.2.1
     case c4 => exact HSL.out.1
     case c5 => simp; omega
     intro v' w2 hown hgr _
     rw [← HSL.out.2.2] at hown
     have HO2 := Lib.hid (OwnW.snoc hown)
     have hbb : Below B w w2 := (hbw.alloc (by omega) _).grown hgr (by simp; omega) (fun j hj => (World.ownsRow.lt HO.out j hj).1)
     clear hown hgr
     go_wp2
     go_ret
     exact ⟨_, rfl, by rw [← HF.out]; exact HO2.out, hbb⟩
open Go.RowKit
theorem OwnW.below {B : Nat} {l : List Nat} {v : Value} {w w' : World} (h : OwnW B l v w) (hb : Below w.heap.size w w') : OwnW B l v w' := by
 refine World.ownsRow.kept (row := none) h ⟨hb.os, hb.tape, hb.output, hb.size, fun k hk _ => hb.block k hk⟩ ?_
 cases v.ownBlock <;> simp
theorem lng_le' {v : Nat} (h : lngB v = false) : (wds v).length ≤ 1024 := by
 unfold lngB at h
 have := of_decide_eq_false h
 omega
theorem lng_mono' {v u : Nat} (h : u ≤ v) (hu : lngB u = true) : lngB v = true := by
 unfold lngB at hu ⊢
 have h1 := of_decide_eq_true hu
 have h2 := wds_len_lt (n := u) (k := (wds v).length) (Nat.lt_of_le_of_lt h (wds_lt v))
 exact decide_eq_true (by omega)
theorem sum_len_max' (v u : Nat) : (wds (v + u)).length ≤ max (wds v).length (wds u).length + 1 := by
 refine wds_len_lt ?_
 have h1 := wds_lt v
 have h2 := wds_lt u
 have h3 : 4294967296 ^ (wds v).length ≤ 4294967296 ^ max (wds v).length (wds u).length := Nat.pow_le_pow_right (by omega) (by omega)
 have h4 : 4294967296 ^ (wds u).length ≤ 4294967296 ^ max (wds v).length (wds u).length := Nat.pow_le_pow_right (by omega) (by omega)
 have := pow_twice (max (wds v).length (wds u).length)
 omega
theorem prod_len_sum' (v u : Nat) : (wds (v * u)).length ≤ (wds v).length + (wds u).length := by
 refine wds_len_lt ?_
 rw [Nat.pow_add]
 exact Nat.mul_lt_mul'' (wds_lt v) (wds_lt u)
def sv (r : Nat) (s : ByteArray) : Nat := pv r (fun i => dgt (btn s i)) s.size
structure Rest (s : ByteArray) (o : Nat) (t : ByteArray) : Prop where
 le : o ≤ s.size
 size : t.size = s.size - o
 byte : ∀ i, i < t.size → btn t i = btn s (o + i)
theorem btn_extract (t : ByteArray) (a b i : Nat) (hi : i < b - a) (hb : b ≤ t.size) : btn (t.extract a b) i = btn t (a + i) := by
 have h1 : i < (t.extract a b).size := by rw [ByteArray.size_extract]; omega
 rw [← btn_eq _ i h1, ← btn_eq t (a + i) (by omega), ByteArray.getElem_extract]
theorem Rest.all (s : ByteArray) : Rest s 0 s := ⟨Nat.zero_le _, rfl, fun i _ => by rw [Nat.zero_add]⟩
theorem Rest.next {s t : ByteArray} {o m : Nat} (h : Rest s o t) (hm : m ≤ t.size) : Rest s (o + m) (t.extract m t.size) :=
 ⟨by have := h.le; have := h.size; omega, by rw [ByteArray.size_extract, h.size]; omega, fun i hi => by
  have h1 : i < t.size - m := by rw [ByteArray.size_extract] at hi; omega
  rw [btn_extract t m t.size i h1 (Nat.le_refl _), h.byte _ (by omega), Nat.add_assoc]⟩
def strLen : Value → Nat
 | .string s => s.size
 | _ => 0
theorem parse_ok (s : ByteArray) (r : Nat) (w : World) (hs : s.size ≤ 4611686018427387903) (h2 : 2 ≤ r) (h36 : r ≤ 36) (hd : adB r s = true) :
  Cp 262 #[.string s, .int .i64 r] w (NatPost (sv r s) w) := by
 have c1 := allDigits_any s r w hs h36
 have C2 := Lib.hid (fun W => group_any r W h2 h36)
 rw [hd] at c1
 have hdd : ∀ i, i < s.size → dgt (btn s i) < r := by
  unfold adB at hd
  exact of_decide_eq_true (Bool.and_eq_true _ _ ▸ hd : _ ∧ _).2
 have HD := Lib.hid hdd
 have H2 := Lib.hid h2
 have H36 := Lib.hid h36
 have hr1 : ¬ (r : Int) < 2 := by omega
 have hr2 : ¬ (36 : Int) < (r : Int) := by omega
 have hs1 : (s.size : Int) ≤ 4611686018427387903 := by omega
 clear hd hdd hs h2 h36
 go_enter Tryz.func262, Tryz.ntmps262
 go_wp2_with fail
 refine c1.mono ?_
 rintro e w1 ⟨rfl, rfl⟩
 go_wp2_with fail
 refine (C2.out _).mono ?_
 rintro e w1 ⟨⟨c, p, rfl, hp, hc1, hc2, hpl⟩, rfl⟩
 have HP := Lib.hid hp
 have HPL := Lib.hid hpl
 have HC1 := Lib.hid hc1
 have hc0 : (c : Int) ≤ 32 := by omega
 clear hp hpl hc1 hc2 c1 C2
 go_wp2
 go_loopw [0, 8] (fun tv av wr => ∃ (t : ByteArray) (o : Nat), tv = .string t ∧ Hid (Rest s o t) ∧ Hid (OwnW w.heap.size (wds (pv r (fun i => dgt (btn s i)) o)) av wr) ∧ Hid (lngB (pv r (fun i => dgt (btn s i)) o) = false) ∧ Below w.heap.size w wr) (fun tv _ _ => strLen tv)
 case atStart => exact ⟨s, 0, rfl, Lib.hid (Rest.all s), Lib.hid (OwnW.nil _ _), Lib.hid (lng_small (by simp [pv])), Below.refl _ _⟩
 case round =>
  obtain ⟨t, o, rfl, HR, HO, HL, hbw⟩ := hrel
  obtain ⟨V, hV⟩ : ∃ V, pv r (fun i => dgt (btn s i)) o = V := ⟨_, rfl⟩
  rw [hV] at HO HL
  have HV := Lib.hid hV
  have hle := lng_le' HL.out
  obtain ⟨A0, c0, rfl, hc0', hr0⟩ := HO.out.sl (wds_ws V)
  obtain ⟨L0, hL0⟩ : ∃ L, (wds V).length = L := ⟨_, rfl⟩
  have hts : (t.size : Int) ≤ 4611686018427387903 := by have := HR.out.size; omega
  by_cases h0 : t.size = 0
  ·have C1 := Lib.hid (answer_any A0 L0 c0 (wds V) wr hL0 (by omega) (by omega) hr0)
   rw [wds_val] at C1
   have HFV := Lib.hid (show V = sv r s from by
    have h1 := HR.out.size
    have h2 := HR.out.le
    rw [← HV.out]; unfold sv; congr 1; omega)
   have HL0 := Lib.hid hL0
   rw [hL0]
   have b0 : ¬ (0 : Int) < (t.size : Int) := by omega
   clear hV hle hc0' hr0 hL0 h0
   go_wp2_with fail
   refine C1.out.mono ?_
   rintro e w2 h
   have h2 := NatPost.from_ hbw h
   rw [HFV.out] at h2
   obtain ⟨A2, n2, c2, k2, rfl, h3, h4⟩ := h2
   have H3 := Lib.hid h3
   have H4 := Lib.hid h4
   clear h h3 h4 C1
   go_wp2
   go_ret2
   exact ⟨A2, n2, c2, k2, rfl, H3.out, H4.out⟩
  ·obtain ⟨m, hm⟩ : ∃ m, min c t.size = m := ⟨_, rfl⟩
   have hc1 := HC1.out
   have hm0 : 0 < m := by omega
   have hmt : m ≤ t.size := by omega
   have hmc : (m = c ∧ (c : Int) ≤ (t.size : Int)) ∨ (m = t.size ∧ ¬ (c : Int) ≤ (t.size : Int)) := by omega
   have hRn := HR.out.next hmt
   have hsz : (t.extract 0 m).size = m := by rw [ByteArray.size_extract]; omega
   have hby : ∀ i, i < m → btn (t.extract 0 m) i = btn s (o + i) := fun i hi => by
    rw [btn_extract t 0 m i (by omega) hmt, Nat.zero_add]; exact HR.out.byte i (by omega)
   have hom : o + m ≤ s.size := hRn.le
   have hpm : r ^ m < 4294967296 := by
    have h1 : r ^ m ≤ r ^ c := Nat.pow_le_pow_right (by have := H2.out; omega) (by omega)
    have h2 := HPL.out
    rw [HP.out] at h2
    omega
   have hpm0 : 0 < r ^ m := Nat.pow_pos (by have := H2.out; omega)
   have hpv : pv r (fun i => dgt (btn (t.extract 0 m) i)) m = pv r (fun i => dgt (btn s (o + i))) m := pv_congr (fun i hi => by rw [hby i hi])
   have C1 := Lib.hid (fun W => show Cp 299 #[.string (t.extract 0 m), .int .i64 r] W fun e w' => e = .returned (.tuple #[.int .u32 (pv r (fun i => dgt (btn s (o + i))) m : Nat), .int .u32 (r ^ m : Nat)]) ∧ W = w' from by
    have := small_any (t.extract 0 m) r W H36.out H2.out (by rw [hsz]; exact hpm) (fun i hi => by rw [hsz] at hi; rw [hby i hi]; exact HD.out _ (by omega))
    rw [hsz, hpv] at this
    exact this)
   have hyl : pv r (fun i => dgt (btn s (o + i))) m < 4294967296 := Nat.lt_trans (pv_lt (fun i hi => HD.out _ (by omega))) hpm
   have hadd := pv_add r (fun i => dgt (btn s i)) o m
   rw [hV] at hadd
   obtain ⟨x, hx⟩ : ∃ x, r ^ m = x := ⟨_, rfl⟩
   obtain ⟨y, hy⟩ : ∃ y, pv r (fun i => dgt (btn s (o + i))) m = y := ⟨_, rfl⟩
   rw [hx] at C1 hpm hpm0 hadd
   rw [hy] at C1 hyl hadd
   have C2 := Lib.hid (timesPlus_any w.heap.size (.slice A0 L0 c0) V x y wr (by have := HO.out; rw [hL0] at this; exact this) hbw.size hle hpm hpm0 hyl)
   obtain ⟨V2, hV2⟩ : ∃ V2, V * x + y = V2 := ⟨_, rfl⟩
   rw [hV2] at C2 hadd
   have HV2 := Lib.hid hadd
   have l1 : (wds V2).length ≤ 1026 := by
    have h1 := prod_len_sum' V x
    have h2 := sum_len_max' (V * x) y
    have h3 : (wds x).length ≤ 1 := wds_len_lt (by omega)
    have h4 : (wds y).length ≤ 1 := wds_len_lt (by omega)
    rw [hV2] at h2
    omega
   have HLE2 := Lib.hid l1
   have HRN := Lib.hid hRn
   have HMONO := Lib.hid (show V2 ≤ sv r s from by rw [← hadd]; exact pv_mono (by have := H2.out; omega) hom)
   have HM0 := Lib.hid hm0
   have hmt1 : (m : Int) ≤ (t.size : Int) := by omega
   have b0 : (0 : Int) < (t.size : Int) := by omega
   rw [hL0]
   clear hV hle hc0' hr0 hL0 h0 hm hc1 hm0 hmt hRn hsz hby hom hpm hpm0 hpv hyl hadd hx hy hV2 l1
   rcases hmc with ⟨rfl, a1⟩ | ⟨rfl, a1⟩
   ·have e0 : min (m : Int) (t.size : Int) = (m : Int) := Int.min_eq_left a1
    go_wp2_with fail
    refine (C1.out _).mono ?_
    rintro e w' ⟨rfl, rfl⟩
    go_wp2_with fail
    refine C2.out.mono ?_
    rintro e w2 ⟨v2, rfl, ho2, hb2⟩
    have hbw2 : Below w.heap.size w w2 := hbw.trans hb2
    obtain ⟨A2, c2, rfl, hc2, hr2⟩ := ho2.sl (wds_ws _)
    obtain ⟨L2, hL2⟩ : ∃ L, (wds V2).length = L := ⟨_, rfl⟩
    rw [hL2] at hc2 ho2 ⊢
    have C3 := Lib.hid (tooOne_any A2 L2 c2 (wds V2) w2 hL2 hc2 (by have := HLE2.out; omega) hr2)
    rw [wds_val] at C3
    have HO2 := Lib.hid ho2
    have hp : Below w2.heap.size w2 (lone w2 (.slice A2 L2 c2)) := (Below.refl _ _).alloc (Nat.le_refl _) _
    have HB2 := Lib.hid (below_le hbw2 hp)
    have HO3 := Lib.hid (ho2.below hp)
    have HL2 := Lib.hid hL2
    clear ho2 hb2 hbw2 hc2 hr2 hL2 hp C1 C2
    cases hl : lngB V2
    ·rw [hl] at C3
     have HLN := Lib.hid hl
     clear hl
     go_wp2_with fail
     refine C3.out.mono ?_
     rintro e w3 ⟨rfl, rfl⟩
     go_wp2
     exact ⟨⟨_, _, rfl, HRN, Lib.hid (by rw [HV2.out]; exact HO3.out), Lib.hid (by rw [HV2.out]; exact HLN.out), HB2.out⟩, by
      have h1 := HM0.out
      have h2 := HRN.out.size
      have h3 := HRN.out.le
      have h4 := HR.out.size
      simp only [strLen]
      omega⟩
    ·rw [hl] at C3
     have HLN := Lib.hid (lng_mono' HMONO.out hl)
     clear hl
     go_wp2_with fail
     refine C3.out.mono ?_
     rintro e w3 ⟨rfl, rfl⟩
     go_wp2
     go_ret2
     exact NatPost.long HLN.out HB2.out
   ·have e0 : min (c : Int) (t.size : Int) = (t.size : Int) := Int.min_eq_right (by omega)
    rw [show t.extract 0 t.size = t from by simp] at C1
    rw [show t.extract t.size t.size = ByteArray.empty from by simp] at HRN
    go_wp2_with fail
    refine (C1.out _).mono ?_
    rintro e w' ⟨rfl, rfl⟩
    go_wp2_with fail
    refine C2.out.mono ?_
    rintro e w2 ⟨v2, rfl, ho2, hb2⟩
    have hbw2 : Below w.heap.size w w2 := hbw.trans hb2
    obtain ⟨A2, c2, rfl, hc2, hr2⟩ := ho2.sl (wds_ws _)
    obtain ⟨L2, hL2⟩ : ∃ L, (wds V2).length = L := ⟨_, rfl⟩
    rw [hL2] at hc2 ho2 ⊢
    have C3 := Lib.hid (tooOne_any A2 L2 c2 (wds V2) w2 hL2 hc2 (by have := HLE2.out; omega) hr2)
    rw [wds_val] at C3
    have HO2 := Lib.hid ho2
    have hp : Below w2.heap.size w2 (lone w2 (.slice A2 L2 c2)) := (Below.refl _ _).alloc (Nat.le_refl _) _
    have HB2 := Lib.hid (below_le hbw2 hp)
    have HO3 := Lib.hid (ho2.below hp)
    have HL2 := Lib.hid hL2
    clear ho2 hb2 hbw2 hc2 hr2 hL2 hp C1 C2
    cases hl : lngB V2
    ·rw [hl] at C3
     have HLN := Lib.hid hl
     clear hl
     go_wp2_with fail
     refine C3.out.mono ?_
     rintro e w3 ⟨rfl, rfl⟩
     go_wp2
     exact ⟨⟨_, _, rfl, HRN, Lib.hid (by rw [HV2.out]; exact HO3.out), Lib.hid (by rw [HV2.out]; exact HLN.out), HB2.out⟩, by
      have h1 := HM0.out
      have h2 := HRN.out.size
      have h3 := HRN.out.le
      have h4 := HR.out.size
      simp only [strLen]
      omega⟩
    ·rw [hl] at C3
     have HLN := Lib.hid (lng_mono' HMONO.out hl)
     clear hl
     go_wp2_with fail
     refine C3.out.mono ?_
     rintro e w3 ⟨rfl, rfl⟩
     go_wp2
     go_ret2
     exact NatPost.long HLN.out HB2.out

open Go.RowKit
theorem alloc_below {w W : World} (o : Obj) (h : Below w.heap.size w W) : Below w.heap.size w (W.alloc o) := h.alloc h.size _
open Go.RowKit
open Go.RowKit
open Go.RowKit
open Go.RowKit
end
section
def wdsT : List Nat := [32, 98, 114, 101, 97, 107, 32, 99, 97, 115, 101, 32, 99, 97, 116, 99, 104, 32, 99, 108, 97, 115, 115, 32, 99, 111, 110, 115, 116, 32, 99, 111, 110, 116, 105, 110, 117, 101, 32, 100, 101, 98, 117, 103, 103, 101, 114, 32, 100, 101, 102, 97, 117, 108, 116, 32, 100, 101, 108, 101, 116, 101, 32, 100, 111, 32, 101, 108, 115, 101, 32, 101, 110, 117, 109, 32, 101, 120, 112, 111, 114, 116, 32, 101, 120, 116, 101, 110, 100, 115, 32, 102, 97, 108, 115, 101, 32, 102, 105, 110, 97, 108, 108, 121, 32, 102, 111, 114, 32, 102, 117, 110, 99, 116, 105, 111, 110, 32, 105, 102, 32, 105, 109, 112, 108, 101, 109, 101, 110, 116, 115, 32, 105, 109, 112, 111, 114, 116, 32, 105, 110, 32, 105, 110, 115, 116, 97, 110, 99, 101, 111, 102, 32, 105, 110, 116, 101, 114, 102, 97, 99, 101, 32, 108, 101, 116, 32, 110, 101, 119, 32, 110, 117, 108, 108, 32, 112, 97, 99, 107, 97, 103, 101, 32, 112, 114, 105, 118, 97, 116, 101, 32, 112, 114, 111, 116, 101, 99, 116, 101, 100, 32, 112, 117, 98, 108, 105, 99, 32, 114, 101, 116, 117, 114, 110, 32, 115, 116, 97, 116, 105, 99, 32, 115, 117, 112, 101, 114, 32, 115, 119, 105, 116, 99, 104, 32, 116, 104, 105, 115, 32, 116, 104, 114, 111, 119, 32, 116, 114, 117, 101, 32, 116, 114, 121, 32, 116, 121, 112, 101, 111, 102, 32, 118, 97, 114, 32, 118, 111, 105, 100, 32, 119, 104, 105, 108, 101, 32, 119, 105, 116, 104, 32, 121, 105, 101, 108, 100, 32]
def partsF : Nat → List Nat → List (List Nat)
 | 0, _ => []
 | f + 1, l => match l.takeWhile (· != 32) with
  | [] => match l with
   | [] => []
   | _ :: r => partsF f r
  | c :: t => (c :: t) :: partsF f (l.dropWhile (· != 32))
def wordsL : List (List Nat) := partsF 700 wdsT
def resB (u : List Nat) : Bool := wordsL.contains u
def wdAt (u : List Nat) (i : Nat) : Bool := wdsT[i]? == some 32 && wdsT[i + u.length + 1]? == some 32 && (wdsT.drop (i + 1)).take u.length == u && u.all (· != 32)
theorem wd_take {u : List Nat} {i : Nat} (h : wdAt u i = true) : wdsT[i]? = some 32 ∧ (wdsT.drop (i + 1)).takeWhile (· != 32) = u := by
 unfold wdAt at h
 rw [Bool.and_eq_true, Bool.and_eq_true, Bool.and_eq_true, beq_iff_eq, beq_iff_eq, beq_iff_eq] at h
 obtain ⟨⟨⟨h1, h2⟩, h3⟩, h4⟩ := h
 refine ⟨h1, ?_⟩
 have h5 : (wdsT.drop (i + 1)).drop u.length = 32 :: (wdsT.drop (i + 1)).drop (u.length + 1) := by
  have hlt : u.length < (wdsT.drop (i + 1)).length := by
   rw [List.length_drop]
   have := (List.getElem?_eq_some_iff.1 h2).1
   omega
  rw [List.drop_eq_getElem_cons hlt]
  congr 1
  have e := List.getElem?_eq_some_iff.1 h2
  obtain ⟨e1, e2⟩ := e
  rw [List.getElem_drop]
  have : i + 1 + u.length = i + u.length + 1 := by omega
  simp only [this]
  exact e2
 have h6 : wdsT.drop (i + 1) = u ++ 32 :: (wdsT.drop (i + 1)).drop (u.length + 1) := by
  rw [← h5]
  conv => lhs; rw [← List.take_append_drop u.length (wdsT.drop (i + 1))]
  rw [h3]
 rw [h6, List.takeWhile_append_of_pos (fun c hc => List.all_eq_true.1 h4 c hc)]
 simp
theorem wd_all : ∀ i : Fin 320, wdsT[i.val]? = some 32 → (wdsT.drop (i.val + 1)).takeWhile (· != 32) = [] ∨ wordsL.contains ((wdsT.drop (i.val + 1)).takeWhile (· != 32)) = true := by decide +kernel
theorem wd_each : wordsL.all (fun u => (List.range 320).any (fun i => wdAt u i)) = true := by decide +kernel
theorem wd_short : wdsT.length ≤ 320 := by decide +kernel
theorem res_iff {u : List Nat} (hu : u ≠ []) : resB u = true ↔ ∃ i, wdAt u i = true := by
 constructor
 ·intro h
  have h1 := List.all_eq_true.1 wd_each u (List.contains_iff_mem.1 h)
  obtain ⟨i, _, hi⟩ := List.any_eq_true.1 h1
  exact ⟨i, hi⟩
 ·rintro ⟨i, hi⟩
  obtain ⟨h1, h2⟩ := wd_take hi
  have hlt : i < 320 := by
   have := (List.getElem?_eq_some_iff.1 h1).1
   have := wd_short
   omega
  rcases wd_all ⟨i, hlt⟩ h1 with h | h
  ·rw [h2] at h
   exact absurd h hu
  ·rw [h2] at h
   exact h
/-! ### Marks -/
def marksL : List (List Nat) := [[62, 62, 62, 61], [61, 61, 61], [33, 61, 61], [62, 62, 62], [60, 60, 61], [62, 62, 61], [60, 61], [62, 61], [61, 61], [33, 61], [43, 43], [45, 45], [60, 60], [62, 62], [38, 38], [124, 124], [43, 61], [45, 61], [42, 61], [37, 61], [38, 61], [124, 61], [94, 61], [47, 61], [123], [125], [40], [41], [91], [93], [46], [59], [44], [60], [62], [43], [45], [42], [37], [38], [124], [94], [33], [126], [63], [58], [61], [47]]
def markL (l : List Nat) : Option (List Nat) := marksL.find? fun t => t.isPrefixOf l
def isMark (t : List Nat) : Bool := marksL.contains t
theorem marks_sorted : marksL.Pairwise fun a b => b.length ≤ a.length := by decide +kernel
theorem marks_len : ∀ t ∈ marksL, 1 ≤ t.length ∧ t.length ≤ 4 := by decide +kernel
theorem find_first {q : List Nat → Bool} : ∀ {M : List (List Nat)} {t : List Nat}, M.Pairwise (fun a b => b.length ≤ a.length) → M.find? q = some t → t ∈ M ∧ q t = true ∧ ∀ s ∈ M, q s = true → s.length ≤ t.length
 | [], _, _, h => by cases h
 | a :: M, t, hp, h => by
  rw [List.find?_cons] at h
  cases hq : q a
  ·rw [hq] at h
   obtain ⟨h1, h2, h3⟩ := find_first (List.pairwise_cons.1 hp).2 h
   refine ⟨List.mem_cons_of_mem _ h1, h2, fun s hs hqs => ?_⟩
   rcases List.mem_cons.1 hs with rfl | hs
   ·rw [hq] at hqs
    cases hqs
   ·exact h3 s hs hqs
  ·rw [hq] at h
   cases h
   refine ⟨List.mem_cons_self, hq, fun s hs _ => ?_⟩
   rcases List.mem_cons.1 hs with rfl | hs
   ·exact Nat.le_refl _
   ·exact (List.pairwise_cons.1 hp).1 s hs
theorem mark_some {l t : List Nat} (h : markL l = some t) : 1 ≤ t.length ∧ t.length ≤ 4 ∧ l.take t.length = t ∧ isMark t = true ∧ ∀ k, t.length ≤ k → k ≤ 4 → isMark (l.take k) = true → l.take k = t := by
 obtain ⟨h1, h2, h3⟩ := find_first marks_sorted h
 obtain ⟨h4, h5⟩ := marks_len t h1
 obtain ⟨r, hr⟩ := List.isPrefixOf_iff_prefix.1 h2
 refine ⟨h4, h5, by rw [← hr, List.take_left], List.contains_iff_mem.2 h1, fun k k1 k2 hk => ?_⟩
 have hm : l.take k ∈ marksL := List.contains_iff_mem.1 hk
 have hle := h3 _ hm (List.isPrefixOf_iff_prefix.2 (List.take_prefix k l))
 have hlen : t.length ≤ l.length := by rw [← hr, List.length_append]; omega
 rw [List.length_take] at hle
 rcases (show k = t.length ∨ l.length = t.length by omega) with e | e
 ·rw [e, ← hr, List.take_left]
 ·have : r = [] := by
   have := congrArg List.length hr
   rw [List.length_append] at this
   exact List.eq_nil_of_length_eq_zero (by omega)
  rw [List.take_of_length_le (by omega), ← hr, this, List.append_nil]
theorem mark_none {l : List Nat} (h : markL l = none) (k : Nat) : isMark (l.take k) = false := by
 cases hm : isMark (l.take k)
 ·rfl
 ·have h1 : l.take k ∈ marksL := List.contains_iff_mem.1 hm
  have h2 := List.find?_eq_none.1 h _ h1
  exact absurd (List.isPrefixOf_iff_prefix.2 (List.take_prefix k l)) h2


end
section
theorem run_app {W r : List Nat} (hW : ∀ c ∈ W, dg10 c = true) (hr : ∀ c, r.head? = some c → dg10 c = false) : run10 (W ++ r) = W ∧ aft10 (W ++ r) = r := by
 induction W with
 | nil =>
  cases r with
  | nil => exact ⟨rfl, rfl⟩
  | cons c r =>
   have h := hr c rfl
   unfold run10 aft10
   rw [List.nil_append, List.takeWhile_cons_of_neg (by simp [h]), List.dropWhile_cons_of_neg (by simp [h])]
   exact ⟨rfl, rfl⟩
 | cons c W ih =>
  obtain ⟨i1, i2⟩ := ih (fun x hx => hW x (by simp [hx]))
  have h := hW c (by simp)
  unfold run10 aft10 at *
  rw [List.cons_append, List.takeWhile_cons_of_pos h, List.dropWhile_cons_of_pos h, i1, i2]
  exact ⟨rfl, rfl⟩
end
section
def numR (l : List Nat) : Nat := if hxA l = true then 2 + ((l.drop 2).takeWhile hx16).length else l.length - (dR l).length
def numP (l : List Nat) : Nat :=
 if hxA l = true then 2 + ((l.drop 2).takeWhile hx16).length
 else if (dT l).head? = some 101 ∨ (dT l).head? = some 69 then l.length - (expR (dT l)).length
 else l.length - (dT l).length
def numO (l : List Nat) (n : Nat) : Bool := litB (l.take n) && !(ptN (hd0 (l.drop n)) || hd0 (l.drop n) == 92)
theorem ptN_e : ptN 101 = true ∧ ptN 69 = true := by decide +kernel
theorem dT_suf (l : List Nat) : ∃ X, l = X ++ dT l := by
 unfold dT
 have h := run_aft l
 split
 ·rename_i hd
  unfold dotB at hd
  rw [beq_iff_eq] at hd
  cases hq : aft10 l with
  | nil => rw [hq] at hd; cases hd
  | cons a q =>
   refine ⟨run10 l ++ a :: run10 q, ?_⟩
   rw [List.tail_cons]
   have h2 := run_aft q
   calc l = run10 l ++ aft10 l := h.symm
    _ = run10 l ++ a :: (run10 q ++ aft10 q) := by rw [hq, h2]
    _ = run10 l ++ a :: run10 q ++ aft10 q := by simp
 ·exact ⟨run10 l, h.symm⟩
theorem dT_app {l X y : List Nat} (hl : l = X ++ dT l) (hy : ∀ c, y.head? = some c → dg10 c = false ∧ c ≠ 46) : dT (X ++ y) = y := by
 have hrun := run_aft l
 have hall := run10_all l
 have y1 : ∀ c, y.head? = some c → dg10 c = false := fun c hc => (hy c hc).1
 cases hd : dotB (aft10 l)
 ·have ht : dT l = aft10 l := by unfold dT; rw [hd, if_neg (by simp)]
  have hX : X = run10 l := by
   rw [ht] at hl
   have := hl.symm.trans hrun.symm
   exact List.append_cancel_right this
  obtain ⟨a1, a2⟩ := run_app (W := run10 l) (r := y) hall y1
  unfold dT
  rw [hX, a2]
  have : dotB y = false := by
   unfold dotB
   rw [beq_eq_false_iff_ne]
   intro h
   exact (hy 46 h).2 rfl
  rw [this, if_neg (by simp)]
 ·have hd' := hd
  unfold dotB at hd'
  rw [beq_iff_eq] at hd'
  cases hq : aft10 l with
  | nil => rw [hq] at hd'; cases hd'
  | cons a q =>
   rw [hq] at hd'
   have ha : a = 46 := by simpa using hd'
   subst ha
   have ht : dT l = aft10 q := by unfold dT; rw [hd, if_pos rfl, hq, List.tail_cons]
   have hrq := run_aft q
   have hX : X = run10 l ++ 46 :: run10 q := by
    have e : l = run10 l ++ 46 :: run10 q ++ aft10 q := by
     calc l = run10 l ++ aft10 l := hrun.symm
      _ = run10 l ++ 46 :: (run10 q ++ aft10 q) := by rw [hq, hrq]
      _ = run10 l ++ 46 :: run10 q ++ aft10 q := by simp
    rw [ht] at hl
    exact List.append_cancel_right (hl.symm.trans e)
   obtain ⟨b1, b2⟩ := run_app (W := run10 q) (r := y) (run10_all q) y1
   obtain ⟨a1, a2⟩ := run_app (W := run10 l) (r := 46 :: (run10 q ++ y)) hall (fun c hc => by
    have : c = 46 := by simpa using hc.symm
    subst this
    decide)
   have e : X ++ y = run10 l ++ 46 :: (run10 q ++ y) := by rw [hX]; simp
   unfold dT
   rw [e, a2]
   have : dotB (46 :: (run10 q ++ y)) = true := by unfold dotB; rfl
   rw [this, if_pos rfl, List.tail_cons, b2]
theorem hxA_take {l : List Nat} {n : Nat} (h : hxA (l.take n) = true) : hxA l = true := by
 unfold hxA at h ⊢
 cases l with
 | nil => simp at h
 | cons a t =>
  cases n with
  | zero => simp at h
  | succ n =>
   cases t with
   | nil => simp at h
   | cons b u =>
    cases n with
    | zero => simp at h
    | succ n => simpa using h
theorem unsg_suf (l : List Nat) : ∃ s, l = s ++ unsg l ∧ s.length ≤ 1 := by
 unfold unsg
 split
 ·cases l with
  | nil => exact ⟨[], rfl, by simp⟩
  | cons a t => exact ⟨[a], rfl, by simp⟩
 ·exact ⟨[], rfl, by simp⟩
theorem unsg_short {s : List Nat} (h : s.length ≤ 1) (l : List Nat) (hs : s ++ unsg l = l) : run10 (unsg s) = [] ∨ unsg l = l := by
 cases s with
 | nil => left; rfl
 | cons a t =>
  have ht : t = [] := List.eq_nil_of_length_eq_zero (by rw [List.length_cons] at h; omega)
  subst ht
  by_cases hc : a = 45 ∨ a = 43
  ·left
   unfold unsg
   rw [if_pos (by rcases hc with rfl | rfl <;> simp)]
   rfl
  ·right
   rw [← hs]
   unfold unsg
   rw [if_neg (by simpa using hc)]
theorem num_same (l : List Nat) : numO l (numP l) = numO l (numR l) ∧ (numO l (numR l) = true → numP l = numR l) := by
 by_cases hx : hxA l = true
 ·unfold numP numR
  rw [if_pos hx, if_pos hx]
  exact ⟨rfl, fun _ => rfl⟩
 obtain ⟨X, hX⟩ := dT_suf l
 obtain ⟨t, ht⟩ : ∃ t, dT l = t := ⟨_, rfl⟩
 by_cases he : t.head? = some 101 ∨ t.head? = some 69
 ·cases hb : expB t
  ·-- an exponent without digits: neither is a number
   have hR : numR l = X.length := by
    unfold numR dR exR
    rw [if_neg hx, ht, hb, if_neg (by simp), ← ht]
    have := congrArg List.length hX
    rw [List.length_append] at this
    omega
   cases t with
   | nil => simp at he
   | cons c q =>
    have hc : c = 101 ∨ c = 69 := by simpa using he
    have hrun : run10 (unsg q) = [] := by
     unfold expB at hb
     rw [List.tail_cons] at hb
     have h1 : ((c :: q).head? == some 101 || (c :: q).head? == some 69) = true := by rcases hc with rfl | rfl <;> rfl
     rw [h1, Bool.true_and] at hb
     simpa using hb
    obtain ⟨s, hs, hs1⟩ := unsg_suf q
    have hexp : expR (c :: q) = unsg q := by
     unfold expR
     rw [List.tail_cons]
     have := run_aft (unsg q)
     rw [hrun, List.nil_append] at this
     exact this
    have hl : l = X ++ (c :: q) := by rw [← ht]; exact hX
    have hP : numP l = X.length + 1 + s.length := by
     unfold numP
     rw [if_neg hx, ht, if_pos he, hexp]
     have h1 := congrArg List.length hl
     have h2 := congrArg List.length hs
     rw [List.length_append, List.length_cons] at h1
     rw [List.length_append] at h2
     omega
    have hoR : numO l (numR l) = false := by
     unfold numO
     rw [hR, hl, List.drop_left]
     have : ptN (hd0 (c :: q)) = true := by
      show ptN c = true
      rcases hc with rfl | rfl
      ·exact ptN_e.1
      ·exact ptN_e.2
     rw [this, Bool.true_or, Bool.not_true, Bool.and_false]
    have hoP : numO l (numP l) = false := by
     have htk : l.take (X.length + 1 + s.length) = X ++ (c :: s) := by
      have e : l = (X ++ (c :: s)) ++ unsg q := by
       rw [hl]
       conv => lhs; rw [hs]
       simp
      have hlen : X.length + 1 + s.length = (X ++ (c :: s)).length := by rw [List.length_append, List.length_cons]; omega
      conv => lhs; rw [e]
      rw [hlen, List.take_left]
     unfold numO
     rw [hP, htk]
     have hlit : litB (X ++ (c :: s)) = false := by
      have hdT := dT_app (y := c :: s) hX (fun d hd => by
       have : d = c := by simpa using hd.symm
       subst this
       rcases hc with rfl | rfl <;> exact ⟨by decide, by omega⟩)
      have hne : expB (c :: s) = false := by
       unfold expB
       rw [List.tail_cons]
       have hr : run10 (unsg s) = [] := by
        rcases unsg_short hs1 q hs.symm with h | h
        ·exact h
        ·have hs0 : s = [] := by
          have := congrArg List.length hs
          rw [h, List.length_append] at this
          exact List.eq_nil_of_length_eq_zero (by omega)
         rw [hs0]
         rfl
       rw [hr]
       simp
      have hdR : dR (X ++ (c :: s)) = c :: s := by
       unfold dR exR
       rw [hdT, hne, if_neg (by simp)]
      have hhx : hxB (X ++ (c :: s)) = false := by
       unfold hxB
       cases hxa : hxA (X ++ (c :: s))
       ·rfl
       ·rw [← htk] at hxa
        exact absurd (hxA_take hxa) hx
      unfold litB
      rw [hhx, hdR]
      simp
     rw [hlit, Bool.false_and]
    rw [hoP, hoR]
    exact ⟨rfl, fun h => by cases h⟩
  ·have e : numP l = numR l := by
    unfold numP numR dR exR
    rw [if_neg hx, if_neg hx, ht, if_pos he, hb, if_pos rfl]
   rw [e]
   exact ⟨rfl, fun _ => rfl⟩
 ·have e : numP l = numR l := by
   have hb : expB t = false := by
    unfold expB
    cases h1 : (t.head? == some 101 || t.head? == some 69)
    ·rfl
    ·rw [Bool.or_eq_true, beq_iff_eq, beq_iff_eq] at h1
     exact absurd h1 he
   unfold numP numR dR exR
   rw [if_neg hx, if_neg hx, ht, if_neg he, hb, if_neg (by simp)]
  rw [e]
  exact ⟨rfl, fun _ => rfl⟩


end
section
theorem hd0_get {l : List Nat} {a : Nat} (ha : a ≠ 0) (h : hd0 l = a) : ∃ r, l = a :: r := by
 cases l with
 | nil => exact absurd h.symm ha
 | cons b r => exact ⟨r, by rw [show b = a from h]⟩
theorem rem_le (l : List Nat) : remL l ≤ l.length := (List.takeWhile_sublist _).length_le
theorem com_le : ∀ {l : List Nat} {n : Nat} {b : Bool}, comL l = some (n, b) → 2 ≤ n ∧ n ≤ l.length
 | [], _, _, h => by cases h
 | c :: r, n, b, h => by
  rw [comL] at h
  split at h
  ·rename_i hc
   obtain ⟨q, hq⟩ := hd0_get (by omega) hc.2
   have h2 : 2 = n := congrArg Prod.fst (Option.some.inj h)
   rw [hq, ← h2]
   simp
  ·cases hr : comL r with
   | none => rw [hr] at h; cases h
   | some p =>
    rw [hr] at h
    have h2 : p.1 + 1 = n := congrArg Prod.fst (Option.some.inj h)
    have := com_le hr
    rw [List.length_cons]
    omega
theorem gap_le {l : List Nat} {n : Nat} {b : Bool} (h : gapL l = some (n, b)) : n ≤ l.length := by
 cases l with
 | nil =>
  have : 0 = n := congrArg Prod.fst (Option.some.inj h)
  omega
 | cons c r =>
  rw [gapL] at h
  rw [List.length_cons]
  split at h
  ·have : 1 = n := congrArg Prod.fst (Option.some.inj h)
   omega
  ·split at h
   ·have : 1 = n := congrArg Prod.fst (Option.some.inj h)
    omega
   ·split at h
    ·rename_i hc
     obtain ⟨q, hq⟩ := hd0_get (by omega) hc.2
     have h2 : 2 + remL r.tail = n := congrArg Prod.fst (Option.some.inj h)
     have := rem_le r.tail
     rw [hq] at h2 this ⊢
     rw [List.tail_cons] at h2 this
     rw [List.length_cons]
     omega
    ·split at h
     ·rename_i hc
      obtain ⟨q, hq⟩ := hd0_get (by omega) hc.2
      cases hr : comL r.tail with
      | none => rw [hr] at h; cases h
      | some p =>
       rw [hr] at h
       have h2 : 2 + p.1 = n := congrArg Prod.fst (Option.some.inj h)
       have := com_le hr
       rw [hq, List.tail_cons] at this
       rw [hq, List.length_cons]
       omega
     ·have : 0 = n := congrArg Prod.fst (Option.some.inj h)
      omega
theorem skip_fuel : ∀ (f g : Nat) (l : List Nat), l.length < f → l.length < g → skipF f l = skipF g l
 | 0, _, _, h, _ => by omega
 | _ + 1, 0, _, _, h => by omega
 | f + 1, g + 1, l, hf, hg => by
  rw [skipF, skipF]
  cases hq : gapL l with
  | none => rfl
  | some p =>
   obtain ⟨n, b⟩ := p
   cases n with
   | zero => rfl
   | succ n =>
    have hle := gap_le hq
    have e := skip_fuel f g (l.drop (n + 1)) (by rw [List.length_drop]; omega) (by rw [List.length_drop]; omega)
    simp only [e]
theorem skipF_le : ∀ (f : Nat) (l : List Nat), (skipF f l).1 ≤ l.length
 | 0, l => Nat.zero_le _
 | f + 1, l => by
  rw [skipF]
  cases hq : gapL l with
  | none => exact Nat.zero_le _
  | some p =>
   obtain ⟨n, b⟩ := p
   cases n with
   | zero => exact Nat.zero_le _
   | succ n =>
    have h1 := gap_le hq
    have h2 := skipF_le f (l.drop (n + 1))
    rw [List.length_drop] at h2
    show n + 1 + _ ≤ _
    omega
theorem skipL_le (l : List Nat) : (skipL l).1 ≤ l.length := skipF_le _ l
def numL (l : List Nat) : Option (Nat × Nat) := if numO l (numR l) = true then some (litV (l.take (numR l)), numR l) else none
def readL : List Nat → Option (Nat × List Nat × Nat × Bool × Nat)
 | [] => some (1, [], 0, false, 0)
 | c :: r =>
  if (stN c || c == 92) = true then (namL (c :: r)).map fun p => (if resB p.1 = true then 3 else 2, p.1, 0, p.2.1, p.2.2)
  else if (c == 34 || c == 39) = true then (strL c r).map fun p => (6, p.1, 0, false, 1 + p.2)
  else if (dg10 c || (c == 46 && dg10 (hd0 r))) = true then (numL (c :: r)).map fun p => (5, [], p.1, false, p.2)
  else (markL (c :: r)).map fun t => (4, t, 0, false, t.length)
structure Tok where
 kind : Nat
 text : List Nat
 num : Nat
 esc : Bool
 nl : Bool
 pos : Nat
 fin : Nat
def allF : Nat → Nat → List Nat → Nat × Option (List Tok)
 | 0, p, _ => (p, none)
 | f + 1, p, l =>
  let s := skipL l
  if s.2.2 = false then (p + s.1, none)
  else match readL (l.drop s.1) with
   | none => (p + s.1, none)
   | some (k, t, x, e, n) =>
    if k = 1 then (0, some [⟨k, t, x, e, s.2.1, p + s.1, p + s.1 + n⟩])
    else match allF f (p + s.1 + n) (l.drop (s.1 + n)) with
     | (q, none) => (q, none)
     | (_, some ts) => (0, some (⟨k, t, x, e, s.2.1, p + s.1, p + s.1 + n⟩ :: ts))
def allL (l : List Nat) : Nat × Option (List Tok) := allF (l.length + 1) 0 l
end
section
open Go.RowKit
def OneP (L : List Nat) (N : Nat) (w : World) (e : Ending) (w' : World) : Prop := ∃ A c, e = .returned (.tuple #[.slice A N c, .int .i64 0]) ∧ (N ≤ c ∧ RW w' w'.heap.size A L) ∧ Below w.heap.size w w'
theorem NatPost.one {v N : Nat} {w w' : World} {e : Ending} (h : NatPost v w e w') (hl : lngB v = false) (hN : (wds v).length = N) : OneP (wds v) N w e w' := by
 obtain ⟨A, c, h1, h2, h3⟩ := h.get hl
 rw [hN] at h1 h2
 exact ⟨A, c, h1, h2, h3⟩
structure LongT (A D n M i : Nat) (R Q : List Nat) : Prop where
 lenR : R.length = M + n
 lenQ : Q.length = M
 wsR : Ws R
 wsQ : Ws Q
 sum : val R + 4294967296 ^ i * (val (Q.drop i) * D) = A
 rest : val (R.drop i) < D
theorem LongT.start {va vb s la n M : Nat} {R : List Nat} (hR : Ws R) (hl : R.length = M + n) (hM : la + 1 = M + n) (hn : 0 < n) (ha : va < 4294967296 ^ la) (hb : 4294967296 ^ (n - 1) ≤ vb) (hv : val R = 2 ^ s * va) :
  LongT (2 ^ s * va) (2 ^ s * vb) n M M R (List.replicate M 0) := by
 refine ⟨hl, List.length_replicate, hR, Ws.zeros _, ?_, ?_⟩
 ·rw [List.drop_of_length_le (by rw [List.length_replicate]; exact Nat.le_refl _)]
  simp [val, hv]
 ·have e := val_split R M (by omega)
  rw [hv] at e
  have e2 : 4294967296 ^ la = 4294967296 ^ M * 4294967296 ^ (n - 1) := by rw [← Nat.pow_add]; congr 1; omega
  have h1 : 2 ^ s * va < 2 ^ s * (4294967296 ^ M * 4294967296 ^ (n - 1)) := by rw [← e2]; exact Nat.mul_lt_mul_of_pos_left ha (Nat.two_pow_pos s)
  have h2 : 4294967296 ^ M * val (R.drop M) < 4294967296 ^ M * (2 ^ s * 4294967296 ^ (n - 1)) := by
   have : 4294967296 ^ M * (2 ^ s * 4294967296 ^ (n - 1)) = 2 ^ s * (4294967296 ^ M * 4294967296 ^ (n - 1)) := by grind
   omega
  have h3 := Nat.lt_of_mul_lt_mul_left h2
  exact Nat.lt_of_lt_of_le h3 (Nat.mul_le_mul_left _ hb)
theorem LongT.part {A D n M i : Nat} {R Q : List Nat} (h : LongT A D n M (i + 1) R Q) (hi : i < M) (hD : D < 4294967296 ^ n) :
  val ((R.drop i).take (n + 1)) = val (R.drop i) ∧ val ((R.drop i).take (n + 1)) < 4294967296 * D := by
 have e := val_drop_cons R i (by have := h.lenR; omega)
 have h1 := h.wsR.getD i
 have h2 := h.rest
 have h3 : val (R.drop i) < 4294967296 * D := by
  have : 4294967296 * (val (R.drop (i + 1)) + 1) ≤ 4294967296 * D := Nat.mul_le_mul_left _ h2
  omega
 have h4 : val (R.drop i) < 4294967296 ^ (n + 1) := by
  rw [Nat.pow_succ, Nat.mul_comm]
  exact Nat.lt_trans h3 (Nat.mul_lt_mul_of_pos_left hD (by omega))
 have h5 := val_take_small h4
 exact ⟨h5, by rw [h5]; exact h3⟩
theorem LongT.next {A D n M i : Nat} {R Q S : List Nat} (h : LongT A D n M (i + 1) R Q) (hi : i < M) (hD : D < 4294967296 ^ n) (hD0 : 0 < D)
  (hlen : S.length = R.length) (hws : Ws S) (hfar : ∀ j, j < i ∨ i + (n + 1) ≤ j → S.getD j 0 = R.getD j 0)
  (hs : val ((S.drop i).take (n + 1)) = val ((R.drop i).take (n + 1)) % D) :
  LongT A D n M i S (Q.set i (val ((R.drop i).take (n + 1)) / D)) := by
 obtain ⟨p1, p2⟩ := h.part hi hD
 obtain ⟨h1, h2, h3, h4, h5, h6⟩ := h
 have hq : val ((R.drop i).take (n + 1)) / D < 4294967296 := by rw [Nat.div_lt_iff_lt_mul hD0]; exact p2
 have r1 := val_split (R.drop i) (n + 1) (by rw [List.length_drop]; omega)
 have s1 := val_split (S.drop i) (n + 1) (by rw [List.length_drop]; omega)
 have e1 : val ((S.drop i).drop (n + 1)) = val ((R.drop i).drop (n + 1)) := by
  rw [List.drop_drop, List.drop_drop]
  exact val_eq (fun j => by rw [getD_drop, getD_drop]; exact hfar _ (.inr (by omega)))
 have e2 : 4294967296 ^ (n + 1) * val ((R.drop i).drop (n + 1)) = 0 := by omega
 rw [e1, e2, Nat.add_zero] at s1
 have e3 : val (R.take i) = val (S.take i) := by
  rw [take_congr (l := R) (m := S) i (by omega) (by omega) (fun j hj => (hfar j (.inl hj)).symm)]
 have r2 := val_split R i (by omega)
 have s2 := val_split S i (by omega)
 have e4 : val (R.drop i) = val (S.drop i) + val (R.drop i) / D * D := by
  rw [s1, hs, p1, Nat.mul_comm]
  exact (Nat.mod_add_div _ _).symm
 have q1 := val_drop_cons (Q.set i (val ((R.drop i).take (n + 1)) / D)) i (by rw [List.length_set]; omega)
 rw [getD_set_eq (by omega)] at q1
 have e5 : (Q.set i (val ((R.drop i).take (n + 1)) / D)).drop (i + 1) = Q.drop (i + 1) := by
  rw [List.drop_set, if_pos (by omega)]
 rw [e5] at q1
 refine ⟨by omega, by rw [List.length_set]; exact h2, hws, h4.set hq, ?_, ?_⟩
 ·rw [q1, s2, ← e3, p1]
  rw [r2] at h5
  rw [Nat.pow_succ] at h5
  generalize val (R.drop i) / D = q at *
  generalize val (Q.drop (i + 1)) = V at *
  generalize 4294967296 ^ i = K at *
  rw [e4] at h5
  grind
 ·rw [s1, hs]; exact Nat.mod_lt _ hD0
theorem LongT.fin {A D n M : Nat} {R Q : List Nat} (h : LongT A D n M 0 R Q) (hD0 : 0 < D) : val Q = A / D ∧ val R = A % D := by
 obtain ⟨h1, h2, h3, h4, h5, h6⟩ := h
 rw [Nat.pow_zero, Nat.one_mul, List.drop_zero] at h5
 rw [List.drop_zero] at h6
 have e1 : A / D = val Q := by
  rw [← h5, Nat.add_mul_div_right _ _ hD0, Nat.div_eq_of_lt h6, Nat.zero_add]
 have e2 := Nat.mod_add_div A D
 rw [e1] at e2
 refine ⟨e1.symm, ?_⟩
 rw [Nat.mul_comm] at e2
 omega
/-! ### bit by bit -/
open Go.RowKit
def gues (hi lo y : Nat) : Nat := if y ≤ hi then 4294967295 else (hi * 4294967296 + lo) / y
theorem guess_any (hi lo y : Nat) (w : World) (hl : lo < 4294967296) (hy : y < 4294967296) :
  Cp 396 #[.int .u32 hi, .int .u32 lo, .int .u32 y] w fun e w' => e = .returned (.int .u32 (gues hi lo y : Nat)) ∧ ∃ j, w' = w.drewN j := by
 unfold gues
 by_cases h : y ≤ hi
 ·rw [if_pos h]
  have y1 : (y : Int) ≤ (hi : Int) := by omega
  clear hl hy h
  go_enter Tryz.func396, Tryz.ntmps396
  go_wp2
  go_ret
  exact ⟨rfl, 0, rfl⟩
 ·rw [if_neg h]
  have C1 := Lib.hid (fun W => div32_any hi lo y W (by omega) hl hy)
  have y1 : ¬ (y : Int) ≤ (hi : Int) := by omega
  obtain ⟨q, hq⟩ : ∃ q, (hi * 4294967296 + lo) / y = q := ⟨_, rfl⟩
  obtain ⟨r, hr⟩ : ∃ r, (hi * 4294967296 + lo) % y = r := ⟨_, rfl⟩
  rw [hq, hr] at C1
  rw [hq]
  clear hl hy h hq hr
  go_enter Tryz.func396, Tryz.ntmps396
  go_wp2_with fail
  refine (C1.out _).mono ?_
  rintro e w' ⟨rfl, j, rfl⟩
  go_wp2
  go_ret
  exact ⟨rfl, j, rfl⟩

open Go.RowKit
def TakePost (g : Nat) (R : List Nat) (o : Nat) (b : List Nat) (x : Nat) (w : World) (e : Ending) (w' : World) : Prop :=
 ∃ S q, e = .returned (.int .u32 (q : Nat)) ∧ Row w' g S ∧ TakeT R o b x b.length S q ∧ Only g w w'
theorem subTimes_any (g o n c : Nat) (R : List Nat) (A : Option Addr) (m d : Nat) (b : List Nat) (x B : Nat) (w : World) (hR : Row w g R) (hRw : Ws R) (ho : o + n ≤ R.length) (hmn : m ≤ n) (hbl : b.length = m) (hm0 : 0 < m)
  (hB : RW w B A b) (hgB : B ≤ g) (hx : x < 4294967296) (hm : R.length ≤ 35184372088832) :
  Cp 397 #[.slice (some ⟨g, o, none⟩) n c, .slice A m d, .int .u32 x] w (TakePost g R o b x w) := by
 obtain ⟨a, p, rfl, hab, hc⟩ := hB.2 (by omega)
 have HBW := Lib.hid hB.1
 have HRW := Lib.hid hRw
 have HBL := Lib.hid hbl
 have HC := Lib.hid hc
 have HX := Lib.hid hx
 have HR := Lib.hid hR
 have hm1 : (m : Int) ≤ (n : Int) := by omega
 have hn1 : (n : Int) ≤ 35184372088832 := by omega
 have HO := Lib.hid ho
 have hag : a < g := by omega
 have h0' : (0 : Int) ≤ (x : Int) := by omega
 clear hR hRw ho hmn hbl hB hgB hx hm hc hm0
 go_enter Tryz.func397, Tryz.ntmps397
 go_wp2
 go_loopw [14, 7] (fun i v wr => ∃ (k : Nat) (S : List Nat) (q : Nat), i = .int .i64 k ∧ v = .int .u64 (q : Nat) ∧ k ≤ m ∧ Hid (Row wr g S) ∧ Hid (TakeT R o b x k S q) ∧ Only g w wr) (fun i _ _ => m - (intOf i).toNat)
 case atStart => exact ⟨0, R, 0, rfl, rfl, Nat.zero_le _, HR, Lib.hid (TakeT.start o b x HRW.out), Only.refl _ _⟩
 case round =>
  obtain ⟨k, S, q, rfl, rfl, hk, HS, HT, hbw⟩ := hrel
  by_cases hlt : k < m
  ·have hkb : k < b.length := by rw [HBL.out]; exact hlt
   have hok : o + k < R.length := by have := HO.out; omega
   obtain ⟨e1, hnext⟩ := HT.out.next HRW.out HBW.out HX.out hok
   have hS := HS.out.cell (o + k) (by rw [HT.out.len]; exact hok)
   have hfz := HS.out.frozen (o + k)
   have hcl := HC.out k _ (getD_some hkb)
   rw [← hbw.below.cell (p := ⟨a, p + k, none⟩) hag] at hcl
   obtain ⟨l1, l2⟩ := takC_le (k := k) HBW.out HX.out HT.out.low
   have hset := HS.out.set (o + k) (takW (R.getD (o + k) 0) (takC b x k q))
   have HE := Lib.hid (show takC b x k q = q + b.getD k 0 * x from rfl)
   have u1 := HBW.out.getD k
   have r1 := HRW.out.getD (o + k)
   have q1 := HT.out.low
   rw [e1] at hS
   obtain ⟨t, ht⟩ : ∃ t, takC b x k q = t := ⟨_, rfl⟩
   obtain ⟨u, hu⟩ : ∃ u, b.getD k 0 = u := ⟨_, rfl⟩
   obtain ⟨r, hr⟩ : ∃ r, R.getD (o + k) 0 = r := ⟨_, rfl⟩
   rw [ht, hu] at HE
   rw [ht] at l2
   rw [hr, ht] at hnext hset
   rw [hu] at hcl l1 u1
   rw [hr] at hS r1
   have low := tak_low r t l2
   have C1 := Lib.hid (fun W => show Cp 392 #[.int .u32 (r : Nat), .int .u32 ((t : Int) % 4294967296), .int .u32 0] W fun e w' => e = .returned (.tuple #[.int .u32 (takW r t : Nat), .int .u32 (takB r t : Nat)]) ∧ W = w' from by
    have := sub32_any r (t % 4294967296) 0 W r1 (by omega) (by omega)
    rw [show ((t % 4294967296 : Nat) : Int) = (t : Int) % 4294967296 by omega] at this
    exact this)
   obtain ⟨W', hW'⟩ : ∃ W', takW r t = W' := ⟨_, rfl⟩
   obtain ⟨B', hB'⟩ : ∃ B', takB r t = B' := ⟨_, rfl⟩
   rw [hW', hB'] at C1 hnext
   rw [hW'] at hset
   rw [hB'] at low
   have hB1 : B' ≤ 1 := by rw [← hB']; unfold takB; split <;> omega
   have HNX := Lib.hid hnext
   have k1 : IntKind.u64.wrap (u : Int) = (u : Int) := IntWalk.u64_in _ (by omega)
   have k2 : IntKind.u64.wrap (x : Int) = (x : Int) := IntWalk.u64_in _ (by have := HX.out; omega)
   have k4 : IntKind.u64.wrap ((u : Int) * (x : Int)) = (u : Int) * (x : Int) := IntWalk.u64_in _ (by
    have : ((u * x : Nat) : Int) = (u : Int) * (x : Int) := Int.natCast_mul u x
    omega)
   have k6 : IntKind.u64.wrap ((q : Int) + (u : Int) * (x : Int)) = (t : Int) := by
    have : ((u * x : Nat) : Int) = (u : Int) * (x : Int) := Int.natCast_mul u x
    have := HE.out
    rw [IntWalk.u64_in _ (by omega)]
    omega
   obtain ⟨T, hT⟩ : ∃ T, t / 4294967296 + B' = T := ⟨_, rfl⟩
   have k7 : IntKind.u64.wrap (B' : Int) = (B' : Int) := IntWalk.u64_in _ (by omega)
   have k8 : IntKind.u64.wrap ((t : Int) / 4294967296 + (B' : Int)) = (T : Int) := by rw [IntWalk.u64_in _ (by omega)]; omega
   rw [hT] at HNX
   have HSET := Lib.hid hset
   clear e1 hnext l1 l2 u1 r1 q1 ht hu hr hkb hok hset low hW' hB' hB1 hT HE
   go_wp2_with (go_at_call 392; refine (C1.out _).mono ?_; rintro e w' ⟨rfl, rfl⟩)
   go_roundw
   case rel => exact ⟨k + 1, _, T, by go_num, rfl, by omega, HSET, HNX, hbw.setCell _⟩
   case measure => simp [intOf]; omega
  ·have HZ := Lib.hid (show k = b.length by rw [HBL.out]; omega)
   have q1 := HT.out.low
   have k1 : IntKind.u32.wrap (q : Int) = (q : Int) := IntWalk.u32_in _ (by omega)
   have HT2 := Lib.hid (HZ.out ▸ HT.out : TakeT R o b x b.length S q)
   clear q1
   go_wp2
   go_ret
   exact ⟨S, q, rfl, HS.out, HT2.out, hbw⟩
theorem quiet_plus {P : Program} {f : FuncId} {args : Array Value} {w : World} {n : Nat} {v : Value}
  (h : Calls P f args (w.drewN n) fun e w' => e = .returned v ∧ ∃ j, w' = (w.drewN n).drewN j) : Calls P f args (w.drewN n) fun e w'' => e = .returned v ∧ ∃ m, w'' = w.drewN m :=
 h.mono fun _ _ ⟨he, j, hj⟩ => ⟨he, n + j, by rw [hj, World.drewN_drewN]⟩
def StepPost (g : Nat) (R : List Nat) (o : Nat) (b : List Nat) (w : World) (e : Ending) (w' : World) : Prop :=
 ∃ S, e = .returned (.int .u32 ((val ((R.drop o).take (b.length + 1)) / val b : Nat) : Int)) ∧ Row w' g S ∧ S.length = R.length ∧ Ws S ∧ (∀ j, j < o ∨ o + (b.length + 1) ≤ j → S.getD j 0 = R.getD j 0) ∧
  val ((S.drop o).take (b.length + 1)) = val ((R.drop o).take (b.length + 1)) % val b ∧ Only g w w'
theorem guess_high {R : List Nat} {o N : Nat} {b : List Nat} (hR : Ws R) (hb : Ws b) (hN : b.length = N + 1) (ho : o + b.length < R.length) (hb0 : 0 < val b) (htop : 0 < b.getD N 0)
  (hP : val ((R.drop o).take (b.length + 1)) < 4294967296 * val b) :
  val ((R.drop o).take (b.length + 1)) / val b ≤ gues (R.getD (o + (N + 1)) 0) (R.getD (o + N) 0) (b.getD N 0) ∧ gues (R.getD (o + (N + 1)) 0) (R.getD (o + N) 0) (b.getD N 0) < 4294967296 := by
 have hlo := hR.getD (o + N)
 have hy := hb.getD N
 refine ⟨?_, ?_⟩
 ·unfold gues
  split
  ·have : val ((R.drop o).take (b.length + 1)) / val b < 4294967296 := by rw [Nat.div_lt_iff_lt_mul hb0]; exact hP
   omega
  ·rw [hN]
   refine guess_div (p' := val ((R.drop o).take N)) (d' := val (b.take N)) (K := 4294967296 ^ N) ?_ ?_ ?_ htop
   ·rw [val_part_succ R o (N + 1) (by omega), val_part_succ R o N (by omega), Nat.pow_succ]
    grind
   ·have := val_lt ((hR.drop o).take N)
    rwa [List.length_take, List.length_drop, Nat.min_eq_left (by omega)] at this
   ·have := val_take_succ b N (by omega)
    rw [List.take_of_length_le (by omega)] at this
    rw [this]
 ·unfold gues
  split
  ·omega
  ·next h =>
   rw [Nat.div_lt_iff_lt_mul htop]
   have : (R.getD (o + (N + 1)) 0 + 1) * 4294967296 ≤ b.getD N 0 * 4294967296 := Nat.mul_le_mul_right _ (by omega)
   omega
theorem step_any (g o n c : Nat) (R : List Nat) (A : Option Addr) (N m d : Nat) (b : List Nat) (B : Nat) (w : World) (hR : Row w g R) (hRw : Ws R) (hn : n = N + 2) (hmN : m = N + 1) (ho : o + n ≤ R.length) (hbl : b.length = N + 1)
  (hB : RW w B A b) (hgB : B ≤ g) (hm : R.length ≤ 35184372088832) (hb0 : 0 < val b) (htop : 0 < b.getD N 0) (hP : val ((R.drop o).take (b.length + 1)) < 4294967296 * val b) :
  Cp 389 #[.slice (some ⟨g, o, none⟩) n c, .slice A m d] w (StepPost g R o b w) := by
 subst hn
 subst hmN
 obtain ⟨a, p, rfl, hab, hc⟩ := hB.2 (by omega)
 obtain ⟨gh1, gh2⟩ := guess_high hRw hB.1 hbl (by omega) hb0 htop hP
 have d1 := hc N _ (getD_some (by omega))
 have d2 := hR.cell (o + (N + 1)) (by omega)
 have d3 := hR.cell (o + N) (by omega)
 have l1 := hRw.getD (o + (N + 1))
 have l2 := hRw.getD (o + N)
 have l3 := hB.1.getD N
 have C1 := Lib.hid (fun W => guess_any (R.getD (o + (N + 1)) 0) (R.getD (o + N) 0) (b.getD N 0) W l2 l3)
 obtain ⟨x, hx⟩ : ∃ x, gues (R.getD (o + (N + 1)) 0) (R.getD (o + N) 0) (b.getD N 0) = x := ⟨_, rfl⟩
 rw [hx] at C1 gh1 gh2
 obtain ⟨u1, hu1⟩ : ∃ u, R.getD (o + (N + 1)) 0 = u := ⟨_, rfl⟩
 obtain ⟨u2, hu2⟩ : ∃ u, R.getD (o + N) 0 = u := ⟨_, rfl⟩
 obtain ⟨u3, hu3⟩ : ∃ u, b.getD N 0 = u := ⟨_, rfl⟩
 rw [hu1, hu2, hu3] at C1
 rw [hu1] at d2 l1
 rw [hu2] at d3
 rw [hu3] at d1
 have C2 := Lib.hid (fun j => subTimes_any g o (N + 2) c R (some ⟨a, p, none⟩) (N + 1) d b x B (w.drewN j) (hR.drewN j) hRw ho (by omega) hbl (by omega) (hB.drewN j) hgB gh2 hm)
 have HRW := Lib.hid hRw
 have HBL := Lib.hid hbl
 have HB := Lib.hid hB
 have HGB := Lib.hid hgB
 have HO := Lib.hid ho
 have HB0 := Lib.hid hb0
 have HG := Lib.hid gh1
 have HG2 := Lib.hid gh2
 have HU1 := Lib.hid hu1
 have HM := Lib.hid hm
 have hN1 : (N : Int) + 2 ≤ 35184372088832 := by omega
 have hoN1 : (o : Int) + (N : Int) + 2 ≤ 35184372088832 := by omega
 have L1 := Lib.hid l1
 clear hR hRw ho hbl hB hgB hm hb0 htop hP hc gh1 gh2 l1 l2 l3 hx hu1 hu2 hu3 hab
 go_enter Tryz.func389, Tryz.ntmps389
 go_wp2
 go_quiet ((go_at_call 396; exact quiet_plus (C1.out _)))
 go_wp2_with fail
 refine (C2.out _).mono ?_
 rintro e w2 ⟨S, q, rfl, hrow, ht, hb2⟩
 have hbw2 : Only g w w2 := ((Only.refl _ _).drewN nq).trans hb2
 have hql := ht.low
 have hSl := ht.len
 obtain ⟨e1, hst⟩ := ht.step (by rw [HBL.out]; have := HO.out; omega) HRW.out HG2.out HG.out
 rw [HBL.out, HU1.out] at e1 hst
 have hcell := hrow.cell (o + (N + 1)) (by rw [hSl]; have := HO.out; omega)
 have hfz := hrow.frozen (o + (N + 1))
 rw [e1] at hcell
 have C3 := Lib.hid (fun W => show Cp 392 #[.int .u32 (u1 : Nat), .int .u32 (q : Nat), .int .u32 0] W fun e w' => e = .returned (.tuple #[.int .u32 ((u1 + 4294967296 * 2 - q - 0) % 4294967296 : Nat), .int .u32 ((if u1 < q + 0 then 1 else 0 : Nat) : Int)]) ∧ W = w' from sub32_any u1 q 0 W L1.out hql (by omega))
 obtain ⟨W3, hW3⟩ : ∃ W3, (u1 + 4294967296 * 2 - q - 0) % 4294967296 = W3 := ⟨_, rfl⟩
 obtain ⟨B3, hB3⟩ : ∃ B3, (if u1 < q + 0 then 1 else 0) = B3 := ⟨_, rfl⟩
 rw [hW3, hB3] at C3 hst
 have HROW := Lib.hid (hrow.set (o + (N + 1)) W3)
 have HST := Lib.hid hst
 have HBW := Lib.hid hbw2
 clear hrow ht hb2 hbw2 hql hSl e1 hst hW3 hB3 C1 C2
 go_wp2_with (go_at_call 392; refine (C3.out _).mono ?_; rintro e w' ⟨rfl, rfl⟩)
 go_loopw [6, 8] (fun ov bv wr => ∃ (of bl : Nat) (S : List Nat), ov = .int .u32 (of : Nat) ∧ bv = .int .u32 (bl : Nat) ∧ Hid (Row wr g S) ∧ Hid (StepT R o b S of bl) ∧ Only g w wr) (fun ov _ _ => (intOf ov).toNat)
 case atStart => exact ⟨x, B3, _, rfl, rfl, HROW, HST, HBW.out.setCell _⟩
 case round =>
  obtain ⟨of, bl, T, rfl, rfl, HR2, HT2, hbw⟩ := hrel
  have hbl : bl = 0 ∨ bl = 1 := by have := HT2.out.low; omega
  rcases hbl with h0 | h0
  ·have b0 : ((bl : Int) == 1) = false := by rw [h0]; rfl
   rw [h0] at HT2
   obtain ⟨f1, f2⟩ := HT2.out.fin HB0.out
   have HF1 := Lib.hid f1
   have HF2 := Lib.hid f2
   clear f1 f2 h0
   go_wp2
   go_ret
   exact ⟨T, congrArg (fun k : Nat => Ending.returned (.int .u32 (k : Int))) HF1.out, HR2.out, HT2.out.len, HT2.out.ws, HT2.out.far, HF2.out, hbw⟩
  ·have b0 : ((bl : Int) == 1) = true := by rw [h0]; rfl
   rw [h0] at HT2
   have HBL1 := Lib.hid h0
   obtain ⟨m1, _⟩ := HT2.out.more HB0.out (by rw [HBL.out]; have := HO.out; omega)
   have hofl := HT2.out.word
   have hTl := HT2.out.len
   have C4 := Lib.hid (addTimes_only g o (N + 2) c T (some ⟨a, p, none⟩) (N + 1) d b 1 B wr HR2.out HT2.out.ws (by rw [hTl]; exact HO.out) (by omega) HBL.out (HB.out.below (hbw.below.mono HGB.out)) HGB.out (by omega) (by rw [hTl]; exact HM.out))
   obtain ⟨k, rfl⟩ : ∃ k, of = k + 1 := ⟨of - 1, by omega⟩
   have k1 : IntKind.u32.wrap (((k + 1 : Nat) : Int) - 1) = (k : Int) := by rw [IntWalk.u32_in _ (by omega)]; omega
   have HTL := Lib.hid hTl
   have hkl : (k : Int) < 4294967296 := by omega
   clear m1 hofl hTl h0
   go_wp2_with fail
   refine C4.out.mono ?_
   rintro e w4 ⟨U, q4, rfl, hrow4, hadd, hb4⟩
   have hbw4 : Only g w w4 := hbw.trans hb4
   have hUl := hadd.len
   have hq4 := hadd.low
   obtain ⟨f1, f2, f3⟩ := HT2.out.back HB0.out (by rw [HBL.out]; have := HO.out; omega) hadd
   rw [HBL.out] at f1 f2 f3
   have hcell4 := hrow4.cell (o + (N + 1)) (by rw [hUl, HTL.out]; have := HO.out; omega)
   have hfz4 := hrow4.frozen (o + (N + 1))
   rw [f1] at hcell4
   have htl := HT2.out.ws.getD (o + (N + 1))
   obtain ⟨u4, hu4⟩ : ∃ u, T.getD (o + (N + 1)) 0 = u := ⟨_, rfl⟩
   rw [hu4] at hcell4 f2 f3 htl
   have C5 := Lib.hid (fun W => show Cp 393 #[.int .u32 (u4 : Nat), .int .u32 (q4 : Nat), .int .u32 0] W fun e w' => e = .returned (.tuple #[.int .u32 ((u4 + q4 + 0) % 4294967296 : Nat), .int .u32 ((u4 + q4 + 0) / 4294967296 : Nat)]) ∧ W = w' from add32_any u4 q4 0 W htl hq4 (by omega))
   obtain ⟨W4, hW4⟩ : ∃ W4, (u4 + q4 + 0) % 4294967296 = W4 := ⟨_, rfl⟩
   obtain ⟨c4, hc4⟩ : ∃ c4, (u4 + q4 + 0) / 4294967296 = c4 := ⟨_, rfl⟩
   rw [hW4, hc4] at C5 f3
   rw [hc4] at f2
   rw [Nat.add_sub_cancel] at f3
   have k2 : IntKind.u32.wrap ((bl : Int) - (c4 : Int)) = ((1 - c4 : Nat) : Int) := by rw [HBL1.out, IntWalk.u32_in _ (by omega)]; omega
   have HROW4 := Lib.hid (hrow4.set (o + (N + 1)) W4)
   have HST4 := Lib.hid f3
   have HBW4 := Lib.hid hbw4
   clear hrow4 hadd hb4 hbw4 hUl hq4 f1 f2 f3 htl hu4 hW4 hc4 C4
   go_wp2_with (go_at_call 393; refine (C5.out _).mono ?_; rintro e w' ⟨rfl, rfl⟩)
   go_roundw
   case rel => exact ⟨k, 1 - c4, _, rfl, rfl, HROW4, HST4, HBW4.out.setCell _⟩
   case measure => simp [intOf]

open Go.RowKit
theorem results_tmp3 {fn : Func} {t u v : Tmp} (h : fn.results = #[.tmp t, .tmp u, .tmp v]) (tmps : Array Value) (P : Program) (w : World) :
  (results fn tmps).run P w = .ok (.tuple #[tmps.getD t undef, tmps.getD u undef, tmps.getD v undef]) w := by
 simp [results, h]
def DivT (Q R : List Nat) (t : Nat) (w : World) (e : Ending) (w' : World) : Prop :=
 ∃ A n c C m d, e = .returned (.tuple #[.slice A n c, .slice C m d, .int .i64 (t : Nat)]) ∧ (n = Q.length ∧ n ≤ c ∧ m = R.length ∧ m ≤ d ∧ RW w' w'.heap.size A Q ∧ RW w' w'.heap.size C R) ∧ Below w.heap.size w w'
def divB (v u : Nat) : Bool := !(lngB v || lngB u) && !decide (u = 0)
def divQ (v u : Nat) : List Nat := if divB v u = true then wds (v / u) else []
def divR (v u : Nat) : List Nat := if divB v u = true then wds (v % u) else []
def divK (v u : Nat) : Nat := if (lngB v || lngB u) = true then 3 else if u = 0 then 4 else 0
theorem divB_ok {v u : Nat} (h : (lngB v || lngB u) = false) (hu : 0 < u) : divB v u = true := by
 unfold divB; rw [h, decide_eq_false (by omega)]; rfl
theorem DivT.ok {v u : Nat} {w w' : World} {A C : Option Addr} {n c m d : Nat} (h : (lngB v || lngB u) = false) (hu : 0 < u) (hn : n = (wds (v / u)).length) (hc : n ≤ c) (hm : m = (wds (v % u)).length) (hd : m ≤ d)
  (hA : RW w' w'.heap.size A (wds (v / u))) (hC : RW w' w'.heap.size C (wds (v % u))) (hb : Below w.heap.size w w') : DivT (divQ v u) (divR v u) (divK v u) w (.returned (.tuple #[.slice A n c, .slice C m d, .int .i64 0])) w' := by
 have e0 : divK v u = 0 := by unfold divK; rw [if_neg (by rw [h]; simp), if_neg (by omega)]
 unfold divQ divR
 rw [e0, if_pos (divB_ok h hu), if_pos (divB_ok h hu)]
 exact ⟨A, n, c, C, m, d, rfl, ⟨hn, hc, hm, hd, hA, hC⟩, hb⟩
theorem DivT.long {v u : Nat} {w w' : World} (h : (lngB v || lngB u) = true) (hb : Below w.heap.size w w') : DivT (divQ v u) (divR v u) (divK v u) w (.returned (.tuple #[.slice none 0 0, .slice none 0 0, .int .i64 3])) w' := by
 have e0 : divK v u = 3 := by unfold divK; rw [if_pos h]
 have e1 : divB v u = false := by unfold divB; rw [h]; rfl
 unfold divQ divR
 rw [e0, if_neg (by rw [e1]; simp), if_neg (by rw [e1]; simp)]
 exact ⟨none, 0, 0, none, 0, 0, rfl, ⟨rfl, Nat.le_refl _, rfl, Nat.le_refl _, RW.nil _ _ _, RW.nil _ _ _⟩, hb⟩
theorem DivT.zero {v u : Nat} {w w' : World} (h : (lngB v || lngB u) = false) (hu : u = 0) (hb : Below w.heap.size w w') : DivT (divQ v u) (divR v u) (divK v u) w (.returned (.tuple #[.slice none 0 0, .slice none 0 0, .int .i64 4])) w' := by
 have e0 : divK v u = 4 := by unfold divK; rw [if_neg (by rw [h]; simp), if_pos hu]
 have e1 : divB v u = false := by unfold divB; rw [decide_eq_true hu]; simp
 unfold divQ divR
 rw [e0, if_neg (by rw [e1]; simp), if_neg (by rw [e1]; simp)]
 exact ⟨none, 0, 0, none, 0, 0, rfl, ⟨rfl, Nat.le_refl _, rfl, Nat.le_refl _, RW.nil _ _ _, RW.nil _ _ _⟩, hb⟩
open Go.RowKit
open Go.RowKit
theorem shift_top {b : List Nat} {N : Nat} (hb : Ws b) (hN : b.length = N + 1) (hnb : nrm b = b) : 0 < b.getD N 0 ∧ 0 < Lib.bitLen (b.getD N 0) ∧ Lib.bitLen (b.getD N 0) ≤ 32 ∧ b.getD N 0 < 2 ^ Lib.bitLen (b.getD N 0) := by
 have h0 : nrm b ≠ [] := by rw [hnb]; intro e; rw [e] at hN; simp at hN
 have h1 := nrm_last h0
 rw [hnb, hN, Nat.add_sub_cancel] at h1
 have h2 := hb.getD N
 have h3 := bitLen_le32 _ h2
 obtain ⟨b1, b2, b3⟩ := Lib.bitLenAux_bounds 64 (b.getD N 0) (by omega) h1
 exact ⟨by omega, b1, h3, b3⟩
theorem ShlP.exact {R : List Nat} {o : Nat} {a : List Nat} {s N : Nat} {S : List Nat} (h : ShlP R o a s (N + 1) S) (hn : a.length = N + 1) (ht : a.getD N 0 < 2 ^ (32 - s)) : val ((S.drop o).take (N + 1)) = 2 ^ s * val a := by
 have h4 := h.sum
 have e : carL a s (N + 1) = 0 := by
  unfold carL
  rw [if_neg (by omega), Nat.add_sub_cancel]
  exact Nat.div_eq_of_lt ht
 rw [e, Nat.mul_zero, Nat.add_zero, val_take_end (l := a) (by omega)] at h4
 exact h4
theorem top_pos {S : List Nat} {N : Nat} (hS : Ws S) (hl : S.length = N + 1) (hv : 4294967296 ^ N ≤ val S) : 0 < S.getD N 0 := by
 rcases Nat.eq_zero_or_pos (S.getD N 0) with h | h
 ·have e := val_take_succ S N (by omega)
  rw [List.take_of_length_le (by omega), h, Nat.mul_zero, Nat.add_zero] at e
  have := val_lt (hS.take N)
  rw [List.length_take, Nat.min_eq_left (by omega)] at this
  omega
 ·exact h
def LongPost (n M va vb : Nat) (w : World) (e : Ending) (w' : World) : Prop :=
 ∃ S T g1 g2, e = .returned (.tuple #[.slice (some ⟨g2, 0, none⟩) M M, .slice (some ⟨g1, 0, none⟩) (n + 1) (n + 1)]) ∧ Row w' g2 S ∧ Row w' g1 T ∧ S.length = M ∧ T.length = n + 1 ∧ Ws S ∧ Ws T ∧ val S = va / vb ∧ val T = va % vb ∧ Below w.heap.size w w'
theorem divideLong_any (A C : Option Addr) (n c m M N d : Nat) (a b : List Nat) (w : World) (hn : a.length = n) (hm : n ≤ 1024) (h : RW w w.heap.size A a)
  (gn : b.length = m) (gN : m = N + 1) (g : RW w w.heap.size C b) (hnb : nrm b = b) (hM : n + 1 = M + m) (hM0 : 0 < M) :
  Cp 368 #[.slice A n c, .slice C m d] w (LongPost n M (val a) (val b) w) := by
 subst gN
 obtain ⟨t1, t2, t3, t4⟩ := shift_top g.1 gn hnb
 have h0 : nrm b ≠ [] := by rw [hnb]; intro e; rw [e] at gn; simp at gn
 have hge := val_ge h0
 rw [hnb, gn, Nat.add_sub_cancel] at hge
 obtain ⟨cb, coff, rfl, hcb, hcc⟩ := g.2 (by omega)
 have d1 := hcc N _ (getD_some (by omega))
 have htl := g.1.getD N
 obtain ⟨u, hu⟩ : ∃ u, b.getD N 0 = u := ⟨_, rfl⟩
 rw [hu] at d1 t1 t2 t3 t4 htl
 obtain ⟨L, hL⟩ : ∃ L, Lib.bitLen u = L := ⟨_, rfl⟩
 have C1 := Lib.hid (fun W => show Cp 388 #[.int .u32 (u : Nat)] W fun e w' => e = .returned (.int .i64 (32 - (L : Int))) ∧ W = w' from by
  have := Tryz.bits_LeadingZeros32 (u : Int) W (by omega) (by omega)
  rw [Int.toNat_natCast, hL] at this; exact this.mono fun _ _ ⟨x, y⟩ => ⟨x, y.symm⟩)
 rw [hL] at t2 t3 t4
 obtain ⟨s, hs⟩ : ∃ s, 32 - L = s := ⟨_, rfl⟩
 have hs2 : 32 - (L : Int) = (s : Int) := by omega
 rw [hs2] at C1
 have hs32 : s < 32 := by omega
 have HT4 := Lib.hid (show b.getD N 0 < 2 ^ (32 - s) by rw [hu, show 32 - s = L by omega]; exact t4)
 have hN1 : (N : Int) ≤ 1024 := by omega
 have hn1 : (n : Int) ≤ 1024 := by omega
 have hM1 : (1 : Int) ≤ (M : Int) := by omega
 have hM2 : (M : Int) ≤ 1024 := by omega
 have HA := Lib.hid h
 have HB := Lib.hid g
 have HGB := Lib.hid (show (b.length = N + 1 ∧ a.length = n) from ⟨gn, hn⟩)
 have HGE := Lib.hid hge
 have HM := Lib.hid hM
 have HM0 := Lib.hid hM0
 have hm1 := run_make_row' (P := Tryz.prog) 180 156 (.int .u32 0) 4 Tryz.underlying180 infoW rfl .i64 .i64 (N + 1) (by omega) (by omega) w
 rw [show ((N + 1 : Nat) : Int) = (N : Int) + 1 by omega] at hm1
 have hm2 := fun W => run_make_row' (P := Tryz.prog) 180 156 (.int .u32 0) 4 Tryz.underlying180 infoW rfl .i64 .i64 (n + 1) (by omega) (by omega) W
 rw [show ((n + 1 : Nat) : Int) = (n : Int) + 1 by omega] at hm2
 have hm3 := fun W => run_make_row' (P := Tryz.prog) 180 156 (.int .u32 0) 4 Tryz.underlying180 infoW rfl .i64 .i64 M (by omega) (by omega) W
 have HM2 := Lib.hid hm2
 have HM3 := Lib.hid hm3
 have hMe0 : IntKind.i64.wrap ((n : Int) - ((N : Int) + 1)) = (n : Int) - ((N : Int) + 1) := IntWalk.i64_in _ (by omega)
 have hMe : IntKind.i64.wrap (((n : Int) - ((N : Int) + 1)) + 1) = (M : Int) := by rw [IntWalk.i64_in _ (by omega)]; omega
 have hR1 := Row.made w (N + 1)
 have hB1 : Below w.heap.size w (w.alloc (.cells (madeCells #[.int .u32 0] (N + 1)) 156)) := (Below.refl _ _).alloc (Nat.le_refl _) _
 have hz1 : (w.alloc (.cells (madeCells #[.int .u32 0] (N + 1)) 156)).heap.size = w.heap.size + 1 := by simp
 obtain ⟨w1, hw1⟩ : ∃ w1, w.alloc (.cells (madeCells #[.int .u32 0] (N + 1)) 156) = w1 := ⟨_, rfl⟩
 rw [hw1] at hR1 hB1 hz1 hm1
 have C2 := Lib.hid (shl_any w.heap.size 0 (N + 1) (N + 1) s (List.replicate (N + 1) 0) (some ⟨cb, coff, none⟩) (N + 1) d b w.heap.size w1 hR1 (Ws.zeros _) (by rw [List.length_replicate]; omega) gn (by omega) (by omega) (g.below hB1) (Nat.le_refl _) hs32)
 have HB1 := Lib.hid hB1
 have HZ1 := Lib.hid hz1
 clear t1 t2 t3 t4 hu hL hs hs2 htl hcc h g hn gn hge hM hM0 hnb h0 hm hm2 hm3 hR1 hB1 hz1 hw1
 go_enter Tryz.func368, Tryz.ntmps368
 go_wp2_with fail
 refine (C1.out _).mono ?_
 rintro e w' ⟨rfl, rfl⟩
 go_wp2_with fail
 refine C2.out.mono ?_
 rintro e w2 ⟨rfl, D, hD, hRD, hbD⟩
 have hB2 : Below w.heap.size w w2 := HB1.out.trans hbD
 have hg0 := hRD.lt
 have hDl : D.length = N + 1 := by rw [hD.len, List.length_replicate]
 have hDv : val D = 2 ^ s * val b := by
  have := hD.exact HGB.out.1 HT4.out
  rw [List.drop_zero, List.take_of_length_le (by omega)] at this
  exact this
 have hDw := hD.ws
 have hm2 := HM2.out w2
 have hR2 := Row.made w2 (n + 1)
 have hB3 : Below w.heap.size w (w2.alloc (.cells (madeCells #[.int .u32 0] (n + 1)) 156)) := hB2.alloc hB2.size _
 have hB23 : Below w2.heap.size w2 (w2.alloc (.cells (madeCells #[.int .u32 0] (n + 1)) 156)) := (Below.refl _ _).alloc (Nat.le_refl _) _
 have C3 := Lib.hid (shl_any w2.heap.size 0 (n + 1) (n + 1) s (List.replicate (n + 1) 0) A n c a w.heap.size _ hR2 (Ws.zeros _) (by rw [List.length_replicate]; omega) HGB.out.2 (by omega) (by omega) (HA.out.below hB3) hB2.size hs32)
 have HRD := Lib.hid (hRD.below hg0 hB23)
 have HD := Lib.hid (show D.length = N + 1 ∧ val D = 2 ^ s * val b ∧ Ws D from ⟨hDl, hDv, hDw⟩)
 have HB3 := Lib.hid hB3
 have HG0 := Lib.hid hg0
 clear hD hRD hbD hB2 hg0 hDl hDv hDw hR2 hB3 hB23 hm1 C1 C2
 go_wp2_with fail
 refine C3.out.mono ?_
 rintro e w4 ⟨rfl, R, hR, hRR, hbR⟩
 have hB4 : Below w.heap.size w w4 := HB3.out.trans (hbR.mono (Nat.le_of_lt HG0.out))
 have hg1 := hRR.lt
 have hRl : R.length = n + 1 := by rw [hR.len, List.length_replicate]
 have hRv : val R = 2 ^ s * val a := by
  have := hR.whole (by rw [HGB.out.2]; omega)
  rw [List.drop_zero, List.take_of_length_le (by omega)] at this
  exact this
 have hRw := hR.ws
 have hRD4 : Row w4 w.heap.size D := HRD.out.below HG0.out hbR
 have hm3 := HM3.out w4
 have hQ5 := Row.made w4 M
 have hB5 : Below w.heap.size w (w4.alloc (.cells (madeCells #[.int .u32 0] M) 156)) := hB4.alloc hB4.size _
 have hB45 : Below w4.heap.size w4 (w4.alloc (.cells (madeCells #[.int .u32 0] M) 156)) := (Below.refl _ _).alloc (Nat.le_refl _) _
 have HQ5 := Lib.hid hQ5
 have HR5 := Lib.hid (hRR.below hg1 hB45)
 have HD5 := Lib.hid (hRD4.below (Nat.lt_trans HG0.out hg1) hB45)
 have HB5 := Lib.hid hB5
 have HG1 := Lib.hid hg1
 have hlong := LongT.start (va := val a) (vb := val b) (s := s) (la := n) (n := N + 1) (M := M) hRw (by rw [hRl]; exact HM.out) HM.out (by omega) (by have := val_lt HA.out.1; rw [HGB.out.2] at this; exact this) (by rw [Nat.add_sub_cancel]; exact HGE.out) hRv
 have HLONG := Lib.hid hlong
 have hDp : 0 < val b := Nat.lt_of_lt_of_le (Nat.pow_pos (by omega)) HGE.out
 have HDP := Lib.hid (show 0 < 2 ^ s * val b ∧ 2 ^ s * val b < 4294967296 ^ (N + 1) ∧ 0 < D.getD N 0 by
  have h1 := val_lt HD.out.2.2
  rw [HD.out.2.1, HD.out.1] at h1
  refine ⟨Nat.mul_pos (Nat.two_pow_pos s) hDp, h1, top_pos HD.out.2.2 HD.out.1 ?_⟩
  rw [HD.out.2.1]
  exact Nat.le_trans HGE.out (Nat.le_mul_of_pos_left _ (Nat.two_pow_pos s)))
 clear hR hRR hbR hB4 hg1 hRl hRv hRw hRD4 hQ5 hB5 hB45 hlong hDp hm2 C3
 go_wp2
 clear hm3
 go_loopw [10] (fun i wr => ∃ (k : Nat) (R Q : List Nat), i = .int .i64 ((k : Int) - 1) ∧ k ≤ M ∧ Hid (Row wr w2.heap.size R) ∧ Hid (Row wr w4.heap.size Q) ∧ Hid (Row wr w.heap.size D) ∧ Hid (LongT (2 ^ s * val a) (2 ^ s * val b) (N + 1) M k R Q) ∧ Below w.heap.size w wr) (fun i _ => (intOf i + 1).toNat)
 case atStart => exact ⟨M, R, _, rfl, Nat.le_refl _, HR5, HQ5, HD5, HLONG, HB5.out⟩
 case round =>
  obtain ⟨k, R2, Q, rfl, hk, HR, HQ, HDD, HT, hbw⟩ := hrel
  have hRl := HT.out.lenR
  have hQl := HT.out.lenQ
  have hMn := HM.out
  by_cases h0 : k = 0
  ·subst h0
   obtain ⟨f1, f2⟩ := HT.out.fin HDP.out.1
   rw [Nat.mul_div_mul_left _ _ (Nat.two_pow_pos s)] at f1
   rw [Nat.mul_mod_mul_left] at f2
   have C1 := Lib.hid (shr_self w2.heap.size (n + 1) (n + 1) (n + 1) s R2 wr HR.out HT.out.wsR (by omega) (by omega) hs32)
   have HF1 := Lib.hid f1
   have HF2 := Lib.hid f2
   have HQW := Lib.hid HT.out.wsQ
   have HL := Lib.hid (show Q.length = M ∧ R2.length = n + 1 from ⟨hQl, by omega⟩)
   have HNE := Lib.hid (show w4.heap.size ≠ w2.heap.size from Nat.ne_of_gt HG1.out)
   have HBG := Lib.hid (Nat.le_of_lt (Nat.lt_of_lt_of_le HG0.out (Nat.le_refl _)))
   clear f1 f2 hRl hQl hMn
   go_wp2_with fail
   refine C1.out.mono ?_
   rintro e w5 ⟨rfl, S, hS, hRow, hO⟩
   have hv := hS.whole (by rw [HL.out.2]; exact Nat.le_refl _)
   have hSl := hS.len
   rw [List.drop_zero, List.take_of_length_le (by rw [hSl, HL.out.2]; exact Nat.le_refl _), HF2.out, Nat.mul_div_cancel_left _ (Nat.two_pow_pos s)] at hv
   have HFIN := Lib.hid (show LongPost n M (val a) (val b) w (.returned (.tuple #[.slice (some ⟨w4.heap.size, 0, none⟩) M M, .slice (some ⟨w2.heap.size, 0, none⟩) (n + 1) (n + 1)])) w5 from
    ⟨Q, S, w2.heap.size, w4.heap.size, rfl, HQ.out.only HNE.out hO, hRow, HL.out.1, by rw [hSl, HL.out.2], HQW.out, hS.ws, HF1.out, hv, hbw.trans (hO.below.mono HBG.out)⟩)
   clear hS hRow hO hv hSl C1
   go_wp2
   go_ret2
   exact HFIN.out
  ·obtain ⟨j, rfl⟩ : ∃ j, k = j + 1 := ⟨k - 1, by omega⟩
   rw [show (((j + 1 : Nat) : Int) - 1) = (j : Int) by omega]
   obtain ⟨p1, p2⟩ := HT.out.part (by omega) HDP.out.2.1
   have C1 := Lib.hid (step_any w2.heap.size j (N + 2) (n + 1 - j) R2 (some ⟨w.heap.size, 0, none⟩) N (N + 1) (N + 1) D (w.heap.size + 1) wr HR.out HT.out.wsR rfl rfl (by omega) HD.out.1 (HDD.out.rw0 HD.out.2.2) HG0.out (by omega) (by rw [HD.out.2.1]; exact HDP.out.1) HDP.out.2.2 (by rw [HD.out.1, HD.out.2.1]; exact p2))
   have HNX := Lib.hid (fun S h1 h2 h3 h4 => HT.out.next (S := S) (by omega) HDP.out.2.1 HDP.out.1 h1 h2 h3 h4)
   unfold StepPost at C1
   rw [HD.out.1, HD.out.2.1] at C1
   obtain ⟨q, hq⟩ : ∃ q, val ((R2.drop j).take (N + 1 + 1)) / (2 ^ s * val b) = q := ⟨_, rfl⟩
   rw [hq] at C1 HNX
   have hcell := fun (W : World) (h : Row W w4.heap.size Q) => h.cell j (by omega)
   have hfz := fun (W : World) (h : Row W w4.heap.size Q) => h.frozen j
   have HCELL := Lib.hid hcell
   have HFZ := Lib.hid hfz
   have HNE := Lib.hid (show w4.heap.size ≠ w2.heap.size ∧ w.heap.size ≠ w2.heap.size ∧ w2.heap.size ≠ w4.heap.size ∧ w.heap.size ≠ w4.heap.size from by
    have h1 := HG1.out
    have h2 := HG0.out
    omega)
   have HBG := Lib.hid (show w.heap.size ≤ w2.heap.size ∧ w.heap.size ≤ w4.heap.size from by
    have h1 := HG1.out
    have h2 := HG0.out
    omega)
   have hj1 : (j : Int) < (M : Int) := by omega
   have hjn : (j : Int) + (N : Int) + 2 ≤ (n : Int) + 1 := by omega
   have hjn2 : j + (N + 2) ≤ n + 1 := by omega
   have hk2 : j + 1 ≤ M := hk
   clear hRl hQl hMn hk h0 p1 p2 hq hcell hfz
   go_wp2_with fail
   rw [show j + (N + 1) + 1 - j = N + 2 by omega]
   refine C1.out.mono ?_
   rintro e w5 ⟨S, rfl, hrow, hlen, hws, hfar, hval, hO⟩
   have rQ := HQ.out.only HNE.out.1 hO
   have rD := HDD.out.only HNE.out.2.1 hO
   have hcell := HCELL.out w5 rQ
   have hfz := HFZ.out w5 rQ
   have HTN := Lib.hid (HNX.out S hlen hws hfar hval)
   have HQ2 := Lib.hid (rQ.set j q)
   have HR2 := Lib.hid (show Row (w5.setCell ⟨w4.heap.size, j, none⟩ (.int .u32 (q : Nat))) w2.heap.size S from (Below.heap_setCell w5 _ _ _ HNE.out.2.2.1).trans hrow)
   have HD2 := Lib.hid (show Row (w5.setCell ⟨w4.heap.size, j, none⟩ (.int .u32 (q : Nat))) w.heap.size D from (Below.heap_setCell w5 _ _ _ HNE.out.2.2.2).trans rD)
   have HB2 := Lib.hid ((hbw.trans (hO.below.mono HBG.out.1)).setCell (p := ⟨w4.heap.size, j, none⟩) HBG.out.2 (.int .u32 (q : Nat)))
   clear hrow hlen hws hfar hval hO rQ rD C1 HNX
   go_wp2
   go_roundw
   case rel => exact ⟨j, S, _, by go_num, by omega, HR2, HQ2, HD2, HTN, HB2.out⟩
   case measure => simp [intOf]
open Go.RowKit
theorem div_long (A C : Option Addr) (n c m d : Nat) (l k : List Nat) (w : World) (hn : l.length = n) (hc : n ≤ c) (hm : n ≤ 35184372088832) (h : RW w w.heap.size A l)
  (gn : k.length = m) (gc : m ≤ d) (gm : m ≤ 35184372088832) (g : RW w w.heap.size C k) (hl : (lngB (val l) || lngB (val k)) = true) :
  Cp 341 #[.slice A n c, .slice C m d] w (DivT (divQ (val l) (val k)) (divR (val l) (val k)) (divK (val l) (val k)) w) := by
 have c1 := tooTwo_any A C n c m d l k w hn hc hm h gn gc gm g
 have hp : Below w.heap.size w (pair w (.slice A n c) (.slice C m d)) := (Below.refl _ _).alloc (Nat.le_refl _) _
 have HF := Lib.hid (DivT.long (w := w) hl hp)
 rw [hl] at c1
 clear h g hn hc hm gn gc gm hl hp
 go_enter Tryz.func341, Tryz.ntmps341
 go_wp2_with fail
 refine c1.mono ?_
 rintro e w1 ⟨rfl, rfl⟩
 go_wp2
 (try simp only [Exit.inBlock, Exit.then])
 refine bodyPost_ret (results_tmp3 rfl _ _ _) rfl ?_
 exact HF.out
theorem div_zero (A C : Option Addr) (n c m d : Nat) (l k : List Nat) (w : World) (hn : l.length = n) (hc : n ≤ c) (hm : n ≤ 35184372088832) (h : RW w w.heap.size A l)
  (gn : k.length = m) (gc : m ≤ d) (gm : m ≤ 35184372088832) (g : RW w w.heap.size C k) (hl : (lngB (val l) || lngB (val k)) = false) (hk : val k = 0) :
  Cp 341 #[.slice A n c, .slice C m d] w (DivT (divQ (val l) (val k)) (divR (val l) (val k)) (divK (val l) (val k)) w) := by
 have c1 := tooTwo_any A C n c m d l k w hn hc hm h gn gc gm g
 have hp : Below w.heap.size w (pair w (.slice A n c) (.slice C m d)) := (Below.refl _ _).alloc (Nat.le_refl _) _
 have HF := Lib.hid (DivT.zero (w := w) hl hk hp)
 rw [hl] at c1
 have c2 := cut_any A n c l w.heap.size _ hn hc hm (h.below hp)
 have c3 := cut_any C m d k w.heap.size _ gn gc gm (g.below hp)
 rw [nrm_val_zero hk] at c3
 clear h g hn hc hm gn gc gm hl hp hk
 go_enter Tryz.func341, Tryz.ntmps341
 go_wp2_with fail
 refine c1.mono ?_
 rintro e w1 ⟨rfl, rfl⟩
 go_wp2_with fail
 refine c2.mono ?_
 rintro e w1 ⟨rfl, rfl⟩
 go_wp2_with fail
 refine c3.mono ?_
 rintro e w1 ⟨rfl, rfl⟩
 go_wp2
 (try simp only [Exit.inBlock, Exit.then])
 refine bodyPost_ret (results_tmp3 rfl _ _ _) rfl ?_
 exact HF.out
theorem div_small (A C : Option Addr) (n c m d : Nat) (l k : List Nat) (w : World) (hn : l.length = n) (hc : n ≤ c) (hm : n ≤ 35184372088832) (h : RW w w.heap.size A l)
  (gn : k.length = m) (gc : m ≤ d) (gm : m ≤ 35184372088832) (g : RW w w.heap.size C k) (hl : (lngB (val l) || lngB (val k)) = false) (hlt : (nrm l).length < (nrm k).length) :
  Cp 341 #[.slice A n c, .slice C m d] w (DivT (divQ (val l) (val k)) (divR (val l) (val k)) (divK (val l) (val k)) w) := by
 have c1 := tooTwo_any A C n c m d l k w hn hc hm h gn gc gm g
 have hp : Below w.heap.size w (pair w (.slice A n c) (.slice C m d)) := (Below.refl _ _).alloc (Nat.le_refl _) _
 rw [hl] at c1
 have c2 := cut_any A n c l w.heap.size _ hn hc hm (h.below hp)
 have c3 := cut_any C m d k w.heap.size _ gn gc gm (g.below hp)
 obtain ⟨hl1, hl2⟩ : lngB (val l) = false ∧ lngB (val k) = false := by simpa using hl
 have n1 := lng_len h.1 hl1
 have n2 := lng_len g.1 hl2
 have hval := cmp_len h.1 hlt
 have e1 : val l / val k = 0 := Nat.div_eq_of_lt hval
 have e2 : val l % val k = val l := Nat.mod_eq_of_lt hval
 obtain ⟨N, hN⟩ : ∃ N, (nrm l).length = N := ⟨_, rfl⟩
 obtain ⟨M, hM⟩ : ∃ M, (nrm k).length = M := ⟨_, rfl⟩
 rw [hN] at n1 c2 hlt
 rw [hM] at n2 c3 hlt
 obtain ⟨W, hW⟩ : ∃ W, pair w (.slice A n c) (.slice C m d) = W := ⟨_, rfl⟩
 rw [hW] at c1 c2 c3 hp
 have HOK := Lib.hid (fun (w' : World) A2 n2 c2 C2 m2 d2 h3 h4 h5 h6 h7 h8 h9 => DivT.ok (w := w) (w' := w') (A := A2) (C := C2) (n := n2) (c := c2) (m := m2) (d := d2) hl (by omega) h3 h4 h5 h6 h7 h8 h9)
 rw [e1, e2] at HOK
 have hND : (wds (val l)).length = N := by rw [← nrm_wds h.1]; exact hN
 have c4 := (normT A N N (nrm l) N W hN (Nat.le_refl _) (by omega) ((h.nrm.below hp).more hp.size) (by rw [nrm_nrm]; exact hN))
 rw [nrm_nrm, nrm_wds h.1] at c4
 have HW := Lib.hid hW
 have HP := Lib.hid hp
 have HND := Lib.hid hND
 have z0 : ((M : Int) == 0) = false := by simp; omega
 have z1 : (N : Int) < (M : Int) := by omega
 clear h g hn hc hm gn gc gm hl hp hl1 hl2 n1 n2 hval e1 e2 hN hM hW hND hlt
 go_enter Tryz.func341, Tryz.ntmps341
 go_wp2_with fail
 rw [show w.alloc (.cells #[.slice A n c, .slice C m d] 180) = W from HW.out]
 refine c1.mono ?_
 rintro e w1 ⟨rfl, rfl⟩
 go_wp2_with fail
 refine c2.mono ?_
 rintro e w1 ⟨rfl, rfl⟩
 go_wp2_with fail
 refine c3.mono ?_
 rintro e w1 ⟨rfl, rfl⟩
 go_wp2_with fail
 refine c4.mono ?_
 rintro e w2 ⟨A2, c2, rfl, ⟨hc2, r2⟩, b2⟩
 have HF := Lib.hid (HOK.out w2 none 0 0 A2 N c2 rfl (Nat.le_refl _) HND.out.symm hc2 (RW.nil _ _ _) r2 (below_le HP.out b2))
 clear r2 hc2 b2
 go_wp2
 (try simp only [Exit.inBlock, Exit.then])
 refine bodyPost_ret (results_tmp3 rfl _ _ _) rfl ?_
 exact HF.out
theorem div_word (A C : Option Addr) (n c m d : Nat) (l k : List Nat) (w : World) (hn : l.length = n) (hc : n ≤ c) (hm : n ≤ 35184372088832) (h : RW w w.heap.size A l)
  (gn : k.length = m) (gc : m ≤ d) (gm : m ≤ 35184372088832) (g : RW w w.heap.size C k) (hl : (lngB (val l) || lngB (val k)) = false) (hle : (nrm k).length ≤ (nrm l).length) (h1k : (nrm k).length = 1) :
  Cp 341 #[.slice A n c, .slice C m d] w (DivT (divQ (val l) (val k)) (divR (val l) (val k)) (divK (val l) (val k)) w) := by
 have c1 := tooTwo_any A C n c m d l k w hn hc hm h gn gc gm g
 have hp : Below w.heap.size w (pair w (.slice A n c) (.slice C m d)) := (Below.refl _ _).alloc (Nat.le_refl _) _
 rw [hl] at c1
 have c2 := cut_any A n c l w.heap.size _ hn hc hm (h.below hp)
 have c3 := cut_any C m d k w.heap.size _ gn gc gm (g.below hp)
 obtain ⟨hl1, hl2⟩ : lngB (val l) = false ∧ lngB (val k) = false := by simpa using hl
 have n1 := lng_len h.1 hl1
 obtain ⟨u, hu⟩ : ∃ u, nrm k = [u] := List.length_eq_one_iff.1 h1k
 have hkv : val k = u := by rw [← val_nrm, hu]; simp [val]
 have hgB := g.nrm
 rw [hu] at hgB c3
 have hul : u < 4294967296 := hgB.1 u (by simp)
 have hu0 : 0 < u := by
  rcases Nat.eq_zero_or_pos u with h0 | h0
  ·have := nrm_val_zero (l := k) (by rw [hkv, h0])
   rw [this] at hu; cases hu
  ·exact h0
 obtain ⟨b, off, hCe, hbB, hcell⟩ := hgB.2 (by simp)
 have d0 := hcell 0 u rfl
 rw [Nat.add_zero] at d0
 subst hCe
 obtain ⟨N, hN⟩ : ∃ N, (nrm l).length = N := ⟨_, rfl⟩
 rw [h1k, hN] at hle
 rw [hN] at n1 c2
 obtain ⟨W, hW⟩ : ∃ W, pair w (.slice A n c) (.slice (some ⟨b, off, none⟩) m d) = W := ⟨_, rfl⟩
 rw [hW] at c1 c2 c3 hp
 have HOK := Lib.hid (fun (w' : World) A2 n2 c2 C2 m2 d2 h3 h4 h5 h6 h7 h8 h9 => DivT.ok (w := w) (w' := w') (A := A2) (C := C2) (n := n2) (c := c2) (m := m2) (d := d2) hl (by omega) h3 h4 h5 h6 h7 h8 h9)
 have c4 := norm_row A N N (nrm l) W hN (Nat.le_refl _) (by omega) ((h.nrm.below hp).more hp.size)
 rw [nrm_nrm, hN] at c4
 have C5 := Lib.hid (fun W2 (r : Row W2 W.heap.size (nrm l)) => divideWord_any W.heap.size N N u (nrm l) W2 r h.1.nrm hN (by omega) hul hu0)
 rw [val_nrm] at C5
 rw [hkv] at HOK ⊢
 have hrl : val l % u < u := Nat.mod_lt _ hu0
 obtain ⟨q, hq⟩ : ∃ q, val l / u = q := ⟨_, rfl⟩
 obtain ⟨z, hz⟩ : ∃ z, val l % u = z := ⟨_, rfl⟩
 rw [hq, hz] at HOK C5
 rw [hz] at hrl
 have C7 := Lib.hid (fun W => (of_any z (by omega) W).mono fun _ _ y => y.told (n := (wds z).length) (by rw [two_wds z (by omega)]))
 rw [two_wds z (by omega)] at C7
 have HW := Lib.hid hW
 have HP := Lib.hid hp
 rw [← hp.cell (p := ⟨b, off, none⟩) hbB] at d0
 have z0 : ((1 : Int) == 0) = false := rfl
 have z1 : ¬ (N : Int) < 1 := by omega
 have z2 : IntKind.u64.wrap (z : Int) = (z : Int) := IntWalk.u64_in _ (by omega)
 have HN1 := Lib.hid n1
 clear h g hn hc hm gn gc gm hl hp hl1 hl2 n1 hkv hu hul hu0 hN hW hle h1k hgB hcell hrl hq hz
 go_enter Tryz.func341, Tryz.ntmps341
 go_wp2_with fail
 rw [show w.alloc (.cells #[.slice A n c, .slice (some ⟨b, off, none⟩) m d] 180) = W from HW.out]
 refine c1.mono ?_
 rintro e w1 ⟨rfl, rfl⟩
 go_wp2_with fail
 refine c2.mono ?_
 rintro e w1 ⟨rfl, rfl⟩
 go_wp2_with fail
 refine c3.mono ?_
 rintro e w1 ⟨rfl, rfl⟩
 go_wp2_with fail
 refine c4.mono ?_
 rintro e w2 ⟨rfl, r2, b2⟩
 have d2 := d0
 rw [← b2.cell (p := ⟨b, off, none⟩) (Nat.lt_of_lt_of_le hbB HP.out.size)] at d2
 have C6 := C5.out _ r2
 clear c1 c2 c3 c4 C5 r2
 go_wp2_with fail
 refine C6.mono ?_
 rintro e w3 ⟨rfl, S, r3, s1, s2, s3, b3⟩
 have B3 := below_le HP.out (b2.trans b3)
 have hlt3 := r3.lt
 have c8 := cut_any (some ⟨W.heap.size, 0, none⟩) N N S w3.heap.size w3 s1 (Nat.le_refl _) (by have := HN1.out; omega) ((r3.rw0 s2).more hlt3)
 have HR3 := Lib.hid ((r3.rw0 s2).more hlt3).nrm
 rw [nrm_wds s2, s3] at c8 HR3
 have HLQ := Lib.hid (show (wds q).length ≤ N by rw [← s3, ← nrm_wds s2, ← s1]; exact nrm_len S)
 clear r3 s1 s2 s3 b3 b2 C6 d0 hlt3
 go_wp2_with fail
 refine c8.mono ?_
 rintro e w' ⟨rfl, rfl⟩
 go_wp2_with fail
 refine (C7.out _).mono ?_
 rintro e w4 ⟨A4, c4, rfl, ⟨hc4, r4⟩, b4⟩
 have HF := Lib.hid (HOK.out w4 _ _ (wds q).length A4 _ c4 rfl (Nat.le_refl _) rfl hc4 (HR3.out.step b4) r4 (below_le B3 b4))
 clear r4 hc4 b4
 go_wp2
 (try simp only [Exit.inBlock, Exit.then])
 refine bodyPost_ret (results_tmp3 rfl _ _ _) rfl ?_
 exact HF.out
theorem div_many (A C : Option Addr) (n c m d : Nat) (l k : List Nat) (w : World) (hn : l.length = n) (hc : n ≤ c) (hm : n ≤ 35184372088832) (h : RW w w.heap.size A l)
  (gn : k.length = m) (gc : m ≤ d) (gm : m ≤ 35184372088832) (g : RW w w.heap.size C k) (hl : (lngB (val l) || lngB (val k)) = false) (hle : (nrm k).length ≤ (nrm l).length) (h1k : 1 < (nrm k).length) :
  Cp 341 #[.slice A n c, .slice C m d] w (DivT (divQ (val l) (val k)) (divR (val l) (val k)) (divK (val l) (val k)) w) := by
 have c1 := tooTwo_any A C n c m d l k w hn hc hm h gn gc gm g
 have hp : Below w.heap.size w (pair w (.slice A n c) (.slice C m d)) := (Below.refl _ _).alloc (Nat.le_refl _) _
 rw [hl] at c1
 have c2 := cut_any A n c l w.heap.size _ hn hc hm (h.below hp)
 have c3 := cut_any C m d k w.heap.size _ gn gc gm (g.below hp)
 obtain ⟨hl1, hl2⟩ : lngB (val l) = false ∧ lngB (val k) = false := by simpa using hl
 have n1 := lng_len h.1 hl1
 have n2 := lng_len g.1 hl2
 have hk0 : 0 < val k := by
  rcases Nat.eq_zero_or_pos (val k) with h0 | h0
  ·rw [nrm_val_zero h0] at h1k; simp at h1k
  ·exact h0
 obtain ⟨N, hN⟩ : ∃ N, (nrm l).length = N := ⟨_, rfl⟩
 obtain ⟨M, hM⟩ : ∃ M, (nrm k).length = M := ⟨_, rfl⟩
 rw [hN] at n1 c2 hle
 rw [hM] at n2 c3 hle h1k
 obtain ⟨W, hW⟩ : ∃ W, pair w (.slice A n c) (.slice C m d) = W := ⟨_, rfl⟩
 rw [hW] at c1 c2 c3 hp
 have HOK := Lib.hid (fun (w' : World) A2 n2 c2 C2 m2 d2 h3 h4 h5 h6 h7 h8 h9 => DivT.ok (w := w) (w' := w') (A := A2) (C := C2) (n := n2) (c := c2) (m := m2) (d := d2) hl hk0 h3 h4 h5 h6 h7 h8 h9)
 obtain ⟨K, hK⟩ : ∃ K, N + 1 = K + M := ⟨N + 1 - M, by omega⟩
 have c4 := divideLong_any A C N N M K (M - 1) M (nrm l) (nrm k) W hN n1 ((h.nrm.below hp).more hp.size) hM (by omega) ((g.nrm.below hp).more hp.size) (nrm_nrm k) hK (by omega)
 rw [val_nrm, val_nrm] at c4
 have HW := Lib.hid hW
 have HP := Lib.hid hp
 have z0 : ((M : Int) == 0) = false := by simp; omega
 have z1 : ¬ (N : Int) < (M : Int) := by omega
 have z2 : ((M : Int) == 1) = false := by simp; omega
 have HK := Lib.hid (show K ≤ 1024 ∧ N + 1 ≤ 1025 by omega)
 obtain ⟨q, hq⟩ : ∃ q, val l / val k = q := ⟨_, rfl⟩
 obtain ⟨z, hz⟩ : ∃ z, val l % val k = z := ⟨_, rfl⟩
 rw [hq, hz] at HOK
 unfold LongPost at c4
 rw [hq, hz] at c4
 clear h g hn hc hm gn gc gm hl hp hl1 hl2 n1 n2 hN hM hW hle h1k hk0 hq hz hK
 go_enter Tryz.func341, Tryz.ntmps341
 go_wp2_with fail
 rw [show w.alloc (.cells #[.slice A n c, .slice C m d] 180) = W from HW.out]
 refine c1.mono ?_
 rintro e w1 ⟨rfl, rfl⟩
 go_wp2_with fail
 refine c2.mono ?_
 rintro e w1 ⟨rfl, rfl⟩
 go_wp2_with fail
 refine c3.mono ?_
 rintro e w1 ⟨rfl, rfl⟩
 go_wp2_with fail
 refine c4.mono ?_
 rintro e w2 ⟨S, T, g1, g2, rfl, r2, t2, s1, s2, s3, s4, s5, s6, b2⟩
 have B2 := below_le HP.out b2
 have hlt2 := r2.lt
 have hlt3 := t2.lt
 have c5 := cut_any (some ⟨g2, 0, none⟩) K K S w2.heap.size w2 s1 (Nat.le_refl _) (by have := HK.out; omega) ((r2.rw0 s3).more hlt2)
 have c6 := cut_any (some ⟨g1, 0, none⟩) (N + 1) (N + 1) T w2.heap.size w2 s2 (Nat.le_refl _) (by have := HK.out; omega) ((t2.rw0 s4).more hlt3)
 have HR2 := Lib.hid ((r2.rw0 s3).more hlt2).nrm
 have HR3 := Lib.hid ((t2.rw0 s4).more hlt3).nrm
 rw [nrm_wds s3, s5] at c5 HR2
 rw [nrm_wds s4, s6] at c6 HR3
 have HF := Lib.hid (HOK.out w2 _ _ (wds q).length _ _ (wds z).length rfl (Nat.le_refl _) rfl (Nat.le_refl _) HR2.out HR3.out B2)
 clear r2 t2 s1 s2 s3 s4 s5 s6 b2 hlt2 hlt3 c1 c2 c3 c4
 go_wp2_with fail
 refine c5.mono ?_
 rintro e w' ⟨rfl, rfl⟩
 go_wp2_with fail
 refine c6.mono ?_
 rintro e w' ⟨rfl, rfl⟩
 go_wp2
 (try simp only [Exit.inBlock, Exit.then])
 refine bodyPost_ret (results_tmp3 rfl _ _ _) rfl ?_
 exact HF.out
theorem div_any (A C : Option Addr) (n c m d : Nat) (l k : List Nat) (w : World) (hn : l.length = n) (hc : n ≤ c) (hm : n ≤ 35184372088832) (h : RW w w.heap.size A l)
  (gn : k.length = m) (gc : m ≤ d) (gm : m ≤ 35184372088832) (g : RW w w.heap.size C k) :
  Cp 341 #[.slice A n c, .slice C m d] w (DivT (divQ (val l) (val k)) (divR (val l) (val k)) (divK (val l) (val k)) w) := by
 cases hl : (lngB (val l) || lngB (val k))
 ·rcases Nat.eq_zero_or_pos (val k) with h0 | h0
  ·exact div_zero A C n c m d l k w hn hc hm h gn gc gm g hl h0
  ·have hp : 0 < (nrm k).length := List.length_pos_iff.2 (fun e => by rw [← val_nrm, e] at h0; simp [val] at h0)
   rcases Nat.lt_or_ge (nrm l).length (nrm k).length with h1 | h1
   ·exact div_small A C n c m d l k w hn hc hm h gn gc gm g hl h1
   ·by_cases h2 : (nrm k).length = 1
    ·exact div_word A C n c m d l k w hn hc hm h gn gc gm g hl h1 h2
    ·exact div_many A C n c m d l k w hn hc hm h gn gc gm g hl h1 (by omega)
 ·exact div_long A C n c m d l k w hn hc hm h gn gc gm g hl

open Go.RowKit
theorem NatPost.err {v : Nat} {w w' : World} {e : Ending} (h : NatPost v w e w') (hl : lngB v = true) : e = .returned (.tuple #[.slice none 0 0, .int .i64 3]) ∧ Below w.heap.size w w' := by
 obtain ⟨A, n, c, k, h1, h2, h3⟩ := h
 rw [if_pos hl] at h2
 obtain ⟨rfl, rfl, rfl, rfl⟩ := h2
 exact ⟨h1, h3⟩
theorem bit_test (n i : Nat) (hn : n < 9223372036854775808) : bits BinOp.and IntKind.i64 ((n : Int) / 2 ^ i) 1 = ((n / 2 ^ i % 2 : Nat) : Int) := by
 have h1 : n / 2 ^ i ≤ n := Nat.div_le_self _ _
 have e : ((n : Int) / 2 ^ i) = ((n / 2 ^ i : Nat) : Int) := by rw [Int.natCast_ediv, Int.natCast_pow]; rfl
 rw [e]
 obtain ⟨m, hm⟩ : ∃ m, n / 2 ^ i = m := ⟨_, rfl⟩
 rw [hm] at h1 ⊢
 show IntKind.i64.wrap ((BitVec.ofInt 64 (m : Int) &&& BitVec.ofInt 64 1).toNat : Int) = _
 have e1 : (BitVec.ofInt 64 1).toNat = 1 := by decide
 have e2 : (BitVec.ofInt 64 (m : Int)).toNat = m := by
  rw [BitVec.ofInt_natCast, BitVec.toNat_ofNat]; exact Nat.mod_eq_of_lt (by omega)
 rw [BitVec.toNat_and, e1, e2, Nat.and_one_is_mod, IntKind.wrap_i64]
 omega
theorem pow_any (b n : Nat) (w : World) (hb : b < 4294967296) (hn : n < 9223372036854775808) :
  Cp 337 #[.int .u32 b, .int .i64 n] w (NatPost (b ^ n) w) := by
 obtain ⟨F, hF⟩ : ∃ F, (wds b).length = F := ⟨_, rfl⟩
 obtain ⟨O, hO⟩ : ∃ O, (wds 1).length = O := ⟨_, rfl⟩
 have K1 := Lib.hid (fun W => show Cp 304 #[.int .u64 b] W (Told (wds b) F W) from by
  have := (of_any b (by omega) W).mono fun _ _ y => y.told (n := F) (by rw [two_wds b (by omega)]; exact hF)
  rw [two_wds b (by omega)] at this; exact this)
 have K2 := Lib.hid (fun W => show Cp 304 #[.int .u64 1] W (Told (wds 1) O W) from by
  have := (of_any 1 (by omega) W).mono fun _ _ y => y.told (n := O) (by rw [two_wds 1 (by omega)]; exact hO)
  rw [two_wds 1 (by omega)] at this; exact this)
 have hbl := Lib.bitLen_le n 64 (by omega) (by omega)
 have c3 := fun W => (Tryz.bits_Len (n : Int) W (by omega) (by omega)).mono fun _ _ (h : _ ∧ _ = W) => And.intro h.1 h.2.symm
 rw [Int.toNat_natCast] at c3
 obtain ⟨q0, hq0⟩ : ∃ q0, Lib.bitLen n = q0 := ⟨_, rfl⟩
 rw [hq0] at c3 hbl
 have hz : n / 2 ^ q0 = 0 := by
  rw [← hq0]
  rcases Nat.eq_zero_or_pos n with h0 | h0
  ·rw [h0]; exact Nat.zero_div _
  ·exact Nat.div_eq_of_lt (Lib.bitLenAux_bounds 64 n (by omega) (by omega)).2.2
 have HZ := Lib.hid (show b ^ (n / 2 ^ q0) = 1 by rw [hz]; rfl)
 have HF := Lib.hid hF
 have HO := Lib.hid hO
 have hF1 : F ≤ 2 := by rw [← hF, ← two_wds b (by omega)]; exact nrm_len _
 have k1 : IntKind.u64.wrap (b : Int) = (b : Int) := IntWalk.u64_in _ (by omega)
 have k2 : IntKind.u64.wrap (n : Int) = (n : Int) := IntWalk.u64_in _ (by omega)
 have HB := Lib.hid hb
 have HN := Lib.hid hn
 have n0 : (0 : Int) ≤ (n : Int) := by omega
 clear hb hn hF hO hq0 hz
 go_enter Tryz.func337, Tryz.ntmps337
 go_wp2_with fail
 refine (K1.out _).mono ?_
 rintro e w1 ⟨A1, c1, rfl, ⟨hc1, r1⟩, b1⟩
 go_wp2_with fail
 refine (K2.out _).mono ?_
 rintro e w2 ⟨A2, c2, rfl, ⟨hc2, r2⟩, b2⟩
 go_wp2_with fail
 refine (c3 _).mono ?_
 rintro e w' ⟨rfl, rfl⟩
 have HR1 := Lib.hid (r1.step b2)
 have HR2 := Lib.hid r2
 have HB2 := Lib.hid (below_le b1 b2)
 clear r1 r2 b1 b2 c3
 go_wp2
 go_loopw [7, 8] (fun v i wr => ∃ (q : Nat) (A : Option Addr) (N c : Nat), v = .slice A N c ∧ i = .int .i64 ((q : Int) - 1) ∧ q ≤ 64 ∧ Hid ((wds (b ^ (n / 2 ^ q))).length = N) ∧ N ≤ c ∧ Hid (RW wr wr.heap.size A (wds (b ^ (n / 2 ^ q)))) ∧ Hid (lngB (b ^ (n / 2 ^ q)) = false) ∧ Below w2.heap.size w2 wr) (fun _ i _ => (intOf i + 1).toNat)
 case atStart => exact ⟨q0, A2, O, c2, rfl, rfl, hbl, Lib.hid (by rw [HZ.out]; exact HO.out), hc2, Lib.hid (by rw [HZ.out]; exact HR2.out), Lib.hid (by rw [HZ.out]; exact lng_small (by omega)), Below.refl _ _⟩
 case round =>
  obtain ⟨q, A, N, c, rfl, rfl, hq, HNq, hNc, HR, HL, hbw⟩ := hrel
  by_cases h0 : q = 0
  ·subst h0
   have HE := Lib.hid (show b ^ (n / 2 ^ 0) = b ^ n by rw [Nat.pow_zero, Nat.div_one])
   have HX := Lib.hid (NatPost.ok (w := w) HL.out HNq.out.symm hNc HR.out (below_le HB2.out hbw))
   go_wp2
   go_ret2
   rw [← HE.out]
   exact HX.out
  ·obtain ⟨i, rfl⟩ : ∃ i, q = i + 1 := ⟨q - 1, by omega⟩
   have hNl := lng_le HL.out
   rw [HNq.out] at hNl
   have C1 := Lib.hid (mul_ok A A N c N c (wds (b ^ (n / 2 ^ (i + 1)))) (wds (b ^ (n / 2 ^ (i + 1)))) wr HNq.out hNc (by omega) HR.out HNq.out hNc (by omega) HR.out (by rw [wds_val, HL.out]; rfl))
   rw [wds_val] at C1
   clear h0
   cases hsq : lngB (b ^ (n / 2 ^ (i + 1)) * b ^ (n / 2 ^ (i + 1)))
   ·obtain ⟨N3, hN3⟩ : ∃ N3, (wds (b ^ (n / 2 ^ (i + 1)) * b ^ (n / 2 ^ (i + 1)))).length = N3 := ⟨_, rfl⟩
    have C2 := Lib.hid (C1.out.mono fun _ _ x => x.one hsq hN3)
    have hi1 : (i : Int) ≤ 63 := by omega
    have hbt := bit_test n i HN.out
    have hhalf := half_pow b n i
    have hbit : n / 2 ^ i % 2 = 0 ∨ n / 2 ^ i % 2 = 1 := by omega
    rcases hbit with hbit | hbit
    ·rw [hbit, Nat.pow_zero, Nat.mul_one] at hhalf
     rw [hhalf] at C2 hsq hN3
     have hT : (bits BinOp.and IntKind.i64 ((n : Int) / 2 ^ i) 1 == 1) = false := by rw [hbt, hbit]; rfl
     have HN3 := Lib.hid hN3
     have HSQ := Lib.hid hsq
     clear hbit hbt hhalf hN3 hsq C1 hNl
     go_wp2_with fail
     refine C2.out.mono ?_
     rintro e w3 ⟨A3, c3, rfl, ⟨hc3, r3⟩, b3⟩
     have HR3 := Lib.hid r3
     have HB3 := Lib.hid (below_le hbw b3)
     clear r3 b3 C2
     go_wp2
     go_roundw
     case rel => exact ⟨i, A3, N3, c3, rfl, by go_num, by omega, HN3, hc3, HR3, HSQ, HB3.out⟩
     case measure => simp [intOf]
    ·rw [hbit, Nat.pow_one] at hhalf
     have hT : (bits BinOp.and IntKind.i64 ((n : Int) / 2 ^ i) 1 == 1) = true := by rw [hbt, hbit]; rfl
     have hN3l := lng_le hsq
     rw [hN3] at hN3l
     have C4 := Lib.hid (fun W A5 c5 (h5 : N3 ≤ c5) (r5 : RW W W.heap.size A5 (wds (b ^ (n / 2 ^ (i + 1)) * b ^ (n / 2 ^ (i + 1))))) (r6 : RW W W.heap.size A1 (wds b)) =>
      show Cp 338 #[.slice A5 N3 c5, .slice A1 F c1] W (NatPost (b ^ (n / 2 ^ i)) W) from by
       have := mul_ok A5 A1 N3 c5 F c1 _ _ W hN3 h5 (by omega) r5 HF.out hc1 (by omega) r6 (by rw [wds_val, wds_val, hsq, lng_small HB.out]; rfl)
       rw [wds_val, wds_val, hhalf] at this
       exact this)
     clear hbit hbt hhalf hN3 hsq C1 hNl hN3l
     cases hmu : lngB (b ^ (n / 2 ^ i))
     ·obtain ⟨N4, hN4⟩ : ∃ N4, (wds (b ^ (n / 2 ^ i))).length = N4 := ⟨_, rfl⟩
      have HN4 := Lib.hid hN4
      have HMU := Lib.hid hmu
      clear hN4 hmu
      go_wp2_with fail
      refine C2.out.mono ?_
      rintro e w3 ⟨A3, c3, rfl, ⟨hc3, r3⟩, b3⟩
      have D4 := Lib.hid ((C4.out w3 A3 c3 hc3 r3 ((HR1.out.step hbw).step b3)).mono fun _ _ x => x.one HMU.out HN4.out)
      have hbw3 := below_le hbw b3
      clear r3 b3 C2 C4
      go_wp2_with fail
      refine D4.out.mono ?_
      rintro e w4 ⟨A4, c4, rfl, ⟨hc4, r4⟩, b4⟩
      have HR4 := Lib.hid r4
      have HB4 := Lib.hid (below_le hbw3 b4)
      clear r4 b4 D4
      go_wp2
      go_roundw
      case rel => exact ⟨i, A4, N4, c4, rfl, by go_num, by omega, HN4, hc4, HR4, HMU, HB4.out⟩
      case measure => simp [intOf]
     ·have HMU := Lib.hid hmu
      have HLN := Lib.hid (pow_le b _ n (Nat.div_le_self n (2 ^ i)) hmu)
      clear hmu
      go_wp2_with fail
      refine C2.out.mono ?_
      rintro e w3 ⟨A3, c3, rfl, ⟨hc3, r3⟩, b3⟩
      have D4 := Lib.hid ((C4.out w3 A3 c3 hc3 r3 ((HR1.out.step hbw).step b3)).mono fun _ _ x => x.err HMU.out)
      have hbw3 := below_le hbw b3
      clear r3 b3 C2 C4
      go_wp2_with fail
      refine D4.out.mono ?_
      rintro e w4 ⟨rfl, b4⟩
      have HB4 := Lib.hid (below_le HB2.out (below_le hbw3 b4))
      clear b4 D4
      go_wp2
      go_ret2
      exact NatPost.long HLN.out HB4.out
   ·have HSQ := Lib.hid hsq
    have HLN := Lib.hid (show lngB (b ^ n) = true by rw [sq_pow] at hsq; exact pow_le b _ n (sq_le n i) hsq)
    have C2 := Lib.hid (C1.out.mono fun _ _ x => x.err hsq)
    clear hsq hNl C1
    go_wp2_with fail
    refine C2.out.mono ?_
    rintro e w3 ⟨rfl, b3⟩
    have HB3 := Lib.hid (below_le HB2.out (below_le hbw b3))
    clear b3 C2
    go_wp2
    go_ret2
    exact NatPost.long HLN.out HB3.out

open Go.RowKit
end
end Go.Proofs.YtmimeejjaneedaaGreatDoor
