/-
  Contract of addTimes: a list of words times a word, added to a part of a row. Contract of addTimes, once more: nothing but its row changes.
-/
import Derived.Test.YtlabblkonkhmgaaDoorRow
namespace Go.Proofs.YtlabblkonkhmgaaDoor
open Go.RowKit
/-- What stands in a row when k words of b times x were added from o on, q to be carried. -/
structure AddT (R : List Nat) (o : Nat) (b : List Nat) (x : Nat) (k : Nat) (S : List Nat) (q : Nat) : Prop where
  len : S.length = R.length
  ws : Ws S
  far : ∀ j, j < o ∨ o + k ≤ j → S.getD j 0 = R.getD j 0
  sum : val ((S.drop o).take k) + 4294967296 ^ k * q = val ((R.drop o).take k) + x * val (b.take k)
  low : q < 4294967296
theorem AddT.start {R : List Nat} (o : Nat) (b : List Nat) (x : Nat) (hR : Ws R) : AddT R o b x 0 R 0 := ⟨rfl, hR, fun _ _ => rfl, by simp [val], by omega⟩
/-- What is at the place of the next word. -/
def addC (R : List Nat) (o : Nat) (b : List Nat) (x k q : Nat) : Nat := q + (b.getD k 0 * x + R.getD (o + k) 0)
theorem addC_lt {R : List Nat} {o : Nat} {b : List Nat} {x k q : Nat} (hR : Ws R) (hb : Ws b) (hx : x < 4294967296) (hq : q < 4294967296) :
    b.getD k 0 * x ≤ 18446744065119617025 ∧ b.getD k 0 * x + R.getD (o + k) 0 < 18446744073709551616 ∧ addC R o b x k q < 18446744073709551616 := by
  have h1 := hb.getD k
  have h2 := hR.getD (o + k)
  have h3 : b.getD k 0 * x ≤ 4294967295 * 4294967295 := Nat.mul_le_mul (by omega) (by omega)
  unfold addC
  omega
theorem AddT.next {R : List Nat} {o : Nat} {b : List Nat} {x k : Nat} {S : List Nat} {q : Nat} (h : AddT R o b x k S q) (hR : Ws R) (hb : Ws b) (hx : x < 4294967296) (hk : k < b.length) (ho : o + k < R.length) :
    S.getD (o + k) 0 = R.getD (o + k) 0 ∧ AddT R o b x (k + 1) (S.set (o + k) (addC R o b x k q % 4294967296)) (addC R o b x k q / 4294967296) := by
  obtain ⟨h1, h2, h3, h4, h5⟩ := h
  have hlt := (addC_lt (o := o) (k := k) hR hb hx h5).2.2
  obtain ⟨t, ht⟩ : ∃ t, addC R o b x k q = t := ⟨_, rfl⟩
  rw [ht] at hlt ⊢
  refine ⟨h3 _ (.inr (Nat.le_refl _)), by rw [List.length_set]; exact h1, h2.set (by omega), fun j hj => ?_, ?_, by omega⟩
  · rw [getD_set_ne (by omega), h3 j (by omega)]
  · rw [val_part_succ _ o k (by rw [List.length_set]; omega), val_part_succ R o k ho, val_take_succ b k hk, getD_set_eq (by omega)]
    rw [part_congr (l := S.set (o + k) (t % 4294967296)) (m := S) o k (by rw [List.length_set]; omega) (by omega) (fun j _ hj => getD_set_ne (by omega))]
    have e := step_words (4294967296 ^ k) t (val ((S.drop o).take k)) (val ((R.drop o).take k) + 4294967296 ^ k * R.getD (o + k) 0 + x * (val (b.take k) + 4294967296 ^ k * b.getD k 0)) (by
      rw [← ht]
      unfold addC
      grind)
    rw [Nat.pow_succ]
    exact e
def AddPost (g : Nat) (R : List Nat) (o : Nat) (b : List Nat) (x : Nat) (w : World) (e : Ending) (w' : World) : Prop :=
  ∃ S q, e = .returned (.int .u32 (q : Nat)) ∧ Row w' g S ∧ AddT R o b x b.length S q ∧ Below g w w'
set_option maxHeartbeats 2000000 in
theorem addTimes_any (g o n c : Nat) (R : List Nat) (A : Option Addr) (m d : Nat) (b : List Nat) (x B : Nat) (w : World) (hR : Row w g R) (hRw : Ws R) (ho : o + n ≤ R.length) (hmn : m ≤ n) (hbl : b.length = m)
    (hB : RW w B A b) (hgB : B ≤ g) (hx : x < 4294967296) (hm : R.length ≤ 35184372088832) :
    Calls Tryd.prog 57 #[.slice (some ⟨g, o, none⟩) n c, .slice A m d, .int .u32 x] w (AddPost g R o b x w) := by
  rcases Nat.eq_zero_or_pos m with h0 | h0
  · subst h0
    obtain rfl : b = [] := List.eq_nil_of_length_eq_zero hbl
    have HR := Lib.hid hR
    have HW := Lib.hid hRw
    clear hR hRw ho hmn hbl hB hgB hx hm
    go_enter Tryd.func57, Tryd.ntmps57
    go_wp2
    go_loop [12, 7] (fun i v => i = .int .i64 0 ∧ v = .int .u64 0) (fun _ _ => 0)
    case atStart => exact ⟨rfl, rfl⟩
    case round =>
      obtain ⟨rfl, rfl⟩ := hrel
      go_wp2
      go_ret
      exact ⟨R, 0, rfl, HR.out, AddT.start o [] x HW.out, Below.refl _ _⟩
  · obtain ⟨a, p, rfl, hab, hc⟩ := hB.2 (by omega)
    have HBW := Lib.hid hB.1
    have HRW := Lib.hid hRw
    have HBL := Lib.hid hbl
    have HC := Lib.hid hc
    have HX := Lib.hid hx
    have HR := Lib.hid hR
    have hm1 : (m : Int) ≤ (n : Int) := by omega
    have hn1 : (n : Int) ≤ 35184372088832 := by omega
    have HO := Lib.hid ho
    have hag : a < g := by omega
    have h0' : (0 : Int) ≤ (x : Int) := by omega
    clear hR hRw ho hmn hbl hB hx hm hc h0
    go_enter Tryd.func57, Tryd.ntmps57
    go_wp2
    go_loopw [12, 7] (fun i v wr => ∃ (k : Nat) (S : List Nat) (q : Nat), i = .int .i64 k ∧ v = .int .u64 (q : Nat) ∧ k ≤ m ∧ Hid (Row wr g S) ∧ Hid (AddT R o b x k S q) ∧ Below g w wr) (fun i _ _ => m - (intOf i).toNat)
    case atStart => exact ⟨0, R, 0, rfl, rfl, Nat.zero_le _, HR, Lib.hid (AddT.start o b x HRW.out), Below.refl _ _⟩
    case round =>
      obtain ⟨k, S, q, rfl, rfl, hk, HS, HT, hbw⟩ := hrel
      by_cases hlt : k < m
      · have hkb : k < b.length := by rw [HBL.out]; exact hlt
        have hok : o + k < R.length := by have := HO.out; omega
        obtain ⟨e1, hnext⟩ := HT.out.next HRW.out HBW.out HX.out hkb hok
        have hS := HS.out.cell (o + k) (by rw [HT.out.len]; exact hok)
        have hfz := HS.out.frozen (o + k)
        have hcl := HC.out k _ (getD_some hkb)
        rw [← hbw.cell (p := ⟨a, p + k, none⟩) hag] at hcl
        obtain ⟨l1, l2, l3⟩ := addC_lt (o := o) (k := k) (q := q) HRW.out HBW.out HX.out HT.out.low
        have hset := HS.out.set (o + k) (addC R o b x k q % 4294967296)
        have HE := Lib.hid (show addC R o b x k q = q + (b.getD k 0 * x + R.getD (o + k) 0) from rfl)
        have u1 := HBW.out.getD k
        have r1 := HRW.out.getD (o + k)
        have q1 := HT.out.low
        rw [e1] at hS
        obtain ⟨t, ht⟩ : ∃ t, addC R o b x k q = t := ⟨_, rfl⟩
        obtain ⟨u, hu⟩ : ∃ u, b.getD k 0 = u := ⟨_, rfl⟩
        obtain ⟨r, hr⟩ : ∃ r, R.getD (o + k) 0 = r := ⟨_, rfl⟩
        rw [ht, hu, hr] at HE
        rw [ht] at hnext hset l3
        rw [hu] at hcl l1 l2 u1
        rw [hr] at hS l2 r1
        have HNX := Lib.hid hnext
        have k1 : IntKind.u64.wrap (u : Int) = (u : Int) := IntWalk.u64_in _ (by omega)
        have k2 : IntKind.u64.wrap (x : Int) = (x : Int) := IntWalk.u64_in _ (by have := HX.out; omega)
        have k3 : IntKind.u64.wrap (r : Int) = (r : Int) := IntWalk.u64_in _ (by omega)
        have k4 : IntKind.u64.wrap ((u : Int) * (x : Int)) = (u : Int) * (x : Int) := IntWalk.u64_in _ (by
          have : ((u * x : Nat) : Int) = (u : Int) * (x : Int) := Int.natCast_mul u x
          omega)
        have k5 : IntKind.u64.wrap ((u : Int) * (x : Int) + (r : Int)) = (u : Int) * (x : Int) + (r : Int) := IntWalk.u64_in _ (by
          have : ((u * x : Nat) : Int) = (u : Int) * (x : Int) := Int.natCast_mul u x
          omega)
        have k6 : IntKind.u64.wrap ((q : Int) + ((u : Int) * (x : Int) + (r : Int))) = (t : Int) := by
          have : ((u * x : Nat) : Int) = (u : Int) * (x : Int) := Int.natCast_mul u x
          have := HE.out
          rw [IntWalk.u64_in _ (by omega)]
          omega
        clear e1 hnext l1 l2 l3 u1 r1 q1 ht hu hr hkb hok
        rw [show ((t % 4294967296 : Nat) : Int) = (t : Int) % 4294967296 by omega] at hset
        have HSET := Lib.hid hset
        clear hset
        go_wp2
        go_roundw
        case rel => exact ⟨k + 1, _, t / 4294967296, by go_num, by go_num, by omega, HSET, HNX, hbw.setCell (Nat.le_refl _) _⟩
        case measure => simp [intOf]; omega
      · have HZ := Lib.hid (show k = b.length by rw [HBL.out]; omega)
        have q1 := HT.out.low
        have k1 : IntKind.u32.wrap (q : Int) = (q : Int) := IntWalk.u32_in _ (by omega)
        have HT2 := Lib.hid (HZ.out ▸ HT.out : AddT R o b x b.length S q)
        clear q1
        go_wp2
        go_ret
        exact ⟨S, q, rfl, HS.out, HT2.out, hbw⟩
end Go.Proofs.YtlabblkonkhmgaaDoor
namespace Go.Proofs.YtlabblkonkhmgaaDoor
open Go.RowKit
/-- Nothing but block g has changed. -/
structure Only (g : Nat) (w w' : World) : Prop where
  below : Below g w w'
  far : ∀ k, k ≠ g → w'.heap[k]? = w.heap[k]?
theorem Only.refl (g : Nat) (w : World) : Only g w w := ⟨Below.refl _ _, fun _ _ => rfl⟩
theorem Only.trans {g : Nat} {a b c : World} (h : Only g a b) (k : Only g b c) : Only g a c := ⟨h.below.trans k.below, fun i hi => (k.far i hi).trans (h.far i hi)⟩
theorem Only.setCell {g i : Nat} {a w : World} (h : Only g a w) (u : Value) : Only g a (w.setCell ⟨g, i, none⟩ u) :=
  ⟨h.below.setCell (Nat.le_refl _) u, fun k hk => (Below.heap_setCell w ⟨g, i, none⟩ u k hk).trans (h.far k hk)⟩
theorem Only.drewN {g : Nat} {a w : World} (h : Only g a w) (n : Nat) : Only g a (w.drewN n) := ⟨below_drewN' h.below n, h.far⟩
theorem Row.only {w w' : World} {g k : Nat} {R : List Nat} (h : Row w k R) (hk : k ≠ g) (hb : Only g w w') : Row w' k R := (hb.far k hk).trans h
def AddPostO (g : Nat) (R : List Nat) (o : Nat) (b : List Nat) (x : Nat) (w : World) (e : Ending) (w' : World) : Prop :=
  ∃ S q, e = .returned (.int .u32 (q : Nat)) ∧ Row w' g S ∧ AddT R o b x b.length S q ∧ Only g w w'
set_option maxHeartbeats 2000000 in
theorem addTimes_only (g o n c : Nat) (R : List Nat) (A : Option Addr) (m d : Nat) (b : List Nat) (x B : Nat) (w : World) (hR : Row w g R) (hRw : Ws R) (ho : o + n ≤ R.length) (hmn : m ≤ n) (hbl : b.length = m)
    (hB : RW w B A b) (hgB : B ≤ g) (hx : x < 4294967296) (hm : R.length ≤ 35184372088832) :
    Calls Tryd.prog 57 #[.slice (some ⟨g, o, none⟩) n c, .slice A m d, .int .u32 x] w (AddPostO g R o b x w) := by
  rcases Nat.eq_zero_or_pos m with h0 | h0
  · subst h0
    obtain rfl : b = [] := List.eq_nil_of_length_eq_zero hbl
    have HR := Lib.hid hR
    have HW := Lib.hid hRw
    clear hR hRw ho hmn hbl hB hgB hx hm
    go_enter Tryd.func57, Tryd.ntmps57
    go_wp2
    go_loop [12, 7] (fun i v => i = .int .i64 0 ∧ v = .int .u64 0) (fun _ _ => 0)
    case atStart => exact ⟨rfl, rfl⟩
    case round =>
      obtain ⟨rfl, rfl⟩ := hrel
      go_wp2
      go_ret
      exact ⟨R, 0, rfl, HR.out, AddT.start o [] x HW.out, Only.refl _ _⟩
  · obtain ⟨a, p, rfl, hab, hc⟩ := hB.2 (by omega)
    have HBW := Lib.hid hB.1
    have HRW := Lib.hid hRw
    have HBL := Lib.hid hbl
    have HC := Lib.hid hc
    have HX := Lib.hid hx
    have HR := Lib.hid hR
    have hm1 : (m : Int) ≤ (n : Int) := by omega
    have hn1 : (n : Int) ≤ 35184372088832 := by omega
    have HO := Lib.hid ho
    have hag : a < g := by omega
    have h0' : (0 : Int) ≤ (x : Int) := by omega
    clear hR hRw ho hmn hbl hB hx hm hc h0
    go_enter Tryd.func57, Tryd.ntmps57
    go_wp2
    go_loopw [12, 7] (fun i v wr => ∃ (k : Nat) (S : List Nat) (q : Nat), i = .int .i64 k ∧ v = .int .u64 (q : Nat) ∧ k ≤ m ∧ Hid (Row wr g S) ∧ Hid (AddT R o b x k S q) ∧ Only g w wr) (fun i _ _ => m - (intOf i).toNat)
    case atStart => exact ⟨0, R, 0, rfl, rfl, Nat.zero_le _, HR, Lib.hid (AddT.start o b x HRW.out), Only.refl _ _⟩
    case round =>
      obtain ⟨k, S, q, rfl, rfl, hk, HS, HT, hbw⟩ := hrel
      by_cases hlt : k < m
      · have hkb : k < b.length := by rw [HBL.out]; exact hlt
        have hok : o + k < R.length := by have := HO.out; omega
        obtain ⟨e1, hnext⟩ := HT.out.next HRW.out HBW.out HX.out hkb hok
        have hS := HS.out.cell (o + k) (by rw [HT.out.len]; exact hok)
        have hfz := HS.out.frozen (o + k)
        have hcl := HC.out k _ (getD_some hkb)
        rw [← hbw.below.cell (p := ⟨a, p + k, none⟩) hag] at hcl
        obtain ⟨l1, l2, l3⟩ := addC_lt (o := o) (k := k) (q := q) HRW.out HBW.out HX.out HT.out.low
        have hset := HS.out.set (o + k) (addC R o b x k q % 4294967296)
        have HE := Lib.hid (show addC R o b x k q = q + (b.getD k 0 * x + R.getD (o + k) 0) from rfl)
        have u1 := HBW.out.getD k
        have r1 := HRW.out.getD (o + k)
        have q1 := HT.out.low
        rw [e1] at hS
        obtain ⟨t, ht⟩ : ∃ t, addC R o b x k q = t := ⟨_, rfl⟩
        obtain ⟨u, hu⟩ : ∃ u, b.getD k 0 = u := ⟨_, rfl⟩
        obtain ⟨r, hr⟩ : ∃ r, R.getD (o + k) 0 = r := ⟨_, rfl⟩
        rw [ht, hu, hr] at HE
        rw [ht] at hnext hset l3
        rw [hu] at hcl l1 l2 u1
        rw [hr] at hS l2 r1
        have HNX := Lib.hid hnext
        have k1 : IntKind.u64.wrap (u : Int) = (u : Int) := IntWalk.u64_in _ (by omega)
        have k2 : IntKind.u64.wrap (x : Int) = (x : Int) := IntWalk.u64_in _ (by have := HX.out; omega)
        have k3 : IntKind.u64.wrap (r : Int) = (r : Int) := IntWalk.u64_in _ (by omega)
        have k4 : IntKind.u64.wrap ((u : Int) * (x : Int)) = (u : Int) * (x : Int) := IntWalk.u64_in _ (by
          have : ((u * x : Nat) : Int) = (u : Int) * (x : Int) := Int.natCast_mul u x
          omega)
        have k5 : IntKind.u64.wrap ((u : Int) * (x : Int) + (r : Int)) = (u : Int) * (x : Int) + (r : Int) := IntWalk.u64_in _ (by
          have : ((u * x : Nat) : Int) = (u : Int) * (x : Int) := Int.natCast_mul u x
          omega)
        have k6 : IntKind.u64.wrap ((q : Int) + ((u : Int) * (x : Int) + (r : Int))) = (t : Int) := by
          have : ((u * x : Nat) : Int) = (u : Int) * (x : Int) := Int.natCast_mul u x
          have := HE.out
          rw [IntWalk.u64_in _ (by omega)]
          omega
        clear e1 hnext l1 l2 l3 u1 r1 q1 ht hu hr hkb hok
        rw [show ((t % 4294967296 : Nat) : Int) = (t : Int) % 4294967296 by omega] at hset
        have HSET := Lib.hid hset
        clear hset
        go_wp2
        go_roundw
        case rel => exact ⟨k + 1, _, t / 4294967296, by go_num, by go_num, by omega, HSET, HNX, hbw.setCell _⟩
        case measure => simp [intOf]; omega
      · have HZ := Lib.hid (show k = b.length by rw [HBL.out]; omega)
        have q1 := HT.out.low
        have k1 : IntKind.u32.wrap (q : Int) = (q : Int) := IntWalk.u32_in _ (by omega)
        have HT2 := Lib.hid (HZ.out ▸ HT.out : AddT R o b x b.length S q)
        clear q1
        go_wp2
        go_ret
        exact ⟨S, q, rfl, HS.out, HT2.out, hbw⟩
end Go.Proofs.YtlabblkonkhmgaaDoor
