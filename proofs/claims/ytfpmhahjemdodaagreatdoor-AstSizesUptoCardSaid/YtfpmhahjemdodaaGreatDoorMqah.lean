/-
  Size and Depth of any tree, of both sides. Size and Depth of both sides. The law AstSizes, given that awake tells true.
-/
import Derived.Test.YtfpmhahjemdodaaGreatDoorJ7
import Derived.Test.YtfpmhahjemdodaaGreatDoorMqag
import Derived.Deep.LoopGhost
import Derived.Deep.RegionHeld3
import Derived.Deep.WholeRow
import Derived.Laws.Rows
import Derived.Laws.Tables
import Derived.Laws.EntriesVeiled
namespace Go.Proofs.YtfpmhahjemdodaaGreatDoor
open Go.RowKit Go.Shelf
attribute [local go_sem] stFl hmf
theorem kid_in {t x : Tn} (h : x ∈ t.kids) : x.depth < t.depth := by
  have : ∀ l : List Tn, x ∈ l → x.depth ≤ Tr.depths l := by
    intro l
    induction l with
    | nil => intro h; simp at h
    | cons y l ih =>
      intro h
      rw [Tr.depths]
      rcases List.mem_cons.1 h with rfl | h
      · omega
      · have := ih h
        omega
  have h1 := this _ h
  rw [Tr.depth_eq t]
  omega
theorem sizes_take {l : List Tn} {i : Nat} {x : Tn} (h : l[i]? = some x) : Tr.sizes (l.take (i + 1)) = Tr.sizes (l.take i) + x.size := by
  rw [List.take_add_one, h, Tr.sizes_append]
  simp [Tr.sizes]
theorem sizes_part (l : List Tn) (i : Nat) : Tr.sizes (l.take i) ≤ Tr.sizes l := by
  conv => rhs; rw [← List.take_append_drop i l, Tr.sizes_append]
  omega
theorem depths_take {l : List Tn} {i : Nat} {x : Tn} (h : l[i]? = some x) : Tr.depths (l.take (i + 1)) = max (Tr.depths (l.take i)) x.depth := by
  rw [List.take_add_one, h, Tr.depths_append]
  simp [Tr.depths]
theorem le_small {n : Nat} (hn : n ≤ 1048576) : decide ((n : Int) ≤ 1048576) = true := by simp; omega
theorem wrap_in {n : Nat} (h : n ≤ 4398046511104) : wrap64 ((n : Int) + 1) = ((n + 1 : Nat) : Int) := by
  unfold wrap64
  omega
set_option maxRecDepth 100000 in
set_option maxHeartbeats 2000000 in
theorem counted_of (x : Tn) (A : Option Addr) (c h : Nat) (pb : Nat → Prop) (W : World) (hA : AtS pb W x.kids (.slice A x.kids.length c)) (hh : h + x.size ≤ 1048576)
    (hI : ∀ (y : Tn) (A : Option Addr) (c h : Nat) (W : World), y ∈ x.kids → AtS pb W y.kids (.slice A y.kids.length c) → h + y.size ≤ 1048576 → Calls Tryz.prog 10 #[nodA y.datum A y.kids.length c, .int .i64 (h : Nat)] W fun e w' => e = .returned (.int .i64 ((h + y.size : Nat) : Int)) ∧ Below W.heap.size W w') :
    Calls Tryz.prog 10 #[nodA x.datum A x.kids.length c, .int .i64 (h : Nat)] W fun e w' => e = .returned (.int .i64 ((h + x.size : Nat) : Int)) ∧ Below W.heap.size W w' := by
  obtain ⟨_, _, e1, hmx, -⟩ := id hA
  cases e1
  have hmx := hmx.1
  obtain ⟨W1, hW1⟩ : ∃ W1, boxN W x.datum A x.kids.length c = W1 := ⟨_, rfl⟩
  have bW : Below W.heap.size W W1 := by rw [← hW1]; exact b1 _
  have s5 : W1.cell? ⟨W.heap.size, 5, none⟩ = some (.slice A x.kids.length c) := by rw [← hW1]; simp
  have S5 := Lib.hid s5
  have HA := Lib.hid (hA.keep (W' := W1) (fun b _ hl => bW.block b hl))
  have IH := Lib.hid hI
  have HW := Lib.hid bW
  have B1 := Lib.hid (Below.refl W1.heap.size W1)
  have hsz := Tr.size_eq x
  have HZ := Lib.hid hsz
  have HH := Lib.hid hh
  have hw0 := wrap_in (n := h) (by omega)
  clear hA hI
  unfold nodA
  go_enter Tryz.func10, Tryz.ntmps10
  go_wp2
  clear hW1 bW
  go_loopw [5, 1] (fun i n wr => ∃ i0 n0 : Nat, i = .int .i64 i0 ∧ n = .int .i64 (n0 : Nat) ∧ i0 ≤ x.kids.length ∧ Hid (n0 = h + 1 + Tr.sizes (x.kids.take i0)) ∧ Hid (Below W1.heap.size W1 wr)) (fun i _ _ => x.kids.length - (intOf i).toNat)
  case atStart => exact ⟨0, h + 1, rfl, by first | rfl | rw [hw0] | simp, Nat.zero_le _, Lib.hid (by simp [Tr.sizes]), B1⟩
  case round =>
    obtain ⟨i0, n0, rfl, rfl, hi0, hQ, hB⟩ := hrel
    have t5 := cell_kept S5.out hB.out
    clear s5
    have hq := hQ.out
    have hp := sizes_part x.kids i0
    have hle : ((n0 : Nat) : Int) ≤ 1048576 := by omega
    by_cases hi : i0 < x.kids.length
    · obtain ⟨y, hy⟩ : ∃ y, x.kids[i0]? = some y := ⟨_, List.getElem?_eq_getElem hi⟩
      have hA1 := HA.out.keep (W' := wr) (fun b _ hl => hB.out.block b hl)
      obtain ⟨b, oo, s6, e1, -, -, hr, hk6⟩ := hA1.nth hy
      obtain ⟨A2, c2, rfl, hm6, hn6⟩ := hk6
      cases e1
      have m0 : wr.cell? ⟨b, oo + i0 * 7, none⟩ = some (.int .i64 y.datum.k) := hr 0 _ rfl
      have m1 := hr 1 _ rfl
      have m2 := hr 2 _ rfl
      have m3 := hr 3 _ rfl
      have m4 := hr 4 _ rfl
      have m5 := hr 5 _ rfl
      have m6 := hr 6 _ rfl
      have hwj := wrap_succ (j := i0) (by unfold maxLen at hmx ⊢; omega)
      have hst := sizes_take hy
      have hp1 := sizes_part x.kids (i0 + 1)
      have C2 := Lib.hid (IH.out y A2 c2 n0 wr (List.mem_of_getElem? hy) ⟨A2, c2, rfl, hm6, hn6⟩ (by omega))
      have HN := Lib.hid (show n0 + y.size = h + 1 + Tr.sizes (x.kids.take (i0 + 1)) by omega)
      clear hr hn6 hy hA1 hm6 hst hp1 hp hq hsz
      unfold nodA at C2
      go_wp2_with fail
      refine C2.out.mono ?_
      rintro e w2 ⟨rfl, b2⟩
      have hb2 := Lib.hid (hB.out.trans (b2.mono hB.out.size))
      clear b2 m0 m1 m2 m3 m4 m5 m6 t5
      go_wp2
      refine ⟨⟨i0 + 1, _, congrArg _ hwj, rfl, hi, HN, hb2⟩, ?_⟩
      rw [hwj]
      exact meas_dec hi
    · have hi1 : i0 = x.kids.length := by omega
      have hfin : n0 = h + x.size := by rw [hq, HZ.out, hi1, List.take_length]; omega
      subst hfin
      go_wp2
      go_ret
      exact ⟨rfl, HW.out.trans (hB.out.mono HW.out.size)⟩
set_option maxRecDepth 100000 in
set_option maxHeartbeats 2000000 in
theorem depth_of (x : Tn) (A : Option Addr) (c : Nat) (pb : Nat → Prop) (W : World) (hA : AtS pb W x.kids (.slice A x.kids.length c)) (hh : x.size ≤ 1048576)
    (hI : ∀ (y : Tn) (A : Option Addr) (c : Nat) (W : World), y ∈ x.kids → AtS pb W y.kids (.slice A y.kids.length c) → y.size ≤ 1048576 → Calls Tryz.prog 11 #[nodA y.datum A y.kids.length c] W fun e w' => e = .returned (.int .i64 ((y.depth : Nat) : Int)) ∧ Below W.heap.size W w') :
    Calls Tryz.prog 11 #[nodA x.datum A x.kids.length c] W fun e w' => e = .returned (.int .i64 ((x.depth : Nat) : Int)) ∧ Below W.heap.size W w' := by
  obtain ⟨_, _, e1, hmx, -⟩ := id hA
  cases e1
  have hmx := hmx.1
  obtain ⟨W1, hW1⟩ : ∃ W1, boxN W x.datum A x.kids.length c = W1 := ⟨_, rfl⟩
  have bW : Below W.heap.size W W1 := by rw [← hW1]; exact b1 _
  have s5 : W1.cell? ⟨W.heap.size, 5, none⟩ = some (.slice A x.kids.length c) := by rw [← hW1]; simp
  have S5 := Lib.hid s5
  have HA := Lib.hid (hA.keep (W' := W1) (fun b _ hl => bW.block b hl))
  have IH := Lib.hid hI
  have HW := Lib.hid bW
  have B1 := Lib.hid (Below.refl W1.heap.size W1)
  have hsz := Tr.size_eq x
  have hdp := Tr.depth_eq x
  have hds := depths_le x.kids
  have HD := Lib.hid hdp
  have HS := Lib.hid (show Tr.sizes x.kids ≤ 1048576 by omega)
  have hq1 := wrap_in (n := Tr.depths x.kids) (by omega)
  have HQ1 := Lib.hid hq1
  clear hA hI hsz hdp hds hh hq1
  unfold nodA
  go_enter Tryz.func11, Tryz.ntmps11
  go_wp2
  clear hW1 bW
  go_loopw [4, 3] (fun i n wr => ∃ i0 n0 : Nat, i = .int .i64 i0 ∧ n = .int .i64 (n0 : Nat) ∧ i0 ≤ x.kids.length ∧ Hid (n0 = Tr.depths (x.kids.take i0)) ∧ Hid (Below W1.heap.size W1 wr)) (fun i _ _ => x.kids.length - (intOf i).toNat)
  case atStart => exact ⟨0, 0, rfl, rfl, Nat.zero_le _, Lib.hid (by simp [Tr.depths]), B1⟩
  case round =>
    obtain ⟨i0, n0, rfl, rfl, hi0, hQ, hB⟩ := hrel
    have t5 := cell_kept S5.out hB.out
    clear s5
    by_cases hi : i0 < x.kids.length
    · obtain ⟨y, hy⟩ : ∃ y, x.kids[i0]? = some y := ⟨_, List.getElem?_eq_getElem hi⟩
      have hA1 := HA.out.keep (W' := wr) (fun b _ hl => hB.out.block b hl)
      obtain ⟨b, oo, s6, e1, -, -, hr, hk6⟩ := hA1.nth hy
      obtain ⟨A2, c2, rfl, hm6, hn6⟩ := hk6
      cases e1
      have m0 : wr.cell? ⟨b, oo + i0 * 7, none⟩ = some (.int .i64 y.datum.k) := hr 0 _ rfl
      have m1 := hr 1 _ rfl
      have m2 := hr 2 _ rfl
      have m3 := hr 3 _ rfl
      have m4 := hr 4 _ rfl
      have m5 := hr 5 _ rfl
      have m6 := hr 6 _ rfl
      have hwj := wrap_succ (j := i0) (by unfold maxLen at hmx ⊢; omega)
      have hst := sizes_take hy
      have hp1 := sizes_part x.kids (i0 + 1)
      have hss := HS.out
      have C2 := Lib.hid (IH.out y A2 c2 wr (List.mem_of_getElem? hy) ⟨A2, c2, rfl, hm6, hn6⟩ (by omega))
      have HDT := Lib.hid (depths_take hy)
      have HWJ := Lib.hid hwj
      clear hr hn6 hy hA1 hm6 hst hp1 hss hwj
      obtain ⟨m, hm⟩ : ∃ m, y.depth = m := ⟨_, rfl⟩
      have HM := Lib.hid hm
      unfold nodA at C2
      rw [hm] at C2
      clear hm
      go_wp2_with fail
      refine C2.out.mono ?_
      rintro e w2 ⟨rfl, b2⟩
      have hb2 := Lib.hid (hB.out.trans (b2.mono hB.out.size))
      clear b2 m0 m1 m2 m3 m4 m5 m6 t5
      by_cases hgt : n0 < m
      · have h1 : decide (((m : Nat) : Int) > ((n0 : Nat) : Int)) = true := by simp; omega
        go_wp2
        refine ⟨⟨i0 + 1, m, congrArg _ HWJ.out, rfl, hi, Lib.hid ?_, hb2⟩, ?_⟩
        · rw [HDT.out, ← hQ.out, HM.out]; omega
        · rw [HWJ.out]
          exact meas_dec hi
      · have h1 : decide (((m : Nat) : Int) > ((n0 : Nat) : Int)) = false := by simp; omega
        go_wp2
        refine ⟨⟨i0 + 1, n0, congrArg _ HWJ.out, rfl, hi, Lib.hid ?_, hb2⟩, ?_⟩
        · rw [HDT.out, ← hQ.out, HM.out]; omega
        · rw [HWJ.out]
          exact meas_dec hi
    · have hi1 : i0 = x.kids.length := by omega
      have hq := hQ.out
      rw [hi1, List.take_length] at hq
      subst hq
      have hq1 := HQ1.out
      have hd := HD.out
      go_wp2
      go_ret
      refine ⟨?_, HW.out.trans (hB.out.mono HW.out.size)⟩
      first | rfl | (rw [hd]; rfl) | (rw [hd, hq1]; rfl)
theorem counted_any : ∀ (n : Nat) (x : Tn) (A : Option Addr) (c h : Nat) (pb : Nat → Prop) (W : World), x.depth ≤ n → AtS pb W x.kids (.slice A x.kids.length c) → h + x.size ≤ 1048576 →
    Calls Tryz.prog 10 #[nodA x.datum A x.kids.length c, .int .i64 (h : Nat)] W fun e w' => e = .returned (.int .i64 ((h + x.size : Nat) : Int)) ∧ Below W.heap.size W w'
  | 0, x, _, _, _, _, _, hd, _, _ => absurd (Tr.depth_pos x) (by omega)
  | n + 1, x, A, c, h, pb, W, hd, hA, hh => counted_of x A c h pb W hA hh fun y A c h W hy hA hh => counted_any n y A c h pb W (by have := kid_in hy; omega) hA hh
theorem depth_any : ∀ (n : Nat) (x : Tn) (A : Option Addr) (c : Nat) (pb : Nat → Prop) (W : World), x.depth ≤ n → AtS pb W x.kids (.slice A x.kids.length c) → x.size ≤ 1048576 →
    Calls Tryz.prog 11 #[nodA x.datum A x.kids.length c] W fun e w' => e = .returned (.int .i64 ((x.depth : Nat) : Int)) ∧ Below W.heap.size W w'
  | 0, x, _, _, _, _, hd, _, _ => absurd (Tr.depth_pos x) (by omega)
  | n + 1, x, A, c, pb, W, hd, hA, hh => depth_of x A c pb W hA hh fun y A c W hy hA hh => depth_any n y A c pb W (by have := kid_in hy; omega) hA hh

set_option maxRecDepth 100000 in
set_option maxHeartbeats 2000000 in
theorem wsize_any (x : Tn) (A : Option Addr) (c : Nat) (W : World) (hA : AtS (fun b => b < W.heap.size) W x.kids (.slice A x.kids.length c)) (hh : x.size ≤ 1048576) :
    Calls Tryz.prog 5 #[nodA x.datum A x.kids.length c] W fun e w' => e = .returned (.int .i64 ((x.size : Nat) : Int)) ∧ Below W.heap.size W w' := by
  have HB := Lib.hid (fun X : Obj => b1 (w := W) X)
  have HA := Lib.hid (fun X : Obj => (hA.keep (fun b _ hl => (b1 (w := W) X).block b hl)).imp (fun b hb => Nat.lt_of_lt_of_le hb (b1 (w := W) X).size))
  have C1 := Lib.hid ((fun X => counted_any x.depth x A c 0 _ (W.alloc X) (Nat.le_refl _) (HA.out X) (by omega)))
  have hle : ¬ (1048576 : Int) < ((x.size : Nat) : Int) := by omega
  have hpo := Tr.size_pos x
  clear hA
  unfold nodA at *
  go_enter Tryz.func5, Tryz.ntmps5
  go_wp2_with fail
  refine (C1.out _).mono ?_
  rintro e w2 ⟨rfl, b2⟩
  have HB2 := Lib.hid ((HB.out _).trans (b2.mono (HB.out _).size))
  clear b2 C1 HB
  go_wp2
  go_ret
  exact ⟨rfl, HB2.out⟩
end Go.Proofs.YtfpmhahjemdodaaGreatDoor
namespace Go.Proofs.YtfpmhahjemdodaaGreatDoor
open Go.RowKit Go.Shelf
attribute [local go_sem] stFl hmf
theorem at_of {p : Nat → Prop} {W : World} {x : Tn} {s : Value} (h : AtS p W x.kids s) : At p W x (celN x.datum s) := by
  cases x
  exact at_node.2 ⟨_, rfl, h⟩

set_option maxRecDepth 100000 in
set_option maxHeartbeats 2000000 in
theorem asize_any (x : Tn) (A : Option Addr) (c : Nat) (W : World) (hA : AtS (fun b => b < W.heap.size) W x.kids (.slice A x.kids.length c)) (hh : x.size ≤ 1048576) :
    Calls Tryz.prog 4 #[nodA x.datum A x.kids.length c] W fun e w' => e = .returned (.int .i64 ((x.size : Nat) : Int)) ∧ Below W.heap.size W w' := by
  have HB := Lib.hid (fun X : Obj => b1 (w := W) X)
  have HA := Lib.hid (fun X : Obj => (hA.keep (fun b _ hl => (b1 (w := W) X).block b hl)).imp (fun b hb => Nat.lt_of_lt_of_le hb (b1 (w := W) X).size))
  have C1 := Lib.hid ((fun X => measure_any x (celN x.datum (.slice A x.kids.length c)) (W.alloc X) (at_of (HA.out X)) (by omega)))
  have hle : ¬ (1048576 : Int) < ((x.size : Nat) : Int) := by omega
  have hpo := Tr.size_pos x
  clear hA
  unfold nodA at *
  go_enter Tryz.func4, Tryz.ntmps4
  go_wp2_with fail
  refine (C1.out _).mono ?_
  rintro e w2 ⟨rfl, b2⟩
  rw [if_neg (show ¬ 1048576 < x.size by omega)]
  have HB2 := Lib.hid ((HB.out _).trans (b2.mono (HB.out _).size))
  clear b2 C1 HB
  go_wp2
  go_ret
  exact ⟨rfl, HB2.out⟩

set_option maxRecDepth 100000 in
set_option maxHeartbeats 2000000 in
theorem adep_any (x : Tn) (A : Option Addr) (c : Nat) (W : World) (hA : AtS (fun b => b < W.heap.size) W x.kids (.slice A x.kids.length c)) (hh : x.size ≤ 1048576) :
    Calls Tryz.prog 6 #[nodA x.datum A x.kids.length c] W fun e w' => e = .returned (.int .i64 ((x.depth : Nat) : Int)) ∧ Below W.heap.size W w' := by
  have HB := Lib.hid (fun X : Obj => b1 (w := W) X)
  have HA := Lib.hid (fun X : Obj => (hA.keep (fun b _ hl => (b1 (w := W) X).block b hl)).imp (fun b hb => Nat.lt_of_lt_of_le hb (b1 (w := W) X).size))
  have C1 := Lib.hid ((fun X => measure_any x (celN x.datum (.slice A x.kids.length c)) (W.alloc X) (at_of (HA.out X)) (by omega)))
  have hle : ¬ (1048576 : Int) < ((x.size : Nat) : Int) := by omega
  have hpo := Tr.size_pos x
  clear hA
  unfold nodA at *
  go_enter Tryz.func6, Tryz.ntmps6
  go_wp2_with fail
  refine (C1.out _).mono ?_
  rintro e w2 ⟨rfl, b2⟩
  rw [if_neg (show ¬ 1048576 < x.size by omega)]
  have HB2 := Lib.hid ((HB.out _).trans (b2.mono (HB.out _).size))
  clear b2 C1 HB
  go_wp2
  go_ret
  exact ⟨rfl, HB2.out⟩

set_option maxRecDepth 100000 in
set_option maxHeartbeats 2000000 in
theorem wdep_any (x : Tn) (A : Option Addr) (c : Nat) (W : World) (hA : AtS (fun b => b < W.heap.size) W x.kids (.slice A x.kids.length c)) (hh : x.size ≤ 1048576) :
    Calls Tryz.prog 7 #[nodA x.datum A x.kids.length c] W fun e w' => e = .returned (.int .i64 ((x.depth : Nat) : Int)) ∧ Below W.heap.size W w' := by
  have HB := Lib.hid (fun X : Obj => b1 (w := W) X)
  have HA := Lib.hid (fun X : Obj => (hA.keep (fun b _ hl => (b1 (w := W) X).block b hl)).imp (fun b hb => Nat.lt_of_lt_of_le hb (b1 (w := W) X).size))
  have C1 := Lib.hid ((fun X => wsize_any x A c (W.alloc X) (HA.out X) hh))
  have hle : ¬ (1048576 : Int) < ((x.size : Nat) : Int) := by omega
  have hpo := Tr.size_pos x
  clear hA
  unfold nodA at *
  go_enter Tryz.func7, Tryz.ntmps7
  go_wp2_with fail
  refine (C1.out _).mono ?_
  rintro e w2 ⟨rfl, b2⟩
  have HB2 := Lib.hid ((HB.out _).trans (b2.mono (HB.out _).size))
  have hne : (((x.size : Nat) : Int) == 0) = false := by simp; omega
  have k := b2.block W.heap.size (by simp)
  rw [heap_alloc_last W _] at k
  have k0 := (cell_of_row w2 W.heap.size 0 _ _ _ k).trans rfl
  have k1 := (cell_of_row w2 W.heap.size 1 _ _ _ k).trans rfl
  have k2 := (cell_of_row w2 W.heap.size 2 _ _ _ k).trans rfl
  have k3 := (cell_of_row w2 W.heap.size 3 _ _ _ k).trans rfl
  have k4 := (cell_of_row w2 W.heap.size 4 _ _ _ k).trans rfl
  have k5 := (cell_of_row w2 W.heap.size 5 _ _ _ k).trans rfl
  have k6 := (cell_of_row w2 W.heap.size 6 _ _ _ k).trans rfl
  have C2 := Lib.hid (depth_any x.depth x A c _ w2 (Nat.le_refl _) ((HA.out _).keep (fun b hb hl => b2.block b hl)) hh)
  unfold nodA at C2
  clear b2 C1 HB HA hle
  go_wp2_with fail
  refine C2.out.mono ?_
  rintro e w3 ⟨rfl, b3⟩
  have HB3 := Lib.hid (HB2.out.trans (b3.mono HB2.out.size))
  clear b3 C2 HB2 k k0 k1 k2 k3 k4 k5 k6
  go_wp2
  go_ret
  exact ⟨rfl, HB3.out⟩
end Go.Proofs.YtfpmhahjemdodaaGreatDoor
namespace Go.Proofs.YtfpmhahjemdodaaGreatDoor
open Go.RowKit Go.Shelf
/-- A list with one element exchanged. -/
def lsE : List Value → Nat → Value → List Value
  | [], _, _ => []
  | _ :: r, 0, v => v :: r
  | a :: r, n + 1, v => a :: lsE r n v
theorem lsE_eq : ∀ (l : List Value) (k : Nat) (v : Value), l.set k v = lsE l k v
  | [], _, _ => rfl
  | _ :: _, 0, _ => rfl
  | a :: r, n + 1, v => by rw [List.set_cons_succ, lsE_eq r n v]; rfl
theorem putE (l : List Value) (d : List Deferred) (k : Nat) (v : Value) : Act.put { tmps := l.toArray, defers := d } (some k) v = { tmps := (lsE l k v).toArray, defers := d } := by
  simp [Act.put, lsE_eq]
theorem takE {P : Program} {md : Region.Mode} {ops : Array Oper} {Q : Exit → Act → World → Prop} {S : World → Prop} {i k fuel : Nat} {oi : Oper} {v : Value} {listed : Array Bool} {l : List Value} {d : List Deferred} {w : World}
    (hi : ops[i]? = some oi) (hs : Region.noSelect ops = true) (hf : Region.free md ops listed i = true) (hr : (Region.ready md ops listed).contains i = true)
    (hQ : ∀ c a w, Q (.panic c) (a.put oi.dst v) w → Q (.panic c) a w) (hy : YieldsIf P ops S oi v { tmps := l.toArray, defers := d }) (hd : oi.dst = some k) (hS : S w)
    (h : wpAnyH P md ops Q S fuel (listed.setIfInBounds i true) { tmps := (lsE l k v).toArray, defers := d } w) : wpAnyH P md ops Q S (fuel + 1) listed { tmps := l.toArray, defers := d } w :=
  wpAnyH_take hi hs hf hr hQ hy hS (by rw [hd, putE]; exact h)
theorem calE {P : Program} {md : Region.Mode} {ops : Array Oper} {Q : Exit → Act → World → Prop} {S : World → Prop} {i k fuel : Nat} {oi : Oper} {listed : Array Bool} {l : List Value} {d : List Deferred} {w : World}
    (hr : Region.ready md ops listed = [i]) (hi : ops[i]? = some oi) (hd : oi.dst = some k) (hw : Region.wanted oi (yielded ops l.toArray) = true)
    (h : ∀ K : Act → World → Prop, Hid (∀ v w', S w' → wpAnyH P md ops Q S fuel (listed.setIfInBounds i true) { tmps := (lsE l k v).toArray, defers := d } w' → K (Act.put { tmps := l.toArray, defers := d } oi.dst v) w') → Oper.wp P oi { tmps := l.toArray, defers := d } w K Q) :
    wpAnyH P md ops Q S (fuel + 1) listed { tmps := l.toArray, defers := d } w :=
  wpAnyH_ready hr (by simp) (AllReadyH.cons hi (fun K hK => by
    rw [if_pos hw]
    refine h K (Lib.hid fun v w' hS hW => ?_)
    refine hK.out _ _ hS (fun _ => ?_)
    rw [hd, putE]
    exact hW) AllReadyH.nil)
/-- The law's world: its node lies in a block of its own, the tree below. -/
structure SA (w W : World) (d : Nd) (s : Value) : Prop where
  k : W.heap[w.heap.size]? = some (.cells #[.int .i64 d.k, .string d.op, .string d.st, .float .f64 d.nm, .bool d.fl, s, .int .i64 d.ps] 25 (0, 0))
  l : w.heap.size < W.heap.size
  b : Below w.heap.size w W
theorem SA.new {w W1 : World} {d : Nd} {s : Value} (h : w.alloc (.cells #[.int .i64 d.k, .string d.op, .string d.st, .float .f64 d.nm, .bool d.fl, s, .int .i64 d.ps] 25) = W1) : SA w W1 d s := by
  subst h
  exact ⟨heap_alloc_last w _, by simp, b1 _⟩
theorem SA.step {w W W' : World} {d : Nd} {s : Value} (h : SA w W d s) (hb : Below W.heap.size W W') : SA w W' d s :=
  ⟨(hb.block _ h.l).trans h.k, Nat.lt_of_lt_of_le h.l hb.size, h.b.trans (hb.mono h.b.size)⟩
theorem SA.drew {w W : World} {d : Nd} {s : Value} (h : SA w W d s) : SA w W.drew d s := ⟨h.k, h.l, h.b.drew⟩
theorem ldA_run {o : Oper} {a : Act} {w W : World} {x : Operand} {d : Nd} {s : Value} (h : SA w W d s) (ho : o.op = .load 25 x) (hx : a.eval x = .pointer (some ⟨w.heap.size, 0, none⟩)) : (execOp a.eval o).run Tryz.prog W = .ok (.value (.agg #[.int .i64 d.k, .string d.op, .string d.st, .float .f64 d.nm, .bool d.fl, s, .int .i64 d.ps])) W := by
  unfold execOp
  simp only [ho, hx, Instr.loadAt, Instr.sureAddr, Sem.run_bind, Sem.run_pure, Result.andThen_ok, run_loadVar_row W w.heap.size 25 25 _ (0, 0) _ h.k Tryz.underlying25 rfl (by kernel_rfl)]
set_option maxRecDepth 100000 in
set_option maxHeartbeats 2000000 in
theorem sizes_law (x : Tn) (A : Option Addr) (c : Nat) (w : World) (hA : AtS (fun b => b < w.heap.size) w x.kids (.slice A x.kids.length c)) (hh : x.size ≤ 1048576)
    (hW : ∀ w, Calls Tryz.prog 8 #[] w fun e w' => e = .returned (.bool true) ∧ Below w.heap.size w w') :
    Calls Tryz.prog 3 #[nodA x.datum A x.kids.length c] w fun e w' => e = .returned (.bool true) ∧ Below w.heap.size w w' := by
  have hA' : ∀ W, Below w.heap.size w W → AtS (fun b => b < W.heap.size) W x.kids (.slice A x.kids.length c) := fun W hb => (hA.imp (fun b h => Nat.lt_of_lt_of_le h hb.size)).keep (fun b h hl => hb.block b hl)
  have C1 := Lib.hid (fun W (hb : Below w.heap.size w W) => asize_any x A c W (hA' W hb) hh)
  have C2 := Lib.hid (fun W (hb : Below w.heap.size w W) => wsize_any x A c W (hA' W hb) hh)
  have C3 := Lib.hid (fun W (hb : Below w.heap.size w W) => adep_any x A c W (hA' W hb) hh)
  have C4 := Lib.hid (fun W (hb : Below w.heap.size w W) => wdep_any x A c W (hA' W hb) hh)
  have C5 := Lib.hid hW
  clear hA' hA hh hW
  have e_p : nodA x.datum A x.kids.length c = nodV x.datum (.slice A x.kids.length c) := rfl
  rw [e_p] at C1 C2 C3 C4 ⊢
  clear e_p
  obtain ⟨n, hn⟩ : ∃ n, x.size = n := ⟨_, rfl⟩
  obtain ⟨m, hm⟩ : ∃ m, x.depth = m := ⟨_, rfl⟩
  obtain ⟨s, hs⟩ : ∃ s, Value.slice A x.kids.length c = s := ⟨_, rfl⟩
  obtain ⟨d, hd⟩ : ∃ d, x.datum = d := ⟨_, rfl⟩
  rw [hn, hs, hd] at C1 C2
  rw [hm, hs, hd] at C3 C4
  rw [hs, hd]
  clear hn hm hs hd
  unfold nodV at *
  go_enter Tryz.func3, Tryz.ntmps3
  go_upto_region 1 with fail
  obtain ⟨W1, hW1⟩ : ∃ W1, w.alloc (.cells #[.int .i64 d.k, .string d.op, .string d.st, .float .f64 d.nm, .bool d.fl, s, .int .i64 d.ps] 25) = W1 := ⟨_, rfl⟩
  have HS := Lib.hid (SA.new hW1)
  rw [hW1]
  clear hW1
  refine wp_region_held_drew (S := fun wx => SA w wx d s) (by kernel_rfl) (HS.out.drew) (fun hHeld => ?_)
  clear HS
  refine takE (i := 0) rfl (by kernel_rfl) (by kernel_rfl) (by kernel_rfl) (fun _ _ _ h => h) (Or.inl ⟨by rfl, fun w hS => ldA_run hS rfl rfl⟩) rfl (by assumption) ?_; simp only [lsE]
  refine takE (i := 2) rfl (by kernel_rfl) (by kernel_rfl) (by kernel_rfl) (fun _ _ _ h => h) (Or.inl ⟨by rfl, fun w hS => ldA_run hS rfl rfl⟩) rfl (by assumption) ?_; simp only [lsE]
  refine calE (i := 1) (by kernel_rfl) rfl rfl (by rfl) (fun K hK => ?_)
  go_simp
  with_reducible refine (C1.out _ hHeld.b).mono ?_
  rintro e w2 ⟨rfl, b2⟩
  have hHe2 := hHeld.step b2
  clear hHeld b2
  refine hK.out _ _ hHe2 ?_; clear hK K; simp only [lsE]
  have hHeld := hHe2; clear hHe2
  refine calE (i := 3) (by kernel_rfl) rfl rfl (by rfl) (fun K hK => ?_)
  go_simp
  with_reducible refine (C2.out _ hHeld.b).mono ?_
  rintro e w2 ⟨rfl, b2⟩
  have hHe2 := hHeld.step b2
  clear hHeld b2
  refine hK.out _ _ hHe2 ?_; clear hK K; simp only [lsE]
  have hHeld := hHe2; clear hHe2
  refine takE (i := 4) rfl (by kernel_rfl) (by kernel_rfl) (by kernel_rfl) (fun _ _ _ h => h) (Or.inl ⟨by rfl, by (intro w hSw; go_simp; try with_reducible rfl)⟩) rfl (by assumption) ?_; simp only [lsE]
  refine takE (i := 5) rfl (by kernel_rfl) (by kernel_rfl) (by kernel_rfl) (fun _ _ _ h => h) (Or.inl ⟨by rfl, by (intro w hSw; go_simp; try with_reducible rfl)⟩) rfl (by assumption) ?_; simp only [lsE]
  refine takE (i := 6) rfl (by kernel_rfl) (by kernel_rfl) (by kernel_rfl) (fun _ _ _ h => h) (Or.inl ⟨by rfl, fun w hS => ldA_run hS rfl rfl⟩) rfl (by assumption) ?_; simp only [lsE]
  refine takE (i := 8) rfl (by kernel_rfl) (by kernel_rfl) (by kernel_rfl) (fun _ _ _ h => h) (Or.inl ⟨by rfl, fun w hS => ldA_run hS rfl rfl⟩) rfl (by assumption) ?_; simp only [lsE]
  refine calE (i := 7) (by kernel_rfl) rfl rfl (by rfl) (fun K hK => ?_)
  go_simp
  with_reducible refine (C3.out _ hHeld.b).mono ?_
  rintro e w2 ⟨rfl, b2⟩
  have hHe2 := hHeld.step b2
  clear hHeld b2
  refine hK.out _ _ hHe2 ?_; clear hK K; simp only [lsE]
  have hHeld := hHe2; clear hHe2
  refine calE (i := 9) (by kernel_rfl) rfl rfl (by rfl) (fun K hK => ?_)
  go_simp
  with_reducible refine (C4.out _ hHeld.b).mono ?_
  rintro e w2 ⟨rfl, b2⟩
  have hHe2 := hHeld.step b2
  clear hHeld b2
  refine hK.out _ _ hHe2 ?_; clear hK K; simp only [lsE]
  have hHeld := hHe2; clear hHe2
  refine takE (i := 10) rfl (by kernel_rfl) (by kernel_rfl) (by kernel_rfl) (fun _ _ _ h => h) (Or.inl ⟨by rfl, by (intro w hSw; go_simp; try with_reducible rfl)⟩) rfl (by assumption) ?_; simp only [lsE]
  refine takE (i := 11) rfl (by kernel_rfl) (by kernel_rfl) (by kernel_rfl) (fun _ _ _ h => h) (Or.inl ⟨by rfl, by (intro w hSw; go_simp; try with_reducible rfl)⟩) rfl (by assumption) ?_; simp only [lsE]
  refine takE (i := 12) rfl (by kernel_rfl) (by kernel_rfl) (by kernel_rfl) (fun _ _ _ h => h) (Or.inl ⟨by rfl, by (intro w hSw; go_simp; try with_reducible rfl)⟩) rfl (by assumption) ?_; simp only [lsE]
  refine calE (i := 13) (by kernel_rfl) rfl rfl (by rfl) (fun K hK => ?_)
  go_simp
  with_reducible refine (C5.out _).mono ?_
  rintro e w2 ⟨rfl, b2⟩
  have hHe2 := hHeld.step b2
  clear hHeld b2
  refine hK.out _ _ hHe2 ?_; clear hK K; simp only [lsE]
  have hHeld := hHe2; clear hHe2
  refine takE (i := 14) rfl (by kernel_rfl) (by kernel_rfl) (by kernel_rfl) (fun _ _ _ h => h) (Or.inl ⟨by rfl, by (intro w hSw; go_simp; try with_reducible rfl)⟩) rfl (by assumption) ?_; simp only [lsE]
  refine takE (i := 15) rfl (by kernel_rfl) (by kernel_rfl) (by kernel_rfl) (fun _ _ _ h => h) (Or.inl ⟨by rfl, by (intro w hSw; go_simp; try with_reducible rfl)⟩) rfl (by assumption) ?_; simp only [lsE]
  refine wpAnyH_done (by kernel_rfl) ?_ _
  have HS := Lib.hid hHeld
  clear hHeld
  go_wp2
  go_ret
  exact ⟨rfl, HS.out.b⟩
end Go.Proofs.YtfpmhahjemdodaaGreatDoor
