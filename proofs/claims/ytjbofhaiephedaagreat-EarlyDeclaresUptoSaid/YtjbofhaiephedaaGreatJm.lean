/-
  The program's variables. The program's statements of a node. The program's Names of a node.
-/
import Derived.Test.YtjbofhaiephedaaGreatJ32
import Derived.Test.YtjbofhaiephedaaGreatJo
import Derived.Test.YtjbofhaiephedaaGreatJq
import Derived.Carry
namespace Go.Proofs.YtjbofhaiephedaaGreat
open Go.RowKit Go.Shelf
attribute [local go_sem] stFl hmf
theorem okN_at {l : List Tn} {x : Tn} (h : Tr.everyL okN l = true) (hx : x ∈ l) : x.datum.st.size ≤ maxLen ∧ Tr.everyL okN x.kids = true := by
  have h1 := everyL_mem h hx
  rw [Tr.every_eq, Bool.and_eq_true] at h1
  refine ⟨?_, h1.2⟩
  have h2 := h1.1
  unfold okN at h2
  simp only [Bool.and_eq_true, decide_eq_true_eq] at h2
  exact h2.2.2.1
theorem sizes_len : ∀ l : List Tn, l.length ≤ Tr.sizes l
  | [] => by simp [Tr.sizes]
  | x :: r => by
    have h1 := sizes_len r
    have h2 := Tr.size_eq x
    rw [Tr.sizes, List.length_cons]
    omega
theorem depths_mem {l : List Tn} {x : Tn} (h : x ∈ l) : x.depth ≤ Tr.depths l := by
  induction l with
  | nil => simp at h
  | cons y l ih =>
    rw [Tr.depths]
    rcases List.mem_cons.1 h with rfl | h
    · omega
    · have := ih h
      omega
set_option maxRecDepth 100000 in
set_option maxHeartbeats 4000000 in
theorem variables_loop {mb B : Nat} (l : List Tn) (A : Option Addr) (c : Nat) (ls : List ByteArray) (v : Value) (w : World) (hA : AtS (fun b => b < mb) w l (.slice A l.length c)) (hT : Tbl mb B ls w v)
    (hs : Tr.everyL okN l = true) (hle : ls.length + Tr.sizes l ≤ 4194304)
    (hI : ∀ (x : Tn) (A : Option Addr) (c : Nat) (ls : List ByteArray) (v : Value) (w : World), x ∈ l → AtS (fun b => b < mb) w x.kids (.slice A x.kids.length c) → Tbl mb B ls w v → ls.length + Tr.sizes x.kids ≤ 4194304 → Calls Tryz.prog 26 #[.pointer (some ⟨B, 0, none⟩), .slice A x.kids.length c] w fun e w' => (∃ v, e = .returned v) ∧ (∃ v', Tbl mb B (varL ls x.kids) w' v') ∧ Below mb w w' ) :
    Calls Tryz.prog 26 #[.pointer (some ⟨B, 0, none⟩), .slice A l.length c] w fun e w' => (∃ v, e = .returned v) ∧ (∃ v', Tbl mb B (varL ls l) w' v') ∧ Below mb w w' := by
  rw [varL_fold]
  obtain ⟨_, _, e1, hmx, -⟩ := id hA
  cases e1
  have hmx := hmx.1
  have HA := Lib.hid hA
  have HS := Lib.hid hs
  have HLE := Lib.hid hle
  have HI := Lib.hid hI
  have B0 := Lib.hid (Below.refl mb w)
  have T0 := Lib.hid (show ∃ v', Tbl mb B ((l.take 0).foldl varG ls) w v' from ⟨v, hT⟩)
  have hlen : l.length ≤ 4194304 := by have := sizes_len l; omega
  clear hA hs hle hT hI
  go_enter Tryz.func26, Tryz.ntmps26
  go_wp2
  go_loopw [8] (fun i wr => ∃ i0 : Nat, i = .int .i64 i0 ∧ i0 ≤ l.length ∧ Hid (∃ v', Tbl mb B ((l.take i0).foldl varG ls) wr v') ∧ Hid (Below mb w wr)) (fun i _ => l.length - (intOf i).toNat)
  case atStart => exact ⟨0, rfl, Nat.zero_le _, T0, B0⟩
  case round =>
    obtain ⟨i0, rfl, hi0, hQ, hB⟩ := hrel
    by_cases hi : i0 < l.length
    · obtain ⟨x, hx⟩ : ∃ x, l[i0]? = some x := ⟨_, List.getElem?_eq_getElem hi⟩
      obtain ⟨b, oo, s6, e1, -, hbm, hr, hk6⟩ := (HA.out.keep (Same.below hB.out)).nth hx
      obtain ⟨A2, c2, rfl, hm6, hn6⟩ := hk6
      cases e1
      have hk6 : AtS (fun b => b < mb) wr x.kids (.slice A2 x.kids.length c2) := ⟨A2, c2, rfl, hm6, hn6⟩
      have m0 : wr.cell? ⟨b, oo + i0 * 7, none⟩ = some (.int .i64 x.datum.k) := hr 0 _ rfl
      have m2 : wr.cell? ⟨b, oo + i0 * 7 + 2, none⟩ = some (.string x.datum.st) := hr 2 _ rfl
      have m5 : wr.cell? ⟨b, oo + i0 * 7 + 5, none⟩ = some (.slice A2 x.kids.length c2) := hr 5 _ rfl
      have HX := Lib.hid hx
      have hxm := List.mem_of_getElem? hx
      have hok := okN_at HS.out hxm
      have hsz := sizes_at hx
      have hvl : ((l.take i0).foldl varG ls).length ≤ ls.length + Tr.sizes (l.take i0) := by rw [← varL_fold]; exact varL_le _ _
      obtain ⟨L, hL⟩ : ∃ L, (l.take i0).foldl varG ls = L := ⟨_, rfl⟩
      have HL : Hid ((l.take (i0 + 1)).foldl varG ls = varG L x) := Lib.hid (by rw [fold_at hx, hL])
      rw [hL] at hvl hQ
      clear hL
      have hxz : x.size = Tr.sizes x.kids + 1 := Tr.size_eq x
      have hbd : L.length + 1 + Tr.sizes x.kids ≤ 4194304 := by have := HLE.out; omega
      obtain ⟨v1, hT1⟩ := hQ.out
      have HT1 := Lib.hid hT1
      have HBD := Lib.hid hbd
      have HK6 := Lib.hid hk6
      have HXM := Lib.hid hxm
      have HOK := Lib.hid hok.1
      have HBM := Lib.hid hbm
      clear hr hx hT1 hQ hsz hvl hbd hxz hk6 hm6 hn6 hxm hok hbm
      cases h13 : (x.datum.k == 13)
      · cases h42 : (x.datum.k == 42)
        · cases h45 : (x.datum.k == 45)
          · have C2 := Lib.hid (HI.out x A2 c2 L v1 wr HXM.out HK6.out HT1.out (by have := HBD.out; omega))
            go_wp2_with fail
            refine C2.out.mono ?_
            rintro e w2 ⟨⟨v2, rfl⟩, hT2, b2⟩
            have HT2 := Lib.hid hT2
            have HB2 := Lib.hid (hB.out.trans b2)
            clear hT2 b2 m0 m2 m5 C2
            go_wp2
            refine ⟨⟨i0 + 1, rfl, hi, Lib.hid ?_, HB2⟩, meas_dec hi⟩
            rw [HL.out, varG_eq, h13, h42, h45]
            exact HT2.out
          · have C1 := Lib.hid (add_any x.datum.st wr HT1.out HOK.out (by have := HBD.out; omega))
            go_wp2_with fail
            refine C1.out.mono ?_
            rintro e w2 ⟨⟨v2, rfl⟩, hT2, b2⟩
            obtain ⟨v3, hT3⟩ := hT2
            have n5 : w2.cell? ⟨b, oo + i0 * 7 + 5, none⟩ = some (.slice A2 x.kids.length c2) := (World.cell?_of_block (b2.block b HBM.out)).trans m5
            have C2 := Lib.hid (HI.out x A2 c2 (addL L x.datum.st) v3 w2 HXM.out (HK6.out.keep (Same.below b2)) hT3 (by have := HBD.out; have := addL_le L x.datum.st; omega))
            have HB2 := Lib.hid (hB.out.trans b2)
            clear hT3 b2 m0 m2 m5 C1
            go_wp2_with fail
            refine C2.out.mono ?_
            rintro e w4 ⟨⟨v4, rfl⟩, hT4, b4⟩
            have HT4 := Lib.hid hT4
            have HB4 := Lib.hid (HB2.out.trans b4)
            clear hT4 b4 n5 C2
            go_wp2
            refine ⟨⟨i0 + 1, rfl, hi, Lib.hid ?_, HB4⟩, meas_dec hi⟩
            rw [HL.out, varG_eq, h13, h42, h45]
            exact HT4.out
        · go_wp2
          refine ⟨⟨i0 + 1, rfl, hi, Lib.hid ?_, hB⟩, meas_dec hi⟩
          rw [HL.out, varG_eq, h13, h42]
          exact ⟨_, HT1.out⟩
      · go_wp2
        refine ⟨⟨i0 + 1, rfl, hi, Lib.hid ?_, hB⟩, meas_dec hi⟩
        rw [HL.out, varG_eq, h13]
        exact ⟨_, HT1.out⟩
    · have hi1 : i0 = l.length := by omega
      go_wp2
      go_end0
      refine ⟨⟨_, rfl⟩, ?_, hB.out⟩
      have h := hQ.out
      rw [hi1, List.take_length] at h
      exact h
theorem variables_any {mb B : Nat} : ∀ (n : Nat) (l : List Tn) (A : Option Addr) (c : Nat) (ls : List ByteArray) (v : Value) (w : World), Tr.depths l ≤ n → AtS (fun b => b < mb) w l (.slice A l.length c) → Tbl mb B ls w v →
    Tr.everyL okN l = true → ls.length + Tr.sizes l ≤ 4194304 → Calls Tryz.prog 26 #[.pointer (some ⟨B, 0, none⟩), .slice A l.length c] w fun e w' => (∃ v, e = .returned v) ∧ (∃ v', Tbl mb B (varL ls l) w' v') ∧ Below mb w w' := by
  intro n
  induction n with
  | zero =>
    intro l A c ls v w hd hA hT hs hle
    refine variables_loop l A c ls v w hA hT hs hle fun x _ _ _ _ _ hx => ?_
    have h1 := depths_mem hx
    rw [Tr.depth_eq] at h1
    omega
  | succ n ih =>
    intro l A c ls v w hd hA hT hs hle
    refine variables_loop l A c ls v w hA hT hs hle fun x A2 c2 ls2 v2 w2 hx hA2 hT2 hle2 => ?_
    have h1 := depths_mem hx
    rw [Tr.depth_eq] at h1
    exact ih x.kids A2 c2 ls2 v2 w2 (by omega) hA2 hT2 (okN_at hs hx).2 hle2
end Go.Proofs.YtjbofhaiephedaaGreat
namespace Go.Proofs.YtjbofhaiephedaaGreat
open Go.RowKit Go.Shelf
attribute [local go_sem] stFl hmf
/-- The node whose Kids are the statements; none: there are none. -/
def stmN (t : Tn) : Option Tn := if t.datum.k == 13 || t.datum.k == 42 then (match t.kids.getLast? with
  | none => none
  | some y => if y.datum.k == 41 then some y else none) else if t.datum.k == 40 || t.datum.k == 41 then some t else none
set_option maxRecDepth 100000 in
set_option maxHeartbeats 2000000 in
theorem statements_own (x : Tn) (A : Option Addr) (c : Nat) (W : World) (h1 : (x.datum.k == 13) = false) (h2 : (x.datum.k == 42) = false) :
    Calls Tryz.prog 24 #[nodA x.datum A x.kids.length c] W fun e w' => e = .returned (.tuple #[.slice A x.kids.length c, .bool (x.datum.k == 40 || x.datum.k == 41)]) ∧ Below W.heap.size W w' := by
  have HB := Lib.hid (fun X => (b1 (w := W) X).drew)
  unfold nodA
  cases h3 : (x.datum.k == 40)
  · obtain ⟨D, hD⟩ : ∃ b, (x.datum.k == 41) = b := ⟨_, rfl⟩
    rw [hD]
    go_enter Tryz.func24, Tryz.ntmps24
    go_wp2
    go_region
    all_goals
      go_wp2
      go_ret2
      exact ⟨rfl, HB.out _⟩
  · go_enter Tryz.func24, Tryz.ntmps24
    go_wp2
    go_region
    all_goals
      go_wp2
      go_ret2
      exact ⟨rfl, HB.out _⟩
set_option maxRecDepth 100000 in
set_option maxHeartbeats 2000000 in
theorem statements_f0 (x : Tn) (A : Option Addr) (c : Nat) (W : World) (h1 : (x.datum.k == 13) = true) (hk : x.kids = []) :
    Calls Tryz.prog 24 #[nodA x.datum A x.kids.length c] W fun e w' => e = .returned (.tuple #[.slice none 0 0, .bool false]) ∧ Below W.heap.size W w' := by
  have HB := Lib.hid (fun X => b1 (w := W) X)
  rw [hk]
  unfold nodA
  go_enter Tryz.func24, Tryz.ntmps24
  go_wp2
  go_ret2
  exact ⟨rfl, HB.out _⟩
set_option maxRecDepth 100000 in
set_option maxHeartbeats 2000000 in
theorem statements_f1 (x : Tn) (A : Option Addr) (c : Nat) (pb : Nat → Prop) (W : World) (h1 : (x.datum.k == 13) = true) (hA : AtS pb W x.kids (.slice A x.kids.length c)) (y : Tn) (hy : x.kids.getLast? = some y) :
    Calls Tryz.prog 24 #[nodA x.datum A x.kids.length c] W fun e w' => (∃ s, e = .returned (.tuple #[s, .bool (y.datum.k == 41)]) ∧ ((y.datum.k == 41) = true → AtS pb w' y.kids s)) ∧ Below W.heap.size W w' := by
  have HB := Lib.hid (fun X => b1 (w := W) X)
  have HBD := Lib.hid (fun X => (b1 (w := W) X).drew)
  obtain ⟨n, hn⟩ : ∃ n, x.kids.length = n + 1 := by
    cases hq : x.kids with
    | nil => rw [hq] at hy; simp at hy
    | cons z l => exact ⟨l.length, rfl⟩
  have hyn : x.kids[n]? = some y := by rw [List.getLast?_eq_getElem?, hn] at hy; exact hy
  obtain ⟨_, _, e1, hm, hL⟩ := id hA
  cases e1
  obtain ⟨b, o, rfl, hp, hAL⟩ := hL (by intro h0; rw [h0] at hn; simp at hn)
  obtain ⟨A2, c2, hyk, k0, k1, k2, k3, k4, k5, k6⟩ := hA.cells hyn
  obtain ⟨W1, hW1⟩ : ∃ W1, boxN W x.datum (some ⟨b, o, none⟩) (n + 1) c = W1 := ⟨_, rfl⟩
  have bW : Below W.heap.size W W1 := by rw [← hW1]; exact b1 _
  have m0 := cell_kept k0 bW
  have m1 := cell_kept k1 bW
  have m2 := cell_kept k2 bW
  have m3 := cell_kept k3 bW
  have m4 := cell_kept k4 bW
  have m5 := cell_kept k5 bW
  have m6 := cell_kept k6 bW
  have s5 : W1.cell? ⟨W.heap.size, 5, none⟩ = some (.slice (some ⟨b, o, none⟩) (n + 1 : Nat) c) := by rw [← hW1]; simp
  have s0 : W1.cell? ⟨W.heap.size, 0, none⟩ = some (.int .i64 x.datum.k) := by rw [← hW1]; simp
  have hrow : W1.heap[W.heap.size]? = some (.cells #[.int .i64 x.datum.k, .string x.datum.op, .string x.datum.st, .float .f64 x.datum.nm, .bool x.datum.fl, .slice (some ⟨b, o, none⟩) (n + 1 : Nat) c, .int .i64 x.datum.ps] 25 (0, 0)) := by rw [← hW1]; exact World.alloc_heap_new _ _
  have HROW := Lib.hid hrow
  have HW := Lib.hid bW
  have HY := Lib.hid hyk
  have hk1 : ((n + 1 : Nat) : Int) - 1 = (n : Int) := by omega
  have hnn : (0 : Int) ≤ (n : Int) := by omega
  have hnl : (n : Int) < (n : Int) + 1 := by omega
  have hng : ¬ (n : Int) < 0 := by omega
  have hnm : n + 1 ≤ maxLen := by rw [← hn]; exact hm.1
  have hnm2 : (n : Int) + 1 ≤ 9223372036854775807 := by unfold maxLen at hnm; omega
  have hnw : wrap64 (n : Int) = (n : Int) := by unfold maxLen at hnm; unfold wrap64; omega
  clear hyn hy hAL hL hm hA hyk k0 k1 k2 k3 k4 k5 k6 hrow hnm
  unfold nodA
  rw [hn]
  cases hq : (y.datum.k == 41)
  · have hq2 : (y.datum.k != 41) = true := by rw [bne, hq]; rfl
    go_enter Tryz.func24, Tryz.ntmps24
    go_wp2
    go_ret2
    exact ⟨⟨_, by first | rfl | exact ⟨rfl, fun h => by cases h⟩⟩, HW.out⟩
  · have hq2 : (y.datum.k != 41) = false := by rw [bne, hq]; rfl
    have hq4 : (y.datum.k == 40) = false := by
      rw [beq_iff_eq] at hq
      rw [hq]
      rfl
    go_enter Tryz.func24, Tryz.ntmps24
    go_wp2_with (refine wpList_store_row rfl 25 _ _ rfl W.heap.size #[.int .i64 y.datum.k, .string y.datum.op, .string y.datum.st, .float .f64 y.datum.nm, .bool y.datum.fl, .slice A2 y.kids.length c2, .int .i64 y.datum.ps] rfl rfl 25 _ HROW.out (by kernel_rfl) rfl (by simp [Value.oneCell']) ?_; generalize hW2 : World.setRow W1 W.heap.size #[.int .i64 y.datum.k, .string y.datum.op, .string y.datum.st, .float .f64 y.datum.nm, .bool y.datum.fl, .slice A2 y.kids.length c2, .int .i64 y.datum.ps] = W2; refine Hid.out ?_)
    have hr2 : W2.heap[W.heap.size]? = some (.cells #[.int .i64 y.datum.k, .string y.datum.op, .string y.datum.st, .float .f64 y.datum.nm, .bool y.datum.fl, .slice A2 y.kids.length c2, .int .i64 y.datum.ps] 25 (0, 0)) := by rw [← hW2]; exact setRow_heap _ _ _ _ _ _ HROW.out
    have hb2 : Below W.heap.size W W2 := by
      rw [← hW2]
      have h := HW.out
      exact ⟨h.os, h.tape, h.output, by rw [size_setRow]; exact h.size, fun k hk => (setRow_other W1 W.heap.size k _ (by omega)).trans (h.block k hk)⟩
    have n0 : W2.cell? ⟨W.heap.size, 0, none⟩ = some (.int .i64 y.datum.k) := cell_of_row _ _ 0 _ _ _ hr2
    have n5 : W2.cell? ⟨W.heap.size, 5, none⟩ = some (.slice A2 y.kids.length c2) := cell_of_row _ _ 5 _ _ _ hr2
    have HB2 := Lib.hid hb2
    clear hW2 hr2 hb2 bW m0 m1 m2 m3 m4 m5 m6 s0 s5 hW1
    refine Lib.hid ?_
    go_wp2
    go_region
    all_goals
      go_wp2
      go_ret2
      refine ⟨⟨_, by first | rfl | exact ⟨rfl, fun _ => HY.out.keep (fun b _ hl => HB2.out.drew.block b hl)⟩⟩, HB2.out.drew⟩
set_option maxRecDepth 100000 in
set_option maxHeartbeats 2000000 in
theorem statements_d0 (x : Tn) (A : Option Addr) (c : Nat) (W : World) (h1 : (x.datum.k == 13) = false) (h2 : (x.datum.k == 42) = true) (hk : x.kids = []) :
    Calls Tryz.prog 24 #[nodA x.datum A x.kids.length c] W fun e w' => e = .returned (.tuple #[.slice none 0 0, .bool false]) ∧ Below W.heap.size W w' := by
  have HB := Lib.hid (fun X => b1 (w := W) X)
  rw [hk]
  unfold nodA
  go_enter Tryz.func24, Tryz.ntmps24
  go_wp2
  go_ret2
  exact ⟨rfl, HB.out _⟩
set_option maxRecDepth 100000 in
set_option maxHeartbeats 2000000 in
theorem statements_d1 (x : Tn) (A : Option Addr) (c : Nat) (pb : Nat → Prop) (W : World) (h1 : (x.datum.k == 13) = false) (h2 : (x.datum.k == 42) = true) (hA : AtS pb W x.kids (.slice A x.kids.length c)) (y : Tn) (hy : x.kids.getLast? = some y) :
    Calls Tryz.prog 24 #[nodA x.datum A x.kids.length c] W fun e w' => (∃ s, e = .returned (.tuple #[s, .bool (y.datum.k == 41)]) ∧ ((y.datum.k == 41) = true → AtS pb w' y.kids s)) ∧ Below W.heap.size W w' := by
  have HB := Lib.hid (fun X => b1 (w := W) X)
  have HBD := Lib.hid (fun X => (b1 (w := W) X).drew)
  obtain ⟨n, hn⟩ : ∃ n, x.kids.length = n + 1 := by
    cases hq : x.kids with
    | nil => rw [hq] at hy; simp at hy
    | cons z l => exact ⟨l.length, rfl⟩
  have hyn : x.kids[n]? = some y := by rw [List.getLast?_eq_getElem?, hn] at hy; exact hy
  obtain ⟨_, _, e1, hm, hL⟩ := id hA
  cases e1
  obtain ⟨b, o, rfl, hp, hAL⟩ := hL (by intro h0; rw [h0] at hn; simp at hn)
  obtain ⟨A2, c2, hyk, k0, k1, k2, k3, k4, k5, k6⟩ := hA.cells hyn
  obtain ⟨W1, hW1⟩ : ∃ W1, boxN W x.datum (some ⟨b, o, none⟩) (n + 1) c = W1 := ⟨_, rfl⟩
  have bW : Below W.heap.size W W1 := by rw [← hW1]; exact b1 _
  have m0 := cell_kept k0 bW
  have m1 := cell_kept k1 bW
  have m2 := cell_kept k2 bW
  have m3 := cell_kept k3 bW
  have m4 := cell_kept k4 bW
  have m5 := cell_kept k5 bW
  have m6 := cell_kept k6 bW
  have s5 : W1.cell? ⟨W.heap.size, 5, none⟩ = some (.slice (some ⟨b, o, none⟩) (n + 1 : Nat) c) := by rw [← hW1]; simp
  have s0 : W1.cell? ⟨W.heap.size, 0, none⟩ = some (.int .i64 x.datum.k) := by rw [← hW1]; simp
  have hrow : W1.heap[W.heap.size]? = some (.cells #[.int .i64 x.datum.k, .string x.datum.op, .string x.datum.st, .float .f64 x.datum.nm, .bool x.datum.fl, .slice (some ⟨b, o, none⟩) (n + 1 : Nat) c, .int .i64 x.datum.ps] 25 (0, 0)) := by rw [← hW1]; exact World.alloc_heap_new _ _
  have HROW := Lib.hid hrow
  have HW := Lib.hid bW
  have HY := Lib.hid hyk
  have hk1 : ((n + 1 : Nat) : Int) - 1 = (n : Int) := by omega
  have hnn : (0 : Int) ≤ (n : Int) := by omega
  have hnl : (n : Int) < (n : Int) + 1 := by omega
  have hng : ¬ (n : Int) < 0 := by omega
  have hnm : n + 1 ≤ maxLen := by rw [← hn]; exact hm.1
  have hnm2 : (n : Int) + 1 ≤ 9223372036854775807 := by unfold maxLen at hnm; omega
  have hnw : wrap64 (n : Int) = (n : Int) := by unfold maxLen at hnm; unfold wrap64; omega
  clear hyn hy hAL hL hm hA hyk k0 k1 k2 k3 k4 k5 k6 hrow hnm
  unfold nodA
  rw [hn]
  cases hq : (y.datum.k == 41)
  · have hq2 : (y.datum.k != 41) = true := by rw [bne, hq]; rfl
    go_enter Tryz.func24, Tryz.ntmps24
    go_wp2
    go_ret2
    exact ⟨⟨_, by first | rfl | exact ⟨rfl, fun h => by cases h⟩⟩, HW.out⟩
  · have hq2 : (y.datum.k != 41) = false := by rw [bne, hq]; rfl
    have hq4 : (y.datum.k == 40) = false := by
      rw [beq_iff_eq] at hq
      rw [hq]
      rfl
    go_enter Tryz.func24, Tryz.ntmps24
    go_wp2_with (refine wpList_store_row rfl 25 _ _ rfl W.heap.size #[.int .i64 y.datum.k, .string y.datum.op, .string y.datum.st, .float .f64 y.datum.nm, .bool y.datum.fl, .slice A2 y.kids.length c2, .int .i64 y.datum.ps] rfl rfl 25 _ HROW.out (by kernel_rfl) rfl (by simp [Value.oneCell']) ?_; generalize hW2 : World.setRow W1 W.heap.size #[.int .i64 y.datum.k, .string y.datum.op, .string y.datum.st, .float .f64 y.datum.nm, .bool y.datum.fl, .slice A2 y.kids.length c2, .int .i64 y.datum.ps] = W2; refine Hid.out ?_)
    have hr2 : W2.heap[W.heap.size]? = some (.cells #[.int .i64 y.datum.k, .string y.datum.op, .string y.datum.st, .float .f64 y.datum.nm, .bool y.datum.fl, .slice A2 y.kids.length c2, .int .i64 y.datum.ps] 25 (0, 0)) := by rw [← hW2]; exact setRow_heap _ _ _ _ _ _ HROW.out
    have hb2 : Below W.heap.size W W2 := by
      rw [← hW2]
      have h := HW.out
      exact ⟨h.os, h.tape, h.output, by rw [size_setRow]; exact h.size, fun k hk => (setRow_other W1 W.heap.size k _ (by omega)).trans (h.block k hk)⟩
    have n0 : W2.cell? ⟨W.heap.size, 0, none⟩ = some (.int .i64 y.datum.k) := cell_of_row _ _ 0 _ _ _ hr2
    have n5 : W2.cell? ⟨W.heap.size, 5, none⟩ = some (.slice A2 y.kids.length c2) := cell_of_row _ _ 5 _ _ _ hr2
    have HB2 := Lib.hid hb2
    clear hW2 hr2 hb2 bW m0 m1 m2 m3 m4 m5 m6 s0 s5 hW1
    refine Lib.hid ?_
    go_wp2
    go_region
    all_goals
      go_wp2
      go_ret2
      refine ⟨⟨_, by first | rfl | exact ⟨rfl, fun _ => HY.out.keep (fun b _ hl => HB2.out.drew.block b hl)⟩⟩, HB2.out.drew⟩
theorem statements_any (x : Tn) (A : Option Addr) (c : Nat) (pb : Nat → Prop) (W : World) (hA : AtS pb W x.kids (.slice A x.kids.length c)) :
    Calls Tryz.prog 24 #[nodA x.datum A x.kids.length c] W fun e w' => (∃ s, e = .returned (.tuple #[s, .bool (stmN x).isSome]) ∧ (∀ y, stmN x = some y → AtS pb w' y.kids s)) ∧ Below W.heap.size W w' := by
  unfold stmN
  have key : ∀ (h : ((x.datum.k == 13) || (x.datum.k == 42)) = true), Calls Tryz.prog 24 #[nodA x.datum A x.kids.length c] W fun e w' => (∃ s, e = .returned (.tuple #[s, .bool (match x.kids.getLast? with | none => none | some y => if y.datum.k == 41 then some y else none).isSome]) ∧
      (∀ y, (match x.kids.getLast? with | none => none | some y => if y.datum.k == 41 then some y else none) = some y → AtS pb w' y.kids s)) ∧ Below W.heap.size W w' := fun h => by
    cases hl : x.kids.getLast? with
    | none =>
      have hk : x.kids = [] := List.getLast?_eq_none_iff.1 hl
      cases h1 : (x.datum.k == 13)
      · rw [h1, Bool.false_or] at h
        exact (statements_d0 x A c W h1 h hk).mono fun e w' ⟨e1, e2⟩ => ⟨⟨_, e1, fun y hy => by cases hy⟩, e2⟩
      · exact (statements_f0 x A c W h1 hk).mono fun e w' ⟨e1, e2⟩ => ⟨⟨_, e1, fun y hy => by cases hy⟩, e2⟩
    | some z =>
      have fin : ∀ e w', ((∃ s, e = Ending.returned (.tuple #[s, .bool (z.datum.k == 41)]) ∧ ((z.datum.k == 41) = true → AtS pb w' z.kids s)) ∧ Below W.heap.size W w') →
          (∃ s, e = Ending.returned (.tuple #[s, .bool (if z.datum.k == 41 then some z else none).isSome]) ∧ (∀ y, (if z.datum.k == 41 then some z else none) = some y → AtS pb w' y.kids s)) ∧ Below W.heap.size W w' := by
        rintro e w' ⟨⟨s, e1, e2⟩, e3⟩
        refine ⟨⟨s, ?_, fun y hy => ?_⟩, e3⟩
        · rw [e1]
          cases (z.datum.k == 41) <;> rfl
        · cases hq : (z.datum.k == 41)
          · rw [hq] at hy
            cases hy
          · rw [hq] at hy
            obtain rfl : z = y := Option.some.inj hy
            exact e2 hq
      cases h1 : (x.datum.k == 13)
      · rw [h1, Bool.false_or] at h
        exact (statements_d1 x A c pb W h1 h hA z hl).mono fun e w' => fin e w'
      · exact (statements_f1 x A c pb W h1 hA z hl).mono fun e w' => fin e w'
  cases h : ((x.datum.k == 13) || (x.datum.k == 42))
  · rw [if_neg (by simp)]
    rw [Bool.or_eq_false_iff] at h
    refine (statements_own x A c W h.1 h.2).mono ?_
    rintro e w' ⟨e1, e2⟩
    refine ⟨⟨.slice A x.kids.length c, ?_, fun y hy => ?_⟩, e2⟩
    · rw [e1]
      cases (x.datum.k == 40 || x.datum.k == 41) <;> rfl
    · cases hq : (x.datum.k == 40 || x.datum.k == 41)
      · rw [hq] at hy
        cases hy
      · rw [hq] at hy
        obtain rfl : x = y := Option.some.inj hy
        exact hA.keep (fun b _ hl => e2.block b hl)
  · rw [if_pos rfl]
    exact key h
end Go.Proofs.YtjbofhaiephedaaGreat
namespace Go.Proofs.YtjbofhaiephedaaGreat
open Go.RowKit Go.Shelf Go.Maps
attribute [local go_sem] stFl hmf
def proN (l : List Tn) : Tn := .mk ⟨40, ⟨#[]⟩, ⟨#[]⟩, 0, false, 0⟩ l
/-- The names of a node; none: it has none. -/
def namL (l : List Tn) : List ByteArray := varL (l.foldl fnL []) l
theorem stmN_in {t y : Tn} (h : stmN t = some y) : y = t ∨ y ∈ t.kids := by
  unfold stmN at h
  split at h
  · right
    cases hl : t.kids.getLast? with
    | none => rw [hl] at h; cases h
    | some z =>
      rw [hl] at h
      simp only at h
      split at h
      · obtain rfl : z = y := Option.some.inj h
        exact List.mem_of_getLast? hl
      · cases h
  · split at h
    · exact .inl (Option.some.inj h).symm
    · cases h
theorem sizes_mem {l : List Tn} {x : Tn} (h : x ∈ l) : x.size ≤ Tr.sizes l := by
  obtain ⟨i, hi⟩ := List.mem_iff_getElem?.1 h
  have := sizes_at hi
  omega
set_option maxRecDepth 100000 in
set_option maxHeartbeats 4000000 in
theorem names_none (t : Tn) (A : Option Addr) (c : Nat) (W : World) (hA : AtS (fun b => b < W.heap.size) W t.kids (.slice A t.kids.length c)) (hs : stmN t = none) :
    Calls Tryz.prog 13 #[nodA t.datum A t.kids.length c] W fun e w' => e = .returned (.tuple #[.slice none 0 0, .int .i64 70]) ∧ Below W.heap.size W w' := by
  have C1 := Lib.hid (fun X => statements_any t A c _ (W.alloc X) (hA.keep (fun b hb _ => (b1 X).block b hb)))
  rw [hs] at C1
  have HB := Lib.hid (b1 (w := W))
  clear hA hs
  unfold nodA at C1 ⊢
  go_enter Tryz.func13, Tryz.ntmps13
  go_wp2_with fail
  refine (C1.out _).mono ?_
  rintro e w2 ⟨⟨s, rfl, -⟩, b2⟩
  have HB2 := Lib.hid ((HB.out _).trans (b2.mono (HB.out _).size))
  clear b2 C1
  go_wp2
  go_ret2
  exact ⟨rfl, HB2.out⟩
set_option maxRecDepth 100000 in
set_option maxHeartbeats 4000000 in
theorem names_some {nmd rsv : ByteArray → Bool} (hL : Lx nmd rsv) (t : Tn) (A : Option Addr) (c : Nat) (W : World) (hA : AtS (fun b => b < W.heap.size) W t.kids (.slice A t.kids.length c)) (hF : Fit t) (hN : Tr.every okN t = true) (h24 : t.size ≤ 4398046511102) (y : Tn) (hs : stmN t = some y) :
    Calls Tryz.prog 13 #[nodA t.datum A t.kids.length c] W fun e w' => (∃ v k, e = .returned (.tuple #[v, .int .i64 k]) ∧ (if treeOk nmd rsv (proN y.kids) then k = 0 ∧ ∃ B, w'.ownsRow B 9 1 v (namL y.kids).length ((namL y.kids).map Value.string) else v = .slice none 0 0 ∧ k = 70)) ∧ Below W.heap.size W w' := by
  have C1 := Lib.hid (fun X => statements_any t A c _ (W.alloc X) (hA.keep (fun b hb _ => (b1 X).block b hb)))
  have hy := stmN_in hs
  have hsz : (proN y.kids).size ≤ 4398046511103 := by
    unfold proN
    rw [Tr.size]
    have h1 := Tr.size_eq y
    have h2 : y.size ≤ t.size := by
      rcases hy with rfl | hy
      · exact Nat.le_refl _
      · have := sizes_mem hy
        have := Tr.size_eq t
        omega
    omega
  have hfy : Fit y := by
    rcases hy with rfl | hy
    · exact hF
    · exact hF.kid hy
  have hfp : Fit (proN y.kids) := by
    unfold Fit proN at *
    rw [Tr.every_eq] at hfy ⊢
    rw [Bool.and_eq_true] at hfy
    rw [Tr.kids, hfy.2]
    rfl
  have hny : Tr.everyL okN y.kids = true := by
    have h : Tr.every okN y = true := by
      rcases hy with rfl | hy
      · exact hN
      · rw [Tr.every_eq, Bool.and_eq_true] at hN
        exact everyL_mem hN.2 hy
    rw [Tr.every_eq, Bool.and_eq_true] at h
    exact h.2
  rw [hs] at C1
  have HL := Lib.hid hL
  have HSZ := Lib.hid hsz
  have HFP := Lib.hid hfp
  have HNY := Lib.hid hny
  have HB := Lib.hid (b1 (w := W))
  clear hA hs hL hF hN h24 hy hsz hfy hfp hny
  unfold nodA at C1 ⊢
  go_enter Tryz.func13, Tryz.ntmps13
  go_wp2_with fail
  refine (C1.out _).mono ?_
  rintro e w2 ⟨⟨s, rfl, hsl⟩, b2⟩
  have HB2 := Lib.hid ((HB.out _).trans (b2.mono (HB.out _).size))
  have HY := Lib.hid (hsl y rfl)
  obtain ⟨A', c', rfl, -, -⟩ := HY.out
  have C2 := Lib.hid (aCheck_any HL.out (proN y.kids) (celN ⟨40, ⟨#[]⟩, ⟨#[]⟩, 0, false, 0⟩ (.slice A' y.kids.length c')) w2 (at_node.2 ⟨_, rfl, HY.out.imp (fun b hb => Nat.lt_of_lt_of_le hb HB2.out.size)⟩) HFP.out HSZ.out)
  unfold celN at C2
  clear b2 C1 hsl
  cases hok : treeOk nmd rsv (proN y.kids)
  · rw [hok, if_neg (by simp)] at C2
    go_wp2_with fail
    refine C2.out.mono ?_
    rintro e w3 ⟨rfl, b3⟩
    have HB3 := Lib.hid (HB2.out.trans (b3.mono HB2.out.size))
    clear b3 C2
    go_wp2
    all_goals
      go_ret2
      first
        | exact ⟨⟨_, _, rfl, by simp⟩, HB3.out⟩
        | exact ⟨rfl, HB3.out⟩
  · rw [hok, if_pos rfl] at C2
    have hbnd : Tr.sizes y.kids + 1 ≤ 1048576 := by
      unfold treeOk at hok
      simp only [Bool.and_eq_true, decide_eq_true_eq] at hok
      have h := hok.2.1
      unfold proN at h
      rw [Tr.size] at h
      omega
    have HBND := Lib.hid hbnd
    clear hbnd
    have hmm := @run_makeMap Tryz.prog
    go_wp2_with fail
    refine C2.out.mono ?_
    rintro e w3 ⟨rfl, b3⟩
    have HB3 := Lib.hid (HB2.out.trans (b3.mono HB2.out.size))
    have HY3 := Lib.hid (HY.out.keep (fun b hb hl => b3.block b hl))
    clear b3 C2
    have hz1 : (w3.alloc (.map #[] 0)).heap.size = w3.heap.size + 1 := by simp
    have hT0 : Tbl w3.heap.size (w3.heap.size + 1) [] ((w3.alloc (.map #[] 0)).alloc (.cells #[.slice none 0 0, .map (some w3.heap.size)] 59)) (.slice none 0 0) := by
      refine ⟨?_, World.ownsRow_nil _ _ _ _, (World.ownsMap_made _ _ _ _).alloc _, Nat.lt_succ_self _⟩
      rw [← hz1]
      exact World.alloc_heap_new _ _
    have bT : Below w3.heap.size w3 ((w3.alloc (.map #[] 0)).alloc (.cells #[.slice none 0 0, .map (some w3.heap.size)] 59)) := ((Below.refl _ _).alloc (Nat.le_refl _) _).alloc (by omega) _
    have hAT : AtS (fun b => b < w3.heap.size) ((w3.alloc (.map #[] 0)).alloc (.cells #[.slice none 0 0, .map (some w3.heap.size)] 59)) y.kids (.slice A' y.kids.length c') := (HY3.out.imp (fun b hb => Nat.lt_of_lt_of_le hb HB3.out.size)).keep (Same.below bT)
    have C3 := Lib.hid (functions_any y.kids A' c' [] _ _ hAT hT0 (fun x hx => (okN_at HNY.out hx).1) (by have := sizes_len y.kids; have := HBND.out; simp only [List.length_nil]; omega))
    have HBT := Lib.hid (HB3.out.trans (bT.mono HB3.out.size))
    have HAT := Lib.hid hAT
    clear hT0 bT hAT hz1
    go_wp2_with fail
    refine C3.out.mono ?_
    rintro e w5 ⟨⟨v5, rfl⟩, ⟨v6, hT5⟩, b5⟩
    have C4 := Lib.hid (variables_any (Tr.depths y.kids) y.kids A' c' _ _ w5 (Nat.le_refl _) (HAT.out.keep (Same.below b5)) hT5 HNY.out (by have := sizes_len y.kids; have := HBND.out; have := fnL_le y.kids []; simp only [List.length_nil] at this; omega))
    have HB5 := Lib.hid (HBT.out.trans (b5.mono HB3.out.size))
    clear hT5 b5 C3
    go_wp2_with fail
    refine C4.out.mono ?_
    rintro e w7 ⟨⟨v7, rfl⟩, ⟨v8, hT7⟩, b7⟩
    have HB7 := Lib.hid (HB5.out.trans (b7.mono HB3.out.size))
    have n0 : w7.cell? ⟨w3.heap.size + 1, 0, none⟩ = some v8 := cell_of_row _ _ 0 _ _ _ hT7.row
    have HT7 := Lib.hid hT7
    clear hT7 b7 C4
    go_wp2
    go_ret2
    exact ⟨⟨_, _, rfl, rfl, _, HT7.out.own⟩, HB7.out⟩
end Go.Proofs.YtjbofhaiephedaaGreat
