/-
  The program's tests row, closed, oneDefault. The program's tests closed, oneDefault. The program's part and holds.
-/
import Derived.Test.YtfpmhahjemdodaaGreatDoorJ13
import Derived.Deep.LoopGhost
namespace Go.Proofs.YtfpmhahjemdodaaGreatDoor
open Go.RowKit Go.Shelf
attribute [local go_sem] stFl hmf
theorem zip_snoc : ∀ {ps : List TT} {l : List Tn} {i : Nat} {p : TT} {x : Tn}, ps[i]? = some p → l[i]? = some x → zipAll (ps.take (i + 1)) l = (zipAll (ps.take i) l && p x)
  | [], l, i, p, x, h, _ => by simp at h
  | q :: ps, [], i, p, x, _, h => by simp at h
  | q :: ps, y :: l, 0, p, x, h, g => by
    obtain rfl : q = p := by simpa using h
    obtain rfl : y = x := by simpa using g
    simp [zipAll]
  | q :: ps, y :: l, i + 1, p, x, h, g => by
    rw [List.take_succ_cons, List.take_succ_cons, zipAll, zipAll, zip_snoc (ps := ps) (l := l) (by simpa using h) (by simpa using g), Bool.and_assoc]
theorem zip_false : ∀ {ps : List TT} {l : List Tn} {i : Nat} {p : TT} {x : Tn}, ps[i]? = some p → l[i]? = some x → p x = false → zipAll ps l = false
  | [], l, i, p, x, h, _, _ => by simp at h
  | q :: ps, [], i, p, x, _, h, _ => by simp at h
  | q :: ps, y :: l, 0, p, x, h, g, hp => by
    obtain rfl : q = p := by simpa using h
    obtain rfl : y = x := by simpa using g
    rw [zipAll, hp, Bool.false_and]
  | q :: ps, y :: l, i + 1, p, x, h, g, hp => by
    rw [zipAll, zip_false (ps := ps) (l := l) (by simpa using h) (by simpa using g) hp, Bool.and_false]
/-- Tests in a slice. -/
structure TstS (nb : Nat) (W : World) (T : Option Addr) (ps : List TT) : Prop where
  go : ∀ i p, ps[i]? = some p → ∃ bt v, T = some ⟨bt, 0, none⟩ ∧ nb ≤ bt ∧ W.cell? ⟨bt, i, none⟩ = some v ∧ Tst nb W v p
  le : ps.length ≤ 100
theorem TstS.abv {nb : Nat} {W W' : World} {T : Option Addr} {ps : List TT} (h : TstS nb W T ps) (b : Abv nb W W') : TstS nb W' T ps :=
  ⟨fun i p hp => by obtain ⟨bt, v, h1, h0, h2, h3⟩ := h.go i p hp; exact ⟨bt, v, h1, h0, cell_abv h2 h0 b, h3.abv b⟩, h.le⟩
theorem TstS.on {nb : Nat} {W W' : World} {T : Option Addr} {ps : List TT} (h : TstS nb W T ps) (b : Below W.heap.size W W') : TstS nb W' T ps := h.abv (Abv.of b)
set_option maxRecDepth 100000 in
set_option maxHeartbeats 2000000 in
theorem row1_walk {nb : Nat} (x : Tn) (A : Option Addr) (c : Nat) (ps : List TT) (T : Option Addr) (ct p : Nat) (pb : Nat → Prop) (W : World) (hT : TstS nb W T ps) (h1 : W.cell? ⟨p, 0, none⟩ = some (.slice T ps.length ct)) (hA : AtS pb W x.kids (.slice A x.kids.length c)) (hF : Fit x) :
    Calls Tryz.prog 148 #[nodA x.datum A x.kids.length c, .pointer (some ⟨p, 0, none⟩)] W fun e w' => e = .returned (.bool (x.kids.length == ps.length && zipAll ps x.kids)) ∧ Below W.heap.size W w' := by
  have hle := hT.le
  obtain ⟨W1, hW1⟩ : ∃ W1, boxN W x.datum A x.kids.length c = W1 := ⟨_, rfl⟩
  have bW : Below W.heap.size W W1 := by rw [← hW1]; exact b1 _
  have g1 := cell_kept h1 bW
  have s5 : W1.cell? ⟨W.heap.size, 5, none⟩ = some (.slice A x.kids.length c) := by rw [← hW1]; simp
  have HT := Lib.hid (hT.on bW)
  have HA := Lib.hid (hA.keep (W' := W1) (fun b _ hl => bW.block b hl))
  have HW := Lib.hid bW
  have S5 := Lib.hid s5
  have G1 := Lib.hid g1
  have HF := Lib.hid hF
  clear hT hA h1 hF
  obtain ⟨kl, hkl⟩ : ∃ kl, x.kids.length = kl := ⟨_, rfl⟩
  have HK := Lib.hid hkl
  rw [hkl] at s5 ⊢
  rw [hkl] at hW1
  clear hkl
  unfold nodA
  by_cases hlen : kl = ps.length
  · have e1 : (kl == ps.length) = true := by simpa using hlen
    rw [e1, Bool.true_and]
    have R := Lib.hid (show Below W1.heap.size W1 W1 from Below.refl _ _)
    obtain ⟨z, hz⟩ : ∃ z, zipAll ps x.kids = z := ⟨_, rfl⟩
    rw [hz]
    have HZ := Lib.hid hz
    clear hz e1
    subst hlen
    go_enter Tryz.func148, Tryz.ntmps148
    go_wp2
    go_loopw [14] (fun i wr => ∃ i0 : Nat, i = .int .i64 i0 ∧ i0 ≤ ps.length ∧ Hid (zipAll (ps.take i0) x.kids = true) ∧ Hid (Below W1.heap.size W1 wr)) (fun i _ => ps.length - (intOf i).toNat)
    case atStart => exact ⟨0, rfl, Nat.zero_le _, Lib.hid (by rw [List.take_zero]; rfl), R⟩
    case round =>
      clear s5 g1 bW hW1
      obtain ⟨i0, rfl, hi0, hQ, hB⟩ := hrel
      have t5 := cell_kept S5.out hB.out
      rw [HK.out] at t5
      by_cases hi : i0 < ps.length
      · obtain ⟨q, hq⟩ : ∃ q, ps[i0]? = some q := ⟨_, List.getElem?_eq_getElem hi⟩
        obtain ⟨y, hy⟩ : ∃ y, x.kids[i0]? = some y := ⟨_, List.getElem?_eq_getElem (by rw [HK.out]; exact hi)⟩
        obtain ⟨bt, v, rfl, -, hv, hTv⟩ := (HT.out.on hB.out).go i0 q hq
        have hA1 := HA.out.keep (W' := wr) (fun b _ hl => hB.out.block b hl)
        obtain ⟨_, _, e1, hm, hL⟩ := hA1
        cases e1
        obtain ⟨b, o, rfl, hp, hAL⟩ := hL (by intro h0; rw [h0] at hy; simp at hy)
        have hA2 : AtS pb wr x.kids (.slice (some ⟨b, o, none⟩) x.kids.length c) := ⟨_, _, rfl, hm, fun _ => ⟨b, o, rfl, hp, hAL⟩⟩
        obtain ⟨A2, c2, hyk, m0, m1, m2, m3, m4, m5, m6⟩ := hA2.cells hy
        obtain ⟨f, cf, rfl, he, hf⟩ := hTv
        have C1 := Lib.hid (hf wr y A2 c2 pb (Abv.of (Below.refl _ _)) hyk (HF.out.kid (List.mem_of_getElem? hy)))
        have Hq := Lib.hid hq
        have Hy := Lib.hid hy
        have hmx : ps.length ≤ maxLen := by rw [← HK.out]; exact hm.1
        clear hf hyk hA2 hAL hL hm hq hy
        unfold nodA at C1
        obtain ⟨B, hBq⟩ : ∃ b, q y = b := ⟨_, rfl⟩
        have HQ := Lib.hid hBq
        rw [hBq] at C1
        clear hBq
        cases B
        · go_wp2_with fail
          refine C1.out.mono ?_
          rintro e w2 ⟨rfl, b2⟩
          have hb2 := Lib.hid (hB.out.trans (b2.mono hB.out.size))
          clear b2 m0 m1 m2 m3 m4 m5 m6
          go_wp2
          go_ret
          refine ⟨?_, HW.out.trans (hb2.out.mono HW.out.size)⟩
          rw [← HZ.out, zip_false Hq.out Hy.out HQ.out]
          rfl
        · go_wp2_with fail
          refine C1.out.mono ?_
          rintro e w2 ⟨rfl, b2⟩
          have hb2 := Lib.hid (hB.out.trans (b2.mono hB.out.size))
          clear b2 m0 m1 m2 m3 m4 m5 m6
          go_wp2
          refine ⟨⟨i0 + 1, rfl, hi, Lib.hid ?_, hb2⟩, meas_dec hi⟩
          rw [zip_snoc Hq.out Hy.out, hQ.out, HQ.out]
          rfl
      · have hi1 : i0 = ps.length := by omega
        go_wp2
        go_ret
        refine ⟨?_, HW.out.trans (hB.out.mono HW.out.size)⟩
        have h9 := hQ.out
        rw [hi1, List.take_length, HZ.out] at h9
        rw [h9]
        rfl
  · have e1 : (kl == ps.length) = false := by simpa using hlen
    rw [e1, Bool.false_and]
    have e2 : ((kl : Int) == (ps.length : Int)) = false := by
      rw [beq_eq_false_iff_ne]
      omega
    clear e1
    go_enter Tryz.func148, Tryz.ntmps148
    go_wp2
    go_ret
    exact ⟨rfl, HW.out⟩
set_option maxRecDepth 100000 in
set_option maxHeartbeats 2000000 in
theorem arow_any {nb : Nat} (ps : List TT) (T : Option Addr) (ct : Nat) (W : World) (hn : nb ≤ W.heap.size) (hT : TstS nb W T ps) : Calls Tryz.prog 94 #[.slice T ps.length ct] W fun e w' => ∃ v, e = .returned v ∧ Tst nb w' v (tRow ps) ∧ Below W.heap.size W w' := by
  have HT := Lib.hid hT
  clear hT
  go_enter Tryz.func94, Tryz.ntmps94
  go_wp2
  go_ret
  have B1 : Below W.heap.size W (W.alloc (.cells #[.slice T ps.length ct] 96)) := b1 _
  refine ⟨_, rfl, ⟨148, _, rfl, enters_of Tryz.func148 (by kernel_rfl) rfl, fun W2 x A c pb hW hA hF => ?_⟩, B1⟩
  have z : (W.alloc (.cells #[.slice T ps.length ct] 96)).heap.size = W.heap.size + 1 := by simp
  have hWW : Abv nb W W2 := hW.after B1
  have c1 : W2.cell? ⟨W.heap.size, 0, none⟩ = some (.slice T ps.length ct) := (World.cell?_of_block (hW.block W.heap.size hn (by rw [z]; omega))).trans (by simp)
  exact row1_walk x A c ps T ct _ pb W2 (HT.out.abv hWW) c1 hA hF
end Go.Proofs.YtfpmhahjemdodaaGreatDoor
namespace Go.Proofs.YtfpmhahjemdodaaGreatDoor
open Go.RowKit Go.Shelf
attribute [local go_sem] stFl hmf
theorem cloL_last : ∀ {l : List Tn} {y : Tn}, l.getLast? = some y → cloL l = cloG y
  | [], y, h => by simp at h
  | [x], y, h => by
    obtain rfl : x = y := by simpa using h
    rw [cloL]
  | x :: z :: l, y, h => by
    rw [cloL]
    exact cloL_last (by rw [List.getLast?_cons_cons] at h; exact h)
theorem cloG_eq (t : Tn) : cloG t = (if t.kids.length == 0 then true else if kd t == 48 && t.kids.length == 2 then false else if kd t == 48 || kd t == 50 || kd t == 51 || kd t == 52 || kd t == 56 then cloL t.kids else true) := by
  cases t
  rw [cloG]
  rfl
theorem depth_kid {t x : Tn} (h : x ∈ t.kids) : x.depth < t.depth := by
  have : ∀ l : List Tn, x ∈ l → x.depth ≤ Tr.depths l := by
    intro l
    induction l with
    | nil => intro h; simp at h
    | cons y l ih =>
      intro h
      rw [Tr.depths]
      rcases List.mem_cons.1 h with rfl | h
      · omega
      · have := ih h
        omega
  have h1 := this _ h
  rw [Tr.depth_eq t]
  omega
/-- Ahead of a round of closed: the node in the box. -/
structure CI (pb : Nat → Prop) (W : World) (t0 : Tn) (m : Nat) (w : World) : Prop where
  go : ∃ (t : Tn) (A : Option Addr) (c : Nat), t.depth = m ∧ w.heap[W.heap.size]? = some (.cells #[.int .i64 t.datum.k, .string t.datum.op, .string t.datum.st, .float .f64 t.datum.nm, .bool t.datum.fl, .slice A t.kids.length c, .int .i64 t.datum.ps] 25 (0, 0)) ∧ AtS pb w t.kids (.slice A t.kids.length c) ∧ cloG t = cloG t0
  b : Below W.heap.size W w
set_option maxRecDepth 100000 in
set_option maxHeartbeats 2000000 in
theorem closed_loop (x : Tn) (A : Option Addr) (c : Nat) (pb : Nat → Prop) (W : World) (hA : AtS pb W x.kids (.slice A x.kids.length c)) (hp : ∀ b, pb b → b < W.heap.size) :
    Calls Tryz.prog 104 #[nodA x.datum A x.kids.length c] W fun e w' => e = .returned (.bool (kGStat x.datum.k && cloG x)) ∧ Below W.heap.size W w' := by
  have C1 := fun W => astatement_any x.datum A x.kids.length c W
  obtain ⟨B, hB⟩ : ∃ b, kGStat x.datum.k = b := ⟨_, rfl⟩
  rw [hB] at C1 ⊢
  clear hB
  have C1 := Lib.hid C1
  obtain ⟨R, hR⟩ : ∃ b, cloG x = b := ⟨_, rfl⟩
  have HR := Lib.hid hR
  rw [hR]
  clear hR
  have HA := Lib.hid hA
  have HP := Lib.hid hp
  obtain ⟨kl, hkl⟩ : ∃ kl, x.kids.length = kl := ⟨_, rfl⟩
  have HK := Lib.hid hkl
  rw [hkl] at C1 ⊢
  clear hkl hA hp
  unfold nodA at C1 ⊢
  cases B
  · go_enter Tryz.func104, Tryz.ntmps104
    go_wp2_with fail
    refine (C1.out _).mono ?_
    rintro e w2 ⟨rfl, b2⟩
    have hb := Lib.hid ((b1 _).trans (b2.mono (b1 _).size))
    clear b2
    go_wp2
    go_ret
    exact ⟨by simp, hb.out⟩
  · rw [Bool.true_and]
    go_enter Tryz.func104, Tryz.ntmps104
    go_wp2_with fail
    refine (C1.out _).mono ?_
    rintro e w2 ⟨rfl, b2⟩
    have hI : CI pb W x x.depth w2 := by
      have hb := (b1 (.cells #[.int .i64 x.datum.k, .string x.datum.op, .string x.datum.st, .float .f64 x.datum.nm, .bool x.datum.fl, .slice A kl c, .int .i64 x.datum.ps] 25)).trans (b2.mono (b1 _).size)
      refine ⟨⟨x, A, c, rfl, ?_, HA.out.keep (fun b _ hl => hb.block b hl), rfl⟩, hb⟩
      rw [HK.out, b2.block _ (by simp)]
      exact World.alloc_heap_new _ _
    have HI := Lib.hid hI
    clear hI b2 C1
    go_wp2
    go_loopw [10] (fun _ wr => ∃ m, CI pb W x m wr) (fun _ wr => leastOf (fun m => CI pb W x m wr))
    case atStart => exact ⟨_, HI.out⟩
    case round =>
      clear HI
      have hs := leastOf_spec hrel
      obtain ⟨m, hm0⟩ : ∃ m, leastOf (fun m => CI pb W x m wr) = m := ⟨_, rfl⟩
      rw [hm0] at hs
      have hM := Lib.hid hm0
      obtain ⟨⟨⟨t, A1, c1, hd, hh, hAt, hcl⟩, hb⟩, -⟩ := hs
      have HB := Lib.hid hb
      have HH := Lib.hid hh
      have HAt := Lib.hid hAt
      have Hd := Lib.hid hd
      have Hcl := Lib.hid hcl
      have k0 := cell_of_row _ _ 0 _ _ _ hh
      have k5 := cell_of_row _ _ 5 _ _ _ hh
      replace k0 : wr.cell? ⟨W.heap.size, 0, none⟩ = some (.int .i64 t.datum.k) := k0
      replace k5 : wr.cell? ⟨W.heap.size, 5, none⟩ = some (.slice A1 t.kids.length c1) := k5
      clear hm0 hrel hb hh hAt hd hcl
      by_cases hz : t.kids.length = 0
      · rw [hz] at k5
        go_wp2
        go_ret
        refine ⟨?_, HB.out⟩
        rw [← HR.out, ← Hcl.out, cloG_eq, hz]
        rfl
      · obtain ⟨n, hn⟩ : ∃ n, t.kids.length = n + 1 := ⟨t.kids.length - 1, by omega⟩
        obtain ⟨y, hy⟩ : ∃ y, t.kids[n]? = some y := ⟨_, List.getElem?_eq_getElem (by omega)⟩
        have hlast : t.kids.getLast? = some y := by rw [List.getLast?_eq_getElem?, hn]; exact hy
        obtain ⟨_, _, e1, hm, hL⟩ := HAt.out
        cases e1
        obtain ⟨b, o, rfl, hp, hAL⟩ := hL (by intro h0; rw [h0] at hn; simp at hn)
        have hA2 : AtS pb wr t.kids (.slice (some ⟨b, o, none⟩) t.kids.length c1) := ⟨_, _, rfl, hm, fun _ => ⟨b, o, rfl, hp, hAL⟩⟩
        obtain ⟨A2, c2, hyk, m0, m1, m2, m3, m4, m5, m6⟩ := hA2.cells hy
        have HYK := Lib.hid hyk
        have hyd := Lib.hid (depth_kid (List.mem_of_getElem? hy))
        have hnm : n + 1 ≤ maxLen := by rw [← hn]; exact hm.1
        have hk1 : ((n + 1 : Nat) : Int) - 1 = (n : Int) := by omega
        have hnw : wrap64 (n : Int) = (n : Int) := by unfold maxLen at hnm; unfold wrap64; omega
        have Hnm := Lib.hid hnm
        clear hnm
        have hlt : (n : Int) < (n : Int) + 1 := by omega
        have hnn : (0 : Int) ≤ (n : Int) := by omega
        have Hn := Lib.hid hn
        have hpos : (0 : Int) < ((n + 1 : Nat) : Int) := by omega
        rw [hn] at k5
        clear hA2 hAL hL hm hyk hn hz
        have hgo : cloL t.kids = cloG x → CI pb W x y.depth (wr.setRow W.heap.size #[.int .i64 y.datum.k, .string y.datum.op, .string y.datum.st, .float .f64 y.datum.nm, .bool y.datum.fl, .slice A2 y.kids.length c2, .int .i64 y.datum.ps]) := fun hc => by
          refine ⟨⟨y, A2, c2, rfl, setRow_heap _ _ _ _ _ _ HH.out, HYK.out.keep (fun b hb _ => setRow_other _ _ _ _ (by have := HP.out b hb; omega)), by rw [← hc, cloL_last hlast]⟩, ?_⟩
          have h := HB.out
          exact ⟨h.os, h.tape, h.output, by rw [size_setRow]; exact h.size, fun k hk => (setRow_other wr W.heap.size k _ (by omega)).trans (h.block k hk)⟩
        have hend : ∀ w', CI pb W x y.depth w' → (∃ m, CI pb W x m w') ∧ leastOf (fun m => CI pb W x m w') < leastOf (fun m => CI pb W x m wr) := fun w' h => by
          refine ⟨⟨_, h⟩, ?_⟩
          rw [hM.out]
          refine Nat.lt_of_le_of_lt ((leastOf_spec ⟨_, h⟩).2 _ h) ?_
          have h1 := hyd.out
          have h2 := Hd.out
          omega
        have HGO := Lib.hid hgo
        have HEND := Lib.hid hend
        clear hgo hend hlast hy
        by_cases h48 : t.datum.k = 48
        · rw [h48] at k0
          by_cases h2 : n = 1
          · subst h2
            go_wp2
            go_ret
            refine ⟨?_, HB.out⟩
            have h9 := Hcl.out
            rw [cloG_eq, Hn.out] at h9
            simp only [kd, h48] at h9
            rw [← HR.out, ← h9]
            rfl
          · have h2i : ((n : Int) + 1 == 2) = false := by
              rw [beq_eq_false_iff_ne]
              omega
            have h2j : (((n + 1 : Nat) : Int) == 2) = false := by
              rw [beq_eq_false_iff_ne]
              omega
            have h2k : ¬ (n : Int) + 1 = 2 := by omega
            go_wp2_with (refine wpList_store_row rfl 25 _ _ rfl W.heap.size #[.int .i64 y.datum.k, .string y.datum.op, .string y.datum.st, .float .f64 y.datum.nm, .bool y.datum.fl, .slice A2 y.kids.length c2, .int .i64 y.datum.ps] rfl rfl 25 _ HH.out (by kernel_rfl) rfl (by simp [Value.oneCell']) ?_)
            have hc : cloL t.kids = cloG x := by
              have h9 := Hcl.out
              rw [cloG_eq, Hn.out] at h9
              simp only [kd, h48] at h9
              simpa [h2] using h9
            refine ⟨?_, (HEND.out _ (HGO.out hc)).2⟩
            repeat apply Exists.intro
            exact ⟨⟨_, HGO.out hc⟩, rfl⟩
        · by_cases h50 : t.datum.k = 50
          · rw [h50] at k0
            go_wp2_with (refine wpList_store_row rfl 25 _ _ rfl W.heap.size #[.int .i64 y.datum.k, .string y.datum.op, .string y.datum.st, .float .f64 y.datum.nm, .bool y.datum.fl, .slice A2 y.kids.length c2, .int .i64 y.datum.ps] rfl rfl 25 _ HH.out (by kernel_rfl) rfl (by simp [Value.oneCell']) ?_)
            have hc : cloL t.kids = cloG x := by
              have h9 := Hcl.out
              rw [cloG_eq, Hn.out] at h9
              simp only [kd, h50] at h9
              simpa using h9
            refine ⟨?_, (HEND.out _ (HGO.out hc)).2⟩
            repeat apply Exists.intro
            exact ⟨⟨_, HGO.out hc⟩, rfl⟩
          · by_cases h51 : t.datum.k = 51
            · rw [h51] at k0
              go_wp2_with (refine wpList_store_row rfl 25 _ _ rfl W.heap.size #[.int .i64 y.datum.k, .string y.datum.op, .string y.datum.st, .float .f64 y.datum.nm, .bool y.datum.fl, .slice A2 y.kids.length c2, .int .i64 y.datum.ps] rfl rfl 25 _ HH.out (by kernel_rfl) rfl (by simp [Value.oneCell']) ?_)
              have hc : cloL t.kids = cloG x := by
                have h9 := Hcl.out
                rw [cloG_eq, Hn.out] at h9
                simp only [kd, h51] at h9
                simpa using h9
              refine ⟨?_, (HEND.out _ (HGO.out hc)).2⟩
              repeat apply Exists.intro
              exact ⟨⟨_, HGO.out hc⟩, rfl⟩
            · by_cases h52 : t.datum.k = 52
              · rw [h52] at k0
                go_wp2_with (refine wpList_store_row rfl 25 _ _ rfl W.heap.size #[.int .i64 y.datum.k, .string y.datum.op, .string y.datum.st, .float .f64 y.datum.nm, .bool y.datum.fl, .slice A2 y.kids.length c2, .int .i64 y.datum.ps] rfl rfl 25 _ HH.out (by kernel_rfl) rfl (by simp [Value.oneCell']) ?_)
                have hc : cloL t.kids = cloG x := by
                  have h9 := Hcl.out
                  rw [cloG_eq, Hn.out] at h9
                  simp only [kd, h52] at h9
                  simpa using h9
                refine ⟨?_, (HEND.out _ (HGO.out hc)).2⟩
                repeat apply Exists.intro
                exact ⟨⟨_, HGO.out hc⟩, rfl⟩
              · by_cases h56 : t.datum.k = 56
                · rw [h56] at k0
                  go_wp2_with (refine wpList_store_row rfl 25 _ _ rfl W.heap.size #[.int .i64 y.datum.k, .string y.datum.op, .string y.datum.st, .float .f64 y.datum.nm, .bool y.datum.fl, .slice A2 y.kids.length c2, .int .i64 y.datum.ps] rfl rfl 25 _ HH.out (by kernel_rfl) rfl (by simp [Value.oneCell']) ?_)
                  have hc : cloL t.kids = cloG x := by
                    have h9 := Hcl.out
                    rw [cloG_eq, Hn.out] at h9
                    simp only [kd, h56] at h9
                    simpa using h9
                  refine ⟨?_, (HEND.out _ (HGO.out hc)).2⟩
                  repeat apply Exists.intro
                  exact ⟨⟨_, HGO.out hc⟩, rfl⟩
                · go_wp2
                  go_ret
                  refine ⟨?_, HB.out⟩
                  have h9 := Hcl.out
                  rw [cloG_eq, Hn.out] at h9
                  rw [← HR.out, ← h9]
                  simp [kd, h48, h50, h51, h52, h56]
set_option maxRecDepth 100000 in
set_option maxHeartbeats 2000000 in
theorem aoneDefault_any (x : Tn) (A : Option Addr) (c : Nat) (pb : Nat → Prop) (W : World) (hA : AtS pb W x.kids (.slice A x.kids.length c)) :
    Calls Tryz.prog 106 #[nodA x.datum A x.kids.length c] W fun e w' => e = .returned (.bool (tOneDef x)) ∧ Below W.heap.size W w' := by
  obtain ⟨_, _, e1, hmx, hnn⟩ := id hA
  cases e1
  have HA := Lib.hid hA
  have B0 := Lib.hid (b1 (w := W) (.cells #[.int .i64 x.datum.k, .string x.datum.op, .string x.datum.st, .float .f64 x.datum.nm, .bool x.datum.fl, .slice A x.kids.length c, .int .i64 x.datum.ps] 25))
  obtain ⟨F, hF⟩ : ∃ F : Tn → Bool, (fun y => kd y == 58 && y.datum.fl) = F := ⟨_, rfl⟩
  have HF := Lib.hid hF
  obtain ⟨R, hR⟩ : ∃ R, tOneDef x = R := ⟨_, rfl⟩
  have HR := Lib.hid hR
  rw [hR]
  clear hR hF hA hnn
  unfold nodA
  go_enter Tryz.func106, Tryz.ntmps106
  go_wp2
  go_loopw [3, 9] (fun n i wr => ∃ i0 : Nat, i = .int .i64 i0 ∧ i0 ≤ x.kids.length ∧ n = .int .i64 (((x.kids.take i0).filter F).length : Nat) ∧ Hid (Below W.heap.size W wr)) (fun _ i _ => x.kids.length - (intOf i).toNat)
  case atStart => exact ⟨0, rfl, Nat.zero_le _, by simp, B0⟩
  case round =>
    obtain ⟨i0, rfl, hi0, rfl, hB⟩ := hrel
    by_cases hi : i0 < x.kids.length
    · obtain ⟨y, hy⟩ : ∃ y, x.kids[i0]? = some y := ⟨_, List.getElem?_eq_getElem hi⟩
      have hA1 := HA.out.keep (W' := wr) (fun b _ hl => hB.out.block b hl)
      obtain ⟨_, _, e1, hm, hL⟩ := hA1
      cases e1
      obtain ⟨b, o, rfl, hp, hAL⟩ := hL (by intro h0; rw [h0] at hy; simp at hy)
      have hA2 : AtS pb wr x.kids (.slice (some ⟨b, o, none⟩) x.kids.length c) := ⟨_, _, rfl, hm, fun _ => ⟨b, o, rfl, hp, hAL⟩⟩
      obtain ⟨A2, c2, hyk, m0, m1, m2, m3, m4, m5, m6⟩ := hA2.cells hy
      have hwj := wrap_succ (j := i0) (by unfold maxLen at hmx ⊢; omega)
      have hfl : ((x.kids.take i0).filter F).length ≤ i0 := Nat.le_trans (List.length_filter_le _ _) (by rw [List.length_take]; omega)
      have hwc := wrap_succ (j := ((x.kids.take i0).filter F).length) (by unfold maxLen at hmx ⊢; omega)
      have hB2 := Lib.hid (fun X => hB.out.trans ((b1 (w := wr) X).mono hB.out.size))
      have hst : ((x.kids.take (i0 + 1)).filter F).length = ((x.kids.take i0).filter F).length + if F y = true then 1 else 0 := by
        rw [List.take_add_one, hy, List.filter_append, List.length_append]
        cases hFy : F y <;> simp [hFy]
      have HST := Lib.hid hst
      have hFy : F y = (y.datum.k == 58 && y.datum.fl) := by rw [← HF.out]; rfl
      have HFY := Lib.hid hFy
      clear hA2 hAL hL hm hyk hy hst hFy
      obtain ⟨q, hq⟩ : ∃ q, ((x.kids.take i0).filter F).length = q := ⟨_, rfl⟩
      have HQ := Lib.hid hq
      rw [hq] at hwc hfl ⊢
      clear hq hfl
      obtain ⟨K, hK⟩ : ∃ b, (y.datum.k == 58) = b := ⟨_, rfl⟩
      cases K
      · go_wp2
        refine ⟨⟨i0 + 1, congrArg _ hwj, hi, ?_, Lib.hid (hB2.out _)⟩, ?_⟩
        · rw [HST.out, HFY.out, hK, HQ.out]
          rfl
        · rw [hwj]
          exact meas_dec hi
      · cases hfl : y.datum.fl
        · rw [hfl] at m4
          go_wp2
          refine ⟨⟨i0 + 1, congrArg _ hwj, hi, ?_, Lib.hid (hB2.out _)⟩, ?_⟩
          · rw [HST.out, HFY.out, hK, hfl, HQ.out]
            rfl
          · rw [hwj]
            exact meas_dec hi
        · rw [hfl] at m4
          go_wp2
          refine ⟨⟨i0 + 1, congrArg _ hwj, hi, ?_, Lib.hid (hB2.out _)⟩, ?_⟩
          · rw [HST.out, HFY.out, hK, hfl, HQ.out]
            exact congrArg _ hwc
          · rw [hwj]
            exact meas_dec hi
    · have hi1 : i0 = x.kids.length := by omega
      have hres : (decide ((((x.kids.take i0).filter F).length : Int) ≤ 1)) = R := by
        rw [← HR.out, hi1, List.take_length, ← HF.out]
        unfold tOneDef
        rw [decide_eq_decide]
        omega
      have HRES := Lib.hid hres
      obtain ⟨q, hq⟩ : ∃ q, ((x.kids.take i0).filter F).length = q := ⟨_, rfl⟩
      rw [hq] at hres ⊢
      clear hq
      go_wp2
      go_ret
      exact ⟨by first | rfl | (rw [← hres]; rfl), hB.out⟩
end Go.Proofs.YtfpmhahjemdodaaGreatDoor
namespace Go.Proofs.YtfpmhahjemdodaaGreatDoor
open Go.RowKit Go.Shelf
attribute [local go_sem] stFl hmf f64bits_run
theorem eqfn (f : Fn) (a b : Array Value) (w : World) : Sem.run Tryz.prog (binOp BinOp.eql 61 (.func f a b) .nilFunc) w = .ok (.bool false) w := by
  kernel_rfl
theorem eqnf (w : World) : Sem.run Tryz.prog (binOp BinOp.eql 61 .nilFunc .nilFunc) w = .ok (.bool true) w := by
  kernel_rfl
attribute [local go_sem] eqfn eqnf
/-- A test, or none. -/
def Prt (nb : Nat) (W : World) (v : Value) : Option TT → Prop
  | none => v = .nilFunc
  | some p => Tst nb W v p
theorem Prt.abv {nb : Nat} {w w' : World} {v : Value} {o : Option TT} (h : Prt nb w v o) (hb : Abv nb w w') : Prt nb w' v o := by
  cases o with
  | none => exact h
  | some p => exact Tst.abv h hb
set_option maxRecDepth 100000 in
set_option maxHeartbeats 2000000 in
theorem apart_any {nb : Nat} (t : Tn) (A : Option Addr) (c : Nat) (v : Value) (p : Option TT) (z : Bool) (pb : Nat → Prop) (W : World) (hv : Prt nb W v p) (hA : AtS pb W t.kids (.slice A t.kids.length c)) (hF : Fit t) :
    Calls Tryz.prog 35 #[v, nodA t.datum A t.kids.length c, .bool z] W fun e w' => e = .returned (.bool (prt p t z)) ∧ Below W.heap.size W w' := by
  have HB := Lib.hid (b1 (w := W))
  cases p with
  | none =>
    obtain rfl : v = .nilFunc := hv
    unfold nodA
    go_enter Tryz.func35, Tryz.ntmps35
    go_wp2
    go_ret
    exact ⟨rfl, HB.out _⟩
  | some q =>
    obtain ⟨f, cf, rfl, he, hf⟩ := hv
    have C1 := Lib.hid (fun X => hf (W.alloc X) t A c pb (Abv.of (b1 X)) (hA.keep (fun b _ hl => (b1 X).block b hl)) hF)
    clear hf hA hF
    unfold nodA at C1 ⊢
    go_enter Tryz.func35, Tryz.ntmps35
    go_wp2_with fail
    refine (C1.out _).mono ?_
    rintro e w3 ⟨rfl, b3⟩
    go_wp2
    go_ret
    exact ⟨rfl, (HB.out _).trans (b3.mono (HB.out _).size)⟩
end Go.Proofs.YtfpmhahjemdodaaGreatDoor
