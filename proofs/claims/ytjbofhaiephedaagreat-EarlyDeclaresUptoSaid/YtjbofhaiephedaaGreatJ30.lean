/-
  The law's has and declared.
-/
import Derived.Test.YtjbofhaiephedaaGreatJo
import Derived.Deep.LoopGhost
namespace Go.Proofs.YtjbofhaiephedaaGreat
open Go.RowKit Go.Shelf
attribute [local go_sem] stFl hmf
/-- Texts in a slice. -/
structure StrS (W : World) (A : Option Addr) (ls : List ByteArray) : Prop where
  go : ∀ i s, ls[i]? = some s → ∃ b o, A = some ⟨b, o, none⟩ ∧ W.cell? ⟨b, o + i, none⟩ = some (.string s)
  le : ls.length ≤ 4194304
theorem StrS.on {W W' : World} {A : Option Addr} {ls : List ByteArray} (h : StrS W A ls) (b : Below W.heap.size W W') : StrS W' A ls :=
  ⟨fun i s hi => by obtain ⟨b', o, h1, h2⟩ := h.go i s hi; exact ⟨b', o, h1, cell_kept h2 b⟩, h.le⟩
def hasL (ls : List ByteArray) (s : ByteArray) : Bool := ls.any fun x => x.toList == s.toList
mutual
/-- Is all that is declared in a tree among some names? -/
def decG (ls : List ByteArray) : Tn → Bool
  | .mk d l => if (d.k == 45 || d.k == 42) && !hasL ls d.st then false else if d.k == 13 || d.k == 42 then true else decL ls l
def decL (ls : List ByteArray) : List Tn → Bool
  | [] => true
  | x :: l => decG ls x && decL ls l
end
theorem decG_eq (ls : List ByteArray) (t : Tn) : decG ls t = (if (t.datum.k == 45 || t.datum.k == 42) && !hasL ls t.datum.st then false else if t.datum.k == 13 || t.datum.k == 42 then true else decL ls t.kids) := by
  cases t
  rw [decG]
  rfl
theorem decL_all (ls : List ByteArray) : ∀ l : List Tn, decL ls l = l.all (decG ls)
  | [] => by rw [decL]; rfl
  | x :: l => by rw [decL, decL_all ls l, List.all_cons]
theorem all_take {p : TT} {l : List Tn} {i : Nat} {x : Tn} (h : (l.take i).all p = true) (hx : l[i]? = some x) (hp : p x = true) : (l.take (i + 1)).all p = true := by
  rw [List.take_add_one, hx, List.all_append, h]
  simp [hp]
theorem all_not_at {p : TT} {l : List Tn} {i : Nat} {x : Tn} (hx : l[i]? = some x) (hp : p x = false) : l.all p = false := by
  rw [List.all_eq_false]
  exact ⟨x, List.mem_of_getElem? hx, by rw [hp]; simp⟩
theorem kid_depth {t x : Tn} (h : x ∈ t.kids) : x.depth < t.depth := by
  have : ∀ l : List Tn, x ∈ l → x.depth ≤ Tr.depths l := by
    intro l
    induction l with
    | nil => intro h; simp at h
    | cons y l ih =>
      intro h
      rw [Tr.depths]
      rcases List.mem_cons.1 h with rfl | h
      · omega
      · have := ih h
        omega
  have h1 := this _ h
  rw [Tr.depth_eq t]
  omega
set_option maxRecDepth 100000 in
set_option maxHeartbeats 2000000 in
theorem has_any (ls : List ByteArray) (A : Option Addr) (c : Nat) (s : ByteArray) (w : World) (hS : StrS w A ls) :
    Calls Tryz.prog 14 #[.slice A ls.length c, .string s] w fun e w' => e = .returned (.bool (hasL ls s)) ∧ w = w' := by
  have hle := hS.le
  have HS := Lib.hid hS
  obtain ⟨R, hR⟩ : ∃ R, hasL ls s = R := ⟨_, rfl⟩
  have HR := Lib.hid hR
  rw [hR]
  clear hS hR
  go_enter Tryz.func14, Tryz.ntmps14
  go_wp2
  go_loopw [5] (fun i wr => ∃ i0 : Nat, i = .int .i64 i0 ∧ i0 ≤ ls.length ∧ Hid ((ls.take i0).any (fun k => k.toList == s.toList) = false) ∧ w = wr) (fun i _ => ls.length - (intOf i).toNat)
  case atStart => exact ⟨0, rfl, Nat.zero_le _, Lib.hid (by simp), rfl⟩
  case round =>
    obtain ⟨i0, rfl, hi0, hA, rfl⟩ := hrel
    by_cases hi : i0 < ls.length
    · obtain ⟨k, hk⟩ : ∃ k, ls[i0]? = some k := ⟨_, List.getElem?_eq_getElem hi⟩
      obtain ⟨b, oo, rfl, hcell⟩ := HS.out.go i0 k hk
      have hkk := Lib.hid hk
      clear hk
      cases hq : (k.toList == s.toList)
      · go_wp2
        refine ⟨⟨i0 + 1, rfl, hi, Lib.hid ?_, by trivial⟩, meas_dec hi⟩
        rw [List.take_add_one, hkk.out, List.any_append, hA.out]
        show (false || ((k.toList == s.toList) || false)) = false
        rw [hq]
        rfl
      · go_wp2
        go_ret
        refine ⟨?_, rfl⟩
        have hm := List.mem_of_getElem? hkk.out
        have : hasL ls s = true := List.any_eq_true.2 ⟨k, hm, hq⟩
        rw [← HR.out, this]
        rfl
    · have hi1 : i0 = ls.length := by omega
      go_wp2
      go_ret
      refine ⟨?_, rfl⟩
      have hA' := hA.out
      rw [hi1, List.take_length] at hA'
      rw [← HR.out]
      unfold hasL
      rw [hA']
      rfl
set_option maxRecDepth 100000 in
set_option maxHeartbeats 2000000 in
theorem declared_kids (x : Tn) (A : Option Addr) (c : Nat) (ls : List ByteArray) (T : Option Addr) (ct : Nat) (pb : Nat → Prop) (W : World) (hA : AtS pb W x.kids (.slice A x.kids.length c)) (hS : StrS W T ls)
    (hI : ∀ (y : Tn) (A : Option Addr) (c : Nat) (W : World), y ∈ x.kids → AtS pb W y.kids (.slice A y.kids.length c) → StrS W T ls → Calls Tryz.prog 15 #[nodA y.datum A y.kids.length c, .slice T ls.length ct] W fun e w' => e = .returned (.bool (decG ls y)) ∧ Below W.heap.size W w') (h1 : (x.datum.k == 45) = false) (h2 : (x.datum.k == 42) = false) (h3 : (x.datum.k == 13) = false) :
    Calls Tryz.prog 15 #[nodA x.datum A x.kids.length c, .slice T ls.length ct] W fun e w' => e = .returned (.bool (decG ls x)) ∧ Below W.heap.size W w' := by
  obtain ⟨_, _, e1, hmx, -⟩ := id hA
  cases e1
  have hmx := hmx.1
  obtain ⟨W1, hW1⟩ : ∃ W1, boxN W x.datum A x.kids.length c = W1 := ⟨_, rfl⟩
  have bW : Below W.heap.size W W1 := by rw [← hW1]; exact b1 _
  have s0 : W1.cell? ⟨W.heap.size, 0, none⟩ = some (.int .i64 x.datum.k) := by rw [← hW1]; simp
  have s2 : W1.cell? ⟨W.heap.size, 2, none⟩ = some (.string x.datum.st) := by rw [← hW1]; simp
  have s5 : W1.cell? ⟨W.heap.size, 5, none⟩ = some (.slice A x.kids.length c) := by rw [← hW1]; simp
  have S5 := Lib.hid s5
  have HA := Lib.hid (hA.keep (W' := W1) (fun b _ hl => bW.block b hl))
  have HS := Lib.hid (hS.on bW)
  have IH := Lib.hid hI
  have HW := Lib.hid bW
  have B1 := Lib.hid (Below.refl W1.heap.size W1)
  have C1 := Lib.hid (has_any ls T ct x.datum.st W1 HS.out)
  obtain ⟨R, hR⟩ : ∃ R, decG ls x = R := ⟨_, rfl⟩
  have HR := Lib.hid hR
  rw [hR]
  obtain ⟨H, hH⟩ : ∃ H, hasL ls x.datum.st = H := ⟨_, rfl⟩
  rw [hH] at C1
  have HH := Lib.hid hH
  clear hA hS hI hR hH
  unfold nodA
  go_enter Tryz.func15, Tryz.ntmps15
  have FIN := Lib.hid (show decG ls x = x.kids.all (decG ls) by rw [decG_eq, h1, h2, h3, decL_all]; rfl)
  go_wp2
  clear hW1 bW
  go_loopw [5] (fun i wr => ∃ i0 : Nat, i = .int .i64 i0 ∧ i0 ≤ x.kids.length ∧ Hid ((x.kids.take i0).all (decG ls) = true) ∧ Hid (Below W1.heap.size W1 wr)) (fun i _ => x.kids.length - (intOf i).toNat)
  case atStart => exact ⟨0, rfl, Nat.zero_le _, Lib.hid (by simp), B1⟩
  case round =>
    obtain ⟨i0, rfl, hi0, hQ, hB⟩ := hrel
    have t5 := cell_kept S5.out hB.out
    clear s5 s0 s2
    by_cases hi : i0 < x.kids.length
    · obtain ⟨y, hy⟩ : ∃ y, x.kids[i0]? = some y := ⟨_, List.getElem?_eq_getElem hi⟩
      have hA1 := HA.out.keep (W' := wr) (fun b _ hl => hB.out.block b hl)
      obtain ⟨b, oo, s6, e1, -, -, hr, hk6⟩ := hA1.nth hy
      obtain ⟨A2, c2, rfl, hm6, hn6⟩ := hk6
      cases e1
      have m0 : wr.cell? ⟨b, oo + i0 * 7, none⟩ = some (.int .i64 y.datum.k) := hr 0 _ rfl
      have m1 := hr 1 _ rfl
      have m2 := hr 2 _ rfl
      have m3 := hr 3 _ rfl
      have m4 := hr 4 _ rfl
      have m5 := hr 5 _ rfl
      have m6 := hr 6 _ rfl
      have hwj := wrap_succ (j := i0) (by unfold maxLen at hmx ⊢; omega)
      have C2 := Lib.hid (IH.out y A2 c2 wr (List.mem_of_getElem? hy) ⟨A2, c2, rfl, hm6, hn6⟩ (HS.out.on hB.out))
      have HY := Lib.hid hy
      clear hr hn6 hy hA1 hm6
      unfold nodA at C2
      obtain ⟨D, hD⟩ : ∃ b, decG ls y = b := ⟨_, rfl⟩
      have HD := Lib.hid hD
      rw [hD] at C2
      clear hD
      cases D
      · go_wp2_with fail
        refine C2.out.mono ?_
        rintro e w2 ⟨rfl, b2⟩
        have hb2 := Lib.hid (hB.out.trans (b2.mono hB.out.size))
        clear b2 m0 m1 m2 m3 m4 m5 m6 t5
        go_wp2
        go_ret
        refine ⟨?_, HW.out.trans (hb2.out.mono HW.out.size)⟩
        rw [← HR.out, FIN.out, all_not_at HY.out HD.out]
        rfl
      · go_wp2_with fail
        refine C2.out.mono ?_
        rintro e w2 ⟨rfl, b2⟩
        have hb2 := Lib.hid (hB.out.trans (b2.mono hB.out.size))
        clear b2 m0 m1 m2 m3 m4 m5 m6 t5
        go_wp2
        refine ⟨⟨i0 + 1, congrArg _ hwj, hi, Lib.hid (all_take hQ.out HY.out HD.out), hb2⟩, ?_⟩
        rw [hwj]
        exact meas_dec hi
    · have hi1 : i0 = x.kids.length := by omega
      go_wp2
      go_ret
      refine ⟨?_, HW.out.trans (hB.out.mono HW.out.size)⟩
      have hA' := hQ.out
      rw [hi1, List.take_length] at hA'
      rw [← HR.out, FIN.out, hA']
      rfl
set_option maxRecDepth 100000 in
set_option maxHeartbeats 2000000 in
theorem declared_var (x : Tn) (A : Option Addr) (c : Nat) (ls : List ByteArray) (T : Option Addr) (ct : Nat) (pb : Nat → Prop) (W : World) (hA : AtS pb W x.kids (.slice A x.kids.length c)) (hS : StrS W T ls)
    (hI : ∀ (y : Tn) (A : Option Addr) (c : Nat) (W : World), y ∈ x.kids → AtS pb W y.kids (.slice A y.kids.length c) → StrS W T ls → Calls Tryz.prog 15 #[nodA y.datum A y.kids.length c, .slice T ls.length ct] W fun e w' => e = .returned (.bool (decG ls y)) ∧ Below W.heap.size W w') (h1 : x.datum.k = 45) (hh : hasL ls x.datum.st = true) :
    Calls Tryz.prog 15 #[nodA x.datum A x.kids.length c, .slice T ls.length ct] W fun e w' => e = .returned (.bool (decG ls x)) ∧ Below W.heap.size W w' := by
  obtain ⟨_, _, e1, hmx, -⟩ := id hA
  cases e1
  have hmx := hmx.1
  obtain ⟨W1, hW1⟩ : ∃ W1, boxN W x.datum A x.kids.length c = W1 := ⟨_, rfl⟩
  have bW : Below W.heap.size W W1 := by rw [← hW1]; exact b1 _
  have s0 : W1.cell? ⟨W.heap.size, 0, none⟩ = some (.int .i64 x.datum.k) := by rw [← hW1]; simp
  have s2 : W1.cell? ⟨W.heap.size, 2, none⟩ = some (.string x.datum.st) := by rw [← hW1]; simp
  have s5 : W1.cell? ⟨W.heap.size, 5, none⟩ = some (.slice A x.kids.length c) := by rw [← hW1]; simp
  have S5 := Lib.hid s5
  have HA := Lib.hid (hA.keep (W' := W1) (fun b _ hl => bW.block b hl))
  have HS := Lib.hid (hS.on bW)
  have IH := Lib.hid hI
  have HW := Lib.hid bW
  have B1 := Lib.hid (Below.refl W1.heap.size W1)
  have C1 := Lib.hid (has_any ls T ct x.datum.st W1 HS.out)
  obtain ⟨R, hR⟩ : ∃ R, decG ls x = R := ⟨_, rfl⟩
  have HR := Lib.hid hR
  rw [hR]
  obtain ⟨H, hH⟩ : ∃ H, hasL ls x.datum.st = H := ⟨_, rfl⟩
  rw [hH] at C1
  have HH := Lib.hid hH
  clear hA hS hI hR hH
  unfold nodA
  go_enter Tryz.func15, Tryz.ntmps15
  have FIN := Lib.hid (show decG ls x = x.kids.all (decG ls) by rw [decG_eq, h1, hh, decL_all]; rfl)
  obtain rfl : true = H := hh.symm.trans HH.out
  have hk1 : (x.datum.k == 45) = true := by rw [h1]; rfl
  have hk2 : (x.datum.k == 42) = false := by rw [h1]; rfl
  have hk3 : (x.datum.k == 13) = false := by rw [h1]; rfl
  clear h1
  go_wp2_with fail
  refine C1.out.mono ?_
  rintro e w2 ⟨rfl, hq⟩
  subst hq
  go_wp2
  clear hW1 bW
  go_loopw [5] (fun i wr => ∃ i0 : Nat, i = .int .i64 i0 ∧ i0 ≤ x.kids.length ∧ Hid ((x.kids.take i0).all (decG ls) = true) ∧ Hid (Below W1.heap.size W1 wr)) (fun i _ => x.kids.length - (intOf i).toNat)
  case atStart => exact ⟨0, rfl, Nat.zero_le _, Lib.hid (by simp), B1⟩
  case round =>
    obtain ⟨i0, rfl, hi0, hQ, hB⟩ := hrel
    have t5 := cell_kept S5.out hB.out
    clear s5 s0 s2
    by_cases hi : i0 < x.kids.length
    · obtain ⟨y, hy⟩ : ∃ y, x.kids[i0]? = some y := ⟨_, List.getElem?_eq_getElem hi⟩
      have hA1 := HA.out.keep (W' := wr) (fun b _ hl => hB.out.block b hl)
      obtain ⟨b, oo, s6, e1, -, -, hr, hk6⟩ := hA1.nth hy
      obtain ⟨A2, c2, rfl, hm6, hn6⟩ := hk6
      cases e1
      have m0 : wr.cell? ⟨b, oo + i0 * 7, none⟩ = some (.int .i64 y.datum.k) := hr 0 _ rfl
      have m1 := hr 1 _ rfl
      have m2 := hr 2 _ rfl
      have m3 := hr 3 _ rfl
      have m4 := hr 4 _ rfl
      have m5 := hr 5 _ rfl
      have m6 := hr 6 _ rfl
      have hwj := wrap_succ (j := i0) (by unfold maxLen at hmx ⊢; omega)
      have C2 := Lib.hid (IH.out y A2 c2 wr (List.mem_of_getElem? hy) ⟨A2, c2, rfl, hm6, hn6⟩ (HS.out.on hB.out))
      have HY := Lib.hid hy
      clear hr hn6 hy hA1 hm6
      unfold nodA at C2
      obtain ⟨D, hD⟩ : ∃ b, decG ls y = b := ⟨_, rfl⟩
      have HD := Lib.hid hD
      rw [hD] at C2
      clear hD
      cases D
      · go_wp2_with fail
        refine C2.out.mono ?_
        rintro e w2 ⟨rfl, b2⟩
        have hb2 := Lib.hid (hB.out.trans (b2.mono hB.out.size))
        clear b2 m0 m1 m2 m3 m4 m5 m6 t5
        go_wp2
        go_ret
        refine ⟨?_, HW.out.trans (hb2.out.mono HW.out.size)⟩
        rw [← HR.out, FIN.out, all_not_at HY.out HD.out]
        rfl
      · go_wp2_with fail
        refine C2.out.mono ?_
        rintro e w2 ⟨rfl, b2⟩
        have hb2 := Lib.hid (hB.out.trans (b2.mono hB.out.size))
        clear b2 m0 m1 m2 m3 m4 m5 m6 t5
        go_wp2
        refine ⟨⟨i0 + 1, congrArg _ hwj, hi, Lib.hid (all_take hQ.out HY.out HD.out), hb2⟩, ?_⟩
        rw [hwj]
        exact meas_dec hi
    · have hi1 : i0 = x.kids.length := by omega
      go_wp2
      go_ret
      refine ⟨?_, HW.out.trans (hB.out.mono HW.out.size)⟩
      have hA' := hQ.out
      rw [hi1, List.take_length] at hA'
      rw [← HR.out, FIN.out, hA']
      rfl
set_option maxRecDepth 100000 in
set_option maxHeartbeats 2000000 in
theorem declared_fun (x : Tn) (A : Option Addr) (c : Nat) (ls : List ByteArray) (T : Option Addr) (ct : Nat) (pb : Nat → Prop) (W : World) (hA : AtS pb W x.kids (.slice A x.kids.length c)) (hS : StrS W T ls)
    (hI : ∀ (y : Tn) (A : Option Addr) (c : Nat) (W : World), y ∈ x.kids → AtS pb W y.kids (.slice A y.kids.length c) → StrS W T ls → Calls Tryz.prog 15 #[nodA y.datum A y.kids.length c, .slice T ls.length ct] W fun e w' => e = .returned (.bool (decG ls y)) ∧ Below W.heap.size W w') (h1 : (x.datum.k == 45) = false) (h2 : (x.datum.k == 42) = true) (hh : hasL ls x.datum.st = true) :
    Calls Tryz.prog 15 #[nodA x.datum A x.kids.length c, .slice T ls.length ct] W fun e w' => e = .returned (.bool (decG ls x)) ∧ Below W.heap.size W w' := by
  obtain ⟨_, _, e1, hmx, -⟩ := id hA
  cases e1
  have hmx := hmx.1
  obtain ⟨W1, hW1⟩ : ∃ W1, boxN W x.datum A x.kids.length c = W1 := ⟨_, rfl⟩
  have bW : Below W.heap.size W W1 := by rw [← hW1]; exact b1 _
  have s0 : W1.cell? ⟨W.heap.size, 0, none⟩ = some (.int .i64 x.datum.k) := by rw [← hW1]; simp
  have s2 : W1.cell? ⟨W.heap.size, 2, none⟩ = some (.string x.datum.st) := by rw [← hW1]; simp
  have s5 : W1.cell? ⟨W.heap.size, 5, none⟩ = some (.slice A x.kids.length c) := by rw [← hW1]; simp
  have S5 := Lib.hid s5
  have HA := Lib.hid (hA.keep (W' := W1) (fun b _ hl => bW.block b hl))
  have HS := Lib.hid (hS.on bW)
  have IH := Lib.hid hI
  have HW := Lib.hid bW
  have B1 := Lib.hid (Below.refl W1.heap.size W1)
  have C1 := Lib.hid (has_any ls T ct x.datum.st W1 HS.out)
  obtain ⟨R, hR⟩ : ∃ R, decG ls x = R := ⟨_, rfl⟩
  have HR := Lib.hid hR
  rw [hR]
  obtain ⟨H, hH⟩ : ∃ H, hasL ls x.datum.st = H := ⟨_, rfl⟩
  rw [hH] at C1
  have HH := Lib.hid hH
  clear hA hS hI hR hH
  unfold nodA
  go_enter Tryz.func15, Tryz.ntmps15
  have FIN := Lib.hid (show decG ls x = true by rw [decG_eq, h1, h2, hh]; simp)
  have h3 : (x.datum.k == 13) = false := by
    rw [beq_iff_eq] at h2
    rw [h2]
    rfl
  obtain rfl : true = H := hh.symm.trans HH.out
  go_wp2_with fail
  refine C1.out.mono ?_
  rintro e w2 ⟨rfl, hq⟩
  subst hq
  go_wp2
  go_ret
  exact ⟨by rw [← HR.out, FIN.out]; rfl, HW.out⟩
set_option maxRecDepth 100000 in
set_option maxHeartbeats 2000000 in
theorem declared_expr (x : Tn) (A : Option Addr) (c : Nat) (ls : List ByteArray) (T : Option Addr) (ct : Nat) (pb : Nat → Prop) (W : World) (hA : AtS pb W x.kids (.slice A x.kids.length c)) (hS : StrS W T ls)
    (hI : ∀ (y : Tn) (A : Option Addr) (c : Nat) (W : World), y ∈ x.kids → AtS pb W y.kids (.slice A y.kids.length c) → StrS W T ls → Calls Tryz.prog 15 #[nodA y.datum A y.kids.length c, .slice T ls.length ct] W fun e w' => e = .returned (.bool (decG ls y)) ∧ Below W.heap.size W w') (h1 : (x.datum.k == 45) = false) (h2 : (x.datum.k == 42) = false) (h3 : (x.datum.k == 13) = true) :
    Calls Tryz.prog 15 #[nodA x.datum A x.kids.length c, .slice T ls.length ct] W fun e w' => e = .returned (.bool (decG ls x)) ∧ Below W.heap.size W w' := by
  obtain ⟨_, _, e1, hmx, -⟩ := id hA
  cases e1
  have hmx := hmx.1
  obtain ⟨W1, hW1⟩ : ∃ W1, boxN W x.datum A x.kids.length c = W1 := ⟨_, rfl⟩
  have bW : Below W.heap.size W W1 := by rw [← hW1]; exact b1 _
  have s0 : W1.cell? ⟨W.heap.size, 0, none⟩ = some (.int .i64 x.datum.k) := by rw [← hW1]; simp
  have s2 : W1.cell? ⟨W.heap.size, 2, none⟩ = some (.string x.datum.st) := by rw [← hW1]; simp
  have s5 : W1.cell? ⟨W.heap.size, 5, none⟩ = some (.slice A x.kids.length c) := by rw [← hW1]; simp
  have S5 := Lib.hid s5
  have HA := Lib.hid (hA.keep (W' := W1) (fun b _ hl => bW.block b hl))
  have HS := Lib.hid (hS.on bW)
  have IH := Lib.hid hI
  have HW := Lib.hid bW
  have B1 := Lib.hid (Below.refl W1.heap.size W1)
  have C1 := Lib.hid (has_any ls T ct x.datum.st W1 HS.out)
  obtain ⟨R, hR⟩ : ∃ R, decG ls x = R := ⟨_, rfl⟩
  have HR := Lib.hid hR
  rw [hR]
  obtain ⟨H, hH⟩ : ∃ H, hasL ls x.datum.st = H := ⟨_, rfl⟩
  rw [hH] at C1
  have HH := Lib.hid hH
  clear hA hS hI hR hH
  unfold nodA
  go_enter Tryz.func15, Tryz.ntmps15
  have FIN := Lib.hid (show decG ls x = true by rw [decG_eq, h1, h2, h3]; rfl)
  go_wp2
  go_ret
  exact ⟨by rw [← HR.out, FIN.out]; rfl, HW.out⟩
set_option maxRecDepth 100000 in
set_option maxHeartbeats 2000000 in
theorem declared_not1 (x : Tn) (A : Option Addr) (c : Nat) (ls : List ByteArray) (T : Option Addr) (ct : Nat) (pb : Nat → Prop) (W : World) (hA : AtS pb W x.kids (.slice A x.kids.length c)) (hS : StrS W T ls)
    (hI : ∀ (y : Tn) (A : Option Addr) (c : Nat) (W : World), y ∈ x.kids → AtS pb W y.kids (.slice A y.kids.length c) → StrS W T ls → Calls Tryz.prog 15 #[nodA y.datum A y.kids.length c, .slice T ls.length ct] W fun e w' => e = .returned (.bool (decG ls y)) ∧ Below W.heap.size W w') (h1 : (x.datum.k == 45) = true) (hh : hasL ls x.datum.st = false) :
    Calls Tryz.prog 15 #[nodA x.datum A x.kids.length c, .slice T ls.length ct] W fun e w' => e = .returned (.bool (decG ls x)) ∧ Below W.heap.size W w' := by
  obtain ⟨_, _, e1, hmx, -⟩ := id hA
  cases e1
  have hmx := hmx.1
  obtain ⟨W1, hW1⟩ : ∃ W1, boxN W x.datum A x.kids.length c = W1 := ⟨_, rfl⟩
  have bW : Below W.heap.size W W1 := by rw [← hW1]; exact b1 _
  have s0 : W1.cell? ⟨W.heap.size, 0, none⟩ = some (.int .i64 x.datum.k) := by rw [← hW1]; simp
  have s2 : W1.cell? ⟨W.heap.size, 2, none⟩ = some (.string x.datum.st) := by rw [← hW1]; simp
  have s5 : W1.cell? ⟨W.heap.size, 5, none⟩ = some (.slice A x.kids.length c) := by rw [← hW1]; simp
  have S5 := Lib.hid s5
  have HA := Lib.hid (hA.keep (W' := W1) (fun b _ hl => bW.block b hl))
  have HS := Lib.hid (hS.on bW)
  have IH := Lib.hid hI
  have HW := Lib.hid bW
  have B1 := Lib.hid (Below.refl W1.heap.size W1)
  have C1 := Lib.hid (has_any ls T ct x.datum.st W1 HS.out)
  obtain ⟨R, hR⟩ : ∃ R, decG ls x = R := ⟨_, rfl⟩
  have HR := Lib.hid hR
  rw [hR]
  obtain ⟨H, hH⟩ : ∃ H, hasL ls x.datum.st = H := ⟨_, rfl⟩
  rw [hH] at C1
  have HH := Lib.hid hH
  clear hA hS hI hR hH
  unfold nodA
  go_enter Tryz.func15, Tryz.ntmps15
  have FIN := Lib.hid (show decG ls x = false by rw [decG_eq, h1, hh]; rfl)
  obtain rfl : false = H := hh.symm.trans HH.out
  go_wp2_with fail
  refine C1.out.mono ?_
  rintro e w2 ⟨rfl, hq⟩
  subst hq
  go_wp2
  go_ret
  exact ⟨by rw [← HR.out, FIN.out]; rfl, HW.out⟩
set_option maxRecDepth 100000 in
set_option maxHeartbeats 2000000 in
theorem declared_not2 (x : Tn) (A : Option Addr) (c : Nat) (ls : List ByteArray) (T : Option Addr) (ct : Nat) (pb : Nat → Prop) (W : World) (hA : AtS pb W x.kids (.slice A x.kids.length c)) (hS : StrS W T ls)
    (hI : ∀ (y : Tn) (A : Option Addr) (c : Nat) (W : World), y ∈ x.kids → AtS pb W y.kids (.slice A y.kids.length c) → StrS W T ls → Calls Tryz.prog 15 #[nodA y.datum A y.kids.length c, .slice T ls.length ct] W fun e w' => e = .returned (.bool (decG ls y)) ∧ Below W.heap.size W w') (h1 : (x.datum.k == 45) = false) (h2 : (x.datum.k == 42) = true) (hh : hasL ls x.datum.st = false) :
    Calls Tryz.prog 15 #[nodA x.datum A x.kids.length c, .slice T ls.length ct] W fun e w' => e = .returned (.bool (decG ls x)) ∧ Below W.heap.size W w' := by
  obtain ⟨_, _, e1, hmx, -⟩ := id hA
  cases e1
  have hmx := hmx.1
  obtain ⟨W1, hW1⟩ : ∃ W1, boxN W x.datum A x.kids.length c = W1 := ⟨_, rfl⟩
  have bW : Below W.heap.size W W1 := by rw [← hW1]; exact b1 _
  have s0 : W1.cell? ⟨W.heap.size, 0, none⟩ = some (.int .i64 x.datum.k) := by rw [← hW1]; simp
  have s2 : W1.cell? ⟨W.heap.size, 2, none⟩ = some (.string x.datum.st) := by rw [← hW1]; simp
  have s5 : W1.cell? ⟨W.heap.size, 5, none⟩ = some (.slice A x.kids.length c) := by rw [← hW1]; simp
  have S5 := Lib.hid s5
  have HA := Lib.hid (hA.keep (W' := W1) (fun b _ hl => bW.block b hl))
  have HS := Lib.hid (hS.on bW)
  have IH := Lib.hid hI
  have HW := Lib.hid bW
  have B1 := Lib.hid (Below.refl W1.heap.size W1)
  have C1 := Lib.hid (has_any ls T ct x.datum.st W1 HS.out)
  obtain ⟨R, hR⟩ : ∃ R, decG ls x = R := ⟨_, rfl⟩
  have HR := Lib.hid hR
  rw [hR]
  obtain ⟨H, hH⟩ : ∃ H, hasL ls x.datum.st = H := ⟨_, rfl⟩
  rw [hH] at C1
  have HH := Lib.hid hH
  clear hA hS hI hR hH
  unfold nodA
  go_enter Tryz.func15, Tryz.ntmps15
  have FIN := Lib.hid (show decG ls x = false by rw [decG_eq, h1, h2, hh]; rfl)
  obtain rfl : false = H := hh.symm.trans HH.out
  go_wp2_with fail
  refine C1.out.mono ?_
  rintro e w2 ⟨rfl, hq⟩
  subst hq
  go_wp2
  go_ret
  exact ⟨by rw [← HR.out, FIN.out]; rfl, HW.out⟩
theorem declared_any (ls : List ByteArray) (T : Option Addr) (ct : Nat) : ∀ (n : Nat) (x : Tn) (A : Option Addr) (c : Nat) (pb : Nat → Prop) (W : World), x.depth ≤ n → AtS pb W x.kids (.slice A x.kids.length c) → StrS W T ls →
    Calls Tryz.prog 15 #[nodA x.datum A x.kids.length c, .slice T ls.length ct] W fun e w' => e = .returned (.bool (decG ls x)) ∧ Below W.heap.size W w' := by
  intro n
  induction n with
  | zero =>
    intro x A c pb W hx
    rw [Tr.depth_eq] at hx
    omega
  | succ n ih =>
    intro x A c pb W hx hA hS
    have hI : ∀ (y : Tn) (A : Option Addr) (c : Nat) (W : World), y ∈ x.kids → AtS pb W y.kids (.slice A y.kids.length c) → StrS W T ls → Calls Tryz.prog 15 #[nodA y.datum A y.kids.length c, .slice T ls.length ct] W fun e w' => e = .returned (.bool (decG ls y)) ∧ Below W.heap.size W w' :=
      fun y A c W hy h1 h2 => ih y A c pb W (by have := kid_depth hy; omega) h1 h2
    cases h1 : (x.datum.k == 45)
    · cases h2 : (x.datum.k == 42)
      · cases h3 : (x.datum.k == 13)
        · exact declared_kids x A c ls T ct pb W hA hS hI h1 h2 h3
        · exact declared_expr x A c ls T ct pb W hA hS hI h1 h2 h3
      · cases hh : hasL ls x.datum.st
        · exact declared_not2 x A c ls T ct pb W hA hS hI h1 h2 hh
        · exact declared_fun x A c ls T ct pb W hA hS hI h1 h2 hh
    · cases hh : hasL ls x.datum.st
      · exact declared_not1 x A c ls T ct pb W hA hS hI h1 hh
      · exact declared_var x A c ls T ct pb W hA hS hI (by simpa using h1) hh
end Go.Proofs.YtjbofhaiephedaaGreat
