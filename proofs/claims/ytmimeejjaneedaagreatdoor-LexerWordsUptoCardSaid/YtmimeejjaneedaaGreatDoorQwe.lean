/-
  Merged texts (Ns, Nt, Nu, ZzU).
-/
import Derived.Test.YtmimeejjaneedaaGreatDoorQwd
set_option maxRecDepth 100000
set_option maxHeartbeats 40000000
namespace Go.Proofs.YtmimeejjaneedaaGreatDoor
section
open Go.RowKit
def tkT (t : Tok) : Value := tkV t.kind ⟨(bL t.text).toArray⟩ t.num t.esc t.nl t.pos t.fin
def NxE : Nat × Option Tok → Ending
 | (_, some t) => .returned (.tuple #[tkT t, .int .i64 0, .int .i64 0])
 | (p, none) => .returned (.tuple #[.agg #[.int .i64 0, .string ⟨#[]⟩, .float .f64 0, .bool false, .bool false, .int .i64 0, .int .i64 0], .int .i64 (p : Nat), .int .i64 60])
def nxtO (op : Bool) (p : Nat) (l : List Nat) : Nat × Option Tok :=
 if ((skipL l).2.2 = false) ∨ (op = true ∧ hd0 (l.drop (skipL l).1) = 47) then (p + (skipL l).1, none)
 else match readL (l.drop (skipL l).1) with
  | none => (p + (skipL l).1, none)
  | some (k, t, x, e, n) => (0, some ⟨k, t, x, e, (skipL l).2.1, p + (skipL l).1, p + (skipL l).1 + n⟩)
theorem nxtO_false (p : Nat) (l : List Nat) : nxtO false p l = nxtL p l := by
 unfold nxtO nxtL
 simp only [Bool.false_eq_true, false_and, or_false]
 rfl
theorem xNext_any (s : ByteArray) (k : Nat) (op : Bool) (w : World) (hs : s.size ≤ 4398046511104) (hk : k ≤ ln s) :
  Cp 9 #[.string s, .int .i64 k, .bool op] w fun e w' => e = NxE (nxtO op k ((us s).drop k)) ∧ Below w.heap.size w w' := by
 have hs63 : s.size ≤ maxLen := by unfold maxLen; omega
 have hln := ln_le s
 have CL := Lib.hid (fun W => len_any s W hs63)
 have CK := fun W => xskip_any s k W (by omega) hk
 have hd0 : (k : Int) ≤ (ln s : Nat) := by omega
 have hgt : decide (ln s < k) = false := by simpa using hk
 rcases hsk : skipL ((us s).drop k) with ⟨n, nl, ok⟩
 have hnl : n ≤ ((us s).drop k).length := by have := skipL_le ((us s).drop k); rw [hsk] at this; exact this
 rw [List.length_drop, us_length] at hnl
 rw [hsk] at CK
 obtain ⟨p, hp⟩ : ∃ p, k + n = p := ⟨_, rfl⟩
 have hpl : p ≤ ln s := by omega
 have CK := Lib.hid (show ∀ W, Cp 35 #[.string s, .int .i64 k] W fun e w' => e = .returned (.tuple #[.int .i64 (p : Nat), .bool nl, .bool ok]) ∧ ∃ n, w' = W.drewN n from fun W => (CK W).mono fun e w' ⟨he, hw⟩ => ⟨by rw [he, ← hp]; simp [skE], hw⟩)
 have CU := fun W => xunit_any s p W hs63
 have CR := fun W => xread_any s p W hs hpl
 have e1 : ((us s).drop k).drop n = (us s).drop p := by rw [List.drop_drop, hp]
 have hR : nxtO op k ((us s).drop k) = if (ok = false) ∨ (op = true ∧ Go.Proofs.YtmimeejjaneedaaGreatDoor.hd0 ((us s).drop p) = 47) then (p, none)
   else match readL ((us s).drop p) with
    | none => (p, none)
    | some (k, t, x, e, n) => (0, some ⟨k, t, x, e, nl, p, p + n⟩) := by
  unfold nxtO
  rw [hsk]
  simp only [e1, hp]
 rw [hR]
 obtain ⟨c, hc⟩ : ∃ c, Go.Proofs.YtmimeejjaneedaaGreatDoor.hd0 ((us s).drop p) = c := ⟨_, rfl⟩
 rw [hc] at CU ⊢
 have CU := Lib.hid CU
 have T0 := Lib.hid (TB.start w)
 obtain ⟨o, ho⟩ : ∃ o, readL ((us s).drop p) = o := ⟨_, rfl⟩
 rw [ho] at CR ⊢
 clear hs63 hln hs hk hsk hnl hp hpl e1 hR hc ho hd0
 cases ok
 ·rw [if_pos (.inl rfl)]
  clear CU CR
  go_enter Tryz.func9, Tryz.ntmps9
  go_wp2_with fail
  refine (CL.out _).mono ?_
  rintro e w' ⟨rfl, rfl⟩
  go_wp2_with fail
  refine (CK.out _).mono ?_
  rintro e w' ⟨rfl, n1, rfl⟩
  have T1 := T0.out.draw n1
  have HG := Lib.hid T1.bl
  have HB := Lib.hid T1.bw
  clear T1
  go_wp2_with (refine tkS rfl rfl w.heap.size 0 ⟨#[]⟩ 0 false false 0 0 rfl rfl HG.out ?_)
  refine tkR2 rfl rfl HG.out rfl rfl ⟨?_, below_setRowK HB.out (Nat.le_refl _) _⟩
  rfl
 ·by_cases h47 : op = true ∧ c = 47
  ·rw [if_pos (.inr h47)]
   obtain ⟨rfl, rfl⟩ := h47
   clear CR
   go_enter Tryz.func9, Tryz.ntmps9
   go_wp2_with fail
   refine (CL.out _).mono ?_
   rintro e w' ⟨rfl, rfl⟩
   go_wp2_with fail
   refine (CK.out _).mono ?_
   rintro e w' ⟨rfl, n1, rfl⟩
   go_wp2_with fail
   refine (CU.out _).mono ?_
   rintro e w' ⟨rfl, n2, rfl⟩
   have T1 := T0.out.draw (n1 + n2)
   have HG := Lib.hid T1.bl
   have HB := Lib.hid T1.bw
   clear T1
   go_wp2_with (refine tkS rfl rfl w.heap.size 0 ⟨#[]⟩ 0 false false 0 0 rfl rfl HG.out ?_)
   refine tkR2 rfl rfl HG.out rfl rfl ⟨?_, below_setRowK HB.out (Nat.le_refl _) _⟩
   rfl
  ·rw [if_neg (by simpa using h47)]
   cases o with
   | none =>
    have CR := Lib.hid (show ∀ W, Cp 37 #[.string s, .int .i64 (p : Nat)] W fun e w' => e = .returned (.tuple #[.agg #[.int .i64 0, .string ⟨#[]⟩, .float .f64 0, .bool false, .bool false, .int .i64 0, .int .i64 0], .bool false]) ∧ Below W.heap.size W w' from CR)
    cases op
    ·clear CU h47
     go_enter Tryz.func9, Tryz.ntmps9
     go_wp2_with fail
     refine (CL.out _).mono ?_
     rintro e w' ⟨rfl, rfl⟩
     go_wp2_with fail
     refine (CK.out _).mono ?_
     rintro e w' ⟨rfl, n1, rfl⟩
     go_wp2_with fail
     refine (CR.out _).mono ?_
     rintro e w1 ⟨rfl, b1⟩
     have T1 := ((T0.out.draw (n1)).step b1).step ((Below.refl _ _).alloc (Nat.le_refl _) (.cells #[.int .i64 0, .string ⟨#[]⟩, .float .f64 0, .bool false, .bool false, .int .i64 0, .int .i64 0] 24))
     have HG := Lib.hid T1.bl
     have HB := Lib.hid T1.bw
     clear T1 b1
     go_wp2_with (first | (refine tkS rfl rfl w1.heap.size 0 ⟨#[]⟩ 0 false false 0 0 rfl rfl (heap_alloc_last w1 _) ?_; rw [World.setRow_alloc_new]) | (refine tkS rfl rfl w.heap.size 0 ⟨#[]⟩ 0 false false 0 0 rfl rfl HG.out ?_))
     refine tkR2 rfl rfl HG.out rfl rfl ⟨?_, below_setRowK HB.out (Nat.le_refl _) _⟩
     rfl
    ·have g1 : ((c : Int) == 47) = false := by rw [beq_eq_false_iff_ne]; intro h; exact h47 ⟨rfl, by omega⟩
     clear h47
     go_enter Tryz.func9, Tryz.ntmps9
     go_wp2_with fail
     refine (CL.out _).mono ?_
     rintro e w' ⟨rfl, rfl⟩
     go_wp2_with fail
     refine (CK.out _).mono ?_
     rintro e w' ⟨rfl, n1, rfl⟩
     go_wp2_with fail
     refine (CU.out _).mono ?_
     rintro e w' ⟨rfl, n2, rfl⟩
     go_wp2_with fail
     refine (CR.out _).mono ?_
     rintro e w1 ⟨rfl, b1⟩
     have T1 := ((T0.out.draw (n1 + n2)).step b1).step ((Below.refl _ _).alloc (Nat.le_refl _) (.cells #[.int .i64 0, .string ⟨#[]⟩, .float .f64 0, .bool false, .bool false, .int .i64 0, .int .i64 0] 24))
     have HG := Lib.hid T1.bl
     have HB := Lib.hid T1.bw
     clear T1 b1
     go_wp2_with (first | (refine tkS rfl rfl w1.heap.size 0 ⟨#[]⟩ 0 false false 0 0 rfl rfl (heap_alloc_last w1 _) ?_; rw [World.setRow_alloc_new]) | (refine tkS rfl rfl w.heap.size 0 ⟨#[]⟩ 0 false false 0 0 rfl rfl HG.out ?_))
     refine tkR2 rfl rfl HG.out rfl rfl ⟨?_, below_setRowK HB.out (Nat.le_refl _) _⟩
     rfl
   | some q =>
    obtain ⟨kd0, t0, xx, es, n0⟩ := q
    have CR := Lib.hid (show ∀ W, Cp 37 #[.string s, .int .i64 (p : Nat)] W fun e w' => e = .returned (.tuple #[.agg #[.int .i64 ((kd0 : Nat) : Int), .string ⟨(bL t0).toArray⟩, .float .f64 xx, .bool es, .bool false, .int .i64 0, .int .i64 ((p + n0 : Nat) : Int)], .bool true]) ∧ Below W.heap.size W w' from CR)
    have HE : Hid (NxE (0, some ⟨kd0, t0, xx, es, nl, p, p + n0⟩) = .returned (.tuple #[.agg #[.int .i64 ((kd0 : Nat) : Int), .string ⟨(bL t0).toArray⟩, .float .f64 xx, .bool es, .bool nl, .int .i64 (p : Nat), .int .i64 ((p + n0 : Nat) : Int)], .int .i64 0, .int .i64 0])) := Lib.hid rfl
    obtain ⟨kd, hkd⟩ : ∃ kd : Int, ((kd0 : Nat) : Int) = kd := ⟨_, rfl⟩
    obtain ⟨tx, htx⟩ : ∃ tx : ByteArray, (⟨(bL t0).toArray⟩ : ByteArray) = tx := ⟨_, rfl⟩
    obtain ⟨fi, hfi⟩ : ∃ fi : Int, ((p + n0 : Nat) : Int) = fi := ⟨_, rfl⟩
    rw [hkd, htx, hfi] at CR HE
    clear hkd htx hfi
    cases op
    ·clear CU h47
     go_enter Tryz.func9, Tryz.ntmps9
     go_wp2_with fail
     refine (CL.out _).mono ?_
     rintro e w' ⟨rfl, rfl⟩
     go_wp2_with fail
     refine (CK.out _).mono ?_
     rintro e w' ⟨rfl, n1, rfl⟩
     go_wp2_with fail
     refine (CR.out _).mono ?_
     rintro e w1 ⟨rfl, b1⟩
     have T1 := ((T0.out.draw (n1)).step b1).step ((Below.refl _ _).alloc (Nat.le_refl _) (.cells #[.int .i64 kd, .string tx, .float .f64 xx, .bool es, .bool nl, .int .i64 (p : Nat), .int .i64 fi] 24))
     have HG := Lib.hid T1.bl
     have HB := Lib.hid T1.bw
     clear T1 b1
     go_wp2_with (first | (refine tkS rfl rfl w1.heap.size kd tx xx es false 0 fi rfl rfl (heap_alloc_last w1 _) ?_; rw [World.setRow_alloc_new]) | (refine tkS rfl rfl w.heap.size kd tx xx es nl (p : Nat) fi rfl rfl HG.out ?_))
     refine tkR2 rfl rfl HG.out rfl rfl ⟨?_, below_setRowK HB.out (Nat.le_refl _) _⟩
     exact HE.out.symm
    ·have g1 : ((c : Int) == 47) = false := by rw [beq_eq_false_iff_ne]; intro h; exact h47 ⟨rfl, by omega⟩
     clear h47
     go_enter Tryz.func9, Tryz.ntmps9
     go_wp2_with fail
     refine (CL.out _).mono ?_
     rintro e w' ⟨rfl, rfl⟩
     go_wp2_with fail
     refine (CK.out _).mono ?_
     rintro e w' ⟨rfl, n1, rfl⟩
     go_wp2_with fail
     refine (CU.out _).mono ?_
     rintro e w' ⟨rfl, n2, rfl⟩
     go_wp2_with fail
     refine (CR.out _).mono ?_
     rintro e w1 ⟨rfl, b1⟩
     have T1 := ((T0.out.draw (n1 + n2)).step b1).step ((Below.refl _ _).alloc (Nat.le_refl _) (.cells #[.int .i64 kd, .string tx, .float .f64 xx, .bool es, .bool nl, .int .i64 (p : Nat), .int .i64 fi] 24))
     have HG := Lib.hid T1.bl
     have HB := Lib.hid T1.bw
     clear T1 b1
     go_wp2_with (first | (refine tkS rfl rfl w1.heap.size kd tx xx es false 0 fi rfl rfl (heap_alloc_last w1 _) ?_; rw [World.setRow_alloc_new]) | (refine tkS rfl rfl w.heap.size kd tx xx es nl (p : Nat) fi rfl rfl HG.out ?_))
     refine tkR2 rfl rfl HG.out rfl rfl ⟨?_, below_setRowK HB.out (Nat.le_refl _) _⟩
     exact HE.out.symm

end
section
open Go.RowKit
theorem info_tok : (Tryz.prog.info? 24).map (fun i => (i.zero, i.size, i.bytes)) = some (some (.agg #[.int .i64 0, .string ⟨#[]⟩, .float .f64 0, .bool false, .bool false, .int .i64 0, .int .i64 0]), 7, 56) := by kernel_rfl
def tkC (t : Tok) : List Value := [.int .i64 (t.kind : Int), .string ⟨(bL t.text).toArray⟩, .float .f64 t.num, .bool t.esc, .bool t.nl, .int .i64 (t.pos : Int), .int .i64 (t.fin : Int)]
def OwnT (B : Nat) (ts : List Tok) (v : Value) (w : World) : Prop := w.ownsRow B 24 7 v ts.length (ts.flatMap tkC)
theorem OwnT.nil (B : Nat) (w : World) : OwnT B [] (.slice none 0 0) w := World.ownsRow_nil _ _ _ _
def AllP (B : Nat) (r : Nat × Option (List Tok)) (w : World) (e : Ending) (w' : World) : Prop :=
 (match r with
  | (p, none) => e = .returned (.tuple #[.slice none 0 0, .int .i64 (p : Int), .int .i64 60])
  | (_, some ts) => ∃ v, e = .returned (.tuple #[v, .int .i64 0, .int .i64 0]) ∧ OwnT B ts v w') ∧ Below B w w'
theorem OwnT.below {B : Nat} {ts : List Tok} {v : Value} {w w' : World} (h : OwnT B ts v w) (hb : Below w.heap.size w w') : OwnT B ts v w' := by
 refine h.kept (row := none) ⟨hb.os, hb.tape, hb.output, hb.size, fun k hk _ => hb.block k hk⟩ ?_
 cases v.ownBlock <;> simp
theorem nxt_lt {p q : Nat} {l : List Nat} {t : Tok} (h : nxtL p l = (q, some t)) (hk : t.kind ≠ 1) : p < t.fin := by
 unfold nxtL at h
 split at h
 ·cases h
 ·split at h
  ·cases h
  ·rename_i k tx x e n hr
   cases h
   obtain ⟨h1, h2, h3, _⟩ := read_len hr
   have := h3 (fun e => hk (h2.2 e))
   show p < p + (skipL l).1 + n
   omega
theorem tok_cells (w1 : World) (kd po fi : Int) (tx : ByteArray) (xx : Nat) (es nl : Bool) : ∀ j u, ([.int .i64 kd, .string tx, .float .f64 xx, .bool es, .bool nl, .int .i64 po, .int .i64 fi] : List Value)[j]? = some u → ((w1.alloc (.cells #[.int .i64 kd, .string tx, .float .f64 xx, .bool es, .bool nl, .int .i64 po, .int .i64 fi] 24)).alloc (.cells #[.int .i64 kd, .string tx, .float .f64 xx, .bool es, .bool nl, .int .i64 po, .int .i64 fi] 24)).cell? (Addr.add ⟨w1.heap.size + 1, 0, none⟩ j) = some u := by
 intro j u h
 obtain ⟨V, hV⟩ : ∃ V, w1.alloc (.cells #[.int .i64 kd, .string tx, .float .f64 xx, .bool es, .bool nl, .int .i64 po, .int .i64 fi] 24) = V := ⟨_, rfl⟩
 have hs : w1.heap.size + 1 = V.heap.size := by rw [← hV]; simp
 rw [hV, hs]
 have h2 := heap_alloc_last V (.cells #[.int .i64 kd, .string tx, .float .f64 xx, .bool es, .bool nl, .int .i64 po, .int .i64 fi] 24)
 have e : Addr.add ⟨V.heap.size, 0, none⟩ j = ⟨V.heap.size, j, none⟩ := by
  unfold Addr.add
  by_cases hj : j = 0 <;> simp [hj]
 rw [e]
 unfold World.cell?
 simp only []
 rw [h2]
 simpa using h
theorem tok_first (w1 : World) (kd po fi : Int) (tx : ByteArray) (xx : Nat) (es nl : Bool) : ((w1.alloc (.cells #[.int .i64 kd, .string tx, .float .f64 xx, .bool es, .bool nl, .int .i64 po, .int .i64 fi] 24)).alloc (.cells #[.int .i64 kd, .string tx, .float .f64 xx, .bool es, .bool nl, .int .i64 po, .int .i64 fi] 24)).heap[w1.heap.size]? = some (.cells #[.int .i64 kd, .string tx, .float .f64 xx, .bool es, .bool nl, .int .i64 po, .int .i64 fi] 24 (0, 0)) := by
 obtain ⟨V, hV⟩ : ∃ V, w1.alloc (.cells #[.int .i64 kd, .string tx, .float .f64 xx, .bool es, .bool nl, .int .i64 po, .int .i64 fi] 24) = V := ⟨_, rfl⟩
 have hs : w1.heap.size + 1 = V.heap.size := by rw [← hV]; simp
 have h2 : V.heap[w1.heap.size]? = some (.cells #[.int .i64 kd, .string tx, .float .f64 xx, .bool es, .bool nl, .int .i64 po, .int .i64 fi] 24 (0, 0)) := by rw [← hV]; exact heap_alloc_last w1 _
 rw [hV]
 exact (((Below.refl V.heap.size V).alloc (Nat.le_refl _) _).block _ (by omega)).trans h2
def prepT (ts : List Tok) : Nat × Option (List Tok) → Nat × Option (List Tok)
 | (q, none) => (q, none)
 | (_, some us) => (0, some (ts ++ us))
theorem xAll_any (s : ByteArray) (w : World) (hs : s.size ≤ 4398046511104) :
    Cp 13 #[.string s] w (AllP w.heap.size (allL (us s)) w) := by
  obtain ⟨i0, hi, hz0, hz1, hz2⟩ := info_parts info_tok
  have hln := ln_le s
  have CN := Lib.hid (fun (j : Nat) (hj : j ≤ ln s) W => xNext_any s j false W hs hj)
  obtain ⟨R, hR⟩ : ∃ R, allL (us s) = R := ⟨_, rfl⟩
  have hR0 : prepT [] (allG 0 ((us s).drop 0)) = R := by
    rw [← hR, List.drop_zero]
    show prepT [] (allL (us s)) = _
    rcases h : allL (us s) with ⟨q, _ | ts⟩
    · rfl
    · have h2 : allG 0 (us s) = (q, some ts) := h
      rw [all_next] at h2
      have : q = 0 := by
        rcases h3 : nxtL 0 (us s) with ⟨q1, _ | t⟩
        · rw [h3] at h2
          cases h2
        · rw [h3] at h2
          simp only [] at h2
          split at h2
          · cases h2; rfl
          · split at h2
            · cases h2
            · cases h2; rfl
      rw [this]
      rfl
  rw [hR]
  have HR := Lib.hid hR0
  have HL := Lib.hid (show ln s ≤ 2199023255552 by omega)
  clear hs hln hR hR0
  go_enter Tryz.func13, Tryz.ntmps13
  go_wp2
  go_loopw [5, 6] (fun lv av wr => ∃ (j : Nat) (ts : List Tok) (v : Value), lv = v ∧ av = .int .i64 j ∧ j ≤ ln s ∧ Hid (ts.length ≤ j ∧ prepT ts (allG j ((us s).drop j)) = R) ∧ OwnT w.heap.size ts v wr ∧ Below w.heap.size w wr) (fun _ av _ => ln s - (intOf av).toNat)
  case atStart => exact ⟨0, [], _, rfl, by go_num, Nat.zero_le _, Lib.hid ⟨Nat.zero_le _, HR.out⟩, OwnT.nil _ _, Below.refl _ _⟩
  case round =>
    obtain ⟨j, ts, v, hv, rfl, hj, HJ, H, hb⟩ := hrel
    obtain rfl := hv.symm
    have C1 := CN.out j hj
    rw [nxtO_false] at C1
    obtain ⟨h1, h2⟩ := HJ.out
    rw [all_next] at h2
    have hsz := hb.size
    have H1 := Lib.hid h1
    have HJ3 := Lib.hid hj
    have htl : ts.length ≤ 2199023255552 := by have := HL.out; omega
    clear HJ h1 hj
    rcases hn : nxtL j ((us s).drop j) with ⟨q, _ | t⟩
    · rw [hn] at C1 h2
      obtain rfl : R = (q, none) := h2.symm
      have C1 := Lib.hid (show ∀ W, Cp 9 #[.string s, .int .i64 j, .bool false] W fun e w' => e = .returned (.tuple #[.agg #[.int .i64 0, .string ⟨#[]⟩, .float .f64 0, .bool false, .bool false, .int .i64 0, .int .i64 0], .int .i64 (q : Nat), .int .i64 60]) ∧ Below W.heap.size W w' from C1)
      clear hn h2 HR htl
      go_wp2_with fail
      refine (C1.out _).mono ?_
      rintro e w1 ⟨rfl, b1⟩
      have hb2 := Lib.hid ((hb.trans (b1.mono hsz)).alloc (by have := b1.size; omega) (.cells #[.int .i64 0, .string ⟨#[]⟩, .float .f64 0, .bool false, .bool false, .int .i64 0, .int .i64 0] 24))
      clear hb b1 H
      go_wp2_with (first | (refine tkS rfl rfl w1.heap.size 0 ⟨#[]⟩ 0 false false 0 0 rfl rfl (heap_alloc_last w1 _) ?_; rw [World.setRow_alloc_new]))
      go_ret3
      exact ⟨rfl, hb2.out⟩
    · rw [hn] at C1 h2
      obtain ⟨n1, n2, n3, n4, n5, n6, rfl⟩ := nxt_in hn
      rw [List.length_drop, us_length] at n3
      have hfl : t.fin ≤ ln s := by have := HJ3.out; omega
      have n7 := fun h => nxt_lt hn h
      have C1 := Lib.hid (show ∀ W, Cp 9 #[.string s, .int .i64 j, .bool false] W fun e w' => e = .returned (.tuple #[.agg #[.int .i64 (t.kind : Int), .string ⟨(bL t.text).toArray⟩, .float .f64 t.num, .bool t.esc, .bool t.nl, .int .i64 (t.pos : Int), .int .i64 (t.fin : Int)], .int .i64 0, .int .i64 0]) ∧ Below W.heap.size W w' from C1)
      have HT : Hid (tkC t = [.int .i64 (t.kind : Int), .string ⟨(bL t.text).toArray⟩, .float .f64 t.num, .bool t.esc, .bool t.nl, .int .i64 (t.pos : Int), .int .i64 (t.fin : Int)]) := Lib.hid rfl
      obtain ⟨kd, hkd⟩ : ∃ kd : Int, (t.kind : Int) = kd := ⟨_, rfl⟩
      obtain ⟨tx, htx⟩ : ∃ tx : ByteArray, (⟨(bL t.text).toArray⟩ : ByteArray) = tx := ⟨_, rfl⟩
      obtain ⟨fi, hfi⟩ : ∃ fi : Int, (t.fin : Int) = fi := ⟨_, rfl⟩
      obtain ⟨po, hpo⟩ : ∃ po : Int, (t.pos : Int) = po := ⟨_, rfl⟩
      obtain ⟨xx, hxx⟩ : ∃ xx, t.num = xx := ⟨_, rfl⟩
      obtain ⟨es, hes⟩ : ∃ es, t.esc = es := ⟨_, rfl⟩
      obtain ⟨nl, hnl⟩ : ∃ nl, t.nl = nl := ⟨_, rfl⟩
      rw [hkd, htx, hfi, hpo, hxx, hes, hnl] at C1 HT
      have HKD := Lib.hid hkd
      have HFI := Lib.hid hfi
      have HFL := Lib.hid hfl
      have N7 := Lib.hid n7
      have HX : Hid (if t.kind = 1 then R = (0, some (ts ++ [t])) else prepT (ts ++ [t]) (allG t.fin ((us s).drop t.fin)) = R) := Lib.hid (by
        rw [← h2]
        simp only []
        split
        · rfl
        · rw [List.drop_drop, show j + (t.fin - j) = t.fin by omega]
          rcases allG t.fin ((us s).drop t.fin) with ⟨q, _ | us⟩
          · rfl
          · simp [prepT])
      clear htx hfi hpo hxx hes hnl hn h2 n1 n2 n3 n4 n5 n6 n7 hfl HR
      have main : ∀ b : Bool, decide (t.kind = 1) = b → (kd == 1) = b := fun b h => by
        rw [← h, ← hkd, Bool.eq_iff_iff]
        simp
        omega
      clear hkd
      cases hk : decide (t.kind = 1)
      all_goals
        have g1 := main _ hk
        have HK := Lib.hid hk
        clear main hk
        go_wp2_with fail
        refine (C1.out _).mono ?_
        rintro e w1 ⟨rfl, b1⟩
        have hb1 := hb.trans (b1.mono hsz)
        have o1 := OwnT.below H b1
        have hs1 := b1.size
        have HLT := Lib.hid (fun k hk => World.ownsRow.lt H k hk)
        clear H hb b1
        have HC1 := Lib.hid (tok_cells w1 kd po fi tx xx es nl)
        have HC2 : Hid (∀ u ∈ ([.int .i64 kd, .string tx, .float .f64 xx, .bool es, .bool nl, .int .i64 po, .int .i64 fi] : List Value), u.oneCell' = true) := Lib.hid (by simp [Value.oneCell'])
        have HC3 : Hid (w.heap.size ≤ ((w1.alloc (.cells #[.int .i64 kd, .string tx, .float .f64 xx, .bool es, .bool nl, .int .i64 po, .int .i64 fi] 24)).alloc (.cells #[.int .i64 kd, .string tx, .float .f64 xx, .bool es, .bool nl, .int .i64 po, .int .i64 fi] 24)).heap.size) := Lib.hid (by simp; omega)
        go_wp2_with (first | (refine tkS rfl rfl w1.heap.size kd tx xx es nl po fi rfl rfl (heap_alloc_last w1 _) ?_; rw [World.setRow_alloc_new]) | (at_builtin; refine wpList_append_own _ rfl _ _ 31 rfl w.heap.size 24 i0 (.agg #[.int .i64 0, .string ⟨#[]⟩, .float .f64 0, .bool false, .bool false, .int .i64 0, .int .i64 0]) 7 56 Tryz.underlying31 hi hz0 hz1 hz2 rfl (by decide) _ _ _ rfl (World.ownsRow.alloc (w := w1.alloc (.cells #[.int .i64 kd, .string tx, .float .f64 xx, .bool es, .bool nl, .int .i64 po, .int .i64 fi] 24)) (World.ownsRow.alloc (w := w1) o1 _) _) ⟨w1.heap.size + 1, 0, none⟩ 1 1 [.int .i64 kd, .string tx, .float .f64 xx, .bool es, .bool nl, .int .i64 po, .int .i64 fi] rfl rfl HC1.out HC2.out (by unfold maxLen; omega) (by omega) HC3.out ?_))
        intro v' w2 hown hg _
        have o2 : OwnT w.heap.size (ts ++ [t]) v' w2 := by
          unfold OwnT
          rw [List.length_append, List.flatMap_append, List.flatMap_cons, List.flatMap_nil, List.append_nil, HT.out]
          exact hown
        have hG : w2.heap[w1.heap.size]? = some (.cells #[.int .i64 kd, .string tx, .float .f64 xx, .bool es, .bool nl, .int .i64 po, .int .i64 fi] 24 (0, 0)) := (hg.block _ (by simp; omega) (fun e => by have := (HLT.out _ e.symm).2; omega)).trans (tok_first w1 kd po fi tx xx es nl)
        have c0 : w2.cell? ⟨w1.heap.size, 0, none⟩ = some (.int .i64 kd) := by simp [World.cell?, hG]
        have c6 : w2.cell? ⟨w1.heap.size, 6, none⟩ = some (.int .i64 fi) := by simp [World.cell?, hG]
        have hb2 : Below w.heap.size w w2 := ((hb1.alloc (by omega) (.cells #[.int .i64 kd, .string tx, .float .f64 xx, .bool es, .bool nl, .int .i64 po, .int .i64 fi] 24)).alloc (by simp; omega) (.cells #[.int .i64 kd, .string tx, .float .f64 xx, .bool es, .bool nl, .int .i64 po, .int .i64 fi] 24)).grown hg HC3.out (fun k hk => (HLT.out k hk).1)
        clear hown hg hG o1 hb1
        go_wp2
        first
          | (go_ret3
             have hR := HX.out
             rw [if_pos (by simpa using HK.out)] at hR
             rw [hR]
             exact ⟨⟨v', rfl, o2⟩, hb2⟩)
          | (go_roundw
             case rel =>
               have hk1 : t.kind ≠ 1 := by simpa using HK.out
               have hR := HX.out
               rw [if_neg hk1] at hR
               exact ⟨t.fin, ts ++ [t], v', rfl, by rw [HFI.out], HFL.out, Lib.hid ⟨by rw [List.length_append, List.length_singleton]; have := H1.out; have := N7.out hk1; omega, hR⟩, o2, hb2⟩
             case measure =>
               have hk1 : t.kind ≠ 1 := by simpa using HK.out
               have := N7.out hk1
               have := HFL.out
               have := HFI.out
               simp [intOf]
               omega)

end
section
open Go.RowKit
def awT : List Tok := [⟨2, [97], 0, false, false, 0, 1⟩, ⟨4, [43, 43], 0, false, false, 1, 3⟩, ⟨4, [43], 0, false, false, 3, 4⟩, ⟨2, [98], 0, false, false, 4, 5⟩, ⟨1, [], 0, false, false, 5, 5⟩]
theorem awake_all : allL [97, 43, 43, 43, 98] = (0, some awT) := by kernel_rfl
theorem own_tok {B : Nat} {ts : List Tok} {v : Value} {w : World} (h : OwnT B ts v w) : (ts = [] ∧ v = .slice none 0 0) ∨ ∃ g cap, v = .slice (some ⟨g, 0, none⟩) ts.length cap ∧ ts.length ≤ cap ∧ B ≤ g ∧ g < w.heap.size ∧ ∀ i x, (ts.flatMap tkC)[i]? = some x → w.cell? ⟨g, i, none⟩ = some x := by
 obtain ⟨hn, h⟩ := h
 rcases h with ⟨hv, h0⟩ | ⟨g, cap, cur, hv, hb, hg, hc, hm, hsz, ht⟩
 ·exact .inl ⟨List.eq_nil_of_length_eq_zero h0, hv⟩
 ·refine .inr ⟨g, cap, hv, hc, hb, (Array.getElem?_eq_some_iff.1 hg).1, fun i x hx => ?_⟩
  have hi : i < ts.length * 7 := by rw [← hn]; exact (List.getElem?_eq_some_iff.1 hx).1
  rw [← ht, List.getElem?_take_of_lt hi] at hx
  unfold World.cell?
  simp only []
  rw [hg]
  simpa using hx
theorem kept_cellU {W w' : World} (hb : Below W.heap.size W w') : ∀ a v, W.cell? ⟨a, v.1, none⟩ = some v.2 → w'.cell? ⟨a, v.1, none⟩ = some (v : Nat × Value).2 := fun a v h => by
 have hlt : a < W.heap.size := by
  rcases Nat.lt_or_ge a W.heap.size with h1 | h1
  ·exact h1
  ·unfold World.cell? at h
   simp only [] at h
   rw [Array.getElem?_eq_none h1] at h
   cases h
 exact (hb.cell (p := ⟨a, v.1, none⟩) hlt).trans h
theorem awake_any (w : World) : Ct 12 #[] (.bool true) w := by
 obtain ⟨X, hX⟩ : ∃ X : ByteArray, (⟨(bL [97, 43, 43, 43, 98]).toArray⟩ : ByteArray) = X := ⟨_, rfl⟩
 obtain ⟨Y, hY⟩ : ∃ Y : ByteArray, (⟨(bL [43, 43]).toArray⟩ : ByteArray) = Y := ⟨_, rfl⟩
 have CX := fun W => rwide_any ⟨#[97, 43, 43, 43, 98]⟩ W (by decide)
 have CY := fun W => rwide_any ⟨#[43, 43]⟩ W (by decide)
 rw [show wdL ⟨#[97, 43, 43, 43, 98]⟩ = [97, 43, 43, 43, 98] from rfl, hX] at CX
 rw [show wdL ⟨#[43, 43]⟩ = [43, 43] from rfl, hY] at CY
 have hXs : X.size ≤ 4398046511104 := by rw [← hX]; decide
 have CA := fun W => xAll_any X W hXs
 rw [show us X = [97, 43, 43, 43, 98] by rw [← hX]; exact us_bL (by decide), awake_all] at CA
 have CX := Lib.hid CX
 have CY := Lib.hid CY
 have CA := Lib.hid CA
 have HY := Lib.hid hY
 clear hX hY hXs
 go_enter Tryz.func12, Tryz.ntmps12
 go_wp2_with fail
 refine (CX.out _).mono ?_
 rintro e w1 ⟨rfl, b1⟩
 go_wp2_with fail
 refine (CA.out _).mono ?_
 rintro e w2 ⟨⟨v, rfl, ho⟩, b2⟩
 have hb := Lib.hid (below_le b1 b2)
 rcases own_tok ho with ⟨h, _⟩ | ⟨g, cap, rfl, hcap, hg1, hg2, hcell⟩
 ·cases h
 ·have c7 := hcell 7 (.int .i64 4) rfl
  have c8 := hcell 8 (.string Y) (by rw [← HY.out]; rfl)
  have c21 := hcell 21 (.int .i64 2) rfl
  have hcap5 : (5 : Nat) ≤ cap := hcap
  have CY2 : Hid (∀ W, Cp 42 #[.string ⟨#[43, 43]⟩] W fun e w' => e = .returned (.string Y) ∧ Below W.heap.size W w' ∧ (W.cell? ⟨g, 7, none⟩ = some (.int .i64 4) → w'.cell? ⟨g, 7, none⟩ = some (.int .i64 4)) ∧ (W.cell? ⟨g, 8, none⟩ = some (.string Y) → w'.cell? ⟨g, 8, none⟩ = some (.string Y)) ∧ (W.cell? ⟨g, 21, none⟩ = some (.int .i64 2) → w'.cell? ⟨g, 21, none⟩ = some (.int .i64 2))) := Lib.hid (fun W => (CY.out W).mono fun e w' ⟨he, hb⟩ => ⟨he, hb, kept_cellU hb g (7, _), kept_cellU hb g (8, _), kept_cellU hb g (21, _)⟩)
  clear b1 b2 ho hcell hcap hg1 hg2
  rw [show awT.length = 5 from rfl]
  go_wp2
  go_region_held3 (fun w' => w'.cell? ⟨g, 7, none⟩ = some (.int .i64 4) ∧ w'.cell? ⟨g, 8, none⟩ = some (.string Y) ∧ w'.cell? ⟨g, 21, none⟩ = some (.int .i64 2)) (go_keep) ((go_at_call 42; refine (CY2.out _).mono ?_; rintro e w3 ⟨rfl, b3, k1, k2, k3⟩; have q1 := k1 c7; have q2 := k2 c8; have q3 := k3 c21))
  all_goals
   have hb3 := Lib.hid (below_le (below_drewN' hb.out 1) b3)
   clear b3 q1 q2 q3 k1 k2 k3 c7 c8 c21
   go_wp2
   go_ret
   exact ⟨rfl, by simpa using hb3.out⟩

end
section
open Go.RowKit
theorem words_any (s : ByteArray) (w : World) (hs : s.size ≤ 1048576) :
  Ct 5 #[.string s] (.bool true) w := by
 have C1 := fun W => xSpell_any s W (by omega)
 have C2 := fun W => zSpell_any s W hs
 obtain ⟨Y, er, hY⟩ : ∃ Y er, (if nmdL (us s) = true then Ending.returned (.tuple #[.string ⟨(bL (speL (us s))).toArray⟩, .int .i64 0]) else .returned (.tuple #[.string ⟨#[]⟩, .int .i64 1])) = .returned (.tuple #[.string Y, .int .i64 er]) := by
  split
  ·exact ⟨_, _, rfl⟩
  ·exact ⟨_, _, rfl⟩
 rw [hY] at C1 C2
 have C3 := fun W => xReserved_any s W (by omega)
 have C4 := fun W => zReserved_any s W (by omega)
 have C5 := fun W => xNamed_any s W (by omega)
 have C6 := fun W => zNamed_any s W (by omega)
 have C7 := fun W => xQuote_any s W (by omega)
 have C8 := fun W => zQuote_any s W hs
 obtain ⟨rb, hrb⟩ : ∃ b, resB (us s) = b := ⟨_, rfl⟩
 obtain ⟨nb, hnb⟩ : ∃ b, nmdL (us s) = b := ⟨_, rfl⟩
 obtain ⟨Q, hQ⟩ : ∃ Q : ByteArray, (⟨(bL (quoL (us s))).toArray⟩ : ByteArray) = Q := ⟨_, rfl⟩
 rw [hrb] at C3 C4
 rw [hnb] at C5 C6
 rw [hQ] at C7 C8
 have CA := Lib.hid (fun W => awake_any W)
 have C1 := Lib.hid C1
 have C2 := Lib.hid C2
 have C3 := Lib.hid C3
 have C4 := Lib.hid C4
 have C5 := Lib.hid C5
 have C6 := Lib.hid C6
 have C7 := Lib.hid C7
 have C8 := Lib.hid C8
 clear hs hY hrb hnb hQ
 go_enter Tryz.func5, Tryz.ntmps5
 go_wp2_with fail
 refine (C1.out _).mono ?_
 rintro e w1 ⟨rfl, b1⟩
 go_wp2_with fail
 refine (C2.out _).mono ?_
 rintro e w2 ⟨rfl, b2⟩
 have B2 := Lib.hid (below_le b1 b2)
 clear b1 b2
 go_wp2_with fail
 refine (C3.out _).mono ?_
 rintro e w3 ⟨rfl, b3⟩
 have B3 := Lib.hid (below_le B2.out b3)
 clear b3
 go_wp2_with fail
 refine (C4.out _).mono ?_
 rintro e w' ⟨rfl, n4, rfl⟩
 go_wp2_with fail
 refine (C5.out _).mono ?_
 rintro e w' ⟨rfl, n5, rfl⟩
 go_wp2_with fail
 refine (C6.out _).mono ?_
 rintro e w' ⟨rfl, n6, rfl⟩
 go_wp2_with fail
 refine (C7.out _).mono ?_
 rintro e w7 ⟨rfl, b7⟩
 have B7 := Lib.hid (below_le (below_drewN' B3.out (n4 + n5 + n6)) b7)
 clear b7
 go_wp2_with fail
 refine (C8.out _).mono ?_
 rintro e w8 ⟨rfl, b8⟩
 have B8 := Lib.hid (below_le B7.out b8)
 clear b8
 go_wp2_with fail
 refine (CA.out _).mono ?_
 rintro e w9 ⟨rfl, b9⟩
 have B9 := Lib.hid (below_le B8.out b9)
 clear b9
 go_wp2
 go_ret
 exact ⟨by simp, B9.out⟩

end
end Go.Proofs.YtmimeejjaneedaaGreatDoor
