/-
  Merged texts (Nt, Nu, Qv).
-/
import Derived.Test.YtjmplgbhjpldbaaGreatDoorQsd
import Derived.Shelf.Strings.SlTrimAscii
import Derived.Shelf.Strings.Builder1
import Derived.Shelf.Strings.Builder2
import Derived.Shelf.Strings.OnBuilder
import Derived.Shelf.Strings.Trim
import Derived.Shelf.Small.Utf8
import Derived.Shelf.Small.Bits
import Derived.Shelf.Small.Strs
import Derived.Shelf.Small.Wraps
import Derived.Shelf.Strings.BuilderF
import Derived.Shelf.Strings.BuilderK
import Derived.Shelf.Strings.BuilderRune
import Derived.Shelf.Utf8.AppendRune
import Derived.Shelf.Strconv.Itoa0
import Derived.Shelf.Strings.Search1
import Derived.Shelf.Strings.Prefix
import Derived.Shelf.Unicode.Latin
import Derived.Shelf.Strings.Runes
import Derived.Shelf.Strings.AsciiSet
import Derived.Shelf.Unicode.DecodeSlow
import Derived.Shelf.Unicode.CaseLookup
import Derived.Shelf.Unicode.CaseConvert
import Derived.Shelf.Unicode.CaseTo
import Derived.Shelf.Unicode.CaseLaid
import Derived.Test.YtjmplgbhjpldbaaGreatDoorProg
import GoSem.Core.Utf8
import Derived.WalkKit
import Derived.WalkSpells
import Derived.WalkLawsBesides
import Derived.Deep.QuietTactic
import Derived.BigQuiet
import Derived.Lib.Hide
import Derived.Deep.OwnRows
import Derived.Laws.CopyOwn
import Derived.Deep.AppendLies
import Derived.Lib.BitFns
import Derived.Lib.Strings
import Derived.Laws.BitsAllLaws
import Derived.Lib.LaidTab
import Derived.Laws.BytesString
import Derived.Laws.Cells
import Derived.Lib.RuneBytes
import Derived.ProofKit
import Derived.OpenShut
import Derived.SizedLaws
import Derived.Deep.RegionWith
import Derived.BigRegion
import Derived.Test.YtjmplgbhjpldbaaGreatDoorRows
import Derived.Lib.ItoaNum
import Derived.Deep.DeepCutAuto
import Derived.Deep.RegionHeld3
import Derived.Laws.Closers25b
import Ieee.Arith
import GoSem.Core.Float
import Derived.Laws.FloatArith
import Derived.Laws.Externs
import Derived.Deep.WholeRow
import Derived.Laws.Tables
import Derived.Laws.EntriesVeiled
import Derived.Lib.SlTrimSet
import Derived.Lib.Case
import Derived.Lib.AppendIntMem
import Derived.OwnWalk
namespace Go.Proofs.YtjmplgbhjpldbaaGreatDoor
open Go.RowKit
theorem info_tok : (Tryz.prog.info? 24).map (fun i => (i.zero, i.size, i.bytes)) = some (some (.agg #[.int .i64 0, .string ⟨#[]⟩, .float .f64 0, .bool false, .bool false, .int .i64 0, .int .i64 0]), 7, 56) := by kernel_rfl
def tkC (t : Tok) : List Value := [.int .i64 (t.kind : Int), .string ⟨(bL t.text).toArray⟩, .float .f64 t.num, .bool t.esc, .bool t.nl, .int .i64 (t.pos : Int), .int .i64 (t.fin : Int)]
def OwnT (B : Nat) (ts : List Tok) (v : Value) (w : World) : Prop := w.ownsRow B 24 7 v ts.length (ts.flatMap tkC)
theorem OwnT.nil (B : Nat) (w : World) : OwnT B [] (.slice none 0 0) w := World.ownsRow_nil _ _ _ _
def AllP (B : Nat) (r : Nat × Option (List Tok)) (w : World) (e : Ending) (w' : World) : Prop :=
 (match r with
  | (p, none) => e = .returned (.tuple #[.slice none 0 0, .int .i64 (p : Int), .int .i64 60])
  | (_, some ts) => ∃ v, e = .returned (.tuple #[v, .int .i64 0, .int .i64 0]) ∧ OwnT B ts v w') ∧ Below B w w'
theorem OwnT.below {B : Nat} {ts : List Tok} {v : Value} {w w' : World} (h : OwnT B ts v w) (hb : Below w.heap.size w w') : OwnT B ts v w' := by
 refine h.kept (row := none) ⟨hb.os, hb.tape, hb.output, hb.size, fun k hk _ => hb.block k hk⟩ ?_
 cases v.ownBlock <;> simp
theorem nxt_lt {p q : Nat} {l : List Nat} {t : Tok} (h : nxtL p l = (q, some t)) (hk : t.kind ≠ 1) : p < t.fin := by
 unfold nxtL at h
 split at h
 ·cases h
 ·split at h
  ·cases h
  ·rename_i k tx x e n hr
   cases h
   obtain ⟨h1, h2, h3, _⟩ := read_len hr
   have := h3 (fun e => hk (h2.2 e))
   show p < p + (skipL l).1 + n
   omega
theorem tok_cells (w1 : World) (kd po fi : Int) (tx : ByteArray) (xx : Nat) (es nl : Bool) : ∀ j u, ([.int .i64 kd, .string tx, .float .f64 xx, .bool es, .bool nl, .int .i64 po, .int .i64 fi] : List Value)[j]? = some u → ((w1.alloc (.cells #[.int .i64 kd, .string tx, .float .f64 xx, .bool es, .bool nl, .int .i64 po, .int .i64 fi] 24)).alloc (.cells #[.int .i64 kd, .string tx, .float .f64 xx, .bool es, .bool nl, .int .i64 po, .int .i64 fi] 24)).cell? (Addr.add ⟨w1.heap.size + 1, 0, none⟩ j) = some u := by
 intro j u h
 obtain ⟨V, hV⟩ : ∃ V, w1.alloc (.cells #[.int .i64 kd, .string tx, .float .f64 xx, .bool es, .bool nl, .int .i64 po, .int .i64 fi] 24) = V := ⟨_, rfl⟩
 have hs : w1.heap.size + 1 = V.heap.size := by rw [← hV]; simp
 rw [hV, hs]
 have h2 := heap_alloc_last V (.cells #[.int .i64 kd, .string tx, .float .f64 xx, .bool es, .bool nl, .int .i64 po, .int .i64 fi] 24)
 have e : Addr.add ⟨V.heap.size, 0, none⟩ j = ⟨V.heap.size, j, none⟩ := by
  unfold Addr.add
  by_cases hj : j = 0 <;> simp [hj]
 rw [e]
 unfold World.cell?
 simp only []
 rw [h2]
 simpa using h
theorem tok_first (w1 : World) (kd po fi : Int) (tx : ByteArray) (xx : Nat) (es nl : Bool) : ((w1.alloc (.cells #[.int .i64 kd, .string tx, .float .f64 xx, .bool es, .bool nl, .int .i64 po, .int .i64 fi] 24)).alloc (.cells #[.int .i64 kd, .string tx, .float .f64 xx, .bool es, .bool nl, .int .i64 po, .int .i64 fi] 24)).heap[w1.heap.size]? = some (.cells #[.int .i64 kd, .string tx, .float .f64 xx, .bool es, .bool nl, .int .i64 po, .int .i64 fi] 24 (0, 0)) := by
 obtain ⟨V, hV⟩ : ∃ V, w1.alloc (.cells #[.int .i64 kd, .string tx, .float .f64 xx, .bool es, .bool nl, .int .i64 po, .int .i64 fi] 24) = V := ⟨_, rfl⟩
 have hs : w1.heap.size + 1 = V.heap.size := by rw [← hV]; simp
 have h2 : V.heap[w1.heap.size]? = some (.cells #[.int .i64 kd, .string tx, .float .f64 xx, .bool es, .bool nl, .int .i64 po, .int .i64 fi] 24 (0, 0)) := by rw [← hV]; exact heap_alloc_last w1 _
 rw [hV]
 exact (((Below.refl V.heap.size V).alloc (Nat.le_refl _) _).block _ (by omega)).trans h2
def prepT (ts : List Tok) : Nat × Option (List Tok) → Nat × Option (List Tok)
 | (q, none) => (q, none)
 | (_, some us) => (0, some (ts ++ us))
set_option maxRecDepth 100000 in
set_option maxHeartbeats 4000000 in
theorem xAll_any (s : ByteArray) (w : World) (hs : s.size ≤ 4398046511104) :
    Cp 13 #[.string s] w (AllP w.heap.size (allL (us s)) w) := by
  obtain ⟨i0, hi, hz0, hz1, hz2⟩ := info_parts info_tok
  have hln := ln_le s
  have CN := Lib.hid (fun (j : Nat) (hj : j ≤ ln s) W => xNext_any s j false W hs hj)
  obtain ⟨R, hR⟩ : ∃ R, allL (us s) = R := ⟨_, rfl⟩
  have hR0 : prepT [] (allG 0 ((us s).drop 0)) = R := by
    rw [← hR, List.drop_zero]
    show prepT [] (allL (us s)) = _
    rcases h : allL (us s) with ⟨q, _ | ts⟩
    · rfl
    · have h2 : allG 0 (us s) = (q, some ts) := h
      rw [all_next] at h2
      have : q = 0 := by
        rcases h3 : nxtL 0 (us s) with ⟨q1, _ | t⟩
        · rw [h3] at h2
          cases h2
        · rw [h3] at h2
          simp only [] at h2
          split at h2
          · cases h2; rfl
          · split at h2
            · cases h2
            · cases h2; rfl
      rw [this]
      rfl
  rw [hR]
  have HR := Lib.hid hR0
  have HL := Lib.hid (show ln s ≤ 2199023255552 by omega)
  clear hs hln hR hR0
  go_enter Tryz.func13, Tryz.ntmps13
  go_wp2
  go_loopw [5, 6] (fun lv av wr => ∃ (j : Nat) (ts : List Tok) (v : Value), lv = v ∧ av = .int .i64 j ∧ j ≤ ln s ∧ Hid (ts.length ≤ j ∧ prepT ts (allG j ((us s).drop j)) = R) ∧ OwnT w.heap.size ts v wr ∧ Below w.heap.size w wr) (fun _ av _ => ln s - (intOf av).toNat)
  case atStart => exact ⟨0, [], _, rfl, by go_num, Nat.zero_le _, Lib.hid ⟨Nat.zero_le _, HR.out⟩, OwnT.nil _ _, Below.refl _ _⟩
  case round =>
    obtain ⟨j, ts, v, hv, rfl, hj, HJ, H, hb⟩ := hrel
    obtain rfl := hv.symm
    have C1 := CN.out j hj
    rw [nxtO_false] at C1
    obtain ⟨h1, h2⟩ := HJ.out
    rw [all_next] at h2
    have hsz := hb.size
    have H1 := Lib.hid h1
    have HJ3 := Lib.hid hj
    have htl : ts.length ≤ 2199023255552 := by have := HL.out; omega
    clear HJ h1 hj
    rcases hn : nxtL j ((us s).drop j) with ⟨q, _ | t⟩
    · rw [hn] at C1 h2
      obtain rfl : R = (q, none) := h2.symm
      have C1 := Lib.hid (show ∀ W, Cp 9 #[.string s, .int .i64 j, .bool false] W fun e w' => e = .returned (.tuple #[.agg #[.int .i64 0, .string ⟨#[]⟩, .float .f64 0, .bool false, .bool false, .int .i64 0, .int .i64 0], .int .i64 (q : Nat), .int .i64 60]) ∧ Below W.heap.size W w' from C1)
      clear hn h2 HR htl
      go_wp2_with fail
      refine (C1.out _).mono ?_
      rintro e w1 ⟨rfl, b1⟩
      have hb2 := Lib.hid ((hb.trans (b1.mono hsz)).alloc (by have := b1.size; omega) (.cells #[.int .i64 0, .string ⟨#[]⟩, .float .f64 0, .bool false, .bool false, .int .i64 0, .int .i64 0] 24))
      clear hb b1 H
      go_wp2_with (first | (refine wpList_store_row rfl 24 _ _ rfl w1.heap.size #[.int .i64 0, .string ⟨#[]⟩, .float .f64 0, .bool false, .bool false, .int .i64 0, .int .i64 0] rfl rfl 24 #[.int .i64 0, .string ⟨#[]⟩, .float .f64 0, .bool false, .bool false, .int .i64 0, .int .i64 0] (heap_alloc_last w1 _) (by first | kernel_rfl | rfl) rfl (by first | kernel_rfl | rfl) ?_; rw [World.setRow_alloc_new]))
      go_ret3
      exact ⟨rfl, hb2.out⟩
    · rw [hn] at C1 h2
      obtain ⟨n1, n2, n3, n4, n5, n6, rfl⟩ := nxt_in hn
      rw [List.length_drop, us_length] at n3
      have hfl : t.fin ≤ ln s := by have := HJ3.out; omega
      have n7 := fun h => nxt_lt hn h
      have C1 := Lib.hid (show ∀ W, Cp 9 #[.string s, .int .i64 j, .bool false] W fun e w' => e = .returned (.tuple #[.agg #[.int .i64 (t.kind : Int), .string ⟨(bL t.text).toArray⟩, .float .f64 t.num, .bool t.esc, .bool t.nl, .int .i64 (t.pos : Int), .int .i64 (t.fin : Int)], .int .i64 0, .int .i64 0]) ∧ Below W.heap.size W w' from C1)
      have HT : Hid (tkC t = [.int .i64 (t.kind : Int), .string ⟨(bL t.text).toArray⟩, .float .f64 t.num, .bool t.esc, .bool t.nl, .int .i64 (t.pos : Int), .int .i64 (t.fin : Int)]) := Lib.hid rfl
      obtain ⟨kd, hkd⟩ : ∃ kd : Int, (t.kind : Int) = kd := ⟨_, rfl⟩
      obtain ⟨tx, htx⟩ : ∃ tx : ByteArray, (⟨(bL t.text).toArray⟩ : ByteArray) = tx := ⟨_, rfl⟩
      obtain ⟨fi, hfi⟩ : ∃ fi : Int, (t.fin : Int) = fi := ⟨_, rfl⟩
      obtain ⟨po, hpo⟩ : ∃ po : Int, (t.pos : Int) = po := ⟨_, rfl⟩
      obtain ⟨xx, hxx⟩ : ∃ xx, t.num = xx := ⟨_, rfl⟩
      obtain ⟨es, hes⟩ : ∃ es, t.esc = es := ⟨_, rfl⟩
      obtain ⟨nl, hnl⟩ : ∃ nl, t.nl = nl := ⟨_, rfl⟩
      rw [hkd, htx, hfi, hpo, hxx, hes, hnl] at C1 HT
      have HKD := Lib.hid hkd
      have HFI := Lib.hid hfi
      have HFL := Lib.hid hfl
      have N7 := Lib.hid n7
      have HX : Hid (if t.kind = 1 then R = (0, some (ts ++ [t])) else prepT (ts ++ [t]) (allG t.fin ((us s).drop t.fin)) = R) := Lib.hid (by
        rw [← h2]
        simp only []
        split
        · rfl
        · rw [List.drop_drop, show j + (t.fin - j) = t.fin by omega]
          rcases allG t.fin ((us s).drop t.fin) with ⟨q, _ | us⟩
          · rfl
          · simp [prepT])
      clear htx hfi hpo hxx hes hnl hn h2 n1 n2 n3 n4 n5 n6 n7 hfl HR
      have main : ∀ b : Bool, decide (t.kind = 1) = b → (kd == 1) = b := fun b h => by
        rw [← h, ← hkd, Bool.eq_iff_iff]
        simp
        omega
      clear hkd
      cases hk : decide (t.kind = 1)
      all_goals
        have g1 := main _ hk
        have HK := Lib.hid hk
        clear main hk
        go_wp2_with fail
        refine (C1.out _).mono ?_
        rintro e w1 ⟨rfl, b1⟩
        have hb1 := hb.trans (b1.mono hsz)
        have o1 := OwnT.below H b1
        have hs1 := b1.size
        have HLT := Lib.hid (fun k hk => World.ownsRow.lt H k hk)
        clear H hb b1
        have HC1 := Lib.hid (tok_cells w1 kd po fi tx xx es nl)
        have HC2 : Hid (∀ u ∈ ([.int .i64 kd, .string tx, .float .f64 xx, .bool es, .bool nl, .int .i64 po, .int .i64 fi] : List Value), u.oneCell' = true) := Lib.hid (by simp [Value.oneCell'])
        have HC3 : Hid (w.heap.size ≤ ((w1.alloc (.cells #[.int .i64 kd, .string tx, .float .f64 xx, .bool es, .bool nl, .int .i64 po, .int .i64 fi] 24)).alloc (.cells #[.int .i64 kd, .string tx, .float .f64 xx, .bool es, .bool nl, .int .i64 po, .int .i64 fi] 24)).heap.size) := Lib.hid (by simp; omega)
        go_wp2_with (first | (refine wpList_store_row rfl 24 _ _ rfl w1.heap.size #[.int .i64 kd, .string tx, .float .f64 xx, .bool es, .bool nl, .int .i64 po, .int .i64 fi] rfl rfl 24 #[.int .i64 0, .string ⟨#[]⟩, .float .f64 0, .bool false, .bool false, .int .i64 0, .int .i64 0] (heap_alloc_last w1 _) (by first | kernel_rfl | rfl) rfl (by first | kernel_rfl | rfl) ?_; rw [World.setRow_alloc_new]) | (at_builtin; refine wpList_append_own _ rfl _ _ 31 rfl w.heap.size 24 i0 (.agg #[.int .i64 0, .string ⟨#[]⟩, .float .f64 0, .bool false, .bool false, .int .i64 0, .int .i64 0]) 7 56 Tryz.underlying31 hi hz0 hz1 hz2 rfl (by decide) _ _ _ rfl (World.ownsRow.alloc (w := w1.alloc (.cells #[.int .i64 kd, .string tx, .float .f64 xx, .bool es, .bool nl, .int .i64 po, .int .i64 fi] 24)) (World.ownsRow.alloc (w := w1) o1 _) _) ⟨w1.heap.size + 1, 0, none⟩ 1 1 [.int .i64 kd, .string tx, .float .f64 xx, .bool es, .bool nl, .int .i64 po, .int .i64 fi] rfl rfl HC1.out HC2.out (by unfold maxLen; omega) (by omega) HC3.out ?_))
        intro v' w2 hown hg _
        have o2 : OwnT w.heap.size (ts ++ [t]) v' w2 := by
          unfold OwnT
          rw [List.length_append, List.flatMap_append, List.flatMap_cons, List.flatMap_nil, List.append_nil, HT.out]
          exact hown
        have hG : w2.heap[w1.heap.size]? = some (.cells #[.int .i64 kd, .string tx, .float .f64 xx, .bool es, .bool nl, .int .i64 po, .int .i64 fi] 24 (0, 0)) := (hg.block _ (by simp; omega) (fun e => by have := (HLT.out _ e.symm).2; omega)).trans (tok_first w1 kd po fi tx xx es nl)
        have c0 : w2.cell? ⟨w1.heap.size, 0, none⟩ = some (.int .i64 kd) := by simp [World.cell?, hG]
        have c6 : w2.cell? ⟨w1.heap.size, 6, none⟩ = some (.int .i64 fi) := by simp [World.cell?, hG]
        have hb2 : Below w.heap.size w w2 := ((hb1.alloc (by omega) (.cells #[.int .i64 kd, .string tx, .float .f64 xx, .bool es, .bool nl, .int .i64 po, .int .i64 fi] 24)).alloc (by simp; omega) (.cells #[.int .i64 kd, .string tx, .float .f64 xx, .bool es, .bool nl, .int .i64 po, .int .i64 fi] 24)).grown hg HC3.out (fun k hk => (HLT.out k hk).1)
        clear hown hg hG o1 hb1
        go_wp2
        first
          | (go_ret3
             have hR := HX.out
             rw [if_pos (by simpa using HK.out)] at hR
             rw [hR]
             exact ⟨⟨v', rfl, o2⟩, hb2⟩)
          | (go_roundw
             case rel =>
               have hk1 : t.kind ≠ 1 := by simpa using HK.out
               have hR := HX.out
               rw [if_neg hk1] at hR
               exact ⟨t.fin, ts ++ [t], v', rfl, by rw [HFI.out], HFL.out, Lib.hid ⟨by rw [List.length_append, List.length_singleton]; have := H1.out; have := N7.out hk1; omega, hR⟩, o2, hb2⟩
             case measure =>
               have hk1 : t.kind ≠ 1 := by simpa using HK.out
               have := N7.out hk1
               have := HFL.out
               have := HFI.out
               simp [intOf]
               omega)

end Go.Proofs.YtjmplgbhjpldbaaGreatDoor
namespace Go.Proofs.YtjmplgbhjpldbaaGreatDoor
open Go.RowKit
def awT : List Tok := [⟨2, [97], 0, false, false, 0, 1⟩, ⟨4, [43, 43], 0, false, false, 1, 3⟩, ⟨4, [43], 0, false, false, 3, 4⟩, ⟨2, [98], 0, false, false, 4, 5⟩, ⟨1, [], 0, false, false, 5, 5⟩]
theorem awake_all : allL [97, 43, 43, 43, 98] = (0, some awT) := by kernel_rfl
theorem own_tok {B : Nat} {ts : List Tok} {v : Value} {w : World} (h : OwnT B ts v w) : (ts = [] ∧ v = .slice none 0 0) ∨ ∃ g cap, v = .slice (some ⟨g, 0, none⟩) ts.length cap ∧ ts.length ≤ cap ∧ B ≤ g ∧ g < w.heap.size ∧ ∀ i x, (ts.flatMap tkC)[i]? = some x → w.cell? ⟨g, i, none⟩ = some x := by
 obtain ⟨hn, h⟩ := h
 rcases h with ⟨hv, h0⟩ | ⟨g, cap, cur, hv, hb, hg, hc, hm, hsz, ht⟩
 ·exact .inl ⟨List.eq_nil_of_length_eq_zero h0, hv⟩
 ·refine .inr ⟨g, cap, hv, hc, hb, (Array.getElem?_eq_some_iff.1 hg).1, fun i x hx => ?_⟩
  have hi : i < ts.length * 7 := by rw [← hn]; exact (List.getElem?_eq_some_iff.1 hx).1
  rw [← ht, List.getElem?_take_of_lt hi] at hx
  unfold World.cell?
  simp only []
  rw [hg]
  simpa using hx
theorem kept_cellU {W w' : World} (hb : Below W.heap.size W w') : ∀ a v, W.cell? ⟨a, v.1, none⟩ = some v.2 → w'.cell? ⟨a, v.1, none⟩ = some (v : Nat × Value).2 := fun a v h => by
 have hlt : a < W.heap.size := by
  rcases Nat.lt_or_ge a W.heap.size with h1 | h1
  ·exact h1
  ·unfold World.cell? at h
   simp only [] at h
   rw [Array.getElem?_eq_none h1] at h
   cases h
 exact (hb.cell (p := ⟨a, v.1, none⟩) hlt).trans h
set_option maxRecDepth 100000 in
set_option maxHeartbeats 4000000 in
theorem awake_any (w : World) : Ct 12 #[] (.bool true) w := by
 obtain ⟨X, hX⟩ : ∃ X : ByteArray, (⟨(bL [97, 43, 43, 43, 98]).toArray⟩ : ByteArray) = X := ⟨_, rfl⟩
 obtain ⟨Y, hY⟩ : ∃ Y : ByteArray, (⟨(bL [43, 43]).toArray⟩ : ByteArray) = Y := ⟨_, rfl⟩
 have CX := fun W => rwide_any ⟨#[97, 43, 43, 43, 98]⟩ W (by decide)
 have CY := fun W => rwide_any ⟨#[43, 43]⟩ W (by decide)
 rw [show wdL ⟨#[97, 43, 43, 43, 98]⟩ = [97, 43, 43, 43, 98] from rfl, hX] at CX
 rw [show wdL ⟨#[43, 43]⟩ = [43, 43] from rfl, hY] at CY
 have hXs : X.size ≤ 4398046511104 := by rw [← hX]; decide
 have CA := fun W => xAll_any X W hXs
 rw [show us X = [97, 43, 43, 43, 98] by rw [← hX]; exact us_bL (by decide), awake_all] at CA
 have CX := Lib.hid CX
 have CY := Lib.hid CY
 have CA := Lib.hid CA
 have HY := Lib.hid hY
 clear hX hY hXs
 go_enter Tryz.func12, Tryz.ntmps12
 go_wp2_with fail
 refine (CX.out _).mono ?_
 rintro e w1 ⟨rfl, b1⟩
 go_wp2_with fail
 refine (CA.out _).mono ?_
 rintro e w2 ⟨⟨v, rfl, ho⟩, b2⟩
 have hb := Lib.hid (below_le b1 b2)
 rcases own_tok ho with ⟨h, _⟩ | ⟨g, cap, rfl, hcap, hg1, hg2, hcell⟩
 ·cases h
 ·have c7 := hcell 7 (.int .i64 4) rfl
  have c8 := hcell 8 (.string Y) (by rw [← HY.out]; rfl)
  have c21 := hcell 21 (.int .i64 2) rfl
  have hcap5 : (5 : Nat) ≤ cap := hcap
  have CY2 : Hid (∀ W, Cp 28 #[.string ⟨#[43, 43]⟩] W fun e w' => e = .returned (.string Y) ∧ Below W.heap.size W w' ∧ (W.cell? ⟨g, 7, none⟩ = some (.int .i64 4) → w'.cell? ⟨g, 7, none⟩ = some (.int .i64 4)) ∧ (W.cell? ⟨g, 8, none⟩ = some (.string Y) → w'.cell? ⟨g, 8, none⟩ = some (.string Y)) ∧ (W.cell? ⟨g, 21, none⟩ = some (.int .i64 2) → w'.cell? ⟨g, 21, none⟩ = some (.int .i64 2))) := Lib.hid (fun W => (CY.out W).mono fun e w' ⟨he, hb⟩ => ⟨he, hb, kept_cellU hb g (7, _), kept_cellU hb g (8, _), kept_cellU hb g (21, _)⟩)
  clear b1 b2 ho hcell hcap hg1 hg2
  rw [show awT.length = 5 from rfl]
  go_wp2
  go_region_held3 (fun w' => w'.cell? ⟨g, 7, none⟩ = some (.int .i64 4) ∧ w'.cell? ⟨g, 8, none⟩ = some (.string Y) ∧ w'.cell? ⟨g, 21, none⟩ = some (.int .i64 2)) (go_keep) ((go_at_call 28; refine (CY2.out _).mono ?_; rintro e w3 ⟨rfl, b3, k1, k2, k3⟩; have q1 := k1 c7; have q2 := k2 c8; have q3 := k3 c21))
  all_goals
   have hb3 := Lib.hid (below_le (below_drewN' hb.out 1) b3)
   clear b3 q1 q2 q3 k1 k2 k3 c7 c8 c21
   go_wp2
   go_ret
   exact ⟨rfl, by simpa using hb3.out⟩

end Go.Proofs.YtjmplgbhjpldbaaGreatDoor
namespace Go.Proofs.YtjmplgbhjpldbaaGreatDoor
open Go.RowKit
theorem own_tok_max {B : Nat} {ts : List Tok} {v : Value} {w : World} (h : OwnT B ts v w) : ts.length ≤ 9223372036854775807 := by
 obtain ⟨hn, h⟩ := h
 rcases h with ⟨hv, h0⟩ | ⟨g, cap, cur, hv, hb, hg, hc, hm, hsz, ht⟩
 ·omega
 ·unfold maxLen at hm
  omega
theorem tok_at {ts : List Tok} {i : Nat} {t : Tok} (h : ts[i]? = some t) (k : Nat) (hk : k < 7) : (ts.flatMap tkC)[i * 7 + k]? = (tkC t)[k]? := by
 induction ts generalizing i with
 | nil => simp at h
 | cons a r ih =>
  cases i with
  | zero =>
   obtain rfl : a = t := by simpa using h
   rw [List.flatMap_cons, List.getElem?_append_left (by show 0 * 7 + k < 7; omega)]
   simp
  | succ i =>
   rw [List.flatMap_cons, List.getElem?_append_right (by show 7 ≤ (i + 1) * 7 + k; omega)]
   rw [show (i + 1) * 7 + k - (tkC a).length = i * 7 + k by show (i + 1) * 7 + k - 7 = _; omega]
   exact ih (by simpa using h)
set_option maxRecDepth 100000 in
set_option maxHeartbeats 4000000 in
theorem stands_any (s : ByteArray) (w : World) (hs : s.size ≤ 1048576) :
  Ct 6 #[.string s] (.bool true) w := by
 have hln := ln_le s
 have CA := fun W => xAll_any s W (by omega)
 have CW := Lib.hid (fun W => awake_any W)
 have CS := Lib.hid (fun (f t : Int) W => rslice_any s f t W (by unfold maxLen; omega))
 have CL := Lib.hid (fun W => rlen_any s W (by unfold maxLen; omega))
 have CA2 := Lib.hid (fun (X : ByteArray) (h : X.size ≤ 1048577) W => xAll_any X W (by omega))
 rcases hA : allL (us s) with ⟨q, _ | ts⟩
 ·rw [hA] at CA
  have CA := Lib.hid CA
  clear hA hs hln CA2 CS CL
  go_enter Tryz.func6, Tryz.ntmps6
  go_wp2_with fail
  refine (CA.out _).mono ?_
  rintro e w1 ⟨rfl, b1⟩
  have B1 := Lib.hid b1
  clear b1
  go_wp2_with fail
  refine (CW.out _).mono ?_
  rintro e w2 ⟨rfl, b2⟩
  have B2 := Lib.hid (below_le B1.out b2)
  clear b2
  go_wp2
  go_ret
  exact ⟨rfl, B2.out⟩
 ·rw [hA] at CA
  have hst := all_stands (us s) _ 0 q ts (Nat.zero_le _) hA
  have CA := Lib.hid CA
  have HS := Lib.hid hst
  have hl : (ln s : Int) ≤ 524288 := by omega
  clear hA hs hst hln
  go_enter Tryz.func6, Tryz.ntmps6
  go_wp2_with fail
  refine (CA.out _).mono ?_
  rintro e w1 ⟨⟨v, rfl, ho⟩, b1⟩
  have B1 := Lib.hid b1
  have hmx := own_tok_max ho
  rcases own_tok ho with ⟨h, _⟩ | ⟨g, cap, rfl, hcap, hg1, hg2, hcell⟩
  ·subst h
   exact absurd HS.out (by simp [StandsL])
  ·have HC := Lib.hid hcell
   clear b1 ho hcell
   obtain ⟨n, hn⟩ : ∃ n, ts.length = n := ⟨_, rfl⟩
   rw [hn] at hcap hmx ⊢
   have HMX := Lib.hid hmx
   clear hmx
   have HN := Lib.hid hn
   clear hn
   go_wp2
   go_loopw [6, 7] (fun av iv wr => ∃ (i p : Nat), av = .int .i64 p ∧ iv = .int .i64 i ∧ i ≤ n ∧ p ≤ ln s ∧ Hid ((i < n → StandsL (us s) p (ts.drop i)) ∧ (i = n → p = ln s)) ∧ Below w1.heap.size w1 wr) (fun _ iv _ => n - (intOf iv).toNat)
   case atStart => exact ⟨0, 0, by go_num, by go_num, Nat.zero_le _, Nat.zero_le _, Lib.hid ⟨fun _ => HS.out, fun h => by have := HN.out; have h3 : ts.length = 0 := (by omega); exact absurd HS.out (by rw [List.eq_nil_of_length_eq_zero h3]; exact fun h => h)⟩, Below.refl _ _⟩
   case round =>
    obtain ⟨i, p, rfl, rfl, hi, hp, HJ, hb⟩ := hrel
    rcases Nat.lt_or_ge i n with hlt | hge
    ·have hb2 := Lib.hid hb
     have hi1 : (i : Int) + 1 ≤ 9223372036854775807 := by have := HMX.out; omega
     obtain ⟨t, ht⟩ : ∃ t, ts[i]? = some t := ⟨_, List.getElem?_eq_getElem (by rw [HN.out]; exact hlt)⟩
     have hdr : ts.drop i = t :: ts.drop (i + 1) := by
      obtain ⟨h1, h2⟩ := List.getElem?_eq_some_iff.1 ht
      rw [← h2]
      exact List.drop_eq_getElem_cons h1
     have hst := HJ.out.1 hlt
     rw [hdr] at hst
     obtain ⟨s1, s2, s3, s4, s5, s6⟩ := hst
     have hc : ∀ k x, k < 7 → (tkC t)[k]? = some x → wr.cell? ⟨g, i * 7 + k, none⟩ = some x := fun k x hk hx => (hb.cell (p := ⟨g, i * 7 + k, none⟩) hg2).trans (HC.out _ _ (by rw [tok_at ht k hk]; exact hx))
     have k0 : wr.cell? ⟨g, i * 7, none⟩ = some (.int .i64 (t.kind : Int)) := hc 0 _ (by omega) rfl
     have k1 : wr.cell? ⟨g, i * 7 + 1, none⟩ = some (.string ⟨(bL t.text).toArray⟩) := hc 1 _ (by omega) rfl
     have k2 : wr.cell? ⟨g, i * 7 + 2, none⟩ = some (.float .f64 t.num) := hc 2 _ (by omega) rfl
     have k3 : wr.cell? ⟨g, i * 7 + 3, none⟩ = some (.bool t.esc) := hc 3 _ (by omega) rfl
     have k4 : wr.cell? ⟨g, i * 7 + 4, none⟩ = some (.bool t.nl) := hc 4 _ (by omega) rfl
     have k5 : wr.cell? ⟨g, i * 7 + 5, none⟩ = some (.int .i64 (t.pos : Int)) := hc 5 _ (by omega) rfl
     have k6 : wr.cell? ⟨g, i * 7 + 6, none⟩ = some (.int .i64 (t.fin : Int)) := hc 6 _ (by omega) rfl
     clear hc hb ht
     obtain ⟨kd, tx0, xx, es, nl, po, fi⟩ := t
     simp only [] at s1 s2 s3 s4 s5 s6 k0 k1 k2 k3 k4 k5 k6
     obtain ⟨tx, htx⟩ : ∃ tx : ByteArray, (⟨(bL tx0).toArray⟩ : ByteArray) = tx := ⟨_, rfl⟩
     rw [htx] at k1
     rw [us_length] at s3
     have hpol : po ≤ ln s := by omega
     obtain ⟨X, hX⟩ : ∃ X, slS s (p : Int) (po : Int) = X := ⟨_, rfl⟩
     have hXu : us X = ((us s).drop p).take (po - p) := by rw [← hX]; exact us_slS s p po hpol
     have hXs : X.size ≤ 1048577 := by
      have e := slS_bL s p (po - p) (by omega)
      rw [show p + (po - p) = po by omega, hX] at e
      rw [e]
      show (bL _).toArray.size ≤ _
      rw [List.size_toArray, bL_length, List.length_take]
      omega
     have CS1 := fun W => CS.out p po W
     rw [hX] at CS1
     have CS1 := Lib.hid CS1
     have CA3 := fun W => CA2.out X hXs W
     rw [hXu, s5] at CA3
     have CA3 := Lib.hid CA3
     have f1 : decide (po < p) = false := by simpa using s1
     have f2 : decide (fi < po) = false := by simpa using s2
     obtain ⟨b, hbk⟩ : ∃ b : Bool, (fi == po) = b := ⟨_, rfl⟩
     have f4 : ((fi : Int) == (po : Int)) = b := by
      rw [← hbk, Bool.eq_iff_iff]
      simp
      omega
     have f3 : ((kd : Int) == 1) = b := by
      rw [← hbk, Bool.eq_iff_iff]
      simp only [beq_iff_eq]
      rw [s4]
      omega
     have HF := Lib.hid s3
     have HPO := Lib.hid hpol
     have HNX : Hid ((i + 1 < n → StandsL (us s) fi (ts.drop (i + 1))) ∧ (i + 1 = n → fi = ln s)) := Lib.hid (by
      have hnn := HN.out
      rcases s6 with ⟨_, h2, h3⟩ | ⟨_, h3⟩
      ·refine ⟨fun h => ?_, fun _ => by rw [us_length] at h3; exact h3⟩
       have := congrArg List.length h2
       rw [List.length_drop] at this
       simp at this
       omega
      ·refine ⟨fun _ => h3, fun h => ?_⟩
       rw [List.drop_eq_nil_iff.2 (by omega)] at h3
       exact absurd h3 (by simp [StandsL]))
     clear hbk hdr s1 s2 s3 s4 s5 s6 htx hX hXu hXs hpol HJ
     cases b
     all_goals
      go_wp2_with (refine wpList_store_row rfl 24 _ _ rfl wr.heap.size #[.int .i64 ((kd : Nat) : Int), .string tx, .float .f64 xx, .bool es, .bool nl, .int .i64 ((po : Nat) : Int), .int .i64 ((fi : Nat) : Int)] rfl rfl 24 #[.int .i64 0, .string ⟨#[]⟩, .float .f64 0, .bool false, .bool false, .int .i64 0, .int .i64 0] (heap_alloc_last wr _) (by first | kernel_rfl | rfl) rfl (by first | kernel_rfl | rfl) ?_; rw [World.setRow_alloc_new])
      refine (CS1.out _).mono ?_
      rintro e w' ⟨rfl, rfl⟩
      go_wp2_with fail
      refine (CA3.out _).mono ?_
      rintro e w3 ⟨⟨v2, rfl, o2⟩, b3⟩
      have B3 := Lib.hid (below_le (hb2.out.alloc hb2.out.size _) b3)
      rcases own_tok o2 with ⟨h, _⟩ | ⟨g2, cap2, rfl, hcap2, hg3, hg4, hcell2⟩
      ·cases h
      ·have m4 := hcell2 4 (.bool nl) rfl
       have hG : w3.heap[wr.heap.size]? = some (.cells #[.int .i64 ((kd : Nat) : Int), .string tx, .float .f64 xx, .bool es, .bool nl, .int .i64 ((po : Nat) : Int), .int .i64 ((fi : Nat) : Int)] 24 (0, 0)) := (b3.block _ (by simp)).trans (heap_alloc_last wr _)
       have d4 : w3.cell? ⟨wr.heap.size, 4, none⟩ = some (.bool nl) := by simp [World.cell?, hG]
       have d6 : w3.cell? ⟨wr.heap.size, 6, none⟩ = some (.int .i64 ((fi : Nat) : Int)) := by simp [World.cell?, hG]
       have hcap3 : 1 ≤ cap2 := hcap2
       clear hcap2 hcell2 o2 b3 hG
       rw [show ([(⟨1, [], 0, false, nl, po - p, po - p⟩ : Tok)] : List Tok).length = 1 from rfl]
       cases nl
       all_goals
        go_wp2
        go_quiet (fail)
        go_wp2
        go_roundw
        case rel => exact ⟨i + 1, fi, rfl, by go_num, hlt, HF.out, HNX, below_drewN' B3.out nq⟩
        case measure => simp [intOf]; omega
    ·obtain rfl : i = n := by omega
     have hpl := HJ.out.2 rfl
     subst hpl
     have hn0 : decide (0 < i) = true := by
      have := HN.out
      have h1 : ts ≠ [] := by intro e; exact absurd HS.out (by rw [e]; simp [StandsL])
      have h2 : ts.length ≠ 0 := fun e => h1 (List.eq_nil_of_length_eq_zero e)
      simp
      omega
     have B2 := Lib.hid (below_le B1.out hb)
     clear hb HJ
     go_wp2_with fail
     refine (CL.out _).mono ?_
     rintro e w' ⟨rfl, rfl⟩
     go_wp2_with fail
     refine (CW.out _).mono ?_
     rintro e w2 ⟨rfl, b2⟩
     have B3 := Lib.hid (below_le B2.out b2)
     clear b2
     go_wp2
     go_ret
     exact ⟨rfl, B3.out⟩

end Go.Proofs.YtjmplgbhjpldbaaGreatDoor
