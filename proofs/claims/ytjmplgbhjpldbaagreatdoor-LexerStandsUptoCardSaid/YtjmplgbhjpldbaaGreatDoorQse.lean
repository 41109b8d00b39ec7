/-
  Merged texts (Qv).
-/
import Derived.Test.YtjmplgbhjpldbaaGreatDoorQsd
import Derived.Shelf.Strings.SlTrimAscii
import Derived.Shelf.Strings.Builder1
import Derived.Shelf.Strings.Builder2
import Derived.Shelf.Strings.OnBuilder
import Derived.Shelf.Strings.Trim
import Derived.Shelf.Small.Utf8
import Derived.Shelf.Small.Bits
import Derived.Shelf.Small.Strs
import Derived.Shelf.Small.Wraps
import Derived.Shelf.Strings.BuilderF
import Derived.Shelf.Strings.BuilderK
import Derived.Shelf.Strings.BuilderRune
import Derived.Shelf.Utf8.AppendRune
import Derived.Shelf.Strconv.Itoa0
import Derived.Shelf.Strings.Search1
import Derived.Shelf.Strings.Prefix
import Derived.Shelf.Unicode.Latin
import Derived.Shelf.Strings.Runes
import Derived.Shelf.Strings.AsciiSet
import Derived.Shelf.Unicode.DecodeSlow
import Derived.Shelf.Unicode.CaseLookup
import Derived.Shelf.Unicode.CaseConvert
import Derived.Shelf.Unicode.CaseTo
import Derived.Shelf.Unicode.CaseLaid
import Derived.Test.YtjmplgbhjpldbaaGreatDoorProg
import GoSem.Core.Utf8
import Derived.WalkKit
import Derived.WalkSpells
import Derived.WalkLawsBesides
import Derived.Deep.QuietTactic
import Derived.BigQuiet
import Derived.Lib.Hide
import Derived.Deep.OwnRows
import Derived.Laws.CopyOwn
import Derived.Deep.AppendLies
import Derived.Lib.BitFns
import Derived.Lib.Strings
import Derived.Laws.BitsAllLaws
import Derived.Lib.LaidTab
import Ieee.Arith
import GoSem.Core.Float
import Derived.Laws.BytesString
import Derived.Laws.Cells
import Derived.Deep.RegionHeld3
import Derived.Laws.Closers25b
import Derived.ProofKit
import Derived.OpenShut
import Derived.SizedLaws
import Derived.Deep.RegionWith
import Derived.BigRegion
import Derived.Laws.FloatArith
import Derived.Laws.Externs
import Derived.Lib.ItoaNum
import Derived.Deep.DeepCutAuto
import Derived.Deep.WholeRow
import Derived.Laws.Tables
import Derived.Laws.EntriesVeiled
import Derived.Lib.SlTrimSet
import Derived.Lib.Case
import Derived.Lib.AppendIntMem
import Derived.Test.YtjmplgbhjpldbaaGreatDoorRows
import Derived.OwnWalk
import Derived.Lib.RuneBytes
namespace Go.Proofs.YtjmplgbhjpldbaaGreatDoor
open Go.RowKit
theorem own_tok_max {B : Nat} {ts : List Tok} {v : Value} {w : World} (h : OwnT B ts v w) : ts.length ≤ 9223372036854775807 := by
 obtain ⟨hn, h⟩ := h
 rcases h with ⟨hv, h0⟩ | ⟨g, cap, cur, hv, hb, hg, hc, hm, hsz, ht⟩
 ·omega
 ·unfold maxLen at hm
  omega
theorem tok_at {ts : List Tok} {i : Nat} {t : Tok} (h : ts[i]? = some t) (k : Nat) (hk : k < 7) : (ts.flatMap tkC)[i * 7 + k]? = (tkC t)[k]? := by
 induction ts generalizing i with
 | nil => simp at h
 | cons a r ih =>
  cases i with
  | zero =>
   obtain rfl : a = t := by simpa using h
   rw [List.flatMap_cons, List.getElem?_append_left (by show 0 * 7 + k < 7; omega)]
   simp
  | succ i =>
   rw [List.flatMap_cons, List.getElem?_append_right (by show 7 ≤ (i + 1) * 7 + k; omega)]
   rw [show (i + 1) * 7 + k - (tkC a).length = i * 7 + k by show (i + 1) * 7 + k - 7 = _; omega]
   exact ih (by simpa using h)
set_option maxRecDepth 100000 in
set_option maxHeartbeats 4000000 in
theorem stands_any (s : ByteArray) (w : World) (hs : s.size ≤ 1048576) :
  Ct 6 #[.string s] (.bool true) w := by
 have hln := ln_le s
 have CA := fun W => xAll_any s W (by omega)
 have CW := Lib.hid (fun W => awake_any W)
 have CS := Lib.hid (fun (f t : Int) W => rslice_any s f t W (by unfold maxLen; omega))
 have CL := Lib.hid (fun W => rlen_any s W (by unfold maxLen; omega))
 have CA2 := Lib.hid (fun (X : ByteArray) (h : X.size ≤ 1048577) W => xAll_any X W (by omega))
 rcases hA : allL (us s) with ⟨q, _ | ts⟩
 ·rw [hA] at CA
  have CA := Lib.hid CA
  clear hA hs hln CA2 CS CL
  go_enter Tryz.func6, Tryz.ntmps6
  go_wp2_with fail
  refine (CA.out _).mono ?_
  rintro e w1 ⟨rfl, b1⟩
  have B1 := Lib.hid b1
  clear b1
  go_wp2_with fail
  refine (CW.out _).mono ?_
  rintro e w2 ⟨rfl, b2⟩
  have B2 := Lib.hid (below_le B1.out b2)
  clear b2
  go_wp2
  go_ret
  exact ⟨rfl, B2.out⟩
 ·rw [hA] at CA
  have hst := all_stands (us s) _ 0 q ts (Nat.zero_le _) hA
  have CA := Lib.hid CA
  have HS := Lib.hid hst
  have hl : (ln s : Int) ≤ 524288 := by omega
  clear hA hs hst hln
  go_enter Tryz.func6, Tryz.ntmps6
  go_wp2_with fail
  refine (CA.out _).mono ?_
  rintro e w1 ⟨⟨v, rfl, ho⟩, b1⟩
  have B1 := Lib.hid b1
  have hmx := own_tok_max ho
  rcases own_tok ho with ⟨h, _⟩ | ⟨g, cap, rfl, hcap, hg1, hg2, hcell⟩
  ·subst h
   exact absurd HS.out (by simp [StandsL])
  ·have HC := Lib.hid hcell
   clear b1 ho hcell
   obtain ⟨n, hn⟩ : ∃ n, ts.length = n := ⟨_, rfl⟩
   rw [hn] at hcap hmx ⊢
   have HMX := Lib.hid hmx
   clear hmx
   have HN := Lib.hid hn
   clear hn
   go_wp2
   go_loopw [6, 7] (fun av iv wr => ∃ (i p : Nat), av = .int .i64 p ∧ iv = .int .i64 i ∧ i ≤ n ∧ p ≤ ln s ∧ Hid ((i < n → StandsL (us s) p (ts.drop i)) ∧ (i = n → p = ln s)) ∧ Below w1.heap.size w1 wr) (fun _ iv _ => n - (intOf iv).toNat)
   case atStart => exact ⟨0, 0, by go_num, by go_num, Nat.zero_le _, Nat.zero_le _, Lib.hid ⟨fun _ => HS.out, fun h => by have := HN.out; have h3 : ts.length = 0 := (by omega); exact absurd HS.out (by rw [List.eq_nil_of_length_eq_zero h3]; exact fun h => h)⟩, Below.refl _ _⟩
   case round =>
    obtain ⟨i, p, rfl, rfl, hi, hp, HJ, hb⟩ := hrel
    rcases Nat.lt_or_ge i n with hlt | hge
    ·have hb2 := Lib.hid hb
     have hi1 : (i : Int) + 1 ≤ 9223372036854775807 := by have := HMX.out; omega
     obtain ⟨t, ht⟩ : ∃ t, ts[i]? = some t := ⟨_, List.getElem?_eq_getElem (by rw [HN.out]; exact hlt)⟩
     have hdr : ts.drop i = t :: ts.drop (i + 1) := by
      obtain ⟨h1, h2⟩ := List.getElem?_eq_some_iff.1 ht
      rw [← h2]
      exact List.drop_eq_getElem_cons h1
     have hst := HJ.out.1 hlt
     rw [hdr] at hst
     obtain ⟨s1, s2, s3, s4, s5, s6⟩ := hst
     have hc : ∀ k x, k < 7 → (tkC t)[k]? = some x → wr.cell? ⟨g, i * 7 + k, none⟩ = some x := fun k x hk hx => (hb.cell (p := ⟨g, i * 7 + k, none⟩) hg2).trans (HC.out _ _ (by rw [tok_at ht k hk]; exact hx))
     have k0 : wr.cell? ⟨g, i * 7, none⟩ = some (.int .i64 (t.kind : Int)) := hc 0 _ (by omega) rfl
     have k1 : wr.cell? ⟨g, i * 7 + 1, none⟩ = some (.string ⟨(bL t.text).toArray⟩) := hc 1 _ (by omega) rfl
     have k2 : wr.cell? ⟨g, i * 7 + 2, none⟩ = some (.float .f64 t.num) := hc 2 _ (by omega) rfl
     have k3 : wr.cell? ⟨g, i * 7 + 3, none⟩ = some (.bool t.esc) := hc 3 _ (by omega) rfl
     have k4 : wr.cell? ⟨g, i * 7 + 4, none⟩ = some (.bool t.nl) := hc 4 _ (by omega) rfl
     have k5 : wr.cell? ⟨g, i * 7 + 5, none⟩ = some (.int .i64 (t.pos : Int)) := hc 5 _ (by omega) rfl
     have k6 : wr.cell? ⟨g, i * 7 + 6, none⟩ = some (.int .i64 (t.fin : Int)) := hc 6 _ (by omega) rfl
     clear hc hb ht
     obtain ⟨kd, tx0, xx, es, nl, po, fi⟩ := t
     simp only [] at s1 s2 s3 s4 s5 s6 k0 k1 k2 k3 k4 k5 k6
     obtain ⟨tx, htx⟩ : ∃ tx : ByteArray, (⟨(bL tx0).toArray⟩ : ByteArray) = tx := ⟨_, rfl⟩
     rw [htx] at k1
     rw [us_length] at s3
     have hpol : po ≤ ln s := by omega
     obtain ⟨X, hX⟩ : ∃ X, slS s (p : Int) (po : Int) = X := ⟨_, rfl⟩
     have hXu : us X = ((us s).drop p).take (po - p) := by rw [← hX]; exact us_slS s p po hpol
     have hXs : X.size ≤ 1048577 := by
      have e := slS_bL s p (po - p) (by omega)
      rw [show p + (po - p) = po by omega, hX] at e
      rw [e]
      show (bL _).toArray.size ≤ _
      rw [List.size_toArray, bL_length, List.length_take]
      omega
     have CS1 := fun W => CS.out p po W
     rw [hX] at CS1
     have CS1 := Lib.hid CS1
     have CA3 := fun W => CA2.out X hXs W
     rw [hXu, s5] at CA3
     have CA3 := Lib.hid CA3
     have f1 : decide (po < p) = false := by simpa using s1
     have f2 : decide (fi < po) = false := by simpa using s2
     obtain ⟨b, hbk⟩ : ∃ b : Bool, (fi == po) = b := ⟨_, rfl⟩
     have f4 : ((fi : Int) == (po : Int)) = b := by
      rw [← hbk, Bool.eq_iff_iff]
      simp
      omega
     have f3 : ((kd : Int) == 1) = b := by
      rw [← hbk, Bool.eq_iff_iff]
      simp only [beq_iff_eq]
      rw [s4]
      omega
     have HF := Lib.hid s3
     have HPO := Lib.hid hpol
     have HNX : Hid ((i + 1 < n → StandsL (us s) fi (ts.drop (i + 1))) ∧ (i + 1 = n → fi = ln s)) := Lib.hid (by
      have hnn := HN.out
      rcases s6 with ⟨_, h2, h3⟩ | ⟨_, h3⟩
      ·refine ⟨fun h => ?_, fun _ => by rw [us_length] at h3; exact h3⟩
       have := congrArg List.length h2
       rw [List.length_drop] at this
       simp at this
       omega
      ·refine ⟨fun _ => h3, fun h => ?_⟩
       rw [List.drop_eq_nil_iff.2 (by omega)] at h3
       exact absurd h3 (by simp [StandsL]))
     clear hbk hdr s1 s2 s3 s4 s5 s6 htx hX hXu hXs hpol HJ
     cases b
     all_goals
      go_wp2_with (refine wpList_store_row rfl 24 _ _ rfl wr.heap.size #[.int .i64 ((kd : Nat) : Int), .string tx, .float .f64 xx, .bool es, .bool nl, .int .i64 ((po : Nat) : Int), .int .i64 ((fi : Nat) : Int)] rfl rfl 24 #[.int .i64 0, .string ⟨#[]⟩, .float .f64 0, .bool false, .bool false, .int .i64 0, .int .i64 0] (heap_alloc_last wr _) (by first | kernel_rfl | rfl) rfl (by first | kernel_rfl | rfl) ?_; rw [World.setRow_alloc_new])
      refine (CS1.out _).mono ?_
      rintro e w' ⟨rfl, rfl⟩
      go_wp2_with fail
      refine (CA3.out _).mono ?_
      rintro e w3 ⟨⟨v2, rfl, o2⟩, b3⟩
      have B3 := Lib.hid (below_le (hb2.out.alloc hb2.out.size _) b3)
      rcases own_tok o2 with ⟨h, _⟩ | ⟨g2, cap2, rfl, hcap2, hg3, hg4, hcell2⟩
      ·cases h
      ·have m4 := hcell2 4 (.bool nl) rfl
       have hG : w3.heap[wr.heap.size]? = some (.cells #[.int .i64 ((kd : Nat) : Int), .string tx, .float .f64 xx, .bool es, .bool nl, .int .i64 ((po : Nat) : Int), .int .i64 ((fi : Nat) : Int)] 24 (0, 0)) := (b3.block _ (by simp)).trans (heap_alloc_last wr _)
       have d4 : w3.cell? ⟨wr.heap.size, 4, none⟩ = some (.bool nl) := by simp [World.cell?, hG]
       have d6 : w3.cell? ⟨wr.heap.size, 6, none⟩ = some (.int .i64 ((fi : Nat) : Int)) := by simp [World.cell?, hG]
       have hcap3 : 1 ≤ cap2 := hcap2
       clear hcap2 hcell2 o2 b3 hG
       rw [show ([(⟨1, [], 0, false, nl, po - p, po - p⟩ : Tok)] : List Tok).length = 1 from rfl]
       cases nl
       all_goals
        go_wp2
        go_quiet (fail)
        go_wp2
        go_roundw
        case rel => exact ⟨i + 1, fi, rfl, by go_num, hlt, HF.out, HNX, below_drewN' B3.out nq⟩
        case measure => simp [intOf]; omega
    ·obtain rfl : i = n := by omega
     have hpl := HJ.out.2 rfl
     subst hpl
     have hn0 : decide (0 < i) = true := by
      have := HN.out
      have h1 : ts ≠ [] := by intro e; exact absurd HS.out (by rw [e]; simp [StandsL])
      have h2 : ts.length ≠ 0 := fun e => h1 (List.eq_nil_of_length_eq_zero e)
      simp
      omega
     have B2 := Lib.hid (below_le B1.out hb)
     clear hb HJ
     go_wp2_with fail
     refine (CL.out _).mono ?_
     rintro e w' ⟨rfl, rfl⟩
     go_wp2_with fail
     refine (CW.out _).mono ?_
     rintro e w2 ⟨rfl, b2⟩
     have B3 := Lib.hid (below_le B2.out b2)
     clear b2
     go_wp2
     go_ret
     exact ⟨rfl, B3.out⟩

end Go.Proofs.YtjmplgbhjpldbaaGreatDoor
