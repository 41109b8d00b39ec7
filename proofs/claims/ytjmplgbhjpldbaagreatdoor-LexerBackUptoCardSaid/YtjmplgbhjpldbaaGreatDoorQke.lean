/-
  Merged texts (Pa, Nh, Pb, Qb).
-/
import Derived.Test.YtjmplgbhjpldbaaGreatDoorQkd
import Derived.Shelf.Strings.SlTrimAscii
import Derived.Shelf.Strings.Builder1
import Derived.Shelf.Strings.Builder2
import Derived.Shelf.Strings.OnBuilder
import Derived.Shelf.Strings.Trim
import Derived.Shelf.Small.Utf8
import Derived.Shelf.Small.Bits
import Derived.Shelf.Small.Strs
import Derived.Shelf.Small.Wraps
import Derived.Shelf.Strings.BuilderF
import Derived.Shelf.Strings.BuilderK
import Derived.Shelf.Strings.BuilderRune
import Derived.Shelf.Utf8.AppendRune
import Derived.Shelf.Strconv.Itoa0
import Derived.Shelf.Strings.Search1
import Derived.Shelf.Strings.Prefix
import Derived.Shelf.Unicode.Latin
import Derived.Shelf.Strings.Runes
import Derived.Shelf.Strings.AsciiSet
import Derived.Shelf.Unicode.DecodeSlow
import Derived.Shelf.Unicode.CaseLookup
import Derived.Shelf.Unicode.CaseConvert
import Derived.Shelf.Unicode.CaseTo
import Derived.Shelf.Unicode.CaseLaid
import Derived.Test.YtjmplgbhjpldbaaGreatDoorProg
import GoSem.Core.Utf8
import Derived.WalkKit
import Derived.WalkSpells
import Derived.WalkLawsBesides
import Derived.Deep.QuietTactic
import Derived.BigQuiet
import Derived.Lib.Hide
import Derived.Deep.OwnRows
import Derived.Laws.CopyOwn
import Derived.Deep.AppendLies
import Derived.Lib.BitFns
import Derived.Lib.Strings
import Derived.Laws.BitsAllLaws
import Derived.Lib.LaidTab
import Ieee.Arith
import GoSem.Core.Float
import Derived.Laws.BytesString
import Derived.Laws.Cells
import Derived.Deep.RegionHeld3
import Derived.Laws.Closers25b
import Derived.ProofKit
import Derived.OpenShut
import Derived.SizedLaws
import Derived.Deep.RegionWith
import Derived.BigRegion
import Derived.Laws.FloatArith
import Derived.Laws.Externs
import Derived.Lib.ItoaNum
import Derived.Deep.DeepCutAuto
import Derived.Deep.WholeRow
import Derived.Laws.Tables
import Derived.Laws.EntriesVeiled
import Derived.Lib.SlTrimSet
import Derived.Lib.Case
import Derived.Lib.AppendIntMem
import Derived.Test.YtjmplgbhjpldbaaGreatDoorRows
import Derived.OwnWalk
import Derived.Lib.RuneBytes
import Derived.StillTailTactics
namespace Go.Proofs.YtjmplgbhjpldbaaGreatDoor
open Go.RowKit
theorem alloc_cells (w : World) (cs : List Value) (t : TypeId) : ∀ j u, cs[j]? = some u → (w.alloc (.cells cs.toArray t)).cell? (Addr.add ⟨w.heap.size, 0, none⟩ j) = some u := by
 intro j u h
 have h2 := heap_alloc_last w (.cells cs.toArray t)
 have e : Addr.add ⟨w.heap.size, 0, none⟩ j = ⟨w.heap.size, j, none⟩ := by
  unfold Addr.add
  by_cases hj : j = 0 <;> simp [hj]
 rw [e]
 unfold World.cell?
 simp only []
 rw [h2]
 simpa using h
theorem digs_W : ∀ k : Fin 16, IntKind.u16.wrap ((digs[k.val]'k.isLt).toNat : Int) = ((hxU k.val : Nat) : Int) := by decide
theorem digs_V (x : Nat) (h : x % 16 < digs.size) : IntKind.u16.wrap ((digs[x % 16]'h).toNat : Int) = ((hxU (x % 16) : Nat) : Int) := digs_W ⟨x % 16, Nat.mod_lt _ (by omega)⟩
theorem hxU_lt {d : Nat} (h : d < 16) : hxU d < 128 := by unfold hxU; split <;> omega
def SpRel (B : Nat) (l : List Nat) (u : Nat) (w : World) (v iv : Value) (wr : World) : Prop :=
 ∃ i : Nat, i ≤ 4 ∧ iv = .int .i64 i ∧ Own16 B (l ++ (escU u).take (2 + i)) v wr ∧ Below B w wr
set_option maxRecDepth 100000 in
set_option maxHeartbeats 1000000 in
theorem xspelt_any (B : Nat) (l : List Nat) (v : Value) (u : Nat) (w : World) (H : Own16 B l v w) (hB : B ≤ w.heap.size) (hu : u < 65536) (hl : l.length ≤ 1099511627776) :
  Cp 36 #[v, .int .u16 u] w fun e w' => ∃ v', e = .returned v' ∧ Own16 B (l ++ escU u) v' w' ∧ Below B w w' := by
 obtain ⟨i0, hi, hz0, hz1, hz2⟩ := info_parts info_u16
 have a1 : bits BinOp.and IntKind.u16 ((u : Int) / 4096) 15 = ((u : Int) / 4096) % 16 := and_15 (u / 4096) (by omega)
 have a2 : bits BinOp.and IntKind.u16 ((u : Int) / 256) 15 = ((u : Int) / 256) % 16 := and_15 (u / 256) (by omega)
 have a3 : bits BinOp.and IntKind.u16 ((u : Int) / 16) 15 = ((u : Int) / 16) % 16 := and_15 (u / 16) (by omega)
 have a4 : bits BinOp.and IntKind.u16 (u : Int) 15 = (u : Int) % 16 := and_15 u hu
 have HU := Lib.hid hu
 clear hu
 go_enter Tryz.func36, Tryz.ntmps36
 go_wp2_with (at_builtin; refine wpList_append_own _ rfl _ _ 42 rfl (B) 47 i0 (.int .u16 0) 1 2 Tryz.underlying42 hi hz0 hz1 hz2 rfl (by decide) _ _ _ rfl (World.ownsRow.alloc (w := w) H _) ⟨(w).heap.size, 0, none⟩ 2 2 [.int .u16 92, .int .u16 117] rfl rfl (alloc_cells _ _ _) (by simp [Value.oneCell']) (by unfold maxLen; omega) (by omega) (by first | omega | (simp; omega)) ?_)
 intro v1 w1 hown hg _
 have hb1 : Below B w w1 := ((Below.refl B w).alloc hB _).grown hg (by simp; omega) (fun j hj => (World.ownsRow.lt H j hj).1)
 have o1 : Own16 B (l ++ [92, 117]) v1 w1 := by simpa [Own16] using hown
 clear hown hg H
 go_wp2
 go_loopw [0, 9] (fun lv iv wr => SpRel B l u w lv iv wr) (fun _ iv _ => 4 - (intOf iv).toNat)
 case atStart => exact ⟨0, by omega, by go_num, o1, hb1⟩
 case round =>
  obtain ⟨i, hi4, rfl, H, hb⟩ := hrel
  have hBw : B ≤ wr.heap.size := Nat.le_trans hB hb.size
  have hcase : i = 0 ∨ i = 1 ∨ i = 2 ∨ i = 3 ∨ i = 4 := by omega
  rcases hcase with rfl | rfl | rfl | rfl | rfl
  ·go_wp2_with (at_builtin; refine wpList_append_own _ rfl _ _ 42 rfl B 47 i0 (.int .u16 0) 1 2 Tryz.underlying42 hi hz0 hz1 hz2 rfl (by decide) _ _ _ rfl (World.ownsRow.alloc (w := wr) H _) ⟨wr.heap.size, 0, none⟩ 1 1 [_] rfl rfl (alloc_cells _ [_] _) (by simp [Value.oneCell']) (by simp [maxLen]; omega) (by simp; omega) (by simp; omega) ?_)
   intro v2 w2 hown hg _
   rw [digs_V] at hown
   have hb2 : Below B w w2 := ((hb.alloc hBw _)).grown hg (by simp; omega) (fun j hj => (World.ownsRow.lt H j hj).1)
   have hlen : (l ++ (escU u).take (2 + 0)) ++ [hxU ((u / 4096) % 16)] = l ++ (escU u).take (2 + (0 + 1)) := by simp [escU]
   have o2 : Own16 B (l ++ (escU u).take (2 + (0 + 1))) v2 w2 := by
    rw [← hlen]
    simpa [Own16, Nat.add_assoc] using hown
   clear hown hg H hb
   go_wp2
   go_roundw
   case rel => exact ⟨0 + 1, by omega, by go_num, o2, hb2⟩
   case measure => simp [intOf]
  ·go_wp2_with (at_builtin; refine wpList_append_own _ rfl _ _ 42 rfl B 47 i0 (.int .u16 0) 1 2 Tryz.underlying42 hi hz0 hz1 hz2 rfl (by decide) _ _ _ rfl (World.ownsRow.alloc (w := wr) H _) ⟨wr.heap.size, 0, none⟩ 1 1 [_] rfl rfl (alloc_cells _ [_] _) (by simp [Value.oneCell']) (by simp [maxLen]; omega) (by simp; omega) (by simp; omega) ?_)
   intro v2 w2 hown hg _
   rw [digs_V] at hown
   have hb2 : Below B w w2 := ((hb.alloc hBw _)).grown hg (by simp; omega) (fun j hj => (World.ownsRow.lt H j hj).1)
   have hlen : (l ++ (escU u).take (2 + 1)) ++ [hxU ((u / 256) % 16)] = l ++ (escU u).take (2 + (1 + 1)) := by simp [escU]
   have o2 : Own16 B (l ++ (escU u).take (2 + (1 + 1))) v2 w2 := by
    rw [← hlen]
    simpa [Own16, Nat.add_assoc] using hown
   clear hown hg H hb
   go_wp2
   go_roundw
   case rel => exact ⟨1 + 1, by omega, by go_num, o2, hb2⟩
   case measure => simp [intOf]
  ·go_wp2_with (at_builtin; refine wpList_append_own _ rfl _ _ 42 rfl B 47 i0 (.int .u16 0) 1 2 Tryz.underlying42 hi hz0 hz1 hz2 rfl (by decide) _ _ _ rfl (World.ownsRow.alloc (w := wr) H _) ⟨wr.heap.size, 0, none⟩ 1 1 [_] rfl rfl (alloc_cells _ [_] _) (by simp [Value.oneCell']) (by simp [maxLen]; omega) (by simp; omega) (by simp; omega) ?_)
   intro v2 w2 hown hg _
   rw [digs_V] at hown
   have hb2 : Below B w w2 := ((hb.alloc hBw _)).grown hg (by simp; omega) (fun j hj => (World.ownsRow.lt H j hj).1)
   have hlen : (l ++ (escU u).take (2 + 2)) ++ [hxU ((u / 16) % 16)] = l ++ (escU u).take (2 + (2 + 1)) := by simp [escU]
   have o2 : Own16 B (l ++ (escU u).take (2 + (2 + 1))) v2 w2 := by
    rw [← hlen]
    simpa [Own16, Nat.add_assoc] using hown
   clear hown hg H hb
   go_wp2
   go_roundw
   case rel => exact ⟨2 + 1, by omega, by go_num, o2, hb2⟩
   case measure => simp [intOf]
  ·go_wp2_with (at_builtin; refine wpList_append_own _ rfl _ _ 42 rfl B 47 i0 (.int .u16 0) 1 2 Tryz.underlying42 hi hz0 hz1 hz2 rfl (by decide) _ _ _ rfl (World.ownsRow.alloc (w := wr) H _) ⟨wr.heap.size, 0, none⟩ 1 1 [_] rfl rfl (alloc_cells _ [_] _) (by simp [Value.oneCell']) (by simp [maxLen]; omega) (by simp; omega) (by simp; omega) ?_)
   intro v2 w2 hown hg _
   rw [digs_V] at hown
   have hb2 : Below B w w2 := ((hb.alloc hBw _)).grown hg (by simp; omega) (fun j hj => (World.ownsRow.lt H j hj).1)
   have hlen : (l ++ (escU u).take (2 + 3)) ++ [hxU ((u) % 16)] = l ++ (escU u).take (2 + (3 + 1)) := by simp [escU]
   have o2 : Own16 B (l ++ (escU u).take (2 + (3 + 1))) v2 w2 := by
    rw [← hlen]
    simpa [Own16, Nat.add_assoc] using hown
   clear hown hg H hb
   go_wp2
   go_roundw
   case rel => exact ⟨3 + 1, by omega, by go_num, o2, hb2⟩
   case measure => simp [intOf]
  ·have e : l ++ (escU u).take (2 + 4) = l ++ escU u := by simp [escU]
   rw [e] at H
   go_wp2
   go_ret
   exact ⟨_, rfl, H, hb⟩

end Go.Proofs.YtjmplgbhjpldbaaGreatDoor
namespace Go.Proofs.YtjmplgbhjpldbaaGreatDoor
open Go.RowKit
def nmB : Bool → List Nat → Bool
 | _, [] => true
 | b, c :: r => fitN b c && nmB false r
def nmdL (l : List Nat) : Bool := nmB true l && !l.isEmpty
theorem gt_len (s : ByteArray) : (!(us s).isEmpty) = decide (0 < ln s) := by
 rw [← us_length]
 cases us s <;> simp
set_option maxRecDepth 100000 in
set_option maxHeartbeats 1000000 in
theorem xNamed_any (s : ByteArray) (w : World) (hs : s.size ≤ 140737488355328) :
  Cp 20 #[.string s] w fun e w' => e = .returned (.bool (nmdL (us s))) ∧ ∃ n, w' = w.drewN n := by
 have hs63 : s.size ≤ maxLen := by unfold maxLen; omega
 have C1 := Lib.hid (fun W => len_any s W hs63)
 have C2 := Lib.hid (fun (j : Nat) W => xunit_any s j W hs63)
 have hln := ln_le s
 have hl : ((ln s : Nat) : Int) ≤ 140737488355328 := by omega
 obtain ⟨R, hR⟩ : ∃ R, nmdL (us s) = R := ⟨_, rfl⟩
 rw [hR]
 have HR := Lib.hid hR
 clear hs hs63 hln hR
 go_enter Tryz.func20, Tryz.ntmps20
 go_wp2_with fail
 refine (C1.out _).mono ?_
 rintro e w' ⟨rfl, rfl⟩
 go_wp2
 go_loopw [6] (fun iv wr => ∃ (i : Nat), iv = .int .i64 i ∧ i ≤ ln s ∧ Hid (R = (nmB (i == 0) ((us s).drop i) && !(us s).isEmpty)) ∧ ∃ m, wr = w.drewN m) (fun iv _ => ln s - (intOf iv).toNat)
 case atStart => exact ⟨0, rfl, Nat.zero_le _, Lib.hid HR.out.symm, 0, rfl⟩
 case round =>
  obtain ⟨i, rfl, hi, HJ, n0, rfl⟩ := hrel
  by_cases hlt : i < ln s
  ·obtain ⟨c, hc1, hc2⟩ := drop_step (L := us s) (k := i) (by rw [us_length]; exact hlt)
   have C2' := Lib.hid (fun W => C2.out i W)
   rw [hc2] at C2'
   have C3 := Lib.hid (fun W => xfits_any c i W)
   have t1 : (i : Int) < (ln s : Int) := by omega
   have hs1 : R = ((fitN (i == 0) c && nmB false ((us s).drop (i + 1))) && !(us s).isEmpty) := by rw [HJ.out, hc1]; rfl
   cases hf : fitN (i == 0) c
   ·rw [hf] at C3 hs1
    have HJ2 : Hid (R = false) := Lib.hid (by rw [hs1]; rfl)
    clear hc1 hc2 hs1 hf
    go_wp2_with fail
    refine (C2'.out _).mono ?_
    rintro e w' ⟨rfl, n1, rfl⟩
    go_wp2_with fail
    refine (C3.out _).mono ?_
    rintro e w' ⟨rfl, rfl⟩
    go_wp2
    go_ret
    exact ⟨by rw [HJ2.out]; rfl, n0 + n1, by first | rfl | simp⟩
   ·rw [hf] at C3 hs1
    have HJ2 : Hid (R = (nmB (i + 1 == 0) ((us s).drop (i + 1)) && !(us s).isEmpty)) := Lib.hid (by rw [hs1, Bool.true_and]; rfl)
    clear hc1 hc2 hs1 hf
    go_wp2_with fail
    refine (C2'.out _).mono ?_
    rintro e w' ⟨rfl, n1, rfl⟩
    go_wp2_with fail
    refine (C3.out _).mono ?_
    rintro e w' ⟨rfl, rfl⟩
    go_wp2
    go_roundw
    case rel => exact ⟨i + 1, by go_num, by omega, HJ2, n0 + n1, by first | rfl | simp⟩
    case measure => simp [intOf]; omega
  ·have hj2 : i = ln s := by omega
   have HJ2 : Hid (R = decide (0 < ln s)) := Lib.hid (by
    rw [HJ.out, List.drop_eq_nil_iff.2 (by rw [us_length]; omega), gt_len]
    exact Bool.true_and _)
   have t1 : ¬ (i : Int) < (ln s : Int) := by omega
   go_wp2_with fail
   refine (C1.out _).mono ?_
   rintro e w' ⟨rfl, rfl⟩
   go_wp2
   go_ret
   exact ⟨by rw [HJ2.out]; simp, n0, rfl⟩


end Go.Proofs.YtjmplgbhjpldbaaGreatDoor
namespace Go.Proofs.YtjmplgbhjpldbaaGreatDoor
open Go.RowKit
theorem take_snocL {L : List Nat} {i c : Nat} {r : List Nat} (h : L.drop i = c :: r) : L.take (i + 1) = L.take i ++ [c] := by
 have h1 : L[i]? = some c := by
  have := List.getElem?_drop (xs := L) (i := i) (j := 0)
  rw [h] at this
  simpa using this.symm
 rw [List.take_add_one, h1]
 rfl
theorem quoU_len (c : Nat) : (quoU c).length ≤ 6 := by unfold quoU escU; split; simp; split <;> simp
theorem speU_len (c : Nat) : (speU c).length ≤ 6 := by unfold speU escU; split <;> simp
theorem flat_len {f : Nat → List Nat} (hf : ∀ c, (f c).length ≤ 6) : ∀ l : List Nat, (l.flatMap f).length ≤ 6 * l.length
 | [] => by simp
 | c :: l => by
  rw [List.flatMap_cons, List.length_append, List.length_cons]
  have := hf c
  have := flat_len hf l
  omega
theorem own_one (w : World) (c : Nat) : Own16 w.heap.size [c] (.slice (some ⟨w.heap.size, 0, none⟩) 1 1) (w.alloc (.cells #[.int .u16 (c : Nat)] 47)) :=
 ⟨rfl, .inr ⟨w.heap.size, 1, #[.int .u16 (c : Nat)], rfl, Nat.le_refl _, heap_alloc_last w _, Nat.le_refl _, by unfold maxLen; omega, rfl, rfl⟩⟩
theorem hxU_w {d : Nat} (h : d < 16) : hxU d < 65536 := by have := hxU_lt h; omega
theorem escU_lt (c : Nat) : ∀ u ∈ escU c, u < 65536 := by
 intro u hu
 unfold escU at hu
 simp at hu
 have h1 := hxU_w (d := c / 4096 % 16) (by omega)
 have h2 := hxU_w (d := c / 256 % 16) (by omega)
 have h3 := hxU_w (d := c / 16 % 16) (by omega)
 have h4 := hxU_w (d := c % 16) (by omega)
 rcases hu with rfl | rfl | rfl | rfl | rfl | rfl <;> omega
theorem quoU_lt {c : Nat} (hc : c < 65536) : ∀ u ∈ quoU c, u < 65536 := by
 intro u hu
 unfold quoU at hu
 split at hu
 ·simp at hu; omega
 ·split at hu
  ·simp at hu; omega
  ·exact escU_lt c u hu
theorem speU_lt {c : Nat} (hc : c < 65536) : ∀ u ∈ speU c, u < 65536 := by
 intro u hu
 unfold speU at hu
 split at hu
 ·simp at hu; omega
 ·exact escU_lt c u hu
theorem quoL_lt {l : List Nat} (h : ∀ c ∈ l, c < 65536) : ∀ u ∈ quoL l, u < 65536 := by
 intro u hu
 unfold quoL at hu
 simp at hu
 rcases hu with rfl | ⟨c, hc, hu⟩ | rfl
 ·omega
 ·exact quoU_lt (h c hc) u hu
 ·omega
theorem speL_lt {l : List Nat} (h : ∀ c ∈ l, c < 65536) : ∀ u ∈ speL l, u < 65536 := by
 intro u hu
 unfold speL at hu
 simp at hu
 obtain ⟨c, hc, hu⟩ := hu
 exact speU_lt (h c hc) u hu
set_option maxRecDepth 100000 in
set_option maxHeartbeats 4000000 in
theorem xQuote_any (s : ByteArray) (w : World) (hs : s.size ≤ 274877906944) :
  Ct 22 #[.string s] (.string ⟨(bL (quoL (us s))).toArray⟩) w := by
 have hs63 : s.size ≤ maxLen := by unfold maxLen; omega
 obtain ⟨i0, hi, hz0, hz1, hz2⟩ := info_parts info_u16
 have hln := ln_le s
 have CL := Lib.hid (fun W => len_any s W hs63)
 have CU := Lib.hid (fun (j : Nat) W => xunit_any s j W hs63)
 have CP := Lib.hid (fun (l : List Nat) (v : Value) (u : Nat) W (H : Own16 w.heap.size l v W) hB hu hl => xspelt_any w.heap.size l v u W H hB hu hl)
 have CM := Lib.hid (fun (l : List Nat) (v : Value) W (H : Own16 w.heap.size l v W) hu hl => make_own H hu hl)
 obtain ⟨R, hR⟩ : ∃ R, quoL (us s) = R := ⟨_, rfl⟩
 rw [hR]
 have HR := Lib.hid hR
 have HL := Lib.hid (show ln s ≤ 137438953472 by omega)
 obtain ⟨n, hn⟩ : ∃ n, ln s = n := ⟨_, rfl⟩
 have HN := Lib.hid hn
 rw [hn] at CL
 have CL := Lib.hid CL.out
 clear hs hs63 hln hn hR
 go_enter Tryz.func22, Tryz.ntmps22
 go_wp2_with fail
 refine (CL.out _).mono ?_
 rintro e w' ⟨rfl, rfl⟩
 go_wp2
 go_loopw [3, 9] (fun lv iv wr => ∃ (i : Nat) (v : Value), lv = v ∧ iv = .int .i64 i ∧ i ≤ n ∧ Own16 w.heap.size (34 :: ((us s).take i).flatMap quoU) v wr ∧ Below w.heap.size w wr) (fun _ iv _ => n - (intOf iv).toNat)
 case atStart => exact ⟨0, _, rfl, by go_num, Nat.zero_le _, own_one w 34, (Below.refl _ _).alloc (Nat.le_refl _) _⟩
 case round =>
  obtain ⟨i, v, hv, rfl, hin, H, hb⟩ := hrel
  obtain rfl := hv.symm
  have hsz := hb.size
  have hil : (i : Int) ≤ 137438953472 := by have := HL.out; have := HN.out; omega
  obtain ⟨A, hA⟩ : ∃ A, 34 :: ((us s).take i).flatMap quoU = A := ⟨_, rfl⟩
  have hAl : A.length ≤ 824633720833 := by
   rw [← hA, List.length_cons]
   have h1 := flat_len quoU_len ((us s).take i)
   have h2 := List.length_take_le i (us s)
   have := HL.out; have := HN.out
   omega
  have hAu : ∀ u ∈ A, u < 65536 := by
   intro u hu
   rw [← hA] at hu
   simp at hu
   rcases hu with rfl | ⟨c, hc, hu⟩
   ·omega
   ·exact quoU_lt (us_lt s c (List.mem_of_mem_take hc)) u hu
  rw [hA] at H
  have HA := Lib.hid hA
  have HAu := Lib.hid hAu
  clear hA hAu hv
  rcases Nat.lt_or_ge i n with hlt | hge
  ·obtain ⟨c, hd1, hd2⟩ := drop_step (L := us s) (k := i) (by rw [us_length, HN.out]; exact hlt)
   have HC : Hid (c < 65536) := Lib.hid (us_lt s c (List.mem_of_mem_drop (by rw [hd1]; simp)))
   have HS : Hid (34 :: ((us s).take (i + 1)).flatMap quoU = A ++ quoU c) := Lib.hid (by
    rw [take_snocL hd1, List.flatMap_append, ← HA.out]
    simp)
   have C1 := CU.out i
   rw [hd2] at C1
   have C1 := Lib.hid C1
   clear hd1 hd2
   by_cases e1 : c = 34 ∨ c = 92
   ·have HQ : Hid (quoU c = [92, c]) := Lib.hid (by unfold quoU; rw [if_pos e1])
    rcases e1 with rfl | rfl
    all_goals
     go_wp2_with fail
     refine (C1.out _).mono ?_
     rintro e w' ⟨rfl, n1, rfl⟩
     go_wp2_with (at_builtin; refine wpList_append_own _ rfl _ _ 42 rfl (w.heap.size) 47 i0 (.int .u16 0) 1 2 Tryz.underlying42 hi hz0 hz1 hz2 rfl (by decide) _ _ _ rfl (World.ownsRow.alloc (w := wr.drewN n1) H _) ⟨(wr.drewN n1).heap.size, 0, none⟩ 2 2 [_, _] rfl rfl (alloc_cells _ _ _) (by simp [Value.oneCell']) (by unfold maxLen; omega) (by omega) (by first | omega | (simp; omega)) ?_)
     intro v2 w2 hown hg _
     have hb2 : Below w.heap.size w w2 := ((below_drewN' hb n1).alloc (by simpa using hsz) _).grown hg (by simp; omega) (fun j hj => (World.ownsRow.lt H j hj).1)
     have o2 := Lib.hid (show Own16 w.heap.size (A ++ quoU _) v2 w2 from by rw [HQ.out]; simpa [Own16] using hown)
     clear hown hg H hb
     go_wp2
     go_roundw
     case rel => exact ⟨i + 1, v2, rfl, by go_num, hlt, by rw [HS.out]; exact o2.out, hb2⟩
     case measure => simp [intOf]; omega
   ·have g1 : ((c : Int) == 34) = false := by rw [beq_eq_false_iff_ne]; omega
    have g2 : ((c : Int) == 92) = false := by rw [beq_eq_false_iff_ne]; omega
    by_cases e2 : 32 ≤ c ∧ c ≤ 126
    ·have HQ : Hid (quoU c = [c]) := Lib.hid (by unfold quoU; rw [if_neg e1, if_pos e2])
     have g3 : (32 : Int) ≤ (c : Int) := by omega
     have g4 : (c : Int) ≤ 126 := by omega
     clear e1 e2
     go_wp2_with fail
     refine (C1.out _).mono ?_
     rintro e w' ⟨rfl, n1, rfl⟩
     go_wp2_with (at_builtin; refine wpList_append_own _ rfl _ _ 42 rfl (w.heap.size) 47 i0 (.int .u16 0) 1 2 Tryz.underlying42 hi hz0 hz1 hz2 rfl (by decide) _ _ _ rfl (World.ownsRow.alloc (w := wr.drewN n1) H _) ⟨(wr.drewN n1).heap.size, 0, none⟩ 1 1 [_] rfl rfl (alloc_cells _ _ _) (by simp [Value.oneCell']) (by unfold maxLen; omega) (by omega) (by first | omega | (simp; omega)) ?_)
     intro v2 w2 hown hg _
     have hb2 : Below w.heap.size w w2 := ((below_drewN' hb n1).alloc (by simpa using hsz) _).grown hg (by simp; omega) (fun j hj => (World.ownsRow.lt H j hj).1)
     have o2 := Lib.hid (show Own16 w.heap.size (A ++ quoU c) v2 w2 from by rw [HQ.out]; simpa [Own16] using hown)
     clear hown hg H hb
     go_wp2
     go_roundw
     case rel => exact ⟨i + 1, v2, rfl, by go_num, hlt, by rw [HS.out]; exact o2.out, hb2⟩
     case measure => simp [intOf]; omega
    ·have HQ : Hid (quoU c = escU c) := Lib.hid (by unfold quoU; rw [if_neg e1, if_neg e2])
     have hw : ¬ ((32 : Int) ≤ (c : Int)) ∨ ((32 : Int) ≤ (c : Int) ∧ ¬ ((c : Int) ≤ 126)) := by omega
     clear e1 e2
     rcases hw with g3 | ⟨g3, g4⟩
     all_goals
      go_wp2_with fail
      refine (C1.out _).mono ?_
      rintro e w' ⟨rfl, n1, rfl⟩
      go_wp2_with fail
      refine (CP.out A v c (wr.drewN n1) H (by simpa using hsz) HC.out (by omega)).mono ?_
      rintro e w2 ⟨v2, rfl, o2, b2⟩
      have hb2 : Below w.heap.size w w2 := (below_drewN' hb n1).trans b2
      have o3 := Lib.hid (show Own16 w.heap.size (A ++ quoU c) v2 w2 from by rw [HQ.out]; exact o2)
      clear o2 b2 H hb
      go_wp2
      go_roundw
      case rel => exact ⟨i + 1, v2, rfl, by go_num, hlt, by rw [HS.out]; exact o3.out, hb2⟩
      case measure => simp [intOf]; omega
  ·obtain rfl : i = n := by omega
   obtain rfl : R = A ++ [34] := by
    rw [← HR.out, ← HA.out, ← HN.out, us_take_all]
    rfl
   go_wp2_with (at_builtin; refine wpList_append_own _ rfl _ _ 42 rfl (w.heap.size) 47 i0 (.int .u16 0) 1 2 Tryz.underlying42 hi hz0 hz1 hz2 rfl (by decide) _ _ _ rfl (World.ownsRow.alloc (w := wr) H _) ⟨(wr).heap.size, 0, none⟩ 1 1 [_] rfl rfl (alloc_cells _ _ _) (by simp [Value.oneCell']) (by unfold maxLen; omega) (by omega) (by first | omega | (simp; omega)) ?_)
   intro v2 w2 hown hg _
   have hb2 : Below w.heap.size w w2 := (hb.alloc hsz _).grown hg (by simp; omega) (fun j hj => (World.ownsRow.lt H j hj).1)
   have o2 : Own16 w.heap.size (A ++ [34]) v2 w2 := by simpa [Own16] using hown
   have HB2 := Lib.hid hb2
   clear hown hg H hb hb2
   go_wp2_with fail
   refine (CM.out (A ++ [34]) v2 w2 o2 (fun u hu => by
    rcases List.mem_append.1 hu with h | h
    ·exact HAu.out u h
    ·simp at h; omega) (by rw [List.length_append, List.length_singleton]; omega)).mono ?_
   rintro e w3 ⟨rfl, b3⟩
   have HB3 := Lib.hid (below_le HB2.out b3)
   clear b3
   go_wp2
   go_ret
   exact ⟨rfl, HB3.out⟩
set_option maxRecDepth 100000 in
set_option maxHeartbeats 4000000 in
theorem xSpell_any (s : ByteArray) (w : World) (hs : s.size ≤ 274877906944) :
  Cp 16 #[.string s] w fun e w' => e = (if nmdL (us s) = true then .returned (.tuple #[.string ⟨(bL (speL (us s))).toArray⟩, .int .i64 0]) else .returned (.tuple #[.string ⟨#[]⟩, .int .i64 1])) ∧ Below w.heap.size w w' := by
 have hs63 : s.size ≤ maxLen := by unfold maxLen; omega
 obtain ⟨i0, hi, hz0, hz1, hz2⟩ := info_parts info_u16
 have hln := ln_le s
 have CL := Lib.hid (fun W => len_any s W hs63)
 have CU := Lib.hid (fun (j : Nat) W => xunit_any s j W hs63)
 have CP := Lib.hid (fun (l : List Nat) (v : Value) (u : Nat) W (H : Own16 w.heap.size l v W) hB hu hl => xspelt_any w.heap.size l v u W H hB hu hl)
 have CM := Lib.hid (fun (l : List Nat) (v : Value) W (H : Own16 w.heap.size l v W) hu hl => make_own H hu hl)
 have CD := fun W => xNamed_any s W (by omega)
 obtain ⟨b, hb⟩ : ∃ b, nmdL (us s) = b := ⟨_, rfl⟩
 rw [hb] at CD ⊢
 have CD := Lib.hid CD
 obtain ⟨R, hR⟩ : ∃ R, speL (us s) = R := ⟨_, rfl⟩
 rw [hR]
 have HR := Lib.hid hR
 have HL := Lib.hid (show ln s ≤ 137438953472 by omega)
 obtain ⟨n, hn⟩ : ∃ n, ln s = n := ⟨_, rfl⟩
 have HN := Lib.hid hn
 rw [hn] at CL
 have CL := Lib.hid CL.out
 clear hs hs63 hln hn hR hb
 cases b
 ·rw [if_neg (by simp)]
  go_enter Tryz.func16, Tryz.ntmps16
  go_wp2_with fail
  refine (CD.out _).mono ?_
  rintro e w' ⟨rfl, n0, rfl⟩
  go_wp2
  go_ret2
  exact ⟨rfl, below_drewN' (Below.refl _ _) n0⟩
 rw [if_pos rfl]
 go_enter Tryz.func16, Tryz.ntmps16
 go_wp2_with fail
 refine (CD.out _).mono ?_
 rintro e w' ⟨rfl, n0, rfl⟩
 go_wp2_with fail
 refine (CL.out _).mono ?_
 rintro e w' ⟨rfl, rfl⟩
 go_wp2
 go_loopw [4, 12] (fun lv iv wr => ∃ (i : Nat) (v : Value), lv = v ∧ iv = .int .i64 i ∧ i ≤ n ∧ Own16 w.heap.size (((us s).take i).flatMap speU) v wr ∧ Below w.heap.size w wr) (fun _ iv _ => n - (intOf iv).toNat)
 case atStart => exact ⟨0, _, rfl, by go_num, Nat.zero_le _, Own16.nil _ _, below_drewN' (Below.refl _ _) n0⟩
 case round =>
  obtain ⟨i, v, hv, rfl, hin, H, hb⟩ := hrel
  obtain rfl := hv.symm
  have hsz := hb.size
  have hil : (i : Int) ≤ 137438953472 := by have := HL.out; have := HN.out; omega
  obtain ⟨A, hA⟩ : ∃ A, ((us s).take i).flatMap speU = A := ⟨_, rfl⟩
  have hAl : A.length ≤ 824633720833 := by
   rw [← hA]
   have h1 := flat_len speU_len ((us s).take i)
   have h2 := List.length_take_le i (us s)
   have := HL.out; have := HN.out
   omega
  have hAu : ∀ u ∈ A, u < 65536 := by
   intro u hu
   rw [← hA] at hu
   simp at hu
   obtain ⟨c, hc, hu⟩ := hu
   exact speU_lt (us_lt s c (List.mem_of_mem_take hc)) u hu
  rw [hA] at H
  have HA := Lib.hid hA
  have HAu := Lib.hid hAu
  clear hA hAu hv
  rcases Nat.lt_or_ge i n with hlt | hge
  ·obtain ⟨c, hd1, hd2⟩ := drop_step (L := us s) (k := i) (by rw [us_length, HN.out]; exact hlt)
   have HC : Hid (c < 65536) := Lib.hid (us_lt s c (List.mem_of_mem_drop (by rw [hd1]; simp)))
   have HS : Hid (((us s).take (i + 1)).flatMap speU = A ++ speU c) := Lib.hid (by
    rw [take_snocL hd1, List.flatMap_append, ← HA.out]
    simp)
   have C1 := CU.out i
   rw [hd2] at C1
   have C1 := Lib.hid C1
   clear hd1 hd2
   by_cases e1 : c < 128
   ·have HQ : Hid (speU c = [c]) := Lib.hid (by unfold speU; rw [if_pos e1])
    have g3 : (c : Int) < 128 := by omega
    clear e1
    go_wp2_with fail
    refine (C1.out _).mono ?_
    rintro e w' ⟨rfl, n1, rfl⟩
    go_wp2_with (at_builtin; refine wpList_append_own _ rfl _ _ 42 rfl (w.heap.size) 47 i0 (.int .u16 0) 1 2 Tryz.underlying42 hi hz0 hz1 hz2 rfl (by decide) _ _ _ rfl (World.ownsRow.alloc (w := wr.drewN n1) H _) ⟨(wr.drewN n1).heap.size, 0, none⟩ 1 1 [_] rfl rfl (alloc_cells _ _ _) (by simp [Value.oneCell']) (by unfold maxLen; omega) (by omega) (by first | omega | (simp; omega)) ?_)
    intro v2 w2 hown hg _
    have hb2 : Below w.heap.size w w2 := ((below_drewN' hb n1).alloc (by simpa using hsz) _).grown hg (by simp; omega) (fun j hj => (World.ownsRow.lt H j hj).1)
    have o2 := Lib.hid (show Own16 w.heap.size (A ++ speU c) v2 w2 from by rw [HQ.out]; simpa [Own16] using hown)
    clear hown hg H hb
    go_wp2
    go_roundw
    case rel => exact ⟨i + 1, v2, rfl, by go_num, hlt, by rw [HS.out]; exact o2.out, hb2⟩
    case measure => simp [intOf]; omega
   ·have HQ : Hid (speU c = escU c) := Lib.hid (by unfold speU; rw [if_neg e1])
    have g3 : ¬ ((c : Int) < 128) := by omega
    clear e1
    go_wp2_with fail
    refine (C1.out _).mono ?_
    rintro e w' ⟨rfl, n1, rfl⟩
    go_wp2_with fail
    refine (CP.out A v c (wr.drewN n1) H (by simpa using hsz) HC.out (by omega)).mono ?_
    rintro e w2 ⟨v2, rfl, o2, b2⟩
    have hb2 : Below w.heap.size w w2 := (below_drewN' hb n1).trans b2
    have o3 := Lib.hid (show Own16 w.heap.size (A ++ speU c) v2 w2 from by rw [HQ.out]; exact o2)
    clear o2 b2 H hb
    go_wp2
    go_roundw
    case rel => exact ⟨i + 1, v2, rfl, by go_num, hlt, by rw [HS.out]; exact o3.out, hb2⟩
    case measure => simp [intOf]; omega
  ·obtain rfl : i = n := by omega
   obtain rfl : R = A := by
    rw [← HR.out, ← HA.out, ← HN.out, us_take_all]
    rfl
   have HB2 := Lib.hid hb
   clear hb
   go_wp2_with fail
   refine (CM.out R v wr H HAu.out (by omega)).mono ?_
   rintro e w3 ⟨rfl, b3⟩
   have HB3 := Lib.hid (below_le HB2.out b3)
   clear b3
   go_wp2
   go_ret2
   exact ⟨rfl, HB3.out⟩

end Go.Proofs.YtjmplgbhjpldbaaGreatDoor
namespace Go.Proofs.YtjmplgbhjpldbaaGreatDoor
open Go.RowKit
theorem quiet_eqQ {P : Program} {f : FuncId} {args : Array Value} {w : World} {n : Nat} {v : Value}
  (h : Calls P f args (w.drewN n) fun e w' => e = .returned v ∧ w.drewN n = w') : Calls P f args (w.drewN n) fun e w'' => e = .returned v ∧ ∃ m, w'' = w.drewN m :=
 h.mono fun _ _ ⟨he, hm⟩ => ⟨he, n, hm.symm⟩
theorem nmB_false : ∀ l : List Nat, nmB false l = l.all ptN
 | [] => rfl
 | c :: r => by
  rw [nmB, nmB_false r, List.all_cons]
  rfl
theorem nmd_B (l : List Nat) : nmdL l = namB l := by
 cases l with
 | nil => rfl
 | cons c r =>
  unfold nmdL namB
  rw [nmB, nmB_false]
  simp [fitN]
theorem st_low1 : ∀ c : Fin 128, stN c.val = true → enN c.val = false ∧ spN c.val = false ∧ c.val ≠ 47 := by decide +kernel
theorem skip_spe {s : List Nat} (hn : namB s = true) : skipL (speL s) = (0, false, true) := by
 cases s with
 | nil => cases hn
 | cons c r =>
  unfold namB at hn
  rw [Bool.and_eq_true] at hn
  unfold speL
  rw [List.flatMap_cons]
  unfold speU
  split
  ·rename_i h
   obtain ⟨h1, h2, h3⟩ := st_low1 ⟨c, h⟩ hn.1
   exact skip_none h1 h2 h3
  ·exact skip_none (c := 92) (by decide) (by decide) (by decide)
theorem next_quo {u : List Nat} (hu : ∀ c ∈ u, c < 65536) : nxtO true 0 (quoL u) = (0, some ⟨6, u, 0, false, false, 0, (quoL u).length⟩) := by
 have h1 : skipL (quoL u) = (0, false, true) := skip_none (c := 34) (by decide) (by decide) (by decide)
 unfold nxtO
 rw [h1]
 simp only [List.drop_zero, Nat.zero_add, Nat.add_zero]
 rw [if_neg, quo_read hu]
 rintro (h | ⟨_, h⟩)
 ·cases h
 ·unfold quoL at h
  cases h
theorem next_spe {u : List Nat} (hu : ∀ c ∈ u, c < 65536) (hn : namB u = true) : ∃ e, nxtO false 0 (speL u) = (0, some ⟨if resB u = true then 3 else 2, u, 0, e, false, 0, (speL u).length⟩) := by
 obtain ⟨e, he⟩ := spe_read hu hn
 refine ⟨e, ?_⟩
 unfold nxtO
 rw [skip_spe hn]
 simp only [List.drop_zero, Nat.zero_add, Nat.add_zero]
 rw [if_neg, he]
 rintro (h | ⟨h, _⟩)
 ·cases h
 ·cases h
theorem tok_block (w : World) (kd po fi : Int) (tx : ByteArray) (xx : Nat) (es nl : Bool) : ∃ W, w.alloc (.cells #[.int .i64 kd, .string tx, .float .f64 xx, .bool es, .bool nl, .int .i64 po, .int .i64 fi] 24) = W ∧
  W.cell? ⟨w.heap.size, 0, none⟩ = some (.int .i64 kd) ∧ W.cell? ⟨w.heap.size, 1, none⟩ = some (.string tx) ∧ W.cell? ⟨w.heap.size, 6, none⟩ = some (.int .i64 fi) ∧ W.heap.size = w.heap.size + 1 ∧ Below w.heap.size w W := by
 have h := heap_alloc_last w (.cells #[.int .i64 kd, .string tx, .float .f64 xx, .bool es, .bool nl, .int .i64 po, .int .i64 fi] 24)
 refine ⟨_, rfl, ?_, ?_, ?_, by simp, (Below.refl _ _).alloc (Nat.le_refl _) _⟩
 all_goals
  unfold World.cell?
  simp only []
  rw [h]
  rfl
set_option maxRecDepth 100000 in
set_option maxHeartbeats 4000000 in
theorem back_any (s : ByteArray) (w : World) (hs : s.size ≤ 1048576) :
  Ct 7 #[.string s] (.bool true) w := by
 have hln := ln_le s
 have hu := us_lt s
 have CUn := Lib.hid (fun W => runits_any s W (by omega))
 have CMk := Lib.hid (fun (v : Value) B W (H : Own16 B (us s) v W) => rmake_own H hu (by rw [us_length]; omega))
 have CW := Lib.hid (fun W => awake_any W)
 obtain ⟨S, hS⟩ : ∃ S : ByteArray, (⟨(bL (us s)).toArray⟩ : ByteArray) = S := ⟨_, rfl⟩
 have hSu : us S = us s := by rw [← hS]; exact us_bL hu
 have hSs : S.size ≤ 1048576 := by
  rw [← hS]
  show (bL _).toArray.size ≤ _
  rw [List.size_toArray, bL_length, us_length]
  omega
 rw [hS] at CMk
 obtain ⟨Q, hQ⟩ : ∃ Q : ByteArray, (⟨(bL (quoL (us s))).toArray⟩ : ByteArray) = Q := ⟨_, rfl⟩
 have hQu : us Q = quoL (us s) := by rw [← hQ]; exact us_bL (quoL_lt hu)
 have hql : (quoL (us s)).length ≤ 3145730 := by
  unfold quoL
  rw [List.length_cons, List.length_append, List.length_singleton]
  have := flat_len quoU_len (us s)
  rw [us_length] at this
  omega
 have hQs : Q.size ≤ 6291460 := by
  rw [← hQ]
  show (bL _).toArray.size ≤ _
  rw [List.size_toArray, bL_length]
  omega
 have hQl : ln Q = (quoL (us s)).length := by rw [← us_length, hQu]
 have CQ := fun W => xQuote_any S W (by omega)
 rw [hSu, hQ] at CQ
 have CN1 := fun W => xNext_any Q 0 true W (by omega) (Nat.zero_le _)
 rw [List.drop_zero, hQu, next_quo hu] at CN1
 have CL1 := fun W => rlen_any Q W (by unfold maxLen; omega)
 rw [hQl] at CL1
 obtain ⟨m, hm⟩ : ∃ m, (quoL (us s)).length = m := ⟨_, rfl⟩
 rw [hm] at CN1 CL1
 have CQ := Lib.hid CQ
 have CL1 := Lib.hid CL1
 have CN1 := Lib.hid (show ∀ W, Cp 9 #[.string Q, .int .i64 0, .bool true] W fun e w' => e = .returned (.tuple #[.agg #[.int .i64 6, .string S, .float .f64 0, .bool false, .bool false, .int .i64 0, .int .i64 (m : Int)], .int .i64 0, .int .i64 0]) ∧ Below W.heap.size W w' from fun W => by rw [← hS]; exact CN1 W)
 have CS := fun W => xSpell_any S W (by omega)
 rw [hSu, nmd_B] at CS
 cases hn : namB (us s)
 ·rw [hn, if_neg (by simp)] at CS
  have CS := Lib.hid CS
  clear hln hu hS hSu hSs hQ hQu hql hQs hQl hn hs hm
  go_enter Tryz.func7, Tryz.ntmps7
  go_wp2_with fail
  refine (CUn.out _).mono ?_
  rintro e w1 ⟨v, rfl, o1, b1⟩
  have B1 := Lib.hid b1
  clear b1
  go_wp2_with fail
  refine (CMk.out v _ _ o1).mono ?_
  rintro e w2 ⟨rfl, b2⟩
  have B2 := Lib.hid (below_le B1.out b2)
  clear b2 o1
  go_wp2_with fail
  refine (CQ.out _).mono ?_
  rintro e w3 ⟨rfl, b3⟩
  have B3 := Lib.hid (below_le B2.out b3)
  clear b3
  go_wp2_with fail
  refine (CN1.out _).mono ?_
  rintro e w4 ⟨rfl, b4⟩
  have B4 := Lib.hid (below_le B3.out b4)
  clear b4
  go_wp2_with (refine wpList_store_row rfl 24 _ _ rfl w4.heap.size #[.int .i64 6, .string S, .float .f64 0, .bool false, .bool false, .int .i64 0, .int .i64 (m : Int)] rfl rfl 24 #[.int .i64 0, .string ⟨#[]⟩, .float .f64 0, .bool false, .bool false, .int .i64 0, .int .i64 0] (heap_alloc_last w4 _) (by first | kernel_rfl | rfl) rfl (by first | kernel_rfl | rfl) ?_; rw [World.setRow_alloc_new])
  obtain ⟨W5, hW5, k0, k1, k6, _, bW5⟩ := tok_block w4 6 0 m S 0 false false
  rw [hW5]
  have B45 := Lib.hid (below_le B4.out bW5)
  clear hW5 bW5
  go_quiet ((go_at_call 25; with_reducible exact quiet_eqQ (CL1.out _)))
  have B5 := Lib.hid (below_drewN' B45.out nq)
  clear k0 k1 k6
  go_wp2_with fail
  refine (CS.out _).mono ?_
  rintro e w5 ⟨rfl, b5⟩
  have B6 := Lib.hid (below_le B5.out b5)
  clear b5
  go_wp2_with fail
  refine (CW.out _).mono ?_
  rintro e w6 ⟨rfl, b6⟩
  have B7 := Lib.hid (below_le B6.out b6)
  clear b6
  go_wp2
  go_ret
  exact ⟨rfl, B7.out⟩
 ·rw [hn, if_pos rfl] at CS
  obtain ⟨es, hN2⟩ := next_spe hu hn
  obtain ⟨N, hN⟩ : ∃ N : ByteArray, (⟨(bL (speL (us s))).toArray⟩ : ByteArray) = N := ⟨_, rfl⟩
  rw [hN] at CS
  have hNu : us N = speL (us s) := by rw [← hN]; exact us_bL (speL_lt hu)
  have hnl : (speL (us s)).length ≤ 3145730 := by
   unfold speL
   have := flat_len speU_len (us s)
   rw [us_length] at this
   omega
  have hNs : N.size ≤ 6291460 := by
   rw [← hN]
   show (bL _).toArray.size ≤ _
   rw [List.size_toArray, bL_length]
   omega
  have hNl : ln N = (speL (us s)).length := by rw [← us_length, hNu]
  have CN2 := fun W => xNext_any N 0 false W (by omega) (Nat.zero_le _)
  rw [List.drop_zero, hNu, hN2] at CN2
  have CL2 := fun W => rlen_any N W (by unfold maxLen; omega)
  rw [hNl] at CL2
  obtain ⟨m2, hm2⟩ : ∃ m, (speL (us s)).length = m := ⟨_, rfl⟩
  rw [hm2] at CN2 CL2
  obtain ⟨kd, hkd⟩ : ∃ kd : Nat, (if resB (us s) = true then 3 else 2) = kd := ⟨_, rfl⟩
  have hk2 : kd = 2 ∨ kd = 3 := by rw [← hkd]; split <;> omega
  rw [hkd] at CN2
  have CS := Lib.hid CS
  have CL2 := Lib.hid CL2
  rcases hk2 with rfl | rfl
  ·have CN2 := Lib.hid (show ∀ W, Cp 9 #[.string N, .int .i64 0, .bool false] W fun e w' => e = .returned (.tuple #[.agg #[.int .i64 2, .string S, .float .f64 0, .bool es, .bool false, .int .i64 0, .int .i64 (m2 : Int)], .int .i64 0, .int .i64 0]) ∧ Below W.heap.size W w' from fun W => by rw [← hS]; exact CN2 W)
   clear hln hu hS hSu hSs hQ hQu hql hQs hQl hn hs hm hN2 hN hNu hnl hNs hNl hm2 hkd
   go_enter Tryz.func7, Tryz.ntmps7
   go_wp2_with fail
   refine (CUn.out _).mono ?_
   rintro e w1 ⟨v, rfl, o1, b1⟩
   have B1 := Lib.hid b1
   clear b1
   go_wp2_with fail
   refine (CMk.out v _ _ o1).mono ?_
   rintro e w2 ⟨rfl, b2⟩
   have B2 := Lib.hid (below_le B1.out b2)
   clear b2 o1
   go_wp2_with fail
   refine (CQ.out _).mono ?_
   rintro e w3 ⟨rfl, b3⟩
   have B3 := Lib.hid (below_le B2.out b3)
   clear b3
   go_wp2_with fail
   refine (CN1.out _).mono ?_
   rintro e w4 ⟨rfl, b4⟩
   have B4 := Lib.hid (below_le B3.out b4)
   clear b4
   go_wp2_with (refine wpList_store_row rfl 24 _ _ rfl w4.heap.size #[.int .i64 6, .string S, .float .f64 0, .bool false, .bool false, .int .i64 0, .int .i64 (m : Int)] rfl rfl 24 #[.int .i64 0, .string ⟨#[]⟩, .float .f64 0, .bool false, .bool false, .int .i64 0, .int .i64 0] (heap_alloc_last w4 _) (by first | kernel_rfl | rfl) rfl (by first | kernel_rfl | rfl) ?_; rw [World.setRow_alloc_new])
   obtain ⟨W5, hW5, k0, k1, k6, _, bW5⟩ := tok_block w4 6 0 m S 0 false false
   rw [hW5]
   have B45 := Lib.hid (below_le B4.out bW5)
   clear hW5 bW5
   go_quiet ((go_at_call 25; with_reducible exact quiet_eqQ (CL1.out _)))
   have B5 := Lib.hid (below_drewN' B45.out nq)
   clear k0 k1 k6
   go_wp2_with fail
   refine (CS.out _).mono ?_
   rintro e w5 ⟨rfl, b5⟩
   have B6 := Lib.hid (below_le B5.out b5)
   clear b5
   go_wp2_with fail
   refine (CN2.out _).mono ?_
   rintro e w6 ⟨rfl, b6⟩
   have B7 := Lib.hid (below_le B6.out b6)
   clear b6
   go_wp2_with (refine wpList_store_row rfl 24 _ _ rfl w6.heap.size #[.int .i64 2, .string S, .float .f64 0, .bool es, .bool false, .int .i64 0, .int .i64 (m2 : Int)] rfl rfl 24 #[.int .i64 0, .string ⟨#[]⟩, .float .f64 0, .bool false, .bool false, .int .i64 0, .int .i64 0] (heap_alloc_last w6 _) (by first | kernel_rfl | rfl) rfl (by first | kernel_rfl | rfl) ?_; rw [World.setRow_alloc_new])
   obtain ⟨W7, hW7, k0, k1, k6, _, bW7⟩ := tok_block w6 2 0 m2 S 0 es false
   rw [hW7]
   have B8 := Lib.hid (below_le B7.out bW7)
   clear hW7 bW7
   have CL3 := Lib.hid (fun W => (CL2.out W).mono fun _ _ (h : _ ∧ W = _) => And.intro h.1 h.2.symm)
   go_wp2
   refine wp_region_still_tail 26 (by kernel_rfl) (by kernel_rfl) ?_
   simp only [List.take_succ_cons, List.take_zero, List.drop_succ_cons, List.drop_zero]
   repeat still_step
   still_call (CL3.out _)
   repeat still_step
   refine wpStill_nil ?_
   go_wp2_with fail
   refine (CW.out _).mono ?_
   rintro e w8 ⟨rfl, b8⟩
   have hb8 := Lib.hid (below_le (below_drewN' B8.out 1) b8)
   clear b8 k0 k1 k6
   go_wp2
   go_ret
   exact ⟨rfl, by simpa using hb8.out⟩
  ·have CN2 := Lib.hid (show ∀ W, Cp 9 #[.string N, .int .i64 0, .bool false] W fun e w' => e = .returned (.tuple #[.agg #[.int .i64 3, .string S, .float .f64 0, .bool es, .bool false, .int .i64 0, .int .i64 (m2 : Int)], .int .i64 0, .int .i64 0]) ∧ Below W.heap.size W w' from fun W => by rw [← hS]; exact CN2 W)
   clear hln hu hS hSu hSs hQ hQu hql hQs hQl hn hs hm hN2 hN hNu hnl hNs hNl hm2 hkd
   go_enter Tryz.func7, Tryz.ntmps7
   go_wp2_with fail
   refine (CUn.out _).mono ?_
   rintro e w1 ⟨v, rfl, o1, b1⟩
   have B1 := Lib.hid b1
   clear b1
   go_wp2_with fail
   refine (CMk.out v _ _ o1).mono ?_
   rintro e w2 ⟨rfl, b2⟩
   have B2 := Lib.hid (below_le B1.out b2)
   clear b2 o1
   go_wp2_with fail
   refine (CQ.out _).mono ?_
   rintro e w3 ⟨rfl, b3⟩
   have B3 := Lib.hid (below_le B2.out b3)
   clear b3
   go_wp2_with fail
   refine (CN1.out _).mono ?_
   rintro e w4 ⟨rfl, b4⟩
   have B4 := Lib.hid (below_le B3.out b4)
   clear b4
   go_wp2_with (refine wpList_store_row rfl 24 _ _ rfl w4.heap.size #[.int .i64 6, .string S, .float .f64 0, .bool false, .bool false, .int .i64 0, .int .i64 (m : Int)] rfl rfl 24 #[.int .i64 0, .string ⟨#[]⟩, .float .f64 0, .bool false, .bool false, .int .i64 0, .int .i64 0] (heap_alloc_last w4 _) (by first | kernel_rfl | rfl) rfl (by first | kernel_rfl | rfl) ?_; rw [World.setRow_alloc_new])
   obtain ⟨W5, hW5, k0, k1, k6, _, bW5⟩ := tok_block w4 6 0 m S 0 false false
   rw [hW5]
   have B45 := Lib.hid (below_le B4.out bW5)
   clear hW5 bW5
   go_quiet ((go_at_call 25; with_reducible exact quiet_eqQ (CL1.out _)))
   have B5 := Lib.hid (below_drewN' B45.out nq)
   clear k0 k1 k6
   go_wp2_with fail
   refine (CS.out _).mono ?_
   rintro e w5 ⟨rfl, b5⟩
   have B6 := Lib.hid (below_le B5.out b5)
   clear b5
   go_wp2_with fail
   refine (CN2.out _).mono ?_
   rintro e w6 ⟨rfl, b6⟩
   have B7 := Lib.hid (below_le B6.out b6)
   clear b6
   go_wp2_with (refine wpList_store_row rfl 24 _ _ rfl w6.heap.size #[.int .i64 3, .string S, .float .f64 0, .bool es, .bool false, .int .i64 0, .int .i64 (m2 : Int)] rfl rfl 24 #[.int .i64 0, .string ⟨#[]⟩, .float .f64 0, .bool false, .bool false, .int .i64 0, .int .i64 0] (heap_alloc_last w6 _) (by first | kernel_rfl | rfl) rfl (by first | kernel_rfl | rfl) ?_; rw [World.setRow_alloc_new])
   obtain ⟨W7, hW7, k0, k1, k6, _, bW7⟩ := tok_block w6 3 0 m2 S 0 es false
   rw [hW7]
   have B8 := Lib.hid (below_le B7.out bW7)
   clear hW7 bW7
   have CL3 := Lib.hid (fun W => (CL2.out W).mono fun _ _ (h : _ ∧ W = _) => And.intro h.1 h.2.symm)
   go_wp2
   refine wp_region_still_tail 26 (by kernel_rfl) (by kernel_rfl) ?_
   simp only [List.take_succ_cons, List.take_zero, List.drop_succ_cons, List.drop_zero]
   repeat still_step
   still_call (CL3.out _)
   repeat still_step
   refine wpStill_nil ?_
   go_wp2_with fail
   refine (CW.out _).mono ?_
   rintro e w8 ⟨rfl, b8⟩
   have hb8 := Lib.hid (below_le (below_drewN' B8.out 1) b8)
   clear b8 k0 k1 k6
   go_wp2
   go_ret
   exact ⟨rfl, by simpa using hb8.out⟩

end Go.Proofs.YtjmplgbhjpldbaaGreatDoor
