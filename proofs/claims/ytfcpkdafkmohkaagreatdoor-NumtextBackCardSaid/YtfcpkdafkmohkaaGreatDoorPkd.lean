/-
  Merged texts (Tp, Tq, Tr, Ts, Vv, Wk, Sf, Wa, Wb, Wc, Sb, Se, Wd, We, Wl, Wm, Wn, Wo, Wp, Wq, Lk, Re, Za, Yi, Zb, Zc).
-/
import Derived.Test.YtfcpkdafkmohkaaGreatDoorPkc
import Derived.Shelf.Strings.SlTrimAscii
import Derived.Shelf.Strings.Builder1
import Derived.Shelf.Strings.Builder2
import Derived.Shelf.Strings.OnBuilder
import Derived.Shelf.Strings.Trim
import Derived.Shelf.Small.Utf8
import Derived.Shelf.Small.Bits
import Derived.Shelf.Small.Strs
import Derived.Shelf.Small.Wraps
import Derived.Shelf.Strings.BuilderF
import Derived.Shelf.Strings.BuilderK
import Derived.Shelf.Strconv.Itoa0
import Derived.Shelf.Strconv.Itoa1
import Derived.Shelf.LaysM
import Derived.Shelf.Strconv.Itoa2
import Derived.Shelf.Strconv.Itoa3
import Derived.Shelf.Strings.Search1
import Derived.Shelf.Strings.Prefix
import Derived.Shelf.Unicode.Latin
import Derived.Shelf.Strings.Runes
import Derived.Shelf.Strings.AsciiSet
import Derived.Shelf.Bits.Mul64
import Derived.Shelf.Strings.Repeat
import Derived.Shelf.Unicode.DecodeSlow
import Derived.Shelf.Unicode.CaseLookup
import Derived.Shelf.Unicode.CaseConvert
import Derived.Shelf.Unicode.CaseTo
import Derived.Shelf.Unicode.CaseLaid
import Derived.Test.YtfcpkdafkmohkaaGreatDoorProg
import GoSem.Core.Utf8
import Derived.WalkKit
import Derived.WalkSpells
import Derived.WalkLawsBesides
import Derived.Deep.QuietTactic
import Derived.BigQuiet
import Derived.Lib.Hide
import Derived.Deep.OwnRows
import Derived.Laws.CopyOwn
import Derived.Deep.AppendLies
import Derived.Lib.BitFns
import Derived.Lib.Strings
import Derived.Laws.BitsAllLaws
import Derived.Lib.LaidTab
import Derived.ProofKit
import Derived.OpenShut
import Derived.SizedLaws
import Derived.Laws.BytesString
import Derived.Laws.Cells
import Derived.Deep.RegionWith
import Derived.BigRegion
import Derived.Test.YtfcpkdafkmohkaaGreatDoorRows
import Derived.Lib.ItoaNum
import Derived.Deep.DeepCutAuto
import Ieee.Arith
import GoSem.Core.Float
import Derived.Laws.FloatArith
import Derived.Laws.Externs
import Derived.Deep.RegionHeld3
import Derived.Laws.Closers25b
import Derived.Lib.SlTrimSet
import Derived.Lib.Case
import Derived.Deep.WholeRow
import Derived.Laws.Tables
import Derived.Laws.EntriesVeiled
import Derived.Lib.AppendIntMem
namespace Go.Proofs.YtfcpkdafkmohkaaGreatDoor
open Go.RowKit
theorem bld_below {B : Nat} {l : List UInt8} {w w' : World} (h : Bld B l w) (hb : Below w.heap.size w w') : Bld B l w' := by
 have hg : w.grownBy w' none := ⟨hb.os, hb.tape, hb.output, hb.size, fun k hk _ => hb.block k hk⟩
 have key : ∀ p, Lib.BuilderAtF 97 5 B B p (Lib.byteCells l) w → Lib.BuilderAtF 97 5 B B p (Lib.byteCells l) w' := by
  intro p hA
  have hlt := Lib.BuilderAtF.lt hA
  obtain ⟨hB, v, hbk, hown, hne⟩ := hA
  exact ⟨hB, v, by rw [hb.block B hlt]; exact hbk, hown.kept hg (by cases v.ownBlock <;> simp), hne⟩
 rcases h with h | h
 ·exact .inl (key _ h)
 ·exact .inr (key _ h)
def nr0 (u : Nat) : Nat := if 127 < u then 0 else u
theorem nr0_lt (u : Nat) : nr0 u < 128 := by unfold nr0; split <;> omega
theorem row_others {w w' : World} {R B n : Nat} {f : Nat → Value} (h : w.rowIs R 87 n f) (ho : Lib.OthersKept 5 (some B) w w') (hR : R ≠ B) : w'.rowIs R 87 n f := by
 obtain ⟨c, hb, hn, hc⟩ := h
 refine ⟨c, ho R _ hb (by simpa using hR) (fun c' fz e => ?_), hn, hc⟩
 injection e with _ e2 _
 exact absurd e2 (by decide)
theorem cells_snoc (l : List UInt8) (u : Nat) (hu : u < 256) : Lib.byteCells l ++ [Value.int .u8 (u : Int)] = Lib.byteCells (l ++ [UInt8.ofNat u]) := by
 rw [Lib.byteCells_append]
 simp [Lib.byteCells]
 omega
set_option maxRecDepth 100000 in
set_option maxHeartbeats 1000000 in
theorem tnarrow_any (s : ByteArray) (w : World) (hs : s.size ≤ 140737488355328) :
  Ct 66 #[.string s] (.string (strOf (nrw 0 (us s)))) w := by
 have hl := ln_le s
 have hs63 : s.size ≤ maxLen := by unfold maxLen; omega
 have hm : ((ln s : Nat) : Int) ≤ 70368744177664 := by omega
 have H63 := Lib.hid hs63
 have C1 := Lib.hid (fun W => len_any s W H63.out)
 have C2 := Lib.hid (fun W => units_any s W hs)
 have HS := Lib.hid (show ln s ≤ 70368744177664 by omega)
 have hg : Cp 97 #[.pointer (some ⟨w.heap.size, 0, none⟩), .int .i64 (ln s : Nat)] (w.alloc (.cells #[.pointer none, .slice none 0 0] 97)) fun e w' => e = .returned (.tuple #[]) ∧ (Lib.BuilderAt 97 5 w.heap.size w.heap.size (.pointer (some ⟨w.heap.size, 0, none⟩)) [] w' ∧ Below w.heap.size (w.alloc (.cells #[.pointer none, .slice none 0 0] 97)) w') :=
  Tryz.Builder_Grow_fresh w.heap.size w.heap.size (ln s) _ (Nat.le_refl _) (alloc_new w _) (by simp) (by omega)
 have HG := Lib.hid hg
 clear hl hs hs63 hg
 go_enter Tryz.func66, Tryz.ntmps66
 go_wp2_with fail
 refine (C1.out _).mono ?_
 rintro e w' ⟨rfl, rfl⟩
 go_wp2_with fail
 refine HG.out.mono ?_
 rintro e w1 ⟨rfl, hb1, bl1⟩
 have hbl : Below w.heap.size w w1 := ((Below.refl w.heap.size w).alloc (Nat.le_refl _) _).trans bl1
 have I1 := Lib.hid (show Bld w.heap.size [] w1 from Lib.IsBuilderF.of (.inr hb1))
 have B1 := Lib.hid hbl
 clear hb1 bl1 hbl
 go_wp2_with fail
 refine (C2.out _).mono ?_
 rintro e w2 ⟨rfl, hr2, b2⟩
 have R2 := Lib.hid hr2
 have hlt1 := bld_lt I1.out
 have I2 := Lib.hid (bld_below I1.out b2)
 have B2 := Lib.hid (below_le B1.out b2)
 have HR := Lib.hid (show w1.heap.size ≠ w.heap.size by omega)
 obtain ⟨R, hR⟩ : ∃ R, w1.heap.size = R := ⟨_, rfl⟩
 rw [hR] at R2 HR ⊢
 clear hr2 b2 hlt1 hR
 go_wp2
 go_loopw [12] (fun i wr => ∃ k : Nat, i = .int .i64 k ∧ k ≤ ln s ∧ Hid (Bld w.heap.size ((((us s).take k).map nr0).map UInt8.ofNat) wr) ∧ Hid (wr.rowIs R 87 (ln s) (fun j => .int .u16 (un s j : Nat))) ∧ Hid (Below w.heap.size w wr)) (fun i _ => ln s - (intOf i).toNat)
 case atStart => exact ⟨0, rfl, Nat.zero_le _, I2, R2, B2⟩
 case round =>
  obtain ⟨k, rfl, hk, I3, R3, B3⟩ := hrel
  by_cases hlt : k < ln s
  ·have hcell : wr.cell? ⟨R, k, none⟩ = some (.int .u16 (un s k : Nat)) := R3.out.cell hlt
   have hul := un_lt s k
   have HST := Lib.hid (us_take_succ s k hlt)
   obtain ⟨u, hu⟩ : ∃ u, un s k = u := ⟨_, rfl⟩
   rw [hu] at hcell hul HST
   have hc1 := nr0_lt u
   have hlen : (Lib.byteCells ((((us s).take k).map nr0).map UInt8.ofNat)).length + 1 ≤ 140737488355328 := by
    rw [Lib.byteCells_length, List.length_map, List.length_map, List.length_take]
    have := HS.out
    omega
   have C4 := Lib.hid (fun c : Int => Tryz.Builder_WriteByte_k w.heap.size w.heap.size _ c wr I3.out hlen B3.out.size)
   have KEY := Lib.hid (show ∀ w', Lib.BuilderAtF 97 5 w.heap.size w.heap.size (.pointer (some ⟨w.heap.size, 0, none⟩)) (Lib.byteCells ((((us s).take k).map nr0).map UInt8.ofNat) ++ [.int .u8 (nr0 u : Nat)]) w' → Bld w.heap.size ((((us s).take (k + 1)).map nr0).map UInt8.ofNat) w' from fun w' h => by
    rw [cells_snoc _ _ (by omega)] at h
    rw [HST.out, List.map_append, List.map_append]
    exact Or.inr h)
   have a1 : (0 : Int) ≤ (k : Int) := by omega
   have a2 : (k : Int) < (ln s : Int) := by omega
   clear hlen
   by_cases hb : 127 < u
   ·have e0 : nr0 u = 0 := if_pos hb
    rw [e0] at KEY
    have t1 : decide ((127 : Int) < (u : Int)) = true := decide_eq_true (by omega)
    clear hu hul hc1 hb e0
    go_wp2_with fail
    refine (C4.out 0).mono ?_
    rintro e w3 ⟨rfl, hI, hb3, ho3⟩
    have I4 := Lib.hid (KEY.out _ hI)
    have R4 := Lib.hid (row_others R3.out ho3 HR.out)
    have B4 := Lib.hid (B3.out.trans hb3)
    clear hI hb3 ho3
    go_wp2
    exact ⟨⟨k + 1, by go_num, by omega, I4, R4, B4⟩, by simp [intOf]; omega⟩
   ·have e0 : nr0 u = u := if_neg hb
    rw [e0] at KEY
    have t1 : decide ((127 : Int) < (u : Int)) = false := decide_eq_false (by omega)
    have k1 : IntKind.u8.wrap (u : Int) = (u : Int) := IntWalk.u8_in _ (by omega)
    clear hu hul hc1 hb e0
    go_wp2_with fail
    refine (C4.out _).mono ?_
    rintro e w3 ⟨rfl, hI, hb3, ho3⟩
    have I4 := Lib.hid (KEY.out _ hI)
    have R4 := Lib.hid (row_others R3.out ho3 HR.out)
    have B4 := Lib.hid (B3.out.trans hb3)
    clear hI hb3 ho3
    go_wp2
    exact ⟨⟨k + 1, by go_num, by omega, I4, R4, B4⟩, by simp [intOf]; omega⟩
  ·obtain ⟨T, hT⟩ : ∃ T, (((us s).take k).map nr0).map UInt8.ofNat = T := ⟨_, rfl⟩
   have I5 := I3.out
   rw [hT] at I5
   have hS := Lib.hid (Tryz.Builder_String_any_k w.heap.size w.heap.size T wr I5 B3.out.size)
   have HZ := Lib.hid (show (⟨T.toArray⟩ : ByteArray) = strOf (nrw 0 (us s)) from by
    rw [← hT, show (us s).take k = us s by rw [show k = ln s by omega]; exact us_take_all s]
    rfl)
   clear hT I5 I3
   go_wp2_with (go_at_call 99; refine hS.out.mono ?_; rintro e w2 ⟨rfl, _, hb2, _⟩)
   go_ret
   exact ⟨by rw [← HZ.out]; rfl, B3.out.trans hb2⟩

end Go.Proofs.YtfcpkdafkmohkaaGreatDoor
namespace Go.Proofs.YtfcpkdafkmohkaaGreatDoor
open Go.RowKit
theorem uL_drop : ∀ (i : Nat) (l : List UInt8), uL (l.drop (2 * i)) = (uL l).drop i
 | 0, l => rfl
 | i + 1, [] => by simp [uL]
 | i + 1, [a] => by
  have : 2 * (i + 1) = 2 * i + 1 + 1 := by omega
  rw [this, List.drop_succ_cons, List.drop_nil]
  simp [uL]
 | i + 1, a :: b :: l => by
  have : 2 * (i + 1) = 2 * i + 1 + 1 := by omega
  rw [this, List.drop_succ_cons, List.drop_succ_cons, uL_drop i l, uL, List.drop_succ_cons]
theorem uL_take : ∀ (i : Nat) (l : List UInt8), uL (l.take (2 * i)) = (uL l).take i
 | 0, l => by simp [uL]
 | i + 1, [] => by simp [uL]
 | i + 1, [a] => by
  have : 2 * (i + 1) = 2 * i + 1 + 1 := by omega
  rw [this, List.take_succ_cons, List.take_nil]
  simp [uL]
 | i + 1, a :: b :: l => by
  have : 2 * (i + 1) = 2 * i + 1 + 1 := by omega
  rw [this, List.take_succ_cons, List.take_succ_cons, uL, uL_take i l, uL, List.take_succ_cons]
theorem us_part (s : ByteArray) (a b : Nat) : us (s.extract (2 * a) (2 * b)) = ((us s).drop a).take (b - a) := by
 unfold us
 rw [Lib.extract_data, show 2 * b - 2 * a = 2 * (b - a) by omega, uL_take, uL_drop]
theorem us_empty : us { data := #[] } = [] := rfl
theorem us_slS (s : ByteArray) (a b : Nat) (hb : b ≤ ln s) : us (slS s a b) = ((us s).drop a).take (b - a) := by
 rcases Nat.lt_or_ge a b with h | h
 ·rw [slS_mid s a b (by omega) (by omega) (by omega), Int.toNat_natCast, Int.toNat_natCast, us_part]
 ·have : slS s a b = { data := #[] } := by
   unfold slS
   rw [if_neg (by omega)]
  rw [this, us_empty, show b - a = 0 by omega, List.take_zero]
theorem us_tailS (s : ByteArray) (a : Nat) : us (slS s a (ln s : Nat)) = (us s).drop a := by
 rw [us_slS s a (ln s) (Nat.le_refl _)]
 exact List.take_of_length_le (by rw [List.length_drop, us_length]; omega)
def blkN (u : Nat) : Bool := blB (u : Int)
def ahL (l : List Nat) : List Nat := l.dropWhile blkN
theorem us_dropN (s : ByteArray) (k : Nat) (h : k < ln s) : (us s).drop k = un s k :: (us s).drop (k + 1) := by
 have h' : k < (us s).length := by rw [us_length]; exact h
 rw [List.drop_eq_getElem_cons h', us_getElem]
theorem ah_go {s : ByteArray} {k : Nat} (h : k < ln s) (hb : blkN (un s k) = true) : ahL ((us s).drop k) = ahL ((us s).drop (k + 1)) := by
 unfold ahL
 rw [us_dropN s k h, List.dropWhile_cons_of_pos hb]
theorem ah_end {s : ByteArray} {k : Nat} (h : k < ln s) (hb : blkN (un s k) = false) : ahL ((us s).drop k) = (us s).drop k := by
 unfold ahL
 rw [us_dropN s k h, List.dropWhile_cons_of_neg (by rw [hb]; simp)]
set_option maxRecDepth 100000 in
set_option maxHeartbeats 1000000 in
theorem ttrimStart_any (s : ByteArray) (w : World) (hs : s.size ≤ 140737488355328) :
  Cp 81 #[.string s] w fun e w' => (∃ t, e = .returned (.string t) ∧ us t = ahL (us s) ∧ t.size ≤ s.size) ∧ Below w.heap.size w w' := by
 have hl := ln_le s
 have hs63 : s.size ≤ maxLen := by unfold maxLen; omega
 have hm : ((ln s : Nat) : Int) ≤ 70368744177664 := by omega
 have C1 := Lib.hid (fun W => len_any s W hs63)
 have C2 := Lib.hid (fun i W => unit_any s i W hs63)
 have C3 := Lib.hid (fun f t W => slice_any s f t W hs63)
 clear hl hs63 hs
 go_enter Tryz.func81, Tryz.ntmps81
 go_wp2_with fail
 refine (C1.out _).mono ?_
 rintro e w' ⟨rfl, rfl⟩
 go_wp2
 go_loopw [8] (fun i wr => ∃ k : Nat, i = .int .i64 k ∧ k ≤ ln s ∧ Hid (ahL (us s) = ahL ((us s).drop k)) ∧ Hid (Below w.heap.size w wr)) (fun i _ => ln s - (intOf i).toNat)
 case atStart => exact ⟨0, rfl, Nat.zero_le _, Lib.hid rfl, Lib.hid (Below.refl _ _)⟩
 case round =>
  obtain ⟨k, rfl, hk, HA, HB⟩ := hrel
  by_cases hlt : k < ln s
  ·have C2k := Lib.hid (C2.out (k : Int) wr)
   have hok : unOk s (k : Int) = true := by unfold unOk; rw [decide_eq_true (by omega), decide_eq_true (by omega)]; rfl
   have hv : unV s (k : Int) = un s k := by unfold unV; rw [hok, if_pos rfl, Int.toNat_natCast]
   rw [hok, hv] at C2k
   have H1 := Lib.hid (fun h => ah_go (s := s) hlt h)
   have H2 := Lib.hid (fun h => ah_end (s := s) hlt h)
   obtain ⟨u, hu⟩ : ∃ u, un s k = u := ⟨_, rfl⟩
   rw [hu] at C2k H1 H2
   have C4 := Lib.hid (fun W => space_any (u : Int) W)
   have C5 := Lib.hid (fun W => ends_any (u : Int) W)
   have hbl : blkN u = (spB (u : Int) || enB (u : Int)) := rfl
   cases hsp : spB (u : Int)
   ·cases hen : enB (u : Int)
    ·rw [hsp] at C4
     rw [hen] at C5
     have HE := Lib.hid (show us (slS s (k : Int) (ln s : Nat)) = ahL (us s) from by rw [us_tailS, HA.out, H2.out (by rw [hbl, hsp, hen]; rfl)])
     have HL := Lib.hid (show (slS s (k : Int) (ln s : Nat)).size ≤ s.size from by
      rw [slS_mid s (k : Int) (ln s : Nat) (by omega) (by omega) (by omega), ByteArray.size_extract]
      have := ln_le s
      omega)
     clear hok hv hu hbl hsp hen
     go_wp2_with fail
     refine C2k.out.mono ?_
     rintro e w' ⟨rfl, n, rfl⟩
     go_wp2_with fail
     refine (C4.out _).mono ?_
     rintro e w' ⟨rfl, rfl⟩
     go_wp2_with fail
     refine (C5.out _).mono ?_
     rintro e w' ⟨rfl, rfl⟩
     go_wp2_with fail
     refine (C1.out _).mono ?_
     rintro e w' ⟨rfl, rfl⟩
     go_wp2_with fail
     refine (C3.out _ _ _).mono ?_
     rintro e w' ⟨rfl, rfl⟩
     go_wp2
     go_ret
     exact ⟨⟨_, rfl, HE.out, HL.out⟩, below_drewN' HB.out _⟩
    ·rw [hsp] at C4
     rw [hen] at C5
     have HN := Lib.hid (show ahL (us s) = ahL ((us s).drop (k + 1)) from HA.out.trans (H1.out (by rw [hbl, hsp, hen]; rfl)))
     clear hok hv hu hbl hsp hen
     go_wp2_with fail
     refine C2k.out.mono ?_
     rintro e w' ⟨rfl, n, rfl⟩
     go_wp2_with fail
     refine (C4.out _).mono ?_
     rintro e w' ⟨rfl, rfl⟩
     go_wp2_with fail
     refine (C5.out _).mono ?_
     rintro e w' ⟨rfl, rfl⟩
     go_wp2
     exact ⟨⟨k + 1, by go_num, by omega, HN, Lib.hid (below_drewN' HB.out _)⟩, by simp [intOf]; omega⟩
   ·rw [hsp] at C4
    have HN := Lib.hid (show ahL (us s) = ahL ((us s).drop (k + 1)) from HA.out.trans (H1.out (by rw [hbl, hsp]; rfl)))
    clear hok hv hu hbl hsp
    go_wp2_with fail
    refine C2k.out.mono ?_
    rintro e w' ⟨rfl, n, rfl⟩
    go_wp2_with fail
    refine (C4.out _).mono ?_
    rintro e w' ⟨rfl, rfl⟩
    go_wp2
    exact ⟨⟨k + 1, by go_num, by omega, HN, Lib.hid (below_drewN' HB.out _)⟩, by simp [intOf]; omega⟩
  ·have HE := Lib.hid (show us { data := #[] } = ahL (us s) from by
    rw [HA.out, us_empty, List.drop_eq_nil_iff.2 (by rw [us_length]; omega)]; rfl)
   go_wp2
   go_ret
   exact ⟨⟨_, rfl, HE.out, Nat.zero_le _⟩, HB.out⟩

end Go.Proofs.YtfcpkdafkmohkaaGreatDoor
namespace Go.Proofs.YtfcpkdafkmohkaaGreatDoor
open Go.RowKit
set_option maxRecDepth 100000 in
theorem tnan_any (w : World) : Cq 77 #[] (.float .f64 nanW) w := by
 have h1 : (callFunc 120 #[.int .u64 9221120237041090560]).run Tryz.prog w = .ok (.value (.float .f64 9221120237041090560)) w := f64from_run 9221120237041090560 w
 go_enter Tryz.func77, Tryz.ntmps77
 go_wp2
 go_ret
 exact ⟨rfl, rfl⟩
theorem inf_split {u : List Nat} (h : infB u = true) : u = infL ++ u.drop 8 := by
 unfold infB at h
 obtain ⟨t, ht⟩ := List.isPrefixOf_iff_prefix.1 h
 rw [← ht, show (infL ++ t).drop 8 = t from rfl]
theorem inf_dec {u : List Nat} (h : infB u = true) : dB u = false := by
 rw [inf_split h]
 rfl
theorem inf_all {u : List Nat} : (infB u = true ∧ u.drop 8 = []) ↔ u = infL := by
 constructor
 ·rintro ⟨h1, h2⟩
  have := inf_split h1
  rw [h2, List.append_nil] at this
  exact this
 ·intro h; rw [h]; exact ⟨by decide, by decide⟩
theorem numW_nb (l : List Nat) : numW l = if l = [] then 0 else if hxB l = true then natV 16 (l.drop 2) else if nbB l = true ∧ nbR l = [] then nbV l else nanW := by
 unfold numW
 by_cases h0 : l = []
 ·rw [if_pos h0, if_pos h0]
 ·rw [if_neg h0, if_neg h0]
  by_cases h1 : hxB l = true
  ·rw [if_pos h1, if_pos h1]
  ·rw [if_neg h1, if_neg h1]
   unfold nbB nbR nbV
   cases hi : infB (unsg l)
   ·have hn : ¬ unsg l = infL := fun e => by rw [e] at hi; revert hi; decide
    rw [if_neg hn]
    simp only [Bool.false_or, Bool.false_eq_true, if_false]
    cases hd : dB (unsg l)
    ·simp
    ·simp
   ·have hd := inf_dec hi
    simp only [Bool.true_or, if_true, true_and, hd, Bool.false_eq_true, false_and, if_false]
    by_cases he : (unsg l).drop 8 = []
    ·rw [if_pos (inf_all.1 ⟨hi, he⟩), if_pos he]
    ·rw [if_neg (fun e => he (inf_all.2 e).2), if_neg he]
theorem trim_len (s : ByteArray) : (trimS s).size ≤ s.size := by
 unfold trimS slS
 split
 ·rw [ByteArray.size_extract]; omega
 ·exact Nat.zero_le _
theorem nrw_len (z : Nat) (l : List Nat) : (nrw z l).length = l.length := by unfold nrw; rw [List.length_map]
theorem nrw_size {s : ByteArray} (h : s.size ≤ 140737488355328) : (nrw 0 (us s)).length ≤ 140737488355328 := by
 rw [nrw_len, us_length]
 have := ln_le s
 omega
theorem em_str : (strOf []).toList.isEmpty = true := by rw [Lib.toList_data]; rfl
theorem em_iff (l : List Nat) : (strOf l).toList.isEmpty = decide (l = []) := by
 by_cases h : l = []
 ·rw [h, em_str]; rfl
 ·rw [(str_ne h).2, decide_eq_false h]
set_option maxRecDepth 100000 in
set_option maxHeartbeats 1000000 in
theorem tNumber_walk (s t l r : ByteArray) (H F : Nat) (c1 c2 c3 c4 : Bool) (w : World)
  (C1 : Hid (∀ W, Cp 75 #[.string s] W fun e w' => e = .returned (.string t) ∧ ∃ n, w' = W.drewN n))
  (C2 : Hid (∀ W, Ct 66 #[.string t] (.string l) W))
  (C3 : Hid (∀ W, Ct 67 #[.string l] (.tuple #[.float .f64 H, .bool c2]) W))
  (C4 : Hid (∀ W, Ct 76 #[.string l] (.tuple #[.float .f64 F, .string r, .bool c3]) W))
  (t1 : l.toList.isEmpty = c1) (t2 : r.toList.isEmpty = c4) :
  Ct 28 #[.string s] (.float .f64 (if c1 = true then 0 else if c2 = true then H else if c3 = true ∧ c4 = true then F else nanW : Nat)) w := by
 have C5 := Lib.hid (fun W => tnan_any W)
 cases c1
 ·cases c2
  ·cases c3
   ·simp only [Bool.false_eq_true, if_false, false_and]
    go_enter Tryz.func28, Tryz.ntmps28
    go_wp2_with fail
    refine (C1.out _).mono ?_
    rintro e w' ⟨rfl, n, rfl⟩
    go_wp2_with fail
    refine (C2.out _).mono ?_
    rintro e w1 ⟨rfl, b1⟩
    have B1 := Lib.hid (below_drewN' (Below.refl w.heap.size w) n |>.trans b1)
    clear b1
    go_wp2_with fail
    refine (C3.out _).mono ?_
    rintro e w2 ⟨rfl, b2⟩
    have B2 := Lib.hid (below_le B1.out b2)
    clear b2
    go_wp2_with fail
    refine (C4.out _).mono ?_
    rintro e w3 ⟨rfl, b3⟩
    have B3 := Lib.hid (below_le B2.out b3)
    clear b3
    go_wp2_with fail
    refine (C5.out _).mono ?_
    rintro e w' ⟨rfl, rfl⟩
    go_wp2
    go_ret
    exact ⟨rfl, B3.out⟩
   ·cases c4
    ·simp only [Bool.false_eq_true, if_false, and_false]
     go_enter Tryz.func28, Tryz.ntmps28
     go_wp2_with fail
     refine (C1.out _).mono ?_
     rintro e w' ⟨rfl, n, rfl⟩
     go_wp2_with fail
     refine (C2.out _).mono ?_
     rintro e w1 ⟨rfl, b1⟩
     have B1 := Lib.hid (below_drewN' (Below.refl w.heap.size w) n |>.trans b1)
     clear b1
     go_wp2_with fail
     refine (C3.out _).mono ?_
     rintro e w2 ⟨rfl, b2⟩
     have B2 := Lib.hid (below_le B1.out b2)
     clear b2
     go_wp2_with fail
     refine (C4.out _).mono ?_
     rintro e w3 ⟨rfl, b3⟩
     have B3 := Lib.hid (below_le B2.out b3)
     clear b3
     go_wp2_with fail
     refine (C5.out _).mono ?_
     rintro e w' ⟨rfl, rfl⟩
     go_wp2
     go_ret
     exact ⟨rfl, B3.out⟩
    ·simp only [Bool.false_eq_true, if_false, and_self, if_true]
     go_enter Tryz.func28, Tryz.ntmps28
     go_wp2_with fail
     refine (C1.out _).mono ?_
     rintro e w' ⟨rfl, n, rfl⟩
     go_wp2_with fail
     refine (C2.out _).mono ?_
     rintro e w1 ⟨rfl, b1⟩
     have B1 := Lib.hid (below_drewN' (Below.refl w.heap.size w) n |>.trans b1)
     clear b1
     go_wp2_with fail
     refine (C3.out _).mono ?_
     rintro e w2 ⟨rfl, b2⟩
     have B2 := Lib.hid (below_le B1.out b2)
     clear b2
     go_wp2_with fail
     refine (C4.out _).mono ?_
     rintro e w3 ⟨rfl, b3⟩
     have B3 := Lib.hid (below_le B2.out b3)
     clear b3
     go_wp2
     go_ret
     exact ⟨rfl, B3.out⟩
  ·simp only [Bool.false_eq_true, if_false, if_true]
   go_enter Tryz.func28, Tryz.ntmps28
   go_wp2_with fail
   refine (C1.out _).mono ?_
   rintro e w' ⟨rfl, n, rfl⟩
   go_wp2_with fail
   refine (C2.out _).mono ?_
   rintro e w1 ⟨rfl, b1⟩
   have B1 := Lib.hid (below_drewN' (Below.refl w.heap.size w) n |>.trans b1)
   clear b1
   go_wp2_with fail
   refine (C3.out _).mono ?_
   rintro e w2 ⟨rfl, b2⟩
   have B2 := Lib.hid (below_le B1.out b2)
   clear b2
   go_wp2
   go_ret
   exact ⟨rfl, B2.out⟩
 ·simp only [if_true]
  go_enter Tryz.func28, Tryz.ntmps28
  go_wp2_with fail
  refine (C1.out _).mono ?_
  rintro e w' ⟨rfl, n, rfl⟩
  go_wp2_with fail
  refine (C2.out _).mono ?_
  rintro e w1 ⟨rfl, b1⟩
  have B1 := Lib.hid (below_drewN' (Below.refl w.heap.size w) n |>.trans b1)
  clear b1
  go_wp2
  go_ret
  exact ⟨rfl, B1.out⟩
theorem tNumber_any (s : ByteArray) (w : World) (hs : s.size ≤ 140737488355328) :
  Ct 28 #[.string s] (.float .f64 (numW (nrw 0 (us (trimS s))))) w := by
 have ht := trim_len s
 have hl := nrw_lt (z := 0) (by omega) (us (trimS s))
 have hln := nrw_size (s := trimS s) (by omega)
 obtain ⟨l, hll⟩ : ∃ l, nrw 0 (us (trimS s)) = l := ⟨_, rfl⟩
 have C2 := fun W => tnarrow_any (trimS s) W (by omega)
 rw [hll] at C2 hl hln ⊢
 have h := tNumber_walk s (trimS s) (strOf l) (strOf (nbR l)) _ _ (decide (l = [])) (hxB l) (nbB l) (decide (nbR l = [])) w (Lib.hid (fun W => trim_any s W (by unfold maxLen; omega))) (Lib.hid C2)
  (Lib.hid (fun W => thexadecimal_any l W hl hln)) (Lib.hid (fun W => tnumber_any l W (fun c hc => Nat.lt_trans (hl c hc) (by omega)) hln)) (em_iff l) (em_iff _)
 refine h.mono fun e w' x => ⟨?_, x.2⟩
 rw [x.1, numW_nb]
 simp only [decide_eq_true_eq]
 cases h1 : hxB l
 ·simp only [Bool.false_eq_true, if_false]
 ·simp only [if_true]
theorem ah_size {s t : ByteArray} (h : t.size ≤ s.size) (hs : s.size ≤ 140737488355328) : t.size ≤ 140737488355328 := by omega
theorem nb_flt (l : List Nat) : fltW l = if nbB l = true then nbV l else nanW := by
 unfold fltW nbB nbV
 cases infB (unsg l)
 ·simp only [Bool.false_or, Bool.false_eq_true, if_false]
  cases dB (unsg l) <;> simp
 ·simp
set_option maxRecDepth 100000 in
set_option maxHeartbeats 1000000 in
theorem tFloat_any (s : ByteArray) (w : World) (hs : s.size ≤ 140737488355328) :
  Ct 30 #[.string s] (.float .f64 (fltW (nrw 0 (ahL (us s))))) w := by
 have C1 := Lib.hid (fun W => ttrimStart_any s W hs)
 have C5 := Lib.hid (fun W => tnan_any W)
 have HS := Lib.hid hs
 obtain ⟨l, hll⟩ : ∃ l, nrw 0 (ahL (us s)) = l := ⟨_, rfl⟩
 have HLL := Lib.hid hll
 have hl : ∀ c ∈ l, c < 128 := by rw [← hll]; exact nrw_lt (by omega) _
 have hln : l.length ≤ 140737488355328 := by
  rw [← hll, nrw_len]
  have h1 : (ahL (us s)).length ≤ (us s).length := (List.dropWhile_sublist _).length_le
  rw [us_length] at h1
  have := ln_le s
  omega
 have C4 := Lib.hid (fun W => tnumber_any l W (fun c hc => Nat.lt_trans (hl c hc) (by omega)) hln)
 rw [hll, nb_flt]
 clear hs hll hl hln
 cases hb : nbB l
 ·rw [hb] at C4
  simp only [Bool.false_eq_true, if_false]
  clear hb
  go_enter Tryz.func30, Tryz.ntmps30
  go_wp2_with fail
  refine (C1.out _).mono ?_
  rintro e w1 ⟨⟨t, rfl, h1, h2⟩, b1⟩
  have C2 := Lib.hid (fun W => tnarrow_any t W (ah_size h2 HS.out))
  rw [h1, HLL.out] at C2
  have B1 := Lib.hid b1
  clear b1 h1 h2
  go_wp2_with fail
  refine (C2.out _).mono ?_
  rintro e w2 ⟨rfl, b2⟩
  have B2 := Lib.hid (below_le B1.out b2)
  clear b2
  go_wp2_with fail
  refine (C4.out _).mono ?_
  rintro e w3 ⟨rfl, b3⟩
  have B3 := Lib.hid (below_le B2.out b3)
  clear b3
  go_wp2_with fail
  refine (C5.out _).mono ?_
  rintro e w' ⟨rfl, rfl⟩
  go_wp2
  go_ret
  exact ⟨rfl, B3.out⟩
 ·rw [hb] at C4
  simp only [if_true]
  clear hb
  go_enter Tryz.func30, Tryz.ntmps30
  go_wp2_with fail
  refine (C1.out _).mono ?_
  rintro e w1 ⟨⟨t, rfl, h1, h2⟩, b1⟩
  have C2 := Lib.hid (fun W => tnarrow_any t W (ah_size h2 HS.out))
  rw [h1, HLL.out] at C2
  have B1 := Lib.hid b1
  clear b1 h1 h2
  go_wp2_with fail
  refine (C2.out _).mono ?_
  rintro e w2 ⟨rfl, b2⟩
  have B2 := Lib.hid (below_le B1.out b2)
  clear b2
  go_wp2_with fail
  refine (C4.out _).mono ?_
  rintro e w3 ⟨rfl, b3⟩
  have B3 := Lib.hid (below_le B2.out b3)
  clear b3
  go_wp2
  go_ret
  exact ⟨rfl, B3.out⟩

end Go.Proofs.YtfcpkdafkmohkaaGreatDoor
namespace Go.Proofs.YtfcpkdafkmohkaaGreatDoor
open Go.RowKit
def octB (l : List Nat) : Bool := l.head? == some 48 && (l.tail.head?.map dg10 == some true)
theorem oct_whole (l : List Nat) : octB l = true ↔ 1 < (dW l).length ∧ (dW l).head? = some 48 := by
 unfold octB dW run10
 cases l with
 | nil => simp
 | cons c t =>
  by_cases hc : c = 48
  ·subst hc
   rw [List.takeWhile_cons_of_pos (by decide)]
   cases t with
   | nil => simp
   | cons d q =>
    cases hd : dg10 d
    ·rw [List.takeWhile_cons_of_neg (by rw [hd]; simp)]; simp [hd]
    ·rw [List.takeWhile_cons_of_pos hd]; simp [hd]
  ·constructor
   ·intro h; simp [hc] at h
   ·rintro ⟨_, h⟩
    by_cases hg : dg10 c = true
    ·rw [List.takeWhile_cons_of_pos hg] at h; simp at h; exact absurd h hc
    ·rw [List.takeWhile_cons_of_neg hg] at h; simp at h
theorem lit_eq (l : List Nat) : litB l = (hxB l || (dB l && (dR l).isEmpty && !octB l)) := rfl
set_option maxRecDepth 100000 in
set_option maxHeartbeats 1000000 in
theorem tLiteral_hex (s l : ByteArray) (H : Nat) (w : World)
  (C2 : Hid (∀ W, Ct 66 #[.string s] (.string l) W))
  (C3 : Hid (∀ W, Ct 67 #[.string l] (.tuple #[.float .f64 H, .bool true]) W)) :
  Ct 25 #[.string s] (.tuple #[.float .f64 H, .bool true]) w := by
 go_enter Tryz.func25, Tryz.ntmps25
 go_wp2_with fail
 refine (C2.out _).mono ?_
 rintro e w1 ⟨rfl, b1⟩
 have B1 := Lib.hid b1
 clear b1
 go_wp2_with fail
 refine (C3.out _).mono ?_
 rintro e w2 ⟨rfl, b2⟩
 have B2 := Lib.hid (below_le B1.out b2)
 clear b2
 go_wp2
 go_ret2
 exact ⟨rfl, B2.out⟩
set_option maxRecDepth 100000 in
set_option maxHeartbeats 1000000 in
theorem tLiteral_none (s l : ByteArray) (w : World)
  (C2 : Hid (∀ W, Ct 66 #[.string s] (.string l) W))
  (C3 : Hid (∀ W, Ct 67 #[.string l] (.tuple #[.float .f64 0, .bool false]) W))
  (C4 : Hid (∀ W, Ct 68 #[.string l] (.tuple #[.agg #[.string ⟨#[]⟩, .string ⟨#[]⟩, .int .i64 0], .string ⟨#[]⟩, .bool false]) W)) :
  Ct 25 #[.string s] (.tuple #[.float .f64 0, .bool false]) w := by
 go_enter Tryz.func25, Tryz.ntmps25
 go_wp2_with fail
 refine (C2.out _).mono ?_
 rintro e w1 ⟨rfl, b1⟩
 have B1 := Lib.hid b1
 clear b1
 go_wp2_with fail
 refine (C3.out _).mono ?_
 rintro e w2 ⟨rfl, b2⟩
 have B2 := Lib.hid (below_le B1.out b2)
 clear b2
 go_wp2_with fail
 refine (C4.out _).mono ?_
 rintro e w3 ⟨rfl, b3⟩
 have B3 := Lib.hid (alloc_below (.cells #[.string ⟨#[]⟩, .string ⟨#[]⟩, .int .i64 0] 64) (below_le B2.out b3))
 clear b3
 go_wp2
 go_ret2
 exact ⟨rfl, B3.out⟩
set_option maxRecDepth 100000 in
set_option maxHeartbeats 1000000 in
theorem tLiteral_a (s l p q r : ByteArray) (X : Int) (w : World)
  (C2 : Hid (∀ W, Ct 66 #[.string s] (.string l) W))
  (C3 : Hid (∀ W, Ct 67 #[.string l] (.tuple #[.float .f64 0, .bool false]) W))
  (C4 : Hid (∀ W, Ct 68 #[.string l] (.tuple #[.agg #[.string p, .string q, .int .i64 X], .string r, .bool true]) W))
  (t1 : r.toList.isEmpty = false) :
  Ct 25 #[.string s] (.tuple #[.float .f64 0, .bool false]) w := by
 go_enter Tryz.func25, Tryz.ntmps25
 go_wp2_with fail
 refine (C2.out _).mono ?_
 rintro e w1 ⟨rfl, b1⟩
 have B1 := Lib.hid b1
 clear b1
 go_wp2_with fail
 refine (C3.out _).mono ?_
 rintro e w2 ⟨rfl, b2⟩
 have B2 := Lib.hid (below_le B1.out b2)
 clear b2
 go_wp2_with fail
 refine (C4.out _).mono ?_
 rintro e w3 ⟨rfl, b3⟩
 have B3 := Lib.hid (alloc_below (.cells #[.string p, .string q, .int .i64 X] 64) (below_le B2.out b3))
 clear b3
 go_wp2
 go_ret2
 exact ⟨rfl, B3.out⟩
set_option maxRecDepth 100000 in
set_option maxHeartbeats 1000000 in
theorem tLiteral_b (s l p q r : ByteArray) (X : Int) (w : World)
  (C2 : Hid (∀ W, Ct 66 #[.string s] (.string l) W))
  (C3 : Hid (∀ W, Ct 67 #[.string l] (.tuple #[.float .f64 0, .bool false]) W))
  (C4 : Hid (∀ W, Ct 68 #[.string l] (.tuple #[.agg #[.string p, .string q, .int .i64 X], .string r, .bool true]) W))
  (t1 : r.toList.isEmpty = true) (t2 : decide (1 < (p.size : Int)) = true) (h0 : 0 < p.size) (t3 : (((p[0]'h0).toNat : Int) == 48) = true) :
  Ct 25 #[.string s] (.tuple #[.float .f64 0, .bool false]) w := by
 go_enter Tryz.func25, Tryz.ntmps25
 go_wp2_with fail
 refine (C2.out _).mono ?_
 rintro e w1 ⟨rfl, b1⟩
 have B1 := Lib.hid b1
 clear b1
 go_wp2_with fail
 refine (C3.out _).mono ?_
 rintro e w2 ⟨rfl, b2⟩
 have B2 := Lib.hid (below_le B1.out b2)
 clear b2
 go_wp2_with fail
 refine (C4.out _).mono ?_
 rintro e w3 ⟨rfl, b3⟩
 have B3 := Lib.hid (alloc_below (.cells #[.string p, .string q, .int .i64 X] 64) (below_le B2.out b3))
 clear b3
 go_wp2
 go_ret2
 exact ⟨rfl, B3.out⟩
set_option maxRecDepth 100000 in
set_option maxHeartbeats 1000000 in
theorem tLiteral_c (s l p q r : ByteArray) (X : Int) (F : Nat) (w : World)
  (C2 : Hid (∀ W, Ct 66 #[.string s] (.string l) W))
  (C3 : Hid (∀ W, Ct 67 #[.string l] (.tuple #[.float .f64 0, .bool false]) W))
  (C4 : Hid (∀ W, Ct 68 #[.string l] (.tuple #[.agg #[.string p, .string q, .int .i64 X], .string r, .bool true]) W))
  (C5 : Hid (∀ W, Ct 69 #[.agg #[.string p, .string q, .int .i64 X]] (.float .f64 F) W))
  (t1 : r.toList.isEmpty = true) (t2 : decide (1 < (p.size : Int)) = false) :
  Ct 25 #[.string s] (.tuple #[.float .f64 F, .bool true]) w := by
 go_enter Tryz.func25, Tryz.ntmps25
 go_wp2_with fail
 refine (C2.out _).mono ?_
 rintro e w1 ⟨rfl, b1⟩
 have B1 := Lib.hid b1
 clear b1
 go_wp2_with fail
 refine (C3.out _).mono ?_
 rintro e w2 ⟨rfl, b2⟩
 have B2 := Lib.hid (below_le B1.out b2)
 clear b2
 go_wp2_with fail
 refine (C4.out _).mono ?_
 rintro e w3 ⟨rfl, b3⟩
 have B3 := Lib.hid (alloc_below (.cells #[.string p, .string q, .int .i64 X] 64) (below_le B2.out b3))
 clear b3
 go_wp2_with fail
 refine (C5.out _).mono ?_
 rintro e w4 ⟨rfl, b4⟩
 have B4 := Lib.hid (below_le B3.out b4)
 clear b4
 go_wp2
 go_ret2
 exact ⟨rfl, B4.out⟩
set_option maxRecDepth 100000 in
set_option maxHeartbeats 1000000 in
theorem tLiteral_d (s l p q r : ByteArray) (X : Int) (F : Nat) (w : World)
  (C2 : Hid (∀ W, Ct 66 #[.string s] (.string l) W))
  (C3 : Hid (∀ W, Ct 67 #[.string l] (.tuple #[.float .f64 0, .bool false]) W))
  (C4 : Hid (∀ W, Ct 68 #[.string l] (.tuple #[.agg #[.string p, .string q, .int .i64 X], .string r, .bool true]) W))
  (C5 : Hid (∀ W, Ct 69 #[.agg #[.string p, .string q, .int .i64 X]] (.float .f64 F) W))
  (t1 : r.toList.isEmpty = true) (t2 : decide (1 < (p.size : Int)) = true) (h0 : 0 < p.size) (t3 : (((p[0]'h0).toNat : Int) == 48) = false) :
  Ct 25 #[.string s] (.tuple #[.float .f64 F, .bool true]) w := by
 go_enter Tryz.func25, Tryz.ntmps25
 go_wp2_with fail
 refine (C2.out _).mono ?_
 rintro e w1 ⟨rfl, b1⟩
 have B1 := Lib.hid b1
 clear b1
 go_wp2_with fail
 refine (C3.out _).mono ?_
 rintro e w2 ⟨rfl, b2⟩
 have B2 := Lib.hid (below_le B1.out b2)
 clear b2
 go_wp2_with fail
 refine (C4.out _).mono ?_
 rintro e w3 ⟨rfl, b3⟩
 have B3 := Lib.hid (alloc_below (.cells #[.string p, .string q, .int .i64 X] 64) (below_le B2.out b3))
 clear b3
 go_wp2_with fail
 refine (C5.out _).mono ?_
 rintro e w4 ⟨rfl, b4⟩
 have B4 := Lib.hid (below_le B3.out b4)
 clear b4
 go_wp2
 go_ret2
 exact ⟨rfl, B4.out⟩
theorem head_at {l : List Nat} (hl : ∀ c ∈ l, c < 256) (h : 0 < (strOf l).size) : l.head? = some ((strOf l)[0]'h).toNat := by
 have h1 := bl_get (strOf l) 0 h
 rw [bl_strOf hl] at h1
 rw [List.head?_eq_getElem?]
 exact h1
theorem tLiteral_any (s : ByteArray) (w : World) (hs : s.size ≤ 140737488355328) :
  Ct 25 #[.string s] (.tuple #[.float .f64 (litV (nrw 0 (us s))), .bool (litB (nrw 0 (us s)))]) w := by
 have hl := nrw_lt (z := 0) (by omega) (us s)
 have hln := nrw_size (s := s) hs
 obtain ⟨l, hll⟩ : ∃ l, nrw 0 (us s) = l := ⟨_, rfl⟩
 have C2 := fun W => tnarrow_any s W hs
 rw [hll] at C2 hl hln ⊢
 have hb : ∀ c ∈ l, c < 256 := fun c hc => Nat.lt_trans (hl c hc) (by omega)
 have C3 := fun W => thexadecimal_any l W hl hln
 unfold litV
 rw [lit_eq]
 cases hx : hxB l
 ·rw [hx] at C3
  simp only [Bool.false_eq_true, if_false] at C3
  simp only [Bool.false_eq_true, if_false, Bool.false_or]
  cases hd : dB l
  ·simp only [Bool.false_and, Bool.false_eq_true, if_false]
   exact tLiteral_none _ _ w (Lib.hid C2) (Lib.hid C3) (Lib.hid (fun W => tcutDecimal_no (strOf l) W (by rw [strOf_size]; omega) (by rw [bl_strOf hb]; exact hd)))
  ·have C4 : ∀ W, Ct 68 #[.string (strOf l)] (.tuple #[.agg #[.string (strOf (dW l)), .string (strOf (dF l)), .int .i64 (dX l)], .string (strOf (dR l)), .bool true]) W := by
    intro W
    have := tcutDecimal_yes (strOf l) W (by rw [strOf_size]; omega) (by rw [bl_strOf hb]; exact hd)
    rw [bl_strOf hb] at this
    exact this
   have C5 := fun W => tfloat_dec l W (by omega)
   have hWb : ∀ c ∈ dW l, c < 256 := fun c hc => hb c (run_sub c hc)
   have hsz := strOf_size (dW l)
   rw [Bool.true_and]
   by_cases hr : dR l = []
   ·rw [hr, List.isEmpty_nil, Bool.true_and]
    rw [hr] at C4
    by_cases h1 : 1 < (dW l).length
    ·have h0 : 0 < (strOf (dW l)).size := by omega
     have hh := head_at hWb h0
     cases ho : octB l
     ·simp only [Bool.not_false, if_true]
      refine tLiteral_d _ _ _ _ _ _ _ w (Lib.hid C2) (Lib.hid C3) (Lib.hid C4) (Lib.hid C5) em_str (decide_eq_true (by omega)) h0 ?_
      rw [beq_eq_false_iff_ne]
      intro e
      have : octB l = true := (oct_whole l).2 ⟨h1, by rw [hh]; congr 1; omega⟩
      rw [ho] at this
      cases this
     ·simp only [Bool.not_true, Bool.false_eq_true, if_false]
      have h2 := ((oct_whole l).1 ho).2
      refine tLiteral_b _ _ _ _ _ _ w (Lib.hid C2) (Lib.hid C3) (Lib.hid C4) em_str (decide_eq_true (by omega)) h0 ?_
      rw [hh] at h2
      have := Option.some.inj h2
      rw [beq_iff_eq]
      omega
    ·have ho : octB l = false := by
      cases h : octB l
      ·rfl
      ·exact absurd ((oct_whole l).1 h).1 h1
     rw [ho]
     simp only [Bool.not_false, if_true]
     exact tLiteral_c _ _ _ _ _ _ _ w (Lib.hid C2) (Lib.hid C3) (Lib.hid C4) (Lib.hid C5) em_str (decide_eq_false (by omega))
   ·have he : (dR l).isEmpty = false := by
     cases h : dR l with
     | nil => exact absurd h hr
     | cons => rfl
    rw [he]
    simp only [Bool.false_and, Bool.false_eq_true, if_false]
    exact tLiteral_a _ _ _ _ _ _ w (Lib.hid C2) (Lib.hid C3) (Lib.hid C4) (str_ne hr).2
 ·rw [hx] at C3
  simp only [if_true] at C3
  simp only [if_true, Bool.true_or]
  exact tLiteral_hex _ _ _ w (Lib.hid C2) (Lib.hid C3)

end Go.Proofs.YtfcpkdafkmohkaaGreatDoor
namespace Go.Proofs.YtfcpkdafkmohkaaGreatDoor
open Go.RowKit
theorem sgW_f (r : Nat) : sgW false r = r := rfl
end Go.Proofs.YtfcpkdafkmohkaaGreatDoor
namespace Go.Proofs.YtfcpkdafkmohkaaGreatDoor
open Go.RowKit
theorem repL_one : ∀ c : Nat, (Lib.repeatL [48] c).map UInt8.toNat = List.replicate c 48
 | 0 => rfl
 | c + 1 => by
  rw [List.replicate_succ, ← repL_one c]
  rfl
theorem trepeat_any (c : Nat) (w : World) (hc : c ≤ 140737488355328) : Ct 106 #[.string ⟨#[48]⟩, .int .i64 c] (.string (strOf (List.replicate c 48))) w := by
 have h := Tryz.strings_Repeat ⟨#[48]⟩ c w (by omega) (by show 1 * c ≤ _; omega)
 have e : (⟨(Lib.repeatL (⟨#[48]⟩ : ByteArray).data.toList c).toArray⟩ : ByteArray) = strOf (List.replicate c 48) := str_eq (repL_one c)
 rw [e] at h
 exact h
def ptL (l : List Nat) (last : Nat) : List Nat :=
 if last = 0 then l else (List.replicate (last + 1 - l.length) 48 ++ l).take (last + 1 - l.length + l.length - last) ++ 46 :: (List.replicate (last + 1 - l.length) 48 ++ l).drop (last + 1 - l.length + l.length - last)
theorem tpointed_zero (s : ByteArray) (w : World) : Cq 55 #[.string s, .int .i64 0] (.string s) w := by
 go_enter Tryz.func55, Tryz.ntmps55
 go_wp2
 go_ret
 exact ⟨rfl, rfl⟩
set_option maxRecDepth 100000 in
set_option maxHeartbeats 1000000 in
theorem tpointed_walk (s Z E F : ByteArray) (N M z last at' : Nat) (w : World) (h0 : 0 < last) (hlast : last ≤ 1000) (hN : s.size = N) (hN2 : N ≤ 1000000) (hz : max ((last : Int) + 1 - (N : Int)) 0 = (z : Int)) (hZ : Z.size = z) (hE : Z ++ s = E) (hM : E.size = M) (hzM : z + N = M)
  (hat : M - last = at') (hlM : last < M) (hF : Hid (E.extract 0 at' ++ ⟨#[46]⟩ ++ E.extract at' M = F))
  (CR : Hid (∀ W, Ct 106 #[.string ⟨#[48]⟩, .int .i64 z] (.string Z) W)) :
  Ct 55 #[.string s, .int .i64 last] (.string F) w := by
 have t0 : ((last : Int) == 0) = false := by rw [beq_eq_false_iff_ne]; omega
 have hs1 : ¬ 9223372036854775807 < Z.size + s.size := by omega
 have k1 : (at' : Int) ≤ (M : Int) := by omega
 have k2 : (0 : Int) ≤ (at' : Int) := by omega
 have k3 : (M : Int) - (last : Int) = (at' : Int) := by omega
 have k4 : (M : Int) ≤ 2000000 := by omega
 go_enter Tryz.func55, Tryz.ntmps55
 go_wp2_with fail
 refine (CR.out _).mono ?_
 rintro e w1 ⟨rfl, b1⟩
 have B1 := Lib.hid b1
 clear b1
 go_wp2_with fail
 clear hE hN hN2 hz hZ hs1 hlast
 go_quiet (fail)
 go_wp2
 go_ret
 exact ⟨congrArg (fun z => Ending.returned (.string z)) hF.out, below_drewN' B1.out _⟩
theorem dot_str : (⟨#[46]⟩ : ByteArray) = strOf [46] := rfl
theorem ptL_len (l : List Nat) (last : Nat) (h : last ≠ 0) : (ptL l last).length = max (last + 1) l.length + 1 := by
 unfold ptL
 rw [if_neg h]
 simp
 omega
theorem mem_rep {l : List Nat} {z : Nat} (h : ∀ c ∈ l, c < 256) : ∀ c ∈ List.replicate z 48 ++ l, c < 256 := by
 intro c hc
 rw [List.mem_append, List.mem_replicate] at hc
 rcases hc with ⟨_, rfl⟩ | hc
 ·omega
 ·exact h c hc
theorem tpointed_any (l : List Nat) (last : Nat) (w : World) (hl : ∀ c ∈ l, c < 256) (hn : l.length ≤ 100000) (hlast : last ≤ 1000) :
  Ct 55 #[.string (strOf l), .int .i64 last] (.string (strOf (ptL l last))) w := by
 rcases Nat.eq_zero_or_pos last with h0 | h0
 ·subst h0
  refine (tpointed_zero (strOf l) w).mono ?_
  rintro e w' ⟨rfl, rfl⟩
  exact ⟨rfl, Below.refl _ _⟩
 ·obtain ⟨z, hz⟩ : ∃ z, last + 1 - l.length = z := ⟨_, rfl⟩
  have hE : strOf (List.replicate z 48) ++ strOf l = strOf (List.replicate z 48 ++ l) := strOf_append _ _
  have hb := bl_strOf (mem_rep (z := z) hl)
  have hM : (strOf (List.replicate z 48 ++ l)).size = z + l.length := by rw [strOf_size, List.length_append, List.length_replicate]
  refine tpointed_walk (strOf l) (strOf (List.replicate z 48)) _ _ l.length (z + l.length) z last _ w h0 hlast (strOf_size _) (by omega) (by omega) (by rw [strOf_size, List.length_replicate]) hE hM rfl rfl (by omega) (Lib.hid ?_) (Lib.hid fun W => trepeat_any z W (by omega))
  rw [ext_take, show z + l.length = (strOf (List.replicate z 48 ++ l)).size from hM.symm, ext_drop, hb, dot_str, strOf_append, strOf_append, hM]
  unfold ptL
  rw [if_neg (by omega), hz, List.append_assoc, List.singleton_append]
def mnL (l : List Nat) : List Nat := if l.length ≤ 1 then l else l.take 1 ++ 46 :: l.drop 1
def sgL (e : Int) : List Nat := if e < 0 then [101, 45] else [101, 43]
def scL (l : List Nat) (e : Int) : List Nat := mnL l ++ sgL e ++ dL e.natAbs
theorem titoa_any (k : Nat) (w : World) (hk : k ≤ 9223372036854775807) (ht : Tab10 w) : Ct 126 #[.int .i64 k] (.string (strOf (dL k))) w := by
 refine (Tryz.strconv_Itoa (k : Int) (by omega) (by omega) w ht).mono ?_
 rintro e w' ⟨rfl, a, os, rfl⟩
 refine ⟨?_, Lib.below_grow _ _ (Nat.le_refl _) _ _⟩
 rw [Lib.itoa_nonneg]
 exact congrArg (fun z => Ending.returned (.string z)) (str_eq rfl)
set_option maxRecDepth 100000 in
set_option maxHeartbeats 1000000 in
theorem tscientific_00 (s Y G I F : ByteArray) (N k : Nat) (E : Int) (w : World) (hN : s.size = N) (hk : k ≤ 100000) (hE : E = (k : Int)) (hN1 : N = 1)
  (hY : Hid (s = Y)) (hYs : Hid (Y.size ≤ 1000001)) (hG : Hid (Y ++ ⟨#[101, 43]⟩ = G)) (hGs : Hid (G.size ≤ 1000003)) (hIs : Hid (I.size ≤ 100)) (hF : Hid (G ++ I = F))
  (CI : Hid (∀ W, Below w.heap.size w W → Ct 126 #[.int .i64 k] (.string I) W)) :
  Ct 59 #[.string s, .int .i64 E] (.string F) w := by
 subst hE
 have t0 : ¬ (k : Int) < 0 := by omega
 have t1 : decide ((1 : Int) < (N : Int)) = false := decide_eq_false (by omega)
 have g1 : ¬ 9223372036854775807 < N + 2 := by omega
 have G1 := hG.out
 clear hN1
 have hY' := hY.out
 subst hY'
 go_enter Tryz.func59, Tryz.ntmps59
 have B1 := Lib.hid (Below.refl w.heap.size w)
 have g2 : ¬ 9223372036854775807 < G.size + I.size := by have := hGs.out; have := hIs.out; omega
 have F1 := hF.out
 go_wp2_with fail
 refine (CI.out _ B1.out).mono ?_
 rintro e w2 ⟨rfl, b2⟩
 have B2 := Lib.hid (below_le B1.out b2)
 clear b2
 go_wp2
 go_ret
 exact ⟨rfl, B2.out⟩
set_option maxRecDepth 100000 in
set_option maxHeartbeats 1000000 in
theorem tscientific_01 (s Y G I F : ByteArray) (N k : Nat) (E : Int) (w : World) (hN : s.size = N) (hN2 : N ≤ 1000000) (hk : k ≤ 100000) (hE : E = (k : Int)) (hN1 : 1 < N)
  (hY : Hid (s.extract 0 1 ++ ⟨#[46]⟩ ++ s.extract 1 N = Y)) (hYs : Hid (Y.size ≤ 1000001)) (hG : Hid (Y ++ ⟨#[101, 43]⟩ = G)) (hGs : Hid (G.size ≤ 1000003)) (hIs : Hid (I.size ≤ 100)) (hF : Hid (G ++ I = F))
  (CI : Hid (∀ W, Below w.heap.size w W → Ct 126 #[.int .i64 k] (.string I) W)) :
  Ct 59 #[.string s, .int .i64 E] (.string F) w := by
 subst hE
 have t0 : ¬ (k : Int) < 0 := by omega
 have t1 : (1 : Int) < (N : Int) := by omega
 have k4 : (N : Int) ≤ 1000000 := by omega
 clear hN1 hN2 
 go_enter Tryz.func59, Tryz.ntmps59
 go_wp2
 go_quiet (fail)
 have hY' := hY.out
 rw [hY']
 clear hY'
 rename_i nq
 have B1 := Lib.hid (below_drewN' (Below.refl w.heap.size w) nq)
 have g1 : ¬ 9223372036854775807 < Y.size + 2 := by have := hYs.out; omega
 have g2 : ¬ 9223372036854775807 < G.size + I.size := by have := hGs.out; have := hIs.out; omega
 have G2 := hG.out
 have F1 := hF.out
 go_wp2_with fail
 refine (CI.out _ B1.out).mono ?_
 rintro e w2 ⟨rfl, b2⟩
 have B2 := Lib.hid (below_le B1.out b2)
 clear b2
 go_wp2
 go_ret
 exact ⟨rfl, B2.out⟩
set_option maxRecDepth 100000 in
set_option maxHeartbeats 1000000 in
theorem tscientific_10 (s Y G I F : ByteArray) (N k : Nat) (E : Int) (w : World) (hN : s.size = N) (hk : k ≤ 100000) (hE : -E = (k : Int)) (h0 : 0 < k) (hN1 : N = 1)
  (hY : Hid (s = Y)) (hYs : Hid (Y.size ≤ 1000001)) (hG : Hid (Y ++ ⟨#[101, 45]⟩ = G)) (hGs : Hid (G.size ≤ 1000003)) (hIs : Hid (I.size ≤ 100)) (hF : Hid (G ++ I = F))
  (CI : Hid (∀ W, Below w.heap.size w W → Ct 126 #[.int .i64 k] (.string I) W)) :
  Ct 59 #[.string s, .int .i64 E] (.string F) w := by
 have t0 : E < 0 := by omega
 have t3 : -100000 ≤ E := by omega
 have t1 : decide ((1 : Int) < (N : Int)) = false := decide_eq_false (by omega)
 have g1 : ¬ 9223372036854775807 < N + 2 := by omega
 have G1 := hG.out
 clear hN1 h0
 have hY' := hY.out
 subst hY'
 go_enter Tryz.func59, Tryz.ntmps59
 have B1 := Lib.hid (Below.refl w.heap.size w)
 have g2 : ¬ 9223372036854775807 < G.size + I.size := by have := hGs.out; have := hIs.out; omega
 have F1 := hF.out
 go_wp2_with fail
 refine (CI.out _ B1.out).mono ?_
 rintro e w2 ⟨rfl, b2⟩
 have B2 := Lib.hid (below_le B1.out b2)
 clear b2
 go_wp2
 go_ret
 exact ⟨rfl, B2.out⟩
set_option maxRecDepth 100000 in
set_option maxHeartbeats 1000000 in
theorem tscientific_11 (s Y G I F : ByteArray) (N k : Nat) (E : Int) (w : World) (hN : s.size = N) (hN2 : N ≤ 1000000) (hk : k ≤ 100000) (hE : -E = (k : Int)) (h0 : 0 < k) (hN1 : 1 < N)
  (hY : Hid (s.extract 0 1 ++ ⟨#[46]⟩ ++ s.extract 1 N = Y)) (hYs : Hid (Y.size ≤ 1000001)) (hG : Hid (Y ++ ⟨#[101, 45]⟩ = G)) (hGs : Hid (G.size ≤ 1000003)) (hIs : Hid (I.size ≤ 100)) (hF : Hid (G ++ I = F))
  (CI : Hid (∀ W, Below w.heap.size w W → Ct 126 #[.int .i64 k] (.string I) W)) :
  Ct 59 #[.string s, .int .i64 E] (.string F) w := by
 have t0 : E < 0 := by omega
 have t3 : -100000 ≤ E := by omega
 have t1 : (1 : Int) < (N : Int) := by omega
 have k4 : (N : Int) ≤ 1000000 := by omega
 clear hN1 hN2 h0
 go_enter Tryz.func59, Tryz.ntmps59
 go_wp2
 go_quiet (fail)
 have hY' := hY.out
 rw [hY']
 clear hY'
 rename_i nq
 have B1 := Lib.hid (below_drewN' (Below.refl w.heap.size w) nq)
 have g1 : ¬ 9223372036854775807 < Y.size + 2 := by have := hYs.out; omega
 have g2 : ¬ 9223372036854775807 < G.size + I.size := by have := hGs.out; have := hIs.out; omega
 have G2 := hG.out
 have F1 := hF.out
 go_wp2_with fail
 refine (CI.out _ B1.out).mono ?_
 rintro e w2 ⟨rfl, b2⟩
 have B2 := Lib.hid (below_le B1.out b2)
 clear b2
 go_wp2
 go_ret
 exact ⟨rfl, B2.out⟩
theorem mnL_lt {l : List Nat} (hl : ∀ c ∈ l, c < 256) : ∀ c ∈ mnL l, c < 256 := by
 intro c hc
 unfold mnL at hc
 split at hc
 ·exact hl c hc
 ·rw [List.mem_append, List.mem_cons] at hc
  rcases hc with hc | rfl | hc
  ·exact hl c (List.mem_of_mem_take hc)
  ·omega
  ·exact hl c (List.mem_of_mem_drop hc)
theorem mnL_len (l : List Nat) : (mnL l).length ≤ l.length + 1 := by
 unfold mnL
 split
 ·omega
 ·simp
  omega
theorem dL_le {n k : Nat} (h : n < 10 ^ k) (hk : 0 < k) : (dL n).length ≤ k := by
 rcases Nat.eq_zero_or_pos n with h0 | h0
 ·rw [h0, dL_small (by omega)]
  simp
  omega
 ·have := ten_lt (Nat.lt_of_le_of_lt (dL_ge h0) h)
  omega
theorem tscientific_any (l : List Nat) (E : Int) (w : World) (hl : ∀ c ∈ l, c < 256) (hn0 : 1 ≤ l.length) (hn : l.length ≤ 1000000) (h1 : -100000 ≤ E) (h2 : E ≤ 100000) (ht : Tab10 w) :
  Ct 59 #[.string (strOf l), .int .i64 E] (.string (strOf (scL l E))) w := by
 obtain ⟨k, hk⟩ : ∃ k, E.natAbs = k := ⟨_, rfl⟩
 have hI : (strOf (dL k)).size ≤ 100 := by
  rw [strOf_size]
  exact Nat.le_trans (dL_le (k := 6) (by omega) (by omega)) (by omega)
 have hY : (strOf (mnL l)).size ≤ 1000001 := by rw [strOf_size]; have := mnL_len l; omega
 have hG : (strOf (mnL l ++ sgL E)).size ≤ 1000003 := by
  rw [strOf_size, List.length_append]
  have := mnL_len l
  have : (sgL E).length = 2 := by unfold sgL; split <;> rfl
  omega
 have hF : strOf (mnL l ++ sgL E) ++ strOf (dL k) = strOf (scL l E) := by rw [strOf_append, ← hk]; rfl
 have CI := Lib.hid (fun W (hW : Below w.heap.size w W) => titoa_any k W (by omega) (ht.on hW))
 have hb := bl_strOf hl
 have hsz := strOf_size l
 have hYY : ¬ l.length ≤ 1 → (strOf l).extract 0 1 ++ ⟨#[46]⟩ ++ (strOf l).extract 1 l.length = strOf (mnL l) := by
  intro h
  rw [ext_take, ← hsz, ext_drop, hb, dot_str, strOf_append, strOf_append]
  unfold mnL
  rw [if_neg h, List.append_assoc, List.singleton_append]
 have hY1 : l.length ≤ 1 → strOf l = strOf (mnL l) := by
  intro h
  unfold mnL
  rw [if_pos h]
 by_cases hE : E < 0
 ·have hs : strOf (mnL l) ++ (⟨#[101, 45]⟩ : ByteArray) = strOf (mnL l ++ sgL E) := by
   unfold sgL
   rw [if_pos hE, ← strOf_append]
   rfl
  by_cases hL : l.length ≤ 1
  ·exact tscientific_10 _ _ _ _ _ l.length k E w hsz (by omega) (by omega) (by omega) (by omega) (Lib.hid (hY1 hL)) (Lib.hid hY) (Lib.hid hs) (Lib.hid hG) (Lib.hid hI) (Lib.hid hF) CI
  ·exact tscientific_11 _ _ _ _ _ l.length k E w hsz hn (by omega) (by omega) (by omega) (by omega) (Lib.hid (hYY hL)) (Lib.hid hY) (Lib.hid hs) (Lib.hid hG) (Lib.hid hI) (Lib.hid hF) CI
 ·have hs : strOf (mnL l) ++ (⟨#[101, 43]⟩ : ByteArray) = strOf (mnL l ++ sgL E) := by
   unfold sgL
   rw [if_neg hE, ← strOf_append]
   rfl
  by_cases hL : l.length ≤ 1
  ·exact tscientific_00 _ _ _ _ _ l.length k E w hsz (by omega) (by omega) (by omega) (Lib.hid (hY1 hL)) (Lib.hid hY) (Lib.hid hs) (Lib.hid hG) (Lib.hid hI) (Lib.hid hF) CI
  ·exact tscientific_01 _ _ _ _ _ l.length k E w hsz hn (by omega) (by omega) (by omega) (Lib.hid (hYY hL)) (Lib.hid hY) (Lib.hid hs) (Lib.hid hG) (Lib.hid hI) (Lib.hid hF) CI

end Go.Proofs.YtfcpkdafkmohkaaGreatDoor
namespace Go.Proofs.YtfcpkdafkmohkaaGreatDoor
open Go.RowKit
theorem cut_zero (s : Bool) (n d : Nat) : Ieee.Toward.zero.cut s n d = n / 2 ^ d := by
 unfold Ieee.Toward.cut
 simp only
 rw [Nat.one_shiftLeft]
 show n / 2 ^ min d (n.log2 + 2) + 0 = _
 rw [Nat.add_zero]
 by_cases hm : d ≤ n.log2 + 2
 ·rw [Nat.min_eq_left hm]
 ·rw [Nat.min_eq_right (by omega)]
  have hlt : n < 2 ^ (n.log2 + 2) := by
   rcases Nat.eq_zero_or_pos n with h0 | h0
   ·rw [h0]; exact Nat.two_pow_pos _
   ·have := (log2_two n h0).2
    have h9 : 2 ^ (n.log2 + 1) ≤ 2 ^ (n.log2 + 2) := Nat.pow_le_pow_right (by omega) (by omega)
    omega
  have hlt2 : n < 2 ^ d := Nat.lt_of_lt_of_le hlt (Nat.pow_le_pow_right (by omega) (by omega))
  rw [Nat.div_eq_of_lt hlt, Nat.div_eq_of_lt hlt2]
theorem toInt_pos {r : Nat} (hr : r < 9218868437227405312) : (FloatKind.f64.decode r).toInt .zero = some ((fmag r / big : Nat) : Int) := by
 obtain ⟨K, hK, hb⟩ := big_K
 obtain ⟨m, e, h1, h2, h3⟩ := read_pos hr
 rw [show FloatKind.f64.decode r = Ieee.double.read r from rfl, h1]
 unfold Ieee.Datum.toInt Ieee.Datum.integral
 simp only [cut_zero, signed_eq, Nat.pow_zero, Nat.mul_one]
 have hq : (m <<< e.toNat) / 2 ^ (-e).toNat = fmag r / big := by
  rw [hb]
  have hA : fmag r * 2 ^ (-e).toNat = (m <<< e.toNat) * 2 ^ K := by
   rw [h3, Nat.shiftLeft_eq, Nat.mul_assoc, Nat.mul_assoc, ← Nat.pow_add, ← Nat.pow_add, show (e + 1074).toNat + (-e).toNat = e.toNat + K by omega]
  rw [← Nat.mul_div_mul_right (m <<< e.toNat) (2 ^ (-e).toNat) (Nat.two_pow_pos K), ← hA, Nat.mul_comm (2 ^ (-e).toNat), Nat.mul_div_mul_right _ _ (Nat.two_pow_pos _)]
 rw [hq]
 rfl
theorem conv_u64 {x T : Nat} (hx : x < 9218868437227405312) (hT : fmag x / big = T) (h : T < 9223372036854775808) (W : World) : (convert 22 71 (.float .f64 x)).run Tryz.prog W = .ok (.int .u64 (T : Int)) W := by
 refine run_convert_float_int W 22 71 .f64 .u64 _ _ (by kernel_rfl) (by kernel_rfl) ?_
 unfold floatToIntVal
 rw [toInt_pos hx, hT]
 simp only
 have m1 : IntKind.u64.min = 0 := rfl
 have m2 : IntKind.u64.max = 18446744073709551615 := rfl
 rw [if_pos (by rw [m1, m2]; omega)]
theorem frank_pos {x : Nat} (h : x ≤ 9218868437227405312) : frank x = (x : Int) ∧ rung x = x := by
 have h1 : rung x = x := by unfold rung; omega
 have h2 : fneg x = false := by unfold fneg; rw [show x / 9223372036854775808 % 2 = 0 by omega]; rfl
 refine ⟨?_, h1⟩
 unfold frank
 rw [h2, h1]
 rfl
theorem ord_lt_pos {x y : Nat} (hx : x ≤ 9218868437227405312) (hy : y ≤ 9218868437227405312) : (FloatKind.f64.format.order x y == some .lt) = decide (x < y) := by
 obtain ⟨a1, a2⟩ := frank_pos hx
 obtain ⟨b1, b2⟩ := frank_pos hy
 rw [show FloatKind.f64.format.order x y = Ieee.double.order x y from rfl, order_eq (by omega) (by omega), a1, b1, Bool.eq_iff_iff, beq_iff_eq, decide_eq_true_iff]
 rw [Option.some.injEq, Int.compare_eq_lt]
 omega
theorem ord_eq_pos {x y : Nat} (hx : x ≤ 9218868437227405312) (hy : y ≤ 9218868437227405312) : (FloatKind.f64.format.order x y == some .eq) = decide (x = y) := by
 obtain ⟨a1, a2⟩ := frank_pos hx
 obtain ⟨b1, b2⟩ := frank_pos hy
 rw [show FloatKind.f64.format.order x y = Ieee.double.order x y from rfl, order_eq (by omega) (by omega), a1, b1, Bool.eq_iff_iff, beq_iff_eq, decide_eq_true_iff]
 rw [Option.some.injEq, Int.compare_eq_eq]
 omega
theorem trunc_lt {x : Nat} (h : x < 4845873199050653696) : fmag x / big < 9007199254740992 := by
 obtain ⟨K, hK, hb⟩ := big_K
 obtain ⟨J, hJ⟩ : ∃ J : Nat, J = 1075 := ⟨_, rfl⟩
 have h2 := fmag_make 4503599627370496 J (by omega) (by omega)
 rw [hJ, show 1075 * 4503599627370496 + 4503599627370496 = 4845873199050653696 from rfl, ← hJ] at h2
 have h1 := fmag_lt.2 h
 rw [Nat.div_lt_iff_lt_mul big_pos, hb]
 rw [h2, show J = 1 + K by omega, Nat.pow_add, ← Nat.mul_assoc] at h1
 exact h1
theorem float_whole {x T : Nat} (hx : x < 9218868437227405312) (hT : T < 9007199254740992) : (FloatKind.f64.format.order x (fl T) == some .eq) = decide (fmag x = T * big) := by
 obtain ⟨K, hK, hb⟩ := big_K
 obtain ⟨f1, f2⟩ := fmag_fl hT hK
 rw [ord_eq_pos (by omega) (by omega), hb, ← f1]
 refine decide_eq_decide.2 ⟨fun h => by rw [h], fun h => fmag_inj h⟩

end Go.Proofs.YtfcpkdafkmohkaaGreatDoor
namespace Go.Proofs.YtfcpkdafkmohkaaGreatDoor
open Go.RowKit
set_option maxRecDepth 100000 in
theorem tscaled_walk {w : World} {A : Option Addr} {n c m T B : Nat} {two ten t : Int} {Q : World → Ending → World → Prop} (hA : NV w A n c m)
  (C1 : Hid (∀ W, NV W A n c m → Cp 185 #[.slice A n c, .int .i64 ten] W (NRet T W)))
  (C3 : Hid (∀ W A1 n1 c1, NV W A1 n1 c1 1 → Cp 185 #[.slice A1 n1 c1, .int .i64 (-ten)] W (NRet B W)))
  (C6 : Hid (∀ W A1 n1 c1 A2 n2 c2, NV W A1 n1 c1 T → NV W A2 n2 c2 B → Cp 109 #[.slice A1 n1 c1, .slice A2 n2 c2, .int .i64 t] W fun e w' => ∃ v b, e = .returned (.tuple #[v, .bool b]) ∧ Q W e w'))
  (k1 : IntKind.i64.wrap (-ten) = -ten) (k2 : IntKind.i64.wrap (two + ten) = t) :
  Cp 123 #[.slice A n c, .int .i64 two, .int .i64 ten] w fun e w' => ∃ W, Q W e w' ∧ Below w.heap.size w W := by
 have C2 := Lib.hid (fun W => nof 1 (by omega) W)
 have HA := Lib.hid hA
 clear hA
 go_enter Tryz.func123, Tryz.ntmps123
 go_wp2_with fail
 refine (C1.out _ HA.out).mono ?_
 rintro e w1 ⟨A1, n1, c1, rfl, g1, b1⟩
 have G1 := Lib.hid g1
 have B1 := Lib.hid b1
 clear g1 b1
 go_wp2_with fail
 refine (C2.out _).mono ?_
 rintro e w2 ⟨A2, n2, c2, rfl, g2, b2⟩
 have G2 := Lib.hid g2
 have G1' := Lib.hid (G1.out.step b2)
 have B2 := Lib.hid (below_le B1.out b2)
 clear g2 b2
 go_wp2_with fail
 refine (C3.out _ _ _ _ G2.out).mono ?_
 rintro e w3 ⟨A3, n3, c3, rfl, g3, b3⟩
 have G3 := Lib.hid g3
 have G1'' := Lib.hid (G1'.out.step b3)
 have B3 := Lib.hid (below_le B2.out b3)
 clear g3 b3
 go_wp2_with fail
 refine (C6.out _ _ _ _ _ _ _ G1''.out G3.out).mono ?_
 rintro e w4 ⟨v, b, rfl, q4⟩
 have Q4 := Lib.hid q4
 clear q4
 go_wp2
 go_ret2
 exact ⟨_, Q4.out, B3.out⟩
def scA (m : Nat) (two ten : Int) : Nat := m * 5 ^ ten.toNat * 2 ^ (two + ten).toNat
def scB (two ten : Int) : Nat := 5 ^ (-ten).toNat * 2 ^ (-(two + ten)).toNat
theorem scB_pos (two ten : Int) : 0 < scB two ten := Nat.mul_pos (Nat.pow_pos (by omega)) (two_pos _)
theorem tscaled_any {w : World} {A : Option Addr} {n c m : Nat} (two ten : Int) (hA : NV w A n c m) (hm : bln m ≤ 2000) (h1 : -1000 ≤ ten) (h2 : ten ≤ 1000) (h3 : -3000 ≤ two) (h4 : two ≤ 3000) :
  Cp 123 #[.slice A n c, .int .i64 two, .int .i64 ten] w (QRet (scA m two ten) (scB two ten) w) := by
 have f1 := bln_five ten.toNat
 have f2 := bln_five (-ten).toNat
 have g1 := bln_mul m (5 ^ ten.toNat)
 have p2 : 0 < 5 ^ (-ten).toNat := Nat.pow_pos (by omega)
 have C1 := Lib.hid (fun W (h : NV W A n c m) => traised_any ten h (by omega) (by omega) (by omega))
 have C3 : Hid (∀ W A1 n1 c1, NV W A1 n1 c1 1 → Cp 185 #[.slice A1 n1 c1, .int .i64 (-ten)] W (NRet (5 ^ (-ten).toNat) W)) := Lib.hid (fun W A1 n1 c1 h => by
  have := traised_any (-ten) h (by rw [show bln 1 = 1 by decide]; omega) (by omega) (by omega)
  rw [Nat.one_mul] at this
  exact this)
 have C6 : Hid (∀ W A1 n1 c1 A2 n2 c2, NV W A1 n1 c1 (m * 5 ^ ten.toNat) → NV W A2 n2 c2 (5 ^ (-ten).toNat) → Cp 109 #[.slice A1 n1 c1, .slice A2 n2 c2, .int .i64 (two + ten)] W fun e w' => ∃ v b, e = .returned (.tuple #[v, .bool b]) ∧ QRet (scA m two ten) (scB two ten) W e w') := Lib.hid (fun W A1 n1 c1 A2 n2 c2 h g => (tratio_any (two + ten) h g (by omega) (by omega) p2 (by omega) (by omega)).mono (by
  rintro e w' ⟨A3, n3, c3, rfl, hv, hb⟩
  exact ⟨_, _, rfl, A3, n3, c3, rfl, hv, hb⟩))
 refine (tscaled_walk hA C1 C3 C6 (IntWalk.i64_in _ (by omega)) (IntWalk.i64_in _ (by omega))).mono ?_
 rintro e w' ⟨W, ⟨A3, n3, c3, rfl, hv, hb⟩, hw⟩
 exact ⟨A3, n3, c3, rfl, hv, below_le hw hb⟩

end Go.Proofs.YtfcpkdafkmohkaaGreatDoor
namespace Go.Proofs.YtfcpkdafkmohkaaGreatDoor
open Go.RowKit
theorem sc_le (m : Nat) (two n : Int) : scB two (-n) ≤ scA m two (-n) ↔ le10 n (m * 2 ^ two.toNat) (2 ^ (-two).toNat) := by
 unfold le10 scA scB
 obtain ⟨a, ha⟩ : ∃ a, two.toNat = a := ⟨_, rfl⟩
 obtain ⟨b, hb⟩ : ∃ b, (-two).toNat = b := ⟨_, rfl⟩
 obtain ⟨c, hc⟩ : ∃ c, n.toNat = c := ⟨_, rfl⟩
 obtain ⟨d, hd⟩ : ∃ d, (-n).toNat = d := ⟨_, rfl⟩
 obtain ⟨p, hp⟩ : ∃ p, (two + -n).toNat = p := ⟨_, rfl⟩
 obtain ⟨q, hq⟩ : ∃ q, (-(two + -n)).toNat = q := ⟨_, rfl⟩
 rw [ha, hb, hc, hd, hp, hq, show (- -n).toNat = c by omega]
 have e : 2 ^ q * (2 ^ a * 2 ^ d) = 2 ^ p * (2 ^ b * 2 ^ c) := by
  rw [← Nat.pow_add, ← Nat.pow_add, ← Nat.pow_add, ← Nat.pow_add]
  exact congrArg (fun k => 2 ^ k) (by omega)
 have t1 : (10 : Nat) ^ c = 5 ^ c * 2 ^ c := by rw [← Nat.mul_pow]
 have t2 : (10 : Nat) ^ d = 5 ^ d * 2 ^ d := by rw [← Nat.mul_pow]
 rw [t1, t2]
 have hq0 := two_pos q
 have hbc : 0 < 2 ^ b * 2 ^ c := Nat.mul_pos (two_pos b) (two_pos c)
 generalize 2 ^ q = Q at *
 generalize 2 ^ a = A at *
 generalize 2 ^ d = D at *
 generalize 2 ^ p = P at *
 generalize 2 ^ b = B at *
 generalize 2 ^ c = C at *
 generalize 5 ^ c = F at *
 generalize 5 ^ d = G at *
 have r1 : B * (F * C) * Q = F * Q * (B * C) := by grind
 have r2 : m * A * (G * D) * Q = m * G * (Q * (A * D)) := by grind
 have r3 : m * G * P * (B * C) = m * G * (P * (B * C)) := by grind
 constructor
 ·intro h
  refine Nat.le_of_mul_le_mul_right ?_ hq0
  rw [r1, r2, e, ← r3]
  exact Nat.mul_le_mul_right _ h
 ·intro h
  refine Nat.le_of_mul_le_mul_right ?_ hbc
  have := Nat.mul_le_mul_right Q h
  rw [r1, r2, e, ← r3] at this
  exact this
set_option maxRecDepth 100000 in
set_option maxHeartbeats 1000000 in
theorem tpoint_walk {w : World} {A : Option Addr} {n c m bt V : Nat} {two x1 x2 x3 x4 x5 n1 : Int} (hA : NV w A n c m) (up : Bool)
  (C1 : Hid (∀ W, NV W A n c m → Cq 156 #[.slice A n c] (.int .i64 (bt : Nat)) W))
  (C2 : Hid (∀ W, NV W A n c m → Cp 123 #[.slice A n c, .int .i64 two, .int .i64 (-n1)] W fun e w' => ∃ A3 n3 c3 b, e = .returned (.tuple #[.slice A3 n3 c3, .bool b]) ∧ NV w' A3 n3 c3 V ∧ Below W.heap.size W w'))
  (k1 : wrap64 ((bt : Int) + two) = x1) (k2 : wrap64 (x1 - 1) = x2) (k3 : wrap64 (x2 * 78913) = x3) (k4 : x3 / 262144 = x4) (k5 : wrap64 (x4 + 1) = n1) (k6 : wrap64 (-n1) = -n1) (k7 : wrap64 (n1 + 1) = x5) (hup : up = decide (0 < V)) :
  Ct 94 #[.slice A n c, .int .i64 two] (.int .i64 (if up = true then x5 else n1)) w := by
 have HA := Lib.hid hA
 have HU := Lib.hid hup
 clear hA hup
 go_enter Tryz.func94, Tryz.ntmps94
 go_wp2_with fail
 refine (C1.out _ HA.out).mono ?_
 rintro e w' ⟨rfl, rfl⟩
 go_wp2_with fail
 refine (C2.out _ HA.out).mono ?_
 rintro e w1 ⟨A3, n3, c3, b, rfl, g, b1⟩
 have B1 := Lib.hid b1
 have hl := g.len
 clear b1
 have h0 := HU.out
 cases up
 ·have hV : V = 0 := by
   have := of_decide_eq_false h0.symm
   omega
  have t1 : ¬ (0 : Int) < (n3 : Int) := by
   rw [hV] at hl
   have : n3 = 0 := by rw [← hl]; rfl
   omega
  clear g hl h0 hV
  go_wp2
  go_ret
  exact ⟨rfl, B1.out⟩
 ·have hV : 0 < V := of_decide_eq_true h0.symm
  have t1 : (0 : Int) < (n3 : Int) := by
   have h2 : (wds V) ≠ [] := fun e => by
    have h3 := wds_val V
    rw [e] at h3
    have : val [] = 0 := rfl
    omega
   have := List.length_pos_iff.2 h2
   omega
  clear g hl h0 hV
  go_wp2
  go_ret
  exact ⟨rfl, B1.out⟩

end Go.Proofs.YtfcpkdafkmohkaaGreatDoor
namespace Go.Proofs.YtfcpkdafkmohkaaGreatDoor
open Go.RowKit
theorem lead_at {m k : Nat} {two e : Int} (h1 : 2 ^ k ≤ m) (h2 : m < 2 ^ (k + 1)) (he : (k : Int) + two = e) :
  2 ^ e.toNat * 2 ^ (-two).toNat ≤ m * 2 ^ two.toNat * 2 ^ (-e).toNat ∧ m * 2 ^ two.toNat * 2 ^ (-e).toNat < 2 * 2 ^ e.toNat * 2 ^ (-two).toNat := by
 have key : 2 ^ k * 2 ^ two.toNat * 2 ^ (-e).toNat = 2 ^ e.toNat * 2 ^ (-two).toNat := by
  rw [← Nat.pow_add, ← Nat.pow_add, ← Nat.pow_add]
  exact congrArg (fun k => 2 ^ k) (by omega)
 have hp := two_pos two.toNat
 have hq := two_pos (-e).toNat
 constructor
 ·rw [← key]
  exact Nat.mul_le_mul_right _ (Nat.mul_le_mul_right _ h1)
 ·rw [Nat.mul_assoc, Nat.mul_assoc 2, ← key, ← Nat.mul_assoc m, ← Nat.mul_assoc 2, ← Nat.mul_assoc 2, show 2 * 2 ^ k = 2 ^ (k + 1) by rw [Nat.pow_succ, Nat.mul_comm]]
  exact Nat.mul_lt_mul_of_pos_right (Nat.mul_lt_mul_of_pos_right h2 hp) hq
theorem tpoint_any {w : World} {A : Option Addr} {n c m : Nat} (two : Int) (hA : NV w A n c m) (h0 : 0 < m) (hm : bln m ≤ 100) (h1 : -1140 < (bln m : Int) + two - 1) (h2 : (bln m : Int) + two - 1 < 1100) :
  ∃ p : Int, PointAt (m * 2 ^ two.toNat) (2 ^ (-two).toNat) p ∧ -345 ≤ p ∧ p ≤ 335 ∧ Ct 94 #[.slice A n c, .int .i64 two] (.int .i64 p) w := by
 obtain ⟨u1, u2, u3⟩ := bln_bounds h0
 obtain ⟨k, hk⟩ : ∃ k, bln m = k + 1 := ⟨bln m - 1, by omega⟩
 have C1 := Lib.hid (fun W (h : NV W A n c m) => nbits h (by omega))
 rw [hk] at u1 u2 hm h1 h2 C1
 rw [Nat.add_sub_cancel] at u1
 obtain ⟨e, he⟩ : ∃ e, (k : Int) + two = e := ⟨_, rfl⟩
 obtain ⟨l1, l2⟩ := lead_at u1 u2 he
 obtain ⟨p1, p2⟩ := point_lg (u := m * 2 ^ two.toNat) (v := 2 ^ (-two).toNat) (e := e) (two_pos _) (by omega) (by omega) l1 l2
 obtain ⟨n1, hn1⟩ : ∃ n1, lg2 e + 1 = n1 := ⟨_, rfl⟩
 have hlg : e * 78913 / 262144 = n1 - 1 := by unfold lg2 at hn1; omega
 have b1 : -345 ≤ n1 ∧ n1 ≤ 333 := by omega
 rw [hn1] at p1 p2
 rw [show lg2 e + 2 = n1 + 1 by omega] at p2
 have hs := sc_le m two n1
 have hq : (0 < scA m two (-n1) / scB two (-n1)) ↔ le10 n1 (m * 2 ^ two.toNat) (2 ^ (-two).toNat) := by
  rw [Nat.div_pos_iff, ← hs]
  exact ⟨fun h => h.2, fun h => ⟨scB_pos _ _, h⟩⟩
 have C2 : Hid (∀ W, NV W A n c m → Cp 123 #[.slice A n c, .int .i64 two, .int .i64 (-n1)] W fun e w' => ∃ A3 n3 c3 b, e = .returned (.tuple #[.slice A3 n3 c3, .bool b]) ∧ NV w' A3 n3 c3 (scA m two (-n1) / scB two (-n1)) ∧ Below W.heap.size W w') := Lib.hid (fun W h => (tscaled_any two (-n1) h (by omega) (by omega) (by omega) (by omega) (by omega)).mono (by
  rintro e w' ⟨A3, n3, c3, rfl, hv, hb⟩
  exact ⟨A3, n3, c3, _, rfl, hv, hb⟩))
 have W := fun up h => tpoint_walk (two := two) (x1 := ((k + 1 : Nat) : Int) + two) (x2 := e) (x3 := e * 78913) (x4 := n1 - 1) (x5 := n1 + 1) (n1 := n1) hA up C1 C2 (by unfold wrap64; omega) (by unfold wrap64; omega) (by unfold wrap64; omega) hlg (by unfold wrap64; omega) (by unfold wrap64; omega) (by unfold wrap64; omega) h
 by_cases h : 0 < scA m two (-n1) / scB two (-n1)
 ·exact ⟨n1 + 1, p2 (hq.1 h), by omega, by omega, W true (decide_eq_true h).symm⟩
 ·exact ⟨n1, p1 (fun hh => h (hq.2 hh)), by omega, by omega, W false (decide_eq_false h).symm⟩

end Go.Proofs.YtfcpkdafkmohkaaGreatDoor
namespace Go.Proofs.YtfcpkdafkmohkaaGreatDoor
theorem two_move {N S P Q x y : Nat} (h : N * 2 ^ x = S * 2 ^ y) (e : P + y = x + Q) : N * 2 ^ P = S * 2 ^ Q := by
 refine Nat.eq_of_mul_eq_mul_right (two_pos y) ?_
 rw [Nat.mul_assoc, ← Nat.pow_add, e, Nat.pow_add, ← Nat.mul_assoc, h, Nat.mul_assoc, Nat.mul_assoc, Nat.mul_comm (2 ^ y)]
theorem sc_cross {N S M x y : Nat} {two ten : Int} (hxy : (x : Int) - y = two + M) (h : N * 2 ^ x = S * 2 ^ y) :
  scA N two ten * (2 ^ M * 10 ^ (-ten).toNat) = S * 10 ^ ten.toNat * scB two ten := by
 unfold scA scB
 obtain ⟨a, ha⟩ : ∃ a, ten.toNat = a := ⟨_, rfl⟩
 obtain ⟨b, hb⟩ : ∃ b, (-ten).toNat = b := ⟨_, rfl⟩
 obtain ⟨p, hp⟩ : ∃ p, (two + ten).toNat = p := ⟨_, rfl⟩
 obtain ⟨q, hq⟩ : ∃ q, (-(two + ten)).toNat = q := ⟨_, rfl⟩
 rw [ha, hb, hp, hq]
 have key := two_move (P := p + (M + b)) (Q := a + q) h (by omega)
 rw [Nat.pow_add, Nat.pow_add, Nat.pow_add] at key
 have t1 : (10 : Nat) ^ a = 5 ^ a * 2 ^ a := by rw [← Nat.mul_pow]
 have t2 : (10 : Nat) ^ b = 5 ^ b * 2 ^ b := by rw [← Nat.mul_pow]
 rw [t1, t2]
 generalize 2 ^ p = P' at *
 generalize 2 ^ M = M' at *
 generalize 2 ^ b = B' at *
 generalize 2 ^ a = A' at *
 generalize 2 ^ q = Q' at *
 generalize 5 ^ a = F
 generalize 5 ^ b = G
 have r1 : N * F * P' * (M' * (G * B')) = F * G * (N * (P' * (M' * B'))) := by grind
 have r2 : S * (F * A') * (G * Q') = F * G * (S * (A' * Q')) := by grind
 rw [r1, r2, key]
theorem rest_cross {a b c d : Nat} (hb : 0 < b) (hd : 0 < d) (h : a * d = c * b) : a % b = 0 ↔ c % d = 0 := by
 have e := (quot_cross hb hd h).1
 have h1 := Nat.div_add_mod a b
 have h2 := Nat.div_add_mod c d
 generalize a % b = s at *
 generalize c % d = t at *
 rw [← e] at h2
 generalize a / b = q at *
 have k1 : a * d = b * q * d + s * d := by rw [← h1]; grind
 have k2 : c * b = b * q * d + t * b := by rw [← h2]; grind
 have k3 : s * d = t * b := by omega
 constructor
 ·intro h0
  rw [h0, Nat.zero_mul] at k3
  rcases Nat.mul_eq_zero.1 k3.symm with h | h
  ·exact h
  ·omega
 ·intro h0
  rw [h0, Nat.zero_mul] at k3
  rcases Nat.mul_eq_zero.1 k3 with h | h
  ·exact h
  ·omega
theorem quarters {r c D : Nat} (h1 : r = D * 4503599627370496 + c) (h2 : c < 9007199254740992) (h3 : D = 0 ∨ 4503599627370496 ≤ c) (h0 : 0 < r) :
  2 * (fmag r + fmag (r + 1)) = (4 * c + 2) * 2 ^ D ∧ 2 * (fmag (r - 1) + fmag r) = (4 * c - (if c = 4503599627370496 ∧ 0 < D then 1 else 2)) * 2 ^ D := by
 obtain ⟨D', c', e1, e2, e3, e4, e5⟩ := rung_parts r
 have hD : D' = D ∧ c' = c := by
  rcases h3 with h3 | h3 <;> rcases e3 with e3 | e3 <;> omega
 obtain ⟨rfl, rfl⟩ := hD
 have hc0 : 0 < c' := by
  rcases h3 with h3 | h3
  ·subst h3; omega
  ·omega
 refine ⟨by rw [e4, e5, ← Nat.add_mul]; grind, ?_⟩
 by_cases hp : c' = 4503599627370496 ∧ 0 < D'
 ·obtain ⟨p1, p2⟩ := hp
  rw [if_pos ⟨p1, p2⟩]
  obtain ⟨d, rfl⟩ : ∃ d, D' = d + 1 := ⟨D' - 1, by omega⟩
  have hr : r - 1 = d * 4503599627370496 + 9007199254740991 := by omega
  have hm := fmag_make 9007199254740991 d (by omega) (by omega)
  rw [← hr] at hm
  rw [hm, e4, p1, Nat.pow_succ]
  generalize 2 ^ d = X
  omega
 ·rw [if_neg hp]
  have hm : fmag (r - 1) = (c' - 1) * 2 ^ D' := by
   rcases Nat.eq_zero_or_pos D' with hD | hD
   ·subst hD
    rw [show r - 1 = c' - 1 by omega, fmag_low (by omega)]
    simp
   ·have : 4503599627370496 < c' := by
     rcases e3 with e3 | e3
     ·omega
     ·have : c' ≠ 4503599627370496 := fun h => hp ⟨h, hD⟩
      omega
    have hm := fmag_make (c' - 1) D' (by omega) (by omega)
    rw [← hm]
    exact congrArg fmag (by omega)
  rw [hm, e4]
  obtain ⟨x, rfl⟩ : ∃ x, c' = x + 1 := ⟨c' - 1, by omega⟩
  generalize 2 ^ D' = X
  rw [show 4 * (x + 1) - 2 = 4 * x + 2 by omega, show x + 1 - 1 = x by omega]
  grind

end Go.Proofs.YtfcpkdafkmohkaaGreatDoor
namespace Go.Proofs.YtfcpkdafkmohkaaGreatDoor
def PartIs (r m : Nat) (two : Int) : Prop := ∃ c D k : Nat, r = D * 4503599627370496 + c ∧ c < 9007199254740992 ∧ (D = 0 ∨ 4503599627370496 ≤ c) ∧ c = m * 2 ^ k ∧ two = (D : Int) - 1074 + k ∧ m % 2 = 1 ∧ D ≤ 2045 ∧ k ≤ 52
theorem bln_of {m L : Nat} (h1 : 2 ^ L ≤ m) (h2 : m < 2 ^ (L + 1)) : bln m = L + 1 := by
 have h0 : 0 < m := Nat.lt_of_lt_of_le (two_pos L) h1
 obtain ⟨b1, b2, b3⟩ := bln_bounds h0
 have c1 : L < bln m := (Nat.pow_lt_pow_iff_right (by omega)).1 (Nat.lt_of_le_of_lt h1 b2)
 have c2 : bln m - 1 < L + 1 := (Nat.pow_lt_pow_iff_right (a := 2) (by omega)).1 (Nat.lt_of_le_of_lt b1 h2)
 omega
theorem bln_shift {m k : Nat} (h0 : 0 < m) : bln (m * 2 ^ k) = bln m + k := by
 obtain ⟨b1, b2, b3⟩ := bln_bounds h0
 obtain ⟨L, hL⟩ : ∃ L, bln m = L + 1 := ⟨bln m - 1, by omega⟩
 rw [hL] at b1 b2
 rw [hL, bln_of (L := L + k)]
 ·omega
 ·rw [Nat.pow_add]
  exact Nat.mul_le_mul_right _ b1
 ·rw [show L + k + 1 = L + 1 + k by omega, Nat.pow_add]
  exact Nat.mul_lt_mul_of_pos_right b2 (two_pos k)
theorem PartIs.mag {r m : Nat} {two : Int} (h : PartIs r m two) {K : Nat} (hK : K = 1074) : ∃ t : Nat, (t : Int) = two + K ∧ fmag r = m * 2 ^ t := by
 obtain ⟨c, D, k, h1, h2, h3, h4, h5, h6, _, _⟩ := h
 obtain ⟨D', c', e1, e2, e3, e4, e5⟩ := rung_parts r
 have hD : D' = D ∧ c' = c := by
  rcases h3 with h3 | h3 <;> rcases e3 with e3 | e3 <;> omega
 obtain ⟨rfl, rfl⟩ := hD
 refine ⟨k + D', by omega, ?_⟩
 rw [e4, h4, Nat.mul_assoc, ← Nat.pow_add]
theorem PartIs.pos {r m : Nat} {two : Int} (h : PartIs r m two) : 0 < m ∧ bln m ≤ 53 ∧ -1074 < (bln m : Int) + two ∧ (bln m : Int) + two ≤ 1024 ∧ -1074 ≤ two ∧ two ≤ 1023 := by
 obtain ⟨c, D, k, h1, h2, h3, h4, h5, h6, h7, h8⟩ := h
 have h0 : 0 < m := by omega
 have hb := bln_shift (k := k) h0
 rw [← h4] at hb
 have hc : 0 < c := by rw [h4]; exact Nat.mul_pos h0 (two_pos k)
 obtain ⟨b1, b2, b3⟩ := bln_bounds hc
 obtain ⟨_, _, b6⟩ := bln_bounds h0
 have : bln c ≤ 53 := bln_le (by omega)
 omega
theorem vcross {r m : Nat} {two : Int} (h : PartIs r m two) : m * 2 ^ two.toNat * big = fmag r * 2 ^ (-two).toNat := by
 obtain ⟨K, hK, hb⟩ := big_K
 obtain ⟨t, ht, hm⟩ := h.mag hK
 rw [hm, hb, Nat.mul_assoc, Nat.mul_assoc, ← Nat.pow_add, ← Nat.pow_add]
 exact congrArg (fun k => m * 2 ^ k) (by omega)
theorem point_cross {u v u' v' : Nat} {n : Int} (hv : 0 < v) (hv' : 0 < v') (h : u * v' = u' * v) (hp : PointAt u v n) : PointAt u' v' n :=
 ⟨le10_mono hv (Nat.le_of_eq h) hp.1, fun g => hp.2 (le10_mono hv' (Nat.le_of_eq h.symm) g)⟩
theorem here_cross {r m c D k : Nat} {s : Int} {K : Nat} (hK : K = 1074) (h1 : r = D * 4503599627370496 + c) (h2 : c < 9007199254740992) (h3 : D = 0 ∨ 4503599627370496 ≤ c) (h4 : c = m * 2 ^ k) :
  scA (m * 2 ^ (k + 2)) ((D : Int) - 1076) s * vV s = vU r s * scB ((D : Int) - 1076) s := by
 obtain ⟨K', hK', hb⟩ := big_K
 have : K' = K := by omega
 subst this
 obtain ⟨D', c', e1, e2, e3, e4, e5⟩ := rung_parts r
 have hD : D' = D ∧ c' = c := by
  rcases h3 with h3 | h3 <;> rcases e3 with e3 | e3 <;> omega
 obtain ⟨rfl, rfl⟩ := hD
 unfold vV vU
 rw [hb]
 refine sc_cross (x := D') (y := 2) (by omega) ?_
 rw [e4, h4, Nat.pow_add]
 generalize 2 ^ D' = X
 generalize 2 ^ k = Y
 grind
theorem end_cross {N S D : Nat} {s : Int} {K : Nat} (hK : K = 1074) (h : 2 * S = N * 2 ^ D) : scA N ((D : Int) - 1076) s * (2 * vV s) = S * 10 ^ s.toNat * scB ((D : Int) - 1076) s := by
 obtain ⟨K', hK', hb⟩ := big_K
 have : K' = K := by omega
 subst this
 unfold vV
 rw [hb, show 2 * (2 ^ K' * 10 ^ (-s).toNat) = 2 ^ (K' + 1) * 10 ^ (-s).toNat from by rw [Nat.pow_succ]; grind]
 exact sc_cross (x := D) (y := 1) (by omega) (by rw [Nat.pow_one]; omega)
theorem here_lt {r : Nat} {n : Int} (hp : PointAt (fmag r) big n) : vU r (18 - n) / vV (18 - n) < 1000000000000000000 ∧ 100000000000000000 ≤ vU r (18 - n) / vV (18 - n) := by
 have h := cq_hi (k := 18) hp
 have g := cq_lo (k := 18) hp (by omega)
 exact ⟨h, g⟩
theorem next_le {r : Nat} (h0 : 0 < r) : fmag (r + 1) ≤ 2 * fmag r := by
 obtain ⟨D, c, e1, e2, e3, e4, e5⟩ := rung_parts r
 have hc : 1 ≤ c := by
  rcases e3 with e3 | e3
  ·subst e3; omega
  ·omega
 rw [e4, e5, ← Nat.mul_assoc]
 exact Nat.mul_le_mul_right _ (by omega)
theorem most_lt {r : Nat} {n : Int} (h0 : 0 < r) (hp : PointAt (fmag r) big n) : (fmag r + fmag (r + 1)) * 10 ^ ((18 : Int) - n).toNat / (2 * vV (18 - n)) < 2000000000000000000 ∧ 0 < (fmag r + fmag (r + 1)) * 10 ^ ((18 : Int) - n).toNat / (2 * vV (18 - n)) := by
 obtain ⟨h1, h2⟩ := here_lt hp
 have hv := vV_pos (18 - n)
 rw [Nat.div_lt_iff_lt_mul hv] at h1
 rw [Nat.le_div_iff_mul_le hv] at h2
 have h3 := next_le h0
 unfold vU at h1 h2
 have hup : fmag r < fmag (r + 1) := fmag_step (by omega)
 generalize 10 ^ ((18 : Int) - n).toNat = B at *
 generalize vV (18 - n) = V at *
 generalize fmag r = f at *
 generalize fmag (r + 1) = g at *
 have h4 : g * B ≤ 2 * (f * B) := by rw [← Nat.mul_assoc]; exact Nat.mul_le_mul_right _ h3
 have h5 : f * B ≤ g * B := Nat.mul_le_mul_right _ (by omega)
 constructor
 ·rw [Nat.div_lt_iff_lt_mul (by omega), Nat.add_mul]
  omega
 ·rw [Nat.div_pos_iff, Nat.add_mul]
  omega
theorem least_lt {r : Nat} {n : Int} (h0 : 0 < r) (hp : PointAt (fmag r) big n) : (fmag (r - 1) + fmag r) * 10 ^ ((18 : Int) - n).toNat / (2 * vV (18 - n)) < 1000000000000000000 := by
 obtain ⟨h1, h2⟩ := here_lt hp
 have hv := vV_pos (18 - n)
 rw [Nat.div_lt_iff_lt_mul hv] at h1
 unfold vU at h1
 have hup : fmag (r - 1) < fmag r := fmag_step (by omega)
 generalize 10 ^ ((18 : Int) - n).toNat = B at *
 generalize vV (18 - n) = V at *
 generalize fmag r = f at *
 generalize fmag (r - 1) = g at *
 have h5 : g * B ≤ f * B := Nat.mul_le_mul_right _ (by omega)
 rw [Nat.div_lt_iff_lt_mul (by omega), Nat.add_mul]
 omega

end Go.Proofs.YtfcpkdafkmohkaaGreatDoor
namespace Go.Proofs.YtfcpkdafkmohkaaGreatDoor
open Go.RowKit
theorem results_cell_one {fn : Func} {p : Tmp} {ty : TypeId} (h : fn.results = #[.cell p ty]) (tmps : Array Value) (P : Program) (w : World) (a : Addr) (v : Value) (ha : tmps.getD p undef = .pointer (some a)) (hl : (loadVar ty a).run P w = .ok v w) : (results fn tmps).run P w = .ok v w := by
 simp only [results, h]
 simp [-Array.getD_eq_getD_getElem?, ha, asAddr, hl]
def Rv (w : World) (g : Nat) (a : Array Value) : Prop := w.heap[g]? = some (.cells a 91 (0, 0))
def zq : Array Value := #[.int .u64 0, .bool false, .int .u64 0, .int .u64 0]
set_option maxRecDepth 100000 in
set_option maxHeartbeats 3000000 in
theorem tspan_one {w : World} {A : Option Addr} {n c m bt bw q H L M : Nat} {two ten x1 x2 last x3 x4 x5 bI : Int} {hE lE mE ev : Bool} (hA : NV w A n c m)
    (C1 : Hid (∀ W, NV W A n c m → Cq 156 #[.slice A n c] (.int .i64 (bt : Nat)) W))
    (C2 : Hid (∀ W, NV W A n c m → Cp 157 #[.slice A n c, .int .i64 x4] W (NOk q W)))
    (C3 : Hid (∀ W, Cp 110 #[.int .u64 bI] W (NRet bw W)))
    (C4 : Hid (∀ W A1 n1 c1 A2 n2 c2, NV W A1 n1 c1 q → NV W A2 n2 c2 bw → Cp 158 #[.slice A1 n1 c1, .slice A2 n2 c2] W (NOk (q - bw) W)))
    (C5 : Hid (∀ W, Cp 110 #[.int .u64 2] W (NRet 2 W)))
    (C6 : Hid (∀ W A1 n1 c1 A2 n2 c2, NV W A1 n1 c1 q → NV W A2 n2 c2 2 → Cp 124 #[.slice A1 n1 c1, .slice A2 n2 c2] W (NOk (q + 2) W)))
    (S1 : Hid (∀ W A1 n1 c1, NV W A1 n1 c1 q → Cp 123 #[.slice A1 n1 c1, .int .i64 x5, .int .i64 ten] W fun e w' => ∃ A3 n3 c3, e = .returned (.tuple #[.slice A3 n3 c3, .bool hE]) ∧ NV w' A3 n3 c3 H ∧ Below W.heap.size W w'))
    (S2 : Hid (∀ W A1 n1 c1, NV W A1 n1 c1 (q - bw) → Cp 123 #[.slice A1 n1 c1, .int .i64 x5, .int .i64 ten] W fun e w' => ∃ A3 n3 c3, e = .returned (.tuple #[.slice A3 n3 c3, .bool lE]) ∧ NV w' A3 n3 c3 L ∧ Below W.heap.size W w'))
    (S3 : Hid (∀ W A1 n1 c1, NV W A1 n1 c1 (q + 2) → Cp 123 #[.slice A1 n1 c1, .int .i64 x5, .int .i64 ten] W fun e w' => ∃ A3 n3 c3, e = .returned (.tuple #[.slice A3 n3 c3, .bool mE]) ∧ NV w' A3 n3 c3 M ∧ Below W.heap.size W w'))
    (hH : H < 18446744073709551616) (hL : L < 9223372036854775808) (hM : M < 9223372036854775808) (hM0 : 0 < M)
    (k1 : wrap64 ((bt : Int) + two) = x1) (k2 : wrap64 (x1 - 53) = x2) (hmax : max x2 (-1074) = last) (k3 : wrap64 (two - last) = x3) (k4 : wrap64 (x3 + 2) = x4) (k5 : wrap64 (last - 2) = x5)
    (hb : bt = 1 ∧ -1074 < last ∧ bI = 1) (hev : decide (last < two) = ev) :
    Ct 95 #[.slice A n c, .int .i64 two, .int .i64 ten] (.agg #[.int .u64 (H : Nat), .bool hE, .int .u64 ((if lE = true ∧ ev = true then L else L + 1 : Nat) : Nat), .int .u64 ((if mE = true ∧ ev = false then M - 1 else M : Nat) : Nat)]) w := by
  have W1 := Lib.hid (fun W A1 n1 c1 (h : NV W A1 n1 c1 H) => tword_any h hH)
  have W2 := Lib.hid (fun W A1 n1 c1 (h : NV W A1 n1 c1 L) => tword_any h (by omega))
  have W3 := Lib.hid (fun W A1 n1 c1 (h : NV W A1 n1 c1 M) => tword_any h (by omega))
  have HA := Lib.hid hA
  have HEV := Lib.hid hev
  have l1 : (L : Int) < 9223372036854775808 := by omega
  have l2 : (M : Int) < 9223372036854775808 := by omega
  have l3 : (0 : Int) < (M : Int) := by omega
  clear hA hH hL hM hM0 hev
  obtain ⟨hbt, hl, rfl⟩ := hb
  all_goals
    first | have tb : ((bt : Int) == 1) = false := by rw [beq_eq_false_iff_ne]; omega
          | have tb : ((bt : Int) == 1) = true := by rw [beq_iff_eq]; omega
    clear hbt
    have HA := Lib.hid (HA.out.step (show Below w.heap.size w (w.alloc (.cells zq 91)) from (Below.refl _ _).alloc (Nat.le_refl _) _))
    have B0 := Lib.hid (show Below w.heap.size w (w.alloc (.cells zq 91)) from (Below.refl _ _).alloc (Nat.le_refl _) _)
    have R0 := Lib.hid (show Rv (w.alloc (.cells zq 91)) w.heap.size zq from heap_alloc_last w _)
    have S0 := Lib.hid (show w.heap.size < (w.alloc (.cells zq 91)).heap.size from by simp)
    unfold zq at HA B0 R0 S0
    go_enter Tryz.func95, Tryz.ntmps95
    go_wp2_with fail
    generalize w.alloc (.cells #[.int .u64 0, .bool false, .int .u64 0, .int .u64 0] 91) = w0 at *
    refine (C1.out _ HA.out).mono ?_
    rintro e w' ⟨rfl, rfl⟩
    go_wp2_with fail
    refine (C2.out _ HA.out).mono ?_
    rintro e w1 ⟨A1, n1, c1, rfl, g1, b1⟩
    have G1 := Lib.hid g1
    have G0 := Lib.hid (HA.out.step b1)
    have B1 := Lib.hid (b1)
    clear g1 b1 hmax k1 k2 k3 k4
    go_wp2_with fail
    refine (C1.out _ G0.out).mono ?_
    rintro e w' ⟨rfl, rfl⟩
    go_wp2_with fail
    refine (C3.out _).mono ?_
    rintro e w2 ⟨A2, n2, c2, rfl, g2, b2⟩
    have G2 := Lib.hid g2
    have G1 := Lib.hid (G1.out.step b2)
    have B2 := Lib.hid (below_le B1.out b2)
    clear g2 b2
    go_wp2_with fail
    refine (C4.out _ _ _ _ _ _ _ G1.out G2.out).mono ?_
    rintro e w3 ⟨A3, n3, c3, rfl, g3, b3⟩
    have G3 := Lib.hid g3
    have G1 := Lib.hid (G1.out.step b3)
    have B3 := Lib.hid (below_le B2.out b3)
    clear g3 b3
    go_wp2_with fail
    refine (C5.out _).mono ?_
    rintro e w4 ⟨A4, n4, c4, rfl, g4, b4⟩
    have G4 := Lib.hid g4
    have G1 := Lib.hid (G1.out.step b4)
    have G3 := Lib.hid (G3.out.step b4)
    have B4 := Lib.hid (below_le B3.out b4)
    clear g4 b4
    go_wp2_with fail
    refine (C6.out _ _ _ _ _ _ _ G1.out G4.out).mono ?_
    rintro e w5 ⟨A5, n5, c5, rfl, g5, b5⟩
    have G5 := Lib.hid g5
    have G1 := Lib.hid (G1.out.step b5)
    have G3 := Lib.hid (G3.out.step b5)
    have B5 := Lib.hid (below_le B4.out b5)
    clear g5 b5
    go_wp2_with fail
    refine (S1.out _ _ _ _ G1.out).mono ?_
    rintro e w6 ⟨A6, n6, c6, rfl, g6, b6⟩
    have G6 := Lib.hid g6
    have G5 := Lib.hid (G5.out.step b6)
    have G3 := Lib.hid (G3.out.step b6)
    have B6 := Lib.hid (below_le B5.out b6)
    clear g6 b6
    go_wp2_with fail
    refine (S2.out _ _ _ _ G3.out).mono ?_
    rintro e w7 ⟨A7, n7, c7, rfl, g7, b7⟩
    have G7 := Lib.hid g7
    have G5 := Lib.hid (G5.out.step b7)
    have G6 := Lib.hid (G6.out.step b7)
    have B7 := Lib.hid (below_le B6.out b7)
    clear g7 b7
    go_wp2_with fail
    refine (S3.out _ _ _ _ G5.out).mono ?_
    rintro e w8 ⟨A8, n8, c8, rfl, g8, b8⟩
    have G8 := Lib.hid g8
    have G7 := Lib.hid (G7.out.step b8)
    have G6 := Lib.hid (G6.out.step b8)
    have B8 := Lib.hid (below_le B7.out b8)
    clear g8 b8 C1 C2 C3 C4 C5 C6 S1 S2 S3
    go_wp2_with fail
    refine (W1.out _ _ _ _ G6.out).mono ?_
    rintro e w' ⟨rfl, rfl⟩
    go_wp2_with fail
    refine (W2.out _ _ _ _ G7.out).mono ?_
    rintro e w' ⟨rfl, rfl⟩
    go_wp2_with fail
    refine (W3.out _ _ _ _ G8.out).mono ?_
    rintro e w' ⟨rfl, rfl⟩
    have HG := Lib.hid (fun c' => show (w8.alloc (.cells c' 91)).heap[w.heap.size]? = some (.cells #[.int .u64 0, .bool false, .int .u64 0, .int .u64 0] 91 (0, 0)) from by
      have hlt : w.heap.size < w8.heap.size := Nat.lt_of_lt_of_le S0.out B8.out.size
      have b1 : Below w8.heap.size w8 (w8.alloc (.cells c' 91)) := (Below.refl _ _).alloc (Nat.le_refl _) _
      exact (b1.block _ hlt).trans ((B8.out.block _ S0.out).trans R0.out))
    have HB := Lib.hid (fun c' => show Below w.heap.size w (w8.alloc (.cells c' 91)) from by
      have b2 := below_le B0.out B8.out
      exact b2.alloc b2.size _)
    have he := HEV.out
    have hL1 : IntKind.u64.wrap ((L : Int) + 1) = ((L + 1 : Nat) : Int) := by rw [IntKind.wrap_u64]; omega
    have hM1 : IntKind.u64.wrap ((M : Int) - 1) = ((M - 1 : Nat) : Int) := by rw [IntKind.wrap_u64]; omega
    clear W1 W2 W3 G6 G7 G8 k5 HA HEV
    first | clear hl | skip
    clear tb l1 l2 l3 B0 B1 B2 B3 B4 B5 B6 B7 B8 S0 R0 G1 G5 G3 G0
    cases ev <;> cases lE <;> cases mE
    all_goals
      go_wp2_with (first | (refine wpList_store_row rfl 91 _ _ rfl w.heap.size _ rfl rfl 91 #[.int .u64 0, .bool false, .int .u64 0, .int .u64 0] (HG.out _) (by first | kernel_rfl | rfl) rfl (by first | kernel_rfl | rfl) ?_))
    all_goals
      exact bodyPost_ret (results_cell_one rfl _ _ _ _ _ rfl (run_loadVar_row _ w.heap.size 91 91 _ (0, 0) _ (setRow_heap _ _ _ _ _ _ (HG.out _)) Tryz.underlying91 rfl (by first | kernel_rfl | rfl))) rfl ⟨rfl, below_setRow' (HB.out _) (Nat.le_refl _) _⟩
set_option maxRecDepth 100000 in
set_option maxHeartbeats 3000000 in
theorem tspan_more {w : World} {A : Option Addr} {n c m bt bw q H L M : Nat} {two ten x1 x2 last x3 x4 x5 bI : Int} {hE lE mE ev : Bool} (hA : NV w A n c m)
    (C1 : Hid (∀ W, NV W A n c m → Cq 156 #[.slice A n c] (.int .i64 (bt : Nat)) W))
    (C2 : Hid (∀ W, NV W A n c m → Cp 157 #[.slice A n c, .int .i64 x4] W (NOk q W)))
    (C3 : Hid (∀ W, Cp 110 #[.int .u64 bI] W (NRet bw W)))
    (C4 : Hid (∀ W A1 n1 c1 A2 n2 c2, NV W A1 n1 c1 q → NV W A2 n2 c2 bw → Cp 158 #[.slice A1 n1 c1, .slice A2 n2 c2] W (NOk (q - bw) W)))
    (C5 : Hid (∀ W, Cp 110 #[.int .u64 2] W (NRet 2 W)))
    (C6 : Hid (∀ W A1 n1 c1 A2 n2 c2, NV W A1 n1 c1 q → NV W A2 n2 c2 2 → Cp 124 #[.slice A1 n1 c1, .slice A2 n2 c2] W (NOk (q + 2) W)))
    (S1 : Hid (∀ W A1 n1 c1, NV W A1 n1 c1 q → Cp 123 #[.slice A1 n1 c1, .int .i64 x5, .int .i64 ten] W fun e w' => ∃ A3 n3 c3, e = .returned (.tuple #[.slice A3 n3 c3, .bool hE]) ∧ NV w' A3 n3 c3 H ∧ Below W.heap.size W w'))
    (S2 : Hid (∀ W A1 n1 c1, NV W A1 n1 c1 (q - bw) → Cp 123 #[.slice A1 n1 c1, .int .i64 x5, .int .i64 ten] W fun e w' => ∃ A3 n3 c3, e = .returned (.tuple #[.slice A3 n3 c3, .bool lE]) ∧ NV w' A3 n3 c3 L ∧ Below W.heap.size W w'))
    (S3 : Hid (∀ W A1 n1 c1, NV W A1 n1 c1 (q + 2) → Cp 123 #[.slice A1 n1 c1, .int .i64 x5, .int .i64 ten] W fun e w' => ∃ A3 n3 c3, e = .returned (.tuple #[.slice A3 n3 c3, .bool mE]) ∧ NV w' A3 n3 c3 M ∧ Below W.heap.size W w'))
    (hH : H < 18446744073709551616) (hL : L < 9223372036854775808) (hM : M < 9223372036854775808) (hM0 : 0 < M)
    (k1 : wrap64 ((bt : Int) + two) = x1) (k2 : wrap64 (x1 - 53) = x2) (hmax : max x2 (-1074) = last) (k3 : wrap64 (two - last) = x3) (k4 : wrap64 (x3 + 2) = x4) (k5 : wrap64 (last - 2) = x5)
    (hb : bt ≠ 1 ∧ bI = 2) (hev : decide (last < two) = ev) :
    Ct 95 #[.slice A n c, .int .i64 two, .int .i64 ten] (.agg #[.int .u64 (H : Nat), .bool hE, .int .u64 ((if lE = true ∧ ev = true then L else L + 1 : Nat) : Nat), .int .u64 ((if mE = true ∧ ev = false then M - 1 else M : Nat) : Nat)]) w := by
  have W1 := Lib.hid (fun W A1 n1 c1 (h : NV W A1 n1 c1 H) => tword_any h hH)
  have W2 := Lib.hid (fun W A1 n1 c1 (h : NV W A1 n1 c1 L) => tword_any h (by omega))
  have W3 := Lib.hid (fun W A1 n1 c1 (h : NV W A1 n1 c1 M) => tword_any h (by omega))
  have HA := Lib.hid hA
  have HEV := Lib.hid hev
  have l1 : (L : Int) < 9223372036854775808 := by omega
  have l2 : (M : Int) < 9223372036854775808 := by omega
  have l3 : (0 : Int) < (M : Int) := by omega
  clear hA hH hL hM hM0 hev
  obtain ⟨hbt, rfl⟩ := hb
  all_goals
    first | have tb : ((bt : Int) == 1) = false := by rw [beq_eq_false_iff_ne]; omega
          | have tb : ((bt : Int) == 1) = true := by rw [beq_iff_eq]; omega
    clear hbt
    have HA := Lib.hid (HA.out.step (show Below w.heap.size w (w.alloc (.cells zq 91)) from (Below.refl _ _).alloc (Nat.le_refl _) _))
    have B0 := Lib.hid (show Below w.heap.size w (w.alloc (.cells zq 91)) from (Below.refl _ _).alloc (Nat.le_refl _) _)
    have R0 := Lib.hid (show Rv (w.alloc (.cells zq 91)) w.heap.size zq from heap_alloc_last w _)
    have S0 := Lib.hid (show w.heap.size < (w.alloc (.cells zq 91)).heap.size from by simp)
    unfold zq at HA B0 R0 S0
    go_enter Tryz.func95, Tryz.ntmps95
    go_wp2_with fail
    generalize w.alloc (.cells #[.int .u64 0, .bool false, .int .u64 0, .int .u64 0] 91) = w0 at *
    refine (C1.out _ HA.out).mono ?_
    rintro e w' ⟨rfl, rfl⟩
    go_wp2_with fail
    refine (C2.out _ HA.out).mono ?_
    rintro e w1 ⟨A1, n1, c1, rfl, g1, b1⟩
    have G1 := Lib.hid g1
    have G0 := Lib.hid (HA.out.step b1)
    have B1 := Lib.hid (b1)
    clear g1 b1 hmax k1 k2 k3 k4
    go_wp2_with fail
    refine (C1.out _ G0.out).mono ?_
    rintro e w' ⟨rfl, rfl⟩
    go_wp2_with fail
    refine (C3.out _).mono ?_
    rintro e w2 ⟨A2, n2, c2, rfl, g2, b2⟩
    have G2 := Lib.hid g2
    have G1 := Lib.hid (G1.out.step b2)
    have B2 := Lib.hid (below_le B1.out b2)
    clear g2 b2
    go_wp2_with fail
    refine (C4.out _ _ _ _ _ _ _ G1.out G2.out).mono ?_
    rintro e w3 ⟨A3, n3, c3, rfl, g3, b3⟩
    have G3 := Lib.hid g3
    have G1 := Lib.hid (G1.out.step b3)
    have B3 := Lib.hid (below_le B2.out b3)
    clear g3 b3
    go_wp2_with fail
    refine (C5.out _).mono ?_
    rintro e w4 ⟨A4, n4, c4, rfl, g4, b4⟩
    have G4 := Lib.hid g4
    have G1 := Lib.hid (G1.out.step b4)
    have G3 := Lib.hid (G3.out.step b4)
    have B4 := Lib.hid (below_le B3.out b4)
    clear g4 b4
    go_wp2_with fail
    refine (C6.out _ _ _ _ _ _ _ G1.out G4.out).mono ?_
    rintro e w5 ⟨A5, n5, c5, rfl, g5, b5⟩
    have G5 := Lib.hid g5
    have G1 := Lib.hid (G1.out.step b5)
    have G3 := Lib.hid (G3.out.step b5)
    have B5 := Lib.hid (below_le B4.out b5)
    clear g5 b5
    go_wp2_with fail
    refine (S1.out _ _ _ _ G1.out).mono ?_
    rintro e w6 ⟨A6, n6, c6, rfl, g6, b6⟩
    have G6 := Lib.hid g6
    have G5 := Lib.hid (G5.out.step b6)
    have G3 := Lib.hid (G3.out.step b6)
    have B6 := Lib.hid (below_le B5.out b6)
    clear g6 b6
    go_wp2_with fail
    refine (S2.out _ _ _ _ G3.out).mono ?_
    rintro e w7 ⟨A7, n7, c7, rfl, g7, b7⟩
    have G7 := Lib.hid g7
    have G5 := Lib.hid (G5.out.step b7)
    have G6 := Lib.hid (G6.out.step b7)
    have B7 := Lib.hid (below_le B6.out b7)
    clear g7 b7
    go_wp2_with fail
    refine (S3.out _ _ _ _ G5.out).mono ?_
    rintro e w8 ⟨A8, n8, c8, rfl, g8, b8⟩
    have G8 := Lib.hid g8
    have G7 := Lib.hid (G7.out.step b8)
    have G6 := Lib.hid (G6.out.step b8)
    have B8 := Lib.hid (below_le B7.out b8)
    clear g8 b8 C1 C2 C3 C4 C5 C6 S1 S2 S3
    go_wp2_with fail
    refine (W1.out _ _ _ _ G6.out).mono ?_
    rintro e w' ⟨rfl, rfl⟩
    go_wp2_with fail
    refine (W2.out _ _ _ _ G7.out).mono ?_
    rintro e w' ⟨rfl, rfl⟩
    go_wp2_with fail
    refine (W3.out _ _ _ _ G8.out).mono ?_
    rintro e w' ⟨rfl, rfl⟩
    have HG := Lib.hid (fun c' => show (w8.alloc (.cells c' 91)).heap[w.heap.size]? = some (.cells #[.int .u64 0, .bool false, .int .u64 0, .int .u64 0] 91 (0, 0)) from by
      have hlt : w.heap.size < w8.heap.size := Nat.lt_of_lt_of_le S0.out B8.out.size
      have b1 : Below w8.heap.size w8 (w8.alloc (.cells c' 91)) := (Below.refl _ _).alloc (Nat.le_refl _) _
      exact (b1.block _ hlt).trans ((B8.out.block _ S0.out).trans R0.out))
    have HB := Lib.hid (fun c' => show Below w.heap.size w (w8.alloc (.cells c' 91)) from by
      have b2 := below_le B0.out B8.out
      exact b2.alloc b2.size _)
    have he := HEV.out
    have hL1 : IntKind.u64.wrap ((L : Int) + 1) = ((L + 1 : Nat) : Int) := by rw [IntKind.wrap_u64]; omega
    have hM1 : IntKind.u64.wrap ((M : Int) - 1) = ((M - 1 : Nat) : Int) := by rw [IntKind.wrap_u64]; omega
    clear W1 W2 W3 G6 G7 G8 k5 HA HEV
    first | clear hl | skip
    clear tb l1 l2 l3 B0 B1 B2 B3 B4 B5 B6 B7 B8 S0 R0 G1 G5 G3 G0
    cases ev <;> cases lE <;> cases mE
    all_goals
      go_wp2_with (first | (refine wpList_store_row rfl 91 _ _ rfl w.heap.size _ rfl rfl 91 #[.int .u64 0, .bool false, .int .u64 0, .int .u64 0] (HG.out _) (by first | kernel_rfl | rfl) rfl (by first | kernel_rfl | rfl) ?_))
    all_goals
      exact bodyPost_ret (results_cell_one rfl _ _ _ _ _ rfl (run_loadVar_row _ w.heap.size 91 91 _ (0, 0) _ (setRow_heap _ _ _ _ _ _ (HG.out _)) Tryz.underlying91 rfl (by first | kernel_rfl | rfl))) rfl ⟨rfl, below_setRow' (HB.out _) (Nat.le_refl _) _⟩

end Go.Proofs.YtfcpkdafkmohkaaGreatDoor
namespace Go.Proofs.YtfcpkdafkmohkaaGreatDoor
open Go.RowKit
set_option maxRecDepth 100000 in
set_option maxHeartbeats 3000000 in
theorem tspan_low {w : World} {A : Option Addr} {n c m bt bw q H L M : Nat} {two ten x1 x2 last x3 x4 x5 bI : Int} {hE lE mE ev : Bool} (hA : NV w A n c m)
    (C1 : Hid (∀ W, NV W A n c m → Cq 156 #[.slice A n c] (.int .i64 (bt : Nat)) W))
    (C2 : Hid (∀ W, NV W A n c m → Cp 157 #[.slice A n c, .int .i64 x4] W (NOk q W)))
    (C3 : Hid (∀ W, Cp 110 #[.int .u64 bI] W (NRet bw W)))
    (C4 : Hid (∀ W A1 n1 c1 A2 n2 c2, NV W A1 n1 c1 q → NV W A2 n2 c2 bw → Cp 158 #[.slice A1 n1 c1, .slice A2 n2 c2] W (NOk (q - bw) W)))
    (C5 : Hid (∀ W, Cp 110 #[.int .u64 2] W (NRet 2 W)))
    (C6 : Hid (∀ W A1 n1 c1 A2 n2 c2, NV W A1 n1 c1 q → NV W A2 n2 c2 2 → Cp 124 #[.slice A1 n1 c1, .slice A2 n2 c2] W (NOk (q + 2) W)))
    (S1 : Hid (∀ W A1 n1 c1, NV W A1 n1 c1 q → Cp 123 #[.slice A1 n1 c1, .int .i64 x5, .int .i64 ten] W fun e w' => ∃ A3 n3 c3, e = .returned (.tuple #[.slice A3 n3 c3, .bool hE]) ∧ NV w' A3 n3 c3 H ∧ Below W.heap.size W w'))
    (S2 : Hid (∀ W A1 n1 c1, NV W A1 n1 c1 (q - bw) → Cp 123 #[.slice A1 n1 c1, .int .i64 x5, .int .i64 ten] W fun e w' => ∃ A3 n3 c3, e = .returned (.tuple #[.slice A3 n3 c3, .bool lE]) ∧ NV w' A3 n3 c3 L ∧ Below W.heap.size W w'))
    (S3 : Hid (∀ W A1 n1 c1, NV W A1 n1 c1 (q + 2) → Cp 123 #[.slice A1 n1 c1, .int .i64 x5, .int .i64 ten] W fun e w' => ∃ A3 n3 c3, e = .returned (.tuple #[.slice A3 n3 c3, .bool mE]) ∧ NV w' A3 n3 c3 M ∧ Below W.heap.size W w'))
    (hH : H < 18446744073709551616) (hL : L < 9223372036854775808) (hM : M < 9223372036854775808) (hM0 : 0 < M)
    (k1 : wrap64 ((bt : Int) + two) = x1) (k2 : wrap64 (x1 - 53) = x2) (hmax : max x2 (-1074) = last) (k3 : wrap64 (two - last) = x3) (k4 : wrap64 (x3 + 2) = x4) (k5 : wrap64 (last - 2) = x5)
    (hb : bt = 1 ∧ decide (-1074 < last) = false ∧ bI = 2) (hev : decide (last < two) = ev) :
    Ct 95 #[.slice A n c, .int .i64 two, .int .i64 ten] (.agg #[.int .u64 (H : Nat), .bool hE, .int .u64 ((if lE = true ∧ ev = true then L else L + 1 : Nat) : Nat), .int .u64 ((if mE = true ∧ ev = false then M - 1 else M : Nat) : Nat)]) w := by
  have W1 := Lib.hid (fun W A1 n1 c1 (h : NV W A1 n1 c1 H) => tword_any h hH)
  have W2 := Lib.hid (fun W A1 n1 c1 (h : NV W A1 n1 c1 L) => tword_any h (by omega))
  have W3 := Lib.hid (fun W A1 n1 c1 (h : NV W A1 n1 c1 M) => tword_any h (by omega))
  have HA := Lib.hid hA
  have HEV := Lib.hid hev
  have l1 : (L : Int) < 9223372036854775808 := by omega
  have l2 : (M : Int) < 9223372036854775808 := by omega
  have l3 : (0 : Int) < (M : Int) := by omega
  clear hA hH hL hM hM0 hev
  obtain ⟨hbt, hl, rfl⟩ := hb
  all_goals
    first | have tb : ((bt : Int) == 1) = false := by rw [beq_eq_false_iff_ne]; omega
          | have tb : ((bt : Int) == 1) = true := by rw [beq_iff_eq]; omega
    clear hbt
    have HA := Lib.hid (HA.out.step (show Below w.heap.size w (w.alloc (.cells zq 91)) from (Below.refl _ _).alloc (Nat.le_refl _) _))
    have B0 := Lib.hid (show Below w.heap.size w (w.alloc (.cells zq 91)) from (Below.refl _ _).alloc (Nat.le_refl _) _)
    have R0 := Lib.hid (show Rv (w.alloc (.cells zq 91)) w.heap.size zq from heap_alloc_last w _)
    have S0 := Lib.hid (show w.heap.size < (w.alloc (.cells zq 91)).heap.size from by simp)
    unfold zq at HA B0 R0 S0
    go_enter Tryz.func95, Tryz.ntmps95
    go_wp2_with fail
    generalize w.alloc (.cells #[.int .u64 0, .bool false, .int .u64 0, .int .u64 0] 91) = w0 at *
    refine (C1.out _ HA.out).mono ?_
    rintro e w' ⟨rfl, rfl⟩
    go_wp2_with fail
    refine (C2.out _ HA.out).mono ?_
    rintro e w1 ⟨A1, n1, c1, rfl, g1, b1⟩
    have G1 := Lib.hid g1
    have G0 := Lib.hid (HA.out.step b1)
    have B1 := Lib.hid (b1)
    clear g1 b1 hmax k1 k2 k3 k4
    go_wp2_with fail
    refine (C1.out _ G0.out).mono ?_
    rintro e w' ⟨rfl, rfl⟩
    go_wp2_with fail
    refine (C3.out _).mono ?_
    rintro e w2 ⟨A2, n2, c2, rfl, g2, b2⟩
    have G2 := Lib.hid g2
    have G1 := Lib.hid (G1.out.step b2)
    have B2 := Lib.hid (below_le B1.out b2)
    clear g2 b2
    go_wp2_with fail
    refine (C4.out _ _ _ _ _ _ _ G1.out G2.out).mono ?_
    rintro e w3 ⟨A3, n3, c3, rfl, g3, b3⟩
    have G3 := Lib.hid g3
    have G1 := Lib.hid (G1.out.step b3)
    have B3 := Lib.hid (below_le B2.out b3)
    clear g3 b3
    go_wp2_with fail
    refine (C5.out _).mono ?_
    rintro e w4 ⟨A4, n4, c4, rfl, g4, b4⟩
    have G4 := Lib.hid g4
    have G1 := Lib.hid (G1.out.step b4)
    have G3 := Lib.hid (G3.out.step b4)
    have B4 := Lib.hid (below_le B3.out b4)
    clear g4 b4
    go_wp2_with fail
    refine (C6.out _ _ _ _ _ _ _ G1.out G4.out).mono ?_
    rintro e w5 ⟨A5, n5, c5, rfl, g5, b5⟩
    have G5 := Lib.hid g5
    have G1 := Lib.hid (G1.out.step b5)
    have G3 := Lib.hid (G3.out.step b5)
    have B5 := Lib.hid (below_le B4.out b5)
    clear g5 b5
    go_wp2_with fail
    refine (S1.out _ _ _ _ G1.out).mono ?_
    rintro e w6 ⟨A6, n6, c6, rfl, g6, b6⟩
    have G6 := Lib.hid g6
    have G5 := Lib.hid (G5.out.step b6)
    have G3 := Lib.hid (G3.out.step b6)
    have B6 := Lib.hid (below_le B5.out b6)
    clear g6 b6
    go_wp2_with fail
    refine (S2.out _ _ _ _ G3.out).mono ?_
    rintro e w7 ⟨A7, n7, c7, rfl, g7, b7⟩
    have G7 := Lib.hid g7
    have G5 := Lib.hid (G5.out.step b7)
    have G6 := Lib.hid (G6.out.step b7)
    have B7 := Lib.hid (below_le B6.out b7)
    clear g7 b7
    go_wp2_with fail
    refine (S3.out _ _ _ _ G5.out).mono ?_
    rintro e w8 ⟨A8, n8, c8, rfl, g8, b8⟩
    have G8 := Lib.hid g8
    have G7 := Lib.hid (G7.out.step b8)
    have G6 := Lib.hid (G6.out.step b8)
    have B8 := Lib.hid (below_le B7.out b8)
    clear g8 b8 C1 C2 C3 C4 C5 C6 S1 S2 S3
    go_wp2_with fail
    refine (W1.out _ _ _ _ G6.out).mono ?_
    rintro e w' ⟨rfl, rfl⟩
    go_wp2_with fail
    refine (W2.out _ _ _ _ G7.out).mono ?_
    rintro e w' ⟨rfl, rfl⟩
    go_wp2_with fail
    refine (W3.out _ _ _ _ G8.out).mono ?_
    rintro e w' ⟨rfl, rfl⟩
    have HG := Lib.hid (fun c' => show (w8.alloc (.cells c' 91)).heap[w.heap.size]? = some (.cells #[.int .u64 0, .bool false, .int .u64 0, .int .u64 0] 91 (0, 0)) from by
      have hlt : w.heap.size < w8.heap.size := Nat.lt_of_lt_of_le S0.out B8.out.size
      have b1 : Below w8.heap.size w8 (w8.alloc (.cells c' 91)) := (Below.refl _ _).alloc (Nat.le_refl _) _
      exact (b1.block _ hlt).trans ((B8.out.block _ S0.out).trans R0.out))
    have HB := Lib.hid (fun c' => show Below w.heap.size w (w8.alloc (.cells c' 91)) from by
      have b2 := below_le B0.out B8.out
      exact b2.alloc b2.size _)
    have he := HEV.out
    have hL1 : IntKind.u64.wrap ((L : Int) + 1) = ((L + 1 : Nat) : Int) := by rw [IntKind.wrap_u64]; omega
    have hM1 : IntKind.u64.wrap ((M : Int) - 1) = ((M - 1 : Nat) : Int) := by rw [IntKind.wrap_u64]; omega
    clear W1 W2 W3 G6 G7 G8 k5 HA HEV
    first | clear hl | skip
    clear tb l1 l2 l3 B0 B1 B2 B3 B4 B5 B6 B7 B8 S0 R0 G1 G5 G3 G0
    cases ev <;> cases lE <;> cases mE
    all_goals
      go_wp2_with (first | (refine wpList_store_row rfl 91 _ _ rfl w.heap.size _ rfl rfl 91 #[.int .u64 0, .bool false, .int .u64 0, .int .u64 0] (HG.out _) (by first | kernel_rfl | rfl) rfl (by first | kernel_rfl | rfl) ?_))
    all_goals
      exact bodyPost_ret (results_cell_one rfl _ _ _ _ _ rfl (run_loadVar_row _ w.heap.size 91 91 _ (0, 0) _ (setRow_heap _ _ _ _ _ _ (HG.out _)) Tryz.underlying91 rfl (by first | kernel_rfl | rfl))) rfl ⟨rfl, below_setRow' (HB.out _) (Nat.le_refl _) _⟩

end Go.Proofs.YtfcpkdafkmohkaaGreatDoor
namespace Go.Proofs.YtfcpkdafkmohkaaGreatDoor
open Go.RowKit
theorem tscaled_as {W : World} {A : Option Addr} {n c N V x y : Nat} {two ten : Int} (hA : NV W A n c N) (hm : bln N ≤ 2000) (h1 : -1000 ≤ ten) (h2 : ten ≤ 1000) (h3 : -3000 ≤ two) (h4 : two ≤ 3000)
  (hq : scA N two ten / scB two ten = V) (hb : scA N two ten % scB two ten = 0 ↔ x % y = 0) :
  Cp 123 #[.slice A n c, .int .i64 two, .int .i64 ten] W fun e w' => ∃ A3 n3 c3, e = .returned (.tuple #[.slice A3 n3 c3, .bool (decide (x % y = 0))]) ∧ NV w' A3 n3 c3 V ∧ Below W.heap.size W w' := by
 refine (tscaled_any two ten hA hm h1 h2 h3 h4).mono ?_
 rintro e w' ⟨A3, n3, c3, rfl, hv, hw⟩
 rw [hq] at hv
 rw [decide_eq_decide.2 hb]
 exact ⟨A3, n3, c3, rfl, hv, hw⟩
def SpanQ (r : Nat) (n : Int) (w : World) (e : Ending) (w' : World) : Prop :=
 ∃ M : Nat, e = .returned (.agg #[.int .u64 ((vU r (18 - n) / vV (18 - n) : Nat) : Int), .bool (decide (vU r (18 - n) % vV (18 - n) = 0)), .int .u64 ((leastOf (vV (18 - n)) (10 ^ ((18 : Int) - n).toNat) r : Nat) : Int), .int .u64 (M : Nat)]) ∧
  (∀ c, c ≤ M ↔ mostLe (vV (18 - n)) (10 ^ ((18 : Int) - n).toNat) r c) ∧ Below w.heap.size w w'
set_option maxHeartbeats 1000000 in
theorem tspan_any {w : World} {A : Option Addr} {n0 c0 r m : Nat} {two n : Int} (hA : NV w A n0 c0 m) (hp : PartIs r m two) (h0 : 0 < r) (hpt : PointAt (fmag r) big n) (hn1 : -345 ≤ n) (hn2 : n ≤ 335) :
  Cp 95 #[.slice A n0 c0, .int .i64 two, .int .i64 (18 - n)] w (SpanQ r n w) := by
 obtain ⟨q1, q2, q3, q4, q5, q6⟩ := hp.pos
 obtain ⟨c, D, k, h1, h2, h3, h4, h5, h6, h7, h8⟩ := hp
 obtain ⟨s, hs⟩ : ∃ s, (18 : Int) - n = s := ⟨_, rfl⟩
 have hbc := bln_shift (k := k) q1
 rw [← h4] at hbc
 have hc0 : 0 < c := by rw [h4]; exact Nat.mul_pos q1 (two_pos k)
 obtain ⟨b1, b2, b3⟩ := bln_bounds hc0
 have hb53 : bln c ≤ 53 := bln_le (by omega)
 have hb53' : 4503599627370496 ≤ c → bln c = 53 := by
  intro h
  exact bln_of (L := 52) (by omega) (by omega)
 -- the ends, in quarters
 obtain ⟨e1, e2⟩ := quarters h1 h2 h3 h0
 have hHc := here_cross (s := s) (K := 1074) rfl h1 h2 h3 h4
 have hp2 : m * 2 ^ (k + 2) = 4 * c := by rw [h4, Nat.pow_add]; grind
 have hMc := end_cross (N := 4 * c + 2) (S := fmag r + fmag (r + 1)) (s := s) (K := 1074) rfl e1
 obtain ⟨bw, hbw⟩ : ∃ bw, (if c = 4503599627370496 ∧ 0 < D then 1 else 2) = bw := ⟨_, rfl⟩
 rw [hbw] at e2
 have hLc := end_cross (N := 4 * c - bw) (S := fmag (r - 1) + fmag r) (s := s) (K := 1074) rfl e2
 have hvV := vV_pos s
 have hsc := scB_pos ((D : Int) - 1076) s
 have H1 := (quot_cross hsc hvV hHc).1
 have H2 := rest_cross hsc hvV hHc
 have M1 := (quot_cross hsc (by omega) hMc).1
 have M2 := rest_cross hsc (by omega) hMc
 have L1 := (quot_cross hsc (by omega) hLc).1
 have L2 := rest_cross hsc (by omega) hLc
 have hH := (here_lt hpt).1
 have hM := most_lt h0 hpt
 have hL := least_lt h0 hpt
 unfold SpanQ
 rw [hs] at hH hM hL ⊢
 have hbw2 : bw ≤ 2 := by rw [← hbw]; split <;> omega
 rw [hp2] at H1 H2
 -- how many bits
 have bl4 : bln (4 * c + 2) ≤ 100 := bln_le (by omega)
 have bl4' : bln (4 * c) ≤ 100 := bln_le (by omega)
 have bl4'' : bln (4 * c - bw) ≤ 100 := bln_le (by omega)
 have S1 := Lib.hid (fun W A1 n1 c1 (h : NV W A1 n1 c1 (4 * c)) => tscaled_as (two := (D : Int) - 1076) (ten := s) h (by omega) (by omega) (by omega) (by omega) (by omega) H1 H2)
 have S2 := Lib.hid (fun W A1 n1 c1 (h : NV W A1 n1 c1 (4 * c - bw)) => tscaled_as (two := (D : Int) - 1076) (ten := s) h (by omega) (by omega) (by omega) (by omega) (by omega) L1 L2)
 have S3 := Lib.hid (fun W A1 n1 c1 (h : NV W A1 n1 c1 (4 * c + 2)) => tscaled_as (two := (D : Int) - 1076) (ten := s) h (by omega) (by omega) (by omega) (by omega) (by omega) M1 M2)
 have C1 := Lib.hid (fun W (h : NV W A n0 c0 m) => nbits h (by omega))
 have C2 := Lib.hid (fun W (h : NV W A n0 c0 m) => nshl h (k + 2) (by omega))
 rw [hp2] at C2
 have C4 := Lib.hid (fun W A1 n1 c1 A2 n2 c2 (h : NV W A1 n1 c1 (4 * c)) (g : NV W A2 n2 c2 bw) => nsub h g (by omega) (by omega))
 have C5 := Lib.hid (fun W => nof 2 (by omega) W)
 have C6 := Lib.hid (fun W A1 n1 c1 A2 n2 c2 (h : NV W A1 n1 c1 (4 * c)) (g : NV W A2 n2 c2 2) => nadd h g (by omega))
 have hev : decide (((D : Int) - 1074) < two) = decide (r % 2 = 0) := by
  refine decide_eq_decide.2 ?_
  rcases Nat.eq_zero_or_pos k with hk | hk
  ·rw [hk, Nat.pow_zero, Nat.mul_one] at h4
   omega
  ·obtain ⟨j, rfl⟩ : ∃ j, k = j + 1 := ⟨k - 1, by omega⟩
   rw [Nat.pow_succ, ← Nat.mul_assoc] at h4
   omega
 have hmax : max ((bln m : Int) + two - 53) (-1074) = (D : Int) - 1074 := by
  rcases Nat.eq_zero_or_pos D with hD | hD
  ·omega
  ·have := hb53' (by omega)
   omega
 have hpow : bln m = 1 → c = 2 ^ k := by
  intro h
  obtain ⟨u1, u2, _⟩ := bln_bounds q1
  rw [h] at u1 u2
  simp at u1 u2
  have : m = 1 := by omega
  rw [h4, this, Nat.one_mul]
 have fin : ∀ (e : Ending) (w' : World), (e = .returned (.agg #[.int .u64 ((vU r s / vV s : Nat) : Int), .bool (decide (vU r s % vV s = 0)), .int .u64 ((if decide ((fmag (r - 1) + fmag r) * 10 ^ s.toNat % (2 * vV s) = 0) = true ∧ decide (r % 2 = 0) = true then (fmag (r - 1) + fmag r) * 10 ^ s.toNat / (2 * vV s) else (fmag (r - 1) + fmag r) * 10 ^ s.toNat / (2 * vV s) + 1 : Nat) : Int), .int .u64 ((if decide ((fmag r + fmag (r + 1)) * 10 ^ s.toNat % (2 * vV s) = 0) = true ∧ decide (r % 2 = 0) = false then (fmag r + fmag (r + 1)) * 10 ^ s.toNat / (2 * vV s) - 1 else (fmag r + fmag (r + 1)) * 10 ^ s.toNat / (2 * vV s) : Nat) : Int)]) ∧ Below w.heap.size w w') → ∃ M : Nat, e = .returned (.agg #[.int .u64 ((vU r s / vV s : Nat) : Int), .bool (decide (vU r s % vV s = 0)), .int .u64 ((leastOf (vV s) (10 ^ s.toNat) r : Nat) : Int), .int .u64 (M : Nat)]) ∧ (∀ c, c ≤ M ↔ mostLe (vV s) (10 ^ s.toNat) r c) ∧ Below w.heap.size w w' := by
  rintro e w' ⟨he, hw⟩
  have hle : (if decide ((fmag (r - 1) + fmag r) * 10 ^ s.toNat % (2 * vV s) = 0) = true ∧ decide (r % 2 = 0) = true then (fmag (r - 1) + fmag r) * 10 ^ s.toNat / (2 * vV s) else (fmag (r - 1) + fmag r) * 10 ^ s.toNat / (2 * vV s) + 1) = leastOf (vV s) (10 ^ s.toNat) r := by
   unfold leastOf
   by_cases g : (fmag (r - 1) + fmag r) * 10 ^ s.toNat % (2 * vV s) = 0 <;> by_cases g2 : r % 2 = 0 <;> simp [g, g2]
  rw [hle] at he
  refine ⟨(if decide ((fmag r + fmag (r + 1)) * 10 ^ s.toNat % (2 * vV s) = 0) = true ∧ decide (r % 2 = 0) = false then (fmag r + fmag (r + 1)) * 10 ^ s.toNat / (2 * vV s) - 1 else (fmag r + fmag (r + 1)) * 10 ^ s.toNat / (2 * vV s)), he, ?_, hw⟩
  ·intro c
   unfold mostLe
   have := hM.2
   by_cases g : (fmag r + fmag (r + 1)) * 10 ^ s.toNat % (2 * vV s) = 0 <;> by_cases g2 : r % 2 = 0 <;> simp [g, g2] <;> omega
 rcases Nat.decEq (bln m) 1 with hb | hb
 ·have hbw' : bw = 2 := by
   rw [← hbw, if_neg]
   rintro ⟨g1, g2⟩
   apply hb
   have hb2 : bln c = 53 := by rw [g1]; exact bln_of (L := 52) (by omega) (by omega)
   have hk : k = 52 := by
    rcases Nat.lt_or_ge k 52 with h | h
    ·exfalso
     obtain ⟨d, hd⟩ : ∃ d, 52 = k + (d + 1) := ⟨52 - k - 1, by omega⟩
     have : m * 2 ^ k = 2 ^ (d + 1) * 2 ^ k := by rw [← h4, g1, ← Nat.pow_add, Nat.add_comm, ← hd]
     have := Nat.eq_of_mul_eq_mul_right (two_pos k) this
     rw [Nat.pow_succ] at this
     omega
    ·omega
   omega
  subst hbw'
  have C3 := Lib.hid (fun W => nof 2 (by omega) W)
  refine (tspan_more (bI := 2) (x4 := ((k + 2 : Nat) : Int)) (x5 := (D : Int) - 1076) (last := (D : Int) - 1074) (x1 := (bln m : Int) + two) (x2 := (bln m : Int) + two - 53) (x3 := (k : Int)) (two := two) (ten := s) hA C1 C2 C3 C4 C5 C6 S1 S2 S3 (by omega) (by omega) (by omega) hM.2 (by unfold wrap64; omega) (by unfold wrap64; omega) hmax (by unfold wrap64; omega) (by unfold wrap64; omega) (by unfold wrap64; omega) ⟨hb, rfl⟩ hev).mono ?_
  exact fin
 ·have hc2 := hpow hb
  rcases Nat.eq_zero_or_pos D with hD | hD
  ·have hbw' : bw = 2 := by
    rw [← hbw, if_neg]
    omega
   subst hbw'
   have C3 := Lib.hid (fun W => nof 2 (by omega) W)
   refine (tspan_low (bI := 2) (x4 := ((k + 2 : Nat) : Int)) (x5 := (D : Int) - 1076) (last := (D : Int) - 1074) (x1 := (bln m : Int) + two) (x2 := (bln m : Int) + two - 53) (x3 := (k : Int)) (two := two) (ten := s) hA C1 C2 C3 C4 C5 C6 S1 S2 S3 (by omega) (by omega) (by omega) hM.2 (by unfold wrap64; omega) (by unfold wrap64; omega) hmax (by unfold wrap64; omega) (by unfold wrap64; omega) (by unfold wrap64; omega) ⟨hb, decide_eq_false (by omega), rfl⟩ hev).mono ?_
   exact fin
  ·have hbw' : bw = 1 := by
    have := hb53' (by omega)
    have hk : k = 52 := by omega
    rw [← hbw, if_pos]
    rw [hk] at hc2
    omega
   subst hbw'
   have C3 := Lib.hid (fun W => nof 1 (by omega) W)
   refine (tspan_one (bI := 1) (x4 := ((k + 2 : Nat) : Int)) (x5 := (D : Int) - 1076) (last := (D : Int) - 1074) (x1 := (bln m : Int) + two) (x2 := (bln m : Int) + two - 53) (x3 := (k : Int)) (two := two) (ten := s) hA C1 C2 C3 C4 C5 C6 S1 S2 S3 (by omega) (by omega) (by omega) hM.2 (by unfold wrap64; omega) (by unfold wrap64; omega) hmax (by unfold wrap64; omega) (by unfold wrap64; omega) (by unfold wrap64; omega) ⟨hb, by omega, rfl⟩ hev).mono ?_
   exact fin

end Go.Proofs.YtfcpkdafkmohkaaGreatDoor
namespace Go.Proofs.YtfcpkdafkmohkaaGreatDoor
open Go.RowKit
theorem fbad_pos {x : Nat} (h0 : 0 < x) (hx : x < 9218868437227405312) : rung x = x ∧ fbad x = false := by
 have h1 : rung x = x := by unfold rung; omega
 have h2 : fneg x = false := by unfold fneg; rw [show x / 9223372036854775808 % 2 = 0 by omega]; rfl
 refine ⟨h1, ?_⟩
 unfold fbad fnan finf
 rw [h1, h2, decide_eq_false (by omega), decide_eq_false (by omega)]
 rfl
theorem parts_is {x k m : Nat} (h0 : 0 < x) (hx : x < 9218868437227405312) (h : fwhole x = 2 ^ (k + 1) * m + 2 ^ k) : PartIs x (2 * m + 1) (fpow x + (k : Nat)) := by
 obtain ⟨p1, p2⟩ := fwhole_pos h0
 have hk : k ≤ 52 := by
  have h1 : 2 ^ k < 2 ^ 53 := by omega
  have := (Nat.pow_lt_pow_iff_right (by omega)).1 h1
  omega
 have hc : fwhole x = (2 * m + 1) * 2 ^ k := by
  rw [h, Nat.pow_succ]
  grind
 by_cases hq : x / 4503599627370496 = 0
 ·refine ⟨fwhole x, 0, k, ?_, p2, .inl rfl, hc, ?_, by omega, by omega, hk⟩
  ·unfold fwhole
   rw [if_pos hq]
   omega
  ·unfold fpow
   rw [if_pos hq]
   omega
 ·refine ⟨fwhole x, x / 4503599627370496 - 1, k, ?_, p2, .inr ?_, hc, ?_, by omega, by omega, hk⟩
  ·unfold fwhole
   rw [if_neg hq]
   omega
  ·unfold fwhole
   rw [if_neg hq]
   omega
  ·unfold fpow
   rw [if_neg hq]
   omega
def PartsQ (x : Nat) (w : World) (e : Ending) (w' : World) : Prop := ∃ m two A n c, e = .returned (.tuple #[.slice A n c, .int .i64 two, .int .i64 0]) ∧ NV w' A n c m ∧ PartIs x m two ∧ Below w.heap.size w w'
theorem PartsP.q {x : Nat} {w w' : World} {e : Ending} (h0 : 0 < x) (hx : x < 9218868437227405312) (h : PartsP x w e w') : PartsQ x w e w' := by
 obtain ⟨k, m, A, n, c, h1, rfl, ⟨h2, h3, h4⟩, h5⟩ := h
 exact ⟨2 * m + 1, _, A, n, c, rfl, ⟨h2.symm, h3, h4⟩, parts_is h0 hx h1, h5⟩
theorem pparts_pos (x : Nat) (w : World) (h0 : 0 < x) (hx : x < 9218868437227405312) (ht : TzTab w) : Cp 54 #[.float .f64 x] w (PartsQ x w) := by
 obtain ⟨h1, h2⟩ := fbad_pos h0 hx
 exact (pparts_ok x w (by omega) h2 (by omega) ht).mono fun e w' h => h.q h0 hx
set_option maxRecDepth 100000 in
set_option maxHeartbeats 1000000 in
theorem tshort_whole (x N : Nat) (w : World) (D : ByteArray) (p : Int)
  (t1 : (FloatKind.f64.format.order x 4845873199050653696 == some .lt) = true)
  (hc : ∀ W : World, (convert 22 71 (.float .f64 x)).run Tryz.prog W = .ok (.int .u64 (N : Int)) W)
  (t2 : (FloatKind.f64.format.order x (floatOfInt FloatKind.f64 (N : Int)) == some .eq) = true)
  (C5 : Hid (∀ W, W = w → Ct 93 #[.int .u64 N, .int .i64 0] (.tuple #[.string D, .int .i64 p]) W)) :
  Ct 40 #[.float .f64 x] (.tuple #[.string D, .int .i64 p]) w := by
 go_enter Tryz.func40, Tryz.ntmps40
 go_wp2_with fail
 refine (C5.out _ rfl).mono ?_
 rintro e w1 ⟨rfl, b1⟩
 go_wp2
 go_ret2
 exact ⟨rfl, b1⟩
def CandQ (r : Nat) (n : Int) (k : Nat) (w : World) (e : Ending) (w' : World) : Prop := ∃ (v : Nat) (b : Bool), e = .returned (.tuple #[.int .u64 (v : Int), .bool b]) ∧ (b = true → ∃ c, cnd r n k = some c ∧ v = c * 10 ^ (18 - k)) ∧ (b = false → cnd r n k = none) ∧ Below w.heap.size w w'
def ShortQ (r : Nat) (w : World) (e : Ending) (w' : World) : Prop := ∃ L p, e = .returned (.tuple #[.string (strOf L), .int .i64 p]) ∧ SQ r L p ∧ Below w.heap.size w w'
def UnitAt (r : Nat) (n : Int) (u : Int) (k : Nat) : Prop := 1 ≤ k ∧ k ≤ 17 ∧ u = ((10 ^ (18 - k) : Nat) : Int) ∧ ∀ j, 1 ≤ j → j < k → cnd r n j = none
theorem UnitAt.next {r k : Nat} {n u : Int} (h : UnitAt r n u k) (hn : cnd r n k = none) (h17 : cnd r n 17 ≠ none) : UnitAt r n (IntKind.u64.wrap (u / 10)) (k + 1) ∧ (IntKind.u64.wrap (u / 10)) = u / 10 := by
 obtain ⟨h1, h2, rfl, h4⟩ := h
 have hk : k ≠ 17 := fun h => h17 (h ▸ hn)
 obtain ⟨i, hi⟩ : ∃ i, 18 - k = i + 1 := ⟨17 - k, by omega⟩
 have e1 : ((10 ^ (18 - k) : Nat) : Int) / 10 = ((10 ^ (18 - (k + 1)) : Nat) : Int) := by
  rw [hi, show 18 - (k + 1) = i by omega, Nat.pow_succ]
  omega
 have hle : 10 ^ (18 - (k + 1)) ≤ 10 ^ 18 := Nat.pow_le_pow_right (by omega) (by omega)
 have e2 : IntKind.u64.wrap (((10 ^ (18 - k) : Nat) : Int) / 10) = ((10 ^ (18 - k) : Nat) : Int) / 10 := by
  rw [e1, IntKind.wrap_u64]
  generalize 10 ^ (18 - (k + 1)) = b at *
  omega
 refine ⟨⟨by omega, by omega, by rw [e2, e1], ?_⟩, e2⟩
 intro j hj1 hj2
 rcases Nat.lt_or_ge j k with h | h
 ·exact h4 j hj1 h
 ·rw [show j = k by omega]
  exact hn
theorem UnitAt.bd {r k : Nat} {n u : Int} (h : UnitAt r n u k) : 0 < u ∧ u ≤ 100000000000000000 := by
 obtain ⟨h1, h2, rfl, h4⟩ := h
 have hle : 10 ^ (18 - k) ≤ 10 ^ 17 := Nat.pow_le_pow_right (by omega) (by omega)
 have := ten_pos (18 - k)
 omega
set_option maxRecDepth 100000 in
set_option maxHeartbeats 2000000 in
theorem tshort_frac (x N : Nat) (n s18 m18 : Int) (w : World) (HH LL : Nat) (ex : Bool) (PM : Nat → Prop)
  (t1 : (FloatKind.f64.format.order x 4845873199050653696 == some .lt) = true)
  (hc : ∀ W : World, (convert 22 71 (.float .f64 x)).run Tryz.prog W = .ok (.int .u64 (N : Int)) W)
  (t2 : (FloatKind.f64.format.order x (floatOfInt FloatKind.f64 (N : Int)) == some .eq) = false)
  (h17 : Hid (cnd x n 17 ≠ none)) (k1 : wrap64 (18 - n) = s18) (k2 : wrap64 (n - 18) = m18)
  (C1 : Hid (∀ W, W = w → Cp 54 #[.float .f64 x] W (PartsQ x W)))
  (C2 : Hid (∀ W A c0 n0 m two, NV W A n0 c0 m → PartIs x m two → Ct 94 #[.slice A n0 c0, .int .i64 two] (.int .i64 n) W))
  (C3 : Hid (∀ W A c0 n0 m two, NV W A n0 c0 m → PartIs x m two → Cp 95 #[.slice A n0 c0, .int .i64 two, .int .i64 s18] W fun e w' => ∃ M : Nat, e = .returned (.agg #[.int .u64 (HH : Nat), .bool ex, .int .u64 (LL : Nat), .int .u64 M]) ∧ PM M ∧ Below W.heap.size W w'))
  (C4 : Hid (∀ W M u k, PM M → UnitAt x n u k → Cp 96 #[.agg #[.int .u64 (HH : Nat), .bool ex, .int .u64 (LL : Nat), .int .u64 M], .int .u64 u] W (CandQ x n k W)))
  (C5 : Hid (∀ W u k c, Below w.heap.size w W → UnitAt x n u k → cnd x n k = some c → Cp 93 #[.int .u64 ((c * 10 ^ (18 - k) : Nat) : Int), .int .i64 m18] W (ShortQ x W))) :
  Cp 40 #[.float .f64 x] w (ShortQ x w) := by
 go_enter Tryz.func40, Tryz.ntmps40
 go_wp2_with fail
 refine (C1.out _ rfl).mono ?_
 rintro e w1 ⟨m, two, A, n0, c0, rfl, g1, hp, b1⟩
 have G1 := Lib.hid g1
 have HP := Lib.hid hp
 have B1 := Lib.hid b1
 clear g1 hp b1
 go_wp2_with fail
 refine (C2.out _ _ _ _ _ _ G1.out HP.out).mono ?_
 rintro e w2 ⟨rfl, b2⟩
 have G2 := Lib.hid (G1.out.step b2)
 have B2 := Lib.hid (below_le B1.out b2)
 clear b2
 go_wp2_with fail
 refine (C3.out _ _ _ _ _ _ G2.out HP.out).mono ?_
 rintro e w3 ⟨M, rfl, hM, b3⟩
 have HM := Lib.hid hM
 have B3 := Lib.hid (below_le B2.out b3)
 clear b3 hM
 go_wp2_with fail
 have B4 := Lib.hid (alloc_below (.cells #[.int .u64 (HH : Nat), .bool ex, .int .u64 (LL : Nat), .int .u64 M] 91) B3.out)
 have R4 := Lib.hid (show Rv (w3.alloc (.cells #[.int .u64 (HH : Nat), .bool ex, .int .u64 (LL : Nat), .int .u64 M] 91)) w3.heap.size #[.int .u64 (HH : Nat), .bool ex, .int .u64 (LL : Nat), .int .u64 M] from heap_alloc_last w3 _)
 have S4 := Lib.hid (show w3.heap.size < (w3.alloc (.cells #[.int .u64 (HH : Nat), .bool ex, .int .u64 (LL : Nat), .int .u64 M] 91)).heap.size from by simp)
 have N4 := Lib.hid (show UnitAt x n 100000000000000000 1 from ⟨by omega, by omega, rfl, fun j h1 h2 => by omega⟩)
 obtain ⟨gb, hgb⟩ : ∃ gb, w3.heap.size = gb := ⟨_, rfl⟩
 rw [hgb] at R4 S4 ⊢
 clear hgb
 generalize w3.alloc (.cells #[.int .u64 (HH : Nat), .bool ex, .int .u64 (LL : Nat), .int .u64 M] 91) = w4 at *
 go_loopw [9] (fun u wr => ∃ (v : Int) (k : Nat), u = .int .u64 v ∧ Hid (UnitAt x n v k) ∧ Hid (Rv wr gb #[.int .u64 (HH : Nat), .bool ex, .int .u64 (LL : Nat), .int .u64 M]) ∧ Hid (Below w.heap.size w wr) ∧ Hid (gb < wr.heap.size)) (fun u _ => (intOf u).toNat)
 case atStart => exact ⟨_, 1, rfl, N4, R4, B4, S4⟩
 case round =>
  obtain ⟨v, k, rfl, NK, R5, B5, S5⟩ := hrel
  obtain ⟨v0, v1⟩ := NK.out.bd
  have d0 : wr.cell? ⟨gb, 0, none⟩ = some (.int .u64 (HH : Nat)) := cell_of_row wr gb 0 _ 91 (0, 0) R5.out
  have d1 : wr.cell? ⟨gb, 1, none⟩ = some (.bool ex) := cell_of_row wr gb 1 _ 91 (0, 0) R5.out
  have d2 : wr.cell? ⟨gb, 2, none⟩ = some (.int .u64 (LL : Nat)) := cell_of_row wr gb 2 _ 91 (0, 0) R5.out
  have d3 : wr.cell? ⟨gb, 3, none⟩ = some (.int .u64 M) := cell_of_row wr gb 3 _ 91 (0, 0) R5.out
  go_wp2_with fail
  refine (C4.out _ _ _ _ HM.out NK.out).mono ?_
  rintro e w6 ⟨v', b, rfl, hb1, hb0, b6⟩
  have HB1 := Lib.hid hb1
  have HB0 := Lib.hid hb0
  have B6 := Lib.hid (below_le B5.out b6)
  have R6 := Lib.hid (show Rv w6 gb _ from (b6.block _ S5.out).trans R5.out)
  have S6 := Lib.hid (Nat.lt_of_lt_of_le S5.out b6.size)
  clear hb1 hb0 b6 d0 d1 d2 d3
  cases b
  ·have hn := HB0.out rfl
   obtain ⟨u1, u2⟩ := NK.out.next hn h17.out
   rw [u2] at u1
   have NN := Lib.hid u1
   clear hn u1 u2
   go_wp2
   go_roundw
   case rel => exact ⟨_, k + 1, rfl, NN, R6, B6, S6⟩
   case measure => simp [intOf]; omega
  ·obtain ⟨c, hc, rfl⟩ := HB1.out rfl
   have HC := Lib.hid hc
   clear hc
   go_wp2_with fail
   refine (C5.out _ _ _ _ B6.out NK.out HC.out).mono ?_
   rintro e w7 ⟨L, p, rfl, hq, b7⟩
   have HQ := Lib.hid hq
   have B7 := Lib.hid (below_le B6.out b7)
   clear hq b7
   go_wp2
   go_ret2
   exact ⟨L, p, rfl, HQ.out, B7.out⟩
set_option maxRecDepth 100000 in
set_option maxHeartbeats 2000000 in
theorem tshort_high (x : Nat) (n s18 m18 : Int) (w : World) (HH LL : Nat) (ex : Bool) (PM : Nat → Prop)
  (t1 : (FloatKind.f64.format.order x 4845873199050653696 == some .lt) = false)
  (h17 : Hid (cnd x n 17 ≠ none)) (k1 : wrap64 (18 - n) = s18) (k2 : wrap64 (n - 18) = m18)
  (C1 : Hid (∀ W, W = w → Cp 54 #[.float .f64 x] W (PartsQ x W)))
  (C2 : Hid (∀ W A c0 n0 m two, NV W A n0 c0 m → PartIs x m two → Ct 94 #[.slice A n0 c0, .int .i64 two] (.int .i64 n) W))
  (C3 : Hid (∀ W A c0 n0 m two, NV W A n0 c0 m → PartIs x m two → Cp 95 #[.slice A n0 c0, .int .i64 two, .int .i64 s18] W fun e w' => ∃ M : Nat, e = .returned (.agg #[.int .u64 (HH : Nat), .bool ex, .int .u64 (LL : Nat), .int .u64 M]) ∧ PM M ∧ Below W.heap.size W w'))
  (C4 : Hid (∀ W M u k, PM M → UnitAt x n u k → Cp 96 #[.agg #[.int .u64 (HH : Nat), .bool ex, .int .u64 (LL : Nat), .int .u64 M], .int .u64 u] W (CandQ x n k W)))
  (C5 : Hid (∀ W u k c, Below w.heap.size w W → UnitAt x n u k → cnd x n k = some c → Cp 93 #[.int .u64 ((c * 10 ^ (18 - k) : Nat) : Int), .int .i64 m18] W (ShortQ x W))) :
  Cp 40 #[.float .f64 x] w (ShortQ x w) := by
 go_enter Tryz.func40, Tryz.ntmps40
 go_wp2_with fail
 refine (C1.out _ rfl).mono ?_
 rintro e w1 ⟨m, two, A, n0, c0, rfl, g1, hp, b1⟩
 have G1 := Lib.hid g1
 have HP := Lib.hid hp
 have B1 := Lib.hid b1
 clear g1 hp b1
 go_wp2_with fail
 refine (C2.out _ _ _ _ _ _ G1.out HP.out).mono ?_
 rintro e w2 ⟨rfl, b2⟩
 have G2 := Lib.hid (G1.out.step b2)
 have B2 := Lib.hid (below_le B1.out b2)
 clear b2
 go_wp2_with fail
 refine (C3.out _ _ _ _ _ _ G2.out HP.out).mono ?_
 rintro e w3 ⟨M, rfl, hM, b3⟩
 have HM := Lib.hid hM
 have B3 := Lib.hid (below_le B2.out b3)
 clear b3 hM
 go_wp2_with fail
 have B4 := Lib.hid (alloc_below (.cells #[.int .u64 (HH : Nat), .bool ex, .int .u64 (LL : Nat), .int .u64 M] 91) B3.out)
 have R4 := Lib.hid (show Rv (w3.alloc (.cells #[.int .u64 (HH : Nat), .bool ex, .int .u64 (LL : Nat), .int .u64 M] 91)) w3.heap.size #[.int .u64 (HH : Nat), .bool ex, .int .u64 (LL : Nat), .int .u64 M] from heap_alloc_last w3 _)
 have S4 := Lib.hid (show w3.heap.size < (w3.alloc (.cells #[.int .u64 (HH : Nat), .bool ex, .int .u64 (LL : Nat), .int .u64 M] 91)).heap.size from by simp)
 have N4 := Lib.hid (show UnitAt x n 100000000000000000 1 from ⟨by omega, by omega, rfl, fun j h1 h2 => by omega⟩)
 obtain ⟨gb, hgb⟩ : ∃ gb, w3.heap.size = gb := ⟨_, rfl⟩
 rw [hgb] at R4 S4 ⊢
 clear hgb
 generalize w3.alloc (.cells #[.int .u64 (HH : Nat), .bool ex, .int .u64 (LL : Nat), .int .u64 M] 91) = w4 at *
 go_loopw [9] (fun u wr => ∃ (v : Int) (k : Nat), u = .int .u64 v ∧ Hid (UnitAt x n v k) ∧ Hid (Rv wr gb #[.int .u64 (HH : Nat), .bool ex, .int .u64 (LL : Nat), .int .u64 M]) ∧ Hid (Below w.heap.size w wr) ∧ Hid (gb < wr.heap.size)) (fun u _ => (intOf u).toNat)
 case atStart => exact ⟨_, 1, rfl, N4, R4, B4, S4⟩
 case round =>
  obtain ⟨v, k, rfl, NK, R5, B5, S5⟩ := hrel
  obtain ⟨v0, v1⟩ := NK.out.bd
  have d0 : wr.cell? ⟨gb, 0, none⟩ = some (.int .u64 (HH : Nat)) := cell_of_row wr gb 0 _ 91 (0, 0) R5.out
  have d1 : wr.cell? ⟨gb, 1, none⟩ = some (.bool ex) := cell_of_row wr gb 1 _ 91 (0, 0) R5.out
  have d2 : wr.cell? ⟨gb, 2, none⟩ = some (.int .u64 (LL : Nat)) := cell_of_row wr gb 2 _ 91 (0, 0) R5.out
  have d3 : wr.cell? ⟨gb, 3, none⟩ = some (.int .u64 M) := cell_of_row wr gb 3 _ 91 (0, 0) R5.out
  go_wp2_with fail
  refine (C4.out _ _ _ _ HM.out NK.out).mono ?_
  rintro e w6 ⟨v', b, rfl, hb1, hb0, b6⟩
  have HB1 := Lib.hid hb1
  have HB0 := Lib.hid hb0
  have B6 := Lib.hid (below_le B5.out b6)
  have R6 := Lib.hid (show Rv w6 gb _ from (b6.block _ S5.out).trans R5.out)
  have S6 := Lib.hid (Nat.lt_of_lt_of_le S5.out b6.size)
  clear hb1 hb0 b6 d0 d1 d2 d3
  cases b
  ·have hn := HB0.out rfl
   obtain ⟨u1, u2⟩ := NK.out.next hn h17.out
   rw [u2] at u1
   have NN := Lib.hid u1
   clear hn u1 u2
   go_wp2
   go_roundw
   case rel => exact ⟨_, k + 1, rfl, NN, R6, B6, S6⟩
   case measure => simp [intOf]; omega
  ·obtain ⟨c, hc, rfl⟩ := HB1.out rfl
   have HC := Lib.hid hc
   clear hc
   go_wp2_with fail
   refine (C5.out _ _ _ _ B6.out NK.out HC.out).mono ?_
   rintro e w7 ⟨L, p, rfl, hq, b7⟩
   have HQ := Lib.hid hq
   have B7 := Lib.hid (below_le B6.out b7)
   clear hq b7
   go_wp2
   go_ret2
   exact ⟨L, p, rfl, HQ.out, B7.out⟩

end Go.Proofs.YtfcpkdafkmohkaaGreatDoor
namespace Go.Proofs.YtfcpkdafkmohkaaGreatDoor
open Go.RowKit
theorem point_ex {r m : Nat} {two : Int} (h : PartIs r m two) : ∃ p : Int, PointAt (fmag r) big p ∧ -345 ≤ p ∧ p ≤ 335 := by
 obtain ⟨q1, q2, q3, q4, q5, q6⟩ := h.pos
 have hx := vcross h
 obtain ⟨u1, u2, u3⟩ := bln_bounds q1
 obtain ⟨k, hk⟩ : ∃ k, bln m = k + 1 := ⟨bln m - 1, by omega⟩
 rw [hk] at u1 u2 q2 q3 q4
 rw [Nat.add_sub_cancel] at u1
 obtain ⟨e, he⟩ : ∃ e, (k : Int) + two = e := ⟨_, rfl⟩
 obtain ⟨l1, l2⟩ := lead_at u1 u2 he
 obtain ⟨p1, p2⟩ := point_lg (u := m * 2 ^ two.toNat) (v := 2 ^ (-two).toNat) (e := e) (two_pos _) (by omega) (by omega) l1 l2
 obtain ⟨n1, hn1⟩ : ∃ n1, lg2 e + 1 = n1 := ⟨_, rfl⟩
 have b1 : -345 ≤ n1 ∧ n1 ≤ 333 := by unfold lg2 at hn1; omega
 rw [hn1] at p1 p2
 rw [show lg2 e + 2 = n1 + 1 by omega] at p2
 by_cases hh : le10 n1 (m * 2 ^ two.toNat) (2 ^ (-two).toNat)
 ·exact ⟨n1 + 1, point_cross (two_pos _) big_pos hx (p2 hh), by omega, by omega⟩
 ·exact ⟨n1, point_cross (two_pos _) big_pos hx (p1 hh), by omega, by omega⟩
theorem tpoint_is {w : World} {A : Option Addr} {n0 c0 r m : Nat} {two n : Int} (hA : NV w A n0 c0 m) (h : PartIs r m two) (hp : PointAt (fmag r) big n) :
  Ct 94 #[.slice A n0 c0, .int .i64 two] (.int .i64 n) w := by
 obtain ⟨q1, q2, q3, q4, q5, q6⟩ := h.pos
 obtain ⟨p, p1, p2, p3, hc⟩ := tpoint_any two hA q1 (by omega) (by omega) (by omega)
 have := point_one (point_cross (two_pos _) big_pos (vcross h) p1) hp
 subst this
 exact hc
theorem part_ex {x : Nat} (h0 : 0 < x) (hx : x < 9218868437227405312) : ∃ m two, PartIs x m two := by
 obtain ⟨k, m, h⟩ := odd_part _ (fwhole_pos h0).1
 exact ⟨_, _, parts_is h0 hx h⟩
theorem flo_of (N : Nat) : floatOfInt FloatKind.f64 (N : Int) = fl N := rfl
theorem tz_on {w w' : World} (h : TzTab w) (hb : Below w.heap.size w w') : TzTab w' := by
 intro i hi
 have h1 := h i hi
 have hlt : 1 < w.heap.size := by
  rcases Nat.lt_or_ge 1 w.heap.size with h2 | h2
  ·exact h2
  ·rw [World.cell?, Array.getElem?_eq_none h2] at h1
   cases h1
 rw [hb.cell (p := ⟨1, i, none⟩) hlt]
 exact h1
theorem tshortest_any (x : Nat) (w : World) (h0 : 0 < x) (hx : x < 9218868437227405312) (ht : Tab10 w) (hz : TzTab w) : Cp 40 #[.float .f64 x] w (ShortQ x w) := by
 obtain ⟨m0, two0, hp0⟩ := part_ex h0 hx
 obtain ⟨n, hn, n1, n2⟩ := point_ex hp0
 have h17 := Lib.hid (cnd_ends hn h0 hx)
 obtain ⟨T, hT⟩ : ∃ T, fmag x / big = T := ⟨_, rfl⟩
 have C1 : Hid (∀ W, W = w → Cp 54 #[.float .f64 x] W (PartsQ x W)) := Lib.hid (fun W (h : W = w) => by
  subst h
  exact pparts_pos x W h0 hx hz)
 have C2 := Lib.hid (fun W A c0 n0 m two (h : NV W A n0 c0 m) (hp : PartIs x m two) => tpoint_is h hp hn)
 have C3 : Hid (∀ W A c0 n0 m two, NV W A n0 c0 m → PartIs x m two → Cp 95 #[.slice A n0 c0, .int .i64 two, .int .i64 (18 - n)] W fun e w' => ∃ M : Nat, e = .returned (.agg #[.int .u64 ((vU x (18 - n) / vV (18 - n) : Nat) : Int), .bool (decide (vU x (18 - n) % vV (18 - n) = 0)), .int .u64 ((leastOf (vV (18 - n)) (10 ^ ((18 : Int) - n).toNat) x : Nat) : Int), .int .u64 M]) ∧ (∀ c, c ≤ M ↔ mostLe (vV (18 - n)) (10 ^ ((18 : Int) - n).toNat) x c) ∧ Below W.heap.size W w') :=
  Lib.hid (fun W A c0 n0 m two h hp => tspan_any h hp h0 hn n1 n2)
 obtain ⟨hH, _⟩ := here_lt hn
 have C4 : Hid (∀ W M u k, (∀ c, c ≤ M ↔ mostLe (vV (18 - n)) (10 ^ ((18 : Int) - n).toNat) x c) → UnitAt x n u k → Cp 96 #[.agg #[.int .u64 ((vU x (18 - n) / vV (18 - n) : Nat) : Int), .bool (decide (vU x (18 - n) % vV (18 - n) = 0)), .int .u64 ((leastOf (vV (18 - n)) (10 ^ ((18 : Int) - n).toNat) x : Nat) : Int), .int .u64 M], .int .u64 u] W (CandQ x n k W)) :=
  Lib.hid (fun W M u k hM hu => by
   obtain ⟨b1, b2⟩ := hu.bd
   obtain ⟨k1, k2, rfl, _⟩ := hu
   refine (tcand_any _ _ M (10 ^ (18 - k)) _ W (ten_pos _) (by omega)).mono ?_
   rintro e w' ⟨rfl, hw⟩
   rw [pcn_cnd (k := k) (i := 18 - k) (by omega) (by omega) h0 hx hM]
   unfold candV
   refine ⟨_, _, rfl, ?_, ?_, hw⟩
   ·intro h
    cases hc : cnd x n k with
    | none => rw [hc] at h; cases h
    | some c => exact ⟨c, rfl, rfl⟩
   ·intro h
    cases hc : cnd x n k with
    | none => rfl
    | some c => rw [hc] at h; cases h)
 have C5 : Hid (∀ W u k c, Below w.heap.size w W → UnitAt x n u k → cnd x n k = some c → Cp 93 #[.int .u64 ((c * 10 ^ (18 - k) : Nat) : Int), .int .i64 (n - 18)] W (ShortQ x W)) :=
  Lib.hid (fun W u k c hW hu hc => by
   obtain ⟨k1, k2, _, k4⟩ := hu
   have hl := cnd_last hn k1 k4 hc
   have hlt : c * 10 ^ (18 - k) < 10 ^ 19 := by
    have h10 : c ≤ 10 ^ k := by
     rcases hl with ⟨_, _, h⟩ | ⟨h1, h2⟩
     ·omega
     ·rw [h1, h2]; omega
    have h1 : c * 10 ^ (18 - k) ≤ 10 ^ k * 10 ^ (18 - k) := Nat.mul_le_mul_right _ h10
    rw [← Nat.pow_add, show k + (18 - k) = 18 by omega] at h1
    omega
   refine (ttrimmed_any (c * 10 ^ (18 - k)) (n - 18) W (by omega) (by omega) (by omega) (ht.on hW)).mono ?_
   rintro e w' ⟨rfl, hw⟩
   have hc0 : 0 < c := by
    rcases hl with ⟨h, _⟩ | ⟨_, h⟩ <;> omega
   rw [dL_zeros hc0, trz_rep, List.length_append, List.length_replicate]
   refine ⟨_, _, rfl, ⟨n, k, c, hn, k1, k2, k4, hc, rfl, ?_⟩, hw⟩
   omega)
 rcases Nat.lt_or_ge x 4845873199050653696 with hlt | hge
 ·have hTl := trunc_lt hlt
  rw [hT] at hTl
  have t1 : (FloatKind.f64.format.order x 4845873199050653696 == some .lt) = true := by rw [ord_lt_pos (by omega) (by omega)]; exact decide_eq_true hlt
  have hcv := fun W => conv_u64 hx hT (by omega) W
  have heq := float_whole (x := x) hx hTl
  rw [← flo_of] at heq
  by_cases hw : fmag x = T * big
  ·rw [decide_eq_true hw] at heq
   have hT0 : 0 < T := by
    rcases Nat.eq_zero_or_pos T with h | h
    ·rw [h, Nat.zero_mul] at hw
     have := fmag_pos.2 h0
     omega
    ·exact h
   refine (tshort_whole x T w _ _ t1 hcv heq (Lib.hid fun W h => by
    subst h
    exact ttrimmed_any T 0 W (by omega) (by omega) (by omega) ht)).mono ?_
   rintro e w' ⟨rfl, hb⟩
   refine ⟨_, _, rfl, ?_, hb⟩
   have := sq_whole hT0 hTl hx hw
   rw [Int.add_zero]
   exact this
  ·rw [decide_eq_false hw] at heq
   exact tshort_frac x T n _ _ w _ _ _ _ t1 hcv heq h17 (by unfold wrap64; omega) (by unfold wrap64; omega) C1 C2 C3 C4 C5
 ·have t1 : (FloatKind.f64.format.order x 4845873199050653696 == some .lt) = false := by rw [ord_lt_pos (by omega) (by omega)]; exact decide_eq_false (by omega)
  exact tshort_high x n _ _ w _ _ _ _ t1 h17 (by unfold wrap64; omega) (by unfold wrap64; omega) C1 C2 C3 C4 C5

end Go.Proofs.YtfcpkdafkmohkaaGreatDoor
namespace Go.Proofs.YtfcpkdafkmohkaaGreatDoor
open Go.RowKit
set_option maxRecDepth 100000 in
set_option maxHeartbeats 1000000 in
theorem tsigned_00nan (x : Nat) (f : FuncId) (F : ByteArray) (w : World) (t0 : (FloatKind.f64.format.order x 0 == some .lt) = false)
  (CN : Hid (∀ W, Cq 34 #[.float .f64 x] (.bool true) W))
  (CW : Hid (∀ W, Ct 41 #[.string ⟨#[78, 97, 78]⟩] (.string F) W)) :
  Ct 43 #[.float .f64 x, .func (Fn.func f) #[] #[]] (.string F) w := by
 go_enter Tryz.func43, Tryz.ntmps43
 go_wp2_with fail
 refine (CN.out _).mono ?_
 rintro e w' ⟨rfl, rfl⟩
 go_wp2_with fail
 refine (CW.out _).mono ?_
 rintro e w2 ⟨rfl, b2⟩
 have B2 := Lib.hid (below_le (Below.refl _ _) b2)
 clear b2
 go_wp2
 go_ret
 exact ⟨rfl, B2.out⟩
set_option maxRecDepth 100000 in
set_option maxHeartbeats 1000000 in
theorem tsigned_00inf (x : Nat) (f : FuncId) (F : ByteArray) (w : World) (t0 : (FloatKind.f64.format.order x 0 == some .lt) = false)
  (CN : Hid (∀ W, Cq 34 #[.float .f64 x] (.bool false) W))
  (CI : Hid (∀ W, Cq 36 #[.float .f64 x, .int .i64 0] (.bool true) W))
  (CW : Hid (∀ W, Ct 41 #[.string ⟨#[73, 110, 102, 105, 110, 105, 116, 121]⟩] (.string F) W)) :
  Ct 43 #[.float .f64 x, .func (Fn.func f) #[] #[]] (.string F) w := by
 go_enter Tryz.func43, Tryz.ntmps43
 go_wp2_with fail
 refine (CN.out _).mono ?_
 rintro e w' ⟨rfl, rfl⟩
 go_wp2_with fail
 refine (CI.out _).mono ?_
 rintro e w' ⟨rfl, rfl⟩
 go_wp2_with fail
 refine (CW.out _).mono ?_
 rintro e w2 ⟨rfl, b2⟩
 have B2 := Lib.hid (below_le (Below.refl _ _) b2)
 clear b2
 go_wp2
 go_ret
 exact ⟨rfl, B2.out⟩
set_option maxRecDepth 100000 in
set_option maxHeartbeats 1000000 in
theorem tsigned_00fin (x : Nat) (f : FuncId) (R S : ByteArray) (r : Nat) (F : ByteArray) (w : World) (t0 : (FloatKind.f64.format.order x 0 == some .lt) = false)
  (CN : Hid (∀ W, Cq 34 #[.float .f64 x] (.bool false) W))
  (CI : Hid (∀ W, Cq 36 #[.float .f64 x, .int .i64 0] (.bool false) W))
  (CA : Hid (∀ W, Cq 52 #[.float .f64 x] (.float .f64 r) W))
  (he : ∀ args (W : World), (callFunc f args).run Tryz.prog W = .ok (.enter f args) W)
  (CT : Hid (∀ W, W = w → Ct f #[.float .f64 r] (.string R) W))
  (hR : Hid (R.size ≤ 1000000)) (hS : ⟨#[]⟩ ++ R = S)
  (CW : Hid (∀ W, Ct 41 #[.string S] (.string F) W)) :
  Ct 43 #[.float .f64 x, .func (Fn.func f) #[] #[]] (.string F) w := by
 have g1 : ¬ 9223372036854775807 < R.size := by have := hR.out; omega
 go_enter Tryz.func43, Tryz.ntmps43
 go_wp2_with fail
 refine (CN.out _).mono ?_
 rintro e w' ⟨rfl, rfl⟩
 go_wp2_with fail
 refine (CI.out _).mono ?_
 rintro e w' ⟨rfl, rfl⟩
 go_wp2_with fail
 refine (CA.out _).mono ?_
 rintro e w' ⟨rfl, rfl⟩
 go_wp2_with fail
 refine (CT.out _ rfl).mono ?_
 rintro e w1 ⟨rfl, b1⟩
 have B1 := Lib.hid b1
 clear b1
 go_wp2_with fail
 refine (CW.out _).mono ?_
 rintro e w2 ⟨rfl, b2⟩
 have B2 := Lib.hid (below_le B1.out b2)
 clear b2
 go_wp2
 go_ret
 exact ⟨rfl, B2.out⟩
set_option maxRecDepth 100000 in
set_option maxHeartbeats 1000000 in
theorem tsigned_01inf (x : Nat) (f : FuncId) (F : ByteArray) (w : World) (t0 : (FloatKind.f64.format.order x 0 == some .lt) = true)
  (CN : Hid (∀ W, Cq 34 #[.float .f64 x] (.bool false) W))
  (CI : Hid (∀ W, Cq 36 #[.float .f64 x, .int .i64 0] (.bool true) W))
  (CW : Hid (∀ W, Ct 41 #[.string ⟨#[45, 73, 110, 102, 105, 110, 105, 116, 121]⟩] (.string F) W)) :
  Ct 43 #[.float .f64 x, .func (Fn.func f) #[] #[]] (.string F) w := by
 go_enter Tryz.func43, Tryz.ntmps43
 go_wp2_with fail
 refine (CN.out _).mono ?_
 rintro e w' ⟨rfl, rfl⟩
 go_wp2_with fail
 refine (CI.out _).mono ?_
 rintro e w' ⟨rfl, rfl⟩
 go_wp2_with fail
 refine (CW.out _).mono ?_
 rintro e w2 ⟨rfl, b2⟩
 have B2 := Lib.hid (below_le (Below.refl _ _) b2)
 clear b2
 go_wp2
 go_ret
 exact ⟨rfl, B2.out⟩
set_option maxRecDepth 100000 in
set_option maxHeartbeats 1000000 in
theorem tsigned_01fin (x : Nat) (f : FuncId) (R S : ByteArray) (r : Nat) (F : ByteArray) (w : World) (t0 : (FloatKind.f64.format.order x 0 == some .lt) = true)
  (CN : Hid (∀ W, Cq 34 #[.float .f64 x] (.bool false) W))
  (CI : Hid (∀ W, Cq 36 #[.float .f64 x, .int .i64 0] (.bool false) W))
  (CA : Hid (∀ W, Cq 52 #[.float .f64 x] (.float .f64 r) W))
  (he : ∀ args (W : World), (callFunc f args).run Tryz.prog W = .ok (.enter f args) W)
  (CT : Hid (∀ W, W = w → Ct f #[.float .f64 r] (.string R) W))
  (hR : Hid (R.size ≤ 1000000)) (hS : ⟨#[45]⟩ ++ R = S)
  (CW : Hid (∀ W, Ct 41 #[.string S] (.string F) W)) :
  Ct 43 #[.float .f64 x, .func (Fn.func f) #[] #[]] (.string F) w := by
 have g1 : ¬ 9223372036854775807 < 1 + R.size := by have := hR.out; omega
 go_enter Tryz.func43, Tryz.ntmps43
 go_wp2_with fail
 refine (CN.out _).mono ?_
 rintro e w' ⟨rfl, rfl⟩
 go_wp2_with fail
 refine (CI.out _).mono ?_
 rintro e w' ⟨rfl, rfl⟩
 go_wp2_with fail
 refine (CA.out _).mono ?_
 rintro e w' ⟨rfl, rfl⟩
 go_wp2_with fail
 refine (CT.out _ rfl).mono ?_
 rintro e w1 ⟨rfl, b1⟩
 have B1 := Lib.hid b1
 clear b1
 go_wp2_with fail
 refine (CW.out _).mono ?_
 rintro e w2 ⟨rfl, b2⟩
 have B2 := Lib.hid (below_le B1.out b2)
 clear b2
 go_wp2
 go_ret
 exact ⟨rfl, B2.out⟩
end Go.Proofs.YtfcpkdafkmohkaaGreatDoor
namespace Go.Proofs.YtfcpkdafkmohkaaGreatDoor
open Go.RowKit
set_option maxRecDepth 100000 in
theorem tplain_zero (x : Nat) (w : World) (t0 : (FloatKind.f64.format.order x 0 == some .eq) = true) : Cq 44 #[.float .f64 x] (.string ⟨#[48]⟩) w := by
 go_enter Tryz.func44, Tryz.ntmps44
 go_wp2
 go_ret
 exact ⟨rfl, rfl⟩
set_option maxRecDepth 100000 in
set_option maxHeartbeats 1000000 in
theorem tplain_low (x : Nat) (N : Int) (S F : ByteArray) (w : World) (t0 : (FloatKind.f64.format.order x 0 == some .eq) = false) (b1 : -1000 ≤ N) (b2 : N ≤ 1000) (h1 : N ≤ -6)
  (CS : Hid (∀ W, Below w.heap.size w W → Ct 59 #[.string S, .int .i64 (N - 1)] (.string F) W))
  (C : Hid (∀ W, W = w → Ct 40 #[.float .f64 x] (.tuple #[.string S, .int .i64 N]) W)) :
  Ct 44 #[.float .f64 x] (.string F) w := by
 go_enter Tryz.func44, Tryz.ntmps44
 go_wp2_with fail
 refine (C.out _ rfl).mono ?_
 rintro e w1 ⟨rfl, b1'⟩
 have B1 := Lib.hid b1'
 clear b1'
 go_wp2_with fail
 refine (CS.out _ B1.out).mono ?_
 rintro e w2 ⟨rfl, b2'⟩
 have B2 := Lib.hid (below_le B1.out b2')
 clear b2'
 go_wp2
 go_ret
 exact ⟨rfl, B2.out⟩
set_option maxRecDepth 100000 in
set_option maxHeartbeats 1000000 in
theorem tplain_high (x : Nat) (N : Int) (S F : ByteArray) (w : World) (t0 : (FloatKind.f64.format.order x 0 == some .eq) = false) (b1 : -1000 ≤ N) (b2 : N ≤ 1000) (h1 : 21 < N)
  (CS : Hid (∀ W, Below w.heap.size w W → Ct 59 #[.string S, .int .i64 (N - 1)] (.string F) W))
  (C : Hid (∀ W, W = w → Ct 40 #[.float .f64 x] (.tuple #[.string S, .int .i64 N]) W)) :
  Ct 44 #[.float .f64 x] (.string F) w := by
 have h2 : ¬ N ≤ -6 := by omega
 go_enter Tryz.func44, Tryz.ntmps44
 go_wp2_with fail
 refine (C.out _ rfl).mono ?_
 rintro e w1 ⟨rfl, b1'⟩
 have B1 := Lib.hid b1'
 clear b1'
 go_wp2_with fail
 refine (CS.out _ B1.out).mono ?_
 rintro e w2 ⟨rfl, b2'⟩
 have B2 := Lib.hid (below_le B1.out b2')
 clear b2'
 go_wp2
 go_ret
 exact ⟨rfl, B2.out⟩
set_option maxRecDepth 100000 in
set_option maxHeartbeats 1000000 in
theorem tplain_whole (x : Nat) (N : Int) (n z : Nat) (S F : ByteArray) (w : World) (t0 : (FloatKind.f64.format.order x 0 == some .eq) = false) (b1 : -1000 ≤ N) (b2 : N ≤ 1000) (h1 : -6 < N) (h2 : N ≤ 21) (hn : S.size = n) (h3 : (n : Int) ≤ N) (hz : N - (n : Int) = (z : Int)) (Z : ByteArray) (hZ : Hid (Z.size ≤ 1000)) (hF : S ++ Z = F)
  (CR : Hid (∀ W, Ct 106 #[.string ⟨#[48]⟩, .int .i64 z] (.string Z) W))
  (C : Hid (∀ W, W = w → Ct 40 #[.float .f64 x] (.tuple #[.string S, .int .i64 N]) W)) :
  Ct 44 #[.float .f64 x] (.string F) w := by
 have h4 : ¬ N ≤ -6 := by omega
 have h5 : ¬ 21 < N := by omega
 have h6 : 0 ≤ (n : Int) := by omega
 have g1 : ¬ 9223372036854775807 < n + Z.size := by have := hZ.out; omega
 have hzz := Lib.hid hz
 go_enter Tryz.func44, Tryz.ntmps44
 go_wp2_with fail
 refine (C.out _ rfl).mono ?_
 rintro e w1 ⟨rfl, b1'⟩
 have B1 := Lib.hid b1'
 clear b1'
 go_wp2_with fail
 refine (CR.out _).mono ?_
 rintro e w2 ⟨rfl, b2'⟩
 have B2 := Lib.hid (below_le B1.out b2')
 clear b2'
 go_wp2
 go_ret
 exact ⟨rfl, B2.out⟩
set_option maxRecDepth 100000 in
set_option maxHeartbeats 1000000 in
theorem tplain_point (x : Nat) (N : Int) (n z : Nat) (S F : ByteArray) (w : World) (t0 : (FloatKind.f64.format.order x 0 == some .eq) = false) (b1 : -1000 ≤ N) (b2 : N ≤ 1000) (h1 : -6 < N) (h2 : N ≤ 21) (hn : S.size = n) (h3 : N < (n : Int)) (hn2 : (n : Int) ≤ 1000) (hz : (n : Int) - N = (z : Int))
  (CP : Hid (∀ W, Ct 55 #[.string S, .int .i64 z] (.string F) W))
  (C : Hid (∀ W, W = w → Ct 40 #[.float .f64 x] (.tuple #[.string S, .int .i64 N]) W)) :
  Ct 44 #[.float .f64 x] (.string F) w := by
 have h4 : ¬ N ≤ -6 := by omega
 have h5 : ¬ 21 < N := by omega
 have h7 : ¬ (n : Int) ≤ N := by omega
 go_enter Tryz.func44, Tryz.ntmps44
 go_wp2_with fail
 refine (C.out _ rfl).mono ?_
 rintro e w1 ⟨rfl, b1'⟩
 have B1 := Lib.hid b1'
 clear b1'
 go_wp2_with fail
 refine (CP.out _).mono ?_
 rintro e w2 ⟨rfl, b2'⟩
 have B2 := Lib.hid (below_le B1.out b2')
 clear b2'
 go_wp2
 go_ret
 exact ⟨rfl, B2.out⟩

end Go.Proofs.YtfcpkdafkmohkaaGreatDoor
namespace Go.Proofs.YtfcpkdafkmohkaaGreatDoor
open Go.RowKit
theorem SQ.form {r : Nat} {D : List Nat} {N : Int} (h : SQ r D N) : ∃ d, d % 10 ≠ 0 ∧ D = dL d ∧ D.length ≤ 17 ∧ decR d (N - D.length) = r := by
 obtain ⟨n, k, c, h1, h2, h3, h4, h5, h6, h7⟩ := h
 have hd := (cnd_some h5).2
 rcases cnd_last h1 h2 h4 h5 with ⟨g1, g2, g3⟩ | ⟨g1, g2⟩
 ·obtain ⟨j, rfl⟩ : ∃ j, k = j + 1 := ⟨k - 1, by omega⟩
  have hl := dL_len (n := c) (k := j) g2 g3
  have e := dL_last g1
  rw [e] at h6
  refine ⟨c, g1, h6, by rw [h6, hl]; exact h3, ?_⟩
  rw [h6, h7, show ((dL c).length : Int) + n - ((j + 1 : Nat) : Int) - ((dL c).length : Int) = n - ((j + 1 : Nat) : Int) by omega]
  exact hd
 ·subst g1 g2
  have e : dL 10 = [49, 48] := by rw [dL_big (by omega), dL_small (by omega)]; rfl
  have e1 : dL 1 = [49] := dL_small (by omega)
  have h8 := decR_shift 1 1 (n - 1)
  rw [show 1 * 10 ^ 1 = 10 from rfl, show n - 1 + ((1 : Nat) : Int) = n by omega] at h8
  rw [e] at h6 h7
  have h9 : D = [49] := h6
  refine ⟨1, by omega, by rw [h9, e1], by rw [h9]; simp, ?_⟩
  rw [h9, h7, show (([49, 48] : List Nat).length : Int) + n - ((1 : Nat) : Int) - (([49] : List Nat).length : Int) = n by simp; omega]
  rw [← h8]
  exact hd
theorem SQ.bd {r : Nat} {D : List Nat} {N : Int} (h : SQ r D N) (h0 : 0 < r) (hr : r < 9218868437227405312) : -400 ≤ N ∧ N ≤ 400 ∧ 1 ≤ D.length ∧ D.length ≤ 17 ∧ (∀ c ∈ D, c < 256) := by
 obtain ⟨d, _, hD, hl, _⟩ := h.form
 obtain ⟨n, k, c, h1, h2, h3, h4, h5, h6, h7⟩ := h
 obtain ⟨m, two, hp⟩ := part_ex h0 hr
 obtain ⟨p, p1, p2, p3⟩ := point_ex hp
 have := point_one h1 p1
 subst this
 have hc : (dL c).length ≤ 18 ∧ 1 ≤ (dL c).length := by
  refine ⟨?_, dL_pos c⟩
  have hlt : c < 10 ^ 18 := by
   rcases cnd_last h1 h2 h4 h5 with ⟨_, _, g⟩ | ⟨_, g⟩
   ·have := Nat.pow_le_pow_right (n := 10) (by omega) (show k ≤ 18 by omega)
    omega
   ·omega
  exact dL_le hlt (by omega)
 refine ⟨by omega, by omega, ?_, hl, ?_⟩
 ·rw [hD]; exact dL_pos d
 ·intro x hx
  rw [hD] at hx
  have := dg10_iff.1 (dL_dig d x hx)
  omega
theorem sq_ex {r : Nat} (h0 : 0 < r) (hr : r < 9218868437227405312) : ∃ D N, SQ r D N := by
 obtain ⟨m, two, hp⟩ := part_ex h0 hr
 obtain ⟨n, hn, _, _⟩ := point_ex hp
 have h17 := cnd_ends hn h0 hr
 have key : ∀ i, i ≤ 16 → (∀ j, 1 ≤ j → j < 17 - i → cnd r n j = none) → ∃ k, 1 ≤ k ∧ k ≤ 17 ∧ (∀ j, 1 ≤ j → j < k → cnd r n j = none) ∧ cnd r n k ≠ none := by
  intro i
  induction i with
  | zero =>
   intro _ h
   exact ⟨17, by omega, by omega, h, h17⟩
  | succ i ih =>
   intro hi h
   by_cases hc : cnd r n (17 - (i + 1)) = none
   ·refine ih (by omega) ?_
    intro j hj1 hj2
    rcases Nat.lt_or_ge j (17 - (i + 1)) with h2 | h2
    ·exact h j hj1 h2
    ·rw [show j = 17 - (i + 1) by omega]
     exact hc
   ·exact ⟨17 - (i + 1), by omega, by omega, h, hc⟩
 obtain ⟨k, k1, k2, k3, k4⟩ := key 16 (by omega) (fun j h1 h2 => by omega)
 cases hc : cnd r n k with
 | none => exact absurd hc k4
 | some c => exact ⟨_, _, n, k, c, hn, k1, k2, k3, hc, rfl, rfl⟩
def plL (D : List Nat) (N : Int) : List Nat :=
 if N ≤ -6 ∨ 21 < N then scL D (N - 1) else if (D.length : Int) ≤ N then D ++ List.replicate (N - D.length).toNat 48 else ptL D ((D.length : Int) - N).toNat
def PlQ (r : Nat) (L : List Nat) : Prop := (r = 0 ∧ L = [48]) ∨ (0 < r ∧ ∃ D N, SQ r D N ∧ L = plL D N)
theorem plq_ex {r : Nat} (hr : r < 9218868437227405312) : ∃ L, PlQ r L := by
 rcases Nat.eq_zero_or_pos r with h | h
 ·exact ⟨_, .inl ⟨h, rfl⟩⟩
 ·obtain ⟨D, N, hq⟩ := sq_ex h hr
  exact ⟨_, .inr ⟨h, D, N, hq, rfl⟩⟩
theorem scL_lt {l : List Nat} {e : Int} (hl : ∀ c ∈ l, c < 256) : ∀ c ∈ scL l e, c < 256 := by
 intro c hc
 unfold scL at hc
 rw [List.mem_append, List.mem_append] at hc
 rcases hc with (hc | hc) | hc
 ·exact mnL_lt hl c hc
 ·unfold sgL at hc
  split at hc <;> simp at hc <;> omega
 ·have := dg10_iff.1 (dL_dig _ c hc)
  omega
theorem ptL_lt {l : List Nat} {k : Nat} (hl : ∀ c ∈ l, c < 256) : ∀ c ∈ ptL l k, c < 256 := by
 intro c hc
 unfold ptL at hc
 split at hc
 ·exact hl c hc
 ·rw [List.mem_append, List.mem_cons] at hc
  rcases hc with hc | rfl | hc
  ·exact mem_rep hl c (List.mem_of_mem_take hc)
  ·omega
  ·exact mem_rep hl c (List.mem_of_mem_drop hc)
theorem scL_len {l : List Nat} {e : Int} (he : e.natAbs < 10 ^ 6) : (scL l e).length ≤ l.length + 10 := by
 unfold scL
 rw [List.length_append, List.length_append]
 have h1 := mnL_len l
 have h2 : (sgL e).length = 2 := by unfold sgL; split <;> rfl
 have h3 := dL_le he (by omega)
 omega
theorem PlQ.bd {r : Nat} {L : List Nat} (hr : r < 9218868437227405312) (h : PlQ r L) : (∀ c ∈ L, c < 256) ∧ L.length ≤ 1000 := by
 rcases h with ⟨_, rfl⟩ | ⟨h0, D, N, hq, rfl⟩
 ·exact ⟨by simp, by simp⟩
 ·obtain ⟨b1, b2, b3, b4, b5⟩ := hq.bd h0 hr
  unfold plL
  split
  ·exact ⟨scL_lt b5, Nat.le_trans (scL_len (by omega)) (by omega)⟩
  ·split
   ·refine ⟨?_, by rw [List.length_append, List.length_replicate]; omega⟩
    intro c hc
    rw [List.mem_append, List.mem_replicate] at hc
    rcases hc with hc | ⟨_, rfl⟩
    ·exact b5 c hc
    ·omega
   ·refine ⟨ptL_lt b5, ?_⟩
    by_cases hz : ((D.length : Int) - N).toNat = 0
    ·unfold ptL; rw [if_pos hz]; omega
    ·rw [ptL_len _ _ hz]; omega
theorem tshortest_is {x : Nat} {D : List Nat} {N : Int} {w : World} (h0 : 0 < x) (hx : x < 9218868437227405312) (ht : Tab10 w) (hz : TzTab w) (h : SQ x D N) :
  Ct 40 #[.float .f64 x] (.tuple #[.string (strOf D), .int .i64 N]) w := by
 refine (tshortest_any x w h0 hx ht hz).mono ?_
 rintro e w' ⟨L, p, rfl, hq, hb⟩
 obtain ⟨rfl, rfl⟩ := h.one hq
 exact ⟨rfl, hb⟩
theorem tplain_any {r : Nat} {L : List Nat} {w : World} (hr : r < 9218868437227405312) (ht : Tab10 w) (hz : TzTab w) (h : PlQ r L) :
  Ct 44 #[.float .f64 r] (.string (strOf L)) w := by
 rcases h with ⟨rfl, rfl⟩ | ⟨h0, D, N, hq, rfl⟩
 ·refine (tplain_zero 0 w (by rw [ord_eq_pos (by omega) (by omega)]; rfl)).mono ?_
  rintro e w' ⟨rfl, rfl⟩
  exact ⟨rfl, Below.refl _ _⟩
 ·obtain ⟨b1, b2, b3, b4, b5⟩ := hq.bd h0 hr
  have t0 : (FloatKind.f64.format.order r 0 == some .eq) = false := by rw [ord_eq_pos (by omega) (by omega)]; exact decide_eq_false (by omega)
  have C : Hid (∀ W, W = w → Ct 40 #[.float .f64 r] (.tuple #[.string (strOf D), .int .i64 N]) W) := Lib.hid (fun W hW => by
   subst hW
   exact tshortest_is h0 hr ht hz hq)
  have CS := Lib.hid (fun W (hW : Below w.heap.size w W) => tscientific_any D (N - 1) W b5 b3 (by omega) (by omega) (by omega) (ht.on hW))
  unfold plL
  by_cases h1 : N ≤ -6
  ·rw [if_pos (.inl h1)]
   exact tplain_low r N _ _ w t0 (by omega) (by omega) h1 CS C
  ·by_cases h2 : 21 < N
   ·rw [if_pos (.inr h2)]
    exact tplain_high r N _ _ w t0 (by omega) (by omega) h2 CS C
   ·rw [if_neg (by omega)]
    by_cases h3 : (D.length : Int) ≤ N
    ·rw [if_pos h3]
     exact tplain_whole r N D.length (N - D.length).toNat _ _ w t0 (by omega) (by omega) (by omega) (by omega) (strOf_size D) h3 (by omega) (strOf (List.replicate (N - D.length).toNat 48)) (Lib.hid (by rw [strOf_size, List.length_replicate]; omega)) (strOf_append _ _) (Lib.hid fun W => trepeat_any _ W (by omega)) C
    ·rw [if_neg h3]
     exact tplain_point r N D.length ((D.length : Int) - N).toNat _ _ w t0 (by omega) (by omega) (by omega) (by omega) (strOf_size D) (by omega) (by omega) (by omega) (Lib.hid fun W => tpointed_any D _ W b5 (by omega) (by omega)) C
def wdS (L : List Nat) : ByteArray := ⟨(bL L).toArray⟩
theorem twide_any (L : List Nat) (w : World) (hL : ∀ c ∈ L, c < 256) (hl : L.length ≤ 100000) : Ct 41 #[.string (strOf L)] (.string (wdS L)) w := by
 have h := wide_any (strOf L) w (by rw [strOf_size]; omega)
 rw [show wdL (strOf L) = bl (strOf L) from bl_data _, bl_strOf hL] at h
 exact h
theorem vwide_any (L : List Nat) (w : World) (hL : ∀ c ∈ L, c < 256) (hl : L.length ≤ 100000) : Ct 38 #[.string (strOf L)] (.string (wdS L)) w := by
 have h := rwide_any (strOf L) w (by rw [strOf_size]; omega)
 rw [show wdL (strOf L) = bl (strOf L) from bl_data _, bl_strOf hL] at h
 exact h
def ngB (x : Nat) : Bool := fneg x && decide (0 < rung x)
theorem ord_neg (x : Nat) : (FloatKind.f64.format.order x 0 == some .lt) = (!fnan x && ngB x) := by
 unfold ngB fnan
 rcases Nat.lt_or_ge 9218868437227405312 (rung x) with h | h
 ·rw [show FloatKind.f64.format.order x 0 = Ieee.double.order x 0 from rfl, order_nan (.inl h), decide_eq_true h]
  rfl
 ·obtain ⟨a1, a2⟩ := frank_pos (x := 0) (by omega)
  rw [show FloatKind.f64.format.order x 0 = Ieee.double.order x 0 from rfl, order_eq h (by omega), a1, decide_eq_false (by omega), Bool.eq_iff_iff, beq_iff_eq, Option.some.injEq, Int.compare_eq_lt]
  unfold frank
  cases fneg x
  ·simp
  ·simp
def sgx (x : Nat) : List Nat := if ngB x = true then [45] else []
def SgQ (T : Nat → List Nat → Prop) (x : Nat) (L : List Nat) : Prop :=
 (fnan x = true ∧ L = [78, 97, 78]) ∨ (fnan x = false ∧ finf x = true ∧ L = sgx x ++ infL) ∨ (fnan x = false ∧ finf x = false ∧ ∃ l, T (rung x) l ∧ L = sgx x ++ l)
theorem fin_rung {x : Nat} (h1 : fnan x = false) (h2 : finf x = false) : rung x < 9218868437227405312 := by
 have := of_decide_eq_false h1
 have := of_decide_eq_false h2
 omega
set_option maxHeartbeats 1000000 in
theorem tsigned_any {T : Nat → List Nat → Prop} {x : Nat} {L : List Nat} {w : World} (f : FuncId) (hx : x < 18446744073709551616)
  (he : ∀ args (W : World), (callFunc f args).run Tryz.prog W = .ok (.enter f args) W)
  (hT : ∀ r l, r < 9218868437227405312 → T r l → (∀ c ∈ l, c < 256) ∧ l.length ≤ 99000 ∧ Ct f #[.float .f64 r] (.string (strOf l)) w)
  (h : SgQ T x L) : Ct 43 #[.float .f64 x, .func (Fn.func f) #[] #[]] (.string (wdS L)) w := by
 have t0 := ord_neg x
 have CN := fun W => isNaN_any x W
 have CI := fun W => isInf0_any x W hx
 rcases h with ⟨h1, rfl⟩ | ⟨h1, h2, rfl⟩ | ⟨h1, h2, l, h3, rfl⟩
 ·rw [h1] at t0 CN
  exact tsigned_00nan x f _ w t0 (Lib.hid CN) (Lib.hid fun W => twide_any [78, 97, 78] W (by simp) (by simp))
 ·rw [h1] at t0 CN
  rw [h2] at CI
  unfold sgx
  cases hn : ngB x
  ·rw [hn] at t0
   exact tsigned_00inf x f _ w t0 (Lib.hid CN) (Lib.hid CI) (Lib.hid fun W => twide_any _ W (by decide) (by decide))
  ·rw [hn] at t0
   exact tsigned_01inf x f _ w t0 (Lib.hid CN) (Lib.hid CI) (Lib.hid fun W => twide_any _ W (by decide) (by decide))
 ·rw [h1] at t0 CN
  rw [h2] at CI
  obtain ⟨l1, l2, hc⟩ := hT _ l (fin_rung h1 h2) h3
  have CA := fun W => abs_any x W hx
  have CT : Hid (∀ W, W = w → Ct f #[.float .f64 (rung x)] (.string (strOf l)) W) := Lib.hid (fun W hW => by
   subst hW
   exact hc)
  unfold sgx
  cases hn : ngB x
  ·rw [hn] at t0
   refine tsigned_00fin x f (strOf l) (strOf l) (rung x) _ w t0 (Lib.hid CN) (Lib.hid CI) (Lib.hid CA) he CT (Lib.hid (by rw [strOf_size]; omega)) ?_ (Lib.hid fun W => twide_any _ W l1 (by omega))
   rw [show (⟨#[]⟩ : ByteArray) = strOf [] from rfl, strOf_append]
   rfl
  ·rw [hn] at t0
   refine tsigned_01fin x f (strOf l) (strOf ([45] ++ l)) (rung x) _ w t0 (Lib.hid CN) (Lib.hid CI) (Lib.hid CA) he CT (Lib.hid (by rw [strOf_size]; omega)) ?_ (Lib.hid fun W => twide_any _ W ?_ ?_)
   ·rw [show (⟨#[45]⟩ : ByteArray) = strOf [45] from rfl, strOf_append]
   ·intro c hc
    rw [List.mem_append, List.mem_singleton] at hc
    rcases hc with rfl | hc
    ·omega
    ·exact l1 c hc
   ·rw [List.length_append, List.length_singleton]
    omega
def TxQ (x : Nat) (L : List Nat) : Prop := SgQ PlQ x L
theorem txq_ex (x : Nat) : ∃ L, TxQ x L := by
 unfold TxQ SgQ
 cases h1 : fnan x
 ·cases h2 : finf x
  ·obtain ⟨l, hl⟩ := plq_ex (fin_rung h1 h2)
   exact ⟨_, .inr (.inr ⟨rfl, rfl, l, hl, rfl⟩)⟩
  ·exact ⟨_, .inr (.inl ⟨rfl, rfl, rfl⟩)⟩
 ·exact ⟨_, .inl ⟨rfl, rfl⟩⟩
theorem tText_any {x : Nat} {L : List Nat} {w : World} (hx : x < 18446744073709551616) (ht : Tab10 w) (hz : TzTab w) (h : TxQ x L) :
  Ct 14 #[.float .f64 x] (.string (wdS L)) w := by
 have C := Lib.hid (fun W (hW : W = w) => tsigned_any (T := PlQ) (w := W) 44 hx (fun args W' => by go_simp) (fun r l hr hl => by
  subst hW
  obtain ⟨b1, b2⟩ := hl.bd hr
  exact ⟨b1, by omega, tplain_any hr ht hz hl⟩) h)
 clear h ht hz
 go_enter Tryz.func14, Tryz.ntmps14
 go_wp2_with fail
 refine (C.out _ rfl).mono ?_
 rintro e w1 ⟨rfl, b1⟩
 go_wp2
 go_ret
 exact ⟨rfl, b1⟩

end Go.Proofs.YtfcpkdafkmohkaaGreatDoor
namespace Go.Proofs.YtfcpkdafkmohkaaGreatDoor
open Go.RowKit
theorem big_tenth : ∃ X : Nat, 0 < X ∧ big = 72057594037927936 * X ∧ fmag 4591870180066957722 = 7205759403792794 * X ∧ fmag 4591870180066957721 = 7205759403792793 * X ∧ fmag 4591870180066957723 = 7205759403792795 * X := by
 obtain ⟨K, hK, hb⟩ := big_K
 obtain ⟨J, hJ⟩ : ∃ J : Nat, J = 1018 := ⟨_, rfl⟩
 have h1 := fmag_make 7205759403792794 J (by omega) (by omega)
 have h2 := fmag_make 7205759403792793 J (by omega) (by omega)
 have h3 := fmag_make 7205759403792795 J (by omega) (by omega)
 rw [show J * 4503599627370496 + 7205759403792794 = 4591870180066957722 by omega] at h1
 rw [show J * 4503599627370496 + 7205759403792793 = 4591870180066957721 by omega] at h2
 rw [show J * 4503599627370496 + 7205759403792795 = 4591870180066957723 by omega] at h3
 refine ⟨2 ^ J, two_pos J, ?_, h1, h2, h3⟩
 rw [hb, show K = 56 + J by omega, Nat.pow_add]
theorem decR_tenth : decR 1 (-1) = 4591870180066957722 := by
 obtain ⟨X, hX, hb, h1, h2, h3⟩ := big_tenth
 rw [decR_big]
 unfold vV
 rw [show (-(-(-1 : Int))).toNat = 0 by omega, show (-(-1 : Int)).toNat = 1 by omega, Nat.pow_zero, Nat.pow_one, Nat.mul_one, Nat.one_mul, rnd_iff (by omega) (by omega) (by omega), h1, show 4591870180066957722 - 1 = 4591870180066957721 by omega, h2, show 4591870180066957722 + 1 = 4591870180066957723 by omega, h3, hb]
 exact ⟨.inl (by omega), .inl (by omega)⟩
theorem sq_tenth : SQ 4591870180066957722 [49] 0 := by
 obtain ⟨X, hX, hb, h1, _, _⟩ := big_tenth
 have e1 : dL 1 = [49] := dL_small (by omega)
 have hU : vU 4591870180066957722 (((1 : Nat) : Int) - 0) = 72057594037927940 * X := by
  unfold vU
  rw [h1, show (((1 : Nat) : Int) - 0).toNat = 1 by omega, Nat.pow_one]
  omega
 have hV : vV (((1 : Nat) : Int) - 0) = 72057594037927936 * X := by
  unfold vV
  rw [hb, show (-(((1 : Nat) : Int) - 0)).toNat = 0 by omega, Nat.pow_zero, Nat.mul_one]
 have hq : cq 4591870180066957722 0 1 = 1 := by
  unfold cq
  rw [hU, hV, Nat.mul_div_mul_right _ _ hX]
 have hm : vU 4591870180066957722 (((1 : Nat) : Int) - 0) % vV (((1 : Nat) : Int) - 0) = 4 * X := by
  rw [hU, hV, Nat.mul_mod_mul_right]
 have hl : clow 4591870180066957722 0 1 = true := by
  unfold clow
  rw [hq]
  exact decide_eq_true decR_tenth
 have hn : cnear 4591870180066957722 0 1 = true := by
  unfold cnear
  rw [hm, hV, decide_eq_true (by omega), Bool.true_or]
 refine ⟨0, 1, 1, ⟨?_, ?_⟩, by omega, by omega, by omega, ?_, by rw [e1]; rfl, by rw [e1]; rfl⟩
 ·unfold le10
  rw [h1, hb, show ((0 : Int) - 1).toNat = 0 by omega, show (-((0 : Int) - 1)).toNat = 1 by omega, Nat.pow_zero, Nat.pow_one]
  omega
 ·unfold le10
  rw [h1, hb, show (0 : Int).toNat = 0 by omega, show (-(0 : Int)).toNat = 0 by omega, Nat.pow_zero]
  omega
 ·unfold cnd
  rw [hl, hn, hq]
  simp
theorem tx_tenth : TxQ 4591870180066957722 [48, 46, 49] := by
 refine .inr (.inr ⟨by decide, by decide, [48, 46, 49], .inr ⟨by decide, [49], 0, ?_, by decide⟩, by decide⟩)
 have : rung 4591870180066957722 = 4591870180066957722 := by decide
 rw [this]
 exact sq_tenth
theorem us_wdS {L : List Nat} (hL : ∀ c ∈ L, c < 256) : us (wdS L) = L := by
 unfold us wdS
 show uL (bL L) = L
 exact uL_bL _ (fun c hc => by have := hL c hc; omega)
theorem num_tenth : numW (nrw 0 (us (trimS (wdS [48, 46, 49])))) = 4591870180066957722 := by
 have h : nrw 0 (us (trimS (wdS [48, 46, 49]))) = [48, 46, 49] := by decide +kernel
 rw [h]
 unfold numW
 rw [if_neg (by decide), if_neg (by decide), if_neg (by decide), if_pos (by decide)]
 have h1 : sgnB [48, 46, 49] = false := by decide
 rw [h1, sgW_f]
 have h2 : unsg [48, 46, 49] = [48, 46, 49] := by decide
 rw [h2]
 unfold dV
 rw [show num 10 (dW [48, 46, 49] ++ dF [48, 46, 49]) = 1 by decide, show dX [48, 46, 49] - ((dF [48, 46, 49]).length : Int) = -1 by decide]
 exact decR_tenth
theorem lsame_any (x y : Nat) (w : World) (b : Bool) (hb : ((x : Int) == (y : Int)) = b) : Cq 27 #[.float .f64 x, .float .f64 y] (.bool b) w := by
 have h1 := f64bits_run x w
 have h2 := f64bits_run y w
 go_enter Tryz.func27, Tryz.ntmps27
 go_wp2
 go_ret
 exact ⟨rfl, rfl⟩
theorem awake_any (w : World) (ht : Tab10 w) (hz : TzTab w) : Ct 16 #[] (.bool true) w := by
 have C1 := Lib.hid (fun W (hW : W = w) => tText_any (x := 4591870180066957722) (L := [48, 46, 49]) (w := W) (by omega) (hW ▸ ht) (hW ▸ hz) tx_tenth)
 have C2 := Lib.hid (fun W => vwide_any [48, 46, 49] W (by simp) (by simp))
 have C3 := Lib.hid (fun W => tNumber_any (wdS [48, 46, 49]) W (by decide +kernel))
 rw [num_tenth] at C3
 have t1 : (FloatKind.f64.format.order 4591870180066957722 4591870180066957722 == some .eq) = true := by rw [ord_eq_pos (by omega) (by omega)]; exact decide_eq_true rfl
 obtain ⟨S, hS⟩ : ∃ S, wdS [48, 46, 49] = S := ⟨_, rfl⟩
 rw [hS] at C1 C2 C3
 rw [show strOf [48, 46, 49] = ⟨#[48, 46, 49]⟩ from rfl] at C2
 clear ht hz hS
 go_enter Tryz.func16, Tryz.ntmps16
 go_wp2_with fail
 refine (C1.out _ rfl).mono ?_
 rintro e w1 ⟨rfl, b1⟩
 have B1 := Lib.hid b1
 clear b1
 go_wp2_with fail
 refine (C2.out _).mono ?_
 rintro e w2 ⟨rfl, b2⟩
 have B2 := Lib.hid (below_le B1.out b2)
 clear b2
 go_wp2_with fail
 refine (C2.out _).mono ?_
 rintro e w3 ⟨rfl, b3⟩
 have B3 := Lib.hid (below_le B2.out b3)
 clear b3
 go_wp2_with fail
 refine (C3.out _).mono ?_
 rintro e w4 ⟨rfl, b4⟩
 have B4 := Lib.hid (below_le B3.out b4)
 clear b4
 go_wp2
 go_ret
 exact ⟨rfl, B4.out⟩
end Go.Proofs.YtfcpkdafkmohkaaGreatDoor
namespace Go.Proofs.YtfcpkdafkmohkaaGreatDoor
theorem run_app {W r : List Nat} (hW : ∀ c ∈ W, dg10 c = true) (hr : ∀ c, r.head? = some c → dg10 c = false) : run10 (W ++ r) = W ∧ aft10 (W ++ r) = r := by
 induction W with
 | nil =>
  cases r with
  | nil => exact ⟨rfl, rfl⟩
  | cons c r =>
   have h := hr c rfl
   unfold run10 aft10
   rw [List.nil_append, List.takeWhile_cons_of_neg (by simp [h]), List.dropWhile_cons_of_neg (by simp [h])]
   exact ⟨rfl, rfl⟩
 | cons c W ih =>
  obtain ⟨i1, i2⟩ := ih (fun x hx => hW x (by simp [hx]))
  have h := hW c (by simp)
  unfold run10 aft10 at *
  rw [List.cons_append, List.takeWhile_cons_of_pos h, List.dropWhile_cons_of_pos h, i1, i2]
  exact ⟨rfl, rfl⟩
theorem unsg_digit {l : List Nat} {a : Nat} {t : List Nat} (h : l = a :: t) (h1 : 48 ≤ a) : unsg l = l ∧ sgnB l = false := by
 subst h
 unfold unsg sgnB
 have e1 : a ≠ 45 := by omega
 have e2 : a ≠ 43 := by omega
 simp [e1, e2]
def ExpIs (E : List Nat) (X : Int) : Prop := (E = [] ∧ X = 0) ∨ (∃ sg K, E = 101 :: sg :: K ∧ (sg = 43 ∨ sg = 45) ∧ K ≠ [] ∧ (∀ c ∈ K, dg10 c = true) ∧ X = if sg = 45 then -(amt K : Int) else (amt K : Int)) ∨ ∃ K, E = 101 :: K ∧ K ≠ [] ∧ (∀ c ∈ K, dg10 c = true) ∧ X = (amt K : Int)
theorem ExpIs.head {E : List Nat} {X : Int} (h : ExpIs E X) : ∀ c, E.head? = some c → dg10 c = false ∧ c ≠ 46 := by
 rcases h with ⟨rfl, _⟩ | ⟨sg, K, rfl, _⟩ | ⟨K, rfl, _⟩
 ·intro c hc
  cases hc
 ·intro c hc
  have : c = 101 := by simpa using hc.symm
  subst this
  exact ⟨by decide, by omega⟩
 ·intro c hc
  have : c = 101 := by simpa using hc.symm
  subst this
  exact ⟨by decide, by omega⟩
theorem ExpIs.read {E : List Nat} {X : Int} (h : ExpIs E X) : exV E = X ∧ exR E = [] := by
 rcases h with ⟨rfl, rfl⟩ | ⟨sg, K, rfl, hs, hK, hd, rfl⟩ | ⟨K, rfl, hK, hd, rfl⟩
 ·exact ⟨by decide, by decide⟩
 ·have hu : unsg (sg :: K) = K := by
   unfold unsg
   rcases hs with rfl | rfl <;> simp
  obtain ⟨r1, r2⟩ := run_app (W := K) (r := []) hd (by simp)
  rw [List.append_nil] at r1 r2
  have hb : expB (101 :: sg :: K) = true := by
   unfold expB
   rw [List.tail_cons, hu, r1]
   cases K with
   | nil => exact absurd rfl hK
   | cons a b => simp
  constructor
  ·unfold exV expV
   rw [hb, if_pos rfl, List.tail_cons, hu, r1]
   unfold sgnB
   rcases hs with rfl | rfl <;> simp
  ·unfold exR expR
   rw [hb, if_pos rfl, List.tail_cons, hu, r2]
 ·obtain ⟨hu, hs⟩ : unsg K = K ∧ sgnB K = false := by
   cases K with
   | nil => exact absurd rfl hK
   | cons a t =>
    have := dg10_iff.1 (hd a (by simp))
    exact unsg_digit rfl (by omega)
  obtain ⟨r1, r2⟩ := run_app (W := K) (r := []) hd (by simp)
  rw [List.append_nil] at r1 r2
  have hb : expB (101 :: K) = true := by
   unfold expB
   rw [List.tail_cons, hu, r1]
   cases K with
   | nil => exact absurd rfl hK
   | cons a b => simp
  constructor
  ·unfold exV expV
   rw [hb, if_pos rfl, List.tail_cons, hu, r1, hs]
   simp
  ·unfold exR expR
   rw [hb, if_pos rfl, List.tail_cons, hu, r2]
def PointIs (P F : List Nat) : Prop := (P = [] ∧ F = []) ∨ (P = 46 :: F)
theorem dec_parts {W P F E : List Nat} {X : Int} (hW0 : W ≠ []) (hW : ∀ c ∈ W, dg10 c = true) (hF : ∀ c ∈ F, dg10 c = true) (hP : PointIs P F) (hE : ExpIs E X) :
  dB (W ++ (P ++ E)) = true ∧ dW (W ++ (P ++ E)) = W ∧ dF (W ++ (P ++ E)) = F ∧ dX (W ++ (P ++ E)) = X ∧ dR (W ++ (P ++ E)) = [] := by
 have hh := hE.head
 have he := hE.read
 have hr : ∀ c, (P ++ E).head? = some c → dg10 c = false := by
  rcases hP with ⟨rfl, rfl⟩ | rfl
  ·intro c hc
   exact (hh c hc).1
  ·intro c hc
   have : c = 46 := by simpa using hc.symm
   subst this
   decide
 obtain ⟨r1, r2⟩ := run_app hW hr
 have hw : dW (W ++ (P ++ E)) = W := r1
 have key : dF (W ++ (P ++ E)) = F ∧ dT (W ++ (P ++ E)) = E := by
  unfold dF dT
  rw [r2]
  rcases hP with ⟨rfl, rfl⟩ | rfl
  ·have hd : dotB ([] ++ E) = false := by
    unfold dotB
    cases hE' : E with
    | nil => rfl
    | cons a b =>
     have := (hh a (by rw [hE']; rfl)).2
     simp [this]
   rw [hd]
   exact ⟨rfl, rfl⟩
  ·have hd : dotB ((46 :: F) ++ E) = true := rfl
   rw [hd, if_pos rfl, if_pos rfl, List.cons_append, List.tail_cons]
   exact run_app hF (fun c hc => (hh c hc).1)
 refine ⟨?_, hw, key.1, ?_, ?_⟩
 ·unfold dB
  rw [hw]
  cases W with
  | nil => exact absurd rfl hW0
  | cons a b => rfl
 ·unfold dX
  rw [key.2]
  exact he.1
 ·unfold dR
  rw [key.2]
  exact he.2
theorem first_digit {W r : List Nat} (hW0 : W ≠ []) (hW : ∀ c ∈ W, dg10 c = true) : ∃ a t, W ++ r = a :: t ∧ 48 ≤ a ∧ a ≤ 57 := by
 cases W with
 | nil => exact absurd rfl hW0
 | cons a b => exact ⟨a, b ++ r, rfl, dg10_iff.1 (hW a (by simp))⟩
theorem unsg_neg (l : List Nat) : unsg (45 :: l) = l ∧ sgnB (45 :: l) = true := by
 unfold unsg sgnB
 simp
theorem no_x {W P F E : List Nat} {X : Int} (hW : ∀ c ∈ W, dg10 c = true) (hF : ∀ c ∈ F, dg10 c = true) (hP : PointIs P F) (hE : ExpIs E X) : ∀ c ∈ W ++ (P ++ E), c ≠ 120 ∧ c ≠ 88 ∧ c ≤ 127 ∧ 43 ≤ c := by
 intro c hc
 have key : dg10 c = true ∨ c = 46 ∨ c = 101 ∨ c = 43 ∨ c = 45 := by
  rw [List.mem_append, List.mem_append] at hc
  rcases hc with hc | hc | hc
  ·exact .inl (hW c hc)
  ·rcases hP with ⟨rfl, rfl⟩ | rfl
   ·cases hc
   ·rcases List.mem_cons.1 hc with h | h
    ·exact .inr (.inl h)
    ·exact .inl (hF c h)
  ·rcases hE with ⟨rfl, _⟩ | ⟨sg, K, rfl, hs, _, hd, _⟩ | ⟨K, rfl, _, hd, _⟩
   rotate_left 2
   ·rcases List.mem_cons.1 hc with h | h
    ·exact .inr (.inr (.inl h))
    ·exact .inl (hd c h)
   ·cases hc
   ·rcases List.mem_cons.1 hc with h | h
    ·exact .inr (.inr (.inl h))
    ·rcases List.mem_cons.1 h with h | h
     ·rcases hs with hs | hs
      ·exact .inr (.inr (.inr (.inl (h.trans hs))))
      ·exact .inr (.inr (.inr (.inr (h.trans hs))))
     ·exact .inl (hd c h)
 rcases key with h | h | h | h | h
 ·have := dg10_iff.1 h
  omega
 all_goals omega
theorem no_hex {l : List Nat} (h : ∀ c ∈ l, c ≠ 120 ∧ c ≠ 88) : hxB l = false := by
 have ha : hxA l = false := by
  unfold hxA
  cases l with
  | nil => rfl
  | cons a t =>
   cases t with
   | nil => simp
   | cons b t =>
    obtain ⟨h1, h2⟩ := h b (by simp)
    simp [h1, h2]
 unfold hxB
 rw [ha]
 rfl
theorem num_dec {W P F E : List Nat} {X : Int} (hW0 : W ≠ []) (hW : ∀ c ∈ W, dg10 c = true) (hF : ∀ c ∈ F, dg10 c = true) (hP : PointIs P F) (hE : ExpIs E X) :
  numW (W ++ (P ++ E)) = decR (num 10 (W ++ F)) (X - F.length) ∧ numW (45 :: (W ++ (P ++ E))) = sgW true (decR (num 10 (W ++ F)) (X - F.length)) := by
 obtain ⟨d1, d2, d3, d4, d5⟩ := dec_parts hW0 hW hF hP hE
 obtain ⟨a, t, e, a1, a2⟩ := first_digit (r := P ++ E) hW0 hW
 obtain ⟨u1, u2⟩ := unsg_digit e a1
 obtain ⟨v1, v2⟩ := unsg_neg (W ++ (P ++ E))
 have hx := no_x hW hF hP hE
 have hi : W ++ (P ++ E) ≠ infL := by
  rw [e]
  intro h
  have : a = 73 := by
   have := congrArg List.head? h
   simpa [infL] using this
  omega
 have hv : dV (W ++ (P ++ E)) = decR (num 10 (W ++ F)) (X - F.length) := by
  unfold dV
  rw [d2, d3, d4]
 constructor
 ·unfold numW
  rw [if_neg (by rw [e]; simp), no_hex (fun c hc => ⟨(hx c hc).1, (hx c hc).2.1⟩), if_neg (by simp), u1, u2, if_neg hi, if_pos ⟨d1, d5⟩, sgW_f, hv]
 ·unfold numW
  rw [if_neg (by simp), no_hex (fun c hc => by
   rcases List.mem_cons.1 hc with h | h
   ·exact ⟨by omega, by omega⟩
   ·exact ⟨(hx c h).1, (hx c h).2.1⟩), if_neg (by simp), v1, v2, if_neg hi, if_pos ⟨d1, d5⟩, hv]
theorem lit_dec {W P F E : List Nat} {X : Int} (hW0 : W ≠ []) (hW : ∀ c ∈ W, dg10 c = true) (hF : ∀ c ∈ F, dg10 c = true) (hP : PointIs P F) (hE : ExpIs E X) (h0 : W = [48] ∨ W.head? ≠ some 48) :
  litV (W ++ (P ++ E)) = decR (num 10 (W ++ F)) (X - F.length) ∧ litB (W ++ (P ++ E)) = true := by
 obtain ⟨d1, d2, d3, d4, d5⟩ := dec_parts hW0 hW hF hP hE
 have hx := no_x hW hF hP hE
 have hhx := no_hex (fun c hc => ⟨(hx c hc).1, (hx c hc).2.1⟩)
 have hB : litB (W ++ (P ++ E)) = true := by
  unfold litB
  rw [hhx, d1, d5]
  have key : ((W ++ (P ++ E)).head? == some 48 && ((W ++ (P ++ E)).tail.head?.map dg10 == some true)) = false := by
   rcases h0 with rfl | h0
   ·have hh := hE.head
    cases hq : P ++ E with
    | nil => rfl
    | cons c t =>
     have hc : dg10 c = false := by
      rcases hP with ⟨rfl, rfl⟩ | rfl
      ·exact (hh c (by rw [← List.nil_append E, hq]; rfl)).1
      ·have : c = 46 := by
        have := congrArg List.head? hq
        simpa using this.symm
       subst this
       decide
     simp [hc]
   ·cases W with
    | nil => exact absurd rfl hW0
    | cons a b =>
     have : a ≠ 48 := by simpa using h0
     simp [this]
  rw [key]
  rfl
 refine ⟨?_, hB⟩
 unfold litV
 rw [hhx, if_neg (by simp), hB, if_pos rfl]
 unfold dV
 rw [d2, d3, d4]
theorem flt_dec {W P F E : List Nat} {X : Int} (hW0 : W ≠ []) (hW : ∀ c ∈ W, dg10 c = true) (hF : ∀ c ∈ F, dg10 c = true) (hP : PointIs P F) (hE : ExpIs E X) :
  fltW (W ++ (P ++ E)) = decR (num 10 (W ++ F)) (X - F.length) ∧ fltW (45 :: (W ++ (P ++ E))) = sgW true (decR (num 10 (W ++ F)) (X - F.length)) := by
 obtain ⟨d1, d2, d3, d4, d5⟩ := dec_parts hW0 hW hF hP hE
 obtain ⟨a, t, e, a1, a2⟩ := first_digit (r := P ++ E) hW0 hW
 obtain ⟨u1, u2⟩ := unsg_digit e a1
 obtain ⟨v1, v2⟩ := unsg_neg (W ++ (P ++ E))
 have hi : infB (W ++ (P ++ E)) = false := by
  rw [e]
  show ((73 : Nat) == a && ([110, 102, 105, 110, 105, 116, 121] : List Nat).isPrefixOf t) = false
  rw [show ((73 : Nat) == a) = false by rw [beq_eq_false_iff_ne]; omega, Bool.false_and]
 have hv : dV (W ++ (P ++ E)) = decR (num 10 (W ++ F)) (X - F.length) := by
  unfold dV
  rw [d2, d3, d4]
 constructor
 ·unfold fltW
  rw [u1, u2, hi, if_neg (by simp), d1, if_pos rfl, sgW_f, hv]
 ·unfold fltW
  rw [v1, v2, hi, if_neg (by simp), d1, if_pos rfl, hv]
theorem amt_dL (n : Nat) : n < 1000000000000 → amt (dL n) = n := by
 refine dL_ind (P := fun n => n < 1000000000000 → amt (dL n) = n) ?_ ?_ n
 ·intro n h _
  rw [dL_small h]
  show amtS 0 (48 + n) = n
  unfold amtS
  rw [if_pos (by omega)]
  omega
 ·intro n h ih hn
  rw [dL_big h, amt_snoc, ih (by omega)]
  unfold amtS
  rw [if_pos (by omega)]
  omega
theorem nrw_same {z : Nat} {L : List Nat} (h : ∀ c ∈ L, c ≤ 127) : nrw z L = L := by
 unfold nrw
 rw [List.map_congr_left (g := id) (fun c hc => by simp; have := h c hc; omega), List.map_id]
theorem trim_same {s : ByteArray} (h : ∀ c ∈ us s, blB ((c : Nat) : Int) = false) : us (trimS s) = us s := by
 have hu : ∀ i, i < ln s → blU s i = false := by
  intro i hi
  unfold blU
  have hl : i < (us s).length := by rw [us_length]; exact hi
  rw [← us_getElem s i hl]
  exact h _ (List.getElem_mem hl)
 have hF : frS s = 0 := by
  unfold frS
  refine tF_end s _ _ ?_
  rintro ⟨h1, h2⟩
  rw [hu 0 h1] at h2
  cases h2
 have hT : toS s = ln s := by
  unfold toS
  rw [hF]
  rcases Nat.eq_zero_or_pos (ln s) with h0 | h0
  ·rw [h0]; rfl
  ·obtain ⟨f, hf⟩ : ∃ f, ln s = f + 1 := ⟨ln s - 1, by omega⟩
   rw [hf]
   unfold tT
   rw [if_neg]
   rintro ⟨h1, h2⟩
   rw [hu (f + 1 - 1) (by omega)] at h2
   cases h2
 unfold trimS
 rw [hF, hT, us_slS s 0 (ln s) (Nat.le_refl _), List.drop_zero, Nat.sub_zero, us_take_all]
theorem ahead_same {L : List Nat} (h : ∀ c, L.head? = some c → blkN c = false) : ahL L = L := by
 unfold ahL
 cases L with
 | nil => rfl
 | cons a t =>
  rw [List.dropWhile_cons_of_neg (by simp [h a rfl])]
theorem blk_not {c : Nat} (h1 : 43 ≤ c) (h2 : c ≤ 127) : blkN c = false := by
 have key : ∀ d : Fin 128, 43 ≤ d.val → blkN d.val = false := by decide
 exact key ⟨c, by omega⟩ h1
theorem numW_wide {L : List Nat} (h : ∀ c ∈ L, 43 ≤ c ∧ c ≤ 127) : nrw 0 (us (trimS (wdS L))) = L ∧ nrw 0 (us (wdS L)) = L ∧ nrw 0 (ahL (us (wdS L))) = L := by
 have h1 : us (wdS L) = L := us_wdS (fun c hc => by have := h c hc; omega)
 have h2 : nrw 0 L = L := nrw_same (fun c hc => (h c hc).2)
 refine ⟨?_, by rw [h1, h2], ?_⟩
 ·rw [trim_same (fun c hc => by
   rw [h1] at hc
   exact blk_not (h c hc).1 (h c hc).2), h1, h2]
 ·rw [h1, ahead_same (fun c hc => by
   cases L with
   | nil => cases hc
   | cons a t =>
    have : a = c := by simpa using hc
    subst this
    exact blk_not (h a (by simp)).1 (h a (by simp)).2), h2]

end Go.Proofs.YtfcpkdafkmohkaaGreatDoor
namespace Go.Proofs.YtfcpkdafkmohkaaGreatDoor
open Go.RowKit
def DecIs (l : List Nat) (v : Nat) : Prop := ∃ W P F E X, W ≠ [] ∧ (∀ c ∈ W, dg10 c = true) ∧ (∀ c ∈ F, dg10 c = true) ∧ PointIs P F ∧ ExpIs E X ∧ (W = [48] ∨ W.head? ≠ some 48) ∧ l = W ++ (P ++ E) ∧ decR (num 10 (W ++ F)) (X - F.length) = v
theorem num_rep (z : Nat) (D : List Nat) : num 10 (List.replicate z 48 ++ D) = num 10 D := by
 rw [num_append, num_zeros, Nat.zero_mul, Nat.zero_add]
theorem num_app0 (D : List Nat) (j : Nat) : num 10 (D ++ List.replicate j 48) = num 10 D * 10 ^ j := by
 rw [num_append, num_zeros, Nat.add_zero, List.length_replicate]
theorem dg_rep (z : Nat) {D : List Nat} (hD : ∀ c ∈ D, dg10 c = true) : ∀ c ∈ List.replicate z 48 ++ D, dg10 c = true := by
 intro c hc
 rw [List.mem_append, List.mem_replicate] at hc
 rcases hc with ⟨_, rfl⟩ | hc
 ·decide
 ·exact hD c hc
theorem dec_whole {D : List Nat} (h0 : D ≠ []) (hD : ∀ c ∈ D, dg10 c = true) (hh : D = [48] ∨ D.head? ≠ some 48) (j : Nat) (hj : j = 0 ∨ D.head? ≠ some 48) : DecIs (D ++ List.replicate j 48) (decR (num 10 D) (j : Int)) := by
 refine ⟨D ++ List.replicate j 48, [], [], [], 0, by simp [h0], ?_, by simp, .inl ⟨rfl, rfl⟩, .inl ⟨rfl, rfl⟩, ?_, by simp, ?_⟩
 ·intro c hc
  rw [List.mem_append, List.mem_replicate] at hc
  rcases hc with hc | ⟨_, rfl⟩
  ·exact hD c hc
  ·decide
 ·rcases hj with rfl | hj
  ·rw [List.replicate_zero, List.append_nil]
   exact hh
  ·right
   cases D with
   | nil => exact absurd rfl h0
   | cons a t => simpa using hj
 ·rw [List.append_nil, num_app0, decR_shift]
  simp
theorem dec_point {D : List Nat} (h0 : D ≠ []) (hD : ∀ c ∈ D, dg10 c = true) (hh : D.head? ≠ some 48) (k : Nat) : DecIs (ptL D k) (decR (num 10 D) (-(k : Int))) := by
 unfold ptL
 split
 ·rename_i hk
  subst hk
  have := dec_whole h0 hD (.inr hh) 0 (.inl rfl)
  rw [List.replicate_zero, List.append_nil] at this
  exact this
 ·rename_i hk
  obtain ⟨n, hn⟩ : ∃ n, D.length = n := ⟨_, rfl⟩
  have hn0 : 0 < n := by
   rw [← hn]
   exact List.length_pos_iff.2 h0
  obtain ⟨z, hz⟩ : ∃ z, k + 1 - n = z := ⟨_, rfl⟩
  rw [hn, hz]
  have hdig := dg_rep z hD
  have hlen : (List.replicate z 48 ++ D).length = z + n := by rw [List.length_append, List.length_replicate, hn]
  obtain ⟨M, hM⟩ : ∃ M, List.replicate z 48 ++ D = M := ⟨_, rfl⟩
  rw [hM] at hdig hlen ⊢
  have hl1 : (M.take (z + n - k)).length = z + n - k := by rw [List.length_take, hlen]; omega
  have hl2 : (M.drop (z + n - k)).length = k := by rw [List.length_drop, hlen]; omega
  refine ⟨M.take (z + n - k), 46 :: M.drop (z + n - k), M.drop (z + n - k), [], 0, ?_, fun c hc => hdig c (List.mem_of_mem_take hc), fun c hc => hdig c (List.mem_of_mem_drop hc), .inr rfl, .inl ⟨rfl, rfl⟩, ?_, by rw [List.append_nil], ?_⟩
  ·intro h
   rw [h, List.length_nil] at hl1
   omega
  ·rcases Nat.lt_or_ge k n with h | h
   ·right
    have hz0 : z = 0 := by omega
    subst hz0
    rw [List.replicate_zero, List.nil_append] at hM
    subst hM
    cases D with
    | nil => exact absurd rfl h0
    | cons a t =>
     obtain ⟨q, hq⟩ : ∃ q, 0 + n - k = q + 1 := ⟨0 + n - k - 1, by omega⟩
     rw [hq, List.take_succ_cons]
     simpa using hh
   ·left
    obtain ⟨q, hq⟩ : ∃ q, z = q + 1 := ⟨z - 1, by omega⟩
    rw [show z + n - k = 1 by omega, ← hM, hq, List.replicate_succ, List.cons_append, List.take_succ_cons, List.take_zero]
  ·rw [List.take_append_drop, ← hM, num_rep, hM, hl2]
   congr 1
   omega
theorem dec_exp {D : List Nat} (h0 : D ≠ []) (hD : ∀ c ∈ D, dg10 c = true) (hh : D = [48] ∨ D.head? ≠ some 48 ∨ ∃ t, D = 48 :: t) {e : Int} (he : e.natAbs < 1000000000000) : DecIs (scL D e) (decR (num 10 D) (e - (D.length : Int) + 1)) := by
 cases D with
 | nil => exact absurd rfl h0
 | cons a t =>
  have ha : dg10 a = true := hD a (by simp)
  have ht : ∀ c ∈ t, dg10 c = true := fun c hc => hD c (by simp [hc])
  have hE : ExpIs (sgL e ++ dL e.natAbs) e := by
   right
   left
   unfold sgL
   split
   ·rename_i h
    refine ⟨45, dL e.natAbs, rfl, .inr rfl, dL_ne _, dL_dig _, ?_⟩
    rw [if_pos rfl, amt_dL _ he]
    omega
   ·rename_i h
    refine ⟨43, dL e.natAbs, rfl, .inl rfl, dL_ne _, dL_dig _, ?_⟩
    rw [if_neg (by omega), amt_dL _ he]
    omega
  have hW : ([a] : List Nat) = [48] ∨ ([a] : List Nat).head? ≠ some 48 := by
   by_cases h : a = 48
   ·left; rw [h]
   ·right; simpa using h
  have hv : e - (t.length : Int) = e - ((a :: t).length : Int) + 1 := by
   rw [List.length_cons]
   omega
  cases t with
  | nil =>
   refine ⟨[a], [], [], _, e, by simp, by simpa using ha, by simp, .inl ⟨rfl, rfl⟩, hE, hW, ?_, ?_⟩
   ·unfold scL mnL
    rw [if_pos (by simp)]
    simp
   ·rw [List.append_nil, ← hv]
  | cons b u =>
   refine ⟨[a], 46 :: b :: u, b :: u, _, e, by simp, by simpa using ha, ht, .inr rfl, hE, hW, ?_, ?_⟩
   ·unfold scL mnL
    rw [if_neg (by simp)]
    simp
   ·rw [← hv]
    rfl
theorem DecIs.low {l : List Nat} {v : Nat} (h : DecIs l v) : ∀ c ∈ l, 43 ≤ c ∧ c ≤ 127 := by
 obtain ⟨W, P, F, E, X, h0, hW, hF, hP, hE, hh, rfl, hv⟩ := h
 have hd : ∀ c, dg10 c = true → 43 ≤ c ∧ c ≤ 127 := fun c hc => by
  have := dg10_iff.1 hc
  omega
 intro c hc
 rw [List.mem_append, List.mem_append] at hc
 rcases hc with hc | hc | hc
 ·exact hd c (hW c hc)
 ·rcases hP with ⟨rfl, _⟩ | rfl
  ·cases hc
  ·rcases List.mem_cons.1 hc with rfl | hc
   ·omega
   ·exact hd c (hF c hc)
 ·rcases hE with ⟨rfl, _⟩ | ⟨sg, K, rfl, hs, _, hK, _⟩ | ⟨K, rfl, _, hK, _⟩
  rotate_left 2
  ·rcases List.mem_cons.1 hc with rfl | hc
   ·omega
   ·exact hd c (hK c hc)
  ·cases hc
  ·rcases List.mem_cons.1 hc with rfl | hc
   ·omega
   ·rcases List.mem_cons.1 hc with rfl | hc
    ·omega
    ·exact hd c (hK c hc)
theorem DecIs.num {l : List Nat} {v : Nat} (h : DecIs l v) : numW l = v ∧ numW (45 :: l) = sgW true v := by
 obtain ⟨W, P, F, E, X, h0, hW, hF, hP, hE, hh, rfl, rfl⟩ := h
 exact num_dec h0 hW hF hP hE
theorem DecIs.lit {l : List Nat} {v : Nat} (h : DecIs l v) : litV l = v ∧ litB l = true := by
 obtain ⟨W, P, F, E, X, h0, hW, hF, hP, hE, hh, rfl, rfl⟩ := h
 exact lit_dec h0 hW hF hP hE hh
theorem DecIs.flt {l : List Nat} {v : Nat} (h : DecIs l v) : fltW l = v ∧ fltW (45 :: l) = sgW true v := by
 obtain ⟨W, P, F, E, X, h0, hW, hF, hP, hE, hh, rfl, rfl⟩ := h
 exact flt_dec h0 hW hF hP hE
theorem PlQ.dec {r : Nat} {L : List Nat} (hr : r < 9218868437227405312) (h : PlQ r L) : DecIs L r := by
 rcases h with ⟨rfl, rfl⟩ | ⟨h0, D, N, hq, rfl⟩
 ·have := dec_whole (D := [48]) (by simp) (by simp; decide) (.inl rfl) 0 (.inl rfl)
  rw [num_one, show dgt 48 = 0 by decide, decR_zero] at this
  exact this
 ·obtain ⟨b1, b2, b3, b4, b5⟩ := hq.bd h0 hr
  obtain ⟨d, d1, rfl, d3, d4⟩ := hq.form
  have hd0 : 0 < d := by omega
  have hn := dL_num d
  unfold plL
  split
  ·have := dec_exp (dL_ne d) (dL_dig d) (.inr (.inl (dL_head hd0))) (e := N - 1) (by omega)
   rw [hn, show N - 1 - ((dL d).length : Int) + 1 = N - (dL d).length by omega, d4] at this
   exact this
  ·split
   ·have := dec_whole (dL_ne d) (dL_dig d) (.inr (dL_head hd0)) (N - (dL d).length).toNat (.inr (dL_head hd0))
    rw [hn, show (((N - (dL d).length).toNat : Nat) : Int) = N - (dL d).length by omega, d4] at this
    exact this
   ·have := dec_point (dL_ne d) (dL_dig d) (dL_head hd0) ((dL d).length - N).toNat
    rw [hn, show -((((dL d).length - N).toNat : Nat) : Int) = N - (dL d).length by omega, d4] at this
    exact this

end Go.Proofs.YtfcpkdafkmohkaaGreatDoor
namespace Go.Proofs.YtfcpkdafkmohkaaGreatDoor
open Go.RowKit
theorem TxQ.bd {x : Nat} {L : List Nat} (h : TxQ x L) : (∀ c ∈ L, c < 256) ∧ L.length ≤ 2000 := by
 have hs : (∀ c ∈ sgx x, c < 256) ∧ (sgx x).length ≤ 1 := by
  unfold sgx
  split <;> simp
 rcases h with ⟨h1, rfl⟩ | ⟨h1, h2, rfl⟩ | ⟨h1, h2, l, h3, rfl⟩
 ·exact ⟨by simp, by simp⟩
 ·refine ⟨?_, by rw [List.length_append]; have : infL.length = 8 := rfl; omega⟩
  intro c hc
  rw [List.mem_append] at hc
  rcases hc with hc | hc
  ·exact hs.1 c hc
  ·exact (by decide : ∀ c ∈ infL, c < 256) c hc
 ·obtain ⟨l1, l2⟩ := PlQ.bd (fin_rung h1 h2) h3
  refine ⟨?_, by rw [List.length_append]; omega⟩
  intro c hc
  rw [List.mem_append] at hc
  rcases hc with hc | hc
  ·exact hs.1 c hc
  ·exact l1 c hc
end Go.Proofs.YtfcpkdafkmohkaaGreatDoor
namespace Go.Proofs.YtfcpkdafkmohkaaGreatDoor
open Go.RowKit
theorem ord_gt0 {x : Nat} (hx : x < 18446744073709551616) : (FloatKind.f64.format.order x 0 == some .gt) = decide (0 < x ∧ x ≤ 9218868437227405312) := by
 rcases Nat.lt_or_ge 9218868437227405312 (rung x) with h | h
 ·have h1 : ¬ x ≤ 9218868437227405312 := fun k => by rw [(frank_pos k).2] at h; omega
  rw [show FloatKind.f64.format.order x 0 = Ieee.double.order x 0 from rfl, order_nan (.inl h), decide_eq_false (fun k => h1 k.2)]
  rfl
 ·obtain ⟨a1, a2⟩ := frank_pos (x := 0) (by omega)
  rw [show FloatKind.f64.format.order x 0 = Ieee.double.order x 0 from rfl, order_eq h (by omega), a1, Bool.eq_iff_iff, beq_iff_eq, Option.some.injEq, Int.compare_eq_gt, decide_eq_true_iff]
  unfold frank fneg
  unfold rung at h ⊢
  rcases (show x / 9223372036854775808 % 2 = 0 ∨ x / 9223372036854775808 % 2 = 1 by omega) with k | k
  ·rw [k]
   simp
   omega
  ·rw [k]
   simp
   omega
end Go.Proofs.YtfcpkdafkmohkaaGreatDoor
namespace Go.Proofs.YtfcpkdafkmohkaaGreatDoor
open Go.RowKit
theorem sign_wrap (x : Nat) (hx : x < 18446744073709551616) : decide (wrap64 (x : Int) < 0) = fneg x := by
 unfold fneg wrap64
 by_cases h : x < 9223372036854775808
 ·rw [decide_eq_false (by omega), Nat.div_eq_of_lt h]; rfl
 ·rw [decide_eq_true (by omega), show x / 9223372036854775808 = 1 by omega]; rfl
theorem signbit_any (x : Nat) (w : World) (hx : x < 18446744073709551616) : Cq 35 #[.float .f64 x] (.bool (fneg x)) w := by
 have h1 := f64bits_run x w
 have h2 := Lib.hid (sign_wrap x hx)
 clear hx
 go_enter Tryz.func35, Tryz.ntmps35
 go_wp2
 go_ret
 exact ⟨by rw [← h2.out]; rfl, rfl⟩
theorem nan_text : numW (nrw 0 (us (trimS (wdS [78, 97, 78])))) = nanW := by decide +kernel
theorem inf_text : numW infL = 9218868437227405312 ∧ numW (45 :: infL) = sgW true 9218868437227405312 ∧ fltW infL = 9218868437227405312 ∧ fltW (45 :: infL) = sgW true 9218868437227405312 := by decide +kernel
set_option maxRecDepth 100000 in
set_option maxHeartbeats 1000000 in
theorem back_nan (x y : Nat) (S : ByteArray) (w : World)
  (C1 : Hid (∀ W, W = w → Ct 14 #[.float .f64 x] (.string S) W))
  (C2 : Hid (∀ W, Ct 28 #[.string S] (.float .f64 y) W))
  (CN : Hid (∀ W, Cq 34 #[.float .f64 x] (.bool true) W))
  (CM : Hid (∀ W, Cq 34 #[.float .f64 y] (.bool true) W))
  (C6 : Hid (∀ W, Below w.heap.size w W → Ct 16 #[] (.bool true) W)) :
  Ct 9 #[.float .f64 x] (.bool true) w := by
 go_enter Tryz.func9, Tryz.ntmps9
 go_wp2_with fail
 refine (C1.out _ rfl).mono ?_
 rintro e w1 ⟨rfl, b1⟩
 have B := Lib.hid b1
 clear b1
 go_wp2_with fail
 refine (C2.out _).mono ?_
 rintro e w2 ⟨rfl, b2⟩
 have B := Lib.hid (below_le B.out b2)
 clear b2
 go_wp2_with fail
 refine (CN.out _).mono ?_
 rintro e w' ⟨rfl, rfl⟩
 go_wp2_with fail
 refine (CM.out _).mono ?_
 rintro e w' ⟨rfl, rfl⟩
 go_wp2_with fail
 refine (C6.out _ B.out).mono ?_
 rintro e w5 ⟨rfl, b5⟩
 have B := Lib.hid (below_le B.out b5)
 clear b5
 go_wp2
 go_ret
 exact ⟨rfl, B.out⟩
set_option maxRecDepth 100000 in
set_option maxHeartbeats 1000000 in
theorem back_zero (x y z : Nat) (S : ByteArray) (w : World)
  (t0 : (FloatKind.f64.format.order x y != some .eq) = false) (t1 : (FloatKind.f64.format.order x 0 == some .eq) = true) (t2 : (FloatKind.f64.format.order x 0 == some .gt) = false) (t3 : (FloatKind.f64.format.order z x == some .eq) = true)
  (C1 : Hid (∀ W, W = w → Ct 14 #[.float .f64 x] (.string S) W))
  (C2 : Hid (∀ W, Ct 28 #[.string S] (.float .f64 y) W))
  (CN : Hid (∀ W, Cq 34 #[.float .f64 x] (.bool false) W))
  (CB : Hid (∀ W, Cq 35 #[.float .f64 y] (.bool false) W))
  (C3 : Hid (∀ W, Ct 25 #[.string S] (.tuple #[.float .f64 z, .bool true]) W))
  (CI : Hid (∀ W, Cq 36 #[.float .f64 x, .int .i64 0] (.bool false) W))
  (C4 : Hid (∀ W, Ct 30 #[.string S] (.float .f64 y) W))
  (C5 : Hid (∀ W, Cq 27 #[.float .f64 y, .float .f64 y] (.bool true) W))
  (C6 : Hid (∀ W, Below w.heap.size w W → Ct 16 #[] (.bool true) W)) :
  Ct 9 #[.float .f64 x] (.bool true) w := by
 go_enter Tryz.func9, Tryz.ntmps9
 go_wp2_with fail
 refine (C1.out _ rfl).mono ?_
 rintro e w1 ⟨rfl, b1⟩
 have B := Lib.hid b1
 clear b1
 go_wp2_with fail
 refine (C2.out _).mono ?_
 rintro e w2 ⟨rfl, b2⟩
 have B := Lib.hid (below_le B.out b2)
 clear b2
 go_wp2_with fail
 refine (CN.out _).mono ?_
 rintro e w' ⟨rfl, rfl⟩
 go_wp2_with fail
 refine (CB.out _).mono ?_
 rintro e w' ⟨rfl, rfl⟩
 go_wp2_with fail
 refine (C3.out _).mono ?_
 rintro e w3 ⟨rfl, b3⟩
 have B := Lib.hid (below_le B.out b3)
 clear b3
 go_wp2_with fail
 refine (CI.out _).mono ?_
 rintro e w' ⟨rfl, rfl⟩
 go_wp2_with fail
 refine (C4.out _).mono ?_
 rintro e w3 ⟨rfl, b3⟩
 have B := Lib.hid (below_le B.out b3)
 clear b3
 go_wp2_with fail
 refine (C5.out _).mono ?_
 rintro e w' ⟨rfl, rfl⟩
 go_wp2_with fail
 refine (C6.out _ B.out).mono ?_
 rintro e w5 ⟨rfl, b5⟩
 have B := Lib.hid (below_le B.out b5)
 clear b5
 go_wp2
 go_ret
 exact ⟨rfl, B.out⟩
set_option maxRecDepth 100000 in
set_option maxHeartbeats 1000000 in
theorem back_pos (x y z : Nat) (S : ByteArray) (w : World)
  (t0 : (FloatKind.f64.format.order x y != some .eq) = false) (t1 : (FloatKind.f64.format.order x 0 == some .eq) = false) (t2 : (FloatKind.f64.format.order x 0 == some .gt) = true) (t3 : (FloatKind.f64.format.order z x == some .eq) = true)
  (C1 : Hid (∀ W, W = w → Ct 14 #[.float .f64 x] (.string S) W))
  (C2 : Hid (∀ W, Ct 28 #[.string S] (.float .f64 y) W))
  (CN : Hid (∀ W, Cq 34 #[.float .f64 x] (.bool false) W))
  (C3 : Hid (∀ W, Ct 25 #[.string S] (.tuple #[.float .f64 z, .bool true]) W))
  (CI : Hid (∀ W, Cq 36 #[.float .f64 x, .int .i64 0] (.bool false) W))
  (C4 : Hid (∀ W, Ct 30 #[.string S] (.float .f64 y) W))
  (C5 : Hid (∀ W, Cq 27 #[.float .f64 y, .float .f64 y] (.bool true) W))
  (C6 : Hid (∀ W, Below w.heap.size w W → Ct 16 #[] (.bool true) W)) :
  Ct 9 #[.float .f64 x] (.bool true) w := by
 go_enter Tryz.func9, Tryz.ntmps9
 go_wp2_with fail
 refine (C1.out _ rfl).mono ?_
 rintro e w1 ⟨rfl, b1⟩
 have B := Lib.hid b1
 clear b1
 go_wp2_with fail
 refine (C2.out _).mono ?_
 rintro e w2 ⟨rfl, b2⟩
 have B := Lib.hid (below_le B.out b2)
 clear b2
 go_wp2_with fail
 refine (CN.out _).mono ?_
 rintro e w' ⟨rfl, rfl⟩
 go_wp2_with fail
 refine (C3.out _).mono ?_
 rintro e w3 ⟨rfl, b3⟩
 have B := Lib.hid (below_le B.out b3)
 clear b3
 go_wp2_with fail
 refine (CI.out _).mono ?_
 rintro e w' ⟨rfl, rfl⟩
 go_wp2_with fail
 refine (C4.out _).mono ?_
 rintro e w3 ⟨rfl, b3⟩
 have B := Lib.hid (below_le B.out b3)
 clear b3
 go_wp2_with fail
 refine (C5.out _).mono ?_
 rintro e w' ⟨rfl, rfl⟩
 go_wp2_with fail
 refine (C6.out _ B.out).mono ?_
 rintro e w5 ⟨rfl, b5⟩
 have B := Lib.hid (below_le B.out b5)
 clear b5
 go_wp2
 go_ret
 exact ⟨rfl, B.out⟩
set_option maxRecDepth 100000 in
set_option maxHeartbeats 1000000 in
theorem back_neg (x y z : Nat) (b : Bool) (S : ByteArray) (w : World)
  (t0 : (FloatKind.f64.format.order x y != some .eq) = false) (t1 : (FloatKind.f64.format.order x 0 == some .eq) = false) (t2 : (FloatKind.f64.format.order x 0 == some .gt) = false)
  (C1 : Hid (∀ W, W = w → Ct 14 #[.float .f64 x] (.string S) W))
  (C2 : Hid (∀ W, Ct 28 #[.string S] (.float .f64 y) W))
  (CN : Hid (∀ W, Cq 34 #[.float .f64 x] (.bool false) W))
  (C3 : Hid (∀ W, Ct 25 #[.string S] (.tuple #[.float .f64 z, .bool b]) W))
  (CI : Hid (∀ W, Cq 36 #[.float .f64 x, .int .i64 0] (.bool false) W))
  (C4 : Hid (∀ W, Ct 30 #[.string S] (.float .f64 y) W))
  (C5 : Hid (∀ W, Cq 27 #[.float .f64 y, .float .f64 y] (.bool true) W))
  (C6 : Hid (∀ W, Below w.heap.size w W → Ct 16 #[] (.bool true) W)) :
  Ct 9 #[.float .f64 x] (.bool true) w := by
 go_enter Tryz.func9, Tryz.ntmps9
 go_wp2_with fail
 refine (C1.out _ rfl).mono ?_
 rintro e w1 ⟨rfl, b1⟩
 have B := Lib.hid b1
 clear b1
 go_wp2_with fail
 refine (C2.out _).mono ?_
 rintro e w2 ⟨rfl, b2⟩
 have B := Lib.hid (below_le B.out b2)
 clear b2
 go_wp2_with fail
 refine (CN.out _).mono ?_
 rintro e w' ⟨rfl, rfl⟩
 go_wp2_with fail
 refine (C3.out _).mono ?_
 rintro e w3 ⟨rfl, b3⟩
 have B := Lib.hid (below_le B.out b3)
 clear b3
 go_wp2_with fail
 refine (CI.out _).mono ?_
 rintro e w' ⟨rfl, rfl⟩
 go_wp2_with fail
 refine (C4.out _).mono ?_
 rintro e w3 ⟨rfl, b3⟩
 have B := Lib.hid (below_le B.out b3)
 clear b3
 go_wp2_with fail
 refine (C5.out _).mono ?_
 rintro e w' ⟨rfl, rfl⟩
 go_wp2_with fail
 refine (C6.out _ B.out).mono ?_
 rintro e w5 ⟨rfl, b5⟩
 have B := Lib.hid (below_le B.out b5)
 clear b5
 go_wp2
 go_ret
 exact ⟨rfl, B.out⟩
set_option maxRecDepth 100000 in
set_option maxHeartbeats 1000000 in
theorem back_inf (x y z : Nat) (b : Bool) (S : ByteArray) (w : World)
  (t0 : (FloatKind.f64.format.order x y != some .eq) = false) (t1 : (FloatKind.f64.format.order x 0 == some .eq) = false)
  (C1 : Hid (∀ W, W = w → Ct 14 #[.float .f64 x] (.string S) W))
  (C2 : Hid (∀ W, Ct 28 #[.string S] (.float .f64 y) W))
  (CN : Hid (∀ W, Cq 34 #[.float .f64 x] (.bool false) W))
  (C3 : Hid (∀ W, Ct 25 #[.string S] (.tuple #[.float .f64 z, .bool b]) W))
  (CI : Hid (∀ W, Cq 36 #[.float .f64 x, .int .i64 0] (.bool true) W))
  (C4 : Hid (∀ W, Ct 30 #[.string S] (.float .f64 y) W))
  (C5 : Hid (∀ W, Cq 27 #[.float .f64 y, .float .f64 y] (.bool true) W))
  (C6 : Hid (∀ W, Below w.heap.size w W → Ct 16 #[] (.bool true) W)) :
  Ct 9 #[.float .f64 x] (.bool true) w := by
 go_enter Tryz.func9, Tryz.ntmps9
 go_wp2_with fail
 refine (C1.out _ rfl).mono ?_
 rintro e w1 ⟨rfl, b1⟩
 have B := Lib.hid b1
 clear b1
 go_wp2_with fail
 refine (C2.out _).mono ?_
 rintro e w2 ⟨rfl, b2⟩
 have B := Lib.hid (below_le B.out b2)
 clear b2
 go_wp2_with fail
 refine (CN.out _).mono ?_
 rintro e w' ⟨rfl, rfl⟩
 go_wp2_with fail
 refine (C3.out _).mono ?_
 rintro e w3 ⟨rfl, b3⟩
 have B := Lib.hid (below_le B.out b3)
 clear b3
 go_wp2_with fail
 refine (CI.out _).mono ?_
 rintro e w' ⟨rfl, rfl⟩
 go_wp2_with fail
 refine (C4.out _).mono ?_
 rintro e w3 ⟨rfl, b3⟩
 have B := Lib.hid (below_le B.out b3)
 clear b3
 go_wp2_with fail
 refine (C5.out _).mono ?_
 rintro e w' ⟨rfl, rfl⟩
 go_wp2_with fail
 refine (C6.out _ B.out).mono ?_
 rintro e w5 ⟨rfl, b5⟩
 have B := Lib.hid (below_le B.out b5)
 clear b5
 go_wp2
 go_ret
 exact ⟨rfl, B.out⟩
theorem sgx_cons (x : Nat) (l : List Nat) : sgx x ++ l = if ngB x = true then 45 :: l else l := by
 unfold sgx
 split <;> rfl
theorem tx_read {x : Nat} {L : List Nat} (hx : x < 18446744073709551616) (h : TxQ x L) (h1 : fnan x = false) :
  numW (nrw 0 (us (trimS (wdS L)))) = (if rung x = 0 then 0 else x) ∧ fltW (nrw 0 (ahL (us (wdS L)))) = (if rung x = 0 then 0 else x) ∧
   (finf x = false → ngB x = false → litV (nrw 0 (us (wdS L))) = rung x ∧ litB (nrw 0 (us (wdS L))) = true) := by
 have key : ∀ r : Nat, r = rung x → sgW (ngB x) r = if rung x = 0 then 0 else x := by
  intro r hr
  unfold ngB sgW
  rw [hr]
  rcases Nat.eq_zero_or_pos (rung x) with h0 | h0
  ·rw [h0, decide_eq_false (by omega), Bool.and_false]
   rfl
  ·rw [decide_eq_true h0, Bool.and_true, if_neg (show ¬ rung x = 0 by omega)]
   unfold fneg
   unfold rung at h0 ⊢
   rcases (show x / 9223372036854775808 % 2 = 0 ∨ x / 9223372036854775808 % 2 = 1 by omega) with k | k
   ·rw [k, if_neg (by decide)]
    omega
   ·rw [k, if_pos (by decide)]
    omega
 have wide : ∀ l : List Nat, (∀ c ∈ l, 43 ≤ c ∧ c ≤ 127) → ∀ c ∈ sgx x ++ l, 43 ≤ c ∧ c ≤ 127 := by
  intro l hl c hc
  rw [sgx_cons] at hc
  split at hc
  ·rcases List.mem_cons.1 hc with rfl | hc
   ·omega
   ·exact hl c hc
  ·exact hl c hc
 rcases h with ⟨h2, _⟩ | ⟨_, h2, rfl⟩ | ⟨_, h2, l, hl, rfl⟩
 ·rw [h1] at h2
  cases h2
 ·obtain ⟨w1, w2, w3⟩ := numW_wide (wide infL (by decide))
  obtain ⟨i1, i2, i3, i4⟩ := inf_text
  have hr : rung x = 9218868437227405312 := of_decide_eq_true h2
  rw [w1, w2, w3, ← key 9218868437227405312 hr.symm, sgx_cons]
  refine ⟨?_, ?_, fun k => by rw [h2] at k; cases k⟩
  ·cases ngB x
   ·rw [if_neg (by simp), i1]; rfl
   ·rw [if_pos rfl, i2]
  ·cases ngB x
   ·rw [if_neg (by simp), i3]; rfl
   ·rw [if_pos rfl, i4]
 ·have hd := PlQ.dec (fin_rung h1 h2) hl
  obtain ⟨n1, n2⟩ := hd.num
  obtain ⟨f1, f2⟩ := hd.flt
  obtain ⟨t1, t2⟩ := hd.lit
  obtain ⟨w1, w2, w3⟩ := numW_wide (wide l hd.low)
  rw [w1, w2, w3, ← key _ rfl, sgx_cons]
  refine ⟨?_, ?_, ?_⟩
  ·cases ngB x
   ·rw [if_neg (by simp), n1]; rfl
   ·rw [if_pos rfl, n2]
  ·cases ngB x
   ·rw [if_neg (by simp), f1]; rfl
   ·rw [if_pos rfl, f2]
  ·intro _ k
   rw [k, if_neg (by simp)]
   exact ⟨t1, t2⟩
theorem ord_same {x : Nat} (h : fnan x = false) : (FloatKind.f64.format.order x x == some .eq) = true := by
 have h1 := of_decide_eq_false h
 rw [show FloatKind.f64.format.order x x = Ieee.double.order x x from rfl, order_eq (by omega) (by omega)]
 have : compare (frank x) (frank x) = .eq := Int.compare_eq_eq.2 rfl
 rw [this]
 rfl
theorem ord_eq0 {x : Nat} (h : fnan x = false) : (FloatKind.f64.format.order x 0 == some .eq) = decide (rung x = 0) := by
 have h1 := of_decide_eq_false h
 rw [show FloatKind.f64.format.order x 0 = Ieee.double.order x 0 from rfl, order_eq (by omega) (by decide), (frank_pos (x := 0) (by omega)).1, Bool.eq_iff_iff, beq_iff_eq, Option.some.injEq, Int.compare_eq_eq, decide_eq_true_iff]
 unfold frank
 split
 ·omega
 ·omega
theorem ord_ne {a b : Nat} (h : (FloatKind.f64.format.order a b == some .eq) = true) : (FloatKind.f64.format.order a b != some .eq) = false := by
 unfold bne
 rw [h]
 rfl
theorem back_any (x : Nat) (w : World) (hx : x < 18446744073709551616) (ht : Tab10 w) (hz : TzTab w) :
  Ct 9 #[.float .f64 x] (.bool true) w := by
 obtain ⟨L, hl⟩ := txq_ex x
 have hlen := hl.bd.2
 have hsz : (wdS L).size ≤ 140737488355328 := by
  have h1 : (wdS L).size = 2 * L.length := by
   show (bL L).toArray.size = _
   rw [List.size_toArray]
   exact bL_length L
  omega
 have C1 : Hid (∀ W, W = w → Ct 14 #[.float .f64 x] (.string (wdS L)) W) := Lib.hid (fun W (hW : W = w) => tText_any (w := W) hx (hW ▸ ht) (hW ▸ hz) hl)
 have C2 := fun W => tNumber_any (wdS L) W hsz
 have C3 := fun W => tLiteral_any (wdS L) W hsz
 have C4 := fun W => tFloat_any (wdS L) W hsz
 have CN := fun W => isNaN_any x W
 have CI := fun W => isInf0_any x W hx
 have C6 : Hid (∀ W, Below w.heap.size w W → Ct 16 #[] (.bool true) W) := Lib.hid (fun W (h : Below w.heap.size w W) => awake_any W (ht.on h) (tz_on hz h))
 have C5 := fun y => Lib.hid (fun W => lsame_any y y W true (by simp))
 cases h1 : fnan x
 ·obtain ⟨r1, r2, r3⟩ := tx_read hx hl h1
  rw [h1] at CN
  rw [r1] at C2
  rw [r2] at C4
  have g1 := ord_gt0 hx
  rcases Nat.eq_zero_or_pos (rung x) with h0 | h0
  ·have e1 := ord_eq0 h1
   rw [decide_eq_true h0] at e1
   have hinf : finf x = false := by unfold finf; exact decide_eq_false (by omega)
   have hng : ngB x = false := by unfold ngB; rw [h0]; simp
   obtain ⟨l1, l2⟩ := r3 hinf hng
   rw [l1, l2, h0] at C3
   rw [if_pos h0] at C2 C4
   rw [hinf] at CI
   have hgt : (FloatKind.f64.format.order x 0 == some .gt) = false := by
    rw [g1]
    refine decide_eq_false ?_
    rintro ⟨k1, k2⟩
    have := (frank_pos k2).2
    omega
   have e2 : (FloatKind.f64.format.order 0 x == some .eq) = true := by
    have h2 := of_decide_eq_false h1
    rw [show FloatKind.f64.format.order 0 x = Ieee.double.order 0 x from rfl, order_eq (by decide) (by omega), (frank_pos (x := 0) (by omega)).1, beq_iff_eq, Option.some.injEq, Int.compare_eq_eq]
    unfold frank
    rw [h0]
    split <;> rfl
   exact back_zero x 0 0 (wdS L) w (ord_ne e1) e1 hgt e2 C1 (Lib.hid C2) (Lib.hid CN) (Lib.hid fun W => (signbit_any 0 W (by omega)).mono fun e w' h => h) (Lib.hid C3) (Lib.hid CI) (Lib.hid C4) (C5 0) C6
  ·have hn0 : ¬ rung x = 0 := by omega
   rw [if_neg hn0] at C2 C4
   have e1 := ord_eq0 h1
   rw [decide_eq_false hn0] at e1
   have e2 := ord_same h1
   cases h2 : finf x
   ·rw [h2] at CI
    cases h3 : ngB x
    ·obtain ⟨l1, l2⟩ := r3 h2 h3
     have hf : fneg x = false := by
      unfold ngB at h3
      rw [decide_eq_true h0, Bool.and_true] at h3
      exact h3
     have hr : rung x = x := by
      unfold fneg at hf
      unfold rung
      have : ¬ x / 9223372036854775808 % 2 = 1 := fun k => by rw [k] at hf; cases hf
      omega
     rw [l1, l2, hr] at C3
     have hfr := fin_rung h1 h2
     rw [decide_eq_true (show 0 < x ∧ x ≤ 9218868437227405312 by omega)] at g1
     exact back_pos x x x (wdS L) w (ord_ne e2) e1 g1 e2 C1 (Lib.hid C2) (Lib.hid CN) (Lib.hid C3) (Lib.hid CI) (Lib.hid C4) (C5 x) C6
    ·have hgt : (FloatKind.f64.format.order x 0 == some .gt) = false := by
      rw [g1]
      refine decide_eq_false ?_
      rintro ⟨k1, k2⟩
      unfold ngB fneg at h3
      rw [show x / 9223372036854775808 % 2 = 0 by omega] at h3
      cases h3
     exact back_neg x x _ _ (wdS L) w (ord_ne e2) e1 hgt C1 (Lib.hid C2) (Lib.hid CN) (Lib.hid C3) (Lib.hid CI) (Lib.hid C4) (C5 x) C6
   ·rw [h2] at CI
    exact back_inf x x _ _ (wdS L) w (ord_ne e2) e1 C1 (Lib.hid C2) (Lib.hid CN) (Lib.hid C3) (Lib.hid CI) (Lib.hid C4) (C5 x) C6
 ·rw [h1] at CN
  have hL : L = [78, 97, 78] := by
   rcases hl with ⟨_, h⟩ | ⟨h, _⟩ | ⟨h, _⟩
   ·exact h
   ·rw [h1] at h; cases h
   ·rw [h1] at h; cases h
  subst hL
  rw [nan_text] at C2
  have CM := fun W => isNaN_any nanW W
  rw [show fnan nanW = true by decide +kernel] at CM
  exact back_nan x nanW (wdS [78, 97, 78]) w C1 (Lib.hid C2) (Lib.hid CN) (Lib.hid CM) C6

end Go.Proofs.YtfcpkdafkmohkaaGreatDoor
