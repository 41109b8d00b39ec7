/-
  Merged texts (Vi, Vj, Vk, Vl, Vn, Vo, Vp, Vt, Wa, Wb, Wc, Sa, Sb, Sc, Sd, Se, Wd, We, Wf, Wh, Wg, Wi, Wk, Wl, Sf, Wm, Wn, Wo, Wp, Wq).
-/
import Derived.Test.YtfcpkdafkmohkaaGreatDoorPbe
import Derived.Shelf.Strings.Builder1
import Derived.Shelf.Strings.Builder2
import Derived.Shelf.Strings.OnBuilder
import Derived.Shelf.Strings.Trim
import Derived.Shelf.Small.Utf8
import Derived.Shelf.Small.Bits
import Derived.Shelf.Small.Strs
import Derived.Shelf.Small.Wraps
import Derived.Shelf.Strings.BuilderF
import Derived.Shelf.Strings.BuilderK
import Derived.Shelf.Strconv.Itoa0
import Derived.Shelf.Strconv.Itoa1
import Derived.Shelf.LaysM
import Derived.Shelf.Strconv.Itoa2
import Derived.Shelf.Strconv.Itoa3
import Derived.Shelf.Strings.Search1
import Derived.Shelf.Strings.Prefix
import Derived.Shelf.Unicode.Latin
import Derived.Shelf.Strings.Runes
import Derived.Shelf.Strings.AsciiSet
import Derived.Shelf.Bits.Mul64
import Derived.Shelf.Strings.Repeat
import Derived.Shelf.Unicode.DecodeSlow
import Derived.Shelf.Unicode.CaseLookup
import Derived.Shelf.Unicode.CaseConvert
import Derived.Shelf.Unicode.CaseTo
import Derived.Shelf.Unicode.CaseLaid
import Derived.Shelf.Strings.SlTrimAscii
import Derived.Test.YtfcpkdafkmohkaaGreatDoorProg
import GoSem.Core.Utf8
import Derived.WalkKit
import Derived.WalkSpells
import Derived.WalkLawsBesides
import Derived.Deep.QuietTactic
import Derived.BigQuiet
import Derived.Lib.Hide
import Derived.Deep.OwnRows
import Derived.Laws.CopyOwn
import Derived.Deep.AppendLies
import Derived.Lib.BitFns
import Derived.Lib.Strings
import Derived.Laws.BitsAllLaws
import Derived.Lib.LaidTab
import Derived.ProofKit
import Derived.OpenShut
import Derived.SizedLaws
import Derived.Laws.BytesString
import Derived.Laws.Cells
import Derived.Deep.RegionWith
import Derived.BigRegion
import Derived.Test.YtfcpkdafkmohkaaGreatDoorRows
import Derived.Deep.RegionHeld3
import Derived.Laws.Closers25b
import Ieee.Arith
import GoSem.Core.Float
import Derived.Lib.ItoaNum
import Derived.Deep.DeepCutAuto
import Derived.Laws.FloatArith
import Derived.Laws.Externs
import Derived.Lib.SlTrimSet
import Derived.Lib.Case
import Derived.Deep.WholeRow
import Derived.Laws.Tables
import Derived.Laws.EntriesVeiled
import Derived.Lib.AppendIntMem
namespace Go.Proofs.YtfcpkdafkmohkaaGreatDoor
open Go.RowKit
set_option maxRecDepth 100000 in
set_option maxHeartbeats 2000000 in
theorem ylong_end_0 (s : ByteArray) (a : Nat) (w : World) (_hs : s.size ≤ 140737488355328) (g : a = s.size) (ha0 : a = 0)
    (C1 : Hid (∀ W, Cq 137 #[.string s, .int .i64 0] (.int .i64 (a : Nat)) W))
 :
    Ct 72 #[.string s] (.tuple #[.int .i64 0, .float .f64 0]) w := by
  have a1 : (0 : Int) ≤ (a : Int) := by omega
  have a2 : ¬ (a : Int) < (s.size : Int) := by omega
  have a3 : (a : Int) ≤ (s.size : Int) := by omega
  have e2 : ((a : Int) == 0) = true := by rw [beq_iff_eq]; omega
  clear ha0 g
  go_enter Tryz.func72, Tryz.ntmps72
  go_wp2_with fail
  refine (C1.out _).mono ?_
  rintro e w' ⟨rfl, rfl⟩
  go_wp2
  go_ret2
  exact ⟨rfl, Below.refl _ _⟩
set_option maxRecDepth 100000 in
set_option maxHeartbeats 2000000 in
theorem ylong_end_1 (s : ByteArray) (a F : Nat) (p : Int) (w : World) (hs : s.size ≤ 140737488355328) (g : a = s.size) (ha0 : 0 < a)
  (C1 : Hid (∀ W, Cq 137 #[.string s, .int .i64 0] (.int .i64 (a : Nat)) W))
  (C4 : Hid (∀ W, Ct 138 #[.string s, .int .i64 ((a : Nat)), .string (s.extract 0 a), .int .i64 (0)] (.tuple #[.int .i64 p, .float .f64 F]) W)) :
  Ct 72 #[.string s] (.tuple #[.int .i64 p, .float .f64 F]) w := by
 have h1 : (s.size : Int) ≤ 140737488355328 := by omega
 have a1 : (0 : Int) ≤ (a : Int) := by omega
 have a2 : ¬ (a : Int) < (s.size : Int) := by omega
 have a3 : (a : Int) ≤ (s.size : Int) := by omega
 have e2 : ((a : Int) == 0) = false := by rw [beq_eq_false_iff_ne]; omega
 clear hs ha0 g
 go_enter Tryz.func72, Tryz.ntmps72
 go_wp2_with fail
 refine (C1.out _).mono ?_
 rintro e w' ⟨rfl, rfl⟩
 go_wp2_with fail
 refine (C4.out _).mono ?_
 rintro e w' ⟨rfl, hb⟩
 go_wp2
 go_ret2
 exact ⟨rfl, hb⟩
set_option maxRecDepth 100000 in
set_option maxHeartbeats 2000000 in
theorem ylong_other_0 (s : ByteArray) (a B : Nat) (w : World) (hs : s.size ≤ 140737488355328) (g : a < s.size) (hB : (s[a]'g).toNat = B) (n1 : B ≠ 46) (ha0 : a = 0)
    (C1 : Hid (∀ W, Cq 137 #[.string s, .int .i64 0] (.int .i64 (a : Nat)) W))
 :
    Ct 72 #[.string s] (.tuple #[.int .i64 0, .float .f64 0]) w := by
  have h1 : (s.size : Int) ≤ 140737488355328 := by omega
  have a1 : (0 : Int) ≤ (a : Int) := by omega
  have a2 : (a : Int) < (s.size : Int) := by omega
  have a3 : (a : Int) ≤ (s.size : Int) := by omega
  have e0 : ((s[a]'g).toNat : Int) = (B : Int) := by rw [hB]
  have e1 : ((B : Int) == 46) = false := by rw [beq_eq_false_iff_ne]; omega
  have e2 : ((a : Int) == 0) = true := by rw [beq_iff_eq]; omega
  clear hs ha0 hB n1
  go_enter Tryz.func72, Tryz.ntmps72
  go_wp2_with fail
  refine (C1.out _).mono ?_
  rintro e w' ⟨rfl, rfl⟩
  go_wp2
  go_ret2
  exact ⟨rfl, Below.refl _ _⟩
set_option maxRecDepth 100000 in
set_option maxHeartbeats 2000000 in
theorem ylong_other_1 (s : ByteArray) (a B F : Nat) (p : Int) (w : World) (hs : s.size ≤ 140737488355328) (g : a < s.size) (hB : (s[a]'g).toNat = B) (n1 : B ≠ 46) (ha0 : 0 < a)
  (C1 : Hid (∀ W, Cq 137 #[.string s, .int .i64 0] (.int .i64 (a : Nat)) W))
  (C4 : Hid (∀ W, Ct 138 #[.string s, .int .i64 ((a : Nat)), .string (s.extract 0 a), .int .i64 (0)] (.tuple #[.int .i64 p, .float .f64 F]) W)) :
  Ct 72 #[.string s] (.tuple #[.int .i64 p, .float .f64 F]) w := by
 have h1 : (s.size : Int) ≤ 140737488355328 := by omega
 have a1 : (0 : Int) ≤ (a : Int) := by omega
 have a2 : (a : Int) < (s.size : Int) := by omega
 have a3 : (a : Int) ≤ (s.size : Int) := by omega
 have e0 : ((s[a]'g).toNat : Int) = (B : Int) := by rw [hB]
 have e1 : ((B : Int) == 46) = false := by rw [beq_eq_false_iff_ne]; omega
 have e2 : ((a : Int) == 0) = false := by rw [beq_eq_false_iff_ne]; omega
 clear hs ha0 hB n1
 go_enter Tryz.func72, Tryz.ntmps72
 go_wp2_with fail
 refine (C1.out _).mono ?_
 rintro e w' ⟨rfl, rfl⟩
 go_wp2_with fail
 refine (C4.out _).mono ?_
 rintro e w' ⟨rfl, hb⟩
 go_wp2
 go_ret2
 exact ⟨rfl, hb⟩
set_option maxRecDepth 100000 in
set_option maxHeartbeats 2000000 in
theorem ylong_dot_0 (s : ByteArray) (a b : Nat) (w : World) (hs : s.size ≤ 140737488355328) (g : a < s.size) (hB : (s[a]'g).toNat = 46) (ha0 : a = 0) (hb0 : b = 0) (hb : a + 1 + b ≤ s.size)
    (C1 : Hid (∀ W, Cq 137 #[.string s, .int .i64 0] (.int .i64 (a : Nat)) W))
    (C3 : Hid (∀ W, Cq 137 #[.string s, .int .i64 ((a : Int) + 1)] (.int .i64 (b : Nat)) W))
 :
    Ct 72 #[.string s] (.tuple #[.int .i64 0, .float .f64 0]) w := by
  have h1 : (s.size : Int) ≤ 140737488355328 := by omega
  have a1 : (0 : Int) ≤ (a : Int) := by omega
  have a2 : (a : Int) < (s.size : Int) := by omega
  have a3 : (a : Int) ≤ (s.size : Int) := by omega
  have e0 : ((s[a]'g).toNat : Int) = 46 := by rw [hB]; rfl
  have b1 : (a : Int) + 1 + (b : Int) ≤ (s.size : Int) := by omega
  have b2 : (0 : Int) ≤ (b : Int) := by omega
  have b3 : ((a : Int) + 1).toNat = a + 1 := by omega
  have b4 : ((a : Int) + 1 + (b : Int)).toNat = a + 1 + b := by omega
  have e2 : ¬ (0 : Int) < (a : Int) + (b : Int) := by omega
  have e3 : ((a : Int) == 0) = true := by rw [beq_iff_eq]; omega
  clear hs hB hb ha0 hb0
  go_enter Tryz.func72, Tryz.ntmps72
  go_wp2_with fail
  refine (C1.out _).mono ?_
  rintro e w' ⟨rfl, rfl⟩
  go_wp2_with fail
  refine (C3.out _).mono ?_
  rintro e w' ⟨rfl, rfl⟩
  go_wp2
  go_ret2
  exact ⟨rfl, Below.refl _ _⟩
set_option maxRecDepth 100000 in
set_option maxHeartbeats 2000000 in
theorem ylong_dot_1 (s : ByteArray) (a b F : Nat) (p : Int) (w : World) (hs : s.size ≤ 140737488355328) (g : a < s.size) (hB : (s[a]'g).toNat = 46) (h0 : 0 < a + b) (hb : a + 1 + b ≤ s.size)
  (C1 : Hid (∀ W, Cq 137 #[.string s, .int .i64 0] (.int .i64 (a : Nat)) W))
  (C3 : Hid (∀ W, Cq 137 #[.string s, .int .i64 ((a : Int) + 1)] (.int .i64 (b : Nat)) W))
  (C4 : Hid (∀ W, Ct 138 #[.string s, .int .i64 ((a : Int) + 1 + (b : Int)), .string (s.extract 0 a ++ s.extract (a + 1) (a + 1 + b)), .int .i64 (-(b : Int))] (.tuple #[.int .i64 p, .float .f64 F]) W)) :
  Ct 72 #[.string s] (.tuple #[.int .i64 p, .float .f64 F]) w := by
 have h1 : (s.size : Int) ≤ 140737488355328 := by omega
 have a1 : (0 : Int) ≤ (a : Int) := by omega
 have a2 : (a : Int) < (s.size : Int) := by omega
 have a3 : (a : Int) ≤ (s.size : Int) := by omega
 have e0 : ((s[a]'g).toNat : Int) = 46 := by rw [hB]; rfl
 have b1 : (a : Int) + 1 + (b : Int) ≤ (s.size : Int) := by omega
 have b2 : (0 : Int) ≤ (b : Int) := by omega
 have b3 : ((a : Int) + 1).toNat = a + 1 := by omega
 have b4 : ((a : Int) + 1 + (b : Int)).toNat = a + 1 + b := by omega
 have e2 : (0 : Int) < (a : Int) + (b : Int) := by omega
 have q3 : ¬ 9223372036854775807 < (s.extract 0 a).size + (s.extract (a + 1) (a + 1 + b)).size := by
  rw [ByteArray.size_extract, ByteArray.size_extract]
  omega
 clear hs hB hb h0
 go_enter Tryz.func72, Tryz.ntmps72
 go_wp2_with fail
 refine (C1.out _).mono ?_
 rintro e w' ⟨rfl, rfl⟩
 go_wp2_with fail
 refine (C3.out _).mono ?_
 rintro e w' ⟨rfl, rfl⟩
 go_wp2_with fail
 refine (C4.out _).mono ?_
 rintro e w' ⟨rfl, hb⟩
 go_wp2
 go_ret2
 exact ⟨rfl, hb⟩
theorem drop_run (l : List Nat) : l.drop (run10 l).length = aft10 l := by
 conv => lhs; arg 2; rw [← run_aft l]
 rw [List.drop_left]
theorem take_run10 (l : List Nat) : l.take (run10 l).length = run10 l := by
 conv => lhs; arg 2; rw [← run_aft l]
 rw [List.take_left]
theorem yrun_zero (s : ByteArray) (w : World) (hs : s.size ≤ 140737488355328) : Cq 137 #[.string s, .int .i64 0] (.int .i64 ((run10 (bl s)).length : Nat)) w := by
 have := yrun_any s 0 w hs (by omega)
 rw [List.drop_zero] at this
 exact this
theorem ext_mid (s : ByteArray) (i n : Nat) (h : i + n ≤ s.size) : s.extract i (i + n) = strOf (((bl s).drop i).take n) := by
 have h1 : (s.extract i s.size).extract 0 n = s.extract i (i + n) := by
  rw [ByteArray.extract_extract, Nat.add_zero, Nat.min_eq_left (by omega)]
 rw [← h1, ext_drop, ext_take, bl_strOf (fun c hc => bl_lt s c (List.mem_of_mem_drop hc))]
def lgN (l : List Nat) : Nat := if dB l = true then l.length - (dR l).length else 0
def lgV (l : List Nat) : Nat := if dB l = true then dV l else 0
theorem ylongest_any (s : ByteArray) (w : World) (hs : s.size ≤ 140737488355320) :
  Ct 72 #[.string s] (.tuple #[.int .i64 (lgN (bl s) : Nat), .float .f64 (lgV (bl s))]) w := by
 obtain ⟨l, hl⟩ : ∃ l, bl s = l := ⟨_, rfl⟩
 have hbl := bl_size s
 have hlt := bl_lt s
 have C1 := Lib.hid (fun W => yrun_zero s W (by omega))
 have C4 := fun at' f E W ha hd hf h1 h2 => ytail_any s at' f E W hs ha hd hf h1 h2
 have C3 := fun k W hk => yrun_one s k W (by omega) hk
 have hra := run_len l
 have hdr := drop_run l
 have htk := take_run10 l
 have hex : s.extract 0 (run10 l).length = strOf (run10 l) := by rw [ext_take, hl, htk]
 have hmid := fun i n h => ext_mid s i n h
 rw [hl] at C1 hbl hlt C4 C3 hmid ⊢
 have r256 : ∀ c ∈ run10 l, dg10 c = true := run10_all l
 have nodot : dotB (aft10 l) = false → dF l = [] ∧ dT l = aft10 l := fun h => by
  unfold dF dT
  rw [h]
  exact ⟨rfl, rfl⟩
 have zero : dW l = [] → dF l = [] → dB l = false := fun h1 h2 => by
  unfold dB
  rw [h1, h2]
  rfl
 have pos1 : dW l ≠ [] → dB l = true := fun h => by
  unfold dB
  cases hw : dW l with
  | nil => exact absurd hw h
  | cons => rfl
 have pos2 : dF l ≠ [] → dB l = true := fun h => by
  unfold dB
  cases hw : dF l with
  | nil => exact absurd hw h
  | cons => simp
 obtain ⟨A, hA⟩ : ∃ A, aft10 l = A := ⟨_, rfl⟩
 have T0 := fun (h : dotB (aft10 l) = false) (h2 : dW l ≠ []) => (by
  obtain ⟨e1, e2⟩ := nodot h
  have := fun W => C4 (run10 l).length (run10 l) 0 W (by omega) r256 (by omega) (by omega) (by omega)
  have ev : dV l = decR (num 10 (run10 l)) (0 + exV (aft10 l)) := by
   unfold dV dX
   rw [e1, e2, List.append_nil, List.length_nil]
   exact congrArg (decR _) (by omega)
  have en : l.length - (dR l).length = s.size - (exR (aft10 l)).length := by unfold dR; rw [e2, hbl]
  rw [hdr, ← ev, ← en] at this
  unfold lgN lgV
  rw [if_pos (pos1 h2), if_pos (pos1 h2), hex]
  exact this : ∀ W, Ct 138 #[.string s, .int .i64 ((run10 l).length : Nat), .string (s.extract 0 (run10 l).length), .int .i64 0] (.tuple #[.int .i64 (lgN l : Nat), .float .f64 (lgV l)]) W)
 have Z0 := fun (h : dB l = false) => (by
  unfold lgN lgV
  rw [h]
  exact ⟨rfl, rfl⟩ : lgN l = 0 ∧ lgV l = 0)
 cases A with
 | nil =>
  have hn : (run10 l).length = s.size := by rw [hA, List.length_nil] at hra; omega
  have hdot : dotB (aft10 l) = false := by rw [hA]; rfl
  by_cases h0 : dW l = []
  ·obtain ⟨z1, z2⟩ := Z0 (zero h0 (nodot hdot).1)
   rw [z1, z2]
   exact ylong_end_0 (s := s) (a := (run10 l).length) (w := w) (_hs := by omega) (g := hn) (ha0 := by have : run10 l = [] := h0; rw [this]; rfl) (C1 := C1)
  ·exact ylong_end_1 (s := s) (a := (run10 l).length) (w := w) (hs := by omega) (g := hn) (ha0 := List.length_pos_iff.2 h0) (C1 := C1) (C4 := Lib.hid (T0 hdot h0))
 | cons B t =>
  rw [hA] at hdr
  obtain ⟨hr, hc, _⟩ := drop_next hdr
  obtain ⟨g, hB⟩ := byte_at (s := s) (by rw [hl]; exact hc)
  by_cases hb : B = 46
  ·subst hb
   have hF : dF l = run10 t := by unfold dF; rw [hA]; rfl
   have hT : dT l = aft10 t := by unfold dT; rw [hA]; rfl
   have hrt := run_len t
   have hla := congrArg List.length hdr
   rw [List.length_drop, List.length_cons] at hla
   have C3' := Lib.hid (fun W => C3 (run10 l).length W (by omega))
   rw [hr] at C3'
   by_cases h0 : 0 < (run10 l).length + (run10 t).length
   ·have hB2 : dB l = true := by
     by_cases h1 : dW l = []
     ·refine pos2 (fun e => ?_)
      rw [hF] at e
      have h2 : run10 l = [] := h1
      rw [h2, e] at h0
      exact absurd h0 (by simp)
     ·exact pos1 h1
    have T1 := fun W => C4 ((run10 l).length + 1 + (run10 t).length) (run10 l ++ run10 t) (-((run10 t).length : Int)) W (by omega) (fun c hc => by
     rcases List.mem_append.1 hc with h | h
     ·exact run10_all _ c h
     ·exact run10_all _ c h) (by rw [List.length_append]; omega) (by omega) (by omega)
    have hd2 : l.drop ((run10 l).length + 1 + (run10 t).length) = aft10 t := by rw [← List.drop_drop, hr, drop_run]
    have ev : dV l = decR (num 10 (run10 l ++ run10 t)) (-((run10 t).length : Int) + exV (aft10 t)) := by
     unfold dV dX dW
     rw [hF, hT]
     exact congrArg (decR _) (by omega)
    have en : l.length - (dR l).length = s.size - (exR (aft10 t)).length := by unfold dR; rw [hT, hbl]
    have hex2 : s.extract 0 (run10 l).length ++ s.extract ((run10 l).length + 1) ((run10 l).length + 1 + (run10 t).length) = strOf (run10 l ++ run10 t) := by
     rw [hex, hmid _ _ (by omega), hr, take_run10, strOf_append]
    rw [hd2, ← ev, ← en, ← hex2, show (((run10 l).length + 1 + (run10 t).length : Nat) : Int) = ((run10 l).length : Int) + 1 + ((run10 t).length : Int) by omega] at T1
    unfold lgN lgV
    rw [if_pos hB2, if_pos hB2]
    exact ylong_dot_1 (s := s) (a := (run10 l).length) (b := (run10 t).length) (w := w) (hs := by omega) (g := g) (hB := hB) (h0 := h0) (hb := by omega) (C1 := C1) (C3 := C3') (C4 := Lib.hid T1)
   ·have h1 : run10 l = [] := List.length_eq_zero_iff.1 (by omega)
    have h2 : run10 t = [] := List.length_eq_zero_iff.1 (by omega)
    obtain ⟨z1, z2⟩ := Z0 (zero h1 (by rw [hF, h2]))
    rw [z1, z2]
    exact ylong_dot_0 (s := s) (a := (run10 l).length) (b := (run10 t).length) (w := w) (hs := by omega) (g := g) (hB := hB) (ha0 := by rw [h1]; rfl) (hb0 := by rw [h2]; rfl) (hb := by omega) (C1 := C1) (C3 := C3')
  ·have hdot : dotB (aft10 l) = false := by rw [hA]; unfold dotB; rw [List.head?_cons, beq_eq_false_iff_ne]; exact fun e => hb (Option.some.inj e)
   by_cases h0 : dW l = []
   ·obtain ⟨z1, z2⟩ := Z0 (zero h0 (nodot hdot).1)
    rw [z1, z2]
    exact ylong_other_0 (s := s) (a := (run10 l).length) (B := B) (w := w) (hs := by omega) (g := g) (hB := hB) (n1 := hb) (ha0 := by have : run10 l = [] := h0; rw [this]; rfl) (C1 := C1)
   ·have T2 := T0 hdot h0
    exact ylong_other_1 (s := s) (a := (run10 l).length) (B := B) (w := w) (hs := by omega) (g := g) (hB := hB) (n1 := hb) (ha0 := List.length_pos_iff.2 h0) (C1 := C1) (C4 := Lib.hid T2)

end Go.Proofs.YtfcpkdafkmohkaaGreatDoor
namespace Go.Proofs.YtfcpkdafkmohkaaGreatDoor
open Go.RowKit
set_option maxRecDepth 100000 in
set_option maxHeartbeats 2000000 in
theorem ynat_top (s : ByteArray) (K N r : Nat) (w : World) (hs : s.size ≤ 281474976710656) (hK : K ≤ s.size) (hN : s.size - K = N)
  (Z1 : Hid (∀ k (h : k < s.size), k < K → (s[k]'h).toNat = 48)) (Z2 : Hid (∀ h : K < s.size, (s[K]'h).toNat ≠ 48)) (hN0 : 1100 < N) :
  Ct 91 #[.string s, .int .i64 r] (.float .f64 9218868437227405312) w := by
 have h1 : (s.size : Int) ≤ 281474976710656 := by omega
 have HN := Lib.hid hN
 have HK := Lib.hid hK
 have HN0 := Lib.hid hN0
 have C3 := Lib.hid (fun W => inf1_any W)
 clear hs hK hN hN0
 go_enter Tryz.func91, Tryz.ntmps91
 go_wp2
 go_loopw [5] (fun i wr => ∃ k : Nat, i = .int .i64 k ∧ k ≤ K ∧ w = wr) (fun i _ => K - (intOf i).toNat)
 case atStart => exact ⟨0, rfl, Nat.zero_le _, rfl⟩
 case round =>
  obtain ⟨k, rfl, hk, rfl⟩ := hrel
  have hk2 := HK.out
  by_cases hlt : k < K
  ·have hks : k < s.size := by omega
   have e0 : ((s[k]'hks).toNat : Int) = 48 := by rw [Z1.out k hks hlt]; rfl
   have a2 : (k : Int) < (s.size : Int) := by omega
   have a1 : (0 : Int) ≤ (k : Int) := by omega
   clear hk2
   go_wp2
   exact ⟨⟨k + 1, by go_num, by omega, trivial⟩, by simp [intOf]; omega⟩
  ·obtain rfl : k = K := by omega
   have hz : k < s.size := by have := HN.out; have := HN0.out; omega
   obtain ⟨B, hB⟩ : ∃ B : Nat, (s[k]'hz).toNat = B := ⟨_, rfl⟩
   have hB48 := Z2.out hz
   rw [hB] at hB48
   have e0 : ((s[k]'hz).toNat : Int) = (B : Int) := by rw [hB]
   have e1 : ((B : Int) == 48) = false := by rw [beq_eq_false_iff_ne]; omega
   have a2 : (k : Int) < (s.size : Int) := by omega
   have a1 : (0 : Int) ≤ (k : Int) := by omega
   have a3 : (k : Int) ≤ (s.size : Int) := by omega
   have a4 : ((s.size - k : Nat) : Int) = (N : Int) := by rw [HN.out]
   have t1 : decide ((1100 : Int) < (N : Int)) = true := decide_eq_true (by have := HN0.out; omega)
   clear hk2 hB hB48
   go_wp2_with fail
   refine (C3.out _).mono ?_
   rintro e w' ⟨rfl, rfl⟩
   go_wp2
   go_ret
   exact ⟨rfl, Below.refl _ _⟩
set_option maxRecDepth 100000 in
set_option maxHeartbeats 2000000 in
theorem ynat_low (s g : ByteArray) (K N r F : Nat) (w : World) (hs : s.size ≤ 281474976710656) (hK : K ≤ s.size) (hN : s.size - K = N)
  (Z1 : Hid (∀ k (h : k < s.size), k < K → (s[k]'h).toNat = 48)) (Z2 : Hid (∀ h : K < s.size, (s[K]'h).toNat ≠ 48)) (hN0 : ¬ 1100 < N)
  (hg : s.extract K s.size = g) (hgN : g.size = N) (h2 : 2 ≤ r) (h36 : r ≤ 36) (hd : ∀ i, i < g.size → dgt (btn g i) < r)
  (HL : Hid (∀ o, o ≤ N → (wds (pv r (fun i => dgt (btn g i)) o)).length ≤ 940))
  (C7 : Hid (∀ W A n c, NV W A n c (pv r (fun i => dgt (btn g i)) N) → Ct 154 #[.slice A n c, .int .i64 0] (.float .f64 F) W)) :
  Ct 91 #[.string s, .int .i64 r] (.float .f64 F) w := by
 have h1 : (s.size : Int) ≤ 281474976710656 := by omega
 have HN := Lib.hid hN
 have HK := Lib.hid hK
 have HN0 := Lib.hid hN0
 have HG := Lib.hid hg
 have HGN := Lib.hid hgN
 have HD := Lib.hid hd
 have H2 := Lib.hid h2
 have H36 := Lib.hid h36
 have kr : IntKind.u32.wrap (r : Int) = (r : Int) := IntWalk.u32_in _ (by omega)
 clear hs hK hN hN0 hg hgN hd h2 h36
 go_enter Tryz.func91, Tryz.ntmps91
 go_wp2
 go_loopw [5] (fun i wr => ∃ k : Nat, i = .int .i64 k ∧ k ≤ K ∧ w = wr) (fun i _ => K - (intOf i).toNat)
 case atStart => exact ⟨0, rfl, Nat.zero_le _, rfl⟩
 case round =>
  obtain ⟨k, rfl, hk, rfl⟩ := hrel
  have hk2 := HK.out
  by_cases hlt : k < K
  ·have hks : k < s.size := by omega
   have e0 : ((s[k]'hks).toNat : Int) = 48 := by rw [Z1.out k hks hlt]; rfl
   have a2 : (k : Int) < (s.size : Int) := by omega
   have a1 : (0 : Int) ≤ (k : Int) := by omega
   clear hk2
   go_wp2
   exact ⟨⟨k + 1, by go_num, by omega, trivial⟩, by simp [intOf]; omega⟩
  ·obtain rfl : k = K := by omega
   have a1 : (0 : Int) ≤ (k : Int) := by omega
   have a3 : (k : Int) ≤ (s.size : Int) := by omega
   have hext : s.extract k s.size = g := HG.out
   have b4 : (g.size : Int) = (N : Int) := by rw [HGN.out]
   have t1 : decide ((1100 : Int) < (N : Int)) = false := decide_eq_false (by have := HN0.out; omega)
   have main : ∀ Q : Prop, Q → Q := fun _ h => h
   by_cases hz : k < s.size
   ·obtain ⟨B, hB⟩ : ∃ B : Nat, (s[k]'hz).toNat = B := ⟨_, rfl⟩
    have hB48 := Z2.out hz
    rw [hB] at hB48
    have e0 : ((s[k]'hz).toNat : Int) = (B : Int) := by rw [hB]
    have e1 : ((B : Int) == 48) = false := by rw [beq_eq_false_iff_ne]; omega
    have a2 : (k : Int) < (s.size : Int) := by omega
    clear hk2 hB hB48 main
    go_wp2
    clear a1 a2 a3 e0 e1 hext b4 t1 hz
    go_loopw [6, 7] (fun av iv wr => ∃ o : Nat, iv = .int .i64 (o : Nat) ∧ o ≤ N ∧ Hid (Sl wr wr.heap.size av (wds (pv r (fun i => dgt (btn g i)) o))) ∧ Below w.heap.size w wr) (fun _ iv _ => N - (intOf iv).toNat)
    case atStart => exact ⟨0, rfl, Nat.zero_le _, Lib.hid (Sl.nil _ _ _), Below.refl _ _⟩
    case round =>
     obtain ⟨o, rfl, ho, HS, hbw⟩ := hrel
     have hle := HL.out o ho
     obtain ⟨V, hV⟩ : ∃ V, pv r (fun i => dgt (btn g i)) o = V := ⟨_, rfl⟩
     rw [hV] at HS hle
     have HV := Lib.hid hV
     obtain ⟨A0, c0, rfl, hc0, hr0⟩ := HS.out
     obtain ⟨L0, hL0⟩ : ∃ L, (wds V).length = L := ⟨_, rfl⟩
     rw [hL0] at hc0 hle ⊢
     by_cases hlt : o < N
     ·have hgo : o < g.size := by rw [HGN.out]; exact hlt
      have hd := HD.out o hgo
      have hb4 : (g.size : Int) = (N : Int) := by rw [HGN.out]
      have hx1 : (o : Int) < (N : Int) := by omega
      have hx2 : (o : Int) < (g.size : Int) := by omega
      have hx3 : (0 : Int) ≤ (o : Int) := by omega
      have hN1 : (N : Int) ≤ 1100 := by have := HN0.out; omega
      have C1 := Lib.hid (fun W => show Cp 90 #[.int .u8 ((g[o]'hgo).toNat : Nat)] W fun e w' => e = .returned (.int .i64 (dgt (btn g o) : Nat)) ∧ W = w' from by
       rw [btn_eq g o hgo, ← dgz_eq H36.out hd]; exact rdigit_any _ W (btn_lt g o))
      have hpv : pv r (fun i => dgt (btn g i)) (o + 1) = V * r + dgt (btn g o) := by rw [← hV]; rfl
      have hd36 := dgt_le (btn g o)
      obtain ⟨d, hde⟩ : ∃ d, dgt (btn g o) = d := ⟨_, rfl⟩
      rw [hde] at C1 hpv hd36
      have kd : IntKind.u32.wrap (d : Int) = (d : Int) := IntWalk.u32_in _ (by omega)
      obtain ⟨L1, hL1⟩ : ∃ L, (wds (V * r)).length = L := ⟨_, rfl⟩
      obtain ⟨L2, hL2⟩ : ∃ L, (wds (V * r + d)).length = L := ⟨_, rfl⟩
      have l1 : L1 ≤ 1025 := by
       have h1 := prod_len_sum' V r
       have h3 : (wds r).length ≤ 1 := wds_len_lt (by have := H36.out; omega)
       omega
      have K1 := Lib.hid (fun W g' (hb : Below wr.heap.size wr W) (g1 : RW W W.heap.size (some ⟨g', 0, none⟩) [r]) => show Cp 51 #[.slice A0 L0 c0, .slice (some ⟨g', 0, none⟩) 1 1] W (Told (wds (V * r)) L1 W) from by
       have := timesOne A0 L0 c0 g' r (wds V) L1 W hL0 (by omega) (hr0.step hb) g1 (by rw [wds_val]; exact hL1)
       rw [wds_val] at this; exact this)
      have K2 := Lib.hid (fun W A2 c2 g' (r2 : RW W W.heap.size A2 (wds (V * r))) (g1 : RW W W.heap.size (some ⟨g', 0, none⟩) [d]) => show Cp 103 #[.slice A2 L1 c2, .slice (some ⟨g', 0, none⟩) 1 1] W (Told (wds (V * r + d)) L2 W) from by
       have := plusOne A2 L1 c2 g' d (wds (V * r)) L2 W hL1 (by omega) r2 g1 (by rw [wds_val]; exact hL2)
       rw [wds_val] at this; exact this)
      have HLR := Lib.hid (fun W => lit_new W r (by have := H36.out; omega))
      have HLD := Lib.hid (fun W => lit_new W d (by omega))
      have HPV := Lib.hid hpv
      have HL2 := Lib.hid hL2
      clear hpv hL2
      clear hV hL0 hle hc0 hr0 hd hde hd36 hL1 l1
      go_wp2
      go_region_held3 (fun w' => True) (trivial) (first | (go_at_call 51; refine (K1.out _ _ (below_drewN' ((Below.refl _ _).alloc (Nat.le_refl _) _) 1) ((HLR.out wr).drewN 1)).mono ?_; rintro e w2 ⟨A2, c2, rfl, ⟨hc2, r2⟩, b2⟩) | (go_at_call 90; refine (C1.out _).mono ?_; rintro e w' ⟨rfl, rfl⟩) | (go_at_call 103; refine (K2.out _ _ _ _ (r2.step ((Below.refl _ _).alloc (Nat.le_refl _) _)) (HLD.out _)).mono ?_; rintro e w3 ⟨A3, c3, rfl, ⟨hc3, r3⟩, b3⟩))
      all_goals
       have B2 : Below w.heap.size w w2 := below_le (below_drewN' (hbw.alloc hbw.size _) 1) b2
       have B3 : Below w.heap.size w w3 := below_le (B2.alloc B2.size _) b3
       clear r2 b2 b3 B2 hc2 K1 K2
       have HSL := Lib.hid (⟨A3, c3, by rw [HL2.out], by rw [HL2.out]; exact hc3, r3⟩ : Sl w3 w3.heap.size (.slice A3 L2 c3) (wds (V * r + d)))
       have HB3 := Lib.hid B3
       clear r3 hc3 B3
       go_wp2
       exact ⟨⟨o + 1, by go_num, by omega, Lib.hid (by rw [HPV.out]; exact HSL.out), HB3.out⟩, by simp [intOf]; omega⟩
     ·obtain rfl : o = N := by omega
      have HNV := Lib.hid (show NV wr A0 L0 c0 (pv r (fun i => dgt (btn g i)) o) from ⟨by rw [HV.out]; exact hL0, hc0, by rw [HV.out]; exact hr0⟩)
      have hb4 : (g.size : Int) = (o : Int) := by rw [HGN.out]
      have b0 : ¬ (o : Int) < (o : Int) := by omega
      clear hlt hc0 hr0 hL0 hle hV
      go_wp2_with fail
      refine (C7.out _ _ _ _ HNV.out).mono ?_
      rintro e w4 ⟨rfl, b4⟩
      have B4 := Lib.hid (below_le hbw b4)
      clear b4
      go_wp2
      go_ret
      exact ⟨rfl, B4.out⟩
   ·have a2 : ¬ (k : Int) < (s.size : Int) := by omega
    clear hk2 main
    go_wp2
    clear a1 a2 a3 hext b4 t1 hz
    go_loopw [6, 7] (fun av iv wr => ∃ o : Nat, iv = .int .i64 (o : Nat) ∧ o ≤ N ∧ Hid (Sl wr wr.heap.size av (wds (pv r (fun i => dgt (btn g i)) o))) ∧ Below w.heap.size w wr) (fun _ iv _ => N - (intOf iv).toNat)
    case atStart => exact ⟨0, rfl, Nat.zero_le _, Lib.hid (Sl.nil _ _ _), Below.refl _ _⟩
    case round =>
     obtain ⟨o, rfl, ho, HS, hbw⟩ := hrel
     have hle := HL.out o ho
     obtain ⟨V, hV⟩ : ∃ V, pv r (fun i => dgt (btn g i)) o = V := ⟨_, rfl⟩
     rw [hV] at HS hle
     have HV := Lib.hid hV
     obtain ⟨A0, c0, rfl, hc0, hr0⟩ := HS.out
     obtain ⟨L0, hL0⟩ : ∃ L, (wds V).length = L := ⟨_, rfl⟩
     rw [hL0] at hc0 hle ⊢
     by_cases hlt : o < N
     ·have hgo : o < g.size := by rw [HGN.out]; exact hlt
      have hd := HD.out o hgo
      have hb4 : (g.size : Int) = (N : Int) := by rw [HGN.out]
      have hx1 : (o : Int) < (N : Int) := by omega
      have hx2 : (o : Int) < (g.size : Int) := by omega
      have hx3 : (0 : Int) ≤ (o : Int) := by omega
      have hN1 : (N : Int) ≤ 1100 := by have := HN0.out; omega
      have C1 := Lib.hid (fun W => show Cp 90 #[.int .u8 ((g[o]'hgo).toNat : Nat)] W fun e w' => e = .returned (.int .i64 (dgt (btn g o) : Nat)) ∧ W = w' from by
       rw [btn_eq g o hgo, ← dgz_eq H36.out hd]; exact rdigit_any _ W (btn_lt g o))
      have hpv : pv r (fun i => dgt (btn g i)) (o + 1) = V * r + dgt (btn g o) := by rw [← hV]; rfl
      have hd36 := dgt_le (btn g o)
      obtain ⟨d, hde⟩ : ∃ d, dgt (btn g o) = d := ⟨_, rfl⟩
      rw [hde] at C1 hpv hd36
      have kd : IntKind.u32.wrap (d : Int) = (d : Int) := IntWalk.u32_in _ (by omega)
      obtain ⟨L1, hL1⟩ : ∃ L, (wds (V * r)).length = L := ⟨_, rfl⟩
      obtain ⟨L2, hL2⟩ : ∃ L, (wds (V * r + d)).length = L := ⟨_, rfl⟩
      have l1 : L1 ≤ 1025 := by
       have h1 := prod_len_sum' V r
       have h3 : (wds r).length ≤ 1 := wds_len_lt (by have := H36.out; omega)
       omega
      have K1 := Lib.hid (fun W g' (hb : Below wr.heap.size wr W) (g1 : RW W W.heap.size (some ⟨g', 0, none⟩) [r]) => show Cp 51 #[.slice A0 L0 c0, .slice (some ⟨g', 0, none⟩) 1 1] W (Told (wds (V * r)) L1 W) from by
       have := timesOne A0 L0 c0 g' r (wds V) L1 W hL0 (by omega) (hr0.step hb) g1 (by rw [wds_val]; exact hL1)
       rw [wds_val] at this; exact this)
      have K2 := Lib.hid (fun W A2 c2 g' (r2 : RW W W.heap.size A2 (wds (V * r))) (g1 : RW W W.heap.size (some ⟨g', 0, none⟩) [d]) => show Cp 103 #[.slice A2 L1 c2, .slice (some ⟨g', 0, none⟩) 1 1] W (Told (wds (V * r + d)) L2 W) from by
       have := plusOne A2 L1 c2 g' d (wds (V * r)) L2 W hL1 (by omega) r2 g1 (by rw [wds_val]; exact hL2)
       rw [wds_val] at this; exact this)
      have HLR := Lib.hid (fun W => lit_new W r (by have := H36.out; omega))
      have HLD := Lib.hid (fun W => lit_new W d (by omega))
      have HPV := Lib.hid hpv
      have HL2 := Lib.hid hL2
      clear hpv hL2
      clear hV hL0 hle hc0 hr0 hd hde hd36 hL1 l1
      go_wp2
      go_region_held3 (fun w' => True) (trivial) (first | (go_at_call 51; refine (K1.out _ _ (below_drewN' ((Below.refl _ _).alloc (Nat.le_refl _) _) 1) ((HLR.out wr).drewN 1)).mono ?_; rintro e w2 ⟨A2, c2, rfl, ⟨hc2, r2⟩, b2⟩) | (go_at_call 90; refine (C1.out _).mono ?_; rintro e w' ⟨rfl, rfl⟩) | (go_at_call 103; refine (K2.out _ _ _ _ (r2.step ((Below.refl _ _).alloc (Nat.le_refl _) _)) (HLD.out _)).mono ?_; rintro e w3 ⟨A3, c3, rfl, ⟨hc3, r3⟩, b3⟩))
      all_goals
       have B2 : Below w.heap.size w w2 := below_le (below_drewN' (hbw.alloc hbw.size _) 1) b2
       have B3 : Below w.heap.size w w3 := below_le (B2.alloc B2.size _) b3
       clear r2 b2 b3 B2 hc2 K1 K2
       have HSL := Lib.hid (⟨A3, c3, by rw [HL2.out], by rw [HL2.out]; exact hc3, r3⟩ : Sl w3 w3.heap.size (.slice A3 L2 c3) (wds (V * r + d)))
       have HB3 := Lib.hid B3
       clear r3 hc3 B3
       go_wp2
       exact ⟨⟨o + 1, by go_num, by omega, Lib.hid (by rw [HPV.out]; exact HSL.out), HB3.out⟩, by simp [intOf]; omega⟩
     ·obtain rfl : o = N := by omega
      have HNV := Lib.hid (show NV wr A0 L0 c0 (pv r (fun i => dgt (btn g i)) o) from ⟨by rw [HV.out]; exact hL0, hc0, by rw [HV.out]; exact hr0⟩)
      have hb4 : (g.size : Int) = (o : Int) := by rw [HGN.out]
      have b0 : ¬ (o : Int) < (o : Int) := by omega
      clear hlt hc0 hr0 hL0 hle hV
      go_wp2_with fail
      refine (C7.out _ _ _ _ HNV.out).mono ?_
      rintro e w4 ⟨rfl, b4⟩
      have B4 := Lib.hid (below_le hbw b4)
      clear b4
      go_wp2
      go_ret
      exact ⟨rfl, B4.out⟩
theorem ynatural_any (l : List Nat) (r : Nat) (w : World) (h2 : 2 ≤ r) (h36 : r ≤ 36) (hd : ∀ c ∈ l, dgt c < r) (hb : ∀ c ∈ l, c < 256) (hs : l.length ≤ 281474976710656) :
  Ct 91 #[.string (strOf l), .int .i64 r] (.float .f64 (natV r l)) w := by
 have hbl := bl_strOf hb
 have hz := strOf_size l
 have hgl : (ldz l).length ≤ l.length := (List.dropWhile_sublist _).length_le
 have hdr := ldz_drop l
 have hex : (strOf l).extract (l.length - (ldz l).length) (strOf l).size = strOf (ldz l) := by rw [ext_drop, hbl, hdr]
 have hgb : ∀ c ∈ ldz l, c < 256 := fun c hc => hb c (ldz_mem hc)
 have hgd : ∀ c ∈ ldz l, dgt c < r := fun c hc => hd c (ldz_mem hc)
 have Z1 : Hid (∀ k (h : k < (strOf l).size), k < l.length - (ldz l).length → ((strOf l)[k]'h).toNat = 48) := Lib.hid (fun k h hk => by
  have h1 := bl_get (strOf l) k h
  rw [hbl, ldz_ahead l k hk] at h1
  exact (Option.some.inj h1).symm)
 have Z2 : Hid (∀ h : l.length - (ldz l).length < (strOf l).size, ((strOf l)[l.length - (ldz l).length]'h).toNat ≠ 48) := Lib.hid (fun h e => by
  have h1 := bl_get (strOf l) _ h
  rw [hbl, e] at h1
  have h2 : (l.drop (l.length - (ldz l).length)).head? = some 48 := by rw [List.head?_drop]; exact h1
  rw [hdr] at h2
  exact lead_head l h2)
 obtain ⟨N, hN⟩ : ∃ N, (ldz l).length = N := ⟨_, rfl⟩
 obtain ⟨K, hK⟩ : ∃ K, l.length - (ldz l).length = K := ⟨_, rfl⟩
 rw [hK] at hex Z1 Z2
 by_cases h : 1100 < N
 ·have key : natV r l = 9218868437227405312 := by
   rw [← natV_lead]
   obtain ⟨D, hD⟩ : ∃ D : Nat, D = 1024 := ⟨_, rfl⟩
   refine decR_top hD ?_
   refine Nat.le_trans ?_ (num_lo_r (r := r) (fun e => by rw [e] at hN; simp at hN; omega) (lead_head l))
   exact Nat.le_trans (Nat.pow_le_pow_left h2 D) (Nat.pow_le_pow_right (by omega) (by omega))
  rw [key]
  exact ynat_top (strOf l) K N r w (by omega) (by omega) (by omega) Z1 Z2 h
 ·have hbg := bl_strOf hgb
  have hgs := strOf_size (ldz l)
  have hbt : ∀ i, i < (strOf (ldz l)).size → dgt (btn (strOf (ldz l)) i) < r := fun i hi => by
   rw [btn_bl _ _ hi, hbg, List.getD_eq_getElem?_getD, List.getElem?_eq_getElem (by omega)]
   exact hgd _ (List.getElem_mem _)
  have hsv : pv r (fun i => dgt (btn (strOf (ldz l)) i)) N = num r l := by
   have := sv_num r (strOf (ldz l))
   rw [hbg] at this
   unfold sv at this
   rw [hgs, hN] at this
   rw [this]
   exact num_lead r l
  have hnum : num r (ldz l) = num r l := num_lead r l
  have hbn : bln (num r l) ≤ 30000 := by
   rw [← hnum]
   have a1 := bln_mono (Nat.le_of_lt (num_lt hgd))
   have a2 := bln_pow r (ldz l).length
   have a3 : bln r ≤ 6 := bln_le (by omega)
   have a4 : bln r * (ldz l).length ≤ 6 * 1100 := Nat.mul_le_mul a3 (by omega)
   omega
  have HL : Hid (∀ o, o ≤ N → (wds (pv r (fun i => dgt (btn (strOf (ldz l)) i)) o)).length ≤ 940) := Lib.hid (fun o ho => by
   have h1 := pv_mono (r := r) (g := fun i => dgt (btn (strOf (ldz l)) i)) (by omega) ho
   rw [hsv] at h1
   exact small_len (Nat.le_trans (bln_mono h1) hbn))
  refine ynat_low (strOf l) (strOf (ldz l)) K N r (natV r l) w (by omega) (by omega) (by omega) Z1 Z2 h hex (by omega) h2 h36 hbt HL (Lib.hid (fun W A n c g => ?_))
  rw [hsv] at g
  obtain ⟨K0, hK0, hdd⟩ := decR_K
  have := rnnear g hbn K0 0 0 (by omega) (by omega) (by omega)
  unfold natV
  rw [hdd, show (0 : Int).toNat = 0 from rfl, show (-(0 : Int)).toNat = 0 from rfl, Nat.pow_zero, Nat.mul_one]
  exact this

end Go.Proofs.YtfcpkdafkmohkaaGreatDoor
namespace Go.Proofs.YtfcpkdafkmohkaaGreatDoor
open Go.RowKit
theorem bl_take (s : ByteArray) (k : Nat) : bl (s.extract 0 k) = (bl s).take k := by
 rw [ext_take, bl_strOf (fun c hc => bl_lt s c (List.mem_of_mem_take hc))]
theorem ext_pre (s t : ByteArray) : ((s.extract 0 t.size).toList == t.toList) = (bl t).isPrefixOf (bl s) := by
 rw [Bool.eq_iff_iff, beq_iff_eq, List.isPrefixOf_iff_prefix, List.prefix_iff_eq_take, bl_size, ← bl_take]
 constructor
 ·intro h
  rw [Lib.toList_data, Lib.toList_data] at h
  unfold bl
  rw [h]
 ·intro h
  exact congrArg ByteArray.toList (bl_inj h).symm
set_option maxRecDepth 100000 in
set_option maxHeartbeats 2000000 in
theorem ybegins_low (s t : ByteArray) (w : World) (h : s.size < t.size) : Cq 83 #[.string s, .string t] (.bool false) w := by
 have a1 : ¬ (t.size : Int) ≤ (s.size : Int) := by omega
 clear h
 go_enter Tryz.func83, Tryz.ntmps83
 go_wp2
 go_ret
 exact ⟨rfl, rfl⟩
set_option maxRecDepth 100000 in
set_option maxHeartbeats 2000000 in
theorem ybegins_high (s t : ByteArray) (w : World) (h : t.size ≤ s.size) : Cq 83 #[.string s, .string t] (.bool ((bl t).isPrefixOf (bl s))) w := by
 have a1 : (t.size : Int) ≤ (s.size : Int) := by omega
 have key := ext_pre s t
 clear h
 go_enter Tryz.func83, Tryz.ntmps83
 go_wp2
 go_ret
 exact ⟨by rw [← key]; rfl, rfl⟩
set_option maxHeartbeats 1000000 in
theorem ynan_any (w : World) : Cq 80 #[] (.float .f64 nanW) w := by
 have h1 : (callFunc 120 #[.int .u64 9221120237041090560]).run Tryz.prog w = .ok (.value (.float .f64 9221120237041090560)) w := f64from_run 9221120237041090560 w
 go_enter Tryz.func80, Tryz.ntmps80
 go_wp2
 go_ret
 exact ⟨rfl, rfl⟩

end Go.Proofs.YtfcpkdafkmohkaaGreatDoor
namespace Go.Proofs.YtfcpkdafkmohkaaGreatDoor
open Go.RowKit
def sSize (v : Value) : Nat := match v with
 | .string s => s.size
 | _ => 0
set_option maxRecDepth 100000 in
set_option maxHeartbeats 1000000 in
theorem yahead_any (s : ByteArray) (w : World) (hs : s.size ≤ 140737488355328) :
  Cp 82 #[.string s] w fun e w' => (∃ t, e = .returned (.string t) ∧ us t = ahL (us s) ∧ t.size ≤ s.size) ∧ Below w.heap.size w w' := by
 have C1 := Lib.hid (fun (g : ByteArray) (hg : g.size ≤ s.size) W => rlen_any g W (by unfold maxLen; omega))
 have C2 := Lib.hid (fun (g : ByteArray) (hg : g.size ≤ s.size) i W => runit_any g i W (by unfold maxLen; omega))
 have C3 := Lib.hid (fun (g : ByteArray) (hg : g.size ≤ s.size) f t W => rslice_any g f t W (by unfold maxLen; omega))
 have HS := Lib.hid hs
 clear hs
 go_enter Tryz.func82, Tryz.ntmps82
 go_wp2
 go_loopw [0] (fun v wr => ∃ g : ByteArray, v = .string g ∧ Hid (ahL (us s) = ahL (us g)) ∧ Hid (g.size ≤ s.size) ∧ Hid (Below w.heap.size w wr)) (fun v _ => sSize v)
 case atStart => exact ⟨s, rfl, Lib.hid rfl, Lib.hid (Nat.le_refl _), Lib.hid (Below.refl _ _)⟩
 case round =>
  obtain ⟨g, rfl, HA, HG, HB⟩ := hrel
  have C1g := Lib.hid (C1.out g HG.out)
  have C2g := Lib.hid (C2.out g HG.out 0 wr)
  have C3g := Lib.hid (C3.out g HG.out)
  by_cases hlt : 0 < ln g
  ·have hok : unOk g 0 = true := by unfold unOk; rw [decide_eq_true (by omega), decide_eq_true (by omega)]; rfl
   have hv : unV g 0 = un g 0 := by unfold unV; rw [hok, if_pos rfl]; rfl
   rw [hok, hv] at C2g
   have H1 := fun h => ah_go (s := g) hlt h
   have H2 := fun h => ah_end (s := g) hlt h
   rw [List.drop_zero] at H1 H2
   have H1 := Lib.hid H1
   have H2 := Lib.hid H2
   have hlg := ln_le g
   have hgs := HG.out
   have hss := HS.out
   have a0 : (0 : Int) < (ln g : Int) := by omega
   have HT := Lib.hid (show us (slS g 1 (ln g : Nat)) = (us g).drop 1 from us_tailS g 1)
   have HL := Lib.hid (show (slS g 1 (ln g : Nat)).size < g.size from by
    by_cases h1 : 1 < ln g
    ·rw [slS_mid g 1 (ln g : Nat) (by omega) (by omega) (by omega), ByteArray.size_extract]
     omega
    ·have : slS g 1 (ln g : Nat) = { data := #[] } := by
      unfold slS
      rw [if_neg (by omega)]
     rw [this]
     show 0 < g.size
     omega)
   obtain ⟨u, hu⟩ : ∃ u, un g 0 = u := ⟨_, rfl⟩
   rw [hu] at C2g H1 H2
   have C4 := Lib.hid (fun W => rspace_any (u : Int) W)
   have C5 := Lib.hid (fun W => rends_any (u : Int) W)
   have hbl : blkN u = (spB (u : Int) || enB (u : Int)) := rfl
   obtain ⟨n, hn⟩ : ∃ n, ln g = n := ⟨_, rfl⟩
   rw [hn] at C1g hlg a0 hlt HT HL
   cases hsp : spB (u : Int)
   ·cases hen : enB (u : Int)
    ·rw [hsp] at C4
     rw [hen] at C5
     have HE := Lib.hid (show us g = ahL (us s) from by rw [HA.out, H2.out (by rw [hbl, hsp, hen]; rfl)])
     clear hok hv hu hbl hsp hen hlt hn hlg
     go_wp2_with fail
     refine (C1g.out _).mono ?_
     rintro e w' ⟨rfl, rfl⟩
     go_wp2_with fail
     refine C2g.out.mono ?_
     rintro e w' ⟨rfl, n, rfl⟩
     go_wp2_with fail
     refine (C4.out _).mono ?_
     rintro e w' ⟨rfl, rfl⟩
     go_wp2_with fail
     refine (C5.out _).mono ?_
     rintro e w' ⟨rfl, rfl⟩
     go_wp2
     go_ret
     exact ⟨⟨_, rfl, HE.out, HG.out⟩, below_drewN' HB.out _⟩
    ·rw [hsp] at C4
     rw [hen] at C5
     have HN := Lib.hid (show ahL (us s) = ahL (us (slS g 1 (n : Nat))) from HA.out.trans (by rw [HT.out]; exact H1.out (by rw [hbl, hsp, hen]; rfl)))
     have HZ := Lib.hid (show (slS g 1 (n : Nat)).size ≤ s.size from by have := HL.out; omega)
     clear hok hv hu hbl hsp hen hlt hn hlg
     go_wp2_with fail
     refine (C1g.out _).mono ?_
     rintro e w' ⟨rfl, rfl⟩
     go_wp2_with fail
     refine C2g.out.mono ?_
     rintro e w' ⟨rfl, n2, rfl⟩
     go_wp2_with fail
     refine (C4.out _).mono ?_
     rintro e w' ⟨rfl, rfl⟩
     go_wp2_with fail
     refine (C5.out _).mono ?_
     rintro e w' ⟨rfl, rfl⟩
     go_wp2_with fail
     refine (C1g.out _).mono ?_
     rintro e w' ⟨rfl, rfl⟩
     go_wp2_with fail
     refine (C3g.out _ _ _).mono ?_
     rintro e w' ⟨rfl, rfl⟩
     go_wp2
     exact ⟨⟨_, rfl, HN, HZ, Lib.hid (below_drewN' HB.out _)⟩, HL.out⟩
   ·rw [hsp] at C4
    have HN := Lib.hid (show ahL (us s) = ahL (us (slS g 1 (n : Nat))) from HA.out.trans (by rw [HT.out]; exact H1.out (by rw [hbl, hsp]; rfl)))
    have HZ := Lib.hid (show (slS g 1 (n : Nat)).size ≤ s.size from by have := HL.out; omega)
    clear hok hv hu hbl hsp hlt hn hlg
    go_wp2_with fail
    refine (C1g.out _).mono ?_
    rintro e w' ⟨rfl, rfl⟩
    go_wp2_with fail
    refine C2g.out.mono ?_
    rintro e w' ⟨rfl, n2, rfl⟩
    go_wp2_with fail
    refine (C4.out _).mono ?_
    rintro e w' ⟨rfl, rfl⟩
    go_wp2_with fail
    refine (C1g.out _).mono ?_
    rintro e w' ⟨rfl, rfl⟩
    go_wp2_with fail
    refine (C3g.out _ _ _).mono ?_
    rintro e w' ⟨rfl, rfl⟩
    go_wp2
    exact ⟨⟨_, rfl, HN, HZ, Lib.hid (below_drewN' HB.out _)⟩, HL.out⟩
  ·have HE := Lib.hid (show us g = ahL (us s) from by
    rw [HA.out]
    have : us g = [] := List.length_eq_zero_iff.1 (by rw [us_length]; omega)
    rw [this]; rfl)
   have a0 : ¬ (0 : Int) < (ln g : Int) := by omega
   go_wp2_with fail
   refine (C1g.out _).mono ?_
   rintro e w' ⟨rfl, rfl⟩
   go_wp2
   go_ret
   exact ⟨⟨_, rfl, HE.out, HG.out⟩, HB.out⟩
/-! ### Hexadecimals -/
theorem hx_get {s : ByteArray} {k : Nat} (h : k < s.size) : (bl s)[k]? = some (btn s k) := by
 rw [bl_get s k h, btn_eq s k h]
end Go.Proofs.YtfcpkdafkmohkaaGreatDoor
namespace Go.Proofs.YtfcpkdafkmohkaaGreatDoor
open Go.RowKit
def negW (r : Nat) : Nat := Op.negFloat .f64 r
end Go.Proofs.YtfcpkdafkmohkaaGreatDoor
namespace Go.Proofs.YtfcpkdafkmohkaaGreatDoor
open Go.RowKit
theorem negW_eq {r : Nat} (h : r < 9223372036854775808) : negW r = sgW true r := by
 have key : r ^^^ 9223372036854775808 = 2 ^ 63 * 1 + r := by
  rw [show (9223372036854775808 : Nat) = 2 ^ 63 from rfl] at h ⊢
  apply Nat.eq_of_testBit_eq
  intro j
  rw [Nat.testBit_xor, Nat.testBit_two_pow, Nat.testBit_two_pow_mul_add _ h]
  by_cases hj : j < 63
  ·rw [if_pos hj, decide_eq_false (by omega), Bool.xor_false]
  ·rw [if_neg hj]
   obtain ⟨i, rfl⟩ : ∃ i, j = 63 + i := ⟨j - 63, by omega⟩
   rw [Nat.add_sub_cancel_left, Nat.testBit_lt_two_pow (Nat.lt_of_lt_of_le h (Nat.pow_le_pow_right (by omega) (by omega)))]
   cases i with
   | zero => rfl
   | succ i => rw [decide_eq_false (by omega)]; simp [Nat.testBit_succ]
 exact key
theorem exR_len (T : List Nat) : (exR T).length ≤ T.length := by
 unfold exR
 split
 ·unfold expR
  have h1 := run_len (unsg T.tail)
  have h2 : (unsg T.tail).length ≤ T.length := by
   unfold unsg
   split
   ·rw [List.length_tail, List.length_tail]; omega
   ·rw [List.length_tail]; omega
  omega
 ·exact Nat.le_refl _
theorem dR_len (l : List Nat) : (dR l).length + (dW l).length + (dF l).length ≤ l.length := by
 have h1 := run_len l
 have h2 := exR_len (dT l)
 have h3 := run_len (aft10 l).tail
 rw [List.length_tail] at h3
 unfold dR dW
 unfold dT at h2 ⊢
 unfold dF
 split
 ·next h =>
  rw [if_pos h] at h2
  omega
 ·next h =>
  rw [if_neg h] at h2
  simp only [List.length_nil]
  omega
theorem lg_yes {l : List Nat} (h : dB l = true) : lgN l = l.length - (dR l).length ∧ 0 < lgN l ∧ lgV l = dV l := by
 have h1 := dR_len l
 have h2 : 0 < (dW l).length + (dF l).length := by
  unfold dB at h
  cases hw : dW l with
  | nil =>
   cases hf : dF l with
   | nil => rw [hw, hf] at h; simp at h
   | cons => simp
  | cons => simp; omega
 unfold lgN lgV
 rw [if_pos h, if_pos h]
 exact ⟨rfl, by omega, rfl⟩
theorem lg_no {l : List Nat} (h : dB l = false) : lgN l = 0 ∧ lgV l = 0 := by
 unfold lgN lgV
 rw [h]
 exact ⟨rfl, rfl⟩
end Go.Proofs.YtfcpkdafkmohkaaGreatDoor
namespace Go.Proofs.YtfcpkdafkmohkaaGreatDoor
set_option maxRecDepth 100000
open Go.RowKit
set_option maxHeartbeats 2000000 in
theorem yflt_minus_inf (s b u : ByteArray) (Q : ByteArray → Prop) (y : Nat) (n : Int) (w : World)
  (CA : Hid (∀ W, Cp 82 #[.string s] W fun e w' => (∃ t, e = .returned (.string t) ∧ Q t) ∧ Below W.heap.size W w'))
  (CB : Hid (∀ t, Q t → ∀ W, Ct 70 #[.string t] (.string b) W))
  (CM : Hid (∀ W, Cq 83 #[.string b, .string ⟨#[45]⟩] (.bool true) W)) (h1 : 1 ≤ b.size) (hu : b.extract 1 b.size = u)
  (CL : Hid (∀ W, Ct 72 #[.string u] (.tuple #[.int .i64 n, .float .f64 y]) W))
  (CI : Hid (∀ W, Cq 83 #[.string u, .string ⟨#[73, 110, 102, 105, 110, 105, 116, 121]⟩] (.bool true) W)) :
  Ct 31 #[.string s] (.float .f64 (negW 9218868437227405312)) w := by
 have B0 := Lib.hid (Below.refl w.heap.size w)
 have a2 : (1 : Int) ≤ (b.size : Int) := by omega
 clear h1
 have CF := Lib.hid (fun W => inf1_any W)
 have r3 : ∀ W, (Op.unary UnOp.neg (.float .f64 9218868437227405312)).run Tryz.prog W = .ok (.float .f64 (negW 9218868437227405312)) W := fun W => rfl
 go_enter Tryz.func31, Tryz.ntmps31
 go_wp2_with fail
 refine (CA.out _).mono ?_
 rintro e w1 ⟨⟨t, rfl, ht⟩, b1⟩
 have B1 := Lib.hid (below_le B0.out b1)
 clear b1
 have CB := Lib.hid (CB.out t ht)
 clear ht
 go_wp2_with fail
 refine (CB.out _).mono ?_
 rintro e w2 ⟨rfl, b2⟩
 have B2 := Lib.hid (below_le B1.out b2)
 clear b2
 go_wp2_with fail
 refine (CM.out _).mono ?_
 rintro e w' ⟨rfl, rfl⟩
 go_wp2_with fail
 refine (CL.out _).mono ?_
 rintro e w3 ⟨rfl, b3⟩
 have B3 := Lib.hid (below_le B2.out b3)
 clear b3
 go_wp2_with fail
 refine (CI.out _).mono ?_
 rintro e w' ⟨rfl, rfl⟩
 go_wp2_with fail
 refine (CF.out _).mono ?_
 rintro e w' ⟨rfl, rfl⟩
 go_wp2
 go_ret
 exact ⟨rfl, B3.out⟩
set_option maxHeartbeats 2000000 in
theorem yflt_minus_zero (s b u : ByteArray) (Q : ByteArray → Prop) (y : Nat) (n : Int) (w : World)
  (CA : Hid (∀ W, Cp 82 #[.string s] W fun e w' => (∃ t, e = .returned (.string t) ∧ Q t) ∧ Below W.heap.size W w'))
  (CB : Hid (∀ t, Q t → ∀ W, Ct 70 #[.string t] (.string b) W))
  (CM : Hid (∀ W, Cq 83 #[.string b, .string ⟨#[45]⟩] (.bool true) W)) (h1 : 1 ≤ b.size) (hu : b.extract 1 b.size = u)
  (CL : Hid (∀ W, Ct 72 #[.string u] (.tuple #[.int .i64 n, .float .f64 y]) W))
  (CI : Hid (∀ W, Cq 83 #[.string u, .string ⟨#[73, 110, 102, 105, 110, 105, 116, 121]⟩] (.bool false) W)) (t1 : (n == 0) = true) :
  Ct 31 #[.string s] (.float .f64 nanW) w := by
 have B0 := Lib.hid (Below.refl w.heap.size w)
 have a2 : (1 : Int) ≤ (b.size : Int) := by omega
 clear h1
 have CN := Lib.hid (fun W => ynan_any W)
 go_enter Tryz.func31, Tryz.ntmps31
 go_wp2_with fail
 refine (CA.out _).mono ?_
 rintro e w1 ⟨⟨t, rfl, ht⟩, b1⟩
 have B1 := Lib.hid (below_le B0.out b1)
 clear b1
 have CB := Lib.hid (CB.out t ht)
 clear ht
 go_wp2_with fail
 refine (CB.out _).mono ?_
 rintro e w2 ⟨rfl, b2⟩
 have B2 := Lib.hid (below_le B1.out b2)
 clear b2
 go_wp2_with fail
 refine (CM.out _).mono ?_
 rintro e w' ⟨rfl, rfl⟩
 go_wp2_with fail
 refine (CL.out _).mono ?_
 rintro e w3 ⟨rfl, b3⟩
 have B3 := Lib.hid (below_le B2.out b3)
 clear b3
 go_wp2_with fail
 refine (CI.out _).mono ?_
 rintro e w' ⟨rfl, rfl⟩
 go_wp2_with fail
 refine (CN.out _).mono ?_
 rintro e w' ⟨rfl, rfl⟩
 go_wp2
 go_ret
 exact ⟨rfl, B3.out⟩
set_option maxHeartbeats 2000000 in
theorem yflt_minus_some (s b u : ByteArray) (Q : ByteArray → Prop) (y : Nat) (n : Int) (w : World)
  (CA : Hid (∀ W, Cp 82 #[.string s] W fun e w' => (∃ t, e = .returned (.string t) ∧ Q t) ∧ Below W.heap.size W w'))
  (CB : Hid (∀ t, Q t → ∀ W, Ct 70 #[.string t] (.string b) W))
  (CM : Hid (∀ W, Cq 83 #[.string b, .string ⟨#[45]⟩] (.bool true) W)) (h1 : 1 ≤ b.size) (hu : b.extract 1 b.size = u)
  (CL : Hid (∀ W, Ct 72 #[.string u] (.tuple #[.int .i64 n, .float .f64 y]) W))
  (CI : Hid (∀ W, Cq 83 #[.string u, .string ⟨#[73, 110, 102, 105, 110, 105, 116, 121]⟩] (.bool false) W)) (t1 : (n == 0) = false) :
  Ct 31 #[.string s] (.float .f64 (negW y)) w := by
 have B0 := Lib.hid (Below.refl w.heap.size w)
 have a2 : (1 : Int) ≤ (b.size : Int) := by omega
 clear h1
 have r3 : ∀ W, (Op.unary UnOp.neg (.float .f64 y)).run Tryz.prog W = .ok (.float .f64 (negW y)) W := fun W => rfl
 go_enter Tryz.func31, Tryz.ntmps31
 go_wp2_with fail
 refine (CA.out _).mono ?_
 rintro e w1 ⟨⟨t, rfl, ht⟩, b1⟩
 have B1 := Lib.hid (below_le B0.out b1)
 clear b1
 have CB := Lib.hid (CB.out t ht)
 clear ht
 go_wp2_with fail
 refine (CB.out _).mono ?_
 rintro e w2 ⟨rfl, b2⟩
 have B2 := Lib.hid (below_le B1.out b2)
 clear b2
 go_wp2_with fail
 refine (CM.out _).mono ?_
 rintro e w' ⟨rfl, rfl⟩
 go_wp2_with fail
 refine (CL.out _).mono ?_
 rintro e w3 ⟨rfl, b3⟩
 have B3 := Lib.hid (below_le B2.out b3)
 clear b3
 go_wp2_with fail
 refine (CI.out _).mono ?_
 rintro e w' ⟨rfl, rfl⟩
 go_wp2
 go_ret
 exact ⟨rfl, B3.out⟩
set_option maxHeartbeats 2000000 in
theorem yflt_plus_inf (s b u : ByteArray) (Q : ByteArray → Prop) (y : Nat) (n : Int) (w : World)
  (CA : Hid (∀ W, Cp 82 #[.string s] W fun e w' => (∃ t, e = .returned (.string t) ∧ Q t) ∧ Below W.heap.size W w'))
  (CB : Hid (∀ t, Q t → ∀ W, Ct 70 #[.string t] (.string b) W))
  (CM : Hid (∀ W, Cq 83 #[.string b, .string ⟨#[45]⟩] (.bool false) W))
  (CP : Hid (∀ W, Cq 83 #[.string b, .string ⟨#[43]⟩] (.bool true) W)) (h1 : 1 ≤ b.size) (hu : b.extract 1 b.size = u)
  (CL : Hid (∀ W, Ct 72 #[.string u] (.tuple #[.int .i64 n, .float .f64 y]) W))
  (CI : Hid (∀ W, Cq 83 #[.string u, .string ⟨#[73, 110, 102, 105, 110, 105, 116, 121]⟩] (.bool true) W)) :
  Ct 31 #[.string s] (.float .f64 9218868437227405312) w := by
 have B0 := Lib.hid (Below.refl w.heap.size w)
 have a2 : (1 : Int) ≤ (b.size : Int) := by omega
 clear h1
 have CF := Lib.hid (fun W => inf1_any W)
 go_enter Tryz.func31, Tryz.ntmps31
 go_wp2_with fail
 refine (CA.out _).mono ?_
 rintro e w1 ⟨⟨t, rfl, ht⟩, b1⟩
 have B1 := Lib.hid (below_le B0.out b1)
 clear b1
 have CB := Lib.hid (CB.out t ht)
 clear ht
 go_wp2_with fail
 refine (CB.out _).mono ?_
 rintro e w2 ⟨rfl, b2⟩
 have B2 := Lib.hid (below_le B1.out b2)
 clear b2
 go_wp2_with fail
 refine (CM.out _).mono ?_
 rintro e w' ⟨rfl, rfl⟩
 go_wp2_with fail
 refine (CP.out _).mono ?_
 rintro e w' ⟨rfl, rfl⟩
 go_wp2_with fail
 refine (CL.out _).mono ?_
 rintro e w3 ⟨rfl, b3⟩
 have B3 := Lib.hid (below_le B2.out b3)
 clear b3
 go_wp2_with fail
 refine (CI.out _).mono ?_
 rintro e w' ⟨rfl, rfl⟩
 go_wp2_with fail
 refine (CF.out _).mono ?_
 rintro e w' ⟨rfl, rfl⟩
 go_wp2
 go_ret
 exact ⟨rfl, B3.out⟩
set_option maxHeartbeats 2000000 in
theorem yflt_plus_zero (s b u : ByteArray) (Q : ByteArray → Prop) (y : Nat) (n : Int) (w : World)
  (CA : Hid (∀ W, Cp 82 #[.string s] W fun e w' => (∃ t, e = .returned (.string t) ∧ Q t) ∧ Below W.heap.size W w'))
  (CB : Hid (∀ t, Q t → ∀ W, Ct 70 #[.string t] (.string b) W))
  (CM : Hid (∀ W, Cq 83 #[.string b, .string ⟨#[45]⟩] (.bool false) W))
  (CP : Hid (∀ W, Cq 83 #[.string b, .string ⟨#[43]⟩] (.bool true) W)) (h1 : 1 ≤ b.size) (hu : b.extract 1 b.size = u)
  (CL : Hid (∀ W, Ct 72 #[.string u] (.tuple #[.int .i64 n, .float .f64 y]) W))
  (CI : Hid (∀ W, Cq 83 #[.string u, .string ⟨#[73, 110, 102, 105, 110, 105, 116, 121]⟩] (.bool false) W)) (t1 : (n == 0) = true) :
  Ct 31 #[.string s] (.float .f64 nanW) w := by
 have B0 := Lib.hid (Below.refl w.heap.size w)
 have a2 : (1 : Int) ≤ (b.size : Int) := by omega
 clear h1
 have CN := Lib.hid (fun W => ynan_any W)
 go_enter Tryz.func31, Tryz.ntmps31
 go_wp2_with fail
 refine (CA.out _).mono ?_
 rintro e w1 ⟨⟨t, rfl, ht⟩, b1⟩
 have B1 := Lib.hid (below_le B0.out b1)
 clear b1
 have CB := Lib.hid (CB.out t ht)
 clear ht
 go_wp2_with fail
 refine (CB.out _).mono ?_
 rintro e w2 ⟨rfl, b2⟩
 have B2 := Lib.hid (below_le B1.out b2)
 clear b2
 go_wp2_with fail
 refine (CM.out _).mono ?_
 rintro e w' ⟨rfl, rfl⟩
 go_wp2_with fail
 refine (CP.out _).mono ?_
 rintro e w' ⟨rfl, rfl⟩
 go_wp2_with fail
 refine (CL.out _).mono ?_
 rintro e w3 ⟨rfl, b3⟩
 have B3 := Lib.hid (below_le B2.out b3)
 clear b3
 go_wp2_with fail
 refine (CI.out _).mono ?_
 rintro e w' ⟨rfl, rfl⟩
 go_wp2_with fail
 refine (CN.out _).mono ?_
 rintro e w' ⟨rfl, rfl⟩
 go_wp2
 go_ret
 exact ⟨rfl, B3.out⟩
set_option maxHeartbeats 2000000 in
theorem yflt_plus_some (s b u : ByteArray) (Q : ByteArray → Prop) (y : Nat) (n : Int) (w : World)
  (CA : Hid (∀ W, Cp 82 #[.string s] W fun e w' => (∃ t, e = .returned (.string t) ∧ Q t) ∧ Below W.heap.size W w'))
  (CB : Hid (∀ t, Q t → ∀ W, Ct 70 #[.string t] (.string b) W))
  (CM : Hid (∀ W, Cq 83 #[.string b, .string ⟨#[45]⟩] (.bool false) W))
  (CP : Hid (∀ W, Cq 83 #[.string b, .string ⟨#[43]⟩] (.bool true) W)) (h1 : 1 ≤ b.size) (hu : b.extract 1 b.size = u)
  (CL : Hid (∀ W, Ct 72 #[.string u] (.tuple #[.int .i64 n, .float .f64 y]) W))
  (CI : Hid (∀ W, Cq 83 #[.string u, .string ⟨#[73, 110, 102, 105, 110, 105, 116, 121]⟩] (.bool false) W)) (t1 : (n == 0) = false) :
  Ct 31 #[.string s] (.float .f64 y) w := by
 have B0 := Lib.hid (Below.refl w.heap.size w)
 have a2 : (1 : Int) ≤ (b.size : Int) := by omega
 clear h1
 go_enter Tryz.func31, Tryz.ntmps31
 go_wp2_with fail
 refine (CA.out _).mono ?_
 rintro e w1 ⟨⟨t, rfl, ht⟩, b1⟩
 have B1 := Lib.hid (below_le B0.out b1)
 clear b1
 have CB := Lib.hid (CB.out t ht)
 clear ht
 go_wp2_with fail
 refine (CB.out _).mono ?_
 rintro e w2 ⟨rfl, b2⟩
 have B2 := Lib.hid (below_le B1.out b2)
 clear b2
 go_wp2_with fail
 refine (CM.out _).mono ?_
 rintro e w' ⟨rfl, rfl⟩
 go_wp2_with fail
 refine (CP.out _).mono ?_
 rintro e w' ⟨rfl, rfl⟩
 go_wp2_with fail
 refine (CL.out _).mono ?_
 rintro e w3 ⟨rfl, b3⟩
 have B3 := Lib.hid (below_le B2.out b3)
 clear b3
 go_wp2_with fail
 refine (CI.out _).mono ?_
 rintro e w' ⟨rfl, rfl⟩
 go_wp2
 go_ret
 exact ⟨rfl, B3.out⟩
set_option maxHeartbeats 2000000 in
theorem yflt_plain_inf (s b : ByteArray) (Q : ByteArray → Prop) (y : Nat) (n : Int) (w : World)
  (CA : Hid (∀ W, Cp 82 #[.string s] W fun e w' => (∃ t, e = .returned (.string t) ∧ Q t) ∧ Below W.heap.size W w'))
  (CB : Hid (∀ t, Q t → ∀ W, Ct 70 #[.string t] (.string b) W))
  (CM : Hid (∀ W, Cq 83 #[.string b, .string ⟨#[45]⟩] (.bool false) W))
  (CP : Hid (∀ W, Cq 83 #[.string b, .string ⟨#[43]⟩] (.bool false) W))
  (CL : Hid (∀ W, Ct 72 #[.string b] (.tuple #[.int .i64 n, .float .f64 y]) W))
  (CI : Hid (∀ W, Cq 83 #[.string b, .string ⟨#[73, 110, 102, 105, 110, 105, 116, 121]⟩] (.bool true) W)) :
  Ct 31 #[.string s] (.float .f64 9218868437227405312) w := by
 have B0 := Lib.hid (Below.refl w.heap.size w)
 have CF := Lib.hid (fun W => inf1_any W)
 go_enter Tryz.func31, Tryz.ntmps31
 go_wp2_with fail
 refine (CA.out _).mono ?_
 rintro e w1 ⟨⟨t, rfl, ht⟩, b1⟩
 have B1 := Lib.hid (below_le B0.out b1)
 clear b1
 have CB := Lib.hid (CB.out t ht)
 clear ht
 go_wp2_with fail
 refine (CB.out _).mono ?_
 rintro e w2 ⟨rfl, b2⟩
 have B2 := Lib.hid (below_le B1.out b2)
 clear b2
 go_wp2_with fail
 refine (CM.out _).mono ?_
 rintro e w' ⟨rfl, rfl⟩
 go_wp2_with fail
 refine (CP.out _).mono ?_
 rintro e w' ⟨rfl, rfl⟩
 go_wp2_with fail
 refine (CL.out _).mono ?_
 rintro e w3 ⟨rfl, b3⟩
 have B3 := Lib.hid (below_le B2.out b3)
 clear b3
 go_wp2_with fail
 refine (CI.out _).mono ?_
 rintro e w' ⟨rfl, rfl⟩
 go_wp2_with fail
 refine (CF.out _).mono ?_
 rintro e w' ⟨rfl, rfl⟩
 go_wp2
 go_ret
 exact ⟨rfl, B3.out⟩
set_option maxHeartbeats 2000000 in
theorem yflt_plain_zero (s b : ByteArray) (Q : ByteArray → Prop) (y : Nat) (n : Int) (w : World)
  (CA : Hid (∀ W, Cp 82 #[.string s] W fun e w' => (∃ t, e = .returned (.string t) ∧ Q t) ∧ Below W.heap.size W w'))
  (CB : Hid (∀ t, Q t → ∀ W, Ct 70 #[.string t] (.string b) W))
  (CM : Hid (∀ W, Cq 83 #[.string b, .string ⟨#[45]⟩] (.bool false) W))
  (CP : Hid (∀ W, Cq 83 #[.string b, .string ⟨#[43]⟩] (.bool false) W))
  (CL : Hid (∀ W, Ct 72 #[.string b] (.tuple #[.int .i64 n, .float .f64 y]) W))
  (CI : Hid (∀ W, Cq 83 #[.string b, .string ⟨#[73, 110, 102, 105, 110, 105, 116, 121]⟩] (.bool false) W)) (t1 : (n == 0) = true) :
  Ct 31 #[.string s] (.float .f64 nanW) w := by
 have B0 := Lib.hid (Below.refl w.heap.size w)
 have CN := Lib.hid (fun W => ynan_any W)
 go_enter Tryz.func31, Tryz.ntmps31
 go_wp2_with fail
 refine (CA.out _).mono ?_
 rintro e w1 ⟨⟨t, rfl, ht⟩, b1⟩
 have B1 := Lib.hid (below_le B0.out b1)
 clear b1
 have CB := Lib.hid (CB.out t ht)
 clear ht
 go_wp2_with fail
 refine (CB.out _).mono ?_
 rintro e w2 ⟨rfl, b2⟩
 have B2 := Lib.hid (below_le B1.out b2)
 clear b2
 go_wp2_with fail
 refine (CM.out _).mono ?_
 rintro e w' ⟨rfl, rfl⟩
 go_wp2_with fail
 refine (CP.out _).mono ?_
 rintro e w' ⟨rfl, rfl⟩
 go_wp2_with fail
 refine (CL.out _).mono ?_
 rintro e w3 ⟨rfl, b3⟩
 have B3 := Lib.hid (below_le B2.out b3)
 clear b3
 go_wp2_with fail
 refine (CI.out _).mono ?_
 rintro e w' ⟨rfl, rfl⟩
 go_wp2_with fail
 refine (CN.out _).mono ?_
 rintro e w' ⟨rfl, rfl⟩
 go_wp2
 go_ret
 exact ⟨rfl, B3.out⟩
set_option maxHeartbeats 2000000 in
theorem yflt_plain_some (s b : ByteArray) (Q : ByteArray → Prop) (y : Nat) (n : Int) (w : World)
  (CA : Hid (∀ W, Cp 82 #[.string s] W fun e w' => (∃ t, e = .returned (.string t) ∧ Q t) ∧ Below W.heap.size W w'))
  (CB : Hid (∀ t, Q t → ∀ W, Ct 70 #[.string t] (.string b) W))
  (CM : Hid (∀ W, Cq 83 #[.string b, .string ⟨#[45]⟩] (.bool false) W))
  (CP : Hid (∀ W, Cq 83 #[.string b, .string ⟨#[43]⟩] (.bool false) W))
  (CL : Hid (∀ W, Ct 72 #[.string b] (.tuple #[.int .i64 n, .float .f64 y]) W))
  (CI : Hid (∀ W, Cq 83 #[.string b, .string ⟨#[73, 110, 102, 105, 110, 105, 116, 121]⟩] (.bool false) W)) (t1 : (n == 0) = false) :
  Ct 31 #[.string s] (.float .f64 y) w := by
 have B0 := Lib.hid (Below.refl w.heap.size w)
 go_enter Tryz.func31, Tryz.ntmps31
 go_wp2_with fail
 refine (CA.out _).mono ?_
 rintro e w1 ⟨⟨t, rfl, ht⟩, b1⟩
 have B1 := Lib.hid (below_le B0.out b1)
 clear b1
 have CB := Lib.hid (CB.out t ht)
 clear ht
 go_wp2_with fail
 refine (CB.out _).mono ?_
 rintro e w2 ⟨rfl, b2⟩
 have B2 := Lib.hid (below_le B1.out b2)
 clear b2
 go_wp2_with fail
 refine (CM.out _).mono ?_
 rintro e w' ⟨rfl, rfl⟩
 go_wp2_with fail
 refine (CP.out _).mono ?_
 rintro e w' ⟨rfl, rfl⟩
 go_wp2_with fail
 refine (CL.out _).mono ?_
 rintro e w3 ⟨rfl, b3⟩
 have B3 := Lib.hid (below_le B2.out b3)
 clear b3
 go_wp2_with fail
 refine (CI.out _).mono ?_
 rintro e w' ⟨rfl, rfl⟩
 go_wp2
 go_ret
 exact ⟨rfl, B3.out⟩

end Go.Proofs.YtfcpkdafkmohkaaGreatDoor
namespace Go.Proofs.YtfcpkdafkmohkaaGreatDoor
open Go.RowKit
theorem ybegins_any (s t : ByteArray) (w : World) : Cq 83 #[.string s, .string t] (.bool ((bl t).isPrefixOf (bl s))) w := by
 rcases Nat.lt_or_ge s.size t.size with h | h
 ·have : (bl t).isPrefixOf (bl s) = false := by
   rw [Bool.eq_false_iff]
   intro e
   have := (List.isPrefixOf_iff_prefix.1 e).length_le
   rw [bl_size, bl_size] at this
   omega
  rw [this]
  exact ybegins_low s t w h
 ·exact ybegins_high s t w h
theorem fin_lg (u : List Nat) : lgV u < 9223372036854775808 := by
 unfold lgV dV
 split
 ·have := decR_fin (num 10 (dW u ++ dF u)) (dX u - (dF u).length)
  omega
 ·omega
theorem fin_nat (r : Nat) (u : List Nat) : natV r u < 9223372036854775808 := by
 have := decR_fin (num r u) 0
 unfold natV
 omega
theorem flt_lg (l : List Nat) : fltW l = if infB (unsg l) = true then sgW (sgnB l) 9218868437227405312 else if lgN (unsg l) = 0 then nanW else sgW (sgnB l) (lgV (unsg l)) := by
 unfold fltW
 split
 ·rfl
 ·cases hd : dB (unsg l)
  ·rw [(lg_no hd).1, if_pos rfl, if_neg (by simp)]
  ·obtain ⟨h1, h2, h3⟩ := lg_yes hd
   rw [if_pos rfl, if_neg (by omega), h3]
theorem sg_cases (l : List Nat) : (∃ q, l = 45 :: q) ∨ (∃ q, l = 43 :: q) ∨ (unsg l = l ∧ sgnB l = false ∧ [45].isPrefixOf l = false ∧ [43].isPrefixOf l = false) := by
 cases l with
 | nil => exact Or.inr (Or.inr ⟨rfl, rfl, rfl, rfl⟩)
 | cons c q =>
  by_cases h1 : c = 45
  ·exact Or.inl ⟨q, by rw [h1]⟩
  ·by_cases h2 : c = 43
   ·exact Or.inr (Or.inl ⟨q, by rw [h2]⟩)
   ·refine Or.inr (Or.inr ⟨?_, ?_, ?_, ?_⟩)
    ·unfold unsg
     rw [if_neg (by simp [h1, h2])]
    ·unfold sgnB
     rw [List.head?_cons, beq_eq_false_iff_ne]
     exact fun e => h1 (Option.some.inj e)
    ·have : (45 == c) = false := beq_eq_false_iff_ne.2 (fun e => h1 e.symm)
     simp [List.isPrefixOf, this]
    ·have : (43 == c) = false := beq_eq_false_iff_ne.2 (fun e => h2 e.symm)
     simp [List.isPrefixOf, this]
theorem yFloat_any (s : ByteArray) (w : World) (hs : s.size ≤ 140737488355328) :
  Ct 31 #[.string s] (.float .f64 (fltW (nrw 1 (ahL (us s))))) w := by
 have CA := Lib.hid (fun W => yahead_any s W hs)
 obtain ⟨l, hll⟩ : ∃ l, nrw 1 (ahL (us s)) = l := ⟨_, rfl⟩
 have hl : ∀ c ∈ l, c < 128 := by rw [← hll]; exact nrw_lt (by omega) _
 have hln : l.length ≤ 70368744177664 := by
  have h1 : (ahL (us s)).length ≤ (us s).length := (List.dropWhile_sublist _).length_le
  have h2 := ln_le s
  rw [us_length] at h1
  rw [← hll, nrw_len]
  omega
 have CB : Hid (∀ t, (us t = ahL (us s) ∧ t.size ≤ s.size) → ∀ W, Ct 70 #[.string t] (.string (strOf l)) W) := Lib.hid (fun t ht W => by
  have := ybytes_any t W (by omega)
  rw [ht.1, hll] at this
  exact this)
 rw [hll]
 have h256 : ∀ c ∈ l, c < 256 := fun c hc => by have := hl c hc; omega
 have hb := bl_strOf h256
 have hz := strOf_size l
 have CM : Hid (∀ W, Cq 83 #[.string (strOf l), .string ⟨#[45]⟩] (.bool ([45].isPrefixOf l)) W) := Lib.hid (fun W => by
  have := ybegins_any (strOf l) ⟨#[45]⟩ W
  rw [hb] at this
  exact this)
 have CP : Hid (∀ W, Cq 83 #[.string (strOf l), .string ⟨#[43]⟩] (.bool ([43].isPrefixOf l)) W) := Lib.hid (fun W => by
  have := ybegins_any (strOf l) ⟨#[43]⟩ W
  rw [hb] at this
  exact this)
 have hext : ∀ c q, l = c :: q → (strOf l).extract 1 (strOf l).size = strOf q ∧ 1 ≤ (strOf l).size ∧ (∀ d ∈ q, d < 128) ∧ q.length ≤ 70368744177664 := fun c q e => by
  rw [ext_drop, hb, hz, e]
  refine ⟨rfl, by simp, fun d hd => hl d (by rw [e]; exact List.mem_cons_of_mem _ hd), ?_⟩
  rw [e, List.length_cons] at hln
  omega
 have CL : ∀ u, (∀ d ∈ u, d < 128) → u.length ≤ 70368744177664 → Hid (∀ W, Ct 72 #[.string (strOf u)] (.tuple #[.int .i64 (lgN u : Nat), .float .f64 (lgV u)]) W) := fun u h1 h2 => Lib.hid (fun W => by
  have hzu := strOf_size u
  have := ylongest_any (strOf u) W (by omega)
  rw [bl_strOf (fun c hc => by have := h1 c hc; omega)] at this
  exact this)
 have CI : ∀ u, (∀ d ∈ u, d < 128) → Hid (∀ W, Cq 83 #[.string (strOf u), .string ⟨#[73, 110, 102, 105, 110, 105, 116, 121]⟩] (.bool (infB u)) W) := fun u h1 => Lib.hid (fun W => by
  have := ybegins_any (strOf u) ⟨#[73, 110, 102, 105, 110, 105, 116, 121]⟩ W
  rw [bl_strOf (fun c hc => by have := h1 c hc; omega)] at this
  exact this)
 rw [flt_lg]
 rcases sg_cases l with ⟨q, hq⟩ | ⟨q, hq⟩ | ⟨hu, hsg, hm, hp⟩
 ·obtain ⟨x0, x1, x2, x3⟩ := hext _ q hq
  have hu : unsg l = q := by rw [hq]; rfl
  have hsg : sgnB l = true := by rw [hq]; rfl
  rw [show [45].isPrefixOf l = true by rw [hq]; simp [List.isPrefixOf]] at CM
  rw [hu, hsg]
  have CI' := CI q x2
  cases hi : infB q
  ·rw [hi] at CI'
   rw [if_neg (by simp)]
   by_cases n0 : lgN q = 0
   ·rw [if_pos n0]
    exact yflt_minus_zero (CA := CA) (CB := CB) (CM := CM) (h1 := x1) (hu := x0) (CL := CL q x2 x3) (CI := CI') (w := w) (t1 := by rw [beq_iff_eq]; omega)
   ·rw [if_neg n0, ← negW_eq (fin_lg q)]
    exact yflt_minus_some (CA := CA) (CB := CB) (CM := CM) (h1 := x1) (hu := x0) (CL := CL q x2 x3) (CI := CI') (w := w) (t1 := by rw [beq_eq_false_iff_ne]; omega)
  ·rw [hi] at CI'
   rw [if_pos rfl, ← negW_eq (by omega)]
   exact yflt_minus_inf (CA := CA) (CB := CB) (CM := CM) (h1 := x1) (hu := x0) (CL := CL q x2 x3) (CI := CI') (w := w)
 ·obtain ⟨x0, x1, x2, x3⟩ := hext _ q hq
  have hu : unsg l = q := by rw [hq]; rfl
  have hsg : sgnB l = false := by rw [hq]; rfl
  rw [show [45].isPrefixOf l = false by rw [hq]; rfl] at CM
  rw [show [43].isPrefixOf l = true by rw [hq]; simp [List.isPrefixOf]] at CP
  rw [hu, hsg]
  have CI' := CI q x2
  cases hi : infB q
  ·rw [hi] at CI'
   rw [if_neg (by simp)]
   by_cases n0 : lgN q = 0
   ·rw [if_pos n0]
    exact yflt_plus_zero (CA := CA) (CB := CB) (CM := CM) (CP := CP) (h1 := x1) (hu := x0) (CL := CL q x2 x3) (CI := CI') (w := w) (t1 := by rw [beq_iff_eq]; omega)
   ·rw [if_neg n0]
    exact yflt_plus_some (CA := CA) (CB := CB) (CM := CM) (CP := CP) (h1 := x1) (hu := x0) (CL := CL q x2 x3) (CI := CI') (w := w) (t1 := by rw [beq_eq_false_iff_ne]; omega)
  ·rw [hi] at CI'
   rw [if_pos rfl]
   exact yflt_plus_inf (CA := CA) (CB := CB) (CM := CM) (CP := CP) (h1 := x1) (hu := x0) (CL := CL q x2 x3) (CI := CI') (w := w)
 ·rw [hm] at CM
  rw [hp] at CP
  rw [hu, hsg]
  have CI' := CI l hl
  cases hi : infB l
  ·rw [hi] at CI'
   rw [if_neg (by simp)]
   by_cases n0 : lgN l = 0
   ·rw [if_pos n0]
    exact yflt_plain_zero (CA := CA) (CB := CB) (CM := CM) (CP := CP) (CL := CL l hl hln) (CI := CI') (w := w) (t1 := by rw [beq_iff_eq]; omega)
   ·rw [if_neg n0]
    exact yflt_plain_some (CA := CA) (CB := CB) (CM := CM) (CP := CP) (CL := CL l hl hln) (CI := CI') (w := w) (t1 := by rw [beq_eq_false_iff_ne]; omega)
  ·rw [hi] at CI'
   rw [if_pos rfl]
   exact yflt_plain_inf (CA := CA) (CB := CB) (CM := CM) (CP := CP) (CL := CL l hl hln) (CI := CI') (w := w)

end Go.Proofs.YtfcpkdafkmohkaaGreatDoor
namespace Go.Proofs.YtfcpkdafkmohkaaGreatDoor
open Go.RowKit
set_option maxRecDepth 100000 in
theorem tscaled_walk {w : World} {A : Option Addr} {n c m T B : Nat} {two ten t : Int} {Q : World → Ending → World → Prop} (hA : NV w A n c m)
  (C1 : Hid (∀ W, NV W A n c m → Cp 185 #[.slice A n c, .int .i64 ten] W (NRet T W)))
  (C3 : Hid (∀ W A1 n1 c1, NV W A1 n1 c1 1 → Cp 185 #[.slice A1 n1 c1, .int .i64 (-ten)] W (NRet B W)))
  (C6 : Hid (∀ W A1 n1 c1 A2 n2 c2, NV W A1 n1 c1 T → NV W A2 n2 c2 B → Cp 109 #[.slice A1 n1 c1, .slice A2 n2 c2, .int .i64 t] W fun e w' => ∃ v b, e = .returned (.tuple #[v, .bool b]) ∧ Q W e w'))
  (k1 : IntKind.i64.wrap (-ten) = -ten) (k2 : IntKind.i64.wrap (two + ten) = t) :
  Cp 123 #[.slice A n c, .int .i64 two, .int .i64 ten] w fun e w' => ∃ W, Q W e w' ∧ Below w.heap.size w W := by
 have C2 := Lib.hid (fun W => nof 1 (by omega) W)
 have HA := Lib.hid hA
 clear hA
 go_enter Tryz.func123, Tryz.ntmps123
 go_wp2_with fail
 refine (C1.out _ HA.out).mono ?_
 rintro e w1 ⟨A1, n1, c1, rfl, g1, b1⟩
 have G1 := Lib.hid g1
 have B1 := Lib.hid b1
 clear g1 b1
 go_wp2_with fail
 refine (C2.out _).mono ?_
 rintro e w2 ⟨A2, n2, c2, rfl, g2, b2⟩
 have G2 := Lib.hid g2
 have G1' := Lib.hid (G1.out.step b2)
 have B2 := Lib.hid (below_le B1.out b2)
 clear g2 b2
 go_wp2_with fail
 refine (C3.out _ _ _ _ G2.out).mono ?_
 rintro e w3 ⟨A3, n3, c3, rfl, g3, b3⟩
 have G3 := Lib.hid g3
 have G1'' := Lib.hid (G1'.out.step b3)
 have B3 := Lib.hid (below_le B2.out b3)
 clear g3 b3
 go_wp2_with fail
 refine (C6.out _ _ _ _ _ _ _ G1''.out G3.out).mono ?_
 rintro e w4 ⟨v, b, rfl, q4⟩
 have Q4 := Lib.hid q4
 clear q4
 go_wp2
 go_ret2
 exact ⟨_, Q4.out, B3.out⟩
def scA (m : Nat) (two ten : Int) : Nat := m * 5 ^ ten.toNat * 2 ^ (two + ten).toNat
def scB (two ten : Int) : Nat := 5 ^ (-ten).toNat * 2 ^ (-(two + ten)).toNat
theorem scB_pos (two ten : Int) : 0 < scB two ten := Nat.mul_pos (Nat.pow_pos (by omega)) (two_pos _)
theorem tscaled_any {w : World} {A : Option Addr} {n c m : Nat} (two ten : Int) (hA : NV w A n c m) (hm : bln m ≤ 2000) (h1 : -1000 ≤ ten) (h2 : ten ≤ 1000) (h3 : -3000 ≤ two) (h4 : two ≤ 3000) :
  Cp 123 #[.slice A n c, .int .i64 two, .int .i64 ten] w (QRet (scA m two ten) (scB two ten) w) := by
 have f1 := bln_five ten.toNat
 have f2 := bln_five (-ten).toNat
 have g1 := bln_mul m (5 ^ ten.toNat)
 have p2 : 0 < 5 ^ (-ten).toNat := Nat.pow_pos (by omega)
 have C1 := Lib.hid (fun W (h : NV W A n c m) => traised_any ten h (by omega) (by omega) (by omega))
 have C3 : Hid (∀ W A1 n1 c1, NV W A1 n1 c1 1 → Cp 185 #[.slice A1 n1 c1, .int .i64 (-ten)] W (NRet (5 ^ (-ten).toNat) W)) := Lib.hid (fun W A1 n1 c1 h => by
  have := traised_any (-ten) h (by rw [show bln 1 = 1 by decide]; omega) (by omega) (by omega)
  rw [Nat.one_mul] at this
  exact this)
 have C6 : Hid (∀ W A1 n1 c1 A2 n2 c2, NV W A1 n1 c1 (m * 5 ^ ten.toNat) → NV W A2 n2 c2 (5 ^ (-ten).toNat) → Cp 109 #[.slice A1 n1 c1, .slice A2 n2 c2, .int .i64 (two + ten)] W fun e w' => ∃ v b, e = .returned (.tuple #[v, .bool b]) ∧ QRet (scA m two ten) (scB two ten) W e w') := Lib.hid (fun W A1 n1 c1 A2 n2 c2 h g => (tratio_any (two + ten) h g (by omega) (by omega) p2 (by omega) (by omega)).mono (by
  rintro e w' ⟨A3, n3, c3, rfl, hv, hb⟩
  exact ⟨_, _, rfl, A3, n3, c3, rfl, hv, hb⟩))
 refine (tscaled_walk hA C1 C3 C6 (IntWalk.i64_in _ (by omega)) (IntWalk.i64_in _ (by omega))).mono ?_
 rintro e w' ⟨W, ⟨A3, n3, c3, rfl, hv, hb⟩, hw⟩
 exact ⟨A3, n3, c3, rfl, hv, below_le hw hb⟩

end Go.Proofs.YtfcpkdafkmohkaaGreatDoor
namespace Go.Proofs.YtfcpkdafkmohkaaGreatDoor
open Go.RowKit
theorem sc_le (m : Nat) (two n : Int) : scB two (-n) ≤ scA m two (-n) ↔ le10 n (m * 2 ^ two.toNat) (2 ^ (-two).toNat) := by
 unfold le10 scA scB
 obtain ⟨a, ha⟩ : ∃ a, two.toNat = a := ⟨_, rfl⟩
 obtain ⟨b, hb⟩ : ∃ b, (-two).toNat = b := ⟨_, rfl⟩
 obtain ⟨c, hc⟩ : ∃ c, n.toNat = c := ⟨_, rfl⟩
 obtain ⟨d, hd⟩ : ∃ d, (-n).toNat = d := ⟨_, rfl⟩
 obtain ⟨p, hp⟩ : ∃ p, (two + -n).toNat = p := ⟨_, rfl⟩
 obtain ⟨q, hq⟩ : ∃ q, (-(two + -n)).toNat = q := ⟨_, rfl⟩
 rw [ha, hb, hc, hd, hp, hq, show (- -n).toNat = c by omega]
 have e : 2 ^ q * (2 ^ a * 2 ^ d) = 2 ^ p * (2 ^ b * 2 ^ c) := by
  rw [← Nat.pow_add, ← Nat.pow_add, ← Nat.pow_add, ← Nat.pow_add]
  exact congrArg (fun k => 2 ^ k) (by omega)
 have t1 : (10 : Nat) ^ c = 5 ^ c * 2 ^ c := by rw [← Nat.mul_pow]
 have t2 : (10 : Nat) ^ d = 5 ^ d * 2 ^ d := by rw [← Nat.mul_pow]
 rw [t1, t2]
 have hq0 := two_pos q
 have hbc : 0 < 2 ^ b * 2 ^ c := Nat.mul_pos (two_pos b) (two_pos c)
 generalize 2 ^ q = Q at *
 generalize 2 ^ a = A at *
 generalize 2 ^ d = D at *
 generalize 2 ^ p = P at *
 generalize 2 ^ b = B at *
 generalize 2 ^ c = C at *
 generalize 5 ^ c = F at *
 generalize 5 ^ d = G at *
 have r1 : B * (F * C) * Q = F * Q * (B * C) := by grind
 have r2 : m * A * (G * D) * Q = m * G * (Q * (A * D)) := by grind
 have r3 : m * G * P * (B * C) = m * G * (P * (B * C)) := by grind
 constructor
 ·intro h
  refine Nat.le_of_mul_le_mul_right ?_ hq0
  rw [r1, r2, e, ← r3]
  exact Nat.mul_le_mul_right _ h
 ·intro h
  refine Nat.le_of_mul_le_mul_right ?_ hbc
  have := Nat.mul_le_mul_right Q h
  rw [r1, r2, e, ← r3] at this
  exact this
set_option maxRecDepth 100000 in
set_option maxHeartbeats 1000000 in
theorem tpoint_walk {w : World} {A : Option Addr} {n c m bt V : Nat} {two x1 x2 x3 x4 x5 n1 : Int} (hA : NV w A n c m) (up : Bool)
  (C1 : Hid (∀ W, NV W A n c m → Cq 156 #[.slice A n c] (.int .i64 (bt : Nat)) W))
  (C2 : Hid (∀ W, NV W A n c m → Cp 123 #[.slice A n c, .int .i64 two, .int .i64 (-n1)] W fun e w' => ∃ A3 n3 c3 b, e = .returned (.tuple #[.slice A3 n3 c3, .bool b]) ∧ NV w' A3 n3 c3 V ∧ Below W.heap.size W w'))
  (k1 : wrap64 ((bt : Int) + two) = x1) (k2 : wrap64 (x1 - 1) = x2) (k3 : wrap64 (x2 * 78913) = x3) (k4 : x3 / 262144 = x4) (k5 : wrap64 (x4 + 1) = n1) (k6 : wrap64 (-n1) = -n1) (k7 : wrap64 (n1 + 1) = x5) (hup : up = decide (0 < V)) :
  Ct 94 #[.slice A n c, .int .i64 two] (.int .i64 (if up = true then x5 else n1)) w := by
 have HA := Lib.hid hA
 have HU := Lib.hid hup
 clear hA hup
 go_enter Tryz.func94, Tryz.ntmps94
 go_wp2_with fail
 refine (C1.out _ HA.out).mono ?_
 rintro e w' ⟨rfl, rfl⟩
 go_wp2_with fail
 refine (C2.out _ HA.out).mono ?_
 rintro e w1 ⟨A3, n3, c3, b, rfl, g, b1⟩
 have B1 := Lib.hid b1
 have hl := g.len
 clear b1
 have h0 := HU.out
 cases up
 ·have hV : V = 0 := by
   have := of_decide_eq_false h0.symm
   omega
  have t1 : ¬ (0 : Int) < (n3 : Int) := by
   rw [hV] at hl
   have : n3 = 0 := by rw [← hl]; rfl
   omega
  clear g hl h0 hV
  go_wp2
  go_ret
  exact ⟨rfl, B1.out⟩
 ·have hV : 0 < V := of_decide_eq_true h0.symm
  have t1 : (0 : Int) < (n3 : Int) := by
   have h2 : (wds V) ≠ [] := fun e => by
    have h3 := wds_val V
    rw [e] at h3
    have : val [] = 0 := rfl
    omega
   have := List.length_pos_iff.2 h2
   omega
  clear g hl h0 hV
  go_wp2
  go_ret
  exact ⟨rfl, B1.out⟩

end Go.Proofs.YtfcpkdafkmohkaaGreatDoor
namespace Go.Proofs.YtfcpkdafkmohkaaGreatDoor
open Go.RowKit
theorem lead_at {m k : Nat} {two e : Int} (h1 : 2 ^ k ≤ m) (h2 : m < 2 ^ (k + 1)) (he : (k : Int) + two = e) :
  2 ^ e.toNat * 2 ^ (-two).toNat ≤ m * 2 ^ two.toNat * 2 ^ (-e).toNat ∧ m * 2 ^ two.toNat * 2 ^ (-e).toNat < 2 * 2 ^ e.toNat * 2 ^ (-two).toNat := by
 have key : 2 ^ k * 2 ^ two.toNat * 2 ^ (-e).toNat = 2 ^ e.toNat * 2 ^ (-two).toNat := by
  rw [← Nat.pow_add, ← Nat.pow_add, ← Nat.pow_add]
  exact congrArg (fun k => 2 ^ k) (by omega)
 have hp := two_pos two.toNat
 have hq := two_pos (-e).toNat
 constructor
 ·rw [← key]
  exact Nat.mul_le_mul_right _ (Nat.mul_le_mul_right _ h1)
 ·rw [Nat.mul_assoc, Nat.mul_assoc 2, ← key, ← Nat.mul_assoc m, ← Nat.mul_assoc 2, ← Nat.mul_assoc 2, show 2 * 2 ^ k = 2 ^ (k + 1) by rw [Nat.pow_succ, Nat.mul_comm]]
  exact Nat.mul_lt_mul_of_pos_right (Nat.mul_lt_mul_of_pos_right h2 hp) hq
theorem tpoint_any {w : World} {A : Option Addr} {n c m : Nat} (two : Int) (hA : NV w A n c m) (h0 : 0 < m) (hm : bln m ≤ 100) (h1 : -1140 < (bln m : Int) + two - 1) (h2 : (bln m : Int) + two - 1 < 1100) :
  ∃ p : Int, PointAt (m * 2 ^ two.toNat) (2 ^ (-two).toNat) p ∧ -345 ≤ p ∧ p ≤ 335 ∧ Ct 94 #[.slice A n c, .int .i64 two] (.int .i64 p) w := by
 obtain ⟨u1, u2, u3⟩ := bln_bounds h0
 obtain ⟨k, hk⟩ : ∃ k, bln m = k + 1 := ⟨bln m - 1, by omega⟩
 have C1 := Lib.hid (fun W (h : NV W A n c m) => nbits h (by omega))
 rw [hk] at u1 u2 hm h1 h2 C1
 rw [Nat.add_sub_cancel] at u1
 obtain ⟨e, he⟩ : ∃ e, (k : Int) + two = e := ⟨_, rfl⟩
 obtain ⟨l1, l2⟩ := lead_at u1 u2 he
 obtain ⟨p1, p2⟩ := point_lg (u := m * 2 ^ two.toNat) (v := 2 ^ (-two).toNat) (e := e) (two_pos _) (by omega) (by omega) l1 l2
 obtain ⟨n1, hn1⟩ : ∃ n1, lg2 e + 1 = n1 := ⟨_, rfl⟩
 have hlg : e * 78913 / 262144 = n1 - 1 := by unfold lg2 at hn1; omega
 have b1 : -345 ≤ n1 ∧ n1 ≤ 333 := by omega
 rw [hn1] at p1 p2
 rw [show lg2 e + 2 = n1 + 1 by omega] at p2
 have hs := sc_le m two n1
 have hq : (0 < scA m two (-n1) / scB two (-n1)) ↔ le10 n1 (m * 2 ^ two.toNat) (2 ^ (-two).toNat) := by
  rw [Nat.div_pos_iff, ← hs]
  exact ⟨fun h => h.2, fun h => ⟨scB_pos _ _, h⟩⟩
 have C2 : Hid (∀ W, NV W A n c m → Cp 123 #[.slice A n c, .int .i64 two, .int .i64 (-n1)] W fun e w' => ∃ A3 n3 c3 b, e = .returned (.tuple #[.slice A3 n3 c3, .bool b]) ∧ NV w' A3 n3 c3 (scA m two (-n1) / scB two (-n1)) ∧ Below W.heap.size W w') := Lib.hid (fun W h => (tscaled_any two (-n1) h (by omega) (by omega) (by omega) (by omega) (by omega)).mono (by
  rintro e w' ⟨A3, n3, c3, rfl, hv, hb⟩
  exact ⟨A3, n3, c3, _, rfl, hv, hb⟩))
 have W := fun up h => tpoint_walk (two := two) (x1 := ((k + 1 : Nat) : Int) + two) (x2 := e) (x3 := e * 78913) (x4 := n1 - 1) (x5 := n1 + 1) (n1 := n1) hA up C1 C2 (by unfold wrap64; omega) (by unfold wrap64; omega) (by unfold wrap64; omega) hlg (by unfold wrap64; omega) (by unfold wrap64; omega) (by unfold wrap64; omega) h
 by_cases h : 0 < scA m two (-n1) / scB two (-n1)
 ·exact ⟨n1 + 1, p2 (hq.1 h), by omega, by omega, W true (decide_eq_true h).symm⟩
 ·exact ⟨n1, p1 (fun hh => h (hq.2 hh)), by omega, by omega, W false (decide_eq_false h).symm⟩

end Go.Proofs.YtfcpkdafkmohkaaGreatDoor
namespace Go.Proofs.YtfcpkdafkmohkaaGreatDoor
def dL (n : Nat) : List Nat := (Lib.decDigits n).map UInt8.toNat
theorem u8_toNat {n : Nat} (h : n < 256) : (UInt8.ofNat n).toNat = n := by simp; omega
theorem dL_small {n : Nat} (h : n < 10) : dL n = [48 + n] := by
 unfold dL
 rw [Lib.decDigits, dif_pos h, List.map_cons, List.map_nil, u8_toNat (by omega)]
theorem dL_big {n : Nat} (h : 10 ≤ n) : dL n = dL (n / 10) ++ [48 + n % 10] := by
 unfold dL
 rw [Lib.decDigits, dif_neg (by omega), List.map_append, List.map_cons, List.map_nil, u8_toNat (by omega)]
theorem dL_snoc {n d : Nat} (hn : 0 < n) (hd : d < 10) : dL (n * 10 + d) = dL n ++ [48 + d] := by
 rw [dL_big (by omega), show (n * 10 + d) / 10 = n by omega, show (n * 10 + d) % 10 = d by omega]
theorem dL_ind {P : Nat → Prop} (h1 : ∀ n, n < 10 → P n) (h2 : ∀ n, 10 ≤ n → P (n / 10) → P n) (n : Nat) : P n := by
 induction n using Nat.strongRecOn with
 | _ n ih =>
  by_cases h : n < 10
  ·exact h1 n h
  ·exact h2 n (by omega) (ih _ (by omega))
theorem dL_dig (n : Nat) : ∀ c ∈ dL n, dg10 c = true := by
 refine dL_ind (P := fun n => ∀ c ∈ dL n, dg10 c = true) ?_ ?_ n
 ·intro n h c hc
  rw [dL_small h, List.mem_singleton] at hc
  subst hc
  exact dg10_iff.2 (by omega)
 ·intro n h ih c hc
  rw [dL_big h, List.mem_append, List.mem_singleton] at hc
  rcases hc with hc | rfl
  ·exact ih c hc
  ·exact dg10_iff.2 (by omega)
theorem dL_ne (n : Nat) : dL n ≠ [] := by
 by_cases h : n < 10
 ·rw [dL_small h]; simp
 ·rw [dL_big (by omega)]; simp
theorem dL_pos (n : Nat) : 0 < (dL n).length := List.length_pos_iff.2 (dL_ne n)
theorem dgt_48p {d : Nat} (h : d < 10) : dgt (48 + d) = d := by
 have := dgt_ten (c := 48 + d) (dg10_iff.2 (by omega))
 omega
theorem dL_num (n : Nat) : num 10 (dL n) = n := by
 refine dL_ind (P := fun n => num 10 (dL n) = n) ?_ ?_ n
 ·intro n h
  rw [dL_small h, num_one, dgt_48p h]
 ·intro n h ih
  rw [dL_big h, num_append, ih, num_one, dgt_48p (by omega), List.length_singleton]
  omega
theorem dL_head {n : Nat} : 0 < n → (dL n).head? ≠ some 48 := by
 refine dL_ind (P := fun n => 0 < n → (dL n).head? ≠ some 48) ?_ ?_ n
 ·intro n h h0
  rw [dL_small h]
  simp
  omega
 ·intro n h ih _
  have := dL_ne (n / 10)
  have ih' := ih (by omega)
  rw [dL_big h]
  cases hd : dL (n / 10) with
  | nil => exact absurd hd this
  | cons a b =>
   rw [hd] at ih'
   simpa using ih'
theorem dL_lt (n : Nat) : n < 10 ^ (dL n).length := by
 have := num_hi (g := dL n) (dL_dig n)
 rwa [dL_num] at this
theorem dL_ge {n : Nat} (h : 0 < n) : 10 ^ ((dL n).length - 1) ≤ n := by
 have := num_lo (g := dL n) (dL_dig n) (dL_ne n) (dL_head h)
 rwa [dL_num] at this
theorem ten_lt {a b : Nat} (h : 10 ^ a < 10 ^ b) : a < b := by
 rcases Nat.lt_or_ge a b with h1 | h1
 ·exact h1
 ·have := Nat.pow_le_pow_right (n := 10) (by omega) h1
  omega
theorem dL_len {n k : Nat} (h1 : 10 ^ k ≤ n) (h2 : n < 10 ^ (k + 1)) : (dL n).length = k + 1 := by
 have hp := ten_pos k
 have a1 := ten_lt (Nat.lt_of_le_of_lt h1 (dL_lt n))
 have a2 := ten_lt (Nat.lt_of_le_of_lt (dL_ge (n := n) (by omega)) h2)
 omega
theorem dL_zeros {n : Nat} (hn : 0 < n) : ∀ j : Nat, dL (n * 10 ^ j) = dL n ++ List.replicate j 48
 | 0 => by simp
 | j + 1 => by
  have h := dL_snoc (n := n * 10 ^ j) (d := 0) (Nat.mul_pos hn (ten_pos j)) (by omega)
  rw [Nat.pow_succ, ← Nat.mul_assoc, show n * 10 ^ j * 10 = n * 10 ^ j * 10 + 0 by omega, h, dL_zeros hn j, List.replicate_succ', List.append_assoc]
theorem trz_snoc {l : List Nat} {c : Nat} (h : c ≠ 48) : trz (l ++ [c]) = l ++ [c] := by
 unfold trz
 rw [List.reverse_append, List.reverse_singleton, List.singleton_append, List.dropWhile_cons_of_neg (by simpa using h)]
 simp
theorem trz_rep (l : List Nat) : ∀ j : Nat, trz (l ++ List.replicate j 48) = trz l
 | 0 => by simp
 | j + 1 => by
  rw [List.replicate_succ', ← List.append_assoc]
  have : ∀ m : List Nat, trz (m ++ [48]) = trz m := fun m => by
   unfold trz
   rw [List.reverse_append, List.reverse_singleton, List.singleton_append, List.dropWhile_cons_of_pos (by simp)]
  rw [this, trz_rep l j]
theorem dL_last {n : Nat} (h : n % 10 ≠ 0) : trz (dL n) = dL n := by
 by_cases h1 : n < 10
 ·rw [dL_small h1, show [48 + n] = [] ++ [48 + n] from rfl, trz_snoc (by omega)]
 ·rw [dL_big (by omega), trz_snoc (by omega)]
theorem dL_trz {n : Nat} (h : n % 10 ≠ 0) (j : Nat) : trz (dL (n * 10 ^ j)) = dL n := by
 rw [dL_zeros (by omega), trz_rep, dL_last h]

end Go.Proofs.YtfcpkdafkmohkaaGreatDoor
namespace Go.Proofs.YtfcpkdafkmohkaaGreatDoor
theorem two_move {N S P Q x y : Nat} (h : N * 2 ^ x = S * 2 ^ y) (e : P + y = x + Q) : N * 2 ^ P = S * 2 ^ Q := by
 refine Nat.eq_of_mul_eq_mul_right (two_pos y) ?_
 rw [Nat.mul_assoc, ← Nat.pow_add, e, Nat.pow_add, ← Nat.mul_assoc, h, Nat.mul_assoc, Nat.mul_assoc, Nat.mul_comm (2 ^ y)]
theorem sc_cross {N S M x y : Nat} {two ten : Int} (hxy : (x : Int) - y = two + M) (h : N * 2 ^ x = S * 2 ^ y) :
  scA N two ten * (2 ^ M * 10 ^ (-ten).toNat) = S * 10 ^ ten.toNat * scB two ten := by
 unfold scA scB
 obtain ⟨a, ha⟩ : ∃ a, ten.toNat = a := ⟨_, rfl⟩
 obtain ⟨b, hb⟩ : ∃ b, (-ten).toNat = b := ⟨_, rfl⟩
 obtain ⟨p, hp⟩ : ∃ p, (two + ten).toNat = p := ⟨_, rfl⟩
 obtain ⟨q, hq⟩ : ∃ q, (-(two + ten)).toNat = q := ⟨_, rfl⟩
 rw [ha, hb, hp, hq]
 have key := two_move (P := p + (M + b)) (Q := a + q) h (by omega)
 rw [Nat.pow_add, Nat.pow_add, Nat.pow_add] at key
 have t1 : (10 : Nat) ^ a = 5 ^ a * 2 ^ a := by rw [← Nat.mul_pow]
 have t2 : (10 : Nat) ^ b = 5 ^ b * 2 ^ b := by rw [← Nat.mul_pow]
 rw [t1, t2]
 generalize 2 ^ p = P' at *
 generalize 2 ^ M = M' at *
 generalize 2 ^ b = B' at *
 generalize 2 ^ a = A' at *
 generalize 2 ^ q = Q' at *
 generalize 5 ^ a = F
 generalize 5 ^ b = G
 have r1 : N * F * P' * (M' * (G * B')) = F * G * (N * (P' * (M' * B'))) := by grind
 have r2 : S * (F * A') * (G * Q') = F * G * (S * (A' * Q')) := by grind
 rw [r1, r2, key]
theorem rest_cross {a b c d : Nat} (hb : 0 < b) (hd : 0 < d) (h : a * d = c * b) : a % b = 0 ↔ c % d = 0 := by
 have e := (quot_cross hb hd h).1
 have h1 := Nat.div_add_mod a b
 have h2 := Nat.div_add_mod c d
 generalize a % b = s at *
 generalize c % d = t at *
 rw [← e] at h2
 generalize a / b = q at *
 have k1 : a * d = b * q * d + s * d := by rw [← h1]; grind
 have k2 : c * b = b * q * d + t * b := by rw [← h2]; grind
 have k3 : s * d = t * b := by omega
 constructor
 ·intro h0
  rw [h0, Nat.zero_mul] at k3
  rcases Nat.mul_eq_zero.1 k3.symm with h | h
  ·exact h
  ·omega
 ·intro h0
  rw [h0, Nat.zero_mul] at k3
  rcases Nat.mul_eq_zero.1 k3 with h | h
  ·exact h
  ·omega
theorem quarters {r c D : Nat} (h1 : r = D * 4503599627370496 + c) (h2 : c < 9007199254740992) (h3 : D = 0 ∨ 4503599627370496 ≤ c) (h0 : 0 < r) :
  2 * (fmag r + fmag (r + 1)) = (4 * c + 2) * 2 ^ D ∧ 2 * (fmag (r - 1) + fmag r) = (4 * c - (if c = 4503599627370496 ∧ 0 < D then 1 else 2)) * 2 ^ D := by
 obtain ⟨D', c', e1, e2, e3, e4, e5⟩ := rung_parts r
 have hD : D' = D ∧ c' = c := by
  rcases h3 with h3 | h3 <;> rcases e3 with e3 | e3 <;> omega
 obtain ⟨rfl, rfl⟩ := hD
 have hc0 : 0 < c' := by
  rcases h3 with h3 | h3
  ·subst h3; omega
  ·omega
 refine ⟨by rw [e4, e5, ← Nat.add_mul]; grind, ?_⟩
 by_cases hp : c' = 4503599627370496 ∧ 0 < D'
 ·obtain ⟨p1, p2⟩ := hp
  rw [if_pos ⟨p1, p2⟩]
  obtain ⟨d, rfl⟩ : ∃ d, D' = d + 1 := ⟨D' - 1, by omega⟩
  have hr : r - 1 = d * 4503599627370496 + 9007199254740991 := by omega
  have hm := fmag_make 9007199254740991 d (by omega) (by omega)
  rw [← hr] at hm
  rw [hm, e4, p1, Nat.pow_succ]
  generalize 2 ^ d = X
  omega
 ·rw [if_neg hp]
  have hm : fmag (r - 1) = (c' - 1) * 2 ^ D' := by
   rcases Nat.eq_zero_or_pos D' with hD | hD
   ·subst hD
    rw [show r - 1 = c' - 1 by omega, fmag_low (by omega)]
    simp
   ·have : 4503599627370496 < c' := by
     rcases e3 with e3 | e3
     ·omega
     ·have : c' ≠ 4503599627370496 := fun h => hp ⟨h, hD⟩
      omega
    have hm := fmag_make (c' - 1) D' (by omega) (by omega)
    rw [← hm]
    exact congrArg fmag (by omega)
  rw [hm, e4]
  obtain ⟨x, rfl⟩ : ∃ x, c' = x + 1 := ⟨c' - 1, by omega⟩
  generalize 2 ^ D' = X
  rw [show 4 * (x + 1) - 2 = 4 * x + 2 by omega, show x + 1 - 1 = x by omega]
  grind

end Go.Proofs.YtfcpkdafkmohkaaGreatDoor
namespace Go.Proofs.YtfcpkdafkmohkaaGreatDoor
def powK (K : Nat) : Nat := 2 ^ K
theorem powK_eq (K : Nat) : powK K = 2 ^ K := rfl
theorem powK_pos (K : Nat) : 0 < powK K := two_pos K
def big : Nat := powK 1074
theorem big_pos : 0 < big := powK_pos 1074
theorem big_K : ∃ K : Nat, K = 1074 ∧ big = 2 ^ K := ⟨1074, rfl, powK_eq 1074⟩
def vU (r : Nat) (s : Int) : Nat := fmag r * 10 ^ s.toNat
def vV (s : Int) : Nat := big * 10 ^ (-s).toNat
theorem vV_pos (s : Int) : 0 < vV s := Nat.mul_pos big_pos (ten_pos _)
theorem decR_big (N : Nat) (e : Int) : decR N e = rnd (N * vV (-e)) (10 ^ (-e).toNat) := by
 obtain ⟨K, hK, hd⟩ := decR_K
 obtain ⟨K', hK', hb⟩ := big_K
 have : K' = K := by omega
 subst this
 unfold vV
 rw [hd, hb, show (- -e).toNat = e.toNat by omega, Nat.mul_assoc, Nat.mul_comm (10 ^ e.toNat)]
theorem ten_iff {u v a b c d : Nat} (e : c + b = a + d) : v * 10 ^ a ≤ u * 10 ^ b ↔ v * 10 ^ c ≤ u * 10 ^ d := by
 have hb := ten_pos b
 have hd := ten_pos d
 have e1 : v * 10 ^ a * 10 ^ d = v * 10 ^ c * 10 ^ b := by rw [Nat.mul_assoc, Nat.mul_assoc, ← Nat.pow_add, ← Nat.pow_add, e]
 have e2 : u * 10 ^ b * 10 ^ d = u * 10 ^ d * 10 ^ b := Nat.mul_right_comm _ _ _
 rw [← Nat.mul_le_mul_right_iff hd, e1, e2, Nat.mul_le_mul_right_iff hb]
theorem le10_at {r j : Nat} {m s : Int} (h : m + s = j) : le10 m (fmag r) big ↔ 10 ^ j * vV s ≤ vU r s := by
 unfold le10 vU vV
 rw [Nat.mul_left_comm, ← Nat.pow_add]
 exact ten_iff (by omega)
theorem vU_cross (r i : Nat) (s : Int) : vU r (s - i) * (vV s * 10 ^ i) = vU r s * vV (s - i) := by
 unfold vU vV
 have h1 : fmag r * 10 ^ (s - i).toNat * (big * 10 ^ (-s).toNat * 10 ^ i) = fmag r * big * (10 ^ (s - i).toNat * 10 ^ (-s).toNat * 10 ^ i) := by
  generalize 10 ^ (s - i).toNat = a
  generalize 10 ^ (-s).toNat = b
  generalize 10 ^ i = c
  grind
 have h2 : fmag r * 10 ^ s.toNat * (big * 10 ^ (-(s - i)).toNat) = fmag r * big * (10 ^ s.toNat * 10 ^ (-(s - i)).toNat) := by
  generalize 10 ^ s.toNat = a
  generalize 10 ^ (-(s - i)).toNat = b
  grind
 rw [h1, h2, ← Nat.pow_add, ← Nat.pow_add, ← Nat.pow_add]
 exact congrArg (fun k => fmag r * big * 10 ^ k) (by omega)
theorem lower_quot (r i : Nat) (s : Int) : vU r (s - i) / vV (s - i) = vU r s / vV s / 10 ^ i := by
 rw [(quot_cross (vV_pos _) (Nat.mul_pos (vV_pos s) (ten_pos i)) (vU_cross r i s)).1, Nat.div_div_eq_div_mul]
theorem lower_rest (r i half : Nat) (s : Int) (hi : 10 ^ i = 2 * half) :
  (2 * (vU r (s - i) % vV (s - i)) < vV (s - i) ↔ vU r s / vV s % 10 ^ i < half) ∧ (2 * (vU r (s - i) % vV (s - i)) = vV (s - i) ↔ vU r s / vV s % 10 ^ i = half ∧ vU r s % vV s = 0) := by
 have h := quot_cross (vV_pos _) (Nat.mul_pos (vV_pos s) (ten_pos i)) (vU_cross r i s)
 have g := unit_rest (U := vU r s) (half := half) (vV_pos s)
 rw [← hi] at g
 exact ⟨h.2.1.trans g.2.1, h.2.2.trans g.2.2⟩
def cq (r : Nat) (n : Int) (k : Nat) : Nat := vU r (k - n) / vV (k - n)
def cnear (r : Nat) (n : Int) (k : Nat) : Bool := decide (2 * (vU r (k - n) % vV (k - n)) < vV (k - n)) || (decide (2 * (vU r (k - n) % vV (k - n)) = vV (k - n)) && decide (cq r n k % 2 = 0))
def clow (r : Nat) (n : Int) (k : Nat) : Bool := decide (decR (cq r n k) (n - k) = r)
def chigh (r : Nat) (n : Int) (k : Nat) : Bool := decide (decR (cq r n k + 1) (n - k) = r)
def cnd (r : Nat) (n : Int) (k : Nat) : Option Nat :=
 if (clow r n k && (!chigh r n k || cnear r n k)) = true then some (cq r n k) else if chigh r n k = true then some (cq r n k + 1) else none
theorem cnd_none {r k : Nat} {n : Int} : cnd r n k = none ↔ clow r n k = false ∧ chigh r n k = false := by
 unfold cnd
 cases clow r n k <;> cases chigh r n k <;> cases cnear r n k <;> simp
theorem cnd_some {r k c : Nat} {n : Int} (h : cnd r n k = some c) : (c = cq r n k ∨ c = cq r n k + 1) ∧ decR c (n - k) = r := by
 unfold cnd at h
 split at h
 ·rename_i hc
  injection h with h
  subst h
  refine ⟨.inl rfl, ?_⟩
  have := (Bool.and_eq_true _ _ ▸ hc).1
  exact of_decide_eq_true this
 ·split at h
  ·rename_i hc
   injection h with h
   subst h
   exact ⟨.inr rfl, of_decide_eq_true hc⟩
  ·cases h
theorem cq_lo {r k : Nat} {n : Int} (hp : PointAt (fmag r) big n) (hk : 1 ≤ k) : 10 ^ (k - 1) ≤ cq r n k := by
 unfold cq
 rw [Nat.le_div_iff_mul_le (vV_pos _)]
 exact (le10_at (by omega)).1 hp.1
theorem cq_hi {r k : Nat} {n : Int} (hp : PointAt (fmag r) big n) : cq r n k < 10 ^ k := by
 unfold cq
 rw [Nat.div_lt_iff_lt_mul (vV_pos _)]
 exact Nat.lt_of_not_le fun h => hp.2 ((le10_at (by omega)).2 h)
theorem cq_ten (r k : Nat) (n : Int) : cq r n k = cq r n (k + 1) / 10 := by
 unfold cq
 have := lower_quot r 1 (((k + 1 : Nat) : Int) - n)
 rw [Nat.pow_one, show ((k + 1 : Nat) : Int) - n - ((1 : Nat) : Int) = (k : Int) - n by omega] at this
 exact this
theorem cnd_last {r k c : Nat} {n : Int} (hp : PointAt (fmag r) big n) (hk : 1 ≤ k) (hmin : ∀ j, 1 ≤ j → j < k → cnd r n j = none) (h : cnd r n k = some c) :
  (c % 10 ≠ 0 ∧ 10 ^ (k - 1) ≤ c ∧ c < 10 ^ k) ∨ (k = 1 ∧ c = 10) := by
 obtain ⟨hc, hd⟩ := cnd_some h
 have b1 := cq_lo (k := k) hp hk
 have b2 := cq_hi (k := k) hp
 by_cases h0 : c % 10 = 0
 ·right
  rcases Nat.lt_or_ge 1 k with h1 | h1
  ·exfalso
   obtain ⟨j, rfl⟩ : ∃ j, k = j + 1 := ⟨k - 1, by omega⟩
   have hn := cnd_none.1 (hmin j (by omega) (by omega))
   have hq := cq_ten r j n
   obtain ⟨d, rfl⟩ : ∃ d, c = d * 10 ^ 1 := ⟨c / 10, by omega⟩
   rw [decR_shift, show n - ((j + 1 : Nat) : Int) + ((1 : Nat) : Int) = n - (j : Int) by omega] at hd
   rcases hc with hc | hc
   ·have : d = cq r n j := by rw [hq]; omega
    rw [this] at hd
    have := hn.1
    unfold clow at this
    exact of_decide_eq_false this hd
   ·have : d = cq r n j + 1 := by rw [hq]; omega
    rw [this] at hd
    have := hn.2
    unfold chigh at this
    exact of_decide_eq_false this hd
  ·have hk1 : k = 1 := by omega
   subst hk1
   refine ⟨rfl, ?_⟩
   simp at b1 b2
   omega
 ·left
  refine ⟨h0, by omega, ?_⟩
  rcases hc with rfl | hc
  ·exact b2
  ·rcases Nat.lt_or_ge c (10 ^ k) with h1 | h1
   ·exact h1
   ·exfalso
    have : c = 10 ^ k := by omega
    obtain ⟨j, rfl⟩ : ∃ j, k = j + 1 := ⟨k - 1, by omega⟩
    rw [this, Nat.pow_succ] at h0
    omega
def SQ (r : Nat) (D : List Nat) (N : Int) : Prop := ∃ n k c, PointAt (fmag r) big n ∧ 1 ≤ k ∧ k ≤ 17 ∧ (∀ j, 1 ≤ j → j < k → cnd r n j = none) ∧ cnd r n k = some c ∧ D = trz (dL c) ∧ N = (dL c).length + n - k
theorem SQ.one {r : Nat} {D E : List Nat} {N M : Int} (h : SQ r D N) (g : SQ r E M) : D = E ∧ N = M := by
 obtain ⟨n, k, c, h1, h2, _, h3, h4, h5, h6⟩ := h
 obtain ⟨n', k', c', g1, g2, _, g3, g4, g5, g6⟩ := g
 have hn := point_one h1 g1
 subst hn
 have hk : k = k' := by
  rcases Nat.lt_trichotomy k k' with h | h | h
  ·rw [g3 k h2 h] at h4; cases h4
  ·exact h
  ·rw [h3 k' g2 h] at g4; cases g4
 subst hk
 rw [h4] at g4
 injection g4 with g4
 subst g4
 exact ⟨h5.trans g5.symm, h6.trans g6.symm⟩
theorem cnd_ends {r : Nat} {n : Int} (hp : PointAt (fmag r) big n) (h0 : 0 < r) (hr : r < 9218868437227405312) : cnd r n 17 ≠ none := by
 intro hn
 obtain ⟨n1, n2⟩ := cnd_none.1 hn
 have hbig : 100000000000000000 * vV (18 - n) ≤ fmag r * 10 ^ ((18 : Int) - n).toNat := (le10_at (j := 17) (s := 18 - n) (by omega)).1 hp.1
 have hB := ten_pos ((18 : Int) - n).toNat
 have hq := lower_quot r 1 (18 - n)
 rw [Nat.pow_one, show (18 : Int) - n - ((1 : Nat) : Int) = ((17 : Nat) : Int) - n by omega] at hq
 have l1 := low_iff (unit := 10) (vV_pos (18 - n)) hB h0 hr
 have l2 := high_iff (unit := 10) (vV_pos (18 - n)) hB (by omega) h0 hr
 have hH : vU r (18 - n) = fmag r * 10 ^ ((18 : Int) - n).toNat := rfl
 have sh : ∀ c, decR c (n - ((17 : Nat) : Int)) = rnd (c * 10 * vV (18 - n)) (10 ^ ((18 : Int) - n).toNat) := by
  intro c
  have e1 := decR_shift c 1 (n - 18)
  rw [Nat.pow_one, show n - 18 + ((1 : Nat) : Int) = n - ((17 : Nat) : Int) by omega] at e1
  rw [← e1, decR_big, show -(n - 18) = 18 - n by omega]
 have m1 := of_decide_eq_false n1
 have m2 := of_decide_eq_false n2
 unfold cq at m1 m2
 rw [sh, hq, hH] at m1 m2
 rcases ten_found (vV_pos (18 - n)) hB h0 hbig with h | h
 ·exact m1 (l1.2 h)
 ·exact m2 (l2.2 h)

end Go.Proofs.YtfcpkdafkmohkaaGreatDoor
namespace Go.Proofs.YtfcpkdafkmohkaaGreatDoor
def pcn (H : Nat) (ex : Bool) (L M unit : Nat) : Option Nat :=
 if L ≤ H - H % unit ∧ (¬ H - H % unit + unit ≤ M ∨ H % unit < unit / 2 ∨ (H % unit = unit / 2 ∧ ex = true ∧ (H - H % unit) / unit % 2 = 0)) then some (H - H % unit)
 else if H - H % unit + unit ≤ M then some (H - H % unit + unit) else none
theorem pcn_cnd {r k i M : Nat} {n : Int} (hk : k + i = 18) (hi : 1 ≤ i) (h0 : 0 < r) (hr : r < 9218868437227405312)
  (hM : ∀ c, c ≤ M ↔ mostLe (vV (18 - n)) (10 ^ ((18 : Int) - n).toNat) r c) :
  pcn (vU r (18 - n) / vV (18 - n)) (decide (vU r (18 - n) % vV (18 - n) = 0)) (leastOf (vV (18 - n)) (10 ^ ((18 : Int) - n).toNat) r) M (10 ^ i) = (cnd r n k).map (· * 10 ^ i) := by
 have hB := ten_pos ((18 : Int) - n).toNat
 have hu := ten_pos i
 obtain ⟨half, hh⟩ : ∃ half, 10 ^ i = 2 * half := ⟨5 * 10 ^ (i - 1), by
  obtain ⟨j, rfl⟩ : ∃ j, i = j + 1 := ⟨i - 1, by omega⟩
  rw [Nat.pow_succ, Nat.add_sub_cancel]
  omega⟩
 have hs : (18 : Int) - n - (i : Int) = (k : Int) - n := by omega
 have hq := lower_quot r i (18 - n)
 have hl := lower_rest r i half (18 - n) hh
 rw [hs] at hq hl
 have l1 := low_iff (unit := 10 ^ i) (vV_pos (18 - n)) hB h0 hr
 have l2 := high_iff (unit := 10 ^ i) (vV_pos (18 - n)) hB hu h0 hr
 rw [show fmag r * 10 ^ ((18 : Int) - n).toNat = vU r (18 - n) from rfl] at l1 l2
 have sh : ∀ c, decR c (n - (k : Int)) = rnd (c * 10 ^ i * vV (18 - n)) (10 ^ ((18 : Int) - n).toNat) := by
  intro c
  have e1 := decR_shift c i (n - 18)
  rw [show n - 18 + (i : Int) = n - (k : Int) by omega] at e1
  rw [← e1, decR_big, show -(n - 18) = 18 - n by omega]
 have hcq : cq r n k = vU r (18 - n) / vV (18 - n) / 10 ^ i := hq
 generalize hH : vU r (18 - n) / vV (18 - n) = H at *
 have hdn : H - H % 10 ^ i = H / 10 ^ i * 10 ^ i := by
  have := Nat.div_add_mod H (10 ^ i)
  rw [Nat.mul_comm] at this
  omega
 have hup : H / 10 ^ i * 10 ^ i + 10 ^ i = (H / 10 ^ i + 1) * 10 ^ i := by rw [Nat.add_mul, Nat.one_mul]
 have ta : leastOf (vV (18 - n)) (10 ^ ((18 : Int) - n).toNat) r ≤ H / 10 ^ i * 10 ^ i ↔ clow r n k = true := by
  rw [← l1]
  unfold clow
  rw [decide_eq_true_iff, hcq, sh]
 have tb : H / 10 ^ i * 10 ^ i + 10 ^ i ≤ M ↔ chigh r n k = true := by
  rw [hM, hup, ← l2]
  unfold chigh
  rw [decide_eq_true_iff, hcq, sh]
 have tc : (H % 10 ^ i < 10 ^ i / 2 ∨ (H % 10 ^ i = 10 ^ i / 2 ∧ decide (vU r (18 - n) % vV (18 - n) = 0) = true ∧ H / 10 ^ i * 10 ^ i / 10 ^ i % 2 = 0)) ↔ cnear r n k = true := by
  unfold cnear
  rw [Bool.or_eq_true, Bool.and_eq_true, decide_eq_true_iff, decide_eq_true_iff, decide_eq_true_iff, decide_eq_true_iff, hl.1, hl.2, hcq, Nat.mul_div_cancel _ hu, show 10 ^ i / 2 = half by omega]
  constructor
  ·rintro (h | ⟨a, b, c⟩)
   ·exact .inl h
   ·exact .inr ⟨⟨a, b⟩, c⟩
  ·rintro (h | ⟨⟨a, b⟩, c⟩)
   ·exact .inl h
   ·exact .inr ⟨a, b, c⟩
 unfold pcn cnd
 rw [hdn, hcq]
 by_cases h1 : clow r n k = true <;> by_cases h2 : chigh r n k = true <;> by_cases h3 : cnear r n k = true
 all_goals
  simp only [ta, tb, tc, h1, h2, h3]
  simp [Nat.add_mul]
theorem rnd_above {r s u : Nat} (hr : r < 9218868437227405312) (hrs : r < s) (h : fmag s ≤ u) : rnd u 1 ≠ r := by
 rcases Nat.lt_or_ge s 9218868437227405312 with hs | hs
 ·have h1 := rnd_own (v := 1) (by omega) hs
  have h2 := rnd_mono (u := fmag s * 1) (v := 1) (u' := u) (v' := 1) (by omega) (by omega) (by omega)
  omega
 ·have hf : fmag 9218868437227405312 ≤ fmag s := by
   rcases Nat.eq_or_lt_of_le hs with e | e
   ·rw [← e]; exact Nat.le_refl _
   ·exact Nat.le_of_lt (fmag_lt.2 e)
  have := rnd_top (u := u) (v := 1) (by omega) (by rw [Nat.mul_one]; exact Nat.le_trans hf h)
  omega
theorem rnd_below {r s u : Nat} (hr : r < 9218868437227405312) (hrs : s < r) (h : u ≤ fmag s) : rnd u 1 ≠ r := by
 have h1 := rnd_own (v := 1) (r := s) (by omega) (by omega)
 have h2 := rnd_mono (u := u) (v := 1) (u' := fmag s * 1) (v' := 1) (by omega) (by omega) (by omega)
 omega
theorem strip_tens {N : Nat} (h : 0 < N) : ∃ c j, N = c * 10 ^ j ∧ c % 10 ≠ 0 := by
 induction N using Nat.strongRecOn with
 | _ N ih =>
  by_cases h0 : N % 10 = 0
  ·obtain ⟨c, j, h1, h2⟩ := ih (N / 10) (by omega) (by omega)
   refine ⟨c, j + 1, ?_, h2⟩
   rw [Nat.pow_succ, ← Nat.mul_assoc, ← h1]
   omega
  ·exact ⟨N, 0, by simp, h0⟩
theorem sq_whole {r N : Nat} (h0 : 0 < N) (hN : N < 9007199254740992) (hr : r < 9218868437227405312) (hm : fmag r = N * big) : SQ r (trz (dL N)) (dL N).length := by
 obtain ⟨K, hK, hbig⟩ := big_K
 obtain ⟨c, j, e, hc⟩ := strip_tens h0
 have hc0 : 0 < c := by omega
 have hlen : (dL N).length = (dL c).length + j := by rw [e, dL_zeros hc0, List.length_append, List.length_replicate]
 obtain ⟨k, hk⟩ : ∃ k, (dL c).length = k := ⟨_, rfl⟩
 have hk1 : 1 ≤ k := by rw [← hk]; exact dL_pos c
 have hl1 := dL_lt N
 have hl2 := dL_ge h0
 rw [hlen, hk] at hl1 hl2
 have hle : k + j ≤ 16 := by
  have h3 : 10 ^ (k + j - 1) < 10 ^ 16 := Nat.lt_of_le_of_lt hl2 (by omega)
  have := ten_lt h3
  omega
 have hq : ∀ i : Nat, i ≤ k + j → cq r ((k + j : Nat) : Int) i = N / 10 ^ (k + j - i) ∧ vU r ((i : Int) - ((k + j : Nat) : Int)) % vV ((i : Int) - ((k + j : Nat) : Int)) = big * (N % 10 ^ (k + j - i)) := by
  intro i hi
  unfold cq vU vV
  rw [show ((i : Int) - ((k + j : Nat) : Int)).toNat = 0 by omega, show (-((i : Int) - ((k + j : Nat) : Int))).toNat = k + j - i by omega, Nat.pow_zero, Nat.mul_one, hm, Nat.mul_comm N]
  exact ⟨Nat.mul_div_mul_left _ _ big_pos, Nat.mul_mod_mul_left _ _ _⟩
 have sh : ∀ d i : Nat, i ≤ k + j → decR d (((k + j : Nat) : Int) - (i : Int)) = rnd (d * 10 ^ (k + j - i) * big) 1 := by
  intro d i hi
  rw [decR_big]
  unfold vV
  rw [show (-(-(((k + j : Nat) : Int) - (i : Int)))).toNat = k + j - i by omega, show (-(((k + j : Nat) : Int) - (i : Int))).toNat = 0 by omega, Nat.pow_zero, Nat.mul_comm big, ← Nat.mul_assoc]
 have hNk : N / 10 ^ j = c := by rw [e]; exact Nat.mul_div_cancel _ (ten_pos j)
 have hNr : N % 10 ^ j = 0 := by rw [e]; exact Nat.mul_mod_left _ _
 have hqk := hq k (by omega)
 rw [show k + j - k = j by omega, hNk, hNr, Nat.mul_zero] at hqk
 have hlow : clow r ((k + j : Nat) : Int) k = true := by
  unfold clow
  rw [decide_eq_true_iff, hqk.1, sh c k (by omega), show k + j - k = j by omega, ← e, ← hm, ← Nat.mul_one (fmag r)]
  exact rnd_own (by omega) hr
 have hnear : cnear r ((k + j : Nat) : Int) k = true := by
  unfold cnear
  rw [hqk.2, Nat.mul_zero, decide_eq_true (vV_pos _), Bool.true_or]
 refine ⟨((k + j : Nat) : Int), k, c, ⟨?_, ?_⟩, hk1, by omega, ?_, ?_, by rw [e, dL_trz hc, dL_last hc], by omega⟩
 ·unfold le10
  rw [show (((k + j : Nat) : Int) - 1).toNat = k + j - 1 by omega, show (-(((k + j : Nat) : Int) - 1)).toNat = 0 by omega, Nat.pow_zero, Nat.mul_one, hm, Nat.mul_comm N]
  exact Nat.mul_le_mul_left _ hl2
 ·unfold le10
  rw [show (((k + j : Nat) : Int)).toNat = k + j by omega, show (-(((k + j : Nat) : Int))).toNat = 0 by omega, Nat.pow_zero, Nat.mul_one, hm, Nat.mul_comm N]
  intro h
  have := Nat.le_of_mul_le_mul_left h big_pos
  omega
 ·intro i hi1 hi2
  rw [cnd_none]
  have hqi := (hq i (by omega)).1
  obtain ⟨d, hd⟩ : ∃ d, k + j - i = j + 1 + d := ⟨k - 1 - i, by omega⟩
  rw [hd] at hqi
  have hne : N % 10 ^ (j + 1 + d) ≠ 0 := by
   intro h
   have h1 : 10 ^ (j + 1) ∣ N := Nat.dvd_trans ⟨10 ^ d, by rw [Nat.pow_add]⟩ (Nat.dvd_of_mod_eq_zero h)
   obtain ⟨f, hf⟩ := h1
   rw [e, Nat.pow_succ, Nat.mul_comm c, Nat.mul_assoc] at hf
   have := Nat.eq_of_mul_eq_mul_left (ten_pos j) hf
   omega
  have hdm := Nat.div_add_mod N (10 ^ (j + 1 + d))
  have hml := Nat.mod_lt N (ten_pos (j + 1 + d))
  constructor
  ·unfold clow
   rw [decide_eq_false_iff_not, hqi, sh _ i (by omega), hd]
   have hW : N / 10 ^ (j + 1 + d) * 10 ^ (j + 1 + d) ≤ N - 1 := by
    rw [Nat.mul_comm]
    omega
   obtain ⟨f1, f2⟩ := fmag_fl (N := N - 1) (by omega) hK
   rw [← hbig] at f1
   refine rnd_below (s := fl (N - 1)) hr (fmag_lt.1 ?_) ?_
   ·rw [f1, hm]
    exact Nat.mul_lt_mul_of_pos_right (by omega) big_pos
   ·rw [f1]
    exact Nat.mul_le_mul_right _ hW
  ·unfold chigh
   rw [decide_eq_false_iff_not, hqi, sh _ i (by omega), hd]
   have hW : N + 1 ≤ (N / 10 ^ (j + 1 + d) + 1) * 10 ^ (j + 1 + d) := by
    rw [Nat.add_mul, Nat.one_mul, Nat.mul_comm]
    omega
   obtain ⟨s, hs⟩ : ∃ s, fmag s = (N + 1) * big := by
    rcases Nat.lt_or_ge (N + 1) 9007199254740992 with h | h
    ·exact rep_of (j := K) (by rw [hbig]) h
    ·have : N + 1 = 9007199254740992 := by omega
     rw [this]
     refine rep_of (M := 1) (j := 53 + K) ?_ (by omega)
     rw [hbig, Nat.pow_add, Nat.one_mul]
   refine rnd_above (s := s) hr (fmag_lt.1 ?_) ?_
   ·rw [hs, hm]
    exact Nat.mul_lt_mul_of_pos_right (by omega) big_pos
   ·rw [hs]
    exact Nat.mul_le_mul_right _ hW
 ·unfold cnd
  rw [hlow, hnear, hqk.1]
  simp

end Go.Proofs.YtfcpkdafkmohkaaGreatDoor
namespace Go.Proofs.YtfcpkdafkmohkaaGreatDoor
def PartIs (r m : Nat) (two : Int) : Prop := ∃ c D k : Nat, r = D * 4503599627370496 + c ∧ c < 9007199254740992 ∧ (D = 0 ∨ 4503599627370496 ≤ c) ∧ c = m * 2 ^ k ∧ two = (D : Int) - 1074 + k ∧ m % 2 = 1 ∧ D ≤ 2045 ∧ k ≤ 52
theorem bln_of {m L : Nat} (h1 : 2 ^ L ≤ m) (h2 : m < 2 ^ (L + 1)) : bln m = L + 1 := by
 have h0 : 0 < m := Nat.lt_of_lt_of_le (two_pos L) h1
 obtain ⟨b1, b2, b3⟩ := bln_bounds h0
 have c1 : L < bln m := (Nat.pow_lt_pow_iff_right (by omega)).1 (Nat.lt_of_le_of_lt h1 b2)
 have c2 : bln m - 1 < L + 1 := (Nat.pow_lt_pow_iff_right (a := 2) (by omega)).1 (Nat.lt_of_le_of_lt b1 h2)
 omega
theorem bln_shift {m k : Nat} (h0 : 0 < m) : bln (m * 2 ^ k) = bln m + k := by
 obtain ⟨b1, b2, b3⟩ := bln_bounds h0
 obtain ⟨L, hL⟩ : ∃ L, bln m = L + 1 := ⟨bln m - 1, by omega⟩
 rw [hL] at b1 b2
 rw [hL, bln_of (L := L + k)]
 ·omega
 ·rw [Nat.pow_add]
  exact Nat.mul_le_mul_right _ b1
 ·rw [show L + k + 1 = L + 1 + k by omega, Nat.pow_add]
  exact Nat.mul_lt_mul_of_pos_right b2 (two_pos k)
theorem PartIs.mag {r m : Nat} {two : Int} (h : PartIs r m two) {K : Nat} (hK : K = 1074) : ∃ t : Nat, (t : Int) = two + K ∧ fmag r = m * 2 ^ t := by
 obtain ⟨c, D, k, h1, h2, h3, h4, h5, h6, _, _⟩ := h
 obtain ⟨D', c', e1, e2, e3, e4, e5⟩ := rung_parts r
 have hD : D' = D ∧ c' = c := by
  rcases h3 with h3 | h3 <;> rcases e3 with e3 | e3 <;> omega
 obtain ⟨rfl, rfl⟩ := hD
 refine ⟨k + D', by omega, ?_⟩
 rw [e4, h4, Nat.mul_assoc, ← Nat.pow_add]
theorem PartIs.pos {r m : Nat} {two : Int} (h : PartIs r m two) : 0 < m ∧ bln m ≤ 53 ∧ -1074 < (bln m : Int) + two ∧ (bln m : Int) + two ≤ 1024 ∧ -1074 ≤ two ∧ two ≤ 1023 := by
 obtain ⟨c, D, k, h1, h2, h3, h4, h5, h6, h7, h8⟩ := h
 have h0 : 0 < m := by omega
 have hb := bln_shift (k := k) h0
 rw [← h4] at hb
 have hc : 0 < c := by rw [h4]; exact Nat.mul_pos h0 (two_pos k)
 obtain ⟨b1, b2, b3⟩ := bln_bounds hc
 obtain ⟨_, _, b6⟩ := bln_bounds h0
 have : bln c ≤ 53 := bln_le (by omega)
 omega
theorem vcross {r m : Nat} {two : Int} (h : PartIs r m two) : m * 2 ^ two.toNat * big = fmag r * 2 ^ (-two).toNat := by
 obtain ⟨K, hK, hb⟩ := big_K
 obtain ⟨t, ht, hm⟩ := h.mag hK
 rw [hm, hb, Nat.mul_assoc, Nat.mul_assoc, ← Nat.pow_add, ← Nat.pow_add]
 exact congrArg (fun k => m * 2 ^ k) (by omega)
theorem point_cross {u v u' v' : Nat} {n : Int} (hv : 0 < v) (hv' : 0 < v') (h : u * v' = u' * v) (hp : PointAt u v n) : PointAt u' v' n :=
 ⟨le10_mono hv (Nat.le_of_eq h) hp.1, fun g => hp.2 (le10_mono hv' (Nat.le_of_eq h.symm) g)⟩
theorem here_cross {r m c D k : Nat} {s : Int} {K : Nat} (hK : K = 1074) (h1 : r = D * 4503599627370496 + c) (h2 : c < 9007199254740992) (h3 : D = 0 ∨ 4503599627370496 ≤ c) (h4 : c = m * 2 ^ k) :
  scA (m * 2 ^ (k + 2)) ((D : Int) - 1076) s * vV s = vU r s * scB ((D : Int) - 1076) s := by
 obtain ⟨K', hK', hb⟩ := big_K
 have : K' = K := by omega
 subst this
 obtain ⟨D', c', e1, e2, e3, e4, e5⟩ := rung_parts r
 have hD : D' = D ∧ c' = c := by
  rcases h3 with h3 | h3 <;> rcases e3 with e3 | e3 <;> omega
 obtain ⟨rfl, rfl⟩ := hD
 unfold vV vU
 rw [hb]
 refine sc_cross (x := D') (y := 2) (by omega) ?_
 rw [e4, h4, Nat.pow_add]
 generalize 2 ^ D' = X
 generalize 2 ^ k = Y
 grind
theorem end_cross {N S D : Nat} {s : Int} {K : Nat} (hK : K = 1074) (h : 2 * S = N * 2 ^ D) : scA N ((D : Int) - 1076) s * (2 * vV s) = S * 10 ^ s.toNat * scB ((D : Int) - 1076) s := by
 obtain ⟨K', hK', hb⟩ := big_K
 have : K' = K := by omega
 subst this
 unfold vV
 rw [hb, show 2 * (2 ^ K' * 10 ^ (-s).toNat) = 2 ^ (K' + 1) * 10 ^ (-s).toNat from by rw [Nat.pow_succ]; grind]
 exact sc_cross (x := D) (y := 1) (by omega) (by rw [Nat.pow_one]; omega)
theorem here_lt {r : Nat} {n : Int} (hp : PointAt (fmag r) big n) : vU r (18 - n) / vV (18 - n) < 1000000000000000000 ∧ 100000000000000000 ≤ vU r (18 - n) / vV (18 - n) := by
 have h := cq_hi (k := 18) hp
 have g := cq_lo (k := 18) hp (by omega)
 exact ⟨h, g⟩
theorem next_le {r : Nat} (h0 : 0 < r) : fmag (r + 1) ≤ 2 * fmag r := by
 obtain ⟨D, c, e1, e2, e3, e4, e5⟩ := rung_parts r
 have hc : 1 ≤ c := by
  rcases e3 with e3 | e3
  ·subst e3; omega
  ·omega
 rw [e4, e5, ← Nat.mul_assoc]
 exact Nat.mul_le_mul_right _ (by omega)
theorem most_lt {r : Nat} {n : Int} (h0 : 0 < r) (hp : PointAt (fmag r) big n) : (fmag r + fmag (r + 1)) * 10 ^ ((18 : Int) - n).toNat / (2 * vV (18 - n)) < 2000000000000000000 ∧ 0 < (fmag r + fmag (r + 1)) * 10 ^ ((18 : Int) - n).toNat / (2 * vV (18 - n)) := by
 obtain ⟨h1, h2⟩ := here_lt hp
 have hv := vV_pos (18 - n)
 rw [Nat.div_lt_iff_lt_mul hv] at h1
 rw [Nat.le_div_iff_mul_le hv] at h2
 have h3 := next_le h0
 unfold vU at h1 h2
 have hup : fmag r < fmag (r + 1) := fmag_step (by omega)
 generalize 10 ^ ((18 : Int) - n).toNat = B at *
 generalize vV (18 - n) = V at *
 generalize fmag r = f at *
 generalize fmag (r + 1) = g at *
 have h4 : g * B ≤ 2 * (f * B) := by rw [← Nat.mul_assoc]; exact Nat.mul_le_mul_right _ h3
 have h5 : f * B ≤ g * B := Nat.mul_le_mul_right _ (by omega)
 constructor
 ·rw [Nat.div_lt_iff_lt_mul (by omega), Nat.add_mul]
  omega
 ·rw [Nat.div_pos_iff, Nat.add_mul]
  omega
theorem least_lt {r : Nat} {n : Int} (h0 : 0 < r) (hp : PointAt (fmag r) big n) : (fmag (r - 1) + fmag r) * 10 ^ ((18 : Int) - n).toNat / (2 * vV (18 - n)) < 1000000000000000000 := by
 obtain ⟨h1, h2⟩ := here_lt hp
 have hv := vV_pos (18 - n)
 rw [Nat.div_lt_iff_lt_mul hv] at h1
 unfold vU at h1
 have hup : fmag (r - 1) < fmag r := fmag_step (by omega)
 generalize 10 ^ ((18 : Int) - n).toNat = B at *
 generalize vV (18 - n) = V at *
 generalize fmag r = f at *
 generalize fmag (r - 1) = g at *
 have h5 : g * B ≤ f * B := Nat.mul_le_mul_right _ (by omega)
 rw [Nat.div_lt_iff_lt_mul (by omega), Nat.add_mul]
 omega

end Go.Proofs.YtfcpkdafkmohkaaGreatDoor
namespace Go.Proofs.YtfcpkdafkmohkaaGreatDoor
open Go.RowKit
theorem results_cell_one {fn : Func} {p : Tmp} {ty : TypeId} (h : fn.results = #[.cell p ty]) (tmps : Array Value) (P : Program) (w : World) (a : Addr) (v : Value) (ha : tmps.getD p undef = .pointer (some a)) (hl : (loadVar ty a).run P w = .ok v w) : (results fn tmps).run P w = .ok v w := by
 simp only [results, h]
 simp [-Array.getD_eq_getD_getElem?, ha, asAddr, hl]
def Rv (w : World) (g : Nat) (a : Array Value) : Prop := w.heap[g]? = some (.cells a 91 (0, 0))
def zq : Array Value := #[.int .u64 0, .bool false, .int .u64 0, .int .u64 0]
set_option maxRecDepth 100000 in
set_option maxHeartbeats 3000000 in
theorem tspan_one {w : World} {A : Option Addr} {n c m bt bw q H L M : Nat} {two ten x1 x2 last x3 x4 x5 bI : Int} {hE lE mE ev : Bool} (hA : NV w A n c m)
    (C1 : Hid (∀ W, NV W A n c m → Cq 156 #[.slice A n c] (.int .i64 (bt : Nat)) W))
    (C2 : Hid (∀ W, NV W A n c m → Cp 157 #[.slice A n c, .int .i64 x4] W (NOk q W)))
    (C3 : Hid (∀ W, Cp 110 #[.int .u64 bI] W (NRet bw W)))
    (C4 : Hid (∀ W A1 n1 c1 A2 n2 c2, NV W A1 n1 c1 q → NV W A2 n2 c2 bw → Cp 158 #[.slice A1 n1 c1, .slice A2 n2 c2] W (NOk (q - bw) W)))
    (C5 : Hid (∀ W, Cp 110 #[.int .u64 2] W (NRet 2 W)))
    (C6 : Hid (∀ W A1 n1 c1 A2 n2 c2, NV W A1 n1 c1 q → NV W A2 n2 c2 2 → Cp 124 #[.slice A1 n1 c1, .slice A2 n2 c2] W (NOk (q + 2) W)))
    (S1 : Hid (∀ W A1 n1 c1, NV W A1 n1 c1 q → Cp 123 #[.slice A1 n1 c1, .int .i64 x5, .int .i64 ten] W fun e w' => ∃ A3 n3 c3, e = .returned (.tuple #[.slice A3 n3 c3, .bool hE]) ∧ NV w' A3 n3 c3 H ∧ Below W.heap.size W w'))
    (S2 : Hid (∀ W A1 n1 c1, NV W A1 n1 c1 (q - bw) → Cp 123 #[.slice A1 n1 c1, .int .i64 x5, .int .i64 ten] W fun e w' => ∃ A3 n3 c3, e = .returned (.tuple #[.slice A3 n3 c3, .bool lE]) ∧ NV w' A3 n3 c3 L ∧ Below W.heap.size W w'))
    (S3 : Hid (∀ W A1 n1 c1, NV W A1 n1 c1 (q + 2) → Cp 123 #[.slice A1 n1 c1, .int .i64 x5, .int .i64 ten] W fun e w' => ∃ A3 n3 c3, e = .returned (.tuple #[.slice A3 n3 c3, .bool mE]) ∧ NV w' A3 n3 c3 M ∧ Below W.heap.size W w'))
    (hH : H < 18446744073709551616) (hL : L < 9223372036854775808) (hM : M < 9223372036854775808) (hM0 : 0 < M)
    (k1 : wrap64 ((bt : Int) + two) = x1) (k2 : wrap64 (x1 - 53) = x2) (hmax : max x2 (-1074) = last) (k3 : wrap64 (two - last) = x3) (k4 : wrap64 (x3 + 2) = x4) (k5 : wrap64 (last - 2) = x5)
    (hb : bt = 1 ∧ -1074 < last ∧ bI = 1) (hev : decide (last < two) = ev) :
    Ct 95 #[.slice A n c, .int .i64 two, .int .i64 ten] (.agg #[.int .u64 (H : Nat), .bool hE, .int .u64 ((if lE = true ∧ ev = true then L else L + 1 : Nat) : Nat), .int .u64 ((if mE = true ∧ ev = false then M - 1 else M : Nat) : Nat)]) w := by
  have W1 := Lib.hid (fun W A1 n1 c1 (h : NV W A1 n1 c1 H) => tword_any h hH)
  have W2 := Lib.hid (fun W A1 n1 c1 (h : NV W A1 n1 c1 L) => tword_any h (by omega))
  have W3 := Lib.hid (fun W A1 n1 c1 (h : NV W A1 n1 c1 M) => tword_any h (by omega))
  have HA := Lib.hid hA
  have HEV := Lib.hid hev
  have l1 : (L : Int) < 9223372036854775808 := by omega
  have l2 : (M : Int) < 9223372036854775808 := by omega
  have l3 : (0 : Int) < (M : Int) := by omega
  clear hA hH hL hM hM0 hev
  obtain ⟨hbt, hl, rfl⟩ := hb
  all_goals
    first | have tb : ((bt : Int) == 1) = false := by rw [beq_eq_false_iff_ne]; omega
          | have tb : ((bt : Int) == 1) = true := by rw [beq_iff_eq]; omega
    clear hbt
    have HA := Lib.hid (HA.out.step (show Below w.heap.size w (w.alloc (.cells zq 91)) from (Below.refl _ _).alloc (Nat.le_refl _) _))
    have B0 := Lib.hid (show Below w.heap.size w (w.alloc (.cells zq 91)) from (Below.refl _ _).alloc (Nat.le_refl _) _)
    have R0 := Lib.hid (show Rv (w.alloc (.cells zq 91)) w.heap.size zq from heap_alloc_last w _)
    have S0 := Lib.hid (show w.heap.size < (w.alloc (.cells zq 91)).heap.size from by simp)
    unfold zq at HA B0 R0 S0
    go_enter Tryz.func95, Tryz.ntmps95
    go_wp2_with fail
    generalize w.alloc (.cells #[.int .u64 0, .bool false, .int .u64 0, .int .u64 0] 91) = w0 at *
    refine (C1.out _ HA.out).mono ?_
    rintro e w' ⟨rfl, rfl⟩
    go_wp2_with fail
    refine (C2.out _ HA.out).mono ?_
    rintro e w1 ⟨A1, n1, c1, rfl, g1, b1⟩
    have G1 := Lib.hid g1
    have G0 := Lib.hid (HA.out.step b1)
    have B1 := Lib.hid (b1)
    clear g1 b1 hmax k1 k2 k3 k4
    go_wp2_with fail
    refine (C1.out _ G0.out).mono ?_
    rintro e w' ⟨rfl, rfl⟩
    go_wp2_with fail
    refine (C3.out _).mono ?_
    rintro e w2 ⟨A2, n2, c2, rfl, g2, b2⟩
    have G2 := Lib.hid g2
    have G1 := Lib.hid (G1.out.step b2)
    have B2 := Lib.hid (below_le B1.out b2)
    clear g2 b2
    go_wp2_with fail
    refine (C4.out _ _ _ _ _ _ _ G1.out G2.out).mono ?_
    rintro e w3 ⟨A3, n3, c3, rfl, g3, b3⟩
    have G3 := Lib.hid g3
    have G1 := Lib.hid (G1.out.step b3)
    have B3 := Lib.hid (below_le B2.out b3)
    clear g3 b3
    go_wp2_with fail
    refine (C5.out _).mono ?_
    rintro e w4 ⟨A4, n4, c4, rfl, g4, b4⟩
    have G4 := Lib.hid g4
    have G1 := Lib.hid (G1.out.step b4)
    have G3 := Lib.hid (G3.out.step b4)
    have B4 := Lib.hid (below_le B3.out b4)
    clear g4 b4
    go_wp2_with fail
    refine (C6.out _ _ _ _ _ _ _ G1.out G4.out).mono ?_
    rintro e w5 ⟨A5, n5, c5, rfl, g5, b5⟩
    have G5 := Lib.hid g5
    have G1 := Lib.hid (G1.out.step b5)
    have G3 := Lib.hid (G3.out.step b5)
    have B5 := Lib.hid (below_le B4.out b5)
    clear g5 b5
    go_wp2_with fail
    refine (S1.out _ _ _ _ G1.out).mono ?_
    rintro e w6 ⟨A6, n6, c6, rfl, g6, b6⟩
    have G6 := Lib.hid g6
    have G5 := Lib.hid (G5.out.step b6)
    have G3 := Lib.hid (G3.out.step b6)
    have B6 := Lib.hid (below_le B5.out b6)
    clear g6 b6
    go_wp2_with fail
    refine (S2.out _ _ _ _ G3.out).mono ?_
    rintro e w7 ⟨A7, n7, c7, rfl, g7, b7⟩
    have G7 := Lib.hid g7
    have G5 := Lib.hid (G5.out.step b7)
    have G6 := Lib.hid (G6.out.step b7)
    have B7 := Lib.hid (below_le B6.out b7)
    clear g7 b7
    go_wp2_with fail
    refine (S3.out _ _ _ _ G5.out).mono ?_
    rintro e w8 ⟨A8, n8, c8, rfl, g8, b8⟩
    have G8 := Lib.hid g8
    have G7 := Lib.hid (G7.out.step b8)
    have G6 := Lib.hid (G6.out.step b8)
    have B8 := Lib.hid (below_le B7.out b8)
    clear g8 b8 C1 C2 C3 C4 C5 C6 S1 S2 S3
    go_wp2_with fail
    refine (W1.out _ _ _ _ G6.out).mono ?_
    rintro e w' ⟨rfl, rfl⟩
    go_wp2_with fail
    refine (W2.out _ _ _ _ G7.out).mono ?_
    rintro e w' ⟨rfl, rfl⟩
    go_wp2_with fail
    refine (W3.out _ _ _ _ G8.out).mono ?_
    rintro e w' ⟨rfl, rfl⟩
    have HG := Lib.hid (fun c' => show (w8.alloc (.cells c' 91)).heap[w.heap.size]? = some (.cells #[.int .u64 0, .bool false, .int .u64 0, .int .u64 0] 91 (0, 0)) from by
      have hlt : w.heap.size < w8.heap.size := Nat.lt_of_lt_of_le S0.out B8.out.size
      have b1 : Below w8.heap.size w8 (w8.alloc (.cells c' 91)) := (Below.refl _ _).alloc (Nat.le_refl _) _
      exact (b1.block _ hlt).trans ((B8.out.block _ S0.out).trans R0.out))
    have HB := Lib.hid (fun c' => show Below w.heap.size w (w8.alloc (.cells c' 91)) from by
      have b2 := below_le B0.out B8.out
      exact b2.alloc b2.size _)
    have he := HEV.out
    have hL1 : IntKind.u64.wrap ((L : Int) + 1) = ((L + 1 : Nat) : Int) := by rw [IntKind.wrap_u64]; omega
    have hM1 : IntKind.u64.wrap ((M : Int) - 1) = ((M - 1 : Nat) : Int) := by rw [IntKind.wrap_u64]; omega
    clear W1 W2 W3 G6 G7 G8 k5 HA HEV
    first | clear hl | skip
    clear tb l1 l2 l3 B0 B1 B2 B3 B4 B5 B6 B7 B8 S0 R0 G1 G5 G3 G0
    cases ev <;> cases lE <;> cases mE
    all_goals
      go_wp2_with (first | (refine wpList_store_row rfl 91 _ _ rfl w.heap.size _ rfl rfl 91 #[.int .u64 0, .bool false, .int .u64 0, .int .u64 0] (HG.out _) (by first | kernel_rfl | rfl) rfl (by first | kernel_rfl | rfl) ?_))
    all_goals
      exact bodyPost_ret (results_cell_one rfl _ _ _ _ _ rfl (run_loadVar_row _ w.heap.size 91 91 _ (0, 0) _ (setRow_heap _ _ _ _ _ _ (HG.out _)) Tryz.underlying91 rfl (by first | kernel_rfl | rfl))) rfl ⟨rfl, below_setRow' (HB.out _) (Nat.le_refl _) _⟩
set_option maxRecDepth 100000 in
set_option maxHeartbeats 3000000 in
theorem tspan_more {w : World} {A : Option Addr} {n c m bt bw q H L M : Nat} {two ten x1 x2 last x3 x4 x5 bI : Int} {hE lE mE ev : Bool} (hA : NV w A n c m)
    (C1 : Hid (∀ W, NV W A n c m → Cq 156 #[.slice A n c] (.int .i64 (bt : Nat)) W))
    (C2 : Hid (∀ W, NV W A n c m → Cp 157 #[.slice A n c, .int .i64 x4] W (NOk q W)))
    (C3 : Hid (∀ W, Cp 110 #[.int .u64 bI] W (NRet bw W)))
    (C4 : Hid (∀ W A1 n1 c1 A2 n2 c2, NV W A1 n1 c1 q → NV W A2 n2 c2 bw → Cp 158 #[.slice A1 n1 c1, .slice A2 n2 c2] W (NOk (q - bw) W)))
    (C5 : Hid (∀ W, Cp 110 #[.int .u64 2] W (NRet 2 W)))
    (C6 : Hid (∀ W A1 n1 c1 A2 n2 c2, NV W A1 n1 c1 q → NV W A2 n2 c2 2 → Cp 124 #[.slice A1 n1 c1, .slice A2 n2 c2] W (NOk (q + 2) W)))
    (S1 : Hid (∀ W A1 n1 c1, NV W A1 n1 c1 q → Cp 123 #[.slice A1 n1 c1, .int .i64 x5, .int .i64 ten] W fun e w' => ∃ A3 n3 c3, e = .returned (.tuple #[.slice A3 n3 c3, .bool hE]) ∧ NV w' A3 n3 c3 H ∧ Below W.heap.size W w'))
    (S2 : Hid (∀ W A1 n1 c1, NV W A1 n1 c1 (q - bw) → Cp 123 #[.slice A1 n1 c1, .int .i64 x5, .int .i64 ten] W fun e w' => ∃ A3 n3 c3, e = .returned (.tuple #[.slice A3 n3 c3, .bool lE]) ∧ NV w' A3 n3 c3 L ∧ Below W.heap.size W w'))
    (S3 : Hid (∀ W A1 n1 c1, NV W A1 n1 c1 (q + 2) → Cp 123 #[.slice A1 n1 c1, .int .i64 x5, .int .i64 ten] W fun e w' => ∃ A3 n3 c3, e = .returned (.tuple #[.slice A3 n3 c3, .bool mE]) ∧ NV w' A3 n3 c3 M ∧ Below W.heap.size W w'))
    (hH : H < 18446744073709551616) (hL : L < 9223372036854775808) (hM : M < 9223372036854775808) (hM0 : 0 < M)
    (k1 : wrap64 ((bt : Int) + two) = x1) (k2 : wrap64 (x1 - 53) = x2) (hmax : max x2 (-1074) = last) (k3 : wrap64 (two - last) = x3) (k4 : wrap64 (x3 + 2) = x4) (k5 : wrap64 (last - 2) = x5)
    (hb : bt ≠ 1 ∧ bI = 2) (hev : decide (last < two) = ev) :
    Ct 95 #[.slice A n c, .int .i64 two, .int .i64 ten] (.agg #[.int .u64 (H : Nat), .bool hE, .int .u64 ((if lE = true ∧ ev = true then L else L + 1 : Nat) : Nat), .int .u64 ((if mE = true ∧ ev = false then M - 1 else M : Nat) : Nat)]) w := by
  have W1 := Lib.hid (fun W A1 n1 c1 (h : NV W A1 n1 c1 H) => tword_any h hH)
  have W2 := Lib.hid (fun W A1 n1 c1 (h : NV W A1 n1 c1 L) => tword_any h (by omega))
  have W3 := Lib.hid (fun W A1 n1 c1 (h : NV W A1 n1 c1 M) => tword_any h (by omega))
  have HA := Lib.hid hA
  have HEV := Lib.hid hev
  have l1 : (L : Int) < 9223372036854775808 := by omega
  have l2 : (M : Int) < 9223372036854775808 := by omega
  have l3 : (0 : Int) < (M : Int) := by omega
  clear hA hH hL hM hM0 hev
  obtain ⟨hbt, rfl⟩ := hb
  all_goals
    first | have tb : ((bt : Int) == 1) = false := by rw [beq_eq_false_iff_ne]; omega
          | have tb : ((bt : Int) == 1) = true := by rw [beq_iff_eq]; omega
    clear hbt
    have HA := Lib.hid (HA.out.step (show Below w.heap.size w (w.alloc (.cells zq 91)) from (Below.refl _ _).alloc (Nat.le_refl _) _))
    have B0 := Lib.hid (show Below w.heap.size w (w.alloc (.cells zq 91)) from (Below.refl _ _).alloc (Nat.le_refl _) _)
    have R0 := Lib.hid (show Rv (w.alloc (.cells zq 91)) w.heap.size zq from heap_alloc_last w _)
    have S0 := Lib.hid (show w.heap.size < (w.alloc (.cells zq 91)).heap.size from by simp)
    unfold zq at HA B0 R0 S0
    go_enter Tryz.func95, Tryz.ntmps95
    go_wp2_with fail
    generalize w.alloc (.cells #[.int .u64 0, .bool false, .int .u64 0, .int .u64 0] 91) = w0 at *
    refine (C1.out _ HA.out).mono ?_
    rintro e w' ⟨rfl, rfl⟩
    go_wp2_with fail
    refine (C2.out _ HA.out).mono ?_
    rintro e w1 ⟨A1, n1, c1, rfl, g1, b1⟩
    have G1 := Lib.hid g1
    have G0 := Lib.hid (HA.out.step b1)
    have B1 := Lib.hid (b1)
    clear g1 b1 hmax k1 k2 k3 k4
    go_wp2_with fail
    refine (C1.out _ G0.out).mono ?_
    rintro e w' ⟨rfl, rfl⟩
    go_wp2_with fail
    refine (C3.out _).mono ?_
    rintro e w2 ⟨A2, n2, c2, rfl, g2, b2⟩
    have G2 := Lib.hid g2
    have G1 := Lib.hid (G1.out.step b2)
    have B2 := Lib.hid (below_le B1.out b2)
    clear g2 b2
    go_wp2_with fail
    refine (C4.out _ _ _ _ _ _ _ G1.out G2.out).mono ?_
    rintro e w3 ⟨A3, n3, c3, rfl, g3, b3⟩
    have G3 := Lib.hid g3
    have G1 := Lib.hid (G1.out.step b3)
    have B3 := Lib.hid (below_le B2.out b3)
    clear g3 b3
    go_wp2_with fail
    refine (C5.out _).mono ?_
    rintro e w4 ⟨A4, n4, c4, rfl, g4, b4⟩
    have G4 := Lib.hid g4
    have G1 := Lib.hid (G1.out.step b4)
    have G3 := Lib.hid (G3.out.step b4)
    have B4 := Lib.hid (below_le B3.out b4)
    clear g4 b4
    go_wp2_with fail
    refine (C6.out _ _ _ _ _ _ _ G1.out G4.out).mono ?_
    rintro e w5 ⟨A5, n5, c5, rfl, g5, b5⟩
    have G5 := Lib.hid g5
    have G1 := Lib.hid (G1.out.step b5)
    have G3 := Lib.hid (G3.out.step b5)
    have B5 := Lib.hid (below_le B4.out b5)
    clear g5 b5
    go_wp2_with fail
    refine (S1.out _ _ _ _ G1.out).mono ?_
    rintro e w6 ⟨A6, n6, c6, rfl, g6, b6⟩
    have G6 := Lib.hid g6
    have G5 := Lib.hid (G5.out.step b6)
    have G3 := Lib.hid (G3.out.step b6)
    have B6 := Lib.hid (below_le B5.out b6)
    clear g6 b6
    go_wp2_with fail
    refine (S2.out _ _ _ _ G3.out).mono ?_
    rintro e w7 ⟨A7, n7, c7, rfl, g7, b7⟩
    have G7 := Lib.hid g7
    have G5 := Lib.hid (G5.out.step b7)
    have G6 := Lib.hid (G6.out.step b7)
    have B7 := Lib.hid (below_le B6.out b7)
    clear g7 b7
    go_wp2_with fail
    refine (S3.out _ _ _ _ G5.out).mono ?_
    rintro e w8 ⟨A8, n8, c8, rfl, g8, b8⟩
    have G8 := Lib.hid g8
    have G7 := Lib.hid (G7.out.step b8)
    have G6 := Lib.hid (G6.out.step b8)
    have B8 := Lib.hid (below_le B7.out b8)
    clear g8 b8 C1 C2 C3 C4 C5 C6 S1 S2 S3
    go_wp2_with fail
    refine (W1.out _ _ _ _ G6.out).mono ?_
    rintro e w' ⟨rfl, rfl⟩
    go_wp2_with fail
    refine (W2.out _ _ _ _ G7.out).mono ?_
    rintro e w' ⟨rfl, rfl⟩
    go_wp2_with fail
    refine (W3.out _ _ _ _ G8.out).mono ?_
    rintro e w' ⟨rfl, rfl⟩
    have HG := Lib.hid (fun c' => show (w8.alloc (.cells c' 91)).heap[w.heap.size]? = some (.cells #[.int .u64 0, .bool false, .int .u64 0, .int .u64 0] 91 (0, 0)) from by
      have hlt : w.heap.size < w8.heap.size := Nat.lt_of_lt_of_le S0.out B8.out.size
      have b1 : Below w8.heap.size w8 (w8.alloc (.cells c' 91)) := (Below.refl _ _).alloc (Nat.le_refl _) _
      exact (b1.block _ hlt).trans ((B8.out.block _ S0.out).trans R0.out))
    have HB := Lib.hid (fun c' => show Below w.heap.size w (w8.alloc (.cells c' 91)) from by
      have b2 := below_le B0.out B8.out
      exact b2.alloc b2.size _)
    have he := HEV.out
    have hL1 : IntKind.u64.wrap ((L : Int) + 1) = ((L + 1 : Nat) : Int) := by rw [IntKind.wrap_u64]; omega
    have hM1 : IntKind.u64.wrap ((M : Int) - 1) = ((M - 1 : Nat) : Int) := by rw [IntKind.wrap_u64]; omega
    clear W1 W2 W3 G6 G7 G8 k5 HA HEV
    first | clear hl | skip
    clear tb l1 l2 l3 B0 B1 B2 B3 B4 B5 B6 B7 B8 S0 R0 G1 G5 G3 G0
    cases ev <;> cases lE <;> cases mE
    all_goals
      go_wp2_with (first | (refine wpList_store_row rfl 91 _ _ rfl w.heap.size _ rfl rfl 91 #[.int .u64 0, .bool false, .int .u64 0, .int .u64 0] (HG.out _) (by first | kernel_rfl | rfl) rfl (by first | kernel_rfl | rfl) ?_))
    all_goals
      exact bodyPost_ret (results_cell_one rfl _ _ _ _ _ rfl (run_loadVar_row _ w.heap.size 91 91 _ (0, 0) _ (setRow_heap _ _ _ _ _ _ (HG.out _)) Tryz.underlying91 rfl (by first | kernel_rfl | rfl))) rfl ⟨rfl, below_setRow' (HB.out _) (Nat.le_refl _) _⟩

end Go.Proofs.YtfcpkdafkmohkaaGreatDoor
namespace Go.Proofs.YtfcpkdafkmohkaaGreatDoor
open Go.RowKit
set_option maxRecDepth 100000 in
set_option maxHeartbeats 3000000 in
theorem tspan_low {w : World} {A : Option Addr} {n c m bt bw q H L M : Nat} {two ten x1 x2 last x3 x4 x5 bI : Int} {hE lE mE ev : Bool} (hA : NV w A n c m)
    (C1 : Hid (∀ W, NV W A n c m → Cq 156 #[.slice A n c] (.int .i64 (bt : Nat)) W))
    (C2 : Hid (∀ W, NV W A n c m → Cp 157 #[.slice A n c, .int .i64 x4] W (NOk q W)))
    (C3 : Hid (∀ W, Cp 110 #[.int .u64 bI] W (NRet bw W)))
    (C4 : Hid (∀ W A1 n1 c1 A2 n2 c2, NV W A1 n1 c1 q → NV W A2 n2 c2 bw → Cp 158 #[.slice A1 n1 c1, .slice A2 n2 c2] W (NOk (q - bw) W)))
    (C5 : Hid (∀ W, Cp 110 #[.int .u64 2] W (NRet 2 W)))
    (C6 : Hid (∀ W A1 n1 c1 A2 n2 c2, NV W A1 n1 c1 q → NV W A2 n2 c2 2 → Cp 124 #[.slice A1 n1 c1, .slice A2 n2 c2] W (NOk (q + 2) W)))
    (S1 : Hid (∀ W A1 n1 c1, NV W A1 n1 c1 q → Cp 123 #[.slice A1 n1 c1, .int .i64 x5, .int .i64 ten] W fun e w' => ∃ A3 n3 c3, e = .returned (.tuple #[.slice A3 n3 c3, .bool hE]) ∧ NV w' A3 n3 c3 H ∧ Below W.heap.size W w'))
    (S2 : Hid (∀ W A1 n1 c1, NV W A1 n1 c1 (q - bw) → Cp 123 #[.slice A1 n1 c1, .int .i64 x5, .int .i64 ten] W fun e w' => ∃ A3 n3 c3, e = .returned (.tuple #[.slice A3 n3 c3, .bool lE]) ∧ NV w' A3 n3 c3 L ∧ Below W.heap.size W w'))
    (S3 : Hid (∀ W A1 n1 c1, NV W A1 n1 c1 (q + 2) → Cp 123 #[.slice A1 n1 c1, .int .i64 x5, .int .i64 ten] W fun e w' => ∃ A3 n3 c3, e = .returned (.tuple #[.slice A3 n3 c3, .bool mE]) ∧ NV w' A3 n3 c3 M ∧ Below W.heap.size W w'))
    (hH : H < 18446744073709551616) (hL : L < 9223372036854775808) (hM : M < 9223372036854775808) (hM0 : 0 < M)
    (k1 : wrap64 ((bt : Int) + two) = x1) (k2 : wrap64 (x1 - 53) = x2) (hmax : max x2 (-1074) = last) (k3 : wrap64 (two - last) = x3) (k4 : wrap64 (x3 + 2) = x4) (k5 : wrap64 (last - 2) = x5)
    (hb : bt = 1 ∧ decide (-1074 < last) = false ∧ bI = 2) (hev : decide (last < two) = ev) :
    Ct 95 #[.slice A n c, .int .i64 two, .int .i64 ten] (.agg #[.int .u64 (H : Nat), .bool hE, .int .u64 ((if lE = true ∧ ev = true then L else L + 1 : Nat) : Nat), .int .u64 ((if mE = true ∧ ev = false then M - 1 else M : Nat) : Nat)]) w := by
  have W1 := Lib.hid (fun W A1 n1 c1 (h : NV W A1 n1 c1 H) => tword_any h hH)
  have W2 := Lib.hid (fun W A1 n1 c1 (h : NV W A1 n1 c1 L) => tword_any h (by omega))
  have W3 := Lib.hid (fun W A1 n1 c1 (h : NV W A1 n1 c1 M) => tword_any h (by omega))
  have HA := Lib.hid hA
  have HEV := Lib.hid hev
  have l1 : (L : Int) < 9223372036854775808 := by omega
  have l2 : (M : Int) < 9223372036854775808 := by omega
  have l3 : (0 : Int) < (M : Int) := by omega
  clear hA hH hL hM hM0 hev
  obtain ⟨hbt, hl, rfl⟩ := hb
  all_goals
    first | have tb : ((bt : Int) == 1) = false := by rw [beq_eq_false_iff_ne]; omega
          | have tb : ((bt : Int) == 1) = true := by rw [beq_iff_eq]; omega
    clear hbt
    have HA := Lib.hid (HA.out.step (show Below w.heap.size w (w.alloc (.cells zq 91)) from (Below.refl _ _).alloc (Nat.le_refl _) _))
    have B0 := Lib.hid (show Below w.heap.size w (w.alloc (.cells zq 91)) from (Below.refl _ _).alloc (Nat.le_refl _) _)
    have R0 := Lib.hid (show Rv (w.alloc (.cells zq 91)) w.heap.size zq from heap_alloc_last w _)
    have S0 := Lib.hid (show w.heap.size < (w.alloc (.cells zq 91)).heap.size from by simp)
    unfold zq at HA B0 R0 S0
    go_enter Tryz.func95, Tryz.ntmps95
    go_wp2_with fail
    generalize w.alloc (.cells #[.int .u64 0, .bool false, .int .u64 0, .int .u64 0] 91) = w0 at *
    refine (C1.out _ HA.out).mono ?_
    rintro e w' ⟨rfl, rfl⟩
    go_wp2_with fail
    refine (C2.out _ HA.out).mono ?_
    rintro e w1 ⟨A1, n1, c1, rfl, g1, b1⟩
    have G1 := Lib.hid g1
    have G0 := Lib.hid (HA.out.step b1)
    have B1 := Lib.hid (b1)
    clear g1 b1 hmax k1 k2 k3 k4
    go_wp2_with fail
    refine (C1.out _ G0.out).mono ?_
    rintro e w' ⟨rfl, rfl⟩
    go_wp2_with fail
    refine (C3.out _).mono ?_
    rintro e w2 ⟨A2, n2, c2, rfl, g2, b2⟩
    have G2 := Lib.hid g2
    have G1 := Lib.hid (G1.out.step b2)
    have B2 := Lib.hid (below_le B1.out b2)
    clear g2 b2
    go_wp2_with fail
    refine (C4.out _ _ _ _ _ _ _ G1.out G2.out).mono ?_
    rintro e w3 ⟨A3, n3, c3, rfl, g3, b3⟩
    have G3 := Lib.hid g3
    have G1 := Lib.hid (G1.out.step b3)
    have B3 := Lib.hid (below_le B2.out b3)
    clear g3 b3
    go_wp2_with fail
    refine (C5.out _).mono ?_
    rintro e w4 ⟨A4, n4, c4, rfl, g4, b4⟩
    have G4 := Lib.hid g4
    have G1 := Lib.hid (G1.out.step b4)
    have G3 := Lib.hid (G3.out.step b4)
    have B4 := Lib.hid (below_le B3.out b4)
    clear g4 b4
    go_wp2_with fail
    refine (C6.out _ _ _ _ _ _ _ G1.out G4.out).mono ?_
    rintro e w5 ⟨A5, n5, c5, rfl, g5, b5⟩
    have G5 := Lib.hid g5
    have G1 := Lib.hid (G1.out.step b5)
    have G3 := Lib.hid (G3.out.step b5)
    have B5 := Lib.hid (below_le B4.out b5)
    clear g5 b5
    go_wp2_with fail
    refine (S1.out _ _ _ _ G1.out).mono ?_
    rintro e w6 ⟨A6, n6, c6, rfl, g6, b6⟩
    have G6 := Lib.hid g6
    have G5 := Lib.hid (G5.out.step b6)
    have G3 := Lib.hid (G3.out.step b6)
    have B6 := Lib.hid (below_le B5.out b6)
    clear g6 b6
    go_wp2_with fail
    refine (S2.out _ _ _ _ G3.out).mono ?_
    rintro e w7 ⟨A7, n7, c7, rfl, g7, b7⟩
    have G7 := Lib.hid g7
    have G5 := Lib.hid (G5.out.step b7)
    have G6 := Lib.hid (G6.out.step b7)
    have B7 := Lib.hid (below_le B6.out b7)
    clear g7 b7
    go_wp2_with fail
    refine (S3.out _ _ _ _ G5.out).mono ?_
    rintro e w8 ⟨A8, n8, c8, rfl, g8, b8⟩
    have G8 := Lib.hid g8
    have G7 := Lib.hid (G7.out.step b8)
    have G6 := Lib.hid (G6.out.step b8)
    have B8 := Lib.hid (below_le B7.out b8)
    clear g8 b8 C1 C2 C3 C4 C5 C6 S1 S2 S3
    go_wp2_with fail
    refine (W1.out _ _ _ _ G6.out).mono ?_
    rintro e w' ⟨rfl, rfl⟩
    go_wp2_with fail
    refine (W2.out _ _ _ _ G7.out).mono ?_
    rintro e w' ⟨rfl, rfl⟩
    go_wp2_with fail
    refine (W3.out _ _ _ _ G8.out).mono ?_
    rintro e w' ⟨rfl, rfl⟩
    have HG := Lib.hid (fun c' => show (w8.alloc (.cells c' 91)).heap[w.heap.size]? = some (.cells #[.int .u64 0, .bool false, .int .u64 0, .int .u64 0] 91 (0, 0)) from by
      have hlt : w.heap.size < w8.heap.size := Nat.lt_of_lt_of_le S0.out B8.out.size
      have b1 : Below w8.heap.size w8 (w8.alloc (.cells c' 91)) := (Below.refl _ _).alloc (Nat.le_refl _) _
      exact (b1.block _ hlt).trans ((B8.out.block _ S0.out).trans R0.out))
    have HB := Lib.hid (fun c' => show Below w.heap.size w (w8.alloc (.cells c' 91)) from by
      have b2 := below_le B0.out B8.out
      exact b2.alloc b2.size _)
    have he := HEV.out
    have hL1 : IntKind.u64.wrap ((L : Int) + 1) = ((L + 1 : Nat) : Int) := by rw [IntKind.wrap_u64]; omega
    have hM1 : IntKind.u64.wrap ((M : Int) - 1) = ((M - 1 : Nat) : Int) := by rw [IntKind.wrap_u64]; omega
    clear W1 W2 W3 G6 G7 G8 k5 HA HEV
    first | clear hl | skip
    clear tb l1 l2 l3 B0 B1 B2 B3 B4 B5 B6 B7 B8 S0 R0 G1 G5 G3 G0
    cases ev <;> cases lE <;> cases mE
    all_goals
      go_wp2_with (first | (refine wpList_store_row rfl 91 _ _ rfl w.heap.size _ rfl rfl 91 #[.int .u64 0, .bool false, .int .u64 0, .int .u64 0] (HG.out _) (by first | kernel_rfl | rfl) rfl (by first | kernel_rfl | rfl) ?_))
    all_goals
      exact bodyPost_ret (results_cell_one rfl _ _ _ _ _ rfl (run_loadVar_row _ w.heap.size 91 91 _ (0, 0) _ (setRow_heap _ _ _ _ _ _ (HG.out _)) Tryz.underlying91 rfl (by first | kernel_rfl | rfl))) rfl ⟨rfl, below_setRow' (HB.out _) (Nat.le_refl _) _⟩

end Go.Proofs.YtfcpkdafkmohkaaGreatDoor
namespace Go.Proofs.YtfcpkdafkmohkaaGreatDoor
open Go.RowKit
theorem below_al (w : World) (o : Obj) : Below w.heap.size w (w.alloc o) := (Below.refl _ _).alloc (Nat.le_refl _) _
set_option maxRecDepth 100000 in
set_option maxHeartbeats 1000000 in
theorem tnearer_other (H L M down unit D h : Nat) (hE : Bool) (w : World) (hD : H - down = D) (hd : down ≤ H) (hH : H < 9223372036854775808) (hU : unit < 9223372036854775808) (hu : unit / 2 = h) (hne : D ≠ h) :
  Ct 160 #[.agg #[.int .u64 (H : Nat), .bool hE, .int .u64 (L : Nat), .int .u64 (M : Nat)], .int .u64 (down : Nat), .int .u64 (unit : Nat)] (.bool (decide ((D : Int) < (h : Int)))) w := by
 have k1 : IntKind.u64.wrap ((H : Int) - (down : Int)) = (D : Int) := by rw [IntKind.wrap_u64]; omega
 have k2 : (unit : Int) / 2 = (h : Int) := by omega
 have k3 : IntKind.u64.wrap (h : Int) = (h : Int) := by rw [IntKind.wrap_u64]; omega
 have t1 : ((D : Int) != (h : Int)) = true := by rw [bne_iff_ne]; omega
 clear hD hd hH hu hne hU
 go_enter Tryz.func160, Tryz.ntmps160
 go_wp2
 go_ret
 exact ⟨by simp, below_al _ _⟩
set_option maxRecDepth 100000 in
set_option maxHeartbeats 1000000 in
theorem tnearer_more (H L M down unit D h : Nat) (w : World) (hD : H - down = D) (hd : down ≤ H) (hU : unit < 9223372036854775808) (hu : unit / 2 = h) (hne : D = h) :
  Ct 160 #[.agg #[.int .u64 (H : Nat), .bool false, .int .u64 (L : Nat), .int .u64 (M : Nat)], .int .u64 (down : Nat), .int .u64 (unit : Nat)] (.bool false) w := by
 have k1 : IntKind.u64.wrap ((H : Int) - (down : Int)) = (D : Int) := by rw [IntKind.wrap_u64]; omega
 have k2 : (unit : Int) / 2 = (h : Int) := by omega
 have k3 : IntKind.u64.wrap (h : Int) = (h : Int) := by rw [IntKind.wrap_u64]; omega
 have t1 : ((D : Int) != (h : Int)) = false := by rw [bne_eq_false_iff_eq]; omega
 clear hD hd hu hne hU
 go_enter Tryz.func160, Tryz.ntmps160
 go_wp2
 go_ret
 exact ⟨rfl, below_al _ _⟩
set_option maxRecDepth 100000 in
set_option maxHeartbeats 1000000 in
theorem tnearer_exact (H L M down unit D h q : Nat) (w : World) (hD : H - down = D) (hd : down ≤ H) (hH : H < 9223372036854775808) (hU : unit < 9223372036854775808) (hu : unit / 2 = h) (hne : D = h) (h0 : 0 < unit) (hq : down / unit = q) :
  Ct 160 #[.agg #[.int .u64 (H : Nat), .bool true, .int .u64 (L : Nat), .int .u64 (M : Nat)], .int .u64 (down : Nat), .int .u64 (unit : Nat)] (.bool ((q : Int) % 2 == 0)) w := by
 have k1 : IntKind.u64.wrap ((H : Int) - (down : Int)) = (D : Int) := by rw [IntKind.wrap_u64]; omega
 have k2 : (unit : Int) / 2 = (h : Int) := by omega
 have k3 : IntKind.u64.wrap (h : Int) = (h : Int) := by rw [IntKind.wrap_u64]; omega
 have t1 : ((D : Int) != (h : Int)) = false := by rw [bne_eq_false_iff_eq]; omega
 have k4 : (down : Int) / (unit : Int) = (q : Int) := by rw [← hq]; rfl
 have k5 : IntKind.u64.wrap (q : Int) = (q : Int) := by
  have : q ≤ down := by rw [← hq]; exact Nat.div_le_self _ _
  rw [IntKind.wrap_u64]
  omega
 have k6 : (0 : Int) < (unit : Int) := by omega
 have k7 : ¬ (unit : Int) = 0 := by omega
 clear hD hd hu hne hU h0 hq hH
 go_enter Tryz.func160, Tryz.ntmps160
 go_wp2
 go_ret
 exact ⟨rfl, below_al _ _⟩

end Go.Proofs.YtfcpkdafkmohkaaGreatDoor
namespace Go.Proofs.YtfcpkdafkmohkaaGreatDoor
open Go.RowKit
set_option maxRecDepth 100000 in
set_option maxHeartbeats 1000000 in
theorem ifmt_small (u : Nat) (w : World) (h : u < 100) : Ct 208 #[.int .u64 u, .int .i64 10] (.string ⟨(Lib.decDigits u).toArray⟩) w := by
 have t1 : (u : Int) < 100 := by omega
 have t2 : (u : Int) < 9223372036854775808 := by omega
 go_enter Tryz.func208, Tryz.ntmps208
 go_wp2_with (go_at_call 232; refine (Tryz.internal_strconv_small u h _).mono ?_; rintro e w' ⟨rfl, rfl⟩)
 go_ret
 exact ⟨rfl, Below.refl _ _⟩
open Go.Sort in
set_option maxRecDepth 100000 in
set_option maxHeartbeats 1000000 in
theorem ifmt_big (u : Nat) (w : World) (h : 100 ≤ u) (hu64 : u < 18446744073709551616) (htab : Lib.TabIs Tryz.prog w "internal/strconv.uint64pow10" .u64 Lib.pow10Tab) :
  Ct 208 #[.int .u64 u, .int .i64 10] (.string ⟨(Lib.decDigits u).toArray⟩) w := by
 have hu1 : 1 ≤ u := by omega
 have hnd20 : Lib.nDigits u ≤ 20 := by have := Lib.numDigits_eq u hu1 hu64; split at this <;> omega
 have t1 : ¬ (u : Int) < 100 := by omega
 have hal : Tryz.prog.arrayLen 202 = 24 := by kernel_rfl
 have hsl1 : ∀ W, (Instr.sliceAt 202 (.pointer (some ⟨w.heap.size, 0, none⟩)) none (some (.int .i64 (Lib.nDigits u : Int))) none).run Tryz.prog W = .ok (.slice (some ⟨w.heap.size, 0, none⟩) (Lib.nDigits u) 24) W := fun W => by
  rw [run_sliceAt_array_h W 202 ⟨w.heap.size, 0, none⟩ (by simp [Program.arrayLen, Program.elem, Tryz.underlying202]) .i64 (Lib.nDigits u : Int) (by omega) (by rw [hal]; omega)]
  go_simp
 have hH0 := Lib.holds_zero0 w 202 (Lib.nDigits u) (by omega)
 have hfmt := Tryz.internal_strconv_formatBase10 w.heap.size 0 24 u (Array.replicate (Lib.nDigits u) 0) (w.alloc (.cells Lib.zeros24 202)) hH0 (by rw [Array.size_replicate]; exact Lib.lt_pow_nDigits u) hu64 (by rw [Array.size_replicate]; omega)
 rw [Array.size_replicate] at hfmt
 have HH0 := Lib.hid hH0
 clear hH0 hal h
 go_enter Tryz.func208, Tryz.ntmps208
 go_wp2_with (first
  | (go_at_call 233; refine (Tryz.internal_strconv_numDigits u hu1 hu64 _ (Lib.tabIs_alloc htab _)).mono ?_; rintro e w' ⟨rfl, rfl⟩))
 go_at_call 234
 refine hfmt.mono ?_
 rintro e w' ⟨rfl, k, v', dk, rfl, hF⟩
 have hcv : (convert 85 9 (.slice (some ⟨w.heap.size, 0, none⟩) (Lib.nDigits u) 24)).run Tryz.prog ((putRow (fun (b : UInt8) => Value.int .u8 (b.toNat : Int)) (w.alloc (.cells Lib.zeros24 202)) w.heap.size 0 dk).drewN k) = .ok (.string ⟨(Lib.decDigits u).toArray⟩) ((putRow (fun (b : UInt8) => Value.int .u8 (b.toNat : Int)) (w.alloc (.cells Lib.zeros24 202)) w.heap.size 0 dk).drewN k) := by
  have h := run_convert_bytes_back (P := Tryz.prog) ((putRow (fun (b : UInt8) => Value.int .u8 (b.toNat : Int)) (w.alloc (.cells Lib.zeros24 202)) w.heap.size 0 dk).drewN k) 85 9 5 ⟨w.heap.size, 0, none⟩ 24 (Lib.decDigits u) Tryz.underlying85 Tryz.underlying5 Tryz.underlying9 (fun j hj => by
   rw [Lib.row_is_numeral hF j hj, Lib.add_plain, World.cell?_drewN]
   exact cell?_putRow (fun (b : UInt8) => Value.int .u8 (b.toNat : Int)) _ w.heap.size 0 _ dk HH0.out (by rw [hF.size, Array.size_replicate]) j (by rw [hF.size]; rw [Lib.decDigits_length] at hj; exact hj))
  rw [Lib.decDigits_length] at h
  exact h
 go_wp2
 go_ret
 obtain ⟨os, eo⟩ := Lib.fin_at w (.cells Lib.zeros24 202) dk k 0
 refine ⟨rfl, ?_⟩
 have hb := Lib.below_grow w.heap.size w (Nat.le_refl _) k os
 rw [← eo] at hb
 exact hb
theorem cfmt_any (u : Nat) (w : World) (hu : u < 18446744073709551616) (htab : Lib.TabIs Tryz.prog w "internal/strconv.uint64pow10" .u64 Lib.pow10Tab) :
  Ct 155 #[.int .u64 u, .int .i64 10] (.string (strOf (dL u))) w := by
 have C : Hid (∀ W, W = w → Ct 208 #[.int .u64 u, .int .i64 10] (.string ⟨(Lib.decDigits u).toArray⟩) W) := Lib.hid (fun W hW => by
  subst hW
  rcases Nat.lt_or_ge u 100 with h | h
  ·exact ifmt_small u W h
  ·exact ifmt_big u W h hu htab)
 have he : (⟨(Lib.decDigits u).toArray⟩ : ByteArray) = strOf (dL u) := str_eq rfl
 rw [← he]
 clear he htab hu
 go_enter Tryz.func155, Tryz.ntmps155
 go_wp2_with fail
 refine (C.out _ rfl).mono ?_
 rintro e w1 ⟨rfl, b1⟩
 go_wp2
 go_ret
 exact ⟨rfl, b1⟩

end Go.Proofs.YtfcpkdafkmohkaaGreatDoor
namespace Go.Proofs.YtfcpkdafkmohkaaGreatDoor
open Go.RowKit
set_option maxRecDepth 100000 in
set_option maxHeartbeats 2000000 in
theorem tcand_tt (H L M unit dn up : Nat) (hE : Bool) (w : World) (h0 : 0 < unit) (hd : H - H % unit = dn) (hu : dn + unit = up) (hl : up < 9223372036854775808) (g1 : L ≤ dn) (g2 : up ≤ M)
  (CN : Hid (∀ W, Ct 160 #[.agg #[.int .u64 (H : Nat), .bool hE, .int .u64 (L : Nat), .int .u64 (M : Nat)], .int .u64 (dn : Nat), .int .u64 (unit : Nat)] (.bool true) W)) :
  Ct 96 #[.agg #[.int .u64 (H : Nat), .bool hE, .int .u64 (L : Nat), .int .u64 (M : Nat)], .int .u64 (unit : Nat)] (.tuple #[.int .u64 (dn : Nat), .bool true]) w := by
 obtain ⟨r, hr⟩ : ∃ r, H % unit = r := ⟨_, rfl⟩
 have hrH : r ≤ H := by rw [← hr]; exact Nat.mod_le _ _
 have hru : r < unit := by rw [← hr]; exact Nat.mod_lt _ h0
 rw [hr] at hd
 have k0 := Lib.hid (show (H : Int) % (unit : Int) = (r : Int) by rw [← hr]; rfl)
 have k2 := Lib.hid (show IntKind.u64.wrap ((H : Int) - (r : Int)) = (dn : Int) by rw [IntKind.wrap_u64]; omega)
 have k3 := Lib.hid (show IntKind.u64.wrap ((dn : Int) + (unit : Int)) = (up : Int) by rw [IntKind.wrap_u64]; omega)
 have k6 : (0 : Int) < (unit : Int) := by omega
 have k7 : ¬ (unit : Int) = 0 := by omega
 have t1 := Lib.hid (show decide (L ≤ dn) = true by first | exact decide_eq_true (by omega) | exact decide_eq_false (by omega))
 have t2 := Lib.hid (show decide (up ≤ M) = true by first | exact decide_eq_true (by omega) | exact decide_eq_false (by omega))
 have B0 := Lib.hid (below_al w (.cells #[.int .u64 (H : Nat), .bool hE, .int .u64 (L : Nat), .int .u64 (M : Nat)] 91))
 clear h0 hd hu hl g1 g2 hr hrH hru
 go_enter Tryz.func96, Tryz.ntmps96
 go_wp2
 go_quiet (fail)
 rw [k0.out, k2.out]
 have k3' := k3.out
 go_wp2
 clear k3'
 go_quiet (fail)
 have t1' := t1.out
 have t2' := t2.out
 have BW := Lib.hid (fun q => below_drewN' B0.out q)
 go_wp2_with fail
 refine (CN.out _).mono ?_
 rintro e w1 ⟨rfl, b1⟩
 have B1 := Lib.hid (below_le (BW.out _) b1)
 clear b1
 go_wp2
 go_ret2
 exact ⟨rfl, B1.out⟩
set_option maxRecDepth 100000 in
set_option maxHeartbeats 2000000 in
theorem tcand_tf (H L M unit dn up : Nat) (hE : Bool) (w : World) (h0 : 0 < unit) (hd : H - H % unit = dn) (hu : dn + unit = up) (hl : up < 9223372036854775808) (g1 : L ≤ dn) (g2 : up ≤ M)
  (CN : Hid (∀ W, Ct 160 #[.agg #[.int .u64 (H : Nat), .bool hE, .int .u64 (L : Nat), .int .u64 (M : Nat)], .int .u64 (dn : Nat), .int .u64 (unit : Nat)] (.bool false) W)) :
  Ct 96 #[.agg #[.int .u64 (H : Nat), .bool hE, .int .u64 (L : Nat), .int .u64 (M : Nat)], .int .u64 (unit : Nat)] (.tuple #[.int .u64 (up : Nat), .bool true]) w := by
 obtain ⟨r, hr⟩ : ∃ r, H % unit = r := ⟨_, rfl⟩
 have hrH : r ≤ H := by rw [← hr]; exact Nat.mod_le _ _
 have hru : r < unit := by rw [← hr]; exact Nat.mod_lt _ h0
 rw [hr] at hd
 have k0 := Lib.hid (show (H : Int) % (unit : Int) = (r : Int) by rw [← hr]; rfl)
 have k2 := Lib.hid (show IntKind.u64.wrap ((H : Int) - (r : Int)) = (dn : Int) by rw [IntKind.wrap_u64]; omega)
 have k3 := Lib.hid (show IntKind.u64.wrap ((dn : Int) + (unit : Int)) = (up : Int) by rw [IntKind.wrap_u64]; omega)
 have k6 : (0 : Int) < (unit : Int) := by omega
 have k7 : ¬ (unit : Int) = 0 := by omega
 have t1 := Lib.hid (show decide (L ≤ dn) = true by first | exact decide_eq_true (by omega) | exact decide_eq_false (by omega))
 have t2 := Lib.hid (show decide (up ≤ M) = true by first | exact decide_eq_true (by omega) | exact decide_eq_false (by omega))
 have B0 := Lib.hid (below_al w (.cells #[.int .u64 (H : Nat), .bool hE, .int .u64 (L : Nat), .int .u64 (M : Nat)] 91))
 clear h0 hd hu hl g1 g2 hr hrH hru
 go_enter Tryz.func96, Tryz.ntmps96
 go_wp2
 go_quiet (fail)
 rw [k0.out, k2.out]
 have k3' := k3.out
 go_wp2
 clear k3'
 go_quiet (fail)
 have t1' := t1.out
 have t2' := t2.out
 have BW := Lib.hid (fun q => below_drewN' B0.out q)
 go_wp2_with fail
 refine (CN.out _).mono ?_
 rintro e w1 ⟨rfl, b1⟩
 have B1 := Lib.hid (below_le (BW.out _) b1)
 clear b1
 go_wp2
 go_ret2
 exact ⟨rfl, B1.out⟩
set_option maxRecDepth 100000 in
set_option maxHeartbeats 2000000 in
theorem tcand_down (H L M unit dn up : Nat) (hE : Bool) (w : World) (h0 : 0 < unit) (hd : H - H % unit = dn) (hu : dn + unit = up) (hl : up < 9223372036854775808) (g1 : L ≤ dn) (g2 : ¬ up ≤ M) :
  Ct 96 #[.agg #[.int .u64 (H : Nat), .bool hE, .int .u64 (L : Nat), .int .u64 (M : Nat)], .int .u64 (unit : Nat)] (.tuple #[.int .u64 (dn : Nat), .bool true]) w := by
 obtain ⟨r, hr⟩ : ∃ r, H % unit = r := ⟨_, rfl⟩
 have hrH : r ≤ H := by rw [← hr]; exact Nat.mod_le _ _
 have hru : r < unit := by rw [← hr]; exact Nat.mod_lt _ h0
 rw [hr] at hd
 have k0 := Lib.hid (show (H : Int) % (unit : Int) = (r : Int) by rw [← hr]; rfl)
 have k2 := Lib.hid (show IntKind.u64.wrap ((H : Int) - (r : Int)) = (dn : Int) by rw [IntKind.wrap_u64]; omega)
 have k3 := Lib.hid (show IntKind.u64.wrap ((dn : Int) + (unit : Int)) = (up : Int) by rw [IntKind.wrap_u64]; omega)
 have k6 : (0 : Int) < (unit : Int) := by omega
 have k7 : ¬ (unit : Int) = 0 := by omega
 have t1 := Lib.hid (show decide (L ≤ dn) = true by first | exact decide_eq_true (by omega) | exact decide_eq_false (by omega))
 have t2 := Lib.hid (show decide (up ≤ M) = false by first | exact decide_eq_true (by omega) | exact decide_eq_false (by omega))
 have B0 := Lib.hid (below_al w (.cells #[.int .u64 (H : Nat), .bool hE, .int .u64 (L : Nat), .int .u64 (M : Nat)] 91))
 clear h0 hd hu hl g1 g2 hr hrH hru
 go_enter Tryz.func96, Tryz.ntmps96
 go_wp2
 go_quiet (fail)
 rw [k0.out, k2.out]
 have k3' := k3.out
 go_wp2
 clear k3'
 go_quiet (fail)
 have t1' := t1.out
 have t2' := t2.out
 have BW := Lib.hid (fun q => below_drewN' B0.out q)
 go_wp2
 go_ret2
 exact ⟨rfl, BW.out _⟩
set_option maxRecDepth 100000 in
set_option maxHeartbeats 2000000 in
theorem tcand_up (H L M unit dn up : Nat) (hE : Bool) (w : World) (h0 : 0 < unit) (hd : H - H % unit = dn) (hu : dn + unit = up) (hl : up < 9223372036854775808) (g1 : ¬ L ≤ dn) (g2 : up ≤ M) :
  Ct 96 #[.agg #[.int .u64 (H : Nat), .bool hE, .int .u64 (L : Nat), .int .u64 (M : Nat)], .int .u64 (unit : Nat)] (.tuple #[.int .u64 (up : Nat), .bool true]) w := by
 obtain ⟨r, hr⟩ : ∃ r, H % unit = r := ⟨_, rfl⟩
 have hrH : r ≤ H := by rw [← hr]; exact Nat.mod_le _ _
 have hru : r < unit := by rw [← hr]; exact Nat.mod_lt _ h0
 rw [hr] at hd
 have k0 := Lib.hid (show (H : Int) % (unit : Int) = (r : Int) by rw [← hr]; rfl)
 have k2 := Lib.hid (show IntKind.u64.wrap ((H : Int) - (r : Int)) = (dn : Int) by rw [IntKind.wrap_u64]; omega)
 have k3 := Lib.hid (show IntKind.u64.wrap ((dn : Int) + (unit : Int)) = (up : Int) by rw [IntKind.wrap_u64]; omega)
 have k6 : (0 : Int) < (unit : Int) := by omega
 have k7 : ¬ (unit : Int) = 0 := by omega
 have t1 := Lib.hid (show decide (L ≤ dn) = false by first | exact decide_eq_true (by omega) | exact decide_eq_false (by omega))
 have t2 := Lib.hid (show decide (up ≤ M) = true by first | exact decide_eq_true (by omega) | exact decide_eq_false (by omega))
 have B0 := Lib.hid (below_al w (.cells #[.int .u64 (H : Nat), .bool hE, .int .u64 (L : Nat), .int .u64 (M : Nat)] 91))
 clear h0 hd hu hl g1 g2 hr hrH hru
 go_enter Tryz.func96, Tryz.ntmps96
 go_wp2
 go_quiet (fail)
 rw [k0.out, k2.out]
 have k3' := k3.out
 go_wp2
 clear k3'
 go_quiet (fail)
 have t1' := t1.out
 have t2' := t2.out
 have BW := Lib.hid (fun q => below_drewN' B0.out q)
 go_wp2
 go_ret2
 exact ⟨rfl, BW.out _⟩
set_option maxRecDepth 100000 in
set_option maxHeartbeats 2000000 in
theorem tcand_none (H L M unit dn up : Nat) (hE : Bool) (w : World) (h0 : 0 < unit) (hd : H - H % unit = dn) (hu : dn + unit = up) (hl : up < 9223372036854775808) (g1 : ¬ L ≤ dn) (g2 : ¬ up ≤ M) :
  Ct 96 #[.agg #[.int .u64 (H : Nat), .bool hE, .int .u64 (L : Nat), .int .u64 (M : Nat)], .int .u64 (unit : Nat)] (.tuple #[.int .u64 (up : Nat), .bool false]) w := by
 obtain ⟨r, hr⟩ : ∃ r, H % unit = r := ⟨_, rfl⟩
 have hrH : r ≤ H := by rw [← hr]; exact Nat.mod_le _ _
 have hru : r < unit := by rw [← hr]; exact Nat.mod_lt _ h0
 rw [hr] at hd
 have k0 := Lib.hid (show (H : Int) % (unit : Int) = (r : Int) by rw [← hr]; rfl)
 have k2 := Lib.hid (show IntKind.u64.wrap ((H : Int) - (r : Int)) = (dn : Int) by rw [IntKind.wrap_u64]; omega)
 have k3 := Lib.hid (show IntKind.u64.wrap ((dn : Int) + (unit : Int)) = (up : Int) by rw [IntKind.wrap_u64]; omega)
 have k6 : (0 : Int) < (unit : Int) := by omega
 have k7 : ¬ (unit : Int) = 0 := by omega
 have t1 := Lib.hid (show decide (L ≤ dn) = false by first | exact decide_eq_true (by omega) | exact decide_eq_false (by omega))
 have t2 := Lib.hid (show decide (up ≤ M) = false by first | exact decide_eq_true (by omega) | exact decide_eq_false (by omega))
 have B0 := Lib.hid (below_al w (.cells #[.int .u64 (H : Nat), .bool hE, .int .u64 (L : Nat), .int .u64 (M : Nat)] 91))
 clear h0 hd hu hl g1 g2 hr hrH hru
 go_enter Tryz.func96, Tryz.ntmps96
 go_wp2
 go_quiet (fail)
 rw [k0.out, k2.out]
 have k3' := k3.out
 go_wp2
 clear k3'
 go_quiet (fail)
 have t1' := t1.out
 have t2' := t2.out
 have BW := Lib.hid (fun q => below_drewN' B0.out q)
 go_wp2
 go_ret2
 exact ⟨rfl, BW.out _⟩

end Go.Proofs.YtfcpkdafkmohkaaGreatDoor
namespace Go.Proofs.YtfcpkdafkmohkaaGreatDoor
open Go.RowKit
theorem tnearer_any (H L M unit dn : Nat) (hE : Bool) (w : World) (h0 : 0 < unit) (hd : H - H % unit = dn) (hH : H < 9223372036854775808) (hU : unit < 9223372036854775808) :
  Ct 160 #[.agg #[.int .u64 (H : Nat), .bool hE, .int .u64 (L : Nat), .int .u64 (M : Nat)], .int .u64 (dn : Nat), .int .u64 (unit : Nat)] (.bool (decide (H % unit < unit / 2 ∨ (H % unit = unit / 2 ∧ hE = true ∧ dn / unit % 2 = 0)))) w := by
 have hle := Nat.mod_le H unit
 have hD : H - dn = H % unit := by omega
 have hdn : dn ≤ H := by omega
 by_cases h1 : H % unit = unit / 2
 ·cases hE
  ·refine (tnearer_more H L M dn unit _ _ w hD hdn hU rfl h1).mono ?_
   rintro e w' ⟨rfl, hb⟩
   exact ⟨by rw [decide_eq_false (by rw [h1]; simp)], hb⟩
  ·refine (tnearer_exact H L M dn unit _ _ _ w hD hdn hH hU rfl h1 h0 rfl).mono ?_
   rintro e w' ⟨rfl, hb⟩
   refine ⟨congrArg (fun b => Ending.returned (.bool b)) ?_, hb⟩
   rw [Bool.eq_iff_iff, beq_iff_eq, decide_eq_true_iff]
   generalize dn / unit = q
   constructor
   ·intro h
    exact .inr ⟨h1, rfl, by omega⟩
   ·rintro (h | ⟨_, _, h⟩)
    ·omega
    ·omega
 ·refine (tnearer_other H L M dn unit _ _ hE w hD hdn hH hU rfl h1).mono ?_
  rintro e w' ⟨rfl, hb⟩
  refine ⟨congrArg (fun b => Ending.returned (.bool b)) ?_, hb⟩
  rw [Bool.eq_iff_iff, decide_eq_true_iff, decide_eq_true_iff]
  generalize H % unit = a at *
  generalize unit / 2 = b at *
  omega
def candV (o : Option Nat) (d : Nat) : Value := .tuple #[.int .u64 ((o.getD d : Nat) : Int), .bool o.isSome]
theorem tcand_any (H L M unit : Nat) (hE : Bool) (w : World) (h0 : 0 < unit) (hl : H + unit < 9223372036854775808) :
  Ct 96 #[.agg #[.int .u64 (H : Nat), .bool hE, .int .u64 (L : Nat), .int .u64 (M : Nat)], .int .u64 (unit : Nat)] (candV (pcn H hE L M unit) (H - H % unit + unit)) w := by
 obtain ⟨dn, hd⟩ : ∃ dn, H - H % unit = dn := ⟨_, rfl⟩
 obtain ⟨up, hu⟩ : ∃ up, dn + unit = up := ⟨_, rfl⟩
 have hup : up < 9223372036854775808 := by omega
 have CN := fun W => tnearer_any H L M unit dn hE W h0 hd (by omega) (by omega)
 unfold pcn
 rw [hd, hu]
 by_cases g1 : L ≤ dn
 ·by_cases g2 : up ≤ M
  ·by_cases g3 : H % unit < unit / 2 ∨ (H % unit = unit / 2 ∧ hE = true ∧ dn / unit % 2 = 0)
   ·rw [if_pos ⟨g1, .inr g3⟩]
    rw [decide_eq_true g3] at CN
    exact tcand_tt H L M unit dn up hE w h0 hd hu hup g1 g2 (Lib.hid CN)
   ·rw [if_neg (fun h => h.2.elim (fun h => h g2) g3), if_pos g2]
    rw [decide_eq_false g3] at CN
    exact tcand_tf H L M unit dn up hE w h0 hd hu hup g1 g2 (Lib.hid CN)
  ·rw [if_pos ⟨g1, .inl g2⟩]
   exact tcand_down H L M unit dn up hE w h0 hd hu hup g1 g2
 ·rw [if_neg (fun h => g1 h.1)]
  by_cases g2 : up ≤ M
  ·rw [if_pos g2]
   exact tcand_up H L M unit dn up hE w h0 hd hu hup g1 g2
  ·rw [if_neg g2]
   exact tcand_none H L M unit dn up hE w h0 hd hu hup g1 g2
abbrev Tab10 (w : World) : Prop := Lib.TabIs Tryz.prog w "internal/strconv.uint64pow10" .u64 Lib.pow10Tab
theorem Tab10.on {w w' : World} (h : Tab10 w) (hb : Below w.heap.size w w') : Tab10 w' := (Lib.tabBelow_of_tabIs h) w' hb
theorem ttrimmed_walk (u n : Nat) (ten x : Int) (D T : ByteArray) (w : World) (hn : D.size = n) (hx : wrap64 ((n : Int) + ten) = x)
  (C1 : Hid (∀ W, W = w → Ct 155 #[.int .u64 u, .int .i64 10] (.string D) W))
  (C2 : Hid (∀ W, Ct 113 #[.string D, .string ⟨#[48]⟩] (.string T) W)) :
  Ct 93 #[.int .u64 u, .int .i64 ten] (.tuple #[.string T, .int .i64 x]) w := by
 go_enter Tryz.func93, Tryz.ntmps93
 go_wp2_with fail
 refine (C1.out _ rfl).mono ?_
 rintro e w1 ⟨rfl, b1⟩
 have B1 := Lib.hid b1
 clear b1
 go_wp2_with fail
 refine (C2.out _).mono ?_
 rintro e w2 ⟨rfl, b2⟩
 have B2 := Lib.hid (below_le B1.out b2)
 clear b2
 go_wp2
 go_ret2
 exact ⟨congrArg (fun z => Ending.returned (.tuple #[.string T, .int .i64 z])) hx, B2.out⟩
theorem ttrimmed_any (u : Nat) (ten : Int) (w : World) (hu : u < 18446744073709551616) (h1 : -1000 ≤ ten) (h2 : ten ≤ 1000) (ht : Tab10 w) :
  Ct 93 #[.int .u64 u, .int .i64 ten] (.tuple #[.string (strOf (trz (dL u))), .int .i64 ((dL u).length + ten)]) w := by
 have hl : (dL u).length ≤ 20 := by
  rcases Nat.eq_zero_or_pos u with h | h
  ·rw [h, dL_small (by omega)]; simp
  ·have h3 : 10 ^ ((dL u).length - 1) < 10 ^ 20 := Nat.lt_of_le_of_lt (dL_ge h) (by omega)
   have := ten_lt h3
   omega
 have hb : bl (strOf (dL u)) = dL u := bl_strOf fun c hc => by have := dg10_iff.1 (dL_dig u c hc); omega
 have C2 := fun W => trimR48 (strOf (dL u)) W (by rw [strOf_size]; omega)
 rw [hb] at C2
 exact ttrimmed_walk u (dL u).length ten _ _ _ w (strOf_size _) (by unfold wrap64; omega) (Lib.hid fun W h => by subst h; exact cfmt_any u W hu ht) (Lib.hid C2)

end Go.Proofs.YtfcpkdafkmohkaaGreatDoor
namespace Go.Proofs.YtfcpkdafkmohkaaGreatDoor
open Go.RowKit
theorem repL_one : ∀ c : Nat, (Lib.repeatL [48] c).map UInt8.toNat = List.replicate c 48
 | 0 => rfl
 | c + 1 => by
  rw [List.replicate_succ, ← repL_one c]
  rfl
theorem trepeat_any (c : Nat) (w : World) (hc : c ≤ 140737488355328) : Ct 106 #[.string ⟨#[48]⟩, .int .i64 c] (.string (strOf (List.replicate c 48))) w := by
 have h := Tryz.strings_Repeat ⟨#[48]⟩ c w (by omega) (by show 1 * c ≤ _; omega)
 have e : (⟨(Lib.repeatL (⟨#[48]⟩ : ByteArray).data.toList c).toArray⟩ : ByteArray) = strOf (List.replicate c 48) := str_eq (repL_one c)
 rw [e] at h
 exact h
def ptL (l : List Nat) (last : Nat) : List Nat :=
 if last = 0 then l else (List.replicate (last + 1 - l.length) 48 ++ l).take (last + 1 - l.length + l.length - last) ++ 46 :: (List.replicate (last + 1 - l.length) 48 ++ l).drop (last + 1 - l.length + l.length - last)
theorem tpointed_zero (s : ByteArray) (w : World) : Cq 55 #[.string s, .int .i64 0] (.string s) w := by
 go_enter Tryz.func55, Tryz.ntmps55
 go_wp2
 go_ret
 exact ⟨rfl, rfl⟩
set_option maxRecDepth 100000 in
set_option maxHeartbeats 1000000 in
theorem tpointed_walk (s Z E F : ByteArray) (N M z last at' : Nat) (w : World) (h0 : 0 < last) (hlast : last ≤ 1000) (hN : s.size = N) (hN2 : N ≤ 1000000) (hz : max ((last : Int) + 1 - (N : Int)) 0 = (z : Int)) (hZ : Z.size = z) (hE : Z ++ s = E) (hM : E.size = M) (hzM : z + N = M)
  (hat : M - last = at') (hlM : last < M) (hF : Hid (E.extract 0 at' ++ ⟨#[46]⟩ ++ E.extract at' M = F))
  (CR : Hid (∀ W, Ct 106 #[.string ⟨#[48]⟩, .int .i64 z] (.string Z) W)) :
  Ct 55 #[.string s, .int .i64 last] (.string F) w := by
 have t0 : ((last : Int) == 0) = false := by rw [beq_eq_false_iff_ne]; omega
 have hs1 : ¬ 9223372036854775807 < Z.size + s.size := by omega
 have k1 : (at' : Int) ≤ (M : Int) := by omega
 have k2 : (0 : Int) ≤ (at' : Int) := by omega
 have k3 : (M : Int) - (last : Int) = (at' : Int) := by omega
 have k4 : (M : Int) ≤ 2000000 := by omega
 go_enter Tryz.func55, Tryz.ntmps55
 go_wp2_with fail
 refine (CR.out _).mono ?_
 rintro e w1 ⟨rfl, b1⟩
 have B1 := Lib.hid b1
 clear b1
 go_wp2_with fail
 clear hE hN hN2 hz hZ hs1 hlast
 go_quiet (fail)
 go_wp2
 go_ret
 exact ⟨congrArg (fun z => Ending.returned (.string z)) hF.out, below_drewN' B1.out _⟩
theorem dot_str : (⟨#[46]⟩ : ByteArray) = strOf [46] := rfl
theorem ptL_len (l : List Nat) (last : Nat) (h : last ≠ 0) : (ptL l last).length = max (last + 1) l.length + 1 := by
 unfold ptL
 rw [if_neg h]
 simp
 omega
theorem mem_rep {l : List Nat} {z : Nat} (h : ∀ c ∈ l, c < 256) : ∀ c ∈ List.replicate z 48 ++ l, c < 256 := by
 intro c hc
 rw [List.mem_append, List.mem_replicate] at hc
 rcases hc with ⟨_, rfl⟩ | hc
 ·omega
 ·exact h c hc
theorem tpointed_any (l : List Nat) (last : Nat) (w : World) (hl : ∀ c ∈ l, c < 256) (hn : l.length ≤ 100000) (hlast : last ≤ 1000) :
  Ct 55 #[.string (strOf l), .int .i64 last] (.string (strOf (ptL l last))) w := by
 rcases Nat.eq_zero_or_pos last with h0 | h0
 ·subst h0
  refine (tpointed_zero (strOf l) w).mono ?_
  rintro e w' ⟨rfl, rfl⟩
  exact ⟨rfl, Below.refl _ _⟩
 ·obtain ⟨z, hz⟩ : ∃ z, last + 1 - l.length = z := ⟨_, rfl⟩
  have hE : strOf (List.replicate z 48) ++ strOf l = strOf (List.replicate z 48 ++ l) := strOf_append _ _
  have hb := bl_strOf (mem_rep (z := z) hl)
  have hM : (strOf (List.replicate z 48 ++ l)).size = z + l.length := by rw [strOf_size, List.length_append, List.length_replicate]
  refine tpointed_walk (strOf l) (strOf (List.replicate z 48)) _ _ l.length (z + l.length) z last _ w h0 hlast (strOf_size _) (by omega) (by omega) (by rw [strOf_size, List.length_replicate]) hE hM rfl rfl (by omega) (Lib.hid ?_) (Lib.hid fun W => trepeat_any z W (by omega))
  rw [ext_take, show z + l.length = (strOf (List.replicate z 48 ++ l)).size from hM.symm, ext_drop, hb, dot_str, strOf_append, strOf_append, hM]
  unfold ptL
  rw [if_neg (by omega), hz, List.append_assoc, List.singleton_append]
def mnL (l : List Nat) : List Nat := if l.length ≤ 1 then l else l.take 1 ++ 46 :: l.drop 1
def sgL (e : Int) : List Nat := if e < 0 then [101, 45] else [101, 43]
def scL (l : List Nat) (e : Int) : List Nat := mnL l ++ sgL e ++ dL e.natAbs
theorem titoa_any (k : Nat) (w : World) (hk : k ≤ 9223372036854775807) (ht : Tab10 w) : Ct 126 #[.int .i64 k] (.string (strOf (dL k))) w := by
 refine (Tryz.strconv_Itoa (k : Int) (by omega) (by omega) w ht).mono ?_
 rintro e w' ⟨rfl, a, os, rfl⟩
 refine ⟨?_, Lib.below_grow _ _ (Nat.le_refl _) _ _⟩
 rw [Lib.itoa_nonneg]
 exact congrArg (fun z => Ending.returned (.string z)) (str_eq rfl)
set_option maxRecDepth 100000 in
set_option maxHeartbeats 1000000 in
theorem tscientific_00 (s Y G I F : ByteArray) (N k : Nat) (E : Int) (w : World) (hN : s.size = N) (hk : k ≤ 100000) (hE : E = (k : Int)) (hN1 : N = 1)
  (hY : Hid (s = Y)) (hYs : Hid (Y.size ≤ 1000001)) (hG : Hid (Y ++ ⟨#[101, 43]⟩ = G)) (hGs : Hid (G.size ≤ 1000003)) (hIs : Hid (I.size ≤ 100)) (hF : Hid (G ++ I = F))
  (CI : Hid (∀ W, Below w.heap.size w W → Ct 126 #[.int .i64 k] (.string I) W)) :
  Ct 59 #[.string s, .int .i64 E] (.string F) w := by
 subst hE
 have t0 : ¬ (k : Int) < 0 := by omega
 have t1 : decide ((1 : Int) < (N : Int)) = false := decide_eq_false (by omega)
 have g1 : ¬ 9223372036854775807 < N + 2 := by omega
 have G1 := hG.out
 clear hN1
 have hY' := hY.out
 subst hY'
 go_enter Tryz.func59, Tryz.ntmps59
 have B1 := Lib.hid (Below.refl w.heap.size w)
 have g2 : ¬ 9223372036854775807 < G.size + I.size := by have := hGs.out; have := hIs.out; omega
 have F1 := hF.out
 go_wp2_with fail
 refine (CI.out _ B1.out).mono ?_
 rintro e w2 ⟨rfl, b2⟩
 have B2 := Lib.hid (below_le B1.out b2)
 clear b2
 go_wp2
 go_ret
 exact ⟨rfl, B2.out⟩
set_option maxRecDepth 100000 in
set_option maxHeartbeats 1000000 in
theorem tscientific_01 (s Y G I F : ByteArray) (N k : Nat) (E : Int) (w : World) (hN : s.size = N) (hN2 : N ≤ 1000000) (hk : k ≤ 100000) (hE : E = (k : Int)) (hN1 : 1 < N)
  (hY : Hid (s.extract 0 1 ++ ⟨#[46]⟩ ++ s.extract 1 N = Y)) (hYs : Hid (Y.size ≤ 1000001)) (hG : Hid (Y ++ ⟨#[101, 43]⟩ = G)) (hGs : Hid (G.size ≤ 1000003)) (hIs : Hid (I.size ≤ 100)) (hF : Hid (G ++ I = F))
  (CI : Hid (∀ W, Below w.heap.size w W → Ct 126 #[.int .i64 k] (.string I) W)) :
  Ct 59 #[.string s, .int .i64 E] (.string F) w := by
 subst hE
 have t0 : ¬ (k : Int) < 0 := by omega
 have t1 : (1 : Int) < (N : Int) := by omega
 have k4 : (N : Int) ≤ 1000000 := by omega
 clear hN1 hN2 
 go_enter Tryz.func59, Tryz.ntmps59
 go_wp2
 go_quiet (fail)
 have hY' := hY.out
 rw [hY']
 clear hY'
 rename_i nq
 have B1 := Lib.hid (below_drewN' (Below.refl w.heap.size w) nq)
 have g1 : ¬ 9223372036854775807 < Y.size + 2 := by have := hYs.out; omega
 have g2 : ¬ 9223372036854775807 < G.size + I.size := by have := hGs.out; have := hIs.out; omega
 have G2 := hG.out
 have F1 := hF.out
 go_wp2_with fail
 refine (CI.out _ B1.out).mono ?_
 rintro e w2 ⟨rfl, b2⟩
 have B2 := Lib.hid (below_le B1.out b2)
 clear b2
 go_wp2
 go_ret
 exact ⟨rfl, B2.out⟩
set_option maxRecDepth 100000 in
set_option maxHeartbeats 1000000 in
theorem tscientific_10 (s Y G I F : ByteArray) (N k : Nat) (E : Int) (w : World) (hN : s.size = N) (hk : k ≤ 100000) (hE : -E = (k : Int)) (h0 : 0 < k) (hN1 : N = 1)
  (hY : Hid (s = Y)) (hYs : Hid (Y.size ≤ 1000001)) (hG : Hid (Y ++ ⟨#[101, 45]⟩ = G)) (hGs : Hid (G.size ≤ 1000003)) (hIs : Hid (I.size ≤ 100)) (hF : Hid (G ++ I = F))
  (CI : Hid (∀ W, Below w.heap.size w W → Ct 126 #[.int .i64 k] (.string I) W)) :
  Ct 59 #[.string s, .int .i64 E] (.string F) w := by
 have t0 : E < 0 := by omega
 have t3 : -100000 ≤ E := by omega
 have t1 : decide ((1 : Int) < (N : Int)) = false := decide_eq_false (by omega)
 have g1 : ¬ 9223372036854775807 < N + 2 := by omega
 have G1 := hG.out
 clear hN1 h0
 have hY' := hY.out
 subst hY'
 go_enter Tryz.func59, Tryz.ntmps59
 have B1 := Lib.hid (Below.refl w.heap.size w)
 have g2 : ¬ 9223372036854775807 < G.size + I.size := by have := hGs.out; have := hIs.out; omega
 have F1 := hF.out
 go_wp2_with fail
 refine (CI.out _ B1.out).mono ?_
 rintro e w2 ⟨rfl, b2⟩
 have B2 := Lib.hid (below_le B1.out b2)
 clear b2
 go_wp2
 go_ret
 exact ⟨rfl, B2.out⟩
set_option maxRecDepth 100000 in
set_option maxHeartbeats 1000000 in
theorem tscientific_11 (s Y G I F : ByteArray) (N k : Nat) (E : Int) (w : World) (hN : s.size = N) (hN2 : N ≤ 1000000) (hk : k ≤ 100000) (hE : -E = (k : Int)) (h0 : 0 < k) (hN1 : 1 < N)
  (hY : Hid (s.extract 0 1 ++ ⟨#[46]⟩ ++ s.extract 1 N = Y)) (hYs : Hid (Y.size ≤ 1000001)) (hG : Hid (Y ++ ⟨#[101, 45]⟩ = G)) (hGs : Hid (G.size ≤ 1000003)) (hIs : Hid (I.size ≤ 100)) (hF : Hid (G ++ I = F))
  (CI : Hid (∀ W, Below w.heap.size w W → Ct 126 #[.int .i64 k] (.string I) W)) :
  Ct 59 #[.string s, .int .i64 E] (.string F) w := by
 have t0 : E < 0 := by omega
 have t3 : -100000 ≤ E := by omega
 have t1 : (1 : Int) < (N : Int) := by omega
 have k4 : (N : Int) ≤ 1000000 := by omega
 clear hN1 hN2 h0
 go_enter Tryz.func59, Tryz.ntmps59
 go_wp2
 go_quiet (fail)
 have hY' := hY.out
 rw [hY']
 clear hY'
 rename_i nq
 have B1 := Lib.hid (below_drewN' (Below.refl w.heap.size w) nq)
 have g1 : ¬ 9223372036854775807 < Y.size + 2 := by have := hYs.out; omega
 have g2 : ¬ 9223372036854775807 < G.size + I.size := by have := hGs.out; have := hIs.out; omega
 have G2 := hG.out
 have F1 := hF.out
 go_wp2_with fail
 refine (CI.out _ B1.out).mono ?_
 rintro e w2 ⟨rfl, b2⟩
 have B2 := Lib.hid (below_le B1.out b2)
 clear b2
 go_wp2
 go_ret
 exact ⟨rfl, B2.out⟩
theorem mnL_lt {l : List Nat} (hl : ∀ c ∈ l, c < 256) : ∀ c ∈ mnL l, c < 256 := by
 intro c hc
 unfold mnL at hc
 split at hc
 ·exact hl c hc
 ·rw [List.mem_append, List.mem_cons] at hc
  rcases hc with hc | rfl | hc
  ·exact hl c (List.mem_of_mem_take hc)
  ·omega
  ·exact hl c (List.mem_of_mem_drop hc)
theorem mnL_len (l : List Nat) : (mnL l).length ≤ l.length + 1 := by
 unfold mnL
 split
 ·omega
 ·simp
  omega
theorem dL_le {n k : Nat} (h : n < 10 ^ k) (hk : 0 < k) : (dL n).length ≤ k := by
 rcases Nat.eq_zero_or_pos n with h0 | h0
 ·rw [h0, dL_small (by omega)]
  simp
  omega
 ·have := ten_lt (Nat.lt_of_le_of_lt (dL_ge h0) h)
  omega
theorem tscientific_any (l : List Nat) (E : Int) (w : World) (hl : ∀ c ∈ l, c < 256) (hn0 : 1 ≤ l.length) (hn : l.length ≤ 1000000) (h1 : -100000 ≤ E) (h2 : E ≤ 100000) (ht : Tab10 w) :
  Ct 59 #[.string (strOf l), .int .i64 E] (.string (strOf (scL l E))) w := by
 obtain ⟨k, hk⟩ : ∃ k, E.natAbs = k := ⟨_, rfl⟩
 have hI : (strOf (dL k)).size ≤ 100 := by
  rw [strOf_size]
  exact Nat.le_trans (dL_le (k := 6) (by omega) (by omega)) (by omega)
 have hY : (strOf (mnL l)).size ≤ 1000001 := by rw [strOf_size]; have := mnL_len l; omega
 have hG : (strOf (mnL l ++ sgL E)).size ≤ 1000003 := by
  rw [strOf_size, List.length_append]
  have := mnL_len l
  have : (sgL E).length = 2 := by unfold sgL; split <;> rfl
  omega
 have hF : strOf (mnL l ++ sgL E) ++ strOf (dL k) = strOf (scL l E) := by rw [strOf_append, ← hk]; rfl
 have CI := Lib.hid (fun W (hW : Below w.heap.size w W) => titoa_any k W (by omega) (ht.on hW))
 have hb := bl_strOf hl
 have hsz := strOf_size l
 have hYY : ¬ l.length ≤ 1 → (strOf l).extract 0 1 ++ ⟨#[46]⟩ ++ (strOf l).extract 1 l.length = strOf (mnL l) := by
  intro h
  rw [ext_take, ← hsz, ext_drop, hb, dot_str, strOf_append, strOf_append]
  unfold mnL
  rw [if_neg h, List.append_assoc, List.singleton_append]
 have hY1 : l.length ≤ 1 → strOf l = strOf (mnL l) := by
  intro h
  unfold mnL
  rw [if_pos h]
 by_cases hE : E < 0
 ·have hs : strOf (mnL l) ++ (⟨#[101, 45]⟩ : ByteArray) = strOf (mnL l ++ sgL E) := by
   unfold sgL
   rw [if_pos hE, ← strOf_append]
   rfl
  by_cases hL : l.length ≤ 1
  ·exact tscientific_10 _ _ _ _ _ l.length k E w hsz (by omega) (by omega) (by omega) (by omega) (Lib.hid (hY1 hL)) (Lib.hid hY) (Lib.hid hs) (Lib.hid hG) (Lib.hid hI) (Lib.hid hF) CI
  ·exact tscientific_11 _ _ _ _ _ l.length k E w hsz hn (by omega) (by omega) (by omega) (by omega) (Lib.hid (hYY hL)) (Lib.hid hY) (Lib.hid hs) (Lib.hid hG) (Lib.hid hI) (Lib.hid hF) CI
 ·have hs : strOf (mnL l) ++ (⟨#[101, 43]⟩ : ByteArray) = strOf (mnL l ++ sgL E) := by
   unfold sgL
   rw [if_neg hE, ← strOf_append]
   rfl
  by_cases hL : l.length ≤ 1
  ·exact tscientific_00 _ _ _ _ _ l.length k E w hsz (by omega) (by omega) (by omega) (Lib.hid (hY1 hL)) (Lib.hid hY) (Lib.hid hs) (Lib.hid hG) (Lib.hid hI) (Lib.hid hF) CI
  ·exact tscientific_01 _ _ _ _ _ l.length k E w hsz hn (by omega) (by omega) (by omega) (Lib.hid (hYY hL)) (Lib.hid hY) (Lib.hid hs) (Lib.hid hG) (Lib.hid hI) (Lib.hid hF) CI

end Go.Proofs.YtfcpkdafkmohkaaGreatDoor
namespace Go.Proofs.YtfcpkdafkmohkaaGreatDoor
open Go.RowKit
theorem tscaled_as {W : World} {A : Option Addr} {n c N V x y : Nat} {two ten : Int} (hA : NV W A n c N) (hm : bln N ≤ 2000) (h1 : -1000 ≤ ten) (h2 : ten ≤ 1000) (h3 : -3000 ≤ two) (h4 : two ≤ 3000)
  (hq : scA N two ten / scB two ten = V) (hb : scA N two ten % scB two ten = 0 ↔ x % y = 0) :
  Cp 123 #[.slice A n c, .int .i64 two, .int .i64 ten] W fun e w' => ∃ A3 n3 c3, e = .returned (.tuple #[.slice A3 n3 c3, .bool (decide (x % y = 0))]) ∧ NV w' A3 n3 c3 V ∧ Below W.heap.size W w' := by
 refine (tscaled_any two ten hA hm h1 h2 h3 h4).mono ?_
 rintro e w' ⟨A3, n3, c3, rfl, hv, hw⟩
 rw [hq] at hv
 rw [decide_eq_decide.2 hb]
 exact ⟨A3, n3, c3, rfl, hv, hw⟩
def SpanQ (r : Nat) (n : Int) (w : World) (e : Ending) (w' : World) : Prop :=
 ∃ M : Nat, e = .returned (.agg #[.int .u64 ((vU r (18 - n) / vV (18 - n) : Nat) : Int), .bool (decide (vU r (18 - n) % vV (18 - n) = 0)), .int .u64 ((leastOf (vV (18 - n)) (10 ^ ((18 : Int) - n).toNat) r : Nat) : Int), .int .u64 (M : Nat)]) ∧
  (∀ c, c ≤ M ↔ mostLe (vV (18 - n)) (10 ^ ((18 : Int) - n).toNat) r c) ∧ Below w.heap.size w w'
set_option maxHeartbeats 1000000 in
theorem tspan_any {w : World} {A : Option Addr} {n0 c0 r m : Nat} {two n : Int} (hA : NV w A n0 c0 m) (hp : PartIs r m two) (h0 : 0 < r) (hpt : PointAt (fmag r) big n) (hn1 : -345 ≤ n) (hn2 : n ≤ 335) :
  Cp 95 #[.slice A n0 c0, .int .i64 two, .int .i64 (18 - n)] w (SpanQ r n w) := by
 obtain ⟨q1, q2, q3, q4, q5, q6⟩ := hp.pos
 obtain ⟨c, D, k, h1, h2, h3, h4, h5, h6, h7, h8⟩ := hp
 obtain ⟨s, hs⟩ : ∃ s, (18 : Int) - n = s := ⟨_, rfl⟩
 have hbc := bln_shift (k := k) q1
 rw [← h4] at hbc
 have hc0 : 0 < c := by rw [h4]; exact Nat.mul_pos q1 (two_pos k)
 obtain ⟨b1, b2, b3⟩ := bln_bounds hc0
 have hb53 : bln c ≤ 53 := bln_le (by omega)
 have hb53' : 4503599627370496 ≤ c → bln c = 53 := by
  intro h
  exact bln_of (L := 52) (by omega) (by omega)
 -- the ends, in quarters
 obtain ⟨e1, e2⟩ := quarters h1 h2 h3 h0
 have hHc := here_cross (s := s) (K := 1074) rfl h1 h2 h3 h4
 have hp2 : m * 2 ^ (k + 2) = 4 * c := by rw [h4, Nat.pow_add]; grind
 have hMc := end_cross (N := 4 * c + 2) (S := fmag r + fmag (r + 1)) (s := s) (K := 1074) rfl e1
 obtain ⟨bw, hbw⟩ : ∃ bw, (if c = 4503599627370496 ∧ 0 < D then 1 else 2) = bw := ⟨_, rfl⟩
 rw [hbw] at e2
 have hLc := end_cross (N := 4 * c - bw) (S := fmag (r - 1) + fmag r) (s := s) (K := 1074) rfl e2
 have hvV := vV_pos s
 have hsc := scB_pos ((D : Int) - 1076) s
 have H1 := (quot_cross hsc hvV hHc).1
 have H2 := rest_cross hsc hvV hHc
 have M1 := (quot_cross hsc (by omega) hMc).1
 have M2 := rest_cross hsc (by omega) hMc
 have L1 := (quot_cross hsc (by omega) hLc).1
 have L2 := rest_cross hsc (by omega) hLc
 have hH := (here_lt hpt).1
 have hM := most_lt h0 hpt
 have hL := least_lt h0 hpt
 unfold SpanQ
 rw [hs] at hH hM hL ⊢
 have hbw2 : bw ≤ 2 := by rw [← hbw]; split <;> omega
 rw [hp2] at H1 H2
 -- how many bits
 have bl4 : bln (4 * c + 2) ≤ 100 := bln_le (by omega)
 have bl4' : bln (4 * c) ≤ 100 := bln_le (by omega)
 have bl4'' : bln (4 * c - bw) ≤ 100 := bln_le (by omega)
 have S1 := Lib.hid (fun W A1 n1 c1 (h : NV W A1 n1 c1 (4 * c)) => tscaled_as (two := (D : Int) - 1076) (ten := s) h (by omega) (by omega) (by omega) (by omega) (by omega) H1 H2)
 have S2 := Lib.hid (fun W A1 n1 c1 (h : NV W A1 n1 c1 (4 * c - bw)) => tscaled_as (two := (D : Int) - 1076) (ten := s) h (by omega) (by omega) (by omega) (by omega) (by omega) L1 L2)
 have S3 := Lib.hid (fun W A1 n1 c1 (h : NV W A1 n1 c1 (4 * c + 2)) => tscaled_as (two := (D : Int) - 1076) (ten := s) h (by omega) (by omega) (by omega) (by omega) (by omega) M1 M2)
 have C1 := Lib.hid (fun W (h : NV W A n0 c0 m) => nbits h (by omega))
 have C2 := Lib.hid (fun W (h : NV W A n0 c0 m) => nshl h (k + 2) (by omega))
 rw [hp2] at C2
 have C4 := Lib.hid (fun W A1 n1 c1 A2 n2 c2 (h : NV W A1 n1 c1 (4 * c)) (g : NV W A2 n2 c2 bw) => nsub h g (by omega) (by omega))
 have C5 := Lib.hid (fun W => nof 2 (by omega) W)
 have C6 := Lib.hid (fun W A1 n1 c1 A2 n2 c2 (h : NV W A1 n1 c1 (4 * c)) (g : NV W A2 n2 c2 2) => nadd h g (by omega))
 have hev : decide (((D : Int) - 1074) < two) = decide (r % 2 = 0) := by
  refine decide_eq_decide.2 ?_
  rcases Nat.eq_zero_or_pos k with hk | hk
  ·rw [hk, Nat.pow_zero, Nat.mul_one] at h4
   omega
  ·obtain ⟨j, rfl⟩ : ∃ j, k = j + 1 := ⟨k - 1, by omega⟩
   rw [Nat.pow_succ, ← Nat.mul_assoc] at h4
   omega
 have hmax : max ((bln m : Int) + two - 53) (-1074) = (D : Int) - 1074 := by
  rcases Nat.eq_zero_or_pos D with hD | hD
  ·omega
  ·have := hb53' (by omega)
   omega
 have hpow : bln m = 1 → c = 2 ^ k := by
  intro h
  obtain ⟨u1, u2, _⟩ := bln_bounds q1
  rw [h] at u1 u2
  simp at u1 u2
  have : m = 1 := by omega
  rw [h4, this, Nat.one_mul]
 have fin : ∀ (e : Ending) (w' : World), (e = .returned (.agg #[.int .u64 ((vU r s / vV s : Nat) : Int), .bool (decide (vU r s % vV s = 0)), .int .u64 ((if decide ((fmag (r - 1) + fmag r) * 10 ^ s.toNat % (2 * vV s) = 0) = true ∧ decide (r % 2 = 0) = true then (fmag (r - 1) + fmag r) * 10 ^ s.toNat / (2 * vV s) else (fmag (r - 1) + fmag r) * 10 ^ s.toNat / (2 * vV s) + 1 : Nat) : Int), .int .u64 ((if decide ((fmag r + fmag (r + 1)) * 10 ^ s.toNat % (2 * vV s) = 0) = true ∧ decide (r % 2 = 0) = false then (fmag r + fmag (r + 1)) * 10 ^ s.toNat / (2 * vV s) - 1 else (fmag r + fmag (r + 1)) * 10 ^ s.toNat / (2 * vV s) : Nat) : Int)]) ∧ Below w.heap.size w w') → ∃ M : Nat, e = .returned (.agg #[.int .u64 ((vU r s / vV s : Nat) : Int), .bool (decide (vU r s % vV s = 0)), .int .u64 ((leastOf (vV s) (10 ^ s.toNat) r : Nat) : Int), .int .u64 (M : Nat)]) ∧ (∀ c, c ≤ M ↔ mostLe (vV s) (10 ^ s.toNat) r c) ∧ Below w.heap.size w w' := by
  rintro e w' ⟨he, hw⟩
  have hle : (if decide ((fmag (r - 1) + fmag r) * 10 ^ s.toNat % (2 * vV s) = 0) = true ∧ decide (r % 2 = 0) = true then (fmag (r - 1) + fmag r) * 10 ^ s.toNat / (2 * vV s) else (fmag (r - 1) + fmag r) * 10 ^ s.toNat / (2 * vV s) + 1) = leastOf (vV s) (10 ^ s.toNat) r := by
   unfold leastOf
   by_cases g : (fmag (r - 1) + fmag r) * 10 ^ s.toNat % (2 * vV s) = 0 <;> by_cases g2 : r % 2 = 0 <;> simp [g, g2]
  rw [hle] at he
  refine ⟨(if decide ((fmag r + fmag (r + 1)) * 10 ^ s.toNat % (2 * vV s) = 0) = true ∧ decide (r % 2 = 0) = false then (fmag r + fmag (r + 1)) * 10 ^ s.toNat / (2 * vV s) - 1 else (fmag r + fmag (r + 1)) * 10 ^ s.toNat / (2 * vV s)), he, ?_, hw⟩
  ·intro c
   unfold mostLe
   have := hM.2
   by_cases g : (fmag r + fmag (r + 1)) * 10 ^ s.toNat % (2 * vV s) = 0 <;> by_cases g2 : r % 2 = 0 <;> simp [g, g2] <;> omega
 rcases Nat.decEq (bln m) 1 with hb | hb
 ·have hbw' : bw = 2 := by
   rw [← hbw, if_neg]
   rintro ⟨g1, g2⟩
   apply hb
   have hb2 : bln c = 53 := by rw [g1]; exact bln_of (L := 52) (by omega) (by omega)
   have hk : k = 52 := by
    rcases Nat.lt_or_ge k 52 with h | h
    ·exfalso
     obtain ⟨d, hd⟩ : ∃ d, 52 = k + (d + 1) := ⟨52 - k - 1, by omega⟩
     have : m * 2 ^ k = 2 ^ (d + 1) * 2 ^ k := by rw [← h4, g1, ← Nat.pow_add, Nat.add_comm, ← hd]
     have := Nat.eq_of_mul_eq_mul_right (two_pos k) this
     rw [Nat.pow_succ] at this
     omega
    ·omega
   omega
  subst hbw'
  have C3 := Lib.hid (fun W => nof 2 (by omega) W)
  refine (tspan_more (bI := 2) (x4 := ((k + 2 : Nat) : Int)) (x5 := (D : Int) - 1076) (last := (D : Int) - 1074) (x1 := (bln m : Int) + two) (x2 := (bln m : Int) + two - 53) (x3 := (k : Int)) (two := two) (ten := s) hA C1 C2 C3 C4 C5 C6 S1 S2 S3 (by omega) (by omega) (by omega) hM.2 (by unfold wrap64; omega) (by unfold wrap64; omega) hmax (by unfold wrap64; omega) (by unfold wrap64; omega) (by unfold wrap64; omega) ⟨hb, rfl⟩ hev).mono ?_
  exact fin
 ·have hc2 := hpow hb
  rcases Nat.eq_zero_or_pos D with hD | hD
  ·have hbw' : bw = 2 := by
    rw [← hbw, if_neg]
    omega
   subst hbw'
   have C3 := Lib.hid (fun W => nof 2 (by omega) W)
   refine (tspan_low (bI := 2) (x4 := ((k + 2 : Nat) : Int)) (x5 := (D : Int) - 1076) (last := (D : Int) - 1074) (x1 := (bln m : Int) + two) (x2 := (bln m : Int) + two - 53) (x3 := (k : Int)) (two := two) (ten := s) hA C1 C2 C3 C4 C5 C6 S1 S2 S3 (by omega) (by omega) (by omega) hM.2 (by unfold wrap64; omega) (by unfold wrap64; omega) hmax (by unfold wrap64; omega) (by unfold wrap64; omega) (by unfold wrap64; omega) ⟨hb, decide_eq_false (by omega), rfl⟩ hev).mono ?_
   exact fin
  ·have hbw' : bw = 1 := by
    have := hb53' (by omega)
    have hk : k = 52 := by omega
    rw [← hbw, if_pos]
    rw [hk] at hc2
    omega
   subst hbw'
   have C3 := Lib.hid (fun W => nof 1 (by omega) W)
   refine (tspan_one (bI := 1) (x4 := ((k + 2 : Nat) : Int)) (x5 := (D : Int) - 1076) (last := (D : Int) - 1074) (x1 := (bln m : Int) + two) (x2 := (bln m : Int) + two - 53) (x3 := (k : Int)) (two := two) (ten := s) hA C1 C2 C3 C4 C5 C6 S1 S2 S3 (by omega) (by omega) (by omega) hM.2 (by unfold wrap64; omega) (by unfold wrap64; omega) hmax (by unfold wrap64; omega) (by unfold wrap64; omega) (by unfold wrap64; omega) ⟨hb, by omega, rfl⟩ hev).mono ?_
   exact fin

end Go.Proofs.YtfcpkdafkmohkaaGreatDoor
namespace Go.Proofs.YtfcpkdafkmohkaaGreatDoor
open Go.RowKit
theorem cut_zero (s : Bool) (n d : Nat) : Ieee.Toward.zero.cut s n d = n / 2 ^ d := by
 unfold Ieee.Toward.cut
 simp only
 rw [Nat.one_shiftLeft]
 show n / 2 ^ min d (n.log2 + 2) + 0 = _
 rw [Nat.add_zero]
 by_cases hm : d ≤ n.log2 + 2
 ·rw [Nat.min_eq_left hm]
 ·rw [Nat.min_eq_right (by omega)]
  have hlt : n < 2 ^ (n.log2 + 2) := by
   rcases Nat.eq_zero_or_pos n with h0 | h0
   ·rw [h0]; exact Nat.two_pow_pos _
   ·have := (log2_two n h0).2
    have h9 : 2 ^ (n.log2 + 1) ≤ 2 ^ (n.log2 + 2) := Nat.pow_le_pow_right (by omega) (by omega)
    omega
  have hlt2 : n < 2 ^ d := Nat.lt_of_lt_of_le hlt (Nat.pow_le_pow_right (by omega) (by omega))
  rw [Nat.div_eq_of_lt hlt, Nat.div_eq_of_lt hlt2]
theorem toInt_pos {r : Nat} (hr : r < 9218868437227405312) : (FloatKind.f64.decode r).toInt .zero = some ((fmag r / big : Nat) : Int) := by
 obtain ⟨K, hK, hb⟩ := big_K
 obtain ⟨m, e, h1, h2, h3⟩ := read_pos hr
 rw [show FloatKind.f64.decode r = Ieee.double.read r from rfl, h1]
 unfold Ieee.Datum.toInt Ieee.Datum.integral
 simp only [cut_zero, signed_eq, Nat.pow_zero, Nat.mul_one]
 have hq : (m <<< e.toNat) / 2 ^ (-e).toNat = fmag r / big := by
  rw [hb]
  have hA : fmag r * 2 ^ (-e).toNat = (m <<< e.toNat) * 2 ^ K := by
   rw [h3, Nat.shiftLeft_eq, Nat.mul_assoc, Nat.mul_assoc, ← Nat.pow_add, ← Nat.pow_add, show (e + 1074).toNat + (-e).toNat = e.toNat + K by omega]
  rw [← Nat.mul_div_mul_right (m <<< e.toNat) (2 ^ (-e).toNat) (Nat.two_pow_pos K), ← hA, Nat.mul_comm (2 ^ (-e).toNat), Nat.mul_div_mul_right _ _ (Nat.two_pow_pos _)]
 rw [hq]
 rfl
theorem conv_u64 {x T : Nat} (hx : x < 9218868437227405312) (hT : fmag x / big = T) (h : T < 9223372036854775808) (W : World) : (convert 22 71 (.float .f64 x)).run Tryz.prog W = .ok (.int .u64 (T : Int)) W := by
 refine run_convert_float_int W 22 71 .f64 .u64 _ _ (by kernel_rfl) (by kernel_rfl) ?_
 unfold floatToIntVal
 rw [toInt_pos hx, hT]
 simp only
 have m1 : IntKind.u64.min = 0 := rfl
 have m2 : IntKind.u64.max = 18446744073709551615 := rfl
 rw [if_pos (by rw [m1, m2]; omega)]
theorem frank_pos {x : Nat} (h : x ≤ 9218868437227405312) : frank x = (x : Int) ∧ rung x = x := by
 have h1 : rung x = x := by unfold rung; omega
 have h2 : fneg x = false := by unfold fneg; rw [show x / 9223372036854775808 % 2 = 0 by omega]; rfl
 refine ⟨?_, h1⟩
 unfold frank
 rw [h2, h1]
 rfl
theorem ord_lt_pos {x y : Nat} (hx : x ≤ 9218868437227405312) (hy : y ≤ 9218868437227405312) : (FloatKind.f64.format.order x y == some .lt) = decide (x < y) := by
 obtain ⟨a1, a2⟩ := frank_pos hx
 obtain ⟨b1, b2⟩ := frank_pos hy
 rw [show FloatKind.f64.format.order x y = Ieee.double.order x y from rfl, order_eq (by omega) (by omega), a1, b1, Bool.eq_iff_iff, beq_iff_eq, decide_eq_true_iff]
 rw [Option.some.injEq, Int.compare_eq_lt]
 omega
theorem ord_eq_pos {x y : Nat} (hx : x ≤ 9218868437227405312) (hy : y ≤ 9218868437227405312) : (FloatKind.f64.format.order x y == some .eq) = decide (x = y) := by
 obtain ⟨a1, a2⟩ := frank_pos hx
 obtain ⟨b1, b2⟩ := frank_pos hy
 rw [show FloatKind.f64.format.order x y = Ieee.double.order x y from rfl, order_eq (by omega) (by omega), a1, b1, Bool.eq_iff_iff, beq_iff_eq, decide_eq_true_iff]
 rw [Option.some.injEq, Int.compare_eq_eq]
 omega
theorem trunc_lt {x : Nat} (h : x < 4845873199050653696) : fmag x / big < 9007199254740992 := by
 obtain ⟨K, hK, hb⟩ := big_K
 obtain ⟨J, hJ⟩ : ∃ J : Nat, J = 1075 := ⟨_, rfl⟩
 have h2 := fmag_make 4503599627370496 J (by omega) (by omega)
 rw [hJ, show 1075 * 4503599627370496 + 4503599627370496 = 4845873199050653696 from rfl, ← hJ] at h2
 have h1 := fmag_lt.2 h
 rw [Nat.div_lt_iff_lt_mul big_pos, hb]
 rw [h2, show J = 1 + K by omega, Nat.pow_add, ← Nat.mul_assoc] at h1
 exact h1
theorem float_whole {x T : Nat} (hx : x < 9218868437227405312) (hT : T < 9007199254740992) : (FloatKind.f64.format.order x (fl T) == some .eq) = decide (fmag x = T * big) := by
 obtain ⟨K, hK, hb⟩ := big_K
 obtain ⟨f1, f2⟩ := fmag_fl hT hK
 rw [ord_eq_pos (by omega) (by omega), hb, ← f1]
 refine decide_eq_decide.2 ⟨fun h => by rw [h], fun h => fmag_inj h⟩

end Go.Proofs.YtfcpkdafkmohkaaGreatDoor
namespace Go.Proofs.YtfcpkdafkmohkaaGreatDoor
open Go.RowKit
theorem fbad_pos {x : Nat} (h0 : 0 < x) (hx : x < 9218868437227405312) : rung x = x ∧ fbad x = false := by
 have h1 : rung x = x := by unfold rung; omega
 have h2 : fneg x = false := by unfold fneg; rw [show x / 9223372036854775808 % 2 = 0 by omega]; rfl
 refine ⟨h1, ?_⟩
 unfold fbad fnan finf
 rw [h1, h2, decide_eq_false (by omega), decide_eq_false (by omega)]
 rfl
theorem parts_is {x k m : Nat} (h0 : 0 < x) (hx : x < 9218868437227405312) (h : fwhole x = 2 ^ (k + 1) * m + 2 ^ k) : PartIs x (2 * m + 1) (fpow x + (k : Nat)) := by
 obtain ⟨p1, p2⟩ := fwhole_pos h0
 have hk : k ≤ 52 := by
  have h1 : 2 ^ k < 2 ^ 53 := by omega
  have := (Nat.pow_lt_pow_iff_right (by omega)).1 h1
  omega
 have hc : fwhole x = (2 * m + 1) * 2 ^ k := by
  rw [h, Nat.pow_succ]
  grind
 by_cases hq : x / 4503599627370496 = 0
 ·refine ⟨fwhole x, 0, k, ?_, p2, .inl rfl, hc, ?_, by omega, by omega, hk⟩
  ·unfold fwhole
   rw [if_pos hq]
   omega
  ·unfold fpow
   rw [if_pos hq]
   omega
 ·refine ⟨fwhole x, x / 4503599627370496 - 1, k, ?_, p2, .inr ?_, hc, ?_, by omega, by omega, hk⟩
  ·unfold fwhole
   rw [if_neg hq]
   omega
  ·unfold fwhole
   rw [if_neg hq]
   omega
  ·unfold fpow
   rw [if_neg hq]
   omega
def PartsQ (x : Nat) (w : World) (e : Ending) (w' : World) : Prop := ∃ m two A n c, e = .returned (.tuple #[.slice A n c, .int .i64 two, .int .i64 0]) ∧ NV w' A n c m ∧ PartIs x m two ∧ Below w.heap.size w w'
theorem PartsP.q {x : Nat} {w w' : World} {e : Ending} (h0 : 0 < x) (hx : x < 9218868437227405312) (h : PartsP x w e w') : PartsQ x w e w' := by
 obtain ⟨k, m, A, n, c, h1, rfl, ⟨h2, h3, h4⟩, h5⟩ := h
 exact ⟨2 * m + 1, _, A, n, c, rfl, ⟨h2.symm, h3, h4⟩, parts_is h0 hx h1, h5⟩
theorem pparts_pos (x : Nat) (w : World) (h0 : 0 < x) (hx : x < 9218868437227405312) (ht : TzTab w) : Cp 54 #[.float .f64 x] w (PartsQ x w) := by
 obtain ⟨h1, h2⟩ := fbad_pos h0 hx
 exact (pparts_ok x w (by omega) h2 (by omega) ht).mono fun e w' h => h.q h0 hx
set_option maxRecDepth 100000 in
set_option maxHeartbeats 1000000 in
theorem tshort_whole (x N : Nat) (w : World) (D : ByteArray) (p : Int)
  (t1 : (FloatKind.f64.format.order x 4845873199050653696 == some .lt) = true)
  (hc : ∀ W : World, (convert 22 71 (.float .f64 x)).run Tryz.prog W = .ok (.int .u64 (N : Int)) W)
  (t2 : (FloatKind.f64.format.order x (floatOfInt FloatKind.f64 (N : Int)) == some .eq) = true)
  (C5 : Hid (∀ W, W = w → Ct 93 #[.int .u64 N, .int .i64 0] (.tuple #[.string D, .int .i64 p]) W)) :
  Ct 40 #[.float .f64 x] (.tuple #[.string D, .int .i64 p]) w := by
 go_enter Tryz.func40, Tryz.ntmps40
 go_wp2_with fail
 refine (C5.out _ rfl).mono ?_
 rintro e w1 ⟨rfl, b1⟩
 go_wp2
 go_ret2
 exact ⟨rfl, b1⟩
def CandQ (r : Nat) (n : Int) (k : Nat) (w : World) (e : Ending) (w' : World) : Prop := ∃ (v : Nat) (b : Bool), e = .returned (.tuple #[.int .u64 (v : Int), .bool b]) ∧ (b = true → ∃ c, cnd r n k = some c ∧ v = c * 10 ^ (18 - k)) ∧ (b = false → cnd r n k = none) ∧ Below w.heap.size w w'
def ShortQ (r : Nat) (w : World) (e : Ending) (w' : World) : Prop := ∃ L p, e = .returned (.tuple #[.string (strOf L), .int .i64 p]) ∧ SQ r L p ∧ Below w.heap.size w w'
def UnitAt (r : Nat) (n : Int) (u : Int) (k : Nat) : Prop := 1 ≤ k ∧ k ≤ 17 ∧ u = ((10 ^ (18 - k) : Nat) : Int) ∧ ∀ j, 1 ≤ j → j < k → cnd r n j = none
theorem UnitAt.next {r k : Nat} {n u : Int} (h : UnitAt r n u k) (hn : cnd r n k = none) (h17 : cnd r n 17 ≠ none) : UnitAt r n (IntKind.u64.wrap (u / 10)) (k + 1) ∧ (IntKind.u64.wrap (u / 10)) = u / 10 := by
 obtain ⟨h1, h2, rfl, h4⟩ := h
 have hk : k ≠ 17 := fun h => h17 (h ▸ hn)
 obtain ⟨i, hi⟩ : ∃ i, 18 - k = i + 1 := ⟨17 - k, by omega⟩
 have e1 : ((10 ^ (18 - k) : Nat) : Int) / 10 = ((10 ^ (18 - (k + 1)) : Nat) : Int) := by
  rw [hi, show 18 - (k + 1) = i by omega, Nat.pow_succ]
  omega
 have hle : 10 ^ (18 - (k + 1)) ≤ 10 ^ 18 := Nat.pow_le_pow_right (by omega) (by omega)
 have e2 : IntKind.u64.wrap (((10 ^ (18 - k) : Nat) : Int) / 10) = ((10 ^ (18 - k) : Nat) : Int) / 10 := by
  rw [e1, IntKind.wrap_u64]
  generalize 10 ^ (18 - (k + 1)) = b at *
  omega
 refine ⟨⟨by omega, by omega, by rw [e2, e1], ?_⟩, e2⟩
 intro j hj1 hj2
 rcases Nat.lt_or_ge j k with h | h
 ·exact h4 j hj1 h
 ·rw [show j = k by omega]
  exact hn
theorem UnitAt.bd {r k : Nat} {n u : Int} (h : UnitAt r n u k) : 0 < u ∧ u ≤ 100000000000000000 := by
 obtain ⟨h1, h2, rfl, h4⟩ := h
 have hle : 10 ^ (18 - k) ≤ 10 ^ 17 := Nat.pow_le_pow_right (by omega) (by omega)
 have := ten_pos (18 - k)
 omega
set_option maxRecDepth 100000 in
set_option maxHeartbeats 2000000 in
theorem tshort_frac (x N : Nat) (n s18 m18 : Int) (w : World) (HH LL : Nat) (ex : Bool) (PM : Nat → Prop)
  (t1 : (FloatKind.f64.format.order x 4845873199050653696 == some .lt) = true)
  (hc : ∀ W : World, (convert 22 71 (.float .f64 x)).run Tryz.prog W = .ok (.int .u64 (N : Int)) W)
  (t2 : (FloatKind.f64.format.order x (floatOfInt FloatKind.f64 (N : Int)) == some .eq) = false)
  (h17 : Hid (cnd x n 17 ≠ none)) (k1 : wrap64 (18 - n) = s18) (k2 : wrap64 (n - 18) = m18)
  (C1 : Hid (∀ W, W = w → Cp 54 #[.float .f64 x] W (PartsQ x W)))
  (C2 : Hid (∀ W A c0 n0 m two, NV W A n0 c0 m → PartIs x m two → Ct 94 #[.slice A n0 c0, .int .i64 two] (.int .i64 n) W))
  (C3 : Hid (∀ W A c0 n0 m two, NV W A n0 c0 m → PartIs x m two → Cp 95 #[.slice A n0 c0, .int .i64 two, .int .i64 s18] W fun e w' => ∃ M : Nat, e = .returned (.agg #[.int .u64 (HH : Nat), .bool ex, .int .u64 (LL : Nat), .int .u64 M]) ∧ PM M ∧ Below W.heap.size W w'))
  (C4 : Hid (∀ W M u k, PM M → UnitAt x n u k → Cp 96 #[.agg #[.int .u64 (HH : Nat), .bool ex, .int .u64 (LL : Nat), .int .u64 M], .int .u64 u] W (CandQ x n k W)))
  (C5 : Hid (∀ W u k c, Below w.heap.size w W → UnitAt x n u k → cnd x n k = some c → Cp 93 #[.int .u64 ((c * 10 ^ (18 - k) : Nat) : Int), .int .i64 m18] W (ShortQ x W))) :
  Cp 40 #[.float .f64 x] w (ShortQ x w) := by
 go_enter Tryz.func40, Tryz.ntmps40
 go_wp2_with fail
 refine (C1.out _ rfl).mono ?_
 rintro e w1 ⟨m, two, A, n0, c0, rfl, g1, hp, b1⟩
 have G1 := Lib.hid g1
 have HP := Lib.hid hp
 have B1 := Lib.hid b1
 clear g1 hp b1
 go_wp2_with fail
 refine (C2.out _ _ _ _ _ _ G1.out HP.out).mono ?_
 rintro e w2 ⟨rfl, b2⟩
 have G2 := Lib.hid (G1.out.step b2)
 have B2 := Lib.hid (below_le B1.out b2)
 clear b2
 go_wp2_with fail
 refine (C3.out _ _ _ _ _ _ G2.out HP.out).mono ?_
 rintro e w3 ⟨M, rfl, hM, b3⟩
 have HM := Lib.hid hM
 have B3 := Lib.hid (below_le B2.out b3)
 clear b3 hM
 go_wp2_with fail
 have B4 := Lib.hid (alloc_below (.cells #[.int .u64 (HH : Nat), .bool ex, .int .u64 (LL : Nat), .int .u64 M] 91) B3.out)
 have R4 := Lib.hid (show Rv (w3.alloc (.cells #[.int .u64 (HH : Nat), .bool ex, .int .u64 (LL : Nat), .int .u64 M] 91)) w3.heap.size #[.int .u64 (HH : Nat), .bool ex, .int .u64 (LL : Nat), .int .u64 M] from heap_alloc_last w3 _)
 have S4 := Lib.hid (show w3.heap.size < (w3.alloc (.cells #[.int .u64 (HH : Nat), .bool ex, .int .u64 (LL : Nat), .int .u64 M] 91)).heap.size from by simp)
 have N4 := Lib.hid (show UnitAt x n 100000000000000000 1 from ⟨by omega, by omega, rfl, fun j h1 h2 => by omega⟩)
 obtain ⟨gb, hgb⟩ : ∃ gb, w3.heap.size = gb := ⟨_, rfl⟩
 rw [hgb] at R4 S4 ⊢
 clear hgb
 generalize w3.alloc (.cells #[.int .u64 (HH : Nat), .bool ex, .int .u64 (LL : Nat), .int .u64 M] 91) = w4 at *
 go_loopw [9] (fun u wr => ∃ (v : Int) (k : Nat), u = .int .u64 v ∧ Hid (UnitAt x n v k) ∧ Hid (Rv wr gb #[.int .u64 (HH : Nat), .bool ex, .int .u64 (LL : Nat), .int .u64 M]) ∧ Hid (Below w.heap.size w wr) ∧ Hid (gb < wr.heap.size)) (fun u _ => (intOf u).toNat)
 case atStart => exact ⟨_, 1, rfl, N4, R4, B4, S4⟩
 case round =>
  obtain ⟨v, k, rfl, NK, R5, B5, S5⟩ := hrel
  obtain ⟨v0, v1⟩ := NK.out.bd
  have d0 : wr.cell? ⟨gb, 0, none⟩ = some (.int .u64 (HH : Nat)) := cell_of_row wr gb 0 _ 91 (0, 0) R5.out
  have d1 : wr.cell? ⟨gb, 1, none⟩ = some (.bool ex) := cell_of_row wr gb 1 _ 91 (0, 0) R5.out
  have d2 : wr.cell? ⟨gb, 2, none⟩ = some (.int .u64 (LL : Nat)) := cell_of_row wr gb 2 _ 91 (0, 0) R5.out
  have d3 : wr.cell? ⟨gb, 3, none⟩ = some (.int .u64 M) := cell_of_row wr gb 3 _ 91 (0, 0) R5.out
  go_wp2_with fail
  refine (C4.out _ _ _ _ HM.out NK.out).mono ?_
  rintro e w6 ⟨v', b, rfl, hb1, hb0, b6⟩
  have HB1 := Lib.hid hb1
  have HB0 := Lib.hid hb0
  have B6 := Lib.hid (below_le B5.out b6)
  have R6 := Lib.hid (show Rv w6 gb _ from (b6.block _ S5.out).trans R5.out)
  have S6 := Lib.hid (Nat.lt_of_lt_of_le S5.out b6.size)
  clear hb1 hb0 b6 d0 d1 d2 d3
  cases b
  ·have hn := HB0.out rfl
   obtain ⟨u1, u2⟩ := NK.out.next hn h17.out
   rw [u2] at u1
   have NN := Lib.hid u1
   clear hn u1 u2
   go_wp2
   go_roundw
   case rel => exact ⟨_, k + 1, rfl, NN, R6, B6, S6⟩
   case measure => simp [intOf]; omega
  ·obtain ⟨c, hc, rfl⟩ := HB1.out rfl
   have HC := Lib.hid hc
   clear hc
   go_wp2_with fail
   refine (C5.out _ _ _ _ B6.out NK.out HC.out).mono ?_
   rintro e w7 ⟨L, p, rfl, hq, b7⟩
   have HQ := Lib.hid hq
   have B7 := Lib.hid (below_le B6.out b7)
   clear hq b7
   go_wp2
   go_ret2
   exact ⟨L, p, rfl, HQ.out, B7.out⟩
set_option maxRecDepth 100000 in
set_option maxHeartbeats 2000000 in
theorem tshort_high (x : Nat) (n s18 m18 : Int) (w : World) (HH LL : Nat) (ex : Bool) (PM : Nat → Prop)
  (t1 : (FloatKind.f64.format.order x 4845873199050653696 == some .lt) = false)
  (h17 : Hid (cnd x n 17 ≠ none)) (k1 : wrap64 (18 - n) = s18) (k2 : wrap64 (n - 18) = m18)
  (C1 : Hid (∀ W, W = w → Cp 54 #[.float .f64 x] W (PartsQ x W)))
  (C2 : Hid (∀ W A c0 n0 m two, NV W A n0 c0 m → PartIs x m two → Ct 94 #[.slice A n0 c0, .int .i64 two] (.int .i64 n) W))
  (C3 : Hid (∀ W A c0 n0 m two, NV W A n0 c0 m → PartIs x m two → Cp 95 #[.slice A n0 c0, .int .i64 two, .int .i64 s18] W fun e w' => ∃ M : Nat, e = .returned (.agg #[.int .u64 (HH : Nat), .bool ex, .int .u64 (LL : Nat), .int .u64 M]) ∧ PM M ∧ Below W.heap.size W w'))
  (C4 : Hid (∀ W M u k, PM M → UnitAt x n u k → Cp 96 #[.agg #[.int .u64 (HH : Nat), .bool ex, .int .u64 (LL : Nat), .int .u64 M], .int .u64 u] W (CandQ x n k W)))
  (C5 : Hid (∀ W u k c, Below w.heap.size w W → UnitAt x n u k → cnd x n k = some c → Cp 93 #[.int .u64 ((c * 10 ^ (18 - k) : Nat) : Int), .int .i64 m18] W (ShortQ x W))) :
  Cp 40 #[.float .f64 x] w (ShortQ x w) := by
 go_enter Tryz.func40, Tryz.ntmps40
 go_wp2_with fail
 refine (C1.out _ rfl).mono ?_
 rintro e w1 ⟨m, two, A, n0, c0, rfl, g1, hp, b1⟩
 have G1 := Lib.hid g1
 have HP := Lib.hid hp
 have B1 := Lib.hid b1
 clear g1 hp b1
 go_wp2_with fail
 refine (C2.out _ _ _ _ _ _ G1.out HP.out).mono ?_
 rintro e w2 ⟨rfl, b2⟩
 have G2 := Lib.hid (G1.out.step b2)
 have B2 := Lib.hid (below_le B1.out b2)
 clear b2
 go_wp2_with fail
 refine (C3.out _ _ _ _ _ _ G2.out HP.out).mono ?_
 rintro e w3 ⟨M, rfl, hM, b3⟩
 have HM := Lib.hid hM
 have B3 := Lib.hid (below_le B2.out b3)
 clear b3 hM
 go_wp2_with fail
 have B4 := Lib.hid (alloc_below (.cells #[.int .u64 (HH : Nat), .bool ex, .int .u64 (LL : Nat), .int .u64 M] 91) B3.out)
 have R4 := Lib.hid (show Rv (w3.alloc (.cells #[.int .u64 (HH : Nat), .bool ex, .int .u64 (LL : Nat), .int .u64 M] 91)) w3.heap.size #[.int .u64 (HH : Nat), .bool ex, .int .u64 (LL : Nat), .int .u64 M] from heap_alloc_last w3 _)
 have S4 := Lib.hid (show w3.heap.size < (w3.alloc (.cells #[.int .u64 (HH : Nat), .bool ex, .int .u64 (LL : Nat), .int .u64 M] 91)).heap.size from by simp)
 have N4 := Lib.hid (show UnitAt x n 100000000000000000 1 from ⟨by omega, by omega, rfl, fun j h1 h2 => by omega⟩)
 obtain ⟨gb, hgb⟩ : ∃ gb, w3.heap.size = gb := ⟨_, rfl⟩
 rw [hgb] at R4 S4 ⊢
 clear hgb
 generalize w3.alloc (.cells #[.int .u64 (HH : Nat), .bool ex, .int .u64 (LL : Nat), .int .u64 M] 91) = w4 at *
 go_loopw [9] (fun u wr => ∃ (v : Int) (k : Nat), u = .int .u64 v ∧ Hid (UnitAt x n v k) ∧ Hid (Rv wr gb #[.int .u64 (HH : Nat), .bool ex, .int .u64 (LL : Nat), .int .u64 M]) ∧ Hid (Below w.heap.size w wr) ∧ Hid (gb < wr.heap.size)) (fun u _ => (intOf u).toNat)
 case atStart => exact ⟨_, 1, rfl, N4, R4, B4, S4⟩
 case round =>
  obtain ⟨v, k, rfl, NK, R5, B5, S5⟩ := hrel
  obtain ⟨v0, v1⟩ := NK.out.bd
  have d0 : wr.cell? ⟨gb, 0, none⟩ = some (.int .u64 (HH : Nat)) := cell_of_row wr gb 0 _ 91 (0, 0) R5.out
  have d1 : wr.cell? ⟨gb, 1, none⟩ = some (.bool ex) := cell_of_row wr gb 1 _ 91 (0, 0) R5.out
  have d2 : wr.cell? ⟨gb, 2, none⟩ = some (.int .u64 (LL : Nat)) := cell_of_row wr gb 2 _ 91 (0, 0) R5.out
  have d3 : wr.cell? ⟨gb, 3, none⟩ = some (.int .u64 M) := cell_of_row wr gb 3 _ 91 (0, 0) R5.out
  go_wp2_with fail
  refine (C4.out _ _ _ _ HM.out NK.out).mono ?_
  rintro e w6 ⟨v', b, rfl, hb1, hb0, b6⟩
  have HB1 := Lib.hid hb1
  have HB0 := Lib.hid hb0
  have B6 := Lib.hid (below_le B5.out b6)
  have R6 := Lib.hid (show Rv w6 gb _ from (b6.block _ S5.out).trans R5.out)
  have S6 := Lib.hid (Nat.lt_of_lt_of_le S5.out b6.size)
  clear hb1 hb0 b6 d0 d1 d2 d3
  cases b
  ·have hn := HB0.out rfl
   obtain ⟨u1, u2⟩ := NK.out.next hn h17.out
   rw [u2] at u1
   have NN := Lib.hid u1
   clear hn u1 u2
   go_wp2
   go_roundw
   case rel => exact ⟨_, k + 1, rfl, NN, R6, B6, S6⟩
   case measure => simp [intOf]; omega
  ·obtain ⟨c, hc, rfl⟩ := HB1.out rfl
   have HC := Lib.hid hc
   clear hc
   go_wp2_with fail
   refine (C5.out _ _ _ _ B6.out NK.out HC.out).mono ?_
   rintro e w7 ⟨L, p, rfl, hq, b7⟩
   have HQ := Lib.hid hq
   have B7 := Lib.hid (below_le B6.out b7)
   clear hq b7
   go_wp2
   go_ret2
   exact ⟨L, p, rfl, HQ.out, B7.out⟩

end Go.Proofs.YtfcpkdafkmohkaaGreatDoor
namespace Go.Proofs.YtfcpkdafkmohkaaGreatDoor
open Go.RowKit
theorem point_ex {r m : Nat} {two : Int} (h : PartIs r m two) : ∃ p : Int, PointAt (fmag r) big p ∧ -345 ≤ p ∧ p ≤ 335 := by
 obtain ⟨q1, q2, q3, q4, q5, q6⟩ := h.pos
 have hx := vcross h
 obtain ⟨u1, u2, u3⟩ := bln_bounds q1
 obtain ⟨k, hk⟩ : ∃ k, bln m = k + 1 := ⟨bln m - 1, by omega⟩
 rw [hk] at u1 u2 q2 q3 q4
 rw [Nat.add_sub_cancel] at u1
 obtain ⟨e, he⟩ : ∃ e, (k : Int) + two = e := ⟨_, rfl⟩
 obtain ⟨l1, l2⟩ := lead_at u1 u2 he
 obtain ⟨p1, p2⟩ := point_lg (u := m * 2 ^ two.toNat) (v := 2 ^ (-two).toNat) (e := e) (two_pos _) (by omega) (by omega) l1 l2
 obtain ⟨n1, hn1⟩ : ∃ n1, lg2 e + 1 = n1 := ⟨_, rfl⟩
 have b1 : -345 ≤ n1 ∧ n1 ≤ 333 := by unfold lg2 at hn1; omega
 rw [hn1] at p1 p2
 rw [show lg2 e + 2 = n1 + 1 by omega] at p2
 by_cases hh : le10 n1 (m * 2 ^ two.toNat) (2 ^ (-two).toNat)
 ·exact ⟨n1 + 1, point_cross (two_pos _) big_pos hx (p2 hh), by omega, by omega⟩
 ·exact ⟨n1, point_cross (two_pos _) big_pos hx (p1 hh), by omega, by omega⟩
theorem tpoint_is {w : World} {A : Option Addr} {n0 c0 r m : Nat} {two n : Int} (hA : NV w A n0 c0 m) (h : PartIs r m two) (hp : PointAt (fmag r) big n) :
  Ct 94 #[.slice A n0 c0, .int .i64 two] (.int .i64 n) w := by
 obtain ⟨q1, q2, q3, q4, q5, q6⟩ := h.pos
 obtain ⟨p, p1, p2, p3, hc⟩ := tpoint_any two hA q1 (by omega) (by omega) (by omega)
 have := point_one (point_cross (two_pos _) big_pos (vcross h) p1) hp
 subst this
 exact hc
theorem part_ex {x : Nat} (h0 : 0 < x) (hx : x < 9218868437227405312) : ∃ m two, PartIs x m two := by
 obtain ⟨k, m, h⟩ := odd_part _ (fwhole_pos h0).1
 exact ⟨_, _, parts_is h0 hx h⟩
theorem flo_of (N : Nat) : floatOfInt FloatKind.f64 (N : Int) = fl N := rfl
theorem tz_on {w w' : World} (h : TzTab w) (hb : Below w.heap.size w w') : TzTab w' := by
 intro i hi
 have h1 := h i hi
 have hlt : 1 < w.heap.size := by
  rcases Nat.lt_or_ge 1 w.heap.size with h2 | h2
  ·exact h2
  ·rw [World.cell?, Array.getElem?_eq_none h2] at h1
   cases h1
 rw [hb.cell (p := ⟨1, i, none⟩) hlt]
 exact h1
theorem tshortest_any (x : Nat) (w : World) (h0 : 0 < x) (hx : x < 9218868437227405312) (ht : Tab10 w) (hz : TzTab w) : Cp 40 #[.float .f64 x] w (ShortQ x w) := by
 obtain ⟨m0, two0, hp0⟩ := part_ex h0 hx
 obtain ⟨n, hn, n1, n2⟩ := point_ex hp0
 have h17 := Lib.hid (cnd_ends hn h0 hx)
 obtain ⟨T, hT⟩ : ∃ T, fmag x / big = T := ⟨_, rfl⟩
 have C1 : Hid (∀ W, W = w → Cp 54 #[.float .f64 x] W (PartsQ x W)) := Lib.hid (fun W (h : W = w) => by
  subst h
  exact pparts_pos x W h0 hx hz)
 have C2 := Lib.hid (fun W A c0 n0 m two (h : NV W A n0 c0 m) (hp : PartIs x m two) => tpoint_is h hp hn)
 have C3 : Hid (∀ W A c0 n0 m two, NV W A n0 c0 m → PartIs x m two → Cp 95 #[.slice A n0 c0, .int .i64 two, .int .i64 (18 - n)] W fun e w' => ∃ M : Nat, e = .returned (.agg #[.int .u64 ((vU x (18 - n) / vV (18 - n) : Nat) : Int), .bool (decide (vU x (18 - n) % vV (18 - n) = 0)), .int .u64 ((leastOf (vV (18 - n)) (10 ^ ((18 : Int) - n).toNat) x : Nat) : Int), .int .u64 M]) ∧ (∀ c, c ≤ M ↔ mostLe (vV (18 - n)) (10 ^ ((18 : Int) - n).toNat) x c) ∧ Below W.heap.size W w') :=
  Lib.hid (fun W A c0 n0 m two h hp => tspan_any h hp h0 hn n1 n2)
 obtain ⟨hH, _⟩ := here_lt hn
 have C4 : Hid (∀ W M u k, (∀ c, c ≤ M ↔ mostLe (vV (18 - n)) (10 ^ ((18 : Int) - n).toNat) x c) → UnitAt x n u k → Cp 96 #[.agg #[.int .u64 ((vU x (18 - n) / vV (18 - n) : Nat) : Int), .bool (decide (vU x (18 - n) % vV (18 - n) = 0)), .int .u64 ((leastOf (vV (18 - n)) (10 ^ ((18 : Int) - n).toNat) x : Nat) : Int), .int .u64 M], .int .u64 u] W (CandQ x n k W)) :=
  Lib.hid (fun W M u k hM hu => by
   obtain ⟨b1, b2⟩ := hu.bd
   obtain ⟨k1, k2, rfl, _⟩ := hu
   refine (tcand_any _ _ M (10 ^ (18 - k)) _ W (ten_pos _) (by omega)).mono ?_
   rintro e w' ⟨rfl, hw⟩
   rw [pcn_cnd (k := k) (i := 18 - k) (by omega) (by omega) h0 hx hM]
   unfold candV
   refine ⟨_, _, rfl, ?_, ?_, hw⟩
   ·intro h
    cases hc : cnd x n k with
    | none => rw [hc] at h; cases h
    | some c => exact ⟨c, rfl, rfl⟩
   ·intro h
    cases hc : cnd x n k with
    | none => rfl
    | some c => rw [hc] at h; cases h)
 have C5 : Hid (∀ W u k c, Below w.heap.size w W → UnitAt x n u k → cnd x n k = some c → Cp 93 #[.int .u64 ((c * 10 ^ (18 - k) : Nat) : Int), .int .i64 (n - 18)] W (ShortQ x W)) :=
  Lib.hid (fun W u k c hW hu hc => by
   obtain ⟨k1, k2, _, k4⟩ := hu
   have hl := cnd_last hn k1 k4 hc
   have hlt : c * 10 ^ (18 - k) < 10 ^ 19 := by
    have h10 : c ≤ 10 ^ k := by
     rcases hl with ⟨_, _, h⟩ | ⟨h1, h2⟩
     ·omega
     ·rw [h1, h2]; omega
    have h1 : c * 10 ^ (18 - k) ≤ 10 ^ k * 10 ^ (18 - k) := Nat.mul_le_mul_right _ h10
    rw [← Nat.pow_add, show k + (18 - k) = 18 by omega] at h1
    omega
   refine (ttrimmed_any (c * 10 ^ (18 - k)) (n - 18) W (by omega) (by omega) (by omega) (ht.on hW)).mono ?_
   rintro e w' ⟨rfl, hw⟩
   have hc0 : 0 < c := by
    rcases hl with ⟨h, _⟩ | ⟨_, h⟩ <;> omega
   rw [dL_zeros hc0, trz_rep, List.length_append, List.length_replicate]
   refine ⟨_, _, rfl, ⟨n, k, c, hn, k1, k2, k4, hc, rfl, ?_⟩, hw⟩
   omega)
 rcases Nat.lt_or_ge x 4845873199050653696 with hlt | hge
 ·have hTl := trunc_lt hlt
  rw [hT] at hTl
  have t1 : (FloatKind.f64.format.order x 4845873199050653696 == some .lt) = true := by rw [ord_lt_pos (by omega) (by omega)]; exact decide_eq_true hlt
  have hcv := fun W => conv_u64 hx hT (by omega) W
  have heq := float_whole (x := x) hx hTl
  rw [← flo_of] at heq
  by_cases hw : fmag x = T * big
  ·rw [decide_eq_true hw] at heq
   have hT0 : 0 < T := by
    rcases Nat.eq_zero_or_pos T with h | h
    ·rw [h, Nat.zero_mul] at hw
     have := fmag_pos.2 h0
     omega
    ·exact h
   refine (tshort_whole x T w _ _ t1 hcv heq (Lib.hid fun W h => by
    subst h
    exact ttrimmed_any T 0 W (by omega) (by omega) (by omega) ht)).mono ?_
   rintro e w' ⟨rfl, hb⟩
   refine ⟨_, _, rfl, ?_, hb⟩
   have := sq_whole hT0 hTl hx hw
   rw [Int.add_zero]
   exact this
  ·rw [decide_eq_false hw] at heq
   exact tshort_frac x T n _ _ w _ _ _ _ t1 hcv heq h17 (by unfold wrap64; omega) (by unfold wrap64; omega) C1 C2 C3 C4 C5
 ·have t1 : (FloatKind.f64.format.order x 4845873199050653696 == some .lt) = false := by rw [ord_lt_pos (by omega) (by omega)]; exact decide_eq_false (by omega)
  exact tshort_high x n _ _ w _ _ _ _ t1 h17 (by unfold wrap64; omega) (by unfold wrap64; omega) C1 C2 C3 C4 C5

end Go.Proofs.YtfcpkdafkmohkaaGreatDoor
namespace Go.Proofs.YtfcpkdafkmohkaaGreatDoor
open Go.RowKit
set_option maxRecDepth 100000 in
set_option maxHeartbeats 1000000 in
theorem tsigned_00nan (x : Nat) (f : FuncId) (F : ByteArray) (w : World) (t0 : (FloatKind.f64.format.order x 0 == some .lt) = false)
  (CN : Hid (∀ W, Cq 34 #[.float .f64 x] (.bool true) W))
  (CW : Hid (∀ W, Ct 41 #[.string ⟨#[78, 97, 78]⟩] (.string F) W)) :
  Ct 43 #[.float .f64 x, .func (Fn.func f) #[] #[]] (.string F) w := by
 go_enter Tryz.func43, Tryz.ntmps43
 go_wp2_with fail
 refine (CN.out _).mono ?_
 rintro e w' ⟨rfl, rfl⟩
 go_wp2_with fail
 refine (CW.out _).mono ?_
 rintro e w2 ⟨rfl, b2⟩
 have B2 := Lib.hid (below_le (Below.refl _ _) b2)
 clear b2
 go_wp2
 go_ret
 exact ⟨rfl, B2.out⟩
set_option maxRecDepth 100000 in
set_option maxHeartbeats 1000000 in
theorem tsigned_00inf (x : Nat) (f : FuncId) (F : ByteArray) (w : World) (t0 : (FloatKind.f64.format.order x 0 == some .lt) = false)
  (CN : Hid (∀ W, Cq 34 #[.float .f64 x] (.bool false) W))
  (CI : Hid (∀ W, Cq 36 #[.float .f64 x, .int .i64 0] (.bool true) W))
  (CW : Hid (∀ W, Ct 41 #[.string ⟨#[73, 110, 102, 105, 110, 105, 116, 121]⟩] (.string F) W)) :
  Ct 43 #[.float .f64 x, .func (Fn.func f) #[] #[]] (.string F) w := by
 go_enter Tryz.func43, Tryz.ntmps43
 go_wp2_with fail
 refine (CN.out _).mono ?_
 rintro e w' ⟨rfl, rfl⟩
 go_wp2_with fail
 refine (CI.out _).mono ?_
 rintro e w' ⟨rfl, rfl⟩
 go_wp2_with fail
 refine (CW.out _).mono ?_
 rintro e w2 ⟨rfl, b2⟩
 have B2 := Lib.hid (below_le (Below.refl _ _) b2)
 clear b2
 go_wp2
 go_ret
 exact ⟨rfl, B2.out⟩
set_option maxRecDepth 100000 in
set_option maxHeartbeats 1000000 in
theorem tsigned_00fin (x : Nat) (f : FuncId) (R S : ByteArray) (r : Nat) (F : ByteArray) (w : World) (t0 : (FloatKind.f64.format.order x 0 == some .lt) = false)
  (CN : Hid (∀ W, Cq 34 #[.float .f64 x] (.bool false) W))
  (CI : Hid (∀ W, Cq 36 #[.float .f64 x, .int .i64 0] (.bool false) W))
  (CA : Hid (∀ W, Cq 52 #[.float .f64 x] (.float .f64 r) W))
  (he : ∀ args (W : World), (callFunc f args).run Tryz.prog W = .ok (.enter f args) W)
  (CT : Hid (∀ W, W = w → Ct f #[.float .f64 r] (.string R) W))
  (hR : Hid (R.size ≤ 1000000)) (hS : ⟨#[]⟩ ++ R = S)
  (CW : Hid (∀ W, Ct 41 #[.string S] (.string F) W)) :
  Ct 43 #[.float .f64 x, .func (Fn.func f) #[] #[]] (.string F) w := by
 have g1 : ¬ 9223372036854775807 < R.size := by have := hR.out; omega
 go_enter Tryz.func43, Tryz.ntmps43
 go_wp2_with fail
 refine (CN.out _).mono ?_
 rintro e w' ⟨rfl, rfl⟩
 go_wp2_with fail
 refine (CI.out _).mono ?_
 rintro e w' ⟨rfl, rfl⟩
 go_wp2_with fail
 refine (CA.out _).mono ?_
 rintro e w' ⟨rfl, rfl⟩
 go_wp2_with fail
 refine (CT.out _ rfl).mono ?_
 rintro e w1 ⟨rfl, b1⟩
 have B1 := Lib.hid b1
 clear b1
 go_wp2_with fail
 refine (CW.out _).mono ?_
 rintro e w2 ⟨rfl, b2⟩
 have B2 := Lib.hid (below_le B1.out b2)
 clear b2
 go_wp2
 go_ret
 exact ⟨rfl, B2.out⟩
set_option maxRecDepth 100000 in
set_option maxHeartbeats 1000000 in
theorem tsigned_01inf (x : Nat) (f : FuncId) (F : ByteArray) (w : World) (t0 : (FloatKind.f64.format.order x 0 == some .lt) = true)
  (CN : Hid (∀ W, Cq 34 #[.float .f64 x] (.bool false) W))
  (CI : Hid (∀ W, Cq 36 #[.float .f64 x, .int .i64 0] (.bool true) W))
  (CW : Hid (∀ W, Ct 41 #[.string ⟨#[45, 73, 110, 102, 105, 110, 105, 116, 121]⟩] (.string F) W)) :
  Ct 43 #[.float .f64 x, .func (Fn.func f) #[] #[]] (.string F) w := by
 go_enter Tryz.func43, Tryz.ntmps43
 go_wp2_with fail
 refine (CN.out _).mono ?_
 rintro e w' ⟨rfl, rfl⟩
 go_wp2_with fail
 refine (CI.out _).mono ?_
 rintro e w' ⟨rfl, rfl⟩
 go_wp2_with fail
 refine (CW.out _).mono ?_
 rintro e w2 ⟨rfl, b2⟩
 have B2 := Lib.hid (below_le (Below.refl _ _) b2)
 clear b2
 go_wp2
 go_ret
 exact ⟨rfl, B2.out⟩
set_option maxRecDepth 100000 in
set_option maxHeartbeats 1000000 in
theorem tsigned_01fin (x : Nat) (f : FuncId) (R S : ByteArray) (r : Nat) (F : ByteArray) (w : World) (t0 : (FloatKind.f64.format.order x 0 == some .lt) = true)
  (CN : Hid (∀ W, Cq 34 #[.float .f64 x] (.bool false) W))
  (CI : Hid (∀ W, Cq 36 #[.float .f64 x, .int .i64 0] (.bool false) W))
  (CA : Hid (∀ W, Cq 52 #[.float .f64 x] (.float .f64 r) W))
  (he : ∀ args (W : World), (callFunc f args).run Tryz.prog W = .ok (.enter f args) W)
  (CT : Hid (∀ W, W = w → Ct f #[.float .f64 r] (.string R) W))
  (hR : Hid (R.size ≤ 1000000)) (hS : ⟨#[45]⟩ ++ R = S)
  (CW : Hid (∀ W, Ct 41 #[.string S] (.string F) W)) :
  Ct 43 #[.float .f64 x, .func (Fn.func f) #[] #[]] (.string F) w := by
 have g1 : ¬ 9223372036854775807 < 1 + R.size := by have := hR.out; omega
 go_enter Tryz.func43, Tryz.ntmps43
 go_wp2_with fail
 refine (CN.out _).mono ?_
 rintro e w' ⟨rfl, rfl⟩
 go_wp2_with fail
 refine (CI.out _).mono ?_
 rintro e w' ⟨rfl, rfl⟩
 go_wp2_with fail
 refine (CA.out _).mono ?_
 rintro e w' ⟨rfl, rfl⟩
 go_wp2_with fail
 refine (CT.out _ rfl).mono ?_
 rintro e w1 ⟨rfl, b1⟩
 have B1 := Lib.hid b1
 clear b1
 go_wp2_with fail
 refine (CW.out _).mono ?_
 rintro e w2 ⟨rfl, b2⟩
 have B2 := Lib.hid (below_le B1.out b2)
 clear b2
 go_wp2
 go_ret
 exact ⟨rfl, B2.out⟩
end Go.Proofs.YtfcpkdafkmohkaaGreatDoor
namespace Go.Proofs.YtfcpkdafkmohkaaGreatDoor
open Go.RowKit
set_option maxRecDepth 100000 in
theorem tplain_zero (x : Nat) (w : World) (t0 : (FloatKind.f64.format.order x 0 == some .eq) = true) : Cq 44 #[.float .f64 x] (.string ⟨#[48]⟩) w := by
 go_enter Tryz.func44, Tryz.ntmps44
 go_wp2
 go_ret
 exact ⟨rfl, rfl⟩
set_option maxRecDepth 100000 in
set_option maxHeartbeats 1000000 in
theorem tplain_low (x : Nat) (N : Int) (S F : ByteArray) (w : World) (t0 : (FloatKind.f64.format.order x 0 == some .eq) = false) (b1 : -1000 ≤ N) (b2 : N ≤ 1000) (h1 : N ≤ -6)
  (CS : Hid (∀ W, Below w.heap.size w W → Ct 59 #[.string S, .int .i64 (N - 1)] (.string F) W))
  (C : Hid (∀ W, W = w → Ct 40 #[.float .f64 x] (.tuple #[.string S, .int .i64 N]) W)) :
  Ct 44 #[.float .f64 x] (.string F) w := by
 go_enter Tryz.func44, Tryz.ntmps44
 go_wp2_with fail
 refine (C.out _ rfl).mono ?_
 rintro e w1 ⟨rfl, b1'⟩
 have B1 := Lib.hid b1'
 clear b1'
 go_wp2_with fail
 refine (CS.out _ B1.out).mono ?_
 rintro e w2 ⟨rfl, b2'⟩
 have B2 := Lib.hid (below_le B1.out b2')
 clear b2'
 go_wp2
 go_ret
 exact ⟨rfl, B2.out⟩
set_option maxRecDepth 100000 in
set_option maxHeartbeats 1000000 in
theorem tplain_high (x : Nat) (N : Int) (S F : ByteArray) (w : World) (t0 : (FloatKind.f64.format.order x 0 == some .eq) = false) (b1 : -1000 ≤ N) (b2 : N ≤ 1000) (h1 : 21 < N)
  (CS : Hid (∀ W, Below w.heap.size w W → Ct 59 #[.string S, .int .i64 (N - 1)] (.string F) W))
  (C : Hid (∀ W, W = w → Ct 40 #[.float .f64 x] (.tuple #[.string S, .int .i64 N]) W)) :
  Ct 44 #[.float .f64 x] (.string F) w := by
 have h2 : ¬ N ≤ -6 := by omega
 go_enter Tryz.func44, Tryz.ntmps44
 go_wp2_with fail
 refine (C.out _ rfl).mono ?_
 rintro e w1 ⟨rfl, b1'⟩
 have B1 := Lib.hid b1'
 clear b1'
 go_wp2_with fail
 refine (CS.out _ B1.out).mono ?_
 rintro e w2 ⟨rfl, b2'⟩
 have B2 := Lib.hid (below_le B1.out b2')
 clear b2'
 go_wp2
 go_ret
 exact ⟨rfl, B2.out⟩
set_option maxRecDepth 100000 in
set_option maxHeartbeats 1000000 in
theorem tplain_whole (x : Nat) (N : Int) (n z : Nat) (S F : ByteArray) (w : World) (t0 : (FloatKind.f64.format.order x 0 == some .eq) = false) (b1 : -1000 ≤ N) (b2 : N ≤ 1000) (h1 : -6 < N) (h2 : N ≤ 21) (hn : S.size = n) (h3 : (n : Int) ≤ N) (hz : N - (n : Int) = (z : Int)) (Z : ByteArray) (hZ : Hid (Z.size ≤ 1000)) (hF : S ++ Z = F)
  (CR : Hid (∀ W, Ct 106 #[.string ⟨#[48]⟩, .int .i64 z] (.string Z) W))
  (C : Hid (∀ W, W = w → Ct 40 #[.float .f64 x] (.tuple #[.string S, .int .i64 N]) W)) :
  Ct 44 #[.float .f64 x] (.string F) w := by
 have h4 : ¬ N ≤ -6 := by omega
 have h5 : ¬ 21 < N := by omega
 have h6 : 0 ≤ (n : Int) := by omega
 have g1 : ¬ 9223372036854775807 < n + Z.size := by have := hZ.out; omega
 have hzz := Lib.hid hz
 go_enter Tryz.func44, Tryz.ntmps44
 go_wp2_with fail
 refine (C.out _ rfl).mono ?_
 rintro e w1 ⟨rfl, b1'⟩
 have B1 := Lib.hid b1'
 clear b1'
 go_wp2_with fail
 refine (CR.out _).mono ?_
 rintro e w2 ⟨rfl, b2'⟩
 have B2 := Lib.hid (below_le B1.out b2')
 clear b2'
 go_wp2
 go_ret
 exact ⟨rfl, B2.out⟩
set_option maxRecDepth 100000 in
set_option maxHeartbeats 1000000 in
theorem tplain_point (x : Nat) (N : Int) (n z : Nat) (S F : ByteArray) (w : World) (t0 : (FloatKind.f64.format.order x 0 == some .eq) = false) (b1 : -1000 ≤ N) (b2 : N ≤ 1000) (h1 : -6 < N) (h2 : N ≤ 21) (hn : S.size = n) (h3 : N < (n : Int)) (hn2 : (n : Int) ≤ 1000) (hz : (n : Int) - N = (z : Int))
  (CP : Hid (∀ W, Ct 55 #[.string S, .int .i64 z] (.string F) W))
  (C : Hid (∀ W, W = w → Ct 40 #[.float .f64 x] (.tuple #[.string S, .int .i64 N]) W)) :
  Ct 44 #[.float .f64 x] (.string F) w := by
 have h4 : ¬ N ≤ -6 := by omega
 have h5 : ¬ 21 < N := by omega
 have h7 : ¬ (n : Int) ≤ N := by omega
 go_enter Tryz.func44, Tryz.ntmps44
 go_wp2_with fail
 refine (C.out _ rfl).mono ?_
 rintro e w1 ⟨rfl, b1'⟩
 have B1 := Lib.hid b1'
 clear b1'
 go_wp2_with fail
 refine (CP.out _).mono ?_
 rintro e w2 ⟨rfl, b2'⟩
 have B2 := Lib.hid (below_le B1.out b2')
 clear b2'
 go_wp2
 go_ret
 exact ⟨rfl, B2.out⟩

end Go.Proofs.YtfcpkdafkmohkaaGreatDoor
namespace Go.Proofs.YtfcpkdafkmohkaaGreatDoor
open Go.RowKit
theorem SQ.form {r : Nat} {D : List Nat} {N : Int} (h : SQ r D N) : ∃ d, d % 10 ≠ 0 ∧ D = dL d ∧ D.length ≤ 17 ∧ decR d (N - D.length) = r := by
 obtain ⟨n, k, c, h1, h2, h3, h4, h5, h6, h7⟩ := h
 have hd := (cnd_some h5).2
 rcases cnd_last h1 h2 h4 h5 with ⟨g1, g2, g3⟩ | ⟨g1, g2⟩
 ·obtain ⟨j, rfl⟩ : ∃ j, k = j + 1 := ⟨k - 1, by omega⟩
  have hl := dL_len (n := c) (k := j) g2 g3
  have e := dL_last g1
  rw [e] at h6
  refine ⟨c, g1, h6, by rw [h6, hl]; exact h3, ?_⟩
  rw [h6, h7, show ((dL c).length : Int) + n - ((j + 1 : Nat) : Int) - ((dL c).length : Int) = n - ((j + 1 : Nat) : Int) by omega]
  exact hd
 ·subst g1 g2
  have e : dL 10 = [49, 48] := by rw [dL_big (by omega), dL_small (by omega)]; rfl
  have e1 : dL 1 = [49] := dL_small (by omega)
  have h8 := decR_shift 1 1 (n - 1)
  rw [show 1 * 10 ^ 1 = 10 from rfl, show n - 1 + ((1 : Nat) : Int) = n by omega] at h8
  rw [e] at h6 h7
  have h9 : D = [49] := h6
  refine ⟨1, by omega, by rw [h9, e1], by rw [h9]; simp, ?_⟩
  rw [h9, h7, show (([49, 48] : List Nat).length : Int) + n - ((1 : Nat) : Int) - (([49] : List Nat).length : Int) = n by simp; omega]
  rw [← h8]
  exact hd
theorem SQ.bd {r : Nat} {D : List Nat} {N : Int} (h : SQ r D N) (h0 : 0 < r) (hr : r < 9218868437227405312) : -400 ≤ N ∧ N ≤ 400 ∧ 1 ≤ D.length ∧ D.length ≤ 17 ∧ (∀ c ∈ D, c < 256) := by
 obtain ⟨d, _, hD, hl, _⟩ := h.form
 obtain ⟨n, k, c, h1, h2, h3, h4, h5, h6, h7⟩ := h
 obtain ⟨m, two, hp⟩ := part_ex h0 hr
 obtain ⟨p, p1, p2, p3⟩ := point_ex hp
 have := point_one h1 p1
 subst this
 have hc : (dL c).length ≤ 18 ∧ 1 ≤ (dL c).length := by
  refine ⟨?_, dL_pos c⟩
  have hlt : c < 10 ^ 18 := by
   rcases cnd_last h1 h2 h4 h5 with ⟨_, _, g⟩ | ⟨_, g⟩
   ·have := Nat.pow_le_pow_right (n := 10) (by omega) (show k ≤ 18 by omega)
    omega
   ·omega
  exact dL_le hlt (by omega)
 refine ⟨by omega, by omega, ?_, hl, ?_⟩
 ·rw [hD]; exact dL_pos d
 ·intro x hx
  rw [hD] at hx
  have := dg10_iff.1 (dL_dig d x hx)
  omega
def plL (D : List Nat) (N : Int) : List Nat :=
 if N ≤ -6 ∨ 21 < N then scL D (N - 1) else if (D.length : Int) ≤ N then D ++ List.replicate (N - D.length).toNat 48 else ptL D ((D.length : Int) - N).toNat
def PlQ (r : Nat) (L : List Nat) : Prop := (r = 0 ∧ L = [48]) ∨ (0 < r ∧ ∃ D N, SQ r D N ∧ L = plL D N)
theorem scL_lt {l : List Nat} {e : Int} (hl : ∀ c ∈ l, c < 256) : ∀ c ∈ scL l e, c < 256 := by
 intro c hc
 unfold scL at hc
 rw [List.mem_append, List.mem_append] at hc
 rcases hc with (hc | hc) | hc
 ·exact mnL_lt hl c hc
 ·unfold sgL at hc
  split at hc <;> simp at hc <;> omega
 ·have := dg10_iff.1 (dL_dig _ c hc)
  omega
theorem ptL_lt {l : List Nat} {k : Nat} (hl : ∀ c ∈ l, c < 256) : ∀ c ∈ ptL l k, c < 256 := by
 intro c hc
 unfold ptL at hc
 split at hc
 ·exact hl c hc
 ·rw [List.mem_append, List.mem_cons] at hc
  rcases hc with hc | rfl | hc
  ·exact mem_rep hl c (List.mem_of_mem_take hc)
  ·omega
  ·exact mem_rep hl c (List.mem_of_mem_drop hc)
theorem scL_len {l : List Nat} {e : Int} (he : e.natAbs < 10 ^ 6) : (scL l e).length ≤ l.length + 10 := by
 unfold scL
 rw [List.length_append, List.length_append]
 have h1 := mnL_len l
 have h2 : (sgL e).length = 2 := by unfold sgL; split <;> rfl
 have h3 := dL_le he (by omega)
 omega
theorem PlQ.bd {r : Nat} {L : List Nat} (hr : r < 9218868437227405312) (h : PlQ r L) : (∀ c ∈ L, c < 256) ∧ L.length ≤ 1000 := by
 rcases h with ⟨_, rfl⟩ | ⟨h0, D, N, hq, rfl⟩
 ·exact ⟨by simp, by simp⟩
 ·obtain ⟨b1, b2, b3, b4, b5⟩ := hq.bd h0 hr
  unfold plL
  split
  ·exact ⟨scL_lt b5, Nat.le_trans (scL_len (by omega)) (by omega)⟩
  ·split
   ·refine ⟨?_, by rw [List.length_append, List.length_replicate]; omega⟩
    intro c hc
    rw [List.mem_append, List.mem_replicate] at hc
    rcases hc with hc | ⟨_, rfl⟩
    ·exact b5 c hc
    ·omega
   ·refine ⟨ptL_lt b5, ?_⟩
    by_cases hz : ((D.length : Int) - N).toNat = 0
    ·unfold ptL; rw [if_pos hz]; omega
    ·rw [ptL_len _ _ hz]; omega
theorem tshortest_is {x : Nat} {D : List Nat} {N : Int} {w : World} (h0 : 0 < x) (hx : x < 9218868437227405312) (ht : Tab10 w) (hz : TzTab w) (h : SQ x D N) :
  Ct 40 #[.float .f64 x] (.tuple #[.string (strOf D), .int .i64 N]) w := by
 refine (tshortest_any x w h0 hx ht hz).mono ?_
 rintro e w' ⟨L, p, rfl, hq, hb⟩
 obtain ⟨rfl, rfl⟩ := h.one hq
 exact ⟨rfl, hb⟩
theorem tplain_any {r : Nat} {L : List Nat} {w : World} (hr : r < 9218868437227405312) (ht : Tab10 w) (hz : TzTab w) (h : PlQ r L) :
  Ct 44 #[.float .f64 r] (.string (strOf L)) w := by
 rcases h with ⟨rfl, rfl⟩ | ⟨h0, D, N, hq, rfl⟩
 ·refine (tplain_zero 0 w (by rw [ord_eq_pos (by omega) (by omega)]; rfl)).mono ?_
  rintro e w' ⟨rfl, rfl⟩
  exact ⟨rfl, Below.refl _ _⟩
 ·obtain ⟨b1, b2, b3, b4, b5⟩ := hq.bd h0 hr
  have t0 : (FloatKind.f64.format.order r 0 == some .eq) = false := by rw [ord_eq_pos (by omega) (by omega)]; exact decide_eq_false (by omega)
  have C : Hid (∀ W, W = w → Ct 40 #[.float .f64 r] (.tuple #[.string (strOf D), .int .i64 N]) W) := Lib.hid (fun W hW => by
   subst hW
   exact tshortest_is h0 hr ht hz hq)
  have CS := Lib.hid (fun W (hW : Below w.heap.size w W) => tscientific_any D (N - 1) W b5 b3 (by omega) (by omega) (by omega) (ht.on hW))
  unfold plL
  by_cases h1 : N ≤ -6
  ·rw [if_pos (.inl h1)]
   exact tplain_low r N _ _ w t0 (by omega) (by omega) h1 CS C
  ·by_cases h2 : 21 < N
   ·rw [if_pos (.inr h2)]
    exact tplain_high r N _ _ w t0 (by omega) (by omega) h2 CS C
   ·rw [if_neg (by omega)]
    by_cases h3 : (D.length : Int) ≤ N
    ·rw [if_pos h3]
     exact tplain_whole r N D.length (N - D.length).toNat _ _ w t0 (by omega) (by omega) (by omega) (by omega) (strOf_size D) h3 (by omega) (strOf (List.replicate (N - D.length).toNat 48)) (Lib.hid (by rw [strOf_size, List.length_replicate]; omega)) (strOf_append _ _) (Lib.hid fun W => trepeat_any _ W (by omega)) C
    ·rw [if_neg h3]
     exact tplain_point r N D.length ((D.length : Int) - N).toNat _ _ w t0 (by omega) (by omega) (by omega) (by omega) (strOf_size D) (by omega) (by omega) (by omega) (Lib.hid fun W => tpointed_any D _ W b5 (by omega) (by omega)) C
def wdS (L : List Nat) : ByteArray := ⟨(bL L).toArray⟩
theorem twide_any (L : List Nat) (w : World) (hL : ∀ c ∈ L, c < 256) (hl : L.length ≤ 100000) : Ct 41 #[.string (strOf L)] (.string (wdS L)) w := by
 have h := wide_any (strOf L) w (by rw [strOf_size]; omega)
 rw [show wdL (strOf L) = bl (strOf L) from bl_data _, bl_strOf hL] at h
 exact h
theorem vwide_any (L : List Nat) (w : World) (hL : ∀ c ∈ L, c < 256) (hl : L.length ≤ 100000) : Ct 38 #[.string (strOf L)] (.string (wdS L)) w := by
 have h := rwide_any (strOf L) w (by rw [strOf_size]; omega)
 rw [show wdL (strOf L) = bl (strOf L) from bl_data _, bl_strOf hL] at h
 exact h
def ngB (x : Nat) : Bool := fneg x && decide (0 < rung x)
theorem ord_neg (x : Nat) : (FloatKind.f64.format.order x 0 == some .lt) = (!fnan x && ngB x) := by
 unfold ngB fnan
 rcases Nat.lt_or_ge 9218868437227405312 (rung x) with h | h
 ·rw [show FloatKind.f64.format.order x 0 = Ieee.double.order x 0 from rfl, order_nan (.inl h), decide_eq_true h]
  rfl
 ·obtain ⟨a1, a2⟩ := frank_pos (x := 0) (by omega)
  rw [show FloatKind.f64.format.order x 0 = Ieee.double.order x 0 from rfl, order_eq h (by omega), a1, decide_eq_false (by omega), Bool.eq_iff_iff, beq_iff_eq, Option.some.injEq, Int.compare_eq_lt]
  unfold frank
  cases fneg x
  ·simp
  ·simp
def sgx (x : Nat) : List Nat := if ngB x = true then [45] else []
def SgQ (T : Nat → List Nat → Prop) (x : Nat) (L : List Nat) : Prop :=
 (fnan x = true ∧ L = [78, 97, 78]) ∨ (fnan x = false ∧ finf x = true ∧ L = sgx x ++ infL) ∨ (fnan x = false ∧ finf x = false ∧ ∃ l, T (rung x) l ∧ L = sgx x ++ l)
theorem fin_rung {x : Nat} (h1 : fnan x = false) (h2 : finf x = false) : rung x < 9218868437227405312 := by
 have := of_decide_eq_false h1
 have := of_decide_eq_false h2
 omega
set_option maxHeartbeats 1000000 in
theorem tsigned_any {T : Nat → List Nat → Prop} {x : Nat} {L : List Nat} {w : World} (f : FuncId) (hx : x < 18446744073709551616)
  (he : ∀ args (W : World), (callFunc f args).run Tryz.prog W = .ok (.enter f args) W)
  (hT : ∀ r l, r < 9218868437227405312 → T r l → (∀ c ∈ l, c < 256) ∧ l.length ≤ 99000 ∧ Ct f #[.float .f64 r] (.string (strOf l)) w)
  (h : SgQ T x L) : Ct 43 #[.float .f64 x, .func (Fn.func f) #[] #[]] (.string (wdS L)) w := by
 have t0 := ord_neg x
 have CN := fun W => isNaN_any x W
 have CI := fun W => isInf0_any x W hx
 rcases h with ⟨h1, rfl⟩ | ⟨h1, h2, rfl⟩ | ⟨h1, h2, l, h3, rfl⟩
 ·rw [h1] at t0 CN
  exact tsigned_00nan x f _ w t0 (Lib.hid CN) (Lib.hid fun W => twide_any [78, 97, 78] W (by simp) (by simp))
 ·rw [h1] at t0 CN
  rw [h2] at CI
  unfold sgx
  cases hn : ngB x
  ·rw [hn] at t0
   exact tsigned_00inf x f _ w t0 (Lib.hid CN) (Lib.hid CI) (Lib.hid fun W => twide_any _ W (by decide) (by decide))
  ·rw [hn] at t0
   exact tsigned_01inf x f _ w t0 (Lib.hid CN) (Lib.hid CI) (Lib.hid fun W => twide_any _ W (by decide) (by decide))
 ·rw [h1] at t0 CN
  rw [h2] at CI
  obtain ⟨l1, l2, hc⟩ := hT _ l (fin_rung h1 h2) h3
  have CA := fun W => abs_any x W hx
  have CT : Hid (∀ W, W = w → Ct f #[.float .f64 (rung x)] (.string (strOf l)) W) := Lib.hid (fun W hW => by
   subst hW
   exact hc)
  unfold sgx
  cases hn : ngB x
  ·rw [hn] at t0
   refine tsigned_00fin x f (strOf l) (strOf l) (rung x) _ w t0 (Lib.hid CN) (Lib.hid CI) (Lib.hid CA) he CT (Lib.hid (by rw [strOf_size]; omega)) ?_ (Lib.hid fun W => twide_any _ W l1 (by omega))
   rw [show (⟨#[]⟩ : ByteArray) = strOf [] from rfl, strOf_append]
   rfl
  ·rw [hn] at t0
   refine tsigned_01fin x f (strOf l) (strOf ([45] ++ l)) (rung x) _ w t0 (Lib.hid CN) (Lib.hid CI) (Lib.hid CA) he CT (Lib.hid (by rw [strOf_size]; omega)) ?_ (Lib.hid fun W => twide_any _ W ?_ ?_)
   ·rw [show (⟨#[45]⟩ : ByteArray) = strOf [45] from rfl, strOf_append]
   ·intro c hc
    rw [List.mem_append, List.mem_singleton] at hc
    rcases hc with rfl | hc
    ·omega
    ·exact l1 c hc
   ·rw [List.length_append, List.length_singleton]
    omega
def TxQ (x : Nat) (L : List Nat) : Prop := SgQ PlQ x L
theorem tText_any {x : Nat} {L : List Nat} {w : World} (hx : x < 18446744073709551616) (ht : Tab10 w) (hz : TzTab w) (h : TxQ x L) :
  Ct 14 #[.float .f64 x] (.string (wdS L)) w := by
 have C := Lib.hid (fun W (hW : W = w) => tsigned_any (T := PlQ) (w := W) 44 hx (fun args W' => by go_simp) (fun r l hr hl => by
  subst hW
  obtain ⟨b1, b2⟩ := hl.bd hr
  exact ⟨b1, by omega, tplain_any hr ht hz hl⟩) h)
 clear h ht hz
 go_enter Tryz.func14, Tryz.ntmps14
 go_wp2_with fail
 refine (C.out _ rfl).mono ?_
 rintro e w1 ⟨rfl, b1⟩
 go_wp2
 go_ret
 exact ⟨rfl, b1⟩

end Go.Proofs.YtfcpkdafkmohkaaGreatDoor
