/-
  Merged texts (Wk, Sf, Wa, Wb, Wc, Sb, Se, Wd, We, Wl, Wm, Wn, Wo, Wp, Wq, Lk, Lp, Ya, Yb, Yc, Yd, Ye, Yf, Ra, Rb, Yg, Ze, Yh, Yi, Zf).
-/
import Derived.Test.YtfcpkdafkmohkaaGreatDoorPre
import Derived.Shelf.Strings.SlTrimAscii
import Derived.Shelf.Strings.Builder1
import Derived.Shelf.Strings.Builder2
import Derived.Shelf.Strings.OnBuilder
import Derived.Shelf.Strings.Trim
import Derived.Shelf.Small.Utf8
import Derived.Shelf.Small.Bits
import Derived.Shelf.Small.Strs
import Derived.Shelf.Small.Wraps
import Derived.Shelf.Strings.BuilderF
import Derived.Shelf.Strings.BuilderK
import Derived.Shelf.Strconv.Itoa0
import Derived.Shelf.Strconv.Itoa1
import Derived.Shelf.LaysM
import Derived.Shelf.Strconv.Itoa2
import Derived.Shelf.Strconv.Itoa3
import Derived.Shelf.Strings.Search1
import Derived.Shelf.Strings.Prefix
import Derived.Shelf.Unicode.Latin
import Derived.Shelf.Strings.Runes
import Derived.Shelf.Strings.AsciiSet
import Derived.Shelf.Bits.Mul64
import Derived.Shelf.Strings.Repeat
import Derived.Shelf.Unicode.DecodeSlow
import Derived.Shelf.Unicode.CaseLookup
import Derived.Shelf.Unicode.CaseConvert
import Derived.Shelf.Unicode.CaseTo
import Derived.Shelf.Unicode.CaseLaid
import Derived.Test.YtfcpkdafkmohkaaGreatDoorProg
import GoSem.Core.Utf8
import Derived.WalkKit
import Derived.WalkSpells
import Derived.WalkLawsBesides
import Derived.Deep.QuietTactic
import Derived.BigQuiet
import Derived.Lib.Hide
import Derived.Deep.OwnRows
import Derived.Laws.CopyOwn
import Derived.Deep.AppendLies
import Derived.Lib.BitFns
import Derived.Lib.Strings
import Derived.Laws.BitsAllLaws
import Derived.Lib.LaidTab
import Derived.ProofKit
import Derived.OpenShut
import Derived.SizedLaws
import Derived.Laws.BytesString
import Derived.Laws.Cells
import Derived.Deep.RegionWith
import Derived.BigRegion
import Derived.Test.YtfcpkdafkmohkaaGreatDoorRows
import Derived.Lib.ItoaNum
import Derived.Deep.DeepCutAuto
import Ieee.Arith
import GoSem.Core.Float
import Derived.Laws.FloatArith
import Derived.Laws.Externs
import Derived.Deep.RegionHeld3
import Derived.Laws.Closers25b
import Derived.Lib.SlTrimSet
import Derived.Lib.Case
import Derived.Deep.WholeRow
import Derived.Laws.Tables
import Derived.Laws.EntriesVeiled
import Derived.Lib.AppendIntMem
namespace Go.Proofs.YtfcpkdafkmohkaaGreatDoor
open Go.RowKit
theorem repL_one : ∀ c : Nat, (Lib.repeatL [48] c).map UInt8.toNat = List.replicate c 48
 | 0 => rfl
 | c + 1 => by
  rw [List.replicate_succ, ← repL_one c]
  rfl
theorem trepeat_any (c : Nat) (w : World) (hc : c ≤ 140737488355328) : Ct 106 #[.string ⟨#[48]⟩, .int .i64 c] (.string (strOf (List.replicate c 48))) w := by
 have h := Tryz.strings_Repeat ⟨#[48]⟩ c w (by omega) (by show 1 * c ≤ _; omega)
 have e : (⟨(Lib.repeatL (⟨#[48]⟩ : ByteArray).data.toList c).toArray⟩ : ByteArray) = strOf (List.replicate c 48) := str_eq (repL_one c)
 rw [e] at h
 exact h
def ptL (l : List Nat) (last : Nat) : List Nat :=
 if last = 0 then l else (List.replicate (last + 1 - l.length) 48 ++ l).take (last + 1 - l.length + l.length - last) ++ 46 :: (List.replicate (last + 1 - l.length) 48 ++ l).drop (last + 1 - l.length + l.length - last)
theorem tpointed_zero (s : ByteArray) (w : World) : Cq 55 #[.string s, .int .i64 0] (.string s) w := by
 go_enter Tryz.func55, Tryz.ntmps55
 go_wp2
 go_ret
 exact ⟨rfl, rfl⟩
set_option maxRecDepth 100000 in
set_option maxHeartbeats 1000000 in
theorem tpointed_walk (s Z E F : ByteArray) (N M z last at' : Nat) (w : World) (h0 : 0 < last) (hlast : last ≤ 1000) (hN : s.size = N) (hN2 : N ≤ 1000000) (hz : max ((last : Int) + 1 - (N : Int)) 0 = (z : Int)) (hZ : Z.size = z) (hE : Z ++ s = E) (hM : E.size = M) (hzM : z + N = M)
  (hat : M - last = at') (hlM : last < M) (hF : Hid (E.extract 0 at' ++ ⟨#[46]⟩ ++ E.extract at' M = F))
  (CR : Hid (∀ W, Ct 106 #[.string ⟨#[48]⟩, .int .i64 z] (.string Z) W)) :
  Ct 55 #[.string s, .int .i64 last] (.string F) w := by
 have t0 : ((last : Int) == 0) = false := by rw [beq_eq_false_iff_ne]; omega
 have hs1 : ¬ 9223372036854775807 < Z.size + s.size := by omega
 have k1 : (at' : Int) ≤ (M : Int) := by omega
 have k2 : (0 : Int) ≤ (at' : Int) := by omega
 have k3 : (M : Int) - (last : Int) = (at' : Int) := by omega
 have k4 : (M : Int) ≤ 2000000 := by omega
 go_enter Tryz.func55, Tryz.ntmps55
 go_wp2_with fail
 refine (CR.out _).mono ?_
 rintro e w1 ⟨rfl, b1⟩
 have B1 := Lib.hid b1
 clear b1
 go_wp2_with fail
 clear hE hN hN2 hz hZ hs1 hlast
 go_quiet (fail)
 go_wp2
 go_ret
 exact ⟨congrArg (fun z => Ending.returned (.string z)) hF.out, below_drewN' B1.out _⟩
theorem dot_str : (⟨#[46]⟩ : ByteArray) = strOf [46] := rfl
theorem ptL_len (l : List Nat) (last : Nat) (h : last ≠ 0) : (ptL l last).length = max (last + 1) l.length + 1 := by
 unfold ptL
 rw [if_neg h]
 simp
 omega
theorem mem_rep {l : List Nat} {z : Nat} (h : ∀ c ∈ l, c < 256) : ∀ c ∈ List.replicate z 48 ++ l, c < 256 := by
 intro c hc
 rw [List.mem_append, List.mem_replicate] at hc
 rcases hc with ⟨_, rfl⟩ | hc
 ·omega
 ·exact h c hc
theorem tpointed_any (l : List Nat) (last : Nat) (w : World) (hl : ∀ c ∈ l, c < 256) (hn : l.length ≤ 100000) (hlast : last ≤ 1000) :
  Ct 55 #[.string (strOf l), .int .i64 last] (.string (strOf (ptL l last))) w := by
 rcases Nat.eq_zero_or_pos last with h0 | h0
 ·subst h0
  refine (tpointed_zero (strOf l) w).mono ?_
  rintro e w' ⟨rfl, rfl⟩
  exact ⟨rfl, Below.refl _ _⟩
 ·obtain ⟨z, hz⟩ : ∃ z, last + 1 - l.length = z := ⟨_, rfl⟩
  have hE : strOf (List.replicate z 48) ++ strOf l = strOf (List.replicate z 48 ++ l) := strOf_append _ _
  have hb := bl_strOf (mem_rep (z := z) hl)
  have hM : (strOf (List.replicate z 48 ++ l)).size = z + l.length := by rw [strOf_size, List.length_append, List.length_replicate]
  refine tpointed_walk (strOf l) (strOf (List.replicate z 48)) _ _ l.length (z + l.length) z last _ w h0 hlast (strOf_size _) (by omega) (by omega) (by rw [strOf_size, List.length_replicate]) hE hM rfl rfl (by omega) (Lib.hid ?_) (Lib.hid fun W => trepeat_any z W (by omega))
  rw [ext_take, show z + l.length = (strOf (List.replicate z 48 ++ l)).size from hM.symm, ext_drop, hb, dot_str, strOf_append, strOf_append, hM]
  unfold ptL
  rw [if_neg (by omega), hz, List.append_assoc, List.singleton_append]
def mnL (l : List Nat) : List Nat := if l.length ≤ 1 then l else l.take 1 ++ 46 :: l.drop 1
def sgL (e : Int) : List Nat := if e < 0 then [101, 45] else [101, 43]
def scL (l : List Nat) (e : Int) : List Nat := mnL l ++ sgL e ++ dL e.natAbs
theorem titoa_any (k : Nat) (w : World) (hk : k ≤ 9223372036854775807) (ht : Tab10 w) : Ct 126 #[.int .i64 k] (.string (strOf (dL k))) w := by
 refine (Tryz.strconv_Itoa (k : Int) (by omega) (by omega) w ht).mono ?_
 rintro e w' ⟨rfl, a, os, rfl⟩
 refine ⟨?_, Lib.below_grow _ _ (Nat.le_refl _) _ _⟩
 rw [Lib.itoa_nonneg]
 exact congrArg (fun z => Ending.returned (.string z)) (str_eq rfl)
set_option maxRecDepth 100000 in
set_option maxHeartbeats 1000000 in
theorem tscientific_00 (s Y G I F : ByteArray) (N k : Nat) (E : Int) (w : World) (hN : s.size = N) (hk : k ≤ 100000) (hE : E = (k : Int)) (hN1 : N = 1)
  (hY : Hid (s = Y)) (hYs : Hid (Y.size ≤ 1000001)) (hG : Hid (Y ++ ⟨#[101, 43]⟩ = G)) (hGs : Hid (G.size ≤ 1000003)) (hIs : Hid (I.size ≤ 100)) (hF : Hid (G ++ I = F))
  (CI : Hid (∀ W, Below w.heap.size w W → Ct 126 #[.int .i64 k] (.string I) W)) :
  Ct 59 #[.string s, .int .i64 E] (.string F) w := by
 subst hE
 have t0 : ¬ (k : Int) < 0 := by omega
 have t1 : decide ((1 : Int) < (N : Int)) = false := decide_eq_false (by omega)
 have g1 : ¬ 9223372036854775807 < N + 2 := by omega
 have G1 := hG.out
 clear hN1
 have hY' := hY.out
 subst hY'
 go_enter Tryz.func59, Tryz.ntmps59
 have B1 := Lib.hid (Below.refl w.heap.size w)
 have g2 : ¬ 9223372036854775807 < G.size + I.size := by have := hGs.out; have := hIs.out; omega
 have F1 := hF.out
 go_wp2_with fail
 refine (CI.out _ B1.out).mono ?_
 rintro e w2 ⟨rfl, b2⟩
 have B2 := Lib.hid (below_le B1.out b2)
 clear b2
 go_wp2
 go_ret
 exact ⟨rfl, B2.out⟩
set_option maxRecDepth 100000 in
set_option maxHeartbeats 1000000 in
theorem tscientific_01 (s Y G I F : ByteArray) (N k : Nat) (E : Int) (w : World) (hN : s.size = N) (hN2 : N ≤ 1000000) (hk : k ≤ 100000) (hE : E = (k : Int)) (hN1 : 1 < N)
  (hY : Hid (s.extract 0 1 ++ ⟨#[46]⟩ ++ s.extract 1 N = Y)) (hYs : Hid (Y.size ≤ 1000001)) (hG : Hid (Y ++ ⟨#[101, 43]⟩ = G)) (hGs : Hid (G.size ≤ 1000003)) (hIs : Hid (I.size ≤ 100)) (hF : Hid (G ++ I = F))
  (CI : Hid (∀ W, Below w.heap.size w W → Ct 126 #[.int .i64 k] (.string I) W)) :
  Ct 59 #[.string s, .int .i64 E] (.string F) w := by
 subst hE
 have t0 : ¬ (k : Int) < 0 := by omega
 have t1 : (1 : Int) < (N : Int) := by omega
 have k4 : (N : Int) ≤ 1000000 := by omega
 clear hN1 hN2 
 go_enter Tryz.func59, Tryz.ntmps59
 go_wp2
 go_quiet (fail)
 have hY' := hY.out
 rw [hY']
 clear hY'
 rename_i nq
 have B1 := Lib.hid (below_drewN' (Below.refl w.heap.size w) nq)
 have g1 : ¬ 9223372036854775807 < Y.size + 2 := by have := hYs.out; omega
 have g2 : ¬ 9223372036854775807 < G.size + I.size := by have := hGs.out; have := hIs.out; omega
 have G2 := hG.out
 have F1 := hF.out
 go_wp2_with fail
 refine (CI.out _ B1.out).mono ?_
 rintro e w2 ⟨rfl, b2⟩
 have B2 := Lib.hid (below_le B1.out b2)
 clear b2
 go_wp2
 go_ret
 exact ⟨rfl, B2.out⟩
set_option maxRecDepth 100000 in
set_option maxHeartbeats 1000000 in
theorem tscientific_10 (s Y G I F : ByteArray) (N k : Nat) (E : Int) (w : World) (hN : s.size = N) (hk : k ≤ 100000) (hE : -E = (k : Int)) (h0 : 0 < k) (hN1 : N = 1)
  (hY : Hid (s = Y)) (hYs : Hid (Y.size ≤ 1000001)) (hG : Hid (Y ++ ⟨#[101, 45]⟩ = G)) (hGs : Hid (G.size ≤ 1000003)) (hIs : Hid (I.size ≤ 100)) (hF : Hid (G ++ I = F))
  (CI : Hid (∀ W, Below w.heap.size w W → Ct 126 #[.int .i64 k] (.string I) W)) :
  Ct 59 #[.string s, .int .i64 E] (.string F) w := by
 have t0 : E < 0 := by omega
 have t3 : -100000 ≤ E := by omega
 have t1 : decide ((1 : Int) < (N : Int)) = false := decide_eq_false (by omega)
 have g1 : ¬ 9223372036854775807 < N + 2 := by omega
 have G1 := hG.out
 clear hN1 h0
 have hY' := hY.out
 subst hY'
 go_enter Tryz.func59, Tryz.ntmps59
 have B1 := Lib.hid (Below.refl w.heap.size w)
 have g2 : ¬ 9223372036854775807 < G.size + I.size := by have := hGs.out; have := hIs.out; omega
 have F1 := hF.out
 go_wp2_with fail
 refine (CI.out _ B1.out).mono ?_
 rintro e w2 ⟨rfl, b2⟩
 have B2 := Lib.hid (below_le B1.out b2)
 clear b2
 go_wp2
 go_ret
 exact ⟨rfl, B2.out⟩
set_option maxRecDepth 100000 in
set_option maxHeartbeats 1000000 in
theorem tscientific_11 (s Y G I F : ByteArray) (N k : Nat) (E : Int) (w : World) (hN : s.size = N) (hN2 : N ≤ 1000000) (hk : k ≤ 100000) (hE : -E = (k : Int)) (h0 : 0 < k) (hN1 : 1 < N)
  (hY : Hid (s.extract 0 1 ++ ⟨#[46]⟩ ++ s.extract 1 N = Y)) (hYs : Hid (Y.size ≤ 1000001)) (hG : Hid (Y ++ ⟨#[101, 45]⟩ = G)) (hGs : Hid (G.size ≤ 1000003)) (hIs : Hid (I.size ≤ 100)) (hF : Hid (G ++ I = F))
  (CI : Hid (∀ W, Below w.heap.size w W → Ct 126 #[.int .i64 k] (.string I) W)) :
  Ct 59 #[.string s, .int .i64 E] (.string F) w := by
 have t0 : E < 0 := by omega
 have t3 : -100000 ≤ E := by omega
 have t1 : (1 : Int) < (N : Int) := by omega
 have k4 : (N : Int) ≤ 1000000 := by omega
 clear hN1 hN2 h0
 go_enter Tryz.func59, Tryz.ntmps59
 go_wp2
 go_quiet (fail)
 have hY' := hY.out
 rw [hY']
 clear hY'
 rename_i nq
 have B1 := Lib.hid (below_drewN' (Below.refl w.heap.size w) nq)
 have g1 : ¬ 9223372036854775807 < Y.size + 2 := by have := hYs.out; omega
 have g2 : ¬ 9223372036854775807 < G.size + I.size := by have := hGs.out; have := hIs.out; omega
 have G2 := hG.out
 have F1 := hF.out
 go_wp2_with fail
 refine (CI.out _ B1.out).mono ?_
 rintro e w2 ⟨rfl, b2⟩
 have B2 := Lib.hid (below_le B1.out b2)
 clear b2
 go_wp2
 go_ret
 exact ⟨rfl, B2.out⟩
theorem mnL_lt {l : List Nat} (hl : ∀ c ∈ l, c < 256) : ∀ c ∈ mnL l, c < 256 := by
 intro c hc
 unfold mnL at hc
 split at hc
 ·exact hl c hc
 ·rw [List.mem_append, List.mem_cons] at hc
  rcases hc with hc | rfl | hc
  ·exact hl c (List.mem_of_mem_take hc)
  ·omega
  ·exact hl c (List.mem_of_mem_drop hc)
theorem mnL_len (l : List Nat) : (mnL l).length ≤ l.length + 1 := by
 unfold mnL
 split
 ·omega
 ·simp
  omega
theorem dL_le {n k : Nat} (h : n < 10 ^ k) (hk : 0 < k) : (dL n).length ≤ k := by
 rcases Nat.eq_zero_or_pos n with h0 | h0
 ·rw [h0, dL_small (by omega)]
  simp
  omega
 ·have := ten_lt (Nat.lt_of_le_of_lt (dL_ge h0) h)
  omega
theorem tscientific_any (l : List Nat) (E : Int) (w : World) (hl : ∀ c ∈ l, c < 256) (hn0 : 1 ≤ l.length) (hn : l.length ≤ 1000000) (h1 : -100000 ≤ E) (h2 : E ≤ 100000) (ht : Tab10 w) :
  Ct 59 #[.string (strOf l), .int .i64 E] (.string (strOf (scL l E))) w := by
 obtain ⟨k, hk⟩ : ∃ k, E.natAbs = k := ⟨_, rfl⟩
 have hI : (strOf (dL k)).size ≤ 100 := by
  rw [strOf_size]
  exact Nat.le_trans (dL_le (k := 6) (by omega) (by omega)) (by omega)
 have hY : (strOf (mnL l)).size ≤ 1000001 := by rw [strOf_size]; have := mnL_len l; omega
 have hG : (strOf (mnL l ++ sgL E)).size ≤ 1000003 := by
  rw [strOf_size, List.length_append]
  have := mnL_len l
  have : (sgL E).length = 2 := by unfold sgL; split <;> rfl
  omega
 have hF : strOf (mnL l ++ sgL E) ++ strOf (dL k) = strOf (scL l E) := by rw [strOf_append, ← hk]; rfl
 have CI := Lib.hid (fun W (hW : Below w.heap.size w W) => titoa_any k W (by omega) (ht.on hW))
 have hb := bl_strOf hl
 have hsz := strOf_size l
 have hYY : ¬ l.length ≤ 1 → (strOf l).extract 0 1 ++ ⟨#[46]⟩ ++ (strOf l).extract 1 l.length = strOf (mnL l) := by
  intro h
  rw [ext_take, ← hsz, ext_drop, hb, dot_str, strOf_append, strOf_append]
  unfold mnL
  rw [if_neg h, List.append_assoc, List.singleton_append]
 have hY1 : l.length ≤ 1 → strOf l = strOf (mnL l) := by
  intro h
  unfold mnL
  rw [if_pos h]
 by_cases hE : E < 0
 ·have hs : strOf (mnL l) ++ (⟨#[101, 45]⟩ : ByteArray) = strOf (mnL l ++ sgL E) := by
   unfold sgL
   rw [if_pos hE, ← strOf_append]
   rfl
  by_cases hL : l.length ≤ 1
  ·exact tscientific_10 _ _ _ _ _ l.length k E w hsz (by omega) (by omega) (by omega) (by omega) (Lib.hid (hY1 hL)) (Lib.hid hY) (Lib.hid hs) (Lib.hid hG) (Lib.hid hI) (Lib.hid hF) CI
  ·exact tscientific_11 _ _ _ _ _ l.length k E w hsz hn (by omega) (by omega) (by omega) (by omega) (Lib.hid (hYY hL)) (Lib.hid hY) (Lib.hid hs) (Lib.hid hG) (Lib.hid hI) (Lib.hid hF) CI
 ·have hs : strOf (mnL l) ++ (⟨#[101, 43]⟩ : ByteArray) = strOf (mnL l ++ sgL E) := by
   unfold sgL
   rw [if_neg hE, ← strOf_append]
   rfl
  by_cases hL : l.length ≤ 1
  ·exact tscientific_00 _ _ _ _ _ l.length k E w hsz (by omega) (by omega) (by omega) (Lib.hid (hY1 hL)) (Lib.hid hY) (Lib.hid hs) (Lib.hid hG) (Lib.hid hI) (Lib.hid hF) CI
  ·exact tscientific_01 _ _ _ _ _ l.length k E w hsz hn (by omega) (by omega) (by omega) (Lib.hid (hYY hL)) (Lib.hid hY) (Lib.hid hs) (Lib.hid hG) (Lib.hid hI) (Lib.hid hF) CI

end Go.Proofs.YtfcpkdafkmohkaaGreatDoor
namespace Go.Proofs.YtfcpkdafkmohkaaGreatDoor
open Go.RowKit
theorem cut_zero (s : Bool) (n d : Nat) : Ieee.Toward.zero.cut s n d = n / 2 ^ d := by
 unfold Ieee.Toward.cut
 simp only
 rw [Nat.one_shiftLeft]
 show n / 2 ^ min d (n.log2 + 2) + 0 = _
 rw [Nat.add_zero]
 by_cases hm : d ≤ n.log2 + 2
 ·rw [Nat.min_eq_left hm]
 ·rw [Nat.min_eq_right (by omega)]
  have hlt : n < 2 ^ (n.log2 + 2) := by
   rcases Nat.eq_zero_or_pos n with h0 | h0
   ·rw [h0]; exact Nat.two_pow_pos _
   ·have := (log2_two n h0).2
    have h9 : 2 ^ (n.log2 + 1) ≤ 2 ^ (n.log2 + 2) := Nat.pow_le_pow_right (by omega) (by omega)
    omega
  have hlt2 : n < 2 ^ d := Nat.lt_of_lt_of_le hlt (Nat.pow_le_pow_right (by omega) (by omega))
  rw [Nat.div_eq_of_lt hlt, Nat.div_eq_of_lt hlt2]
theorem toInt_pos {r : Nat} (hr : r < 9218868437227405312) : (FloatKind.f64.decode r).toInt .zero = some ((fmag r / big : Nat) : Int) := by
 obtain ⟨K, hK, hb⟩ := big_K
 obtain ⟨m, e, h1, h2, h3⟩ := read_pos hr
 rw [show FloatKind.f64.decode r = Ieee.double.read r from rfl, h1]
 unfold Ieee.Datum.toInt Ieee.Datum.integral
 simp only [cut_zero, signed_eq, Nat.pow_zero, Nat.mul_one]
 have hq : (m <<< e.toNat) / 2 ^ (-e).toNat = fmag r / big := by
  rw [hb]
  have hA : fmag r * 2 ^ (-e).toNat = (m <<< e.toNat) * 2 ^ K := by
   rw [h3, Nat.shiftLeft_eq, Nat.mul_assoc, Nat.mul_assoc, ← Nat.pow_add, ← Nat.pow_add, show (e + 1074).toNat + (-e).toNat = e.toNat + K by omega]
  rw [← Nat.mul_div_mul_right (m <<< e.toNat) (2 ^ (-e).toNat) (Nat.two_pow_pos K), ← hA, Nat.mul_comm (2 ^ (-e).toNat), Nat.mul_div_mul_right _ _ (Nat.two_pow_pos _)]
 rw [hq]
 rfl
theorem conv_u64 {x T : Nat} (hx : x < 9218868437227405312) (hT : fmag x / big = T) (h : T < 9223372036854775808) (W : World) : (convert 22 71 (.float .f64 x)).run Tryz.prog W = .ok (.int .u64 (T : Int)) W := by
 refine run_convert_float_int W 22 71 .f64 .u64 _ _ (by kernel_rfl) (by kernel_rfl) ?_
 unfold floatToIntVal
 rw [toInt_pos hx, hT]
 simp only
 have m1 : IntKind.u64.min = 0 := rfl
 have m2 : IntKind.u64.max = 18446744073709551615 := rfl
 rw [if_pos (by rw [m1, m2]; omega)]
theorem frank_pos {x : Nat} (h : x ≤ 9218868437227405312) : frank x = (x : Int) ∧ rung x = x := by
 have h1 : rung x = x := by unfold rung; omega
 have h2 : fneg x = false := by unfold fneg; rw [show x / 9223372036854775808 % 2 = 0 by omega]; rfl
 refine ⟨?_, h1⟩
 unfold frank
 rw [h2, h1]
 rfl
theorem ord_lt_pos {x y : Nat} (hx : x ≤ 9218868437227405312) (hy : y ≤ 9218868437227405312) : (FloatKind.f64.format.order x y == some .lt) = decide (x < y) := by
 obtain ⟨a1, a2⟩ := frank_pos hx
 obtain ⟨b1, b2⟩ := frank_pos hy
 rw [show FloatKind.f64.format.order x y = Ieee.double.order x y from rfl, order_eq (by omega) (by omega), a1, b1, Bool.eq_iff_iff, beq_iff_eq, decide_eq_true_iff]
 rw [Option.some.injEq, Int.compare_eq_lt]
 omega
theorem ord_eq_pos {x y : Nat} (hx : x ≤ 9218868437227405312) (hy : y ≤ 9218868437227405312) : (FloatKind.f64.format.order x y == some .eq) = decide (x = y) := by
 obtain ⟨a1, a2⟩ := frank_pos hx
 obtain ⟨b1, b2⟩ := frank_pos hy
 rw [show FloatKind.f64.format.order x y = Ieee.double.order x y from rfl, order_eq (by omega) (by omega), a1, b1, Bool.eq_iff_iff, beq_iff_eq, decide_eq_true_iff]
 rw [Option.some.injEq, Int.compare_eq_eq]
 omega
theorem trunc_lt {x : Nat} (h : x < 4845873199050653696) : fmag x / big < 9007199254740992 := by
 obtain ⟨K, hK, hb⟩ := big_K
 obtain ⟨J, hJ⟩ : ∃ J : Nat, J = 1075 := ⟨_, rfl⟩
 have h2 := fmag_make 4503599627370496 J (by omega) (by omega)
 rw [hJ, show 1075 * 4503599627370496 + 4503599627370496 = 4845873199050653696 from rfl, ← hJ] at h2
 have h1 := fmag_lt.2 h
 rw [Nat.div_lt_iff_lt_mul big_pos, hb]
 rw [h2, show J = 1 + K by omega, Nat.pow_add, ← Nat.mul_assoc] at h1
 exact h1
theorem float_whole {x T : Nat} (hx : x < 9218868437227405312) (hT : T < 9007199254740992) : (FloatKind.f64.format.order x (fl T) == some .eq) = decide (fmag x = T * big) := by
 obtain ⟨K, hK, hb⟩ := big_K
 obtain ⟨f1, f2⟩ := fmag_fl hT hK
 rw [ord_eq_pos (by omega) (by omega), hb, ← f1]
 refine decide_eq_decide.2 ⟨fun h => by rw [h], fun h => fmag_inj h⟩

end Go.Proofs.YtfcpkdafkmohkaaGreatDoor
namespace Go.Proofs.YtfcpkdafkmohkaaGreatDoor
open Go.RowKit
set_option maxRecDepth 100000 in
theorem tscaled_walk {w : World} {A : Option Addr} {n c m T B : Nat} {two ten t : Int} {Q : World → Ending → World → Prop} (hA : NV w A n c m)
  (C1 : Hid (∀ W, NV W A n c m → Cp 185 #[.slice A n c, .int .i64 ten] W (NRet T W)))
  (C3 : Hid (∀ W A1 n1 c1, NV W A1 n1 c1 1 → Cp 185 #[.slice A1 n1 c1, .int .i64 (-ten)] W (NRet B W)))
  (C6 : Hid (∀ W A1 n1 c1 A2 n2 c2, NV W A1 n1 c1 T → NV W A2 n2 c2 B → Cp 109 #[.slice A1 n1 c1, .slice A2 n2 c2, .int .i64 t] W fun e w' => ∃ v b, e = .returned (.tuple #[v, .bool b]) ∧ Q W e w'))
  (k1 : IntKind.i64.wrap (-ten) = -ten) (k2 : IntKind.i64.wrap (two + ten) = t) :
  Cp 123 #[.slice A n c, .int .i64 two, .int .i64 ten] w fun e w' => ∃ W, Q W e w' ∧ Below w.heap.size w W := by
 have C2 := Lib.hid (fun W => nof 1 (by omega) W)
 have HA := Lib.hid hA
 clear hA
 go_enter Tryz.func123, Tryz.ntmps123
 go_wp2_with fail
 refine (C1.out _ HA.out).mono ?_
 rintro e w1 ⟨A1, n1, c1, rfl, g1, b1⟩
 have G1 := Lib.hid g1
 have B1 := Lib.hid b1
 clear g1 b1
 go_wp2_with fail
 refine (C2.out _).mono ?_
 rintro e w2 ⟨A2, n2, c2, rfl, g2, b2⟩
 have G2 := Lib.hid g2
 have G1' := Lib.hid (G1.out.step b2)
 have B2 := Lib.hid (below_le B1.out b2)
 clear g2 b2
 go_wp2_with fail
 refine (C3.out _ _ _ _ G2.out).mono ?_
 rintro e w3 ⟨A3, n3, c3, rfl, g3, b3⟩
 have G3 := Lib.hid g3
 have G1'' := Lib.hid (G1'.out.step b3)
 have B3 := Lib.hid (below_le B2.out b3)
 clear g3 b3
 go_wp2_with fail
 refine (C6.out _ _ _ _ _ _ _ G1''.out G3.out).mono ?_
 rintro e w4 ⟨v, b, rfl, q4⟩
 have Q4 := Lib.hid q4
 clear q4
 go_wp2
 go_ret2
 exact ⟨_, Q4.out, B3.out⟩
def scA (m : Nat) (two ten : Int) : Nat := m * 5 ^ ten.toNat * 2 ^ (two + ten).toNat
def scB (two ten : Int) : Nat := 5 ^ (-ten).toNat * 2 ^ (-(two + ten)).toNat
theorem scB_pos (two ten : Int) : 0 < scB two ten := Nat.mul_pos (Nat.pow_pos (by omega)) (two_pos _)
theorem tscaled_any {w : World} {A : Option Addr} {n c m : Nat} (two ten : Int) (hA : NV w A n c m) (hm : bln m ≤ 2000) (h1 : -1000 ≤ ten) (h2 : ten ≤ 1000) (h3 : -3000 ≤ two) (h4 : two ≤ 3000) :
  Cp 123 #[.slice A n c, .int .i64 two, .int .i64 ten] w (QRet (scA m two ten) (scB two ten) w) := by
 have f1 := bln_five ten.toNat
 have f2 := bln_five (-ten).toNat
 have g1 := bln_mul m (5 ^ ten.toNat)
 have p2 : 0 < 5 ^ (-ten).toNat := Nat.pow_pos (by omega)
 have C1 := Lib.hid (fun W (h : NV W A n c m) => traised_any ten h (by omega) (by omega) (by omega))
 have C3 : Hid (∀ W A1 n1 c1, NV W A1 n1 c1 1 → Cp 185 #[.slice A1 n1 c1, .int .i64 (-ten)] W (NRet (5 ^ (-ten).toNat) W)) := Lib.hid (fun W A1 n1 c1 h => by
  have := traised_any (-ten) h (by rw [show bln 1 = 1 by decide]; omega) (by omega) (by omega)
  rw [Nat.one_mul] at this
  exact this)
 have C6 : Hid (∀ W A1 n1 c1 A2 n2 c2, NV W A1 n1 c1 (m * 5 ^ ten.toNat) → NV W A2 n2 c2 (5 ^ (-ten).toNat) → Cp 109 #[.slice A1 n1 c1, .slice A2 n2 c2, .int .i64 (two + ten)] W fun e w' => ∃ v b, e = .returned (.tuple #[v, .bool b]) ∧ QRet (scA m two ten) (scB two ten) W e w') := Lib.hid (fun W A1 n1 c1 A2 n2 c2 h g => (tratio_any (two + ten) h g (by omega) (by omega) p2 (by omega) (by omega)).mono (by
  rintro e w' ⟨A3, n3, c3, rfl, hv, hb⟩
  exact ⟨_, _, rfl, A3, n3, c3, rfl, hv, hb⟩))
 refine (tscaled_walk hA C1 C3 C6 (IntWalk.i64_in _ (by omega)) (IntWalk.i64_in _ (by omega))).mono ?_
 rintro e w' ⟨W, ⟨A3, n3, c3, rfl, hv, hb⟩, hw⟩
 exact ⟨A3, n3, c3, rfl, hv, below_le hw hb⟩

end Go.Proofs.YtfcpkdafkmohkaaGreatDoor
namespace Go.Proofs.YtfcpkdafkmohkaaGreatDoor
open Go.RowKit
theorem sc_le (m : Nat) (two n : Int) : scB two (-n) ≤ scA m two (-n) ↔ le10 n (m * 2 ^ two.toNat) (2 ^ (-two).toNat) := by
 unfold le10 scA scB
 obtain ⟨a, ha⟩ : ∃ a, two.toNat = a := ⟨_, rfl⟩
 obtain ⟨b, hb⟩ : ∃ b, (-two).toNat = b := ⟨_, rfl⟩
 obtain ⟨c, hc⟩ : ∃ c, n.toNat = c := ⟨_, rfl⟩
 obtain ⟨d, hd⟩ : ∃ d, (-n).toNat = d := ⟨_, rfl⟩
 obtain ⟨p, hp⟩ : ∃ p, (two + -n).toNat = p := ⟨_, rfl⟩
 obtain ⟨q, hq⟩ : ∃ q, (-(two + -n)).toNat = q := ⟨_, rfl⟩
 rw [ha, hb, hc, hd, hp, hq, show (- -n).toNat = c by omega]
 have e : 2 ^ q * (2 ^ a * 2 ^ d) = 2 ^ p * (2 ^ b * 2 ^ c) := by
  rw [← Nat.pow_add, ← Nat.pow_add, ← Nat.pow_add, ← Nat.pow_add]
  exact congrArg (fun k => 2 ^ k) (by omega)
 have t1 : (10 : Nat) ^ c = 5 ^ c * 2 ^ c := by rw [← Nat.mul_pow]
 have t2 : (10 : Nat) ^ d = 5 ^ d * 2 ^ d := by rw [← Nat.mul_pow]
 rw [t1, t2]
 have hq0 := two_pos q
 have hbc : 0 < 2 ^ b * 2 ^ c := Nat.mul_pos (two_pos b) (two_pos c)
 generalize 2 ^ q = Q at *
 generalize 2 ^ a = A at *
 generalize 2 ^ d = D at *
 generalize 2 ^ p = P at *
 generalize 2 ^ b = B at *
 generalize 2 ^ c = C at *
 generalize 5 ^ c = F at *
 generalize 5 ^ d = G at *
 have r1 : B * (F * C) * Q = F * Q * (B * C) := by grind
 have r2 : m * A * (G * D) * Q = m * G * (Q * (A * D)) := by grind
 have r3 : m * G * P * (B * C) = m * G * (P * (B * C)) := by grind
 constructor
 ·intro h
  refine Nat.le_of_mul_le_mul_right ?_ hq0
  rw [r1, r2, e, ← r3]
  exact Nat.mul_le_mul_right _ h
 ·intro h
  refine Nat.le_of_mul_le_mul_right ?_ hbc
  have := Nat.mul_le_mul_right Q h
  rw [r1, r2, e, ← r3] at this
  exact this
set_option maxRecDepth 100000 in
set_option maxHeartbeats 1000000 in
theorem tpoint_walk {w : World} {A : Option Addr} {n c m bt V : Nat} {two x1 x2 x3 x4 x5 n1 : Int} (hA : NV w A n c m) (up : Bool)
  (C1 : Hid (∀ W, NV W A n c m → Cq 156 #[.slice A n c] (.int .i64 (bt : Nat)) W))
  (C2 : Hid (∀ W, NV W A n c m → Cp 123 #[.slice A n c, .int .i64 two, .int .i64 (-n1)] W fun e w' => ∃ A3 n3 c3 b, e = .returned (.tuple #[.slice A3 n3 c3, .bool b]) ∧ NV w' A3 n3 c3 V ∧ Below W.heap.size W w'))
  (k1 : wrap64 ((bt : Int) + two) = x1) (k2 : wrap64 (x1 - 1) = x2) (k3 : wrap64 (x2 * 78913) = x3) (k4 : x3 / 262144 = x4) (k5 : wrap64 (x4 + 1) = n1) (k6 : wrap64 (-n1) = -n1) (k7 : wrap64 (n1 + 1) = x5) (hup : up = decide (0 < V)) :
  Ct 94 #[.slice A n c, .int .i64 two] (.int .i64 (if up = true then x5 else n1)) w := by
 have HA := Lib.hid hA
 have HU := Lib.hid hup
 clear hA hup
 go_enter Tryz.func94, Tryz.ntmps94
 go_wp2_with fail
 refine (C1.out _ HA.out).mono ?_
 rintro e w' ⟨rfl, rfl⟩
 go_wp2_with fail
 refine (C2.out _ HA.out).mono ?_
 rintro e w1 ⟨A3, n3, c3, b, rfl, g, b1⟩
 have B1 := Lib.hid b1
 have hl := g.len
 clear b1
 have h0 := HU.out
 cases up
 ·have hV : V = 0 := by
   have := of_decide_eq_false h0.symm
   omega
  have t1 : ¬ (0 : Int) < (n3 : Int) := by
   rw [hV] at hl
   have : n3 = 0 := by rw [← hl]; rfl
   omega
  clear g hl h0 hV
  go_wp2
  go_ret
  exact ⟨rfl, B1.out⟩
 ·have hV : 0 < V := of_decide_eq_true h0.symm
  have t1 : (0 : Int) < (n3 : Int) := by
   have h2 : (wds V) ≠ [] := fun e => by
    have h3 := wds_val V
    rw [e] at h3
    have : val [] = 0 := rfl
    omega
   have := List.length_pos_iff.2 h2
   omega
  clear g hl h0 hV
  go_wp2
  go_ret
  exact ⟨rfl, B1.out⟩

end Go.Proofs.YtfcpkdafkmohkaaGreatDoor
namespace Go.Proofs.YtfcpkdafkmohkaaGreatDoor
open Go.RowKit
theorem lead_at {m k : Nat} {two e : Int} (h1 : 2 ^ k ≤ m) (h2 : m < 2 ^ (k + 1)) (he : (k : Int) + two = e) :
  2 ^ e.toNat * 2 ^ (-two).toNat ≤ m * 2 ^ two.toNat * 2 ^ (-e).toNat ∧ m * 2 ^ two.toNat * 2 ^ (-e).toNat < 2 * 2 ^ e.toNat * 2 ^ (-two).toNat := by
 have key : 2 ^ k * 2 ^ two.toNat * 2 ^ (-e).toNat = 2 ^ e.toNat * 2 ^ (-two).toNat := by
  rw [← Nat.pow_add, ← Nat.pow_add, ← Nat.pow_add]
  exact congrArg (fun k => 2 ^ k) (by omega)
 have hp := two_pos two.toNat
 have hq := two_pos (-e).toNat
 constructor
 ·rw [← key]
  exact Nat.mul_le_mul_right _ (Nat.mul_le_mul_right _ h1)
 ·rw [Nat.mul_assoc, Nat.mul_assoc 2, ← key, ← Nat.mul_assoc m, ← Nat.mul_assoc 2, ← Nat.mul_assoc 2, show 2 * 2 ^ k = 2 ^ (k + 1) by rw [Nat.pow_succ, Nat.mul_comm]]
  exact Nat.mul_lt_mul_of_pos_right (Nat.mul_lt_mul_of_pos_right h2 hp) hq
theorem tpoint_any {w : World} {A : Option Addr} {n c m : Nat} (two : Int) (hA : NV w A n c m) (h0 : 0 < m) (hm : bln m ≤ 100) (h1 : -1140 < (bln m : Int) + two - 1) (h2 : (bln m : Int) + two - 1 < 1100) :
  ∃ p : Int, PointAt (m * 2 ^ two.toNat) (2 ^ (-two).toNat) p ∧ -345 ≤ p ∧ p ≤ 335 ∧ Ct 94 #[.slice A n c, .int .i64 two] (.int .i64 p) w := by
 obtain ⟨u1, u2, u3⟩ := bln_bounds h0
 obtain ⟨k, hk⟩ : ∃ k, bln m = k + 1 := ⟨bln m - 1, by omega⟩
 have C1 := Lib.hid (fun W (h : NV W A n c m) => nbits h (by omega))
 rw [hk] at u1 u2 hm h1 h2 C1
 rw [Nat.add_sub_cancel] at u1
 obtain ⟨e, he⟩ : ∃ e, (k : Int) + two = e := ⟨_, rfl⟩
 obtain ⟨l1, l2⟩ := lead_at u1 u2 he
 obtain ⟨p1, p2⟩ := point_lg (u := m * 2 ^ two.toNat) (v := 2 ^ (-two).toNat) (e := e) (two_pos _) (by omega) (by omega) l1 l2
 obtain ⟨n1, hn1⟩ : ∃ n1, lg2 e + 1 = n1 := ⟨_, rfl⟩
 have hlg : e * 78913 / 262144 = n1 - 1 := by unfold lg2 at hn1; omega
 have b1 : -345 ≤ n1 ∧ n1 ≤ 333 := by omega
 rw [hn1] at p1 p2
 rw [show lg2 e + 2 = n1 + 1 by omega] at p2
 have hs := sc_le m two n1
 have hq : (0 < scA m two (-n1) / scB two (-n1)) ↔ le10 n1 (m * 2 ^ two.toNat) (2 ^ (-two).toNat) := by
  rw [Nat.div_pos_iff, ← hs]
  exact ⟨fun h => h.2, fun h => ⟨scB_pos _ _, h⟩⟩
 have C2 : Hid (∀ W, NV W A n c m → Cp 123 #[.slice A n c, .int .i64 two, .int .i64 (-n1)] W fun e w' => ∃ A3 n3 c3 b, e = .returned (.tuple #[.slice A3 n3 c3, .bool b]) ∧ NV w' A3 n3 c3 (scA m two (-n1) / scB two (-n1)) ∧ Below W.heap.size W w') := Lib.hid (fun W h => (tscaled_any two (-n1) h (by omega) (by omega) (by omega) (by omega) (by omega)).mono (by
  rintro e w' ⟨A3, n3, c3, rfl, hv, hb⟩
  exact ⟨A3, n3, c3, _, rfl, hv, hb⟩))
 have W := fun up h => tpoint_walk (two := two) (x1 := ((k + 1 : Nat) : Int) + two) (x2 := e) (x3 := e * 78913) (x4 := n1 - 1) (x5 := n1 + 1) (n1 := n1) hA up C1 C2 (by unfold wrap64; omega) (by unfold wrap64; omega) (by unfold wrap64; omega) hlg (by unfold wrap64; omega) (by unfold wrap64; omega) (by unfold wrap64; omega) h
 by_cases h : 0 < scA m two (-n1) / scB two (-n1)
 ·exact ⟨n1 + 1, p2 (hq.1 h), by omega, by omega, W true (decide_eq_true h).symm⟩
 ·exact ⟨n1, p1 (fun hh => h (hq.2 hh)), by omega, by omega, W false (decide_eq_false h).symm⟩

end Go.Proofs.YtfcpkdafkmohkaaGreatDoor
namespace Go.Proofs.YtfcpkdafkmohkaaGreatDoor
theorem two_move {N S P Q x y : Nat} (h : N * 2 ^ x = S * 2 ^ y) (e : P + y = x + Q) : N * 2 ^ P = S * 2 ^ Q := by
 refine Nat.eq_of_mul_eq_mul_right (two_pos y) ?_
 rw [Nat.mul_assoc, ← Nat.pow_add, e, Nat.pow_add, ← Nat.mul_assoc, h, Nat.mul_assoc, Nat.mul_assoc, Nat.mul_comm (2 ^ y)]
theorem sc_cross {N S M x y : Nat} {two ten : Int} (hxy : (x : Int) - y = two + M) (h : N * 2 ^ x = S * 2 ^ y) :
  scA N two ten * (2 ^ M * 10 ^ (-ten).toNat) = S * 10 ^ ten.toNat * scB two ten := by
 unfold scA scB
 obtain ⟨a, ha⟩ : ∃ a, ten.toNat = a := ⟨_, rfl⟩
 obtain ⟨b, hb⟩ : ∃ b, (-ten).toNat = b := ⟨_, rfl⟩
 obtain ⟨p, hp⟩ : ∃ p, (two + ten).toNat = p := ⟨_, rfl⟩
 obtain ⟨q, hq⟩ : ∃ q, (-(two + ten)).toNat = q := ⟨_, rfl⟩
 rw [ha, hb, hp, hq]
 have key := two_move (P := p + (M + b)) (Q := a + q) h (by omega)
 rw [Nat.pow_add, Nat.pow_add, Nat.pow_add] at key
 have t1 : (10 : Nat) ^ a = 5 ^ a * 2 ^ a := by rw [← Nat.mul_pow]
 have t2 : (10 : Nat) ^ b = 5 ^ b * 2 ^ b := by rw [← Nat.mul_pow]
 rw [t1, t2]
 generalize 2 ^ p = P' at *
 generalize 2 ^ M = M' at *
 generalize 2 ^ b = B' at *
 generalize 2 ^ a = A' at *
 generalize 2 ^ q = Q' at *
 generalize 5 ^ a = F
 generalize 5 ^ b = G
 have r1 : N * F * P' * (M' * (G * B')) = F * G * (N * (P' * (M' * B'))) := by grind
 have r2 : S * (F * A') * (G * Q') = F * G * (S * (A' * Q')) := by grind
 rw [r1, r2, key]
theorem rest_cross {a b c d : Nat} (hb : 0 < b) (hd : 0 < d) (h : a * d = c * b) : a % b = 0 ↔ c % d = 0 := by
 have e := (quot_cross hb hd h).1
 have h1 := Nat.div_add_mod a b
 have h2 := Nat.div_add_mod c d
 generalize a % b = s at *
 generalize c % d = t at *
 rw [← e] at h2
 generalize a / b = q at *
 have k1 : a * d = b * q * d + s * d := by rw [← h1]; grind
 have k2 : c * b = b * q * d + t * b := by rw [← h2]; grind
 have k3 : s * d = t * b := by omega
 constructor
 ·intro h0
  rw [h0, Nat.zero_mul] at k3
  rcases Nat.mul_eq_zero.1 k3.symm with h | h
  ·exact h
  ·omega
 ·intro h0
  rw [h0, Nat.zero_mul] at k3
  rcases Nat.mul_eq_zero.1 k3 with h | h
  ·exact h
  ·omega
theorem quarters {r c D : Nat} (h1 : r = D * 4503599627370496 + c) (h2 : c < 9007199254740992) (h3 : D = 0 ∨ 4503599627370496 ≤ c) (h0 : 0 < r) :
  2 * (fmag r + fmag (r + 1)) = (4 * c + 2) * 2 ^ D ∧ 2 * (fmag (r - 1) + fmag r) = (4 * c - (if c = 4503599627370496 ∧ 0 < D then 1 else 2)) * 2 ^ D := by
 obtain ⟨D', c', e1, e2, e3, e4, e5⟩ := rung_parts r
 have hD : D' = D ∧ c' = c := by
  rcases h3 with h3 | h3 <;> rcases e3 with e3 | e3 <;> omega
 obtain ⟨rfl, rfl⟩ := hD
 have hc0 : 0 < c' := by
  rcases h3 with h3 | h3
  ·subst h3; omega
  ·omega
 refine ⟨by rw [e4, e5, ← Nat.add_mul]; grind, ?_⟩
 by_cases hp : c' = 4503599627370496 ∧ 0 < D'
 ·obtain ⟨p1, p2⟩ := hp
  rw [if_pos ⟨p1, p2⟩]
  obtain ⟨d, rfl⟩ : ∃ d, D' = d + 1 := ⟨D' - 1, by omega⟩
  have hr : r - 1 = d * 4503599627370496 + 9007199254740991 := by omega
  have hm := fmag_make 9007199254740991 d (by omega) (by omega)
  rw [← hr] at hm
  rw [hm, e4, p1, Nat.pow_succ]
  generalize 2 ^ d = X
  omega
 ·rw [if_neg hp]
  have hm : fmag (r - 1) = (c' - 1) * 2 ^ D' := by
   rcases Nat.eq_zero_or_pos D' with hD | hD
   ·subst hD
    rw [show r - 1 = c' - 1 by omega, fmag_low (by omega)]
    simp
   ·have : 4503599627370496 < c' := by
     rcases e3 with e3 | e3
     ·omega
     ·have : c' ≠ 4503599627370496 := fun h => hp ⟨h, hD⟩
      omega
    have hm := fmag_make (c' - 1) D' (by omega) (by omega)
    rw [← hm]
    exact congrArg fmag (by omega)
  rw [hm, e4]
  obtain ⟨x, rfl⟩ : ∃ x, c' = x + 1 := ⟨c' - 1, by omega⟩
  generalize 2 ^ D' = X
  rw [show 4 * (x + 1) - 2 = 4 * x + 2 by omega, show x + 1 - 1 = x by omega]
  grind

end Go.Proofs.YtfcpkdafkmohkaaGreatDoor
namespace Go.Proofs.YtfcpkdafkmohkaaGreatDoor
def PartIs (r m : Nat) (two : Int) : Prop := ∃ c D k : Nat, r = D * 4503599627370496 + c ∧ c < 9007199254740992 ∧ (D = 0 ∨ 4503599627370496 ≤ c) ∧ c = m * 2 ^ k ∧ two = (D : Int) - 1074 + k ∧ m % 2 = 1 ∧ D ≤ 2045 ∧ k ≤ 52
theorem bln_of {m L : Nat} (h1 : 2 ^ L ≤ m) (h2 : m < 2 ^ (L + 1)) : bln m = L + 1 := by
 have h0 : 0 < m := Nat.lt_of_lt_of_le (two_pos L) h1
 obtain ⟨b1, b2, b3⟩ := bln_bounds h0
 have c1 : L < bln m := (Nat.pow_lt_pow_iff_right (by omega)).1 (Nat.lt_of_le_of_lt h1 b2)
 have c2 : bln m - 1 < L + 1 := (Nat.pow_lt_pow_iff_right (a := 2) (by omega)).1 (Nat.lt_of_le_of_lt b1 h2)
 omega
theorem bln_shift {m k : Nat} (h0 : 0 < m) : bln (m * 2 ^ k) = bln m + k := by
 obtain ⟨b1, b2, b3⟩ := bln_bounds h0
 obtain ⟨L, hL⟩ : ∃ L, bln m = L + 1 := ⟨bln m - 1, by omega⟩
 rw [hL] at b1 b2
 rw [hL, bln_of (L := L + k)]
 ·omega
 ·rw [Nat.pow_add]
  exact Nat.mul_le_mul_right _ b1
 ·rw [show L + k + 1 = L + 1 + k by omega, Nat.pow_add]
  exact Nat.mul_lt_mul_of_pos_right b2 (two_pos k)
theorem PartIs.mag {r m : Nat} {two : Int} (h : PartIs r m two) {K : Nat} (hK : K = 1074) : ∃ t : Nat, (t : Int) = two + K ∧ fmag r = m * 2 ^ t := by
 obtain ⟨c, D, k, h1, h2, h3, h4, h5, h6, _, _⟩ := h
 obtain ⟨D', c', e1, e2, e3, e4, e5⟩ := rung_parts r
 have hD : D' = D ∧ c' = c := by
  rcases h3 with h3 | h3 <;> rcases e3 with e3 | e3 <;> omega
 obtain ⟨rfl, rfl⟩ := hD
 refine ⟨k + D', by omega, ?_⟩
 rw [e4, h4, Nat.mul_assoc, ← Nat.pow_add]
theorem PartIs.pos {r m : Nat} {two : Int} (h : PartIs r m two) : 0 < m ∧ bln m ≤ 53 ∧ -1074 < (bln m : Int) + two ∧ (bln m : Int) + two ≤ 1024 ∧ -1074 ≤ two ∧ two ≤ 1023 := by
 obtain ⟨c, D, k, h1, h2, h3, h4, h5, h6, h7, h8⟩ := h
 have h0 : 0 < m := by omega
 have hb := bln_shift (k := k) h0
 rw [← h4] at hb
 have hc : 0 < c := by rw [h4]; exact Nat.mul_pos h0 (two_pos k)
 obtain ⟨b1, b2, b3⟩ := bln_bounds hc
 obtain ⟨_, _, b6⟩ := bln_bounds h0
 have : bln c ≤ 53 := bln_le (by omega)
 omega
theorem vcross {r m : Nat} {two : Int} (h : PartIs r m two) : m * 2 ^ two.toNat * big = fmag r * 2 ^ (-two).toNat := by
 obtain ⟨K, hK, hb⟩ := big_K
 obtain ⟨t, ht, hm⟩ := h.mag hK
 rw [hm, hb, Nat.mul_assoc, Nat.mul_assoc, ← Nat.pow_add, ← Nat.pow_add]
 exact congrArg (fun k => m * 2 ^ k) (by omega)
theorem point_cross {u v u' v' : Nat} {n : Int} (hv : 0 < v) (hv' : 0 < v') (h : u * v' = u' * v) (hp : PointAt u v n) : PointAt u' v' n :=
 ⟨le10_mono hv (Nat.le_of_eq h) hp.1, fun g => hp.2 (le10_mono hv' (Nat.le_of_eq h.symm) g)⟩
theorem here_cross {r m c D k : Nat} {s : Int} {K : Nat} (hK : K = 1074) (h1 : r = D * 4503599627370496 + c) (h2 : c < 9007199254740992) (h3 : D = 0 ∨ 4503599627370496 ≤ c) (h4 : c = m * 2 ^ k) :
  scA (m * 2 ^ (k + 2)) ((D : Int) - 1076) s * vV s = vU r s * scB ((D : Int) - 1076) s := by
 obtain ⟨K', hK', hb⟩ := big_K
 have : K' = K := by omega
 subst this
 obtain ⟨D', c', e1, e2, e3, e4, e5⟩ := rung_parts r
 have hD : D' = D ∧ c' = c := by
  rcases h3 with h3 | h3 <;> rcases e3 with e3 | e3 <;> omega
 obtain ⟨rfl, rfl⟩ := hD
 unfold vV vU
 rw [hb]
 refine sc_cross (x := D') (y := 2) (by omega) ?_
 rw [e4, h4, Nat.pow_add]
 generalize 2 ^ D' = X
 generalize 2 ^ k = Y
 grind
theorem end_cross {N S D : Nat} {s : Int} {K : Nat} (hK : K = 1074) (h : 2 * S = N * 2 ^ D) : scA N ((D : Int) - 1076) s * (2 * vV s) = S * 10 ^ s.toNat * scB ((D : Int) - 1076) s := by
 obtain ⟨K', hK', hb⟩ := big_K
 have : K' = K := by omega
 subst this
 unfold vV
 rw [hb, show 2 * (2 ^ K' * 10 ^ (-s).toNat) = 2 ^ (K' + 1) * 10 ^ (-s).toNat from by rw [Nat.pow_succ]; grind]
 exact sc_cross (x := D) (y := 1) (by omega) (by rw [Nat.pow_one]; omega)
theorem here_lt {r : Nat} {n : Int} (hp : PointAt (fmag r) big n) : vU r (18 - n) / vV (18 - n) < 1000000000000000000 ∧ 100000000000000000 ≤ vU r (18 - n) / vV (18 - n) := by
 have h := cq_hi (k := 18) hp
 have g := cq_lo (k := 18) hp (by omega)
 exact ⟨h, g⟩
theorem next_le {r : Nat} (h0 : 0 < r) : fmag (r + 1) ≤ 2 * fmag r := by
 obtain ⟨D, c, e1, e2, e3, e4, e5⟩ := rung_parts r
 have hc : 1 ≤ c := by
  rcases e3 with e3 | e3
  ·subst e3; omega
  ·omega
 rw [e4, e5, ← Nat.mul_assoc]
 exact Nat.mul_le_mul_right _ (by omega)
theorem most_lt {r : Nat} {n : Int} (h0 : 0 < r) (hp : PointAt (fmag r) big n) : (fmag r + fmag (r + 1)) * 10 ^ ((18 : Int) - n).toNat / (2 * vV (18 - n)) < 2000000000000000000 ∧ 0 < (fmag r + fmag (r + 1)) * 10 ^ ((18 : Int) - n).toNat / (2 * vV (18 - n)) := by
 obtain ⟨h1, h2⟩ := here_lt hp
 have hv := vV_pos (18 - n)
 rw [Nat.div_lt_iff_lt_mul hv] at h1
 rw [Nat.le_div_iff_mul_le hv] at h2
 have h3 := next_le h0
 unfold vU at h1 h2
 have hup : fmag r < fmag (r + 1) := fmag_step (by omega)
 generalize 10 ^ ((18 : Int) - n).toNat = B at *
 generalize vV (18 - n) = V at *
 generalize fmag r = f at *
 generalize fmag (r + 1) = g at *
 have h4 : g * B ≤ 2 * (f * B) := by rw [← Nat.mul_assoc]; exact Nat.mul_le_mul_right _ h3
 have h5 : f * B ≤ g * B := Nat.mul_le_mul_right _ (by omega)
 constructor
 ·rw [Nat.div_lt_iff_lt_mul (by omega), Nat.add_mul]
  omega
 ·rw [Nat.div_pos_iff, Nat.add_mul]
  omega
theorem least_lt {r : Nat} {n : Int} (h0 : 0 < r) (hp : PointAt (fmag r) big n) : (fmag (r - 1) + fmag r) * 10 ^ ((18 : Int) - n).toNat / (2 * vV (18 - n)) < 1000000000000000000 := by
 obtain ⟨h1, h2⟩ := here_lt hp
 have hv := vV_pos (18 - n)
 rw [Nat.div_lt_iff_lt_mul hv] at h1
 unfold vU at h1
 have hup : fmag (r - 1) < fmag r := fmag_step (by omega)
 generalize 10 ^ ((18 : Int) - n).toNat = B at *
 generalize vV (18 - n) = V at *
 generalize fmag r = f at *
 generalize fmag (r - 1) = g at *
 have h5 : g * B ≤ f * B := Nat.mul_le_mul_right _ (by omega)
 rw [Nat.div_lt_iff_lt_mul (by omega), Nat.add_mul]
 omega

end Go.Proofs.YtfcpkdafkmohkaaGreatDoor
namespace Go.Proofs.YtfcpkdafkmohkaaGreatDoor
open Go.RowKit
theorem results_cell_one {fn : Func} {p : Tmp} {ty : TypeId} (h : fn.results = #[.cell p ty]) (tmps : Array Value) (P : Program) (w : World) (a : Addr) (v : Value) (ha : tmps.getD p undef = .pointer (some a)) (hl : (loadVar ty a).run P w = .ok v w) : (results fn tmps).run P w = .ok v w := by
 simp only [results, h]
 simp [-Array.getD_eq_getD_getElem?, ha, asAddr, hl]
def Rv (w : World) (g : Nat) (a : Array Value) : Prop := w.heap[g]? = some (.cells a 91 (0, 0))
def zq : Array Value := #[.int .u64 0, .bool false, .int .u64 0, .int .u64 0]
set_option maxRecDepth 100000 in
set_option maxHeartbeats 3000000 in
theorem tspan_one {w : World} {A : Option Addr} {n c m bt bw q H L M : Nat} {two ten x1 x2 last x3 x4 x5 bI : Int} {hE lE mE ev : Bool} (hA : NV w A n c m)
    (C1 : Hid (∀ W, NV W A n c m → Cq 156 #[.slice A n c] (.int .i64 (bt : Nat)) W))
    (C2 : Hid (∀ W, NV W A n c m → Cp 157 #[.slice A n c, .int .i64 x4] W (NOk q W)))
    (C3 : Hid (∀ W, Cp 110 #[.int .u64 bI] W (NRet bw W)))
    (C4 : Hid (∀ W A1 n1 c1 A2 n2 c2, NV W A1 n1 c1 q → NV W A2 n2 c2 bw → Cp 158 #[.slice A1 n1 c1, .slice A2 n2 c2] W (NOk (q - bw) W)))
    (C5 : Hid (∀ W, Cp 110 #[.int .u64 2] W (NRet 2 W)))
    (C6 : Hid (∀ W A1 n1 c1 A2 n2 c2, NV W A1 n1 c1 q → NV W A2 n2 c2 2 → Cp 124 #[.slice A1 n1 c1, .slice A2 n2 c2] W (NOk (q + 2) W)))
    (S1 : Hid (∀ W A1 n1 c1, NV W A1 n1 c1 q → Cp 123 #[.slice A1 n1 c1, .int .i64 x5, .int .i64 ten] W fun e w' => ∃ A3 n3 c3, e = .returned (.tuple #[.slice A3 n3 c3, .bool hE]) ∧ NV w' A3 n3 c3 H ∧ Below W.heap.size W w'))
    (S2 : Hid (∀ W A1 n1 c1, NV W A1 n1 c1 (q - bw) → Cp 123 #[.slice A1 n1 c1, .int .i64 x5, .int .i64 ten] W fun e w' => ∃ A3 n3 c3, e = .returned (.tuple #[.slice A3 n3 c3, .bool lE]) ∧ NV w' A3 n3 c3 L ∧ Below W.heap.size W w'))
    (S3 : Hid (∀ W A1 n1 c1, NV W A1 n1 c1 (q + 2) → Cp 123 #[.slice A1 n1 c1, .int .i64 x5, .int .i64 ten] W fun e w' => ∃ A3 n3 c3, e = .returned (.tuple #[.slice A3 n3 c3, .bool mE]) ∧ NV w' A3 n3 c3 M ∧ Below W.heap.size W w'))
    (hH : H < 18446744073709551616) (hL : L < 9223372036854775808) (hM : M < 9223372036854775808) (hM0 : 0 < M)
    (k1 : wrap64 ((bt : Int) + two) = x1) (k2 : wrap64 (x1 - 53) = x2) (hmax : max x2 (-1074) = last) (k3 : wrap64 (two - last) = x3) (k4 : wrap64 (x3 + 2) = x4) (k5 : wrap64 (last - 2) = x5)
    (hb : bt = 1 ∧ -1074 < last ∧ bI = 1) (hev : decide (last < two) = ev) :
    Ct 95 #[.slice A n c, .int .i64 two, .int .i64 ten] (.agg #[.int .u64 (H : Nat), .bool hE, .int .u64 ((if lE = true ∧ ev = true then L else L + 1 : Nat) : Nat), .int .u64 ((if mE = true ∧ ev = false then M - 1 else M : Nat) : Nat)]) w := by
  have W1 := Lib.hid (fun W A1 n1 c1 (h : NV W A1 n1 c1 H) => tword_any h hH)
  have W2 := Lib.hid (fun W A1 n1 c1 (h : NV W A1 n1 c1 L) => tword_any h (by omega))
  have W3 := Lib.hid (fun W A1 n1 c1 (h : NV W A1 n1 c1 M) => tword_any h (by omega))
  have HA := Lib.hid hA
  have HEV := Lib.hid hev
  have l1 : (L : Int) < 9223372036854775808 := by omega
  have l2 : (M : Int) < 9223372036854775808 := by omega
  have l3 : (0 : Int) < (M : Int) := by omega
  clear hA hH hL hM hM0 hev
  obtain ⟨hbt, hl, rfl⟩ := hb
  all_goals
    first | have tb : ((bt : Int) == 1) = false := by rw [beq_eq_false_iff_ne]; omega
          | have tb : ((bt : Int) == 1) = true := by rw [beq_iff_eq]; omega
    clear hbt
    have HA := Lib.hid (HA.out.step (show Below w.heap.size w (w.alloc (.cells zq 91)) from (Below.refl _ _).alloc (Nat.le_refl _) _))
    have B0 := Lib.hid (show Below w.heap.size w (w.alloc (.cells zq 91)) from (Below.refl _ _).alloc (Nat.le_refl _) _)
    have R0 := Lib.hid (show Rv (w.alloc (.cells zq 91)) w.heap.size zq from heap_alloc_last w _)
    have S0 := Lib.hid (show w.heap.size < (w.alloc (.cells zq 91)).heap.size from by simp)
    unfold zq at HA B0 R0 S0
    go_enter Tryz.func95, Tryz.ntmps95
    go_wp2_with fail
    generalize w.alloc (.cells #[.int .u64 0, .bool false, .int .u64 0, .int .u64 0] 91) = w0 at *
    refine (C1.out _ HA.out).mono ?_
    rintro e w' ⟨rfl, rfl⟩
    go_wp2_with fail
    refine (C2.out _ HA.out).mono ?_
    rintro e w1 ⟨A1, n1, c1, rfl, g1, b1⟩
    have G1 := Lib.hid g1
    have G0 := Lib.hid (HA.out.step b1)
    have B1 := Lib.hid (b1)
    clear g1 b1 hmax k1 k2 k3 k4
    go_wp2_with fail
    refine (C1.out _ G0.out).mono ?_
    rintro e w' ⟨rfl, rfl⟩
    go_wp2_with fail
    refine (C3.out _).mono ?_
    rintro e w2 ⟨A2, n2, c2, rfl, g2, b2⟩
    have G2 := Lib.hid g2
    have G1 := Lib.hid (G1.out.step b2)
    have B2 := Lib.hid (below_le B1.out b2)
    clear g2 b2
    go_wp2_with fail
    refine (C4.out _ _ _ _ _ _ _ G1.out G2.out).mono ?_
    rintro e w3 ⟨A3, n3, c3, rfl, g3, b3⟩
    have G3 := Lib.hid g3
    have G1 := Lib.hid (G1.out.step b3)
    have B3 := Lib.hid (below_le B2.out b3)
    clear g3 b3
    go_wp2_with fail
    refine (C5.out _).mono ?_
    rintro e w4 ⟨A4, n4, c4, rfl, g4, b4⟩
    have G4 := Lib.hid g4
    have G1 := Lib.hid (G1.out.step b4)
    have G3 := Lib.hid (G3.out.step b4)
    have B4 := Lib.hid (below_le B3.out b4)
    clear g4 b4
    go_wp2_with fail
    refine (C6.out _ _ _ _ _ _ _ G1.out G4.out).mono ?_
    rintro e w5 ⟨A5, n5, c5, rfl, g5, b5⟩
    have G5 := Lib.hid g5
    have G1 := Lib.hid (G1.out.step b5)
    have G3 := Lib.hid (G3.out.step b5)
    have B5 := Lib.hid (below_le B4.out b5)
    clear g5 b5
    go_wp2_with fail
    refine (S1.out _ _ _ _ G1.out).mono ?_
    rintro e w6 ⟨A6, n6, c6, rfl, g6, b6⟩
    have G6 := Lib.hid g6
    have G5 := Lib.hid (G5.out.step b6)
    have G3 := Lib.hid (G3.out.step b6)
    have B6 := Lib.hid (below_le B5.out b6)
    clear g6 b6
    go_wp2_with fail
    refine (S2.out _ _ _ _ G3.out).mono ?_
    rintro e w7 ⟨A7, n7, c7, rfl, g7, b7⟩
    have G7 := Lib.hid g7
    have G5 := Lib.hid (G5.out.step b7)
    have G6 := Lib.hid (G6.out.step b7)
    have B7 := Lib.hid (below_le B6.out b7)
    clear g7 b7
    go_wp2_with fail
    refine (S3.out _ _ _ _ G5.out).mono ?_
    rintro e w8 ⟨A8, n8, c8, rfl, g8, b8⟩
    have G8 := Lib.hid g8
    have G7 := Lib.hid (G7.out.step b8)
    have G6 := Lib.hid (G6.out.step b8)
    have B8 := Lib.hid (below_le B7.out b8)
    clear g8 b8 C1 C2 C3 C4 C5 C6 S1 S2 S3
    go_wp2_with fail
    refine (W1.out _ _ _ _ G6.out).mono ?_
    rintro e w' ⟨rfl, rfl⟩
    go_wp2_with fail
    refine (W2.out _ _ _ _ G7.out).mono ?_
    rintro e w' ⟨rfl, rfl⟩
    go_wp2_with fail
    refine (W3.out _ _ _ _ G8.out).mono ?_
    rintro e w' ⟨rfl, rfl⟩
    have HG := Lib.hid (fun c' => show (w8.alloc (.cells c' 91)).heap[w.heap.size]? = some (.cells #[.int .u64 0, .bool false, .int .u64 0, .int .u64 0] 91 (0, 0)) from by
      have hlt : w.heap.size < w8.heap.size := Nat.lt_of_lt_of_le S0.out B8.out.size
      have b1 : Below w8.heap.size w8 (w8.alloc (.cells c' 91)) := (Below.refl _ _).alloc (Nat.le_refl _) _
      exact (b1.block _ hlt).trans ((B8.out.block _ S0.out).trans R0.out))
    have HB := Lib.hid (fun c' => show Below w.heap.size w (w8.alloc (.cells c' 91)) from by
      have b2 := below_le B0.out B8.out
      exact b2.alloc b2.size _)
    have he := HEV.out
    have hL1 : IntKind.u64.wrap ((L : Int) + 1) = ((L + 1 : Nat) : Int) := by rw [IntKind.wrap_u64]; omega
    have hM1 : IntKind.u64.wrap ((M : Int) - 1) = ((M - 1 : Nat) : Int) := by rw [IntKind.wrap_u64]; omega
    clear W1 W2 W3 G6 G7 G8 k5 HA HEV
    first | clear hl | skip
    clear tb l1 l2 l3 B0 B1 B2 B3 B4 B5 B6 B7 B8 S0 R0 G1 G5 G3 G0
    cases ev <;> cases lE <;> cases mE
    all_goals
      go_wp2_with (first | (refine wpList_store_row rfl 91 _ _ rfl w.heap.size _ rfl rfl 91 #[.int .u64 0, .bool false, .int .u64 0, .int .u64 0] (HG.out _) (by first | kernel_rfl | rfl) rfl (by first | kernel_rfl | rfl) ?_))
    all_goals
      exact bodyPost_ret (results_cell_one rfl _ _ _ _ _ rfl (run_loadVar_row _ w.heap.size 91 91 _ (0, 0) _ (setRow_heap _ _ _ _ _ _ (HG.out _)) Tryz.underlying91 rfl (by first | kernel_rfl | rfl))) rfl ⟨rfl, below_setRow' (HB.out _) (Nat.le_refl _) _⟩
set_option maxRecDepth 100000 in
set_option maxHeartbeats 3000000 in
theorem tspan_more {w : World} {A : Option Addr} {n c m bt bw q H L M : Nat} {two ten x1 x2 last x3 x4 x5 bI : Int} {hE lE mE ev : Bool} (hA : NV w A n c m)
    (C1 : Hid (∀ W, NV W A n c m → Cq 156 #[.slice A n c] (.int .i64 (bt : Nat)) W))
    (C2 : Hid (∀ W, NV W A n c m → Cp 157 #[.slice A n c, .int .i64 x4] W (NOk q W)))
    (C3 : Hid (∀ W, Cp 110 #[.int .u64 bI] W (NRet bw W)))
    (C4 : Hid (∀ W A1 n1 c1 A2 n2 c2, NV W A1 n1 c1 q → NV W A2 n2 c2 bw → Cp 158 #[.slice A1 n1 c1, .slice A2 n2 c2] W (NOk (q - bw) W)))
    (C5 : Hid (∀ W, Cp 110 #[.int .u64 2] W (NRet 2 W)))
    (C6 : Hid (∀ W A1 n1 c1 A2 n2 c2, NV W A1 n1 c1 q → NV W A2 n2 c2 2 → Cp 124 #[.slice A1 n1 c1, .slice A2 n2 c2] W (NOk (q + 2) W)))
    (S1 : Hid (∀ W A1 n1 c1, NV W A1 n1 c1 q → Cp 123 #[.slice A1 n1 c1, .int .i64 x5, .int .i64 ten] W fun e w' => ∃ A3 n3 c3, e = .returned (.tuple #[.slice A3 n3 c3, .bool hE]) ∧ NV w' A3 n3 c3 H ∧ Below W.heap.size W w'))
    (S2 : Hid (∀ W A1 n1 c1, NV W A1 n1 c1 (q - bw) → Cp 123 #[.slice A1 n1 c1, .int .i64 x5, .int .i64 ten] W fun e w' => ∃ A3 n3 c3, e = .returned (.tuple #[.slice A3 n3 c3, .bool lE]) ∧ NV w' A3 n3 c3 L ∧ Below W.heap.size W w'))
    (S3 : Hid (∀ W A1 n1 c1, NV W A1 n1 c1 (q + 2) → Cp 123 #[.slice A1 n1 c1, .int .i64 x5, .int .i64 ten] W fun e w' => ∃ A3 n3 c3, e = .returned (.tuple #[.slice A3 n3 c3, .bool mE]) ∧ NV w' A3 n3 c3 M ∧ Below W.heap.size W w'))
    (hH : H < 18446744073709551616) (hL : L < 9223372036854775808) (hM : M < 9223372036854775808) (hM0 : 0 < M)
    (k1 : wrap64 ((bt : Int) + two) = x1) (k2 : wrap64 (x1 - 53) = x2) (hmax : max x2 (-1074) = last) (k3 : wrap64 (two - last) = x3) (k4 : wrap64 (x3 + 2) = x4) (k5 : wrap64 (last - 2) = x5)
    (hb : bt ≠ 1 ∧ bI = 2) (hev : decide (last < two) = ev) :
    Ct 95 #[.slice A n c, .int .i64 two, .int .i64 ten] (.agg #[.int .u64 (H : Nat), .bool hE, .int .u64 ((if lE = true ∧ ev = true then L else L + 1 : Nat) : Nat), .int .u64 ((if mE = true ∧ ev = false then M - 1 else M : Nat) : Nat)]) w := by
  have W1 := Lib.hid (fun W A1 n1 c1 (h : NV W A1 n1 c1 H) => tword_any h hH)
  have W2 := Lib.hid (fun W A1 n1 c1 (h : NV W A1 n1 c1 L) => tword_any h (by omega))
  have W3 := Lib.hid (fun W A1 n1 c1 (h : NV W A1 n1 c1 M) => tword_any h (by omega))
  have HA := Lib.hid hA
  have HEV := Lib.hid hev
  have l1 : (L : Int) < 9223372036854775808 := by omega
  have l2 : (M : Int) < 9223372036854775808 := by omega
  have l3 : (0 : Int) < (M : Int) := by omega
  clear hA hH hL hM hM0 hev
  obtain ⟨hbt, rfl⟩ := hb
  all_goals
    first | have tb : ((bt : Int) == 1) = false := by rw [beq_eq_false_iff_ne]; omega
          | have tb : ((bt : Int) == 1) = true := by rw [beq_iff_eq]; omega
    clear hbt
    have HA := Lib.hid (HA.out.step (show Below w.heap.size w (w.alloc (.cells zq 91)) from (Below.refl _ _).alloc (Nat.le_refl _) _))
    have B0 := Lib.hid (show Below w.heap.size w (w.alloc (.cells zq 91)) from (Below.refl _ _).alloc (Nat.le_refl _) _)
    have R0 := Lib.hid (show Rv (w.alloc (.cells zq 91)) w.heap.size zq from heap_alloc_last w _)
    have S0 := Lib.hid (show w.heap.size < (w.alloc (.cells zq 91)).heap.size from by simp)
    unfold zq at HA B0 R0 S0
    go_enter Tryz.func95, Tryz.ntmps95
    go_wp2_with fail
    generalize w.alloc (.cells #[.int .u64 0, .bool false, .int .u64 0, .int .u64 0] 91) = w0 at *
    refine (C1.out _ HA.out).mono ?_
    rintro e w' ⟨rfl, rfl⟩
    go_wp2_with fail
    refine (C2.out _ HA.out).mono ?_
    rintro e w1 ⟨A1, n1, c1, rfl, g1, b1⟩
    have G1 := Lib.hid g1
    have G0 := Lib.hid (HA.out.step b1)
    have B1 := Lib.hid (b1)
    clear g1 b1 hmax k1 k2 k3 k4
    go_wp2_with fail
    refine (C1.out _ G0.out).mono ?_
    rintro e w' ⟨rfl, rfl⟩
    go_wp2_with fail
    refine (C3.out _).mono ?_
    rintro e w2 ⟨A2, n2, c2, rfl, g2, b2⟩
    have G2 := Lib.hid g2
    have G1 := Lib.hid (G1.out.step b2)
    have B2 := Lib.hid (below_le B1.out b2)
    clear g2 b2
    go_wp2_with fail
    refine (C4.out _ _ _ _ _ _ _ G1.out G2.out).mono ?_
    rintro e w3 ⟨A3, n3, c3, rfl, g3, b3⟩
    have G3 := Lib.hid g3
    have G1 := Lib.hid (G1.out.step b3)
    have B3 := Lib.hid (below_le B2.out b3)
    clear g3 b3
    go_wp2_with fail
    refine (C5.out _).mono ?_
    rintro e w4 ⟨A4, n4, c4, rfl, g4, b4⟩
    have G4 := Lib.hid g4
    have G1 := Lib.hid (G1.out.step b4)
    have G3 := Lib.hid (G3.out.step b4)
    have B4 := Lib.hid (below_le B3.out b4)
    clear g4 b4
    go_wp2_with fail
    refine (C6.out _ _ _ _ _ _ _ G1.out G4.out).mono ?_
    rintro e w5 ⟨A5, n5, c5, rfl, g5, b5⟩
    have G5 := Lib.hid g5
    have G1 := Lib.hid (G1.out.step b5)
    have G3 := Lib.hid (G3.out.step b5)
    have B5 := Lib.hid (below_le B4.out b5)
    clear g5 b5
    go_wp2_with fail
    refine (S1.out _ _ _ _ G1.out).mono ?_
    rintro e w6 ⟨A6, n6, c6, rfl, g6, b6⟩
    have G6 := Lib.hid g6
    have G5 := Lib.hid (G5.out.step b6)
    have G3 := Lib.hid (G3.out.step b6)
    have B6 := Lib.hid (below_le B5.out b6)
    clear g6 b6
    go_wp2_with fail
    refine (S2.out _ _ _ _ G3.out).mono ?_
    rintro e w7 ⟨A7, n7, c7, rfl, g7, b7⟩
    have G7 := Lib.hid g7
    have G5 := Lib.hid (G5.out.step b7)
    have G6 := Lib.hid (G6.out.step b7)
    have B7 := Lib.hid (below_le B6.out b7)
    clear g7 b7
    go_wp2_with fail
    refine (S3.out _ _ _ _ G5.out).mono ?_
    rintro e w8 ⟨A8, n8, c8, rfl, g8, b8⟩
    have G8 := Lib.hid g8
    have G7 := Lib.hid (G7.out.step b8)
    have G6 := Lib.hid (G6.out.step b8)
    have B8 := Lib.hid (below_le B7.out b8)
    clear g8 b8 C1 C2 C3 C4 C5 C6 S1 S2 S3
    go_wp2_with fail
    refine (W1.out _ _ _ _ G6.out).mono ?_
    rintro e w' ⟨rfl, rfl⟩
    go_wp2_with fail
    refine (W2.out _ _ _ _ G7.out).mono ?_
    rintro e w' ⟨rfl, rfl⟩
    go_wp2_with fail
    refine (W3.out _ _ _ _ G8.out).mono ?_
    rintro e w' ⟨rfl, rfl⟩
    have HG := Lib.hid (fun c' => show (w8.alloc (.cells c' 91)).heap[w.heap.size]? = some (.cells #[.int .u64 0, .bool false, .int .u64 0, .int .u64 0] 91 (0, 0)) from by
      have hlt : w.heap.size < w8.heap.size := Nat.lt_of_lt_of_le S0.out B8.out.size
      have b1 : Below w8.heap.size w8 (w8.alloc (.cells c' 91)) := (Below.refl _ _).alloc (Nat.le_refl _) _
      exact (b1.block _ hlt).trans ((B8.out.block _ S0.out).trans R0.out))
    have HB := Lib.hid (fun c' => show Below w.heap.size w (w8.alloc (.cells c' 91)) from by
      have b2 := below_le B0.out B8.out
      exact b2.alloc b2.size _)
    have he := HEV.out
    have hL1 : IntKind.u64.wrap ((L : Int) + 1) = ((L + 1 : Nat) : Int) := by rw [IntKind.wrap_u64]; omega
    have hM1 : IntKind.u64.wrap ((M : Int) - 1) = ((M - 1 : Nat) : Int) := by rw [IntKind.wrap_u64]; omega
    clear W1 W2 W3 G6 G7 G8 k5 HA HEV
    first | clear hl | skip
    clear tb l1 l2 l3 B0 B1 B2 B3 B4 B5 B6 B7 B8 S0 R0 G1 G5 G3 G0
    cases ev <;> cases lE <;> cases mE
    all_goals
      go_wp2_with (first | (refine wpList_store_row rfl 91 _ _ rfl w.heap.size _ rfl rfl 91 #[.int .u64 0, .bool false, .int .u64 0, .int .u64 0] (HG.out _) (by first | kernel_rfl | rfl) rfl (by first | kernel_rfl | rfl) ?_))
    all_goals
      exact bodyPost_ret (results_cell_one rfl _ _ _ _ _ rfl (run_loadVar_row _ w.heap.size 91 91 _ (0, 0) _ (setRow_heap _ _ _ _ _ _ (HG.out _)) Tryz.underlying91 rfl (by first | kernel_rfl | rfl))) rfl ⟨rfl, below_setRow' (HB.out _) (Nat.le_refl _) _⟩

end Go.Proofs.YtfcpkdafkmohkaaGreatDoor
namespace Go.Proofs.YtfcpkdafkmohkaaGreatDoor
open Go.RowKit
set_option maxRecDepth 100000 in
set_option maxHeartbeats 3000000 in
theorem tspan_low {w : World} {A : Option Addr} {n c m bt bw q H L M : Nat} {two ten x1 x2 last x3 x4 x5 bI : Int} {hE lE mE ev : Bool} (hA : NV w A n c m)
    (C1 : Hid (∀ W, NV W A n c m → Cq 156 #[.slice A n c] (.int .i64 (bt : Nat)) W))
    (C2 : Hid (∀ W, NV W A n c m → Cp 157 #[.slice A n c, .int .i64 x4] W (NOk q W)))
    (C3 : Hid (∀ W, Cp 110 #[.int .u64 bI] W (NRet bw W)))
    (C4 : Hid (∀ W A1 n1 c1 A2 n2 c2, NV W A1 n1 c1 q → NV W A2 n2 c2 bw → Cp 158 #[.slice A1 n1 c1, .slice A2 n2 c2] W (NOk (q - bw) W)))
    (C5 : Hid (∀ W, Cp 110 #[.int .u64 2] W (NRet 2 W)))
    (C6 : Hid (∀ W A1 n1 c1 A2 n2 c2, NV W A1 n1 c1 q → NV W A2 n2 c2 2 → Cp 124 #[.slice A1 n1 c1, .slice A2 n2 c2] W (NOk (q + 2) W)))
    (S1 : Hid (∀ W A1 n1 c1, NV W A1 n1 c1 q → Cp 123 #[.slice A1 n1 c1, .int .i64 x5, .int .i64 ten] W fun e w' => ∃ A3 n3 c3, e = .returned (.tuple #[.slice A3 n3 c3, .bool hE]) ∧ NV w' A3 n3 c3 H ∧ Below W.heap.size W w'))
    (S2 : Hid (∀ W A1 n1 c1, NV W A1 n1 c1 (q - bw) → Cp 123 #[.slice A1 n1 c1, .int .i64 x5, .int .i64 ten] W fun e w' => ∃ A3 n3 c3, e = .returned (.tuple #[.slice A3 n3 c3, .bool lE]) ∧ NV w' A3 n3 c3 L ∧ Below W.heap.size W w'))
    (S3 : Hid (∀ W A1 n1 c1, NV W A1 n1 c1 (q + 2) → Cp 123 #[.slice A1 n1 c1, .int .i64 x5, .int .i64 ten] W fun e w' => ∃ A3 n3 c3, e = .returned (.tuple #[.slice A3 n3 c3, .bool mE]) ∧ NV w' A3 n3 c3 M ∧ Below W.heap.size W w'))
    (hH : H < 18446744073709551616) (hL : L < 9223372036854775808) (hM : M < 9223372036854775808) (hM0 : 0 < M)
    (k1 : wrap64 ((bt : Int) + two) = x1) (k2 : wrap64 (x1 - 53) = x2) (hmax : max x2 (-1074) = last) (k3 : wrap64 (two - last) = x3) (k4 : wrap64 (x3 + 2) = x4) (k5 : wrap64 (last - 2) = x5)
    (hb : bt = 1 ∧ decide (-1074 < last) = false ∧ bI = 2) (hev : decide (last < two) = ev) :
    Ct 95 #[.slice A n c, .int .i64 two, .int .i64 ten] (.agg #[.int .u64 (H : Nat), .bool hE, .int .u64 ((if lE = true ∧ ev = true then L else L + 1 : Nat) : Nat), .int .u64 ((if mE = true ∧ ev = false then M - 1 else M : Nat) : Nat)]) w := by
  have W1 := Lib.hid (fun W A1 n1 c1 (h : NV W A1 n1 c1 H) => tword_any h hH)
  have W2 := Lib.hid (fun W A1 n1 c1 (h : NV W A1 n1 c1 L) => tword_any h (by omega))
  have W3 := Lib.hid (fun W A1 n1 c1 (h : NV W A1 n1 c1 M) => tword_any h (by omega))
  have HA := Lib.hid hA
  have HEV := Lib.hid hev
  have l1 : (L : Int) < 9223372036854775808 := by omega
  have l2 : (M : Int) < 9223372036854775808 := by omega
  have l3 : (0 : Int) < (M : Int) := by omega
  clear hA hH hL hM hM0 hev
  obtain ⟨hbt, hl, rfl⟩ := hb
  all_goals
    first | have tb : ((bt : Int) == 1) = false := by rw [beq_eq_false_iff_ne]; omega
          | have tb : ((bt : Int) == 1) = true := by rw [beq_iff_eq]; omega
    clear hbt
    have HA := Lib.hid (HA.out.step (show Below w.heap.size w (w.alloc (.cells zq 91)) from (Below.refl _ _).alloc (Nat.le_refl _) _))
    have B0 := Lib.hid (show Below w.heap.size w (w.alloc (.cells zq 91)) from (Below.refl _ _).alloc (Nat.le_refl _) _)
    have R0 := Lib.hid (show Rv (w.alloc (.cells zq 91)) w.heap.size zq from heap_alloc_last w _)
    have S0 := Lib.hid (show w.heap.size < (w.alloc (.cells zq 91)).heap.size from by simp)
    unfold zq at HA B0 R0 S0
    go_enter Tryz.func95, Tryz.ntmps95
    go_wp2_with fail
    generalize w.alloc (.cells #[.int .u64 0, .bool false, .int .u64 0, .int .u64 0] 91) = w0 at *
    refine (C1.out _ HA.out).mono ?_
    rintro e w' ⟨rfl, rfl⟩
    go_wp2_with fail
    refine (C2.out _ HA.out).mono ?_
    rintro e w1 ⟨A1, n1, c1, rfl, g1, b1⟩
    have G1 := Lib.hid g1
    have G0 := Lib.hid (HA.out.step b1)
    have B1 := Lib.hid (b1)
    clear g1 b1 hmax k1 k2 k3 k4
    go_wp2_with fail
    refine (C1.out _ G0.out).mono ?_
    rintro e w' ⟨rfl, rfl⟩
    go_wp2_with fail
    refine (C3.out _).mono ?_
    rintro e w2 ⟨A2, n2, c2, rfl, g2, b2⟩
    have G2 := Lib.hid g2
    have G1 := Lib.hid (G1.out.step b2)
    have B2 := Lib.hid (below_le B1.out b2)
    clear g2 b2
    go_wp2_with fail
    refine (C4.out _ _ _ _ _ _ _ G1.out G2.out).mono ?_
    rintro e w3 ⟨A3, n3, c3, rfl, g3, b3⟩
    have G3 := Lib.hid g3
    have G1 := Lib.hid (G1.out.step b3)
    have B3 := Lib.hid (below_le B2.out b3)
    clear g3 b3
    go_wp2_with fail
    refine (C5.out _).mono ?_
    rintro e w4 ⟨A4, n4, c4, rfl, g4, b4⟩
    have G4 := Lib.hid g4
    have G1 := Lib.hid (G1.out.step b4)
    have G3 := Lib.hid (G3.out.step b4)
    have B4 := Lib.hid (below_le B3.out b4)
    clear g4 b4
    go_wp2_with fail
    refine (C6.out _ _ _ _ _ _ _ G1.out G4.out).mono ?_
    rintro e w5 ⟨A5, n5, c5, rfl, g5, b5⟩
    have G5 := Lib.hid g5
    have G1 := Lib.hid (G1.out.step b5)
    have G3 := Lib.hid (G3.out.step b5)
    have B5 := Lib.hid (below_le B4.out b5)
    clear g5 b5
    go_wp2_with fail
    refine (S1.out _ _ _ _ G1.out).mono ?_
    rintro e w6 ⟨A6, n6, c6, rfl, g6, b6⟩
    have G6 := Lib.hid g6
    have G5 := Lib.hid (G5.out.step b6)
    have G3 := Lib.hid (G3.out.step b6)
    have B6 := Lib.hid (below_le B5.out b6)
    clear g6 b6
    go_wp2_with fail
    refine (S2.out _ _ _ _ G3.out).mono ?_
    rintro e w7 ⟨A7, n7, c7, rfl, g7, b7⟩
    have G7 := Lib.hid g7
    have G5 := Lib.hid (G5.out.step b7)
    have G6 := Lib.hid (G6.out.step b7)
    have B7 := Lib.hid (below_le B6.out b7)
    clear g7 b7
    go_wp2_with fail
    refine (S3.out _ _ _ _ G5.out).mono ?_
    rintro e w8 ⟨A8, n8, c8, rfl, g8, b8⟩
    have G8 := Lib.hid g8
    have G7 := Lib.hid (G7.out.step b8)
    have G6 := Lib.hid (G6.out.step b8)
    have B8 := Lib.hid (below_le B7.out b8)
    clear g8 b8 C1 C2 C3 C4 C5 C6 S1 S2 S3
    go_wp2_with fail
    refine (W1.out _ _ _ _ G6.out).mono ?_
    rintro e w' ⟨rfl, rfl⟩
    go_wp2_with fail
    refine (W2.out _ _ _ _ G7.out).mono ?_
    rintro e w' ⟨rfl, rfl⟩
    go_wp2_with fail
    refine (W3.out _ _ _ _ G8.out).mono ?_
    rintro e w' ⟨rfl, rfl⟩
    have HG := Lib.hid (fun c' => show (w8.alloc (.cells c' 91)).heap[w.heap.size]? = some (.cells #[.int .u64 0, .bool false, .int .u64 0, .int .u64 0] 91 (0, 0)) from by
      have hlt : w.heap.size < w8.heap.size := Nat.lt_of_lt_of_le S0.out B8.out.size
      have b1 : Below w8.heap.size w8 (w8.alloc (.cells c' 91)) := (Below.refl _ _).alloc (Nat.le_refl _) _
      exact (b1.block _ hlt).trans ((B8.out.block _ S0.out).trans R0.out))
    have HB := Lib.hid (fun c' => show Below w.heap.size w (w8.alloc (.cells c' 91)) from by
      have b2 := below_le B0.out B8.out
      exact b2.alloc b2.size _)
    have he := HEV.out
    have hL1 : IntKind.u64.wrap ((L : Int) + 1) = ((L + 1 : Nat) : Int) := by rw [IntKind.wrap_u64]; omega
    have hM1 : IntKind.u64.wrap ((M : Int) - 1) = ((M - 1 : Nat) : Int) := by rw [IntKind.wrap_u64]; omega
    clear W1 W2 W3 G6 G7 G8 k5 HA HEV
    first | clear hl | skip
    clear tb l1 l2 l3 B0 B1 B2 B3 B4 B5 B6 B7 B8 S0 R0 G1 G5 G3 G0
    cases ev <;> cases lE <;> cases mE
    all_goals
      go_wp2_with (first | (refine wpList_store_row rfl 91 _ _ rfl w.heap.size _ rfl rfl 91 #[.int .u64 0, .bool false, .int .u64 0, .int .u64 0] (HG.out _) (by first | kernel_rfl | rfl) rfl (by first | kernel_rfl | rfl) ?_))
    all_goals
      exact bodyPost_ret (results_cell_one rfl _ _ _ _ _ rfl (run_loadVar_row _ w.heap.size 91 91 _ (0, 0) _ (setRow_heap _ _ _ _ _ _ (HG.out _)) Tryz.underlying91 rfl (by first | kernel_rfl | rfl))) rfl ⟨rfl, below_setRow' (HB.out _) (Nat.le_refl _) _⟩

end Go.Proofs.YtfcpkdafkmohkaaGreatDoor
namespace Go.Proofs.YtfcpkdafkmohkaaGreatDoor
open Go.RowKit
theorem tscaled_as {W : World} {A : Option Addr} {n c N V x y : Nat} {two ten : Int} (hA : NV W A n c N) (hm : bln N ≤ 2000) (h1 : -1000 ≤ ten) (h2 : ten ≤ 1000) (h3 : -3000 ≤ two) (h4 : two ≤ 3000)
  (hq : scA N two ten / scB two ten = V) (hb : scA N two ten % scB two ten = 0 ↔ x % y = 0) :
  Cp 123 #[.slice A n c, .int .i64 two, .int .i64 ten] W fun e w' => ∃ A3 n3 c3, e = .returned (.tuple #[.slice A3 n3 c3, .bool (decide (x % y = 0))]) ∧ NV w' A3 n3 c3 V ∧ Below W.heap.size W w' := by
 refine (tscaled_any two ten hA hm h1 h2 h3 h4).mono ?_
 rintro e w' ⟨A3, n3, c3, rfl, hv, hw⟩
 rw [hq] at hv
 rw [decide_eq_decide.2 hb]
 exact ⟨A3, n3, c3, rfl, hv, hw⟩
def SpanQ (r : Nat) (n : Int) (w : World) (e : Ending) (w' : World) : Prop :=
 ∃ M : Nat, e = .returned (.agg #[.int .u64 ((vU r (18 - n) / vV (18 - n) : Nat) : Int), .bool (decide (vU r (18 - n) % vV (18 - n) = 0)), .int .u64 ((leastOf (vV (18 - n)) (10 ^ ((18 : Int) - n).toNat) r : Nat) : Int), .int .u64 (M : Nat)]) ∧
  (∀ c, c ≤ M ↔ mostLe (vV (18 - n)) (10 ^ ((18 : Int) - n).toNat) r c) ∧ Below w.heap.size w w'
set_option maxHeartbeats 1000000 in
theorem tspan_any {w : World} {A : Option Addr} {n0 c0 r m : Nat} {two n : Int} (hA : NV w A n0 c0 m) (hp : PartIs r m two) (h0 : 0 < r) (hpt : PointAt (fmag r) big n) (hn1 : -345 ≤ n) (hn2 : n ≤ 335) :
  Cp 95 #[.slice A n0 c0, .int .i64 two, .int .i64 (18 - n)] w (SpanQ r n w) := by
 obtain ⟨q1, q2, q3, q4, q5, q6⟩ := hp.pos
 obtain ⟨c, D, k, h1, h2, h3, h4, h5, h6, h7, h8⟩ := hp
 obtain ⟨s, hs⟩ : ∃ s, (18 : Int) - n = s := ⟨_, rfl⟩
 have hbc := bln_shift (k := k) q1
 rw [← h4] at hbc
 have hc0 : 0 < c := by rw [h4]; exact Nat.mul_pos q1 (two_pos k)
 obtain ⟨b1, b2, b3⟩ := bln_bounds hc0
 have hb53 : bln c ≤ 53 := bln_le (by omega)
 have hb53' : 4503599627370496 ≤ c → bln c = 53 := by
  intro h
  exact bln_of (L := 52) (by omega) (by omega)
 -- the ends, in quarters
 obtain ⟨e1, e2⟩ := quarters h1 h2 h3 h0
 have hHc := here_cross (s := s) (K := 1074) rfl h1 h2 h3 h4
 have hp2 : m * 2 ^ (k + 2) = 4 * c := by rw [h4, Nat.pow_add]; grind
 have hMc := end_cross (N := 4 * c + 2) (S := fmag r + fmag (r + 1)) (s := s) (K := 1074) rfl e1
 obtain ⟨bw, hbw⟩ : ∃ bw, (if c = 4503599627370496 ∧ 0 < D then 1 else 2) = bw := ⟨_, rfl⟩
 rw [hbw] at e2
 have hLc := end_cross (N := 4 * c - bw) (S := fmag (r - 1) + fmag r) (s := s) (K := 1074) rfl e2
 have hvV := vV_pos s
 have hsc := scB_pos ((D : Int) - 1076) s
 have H1 := (quot_cross hsc hvV hHc).1
 have H2 := rest_cross hsc hvV hHc
 have M1 := (quot_cross hsc (by omega) hMc).1
 have M2 := rest_cross hsc (by omega) hMc
 have L1 := (quot_cross hsc (by omega) hLc).1
 have L2 := rest_cross hsc (by omega) hLc
 have hH := (here_lt hpt).1
 have hM := most_lt h0 hpt
 have hL := least_lt h0 hpt
 unfold SpanQ
 rw [hs] at hH hM hL ⊢
 have hbw2 : bw ≤ 2 := by rw [← hbw]; split <;> omega
 rw [hp2] at H1 H2
 -- how many bits
 have bl4 : bln (4 * c + 2) ≤ 100 := bln_le (by omega)
 have bl4' : bln (4 * c) ≤ 100 := bln_le (by omega)
 have bl4'' : bln (4 * c - bw) ≤ 100 := bln_le (by omega)
 have S1 := Lib.hid (fun W A1 n1 c1 (h : NV W A1 n1 c1 (4 * c)) => tscaled_as (two := (D : Int) - 1076) (ten := s) h (by omega) (by omega) (by omega) (by omega) (by omega) H1 H2)
 have S2 := Lib.hid (fun W A1 n1 c1 (h : NV W A1 n1 c1 (4 * c - bw)) => tscaled_as (two := (D : Int) - 1076) (ten := s) h (by omega) (by omega) (by omega) (by omega) (by omega) L1 L2)
 have S3 := Lib.hid (fun W A1 n1 c1 (h : NV W A1 n1 c1 (4 * c + 2)) => tscaled_as (two := (D : Int) - 1076) (ten := s) h (by omega) (by omega) (by omega) (by omega) (by omega) M1 M2)
 have C1 := Lib.hid (fun W (h : NV W A n0 c0 m) => nbits h (by omega))
 have C2 := Lib.hid (fun W (h : NV W A n0 c0 m) => nshl h (k + 2) (by omega))
 rw [hp2] at C2
 have C4 := Lib.hid (fun W A1 n1 c1 A2 n2 c2 (h : NV W A1 n1 c1 (4 * c)) (g : NV W A2 n2 c2 bw) => nsub h g (by omega) (by omega))
 have C5 := Lib.hid (fun W => nof 2 (by omega) W)
 have C6 := Lib.hid (fun W A1 n1 c1 A2 n2 c2 (h : NV W A1 n1 c1 (4 * c)) (g : NV W A2 n2 c2 2) => nadd h g (by omega))
 have hev : decide (((D : Int) - 1074) < two) = decide (r % 2 = 0) := by
  refine decide_eq_decide.2 ?_
  rcases Nat.eq_zero_or_pos k with hk | hk
  ·rw [hk, Nat.pow_zero, Nat.mul_one] at h4
   omega
  ·obtain ⟨j, rfl⟩ : ∃ j, k = j + 1 := ⟨k - 1, by omega⟩
   rw [Nat.pow_succ, ← Nat.mul_assoc] at h4
   omega
 have hmax : max ((bln m : Int) + two - 53) (-1074) = (D : Int) - 1074 := by
  rcases Nat.eq_zero_or_pos D with hD | hD
  ·omega
  ·have := hb53' (by omega)
   omega
 have hpow : bln m = 1 → c = 2 ^ k := by
  intro h
  obtain ⟨u1, u2, _⟩ := bln_bounds q1
  rw [h] at u1 u2
  simp at u1 u2
  have : m = 1 := by omega
  rw [h4, this, Nat.one_mul]
 have fin : ∀ (e : Ending) (w' : World), (e = .returned (.agg #[.int .u64 ((vU r s / vV s : Nat) : Int), .bool (decide (vU r s % vV s = 0)), .int .u64 ((if decide ((fmag (r - 1) + fmag r) * 10 ^ s.toNat % (2 * vV s) = 0) = true ∧ decide (r % 2 = 0) = true then (fmag (r - 1) + fmag r) * 10 ^ s.toNat / (2 * vV s) else (fmag (r - 1) + fmag r) * 10 ^ s.toNat / (2 * vV s) + 1 : Nat) : Int), .int .u64 ((if decide ((fmag r + fmag (r + 1)) * 10 ^ s.toNat % (2 * vV s) = 0) = true ∧ decide (r % 2 = 0) = false then (fmag r + fmag (r + 1)) * 10 ^ s.toNat / (2 * vV s) - 1 else (fmag r + fmag (r + 1)) * 10 ^ s.toNat / (2 * vV s) : Nat) : Int)]) ∧ Below w.heap.size w w') → ∃ M : Nat, e = .returned (.agg #[.int .u64 ((vU r s / vV s : Nat) : Int), .bool (decide (vU r s % vV s = 0)), .int .u64 ((leastOf (vV s) (10 ^ s.toNat) r : Nat) : Int), .int .u64 (M : Nat)]) ∧ (∀ c, c ≤ M ↔ mostLe (vV s) (10 ^ s.toNat) r c) ∧ Below w.heap.size w w' := by
  rintro e w' ⟨he, hw⟩
  have hle : (if decide ((fmag (r - 1) + fmag r) * 10 ^ s.toNat % (2 * vV s) = 0) = true ∧ decide (r % 2 = 0) = true then (fmag (r - 1) + fmag r) * 10 ^ s.toNat / (2 * vV s) else (fmag (r - 1) + fmag r) * 10 ^ s.toNat / (2 * vV s) + 1) = leastOf (vV s) (10 ^ s.toNat) r := by
   unfold leastOf
   by_cases g : (fmag (r - 1) + fmag r) * 10 ^ s.toNat % (2 * vV s) = 0 <;> by_cases g2 : r % 2 = 0 <;> simp [g, g2]
  rw [hle] at he
  refine ⟨(if decide ((fmag r + fmag (r + 1)) * 10 ^ s.toNat % (2 * vV s) = 0) = true ∧ decide (r % 2 = 0) = false then (fmag r + fmag (r + 1)) * 10 ^ s.toNat / (2 * vV s) - 1 else (fmag r + fmag (r + 1)) * 10 ^ s.toNat / (2 * vV s)), he, ?_, hw⟩
  ·intro c
   unfold mostLe
   have := hM.2
   by_cases g : (fmag r + fmag (r + 1)) * 10 ^ s.toNat % (2 * vV s) = 0 <;> by_cases g2 : r % 2 = 0 <;> simp [g, g2] <;> omega
 rcases Nat.decEq (bln m) 1 with hb | hb
 ·have hbw' : bw = 2 := by
   rw [← hbw, if_neg]
   rintro ⟨g1, g2⟩
   apply hb
   have hb2 : bln c = 53 := by rw [g1]; exact bln_of (L := 52) (by omega) (by omega)
   have hk : k = 52 := by
    rcases Nat.lt_or_ge k 52 with h | h
    ·exfalso
     obtain ⟨d, hd⟩ : ∃ d, 52 = k + (d + 1) := ⟨52 - k - 1, by omega⟩
     have : m * 2 ^ k = 2 ^ (d + 1) * 2 ^ k := by rw [← h4, g1, ← Nat.pow_add, Nat.add_comm, ← hd]
     have := Nat.eq_of_mul_eq_mul_right (two_pos k) this
     rw [Nat.pow_succ] at this
     omega
    ·omega
   omega
  subst hbw'
  have C3 := Lib.hid (fun W => nof 2 (by omega) W)
  refine (tspan_more (bI := 2) (x4 := ((k + 2 : Nat) : Int)) (x5 := (D : Int) - 1076) (last := (D : Int) - 1074) (x1 := (bln m : Int) + two) (x2 := (bln m : Int) + two - 53) (x3 := (k : Int)) (two := two) (ten := s) hA C1 C2 C3 C4 C5 C6 S1 S2 S3 (by omega) (by omega) (by omega) hM.2 (by unfold wrap64; omega) (by unfold wrap64; omega) hmax (by unfold wrap64; omega) (by unfold wrap64; omega) (by unfold wrap64; omega) ⟨hb, rfl⟩ hev).mono ?_
  exact fin
 ·have hc2 := hpow hb
  rcases Nat.eq_zero_or_pos D with hD | hD
  ·have hbw' : bw = 2 := by
    rw [← hbw, if_neg]
    omega
   subst hbw'
   have C3 := Lib.hid (fun W => nof 2 (by omega) W)
   refine (tspan_low (bI := 2) (x4 := ((k + 2 : Nat) : Int)) (x5 := (D : Int) - 1076) (last := (D : Int) - 1074) (x1 := (bln m : Int) + two) (x2 := (bln m : Int) + two - 53) (x3 := (k : Int)) (two := two) (ten := s) hA C1 C2 C3 C4 C5 C6 S1 S2 S3 (by omega) (by omega) (by omega) hM.2 (by unfold wrap64; omega) (by unfold wrap64; omega) hmax (by unfold wrap64; omega) (by unfold wrap64; omega) (by unfold wrap64; omega) ⟨hb, decide_eq_false (by omega), rfl⟩ hev).mono ?_
   exact fin
  ·have hbw' : bw = 1 := by
    have := hb53' (by omega)
    have hk : k = 52 := by omega
    rw [← hbw, if_pos]
    rw [hk] at hc2
    omega
   subst hbw'
   have C3 := Lib.hid (fun W => nof 1 (by omega) W)
   refine (tspan_one (bI := 1) (x4 := ((k + 2 : Nat) : Int)) (x5 := (D : Int) - 1076) (last := (D : Int) - 1074) (x1 := (bln m : Int) + two) (x2 := (bln m : Int) + two - 53) (x3 := (k : Int)) (two := two) (ten := s) hA C1 C2 C3 C4 C5 C6 S1 S2 S3 (by omega) (by omega) (by omega) hM.2 (by unfold wrap64; omega) (by unfold wrap64; omega) hmax (by unfold wrap64; omega) (by unfold wrap64; omega) (by unfold wrap64; omega) ⟨hb, by omega, rfl⟩ hev).mono ?_
   exact fin

end Go.Proofs.YtfcpkdafkmohkaaGreatDoor
namespace Go.Proofs.YtfcpkdafkmohkaaGreatDoor
open Go.RowKit
theorem fbad_pos {x : Nat} (h0 : 0 < x) (hx : x < 9218868437227405312) : rung x = x ∧ fbad x = false := by
 have h1 : rung x = x := by unfold rung; omega
 have h2 : fneg x = false := by unfold fneg; rw [show x / 9223372036854775808 % 2 = 0 by omega]; rfl
 refine ⟨h1, ?_⟩
 unfold fbad fnan finf
 rw [h1, h2, decide_eq_false (by omega), decide_eq_false (by omega)]
 rfl
theorem parts_is {x k m : Nat} (h0 : 0 < x) (hx : x < 9218868437227405312) (h : fwhole x = 2 ^ (k + 1) * m + 2 ^ k) : PartIs x (2 * m + 1) (fpow x + (k : Nat)) := by
 obtain ⟨p1, p2⟩ := fwhole_pos h0
 have hk : k ≤ 52 := by
  have h1 : 2 ^ k < 2 ^ 53 := by omega
  have := (Nat.pow_lt_pow_iff_right (by omega)).1 h1
  omega
 have hc : fwhole x = (2 * m + 1) * 2 ^ k := by
  rw [h, Nat.pow_succ]
  grind
 by_cases hq : x / 4503599627370496 = 0
 ·refine ⟨fwhole x, 0, k, ?_, p2, .inl rfl, hc, ?_, by omega, by omega, hk⟩
  ·unfold fwhole
   rw [if_pos hq]
   omega
  ·unfold fpow
   rw [if_pos hq]
   omega
 ·refine ⟨fwhole x, x / 4503599627370496 - 1, k, ?_, p2, .inr ?_, hc, ?_, by omega, by omega, hk⟩
  ·unfold fwhole
   rw [if_neg hq]
   omega
  ·unfold fwhole
   rw [if_neg hq]
   omega
  ·unfold fpow
   rw [if_neg hq]
   omega
def PartsQ (x : Nat) (w : World) (e : Ending) (w' : World) : Prop := ∃ m two A n c, e = .returned (.tuple #[.slice A n c, .int .i64 two, .int .i64 0]) ∧ NV w' A n c m ∧ PartIs x m two ∧ Below w.heap.size w w'
theorem PartsP.q {x : Nat} {w w' : World} {e : Ending} (h0 : 0 < x) (hx : x < 9218868437227405312) (h : PartsP x w e w') : PartsQ x w e w' := by
 obtain ⟨k, m, A, n, c, h1, rfl, ⟨h2, h3, h4⟩, h5⟩ := h
 exact ⟨2 * m + 1, _, A, n, c, rfl, ⟨h2.symm, h3, h4⟩, parts_is h0 hx h1, h5⟩
theorem pparts_pos (x : Nat) (w : World) (h0 : 0 < x) (hx : x < 9218868437227405312) (ht : TzTab w) : Cp 54 #[.float .f64 x] w (PartsQ x w) := by
 obtain ⟨h1, h2⟩ := fbad_pos h0 hx
 exact (pparts_ok x w (by omega) h2 (by omega) ht).mono fun e w' h => h.q h0 hx
set_option maxRecDepth 100000 in
set_option maxHeartbeats 1000000 in
theorem tshort_whole (x N : Nat) (w : World) (D : ByteArray) (p : Int)
  (t1 : (FloatKind.f64.format.order x 4845873199050653696 == some .lt) = true)
  (hc : ∀ W : World, (convert 22 71 (.float .f64 x)).run Tryz.prog W = .ok (.int .u64 (N : Int)) W)
  (t2 : (FloatKind.f64.format.order x (floatOfInt FloatKind.f64 (N : Int)) == some .eq) = true)
  (C5 : Hid (∀ W, W = w → Ct 93 #[.int .u64 N, .int .i64 0] (.tuple #[.string D, .int .i64 p]) W)) :
  Ct 40 #[.float .f64 x] (.tuple #[.string D, .int .i64 p]) w := by
 go_enter Tryz.func40, Tryz.ntmps40
 go_wp2_with fail
 refine (C5.out _ rfl).mono ?_
 rintro e w1 ⟨rfl, b1⟩
 go_wp2
 go_ret2
 exact ⟨rfl, b1⟩
def CandQ (r : Nat) (n : Int) (k : Nat) (w : World) (e : Ending) (w' : World) : Prop := ∃ (v : Nat) (b : Bool), e = .returned (.tuple #[.int .u64 (v : Int), .bool b]) ∧ (b = true → ∃ c, cnd r n k = some c ∧ v = c * 10 ^ (18 - k)) ∧ (b = false → cnd r n k = none) ∧ Below w.heap.size w w'
def ShortQ (r : Nat) (w : World) (e : Ending) (w' : World) : Prop := ∃ L p, e = .returned (.tuple #[.string (strOf L), .int .i64 p]) ∧ SQ r L p ∧ Below w.heap.size w w'
def UnitAt (r : Nat) (n : Int) (u : Int) (k : Nat) : Prop := 1 ≤ k ∧ k ≤ 17 ∧ u = ((10 ^ (18 - k) : Nat) : Int) ∧ ∀ j, 1 ≤ j → j < k → cnd r n j = none
theorem UnitAt.next {r k : Nat} {n u : Int} (h : UnitAt r n u k) (hn : cnd r n k = none) (h17 : cnd r n 17 ≠ none) : UnitAt r n (IntKind.u64.wrap (u / 10)) (k + 1) ∧ (IntKind.u64.wrap (u / 10)) = u / 10 := by
 obtain ⟨h1, h2, rfl, h4⟩ := h
 have hk : k ≠ 17 := fun h => h17 (h ▸ hn)
 obtain ⟨i, hi⟩ : ∃ i, 18 - k = i + 1 := ⟨17 - k, by omega⟩
 have e1 : ((10 ^ (18 - k) : Nat) : Int) / 10 = ((10 ^ (18 - (k + 1)) : Nat) : Int) := by
  rw [hi, show 18 - (k + 1) = i by omega, Nat.pow_succ]
  omega
 have hle : 10 ^ (18 - (k + 1)) ≤ 10 ^ 18 := Nat.pow_le_pow_right (by omega) (by omega)
 have e2 : IntKind.u64.wrap (((10 ^ (18 - k) : Nat) : Int) / 10) = ((10 ^ (18 - k) : Nat) : Int) / 10 := by
  rw [e1, IntKind.wrap_u64]
  generalize 10 ^ (18 - (k + 1)) = b at *
  omega
 refine ⟨⟨by omega, by omega, by rw [e2, e1], ?_⟩, e2⟩
 intro j hj1 hj2
 rcases Nat.lt_or_ge j k with h | h
 ·exact h4 j hj1 h
 ·rw [show j = k by omega]
  exact hn
theorem UnitAt.bd {r k : Nat} {n u : Int} (h : UnitAt r n u k) : 0 < u ∧ u ≤ 100000000000000000 := by
 obtain ⟨h1, h2, rfl, h4⟩ := h
 have hle : 10 ^ (18 - k) ≤ 10 ^ 17 := Nat.pow_le_pow_right (by omega) (by omega)
 have := ten_pos (18 - k)
 omega
set_option maxRecDepth 100000 in
set_option maxHeartbeats 2000000 in
theorem tshort_frac (x N : Nat) (n s18 m18 : Int) (w : World) (HH LL : Nat) (ex : Bool) (PM : Nat → Prop)
  (t1 : (FloatKind.f64.format.order x 4845873199050653696 == some .lt) = true)
  (hc : ∀ W : World, (convert 22 71 (.float .f64 x)).run Tryz.prog W = .ok (.int .u64 (N : Int)) W)
  (t2 : (FloatKind.f64.format.order x (floatOfInt FloatKind.f64 (N : Int)) == some .eq) = false)
  (h17 : Hid (cnd x n 17 ≠ none)) (k1 : wrap64 (18 - n) = s18) (k2 : wrap64 (n - 18) = m18)
  (C1 : Hid (∀ W, W = w → Cp 54 #[.float .f64 x] W (PartsQ x W)))
  (C2 : Hid (∀ W A c0 n0 m two, NV W A n0 c0 m → PartIs x m two → Ct 94 #[.slice A n0 c0, .int .i64 two] (.int .i64 n) W))
  (C3 : Hid (∀ W A c0 n0 m two, NV W A n0 c0 m → PartIs x m two → Cp 95 #[.slice A n0 c0, .int .i64 two, .int .i64 s18] W fun e w' => ∃ M : Nat, e = .returned (.agg #[.int .u64 (HH : Nat), .bool ex, .int .u64 (LL : Nat), .int .u64 M]) ∧ PM M ∧ Below W.heap.size W w'))
  (C4 : Hid (∀ W M u k, PM M → UnitAt x n u k → Cp 96 #[.agg #[.int .u64 (HH : Nat), .bool ex, .int .u64 (LL : Nat), .int .u64 M], .int .u64 u] W (CandQ x n k W)))
  (C5 : Hid (∀ W u k c, Below w.heap.size w W → UnitAt x n u k → cnd x n k = some c → Cp 93 #[.int .u64 ((c * 10 ^ (18 - k) : Nat) : Int), .int .i64 m18] W (ShortQ x W))) :
  Cp 40 #[.float .f64 x] w (ShortQ x w) := by
 go_enter Tryz.func40, Tryz.ntmps40
 go_wp2_with fail
 refine (C1.out _ rfl).mono ?_
 rintro e w1 ⟨m, two, A, n0, c0, rfl, g1, hp, b1⟩
 have G1 := Lib.hid g1
 have HP := Lib.hid hp
 have B1 := Lib.hid b1
 clear g1 hp b1
 go_wp2_with fail
 refine (C2.out _ _ _ _ _ _ G1.out HP.out).mono ?_
 rintro e w2 ⟨rfl, b2⟩
 have G2 := Lib.hid (G1.out.step b2)
 have B2 := Lib.hid (below_le B1.out b2)
 clear b2
 go_wp2_with fail
 refine (C3.out _ _ _ _ _ _ G2.out HP.out).mono ?_
 rintro e w3 ⟨M, rfl, hM, b3⟩
 have HM := Lib.hid hM
 have B3 := Lib.hid (below_le B2.out b3)
 clear b3 hM
 go_wp2_with fail
 have B4 := Lib.hid (alloc_below (.cells #[.int .u64 (HH : Nat), .bool ex, .int .u64 (LL : Nat), .int .u64 M] 91) B3.out)
 have R4 := Lib.hid (show Rv (w3.alloc (.cells #[.int .u64 (HH : Nat), .bool ex, .int .u64 (LL : Nat), .int .u64 M] 91)) w3.heap.size #[.int .u64 (HH : Nat), .bool ex, .int .u64 (LL : Nat), .int .u64 M] from heap_alloc_last w3 _)
 have S4 := Lib.hid (show w3.heap.size < (w3.alloc (.cells #[.int .u64 (HH : Nat), .bool ex, .int .u64 (LL : Nat), .int .u64 M] 91)).heap.size from by simp)
 have N4 := Lib.hid (show UnitAt x n 100000000000000000 1 from ⟨by omega, by omega, rfl, fun j h1 h2 => by omega⟩)
 obtain ⟨gb, hgb⟩ : ∃ gb, w3.heap.size = gb := ⟨_, rfl⟩
 rw [hgb] at R4 S4 ⊢
 clear hgb
 generalize w3.alloc (.cells #[.int .u64 (HH : Nat), .bool ex, .int .u64 (LL : Nat), .int .u64 M] 91) = w4 at *
 go_loopw [9] (fun u wr => ∃ (v : Int) (k : Nat), u = .int .u64 v ∧ Hid (UnitAt x n v k) ∧ Hid (Rv wr gb #[.int .u64 (HH : Nat), .bool ex, .int .u64 (LL : Nat), .int .u64 M]) ∧ Hid (Below w.heap.size w wr) ∧ Hid (gb < wr.heap.size)) (fun u _ => (intOf u).toNat)
 case atStart => exact ⟨_, 1, rfl, N4, R4, B4, S4⟩
 case round =>
  obtain ⟨v, k, rfl, NK, R5, B5, S5⟩ := hrel
  obtain ⟨v0, v1⟩ := NK.out.bd
  have d0 : wr.cell? ⟨gb, 0, none⟩ = some (.int .u64 (HH : Nat)) := cell_of_row wr gb 0 _ 91 (0, 0) R5.out
  have d1 : wr.cell? ⟨gb, 1, none⟩ = some (.bool ex) := cell_of_row wr gb 1 _ 91 (0, 0) R5.out
  have d2 : wr.cell? ⟨gb, 2, none⟩ = some (.int .u64 (LL : Nat)) := cell_of_row wr gb 2 _ 91 (0, 0) R5.out
  have d3 : wr.cell? ⟨gb, 3, none⟩ = some (.int .u64 M) := cell_of_row wr gb 3 _ 91 (0, 0) R5.out
  go_wp2_with fail
  refine (C4.out _ _ _ _ HM.out NK.out).mono ?_
  rintro e w6 ⟨v', b, rfl, hb1, hb0, b6⟩
  have HB1 := Lib.hid hb1
  have HB0 := Lib.hid hb0
  have B6 := Lib.hid (below_le B5.out b6)
  have R6 := Lib.hid (show Rv w6 gb _ from (b6.block _ S5.out).trans R5.out)
  have S6 := Lib.hid (Nat.lt_of_lt_of_le S5.out b6.size)
  clear hb1 hb0 b6 d0 d1 d2 d3
  cases b
  ·have hn := HB0.out rfl
   obtain ⟨u1, u2⟩ := NK.out.next hn h17.out
   rw [u2] at u1
   have NN := Lib.hid u1
   clear hn u1 u2
   go_wp2
   go_roundw
   case rel => exact ⟨_, k + 1, rfl, NN, R6, B6, S6⟩
   case measure => simp [intOf]; omega
  ·obtain ⟨c, hc, rfl⟩ := HB1.out rfl
   have HC := Lib.hid hc
   clear hc
   go_wp2_with fail
   refine (C5.out _ _ _ _ B6.out NK.out HC.out).mono ?_
   rintro e w7 ⟨L, p, rfl, hq, b7⟩
   have HQ := Lib.hid hq
   have B7 := Lib.hid (below_le B6.out b7)
   clear hq b7
   go_wp2
   go_ret2
   exact ⟨L, p, rfl, HQ.out, B7.out⟩
set_option maxRecDepth 100000 in
set_option maxHeartbeats 2000000 in
theorem tshort_high (x : Nat) (n s18 m18 : Int) (w : World) (HH LL : Nat) (ex : Bool) (PM : Nat → Prop)
  (t1 : (FloatKind.f64.format.order x 4845873199050653696 == some .lt) = false)
  (h17 : Hid (cnd x n 17 ≠ none)) (k1 : wrap64 (18 - n) = s18) (k2 : wrap64 (n - 18) = m18)
  (C1 : Hid (∀ W, W = w → Cp 54 #[.float .f64 x] W (PartsQ x W)))
  (C2 : Hid (∀ W A c0 n0 m two, NV W A n0 c0 m → PartIs x m two → Ct 94 #[.slice A n0 c0, .int .i64 two] (.int .i64 n) W))
  (C3 : Hid (∀ W A c0 n0 m two, NV W A n0 c0 m → PartIs x m two → Cp 95 #[.slice A n0 c0, .int .i64 two, .int .i64 s18] W fun e w' => ∃ M : Nat, e = .returned (.agg #[.int .u64 (HH : Nat), .bool ex, .int .u64 (LL : Nat), .int .u64 M]) ∧ PM M ∧ Below W.heap.size W w'))
  (C4 : Hid (∀ W M u k, PM M → UnitAt x n u k → Cp 96 #[.agg #[.int .u64 (HH : Nat), .bool ex, .int .u64 (LL : Nat), .int .u64 M], .int .u64 u] W (CandQ x n k W)))
  (C5 : Hid (∀ W u k c, Below w.heap.size w W → UnitAt x n u k → cnd x n k = some c → Cp 93 #[.int .u64 ((c * 10 ^ (18 - k) : Nat) : Int), .int .i64 m18] W (ShortQ x W))) :
  Cp 40 #[.float .f64 x] w (ShortQ x w) := by
 go_enter Tryz.func40, Tryz.ntmps40
 go_wp2_with fail
 refine (C1.out _ rfl).mono ?_
 rintro e w1 ⟨m, two, A, n0, c0, rfl, g1, hp, b1⟩
 have G1 := Lib.hid g1
 have HP := Lib.hid hp
 have B1 := Lib.hid b1
 clear g1 hp b1
 go_wp2_with fail
 refine (C2.out _ _ _ _ _ _ G1.out HP.out).mono ?_
 rintro e w2 ⟨rfl, b2⟩
 have G2 := Lib.hid (G1.out.step b2)
 have B2 := Lib.hid (below_le B1.out b2)
 clear b2
 go_wp2_with fail
 refine (C3.out _ _ _ _ _ _ G2.out HP.out).mono ?_
 rintro e w3 ⟨M, rfl, hM, b3⟩
 have HM := Lib.hid hM
 have B3 := Lib.hid (below_le B2.out b3)
 clear b3 hM
 go_wp2_with fail
 have B4 := Lib.hid (alloc_below (.cells #[.int .u64 (HH : Nat), .bool ex, .int .u64 (LL : Nat), .int .u64 M] 91) B3.out)
 have R4 := Lib.hid (show Rv (w3.alloc (.cells #[.int .u64 (HH : Nat), .bool ex, .int .u64 (LL : Nat), .int .u64 M] 91)) w3.heap.size #[.int .u64 (HH : Nat), .bool ex, .int .u64 (LL : Nat), .int .u64 M] from heap_alloc_last w3 _)
 have S4 := Lib.hid (show w3.heap.size < (w3.alloc (.cells #[.int .u64 (HH : Nat), .bool ex, .int .u64 (LL : Nat), .int .u64 M] 91)).heap.size from by simp)
 have N4 := Lib.hid (show UnitAt x n 100000000000000000 1 from ⟨by omega, by omega, rfl, fun j h1 h2 => by omega⟩)
 obtain ⟨gb, hgb⟩ : ∃ gb, w3.heap.size = gb := ⟨_, rfl⟩
 rw [hgb] at R4 S4 ⊢
 clear hgb
 generalize w3.alloc (.cells #[.int .u64 (HH : Nat), .bool ex, .int .u64 (LL : Nat), .int .u64 M] 91) = w4 at *
 go_loopw [9] (fun u wr => ∃ (v : Int) (k : Nat), u = .int .u64 v ∧ Hid (UnitAt x n v k) ∧ Hid (Rv wr gb #[.int .u64 (HH : Nat), .bool ex, .int .u64 (LL : Nat), .int .u64 M]) ∧ Hid (Below w.heap.size w wr) ∧ Hid (gb < wr.heap.size)) (fun u _ => (intOf u).toNat)
 case atStart => exact ⟨_, 1, rfl, N4, R4, B4, S4⟩
 case round =>
  obtain ⟨v, k, rfl, NK, R5, B5, S5⟩ := hrel
  obtain ⟨v0, v1⟩ := NK.out.bd
  have d0 : wr.cell? ⟨gb, 0, none⟩ = some (.int .u64 (HH : Nat)) := cell_of_row wr gb 0 _ 91 (0, 0) R5.out
  have d1 : wr.cell? ⟨gb, 1, none⟩ = some (.bool ex) := cell_of_row wr gb 1 _ 91 (0, 0) R5.out
  have d2 : wr.cell? ⟨gb, 2, none⟩ = some (.int .u64 (LL : Nat)) := cell_of_row wr gb 2 _ 91 (0, 0) R5.out
  have d3 : wr.cell? ⟨gb, 3, none⟩ = some (.int .u64 M) := cell_of_row wr gb 3 _ 91 (0, 0) R5.out
  go_wp2_with fail
  refine (C4.out _ _ _ _ HM.out NK.out).mono ?_
  rintro e w6 ⟨v', b, rfl, hb1, hb0, b6⟩
  have HB1 := Lib.hid hb1
  have HB0 := Lib.hid hb0
  have B6 := Lib.hid (below_le B5.out b6)
  have R6 := Lib.hid (show Rv w6 gb _ from (b6.block _ S5.out).trans R5.out)
  have S6 := Lib.hid (Nat.lt_of_lt_of_le S5.out b6.size)
  clear hb1 hb0 b6 d0 d1 d2 d3
  cases b
  ·have hn := HB0.out rfl
   obtain ⟨u1, u2⟩ := NK.out.next hn h17.out
   rw [u2] at u1
   have NN := Lib.hid u1
   clear hn u1 u2
   go_wp2
   go_roundw
   case rel => exact ⟨_, k + 1, rfl, NN, R6, B6, S6⟩
   case measure => simp [intOf]; omega
  ·obtain ⟨c, hc, rfl⟩ := HB1.out rfl
   have HC := Lib.hid hc
   clear hc
   go_wp2_with fail
   refine (C5.out _ _ _ _ B6.out NK.out HC.out).mono ?_
   rintro e w7 ⟨L, p, rfl, hq, b7⟩
   have HQ := Lib.hid hq
   have B7 := Lib.hid (below_le B6.out b7)
   clear hq b7
   go_wp2
   go_ret2
   exact ⟨L, p, rfl, HQ.out, B7.out⟩

end Go.Proofs.YtfcpkdafkmohkaaGreatDoor
namespace Go.Proofs.YtfcpkdafkmohkaaGreatDoor
open Go.RowKit
theorem point_ex {r m : Nat} {two : Int} (h : PartIs r m two) : ∃ p : Int, PointAt (fmag r) big p ∧ -345 ≤ p ∧ p ≤ 335 := by
 obtain ⟨q1, q2, q3, q4, q5, q6⟩ := h.pos
 have hx := vcross h
 obtain ⟨u1, u2, u3⟩ := bln_bounds q1
 obtain ⟨k, hk⟩ : ∃ k, bln m = k + 1 := ⟨bln m - 1, by omega⟩
 rw [hk] at u1 u2 q2 q3 q4
 rw [Nat.add_sub_cancel] at u1
 obtain ⟨e, he⟩ : ∃ e, (k : Int) + two = e := ⟨_, rfl⟩
 obtain ⟨l1, l2⟩ := lead_at u1 u2 he
 obtain ⟨p1, p2⟩ := point_lg (u := m * 2 ^ two.toNat) (v := 2 ^ (-two).toNat) (e := e) (two_pos _) (by omega) (by omega) l1 l2
 obtain ⟨n1, hn1⟩ : ∃ n1, lg2 e + 1 = n1 := ⟨_, rfl⟩
 have b1 : -345 ≤ n1 ∧ n1 ≤ 333 := by unfold lg2 at hn1; omega
 rw [hn1] at p1 p2
 rw [show lg2 e + 2 = n1 + 1 by omega] at p2
 by_cases hh : le10 n1 (m * 2 ^ two.toNat) (2 ^ (-two).toNat)
 ·exact ⟨n1 + 1, point_cross (two_pos _) big_pos hx (p2 hh), by omega, by omega⟩
 ·exact ⟨n1, point_cross (two_pos _) big_pos hx (p1 hh), by omega, by omega⟩
theorem tpoint_is {w : World} {A : Option Addr} {n0 c0 r m : Nat} {two n : Int} (hA : NV w A n0 c0 m) (h : PartIs r m two) (hp : PointAt (fmag r) big n) :
  Ct 94 #[.slice A n0 c0, .int .i64 two] (.int .i64 n) w := by
 obtain ⟨q1, q2, q3, q4, q5, q6⟩ := h.pos
 obtain ⟨p, p1, p2, p3, hc⟩ := tpoint_any two hA q1 (by omega) (by omega) (by omega)
 have := point_one (point_cross (two_pos _) big_pos (vcross h) p1) hp
 subst this
 exact hc
theorem part_ex {x : Nat} (h0 : 0 < x) (hx : x < 9218868437227405312) : ∃ m two, PartIs x m two := by
 obtain ⟨k, m, h⟩ := odd_part _ (fwhole_pos h0).1
 exact ⟨_, _, parts_is h0 hx h⟩
theorem flo_of (N : Nat) : floatOfInt FloatKind.f64 (N : Int) = fl N := rfl
theorem tz_on {w w' : World} (h : TzTab w) (hb : Below w.heap.size w w') : TzTab w' := by
 intro i hi
 have h1 := h i hi
 have hlt : 1 < w.heap.size := by
  rcases Nat.lt_or_ge 1 w.heap.size with h2 | h2
  ·exact h2
  ·rw [World.cell?, Array.getElem?_eq_none h2] at h1
   cases h1
 rw [hb.cell (p := ⟨1, i, none⟩) hlt]
 exact h1
theorem tshortest_any (x : Nat) (w : World) (h0 : 0 < x) (hx : x < 9218868437227405312) (ht : Tab10 w) (hz : TzTab w) : Cp 40 #[.float .f64 x] w (ShortQ x w) := by
 obtain ⟨m0, two0, hp0⟩ := part_ex h0 hx
 obtain ⟨n, hn, n1, n2⟩ := point_ex hp0
 have h17 := Lib.hid (cnd_ends hn h0 hx)
 obtain ⟨T, hT⟩ : ∃ T, fmag x / big = T := ⟨_, rfl⟩
 have C1 : Hid (∀ W, W = w → Cp 54 #[.float .f64 x] W (PartsQ x W)) := Lib.hid (fun W (h : W = w) => by
  subst h
  exact pparts_pos x W h0 hx hz)
 have C2 := Lib.hid (fun W A c0 n0 m two (h : NV W A n0 c0 m) (hp : PartIs x m two) => tpoint_is h hp hn)
 have C3 : Hid (∀ W A c0 n0 m two, NV W A n0 c0 m → PartIs x m two → Cp 95 #[.slice A n0 c0, .int .i64 two, .int .i64 (18 - n)] W fun e w' => ∃ M : Nat, e = .returned (.agg #[.int .u64 ((vU x (18 - n) / vV (18 - n) : Nat) : Int), .bool (decide (vU x (18 - n) % vV (18 - n) = 0)), .int .u64 ((leastOf (vV (18 - n)) (10 ^ ((18 : Int) - n).toNat) x : Nat) : Int), .int .u64 M]) ∧ (∀ c, c ≤ M ↔ mostLe (vV (18 - n)) (10 ^ ((18 : Int) - n).toNat) x c) ∧ Below W.heap.size W w') :=
  Lib.hid (fun W A c0 n0 m two h hp => tspan_any h hp h0 hn n1 n2)
 obtain ⟨hH, _⟩ := here_lt hn
 have C4 : Hid (∀ W M u k, (∀ c, c ≤ M ↔ mostLe (vV (18 - n)) (10 ^ ((18 : Int) - n).toNat) x c) → UnitAt x n u k → Cp 96 #[.agg #[.int .u64 ((vU x (18 - n) / vV (18 - n) : Nat) : Int), .bool (decide (vU x (18 - n) % vV (18 - n) = 0)), .int .u64 ((leastOf (vV (18 - n)) (10 ^ ((18 : Int) - n).toNat) x : Nat) : Int), .int .u64 M], .int .u64 u] W (CandQ x n k W)) :=
  Lib.hid (fun W M u k hM hu => by
   obtain ⟨b1, b2⟩ := hu.bd
   obtain ⟨k1, k2, rfl, _⟩ := hu
   refine (tcand_any _ _ M (10 ^ (18 - k)) _ W (ten_pos _) (by omega)).mono ?_
   rintro e w' ⟨rfl, hw⟩
   rw [pcn_cnd (k := k) (i := 18 - k) (by omega) (by omega) h0 hx hM]
   unfold candV
   refine ⟨_, _, rfl, ?_, ?_, hw⟩
   ·intro h
    cases hc : cnd x n k with
    | none => rw [hc] at h; cases h
    | some c => exact ⟨c, rfl, rfl⟩
   ·intro h
    cases hc : cnd x n k with
    | none => rfl
    | some c => rw [hc] at h; cases h)
 have C5 : Hid (∀ W u k c, Below w.heap.size w W → UnitAt x n u k → cnd x n k = some c → Cp 93 #[.int .u64 ((c * 10 ^ (18 - k) : Nat) : Int), .int .i64 (n - 18)] W (ShortQ x W)) :=
  Lib.hid (fun W u k c hW hu hc => by
   obtain ⟨k1, k2, _, k4⟩ := hu
   have hl := cnd_last hn k1 k4 hc
   have hlt : c * 10 ^ (18 - k) < 10 ^ 19 := by
    have h10 : c ≤ 10 ^ k := by
     rcases hl with ⟨_, _, h⟩ | ⟨h1, h2⟩
     ·omega
     ·rw [h1, h2]; omega
    have h1 : c * 10 ^ (18 - k) ≤ 10 ^ k * 10 ^ (18 - k) := Nat.mul_le_mul_right _ h10
    rw [← Nat.pow_add, show k + (18 - k) = 18 by omega] at h1
    omega
   refine (ttrimmed_any (c * 10 ^ (18 - k)) (n - 18) W (by omega) (by omega) (by omega) (ht.on hW)).mono ?_
   rintro e w' ⟨rfl, hw⟩
   have hc0 : 0 < c := by
    rcases hl with ⟨h, _⟩ | ⟨_, h⟩ <;> omega
   rw [dL_zeros hc0, trz_rep, List.length_append, List.length_replicate]
   refine ⟨_, _, rfl, ⟨n, k, c, hn, k1, k2, k4, hc, rfl, ?_⟩, hw⟩
   omega)
 rcases Nat.lt_or_ge x 4845873199050653696 with hlt | hge
 ·have hTl := trunc_lt hlt
  rw [hT] at hTl
  have t1 : (FloatKind.f64.format.order x 4845873199050653696 == some .lt) = true := by rw [ord_lt_pos (by omega) (by omega)]; exact decide_eq_true hlt
  have hcv := fun W => conv_u64 hx hT (by omega) W
  have heq := float_whole (x := x) hx hTl
  rw [← flo_of] at heq
  by_cases hw : fmag x = T * big
  ·rw [decide_eq_true hw] at heq
   have hT0 : 0 < T := by
    rcases Nat.eq_zero_or_pos T with h | h
    ·rw [h, Nat.zero_mul] at hw
     have := fmag_pos.2 h0
     omega
    ·exact h
   refine (tshort_whole x T w _ _ t1 hcv heq (Lib.hid fun W h => by
    subst h
    exact ttrimmed_any T 0 W (by omega) (by omega) (by omega) ht)).mono ?_
   rintro e w' ⟨rfl, hb⟩
   refine ⟨_, _, rfl, ?_, hb⟩
   have := sq_whole hT0 hTl hx hw
   rw [Int.add_zero]
   exact this
  ·rw [decide_eq_false hw] at heq
   exact tshort_frac x T n _ _ w _ _ _ _ t1 hcv heq h17 (by unfold wrap64; omega) (by unfold wrap64; omega) C1 C2 C3 C4 C5
 ·have t1 : (FloatKind.f64.format.order x 4845873199050653696 == some .lt) = false := by rw [ord_lt_pos (by omega) (by omega)]; exact decide_eq_false (by omega)
  exact tshort_high x n _ _ w _ _ _ _ t1 h17 (by unfold wrap64; omega) (by unfold wrap64; omega) C1 C2 C3 C4 C5

end Go.Proofs.YtfcpkdafkmohkaaGreatDoor
namespace Go.Proofs.YtfcpkdafkmohkaaGreatDoor
set_option maxRecDepth 100000
open Go.RowKit
set_option maxHeartbeats 1000000 in
theorem tsigned_00nan (x : Nat) (f : FuncId) (F : ByteArray) (w : World) (t0 : (FloatKind.f64.format.order x 0 == some .lt) = false)
  (CN : Hid (∀ W, Cq 34 #[.float .f64 x] (.bool true) W))
  (CW : Hid (∀ W, Ct 41 #[.string ⟨#[78, 97, 78]⟩] (.string F) W)) :
  Ct 43 #[.float .f64 x, .func (Fn.func f) #[] #[]] (.string F) w := by
 go_enter Tryz.func43, Tryz.ntmps43
 go_wp2_with fail
 refine (CN.out _).mono ?_
 rintro e w' ⟨rfl, rfl⟩
 go_wp2_with fail
 refine (CW.out _).mono ?_
 rintro e w2 ⟨rfl, b2⟩
 have B2 := Lib.hid (below_le (Below.refl _ _) b2)
 clear b2
 go_wp2
 go_ret
 exact ⟨rfl, B2.out⟩
set_option maxHeartbeats 1000000 in
theorem tsigned_00inf (x : Nat) (f : FuncId) (F : ByteArray) (w : World) (t0 : (FloatKind.f64.format.order x 0 == some .lt) = false)
  (CN : Hid (∀ W, Cq 34 #[.float .f64 x] (.bool false) W))
  (CI : Hid (∀ W, Cq 36 #[.float .f64 x, .int .i64 0] (.bool true) W))
  (CW : Hid (∀ W, Ct 41 #[.string ⟨#[73, 110, 102, 105, 110, 105, 116, 121]⟩] (.string F) W)) :
  Ct 43 #[.float .f64 x, .func (Fn.func f) #[] #[]] (.string F) w := by
 go_enter Tryz.func43, Tryz.ntmps43
 go_wp2_with fail
 refine (CN.out _).mono ?_
 rintro e w' ⟨rfl, rfl⟩
 go_wp2_with fail
 refine (CI.out _).mono ?_
 rintro e w' ⟨rfl, rfl⟩
 go_wp2_with fail
 refine (CW.out _).mono ?_
 rintro e w2 ⟨rfl, b2⟩
 have B2 := Lib.hid (below_le (Below.refl _ _) b2)
 clear b2
 go_wp2
 go_ret
 exact ⟨rfl, B2.out⟩
set_option maxHeartbeats 1000000 in
theorem tsigned_00fin (x : Nat) (f : FuncId) (R S : ByteArray) (r : Nat) (F : ByteArray) (w : World) (t0 : (FloatKind.f64.format.order x 0 == some .lt) = false)
  (CN : Hid (∀ W, Cq 34 #[.float .f64 x] (.bool false) W))
  (CI : Hid (∀ W, Cq 36 #[.float .f64 x, .int .i64 0] (.bool false) W))
  (CA : Hid (∀ W, Cq 52 #[.float .f64 x] (.float .f64 r) W))
  (he : ∀ args (W : World), (callFunc f args).run Tryz.prog W = .ok (.enter f args) W)
  (CT : Hid (∀ W, W = w → Ct f #[.float .f64 r] (.string R) W))
  (hR : Hid (R.size ≤ 1000000)) (hS : ⟨#[]⟩ ++ R = S)
  (CW : Hid (∀ W, Ct 41 #[.string S] (.string F) W)) :
  Ct 43 #[.float .f64 x, .func (Fn.func f) #[] #[]] (.string F) w := by
 have g1 : ¬ 9223372036854775807 < R.size := by have := hR.out; omega
 go_enter Tryz.func43, Tryz.ntmps43
 go_wp2_with fail
 refine (CN.out _).mono ?_
 rintro e w' ⟨rfl, rfl⟩
 go_wp2_with fail
 refine (CI.out _).mono ?_
 rintro e w' ⟨rfl, rfl⟩
 go_wp2_with fail
 refine (CA.out _).mono ?_
 rintro e w' ⟨rfl, rfl⟩
 go_wp2_with fail
 refine (CT.out _ rfl).mono ?_
 rintro e w1 ⟨rfl, b1⟩
 have B1 := Lib.hid b1
 clear b1
 go_wp2_with fail
 refine (CW.out _).mono ?_
 rintro e w2 ⟨rfl, b2⟩
 have B2 := Lib.hid (below_le B1.out b2)
 clear b2
 go_wp2
 go_ret
 exact ⟨rfl, B2.out⟩
set_option maxHeartbeats 1000000 in
theorem tsigned_01inf (x : Nat) (f : FuncId) (F : ByteArray) (w : World) (t0 : (FloatKind.f64.format.order x 0 == some .lt) = true)
  (CN : Hid (∀ W, Cq 34 #[.float .f64 x] (.bool false) W))
  (CI : Hid (∀ W, Cq 36 #[.float .f64 x, .int .i64 0] (.bool true) W))
  (CW : Hid (∀ W, Ct 41 #[.string ⟨#[45, 73, 110, 102, 105, 110, 105, 116, 121]⟩] (.string F) W)) :
  Ct 43 #[.float .f64 x, .func (Fn.func f) #[] #[]] (.string F) w := by
 go_enter Tryz.func43, Tryz.ntmps43
 go_wp2_with fail
 refine (CN.out _).mono ?_
 rintro e w' ⟨rfl, rfl⟩
 go_wp2_with fail
 refine (CI.out _).mono ?_
 rintro e w' ⟨rfl, rfl⟩
 go_wp2_with fail
 refine (CW.out _).mono ?_
 rintro e w2 ⟨rfl, b2⟩
 have B2 := Lib.hid (below_le (Below.refl _ _) b2)
 clear b2
 go_wp2
 go_ret
 exact ⟨rfl, B2.out⟩
set_option maxHeartbeats 1000000 in
theorem tsigned_01fin (x : Nat) (f : FuncId) (R S : ByteArray) (r : Nat) (F : ByteArray) (w : World) (t0 : (FloatKind.f64.format.order x 0 == some .lt) = true)
  (CN : Hid (∀ W, Cq 34 #[.float .f64 x] (.bool false) W))
  (CI : Hid (∀ W, Cq 36 #[.float .f64 x, .int .i64 0] (.bool false) W))
  (CA : Hid (∀ W, Cq 52 #[.float .f64 x] (.float .f64 r) W))
  (he : ∀ args (W : World), (callFunc f args).run Tryz.prog W = .ok (.enter f args) W)
  (CT : Hid (∀ W, W = w → Ct f #[.float .f64 r] (.string R) W))
  (hR : Hid (R.size ≤ 1000000)) (hS : ⟨#[45]⟩ ++ R = S)
  (CW : Hid (∀ W, Ct 41 #[.string S] (.string F) W)) :
  Ct 43 #[.float .f64 x, .func (Fn.func f) #[] #[]] (.string F) w := by
 have g1 : ¬ 9223372036854775807 < 1 + R.size := by have := hR.out; omega
 go_enter Tryz.func43, Tryz.ntmps43
 go_wp2_with fail
 refine (CN.out _).mono ?_
 rintro e w' ⟨rfl, rfl⟩
 go_wp2_with fail
 refine (CI.out _).mono ?_
 rintro e w' ⟨rfl, rfl⟩
 go_wp2_with fail
 refine (CA.out _).mono ?_
 rintro e w' ⟨rfl, rfl⟩
 go_wp2_with fail
 refine (CT.out _ rfl).mono ?_
 rintro e w1 ⟨rfl, b1⟩
 have B1 := Lib.hid b1
 clear b1
 go_wp2_with fail
 refine (CW.out _).mono ?_
 rintro e w2 ⟨rfl, b2⟩
 have B2 := Lib.hid (below_le B1.out b2)
 clear b2
 go_wp2
 go_ret
 exact ⟨rfl, B2.out⟩
set_option maxHeartbeats 1000000 in
theorem tsigned_10nan (x : Nat) (f : FuncId) (pb : Addr) (F : ByteArray) (w : World) (t0 : (FloatKind.f64.format.order x 0 == some .lt) = false)
  (CN : Hid (∀ W, Cq 34 #[.float .f64 x] (.bool true) W))
  (CW : Hid (∀ W, Ct 41 #[.string ⟨#[78, 97, 78]⟩] (.string F) W)) :
  Ct 43 #[.float .f64 x, .func (Fn.func f) #[] #[.pointer (some pb)]] (.string F) w := by
 go_enter Tryz.func43, Tryz.ntmps43
 go_wp2_with fail
 refine (CN.out _).mono ?_
 rintro e w' ⟨rfl, rfl⟩
 go_wp2_with fail
 refine (CW.out _).mono ?_
 rintro e w2 ⟨rfl, b2⟩
 have B2 := Lib.hid (below_le (Below.refl _ _) b2)
 clear b2
 go_wp2
 go_ret
 exact ⟨rfl, B2.out⟩
set_option maxHeartbeats 1000000 in
theorem tsigned_10inf (x : Nat) (f : FuncId) (pb : Addr) (F : ByteArray) (w : World) (t0 : (FloatKind.f64.format.order x 0 == some .lt) = false)
  (CN : Hid (∀ W, Cq 34 #[.float .f64 x] (.bool false) W))
  (CI : Hid (∀ W, Cq 36 #[.float .f64 x, .int .i64 0] (.bool true) W))
  (CW : Hid (∀ W, Ct 41 #[.string ⟨#[73, 110, 102, 105, 110, 105, 116, 121]⟩] (.string F) W)) :
  Ct 43 #[.float .f64 x, .func (Fn.func f) #[] #[.pointer (some pb)]] (.string F) w := by
 go_enter Tryz.func43, Tryz.ntmps43
 go_wp2_with fail
 refine (CN.out _).mono ?_
 rintro e w' ⟨rfl, rfl⟩
 go_wp2_with fail
 refine (CI.out _).mono ?_
 rintro e w' ⟨rfl, rfl⟩
 go_wp2_with fail
 refine (CW.out _).mono ?_
 rintro e w2 ⟨rfl, b2⟩
 have B2 := Lib.hid (below_le (Below.refl _ _) b2)
 clear b2
 go_wp2
 go_ret
 exact ⟨rfl, B2.out⟩
set_option maxHeartbeats 1000000 in
theorem tsigned_10fin (x : Nat) (f : FuncId) (pb : Addr) (R S : ByteArray) (r : Nat) (F : ByteArray) (w : World) (t0 : (FloatKind.f64.format.order x 0 == some .lt) = false)
  (CN : Hid (∀ W, Cq 34 #[.float .f64 x] (.bool false) W))
  (CI : Hid (∀ W, Cq 36 #[.float .f64 x, .int .i64 0] (.bool false) W))
  (CA : Hid (∀ W, Cq 52 #[.float .f64 x] (.float .f64 r) W))
  (he : ∀ args (W : World), (callFunc f args).run Tryz.prog W = .ok (.enter f args) W)
  (CT : Hid (∀ W, W = w → Ct f #[.float .f64 r, .pointer (some pb)] (.string R) W))
  (hR : Hid (R.size ≤ 1000000)) (hS : ⟨#[]⟩ ++ R = S)
  (CW : Hid (∀ W, Ct 41 #[.string S] (.string F) W)) :
  Ct 43 #[.float .f64 x, .func (Fn.func f) #[] #[.pointer (some pb)]] (.string F) w := by
 have g1 : ¬ 9223372036854775807 < R.size := by have := hR.out; omega
 go_enter Tryz.func43, Tryz.ntmps43
 go_wp2_with fail
 refine (CN.out _).mono ?_
 rintro e w' ⟨rfl, rfl⟩
 go_wp2_with fail
 refine (CI.out _).mono ?_
 rintro e w' ⟨rfl, rfl⟩
 go_wp2_with fail
 refine (CA.out _).mono ?_
 rintro e w' ⟨rfl, rfl⟩
 go_wp2_with fail
 refine (CT.out _ rfl).mono ?_
 rintro e w1 ⟨rfl, b1⟩
 have B1 := Lib.hid b1
 clear b1
 go_wp2_with fail
 refine (CW.out _).mono ?_
 rintro e w2 ⟨rfl, b2⟩
 have B2 := Lib.hid (below_le B1.out b2)
 clear b2
 go_wp2
 go_ret
 exact ⟨rfl, B2.out⟩
set_option maxHeartbeats 1000000 in
theorem tsigned_11inf (x : Nat) (f : FuncId) (pb : Addr) (F : ByteArray) (w : World) (t0 : (FloatKind.f64.format.order x 0 == some .lt) = true)
  (CN : Hid (∀ W, Cq 34 #[.float .f64 x] (.bool false) W))
  (CI : Hid (∀ W, Cq 36 #[.float .f64 x, .int .i64 0] (.bool true) W))
  (CW : Hid (∀ W, Ct 41 #[.string ⟨#[45, 73, 110, 102, 105, 110, 105, 116, 121]⟩] (.string F) W)) :
  Ct 43 #[.float .f64 x, .func (Fn.func f) #[] #[.pointer (some pb)]] (.string F) w := by
 go_enter Tryz.func43, Tryz.ntmps43
 go_wp2_with fail
 refine (CN.out _).mono ?_
 rintro e w' ⟨rfl, rfl⟩
 go_wp2_with fail
 refine (CI.out _).mono ?_
 rintro e w' ⟨rfl, rfl⟩
 go_wp2_with fail
 refine (CW.out _).mono ?_
 rintro e w2 ⟨rfl, b2⟩
 have B2 := Lib.hid (below_le (Below.refl _ _) b2)
 clear b2
 go_wp2
 go_ret
 exact ⟨rfl, B2.out⟩
set_option maxHeartbeats 1000000 in
theorem tsigned_11fin (x : Nat) (f : FuncId) (pb : Addr) (R S : ByteArray) (r : Nat) (F : ByteArray) (w : World) (t0 : (FloatKind.f64.format.order x 0 == some .lt) = true)
  (CN : Hid (∀ W, Cq 34 #[.float .f64 x] (.bool false) W))
  (CI : Hid (∀ W, Cq 36 #[.float .f64 x, .int .i64 0] (.bool false) W))
  (CA : Hid (∀ W, Cq 52 #[.float .f64 x] (.float .f64 r) W))
  (he : ∀ args (W : World), (callFunc f args).run Tryz.prog W = .ok (.enter f args) W)
  (CT : Hid (∀ W, W = w → Ct f #[.float .f64 r, .pointer (some pb)] (.string R) W))
  (hR : Hid (R.size ≤ 1000000)) (hS : ⟨#[45]⟩ ++ R = S)
  (CW : Hid (∀ W, Ct 41 #[.string S] (.string F) W)) :
  Ct 43 #[.float .f64 x, .func (Fn.func f) #[] #[.pointer (some pb)]] (.string F) w := by
 have g1 : ¬ 9223372036854775807 < 1 + R.size := by have := hR.out; omega
 go_enter Tryz.func43, Tryz.ntmps43
 go_wp2_with fail
 refine (CN.out _).mono ?_
 rintro e w' ⟨rfl, rfl⟩
 go_wp2_with fail
 refine (CI.out _).mono ?_
 rintro e w' ⟨rfl, rfl⟩
 go_wp2_with fail
 refine (CA.out _).mono ?_
 rintro e w' ⟨rfl, rfl⟩
 go_wp2_with fail
 refine (CT.out _ rfl).mono ?_
 rintro e w1 ⟨rfl, b1⟩
 have B1 := Lib.hid b1
 clear b1
 go_wp2_with fail
 refine (CW.out _).mono ?_
 rintro e w2 ⟨rfl, b2⟩
 have B2 := Lib.hid (below_le B1.out b2)
 clear b2
 go_wp2
 go_ret
 exact ⟨rfl, B2.out⟩

end Go.Proofs.YtfcpkdafkmohkaaGreatDoor
namespace Go.Proofs.YtfcpkdafkmohkaaGreatDoor
open Go.RowKit
set_option maxRecDepth 100000 in
theorem tplain_zero (x : Nat) (w : World) (t0 : (FloatKind.f64.format.order x 0 == some .eq) = true) : Cq 44 #[.float .f64 x] (.string ⟨#[48]⟩) w := by
 go_enter Tryz.func44, Tryz.ntmps44
 go_wp2
 go_ret
 exact ⟨rfl, rfl⟩
set_option maxRecDepth 100000 in
set_option maxHeartbeats 1000000 in
theorem tplain_low (x : Nat) (N : Int) (S F : ByteArray) (w : World) (t0 : (FloatKind.f64.format.order x 0 == some .eq) = false) (b1 : -1000 ≤ N) (b2 : N ≤ 1000) (h1 : N ≤ -6)
  (CS : Hid (∀ W, Below w.heap.size w W → Ct 59 #[.string S, .int .i64 (N - 1)] (.string F) W))
  (C : Hid (∀ W, W = w → Ct 40 #[.float .f64 x] (.tuple #[.string S, .int .i64 N]) W)) :
  Ct 44 #[.float .f64 x] (.string F) w := by
 go_enter Tryz.func44, Tryz.ntmps44
 go_wp2_with fail
 refine (C.out _ rfl).mono ?_
 rintro e w1 ⟨rfl, b1'⟩
 have B1 := Lib.hid b1'
 clear b1'
 go_wp2_with fail
 refine (CS.out _ B1.out).mono ?_
 rintro e w2 ⟨rfl, b2'⟩
 have B2 := Lib.hid (below_le B1.out b2')
 clear b2'
 go_wp2
 go_ret
 exact ⟨rfl, B2.out⟩
set_option maxRecDepth 100000 in
set_option maxHeartbeats 1000000 in
theorem tplain_high (x : Nat) (N : Int) (S F : ByteArray) (w : World) (t0 : (FloatKind.f64.format.order x 0 == some .eq) = false) (b1 : -1000 ≤ N) (b2 : N ≤ 1000) (h1 : 21 < N)
  (CS : Hid (∀ W, Below w.heap.size w W → Ct 59 #[.string S, .int .i64 (N - 1)] (.string F) W))
  (C : Hid (∀ W, W = w → Ct 40 #[.float .f64 x] (.tuple #[.string S, .int .i64 N]) W)) :
  Ct 44 #[.float .f64 x] (.string F) w := by
 have h2 : ¬ N ≤ -6 := by omega
 go_enter Tryz.func44, Tryz.ntmps44
 go_wp2_with fail
 refine (C.out _ rfl).mono ?_
 rintro e w1 ⟨rfl, b1'⟩
 have B1 := Lib.hid b1'
 clear b1'
 go_wp2_with fail
 refine (CS.out _ B1.out).mono ?_
 rintro e w2 ⟨rfl, b2'⟩
 have B2 := Lib.hid (below_le B1.out b2')
 clear b2'
 go_wp2
 go_ret
 exact ⟨rfl, B2.out⟩
set_option maxRecDepth 100000 in
set_option maxHeartbeats 1000000 in
theorem tplain_whole (x : Nat) (N : Int) (n z : Nat) (S F : ByteArray) (w : World) (t0 : (FloatKind.f64.format.order x 0 == some .eq) = false) (b1 : -1000 ≤ N) (b2 : N ≤ 1000) (h1 : -6 < N) (h2 : N ≤ 21) (hn : S.size = n) (h3 : (n : Int) ≤ N) (hz : N - (n : Int) = (z : Int)) (Z : ByteArray) (hZ : Hid (Z.size ≤ 1000)) (hF : S ++ Z = F)
  (CR : Hid (∀ W, Ct 106 #[.string ⟨#[48]⟩, .int .i64 z] (.string Z) W))
  (C : Hid (∀ W, W = w → Ct 40 #[.float .f64 x] (.tuple #[.string S, .int .i64 N]) W)) :
  Ct 44 #[.float .f64 x] (.string F) w := by
 have h4 : ¬ N ≤ -6 := by omega
 have h5 : ¬ 21 < N := by omega
 have h6 : 0 ≤ (n : Int) := by omega
 have g1 : ¬ 9223372036854775807 < n + Z.size := by have := hZ.out; omega
 have hzz := Lib.hid hz
 go_enter Tryz.func44, Tryz.ntmps44
 go_wp2_with fail
 refine (C.out _ rfl).mono ?_
 rintro e w1 ⟨rfl, b1'⟩
 have B1 := Lib.hid b1'
 clear b1'
 go_wp2_with fail
 refine (CR.out _).mono ?_
 rintro e w2 ⟨rfl, b2'⟩
 have B2 := Lib.hid (below_le B1.out b2')
 clear b2'
 go_wp2
 go_ret
 exact ⟨rfl, B2.out⟩
set_option maxRecDepth 100000 in
set_option maxHeartbeats 1000000 in
theorem tplain_point (x : Nat) (N : Int) (n z : Nat) (S F : ByteArray) (w : World) (t0 : (FloatKind.f64.format.order x 0 == some .eq) = false) (b1 : -1000 ≤ N) (b2 : N ≤ 1000) (h1 : -6 < N) (h2 : N ≤ 21) (hn : S.size = n) (h3 : N < (n : Int)) (hn2 : (n : Int) ≤ 1000) (hz : (n : Int) - N = (z : Int))
  (CP : Hid (∀ W, Ct 55 #[.string S, .int .i64 z] (.string F) W))
  (C : Hid (∀ W, W = w → Ct 40 #[.float .f64 x] (.tuple #[.string S, .int .i64 N]) W)) :
  Ct 44 #[.float .f64 x] (.string F) w := by
 have h4 : ¬ N ≤ -6 := by omega
 have h5 : ¬ 21 < N := by omega
 have h7 : ¬ (n : Int) ≤ N := by omega
 go_enter Tryz.func44, Tryz.ntmps44
 go_wp2_with fail
 refine (C.out _ rfl).mono ?_
 rintro e w1 ⟨rfl, b1'⟩
 have B1 := Lib.hid b1'
 clear b1'
 go_wp2_with fail
 refine (CP.out _).mono ?_
 rintro e w2 ⟨rfl, b2'⟩
 have B2 := Lib.hid (below_le B1.out b2')
 clear b2'
 go_wp2
 go_ret
 exact ⟨rfl, B2.out⟩

end Go.Proofs.YtfcpkdafkmohkaaGreatDoor
namespace Go.Proofs.YtfcpkdafkmohkaaGreatDoor
open Go.RowKit
theorem SQ.form {r : Nat} {D : List Nat} {N : Int} (h : SQ r D N) : ∃ d, d % 10 ≠ 0 ∧ D = dL d ∧ D.length ≤ 17 ∧ decR d (N - D.length) = r := by
 obtain ⟨n, k, c, h1, h2, h3, h4, h5, h6, h7⟩ := h
 have hd := (cnd_some h5).2
 rcases cnd_last h1 h2 h4 h5 with ⟨g1, g2, g3⟩ | ⟨g1, g2⟩
 ·obtain ⟨j, rfl⟩ : ∃ j, k = j + 1 := ⟨k - 1, by omega⟩
  have hl := dL_len (n := c) (k := j) g2 g3
  have e := dL_last g1
  rw [e] at h6
  refine ⟨c, g1, h6, by rw [h6, hl]; exact h3, ?_⟩
  rw [h6, h7, show ((dL c).length : Int) + n - ((j + 1 : Nat) : Int) - ((dL c).length : Int) = n - ((j + 1 : Nat) : Int) by omega]
  exact hd
 ·subst g1 g2
  have e : dL 10 = [49, 48] := by rw [dL_big (by omega), dL_small (by omega)]; rfl
  have e1 : dL 1 = [49] := dL_small (by omega)
  have h8 := decR_shift 1 1 (n - 1)
  rw [show 1 * 10 ^ 1 = 10 from rfl, show n - 1 + ((1 : Nat) : Int) = n by omega] at h8
  rw [e] at h6 h7
  have h9 : D = [49] := h6
  refine ⟨1, by omega, by rw [h9, e1], by rw [h9]; simp, ?_⟩
  rw [h9, h7, show (([49, 48] : List Nat).length : Int) + n - ((1 : Nat) : Int) - (([49] : List Nat).length : Int) = n by simp; omega]
  rw [← h8]
  exact hd
theorem SQ.bd {r : Nat} {D : List Nat} {N : Int} (h : SQ r D N) (h0 : 0 < r) (hr : r < 9218868437227405312) : -400 ≤ N ∧ N ≤ 400 ∧ 1 ≤ D.length ∧ D.length ≤ 17 ∧ (∀ c ∈ D, c < 256) := by
 obtain ⟨d, _, hD, hl, _⟩ := h.form
 obtain ⟨n, k, c, h1, h2, h3, h4, h5, h6, h7⟩ := h
 obtain ⟨m, two, hp⟩ := part_ex h0 hr
 obtain ⟨p, p1, p2, p3⟩ := point_ex hp
 have := point_one h1 p1
 subst this
 have hc : (dL c).length ≤ 18 ∧ 1 ≤ (dL c).length := by
  refine ⟨?_, dL_pos c⟩
  have hlt : c < 10 ^ 18 := by
   rcases cnd_last h1 h2 h4 h5 with ⟨_, _, g⟩ | ⟨_, g⟩
   ·have := Nat.pow_le_pow_right (n := 10) (by omega) (show k ≤ 18 by omega)
    omega
   ·omega
  exact dL_le hlt (by omega)
 refine ⟨by omega, by omega, ?_, hl, ?_⟩
 ·rw [hD]; exact dL_pos d
 ·intro x hx
  rw [hD] at hx
  have := dg10_iff.1 (dL_dig d x hx)
  omega
theorem sq_ex {r : Nat} (h0 : 0 < r) (hr : r < 9218868437227405312) : ∃ D N, SQ r D N := by
 obtain ⟨m, two, hp⟩ := part_ex h0 hr
 obtain ⟨n, hn, _, _⟩ := point_ex hp
 have h17 := cnd_ends hn h0 hr
 have key : ∀ i, i ≤ 16 → (∀ j, 1 ≤ j → j < 17 - i → cnd r n j = none) → ∃ k, 1 ≤ k ∧ k ≤ 17 ∧ (∀ j, 1 ≤ j → j < k → cnd r n j = none) ∧ cnd r n k ≠ none := by
  intro i
  induction i with
  | zero =>
   intro _ h
   exact ⟨17, by omega, by omega, h, h17⟩
  | succ i ih =>
   intro hi h
   by_cases hc : cnd r n (17 - (i + 1)) = none
   ·refine ih (by omega) ?_
    intro j hj1 hj2
    rcases Nat.lt_or_ge j (17 - (i + 1)) with h2 | h2
    ·exact h j hj1 h2
    ·rw [show j = 17 - (i + 1) by omega]
     exact hc
   ·exact ⟨17 - (i + 1), by omega, by omega, h, hc⟩
 obtain ⟨k, k1, k2, k3, k4⟩ := key 16 (by omega) (fun j h1 h2 => by omega)
 cases hc : cnd r n k with
 | none => exact absurd hc k4
 | some c => exact ⟨_, _, n, k, c, hn, k1, k2, k3, hc, rfl, rfl⟩
def plL (D : List Nat) (N : Int) : List Nat :=
 if N ≤ -6 ∨ 21 < N then scL D (N - 1) else if (D.length : Int) ≤ N then D ++ List.replicate (N - D.length).toNat 48 else ptL D ((D.length : Int) - N).toNat
def PlQ (r : Nat) (L : List Nat) : Prop := (r = 0 ∧ L = [48]) ∨ (0 < r ∧ ∃ D N, SQ r D N ∧ L = plL D N)
theorem plq_ex {r : Nat} (hr : r < 9218868437227405312) : ∃ L, PlQ r L := by
 rcases Nat.eq_zero_or_pos r with h | h
 ·exact ⟨_, .inl ⟨h, rfl⟩⟩
 ·obtain ⟨D, N, hq⟩ := sq_ex h hr
  exact ⟨_, .inr ⟨h, D, N, hq, rfl⟩⟩
theorem scL_lt {l : List Nat} {e : Int} (hl : ∀ c ∈ l, c < 256) : ∀ c ∈ scL l e, c < 256 := by
 intro c hc
 unfold scL at hc
 rw [List.mem_append, List.mem_append] at hc
 rcases hc with (hc | hc) | hc
 ·exact mnL_lt hl c hc
 ·unfold sgL at hc
  split at hc <;> simp at hc <;> omega
 ·have := dg10_iff.1 (dL_dig _ c hc)
  omega
theorem ptL_lt {l : List Nat} {k : Nat} (hl : ∀ c ∈ l, c < 256) : ∀ c ∈ ptL l k, c < 256 := by
 intro c hc
 unfold ptL at hc
 split at hc
 ·exact hl c hc
 ·rw [List.mem_append, List.mem_cons] at hc
  rcases hc with hc | rfl | hc
  ·exact mem_rep hl c (List.mem_of_mem_take hc)
  ·omega
  ·exact mem_rep hl c (List.mem_of_mem_drop hc)
theorem scL_len {l : List Nat} {e : Int} (he : e.natAbs < 10 ^ 6) : (scL l e).length ≤ l.length + 10 := by
 unfold scL
 rw [List.length_append, List.length_append]
 have h1 := mnL_len l
 have h2 : (sgL e).length = 2 := by unfold sgL; split <;> rfl
 have h3 := dL_le he (by omega)
 omega
theorem PlQ.bd {r : Nat} {L : List Nat} (hr : r < 9218868437227405312) (h : PlQ r L) : (∀ c ∈ L, c < 256) ∧ L.length ≤ 1000 := by
 rcases h with ⟨_, rfl⟩ | ⟨h0, D, N, hq, rfl⟩
 ·exact ⟨by simp, by simp⟩
 ·obtain ⟨b1, b2, b3, b4, b5⟩ := hq.bd h0 hr
  unfold plL
  split
  ·exact ⟨scL_lt b5, Nat.le_trans (scL_len (by omega)) (by omega)⟩
  ·split
   ·refine ⟨?_, by rw [List.length_append, List.length_replicate]; omega⟩
    intro c hc
    rw [List.mem_append, List.mem_replicate] at hc
    rcases hc with hc | ⟨_, rfl⟩
    ·exact b5 c hc
    ·omega
   ·refine ⟨ptL_lt b5, ?_⟩
    by_cases hz : ((D.length : Int) - N).toNat = 0
    ·unfold ptL; rw [if_pos hz]; omega
    ·rw [ptL_len _ _ hz]; omega
theorem tshortest_is {x : Nat} {D : List Nat} {N : Int} {w : World} (h0 : 0 < x) (hx : x < 9218868437227405312) (ht : Tab10 w) (hz : TzTab w) (h : SQ x D N) :
  Ct 40 #[.float .f64 x] (.tuple #[.string (strOf D), .int .i64 N]) w := by
 refine (tshortest_any x w h0 hx ht hz).mono ?_
 rintro e w' ⟨L, p, rfl, hq, hb⟩
 obtain ⟨rfl, rfl⟩ := h.one hq
 exact ⟨rfl, hb⟩
theorem tplain_any {r : Nat} {L : List Nat} {w : World} (hr : r < 9218868437227405312) (ht : Tab10 w) (hz : TzTab w) (h : PlQ r L) :
  Ct 44 #[.float .f64 r] (.string (strOf L)) w := by
 rcases h with ⟨rfl, rfl⟩ | ⟨h0, D, N, hq, rfl⟩
 ·refine (tplain_zero 0 w (by rw [ord_eq_pos (by omega) (by omega)]; rfl)).mono ?_
  rintro e w' ⟨rfl, rfl⟩
  exact ⟨rfl, Below.refl _ _⟩
 ·obtain ⟨b1, b2, b3, b4, b5⟩ := hq.bd h0 hr
  have t0 : (FloatKind.f64.format.order r 0 == some .eq) = false := by rw [ord_eq_pos (by omega) (by omega)]; exact decide_eq_false (by omega)
  have C : Hid (∀ W, W = w → Ct 40 #[.float .f64 r] (.tuple #[.string (strOf D), .int .i64 N]) W) := Lib.hid (fun W hW => by
   subst hW
   exact tshortest_is h0 hr ht hz hq)
  have CS := Lib.hid (fun W (hW : Below w.heap.size w W) => tscientific_any D (N - 1) W b5 b3 (by omega) (by omega) (by omega) (ht.on hW))
  unfold plL
  by_cases h1 : N ≤ -6
  ·rw [if_pos (.inl h1)]
   exact tplain_low r N _ _ w t0 (by omega) (by omega) h1 CS C
  ·by_cases h2 : 21 < N
   ·rw [if_pos (.inr h2)]
    exact tplain_high r N _ _ w t0 (by omega) (by omega) h2 CS C
   ·rw [if_neg (by omega)]
    by_cases h3 : (D.length : Int) ≤ N
    ·rw [if_pos h3]
     exact tplain_whole r N D.length (N - D.length).toNat _ _ w t0 (by omega) (by omega) (by omega) (by omega) (strOf_size D) h3 (by omega) (strOf (List.replicate (N - D.length).toNat 48)) (Lib.hid (by rw [strOf_size, List.length_replicate]; omega)) (strOf_append _ _) (Lib.hid fun W => trepeat_any _ W (by omega)) C
    ·rw [if_neg h3]
     exact tplain_point r N D.length ((D.length : Int) - N).toNat _ _ w t0 (by omega) (by omega) (by omega) (by omega) (strOf_size D) (by omega) (by omega) (by omega) (Lib.hid fun W => tpointed_any D _ W b5 (by omega) (by omega)) C
def wdS (L : List Nat) : ByteArray := ⟨(bL L).toArray⟩
theorem twide_any (L : List Nat) (w : World) (hL : ∀ c ∈ L, c < 256) (hl : L.length ≤ 100000) : Ct 41 #[.string (strOf L)] (.string (wdS L)) w := by
 have h := wide_any (strOf L) w (by rw [strOf_size]; omega)
 rw [show wdL (strOf L) = bl (strOf L) from bl_data _, bl_strOf hL] at h
 exact h
theorem vwide_any (L : List Nat) (w : World) (hL : ∀ c ∈ L, c < 256) (hl : L.length ≤ 100000) : Ct 38 #[.string (strOf L)] (.string (wdS L)) w := by
 have h := rwide_any (strOf L) w (by rw [strOf_size]; omega)
 rw [show wdL (strOf L) = bl (strOf L) from bl_data _, bl_strOf hL] at h
 exact h
def ngB (x : Nat) : Bool := fneg x && decide (0 < rung x)
theorem ord_neg (x : Nat) : (FloatKind.f64.format.order x 0 == some .lt) = (!fnan x && ngB x) := by
 unfold ngB fnan
 rcases Nat.lt_or_ge 9218868437227405312 (rung x) with h | h
 ·rw [show FloatKind.f64.format.order x 0 = Ieee.double.order x 0 from rfl, order_nan (.inl h), decide_eq_true h]
  rfl
 ·obtain ⟨a1, a2⟩ := frank_pos (x := 0) (by omega)
  rw [show FloatKind.f64.format.order x 0 = Ieee.double.order x 0 from rfl, order_eq h (by omega), a1, decide_eq_false (by omega), Bool.eq_iff_iff, beq_iff_eq, Option.some.injEq, Int.compare_eq_lt]
  unfold frank
  cases fneg x
  ·simp
  ·simp
def sgx (x : Nat) : List Nat := if ngB x = true then [45] else []
def SgQ (T : Nat → List Nat → Prop) (x : Nat) (L : List Nat) : Prop :=
 (fnan x = true ∧ L = [78, 97, 78]) ∨ (fnan x = false ∧ finf x = true ∧ L = sgx x ++ infL) ∨ (fnan x = false ∧ finf x = false ∧ ∃ l, T (rung x) l ∧ L = sgx x ++ l)
theorem fin_rung {x : Nat} (h1 : fnan x = false) (h2 : finf x = false) : rung x < 9218868437227405312 := by
 have := of_decide_eq_false h1
 have := of_decide_eq_false h2
 omega
set_option maxHeartbeats 1000000 in
theorem tsigned_any {T : Nat → List Nat → Prop} {x : Nat} {L : List Nat} {w : World} (f : FuncId) (hx : x < 18446744073709551616)
  (he : ∀ args (W : World), (callFunc f args).run Tryz.prog W = .ok (.enter f args) W)
  (hT : ∀ r l, r < 9218868437227405312 → T r l → (∀ c ∈ l, c < 256) ∧ l.length ≤ 99000 ∧ Ct f #[.float .f64 r] (.string (strOf l)) w)
  (h : SgQ T x L) : Ct 43 #[.float .f64 x, .func (Fn.func f) #[] #[]] (.string (wdS L)) w := by
 have t0 := ord_neg x
 have CN := fun W => isNaN_any x W
 have CI := fun W => isInf0_any x W hx
 rcases h with ⟨h1, rfl⟩ | ⟨h1, h2, rfl⟩ | ⟨h1, h2, l, h3, rfl⟩
 ·rw [h1] at t0 CN
  exact tsigned_00nan x f _ w t0 (Lib.hid CN) (Lib.hid fun W => twide_any [78, 97, 78] W (by simp) (by simp))
 ·rw [h1] at t0 CN
  rw [h2] at CI
  unfold sgx
  cases hn : ngB x
  ·rw [hn] at t0
   exact tsigned_00inf x f _ w t0 (Lib.hid CN) (Lib.hid CI) (Lib.hid fun W => twide_any _ W (by decide) (by decide))
  ·rw [hn] at t0
   exact tsigned_01inf x f _ w t0 (Lib.hid CN) (Lib.hid CI) (Lib.hid fun W => twide_any _ W (by decide) (by decide))
 ·rw [h1] at t0 CN
  rw [h2] at CI
  obtain ⟨l1, l2, hc⟩ := hT _ l (fin_rung h1 h2) h3
  have CA := fun W => abs_any x W hx
  have CT : Hid (∀ W, W = w → Ct f #[.float .f64 (rung x)] (.string (strOf l)) W) := Lib.hid (fun W hW => by
   subst hW
   exact hc)
  unfold sgx
  cases hn : ngB x
  ·rw [hn] at t0
   refine tsigned_00fin x f (strOf l) (strOf l) (rung x) _ w t0 (Lib.hid CN) (Lib.hid CI) (Lib.hid CA) he CT (Lib.hid (by rw [strOf_size]; omega)) ?_ (Lib.hid fun W => twide_any _ W l1 (by omega))
   rw [show (⟨#[]⟩ : ByteArray) = strOf [] from rfl, strOf_append]
   rfl
  ·rw [hn] at t0
   refine tsigned_01fin x f (strOf l) (strOf ([45] ++ l)) (rung x) _ w t0 (Lib.hid CN) (Lib.hid CI) (Lib.hid CA) he CT (Lib.hid (by rw [strOf_size]; omega)) ?_ (Lib.hid fun W => twide_any _ W ?_ ?_)
   ·rw [show (⟨#[45]⟩ : ByteArray) = strOf [45] from rfl, strOf_append]
   ·intro c hc
    rw [List.mem_append, List.mem_singleton] at hc
    rcases hc with rfl | hc
    ·omega
    ·exact l1 c hc
   ·rw [List.length_append, List.length_singleton]
    omega
def TxQ (x : Nat) (L : List Nat) : Prop := SgQ PlQ x L
theorem txq_ex (x : Nat) : ∃ L, TxQ x L := by
 unfold TxQ SgQ
 cases h1 : fnan x
 ·cases h2 : finf x
  ·obtain ⟨l, hl⟩ := plq_ex (fin_rung h1 h2)
   exact ⟨_, .inr (.inr ⟨rfl, rfl, l, hl, rfl⟩)⟩
  ·exact ⟨_, .inr (.inl ⟨rfl, rfl, rfl⟩)⟩
 ·exact ⟨_, .inl ⟨rfl, rfl⟩⟩
theorem tText_any {x : Nat} {L : List Nat} {w : World} (hx : x < 18446744073709551616) (ht : Tab10 w) (hz : TzTab w) (h : TxQ x L) :
  Ct 14 #[.float .f64 x] (.string (wdS L)) w := by
 have C := Lib.hid (fun W (hW : W = w) => tsigned_any (T := PlQ) (w := W) 44 hx (fun args W' => by go_simp) (fun r l hr hl => by
  subst hW
  obtain ⟨b1, b2⟩ := hl.bd hr
  exact ⟨b1, by omega, tplain_any hr ht hz hl⟩) h)
 clear h ht hz
 go_enter Tryz.func14, Tryz.ntmps14
 go_wp2_with fail
 refine (C.out _ rfl).mono ?_
 rintro e w1 ⟨rfl, b1⟩
 go_wp2
 go_ret
 exact ⟨rfl, b1⟩

end Go.Proofs.YtfcpkdafkmohkaaGreatDoor
namespace Go.Proofs.YtfcpkdafkmohkaaGreatDoor
open Go.RowKit
theorem big_tenth : ∃ X : Nat, 0 < X ∧ big = 72057594037927936 * X ∧ fmag 4591870180066957722 = 7205759403792794 * X ∧ fmag 4591870180066957721 = 7205759403792793 * X ∧ fmag 4591870180066957723 = 7205759403792795 * X := by
 obtain ⟨K, hK, hb⟩ := big_K
 obtain ⟨J, hJ⟩ : ∃ J : Nat, J = 1018 := ⟨_, rfl⟩
 have h1 := fmag_make 7205759403792794 J (by omega) (by omega)
 have h2 := fmag_make 7205759403792793 J (by omega) (by omega)
 have h3 := fmag_make 7205759403792795 J (by omega) (by omega)
 rw [show J * 4503599627370496 + 7205759403792794 = 4591870180066957722 by omega] at h1
 rw [show J * 4503599627370496 + 7205759403792793 = 4591870180066957721 by omega] at h2
 rw [show J * 4503599627370496 + 7205759403792795 = 4591870180066957723 by omega] at h3
 refine ⟨2 ^ J, two_pos J, ?_, h1, h2, h3⟩
 rw [hb, show K = 56 + J by omega, Nat.pow_add]
theorem decR_tenth : decR 1 (-1) = 4591870180066957722 := by
 obtain ⟨X, hX, hb, h1, h2, h3⟩ := big_tenth
 rw [decR_big]
 unfold vV
 rw [show (-(-(-1 : Int))).toNat = 0 by omega, show (-(-1 : Int)).toNat = 1 by omega, Nat.pow_zero, Nat.pow_one, Nat.mul_one, Nat.one_mul, rnd_iff (by omega) (by omega) (by omega), h1, show 4591870180066957722 - 1 = 4591870180066957721 by omega, h2, show 4591870180066957722 + 1 = 4591870180066957723 by omega, h3, hb]
 exact ⟨.inl (by omega), .inl (by omega)⟩
theorem sq_tenth : SQ 4591870180066957722 [49] 0 := by
 obtain ⟨X, hX, hb, h1, _, _⟩ := big_tenth
 have e1 : dL 1 = [49] := dL_small (by omega)
 have hU : vU 4591870180066957722 (((1 : Nat) : Int) - 0) = 72057594037927940 * X := by
  unfold vU
  rw [h1, show (((1 : Nat) : Int) - 0).toNat = 1 by omega, Nat.pow_one]
  omega
 have hV : vV (((1 : Nat) : Int) - 0) = 72057594037927936 * X := by
  unfold vV
  rw [hb, show (-(((1 : Nat) : Int) - 0)).toNat = 0 by omega, Nat.pow_zero, Nat.mul_one]
 have hq : cq 4591870180066957722 0 1 = 1 := by
  unfold cq
  rw [hU, hV, Nat.mul_div_mul_right _ _ hX]
 have hm : vU 4591870180066957722 (((1 : Nat) : Int) - 0) % vV (((1 : Nat) : Int) - 0) = 4 * X := by
  rw [hU, hV, Nat.mul_mod_mul_right]
 have hl : clow 4591870180066957722 0 1 = true := by
  unfold clow
  rw [hq]
  exact decide_eq_true decR_tenth
 have hn : cnear 4591870180066957722 0 1 = true := by
  unfold cnear
  rw [hm, hV, decide_eq_true (by omega), Bool.true_or]
 refine ⟨0, 1, 1, ⟨?_, ?_⟩, by omega, by omega, by omega, ?_, by rw [e1]; rfl, by rw [e1]; rfl⟩
 ·unfold le10
  rw [h1, hb, show ((0 : Int) - 1).toNat = 0 by omega, show (-((0 : Int) - 1)).toNat = 1 by omega, Nat.pow_zero, Nat.pow_one]
  omega
 ·unfold le10
  rw [h1, hb, show (0 : Int).toNat = 0 by omega, show (-(0 : Int)).toNat = 0 by omega, Nat.pow_zero]
  omega
 ·unfold cnd
  rw [hl, hn, hq]
  simp
theorem tx_tenth : TxQ 4591870180066957722 [48, 46, 49] := by
 refine .inr (.inr ⟨by decide, by decide, [48, 46, 49], .inr ⟨by decide, [49], 0, ?_, by decide⟩, by decide⟩)
 have : rung 4591870180066957722 = 4591870180066957722 := by decide
 rw [this]
 exact sq_tenth
theorem num_tenth : numW (nrw 0 (us (trimS (wdS [48, 46, 49])))) = 4591870180066957722 := by
 have h : nrw 0 (us (trimS (wdS [48, 46, 49]))) = [48, 46, 49] := by decide +kernel
 rw [h]
 unfold numW
 rw [if_neg (by decide), if_neg (by decide), if_neg (by decide), if_pos (by decide)]
 have h1 : sgnB [48, 46, 49] = false := by decide
 rw [h1, sgW_f]
 have h2 : unsg [48, 46, 49] = [48, 46, 49] := by decide
 rw [h2]
 unfold dV
 rw [show num 10 (dW [48, 46, 49] ++ dF [48, 46, 49]) = 1 by decide, show dX [48, 46, 49] - ((dF [48, 46, 49]).length : Int) = -1 by decide]
 exact decR_tenth
theorem awake_any (w : World) (ht : Tab10 w) (hz : TzTab w) : Ct 16 #[] (.bool true) w := by
 have C1 := Lib.hid (fun W (hW : W = w) => tText_any (x := 4591870180066957722) (L := [48, 46, 49]) (w := W) (by omega) (hW ▸ ht) (hW ▸ hz) tx_tenth)
 have C2 := Lib.hid (fun W => vwide_any [48, 46, 49] W (by simp) (by simp))
 have C3 := Lib.hid (fun W => tNumber_any (wdS [48, 46, 49]) W (by decide +kernel))
 rw [num_tenth] at C3
 have t1 : (FloatKind.f64.format.order 4591870180066957722 4591870180066957722 == some .eq) = true := by rw [ord_eq_pos (by omega) (by omega)]; exact decide_eq_true rfl
 obtain ⟨S, hS⟩ : ∃ S, wdS [48, 46, 49] = S := ⟨_, rfl⟩
 rw [hS] at C1 C2 C3
 rw [show strOf [48, 46, 49] = ⟨#[48, 46, 49]⟩ from rfl] at C2
 clear ht hz hS
 go_enter Tryz.func16, Tryz.ntmps16
 go_wp2_with fail
 refine (C1.out _ rfl).mono ?_
 rintro e w1 ⟨rfl, b1⟩
 have B1 := Lib.hid b1
 clear b1
 go_wp2_with fail
 refine (C2.out _).mono ?_
 rintro e w2 ⟨rfl, b2⟩
 have B2 := Lib.hid (below_le B1.out b2)
 clear b2
 go_wp2_with fail
 refine (C2.out _).mono ?_
 rintro e w3 ⟨rfl, b3⟩
 have B3 := Lib.hid (below_le B2.out b3)
 clear b3
 go_wp2_with fail
 refine (C3.out _).mono ?_
 rintro e w4 ⟨rfl, b4⟩
 have B4 := Lib.hid (below_le B3.out b4)
 clear b4
 go_wp2
 go_ret
 exact ⟨rfl, B4.out⟩
end Go.Proofs.YtfcpkdafkmohkaaGreatDoor
namespace Go.Proofs.YtfcpkdafkmohkaaGreatDoor
open Go.RowKit
theorem decR_le_inf (N : Nat) (e : Int) : decR N e ≤ 9218868437227405312 := Nat.min_le_right _ _
end Go.Proofs.YtfcpkdafkmohkaaGreatDoor
namespace Go.Proofs.YtfcpkdafkmohkaaGreatDoor
open Go.RowKit
def PartG (x m : Nat) (two : Int) : Prop := (x = 0 ∧ m = 0 ∧ two = 0) ∨ (0 < x ∧ PartIs x m two)
def PartsG (x : Nat) (w : World) (e : Ending) (w' : World) : Prop := ∃ m two A n c, e = .returned (.tuple #[.slice A n c, .int .i64 two, .int .i64 0]) ∧ NV w' A n c m ∧ PartG x m two ∧ Below w.heap.size w w'
theorem nv_zero (w : World) : NV w none 0 0 0 := ⟨by rfl, by omega, RW.nil _ _ _⟩
theorem fbad_zero : fbad 0 = false := by decide
theorem pparts_g (x : Nat) (w : World) (hx : x < 9218868437227405312) (hz : TzTab w) : Cp 54 #[.float .f64 x] w (PartsG x w) := by
 rcases Nat.eq_zero_or_pos x with h | h
 ·subst h
  refine (pparts_zero 0 w (by omega) fbad_zero rfl).mono ?_
  rintro e w' ⟨rfl, rfl⟩
  exact ⟨0, 0, none, 0, 0, rfl, nv_zero _, .inl ⟨rfl, rfl, rfl⟩, Below.refl _ _⟩
 ·refine (pparts_pos x w h hx hz).mono ?_
  rintro e w' ⟨m, two, A, n, c, rfl, hv, hp, hb⟩
  exact ⟨m, two, A, n, c, rfl, hv, .inr ⟨h, hp⟩, hb⟩
set_option maxRecDepth 100000 in
set_option maxHeartbeats 1000000 in
theorem yscaled_up {x m a b : Nat} {two p : Int} {w : World} (h1 : 0 ≤ two) (h2 : 0 ≤ p) (b1 : -5000 ≤ two) (b2 : two ≤ 5000) (b3 : -5000 ≤ p) (b4 : p ≤ 5000) (ha : two = (a : Int)) (hb : p = (b : Int))
  (C1 : Hid (∀ W, W = w → Cp 114 #[.float .f64 x] W fun e w' => ∃ A n c, e = .returned (.tuple #[.slice A n c, .int .i64 two, .int .i64 0]) ∧ NV w' A n c m ∧ Below W.heap.size W w'))
  (C2 : Hid (∀ W A n c, NV W A n c m → Cp 102 #[.slice A n c, .int .i64 a] W (NRet (m * 2 ^ a) W)))
  (C3 : Hid (∀ W, Cp 115 #[.int .i64 b] W (NRet (10 ^ b) W)))
  (C4 : Hid (∀ W A n c C k d, NV W A n c (m * 2 ^ a) → NV W C k d (10 ^ b) → Cp 51 #[.slice A n c, .slice C k d] W (NRet (m * 2 ^ a * 10 ^ b) W))) :
  Cp 48 #[.float .f64 x, .int .i64 p] w fun e w' => ∃ A n c C k d, e = .returned (.tuple #[.slice A n c, .slice C k d]) ∧ NV w' A n c (m * 2 ^ a * 10 ^ b) ∧ NV w' C k d (1) ∧ Below w.heap.size w w' := by
 have t1 : 0 ≤ two := by omega
 have t2 : 0 ≤ p := by omega
 have t3 : -5000 ≤ two ∧ two ≤ 5000 := ⟨b1, b2⟩
 have t4 : -5000 ≤ p ∧ p ≤ 5000 := ⟨b3, b4⟩
 obtain ⟨t5, t6⟩ := t3
 obtain ⟨t7, t8⟩ := t4
 have HA := Lib.hid ha
 have HB := Lib.hid hb
 clear ha hb
 go_enter Tryz.func48, Tryz.ntmps48
 go_wp2_with fail
 refine (C1.out _ rfl).mono ?_
 rintro e w1 ⟨A1, n1, c1, rfl, g1, b1'⟩
 have B1 := Lib.hid (alloc_below (.cells #[.int .u32 1] 42) b1')
 have GM := Lib.hid (g1.step (below_al w1 (.cells #[.int .u32 1] 42)))
 have GD := Lib.hid (NV.lit w1 1 (by omega) (by omega))
 clear g1 b1'
 have ha := HA.out
 go_wp2_with fail
 clear ha
 generalize w1.alloc (.cells #[.int .u32 1] 42) = w2 at *
 refine (C2.out _ _ _ _ GM.out).mono ?_
 rintro e w3 ⟨A3, n3, c3, rfl, g3, b3'⟩
 have GM := Lib.hid g3
 have GD := Lib.hid (GD.out.step b3')
 have B3 := Lib.hid (below_le B1.out b3')
 clear g3 b3'
 have hb := HB.out
 go_wp2_with fail
 clear hb
 refine (C3.out _).mono ?_
 rintro e w4 ⟨A4, n4, c4, rfl, g4, b4'⟩
 have GP := Lib.hid g4
 have GM := Lib.hid (GM.out.step b4')
 have GD := Lib.hid (GD.out.step b4')
 have B4 := Lib.hid (below_le B3.out b4')
 clear g4 b4'
 go_wp2_with fail
 refine (C4.out _ _ _ _ _ _ _ GM.out GP.out).mono ?_
 rintro e w5 ⟨A5, n5, c5, rfl, g5, b5'⟩
 have GM := Lib.hid g5
 have GD := Lib.hid (GD.out.step b5')
 have B5 := Lib.hid (below_le B4.out b5')
 clear g5 b5'
 go_wp2
 go_ret2
 exact ⟨_, _, _, _, _, _, rfl, GM.out, GD.out, B5.out⟩
set_option maxRecDepth 100000 in
set_option maxHeartbeats 1000000 in
theorem yscaled_un {x m a b : Nat} {two p : Int} {w : World} (h1 : 0 ≤ two) (h2 : p < 0) (b1 : -5000 ≤ two) (b2 : two ≤ 5000) (b3 : -5000 ≤ p) (b4 : p ≤ 5000) (ha : two = (a : Int)) (hb : -p = (b : Int))
  (C1 : Hid (∀ W, W = w → Cp 114 #[.float .f64 x] W fun e w' => ∃ A n c, e = .returned (.tuple #[.slice A n c, .int .i64 two, .int .i64 0]) ∧ NV w' A n c m ∧ Below W.heap.size W w'))
  (C2 : Hid (∀ W A n c, NV W A n c m → Cp 102 #[.slice A n c, .int .i64 a] W (NRet (m * 2 ^ a) W)))
  (C3 : Hid (∀ W, Cp 115 #[.int .i64 b] W (NRet (10 ^ b) W)))
  (C4 : Hid (∀ W A n c C k d, NV W A n c (1) → NV W C k d (10 ^ b) → Cp 51 #[.slice A n c, .slice C k d] W (NRet (1 * 10 ^ b) W))) :
  Cp 48 #[.float .f64 x, .int .i64 p] w fun e w' => ∃ A n c C k d, e = .returned (.tuple #[.slice A n c, .slice C k d]) ∧ NV w' A n c (m * 2 ^ a) ∧ NV w' C k d (1 * 10 ^ b) ∧ Below w.heap.size w w' := by
 have t1 : 0 ≤ two := by omega
 have t2 : ¬ 0 ≤ p := by omega
 have t3 : -5000 ≤ two ∧ two ≤ 5000 := ⟨b1, b2⟩
 have t4 : -5000 ≤ p ∧ p ≤ 5000 := ⟨b3, b4⟩
 obtain ⟨t5, t6⟩ := t3
 obtain ⟨t7, t8⟩ := t4
 have HA := Lib.hid ha
 have HB := Lib.hid hb
 clear ha hb
 go_enter Tryz.func48, Tryz.ntmps48
 go_wp2_with fail
 refine (C1.out _ rfl).mono ?_
 rintro e w1 ⟨A1, n1, c1, rfl, g1, b1'⟩
 have B1 := Lib.hid (alloc_below (.cells #[.int .u32 1] 42) b1')
 have GM := Lib.hid (g1.step (below_al w1 (.cells #[.int .u32 1] 42)))
 have GD := Lib.hid (NV.lit w1 1 (by omega) (by omega))
 clear g1 b1'
 have ha := HA.out
 go_wp2_with fail
 clear ha
 generalize w1.alloc (.cells #[.int .u32 1] 42) = w2 at *
 refine (C2.out _ _ _ _ GM.out).mono ?_
 rintro e w3 ⟨A3, n3, c3, rfl, g3, b3'⟩
 have GM := Lib.hid g3
 have GD := Lib.hid (GD.out.step b3')
 have B3 := Lib.hid (below_le B1.out b3')
 clear g3 b3'
 have hb := HB.out
 go_wp2_with fail
 clear hb
 refine (C3.out _).mono ?_
 rintro e w4 ⟨A4, n4, c4, rfl, g4, b4'⟩
 have GP := Lib.hid g4
 have GM := Lib.hid (GM.out.step b4')
 have GD := Lib.hid (GD.out.step b4')
 have B4 := Lib.hid (below_le B3.out b4')
 clear g4 b4'
 go_wp2_with fail
 refine (C4.out _ _ _ _ _ _ _ GD.out GP.out).mono ?_
 rintro e w5 ⟨A5, n5, c5, rfl, g5, b5'⟩
 have GD := Lib.hid g5
 have GM := Lib.hid (GM.out.step b5')
 have B5 := Lib.hid (below_le B4.out b5')
 clear g5 b5'
 go_wp2
 go_ret2
 exact ⟨_, _, _, _, _, _, rfl, GM.out, GD.out, B5.out⟩
set_option maxRecDepth 100000 in
set_option maxHeartbeats 1000000 in
theorem yscaled_dp {x m a b : Nat} {two p : Int} {w : World} (h1 : two < 0) (h2 : 0 ≤ p) (b1 : -5000 ≤ two) (b2 : two ≤ 5000) (b3 : -5000 ≤ p) (b4 : p ≤ 5000) (ha : -two = (a : Int)) (hb : p = (b : Int))
  (C1 : Hid (∀ W, W = w → Cp 114 #[.float .f64 x] W fun e w' => ∃ A n c, e = .returned (.tuple #[.slice A n c, .int .i64 two, .int .i64 0]) ∧ NV w' A n c m ∧ Below W.heap.size W w'))
  (C2 : Hid (∀ W A n c, NV W A n c 1 → Cp 102 #[.slice A n c, .int .i64 a] W (NRet (1 * 2 ^ a) W)))
  (C3 : Hid (∀ W, Cp 115 #[.int .i64 b] W (NRet (10 ^ b) W)))
  (C4 : Hid (∀ W A n c C k d, NV W A n c (m) → NV W C k d (10 ^ b) → Cp 51 #[.slice A n c, .slice C k d] W (NRet (m * 10 ^ b) W))) :
  Cp 48 #[.float .f64 x, .int .i64 p] w fun e w' => ∃ A n c C k d, e = .returned (.tuple #[.slice A n c, .slice C k d]) ∧ NV w' A n c (m * 10 ^ b) ∧ NV w' C k d (1 * 2 ^ a) ∧ Below w.heap.size w w' := by
 have t1 : ¬ 0 ≤ two := by omega
 have t2 : 0 ≤ p := by omega
 have t3 : -5000 ≤ two ∧ two ≤ 5000 := ⟨b1, b2⟩
 have t4 : -5000 ≤ p ∧ p ≤ 5000 := ⟨b3, b4⟩
 obtain ⟨t5, t6⟩ := t3
 obtain ⟨t7, t8⟩ := t4
 have HA := Lib.hid ha
 have HB := Lib.hid hb
 clear ha hb
 go_enter Tryz.func48, Tryz.ntmps48
 go_wp2_with fail
 refine (C1.out _ rfl).mono ?_
 rintro e w1 ⟨A1, n1, c1, rfl, g1, b1'⟩
 have B1 := Lib.hid (alloc_below (.cells #[.int .u32 1] 42) b1')
 have GM := Lib.hid (g1.step (below_al w1 (.cells #[.int .u32 1] 42)))
 have GD := Lib.hid (NV.lit w1 1 (by omega) (by omega))
 clear g1 b1'
 have ha := HA.out
 go_wp2_with fail
 clear ha
 generalize w1.alloc (.cells #[.int .u32 1] 42) = w2 at *
 refine (C2.out _ _ _ _ GD.out).mono ?_
 rintro e w3 ⟨A3, n3, c3, rfl, g3, b3'⟩
 have GD := Lib.hid g3
 have GM := Lib.hid (GM.out.step b3')
 have B3 := Lib.hid (below_le B1.out b3')
 clear g3 b3'
 have hb := HB.out
 go_wp2_with fail
 clear hb
 refine (C3.out _).mono ?_
 rintro e w4 ⟨A4, n4, c4, rfl, g4, b4'⟩
 have GP := Lib.hid g4
 have GM := Lib.hid (GM.out.step b4')
 have GD := Lib.hid (GD.out.step b4')
 have B4 := Lib.hid (below_le B3.out b4')
 clear g4 b4'
 go_wp2_with fail
 refine (C4.out _ _ _ _ _ _ _ GM.out GP.out).mono ?_
 rintro e w5 ⟨A5, n5, c5, rfl, g5, b5'⟩
 have GM := Lib.hid g5
 have GD := Lib.hid (GD.out.step b5')
 have B5 := Lib.hid (below_le B4.out b5')
 clear g5 b5'
 go_wp2
 go_ret2
 exact ⟨_, _, _, _, _, _, rfl, GM.out, GD.out, B5.out⟩
set_option maxRecDepth 100000 in
set_option maxHeartbeats 1000000 in
theorem yscaled_dn {x m a b : Nat} {two p : Int} {w : World} (h1 : two < 0) (h2 : p < 0) (b1 : -5000 ≤ two) (b2 : two ≤ 5000) (b3 : -5000 ≤ p) (b4 : p ≤ 5000) (ha : -two = (a : Int)) (hb : -p = (b : Int))
  (C1 : Hid (∀ W, W = w → Cp 114 #[.float .f64 x] W fun e w' => ∃ A n c, e = .returned (.tuple #[.slice A n c, .int .i64 two, .int .i64 0]) ∧ NV w' A n c m ∧ Below W.heap.size W w'))
  (C2 : Hid (∀ W A n c, NV W A n c 1 → Cp 102 #[.slice A n c, .int .i64 a] W (NRet (1 * 2 ^ a) W)))
  (C3 : Hid (∀ W, Cp 115 #[.int .i64 b] W (NRet (10 ^ b) W)))
  (C4 : Hid (∀ W A n c C k d, NV W A n c (1 * 2 ^ a) → NV W C k d (10 ^ b) → Cp 51 #[.slice A n c, .slice C k d] W (NRet (1 * 2 ^ a * 10 ^ b) W))) :
  Cp 48 #[.float .f64 x, .int .i64 p] w fun e w' => ∃ A n c C k d, e = .returned (.tuple #[.slice A n c, .slice C k d]) ∧ NV w' A n c (m) ∧ NV w' C k d (1 * 2 ^ a * 10 ^ b) ∧ Below w.heap.size w w' := by
 have t1 : ¬ 0 ≤ two := by omega
 have t2 : ¬ 0 ≤ p := by omega
 have t3 : -5000 ≤ two ∧ two ≤ 5000 := ⟨b1, b2⟩
 have t4 : -5000 ≤ p ∧ p ≤ 5000 := ⟨b3, b4⟩
 obtain ⟨t5, t6⟩ := t3
 obtain ⟨t7, t8⟩ := t4
 have HA := Lib.hid ha
 have HB := Lib.hid hb
 clear ha hb
 go_enter Tryz.func48, Tryz.ntmps48
 go_wp2_with fail
 refine (C1.out _ rfl).mono ?_
 rintro e w1 ⟨A1, n1, c1, rfl, g1, b1'⟩
 have B1 := Lib.hid (alloc_below (.cells #[.int .u32 1] 42) b1')
 have GM := Lib.hid (g1.step (below_al w1 (.cells #[.int .u32 1] 42)))
 have GD := Lib.hid (NV.lit w1 1 (by omega) (by omega))
 clear g1 b1'
 have ha := HA.out
 go_wp2_with fail
 clear ha
 generalize w1.alloc (.cells #[.int .u32 1] 42) = w2 at *
 refine (C2.out _ _ _ _ GD.out).mono ?_
 rintro e w3 ⟨A3, n3, c3, rfl, g3, b3'⟩
 have GD := Lib.hid g3
 have GM := Lib.hid (GM.out.step b3')
 have B3 := Lib.hid (below_le B1.out b3')
 clear g3 b3'
 have hb := HB.out
 go_wp2_with fail
 clear hb
 refine (C3.out _).mono ?_
 rintro e w4 ⟨A4, n4, c4, rfl, g4, b4'⟩
 have GP := Lib.hid g4
 have GM := Lib.hid (GM.out.step b4')
 have GD := Lib.hid (GD.out.step b4')
 have B4 := Lib.hid (below_le B3.out b4')
 clear g4 b4'
 go_wp2_with fail
 refine (C4.out _ _ _ _ _ _ _ GD.out GP.out).mono ?_
 rintro e w5 ⟨A5, n5, c5, rfl, g5, b5'⟩
 have GD := Lib.hid g5
 have GM := Lib.hid (GM.out.step b5')
 have B5 := Lib.hid (below_le B4.out b5')
 clear g5 b5'
 go_wp2
 go_ret2
 exact ⟨_, _, _, _, _, _, rfl, GM.out, GD.out, B5.out⟩

end Go.Proofs.YtfcpkdafkmohkaaGreatDoor
namespace Go.Proofs.YtfcpkdafkmohkaaGreatDoor
open Go.RowKit
def scN (m : Nat) (two p : Int) : Nat := m * 2 ^ two.toNat * 10 ^ p.toNat
def scD (two p : Int) : Nat := 2 ^ (-two).toNat * 10 ^ (-p).toNat
theorem scD_pos (two p : Int) : 0 < scD two p := Nat.mul_pos (two_pos _) (ten_pos _)
theorem sc_facts {x m : Nat} {two : Int} (h : PartG x m two) (p : Int) : scN m two p * vV p = vU x p * scD two p := by
 have key : m * 2 ^ two.toNat * big = fmag x * 2 ^ (-two).toNat := by
  rcases h with ⟨rfl, rfl, rfl⟩ | ⟨_, h⟩
  ·rw [fmag_zero, Nat.zero_mul, Nat.zero_mul, Nat.zero_mul]
  ·exact vcross h
 unfold scN vV vU scD
 generalize 2 ^ two.toNat = A at *
 generalize 2 ^ (-two).toNat = B at *
 generalize 10 ^ p.toNat = C at *
 generalize 10 ^ (-p).toNat = D at *
 generalize fmag x = F at *
 have e1 : m * A * C * (big * D) = m * A * big * (C * D) := by grind
 have e2 : F * C * (B * D) = F * B * (C * D) := by grind
 rw [e1, e2, key]
theorem PartG.bd {x m : Nat} {two : Int} (h : PartG x m two) : bln m ≤ 53 ∧ -1074 ≤ two ∧ two ≤ 1023 := by
 rcases h with ⟨rfl, rfl, rfl⟩ | ⟨_, h⟩
 ·rw [bln_zero]
  omega
 ·obtain ⟨q1, q2, q3, q4, q5, q6⟩ := h.pos
  exact ⟨q2, q5, q6⟩
theorem scN_bln {x m : Nat} {two p : Int} (h : PartG x m two) (hp : p ≤ 700) : bln (scN m two p) ≤ 5000 := by
 obtain ⟨b1, b2, b3⟩ := h.bd
 unfold scN
 have h1 := bln_mul (m * 2 ^ two.toNat) (10 ^ p.toNat)
 have h2 := bln_mul m (2 ^ two.toNat)
 have h3 := bln_pow2 two.toNat
 have h4 := bln_ten p.toNat
 omega
theorem scD_bln {two p : Int} (h : -1074 ≤ two) (hp : -700 ≤ p) : bln (scD two p) ≤ 5000 := by
 unfold scD
 have h1 := bln_mul (2 ^ (-two).toNat) (10 ^ (-p).toNat)
 have h3 := bln_pow2 (-two).toNat
 have h4 := bln_ten (-p).toNat
 omega
theorem rparts_fix (x : Nat) (hx : x < 9218868437227405312) : ∃ m two, PartG x m two ∧ ∀ W, Cp 114 #[.float .f64 x] W fun e w' => ∃ A n c, e = .returned (.tuple #[.slice A n c, .int .i64 two, .int .i64 0]) ∧ NV w' A n c m ∧ Below W.heap.size W w' := by
 rcases Nat.eq_zero_or_pos x with h | h
 ·subst h
  refine ⟨0, 0, .inl ⟨rfl, rfl, rfl⟩, fun W => (rparts_zero 0 W (by omega) fbad_zero rfl).mono ?_⟩
  rintro e w' ⟨rfl, rfl⟩
  exact ⟨none, 0, 0, rfl, nv_zero _, Below.refl _ _⟩
 ·obtain ⟨p1, p2⟩ := fwhole_pos h
  obtain ⟨k, m, hkm⟩ := odd_part _ p1
  obtain ⟨h1, h2⟩ := fbad_pos h hx
  refine ⟨2 * m + 1, fpow x + (k : Nat), .inr ⟨h, parts_is h hx hkm⟩, fun W => (rparts_ok x W (by omega) h2 (by omega)).mono ?_⟩
  rintro e w' ⟨k2, m2, A, n, c, hkm2, rfl, ⟨hn, hc, hr⟩, hb⟩
  obtain ⟨rfl, rfl⟩ := odd_one hkm hkm2 (by omega)
  exact ⟨A, n, c, rfl, ⟨hn.symm, hc, hr⟩, hb⟩
def ScQ (m : Nat) (two p : Int) (w : World) (e : Ending) (w' : World) : Prop := ∃ A n c C k d, e = .returned (.tuple #[.slice A n c, .slice C k d]) ∧ NV w' A n c (scN m two p) ∧ NV w' C k d (scD two p) ∧ Below w.heap.size w w'
theorem yscaled_of {x m : Nat} {two : Int} (hb : bln m ≤ 53 ∧ -1074 ≤ two ∧ two ≤ 1023)
  (hC : ∀ W, Cp 114 #[.float .f64 x] W fun e w' => ∃ A n c, e = .returned (.tuple #[.slice A n c, .int .i64 two, .int .i64 0]) ∧ NV w' A n c m ∧ Below W.heap.size W w')
  (p : Int) (W : World) (hp1 : -700 ≤ p) (hp2 : p ≤ 700) : Cp 48 #[.float .f64 x, .int .i64 p] W (ScQ m two p W) := by
 obtain ⟨b1, b2, b3⟩ := hb
 have C1 : Hid (∀ W', W' = W → Cp 114 #[.float .f64 x] W' fun e w' => ∃ A n c, e = .returned (.tuple #[.slice A n c, .int .i64 two, .int .i64 0]) ∧ NV w' A n c m ∧ Below W'.heap.size W' w') := Lib.hid (fun W' _ => hC W')
 have hm2 := bln_mul m (2 ^ two.toNat)
 have hp2' := bln_pow2 two.toNat
 have hp3' := bln_pow2 (-two).toNat
 have h1b : bln 1 = 1 := by decide
 have ht4 := bln_ten p.toNat
 have ht5 := bln_ten (-p).toNat
 unfold ScQ scN scD
 rcases (show two < 0 ∨ 0 ≤ two by omega) with h | h
 ·have z1 : two.toNat = 0 := by omega
  rw [z1, Nat.pow_zero, Nat.mul_one]
  have hl1 := bln_mul 1 (2 ^ (-two).toNat)
  have C2 := Lib.hid (fun W' A n c (g : NV W' A n c 1) => rnup g (-two).toNat (by omega) (by omega))
  rcases (show p < 0 ∨ 0 ≤ p by omega) with k | k
  ·rw [show p.toNat = 0 by omega, Nat.pow_zero, Nat.mul_one]
   refine (yscaled_dn h k (by omega) (by omega) (by omega) (by omega) (a := (-two).toNat) (b := (-p).toNat) (by omega) (by omega) C1 C2 (Lib.hid fun W' => ypow_any _ W' (by omega)) (Lib.hid fun W' A n c C k' d g1 g2 => rntimes g1 g2 (by omega) (by omega))).mono ?_
   rintro e w' ⟨A, n, c, C, k', d, rfl, g1, g2, g3⟩
   rw [Nat.one_mul] at g2
   exact ⟨A, n, c, C, k', d, rfl, g1, g2, g3⟩
  ·rw [show (-p).toNat = 0 by omega, Nat.pow_zero, Nat.mul_one]
   refine (yscaled_dp h k (by omega) (by omega) (by omega) (by omega) (a := (-two).toNat) (b := p.toNat) (by omega) (by omega) C1 C2 (Lib.hid fun W' => ypow_any _ W' (by omega)) (Lib.hid fun W' A n c C k' d g1 g2 => rntimes g1 g2 (by omega) (by omega))).mono ?_
   rintro e w' ⟨A, n, c, C, k', d, rfl, g1, g2, g3⟩
   rw [Nat.one_mul] at g2
   exact ⟨A, n, c, C, k', d, rfl, g1, g2, g3⟩
 ·have z1 : (-two).toNat = 0 := by omega
  rw [z1, Nat.pow_zero, Nat.one_mul]
  have C2 := Lib.hid (fun W' A n c (g : NV W' A n c m) => rnup g two.toNat (by omega) (by omega))
  rcases (show p < 0 ∨ 0 ≤ p by omega) with k | k
  ·rw [show p.toNat = 0 by omega, Nat.pow_zero, Nat.mul_one]
   refine (yscaled_un h k (by omega) (by omega) (by omega) (by omega) (a := two.toNat) (b := (-p).toNat) (by omega) (by omega) C1 C2 (Lib.hid fun W' => ypow_any _ W' (by omega)) (Lib.hid fun W' A n c C k' d g1 g2 => rntimes g1 g2 (by omega) (by omega))).mono ?_
   rintro e w' ⟨A, n, c, C, k', d, rfl, g1, g2, g3⟩
   rw [Nat.one_mul] at g2
   exact ⟨A, n, c, C, k', d, rfl, g1, g2, g3⟩
  ·rw [show (-p).toNat = 0 by omega, Nat.pow_zero]
   refine (yscaled_up h k (by omega) (by omega) (by omega) (by omega) (a := two.toNat) (b := p.toNat) (by omega) (by omega) C1 C2 (Lib.hid fun W' => ypow_any _ W' (by omega)) (Lib.hid fun W' A n c C k' d g1 g2 => rntimes g1 g2 (by omega) (by omega))).mono ?_
   rintro e w' ⟨A, n, c, C, k', d, rfl, g1, g2, g3⟩
   exact ⟨A, n, c, C, k', d, rfl, g1, g2, g3⟩
theorem yscaled_fix (x : Nat) (hx : x < 9218868437227405312) : ∃ m two, PartG x m two ∧ ∀ p W, -700 ≤ p → p ≤ 700 → Cp 48 #[.float .f64 x, .int .i64 p] W (ScQ m two p W) := by
 obtain ⟨m, two, hG, hC⟩ := rparts_fix x hx
 exact ⟨m, two, hG, fun p W h1 h2 => yscaled_of hG.bd hC p W h1 h2⟩
theorem yscaled_nought (x : Nat) (hx : x < 18446744073709551616) (h0 : rung x = 0) (p : Int) (W : World) (h1 : -700 ≤ p) (h2 : p ≤ 700) : Cp 48 #[.float .f64 x, .int .i64 p] W (ScQ 0 0 p W) := by
 refine yscaled_of (m := 0) (two := 0) ⟨by rw [bln_zero]; omega, by omega, by omega⟩ (fun W => (rparts_zero x W hx ?_ h0).mono ?_) p W h1 h2
 ·unfold fbad fnan finf
  rw [h0]
  simp
 ·rintro e w' ⟨rfl, rfl⟩
  exact ⟨none, 0, 0, rfl, nv_zero _, Below.refl _ _⟩

end Go.Proofs.YtfcpkdafkmohkaaGreatDoor
namespace Go.Proofs.YtfcpkdafkmohkaaGreatDoor
open Go.RowKit
def cmpN (a b : Nat) : Int := if a < b then -1 else if b < a then 1 else 0
theorem rncmp {w : World} {A C : Option Addr} {n c m d a b : Nat} (hA : NV w A n c a) (hB : NV w C m d b) (ha : bln a ≤ 30000) (hb : bln b ≤ 30000) :
  Cq 101 #[.slice A n c, .slice C m d] (.int .i64 (cmpN a b)) w := by
 have h1 := small_len ha
 have h2 := small_len hb
 refine (rcmp_any A C n c m d (wds a) (wds b) _ _ w hA.len (by have := hA.len; omega) hA.row hB.len (by have := hB.len; omega) hB.row).mono ?_
 rintro e w' ⟨rfl, rfl⟩
 refine ⟨?_, rfl⟩
 unfold cmpN
 by_cases k1 : a < b
 ·rw [if_pos k1, ord_lt (by rw [wds_val, wds_val]; exact k1)]
 ·by_cases k2 : b < a
  ·rw [if_neg k1, if_pos k2, ord_gt (by rw [wds_val, wds_val]; exact k2)]
  ·rw [if_neg k1, if_neg k2, ord_eq (by rw [wds_val, wds_val]; omega)]
theorem start_le {U V : Nat} {p : Int} (hU : 0 < U) (hV : 0 < V) (hp : PointAt U V p) (h1 : bln U ≤ 1140) (h2 : bln V ≤ 1140) : (((bln U : Int) - bln V) * 30103).tdiv 100000 - 3 ≤ p := by
 obtain ⟨u1, u2, u3⟩ := bln_bounds hU
 obtain ⟨v1, v2, v3⟩ := bln_bounds hV
 obtain ⟨e, he⟩ : ∃ e : Int, (bln U : Int) - bln V = e := ⟨_, rfl⟩
 rw [he]
 have hs := start_at (e := e) (by omega) (by omega)
 have hle : 2 ^ (e - 1).toNat * V ≤ U * 2 ^ (-(e - 1)).toNat := by
  have a1 : 2 ^ (e - 1).toNat * V ≤ 2 ^ (e - 1).toNat * 2 ^ bln V := Nat.mul_le_mul_left _ (Nat.le_of_lt v2)
  have a2 : 2 ^ (bln U - 1) * 2 ^ (-(e - 1)).toNat ≤ U * 2 ^ (-(e - 1)).toNat := Nat.mul_le_mul_right _ u1
  have a3 : 2 ^ (e - 1).toNat * 2 ^ bln V = 2 ^ (bln U - 1) * 2 ^ (-(e - 1)).toNat := by
   rw [← Nat.pow_add, ← Nat.pow_add]
   exact congrArg (fun k => 2 ^ k) (by omega)
  omega
 have hl := le10_mono (two_pos _) hle hs
 rcases (show (e * 30103).tdiv 100000 - 3 ≤ p ∨ p < (e * 30103).tdiv 100000 - 3 by omega) with h | h
 ·exact h
 ·exfalso
  refine hp.2 (le10_down ((e * 30103).tdiv 100000 - 4 - p).toNat ?_)
  rw [show p + ((((e * 30103).tdiv 100000 - 4 - p).toNat : Nat) : Int) = (e * 30103).tdiv 100000 - 4 by omega]
  exact hl
def askN (U V : Nat) (n : Int) : Int := if 0 ≤ n then cmpN U (V * 10 ^ n.toNat) else cmpN (U * 10 ^ (-n).toNat) V
theorem ask_le {U V : Nat} {n : Int} : askN U V n < 0 ↔ ¬ le10 n U V := by
 unfold askN le10 cmpN
 rcases (show 0 ≤ n ∨ n < 0 by omega) with h | h
 ·rw [if_pos h, show (-n).toNat = 0 by omega, Nat.pow_zero, Nat.mul_one]
  generalize V * 10 ^ n.toNat = X
  split
  ·omega
  ·split <;> omega
 ·rw [if_neg (by omega), show n.toNat = 0 by omega, Nat.pow_zero, Nat.mul_one]
  generalize U * 10 ^ (-n).toNat = X
  split
  ·omega
  ·split <;> omega
set_option maxRecDepth 100000 in
set_option maxHeartbeats 3000000 in
theorem ypoint_walk {x U V bu bv : Nat} {n0 p s1 s2 s3 : Int} {w : World}
  (C1 : Hid (∀ W, W = w → Cp 48 #[.float .f64 x, .int .i64 0] W fun e w' => ∃ A n c C k d, e = .returned (.tuple #[.slice A n c, .slice C k d]) ∧ NV w' A n c U ∧ NV w' C k d V ∧ Below W.heap.size W w'))
  (C2 : Hid (∀ W A n c, NV W A n c U → Ct 163 #[.slice A n c] (.int .i64 (bu : Nat)) W))
  (C3 : Hid (∀ W A n c, NV W A n c V → Ct 163 #[.slice A n c] (.int .i64 (bv : Nat)) W))
  (CP : Hid (∀ W (n : Nat), n ≤ 400 → Cp 115 #[.int .i64 n] W (NRet (10 ^ n) W)))
  (CU : Hid (∀ W (n : Nat) A n1 c C k d, n ≤ 400 → NV W A n1 c U → NV W C k d (10 ^ n) → Cp 51 #[.slice A n1 c, .slice C k d] W (NRet (U * 10 ^ n) W)))
  (CV : Hid (∀ W (n : Nat) A n1 c C k d, n ≤ 400 → NV W A n1 c V → NV W C k d (10 ^ n) → Cp 51 #[.slice A n1 c, .slice C k d] W (NRet (V * 10 ^ n) W)))
  (CC : Hid (∀ W (n : Nat) A n1 c C k d, n ≤ 400 → NV W A n1 c U → NV W C k d (V * 10 ^ n) → Cq 101 #[.slice A n1 c, .slice C k d] (.int .i64 (cmpN U (V * 10 ^ n))) W))
  (CD : Hid (∀ W (n : Nat) A n1 c C k d, n ≤ 400 → NV W A n1 c (U * 10 ^ n) → NV W C k d V → Cq 101 #[.slice A n1 c, .slice C k d] (.int .i64 (cmpN (U * 10 ^ n) V)) W))
  (k1 : (bu : Int) - bv = s1) (b1 : -3000 ≤ s1) (b2 : s1 ≤ 3000) (k2 : s1 * 30103 = s2) (k3 : s2.tdiv 100000 = s3) (k4 : s3 - 3 = n0)
  (h0 : -400 ≤ n0) (hp : n0 ≤ p) (hp4 : p ≤ 390) (hle : Hid (∀ n, n < p → askN U V n < 0 → False)) (hat : Hid (askN U V p < 0)) :
  Ct 100 #[.float .f64 x] (.int .i64 p) w := by
 have b3 : -90400000 ≤ s2 := by omega
 have b4 : s2 ≤ 90400000 := by omega
 have b5 : -404 ≤ s3 := by omega
 have b6 : s3 ≤ 400 := by omega
 have K1 := Lib.hid k1
 have K2 := Lib.hid k2
 have K3 := Lib.hid k3
 have K4 := Lib.hid k4
 have HP := Lib.hid hp
 clear k1 k2 k3 k4 hp
 go_enter Tryz.func100, Tryz.ntmps100
 go_wp2_with fail
 refine (C1.out _ rfl).mono ?_
 rintro e w1 ⟨A1, n1, c1, A2, n2, c2, rfl, g1, g2, b1'⟩
 have GU := Lib.hid g1
 have GV := Lib.hid g2
 have B1 := Lib.hid b1'
 clear g1 g2 b1'
 go_wp2_with fail
 refine (C2.out _ _ _ _ GU.out).mono ?_
 rintro e w2 ⟨rfl, b2'⟩
 have GU := Lib.hid (GU.out.step b2')
 have GV := Lib.hid (GV.out.step b2')
 have B2 := Lib.hid (below_le B1.out b2')
 clear b2'
 go_wp2_with fail
 refine (C3.out _ _ _ _ GV.out).mono ?_
 rintro e w3 ⟨rfl, b3'⟩
 have GU := Lib.hid (GU.out.step b3')
 have GV := Lib.hid (GV.out.step b3')
 have B3 := Lib.hid (below_le B2.out b3')
 clear b3'
 have k1 := K1.out
 have k2 := K2.out
 have k3 := K3.out
 have k4 := K4.out
 go_wp2
 clear k1 k2 k3 k4
 go_loopw [5] (fun v wr => ∃ n : Int, v = .int .i64 n ∧ n0 ≤ n ∧ n ≤ p ∧ Hid (NV wr A1 n1 c1 U) ∧ Hid (NV wr A2 n2 c2 V) ∧ Hid (Below w.heap.size w wr)) (fun v _ => (p - intOf v).toNat)
 case atStart => exact ⟨n0, rfl, by omega, HP.out, GU, GV, B3⟩
 case round =>
  obtain ⟨n, rfl, hn0, hnp, GU, GV, B3⟩ := hrel
  rcases (show 0 ≤ n ∨ n < 0 by omega) with hs | hs
  ·obtain ⟨k, rfl⟩ : ∃ k : Nat, n = (k : Int) := ⟨n.toNat, by omega⟩
   have t1 : (0 : Int) ≤ (k : Int) := by omega
   have hask : askN U V (k : Int) = cmpN U (V * 10 ^ k) := by unfold askN; rw [if_pos (by omega), Int.toNat_natCast]
   have hk4 : k ≤ 400 := by have := HP.out; omega
   have C9 : Hid (∀ W A n1 c, NV W A n1 c U → ∀ C k' d, NV W C k' d (V * 10 ^ k) → Cq 101 #[.slice A n1 c, .slice C k' d] (.int .i64 (cmpN U (V * 10 ^ k))) W) := Lib.hid (fun W A n1 c h C k' d g => CC.out W k A n1 c C k' d hk4 h g)
   obtain ⟨r, hr⟩ : ∃ r, cmpN U (V * 10 ^ k) = r := ⟨_, rfl⟩
   rw [hr] at C9 hask
   have e4 : (k : Int) < 400 := by omega
   by_cases hlt : (k : Int) < p
   ·have t2 : ¬ r < 0 := fun h => hle.out _ hlt (by rw [hask]; exact h)
    clear hask hr
    go_wp2_with fail
    refine (CP.out _ k hk4).mono ?_
    rintro e w4 ⟨A4, n4, c4, rfl, g4, b4'⟩
    have G4 := Lib.hid g4
    have GU := Lib.hid (GU.out.step b4')
    have GV := Lib.hid (GV.out.step b4')
    have B4 := Lib.hid (below_le B3.out b4')
    clear g4 b4'
    go_wp2_with fail
    refine (CV.out _ k _ _ _ _ _ _ hk4 GV.out G4.out).mono ?_
    rintro e w5 ⟨A5, n5, c5, rfl, g5, b5'⟩
    have G5 := Lib.hid g5
    have GU := Lib.hid (GU.out.step b5')
    have GV := Lib.hid (GV.out.step b5')
    have B5 := Lib.hid (below_le B4.out b5')
    clear g5 b5'
    go_wp2_with fail
    refine (C9.out _ _ _ _ GU.out _ _ _ G5.out).mono ?_
    rintro e w' ⟨rfl, rfl⟩
    go_wp2
    go_roundw
    case rel => exact ⟨(k : Int) + 1, rfl, by omega, by omega, GU, GV, B5⟩
    case measure => simp [intOf]; omega
   ·have hnp : (k : Int) = p := by omega
    have t2 : r < 0 := by have := hat.out; rw [← hnp, hask] at this; exact this
    have HNP := Lib.hid hnp
    clear hask hr hnp
    go_wp2_with fail
    refine (CP.out _ k hk4).mono ?_
    rintro e w4 ⟨A4, n4, c4, rfl, g4, b4'⟩
    have G4 := Lib.hid g4
    have GU := Lib.hid (GU.out.step b4')
    have GV := Lib.hid (GV.out.step b4')
    have B4 := Lib.hid (below_le B3.out b4')
    clear g4 b4'
    go_wp2_with fail
    refine (CV.out _ k _ _ _ _ _ _ hk4 GV.out G4.out).mono ?_
    rintro e w5 ⟨A5, n5, c5, rfl, g5, b5'⟩
    have G5 := Lib.hid g5
    have GU := Lib.hid (GU.out.step b5')
    have GV := Lib.hid (GV.out.step b5')
    have B5 := Lib.hid (below_le B4.out b5')
    clear g5 b5'
    go_wp2_with fail
    refine (C9.out _ _ _ _ GU.out _ _ _ G5.out).mono ?_
    rintro e w' ⟨rfl, rfl⟩
    go_wp2
    go_ret
    exact ⟨by rw [← HNP.out]; rfl, B5.out⟩
  ·obtain ⟨k, hk⟩ : ∃ k : Nat, -n = (k : Int) := ⟨(-n).toNat, by omega⟩
   have t1 : ¬ 0 ≤ n := by omega
   have hask : askN U V n = cmpN (U * 10 ^ k) V := by unfold askN; rw [if_neg (by omega), show (-n).toNat = k by omega]
   have HK := Lib.hid hk
   have hk4 : k ≤ 400 := by have := HP.out; omega
   have C9 : Hid (∀ W A n1 c, NV W A n1 c (U * 10 ^ k) → ∀ C k' d, NV W C k' d V → Cq 101 #[.slice A n1 c, .slice C k' d] (.int .i64 (cmpN (U * 10 ^ k) V)) W) := Lib.hid (fun W A n1 c h C k' d g => CD.out W k A n1 c C k' d hk4 h g)
   obtain ⟨r, hr⟩ : ∃ r, cmpN (U * 10 ^ k) V = r := ⟨_, rfl⟩
   rw [hr] at C9 hask
   have e4 : n < 400 := by omega
   by_cases hlt : n < p
   ·have t2 : ¬ r < 0 := fun h => hle.out _ hlt (by rw [hask]; exact h)
    clear hask hr
    have hk' := HK.out
    clear hk
    go_wp2_with fail
    refine (CP.out _ k hk4).mono ?_
    rintro e w4 ⟨A4, n4, c4, rfl, g4, b4'⟩
    have G4 := Lib.hid g4
    have GU := Lib.hid (GU.out.step b4')
    have GV := Lib.hid (GV.out.step b4')
    have B4 := Lib.hid (below_le B3.out b4')
    clear g4 b4'
    go_wp2_with fail
    refine (CU.out _ k _ _ _ _ _ _ hk4 GU.out G4.out).mono ?_
    rintro e w5 ⟨A5, n5, c5, rfl, g5, b5'⟩
    have G5 := Lib.hid g5
    have GU := Lib.hid (GU.out.step b5')
    have GV := Lib.hid (GV.out.step b5')
    have B5 := Lib.hid (below_le B4.out b5')
    clear g5 b5'
    go_wp2_with fail
    refine (C9.out _ _ _ _ G5.out _ _ _ GV.out).mono ?_
    rintro e w' ⟨rfl, rfl⟩
    go_wp2
    go_roundw
    case rel => exact ⟨n + 1, rfl, by omega, by omega, GU, GV, B5⟩
    case measure => simp [intOf]; omega
   ·have hnp : n = p := by omega
    have t2 : r < 0 := by have := hat.out; rw [← hnp, hask] at this; exact this
    have HNP := Lib.hid hnp
    clear hask hr hnp
    have hk' := HK.out
    clear hk
    go_wp2_with fail
    refine (CP.out _ k hk4).mono ?_
    rintro e w4 ⟨A4, n4, c4, rfl, g4, b4'⟩
    have G4 := Lib.hid g4
    have GU := Lib.hid (GU.out.step b4')
    have GV := Lib.hid (GV.out.step b4')
    have B4 := Lib.hid (below_le B3.out b4')
    clear g4 b4'
    go_wp2_with fail
    refine (CU.out _ k _ _ _ _ _ _ hk4 GU.out G4.out).mono ?_
    rintro e w5 ⟨A5, n5, c5, rfl, g5, b5'⟩
    have G5 := Lib.hid g5
    have GU := Lib.hid (GU.out.step b5')
    have GV := Lib.hid (GV.out.step b5')
    have B5 := Lib.hid (below_le B4.out b5')
    clear g5 b5'
    go_wp2_with fail
    refine (C9.out _ _ _ _ G5.out _ _ _ GV.out).mono ?_
    rintro e w' ⟨rfl, rfl⟩
    go_wp2
    go_ret
    exact ⟨by rw [← HNP.out]; rfl, B5.out⟩

end Go.Proofs.YtfcpkdafkmohkaaGreatDoor
namespace Go.Proofs.YtfcpkdafkmohkaaGreatDoor
open Go.RowKit
theorem sc_point {x m : Nat} {two n : Int} (h : PartG x m two) (hn : PointAt (fmag x) big n) : PointAt (scN m two 0) (scD two 0) n := by
 have hf := sc_facts h 0
 have e1 : vV 0 = big := by unfold vV; simp
 have e2 : vU x 0 = fmag x := by unfold vU; simp
 rw [e1, e2] at hf
 exact point_cross big_pos (scD_pos _ _) hf.symm hn
theorem td_lo {z : Int} (h : -34500000 ≤ z) : -345 ≤ z.tdiv 100000 := by
 rcases (show 0 ≤ z ∨ z < 0 by omega) with h1 | h1
 ·rw [Int.tdiv_eq_ediv_of_nonneg h1]
  omega
 ·have e : z = -(-z) := by omega
  rw [e, Int.neg_tdiv, Int.tdiv_eq_ediv_of_nonneg (by omega)]
  omega
theorem ypoint_is {x : Nat} {n : Int} {w : World} (h0 : 0 < x) (hx : x < 9218868437227405312) (hn : PointAt (fmag x) big n) (n1 : -345 ≤ n) (n2 : n ≤ 335) :
  Ct 100 #[.float .f64 x] (.int .i64 n) w := by
 obtain ⟨m, two, hG, hC⟩ := yscaled_fix x hx
 have hP : PartIs x m two := by
  rcases hG with ⟨h, _⟩ | ⟨_, h⟩
  ·omega
  ·exact h
 obtain ⟨q1, q2, q3, q4, q5, q6⟩ := hP.pos
 have hpt := sc_point hG hn
 have hV := scD_pos two 0
 have hU : 0 < scN m two 0 := Nat.mul_pos (Nat.mul_pos q1 (two_pos _)) (ten_pos _)
 have bU : bln (scN m two 0) ≤ 1140 := by
  unfold scN
  rw [show (0 : Int).toNat = 0 by omega, Nat.pow_zero, Nat.mul_one]
  have := bln_mul m (2 ^ two.toNat)
  have := bln_shift (m := m) (k := two.toNat) q1
  omega
 have bV : bln (scD two 0) ≤ 1140 := by
  unfold scD
  rw [show (-(0 : Int)).toNat = 0 by omega, Nat.pow_zero, Nat.mul_one]
  have := bln_pow2 (-two).toNat
  omega
 have hst := start_le hU hV hpt bU bV
 have hC0 := fun W => hC 0 W (by omega) (by omega)
 obtain ⟨U, eU⟩ : ∃ U, scN m two 0 = U := ⟨_, rfl⟩
 obtain ⟨V, eV⟩ : ∃ V, scD two 0 = V := ⟨_, rfl⟩
 unfold ScQ at hC0
 rw [eU, eV] at hC0
 rw [eU] at bU hst hpt hU
 rw [eV] at bV hst hpt hV
 have hm10 : ∀ k, k ≤ 400 → bln (10 ^ k) ≤ 2000 := fun k hk => by have := bln_ten k; omega
 refine ypoint_walk (U := U) (V := V) (bu := bln U) (bv := bln V) (n0 := (((bln U : Int) - bln V) * 30103).tdiv 100000 - 3) (Lib.hid fun W _ => hC0 W)
  (Lib.hid fun W A n' c h => rnbits h (by omega)) (Lib.hid fun W A n' c h => rnbits h (by omega)) (Lib.hid fun W k hk => ypow_any k W (by omega))
  (Lib.hid fun W k A n' c C k' d hk h g => rntimes h g (by omega) (by have := hm10 k hk; omega)) (Lib.hid fun W k A n' c C k' d hk h g => rntimes h g (by omega) (by have := hm10 k hk; omega))
  (Lib.hid fun W k A n' c C k' d hk h g => rncmp h g (by omega) (by have := hm10 k hk; have := bln_mul V (10 ^ k); omega)) (Lib.hid fun W k A n' c C k' d hk h g => rncmp h g (by have := hm10 k hk; have := bln_mul U (10 ^ k); omega) (by omega))
  rfl (by omega) (by omega) rfl rfl rfl ?_ hst (by omega) (Lib.hid ?_) (Lib.hid ?_)
 ·have h1 : -1140 ≤ (bln U : Int) - bln V := by omega
  have h2 := td_lo (z := ((bln U : Int) - bln V) * 30103) (by omega)
  omega
 ·intro k hk hlt
  refine ask_le.1 hlt ?_
  exact le10_down (n - 1 - k).toNat (by rw [show k + (((n - 1 - k).toNat : Nat) : Int) = n - 1 by omega]; exact hpt.1)
 ·exact ask_le.2 hpt.2
theorem ynumber_any {A : Option Addr} {n c v : Nat} {w : World} (hA : NV w A n c v) (hv : bln v ≤ 20000) : Ct 105 #[.slice A n c] (.string (strOf (dL v))) w := by
 have h1 := small_len (v := v) (by omega)
 have C := rtext_any A n c 10 (wds v) w hA.len hA.cap (by have := hA.len; omega) hA.row
 rw [wds_val] at C
 have HC : Hid (Ct 50 #[.slice A n c, .int .i64 10] (.tuple #[.string (strOf (dL v)), .int .i64 0]) w) := Lib.hid (C.mono (by
  rintro e w' ⟨t, k, rfl, ht, hb⟩
  have hbad : ¬ badR 10 := by unfold badR; omega
  rcases ht with ⟨h, _⟩ | ⟨_, h, _⟩ | ⟨_, _, h, rfl⟩
  ·exact absurd h hbad
  ·rw [lng_bln (by omega)] at h
   cases h
  ·rw [text_str h]
   exact ⟨rfl, hb⟩))
 clear C hA
 go_enter Tryz.func105, Tryz.ntmps105
 go_wp2_with fail
 refine HC.out.mono ?_
 rintro e w1 ⟨rfl, b1⟩
 go_wp2
 go_ret
 exact ⟨rfl, b1⟩

end Go.Proofs.YtfcpkdafkmohkaaGreatDoor
namespace Go.Proofs.YtfcpkdafkmohkaaGreatDoor
open Go.RowKit
theorem word_low {v : Nat} (h : 0 < v) : ∃ x0, (wds v)[0]? = some x0 ∧ x0 < 4294967296 ∧ x0 % 2 = v % 2 := by
 have hne : (wds v) ≠ [] := by
  intro e
  have := wds_val v
  rw [e] at this
  have h0 : val [] = 0 := rfl
  omega
 have hv := wds_val v
 have hws := wds_ws v
 cases hw : wds v with
 | nil => exact absurd hw hne
 | cons a t =>
  rw [hw] at hv hws
  refine ⟨a, rfl, hws a (by simp), ?_⟩
  rw [← hv]
  show a % 2 = (a + 4294967296 * val t) % 2
  omega
set_option maxRecDepth 100000 in
set_option maxHeartbeats 8000000 in
theorem yDigits_walk {x : Nat} {n : Int} {w : World} {Nf Df : Nat → Nat} {R : ByteArray → Int → Prop} (b1 : -400 ≤ n) (b2 : n ≤ 400)
  (C0 : Hid (∀ W, W = w → Ct 100 #[.float .f64 x] (.int .i64 n) W))
  (CS : Hid (∀ W (k : Nat), k ≤ 17 → Cp 48 #[.float .f64 x, .int .i64 (k - n)] W fun e w' => ∃ A a c C b d, e = .returned (.tuple #[.slice A a c, .slice C b d]) ∧ NV w' A a c (Nf k) ∧ NV w' C b d (Df k) ∧ Below W.heap.size W w'))
  (CH : Hid (∀ W (k : Nat) A a c C b d, k ≤ 17 → NV W A a c (Nf k) → NV W C b d (Df k) → Cp 49 #[.slice A a c, .slice C b d] W (HRet (Nf k) (Df k) W)))
  (CU : Hid (∀ W (k : Nat) A a c, k ≤ 17 → NV W A a c (Nf k % Df k) → Cp 102 #[.slice A a c, .int .i64 1] W (NRet (Nf k % Df k * 2 ^ 1) W)))
  (CC : Hid (∀ W (k : Nat) A a c C b d, k ≤ 17 → NV W A a c (Nf k % Df k * 2 ^ 1) → NV W C b d (Df k) → Cq 101 #[.slice A a c, .slice C b d] (.int .i64 (cmpN (Nf k % Df k * 2 ^ 1) (Df k))) W))
  (CP : Hid (∀ W (k : Nat) A a c C b d, k ≤ 17 → NV W A a c (Nf k / Df k) → NV W C b d 1 → Cp 103 #[.slice A a c, .slice C b d] W (NRet (Nf k / Df k + 1) W)))
  (CN : Hid (∀ W (k : Nat) A a c, k ≤ 17 → NV W A a c (Nf k / Df k) → Ct 105 #[.slice A a c] (.string (strOf (dL (Nf k / Df k)))) W))
  (CM : Hid (∀ W (k : Nat) A a c, k ≤ 17 → NV W A a c (Nf k / Df k + 1) → Ct 105 #[.slice A a c] (.string (strOf (dL (Nf k / Df k + 1)))) W))
  (CD : Hid (∀ W (k v : Nat), k ≤ 17 → v < 10 ^ 18 → Ct 104 #[.string (strOf (dL v)), .int .i64 (n - k)] (.float .f64 (decR v (n - k))) W))
  (hq0 : Hid (∀ k, 1 ≤ k → k ≤ 17 → 0 < Nf k / Df k ∧ Nf k / Df k + 1 < 10 ^ 18))
  (hlow : Hid (∀ k, 1 ≤ k → k ≤ 17 → (FloatKind.f64.format.order (decR (Nf k / Df k) (n - k)) x == some .eq) = clow x n k))
  (hhigh : Hid (∀ k, 1 ≤ k → k ≤ 17 → (FloatKind.f64.format.order (decR (Nf k / Df k + 1) (n - k)) x == some .eq) = chigh x n k))
  (hnear : Hid (∀ k, 1 ≤ k → k ≤ 17 → (decide (cmpN (Nf k % Df k * 2 ^ 1) (Df k) < 0) || ((cmpN (Nf k % Df k * 2 ^ 1) (Df k) == 0) && !(((Nf k / Df k : Nat) : Int) % 2 == 1))) = cnear x n k))
  (hend : Hid (clow x n 17 = false → chigh x n 17 = false → False))
  (rq : Hid (∀ k, 1 ≤ k → k ≤ 17 → (∀ j, 1 ≤ j → j < k → cnd x n j = none) → clow x n k = true → (chigh x n k = false ∨ cnear x n k = true) → R (strOf (dL (Nf k / Df k))) n))
  (rs : Hid (∀ k, 1 ≤ k → k ≤ 17 → (∀ j, 1 ≤ j → j < k → cnd x n j = none) → chigh x n k = true → (clow x n k = false ∨ cnear x n k = false) → (dL (Nf k / Df k + 1)).length ≤ k → R (strOf (dL (Nf k / Df k + 1))) n))
  (rl : Hid (∀ k, 1 ≤ k → k ≤ 17 → (∀ j, 1 ≤ j → j < k → cnd x n j = none) → chigh x n k = true → (clow x n k = false ∨ cnear x n k = false) → k < (dL (Nf k / Df k + 1)).length → R ((strOf (dL (Nf k / Df k + 1))).extract 0 k) (n + 1))) :
  Cp 42 #[.float .f64 x] w fun e w' => (∃ S m, e = .returned (.tuple #[.string S, .int .i64 m]) ∧ R S m) ∧ Below w.heap.size w w' := by
 have b3 : -400 ≤ n ∧ n ≤ 400 := ⟨b1, b2⟩
 obtain ⟨b4, b5⟩ := b3
 go_enter Tryz.func42, Tryz.ntmps42
 go_wp2_with fail
 refine (C0.out _ rfl).mono ?_
 rintro e w1 ⟨rfl, b1'⟩
 have B1 := Lib.hid b1'
 clear b1'
 go_wp2
 go_loopw [5] (fun v wr => ∃ k : Nat, v = .int .i64 k ∧ 1 ≤ k ∧ k ≤ 17 ∧ Hid (∀ j, 1 ≤ j → j < k → cnd x n j = none) ∧ Hid (Below w.heap.size w wr)) (fun v _ => 17 - (intOf v).toNat)
 case atStart => exact ⟨1, rfl, by omega, by omega, Lib.hid (fun j h1 h2 => by omega), B1⟩
 case round =>
  obtain ⟨k, rfl, hk1, hk2, HN, B1⟩ := hrel
  have HK1 := Lib.hid hk1
  have HK2 := Lib.hid hk2
  have e1 : (1 : Int) ≤ (k : Int) := by omega
  have e2 : (k : Int) ≤ 17 := by omega
  obtain ⟨q, hq⟩ : ∃ q, Nf k / Df k = q := ⟨_, rfl⟩
  obtain ⟨r, hr⟩ : ∃ r, Nf k % Df k = r := ⟨_, rfl⟩
  have CH := Lib.hid (fun W A a c C b d => CH.out W k A a c C b d hk2)
  have CU := Lib.hid (fun W A a c => CU.out W k A a c hk2)
  have CC := Lib.hid (fun W A a c C b d => CC.out W k A a c C b d hk2)
  have CP := Lib.hid (fun W A a c C b d => CP.out W k A a c C b d hk2)
  have CN := Lib.hid (fun W A a c => CN.out W k A a c hk2)
  have CM := Lib.hid (fun W A a c => CM.out W k A a c hk2)
  obtain ⟨q1, q2⟩ := hq0.out k hk1 hk2
  have Q1 := Lib.hid q1
  have CD1 := Lib.hid (fun W => CD.out W k (Nf k / Df k) hk2 (by omega))
  have CD2 := Lib.hid (fun W => CD.out W k (Nf k / Df k + 1) hk2 q2)
  have tl := hlow.out k hk1 hk2
  have th := hhigh.out k hk1 hk2
  have tn := hnear.out k hk1 hk2
  have rq := Lib.hid (rq.out k hk1 hk2 HN.out)
  have rs := Lib.hid (rs.out k hk1 hk2 HN.out)
  have rl := Lib.hid (rl.out k hk1 hk2 HN.out)
  unfold HRet at CH
  rw [hq] at CH CP CN CM CD1 CD2 Q1 tl th tn rq rs rl
  rw [hr] at CH CU CC tn
  obtain ⟨o, ho⟩ : ∃ o, cmpN (r * 2 ^ 1) (Df k) = o := ⟨_, rfl⟩
  rw [ho] at CC tn
  obtain ⟨f1, hf1⟩ : ∃ f, decR q (n - k) = f := ⟨_, rfl⟩
  obtain ⟨f2, hf2⟩ : ∃ f, decR (q + 1) (n - k) = f := ⟨_, rfl⟩
  rw [hf1] at CD1 tl
  rw [hf2] at CD2 th
  obtain ⟨lo, hlo⟩ : ∃ lo, clow x n k = lo := ⟨_, rfl⟩
  obtain ⟨hi, hhi⟩ : ∃ hi, chigh x n k = hi := ⟨_, rfl⟩
  obtain ⟨nr, hnr⟩ : ∃ nr, cnear x n k = nr := ⟨_, rfl⟩
  rw [hlo] at tl rq rs rl
  rw [hhi] at th rq rs rl
  rw [hnr] at tn rq rs rl
  have HLO := Lib.hid hlo
  have HHI := Lib.hid hhi
  have TN := Lib.hid tn
  obtain ⟨x0, hx1, hx2, hx3⟩ := word_low Q1.out
  have HX1 := Lib.hid hx1
  have ka : bits BinOp.and IntKind.u32 (x0 : Int) 1 = ((q % 2 : Nat) : Int) := by rw [and_one32 x0 hx2, hx3]
  have KA := Lib.hid ka
  have TL := Lib.hid tl
  have TH := Lib.hid th
  obtain ⟨s1, hs1⟩ : ∃ s, strOf (dL q) = s := ⟨_, rfl⟩
  obtain ⟨s2, hs2⟩ : ∃ s, strOf (dL (q + 1)) = s := ⟨_, rfl⟩
  rw [hs1] at CN CD1 rq
  rw [hs2] at CM CD2 rs rl
  obtain ⟨ls, hls⟩ : ∃ ls, (dL (q + 1)).length = ls := ⟨_, rfl⟩
  rw [hls] at rs rl
  have hsz : s2.size = ls := by rw [← hs2, strOf_size, hls]
  have HSZ := Lib.hid hsz
  clear hk1 hk2 hq hr q1 q2 ho hf1 hf2 hlo hhi hnr tn hx1 hx2 hx3 ka tl th hs1 hs2 hls hsz
  go_wp2_with fail
  refine (CS.out _ k HK2.out).mono ?_
  rintro e w2 ⟨A2, n2, c2, A3, n3, c3, rfl, g2, g3, b2'⟩
  have GN := Lib.hid g2
  have GD := Lib.hid g3
  have B2 := Lib.hid (below_le B1.out b2')
  clear g2 g3 b2'
  go_wp2_with fail
  refine (CH.out _ _ _ _ _ _ _ GN.out GD.out).mono ?_
  rintro e w3 ⟨A4, n4, c4, A5, n5, c5, rfl, g4, g5, b3'⟩
  have GQ := Lib.hid g4
  have GR := Lib.hid g5
  have GD := Lib.hid (GD.out.step b3')
  have B3 := Lib.hid (below_le B2.out b3')
  clear g4 g5 b3'
  go_wp2_with fail
  refine (CU.out _ _ _ _ GR.out).mono ?_
  rintro e w4 ⟨A6, n6, c6, rfl, g6, b4'⟩
  have GU := Lib.hid g6
  have GQ := Lib.hid (GQ.out.step b4')
  have GD := Lib.hid (GD.out.step b4')
  have B4 := Lib.hid (below_le B3.out b4')
  clear g6 b4'
  go_wp2_with fail
  refine (CC.out _ _ _ _ _ _ _ GU.out GD.out).mono ?_
  rintro e w' ⟨rfl, rfl⟩
  have G1 := Lib.hid (NV.lit w4 1 (by omega) (by omega))
  have GQ := Lib.hid (GQ.out.step (below_al w4 (.cells #[.int .u32 1] 42)))
  have B4 := Lib.hid (alloc_below (.cells #[.int .u32 1] 42) B4.out)
  go_wp2_with fail
  generalize w4.alloc (.cells #[.int .u32 1] 42) = w5 at *
  refine (CP.out _ _ _ _ _ _ _ GQ.out G1.out).mono ?_
  rintro e w6 ⟨A7, n7, c7, rfl, g7, b6'⟩
  have GS := Lib.hid g7
  have GQ := Lib.hid (GQ.out.step b6')
  have B6 := Lib.hid (below_le B4.out b6')
  clear g7 b6'
  go_wp2_with fail
  refine (CN.out _ _ _ _ GQ.out).mono ?_
  rintro e w7 ⟨rfl, b7'⟩
  have GS := Lib.hid (GS.out.step b7')
  have GQ := Lib.hid (GQ.out.step b7')
  have B7 := Lib.hid (below_le B6.out b7')
  clear b7'
  go_wp2_with fail
  refine (CD1.out _).mono ?_
  rintro e w8 ⟨rfl, b8'⟩
  have GS := Lib.hid (GS.out.step b8')
  have GQ := Lib.hid (GQ.out.step b8')
  have B8 := Lib.hid (below_le B7.out b8')
  clear b8'
  have tl := TL.out
  go_wp2_with fail
  clear tl
  refine (CM.out _ _ _ _ GS.out).mono ?_
  rintro e w9 ⟨rfl, b9'⟩
  have GS := Lib.hid (GS.out.step b9')
  have GQ := Lib.hid (GQ.out.step b9')
  have B9 := Lib.hid (below_le B8.out b9')
  clear b9'
  go_wp2_with fail
  refine (CD2.out _).mono ?_
  rintro e wA ⟨rfl, bA'⟩
  have GS := Lib.hid (GS.out.step bA')
  have GQ := Lib.hid (GQ.out.step bA')
  have BA := Lib.hid (below_le B9.out bA')
  clear bA'
  have hlq : 0 < n4 := by
   have h1 := GQ.out.len
   have h2 := HX1.out
   rcases Nat.eq_zero_or_pos n4 with h | h
   ·rw [List.eq_nil_of_length_eq_zero (h1.trans h)] at h2
    cases h2
   ·exact h
  obtain ⟨bq, oq, rfl, _, hcq⟩ := GQ.out.row.2 (by rw [GQ.out.len]; exact hlq)
  have c0 := hcq 0 _ HX1.out
  rw [Nat.add_zero] at c0
  clear hcq
  have hl4 : (0 : Int) < (n4 : Int) := by omega
  clear hlq
  have th := TH.out
  have ka := KA.out
  go_upto_region 11 with (fail)
  clear th ka c0
  obtain ⟨od, hod⟩ : ∃ od, ((q : Int) % 2 == 1) = od := ⟨_, rfl⟩
  rw [hod] at TN ⊢
  clear hod
  cases lo
  ·cases hi
   ·have hn : cnd x n k = none := cnd_none.2 ⟨HLO.out, HHI.out⟩
    have h17 : k ≠ 17 := by
     rintro rfl
     exact hend.out HLO.out HHI.out
    have HN' : Hid (∀ j, 1 ≤ j → j < k + 1 → cnd x n j = none) := Lib.hid (fun j h1 h2 => by
     rcases Nat.lt_or_ge j k with h | h
     ·exact HN.out j h1 h
     ·rw [show j = k by omega]
      exact hn)
    have hk2 := HK2.out
    clear hn
    go_wp2
    go_roundw
    case rel => exact ⟨k + 1, by go_num, by omega, by omega, HN', BA⟩
    case measure => simp [intOf]; omega
   ·have tt : True := trivial
    go_wp2_with fail
    refine (CM.out _ _ _ _ GS.out).mono ?_
    rintro e wB ⟨rfl, bB'⟩
    have BB := Lib.hid (below_le BA.out bB')
    clear bB'
    have hz' := HSZ.out
    by_cases hlk : k < ls
    ·have t9 : (k : Int) < (ls : Int) := by omega
     have t8 : (0 : Int) ≤ (k : Int) := by omega
     have t7 : (k : Int) ≤ (ls : Int) := by omega
     go_wp2
     go_ret2
     exact ⟨⟨_, _, rfl, rl.out (by simp) (.inl (by simp)) hlk⟩, BB.out⟩
    ·have t9 : decide (k < ls) = false := decide_eq_false hlk
     go_wp2
     go_ret2
     exact ⟨⟨_, _, rfl, rs.out (by simp) (.inl (by simp)) (by omega)⟩, BB.out⟩
  ·cases hi
   ·have tt : True := trivial
    go_wp2_with fail
    refine (CN.out _ _ _ _ GQ.out).mono ?_
    rintro e wB ⟨rfl, bB'⟩
    have BB := Lib.hid (below_le BA.out bB')
    clear bB'
    go_wp2
    go_ret2
    exact ⟨⟨_, _, rfl, rq.out (by simp) (.inl (by simp))⟩, BB.out⟩
   ·by_cases t1 : o < 0
    ·have hn : nr = true := by rw [← TN.out, decide_eq_true t1]; rfl
     go_wp2_with fail
     refine (CN.out _ _ _ _ GQ.out).mono ?_
     rintro e wB ⟨rfl, bB'⟩
     have BB := Lib.hid (below_le BA.out bB')
     clear bB'
     go_wp2
     go_ret2
     exact ⟨⟨_, _, rfl, rq.out (by simp) (.inr hn)⟩, BB.out⟩
    ·by_cases t2 : o = 0
     ·have t3 : (o == 0) = true := by rw [beq_iff_eq]; exact t2
      cases od
      ·have hn : nr = true := by rw [← TN.out, decide_eq_false t1, t3]; rfl
       clear t2
       go_wp2_with fail
       refine (CN.out _ _ _ _ GQ.out).mono ?_
       rintro e wB ⟨rfl, bB'⟩
       have BB := Lib.hid (below_le BA.out bB')
       clear bB'
       go_wp2
       go_ret2
       exact ⟨⟨_, _, rfl, rq.out (by simp) (.inr hn)⟩, BB.out⟩
      ·have hn : nr = false := by rw [← TN.out, decide_eq_false t1, t3]; rfl
       clear t2
       go_wp2_with fail
       refine (CM.out _ _ _ _ GS.out).mono ?_
       rintro e wB ⟨rfl, bB'⟩
       have BB := Lib.hid (below_le BA.out bB')
       clear bB'
       have hz' := HSZ.out
       by_cases hlk : k < ls
       ·have t9 : (k : Int) < (ls : Int) := by omega
        have t8 : (0 : Int) ≤ (k : Int) := by omega
        have t7 : (k : Int) ≤ (ls : Int) := by omega
        go_wp2
        go_ret2
        exact ⟨⟨_, _, rfl, rl.out (by simp) (.inr hn) hlk⟩, BB.out⟩
       ·have t9 : decide (k < ls) = false := decide_eq_false hlk
        go_wp2
        go_ret2
        exact ⟨⟨_, _, rfl, rs.out (by simp) (.inr hn) (by omega)⟩, BB.out⟩
     ·have t3 : (o == 0) = false := by rw [beq_eq_false_iff_ne]; exact t2
      have hn : nr = false := by rw [← TN.out, decide_eq_false t1, t3]; rfl
      clear t2
      go_wp2_with fail
      refine (CM.out _ _ _ _ GS.out).mono ?_
      rintro e wB ⟨rfl, bB'⟩
      have BB := Lib.hid (below_le BA.out bB')
      clear bB'
      have hz' := HSZ.out
      by_cases hlk : k < ls
      ·have t9 : (k : Int) < (ls : Int) := by omega
       have t8 : (0 : Int) ≤ (k : Int) := by omega
       have t7 : (k : Int) ≤ (ls : Int) := by omega
       go_wp2
       go_ret2
       exact ⟨⟨_, _, rfl, rl.out (by simp) (.inr hn) hlk⟩, BB.out⟩
      ·have t9 : decide (k < ls) = false := decide_eq_false hlk
       go_wp2
       go_ret2
       exact ⟨⟨_, _, rfl, rs.out (by simp) (.inr hn) (by omega)⟩, BB.out⟩

end Go.Proofs.YtfcpkdafkmohkaaGreatDoor
namespace Go.Proofs.YtfcpkdafkmohkaaGreatDoor
open Go.RowKit
theorem sc_quot {x m : Nat} {two : Int} (h : PartG x m two) (p : Int) :
  scN m two p / scD two p = vU x p / vV p ∧ (2 * (scN m two p % scD two p) < scD two p ↔ 2 * (vU x p % vV p) < vV p) ∧ (2 * (scN m two p % scD two p) = scD two p ↔ 2 * (vU x p % vV p) = vV p) :=
 quot_cross (scD_pos _ _) (vV_pos p) (sc_facts h p)
theorem cmpN_lt {a b : Nat} : cmpN a b < 0 ↔ a < b := by
 unfold cmpN
 split
 ·omega
 ·split <;> omega
theorem cmpN_eq {a b : Nat} : cmpN a b = 0 ↔ a = b := by
 unfold cmpN
 split
 ·omega
 ·split <;> omega
theorem cnd_low {x k : Nat} {n : Int} (h1 : clow x n k = true) (h2 : chigh x n k = false ∨ cnear x n k = true) : cnd x n k = some (cq x n k) := by
 unfold cnd
 rw [h1]
 rcases h2 with h | h <;> rw [h] <;> simp
theorem cnd_high {x k : Nat} {n : Int} (h1 : chigh x n k = true) (h2 : clow x n k = false ∨ cnear x n k = false) : cnd x n k = some (cq x n k + 1) := by
 unfold cnd
 rw [h1]
 rcases h2 with h | h <;> rw [h] <;> simp
theorem bln_succ (a : Nat) : bln (a + 1) ≤ bln a + 1 := by
 rcases Nat.eq_zero_or_pos a with h | h
 ·subst h
  decide
 ·have h1 := bln_shift (k := 1) h
  rw [← h1]
  exact bln_mono (by omega)
theorem yDigits_any {x : Nat} {w : World} (h0 : 0 < x) (hx : x < 9218868437227405312) : Cp 42 #[.float .f64 x] w (ShortQ x w) := by
 obtain ⟨m0, two0, hp0⟩ := part_ex h0 hx
 obtain ⟨n, hn, n1, n2⟩ := point_ex hp0
 obtain ⟨m, two, hG, hC⟩ := yscaled_fix x hx
 obtain ⟨gb1, gb2, gb3⟩ := hG.bd
 have hq : ∀ k : Nat, scN m two (k - n) / scD two (k - n) = cq x n k := fun k => (sc_quot hG _).1
 have hqb : ∀ k : Nat, 1 ≤ k → k ≤ 17 → 0 < cq x n k ∧ cq x n k + 1 ≤ 10 ^ k ∧ 10 ^ k ≤ 10 ^ 17 := fun k hk1 hk2 => by
  have h1 := cq_lo hn hk1
  have h2 := cq_hi (k := k) hn
  have h3 := ten_pos (k - 1)
  exact ⟨by omega, by omega, Nat.pow_le_pow_right (by omega) hk2⟩
 have bN : ∀ k : Nat, k ≤ 17 → bln (scN m two (k - n)) ≤ 5000 := fun k hk => scN_bln hG (by omega)
 have bD : ∀ k : Nat, k ≤ 17 → bln (scD two (k - n)) ≤ 5000 := fun k hk => scD_bln gb2 (by omega)
 have bR : ∀ k : Nat, k ≤ 17 → bln (scN m two (k - n) % scD two (k - n)) ≤ 5000 := fun k hk => Nat.le_trans (bln_mono (Nat.mod_le _ _)) (bN k hk)
 have bQ : ∀ k : Nat, k ≤ 17 → bln (scN m two (k - n) / scD two (k - n)) ≤ 5000 := fun k hk => Nat.le_trans (bln_mono (Nat.div_le_self _ _)) (bN k hk)
 have bQ1 : ∀ k : Nat, k ≤ 17 → bln (scN m two (k - n) / scD two (k - n) + 1) ≤ 6000 := fun k hk => by
  have h1 := bln_succ (scN m two (k - n) / scD two (k - n))
  have h2 := bQ k hk
  omega
 refine (yDigits_walk (n := n) (Nf := fun k => scN m two (k - n)) (Df := fun k => scD two (k - n)) (R := fun S N => ∃ D, S = strOf D ∧ SQ x D N) (by omega) (by omega)
  (Lib.hid fun W _ => ypoint_is h0 hx hn n1 n2) (Lib.hid fun W k hk => hC _ W (by omega) (by omega))
  (Lib.hid fun W k A a c C b d hk h g => rnhalved h g (by have := bN k hk; omega) (by have := bD k hk; omega) (scD_pos _ _))
  (Lib.hid fun W k A a c hk h => rnup h 1 (by have := bR k hk; omega) (by omega))
  (Lib.hid fun W k A a c C b d hk h g => rncmp h g (by have := bR k hk; have := bln_mul (scN m two (k - n) % scD two (k - n)) (2 ^ 1); have := bln_pow2 1; omega) (by have := bD k hk; omega))
  (Lib.hid fun W k A a c C b d hk h g => rnplus h g (by have := bQ k hk; omega) (by decide))
  (Lib.hid fun W k A a c hk h => ynumber_any h (by have := bQ k hk; omega))
  (Lib.hid fun W k A a c hk h => ynumber_any h (by have := bQ1 k hk; omega))
  (Lib.hid fun W k v hk hv => ?_) (Lib.hid ?_) (Lib.hid ?_) (Lib.hid ?_) (Lib.hid ?_) (Lib.hid ?_) (Lib.hid ?_) (Lib.hid ?_) (Lib.hid ?_)).mono ?_
 ·have h1 := ydecimal_any (dL v) (n - k) W (dL_dig v) (by have := dL_le hv (by omega); omega) (by omega)
  rw [dL_num] at h1
  exact h1
 ·intro k hk1 hk2
  obtain ⟨h1, h2, h3⟩ := hqb k hk1 hk2
  simp only [hq]
  omega
 ·intro k hk1 hk2
  simp only [hq]
  rw [ord_eq_pos (decR_le_inf _ _) (by omega)]
  rfl
 ·intro k hk1 hk2
  simp only [hq]
  rw [ord_eq_pos (decR_le_inf _ _) (by omega)]
  rfl
 ·intro k hk1 hk2
  obtain ⟨s1, s2, s3⟩ := sc_quot hG ((k : Int) - n)
  unfold cnear
  simp only [hq]
  rw [Bool.eq_iff_iff, Bool.or_eq_true, Bool.or_eq_true, Bool.and_eq_true, Bool.and_eq_true, decide_eq_true_iff, decide_eq_true_iff, decide_eq_true_iff, decide_eq_true_iff, beq_iff_eq, cmpN_lt, cmpN_eq, ← s2, ← s3, Bool.not_eq_true', beq_eq_false_iff_ne]
  generalize cq x n k = q
  generalize scN m two (↑k - n) % scD two (↑k - n) = r
  generalize scD two (↑k - n) = d
  omega
 ·intro h1 h2
  exact cnd_ends hn h0 hx (cnd_none.2 ⟨h1, h2⟩)
 ·intro k hk1 hk2 hmin h1 h2
  simp only [hq]
  have hc := cnd_low h1 h2
  have hlt := cq_hi (k := k) hn
  rcases cnd_last hn hk1 hmin hc with ⟨g1, g2, g3⟩ | ⟨g1, g2⟩
  ·have e := dL_last g1
   obtain ⟨j, rfl⟩ : ∃ j, k = j + 1 := ⟨k - 1, by omega⟩
   have hl := dL_len (k := j) g2 g3
   exact ⟨_, rfl, n, j + 1, _, hn, hk1, hk2, hmin, hc, e.symm, by rw [hl]; omega⟩
  ·subst g1
   rw [g2] at hlt
   omega
 ·intro k hk1 hk2 hmin h1 h2 hle
  simp only [hq] at hle ⊢
  have hc := cnd_high h1 h2
  rcases cnd_last hn hk1 hmin hc with ⟨g1, g2, g3⟩ | ⟨g1, g2⟩
  ·have e := dL_last g1
   obtain ⟨j, rfl⟩ : ∃ j, k = j + 1 := ⟨k - 1, by omega⟩
   have hl := dL_len (k := j) g2 g3
   exact ⟨_, rfl, n, j + 1, _, hn, hk1, hk2, hmin, hc, e.symm, by rw [hl]; omega⟩
  ·subst g1
   rw [g2, show dL 10 = [49, 48] by rw [dL_big (by omega), dL_small (by omega)]; rfl] at hle
   simp at hle
 ·intro k hk1 hk2 hmin h1 h2 hle
  simp only [hq] at hle ⊢
  have hc := cnd_high h1 h2
  rcases cnd_last hn hk1 hmin hc with ⟨g1, g2, g3⟩ | ⟨g1, g2⟩
  ·exfalso
   obtain ⟨j, rfl⟩ : ∃ j, k = j + 1 := ⟨k - 1, by omega⟩
   have hl := dL_len (k := j) g2 g3
   omega
  ·subst g1
   have e10 : dL 10 = [49, 48] := by rw [dL_big (by omega), dL_small (by omega)]; rfl
   refine ⟨[49], ?_, n, 1, _, hn, hk1, hk2, hmin, hc, ?_, ?_⟩
   ·rw [g2, e10, ext_take, bl_strOf (by simp)]
    rfl
   ·rw [g2, e10]
    rfl
   ·rw [g2, e10]
    simp
    omega
 ·rintro e w' ⟨⟨S, N, rfl, D, rfl, hq⟩, hb⟩
  exact ⟨D, N, rfl, hq, hb⟩
theorem yDigits_is {x : Nat} {D : List Nat} {N : Int} {w : World} (h0 : 0 < x) (hx : x < 9218868437227405312) (h : SQ x D N) :
  Ct 42 #[.float .f64 x] (.tuple #[.string (strOf D), .int .i64 N]) w := by
 refine (yDigits_any h0 hx).mono ?_
 rintro e w' ⟨L, p, rfl, hq, hb⟩
 obtain ⟨rfl, rfl⟩ := h.one hq
 exact ⟨rfl, hb⟩

end Go.Proofs.YtfcpkdafkmohkaaGreatDoor
namespace Go.Proofs.YtfcpkdafkmohkaaGreatDoor
open Go.RowKit
def TextL (r n : Nat) (l : List Nat) : Prop := (n = 0 ∧ l = [48]) ∨ (0 < n ∧ ∃ D, Ds r D ∧ dv r D = n ∧ l = ((dstrip D).map dch).reverse)
theorem TextL.one {r n : Nat} {l m : List Nat} (hr : 0 < r) (h : TextL r n l) (k : TextL r n m) : l = m := by
 rcases h with ⟨h1, h2⟩ | ⟨h1, D, h2, h3, h4⟩ <;> rcases k with ⟨k1, k2⟩ | ⟨k1, E, k2, k3, k4⟩
 ·rw [h2, k2]
 ·omega
 ·omega
 ·rw [h4, k4, dstrip_inj hr h2 k2 (h3.trans k3.symm)]
theorem ds_ex {r : Nat} (hr : 2 ≤ r) (n : Nat) : ∃ D, Ds r D ∧ dv r D = n := by
 induction n using Nat.strongRecOn with
 | _ n ih =>
  rcases Nat.eq_zero_or_pos n with h | h
  ·exact ⟨[], Ds.nil r, h.symm⟩
  ·obtain ⟨D, h1, h2⟩ := ih (n / r) (Nat.div_lt_self h (by omega))
   refine ⟨n % r :: D, ?_, ?_⟩
   ·intro u hu
    rcases List.mem_cons.1 hu with rfl | hu
    ·exact Nat.mod_lt _ (by omega)
    ·exact h1 u hu
   ·rw [dv, h2]
    have := Nat.div_add_mod n r
    omega
theorem textL_ex {r : Nat} (hr : 2 ≤ r) (n : Nat) : ∃ l, TextL r n l := by
 rcases Nat.eq_zero_or_pos n with h | h
 ·exact ⟨_, .inl ⟨h, rfl⟩⟩
 ·obtain ⟨D, h1, h2⟩ := ds_ex hr n
  exact ⟨_, .inr ⟨h, D, h1, h2, rfl⟩⟩
theorem dv_app (r : Nat) : ∀ A B : List Nat, dv r (A ++ B) = dv r A + r ^ A.length * dv r B
 | [], B => by simp [dv]
 | x :: A, B => by
  rw [List.cons_append, dv, dv, dv_app r A B, List.length_cons, Nat.pow_succ]
  grind
theorem dstrip_nil {r : Nat} : ∀ {l : List Nat}, dstrip l = [] → dv r l = 0
 | [], _ => rfl
 | x :: l, h => by
  rw [dstrip] at h
  split at h
  ·rename_i hc
   rw [dv, dstrip_nil (l := l) hc.2, hc.1]
   simp
  ·cases h
theorem dstrip_app {B : List Nat} (h : dstrip B ≠ []) : ∀ A : List Nat, dstrip (A ++ B) = A ++ dstrip B
 | [] => rfl
 | x :: A => by
  have ih := dstrip_app h A
  rw [List.cons_append, dstrip, ih, if_neg]
  ·rfl
  ·rintro ⟨_, h2⟩
   exact h (List.append_eq_nil_iff.1 h2).2
theorem dstrip_pad : ∀ l : List Nat, l = dstrip l ++ List.replicate (l.length - (dstrip l).length) 0
 | [] => rfl
 | x :: l => by
  have ih := dstrip_pad l
  rw [dstrip]
  split
  ·rename_i hc
   rw [hc.2, List.nil_append, List.length_nil, Nat.sub_zero] at ih
   rw [List.nil_append, List.length_nil, Nat.sub_zero, List.length_cons, List.replicate_succ, hc.1, ← ih]
  ·rw [List.cons_append, List.length_cons, List.length_cons, Nat.add_sub_add_right, ← ih]
theorem dv_zero {r : Nat} (hr : 0 < r) {l : List Nat} (h : dv r l = 0) : l = List.replicate l.length 0 := by
 have := dstrip_pad l
 rw [dstrip_zero hr h, List.nil_append, List.length_nil, Nat.sub_zero] at this
 exact this
def gV (r D : Nat) : Nat → Nat → List Nat
 | _, 0 => []
 | R, k + 1 => R * r / D :: gV r D (R * r % D) k
theorem gV_len (r D : Nat) : ∀ k R : Nat, (gV r D R k).length = k
 | 0, _ => rfl
 | k + 1, R => by rw [gV, List.length_cons, gV_len r D k]
theorem gV_lt {r D : Nat} (hD : 0 < D) : ∀ (k R : Nat), R < D → 0 < r → ∀ u ∈ gV r D R k, u < r
 | 0, _, _, _ => by simp [gV]
 | k + 1, R, hR, hr => by
  intro u hu
  rw [gV] at hu
  rcases List.mem_cons.1 hu with rfl | hu
  ·rw [Nat.div_lt_iff_lt_mul hD, Nat.mul_comm r D]
   exact Nat.mul_lt_mul_of_pos_right hR hr
  ·exact gV_lt hD k _ (Nat.mod_lt _ hD) hr u hu
theorem gV_dv {r D : Nat} (hD : 0 < D) : ∀ (k : Nat) {R : Nat}, R < D → dv r (gV r D R k).reverse = R * r ^ k / D
 | 0, R, h => by simp [gV, dv, Nat.div_eq_of_lt h]
 | k + 1, R, h => by
  have ih := gV_dv (r := r) hD k (Nat.mod_lt (R * r) hD)
  have e := Nat.div_add_mod (R * r) D
  rw [gV, List.reverse_cons, dv_app, ih, List.length_reverse, gV_len]
  have h1 : R * r ^ (k + 1) = D * (R * r / D * r ^ k) + R * r % D * r ^ k := by
   rw [Nat.pow_succ]
   generalize R * r / D = a at *
   generalize R * r % D = b at *
   have e2 : R * (r ^ k * r) = (R * r) * r ^ k := by grind
   rw [e2, ← e]
   grind
  rw [h1, Nat.mul_add_div hD]
  simp [dv]
  grind
theorem map_rep (k : Nat) : (List.replicate k 0).map dch = List.replicate k 48 := by
 rw [List.map_replicate]
 rfl
theorem ptL_text {r q k : Nat} {F L tq : List Nat} (hr : 0 < r) (hk : 0 < k) (hF : F.length = k) (hFr : ∀ u ∈ F, u < r) (hq : TextL r q tq) (hL : TextL r (q * r ^ k + dv r F.reverse) L) : ptL L k = tq ++ 46 :: F.map dch := by
 have hrl : F.reverse.length = k := by rw [List.length_reverse, hF]
 have hds : Ds r F.reverse := fun u hu => hFr u (List.mem_reverse.1 hu)
 have fin : ∀ (T : List Nat), 0 < T.length → (∃ z, List.replicate z 48 ++ L = T ++ F.map dch ∧ z = k + 1 - L.length) → ptL L k = T ++ 46 :: F.map dch := by
  rintro T hT ⟨z, hz, rfl⟩
  unfold ptL
  rw [if_neg (by omega)]
  have hlen : k + 1 - L.length + L.length = T.length + k := by
   have := congrArg List.length hz
   rw [List.length_append, List.length_replicate, List.length_append, List.length_map, hF] at this
   exact this
  rw [hz, hlen, Nat.add_sub_cancel, List.take_left, List.drop_left]
 rcases hq with ⟨rfl, rfl⟩ | ⟨hq0, Dq, hDq, hdq, rfl⟩
 ·rw [Nat.zero_mul, Nat.zero_add] at hL
  refine fin [48] (by simp) ⟨k + 1 - L.length, ?_, rfl⟩
  rcases Nat.eq_zero_or_pos (dv r F.reverse) with h0 | h0
  ·have hl : L = [48] := TextL.one hr hL (.inl ⟨h0, rfl⟩)
   have hz := dv_zero hr h0
   rw [hrl] at hz
   have hF0 : F = List.replicate k 0 := by rw [← List.reverse_reverse F, hz, List.reverse_replicate]
   rw [hl, hF0, map_rep, List.length_singleton, Nat.add_sub_cancel]
   show List.replicate k 48 ++ [48] = 48 :: List.replicate k 48
   rw [← List.replicate_succ', List.replicate_succ]
  ·have hl : L = ((dstrip F.reverse).map dch).reverse := TextL.one hr hL (.inr ⟨h0, _, hds, rfl, rfl⟩)
   have hp := dstrip_pad F.reverse
   rw [hrl] at hp
   have hle : (dstrip F.reverse).length ≤ k := by
    have := congrArg List.length hp
    rw [hrl, List.length_append, List.length_replicate] at this
    omega
   have hFm : F.map dch = List.replicate (k - (dstrip F.reverse).length) 48 ++ L := by
    have e : F = (F.reverse).reverse := (List.reverse_reverse F).symm
    rw [hl, ← List.reverse_replicate, ← List.reverse_append, ← map_rep, ← List.map_append, ← hp, ← List.map_reverse, ← e]
   have hLl : L.length = (dstrip F.reverse).length := by rw [hl]; simp
   rw [hFm, hLl, show k + 1 - (dstrip F.reverse).length = k - (dstrip F.reverse).length + 1 by omega, List.replicate_succ]
   rfl
 ·have hne : dstrip Dq ≠ [] := fun h => by
   have := dstrip_nil (r := r) h
   omega
  have hDs : Ds r (F.reverse ++ Dq) := fun u hu => by
   rcases List.mem_append.1 hu with h | h
   ·exact hds u h
   ·exact hDq u h
  have hl : L = ((dstrip (F.reverse ++ Dq)).map dch).reverse := by
   refine TextL.one hr hL (.inr ⟨?_, _, hDs, ?_, rfl⟩)
   ·have : 0 < q * r ^ k := Nat.mul_pos hq0 (Nat.pow_pos hr)
    omega
   ·rw [dv_app, hrl, hdq]
    grind
  rw [dstrip_app hne, List.map_append, List.reverse_append] at hl
  have hrev : (List.map dch F.reverse).reverse = F.map dch := by rw [← List.map_reverse, List.reverse_reverse]
  rw [hrev] at hl
  have hpos : 0 < ((dstrip Dq).map dch).reverse.length := by
   rw [List.length_reverse, List.length_map]
   exact List.length_pos_iff.2 hne
  refine fin _ hpos ⟨0, by rw [List.replicate_zero, List.nil_append]; exact hl, ?_⟩
  have := congrArg List.length hl
  rw [List.length_append, List.length_map, hF] at this
  omega
def rstL (G : List Nat) : List Nat := if trz G = [] then [] else 46 :: trz G
theorem trz_point (T G : List Nat) : trz (T ++ 46 :: G) = if trz G = [] then T ++ [46] else T ++ 46 :: trz G := by
 unfold trz
 rw [List.reverse_append, List.reverse_cons, List.append_assoc, List.dropWhile_append]
 by_cases h : G.reverse.dropWhile (· == 48) = []
 ·rw [h, if_pos (by rfl), List.reverse_nil, if_pos rfl, List.singleton_append, List.dropWhile_cons_of_neg (by decide), List.reverse_cons, List.reverse_reverse]
 ·rw [if_neg (by simpa using h), if_neg (by simpa using h), List.reverse_append, List.reverse_append, List.reverse_reverse]
  simp

end Go.Proofs.YtfcpkdafkmohkaaGreatDoor
namespace Go.Proofs.YtfcpkdafkmohkaaGreatDoor
open Go.RowKit
theorem strOf_data (l : List Nat) : (strOf l).data.toList = l.map UInt8.ofNat := by
 unfold strOf
 simp
theorem textr_of {r v : Nat} {L : List Nat} {w w' : World} {e : Ending} (hr : 2 ≤ r) (h36 : r ≤ 36) (hv : bln v ≤ 20000) (hL : TextL r v L) (h : TextA (r : Int) v w e w') : e = .returned (.tuple #[.string (strOf L), .int .i64 0]) ∧ Below w.heap.size w w' := by
 obtain ⟨t, k, rfl, ht, hb⟩ := h
 have hbad : ¬ badR (r : Int) := by unfold badR; omega
 rcases ht with ⟨h, _⟩ | ⟨_, h, _⟩ | ⟨_, _, h, rfl⟩
 ·exact absurd h hbad
 ·rw [lng_bln (by omega)] at h
  cases h
 ·have h2 : TextL r v (bl t) := h
  have := TextL.one (by omega) h2 hL
  rw [← this, strOf_bl]
  exact ⟨rfl, hb⟩
theorem ntextr {A : Option Addr} {n c r v : Nat} {L : List Nat} {w : World} (hA : NV w A n c v) (hr : 2 ≤ r) (h36 : r ≤ 36) (hv : bln v ≤ 20000) (hL : TextL r v L) :
  Ct 111 #[.slice A n c, .int .i64 r] (.tuple #[.string (strOf L), .int .i64 0]) w := by
 have h1 := small_len (v := v) (by omega)
 have C := text_any A n c r (wds v) w hA.len hA.cap (by have := hA.len; omega) hA.row
 rw [wds_val] at C
 exact C.mono fun e w' h => textr_of hr h36 hv hL h
theorem rtextr {A : Option Addr} {n c r v : Nat} {L : List Nat} {w : World} (hA : NV w A n c v) (hr : 2 ≤ r) (h36 : r ≤ 36) (hv : bln v ≤ 20000) (hL : TextL r v L) :
  Ct 50 #[.slice A n c, .int .i64 r] (.tuple #[.string (strOf L), .int .i64 0]) w := by
 have h1 := small_len (v := v) (by omega)
 have C := rtext_any A n c r (wds v) w hA.len hA.cap (by have := hA.len; omega) hA.row
 rw [wds_val] at C
 exact C.mono fun e w' h => textr_of hr h36 hv hL h
theorem trimdot_hit (T : List Nat) (w : World) (hT : T.length ≤ 100000) : Ct 112 #[.string (strOf (T ++ [46])), .string ⟨#[46]⟩] (.string (strOf T)) w := by
 refine (Tryz.strings_TrimSuffix (strOf (T ++ [46])) ⟨#[46]⟩ w (by rw [strOf_size, List.length_append, List.length_singleton]; omega)).mono ?_
 rintro e w' ⟨rfl, rfl⟩
 refine ⟨?_, Below.refl _ _⟩
 have hs : Lib.trimSuffix (strOf (T ++ [46])).data.toList (⟨#[46]⟩ : ByteArray).data.toList = T.map UInt8.ofNat := by
  rw [strOf_data, List.map_append, show (⟨#[46]⟩ : ByteArray).data.toList = List.map UInt8.ofNat [46] from rfl]
  unfold Lib.trimSuffix Lib.hasSuffix
  rw [if_pos (List.isSuffixOf_iff_suffix.2 ⟨_, rfl⟩)]
  simp
 rw [hs]
 rfl
theorem trimdot_miss (T H : List Nat) (w : World) (hT : T.length ≤ 100000) (hH : H.length ≤ 100000) (h0 : H ≠ []) (hl : ∀ c ∈ H, 46 < c ∧ c < 256) : Ct 112 #[.string (strOf (T ++ 46 :: H)), .string ⟨#[46]⟩] (.string (strOf (T ++ 46 :: H))) w := by
 refine (Tryz.strings_TrimSuffix (strOf (T ++ 46 :: H)) ⟨#[46]⟩ w (by rw [strOf_size, List.length_append, List.length_cons]; omega)).mono ?_
 rintro e w' ⟨rfl, rfl⟩
 refine ⟨?_, Below.refl _ _⟩
 have hs : Lib.trimSuffix (strOf (T ++ 46 :: H)).data.toList (⟨#[46]⟩ : ByteArray).data.toList = (T ++ 46 :: H).map UInt8.ofNat := by
  rw [strOf_data]
  unfold Lib.trimSuffix Lib.hasSuffix
  rw [if_neg]
  intro hc
  obtain ⟨X, hX⟩ := List.isSuffixOf_iff_suffix.1 hc
  have e1 : (List.map UInt8.ofNat (T ++ 46 :: H)).getLast? = some (46 : UInt8) := by rw [← hX]; simp
  have e2 : (T ++ 46 :: H).getLast? = H.getLast? := by
   cases H with
   | nil => exact absurd rfl h0
   | cons a t =>
    rw [show T ++ 46 :: a :: t = (T ++ [46]) ++ (a :: t) by simp, List.getLast?_append]
    simp [List.getLast?_cons]
  rw [List.getLast?_map, e2] at e1
  cases hg : H.getLast? with
  | none => rw [hg] at e1; cases e1
  | some a =>
   rw [hg] at e1
   obtain ⟨h1, h2⟩ := hl a (List.mem_of_getLast? hg)
   have e3 : UInt8.ofNat a = (46 : UInt8) := Option.some.inj e1
   have e4 := congrArg UInt8.toNat e3
   rw [u8_toNat h2] at e4
   have : (46 : UInt8).toNat = 46 := rfl
   omega
 rw [hs]
 rfl
def RxP (r x : Nat) (l : List Nat) : Prop := ∃ tq, TextL r (fmag x / big) tq ∧ l = tq ++ rstL ((gV r big (fmag x % big) 60).map dch)
theorem rxp_ex {r : Nat} (hr : 2 ≤ r) (x : Nat) : ∃ l, RxP r x l := by
 obtain ⟨tq, h⟩ := textL_ex hr (fmag x / big)
 exact ⟨_, tq, h, rfl⟩
set_option maxRecDepth 100000 in
set_option maxHeartbeats 2000000 in
theorem tinradix_walk {x r H : Nat} {S P Q F : ByteArray} {w : World} (h2 : 2 ≤ r) (h36 : r ≤ 36)
  (C1 : Hid (∀ W, W = w → Cp 54 #[.float .f64 x] W fun e w' => ∃ A, ∃ k : Nat, ∃ c m two, e = .returned (.tuple #[.slice A k c, .int .i64 two, .int .i64 0]) ∧ NV w' A k c m ∧ PartG x m two ∧ Below W.heap.size W w'))
  (C2 : Hid (∀ W, Cp 107 #[.int .u32 r, .int .i64 60] W (NOk (r ^ 60) W)))
  (C3 : Hid (∀ W A (k : Nat) c C (j : Nat) d m two, PartG x m two → NV W A k c m → NV W C j d (r ^ 60) → Cp 108 #[.slice A k c, .slice C j d] W (NOk (m * r ^ 60) W)))
  (C5 : Hid (∀ W A (k : Nat) c C (j : Nat) d m two, PartG x m two → NV W A k c (m * r ^ 60) → NV W C j d 1 → Cp 109 #[.slice A k c, .slice C j d, .int .i64 two] W fun e w' => ∃ A3, ∃ n3 : Nat, ∃ c3 b, e = .returned (.tuple #[.slice A3 n3 c3, .bool b]) ∧ NV w' A3 n3 c3 H ∧ Below W.heap.size W w'))
  (C6 : Hid (∀ W A (k : Nat) c, NV W A k c H → Ct 111 #[.slice A k c, .int .i64 r] (.tuple #[.string S, .int .i64 0]) W))
  (C7 : Hid (∀ W, Ct 55 #[.string S, .int .i64 60] (.string P) W))
  (C8 : Hid (∀ W, Ct 113 #[.string P, .string ⟨#[48]⟩] (.string Q) W))
  (C9 : Hid (∀ W, Ct 112 #[.string Q, .string ⟨#[46]⟩] (.string F) W)) :
  Ct 47 #[.float .f64 x, .int .i64 r] (.string F) w := by
 have k1 : (2 : Int) ≤ r := by omega
 have k2 : (r : Int) ≤ 36 := by omega
 have C4 := Lib.hid (fun W => nof 1 (by omega) W)
 clear h2 h36
 obtain ⟨R, hR⟩ : ∃ R, r ^ 60 = R := ⟨_, rfl⟩
 rw [hR] at C2 C3 C5
 clear hR
 go_enter Tryz.func47, Tryz.ntmps47
 go_wp2_with fail
 refine (C1.out _ rfl).mono ?_
 rintro e w1 ⟨A1, n1, c1, m, two, rfl, g1, hp, b1⟩
 have G1 := Lib.hid g1
 have HP := Lib.hid hp
 have B1 := Lib.hid b1
 clear g1 hp b1
 go_wp2_with fail
 refine (C2.out _).mono ?_
 rintro e w2 ⟨A2, n2, c2, rfl, g2, b2⟩
 have G2 := Lib.hid g2
 have G1 := Lib.hid (G1.out.step b2)
 have B2 := Lib.hid (below_le B1.out b2)
 clear g2 b2
 go_wp2_with fail
 refine (C3.out _ _ _ _ _ _ _ _ _ HP.out G1.out G2.out).mono ?_
 rintro e w3 ⟨A3, n3, c3, rfl, g3, b3⟩
 have G3 := Lib.hid g3
 have B3 := Lib.hid (below_le B2.out b3)
 clear g3 b3
 go_wp2_with fail
 refine (C4.out _).mono ?_
 rintro e w4 ⟨A4, n4, c4, rfl, g4, b4⟩
 have G4 := Lib.hid g4
 have G3 := Lib.hid (G3.out.step b4)
 have B4 := Lib.hid (below_le B3.out b4)
 clear g4 b4
 go_wp2_with fail
 refine (C5.out _ _ _ _ _ _ _ _ _ HP.out G3.out G4.out).mono ?_
 rintro e w5 ⟨A5, n5, c5, bb, rfl, g5, b5⟩
 have G5 := Lib.hid g5
 have B5 := Lib.hid (below_le B4.out b5)
 clear g5 b5
 go_wp2_with fail
 refine (C6.out _ _ _ _ G5.out).mono ?_
 rintro e w6 ⟨rfl, b6⟩
 have B6 := Lib.hid (below_le B5.out b6)
 clear b6
 go_wp2_with fail
 refine (C7.out _).mono ?_
 rintro e w7 ⟨rfl, b7⟩
 have B7 := Lib.hid (below_le B6.out b7)
 clear b7
 go_wp2_with fail
 refine (C8.out _).mono ?_
 rintro e w8 ⟨rfl, b8⟩
 have B8 := Lib.hid (below_le B7.out b8)
 clear b8
 go_wp2_with fail
 refine (C9.out _).mono ?_
 rintro e w9 ⟨rfl, b9⟩
 have B9 := Lib.hid (below_le B8.out b9)
 clear b9
 go_wp2
 go_ret
 exact ⟨rfl, B9.out⟩

end Go.Proofs.YtfcpkdafkmohkaaGreatDoor
namespace Go.Proofs.YtfcpkdafkmohkaaGreatDoor
open Go.RowKit
theorem ywhole_any (k : Nat) (w : World) (hk : k < 9223372036854775808) : Ct 127 #[.int .i64 k] (.string (strOf (dL k))) w := by
 have C1 := Lib.hid (fun W => rnof k (by omega) W)
 have hb : bln k ≤ 64 := bln_le (by omega)
 have C2 := Lib.hid (fun W A a c (h : NV W A a c k) => ynumber_any h (by omega))
 have k1 : IntKind.u64.wrap (k : Int) = (k : Int) := IntWalk.u64_in _ (by omega)
 have k2 : (k : Int) < 9223372036854775808 := by omega
 clear hb hk
 go_enter Tryz.func127, Tryz.ntmps127
 go_wp2_with fail
 refine (C1.out _).mono ?_
 rintro e w1 ⟨A, a, c, rfl, g, b1⟩
 have G := Lib.hid g
 have B1 := Lib.hid b1
 clear g b1
 go_wp2_with fail
 refine (C2.out _ _ _ _ G.out).mono ?_
 rintro e w2 ⟨rfl, b2⟩
 have B2 := Lib.hid (below_le B1.out b2)
 clear b2
 go_wp2
 go_ret
 exact ⟨rfl, B2.out⟩
theorem rep_snoc (k : Nat) : strOf (List.replicate k 48) ++ ⟨#[48]⟩ = strOf (List.replicate (k + 1) 48) := by
 rw [show (⟨#[48]⟩ : ByteArray) = strOf [48] from rfl, strOf_append, List.replicate_succ']
theorem ynoughts_any (n : Nat) (w : World) (hn : n ≤ 1000000) : Cq 65 #[.int .i64 n] (.string (strOf (List.replicate n 48))) w := by
 have hn' : (n : Int) ≤ 1000000 := by omega
 have HN := Lib.hid hn
 clear hn
 go_enter Tryz.func65, Tryz.ntmps65
 go_wp2
 go_loopw [3, 4] (fun s i wr => ∃ (k : Nat) (T : ByteArray), i = .int .i64 k ∧ s = .string T ∧ k ≤ n ∧ Hid (T = strOf (List.replicate k 48)) ∧ w = wr) (fun _ i _ => n - (intOf i).toNat)
 case atStart => exact ⟨0, ⟨#[]⟩, rfl, rfl, by omega, Lib.hid rfl, rfl⟩
 case round =>
  obtain ⟨k, T, rfl, rfl, hk, HT, rfl⟩ := hrel
  by_cases hlt : k < n
  ·have t1 : (k : Int) < (n : Int) := by omega
   have g1 : ¬ 9223372036854775807 < T.size + 1 := by rw [HT.out, strOf_size, List.length_replicate]; have := HN.out; omega
   obtain ⟨T2, hT2⟩ : ∃ T2, T ++ ⟨#[48]⟩ = T2 := ⟨_, rfl⟩
   have HT2 : Hid (T2 = strOf (List.replicate (k + 1) 48)) := Lib.hid (by rw [← hT2, HT.out, rep_snoc])
   go_wp2
   exact ⟨⟨k + 1, T2, by go_num, rfl, by omega, HT2, trivial⟩, by simp [intOf]; omega⟩
  ·obtain rfl : k = n := by omega
   have t1 : decide (k < k) = false := decide_eq_false (by omega)
   go_wp2
   go_ret
   exact ⟨by rw [← HT.out]; rfl, rfl⟩
set_option maxRecDepth 100000 in
set_option maxHeartbeats 1000000 in
theorem yexponent_00 (s H Y G I F : ByteArray) (N k : Nat) (E : Int) (w : World) (hN : s.size = N) (hk : k ≤ 100000) (hE : E = (k : Int)) (hN1 : N = 1) 
  (hH : s.extract 0 1 = H) (hY : H = Y) (hYs : Hid (Y.size ≤ 1000002)) (hG : Y ++ ⟨#[101, 43]⟩ = G) (hGs : Hid (G.size ≤ 1000004)) (hIs : Hid (I.size ≤ 100)) (hF : G ++ I = F)
  (CI : Hid (∀ W, Ct 127 #[.int .i64 k] (.string I) W)) :
  Ct 63 #[.string s, .int .i64 E] (.string F) w := by
 subst hE
 have t0 : ¬ (k : Int) < 0 := by omega
 have t3 : (k : Int) ≤ 100000 := by omega
 subst hY
 have t1 : decide ((1 : Int) < (N : Int)) = false := decide_eq_false (by omega)
 have t4 : (1 : Int) ≤ (N : Int) := by omega
 clear hN1
 have g1 : ¬ 9223372036854775807 < H.size + 2 := by have := hYs.out; omega
 have g2 : ¬ 9223372036854775807 < G.size + I.size := by have := hGs.out; have := hIs.out; omega
 clear hk 

 go_enter Tryz.func63, Tryz.ntmps63
 go_wp2_with fail
 refine (CI.out _).mono ?_
 rintro e w2 ⟨rfl, b2⟩
 have B2 := Lib.hid b2
 clear b2
 go_wp2
 go_ret
 exact ⟨rfl, B2.out⟩
set_option maxRecDepth 100000 in
set_option maxHeartbeats 1000000 in
theorem yexponent_01 (s H D T Y G I F : ByteArray) (N k : Nat) (E : Int) (w : World) (hN : s.size = N) (hk : k ≤ 100000) (hE : E = (k : Int)) (hN1 : 1 < N) (hN2 : N ≤ 1000000) 
  (hH : s.extract 0 1 = H) (hHs : Hid (H.size = 1)) (hD : H ++ ⟨#[46]⟩ = D) (hDs : Hid (D.size = 2)) (hT : s.extract 1 N = T) (hTs : Hid (T.size ≤ 1000000)) (hY : D ++ T = Y) (hYs : Hid (Y.size ≤ 1000002)) (hG : Y ++ ⟨#[101, 43]⟩ = G) (hGs : Hid (G.size ≤ 1000004)) (hIs : Hid (I.size ≤ 100)) (hF : G ++ I = F)
  (CI : Hid (∀ W, Ct 127 #[.int .i64 k] (.string I) W)) :
  Ct 63 #[.string s, .int .i64 E] (.string F) w := by
 subst hE
 have t0 : ¬ (k : Int) < 0 := by omega
 have t3 : (k : Int) ≤ 100000 := by omega
 have t1 : (1 : Int) < (N : Int) := by omega
 have t2 : (N : Int) ≤ 1000000 := by omega
 have t4 : (1 : Int) ≤ (N : Int) := by omega
 have g3 : ¬ 9223372036854775807 < H.size + 1 := by have := hHs.out; omega
 have g4 : ¬ 9223372036854775807 < D.size + T.size := by have := hDs.out; have := hTs.out; omega
 clear hN1 hN2
 have g1 : ¬ 9223372036854775807 < Y.size + 2 := by have := hYs.out; omega
 have g2 : ¬ 9223372036854775807 < G.size + I.size := by have := hGs.out; have := hIs.out; omega
 clear hk 

 go_enter Tryz.func63, Tryz.ntmps63
 go_wp2_with fail
 refine (CI.out _).mono ?_
 rintro e w2 ⟨rfl, b2⟩
 have B2 := Lib.hid b2
 clear b2
 go_wp2
 go_ret
 exact ⟨rfl, B2.out⟩
set_option maxRecDepth 100000 in
set_option maxHeartbeats 1000000 in
theorem yexponent_10 (s H Y G I F : ByteArray) (N k : Nat) (E : Int) (w : World) (hN : s.size = N) (hk : k ≤ 100000) (hE : -E = (k : Int)) (h0 : 0 < k) (hN1 : N = 1) 
  (hH : s.extract 0 1 = H) (hY : H = Y) (hYs : Hid (Y.size ≤ 1000002)) (hG : Y ++ ⟨#[101, 45]⟩ = G) (hGs : Hid (G.size ≤ 1000004)) (hIs : Hid (I.size ≤ 100)) (hF : G ++ I = F)
  (CI : Hid (∀ W, Ct 127 #[.int .i64 k] (.string I) W)) :
  Ct 63 #[.string s, .int .i64 E] (.string F) w := by
 have t0 : E < 0 := by omega
 have t3 : -100000 ≤ E := by omega
 have HE := Lib.hid hE
 subst hY
 have t1 : decide ((1 : Int) < (N : Int)) = false := decide_eq_false (by omega)
 have t4 : (1 : Int) ≤ (N : Int) := by omega
 clear hN1
 have g1 : ¬ 9223372036854775807 < H.size + 2 := by have := hYs.out; omega
 have g2 : ¬ 9223372036854775807 < G.size + I.size := by have := hGs.out; have := hIs.out; omega
 clear hk hE h0
 have hE := HE.out
 go_enter Tryz.func63, Tryz.ntmps63
 go_wp2_with fail
 refine (CI.out _).mono ?_
 rintro e w2 ⟨rfl, b2⟩
 have B2 := Lib.hid b2
 clear b2
 go_wp2
 go_ret
 exact ⟨rfl, B2.out⟩
set_option maxRecDepth 100000 in
set_option maxHeartbeats 1000000 in
theorem yexponent_11 (s H D T Y G I F : ByteArray) (N k : Nat) (E : Int) (w : World) (hN : s.size = N) (hk : k ≤ 100000) (hE : -E = (k : Int)) (h0 : 0 < k) (hN1 : 1 < N) (hN2 : N ≤ 1000000) 
  (hH : s.extract 0 1 = H) (hHs : Hid (H.size = 1)) (hD : H ++ ⟨#[46]⟩ = D) (hDs : Hid (D.size = 2)) (hT : s.extract 1 N = T) (hTs : Hid (T.size ≤ 1000000)) (hY : D ++ T = Y) (hYs : Hid (Y.size ≤ 1000002)) (hG : Y ++ ⟨#[101, 45]⟩ = G) (hGs : Hid (G.size ≤ 1000004)) (hIs : Hid (I.size ≤ 100)) (hF : G ++ I = F)
  (CI : Hid (∀ W, Ct 127 #[.int .i64 k] (.string I) W)) :
  Ct 63 #[.string s, .int .i64 E] (.string F) w := by
 have t0 : E < 0 := by omega
 have t3 : -100000 ≤ E := by omega
 have HE := Lib.hid hE
 have t1 : (1 : Int) < (N : Int) := by omega
 have t2 : (N : Int) ≤ 1000000 := by omega
 have t4 : (1 : Int) ≤ (N : Int) := by omega
 have g3 : ¬ 9223372036854775807 < H.size + 1 := by have := hHs.out; omega
 have g4 : ¬ 9223372036854775807 < D.size + T.size := by have := hDs.out; have := hTs.out; omega
 clear hN1 hN2
 have g1 : ¬ 9223372036854775807 < Y.size + 2 := by have := hYs.out; omega
 have g2 : ¬ 9223372036854775807 < G.size + I.size := by have := hGs.out; have := hIs.out; omega
 clear hk hE h0
 have hE := HE.out
 go_enter Tryz.func63, Tryz.ntmps63
 go_wp2_with fail
 refine (CI.out _).mono ?_
 rintro e w2 ⟨rfl, b2⟩
 have B2 := Lib.hid b2
 clear b2
 go_wp2
 go_ret
 exact ⟨rfl, B2.out⟩
theorem yexponent_any (l : List Nat) (E : Int) (w : World) (hl : ∀ c ∈ l, c < 256) (hn0 : 1 ≤ l.length) (hn : l.length ≤ 1000000) (h1 : -100000 ≤ E) (h2 : E ≤ 100000) :
  Ct 63 #[.string (strOf l), .int .i64 E] (.string (strOf (scL l E))) w := by
 obtain ⟨k, hk⟩ : ∃ k, E.natAbs = k := ⟨_, rfl⟩
 have hI : (strOf (dL k)).size ≤ 100 := by
  rw [strOf_size]
  exact Nat.le_trans (dL_le (k := 6) (by omega) (by omega)) (by omega)
 have hsg : (sgL E).length = 2 := by unfold sgL; split <;> rfl
 have hY : (strOf (mnL l)).size ≤ 1000002 := by rw [strOf_size]; have := mnL_len l; omega
 have hG : (strOf (mnL l ++ sgL E)).size ≤ 1000004 := by
  rw [strOf_size, List.length_append]
  have := mnL_len l
  omega
 have hF : strOf (mnL l ++ sgL E) ++ strOf (dL k) = strOf (scL l E) := by rw [strOf_append, ← hk]; rfl
 have CI := Lib.hid (fun W => ywhole_any k W (by omega))
 have hb := bl_strOf hl
 have hsz := strOf_size l
 have e1 : (strOf l).extract 0 1 = strOf (l.take 1) := by rw [ext_take, hb]
 have e2 : (strOf l).extract 1 l.length = strOf (l.drop 1) := by rw [← hsz, ext_drop, hb]
 have z1 : (strOf (l.take 1)).size = 1 := by rw [strOf_size, List.length_take]; omega
 have z2 : (strOf (l.take 1 ++ [46])).size = 2 := by rw [strOf_size, List.length_append, List.length_take]; simp; omega
 have z3 : (strOf (l.drop 1)).size ≤ 1000000 := by rw [strOf_size, List.length_drop]; omega
 have e3 : strOf (l.take 1) ++ ⟨#[46]⟩ = strOf (l.take 1 ++ [46]) := by rw [dot_str, strOf_append]
 have hYY : ¬ l.length ≤ 1 → strOf (l.take 1 ++ [46]) ++ strOf (l.drop 1) = strOf (mnL l) := by
  intro h
  rw [strOf_append]
  unfold mnL
  rw [if_neg h, List.append_assoc, List.singleton_append]
 have hY1 : l.length ≤ 1 → strOf (l.take 1) = strOf (mnL l) := by
  intro h
  unfold mnL
  rw [if_pos h, List.take_of_length_le h]
 by_cases hE : E < 0
 ·have hs : strOf (mnL l) ++ (⟨#[101, 45]⟩ : ByteArray) = strOf (mnL l ++ sgL E) := by
   unfold sgL
   rw [if_pos hE, ← strOf_append]
   rfl
  by_cases hL : l.length ≤ 1
  ·exact yexponent_10 _ _ _ _ _ _ l.length k E w hsz (by omega) (by omega) (by omega) (by omega) e1 (hY1 hL) (Lib.hid hY) hs (Lib.hid hG) (Lib.hid hI) hF CI
  ·exact yexponent_11 _ _ _ _ _ _ _ _ l.length k E w hsz (by omega) (by omega) (by omega) (by omega) hn e1 (Lib.hid z1) e3 (Lib.hid z2) e2 (Lib.hid z3) (hYY hL) (Lib.hid hY) hs (Lib.hid hG) (Lib.hid hI) hF CI
 ·have hs : strOf (mnL l) ++ (⟨#[101, 43]⟩ : ByteArray) = strOf (mnL l ++ sgL E) := by
   unfold sgL
   rw [if_neg hE, ← strOf_append]
   rfl
  by_cases hL : l.length ≤ 1
  ·exact yexponent_00 _ _ _ _ _ _ l.length k E w hsz (by omega) (by omega) (by omega) e1 (hY1 hL) (Lib.hid hY) hs (Lib.hid hG) (Lib.hid hI) hF CI
  ·exact yexponent_01 _ _ _ _ _ _ _ _ l.length k E w hsz (by omega) (by omega) (by omega) hn e1 (Lib.hid z1) e3 (Lib.hid z2) e2 (Lib.hid z3) (hYY hL) (Lib.hid hY) hs (Lib.hid hG) (Lib.hid hI) hF CI

end Go.Proofs.YtfcpkdafkmohkaaGreatDoor
namespace Go.Proofs.YtfcpkdafkmohkaaGreatDoor
open Go.RowKit
def AmtOf (x y : Nat) : Prop := y = rung x ∨ (rung x = 0 ∧ y = x)
end Go.Proofs.YtfcpkdafkmohkaaGreatDoor
namespace Go.Proofs.YtfcpkdafkmohkaaGreatDoor
open Go.RowKit
theorem ytext_nan (x : Nat) (w : World)
  (CN : Hid (∀ W, Cq 34 #[.float .f64 x] (.bool true) W)) :
  Cq 45 #[.float .f64 x] (.string ⟨#[78, 97, 78]⟩) w := by
 go_enter Tryz.func45, Tryz.ntmps45
 go_wp2_with fail
 refine (CN.out _).mono ?_
 rintro e w' ⟨rfl, rfl⟩
 go_wp2
 go_ret
 exact ⟨rfl, rfl⟩
theorem ytext_zero (x : Nat) (w : World) (t0 : (FloatKind.f64.format.order x 0 == some .eq) = true)
  (CN : Hid (∀ W, Cq 34 #[.float .f64 x] (.bool false) W)) :
  Cq 45 #[.float .f64 x] (.string ⟨#[48]⟩) w := by
 go_enter Tryz.func45, Tryz.ntmps45
 go_wp2_with fail
 refine (CN.out _).mono ?_
 rintro e w' ⟨rfl, rfl⟩
 go_wp2
 go_ret
 exact ⟨rfl, rfl⟩
theorem ytext_inf (x : Nat) (w : World) (t0 : (FloatKind.f64.format.order x 0 == some .eq) = false) (t1 : (FloatKind.f64.format.order x 0 == some .lt) = false)
  (CN : Hid (∀ W, Cq 34 #[.float .f64 x] (.bool false) W))
  (CI : Hid (∀ W, Cq 36 #[.float .f64 x, .int .i64 1] (.bool true) W)) :
  Cq 45 #[.float .f64 x] (.string ⟨#[73, 110, 102, 105, 110, 105, 116, 121]⟩) w := by
 go_enter Tryz.func45, Tryz.ntmps45
 go_wp2_with fail
 refine (CN.out _).mono ?_
 rintro e w' ⟨rfl, rfl⟩
 go_wp2_with fail
 refine (CI.out _).mono ?_
 rintro e w' ⟨rfl, rfl⟩
 go_wp2
 go_ret
 exact ⟨rfl, rfl⟩
theorem ytext_neg (x y : Nat) (S F : ByteArray) (w : World) (t0 : (FloatKind.f64.format.order x 0 == some .eq) = false) (t1 : (FloatKind.f64.format.order x 0 == some .lt) = true)
  (r3 : ∀ W, (Op.unary UnOp.neg (.float .f64 x)).run Tryz.prog W = .ok (.float .f64 y) W)
  (CN : Hid (∀ W, Cq 34 #[.float .f64 x] (.bool false) W))
  (CT : Hid (∀ W, Ct 45 #[.float .f64 y] (.string S) W)) (hS : Hid (S.size ≤ 1000000)) (hF : ⟨#[45]⟩ ++ S = F) :
  Ct 45 #[.float .f64 x] (.string F) w := by
 have g1 : ¬ 9223372036854775807 < 1 + S.size := by have := hS.out; omega
 go_enter Tryz.func45, Tryz.ntmps45
 go_wp2_with fail
 refine (CN.out _).mono ?_
 rintro e w' ⟨rfl, rfl⟩
 go_wp2_with fail
 refine (CT.out _).mono ?_
 rintro e w2 ⟨rfl, b2⟩
 have B2 := Lib.hid b2
 clear b2
 go_wp2
 go_ret
 exact ⟨rfl, B2.out⟩
set_option maxRecDepth 100000 in
set_option maxHeartbeats 1000000 in
theorem ytext_whole (x : Nat) (N : Int) (n z : Nat) (Z : ByteArray) (S F : ByteArray) (w : World) (t0 : (FloatKind.f64.format.order x 0 == some .eq) = false) (t1 : (FloatKind.f64.format.order x 0 == some .lt) = false) (hn : S.size = n) (h1 : (n : Int) ≤ N) (h2 : N ≤ 21) (hz : N - (n : Int) = (z : Int)) (hZ : Hid (Z.size ≤ 1000)) (hF : S ++ Z = F)
  (CR : Hid (∀ W, Cq 65 #[.int .i64 z] (.string Z) W))
  (CN : Hid (∀ W, Cq 34 #[.float .f64 x] (.bool false) W))
  (CI : Hid (∀ W, Cq 36 #[.float .f64 x, .int .i64 1] (.bool false) W))
  (C : Hid (∀ W, Ct 42 #[.float .f64 x] (.tuple #[.string S, .int .i64 N]) W)) :
  Ct 45 #[.float .f64 x] (.string F) w := by
 have g1 : ¬ 9223372036854775807 < n + Z.size := by have := hZ.out; omega
 have hzz := Lib.hid hz
 have h6 : 0 ≤ (n : Int) := by omega
 go_enter Tryz.func45, Tryz.ntmps45
 go_wp2_with fail
 refine (CN.out _).mono ?_
 rintro e w' ⟨rfl, rfl⟩
 go_wp2_with fail
 refine (CI.out _).mono ?_
 rintro e w' ⟨rfl, rfl⟩
 go_wp2_with fail
 refine (C.out _).mono ?_
 rintro e w1 ⟨rfl, b1'⟩
 have B1 := Lib.hid b1'
 clear b1'
 go_wp2_with fail
 refine (CR.out _).mono ?_
 rintro e w' ⟨rfl, rfl⟩
 go_wp2
 go_ret
 exact ⟨rfl, B1.out⟩
set_option maxRecDepth 100000 in
set_option maxHeartbeats 1000000 in
theorem ytext_point (x : Nat) (N : Int) (n j : Nat) (H D T : ByteArray) (S F : ByteArray) (w : World) (t0 : (FloatKind.f64.format.order x 0 == some .eq) = false) (t1 : (FloatKind.f64.format.order x 0 == some .lt) = false) (hn : S.size = n) (hj : N = (j : Int)) (h0 : 0 < j) (h1 : j < n) (h2 : j ≤ 21) (hH : S.extract 0 j = H) (hHs : Hid (H.size ≤ 1000)) (hD : H ++ ⟨#[46]⟩ = D) (hDs : Hid (D.size ≤ 1001)) (hT : S.extract j n = T) (hTs : Hid (T.size ≤ 1000)) (hF : D ++ T = F)
  (CN : Hid (∀ W, Cq 34 #[.float .f64 x] (.bool false) W))
  (CI : Hid (∀ W, Cq 36 #[.float .f64 x, .int .i64 1] (.bool false) W))
  (C : Hid (∀ W, Ct 42 #[.float .f64 x] (.tuple #[.string S, .int .i64 N]) W)) :
  Ct 45 #[.float .f64 x] (.string F) w := by
 subst hj
 have t2 : ¬ (n : Int) ≤ (j : Int) := by omega
 have t2' : decide (n ≤ j) = false := decide_eq_false (by omega)
 have t3 : 0 < (j : Int) := by omega
 have t4 : (j : Int) ≤ 21 := by omega
 have t5 : (j : Int) ≤ (n : Int) := by omega
 have t6 : 0 ≤ (j : Int) := by omega
 have g1 : ¬ 9223372036854775807 < H.size + 1 := by have := hHs.out; omega
 have g2 : ¬ 9223372036854775807 < D.size + T.size := by have := hDs.out; have := hTs.out; omega
 go_enter Tryz.func45, Tryz.ntmps45
 go_wp2_with fail
 refine (CN.out _).mono ?_
 rintro e w' ⟨rfl, rfl⟩
 go_wp2_with fail
 refine (CI.out _).mono ?_
 rintro e w' ⟨rfl, rfl⟩
 go_wp2_with fail
 refine (C.out _).mono ?_
 rintro e w1 ⟨rfl, b1'⟩
 have B1 := Lib.hid b1'
 clear b1'
 go_wp2_with fail
 clear hHs hDs hTs h0 h1 h2
 go_quiet (fail)
 go_wp2
 go_ret
 exact ⟨rfl, below_drewN' B1.out _⟩
set_option maxRecDepth 100000 in
set_option maxHeartbeats 1000000 in
theorem ytext_low (x : Nat) (N : Int) (n z : Nat) (Z D : ByteArray) (S F : ByteArray) (w : World) (t0 : (FloatKind.f64.format.order x 0 == some .eq) = false) (t1 : (FloatKind.f64.format.order x 0 == some .lt) = false) (hn : S.size = n) (hn1 : 1 ≤ n) (hn2 : n ≤ 1000) (h1 : -6 < N) (h2 : N ≤ 0) (hz : -N = (z : Int)) (hZ : Hid (Z.size ≤ 1000)) (hD : ⟨#[48, 46]⟩ ++ Z = D) (hDs : Hid (D.size ≤ 1002)) (hF : D ++ S = F)
  (CR : Hid (∀ W, Cq 65 #[.int .i64 z] (.string Z) W))
  (CN : Hid (∀ W, Cq 34 #[.float .f64 x] (.bool false) W))
  (CI : Hid (∀ W, Cq 36 #[.float .f64 x, .int .i64 1] (.bool false) W))
  (C : Hid (∀ W, Ct 42 #[.float .f64 x] (.tuple #[.string S, .int .i64 N]) W)) :
  Ct 45 #[.float .f64 x] (.string F) w := by
 have g1 : ¬ 9223372036854775807 < 2 + Z.size := by have := hZ.out; omega
 have g2 : ¬ 9223372036854775807 < D.size + n := by have := hDs.out; omega
 have hzz := Lib.hid hz
 have t2 : ¬ (n : Int) ≤ N := by omega
 have t3 : ¬ 0 < N := by omega
 have h6 : 0 ≤ (n : Int) := by omega
 go_enter Tryz.func45, Tryz.ntmps45
 go_wp2_with fail
 refine (CN.out _).mono ?_
 rintro e w' ⟨rfl, rfl⟩
 go_wp2_with fail
 refine (CI.out _).mono ?_
 rintro e w' ⟨rfl, rfl⟩
 go_wp2_with fail
 refine (C.out _).mono ?_
 rintro e w1 ⟨rfl, b1'⟩
 have B1 := Lib.hid b1'
 clear b1'
 go_wp2_with fail
 refine (CR.out _).mono ?_
 rintro e w' ⟨rfl, rfl⟩
 go_wp2
 go_ret
 exact ⟨rfl, B1.out⟩
set_option maxRecDepth 100000 in
set_option maxHeartbeats 1000000 in
theorem ytext_high (x : Nat) (N : Int) (n : Nat) (S F : ByteArray) (w : World) (t0 : (FloatKind.f64.format.order x 0 == some .eq) = false) (t1 : (FloatKind.f64.format.order x 0 == some .lt) = false) (hn : S.size = n) (b1 : N ≤ 1000) (h1 : 21 < N)
  (CE : Hid (∀ W, Ct 63 #[.string S, .int .i64 (N - 1)] (.string F) W))
  (CN : Hid (∀ W, Cq 34 #[.float .f64 x] (.bool false) W))
  (CI : Hid (∀ W, Cq 36 #[.float .f64 x, .int .i64 1] (.bool false) W))
  (C : Hid (∀ W, Ct 42 #[.float .f64 x] (.tuple #[.string S, .int .i64 N]) W)) :
  Ct 45 #[.float .f64 x] (.string F) w := by
 have t4 : ¬ N ≤ 21 := by omega
 have t3 : 0 < N := by omega
 have t5 : ¬ N ≤ 0 := by omega
 have t6 : -6 < N := by omega
 by_cases hw : (n : Int) ≤ N
 ·skip
  go_enter Tryz.func45, Tryz.ntmps45
  go_wp2_with fail
  refine (CN.out _).mono ?_
  rintro e w' ⟨rfl, rfl⟩
  go_wp2_with fail
  refine (CI.out _).mono ?_
  rintro e w' ⟨rfl, rfl⟩
  go_wp2_with fail
  refine (C.out _).mono ?_
  rintro e w1 ⟨rfl, b1'⟩
  have B1 := Lib.hid b1'
  clear b1'
  go_wp2_with fail
  refine (CE.out _).mono ?_
  rintro e w2 ⟨rfl, b2'⟩
  have B2 := Lib.hid (below_le B1.out b2')
  clear b2'
  go_wp2
  go_ret
  exact ⟨rfl, B2.out⟩
 ·skip
  go_enter Tryz.func45, Tryz.ntmps45
  go_wp2_with fail
  refine (CN.out _).mono ?_
  rintro e w' ⟨rfl, rfl⟩
  go_wp2_with fail
  refine (CI.out _).mono ?_
  rintro e w' ⟨rfl, rfl⟩
  go_wp2_with fail
  refine (C.out _).mono ?_
  rintro e w1 ⟨rfl, b1'⟩
  have B1 := Lib.hid b1'
  clear b1'
  go_wp2_with fail
  refine (CE.out _).mono ?_
  rintro e w2 ⟨rfl, b2'⟩
  have B2 := Lib.hid (below_le B1.out b2')
  clear b2'
  go_wp2
  go_ret
  exact ⟨rfl, B2.out⟩
set_option maxRecDepth 100000 in
set_option maxHeartbeats 1000000 in
theorem ytext_tiny (x : Nat) (N : Int) (n : Nat) (S F : ByteArray) (w : World) (t0 : (FloatKind.f64.format.order x 0 == some .eq) = false) (t1 : (FloatKind.f64.format.order x 0 == some .lt) = false) (hn : S.size = n) (hn1 : 1 ≤ n) (hn2 : n ≤ 1000) (b1 : -1000 ≤ N) (h1 : N ≤ -6)
  (CE : Hid (∀ W, Ct 63 #[.string S, .int .i64 (N - 1)] (.string F) W))
  (CN : Hid (∀ W, Cq 34 #[.float .f64 x] (.bool false) W))
  (CI : Hid (∀ W, Cq 36 #[.float .f64 x, .int .i64 1] (.bool false) W))
  (C : Hid (∀ W, Ct 42 #[.float .f64 x] (.tuple #[.string S, .int .i64 N]) W)) :
  Ct 45 #[.float .f64 x] (.string F) w := by
 have t2 : ¬ (n : Int) ≤ N := by omega
 have t3 : ¬ 0 < N := by omega
 have t6 : ¬ -6 < N := by omega
 go_enter Tryz.func45, Tryz.ntmps45
 go_wp2_with fail
 refine (CN.out _).mono ?_
 rintro e w' ⟨rfl, rfl⟩
 go_wp2_with fail
 refine (CI.out _).mono ?_
 rintro e w' ⟨rfl, rfl⟩
 go_wp2_with fail
 refine (C.out _).mono ?_
 rintro e w1 ⟨rfl, b1'⟩
 have B1 := Lib.hid b1'
 clear b1'
 go_wp2_with fail
 refine (CE.out _).mono ?_
 rintro e w2 ⟨rfl, b2'⟩
 have B2 := Lib.hid (below_le B1.out b2')
 clear b2'
 go_wp2
 go_ret
 exact ⟨rfl, B2.out⟩

end Go.Proofs.YtfcpkdafkmohkaaGreatDoor
namespace Go.Proofs.YtfcpkdafkmohkaaGreatDoor
open Go.RowKit
theorem wd_hi {x : Nat} (hx : x < 18446744073709551616) (h : fneg x = true) : x = 9223372036854775808 + rung x := by
 unfold fneg at h
 have h1 := of_decide_eq_true (by simpa using h : decide (x / 9223372036854775808 % 2 = 1) = true)
 unfold rung
 omega
theorem negW_hi {r : Nat} (h : r < 9223372036854775808) : negW (9223372036854775808 + r) = r := by
 have h1 := negW_eq h
 have h2 : (9223372036854775808 + r) ^^^ 9223372036854775808 = r := by
  have h3 : r ^^^ 9223372036854775808 = 9223372036854775808 + r := h1
  rw [← h3, Nat.xor_assoc, Nat.xor_self, Nat.xor_zero]
 exact h2
theorem pt_in {l : List Nat} {j : Nat} (h0 : 0 < j) (h : j < l.length) : ptL l (l.length - j) = l.take j ++ 46 :: l.drop j := by
 unfold ptL
 rw [if_neg (by omega), show l.length - j + 1 - l.length = 0 by omega, List.replicate_zero, List.nil_append, show 0 + l.length - (l.length - j) = j by omega]
theorem pt_out (l : List Nat) (z : Nat) (h : 0 < l.length) : ptL l (l.length + z) = 48 :: 46 :: (List.replicate z 48 ++ l) := by
 unfold ptL
 rw [if_neg (by omega), show l.length + z + 1 - l.length = z + 1 by omega, show z + 1 + l.length - (l.length + z) = 1 by omega, List.replicate_succ, List.cons_append, List.take_succ_cons, List.take_zero, List.drop_succ_cons, List.drop_zero]
 rfl
theorem ytext_pos {r : Nat} {L : List Nat} {w : World} (hr : r < 9218868437227405312) (h : PlQ r L) :
  Ct 45 #[.float .f64 r] (.string (strOf L)) w := by
 have CN := Lib.hid (fun W => isNaN_any r W)
 have CI := Lib.hid (fun W => isInf1_any r W)
 have e1 : rung r = r := (frank_pos (x := r) (by omega)).2
 rw [show fnan r = false from decide_eq_false (by rw [e1]; omega)] at CN
 rw [show finf r = false from decide_eq_false (by rw [e1]; omega), Bool.false_and] at CI
 rcases h with ⟨rfl, rfl⟩ | ⟨h0, D, N, hq, rfl⟩
 ·refine (ytext_zero 0 w (by rw [ord_eq_pos (by omega) (by omega)]; rfl) CN).mono ?_
  rintro e w' ⟨rfl, rfl⟩
  exact ⟨rfl, Below.refl _ _⟩
 ·obtain ⟨b1, b2, b3, b4, b5⟩ := hq.bd h0 hr
  have t0 : (FloatKind.f64.format.order r 0 == some .eq) = false := by rw [ord_eq_pos (by omega) (by omega)]; exact decide_eq_false (by omega)
  have t1 : (FloatKind.f64.format.order r 0 == some .lt) = false := by rw [ord_lt_pos (by omega) (by omega)]; exact decide_eq_false (by omega)
  have C := Lib.hid (fun W => yDigits_is (w := W) h0 hr hq)
  have CE := Lib.hid (fun W => yexponent_any D (N - 1) W b5 b3 (by omega) (by omega) (by omega))
  have hb := bl_strOf b5
  have hsz := strOf_size D
  unfold plL
  by_cases h1 : N ≤ -6
  ·rw [if_pos (.inl h1)]
   exact ytext_tiny r N D.length _ _ w t0 t1 hsz b3 (by omega) (by omega) h1 CE CN CI C
  ·by_cases h2 : 21 < N
   ·rw [if_pos (.inr h2)]
    exact ytext_high r N D.length _ _ w t0 t1 hsz (by omega) h2 CE CN CI C
   ·rw [if_neg (by omega)]
    by_cases h3 : (D.length : Int) ≤ N
    ·rw [if_pos h3]
     exact ytext_whole r N D.length (N - D.length).toNat (strOf (List.replicate (N - D.length).toNat 48)) _ _ w t0 t1 hsz h3 (by omega) (by omega) (Lib.hid (by rw [strOf_size, List.length_replicate]; omega)) (strOf_append _ _) (Lib.hid fun W => (ynoughts_any _ W (by omega)).mono fun e w' h => ⟨h.1, h.2⟩) CN CI C
    ·rw [if_neg h3]
     by_cases h4 : N ≤ 0
     ·obtain ⟨z, hz⟩ : ∃ z : Nat, -N = (z : Int) := ⟨(-N).toNat, by omega⟩
      rw [show ((D.length : Int) - N).toNat = D.length + z by omega, pt_out D z b3]
      refine ytext_low r N D.length z (strOf (List.replicate z 48)) (strOf (48 :: 46 :: List.replicate z 48)) _ _ w t0 t1 hsz b3 (by omega) (by omega) h4 hz (Lib.hid (by rw [strOf_size, List.length_replicate]; omega)) ?_ (Lib.hid (by rw [strOf_size, List.length_cons, List.length_cons, List.length_replicate]; omega)) ?_ (Lib.hid fun W => (ynoughts_any _ W (by omega)).mono fun e w' h => ⟨h.1, h.2⟩) CN CI C
      ·rw [show (⟨#[48, 46]⟩ : ByteArray) = strOf [48, 46] from rfl, strOf_append]; rfl
      ·rw [strOf_append]; rfl
     ·obtain ⟨j, hj⟩ : ∃ j : Nat, N = (j : Int) := ⟨N.toNat, by omega⟩
      rw [show ((D.length : Int) - N).toNat = D.length - j by omega, pt_in (by omega) (by omega)]
      refine ytext_point r N D.length j (strOf (D.take j)) (strOf (D.take j ++ [46])) (strOf (D.drop j)) _ _ w t0 t1 hsz hj (by omega) (by omega) (by omega) (by rw [ext_take, hb]) (Lib.hid (by rw [strOf_size, List.length_take]; omega)) (by rw [dot_str, strOf_append]) (Lib.hid (by rw [strOf_size, List.length_append, List.length_take, List.length_singleton]; omega)) (by rw [← hsz, ext_drop, hb]) (Lib.hid (by rw [strOf_size, List.length_drop]; omega)) ?_ CN CI C
      rw [strOf_append, List.append_assoc, List.singleton_append]
theorem ytext_any {x : Nat} {L : List Nat} {w : World} (hx : x < 18446744073709551616) (h : TxQ x L) :
  Ct 45 #[.float .f64 x] (.string (strOf L)) w := by
 have CN := Lib.hid (fun W => isNaN_any x W)
 rcases h with ⟨h1, rfl⟩ | ⟨h1, h2, rfl⟩ | ⟨h1, h2, l, h3, rfl⟩
 ·rw [h1] at CN
  refine (ytext_nan x w CN).mono ?_
  rintro e w' ⟨rfl, rfl⟩
  exact ⟨rfl, Below.refl _ _⟩
 ·rw [h1] at CN
  have hr : rung x = 9218868437227405312 := of_decide_eq_true h2
  have pos : ∀ W, Cq 45 #[.float .f64 9218868437227405312] (.string (strOf infL)) W := fun W =>
   ytext_inf 9218868437227405312 W (by rw [ord_eq_pos (by omega) (by omega)]; rfl) (by rw [ord_lt_pos (by omega) (by omega)]; rfl) (Lib.hid fun W => isNaN_any _ W) (Lib.hid fun W => isInf1_any _ W)
  unfold sgx ngB
  cases hn : fneg x
  ·have : x = 9218868437227405312 := by
    rw [← hr]
    unfold fneg at hn
    unfold rung
    simp at hn
    omega
   subst this
   refine (pos w).mono ?_
   rintro e w' ⟨rfl, rfl⟩
   exact ⟨rfl, Below.refl _ _⟩
  ·have hw := wd_hi hx hn
   rw [hr] at hw
   subst hw
   rw [Bool.true_and, if_pos (decide_eq_true (by omega))]
   refine ytext_neg _ 9218868437227405312 (strOf infL) _ w (by decide) (by decide) (fun W => by
    have h3 : (Op.unary UnOp.neg (.float .f64 (9223372036854775808 + 9218868437227405312))).run Tryz.prog W = .ok (.float .f64 (negW (9223372036854775808 + 9218868437227405312))) W := rfl
    rw [negW_hi (by omega)] at h3
    exact h3) CN (Lib.hid fun W => (pos W).mono fun e w' h => ⟨h.1, h.2 ▸ Below.refl _ _⟩) (Lib.hid (by decide)) ?_
   rw [show (⟨#[45]⟩ : ByteArray) = strOf [45] from rfl, strOf_append]
 ·rw [h1] at CN
  have hr := fin_rung h1 h2
  have hp := fun W => ytext_pos (w := W) hr h3
  obtain ⟨l1, l2⟩ := PlQ.bd hr h3
  unfold sgx ngB
  cases hn : fneg x
  ·have : rung x = x := by
    unfold fneg at hn
    unfold rung
    simp at hn
    omega
   rw [this] at hp
   exact hp w
  ·have hw := wd_hi hx hn
   rcases Nat.eq_zero_or_pos (rung x) with h0 | h0
   ·rw [Bool.true_and, if_neg (by rw [h0]; decide)]
    rw [h0] at h3 hw
    rcases h3 with ⟨_, rfl⟩ | ⟨h4, _⟩
    ·subst hw
     refine (ytext_zero _ w (by decide) CN).mono ?_
     rintro e w' ⟨rfl, rfl⟩
     exact ⟨rfl, Below.refl _ _⟩
    ·omega
   ·rw [Bool.true_and, if_pos (decide_eq_true h0)]
    have hlt := ord_neg x
    rw [h1] at hlt
    have hg : ngB x = true := by unfold ngB; rw [hn, decide_eq_true h0]; rfl
    rw [hg] at hlt
    refine ytext_neg x (rung x) (strOf l) _ w ?_ hlt (fun W => by
     have h4 : (Op.unary UnOp.neg (.float .f64 x)).run Tryz.prog W = .ok (.float .f64 (negW x)) W := rfl
     rw [h4]
     conv => lhs; rw [hw]
     rw [negW_hi (by omega)]) CN (Lib.hid hp) (Lib.hid (by rw [strOf_size]; omega)) ?_
    ·have h5 := eq_of_beq hlt
     rw [h5]
     rfl
    ·rw [show (⟨#[45]⟩ : ByteArray) = strOf [45] from rfl, strOf_append]
theorem TxQ.bd {x : Nat} {L : List Nat} (h : TxQ x L) : (∀ c ∈ L, c < 256) ∧ L.length ≤ 2000 := by
 have hs : (∀ c ∈ sgx x, c < 256) ∧ (sgx x).length ≤ 1 := by
  unfold sgx
  split <;> simp
 rcases h with ⟨h1, rfl⟩ | ⟨h1, h2, rfl⟩ | ⟨h1, h2, l, h3, rfl⟩
 ·exact ⟨by simp, by simp⟩
 ·refine ⟨?_, by rw [List.length_append]; have : infL.length = 8 := rfl; omega⟩
  intro c hc
  rw [List.mem_append] at hc
  rcases hc with hc | hc
  ·exact hs.1 c hc
  ·exact (by decide : ∀ c ∈ infL, c < 256) c hc
 ·obtain ⟨l1, l2⟩ := PlQ.bd (fin_rung h1 h2) h3
  refine ⟨?_, by rw [List.length_append]; omega⟩
  intro c hc
  rw [List.mem_append] at hc
  rcases hc with hc | hc
  ·exact hs.1 c hc
  ·exact l1 c hc
theorem yText_any {x : Nat} {L : List Nat} {w : World} (hx : x < 18446744073709551616) (h : TxQ x L) :
  Ct 15 #[.float .f64 x] (.string (wdS L)) w := by
 have C := Lib.hid (fun W => ytext_any (w := W) hx h)
 obtain ⟨b1, b2⟩ := h.bd
 have CW := Lib.hid (fun W => vwide_any L W b1 (by omega))
 clear h b1 b2
 go_enter Tryz.func15, Tryz.ntmps15
 go_wp2_with fail
 refine (C.out _).mono ?_
 rintro e w1 ⟨rfl, b1⟩
 have B1 := Lib.hid b1
 clear b1
 go_wp2_with fail
 refine (CW.out _).mono ?_
 rintro e w2 ⟨rfl, b2⟩
 have B2 := Lib.hid (below_le B1.out b2)
 clear b2
 go_wp2
 go_ret
 exact ⟨rfl, B2.out⟩

end Go.Proofs.YtfcpkdafkmohkaaGreatDoor
namespace Go.Proofs.YtfcpkdafkmohkaaGreatDoor
open Go.RowKit
set_option maxRecDepth 100000 in
set_option maxHeartbeats 1000000 in
theorem tsigned_cap {T : Nat → List Nat → Prop} {x : Nat} {L : List Nat} {w : World} (f : FuncId) (pb : Addr) (hx : x < 18446744073709551616)
  (he : ∀ args (W : World), (callFunc f args).run Tryz.prog W = .ok (.enter f args) W)
  (hT : ∀ r l, r < 9218868437227405312 → T r l → (∀ c ∈ l, c < 256) ∧ l.length ≤ 99000 ∧ Ct f #[.float .f64 r, .pointer (some pb)] (.string (strOf l)) w)
  (h : SgQ T x L) : Ct 43 #[.float .f64 x, .func (Fn.func f) #[] #[.pointer (some pb)]] (.string (wdS L)) w := by
 have t0 := ord_neg x
 have CN := fun W => isNaN_any x W
 have CI := fun W => isInf0_any x W hx
 rcases h with ⟨h1, rfl⟩ | ⟨h1, h2, rfl⟩ | ⟨h1, h2, l, h3, rfl⟩
 ·rw [h1] at t0 CN
  exact tsigned_10nan x f pb _ w t0 (Lib.hid CN) (Lib.hid fun W => twide_any [78, 97, 78] W (by simp) (by simp))
 ·rw [h1] at t0 CN
  rw [h2] at CI
  unfold sgx
  cases hn : ngB x
  ·rw [hn] at t0
   exact tsigned_10inf x f pb _ w t0 (Lib.hid CN) (Lib.hid CI) (Lib.hid fun W => twide_any _ W (by decide) (by decide))
  ·rw [hn] at t0
   exact tsigned_11inf x f pb _ w t0 (Lib.hid CN) (Lib.hid CI) (Lib.hid fun W => twide_any _ W (by decide) (by decide))
 ·rw [h1] at t0 CN
  rw [h2] at CI
  obtain ⟨l1, l2, hc⟩ := hT _ l (fin_rung h1 h2) h3
  have CA := fun W => abs_any x W hx
  have CT : Hid (∀ W, W = w → Ct f #[.float .f64 (rung x), .pointer (some pb)] (.string (strOf l)) W) := Lib.hid (fun W hW => by
   subst hW
   exact hc)
  unfold sgx
  cases hn : ngB x
  ·rw [hn] at t0
   refine tsigned_10fin x f pb (strOf l) (strOf l) (rung x) _ w t0 (Lib.hid CN) (Lib.hid CI) (Lib.hid CA) he CT (Lib.hid (by rw [strOf_size]; omega)) ?_ (Lib.hid fun W => twide_any _ W l1 (by omega))
   rw [show (⟨#[]⟩ : ByteArray) = strOf [] from rfl, strOf_append]
   rfl
  ·rw [hn] at t0
   refine tsigned_11fin x f pb (strOf l) (strOf ([45] ++ l)) (rung x) _ w t0 (Lib.hid CN) (Lib.hid CI) (Lib.hid CA) he CT (Lib.hid (by rw [strOf_size]; omega)) ?_ (Lib.hid fun W => twide_any _ W ?_ ?_)
   ·rw [show (⟨#[45]⟩ : ByteArray) = strOf [45] from rfl, strOf_append]
   ·intro c hc
    rw [List.mem_append, List.mem_singleton] at hc
    rcases hc with rfl | hc
    ·omega
    ·exact l1 c hc
   ·rw [List.length_append, List.length_singleton]
    omega
theorem rung_lt (x : Nat) : rung x < 9223372036854775808 := by unfold rung; omega
end Go.Proofs.YtfcpkdafkmohkaaGreatDoor
