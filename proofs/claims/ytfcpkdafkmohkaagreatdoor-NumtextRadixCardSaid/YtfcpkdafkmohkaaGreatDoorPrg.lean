/-
  Merged texts (Rc, Zg, Rd, Zi, Zj, Rg).
-/
import Derived.Test.YtfcpkdafkmohkaaGreatDoorPrf
import Derived.Shelf.Strings.SlTrimAscii
import Derived.Shelf.Strings.Builder1
import Derived.Shelf.Strings.Builder2
import Derived.Shelf.Strings.OnBuilder
import Derived.Shelf.Strings.Trim
import Derived.Shelf.Small.Utf8
import Derived.Shelf.Small.Bits
import Derived.Shelf.Small.Strs
import Derived.Shelf.Small.Wraps
import Derived.Shelf.Strings.BuilderF
import Derived.Shelf.Strings.BuilderK
import Derived.Shelf.Strconv.Itoa0
import Derived.Shelf.Strconv.Itoa1
import Derived.Shelf.LaysM
import Derived.Shelf.Strconv.Itoa2
import Derived.Shelf.Strconv.Itoa3
import Derived.Shelf.Strings.Search1
import Derived.Shelf.Strings.Prefix
import Derived.Shelf.Unicode.Latin
import Derived.Shelf.Strings.Runes
import Derived.Shelf.Strings.AsciiSet
import Derived.Shelf.Bits.Mul64
import Derived.Shelf.Strings.Repeat
import Derived.Shelf.Unicode.DecodeSlow
import Derived.Shelf.Unicode.CaseLookup
import Derived.Shelf.Unicode.CaseConvert
import Derived.Shelf.Unicode.CaseTo
import Derived.Shelf.Unicode.CaseLaid
import Derived.Test.YtfcpkdafkmohkaaGreatDoorProg
import GoSem.Core.Utf8
import Derived.WalkKit
import Derived.WalkSpells
import Derived.WalkLawsBesides
import Derived.Deep.QuietTactic
import Derived.BigQuiet
import Derived.Lib.Hide
import Derived.Deep.OwnRows
import Derived.Laws.CopyOwn
import Derived.Deep.AppendLies
import Derived.Lib.BitFns
import Derived.Lib.Strings
import Derived.Laws.BitsAllLaws
import Derived.Lib.LaidTab
import Derived.ProofKit
import Derived.OpenShut
import Derived.SizedLaws
import Derived.Laws.BytesString
import Derived.Laws.Cells
import Derived.Deep.RegionWith
import Derived.BigRegion
import Derived.Test.YtfcpkdafkmohkaaGreatDoorRows
import Derived.Lib.ItoaNum
import Derived.Deep.DeepCutAuto
import Ieee.Arith
import GoSem.Core.Float
import Derived.Laws.FloatArith
import Derived.Laws.Externs
import Derived.Deep.RegionHeld3
import Derived.Laws.Closers25b
import Derived.Lib.SlTrimSet
import Derived.Lib.Case
import Derived.Deep.WholeRow
import Derived.Laws.Tables
import Derived.Laws.EntriesVeiled
import Derived.Lib.AppendIntMem
namespace Go.Proofs.YtfcpkdafkmohkaaGreatDoor
open Go.RowKit
theorem dstrip_ge {r : Nat} (hr : 0 < r) : ∀ l : List Nat, dstrip l ≠ [] → r ^ ((dstrip l).length - 1) ≤ dv r l
 | [], h => absurd rfl h
 | x :: l, h => by
  rw [dstrip] at h ⊢
  by_cases hc : x = 0 ∧ dstrip l = []
  ·rw [if_pos hc] at h
   exact absurd rfl h
  ·rw [if_neg hc, List.length_cons, Nat.add_sub_cancel, dv]
   by_cases hl : dstrip l = []
   ·rw [hl, List.length_nil, Nat.pow_zero]
    have : x ≠ 0 := fun k => hc ⟨k, hl⟩
    omega
   ·have ih := dstrip_ge hr l hl
    obtain ⟨j, hj⟩ : ∃ j, (dstrip l).length = j + 1 := ⟨(dstrip l).length - 1, by have := List.length_pos_iff.2 hl; omega⟩
    rw [hj, Nat.add_sub_cancel] at ih
    rw [hj, Nat.pow_succ, Nat.mul_comm]
    have := Nat.mul_le_mul_left r ih
    omega
theorem TextL.bd {r n : Nat} {L : List Nat} (hr : 2 ≤ r) (h36 : r ≤ 36) (h : TextL r n L) : (∀ c ∈ L, 48 ≤ c ∧ c < 128) ∧ L.length ≤ bln n + 1 ∧ 0 < L.length := by
 rcases h with ⟨rfl, rfl⟩ | ⟨h0, D, h1, rfl, rfl⟩
 ·exact ⟨by simp, by simp, by simp⟩
 ·have hne : dstrip D ≠ [] := fun h => by
   have := dstrip_nil (r := r) h
   omega
  have hl := List.length_pos_iff.2 hne
  refine ⟨?_, ?_, by rw [List.length_reverse, List.length_map]; exact hl⟩
  ·intro c hc
   rw [List.mem_reverse, List.mem_map] at hc
   obtain ⟨d, hd, rfl⟩ := hc
   have hdD : d ∈ D := by
    rw [dstrip_pad D]
    exact List.mem_append_left _ hd
   have hdr := h1 d hdD
   have := dch_lt (d := d) (by omega)
   refine ⟨?_, this⟩
   unfold dch
   split <;> omega
  ·have hge := dstrip_ge (r := r) (by omega) D hne
   have h2 : 2 ^ ((dstrip D).length - 1) ≤ r ^ ((dstrip D).length - 1) := Nat.pow_le_pow_left hr _
   have h3 := (bln_bounds h0).2.1
   have h4 := (Nat.pow_lt_pow_iff_right (a := 2) (by omega)).1 (Nat.lt_of_le_of_lt (Nat.le_trans h2 hge) h3)
   rw [List.length_reverse, List.length_map]
   omega
theorem pow_bln {r : Nat} (h36 : r ≤ 36) (k : Nat) : bln (r ^ k) ≤ 6 * k + 1 := by
 have h1 := bln_pow r k
 have h2 : bln r ≤ 6 := bln_le (by omega)
 have : bln r * k ≤ 6 * k := Nat.mul_le_mul_right _ h2
 omega
theorem radix_val {x m r : Nat} {two : Int} (h : PartG x m two) : m * r ^ 60 * 2 ^ two.toNat / (1 * 2 ^ (-two).toNat) = fmag x * r ^ 60 / big := by
 have hf := sc_facts h 0
 have e1 : vV 0 = big := by unfold vV; simp
 have e2 : vU x 0 = fmag x := by unfold vU; simp
 have e3 : scN m two 0 = m * 2 ^ two.toNat := by unfold scN; simp
 have e4 : scD two 0 = 2 ^ (-two).toNat := by unfold scD; simp
 rw [e1, e2, e3, e4] at hf
 rw [Nat.one_mul]
 refine (quot_cross (two_pos _) big_pos ?_).1
 generalize r ^ 60 = R
 have e5 : m * R * 2 ^ two.toNat * big = m * 2 ^ two.toNat * big * R := by grind
 rw [e5, hf]
 grind
theorem radix_split (x r : Nat) : fmag x * r ^ 60 / big = fmag x / big * r ^ 60 + fmag x % big * r ^ 60 / big := by
 have e := Nat.div_add_mod (fmag x) big
 have h1 : fmag x * r ^ 60 = big * (fmag x / big * r ^ 60) + fmag x % big * r ^ 60 := by
  generalize fmag x / big = a at *
  generalize fmag x % big = b at *
  rw [← e]
  grind
 rw [h1, Nat.mul_add_div big_pos]
theorem radix_bln {x m r : Nat} {two : Int} (h36 : r ≤ 36) (h : PartG x m two) : bln (m * r ^ 60 * 2 ^ two.toNat) ≤ 1500 ∧ bln (m * r ^ 60) ≤ 500 ∧ bln (1 * 2 ^ (-two).toNat) ≤ 1200 := by
 obtain ⟨b1, b2, b3⟩ := h.bd
 have p1 := pow_bln h36 60
 have p2 := bln_mul m (r ^ 60)
 have p3 := bln_mul (m * r ^ 60) (2 ^ two.toNat)
 have p4 := bln_pow2 two.toNat
 have p5 := bln_pow2 (-two).toNat
 rw [Nat.one_mul]
 omega
theorem rstL_bd {G : List Nat} (hG : ∀ c ∈ G, 48 ≤ c ∧ c < 128) : (∀ c ∈ rstL G, c < 256) ∧ (rstL G).length ≤ G.length + 1 := by
 unfold rstL
 split
 ·exact ⟨by simp, by simp⟩
 ·refine ⟨?_, by rw [List.length_cons]; have := trz_len G; omega⟩
  intro c hc
  rcases List.mem_cons.1 hc with rfl | hc
  ·omega
  ·have := hG c (trz_mem hc)
   omega
theorem gV_let {r D R : Nat} (hD : 0 < D) (hR : R < D) (hr : 2 ≤ r) (h36 : r ≤ 36) (k : Nat) : ∀ c ∈ (gV r D R k).map dch, 48 ≤ c ∧ c < 128 := by
 intro c hc
 rw [List.mem_map] at hc
 obtain ⟨d, hd, rfl⟩ := hc
 have := gV_lt hD k R hR (by omega) d hd
 refine ⟨?_, dch_lt (by omega)⟩
 unfold dch
 split <;> omega
theorem whole_bln {x : Nat} (hx : x < 9218868437227405312) : bln (fmag x / big) ≤ 1100 := by
 obtain ⟨m, two, hG, _⟩ := rparts_fix x hx
 have hf := sc_facts hG 0
 have e1 : vV 0 = big := by unfold vV; simp
 have e2 : vU x 0 = fmag x := by unfold vU; simp
 have e3 : scN m two 0 = m * 2 ^ two.toNat := by unfold scN; simp
 have e4 : scD two 0 = 2 ^ (-two).toNat := by unfold scD; simp
 rw [e1, e2, e3, e4] at hf
 rw [← (quot_cross (two_pos _) big_pos hf).1]
 obtain ⟨b1, b2, b3⟩ := hG.bd
 have p3 := bln_mul m (2 ^ two.toNat)
 have p4 := bln_pow2 two.toNat
 exact Nat.le_trans (bln_mono (Nat.div_le_self _ _)) (by omega)
theorem RxP.bd {r x : Nat} {l : List Nat} (hr : 2 ≤ r) (h36 : r ≤ 36) (hx : x < 9218868437227405312) (h : RxP r x l) : (∀ c ∈ l, c < 256) ∧ l.length ≤ 2000 := by
 obtain ⟨tq, h1, rfl⟩ := h
 obtain ⟨t1, t2, t3⟩ := h1.bd hr h36
 have hw := whole_bln hx
 obtain ⟨r1, r2⟩ := rstL_bd (gV_let big_pos (Nat.mod_lt (fmag x) big_pos) hr h36 60)
 rw [List.length_map, gV_len] at r2
 refine ⟨?_, by rw [List.length_append]; omega⟩
 intro c hc
 rcases List.mem_append.1 hc with hc | hc
 ·have := t1 c hc
  omega
 ·exact r1 c hc
theorem tinRadix_any {x r : Nat} {l : List Nat} {w : World} (hx : x < 9218868437227405312) (hr : 2 ≤ r) (h36 : r ≤ 36) (hz : TzTab w) (h : RxP r x l) :
  Ct 47 #[.float .f64 x, .int .i64 r] (.string (strOf l)) w := by
 obtain ⟨tq, h1, rfl⟩ := h
 obtain ⟨t1, t2, t3⟩ := h1.bd hr h36
 have hw := whole_bln hx
 have hmod := Nat.mod_lt (fmag x) big_pos
 obtain ⟨H, hH⟩ : ∃ H, fmag x * r ^ 60 / big = H := ⟨_, rfl⟩
 obtain ⟨L, hL⟩ := textL_ex hr H
 have hdv := gV_dv (r := r) big_pos 60 hmod
 have hsp := radix_split x r
 rw [← hdv, hH] at hsp
 have hL2 := hL
 rw [hsp] at hL2
 have hpt := ptL_text (k := 60) (by omega) (by omega) (gV_len r big 60 (fmag x % big)) (gV_lt big_pos 60 _ hmod (by omega)) h1 hL2
 obtain ⟨G, hG⟩ : ∃ G, (gV r big (fmag x % big) 60).map dch = G := ⟨_, rfl⟩
 have hlet := gV_let big_pos hmod hr h36 60
 have hlen : G.length = 60 := by rw [← hG, List.length_map, gV_len]
 rw [hG] at hpt hlet ⊢
 obtain ⟨l1, l2, l3⟩ := hL.bd hr h36
 have hLlen : L.length ≤ 3000 := by
  have := congrArg List.length hpt
  rw [ptL_len _ _ (by omega), List.length_append, List.length_cons, hlen] at this
  omega
 have hP256 : ∀ c ∈ tq ++ 46 :: G, c < 256 := by
  intro c hc
  rcases List.mem_append.1 hc with hc | hc
  ·have := t1 c hc
   omega
  ·rcases List.mem_cons.1 hc with rfl | hc
   ·omega
   ·have := hlet c hc
    omega
 have C8 := fun W => trimR48 (strOf (tq ++ 46 :: G)) W (by rw [strOf_size, List.length_append, List.length_cons]; omega)
 rw [bl_strOf hP256, trz_point] at C8
 have C7 : Hid (∀ W, Ct 55 #[.string (strOf L), .int .i64 60] (.string (strOf (tq ++ 46 :: G))) W) := Lib.hid (fun W => by
  have := tpointed_any L 60 W (fun c hc => by have := l1 c hc; omega) (by omega) (by omega)
  rw [hpt] at this
  exact this)
 have C1 : Hid (∀ W, W = w → Cp 54 #[.float .f64 x] W fun e w' => ∃ A, ∃ k : Nat, ∃ c m two, e = .returned (.tuple #[.slice A k c, .int .i64 two, .int .i64 0]) ∧ NV w' A k c m ∧ PartG x m two ∧ Below W.heap.size W w') := Lib.hid (fun W hW => by
  subst hW
  refine (pparts_g x W hx hz).mono ?_
  rintro e w' ⟨m, two, A, k, c, rfl, gA, gp, gb⟩
  exact ⟨A, k, c, m, two, rfl, gA, gp, gb⟩)
 have C2 := Lib.hid (fun W => npow r 60 W (by omega) (by have := pow_bln h36 60; omega) (by omega))
 have C3 : Hid (∀ W A (k : Nat) c C (j : Nat) d m two, PartG x m two → NV W A k c m → NV W C j d (r ^ 60) → Cp 108 #[.slice A k c, .slice C j d] W (NOk (m * r ^ 60) W)) := Lib.hid (fun W A k c C j d m two hp g1 g2 => nmul g1 g2 (by have := hp.bd.1; omega) (by have := pow_bln h36 60; omega))
 have C5 : Hid (∀ W A (k : Nat) c C (j : Nat) d m two, PartG x m two → NV W A k c (m * r ^ 60) → NV W C j d 1 → Cp 109 #[.slice A k c, .slice C j d, .int .i64 two] W fun e w' => ∃ A3, ∃ n3 : Nat, ∃ c3 b, e = .returned (.tuple #[.slice A3 n3 c3, .bool b]) ∧ NV w' A3 n3 c3 H ∧ Below W.heap.size W w') := Lib.hid (fun W A k c C j d m two hp g1 g2 => by
  obtain ⟨b1, b2, b3⟩ := hp.bd
  obtain ⟨q1, q2, q3⟩ := radix_bln h36 hp
  refine (tratio_any two g1 g2 (by omega) (by decide) (by omega) (by omega) (by omega)).mono ?_
  rintro e w' ⟨A3, n3, c3, rfl, gv, gb⟩
  rw [radix_val hp, hH] at gv
  exact ⟨A3, n3, c3, _, rfl, gv, gb⟩)
 have hHb : bln H ≤ 1500 := by
  obtain ⟨m, two, hp, _⟩ := rparts_fix x hx
  rw [← hH, ← radix_val hp]
  exact Nat.le_trans (bln_mono (Nat.div_le_self _ _)) (radix_bln h36 hp).1
 have C6 : Hid (∀ W A (k : Nat) c, NV W A k c H → Ct 111 #[.slice A k c, .int .i64 r] (.tuple #[.string (strOf L), .int .i64 0]) W) := Lib.hid (fun W A k c g => ntextr g hr h36 (by omega) hL)
 unfold rstL
 by_cases ht : trz G = []
 ·rw [if_pos ht] at C8 ⊢
  rw [List.append_nil]
  exact tinradix_walk hr h36 C1 C2 C3 C5 C6 C7 (Lib.hid C8) (Lib.hid fun W => trimdot_hit tq W (by omega))
 ·rw [if_neg ht] at C8 ⊢
  have htl := trz_len G
  exact tinradix_walk hr h36 C1 C2 C3 C5 C6 C7 (Lib.hid C8) (Lib.hid fun W => trimdot_miss tq (trz G) W (by omega) (by omega) ht (fun c hc => by have := hlet c (trz_mem hc); omega))
set_option maxRecDepth 100000 in
set_option maxHeartbeats 1000000 in
theorem tradix1_walk {x r : Nat} {pb : Addr} {F : ByteArray} {w : World} (hp : w.cell? pb = some (.int .i64 r))
  (C1 : Hid (∀ W, W = w → Ct 47 #[.float .f64 x, .int .i64 r] (.string F) W)) :
  Ct 46 #[.float .f64 x, .pointer (some pb)] (.string F) w := by
 go_enter Tryz.func46, Tryz.ntmps46
 go_wp2_with fail
 refine (C1.out _ rfl).mono ?_
 rintro e w2 ⟨rfl, b2⟩
 have B2 := Lib.hid b2
 clear b2
 go_wp2
 go_ret
 exact ⟨rfl, B2.out⟩
set_option maxRecDepth 100000 in
set_option maxHeartbeats 1000000 in
theorem tradix_bad (x : Nat) (d : Int) (w : World) (hd : d < 2 ∨ 36 < d) :
  Ct 17 #[.float .f64 x, .int .i64 d] (.tuple #[.string ⟨#[]⟩, .int .i64 1]) w := by
 rcases (show d < 2 ∨ (¬ d < 2 ∧ 36 < d) by omega) with h1 | ⟨h1, h2⟩
 all_goals
  go_enter Tryz.func17, Tryz.ntmps17
  go_wp2
  go_ret2
  exact ⟨rfl, (Below.refl _ _).alloc (Nat.le_refl _) _⟩
set_option maxRecDepth 100000 in
set_option maxHeartbeats 1000000 in
theorem tradix_ten (x : Nat) (F : ByteArray) (w : World)
  (CT : Hid (∀ W, Below w.heap.size w W → Ct 14 #[.float .f64 x] (.string F) W)) :
  Ct 17 #[.float .f64 x, .int .i64 10] (.tuple #[.string F, .int .i64 0]) w := by
 have B0 := Lib.hid ((Below.refl w.heap.size w).alloc (Nat.le_refl _) (.cells #[.int .i64 10] 3))
 go_enter Tryz.func17, Tryz.ntmps17
 go_wp2_with fail
 refine (CT.out _ B0.out).mono ?_
 rintro e w2 ⟨rfl, b2⟩
 have B2 := Lib.hid (below_le B0.out b2)
 clear b2
 go_wp2
 go_ret2
 exact ⟨rfl, B2.out⟩
set_option maxRecDepth 100000 in
set_option maxHeartbeats 1000000 in
theorem tradix_nan (x : Nat) (d : Int) (F : ByteArray) (w : World) (h1 : ¬ d < 2) (h2 : ¬ 36 < d) (h3 : (d == 10) = false)
  (CN : Hid (∀ W, Cq 34 #[.float .f64 x] (.bool true) W))
  (CT : Hid (∀ W, Below w.heap.size w W → Ct 14 #[.float .f64 x] (.string F) W)) :
  Ct 17 #[.float .f64 x, .int .i64 d] (.tuple #[.string F, .int .i64 0]) w := by
 have B0 := Lib.hid ((Below.refl w.heap.size w).alloc (Nat.le_refl _) (.cells #[.int .i64 d] 3))
 go_enter Tryz.func17, Tryz.ntmps17
 go_wp2_with fail
 refine (CN.out _).mono ?_
 rintro e w' ⟨rfl, rfl⟩
 go_wp2_with fail
 refine (CT.out _ B0.out).mono ?_
 rintro e w2 ⟨rfl, b2⟩
 have B2 := Lib.hid (below_le B0.out b2)
 clear b2
 go_wp2
 go_ret2
 exact ⟨rfl, B2.out⟩
set_option maxRecDepth 100000 in
set_option maxHeartbeats 1000000 in
theorem tradix_inf (x : Nat) (d : Int) (F : ByteArray) (w : World) (h1 : ¬ d < 2) (h2 : ¬ 36 < d) (h3 : (d == 10) = false)
  (CN : Hid (∀ W, Cq 34 #[.float .f64 x] (.bool false) W))
  (CI : Hid (∀ W, Cq 36 #[.float .f64 x, .int .i64 0] (.bool true) W))
  (CT : Hid (∀ W, Below w.heap.size w W → Ct 14 #[.float .f64 x] (.string F) W)) :
  Ct 17 #[.float .f64 x, .int .i64 d] (.tuple #[.string F, .int .i64 0]) w := by
 have B0 := Lib.hid ((Below.refl w.heap.size w).alloc (Nat.le_refl _) (.cells #[.int .i64 d] 3))
 go_enter Tryz.func17, Tryz.ntmps17
 go_wp2_with fail
 refine (CN.out _).mono ?_
 rintro e w' ⟨rfl, rfl⟩
 go_wp2_with fail
 refine (CI.out _).mono ?_
 rintro e w' ⟨rfl, rfl⟩
 go_wp2_with fail
 refine (CT.out _ B0.out).mono ?_
 rintro e w2 ⟨rfl, b2⟩
 have B2 := Lib.hid (below_le B0.out b2)
 clear b2
 go_wp2
 go_ret2
 exact ⟨rfl, B2.out⟩
set_option maxRecDepth 100000 in
set_option maxHeartbeats 1000000 in
theorem tradix_fin (x : Nat) (d : Int) (F : ByteArray) (w : World) (h1 : ¬ d < 2) (h2 : ¬ 36 < d) (h3 : (d == 10) = false)
  (CN : Hid (∀ W, Cq 34 #[.float .f64 x] (.bool false) W))
  (CI : Hid (∀ W, Cq 36 #[.float .f64 x, .int .i64 0] (.bool false) W))
  (CS : Hid (∀ W pb, Below w.heap.size w W → W.cell? pb = some (.int .i64 d) → Ct 43 #[.float .f64 x, .func (Fn.func 46) #[] #[.pointer (some pb)]] (.string F) W)) :
  Ct 17 #[.float .f64 x, .int .i64 d] (.tuple #[.string F, .int .i64 0]) w := by
 have hmf : ∀ (fn : Fn) (first cap : Array Value) (w : World), (Instr.makeFunc fn first cap).run Tryz.prog w = .ok (.func fn first cap) w := fun _ _ _ _ => rfl
 have B0 := Lib.hid ((Below.refl w.heap.size w).alloc (Nat.le_refl _) (.cells #[.int .i64 d] 3))
 have hc : (w.alloc (.cells #[.int .i64 d] 3)).cell? ⟨w.heap.size, 0, none⟩ = some (.int .i64 d) := by rw [World.cell?_alloc_new]; rfl
 have HC := Lib.hid hc
 clear hc
 go_enter Tryz.func17, Tryz.ntmps17
 go_wp2_with fail
 refine (CN.out _).mono ?_
 rintro e w' ⟨rfl, rfl⟩
 go_wp2_with fail
 refine (CI.out _).mono ?_
 rintro e w' ⟨rfl, rfl⟩
 go_wp2_with fail
 refine (CS.out _ _ B0.out HC.out).mono ?_
 rintro e w2 ⟨rfl, b2⟩
 have B2 := Lib.hid (below_le B0.out b2)
 clear b2
 go_wp2
 go_ret2
 exact ⟨rfl, B2.out⟩
def RdR (x : Nat) (d : Int) (S : ByteArray) (K : Int) : Prop :=
 ((d < 2 ∨ 36 < d) ∧ S = ⟨#[]⟩ ∧ K = 1) ∨ (¬ (d < 2 ∨ 36 < d) ∧ K = 0 ∧ ∃ L, S = wdS L ∧ (((d = 10 ∨ fnan x = true ∨ finf x = true) ∧ TxQ x L) ∨ (d ≠ 10 ∧ fnan x = false ∧ finf x = false ∧ ∃ l, RxP d.toNat (rung x) l ∧ L = sgx x ++ l)))
theorem rdr_ex (x : Nat) (d : Int) : ∃ S K, RdR x d S K := by
 by_cases hd : d < 2 ∨ 36 < d
 ·exact ⟨_, _, .inl ⟨hd, rfl, rfl⟩⟩
 ·by_cases h : d = 10 ∨ fnan x = true ∨ finf x = true
  ·obtain ⟨L, hL⟩ := txq_ex x
   exact ⟨_, _, .inr ⟨hd, rfl, L, rfl, .inl ⟨h, hL⟩⟩⟩
  ·obtain ⟨l, hl⟩ := rxp_ex (r := d.toNat) (by omega) (rung x)
   refine ⟨_, _, .inr ⟨hd, rfl, _, rfl, .inr ⟨fun k => h (.inl k), ?_, ?_, l, hl, rfl⟩⟩⟩
   ·cases h1 : fnan x
    ·rfl
    ·exact absurd (.inr (.inl h1)) h
   ·cases h1 : finf x
    ·rfl
    ·exact absurd (.inr (.inr h1)) h
theorem tRadix_any {x : Nat} {d : Int} {S : ByteArray} {K : Int} {w : World} (hx : x < 18446744073709551616) (ht : Tab10 w) (hz : TzTab w) (h : RdR x d S K) :
  Ct 17 #[.float .f64 x, .int .i64 d] (.tuple #[.string S, .int .i64 K]) w := by
 have CN := fun W => isNaN_any x W
 have CI := fun W => isInf0_any x W hx
 rcases h with ⟨hd, rfl, rfl⟩ | ⟨hd, rfl, L, rfl, ⟨h1, hL⟩ | ⟨h1, h2, h3, l, hl, rfl⟩⟩
 ·exact tradix_bad x d w hd
 ·have CT : Hid (∀ W, Below w.heap.size w W → Ct 14 #[.float .f64 x] (.string (wdS L)) W) := Lib.hid fun W hW => tText_any hx (ht.on hW) (tz_on hz hW) hL
  by_cases h10 : d = 10
  ·subst h10
   exact tradix_ten x _ w CT
  ·have h3 : (d == 10) = false := by rw [beq_eq_false_iff_ne]; exact h10
   cases h4 : fnan x
   ·have h5 : finf x = true := (h1.resolve_left h10).resolve_left (by rw [h4]; simp)
    rw [h4] at CN
    rw [h5] at CI
    exact tradix_inf x d _ w (by omega) (by omega) h3 (Lib.hid CN) (Lib.hid CI) CT
   ·rw [h4] at CN
    exact tradix_nan x d _ w (by omega) (by omega) h3 (Lib.hid CN) CT
 ·obtain ⟨r, rfl⟩ : ∃ r : Nat, d = (r : Int) := ⟨d.toNat, by omega⟩
  rw [Int.toNat_natCast] at hl
  rw [h2] at CN
  rw [h3] at CI
  refine tradix_fin x r _ w (by omega) (by omega) (by rw [beq_eq_false_iff_ne]; exact h1) (Lib.hid CN) (Lib.hid CI) (Lib.hid fun W pb hW hp => tsigned_cap (T := RxP r) 46 pb hx (fun args W' => by go_simp) (fun u m hu hm => ?_) (.inr (.inr ⟨h2, h3, l, hl, rfl⟩)))
  obtain ⟨l1, l2⟩ := hm.bd (by omega) (by omega) hu
  exact ⟨l1, by omega, tradix1_walk hp (Lib.hid fun W' hW' => by subst hW'; exact tinRadix_any hu (by omega) (by omega) (tz_on hz hW) hm)⟩

end Go.Proofs.YtfcpkdafkmohkaaGreatDoor
namespace Go.Proofs.YtfcpkdafkmohkaaGreatDoor
open Go.RowKit
def vsz : Value → Nat
 | .string s => s.size
 | _ => 0
end Go.Proofs.YtfcpkdafkmohkaaGreatDoor
namespace Go.Proofs.YtfcpkdafkmohkaaGreatDoor
open Go.RowKit
def gR (r D : Nat) : Nat → Nat → Nat
 | R, 0 => R
 | R, k + 1 => gR r D R k * r % D
theorem gR_front (r D : Nat) : ∀ k R : Nat, gR r D R (k + 1) = gR r D (R * r % D) k
 | 0, _ => rfl
 | k + 1, R => by rw [gR, gR_front r D k R, gR]
theorem gV_snoc (r D : Nat) : ∀ k R : Nat, gV r D R (k + 1) = gV r D R k ++ [gR r D R k * r / D]
 | 0, R => rfl
 | k + 1, R => by
  rw [gV, gV_snoc r D k, ← gR_front]
  rw [gV]
  rfl
theorem gR_lt {r D : Nat} (hD : 0 < D) {R : Nat} (hR : R < D) : ∀ k : Nat, gR r D R k < D
 | 0 => hR
 | _ + 1 => Nat.mod_lt _ hD
theorem gV_zero (r D : Nat) : ∀ k : Nat, gV r D 0 k = List.replicate k 0
 | 0 => rfl
 | k + 1 => by rw [gV, Nat.zero_mul, Nat.zero_div, Nat.zero_mod, gV_zero r D k, List.replicate_succ]
theorem gV_split (r D : Nat) : ∀ i j R : Nat, gV r D R (i + j) = gV r D R i ++ gV r D (gR r D R i) j
 | 0, j, R => by rw [Nat.zero_add]; rfl
 | i + 1, j, R => by
  rw [show i + 1 + j = (i + j) + 1 by omega, gV, gV_split r D i j, gR_front, gV]
  rfl
theorem textL_digit {r d : Nat} (hd : d < r) : TextL r d [dch d] := by
 rcases Nat.eq_zero_or_pos d with h | h
 ·exact .inl ⟨h, by rw [h]; rfl⟩
 ·refine .inr ⟨h, [d], fun u hu => by rw [List.mem_singleton.1 hu]; exact hd, by simp [dv], ?_⟩
  have : dstrip [d] = [d] := by
   rw [dstrip, if_neg]
   ·rfl
   ·rintro ⟨h1, _⟩
    omega
  rw [this]
  rfl
set_option maxRecDepth 100000 in
set_option maxHeartbeats 1000000 in
theorem yradix_bad (x : Nat) (d : Int) (w : World) (hd : d < 2 ∨ 36 < d) :
  Cq 18 #[.float .f64 x, .int .i64 d] (.tuple #[.string ⟨#[]⟩, .int .i64 1]) w := by
 rcases (show d < 2 ∨ (¬ d < 2 ∧ 36 < d) by omega) with h1 | ⟨h1, h2⟩
 all_goals
  go_enter Tryz.func18, Tryz.ntmps18
  go_wp2
  go_ret2
  exact ⟨rfl, rfl⟩
set_option maxRecDepth 100000 in
set_option maxHeartbeats 1000000 in
theorem yradix_ten (x : Nat) (F : ByteArray) (w : World)
  (CT : Hid (∀ W, Ct 15 #[.float .f64 x] (.string F) W)) :
  Ct 18 #[.float .f64 x, .int .i64 10] (.tuple #[.string F, .int .i64 0]) w := by
 go_enter Tryz.func18, Tryz.ntmps18
 go_wp2_with fail
 refine (CT.out _).mono ?_
 rintro e w2 ⟨rfl, b2⟩
 have B2 := Lib.hid b2
 clear b2
 go_wp2
 go_ret2
 exact ⟨rfl, B2.out⟩
set_option maxRecDepth 100000 in
set_option maxHeartbeats 1000000 in
theorem yradix_nan (x : Nat) (d : Int) (F : ByteArray) (w : World) (h1 : ¬ d < 2) (h2 : ¬ 36 < d) (h3 : (d == 10) = false)
  (CN : Hid (∀ W, Cq 34 #[.float .f64 x] (.bool true) W))
  (CT : Hid (∀ W, Ct 15 #[.float .f64 x] (.string F) W)) :
  Ct 18 #[.float .f64 x, .int .i64 d] (.tuple #[.string F, .int .i64 0]) w := by
 go_enter Tryz.func18, Tryz.ntmps18
 go_wp2_with fail
 refine (CN.out _).mono ?_
 rintro e w' ⟨rfl, rfl⟩
 go_wp2_with fail
 refine (CT.out _).mono ?_
 rintro e w2 ⟨rfl, b2⟩
 have B2 := Lib.hid b2
 clear b2
 go_wp2
 go_ret2
 exact ⟨rfl, B2.out⟩
set_option maxRecDepth 100000 in
set_option maxHeartbeats 1000000 in
theorem yradix_inf (x : Nat) (d : Int) (F : ByteArray) (w : World) (h1 : ¬ d < 2) (h2 : ¬ 36 < d) (h3 : (d == 10) = false)
  (CN : Hid (∀ W, Cq 34 #[.float .f64 x] (.bool false) W))
  (CI : Hid (∀ W, Cq 36 #[.float .f64 x, .int .i64 0] (.bool true) W))
  (CT : Hid (∀ W, Ct 15 #[.float .f64 x] (.string F) W)) :
  Ct 18 #[.float .f64 x, .int .i64 d] (.tuple #[.string F, .int .i64 0]) w := by
 go_enter Tryz.func18, Tryz.ntmps18
 go_wp2_with fail
 refine (CN.out _).mono ?_
 rintro e w' ⟨rfl, rfl⟩
 go_wp2_with fail
 refine (CI.out _).mono ?_
 rintro e w' ⟨rfl, rfl⟩
 go_wp2_with fail
 refine (CT.out _).mono ?_
 rintro e w2 ⟨rfl, b2⟩
 have B2 := Lib.hid b2
 clear b2
 go_wp2
 go_ret2
 exact ⟨rfl, B2.out⟩
set_option maxRecDepth 100000 in
set_option maxHeartbeats 4000000 in
theorem yradix_0 (x r N D R : Nat) (T Z : List Nat) (w : World) (h2 : 2 ≤ r) (h36 : r ≤ 36) (h10 : r ≠ 10) (hD : 0 < D) (hR : N % D = R) (t0 : (FloatKind.f64.format.order x 0 == some .lt) = false)
  (CN : Hid (∀ W, Cq 34 #[.float .f64 x] (.bool false) W))
  (CI : Hid (∀ W, Cq 36 #[.float .f64 x, .int .i64 0] (.bool false) W))
  (CS : Hid (∀ W, Cp 48 #[.float .f64 x, .int .i64 0] W fun e w' => ∃ A a c C b d, e = .returned (.tuple #[.slice A a c, .slice C b d]) ∧ NV w' A a c N ∧ NV w' C b d D ∧ Below W.heap.size W w'))
  (CH : Hid (∀ W A a c C b d, NV W A a c N → NV W C b d D → Cp 49 #[.slice A a c, .slice C b d] W (HRet N D W)))
  (CT : Hid (∀ W A a c, NV W A a c (N / D) → Ct 50 #[.slice A a c, .int .i64 r] (.tuple #[.string (strOf T), .int .i64 0]) W))
  (CM : Hid (∀ W (i : Nat) A a c C b d, NV W A a c (gR r D R i) → NV W C b d r → Cp 51 #[.slice A a c, .slice C b d] W (NRet (gR r D R i * r) W)))
  (CG : Hid (∀ W (i : Nat) A a c C b d, NV W A a c (gR r D R i * r) → NV W C b d D → Cp 49 #[.slice A a c, .slice C b d] W (HRet (gR r D R i * r) D W)))
  (CX : Hid (∀ W (i : Nat) A a c, NV W A a c (gR r D R i * r / D) → Ct 50 #[.slice A a c, .int .i64 r] (.tuple #[.string (strOf [dch (gR r D R i * r / D)]), .int .i64 0]) W))
  (hT : Hid (T.length ≤ 3000)) (hZ : Hid (Z = (gV r D R 60).map dch)) (F : ByteArray)
  (CW : Hid (∀ W, Ct 38 #[.string (⟨#[]⟩ ++ strOf (T ++ rstL Z))] (.string F) W)) :
  Ct 18 #[.float .f64 x, .int .i64 r] (.tuple #[.string F, .int .i64 0]) w := by
 have k1 : (2 : Int) ≤ r := by omega
 have k2 : (r : Int) ≤ 36 := by omega
 have k3 : ((r : Int) == 10) = false := by rw [beq_eq_false_iff_ne]; omega
 have R2 := Lib.hid h2
 have R36 := Lib.hid h36
 have HR := Lib.hid hR
 have HD := Lib.hid hD
 clear h2 h36 h10 hR hD
 obtain ⟨O, hO⟩ : ∃ O, strOf T = O := ⟨_, rfl⟩
 have hOs : O.size ≤ 3000 := by
  rw [← hO, strOf_size]
  exact hT.out
 have HO := Lib.hid hO
 have HOS := Lib.hid hOs
 rw [hO] at CT
 clear hO hOs
 obtain ⟨q, hq⟩ : ∃ q, N / D = q := ⟨_, rfl⟩
 unfold HRet at CH CG
 rw [HR.out] at CH
 rw [hq] at CH CT
 clear hq
 go_enter Tryz.func18, Tryz.ntmps18
 go_wp2_with fail
 refine (CN.out _).mono ?_
 rintro e w' ⟨rfl, rfl⟩
 go_wp2_with fail
 refine (CI.out _).mono ?_
 rintro e w' ⟨rfl, rfl⟩
 go_wp2_with fail
 refine (CS.out _).mono ?_
 rintro e w2 ⟨A2, n2, c2, A3, n3, c3, rfl, g2, g3, b2'⟩
 have GN := Lib.hid g2
 have GD := Lib.hid g3
 have B2 := Lib.hid b2'
 clear g2 g3 b2'
 go_wp2_with fail
 refine (CH.out _ _ _ _ _ _ _ GN.out GD.out).mono ?_
 rintro e w3 ⟨A4, n4, c4, A5, n5, c5, rfl, g4, g5, b3'⟩
 have GQ := Lib.hid g4
 have GR := Lib.hid g5
 have GD := Lib.hid (GD.out.step b3')
 have B3 := Lib.hid (below_le B2.out b3')
 clear g4 g5 b3'
 go_wp2_with fail
 refine (CT.out _ _ _ _ GQ.out).mono ?_
 rintro e w4 ⟨rfl, b4'⟩
 have GR := Lib.hid (GR.out.step b4')
 have GD := Lib.hid (GD.out.step b4')
 have B4 := Lib.hid (below_le B3.out b4')
 clear b4' GQ GN
 go_wp2
 go_loopw [10, 13, 14] (fun vr vs vi wr => ∃ (i : Nat) (A : Option Addr) (n c : Nat) (S : ByteArray), vr = .slice A n c ∧ vs = .string S ∧ vi = .int .i64 i ∧ i ≤ 60 ∧ Hid (S = strOf ((gV r D R i).map dch)) ∧ Hid (NV wr A n c (gR r D R i)) ∧ Hid (NV wr A3 n3 c3 D) ∧ Hid (Below w.heap.size w wr)) (fun _ _ vi _ => 60 - (intOf vi).toNat)
 case atStart => exact ⟨0, A5, n5, c5, ⟨#[]⟩, rfl, rfl, rfl, by omega, Lib.hid rfl, GR, GD, B4⟩
 case round =>
  obtain ⟨i, A6, n6, c6, S, rfl, rfl, rfl, hi, HS, G6, GD, B6⟩ := hrel
  have hSl : S.size = i := by rw [HS.out, strOf_size, List.length_map, gV_len]
  by_cases hgo : i < 60 ∧ 0 < n6
  ·have t1 : (i : Int) < 60 := by omega
   have t1' : decide ((i : Int) < 60) = true := decide_eq_true t1
   have t2 : (0 : Int) < (n6 : Int) := by omega
   have GL := Lib.hid (NV.lit wr r (by have := R2.out; omega) (by have := R36.out; omega))
   have G6 := Lib.hid (G6.out.step (below_al wr (.cells #[.int .u32 (r : Int)] 42)))
   have GD := Lib.hid (GD.out.step (below_al wr (.cells #[.int .u32 (r : Int)] 42)))
   have B6 := Lib.hid (alloc_below (.cells #[.int .u32 (r : Int)] 42) B6.out)
   have CM' := Lib.hid (fun W A a c C b d => CM.out W i A a c C b d)
   have CG' := Lib.hid (fun W A a c C b d => CG.out W i A a c C b d)
   have CX' := Lib.hid (fun W A a c => CX.out W i A a c)
   obtain ⟨d1, hd1⟩ : ∃ d1, strOf [dch (gR r D R i * r / D)] = d1 := ⟨_, rfl⟩
   rw [hd1] at CX'
   have hd2 : d1.size = 1 := by rw [← hd1, strOf_size]; rfl
   have g1 : ¬ 9223372036854775807 < S.size + d1.size := by omega
   obtain ⟨S2, hS2⟩ : ∃ S2, S ++ d1 = S2 := ⟨_, rfl⟩
   have HS2 : Hid (S2 = strOf ((gV r D R (i + 1)).map dch)) := Lib.hid (by rw [← hS2, HS.out, ← hd1, strOf_append, gV_snoc, List.map_append]; rfl)
   obtain ⟨P1, hP1⟩ : ∃ P1, gR r D R i * r = P1 := ⟨_, rfl⟩
   have hgr : gR r D R (i + 1) = P1 % D := by rw [gR, hP1]
   rw [hP1] at CM' CG' CX'
   obtain ⟨Q1, hQ1⟩ : ∃ Q1, P1 / D = Q1 := ⟨_, rfl⟩
   obtain ⟨M1, hM1⟩ : ∃ M1, P1 % D = M1 := ⟨_, rfl⟩
   rw [hQ1, hM1] at CG'
   rw [hQ1] at CX'
   rw [hM1] at hgr
   have HGR := Lib.hid hgr
   have HSL := Lib.hid hSl
   clear hgo hd1 hP1 hQ1 hM1 hgr hSl hd2
   go_wp2_with fail
   generalize wr.alloc (.cells #[.int .u32 (r : Int)] 42) = w5 at *
   refine (CM'.out _ _ _ _ _ _ _ G6.out GL.out).mono ?_
   rintro e w6 ⟨A7, n7, c7, rfl, g7, b7⟩
   have G7 := Lib.hid g7
   have GD := Lib.hid (GD.out.step b7)
   have B7 := Lib.hid (below_le B6.out b7)
   clear g7 b7
   go_wp2_with fail
   refine (CG'.out _ _ _ _ _ _ _ G7.out GD.out).mono ?_
   rintro e w8 ⟨A8, n8, c8, A9, n9, c9, rfl, g8, g9, b8⟩
   have G8 := Lib.hid g8
   have G9 := Lib.hid g9
   have GD := Lib.hid (GD.out.step b8)
   have B8 := Lib.hid (below_le B7.out b8)
   clear g8 g9 b8
   go_wp2_with fail
   refine (CX'.out _ _ _ _ G8.out).mono ?_
   rintro e w9 ⟨rfl, b9⟩
   have G9 := Lib.hid (G9.out.step b9)
   have GD := Lib.hid (GD.out.step b9)
   have B9 := Lib.hid (below_le B8.out b9)
   clear b9
   go_wp2
   exact ⟨⟨i + 1, A9, n9, c9, S2, rfl, rfl, by go_num, by omega, HS2, Lib.hid (by rw [HGR.out]; exact G9.out), GD, B9⟩, by simp [intOf]; omega⟩
  ·have HU : Hid (∃ U : List Nat, S = strOf U ∧ trz U = trz Z ∧ (∀ c ∈ U, 48 ≤ c ∧ c < 128) ∧ U.length ≤ 60) := by
    refine Lib.hid ⟨_, HS.out, ?_, ?_, by rw [List.length_map, gV_len]; exact hi⟩
    ·have e60 : 60 = i + (60 - i) := by omega
     rw [hZ.out, e60, gV_split, List.map_append]
     rcases (show 60 - i = 0 ∨ n6 = 0 by omega) with h | h
     ·rw [h]
      show trz _ = trz (_ ++ [])
      rw [List.append_nil]
     ·have hz : gR r D R i = 0 := by
       have h1 := G6.out.len
       rw [h] at h1
       have h3 := wds_val (gR r D R i)
       rw [List.eq_nil_of_length_eq_zero h1] at h3
       exact h3.symm
      rw [hz, gV_zero, map_rep, trz_rep]
    ·exact gV_let HD.out (by rw [← HR.out]; exact Nat.mod_lt _ HD.out) R2.out R36.out i
   obtain ⟨b1, hb1⟩ : ∃ b1, decide ((i : Int) < 60) = b1 := ⟨_, rfl⟩
   have hbb : b1 = false ∨ (b1 = true ∧ ¬ (0 : Int) < (n6 : Int)) := by
    by_cases h : i < 60
    ·right
     exact ⟨by rw [← hb1]; exact decide_eq_true (by omega), by omega⟩
    ·left
     rw [← hb1]
     exact decide_eq_false (by omega)
   clear HS hgo hi G6 GD CM CG CX CH CT CS hSl
   obtain ⟨V0, hV0, hV1⟩ := HU.out
   have HV1 := Lib.hid hV1
   have HV0 := Lib.hid hV0
   clear hV0 hV1 HU
   rcases hbb with rfl | ⟨rfl, t2⟩
   all_goals
    go_wp2
    go_loopw [13] (fun vs w' => ∃ (U : List Nat) (S1 : ByteArray), vs = .string S1 ∧ Hid (S1 = strOf U) ∧ Hid (trz U = trz Z ∧ (∀ c ∈ U, 48 ≤ c ∧ c < 128) ∧ U.length ≤ 60) ∧ wr = w') (fun vs _ => vsz vs)
    case atStart => exact ⟨V0, S, rfl, HV0, HV1, rfl⟩
    case round =>
     obtain ⟨U, S1, rfl, HS1, HU, rfl⟩ := hrel
     rcases (show U = [] ∨ ∃ V c, U = V ++ [c] by
      rcases List.eq_nil_or_concat U with h | ⟨V, c, h⟩
      ·exact .inl h
      ·exact .inr ⟨V, c, by rw [h, List.concat_eq_append]⟩) with rfl | ⟨V, c, rfl⟩
     ·have hM : S1.size = 0 := by rw [HS1.out, strOf_size]; rfl
      have t3 : ¬ (0 : Int) < (S1.size : Int) := by omega
      have CW' := CW
      have hz : T ++ rstL Z = T := by
       unfold rstL
       rw [← HU.out.1, if_pos (by rfl), List.append_nil]
      rw [hz, HO.out] at CW'
      have g4 : ¬ 9223372036854775807 < O.size := by have := HOS.out; omega
      clear CW hz hM
      go_wp2_with fail
      refine (CW'.out _).mono ?_
      rintro e w9 ⟨rfl, b9⟩
      have B9 := Lib.hid (below_le B6.out b9)
      clear b9
      go_wp2
      go_ret2
      exact ⟨rfl, B9.out⟩
     ·obtain ⟨m, hm⟩ : ∃ m, V.length = m := ⟨_, rfl⟩
      obtain ⟨u1, u2, u3⟩ := HU.out
      have u4 := u2 c (by simp)
      obtain ⟨M, hMm⟩ : ∃ M, m + 1 = M := ⟨_, rfl⟩
      have hM : S1.size = M := by rw [HS1.out, strOf_size, List.length_append, hm, List.length_singleton, hMm]
      have hM60 : M ≤ 60 := by rw [List.length_append, hm, List.length_singleton] at u3; omega
      have hbl : bl S1 = V ++ [c] := by rw [HS1.out]; exact bl_strOf (fun d hd => by have := u2 d hd; omega)
      have hlt : m < S1.size := by omega
      have hget : (S1[m]'hlt).toNat = c := by
       have h1 := bl_get S1 m hlt
       have h2 : (V ++ [c])[m]? = some c := by rw [← hm]; exact List.getElem?_concat_length
       rw [hbl, h2] at h1
       exact (Option.some.inj h1).symm
      have a3 : ((S1[m]'hlt).toNat : Int) = (c : Int) := by rw [hget]
      have t3 : (0 : Int) < (M : Int) := by omega
      have a1 : (0 : Int) ≤ (M : Int) - 1 := by omega
      have a2 : (M : Int) - 1 < (M : Int) := by omega
      have a4 : ((M : Int) - 1).toNat = m := by omega
      have a5 : (M : Int) ≤ 60 := by omega
      have a6 : (M : Int) - 1 ≤ (M : Int) := by omega
      have HM := Lib.hid hMm
      by_cases hc : c = 48
      ·have t4 : ((c : Int) == 48) = true := by rw [beq_iff_eq]; omega
       have hx : S1.extract 0 m = strOf V := by rw [ext_take, hbl, ← hm, List.take_left]
       have HX := Lib.hid hx
       have HVU : Hid (trz V = trz Z ∧ (∀ c ∈ V, 48 ≤ c ∧ c < 128) ∧ V.length ≤ 60) := Lib.hid ⟨by
        have := trz_rep V 1
        rw [List.replicate_one, ← hc, u1] at this
        exact this.symm, fun d hd => u2 d (by simp [hd]), by omega⟩
       have hvs : (strOf V).size = m := by rw [strOf_size, hm]
       clear hget hbl u1 u2 u3 u4 hc hx HS1 HU hMm hm
       go_wp2
       exact ⟨⟨V, _, rfl, HX, HVU, trivial⟩, by simp only [vsz]; rw [HX.out, hvs, hM, ← HM.out]; omega⟩
      ·have t4 : ((c : Int) == 48) = false := by rw [beq_eq_false_iff_ne]; omega
       have ht : trz (V ++ [c]) = V ++ [c] := trz_snoc hc
       obtain ⟨O2, hO2⟩ : ∃ O2, O ++ ⟨#[46]⟩ = O2 := ⟨_, rfl⟩
       obtain ⟨O3, hO3⟩ : ∃ O3, O2 ++ S1 = O3 := ⟨_, rfl⟩
       have hz : strOf (T ++ rstL Z) = O3 := by
        unfold rstL
        rw [← u1, ht, if_neg (by simp), ← hO3, ← hO2, ← HO.out, HS1.out, show (⟨#[46]⟩ : ByteArray) = strOf [46] from rfl, strOf_append, strOf_append, List.append_assoc, List.singleton_append]
       have hs2 : O2.size ≤ 3001 := by rw [← hO2, ByteArray.size_append]; have := HOS.out; show _ + 1 ≤ _; omega
       have hs3 : O3.size ≤ 3100 := by rw [← hO3, ByteArray.size_append]; omega
       have CW' := CW
       rw [hz] at CW'
       have g4 : ¬ 9223372036854775807 < O3.size := by omega
       have g5 : ¬ 9223372036854775807 < O.size + 1 := by have := HOS.out; omega
       have g6 : ¬ 9223372036854775807 < O2.size + M := by omega
       clear CW hz hget hbl u1 u2 u3 u4 hc HS1 HU hMm hm ht hs2 hs3
       go_wp2_with fail
       refine (CW'.out _).mono ?_
       rintro e w9 ⟨rfl, b9⟩
       have B9 := Lib.hid (below_le B6.out b9)
       clear b9
       go_wp2
       go_ret2
       exact ⟨rfl, B9.out⟩
set_option maxRecDepth 100000 in
set_option maxHeartbeats 4000000 in
theorem yradix_1 (x y r N D R : Nat) (T Z : List Nat) (w : World) (h2 : 2 ≤ r) (h36 : r ≤ 36) (h10 : r ≠ 10) (hD : 0 < D) (hR : N % D = R) (t0 : (FloatKind.f64.format.order x 0 == some .lt) = true)
  (r3 : ∀ W, (Op.unary UnOp.neg (.float .f64 x)).run Tryz.prog W = .ok (.float .f64 y) W)
  (CN : Hid (∀ W, Cq 34 #[.float .f64 x] (.bool false) W))
  (CI : Hid (∀ W, Cq 36 #[.float .f64 x, .int .i64 0] (.bool false) W))
  (CS : Hid (∀ W, Cp 48 #[.float .f64 y, .int .i64 0] W fun e w' => ∃ A a c C b d, e = .returned (.tuple #[.slice A a c, .slice C b d]) ∧ NV w' A a c N ∧ NV w' C b d D ∧ Below W.heap.size W w'))
  (CH : Hid (∀ W A a c C b d, NV W A a c N → NV W C b d D → Cp 49 #[.slice A a c, .slice C b d] W (HRet N D W)))
  (CT : Hid (∀ W A a c, NV W A a c (N / D) → Ct 50 #[.slice A a c, .int .i64 r] (.tuple #[.string (strOf T), .int .i64 0]) W))
  (CM : Hid (∀ W (i : Nat) A a c C b d, NV W A a c (gR r D R i) → NV W C b d r → Cp 51 #[.slice A a c, .slice C b d] W (NRet (gR r D R i * r) W)))
  (CG : Hid (∀ W (i : Nat) A a c C b d, NV W A a c (gR r D R i * r) → NV W C b d D → Cp 49 #[.slice A a c, .slice C b d] W (HRet (gR r D R i * r) D W)))
  (CX : Hid (∀ W (i : Nat) A a c, NV W A a c (gR r D R i * r / D) → Ct 50 #[.slice A a c, .int .i64 r] (.tuple #[.string (strOf [dch (gR r D R i * r / D)]), .int .i64 0]) W))
  (hT : Hid (T.length ≤ 3000)) (hZ : Hid (Z = (gV r D R 60).map dch)) (F : ByteArray)
  (CW : Hid (∀ W, Ct 38 #[.string (⟨#[45]⟩ ++ strOf (T ++ rstL Z))] (.string F) W)) :
  Ct 18 #[.float .f64 x, .int .i64 r] (.tuple #[.string F, .int .i64 0]) w := by
 have k1 : (2 : Int) ≤ r := by omega
 have k2 : (r : Int) ≤ 36 := by omega
 have k3 : ((r : Int) == 10) = false := by rw [beq_eq_false_iff_ne]; omega
 have R2 := Lib.hid h2
 have R36 := Lib.hid h36
 have HR := Lib.hid hR
 have HD := Lib.hid hD
 clear h2 h36 h10 hR hD
 obtain ⟨O, hO⟩ : ∃ O, strOf T = O := ⟨_, rfl⟩
 have hOs : O.size ≤ 3000 := by
  rw [← hO, strOf_size]
  exact hT.out
 have HO := Lib.hid hO
 have HOS := Lib.hid hOs
 rw [hO] at CT
 clear hO hOs
 obtain ⟨q, hq⟩ : ∃ q, N / D = q := ⟨_, rfl⟩
 unfold HRet at CH CG
 rw [HR.out] at CH
 rw [hq] at CH CT
 clear hq
 go_enter Tryz.func18, Tryz.ntmps18
 go_wp2_with fail
 refine (CN.out _).mono ?_
 rintro e w' ⟨rfl, rfl⟩
 go_wp2_with fail
 refine (CI.out _).mono ?_
 rintro e w' ⟨rfl, rfl⟩
 go_wp2_with fail
 refine (CS.out _).mono ?_
 rintro e w2 ⟨A2, n2, c2, A3, n3, c3, rfl, g2, g3, b2'⟩
 have GN := Lib.hid g2
 have GD := Lib.hid g3
 have B2 := Lib.hid b2'
 clear g2 g3 b2'
 go_wp2_with fail
 refine (CH.out _ _ _ _ _ _ _ GN.out GD.out).mono ?_
 rintro e w3 ⟨A4, n4, c4, A5, n5, c5, rfl, g4, g5, b3'⟩
 have GQ := Lib.hid g4
 have GR := Lib.hid g5
 have GD := Lib.hid (GD.out.step b3')
 have B3 := Lib.hid (below_le B2.out b3')
 clear g4 g5 b3'
 go_wp2_with fail
 refine (CT.out _ _ _ _ GQ.out).mono ?_
 rintro e w4 ⟨rfl, b4'⟩
 have GR := Lib.hid (GR.out.step b4')
 have GD := Lib.hid (GD.out.step b4')
 have B4 := Lib.hid (below_le B3.out b4')
 clear b4' GQ GN
 go_wp2
 go_loopw [10, 13, 14] (fun vr vs vi wr => ∃ (i : Nat) (A : Option Addr) (n c : Nat) (S : ByteArray), vr = .slice A n c ∧ vs = .string S ∧ vi = .int .i64 i ∧ i ≤ 60 ∧ Hid (S = strOf ((gV r D R i).map dch)) ∧ Hid (NV wr A n c (gR r D R i)) ∧ Hid (NV wr A3 n3 c3 D) ∧ Hid (Below w.heap.size w wr)) (fun _ _ vi _ => 60 - (intOf vi).toNat)
 case atStart => exact ⟨0, A5, n5, c5, ⟨#[]⟩, rfl, rfl, rfl, by omega, Lib.hid rfl, GR, GD, B4⟩
 case round =>
  obtain ⟨i, A6, n6, c6, S, rfl, rfl, rfl, hi, HS, G6, GD, B6⟩ := hrel
  have hSl : S.size = i := by rw [HS.out, strOf_size, List.length_map, gV_len]
  by_cases hgo : i < 60 ∧ 0 < n6
  ·have t1 : (i : Int) < 60 := by omega
   have t1' : decide ((i : Int) < 60) = true := decide_eq_true t1
   have t2 : (0 : Int) < (n6 : Int) := by omega
   have GL := Lib.hid (NV.lit wr r (by have := R2.out; omega) (by have := R36.out; omega))
   have G6 := Lib.hid (G6.out.step (below_al wr (.cells #[.int .u32 (r : Int)] 42)))
   have GD := Lib.hid (GD.out.step (below_al wr (.cells #[.int .u32 (r : Int)] 42)))
   have B6 := Lib.hid (alloc_below (.cells #[.int .u32 (r : Int)] 42) B6.out)
   have CM' := Lib.hid (fun W A a c C b d => CM.out W i A a c C b d)
   have CG' := Lib.hid (fun W A a c C b d => CG.out W i A a c C b d)
   have CX' := Lib.hid (fun W A a c => CX.out W i A a c)
   obtain ⟨d1, hd1⟩ : ∃ d1, strOf [dch (gR r D R i * r / D)] = d1 := ⟨_, rfl⟩
   rw [hd1] at CX'
   have hd2 : d1.size = 1 := by rw [← hd1, strOf_size]; rfl
   have g1 : ¬ 9223372036854775807 < S.size + d1.size := by omega
   obtain ⟨S2, hS2⟩ : ∃ S2, S ++ d1 = S2 := ⟨_, rfl⟩
   have HS2 : Hid (S2 = strOf ((gV r D R (i + 1)).map dch)) := Lib.hid (by rw [← hS2, HS.out, ← hd1, strOf_append, gV_snoc, List.map_append]; rfl)
   obtain ⟨P1, hP1⟩ : ∃ P1, gR r D R i * r = P1 := ⟨_, rfl⟩
   have hgr : gR r D R (i + 1) = P1 % D := by rw [gR, hP1]
   rw [hP1] at CM' CG' CX'
   obtain ⟨Q1, hQ1⟩ : ∃ Q1, P1 / D = Q1 := ⟨_, rfl⟩
   obtain ⟨M1, hM1⟩ : ∃ M1, P1 % D = M1 := ⟨_, rfl⟩
   rw [hQ1, hM1] at CG'
   rw [hQ1] at CX'
   rw [hM1] at hgr
   have HGR := Lib.hid hgr
   have HSL := Lib.hid hSl
   clear hgo hd1 hP1 hQ1 hM1 hgr hSl hd2
   go_wp2_with fail
   generalize wr.alloc (.cells #[.int .u32 (r : Int)] 42) = w5 at *
   refine (CM'.out _ _ _ _ _ _ _ G6.out GL.out).mono ?_
   rintro e w6 ⟨A7, n7, c7, rfl, g7, b7⟩
   have G7 := Lib.hid g7
   have GD := Lib.hid (GD.out.step b7)
   have B7 := Lib.hid (below_le B6.out b7)
   clear g7 b7
   go_wp2_with fail
   refine (CG'.out _ _ _ _ _ _ _ G7.out GD.out).mono ?_
   rintro e w8 ⟨A8, n8, c8, A9, n9, c9, rfl, g8, g9, b8⟩
   have G8 := Lib.hid g8
   have G9 := Lib.hid g9
   have GD := Lib.hid (GD.out.step b8)
   have B8 := Lib.hid (below_le B7.out b8)
   clear g8 g9 b8
   go_wp2_with fail
   refine (CX'.out _ _ _ _ G8.out).mono ?_
   rintro e w9 ⟨rfl, b9⟩
   have G9 := Lib.hid (G9.out.step b9)
   have GD := Lib.hid (GD.out.step b9)
   have B9 := Lib.hid (below_le B8.out b9)
   clear b9
   go_wp2
   exact ⟨⟨i + 1, A9, n9, c9, S2, rfl, rfl, by go_num, by omega, HS2, Lib.hid (by rw [HGR.out]; exact G9.out), GD, B9⟩, by simp [intOf]; omega⟩
  ·have HU : Hid (∃ U : List Nat, S = strOf U ∧ trz U = trz Z ∧ (∀ c ∈ U, 48 ≤ c ∧ c < 128) ∧ U.length ≤ 60) := by
    refine Lib.hid ⟨_, HS.out, ?_, ?_, by rw [List.length_map, gV_len]; exact hi⟩
    ·have e60 : 60 = i + (60 - i) := by omega
     rw [hZ.out, e60, gV_split, List.map_append]
     rcases (show 60 - i = 0 ∨ n6 = 0 by omega) with h | h
     ·rw [h]
      show trz _ = trz (_ ++ [])
      rw [List.append_nil]
     ·have hz : gR r D R i = 0 := by
       have h1 := G6.out.len
       rw [h] at h1
       have h3 := wds_val (gR r D R i)
       rw [List.eq_nil_of_length_eq_zero h1] at h3
       exact h3.symm
      rw [hz, gV_zero, map_rep, trz_rep]
    ·exact gV_let HD.out (by rw [← HR.out]; exact Nat.mod_lt _ HD.out) R2.out R36.out i
   obtain ⟨b1, hb1⟩ : ∃ b1, decide ((i : Int) < 60) = b1 := ⟨_, rfl⟩
   have hbb : b1 = false ∨ (b1 = true ∧ ¬ (0 : Int) < (n6 : Int)) := by
    by_cases h : i < 60
    ·right
     exact ⟨by rw [← hb1]; exact decide_eq_true (by omega), by omega⟩
    ·left
     rw [← hb1]
     exact decide_eq_false (by omega)
   clear HS hgo hi G6 GD CM CG CX CH CT CS hSl
   obtain ⟨V0, hV0, hV1⟩ := HU.out
   have HV1 := Lib.hid hV1
   have HV0 := Lib.hid hV0
   clear hV0 hV1 HU
   rcases hbb with rfl | ⟨rfl, t2⟩
   all_goals
    go_wp2
    go_loopw [13] (fun vs w' => ∃ (U : List Nat) (S1 : ByteArray), vs = .string S1 ∧ Hid (S1 = strOf U) ∧ Hid (trz U = trz Z ∧ (∀ c ∈ U, 48 ≤ c ∧ c < 128) ∧ U.length ≤ 60) ∧ wr = w') (fun vs _ => vsz vs)
    case atStart => exact ⟨V0, S, rfl, HV0, HV1, rfl⟩
    case round =>
     obtain ⟨U, S1, rfl, HS1, HU, rfl⟩ := hrel
     rcases (show U = [] ∨ ∃ V c, U = V ++ [c] by
      rcases List.eq_nil_or_concat U with h | ⟨V, c, h⟩
      ·exact .inl h
      ·exact .inr ⟨V, c, by rw [h, List.concat_eq_append]⟩) with rfl | ⟨V, c, rfl⟩
     ·have hM : S1.size = 0 := by rw [HS1.out, strOf_size]; rfl
      have t3 : ¬ (0 : Int) < (S1.size : Int) := by omega
      have CW' := CW
      have hz : T ++ rstL Z = T := by
       unfold rstL
       rw [← HU.out.1, if_pos (by rfl), List.append_nil]
      rw [hz, HO.out] at CW'
      have g4 : ¬ 9223372036854775807 < 1 + O.size := by have := HOS.out; omega
      clear CW hz hM
      go_wp2_with fail
      refine (CW'.out _).mono ?_
      rintro e w9 ⟨rfl, b9⟩
      have B9 := Lib.hid (below_le B6.out b9)
      clear b9
      go_wp2
      go_ret2
      exact ⟨rfl, B9.out⟩
     ·obtain ⟨m, hm⟩ : ∃ m, V.length = m := ⟨_, rfl⟩
      obtain ⟨u1, u2, u3⟩ := HU.out
      have u4 := u2 c (by simp)
      obtain ⟨M, hMm⟩ : ∃ M, m + 1 = M := ⟨_, rfl⟩
      have hM : S1.size = M := by rw [HS1.out, strOf_size, List.length_append, hm, List.length_singleton, hMm]
      have hM60 : M ≤ 60 := by rw [List.length_append, hm, List.length_singleton] at u3; omega
      have hbl : bl S1 = V ++ [c] := by rw [HS1.out]; exact bl_strOf (fun d hd => by have := u2 d hd; omega)
      have hlt : m < S1.size := by omega
      have hget : (S1[m]'hlt).toNat = c := by
       have h1 := bl_get S1 m hlt
       have h2 : (V ++ [c])[m]? = some c := by rw [← hm]; exact List.getElem?_concat_length
       rw [hbl, h2] at h1
       exact (Option.some.inj h1).symm
      have a3 : ((S1[m]'hlt).toNat : Int) = (c : Int) := by rw [hget]
      have t3 : (0 : Int) < (M : Int) := by omega
      have a1 : (0 : Int) ≤ (M : Int) - 1 := by omega
      have a2 : (M : Int) - 1 < (M : Int) := by omega
      have a4 : ((M : Int) - 1).toNat = m := by omega
      have a5 : (M : Int) ≤ 60 := by omega
      have a6 : (M : Int) - 1 ≤ (M : Int) := by omega
      have HM := Lib.hid hMm
      by_cases hc : c = 48
      ·have t4 : ((c : Int) == 48) = true := by rw [beq_iff_eq]; omega
       have hx : S1.extract 0 m = strOf V := by rw [ext_take, hbl, ← hm, List.take_left]
       have HX := Lib.hid hx
       have HVU : Hid (trz V = trz Z ∧ (∀ c ∈ V, 48 ≤ c ∧ c < 128) ∧ V.length ≤ 60) := Lib.hid ⟨by
        have := trz_rep V 1
        rw [List.replicate_one, ← hc, u1] at this
        exact this.symm, fun d hd => u2 d (by simp [hd]), by omega⟩
       have hvs : (strOf V).size = m := by rw [strOf_size, hm]
       clear hget hbl u1 u2 u3 u4 hc hx HS1 HU hMm hm
       go_wp2
       exact ⟨⟨V, _, rfl, HX, HVU, trivial⟩, by simp only [vsz]; rw [HX.out, hvs, hM, ← HM.out]; omega⟩
      ·have t4 : ((c : Int) == 48) = false := by rw [beq_eq_false_iff_ne]; omega
       have ht : trz (V ++ [c]) = V ++ [c] := trz_snoc hc
       obtain ⟨O2, hO2⟩ : ∃ O2, O ++ ⟨#[46]⟩ = O2 := ⟨_, rfl⟩
       obtain ⟨O3, hO3⟩ : ∃ O3, O2 ++ S1 = O3 := ⟨_, rfl⟩
       have hz : strOf (T ++ rstL Z) = O3 := by
        unfold rstL
        rw [← u1, ht, if_neg (by simp), ← hO3, ← hO2, ← HO.out, HS1.out, show (⟨#[46]⟩ : ByteArray) = strOf [46] from rfl, strOf_append, strOf_append, List.append_assoc, List.singleton_append]
       have hs2 : O2.size ≤ 3001 := by rw [← hO2, ByteArray.size_append]; have := HOS.out; show _ + 1 ≤ _; omega
       have hs3 : O3.size ≤ 3100 := by rw [← hO3, ByteArray.size_append]; omega
       have CW' := CW
       rw [hz] at CW'
       have g4 : ¬ 9223372036854775807 < 1 + O3.size := by omega
       have g5 : ¬ 9223372036854775807 < O.size + 1 := by have := HOS.out; omega
       have g6 : ¬ 9223372036854775807 < O2.size + M := by omega
       clear CW hz hget hbl u1 u2 u3 u4 hc HS1 HU hMm hm ht hs2 hs3
       go_wp2_with fail
       refine (CW'.out _).mono ?_
       rintro e w9 ⟨rfl, b9⟩
       have B9 := Lib.hid (below_le B6.out b9)
       clear b9
       go_wp2
       go_ret2
       exact ⟨rfl, B9.out⟩

end Go.Proofs.YtfcpkdafkmohkaaGreatDoor
namespace Go.Proofs.YtfcpkdafkmohkaaGreatDoor
open Go.RowKit
theorem amt_same {x : Nat} (hx : x < 18446744073709551616) (hg : ngB x = false) : AmtOf x x ∧ (0 < rung x → x = rung x) := by
 unfold ngB fneg at hg
 unfold AmtOf
 by_cases h0 : 0 < rung x
 ·rw [decide_eq_true h0, Bool.and_true] at hg
  have : ¬ x / 9223372036854775808 % 2 = 1 := fun k => by rw [k] at hg; cases hg
  have hr : rung x = x := by
   unfold rung
   omega
  exact ⟨.inl hr.symm, fun _ => hr.symm⟩
 ·exact ⟨.inr ⟨by omega, rfl⟩, fun h => absurd h h0⟩
theorem neg_run {x : Nat} (hx : x < 18446744073709551616) (hg : ngB x = true) (W' : World) : (Op.unary UnOp.neg (.float .f64 x)).run Tryz.prog W' = .ok (.float .f64 (rung x)) W' := by
 have hf : fneg x = true := by
  unfold ngB at hg
  exact (Bool.and_eq_true _ _ ▸ hg).1
 have hhi := wd_hi hx hf
 have e := negW_hi (rung_lt x)
 rw [← hhi] at e
 have h4 : (Op.unary UnOp.neg (.float .f64 x)).run Tryz.prog W' = .ok (.float .f64 (negW x)) W' := rfl
 rw [h4, e]
end Go.Proofs.YtfcpkdafkmohkaaGreatDoor
namespace Go.Proofs.YtfcpkdafkmohkaaGreatDoor
open Go.RowKit
theorem sg_app (x : Nat) (l : List Nat) : strOf (sgx x) ++ strOf l = strOf (sgx x ++ l) := strOf_append _ _
theorem sgx_bd (x : Nat) {l : List Nat} (h : ∀ c ∈ l, c < 256) : (∀ c ∈ sgx x ++ l, c < 256) ∧ (sgx x ++ l).length ≤ l.length + 1 := by
 unfold sgx
 split
 ·refine ⟨?_, by simp⟩
  intro c hc
  rcases List.mem_cons.1 hc with rfl | hc
  ·omega
  ·exact h c hc
 ·exact ⟨by simpa using h, by simp⟩
end Go.Proofs.YtfcpkdafkmohkaaGreatDoor
namespace Go.Proofs.YtfcpkdafkmohkaaGreatDoor
open Go.RowKit
theorem mod_cross {a b D B : Nat} (hD : 0 < D) (hB : 0 < B) (h : a * B = b * D) : a / D = b / B ∧ a % D * B = b % B * D := by
 have e := (quot_cross hD hB h).1
 refine ⟨e, ?_⟩
 have h1 := Nat.div_add_mod a D
 have h2 := Nat.div_add_mod b B
 rw [← e] at h2
 generalize a / D = q at *
 generalize a % D = s at *
 generalize b % B = t at *
 have k1 : a * B = D * q * B + s * B := by rw [← h1]; grind
 have k2 : b * D = D * q * B + t * D := by rw [← h2]; grind
 omega
theorem gV_cross {r D B : Nat} (hD : 0 < D) (hB : 0 < B) : ∀ (k R S : Nat), R * B = S * D → gV r D R k = gV r B S k
 | 0, _, _, _ => rfl
 | k + 1, R, S, h => by
  have h' : R * r * B = S * r * D := by
   have e1 : R * r * B = R * B * r := by grind
   have e2 : S * r * D = S * D * r := by grind
   rw [e1, e2, h]
  obtain ⟨m1, m2⟩ := mod_cross hD hB h'
  rw [gV, gV, m1, gV_cross hD hB k _ _ m2]
theorem yscaled_amt {x y : Nat} (hx : x < 18446744073709551616) (hf : rung x < 9218868437227405312) (hy : AmtOf x y) : ∃ m two, PartG (rung x) m two ∧ ∀ W, Cp 48 #[.float .f64 y, .int .i64 0] W (ScQ m two 0 W) := by
 rcases hy with rfl | ⟨h0, rfl⟩
 ·obtain ⟨m, two, hG, hC⟩ := yscaled_fix (rung x) hf
  exact ⟨m, two, hG, fun W => hC 0 W (by omega) (by omega)⟩
 ·exact ⟨0, 0, .inl ⟨h0, rfl, rfl⟩, fun W => yscaled_nought y hx h0 0 W (by omega) (by omega)⟩
theorem yRadix_any {x : Nat} {d : Int} {S : ByteArray} {K : Int} {w : World} (hx : x < 18446744073709551616) (h : RdR x d S K) :
  Ct 18 #[.float .f64 x, .int .i64 d] (.tuple #[.string S, .int .i64 K]) w := by
 have CN := fun W => isNaN_any x W
 have CI := fun W => isInf0_any x W hx
 rcases h with ⟨hd, rfl, rfl⟩ | ⟨hd, rfl, L, rfl, ⟨h1, hL⟩ | ⟨h1, h2, h3, l, hl, rfl⟩⟩
 ·refine (yradix_bad x d w hd).mono ?_
  rintro e w' ⟨rfl, rfl⟩
  exact ⟨rfl, Below.refl _ _⟩
 ·have CT := Lib.hid (fun W => yText_any (w := W) hx hL)
  by_cases h10 : d = 10
  ·subst h10
   exact yradix_ten x _ w CT
  ·have h3 : (d == 10) = false := by rw [beq_eq_false_iff_ne]; exact h10
   cases h4 : fnan x
   ·have h5 : finf x = true := (h1.resolve_left h10).resolve_left (by rw [h4]; simp)
    rw [h4] at CN
    rw [h5] at CI
    exact yradix_inf x d _ w (by omega) (by omega) h3 (Lib.hid CN) (Lib.hid CI) CT
   ·rw [h4] at CN
    exact yradix_nan x d _ w (by omega) (by omega) h3 (Lib.hid CN) CT
 ·obtain ⟨r, rfl⟩ : ∃ r : Nat, d = (r : Int) := ⟨d.toNat, by omega⟩
  rw [Int.toNat_natCast] at hl
  have hr : 2 ≤ r := by omega
  have h36 : r ≤ 36 := by omega
  have h10 : r ≠ 10 := fun k => h1 (by omega)
  rw [h2] at CN
  rw [h3] at CI
  have hf := fin_rung h2 h3
  obtain ⟨q1, q2⟩ := hl.bd hr h36 hf
  obtain ⟨s1, s2⟩ := sgx_bd x q1
  have CW := Lib.hid (fun W => vwide_any (sgx x ++ l) W s1 (by omega))
  have hsg := sg_app x l
  obtain ⟨tq, ht, hle⟩ := hl
  obtain ⟨t1, t2, t3⟩ := ht.bd hr h36
  have hw := whole_bln hf
  have t0 := ord_neg x
  rw [h2, Bool.not_false, Bool.true_and] at t0
  have hy : ∃ y, AmtOf x y ∧ ((ngB x = true ∧ y = rung x) ∨ (ngB x = false ∧ y = x)) := by
   cases hg : ngB x
   ·exact ⟨x, (amt_same hx hg).1, .inr ⟨rfl, rfl⟩⟩
   ·exact ⟨rung x, .inl rfl, .inl ⟨rfl, rfl⟩⟩
  obtain ⟨y, hy1, hy2⟩ := hy
  obtain ⟨m, two, hG, CS⟩ := yscaled_amt hx hf hy1
  unfold ScQ at CS
  have hfa := sc_facts hG 0
  have e1 : vV 0 = big := by unfold vV; simp
  have e2 : vU (rung x) 0 = fmag (rung x) := by unfold vU; simp
  rw [e1, e2] at hfa
  have hD := scD_pos two 0
  have bN := scN_bln hG (p := 0) (by omega)
  have bD := scD_bln (two := two) (p := 0) hG.bd.2.1 (by omega)
  obtain ⟨N, hN⟩ : ∃ N, scN m two 0 = N := ⟨_, rfl⟩
  obtain ⟨D, hD'⟩ : ∃ D, scD two 0 = D := ⟨_, rfl⟩
  rw [hN, hD'] at CS hfa
  rw [hN] at bN
  rw [hD'] at hD bD
  obtain ⟨m1, m2⟩ := mod_cross hD big_pos hfa
  have hZ := gV_cross (r := r) hD big_pos 60 _ _ m2
  have hmod := Nat.mod_lt N hD
  have hRb : ∀ i, bln (gR r D (N % D) i) ≤ 5000 := fun i => Nat.le_trans (bln_mono (Nat.le_of_lt (gR_lt hD hmod i))) bD
  have hrb : bln r ≤ 6 := bln_le (by omega)
  have hPb : ∀ i, bln (gR r D (N % D) i * r) ≤ 5010 := fun i => by
   have := bln_mul (gR r D (N % D) i) r
   have := hRb i
   omega
  have hdig : ∀ i, gR r D (N % D) i * r / D < r := fun i => by
   rw [Nat.div_lt_iff_lt_mul hD, Nat.mul_comm r D]
   exact Nat.mul_lt_mul_of_pos_right (gR_lt hD hmod i) (by omega)
  have hQb : bln (N / D) ≤ 5000 := Nat.le_trans (bln_mono (Nat.div_le_self _ _)) bN
  have CT := Lib.hid (fun W A a c (g : NV W A a c (N / D)) => rtextr g hr h36 (by omega) (m1 ▸ ht))
  have CX := Lib.hid (fun W (i : Nat) A a c (g : NV W A a c (gR r D (N % D) i * r / D)) => rtextr g hr h36 (Nat.le_trans (bln_mono (Nat.le_of_lt (hdig i))) (by omega)) (textL_digit (hdig i)))
  have CH := Lib.hid (fun W A a c C b d (g1 : NV W A a c N) (g2 : NV W C b d D) => rnhalved g1 g2 (by omega) (by omega) hD)
  have CM := Lib.hid (fun W (i : Nat) A a c C b d (g1 : NV W A a c (gR r D (N % D) i)) (g2 : NV W C b d r) => rntimes g1 g2 (by have := hRb i; omega) (by omega))
  have CG := Lib.hid (fun W (i : Nat) A a c C b d (g1 : NV W A a c (gR r D (N % D) i * r)) (g2 : NV W C b d D) => rnhalved g1 g2 (by have := hPb i; omega) (by omega) hD)
  have hTl : Hid (tq.length ≤ 3000) := Lib.hid (by omega)
  rcases hy2 with ⟨hg, rfl⟩ | ⟨hg, rfl⟩
  ·rw [hg] at t0
   have e3 : sgx x = [45] := by unfold sgx; rw [hg]; rfl
   rw [e3] at hsg CW ⊢
   refine yradix_1 x (rung x) r N D (N % D) tq ((gV r D (N % D) 60).map dch) w hr h36 h10 hD rfl t0 (neg_run hx hg) (Lib.hid CN) (Lib.hid CI) (Lib.hid CS) CH CT CM CG CX hTl (Lib.hid rfl) _ ?_
   rw [hZ, ← hle, show (⟨#[45]⟩ : ByteArray) = strOf [45] from rfl, hsg]
   exact CW
  ·rw [hg] at t0
   have e3 : sgx y = [] := by unfold sgx; rw [hg]; rfl
   rw [e3] at hsg CW ⊢
   refine yradix_0 y r N D (N % D) tq ((gV r D (N % D) 60).map dch) w hr h36 h10 hD rfl t0 (Lib.hid CN) (Lib.hid CI) (Lib.hid CS) CH CT CM CG CX hTl (Lib.hid rfl) _ ?_
   rw [hZ, ← hle, show (⟨#[]⟩ : ByteArray) = strOf [] from rfl, hsg]
   exact CW
set_option maxRecDepth 100000 in
set_option maxHeartbeats 1000000 in
theorem radix_any (x : Nat) (d : Int) (w : World) (hx : x < 18446744073709551616) (ht : Tab10 w) (hz : TzTab w) :
  Ct 4 #[.float .f64 x, .int .i64 d] (.bool true) w := by
 obtain ⟨S, K, hs⟩ := rdr_ex x d
 have C1 := Lib.hid (fun W (hW : W = w) => tRadix_any (w := W) hx (hW ▸ ht) (hW ▸ hz) hs)
 have C2 := Lib.hid (fun W => yRadix_any (w := W) hx hs)
 have C6 := Lib.hid (fun W (h : Below w.heap.size w W) => awake_any W (ht.on h) (tz_on hz h))
 clear hx ht hz hs
 go_enter Tryz.func4, Tryz.ntmps4
 go_wp2_with fail
 refine (C1.out _ rfl).mono ?_
 rintro e w1 ⟨rfl, b1⟩
 have B1 := Lib.hid b1
 clear b1
 go_wp2_with fail
 refine (C2.out _).mono ?_
 rintro e w2 ⟨rfl, b2⟩
 have B2 := Lib.hid (below_le B1.out b2)
 clear b2
 go_wp2_with fail
 refine (C6.out _ B2.out).mono ?_
 rintro e w5 ⟨rfl, b5⟩
 have B5 := Lib.hid (below_le B2.out b5)
 clear b5
 go_wp2
 go_ret
 exact ⟨rfl, B5.out⟩

end Go.Proofs.YtfcpkdafkmohkaaGreatDoor
