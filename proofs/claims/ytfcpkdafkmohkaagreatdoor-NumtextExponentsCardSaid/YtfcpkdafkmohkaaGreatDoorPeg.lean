/-
  Merged texts (Zh, Zi, Zj).
-/
import Derived.Test.YtfcpkdafkmohkaaGreatDoorPef
import Derived.Shelf.Strings.SlTrimAscii
import Derived.Shelf.Strings.Builder1
import Derived.Shelf.Strings.Builder2
import Derived.Shelf.Strings.OnBuilder
import Derived.Shelf.Strings.Trim
import Derived.Shelf.Small.Utf8
import Derived.Shelf.Small.Bits
import Derived.Shelf.Small.Strs
import Derived.Shelf.Small.Wraps
import Derived.Shelf.Strings.BuilderF
import Derived.Shelf.Strings.BuilderK
import Derived.Shelf.Strconv.Itoa0
import Derived.Shelf.Strconv.Itoa1
import Derived.Shelf.LaysM
import Derived.Shelf.Strconv.Itoa2
import Derived.Shelf.Strconv.Itoa3
import Derived.Shelf.Strings.Search1
import Derived.Shelf.Strings.Prefix
import Derived.Shelf.Unicode.Latin
import Derived.Shelf.Strings.Runes
import Derived.Shelf.Strings.AsciiSet
import Derived.Shelf.Bits.Mul64
import Derived.Shelf.Strings.Repeat
import Derived.Shelf.Unicode.DecodeSlow
import Derived.Shelf.Unicode.CaseLookup
import Derived.Shelf.Unicode.CaseConvert
import Derived.Shelf.Unicode.CaseTo
import Derived.Shelf.Unicode.CaseLaid
import Derived.Test.YtfcpkdafkmohkaaGreatDoorProg
import GoSem.Core.Utf8
import Derived.WalkKit
import Derived.WalkSpells
import Derived.WalkLawsBesides
import Derived.Deep.QuietTactic
import Derived.BigQuiet
import Derived.Lib.Hide
import Derived.Deep.OwnRows
import Derived.Laws.CopyOwn
import Derived.Deep.AppendLies
import Derived.Lib.BitFns
import Derived.Lib.Strings
import Derived.Laws.BitsAllLaws
import Derived.Lib.LaidTab
import Derived.ProofKit
import Derived.OpenShut
import Derived.SizedLaws
import Derived.Laws.BytesString
import Derived.Laws.Cells
import Derived.Deep.RegionWith
import Derived.BigRegion
import Derived.Test.YtfcpkdafkmohkaaGreatDoorRows
import Derived.Lib.ItoaNum
import Derived.Deep.DeepCutAuto
import Ieee.Arith
import GoSem.Core.Float
import Derived.Laws.FloatArith
import Derived.Laws.Externs
import Derived.Deep.RegionHeld3
import Derived.Laws.Closers25b
import Derived.Lib.SlTrimSet
import Derived.Lib.Case
import Derived.Deep.WholeRow
import Derived.Laws.Tables
import Derived.Laws.EntriesVeiled
import Derived.Lib.AppendIntMem
namespace Go.Proofs.YtfcpkdafkmohkaaGreatDoor
open Go.RowKit
def ExP (d : Int) (r : Nat) (l : List Nat) : Prop := (d < 0 ∧ 0 < r ∧ ∃ D N, SQ r D N ∧ l = scL D (N - 1)) ∨ (¬ (d < 0 ∧ 0 < r) ∧ ∃ D E, LdQ r (d.toNat + 1) D E ∧ l = scL D E)
def PrP (k r : Nat) (l : List Nat) : Prop := ∃ D E, LdQ r k D E ∧ l = if E < -6 ∨ (k : Int) ≤ E then scL D E else ptL D ((k : Int) - 1 - E).toNat
end Go.Proofs.YtfcpkdafkmohkaaGreatDoor
namespace Go.Proofs.YtfcpkdafkmohkaaGreatDoor
set_option maxRecDepth 100000
open Go.RowKit
set_option maxHeartbeats 1000000 in
theorem texp_short (x : Nat) (d N e : Int) (pb : Addr) (S F : ByteArray) (w : World) (hp : w.cell? pb = some (.int .i64 d)) (hd : d < 0) (t0 : (FloatKind.f64.format.order x 0 == some .gt) = true) (n1 : -1000 ≤ N) (n2 : N ≤ 1000) (he : N - 1 = e)
  (C1 : Hid (∀ W, W = w → Ct 40 #[.float .f64 x] (.tuple #[.string S, .int .i64 N]) W))
  (C2 : Hid (∀ W, Below w.heap.size w W → Ct 59 #[.string S, .int .i64 e] (.string F) W)) :
  Ct 58 #[.float .f64 x, .pointer (some pb)] (.string F) w := by
 go_enter Tryz.func58, Tryz.ntmps58
 go_wp2_with fail
 refine (C1.out _ rfl).mono ?_
 rintro e w1 ⟨rfl, b1⟩
 have B1 := Lib.hid b1
 clear b1
 go_wp2_with fail
 refine (C2.out _ B1.out).mono ?_
 rintro e w2 ⟨rfl, b2⟩
 have B2 := Lib.hid (below_le B1.out b2)
 clear b2
 go_wp2
 go_ret
 exact ⟨rfl, B2.out⟩
set_option maxHeartbeats 1000000 in
theorem texp_zero (x c : Nat) (d m E : Int) (pb : Addr) (S F : ByteArray) (w : World) (hp : w.cell? pb = some (.int .i64 d)) (hd : d < 0) (t0 : (FloatKind.f64.format.order x 0 == some .gt) = false) (hm : max d 0 = m) (hm0 : 0 ≤ m) (hm2 : m ≤ 20) (k1 : m + 1 = (c : Int))
  (C1 : Hid (∀ W, W = w → Ct 60 #[.float .f64 x, .int .i64 (c : Int)] (.tuple #[.string S, .int .i64 E]) W))
  (C2 : Hid (∀ W, Below w.heap.size w W → Ct 59 #[.string S, .int .i64 E] (.string F) W)) :
  Ct 58 #[.float .f64 x, .pointer (some pb)] (.string F) w := by
 go_enter Tryz.func58, Tryz.ntmps58
 go_wp2_with fail
 refine (C1.out _ rfl).mono ?_
 rintro e w1 ⟨rfl, b1⟩
 have B1 := Lib.hid b1
 clear b1
 go_wp2_with fail
 refine (C2.out _ B1.out).mono ?_
 rintro e w2 ⟨rfl, b2⟩
 have B2 := Lib.hid (below_le B1.out b2)
 clear b2
 go_wp2
 go_ret
 exact ⟨rfl, B2.out⟩
set_option maxHeartbeats 1000000 in
theorem texp_lead (x c : Nat) (d m E : Int) (pb : Addr) (S F : ByteArray) (w : World) (hp : w.cell? pb = some (.int .i64 d)) (hd : ¬ d < 0) (hm : max d 0 = m) (hm0 : 0 ≤ m) (hm2 : m ≤ 20) (k1 : m + 1 = (c : Int))
  (C1 : Hid (∀ W, W = w → Ct 60 #[.float .f64 x, .int .i64 (c : Int)] (.tuple #[.string S, .int .i64 E]) W))
  (C2 : Hid (∀ W, Below w.heap.size w W → Ct 59 #[.string S, .int .i64 E] (.string F) W)) :
  Ct 58 #[.float .f64 x, .pointer (some pb)] (.string F) w := by
 go_enter Tryz.func58, Tryz.ntmps58
 go_wp2_with fail
 refine (C1.out _ rfl).mono ?_
 rintro e w1 ⟨rfl, b1⟩
 have B1 := Lib.hid b1
 clear b1
 go_wp2_with fail
 refine (C2.out _ B1.out).mono ?_
 rintro e w2 ⟨rfl, b2⟩
 have B2 := Lib.hid (below_le B1.out b2)
 clear b2
 go_wp2
 go_ret
 exact ⟨rfl, B2.out⟩
set_option maxHeartbeats 1000000 in
theorem tprec_low (x k : Nat) (E : Int) (pb : Addr) (S F : ByteArray) (w : World) (hp : w.cell? pb = some (.int .i64 k)) (hE : E < -6)
  (C1 : Hid (∀ W, W = w → Cp 60 #[.float .f64 x, .int .i64 k] W fun e w' => e = .returned (.tuple #[.string S, .int .i64 E]) ∧ Below W.heap.size W w' ∧ W.cell? pb = w'.cell? pb))
  (C2 : Hid (∀ W, Below w.heap.size w W → Ct 59 #[.string S, .int .i64 E] (.string F) W)) :
  Ct 64 #[.float .f64 x, .pointer (some pb)] (.string F) w := by
 go_enter Tryz.func64, Tryz.ntmps64
 go_wp2_with fail
 refine (C1.out _ rfl).mono ?_
 rintro e w1 ⟨rfl, b1, hc⟩
 have hp1 := hc.symm.trans hp
 have B1 := Lib.hid b1
 clear b1 hc hp
 go_wp2_with fail
 refine (C2.out _ B1.out).mono ?_
 rintro e w2 ⟨rfl, b2⟩
 have B2 := Lib.hid (below_le B1.out b2)
 clear b2
 go_wp2
 go_ret
 exact ⟨rfl, B2.out⟩
set_option maxHeartbeats 1000000 in
theorem tprec_high (x k : Nat) (E : Int) (pb : Addr) (S F : ByteArray) (w : World) (hp : w.cell? pb = some (.int .i64 k)) (hE : ¬ E < -6) (hE2 : (k : Int) ≤ E)
  (C1 : Hid (∀ W, W = w → Cp 60 #[.float .f64 x, .int .i64 k] W fun e w' => e = .returned (.tuple #[.string S, .int .i64 E]) ∧ Below W.heap.size W w' ∧ W.cell? pb = w'.cell? pb))
  (C2 : Hid (∀ W, Below w.heap.size w W → Ct 59 #[.string S, .int .i64 E] (.string F) W)) :
  Ct 64 #[.float .f64 x, .pointer (some pb)] (.string F) w := by
 go_enter Tryz.func64, Tryz.ntmps64
 go_wp2_with fail
 refine (C1.out _ rfl).mono ?_
 rintro e w1 ⟨rfl, b1, hc⟩
 have hp1 := hc.symm.trans hp
 have B1 := Lib.hid b1
 clear b1 hc hp
 go_wp2_with fail
 refine (C2.out _ B1.out).mono ?_
 rintro e w2 ⟨rfl, b2⟩
 have B2 := Lib.hid (below_le B1.out b2)
 clear b2
 go_wp2
 go_ret
 exact ⟨rfl, B2.out⟩
set_option maxHeartbeats 1000000 in
theorem tprec_mid (x k : Nat) (E j : Int) (pb : Addr) (S F : ByteArray) (w : World) (hp : w.cell? pb = some (.int .i64 k)) (hk : k ≤ 21) (hE : ¬ E < -6) (hE2 : ¬ (k : Int) ≤ E) (hj : (k : Int) - 1 - E = j)
  (C1 : Hid (∀ W, W = w → Cp 60 #[.float .f64 x, .int .i64 k] W fun e w' => e = .returned (.tuple #[.string S, .int .i64 E]) ∧ Below W.heap.size W w' ∧ W.cell? pb = w'.cell? pb))
  (C2 : Hid (∀ W, Below w.heap.size w W → Ct 55 #[.string S, .int .i64 j] (.string F) W)) :
  Ct 64 #[.float .f64 x, .pointer (some pb)] (.string F) w := by
 have k2 : (k : Int) ≤ 21 := by omega
 go_enter Tryz.func64, Tryz.ntmps64
 go_wp2_with fail
 refine (C1.out _ rfl).mono ?_
 rintro e w1 ⟨rfl, b1, hc⟩
 have hp1 := hc.symm.trans hp
 have B1 := Lib.hid b1
 clear b1 hc hp
 go_wp2_with fail
 refine (C2.out _ B1.out).mono ?_
 rintro e w2 ⟨rfl, b2⟩
 have B2 := Lib.hid (below_le B1.out b2)
 clear b2
 go_wp2
 go_ret
 exact ⟨rfl, B2.out⟩
set_option maxHeartbeats 1000000 in
theorem tExponential_bad (x : Nat) (d : Int) (w : World) (hd : d < -1 ∨ 20 < d) :
  Ct 21 #[.float .f64 x, .int .i64 d] (.tuple #[.string ⟨#[]⟩, .int .i64 1]) w := by
 rcases (show d < -1 ∨ (¬ d < -1 ∧ 20 < d) by omega) with h1 | ⟨h1, h2⟩
 all_goals
  go_enter Tryz.func21, Tryz.ntmps21
  go_wp2
  go_ret2
  exact ⟨rfl, (Below.refl _ _).alloc (Nat.le_refl _) _⟩
set_option maxHeartbeats 1000000 in
theorem tExponential_ok (x : Nat) (d : Int) (F : ByteArray) (w : World) (h1 : ¬ d < -1) (h2 : ¬ 20 < d)
  (CS : Hid (∀ W pb, Below w.heap.size w W → W.cell? pb = some (.int .i64 d) → Ct 43 #[.float .f64 x, .func (Fn.func 58) #[] #[.pointer (some pb)]] (.string F) W)) :
  Ct 21 #[.float .f64 x, .int .i64 d] (.tuple #[.string F, .int .i64 0]) w := by
 have hmf : ∀ (fn : Fn) (first cap : Array Value) (w : World), (Instr.makeFunc fn first cap).run Tryz.prog w = .ok (.func fn first cap) w := fun _ _ _ _ => rfl
 have B0 := Lib.hid ((Below.refl w.heap.size w).alloc (Nat.le_refl _) (.cells #[.int .i64 d] 3))
 have hc : (w.alloc (.cells #[.int .i64 d] 3)).cell? ⟨w.heap.size, 0, none⟩ = some (.int .i64 d) := by rw [World.cell?_alloc_new]; rfl
 have HC := Lib.hid hc
 clear hc
 go_enter Tryz.func21, Tryz.ntmps21
 go_wp2_with fail
 refine (CS.out _ _ B0.out HC.out).mono ?_
 rintro e w2 ⟨rfl, b2⟩
 have B2 := Lib.hid (below_le B0.out b2)
 clear b2
 go_wp2
 go_ret2
 exact ⟨rfl, B2.out⟩
set_option maxHeartbeats 1000000 in
theorem tPrecision_bad (x : Nat) (d : Int) (w : World) (hd : d < 1 ∨ 21 < d) :
  Ct 23 #[.float .f64 x, .int .i64 d] (.tuple #[.string ⟨#[]⟩, .int .i64 1]) w := by
 rcases (show d < 1 ∨ (¬ d < 1 ∧ 21 < d) by omega) with h1 | ⟨h1, h2⟩
 all_goals
  go_enter Tryz.func23, Tryz.ntmps23
  go_wp2
  go_ret2
  exact ⟨rfl, (Below.refl _ _).alloc (Nat.le_refl _) _⟩
set_option maxHeartbeats 1000000 in
theorem tPrecision_ok (x : Nat) (d : Int) (F : ByteArray) (w : World) (h1 : ¬ d < 1) (h2 : ¬ 21 < d)
  (CS : Hid (∀ W pb, Below w.heap.size w W → W.cell? pb = some (.int .i64 d) → Ct 43 #[.float .f64 x, .func (Fn.func 64) #[] #[.pointer (some pb)]] (.string F) W)) :
  Ct 23 #[.float .f64 x, .int .i64 d] (.tuple #[.string F, .int .i64 0]) w := by
 have hmf : ∀ (fn : Fn) (first cap : Array Value) (w : World), (Instr.makeFunc fn first cap).run Tryz.prog w = .ok (.func fn first cap) w := fun _ _ _ _ => rfl
 have B0 := Lib.hid ((Below.refl w.heap.size w).alloc (Nat.le_refl _) (.cells #[.int .i64 d] 3))
 have hc : (w.alloc (.cells #[.int .i64 d] 3)).cell? ⟨w.heap.size, 0, none⟩ = some (.int .i64 d) := by rw [World.cell?_alloc_new]; rfl
 have HC := Lib.hid hc
 clear hc
 go_enter Tryz.func23, Tryz.ntmps23
 go_wp2_with fail
 refine (CS.out _ _ B0.out HC.out).mono ?_
 rintro e w2 ⟨rfl, b2⟩
 have B2 := Lib.hid (below_le B0.out b2)
 clear b2
 go_wp2
 go_ret2
 exact ⟨rfl, B2.out⟩
end Go.Proofs.YtfcpkdafkmohkaaGreatDoor
namespace Go.Proofs.YtfcpkdafkmohkaaGreatDoor
open Go.RowKit
theorem scL_bd {l : List Nat} {e : Int} (hl : ∀ c ∈ l, dg10 c = true) (hn : l.length ≤ 100) (h1 : -1000 ≤ e) (h2 : e ≤ 1000) : (∀ c ∈ scL l e, c < 256) ∧ (scL l e).length ≤ 200 := by
 refine ⟨scL_lt fun c hc => by have := dg10_iff.1 (hl c hc); omega, ?_⟩
 have := scL_len (l := l) (e := e) (by omega)
 omega
theorem SQ.dig {r : Nat} {D : List Nat} {N : Int} (h : SQ r D N) : ∀ c ∈ D, dg10 c = true := by
 obtain ⟨d, _, rfl, _⟩ := h.form
 exact dL_dig d
theorem ExP.bd {d : Int} {r : Nat} {l : List Nat} (hd : d ≤ 20) (hr : r < 9218868437227405312) (h : ExP d r l) : (∀ c ∈ l, c < 256) ∧ l.length ≤ 200 := by
 rcases h with ⟨_, h0, D, N, hq, rfl⟩ | ⟨_, D, E, hl, rfl⟩
 ·obtain ⟨b1, b2, b3, b4, b5⟩ := hq.bd h0 hr
  exact scL_bd hq.dig (by omega) (by omega) (by omega)
 ·obtain ⟨h1, h2, h3, h4⟩ := hl.len (by omega)
  exact scL_bd h2 (by omega) (by omega) (by omega)
theorem PrP.bd {k r : Nat} {l : List Nat} (hk : 1 ≤ k) (hk2 : k ≤ 21) (h : PrP k r l) : (∀ c ∈ l, c < 256) ∧ l.length ≤ 200 := by
 obtain ⟨D, E, hl, rfl⟩ := h
 obtain ⟨h1, h2, h3, h4⟩ := hl.len hk
 split
 ·exact scL_bd h2 (by omega) (by omega) (by omega)
 ·rename_i h
  refine ⟨ptL_lt fun c hc => by have := dg10_iff.1 (h2 c hc); omega, ?_⟩
  by_cases h0 : ((k : Int) - 1 - E).toNat = 0
  ·unfold ptL
   rw [if_pos h0]
   omega
  ·rw [ptL_len _ _ h0]
   omega
theorem exp_ex (d : Int) {r : Nat} (hr : r < 9218868437227405312) : ∃ l, ExP d r l := by
 by_cases h : d < 0 ∧ 0 < r
 ·obtain ⟨D, N, hq⟩ := sq_ex h.2 hr
  exact ⟨_, .inl ⟨h.1, h.2, D, N, hq, rfl⟩⟩
 ·obtain ⟨D, E, hl⟩ := ldq_ex (count := d.toNat + 1) hr
  exact ⟨_, .inr ⟨h, D, E, hl, rfl⟩⟩
theorem prp_ex (k : Nat) {r : Nat} (hr : r < 9218868437227405312) : ∃ l, PrP k r l := by
 obtain ⟨D, E, hl⟩ := ldq_ex (count := k) hr
 exact ⟨_, D, E, hl, rfl⟩
theorem tExponential1_any {r : Nat} {d : Int} {l : List Nat} {pb : Addr} {w : World} (hr : r < 9218868437227405312) (hd : -1 ≤ d) (hd2 : d ≤ 20) (ht : Tab10 w) (hz : TzTab w) (hp : w.cell? pb = some (.int .i64 d)) (h : ExP d r l) :
  Ct 58 #[.float .f64 r, .pointer (some pb)] (.string (strOf l)) w := by
 have t0 := ord_gt_pos (x := r) (y := 0) (by omega) (by omega)
 rcases h with ⟨h1, h0, D, N, hq, rfl⟩ | ⟨h1, D, E, hl, rfl⟩
 ·obtain ⟨b1, b2, b3, b4, b5⟩ := hq.bd h0 hr
  rw [decide_eq_true h0] at t0
  exact texp_short r d N (N - 1) pb _ _ w hp h1 t0 (by omega) (by omega) rfl (Lib.hid fun W hW => by subst hW; exact tshortest_is h0 hr ht hz hq) (Lib.hid fun W hW => tscientific_any D (N - 1) W b5 b3 (by omega) (by omega) (by omega) (ht.on hW))
 ·obtain ⟨h5, h2, h3, h4⟩ := hl.len (by omega)
  have hD : ∀ c ∈ D, c < 256 := fun c hc => by
   have := dg10_iff.1 (h2 c hc)
   omega
  have C1 : Hid (∀ W, W = w → Ct 60 #[.float .f64 r, .int .i64 ((d.toNat + 1 : Nat) : Int)] (.tuple #[.string (strOf D), .int .i64 E]) W) := Lib.hid fun W hW => by
   subst hW
   exact tleading_any hr hz (by omega) (by omega) hl
  have C2 := Lib.hid (fun W (hW : Below w.heap.size w W) => tscientific_any D E W hD (by omega) (by omega) (by omega) (by omega) (ht.on hW))
  by_cases hn : d < 0
  ·have hr0 : r = 0 := by
    have : ¬ 0 < r := fun k => h1 ⟨hn, k⟩
    omega
   rw [decide_eq_false (by omega)] at t0
   exact texp_zero r (d.toNat + 1) d 0 E pb _ _ w hp hn t0 (by omega) (by omega) (by omega) (by omega) C1 C2
  ·exact texp_lead r (d.toNat + 1) d d E pb _ _ w hp hn (by omega) (by omega) (by omega) (by omega) C1 C2
theorem tPrecision1_any {r k : Nat} {l : List Nat} {pb : Addr} {w : World} (hr : r < 9218868437227405312) (hk : 1 ≤ k) (hk2 : k ≤ 21) (ht : Tab10 w) (hz : TzTab w) (hp : w.cell? pb = some (.int .i64 k)) (h : PrP k r l) :
  Ct 64 #[.float .f64 r, .pointer (some pb)] (.string (strOf l)) w := by
 obtain ⟨D, E, hl, rfl⟩ := h
 obtain ⟨h5, h2, h3, h4⟩ := hl.len hk
 have hD : ∀ c ∈ D, c < 256 := fun c hc => by
  have := dg10_iff.1 (h2 c hc)
  omega
 have C1 : Hid (∀ W, W = w → Cp 60 #[.float .f64 r, .int .i64 (k : Int)] W fun e w' => e = .returned (.tuple #[.string (strOf D), .int .i64 E]) ∧ Below W.heap.size W w' ∧ W.cell? pb = w'.cell? pb) := Lib.hid fun W hW => by
  subst hW
  exact (tleading_any hr hz hk (by omega) hl).mono fun e w' ⟨a, b⟩ => ⟨a, b, hp.trans (kept_cell b pb _ hp).symm⟩
 have C2 := Lib.hid (fun W (hW : Below w.heap.size w W) => tscientific_any D E W hD (by omega) (by omega) (by omega) (by omega) (ht.on hW))
 by_cases hs : E < -6 ∨ (k : Int) ≤ E
 ·rw [if_pos hs]
  by_cases h6 : E < -6
  ·exact tprec_low r k E pb _ _ w hp h6 C1 C2
  ·exact tprec_high r k E pb _ _ w hp h6 (by omega) C1 C2
 ·rw [if_neg hs]
  exact tprec_mid r k E (((k : Int) - 1 - E).toNat : Nat) pb _ _ w hp hk2 (by omega) (by omega) (by omega) C1 (Lib.hid fun W _ => tpointed_any D _ W hD (by omega) (by omega))
def DgR (T : Nat → List Nat → Prop) (x : Nat) (bad : Prop) (S : ByteArray) (K : Int) : Prop := (bad ∧ S = ⟨#[]⟩ ∧ K = 1) ∨ (¬ bad ∧ K = 0 ∧ ∃ L, S = wdS L ∧ SgQ T x L)
theorem dgr_ex {T : Nat → List Nat → Prop} (x : Nat) (bad : Prop) (hT : ∀ r, r < 9218868437227405312 → ∃ l, T r l) : ∃ S K, DgR T x bad S K := by
 by_cases h : bad
 ·exact ⟨_, _, .inl ⟨h, rfl, rfl⟩⟩
 ·obtain ⟨L, hL⟩ := sgq_ex x hT
  exact ⟨_, _, .inr ⟨h, rfl, L, rfl, hL⟩⟩
theorem tExponential_any {x : Nat} {d : Int} {S : ByteArray} {K : Int} {w : World} (hx : x < 18446744073709551616) (ht : Tab10 w) (hz : TzTab w) (h : DgR (ExP d) x (d < -1 ∨ 20 < d) S K) :
  Ct 21 #[.float .f64 x, .int .i64 d] (.tuple #[.string S, .int .i64 K]) w := by
 rcases h with ⟨hd, rfl, rfl⟩ | ⟨hd, rfl, L, rfl, hL⟩
 ·exact tExponential_bad x d w hd
 ·refine tExponential_ok x d _ w (by omega) (by omega) (Lib.hid fun W pb hW hp => tsigned_cap (T := ExP d) 58 pb hx (fun args W' => by go_simp) (fun r l hr hl => ?_) hL)
  obtain ⟨l1, l2⟩ := hl.bd (by omega) hr
  exact ⟨l1, by omega, tExponential1_any hr (by omega) (by omega) (ht.on hW) (tz_on hz hW) hp hl⟩
theorem tPrecision_any {x : Nat} {d : Int} {S : ByteArray} {K : Int} {w : World} (hx : x < 18446744073709551616) (ht : Tab10 w) (hz : TzTab w) (h : DgR (PrP d.toNat) x (d < 1 ∨ 21 < d) S K) :
  Ct 23 #[.float .f64 x, .int .i64 d] (.tuple #[.string S, .int .i64 K]) w := by
 rcases h with ⟨hd, rfl, rfl⟩ | ⟨hd, rfl, L, rfl, hL⟩
 ·exact tPrecision_bad x d w hd
 ·obtain ⟨k, rfl⟩ : ∃ k : Nat, d = (k : Int) := ⟨d.toNat, by omega⟩
  rw [Int.toNat_natCast] at hL
  refine tPrecision_ok x k _ w (by omega) (by omega) (Lib.hid fun W pb hW hp => tsigned_cap (T := PrP k) 64 pb hx (fun args W' => by go_simp) (fun r l hr hl => ?_) hL)
  obtain ⟨l1, l2⟩ := hl.bd (by omega) (by omega)
  exact ⟨l1, by omega, tPrecision1_any hr (by omega) (by omega) (ht.on hW) (tz_on hz hW) hp hl⟩

end Go.Proofs.YtfcpkdafkmohkaaGreatDoor
namespace Go.Proofs.YtfcpkdafkmohkaaGreatDoor
open Go.RowKit
set_option maxRecDepth 100000 in
set_option maxHeartbeats 1000000 in
theorem ysigned_neg (x y : Nat) (w : World) (t0 : (FloatKind.f64.format.order x 0 == some .lt) = true) (r3 : ∀ W, (Op.unary UnOp.neg (.float .f64 x)).run Tryz.prog W = .ok (.float .f64 y) W) :
  Cq 61 #[.float .f64 x] (.tuple #[.string ⟨#[45]⟩, .float .f64 y]) w := by
 go_enter Tryz.func61, Tryz.ntmps61
 go_wp2
 go_ret2
 exact ⟨rfl, rfl⟩
set_option maxRecDepth 100000 in
set_option maxHeartbeats 1000000 in
theorem ysigned_pos (x : Nat) (w : World) (t0 : (FloatKind.f64.format.order x 0 == some .lt) = false) :
  Cq 61 #[.float .f64 x] (.tuple #[.string ⟨#[]⟩, .float .f64 x]) w := by
 go_enter Tryz.func61, Tryz.ntmps61
 go_wp2
 go_ret2
 exact ⟨rfl, rfl⟩
theorem amt_same {x : Nat} (hx : x < 18446744073709551616) (hg : ngB x = false) : AmtOf x x ∧ (0 < rung x → x = rung x) := by
 unfold ngB fneg at hg
 unfold AmtOf
 by_cases h0 : 0 < rung x
 ·rw [decide_eq_true h0, Bool.and_true] at hg
  have : ¬ x / 9223372036854775808 % 2 = 1 := fun k => by rw [k] at hg; cases hg
  have hr : rung x = x := by
   unfold rung
   omega
  exact ⟨.inl hr.symm, fun _ => hr.symm⟩
 ·exact ⟨.inr ⟨by omega, rfl⟩, fun h => absurd h h0⟩
theorem neg_run {x : Nat} (hx : x < 18446744073709551616) (hg : ngB x = true) (W' : World) : (Op.unary UnOp.neg (.float .f64 x)).run Tryz.prog W' = .ok (.float .f64 (rung x)) W' := by
 have hf : fneg x = true := by
  unfold ngB at hg
  exact (Bool.and_eq_true _ _ ▸ hg).1
 have hhi := wd_hi hx hf
 have e := negW_hi (rung_lt x)
 rw [← hhi] at e
 have h4 : (Op.unary UnOp.neg (.float .f64 x)).run Tryz.prog W' = .ok (.float .f64 (negW x)) W' := rfl
 rw [h4, e]
theorem ysigned_any (x : Nat) (hx : x < 18446744073709551616) (hn : fnan x = false) : ∃ y, AmtOf x y ∧ (0 < rung x → y = rung x) ∧ ∀ W, Cq 61 #[.float .f64 x] (.tuple #[.string (strOf (sgx x)), .float .f64 y]) W := by
 have t0 := ord_neg x
 rw [hn, Bool.not_false, Bool.true_and] at t0
 unfold sgx
 cases hg : ngB x
 ·rw [hg] at t0
  have hy := amt_same hx hg
  exact ⟨x, hy.1, hy.2, fun W => ysigned_pos x W t0⟩
 ·rw [hg] at t0
  exact ⟨rung x, .inl rfl, fun _ => rfl, fun W => ysigned_neg x (rung x) W t0 (neg_run hx hg)⟩
end Go.Proofs.YtfcpkdafkmohkaaGreatDoor
namespace Go.Proofs.YtfcpkdafkmohkaaGreatDoor
set_option maxRecDepth 100000
open Go.RowKit
set_option maxHeartbeats 1000000 in
theorem yExponential_bad (x : Nat) (d : Int) (w : World) (hd : d < -1 ∨ 20 < d) :
  Cq 22 #[.float .f64 x, .int .i64 d] (.tuple #[.string ⟨#[]⟩, .int .i64 1]) w := by
 rcases (show d < -1 ∨ (¬ d < -1 ∧ 20 < d) by omega) with h1 | ⟨h1, h2⟩
 all_goals
  go_enter Tryz.func22, Tryz.ntmps22
  go_wp2
  go_ret2
  exact ⟨rfl, rfl⟩
set_option maxHeartbeats 1000000 in
theorem yExponential_nan (x : Nat) (d : Int) (F : ByteArray) (w : World) (h1 : ¬ d < -1) (h2 : ¬ 20 < d)
  (CN : Hid (∀ W, Cq 34 #[.float .f64 x] (.bool true) W))
  (CT : Hid (∀ W, Ct 15 #[.float .f64 x] (.string F) W)) :
  Ct 22 #[.float .f64 x, .int .i64 d] (.tuple #[.string F, .int .i64 0]) w := by
 go_enter Tryz.func22, Tryz.ntmps22
 go_wp2_with fail
 refine (CN.out _).mono ?_
 rintro e w' ⟨rfl, rfl⟩
 go_wp2_with fail
 refine (CT.out _).mono ?_
 rintro e w2 ⟨rfl, b2⟩
 have B2 := Lib.hid b2
 clear b2
 go_wp2
 go_ret2
 exact ⟨rfl, B2.out⟩
set_option maxHeartbeats 1000000 in
theorem yExponential_inf (x : Nat) (d : Int) (F : ByteArray) (w : World) (h1 : ¬ d < -1) (h2 : ¬ 20 < d)
  (CN : Hid (∀ W, Cq 34 #[.float .f64 x] (.bool false) W))
  (CI : Hid (∀ W, Cq 36 #[.float .f64 x, .int .i64 0] (.bool true) W))
  (CT : Hid (∀ W, Ct 15 #[.float .f64 x] (.string F) W)) :
  Ct 22 #[.float .f64 x, .int .i64 d] (.tuple #[.string F, .int .i64 0]) w := by
 go_enter Tryz.func22, Tryz.ntmps22
 go_wp2_with fail
 refine (CN.out _).mono ?_
 rintro e w' ⟨rfl, rfl⟩
 go_wp2_with fail
 refine (CI.out _).mono ?_
 rintro e w' ⟨rfl, rfl⟩
 go_wp2_with fail
 refine (CT.out _).mono ?_
 rintro e w2 ⟨rfl, b2⟩
 have B2 := Lib.hid b2
 clear b2
 go_wp2
 go_ret2
 exact ⟨rfl, B2.out⟩
set_option maxHeartbeats 1000000 in
theorem yPrecision_bad (x : Nat) (d : Int) (w : World) (hd : d < 1 ∨ 21 < d) :
  Cq 24 #[.float .f64 x, .int .i64 d] (.tuple #[.string ⟨#[]⟩, .int .i64 1]) w := by
 rcases (show d < 1 ∨ (¬ d < 1 ∧ 21 < d) by omega) with h1 | ⟨h1, h2⟩
 all_goals
  go_enter Tryz.func24, Tryz.ntmps24
  go_wp2
  go_ret2
  exact ⟨rfl, rfl⟩
set_option maxHeartbeats 1000000 in
theorem yPrecision_nan (x : Nat) (d : Int) (F : ByteArray) (w : World) (h1 : ¬ d < 1) (h2 : ¬ 21 < d)
  (CN : Hid (∀ W, Cq 34 #[.float .f64 x] (.bool true) W))
  (CT : Hid (∀ W, Ct 15 #[.float .f64 x] (.string F) W)) :
  Ct 24 #[.float .f64 x, .int .i64 d] (.tuple #[.string F, .int .i64 0]) w := by
 go_enter Tryz.func24, Tryz.ntmps24
 go_wp2_with fail
 refine (CN.out _).mono ?_
 rintro e w' ⟨rfl, rfl⟩
 go_wp2_with fail
 refine (CT.out _).mono ?_
 rintro e w2 ⟨rfl, b2⟩
 have B2 := Lib.hid b2
 clear b2
 go_wp2
 go_ret2
 exact ⟨rfl, B2.out⟩
set_option maxHeartbeats 1000000 in
theorem yPrecision_inf (x : Nat) (d : Int) (F : ByteArray) (w : World) (h1 : ¬ d < 1) (h2 : ¬ 21 < d)
  (CN : Hid (∀ W, Cq 34 #[.float .f64 x] (.bool false) W))
  (CI : Hid (∀ W, Cq 36 #[.float .f64 x, .int .i64 0] (.bool true) W))
  (CT : Hid (∀ W, Ct 15 #[.float .f64 x] (.string F) W)) :
  Ct 24 #[.float .f64 x, .int .i64 d] (.tuple #[.string F, .int .i64 0]) w := by
 go_enter Tryz.func24, Tryz.ntmps24
 go_wp2_with fail
 refine (CN.out _).mono ?_
 rintro e w' ⟨rfl, rfl⟩
 go_wp2_with fail
 refine (CI.out _).mono ?_
 rintro e w' ⟨rfl, rfl⟩
 go_wp2_with fail
 refine (CT.out _).mono ?_
 rintro e w2 ⟨rfl, b2⟩
 have B2 := Lib.hid b2
 clear b2
 go_wp2
 go_ret2
 exact ⟨rfl, B2.out⟩
set_option maxHeartbeats 1000000 in
theorem yexp_lead (x y c : Nat) (E0 E : Int) (d : Int) (G D0 D P S F : ByteArray) (w : World) (hd : ¬ d < 0) (hd2 : d ≤ 20) (hc : d + 1 = (c : Int))
  (CN : Hid (∀ W, Cq 34 #[.float .f64 x] (.bool false) W))
  (CI : Hid (∀ W, Cq 36 #[.float .f64 x, .int .i64 0] (.bool false) W))
  (CS : Hid (∀ W, Cq 61 #[.float .f64 x] (.tuple #[.string G, .float .f64 y]) W))
  (C0 : Hid (∀ W, Ct 62 #[.float .f64 y, .int .i64 1] (.tuple #[.string D0, .int .i64 E0]) W))
  (C1 : Hid (∀ W, Ct 62 #[.float .f64 y, .int .i64 c] (.tuple #[.string D, .int .i64 E]) W))
  (CE : Hid (∀ W, Ct 63 #[.string D, .int .i64 E] (.string P) W))
  (hP : Hid (P.size ≤ 20000)) (hG : Hid (G.size ≤ 10)) (hS : G ++ P = S)
  (CW : Hid (∀ W, Ct 38 #[.string S] (.string F) W)) :
  Ct 22 #[.float .f64 x, .int .i64 d] (.tuple #[.string F, .int .i64 0]) w := by
 have g1 : ¬ 9223372036854775807 < G.size + P.size := by have := hP.out; have := hG.out; omega
 have k1 : 0 ≤ d := by omega
 have k2 : ¬ d < -1 := by omega
 go_enter Tryz.func22, Tryz.ntmps22
 go_wp2_with fail
 refine (CN.out _).mono ?_
 rintro e w' ⟨rfl, rfl⟩
 go_wp2_with fail
 refine (CI.out _).mono ?_
 rintro e w' ⟨rfl, rfl⟩
 go_wp2_with fail
 refine (CS.out _).mono ?_
 rintro e w' ⟨rfl, rfl⟩
 go_wp2_with fail
 refine (C0.out _).mono ?_
 rintro e w1 ⟨rfl, b2⟩
 have W1 := Lib.hid (b2)
 clear b2
 go_wp2_with fail
 refine (C1.out _).mono ?_
 rintro e w2 ⟨rfl, b2⟩
 have W2 := Lib.hid (below_le W1.out b2)
 clear b2
 go_wp2_with fail
 refine (CE.out _).mono ?_
 rintro e w3 ⟨rfl, b2⟩
 have W3 := Lib.hid (below_le W2.out b2)
 clear b2
 go_wp2_with fail
 refine (CW.out _).mono ?_
 rintro e w9 ⟨rfl, b9⟩
 have B9 := Lib.hid (below_le W3.out b9)
 clear b9
 go_wp2
 go_ret2
 exact ⟨rfl, B9.out⟩
set_option maxHeartbeats 1000000 in
theorem yexp_zero (x y : Nat) (E : Int) (G D P S F : ByteArray) (w : World) (t2 : (FloatKind.f64.format.order y 0 == some .gt) = false)
  (CN : Hid (∀ W, Cq 34 #[.float .f64 x] (.bool false) W))
  (CI : Hid (∀ W, Cq 36 #[.float .f64 x, .int .i64 0] (.bool false) W))
  (CS : Hid (∀ W, Cq 61 #[.float .f64 x] (.tuple #[.string G, .float .f64 y]) W))
  (C0 : Hid (∀ W, Ct 62 #[.float .f64 y, .int .i64 1] (.tuple #[.string D, .int .i64 E]) W))
  (CE : Hid (∀ W, Ct 63 #[.string D, .int .i64 E] (.string P) W))
  (hP : Hid (P.size ≤ 20000)) (hG : Hid (G.size ≤ 10)) (hS : G ++ P = S)
  (CW : Hid (∀ W, Ct 38 #[.string S] (.string F) W)) :
  Ct 22 #[.float .f64 x, .int .i64 (-1)] (.tuple #[.string F, .int .i64 0]) w := by
 have g1 : ¬ 9223372036854775807 < G.size + P.size := by have := hP.out; have := hG.out; omega
 go_enter Tryz.func22, Tryz.ntmps22
 go_wp2_with fail
 refine (CN.out _).mono ?_
 rintro e w' ⟨rfl, rfl⟩
 go_wp2_with fail
 refine (CI.out _).mono ?_
 rintro e w' ⟨rfl, rfl⟩
 go_wp2_with fail
 refine (CS.out _).mono ?_
 rintro e w' ⟨rfl, rfl⟩
 go_wp2_with fail
 refine (C0.out _).mono ?_
 rintro e w1 ⟨rfl, b2⟩
 have W1 := Lib.hid (b2)
 clear b2
 go_wp2_with fail
 refine (CE.out _).mono ?_
 rintro e w3 ⟨rfl, b2⟩
 have W3 := Lib.hid (below_le W1.out b2)
 clear b2
 go_wp2_with fail
 refine (CW.out _).mono ?_
 rintro e w9 ⟨rfl, b9⟩
 have B9 := Lib.hid (below_le W3.out b9)
 clear b9
 go_wp2
 go_ret2
 exact ⟨rfl, B9.out⟩
set_option maxHeartbeats 1000000 in
theorem yexp_short (x y : Nat) (E0 N E : Int) (G D0 D P S F : ByteArray) (w : World) (t2 : (FloatKind.f64.format.order y 0 == some .gt) = true) (b1 : -1000 ≤ N) (b2' : N ≤ 1000) (hN : N - 1 = E)
  (CN : Hid (∀ W, Cq 34 #[.float .f64 x] (.bool false) W))
  (CI : Hid (∀ W, Cq 36 #[.float .f64 x, .int .i64 0] (.bool false) W))
  (CS : Hid (∀ W, Cq 61 #[.float .f64 x] (.tuple #[.string G, .float .f64 y]) W))
  (C0 : Hid (∀ W, Ct 62 #[.float .f64 y, .int .i64 1] (.tuple #[.string D0, .int .i64 E0]) W))
  (C1 : Hid (∀ W, Ct 42 #[.float .f64 y] (.tuple #[.string D, .int .i64 N]) W))
  (CE : Hid (∀ W, Ct 63 #[.string D, .int .i64 E] (.string P) W))
  (hP : Hid (P.size ≤ 20000)) (hG : Hid (G.size ≤ 10)) (hS : G ++ P = S)
  (CW : Hid (∀ W, Ct 38 #[.string S] (.string F) W)) :
  Ct 22 #[.float .f64 x, .int .i64 (-1)] (.tuple #[.string F, .int .i64 0]) w := by
 have g1 : ¬ 9223372036854775807 < G.size + P.size := by have := hP.out; have := hG.out; omega
 go_enter Tryz.func22, Tryz.ntmps22
 go_wp2_with fail
 refine (CN.out _).mono ?_
 rintro e w' ⟨rfl, rfl⟩
 go_wp2_with fail
 refine (CI.out _).mono ?_
 rintro e w' ⟨rfl, rfl⟩
 go_wp2_with fail
 refine (CS.out _).mono ?_
 rintro e w' ⟨rfl, rfl⟩
 go_wp2_with fail
 refine (C0.out _).mono ?_
 rintro e w1 ⟨rfl, b2⟩
 have W1 := Lib.hid (b2)
 clear b2
 go_wp2_with fail
 refine (C1.out _).mono ?_
 rintro e w2 ⟨rfl, b2⟩
 have W2 := Lib.hid (below_le W1.out b2)
 clear b2
 go_wp2_with fail
 refine (CE.out _).mono ?_
 rintro e w3 ⟨rfl, b2⟩
 have W3 := Lib.hid (below_le W2.out b2)
 clear b2
 go_wp2_with fail
 refine (CW.out _).mono ?_
 rintro e w9 ⟨rfl, b9⟩
 have B9 := Lib.hid (below_le W3.out b9)
 clear b9
 go_wp2
 go_ret2
 exact ⟨rfl, B9.out⟩
set_option maxHeartbeats 1000000 in
theorem yprec_low (x y k : Nat) (E : Int) (G D P S F : ByteArray) (w : World) (hk : 1 ≤ k) (hk2 : k ≤ 21) (hE : E < -6)
  (CN : Hid (∀ W, Cq 34 #[.float .f64 x] (.bool false) W))
  (CI : Hid (∀ W, Cq 36 #[.float .f64 x, .int .i64 0] (.bool false) W))
  (CS : Hid (∀ W, Cq 61 #[.float .f64 x] (.tuple #[.string G, .float .f64 y]) W))
  (C1 : Hid (∀ W, Ct 62 #[.float .f64 y, .int .i64 k] (.tuple #[.string D, .int .i64 E]) W))
  (CE : Hid (∀ W, Ct 63 #[.string D, .int .i64 E] (.string P) W))
  (hP : Hid (P.size ≤ 20000)) (hG : Hid (G.size ≤ 10)) (hS : G ++ P = S)
  (CW : Hid (∀ W, Ct 38 #[.string S] (.string F) W)) :
  Ct 24 #[.float .f64 x, .int .i64 k] (.tuple #[.string F, .int .i64 0]) w := by
 have g1 : ¬ 9223372036854775807 < G.size + P.size := by have := hP.out; have := hG.out; omega
 have k1 : ¬ (k : Int) < 1 := by omega
 have k2 : (k : Int) ≤ 21 := by omega
 go_enter Tryz.func24, Tryz.ntmps24
 go_wp2_with fail
 refine (CN.out _).mono ?_
 rintro e w' ⟨rfl, rfl⟩
 go_wp2_with fail
 refine (CI.out _).mono ?_
 rintro e w' ⟨rfl, rfl⟩
 go_wp2_with fail
 refine (CS.out _).mono ?_
 rintro e w' ⟨rfl, rfl⟩
 go_wp2_with fail
 refine (C1.out _).mono ?_
 rintro e w2 ⟨rfl, b2⟩
 have W2 := Lib.hid (b2)
 clear b2
 go_wp2_with fail
 refine (CE.out _).mono ?_
 rintro e w3 ⟨rfl, b2⟩
 have W3 := Lib.hid (below_le W2.out b2)
 clear b2
 go_wp2_with fail
 refine (CW.out _).mono ?_
 rintro e w9 ⟨rfl, b9⟩
 have B9 := Lib.hid (below_le W3.out b9)
 clear b9
 go_wp2
 go_ret2
 exact ⟨rfl, B9.out⟩
set_option maxHeartbeats 1000000 in
theorem yprec_high (x y k : Nat) (E : Int) (G D P S F : ByteArray) (w : World) (hk : 1 ≤ k) (hk2 : k ≤ 21) (hE : ¬ E < -6) (hE2 : (k : Int) ≤ E)
  (CN : Hid (∀ W, Cq 34 #[.float .f64 x] (.bool false) W))
  (CI : Hid (∀ W, Cq 36 #[.float .f64 x, .int .i64 0] (.bool false) W))
  (CS : Hid (∀ W, Cq 61 #[.float .f64 x] (.tuple #[.string G, .float .f64 y]) W))
  (C1 : Hid (∀ W, Ct 62 #[.float .f64 y, .int .i64 k] (.tuple #[.string D, .int .i64 E]) W))
  (CE : Hid (∀ W, Ct 63 #[.string D, .int .i64 E] (.string P) W))
  (hP : Hid (P.size ≤ 20000)) (hG : Hid (G.size ≤ 10)) (hS : G ++ P = S)
  (CW : Hid (∀ W, Ct 38 #[.string S] (.string F) W)) :
  Ct 24 #[.float .f64 x, .int .i64 k] (.tuple #[.string F, .int .i64 0]) w := by
 have g1 : ¬ 9223372036854775807 < G.size + P.size := by have := hP.out; have := hG.out; omega
 have k1 : ¬ (k : Int) < 1 := by omega
 have k2 : (k : Int) ≤ 21 := by omega
 go_enter Tryz.func24, Tryz.ntmps24
 go_wp2_with fail
 refine (CN.out _).mono ?_
 rintro e w' ⟨rfl, rfl⟩
 go_wp2_with fail
 refine (CI.out _).mono ?_
 rintro e w' ⟨rfl, rfl⟩
 go_wp2_with fail
 refine (CS.out _).mono ?_
 rintro e w' ⟨rfl, rfl⟩
 go_wp2_with fail
 refine (C1.out _).mono ?_
 rintro e w2 ⟨rfl, b2⟩
 have W2 := Lib.hid (b2)
 clear b2
 go_wp2_with fail
 refine (CE.out _).mono ?_
 rintro e w3 ⟨rfl, b2⟩
 have W3 := Lib.hid (below_le W2.out b2)
 clear b2
 go_wp2_with fail
 refine (CW.out _).mono ?_
 rintro e w9 ⟨rfl, b9⟩
 have B9 := Lib.hid (below_le W3.out b9)
 clear b9
 go_wp2
 go_ret2
 exact ⟨rfl, B9.out⟩
set_option maxHeartbeats 1000000 in
theorem yprec_same (x y k : Nat) (E : Int) (G P S F : ByteArray) (w : World) (hk : 1 ≤ k) (hk2 : k ≤ 21) (hE : E = (k : Int) - 1)
  (CN : Hid (∀ W, Cq 34 #[.float .f64 x] (.bool false) W))
  (CI : Hid (∀ W, Cq 36 #[.float .f64 x, .int .i64 0] (.bool false) W))
  (CS : Hid (∀ W, Cq 61 #[.float .f64 x] (.tuple #[.string G, .float .f64 y]) W))
  (C1 : Hid (∀ W, Ct 62 #[.float .f64 y, .int .i64 k] (.tuple #[.string P, .int .i64 E]) W))
  (hP : Hid (P.size ≤ 20000)) (hG : Hid (G.size ≤ 10)) (hS : G ++ P = S)
  (CW : Hid (∀ W, Ct 38 #[.string S] (.string F) W)) :
  Ct 24 #[.float .f64 x, .int .i64 k] (.tuple #[.string F, .int .i64 0]) w := by
 have g1 : ¬ 9223372036854775807 < G.size + P.size := by have := hP.out; have := hG.out; omega
 have k1 : ¬ (k : Int) < 1 := by omega
 have k2 : (k : Int) ≤ 21 := by omega
 have k3 : ¬ E < -6 := by omega
 have k4 : ¬ (k : Int) ≤ E := by omega
 have k5 : (E == (k : Int) - 1) = true := by rw [beq_iff_eq]; exact hE
 have k6 : -6 ≤ E := by omega
 have k7 : E ≤ 20 := by omega
 clear hE
 go_enter Tryz.func24, Tryz.ntmps24
 go_wp2_with fail
 refine (CN.out _).mono ?_
 rintro e w' ⟨rfl, rfl⟩
 go_wp2_with fail
 refine (CI.out _).mono ?_
 rintro e w' ⟨rfl, rfl⟩
 go_wp2_with fail
 refine (CS.out _).mono ?_
 rintro e w' ⟨rfl, rfl⟩
 go_wp2_with fail
 refine (C1.out _).mono ?_
 rintro e w2 ⟨rfl, b2⟩
 have W2 := Lib.hid (b2)
 clear b2
 go_wp2_with fail
 refine (CW.out _).mono ?_
 rintro e w9 ⟨rfl, b9⟩
 have B9 := Lib.hid (below_le W2.out b9)
 clear b9
 go_wp2
 go_ret2
 exact ⟨rfl, B9.out⟩
set_option maxHeartbeats 1000000 in
theorem yprec_mid (x y k j : Nat) (E : Int) (G D L M R P S F : ByteArray) (w : World) (hk : 1 ≤ k) (hk2 : k ≤ 21) (hj : E + 1 = (j : Int)) (hj0 : 0 < j) (hjk : j < k) (hD : D.size = k) (hL : D.extract 0 j = L) (hLs : Hid (L.size ≤ 1000)) (hM : L ++ ⟨#[46]⟩ = M) (hMs : Hid (M.size ≤ 1001)) (hR : D.extract j k = R) (hRs : Hid (R.size ≤ 1000)) (hPP : M ++ R = P)
  (CN : Hid (∀ W, Cq 34 #[.float .f64 x] (.bool false) W))
  (CI : Hid (∀ W, Cq 36 #[.float .f64 x, .int .i64 0] (.bool false) W))
  (CS : Hid (∀ W, Cq 61 #[.float .f64 x] (.tuple #[.string G, .float .f64 y]) W))
  (C1 : Hid (∀ W, Ct 62 #[.float .f64 y, .int .i64 k] (.tuple #[.string D, .int .i64 E]) W))
  (hP : Hid (P.size ≤ 20000)) (hG : Hid (G.size ≤ 10)) (hS : G ++ P = S)
  (CW : Hid (∀ W, Ct 38 #[.string S] (.string F) W)) :
  Ct 24 #[.float .f64 x, .int .i64 k] (.tuple #[.string F, .int .i64 0]) w := by
 have g1 : ¬ 9223372036854775807 < G.size + P.size := by have := hP.out; have := hG.out; omega
 have g2 : ¬ 9223372036854775807 < L.size + 1 := by have := hLs.out; omega
 have g3 : ¬ 9223372036854775807 < M.size + R.size := by have := hMs.out; have := hRs.out; omega
 have k1 : ¬ (k : Int) < 1 := by omega
 have k2 : (k : Int) ≤ 21 := by omega
 have k3 : ¬ E < -6 := by omega
 have k4 : ¬ (k : Int) ≤ E := by omega
 have k5 : (E == (k : Int) - 1) = false := by rw [beq_eq_false_iff_ne]; omega
 have k6 : 0 ≤ E := by omega
 have k7 : E ≤ 20 := by omega
 have k8 : (j : Int) ≤ (k : Int) := by omega
 have k9 : IntKind.i64.wrap (E + 1) = (j : Int) := by rw [hj]; exact IntWalk.i64_in _ (by omega)
 have kA : (0 : Int) ≤ (j : Int) := by omega
 go_enter Tryz.func24, Tryz.ntmps24
 go_wp2_with fail
 refine (CN.out _).mono ?_
 rintro e w' ⟨rfl, rfl⟩
 go_wp2_with fail
 refine (CI.out _).mono ?_
 rintro e w' ⟨rfl, rfl⟩
 go_wp2_with fail
 refine (CS.out _).mono ?_
 rintro e w' ⟨rfl, rfl⟩
 go_wp2_with fail
 refine (C1.out _).mono ?_
 rintro e w2 ⟨rfl, b2⟩
 have W2 := Lib.hid (b2)
 clear b2
 go_wp2_with fail
 clear hLs hMs hRs hj0 hjk
 go_quiet (fail)
 go_wp2_with fail
 refine (CW.out _).mono ?_
 rintro e w9 ⟨rfl, b9⟩
 have B9 := Lib.hid (below_le (below_drewN' W2.out _) b9)
 clear b9
 go_wp2
 go_ret2
 exact ⟨rfl, B9.out⟩
set_option maxHeartbeats 1000000 in
theorem yprec_nought (x y k z : Nat) (E : Int) (G D Z M P S F : ByteArray) (w : World) (hk : 1 ≤ k) (hk2 : k ≤ 21) (h0 : E < 0) (h6 : -6 ≤ E) (hz : -E - 1 = (z : Int)) (hZ : Hid (Z.size ≤ 1000)) (hM : ⟨#[48, 46]⟩ ++ Z = M) (hMs : Hid (M.size ≤ 1002)) (hDs : Hid (D.size ≤ 1000)) (hPP : M ++ D = P)
  (CN : Hid (∀ W, Cq 34 #[.float .f64 x] (.bool false) W))
  (CI : Hid (∀ W, Cq 36 #[.float .f64 x, .int .i64 0] (.bool false) W))
  (CS : Hid (∀ W, Cq 61 #[.float .f64 x] (.tuple #[.string G, .float .f64 y]) W))
  (C1 : Hid (∀ W, Ct 62 #[.float .f64 y, .int .i64 k] (.tuple #[.string D, .int .i64 E]) W))
  (CR : Hid (∀ W, Cq 65 #[.int .i64 z] (.string Z) W))
  (hP : Hid (P.size ≤ 20000)) (hG : Hid (G.size ≤ 10)) (hS : G ++ P = S)
  (CW : Hid (∀ W, Ct 38 #[.string S] (.string F) W)) :
  Ct 24 #[.float .f64 x, .int .i64 k] (.tuple #[.string F, .int .i64 0]) w := by
 have g1 : ¬ 9223372036854775807 < G.size + P.size := by have := hP.out; have := hG.out; omega
 have g2 : ¬ 9223372036854775807 < 2 + Z.size := by have := hZ.out; omega
 have g3 : ¬ 9223372036854775807 < M.size + D.size := by have := hMs.out; have := hDs.out; omega
 have k1 : ¬ (k : Int) < 1 := by omega
 have k2 : (k : Int) ≤ 21 := by omega
 have k3 : ¬ E < -6 := by omega
 have k4 : ¬ (k : Int) ≤ E := by omega
 have k5 : (E == (k : Int) - 1) = false := by rw [beq_eq_false_iff_ne]; omega
 have k6 : ¬ 0 ≤ E := by omega
 go_enter Tryz.func24, Tryz.ntmps24
 go_wp2_with fail
 refine (CN.out _).mono ?_
 rintro e w' ⟨rfl, rfl⟩
 go_wp2_with fail
 refine (CI.out _).mono ?_
 rintro e w' ⟨rfl, rfl⟩
 go_wp2_with fail
 refine (CS.out _).mono ?_
 rintro e w' ⟨rfl, rfl⟩
 go_wp2_with fail
 refine (C1.out _).mono ?_
 rintro e w2 ⟨rfl, b2⟩
 have W2 := Lib.hid (b2)
 clear b2
 go_wp2_with fail
 refine (CR.out _).mono ?_
 rintro e w' ⟨rfl, rfl⟩
 go_wp2_with fail
 refine (CW.out _).mono ?_
 rintro e w9 ⟨rfl, b9⟩
 have B9 := Lib.hid (below_le W2.out b9)
 clear b9
 go_wp2
 go_ret2
 exact ⟨rfl, B9.out⟩

end Go.Proofs.YtfcpkdafkmohkaaGreatDoor
namespace Go.Proofs.YtfcpkdafkmohkaaGreatDoor
open Go.RowKit
theorem sgx_size (x : Nat) : (strOf (sgx x)).size ≤ 10 := by
 rw [strOf_size]
 unfold sgx
 split <;> simp
theorem sg_app (x : Nat) (l : List Nat) : strOf (sgx x) ++ strOf l = strOf (sgx x ++ l) := strOf_append _ _
theorem sgx_bd (x : Nat) {l : List Nat} (h : ∀ c ∈ l, c < 256) : (∀ c ∈ sgx x ++ l, c < 256) ∧ (sgx x ++ l).length ≤ l.length + 1 := by
 unfold sgx
 split
 ·refine ⟨?_, by simp⟩
  intro c hc
  rcases List.mem_cons.1 hc with rfl | hc
  ·omega
  ·exact h c hc
 ·exact ⟨by simpa using h, by simp⟩
theorem SgQ.text {T : Nat → List Nat → Prop} {x : Nat} {L : List Nat} (h : SgQ T x L) (hb : fnan x = true ∨ finf x = true) : TxQ x L := by
 rcases h with ⟨h1, h2⟩ | ⟨h1, h2, h3⟩ | ⟨h1, h2, l, h3, h4⟩
 ·exact .inl ⟨h1, h2⟩
 ·exact .inr (.inl ⟨h1, h2, h3⟩)
 ·rcases hb with hb | hb
  ·rw [h1] at hb; cases hb
  ·rw [h2] at hb; cases hb
theorem SgQ.fin {T : Nat → List Nat → Prop} {x : Nat} {L : List Nat} (h : SgQ T x L) (h1 : fnan x = false) (h2 : finf x = false) : ∃ l, T (rung x) l ∧ L = sgx x ++ l := by
 rcases h with ⟨h3, _⟩ | ⟨_, h3, _⟩ | ⟨_, _, l, h3, h4⟩
 ·rw [h1] at h3; cases h3
 ·rw [h2] at h3; cases h3
 ·exact ⟨l, h3, h4⟩
theorem amt_gt {x y : Nat} (hf : rung x < 9218868437227405312) (hy : AmtOf x y) : (FloatKind.f64.format.order y 0 == some .gt) = decide (0 < rung x) := by
 rcases hy with rfl | ⟨h0, rfl⟩
 ·exact ord_gt_pos (by omega) (by omega)
 ·rw [h0, show FloatKind.f64.format.order y 0 = Ieee.double.order y 0 from rfl, order_eq (by omega) (by decide), (frank_pos (x := 0) (by omega)).1]
  have : frank y = 0 := by
   unfold frank
   rw [h0]
   split <;> rfl
  rw [this]
  rfl
theorem dg_256 {D : List Nat} (h : ∀ c ∈ D, dg10 c = true) : ∀ c ∈ D, c < 256 := fun c hc => by
 have := dg10_iff.1 (h c hc)
 omega
theorem yExponential_any {x : Nat} {d : Int} {S : ByteArray} {K : Int} {w : World} (hx : x < 18446744073709551616) (h : DgR (ExP d) x (d < -1 ∨ 20 < d) S K) :
  Ct 22 #[.float .f64 x, .int .i64 d] (.tuple #[.string S, .int .i64 K]) w := by
 have CN := fun W => isNaN_any x W
 have CI := fun W => isInf0_any x W hx
 rcases h with ⟨hd, rfl, rfl⟩ | ⟨hd, rfl, L, rfl, hL⟩
 ·refine (yExponential_bad x d w hd).mono ?_
  rintro e w' ⟨rfl, rfl⟩
  exact ⟨rfl, Below.refl _ _⟩
 cases h1 : fnan x
 ·rw [h1] at CN
  cases h2 : finf x
  ·rw [h2] at CI
   obtain ⟨l, hl, rfl⟩ := hL.fin h1 h2
   have hf := fin_rung h1 h2
   obtain ⟨y, hy, hy0, CS⟩ := ysigned_any x hx h1
   have hbd := hl.bd (by omega) hf
   obtain ⟨s1, s2⟩ := sgx_bd x hbd.1
   have CW := Lib.hid (fun W => vwide_any (sgx x ++ l) W s1 (by omega))
   have hP : Hid ((strOf l).size ≤ 20000) := Lib.hid (by rw [strOf_size]; omega)
   have hg := amt_gt hf hy
   obtain ⟨D0, E0, hq0⟩ := ldq_ex (count := 1) hf
   have C0 : Hid (∀ W, Ct 62 #[.float .f64 y, .int .i64 1] (.tuple #[.string (strOf D0), .int .i64 E0]) W) := Lib.hid fun W => yplaces_amt (count := 1) hf hy (by omega) (by omega) hq0
   rcases hl with ⟨k1, k2, D, N, hq, rfl⟩ | ⟨k1, D, E, hq, rfl⟩
   ·have hd1 : d = -1 := by omega
    subst hd1
    obtain ⟨b1, b2, b3, b4, b5⟩ := hq.bd k2 hf
    have hyr := hy0 k2
    subst hyr
    rw [decide_eq_true k2] at hg
    exact yexp_short x _ E0 N (N - 1) _ _ _ _ _ _ w hg (by omega) (by omega) rfl (Lib.hid CN) (Lib.hid CI) (Lib.hid CS) C0 (Lib.hid fun W => yDigits_is k2 hf hq) (Lib.hid fun W => yexponent_any D (N - 1) W b5 b3 (by omega) (by omega) (by omega)) hP (Lib.hid (sgx_size x)) (sg_app x _) CW
   ·obtain ⟨e1, e2, e3, e4⟩ := hq.len (by omega)
    have CE := Lib.hid (fun W => yexponent_any D E W (dg_256 e2) (by omega) (by omega) (by omega) (by omega))
    by_cases hn : d < 0
    ·have hd1 : d = -1 := by omega
     subst hd1
     have hr0 : ¬ 0 < rung x := fun k => k1 ⟨hn, k⟩
     rw [decide_eq_false hr0] at hg
     obtain ⟨rfl, rfl⟩ := hq.one hq0
     exact yexp_zero x y E _ _ _ _ _ w hg (Lib.hid CN) (Lib.hid CI) (Lib.hid CS) C0 CE hP (Lib.hid (sgx_size x)) (sg_app x _) CW
    ·have C1 : Hid (∀ W, Ct 62 #[.float .f64 y, .int .i64 ((d.toNat + 1 : Nat) : Int)] (.tuple #[.string (strOf D), .int .i64 E]) W) := Lib.hid fun W => yplaces_amt hf hy (by omega) (by omega) hq
     exact yexp_lead x y (d.toNat + 1) E0 E d _ _ _ _ _ _ w hn (by omega) (by omega) (Lib.hid CN) (Lib.hid CI) (Lib.hid CS) C0 C1 CE hP (Lib.hid (sgx_size x)) (sg_app x _) CW
  ·rw [h2] at CI
   exact yExponential_inf x d _ w (by omega) (by omega) (Lib.hid CN) (Lib.hid CI) (Lib.hid fun W => yText_any hx (hL.text (.inr h2)))
 ·rw [h1] at CN
  exact yExponential_nan x d _ w (by omega) (by omega) (Lib.hid CN) (Lib.hid fun W => yText_any hx (hL.text (.inl h1)))
theorem yPrecision_any {x : Nat} {d : Int} {S : ByteArray} {K : Int} {w : World} (hx : x < 18446744073709551616) (h : DgR (PrP d.toNat) x (d < 1 ∨ 21 < d) S K) :
  Ct 24 #[.float .f64 x, .int .i64 d] (.tuple #[.string S, .int .i64 K]) w := by
 have CN := fun W => isNaN_any x W
 have CI := fun W => isInf0_any x W hx
 rcases h with ⟨hd, rfl, rfl⟩ | ⟨hd, rfl, L, rfl, hL⟩
 ·refine (yPrecision_bad x d w hd).mono ?_
  rintro e w' ⟨rfl, rfl⟩
  exact ⟨rfl, Below.refl _ _⟩
 cases h1 : fnan x
 ·rw [h1] at CN
  cases h2 : finf x
  ·rw [h2] at CI
   obtain ⟨k, rfl⟩ : ∃ k : Nat, d = (k : Int) := ⟨d.toNat, by omega⟩
   rw [Int.toNat_natCast] at hL
   obtain ⟨l, hl, rfl⟩ := hL.fin h1 h2
   have hf := fin_rung h1 h2
   obtain ⟨y, hy, hy0, CS⟩ := ysigned_any x hx h1
   have hbd := hl.bd (by omega) (by omega)
   obtain ⟨s1, s2⟩ := sgx_bd x hbd.1
   have CW := Lib.hid (fun W => vwide_any (sgx x ++ l) W s1 (by omega))
   have hP : Hid ((strOf l).size ≤ 20000) := Lib.hid (by rw [strOf_size]; omega)
   obtain ⟨D, E, hq, hle⟩ := hl
   obtain ⟨e1, e2, e3, e4⟩ := hq.len (by omega)
   have C1 : Hid (∀ W, Ct 62 #[.float .f64 y, .int .i64 (k : Int)] (.tuple #[.string (strOf D), .int .i64 E]) W) := Lib.hid fun W => yplaces_amt hf hy (by omega) (by omega) hq
   have CE := Lib.hid (fun W => yexponent_any D E W (dg_256 e2) (by omega) (by omega) (by omega) (by omega))
   have hb := bl_strOf (dg_256 e2)
   have hsz := strOf_size D
   by_cases h6 : E < -6
   ·rw [if_pos (.inl h6)] at hle
    subst hle
    exact yprec_low x y k E _ _ _ _ _ w (by omega) (by omega) h6 (Lib.hid CN) (Lib.hid CI) (Lib.hid CS) C1 CE hP (Lib.hid (sgx_size x)) (sg_app x _) CW
   ·by_cases h7 : (k : Int) ≤ E
    ·rw [if_pos (.inr h7)] at hle
     subst hle
     exact yprec_high x y k E _ _ _ _ _ w (by omega) (by omega) h6 h7 (Lib.hid CN) (Lib.hid CI) (Lib.hid CS) C1 CE hP (Lib.hid (sgx_size x)) (sg_app x _) CW
    ·rw [if_neg (by omega)] at hle
     by_cases h8 : E = (k : Int) - 1
     ·rw [show ((k : Int) - 1 - E).toNat = 0 by omega] at hle
      have : l = D := by rw [hle]; unfold ptL; rw [if_pos rfl]
      subst this
      exact yprec_same x y k E _ _ _ _ w (by omega) (by omega) h8 (Lib.hid CN) (Lib.hid CI) (Lib.hid CS) C1 hP (Lib.hid (sgx_size x)) (sg_app x _) CW
     ·by_cases h9 : 0 ≤ E
      ·obtain ⟨j, hj⟩ : ∃ j : Nat, E + 1 = (j : Int) := ⟨(E + 1).toNat, by omega⟩
       rw [show ((k : Int) - 1 - E).toNat = D.length - j by omega, pt_in (by omega) (by omega)] at hle
       refine yprec_mid x y k j E _ (strOf D) (strOf (D.take j)) (strOf (D.take j ++ [46])) (strOf (D.drop j)) (strOf l) _ _ w (by omega) (by omega) hj (by omega) (by omega) (by rw [hsz, e1]) (by rw [ext_take, hb]) (Lib.hid (by rw [strOf_size, List.length_take]; omega)) (by rw [dot_str, strOf_append]) (Lib.hid (by rw [strOf_size, List.length_append, List.length_take, List.length_singleton]; omega)) (by rw [← e1, ← hsz, ext_drop, hb]) (Lib.hid (by rw [strOf_size, List.length_drop]; omega)) ?_ (Lib.hid CN) (Lib.hid CI) (Lib.hid CS) C1 hP (Lib.hid (sgx_size x)) (sg_app x _) CW
       rw [hle, strOf_append, List.append_assoc, List.singleton_append]
      ·obtain ⟨z, hz⟩ : ∃ z : Nat, -E - 1 = (z : Int) := ⟨(-E - 1).toNat, by omega⟩
       rw [show ((k : Int) - 1 - E).toNat = D.length + z by omega, pt_out D z (by omega)] at hle
       refine yprec_nought x y k z E _ (strOf D) (strOf (List.replicate z 48)) (strOf (48 :: 46 :: List.replicate z 48)) (strOf l) _ _ w (by omega) (by omega) (by omega) (by omega) hz (Lib.hid (by rw [strOf_size, List.length_replicate]; omega)) ?_ (Lib.hid (by rw [strOf_size, List.length_cons, List.length_cons, List.length_replicate]; omega)) (Lib.hid (by rw [hsz]; omega)) ?_ (Lib.hid CN) (Lib.hid CI) (Lib.hid CS) C1 (Lib.hid fun W => (ynoughts_any _ W (by omega)).mono fun e w' h => ⟨h.1, h.2⟩) hP (Lib.hid (sgx_size x)) (sg_app x _) CW
       ·rw [show (⟨#[48, 46]⟩ : ByteArray) = strOf [48, 46] from rfl, strOf_append]; rfl
       ·rw [hle, strOf_append]; rfl
  ·rw [h2] at CI
   exact yPrecision_inf x d _ w (by omega) (by omega) (Lib.hid CN) (Lib.hid CI) (Lib.hid fun W => yText_any hx (hL.text (.inr h2)))
 ·rw [h1] at CN
  exact yPrecision_nan x d _ w (by omega) (by omega) (Lib.hid CN) (Lib.hid fun W => yText_any hx (hL.text (.inl h1)))
set_option maxRecDepth 100000 in
set_option maxHeartbeats 1000000 in
theorem exponents_any (x : Nat) (d : Int) (w : World) (hx : x < 18446744073709551616) (ht : Tab10 w) (hz : TzTab w) :
  Ct 6 #[.float .f64 x, .int .i64 d] (.bool true) w := by
 obtain ⟨S, K, hs⟩ : ∃ S K, DgR (ExP d) x (d < -1 ∨ 20 < d) S K := dgr_ex x _ (fun r hr => exp_ex d hr)
 obtain ⟨T, J, ht'⟩ : ∃ S K, DgR (PrP d.toNat) x (d < 1 ∨ 21 < d) S K := dgr_ex x _ (fun r hr => prp_ex d.toNat hr)
 have C1 := Lib.hid (fun W (hW : W = w) => tExponential_any (w := W) hx (hW ▸ ht) (hW ▸ hz) hs)
 have C2 := Lib.hid (fun W => yExponential_any (w := W) hx hs)
 have C3 := Lib.hid (fun W (h : Below w.heap.size w W) => tPrecision_any (w := W) hx (ht.on h) (tz_on hz h) ht')
 have C4 := Lib.hid (fun W => yPrecision_any (w := W) hx ht')
 have C6 := Lib.hid (fun W (h : Below w.heap.size w W) => awake_any W (ht.on h) (tz_on hz h))
 clear hx ht hz hs ht'
 go_enter Tryz.func6, Tryz.ntmps6
 go_wp2_with fail
 refine (C1.out _ rfl).mono ?_
 rintro e w1 ⟨rfl, b1⟩
 have B1 := Lib.hid b1
 clear b1
 go_wp2_with fail
 refine (C2.out _).mono ?_
 rintro e w2 ⟨rfl, b2⟩
 have B2 := Lib.hid (below_le B1.out b2)
 clear b2
 go_wp2_with fail
 refine (C3.out _ B2.out).mono ?_
 rintro e w3 ⟨rfl, b3⟩
 have B3 := Lib.hid (below_le B2.out b3)
 clear b3
 go_wp2_with fail
 refine (C4.out _).mono ?_
 rintro e w4 ⟨rfl, b4⟩
 have B4 := Lib.hid (below_le B3.out b4)
 clear b4
 go_wp2_with fail
 refine (C6.out _ B4.out).mono ?_
 rintro e w5 ⟨rfl, b5⟩
 have B5 := Lib.hid (below_le B4.out b5)
 clear b5
 go_wp2
 go_ret
 exact ⟨rfl, B5.out⟩

end Go.Proofs.YtfcpkdafkmohkaaGreatDoor
